/-
  Joined: Layer 3: the walks of frame.length, frame.first, frame.Get. · Layer 3: the walks of firkinref03.Get, of the law's example, and of the law FramePuts. · Slices of slices of bytes that the call owns (Owns), and the steps that append one slice, or one value of one cell, to a row of the call's own. · Slices of one-celled elements of any type: what one reads as (Vs), a row of the call's own (Ow), and the steps over them: append of one, append of many, make, copy, cuts. · Layer 4: the walks of bitv.need, bitv.Pack, firkinref04.Pack. · Layer 4: the walks of bitv.Unpack, firkinref04.Unpack. · Layer 4: the walks of bitv.Count, Places, Or, the document's Places, Or, Same, Ints. · Layer 14: which rows are gone as bytes, and read again: both programs. · Layer 14: the document's Put and Get. · Slices of cells: what one reads as (Cs), a row of the call's own (Oc), and the steps over them. · Slices that are the call's own, or full (none of their room is left): s[:k:k], and what is appended behind them, which never lies over what was there. · Rows: slices of slices of cells: what one reads as (Rs), one of the call's own (Ro), and the steps over them; a cell appended, the new row in the old block or in a new one. · Layer 14: the rows that are left: the document's; the example. · Layer 14: the example; the walks of the laws. · Layer 14: the walks of the laws on what is put, and on what is got. · The frame of a law's proof, for any parameters: where the call returned true and turned nothing that was there, the row's words hold. · Arguments of layer 2's laws, opened: a number of 32 bits, four bytes by value, a slice of slices of bytes; and the table that the program lays. · Arguments opened: a slice of one-celled elements of any type; of truths; of whole numbers.
-/
import Derived.Lib.Zigzag
import Derived.Laws.Rows
import Derived.Laws.ResultCell
import Derived.BigFrame
import Derived.Deep.RegionWith
import Derived.Deep.RegionHeld3
import Derived.Deep.QuietTactic
import Derived.Test.YtdofgniemkahnaaDoorZ1
import Derived.BigQuiet
import Derived.Laws.CopyOwn
import Derived.Laws.OwnMore
import Derived.ArgAppend
import Derived.Deep.Upon
import Derived.Deep.DeepAppendRoom
import Derived.Test.YtdofgniemkahnaaDoorRows
import Derived.ProofKit
import Derived.OpenShut
import Derived.ShutString
import Derived.ChangeOld
import Derived.Below
import Derived.Deep.Matrix
import Derived.LaidMore
import Derived.Lib.LaidTab
import Derived.Laws.IdiomArrays
import Derived.Lib.SmallJoins
import Derived.Deep.Slices

namespace Go.Proofs.YtdofgniemkahnaaDoor
set_option linter.unusedVariables false
set_option linter.unusedSimpArgs false
set_option maxRecDepth 100000
open Go.RowKit

theorem ret_two {v : Value} {k : IntKind} {a b : Int} (h : a = b) : Ending.returned (.tuple #[v, .int k a]) = .returned (.tuple #[v, .int k b]) := by rw [h]
theorem Bs.drewN {w : World} {v : Value} {l : List UInt8} (h : Bs w v l) (n : Nat) : Bs (w.drewN n) v l := h
theorem Tab.drewN {w : World} (h : Tab w) (n : Nat) : Tab (w.drewN n) := h
theorem ret_three {v : Value} {k j : IntKind} {a b c d : Int} (h : a = b) (h2 : c = d) : Ending.returned (.tuple #[v, .int k a, .int j c]) = .returned (.tuple #[v, .int k b, .int j d]) := by rw [h, h2]
/-- a slice's beginning -/
theorem Bs.pre {w : World} {A : Option Addr} {n c k : Nat} {l : List UInt8} (h : Bs w (.slice A n c) l) (hk : k ≤ n) : Bs w (.slice A k c) (l.take k) := by
  obtain ⟨A0, c0, he, h1, h2, h3⟩ := h
  simp only [Value.slice.injEq] at he
  obtain ⟨rfl, rfl, rfl⟩ := he
  have hl : (l.take k).length = k := by rw [List.length_take]; omega
  refine ⟨A, c, by rw [hl], by rw [hl]; omega, h2, fun a ha j hj => ?_⟩
  rw [h3 a ha j (by rw [hl] at hj; omega)]
  simp

set_option maxHeartbeats 1000000 in
theorem flength_any (v : Value) (l : List UInt8) (w : World) (hv : Bs w v l) (hl : l.length ≤ 9223372036854775807) :
    Calls Tryd.prog 52 #[v] w fun e w' => e = .returned (.tuple #[.int .i64 (hN l), .int .i64 (hS l)]) ∧ Fr Non w w' := by
  have HB := Lib.hid hv
  obtain ⟨A, c, rfl, hlc, _⟩ := hv
  have h0 : Calls Tryd.prog 21 #[.int .u64 1048576] w _ := vnum_any 1048576 w (by unfold two64; omega)
  have H3 := Lib.hid (head3 l)
  have HL := Lib.hid (min3 l)
  have key : ∀ (w1 : World) (n : Nat), n = (l.take 3).length → Fr Non w w1 → Bs w1 (.slice A n c) (l.take 3) := by
    intro w1 n hn hf
    subst hn
    rw [HL.out]
    have := (HB.out.non hf).pre (k := min l.length 3) (by omega)
    rwa [List.take_eq_take_iff.2 (show min (min l.length 3) l.length = min 3 l.length by omega)] at this
  have HK := Lib.hid key
  clear key
  have HA := Lib.hid (fun (W : World) o => (Fr.refl Non W).alloc o)
  have goal2 : ∀ n : Nat, n = (l.take 3).length → (n = 3 ∧ 3 < l.length ∨ n = l.length ∧ ¬ 3 < l.length) → Calls Tryd.prog 52 #[.slice A l.length c] w fun e w' => e = .returned (.tuple #[.int .i64 (hN l), .int .i64 (hS l)]) ∧ Fr Non w w' := by
    intro n hn hc
    have HN := Lib.hid hn
    clear hn
    rcases hc with ⟨rfl, h3⟩ | ⟨rfl, h3⟩
    all_goals
      go_enter Tryd.func52, Tryd.ntmps52
      go_wp2_with fail
      refine h0.mono ?_
      rintro e w1 ⟨v1, rfl, hown1, hfr1⟩
      obtain ⟨A1, c1, rfl⟩ := hown1.bs.shape
      rw [uv_big20]
      have HF1 := Lib.hid hfr1
      clear hown1 hfr1 h0
      have h3' : (3 : Int) < l.length ∨ ¬ (3 : Int) < l.length := by omega
      go_wp2_with fail
      refine (from_any _ (l.take 3) w1 (HK.out _ _ (by first | exact HN.out | (rw [List.length_take]; omega)) HF1.out)).mono ?_
      rintro e w2 ⟨rfl, hs2, hf2⟩
      go_wp2_with fail
      refine (below_any w1.heap.size (l.take 3) false 1048577 w2 hs2 (by omega)).mono ?_
      rintro e w3 ⟨rfl, hs3, hf3⟩
      have hf : Fr Non w w3 := (HF1.out.trans hf2).fresh hf3 (fun k hk => by have e : k = w1.heap.size := hk; have := HF1.out.size; omega)
      have HF := Lib.hid hf
      clear hf hf2 hf3 hs2
      rw [show (1048577 : Int) - 1 = 1048576 by omega] at hs3 ⊢
      have HS := Lib.hid hs3
      go_wp2_with fail
      refine (ok_any _ _ _ w3 HS.out).mono ?_
      rintro e w4 ⟨rfl, rfl⟩
      rcases H3.out with ⟨e1, e2, e3⟩ | ⟨e1, e2, e3, e4⟩
      · rw [e1]
        have HE := Lib.hid (And.intro e2 e3)
        clear e2 e3 e1
        go_wp2_with fail
        go_ret2
        rw [HE.out.1, HE.out.2]
        exact ⟨rfl, HF.out⟩
      · rw [e1, e2]
        have HE := Lib.hid (And.intro e3 HN.out)
        clear e2 e3 e4 e1
        generalize hs2 : hS l = s at *
        generalize hm2 : hN l = m at *
        have HS2 := Lib.hid hs2
        have HM2 := Lib.hid hm2
        clear hs2 hm2
        go_wp2_with fail
        refine (left_any _ _ _ w3 HS.out).mono ?_
        rintro e w5 ⟨rfl, rfl⟩
        have HQ : Hid (_ = s + (mostR (l.take 3) 1048576).length) := Lib.hid (HE.out.2.trans HE.out.1)
        clear HE HS hs3
        generalize (mostR (l.take 3) 1048576).length = r at *
        have hb : r ≤ l.length := by have := HQ.out; have := min3 l; omega
        go_wp2_with fail
        go_ret2
        refine ⟨?_, HF.out⟩
        rw [HM2.out, HS2.out]
        refine ret_two ?_
        have := HQ.out; omega
  by_cases h3 : 3 < l.length
  · exact goal2 3 (by rw [HL.out]; omega) (.inl ⟨rfl, h3⟩)
  · exact goal2 l.length (by rw [HL.out]; omega) (.inr ⟨rfl, h3⟩)
theorem slice_lh (A : Option Addr) (n c k m : Nat) (kl kh : IntKind) (z y : Int) (hz : z = (k : Int)) (hy : y = (m : Int)) (hk : k ≤ m) (hm : m ≤ n) (hn : n ≤ c) :
    ∃ A' c', (∀ W, (Instr.slice 24 (.slice A n c) (some (.int kl z)) (some (.int kh y)) none).run Tryd.prog W = .ok (.slice A' (m - k) c') W) ∧
      (∀ W l, l.length = n → Bs W (.slice A n c) l → Bs W (.slice A' (m - k) c') ((l.drop k).take (m - k))) ∧ (Value.slice A' (m - k) c').ownBlock = (Value.slice A n c).ownBlock := by
  subst hz hy
  refine ⟨if c = k then A else A.map (·.add k), c - k, fun W => ?_, ?_, ?_⟩
  · rw [run_slice_any W 24 A n c Tryd.underlying24]
    have hb : (Instr.sliceBounds true n c (some (.int kl (k : Int))) (some (.int kh (m : Int))) none).run Tryd.prog W = .ok (k, m, c) W := by
      simp [Instr.sliceBounds, run_sliceBound, hk, show m ≤ c by omega]
    rw [hb]
    simp only [Result.andThen_ok, sz_u8]
    simp [sliced]
  · rintro W l hl ⟨A0, c0, he, h1, h2, h3⟩
    simp only [Value.slice.injEq] at he
    obtain ⟨rfl, hl', rfl⟩ := he
    have hlen : ((l.drop k).take (m - k)).length = m - k := by rw [List.length_take, List.length_drop]; omega
    refine ⟨if c = k then A else A.map (·.add k), c - k, by rw [hlen], by rw [hlen]; omega, fun e => ?_, fun a ha j hj => ?_⟩
    · split at e
      · have := h2 e; omega
      · have := h2 (by simpa using e); omega
    · rw [hlen] at hj
      rw [if_neg (by omega)] at ha
      cases A with
      | none => cases ha
      | some b =>
        obtain rfl : b.add k = a := by simpa using ha
        rw [add_add, h3 b rfl (k + j) (by omega)]
        simp
  · split
    · cases A <;> rfl
    · cases A <;> simp [Value.ownBlock, add_block]

set_option maxHeartbeats 1000000 in
theorem ffirst_any (v : Value) (l : List UInt8) (w : World) (hv : Bs w v l) (ht : Tab w) (hl : l.length < 1099511627776) :
    Calls Tryd.prog 38 #[v] w fun e w' => ∃ u, e = .returned (.tuple #[u, .int .i64 (gN l), .int .i64 (gE l)]) ∧ Bs w' u (gB l) ∧ Fr Non w w' ∧ ∀ k, u.ownBlock = some k → v.ownBlock = some k := by
  have HB := Lib.hid hv
  have HT := Lib.hid ht
  obtain ⟨A, c, rfl, hlc, _⟩ := hv
  clear ht
  have h0 := flength_any _ l w HB.out (by omega)
  have hs0 := hS_le l
  have hn0 := hN_le l
  by_cases hf : fits l = true
  · have hb := of_decide_eq_true (show decide (hS l ≠ 0 ∧ hS l + 4 + hN l ≤ l.length) = true from hf)
    have HF := Lib.hid hf
    have HGB : Hid (bodyF l = (l.drop (hS l + 4)).take (hN l)) := Lib.hid rfl
    have HGS : Hid (sumOk l = ((l.drop (hS l)).take 4 == sum4 (sumOf 0 (bodyF l)))) := Lib.hid rfl
    clear hf
    generalize hs2 : hS l = s at *
    generalize hm2 : hN l = m at *
    have HS2 := Lib.hid hs2
    have HM2 := Lib.hid hm2
    clear hs2 hm2
    obtain ⟨A1, c1, hrun1, hbs1, how1⟩ := slice_lh A l.length c (s + 4) (s + 4 + m) .i64 .i64 ((s : Int) + 4) ((s : Int) + 4 + m) (by omega) (by omega) (by omega) (by omega) hlc
    obtain ⟨ad, rfl⟩ : ∃ ad, A = some ad := by
      cases A with
      | some ad => exact ⟨ad, rfl⟩
      | none =>
        obtain ⟨_, _, he, h1, h2, _⟩ := HB.out
        simp only [Value.slice.injEq] at he
        obtain ⟨rfl, _, rfl⟩ := he
        have := h2 rfl
        omega
    have hbs2 : ∀ W, Bs W (.slice (some ad) l.length c) l → Bs W (.slice (some (ad.add s)) 4 (c - s)) ((l.drop s).take 4) := by
      rintro W ⟨A0, c0, he, h1, h2, h3⟩
      simp only [Value.slice.injEq] at he
      obtain ⟨rfl, hl', rfl⟩ := he
      have hlen : ((l.drop s).take 4).length = 4 := by rw [List.length_take, List.length_drop]; omega
      refine ⟨some (ad.add s), c - s, by rw [hlen], by rw [hlen]; omega, (fun h => by cases h), fun a ha j hj => ?_⟩
      cases ha
      rw [hlen] at hj
      rw [add_add, h3 ad rfl (s + j) (by omega)]
      simp
    rw [show s + 4 + m - (s + 4) = m by omega] at hrun1 hbs1 how1
    have H1 := Lib.hid (fun W h => hbs1 W l rfl h)
    have H2 := Lib.hid hbs2
    have HO := Lib.hid how1
    clear hbs1 hbs2 how1
    have hz : ((s : Int) == 0) = false := by rw [beq_eq_false_iff_ne]; omega
    go_enter Tryd.func38, Tryd.ntmps38
    go_wp2_with fail
    refine h0.mono ?_
    rintro e w1 ⟨rfl, hfr⟩
    have HB1 := Lib.hid (HB.out.non hfr)
    have HT1 := Lib.hid (HT.out.non hfr)
    have HFR := Lib.hid hfr
    clear hfr h0
    go_wp2_with fail
    have Hb := Lib.hid (H1.out _ HB1.out)
    have HbL := Lib.hid (show ((l.drop (s + 4)).take m).length ≤ 9223372036854775807 by rw [List.length_take]; omega)
    have t1 : (0 : Int) ≤ s + 4 := by omega
    have t6 : IntKind.i64.wrap ((s : Int) + 4) = s + 4 := IntWalk.i64_in _ ⟨by omega, by omega⟩
    have t2 : ((s : Int) + 4).toNat = s + 4 := by omega
    have t3 : ¬ (c = s) := by omega
    have t4 : s + 4 ≤ c := by omega
    have t5 : (s : Int) + 4 ≤ c := by omega
    clear hrun1
    go_region_with (first | (go_at_call 35; refine (fsum_any _ _ _ (Hb.out.drewN _) (HT1.out.drewN _) HbL.out).mono ?_; rintro e w3 ⟨v3, rfl, hown3, hfr3⟩) | (go_at_call 53; refine (equal_any _ _ _ _ _ (H2.out _ ((HB1.out.drewN _).non hfr3)) hown3.bs).mono ?_; rintro e w4 ⟨rfl, rfl⟩))
    all_goals
      have hfr : Fr Non w w3 := HFR.out.trans (w1 := w1) ⟨hfr3.os, hfr3.tape, hfr3.output, hfr3.size, hfr3.block⟩
      have HR := Lib.hid hfr
      have HBb := Lib.hid (Hb.out.non (w' := w3) ⟨hfr3.os, hfr3.tape, hfr3.output, hfr3.size, hfr3.block⟩)
      clear hfr hown3 hfr3
      rw [← HGB.out]
      rw [← HGB.out] at HBb
      rw [← HGS.out]
      have HF2 := Lib.hid (show gE l = (if sumOk l then 0 else 13) ∧ gB l = (if sumOk l then bodyF l else []) ∧ gN l = (if sumOk l then hS l + 4 + hN l else 0) by
        unfold gE gB gN; rw [HF.out]; exact ⟨rfl, rfl, rfl⟩)
      cases hq : sumOk l
      · go_wp2
        go_ret3
        rw [HF2.out.1, HF2.out.2.1, HF2.out.2.2, hq]
        exact ⟨_, rfl, Bs.nil_ _, HR.out, fun k hk => by cases hk⟩
      · go_wp2
        go_ret3
        rw [HF2.out.1, HF2.out.2.1, HF2.out.2.2, hq, HS2.out, HM2.out]
        refine ⟨.slice A1 m c1, ?_, HBb.out, HR.out, fun k hk => by rw [← HO.out]; exact hk⟩
        exact ret_three (by simp) (by simp)
  · have hf' : fits l = false := by simpa using hf
    have HF2 := Lib.hid (show gE l = 2 ∧ gB l = [] ∧ gN l = 0 by unfold gE gB gN; rw [hf']; exact ⟨rfl, rfl, rfl⟩)
    have hb : ¬ (hS l ≠ 0 ∧ hS l + 4 + hN l ≤ l.length) := of_decide_eq_false hf'
    clear hf hf'
    have fin : ∀ w', Fr Non w w' → ∃ u, Ending.returned (.tuple #[.slice none 0 0, .int .i64 0, .int .i64 2]) = Ending.returned (.tuple #[u, .int .i64 (gN l), .int .i64 (gE l)]) ∧ Bs w' u (gB l) ∧ Fr Non w w' ∧ ∀ k, u.ownBlock = some k → (Value.slice A l.length c).ownBlock = some k := by
      intro w' h
      rw [HF2.out.1, HF2.out.2.1, HF2.out.2.2]
      exact ⟨_, rfl, Bs.nil_ _, h, fun k hk => by cases hk⟩
    have FIN := Lib.hid fin
    clear fin HF2
    generalize hS l = s at *
    generalize hN l = m at *
    by_cases h0s : s = 0
    · subst h0s
      go_enter Tryd.func38, Tryd.ntmps38
      go_wp2_with fail
      refine h0.mono ?_
      rintro e w1 ⟨rfl, hfr⟩
      go_wp2
      go_ret3
      exact FIN.out _ hfr
    · have hz : ((s : Int) == 0) = false := by rw [beq_eq_false_iff_ne]; omega
      have hlt : (l.length : Int) < s + 4 + m := by omega
      go_enter Tryd.func38, Tryd.ntmps38
      go_wp2_with fail
      refine h0.mono ?_
      rintro e w1 ⟨rfl, hfr⟩
      go_wp2
      go_ret3
      exact FIN.out _ hfr

theorem fget_any (v : Value) (l : List UInt8) (w : World) (hv : Bs w v l) (ht : Tab w) (hl : l.length < 1099511627776) :
    Calls Tryd.prog 23 #[v] w fun e w' => ∃ u, e = .returned (.tuple #[u, .int .i64 (gN l), .int .i64 (gE l)]) ∧ Own w' w.heap.size u (gB l) ∧ Fr Non w w' := by
  have h0 := ffirst_any v l w hv ht hl
  have hb : Hid ((gB l).length < 140737488355328) := Lib.hid (by
    unfold gB; split
    · unfold bodyF; rw [List.length_take]; have := hN_le l; omega
    · simp)
  clear hv ht
  go_enter Tryd.func23, Tryd.ntmps23
  go_wp2_with fail
  refine h0.mono ?_
  rintro e w1 ⟨u, rfl, hu, hf, _⟩
  go_wp2_with fail
  refine (clone_any u _ w1 hu hb.out).mono ?_
  rintro e w2 ⟨u2, rfl, hown, hf2⟩
  go_wp2
  go_ret3
  exact ⟨u2, rfl, hown.mono hf.size, hf.trans hf2⟩
end Go.Proofs.YtdofgniemkahnaaDoor


namespace Go.Proofs.YtdofgniemkahnaaDoor
set_option linter.unusedVariables false
set_option linter.unusedSimpArgs false
set_option maxRecDepth 100000
open Go.RowKit

theorem SAt.new {w : World} {v : Value} {l : List UInt8} (h : Bs w v l) (hl : ∀ k, v.ownBlock = some k → k < w.heap.size) :
    SAt (w.alloc (.cells #[v, .bool false] 55)) w.heap.size (One w.heap.size) l false :=
  ⟨v, Blk.new w _ _, h.non ((Fr.refl _ _).alloc _), (fun k hk e => by have := hl k hk; have e' : k = w.heap.size := e; omega), rfl, fun h => by cases h⟩

theorem Own.drewN {w : World} {B : Nat} {v : Value} {l : List UInt8} (h : Own w B v l) (n : Nat) : Own (w.drewN n) B v l := h

end Go.Proofs.YtdofgniemkahnaaDoor


namespace Go.Proofs.YtdofgniemkahnaaDoor
set_option linter.unusedVariables false
set_option linter.unusedSimpArgs false
set_option maxRecDepth 100000
open Go.RowKit

/-- append of one value of one cell, which was stored in a new block first -/
theorem run_pushv (T E ty : TypeId) (z : Value) (by_ : Nat) (hT : Tryd.prog.underlying T = some (.slice E)) (hinfo : (Tryd.prog.info? E).map (fun i => (i.zero, i.size, i.bytes)) = some (some z, 1, by_)) (hz : z.cells.size = 1)
    (w0 : World) (B : Nat) (v u : Value) (xs : List Value) (hown : w0.ownsRow B E 1 v xs.length xs) (h1 : u.oneCell' = true) (hl : (xs.length + 1) * by_ ≤ 140737488355328) (hm : xs.length + 1 ≤ maxLen) (hB : B ≤ w0.heap.size) (g : Nat) (hg : g = w0.heap.size) :
    ∃ v' w', (Builtin.append_ #[T, T] ty #[v, .slice (some ⟨g, 0, none⟩) 1 1]).run Tryd.prog (w0.alloc (.cells #[u] E)) = .ok v' w' ∧ w'.ownsRow B E 1 v' (xs ++ [u]).length (xs ++ [u]) ∧ Fr (fun k => v.ownBlock = some k) w0 w' := by
  subst hg
  obtain ⟨i, hi, hz0, hz1, hz2⟩ := info_parts hinfo
  have ho : (w0.alloc (.cells #[u] E)).ownsRow B E 1 v xs.length xs := by
    refine ⟨hown.1, ?_⟩
    rcases hown.2 with h2 | ⟨g, cap, cur, hv, hb, hg, r⟩
    · exact .inl h2
    · exact .inr ⟨g, cap, cur, hv, hb, by rw [Below.heap_alloc _ _ _ (Array.getElem?_eq_some_iff.1 hg).1]; exact hg, r⟩
  obtain ⟨v', w', hr, h2, h3, h4⟩ := run_append_own (P := Tryd.prog) (w0.alloc (.cells #[u] E)) B T ty E i z 1 by_ hT hi hz0 hz1 hz2 hz (by omega) v xs.length xs ho ⟨w0.heap.size, 0, none⟩ 1 1 [u] rfl
    (fun j x hj => by
      cases j with
      | zero =>
        obtain rfl : u = x := by simpa using hj
        exact cell_new1 _ _ _
      | succ j => simp at hj)
    (fun x hx => by obtain rfl : x = u := by simpa using hx
                    exact h1) hm hl (by simp; omega)
  refine ⟨v', w', hr, by simpa using h2, ?_⟩
  exact ((Fr.refl _ _).alloc _).join (Fr.of_grown h3) fun k hk e => e.symm ▸ rfl

/-- a slice of slices of bytes that the call owns, row and all -/
def Owns (w : World) (B : Nat) (v : Value) (ls : List (List UInt8)) : Prop :=
  ∃ vs : List Value, w.ownsRow B 24 1 v vs.length vs ∧ vs.length = ls.length ∧ ∀ (i : Nat) (u : Value) (l : List UInt8), vs[i]? = some u → ls[i]? = some l → Own w B u l

theorem Own.kind {w : World} {B : Nat} {u : Value} {l : List UInt8} (h : Own w B u l) : ∀ k, u.ownBlock = some k → ∃ cur, w.heap[k]? = some (.cells cur 5 (0, 0)) := by
  intro k hk
  rcases h.2 with ⟨rfl, _⟩ | ⟨g, cap, cur, rfl, _, hg, _⟩
  · cases hk
  · obtain rfl : g = k := by simpa [Value.ownBlock] using hk
    exact ⟨cur, hg⟩
theorem row_kind {w : World} {B : Nat} {E : TypeId} {n : Nat} {v : Value} {xs : List Value} (h : w.ownsRow B E 1 v n xs) : ∀ k, v.ownBlock = some k → ∃ cur, w.heap[k]? = some (.cells cur E (0, 0)) := by
  intro k hk
  rcases h.2 with ⟨rfl, _⟩ | ⟨g, cap, cur, rfl, _, hg, _⟩
  · cases hk
  · obtain rfl : g = k := by simpa [Value.ownBlock] using hk
    exact ⟨cur, hg⟩
theorem row_keep {w w' : World} {B : Nat} {E : TypeId} {n : Nat} {v : Value} {xs : List Value} (h : w.ownsRow B E 1 v n xs) (hk : ∀ k, v.ownBlock = some k → w'.heap[k]? = w.heap[k]?) : w'.ownsRow B E 1 v n xs := by
  refine ⟨h.1, ?_⟩
  rcases h.2 with h2 | ⟨g, cap, cur, hv, hb, hg, r⟩
  · exact .inl h2
  · exact .inr ⟨g, cap, cur, hv, hb, by rw [hk g (by rw [hv]; rfl)]; exact hg, r⟩
theorem row_lt {w : World} {B : Nat} {E : TypeId} {n : Nat} {v : Value} {xs : List Value} (h : w.ownsRow B E 1 v n xs) : ∀ k, v.ownBlock = some k → B ≤ k ∧ k < w.heap.size := World.ownsRow.lt h
theorem row_mono {w : World} {B B' : Nat} {E : TypeId} {n : Nat} {v : Value} {xs : List Value} (h : w.ownsRow B E 1 v n xs) (hB : B' ≤ B) : w.ownsRow B' E 1 v n xs := by
  refine ⟨h.1, ?_⟩
  rcases h.2 with h2 | ⟨g, cap, cur, hv, hb, r⟩
  · exact .inl h2
  · exact .inr ⟨g, cap, cur, hv, by omega, r⟩

theorem Owns.lt {w : World} {B : Nat} {v : Value} {ls : List (List UInt8)} (h : Owns w B v ls) : ∀ k, v.ownBlock = some k → B ≤ k ∧ k < w.heap.size := by
  obtain ⟨vs, h1, _⟩ := h; exact row_lt h1
/-- it stays where the blocks that turn are no rows of slices and no bytes -/
theorem Owns.keep {w w' : World} {B : Nat} {v : Value} {ls : List (List UInt8)} (h : Owns w B v ls)
    (hk : ∀ k cur, (w.heap[k]? = some (.cells cur 24 (0, 0)) ∨ w.heap[k]? = some (.cells cur 5 (0, 0))) → B ≤ k → w'.heap[k]? = w.heap[k]?) : Owns w' B v ls := by
  obtain ⟨vs, h1, h2, h3⟩ := h
  refine ⟨vs, row_keep h1 fun k e => ?_, h2, fun i u l hu hl => (h3 i u l hu hl).keep fun k e => ?_⟩
  · obtain ⟨cur, hc⟩ := row_kind h1 k e
    exact hk k cur (.inl hc) (row_lt h1 k e).1
  · obtain ⟨cur, hc⟩ := (h3 i u l hu hl).kind k e
    exact hk k cur (.inr hc) ((h3 i u l hu hl).lt k e).1
theorem Owns.fr {S : Nat → Prop} {w w' : World} {B : Nat} {v : Value} {ls : List (List UInt8)} (h : Owns w B v ls) (hf : Fr S w w')
    (hS : ∀ k cur, S k → w.heap[k]? ≠ some (.cells cur 24 (0, 0)) ∧ w.heap[k]? ≠ some (.cells cur 5 (0, 0))) : Owns w' B v ls :=
  h.keep fun k cur hc _ => hf.block k (by rcases hc with e | e <;> exact (Array.getElem?_eq_some_iff.1 e).1) fun e => by
    rcases hc with h1 | h1
    · exact (hS k cur e).1 h1
    · exact (hS k cur e).2 h1
theorem Owns.non {w w' : World} {B : Nat} {v : Value} {ls : List (List UInt8)} (h : Owns w B v ls) (hf : Fr Non w w') : Owns w' B v ls := h.fr hf fun k cur e => e.elim
theorem Owns.mono {w : World} {B B' : Nat} {v : Value} {ls : List (List UInt8)} (h : Owns w B v ls) (hB : B' ≤ B) : Owns w B' v ls := by
  obtain ⟨vs, h1, h2, h3⟩ := h
  exact ⟨vs, row_mono h1 hB, h2, fun i u l hu hl => (h3 i u l hu hl).mono hB⟩
theorem Owns.bss {w : World} {B : Nat} {v : Value} {ls : List (List UInt8)} (h : Owns w B v ls) : Bss w v ls := by
  obtain ⟨vs, h1, h2, h3⟩ := h
  rcases h1.2 with ⟨rfl, h0⟩ | ⟨g, cap, cur, rfl, _, _, hle, _, _, _⟩
  · have hl : ls = [] := List.eq_nil_of_length_eq_zero (by omega)
    subst hl
    exact ⟨none, 0, rfl, Nat.le_refl _, fun _ => rfl, fun _ h => by cases h⟩
  · refine ⟨_, cap, by rw [h2], by omega, (fun h => by cases h), fun a ha j hj => ?_⟩
    cases ha
    have hj' : j < vs.length := by omega
    exact ⟨vs[j], World.ownsRow.cells h1 (g := g) rfl j _ (by simp [hj']), (h3 j vs[j] ls[j] (by simp [hj']) (by simp [hj])).bs⟩
theorem Owns.shape {w : World} {B : Nat} {v : Value} {ls : List (List UInt8)} (h : Owns w B v ls) : ∃ A c, v = .slice A ls.length c := by
  obtain ⟨A, c, rfl, _⟩ := h.bss; exact ⟨A, c, rfl⟩
/-! ### Whole numbers in a row of the call's own -/
def iv (n : Int) : Value := .int .i64 n
def OwnI (w : World) (B : Nat) (v : Value) (l : List Int) : Prop := w.ownsRow B 3 1 v (l.map iv).length (l.map iv)
theorem OwnI.non {w w' : World} {B : Nat} {v : Value} {l : List Int} (h : OwnI w B v l) (hf : Fr Non w w') : OwnI w' B v l := row_keep h fun k hk => hf.block k (row_lt h k hk).2 fun e => e
theorem OwnI.fr {S : Nat → Prop} {w w' : World} {B : Nat} {v : Value} {l : List Int} (h : OwnI w B v l) (hf : Fr S w w') (hn : ∀ k, v.ownBlock = some k → ¬ S k) : OwnI w' B v l := row_keep h fun k hk => hf.block k (row_lt h k hk).2 (hn k hk)
theorem OwnI.cell {w : World} {B : Nat} {v : Value} {l : List Int} (h : OwnI w B v l) {g n c : Nat} (hv : v = .slice (some ⟨g, 0, none⟩) n c) (j : Nat) (hj : j < l.length) : w.cell? ⟨g, j, none⟩ = some (.int .i64 l[j]) := by
  subst hv
  have := World.ownsRow.cells h (g := g) rfl j (iv l[j]) (by simp [hj])
  rwa [Addr.add_lit, Nat.zero_add] at this
end Go.Proofs.YtdofgniemkahnaaDoor


namespace Go.Proofs.YtdofgniemkahnaaDoor
set_option linter.unusedVariables false
set_option linter.unusedSimpArgs false
set_option maxRecDepth 100000
open Go.RowKit

/-- the slice v reads as the list l, each element's cell being f of it -/
def Vs {α : Type} (f : α → Value) (w : World) (v : Value) (l : List α) : Prop :=
  ∃ A c, v = .slice A l.length c ∧ l.length ≤ c ∧ (A = none → c = 0) ∧ ∀ a, A = some a → ∀ j (h : j < l.length), w.cell? (a.add j) = some (f l[j])
/-- a row of the call's own, from block B on, of elements of type E -/
def Ow {α : Type} (f : α → Value) (E : TypeId) (w : World) (B : Nat) (v : Value) (l : List α) : Prop := w.ownsRow B E 1 v l.length (l.map f)

/-- T: slices of E, whose elements have one cell -/
structure El (T E : TypeId) (z : Value) (by_ : Nat) : Prop where
  under : Tryd.prog.underlying T = some (.slice E)
  info : (Tryd.prog.info? E).map (fun i => (i.zero, i.size, i.bytes)) = some (some z, 1, by_)
  cells : z.cells = #[z]
  small : by_ ≤ 64
  elem : Tryd.prog.elem T = E
  sz : ∀ w, (sizeOf (Tryd.prog.elem T)).run Tryd.prog w = .ok 1 w

section
variable {α : Type} {f : α → Value}

theorem Vs.nil_ (w : World) : Vs f w (.slice none 0 0) [] := ⟨none, 0, rfl, Nat.le_refl _, fun _ => rfl, fun _ h => by cases h⟩
theorem Vs.keep {w w' : World} {v : Value} {l : List α} (h : Vs f w v l) (hk : ∀ k, v.ownBlock = some k → k < w.heap.size → w'.heap[k]? = w.heap[k]?) : Vs f w' v l := by
  obtain ⟨A, c, rfl, h1, h2, h3⟩ := h
  refine ⟨A, c, rfl, h1, h2, fun a ha j hj => ?_⟩
  have := h3 a ha j hj
  subst ha
  have hb := World.block_lt_of_cell? w _ this
  rw [add_block] at hb
  rw [← this]
  exact World.cell?_of_block (by rw [add_block]; exact hk _ rfl hb)
theorem Vs.fr {S : Nat → Prop} {w w' : World} {v : Value} {l : List α} (h : Vs f w v l) (hf : Fr S w w') (hn : ∀ k, v.ownBlock = some k → ¬ S k) : Vs f w' v l :=
  h.keep fun k hk hlt => hf.block k hlt (hn k hk)
theorem Vs.non {w w' : World} {v : Value} {l : List α} (h : Vs f w v l) (hf : Fr Non w w') : Vs f w' v l := h.fr hf fun _ _ e => e
theorem Vs.drew {w : World} {v : Value} {l : List α} (h : Vs f w v l) : Vs f w.drew v l := h
theorem Vs.drewN {w : World} {v : Value} {l : List α} (h : Vs f w v l) (n : Nat) : Vs f (w.drewN n) v l := h
theorem Vs.shape {w : World} {v : Value} {l : List α} (h : Vs f w v l) : ∃ A c, v = .slice A l.length c := by
  obtain ⟨A, c, rfl, _⟩ := h; exact ⟨A, c, rfl⟩
/-- its address, where it has an element -/
theorem Vs.addr {w : World} {A : Option Addr} {n c : Nat} {l : List α} (h : Vs f w (.slice A n c) l) (hl : 0 < n) : ∃ a, A = some a ∧ n = l.length ∧ n ≤ c ∧ ∀ j (h : j < l.length), w.cell? (a.add j) = some (f l[j]) := by
  obtain ⟨A0, c0, he, h1, h2, h3⟩ := h
  simp only [Value.slice.injEq] at he
  obtain ⟨rfl, rfl, rfl⟩ := he
  cases A with
  | none => have := h2 rfl; omega
  | some a => exact ⟨a, rfl, rfl, h1, h3 a rfl⟩
theorem Vs.pre {w : World} {A : Option Addr} {n c k : Nat} {l : List α} (h : Vs f w (.slice A n c) l) (hk : k ≤ n) : Vs f w (.slice A k c) (l.take k) := by
  obtain ⟨A0, c0, he, h1, h2, h3⟩ := h
  simp only [Value.slice.injEq] at he
  obtain ⟨rfl, rfl, rfl⟩ := he
  have hl : (l.take k).length = k := by rw [List.length_take]; omega
  refine ⟨A, c, by rw [hl], by rw [hl]; omega, h2, fun a ha j hj => ?_⟩
  rw [h3 a ha j (by rw [hl] at hj; omega)]
  simp

variable {E : TypeId}
theorem ow_nil (w : World) (B : Nat) : Ow f E w B (.slice none 0 0) [] := ⟨by simp, .inl ⟨rfl, rfl⟩⟩
theorem Ow.lt {w : World} {B : Nat} {v : Value} {l : List α} (h : Ow f E w B v l) : ∀ k, v.ownBlock = some k → B ≤ k ∧ k < w.heap.size := World.ownsRow.lt h
theorem Ow.vs {w : World} {B : Nat} {v : Value} {l : List α} (h : Ow f E w B v l) : Vs f w v l := by
  rcases h.2 with ⟨rfl, h0⟩ | ⟨g, cap, cur, rfl, _, _, hle, _, _, _⟩
  · have hl : l = [] := List.eq_nil_of_length_eq_zero h0
    subst hl; exact Vs.nil_ w
  · refine ⟨_, cap, rfl, hle, (fun h => by cases h), fun a ha j hj => ?_⟩
    cases ha
    exact World.ownsRow.cells h (g := g) rfl j _ (by simp [hj])
theorem Ow.shape {w : World} {B : Nat} {v : Value} {l : List α} (h : Ow f E w B v l) : ∃ A c, v = .slice A l.length c := h.vs.shape
theorem Ow.keep {w w' : World} {B : Nat} {v : Value} {l : List α} (h : Ow f E w B v l) (hk : ∀ k, v.ownBlock = some k → w'.heap[k]? = w.heap[k]?) : Ow f E w' B v l := row_keep h hk
theorem Ow.fr {S : Nat → Prop} {w w' : World} {B : Nat} {v : Value} {l : List α} (h : Ow f E w B v l) (hf : Fr S w w') (hn : ∀ k, v.ownBlock = some k → ¬ S k) : Ow f E w' B v l :=
  h.keep fun k hk => hf.block k (h.lt k hk).2 (hn k hk)
theorem Ow.non {w w' : World} {B : Nat} {v : Value} {l : List α} (h : Ow f E w B v l) (hf : Fr Non w w') : Ow f E w' B v l := h.fr hf fun _ _ e => e
theorem Ow.alloc {w : World} {B : Nat} {v : Value} {l : List α} (h : Ow f E w B v l) (o : Obj) : Ow f E (w.alloc o) B v l := h.non ((Fr.refl _ _).alloc o)
theorem Ow.drew {w : World} {B : Nat} {v : Value} {l : List α} (h : Ow f E w B v l) : Ow f E w.drew B v l := h
theorem Ow.drewN {w : World} {B : Nat} {v : Value} {l : List α} (h : Ow f E w B v l) (n : Nat) : Ow f E (w.drewN n) B v l := h
theorem Ow.mono {w : World} {B B' : Nat} {v : Value} {l : List α} (h : Ow f E w B v l) (hB : B' ≤ B) : Ow f E w B' v l := row_mono h hB
theorem Ow.kind {w : World} {B : Nat} {v : Value} {l : List α} (h : Ow f E w B v l) : ∀ k, v.ownBlock = some k → ∃ cur, w.heap[k]? = some (.cells cur E (0, 0)) := row_kind h
/-- where it has an element, it stands at a row's head -/
theorem Ow.row {w : World} {B : Nat} {v : Value} {l : List α} (h : Ow f E w B v l) (hn : 0 < l.length) : ∃ g cap, v = .slice (some ⟨g, 0, none⟩) l.length cap ∧ B ≤ g ∧ g < w.heap.size ∧ l.length ≤ cap ∧ cap ≤ maxLen := by
  rcases h.2 with ⟨rfl, h0⟩ | ⟨g, cap, cur, rfl, hb, hg, hle, hm, _⟩
  · omega
  · exact ⟨g, cap, rfl, hb, (Array.getElem?_eq_some_iff.1 hg).1, hle, hm⟩
theorem Ow.cell {w : World} {B g n cap : Nat} {l : List α} (h : Ow f E w B (.slice (some ⟨g, 0, none⟩) n cap) l) (hn : n = l.length) (j : Nat) (x : α) (hb : l[j]? = some x) : w.cell? ⟨g, j, none⟩ = some (f x) := by
  subst hn
  have hj : j < l.length := (List.getElem?_eq_some_iff.1 hb).1
  rw [World.ownsRow.cellAt h j (by omega), List.getElem?_map, hb]; rfl
theorem Ow.frozen {w : World} {B g n cap : Nat} {l : List α} (h : Ow f E w B (.slice (some ⟨g, 0, none⟩) n cap) l) (hn : n = l.length) (j : Nat) : w.frozen? ⟨g, j, none⟩ = false := by
  subst hn; exact World.ownsRow.frozenAt h j
theorem Ow.store {w : World} {B g n cap : Nat} {l : List α} (h : Ow f E w B (.slice (some ⟨g, 0, none⟩) n cap) l) (hn : n = l.length) (j : Nat) (x : α) : Ow f E (w.setCell ⟨g, j, none⟩ (f x)) B (.slice (some ⟨g, 0, none⟩) n cap) (l.set j x) := by
  subst hn
  have := (World.ownsRow.stored h j (f x)).1
  unfold Ow
  rw [List.length_set, List.map_set]
  exact this
theorem ow_lit (w : World) (B g : Nat) (l : List α) (cs : Array Value) (hcs : cs.toList = l.map f) (hg : g = w.heap.size) (hB : B ≤ g) (hm : l.length ≤ maxLen) : Ow f E (w.alloc (.cells cs E)) B (.slice (some ⟨g, 0, none⟩) l.length l.length) l := by
  subst hg
  unfold Ow
  rw [← hcs]
  exact World.ownsRow_lit w cs l.length hB hm (by have := congrArg List.length hcs; simpa using this)
theorem ow_lit0 (w : World) (B g : Nat) (hg : g = w.heap.size) (hB : B ≤ g) : Ow f E (w.alloc (.cells #[] E)) B (.slice (some ⟨g, 0, none⟩) 0 0) [] :=
  ow_lit w B g [] #[] rfl hg hB (by unfold maxLen; simp)

/-! ### Steps -/
variable {T : TypeId} {z : Value} {by_ : Nat}
/-- append of one element, which was stored in a new block first -/
theorem wpList_pushG (hE : El T E z by_) (hf1 : ∀ x, (f x).oneCell' = true) {w0 : World} {ops : Array Oper} {rest : List Oper} {o : Oper} {a : Act} {Q : Exit → Act → World → Prop} (hgd : o.guard = none) (s x : Operand)
    (ho : o.op = .call { callee := .builtin .append, args := #[s, x], argTypes := #[T, T] })
    (B : Nat) (v : Value) (l : List α) (hs : a.eval s = v) (hown : Ow f E w0 B v l) (u : Value) (y : α) (hu : u = f y) (hx : a.eval x = .slice (some ⟨w0.heap.size, 0, none⟩) 1 1)
    (hl : l.length < 1099511627776) (hB : B ≤ w0.heap.size)
    (h : ∀ v' w', Ow f E w' B v' (l ++ [y]) → Fr (fun k => v.ownBlock = some k) w0 w' → wpList Tryd.prog ops Q rest (a.put o.dst v') w') :
    wpList Tryd.prog ops Q (o :: rest) a (w0.alloc (.cells #[u] E)) := by
  subst hu
  have hown' : w0.ownsRow B E 1 v (l.map f).length (l.map f) := by rw [List.length_map]; exact hown
  have hs' := hE.small
  have hbl : ((l.map f).length + 1) * by_ ≤ 140737488355328 := by
    rw [List.length_map]
    have := Nat.mul_le_mul (show l.length + 1 ≤ 1099511627776 by omega) hs'
    omega
  obtain ⟨v', w', hr, h1, h2⟩ := run_pushv T E o.type z by_ hE.under hE.info (by rw [hE.cells]; rfl) w0 B v (f y) (l.map f) hown' (hf1 y) hbl (by rw [List.length_map]; unfold maxLen; omega) hB w0.heap.size rfl
  refine wpList_plain hgd fun K hK => ?_
  unfold Oper.wp execOp
  simp only [ho, resolve, invoke, builtin, Sem.run_bind, Sem.run_pure, Result.andThen_ok, List.map_toArray, List.map_cons, List.map_nil, hs, hx, hr]
  refine hK _ _ (h v' w' ?_ h2)
  unfold Ow
  simpa [List.map_append] using h1

/-- 'make([]E, 0, n)' -/
theorem wpList_mkG (f : α → Value) (hE : El T E z by_) {w : World} {ops : Array Oper} {rest : List Oper} {o : Oper} {a : Act} {Q : Exit → Act → World → Prop} (hgd : o.guard = none) (x c : Operand)
    (ho : o.op = .makeSlice T x c) (kl kc : IntKind) (C : Int) (n : Nat) (hx : a.eval x = .int kl 0) (hc : a.eval c = .int kc C) (hC : C = (n : Int)) (hn : n ≤ 1099511627776)
    (h : ∀ v' w', Ow f E w' w.heap.size v' [] → Fr Non w w' → wpList Tryd.prog ops Q rest (a.put o.dst v') w') : wpList Tryd.prog ops Q (o :: rest) a w := by
  obtain ⟨i, hi, hz0, hz1, hz2⟩ := info_parts hE.info
  have hs' := hE.small
  have hbl : by_ * n ≤ 70368744177664 := by
    have := Nat.mul_le_mul hs' hn
    omega
  refine wpList_make_own w hgd x c T ho w.heap.size E i _ 1 hE.under hi hz0 hz1 kl kc C n hx hc hC (by rw [hz2]; omega) (by unfold maxLen; omega) (Nat.le_refl _) ?_
  intro w' h1 h2
  exact h _ _ h1 ((Fr.of_grown h2).mono fun k _ e => by cases e)

/-- 'make([]E, n)' -/
theorem wpList_mkfullG (hE : El T E z by_) (y : α) (hy : f y = z) {w : World} {ops : Array Oper} {rest : List Oper} {o : Oper} {a : Act} {Q : Exit → Act → World → Prop} (hgd : o.guard = none) (x c : Operand)
    (ho : o.op = .makeSlice T x c) (kl kc : IntKind) (C L : Int) (n : Nat) (hx : a.eval x = .int kl L) (hc : a.eval c = .int kc C) (hL : L = (n : Int)) (hC : C = (n : Int)) (hn : n ≤ 1099511627776)
    (h : ∀ w', Ow f E w' w.heap.size (.slice (some ⟨w.heap.size, 0, none⟩) n n) (List.replicate n y) → Fr Non w w' → wpList Tryd.prog ops Q rest (a.put o.dst (.slice (some ⟨w.heap.size, 0, none⟩) n n)) w') : wpList Tryd.prog ops Q (o :: rest) a w := by
  obtain ⟨i, hi, hz0, hz1, hz2⟩ := info_parts hE.info
  have hs' := hE.small
  have hbl : by_ * n ≤ 70368744177664 := by
    have := Nat.mul_le_mul hs' hn
    omega
  refine wpList_make_full w hgd x c T ho w.heap.size E i z 1 hE.under hi hz0 hz1 kl kc L C n hx hc hL hC (by rw [hz2]; omega) (by unfold maxLen; omega) (Nat.le_refl _) ?_
  intro w' h1 h2
  refine h _ ?_ ((Fr.of_grown h2).mono fun k _ e => by cases e)
  unfold Ow
  rw [hE.cells, Nat.mul_one, toList_madeCells_one] at h1
  rw [List.length_replicate, List.map_replicate, hy]
  exact h1

/-! ### Pieces -/
theorem slice_loG (hE : El T E z by_) (A : Option Addr) (n c k : Nat) (kl : IntKind) (y : Int) (hy : y = (k : Int)) (hk : k ≤ n) (hn : n ≤ c) :
    ∃ A' c', (∀ W, (Instr.slice T (.slice A n c) (some (.int kl y)) none none).run Tryd.prog W = .ok (.slice A' (n - k) c') W) ∧
      (∀ {α : Type} (f : α → Value) W (l : List α), l.length = n → Vs f W (.slice A n c) l → Vs f W (.slice A' (n - k) c') (l.drop k)) ∧ (Value.slice A' (n - k) c').ownBlock = (Value.slice A n c).ownBlock := by
  subst hy
  refine ⟨if c = k then A else A.map (·.add k), c - k, fun W => ?_, ?_, ?_⟩
  · rw [run_slice_any W T A n c (by rw [hE.elem]; exact hE.under)]
    have hb : (Instr.sliceBounds true n c (some (.int kl (k : Int))) none none).run Tryd.prog W = .ok (k, n, c) W := by
      simp [Instr.sliceBounds, run_sliceBound, hk, hn]
    rw [hb]
    simp only [Result.andThen_ok, hE.sz]
    simp [sliced]
  · rintro α f W l hl ⟨A0, c0, he, h1, h2, h3⟩
    simp only [Value.slice.injEq] at he
    obtain ⟨rfl, hl', rfl⟩ := he
    refine ⟨if c = k then A else A.map (·.add k), c - k, by rw [List.length_drop, hl], by rw [List.length_drop]; omega, fun e => ?_, fun a ha j hj => ?_⟩
    · split at e
      · have := h2 e; omega
      · have := h2 (by simpa using e); omega
    · rw [List.length_drop] at hj
      rw [if_neg (by omega)] at ha
      cases A with
      | none => cases ha
      | some b =>
        obtain rfl : b.add k = a := by simpa using ha
        rw [add_add, h3 b rfl (k + j) (by omega)]
        simp
  · split
    · cases A <;> rfl
    · cases A <;> simp [Value.ownBlock, add_block]

end

/-- how many elements a slice has -/
def slLen : Value → Nat
  | .slice _ n _ => n
  | _ => 0
theorem slLen_vs {α : Type} {f : α → Value} {w : World} {v : Value} {l : List α} (h : Vs f w v l) : slLen v = l.length := by
  obtain ⟨A, c, rfl⟩ := h.shape; rfl

/-! ### Truths, whole numbers, bytes -/
def tv (b : Bool) : Value := .bool b
theorem tv_one (b : Bool) : (tv b).oneCell' = true := rfl
theorem bv_oneC (b : UInt8) : (bv b).oneCell' = true := rfl
theorem el_bool : El 22 4 (.bool false) 1 := ⟨Tryd.underlying22, by kernel_rfl, rfl, by decide, by kernel_rfl, fun _ => by kernel_rfl⟩
theorem el_u8 : El 24 5 (.int .u8 0) 1 := ⟨Tryd.underlying24, by kernel_rfl, rfl, by decide, by kernel_rfl, fun _ => by kernel_rfl⟩
theorem Bs.vs {w : World} {v : Value} {l : List UInt8} (h : Bs w v l) : Vs bv w v l := h
theorem Vs.bs {w : World} {v : Value} {l : List UInt8} (h : Vs bv w v l) : Bs w v l := h
theorem Ow.own {w : World} {B : Nat} {v : Value} {l : List UInt8} (h : Ow bv 5 w B v l) : Own w B v l := h

end Go.Proofs.YtdofgniemkahnaaDoor


namespace Go.Proofs.YtdofgniemkahnaaDoor
set_option linter.unusedVariables false
set_option linter.unusedSimpArgs false
set_option maxRecDepth 100000
open Go.RowKit

theorem need_any (n : Nat) (w : World) (hn : n ≤ 9223372036854775807) :
    Calls Tryd.prog 37 #[.int .i64 n] w fun e w' => e = .returned (.int .i64 (need n : Nat)) ∧ w = w' := by
  by_cases h : n % 8 = 0
  · have HN := Lib.hid (show need n = n / 8 by unfold need; omega)
    have h' : decide (0 < (n : Int) % 8) = false := by simp; omega
    clear h
    go_enter Tryd.func37, Tryd.ntmps37
    go_wp2
    go_ret
    exact ⟨ret_int (by rw [HN.out]; omega), rfl⟩
  · have HN := Lib.hid (show need n = n / 8 + 1 by unfold need; omega)
    have h' : decide (0 < (n : Int) % 8) = true := by simp; omega
    clear h
    go_enter Tryd.func37, Tryd.ntmps37
    go_wp2
    go_ret
    exact ⟨ret_int (by rw [HN.out]; omega), rfl⟩

theorem or_low (q t : Nat) (ht : t < 8) (hq : q < 2 ^ t) : bits .or .u8 (q : Int) (2 ^ t % 256) = ((q + 2 ^ t : Nat) : Int) := by
  have all : ∀ t : Fin 8, ∀ q : Fin 128, q.1 < 2 ^ t.1 → bits .or .u8 (q.1 : Int) (2 ^ t.1 % 256) = ((q.1 + 2 ^ t.1 : Nat) : Int) := by decide +kernel
  have := pow8 ht
  exact all ⟨t, ht⟩ ⟨q, by omega⟩ hq
theorem add_low (q t : Nat) (ht : t < 8) (hq : q < 2 ^ t) : ((q : Int) + 2 ^ t) % 256 = ((q + 2 ^ t : Nat) : Int) := by
  have all : ∀ t : Fin 8, ∀ q : Fin 128, q.1 < 2 ^ t.1 → ((q.1 : Int) + 2 ^ t.1) % 256 = ((q.1 + 2 ^ t.1 : Nat) : Int) := by decide +kernel
  have := pow8 ht
  exact all ⟨t, ht⟩ ⟨q, by omega⟩ hq
theorem or_lt8 (q t : Nat) (ht : t < 8) (hq : q < 2 ^ t) : q + 2 ^ t < 256 := by have := pow8 ht; omega

set_option maxHeartbeats 1000000 in
theorem pack_any (v : Value) (l : List Bool) (w : World) (hv : Vs tv w v l) (hl : l.length ≤ 1000000) :
    Calls Tryd.prog 22 #[v] w fun e w' => ∃ u, e = .returned u ∧ Own w' w.heap.size u (packB l) ∧ Fr Non w w' := by
  have HV := Lib.hid hv
  obtain ⟨A, c, rfl, hlc, hn, hcell⟩ := hv
  have HC := Lib.hid hcell
  have HN := Lib.hid hn
  have hnb : need l.length ≤ l.length := by unfold need; omega
  clear hcell hn
  go_enter Tryd.func22, Tryd.ntmps22
  go_wp2_with fail
  refine (need_any l.length w (by omega)).mono ?_
  rintro e w' ⟨rfl, rfl⟩
  go_wp2_with (at_make; refine wpList_mkfullG el_u8 (f := bv) (0 : UInt8) rfl rfl _ _ rfl _ _ _ _ (need l.length) rfl rfl rfl rfl (by omega) ?_; intro w1 hown1 hfr1)
  go_loopw [13] (fun i wr => ∃ j : Nat, j ≤ need l.length ∧ i = .int .i64 j ∧ Ow bv 5 wr w.heap.size (.slice (some ⟨w.heap.size, 0, none⟩) (need l.length) (need l.length)) (pk l (8 * j)) ∧ Fr Non w wr) (fun i _ => need l.length - (intOf i).toNat)
  case atStart => exact ⟨0, Nat.zero_le _, rfl, by rw [Nat.mul_zero, pk_zero]; exact hown1, hfr1⟩
  case round =>
    obtain ⟨j, hj, rfl, hown, hfr⟩ := hrel
    by_cases hlt : j < need l.length
    · have h8 : 8 * j < l.length := by unfold need at hlt; omega
      obtain ⟨A', c', hrun, hbs, hob⟩ := slice_loG el_bool A l.length c (8 * j) .i64 ((j : Int) * 8) (by push_cast; omega) (by omega) hlc
      have HV' := Lib.hid (hbs tv w l rfl HV.out)
      clear hbs
      have HF := Lib.hid hfr
      have key : ∀ t, t < 8 → t < l.length - 8 * j → ∃ a, A' = some a ∧ w.cell? (a.add t) = some (tv (l.getD (8 * j + t) false)) := by
        intro t _ ht
        obtain ⟨a, rfl, _, _, hc⟩ := HV'.out.addr (by omega)
        refine ⟨a, rfl, ?_⟩
        rw [hc t (by simp; omega)]
        simp [List.getD_eq_getElem?_getD, show 8 * j + t < l.length by omega]
      have HK := Lib.hid key
      clear key
      obtain ⟨m, hm8, hml, hm1, hm⟩ : ∃ m, m ≤ 8 ∧ m ≤ l.length - 8 * j ∧ 0 < m ∧ (m = 8 ∨ m = l.length - 8 * j) := by
        by_cases h7 : 8 ≤ l.length - 8 * j
        · exact ⟨8, by omega, by omega, by omega, .inl rfl⟩
        · exact ⟨l.length - 8 * j, by omega, by omega, by omega, .inr rfl⟩
      have hnext : pk l (8 * j + m) = pk l (8 * (j + 1)) := by
        rcases hm with rfl | rfl
        · rw [show 8 * (j + 1) = 8 * j + 8 by omega]
        · by_cases h : l.length = 8 * (j + 1)
          · congr 1; omega
          · rw [pk_all l (show l.length ≤ 8 * j + (l.length - 8 * j) by omega)]
            by_cases h2 : l.length ≤ 8 * (j + 1)
            · rw [pk_all l h2]
            · omega
      have HX := Lib.hid hnext
      clear hnext
      have hmi : min 8 (l.length - 8 * j) ≤ m := by omega
      have hme := Lib.hid hm
      clear hm
      by_cases h7 : 8 ≤ l.length - 8 * j
      all_goals
        go_wp2
        go_loopw [23] (fun i wr => ∃ t : Nat, t ≤ m ∧ i = .int .i64 t ∧ Ow bv 5 wr w.heap.size (.slice (some ⟨w.heap.size, 0, none⟩) (need l.length) (need l.length)) (pk l (8 * j + t)) ∧ Fr Non w wr) (fun i _ => 8 - (intOf i).toNat)
        case atStart => exact ⟨0, Nat.zero_le _, rfl, hown, hfr⟩
        case round =>
          obtain ⟨t, ht, rfl, hown, hfr⟩ := hrel
          have hmf := hme.out
          by_cases hlt : t < m
          · have h8 : 8 * j + t < l.length := by omega
            obtain ⟨a, rfl, hc0⟩ := HK.out t (by omega) (by omega)
            have hq := hown.cell (pk_length _ _).symm j _ (by have := pk_at l h8; rwa [show (8 * j + t) / 8 = j by omega] at this)
            have hfz := hown.frozen (pk_length _ _).symm j
            have hql := pkn_lt l h8
            rw [show (8 * j + t) / 8 = j by omega, show (8 * j + t) % 8 = t by omega] at hql
            have hor := or_low _ t (by omega) hql
            have hys := pk_yes l h8
            have hno := pk_no l h8
            rw [show (8 * j + t) / 8 = j by omega, show (8 * j + t) % 8 = t by omega] at hys
            unfold bv at hq
            rw [small8 (pkn_lt8 _ _ _)] at hq
            have hc1 : wr.cell? (a.add t) = some (tv (l.getD (8 * j + t) false)) := (hfr.cell (World.block_lt_of_cell? w _ hc0) (fun e => e)).trans hc0
            have hge : l.getD (8 * j + t) false = l[8 * j + t] := by simp [List.getD_eq_getElem?_getD, h8]
            rw [hge] at hc1
            have HO := Lib.hid hown
            have HFr := Lib.hid hfr
            have hq9 := pkn_lt8 l (8 * j + t) j
            clear hown hfr hmf hown1 hfr1 HF hge hc0
            cases hb : l[8 * j + t] with
            | false =>
              rw [hb] at hc1
              unfold tv at hc1
              have HB := Lib.hid (hno hb)
              clear hb hno hys hor
              go_wp2
              go_roundw
              case rel => exact ⟨t + 1, by omega, by go_num, by rw [show 8 * j + (t + 1) = 8 * j + t + 1 by omega, HB.out]; exact HO.out, HFr.out⟩
              case measure => simp [intOf]; omega
            | true =>
              rw [hb] at hc1
              unfold tv at hc1
              have HB := Lib.hid (hys hb)
              have HR := Lib.hid hor
              clear hb hno hys hor
              generalize hQ : pkn l (8 * j + t) j = q at *
              have HQ := Lib.hid hQ
              clear hQ
              go_wp2
              go_region
              go_wp2
              go_roundw
              case rel =>
                refine ⟨t + 1, by omega, by go_num, ?_, (HFr.out.setCell (fun h => by simp at h) _).drew⟩
                rw [show 8 * j + (t + 1) = 8 * j + t + 1 by omega, HB.out, HR.out]
                have hs := (HO.out.store (pk_length _ _).symm j (q + 2 ^ t).toUInt8).drew
                unfold bv at hs
                rwa [small8 (or_lt8 q t (by omega) hql)] at hs
              case measure => simp [intOf]; omega
          · obtain rfl : t = m := by omega
            rw [HX.out] at hown
            clear hmf
            go_wp2
            go_roundw
            case rel => exact ⟨j + 1, by omega, by go_num, hown, hfr⟩
            case measure => simp [intOf]; omega
    · obtain rfl : j = need l.length := by omega
      rw [pk_all l (by unfold need; omega)] at hown
      go_wp2
      go_ret
      exact ⟨_, rfl, hown.own, hfr⟩

set_option maxHeartbeats 1000000 in
theorem rpack_any (v : Value) (l : List Bool) (w : World) (hv : Vs tv w v l) (hl : l.length ≤ 1000000) :
    Calls Tryd.prog 27 #[v] w fun e w' => ∃ u, e = .returned u ∧ Own w' w.heap.size u (packB l) ∧ Fr Non w w' := by
  have HV := Lib.hid hv
  obtain ⟨A, c, rfl, hlc, hn, hcell⟩ := hv
  have HC := Lib.hid hcell
  have HN := Lib.hid hn
  have hnb : need l.length ≤ l.length := by unfold need; omega
  have h8 : 8 * need l.length < l.length + 8 ∧ l.length ≤ 8 * need l.length := by unfold need; omega
  clear hcell hn
  go_enter Tryd.func27, Tryd.ntmps27
  go_wp2
  go_loopw [3] (fun x wr => ∃ k : Nat, k ≤ need l.length ∧ Ow bv 5 wr w.heap.size x (List.replicate k 0) ∧ Fr Non w wr) (fun x _ => need l.length - slLen x)
  case atStart => exact ⟨0, Nat.zero_le _, ow_lit0 _ _ _ rfl (Nat.le_refl _), (Fr.refl _ _).alloc _⟩
  case round =>
    obtain ⟨k, hk, hown, hfr⟩ := hrel
    have hB := hfr.size
    by_cases hlt : k < need l.length
    · obtain ⟨A1, c1, rfl⟩ := hown.shape
      rw [List.length_replicate] at hown ⊢
      have h1 : 8 * k < l.length := by omega
      go_wp2_with (at_builtin; refine wpList_pushG el_u8 bv_oneC rfl (.tmp 12) (.tmp 13) rfl w.heap.size _ (List.replicate k 0) rfl hown _ (0 : UInt8) rfl rfl (by simp; omega) hB ?_; intro v2 w2 hown2 hfr2)
      go_roundw
      case rel => exact ⟨k + 1, by omega, by rw [List.replicate_succ']; exact hown2, hfr.fresh hfr2 fun q hq => (hown.lt q hq).1⟩
      case measure => rw [slLen_vs hown2.vs]; simp [slLen]; omega
    · obtain rfl : k = need l.length := by omega
      by_cases h0 : 0 < l.length
      · have hpos : 0 < (List.replicate (need l.length) (0 : UInt8)).length := by simp; omega
        obtain ⟨g, c1, rfl, hg1, hg2, hc1, _⟩ := hown.row hpos
        rw [List.length_replicate] at hown hc1 ⊢
        rw [← pk_zero] at hown
        clear hpos
        go_wp2
        go_loopw [4] (fun i wr => ∃ p : Nat, p ≤ l.length ∧ i = .int .i64 p ∧ Ow bv 5 wr w.heap.size (.slice (some ⟨g, 0, none⟩) (need l.length) c1) (pk l p) ∧ Fr Non w wr) (fun i _ => l.length - (intOf i).toNat)
        case atStart => exact ⟨0, Nat.zero_le _, rfl, hown, hfr⟩
        case round =>
          obtain ⟨p, hp, rfl, hown', hfr'⟩ := hrel
          have HO := Lib.hid hown'
          have HF := Lib.hid hfr'
          by_cases hlt : p < l.length
          · cases A with
            | none => have := HN.out rfl; omega
            | some a =>
              have hc0 := HC.out a rfl p hlt
              have hcl : wr.cell? (a.add p) = some (tv l[p]) := (hfr'.cell (World.block_lt_of_cell? w _ hc0) (fun e => e)).trans hc0
              have hq := hown'.cell (pk_length _ _).symm (p / 8) _ (pk_at l hlt)
              have hfz := hown'.frozen (pk_length _ _).symm (p / 8)
              have hql := pkn_lt l hlt
              have hys := pk_yes l hlt
              have hno := pk_no l hlt
              unfold bv at hq
              rw [small8 (pkn_lt8 _ _ _)] at hq
              clear hown' hfr' hown hfr hc0
              cases hb : l[p] with
              | false =>
                rw [hb] at hcl
                unfold tv at hcl
                have HB := Lib.hid (hno hb)
                clear hb hno hys
                go_wp2
                go_roundw
                case rel => exact ⟨p + 1, by omega, by go_num, by rw [HB.out]; exact HO.out, HF.out⟩
                case measure => simp [intOf]; omega
              | true =>
                rw [hb] at hcl
                unfold tv at hcl
                have HB := Lib.hid (hys hb)
                clear hb hno hys
                generalize hQ : pkn l p (p / 8) = q at *
                have HQ := Lib.hid hQ
                clear hQ
                have hp8 : p / 8 < need l.length := by unfold need; omega
                go_wp2
                go_region
                go_wp2
                go_roundw
                case rel =>
                  refine ⟨p + 1, by omega, by go_num, ?_, (HF.out.setCell (fun h => by simp at h; omega) _).drew⟩
                  rw [HB.out, add_low q (p % 8) (by omega) hql]
                  have hs := (HO.out.store (pk_length _ _).symm (p / 8) (q + 2 ^ (p % 8)).toUInt8).drew
                  unfold bv at hs
                  rwa [small8 (or_lt8 q (p % 8) (by omega) hql)] at hs
                case measure => simp [intOf]; omega
          · rw [pk_all l (by omega)] at hown'
            go_wp2
            go_ret
            exact ⟨_, rfl, hown'.own, hfr'⟩
      · obtain ⟨A1, c1, rfl⟩ := hown.shape
        rw [List.length_replicate] at hown ⊢
        rw [← pk_zero, pk_all l (show l.length ≤ 0 by omega)] at hown
        have HO := Lib.hid hown
        have hl0 : l.length ≤ 0 := by omega
        have hn0 : need l.length ≤ 0 := by omega
        clear hown
        go_wp2
        go_loop [4] (fun i => i = .int .i64 0) (fun _ => 0)
        case atStart => rfl
        case round =>
          subst hrel
          go_wp2
          go_ret
          exact ⟨_, rfl, HO.out.own, hfr⟩
end Go.Proofs.YtdofgniemkahnaaDoor


namespace Go.Proofs.YtdofgniemkahnaaDoor
set_option linter.unusedVariables false
set_option linter.unusedSimpArgs false
set_option maxRecDepth 100000
open Go.RowKit

/-- what unpacking answers: nothing and false, or the truths and true -/
def Unp (w : World) (B : Nat) (b : List UInt8) (n : Int) (e : Ending) (w' : World) : Prop :=
  (¬ (0 ≤ n ∧ Fit b n.toNat) ∧ e = .returned (.tuple #[.slice none 0 0, .bool false])) ∨
  ((0 ≤ n ∧ Fit b n.toNat) ∧ ∃ u, e = .returned (.tuple #[u, .bool true]) ∧ Ow tv 4 w' B u (unp b n.toNat))

theorem testBit_divI (x t : Nat) : (((x / 2 ^ t % 2 : Nat) : Int) == 1) = x.testBit t := by
  rw [← testBit_div]
  generalize x / 2 ^ t % 2 = r
  rw [Bool.eq_iff_iff, beq_iff_eq, beq_iff_eq]
  omega
theorem and_one (q : Nat) (h : q < 256) : bits .and .u8 (q : Int) 1 = ((q % 2 : Nat) : Int) := by
  have all : ∀ q : Fin 256, bits .and .u8 (q.1 : Int) 1 = ((q.1 % 2 : Nat) : Int) := by decide +kernel
  exact all ⟨q, h⟩

set_option maxHeartbeats 2000000 in
theorem unpack_any (v : Value) (b : List UInt8) (n : Int) (w : World) (hv : Bs w v b) (hl : b.length ≤ 100000) (h1 : -9223372036854775808 ≤ n) (h2 : n ≤ 9223372036854775807) :
    Calls Tryd.prog 43 #[v, .int .i64 n] w fun e w' => Unp w w.heap.size b n e w' ∧ Fr Non w w' := by
  have HV := Lib.hid hv.vs
  obtain ⟨A, c, rfl, hlc, hn, hcell⟩ := hv
  have HC := Lib.hid hcell
  have HN := Lib.hid hn
  clear hcell hn
  by_cases hn0 : n < 0
  · have hb : decide (n < 0) = true := by simpa using hn0
    go_enter Tryd.func43, Tryd.ntmps43
    go_wp2
    go_ret2
    exact ⟨.inl ⟨by omega, rfl⟩, Fr.refl _ _⟩
  · obtain ⟨m, rfl⟩ := Int.eq_ofNat_of_zero_le (show 0 ≤ n by omega)
    have hb : decide ((m : Int) < 0) = false := by simp
    by_cases hlen : b.length = need m
    · have HB := Lib.hid hlen
      have hne : ((b.length : Int) != (need m : Nat)) = false := by rw [hlen]; simp
      have hm8 : m ≤ 8 * b.length ∧ 8 * b.length < m + 8 := by rw [hlen]; unfold need; omega
      clear hlen hn0
      go_enter Tryd.func43, Tryd.ntmps43
      go_wp2_with fail
      refine (need_any m w (by omega)).mono ?_
      rintro e w' ⟨rfl, rfl⟩
      go_wp2_with (at_make; refine wpList_mkG tv el_bool rfl _ _ rfl _ _ _ m rfl rfl rfl (by omega) ?_; intro v1 w1 hown1 hfr1)
      clear hne
      go_loopw [6, 22] (fun x i wr => ∃ j : Nat, j ≤ b.length ∧ i = .int .i64 j ∧ Ow tv 4 wr w.heap.size x (unp b (min m (8 * j))) ∧ Hid (∀ i, i < 8 * j → m ≤ i → bitOf b i = false) ∧ Fr Non w wr) (fun _ i _ => b.length - (intOf i).toNat)
      case atStart => exact ⟨0, Nat.zero_le _, rfl, by rw [Nat.mul_zero, Nat.min_eq_right (Nat.zero_le _)]; exact hown1, Lib.hid (fun i hi => by omega), hfr1⟩
      case round =>
        obtain ⟨j, hj, rfl, hown, HG, hfr⟩ := hrel
        by_cases hlt : j < b.length
        · have h8 : 8 * j < m := by omega
          rw [show min m (8 * j) = 8 * j by omega] at hown
          obtain ⟨A1, c1, rfl⟩ := hown.shape
          rw [unp_length] at hown ⊢
          cases A with
          | none => have := HN.out rfl; omega
          | some a =>
            have hc0 := HC.out a rfl j hlt
            have hc1 : wr.cell? (a.add j) = some (bv b[j]) := (hfr.cell (World.block_lt_of_cell? w _ hc0) (fun e => e)).trans hc0
            have HX := Lib.hid (fun t ht => bit_byte b j t hlt ht)
            have hx := b[j].toNat_lt
            unfold bv at hc1
            clear hc0 hown1 hfr1
            generalize b[j] = xb at *
            have hex : ∃ r, r ≤ 8 ∧ r ≤ m - 8 * j ∧ 0 < r ∧ min 8 (m - 8 * j) ≤ r := ⟨min 8 (m - 8 * j), by omega, by omega, by omega, by omega⟩
            obtain ⟨r, hr8, hrm, hr1, hr⟩ := hex
            by_cases h7 : 8 ≤ m - 8 * j
            all_goals
              go_wp2
              go_loopw [6, 8, 34] (fun x q i wr => ∃ t : Nat, t ≤ r ∧ i = .int .i64 t ∧ q = .int .u8 (xb.toNat / 2 ^ t : Nat) ∧ Ow tv 4 wr w.heap.size x (unp b (8 * j + t)) ∧ Fr Non w wr) (fun _ _ i _ => 8 - (intOf i).toNat)
              case atStart => exact ⟨0, Nat.zero_le _, rfl, by simp, hown, hfr⟩
              case round =>
                obtain ⟨t, ht, rfl, rfl, hown, hfr⟩ := hrel
                have hB := hfr.size
                by_cases htr : t < r
                · obtain ⟨A2, c2, rfl⟩ := hown.shape
                  rw [unp_length] at hown ⊢
                  have hlq : xb.toNat / 2 ^ t < 256 := Nat.lt_of_le_of_lt (Nat.div_le_self _ _) hx
                  have HT := Lib.hid (show (bits .and .u8 ((xb.toNat / 2 ^ t : Nat) : Int) 1 == 1) = bitOf b (8 * j + t) by rw [HX.out t (by omega), and_one _ hlq]; exact testBit_divI _ _)
                  have HQ := Lib.hid (show xb.toNat / 2 ^ (t + 1) = xb.toNat / 2 ^ t / 2 by rw [Nat.pow_succ, Nat.div_div_eq_div_mul])
                  generalize hq : xb.toNat / 2 ^ t = q at *
                  clear hq
                  go_wp2_with (at_builtin; refine wpList_pushG el_bool tv_one rfl (.tmp 36) (.tmp 40) rfl w.heap.size _ (unp b (8 * j + t)) rfl hown _ (bitOf b (8 * j + t)) (congrArg Value.bool HT.out) rfl (by rw [unp_length]; omega) hB ?_; intro v2 w2 hown2 hfr2)
                  go_roundw
                  case rel => exact ⟨t + 1, by omega, by go_num, by rw [HQ.out]; go_num, by rw [show 8 * j + (t + 1) = 8 * j + t + 1 by omega, unp_succ]; exact hown2, hfr.fresh hfr2 fun q hq => (hown.lt q hq).1⟩
                  case measure => simp [intOf]; omega
                · obtain rfl : t = r := by omega
                  have HL : Hid (∀ i, xb.toNat / 2 ^ t = 0 → t ≤ i → xb.toNat.testBit i = false) := Lib.hid (fun i h hi => left_zero _ _ _ h hi)
                  have HS := Lib.hid (left_some xb.toNat t)
                  have hq0 : t = 8 → xb.toNat / 2 ^ t = 0 := fun e => by subst e; simp; omega
                  have hlq : xb.toNat / 2 ^ t < 256 := Nat.lt_of_le_of_lt (Nat.div_le_self _ _) hx
                  generalize xb.toNat / 2 ^ t = q at *
                  by_cases hz : q = 0
                  · have hzz := Lib.hid hz
                    have ht0 : ((q : Int) != 0) = false := by rw [hz]; rfl
                    clear hz hq0
                    go_wp2
                    go_roundw
                    case rel =>
                      refine ⟨j + 1, by omega, by go_num, ?_, Lib.hid ?_, hfr⟩
                      · rw [show min m (8 * (j + 1)) = 8 * j + t by omega]; exact hown
                      · intro i hi hmi
                        by_cases hij : i < 8 * j
                        · exact HG.out i hij hmi
                        · have := HX.out (i - 8 * j) (by omega)
                          rw [show 8 * j + (i - 8 * j) = i by omega] at this
                          rw [this]
                          exact HL.out _ hzz.out (by omega)
                    case measure => simp [intOf]; omega
                  · have ht0 : ((q : Int) != 0) = true := by
                      rw [bne_iff_ne]; exact fun e => hz (by exact_mod_cast e)
                    have Hz := Lib.hid hz
                    have Hq0 := Lib.hid hq0
                    clear hz hq0
                    go_wp2
                    go_ret2
                    refine ⟨.inl ⟨fun h => ?_, rfl⟩, hfr⟩
                    obtain ⟨i, hi, hbi⟩ := HS.out Hz.out
                    have hi8 : i < 8 := by
                      rcases Nat.lt_or_ge i 8 with h | h
                      · exact h
                      · rw [u8_testBit xb h] at hbi; cases hbi
                    have ht8 : t ≠ 8 := fun e => Hz.out (Hq0.out e)
                    have h1 := HX.out i hi8
                    have h2 := h.2.2 (8 * j + i) (by simp; omega)
                    rw [h1, hbi] at h2
                    cases h2
        · obtain rfl : j = b.length := by omega
          rw [show min m (8 * b.length) = m by omega] at hown
          go_wp2
          go_ret2
          refine ⟨.inr ⟨⟨by omega, fit_of (by simpa using HB.out) (by simpa using HG.out)⟩, _, rfl, ?_⟩, hfr⟩
          simpa using hown
    · have hne : ((b.length : Int) != (need m : Nat)) = true := by simp; omega
      go_enter Tryd.func43, Tryd.ntmps43
      go_wp2_with fail
      refine (need_any m w (by omega)).mono ?_
      rintro e w' ⟨rfl, rfl⟩
      go_wp2
      go_ret2
      exact ⟨.inl ⟨fun h => hlen h.2.1, rfl⟩, Fr.refl _ _⟩
end Go.Proofs.YtdofgniemkahnaaDoor


namespace Go.Proofs.YtdofgniemkahnaaDoor
set_option linter.unusedVariables false
set_option linter.unusedSimpArgs false
set_option maxRecDepth 100000
open Go.RowKit

theorem ret_bool {a b : Bool} (h : a = b) : Ending.returned (.bool a) = .returned (.bool b) := by rw [h]
theorem take_ne {α : Type} [DecidableEq α] {a b : List α} {k : Nat} (hk : k < a.length) (hk2 : k < b.length) (h : a[k] ≠ b[k]) : a ≠ b := by
  intro e; subst e; exact h rfl
theorem take_eq_succ {α : Type} {a b : List α} {k : Nat} (hk : k < a.length) (hk2 : k < b.length) (h : a.take k = b.take k) (he : a[k] = b[k]) : a.take (k + 1) = b.take (k + 1) := by
  rw [List.take_succ_eq_append_getElem hk, List.take_succ_eq_append_getElem hk2, h, he]

set_option maxHeartbeats 1000000 in
theorem bools_any (v1 v2 : Value) (l1 l2 : List Bool) (w : World) (h1 : Vs tv w v1 l1) (h2 : Vs tv w v2 l2) (hl1 : l1.length ≤ 9223372036854775807) (hl2 : l2.length ≤ 9223372036854775807) :
    Calls Tryd.prog 12 #[v1, v2] w fun e w' => e = .returned (.bool (l1 == l2)) ∧ Fr Non w w' := by
  obtain ⟨A1, c1, rfl, hc1, hn1, hcell1⟩ := h1
  obtain ⟨A2, c2, rfl, hc2, hn2, hcell2⟩ := h2
  have HN1 := Lib.hid hn1
  have HN2 := Lib.hid hn2
  have HC1 := Lib.hid hcell1
  have HC2 := Lib.hid hcell2
  clear hn1 hn2 hcell1 hcell2
  by_cases hlen : l1.length = l2.length
  · have HL := Lib.hid hlen
    have hb : ((l1.length : Int) != l2.length) = false := by rw [hlen]; simp
    have hle : l1.length ≤ l2.length := by omega
    have hge : l2.length ≤ l1.length := by omega
    clear hlen
    go_enter Tryd.func12, Tryd.ntmps12
    go_wp2
    go_loopw [5] (fun i wr => ∃ k : Nat, k ≤ l1.length ∧ i = .int .i64 k ∧ Hid (l1.take k = l2.take k) ∧ ∃ n, wr = w.drewN n) (fun i _ => l1.length - (intOf i).toNat)
    case atStart => exact ⟨0, Nat.zero_le _, rfl, Lib.hid rfl, 0, rfl⟩
    case round =>
      obtain ⟨k, hk, rfl, HT, n, rfl⟩ := hrel
      by_cases hlt : k < l1.length
      · cases A1 with
        | none => have := HN1.out rfl; omega
        | some a1 =>
          cases A2 with
          | none => have := HN2.out rfl; omega
          | some a2 =>
            have g1 : w.cell? (a1.add k) = some (tv l1[k]) := HC1.out a1 rfl k hlt
            have g2 : w.cell? (a2.add k) = some (tv (l2[k]'(by omega))) := HC2.out a2 rfl k (by omega)
            unfold tv at g1 g2
            by_cases he : l1[k] = l2[k]'(by omega)
            · have HE := Lib.hid (take_eq_succ hlt (by omega) HT.out he)
              rw [← he] at g2
              clear he
              generalize l1[k] = x at *
              cases x
              all_goals
                go_wp2
                go_quiet (fail)
                go_wp2
                go_roundw
                case rel => exact ⟨k + 1, by omega, by go_num, HE, _, rfl⟩
                case measure => simp [intOf]; omega
            · have HE := Lib.hid (take_ne hlt (by omega) he)
              have hx : (l1[k] != l2[k]'(by omega)) = true := by rw [bne_iff_ne]; exact he
              clear he
              generalize l1[k] = x at *
              generalize l2[k]'(by omega) = y at *
              cases x <;> cases y <;> simp at hx
              all_goals
                go_wp2
                go_quiet (fail)
                go_wp2
                go_ret
                exact ⟨ret_bool (beq_eq_false_iff_ne.2 HE.out).symm, ((Fr.refl _ _).drewN _).drewN _⟩
      · have HE : Hid (l1 = l2) := Lib.hid (by
          have := HT.out
          rwa [List.take_of_length_le (by omega), List.take_of_length_le (by omega)] at this)
        go_wp2
        go_ret
        exact ⟨ret_bool (beq_iff_eq.2 HE.out).symm, (Fr.refl _ _).drewN _⟩
  · have hb : ((l1.length : Int) != l2.length) = true := by rw [bne_iff_ne]; omega
    have HE : Hid (l1 ≠ l2) := Lib.hid (fun e => hlen (by rw [e]))
    clear hlen
    go_enter Tryd.func12, Tryd.ntmps12
    go_wp2
    go_ret
    exact ⟨ret_bool (beq_eq_false_iff_ne.2 HE.out).symm, Fr.refl _ _⟩
end Go.Proofs.YtdofgniemkahnaaDoor


namespace Go.Proofs.YtdofgniemkahnaaDoor
set_option linter.unusedVariables false
set_option linter.unusedSimpArgs false
set_option maxRecDepth 100000
open Go.RowKit

set_option maxHeartbeats 1000000 in
theorem deput_any (v : Value) (l : List Bool) (w : World) (hv : Vs tv w v l) (ht : Tab w) (hl : l.length ≤ 1000000) :
    Calls Tryd.prog 7 #[v] w fun e w' => ∃ u, e = .returned u ∧ Own w' w.heap.size u (deadB l) ∧ Fr Non w w' := by
  have HV := Lib.hid hv
  have HT := Lib.hid ht
  obtain ⟨A, c, rfl⟩ := hv.shape
  have hu64 : IntKind.u64.wrap (l.length : Int) = l.length := IntWalk.u64_in _ ⟨by omega, by omega⟩
  clear hv ht
  by_cases h : l.length ≤ 200
  · have HD : Hid (deadB l = frameB (sayD l)) := Lib.hid (by unfold deadB; rw [if_pos h])
    have HL := Lib.hid (sayD_len (l := l) (by omega))
    go_enter Tryd.func7, Tryd.ntmps7
    go_wp2_with fail
    refine (vnum_any l.length w (by unfold two64; omega)).mono ?_
    rintro e w1 ⟨v1, rfl, o1, f1⟩
    have HV1 := Lib.hid (HV.out.non f1)
    go_wp2_with fail
    refine (pack_any _ l w1 HV1.out hl).mono ?_
    rintro e w2 ⟨v2, rfl, o2, f2⟩
    have p1 := o1.bs.non f2
    have p2 := o2.bs
    have F2 := f1.trans f2
    obtain ⟨A1, c1, rfl⟩ := p1.shape
    obtain ⟨A2, c2, rfl⟩ := p2.shape
    have HP := Lib.hid (Parts.two (t := 24) p1 p2)
    have HF2 := Lib.hid F2
    clear o1 o2 f1 f2 p1 p2 F2 HV1
    go_wp2_with fail
    refine (concat_any _ 2 2 _ [Lib.uvarint l.length, packB l] _ rfl (by omega) HP.out (by have := HL.out; unfold sayD at this; simp at this ⊢; omega)).mono ?_
    rintro e w3 ⟨v3, rfl, o3, f3⟩
    have F3 := HF2.out.alloc (.cells #[.slice A1 (Lib.uvarint l.length).length c1, .slice A2 (packB l).length c2] 24) |>.trans f3
    have o3' := o3
    rw [show [Lib.uvarint l.length, packB l].flatten = sayD l by simp [sayD]] at o3'
    have hs3 := F3.size
    have HP3 := Lib.hid (fput_any v3 (sayD l) w3 o3'.bs (HT.out.non F3) (by have := HL.out; omega))
    have HF3 := Lib.hid F3
    obtain ⟨A3, c3, rfl⟩ := o3'.bs.shape
    clear o3 f3 F3 HP HF2 o3'
    go_wp2_with fail
    refine HP3.out.mono ?_
    rintro e w4 ⟨v4, rfl, o4, f4⟩
    go_wp2
    go_ret
    exact ⟨v4, rfl, by rw [HD.out]; exact o4.mono hs3, HF3.out.trans f4⟩
  · have HD : Hid (deadB l = []) := Lib.hid (by unfold deadB; rw [if_neg h])
    have hb : decide ((200 : Int) < l.length) = true := by simp; omega
    go_enter Tryd.func7, Tryd.ntmps7
    go_wp2
    go_ret
    exact ⟨_, rfl, by rw [HD.out]; exact own_nil _ _, Fr.refl _ _⟩

/-- what take answers -/
def TkD (w : World) (B : Nat) (x : List UInt8) (e : Ending) : Prop :=
  (¬ TellD x ∧ e = .returned (.tuple #[.slice none 0 0, .bool false])) ∨ (TellD x ∧ ∃ u, e = .returned (.tuple #[u, .bool true]) ∧ Ow tv 4 w B u (tellD x))

set_option maxHeartbeats 1000000 in
theorem detake_any (v : Value) (x : List UInt8) (w : World) (hv : Bs w v x) (hl : x.length ≤ 100000) :
    Calls Tryd.prog 24 #[v] w fun e w' => TkD w' w.heap.size x e ∧ Fr Non w w' := by
  have HV := Lib.hid hv
  obtain ⟨A, c, rfl⟩ := hv.shape
  have HS := Lib.hid (mostR_sm x 200)
  have hm := mostV_leD x (show (0 : Int) ≤ 200 by omega)
  clear hv
  go_enter Tryd.func24, Tryd.ntmps24
  go_wp2_with fail
  refine (from_any _ x w HV.out).mono ?_
  rintro e w1 ⟨rfl, s1, f1⟩
  generalize hg : w.heap.size = g at *
  have HF1 := Lib.hid f1
  have HB := Lib.hid (below_any g x false 201 w1 s1 (by omega))
  clear s1 f1
  go_wp2_with fail
  refine HB.out.mono ?_
  rintro e w2 ⟨rfl, s2, f2⟩
  rw [show (201 : Int) - 1 = 200 by rfl] at s2
  have HF2 := Lib.hid (HF1.out.fresh f2 (fun k hk => by unfold One at hk; omega))
  have HO := Lib.hid (ok_any g _ _ w2 s2)
  have HL := Lib.hid (left_any g _ _ w2 s2)
  have HT := Lib.hid (take_any g _ _ (mostR x 200).length w2 s2)
  clear s2 f2 HF1 HB
  cases hb : mostB x 200 with
  | true =>
    rw [hb] at HO
    have HN : Hid (¬ TellD x) := Lib.hid (fun h => by have := h.1; rw [hb] at this; cases this)
    clear hb
    go_wp2_with fail
    refine HO.out.mono ?_
    rintro e w3 ⟨rfl, rfl⟩
    go_wp2
    go_ret2
    exact ⟨.inl ⟨HN.out, rfl⟩, HF2.out⟩
  | false =>
    rw [hb] at HO
    have HN := Lib.hid hb
    clear hb
    go_wp2_with fail
    refine HO.out.mono ?_
    rintro e w3 ⟨rfl, rfl⟩
    go_wp2_with fail
    refine HL.out.mono ?_
    rintro e w3 ⟨rfl, rfl⟩
    go_wp2_with fail
    refine HT.out.mono ?_
    rintro e w4 ⟨v4, rfl, b4, n4, s4, f4⟩
    have hcut : cutT (mostR x 200) (mostR x 200).length = mostR x 200 := by
      unfold cutT cutOk
      rw [if_pos (decide_eq_true ⟨by omega, Int.le_refl _⟩)]
      simp
    rw [hcut] at b4
    have HF4 := Lib.hid (HF2.out.fresh f4 (fun k hk => by unfold One at hk; omega))
    have hs4 := HF4.out.size
    have HU := Lib.hid (unpack_any _ _ (mostV x 200) w4 b4 (by have := HS.out; omega) (by omega) (by omega))
    obtain ⟨A4, c4, rfl⟩ := b4.shape
    clear b4 n4 s4 f4 hcut HO HL HT
    go_wp2_with fail
    refine HU.out.mono ?_
    rintro e w5 ⟨h5, f5⟩
    have F5 := Lib.hid (HF4.out.trans f5)
    rcases h5 with ⟨hn, rfl⟩ | ⟨hy, u, rfl, ou⟩
    · have HN2 : Hid (¬ TellD x) := Lib.hid (fun h => hn ⟨by omega, by rw [Int.toNat_natCast]; exact h.2⟩)
      clear hn
      go_wp2
      go_ret2
      exact ⟨.inl ⟨HN2.out, rfl⟩, F5.out⟩
    · rw [Int.toNat_natCast] at ou
      have HY : Hid (TellD x) := Lib.hid ⟨HN.out, by have := hy.2; rwa [Int.toNat_natCast] at this⟩
      have HOu := Lib.hid ou
      clear hy ou
      go_wp2
      go_ret2
      exact ⟨.inr ⟨HY.out, u, rfl, HOu.out.mono (by omega)⟩, F5.out⟩

/-- what Get answers -/
def GtD14 (w : World) (B : Nat) (b : List UInt8) (n : Int) (e : Ending) : Prop := ∃ u, e = .returned (.tuple #[u, .int .i64 ((getD14 b n).2 : Nat)]) ∧ Ow tv 4 w B u (getD14 b n).1
theorem gtD_is {w : World} {B : Nat} {b : List UInt8} {n : Int} {l : List Bool} {k : Nat} {u : Value} {z : Int} (h : getD14 b n = (l, k)) (hz : z = (k : Int)) (hu : Ow tv 4 w B u l) : GtD14 w B b n (.returned (.tuple #[u, .int .i64 z])) := by
  subst hz
  exact ⟨u, by rw [h], by rw [h]; exact hu⟩

set_option maxHeartbeats 2000000 in
theorem deget_any (v : Value) (b : List UInt8) (n : Int) (w : World) (hv : Bs w v b) (ht : Tab w) (hl : b.length ≤ 100000) (h1 : -9223372036854775808 ≤ n) (h2 : n ≤ 9223372036854775807) :
    Calls Tryd.prog 8 #[v, .int .i64 n] w fun e w' => GtD14 w' w.heap.size b n e ∧ Fr Non w w' := by
  have hG := fget_any v b w hv ht (by omega)
  obtain ⟨A, c, rfl⟩ := hv.shape
  clear hv ht
  go_enter Tryd.func8, Tryd.ntmps8
  go_wp2_with fail
  refine hG.mono ?_
  rintro e w1 ⟨u1, rfl, o1, f1⟩
  have hs1 := f1.size
  have hgb : (gB b).length ≤ b.length := by
    unfold gB; split
    · unfold bodyF; rw [List.length_take, List.length_drop]; omega
    · simp
  have HT := Lib.hid (detake_any u1 (gB b) w1 o1.bs (by omega))
  obtain ⟨A1, c1, rfl⟩ := o1.bs.shape
  have HF1 := Lib.hid f1
  clear hG o1 f1 hgb
  by_cases he : gE b = 0
  · have hb : (((gE b : Nat) : Int) != 0) = false := by rw [he]; rfl
    have HE := Lib.hid he
    clear he
    go_wp2_with fail
    refine HT.out.mono ?_
    rintro e w2 ⟨h2, f2⟩
    have HF2 := Lib.hid (HF1.out.trans f2)
    have hs2 := f2.size
    rcases h2 with ⟨hn, rfl⟩ | ⟨hy, u, rfl, ou⟩
    · have HN := Lib.hid (getD_no (n := n) HE.out (fun h => hn h.1))
      clear hn
      go_wp2
      go_ret2
      exact ⟨gtD_is HN.out rfl (ow_nil _ _), HF2.out⟩
    · have hlen := tellD_len (gB b)
      have HO := Lib.hid (ou.mono hs1)
      obtain ⟨A2, c2, rfl⟩ := ou.shape
      clear ou
      by_cases hg : (mostV (gB b) 200 : Int) = n ∧ gN b = b.length
      · have HN := Lib.hid (getD_yes HE.out ⟨hy, hg⟩)
        obtain ⟨hg1, hg2⟩ := hg
        have b1 : (((tellD (gB b)).length : Int) != n) = false := by rw [hlen, hg1]; simp
        have b2 : (((gN b : Nat) : Int) != (b.length : Int)) = false := by rw [hg2]; simp
        clear hy hg1 hg2 hlen
        go_wp2
        go_ret2
        exact ⟨gtD_is HN.out rfl HO.out, HF2.out⟩
      · have HN := Lib.hid (getD_no (n := n) HE.out (fun h => hg h.2))
        by_cases hg1 : (mostV (gB b) 200 : Int) = n
        · have b1 : (((tellD (gB b)).length : Int) != n) = false := by rw [hlen, hg1]; simp
          have b2 : (((gN b : Nat) : Int) != (b.length : Int)) = true := by
            rw [bne_iff_ne]; intro e; exact hg ⟨hg1, by omega⟩
          clear hy hg hg1 hlen
          go_wp2
          go_ret2
          exact ⟨gtD_is HN.out rfl (ow_nil _ _), HF2.out⟩
        · have b1 : (((tellD (gB b)).length : Int) != n) = true := by
            rw [bne_iff_ne, hlen]; exact hg1
          clear hy hg hg1 hlen
          go_wp2
          go_ret2
          exact ⟨gtD_is HN.out rfl (ow_nil _ _), HF2.out⟩
  · have hb : (((gE b : Nat) : Int) != 0) = true := by rw [bne_iff_ne]; omega
    have HN := Lib.hid (getD_err (n := n) he)
    clear he
    go_wp2
    go_ret2
    exact ⟨gtD_is HN.out rfl (ow_nil _ _), HF1.out⟩
end Go.Proofs.YtdofgniemkahnaaDoor


namespace Go.Proofs.YtdofgniemkahnaaDoor
set_option linter.unusedVariables false
set_option linter.unusedSimpArgs false
set_option maxRecDepth 100000
open Go.RowKit

set_option maxHeartbeats 1000000 in
theorem rdeput_any (v : Value) (l : List Bool) (w : World) (hv : Vs tv w v l) (hl : l.length ≤ 1000000) :
    Calls Tryd.prog 11 #[v] w fun e w' => ∃ u, e = .returned u ∧ Own w' w.heap.size u (deadB l) ∧ Fr Non w w' := by
  have HV := Lib.hid hv
  obtain ⟨A, c, rfl⟩ := hv.shape
  have hu64 : IntKind.u64.wrap (l.length : Int) = l.length := IntWalk.u64_in _ ⟨by omega, by omega⟩
  clear hv
  by_cases h : l.length ≤ 200
  · have HD : Hid (deadB l = frameB (sayD l)) := Lib.hid (by unfold deadB; rw [if_pos h])
    have HL := Lib.hid (sayD_len (l := l) (by omega))
    have HX : Hid ((Lib.uvarint l.length).length + (packB l).length < 100) := Lib.hid (by have := HL.out; unfold sayD at this; rw [List.length_append] at this; omega)
    go_enter Tryd.func11, Tryd.ntmps11
    go_wp2_with fail
    refine (rnum_any l.length w (by unfold two64; omega)).mono ?_
    rintro e w1 ⟨v1, rfl, o1, f1⟩
    have HV1 := Lib.hid (HV.out.non f1)
    have hs1 := f1.size
    go_wp2_with fail
    refine (rpack_any _ l w1 HV1.out hl).mono ?_
    rintro e w2 ⟨v2, rfl, o2, f2⟩
    have hs2 := f2.size
    have HO1 := Lib.hid (o1.non f2)
    have HO2 := Lib.hid o2.bs
    have HF2 := Lib.hid (f1.trans f2)
    obtain ⟨A1, c1, rfl⟩ := o1.bs.shape
    obtain ⟨A2, c2, rfl⟩ := o2.bs.shape
    clear o1 o2 f1 f2 HV1
    go_wp2_with (at_builtin; refine wpList_app rfl (.tmp 9) (.tmp 11) rfl w.heap.size (.slice A1 (Lib.uvarint l.length).length c1) (.slice A2 (packB l).length c2) (Lib.uvarint l.length) (packB l) rfl HO1.out rfl HO2.out (by have := HX.out; omega) (by omega) ?_; intro v3 w3 o3 f3)
    have F3 := HF2.out.fresh f3 (fun k hk => (HO1.out.lt k hk).1)
    have o3' : Own w3 w.heap.size v3 (sayD l) := o3
    have HP3 := Lib.hid (rput_any v3 (sayD l) w3 o3'.bs (by have := HL.out; omega))
    have HF3 := Lib.hid F3
    obtain ⟨A3, c3, rfl⟩ := o3'.bs.shape
    clear o3 f3 F3 HF2 o3' HO1 HO2
    refine HP3.out.mono ?_
    rintro e w4 ⟨v4, rfl, o4, f4⟩
    go_wp2
    go_ret
    exact ⟨v4, rfl, by rw [HD.out]; exact o4.mono HF3.out.size, HF3.out.trans f4⟩
  · have HD : Hid (deadB l = []) := Lib.hid (by unfold deadB; rw [if_neg h])
    have hb : decide ((200 : Int) < l.length) = true := by simp; omega
    go_enter Tryd.func11, Tryd.ntmps11
    go_wp2
    go_ret
    exact ⟨_, rfl, by rw [HD.out]; exact own_nil _ _, Fr.refl _ _⟩

end Go.Proofs.YtdofgniemkahnaaDoor


namespace Go.Proofs.YtdofgniemkahnaaDoor
set_option linter.unusedVariables false
set_option linter.unusedSimpArgs false
set_option maxRecDepth 100000
open Go.RowKit

/-- a cell's three values, and those of many -/
def clL (c : Cl) : List Value := [.bool c.null, .int .i64 c.num, .string ⟨c.txt.toArray⟩]
def clsL (l : List Cl) : List Value := l.flatMap clL
theorem clsL_cons (c : Cl) (l : List Cl) : clsL (c :: l) = clL c ++ clsL l := by simp [clsL]
theorem clsL_at (l : List Cl) (j : Nat) (i : Nat) (hj : j < l.length) (hi : i < 3) : (clsL l)[j * 3 + i]? = (clL l[j])[i]? := by
  induction l generalizing j with
  | nil => cases hj
  | cons c l ih =>
    rw [clsL_cons]
    cases j with
    | zero => rw [List.getElem?_append_left (by simp [clL]; omega)]; simp
    | succ j =>
      rw [List.getElem?_append_right (by simp [clL]; omega)]
      rw [show (j + 1) * 3 + i - (clL c).length = j * 3 + i by simp [clL]; omega]
      exact ih j (by simpa using hj)
/-- three cells, one behind the other, that hold c -/
structure At3 (w : World) (a : Addr) (c : Cl) : Prop where
  c0 : w.cell? a = some (.bool c.null)
  c1 : w.cell? (a.add 1) = some (.int .i64 c.num)
  c2 : w.cell? (a.add 2) = some (.string ⟨c.txt.toArray⟩)

/-- the slice v reads as the cells l -/
def Cs (w : World) (v : Value) (l : List Cl) : Prop :=
  ∃ A c, v = .slice A l.length c ∧ l.length ≤ c ∧ (A = none → c = 0) ∧ ∀ a, A = some a → ∀ j (h : j < l.length), At3 w (a.add (j * 3)) l[j]
/-- a row of the call's own, from block B on -/
def Oc (w : World) (B : Nat) (v : Value) (l : List Cl) : Prop := w.ownsRow B 62 3 v l.length (clsL l)

theorem At3.keep {w w' : World} {a : Addr} {c : Cl} (h : At3 w a c) (hk : w'.heap[a.block]? = w.heap[a.block]?) : At3 w' a c := by
  obtain ⟨h0, h1, h2⟩ := h
  exact ⟨by rw [← h0]; exact World.cell?_of_block hk, by rw [← h1]; exact World.cell?_of_block (by rw [add_block]; exact hk), by rw [← h2]; exact World.cell?_of_block (by rw [add_block]; exact hk)⟩

theorem Cs.nil_ (w : World) : Cs w (.slice none 0 0) [] := ⟨none, 0, rfl, Nat.le_refl _, fun _ => rfl, fun _ h => by cases h⟩
theorem Cs.keep {w w' : World} {v : Value} {l : List Cl} (h : Cs w v l) (hk : ∀ k, v.ownBlock = some k → k < w.heap.size → w'.heap[k]? = w.heap[k]?) : Cs w' v l := by
  obtain ⟨A, c, rfl, h1, h2, h3⟩ := h
  refine ⟨A, c, rfl, h1, h2, fun a ha j hj => ?_⟩
  have := h3 a ha j hj
  subst ha
  have hb := World.block_lt_of_cell? w _ this.c0
  refine this.keep ?_
  rw [add_block] at hb ⊢
  exact hk _ rfl hb
theorem Cs.fr {S : Nat → Prop} {w w' : World} {v : Value} {l : List Cl} (h : Cs w v l) (hf : Fr S w w') (hn : ∀ k, v.ownBlock = some k → ¬ S k) : Cs w' v l :=
  h.keep fun k hk hlt => hf.block k hlt (hn k hk)
theorem Cs.non {w w' : World} {v : Value} {l : List Cl} (h : Cs w v l) (hf : Fr Non w w') : Cs w' v l := h.fr hf fun _ _ e => e
theorem Cs.drew {w : World} {v : Value} {l : List Cl} (h : Cs w v l) : Cs w.drew v l := h.keep fun _ _ _ => rfl
theorem Cs.shape {w : World} {v : Value} {l : List Cl} (h : Cs w v l) : ∃ A c, v = .slice A l.length c := by
  obtain ⟨A, c, rfl, _⟩ := h; exact ⟨A, c, rfl⟩
theorem Cs.addr {w : World} {A : Option Addr} {n c : Nat} {l : List Cl} (h : Cs w (.slice A n c) l) (hl : 0 < n) : ∃ a, A = some a ∧ n = l.length ∧ n ≤ c ∧ ∀ j (h : j < l.length), At3 w (a.add (j * 3)) l[j] := by
  obtain ⟨A0, c0, he, h1, h2, h3⟩ := h
  simp only [Value.slice.injEq] at he
  obtain ⟨rfl, rfl, rfl⟩ := he
  cases A with
  | none => have := h2 rfl; omega
  | some a => exact ⟨a, rfl, rfl, h1, h3 a rfl⟩
/-- what a walk asks of the element at j -/
theorem Cs.el {w : World} {a : Addr} {n c : Nat} {l : List Cl} (h : Cs w (.slice (some a) n c) l) (j : Nat) (x : Cl) (hx : l[j]? = some x) :
    w.cell? (a.add (j * 3)) = some (.bool x.null) ∧ w.cell? ((a.add (j * 3)).add 1) = some (.int .i64 x.num) ∧ w.cell? ((a.add (j * 3)).add 2) = some (.string ⟨x.txt.toArray⟩) := by
  obtain ⟨A0, c0, he, h1, h2, h3⟩ := h
  simp only [Value.slice.injEq] at he
  obtain ⟨rfl, rfl, rfl⟩ := he
  obtain ⟨hj, rfl⟩ := List.getElem?_eq_some_iff.1 hx
  have := h3 a rfl j hj
  exact ⟨this.c0, this.c1, this.c2⟩

theorem Oc.lt {w : World} {B : Nat} {v : Value} {l : List Cl} (h : Oc w B v l) : ∀ k, v.ownBlock = some k → B ≤ k ∧ k < w.heap.size := World.ownsRow.lt h
theorem Oc.cs {w : World} {B : Nat} {v : Value} {l : List Cl} (h : Oc w B v l) : Cs w v l := by
  rcases h.2 with ⟨rfl, h0⟩ | ⟨g, cap, cur, rfl, _, _, hle, _, _, _⟩
  · have hl : l = [] := List.eq_nil_of_length_eq_zero h0
    subst hl; exact Cs.nil_ w
  · refine ⟨_, cap, rfl, hle, (fun h => by cases h), fun a ha j hj => ?_⟩
    cases ha
    have H := fun i hi => World.ownsRow.cells h (g := g) rfl (j * 3 + i) _ ((clsL_at l j i hj hi).trans (List.getElem?_eq_getElem (by simp [clL]; omega)))
    refine ⟨?_, ?_, ?_⟩
    · have := H 0 (by omega); simpa [clL] using this
    · rw [add_add]; have := H 1 (by omega); simpa [clL] using this
    · rw [add_add]; have := H 2 (by omega); simpa [clL] using this
theorem Oc.shape {w : World} {B : Nat} {v : Value} {l : List Cl} (h : Oc w B v l) : ∃ A c, v = .slice A l.length c := h.cs.shape
theorem Oc.keep {w w' : World} {B : Nat} {v : Value} {l : List Cl} (h : Oc w B v l) (hk : ∀ k, v.ownBlock = some k → w'.heap[k]? = w.heap[k]?) : Oc w' B v l := by
  refine ⟨h.1, ?_⟩
  rcases h.2 with h2 | ⟨g, cap, cur, hv, hb, hg, r⟩
  · exact .inl h2
  · exact .inr ⟨g, cap, cur, hv, hb, by rw [hk g (by rw [hv]; rfl)]; exact hg, r⟩
theorem Oc.fr {S : Nat → Prop} {w w' : World} {B : Nat} {v : Value} {l : List Cl} (h : Oc w B v l) (hf : Fr S w w') (hn : ∀ k, v.ownBlock = some k → ¬ S k) : Oc w' B v l :=
  h.keep fun k hk => hf.block k (h.lt k hk).2 (hn k hk)
theorem Oc.non {w w' : World} {B : Nat} {v : Value} {l : List Cl} (h : Oc w B v l) (hf : Fr Non w w') : Oc w' B v l := h.fr hf fun _ _ e => e
theorem Oc.alloc {w : World} {B : Nat} {v : Value} {l : List Cl} (h : Oc w B v l) (o : Obj) : Oc (w.alloc o) B v l := h.non ((Fr.refl _ _).alloc o)
theorem Oc.drew {w : World} {B : Nat} {v : Value} {l : List Cl} (h : Oc w B v l) : Oc w.drew B v l := h
theorem Oc.mono {w : World} {B B' : Nat} {v : Value} {l : List Cl} (h : Oc w B v l) (hB : B' ≤ B) : Oc w B' v l := by
  refine ⟨h.1, ?_⟩
  rcases h.2 with h2 | ⟨g, cap, cur, hv, hb, r⟩
  · exact .inl h2
  · exact .inr ⟨g, cap, cur, hv, by omega, r⟩
theorem Oc.kind {w : World} {B : Nat} {v : Value} {l : List Cl} (h : Oc w B v l) : ∀ k, v.ownBlock = some k → ∃ cur, w.heap[k]? = some (.cells cur 62 (0, 0)) := by
  intro k hk
  rcases h.2 with ⟨rfl, _⟩ | ⟨g, cap, cur, rfl, _, hg, _⟩
  · cases hk
  · obtain rfl : g = k := by simpa [Value.ownBlock] using hk
    exact ⟨cur, hg⟩
theorem Oc.row {w : World} {B : Nat} {v : Value} {l : List Cl} (h : Oc w B v l) (hn : 0 < l.length) : ∃ g cap, v = .slice (some ⟨g, 0, none⟩) l.length cap ∧ B ≤ g ∧ g < w.heap.size ∧ l.length ≤ cap ∧ cap ≤ maxLen := by
  rcases h.2 with ⟨rfl, h0⟩ | ⟨g, cap, cur, rfl, hb, hg, hle, hm, _⟩
  · omega
  · exact ⟨g, cap, rfl, hb, (Array.getElem?_eq_some_iff.1 hg).1, hle, hm⟩
/-- what a walk asks of a row's element at j -/
theorem Oc.el {w : World} {B g n cap : Nat} {l : List Cl} (h : Oc w B (.slice (some ⟨g, 0, none⟩) n cap) l) (hn : n = l.length) (j : Nat) (x : Cl) (hx : l[j]? = some x) :
    w.cell? ⟨g, j * 3, none⟩ = some (.bool x.null) ∧ w.cell? ⟨g, j * 3 + 1, none⟩ = some (.int .i64 x.num) ∧ w.cell? ⟨g, j * 3 + 2, none⟩ = some (.string ⟨x.txt.toArray⟩) := by
  subst hn
  obtain ⟨hj, rfl⟩ := List.getElem?_eq_some_iff.1 hx
  refine ⟨?_, ?_, ?_⟩
  · rw [World.ownsRow.cellAt h (j * 3) (by omega)]; have := clsL_at l j 0 hj (by omega); simpa [clL] using this
  · rw [World.ownsRow.cellAt h (j * 3 + 1) (by omega)]; have := clsL_at l j 1 hj (by omega); simpa [clL] using this
  · rw [World.ownsRow.cellAt h (j * 3 + 2) (by omega)]; have := clsL_at l j 2 hj (by omega); simpa [clL] using this
theorem Oc.frozen {w : World} {B g n cap : Nat} {l : List Cl} (h : Oc w B (.slice (some ⟨g, 0, none⟩) n cap) l) (hn : n = l.length) (j : Nat) : w.frozen? ⟨g, j, none⟩ = false := by
  subst hn; exact World.ownsRow.frozenAt h j
/-! ### Steps -/
end Go.Proofs.YtdofgniemkahnaaDoor


namespace Go.Proofs.YtdofgniemkahnaaDoor
set_option linter.unusedVariables false
set_option linter.unusedSimpArgs false
set_option maxRecDepth 100000
open Go.RowKit

/-- v reads as l; it is a row of the call's own, or has no room -/
def Fu {α : Type} (f : α → Value) (E : TypeId) (w : World) (B : Nat) (v : Value) (l : List α) : Prop :=
  Vs f w v l ∧ (Ow f E w B v l ∨ ∃ A, v = .slice A l.length l.length)
section
variable {α : Type} {f : α → Value} {T E : TypeId} {z : Value} {by_ : Nat}
theorem Fu.non {w w' : World} {B : Nat} {v : Value} {l : List α} (h : Fu f E w B v l) (hf : Fr Non w w') : Fu f E w' B v l :=
  ⟨h.1.non hf, h.2.imp (fun a => a.non hf) id⟩
theorem Fu.shape {w : World} {B : Nat} {v : Value} {l : List α} (h : Fu f E w B v l) : ∃ A c, v = .slice A l.length c := h.1.shape

end
end Go.Proofs.YtdofgniemkahnaaDoor


namespace Go.Proofs.YtdofgniemkahnaaDoor
set_option linter.unusedVariables false
set_option linter.unusedSimpArgs false
set_option maxRecDepth 100000
open Go.RowKit

/-- a slice's words -/
structure Sl where
  A : Option Addr
  n : Nat
  c : Nat
def slV (s : Sl) : Value := .slice s.A s.n s.c
/-- the slice v reads as the rows rs -/
def Rs (w : World) (v : Value) (rs : List (List Cl)) : Prop := ∃ hs : List Sl, hs.length = rs.length ∧ Vs slV w v hs ∧ ∀ i (h : i < hs.length) (h2 : i < rs.length), Cs w (slV hs[i]) rs[i]
theorem Rs.non {w w' : World} {v : Value} {rs : List (List Cl)} (h : Rs w v rs) (hf : Fr Non w w') : Rs w' v rs := by
  obtain ⟨hs, h1, h2, h3⟩ := h
  exact ⟨hs, h1, h2.non hf, fun i a b => (h3 i a b).non hf⟩
theorem Rs.shape {w : World} {v : Value} {rs : List (List Cl)} (h : Rs w v rs) : ∃ A c, v = .slice A rs.length c := by
  obtain ⟨hs, h1, h2, _⟩ := h
  obtain ⟨A, c, e⟩ := h2.shape
  exact ⟨A, c, by rw [e, h1]⟩
theorem Rs.nil_ (w : World) : Rs w (.slice none 0 0) [] := ⟨[], rfl, Vs.nil_ w, fun i h => by cases h⟩
/-- the row at j -/
theorem Rs.el {w : World} {A : Option Addr} {n c : Nat} {rs : List (List Cl)} (h : Rs w (.slice A n c) rs) (j : Nat) (hj : j < rs.length) :
    ∃ a A' c', A = some a ∧ n = rs.length ∧ w.cell? (a.add j) = some (.slice A' rs[j].length c') ∧ Cs w (.slice A' rs[j].length c') rs[j] := by
  obtain ⟨hs, h1, h2, h3⟩ := h
  obtain ⟨A0, c0, he, _⟩ := h2
  have h2' : Vs slV w (.slice A n c) hs := ⟨A0, c0, he, by assumption⟩
  simp only [Value.slice.injEq] at he
  obtain ⟨rfl, rfl, rfl⟩ := he
  obtain ⟨a, rfl, _, _, hc⟩ := h2'.addr (by omega)
  have h4 := h3 j (by omega) hj
  obtain ⟨A', c', e⟩ := h4.shape
  have h5 := hc j (by omega)
  rw [e] at h4 h5
  exact ⟨a, A', c', rfl, h1, h5, h4⟩

/-- rows of the call's own, from block B on -/
def Ro (w : World) (B : Nat) (v : Value) (rs : List (List Cl)) : Prop := ∃ hs : List Sl, hs.length = rs.length ∧ Ow slV 59 w B v hs ∧ ∀ i (h : i < hs.length) (h2 : i < rs.length), Oc w B (slV hs[i]) rs[i]
theorem Ro.rs {w : World} {B : Nat} {v : Value} {rs : List (List Cl)} (h : Ro w B v rs) : Rs w v rs := by
  obtain ⟨hs, h1, h2, h3⟩ := h
  exact ⟨hs, h1, h2.vs, fun i a b => (h3 i a b).cs⟩
theorem Ro.non {w w' : World} {B : Nat} {v : Value} {rs : List (List Cl)} (h : Ro w B v rs) (hf : Fr Non w w') : Ro w' B v rs := by
  obtain ⟨hs, h1, h2, h3⟩ := h
  exact ⟨hs, h1, h2.non hf, fun i a b => (h3 i a b).non hf⟩
theorem Ro.mono {w : World} {B B' : Nat} {v : Value} {rs : List (List Cl)} (h : Ro w B v rs) (hB : B' ≤ B) : Ro w B' v rs := by
  obtain ⟨hs, h1, h2, h3⟩ := h
  exact ⟨hs, h1, h2.mono hB, fun i a b => (h3 i a b).mono hB⟩
theorem Ro.shape {w : World} {B : Nat} {v : Value} {rs : List (List Cl)} (h : Ro w B v rs) : ∃ A c, v = .slice A rs.length c := h.rs.shape
theorem Ro.frozen {w : World} {B g n cap : Nat} {rs : List (List Cl)} (h : Ro w B (.slice (some ⟨g, 0, none⟩) n cap) rs) (hn : n = rs.length) (j : Nat) : w.frozen? ⟨g, j, none⟩ = false := by
  obtain ⟨hs, h1, h2, h3⟩ := h
  exact h2.frozen (by omega) j
theorem Ro.lt {w : World} {B : Nat} {v : Value} {rs : List (List Cl)} (h : Ro w B v rs) : ∀ k, v.ownBlock = some k → B ≤ k ∧ k < w.heap.size := by
  obtain ⟨hs, h1, h2, h3⟩ := h
  exact h2.lt
theorem oc_kind_ne {w : World} {B g : Nat} {v : Value} {l : List Cl} {cur : Array Value} {E : TypeId} (h : Oc w B v l) (hg : w.heap[g]? = some (.cells cur E (0, 0))) (hE : 62 ≠ E) : ∀ k, v.ownBlock = some k → k ≠ g := by
  rintro k hk rfl
  obtain ⟨c, h1⟩ := h.kind k hk
  rw [hg] at h1
  simp at h1
  exact hE h1.2.symm
theorem cell_ne_cells : 62 ≠ 59 := by decide
/-- a row stored -/
theorem Ro.put {w : World} {B g n cap : Nat} {rs : List (List Cl)} (h : Ro w B (.slice (some ⟨g, 0, none⟩) n cap) rs) (hn : n = rs.length) (j : Nat) {u : Value} {l : List Cl} (hu : Oc w B u l) :
    Ro (w.setCell ⟨g, j, none⟩ u) B (.slice (some ⟨g, 0, none⟩) n cap) (rs.set j l) := by
  obtain ⟨hs, h1, h2, h3⟩ := h
  obtain ⟨A, c, rfl⟩ := hu.shape
  obtain ⟨cur, hg⟩ := h2.kind g rfl
  have hf : Fr (One g) w (w.setCell ⟨g, j, none⟩ (.slice A l.length c)) := (Fr.refl _ _).set1 j _
  refine ⟨hs.set j ⟨A, l.length, c⟩, by simp [h1], h2.store (by omega) j ⟨A, l.length, c⟩, fun i a b => ?_⟩
  simp only [List.getElem_set]
  split
  · exact hu.fr hf (oc_kind_ne hu hg cell_ne_cells)
  · have h4 := h3 i (by simpa using a) (by simpa using b)
    exact h4.fr hf (oc_kind_ne h4 hg cell_ne_cells)
/-- the row at j, of the call's own -/
theorem Ro.el {w : World} {B g n cap : Nat} {rs : List (List Cl)} (h : Ro w B (.slice (some ⟨g, 0, none⟩) n cap) rs) (hn : n = rs.length) (j : Nat) (hj : j < rs.length) :
    ∃ A' c', w.cell? ⟨g, j, none⟩ = some (.slice A' rs[j].length c') ∧ Cs w (.slice A' rs[j].length c') rs[j] := by
  obtain ⟨hs, h1, h2, h3⟩ := h
  have h4 := (h3 j (by omega) hj).cs
  obtain ⟨A', c', e⟩ := h4.shape
  have h5 := h2.cell (by omega) j hs[j] (List.getElem?_eq_getElem (by omega))
  rw [e] at h4 h5
  exact ⟨A', c', h5, h4⟩

/-! ### Rows whose blocks are apart, to be appended to in their places -/
/-- the slices' blocks are apart -/
def Apart (hs : List Sl) : Prop := ∀ i j (hi : i < hs.length) (hj : j < hs.length), i ≠ j → ∀ k, (slV hs[i]).ownBlock = some k → (slV hs[j]).ownBlock ≠ some k
def Rq (w : World) (B : Nat) (v : Value) (rs : List (List Cl)) : Prop := ∃ hs : List Sl, hs.length = rs.length ∧ Ow slV 59 w B v hs ∧ (∀ i (h : i < hs.length) (h2 : i < rs.length), Oc w B (slV hs[i]) rs[i]) ∧ Apart hs
theorem Rq.non {w w' : World} {B : Nat} {v : Value} {rs : List (List Cl)} (h : Rq w B v rs) (hf : Fr Non w w') : Rq w' B v rs := by
  obtain ⟨hs, h1, h2, h3, h4⟩ := h
  exact ⟨hs, h1, h2.non hf, fun i a b => (h3 i a b).non hf, h4⟩
/-- the row at j, and what is left when another one, in the same block or in a new one, is stored in its place -/
theorem Rq.el {w : World} {B g n cap : Nat} {rs : List (List Cl)} (h : Rq w B (.slice (some ⟨g, 0, none⟩) n cap) rs) (hn : n = rs.length) (j : Nat) (hj : j < rs.length) :
    ∃ A' c', w.cell? ⟨g, j, none⟩ = some (.slice A' rs[j].length c') ∧ Oc w B (.slice A' rs[j].length c') rs[j] ∧
      ∀ (w1 w2 : World) (u : Value) (l : List Cl), Fr Non w w1 → Fr (fun k => (Value.slice A' rs[j].length c').ownBlock = some k) w1 w2 → Oc w2 B u l → (u.ownBlock = (Value.slice A' rs[j].length c').ownBlock ∨ ∀ k, u.ownBlock = some k → w1.heap.size ≤ k) →
        w2.frozen? ⟨g, j, none⟩ = false ∧ g < w2.heap.size ∧ Rq (w2.setCell ⟨g, j, none⟩ u) B (.slice (some ⟨g, 0, none⟩) n cap) (rs.set j l) := by
  obtain ⟨hs, h1, h2, h3, h4⟩ := h
  have hj' : j < hs.length := by omega
  have h5 := h3 j hj' hj
  obtain ⟨A', c', e⟩ := h5.shape
  have h6 := h2.cell (by omega) j hs[j] (List.getElem?_eq_getElem hj')
  have hown : (slV hs[j]).ownBlock = (Value.slice A' rs[j].length c').ownBlock := by rw [e]
  refine ⟨A', c', by rw [h6, e], by rw [← e]; exact h5, fun w1 w2 u l f1 f2 hu hblk => ?_⟩
  obtain ⟨cur0, hg0⟩ := h2.kind g rfl
  have hng : ∀ k, (Value.slice A' rs[j].length c').ownBlock = some k → k ≠ g := by rw [← e]; exact oc_kind_ne h5 hg0 cell_ne_cells
  have o1 := h2.non f1
  have o2 : Ow slV 59 w2 B (.slice (some ⟨g, 0, none⟩) n cap) hs := o1.fr f2 (fun k hk e2 => hng k e2 (by simpa [Value.ownBlock] using hk.symm))
  obtain ⟨cur, hg⟩ := o2.kind g rfl
  obtain ⟨A, c, rfl⟩ := hu.shape
  have hf : Fr (One g) w2 (w2.setCell ⟨g, j, none⟩ (.slice A l.length c)) := (Fr.refl _ _).set1 j _
  refine ⟨o2.frozen (by omega) j, (o2.lt g rfl).2, hs.set j ⟨A, l.length, c⟩, by simp [h1], o2.store (by omega) j ⟨A, l.length, c⟩, fun i a b => ?_, fun i i' hi hi' hne k hk hk' => ?_⟩
  · simp only [List.getElem_set]
    split
    · exact hu.fr hf (oc_kind_ne hu hg cell_ne_cells)
    · rename_i hne
      have a' : i < hs.length := by simpa using a
      have h7 := (h3 i a' (by simpa using b)).non f1
      have h8 := h7.fr f2 (fun k hk e2 => h4 i j a' hj' (fun e => hne e.symm) k hk (by rw [hown]; exact e2))
      exact h8.fr hf (oc_kind_ne h8 hg cell_ne_cells)
  · simp only [List.length_set] at hi hi'
    simp only [List.getElem_set] at hk hk'
    have old : ∀ i (hi : i < hs.length), i ≠ j → ∀ k, (slV hs[i]).ownBlock = some k → (slV (⟨A, l.length, c⟩ : Sl)).ownBlock ≠ some k := by
      intro i hi hne k hk hk'
      have hk2 : (Value.slice A l.length c).ownBlock = some k := hk'
      rcases hblk with hb | hb
      · rw [hb] at hk2
        exact h4 i j hi hj' hne k hk (by rw [hown]; exact hk2)
      · have h9 := hb k hk2
        have h10 := ((h3 i hi (by omega)).lt k hk).2
        have := f1.size
        omega
    by_cases e1 : j = i
    · rw [if_pos e1] at hk
      rw [if_neg (fun e2 => hne (by omega))] at hk'
      exact old i' hi' (by omega) k hk' hk
    · rw [if_neg e1] at hk
      by_cases e2 : j = i'
      · rw [if_pos e2] at hk'
        exact old i hi (by omega) k hk hk'
      · rw [if_neg e2] at hk'
        exact h4 i i' hi hi' hne k hk hk'

end Go.Proofs.YtdofgniemkahnaaDoor


namespace Go.Proofs.YtdofgniemkahnaaDoor
set_option linter.unusedVariables false
set_option linter.unusedSimpArgs false
set_option maxRecDepth 100000
open Go.RowKit

theorem num14_any (n : Int) (w : World) : Calls Tryd.prog 9 #[.int .i64 n] w fun e w' => e = .returned (.int .i64 n) ∧ w = w' := by
  go_enter Tryd.func9, Tryd.ntmps9
  go_wp2
  go_ret
  exact ⟨rfl, rfl⟩
end Go.Proofs.YtdofgniemkahnaaDoor


namespace Go.Proofs.YtdofgniemkahnaaDoor
set_option linter.unusedVariables false
set_option linter.unusedSimpArgs false
set_option maxRecDepth 100000
open Go.RowKit

theorem dead3 : ∃ a b c d, deadB [false, false, false] = [2, a, b, c, d, 3, 0] := by
  have h : sayD [false, false, false] = [3, 0] := by
    unfold sayD
    rw [Lib.uvarint_small (by decide)]
    decide
  unfold deadB
  rw [if_pos (by decide), h]
  unfold frameB sum4
  rw [Lib.uvarint_small (by decide)]
  exact ⟨_, _, _, _, rfl⟩

set_option maxHeartbeats 1000000 in
theorem live14_any (w : World) (ht : Tab w) :
    Calls Tryd.prog 6 #[] w fun e w' => e = .returned (.bool true) ∧ Fr Non w w' := by
  obtain ⟨a, b, c, d, hd⟩ := dead3
  have HT := Lib.hid ht
  have HG : Hid (getD14 (deadB [false, false, false]) 3 = ([false, false, false], 0)) := Lib.hid (getD_put (l := [false, false, false]) (by decide))
  rw [hd] at HG
  clear ht
  go_enter Tryd.func6, Tryd.ntmps6
  go_wp2_with (at_make; refine wpList_mkfullG el_bool (f := tv) false rfl rfl _ _ rfl _ _ _ _ 3 rfl rfl rfl rfl (by omega) ?_; intro w1 own1 f1)
  have HF1 := Lib.hid f1
  have HP := Lib.hid (deput_any _ [false, false, false] w1 own1.vs (HT.out.non f1) (by decide))
  rw [hd] at HP
  clear own1 f1
  refine HP.out.mono ?_
  rintro e w2 ⟨u2, rfl, o2, f2⟩
  obtain ⟨g, cap, rfl, -, -, hcap, -⟩ := o2.row (by simp)
  have HF2 := Lib.hid (HF1.out.trans f2)
  have HO2 := Lib.hid o2
  have HGt := Lib.hid (deget_any _ _ 3 w2 o2.bs (HT.out.non HF2.out) (by simp) (by omega) (by omega))
  unfold GtD14 at HGt
  rw [HG.out] at HGt
  clear o2 f2 HP
  simp only [List.length_cons, List.length_nil, Nat.zero_add, Nat.reduceAdd] at hcap HGt HO2
  go_wp2_with fail
  refine HGt.out.mono ?_
  rintro e w3 ⟨⟨u3, rfl, o3⟩, f3⟩
  have hl7 : 7 = [(2 : UInt8), a, b, c, d, 3, 0].length := rfl
  have e0 := HO2.out.cell hl7 0 2 rfl
  have e5 := HO2.out.cell hl7 5 3 rfl
  have e6 := HO2.out.cell hl7 6 0 rfl
  have hlt := World.block_lt_of_cell? _ _ e0
  replace e0 := (f3.cell hlt (fun e => e)).trans e0
  replace e5 := (f3.cell (p := ⟨g, 5, none⟩) hlt (fun e => e)).trans e5
  replace e6 := (f3.cell (p := ⟨g, 6, none⟩) hlt (fun e => e)).trans e6
  have HF3 := Lib.hid (HF2.out.trans f3)
  obtain ⟨A4, c4, rfl⟩ := o3.shape
  simp only [show (2 : UInt8).toNat = 2 from rfl, show (3 : UInt8).toNat = 3 from rfl, show (0 : UInt8).toNat = 0 from rfl] at e0 e5 e6
  clear HGt o3 f3 hl7
  go_wp2_with fail
  refine (num14_any _ _).mono ?_
  rintro e w5 ⟨rfl, rfl⟩
  go_wp2
  go_ret
  exact ⟨rfl, HF3.out⟩
end Go.Proofs.YtdofgniemkahnaaDoor


namespace Go.Proofs.YtdofgniemkahnaaDoor
set_option linter.unusedVariables false
set_option linter.unusedSimpArgs false
set_option maxRecDepth 100000
open Go.RowKit

set_option maxHeartbeats 2000000 in
theorem deadPuts_walk (v : Value) (l : List Bool) (w : World) (hv : Vs tv w v l) (ht : Tab w) (hl : l.length ≤ 9223372036854775807) :
    Calls Tryd.prog 3 #[v] w fun e w' => e = .returned (.bool true) ∧ Below w.heap.size w w' := by
  obtain ⟨A, c, rfl⟩ := hv.shape
  have HV := Lib.hid hv
  have HT := Lib.hid ht
  have HLv := Lib.hid (fun W (hf : Fr Non w W) => live14_any W (ht.non hf))
  clear hv ht
  by_cases h3 : 300 < l.length
  · have hb : decide ((300 : Int) < l.length) = true := by simp; omega
    clear h3
    go_enter Tryd.func3, Tryd.ntmps3
    go_wp2_with fail
    refine (HLv.out w (Fr.refl _ _)).mono ?_
    rintro e w1 ⟨rfl, f1⟩
    go_wp2
    go_ret
    exact ⟨rfl, f1.below⟩
  · have hb : decide ((300 : Int) < l.length) = false := by simp; omega
    have hl3 : l.length ≤ 300 := by omega
    have HP := Lib.hid (deput_any _ l w HV.out HT.out (by omega))
    have HG := Lib.hid (fun W (hf : Fr Non w W) u (hu : Bs W u (deadB l)) => deget_any u (deadB l) l.length W hu (HT.out.non hf) (by have := deadB_len l; omega) (by omega) (by omega))
    unfold GtD14 at HG
    clear h3
    by_cases h2 : l.length ≤ 200
    · have hb2 : decide ((200 : Int) < l.length) = false := by simp; omega
      rw [getD_put h2] at HG
      have HR := Lib.hid (fun W (hf : Fr Non w W) => rdeput_any _ l W (HV.out.non hf) (by omega))
      clear h2
      go_enter Tryd.func3, Tryd.ntmps3
      go_wp2_with fail
      refine HP.out.mono ?_
      rintro e w1 ⟨u1, rfl, o1, f1⟩
      have HF1 := Lib.hid f1
      have HG1 := Lib.hid (HG.out w1 f1 u1 o1.bs)
      have HO1 := Lib.hid o1.bs
      obtain ⟨A1, c1, rfl⟩ := o1.bs.shape
      clear HP HG o1 f1
      go_wp2_with fail
      refine HG1.out.mono ?_
      rintro e w2 ⟨⟨u2, rfl, o2⟩, f2⟩
      have HF2 := Lib.hid (HF1.out.trans f2)
      have HO2 := Lib.hid o2.vs
      have HO12 := Lib.hid (HO1.out.non f2)
      have HR2 := Lib.hid (HR.out w2 HF2.out)
      obtain ⟨A2, c2, rfl⟩ : ∃ A c, u2 = .slice A l.length c := o2.vs.shape
      clear HG1 HF1 o2 f2 HO1 HR
      go_wp2_with fail
      refine HR2.out.mono ?_
      rintro e w3 ⟨u3, rfl, o3, f3⟩
      have HF3 := Lib.hid (HF2.out.trans f3)
      have HS := Lib.hid (same_any _ _ _ _ w3 (HO12.out.non f3) o3.bs)
      rw [beq_self_eq_true] at HS
      have HB := Lib.hid (bools_any _ _ l l w3 (HO2.out.non f3) (HV.out.non HF3.out) (by omega) (by omega))
      rw [beq_self_eq_true] at HB
      obtain ⟨A3, c3, rfl⟩ := o3.bs.shape
      clear HR2 HF2 o3 f3 HO12 HO2
      go_wp2_with fail
      refine HS.out.mono ?_
      rintro e w4 ⟨rfl, rfl⟩
      go_wp2_with fail
      refine (num14_any _ _).mono ?_
      rintro e w5 ⟨rfl, rfl⟩
      go_wp2_with fail
      refine HB.out.mono ?_
      rintro e w6 ⟨rfl, f6⟩
      have HF6 := Lib.hid (HF3.out.trans f6)
      clear f6
      go_wp2_with fail
      refine (HLv.out _ HF6.out).mono ?_
      rintro e w7 ⟨rfl, f7⟩
      go_wp2
      go_ret
      exact ⟨rfl, (HF6.out.trans f7).below⟩
    · have hb2 : decide ((200 : Int) < l.length) = true := by simp; omega
      obtain ⟨hd, hg⟩ := getD_big (l := l) h2 l.length
      rw [hg] at HG
      rw [hd] at HG HP
      clear h2 hd hg
      go_enter Tryd.func3, Tryd.ntmps3
      go_wp2_with fail
      refine HP.out.mono ?_
      rintro e w1 ⟨u1, rfl, o1, f1⟩
      have HF1 := Lib.hid f1
      have HG1 := Lib.hid (HG.out w1 f1 u1 o1.bs)
      obtain ⟨A1, c1, rfl⟩ : ∃ A c, u1 = .slice A 0 c := o1.bs.shape
      clear HP HG o1 f1
      go_wp2_with fail
      refine HG1.out.mono ?_
      rintro e w2 ⟨⟨u2, rfl, o2⟩, f2⟩
      have HF2 := Lib.hid (HF1.out.trans f2)
      obtain ⟨A2, c2, rfl⟩ : ∃ A c, u2 = .slice A 0 c := o2.vs.shape
      clear HG1 HF1 o2 f2
      go_wp2_with fail
      refine (num14_any _ _).mono ?_
      rintro e w5 ⟨rfl, rfl⟩
      go_wp2_with fail
      refine (HLv.out _ HF2.out).mono ?_
      rintro e w7 ⟨rfl, f7⟩
      go_wp2
      go_ret
      exact ⟨rfl, (HF2.out.trans f7).below⟩

end Go.Proofs.YtdofgniemkahnaaDoor


namespace Go.Proofs.YtdofgniemkahnaaDoor
set_option linter.unusedVariables false
set_option linter.unusedSimpArgs false
set_option maxRecDepth 100000
open Go.ChangeShapes Go.WideShapes Go.ChangeAt Go.RowKit

theorem frame_own : ownKnob Tryd.prog.godebug = none := by kernel_rfl
theorem frame_laidOut : laidOutB Tryd.prog = true := by kernel_rfl

/-- every argument reads as it did -/
theorem trodAll_below {H : Type} {enc : TypeId × Value → H} {W W' : World} (hb : Below W.heap.size W W') :
    ∀ (ts : List TypeId) (vs : List Value) (ds : List (DataW H)) (ps : List MemPlace), (∀ t ∈ ts, Tryd.prog.readableRec t = true ∧ t < Tryd.prog.types.size) →
      DataW.TrodAll enc Tryd.prog W 0 (fun _ => true) true ts vs ds ps → DataW.TrodAll enc Tryd.prog W' 0 (fun b => decide (b < W.heap.size)) true ts vs ds ps := by
  intro ts
  induction ts with
  | nil => intro vs ds ps _ h; cases vs <;> cases ds <;> simp_all [DataW.TrodAll]
  | cons t ts ih =>
    intro vs ds ps hr h
    cases vs with
    | nil => cases ds <;> simp_all [DataW.TrodAll]
    | cons v vs =>
      cases ds with
      | nil => simp_all [DataW.TrodAll]
      | cons d ds =>
        obtain ⟨p, q, h1, h2, rfl⟩ := h
        have hlt : ∀ x ∈ p, x.block < W.heap.size := by obtain ⟨m, hm⟩ := h1; exact DataW.trod_lt m _ _ _ hm
        have ht := hr t (List.mem_cons_self ..)
        exact ⟨p, q, Below.trod frame_laidOut ht.1 ht.2 h1 hb hlt, ih vs ds q (fun u hu => hr u (List.mem_cons_of_mem _ hu)) h2, rfl⟩

noncomputable def typesOk (ts : List TypeId) : Bool := ts.all fun t => Tryd.prog.readableRec t && decide (t < Tryd.prog.types.size)
theorem types_ok (ts : List TypeId) (h : typesOk ts = true) : ∀ t ∈ ts, Tryd.prog.readableRec t = true ∧ t < Tryd.prog.types.size := by
  intro t ht
  have := List.all_eq_true.1 h t ht
  simpa using this

/-- a slice that came in: nil, or it leads into a block that is there -/
theorem slice_in {W : World} {base : Nat} {t e : TypeId} {v : Value} (ht : Tryd.prog.underlying t = some (.slice e)) (hv : Value.okWide Tryd.prog W .any base t v) :
    v = .slice none 0 0 ∨ ∃ b o n c, v = .slice (some ⟨b, o, none⟩) n c ∧ n ≤ c ∧ b < W.heap.size := by
  obtain ⟨a, n, c, rfl⟩ := okWide_slice ht hv
  simp only [Value.okWide, ht, Cell.okWide] at hv
  cases a with
  | none =>
    left
    simp only [Cell.ok, ht] at hv
    cases n <;> cases c <;> simp_all
  | some a =>
    right
    simp only [Cell.ok, ht] at hv
    obtain ⟨h1, _, _, h2, row, cells, h3, _⟩ := hv
    obtain ⟨b, o, sp⟩ := a
    simp only at h2 h3
    subst h2
    refine ⟨b, o, n, c, rfl, h1, ?_⟩
    rcases Nat.lt_or_ge b W.heap.size with h | h
    · exact h
    · unfold World.shape? at h3
      rw [Array.getElem?_eq_none h] at h3
      cases h3

end Go.Proofs.YtdofgniemkahnaaDoor


namespace Go.Proofs.YtdofgniemkahnaaDoor
set_option linter.unusedVariables false
set_option linter.unusedSimpArgs false
set_option maxRecDepth 100000
open Go.ChangeShapes Go.WideShapes Go.ChangeAt Go.RowKit

/-- the table lies as the text lays it -/
theorem tab_in {W : World} {rest : List (String × DataW Unit)} (h : laidMet Tryd.prog (("firkin/crc.halves", Rows.laid_firkin_crc_halves) :: rest) W) : Tab W := by
  have hT : Lib.TabIs Tryd.prog W "firkin/crc.halves" .u32 halfTab := Lib.tabIs_of_head (n := 16) (show Tryd.prog.globalNamed "firkin/crc.halves" = some 0 by kernel_rfl)
    (show (Tryd.prog.globals[0]?).map (·.type) = some 85 by kernel_rfl) Tryd.underlying85 Tryd.underlying71 (by kernel_rfl) (by kernel_rfl) (h : laidMet Tryd.prog (("firkin/crc.halves", Lib.tabData .u32 halfTab) :: rest) W)
  intro i hi
  have := hT.cell (show Tryd.prog.globalNamed "firkin/crc.halves" = some 0 by kernel_rfl) i (by simpa [halfTab] using hi)
  rw [this]
  have hp : 0 ≤ halfTab.getD i 0 := by
    have all : ∀ j : Fin 16, 0 ≤ halfTab.getD j.1 0 := by decide
    exact all ⟨i, hi⟩
  unfold half
  rw [Int.toNat_of_nonneg hp]

theorem tab_inH {W : World} (h : laidMetH Tryd.prog [("firkin/crc.halves", Rows.laid_firkin_crc_halves)] W) : Tab W := by
  rw [MakeChecks.laidMetH_plain _ _ _ (by kernel_rfl)] at h
  exact tab_in h

end Go.Proofs.YtdofgniemkahnaaDoor


namespace Go.Proofs.YtdofgniemkahnaaDoor
set_option linter.unusedVariables false
set_option linter.unusedSimpArgs false
set_option maxRecDepth 100000
open Go.ChangeShapes Go.WideShapes Go.ChangeAt Go.RowKit

theorem choose_listG {α : Type} (P : Nat → α → Prop) : ∀ (n : Nat), (∀ i, i < n → ∃ x, P i x) → ∃ l : List α, l.length = n ∧ ∀ i (h : i < l.length), P i l[i]
  | 0, _ => ⟨[], rfl, fun i h => by simp at h⟩
  | n + 1, h => by
    obtain ⟨l, hl, hp⟩ := choose_listG P n fun i hi => h i (by omega)
    obtain ⟨x, hx⟩ := h n (by omega)
    refine ⟨l ++ [x], by simp [hl], fun i hi => ?_⟩
    by_cases hin : i < l.length
    · rw [List.getElem_append_left hin]; exact hp i hin
    · have : i = n := by simp at hi; omega
      subst this
      rw [List.getElem_append_right (by omega)]
      simpa using hx

theorem vs_in {α : Type} {f : α → Value} {T E : TypeId} (hT : Tryd.prog.underlying T = some (.slice E)) (hc : Tryd.prog.cellsOf E = 1) {H : Type} {enc : TypeId × Value → H} {W : World} {base : Nat} {v : Value} {d : DataW H} {p : List MemPlace}
    (each : ∀ n V y, DataW.trod enc Tryd.prog W 0 (fun _ => true) true n E [V] = some y → ∃ x, V = f x)
    (hv : Value.okWide Tryd.prog W .any base T v) (h : DataW.Trod enc Tryd.prog W 0 (fun _ => true) true T v d p) : ∃ l, Vs f W v l ∧ l.length ≤ 9223372036854775807 ∧ ∀ k, v.ownBlock = some k → k < W.heap.size := by
  have hlt : ∀ k, v.ownBlock = some k → k < W.heap.size := by
    rcases slice_in hT hv with rfl | ⟨b, o, n, c, rfl, _, hb⟩
    · intro k hk; cases hk
    · intro k hk
      obtain rfl : b = k := by simpa [Value.ownBlock] using hk
      exact hb
  obtain ⟨A, n, c, rfl⟩ := okWide_slice hT hv
  obtain ⟨fuel, hf⟩ := h
  rcases Go.Deep.open_slice1 hT hc hf with ⟨hcs, _⟩ | ⟨a, len, cap, m, k, V, D, Pl, hcs, _, hl, hm, hmm, _, hr⟩
  · simp [Value.cells] at hcs
    obtain ⟨rfl, rfl, rfl⟩ := hcs
    exact ⟨[], Vs.nil_ W, by simp, hlt⟩
  · simp [Value.cells] at hcs
    obtain ⟨rfl, rfl, rfl⟩ := hcs
    have hnm : n ≤ m := by rw [hmm]; simp; exact hl
    obtain ⟨l, hll, hls⟩ := choose_listG (fun i x => W.cell? (a.add i) = some (f x)) n (by
      intro i hi
      obtain ⟨h1, h2⟩ := hr i (by omega)
      obtain ⟨x, hx⟩ := each _ _ _ h2
      exact ⟨x, by rw [h1, hx]⟩)
    subst hll
    refine ⟨l, ⟨some a, c, rfl, hl, (fun h => by cases h), fun b hb j hj => ?_⟩, by unfold maxLen at hm; omega, hlt⟩
    cases hb
    exact hls j hj

theorem bools_in {H : Type} {enc : TypeId × Value → H} {W : World} {base : Nat} {v : Value} {d : DataW H} {p : List MemPlace} (hv : Value.okWide Tryd.prog W .any base 22 v)
    (h : DataW.Trod enc Tryd.prog W 0 (fun _ => true) true 22 v d p) : ∃ l, Vs tv W v l ∧ l.length ≤ 9223372036854775807 ∧ ∀ k, v.ownBlock = some k → k < W.heap.size :=
  vs_in Tryd.underlying22 (by kernel_rfl) (fun n V y hy => by
    obtain ⟨b, e, _⟩ := DataW.trod_bool Tryd.underlying4 hy
    exact ⟨b, by simpa [tv] using e⟩) hv h

end Go.Proofs.YtdofgniemkahnaaDoor
