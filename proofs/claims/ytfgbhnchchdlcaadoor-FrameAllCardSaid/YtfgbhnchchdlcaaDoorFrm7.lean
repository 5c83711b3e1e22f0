/-
  Layer 3: the iterator frame.frames: its contract.
-/
import Derived.Test.YtfgbhnchchdlcaaDoorFrm6
import Derived.RangeFuncNested
import Derived.RangeFuncBound
import Derived.RangeFuncCalls
import Derived.RangeFuncLeaves
import Derived.RangeFuncBox
import Derived.Shelf.Abstract
import Derived.Shelf.RegionOpen
import Derived.WalkKit
import Derived.OwnWalkIn
import Derived.TacticsInMore
import Derived.LoopNIn
import Derived.LoopIn
namespace Go.Proofs.YtfgbhnchchdlcaaDoor
set_option linter.unusedVariables false
set_option linter.unusedSimpArgs false
open Go.RowKit Go.Shelf
attribute [local go_sem] Oper.semAt_some

/-- what the iterator hands over: a piece of b, its bytes, and the frame's size -/
abbrev Pc (n₀ : Nat) (w : World) : Type := { x : Value × List UInt8 × Nat // (∀ W, Below n₀ w W → Bs W x.1 x.2.1) ∧ x.2.1.length ≤ 1000000000 ∧ x.2.2 ≤ 1000000000 }
def Pc.bytes {n₀ : Nat} {w : World} (x : Pc n₀ w) : List UInt8 := x.1.2.1
def Pc.size {n₀ : Nat} {w : World} (x : Pc n₀ w) : Nat := x.1.2.2
def pcs {n₀ : Nat} {w : World} (xs : List (Pc n₀ w)) : List (List UInt8) := xs.map Pc.bytes
def pcn {n₀ : Nat} {w : World} : List (Pc n₀ w) → Nat
  | [] => 0
  | x :: xs => x.size + pcn xs
theorem pcs_snoc {n₀ : Nat} {w : World} (xs : List (Pc n₀ w)) (x : Pc n₀ w) : pcs (xs ++ [x]) = pcs xs ++ [x.bytes] := by simp [pcs]
theorem pcn_snoc {n₀ : Nat} {w : World} : ∀ (xs : List (Pc n₀ w)) (x : Pc n₀ w), pcn (xs ++ [x]) = pcn xs + x.size
  | [], x => by simp [pcn]
  | y :: xs, x => by simp only [List.cons_append, pcn, pcn_snoc xs x]; omega
def lenOf : Value → Nat
  | .slice _ n _ => n
  | _ => 0

theorem Tab.below {n₀ : Nat} {w W : World} (h : Tab w) (hb : Below n₀ w W) (hg : 0 < n₀) : Tab W := fun i hi => by
  have := h i hi
  rw [← this]
  exact hb.cell (p := ⟨_, i, none⟩) hg
theorem Fr.grown {w w' : World} (h : Fr Non w w') : w.grownBy w' none := ⟨h.os, h.tape, h.output, h.size, fun k hk _ => h.block k hk fun e => e⟩
theorem Fr.belowOf {w w' : World} (h : Fr Non w w') (n₀ : Nat) (hn : n₀ ≤ w.heap.size) : Below n₀ w w' :=
  ⟨h.os, h.tape, h.output, h.size, fun k hk => h.block k (by omega) fun e => e⟩

theorem gB_le (l : List UInt8) : (gB l).length ≤ 1000000000 := by
  unfold gB; split
  · unfold bodyF; rw [List.length_take]; have := hN_le l; omega
  · simp
theorem pcn_le {n₀ : Nat} {w : World} : ∀ (xs : List (Pc n₀ w)), pcn xs ≤ xs.length * 1000000000
  | [] => by simp [pcn]
  | x :: xs => by
    have h := pcn_le xs
    have h2 := x.2.2.2
    simp only [pcn, List.length_cons, Pc.size]
    omega
theorem pre_lt {l : List UInt8} {pre : List (List UInt8)} {pos : Nat} (h : Sofar l pre pos) (hg : gE (l.drop pos) = 0) : pre.length < l.length := by
  obtain ⟨_, f, h1, _, h3⟩ := h.step hg
  have := allB_len l.length l
  rw [h1, List.length_append, List.length_append] at this
  simp at this
  omega

set_option maxRecDepth 100000 in
set_option maxHeartbeats 2000000 in
theorem frames_stops (n : Nat) (hn : 1 ≤ n) (Bn n₀ : Nat) (v : Value) (l : List UInt8) (w : World) (hn0 : n₀ ≤ w.heap.size) (hBn : w.cell? ⟨Bn, 0, none⟩ = some v) (hv : ∀ W, Below n₀ w W → Bs W v l) (hvl : ∀ k, v.ownBlock = some k → k < n₀)
    (ht : Tab w) (hg : 0 < n₀) (hl : l.length < 1000000000) :
    SeqStopsK Fence.wide n Tryd.prog 34 #[.pointer (some ⟨Bn, 0, none⟩)] (fun x : Pc n₀ w => #[x.1.1, .int .i64 (x.1.2.2 : Nat)]) (Below n₀)
      (fun xs => pcs xs = allB l.length l ∧ pcn xs = allN l.length l) (fun _ => True) l.length w := fun r J Jx W hW hJ hJx hY h0 => by
  refine callsIn_of_wp Tryd.func34 rfl trivial ?_ rfl
  simp only [Tryd.ntmps34, List.size_toArray, List.length_cons, List.length_nil, Nat.reduceAdd, Nat.reduceSub, Array.replicate_succ, Array.replicate_zero, List.push_toArray, List.append_toArray, List.nil_append, List.cons_append]
  have hbx : W.cell? ⟨Bn, 0, none⟩ = some v := (hW.cell (p := ⟨Bn, 0, none⟩) (World.block_lt_of_cell? w _ hBn)).trans hBn
  have hW0 : Below n₀ w W := hW.mono hn0
  have HV := Lib.hid hv
  have HVL := Lib.hid hvl
  have HT := Lib.hid ht
  have HJ := Lib.hid hJ
  have HY := Lib.hid hY
  clear hv hvl ht hBn hJ hJx hY hW
  gi_wp2
  gi_loopw [3] (fun p wr => ∃ (xs : List (Pc n₀ w)) (pos : Nat) (A : Option Addr) (c : Nat), p = .slice A (l.length - pos) c ∧ (l.length - pos) ≤ c ∧ Sofar l (pcs xs) pos ∧ pcn xs = pos ∧ (∀ W, Below n₀ w W → Bs W (.slice A (l.length - pos) c) (l.drop pos)) ∧
      (∀ k, (Value.slice A (l.length - pos) c).ownBlock = some k → k < n₀) ∧ J xs wr ∧ Below n₀ w wr) (fun p _ => lenOf p)
  case atStart =>
    obtain ⟨A, c, rfl, hlc, _⟩ := HV.out W hW0
    exact ⟨[], 0, A, c, rfl, hlc, Sofar.start l, rfl, by simpa using HV.out, HVL.out, h0, hW0⟩
  case round =>
    obtain ⟨xs, pos, A, c, rfl, hlc, hso, hsz, hbs, hob, hJs, hBw⟩ := hrel
    have HS := Lib.hid hso
    have HN := Lib.hid hsz
    have HB := Lib.hid hbs
    have HO := Lib.hid hob
    have HW := Lib.hid hBw
    have HL := Lib.hid (show (l.drop pos).length < 1099511627776 by rw [List.length_drop]; omega)
    have hpos := hso.1
    clear hso hsz hbs hob hBw h0 hW0 hbx
    have h0 := ffirst_any (.slice A (l.length - pos) c) (l.drop pos) wr (HB.out _ HW.out) (HT.out.below HW.out hg) HL.out
    have key : ∀ (w1 : World) (u : Value), Bs w1 u (gB (l.drop pos)) → Fr Non wr w1 → (∀ k, u.ownBlock = some k → (Value.slice A (l.length - pos) c).ownBlock = some k) →
        J xs w1 ∧ Below n₀ w w1 ∧ (∀ W, Below n₀ w W → Bs W u (gB (l.drop pos))) := by
      intro w1 u hu hf hub
      have hBw1 : Below n₀ w w1 := HW.out.trans (hf.belowOf n₀ (Nat.le_trans hn0 HW.out.size))
      refine ⟨HJ.out xs wr w1 none hJs hf.grown (fun r e => by cases e), hBw1, fun W hb => hu.keep fun k hk hlt => ?_⟩
      have hk2 := HO.out k (hub k hk)
      rw [hb.block k hk2, hBw1.block k hk2]
    have HK := Lib.hid key
    clear key
    by_cases hg0 : gE (l.drop pos) = 0
    · have HST := Lib.hid (HS.out.step hg0)
      have HPL := Lib.hid (show xs.length < l.length by simpa [pcs] using pre_lt HS.out hg0)
      have hz := gE_zero hg0
      rw [List.length_drop] at hz
      have HBL := Lib.hid (gB_le (l.drop pos))
      rw [hg0] at h0
      clear hg0
      generalize gN (l.drop pos) = sz at *
      generalize gB (l.drop pos) = bd at *
      obtain ⟨A2, c2, hrun, hbs2, hob2⟩ := slice_lo A (l.length - pos) c sz .i64 (sz : Int) rfl (by omega) hlc
      have HSZ := Lib.hid (show sz ≤ 1000000000 by omega)
      have HB2 := Lib.hid hbs2
      have HO2 := Lib.hid hob2
      clear hbs2 hob2 hJs
      gi_wp2_with (refine ⟨trivial, ?_⟩; gi_at_call 20; refine (callsIn_wide.2 h0).mono ?_; rintro e w1 ⟨u, rfl, hu, hf, hub⟩; obtain ⟨hJ1, hBw1, hu2⟩ := HK.out w1 u hu hf hub; obtain ⟨fn, tmps, assign, body, hy, hR⟩ := HY.out xs ⟨(u, bd, sz), hu2, HBL.out, HSZ.out⟩ w1 hJ1 HPL.out; dsimp only at hy)
      refine hR.mono ?_
      rintro e W3 (⟨rfl, hJ3, hk3⟩ | ⟨rfl, hJx3⟩)
      · gi_wp2
        go_roundw
        case rel =>
          refine ⟨xs ++ [⟨(u, bd, sz), hu2, HBL.out, HSZ.out⟩], pos + sz, A2, c2, by rw [show l.length - (pos + sz) = l.length - pos - sz by omega], ?_, ?_, ?_, ?_, ?_, hJ3, hBw1.trans hk3⟩
          · obtain ⟨_, _, he, h1, _⟩ := HB2.out wr (l.drop pos) (by rw [List.length_drop]) (HB.out wr HW.out)
            simp only [Value.slice.injEq, List.length_drop] at he h1
            omega
          · rw [pcs_snoc]; exact HST.out
          · rw [pcn_snoc, HN.out]; rfl
          · intro W hb
            have h := HB2.out W (l.drop pos) (by rw [List.length_drop]) (HB.out W hb)
            rw [List.drop_drop] at h
            rwa [show l.length - (pos + sz) = l.length - pos - sz by omega]
          · intro k hk
            refine HO.out k ?_
            rw [← HO2.out]
            rwa [show l.length - (pos + sz) = l.length - pos - sz by omega] at hk
        case measure => simp [lenOf]; omega
      · gi_wp2
        refine bodyPost_ret (results_none rfl _ _ _) rfl ?_
        exact ⟨⟨_, rfl⟩, .inr ⟨xs ++ [⟨(u, bd, sz), hu2, HBL.out, HSZ.out⟩], trivial, hJx3⟩⟩
    · have HST := Lib.hid (HS.out.stop hg0)
      have hne : (((gE (l.drop pos) : Nat) : Int) != 0) = true := by rw [bne_iff_ne]; omega
      clear hg0
      gi_wp2_with (refine ⟨trivial, ?_⟩; gi_at_call 20; refine (callsIn_wide.2 h0).mono ?_; rintro e w1 ⟨u, rfl, hu, hf, hub⟩; obtain ⟨hJ1, hBw1, hu2⟩ := HK.out w1 u hu hf hub)
      refine ⟨fun _ h => (by cases h), ?_⟩
      gi_wp2
      refine bodyPost_ret (results_none rfl _ _ _) rfl ?_
      exact ⟨⟨_, rfl⟩, .inl ⟨xs, ⟨HST.out.1.symm, by rw [HN.out]; exact HST.out.2.symm⟩, hJ1⟩⟩
end Go.Proofs.YtfgbhnchchdlcaaDoor
