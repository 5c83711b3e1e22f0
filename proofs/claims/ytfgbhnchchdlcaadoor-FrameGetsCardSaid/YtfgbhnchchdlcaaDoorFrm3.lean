/-
  Layer 3: the walks of firkinref03.Get, of the law's example, and of the law FramePuts.
-/
import Derived.Test.YtfgbhnchchdlcaaDoorFrm2
import Derived.Test.YtfgbhnchchdlcaaDoorVint8
import Derived.Deep.QuietTactic
import Derived.BigQuiet
namespace Go.Proofs.YtfgbhnchchdlcaaDoor
set_option linter.unusedVariables false
set_option linter.unusedSimpArgs false
open Go.RowKit

theorem SAt.new {w : World} {v : Value} {l : List UInt8} (h : Bs w v l) (hl : ∀ k, v.ownBlock = some k → k < w.heap.size) :
    SAt (w.alloc (.cells #[v, .bool false] 48)) w.heap.size (One w.heap.size) l false :=
  ⟨v, Blk.new w _ _, h.non ((Fr.refl _ _).alloc _), (fun k hk e => by have := hl k hk; have e' : k = w.heap.size := e; omega), rfl, fun h => by cases h⟩

theorem Own.drewN {w : World} {B : Nat} {v : Value} {l : List UInt8} (h : Own w B v l) (n : Nat) : Own (w.drewN n) B v l := h

theorem num4_int (a b c d : UInt8) : ((num4 a b c d : Nat) : Int) = (a.toNat : Int) + 256 * b.toNat + 65536 * c.toNat + 16777216 * d.toNat := by
  unfold num4; omega

set_option maxHeartbeats 1000000 in
theorem rgetO_any (v : Value) (l : List UInt8) (w : World) (hv : Bs w v l) (hvl : ∀ k, v.ownBlock = some k → k < w.heap.size) (hl : l.length < 1000000000) :
    Calls Tryd.prog 13 #[v] w fun e w' => ∃ u, e = .returned (.tuple #[u, .int .i64 (gN l), .int .i64 (gE l)]) ∧ Own w' w.heap.size u (gB l) ∧ Fr Non w w' := by
  have HB := Lib.hid hv
  have HS0 := Lib.hid (SAt.new hv hvl)
  have HA := Lib.hid (fun (W : World) o => (Fr.refl Non W).alloc o)
  obtain ⟨A, c, rfl, hlc, _⟩ := hv
  clear hvl
  have HRB := Lib.hid (ref_bad l)
  have hml : (mostR l 1048576).length ≤ l.length := by
    unfold mostR; split
    · exact rest_le l
    · simp
  have hcl : ∀ q : List UInt8, q.length ≤ l.length → (cutR q 4).length ≤ l.length := by
    intro q hq; unfold cutR; split
    · rw [List.length_drop]; omega
    · simp
  have HM := Lib.hid (show (mostR l 1048576).length < 1000000000 by omega)
  have HC := Lib.hid (show (cutR (mostR l 1048576) 4).length < 1000000000 by have := hcl _ hml; omega)
  clear hml hcl
  go_enter Tryd.func13, Tryd.ntmps13
  go_wp2_with fail
  refine (rbelow_any w.heap.size (One w.heap.size) l false 1048577 _ HS0.out hl (by omega)).mono ?_
  rintro e w1 ⟨rfl, hs1, hf1⟩
  rw [show (1048577 : Int) - 1 = 1048576 by omega] at hs1 ⊢
  have h1s := hf1.size
  simp at h1s
  have hg1 : ∀ k, One w.heap.size k → w.heap.size ≤ k := fun k e => by have e' : k = w.heap.size := e; omega
  have hF1 : Fr Non w w1 := (HA.out _ _).fresh hf1 hg1
  clear hf1
  go_wp2_with fail
  refine (rtake_any w.heap.size (One w.heap.size) _ _ 4 w1 hs1 HM.out).mono ?_
  rintro e w2 ⟨v2, rfl, hb2, hn2, hs2, hf2⟩
  have h2s := hf2.size
  have hF2 : Fr Non w w2 := hF1.fresh hf2 hg1
  clear hf2 hs1
  go_wp2_with fail
  refine (rtakeO_any w.heap.size (One w.heap.size) _ _ _ w2 hs2 HC.out).mono ?_
  rintro e w3 ⟨v3, rfl, hb3, hs3, hf3⟩
  rw [HRB.out] at hs3
  have hb2' : Bs w3 v2 _ := hb2.fr hf3 (fun k hk e => by have := hn2 k hk; have e' : k = w.heap.size := e; omega)
  have hF3 : Fr Non w w3 := hF2.fresh hf3 hg1
  have HF3 := Lib.hid hF3
  have hb3 := hb3.mono (B' := w.heap.size) (by omega)
  clear hf3 hs2 hb2 hn2 hF1 hF2 hF3
  obtain ⟨A3, c3, k0, k1, _, _, _, _, _, _⟩ := hs3.cells
  by_cases hf : fits l = true
  · obtain ⟨r1, r2, r3, r4, r5, r6⟩ := ref_fit hf
    rw [r1] at hb2'
    rw [r4] at hb3
    rw [hf] at k1
    simp at k1
    have HGE := Lib.hid (show gE l = (if sumOk l then 0 else 13) ∧ gB l = (if sumOk l then bodyF l else []) ∧ gN l = (if sumOk l then hS l + 4 + hN l else 0) by
        unfold gE gB gN; rw [hf]; exact ⟨rfl, rfl, rfl⟩)
    have HSO : Hid (sumOk l = ((l.drop (hS l)).take 4 == sum4 (sumOf 0 (bodyF l)))) := Lib.hid rfl
    have hbd := of_decide_eq_true (show decide (hS l ≠ 0 ∧ hS l + 4 + hN l ≤ l.length) = true from hf)
    have hk0 : (cutR (cutR (mostR l 1048576) 4) (mostV l 1048576)).length = l.length - (hS l + 4 + hN l) := by rw [r5, List.length_drop]
    rw [hk0] at k0
    have HBL := Lib.hid (show (bodyF l).length ≤ 9223372036854775807 by unfold bodyF; rw [List.length_take]; have := hN_le l; omega)
    clear r1 r3 r4 r5 r6 hf hk0 HRB HM HC HS0
    generalize (l.drop (hS l)).take 4 = q at *
    match q, r2 with
    | [q0, q1, q2, q3], _ =>
      have HB3 := Lib.hid hb3
      have HB2 := Lib.hid hb2'
      obtain ⟨A2, c2, rfl, hc2, hnil, hcell⟩ := hb2'
      obtain ⟨A4, c4, rfl⟩ := hb3.bs.shape
      clear hb3
      cases A2 with
      | none => have := hnil rfl; simp at hc2; omega
      | some ad =>
        have e0 := hcell ad rfl 0 (by simp)
        have e1 := hcell ad rfl 1 (by simp)
        have e2 := hcell ad rfl 2 (by simp)
        have e3 := hcell ad rfl 3 (by simp)
        simp only [bv, Addr.add_zero', Addr.add_succ', List.getElem_cons_zero, List.getElem_cons_succ, Nat.zero_add, Nat.reduceAdd] at e0 e1 e2 e3
        have b0 : q0.toNat < 256 := q0.toNat_lt
        have b1 : q1.toNat < 256 := q1.toNat_lt
        have b2 : q2.toNat < 256 := q2.toNat_lt
        have b3 : q3.toNat < 256 := q3.toNat_lt
        have HNI := Lib.hid (num4_int q0 q1 q2 q3)
        clear hcell hnil hc2
        generalize q0.toNat = n0 at *
        generalize q1.toNat = n1 at *
        generalize q2.toNat = n2 at *
        generalize q3.toNat = n3 at *
        have v0 : IntKind.u32.wrap (n0 : Int) = n0 := IntWalk.u32_in _ ⟨by omega, by omega⟩
        have v1 : IntKind.u32.wrap (n1 : Int) = n1 := IntWalk.u32_in _ ⟨by omega, by omega⟩
        have v2 : IntKind.u32.wrap (n2 : Int) = n2 := IntWalk.u32_in _ ⟨by omega, by omega⟩
        have v3 : IntKind.u32.wrap (n3 : Int) = n3 := IntWalk.u32_in _ ⟨by omega, by omega⟩
        have w1' : IntKind.u32.wrap (256 * (n1 : Int)) = 256 * n1 := IntWalk.u32_in _ ⟨by omega, by omega⟩
        have w2' : IntKind.u32.wrap (65536 * (n2 : Int)) = 65536 * n2 := IntWalk.u32_in _ ⟨by omega, by omega⟩
        have w3' : IntKind.u32.wrap (16777216 * (n3 : Int)) = 16777216 * n3 := IntWalk.u32_in _ ⟨by omega, by omega⟩
        have w4' : IntKind.u32.wrap ((n0 : Int) + 256 * n1) = n0 + 256 * n1 := IntWalk.u32_in _ ⟨by omega, by omega⟩
        have w5' : IntKind.u32.wrap ((n0 : Int) + 256 * n1 + 65536 * n2) = n0 + 256 * n1 + 65536 * n2 := IntWalk.u32_in _ ⟨by omega, by omega⟩
        have w6' : IntKind.u32.wrap ((n0 : Int) + 256 * n1 + 65536 * n2 + 16777216 * n3) = n0 + 256 * n1 + 65536 * n2 + 16777216 * n3 := IntWalk.u32_in _ ⟨by omega, by omega⟩
        go_wp2_with fail
        go_quiet (fail)
        rw [← HNI.out]
        have HX := Lib.hid (num4_is q0 q1 q2 q3 (sumOf 0 (bodyF l)) (sumOf_lt _ (by decide)))
        clear e0 e1 e2 e3 v0 v1 v2 v3 w1' w2' w3' w4' w5' w6' HNI
        generalize num4 q0 q1 q2 q3 = p at *
        go_wp2_with fail
        refine (rof_any _ (bodyF l) _ (HB3.out.bs.drewN _) HBL.out).mono ?_
        rintro e w5 ⟨rfl, rfl⟩
        cases hq : sumOk l
        · have hpn : ¬ (p = sumOf 0 (bodyF l)) := by
            intro h
            have h2 := HX.out.1 h
            have h3 := HSO.out
            rw [hq, h2] at h3
            simp at h3
          have hne : (((p : Nat) : Int) != ((sumOf 0 (bodyF l) : Nat) : Int)) = true := by
            rw [bne_iff_ne]; omega
          clear hpn
          go_wp2_with fail
          go_ret3
          rw [HGE.out.1, HGE.out.2.1, HGE.out.2.2, hq]
          exact ⟨_, rfl, own_nil _ _, HF3.out.drewN _⟩
        · have hpn : p = sumOf 0 (bodyF l) := by
            apply HX.out.2
            have h3 := HSO.out
            rw [hq] at h3
            exact (beq_iff_eq.1 h3.symm)
          have hne : (((p : Nat) : Int) != ((sumOf 0 (bodyF l) : Nat) : Int)) = false := by
            rw [bne_eq_false_iff_eq]; omega
          have HP := Lib.hid hpn
          clear hpn
          generalize sumOf 0 (bodyF l) = sb at *
          generalize hsz : hS l + 4 + hN l = sz at *
          have HZ := Lib.hid hsz
          clear hsz
          have hsz2 : sz ≤ l.length := hbd.2
          have hsub : IntKind.i64.wrap ((l.length : Int) - ((l.length - sz : Nat) : Int)) = sz := by rw [IntWalk.i64_in _ ⟨by omega, by omega⟩]; omega
          go_wp2_with fail
          go_quiet (fail)
          go_wp2
          go_ret3
          rw [HGE.out.1, HGE.out.2.1, HGE.out.2.2, hq]
          refine ⟨.slice A4 (bodyF l).length c4, ?_, (HB3.out.drewN _).drewN _, (HF3.out.drewN _).drewN _⟩
          exact ret_three (by simp) (by simp)
  · have hf' : fits l = false := by simpa using hf
    rw [hf'] at k1
    have HF2 := Lib.hid (show gE l = 2 ∧ gB l = [] ∧ gN l = 0 by unfold gE gB gN; rw [hf']; exact ⟨rfl, rfl, rfl⟩)
    clear hf hf' HRB HM HC HS0
    simp at k1
    go_wp2_with fail
    go_ret3
    rw [HF2.out.1, HF2.out.2.1, HF2.out.2.2]
    exact ⟨_, rfl, own_nil _ _, HF3.out⟩

theorem put_nil : frameB [] = [0, 0, 0, 0, 0] := by
  unfold frameB
  rw [Lib.uvarint_small (by decide), sumOf_nil]
  decide

theorem flive_any (w : World) (ht : Tab w) :
    Calls Tryd.prog 7 #[] w fun e w' => e = .returned (.bool true) ∧ Fr Non w w' := by
  have B1 := Lib.hid (show Bs (w.alloc (.cells #[.int .u8 97, .int .u8 98] 5 (2, 3))) (.slice (some ⟨w.heap.size, 0, none⟩) 2 2) [97, 98] from bs_rowF w [97, 98] (2, 3))
  have kc := fun (w : World) (C : Array Value) (n c : Nat) => Lib.run_convert_bytes_const (P := Tryd.prog) w 22 5 C n c Tryd.underlying22 Tryd.underlying5
  have HA := Lib.hid (fun (W : World) o => (Fr.refl Non W).alloc o)
  have HT := Lib.hid ht
  have HG : Hid (gE (frameB [97, 98]) = 0 ∧ gB (frameB [97, 98]) = [97, 98] ∧ gN (frameB [97, 98]) = 7) := Lib.hid (by
    have h := got_own (l := [97, 98]) (by decide) []
    rw [List.append_nil, frame_length, Lib.uvarint_small (by decide)] at h
    exact h)
  have HL := Lib.hid (show (frameB [97, 98]).length < 1099511627776 by rw [frame_length, Lib.uvarint_small (by decide)]; decide)
  clear ht
  go_enter Tryd.func7, Tryd.ntmps7
  go_wp2_with fail
  refine (fput_any _ [97, 98] _ B1.out (HT.out.non (HA.out _ _)) (by decide)).mono ?_
  rintro e w1 ⟨v1, rfl, hown1, hfr1⟩
  have HF1 := Lib.hid ((HA.out _ _).trans hfr1)
  have HO1 := Lib.hid hown1.bs
  clear hown1 hfr1
  go_wp2_with fail
  refine (fget_any _ _ w1 HO1.out (HT.out.non HF1.out) HL.out).mono ?_
  rintro e w2 ⟨v2, rfl, hown2, hfr2⟩
  rw [HG.out.1, HG.out.2.2]
  rw [HG.out.2.1] at hown2
  have HF2 := Lib.hid (HF1.out.trans hfr2)
  have HO2 := Lib.hid hown2.bs
  have kw := fun (W : World) (h : Bs W v2 [97, 98]) => run_conv_Bs h 22 9 5 Tryd.underlying22 Tryd.underlying5 Tryd.underlying9
  clear hown2 hfr2
  go_wp2_with fail
  refine (fput_any _ [] w2 (Bs.nil_ _) (HT.out.non HF2.out) (by decide)).mono ?_
  rintro e w3 ⟨v3, rfl, hown3, hfr3⟩
  rw [put_nil] at hown3
  have HF3 := Lib.hid (HF2.out.trans hfr3)
  have HO3 := Lib.hid hown3.bs
  have HO23 := Lib.hid (HO2.out.non hfr3)
  have kw3 := kw _ (HO23.out.non (HA.out w3 (.cells #[.int .u8 0, .int .u8 0, .int .u8 0, .int .u8 0, .int .u8 0] 5)))
  have B5 := Lib.hid (show Bs (w3.alloc (.cells #[.int .u8 0, .int .u8 0, .int .u8 0, .int .u8 0, .int .u8 0] 5)) (.slice (some ⟨w3.heap.size, 0, none⟩) 5 5) [0, 0, 0, 0, 0] from bs_row w3 [0, 0, 0, 0, 0])
  clear kw hown3 hfr3
  go_wp2_with fail
  refine (same_any _ _ [0, 0, 0, 0, 0] [0, 0, 0, 0, 0] _ (HO3.out.non (HA.out _ _)) B5.out).mono ?_
  rintro e w4 ⟨rfl, rfl⟩
  go_wp2_with fail
  refine (fnum_any _ _).mono ?_
  rintro e w5 ⟨rfl, rfl⟩
  go_wp2_with fail
  go_ret
  exact ⟨rfl, HF3.out.trans (HA.out _ _)⟩
end Go.Proofs.YtfgbhnchchdlcaaDoor
