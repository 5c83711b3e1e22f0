/-
  Joined: Layer 17: the walk of the law on texts and columns. · Arguments opened: a cell by value; a value of each type. · A row's frame that hands the world's shape on. · Slices of cells: what one reads as (Cs), a row of the call's own (Oc), and the steps over them. · Arguments opened: a slice of cells. · Layer 17: the variables that a row lists, opened; a predicate opened.
-/
import Derived.Laws.StructEq
import Derived.Laws.Rows
import Derived.Laws.ResultCell
import Derived.Lib.Zigzag
import Derived.Lib.DecodeN
import Derived.Laws.RangeAny
import Derived.Laws.Cover4
import Derived.Laws.Cover1
import Derived.Lib.SmallJoins
import Derived.Lib.AppendIntMem
import Derived.BigQuiet
import Derived.Deep.RegionHeld3
import Derived.Deep.QuietTactic
import Derived.Deep.DrawnRows
import Derived.Test.YteagbddejbjmfaaDoorZ3
import Derived.Test.YteagbddejbjmfaaDoorZ5
import Derived.Test.YteagbddejbjmfaaDoorZ1
import Derived.Test.YteagbddejbjmfaaDoorRows
import Derived.LaidMore
import Derived.Lay
import Derived.Handed
import Derived.Shelf.Vars
import Derived.OpenShut
import Derived.Stop.Joined
import Derived.ProofKit
import Derived.Test.YteagbddejbjmfaaDoorZ2
import Derived.Stop.LaidErr
import Derived.Lib.LaidTab

namespace Go.Proofs.YteagbddejbjmfaaDoor
set_option linter.unusedVariables false
set_option linter.unusedSimpArgs false
set_option maxRecDepth 100000
open Go.RowKit


theorem clB_cells3 {w : World} {g : Nat} {a b c : Value} (e : Blk w g 24 #[a, b, c]) : w.cell? ⟨g, 0, none⟩ = some a ∧ w.cell? ⟨g, 1, none⟩ = some b ∧ w.cell? ⟨g, 2, none⟩ = some c := ⟨e.cell 0, e.cell 1, e.cell 2⟩
set_option maxHeartbeats 8000000 in
theorem predTexts_walk (h : Ph) (t : Kv) (ks : List Pd) (ty : Int) (cc : Cl) (W : World) (hW : Lp W) (hk : Kd W t ks) (hb : I64b h.val.num) (hcb : I64b cc.num) :
    Calls Tryd.prog 4 #[pdV h t, .int .i64 ty, clV cc] W fun e w' => e = .returned (.bool true) ∧ Below W.heap.size W w' := by
  have F00 : Fr Non W ((W.alloc (.cells (pdC h t) 27)).alloc (.cells (clC cc) 24)) := ((Fr.refl Non W).alloc _).alloc _
  have PB0 : Hid (PdB ((W.alloc (.cells (pdC h t) 27)).alloc (.cells (clC cc) 24)) W.heap.size h t) := Lib.hid ((pd_new W _ h t rfl).fr ((Fr.refl Non _).alloc _) (fun e => e))
  have CB0 : Hid (Blk ((W.alloc (.cells (pdC h t) 27)).alloc (.cells (clC cc) 24)) (W.heap.size + 1) 24 (clC cc)) := Lib.hid (by
    have e := cl_new (W.alloc (.cells (pdC h t) 27)) cc
    rw [show (W.alloc (.cells (pdC h t) 27)).heap.size = W.heap.size + 1 by simp] at e
    exact e)
  have S2 := Lib.hid (rpsmall_any (.mk h ks) t 9 9 _ rfl (by omega) (hk.non F00))
  have HT1 : Hid (lenP (.mk h ks) = true → depP (.mk h ks) ≤ 9 → ∀ W, Lp W → Kd W t ks → Calls Tryd.prog 14 #[pdV h t] W fun e w' => e = .returned (.string ⟨(TextP (.mk h ks)).toArray⟩) ∧ Fr Non W w') := Lib.hid (fun a b W hW hk => pText_any h t ks W hW hk hb a b)
  have HT2 : Hid (lenP (.mk h ks) = true → ∀ W, Kd W t ks → Calls Tryd.prog 15 #[pdV h t] W fun e w' => e = .returned (.string ⟨(TextP (.mk h ks)).toArray⟩) ∧ Fr Non W w') := Lib.hid (fun a W hk => rpText_any h t ks W hk hb a)
  have HM2 : Hid (lenP (.mk h ks) = true → ∀ W, Kd W t ks → Calls Tryd.prog 10 #[pdV h t] W fun e w' => e = .returned (.bool (mayP (.mk h ks))) ∧ Fr Non W w') := Lib.hid (fun a W hk => rpmay_any h t ks W hk a)
  have HL1 : Hid (lenP (.mk h ks) = true → depP (.mk h ks) ≤ 9 → mayP (.mk h ks) = true → ∀ W, Kd W t ks → Calls Tryd.prog 19 #[pdV h t] W fun e w' => ∃ v, e = .returned v ∧ Vs sv w' v (colP [] (.mk h ks)) ∧ Fr Non W w') := Lib.hid (fun a b c W hk => pcols_any h t ks W hk hb a b c)
  have HCN0 : Hid (mayP (.mk h ks) = true → ([] : List Tx).length + cntP (.mk h ks) ≤ 1000) := Lib.hid (fun hmay => by
    unfold mayP at hmay
    rw [Bool.and_eq_true, decide_eq_true_eq] at hmay
    have := hmay.1.1
    simp only [List.length_nil]
    omega)
  have HV1 : Hid (cc.txt.length ≤ 100 → ∀ W, Lp W → Calls Tryd.prog 16 #[.int .i64 ty, clV cc] W fun e w' => e = .returned (.string ⟨(valT ty cc).toArray⟩) ∧ Fr Non W w') := Lib.hid (fun a W hW => pvalue_any ty cc W hW hcb (by omega))
  have HV2 : Hid (cc.txt.length ≤ 100 → ∀ W, Calls Tryd.prog 17 #[.int .i64 ty, clV cc] W fun e w' => e = .returned (.string ⟨(valT ty cc).toArray⟩) ∧ Fr Non W w') := Lib.hid (fun a W => rpvalue_any ty cc W hcb (by omega))
  have NM0 : Hid (mayP (.mk h ks) = true → ∀ (v1 v2 : Value) (W : World), Vs sv W v1 (colP [] (.mk h ks)) → Vs sv W v2 (colP [] (.mk h ks)) → Calls Tryd.prog 18 #[v1, v2] W fun e w' => e = .returned (.bool true) ∧ Fr Non W w') := Lib.hid (fun hmay v1 v2 W a b => by
    have h1 := colP_len (.mk h ks) []
    have h2 := HCN0.out hmay
    simp only [List.length_nil] at h1 h2
    have c := names_any v1 v2 _ _ W a b (by omega)
    simpa using c)
  dsimp only [Pd.hd, Pd.kids] at S2
  generalize mayP (.mk h ks) = mb at *
  generalize TextP (.mk h ks) = tx at *
  generalize depP (.mk h ks) = db at *
  generalize valT ty cc = va at *
  have F0 := Lib.hid F00
  have HK0 := Lib.hid (hk.non F00)
  have HW0 := Lib.hid (hW.non F00)
  clear hk hW F00
  obtain ⟨ho, hc, hm, ⟨vn, vi, vt⟩, hkd, hp⟩ := h
  obtain ⟨A, n, c⟩ := t
  obtain ⟨un, ui, ut⟩ := cc
  have hs := slen ut
  unfold pdV at S2 HT1 HT2 HM2 HL1 ⊢
  unfold clV at HV1 HV2 ⊢
  unfold clC at HV1 HV2 CB0 F0 HK0 HW0 PB0 S2 ⊢
  unfold pdC kidV at S2 HT1 HT2 HM2 HL1 PB0 CB0 F0 HK0 HW0 ⊢
  dsimp only at *
  go_enter Tryd.func4, Tryd.ntmps4
  go_wp2_with fail
  refine S2.out.mono ?_
  rintro e w1 ⟨⟨b1, rfl, hb1⟩, f1⟩
  have HB1 := Lib.hid hb1
  have PB1 := Lib.hid (PB0.out.fr f1 (fun e => e))
  have CB1 := Lib.hid (CB0.out.fr f1 (fun e => e))
  have HK1 := Lib.hid (HK0.out.non f1)
  have HW1 := Lib.hid (HW0.out.non f1)
  have F1 := Lib.hid (F0.out.trans f1)
  obtain ⟨d0, d1, d2⟩ := clB_cells3 CB1.out
  clear f1 hb1 S2
  cases b1
  · clear HT1 HT2 HM2 HL1 HV1 HV2 NM0
    go_wp2_with fail
    refine (plive_any _ HW1.out).mono ?_
    rintro e w9 ⟨rfl, f9⟩
    go_wp2
    go_ret
    exact ⟨rfl, (F1.out.trans f9).below⟩
  · by_cases h100 : 100 < ut.length
    · clear HT1 HT2 HM2 HL1 HV1 HV2 NM0
      go_wp2_with fail
      refine (plive_any _ HW1.out).mono ?_
      rintro e w9 ⟨rfl, f9⟩
      go_wp2
      go_ret
      exact ⟨rfl, (F1.out.trans f9).below⟩
    · obtain ⟨hl1, hd1⟩ := HB1.out rfl
      have HLP := Lib.hid hl1
      have T1 := Lib.hid (HT1.out hl1 hd1)
      have T2 := Lib.hid (HT2.out hl1)
      have M2 := Lib.hid (HM2.out hl1)
      have L1 := Lib.hid (HL1.out hl1 hd1)
      have V1 := Lib.hid (HV1.out (by omega))
      have V2 := Lib.hid (HV2.out (by omega))
      have PBd := Lib.hid PB1.out.drew
      have CBd := Lib.hid CB1.out.drew
      have HKd := Lib.hid (HK1.out.non (Fr.refl Non w1).drew)
      have HWd := Lib.hid (HW1.out.non (Fr.refl Non w1).drew)
      have Fd := Lib.hid F1.out.drew
      go_wp2
      clear d0 d1 d2
      obtain ⟨g0, g1, g2, g3, g4, g5, g6, g7, g8⟩ := pdB_cells PBd.out
      obtain ⟨d0, d1, d2⟩ := clB_cells3 CBd.out
      dsimp only at g0 g1 g2 g3 g4 g5 g6 g7 g8
      clear HT1 HT2 HM2 HL1 HV1 HV2 HB1 hl1 hd1
      refine wp_region_held_drew (S := (fun W' => W'.cell? ⟨W.heap.size, 0, none⟩ = some (.int .i64 ho) ∧ W'.cell? ⟨W.heap.size, 1, none⟩ = some (.string ⟨hc.toArray⟩) ∧ W'.cell? ⟨W.heap.size, 2, none⟩ = some (.int .i64 hm) ∧ W'.cell? ⟨W.heap.size, 3, none⟩ = some (.bool vn) ∧ W'.cell? ⟨W.heap.size, 4, none⟩ = some (.int .i64 vi) ∧ W'.cell? ⟨W.heap.size, 5, none⟩ = some (.string ⟨vt.toArray⟩) ∧ W'.cell? ⟨W.heap.size, 6, none⟩ = some (.int .i64 hkd) ∧ W'.cell? ⟨W.heap.size, 7, none⟩ = some (.string ⟨hp.toArray⟩) ∧ W'.cell? ⟨W.heap.size, 8, none⟩ = some (.slice A n c) ∧ W'.cell? ⟨W.heap.size + 1, 0, none⟩ = some (.bool un) ∧ W'.cell? ⟨W.heap.size + 1, 1, none⟩ = some (.int .i64 ui) ∧ W'.cell? ⟨W.heap.size + 1, 2, none⟩ = some (.string ⟨ut.toArray⟩))) (by kernel_rfl) (by exact ⟨g0, g1, g2, g3, g4, g5, g6, g7, g8, d0, d1, d2⟩) (fun hHeld => ?_)
      refine wpAnyH_take (i := 0) (oi := ⟨some 17, _, _, _, _, none⟩) (v := ?v14) rfl (by kernel_rfl) (by kernel_rfl) (by kernel_rfl) (fun _ _ _ h => h) (Or.inl ⟨by rfl, ?hy14⟩) (by assumption) ?rest14
      case hy14 => (intro wS hSw; (try dsimp only at hSw); go_simp; (try with_reducible rfl))
      (try simp only [Act.put, List.setIfInBounds_toArray, List.set_cons_zero, List.set_cons_succ])
      refine wpAnyH_take (i := 2) (oi := ⟨some 19, _, _, _, _, none⟩) (v := ?v15) rfl (by kernel_rfl) (by kernel_rfl) (by kernel_rfl) (fun _ _ _ h => h) (Or.inl ⟨by rfl, ?hy15⟩) (by assumption) ?rest15
      case hy15 => (intro wS hSw; (try dsimp only at hSw); go_simp; (try with_reducible rfl))
      (try simp only [Act.put, List.setIfInBounds_toArray, List.set_cons_zero, List.set_cons_succ])
      refine wpAnyH_ready (rs := [1]) (by kernel_rfl) (by simp) ?_
      refine AllReadyH.cons (o := ⟨some 18, _, _, _, _, none⟩) rfl (fun K hK => ?_) AllReadyH.nil
      go_simp
      go_at_call 14
      refine (T1.out _ HWd.out HKd.out).mono ?_
      rintro e w5 ⟨rfl, f5⟩
      have PB5 := Lib.hid (PBd.out.fr f5 (fun e => e))
      have CB5 := Lib.hid (CBd.out.fr f5 (fun e => e))
      have HK5 := Lib.hid (HKd.out.non f5)
      have HW5 := Lib.hid (HWd.out.non f5)
      have F5 := Lib.hid (Fd.out.trans f5)
      clear g0 g1 g2 g3 g4 g5 g6 g7 g8 d0 d1 d2
      obtain ⟨g0, g1, g2, g3, g4, g5, g6, g7, g8⟩ := pdB_cells PB5.out
      obtain ⟨d0, d1, d2⟩ := clB_cells3 CB5.out
      dsimp only at g0 g1 g2 g3 g4 g5 g6 g7 g8
      go_wp2_with fail
      refine hK.out _ _ (by exact ⟨g0, g1, g2, g3, g4, g5, g6, g7, g8, d0, d1, d2⟩) (fun hHeld => ?_)
      clear hK K
      (try simp only [Act.put, List.setIfInBounds_toArray, List.set_cons_zero, List.set_cons_succ])
      refine wpAnyH_ready (rs := [3]) (by kernel_rfl) (by simp) ?_
      refine AllReadyH.cons (o := ⟨some 20, _, _, _, _, none⟩) rfl (fun K hK => ?_) AllReadyH.nil
      go_simp
      go_at_call 15
      refine (T2.out _ HK5.out).mono ?_
      rintro e w6 ⟨rfl, f6⟩
      have PB6 := Lib.hid (PB5.out.fr f6 (fun e => e))
      have CB6 := Lib.hid (CB5.out.fr f6 (fun e => e))
      have HK6 := Lib.hid (HK5.out.non f6)
      have HW6 := Lib.hid (HW5.out.non f6)
      have F6 := Lib.hid (F5.out.trans f6)
      clear g0 g1 g2 g3 g4 g5 g6 g7 g8 d0 d1 d2
      obtain ⟨g0, g1, g2, g3, g4, g5, g6, g7, g8⟩ := pdB_cells PB6.out
      obtain ⟨d0, d1, d2⟩ := clB_cells3 CB6.out
      dsimp only at g0 g1 g2 g3 g4 g5 g6 g7 g8
      go_wp2_with fail
      refine hK.out _ _ (by exact ⟨g0, g1, g2, g3, g4, g5, g6, g7, g8, d0, d1, d2⟩) (fun hHeld => ?_)
      clear hK K
      (try simp only [Act.put, List.setIfInBounds_toArray, List.set_cons_zero, List.set_cons_succ])
      refine wpAnyH_take (i := 4) (oi := ⟨some 21, _, _, _, _, none⟩) (v := ?v16) rfl (by kernel_rfl) (by kernel_rfl) (by kernel_rfl) (fun _ _ _ h => h) (Or.inl ⟨by rfl, ?hy16⟩) (by assumption) ?rest16
      case hy16 => (intro wS hSw; (try dsimp only at hSw); go_simp; (try with_reducible rfl))
      (try simp only [Act.put, List.setIfInBounds_toArray, List.set_cons_zero, List.set_cons_succ])
      refine wpAnyH_take (i := 5) (oi := ⟨some 22, _, _, _, _, none⟩) (v := ?v17) rfl (by kernel_rfl) (by kernel_rfl) (by kernel_rfl) (fun _ _ _ h => h) (Or.inl ⟨by rfl, ?hy17⟩) (by assumption) ?rest17
      case hy17 => (intro wS hSw; (try dsimp only at hSw); go_simp; (try with_reducible rfl))
      (try simp only [Act.put, List.setIfInBounds_toArray, List.set_cons_zero, List.set_cons_succ])
      refine wpAnyH_take (i := 6) (oi := ⟨some 23, _, _, _, _, some (5, false)⟩) (v := ?v18) rfl (by kernel_rfl) (by kernel_rfl) (by kernel_rfl) (fun _ _ _ h => h) (Or.inl ⟨by rfl, ?hy18⟩) (by assumption) ?rest18
      case hy18 => (intro wS hSw; (try dsimp only at hSw); go_simp; (try with_reducible rfl))
      (try simp only [Act.put, List.setIfInBounds_toArray, List.set_cons_zero, List.set_cons_succ])
      refine wpAnyH_take (i := 7) (oi := ⟨some 24, _, _, _, _, some (5, false)⟩) (v := ?v19) rfl (by kernel_rfl) (by kernel_rfl) (by kernel_rfl) (fun _ _ _ h => h) (Or.inl ⟨by rfl, ?hy19⟩) (by assumption) ?rest19
      case hy19 => (intro wS hSw; (try dsimp only at hSw); go_simp; (try with_reducible rfl))
      (try simp only [Act.put, List.setIfInBounds_toArray, List.set_cons_zero, List.set_cons_succ])
      refine wpAnyH_take (i := 9) (oi := ⟨some 26, _, _, _, _, some (5, false)⟩) (v := ?v20) rfl (by kernel_rfl) (by kernel_rfl) (by kernel_rfl) (fun _ _ _ h => h) (Or.inl ⟨by rfl, ?hy20⟩) (by assumption) ?rest20
      case hy20 => (intro wS hSw; (try dsimp only at hSw); go_simp; (try with_reducible rfl))
      (try simp only [Act.put, List.setIfInBounds_toArray, List.set_cons_zero, List.set_cons_succ])
      refine wpAnyH_take (i := 10) (oi := ⟨some 27, _, _, _, _, some (5, false)⟩) (v := ?v21) rfl (by kernel_rfl) (by kernel_rfl) (by kernel_rfl) (fun _ _ _ h => h) (Or.inl ⟨by rfl, ?hy21⟩) (by assumption) ?rest21
      case hy21 => (intro wS hSw; (try dsimp only at hSw); go_simp; (try with_reducible rfl))
      (try simp only [Act.put, List.setIfInBounds_toArray, List.set_cons_zero, List.set_cons_succ])
      refine wpAnyH_ready (rs := [8]) (by kernel_rfl) (by simp) ?_
      refine AllReadyH.cons (o := ⟨some 25, _, _, _, _, some (5, false)⟩) rfl (fun K hK => ?_) AllReadyH.nil
      go_simp
      go_at_call 16
      refine (V1.out _ HW6.out).mono ?_
      rintro e w7 ⟨rfl, f7⟩
      have PB7 := Lib.hid (PB6.out.fr f7 (fun e => e))
      have CB7 := Lib.hid (CB6.out.fr f7 (fun e => e))
      have HK7 := Lib.hid (HK6.out.non f7)
      have HW7 := Lib.hid (HW6.out.non f7)
      have F7 := Lib.hid (F6.out.trans f7)
      clear g0 g1 g2 g3 g4 g5 g6 g7 g8 d0 d1 d2
      obtain ⟨g0, g1, g2, g3, g4, g5, g6, g7, g8⟩ := pdB_cells PB7.out
      obtain ⟨d0, d1, d2⟩ := clB_cells3 CB7.out
      dsimp only at g0 g1 g2 g3 g4 g5 g6 g7 g8
      go_wp2_with fail
      refine hK.out _ _ (by exact ⟨g0, g1, g2, g3, g4, g5, g6, g7, g8, d0, d1, d2⟩) (fun hHeld => ?_)
      clear hK K
      (try simp only [Act.put, List.setIfInBounds_toArray, List.set_cons_zero, List.set_cons_succ])
      refine wpAnyH_ready (rs := [11]) (by kernel_rfl) (by simp) ?_
      refine AllReadyH.cons (o := ⟨some 28, _, _, _, _, some (5, false)⟩) rfl (fun K hK => ?_) AllReadyH.nil
      go_simp
      go_at_call 17
      refine (V2.out _).mono ?_
      rintro e w8 ⟨rfl, f8⟩
      have PB8 := Lib.hid (PB7.out.fr f8 (fun e => e))
      have CB8 := Lib.hid (CB7.out.fr f8 (fun e => e))
      have HK8 := Lib.hid (HK7.out.non f8)
      have HW8 := Lib.hid (HW7.out.non f8)
      have F8 := Lib.hid (F7.out.trans f8)
      clear g0 g1 g2 g3 g4 g5 g6 g7 g8 d0 d1 d2
      obtain ⟨g0, g1, g2, g3, g4, g5, g6, g7, g8⟩ := pdB_cells PB8.out
      obtain ⟨d0, d1, d2⟩ := clB_cells3 CB8.out
      dsimp only at g0 g1 g2 g3 g4 g5 g6 g7 g8
      go_wp2_with fail
      refine hK.out _ _ (by exact ⟨g0, g1, g2, g3, g4, g5, g6, g7, g8, d0, d1, d2⟩) (fun hHeld => ?_)
      clear hK K
      (try simp only [Act.put, List.setIfInBounds_toArray, List.set_cons_zero, List.set_cons_succ])
      refine wpAnyH_take (i := 12) (oi := ⟨some 29, _, _, _, _, some (5, false)⟩) (v := ?v22) rfl (by kernel_rfl) (by kernel_rfl) (by kernel_rfl) (fun _ _ _ h => h) (Or.inl ⟨by rfl, ?hy22⟩) (by assumption) ?rest22
      case hy22 => (intro wS hSw; (try dsimp only at hSw); go_simp; (try with_reducible rfl))
      (try simp only [Act.put, List.setIfInBounds_toArray, List.set_cons_zero, List.set_cons_succ])
      refine wpAnyH_take (i := 13) (oi := ⟨some 30, _, _, _, _, none⟩) (v := ?v23) rfl (by kernel_rfl) (by kernel_rfl) (by kernel_rfl) (fun _ _ _ h => h) (Or.inl ⟨by rfl, ?hy23⟩) (by assumption) ?rest23
      case hy23 => (intro wS hSw; (try dsimp only at hSw); go_simp; (try with_reducible rfl))
      (try simp only [Act.put, List.setIfInBounds_toArray, List.set_cons_zero, List.set_cons_succ])
      refine wpAnyH_done (by kernel_rfl) ?_ _
      have PBe := Lib.hid PB8.out.drew
      have CBe := Lib.hid CB8.out.drew
      have HKe := Lib.hid (HK8.out.non (Fr.refl Non w8).drew)
      have HWe := Lib.hid (HW8.out.non (Fr.refl Non w8).drew)
      have Fe := Lib.hid F8.out.drew
      clear g0 g1 g2 g3 g4 g5 g6 g7 g8 d0 d1 d2
      obtain ⟨g0, g1, g2, g3, g4, g5, g6, g7, g8⟩ := pdB_cells PBe.out
      obtain ⟨d0, d1, d2⟩ := clB_cells3 CBe.out
      dsimp only at g0 g1 g2 g3 g4 g5 g6 g7 g8
      cases mb
      · clear L1 NM0 HCN0
        go_wp2
        refine wp_region_held_drew (S := (fun W' => W'.cell? ⟨W.heap.size, 0, none⟩ = some (.int .i64 ho) ∧ W'.cell? ⟨W.heap.size, 1, none⟩ = some (.string ⟨hc.toArray⟩) ∧ W'.cell? ⟨W.heap.size, 2, none⟩ = some (.int .i64 hm) ∧ W'.cell? ⟨W.heap.size, 3, none⟩ = some (.bool vn) ∧ W'.cell? ⟨W.heap.size, 4, none⟩ = some (.int .i64 vi) ∧ W'.cell? ⟨W.heap.size, 5, none⟩ = some (.string ⟨vt.toArray⟩) ∧ W'.cell? ⟨W.heap.size, 6, none⟩ = some (.int .i64 hkd) ∧ W'.cell? ⟨W.heap.size, 7, none⟩ = some (.string ⟨hp.toArray⟩) ∧ W'.cell? ⟨W.heap.size, 8, none⟩ = some (.slice A n c) ∧ W'.cell? ⟨W.heap.size + 1, 0, none⟩ = some (.bool un) ∧ W'.cell? ⟨W.heap.size + 1, 1, none⟩ = some (.int .i64 ui) ∧ W'.cell? ⟨W.heap.size + 1, 2, none⟩ = some (.string ⟨ut.toArray⟩))) (by kernel_rfl) (by exact ⟨g0, g1, g2, g3, g4, g5, g6, g7, g8, d0, d1, d2⟩) (fun hHeld => ?_)
        refine wpAnyH_take (i := 0) (oi := ⟨some 31, _, _, _, _, none⟩) (v := ?v24) rfl (by kernel_rfl) (by kernel_rfl) (by kernel_rfl) (fun _ _ _ h => h) (Or.inl ⟨by rfl, ?hy24⟩) (by assumption) ?rest24
        case hy24 => (intro wS hSw; (try dsimp only at hSw); go_simp; (try with_reducible rfl))
        (try simp only [Act.put, List.setIfInBounds_toArray, List.set_cons_zero, List.set_cons_succ])
        refine wpAnyH_ready (rs := [1]) (by kernel_rfl) (by simp) ?_
        refine AllReadyH.cons (o := ⟨some 32, _, _, _, _, none⟩) rfl (fun K hK => ?_) AllReadyH.nil
        go_simp
        go_at_call 10
        refine (M2.out _ HKe.out).mono ?_
        rintro e w9 ⟨rfl, f9⟩
        have PB9 := Lib.hid (PBe.out.fr f9 (fun e => e))
        have CB9 := Lib.hid (CBe.out.fr f9 (fun e => e))
        have HK9 := Lib.hid (HKe.out.non f9)
        have HW9 := Lib.hid (HWe.out.non f9)
        have F9 := Lib.hid (Fe.out.trans f9)
        clear g0 g1 g2 g3 g4 g5 g6 g7 g8 d0 d1 d2
        obtain ⟨g0, g1, g2, g3, g4, g5, g6, g7, g8⟩ := pdB_cells PB9.out
        obtain ⟨d0, d1, d2⟩ := clB_cells3 CB9.out
        dsimp only at g0 g1 g2 g3 g4 g5 g6 g7 g8
        go_wp2_with fail
        refine hK.out _ _ (by exact ⟨g0, g1, g2, g3, g4, g5, g6, g7, g8, d0, d1, d2⟩) (fun hHeld => ?_)
        clear hK K
        (try simp only [Act.put, List.setIfInBounds_toArray, List.set_cons_zero, List.set_cons_succ])
        refine wpAnyH_take (i := 2) (oi := ⟨some 33, _, _, _, _, none⟩) (v := ?v25) rfl (by kernel_rfl) (by kernel_rfl) (by kernel_rfl) (fun _ _ _ h => h) (Or.inl ⟨by rfl, ?hy25⟩) (by assumption) ?rest25
        case hy25 => (intro wS hSw; (try dsimp only at hSw); go_simp; (try with_reducible rfl))
        (try simp only [Act.put, List.setIfInBounds_toArray, List.set_cons_zero, List.set_cons_succ])
        refine wpAnyH_take (i := 3) (oi := ⟨some 34, _, _, _, _, none⟩) (v := ?v26) rfl (by kernel_rfl) (by kernel_rfl) (by kernel_rfl) (fun _ _ _ h => h) (Or.inl ⟨by rfl, ?hy26⟩) (by assumption) ?rest26
        case hy26 => (intro wS hSw; (try dsimp only at hSw); go_simp; (try with_reducible rfl))
        (try simp only [Act.put, List.setIfInBounds_toArray, List.set_cons_zero, List.set_cons_succ])
        refine wpAnyH_take (i := 4) (oi := ⟨some 35, _, _, _, _, some (3, false)⟩) (v := undef) rfl (by kernel_rfl) (by kernel_rfl) (by kernel_rfl) (fun _ _ _ h => h) (Or.inr ⟨by rfl, rfl⟩) (by assumption) ?_
        (try simp only [Act.put, List.setIfInBounds_toArray, List.set_cons_zero, List.set_cons_succ])
        refine wpAnyH_take (i := 5) (oi := ⟨some 36, _, _, _, _, some (3, false)⟩) (v := undef) rfl (by kernel_rfl) (by kernel_rfl) (by kernel_rfl) (fun _ _ _ h => h) (Or.inr ⟨by rfl, rfl⟩) (by assumption) ?_
        (try simp only [Act.put, List.setIfInBounds_toArray, List.set_cons_zero, List.set_cons_succ])
        refine wpAnyH_take (i := 6) (oi := ⟨some 37, _, _, _, _, some (3, false)⟩) (v := undef) rfl (by kernel_rfl) (by kernel_rfl) (by kernel_rfl) (fun _ _ _ h => h) (Or.inr ⟨by rfl, rfl⟩) (by assumption) ?_
        (try simp only [Act.put, List.setIfInBounds_toArray, List.set_cons_zero, List.set_cons_succ])
        refine wpAnyH_take (i := 7) (oi := ⟨some 38, _, _, _, _, some (3, false)⟩) (v := undef) rfl (by kernel_rfl) (by kernel_rfl) (by kernel_rfl) (fun _ _ _ h => h) (Or.inr ⟨by rfl, rfl⟩) (by assumption) ?_
        (try simp only [Act.put, List.setIfInBounds_toArray, List.set_cons_zero, List.set_cons_succ])
        refine wpAnyH_take (i := 8) (oi := ⟨some 39, _, _, _, _, some (3, false)⟩) (v := undef) rfl (by kernel_rfl) (by kernel_rfl) (by kernel_rfl) (fun _ _ _ h => h) (Or.inr ⟨by rfl, rfl⟩) (by assumption) ?_
        (try simp only [Act.put, List.setIfInBounds_toArray, List.set_cons_zero, List.set_cons_succ])
        refine wpAnyH_take (i := 9) (oi := ⟨some 40, _, _, _, _, none⟩) (v := ?v27) rfl (by kernel_rfl) (by kernel_rfl) (by kernel_rfl) (fun _ _ _ h => h) (Or.inl ⟨by rfl, ?hy27⟩) (by assumption) ?rest27
        case hy27 => (intro wS hSw; (try dsimp only at hSw); go_simp; (try with_reducible rfl))
        (try simp only [Act.put, List.setIfInBounds_toArray, List.set_cons_zero, List.set_cons_succ])
        refine wpAnyH_take (i := 10) (oi := ⟨some 41, _, _, _, _, none⟩) (v := ?v28) rfl (by kernel_rfl) (by kernel_rfl) (by kernel_rfl) (fun _ _ _ h => h) (Or.inl ⟨by rfl, ?hy28⟩) (by assumption) ?rest28
        case hy28 => (intro wS hSw; (try dsimp only at hSw); go_simp; (try with_reducible rfl))
        (try simp only [Act.put, List.setIfInBounds_toArray, List.set_cons_zero, List.set_cons_succ])
        refine wpAnyH_ready (rs := [11]) (by kernel_rfl) (by simp) ?_
        refine AllReadyH.cons (o := ⟨some 42, _, _, _, _, some (10, true)⟩) rfl (fun K hK => ?_) AllReadyH.nil
        go_simp
        go_at_call 8
        refine (plive_any _ HW9.out).mono ?_
        rintro e w10 ⟨rfl, f10⟩
        have PB10 := Lib.hid (PB9.out.fr f10 (fun e => e))
        have CB10 := Lib.hid (CB9.out.fr f10 (fun e => e))
        have HK10 := Lib.hid (HK9.out.non f10)
        have HW10 := Lib.hid (HW9.out.non f10)
        have F10 := Lib.hid (F9.out.trans f10)
        clear g0 g1 g2 g3 g4 g5 g6 g7 g8 d0 d1 d2
        obtain ⟨g0, g1, g2, g3, g4, g5, g6, g7, g8⟩ := pdB_cells PB10.out
        obtain ⟨d0, d1, d2⟩ := clB_cells3 CB10.out
        dsimp only at g0 g1 g2 g3 g4 g5 g6 g7 g8
        go_wp2_with fail
        refine hK.out _ _ (by exact ⟨g0, g1, g2, g3, g4, g5, g6, g7, g8, d0, d1, d2⟩) (fun hHeld => ?_)
        clear hK K
        (try simp only [Act.put, List.setIfInBounds_toArray, List.set_cons_zero, List.set_cons_succ])
        refine wpAnyH_take (i := 12) (oi := ⟨some 43, _, _, _, _, none⟩) (v := ?v29) rfl (by kernel_rfl) (by kernel_rfl) (by kernel_rfl) (fun _ _ _ h => h) (Or.inl ⟨by rfl, ?hy29⟩) (by assumption) ?rest29
        case hy29 => (intro wS hSw; (try dsimp only at hSw); go_simp; (try with_reducible rfl))
        (try simp only [Act.put, List.setIfInBounds_toArray, List.set_cons_zero, List.set_cons_succ])
        refine wpAnyH_take (i := 13) (oi := ⟨some 6, _, _, _, _, none⟩) (v := ?v30) rfl (by kernel_rfl) (by kernel_rfl) (by kernel_rfl) (fun _ _ _ h => h) (Or.inl ⟨by rfl, ?hy30⟩) (by assumption) ?rest30
        case hy30 => (intro wS hSw; (try dsimp only at hSw); go_simp; (try with_reducible rfl))
        (try simp only [Act.put, List.setIfInBounds_toArray, List.set_cons_zero, List.set_cons_succ])
        refine wpAnyH_done (by kernel_rfl) ?_ _
        go_wp2
        go_ret
        exact ⟨rfl, F10.out.below⟩
      · have HCN := Lib.hid (HCN0.out rfl)
        have NM := Lib.hid (NM0.out rfl)
        go_wp2
        refine wp_region_held_drew (S := (fun W' => W'.cell? ⟨W.heap.size, 0, none⟩ = some (.int .i64 ho) ∧ W'.cell? ⟨W.heap.size, 1, none⟩ = some (.string ⟨hc.toArray⟩) ∧ W'.cell? ⟨W.heap.size, 2, none⟩ = some (.int .i64 hm) ∧ W'.cell? ⟨W.heap.size, 3, none⟩ = some (.bool vn) ∧ W'.cell? ⟨W.heap.size, 4, none⟩ = some (.int .i64 vi) ∧ W'.cell? ⟨W.heap.size, 5, none⟩ = some (.string ⟨vt.toArray⟩) ∧ W'.cell? ⟨W.heap.size, 6, none⟩ = some (.int .i64 hkd) ∧ W'.cell? ⟨W.heap.size, 7, none⟩ = some (.string ⟨hp.toArray⟩) ∧ W'.cell? ⟨W.heap.size, 8, none⟩ = some (.slice A n c) ∧ W'.cell? ⟨W.heap.size + 1, 0, none⟩ = some (.bool un) ∧ W'.cell? ⟨W.heap.size + 1, 1, none⟩ = some (.int .i64 ui) ∧ W'.cell? ⟨W.heap.size + 1, 2, none⟩ = some (.string ⟨ut.toArray⟩))) (by kernel_rfl) (by exact ⟨g0, g1, g2, g3, g4, g5, g6, g7, g8, d0, d1, d2⟩) (fun hHeld => ?_)
        refine wpAnyH_take (i := 0) (oi := ⟨some 31, _, _, _, _, none⟩) (v := ?v31) rfl (by kernel_rfl) (by kernel_rfl) (by kernel_rfl) (fun _ _ _ h => h) (Or.inl ⟨by rfl, ?hy31⟩) (by assumption) ?rest31
        case hy31 => (intro wS hSw; (try dsimp only at hSw); go_simp; (try with_reducible rfl))
        (try simp only [Act.put, List.setIfInBounds_toArray, List.set_cons_zero, List.set_cons_succ])
        refine wpAnyH_ready (rs := [1]) (by kernel_rfl) (by simp) ?_
        refine AllReadyH.cons (o := ⟨some 32, _, _, _, _, none⟩) rfl (fun K hK => ?_) AllReadyH.nil
        go_simp
        go_at_call 10
        refine (M2.out _ HKe.out).mono ?_
        rintro e w9 ⟨rfl, f9⟩
        have PB9 := Lib.hid (PBe.out.fr f9 (fun e => e))
        have CB9 := Lib.hid (CBe.out.fr f9 (fun e => e))
        have HK9 := Lib.hid (HKe.out.non f9)
        have HW9 := Lib.hid (HWe.out.non f9)
        have F9 := Lib.hid (Fe.out.trans f9)
        clear g0 g1 g2 g3 g4 g5 g6 g7 g8 d0 d1 d2
        obtain ⟨g0, g1, g2, g3, g4, g5, g6, g7, g8⟩ := pdB_cells PB9.out
        obtain ⟨d0, d1, d2⟩ := clB_cells3 CB9.out
        dsimp only at g0 g1 g2 g3 g4 g5 g6 g7 g8
        go_wp2_with fail
        refine hK.out _ _ (by exact ⟨g0, g1, g2, g3, g4, g5, g6, g7, g8, d0, d1, d2⟩) (fun hHeld => ?_)
        clear hK K
        (try simp only [Act.put, List.setIfInBounds_toArray, List.set_cons_zero, List.set_cons_succ])
        refine wpAnyH_take (i := 2) (oi := ⟨some 33, _, _, _, _, none⟩) (v := ?v32) rfl (by kernel_rfl) (by kernel_rfl) (by kernel_rfl) (fun _ _ _ h => h) (Or.inl ⟨by rfl, ?hy32⟩) (by assumption) ?rest32
        case hy32 => (intro wS hSw; (try dsimp only at hSw); go_simp; (try with_reducible rfl))
        (try simp only [Act.put, List.setIfInBounds_toArray, List.set_cons_zero, List.set_cons_succ])
        refine wpAnyH_take (i := 3) (oi := ⟨some 34, _, _, _, _, none⟩) (v := ?v33) rfl (by kernel_rfl) (by kernel_rfl) (by kernel_rfl) (fun _ _ _ h => h) (Or.inl ⟨by rfl, ?hy33⟩) (by assumption) ?rest33
        case hy33 => (intro wS hSw; (try dsimp only at hSw); go_simp; (try with_reducible rfl))
        (try simp only [Act.put, List.setIfInBounds_toArray, List.set_cons_zero, List.set_cons_succ])
        refine wpAnyH_take (i := 4) (oi := ⟨some 35, _, _, _, _, some (3, false)⟩) (v := ?v34) rfl (by kernel_rfl) (by kernel_rfl) (by kernel_rfl) (fun _ _ _ h => h) (Or.inl ⟨by rfl, ?hy34⟩) (by assumption) ?rest34
        case hy34 => (intro wS hSw; (try dsimp only at hSw); go_simp; (try with_reducible rfl))
        (try simp only [Act.put, List.setIfInBounds_toArray, List.set_cons_zero, List.set_cons_succ])
        refine wpAnyH_take (i := 6) (oi := ⟨some 37, _, _, _, _, some (3, false)⟩) (v := ?v35) rfl (by kernel_rfl) (by kernel_rfl) (by kernel_rfl) (fun _ _ _ h => h) (Or.inl ⟨by rfl, ?hy35⟩) (by assumption) ?rest35
        case hy35 => (intro wS hSw; (try dsimp only at hSw); go_simp; (try with_reducible rfl))
        (try simp only [Act.put, List.setIfInBounds_toArray, List.set_cons_zero, List.set_cons_succ])
        refine wpAnyH_ready (rs := [5]) (by kernel_rfl) (by simp) ?_
        refine AllReadyH.cons (o := ⟨some 36, _, _, _, _, some (3, false)⟩) rfl (fun K hK => ?_) AllReadyH.nil
        go_simp
        go_at_call 19
        refine (L1.out (by trivial) _ HK9.out).mono ?_
        rintro e w10 ⟨u, rfl, hu, f10⟩
        obtain ⟨uA, uc, rfl⟩ := hu.shape
        have PB10 := Lib.hid (PB9.out.fr f10 (fun e => e))
        have CB10 := Lib.hid (CB9.out.fr f10 (fun e => e))
        have HK10 := Lib.hid (HK9.out.non f10)
        have HW10 := Lib.hid (HW9.out.non f10)
        have F10 := Lib.hid (F9.out.trans f10)
        clear g0 g1 g2 g3 g4 g5 g6 g7 g8 d0 d1 d2
        obtain ⟨g0, g1, g2, g3, g4, g5, g6, g7, g8⟩ := pdB_cells PB10.out
        obtain ⟨d0, d1, d2⟩ := clB_cells3 CB10.out
        dsimp only at g0 g1 g2 g3 g4 g5 g6 g7 g8
        go_wp2_with fail
        refine hK.out _ _ (by exact ⟨g0, g1, g2, g3, g4, g5, g6, g7, g8, d0, d1, d2⟩) (fun hHeld => ?_)
        clear hK K
        (try simp only [Act.put, List.setIfInBounds_toArray, List.set_cons_zero, List.set_cons_succ])
        refine wpAnyH_ready (rs := [7]) (by kernel_rfl) (by simp) ?_
        refine AllReadyH.cons (o := ⟨some 38, _, _, _, _, some (3, false)⟩) rfl (fun K hK => ?_) AllReadyH.nil
        go_simp
        go_at_call 20
        refine (rcols_any w10 (.mk _ ks) [] (.slice none 0 0) w10 _ (Fr.refl _ _) (ow_nil _ _) HCN.out HK10.out HLP.out).mono ?_
        rintro e w11 ⟨u2, rfl, hu2, f11s⟩
        obtain ⟨uA2, uc2, rfl⟩ := hu2.shape
        have f11 : Fr Non w10 w11 := (Fr.refl Non w10).fresh f11s (fun q hq => hq.1)
        have hv1 := hu.non f11
        have hv2 := hu2.vs
        have PB11 := Lib.hid (PB10.out.fr f11 (fun e => e))
        have CB11 := Lib.hid (CB10.out.fr f11 (fun e => e))
        have HK11 := Lib.hid (HK10.out.non f11)
        have HW11 := Lib.hid (HW10.out.non f11)
        have F11 := Lib.hid (F10.out.trans f11)
        clear g0 g1 g2 g3 g4 g5 g6 g7 g8 d0 d1 d2
        obtain ⟨g0, g1, g2, g3, g4, g5, g6, g7, g8⟩ := pdB_cells PB11.out
        obtain ⟨d0, d1, d2⟩ := clB_cells3 CB11.out
        dsimp only at g0 g1 g2 g3 g4 g5 g6 g7 g8
        go_wp2_with fail
        refine hK.out _ _ (by exact ⟨g0, g1, g2, g3, g4, g5, g6, g7, g8, d0, d1, d2⟩) (fun hHeld => ?_)
        clear hK K
        (try simp only [Act.put, List.setIfInBounds_toArray, List.set_cons_zero, List.set_cons_succ])
        refine wpAnyH_ready (rs := [8]) (by kernel_rfl) (by simp) ?_
        refine AllReadyH.cons (o := ⟨some 39, _, _, _, _, some (3, false)⟩) rfl (fun K hK => ?_) AllReadyH.nil
        go_simp
        go_at_call 18
        refine (NM.out _ _ _ hv1 hv2).mono ?_
        rintro e w12 ⟨rfl, f12⟩
        have PB12 := Lib.hid (PB11.out.fr f12 (fun e => e))
        have CB12 := Lib.hid (CB11.out.fr f12 (fun e => e))
        have HK12 := Lib.hid (HK11.out.non f12)
        have HW12 := Lib.hid (HW11.out.non f12)
        have F12 := Lib.hid (F11.out.trans f12)
        clear g0 g1 g2 g3 g4 g5 g6 g7 g8 d0 d1 d2
        obtain ⟨g0, g1, g2, g3, g4, g5, g6, g7, g8⟩ := pdB_cells PB12.out
        obtain ⟨d0, d1, d2⟩ := clB_cells3 CB12.out
        dsimp only at g0 g1 g2 g3 g4 g5 g6 g7 g8
        go_wp2_with fail
        refine hK.out _ _ (by exact ⟨g0, g1, g2, g3, g4, g5, g6, g7, g8, d0, d1, d2⟩) (fun hHeld => ?_)
        clear hK K
        (try simp only [Act.put, List.setIfInBounds_toArray, List.set_cons_zero, List.set_cons_succ])
        refine wpAnyH_take (i := 9) (oi := ⟨some 40, _, _, _, _, none⟩) (v := ?v36) rfl (by kernel_rfl) (by kernel_rfl) (by kernel_rfl) (fun _ _ _ h => h) (Or.inl ⟨by rfl, ?hy36⟩) (by assumption) ?rest36
        case hy36 => (intro wS hSw; (try dsimp only at hSw); go_simp; (try with_reducible rfl))
        (try simp only [Act.put, List.setIfInBounds_toArray, List.set_cons_zero, List.set_cons_succ])
        refine wpAnyH_take (i := 10) (oi := ⟨some 41, _, _, _, _, none⟩) (v := ?v37) rfl (by kernel_rfl) (by kernel_rfl) (by kernel_rfl) (fun _ _ _ h => h) (Or.inl ⟨by rfl, ?hy37⟩) (by assumption) ?rest37
        case hy37 => (intro wS hSw; (try dsimp only at hSw); go_simp; (try with_reducible rfl))
        (try simp only [Act.put, List.setIfInBounds_toArray, List.set_cons_zero, List.set_cons_succ])
        refine wpAnyH_ready (rs := [11]) (by kernel_rfl) (by simp) ?_
        refine AllReadyH.cons (o := ⟨some 42, _, _, _, _, some (10, true)⟩) rfl (fun K hK => ?_) AllReadyH.nil
        go_simp
        go_at_call 8
        refine (plive_any _ HW12.out).mono ?_
        rintro e w13 ⟨rfl, f13⟩
        have PB13 := Lib.hid (PB12.out.fr f13 (fun e => e))
        have CB13 := Lib.hid (CB12.out.fr f13 (fun e => e))
        have HK13 := Lib.hid (HK12.out.non f13)
        have HW13 := Lib.hid (HW12.out.non f13)
        have F13 := Lib.hid (F12.out.trans f13)
        clear g0 g1 g2 g3 g4 g5 g6 g7 g8 d0 d1 d2
        obtain ⟨g0, g1, g2, g3, g4, g5, g6, g7, g8⟩ := pdB_cells PB13.out
        obtain ⟨d0, d1, d2⟩ := clB_cells3 CB13.out
        dsimp only at g0 g1 g2 g3 g4 g5 g6 g7 g8
        go_wp2_with fail
        refine hK.out _ _ (by exact ⟨g0, g1, g2, g3, g4, g5, g6, g7, g8, d0, d1, d2⟩) (fun hHeld => ?_)
        clear hK K
        (try simp only [Act.put, List.setIfInBounds_toArray, List.set_cons_zero, List.set_cons_succ])
        refine wpAnyH_take (i := 12) (oi := ⟨some 43, _, _, _, _, none⟩) (v := ?v38) rfl (by kernel_rfl) (by kernel_rfl) (by kernel_rfl) (fun _ _ _ h => h) (Or.inl ⟨by rfl, ?hy38⟩) (by assumption) ?rest38
        case hy38 => (intro wS hSw; (try dsimp only at hSw); go_simp; (try with_reducible rfl))
        (try simp only [Act.put, List.setIfInBounds_toArray, List.set_cons_zero, List.set_cons_succ])
        refine wpAnyH_take (i := 13) (oi := ⟨some 6, _, _, _, _, none⟩) (v := ?v39) rfl (by kernel_rfl) (by kernel_rfl) (by kernel_rfl) (fun _ _ _ h => h) (Or.inl ⟨by rfl, ?hy39⟩) (by assumption) ?rest39
        case hy39 => (intro wS hSw; (try dsimp only at hSw); go_simp; (try with_reducible rfl))
        (try simp only [Act.put, List.setIfInBounds_toArray, List.set_cons_zero, List.set_cons_succ])
        refine wpAnyH_done (by kernel_rfl) ?_ _
        go_wp2
        go_ret
        exact ⟨rfl, F13.out.below⟩
end Go.Proofs.YteagbddejbjmfaaDoor


namespace Go.Proofs.YteagbddejbjmfaaDoor
set_option linter.unusedVariables false
set_option linter.unusedSimpArgs false
set_option maxRecDepth 100000
open Go.Joins Go.ChangeShapes Go.WideShapes Go.ChangeAt Go.RowKit Go.Deep

/-- a cell within its fields' ranges -/
structure ClWf (c : Cl) : Prop where
  lo : -9223372036854775808 ≤ c.num
  hi : c.num ≤ 9223372036854775807
  len : c.txt.length ≤ 9223372036854775807
theorem cl_in {H : Type} {enc : TypeId × Value → H} {W : World} {base : Nat} {v : Value} {d : DataW H} {p : List MemPlace} (hv : Value.okWide Tryd.prog W .any base 24 v)
    (h : DataW.Trod enc Tryd.prog W 0 (fun _ => true) true 24 v d p) : ∃ c, v = clV c ∧ ClWf c := by
  obtain ⟨v0, v1, v2, y0, y1, y2, n, rfl, _, _, h0, h1, h2⟩ := open_agg3 Tryd.underlying24 (by kernel_rfl) (by kernel_rfl) hv h
  obtain ⟨b, e0, _⟩ := DataW.trod_bool Tryd.underlying4 h0
  obtain rfl := (List.cons.inj e0).1
  obtain ⟨i, e1, _, hi⟩ := DataW.trod_int Tryd.underlying2 h1
  obtain rfl := (List.cons.inj e1).1
  obtain ⟨s, e2, _, hs⟩ := DataW.trod_string Tryd.underlying9 h2
  obtain rfl := (List.cons.inj e2).1
  have hb := wf_i64_bd hi
  exact ⟨⟨b, i, s.data.toList⟩, by simp [clV, clC], ⟨hb.1, hb.2, by simpa [maxLen] using hs⟩⟩
end Go.Proofs.YteagbddejbjmfaaDoor


namespace Go.Proofs.YteagbddejbjmfaaDoor
set_option linter.unusedVariables false
set_option linter.unusedSimpArgs false
set_option maxRecDepth 100000
open Go.ChangeShapes Go.WideShapes Go.ChangeAt Go.RowKit

/-- a call's contract, by what the row says and by what the world's shape says -/
theorem handed_shaped {H : Type} {enc : TypeId × Value → H} {a : Assume} {C : Checked} {os : Os} {f : FuncId} {fn : Func} {s : ChangeSpec} {conds : List PathCond} {apart fresh handsOn again : Bool} {X : World → Array Value → Prop}
    (hX : ∀ (w w' : World) (args : Array Value), w.heap = w'.heap → X w args → X w' args)
    (own : ownKnob C.prog.godebug = none) (started : os.Started) (noInit : C.prog.inits.idxOf? f = none) (hfn : C.prog.funcs[f]? = some fn)
    (witness : ∃ (w : World) (tape : Tape) (i : Input), w.os = os ∧ (w.forCall tape i).Shaped C.prog ∧ i.vars = [] ∧ Input.okWide C.prog (w.forCall tape i) .any w.heap.size f i ∧
      ((s.pre enc C.prog fn conds apart (w.forCall tape i).memory i.args ∧ X (w.forCall tape i).memory i.args) ∧ sizedMet enc C.prog fn (OpenSpec.ofChange s) apart (w.forCall tape i).memory i.args) ∧ a.holds C.prog (lone (Frame.enter C.prog f i.args .normal) [] (w.forCall tape i)))
    (contract : ∀ (W : World) (base : Nat) (args : Array Value) (ds gs : List (DataW H)) (before : List MemPlace),
      (∀ (j : Nat) t v, fn.params[j]? = some t → args[j]? = some v → Value.okWide C.prog W .any base t v) →
      DataW.Whole enc C.prog fn.params.toList s.vars apart W args.toList ds gs before → W.ShapedOpen C.prog → X W args →
      Calls C.prog f args W fun e W' => ∃ v, e = .returned v ∧ s.post enc C.prog fn apart fresh handsOn again W args v W') :
    ReturnsInHanded a C os f .any (fun w args => (s.pre enc C.prog fn conds apart w args ∧ X w args) ∧ sizedMet enc C.prog fn (OpenSpec.ofChange s) apart w args) (s.post enc C.prog fn apart fresh handsOn again) := by
  refine returnsInHanded_of_calls own started noInit witness ?_
  intro w tape i _ hsh _ hok hpre hholds
  obtain ⟨_, _, _, fn', hfn', _, _, _, _, hval⟩ := hok
  obtain rfl : fn' = fn := Option.some.inj (hfn'.symm.trans hfn)
  obtain ⟨⟨⟨ds, gs, before, hw, _⟩, hx⟩, _⟩ := hpre
  refine (contract (w.forCall tape i) w.heap.size i.args ds gs before hval (DataW.Whole.of_heap (w' := w.forCall tape i) (by rfl) hw) hsh (hX _ _ _ (by rfl) hx)).mono fun e W' ⟨v, he, hp⟩ => ?_
  subst he
  exact ChangeSpec.post_blind hp

end Go.Proofs.YteagbddejbjmfaaDoor


namespace Go.Proofs.YteagbddejbjmfaaDoor
set_option linter.unusedVariables false
set_option linter.unusedSimpArgs false
set_option maxRecDepth 100000
open Go.RowKit

/-- a cell's three values, and those of many -/
def clL (c : Cl) : List Value := [.bool c.null, .int .i64 c.num, .string ⟨c.txt.toArray⟩]
def clsL (l : List Cl) : List Value := l.flatMap clL
theorem clsL_cons (c : Cl) (l : List Cl) : clsL (c :: l) = clL c ++ clsL l := by simp [clsL]
theorem clsL_at (l : List Cl) (j : Nat) (i : Nat) (hj : j < l.length) (hi : i < 3) : (clsL l)[j * 3 + i]? = (clL l[j])[i]? := by
  induction l generalizing j with
  | nil => cases hj
  | cons c l ih =>
    rw [clsL_cons]
    cases j with
    | zero => rw [List.getElem?_append_left (by simp [clL]; omega)]; simp
    | succ j =>
      rw [List.getElem?_append_right (by simp [clL]; omega)]
      rw [show (j + 1) * 3 + i - (clL c).length = j * 3 + i by simp [clL]; omega]
      exact ih j (by simpa using hj)
/-- three cells, one behind the other, that hold c -/
structure At3 (w : World) (a : Addr) (c : Cl) : Prop where
  c0 : w.cell? a = some (.bool c.null)
  c1 : w.cell? (a.add 1) = some (.int .i64 c.num)
  c2 : w.cell? (a.add 2) = some (.string ⟨c.txt.toArray⟩)

/-- the slice v reads as the cells l -/
def Cs (w : World) (v : Value) (l : List Cl) : Prop :=
  ∃ A c, v = .slice A l.length c ∧ l.length ≤ c ∧ (A = none → c = 0) ∧ ∀ a, A = some a → ∀ j (h : j < l.length), At3 w (a.add (j * 3)) l[j]
/-- a row of the call's own, from block B on -/
def Oc (w : World) (B : Nat) (v : Value) (l : List Cl) : Prop := w.ownsRow B 24 3 v l.length (clsL l)

theorem At3.keep {w w' : World} {a : Addr} {c : Cl} (h : At3 w a c) (hk : w'.heap[a.block]? = w.heap[a.block]?) : At3 w' a c := by
  obtain ⟨h0, h1, h2⟩ := h
  exact ⟨by rw [← h0]; exact World.cell?_of_block hk, by rw [← h1]; exact World.cell?_of_block (by rw [add_block]; exact hk), by rw [← h2]; exact World.cell?_of_block (by rw [add_block]; exact hk)⟩

theorem Cs.nil_ (w : World) : Cs w (.slice none 0 0) [] := ⟨none, 0, rfl, Nat.le_refl _, fun _ => rfl, fun _ h => by cases h⟩
theorem Cs.keep {w w' : World} {v : Value} {l : List Cl} (h : Cs w v l) (hk : ∀ k, v.ownBlock = some k → k < w.heap.size → w'.heap[k]? = w.heap[k]?) : Cs w' v l := by
  obtain ⟨A, c, rfl, h1, h2, h3⟩ := h
  refine ⟨A, c, rfl, h1, h2, fun a ha j hj => ?_⟩
  have := h3 a ha j hj
  subst ha
  have hb := World.block_lt_of_cell? w _ this.c0
  refine this.keep ?_
  rw [add_block] at hb ⊢
  exact hk _ rfl hb
theorem Cs.fr {S : Nat → Prop} {w w' : World} {v : Value} {l : List Cl} (h : Cs w v l) (hf : Fr S w w') (hn : ∀ k, v.ownBlock = some k → ¬ S k) : Cs w' v l :=
  h.keep fun k hk hlt => hf.block k hlt (hn k hk)
theorem Cs.non {w w' : World} {v : Value} {l : List Cl} (h : Cs w v l) (hf : Fr Non w w') : Cs w' v l := h.fr hf fun _ _ e => e
theorem Cs.drew {w : World} {v : Value} {l : List Cl} (h : Cs w v l) : Cs w.drew v l := h.keep fun _ _ _ => rfl
theorem Cs.shape {w : World} {v : Value} {l : List Cl} (h : Cs w v l) : ∃ A c, v = .slice A l.length c := by
  obtain ⟨A, c, rfl, _⟩ := h; exact ⟨A, c, rfl⟩
theorem Cs.addr {w : World} {A : Option Addr} {n c : Nat} {l : List Cl} (h : Cs w (.slice A n c) l) (hl : 0 < n) : ∃ a, A = some a ∧ n = l.length ∧ n ≤ c ∧ ∀ j (h : j < l.length), At3 w (a.add (j * 3)) l[j] := by
  obtain ⟨A0, c0, he, h1, h2, h3⟩ := h
  simp only [Value.slice.injEq] at he
  obtain ⟨rfl, rfl, rfl⟩ := he
  cases A with
  | none => have := h2 rfl; omega
  | some a => exact ⟨a, rfl, rfl, h1, h3 a rfl⟩
/-- what a walk asks of the element at j -/
theorem Cs.el {w : World} {a : Addr} {n c : Nat} {l : List Cl} (h : Cs w (.slice (some a) n c) l) (j : Nat) (x : Cl) (hx : l[j]? = some x) :
    w.cell? (a.add (j * 3)) = some (.bool x.null) ∧ w.cell? ((a.add (j * 3)).add 1) = some (.int .i64 x.num) ∧ w.cell? ((a.add (j * 3)).add 2) = some (.string ⟨x.txt.toArray⟩) := by
  obtain ⟨A0, c0, he, h1, h2, h3⟩ := h
  simp only [Value.slice.injEq] at he
  obtain ⟨rfl, rfl, rfl⟩ := he
  obtain ⟨hj, rfl⟩ := List.getElem?_eq_some_iff.1 hx
  have := h3 a rfl j hj
  exact ⟨this.c0, this.c1, this.c2⟩

/-- as a walk spells them -/
theorem At3.lit {w : World} {a : Addr} {c : Cl} (h : At3 w a c) : w.cell? a = some (.bool c.null) ∧ w.cell? { block := a.block, off := a.off + 1 } = some (.int .i64 c.num) ∧ w.cell? { block := a.block, off := a.off + 2 } = some (.string ⟨c.txt.toArray⟩) := ⟨h.c0, h.c1, h.c2⟩
theorem Oc.lt {w : World} {B : Nat} {v : Value} {l : List Cl} (h : Oc w B v l) : ∀ k, v.ownBlock = some k → B ≤ k ∧ k < w.heap.size := World.ownsRow.lt h
theorem Oc.cs {w : World} {B : Nat} {v : Value} {l : List Cl} (h : Oc w B v l) : Cs w v l := by
  rcases h.2 with ⟨rfl, h0⟩ | ⟨g, cap, cur, rfl, _, _, hle, _, _, _⟩
  · have hl : l = [] := List.eq_nil_of_length_eq_zero h0
    subst hl; exact Cs.nil_ w
  · refine ⟨_, cap, rfl, hle, (fun h => by cases h), fun a ha j hj => ?_⟩
    cases ha
    have H := fun i hi => World.ownsRow.cells h (g := g) rfl (j * 3 + i) _ ((clsL_at l j i hj hi).trans (List.getElem?_eq_getElem (by simp [clL]; omega)))
    refine ⟨?_, ?_, ?_⟩
    · have := H 0 (by omega); simpa [clL] using this
    · rw [add_add]; have := H 1 (by omega); simpa [clL] using this
    · rw [add_add]; have := H 2 (by omega); simpa [clL] using this
theorem Oc.shape {w : World} {B : Nat} {v : Value} {l : List Cl} (h : Oc w B v l) : ∃ A c, v = .slice A l.length c := h.cs.shape
theorem Oc.keep {w w' : World} {B : Nat} {v : Value} {l : List Cl} (h : Oc w B v l) (hk : ∀ k, v.ownBlock = some k → w'.heap[k]? = w.heap[k]?) : Oc w' B v l := by
  refine ⟨h.1, ?_⟩
  rcases h.2 with h2 | ⟨g, cap, cur, hv, hb, hg, r⟩
  · exact .inl h2
  · exact .inr ⟨g, cap, cur, hv, hb, by rw [hk g (by rw [hv]; rfl)]; exact hg, r⟩
theorem Oc.fr {S : Nat → Prop} {w w' : World} {B : Nat} {v : Value} {l : List Cl} (h : Oc w B v l) (hf : Fr S w w') (hn : ∀ k, v.ownBlock = some k → ¬ S k) : Oc w' B v l :=
  h.keep fun k hk => hf.block k (h.lt k hk).2 (hn k hk)
theorem Oc.non {w w' : World} {B : Nat} {v : Value} {l : List Cl} (h : Oc w B v l) (hf : Fr Non w w') : Oc w' B v l := h.fr hf fun _ _ e => e
theorem Oc.alloc {w : World} {B : Nat} {v : Value} {l : List Cl} (h : Oc w B v l) (o : Obj) : Oc (w.alloc o) B v l := h.non ((Fr.refl _ _).alloc o)
theorem Oc.drew {w : World} {B : Nat} {v : Value} {l : List Cl} (h : Oc w B v l) : Oc w.drew B v l := h
theorem Oc.mono {w : World} {B B' : Nat} {v : Value} {l : List Cl} (h : Oc w B v l) (hB : B' ≤ B) : Oc w B' v l := by
  refine ⟨h.1, ?_⟩
  rcases h.2 with h2 | ⟨g, cap, cur, hv, hb, r⟩
  · exact .inl h2
  · exact .inr ⟨g, cap, cur, hv, by omega, r⟩
theorem Oc.kind {w : World} {B : Nat} {v : Value} {l : List Cl} (h : Oc w B v l) : ∀ k, v.ownBlock = some k → ∃ cur, w.heap[k]? = some (.cells cur 24 (0, 0)) := by
  intro k hk
  rcases h.2 with ⟨rfl, _⟩ | ⟨g, cap, cur, rfl, _, hg, _⟩
  · cases hk
  · obtain rfl : g = k := by simpa [Value.ownBlock] using hk
    exact ⟨cur, hg⟩
theorem Oc.row {w : World} {B : Nat} {v : Value} {l : List Cl} (h : Oc w B v l) (hn : 0 < l.length) : ∃ g cap, v = .slice (some ⟨g, 0, none⟩) l.length cap ∧ B ≤ g ∧ g < w.heap.size ∧ l.length ≤ cap ∧ cap ≤ maxLen := by
  rcases h.2 with ⟨rfl, h0⟩ | ⟨g, cap, cur, rfl, hb, hg, hle, hm, _⟩
  · omega
  · exact ⟨g, cap, rfl, hb, (Array.getElem?_eq_some_iff.1 hg).1, hle, hm⟩
/-- what a walk asks of a row's element at j -/
theorem Oc.el {w : World} {B g n cap : Nat} {l : List Cl} (h : Oc w B (.slice (some ⟨g, 0, none⟩) n cap) l) (hn : n = l.length) (j : Nat) (x : Cl) (hx : l[j]? = some x) :
    w.cell? ⟨g, j * 3, none⟩ = some (.bool x.null) ∧ w.cell? ⟨g, j * 3 + 1, none⟩ = some (.int .i64 x.num) ∧ w.cell? ⟨g, j * 3 + 2, none⟩ = some (.string ⟨x.txt.toArray⟩) := by
  subst hn
  obtain ⟨hj, rfl⟩ := List.getElem?_eq_some_iff.1 hx
  refine ⟨?_, ?_, ?_⟩
  · rw [World.ownsRow.cellAt h (j * 3) (by omega)]; have := clsL_at l j 0 hj (by omega); simpa [clL] using this
  · rw [World.ownsRow.cellAt h (j * 3 + 1) (by omega)]; have := clsL_at l j 1 hj (by omega); simpa [clL] using this
  · rw [World.ownsRow.cellAt h (j * 3 + 2) (by omega)]; have := clsL_at l j 2 hj (by omega); simpa [clL] using this
theorem Oc.frozen {w : World} {B g n cap : Nat} {l : List Cl} (h : Oc w B (.slice (some ⟨g, 0, none⟩) n cap) l) (hn : n = l.length) (j : Nat) : w.frozen? ⟨g, j, none⟩ = false := by
  subst hn; exact World.ownsRow.frozenAt h j
/-! ### Steps -/
end Go.Proofs.YteagbddejbjmfaaDoor


namespace Go.Proofs.YteagbddejbjmfaaDoor
set_option linter.unusedVariables false
set_option linter.unusedSimpArgs false
set_option maxRecDepth 100000
open Go.Joins Go.ChangeShapes Go.WideShapes Go.ChangeAt Go.RowKit Go.Deep

theorem cof_bool : Tryd.prog.cellsOf 4 = 1 := by kernel_rfl
theorem cof_i64 : Tryd.prog.cellsOf 2 = 1 := by kernel_rfl
theorem cof_int : Tryd.prog.cellsOf 3 = 1 := by kernel_rfl
theorem cof_str : Tryd.prog.cellsOf 9 = 1 := by kernel_rfl
theorem cof_cl : Tryd.prog.cellsOf 24 = 3 := by kernel_rfl
/-- three cells that are read as a cell -/
theorem cl_cells {H : Type} {enc : TypeId × Value → H} {W : World} {n : Nat} {x : DataW H × List MemPlace} {c2 c3 c4 : Value}
    (h : DataW.trod enc Tryd.prog W 0 (fun _ => true) true n 24 [c2, c3, c4] = some x) : ∃ c : Cl, c2 = .bool c.null ∧ c3 = .int .i64 c.num ∧ c4 = .string ⟨c.txt.toArray⟩ ∧ ClWf c := by
  obtain ⟨y0, y1, y2, m, rfl, _, h0, h1, h2⟩ := trod_struct3 Tryd.underlying24 h
  simp only [cof_bool, cof_i64, cof_str, List.drop_zero, List.drop_succ_cons, List.take_succ_cons, List.take_zero] at h0 h1 h2
  obtain ⟨b, e0, _⟩ := DataW.trod_bool Tryd.underlying4 h0
  obtain rfl := (List.cons.inj e0).1
  obtain ⟨i, e1, _, hi⟩ := DataW.trod_int Tryd.underlying2 h1
  obtain rfl := (List.cons.inj e1).1
  obtain ⟨s, e2, _, hs⟩ := DataW.trod_string Tryd.underlying9 h2
  obtain rfl := (List.cons.inj e2).1
  have hb := wf_i64_bd hi
  exact ⟨⟨b, i, s.data.toList⟩, rfl, rfl, by simp, ⟨hb.1, hb.2, by simpa [maxLen] using hs⟩⟩
end Go.Proofs.YteagbddejbjmfaaDoor


namespace Go.Proofs.YteagbddejbjmfaaDoor
set_option linter.unusedVariables false
set_option linter.unusedSimpArgs false
set_option maxRecDepth 100000
open Go.Joins Go.ChangeShapes Go.WideShapes Go.ChangeAt Go.RowKit Go.Deep

/-- the list of the rows of this layer -/
abbrev laid17 : List (String × DataW Unit) := [("math/bits.deBruijn32tab", Rows.laid_math_bits_deBruijn32tab), ("math/bits.deBruijn64tab", Rows.laid_math_bits_deBruijn64tab), ("internal/strconv.uint64pow10", Rows.laid_internal_strconv_uint64pow10), ("unicode/utf8.acceptRanges", Rows.laid_unicode_utf8_acceptRanges), ("firkin/pred.marks", Rows.laid_firkin_pred_marks), ("unicode/utf8.first", Rows.laid_unicode_utf8_first)]
theorem powp_data : (Rows.laid_internal_strconv_uint64pow10 : DataW Unit) = Lib.tabData .u64 Lib.pow10Tab := by kernel_rfl
def cmpsD : List (DataW Unit) := cmpsL.map fun l => .lit (.string l)
theorem cmps_data : (Rows.laid_firkin_pred_marks : DataW Unit) = .agg cmpsD := by kernel_rfl
theorem cmps_in {W : World} {r : List (String × DataW Unit)} (h : laidMet Tryd.prog (("firkin/pred.marks", Rows.laid_firkin_pred_marks) :: r) W) : ∀ j (h : j < cmpsL.length), W.cell? ⟨0, j, none⟩ = some (.string ⟨cmpsL[j].toArray⟩) := by
  intro j hj
  rw [cmps_data] at h
  obtain ⟨ps, ⟨g, t, cs, fuel, p, q, hg, ht, hv, hd, _, _⟩, _, _⟩ := h
  obtain rfl := Option.some.inj ((show Tryd.prog.globalNamed "firkin/pred.marks" = some 0 by kernel_rfl).symm.trans hg)
  obtain rfl := Option.some.inj ((show (Tryd.prog.globals[0]?).map (·.type) = some 63 by kernel_rfl).symm.trans ht)
  obtain ⟨xs, m, _, ex, _, hl, hel⟩ := DataW.trod_array Tryd.underlying63 hd
  have c9 : Tryd.prog.cellsOf 9 = 1 := by kernel_rfl
  have hj10 : j < 7 := hj
  have hE := hel j hj10
  rw [c9, Nat.mul_one, List.getElem?_eq_getElem (by omega)] at hE
  obtain ⟨s, e1, e2, _⟩ := DataW.trod_string Tryd.underlying9 hE
  have e3 : (xs.map (·.1)) = cmpsD := (DataW.agg.inj (Prod.mk.inj ex).1).symm
  have e4 : (xs.map (·.1))[j]? = cmpsD[j]? := by rw [e3]
  unfold cmpsD at e4
  obtain ⟨m', hm⟩ : ∃ m', cmpsL[j]? = some m' := ⟨_, List.getElem?_eq_getElem hj⟩
  rw [List.getElem?_map, List.getElem?_map, List.getElem?_eq_getElem (by omega : j < xs.length), hm, e2] at e4
  have hs : s.data.toList = m' := by simpa using e4
  rw [World.var?_cell hg hv j, (List.getElem?_eq_some_iff.1 hm).2, ← hs]
  have : cs.toList[j]? = some (.string s) := by
    have h0 : ((cs.toList.drop j).take 1)[0]? = some (.string s) := by rw [e1]; rfl
    simpa using h0
  simpa using this
theorem lp_in {W : World} (h : laidMetH Tryd.prog laid17 W) (hs : W.ShapedOpen Tryd.prog) : Lp W := by
  rw [MakeChecks.laidMetH_plain _ _ _ (by kernel_rfl)] at h
  have h2 := h.tail.tail
  have h5 := h2.tail.tail
  refine ⟨cmps_in h5, cell_of_shapedOpen_int hs (by decide +kernel) (t := 3) (zero := #[.int .i64 0]) (by kernel_rfl) rfl (by kernel_rfl) (by kernel_rfl) Tryd.underlying3, ?_⟩
  exact Lib.tabIs_of_head (n := 20) (show Tryd.prog.globalNamed "internal/strconv.uint64pow10" = some 1 by kernel_rfl)
      (show (Tryd.prog.globals[1]?).map (·.type) = some 105 by kernel_rfl) Tryd.underlying105 Tryd.underlying68 (by kernel_rfl) (by kernel_rfl) (by rw [powp_data] at h2; exact h2)

/-! ### A world in which they lie so -/
theorem laid17_shaped (os : Os) : (World.laidAll Tryd.prog os laid17).Shaped Tryd.prog := World.shaped_of_ZipB (by kernel_rfl) (by kernel_rfl)
theorem laid17_met (os : Os) (args : Array Value) : laidMetH Tryd.prog laid17 ((World.laidAll Tryd.prog os laid17).forCall (fun _ _ => 0) ⟨#[], args, []⟩).memory := by
  rw [MakeChecks.laidMetH_plain _ _ _ (by kernel_rfl)]
  exact laidMet_laidAll _ (by kernel_rfl) (by kernel_rfl)

/-! ### A predicate opened -/
theorem cof_pd : Tryd.prog.cellsOf 27 = 9 := by kernel_rfl
theorem cof_pds : Tryd.prog.cellsOf 25 = 1 := by kernel_rfl
theorem pd_trod {H : Type} {enc : TypeId × Value → H} {W : World} : ∀ (N fuel : Nat) (cs : List Value) (x : DataW H × List MemPlace), SizeOf.sizeOf x.1 ≤ N →
    DataW.trod enc Tryd.prog W 0 (fun _ => true) true fuel 27 cs = some x → ∃ (h : Ph) (s : Kv) (ks : List Pd), cs = pdL (h, s) ∧ Kd W s ks ∧ I64b h.val.num := by
  intro N
  induction N with
  | zero =>
    intro fuel cs x hx h
    obtain ⟨xs, n, rfl, hxe, _⟩ := DataW.trod_struct Tryd.underlying27 h
    rw [hxe] at hx
    simp only [DataW.agg.sizeOf_spec] at hx
    omega
  | succ N ih =>
    intro fuel cs x hx h
    obtain ⟨xs, n, rfl, hxe, hlen, hxl, hall⟩ := DataW.trod_struct Tryd.underlying27 h
    rw [cof_pd] at hlen
    have hxl7 : xs.length = 7 := hxl
    rw [hxe] at hx
    simp only [DataW.agg.sizeOf_spec] at hx
    match cs, hlen with
    | [v0, v1, v2, v3, v4, v5, v6, v7, v8], _ =>
      have f0 : DataW.trod enc Tryd.prog W 0 (fun _ => true) true n 3 (List.take (Tryd.prog.cellsOf 3) (List.drop 0 [v0, v1, v2, v3, v4, v5, v6, v7, v8])) = xs[0]? := hall 0 _ rfl
      have f1 : DataW.trod enc Tryd.prog W 0 (fun _ => true) true n 9 (List.take (Tryd.prog.cellsOf 9) (List.drop 1 [v0, v1, v2, v3, v4, v5, v6, v7, v8])) = xs[1]? := hall 1 _ rfl
      have f2 : DataW.trod enc Tryd.prog W 0 (fun _ => true) true n 3 (List.take (Tryd.prog.cellsOf 3) (List.drop 2 [v0, v1, v2, v3, v4, v5, v6, v7, v8])) = xs[2]? := hall 2 _ rfl
      have f3 : DataW.trod enc Tryd.prog W 0 (fun _ => true) true n 24 (List.take (Tryd.prog.cellsOf 24) (List.drop 3 [v0, v1, v2, v3, v4, v5, v6, v7, v8])) = xs[3]? := hall 3 _ rfl
      have f4 : DataW.trod enc Tryd.prog W 0 (fun _ => true) true n 3 (List.take (Tryd.prog.cellsOf 3) (List.drop 6 [v0, v1, v2, v3, v4, v5, v6, v7, v8])) = xs[4]? := hall 4 _ rfl
      have f5 : DataW.trod enc Tryd.prog W 0 (fun _ => true) true n 9 (List.take (Tryd.prog.cellsOf 9) (List.drop 7 [v0, v1, v2, v3, v4, v5, v6, v7, v8])) = xs[5]? := hall 5 _ rfl
      have f6 : DataW.trod enc Tryd.prog W 0 (fun _ => true) true n 25 (List.take (Tryd.prog.cellsOf 25) (List.drop 8 [v0, v1, v2, v3, v4, v5, v6, v7, v8])) = xs[6]? := hall 6 _ rfl
      rw [List.getElem?_eq_getElem (by omega)] at f0 f1 f2 f3 f4 f5 f6
      simp only [cof_int, cof_str, cof_cl, cof_pds, List.drop_zero, List.drop_succ_cons, List.take_succ_cons, List.take_zero] at f0 f1 f2 f3 f4 f5 f6
      obtain ⟨i0, e0, _, w0⟩ := DataW.trod_int Tryd.underlying3 f0
      obtain rfl := (List.cons.inj e0).1
      obtain ⟨s1, e1, _, _⟩ := DataW.trod_string Tryd.underlying9 f1
      obtain rfl := (List.cons.inj e1).1
      obtain ⟨i2, e2, _, _⟩ := DataW.trod_int Tryd.underlying3 f2
      obtain rfl := (List.cons.inj e2).1
      obtain ⟨c, rfl, rfl, rfl, hc⟩ := cl_cells f3
      obtain ⟨i4, e4, _, _⟩ := DataW.trod_int Tryd.underlying3 f4
      obtain rfl := (List.cons.inj e4).1
      obtain ⟨s5, e5, _, _⟩ := DataW.trod_string Tryd.underlying9 f5
      obtain rfl := (List.cons.inj e5).1
      have hy : SizeOf.sizeOf xs[6].1 < SizeOf.sizeOf (xs.map fun x => x.fst) := List.sizeOf_lt_of_mem (List.mem_map.2 ⟨xs[6], List.getElem_mem _, rfl⟩)
      refine (?_ : ∃ (s : Kv) (ks : List Pd), v8 = kidV s ∧ Kd W s ks).elim fun s hs => ?_
      · rcases Go.Deep.open_slice Tryd.underlying25 f6 with ⟨hcs, _⟩ | ⟨a, len, cap, m, q, D, Pl, hcs, _, hl, hm, hmm, hye, hr⟩
        · obtain rfl := (List.cons.inj hcs).1
          exact ⟨noKv, [], rfl, Kd.nil_ W⟩
        · obtain rfl := (List.cons.inj hcs).1
          have hnm : len ≤ m := by rw [hmm]; simp; exact hl
          have hyx : xs[6].1 = DataW.slice ((List.range len).map D) ((List.range (m - len)).map fun j => D (len + j)) := (Prod.mk.inj (show (xs[6].1, xs[6].2) = _ from hye)).1
          rw [hyx] at hy
          simp only [DataW.slice.sizeOf_spec] at hy
          obtain ⟨l, hll, hls⟩ := choose_listG (fun i (z : (Ph × Kv) × List Pd) => AtN W (a.add (i * 9)) (pdL z.1) ∧ Kd W z.1.2 z.2 ∧ I64b z.1.1.val.num) len (by
            intro i hi
            obtain ⟨cs', h1, h2⟩ := hr i (by omega)
            rw [cof_pd] at h1
            obtain ⟨_, hlen', hcell⟩ := World.cells?_some h1
            have hd : SizeOf.sizeOf (D i) < SizeOf.sizeOf ((List.range len).map D) := List.sizeOf_lt_of_mem (List.mem_map.2 ⟨i, List.mem_range.2 hi, rfl⟩)
            obtain ⟨h', s', ks', rfl, hk', hb'⟩ := ih _ _ _ (show SizeOf.sizeOf (D i, Pl i).1 ≤ N by show SizeOf.sizeOf (D i) ≤ N; omega) h2
            refine ⟨((h', s'), ks'), fun j u hu => ?_, hk', hb'⟩
            rw [hcell j (by have := (List.getElem?_eq_some_iff.1 hu).1; simpa [pdL] using this)]
            exact hu)
          subst hll
          refine ⟨⟨some a, l.length, cap⟩, l.map fun z => .mk z.1.1 z.2, rfl, .mk _ (l.map Prod.fst) _ (by simp) ⟨some a, cap, by simp [kidV], by simpa using hl, (fun h => by cases h), fun b hb j hj => ?_⟩ (fun i h1 h2 => by simp [Pd.hd]) (fun i h2 => ?_) (fun i h1 h2 => ?_)⟩
          · cases hb
            have hj' : j < l.length := by simpa using hj
            simpa using (hls j hj').1
          · have hj' : i < l.length := by simpa using h2
            simpa [Pd.hd] using (hls i hj').2.2
          · have hj' : i < l.length := by simpa using h1
            simpa [Pd.kids] using (hls i hj').2.1
      · obtain ⟨ks, rfl, hk⟩ := hs
        exact ⟨⟨i0, s1.data.toList, i2, c, i4, s5.data.toList⟩, s, ks, by simp [pdL], hk, ⟨hc.lo, hc.hi⟩⟩
theorem pd_in {H : Type} {enc : TypeId × Value → H} {W : World} {base : Nat} {v : Value} {d : DataW H} {p : List MemPlace} (hv : Value.okWide Tryd.prog W .any base 27 v)
    (h : DataW.Trod enc Tryd.prog W 0 (fun _ => true) true 27 v d p) : ∃ (h : Ph) (s : Kv) (ks : List Pd), v = pdV h s ∧ Kd W s ks ∧ I64b h.val.num := by
  obtain ⟨cs, rfl, hsz⟩ := okWide_struct Tryd.underlying27 hv
  obtain ⟨fuel, hf⟩ := h
  obtain ⟨h, s, ks, e, hk, hb⟩ := pd_trod _ fuel _ _ (Nat.le_refl _) hf
  refine ⟨h, s, ks, ?_, hk, hb⟩
  have e2 : cs.toList = pdL (h, s) := by simpa [Value.cells] using e
  unfold pdV
  congr 1
  apply Array.ext'
  rw [e2]; rfl
end Go.Proofs.YteagbddejbjmfaaDoor
