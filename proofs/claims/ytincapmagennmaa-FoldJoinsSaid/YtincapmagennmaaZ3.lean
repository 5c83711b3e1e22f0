/-
  Joined: Layer 22: the document's aggregate of cells. · A region that draws, walked by hand: what all steps keep but the last one, which waits for all that reads. · Layer 22: the laws' 'of': the state of cells. · Layer 10: which lists of cells are small. · Append of a slice of cells onto a row of the call's own. · Layer 22: the walk of the law FoldJoins. · The frame of a law's proof, for any parameters: where the call returned true and turned nothing that was there, the row's words hold. · Arguments opened: a slice of one-celled elements of any type; of truths; of whole numbers.
-/
import Derived.Lib.Varint
import Derived.Lib.Zigzag
import Derived.Test.YtincapmagennmaaZ1
import Derived.Test.YtincapmagennmaaZ2
import Derived.Deep.RegionHeld3
import Derived.StillTail
import Derived.BigFrame
import Derived.Test.YtincapmagennmaaRows
import Derived.ProofKit
import Derived.OpenShut
import Derived.ShutString
import Derived.ChangeOld
import Derived.Below
import Derived.Deep.Slices

namespace Go.Proofs.Ytincapmagennmaa
set_option linter.unusedVariables false
set_option linter.unusedSimpArgs false
set_option maxRecDepth 100000
open Go.RowKit

theorem valF_1 (s : Fo) : valF 1 s = ⟨false, s.cnt, []⟩ := rfl
theorem valF_2 (s : Fo) : valF 2 s = ⟨false, s.has, []⟩ := rfl
theorem valF_bad {op : Int} (h : op < 1 ∨ 5 < op) (s : Fo) : valF op s = noCl := by unfold valF; rw [if_neg (by omega), if_neg (by omega), if_pos h]
theorem valF_nul {op : Int} (h : 3 ≤ op ∧ op ≤ 5) {s : Fo} (h0 : s.has = 0) : valF op s = nulCl := by unfold valF; rw [if_neg (by omega), if_neg (by omega), if_neg (by omega), if_pos h0]
theorem valF_3 {s : Fo} (h0 : s.has ≠ 0) : valF 3 s = ⟨false, s.sum, []⟩ := by unfold valF; rw [if_neg (by decide), if_neg (by decide), if_neg (by decide), if_neg h0, if_pos rfl]
theorem valF_4 {s : Fo} (h0 : s.has ≠ 0) : valF 4 s = s.low := by unfold valF; rw [if_neg (by decide), if_neg (by decide), if_neg (by decide), if_neg h0, if_neg (by decide), if_pos rfl]
theorem valF_5 {s : Fo} (h0 : s.has ≠ 0) : valF 5 s = s.high := by unfold valF; rw [if_neg (by decide), if_neg (by decide), if_neg (by decide), if_neg h0, if_neg (by decide), if_neg (by decide)]
theorem live_lenF (l : List Cl) : (liveC l).length ≤ l.length := List.length_filter_le _ _

set_option maxHeartbeats 8000000 in
theorem rval22_any (op : Int) (v : Value) (l : List Cl) (w : World) (hv : Cs w v l) (hl : l.length ≤ 1000000) :
    Calls Try.prog 10 #[.int .i64 op, v] w fun e w' => e = .returned (clV (valF op (foC l))) ∧ Fr Non w w' := by
  have HFo := Lib.hid (foC_is l)
  obtain ⟨A, c, rfl⟩ := hv.shape
  have HV := Lib.hid hv
  clear hv
  have hcnt : (foC l).cnt = l.length := HFo.out.cnt
  have hhas : (foC l).has = (liveC l).length := HFo.out.has
  replace hcnt := Lib.hid hcnt
  replace hhas := Lib.hid hhas
  have hll : (liveC l).length ≤ 1000000 := Nat.le_trans (live_lenF l) hl
  obtain ⟨r, hr⟩ : ∃ r, valF op (foC l) = r := ⟨_, rfl⟩
  rw [hr]
  replace hr := Lib.hid hr
  generalize hg : w.heap.size = g at *
  have CB0 : ClB ((w.alloc (.cells #[.bool false, .int .i64 0, .string ⟨#[]⟩] 26)).alloc (.cells #[] 26)) g ⟨false, 0, []⟩ := by
    rw [← hg]; exact (cl_new w ⟨false, 0, []⟩).fr ((Fr.refl Non _).alloc _) (fun e => e)
  have hO0 : Oc ((w.alloc (.cells #[.bool false, .int .i64 0, .string ⟨#[]⟩] 26)).alloc (.cells #[] 26)) (g + 1) (.slice (some ⟨g + 1, 0, none⟩) 0 0) [] := oc_lit0 _ (g + 1) (g + 1) (by rw [← hg]; simp) (Nat.le_refl _)
  have hf0 : Fr Non w ((w.alloc (.cells #[.bool false, .int .i64 0, .string ⟨#[]⟩] 26)).alloc (.cells #[] 26)) := ((Fr.refl Non w).alloc _).alloc _
  have HG := Lib.hid hg
  go_enter Try.func10, Try.ntmps10
  go_wp2
  clear hg
  go_loopw [5, 6] (fun x i wr => ∃ (k : Nat), k ≤ l.length ∧ i = .int .i64 k ∧ Oc wr (g + 1) x (liveC (l.take k)) ∧ Hid (ClB wr g ⟨false, 0, []⟩) ∧ Hid (g + 1 < wr.heap.size) ∧ Fr Non w wr) (fun _ i _ => l.length - (intOf i).toNat)
  case atStart => exact ⟨0, Nat.zero_le _, rfl, hO0, Lib.hid CB0, Lib.hid (by simp; have := HG.out; omega), hf0⟩
  case round =>
    clear hO0 hf0 CB0
    obtain ⟨k, hk, rfl, hO, CB, HS, hfr⟩ := hrel
    have HO := Lib.hid hO
    have HF := Lib.hid hfr
    clear hO hfr
    by_cases hlt : k < l.length
    · have HT2 := Lib.hid (live_more hlt)
      have HDl : Hid ((liveC (l.take k)).length ≤ 1000000) := Lib.hid (Nat.le_trans (live_lenF _) (by rw [List.length_take]; omega))
      obtain ⟨a, rfl, -, -, hel⟩ := (HV.out.non HF.out).addr (show 0 < l.length by omega)
      obtain ⟨t0, t1, t2⟩ := (hel k hlt).lit
      generalize liveC (l.take k) = D at *
      generalize l[k] = x at *
      clear hel
      obtain ⟨xn, xi, xt⟩ := x
      dsimp only at *
      cases xn
      · have HT3 : Hid (liveC (l.take (k + 1)) = D ++ [⟨false, xi, xt⟩]) := Lib.hid (by rw [HT2.out, if_neg (by simp)])
        have hgw : g + 1 ≤ wr.heap.size := by have := HS.out; omega
        clear HT2
        go_wp2_with (at_builtin; refine wpList_pushC rfl (.tmp 23) (.tmp 28) rfl (g + 1) _ D rfl HO.out ⟨false, xi, xt⟩ _ _ _ rfl rfl rfl _ rfl rfl (by have := HDl.out; omega) hgw ?_; intro v6 w6 hown6 hf6)
        have hfr6 := HF.out.fresh hf6 (fun q hq => by have := (HO.out.lt q hq).1; have := HG.out; omega)
        have CB6 := Lib.hid (CB.out.fr hf6 (fun e => by have := (HO.out.lt g e).1; omega))
        have HS6 : Hid (g + 1 < w6.heap.size) := Lib.hid (by have := hf6.size; have := HS.out; omega)
        go_roundw
        case rel => exact ⟨k + 1, by omega, by go_num, by rw [HT3.out]; exact hown6, CB6, HS6, hfr6⟩
        case measure => simp [intOf]; omega
      · have HT3 : Hid (liveC (l.take (k + 1)) = D) := Lib.hid (by rw [HT2.out, if_pos rfl])
        clear HT2
        go_wp2
        go_roundw
        case rel => exact ⟨k + 1, by omega, by go_num, by rw [HT3.out]; exact HO.out, CB, HS, HF.out⟩
        case measure => simp [intOf]; omega
    · have hke : k = l.length := by omega
      rw [hke, List.take_length] at HO
      have CBo : ClB wr g ⟨false, 0, []⟩ := CB.out
      obtain ⟨Ax, cx, rfl⟩ := HO.out.shape
      by_cases h1 : op = 1
      · subst h1
        have HE : Hid (r = ⟨false, (l.length : Int), []⟩) := Lib.hid (by rw [← hr.out, valF_1, hcnt.out])
        have CB6 := Lib.hid (setCl_B CBo false (l.length : Int) [])
        have F6 := Lib.hid (HF.out.fresh (setCl_fr wr g false (l.length : Int) []) (fun k e => by have : k = g := e; have := HG.out; omega))
        obtain ⟨p0, p1, p2, z0, z1, z2⟩ := ClB.facts CBo
        dsimp only at p0 p1 p2
        go_wp2
        exact bodyPost_ret (v := clV ⟨false, (l.length : Int), []⟩) (ret_cl (p := 4) rfl _ _ g ⟨false, (l.length : Int), []⟩ (by rfl) CB6.out) rfl ⟨by rw [HE.out], F6.out⟩
      by_cases h2 : op = 2
      · subst h2
        have HE : Hid (r = ⟨false, ((liveC l).length : Int), []⟩) := Lib.hid (by rw [← hr.out, valF_2, hhas.out])
        have CB6 := Lib.hid (setCl_B CBo false ((liveC l).length : Int) [])
        have F6 := Lib.hid (HF.out.fresh (setCl_fr wr g false ((liveC l).length : Int) []) (fun k e => by have : k = g := e; have := HG.out; omega))
        obtain ⟨p0, p1, p2, z0, z1, z2⟩ := ClB.facts CBo
        dsimp only at p0 p1 p2
        go_wp2
        exact bodyPost_ret (v := clV ⟨false, ((liveC l).length : Int), []⟩) (ret_cl (p := 4) rfl _ _ g ⟨false, ((liveC l).length : Int), []⟩ (by rfl) CB6.out) rfl ⟨by rw [HE.out], F6.out⟩
      have j1 : (op == 1) = false := by rw [beq_eq_false_iff_ne]; exact h1
      have j2 : (op == 2) = false := by rw [beq_eq_false_iff_ne]; exact h2
      by_cases hlo : op < 1
      · have HE : Hid (r = ⟨false, 0, []⟩) := Lib.hid (by rw [← hr.out, valF_bad (.inl hlo)]; rfl)
        have d1 : decide (op < 1) = true := decide_eq_true hlo
        clear hlo h1 h2
        have CB6 := Lib.hid (setCl_B CBo false 0 [])
        have F6 := Lib.hid (HF.out.fresh (setCl_fr wr g false 0 []) (fun k e => by have : k = g := e; have := HG.out; omega))
        obtain ⟨p0, p1, p2, z0, z1, z2⟩ := ClB.facts CBo
        dsimp only at p0 p1 p2
        go_wp2
        exact bodyPost_ret (v := clV ⟨false, 0, []⟩) (ret_cl (p := 4) rfl _ _ g ⟨false, 0, []⟩ (by rfl) CB6.out) rfl ⟨by rw [HE.out], F6.out⟩
      by_cases hhi : 5 < op
      · have HE : Hid (r = ⟨false, 0, []⟩) := Lib.hid (by rw [← hr.out, valF_bad (.inr hhi)]; rfl)
        have d1 : decide (op < 1) = false := decide_eq_false hlo
        have d2 : decide (5 < op) = true := decide_eq_true hhi
        clear hlo hhi h1 h2
        have CB6 := Lib.hid (setCl_B CBo false 0 [])
        have F6 := Lib.hid (HF.out.fresh (setCl_fr wr g false 0 []) (fun k e => by have : k = g := e; have := HG.out; omega))
        obtain ⟨p0, p1, p2, z0, z1, z2⟩ := ClB.facts CBo
        dsimp only at p0 p1 p2
        go_wp2
        exact bodyPost_ret (v := clV ⟨false, 0, []⟩) (ret_cl (p := 4) rfl _ _ g ⟨false, 0, []⟩ (by rfl) CB6.out) rfl ⟨by rw [HE.out], F6.out⟩
      have d1 : decide (op < 1) = false := decide_eq_false hlo
      have d2 : decide (5 < op) = false := decide_eq_false hhi
      have hop : op = 3 ∨ op = 4 ∨ op = 5 := by omega
      clear h1 h2 hlo hhi
      by_cases h0 : (liveC l).length = 0
      · have HE : Hid (r = ⟨true, 0, []⟩) := Lib.hid (by rw [← hr.out, valF_nul (by omega) (by rw [hhas.out, h0]; rfl)]; rfl)
        have e0 : (((liveC l).length : Int) == 0) = true := by rw [h0]; rfl
        clear h0 hop
        have CB6 := Lib.hid (setCl_B CBo true 0 [])
        have F6 := Lib.hid (HF.out.fresh (setCl_fr wr g true 0 []) (fun k e => by have : k = g := e; have := HG.out; omega))
        obtain ⟨p0, p1, p2, z0, z1, z2⟩ := ClB.facts CBo
        dsimp only at p0 p1 p2
        go_wp2
        exact bodyPost_ret (v := clV ⟨true, 0, []⟩) (ret_cl (p := 4) rfl _ _ g ⟨true, 0, []⟩ (by rfl) CB6.out) rfl ⟨by rw [HE.out], F6.out⟩
      have e0 : (((liveC l).length : Int) == 0) = false := by rw [beq_eq_false_iff_ne]; omega
      have h0n : (foC l).has ≠ 0 := by rw [hhas.out]; omega
      have hL0 : 0 < (liveC l).length := by omega
      have HE3 : Hid (op = 3 → r = ⟨false, w6 (totC ((liveC l).take (liveC l).length)), []⟩) := Lib.hid (fun e => by rw [← hr.out, e, valF_3 h0n, HFo.out.sum, List.take_length])
      have HE4 : Hid (op = 4 → ∀ best, BestTo op (liveC l) (liveC l).length best → r = best) := Lib.hid (fun e best hb => by rw [← hr.out, e, valF_4 h0n]; rw [e] at hb; exact best_low HFo.out hb)
      have HE5 : Hid (op = 5 → ∀ best, BestTo op (liveC l) (liveC l).length best → r = best) := Lib.hid (fun e best hb => by rw [← hr.out, e, valF_5 h0n]; rw [e] at hb; exact best_high HFo.out hb)
      have HL : Hid (Cs wr (.slice Ax (liveC l).length cx) (liveC l)) := Lib.hid HO.out.cs
      have HB0 : Hid (∀ op, BestTo op (liveC l) 0 (liveC l)[0]) := Lib.hid (fun op => best_start hL0)
      have CBh := Lib.hid CBo
      clear CBo h0 h0n HFo hcnt hhas hr HV HO hke CB
      generalize liveC l = L at *
      obtain ⟨a, rfl, -, -, hel⟩ := HL.out.addr hL0
      obtain ⟨t0, t1, t2⟩ := (hel 0 hL0).lit
      simp only [Nat.zero_mul] at t0 t1 t2
      rw [add_none] at t0 t1 t2
      clear hel
      replace HB0 := Lib.hid (HB0.out op)
      generalize hx0 : L[0] = x0 at *
      clear hx0
      obtain ⟨xn, xi, xt⟩ := x0
      dsimp only at t0 t1 t2
      obtain ⟨D, hD⟩ : ∃ D, wr.heap.size = D := ⟨_, rfl⟩
      have hDg : g + 1 < D := by have := HS.out; omega
      have f1 : Fr Non wr (wr.alloc (.cells #[.bool xn, .int .i64 xi, .string ⟨xt.toArray⟩] 26)) := (Fr.refl Non wr).alloc _
      have BB1 : Hid (ClB (wr.alloc (.cells #[.bool xn, .int .i64 xi, .string ⟨xt.toArray⟩] 26)) D ⟨xn, xi, xt⟩) := Lib.hid (by rw [← hD]; exact cl_new wr ⟨xn, xi, xt⟩)
      have CB1 := Lib.hid (CBh.out.fr f1 (fun e => e))
      replace f1 := Lib.hid f1
      have HD := Lib.hid hD
      have HLn := HL
      go_wp2
      clear hD
      go_loopw [8, 9] (fun s i wq => ∃ (k : Nat) (best : Cl), k ≤ L.length ∧ i = .int .i64 k ∧ s = .int .i64 (w6 (totC (L.take k))) ∧ Hid (BestTo op L k best) ∧ Hid (ClB wq D best) ∧ Hid (ClB wq g ⟨false, 0, []⟩) ∧ Hid (Fr Non wr wq)) (fun _ i _ => L.length - (intOf i).toNat)
      case atStart => exact ⟨0, ⟨xn, xi, xt⟩, Nat.zero_le _, rfl, rfl, HB0, BB1, CB1, f1⟩
      case round =>
        clear HB0 BB1 CB1 f1 t0 t1 t2 CBh
        obtain ⟨k, best, hk, rfl, rfl, HBe, BB, CB, FR⟩ := hrel
        by_cases hlt : k < L.length
        · have HSum := Lib.hid (sum_more hlt)
          have HBm := Lib.hid (best_more HBe.out hlt)
          obtain ⟨a2, e2, -, -, hel⟩ := (HL.out.non FR.out).addr hL0
          obtain rfl : a = a2 := by injection e2
          obtain ⟨c0, c1, c2⟩ := (hel k hlt).lit
          have HO2 := Lib.hid (fun W => rorder_any L[k] best W)
          clear hel e2 HBe HE3 HE4 HE5
          generalize w6 (totC (L.take k)) = sk at *
          generalize hx : L[k] = x at *
          clear hx
          obtain ⟨xn, xi, xt⟩ := x
          obtain ⟨bn, bi, bt⟩ := best
          unfold clV clC at HO2
          dsimp only at *
          obtain ⟨u0, u1, u2, -⟩ := BB.out.facts
          dsimp only at u0 u1 u2
          generalize ordC ⟨xn, xi, xt⟩ ⟨bn, bi, bt⟩ = o at *
          have t0 := c0
          have t1 := c1
          have t2 := c2
          rcases hop with rfl | rfl | rfl
          · have HBn : Hid (BestTo 3 L (k + 1) ⟨bn, bi, bt⟩) := Lib.hid (by simpa using HBm.out)
            clear HBm HO2
            go_wp2
            obtain ⟨V, hV⟩ : ∃ V, V = wr.drew := ⟨_, rfl⟩
            refine wp_region_held_drew (S := (fun W' => W'.cell? (a.add (k * 3)) = some (.bool xn) ∧ W'.cell? { block := (a.add (k * 3)).block, off := (a.add (k * 3)).off + 1 } = some (.int .i64 xi) ∧ W'.cell? { block := (a.add (k * 3)).block, off := (a.add (k * 3)).off + 2 } = some (.string ⟨xt.toArray⟩) ∧ W'.cell? ⟨D, 0, none⟩ = some (.bool bn) ∧ W'.cell? ⟨D, 1, none⟩ = some (.int .i64 bi) ∧ W'.cell? ⟨D, 2, none⟩ = some (.string ⟨bt.toArray⟩))) (by kernel_rfl) (by exact ⟨t0, t1, t2, u0, u1, u2⟩) (fun hHeld => ?_)
            rw [← hV]
            rw [← hV] at hHeld
            have FV : Fr Non wr V := by rw [hV]; exact (Fr.refl Non wr).drew
            clear hV
            replace t0 := FV.at0 t0
            replace t1 := FV.at0 t1
            replace t2 := FV.at0 t2
            replace u0 := FV.at0 u0
            replace u1 := FV.at0 u1
            replace u2 := FV.at0 u2
            refine wpAnyH_take (i := 0) (oi := ⟨some 67, _, _, _, _, none⟩) (v := ?v1) rfl (by kernel_rfl) (by kernel_rfl) (by kernel_rfl) (fun _ _ _ h => h) (Or.inl ⟨by rfl, ?hy1⟩) (by assumption) ?rest1
            case hy1 => (intro wS hSw; (try dsimp only at hSw); go_simp; (try with_reducible rfl))
            (try simp only [Act.put, List.setIfInBounds_toArray, List.set_cons_zero, List.set_cons_succ])
            refine wpAnyH_take (i := 1) (oi := ⟨some 68, _, _, _, _, none⟩) (v := ?v2) rfl (by kernel_rfl) (by kernel_rfl) (by kernel_rfl) (fun _ _ _ h => h) (Or.inl ⟨by rfl, ?hy2⟩) (by assumption) ?rest2
            case hy2 => (intro wS hSw; (try dsimp only at hSw); go_simp; (try with_reducible rfl))
            (try simp only [Act.put, List.setIfInBounds_toArray, List.set_cons_zero, List.set_cons_succ])
            refine wpAnyH_take (i := 2) (oi := ⟨some 69, _, _, _, _, none⟩) (v := ?v3) rfl (by kernel_rfl) (by kernel_rfl) (by kernel_rfl) (fun _ _ _ h => h) (Or.inl ⟨by rfl, ?hy3⟩) (by assumption) ?rest3
            case hy3 => (intro wS hSw; (try dsimp only at hSw); go_simp; (try with_reducible rfl))
            (try simp only [Act.put, List.setIfInBounds_toArray, List.set_cons_zero, List.set_cons_succ])
            refine wpAnyH_take (i := 3) (oi := ⟨some 70, _, _, _, _, some (2, true)⟩) (v := undef) rfl (by kernel_rfl) (by kernel_rfl) (by kernel_rfl) (fun _ _ _ h => h) (Or.inr ⟨by rfl, rfl⟩) (by assumption) ?_
            (try simp only [Act.put, List.setIfInBounds_toArray, List.set_cons_zero, List.set_cons_succ])
            refine wpAnyH_take (i := 4) (oi := ⟨some 71, _, _, _, _, some (2, true)⟩) (v := undef) rfl (by kernel_rfl) (by kernel_rfl) (by kernel_rfl) (fun _ _ _ h => h) (Or.inr ⟨by rfl, rfl⟩) (by assumption) ?_
            (try simp only [Act.put, List.setIfInBounds_toArray, List.set_cons_zero, List.set_cons_succ])
            refine wpAnyH_take (i := 5) (oi := ⟨some 72, _, _, _, _, some (2, true)⟩) (v := undef) rfl (by kernel_rfl) (by kernel_rfl) (by kernel_rfl) (fun _ _ _ h => h) (Or.inr ⟨by rfl, rfl⟩) (by assumption) ?_
            (try simp only [Act.put, List.setIfInBounds_toArray, List.set_cons_zero, List.set_cons_succ])
            refine wpAnyH_take (i := 6) (oi := ⟨some 73, _, _, _, _, some (2, true)⟩) (v := undef) rfl (by kernel_rfl) (by kernel_rfl) (by kernel_rfl) (fun _ _ _ h => h) (Or.inr ⟨by rfl, rfl⟩) (by assumption) ?_
            (try simp only [Act.put, List.setIfInBounds_toArray, List.set_cons_zero, List.set_cons_succ])
            refine wpAnyH_take (i := 7) (oi := ⟨some 74, _, _, _, _, some (2, true)⟩) (v := undef) rfl (by kernel_rfl) (by kernel_rfl) (by kernel_rfl) (fun _ _ _ h => h) (Or.inr ⟨by rfl, rfl⟩) (by assumption) ?_
            (try simp only [Act.put, List.setIfInBounds_toArray, List.set_cons_zero, List.set_cons_succ])
            refine wpAnyH_take (i := 8) (oi := ⟨some 75, _, _, _, _, some (2, true)⟩) (v := undef) rfl (by kernel_rfl) (by kernel_rfl) (by kernel_rfl) (fun _ _ _ h => h) (Or.inr ⟨by rfl, rfl⟩) (by assumption) ?_
            (try simp only [Act.put, List.setIfInBounds_toArray, List.set_cons_zero, List.set_cons_succ])
            refine wpAnyH_take (i := 9) (oi := ⟨some 76, _, _, _, _, some (2, true)⟩) (v := undef) rfl (by kernel_rfl) (by kernel_rfl) (by kernel_rfl) (fun _ _ _ h => h) (Or.inr ⟨by rfl, rfl⟩) (by assumption) ?_
            (try simp only [Act.put, List.setIfInBounds_toArray, List.set_cons_zero, List.set_cons_succ])
            refine wpAnyH_take (i := 10) (oi := ⟨some 77, _, _, _, _, none⟩) (v := ?v4) rfl (by kernel_rfl) (by kernel_rfl) (by kernel_rfl) (fun _ _ _ h => h) (Or.inl ⟨by rfl, ?hy4⟩) (by assumption) ?rest4
            case hy4 => (intro wS hSw; (try dsimp only at hSw); go_simp; (try with_reducible rfl))
            (try simp only [Act.put, List.setIfInBounds_toArray, List.set_cons_zero, List.set_cons_succ])
            refine wpAnyH_take (i := 11) (oi := ⟨some 78, _, _, _, _, none⟩) (v := ?v5) rfl (by kernel_rfl) (by kernel_rfl) (by kernel_rfl) (fun _ _ _ h => h) (Or.inl ⟨by rfl, ?hy5⟩) (by assumption) ?rest5
            case hy5 => (intro wS hSw; (try dsimp only at hSw); go_simp; (try with_reducible rfl))
            (try simp only [Act.put, List.setIfInBounds_toArray, List.set_cons_zero, List.set_cons_succ])
            refine wpAnyH_take (i := 12) (oi := ⟨some 79, _, _, _, _, some (11, false)⟩) (v := ?v6) rfl (by kernel_rfl) (by kernel_rfl) (by kernel_rfl) (fun _ _ _ h => h) (Or.inl ⟨by rfl, ?hy6⟩) (by assumption) ?rest6
            case hy6 => (intro wS hSw; (try dsimp only at hSw); go_simp; (try with_reducible rfl))
            (try simp only [Act.put, List.setIfInBounds_toArray, List.set_cons_zero, List.set_cons_succ])
            refine wpAnyH_take (i := 13) (oi := ⟨some 80, _, _, _, _, some (11, false)⟩) (v := ?v7) rfl (by kernel_rfl) (by kernel_rfl) (by kernel_rfl) (fun _ _ _ h => h) (Or.inl ⟨by rfl, ?hy7⟩) (by assumption) ?rest7
            case hy7 => (intro wS hSw; (try dsimp only at hSw); go_simp; (try with_reducible rfl))
            (try simp only [Act.put, List.setIfInBounds_toArray, List.set_cons_zero, List.set_cons_succ])
            refine wpAnyH_take (i := 14) (oi := ⟨some 81, _, _, _, _, some (11, false)⟩) (v := ?v8) rfl (by kernel_rfl) (by kernel_rfl) (by kernel_rfl) (fun _ _ _ h => h) (Or.inl ⟨by rfl, ?hy8⟩) (by assumption) ?rest8
            case hy8 => (intro wS hSw; (try dsimp only at hSw); go_simp; (try with_reducible rfl))
            (try simp only [Act.put, List.setIfInBounds_toArray, List.set_cons_zero, List.set_cons_succ])
            refine wpAnyH_take (i := 15) (oi := ⟨some 82, _, _, _, _, some (14, true)⟩) (v := undef) rfl (by kernel_rfl) (by kernel_rfl) (by kernel_rfl) (fun _ _ _ h => h) (Or.inr ⟨by rfl, rfl⟩) (by assumption) ?_
            (try simp only [Act.put, List.setIfInBounds_toArray, List.set_cons_zero, List.set_cons_succ])
            refine wpAnyH_take (i := 16) (oi := ⟨some 83, _, _, _, _, some (14, true)⟩) (v := undef) rfl (by kernel_rfl) (by kernel_rfl) (by kernel_rfl) (fun _ _ _ h => h) (Or.inr ⟨by rfl, rfl⟩) (by assumption) ?_
            (try simp only [Act.put, List.setIfInBounds_toArray, List.set_cons_zero, List.set_cons_succ])
            refine wpAnyH_take (i := 17) (oi := ⟨some 84, _, _, _, _, some (14, true)⟩) (v := undef) rfl (by kernel_rfl) (by kernel_rfl) (by kernel_rfl) (fun _ _ _ h => h) (Or.inr ⟨by rfl, rfl⟩) (by assumption) ?_
            (try simp only [Act.put, List.setIfInBounds_toArray, List.set_cons_zero, List.set_cons_succ])
            refine wpAnyH_take (i := 18) (oi := ⟨some 85, _, _, _, _, some (14, true)⟩) (v := undef) rfl (by kernel_rfl) (by kernel_rfl) (by kernel_rfl) (fun _ _ _ h => h) (Or.inr ⟨by rfl, rfl⟩) (by assumption) ?_
            (try simp only [Act.put, List.setIfInBounds_toArray, List.set_cons_zero, List.set_cons_succ])
            refine wpAnyH_take (i := 19) (oi := ⟨some 86, _, _, _, _, some (14, true)⟩) (v := undef) rfl (by kernel_rfl) (by kernel_rfl) (by kernel_rfl) (fun _ _ _ h => h) (Or.inr ⟨by rfl, rfl⟩) (by assumption) ?_
            (try simp only [Act.put, List.setIfInBounds_toArray, List.set_cons_zero, List.set_cons_succ])
            refine wpAnyH_take (i := 20) (oi := ⟨some 87, _, _, _, _, some (14, true)⟩) (v := undef) rfl (by kernel_rfl) (by kernel_rfl) (by kernel_rfl) (fun _ _ _ h => h) (Or.inr ⟨by rfl, rfl⟩) (by assumption) ?_
            (try simp only [Act.put, List.setIfInBounds_toArray, List.set_cons_zero, List.set_cons_succ])
            refine wpAnyH_take (i := 21) (oi := ⟨some 88, _, _, _, _, some (14, true)⟩) (v := undef) rfl (by kernel_rfl) (by kernel_rfl) (by kernel_rfl) (fun _ _ _ h => h) (Or.inr ⟨by rfl, rfl⟩) (by assumption) ?_
            (try simp only [Act.put, List.setIfInBounds_toArray, List.set_cons_zero, List.set_cons_succ])
            refine wpAnyH_take (i := 22) (oi := ⟨some 89, _, _, _, _, some (11, false)⟩) (v := ?v9) rfl (by kernel_rfl) (by kernel_rfl) (by kernel_rfl) (fun _ _ _ h => h) (Or.inl ⟨by rfl, ?hy9⟩) (by assumption) ?rest9
            case hy9 => (intro wS hSw; (try dsimp only at hSw); go_simp; (try with_reducible rfl))
            (try simp only [Act.put, List.setIfInBounds_toArray, List.set_cons_zero, List.set_cons_succ])
            refine wpAnyH_take (i := 23) (oi := ⟨some 90, _, _, _, _, none⟩) (v := ?v10) rfl (by kernel_rfl) (by kernel_rfl) (by kernel_rfl) (fun _ _ _ h => h) (Or.inl ⟨by rfl, ?hy10⟩) (by assumption) ?rest10
            case hy10 => (intro wS hSw; (try dsimp only at hSw); go_simp; (try with_reducible rfl))
            (try simp only [Act.put, List.setIfInBounds_toArray, List.set_cons_zero, List.set_cons_succ])
            refine wpAnyH_done (by kernel_rfl) ?_ _
            clear hHeld
            have FW := FV
            have BB5 : Hid (ClB V D ⟨bn, bi, bt⟩) := Lib.hid (BB.out.fr FW (fun e => e))
            have CB5 := Lib.hid (CB.out.fr FW (fun e => e))
            have F5 := Lib.hid (FR.out.trans FW)
            have HB5 := Lib.hid (HBn.out)
            clear c0 c1 c2
            go_wp2
            go_roundw
            case rel => exact ⟨k + 1, _, by omega, by go_num, by rw [w6_wrap64, HSum.out], HB5, BB5, CB5, F5⟩
            case measure => simp [intOf]; omega
          · have HBy : Hid (o < 0 → BestTo 4 L (k + 1) ⟨xn, xi, xt⟩) := Lib.hid (fun e => by have := HBm.out; simpa [e] using this)
            have HBn : Hid (¬ o < 0 → BestTo 4 L (k + 1) ⟨bn, bi, bt⟩) := Lib.hid (fun e => by have := HBm.out; simpa [e] using this)
            clear HBm
            by_cases ho : o < 0
            · replace HBy := Lib.hid (HBy.out ho)
              have hd : decide (o < 0) = true := decide_eq_true ho
              clear ho HBn
              go_wp2
              obtain ⟨V, hV⟩ : ∃ V, V = wr.drew := ⟨_, rfl⟩
              refine wp_region_held_drew (S := (fun W' => W'.cell? (a.add (k * 3)) = some (.bool xn) ∧ W'.cell? { block := (a.add (k * 3)).block, off := (a.add (k * 3)).off + 1 } = some (.int .i64 xi) ∧ W'.cell? { block := (a.add (k * 3)).block, off := (a.add (k * 3)).off + 2 } = some (.string ⟨xt.toArray⟩) ∧ W'.cell? ⟨D, 0, none⟩ = some (.bool bn) ∧ W'.cell? ⟨D, 1, none⟩ = some (.int .i64 bi) ∧ W'.cell? ⟨D, 2, none⟩ = some (.string ⟨bt.toArray⟩))) (by kernel_rfl) (by exact ⟨t0, t1, t2, u0, u1, u2⟩) (fun hHeld => ?_)
              rw [← hV]
              rw [← hV] at hHeld
              have FV : Fr Non wr V := by rw [hV]; exact (Fr.refl Non wr).drew
              clear hV
              replace t0 := FV.at0 t0
              replace t1 := FV.at0 t1
              replace t2 := FV.at0 t2
              replace u0 := FV.at0 u0
              replace u1 := FV.at0 u1
              replace u2 := FV.at0 u2
              refine wpAnyH_take (i := 0) (oi := ⟨some 67, _, _, _, _, none⟩) (v := ?v11) rfl (by kernel_rfl) (by kernel_rfl) (by kernel_rfl) (fun _ _ _ h => h) (Or.inl ⟨by rfl, ?hy11⟩) (by assumption) ?rest11
              case hy11 => (intro wS hSw; (try dsimp only at hSw); go_simp; (try with_reducible rfl))
              (try simp only [Act.put, List.setIfInBounds_toArray, List.set_cons_zero, List.set_cons_succ])
              refine wpAnyH_take (i := 1) (oi := ⟨some 68, _, _, _, _, none⟩) (v := ?v12) rfl (by kernel_rfl) (by kernel_rfl) (by kernel_rfl) (fun _ _ _ h => h) (Or.inl ⟨by rfl, ?hy12⟩) (by assumption) ?rest12
              case hy12 => (intro wS hSw; (try dsimp only at hSw); go_simp; (try with_reducible rfl))
              (try simp only [Act.put, List.setIfInBounds_toArray, List.set_cons_zero, List.set_cons_succ])
              refine wpAnyH_take (i := 2) (oi := ⟨some 69, _, _, _, _, none⟩) (v := ?v13) rfl (by kernel_rfl) (by kernel_rfl) (by kernel_rfl) (fun _ _ _ h => h) (Or.inl ⟨by rfl, ?hy13⟩) (by assumption) ?rest13
              case hy13 => (intro wS hSw; (try dsimp only at hSw); go_simp; (try with_reducible rfl))
              (try simp only [Act.put, List.setIfInBounds_toArray, List.set_cons_zero, List.set_cons_succ])
              refine wpAnyH_take (i := 3) (oi := ⟨some 70, _, _, _, _, some (2, true)⟩) (v := ?v14) rfl (by kernel_rfl) (by kernel_rfl) (by kernel_rfl) (fun _ _ _ h => h) (Or.inl ⟨by rfl, ?hy14⟩) (by assumption) ?rest14
              case hy14 => (intro wS hSw; (try dsimp only at hSw); go_simp; (try with_reducible rfl))
              (try simp only [Act.put, List.setIfInBounds_toArray, List.set_cons_zero, List.set_cons_succ])
              refine wpAnyH_take (i := 4) (oi := ⟨some 71, _, _, _, _, some (2, true)⟩) (v := ?v15) rfl (by kernel_rfl) (by kernel_rfl) (by kernel_rfl) (fun _ _ _ h => h) (Or.inl ⟨by rfl, ?hy15⟩) (by assumption) ?rest15
              case hy15 => (intro wS hSw; (try dsimp only at hSw); go_simp; (try with_reducible rfl))
              (try simp only [Act.put, List.setIfInBounds_toArray, List.set_cons_zero, List.set_cons_succ])
              refine wpAnyH_take (i := 5) (oi := ⟨some 72, _, _, _, _, some (2, true)⟩) (v := ?v16) rfl (by kernel_rfl) (by kernel_rfl) (by kernel_rfl) (fun _ _ _ h => h) (Or.inl ⟨by rfl, ?hy16⟩) (by assumption) ?rest16
              case hy16 => (intro wS hSw; (try dsimp only at hSw); go_simp; (try with_reducible rfl))
              (try simp only [Act.put, List.setIfInBounds_toArray, List.set_cons_zero, List.set_cons_succ])
              refine wpAnyH_take (i := 6) (oi := ⟨some 73, _, _, _, _, some (2, true)⟩) (v := ?v17) rfl (by kernel_rfl) (by kernel_rfl) (by kernel_rfl) (fun _ _ _ h => h) (Or.inl ⟨by rfl, ?hy17⟩) (by assumption) ?rest17
              case hy17 => (intro wS hSw; (try dsimp only at hSw); go_simp; (try with_reducible rfl))
              (try simp only [Act.put, List.setIfInBounds_toArray, List.set_cons_zero, List.set_cons_succ])
              refine wpAnyH_take (i := 7) (oi := ⟨some 74, _, _, _, _, some (2, true)⟩) (v := ?v18) rfl (by kernel_rfl) (by kernel_rfl) (by kernel_rfl) (fun _ _ _ h => h) (Or.inl ⟨by rfl, ?hy18⟩) (by assumption) ?rest18
              case hy18 => (intro wS hSw; (try dsimp only at hSw); go_simp; (try with_reducible rfl))
              (try simp only [Act.put, List.setIfInBounds_toArray, List.set_cons_zero, List.set_cons_succ])
              refine wpAnyH_ready (rs := [8]) (by kernel_rfl) (by simp) ?_
              refine AllReadyH.cons (o := ⟨some 75, _, _, _, _, some (2, true)⟩) rfl (fun K hK => ?_) AllReadyH.nil
              go_simp
              go_at_call 16
              refine (HO2.out _).mono ?_
              rintro e w4 ⟨rfl, f4⟩
              go_wp2_with fail
              refine hK.out _ _ (by exact ⟨f4.at0 t0, f4.at0 t1, f4.at0 t2, f4.at0 u0, f4.at0 u1, f4.at0 u2⟩) (fun hHeld => ?_)
              clear hK K
              (try simp only [Act.put, List.setIfInBounds_toArray, List.set_cons_zero, List.set_cons_succ])
              refine wpAnyH_take (i := 9) (oi := ⟨some 76, _, _, _, _, some (2, true)⟩) (v := ?v19) rfl (by kernel_rfl) (by kernel_rfl) (by kernel_rfl) (fun _ _ _ h => h) (Or.inl ⟨by rfl, ?hy19⟩) (by assumption) ?rest19
              case hy19 => (intro wS hSw; (try dsimp only at hSw); go_simp; (try with_reducible rfl))
              (try simp only [Act.put, List.setIfInBounds_toArray, List.set_cons_zero, List.set_cons_succ])
              refine wpAnyH_take (i := 10) (oi := ⟨some 77, _, _, _, _, none⟩) (v := ?v20) rfl (by kernel_rfl) (by kernel_rfl) (by kernel_rfl) (fun _ _ _ h => h) (Or.inl ⟨by rfl, ?hy20⟩) (by assumption) ?rest20
              case hy20 => (intro wS hSw; (try dsimp only at hSw); go_simp; (try with_reducible rfl))
              (try simp only [Act.put, List.setIfInBounds_toArray, List.set_cons_zero, List.set_cons_succ])
              refine wpAnyH_take (i := 11) (oi := ⟨some 78, _, _, _, _, none⟩) (v := ?v21) rfl (by kernel_rfl) (by kernel_rfl) (by kernel_rfl) (fun _ _ _ h => h) (Or.inl ⟨by rfl, ?hy21⟩) (by assumption) ?rest21
              case hy21 => (intro wS hSw; (try dsimp only at hSw); go_simp; (try with_reducible rfl))
              (try simp only [Act.put, List.setIfInBounds_toArray, List.set_cons_zero, List.set_cons_succ])
              refine wpAnyH_take (i := 12) (oi := ⟨some 79, _, _, _, _, some (11, false)⟩) (v := undef) rfl (by kernel_rfl) (by kernel_rfl) (by kernel_rfl) (fun _ _ _ h => h) (Or.inr ⟨by rfl, rfl⟩) (by assumption) ?_
              (try simp only [Act.put, List.setIfInBounds_toArray, List.set_cons_zero, List.set_cons_succ])
              refine wpAnyH_take (i := 13) (oi := ⟨some 80, _, _, _, _, some (11, false)⟩) (v := undef) rfl (by kernel_rfl) (by kernel_rfl) (by kernel_rfl) (fun _ _ _ h => h) (Or.inr ⟨by rfl, rfl⟩) (by assumption) ?_
              (try simp only [Act.put, List.setIfInBounds_toArray, List.set_cons_zero, List.set_cons_succ])
              refine wpAnyH_take (i := 14) (oi := ⟨some 81, _, _, _, _, some (11, false)⟩) (v := undef) rfl (by kernel_rfl) (by kernel_rfl) (by kernel_rfl) (fun _ _ _ h => h) (Or.inr ⟨by rfl, rfl⟩) (by assumption) ?_
              (try simp only [Act.put, List.setIfInBounds_toArray, List.set_cons_zero, List.set_cons_succ])
              refine wpAnyH_take (i := 15) (oi := ⟨some 82, _, _, _, _, some (14, true)⟩) (v := undef) rfl (by kernel_rfl) (by kernel_rfl) (by kernel_rfl) (fun _ _ _ h => h) (Or.inr ⟨by rfl, rfl⟩) (by assumption) ?_
              (try simp only [Act.put, List.setIfInBounds_toArray, List.set_cons_zero, List.set_cons_succ])
              refine wpAnyH_take (i := 16) (oi := ⟨some 83, _, _, _, _, some (14, true)⟩) (v := undef) rfl (by kernel_rfl) (by kernel_rfl) (by kernel_rfl) (fun _ _ _ h => h) (Or.inr ⟨by rfl, rfl⟩) (by assumption) ?_
              (try simp only [Act.put, List.setIfInBounds_toArray, List.set_cons_zero, List.set_cons_succ])
              refine wpAnyH_take (i := 17) (oi := ⟨some 84, _, _, _, _, some (14, true)⟩) (v := undef) rfl (by kernel_rfl) (by kernel_rfl) (by kernel_rfl) (fun _ _ _ h => h) (Or.inr ⟨by rfl, rfl⟩) (by assumption) ?_
              (try simp only [Act.put, List.setIfInBounds_toArray, List.set_cons_zero, List.set_cons_succ])
              refine wpAnyH_take (i := 18) (oi := ⟨some 85, _, _, _, _, some (14, true)⟩) (v := undef) rfl (by kernel_rfl) (by kernel_rfl) (by kernel_rfl) (fun _ _ _ h => h) (Or.inr ⟨by rfl, rfl⟩) (by assumption) ?_
              (try simp only [Act.put, List.setIfInBounds_toArray, List.set_cons_zero, List.set_cons_succ])
              refine wpAnyH_take (i := 19) (oi := ⟨some 86, _, _, _, _, some (14, true)⟩) (v := undef) rfl (by kernel_rfl) (by kernel_rfl) (by kernel_rfl) (fun _ _ _ h => h) (Or.inr ⟨by rfl, rfl⟩) (by assumption) ?_
              (try simp only [Act.put, List.setIfInBounds_toArray, List.set_cons_zero, List.set_cons_succ])
              refine wpAnyH_take (i := 20) (oi := ⟨some 87, _, _, _, _, some (14, true)⟩) (v := undef) rfl (by kernel_rfl) (by kernel_rfl) (by kernel_rfl) (fun _ _ _ h => h) (Or.inr ⟨by rfl, rfl⟩) (by assumption) ?_
              (try simp only [Act.put, List.setIfInBounds_toArray, List.set_cons_zero, List.set_cons_succ])
              refine wpAnyH_take (i := 21) (oi := ⟨some 88, _, _, _, _, some (14, true)⟩) (v := undef) rfl (by kernel_rfl) (by kernel_rfl) (by kernel_rfl) (fun _ _ _ h => h) (Or.inr ⟨by rfl, rfl⟩) (by assumption) ?_
              (try simp only [Act.put, List.setIfInBounds_toArray, List.set_cons_zero, List.set_cons_succ])
              refine wpAnyH_take (i := 22) (oi := ⟨some 89, _, _, _, _, some (11, false)⟩) (v := undef) rfl (by kernel_rfl) (by kernel_rfl) (by kernel_rfl) (fun _ _ _ h => h) (Or.inr ⟨by rfl, rfl⟩) (by assumption) ?_
              (try simp only [Act.put, List.setIfInBounds_toArray, List.set_cons_zero, List.set_cons_succ])
              refine wpAnyH_take (i := 23) (oi := ⟨some 90, _, _, _, _, none⟩) (v := ?v22) rfl (by kernel_rfl) (by kernel_rfl) (by kernel_rfl) (fun _ _ _ h => h) (Or.inl ⟨by rfl, ?hy22⟩) (by assumption) ?rest22
              case hy22 => (intro wS hSw; (try dsimp only at hSw); go_simp; (try with_reducible rfl))
              (try simp only [Act.put, List.setIfInBounds_toArray, List.set_cons_zero, List.set_cons_succ])
              refine wpAnyH_done (by kernel_rfl) ?_ _
              clear hHeld
              have FW := FV.trans f4
              have BB4 : ClB w4 D ⟨bn, bi, bt⟩ := BB.out.fr FW (fun e => e)
              have s5 := setCl_fr w4 D xn xi xt
              have BB5 := Lib.hid (setCl_B BB4 xn xi xt)
              have CB5 := Lib.hid ((CB.out.fr FW (fun e => e)).fr s5 (fun e => by have : g = D := e; omega))
              have F5 := Lib.hid ((FR.out.trans FW).fresh s5 (fun k e => by have : k = D := e; have := HD.out; omega))
              have t0 := FW.at0 c0
              have t1 := FW.at0 c1
              have t2 := FW.at0 c2
              obtain ⟨p0, p1, p2, z0, z1, z2⟩ := BB4.facts
              dsimp only at p0 p1 p2
              clear c0 c1 c2 BB4 s5
              have HB5 := Lib.hid (HBy.out)
              unfold setCl at BB5 CB5 F5
              go_wp2
              go_roundw
              case rel => exact ⟨k + 1, _, by omega, by go_num, by rw [w6_wrap64, HSum.out], HB5, BB5, CB5, F5⟩
              case measure => simp [intOf]; omega
            · replace HBn := Lib.hid (HBn.out ho)
              have hd : decide (o < 0) = false := decide_eq_false ho
              clear ho HBy
              go_wp2
              obtain ⟨V, hV⟩ : ∃ V, V = wr.drew := ⟨_, rfl⟩
              refine wp_region_held_drew (S := (fun W' => W'.cell? (a.add (k * 3)) = some (.bool xn) ∧ W'.cell? { block := (a.add (k * 3)).block, off := (a.add (k * 3)).off + 1 } = some (.int .i64 xi) ∧ W'.cell? { block := (a.add (k * 3)).block, off := (a.add (k * 3)).off + 2 } = some (.string ⟨xt.toArray⟩) ∧ W'.cell? ⟨D, 0, none⟩ = some (.bool bn) ∧ W'.cell? ⟨D, 1, none⟩ = some (.int .i64 bi) ∧ W'.cell? ⟨D, 2, none⟩ = some (.string ⟨bt.toArray⟩))) (by kernel_rfl) (by exact ⟨t0, t1, t2, u0, u1, u2⟩) (fun hHeld => ?_)
              rw [← hV]
              rw [← hV] at hHeld
              have FV : Fr Non wr V := by rw [hV]; exact (Fr.refl Non wr).drew
              clear hV
              replace t0 := FV.at0 t0
              replace t1 := FV.at0 t1
              replace t2 := FV.at0 t2
              replace u0 := FV.at0 u0
              replace u1 := FV.at0 u1
              replace u2 := FV.at0 u2
              refine wpAnyH_take (i := 0) (oi := ⟨some 67, _, _, _, _, none⟩) (v := ?v23) rfl (by kernel_rfl) (by kernel_rfl) (by kernel_rfl) (fun _ _ _ h => h) (Or.inl ⟨by rfl, ?hy23⟩) (by assumption) ?rest23
              case hy23 => (intro wS hSw; (try dsimp only at hSw); go_simp; (try with_reducible rfl))
              (try simp only [Act.put, List.setIfInBounds_toArray, List.set_cons_zero, List.set_cons_succ])
              refine wpAnyH_take (i := 1) (oi := ⟨some 68, _, _, _, _, none⟩) (v := ?v24) rfl (by kernel_rfl) (by kernel_rfl) (by kernel_rfl) (fun _ _ _ h => h) (Or.inl ⟨by rfl, ?hy24⟩) (by assumption) ?rest24
              case hy24 => (intro wS hSw; (try dsimp only at hSw); go_simp; (try with_reducible rfl))
              (try simp only [Act.put, List.setIfInBounds_toArray, List.set_cons_zero, List.set_cons_succ])
              refine wpAnyH_take (i := 2) (oi := ⟨some 69, _, _, _, _, none⟩) (v := ?v25) rfl (by kernel_rfl) (by kernel_rfl) (by kernel_rfl) (fun _ _ _ h => h) (Or.inl ⟨by rfl, ?hy25⟩) (by assumption) ?rest25
              case hy25 => (intro wS hSw; (try dsimp only at hSw); go_simp; (try with_reducible rfl))
              (try simp only [Act.put, List.setIfInBounds_toArray, List.set_cons_zero, List.set_cons_succ])
              refine wpAnyH_take (i := 3) (oi := ⟨some 70, _, _, _, _, some (2, true)⟩) (v := ?v26) rfl (by kernel_rfl) (by kernel_rfl) (by kernel_rfl) (fun _ _ _ h => h) (Or.inl ⟨by rfl, ?hy26⟩) (by assumption) ?rest26
              case hy26 => (intro wS hSw; (try dsimp only at hSw); go_simp; (try with_reducible rfl))
              (try simp only [Act.put, List.setIfInBounds_toArray, List.set_cons_zero, List.set_cons_succ])
              refine wpAnyH_take (i := 4) (oi := ⟨some 71, _, _, _, _, some (2, true)⟩) (v := ?v27) rfl (by kernel_rfl) (by kernel_rfl) (by kernel_rfl) (fun _ _ _ h => h) (Or.inl ⟨by rfl, ?hy27⟩) (by assumption) ?rest27
              case hy27 => (intro wS hSw; (try dsimp only at hSw); go_simp; (try with_reducible rfl))
              (try simp only [Act.put, List.setIfInBounds_toArray, List.set_cons_zero, List.set_cons_succ])
              refine wpAnyH_take (i := 5) (oi := ⟨some 72, _, _, _, _, some (2, true)⟩) (v := ?v28) rfl (by kernel_rfl) (by kernel_rfl) (by kernel_rfl) (fun _ _ _ h => h) (Or.inl ⟨by rfl, ?hy28⟩) (by assumption) ?rest28
              case hy28 => (intro wS hSw; (try dsimp only at hSw); go_simp; (try with_reducible rfl))
              (try simp only [Act.put, List.setIfInBounds_toArray, List.set_cons_zero, List.set_cons_succ])
              refine wpAnyH_take (i := 6) (oi := ⟨some 73, _, _, _, _, some (2, true)⟩) (v := ?v29) rfl (by kernel_rfl) (by kernel_rfl) (by kernel_rfl) (fun _ _ _ h => h) (Or.inl ⟨by rfl, ?hy29⟩) (by assumption) ?rest29
              case hy29 => (intro wS hSw; (try dsimp only at hSw); go_simp; (try with_reducible rfl))
              (try simp only [Act.put, List.setIfInBounds_toArray, List.set_cons_zero, List.set_cons_succ])
              refine wpAnyH_take (i := 7) (oi := ⟨some 74, _, _, _, _, some (2, true)⟩) (v := ?v30) rfl (by kernel_rfl) (by kernel_rfl) (by kernel_rfl) (fun _ _ _ h => h) (Or.inl ⟨by rfl, ?hy30⟩) (by assumption) ?rest30
              case hy30 => (intro wS hSw; (try dsimp only at hSw); go_simp; (try with_reducible rfl))
              (try simp only [Act.put, List.setIfInBounds_toArray, List.set_cons_zero, List.set_cons_succ])
              refine wpAnyH_ready (rs := [8]) (by kernel_rfl) (by simp) ?_
              refine AllReadyH.cons (o := ⟨some 75, _, _, _, _, some (2, true)⟩) rfl (fun K hK => ?_) AllReadyH.nil
              go_simp
              go_at_call 16
              refine (HO2.out _).mono ?_
              rintro e w4 ⟨rfl, f4⟩
              go_wp2_with fail
              refine hK.out _ _ (by exact ⟨f4.at0 t0, f4.at0 t1, f4.at0 t2, f4.at0 u0, f4.at0 u1, f4.at0 u2⟩) (fun hHeld => ?_)
              clear hK K
              (try simp only [Act.put, List.setIfInBounds_toArray, List.set_cons_zero, List.set_cons_succ])
              refine wpAnyH_take (i := 9) (oi := ⟨some 76, _, _, _, _, some (2, true)⟩) (v := ?v31) rfl (by kernel_rfl) (by kernel_rfl) (by kernel_rfl) (fun _ _ _ h => h) (Or.inl ⟨by rfl, ?hy31⟩) (by assumption) ?rest31
              case hy31 => (intro wS hSw; (try dsimp only at hSw); go_simp; (try with_reducible rfl))
              (try simp only [Act.put, List.setIfInBounds_toArray, List.set_cons_zero, List.set_cons_succ])
              refine wpAnyH_take (i := 10) (oi := ⟨some 77, _, _, _, _, none⟩) (v := ?v32) rfl (by kernel_rfl) (by kernel_rfl) (by kernel_rfl) (fun _ _ _ h => h) (Or.inl ⟨by rfl, ?hy32⟩) (by assumption) ?rest32
              case hy32 => (intro wS hSw; (try dsimp only at hSw); go_simp; (try with_reducible rfl))
              (try simp only [Act.put, List.setIfInBounds_toArray, List.set_cons_zero, List.set_cons_succ])
              refine wpAnyH_take (i := 11) (oi := ⟨some 78, _, _, _, _, none⟩) (v := ?v33) rfl (by kernel_rfl) (by kernel_rfl) (by kernel_rfl) (fun _ _ _ h => h) (Or.inl ⟨by rfl, ?hy33⟩) (by assumption) ?rest33
              case hy33 => (intro wS hSw; (try dsimp only at hSw); go_simp; (try with_reducible rfl))
              (try simp only [Act.put, List.setIfInBounds_toArray, List.set_cons_zero, List.set_cons_succ])
              refine wpAnyH_take (i := 12) (oi := ⟨some 79, _, _, _, _, some (11, false)⟩) (v := ?v34) rfl (by kernel_rfl) (by kernel_rfl) (by kernel_rfl) (fun _ _ _ h => h) (Or.inl ⟨by rfl, ?hy34⟩) (by assumption) ?rest34
              case hy34 => (intro wS hSw; (try dsimp only at hSw); go_simp; (try with_reducible rfl))
              (try simp only [Act.put, List.setIfInBounds_toArray, List.set_cons_zero, List.set_cons_succ])
              refine wpAnyH_take (i := 13) (oi := ⟨some 80, _, _, _, _, some (11, false)⟩) (v := ?v35) rfl (by kernel_rfl) (by kernel_rfl) (by kernel_rfl) (fun _ _ _ h => h) (Or.inl ⟨by rfl, ?hy35⟩) (by assumption) ?rest35
              case hy35 => (intro wS hSw; (try dsimp only at hSw); go_simp; (try with_reducible rfl))
              (try simp only [Act.put, List.setIfInBounds_toArray, List.set_cons_zero, List.set_cons_succ])
              refine wpAnyH_take (i := 14) (oi := ⟨some 81, _, _, _, _, some (11, false)⟩) (v := ?v36) rfl (by kernel_rfl) (by kernel_rfl) (by kernel_rfl) (fun _ _ _ h => h) (Or.inl ⟨by rfl, ?hy36⟩) (by assumption) ?rest36
              case hy36 => (intro wS hSw; (try dsimp only at hSw); go_simp; (try with_reducible rfl))
              (try simp only [Act.put, List.setIfInBounds_toArray, List.set_cons_zero, List.set_cons_succ])
              refine wpAnyH_take (i := 15) (oi := ⟨some 82, _, _, _, _, some (14, true)⟩) (v := undef) rfl (by kernel_rfl) (by kernel_rfl) (by kernel_rfl) (fun _ _ _ h => h) (Or.inr ⟨by rfl, rfl⟩) (by assumption) ?_
              (try simp only [Act.put, List.setIfInBounds_toArray, List.set_cons_zero, List.set_cons_succ])
              refine wpAnyH_take (i := 16) (oi := ⟨some 83, _, _, _, _, some (14, true)⟩) (v := undef) rfl (by kernel_rfl) (by kernel_rfl) (by kernel_rfl) (fun _ _ _ h => h) (Or.inr ⟨by rfl, rfl⟩) (by assumption) ?_
              (try simp only [Act.put, List.setIfInBounds_toArray, List.set_cons_zero, List.set_cons_succ])
              refine wpAnyH_take (i := 17) (oi := ⟨some 84, _, _, _, _, some (14, true)⟩) (v := undef) rfl (by kernel_rfl) (by kernel_rfl) (by kernel_rfl) (fun _ _ _ h => h) (Or.inr ⟨by rfl, rfl⟩) (by assumption) ?_
              (try simp only [Act.put, List.setIfInBounds_toArray, List.set_cons_zero, List.set_cons_succ])
              refine wpAnyH_take (i := 18) (oi := ⟨some 85, _, _, _, _, some (14, true)⟩) (v := undef) rfl (by kernel_rfl) (by kernel_rfl) (by kernel_rfl) (fun _ _ _ h => h) (Or.inr ⟨by rfl, rfl⟩) (by assumption) ?_
              (try simp only [Act.put, List.setIfInBounds_toArray, List.set_cons_zero, List.set_cons_succ])
              refine wpAnyH_take (i := 19) (oi := ⟨some 86, _, _, _, _, some (14, true)⟩) (v := undef) rfl (by kernel_rfl) (by kernel_rfl) (by kernel_rfl) (fun _ _ _ h => h) (Or.inr ⟨by rfl, rfl⟩) (by assumption) ?_
              (try simp only [Act.put, List.setIfInBounds_toArray, List.set_cons_zero, List.set_cons_succ])
              refine wpAnyH_take (i := 20) (oi := ⟨some 87, _, _, _, _, some (14, true)⟩) (v := undef) rfl (by kernel_rfl) (by kernel_rfl) (by kernel_rfl) (fun _ _ _ h => h) (Or.inr ⟨by rfl, rfl⟩) (by assumption) ?_
              (try simp only [Act.put, List.setIfInBounds_toArray, List.set_cons_zero, List.set_cons_succ])
              refine wpAnyH_take (i := 21) (oi := ⟨some 88, _, _, _, _, some (14, true)⟩) (v := undef) rfl (by kernel_rfl) (by kernel_rfl) (by kernel_rfl) (fun _ _ _ h => h) (Or.inr ⟨by rfl, rfl⟩) (by assumption) ?_
              (try simp only [Act.put, List.setIfInBounds_toArray, List.set_cons_zero, List.set_cons_succ])
              refine wpAnyH_take (i := 22) (oi := ⟨some 89, _, _, _, _, some (11, false)⟩) (v := ?v37) rfl (by kernel_rfl) (by kernel_rfl) (by kernel_rfl) (fun _ _ _ h => h) (Or.inl ⟨by rfl, ?hy37⟩) (by assumption) ?rest37
              case hy37 => (intro wS hSw; (try dsimp only at hSw); go_simp; (try with_reducible rfl))
              (try simp only [Act.put, List.setIfInBounds_toArray, List.set_cons_zero, List.set_cons_succ])
              refine wpAnyH_take (i := 23) (oi := ⟨some 90, _, _, _, _, none⟩) (v := ?v38) rfl (by kernel_rfl) (by kernel_rfl) (by kernel_rfl) (fun _ _ _ h => h) (Or.inl ⟨by rfl, ?hy38⟩) (by assumption) ?rest38
              case hy38 => (intro wS hSw; (try dsimp only at hSw); go_simp; (try with_reducible rfl))
              (try simp only [Act.put, List.setIfInBounds_toArray, List.set_cons_zero, List.set_cons_succ])
              refine wpAnyH_done (by kernel_rfl) ?_ _
              clear hHeld
              have FW := FV.trans f4
              have BB5 : Hid (ClB w4 D ⟨bn, bi, bt⟩) := Lib.hid (BB.out.fr FW (fun e => e))
              have CB5 := Lib.hid (CB.out.fr FW (fun e => e))
              have F5 := Lib.hid (FR.out.trans FW)
              have HB5 := Lib.hid (HBn.out)
              clear c0 c1 c2
              go_wp2
              go_roundw
              case rel => exact ⟨k + 1, _, by omega, by go_num, by rw [w6_wrap64, HSum.out], HB5, BB5, CB5, F5⟩
              case measure => simp [intOf]; omega
          · have HBy : Hid (0 < o → BestTo 5 L (k + 1) ⟨xn, xi, xt⟩) := Lib.hid (fun e => by have := HBm.out; simpa [e] using this)
            have HBn : Hid (¬ 0 < o → BestTo 5 L (k + 1) ⟨bn, bi, bt⟩) := Lib.hid (fun e => by have := HBm.out; simpa [e] using this)
            clear HBm
            by_cases ho : 0 < o
            · replace HBy := Lib.hid (HBy.out ho)
              have hd : decide (0 < o) = true := decide_eq_true ho
              clear ho HBn
              go_wp2
              obtain ⟨V, hV⟩ : ∃ V, V = wr.drew := ⟨_, rfl⟩
              refine wp_region_held_drew (S := (fun W' => W'.cell? (a.add (k * 3)) = some (.bool xn) ∧ W'.cell? { block := (a.add (k * 3)).block, off := (a.add (k * 3)).off + 1 } = some (.int .i64 xi) ∧ W'.cell? { block := (a.add (k * 3)).block, off := (a.add (k * 3)).off + 2 } = some (.string ⟨xt.toArray⟩) ∧ W'.cell? ⟨D, 0, none⟩ = some (.bool bn) ∧ W'.cell? ⟨D, 1, none⟩ = some (.int .i64 bi) ∧ W'.cell? ⟨D, 2, none⟩ = some (.string ⟨bt.toArray⟩))) (by kernel_rfl) (by exact ⟨t0, t1, t2, u0, u1, u2⟩) (fun hHeld => ?_)
              rw [← hV]
              rw [← hV] at hHeld
              have FV : Fr Non wr V := by rw [hV]; exact (Fr.refl Non wr).drew
              clear hV
              replace t0 := FV.at0 t0
              replace t1 := FV.at0 t1
              replace t2 := FV.at0 t2
              replace u0 := FV.at0 u0
              replace u1 := FV.at0 u1
              replace u2 := FV.at0 u2
              refine wpAnyH_take (i := 0) (oi := ⟨some 67, _, _, _, _, none⟩) (v := ?v39) rfl (by kernel_rfl) (by kernel_rfl) (by kernel_rfl) (fun _ _ _ h => h) (Or.inl ⟨by rfl, ?hy39⟩) (by assumption) ?rest39
              case hy39 => (intro wS hSw; (try dsimp only at hSw); go_simp; (try with_reducible rfl))
              (try simp only [Act.put, List.setIfInBounds_toArray, List.set_cons_zero, List.set_cons_succ])
              refine wpAnyH_take (i := 1) (oi := ⟨some 68, _, _, _, _, none⟩) (v := ?v40) rfl (by kernel_rfl) (by kernel_rfl) (by kernel_rfl) (fun _ _ _ h => h) (Or.inl ⟨by rfl, ?hy40⟩) (by assumption) ?rest40
              case hy40 => (intro wS hSw; (try dsimp only at hSw); go_simp; (try with_reducible rfl))
              (try simp only [Act.put, List.setIfInBounds_toArray, List.set_cons_zero, List.set_cons_succ])
              refine wpAnyH_take (i := 2) (oi := ⟨some 69, _, _, _, _, none⟩) (v := ?v41) rfl (by kernel_rfl) (by kernel_rfl) (by kernel_rfl) (fun _ _ _ h => h) (Or.inl ⟨by rfl, ?hy41⟩) (by assumption) ?rest41
              case hy41 => (intro wS hSw; (try dsimp only at hSw); go_simp; (try with_reducible rfl))
              (try simp only [Act.put, List.setIfInBounds_toArray, List.set_cons_zero, List.set_cons_succ])
              refine wpAnyH_take (i := 3) (oi := ⟨some 70, _, _, _, _, some (2, true)⟩) (v := undef) rfl (by kernel_rfl) (by kernel_rfl) (by kernel_rfl) (fun _ _ _ h => h) (Or.inr ⟨by rfl, rfl⟩) (by assumption) ?_
              (try simp only [Act.put, List.setIfInBounds_toArray, List.set_cons_zero, List.set_cons_succ])
              refine wpAnyH_take (i := 4) (oi := ⟨some 71, _, _, _, _, some (2, true)⟩) (v := undef) rfl (by kernel_rfl) (by kernel_rfl) (by kernel_rfl) (fun _ _ _ h => h) (Or.inr ⟨by rfl, rfl⟩) (by assumption) ?_
              (try simp only [Act.put, List.setIfInBounds_toArray, List.set_cons_zero, List.set_cons_succ])
              refine wpAnyH_take (i := 5) (oi := ⟨some 72, _, _, _, _, some (2, true)⟩) (v := undef) rfl (by kernel_rfl) (by kernel_rfl) (by kernel_rfl) (fun _ _ _ h => h) (Or.inr ⟨by rfl, rfl⟩) (by assumption) ?_
              (try simp only [Act.put, List.setIfInBounds_toArray, List.set_cons_zero, List.set_cons_succ])
              refine wpAnyH_take (i := 6) (oi := ⟨some 73, _, _, _, _, some (2, true)⟩) (v := undef) rfl (by kernel_rfl) (by kernel_rfl) (by kernel_rfl) (fun _ _ _ h => h) (Or.inr ⟨by rfl, rfl⟩) (by assumption) ?_
              (try simp only [Act.put, List.setIfInBounds_toArray, List.set_cons_zero, List.set_cons_succ])
              refine wpAnyH_take (i := 7) (oi := ⟨some 74, _, _, _, _, some (2, true)⟩) (v := undef) rfl (by kernel_rfl) (by kernel_rfl) (by kernel_rfl) (fun _ _ _ h => h) (Or.inr ⟨by rfl, rfl⟩) (by assumption) ?_
              (try simp only [Act.put, List.setIfInBounds_toArray, List.set_cons_zero, List.set_cons_succ])
              refine wpAnyH_take (i := 8) (oi := ⟨some 75, _, _, _, _, some (2, true)⟩) (v := undef) rfl (by kernel_rfl) (by kernel_rfl) (by kernel_rfl) (fun _ _ _ h => h) (Or.inr ⟨by rfl, rfl⟩) (by assumption) ?_
              (try simp only [Act.put, List.setIfInBounds_toArray, List.set_cons_zero, List.set_cons_succ])
              refine wpAnyH_take (i := 9) (oi := ⟨some 76, _, _, _, _, some (2, true)⟩) (v := undef) rfl (by kernel_rfl) (by kernel_rfl) (by kernel_rfl) (fun _ _ _ h => h) (Or.inr ⟨by rfl, rfl⟩) (by assumption) ?_
              (try simp only [Act.put, List.setIfInBounds_toArray, List.set_cons_zero, List.set_cons_succ])
              refine wpAnyH_take (i := 10) (oi := ⟨some 77, _, _, _, _, none⟩) (v := ?v42) rfl (by kernel_rfl) (by kernel_rfl) (by kernel_rfl) (fun _ _ _ h => h) (Or.inl ⟨by rfl, ?hy42⟩) (by assumption) ?rest42
              case hy42 => (intro wS hSw; (try dsimp only at hSw); go_simp; (try with_reducible rfl))
              (try simp only [Act.put, List.setIfInBounds_toArray, List.set_cons_zero, List.set_cons_succ])
              refine wpAnyH_take (i := 11) (oi := ⟨some 78, _, _, _, _, none⟩) (v := ?v43) rfl (by kernel_rfl) (by kernel_rfl) (by kernel_rfl) (fun _ _ _ h => h) (Or.inl ⟨by rfl, ?hy43⟩) (by assumption) ?rest43
              case hy43 => (intro wS hSw; (try dsimp only at hSw); go_simp; (try with_reducible rfl))
              (try simp only [Act.put, List.setIfInBounds_toArray, List.set_cons_zero, List.set_cons_succ])
              refine wpAnyH_take (i := 12) (oi := ⟨some 79, _, _, _, _, some (11, false)⟩) (v := ?v44) rfl (by kernel_rfl) (by kernel_rfl) (by kernel_rfl) (fun _ _ _ h => h) (Or.inl ⟨by rfl, ?hy44⟩) (by assumption) ?rest44
              case hy44 => (intro wS hSw; (try dsimp only at hSw); go_simp; (try with_reducible rfl))
              (try simp only [Act.put, List.setIfInBounds_toArray, List.set_cons_zero, List.set_cons_succ])
              refine wpAnyH_take (i := 13) (oi := ⟨some 80, _, _, _, _, some (11, false)⟩) (v := ?v45) rfl (by kernel_rfl) (by kernel_rfl) (by kernel_rfl) (fun _ _ _ h => h) (Or.inl ⟨by rfl, ?hy45⟩) (by assumption) ?rest45
              case hy45 => (intro wS hSw; (try dsimp only at hSw); go_simp; (try with_reducible rfl))
              (try simp only [Act.put, List.setIfInBounds_toArray, List.set_cons_zero, List.set_cons_succ])
              refine wpAnyH_take (i := 14) (oi := ⟨some 81, _, _, _, _, some (11, false)⟩) (v := ?v46) rfl (by kernel_rfl) (by kernel_rfl) (by kernel_rfl) (fun _ _ _ h => h) (Or.inl ⟨by rfl, ?hy46⟩) (by assumption) ?rest46
              case hy46 => (intro wS hSw; (try dsimp only at hSw); go_simp; (try with_reducible rfl))
              (try simp only [Act.put, List.setIfInBounds_toArray, List.set_cons_zero, List.set_cons_succ])
              refine wpAnyH_take (i := 15) (oi := ⟨some 82, _, _, _, _, some (14, true)⟩) (v := ?v47) rfl (by kernel_rfl) (by kernel_rfl) (by kernel_rfl) (fun _ _ _ h => h) (Or.inl ⟨by rfl, ?hy47⟩) (by assumption) ?rest47
              case hy47 => (intro wS hSw; (try dsimp only at hSw); go_simp; (try with_reducible rfl))
              (try simp only [Act.put, List.setIfInBounds_toArray, List.set_cons_zero, List.set_cons_succ])
              refine wpAnyH_take (i := 16) (oi := ⟨some 83, _, _, _, _, some (14, true)⟩) (v := ?v48) rfl (by kernel_rfl) (by kernel_rfl) (by kernel_rfl) (fun _ _ _ h => h) (Or.inl ⟨by rfl, ?hy48⟩) (by assumption) ?rest48
              case hy48 => (intro wS hSw; (try dsimp only at hSw); go_simp; (try with_reducible rfl))
              (try simp only [Act.put, List.setIfInBounds_toArray, List.set_cons_zero, List.set_cons_succ])
              refine wpAnyH_take (i := 17) (oi := ⟨some 84, _, _, _, _, some (14, true)⟩) (v := ?v49) rfl (by kernel_rfl) (by kernel_rfl) (by kernel_rfl) (fun _ _ _ h => h) (Or.inl ⟨by rfl, ?hy49⟩) (by assumption) ?rest49
              case hy49 => (intro wS hSw; (try dsimp only at hSw); go_simp; (try with_reducible rfl))
              (try simp only [Act.put, List.setIfInBounds_toArray, List.set_cons_zero, List.set_cons_succ])
              refine wpAnyH_take (i := 18) (oi := ⟨some 85, _, _, _, _, some (14, true)⟩) (v := ?v50) rfl (by kernel_rfl) (by kernel_rfl) (by kernel_rfl) (fun _ _ _ h => h) (Or.inl ⟨by rfl, ?hy50⟩) (by assumption) ?rest50
              case hy50 => (intro wS hSw; (try dsimp only at hSw); go_simp; (try with_reducible rfl))
              (try simp only [Act.put, List.setIfInBounds_toArray, List.set_cons_zero, List.set_cons_succ])
              refine wpAnyH_take (i := 19) (oi := ⟨some 86, _, _, _, _, some (14, true)⟩) (v := ?v51) rfl (by kernel_rfl) (by kernel_rfl) (by kernel_rfl) (fun _ _ _ h => h) (Or.inl ⟨by rfl, ?hy51⟩) (by assumption) ?rest51
              case hy51 => (intro wS hSw; (try dsimp only at hSw); go_simp; (try with_reducible rfl))
              (try simp only [Act.put, List.setIfInBounds_toArray, List.set_cons_zero, List.set_cons_succ])
              refine wpAnyH_ready (rs := [20]) (by kernel_rfl) (by simp) ?_
              refine AllReadyH.cons (o := ⟨some 87, _, _, _, _, some (14, true)⟩) rfl (fun K hK => ?_) AllReadyH.nil
              go_simp
              go_at_call 16
              refine (HO2.out _).mono ?_
              rintro e w4 ⟨rfl, f4⟩
              go_wp2_with fail
              refine hK.out _ _ (by exact ⟨f4.at0 t0, f4.at0 t1, f4.at0 t2, f4.at0 u0, f4.at0 u1, f4.at0 u2⟩) (fun hHeld => ?_)
              clear hK K
              (try simp only [Act.put, List.setIfInBounds_toArray, List.set_cons_zero, List.set_cons_succ])
              refine wpAnyH_take (i := 21) (oi := ⟨some 88, _, _, _, _, some (14, true)⟩) (v := ?v52) rfl (by kernel_rfl) (by kernel_rfl) (by kernel_rfl) (fun _ _ _ h => h) (Or.inl ⟨by rfl, ?hy52⟩) (by assumption) ?rest52
              case hy52 => (intro wS hSw; (try dsimp only at hSw); go_simp; (try with_reducible rfl))
              (try simp only [Act.put, List.setIfInBounds_toArray, List.set_cons_zero, List.set_cons_succ])
              refine wpAnyH_take (i := 22) (oi := ⟨some 89, _, _, _, _, some (11, false)⟩) (v := ?v53) rfl (by kernel_rfl) (by kernel_rfl) (by kernel_rfl) (fun _ _ _ h => h) (Or.inl ⟨by rfl, ?hy53⟩) (by assumption) ?rest53
              case hy53 => (intro wS hSw; (try dsimp only at hSw); go_simp; (try with_reducible rfl))
              (try simp only [Act.put, List.setIfInBounds_toArray, List.set_cons_zero, List.set_cons_succ])
              refine wpAnyH_take (i := 23) (oi := ⟨some 90, _, _, _, _, none⟩) (v := ?v54) rfl (by kernel_rfl) (by kernel_rfl) (by kernel_rfl) (fun _ _ _ h => h) (Or.inl ⟨by rfl, ?hy54⟩) (by assumption) ?rest54
              case hy54 => (intro wS hSw; (try dsimp only at hSw); go_simp; (try with_reducible rfl))
              (try simp only [Act.put, List.setIfInBounds_toArray, List.set_cons_zero, List.set_cons_succ])
              refine wpAnyH_done (by kernel_rfl) ?_ _
              clear hHeld
              have FW := FV.trans f4
              have BB4 : ClB w4 D ⟨bn, bi, bt⟩ := BB.out.fr FW (fun e => e)
              have s5 := setCl_fr w4 D xn xi xt
              have BB5 := Lib.hid (setCl_B BB4 xn xi xt)
              have CB5 := Lib.hid ((CB.out.fr FW (fun e => e)).fr s5 (fun e => by have : g = D := e; omega))
              have F5 := Lib.hid ((FR.out.trans FW).fresh s5 (fun k e => by have : k = D := e; have := HD.out; omega))
              have t0 := FW.at0 c0
              have t1 := FW.at0 c1
              have t2 := FW.at0 c2
              obtain ⟨p0, p1, p2, z0, z1, z2⟩ := BB4.facts
              dsimp only at p0 p1 p2
              clear c0 c1 c2 BB4 s5
              have HB5 := Lib.hid (HBy.out)
              unfold setCl at BB5 CB5 F5
              go_wp2
              go_roundw
              case rel => exact ⟨k + 1, _, by omega, by go_num, by rw [w6_wrap64, HSum.out], HB5, BB5, CB5, F5⟩
              case measure => simp [intOf]; omega
            · replace HBn := Lib.hid (HBn.out ho)
              have hd : decide (0 < o) = false := decide_eq_false ho
              clear ho HBy
              go_wp2
              obtain ⟨V, hV⟩ : ∃ V, V = wr.drew := ⟨_, rfl⟩
              refine wp_region_held_drew (S := (fun W' => W'.cell? (a.add (k * 3)) = some (.bool xn) ∧ W'.cell? { block := (a.add (k * 3)).block, off := (a.add (k * 3)).off + 1 } = some (.int .i64 xi) ∧ W'.cell? { block := (a.add (k * 3)).block, off := (a.add (k * 3)).off + 2 } = some (.string ⟨xt.toArray⟩) ∧ W'.cell? ⟨D, 0, none⟩ = some (.bool bn) ∧ W'.cell? ⟨D, 1, none⟩ = some (.int .i64 bi) ∧ W'.cell? ⟨D, 2, none⟩ = some (.string ⟨bt.toArray⟩))) (by kernel_rfl) (by exact ⟨t0, t1, t2, u0, u1, u2⟩) (fun hHeld => ?_)
              rw [← hV]
              rw [← hV] at hHeld
              have FV : Fr Non wr V := by rw [hV]; exact (Fr.refl Non wr).drew
              clear hV
              replace t0 := FV.at0 t0
              replace t1 := FV.at0 t1
              replace t2 := FV.at0 t2
              replace u0 := FV.at0 u0
              replace u1 := FV.at0 u1
              replace u2 := FV.at0 u2
              refine wpAnyH_take (i := 0) (oi := ⟨some 67, _, _, _, _, none⟩) (v := ?v55) rfl (by kernel_rfl) (by kernel_rfl) (by kernel_rfl) (fun _ _ _ h => h) (Or.inl ⟨by rfl, ?hy55⟩) (by assumption) ?rest55
              case hy55 => (intro wS hSw; (try dsimp only at hSw); go_simp; (try with_reducible rfl))
              (try simp only [Act.put, List.setIfInBounds_toArray, List.set_cons_zero, List.set_cons_succ])
              refine wpAnyH_take (i := 1) (oi := ⟨some 68, _, _, _, _, none⟩) (v := ?v56) rfl (by kernel_rfl) (by kernel_rfl) (by kernel_rfl) (fun _ _ _ h => h) (Or.inl ⟨by rfl, ?hy56⟩) (by assumption) ?rest56
              case hy56 => (intro wS hSw; (try dsimp only at hSw); go_simp; (try with_reducible rfl))
              (try simp only [Act.put, List.setIfInBounds_toArray, List.set_cons_zero, List.set_cons_succ])
              refine wpAnyH_take (i := 2) (oi := ⟨some 69, _, _, _, _, none⟩) (v := ?v57) rfl (by kernel_rfl) (by kernel_rfl) (by kernel_rfl) (fun _ _ _ h => h) (Or.inl ⟨by rfl, ?hy57⟩) (by assumption) ?rest57
              case hy57 => (intro wS hSw; (try dsimp only at hSw); go_simp; (try with_reducible rfl))
              (try simp only [Act.put, List.setIfInBounds_toArray, List.set_cons_zero, List.set_cons_succ])
              refine wpAnyH_take (i := 3) (oi := ⟨some 70, _, _, _, _, some (2, true)⟩) (v := undef) rfl (by kernel_rfl) (by kernel_rfl) (by kernel_rfl) (fun _ _ _ h => h) (Or.inr ⟨by rfl, rfl⟩) (by assumption) ?_
              (try simp only [Act.put, List.setIfInBounds_toArray, List.set_cons_zero, List.set_cons_succ])
              refine wpAnyH_take (i := 4) (oi := ⟨some 71, _, _, _, _, some (2, true)⟩) (v := undef) rfl (by kernel_rfl) (by kernel_rfl) (by kernel_rfl) (fun _ _ _ h => h) (Or.inr ⟨by rfl, rfl⟩) (by assumption) ?_
              (try simp only [Act.put, List.setIfInBounds_toArray, List.set_cons_zero, List.set_cons_succ])
              refine wpAnyH_take (i := 5) (oi := ⟨some 72, _, _, _, _, some (2, true)⟩) (v := undef) rfl (by kernel_rfl) (by kernel_rfl) (by kernel_rfl) (fun _ _ _ h => h) (Or.inr ⟨by rfl, rfl⟩) (by assumption) ?_
              (try simp only [Act.put, List.setIfInBounds_toArray, List.set_cons_zero, List.set_cons_succ])
              refine wpAnyH_take (i := 6) (oi := ⟨some 73, _, _, _, _, some (2, true)⟩) (v := undef) rfl (by kernel_rfl) (by kernel_rfl) (by kernel_rfl) (fun _ _ _ h => h) (Or.inr ⟨by rfl, rfl⟩) (by assumption) ?_
              (try simp only [Act.put, List.setIfInBounds_toArray, List.set_cons_zero, List.set_cons_succ])
              refine wpAnyH_take (i := 7) (oi := ⟨some 74, _, _, _, _, some (2, true)⟩) (v := undef) rfl (by kernel_rfl) (by kernel_rfl) (by kernel_rfl) (fun _ _ _ h => h) (Or.inr ⟨by rfl, rfl⟩) (by assumption) ?_
              (try simp only [Act.put, List.setIfInBounds_toArray, List.set_cons_zero, List.set_cons_succ])
              refine wpAnyH_take (i := 8) (oi := ⟨some 75, _, _, _, _, some (2, true)⟩) (v := undef) rfl (by kernel_rfl) (by kernel_rfl) (by kernel_rfl) (fun _ _ _ h => h) (Or.inr ⟨by rfl, rfl⟩) (by assumption) ?_
              (try simp only [Act.put, List.setIfInBounds_toArray, List.set_cons_zero, List.set_cons_succ])
              refine wpAnyH_take (i := 9) (oi := ⟨some 76, _, _, _, _, some (2, true)⟩) (v := undef) rfl (by kernel_rfl) (by kernel_rfl) (by kernel_rfl) (fun _ _ _ h => h) (Or.inr ⟨by rfl, rfl⟩) (by assumption) ?_
              (try simp only [Act.put, List.setIfInBounds_toArray, List.set_cons_zero, List.set_cons_succ])
              refine wpAnyH_take (i := 10) (oi := ⟨some 77, _, _, _, _, none⟩) (v := ?v58) rfl (by kernel_rfl) (by kernel_rfl) (by kernel_rfl) (fun _ _ _ h => h) (Or.inl ⟨by rfl, ?hy58⟩) (by assumption) ?rest58
              case hy58 => (intro wS hSw; (try dsimp only at hSw); go_simp; (try with_reducible rfl))
              (try simp only [Act.put, List.setIfInBounds_toArray, List.set_cons_zero, List.set_cons_succ])
              refine wpAnyH_take (i := 11) (oi := ⟨some 78, _, _, _, _, none⟩) (v := ?v59) rfl (by kernel_rfl) (by kernel_rfl) (by kernel_rfl) (fun _ _ _ h => h) (Or.inl ⟨by rfl, ?hy59⟩) (by assumption) ?rest59
              case hy59 => (intro wS hSw; (try dsimp only at hSw); go_simp; (try with_reducible rfl))
              (try simp only [Act.put, List.setIfInBounds_toArray, List.set_cons_zero, List.set_cons_succ])
              refine wpAnyH_take (i := 12) (oi := ⟨some 79, _, _, _, _, some (11, false)⟩) (v := ?v60) rfl (by kernel_rfl) (by kernel_rfl) (by kernel_rfl) (fun _ _ _ h => h) (Or.inl ⟨by rfl, ?hy60⟩) (by assumption) ?rest60
              case hy60 => (intro wS hSw; (try dsimp only at hSw); go_simp; (try with_reducible rfl))
              (try simp only [Act.put, List.setIfInBounds_toArray, List.set_cons_zero, List.set_cons_succ])
              refine wpAnyH_take (i := 13) (oi := ⟨some 80, _, _, _, _, some (11, false)⟩) (v := ?v61) rfl (by kernel_rfl) (by kernel_rfl) (by kernel_rfl) (fun _ _ _ h => h) (Or.inl ⟨by rfl, ?hy61⟩) (by assumption) ?rest61
              case hy61 => (intro wS hSw; (try dsimp only at hSw); go_simp; (try with_reducible rfl))
              (try simp only [Act.put, List.setIfInBounds_toArray, List.set_cons_zero, List.set_cons_succ])
              refine wpAnyH_take (i := 14) (oi := ⟨some 81, _, _, _, _, some (11, false)⟩) (v := ?v62) rfl (by kernel_rfl) (by kernel_rfl) (by kernel_rfl) (fun _ _ _ h => h) (Or.inl ⟨by rfl, ?hy62⟩) (by assumption) ?rest62
              case hy62 => (intro wS hSw; (try dsimp only at hSw); go_simp; (try with_reducible rfl))
              (try simp only [Act.put, List.setIfInBounds_toArray, List.set_cons_zero, List.set_cons_succ])
              refine wpAnyH_take (i := 15) (oi := ⟨some 82, _, _, _, _, some (14, true)⟩) (v := ?v63) rfl (by kernel_rfl) (by kernel_rfl) (by kernel_rfl) (fun _ _ _ h => h) (Or.inl ⟨by rfl, ?hy63⟩) (by assumption) ?rest63
              case hy63 => (intro wS hSw; (try dsimp only at hSw); go_simp; (try with_reducible rfl))
              (try simp only [Act.put, List.setIfInBounds_toArray, List.set_cons_zero, List.set_cons_succ])
              refine wpAnyH_take (i := 16) (oi := ⟨some 83, _, _, _, _, some (14, true)⟩) (v := ?v64) rfl (by kernel_rfl) (by kernel_rfl) (by kernel_rfl) (fun _ _ _ h => h) (Or.inl ⟨by rfl, ?hy64⟩) (by assumption) ?rest64
              case hy64 => (intro wS hSw; (try dsimp only at hSw); go_simp; (try with_reducible rfl))
              (try simp only [Act.put, List.setIfInBounds_toArray, List.set_cons_zero, List.set_cons_succ])
              refine wpAnyH_take (i := 17) (oi := ⟨some 84, _, _, _, _, some (14, true)⟩) (v := ?v65) rfl (by kernel_rfl) (by kernel_rfl) (by kernel_rfl) (fun _ _ _ h => h) (Or.inl ⟨by rfl, ?hy65⟩) (by assumption) ?rest65
              case hy65 => (intro wS hSw; (try dsimp only at hSw); go_simp; (try with_reducible rfl))
              (try simp only [Act.put, List.setIfInBounds_toArray, List.set_cons_zero, List.set_cons_succ])
              refine wpAnyH_take (i := 18) (oi := ⟨some 85, _, _, _, _, some (14, true)⟩) (v := ?v66) rfl (by kernel_rfl) (by kernel_rfl) (by kernel_rfl) (fun _ _ _ h => h) (Or.inl ⟨by rfl, ?hy66⟩) (by assumption) ?rest66
              case hy66 => (intro wS hSw; (try dsimp only at hSw); go_simp; (try with_reducible rfl))
              (try simp only [Act.put, List.setIfInBounds_toArray, List.set_cons_zero, List.set_cons_succ])
              refine wpAnyH_take (i := 19) (oi := ⟨some 86, _, _, _, _, some (14, true)⟩) (v := ?v67) rfl (by kernel_rfl) (by kernel_rfl) (by kernel_rfl) (fun _ _ _ h => h) (Or.inl ⟨by rfl, ?hy67⟩) (by assumption) ?rest67
              case hy67 => (intro wS hSw; (try dsimp only at hSw); go_simp; (try with_reducible rfl))
              (try simp only [Act.put, List.setIfInBounds_toArray, List.set_cons_zero, List.set_cons_succ])
              refine wpAnyH_ready (rs := [20]) (by kernel_rfl) (by simp) ?_
              refine AllReadyH.cons (o := ⟨some 87, _, _, _, _, some (14, true)⟩) rfl (fun K hK => ?_) AllReadyH.nil
              go_simp
              go_at_call 16
              refine (HO2.out _).mono ?_
              rintro e w4 ⟨rfl, f4⟩
              go_wp2_with fail
              refine hK.out _ _ (by exact ⟨f4.at0 t0, f4.at0 t1, f4.at0 t2, f4.at0 u0, f4.at0 u1, f4.at0 u2⟩) (fun hHeld => ?_)
              clear hK K
              (try simp only [Act.put, List.setIfInBounds_toArray, List.set_cons_zero, List.set_cons_succ])
              refine wpAnyH_take (i := 21) (oi := ⟨some 88, _, _, _, _, some (14, true)⟩) (v := ?v68) rfl (by kernel_rfl) (by kernel_rfl) (by kernel_rfl) (fun _ _ _ h => h) (Or.inl ⟨by rfl, ?hy68⟩) (by assumption) ?rest68
              case hy68 => (intro wS hSw; (try dsimp only at hSw); go_simp; (try with_reducible rfl))
              (try simp only [Act.put, List.setIfInBounds_toArray, List.set_cons_zero, List.set_cons_succ])
              refine wpAnyH_take (i := 22) (oi := ⟨some 89, _, _, _, _, some (11, false)⟩) (v := ?v69) rfl (by kernel_rfl) (by kernel_rfl) (by kernel_rfl) (fun _ _ _ h => h) (Or.inl ⟨by rfl, ?hy69⟩) (by assumption) ?rest69
              case hy69 => (intro wS hSw; (try dsimp only at hSw); go_simp; (try with_reducible rfl))
              (try simp only [Act.put, List.setIfInBounds_toArray, List.set_cons_zero, List.set_cons_succ])
              refine wpAnyH_take (i := 23) (oi := ⟨some 90, _, _, _, _, none⟩) (v := ?v70) rfl (by kernel_rfl) (by kernel_rfl) (by kernel_rfl) (fun _ _ _ h => h) (Or.inl ⟨by rfl, ?hy70⟩) (by assumption) ?rest70
              case hy70 => (intro wS hSw; (try dsimp only at hSw); go_simp; (try with_reducible rfl))
              (try simp only [Act.put, List.setIfInBounds_toArray, List.set_cons_zero, List.set_cons_succ])
              refine wpAnyH_done (by kernel_rfl) ?_ _
              clear hHeld
              have FW := FV.trans f4
              have BB5 : Hid (ClB w4 D ⟨bn, bi, bt⟩) := Lib.hid (BB.out.fr FW (fun e => e))
              have CB5 := Lib.hid (CB.out.fr FW (fun e => e))
              have F5 := Lib.hid (FR.out.trans FW)
              have HB5 := Lib.hid (HBn.out)
              clear c0 c1 c2
              go_wp2
              go_roundw
              case rel => exact ⟨k + 1, _, by omega, by go_num, by rw [w6_wrap64, HSum.out], HB5, BB5, CB5, F5⟩
              case measure => simp [intOf]; omega
        · have hke2 : k = L.length := by omega
          rw [hke2] at HBe
          have hs3 : Hid (op = 3 → r = ⟨false, w6 (totC (L.take k)), []⟩) := Lib.hid (fun e => by rw [hke2]; exact HE3.out e)
          clear hke2 HE3
          generalize w6 (totC (L.take k)) = sk at *
          obtain ⟨bn, bi, bt⟩ := best
          have CBo : ClB wr g ⟨false, 0, []⟩ := CB.out
          have HF2 := Lib.hid (HF.out.trans FR.out)
          obtain ⟨u0, u1, u2, -⟩ := BB.out.facts
          dsimp only at u0 u1 u2
          rcases hop with rfl | rfl | rfl
          · have HE := Lib.hid (hs3.out rfl)
            clear HE4 HE5 hs3 HBe
            have CB6 := Lib.hid (setCl_B CBo false sk [])
            have F6 := Lib.hid (HF2.out.fresh (setCl_fr wr g false sk []) (fun k e => by have : k = g := e; have := HG.out; omega))
            obtain ⟨p0, p1, p2, z0, z1, z2⟩ := ClB.facts CBo
            dsimp only at p0 p1 p2
            go_wp2
            exact bodyPost_ret (v := clV ⟨false, sk, []⟩) (ret_cl (p := 4) rfl _ _ g ⟨false, sk, []⟩ (by rfl) CB6.out) rfl ⟨by rw [HE.out], F6.out⟩
          · have HE := Lib.hid (HE4.out rfl _ HBe.out)
            clear HE4 HE5 hs3 HBe
            have CB6 := Lib.hid (setCl_B CBo bn bi bt)
            have F6 := Lib.hid (HF2.out.fresh (setCl_fr wr g bn bi bt) (fun k e => by have : k = g := e; have := HG.out; omega))
            obtain ⟨p0, p1, p2, z0, z1, z2⟩ := ClB.facts CBo
            dsimp only at p0 p1 p2
            go_wp2
            exact bodyPost_ret (v := clV ⟨bn, bi, bt⟩) (ret_cl (p := 4) rfl _ _ g ⟨bn, bi, bt⟩ (by rfl) CB6.out) rfl ⟨by rw [HE.out], F6.out⟩
          · have HE := Lib.hid (HE5.out rfl _ HBe.out)
            clear HE4 HE5 hs3 HBe
            have CB6 := Lib.hid (setCl_B CBo bn bi bt)
            have F6 := Lib.hid (HF2.out.fresh (setCl_fr wr g bn bi bt) (fun k e => by have : k = g := e; have := HG.out; omega))
            obtain ⟨p0, p1, p2, z0, z1, z2⟩ := ClB.facts CBo
            dsimp only at p0 p1 p2
            go_wp2
            exact bodyPost_ret (v := clV ⟨bn, bi, bt⟩) (ret_cl (p := 4) rfl _ _ g ⟨bn, bi, bt⟩ (by rfl) CB6.out) rfl ⟨by rw [HE.out], F6.out⟩
end Go.Proofs.Ytincapmagennmaa


namespace Go.Proofs.Ytincapmagennmaa
set_option linter.unusedVariables false
set_option linter.unusedSimpArgs false
set_option maxRecDepth 100000
open Go.RowKit

section
variable {P : Program} {ops : Array Oper} {Q : Exit → Act → World → Prop} {md : Region.Mode} {S : World → Prop} {last : Nat}
/-- whatever order is picked; S holds behind every operation but 'last' -/
def wpAnyK (P : Program) (md : Region.Mode) (ops : Array Oper) (Q : Exit → Act → World → Prop) (S : World → Prop) (last : Nat) : Nat → Array Bool → Act → World → Prop
  | 0, listed, a, w => Region.ready md ops listed = [] ∧ Q .normal a w
  | fuel + 1, listed, a, w =>
    (Region.ready md ops listed = [] → Q .normal a w) ∧
    ∀ i ∈ Region.ready md ops listed, wpOp P ops Q i (fun a' w' => (i ≠ last → S w') ∧ wpAnyK P md ops Q S last fuel (listed.setIfInBounds i true) a' w') a w
theorem wpAny_of_K : ∀ (fuel : Nat) (listed : Array Bool) (a : Act) (w : World), wpAnyK P md ops Q S last fuel listed a w → wpAny P md ops Q fuel listed a w
  | 0, _, _, _, h => h
  | fuel + 1, _, _, _, h => ⟨h.1, fun i hi => wpOp_mono (fun a' w' h' => wpAny_of_K fuel _ a' w' h'.2) (h.2 i hi)⟩
theorem wpAnyK_first {i : Nat} {oi : Oper} {v : Value} (hi : ops[i]? = some oi) (hsel : ∀ (j : Nat) (o : Oper) cs b, ops[j]? = some o → o.op ≠ .select cs b)
    (hQ : ∀ c a w, Q (.panic c) (a.put oi.dst v) w → Q (.panic c) a w) (hw : Region.waitsFor md ops last i = true) (hl : i ≠ last) :
    ∀ (fuel : Nat) (listed : Array Bool) (a : Act) (w : World),
      (∀ j oj, ops[j]? = some oj → j ≠ i → listed.getD j true = false → (∀ e ∈ oj.after, Region.binds md e = true → e.on ≠ i) → oi.apart ops oj = true) →
      i ∈ Region.ready md ops listed → YieldsIf P ops S oi v a → S w →
      wpAnyK P md ops Q S last fuel (listed.setIfInBounds i true) (a.put oi.dst v) w → wpAnyK P md ops Q S last (fuel + 1) listed a w := by
  intro fuel
  induction fuel with
  | zero =>
    intro listed a w _ hr hy hS H
    refine ⟨fun h => (by rw [h] at hr; cases hr), fun j hj => ?_⟩
    by_cases hji : j = i
    · subst hji; exact hy.wpOp hi hS ⟨fun _ => hS, H⟩
    · have := ready_mono hj hji
      rw [H.1] at this
      cases this
  | succ fuel ih =>
    intro listed a w hfree hr hy hS H
    refine ⟨fun h => (by rw [h] at hr; cases hr), fun j hj => ?_⟩
    by_cases hji : j = i
    · subst hji; exact hy.wpOp hi hS ⟨fun _ => hS, H⟩
    · have h1 := H.2 j (ready_mono hj hji)
      obtain ⟨hjun, oj, hoj, hall⟩ := mem_ready.1 hj
      have hnot : ∀ e ∈ oj.after, Region.binds md e = true → e.on ≠ i := fun e he hb heq => by
        have h1 := hall e he hb
        have h0 := (mem_ready.1 hr).1
        rw [heq] at h1
        rcases Nat.lt_or_ge i listed.size with h' | h'
        · simp [h'] at h0 h1; rw [h0] at h1; cases h1
        · simp [Array.getElem?_eq_none h'] at h1
      have hjl : j ≠ last := by
        intro e
        subst e
        obtain ⟨oj', hj', e, he, hb, hon⟩ := Region.waitsFor_spec hw
        obtain rfl : oj' = oj := Option.some.inj (hj'.symm.trans hoj)
        exact hnot e he hb hon
      have h2 := wpOp_putIf hoj (hfree j oj hoj hji hjun hnot) (fun cs b => hsel i oi cs b hi) (fun cs b => hsel j oj cs b hoj) hQ hy h1
      have hfree' : ∀ k ok, ops[k]? = some ok → k ≠ i → (listed.setIfInBounds j true).getD k true = false →
          (∀ e ∈ ok.after, Region.binds md e = true → e.on ≠ i) → oi.apart ops ok = true := fun k ok hk hki hun hno => by
        refine hfree k ok hk hki ?_ hno
        by_cases hjk : j = k
        · subst hjk; exact hjun
        · rw [getD_set_ne true hjk] at hun; exact hun
      refine wpOp_mono (fun a' w' h3 => ⟨h3.2.1, ih (listed.setIfInBounds j true) a' w' hfree' (ready_mono hr (Ne.symm hji)) h3.1 (h3.2.1 hjl) ?_⟩) h2
      rw [Array.setIfInBounds_comm _ _ hji]
      exact h3.2.2
theorem wpAnyK_take {i : Nat} {oi : Oper} {v : Value} {fuel : Nat} {listed : Array Bool} {a : Act} {w : World} (hi : ops[i]? = some oi)
    (hs : Region.noSelect ops = true) (hf : Region.free md ops listed i = true) (hr : (Region.ready md ops listed).contains i = true)
    (hQ : ∀ c a w, Q (.panic c) (a.put oi.dst v) w → Q (.panic c) a w) (hw : Region.waitsFor md ops last i = true) (hl : i ≠ last) (hy : YieldsIf P ops S oi v a) (hS : S w)
    (h : wpAnyK P md ops Q S last fuel (listed.setIfInBounds i true) (a.put oi.dst v) w) : wpAnyK P md ops Q S last (fuel + 1) listed a w :=
  wpAnyK_first hi (Region.noSelect_spec hs) hQ hw hl fuel listed a w (Region.free_spec hi hf) (by simpa using hr) hy hS h
/-- the only operation that may come up now -/
theorem wpAnyK_one {i : Nat} {o : Oper} {fuel : Nat} {listed : Array Bool} {a : Act} {w : World} (hr : Region.ready md ops listed = [i]) (ho : ops[i]? = some o)
    (h : ∀ K' : Act → World → Prop, Shut (∀ a w, (i ≠ last → S w) → wpAnyK P md ops Q S last fuel (listed.setIfInBounds i true) a w → K' a w) → if Region.wanted o (yielded ops a.tmps) = true then Oper.wp P o a w K' Q else K' (a.put o.dst undef) w) :
    wpAnyK P md ops Q S last (fuel + 1) listed a w := by
  refine ⟨fun h0 => absurd (hr.symm.trans h0) (by simp), fun j hj => ?_⟩
  rw [hr] at hj
  obtain rfl := List.mem_singleton.1 hj
  exact wpOp_step ho (fun K' hK => h K' (fun a w hS hW => hK a w ⟨hS, hW⟩))
theorem wpAnyK_done {listed : Array Bool} {a : Act} {w : World} (hr : Region.ready md ops listed = []) (h : Q .normal a w) : ∀ fuel, wpAnyK P md ops Q S last fuel listed a w
  | 0 => ⟨hr, h⟩
  | _ + 1 => ⟨fun _ => h, by rw [hr]; simp⟩
theorem wp_region_K {id : Nat} {a : Act} {w : World} (S : World → Prop) (last : Nat) (hm : P.follows .mixedOrders = true)
    (h : wpAnyK P .any ops Q S last ops.size (Array.replicate ops.size false) a w.drew) : (Code.region id ops true).wp P Q a w :=
  wp_region_any hm (wpAny_of_K _ _ _ _ h)
end
end Go.Proofs.Ytincapmagennmaa


namespace Go.Proofs.Ytincapmagennmaa
set_option linter.unusedVariables false
set_option linter.unusedSimpArgs false
set_option maxRecDepth 100000
open Go.RowKit

set_option maxHeartbeats 4000000 in
theorem lfof_any (v : Value) (l : List Cl) (w : World) (hv : Cs w v l) (hl : l.length ≤ 1000000) :
    Calls Try.prog 8 #[v] w fun e w' => e = .returned (fsV (fsF (foC l))) ∧ Fr Non w w' := by
  obtain ⟨A, c, rfl⟩ := hv.shape
  have HV := Lib.hid hv
  clear hv
  obtain ⟨g, hg⟩ : ∃ g, w.heap.size = g := ⟨_, rfl⟩
  have hR : FsB (w.alloc (.cells #[.int .i64 0, .int .i64 0, .int .i64 0, .bool false, .bool false, .int .i64 0, .string ⟨([] : List UInt8).toArray⟩, .bool false, .int .i64 0, .string ⟨([] : List UInt8).toArray⟩] 28)) g ⟨0, 0, 0, false, ⟨false, 0, []⟩, ⟨false, 0, []⟩⟩ := fs_new w ⟨0, 0, 0, false, ⟨false, 0, []⟩, ⟨false, 0, []⟩⟩ g hg
  have f0 : Fr Non w (w.alloc (.cells #[.int .i64 0, .int .i64 0, .int .i64 0, .bool false, .bool false, .int .i64 0, .string ⟨([] : List UInt8).toArray⟩, .bool false, .int .i64 0, .string ⟨([] : List UInt8).toArray⟩] 28)) := (Fr.refl Non w).alloc _
  have HN := Lib.hid (fun W => fnew_any W)
  have HG := Lib.hid hg
  replace hR := Lib.hid hR
  replace f0 := Lib.hid f0
  unfold fsV noFs noCl fsC at HN
  dsimp only at HN
  go_enter Try.func8, Try.ntmps8
  go_wp2_with fail
  refine (HN.out _).mono ?_
  rintro e w1 ⟨rfl, f1⟩
  obtain ⟨D, hD⟩ : ∃ D, w1.heap.size = D := ⟨_, rfl⟩
  have hgD : g < D := by have := (hR.out.fr f1 (fun e => e)).lt; omega
  have SB0 : FsB (w1.alloc (.cells #[.int .i64 0, .int .i64 0, .int .i64 0, .bool false, .bool false, .int .i64 0, .string ⟨([] : List UInt8).toArray⟩, .bool false, .int .i64 0, .string ⟨([] : List UInt8).toArray⟩] 28)) D noFs := fs_new w1 noFs D hD
  have f2 : Fr Non w1 (w1.alloc (.cells #[.int .i64 0, .int .i64 0, .int .i64 0, .bool false, .bool false, .int .i64 0, .string ⟨([] : List UInt8).toArray⟩, .bool false, .int .i64 0, .string ⟨([] : List UInt8).toArray⟩] 28)) := (Fr.refl Non w1).alloc _
  have RB0 := Lib.hid ((hR.out.fr f1 (fun e => e)).fr f2 (fun e => e))
  have FF0 := Lib.hid ((f0.out.trans f1).trans f2)
  replace SB0 := Lib.hid SB0
  have HD := Lib.hid hD
  clear hR f0 f1 f2 HN
  go_wp2
  go_loopw [4] (fun i wr => ∃ (k : Nat), k ≤ l.length ∧ i = .int .i64 k ∧ Hid (FsB wr D (fsF (foC (l.take k)))) ∧ Hid (FsB wr g ⟨0, 0, 0, false, ⟨false, 0, []⟩, ⟨false, 0, []⟩⟩) ∧ Hid (Fr Non w wr)) (fun i _ => l.length - (intOf i).toNat)
  case atStart => exact ⟨0, Nat.zero_le _, rfl, SB0, RB0, FF0⟩
  case round =>
    clear SB0 RB0 FF0
    obtain ⟨k, hk, rfl, SB, RB, FR⟩ := hrel
    by_cases hlt : k < l.length
    · obtain ⟨a, rfl, -, -, hel⟩ := (HV.out.non FR.out).addr (show 0 < l.length by omega)
      obtain ⟨t0, t1, t2⟩ := (hel k hlt).lit
      have HT := Lib.hid (fsF_snoc (l.take k) l[k] (by rw [List.length_take]; omega))
      have HC0 := Lib.hid (fun W => fadd_any (fsF (foC (l.take k))) l[k] W)
      have HE : Hid (fsF (foC (l.take k ++ [l[k]])) = fsF (foC (l.take (k + 1)))) := Lib.hid (by rw [List.take_succ_eq_append_getElem hlt])
      rw [HT.out, HE.out] at HC0
      clear hel HT HE
      obtain ⟨r, hr⟩ : ∃ r, fsF (foC (l.take (k + 1))) = r := ⟨_, rfl⟩
      rw [hr] at HC0
      replace hr := Lib.hid hr
      generalize fsF (foC (l.take k)) = x at *
      generalize l[k] = q at *
      obtain ⟨cn, ci, ct⟩ := q
      obtain ⟨xc, xh, xu, xs, ⟨xln, xli, xlt⟩, ⟨xhn, xhi, xht⟩⟩ := x
      obtain ⟨rc, rh, ru, rs, ⟨rln, rli, rlt⟩, ⟨rhn, rhi, rht⟩⟩ := r
      have HC := HC0
      clear HC0
      unfold fsV fsC clV clC at HC
      dsimp only at *
      obtain ⟨s0, s1, s2, s3, s4, s5, s6, s7, s8, s9⟩ := fsB_cells SB.out
      dsimp only at s0 s1 s2 s3 s4 s5 s6 s7 s8 s9
      go_wp2
      refine wp_region_K (fun W' => W'.cell? ⟨D, 0, none⟩ = some (.int .i64 xc) ∧ W'.cell? ⟨D, 1, none⟩ = some (.int .i64 xh) ∧ W'.cell? ⟨D, 2, none⟩ = some (.int .i64 xu) ∧ W'.cell? ⟨D, 3, none⟩ = some (.bool xs) ∧ W'.cell? ⟨D, 4, none⟩ = some (.bool xln) ∧ W'.cell? ⟨D, 5, none⟩ = some (.int .i64 xli) ∧ W'.cell? ⟨D, 6, none⟩ = some (.string ⟨xlt.toArray⟩) ∧ W'.cell? ⟨D, 7, none⟩ = some (.bool xhn) ∧ W'.cell? ⟨D, 8, none⟩ = some (.int .i64 xhi) ∧ W'.cell? ⟨D, 9, none⟩ = some (.string ⟨xht.toArray⟩) ∧ W'.cell? (a.add (k * 3)) = some (.bool cn) ∧ W'.cell? { block := (a.add (k * 3)).block, off := (a.add (k * 3)).off + 1 } = some (.int .i64 ci) ∧ W'.cell? { block := (a.add (k * 3)).block, off := (a.add (k * 3)).off + 2 } = some (.string ⟨ct.toArray⟩)) 6 (by kernel_rfl) ?_
      obtain ⟨V, hV⟩ : ∃ V, V = wr.drew := ⟨_, rfl⟩
      rw [← hV]
      have FV : Fr Non wr V := by rw [hV]; exact (Fr.refl Non wr).drew
      clear hV
      have hHeld : (fun W' : World => W'.cell? ⟨D, 0, none⟩ = some (.int .i64 xc) ∧ W'.cell? ⟨D, 1, none⟩ = some (.int .i64 xh) ∧ W'.cell? ⟨D, 2, none⟩ = some (.int .i64 xu) ∧ W'.cell? ⟨D, 3, none⟩ = some (.bool xs) ∧ W'.cell? ⟨D, 4, none⟩ = some (.bool xln) ∧ W'.cell? ⟨D, 5, none⟩ = some (.int .i64 xli) ∧ W'.cell? ⟨D, 6, none⟩ = some (.string ⟨xlt.toArray⟩) ∧ W'.cell? ⟨D, 7, none⟩ = some (.bool xhn) ∧ W'.cell? ⟨D, 8, none⟩ = some (.int .i64 xhi) ∧ W'.cell? ⟨D, 9, none⟩ = some (.string ⟨xht.toArray⟩) ∧ W'.cell? (a.add (k * 3)) = some (.bool cn) ∧ W'.cell? { block := (a.add (k * 3)).block, off := (a.add (k * 3)).off + 1 } = some (.int .i64 ci) ∧ W'.cell? { block := (a.add (k * 3)).block, off := (a.add (k * 3)).off + 2 } = some (.string ⟨ct.toArray⟩)) V := (by exact ⟨FV.at0 s0, FV.at0 s1, FV.at0 s2, FV.at0 s3, FV.at0 s4, FV.at0 s5, FV.at0 s6, FV.at0 s7, FV.at0 s8, FV.at0 s9, FV.at0 t0, FV.at0 t1, FV.at0 t2⟩)
      refine wpAnyK_take (i := 0) (oi := ⟨some 12, _, _, _, _, none⟩) (v := ?v1) rfl (by kernel_rfl) (by kernel_rfl) (by kernel_rfl) (fun _ _ _ h => h) (by kernel_rfl) (by decide) (Or.inl ⟨by rfl, ?hy1⟩) (by assumption) ?rest1
      case hy1 => (intro wS hSw; (try dsimp only at hSw); go_simp; (try with_reducible rfl))
      (try simp only [Act.put, List.setIfInBounds_toArray, List.set_cons_zero, List.set_cons_succ])
      refine wpAnyK_take (i := 1) (oi := ⟨some 13, _, _, _, _, none⟩) (v := ?v2) rfl (by kernel_rfl) (by kernel_rfl) (by kernel_rfl) (fun _ _ _ h => h) (by kernel_rfl) (by decide) (Or.inl ⟨by rfl, ?hy2⟩) (by assumption) ?rest2
      case hy2 => (intro wS hSw; (try dsimp only at hSw); go_simp; (try with_reducible rfl))
      (try simp only [Act.put, List.setIfInBounds_toArray, List.set_cons_zero, List.set_cons_succ])
      refine wpAnyK_take (i := 2) (oi := ⟨some 14, _, _, _, _, none⟩) (v := ?v3) rfl (by kernel_rfl) (by kernel_rfl) (by kernel_rfl) (fun _ _ _ h => h) (by kernel_rfl) (by decide) (Or.inl ⟨by rfl, ?hy3⟩) (by assumption) ?rest3
      case hy3 => (intro wS hSw; (try dsimp only at hSw); go_simp; (try with_reducible rfl))
      (try simp only [Act.put, List.setIfInBounds_toArray, List.set_cons_zero, List.set_cons_succ])
      refine wpAnyK_take (i := 3) (oi := ⟨some 15, _, _, _, _, none⟩) (v := ?v4) rfl (by kernel_rfl) (by kernel_rfl) (by kernel_rfl) (fun _ _ _ h => h) (by kernel_rfl) (by decide) (Or.inl ⟨by rfl, ?hy4⟩) (by assumption) ?rest4
      case hy4 => (intro wS hSw; (try dsimp only at hSw); go_simp; (try with_reducible rfl))
      (try simp only [Act.put, List.setIfInBounds_toArray, List.set_cons_zero, List.set_cons_succ])
      refine wpAnyK_take (i := 4) (oi := ⟨some 16, _, _, _, _, none⟩) (v := ?v5) rfl (by kernel_rfl) (by kernel_rfl) (by kernel_rfl) (fun _ _ _ h => h) (by kernel_rfl) (by decide) (Or.inl ⟨by rfl, ?hy5⟩) (by assumption) ?rest5
      case hy5 => (intro wS hSw; (try dsimp only at hSw); go_simp; (try with_reducible rfl))
      (try simp only [Act.put, List.setIfInBounds_toArray, List.set_cons_zero, List.set_cons_succ])
      refine wpAnyK_one (i := 5) (o := ⟨some 17, _, _, _, _, none⟩) (by kernel_rfl) rfl (fun K hK => ?_)
      go_simp
      go_at_call 14
      refine (HC.out _).mono ?_
      rintro e X2 ⟨rfl, fX⟩
      have fX' := FV.trans fX
      go_wp2_with fail
      refine hK.out _ _ (fun _ => (by exact ⟨fX'.at0 s0, fX'.at0 s1, fX'.at0 s2, fX'.at0 s3, fX'.at0 s4, fX'.at0 s5, fX'.at0 s6, fX'.at0 s7, fX'.at0 s8, fX'.at0 s9, fX'.at0 t0, fX'.at0 t1, fX'.at0 t2⟩)) ?_
      clear hK K
      (try simp only [Act.put, List.setIfInBounds_toArray, List.set_cons_zero, List.set_cons_succ])
      have RV : FsB X2 D ⟨xc, xh, xu, xs, ⟨xln, xli, xlt⟩, ⟨xhn, xhi, xht⟩⟩ := SB.out.fr fX' (fun e => e)
      obtain ⟨p0, p1, p2, p3, p4, p5, p6, p7, p8, p9⟩ := fsB_cells RV
      obtain ⟨z0, z1, z2, z3, z4, z5, z6, z7, z8, z9⟩ := fsB_froz RV
      dsimp only at p0 p1 p2 p3 p4 p5 p6 p7 p8 p9
      obtain ⟨W6, hW6⟩ : ∃ W, W = setFs X2 D ⟨rc, rh, ru, rs, ⟨rln, rli, rlt⟩, ⟨rhn, rhi, rht⟩⟩ := ⟨_, rfl⟩
      have w6f : Fr (One D) X2 W6 := by rw [hW6]; exact setFs_fr _ _ _
      have J6 := setFs_B RV ⟨rc, rh, ru, rs, ⟨rln, rli, rlt⟩, ⟨rhn, rhi, rht⟩⟩
      rw [← hW6] at J6
      unfold setFs setFsN setFsL setFsH at hW6
      dsimp only at hW6
      refine wpAnyK_one (i := 6) (o := ⟨none, _, _, _, _, none⟩) (by kernel_rfl) rfl (fun K hK => ?_)
      go_simp
      rw [← hW6]
      clear hW6 p0 p1 p2 p3 p4 p5 p6 p7 p8 p9 z0 z1 z2 z3 z4 z5 z6 z7 z8 z9
      refine hK.out _ _ (fun h => absurd h (by simp)) ?_
      clear hK K
      (try simp only [Act.put, List.setIfInBounds_toArray, List.set_cons_zero, List.set_cons_succ])
      refine wpAnyK_done (by kernel_rfl) ?_ _
      clear hHeld RV s0 s1 s2 s3 s4 s5 s6 s7 s8 s9 t0 t1 t2
      replace J6 := Lib.hid J6
      replace w6f := Lib.hid w6f
      replace fX := Lib.hid fX'
      clear fX' FV
      have F6 := Lib.hid (FR.out.fresh (fX.out.any.trans w6f.out) (fun q e => by have : q = D := e; have := HG.out; omega))
      have RB6 := Lib.hid ((RB.out.fr fX.out (fun e => e)).fr w6f.out (fun e => by have : g = D := e; omega))
      clear RB FR SB fX w6f
      go_wp2
      go_roundw
      case rel => exact ⟨k + 1, by omega, by go_num, by rw [hr.out]; exact J6, RB6, F6⟩
      case measure => simp [intOf]; omega
    · have hke : k = l.length := by omega
      rw [hke, List.take_length] at SB
      obtain ⟨x, hx⟩ : ∃ x, fsF (foC l) = x := ⟨_, rfl⟩
      rw [hx] at SB
      replace hx := Lib.hid hx
      obtain ⟨xc, xh, xu, xs, ⟨xln, xli, xlt⟩, ⟨xhn, xhi, xht⟩⟩ := x
      obtain ⟨s0, s1, s2, s3, s4, s5, s6, s7, s8, s9⟩ := fsB_cells SB.out
      obtain ⟨p0, p1, p2, p3, p4, p5, p6, p7, p8, p9⟩ := fsB_cells RB.out
      obtain ⟨z0, z1, z2, z3, z4, z5, z6, z7, z8, z9⟩ := fsB_froz RB.out
      dsimp only at s0 s1 s2 s3 s4 s5 s6 s7 s8 s9 p0 p1 p2 p3 p4 p5 p6 p7 p8 p9
      have HE := Lib.hid (setFs_B RB.out ⟨xc, xh, xu, xs, ⟨xln, xli, xlt⟩, ⟨xhn, xhi, xht⟩⟩)
      have FE := Lib.hid (FR.out.fresh (setFs_fr wr g ⟨xc, xh, xu, xs, ⟨xln, xli, xlt⟩, ⟨xhn, xhi, xht⟩⟩) (fun q e => by have : q = g := e; have := HG.out; omega))
      unfold setFs setFsN setFsL setFsH at HE FE
      dsimp only at HE FE
      clear hke SB RB FR HV
      go_wp2
      exact bodyPost_ret (v := fsV ⟨xc, xh, xu, xs, ⟨xln, xli, xlt⟩, ⟨xhn, xhi, xht⟩⟩) (ret_fs (p := 2) rfl _ _ g ⟨xc, xh, xu, xs, ⟨xln, xli, xlt⟩, ⟨xhn, xhi, xht⟩⟩ (by rfl) HE.out) rfl ⟨by rw [hx.out], FE.out⟩

theorem clf_num (n : Bool) (i : Int) (t : ByteArray) (W : World) : (Instr.field 26 (.agg #[.bool n, .int .i64 i, .string t]) 1).run Try.prog W = .ok (.int .i64 i) W := by kernel_rfl
theorem ex22 : fsF (foC [⟨false, 5, []⟩, ⟨true, 0, []⟩, ⟨false, 7, []⟩]) = ⟨3, 2, 12, true, ⟨false, 5, []⟩, ⟨false, 7, []⟩⟩ := by decide +kernel
set_option maxHeartbeats 2000000 in
theorem live22_any (w : World) : Calls Try.prog 7 #[] w fun e w' => e = .returned (.bool true) ∧ Fr Non w w' := by
  obtain ⟨W0, hW0⟩ : ∃ W, W = w.alloc (.cells #[.bool false, .int .i64 5, .string ⟨#[]⟩, .bool true, .int .i64 0, .string ⟨#[]⟩, .bool false, .int .i64 7, .string ⟨#[]⟩] 26) := ⟨_, rfl⟩
  have hO : Oc W0 0 (.slice (some ⟨w.heap.size, 0, none⟩) 3 3) [⟨false, 5, []⟩, ⟨true, 0, []⟩, ⟨false, 7, []⟩] := by rw [hW0]; exact oc_lit w 0 _ [⟨false, 5, []⟩, ⟨true, 0, []⟩, ⟨false, 7, []⟩] _ rfl rfl (Nat.zero_le _) (by decide)
  have F0 : Fr Non w W0 := by rw [hW0]; exact (Fr.refl Non w).alloc _
  have HO := lfof_any _ _ _ hO.cs (by decide)
  rw [ex22] at HO
  replace HO := Lib.hid HO
  clear hO
  replace F0 := Lib.hid F0
  have V1 : Hid (∀ W, Calls Try.prog 9 #[fsV ⟨3, 2, 12, true, ⟨false, 5, []⟩, ⟨false, 7, []⟩⟩, .int .i64 1] W fun e w' => e = .returned (clV ⟨false, 3, []⟩) ∧ Fr Non W w') := Lib.hid (fun W => fval_any 1 ⟨3, 2, 12, true, ⟨false, 5, []⟩, ⟨false, 7, []⟩⟩ W)
  have V2 : Hid (∀ W, Calls Try.prog 9 #[fsV ⟨3, 2, 12, true, ⟨false, 5, []⟩, ⟨false, 7, []⟩⟩, .int .i64 2] W fun e w' => e = .returned (clV ⟨false, 2, []⟩) ∧ Fr Non W w') := Lib.hid (fun W => fval_any 2 ⟨3, 2, 12, true, ⟨false, 5, []⟩, ⟨false, 7, []⟩⟩ W)
  have V3 : Hid (∀ W, Calls Try.prog 9 #[fsV ⟨3, 2, 12, true, ⟨false, 5, []⟩, ⟨false, 7, []⟩⟩, .int .i64 3] W fun e w' => e = .returned (clV ⟨false, 12, []⟩) ∧ Fr Non W w') := Lib.hid (fun W => fval_any 3 ⟨3, 2, 12, true, ⟨false, 5, []⟩, ⟨false, 7, []⟩⟩ W)
  have V4 : Hid (∀ W, Calls Try.prog 9 #[fsV ⟨3, 2, 12, true, ⟨false, 5, []⟩, ⟨false, 7, []⟩⟩, .int .i64 4] W fun e w' => e = .returned (clV ⟨false, 5, []⟩) ∧ Fr Non W w') := Lib.hid (fun W => fval_any 4 ⟨3, 2, 12, true, ⟨false, 5, []⟩, ⟨false, 7, []⟩⟩ W)
  have V5 : Hid (∀ W, Calls Try.prog 9 #[fsV ⟨3, 2, 12, true, ⟨false, 5, []⟩, ⟨false, 7, []⟩⟩, .int .i64 5] W fun e w' => e = .returned (clV ⟨false, 7, []⟩) ∧ Fr Non W w') := Lib.hid (fun W => fval_any 5 ⟨3, 2, 12, true, ⟨false, 5, []⟩, ⟨false, 7, []⟩⟩ W)
  have VT : Hid (∀ W, Calls Try.prog 11 #[.int .i64 4, .int .i64 3] W fun e w' => e = .returned (.int .i64 3) ∧ W = w') := Lib.hid (fun W => ftype_any 4 3 W)
  have hcf := clf_num
  unfold fsV fsC clV clC at *
  dsimp only at *
  go_enter Try.func7, Try.ntmps7
  go_wp2_with fail
  rw [← hW0]
  clear hW0
  refine HO.out.mono ?_
  rintro e w1 ⟨rfl, f1⟩
  obtain ⟨D, hD⟩ : ∃ D, w1.heap.size = D := ⟨_, rfl⟩
  have SB : FsB (w1.alloc (.cells #[.int .i64 3, .int .i64 2, .int .i64 12, .bool true, .bool false, .int .i64 5, .string ⟨#[]⟩, .bool false, .int .i64 7, .string ⟨#[]⟩] 28)) D ⟨3, 2, 12, true, ⟨false, 5, []⟩, ⟨false, 7, []⟩⟩ := fs_new w1 ⟨3, 2, 12, true, ⟨false, 5, []⟩, ⟨false, 7, []⟩⟩ D hD
  have FF := (F0.out.trans f1).alloc (.cells #[.int .i64 3, .int .i64 2, .int .i64 12, .bool true, .bool false, .int .i64 5, .string ⟨#[]⟩, .bool false, .int .i64 7, .string ⟨#[]⟩] 28)
  replace SB := Lib.hid SB
  replace FF := Lib.hid FF
  clear f1 HO F0
  obtain ⟨s0, s1, s2, s3, s4, s5, s6, s7, s8, s9⟩ := fsB_cells SB.out
  dsimp only at s0 s1 s2 s3 s4 s5 s6 s7 s8 s9
  go_wp2_with fail
  refine (V1.out _).mono ?_
  rintro e x1 ⟨rfl, f1⟩
  replace SB : Hid (FsB x1 D ⟨3, 2, 12, true, ⟨false, 5, []⟩, ⟨false, 7, []⟩⟩) := Lib.hid (SB.out.fr f1 (fun e => e))
  replace FF := Lib.hid (FF.out.trans f1)
  clear s0 s1 s2 s3 s4 s5 s6 s7 s8 s9 f1 V1
  obtain ⟨s0, s1, s2, s3, s4, s5, s6, s7, s8, s9⟩ := fsB_cells SB.out
  dsimp only at s0 s1 s2 s3 s4 s5 s6 s7 s8 s9
  go_wp2_with fail
  refine (V2.out _).mono ?_
  rintro e x2 ⟨rfl, f2⟩
  replace SB : Hid (FsB x2 D ⟨3, 2, 12, true, ⟨false, 5, []⟩, ⟨false, 7, []⟩⟩) := Lib.hid (SB.out.fr f2 (fun e => e))
  replace FF := Lib.hid (FF.out.trans f2)
  clear s0 s1 s2 s3 s4 s5 s6 s7 s8 s9 f2 V2
  obtain ⟨s0, s1, s2, s3, s4, s5, s6, s7, s8, s9⟩ := fsB_cells SB.out
  dsimp only at s0 s1 s2 s3 s4 s5 s6 s7 s8 s9
  go_wp2_with fail
  refine (V3.out _).mono ?_
  rintro e x3 ⟨rfl, f3⟩
  replace SB : Hid (FsB x3 D ⟨3, 2, 12, true, ⟨false, 5, []⟩, ⟨false, 7, []⟩⟩) := Lib.hid (SB.out.fr f3 (fun e => e))
  replace FF := Lib.hid (FF.out.trans f3)
  clear s0 s1 s2 s3 s4 s5 s6 s7 s8 s9 f3 V3
  obtain ⟨s0, s1, s2, s3, s4, s5, s6, s7, s8, s9⟩ := fsB_cells SB.out
  dsimp only at s0 s1 s2 s3 s4 s5 s6 s7 s8 s9
  go_wp2_with fail
  refine (V4.out _).mono ?_
  rintro e x4 ⟨rfl, f4⟩
  replace SB : Hid (FsB x4 D ⟨3, 2, 12, true, ⟨false, 5, []⟩, ⟨false, 7, []⟩⟩) := Lib.hid (SB.out.fr f4 (fun e => e))
  replace FF := Lib.hid (FF.out.trans f4)
  clear s0 s1 s2 s3 s4 s5 s6 s7 s8 s9 f4 V4
  obtain ⟨s0, s1, s2, s3, s4, s5, s6, s7, s8, s9⟩ := fsB_cells SB.out
  dsimp only at s0 s1 s2 s3 s4 s5 s6 s7 s8 s9
  go_wp2_with fail
  refine (V5.out _).mono ?_
  rintro e x5 ⟨rfl, f5⟩
  replace SB : Hid (FsB x5 D ⟨3, 2, 12, true, ⟨false, 5, []⟩, ⟨false, 7, []⟩⟩) := Lib.hid (SB.out.fr f5 (fun e => e))
  replace FF := Lib.hid (FF.out.trans f5)
  clear s0 s1 s2 s3 s4 s5 s6 s7 s8 s9 f5 V5
  go_wp2_with fail
  refine (VT.out _).mono ?_
  rintro e w7 ⟨rfl, rfl⟩
  go_wp2
  go_ret
  exact ⟨rfl, FF.out⟩
end Go.Proofs.Ytincapmagennmaa


namespace Go.Proofs.Ytincapmagennmaa
set_option linter.unusedVariables false
set_option linter.unusedSimpArgs false
set_option maxRecDepth 100000
open Go.RowKit

set_option maxHeartbeats 1000000 in
theorem smallC_any (v : Value) (l : List Cl) (w : World) (hv : Cs w v l) :
    Calls Try.prog 6 #[v] w fun e w' => ∃ b, e = .returned (.bool b) ∧ (b = true → l.length ≤ 100) ∧ Fr Non w w' := by
  obtain ⟨A, c, rfl, hlc, hn, hcell⟩ := hv
  have HC := Lib.hid hcell
  have HN := Lib.hid hn
  clear hcell hn
  go_enter Try.func6, Try.ntmps6
  go_wp2
  go_loopw [3] (fun i wr => ∃ (k : Nat), k ≤ l.length ∧ k ≤ 200 ∧ i = .int .i64 k ∧ Fr Non w wr) (fun i _ => 200 - (intOf i).toNat)
  case atStart => exact ⟨0, Nat.zero_le _, Nat.zero_le _, rfl, Fr.refl _ _⟩
  case round =>
    obtain ⟨k, hk, hk2, rfl, hfr⟩ := hrel
    by_cases hlt : k < l.length
    · by_cases h200 : k < 200
      · cases A with
        | none => have := HN.out rfl; omega
        | some a =>
          obtain ⟨hc0, hc1, hc2⟩ := (hfr.at3 (HC.out a rfl k hlt)).lit
          generalize l[k] = x at *
          obtain ⟨xn, xi, xt⟩ := x
          dsimp only at hc0 hc1 hc2
          have hs := slen xt
          by_cases hx : 60 < xt.length
          · go_wp2
            go_ret
            exact ⟨false, rfl, (fun h => by cases h), hfr⟩
          · go_wp2
            go_roundw
            case rel => exact ⟨k + 1, by omega, by omega, by go_num, hfr⟩
            case measure => simp [intOf]; omega
      · go_wp2
        go_ret
        exact ⟨_, rfl, (fun h => by have := of_decide_eq_true h; omega), hfr⟩
    · go_wp2
      go_ret
      exact ⟨_, rfl, (fun h => by have := of_decide_eq_true h; omega), hfr⟩
end Go.Proofs.Ytincapmagennmaa


namespace Go.Proofs.Ytincapmagennmaa
set_option linter.unusedVariables false
set_option linter.unusedSimpArgs false
set_option maxRecDepth 100000
open Go.RowKit

/-- append of a slice of cells onto a row of the call's own: the operation alone -/
theorem wp_appC {w : World} {o : Oper} {a : Act} {K : Act → World → Prop} {Q : Exit → Act → World → Prop} (s x : Operand)
    (ho : o.op = .call { callee := .builtin .append, args := #[s, x], argTypes := #[22, 22] })
    (B : Nat) (v y : Value) (l m : List Cl) (hs : a.eval s = v) (hown : Oc w B v l) (hx : a.eval x = y) (hy : Cs w y m)
    (hl : l.length + m.length < 4398046511104) (hB : B ≤ w.heap.size)
    (h : ∀ v' w', Oc w' B v' (l ++ m) → Fr (fun k => v.ownBlock = some k) w w' → K (a.put o.dst v') w') : o.wp Try.prog a w K Q := by
  obtain ⟨ii, hi, hz0, hz1, hz2⟩ := info_parts info_cl
  obtain ⟨A, c, rfl, hmc, hn, hcells⟩ := hy
  cases A with
  | some ad =>
    refine wp_append_own w s x _ ho B 26 ii _ 3 32 Try.underlying22 hi hz0 hz1 hz2 rfl (by omega) v l.length (clsL l) hs hown ad m.length c (clsL m) hx (clsL_len m) ?_ (clsL_one' m) (by unfold maxLen; omega) (by omega) hB ?_
    · intro j u hu
      have hj : j < m.length * 3 := by rw [← clsL_len]; exact (List.getElem?_eq_some_iff.1 hu).1
      have hat := clsL_at m (j / 3) (j % 3) (by omega) (Nat.mod_lt _ (by omega))
      rw [show j / 3 * 3 + j % 3 = j by omega, hu] at hat
      have h3 := hcells ad rfl (j / 3) (by omega)
      have e : ad.add j = (ad.add (j / 3 * 3)).add (j % 3) := by rw [add_add, show j / 3 * 3 + j % 3 = j by omega]
      rw [e]
      have hm : j % 3 = 0 ∨ j % 3 = 1 ∨ j % 3 = 2 := by omega
      rcases hm with hm | hm | hm <;> rw [hm] at hat ⊢
      · have := h3.c0; simp [clL] at hat; rw [hat, show ∀ p : Addr, p.add 0 = p from fun p => by simp [Addr.add]]; exact this
      · have := h3.c1; simp [clL] at hat; rw [hat]; exact this
      · have := h3.c2; simp [clL] at hat; rw [hat]; exact this
    · intro v' w' h1 h2 _
      refine h v' w' ?_ (Fr.of_grown h2)
      unfold Oc
      rw [clsL_app, List.length_append]
      exact h1
  | none =>
    have hm : m = [] := List.eq_nil_of_length_eq_zero (by have := hn rfl; omega)
    subst hm
    have hc : c = 0 := hn rfl
    subst hc
    have hrun := run_append_owned_none (P := Try.prog) (w := w) B 22 o.type 26 ii 3 Try.underlying22 hi v l.length (clsL l) hown
    unfold Oper.wp
    have hx' : a.eval x = .slice none 0 0 := hx
    simp [execOp, ho, resolve, invoke, builtin, hs, hx', hrun, Result.andThen]
    exact h v w (by simpa using hown) (Fr.refl _ _)
/-- .. as a step, guarded or not -/
theorem wpList_appC {w : World} {ops : Array Oper} {rest : List Oper} {o : Oper} {a : Act} {Q : Exit → Act → World → Prop} (hw : Region.wanted o (yielded ops a.tmps) = true) (s x : Operand)
    (ho : o.op = .call { callee := .builtin .append, args := #[s, x], argTypes := #[22, 22] })
    (B : Nat) (v y : Value) (l m : List Cl) (hs : a.eval s = v) (hown : Oc w B v l) (hx : a.eval x = y) (hy : Cs w y m)
    (hl : l.length + m.length < 4398046511104) (hB : B ≤ w.heap.size)
    (h : ∀ v' w', Oc w' B v' (l ++ m) → Fr (fun k => v.ownBlock = some k) w w' → wpList Try.prog ops Q rest (a.put o.dst v') w') : wpList Try.prog ops Q (o :: rest) a w :=
  BigFrame.wpList_want hw fun _ hK => wp_appC s x ho B v y l m hs hown hx hy hl hB fun v' w' h1 h2 => hK _ _ (h v' w' h1 h2)
end Go.Proofs.Ytincapmagennmaa


namespace Go.Proofs.Ytincapmagennmaa
set_option linter.unusedVariables false
set_option linter.unusedSimpArgs false
set_option maxRecDepth 100000
open Go.RowKit

set_option maxHeartbeats 8000000 in
theorem foldJoins_walk (v1 v2 v3 : Value) (a b c : List Cl) (w : World) (h1 : Cs w v1 a) (h2 : Cs w v2 b) (h3 : Cs w v3 c) :
    Calls Try.prog 4 #[v1, v2, v3] w fun e w' => e = .returned (.bool true) ∧ Below w.heap.size w w' := by
  obtain ⟨A1, c1, rfl⟩ := h1.shape
  obtain ⟨A2, c2, rfl⟩ := h2.shape
  obtain ⟨A3, c3, rfl⟩ := h3.shape
  have H1 := Lib.hid h1
  have H2 := Lib.hid h2
  have H3 := Lib.hid h3
  clear h1 h2 h3
  go_enter Try.func4, Try.ntmps4
  go_wp2_with fail
  refine (smallC_any _ a w H1.out).mono ?_
  rintro e w1 ⟨s1, rfl, hs1, f1⟩
  cases s1
  · clear hs1
    go_wp2_with fail
    refine (live22_any _).mono ?_
    rintro e wl ⟨rfl, fl⟩
    go_wp2
    go_ret
    exact ⟨rfl, (f1.trans fl).below⟩
  · have ha := hs1 rfl
    clear hs1
    have hc2 := Lib.hid (H2.out.non f1)
    replace f1 := Lib.hid f1
    go_wp2_with fail
    refine (smallC_any _ b w1 hc2.out).mono ?_
    rintro e w2 ⟨s2, rfl, hs2, f2⟩
    replace f2 := Lib.hid (f1.out.trans f2)
    clear f1 hc2
    cases s2
    · clear hs2
      go_wp2_with fail
      refine (live22_any _).mono ?_
      rintro e wl ⟨rfl, fl⟩
      go_wp2
      go_ret
      exact ⟨rfl, (f2.out.trans fl).below⟩
    · have hb := hs2 rfl
      clear hs2
      have hc3 := Lib.hid (H3.out.non f2.out)
      go_wp2_with fail
      refine (smallC_any _ c w2 hc3.out).mono ?_
      rintro e w3 ⟨s3, rfl, hs3, f3⟩
      replace f3 := Lib.hid (f2.out.trans f3)
      clear f2 hc3
      cases s3
      · clear hs3
        go_wp2_with fail
        refine (live22_any _).mono ?_
        rintro e wl ⟨rfl, fl⟩
        go_wp2
        go_ret
        exact ⟨rfl, (f3.out.trans fl).below⟩
      · have hc := hs3 rfl
        clear hs3
        have h1 := Lib.hid (H1.out.non (f3.out.alloc (.cells #[] 26)))
        have hO : Hid (Oc (w3.alloc (.cells #[] 26)) w3.heap.size (.slice (some ⟨w3.heap.size, 0, none⟩) 0 0) []) := Lib.hid (oc_lit0 w3 w3.heap.size w3.heap.size rfl (Nat.le_refl _))
        have FA := Lib.hid (f3.out.alloc (.cells #[] 26))
        have FW := Lib.hid f3.out.size
        clear f3
        have L1 := Lib.hid (fun W (hc : Cs W (.slice A1 a.length c1) a) => lfof_any _ a W hc (by omega))
        have L2 := Lib.hid (fun W (hc : Cs W (.slice A2 b.length c2) b) => lfof_any _ b W hc (by omega))
        have L3 := Lib.hid (fun W (hc : Cs W (.slice A3 c.length c3) c) => lfof_any _ c W hc (by omega))
        have J1 := Lib.hid (fun W => fjoin_any (fsF (foC a)) (fsF (foC b)) W)
        have J2 := Lib.hid (fun W => fjoin_any (fsF (foC (a ++ b))) (fsF (foC c)) W)
        have J3 := Lib.hid (fun W => fjoin_any (fsF (foC b)) (fsF (foC c)) W)
        have J4 := Lib.hid (fun W => fjoin_any (fsF (foC a)) (fsF (foC (b ++ c))) W)
        rw [fsF_app a b (by omega) (by omega)] at J1
        rw [fsF_app (a ++ b) c (by simp; omega) (by omega)] at J2
        rw [fsF_app b c (by omega) (by omega)] at J3
        rw [fsF_app a (b ++ c) (by omega) (by simp; omega), ← List.append_assoc] at J4
        have HV := Lib.hid (fun k W => fval_any k (fsF (foC (a ++ b ++ c))) W)
        have HR := Lib.hid (fun (k : Int) (v : Value) W (hc : Cs W v ((([] ++ a) ++ b) ++ c)) => rval22_any k v _ W hc (by simp; omega))
        rw [show (([] ++ a) ++ b) ++ c = a ++ b ++ c by simp] at HR
        have HE : Hid ((([] ++ a) ++ b) ++ c = a ++ b ++ c) := Lib.hid (by simp)
        have hV : ∀ k, valS k (fsF (foC (a ++ b ++ c))) = valF k (foC (a ++ b ++ c)) := fun k => valS_F k _
        obtain ⟨N, hN⟩ : ∃ N : Int → Cl, ∀ k, valF k (foC (a ++ b ++ c)) = N k := ⟨_, fun _ => rfl⟩
        simp only [hV, hN] at HV HR
        clear hV hN
        generalize fsV (fsF (foC a)) = sa at *
        generalize fsV (fsF (foC b)) = sb at *
        generalize fsV (fsF (foC c)) = sc at *
        generalize fsV (fsF (foC (a ++ b))) = sab at *
        generalize fsV (fsF (foC (b ++ c))) = sbc at *
        generalize fsF (foC (a ++ b ++ c)) = x at *
        have HL : Hid ((a ++ b ++ c).length ≤ 1000) := Lib.hid (by simp; omega)
        obtain ⟨xc, xh, xu, xs, ⟨xln, xli, xlt⟩, ⟨xhn, xhi, xht⟩⟩ := x
        unfold fsV fsC at J2 J4 HV
        dsimp only at J2 J4 HV
        go_wp2_with (at_builtin; first | (refine wpList_appC (by rfl) (.tmp 25) (.tmp 26) rfl w3.heap.size (.slice (some ⟨w3.heap.size, 0, none⟩) 0 0) (.slice A1 a.length c1) [] a rfl hO.out rfl h1.out (by simp; omega) (by simp) ?_; intro v6 w6 own6 f6; have F6 := FA.out.fresh f6 (fun k hk => by have := (hO.out.lt k hk).1; have := FW.out; omega); have h2' := H2.out.non F6; have hs6 : w3.heap.size ≤ w6.heap.size := Nat.le_trans (by simp) f6.size) | (refine wpList_appC (by rfl) (.tmp 27) (.tmp 28) rfl w3.heap.size v6 (.slice A2 b.length c2) ([] ++ a) b rfl own6 rfl h2' (by simp; omega) hs6 ?_; intro v7 w7 own7 f7; have F7 := F6.fresh f7 (fun k hk => by have := (own6.lt k hk).1; have := FW.out; omega); have h3' := H3.out.non F7; have hs7 : w3.heap.size ≤ w7.heap.size := Nat.le_trans hs6 f7.size) | (refine wpList_appC (by rfl) (.tmp 29) (.tmp 30) rfl w3.heap.size v7 (.slice A3 c.length c3) (([] ++ a) ++ b) c rfl own7 rfl h3' (by simp; omega) hs7 ?_; intro v8 w8 own8 f8; have F8 := F7.fresh f8 (fun k hk => by have := (own7.lt k hk).1; have := FW.out; omega); have HO8 := Lib.hid own8; have HF8 := Lib.hid F8; have HS8 := Lib.hid (Nat.le_trans hs7 f8.size); clear own6 own7 own8 f6 f7 f8 F6 F7 F8 h2' h3' hs6 hs7 hO h1 FA))
        rw [HE.out] at HO8
        clear HE
        generalize a ++ b ++ c = all at *
        have hc9 := Lib.hid (H1.out.non HF8.out)
        go_wp2_with fail
        refine (L1.out _ hc9.out).mono ?_
        rintro e w9 ⟨rfl, fw9⟩
        replace HO8 := Lib.hid (HO8.out.non fw9)
        replace HS8 := Lib.hid (Nat.le_trans HS8.out fw9.size)
        replace fw9 := Lib.hid (HF8.out.trans fw9)
        clear hc9
        have hc10 := Lib.hid (H2.out.non fw9.out)
        go_wp2_with fail
        refine (L2.out _ hc10.out).mono ?_
        rintro e w10 ⟨rfl, fw10⟩
        replace HO8 := Lib.hid (HO8.out.non fw10)
        replace HS8 := Lib.hid (Nat.le_trans HS8.out fw10.size)
        replace fw10 := Lib.hid (fw9.out.trans fw10)
        clear hc10
        go_wp2_with fail
        refine (J1.out _).mono ?_
        rintro e w11 ⟨rfl, fw11⟩
        replace HO8 := Lib.hid (HO8.out.non fw11)
        replace HS8 := Lib.hid (Nat.le_trans HS8.out fw11.size)
        replace fw11 := Lib.hid (fw10.out.trans fw11)
        have hc12 := Lib.hid (H3.out.non fw11.out)
        go_wp2_with fail
        refine (L3.out _ hc12.out).mono ?_
        rintro e w12 ⟨rfl, fw12⟩
        replace HO8 := Lib.hid (HO8.out.non fw12)
        replace HS8 := Lib.hid (Nat.le_trans HS8.out fw12.size)
        replace fw12 := Lib.hid (fw11.out.trans fw12)
        clear hc12
        go_wp2_with fail
        refine (J2.out _).mono ?_
        rintro e w13 ⟨rfl, fw13⟩
        replace HO8 := Lib.hid (HO8.out.non fw13)
        replace HS8 := Lib.hid (Nat.le_trans HS8.out fw13.size)
        replace fw13 := Lib.hid (fw12.out.trans fw13)
        have hc14 := Lib.hid (H1.out.non fw13.out)
        go_wp2_with fail
        refine (L1.out _ hc14.out).mono ?_
        rintro e w14 ⟨rfl, fw14⟩
        replace HO8 := Lib.hid (HO8.out.non fw14)
        replace HS8 := Lib.hid (Nat.le_trans HS8.out fw14.size)
        replace fw14 := Lib.hid (fw13.out.trans fw14)
        clear hc14
        have hc15 := Lib.hid (H2.out.non fw14.out)
        go_wp2_with fail
        refine (L2.out _ hc15.out).mono ?_
        rintro e w15 ⟨rfl, fw15⟩
        replace HO8 := Lib.hid (HO8.out.non fw15)
        replace HS8 := Lib.hid (Nat.le_trans HS8.out fw15.size)
        replace fw15 := Lib.hid (fw14.out.trans fw15)
        clear hc15
        have hc16 := Lib.hid (H3.out.non fw15.out)
        go_wp2_with fail
        refine (L3.out _ hc16.out).mono ?_
        rintro e w16 ⟨rfl, fw16⟩
        replace HO8 := Lib.hid (HO8.out.non fw16)
        replace HS8 := Lib.hid (Nat.le_trans HS8.out fw16.size)
        replace fw16 := Lib.hid (fw15.out.trans fw16)
        clear hc16
        go_wp2_with fail
        refine (J3.out _).mono ?_
        rintro e w17 ⟨rfl, fw17⟩
        replace HO8 := Lib.hid (HO8.out.non fw17)
        replace HS8 := Lib.hid (Nat.le_trans HS8.out fw17.size)
        replace fw17 := Lib.hid (fw16.out.trans fw17)
        go_wp2_with fail
        refine (J4.out _).mono ?_
        rintro e w18 ⟨rfl, fw18⟩
        replace HO8 := Lib.hid (HO8.out.non fw18)
        replace HS8 := Lib.hid (Nat.le_trans HS8.out fw18.size)
        replace fw18 := Lib.hid (fw17.out.trans fw18)
        obtain ⟨D, hD⟩ : ∃ D, w18.heap.size = D := ⟨_, rfl⟩
        have FQ : Fr Non w18 ((w18.alloc (.cells #[.int .i64 xc, .int .i64 xh, .int .i64 xu, .bool xs, .bool xln, .int .i64 xli, .string ⟨xlt.toArray⟩, .bool xhn, .int .i64 xhi, .string ⟨xht.toArray⟩] 28)).alloc (.cells #[.int .i64 xc, .int .i64 xh, .int .i64 xu, .bool xs, .bool xln, .int .i64 xli, .string ⟨xlt.toArray⟩, .bool xhn, .int .i64 xhi, .string ⟨xht.toArray⟩] 28)) := ((Fr.refl Non _).alloc _).alloc _
        have X1 : Hid (FsB ((w18.alloc (.cells #[.int .i64 xc, .int .i64 xh, .int .i64 xu, .bool xs, .bool xln, .int .i64 xli, .string ⟨xlt.toArray⟩, .bool xhn, .int .i64 xhi, .string ⟨xht.toArray⟩] 28)).alloc (.cells #[.int .i64 xc, .int .i64 xh, .int .i64 xu, .bool xs, .bool xln, .int .i64 xli, .string ⟨xlt.toArray⟩, .bool xhn, .int .i64 xhi, .string ⟨xht.toArray⟩] 28)) D ⟨xc, xh, xu, xs, ⟨xln, xli, xlt⟩, ⟨xhn, xhi, xht⟩⟩) := Lib.hid ((fs_new w18 ⟨xc, xh, xu, xs, ⟨xln, xli, xlt⟩, ⟨xhn, xhi, xht⟩⟩ D hD).fr ((Fr.refl Non _).alloc _) (fun e => e))
        have X2 : Hid (FsB ((w18.alloc (.cells #[.int .i64 xc, .int .i64 xh, .int .i64 xu, .bool xs, .bool xln, .int .i64 xli, .string ⟨xlt.toArray⟩, .bool xhn, .int .i64 xhi, .string ⟨xht.toArray⟩] 28)).alloc (.cells #[.int .i64 xc, .int .i64 xh, .int .i64 xu, .bool xs, .bool xln, .int .i64 xli, .string ⟨xlt.toArray⟩, .bool xhn, .int .i64 xhi, .string ⟨xht.toArray⟩] 28)) (D + 1) ⟨xc, xh, xu, xs, ⟨xln, xli, xlt⟩, ⟨xhn, xhi, xht⟩⟩) := Lib.hid (fs_new (w18.alloc (.cells #[.int .i64 xc, .int .i64 xh, .int .i64 xu, .bool xs, .bool xln, .int .i64 xli, .string ⟨xlt.toArray⟩, .bool xhn, .int .i64 xhi, .string ⟨xht.toArray⟩] 28)) ⟨xc, xh, xu, xs, ⟨xln, xli, xlt⟩, ⟨xhn, xhi, xht⟩⟩ (D + 1) (by simp [hD]))
        have FE := Lib.hid (fw18.out.trans FQ)
        have HO := Lib.hid (HO8.out.non FQ)
        have HWD : Hid (w3.heap.size ≤ D) := Lib.hid (by have := HS8.out; omega)
        clear FQ HO8 J1 J2 J3 J4 L1 L2 L3 hc ha hb
        have HD := Lib.hid hD
        generalize hW0 : w3.heap.size = B at *
        go_wp2
        clear hD hW0
        go_loopw [10] (fun i wr => ∃ (k : Nat), 1 ≤ k ∧ k ≤ 6 ∧ i = .int .i64 k ∧ Hid (FsB wr D ⟨xc, xh, xu, xs, ⟨xln, xli, xlt⟩, ⟨xhn, xhi, xht⟩⟩) ∧ Hid (FsB wr (D + 1) ⟨xc, xh, xu, xs, ⟨xln, xli, xlt⟩, ⟨xhn, xhi, xht⟩⟩) ∧ Hid (Oc wr B v8 all) ∧ Hid (Fr Non w wr)) (fun i _ => 6 - (intOf i).toNat)
        case atStart => exact ⟨1, by omega, by omega, rfl, X1, X2, HO, FE⟩
        case round =>
          clear X1 X2 HO FE
          obtain ⟨k, hk1, hk2, rfl, X1, X2, HO, FE⟩ := hrel
          by_cases hlt : k ≤ 5
          · have HVk := Lib.hid (HV.out (k : Int))
            have HRk := Lib.hid (HR.out (k : Int))
            generalize N (k : Int) = r at *
            obtain ⟨rn, ri, rt⟩ := r
            have hq : ∀ W, (binOp .neq 26 (.agg #[.bool rn, .int .i64 ri, .string ⟨rt.toArray⟩]) (.agg #[.bool rn, .int .i64 ri, .string ⟨rt.toArray⟩])).run Try.prog W = .ok (.bool false) W := fun W => by
              have := run_neq_cl W ⟨rn, ri, rt⟩ ⟨rn, ri, rt⟩
              rw [ceq_self] at this; exact this
            unfold clV clC at HVk HRk
            dsimp only at HVk HRk
            obtain ⟨s0, s1, s2, s3, s4, s5, s6, s7, s8, s9⟩ := fsB_cells X1.out
            dsimp only at s0 s1 s2 s3 s4 s5 s6 s7 s8 s9
            go_wp2_with fail
            refine (HVk.out _).mono ?_
            rintro e x1 ⟨rfl, g1⟩
            replace g1 := Lib.hid g1
            clear s0 s1 s2 s3 s4 s5 s6 s7 s8 s9
            have hcs := Lib.hid (HO.out.non g1.out).cs
            go_wp2_with fail
            refine (HRk.out _ _ hcs.out).mono ?_
            rintro e x2 ⟨rfl, g2⟩
            replace g2 := Lib.hid (g1.out.trans g2)
            clear g1 hcs
            obtain ⟨s0, s1, s2, s3, s4, s5, s6, s7, s8, s9⟩ := fsB_cells (show FsB x2 (D + 1) ⟨xc, xh, xu, xs, ⟨xln, xli, xlt⟩, ⟨xhn, xhi, xht⟩⟩ from X2.out.fr g2.out (fun e => e))
            dsimp only at s0 s1 s2 s3 s4 s5 s6 s7 s8 s9
            go_wp2_with fail
            refine (HVk.out _).mono ?_
            rintro e x3 ⟨rfl, g3⟩
            replace g3 := Lib.hid (g2.out.trans g3)
            clear s0 s1 s2 s3 s4 s5 s6 s7 s8 s9 g2
            have hcs := Lib.hid (HO.out.non g3.out).cs
            go_wp2_with fail
            refine (HRk.out _ _ hcs.out).mono ?_
            rintro e x4 ⟨rfl, g4⟩
            replace g4 := Lib.hid (g3.out.trans g4)
            clear g3 hcs
            go_wp2
            go_roundw
            case rel => exact ⟨k + 1, by omega, by omega, by go_num, Lib.hid (X1.out.fr g4.out (fun e => e)), Lib.hid (X2.out.fr g4.out (fun e => e)), Lib.hid (HO.out.non g4.out), Lib.hid (FE.out.trans g4.out)⟩
            case measure => simp [intOf]; omega
          · have hk6 : k = 6 := by omega
            subst hk6
            go_wp2_with fail
            refine (live22_any _).mono ?_
            rintro e wl ⟨rfl, fl⟩
            go_wp2
            go_ret
            exact ⟨rfl, (FE.out.trans fl).below⟩
end Go.Proofs.Ytincapmagennmaa


namespace Go.Proofs.Ytincapmagennmaa
set_option linter.unusedVariables false
set_option linter.unusedSimpArgs false
set_option maxRecDepth 100000
open Go.ChangeShapes Go.WideShapes Go.ChangeAt Go.RowKit

theorem frame_own : ownKnob Try.prog.godebug = none := by kernel_rfl
theorem frame_laidOut : laidOutB Try.prog = true := by kernel_rfl

/-- every argument reads as it did -/
theorem trodAll_below {H : Type} {enc : TypeId × Value → H} {W W' : World} (hb : Below W.heap.size W W') :
    ∀ (ts : List TypeId) (vs : List Value) (ds : List (DataW H)) (ps : List MemPlace), (∀ t ∈ ts, Try.prog.readableRec t = true ∧ t < Try.prog.types.size) →
      DataW.TrodAll enc Try.prog W 0 (fun _ => true) true ts vs ds ps → DataW.TrodAll enc Try.prog W' 0 (fun b => decide (b < W.heap.size)) true ts vs ds ps := by
  intro ts
  induction ts with
  | nil => intro vs ds ps _ h; cases vs <;> cases ds <;> simp_all [DataW.TrodAll]
  | cons t ts ih =>
    intro vs ds ps hr h
    cases vs with
    | nil => cases ds <;> simp_all [DataW.TrodAll]
    | cons v vs =>
      cases ds with
      | nil => simp_all [DataW.TrodAll]
      | cons d ds =>
        obtain ⟨p, q, h1, h2, rfl⟩ := h
        have hlt : ∀ x ∈ p, x.block < W.heap.size := by obtain ⟨m, hm⟩ := h1; exact DataW.trod_lt m _ _ _ hm
        have ht := hr t (List.mem_cons_self ..)
        exact ⟨p, q, Below.trod frame_laidOut ht.1 ht.2 h1 hb hlt, ih vs ds q (fun u hu => hr u (List.mem_cons_of_mem _ hu)) h2, rfl⟩

noncomputable def typesOk (ts : List TypeId) : Bool := ts.all fun t => Try.prog.readableRec t && decide (t < Try.prog.types.size)
theorem types_ok (ts : List TypeId) (h : typesOk ts = true) : ∀ t ∈ ts, Try.prog.readableRec t = true ∧ t < Try.prog.types.size := by
  intro t ht
  have := List.all_eq_true.1 h t ht
  simpa using this

/-- a slice that came in: nil, or it leads into a block that is there -/
theorem slice_in {W : World} {base : Nat} {t e : TypeId} {v : Value} (ht : Try.prog.underlying t = some (.slice e)) (hv : Value.okWide Try.prog W .any base t v) :
    v = .slice none 0 0 ∨ ∃ b o n c, v = .slice (some ⟨b, o, none⟩) n c ∧ n ≤ c ∧ b < W.heap.size := by
  obtain ⟨a, n, c, rfl⟩ := okWide_slice ht hv
  simp only [Value.okWide, ht, Cell.okWide] at hv
  cases a with
  | none =>
    left
    simp only [Cell.ok, ht] at hv
    cases n <;> cases c <;> simp_all
  | some a =>
    right
    simp only [Cell.ok, ht] at hv
    obtain ⟨h1, _, _, h2, row, cells, h3, _⟩ := hv
    obtain ⟨b, o, sp⟩ := a
    simp only at h2 h3
    subst h2
    refine ⟨b, o, n, c, rfl, h1, ?_⟩
    rcases Nat.lt_or_ge b W.heap.size with h | h
    · exact h
    · unfold World.shape? at h3
      rw [Array.getElem?_eq_none h] at h3
      cases h3

theorem wf_i64_bd {n : Int} (h : (Lit.int .i64 n).wf = true) : -9223372036854775808 ≤ n ∧ n ≤ 9223372036854775807 := by
  simpa [Lit.wf, IntKind.min, IntKind.max, IntKind.signed, IntKind.bits] using h
end Go.Proofs.Ytincapmagennmaa


namespace Go.Proofs.Ytincapmagennmaa
set_option linter.unusedVariables false
set_option linter.unusedSimpArgs false
set_option maxRecDepth 100000
open Go.ChangeShapes Go.WideShapes Go.ChangeAt Go.RowKit

theorem choose_listG {α : Type} (P : Nat → α → Prop) : ∀ (n : Nat), (∀ i, i < n → ∃ x, P i x) → ∃ l : List α, l.length = n ∧ ∀ i (h : i < l.length), P i l[i]
  | 0, _ => ⟨[], rfl, fun i h => by simp at h⟩
  | n + 1, h => by
    obtain ⟨l, hl, hp⟩ := choose_listG P n fun i hi => h i (by omega)
    obtain ⟨x, hx⟩ := h n (by omega)
    refine ⟨l ++ [x], by simp [hl], fun i hi => ?_⟩
    by_cases hin : i < l.length
    · rw [List.getElem_append_left hin]; exact hp i hin
    · have : i = n := by simp at hi; omega
      subst this
      rw [List.getElem_append_right (by omega)]
      simpa using hx

end Go.Proofs.Ytincapmagennmaa
