/-
  Joined: Fold1, Pred1, Sv, Str, Qry1, Kol2, MathRd, Grp1
-/
import Derived.Lib.Zigzag
import Derived.Deep.QuietTactic
import Derived.BigQuiet
import Derived.Deep.RegionHeld3
import Derived.Deep.DrawnRows
import Derived.Shelf.Strings.Replace
import Derived.Shelf.Strconv.Itoa4
import Derived.Shelf.Strings.OnBuilder
import Derived.Test.YtjcfjjhhbcgcmaaGreatProg
import Derived.Lib.SmallJoins
import Derived.Lib.AppendIntMem
import Derived.Laws.StructEq
import Derived.Laws.Rows
import Derived.Laws.ResultCell
import Derived.Deep.RegionWith
import Derived.Test.YtjcfjjhhbcgcmaaGreatZ1
import Derived.Test.YtjcfjjhhbcgcmaaGreatZ2
import Derived.Test.YtjcfjjhhbcgcmaaGreatZ3
set_option linter.unusedVariables false
set_option linter.unusedSimpArgs false
set_option maxRecDepth 100000
namespace Go.Proofs.YtjcfjjhhbcgcmaaGreat
open Go.RowKit
theorem valF_1 (s : Fo) : valF 1 s = ⟨false, s.cnt, []⟩ := rfl
theorem valF_2 (s : Fo) : valF 2 s = ⟨false, s.has, []⟩ := rfl
theorem valF_bad {op : Int} (h : op < 1 ∨ 5 < op) (s : Fo) : valF op s = noCl := by unfold valF; rw [if_neg (by omega), if_neg (by omega), if_pos h]
theorem valF_nul {op : Int} (h : 3 ≤ op ∧ op ≤ 5) {s : Fo} (h0 : s.has = 0) : valF op s = nulCl := by unfold valF; rw [if_neg (by omega), if_neg (by omega), if_neg (by omega), if_pos h0]
theorem valF_3 {s : Fo} (h0 : s.has ≠ 0) : valF 3 s = ⟨false, s.sum, []⟩ := by unfold valF; rw [if_neg (by decide), if_neg (by decide), if_neg (by decide), if_neg h0, if_pos rfl]
theorem valF_4 {s : Fo} (h0 : s.has ≠ 0) : valF 4 s = s.low := by unfold valF; rw [if_neg (by decide), if_neg (by decide), if_neg (by decide), if_neg h0, if_neg (by decide), if_pos rfl]
theorem valF_5 {s : Fo} (h0 : s.has ≠ 0) : valF 5 s = s.high := by unfold valF; rw [if_neg (by decide), if_neg (by decide), if_neg (by decide), if_neg h0, if_neg (by decide), if_neg (by decide)]
theorem live_lenF (l : List Cl) : (liveC l).length ≤ l.length := List.length_filter_le _ _
set_option maxHeartbeats 8000000 in
theorem rval22_any (op : Int) (v : Value) (l : List Cl) (w : World) (hv : Cs w v l) (hl : l.length ≤ 1000000) :
    Calls Tryz.prog 50 #[.int .i64 op, v] w fun e w' => e = .returned (clV (valF op (foC l))) ∧ Fr Non w w' := by
  have HFo := Lib.hid (foC_is l)
  obtain ⟨A, c, rfl⟩ := hv.shape
  have HV := Lib.hid hv
  clear hv
  have hcnt : (foC l).cnt = l.length := HFo.out.cnt
  have hhas : (foC l).has = (liveC l).length := HFo.out.has
  replace hcnt := Lib.hid hcnt
  replace hhas := Lib.hid hhas
  have hll : (liveC l).length ≤ 1000000 := Nat.le_trans (live_lenF l) hl
  obtain ⟨r, hr⟩ : ∃ r, valF op (foC l) = r := ⟨_, rfl⟩
  rw [hr]
  replace hr := Lib.hid hr
  generalize hg : w.heap.size = g at *
  have CB0 : ClB ((w.alloc (.cells #[.bool false, .int .i64 0, .string ⟨#[]⟩] 25)).alloc (.cells #[] 25)) g ⟨false, 0, []⟩ := by
    rw [← hg]; exact (cl_new w ⟨false, 0, []⟩).fr ((Fr.refl Non _).alloc _) (fun e => e)
  have hO0 : Oc ((w.alloc (.cells #[.bool false, .int .i64 0, .string ⟨#[]⟩] 25)).alloc (.cells #[] 25)) (g + 1) (.slice (some ⟨g + 1, 0, none⟩) 0 0) [] := oc_lit0 _ (g + 1) (g + 1) (by rw [← hg]; simp) (Nat.le_refl _)
  have hf0 : Fr Non w ((w.alloc (.cells #[.bool false, .int .i64 0, .string ⟨#[]⟩] 25)).alloc (.cells #[] 25)) := ((Fr.refl Non w).alloc _).alloc _
  have HG := Lib.hid hg
  go_enter Tryz.func50, Tryz.ntmps50
  go_wp2
  clear hg
  go_loopw [5, 6] (fun x i wr => ∃ (k : Nat), k ≤ l.length ∧ i = .int .i64 k ∧ Oc wr (g + 1) x (liveC (l.take k)) ∧ Hid (ClB wr g ⟨false, 0, []⟩) ∧ Hid (g + 1 < wr.heap.size) ∧ Fr Non w wr) (fun _ i _ => l.length - (intOf i).toNat)
  case atStart => exact ⟨0, Nat.zero_le _, rfl, hO0, Lib.hid CB0, Lib.hid (by simp; have := HG.out; omega), hf0⟩
  case round =>
    clear hO0 hf0 CB0
    obtain ⟨k, hk, rfl, hO, CB, HS, hfr⟩ := hrel
    have HO := Lib.hid hO
    have HF := Lib.hid hfr
    clear hO hfr
    by_cases hlt : k < l.length
    · have HT2 := Lib.hid (live_more hlt)
      have HDl : Hid ((liveC (l.take k)).length ≤ 1000000) := Lib.hid (Nat.le_trans (live_lenF _) (by rw [List.length_take]; omega))
      obtain ⟨a, rfl, -, -, hel⟩ := (HV.out.non HF.out).addr (show 0 < l.length by omega)
      obtain ⟨t0, t1, t2⟩ := (hel k hlt).lit
      generalize liveC (l.take k) = D at *
      generalize l[k] = x at *
      clear hel
      obtain ⟨xn, xi, xt⟩ := x
      dsimp only at *
      cases xn
      · have HT3 : Hid (liveC (l.take (k + 1)) = D ++ [⟨false, xi, xt⟩]) := Lib.hid (by rw [HT2.out, if_neg (by simp)])
        have hgw : g + 1 ≤ wr.heap.size := by have := HS.out; omega
        clear HT2
        go_wp2_with (at_builtin; refine wpList_pushC rfl (.tmp 23) (.tmp 28) rfl (g + 1) _ D rfl HO.out ⟨false, xi, xt⟩ _ _ _ rfl rfl rfl _ rfl rfl (by have := HDl.out; omega) hgw ?_; intro v6 w6 hown6 hf6)
        have hfr6 := HF.out.fresh hf6 (fun q hq => by have := (HO.out.lt q hq).1; have := HG.out; omega)
        have CB6 := Lib.hid (CB.out.fr hf6 (fun e => by have := (HO.out.lt g e).1; omega))
        have HS6 : Hid (g + 1 < w6.heap.size) := Lib.hid (by have := hf6.size; have := HS.out; omega)
        go_roundw
        case rel => exact ⟨k + 1, by omega, by go_num, by rw [HT3.out]; exact hown6, CB6, HS6, hfr6⟩
        case measure => simp [intOf]; omega
      · have HT3 : Hid (liveC (l.take (k + 1)) = D) := Lib.hid (by rw [HT2.out, if_pos rfl])
        clear HT2
        go_wp2
        go_roundw
        case rel => exact ⟨k + 1, by omega, by go_num, by rw [HT3.out]; exact HO.out, CB, HS, HF.out⟩
        case measure => simp [intOf]; omega
    · have hke : k = l.length := by omega
      rw [hke, List.take_length] at HO
      have CBo : ClB wr g ⟨false, 0, []⟩ := CB.out
      obtain ⟨Ax, cx, rfl⟩ := HO.out.shape
      by_cases h1 : op = 1
      · subst h1
        have HE : Hid (r = ⟨false, (l.length : Int), []⟩) := Lib.hid (by rw [← hr.out, valF_1, hcnt.out])
        have CB6 := Lib.hid (setCl_B CBo false (l.length : Int) [])
        have F6 := Lib.hid (HF.out.fresh (setCl_fr wr g false (l.length : Int) []) (fun k e => by have : k = g := e; have := HG.out; omega))
        obtain ⟨p0, p1, p2, z0, z1, z2⟩ := ClB.facts CBo
        dsimp only at p0 p1 p2
        go_wp2
        exact bodyPost_ret (v := clV ⟨false, (l.length : Int), []⟩) (ret_cl (p := 4) rfl _ _ g ⟨false, (l.length : Int), []⟩ (by rfl) CB6.out) rfl ⟨by rw [HE.out], F6.out⟩
      by_cases h2 : op = 2
      · subst h2
        have HE : Hid (r = ⟨false, ((liveC l).length : Int), []⟩) := Lib.hid (by rw [← hr.out, valF_2, hhas.out])
        have CB6 := Lib.hid (setCl_B CBo false ((liveC l).length : Int) [])
        have F6 := Lib.hid (HF.out.fresh (setCl_fr wr g false ((liveC l).length : Int) []) (fun k e => by have : k = g := e; have := HG.out; omega))
        obtain ⟨p0, p1, p2, z0, z1, z2⟩ := ClB.facts CBo
        dsimp only at p0 p1 p2
        go_wp2
        exact bodyPost_ret (v := clV ⟨false, ((liveC l).length : Int), []⟩) (ret_cl (p := 4) rfl _ _ g ⟨false, ((liveC l).length : Int), []⟩ (by rfl) CB6.out) rfl ⟨by rw [HE.out], F6.out⟩
      have j1 : (op == 1) = false := by rw [beq_eq_false_iff_ne]; exact h1
      have j2 : (op == 2) = false := by rw [beq_eq_false_iff_ne]; exact h2
      by_cases hlo : op < 1
      · have HE : Hid (r = ⟨false, 0, []⟩) := Lib.hid (by rw [← hr.out, valF_bad (.inl hlo)]; rfl)
        have d1 : decide (op < 1) = true := decide_eq_true hlo
        clear hlo h1 h2
        have CB6 := Lib.hid (setCl_B CBo false 0 [])
        have F6 := Lib.hid (HF.out.fresh (setCl_fr wr g false 0 []) (fun k e => by have : k = g := e; have := HG.out; omega))
        obtain ⟨p0, p1, p2, z0, z1, z2⟩ := ClB.facts CBo
        dsimp only at p0 p1 p2
        go_wp2
        exact bodyPost_ret (v := clV ⟨false, 0, []⟩) (ret_cl (p := 4) rfl _ _ g ⟨false, 0, []⟩ (by rfl) CB6.out) rfl ⟨by rw [HE.out], F6.out⟩
      by_cases hhi : 5 < op
      · have HE : Hid (r = ⟨false, 0, []⟩) := Lib.hid (by rw [← hr.out, valF_bad (.inr hhi)]; rfl)
        have d1 : decide (op < 1) = false := decide_eq_false hlo
        have d2 : decide (5 < op) = true := decide_eq_true hhi
        clear hlo hhi h1 h2
        have CB6 := Lib.hid (setCl_B CBo false 0 [])
        have F6 := Lib.hid (HF.out.fresh (setCl_fr wr g false 0 []) (fun k e => by have : k = g := e; have := HG.out; omega))
        obtain ⟨p0, p1, p2, z0, z1, z2⟩ := ClB.facts CBo
        dsimp only at p0 p1 p2
        go_wp2
        exact bodyPost_ret (v := clV ⟨false, 0, []⟩) (ret_cl (p := 4) rfl _ _ g ⟨false, 0, []⟩ (by rfl) CB6.out) rfl ⟨by rw [HE.out], F6.out⟩
      have d1 : decide (op < 1) = false := decide_eq_false hlo
      have d2 : decide (5 < op) = false := decide_eq_false hhi
      have hop : op = 3 ∨ op = 4 ∨ op = 5 := by omega
      clear h1 h2 hlo hhi
      by_cases h0 : (liveC l).length = 0
      · have HE : Hid (r = ⟨true, 0, []⟩) := Lib.hid (by rw [← hr.out, valF_nul (by omega) (by rw [hhas.out, h0]; rfl)]; rfl)
        have e0 : (((liveC l).length : Int) == 0) = true := by rw [h0]; rfl
        clear h0 hop
        have CB6 := Lib.hid (setCl_B CBo true 0 [])
        have F6 := Lib.hid (HF.out.fresh (setCl_fr wr g true 0 []) (fun k e => by have : k = g := e; have := HG.out; omega))
        obtain ⟨p0, p1, p2, z0, z1, z2⟩ := ClB.facts CBo
        dsimp only at p0 p1 p2
        go_wp2
        exact bodyPost_ret (v := clV ⟨true, 0, []⟩) (ret_cl (p := 4) rfl _ _ g ⟨true, 0, []⟩ (by rfl) CB6.out) rfl ⟨by rw [HE.out], F6.out⟩
      have e0 : (((liveC l).length : Int) == 0) = false := by rw [beq_eq_false_iff_ne]; omega
      have h0n : (foC l).has ≠ 0 := by rw [hhas.out]; omega
      have hL0 : 0 < (liveC l).length := by omega
      have HE3 : Hid (op = 3 → r = ⟨false, w6 (totC ((liveC l).take (liveC l).length)), []⟩) := Lib.hid (fun e => by rw [← hr.out, e, valF_3 h0n, HFo.out.sum, List.take_length])
      have HE4 : Hid (op = 4 → ∀ best, BestTo op (liveC l) (liveC l).length best → r = best) := Lib.hid (fun e best hb => by rw [← hr.out, e, valF_4 h0n]; rw [e] at hb; exact best_low HFo.out hb)
      have HE5 : Hid (op = 5 → ∀ best, BestTo op (liveC l) (liveC l).length best → r = best) := Lib.hid (fun e best hb => by rw [← hr.out, e, valF_5 h0n]; rw [e] at hb; exact best_high HFo.out hb)
      have HL : Hid (Cs wr (.slice Ax (liveC l).length cx) (liveC l)) := Lib.hid HO.out.cs
      have HB0 : Hid (∀ op, BestTo op (liveC l) 0 (liveC l)[0]) := Lib.hid (fun op => best_start hL0)
      have CBh := Lib.hid CBo
      clear CBo h0 h0n HFo hcnt hhas hr HV HO hke CB
      generalize liveC l = L at *
      obtain ⟨a, rfl, -, -, hel⟩ := HL.out.addr hL0
      obtain ⟨t0, t1, t2⟩ := (hel 0 hL0).lit
      simp only [Nat.zero_mul] at t0 t1 t2
      rw [add_none] at t0 t1 t2
      clear hel
      replace HB0 := Lib.hid (HB0.out op)
      generalize hx0 : L[0] = x0 at *
      clear hx0
      obtain ⟨xn, xi, xt⟩ := x0
      dsimp only at t0 t1 t2
      obtain ⟨D, hD⟩ : ∃ D, wr.heap.size = D := ⟨_, rfl⟩
      have hDg : g + 1 < D := by have := HS.out; omega
      have f1 : Fr Non wr (wr.alloc (.cells #[.bool xn, .int .i64 xi, .string ⟨xt.toArray⟩] 25)) := (Fr.refl Non wr).alloc _
      have BB1 : Hid (ClB (wr.alloc (.cells #[.bool xn, .int .i64 xi, .string ⟨xt.toArray⟩] 25)) D ⟨xn, xi, xt⟩) := Lib.hid (by rw [← hD]; exact cl_new wr ⟨xn, xi, xt⟩)
      have CB1 := Lib.hid (CBh.out.fr f1 (fun e => e))
      replace f1 := Lib.hid f1
      have HD := Lib.hid hD
      have HLn := HL
      go_wp2
      clear hD
      go_loopw [8, 9] (fun s i wq => ∃ (k : Nat) (best : Cl), k ≤ L.length ∧ i = .int .i64 k ∧ s = .int .i64 (w6 (totC (L.take k))) ∧ Hid (BestTo op L k best) ∧ Hid (ClB wq D best) ∧ Hid (ClB wq g ⟨false, 0, []⟩) ∧ Hid (Fr Non wr wq)) (fun _ i _ => L.length - (intOf i).toNat)
      case atStart => exact ⟨0, ⟨xn, xi, xt⟩, Nat.zero_le _, rfl, rfl, HB0, BB1, CB1, f1⟩
      case round =>
        clear HB0 BB1 CB1 f1 t0 t1 t2 CBh
        obtain ⟨k, best, hk, rfl, rfl, HBe, BB, CB, FR⟩ := hrel
        by_cases hlt : k < L.length
        · have HSum := Lib.hid (sum_more hlt)
          have HBm := Lib.hid (best_more HBe.out hlt)
          obtain ⟨a2, e2, -, -, hel⟩ := (HL.out.non FR.out).addr hL0
          obtain rfl : a = a2 := by injection e2
          obtain ⟨c0, c1, c2⟩ := (hel k hlt).lit
          have HO2 := Lib.hid (fun W => rorder_any L[k] best W)
          clear hel e2 HBe HE3 HE4 HE5
          generalize w6 (totC (L.take k)) = sk at *
          generalize hx : L[k] = x at *
          clear hx
          obtain ⟨xn, xi, xt⟩ := x
          obtain ⟨bn, bi, bt⟩ := best
          unfold clV clC at HO2
          dsimp only at *
          obtain ⟨u0, u1, u2, -⟩ := BB.out.facts
          dsimp only at u0 u1 u2
          generalize ordC ⟨xn, xi, xt⟩ ⟨bn, bi, bt⟩ = o at *
          have t0 := c0
          have t1 := c1
          have t2 := c2
          rcases hop with rfl | rfl | rfl
          · have HBn : Hid (BestTo 3 L (k + 1) ⟨bn, bi, bt⟩) := Lib.hid (by simpa using HBm.out)
            clear HBm HO2
            go_wp2
            obtain ⟨V, hV⟩ : ∃ V, V = wr.drew := ⟨_, rfl⟩
            refine wp_region_held_drew (S := (fun W' => W'.cell? (a.add (k * 3)) = some (.bool xn) ∧ W'.cell? { block := (a.add (k * 3)).block, off := (a.add (k * 3)).off + 1 } = some (.int .i64 xi) ∧ W'.cell? { block := (a.add (k * 3)).block, off := (a.add (k * 3)).off + 2 } = some (.string ⟨xt.toArray⟩) ∧ W'.cell? ⟨D, 0, none⟩ = some (.bool bn) ∧ W'.cell? ⟨D, 1, none⟩ = some (.int .i64 bi) ∧ W'.cell? ⟨D, 2, none⟩ = some (.string ⟨bt.toArray⟩))) (by kernel_rfl) (by exact ⟨t0, t1, t2, u0, u1, u2⟩) (fun hHeld => ?_)
            rw [← hV]
            rw [← hV] at hHeld
            have FV : Fr Non wr V := by rw [hV]; exact (Fr.refl Non wr).drew
            clear hV
            replace t0 := FV.at0 t0
            replace t1 := FV.at0 t1
            replace t2 := FV.at0 t2
            replace u0 := FV.at0 u0
            replace u1 := FV.at0 u1
            replace u2 := FV.at0 u2
            refine wpAnyH_take (i := 0) (oi := ⟨some 67, _, _, _, _, none⟩) (v := ?v1) rfl (by kernel_rfl) (by kernel_rfl) (by kernel_rfl) (fun _ _ _ h => h) (Or.inl ⟨by rfl, ?hy1⟩) (by assumption) ?rest1
            case hy1 => (intro wS hSw; (try dsimp only at hSw); go_simp; (try with_reducible rfl))
            (try simp only [Act.put, zA, zB, zC])
            refine wpAnyH_take (i := 1) (oi := ⟨some 68, _, _, _, _, none⟩) (v := ?v2) rfl (by kernel_rfl) (by kernel_rfl) (by kernel_rfl) (fun _ _ _ h => h) (Or.inl ⟨by rfl, ?hy2⟩) (by assumption) ?rest2
            case hy2 => (intro wS hSw; (try dsimp only at hSw); go_simp; (try with_reducible rfl))
            (try simp only [Act.put, zA, zB, zC])
            refine wpAnyH_take (i := 2) (oi := ⟨some 69, _, _, _, _, none⟩) (v := ?v3) rfl (by kernel_rfl) (by kernel_rfl) (by kernel_rfl) (fun _ _ _ h => h) (Or.inl ⟨by rfl, ?hy3⟩) (by assumption) ?rest3
            case hy3 => (intro wS hSw; (try dsimp only at hSw); go_simp; (try with_reducible rfl))
            (try simp only [Act.put, zA, zB, zC])
            refine wpAnyH_take (i := 3) (oi := ⟨some 70, _, _, _, _, some (2, true)⟩) (v := undef) rfl (by kernel_rfl) (by kernel_rfl) (by kernel_rfl) (fun _ _ _ h => h) (Or.inr ⟨by rfl, rfl⟩) (by assumption) ?_
            (try simp only [Act.put, zA, zB, zC])
            refine wpAnyH_take (i := 4) (oi := ⟨some 71, _, _, _, _, some (2, true)⟩) (v := undef) rfl (by kernel_rfl) (by kernel_rfl) (by kernel_rfl) (fun _ _ _ h => h) (Or.inr ⟨by rfl, rfl⟩) (by assumption) ?_
            (try simp only [Act.put, zA, zB, zC])
            refine wpAnyH_take (i := 5) (oi := ⟨some 72, _, _, _, _, some (2, true)⟩) (v := undef) rfl (by kernel_rfl) (by kernel_rfl) (by kernel_rfl) (fun _ _ _ h => h) (Or.inr ⟨by rfl, rfl⟩) (by assumption) ?_
            (try simp only [Act.put, zA, zB, zC])
            refine wpAnyH_take (i := 6) (oi := ⟨some 73, _, _, _, _, some (2, true)⟩) (v := undef) rfl (by kernel_rfl) (by kernel_rfl) (by kernel_rfl) (fun _ _ _ h => h) (Or.inr ⟨by rfl, rfl⟩) (by assumption) ?_
            (try simp only [Act.put, zA, zB, zC])
            refine wpAnyH_take (i := 7) (oi := ⟨some 74, _, _, _, _, some (2, true)⟩) (v := undef) rfl (by kernel_rfl) (by kernel_rfl) (by kernel_rfl) (fun _ _ _ h => h) (Or.inr ⟨by rfl, rfl⟩) (by assumption) ?_
            (try simp only [Act.put, zA, zB, zC])
            refine wpAnyH_take (i := 8) (oi := ⟨some 75, _, _, _, _, some (2, true)⟩) (v := undef) rfl (by kernel_rfl) (by kernel_rfl) (by kernel_rfl) (fun _ _ _ h => h) (Or.inr ⟨by rfl, rfl⟩) (by assumption) ?_
            (try simp only [Act.put, zA, zB, zC])
            refine wpAnyH_take (i := 9) (oi := ⟨some 76, _, _, _, _, some (2, true)⟩) (v := undef) rfl (by kernel_rfl) (by kernel_rfl) (by kernel_rfl) (fun _ _ _ h => h) (Or.inr ⟨by rfl, rfl⟩) (by assumption) ?_
            (try simp only [Act.put, zA, zB, zC])
            refine wpAnyH_take (i := 10) (oi := ⟨some 77, _, _, _, _, none⟩) (v := ?v4) rfl (by kernel_rfl) (by kernel_rfl) (by kernel_rfl) (fun _ _ _ h => h) (Or.inl ⟨by rfl, ?hy4⟩) (by assumption) ?rest4
            case hy4 => (intro wS hSw; (try dsimp only at hSw); go_simp; (try with_reducible rfl))
            (try simp only [Act.put, zA, zB, zC])
            refine wpAnyH_take (i := 11) (oi := ⟨some 78, _, _, _, _, none⟩) (v := ?v5) rfl (by kernel_rfl) (by kernel_rfl) (by kernel_rfl) (fun _ _ _ h => h) (Or.inl ⟨by rfl, ?hy5⟩) (by assumption) ?rest5
            case hy5 => (intro wS hSw; (try dsimp only at hSw); go_simp; (try with_reducible rfl))
            (try simp only [Act.put, zA, zB, zC])
            refine wpAnyH_take (i := 12) (oi := ⟨some 79, _, _, _, _, some (11, false)⟩) (v := ?v6) rfl (by kernel_rfl) (by kernel_rfl) (by kernel_rfl) (fun _ _ _ h => h) (Or.inl ⟨by rfl, ?hy6⟩) (by assumption) ?rest6
            case hy6 => (intro wS hSw; (try dsimp only at hSw); go_simp; (try with_reducible rfl))
            (try simp only [Act.put, zA, zB, zC])
            refine wpAnyH_take (i := 13) (oi := ⟨some 80, _, _, _, _, some (11, false)⟩) (v := ?v7) rfl (by kernel_rfl) (by kernel_rfl) (by kernel_rfl) (fun _ _ _ h => h) (Or.inl ⟨by rfl, ?hy7⟩) (by assumption) ?rest7
            case hy7 => (intro wS hSw; (try dsimp only at hSw); go_simp; (try with_reducible rfl))
            (try simp only [Act.put, zA, zB, zC])
            refine wpAnyH_take (i := 14) (oi := ⟨some 81, _, _, _, _, some (11, false)⟩) (v := ?v8) rfl (by kernel_rfl) (by kernel_rfl) (by kernel_rfl) (fun _ _ _ h => h) (Or.inl ⟨by rfl, ?hy8⟩) (by assumption) ?rest8
            case hy8 => (intro wS hSw; (try dsimp only at hSw); go_simp; (try with_reducible rfl))
            (try simp only [Act.put, zA, zB, zC])
            refine wpAnyH_take (i := 15) (oi := ⟨some 82, _, _, _, _, some (14, true)⟩) (v := undef) rfl (by kernel_rfl) (by kernel_rfl) (by kernel_rfl) (fun _ _ _ h => h) (Or.inr ⟨by rfl, rfl⟩) (by assumption) ?_
            (try simp only [Act.put, zA, zB, zC])
            refine wpAnyH_take (i := 16) (oi := ⟨some 83, _, _, _, _, some (14, true)⟩) (v := undef) rfl (by kernel_rfl) (by kernel_rfl) (by kernel_rfl) (fun _ _ _ h => h) (Or.inr ⟨by rfl, rfl⟩) (by assumption) ?_
            (try simp only [Act.put, zA, zB, zC])
            refine wpAnyH_take (i := 17) (oi := ⟨some 84, _, _, _, _, some (14, true)⟩) (v := undef) rfl (by kernel_rfl) (by kernel_rfl) (by kernel_rfl) (fun _ _ _ h => h) (Or.inr ⟨by rfl, rfl⟩) (by assumption) ?_
            (try simp only [Act.put, zA, zB, zC])
            refine wpAnyH_take (i := 18) (oi := ⟨some 85, _, _, _, _, some (14, true)⟩) (v := undef) rfl (by kernel_rfl) (by kernel_rfl) (by kernel_rfl) (fun _ _ _ h => h) (Or.inr ⟨by rfl, rfl⟩) (by assumption) ?_
            (try simp only [Act.put, zA, zB, zC])
            refine wpAnyH_take (i := 19) (oi := ⟨some 86, _, _, _, _, some (14, true)⟩) (v := undef) rfl (by kernel_rfl) (by kernel_rfl) (by kernel_rfl) (fun _ _ _ h => h) (Or.inr ⟨by rfl, rfl⟩) (by assumption) ?_
            (try simp only [Act.put, zA, zB, zC])
            refine wpAnyH_take (i := 20) (oi := ⟨some 87, _, _, _, _, some (14, true)⟩) (v := undef) rfl (by kernel_rfl) (by kernel_rfl) (by kernel_rfl) (fun _ _ _ h => h) (Or.inr ⟨by rfl, rfl⟩) (by assumption) ?_
            (try simp only [Act.put, zA, zB, zC])
            refine wpAnyH_take (i := 21) (oi := ⟨some 88, _, _, _, _, some (14, true)⟩) (v := undef) rfl (by kernel_rfl) (by kernel_rfl) (by kernel_rfl) (fun _ _ _ h => h) (Or.inr ⟨by rfl, rfl⟩) (by assumption) ?_
            (try simp only [Act.put, zA, zB, zC])
            refine wpAnyH_take (i := 22) (oi := ⟨some 89, _, _, _, _, some (11, false)⟩) (v := ?v9) rfl (by kernel_rfl) (by kernel_rfl) (by kernel_rfl) (fun _ _ _ h => h) (Or.inl ⟨by rfl, ?hy9⟩) (by assumption) ?rest9
            case hy9 => (intro wS hSw; (try dsimp only at hSw); go_simp; (try with_reducible rfl))
            (try simp only [Act.put, zA, zB, zC])
            refine wpAnyH_take (i := 23) (oi := ⟨some 90, _, _, _, _, none⟩) (v := ?v10) rfl (by kernel_rfl) (by kernel_rfl) (by kernel_rfl) (fun _ _ _ h => h) (Or.inl ⟨by rfl, ?hy10⟩) (by assumption) ?rest10
            case hy10 => (intro wS hSw; (try dsimp only at hSw); go_simp; (try with_reducible rfl))
            (try simp only [Act.put, zA, zB, zC])
            refine wpAnyH_done (by kernel_rfl) ?_ _
            clear hHeld
            have FW := FV
            have BB5 : Hid (ClB V D ⟨bn, bi, bt⟩) := Lib.hid (BB.out.fr FW (fun e => e))
            have CB5 := Lib.hid (CB.out.fr FW (fun e => e))
            have F5 := Lib.hid (FR.out.trans FW)
            have HB5 := Lib.hid (HBn.out)
            clear c0 c1 c2
            go_wp2
            go_roundw
            case rel => exact ⟨k + 1, _, by omega, by go_num, by rw [w6_wrap64, HSum.out], HB5, BB5, CB5, F5⟩
            case measure => simp [intOf]; omega
          · have HBy : Hid (o < 0 → BestTo 4 L (k + 1) ⟨xn, xi, xt⟩) := Lib.hid (fun e => by have := HBm.out; simpa [e] using this)
            have HBn : Hid (¬ o < 0 → BestTo 4 L (k + 1) ⟨bn, bi, bt⟩) := Lib.hid (fun e => by have := HBm.out; simpa [e] using this)
            clear HBm
            by_cases ho : o < 0
            · replace HBy := Lib.hid (HBy.out ho)
              have hd : decide (o < 0) = true := decide_eq_true ho
              clear ho HBn
              go_wp2
              obtain ⟨V, hV⟩ : ∃ V, V = wr.drew := ⟨_, rfl⟩
              refine wp_region_held_drew (S := (fun W' => W'.cell? (a.add (k * 3)) = some (.bool xn) ∧ W'.cell? { block := (a.add (k * 3)).block, off := (a.add (k * 3)).off + 1 } = some (.int .i64 xi) ∧ W'.cell? { block := (a.add (k * 3)).block, off := (a.add (k * 3)).off + 2 } = some (.string ⟨xt.toArray⟩) ∧ W'.cell? ⟨D, 0, none⟩ = some (.bool bn) ∧ W'.cell? ⟨D, 1, none⟩ = some (.int .i64 bi) ∧ W'.cell? ⟨D, 2, none⟩ = some (.string ⟨bt.toArray⟩))) (by kernel_rfl) (by exact ⟨t0, t1, t2, u0, u1, u2⟩) (fun hHeld => ?_)
              rw [← hV]
              rw [← hV] at hHeld
              have FV : Fr Non wr V := by rw [hV]; exact (Fr.refl Non wr).drew
              clear hV
              replace t0 := FV.at0 t0
              replace t1 := FV.at0 t1
              replace t2 := FV.at0 t2
              replace u0 := FV.at0 u0
              replace u1 := FV.at0 u1
              replace u2 := FV.at0 u2
              refine wpAnyH_take (i := 0) (oi := ⟨some 67, _, _, _, _, none⟩) (v := ?v11) rfl (by kernel_rfl) (by kernel_rfl) (by kernel_rfl) (fun _ _ _ h => h) (Or.inl ⟨by rfl, ?hy11⟩) (by assumption) ?rest11
              case hy11 => (intro wS hSw; (try dsimp only at hSw); go_simp; (try with_reducible rfl))
              (try simp only [Act.put, zA, zB, zC])
              refine wpAnyH_take (i := 1) (oi := ⟨some 68, _, _, _, _, none⟩) (v := ?v12) rfl (by kernel_rfl) (by kernel_rfl) (by kernel_rfl) (fun _ _ _ h => h) (Or.inl ⟨by rfl, ?hy12⟩) (by assumption) ?rest12
              case hy12 => (intro wS hSw; (try dsimp only at hSw); go_simp; (try with_reducible rfl))
              (try simp only [Act.put, zA, zB, zC])
              refine wpAnyH_take (i := 2) (oi := ⟨some 69, _, _, _, _, none⟩) (v := ?v13) rfl (by kernel_rfl) (by kernel_rfl) (by kernel_rfl) (fun _ _ _ h => h) (Or.inl ⟨by rfl, ?hy13⟩) (by assumption) ?rest13
              case hy13 => (intro wS hSw; (try dsimp only at hSw); go_simp; (try with_reducible rfl))
              (try simp only [Act.put, zA, zB, zC])
              refine wpAnyH_take (i := 3) (oi := ⟨some 70, _, _, _, _, some (2, true)⟩) (v := ?v14) rfl (by kernel_rfl) (by kernel_rfl) (by kernel_rfl) (fun _ _ _ h => h) (Or.inl ⟨by rfl, ?hy14⟩) (by assumption) ?rest14
              case hy14 => (intro wS hSw; (try dsimp only at hSw); go_simp; (try with_reducible rfl))
              (try simp only [Act.put, zA, zB, zC])
              refine wpAnyH_take (i := 4) (oi := ⟨some 71, _, _, _, _, some (2, true)⟩) (v := ?v15) rfl (by kernel_rfl) (by kernel_rfl) (by kernel_rfl) (fun _ _ _ h => h) (Or.inl ⟨by rfl, ?hy15⟩) (by assumption) ?rest15
              case hy15 => (intro wS hSw; (try dsimp only at hSw); go_simp; (try with_reducible rfl))
              (try simp only [Act.put, zA, zB, zC])
              refine wpAnyH_take (i := 5) (oi := ⟨some 72, _, _, _, _, some (2, true)⟩) (v := ?v16) rfl (by kernel_rfl) (by kernel_rfl) (by kernel_rfl) (fun _ _ _ h => h) (Or.inl ⟨by rfl, ?hy16⟩) (by assumption) ?rest16
              case hy16 => (intro wS hSw; (try dsimp only at hSw); go_simp; (try with_reducible rfl))
              (try simp only [Act.put, zA, zB, zC])
              refine wpAnyH_take (i := 6) (oi := ⟨some 73, _, _, _, _, some (2, true)⟩) (v := ?v17) rfl (by kernel_rfl) (by kernel_rfl) (by kernel_rfl) (fun _ _ _ h => h) (Or.inl ⟨by rfl, ?hy17⟩) (by assumption) ?rest17
              case hy17 => (intro wS hSw; (try dsimp only at hSw); go_simp; (try with_reducible rfl))
              (try simp only [Act.put, zA, zB, zC])
              refine wpAnyH_take (i := 7) (oi := ⟨some 74, _, _, _, _, some (2, true)⟩) (v := ?v18) rfl (by kernel_rfl) (by kernel_rfl) (by kernel_rfl) (fun _ _ _ h => h) (Or.inl ⟨by rfl, ?hy18⟩) (by assumption) ?rest18
              case hy18 => (intro wS hSw; (try dsimp only at hSw); go_simp; (try with_reducible rfl))
              (try simp only [Act.put, zA, zB, zC])
              refine wpAnyH_ready (rs := [8]) (by kernel_rfl) (by simp) ?_
              refine AllReadyH.cons (o := ⟨some 75, _, _, _, _, some (2, true)⟩) rfl (fun K hK => ?_) AllReadyH.nil
              go_simp
              go_at_call 17
              refine (HO2.out _).mono ?_
              rintro e w4 ⟨rfl, f4⟩
              go_wp2_with fail
              refine hK.out _ _ (by exact ⟨f4.at0 t0, f4.at0 t1, f4.at0 t2, f4.at0 u0, f4.at0 u1, f4.at0 u2⟩) (fun hHeld => ?_)
              clear hK K
              (try simp only [Act.put, zA, zB, zC])
              refine wpAnyH_take (i := 9) (oi := ⟨some 76, _, _, _, _, some (2, true)⟩) (v := ?v19) rfl (by kernel_rfl) (by kernel_rfl) (by kernel_rfl) (fun _ _ _ h => h) (Or.inl ⟨by rfl, ?hy19⟩) (by assumption) ?rest19
              case hy19 => (intro wS hSw; (try dsimp only at hSw); go_simp; (try with_reducible rfl))
              (try simp only [Act.put, zA, zB, zC])
              refine wpAnyH_take (i := 10) (oi := ⟨some 77, _, _, _, _, none⟩) (v := ?v20) rfl (by kernel_rfl) (by kernel_rfl) (by kernel_rfl) (fun _ _ _ h => h) (Or.inl ⟨by rfl, ?hy20⟩) (by assumption) ?rest20
              case hy20 => (intro wS hSw; (try dsimp only at hSw); go_simp; (try with_reducible rfl))
              (try simp only [Act.put, zA, zB, zC])
              refine wpAnyH_take (i := 11) (oi := ⟨some 78, _, _, _, _, none⟩) (v := ?v21) rfl (by kernel_rfl) (by kernel_rfl) (by kernel_rfl) (fun _ _ _ h => h) (Or.inl ⟨by rfl, ?hy21⟩) (by assumption) ?rest21
              case hy21 => (intro wS hSw; (try dsimp only at hSw); go_simp; (try with_reducible rfl))
              (try simp only [Act.put, zA, zB, zC])
              refine wpAnyH_take (i := 12) (oi := ⟨some 79, _, _, _, _, some (11, false)⟩) (v := undef) rfl (by kernel_rfl) (by kernel_rfl) (by kernel_rfl) (fun _ _ _ h => h) (Or.inr ⟨by rfl, rfl⟩) (by assumption) ?_
              (try simp only [Act.put, zA, zB, zC])
              refine wpAnyH_take (i := 13) (oi := ⟨some 80, _, _, _, _, some (11, false)⟩) (v := undef) rfl (by kernel_rfl) (by kernel_rfl) (by kernel_rfl) (fun _ _ _ h => h) (Or.inr ⟨by rfl, rfl⟩) (by assumption) ?_
              (try simp only [Act.put, zA, zB, zC])
              refine wpAnyH_take (i := 14) (oi := ⟨some 81, _, _, _, _, some (11, false)⟩) (v := undef) rfl (by kernel_rfl) (by kernel_rfl) (by kernel_rfl) (fun _ _ _ h => h) (Or.inr ⟨by rfl, rfl⟩) (by assumption) ?_
              (try simp only [Act.put, zA, zB, zC])
              refine wpAnyH_take (i := 15) (oi := ⟨some 82, _, _, _, _, some (14, true)⟩) (v := undef) rfl (by kernel_rfl) (by kernel_rfl) (by kernel_rfl) (fun _ _ _ h => h) (Or.inr ⟨by rfl, rfl⟩) (by assumption) ?_
              (try simp only [Act.put, zA, zB, zC])
              refine wpAnyH_take (i := 16) (oi := ⟨some 83, _, _, _, _, some (14, true)⟩) (v := undef) rfl (by kernel_rfl) (by kernel_rfl) (by kernel_rfl) (fun _ _ _ h => h) (Or.inr ⟨by rfl, rfl⟩) (by assumption) ?_
              (try simp only [Act.put, zA, zB, zC])
              refine wpAnyH_take (i := 17) (oi := ⟨some 84, _, _, _, _, some (14, true)⟩) (v := undef) rfl (by kernel_rfl) (by kernel_rfl) (by kernel_rfl) (fun _ _ _ h => h) (Or.inr ⟨by rfl, rfl⟩) (by assumption) ?_
              (try simp only [Act.put, zA, zB, zC])
              refine wpAnyH_take (i := 18) (oi := ⟨some 85, _, _, _, _, some (14, true)⟩) (v := undef) rfl (by kernel_rfl) (by kernel_rfl) (by kernel_rfl) (fun _ _ _ h => h) (Or.inr ⟨by rfl, rfl⟩) (by assumption) ?_
              (try simp only [Act.put, zA, zB, zC])
              refine wpAnyH_take (i := 19) (oi := ⟨some 86, _, _, _, _, some (14, true)⟩) (v := undef) rfl (by kernel_rfl) (by kernel_rfl) (by kernel_rfl) (fun _ _ _ h => h) (Or.inr ⟨by rfl, rfl⟩) (by assumption) ?_
              (try simp only [Act.put, zA, zB, zC])
              refine wpAnyH_take (i := 20) (oi := ⟨some 87, _, _, _, _, some (14, true)⟩) (v := undef) rfl (by kernel_rfl) (by kernel_rfl) (by kernel_rfl) (fun _ _ _ h => h) (Or.inr ⟨by rfl, rfl⟩) (by assumption) ?_
              (try simp only [Act.put, zA, zB, zC])
              refine wpAnyH_take (i := 21) (oi := ⟨some 88, _, _, _, _, some (14, true)⟩) (v := undef) rfl (by kernel_rfl) (by kernel_rfl) (by kernel_rfl) (fun _ _ _ h => h) (Or.inr ⟨by rfl, rfl⟩) (by assumption) ?_
              (try simp only [Act.put, zA, zB, zC])
              refine wpAnyH_take (i := 22) (oi := ⟨some 89, _, _, _, _, some (11, false)⟩) (v := undef) rfl (by kernel_rfl) (by kernel_rfl) (by kernel_rfl) (fun _ _ _ h => h) (Or.inr ⟨by rfl, rfl⟩) (by assumption) ?_
              (try simp only [Act.put, zA, zB, zC])
              refine wpAnyH_take (i := 23) (oi := ⟨some 90, _, _, _, _, none⟩) (v := ?v22) rfl (by kernel_rfl) (by kernel_rfl) (by kernel_rfl) (fun _ _ _ h => h) (Or.inl ⟨by rfl, ?hy22⟩) (by assumption) ?rest22
              case hy22 => (intro wS hSw; (try dsimp only at hSw); go_simp; (try with_reducible rfl))
              (try simp only [Act.put, zA, zB, zC])
              refine wpAnyH_done (by kernel_rfl) ?_ _
              clear hHeld
              have FW := FV.trans f4
              have BB4 : ClB w4 D ⟨bn, bi, bt⟩ := BB.out.fr FW (fun e => e)
              have s5 := setCl_fr w4 D xn xi xt
              have BB5 := Lib.hid (setCl_B BB4 xn xi xt)
              have CB5 := Lib.hid ((CB.out.fr FW (fun e => e)).fr s5 (fun e => by have : g = D := e; omega))
              have F5 := Lib.hid ((FR.out.trans FW).fresh s5 (fun k e => by have : k = D := e; have := HD.out; omega))
              have t0 := FW.at0 c0
              have t1 := FW.at0 c1
              have t2 := FW.at0 c2
              obtain ⟨p0, p1, p2, z0, z1, z2⟩ := BB4.facts
              dsimp only at p0 p1 p2
              clear c0 c1 c2 BB4 s5
              have HB5 := Lib.hid (HBy.out)
              unfold setCl at BB5 CB5 F5
              go_wp2
              go_roundw
              case rel => exact ⟨k + 1, _, by omega, by go_num, by rw [w6_wrap64, HSum.out], HB5, BB5, CB5, F5⟩
              case measure => simp [intOf]; omega
            · replace HBn := Lib.hid (HBn.out ho)
              have hd : decide (o < 0) = false := decide_eq_false ho
              clear ho HBy
              go_wp2
              obtain ⟨V, hV⟩ : ∃ V, V = wr.drew := ⟨_, rfl⟩
              refine wp_region_held_drew (S := (fun W' => W'.cell? (a.add (k * 3)) = some (.bool xn) ∧ W'.cell? { block := (a.add (k * 3)).block, off := (a.add (k * 3)).off + 1 } = some (.int .i64 xi) ∧ W'.cell? { block := (a.add (k * 3)).block, off := (a.add (k * 3)).off + 2 } = some (.string ⟨xt.toArray⟩) ∧ W'.cell? ⟨D, 0, none⟩ = some (.bool bn) ∧ W'.cell? ⟨D, 1, none⟩ = some (.int .i64 bi) ∧ W'.cell? ⟨D, 2, none⟩ = some (.string ⟨bt.toArray⟩))) (by kernel_rfl) (by exact ⟨t0, t1, t2, u0, u1, u2⟩) (fun hHeld => ?_)
              rw [← hV]
              rw [← hV] at hHeld
              have FV : Fr Non wr V := by rw [hV]; exact (Fr.refl Non wr).drew
              clear hV
              replace t0 := FV.at0 t0
              replace t1 := FV.at0 t1
              replace t2 := FV.at0 t2
              replace u0 := FV.at0 u0
              replace u1 := FV.at0 u1
              replace u2 := FV.at0 u2
              refine wpAnyH_take (i := 0) (oi := ⟨some 67, _, _, _, _, none⟩) (v := ?v23) rfl (by kernel_rfl) (by kernel_rfl) (by kernel_rfl) (fun _ _ _ h => h) (Or.inl ⟨by rfl, ?hy23⟩) (by assumption) ?rest23
              case hy23 => (intro wS hSw; (try dsimp only at hSw); go_simp; (try with_reducible rfl))
              (try simp only [Act.put, zA, zB, zC])
              refine wpAnyH_take (i := 1) (oi := ⟨some 68, _, _, _, _, none⟩) (v := ?v24) rfl (by kernel_rfl) (by kernel_rfl) (by kernel_rfl) (fun _ _ _ h => h) (Or.inl ⟨by rfl, ?hy24⟩) (by assumption) ?rest24
              case hy24 => (intro wS hSw; (try dsimp only at hSw); go_simp; (try with_reducible rfl))
              (try simp only [Act.put, zA, zB, zC])
              refine wpAnyH_take (i := 2) (oi := ⟨some 69, _, _, _, _, none⟩) (v := ?v25) rfl (by kernel_rfl) (by kernel_rfl) (by kernel_rfl) (fun _ _ _ h => h) (Or.inl ⟨by rfl, ?hy25⟩) (by assumption) ?rest25
              case hy25 => (intro wS hSw; (try dsimp only at hSw); go_simp; (try with_reducible rfl))
              (try simp only [Act.put, zA, zB, zC])
              refine wpAnyH_take (i := 3) (oi := ⟨some 70, _, _, _, _, some (2, true)⟩) (v := ?v26) rfl (by kernel_rfl) (by kernel_rfl) (by kernel_rfl) (fun _ _ _ h => h) (Or.inl ⟨by rfl, ?hy26⟩) (by assumption) ?rest26
              case hy26 => (intro wS hSw; (try dsimp only at hSw); go_simp; (try with_reducible rfl))
              (try simp only [Act.put, zA, zB, zC])
              refine wpAnyH_take (i := 4) (oi := ⟨some 71, _, _, _, _, some (2, true)⟩) (v := ?v27) rfl (by kernel_rfl) (by kernel_rfl) (by kernel_rfl) (fun _ _ _ h => h) (Or.inl ⟨by rfl, ?hy27⟩) (by assumption) ?rest27
              case hy27 => (intro wS hSw; (try dsimp only at hSw); go_simp; (try with_reducible rfl))
              (try simp only [Act.put, zA, zB, zC])
              refine wpAnyH_take (i := 5) (oi := ⟨some 72, _, _, _, _, some (2, true)⟩) (v := ?v28) rfl (by kernel_rfl) (by kernel_rfl) (by kernel_rfl) (fun _ _ _ h => h) (Or.inl ⟨by rfl, ?hy28⟩) (by assumption) ?rest28
              case hy28 => (intro wS hSw; (try dsimp only at hSw); go_simp; (try with_reducible rfl))
              (try simp only [Act.put, zA, zB, zC])
              refine wpAnyH_take (i := 6) (oi := ⟨some 73, _, _, _, _, some (2, true)⟩) (v := ?v29) rfl (by kernel_rfl) (by kernel_rfl) (by kernel_rfl) (fun _ _ _ h => h) (Or.inl ⟨by rfl, ?hy29⟩) (by assumption) ?rest29
              case hy29 => (intro wS hSw; (try dsimp only at hSw); go_simp; (try with_reducible rfl))
              (try simp only [Act.put, zA, zB, zC])
              refine wpAnyH_take (i := 7) (oi := ⟨some 74, _, _, _, _, some (2, true)⟩) (v := ?v30) rfl (by kernel_rfl) (by kernel_rfl) (by kernel_rfl) (fun _ _ _ h => h) (Or.inl ⟨by rfl, ?hy30⟩) (by assumption) ?rest30
              case hy30 => (intro wS hSw; (try dsimp only at hSw); go_simp; (try with_reducible rfl))
              (try simp only [Act.put, zA, zB, zC])
              refine wpAnyH_ready (rs := [8]) (by kernel_rfl) (by simp) ?_
              refine AllReadyH.cons (o := ⟨some 75, _, _, _, _, some (2, true)⟩) rfl (fun K hK => ?_) AllReadyH.nil
              go_simp
              go_at_call 17
              refine (HO2.out _).mono ?_
              rintro e w4 ⟨rfl, f4⟩
              go_wp2_with fail
              refine hK.out _ _ (by exact ⟨f4.at0 t0, f4.at0 t1, f4.at0 t2, f4.at0 u0, f4.at0 u1, f4.at0 u2⟩) (fun hHeld => ?_)
              clear hK K
              (try simp only [Act.put, zA, zB, zC])
              refine wpAnyH_take (i := 9) (oi := ⟨some 76, _, _, _, _, some (2, true)⟩) (v := ?v31) rfl (by kernel_rfl) (by kernel_rfl) (by kernel_rfl) (fun _ _ _ h => h) (Or.inl ⟨by rfl, ?hy31⟩) (by assumption) ?rest31
              case hy31 => (intro wS hSw; (try dsimp only at hSw); go_simp; (try with_reducible rfl))
              (try simp only [Act.put, zA, zB, zC])
              refine wpAnyH_take (i := 10) (oi := ⟨some 77, _, _, _, _, none⟩) (v := ?v32) rfl (by kernel_rfl) (by kernel_rfl) (by kernel_rfl) (fun _ _ _ h => h) (Or.inl ⟨by rfl, ?hy32⟩) (by assumption) ?rest32
              case hy32 => (intro wS hSw; (try dsimp only at hSw); go_simp; (try with_reducible rfl))
              (try simp only [Act.put, zA, zB, zC])
              refine wpAnyH_take (i := 11) (oi := ⟨some 78, _, _, _, _, none⟩) (v := ?v33) rfl (by kernel_rfl) (by kernel_rfl) (by kernel_rfl) (fun _ _ _ h => h) (Or.inl ⟨by rfl, ?hy33⟩) (by assumption) ?rest33
              case hy33 => (intro wS hSw; (try dsimp only at hSw); go_simp; (try with_reducible rfl))
              (try simp only [Act.put, zA, zB, zC])
              refine wpAnyH_take (i := 12) (oi := ⟨some 79, _, _, _, _, some (11, false)⟩) (v := ?v34) rfl (by kernel_rfl) (by kernel_rfl) (by kernel_rfl) (fun _ _ _ h => h) (Or.inl ⟨by rfl, ?hy34⟩) (by assumption) ?rest34
              case hy34 => (intro wS hSw; (try dsimp only at hSw); go_simp; (try with_reducible rfl))
              (try simp only [Act.put, zA, zB, zC])
              refine wpAnyH_take (i := 13) (oi := ⟨some 80, _, _, _, _, some (11, false)⟩) (v := ?v35) rfl (by kernel_rfl) (by kernel_rfl) (by kernel_rfl) (fun _ _ _ h => h) (Or.inl ⟨by rfl, ?hy35⟩) (by assumption) ?rest35
              case hy35 => (intro wS hSw; (try dsimp only at hSw); go_simp; (try with_reducible rfl))
              (try simp only [Act.put, zA, zB, zC])
              refine wpAnyH_take (i := 14) (oi := ⟨some 81, _, _, _, _, some (11, false)⟩) (v := ?v36) rfl (by kernel_rfl) (by kernel_rfl) (by kernel_rfl) (fun _ _ _ h => h) (Or.inl ⟨by rfl, ?hy36⟩) (by assumption) ?rest36
              case hy36 => (intro wS hSw; (try dsimp only at hSw); go_simp; (try with_reducible rfl))
              (try simp only [Act.put, zA, zB, zC])
              refine wpAnyH_take (i := 15) (oi := ⟨some 82, _, _, _, _, some (14, true)⟩) (v := undef) rfl (by kernel_rfl) (by kernel_rfl) (by kernel_rfl) (fun _ _ _ h => h) (Or.inr ⟨by rfl, rfl⟩) (by assumption) ?_
              (try simp only [Act.put, zA, zB, zC])
              refine wpAnyH_take (i := 16) (oi := ⟨some 83, _, _, _, _, some (14, true)⟩) (v := undef) rfl (by kernel_rfl) (by kernel_rfl) (by kernel_rfl) (fun _ _ _ h => h) (Or.inr ⟨by rfl, rfl⟩) (by assumption) ?_
              (try simp only [Act.put, zA, zB, zC])
              refine wpAnyH_take (i := 17) (oi := ⟨some 84, _, _, _, _, some (14, true)⟩) (v := undef) rfl (by kernel_rfl) (by kernel_rfl) (by kernel_rfl) (fun _ _ _ h => h) (Or.inr ⟨by rfl, rfl⟩) (by assumption) ?_
              (try simp only [Act.put, zA, zB, zC])
              refine wpAnyH_take (i := 18) (oi := ⟨some 85, _, _, _, _, some (14, true)⟩) (v := undef) rfl (by kernel_rfl) (by kernel_rfl) (by kernel_rfl) (fun _ _ _ h => h) (Or.inr ⟨by rfl, rfl⟩) (by assumption) ?_
              (try simp only [Act.put, zA, zB, zC])
              refine wpAnyH_take (i := 19) (oi := ⟨some 86, _, _, _, _, some (14, true)⟩) (v := undef) rfl (by kernel_rfl) (by kernel_rfl) (by kernel_rfl) (fun _ _ _ h => h) (Or.inr ⟨by rfl, rfl⟩) (by assumption) ?_
              (try simp only [Act.put, zA, zB, zC])
              refine wpAnyH_take (i := 20) (oi := ⟨some 87, _, _, _, _, some (14, true)⟩) (v := undef) rfl (by kernel_rfl) (by kernel_rfl) (by kernel_rfl) (fun _ _ _ h => h) (Or.inr ⟨by rfl, rfl⟩) (by assumption) ?_
              (try simp only [Act.put, zA, zB, zC])
              refine wpAnyH_take (i := 21) (oi := ⟨some 88, _, _, _, _, some (14, true)⟩) (v := undef) rfl (by kernel_rfl) (by kernel_rfl) (by kernel_rfl) (fun _ _ _ h => h) (Or.inr ⟨by rfl, rfl⟩) (by assumption) ?_
              (try simp only [Act.put, zA, zB, zC])
              refine wpAnyH_take (i := 22) (oi := ⟨some 89, _, _, _, _, some (11, false)⟩) (v := ?v37) rfl (by kernel_rfl) (by kernel_rfl) (by kernel_rfl) (fun _ _ _ h => h) (Or.inl ⟨by rfl, ?hy37⟩) (by assumption) ?rest37
              case hy37 => (intro wS hSw; (try dsimp only at hSw); go_simp; (try with_reducible rfl))
              (try simp only [Act.put, zA, zB, zC])
              refine wpAnyH_take (i := 23) (oi := ⟨some 90, _, _, _, _, none⟩) (v := ?v38) rfl (by kernel_rfl) (by kernel_rfl) (by kernel_rfl) (fun _ _ _ h => h) (Or.inl ⟨by rfl, ?hy38⟩) (by assumption) ?rest38
              case hy38 => (intro wS hSw; (try dsimp only at hSw); go_simp; (try with_reducible rfl))
              (try simp only [Act.put, zA, zB, zC])
              refine wpAnyH_done (by kernel_rfl) ?_ _
              clear hHeld
              have FW := FV.trans f4
              have BB5 : Hid (ClB w4 D ⟨bn, bi, bt⟩) := Lib.hid (BB.out.fr FW (fun e => e))
              have CB5 := Lib.hid (CB.out.fr FW (fun e => e))
              have F5 := Lib.hid (FR.out.trans FW)
              have HB5 := Lib.hid (HBn.out)
              clear c0 c1 c2
              go_wp2
              go_roundw
              case rel => exact ⟨k + 1, _, by omega, by go_num, by rw [w6_wrap64, HSum.out], HB5, BB5, CB5, F5⟩
              case measure => simp [intOf]; omega
          · have HBy : Hid (0 < o → BestTo 5 L (k + 1) ⟨xn, xi, xt⟩) := Lib.hid (fun e => by have := HBm.out; simpa [e] using this)
            have HBn : Hid (¬ 0 < o → BestTo 5 L (k + 1) ⟨bn, bi, bt⟩) := Lib.hid (fun e => by have := HBm.out; simpa [e] using this)
            clear HBm
            by_cases ho : 0 < o
            · replace HBy := Lib.hid (HBy.out ho)
              have hd : decide (0 < o) = true := decide_eq_true ho
              clear ho HBn
              go_wp2
              obtain ⟨V, hV⟩ : ∃ V, V = wr.drew := ⟨_, rfl⟩
              refine wp_region_held_drew (S := (fun W' => W'.cell? (a.add (k * 3)) = some (.bool xn) ∧ W'.cell? { block := (a.add (k * 3)).block, off := (a.add (k * 3)).off + 1 } = some (.int .i64 xi) ∧ W'.cell? { block := (a.add (k * 3)).block, off := (a.add (k * 3)).off + 2 } = some (.string ⟨xt.toArray⟩) ∧ W'.cell? ⟨D, 0, none⟩ = some (.bool bn) ∧ W'.cell? ⟨D, 1, none⟩ = some (.int .i64 bi) ∧ W'.cell? ⟨D, 2, none⟩ = some (.string ⟨bt.toArray⟩))) (by kernel_rfl) (by exact ⟨t0, t1, t2, u0, u1, u2⟩) (fun hHeld => ?_)
              rw [← hV]
              rw [← hV] at hHeld
              have FV : Fr Non wr V := by rw [hV]; exact (Fr.refl Non wr).drew
              clear hV
              replace t0 := FV.at0 t0
              replace t1 := FV.at0 t1
              replace t2 := FV.at0 t2
              replace u0 := FV.at0 u0
              replace u1 := FV.at0 u1
              replace u2 := FV.at0 u2
              refine wpAnyH_take (i := 0) (oi := ⟨some 67, _, _, _, _, none⟩) (v := ?v39) rfl (by kernel_rfl) (by kernel_rfl) (by kernel_rfl) (fun _ _ _ h => h) (Or.inl ⟨by rfl, ?hy39⟩) (by assumption) ?rest39
              case hy39 => (intro wS hSw; (try dsimp only at hSw); go_simp; (try with_reducible rfl))
              (try simp only [Act.put, zA, zB, zC])
              refine wpAnyH_take (i := 1) (oi := ⟨some 68, _, _, _, _, none⟩) (v := ?v40) rfl (by kernel_rfl) (by kernel_rfl) (by kernel_rfl) (fun _ _ _ h => h) (Or.inl ⟨by rfl, ?hy40⟩) (by assumption) ?rest40
              case hy40 => (intro wS hSw; (try dsimp only at hSw); go_simp; (try with_reducible rfl))
              (try simp only [Act.put, zA, zB, zC])
              refine wpAnyH_take (i := 2) (oi := ⟨some 69, _, _, _, _, none⟩) (v := ?v41) rfl (by kernel_rfl) (by kernel_rfl) (by kernel_rfl) (fun _ _ _ h => h) (Or.inl ⟨by rfl, ?hy41⟩) (by assumption) ?rest41
              case hy41 => (intro wS hSw; (try dsimp only at hSw); go_simp; (try with_reducible rfl))
              (try simp only [Act.put, zA, zB, zC])
              refine wpAnyH_take (i := 3) (oi := ⟨some 70, _, _, _, _, some (2, true)⟩) (v := undef) rfl (by kernel_rfl) (by kernel_rfl) (by kernel_rfl) (fun _ _ _ h => h) (Or.inr ⟨by rfl, rfl⟩) (by assumption) ?_
              (try simp only [Act.put, zA, zB, zC])
              refine wpAnyH_take (i := 4) (oi := ⟨some 71, _, _, _, _, some (2, true)⟩) (v := undef) rfl (by kernel_rfl) (by kernel_rfl) (by kernel_rfl) (fun _ _ _ h => h) (Or.inr ⟨by rfl, rfl⟩) (by assumption) ?_
              (try simp only [Act.put, zA, zB, zC])
              refine wpAnyH_take (i := 5) (oi := ⟨some 72, _, _, _, _, some (2, true)⟩) (v := undef) rfl (by kernel_rfl) (by kernel_rfl) (by kernel_rfl) (fun _ _ _ h => h) (Or.inr ⟨by rfl, rfl⟩) (by assumption) ?_
              (try simp only [Act.put, zA, zB, zC])
              refine wpAnyH_take (i := 6) (oi := ⟨some 73, _, _, _, _, some (2, true)⟩) (v := undef) rfl (by kernel_rfl) (by kernel_rfl) (by kernel_rfl) (fun _ _ _ h => h) (Or.inr ⟨by rfl, rfl⟩) (by assumption) ?_
              (try simp only [Act.put, zA, zB, zC])
              refine wpAnyH_take (i := 7) (oi := ⟨some 74, _, _, _, _, some (2, true)⟩) (v := undef) rfl (by kernel_rfl) (by kernel_rfl) (by kernel_rfl) (fun _ _ _ h => h) (Or.inr ⟨by rfl, rfl⟩) (by assumption) ?_
              (try simp only [Act.put, zA, zB, zC])
              refine wpAnyH_take (i := 8) (oi := ⟨some 75, _, _, _, _, some (2, true)⟩) (v := undef) rfl (by kernel_rfl) (by kernel_rfl) (by kernel_rfl) (fun _ _ _ h => h) (Or.inr ⟨by rfl, rfl⟩) (by assumption) ?_
              (try simp only [Act.put, zA, zB, zC])
              refine wpAnyH_take (i := 9) (oi := ⟨some 76, _, _, _, _, some (2, true)⟩) (v := undef) rfl (by kernel_rfl) (by kernel_rfl) (by kernel_rfl) (fun _ _ _ h => h) (Or.inr ⟨by rfl, rfl⟩) (by assumption) ?_
              (try simp only [Act.put, zA, zB, zC])
              refine wpAnyH_take (i := 10) (oi := ⟨some 77, _, _, _, _, none⟩) (v := ?v42) rfl (by kernel_rfl) (by kernel_rfl) (by kernel_rfl) (fun _ _ _ h => h) (Or.inl ⟨by rfl, ?hy42⟩) (by assumption) ?rest42
              case hy42 => (intro wS hSw; (try dsimp only at hSw); go_simp; (try with_reducible rfl))
              (try simp only [Act.put, zA, zB, zC])
              refine wpAnyH_take (i := 11) (oi := ⟨some 78, _, _, _, _, none⟩) (v := ?v43) rfl (by kernel_rfl) (by kernel_rfl) (by kernel_rfl) (fun _ _ _ h => h) (Or.inl ⟨by rfl, ?hy43⟩) (by assumption) ?rest43
              case hy43 => (intro wS hSw; (try dsimp only at hSw); go_simp; (try with_reducible rfl))
              (try simp only [Act.put, zA, zB, zC])
              refine wpAnyH_take (i := 12) (oi := ⟨some 79, _, _, _, _, some (11, false)⟩) (v := ?v44) rfl (by kernel_rfl) (by kernel_rfl) (by kernel_rfl) (fun _ _ _ h => h) (Or.inl ⟨by rfl, ?hy44⟩) (by assumption) ?rest44
              case hy44 => (intro wS hSw; (try dsimp only at hSw); go_simp; (try with_reducible rfl))
              (try simp only [Act.put, zA, zB, zC])
              refine wpAnyH_take (i := 13) (oi := ⟨some 80, _, _, _, _, some (11, false)⟩) (v := ?v45) rfl (by kernel_rfl) (by kernel_rfl) (by kernel_rfl) (fun _ _ _ h => h) (Or.inl ⟨by rfl, ?hy45⟩) (by assumption) ?rest45
              case hy45 => (intro wS hSw; (try dsimp only at hSw); go_simp; (try with_reducible rfl))
              (try simp only [Act.put, zA, zB, zC])
              refine wpAnyH_take (i := 14) (oi := ⟨some 81, _, _, _, _, some (11, false)⟩) (v := ?v46) rfl (by kernel_rfl) (by kernel_rfl) (by kernel_rfl) (fun _ _ _ h => h) (Or.inl ⟨by rfl, ?hy46⟩) (by assumption) ?rest46
              case hy46 => (intro wS hSw; (try dsimp only at hSw); go_simp; (try with_reducible rfl))
              (try simp only [Act.put, zA, zB, zC])
              refine wpAnyH_take (i := 15) (oi := ⟨some 82, _, _, _, _, some (14, true)⟩) (v := ?v47) rfl (by kernel_rfl) (by kernel_rfl) (by kernel_rfl) (fun _ _ _ h => h) (Or.inl ⟨by rfl, ?hy47⟩) (by assumption) ?rest47
              case hy47 => (intro wS hSw; (try dsimp only at hSw); go_simp; (try with_reducible rfl))
              (try simp only [Act.put, zA, zB, zC])
              refine wpAnyH_take (i := 16) (oi := ⟨some 83, _, _, _, _, some (14, true)⟩) (v := ?v48) rfl (by kernel_rfl) (by kernel_rfl) (by kernel_rfl) (fun _ _ _ h => h) (Or.inl ⟨by rfl, ?hy48⟩) (by assumption) ?rest48
              case hy48 => (intro wS hSw; (try dsimp only at hSw); go_simp; (try with_reducible rfl))
              (try simp only [Act.put, zA, zB, zC])
              refine wpAnyH_take (i := 17) (oi := ⟨some 84, _, _, _, _, some (14, true)⟩) (v := ?v49) rfl (by kernel_rfl) (by kernel_rfl) (by kernel_rfl) (fun _ _ _ h => h) (Or.inl ⟨by rfl, ?hy49⟩) (by assumption) ?rest49
              case hy49 => (intro wS hSw; (try dsimp only at hSw); go_simp; (try with_reducible rfl))
              (try simp only [Act.put, zA, zB, zC])
              refine wpAnyH_take (i := 18) (oi := ⟨some 85, _, _, _, _, some (14, true)⟩) (v := ?v50) rfl (by kernel_rfl) (by kernel_rfl) (by kernel_rfl) (fun _ _ _ h => h) (Or.inl ⟨by rfl, ?hy50⟩) (by assumption) ?rest50
              case hy50 => (intro wS hSw; (try dsimp only at hSw); go_simp; (try with_reducible rfl))
              (try simp only [Act.put, zA, zB, zC])
              refine wpAnyH_take (i := 19) (oi := ⟨some 86, _, _, _, _, some (14, true)⟩) (v := ?v51) rfl (by kernel_rfl) (by kernel_rfl) (by kernel_rfl) (fun _ _ _ h => h) (Or.inl ⟨by rfl, ?hy51⟩) (by assumption) ?rest51
              case hy51 => (intro wS hSw; (try dsimp only at hSw); go_simp; (try with_reducible rfl))
              (try simp only [Act.put, zA, zB, zC])
              refine wpAnyH_ready (rs := [20]) (by kernel_rfl) (by simp) ?_
              refine AllReadyH.cons (o := ⟨some 87, _, _, _, _, some (14, true)⟩) rfl (fun K hK => ?_) AllReadyH.nil
              go_simp
              go_at_call 17
              refine (HO2.out _).mono ?_
              rintro e w4 ⟨rfl, f4⟩
              go_wp2_with fail
              refine hK.out _ _ (by exact ⟨f4.at0 t0, f4.at0 t1, f4.at0 t2, f4.at0 u0, f4.at0 u1, f4.at0 u2⟩) (fun hHeld => ?_)
              clear hK K
              (try simp only [Act.put, zA, zB, zC])
              refine wpAnyH_take (i := 21) (oi := ⟨some 88, _, _, _, _, some (14, true)⟩) (v := ?v52) rfl (by kernel_rfl) (by kernel_rfl) (by kernel_rfl) (fun _ _ _ h => h) (Or.inl ⟨by rfl, ?hy52⟩) (by assumption) ?rest52
              case hy52 => (intro wS hSw; (try dsimp only at hSw); go_simp; (try with_reducible rfl))
              (try simp only [Act.put, zA, zB, zC])
              refine wpAnyH_take (i := 22) (oi := ⟨some 89, _, _, _, _, some (11, false)⟩) (v := ?v53) rfl (by kernel_rfl) (by kernel_rfl) (by kernel_rfl) (fun _ _ _ h => h) (Or.inl ⟨by rfl, ?hy53⟩) (by assumption) ?rest53
              case hy53 => (intro wS hSw; (try dsimp only at hSw); go_simp; (try with_reducible rfl))
              (try simp only [Act.put, zA, zB, zC])
              refine wpAnyH_take (i := 23) (oi := ⟨some 90, _, _, _, _, none⟩) (v := ?v54) rfl (by kernel_rfl) (by kernel_rfl) (by kernel_rfl) (fun _ _ _ h => h) (Or.inl ⟨by rfl, ?hy54⟩) (by assumption) ?rest54
              case hy54 => (intro wS hSw; (try dsimp only at hSw); go_simp; (try with_reducible rfl))
              (try simp only [Act.put, zA, zB, zC])
              refine wpAnyH_done (by kernel_rfl) ?_ _
              clear hHeld
              have FW := FV.trans f4
              have BB4 : ClB w4 D ⟨bn, bi, bt⟩ := BB.out.fr FW (fun e => e)
              have s5 := setCl_fr w4 D xn xi xt
              have BB5 := Lib.hid (setCl_B BB4 xn xi xt)
              have CB5 := Lib.hid ((CB.out.fr FW (fun e => e)).fr s5 (fun e => by have : g = D := e; omega))
              have F5 := Lib.hid ((FR.out.trans FW).fresh s5 (fun k e => by have : k = D := e; have := HD.out; omega))
              have t0 := FW.at0 c0
              have t1 := FW.at0 c1
              have t2 := FW.at0 c2
              obtain ⟨p0, p1, p2, z0, z1, z2⟩ := BB4.facts
              dsimp only at p0 p1 p2
              clear c0 c1 c2 BB4 s5
              have HB5 := Lib.hid (HBy.out)
              unfold setCl at BB5 CB5 F5
              go_wp2
              go_roundw
              case rel => exact ⟨k + 1, _, by omega, by go_num, by rw [w6_wrap64, HSum.out], HB5, BB5, CB5, F5⟩
              case measure => simp [intOf]; omega
            · replace HBn := Lib.hid (HBn.out ho)
              have hd : decide (0 < o) = false := decide_eq_false ho
              clear ho HBy
              go_wp2
              obtain ⟨V, hV⟩ : ∃ V, V = wr.drew := ⟨_, rfl⟩
              refine wp_region_held_drew (S := (fun W' => W'.cell? (a.add (k * 3)) = some (.bool xn) ∧ W'.cell? { block := (a.add (k * 3)).block, off := (a.add (k * 3)).off + 1 } = some (.int .i64 xi) ∧ W'.cell? { block := (a.add (k * 3)).block, off := (a.add (k * 3)).off + 2 } = some (.string ⟨xt.toArray⟩) ∧ W'.cell? ⟨D, 0, none⟩ = some (.bool bn) ∧ W'.cell? ⟨D, 1, none⟩ = some (.int .i64 bi) ∧ W'.cell? ⟨D, 2, none⟩ = some (.string ⟨bt.toArray⟩))) (by kernel_rfl) (by exact ⟨t0, t1, t2, u0, u1, u2⟩) (fun hHeld => ?_)
              rw [← hV]
              rw [← hV] at hHeld
              have FV : Fr Non wr V := by rw [hV]; exact (Fr.refl Non wr).drew
              clear hV
              replace t0 := FV.at0 t0
              replace t1 := FV.at0 t1
              replace t2 := FV.at0 t2
              replace u0 := FV.at0 u0
              replace u1 := FV.at0 u1
              replace u2 := FV.at0 u2
              refine wpAnyH_take (i := 0) (oi := ⟨some 67, _, _, _, _, none⟩) (v := ?v55) rfl (by kernel_rfl) (by kernel_rfl) (by kernel_rfl) (fun _ _ _ h => h) (Or.inl ⟨by rfl, ?hy55⟩) (by assumption) ?rest55
              case hy55 => (intro wS hSw; (try dsimp only at hSw); go_simp; (try with_reducible rfl))
              (try simp only [Act.put, zA, zB, zC])
              refine wpAnyH_take (i := 1) (oi := ⟨some 68, _, _, _, _, none⟩) (v := ?v56) rfl (by kernel_rfl) (by kernel_rfl) (by kernel_rfl) (fun _ _ _ h => h) (Or.inl ⟨by rfl, ?hy56⟩) (by assumption) ?rest56
              case hy56 => (intro wS hSw; (try dsimp only at hSw); go_simp; (try with_reducible rfl))
              (try simp only [Act.put, zA, zB, zC])
              refine wpAnyH_take (i := 2) (oi := ⟨some 69, _, _, _, _, none⟩) (v := ?v57) rfl (by kernel_rfl) (by kernel_rfl) (by kernel_rfl) (fun _ _ _ h => h) (Or.inl ⟨by rfl, ?hy57⟩) (by assumption) ?rest57
              case hy57 => (intro wS hSw; (try dsimp only at hSw); go_simp; (try with_reducible rfl))
              (try simp only [Act.put, zA, zB, zC])
              refine wpAnyH_take (i := 3) (oi := ⟨some 70, _, _, _, _, some (2, true)⟩) (v := undef) rfl (by kernel_rfl) (by kernel_rfl) (by kernel_rfl) (fun _ _ _ h => h) (Or.inr ⟨by rfl, rfl⟩) (by assumption) ?_
              (try simp only [Act.put, zA, zB, zC])
              refine wpAnyH_take (i := 4) (oi := ⟨some 71, _, _, _, _, some (2, true)⟩) (v := undef) rfl (by kernel_rfl) (by kernel_rfl) (by kernel_rfl) (fun _ _ _ h => h) (Or.inr ⟨by rfl, rfl⟩) (by assumption) ?_
              (try simp only [Act.put, zA, zB, zC])
              refine wpAnyH_take (i := 5) (oi := ⟨some 72, _, _, _, _, some (2, true)⟩) (v := undef) rfl (by kernel_rfl) (by kernel_rfl) (by kernel_rfl) (fun _ _ _ h => h) (Or.inr ⟨by rfl, rfl⟩) (by assumption) ?_
              (try simp only [Act.put, zA, zB, zC])
              refine wpAnyH_take (i := 6) (oi := ⟨some 73, _, _, _, _, some (2, true)⟩) (v := undef) rfl (by kernel_rfl) (by kernel_rfl) (by kernel_rfl) (fun _ _ _ h => h) (Or.inr ⟨by rfl, rfl⟩) (by assumption) ?_
              (try simp only [Act.put, zA, zB, zC])
              refine wpAnyH_take (i := 7) (oi := ⟨some 74, _, _, _, _, some (2, true)⟩) (v := undef) rfl (by kernel_rfl) (by kernel_rfl) (by kernel_rfl) (fun _ _ _ h => h) (Or.inr ⟨by rfl, rfl⟩) (by assumption) ?_
              (try simp only [Act.put, zA, zB, zC])
              refine wpAnyH_take (i := 8) (oi := ⟨some 75, _, _, _, _, some (2, true)⟩) (v := undef) rfl (by kernel_rfl) (by kernel_rfl) (by kernel_rfl) (fun _ _ _ h => h) (Or.inr ⟨by rfl, rfl⟩) (by assumption) ?_
              (try simp only [Act.put, zA, zB, zC])
              refine wpAnyH_take (i := 9) (oi := ⟨some 76, _, _, _, _, some (2, true)⟩) (v := undef) rfl (by kernel_rfl) (by kernel_rfl) (by kernel_rfl) (fun _ _ _ h => h) (Or.inr ⟨by rfl, rfl⟩) (by assumption) ?_
              (try simp only [Act.put, zA, zB, zC])
              refine wpAnyH_take (i := 10) (oi := ⟨some 77, _, _, _, _, none⟩) (v := ?v58) rfl (by kernel_rfl) (by kernel_rfl) (by kernel_rfl) (fun _ _ _ h => h) (Or.inl ⟨by rfl, ?hy58⟩) (by assumption) ?rest58
              case hy58 => (intro wS hSw; (try dsimp only at hSw); go_simp; (try with_reducible rfl))
              (try simp only [Act.put, zA, zB, zC])
              refine wpAnyH_take (i := 11) (oi := ⟨some 78, _, _, _, _, none⟩) (v := ?v59) rfl (by kernel_rfl) (by kernel_rfl) (by kernel_rfl) (fun _ _ _ h => h) (Or.inl ⟨by rfl, ?hy59⟩) (by assumption) ?rest59
              case hy59 => (intro wS hSw; (try dsimp only at hSw); go_simp; (try with_reducible rfl))
              (try simp only [Act.put, zA, zB, zC])
              refine wpAnyH_take (i := 12) (oi := ⟨some 79, _, _, _, _, some (11, false)⟩) (v := ?v60) rfl (by kernel_rfl) (by kernel_rfl) (by kernel_rfl) (fun _ _ _ h => h) (Or.inl ⟨by rfl, ?hy60⟩) (by assumption) ?rest60
              case hy60 => (intro wS hSw; (try dsimp only at hSw); go_simp; (try with_reducible rfl))
              (try simp only [Act.put, zA, zB, zC])
              refine wpAnyH_take (i := 13) (oi := ⟨some 80, _, _, _, _, some (11, false)⟩) (v := ?v61) rfl (by kernel_rfl) (by kernel_rfl) (by kernel_rfl) (fun _ _ _ h => h) (Or.inl ⟨by rfl, ?hy61⟩) (by assumption) ?rest61
              case hy61 => (intro wS hSw; (try dsimp only at hSw); go_simp; (try with_reducible rfl))
              (try simp only [Act.put, zA, zB, zC])
              refine wpAnyH_take (i := 14) (oi := ⟨some 81, _, _, _, _, some (11, false)⟩) (v := ?v62) rfl (by kernel_rfl) (by kernel_rfl) (by kernel_rfl) (fun _ _ _ h => h) (Or.inl ⟨by rfl, ?hy62⟩) (by assumption) ?rest62
              case hy62 => (intro wS hSw; (try dsimp only at hSw); go_simp; (try with_reducible rfl))
              (try simp only [Act.put, zA, zB, zC])
              refine wpAnyH_take (i := 15) (oi := ⟨some 82, _, _, _, _, some (14, true)⟩) (v := ?v63) rfl (by kernel_rfl) (by kernel_rfl) (by kernel_rfl) (fun _ _ _ h => h) (Or.inl ⟨by rfl, ?hy63⟩) (by assumption) ?rest63
              case hy63 => (intro wS hSw; (try dsimp only at hSw); go_simp; (try with_reducible rfl))
              (try simp only [Act.put, zA, zB, zC])
              refine wpAnyH_take (i := 16) (oi := ⟨some 83, _, _, _, _, some (14, true)⟩) (v := ?v64) rfl (by kernel_rfl) (by kernel_rfl) (by kernel_rfl) (fun _ _ _ h => h) (Or.inl ⟨by rfl, ?hy64⟩) (by assumption) ?rest64
              case hy64 => (intro wS hSw; (try dsimp only at hSw); go_simp; (try with_reducible rfl))
              (try simp only [Act.put, zA, zB, zC])
              refine wpAnyH_take (i := 17) (oi := ⟨some 84, _, _, _, _, some (14, true)⟩) (v := ?v65) rfl (by kernel_rfl) (by kernel_rfl) (by kernel_rfl) (fun _ _ _ h => h) (Or.inl ⟨by rfl, ?hy65⟩) (by assumption) ?rest65
              case hy65 => (intro wS hSw; (try dsimp only at hSw); go_simp; (try with_reducible rfl))
              (try simp only [Act.put, zA, zB, zC])
              refine wpAnyH_take (i := 18) (oi := ⟨some 85, _, _, _, _, some (14, true)⟩) (v := ?v66) rfl (by kernel_rfl) (by kernel_rfl) (by kernel_rfl) (fun _ _ _ h => h) (Or.inl ⟨by rfl, ?hy66⟩) (by assumption) ?rest66
              case hy66 => (intro wS hSw; (try dsimp only at hSw); go_simp; (try with_reducible rfl))
              (try simp only [Act.put, zA, zB, zC])
              refine wpAnyH_take (i := 19) (oi := ⟨some 86, _, _, _, _, some (14, true)⟩) (v := ?v67) rfl (by kernel_rfl) (by kernel_rfl) (by kernel_rfl) (fun _ _ _ h => h) (Or.inl ⟨by rfl, ?hy67⟩) (by assumption) ?rest67
              case hy67 => (intro wS hSw; (try dsimp only at hSw); go_simp; (try with_reducible rfl))
              (try simp only [Act.put, zA, zB, zC])
              refine wpAnyH_ready (rs := [20]) (by kernel_rfl) (by simp) ?_
              refine AllReadyH.cons (o := ⟨some 87, _, _, _, _, some (14, true)⟩) rfl (fun K hK => ?_) AllReadyH.nil
              go_simp
              go_at_call 17
              refine (HO2.out _).mono ?_
              rintro e w4 ⟨rfl, f4⟩
              go_wp2_with fail
              refine hK.out _ _ (by exact ⟨f4.at0 t0, f4.at0 t1, f4.at0 t2, f4.at0 u0, f4.at0 u1, f4.at0 u2⟩) (fun hHeld => ?_)
              clear hK K
              (try simp only [Act.put, zA, zB, zC])
              refine wpAnyH_take (i := 21) (oi := ⟨some 88, _, _, _, _, some (14, true)⟩) (v := ?v68) rfl (by kernel_rfl) (by kernel_rfl) (by kernel_rfl) (fun _ _ _ h => h) (Or.inl ⟨by rfl, ?hy68⟩) (by assumption) ?rest68
              case hy68 => (intro wS hSw; (try dsimp only at hSw); go_simp; (try with_reducible rfl))
              (try simp only [Act.put, zA, zB, zC])
              refine wpAnyH_take (i := 22) (oi := ⟨some 89, _, _, _, _, some (11, false)⟩) (v := ?v69) rfl (by kernel_rfl) (by kernel_rfl) (by kernel_rfl) (fun _ _ _ h => h) (Or.inl ⟨by rfl, ?hy69⟩) (by assumption) ?rest69
              case hy69 => (intro wS hSw; (try dsimp only at hSw); go_simp; (try with_reducible rfl))
              (try simp only [Act.put, zA, zB, zC])
              refine wpAnyH_take (i := 23) (oi := ⟨some 90, _, _, _, _, none⟩) (v := ?v70) rfl (by kernel_rfl) (by kernel_rfl) (by kernel_rfl) (fun _ _ _ h => h) (Or.inl ⟨by rfl, ?hy70⟩) (by assumption) ?rest70
              case hy70 => (intro wS hSw; (try dsimp only at hSw); go_simp; (try with_reducible rfl))
              (try simp only [Act.put, zA, zB, zC])
              refine wpAnyH_done (by kernel_rfl) ?_ _
              clear hHeld
              have FW := FV.trans f4
              have BB5 : Hid (ClB w4 D ⟨bn, bi, bt⟩) := Lib.hid (BB.out.fr FW (fun e => e))
              have CB5 := Lib.hid (CB.out.fr FW (fun e => e))
              have F5 := Lib.hid (FR.out.trans FW)
              have HB5 := Lib.hid (HBn.out)
              clear c0 c1 c2
              go_wp2
              go_roundw
              case rel => exact ⟨k + 1, _, by omega, by go_num, by rw [w6_wrap64, HSum.out], HB5, BB5, CB5, F5⟩
              case measure => simp [intOf]; omega
        · have hke2 : k = L.length := by omega
          rw [hke2] at HBe
          have hs3 : Hid (op = 3 → r = ⟨false, w6 (totC (L.take k)), []⟩) := Lib.hid (fun e => by rw [hke2]; exact HE3.out e)
          clear hke2 HE3
          generalize w6 (totC (L.take k)) = sk at *
          obtain ⟨bn, bi, bt⟩ := best
          have CBo : ClB wr g ⟨false, 0, []⟩ := CB.out
          have HF2 := Lib.hid (HF.out.trans FR.out)
          obtain ⟨u0, u1, u2, -⟩ := BB.out.facts
          dsimp only at u0 u1 u2
          rcases hop with rfl | rfl | rfl
          · have HE := Lib.hid (hs3.out rfl)
            clear HE4 HE5 hs3 HBe
            have CB6 := Lib.hid (setCl_B CBo false sk [])
            have F6 := Lib.hid (HF2.out.fresh (setCl_fr wr g false sk []) (fun k e => by have : k = g := e; have := HG.out; omega))
            obtain ⟨p0, p1, p2, z0, z1, z2⟩ := ClB.facts CBo
            dsimp only at p0 p1 p2
            go_wp2
            exact bodyPost_ret (v := clV ⟨false, sk, []⟩) (ret_cl (p := 4) rfl _ _ g ⟨false, sk, []⟩ (by rfl) CB6.out) rfl ⟨by rw [HE.out], F6.out⟩
          · have HE := Lib.hid (HE4.out rfl _ HBe.out)
            clear HE4 HE5 hs3 HBe
            have CB6 := Lib.hid (setCl_B CBo bn bi bt)
            have F6 := Lib.hid (HF2.out.fresh (setCl_fr wr g bn bi bt) (fun k e => by have : k = g := e; have := HG.out; omega))
            obtain ⟨p0, p1, p2, z0, z1, z2⟩ := ClB.facts CBo
            dsimp only at p0 p1 p2
            go_wp2
            exact bodyPost_ret (v := clV ⟨bn, bi, bt⟩) (ret_cl (p := 4) rfl _ _ g ⟨bn, bi, bt⟩ (by rfl) CB6.out) rfl ⟨by rw [HE.out], F6.out⟩
          · have HE := Lib.hid (HE5.out rfl _ HBe.out)
            clear HE4 HE5 hs3 HBe
            have CB6 := Lib.hid (setCl_B CBo bn bi bt)
            have F6 := Lib.hid (HF2.out.fresh (setCl_fr wr g bn bi bt) (fun k e => by have : k = g := e; have := HG.out; omega))
            obtain ⟨p0, p1, p2, z0, z1, z2⟩ := ClB.facts CBo
            dsimp only at p0 p1 p2
            go_wp2
            exact bodyPost_ret (v := clV ⟨bn, bi, bt⟩) (ret_cl (p := 4) rfl _ _ g ⟨bn, bi, bt⟩ (by rfl) CB6.out) rfl ⟨by rw [HE.out], F6.out⟩
end Go.Proofs.YtjcfjjhhbcgcmaaGreat

namespace Go.Proofs.YtjcfjjhhbcgcmaaGreat
open Go.RowKit
structure Kv where
  A : Option Addr
  n : Nat
  c : Nat
def kidV (s : Kv) : Value := .slice s.A s.n s.c
def noKv : Kv := ⟨none, 0, 0⟩
def pdL (x : Ph × Kv) : List Value := [.int .i64 x.1.op, .string ⟨x.1.col.toArray⟩, .int .i64 x.1.cmp, .bool x.1.val.null, .int .i64 x.1.val.num, .string ⟨x.1.val.txt.toArray⟩, .int .i64 x.1.kind, .string ⟨x.1.pat.toArray⟩, kidV x.2]
def pdC (h : Ph) (s : Kv) : Array Value := #[.int .i64 h.op, .string ⟨h.col.toArray⟩, .int .i64 h.cmp, .bool h.val.null, .int .i64 h.val.num, .string ⟨h.val.txt.toArray⟩, .int .i64 h.kind, .string ⟨h.pat.toArray⟩, kidV s]
def pdV (h : Ph) (s : Kv) : Value := .agg (pdC h s)
def PCells (w : World) (a : Addr) (h : Ph) (s : Kv) : Prop :=
  w.cell? a = some (.int .i64 h.op) ∧ w.cell? { block := a.block, off := a.off + 1 } = some (.string ⟨h.col.toArray⟩) ∧ w.cell? { block := a.block, off := a.off + 2 } = some (.int .i64 h.cmp) ∧
  w.cell? { block := a.block, off := a.off + 3 } = some (.bool h.val.null) ∧ w.cell? { block := a.block, off := a.off + 4 } = some (.int .i64 h.val.num) ∧ w.cell? { block := a.block, off := a.off + 5 } = some (.string ⟨h.val.txt.toArray⟩) ∧
  w.cell? { block := a.block, off := a.off + 6 } = some (.int .i64 h.kind) ∧ w.cell? { block := a.block, off := a.off + 7 } = some (.string ⟨h.pat.toArray⟩) ∧ w.cell? { block := a.block, off := a.off + 8 } = some (.slice s.A s.n s.c)
theorem pd_lit {w : World} {a : Addr} {h : Ph} {s : Kv} (e : AtN w a (pdL (h, s))) : PCells w a h s :=
  ⟨e 0 _ rfl, e 1 _ rfl, e 2 _ rfl, e 3 _ rfl, e 4 _ rfl, e 5 _ rfl, e 6 _ rfl, e 7 _ rfl, e 8 _ rfl⟩
abbrev PdB (w : World) (g : Nat) (h : Ph) (s : Kv) : Prop := Blk w g 28 (pdC h s)
def PBlk (w : World) (g : Nat) (h : Ph) (s : Kv) : Prop :=
  w.cell? ⟨g, 0, none⟩ = some (.int .i64 h.op) ∧ w.cell? ⟨g, 1, none⟩ = some (.string ⟨h.col.toArray⟩) ∧ w.cell? ⟨g, 2, none⟩ = some (.int .i64 h.cmp) ∧
  w.cell? ⟨g, 3, none⟩ = some (.bool h.val.null) ∧ w.cell? ⟨g, 4, none⟩ = some (.int .i64 h.val.num) ∧ w.cell? ⟨g, 5, none⟩ = some (.string ⟨h.val.txt.toArray⟩) ∧
  w.cell? ⟨g, 6, none⟩ = some (.int .i64 h.kind) ∧ w.cell? ⟨g, 7, none⟩ = some (.string ⟨h.pat.toArray⟩) ∧ w.cell? ⟨g, 8, none⟩ = some (.slice s.A s.n s.c)
theorem pdB_cells {w : World} {g : Nat} {h : Ph} {s : Kv} (e : PdB w g h s) : PBlk w g h s :=
  ⟨e.cell 0, e.cell 1, e.cell 2, e.cell 3, e.cell 4, e.cell 5, e.cell 6, e.cell 7, e.cell 8⟩
theorem pd_new (w : World) (g : Nat) (h : Ph) (s : Kv) (hg : g = w.heap.size) : PdB (w.alloc (.cells (pdC h s) 28)) g h s := by subst hg; exact Blk.new _ _ _
theorem pd2_new (w : World) (g : Nat) (a b : Ph) (s t : Kv) (hg : g = w.heap.size) : PdB ((w.alloc (.cells (pdC a s) 28)).alloc (.cells (pdC b t) 28)) g a s ∧ PdB ((w.alloc (.cells (pdC a s) 28)).alloc (.cells (pdC b t) 28)) (g + 1) b t := by
  subst hg
  refine ⟨(Blk.new _ _ _).fr ((Fr.refl Non _).alloc _) (fun e => e), ?_⟩
  have h : PdB ((w.alloc (.cells (pdC a s) 28)).alloc (.cells (pdC b t) 28)) (w.alloc (.cells (pdC a s) 28)).heap.size b t := Blk.new _ _ _
  rw [show (w.alloc (.cells (pdC a s) 28)).heap.size = w.heap.size + 1 by simp] at h
  exact h
inductive Kd (w : World) : Kv → List Pd → Prop
  | mk (s : Kv) (ns : List (Ph × Kv)) (ps : List Pd) (hl : ns.length = ps.length) (hN : Ns pdL 9 w (kidV s) ns)
    (hh : ∀ i (h1 : i < ns.length) (h2 : i < ps.length), ns[i].1 = ps[i].hd) (hb : ∀ i (h2 : i < ps.length), I64b ps[i].hd.val.num)
    (hk : ∀ i (h1 : i < ns.length) (h2 : i < ps.length), Kd w ns[i].2 ps[i].kids) : Kd w s ps
theorem Kd.non {w w' : World} {s : Kv} {ps : List Pd} (h : Kd w s ps) (hf : Fr Non w w') : Kd w' s ps := by
  induction h with
  | mk s ns ps hl hN hh hb hk ih => exact .mk s ns ps hl (hN.non hf) hh hb ih
theorem Kd.nil_ (w : World) : Kd w noKv [] := .mk _ [] [] rfl (Ns.nil_ w) (fun i h => by cases h) (fun i h => by cases h) (fun i h => by cases h)
theorem Kd.len {w : World} {s : Kv} {ps : List Pd} (h : Kd w s ps) : s.n = ps.length := by
  cases h with
  | mk s ns ps hl hN hh hb hk =>
    obtain ⟨A, c, e, _⟩ := hN
    unfold kidV at e
    simp only [Value.slice.injEq] at e
    omega
theorem Kd.el {w : World} {s : Kv} {ps : List Pd} (h : Kd w s ps) (j : Nat) (hj : j < ps.length) :
    ∃ a t, s.A = some a ∧ PCells w (a.add (j * 9)) ps[j].hd t ∧ Kd w t ps[j].kids ∧ I64b ps[j].hd.val.num := by
  cases h with
  | mk s ns ps hl hN hh hb hk =>
    have hj' : j < ns.length := by omega
    obtain ⟨a, ha, hc⟩ := hN.at_ j ns[j] (List.getElem?_eq_getElem hj')
    have e := hh j hj' hj
    refine ⟨a, ns[j].2, ha, ?_, hk j hj' hj, hb j hj⟩
    rw [← e]
    exact pd_lit hc
def peq (a b : Ph) : Bool := decide (a = b)
theorem ceq_unl {a b : Cl} (h : ceq a b = false) : a ≠ b := by simpa [ceq] using h
set_option maxHeartbeats 2000000 in
theorem alike_any (a b : Ph) (s t : Kv) (w : World) : Calls Tryz.prog 110 #[pdV a s, pdV b t] w fun e w' => e = .returned (.bool (peq a b)) ∧ Fr Non w w' := by
  have S1 := fun W => csame_any a.val b.val W
  have B0 := Lib.hid (pd2_new w _ a b s t rfl)
  have HN : Hid (a ≠ b → peq a b = false) := Lib.hid (fun h => decide_eq_false h)
  have HA : Hid (a = b → peq a b = true) := Lib.hid (fun h => decide_eq_true h)
  obtain ⟨ao, ac, am, ⟨an, ai, at_⟩, ak, ap⟩ := a
  obtain ⟨bo, bc, bm, ⟨bn, bi, bt⟩, bk, bp⟩ := b
  obtain ⟨sA, sn, sc⟩ := s
  obtain ⟨tA, tn, tc⟩ := t
  unfold pdV pdC kidV
  unfold PdB pdC kidV at B0
  unfold clV clC at S1
  dsimp only at *
  by_cases ho : ao = bo
  · subst ho
    by_cases hc : ac = bc
    · subst hc
      by_cases hm : am = bm
      · subst hm
        by_cases hk : ak = bk
        · subst hk
          cases hv : ceq ⟨an, ai, at_⟩ ⟨bn, bi, bt⟩
          · have HE : Hid (peq _ _ = false) := Lib.hid (HN.out (fun e => ceq_unl hv (by cases e; rfl)))
            simp only [hv] at S1
            clear HN HA hv B0
            replace S1 := Lib.hid S1
            go_enter Tryz.func110, Tryz.ntmps110
            go_wp2_with fail
            refine (S1.out _).mono ?_
            rintro e w1 ⟨rfl, f1⟩
            go_wp2
            go_ret
            exact ⟨ret_boolE HE.out.symm, (((Fr.refl _ _).alloc _).alloc _).trans f1⟩
          · simp only [hv] at S1
            have hv2 := ceq_is hv
            clear hv
            cases hv2
            have HE : Hid (peq ⟨ao, ac, am, ⟨an, ai, at_⟩, ak, ap⟩ ⟨ao, ac, am, ⟨an, ai, at_⟩, ak, bp⟩ = (ap == bp)) := Lib.hid (by
              by_cases e : ap = bp
              · subst e; rw [HA.out rfl]; simp
              · rw [HN.out (fun h => e (by cases h; rfl))]; symm; rw [beq_eq_false_iff_ne]; exact e)
            clear HN HA
            replace S1 := Lib.hid S1
            go_enter Tryz.func110, Tryz.ntmps110
            go_wp2_with fail
            refine (S1.out _).mono ?_
            rintro e w1 ⟨rfl, f1⟩
            have g1 := (B0.out.1.fr f1 (fun e => e)).cell 7
            have g2 := (B0.out.2.fr f1 (fun e => e)).cell 7
            simp at g1 g2
            clear B0
            go_wp2
            go_ret
            exact ⟨ret_boolE HE.out.symm, (((Fr.refl _ _).alloc _).alloc _).trans f1⟩
        · have ek : (ak == bk) = false := by rw [beq_eq_false_iff_ne]; exact hk
          have HE : Hid (peq _ _ = false) := Lib.hid (HN.out (fun e => hk (by cases e; rfl)))
          clear S1 hk HN HA B0
          go_enter Tryz.func110, Tryz.ntmps110
          go_wp2
          go_ret
          exact ⟨ret_boolE HE.out.symm, ((Fr.refl _ _).alloc _).alloc _⟩
      · have em : (am == bm) = false := by rw [beq_eq_false_iff_ne]; exact hm
        have HE : Hid (peq _ _ = false) := Lib.hid (HN.out (fun e => hm (by cases e; rfl)))
        clear S1 hm HN HA B0
        go_enter Tryz.func110, Tryz.ntmps110
        go_wp2
        go_ret
        exact ⟨ret_boolE HE.out.symm, ((Fr.refl _ _).alloc _).alloc _⟩
    · have ec : (ac == bc) = false := by rw [beq_eq_false_iff_ne]; exact hc
      have HE : Hid (peq _ _ = false) := Lib.hid (HN.out (fun e => hc (by cases e; rfl)))
      clear S1 hc HN HA B0
      go_enter Tryz.func110, Tryz.ntmps110
      go_wp2
      go_ret
      exact ⟨ret_boolE HE.out.symm, ((Fr.refl _ _).alloc _).alloc _⟩
  · have eo : (ao == bo) = false := by rw [beq_eq_false_iff_ne]; exact ho
    have HE : Hid (peq _ _ = false) := Lib.hid (HN.out (fun e => ho (by cases e; rfl)))
    clear S1 ho HN HA B0
    go_enter Tryz.func110, Tryz.ntmps110
    go_wp2
    go_ret
    exact ⟨ret_boolE HE.out.symm, ((Fr.refl _ _).alloc _).alloc _⟩
set_option maxHeartbeats 2000000 in
theorem flat_any (a b : Ph) (s t : Kv) (w : World) : Calls Tryz.prog 127 #[pdV a s, pdV b t] w fun e w' => e = .returned (.bool (peq a b)) ∧ Fr Non w w' := by
  have S1 := fun W => run_eql_cl W a.val b.val
  have B0 := Lib.hid (pd2_new w _ a b s t rfl)
  have HN : Hid (a ≠ b → peq a b = false) := Lib.hid (fun h => decide_eq_false h)
  have HA : Hid (a = b → peq a b = true) := Lib.hid (fun h => decide_eq_true h)
  obtain ⟨ao, ac, am, ⟨an, ai, at_⟩, ak, ap⟩ := a
  obtain ⟨bo, bc, bm, ⟨bn, bi, bt⟩, bk, bp⟩ := b
  obtain ⟨sA, sn, sc⟩ := s
  obtain ⟨tA, tn, tc⟩ := t
  unfold pdV pdC kidV
  unfold PdB pdC kidV at B0
  dsimp only at *
  by_cases ho : ao = bo
  · subst ho
    by_cases hc : ac = bc
    · subst hc
      by_cases hm : am = bm
      · subst hm
        cases hv : ceq ⟨an, ai, at_⟩ ⟨bn, bi, bt⟩
        · have HE : Hid (peq _ _ = false) := Lib.hid (HN.out (fun e => ceq_unl hv (by cases e; rfl)))
          simp only [hv] at S1
          clear HN HA hv B0
          go_enter Tryz.func127, Tryz.ntmps127
          go_wp2
          go_ret
          exact ⟨ret_boolE HE.out.symm, ((Fr.refl _ _).alloc _).alloc _⟩
        · simp only [hv] at S1
          have hv2 := ceq_is hv
          clear hv
          cases hv2
          by_cases hk : ak = bk
          · subst hk
            have HE : Hid (peq ⟨ao, ac, am, ⟨an, ai, at_⟩, ak, ap⟩ ⟨ao, ac, am, ⟨an, ai, at_⟩, ak, bp⟩ = (ap == bp)) := Lib.hid (by
              by_cases e : ap = bp
              · subst e; rw [HA.out rfl]; simp
              · rw [HN.out (fun h => e (by cases h; rfl))]; symm; rw [beq_eq_false_iff_ne]; exact e)
            clear HN HA
            clear B0
            go_enter Tryz.func127, Tryz.ntmps127
            go_wp2
            go_ret
            exact ⟨ret_boolE HE.out.symm, ((Fr.refl _ _).alloc _).alloc _⟩
          · have ek : (ak == bk) = false := by rw [beq_eq_false_iff_ne]; exact hk
            have HE : Hid (peq _ _ = false) := Lib.hid (HN.out (fun e => hk (by cases e; rfl)))
            clear S1 hk HN HA B0
            go_enter Tryz.func127, Tryz.ntmps127
            go_wp2
            go_ret
            exact ⟨ret_boolE HE.out.symm, ((Fr.refl _ _).alloc _).alloc _⟩
      · have em : (am == bm) = false := by rw [beq_eq_false_iff_ne]; exact hm
        have HE : Hid (peq _ _ = false) := Lib.hid (HN.out (fun e => hm (by cases e; rfl)))
        clear S1 hm HN HA B0
        go_enter Tryz.func127, Tryz.ntmps127
        go_wp2
        go_ret
        exact ⟨ret_boolE HE.out.symm, ((Fr.refl _ _).alloc _).alloc _⟩
    · have ec : (ac == bc) = false := by rw [beq_eq_false_iff_ne]; exact hc
      have HE : Hid (peq _ _ = false) := Lib.hid (HN.out (fun e => hc (by cases e; rfl)))
      clear S1 hc HN HA B0
      go_enter Tryz.func127, Tryz.ntmps127
      go_wp2
      go_ret
      exact ⟨ret_boolE HE.out.symm, ((Fr.refl _ _).alloc _).alloc _⟩
  · have eo : (ao == bo) = false := by rw [beq_eq_false_iff_ne]; exact ho
    have HE : Hid (peq _ _ = false) := Lib.hid (HN.out (fun e => ho (by cases e; rfl)))
    clear S1 ho HN HA B0
    go_enter Tryz.func127, Tryz.ntmps127
    go_wp2
    go_ret
    exact ⟨ret_boolE HE.out.symm, ((Fr.refl _ _).alloc _).alloc _⟩
end Go.Proofs.YtjcfjjhhbcgcmaaGreat

namespace Go.Proofs.YtjcfjjhhbcgcmaaGreat
open Go.RowKit
def sv (l : List UInt8) : Value := .string ⟨l.toArray⟩
theorem sv_one (l : List UInt8) : (sv l).oneCell' = true := rfl
theorem el_str : El 23 9 (.string ⟨#[]⟩) 16 := ⟨Tryz.underlying23, by kernel_rfl, rfl, by decide, by kernel_rfl, fun _ => by kernel_rfl⟩
end Go.Proofs.YtjcfjjhhbcgcmaaGreat

namespace Go.Proofs.YtjcfjjhhbcgcmaaGreat
open Go.ChangeShapes Go.WideShapes Go.ChangeAt Go.RowKit
theorem wp_appG {α : Type} {f : α → Value} {E T : TypeId} {z : Value} {by_ : Nat} (hE : El T E z by_) (hf1 : ∀ x, (f x).oneCell' = true) {w : World} {o : Oper} {a : Act} {K : Act → World → Prop} {Q : Exit → Act → World → Prop} (s x : Operand)
    (ho : o.op = .call { callee := .builtin .append, args := #[s, x], argTypes := #[T, T] })
    (B : Nat) (v y : Value) (l m : List α) (hs : a.eval s = v) (hown : Ow f E w B v l) (hx : a.eval x = y) (hy : Vs f w y m)
    (hl : l.length + m.length < 1099511627776) (hB : B ≤ w.heap.size)
    (h : ∀ v' w', Ow f E w' B v' (l ++ m) → Fr (fun k => v.ownBlock = some k) w w' → K (a.put o.dst v') w') : o.wp Tryz.prog a w K Q := by
  obtain ⟨i, hi, hz0, hz1, hz2⟩ := info_parts hE.info
  have hs' := hE.small
  have hzc : z.cells.size = 1 := by rw [hE.cells]; rfl
  have hbl : (l.length + m.length) * by_ ≤ 140737488355328 := by
    have := Nat.mul_le_mul (show l.length + m.length ≤ 1099511627776 by omega) hs'
    omega
  obtain ⟨A, c, rfl, hmc, hn, hcells⟩ := hy
  cases A with
  | some ad =>
    refine wp_append_own w s x T ho B E i z 1 by_ hE.under hi hz0 hz1 hz2 hzc (by omega) v l.length (l.map f) hs hown ad m.length c (m.map f) hx (by simp) ?_ (by intro u hu; obtain ⟨b, _, rfl⟩ := List.mem_map.1 hu; exact hf1 b) (by unfold maxLen; omega) (by omega) hB ?_
    · intro j u hu
      have hj : j < m.length := by simpa using (List.getElem?_eq_some_iff.1 hu).1
      rw [hcells ad rfl j hj]
      simpa [hj] using hu
    · intro v' w' h1 h2 _
      refine h v' w' ?_ (Fr.of_grown h2)
      unfold Ow; simpa using h1
  | none =>
    have hm : m = [] := List.eq_nil_of_length_eq_zero (by have := hn rfl; omega)
    subst hm
    have hc : c = 0 := hn rfl
    subst hc
    have hrun := run_append_owned_none (P := Tryz.prog) (w := w) B T o.type E i 1 hE.under hi v l.length (l.map f) hown
    unfold Oper.wp
    have hx' : a.eval x = .slice none 0 0 := hx
    simp [execOp, ho, resolve, invoke, builtin, hs, hx', hrun, Result.andThen]
    exact h v w (by simpa using hown) (Fr.refl _ _)
end Go.Proofs.YtjcfjjhhbcgcmaaGreat

namespace Go.Proofs.YtjcfjjhhbcgcmaaGreat
open Go.RowKit
def agL (a : Ag) : List Value := [.int .i64 a.op, .string ⟨a.col.toArray⟩]
def agV (a : Ag) : Value := .agg #[.int .i64 a.op, .string ⟨a.col.toArray⟩]
theorem fd_ag : Fd agL 2 := ⟨fun _ => rfl, fun x u hu => by simp [agL] at hu; rcases hu with rfl | rfl <;> rfl, by omega, by omega⟩
abbrev Gs (w : World) (v : Value) (l : List Ag) : Prop := Ns agL 2 w v l
theorem ag_lit {w : World} {a : Addr} {c : Ag} (h : AtN w a (agL c)) : w.cell? a = some (.int .i64 c.op) ∧ w.cell? { block := a.block, off := a.off + 1 } = some (.string ⟨c.col.toArray⟩) :=
  ⟨h 0 _ rfl, h 1 _ rfl⟩
theorem Ns.gat {w : World} {A : Option Addr} {n c : Nat} {l : List Ag} (h : Gs w (.slice A n c) l) (k : Nat) (hk : k < l.length) : ∃ a, A = some a ∧ n = l.length ∧
    w.cell? (a.add (k * 2)) = some (.int .i64 l[k].op) ∧ w.cell? { block := (a.add (k * 2)).block, off := (a.add (k * 2)).off + 1 } = some (.string ⟨l[k].col.toArray⟩) := by
  obtain ⟨A', c', he, hl, hn, hcell⟩ := h
  simp only [Value.slice.injEq] at he
  obtain ⟨rfl, rfl, rfl⟩ := he
  cases A with
  | none => have := hn rfl; omega
  | some a => exact ⟨a, rfl, rfl, ag_lit (hcell a rfl k hk)⟩
theorem ag_new (w : World) (g : Nat) (c : Ag) (hg : g = w.heap.size) : Blk (w.alloc (.cells #[.int .i64 c.op, .string ⟨c.col.toArray⟩] 50)) g 50 #[.int .i64 c.op, .string ⟨c.col.toArray⟩] := by subst hg; exact Blk.new _ _ _
theorem agB_cells {w : World} {g : Nat} {a b : Value} (h : Blk w g 50 #[a, b]) : w.cell? ⟨g, 0, none⟩ = some a ∧ w.cell? ⟨g, 1, none⟩ = some b := ⟨h.cell 0, h.cell 1⟩
def qyC (q : Qy) (c : Value) (s : Kv) (g : Value) : Array Value := #[.string ⟨q.tab.toArray⟩, c, .int .i64 q.whr.hd.op, .string ⟨q.whr.hd.col.toArray⟩, .int .i64 q.whr.hd.cmp, .bool q.whr.hd.val.null, .int .i64 q.whr.hd.val.num, .string ⟨q.whr.hd.val.txt.toArray⟩, .int .i64 q.whr.hd.kind, .string ⟨q.whr.hd.pat.toArray⟩, kidV s, g, .string ⟨q.by_.toArray⟩]
def qyV (q : Qy) (c : Value) (s : Kv) (g : Value) : Value := .agg (qyC q c s g)
def QBlk (w : World) (b : Nat) (q : Qy) (c : Value) (s : Kv) (g : Value) : Prop :=
  w.cell? ⟨b, 0, none⟩ = some (.string ⟨q.tab.toArray⟩) ∧ w.cell? ⟨b, 1, none⟩ = some c ∧ w.cell? ⟨b, 2, none⟩ = some (.int .i64 q.whr.hd.op) ∧ w.cell? ⟨b, 3, none⟩ = some (.string ⟨q.whr.hd.col.toArray⟩) ∧ w.cell? ⟨b, 4, none⟩ = some (.int .i64 q.whr.hd.cmp) ∧ w.cell? ⟨b, 5, none⟩ = some (.bool q.whr.hd.val.null) ∧ w.cell? ⟨b, 6, none⟩ = some (.int .i64 q.whr.hd.val.num) ∧ w.cell? ⟨b, 7, none⟩ = some (.string ⟨q.whr.hd.val.txt.toArray⟩) ∧ w.cell? ⟨b, 8, none⟩ = some (.int .i64 q.whr.hd.kind) ∧ w.cell? ⟨b, 9, none⟩ = some (.string ⟨q.whr.hd.pat.toArray⟩) ∧ w.cell? ⟨b, 10, none⟩ = some (.slice s.A s.n s.c) ∧ w.cell? ⟨b, 11, none⟩ = some g ∧ w.cell? ⟨b, 12, none⟩ = some (.string ⟨q.by_.toArray⟩)
abbrev QB (w : World) (b : Nat) (q : Qy) (c : Value) (s : Kv) (g : Value) : Prop := Blk w b 31 (qyC q c s g)
theorem qB_cells {w : World} {b : Nat} {q : Qy} {c : Value} {s : Kv} {g : Value} (e : QB w b q c s g) : QBlk w b q c s g :=
  ⟨e.cell 0, e.cell 1, e.cell 2, e.cell 3, e.cell 4, e.cell 5, e.cell 6, e.cell 7, e.cell 8, e.cell 9, e.cell 10, e.cell 11, e.cell 12⟩
theorem qy_new (w : World) (b : Nat) (q : Qy) (c : Value) (s : Kv) (g : Value) (hb : b = w.heap.size) : QB (w.alloc (.cells (qyC q c s g) 31)) b q c s g := by subst hb; exact Blk.new _ _ _
structure QyS (w : World) (q : Qy) (c : Value) (s : Kv) (g : Value) : Prop where
  cols : Vs sv w c q.cols
  kids : Kd w s q.whr.kids
  aggs : Gs w g q.aggs
  num : I64b q.whr.hd.val.num
theorem QyS.non {w w' : World} {q : Qy} {c : Value} {s : Kv} {g : Value} (h : QyS w q c s g) (hf : Fr Non w w') : QyS w' q c s g :=
  ⟨h.cols.non hf, h.kids.non hf, h.aggs.non hf, h.num⟩
structure Qin (w0 : World) (b : Nat) (q : Qy) (c : Value) (s : Kv) (g : Value) (w : World) : Prop where
  fr : Fr Non w0 w
  blk : QB w b q c s g
  sls : QyS w q c s g
theorem Qin.non {w0 w w' : World} {b : Nat} {q : Qy} {c : Value} {s : Kv} {g : Value} (h : Qin w0 b q c s g w) (hf : Fr Non w w') : Qin w0 b q c s g w' :=
  ⟨h.fr.trans hf, h.blk.fr hf (fun e => e), h.sls.non hf⟩
theorem Qin.new {w : World} {q : Qy} {c : Value} {s : Kv} {g : Value} (h : QyS w q c s g) : Qin w w.heap.size q c s g (w.alloc (.cells (qyC q c s g) 31)) :=
  have F0 : Fr Non w (w.alloc (.cells (qyC q c s g) 31)) := (Fr.refl Non w).alloc _
  ⟨F0, qy_new w _ q c s g rfl, h.non F0⟩
theorem Qin.cells {w0 w : World} {b : Nat} {q : Qy} {c : Value} {s : Kv} {g : Value} (h : Qin w0 b q c s g w) : QBlk w b q c s g := qB_cells h.blk
theorem Qin.drew {w0 w : World} {b : Nat} {q : Qy} {c : Value} {s : Kv} {g : Value} (h : Qin w0 b q c s g w) : Qin w0 b q c s g w.drew := h.non (Fr.refl Non w).drew
end Go.Proofs.YtjcfjjhhbcgcmaaGreat

namespace Go.Proofs.YtjcfjjhhbcgcmaaGreat
open Go.RowKit
def findV : Option Nat → Value
  | some k => .tuple #[.int .i64 k, .bool true]
  | none => .tuple #[.int .i64 0, .bool false]
def findI : Option Nat → Int
  | some k => k
  | none => -1
set_option maxHeartbeats 1000000 in
theorem sfind_any (v : Value) (l : List Co) (n : Tx) (w : World) (hv : Ks w v l) (hl : l.length ≤ 1000000000) :
    Calls Tryz.prog 51 #[v, .string ⟨n.toArray⟩] w fun e w' => e = .returned (findV (findC l n)) ∧ Fr Non w w' := by
  obtain ⟨A, c, rfl, hlc, hn, hcell⟩ := hv
  have HC := Lib.hid hcell
  have HN := Lib.hid hn
  clear hcell hn
  go_enter Tryz.func51, Tryz.ntmps51
  go_wp2
  go_loopw [10] (fun i wr => ∃ (k : Nat), k ≤ l.length ∧ i = .int .i64 k ∧ Hid (∀ j (hj : j < l.length), j < k → l[j].name ≠ n) ∧ Fr Non w wr) (fun i _ => l.length - (intOf i).toNat)
  case atStart => exact ⟨0, Nat.zero_le _, rfl, Lib.hid (fun _ _ h => by omega), Fr.refl _ _⟩
  case round =>
    obtain ⟨k, hk, rfl, hne, hfr⟩ := hrel
    by_cases hlt : k < l.length
    · cases A with
      | none => have := HN.out rfl; omega
      | some a =>
        obtain ⟨hc0, hc1, hc2⟩ := co_lit ((HC.out a rfl k hlt).non hfr)
        have HY := Lib.hid (fun h => find_at hlt h hne.out)
        have HX := Lib.hid (fun h => ne_more hlt hne.out h)
        clear hne
        generalize l[k] = x at *
        obtain ⟨xn, xt, xb⟩ := x
        dsimp only at hc0 hc1 hc2 HY HX
        have hfr2 := Lib.hid (hfr.alloc (.cells #[.string ⟨xn.toArray⟩, .int .i64 xt, .bool xb] 56))
        have g0 := (co_new wr ⟨xn, xt, xb⟩).cell 0
        simp at g0
        by_cases he : xn = n
        · have hb : (xn == n) = true := by rw [beq_iff_eq]; exact he
          have HE := Lib.hid (HY.out he)
          clear HY HX he hfr
          go_wp2
          go_ret2
          refine ⟨?_, hfr2.out⟩
          rw [HE.out]; rfl
        · have hb : (xn == n) = false := by rw [beq_eq_false_iff_ne]; exact he
          have HE := Lib.hid (HX.out he)
          clear HY HX he hfr
          go_wp2
          go_roundw
          case rel => exact ⟨k + 1, by omega, by go_num, HE, hfr2.out⟩
          case measure => simp [intOf]; omega
    · have HE := Lib.hid (find_no (l := l) (n := n) (fun j hj => hne.out j hj (by omega)))
      clear hne
      go_wp2
      go_ret2
      refine ⟨?_, hfr⟩
      rw [HE.out]; rfl
set_option maxHeartbeats 1000000 in
theorem rfind_any (v : Value) (l : List Co) (n : Tx) (w : World) (hv : Ks w v l) (hl : l.length ≤ 1000000000) :
    Calls Tryz.prog 30 #[v, .string ⟨n.toArray⟩] w fun e w' => e = .returned (.int .i64 (findI (findC l n))) ∧ Fr Non w w' := by
  obtain ⟨A, c, rfl, hlc, hn, hcell⟩ := hv
  have HC := Lib.hid hcell
  have HN := Lib.hid hn
  clear hcell hn
  go_enter Tryz.func30, Tryz.ntmps30
  go_wp2
  go_loop [5] (fun i => ∃ (k : Nat), k ≤ l.length ∧ i = .int .i64 k ∧ Hid (∀ j (hj : j < l.length), j < k → l[j].name ≠ n)) (fun i => l.length - (intOf i).toNat)
  case atStart => exact ⟨0, Nat.zero_le _, rfl, Lib.hid (fun _ _ h => by omega)⟩
  case round =>
    obtain ⟨k, hk, rfl, hne⟩ := hrel
    by_cases hlt : k < l.length
    · cases A with
      | none => have := HN.out rfl; omega
      | some a =>
        obtain ⟨hc0, hc1, hc2⟩ := co_lit (HC.out a rfl k hlt)
        have HY := Lib.hid (fun h => find_at hlt h hne.out)
        have HX := Lib.hid (fun h => ne_more hlt hne.out h)
        clear hne
        generalize l[k] = x at *
        obtain ⟨xn, xt, xb⟩ := x
        dsimp only at hc0 hc1 hc2 HY HX
        by_cases he : xn = n
        · have hb : (xn == n) = true := by rw [beq_iff_eq]; exact he
          have HE := Lib.hid (HY.out he)
          clear HY HX he
          go_wp2
          go_ret
          refine ⟨?_, Fr.refl _ _⟩
          rw [HE.out]; rfl
        · have hb : (xn == n) = false := by rw [beq_eq_false_iff_ne]; exact he
          have HE := Lib.hid (HX.out he)
          clear HY HX he
          go_wp2
          go_roundw
          case rel => exact ⟨k + 1, by omega, by go_num, HE⟩
          case measure => simp [intOf]; omega
    · have HE := Lib.hid (find_no (l := l) (n := n) (fun j hj => hne.out j hj (by omega)))
      clear hne
      go_wp2
      go_ret
      refine ⟨?_, Fr.refl _ _⟩
      rw [HE.out]; rfl
end Go.Proofs.YtjcfjjhhbcgcmaaGreat

namespace Go.Proofs.YtjcfjjhhbcgcmaaGreat
open Go.RowKit
theorem rep_at {α : Type} (D : List α) (m : Nat) (z : α) (h : 0 < m) : (D ++ List.replicate m z)[D.length]? = some z := by
  rw [List.getElem?_append_right (Nat.le_refl _), Nat.sub_self, List.getElem?_replicate, if_pos h]
theorem rep_set {α : Type} (D : List α) (m : Nat) (z x : α) (h : 0 < m) : (D ++ List.replicate m z).set D.length x = (D ++ [x]) ++ List.replicate (m - 1) z := by
  obtain ⟨q, rfl⟩ : ∃ q, m = q + 1 := ⟨m - 1, by omega⟩
  rw [List.set_append_right _ _ (Nat.le_refl _), Nat.sub_self, List.replicate_succ, List.set_cons_zero]; simp
end Go.Proofs.YtjcfjjhhbcgcmaaGreat

namespace Go.Proofs.YtjcfjjhhbcgcmaaGreat
open Go.RowKit
theorem cells_col {cols : List Co} {n : Tx} {k : Nat} (hf : findC cols n = some k) (rows : List (List Cl)) : rows.map (fun r => cellN cols r n) = colC rows k := by
  unfold colC cellN; rw [hf]; rfl
theorem cells_none {cols : List Co} {n : Tx} (hf : findC cols n = none) (rows : List (List Cl)) : rows.map (fun r => cellN cols r n) = List.replicate rows.length noCl := by
  unfold cellN; rw [hf]
  induction rows with
  | nil => rfl
  | cons r rows ih => rw [List.map_cons, ih]; rfl
set_option maxHeartbeats 8000000 in
theorem dvals_any (v0 v2 : Value) (cols : List Co) (q : Qy) (c : Value) (s : Kv) (g : Value) (rows : List (List Cl)) (w : World) (h0 : Ks w v0 cols) (hq : QyS w q c s g) (h2 : Rs w v2 rows) (hcl : cols.length ≤ 1000) (hal : q.aggs.length ≤ 1000) (hrl : rows.length ≤ 100000) (hr : ∀ r ∈ rows, r.length = cols.length) :
    Calls Tryz.prog 29 #[v0, qyV q c s g, v2] w fun e w' => ∃ u, e = .returned u ∧ Oc w' w.heap.size u (valsG cols q rows) ∧ Fr Non w w' := by
  obtain ⟨A0, c0, rfl⟩ := h0.shape
  obtain ⟨A2, c2, rfl⟩ := h2.shape
  obtain ⟨Aa, ca, rfl⟩ := hq.aggs.shape
  have HV := Lib.hid h0
  have HR := Lib.hid h2
  have HAg : Hid (Gs w (.slice Aa q.aggs.length ca) q.aggs) := Lib.hid hq.aggs
  have HRl := Lib.hid hr
  have f1 := ((Fr.refl Non w).alloc (.cells (qyC q c s (.slice Aa q.aggs.length ca)) 31)).alloc (.cells #[] 25)
  have QB0 : Hid (QB ((w.alloc (.cells (qyC q c s (.slice Aa q.aggs.length ca)) 31)).alloc (.cells #[] 25)) w.heap.size q c s (.slice Aa q.aggs.length ca)) := Lib.hid ((qy_new w _ q c s _ rfl).fr ((Fr.refl Non _).alloc _) (fun e => e))
  have hO0 : Oc ((w.alloc (.cells (qyC q c s (.slice Aa q.aggs.length ca)) 31)).alloc (.cells #[] 25)) (w.heap.size + 1) (.slice (some ⟨w.heap.size + 1, 0, none⟩) 0 0) [] := oc_lit0 _ (w.heap.size + 1) (w.heap.size + 1) (by simp) (Nat.le_refl _)
  clear h0 h2 hr hq
  unfold qyV
  unfold qyC at *
  generalize hb : w.heap.size = b at *
  have HB := Lib.hid hb
  have f1 := Lib.hid f1
  have hO0 := Lib.hid hO0
  obtain ⟨b0, b1, b2, b3, b4, b5, b6, b7, b8, b9, b10, b11, b12⟩ := qB_cells QB0.out
  go_enter Tryz.func29, Tryz.ntmps29
  go_wp2
  clear hb
  go_loopw [7, 8] (fun x i wr => ∃ (k : Nat), k ≤ q.aggs.length ∧ i = .int .i64 k ∧ Oc wr (b + 1) x ((q.aggs.take k).map (agC cols rows)) ∧ Hid (QB wr b q c s (.slice Aa q.aggs.length ca)) ∧ Hid (Fr Non w wr)) (fun _ i _ => q.aggs.length - (intOf i).toNat)
  case atStart => exact ⟨0, Nat.zero_le _, rfl, hO0.out, QB0, f1⟩
  case round =>
    clear hO0 f1 QB0 b0 b1 b2 b3 b4 b5 b6 b7 b8 b9 b10 b11 b12
    obtain ⟨k, hk, rfl, hO, QB1, FR⟩ := hrel
    rename World => w1
    have HO := Lib.hid hO
    clear hO
    obtain ⟨b0, b1, b2, b3, b4, b5, b6, b7, b8, b9, b10, b11, b12⟩ := qB_cells QB1.out
    by_cases hlt : k < q.aggs.length
    · obtain ⟨a, rfl, -, g1, g2⟩ := (HAg.out.non FR.out).gat k hlt
      obtain ⟨ag, hagk⟩ : ∃ ag, q.aggs[k] = ag := ⟨_, rfl⟩
      rw [hagk] at g1 g2
      replace hagk := Lib.hid hagk
      have HFi := Lib.hid (fun W h => rfind_any (.slice A0 cols.length c0) cols ag.col W h (by omega))
      obtain ⟨M, hM⟩ : ∃ M, w1.heap.size = M := ⟨_, rfl⟩
      have HMs := Lib.hid hM
      go_wp2_with (at_make; refine wpList_mkC rfl _ _ rfl _ _ _ _ rows.length rfl rfl rfl rfl (by omega) ?_; intro w2 hown2 hfr2; replace b0 := hfr2.at0 b0; replace b11 := hfr2.at0 b11; replace g1 := hfr2.at0 g1; replace g2 := hfr2.at0 g2)
      cases hf : findC cols ag.col with
      | some kk =>
        have hkk := find_lt hf
        have HLL : Hid (rows.map (fun r => cellN cols r ag.col) = colC rows kk) := Lib.hid (cells_col hf rows)
        rw [hf] at HFi
        unfold findI at HFi
        dsimp only at HFi
        refine (HFi.out _ (HV.out.non (FR.out.trans hfr2))).mono ?_
        rintro e w3 ⟨rfl, f3⟩
        have hown3 : Oc w3 M (.slice (some ⟨M, 0, none⟩) rows.length rows.length) (List.replicate rows.length noCl) := by rw [← hM]; exact hown2.non f3
        have FI0 := hfr2.trans f3
        clear HFi hf hown2 hfr2 f3 b0 b1 b2 b3 b4 b5 b6 b7 b8 b9 b10 b11 b12 g1 g2
        go_wp2
        clear hM
        go_loopw [11] (fun i wq => ∃ (j : Nat) (D : List Cl), j ≤ rows.length ∧ i = .int .i64 j ∧ Hid (D = (colC rows kk).take j) ∧ Oc wq M (.slice (some ⟨M, 0, none⟩) rows.length rows.length) (D ++ List.replicate (rows.length - j) noCl) ∧ Fr Non w1 wq) (fun i _ => rows.length - (intOf i).toNat)
        case atStart => exact ⟨0, [], Nat.zero_le _, rfl, Lib.hid rfl, hown3, FI0⟩
        case round =>
          clear hown3 FI0
          obtain ⟨j, D, hj, rfl, HT, hO, hfr⟩ := hrel
          by_cases hlt2 : j < rows.length
          · have hpk : kk < rows[j].length := by have := HRl.out _ (List.getElem_mem hlt2); omega
            obtain ⟨a', A', c', hA', _, hc1, hc2⟩ := (HR.out.non (FR.out.trans hfr)).el j hlt2
            subst hA'
            have HT2 : Hid (D ++ [rows[j][kk]] = (colC rows kk).take (j + 1)) := Lib.hid (by rw [colC_take rows kk j hlt2 hpk, HT.out])
            have hD : D.length = j := by rw [HT.out, List.length_take, colC_length]; omega
            have hlen : rows.length = (D ++ List.replicate (rows.length - j) noCl).length := by simp; omega
            have hat : (D ++ List.replicate (rows.length - j) noCl)[j]? = some noCl := by
              have := rep_at D (rows.length - j) noCl (by omega)
              rw [hD] at this; exact this
            have hset : ∀ x : Cl, (D ++ List.replicate (rows.length - j) noCl).set j x = (D ++ [x]) ++ List.replicate (rows.length - (j + 1)) noCl := fun x => by
              have := rep_set D (rows.length - j) noCl x (by omega)
              rw [hD, show rows.length - j - 1 = rows.length - (j + 1) by omega] at this; exact this
            generalize rows[j] = r at *
            have hr0 : 0 < r.length := by omega
            obtain ⟨a3, rfl, _, _, hel⟩ := hc2.addr hr0
            obtain ⟨q0, q1, q2⟩ := (hel kk hpk).lit
            obtain ⟨e0, e1, e2⟩ := hO.el hlen j _ hat
            have z0 := hO.frozen hlen (j * 3)
            have z1 := hO.frozen hlen (j * 3 + 1)
            have z2 := hO.frozen hlen (j * 3 + 2)
            have hO2 := hO.put3 hlen j (by omega) r[kk]
            rw [hset] at hO2
            have HO2 := Lib.hid hO2
            generalize r[kk] = x at *
            have hfr2 := Lib.hid (hfr.fresh ((((Fr.refl (One M) wr).set1 (j * 3) (.bool x.null)).set1 (j * 3 + 1) (.int .i64 x.num)).set1 (j * 3 + 2) (.string ⟨x.txt.toArray⟩)) (fun q e => by have : q = M := e; have := HMs.out; omega))
            obtain ⟨xn, xi, xt⟩ := x
            clear hO2 hO HT hel hset hc2 hlen hat hD hfr
            go_wp2
            go_roundw
            case rel => exact ⟨j + 1, _, by omega, by go_num, HT2, HO2.out, hfr2.out⟩
            case measure => simp [intOf]; omega
          · have hje : j = rows.length := by omega
            have hE : D = colC rows kk := by rw [HT.out, hje, List.take_of_length_le (by rw [colC_length]; exact Nat.le_refl _)]
            rw [hje, Nat.sub_self, List.replicate_zero, List.append_nil, hE] at hO
            have hOL := hO
            have FI := Lib.hid hfr
            have HLLn : Hid ((colC rows kk).length ≤ 100000) := Lib.hid (by rw [colC_length]; exact hrl)
            clear HT hE hje hO hfr
            obtain ⟨LL, hLL⟩ : ∃ LL, colC rows kk = LL := ⟨_, rfl⟩
            rw [hLL] at HLL hOL HLLn
            clear hLL
            have QB4 := Lib.hid (QB1.out.fr FI.out (fun e => e))
            have F4 := Lib.hid (FR.out.trans FI.out)
            have HO4 := Lib.hid (HO.out.non FI.out)
            have HVal := Lib.hid (rval22_any ag.op _ LL wr hOL.cs (by have := HLLn.out; omega))
            obtain ⟨a2, hA2, -, g1, g2⟩ := (HAg.out.non F4.out).gat k hlt
            obtain rfl := Option.some.inj hA2
            rw [hagk.out] at g1 g2
            obtain ⟨b0, b1, b2, b3, b4, b5, b6, b7, b8, b9, b10, b11, b12⟩ := qB_cells QB4.out
            have hbs : b + 1 ≤ wr.heap.size := by have := QB4.out.lt; omega
            clear hOL
            go_wp2_with fail
            refine HVal.out.mono ?_
            rintro e w5 ⟨rfl, f5⟩
            have HO5 := Lib.hid (HO4.out.non f5)
            have F5 := Lib.hid (F4.out.trans f5)
            have QB5 := Lib.hid (QB4.out.fr f5 (fun e => e))
            have hbs5 : b + 1 ≤ w5.heap.size := by have := f5.size; omega
            clear b0 b1 b2 b3 b4 b5 b6 b7 b8 b9 b10 b11 b12
            have HK1 : Hid ((q.aggs.take (k + 1)).map (agC cols rows) = (q.aggs.take k).map (agC cols rows) ++ [valF ag.op (foC LL)]) := Lib.hid (by
              have e : agC cols rows ag = valF ag.op (foC LL) := by unfold agC; rw [HLL.out]
              rw [List.take_succ_eq_append_getElem hlt, List.map_append, hagk.out, List.map_cons, List.map_nil, e])
            have HDl : Hid (((q.aggs.take k).map (agC cols rows)).length ≤ 1000) := Lib.hid (by rw [List.length_map, List.length_take]; omega)
            generalize (q.aggs.take k).map (agC cols rows) = D at *
            generalize valF ag.op (foC LL) = y at *
            obtain ⟨yn, yi, yt⟩ := y
            unfold clV clC
            dsimp only
            clear HVal g1 g2
            go_wp2_with (at_builtin; refine wpList_pushC rfl (.tmp 51) (.tmp 60) rfl (b + 1) _ D rfl HO5.out ⟨yn, yi, yt⟩ _ _ _ rfl rfl rfl _ rfl rfl (by have := HDl.out; omega) hbs5 ?_; intro v6 w6 hown6 hf6)
            have F6 := Lib.hid (F5.out.fresh hf6 (fun k e => by have := (HO5.out.lt k e).1; have := HB.out; omega))
            have QB6 := Lib.hid (QB5.out.fr hf6 (fun e => by have := (HO5.out.lt b e).1; omega))
            go_roundw
            case rel => exact ⟨k + 1, by omega, by go_num, by rw [HK1.out]; exact hown6, QB6, F6⟩
            case measure => simp [intOf]; omega
      | none =>
        have HLL : Hid (rows.map (fun r => cellN cols r ag.col) = List.replicate rows.length noCl) := Lib.hid (cells_none hf rows)
        rw [hf] at HFi
        unfold findI at HFi
        dsimp only at HFi
        refine (HFi.out _ (HV.out.non (FR.out.trans hfr2))).mono ?_
        rintro e w3 ⟨rfl, f3⟩
        have hown3 : Oc w3 M (.slice (some ⟨M, 0, none⟩) rows.length rows.length) (List.replicate rows.length noCl) := by rw [← hM]; exact hown2.non f3
        have FI0 := hfr2.trans f3
        clear HFi hf hown2 hfr2 f3 b0 b1 b2 b3 b4 b5 b6 b7 b8 b9 b10 b11 b12 g1 g2
        go_wp2
        clear hM
        go_loopw [11] (fun i wq => i = .int .i64 0 ∧ Oc wq M (.slice (some ⟨M, 0, none⟩) rows.length rows.length) (List.replicate rows.length noCl) ∧ Fr Non w1 wq) (fun i _ => 0)
        case atStart => exact ⟨rfl, hown3, FI0⟩
        case round =>
          clear hown3 FI0
          obtain ⟨rfl, hO, hfr⟩ := hrel
          have hOL := hO
          have FI := Lib.hid hfr
          have HLLn : Hid ((List.replicate rows.length noCl).length ≤ 100000) := Lib.hid (by rw [List.length_replicate]; exact hrl)
          clear hO hfr
          obtain ⟨LL, hLL⟩ : ∃ LL, List.replicate rows.length noCl = LL := ⟨_, rfl⟩
          rw [hLL] at HLL hOL HLLn
          clear hLL
          by_cases hn0 : 0 < rows.length
          · have QB4 := Lib.hid (QB1.out.fr FI.out (fun e => e))
            have F4 := Lib.hid (FR.out.trans FI.out)
            have HO4 := Lib.hid (HO.out.non FI.out)
            have HVal := Lib.hid (rval22_any ag.op _ LL wr hOL.cs (by have := HLLn.out; omega))
            obtain ⟨a2, hA2, -, g1, g2⟩ := (HAg.out.non F4.out).gat k hlt
            obtain rfl := Option.some.inj hA2
            rw [hagk.out] at g1 g2
            obtain ⟨b0, b1, b2, b3, b4, b5, b6, b7, b8, b9, b10, b11, b12⟩ := qB_cells QB4.out
            have hbs : b + 1 ≤ wr.heap.size := by have := QB4.out.lt; omega
            clear hOL
            go_wp2_with fail
            refine HVal.out.mono ?_
            rintro e w5 ⟨rfl, f5⟩
            have HO5 := Lib.hid (HO4.out.non f5)
            have F5 := Lib.hid (F4.out.trans f5)
            have QB5 := Lib.hid (QB4.out.fr f5 (fun e => e))
            have hbs5 : b + 1 ≤ w5.heap.size := by have := f5.size; omega
            clear b0 b1 b2 b3 b4 b5 b6 b7 b8 b9 b10 b11 b12
            have HK1 : Hid ((q.aggs.take (k + 1)).map (agC cols rows) = (q.aggs.take k).map (agC cols rows) ++ [valF ag.op (foC LL)]) := Lib.hid (by
              have e : agC cols rows ag = valF ag.op (foC LL) := by unfold agC; rw [HLL.out]
              rw [List.take_succ_eq_append_getElem hlt, List.map_append, hagk.out, List.map_cons, List.map_nil, e])
            have HDl : Hid (((q.aggs.take k).map (agC cols rows)).length ≤ 1000) := Lib.hid (by rw [List.length_map, List.length_take]; omega)
            generalize (q.aggs.take k).map (agC cols rows) = D at *
            generalize valF ag.op (foC LL) = y at *
            obtain ⟨yn, yi, yt⟩ := y
            unfold clV clC
            dsimp only
            clear HVal g1 g2
            go_wp2_with (at_builtin; refine wpList_pushC rfl (.tmp 51) (.tmp 60) rfl (b + 1) _ D rfl HO5.out ⟨yn, yi, yt⟩ _ _ _ rfl rfl rfl _ rfl rfl (by have := HDl.out; omega) hbs5 ?_; intro v6 w6 hown6 hf6)
            have F6 := Lib.hid (F5.out.fresh hf6 (fun k e => by have := (HO5.out.lt k e).1; have := HB.out; omega))
            have QB6 := Lib.hid (QB5.out.fr hf6 (fun e => by have := (HO5.out.lt b e).1; omega))
            go_roundw
            case rel => exact ⟨k + 1, by omega, by go_num, by rw [HK1.out]; exact hown6, QB6, F6⟩
            case measure => simp [intOf]; omega
          · have QB4 := Lib.hid (QB1.out.fr FI.out (fun e => e))
            have F4 := Lib.hid (FR.out.trans FI.out)
            have HO4 := Lib.hid (HO.out.non FI.out)
            have HVal := Lib.hid (rval22_any ag.op _ LL wr hOL.cs (by have := HLLn.out; omega))
            obtain ⟨a2, hA2, -, g1, g2⟩ := (HAg.out.non F4.out).gat k hlt
            obtain rfl := Option.some.inj hA2
            rw [hagk.out] at g1 g2
            obtain ⟨b0, b1, b2, b3, b4, b5, b6, b7, b8, b9, b10, b11, b12⟩ := qB_cells QB4.out
            have hbs : b + 1 ≤ wr.heap.size := by have := QB4.out.lt; omega
            clear hOL
            go_wp2_with fail
            refine HVal.out.mono ?_
            rintro e w5 ⟨rfl, f5⟩
            have HO5 := Lib.hid (HO4.out.non f5)
            have F5 := Lib.hid (F4.out.trans f5)
            have QB5 := Lib.hid (QB4.out.fr f5 (fun e => e))
            have hbs5 : b + 1 ≤ w5.heap.size := by have := f5.size; omega
            clear b0 b1 b2 b3 b4 b5 b6 b7 b8 b9 b10 b11 b12
            have HK1 : Hid ((q.aggs.take (k + 1)).map (agC cols rows) = (q.aggs.take k).map (agC cols rows) ++ [valF ag.op (foC LL)]) := Lib.hid (by
              have e : agC cols rows ag = valF ag.op (foC LL) := by unfold agC; rw [HLL.out]
              rw [List.take_succ_eq_append_getElem hlt, List.map_append, hagk.out, List.map_cons, List.map_nil, e])
            have HDl : Hid (((q.aggs.take k).map (agC cols rows)).length ≤ 1000) := Lib.hid (by rw [List.length_map, List.length_take]; omega)
            generalize (q.aggs.take k).map (agC cols rows) = D at *
            generalize valF ag.op (foC LL) = y at *
            obtain ⟨yn, yi, yt⟩ := y
            unfold clV clC
            dsimp only
            clear HVal g1 g2
            go_wp2_with (at_builtin; refine wpList_pushC rfl (.tmp 51) (.tmp 60) rfl (b + 1) _ D rfl HO5.out ⟨yn, yi, yt⟩ _ _ _ rfl rfl rfl _ rfl rfl (by have := HDl.out; omega) hbs5 ?_; intro v6 w6 hown6 hf6)
            have F6 := Lib.hid (F5.out.fresh hf6 (fun k e => by have := (HO5.out.lt k e).1; have := HB.out; omega))
            have QB6 := Lib.hid (QB5.out.fr hf6 (fun e => by have := (HO5.out.lt b e).1; omega))
            go_roundw
            case rel => exact ⟨k + 1, by omega, by go_num, by rw [HK1.out]; exact hown6, QB6, F6⟩
            case measure => simp [intOf]; omega
    · have hke : k = q.aggs.length := by omega
      rw [hke, List.take_length] at HO
      go_wp2
      go_ret
      exact ⟨_, rfl, HO.out.mono (by have := HB.out; omega), FR.out⟩
end Go.Proofs.YtjcfjjhhbcgcmaaGreat
