/-
  Joined: Layer 21: the document's Ask. · Layer 17: slices of predicates laid by a literal. · Layer 21: the page's example. · Layer 21: the walk of PruneAsks. · Arguments opened: a cell by value; a value of each type. · Arguments opened: a slice of cells. · Arguments opened: a slice of columns. · Layer 17: an argument opened: a predicate. · Arguments opened: a zone by value. · Arguments of layer 21's laws, opened: a slice of zones; the table of opposites that the program lays.
-/
import Derived.Lib.Zigzag
import Derived.Lib.DecodeN
import Derived.Laws.RangeAny
import Derived.Laws.Cover4
import Derived.BigRegion
import Derived.BigQuiet
import Derived.Deep.RegionHeld3
import Derived.Test.YtpmipdnmhffkeaaDoorZ5
import Derived.Test.YtpmipdnmhffkeaaDoorZ8
import Derived.Test.YtpmipdnmhffkeaaDoorZ2
import Derived.Test.YtpmipdnmhffkeaaDoorZ7
import Derived.Deep.Cut
import Derived.Test.YtpmipdnmhffkeaaDoorZ1
import Derived.Lib.SmallJoins
import Derived.OpenShut
import Derived.Stop.Joined
import Derived.ProofKit
import Derived.LaidMore
import Derived.Lib.LaidTab

namespace Go.Proofs.YtpmipdnmhffkeaaDoor
set_option linter.unusedVariables false
set_option linter.unusedSimpArgs false
set_option maxRecDepth 100000
open Go.RowKit

set_option maxHeartbeats 4000000 in
theorem dzAsk_any (v1 v2 : Value) (cols : List Co) (zs : List Zn) (hcl : cols.length ≤ 1000) (hcb : ∀ c ∈ cols, c.name.length ≤ 1000) (h : Ph) (ks : List Pd) (t : Kv) (w : World) (h1 : Ks w v1 cols) (h2 : Zs w v2 zs) (hk : Kd w t ks) (hlen : lenP (.mk h ks) = true) (hzm : zs.length ≤ 1000000) :
    Calls Tryd.prog 10 #[v1, pdV h t, v2] w fun e w' => e = .returned (askV (prnE cols (.mk h ks) zs)) ∧ Fr Non w w' := by
  have F0 := Lib.hid (askW_fr 39 w h t)
  have PB := Lib.hid (askW_pd 39 w h t)
  have AB : Hid (TrB 39 (askW 39 w h t) (w.heap.size + 1) ⟨false, false, false⟩) := Lib.hid (askW_tr 39 w h t)
  have HF := Lib.hid (fun W (hf2 : Fr Non w W) => rfits_any cols hcl hcb v1 h t ks W (h1.non hf2) (hk.non hf2) hlen)
  have HTr : Hid (fitP cols (.mk h ks) = 0 → zonesB cols zs = true → ∀ W, Fr Non w W → Calls Tryd.prog 23 #[v1, pdV h t, v2] W fun e w' => e = .returned (trV (prnP cols zs (.mk h ks))) ∧ Fr Non W w') :=
    Lib.hid (fun a b W hf => dzask_any v1 v2 cols zs hcl (zonesB_eq b) (.mk h ks) t W (h1.non hf) (h2.non hf) (hk.non hf) (big_of_len _ hlen) (fit_zero a).2.1 (fit_zero a).2.2)
  have HX := Lib.hid (fun a => prnE_bad (cols := cols) (p := .mk h ks) (zs := zs) a)
  have HX2 := Lib.hid (fun a b => prnE_arg (cols := cols) (p := .mk h ks) (zs := zs) a b)
  have HX3 := Lib.hid (fun a b => prnE_ok (cols := cols) (p := .mk h ks) (zs := zs) a b)
  have HV := Lib.hid h1
  have HZ := Lib.hid h2
  obtain ⟨A1, c1, rfl⟩ := h1.shape
  obtain ⟨A2, c2, rfl⟩ := h2.shape
  generalize fitP cols (.mk h ks) = z at *
  generalize prnP cols zs (.mk h ks) = y at *
  generalize prnE cols (.mk h ks) zs = r at *
  clear hk hlen h1 h2
  obtain ⟨ho, hc, hm, ⟨vn, vi, vt⟩, hkd, hp⟩ := h
  obtain ⟨A, n, c⟩ := t
  obtain ⟨ya, yb, yc⟩ := y
  unfold askW at F0 PB AB
  unfold trV at HTr
  unfold pdV at *
  unfold pdC kidV at *
  dsimp only at *
  generalize hg : w.heap.size = g at *
  by_cases hz : z = 0
  · subst hz
    clear HX
    replace HTr := Lib.hid (HTr.out rfl)
    replace HX2 := Lib.hid (HX2.out rfl)
    replace HX3 := Lib.hid (HX3.out rfl)
    by_cases hlen : zs.length = cols.length
    · have hb : ((zs.length : Int) != (cols.length : Int)) = false := by rw [hlen]; simp
      have HL := Lib.hid hlen
      have HN : Hid (∀ k (h : k < zs.length) (h2 : k < cols.length), mayZ cols[k].ty zs[k] = false → zonesB cols zs = false) := Lib.hid (fun k h h2 e => zonesB_no h h2 e)
      have HY : Hid ((∀ j (h : j < zs.length) (h2 : j < cols.length), mayZ cols[j].ty zs[j] = true) → zonesB cols zs = true) := Lib.hid (fun e => decide_eq_true ⟨hlen, e⟩)
      have hlz : zs.length ≤ 1000 := by omega
      clear hlen
      generalize zonesB cols zs = b at *
      go_enter Tryd.func10, Tryd.ntmps10
      go_wp2_with fail
      refine (HF.out _ F0.out).mono ?_
      rintro e w1 ⟨rfl, f1⟩
      have PB1 : Hid (PdB w1 g ⟨ho, hc, hm, ⟨vn, vi, vt⟩, hkd, hp⟩ ⟨A, n, c⟩) := Lib.hid (PB.out.fr f1 (fun e => e))
      have AB1 : TrB 39 w1 (g + 1) ⟨false, false, false⟩ := AB.out.fr f1 (fun e => e)
      have F1 := Lib.hid (F0.out.trans f1)
      clear f1 PB AB F0 HF
      replace AB1 := Lib.hid AB1
      go_wp2
      go_loopw [9] (fun i wr => ∃ (k : Nat), k ≤ zs.length ∧ i = .int .i64 k ∧ Hid (∀ j (h : j < zs.length) (h2 : j < cols.length), j < k → mayZ cols[j].ty zs[j] = true) ∧ Hid (PdB wr g ⟨ho, hc, hm, ⟨vn, vi, vt⟩, hkd, hp⟩ ⟨A, n, c⟩) ∧ Hid (TrB 39 wr (g + 1) ⟨false, false, false⟩) ∧ Hid (Fr Non w wr)) (fun i _ => zs.length - (intOf i).toNat)
      case atStart => exact ⟨0, Nat.zero_le _, rfl, Lib.hid (fun j h h2 e => absurd e (by omega)), PB1, AB1, F1⟩
      case round =>
        clear PB1 AB1 F1
        obtain ⟨k, hk, rfl, HT, PB, AB, FR⟩ := hrel
        by_cases hlt : k < zs.length
        · have hkc : k < cols.length := by have := HL.out; omega
          have hk9 : k < 1000 := by omega
          obtain ⟨a1, rfl, -, -, hel1⟩ := (HV.out.non FR.out).addr (show 0 < cols.length by omega)
          obtain ⟨a2, rfl, -, -, hel2⟩ := (HZ.out.non FR.out).addr (show 0 < zs.length by omega)
          obtain ⟨t0, t1, t2⟩ := co_lit (hel1 k hkc)
          have ZA := zn_lit (hel2 k hlt)
          have HN1 := Lib.hid (HN.out k hlt hkc)
          have HM := Lib.hid (fun W => rzmay_any cols[k].ty zs[k] W)
          have HX : Hid (mayZ cols[k].ty zs[k] = true → ∀ j (h : j < zs.length) (h2 : j < cols.length), j < k + 1 → mayZ cols[j].ty zs[j] = true) := Lib.hid (fun e j h h2 hj => by
            by_cases hjk : j = k
            · subst hjk; exact e
            · exact HT.out j h h2 (by omega))
          clear hel1 hel2 HT HN HY HTr
          generalize cols[k] = x at *
          generalize hz : zs[k] = z at *
          clear hz
          obtain ⟨xn, xt, xb⟩ := x
          obtain ⟨zr, zu, ⟨ln, li, lt⟩, ⟨hn2, hi, ht⟩⟩ := z
          obtain ⟨y0, y1, y2, y3, y4, y5, y6, y7⟩ := ZA
          unfold znV znC at HM
          dsimp only at *
          generalize mayZ xt _ = y at *
          go_wp2
          obtain ⟨V, hV⟩ : ∃ V, V = wr.drew := ⟨_, rfl⟩
          refine wp_region_held_drew (S := (fun W' => W'.cell? { block := (a1.add (k * 3)).block, off := (a1.add (k * 3)).off + 1 } = some (.int .i64 xt) ∧ W'.cell? (a2.add (k * 8)) = some (.int .i64 zr) ∧ W'.cell? { block := (a2.add (k * 8)).block, off := (a2.add (k * 8)).off + 1 } = some (.int .i64 zu) ∧ W'.cell? { block := (a2.add (k * 8)).block, off := (a2.add (k * 8)).off + 2 } = some (.bool ln) ∧ W'.cell? { block := (a2.add (k * 8)).block, off := (a2.add (k * 8)).off + 3 } = some (.int .i64 li) ∧ W'.cell? { block := (a2.add (k * 8)).block, off := (a2.add (k * 8)).off + 4 } = some (.string ⟨lt.toArray⟩) ∧ W'.cell? { block := (a2.add (k * 8)).block, off := (a2.add (k * 8)).off + 5 } = some (.bool hn2) ∧ W'.cell? { block := (a2.add (k * 8)).block, off := (a2.add (k * 8)).off + 6 } = some (.int .i64 hi) ∧ W'.cell? { block := (a2.add (k * 8)).block, off := (a2.add (k * 8)).off + 7 } = some (.string ⟨ht.toArray⟩))) (by kernel_rfl) (by exact ⟨t1, y0, y1, y2, y3, y4, y5, y6, y7⟩) (fun hHeld => ?_)
          rw [← hV]
          rw [← hV] at hHeld
          have FV : Fr Non wr V := by rw [hV]; exact (Fr.refl Non wr).drew
          clear hV
          replace t1 := FV.at0 t1
          replace y0 := FV.at0 y0
          replace y1 := FV.at0 y1
          replace y2 := FV.at0 y2
          replace y3 := FV.at0 y3
          replace y4 := FV.at0 y4
          replace y5 := FV.at0 y5
          replace y6 := FV.at0 y6
          replace y7 := FV.at0 y7
          refine wpAnyH_take (i := 0) (oi := ⟨some 29, _, _, _, _, none⟩) (v := ?v1) rfl (by kernel_rfl) (by kernel_rfl) (by kernel_rfl) (fun _ _ _ h => h) (Or.inl ⟨by rfl, ?hy1⟩) (by assumption) ?rest1
          case hy1 => (intro wS hSw; (try dsimp only at hSw); go_simp; (try with_reducible rfl))
          (try simp only [Act.put, List.setIfInBounds_toArray, List.set_cons_zero, List.set_cons_succ])
          refine wpAnyH_take (i := 1) (oi := ⟨some 30, _, _, _, _, none⟩) (v := ?v2) rfl (by kernel_rfl) (by kernel_rfl) (by kernel_rfl) (fun _ _ _ h => h) (Or.inl ⟨by rfl, ?hy2⟩) (by assumption) ?rest2
          case hy2 => (intro wS hSw; (try dsimp only at hSw); go_simp; (try with_reducible rfl))
          (try simp only [Act.put, List.setIfInBounds_toArray, List.set_cons_zero, List.set_cons_succ])
          refine wpAnyH_take (i := 2) (oi := ⟨some 31, _, _, _, _, none⟩) (v := ?v3) rfl (by kernel_rfl) (by kernel_rfl) (by kernel_rfl) (fun _ _ _ h => h) (Or.inl ⟨by rfl, ?hy3⟩) (by assumption) ?rest3
          case hy3 => (intro wS hSw; (try dsimp only at hSw); go_simp; (try with_reducible rfl))
          (try simp only [Act.put, List.setIfInBounds_toArray, List.set_cons_zero, List.set_cons_succ])
          refine wpAnyH_take (i := 3) (oi := ⟨some 32, _, _, _, _, none⟩) (v := ?v4) rfl (by kernel_rfl) (by kernel_rfl) (by kernel_rfl) (fun _ _ _ h => h) (Or.inl ⟨by rfl, ?hy4⟩) (by assumption) ?rest4
          case hy4 => (intro wS hSw; (try dsimp only at hSw); go_simp; (try with_reducible rfl))
          (try simp only [Act.put, List.setIfInBounds_toArray, List.set_cons_zero, List.set_cons_succ])
          refine wpAnyH_take (i := 4) (oi := ⟨some 33, _, _, _, _, none⟩) (v := ?v5) rfl (by kernel_rfl) (by kernel_rfl) (by kernel_rfl) (fun _ _ _ h => h) (Or.inl ⟨by rfl, ?hy5⟩) (by assumption) ?rest5
          case hy5 => (intro wS hSw; (try dsimp only at hSw); go_simp; (try with_reducible rfl))
          (try simp only [Act.put, List.setIfInBounds_toArray, List.set_cons_zero, List.set_cons_succ])
          refine wpAnyH_take (i := 5) (oi := ⟨some 34, _, _, _, _, none⟩) (v := ?v6) rfl (by kernel_rfl) (by kernel_rfl) (by kernel_rfl) (fun _ _ _ h => h) (Or.inl ⟨by rfl, ?hy6⟩) (by assumption) ?rest6
          case hy6 => (intro wS hSw; (try dsimp only at hSw); go_simp; (try with_reducible rfl))
          (try simp only [Act.put, List.setIfInBounds_toArray, List.set_cons_zero, List.set_cons_succ])
          refine wpAnyH_take (i := 6) (oi := ⟨some 35, _, _, _, _, none⟩) (v := ?v7) rfl (by kernel_rfl) (by kernel_rfl) (by kernel_rfl) (fun _ _ _ h => h) (Or.inl ⟨by rfl, ?hy7⟩) (by assumption) ?rest7
          case hy7 => (intro wS hSw; (try dsimp only at hSw); go_simp; (try with_reducible rfl))
          (try simp only [Act.put, List.setIfInBounds_toArray, List.set_cons_zero, List.set_cons_succ])
          refine wpAnyH_take (i := 7) (oi := ⟨some 36, _, _, _, _, none⟩) (v := ?v8) rfl (by kernel_rfl) (by kernel_rfl) (by kernel_rfl) (fun _ _ _ h => h) (Or.inl ⟨by rfl, ?hy8⟩) (by assumption) ?rest8
          case hy8 => (intro wS hSw; (try dsimp only at hSw); go_simp; (try with_reducible rfl))
          (try simp only [Act.put, List.setIfInBounds_toArray, List.set_cons_zero, List.set_cons_succ])
          refine wpAnyH_take (i := 8) (oi := ⟨some 37, _, _, _, _, none⟩) (v := ?v9) rfl (by kernel_rfl) (by kernel_rfl) (by kernel_rfl) (fun _ _ _ h => h) (Or.inl ⟨by rfl, ?hy9⟩) (by assumption) ?rest9
          case hy9 => (intro wS hSw; (try dsimp only at hSw); go_simp; (try with_reducible rfl))
          (try simp only [Act.put, List.setIfInBounds_toArray, List.set_cons_zero, List.set_cons_succ])
          refine wpAnyH_ready (rs := [9]) (by kernel_rfl) (by simp) ?_
          refine AllReadyH.cons (o := ⟨some 38, _, _, _, _, none⟩) rfl (fun K hK => ?_) AllReadyH.nil
          go_simp
          go_at_call 22
          refine (HM.out _).mono ?_
          rintro e w4 ⟨rfl, f4⟩
          go_wp2_with fail
          refine hK.out _ _ (by exact ⟨f4.at0 t1, f4.at0 y0, f4.at0 y1, f4.at0 y2, f4.at0 y3, f4.at0 y4, f4.at0 y5, f4.at0 y6, f4.at0 y7⟩) (fun hHeld => ?_)
          clear hK K
          (try simp only [Act.put, List.setIfInBounds_toArray, List.set_cons_zero, List.set_cons_succ])
          refine wpAnyH_take (i := 10) (oi := ⟨some 39, _, _, _, _, none⟩) (v := ?v10) rfl (by kernel_rfl) (by kernel_rfl) (by kernel_rfl) (fun _ _ _ h => h) (Or.inl ⟨by rfl, ?hy10⟩) (by assumption) ?rest10
          case hy10 => (intro wS hSw; (try dsimp only at hSw); go_simp; (try with_reducible rfl))
          (try simp only [Act.put, List.setIfInBounds_toArray, List.set_cons_zero, List.set_cons_succ])
          refine wpAnyH_done (by kernel_rfl) ?_ _
          clear hHeld t0 t1 t2 y0 y1 y2 y3 y4 y5 y6 y7
          have G4 := FV.trans f4
          have PB4 : Hid (PdB w4 g ⟨ho, hc, hm, ⟨vn, vi, vt⟩, hkd, hp⟩ ⟨A, n, c⟩) := Lib.hid (PB.out.fr G4 (fun e => e))
          have AB4 : TrB 39 w4 (g + 1) ⟨false, false, false⟩ := AB.out.fr G4 (fun e => e)
          have F4 := Lib.hid (FR.out.trans G4)
          clear PB AB FR G4 FV f4 HM
          cases y
          · have HE := Lib.hid (HX2.out (HN1.out rfl))
            have AB6 := Lib.hid (setTr_B AB4 false false false)
            have F6 := Lib.hid (F4.out.fresh (setTr_fr w4 (g + 1) false false false) (fun k e => by have : k = g + 1 := e; omega))
            obtain ⟨p0, p1, p2, z0, z1, z2⟩ := TrB.facts AB4
            dsimp only at p0 p1 p2
            go_wp2
            exact bodyPost_ret (v := .tuple #[trV ⟨false, false, false⟩, .int .i64 1]) (ret_rtr2 (p := 6) (u := 7) rfl _ _ _ ⟨false, false, false⟩ _ (by rfl) (by rfl) AB6.out) rfl ⟨ret_ask HE.out, F6.out⟩
          · have HX1 := Lib.hid (HX.out rfl)
            replace AB4 := Lib.hid AB4
            go_wp2
            go_roundw
            case rel => exact ⟨k + 1, by omega, by go_num, HX1, PB4, AB4, F4⟩
            case measure => simp [intOf]; omega
        · have hY := HY.out (fun j h h2 => HT.out j h h2 (by omega))
          have HE := Lib.hid (HX3.out hY)
          replace HTr := Lib.hid (HTr.out hY)
          obtain ⟨b0, b1, b2, b3, b4, b5, b6, b7, b8⟩ := pdB_cells PB.out
          dsimp only at b0 b1 b2 b3 b4 b5 b6 b7 b8
          clear HT HY HN hY
          go_wp2_with fail
          refine (HTr.out _ FR.out).mono ?_
          rintro e w4 ⟨rfl, f4⟩
          have AB4 : TrB 39 w4 (g + 1) ⟨false, false, false⟩ := AB.out.fr f4 (fun e => e)
          have F4 := Lib.hid (FR.out.trans f4)
          clear b0 b1 b2 b3 b4 b5 b6 b7 b8 f4 HTr
          have AB6 := Lib.hid (setTr_B AB4 ya yb yc)
          have F6 := Lib.hid (F4.out.fresh (setTr_fr w4 (g + 1) ya yb yc) (fun k e => by have : k = g + 1 := e; omega))
          obtain ⟨p0, p1, p2, z0, z1, z2⟩ := TrB.facts AB4
          dsimp only at p0 p1 p2
          go_wp2
          exact bodyPost_ret (v := .tuple #[trV ⟨ya, yb, yc⟩, .int .i64 0]) (ret_rtr2 (p := 6) (u := 7) rfl _ _ _ ⟨ya, yb, yc⟩ _ (by rfl) (by rfl) AB6.out) rfl ⟨ret_ask HE.out, F6.out⟩
    · have hb : ((zs.length : Int) != (cols.length : Int)) = true := by rw [bne_iff_ne]; omega
      have HE := Lib.hid (HX2.out (zonesB_len hlen))
      clear hlen HX2 HX3 HTr
      go_enter Tryd.func10, Tryd.ntmps10
      go_wp2_with fail
      refine (HF.out _ F0.out).mono ?_
      rintro e w1 ⟨rfl, f1⟩
      have PB1 : Hid (PdB w1 g ⟨ho, hc, hm, ⟨vn, vi, vt⟩, hkd, hp⟩ ⟨A, n, c⟩) := Lib.hid (PB.out.fr f1 (fun e => e))
      have AB1 : TrB 39 w1 (g + 1) ⟨false, false, false⟩ := AB.out.fr f1 (fun e => e)
      have F1 := Lib.hid (F0.out.trans f1)
      clear f1 PB AB F0 HF
      have AB6 := Lib.hid (setTr_B AB1 false false false)
      have F6 := Lib.hid (F1.out.fresh (setTr_fr w1 (g + 1) false false false) (fun k e => by have : k = g + 1 := e; omega))
      obtain ⟨p0, p1, p2, z0, z1, z2⟩ := TrB.facts AB1
      dsimp only at p0 p1 p2
      go_wp2
      exact bodyPost_ret (v := .tuple #[trV ⟨false, false, false⟩, .int .i64 1]) (ret_rtr2 (p := 6) (u := 7) rfl _ _ _ ⟨false, false, false⟩ _ (by rfl) (by rfl) AB6.out) rfl ⟨ret_ask HE.out, F6.out⟩
  · have HE := Lib.hid (HX.out hz)
    have hb : (z != 0) = true := by rw [bne_iff_ne]; exact hz
    clear HX HX2 HX3 HTr hz
    go_enter Tryd.func10, Tryd.ntmps10
    go_wp2_with fail
    refine (HF.out _ F0.out).mono ?_
    rintro e w1 ⟨rfl, f1⟩
    have PB1 : Hid (PdB w1 g ⟨ho, hc, hm, ⟨vn, vi, vt⟩, hkd, hp⟩ ⟨A, n, c⟩) := Lib.hid (PB.out.fr f1 (fun e => e))
    have AB1 : TrB 39 w1 (g + 1) ⟨false, false, false⟩ := AB.out.fr f1 (fun e => e)
    have F1 := Lib.hid (F0.out.trans f1)
    clear f1 PB AB F0 HF
    have AB6 := Lib.hid (setTr_B AB1 false false false)
    have F6 := Lib.hid (F1.out.fresh (setTr_fr w1 (g + 1) false false false) (fun k e => by have : k = g + 1 := e; omega))
    obtain ⟨p0, p1, p2, z0, z1, z2⟩ := TrB.facts AB1
    dsimp only at p0 p1 p2
    go_wp2
    exact bodyPost_ret (v := .tuple #[trV ⟨false, false, false⟩, .int .i64 z]) (ret_rtr2 (p := 6) (u := 7) rfl _ _ _ ⟨false, false, false⟩ _ (by rfl) (by rfl) AB6.out) rfl ⟨ret_ask HE.out, F6.out⟩
end Go.Proofs.YtpmipdnmhffkeaaDoor


namespace Go.Proofs.YtpmipdnmhffkeaaDoor
set_option linter.unusedVariables false
set_option linter.unusedSimpArgs false
set_option maxRecDepth 100000
open Go.RowKit

/-- the first, and the others, of a slice -/
theorem Kd.fst {w : World} {a : Addr} {n c : Nat} {p : Pd} {l : List Pd} (h : Kd w ⟨some a, n, c⟩ (p :: l)) : Kd w ⟨some a, 1, c⟩ [p] := by
  cases h with
  | mk s ns ps hl hN hh hb hk =>
    obtain ⟨A, c', he, h1, h2, h3⟩ := hN
    unfold kidV at he
    simp only [Value.slice.injEq] at he
    obtain ⟨rfl, hn, rfl⟩ := he
    cases ns with
    | nil => cases hl
    | cons x r =>
      refine .mk _ [x] [p] rfl ⟨some a, c, rfl, by simp at h1 ⊢; omega, fun e => (by cases e), fun b hb' j hj => ?_⟩ (fun i h1 h2 => ?_) (fun i h2 => ?_) (fun i h1 h2 => ?_)
      · have hj0 : j = 0 := by simpa using hj
        subst hj0
        exact h3 b hb' 0 (by simp)
      · have hi : i = 0 := by simpa using h1
        subst hi; exact hh 0 (by simp) (by simp)
      · have hi : i = 0 := by simpa using h2
        subst hi; exact hb 0 (by simp)
      · have hi : i = 0 := by simpa using h1
        subst hi; exact hk 0 (by simp) (by simp)
end Go.Proofs.YtpmipdnmhffkeaaDoor


namespace Go.Proofs.YtpmipdnmhffkeaaDoor
set_option linter.unusedVariables false
set_option linter.unusedSimpArgs false
set_option maxRecDepth 100000
open Go.RowKit

theorem num21_any (z : Int) (w : World) : Calls Tryd.prog 11 #[.int .i64 z] w fun e w' => e = .returned (.int .i64 z) ∧ w = w' := by
  go_enter Tryd.func11, Tryd.ntmps11
  go_wp2
  go_ret
  exact ⟨rfl, rfl⟩

def x21P : Ph := ⟨2, [97], 5, ⟨false, 5, []⟩, 1, []⟩
def x21C : List Co := [⟨[97], 1, false⟩]
def x21Z : List Zn := [⟨2, 0, ⟨false, 1, []⟩, ⟨false, 5, []⟩⟩]
theorem x21_1 : prnE x21C (.mk x21P []) x21Z = (⟨false, true, false⟩, 0) := by decide +kernel
theorem x21_2 : skpE x21C (.mk x21P []) x21Z = true := by decide +kernel

set_option maxHeartbeats 4000000 in
theorem live21_any (w : World) (hT : OppT w) : Calls Tryd.prog 8 #[] w fun e w' => e = .returned (.bool true) ∧ Fr Non w w' := by
  have f1 := (Fr.refl Non w).alloc (.cells #[.string ⟨#[97]⟩, .int .i64 1, .bool false] 55)
  have f2 := f1.alloc (.cells #[.int .i64 2, .int .i64 0, .bool false, .int .i64 1, .string ⟨#[]⟩, .bool false, .int .i64 5, .string ⟨#[]⟩] 33)
  have f3 := f2.alloc (.cells (pdC x21P noKv) 27)
  have k1 : Ks (((w.alloc (.cells #[.string ⟨#[97]⟩, .int .i64 1, .bool false] 55)).alloc (.cells #[.int .i64 2, .int .i64 0, .bool false, .int .i64 1, .string ⟨#[]⟩, .bool false, .int .i64 5, .string ⟨#[]⟩] 33)).alloc (.cells (pdC x21P noKv) 27)) (.slice (some ⟨w.heap.size, 0, none⟩) 1 1) x21C :=
    ((((no_lit (E := 55) fd_co w 0 _ [⟨[97], 1, false⟩] #[.string ⟨#[97]⟩, .int .i64 1, .bool false] rfl rfl (Nat.zero_le _) (by decide)).alloc _).alloc _).ns fd_co)
  have z1 : Zs (((w.alloc (.cells #[.string ⟨#[97]⟩, .int .i64 1, .bool false] 55)).alloc (.cells #[.int .i64 2, .int .i64 0, .bool false, .int .i64 1, .string ⟨#[]⟩, .bool false, .int .i64 5, .string ⟨#[]⟩] 33)).alloc (.cells (pdC x21P noKv) 27)) (.slice (some ⟨w.heap.size + 1, 0, none⟩) 1 1) x21Z :=
    ((no_lit (E := 33) fd_zn (w.alloc (.cells #[.string ⟨#[97]⟩, .int .i64 1, .bool false] 55)) 0 (w.heap.size + 1) [⟨2, 0, ⟨false, 1, []⟩, ⟨false, 5, []⟩⟩] #[.int .i64 2, .int .i64 0, .bool false, .int .i64 1, .string ⟨#[]⟩, .bool false, .int .i64 5, .string ⟨#[]⟩] rfl (by simp) (Nat.zero_le _) (by decide)).alloc _).ns fd_zn
  have PB := pd_new ((w.alloc (.cells #[.string ⟨#[97]⟩, .int .i64 1, .bool false] 55)).alloc (.cells #[.int .i64 2, .int .i64 0, .bool false, .int .i64 1, .string ⟨#[]⟩, .bool false, .int .i64 5, .string ⟨#[]⟩] 33)) _ x21P noKv rfl
  rw [show ((w.alloc (.cells #[.string ⟨#[97]⟩, .int .i64 1, .bool false] 55)).alloc (.cells #[.int .i64 2, .int .i64 0, .bool false, .int .i64 1, .string ⟨#[]⟩, .bool false, .int .i64 5, .string ⟨#[]⟩] 33)).heap.size = w.heap.size + 1 + 1 by simp] at PB
  have hcb : ∀ c ∈ x21C, c.name.length ≤ 1000 := by decide
  have R1 := Lib.hid (fun W (h1 : Ks W (.slice (some ⟨w.heap.size, 0, none⟩) 1 1) x21C) (h2 : Zs W (.slice (some ⟨w.heap.size + 1, 0, none⟩) 1 1) x21Z) (h3 : OppT W) => pzask_any _ _ x21C x21Z (by decide) hcb x21P [] noKv W h1 h2 h3 (Kd.nil_ W) (show I64b 5 by unfold I64b; omega) (by decide +kernel) (by decide +kernel))
  have R2 := Lib.hid (fun W (h1 : Ks W (.slice (some ⟨w.heap.size, 0, none⟩) 1 1) x21C) (h2 : Zs W (.slice (some ⟨w.heap.size + 1, 0, none⟩) 1 1) x21Z) (h3 : OppT W) => pzskip_any _ _ x21C x21Z (by decide) hcb x21P [] noKv W h1 h2 h3 (Kd.nil_ W) (show I64b 5 by unfold I64b; omega) (by decide +kernel) (by decide +kernel))
  rw [x21_1] at R1
  rw [x21_2] at R2
  have q := fun W => run_eql_tr W false true false
  have o1 := Lib.hid (hT.non f3)
  replace k1 := Lib.hid k1
  replace z1 := Lib.hid z1
  replace f3 := Lib.hid f3
  replace PB := Lib.hid PB
  have HN := Lib.hid (fun z W => num21_any z W)
  clear f1 f2 hcb hT
  unfold askV trV at R1
  unfold x21P pdV at *
  unfold pdC kidV noKv at *
  dsimp only at *
  go_enter Tryd.func8, Tryd.ntmps8
  go_wp2_with fail
  refine (R1.out _ k1.out z1.out o1.out).mono ?_
  rintro e w1 ⟨rfl, g1⟩
  have g2 := g1.alloc (.cells #[.bool false, .bool true, .bool false] 35)
  have k2 := Lib.hid (k1.out.non g2)
  have z2 := Lib.hid (z1.out.non g2)
  have o2 := Lib.hid (o1.out.non g2)
  have F2 := Lib.hid (f3.out.trans g2)
  obtain ⟨b0, b1, b2, b3, b4, b5, b6, b7, b8⟩ := pdB_cells (PB.out.fr g2 (fun e => e))
  dsimp only at b0 b1 b2 b3 b4 b5 b6 b7 b8
  clear g1 g2 R1
  go_wp2_with fail
  refine (HN.out _ _).mono ?_
  rintro e w4 ⟨rfl, rfl⟩
  go_wp2_with fail
  refine (R2.out _ k2.out z2.out o2.out).mono ?_
  rintro e w5 ⟨rfl, g5⟩
  go_wp2
  go_ret
  exact ⟨rfl, F2.out.trans g5⟩
end Go.Proofs.YtpmipdnmhffkeaaDoor


namespace Go.Proofs.YtpmipdnmhffkeaaDoor
set_option linter.unusedVariables false
set_option linter.unusedSimpArgs false
set_option maxRecDepth 100000
open Go.RowKit

set_option maxHeartbeats 8000000 in
theorem pruneAsks_walk (v0 v2 : Value) (cols : List Co) (h : Ph) (t : Kv) (ks : List Pd) (zs : List Zn) (w : World) (h0 : Ks w v0 cols) (hk : Kd w t ks) (hb : I64b h.val.num) (h2 : Zs w v2 zs) (hT : OppT w) :
    Calls Tryd.prog 3 #[v0, pdV h t, v2] w fun e w' => e = .returned (.bool true) ∧ Below w.heap.size w w' := by
  have F00 : Fr Non w (w.alloc (.cells (pdC h t) 27)) := (Fr.refl Non w).alloc _
  have PB0 := Lib.hid (pd_new w _ h t rfl)
  have S1 := Lib.hid (ksmall_any v0 cols _ (h0.non F00))
  have S2 := Lib.hid (fun W hk => rpsmall_any (.mk h ks) t 9 9 W rfl (by omega) hk)
  have A1 : Hid (lenP (.mk h ks) = true → depP (.mk h ks) ≤ 9 → (cols.length ≤ 20 ∧ ∀ c ∈ cols, c.name.length ≤ 100) → ∀ W, Fr Non w W → Calls Tryd.prog 9 #[v0, pdV h t, v2] W fun e w' => e = .returned (askV (prnE cols (.mk h ks) zs)) ∧ Fr Non W w') :=
    Lib.hid (fun a b c W hf => pzask_any v0 v2 cols zs (by omega) (fun x hx => by have := c.2 x hx; omega) h ks t W (h0.non hf) (h2.non hf) (hT.non hf) (hk.non hf) hb (big_of_len _ a) (by omega))
  have A2 : Hid (lenP (.mk h ks) = true → (cols.length ≤ 20 ∧ ∀ c ∈ cols, c.name.length ≤ 100) → zs.length ≤ 20 → ∀ W, Fr Non w W → Calls Tryd.prog 10 #[v0, pdV h t, v2] W fun e w' => e = .returned (askV (prnE cols (.mk h ks) zs)) ∧ Fr Non W w') :=
    Lib.hid (fun a c d W hf => dzAsk_any v0 v2 cols zs (by omega) (fun x hx => by have := c.2 x hx; omega) h ks t W (h0.non hf) (h2.non hf) (hk.non hf) a (by omega))
  have A3 : Hid (lenP (.mk h ks) = true → depP (.mk h ks) ≤ 9 → (cols.length ≤ 20 ∧ ∀ c ∈ cols, c.name.length ≤ 100) → ∀ W, Fr Non w W → Calls Tryd.prog 12 #[v0, pdV h t, v2] W fun e w' => e = .returned (.bool (skpE cols (.mk h ks) zs)) ∧ Fr Non W w') :=
    Lib.hid (fun a b c W hf => pzskip_any v0 v2 cols zs (by omega) (fun x hx => by have := c.2 x hx; omega) h ks t W (h0.non hf) (h2.non hf) (hT.non hf) (hk.non hf) hb (big_of_len _ a) (by omega))
  have HSk := Lib.hid (fun a b e => skpE_is (cols := cols) (p := .mk h ks) (zs := zs) (t := a) (e := b) e)
  dsimp only [Pd.hd, Pd.kids] at S2
  generalize prnE cols (.mk h ks) zs = r at *
  generalize skpE cols (.mk h ks) zs = sk at *
  generalize lenP (.mk h ks) = lb at *
  generalize depP (.mk h ks) = db at *
  obtain ⟨⟨ya, yb, yc⟩, z⟩ := r
  replace HSk := Lib.hid (HSk.out _ _ rfl)
  have HK : Hid (Kd w t ks) := Lib.hid hk
  have HZ : Hid (Zs w v2 zs) := Lib.hid h2
  have HO := Lib.hid hT
  have HLi := Lib.hid (fun W (hf : Fr Non w W) => live21_any W (hT.non hf))
  have HN := Lib.hid (fun z W => num21_any z W)
  obtain ⟨A0, c0, rfl⟩ := h0.shape
  obtain ⟨A2_, c2, rfl⟩ := h2.shape
  replace F00 := Lib.hid F00
  clear hk h0 h2 hb hT
  obtain ⟨ho, hc, hm, ⟨vn, vi, vt⟩, hkd, hp⟩ := h
  obtain ⟨A, n, c⟩ := t
  unfold askV trV at A1 A2
  unfold pdV at *
  unfold pdC kidV at *
  dsimp only at *
  generalize hg : w.heap.size = g at *
  go_enter Tryd.func3, Tryd.ntmps3
  go_wp2_with fail
  refine S1.out.mono ?_
  rintro e w1 ⟨s1, rfl, hs1, f1⟩
  have HB1 := Lib.hid hs1
  have PB1 := Lib.hid (PB0.out.fr f1 (fun e => e))
  have F1 := Lib.hid (F00.out.trans f1)
  clear f1 hs1 S1
  cases s1
  · clear A1 A2 A3 S2 HB1
    go_wp2_with fail
    refine (HLi.out _ F1.out).mono ?_
    rintro e w9 ⟨rfl, f9⟩
    go_wp2
    go_ret
    exact ⟨rfl, (F1.out.trans f9).below.mono (by omega)⟩
  · obtain ⟨b0, b1, b2, b3, b4, b5, b6, b7, b8⟩ := pdB_cells PB1.out
    dsimp only at b0 b1 b2 b3 b4 b5 b6 b7 b8
    go_wp2_with fail
    refine (S2.out _ (HK.out.non F1.out)).mono ?_
    rintro e w2 ⟨⟨s2, rfl, hs2⟩, f2⟩
    have HB2 := Lib.hid hs2
    have PB2 := Lib.hid (PB1.out.fr f2 (fun e => e))
    have F2 := Lib.hid (F1.out.trans f2)
    clear f2 hs2 S2 b0 b1 b2 b3 b4 b5 b6 b7 b8
    cases s2
    · clear A1 A2 A3 HB1 HB2
      go_wp2_with fail
      refine (HLi.out _ F2.out).mono ?_
      rintro e w9 ⟨rfl, f9⟩
      go_wp2
      go_ret
      exact ⟨rfl, (F2.out.trans f9).below.mono (by omega)⟩
    · obtain ⟨hl1, hd1⟩ := HB2.out rfl
      have hcl := HB1.out (by trivial)
      by_cases hz20 : 20 < zs.length
      · have hd : decide (20 < (zs.length : Int)) = true := by simp; omega
        clear A1 A2 A3 HB1 HB2 hl1 hd1 hcl hz20
        go_wp2_with fail
        refine (HLi.out _ F2.out).mono ?_
        rintro e w9 ⟨rfl, f9⟩
        go_wp2
        go_ret
        exact ⟨rfl, (F2.out.trans f9).below.mono (by omega)⟩
      have hd : decide (20 < (zs.length : Int)) = false := by simp; omega
      have M1 := Lib.hid (A1.out hl1 hd1 hcl)
      have M2 := Lib.hid (A2.out hl1 hcl (by omega))
      have M3 := Lib.hid (A3.out hl1 hd1 hcl)
      have hz9 : zs.length ≤ 20 := by omega
      clear A1 A2 A3 HB1 HB2 hl1 hd1 hcl hz20
      go_wp2
      go_loopw [7] (fun i wr => ∃ k : Nat, k ≤ zs.length ∧ i = .int .i64 k ∧ Hid (Fr Non w2 wr)) (fun i _ => zs.length - (intOf i).toNat)
      case atStart => exact ⟨0, Nat.zero_le _, rfl, Lib.hid (Fr.refl _ _)⟩
      case round =>
        obtain ⟨k, hk, rfl, FR⟩ := hrel
        have F3 := Lib.hid (F2.out.trans FR.out)
        have PB3 := Lib.hid (PB2.out.fr FR.out (fun e => e))
        by_cases hlt : k < zs.length
        · obtain ⟨a2, rfl, -, -, hel⟩ := (HZ.out.non F3.out).addr (show 0 < zs.length by omega)
          obtain ⟨y0, y1, y2, y3, y4, y5, y6, y7⟩ := zn_lit (hel k hlt)
          clear hel M1 M2 M3
          generalize hzk : zs[k] = x at *
          clear hzk
          obtain ⟨zr, zu, ⟨ln, li, lt⟩, ⟨hn2, hi, ht⟩⟩ := x
          dsimp only at y0 y1 y2 y3 y4 y5 y6 y7
          by_cases hlt1 : 100 < lt.length
          · have d1 : decide (100 < (lt.length : Int)) = true := by simp; omega
            clear hlt1
            go_wp2_with fail
            refine (HLi.out _ F3.out).mono ?_
            rintro e w9 ⟨rfl, f9⟩
            go_wp2
            go_ret
            exact ⟨rfl, (F3.out.trans f9).below.mono (by omega)⟩
          · have d1 : decide (100 < (lt.length : Int)) = false := by simp; omega
            clear hlt1
            by_cases hlt2 : 100 < ht.length
            · have d2 : decide (100 < (ht.length : Int)) = true := by simp; omega
              clear hlt2
              go_wp2_with fail
              refine (HLi.out _ F3.out).mono ?_
              rintro e w9 ⟨rfl, f9⟩
              go_wp2
              go_ret
              exact ⟨rfl, (F3.out.trans f9).below.mono (by omega)⟩
            · have d2 : decide (100 < (ht.length : Int)) = false := by simp; omega
              clear hlt2
              go_wp2
              go_roundw
              case rel => exact ⟨k + 1, by omega, by go_num, FR⟩
              case measure => simp [intOf]; omega
        · clear FR
          obtain ⟨b0, b1, b2, b3, b4, b5, b6, b7, b8⟩ := pdB_cells PB3.out
          dsimp only at b0 b1 b2 b3 b4 b5 b6 b7 b8
          go_wp2_with fail
          refine (M1.out _ F3.out).mono ?_
          rintro e w4 ⟨rfl, f4⟩
          have g4 := f4.alloc (.cells #[.bool ya, .bool yb, .bool yc] 35)
          have PB4 := Lib.hid (PB3.out.fr g4 (fun e => e))
          have F4 := Lib.hid (F3.out.trans g4)
          obtain ⟨R4, hR4⟩ : ∃ R, w4.heap.size = R := ⟨_, rfl⟩
          have TB4 : Hid (TrB 35 _ R4 ⟨ya, yb, yc⟩) := Lib.hid (tr_newG 35 w4 ⟨ya, yb, yc⟩ R4 hR4)
          obtain ⟨W4, hW4⟩ : ∃ W, W = w4.alloc (.cells #[.bool ya, .bool yb, .bool yc] 35) := ⟨_, rfl⟩
          dsimp only at TB4
          rw [← hW4] at PB4 F4 TB4
          clear b0 b1 b2 b3 b4 b5 b6 b7 b8 f4 g4 M1 PB3 F3
          go_upto_region 9 with fail
          rw [← hW4]
          clear hW4 hR4
          obtain ⟨b0, b1, b2, b3, b4, b5, b6, b7, b8⟩ := pdB_cells PB4.out
          dsimp only at b0 b1 b2 b3 b4 b5 b6 b7 b8
          go_wp2_with fail
          refine (M2.out _ F4.out).mono ?_
          rintro e w5 ⟨rfl, f5⟩
          have g5 := f5.alloc (.cells #[.bool ya, .bool yb, .bool yc] 39)
          have PB5 := Lib.hid (PB4.out.fr g5 (fun e => e))
          have F5 := Lib.hid (F4.out.trans g5)
          obtain ⟨R5, hR5⟩ : ∃ R, w5.heap.size = R := ⟨_, rfl⟩
          have TB5 : Hid (TrB 39 _ R5 ⟨ya, yb, yc⟩) := Lib.hid (tr_newG 39 w5 ⟨ya, yb, yc⟩ R5 hR5)
          have TB6 : Hid (TrB 35 (w5.alloc (.cells #[.bool ya, .bool yb, .bool yc] 39)) R4 ⟨ya, yb, yc⟩) := Lib.hid (TB4.out.fr g5 (fun e => e))
          obtain ⟨W5, hW5⟩ : ∃ W, W = w5.alloc (.cells #[.bool ya, .bool yb, .bool yc] 39) := ⟨_, rfl⟩
          dsimp only at TB5
          rw [← hW5] at PB5 F5 TB5 TB6
          clear b0 b1 b2 b3 b4 b5 b6 b7 b8 f5 g5 M2 PB4 F4 TB4
          go_upto_region 10 with fail
          rw [← hW5]
          clear hW5 hR5
          obtain ⟨b0, b1, b2, b3, b4, b5, b6, b7, b8⟩ := pdB_cells PB5.out
          dsimp only at b0 b1 b2 b3 b4 b5 b6 b7 b8
          obtain ⟨m0, m1, m2, -⟩ := TB6.out.facts
          obtain ⟨n0, n1, n2, -⟩ := TB5.out.facts
          dsimp only at m0 m1 m2 n0 n1 n2
          go_wp2_with fail
          refine (HN.out _ _).mono ?_
          rintro e w6 ⟨rfl, rfl⟩
          by_cases hz : z = 0
          · subst hz
            have hsk : sk = !ya := by rw [HSk.out]; rfl
            subst hsk
            go_wp2_with fail
            refine (M3.out _ F5.out).mono ?_
            rintro e w7 ⟨rfl, f7⟩
            have TB7 : TrB 39 w7 R5 ⟨ya, yb, yc⟩ := TB5.out.fr f7 (fun e => e)
            have F7 := Lib.hid (F5.out.trans f7)
            clear b0 b1 b2 b3 b4 b5 b6 b7 b8 m0 m1 m2 n0 n1 n2 f7 M3
            obtain ⟨n0, n1, n2, -⟩ := TB7.facts
            dsimp only at n0 n1 n2
            go_wp2_with fail
            refine (HLi.out _ F7.out).mono ?_
            rintro e w9 ⟨rfl, f9⟩
            go_wp2
            go_ret
            exact ⟨rfl, (F7.out.trans f9).below.mono (by omega)⟩
          · have hb : (z == 0) = false := by rw [beq_eq_false_iff_ne]; exact hz
            have hsk : sk = false := by rw [HSk.out, decide_eq_false hz]; rfl
            subst hsk
            clear hz
            go_wp2_with fail
            refine (M3.out _ F5.out).mono ?_
            rintro e w7 ⟨rfl, f7⟩
            have F7 := Lib.hid (F5.out.trans f7)
            clear b0 b1 b2 b3 b4 b5 b6 b7 b8 m0 m1 m2 n0 n1 n2 f7 M3
            go_wp2_with fail
            refine (HLi.out _ F7.out).mono ?_
            rintro e w9 ⟨rfl, f9⟩
            go_wp2
            go_ret
            exact ⟨rfl, (F7.out.trans f9).below.mono (by omega)⟩
end Go.Proofs.YtpmipdnmhffkeaaDoor


namespace Go.Proofs.YtpmipdnmhffkeaaDoor
set_option linter.unusedVariables false
set_option linter.unusedSimpArgs false
set_option maxRecDepth 100000
open Go.Joins Go.ChangeShapes Go.WideShapes Go.ChangeAt Go.RowKit Go.Deep

/-- a cell within its fields' ranges -/
structure ClWf (c : Cl) : Prop where
  lo : -9223372036854775808 ≤ c.num
  hi : c.num ≤ 9223372036854775807
  len : c.txt.length ≤ 9223372036854775807
end Go.Proofs.YtpmipdnmhffkeaaDoor


namespace Go.Proofs.YtpmipdnmhffkeaaDoor
set_option linter.unusedVariables false
set_option linter.unusedSimpArgs false
set_option maxRecDepth 100000
open Go.Joins Go.ChangeShapes Go.WideShapes Go.ChangeAt Go.RowKit Go.Deep

theorem cof_bool : Tryd.prog.cellsOf 4 = 1 := by kernel_rfl
theorem cof_i64 : Tryd.prog.cellsOf 2 = 1 := by kernel_rfl
theorem cof_int : Tryd.prog.cellsOf 3 = 1 := by kernel_rfl
theorem cof_str : Tryd.prog.cellsOf 9 = 1 := by kernel_rfl
theorem cof_cl : Tryd.prog.cellsOf 24 = 3 := by kernel_rfl
/-- three cells that are read as a cell -/
theorem cl_cells {H : Type} {enc : TypeId × Value → H} {W : World} {n : Nat} {x : DataW H × List MemPlace} {c2 c3 c4 : Value}
    (h : DataW.trod enc Tryd.prog W 0 (fun _ => true) true n 24 [c2, c3, c4] = some x) : ∃ c : Cl, c2 = .bool c.null ∧ c3 = .int .i64 c.num ∧ c4 = .string ⟨c.txt.toArray⟩ ∧ ClWf c := by
  obtain ⟨y0, y1, y2, m, rfl, _, h0, h1, h2⟩ := trod_struct3 Tryd.underlying24 h
  simp only [cof_bool, cof_i64, cof_str, List.drop_zero, List.drop_succ_cons, List.take_succ_cons, List.take_zero] at h0 h1 h2
  obtain ⟨b, e0, _⟩ := DataW.trod_bool Tryd.underlying4 h0
  obtain rfl := (List.cons.inj e0).1
  obtain ⟨i, e1, _, hi⟩ := DataW.trod_int Tryd.underlying2 h1
  obtain rfl := (List.cons.inj e1).1
  obtain ⟨s, e2, _, hs⟩ := DataW.trod_string Tryd.underlying9 h2
  obtain rfl := (List.cons.inj e2).1
  have hb := wf_i64_bd hi
  exact ⟨⟨b, i, s.data.toList⟩, rfl, rfl, by simp, ⟨hb.1, hb.2, by simpa [maxLen] using hs⟩⟩
end Go.Proofs.YtpmipdnmhffkeaaDoor


namespace Go.Proofs.YtpmipdnmhffkeaaDoor
set_option linter.unusedVariables false
set_option linter.unusedSimpArgs false
set_option maxRecDepth 100000
open Go.Joins Go.ChangeShapes Go.WideShapes Go.ChangeAt Go.RowKit Go.Deep

theorem cof_co : Tryd.prog.cellsOf 55 = 3 := by kernel_rfl
/-- a column within its fields' ranges -/
structure CoWf (c : Co) : Prop where
  lo : -9223372036854775808 ≤ c.ty
  hi : c.ty ≤ 9223372036854775807
  len : c.name.length ≤ 9223372036854775807
/-- three cells that are read as a column -/
theorem co_cells {H : Type} {enc : TypeId × Value → H} {W : World} {n : Nat} {x : DataW H × List MemPlace} {c2 c3 c4 : Value}
    (h : DataW.trod enc Tryd.prog W 0 (fun _ => true) true n 55 [c2, c3, c4] = some x) : ∃ c : Co, c2 = .string ⟨c.name.toArray⟩ ∧ c3 = .int .i64 c.ty ∧ c4 = .bool c.nl ∧ CoWf c := by
  obtain ⟨y0, y1, y2, m, rfl, _, h0, h1, h2⟩ := trod_struct3 Tryd.underlying55 h
  simp only [cof_bool, cof_int, cof_str, List.drop_zero, List.drop_succ_cons, List.take_succ_cons, List.take_zero] at h0 h1 h2
  obtain ⟨s, e0, _, hs⟩ := DataW.trod_string Tryd.underlying9 h0
  obtain rfl := (List.cons.inj e0).1
  obtain ⟨i, e1, _, hi⟩ := DataW.trod_int Tryd.underlying3 h1
  obtain rfl := (List.cons.inj e1).1
  obtain ⟨b, e2, _⟩ := DataW.trod_bool Tryd.underlying4 h2
  obtain rfl := (List.cons.inj e2).1
  have hb := wf_i64_bd hi
  exact ⟨⟨s.data.toList, i, b⟩, by simp, rfl, rfl, ⟨hb.1, hb.2, by simpa [maxLen] using hs⟩⟩
theorem ks_in {H : Type} {enc : TypeId × Value → H} {W : World} {base : Nat} {v : Value} {d : DataW H} {p : List MemPlace} (hv : Value.okWide Tryd.prog W .any base 22 v)
    (h : DataW.Trod enc Tryd.prog W 0 (fun _ => true) true 22 v d p) : ∃ l, Ks W v l ∧ l.length ≤ 9223372036854775807 ∧ (∀ c ∈ l, CoWf c) ∧ ∀ k, v.ownBlock = some k → k < W.heap.size :=
  ns_in fd_co Tryd.underlying22 cof_co CoWf (fun n cs y hl hy => by
    match cs, hl with
    | [v0, v1, v2], _ =>
      obtain ⟨c, rfl, rfl, rfl, hw⟩ := co_cells hy
      exact ⟨c, rfl, hw⟩) hv h
end Go.Proofs.YtpmipdnmhffkeaaDoor


namespace Go.Proofs.YtpmipdnmhffkeaaDoor
set_option linter.unusedVariables false
set_option linter.unusedSimpArgs false
set_option maxRecDepth 100000
open Go.Joins Go.ChangeShapes Go.WideShapes Go.ChangeAt Go.RowKit Go.Deep

/-! ### A predicate opened -/
theorem cof_pd : Tryd.prog.cellsOf 27 = 9 := by kernel_rfl
theorem cof_pds : Tryd.prog.cellsOf 25 = 1 := by kernel_rfl
theorem pd_trod {H : Type} {enc : TypeId × Value → H} {W : World} : ∀ (N fuel : Nat) (cs : List Value) (x : DataW H × List MemPlace), SizeOf.sizeOf x.1 ≤ N →
    DataW.trod enc Tryd.prog W 0 (fun _ => true) true fuel 27 cs = some x → ∃ (h : Ph) (s : Kv) (ks : List Pd), cs = pdL (h, s) ∧ Kd W s ks ∧ I64b h.val.num := by
  intro N
  induction N with
  | zero =>
    intro fuel cs x hx h
    obtain ⟨xs, n, rfl, hxe, _⟩ := DataW.trod_struct Tryd.underlying27 h
    rw [hxe] at hx
    simp only [DataW.agg.sizeOf_spec] at hx
    omega
  | succ N ih =>
    intro fuel cs x hx h
    obtain ⟨xs, n, rfl, hxe, hlen, hxl, hall⟩ := DataW.trod_struct Tryd.underlying27 h
    rw [cof_pd] at hlen
    have hxl7 : xs.length = 7 := hxl
    rw [hxe] at hx
    simp only [DataW.agg.sizeOf_spec] at hx
    match cs, hlen with
    | [v0, v1, v2, v3, v4, v5, v6, v7, v8], _ =>
      have f0 : DataW.trod enc Tryd.prog W 0 (fun _ => true) true n 3 (List.take (Tryd.prog.cellsOf 3) (List.drop 0 [v0, v1, v2, v3, v4, v5, v6, v7, v8])) = xs[0]? := hall 0 _ rfl
      have f1 : DataW.trod enc Tryd.prog W 0 (fun _ => true) true n 9 (List.take (Tryd.prog.cellsOf 9) (List.drop 1 [v0, v1, v2, v3, v4, v5, v6, v7, v8])) = xs[1]? := hall 1 _ rfl
      have f2 : DataW.trod enc Tryd.prog W 0 (fun _ => true) true n 3 (List.take (Tryd.prog.cellsOf 3) (List.drop 2 [v0, v1, v2, v3, v4, v5, v6, v7, v8])) = xs[2]? := hall 2 _ rfl
      have f3 : DataW.trod enc Tryd.prog W 0 (fun _ => true) true n 24 (List.take (Tryd.prog.cellsOf 24) (List.drop 3 [v0, v1, v2, v3, v4, v5, v6, v7, v8])) = xs[3]? := hall 3 _ rfl
      have f4 : DataW.trod enc Tryd.prog W 0 (fun _ => true) true n 3 (List.take (Tryd.prog.cellsOf 3) (List.drop 6 [v0, v1, v2, v3, v4, v5, v6, v7, v8])) = xs[4]? := hall 4 _ rfl
      have f5 : DataW.trod enc Tryd.prog W 0 (fun _ => true) true n 9 (List.take (Tryd.prog.cellsOf 9) (List.drop 7 [v0, v1, v2, v3, v4, v5, v6, v7, v8])) = xs[5]? := hall 5 _ rfl
      have f6 : DataW.trod enc Tryd.prog W 0 (fun _ => true) true n 25 (List.take (Tryd.prog.cellsOf 25) (List.drop 8 [v0, v1, v2, v3, v4, v5, v6, v7, v8])) = xs[6]? := hall 6 _ rfl
      rw [List.getElem?_eq_getElem (by omega)] at f0 f1 f2 f3 f4 f5 f6
      simp only [cof_int, cof_str, cof_cl, cof_pds, List.drop_zero, List.drop_succ_cons, List.take_succ_cons, List.take_zero] at f0 f1 f2 f3 f4 f5 f6
      obtain ⟨i0, e0, _, w0⟩ := DataW.trod_int Tryd.underlying3 f0
      obtain rfl := (List.cons.inj e0).1
      obtain ⟨s1, e1, _, _⟩ := DataW.trod_string Tryd.underlying9 f1
      obtain rfl := (List.cons.inj e1).1
      obtain ⟨i2, e2, _, _⟩ := DataW.trod_int Tryd.underlying3 f2
      obtain rfl := (List.cons.inj e2).1
      obtain ⟨c, rfl, rfl, rfl, hc⟩ := cl_cells f3
      obtain ⟨i4, e4, _, _⟩ := DataW.trod_int Tryd.underlying3 f4
      obtain rfl := (List.cons.inj e4).1
      obtain ⟨s5, e5, _, _⟩ := DataW.trod_string Tryd.underlying9 f5
      obtain rfl := (List.cons.inj e5).1
      have hy : SizeOf.sizeOf xs[6].1 < SizeOf.sizeOf (xs.map fun x => x.fst) := List.sizeOf_lt_of_mem (List.mem_map.2 ⟨xs[6], List.getElem_mem _, rfl⟩)
      refine (?_ : ∃ (s : Kv) (ks : List Pd), v8 = kidV s ∧ Kd W s ks).elim fun s hs => ?_
      · rcases Go.Deep.open_slice Tryd.underlying25 f6 with ⟨hcs, _⟩ | ⟨a, len, cap, m, q, D, Pl, hcs, _, hl, hm, hmm, hye, hr⟩
        · obtain rfl := (List.cons.inj hcs).1
          exact ⟨noKv, [], rfl, Kd.nil_ W⟩
        · obtain rfl := (List.cons.inj hcs).1
          have hnm : len ≤ m := by rw [hmm]; simp; exact hl
          have hyx : xs[6].1 = DataW.slice ((List.range len).map D) ((List.range (m - len)).map fun j => D (len + j)) := (Prod.mk.inj (show (xs[6].1, xs[6].2) = _ from hye)).1
          rw [hyx] at hy
          simp only [DataW.slice.sizeOf_spec] at hy
          obtain ⟨l, hll, hls⟩ := choose_listG (fun i (z : (Ph × Kv) × List Pd) => AtN W (a.add (i * 9)) (pdL z.1) ∧ Kd W z.1.2 z.2 ∧ I64b z.1.1.val.num) len (by
            intro i hi
            obtain ⟨cs', h1, h2⟩ := hr i (by omega)
            rw [cof_pd] at h1
            obtain ⟨_, hlen', hcell⟩ := World.cells?_some h1
            have hd : SizeOf.sizeOf (D i) < SizeOf.sizeOf ((List.range len).map D) := List.sizeOf_lt_of_mem (List.mem_map.2 ⟨i, List.mem_range.2 hi, rfl⟩)
            obtain ⟨h', s', ks', rfl, hk', hb'⟩ := ih _ _ _ (show SizeOf.sizeOf (D i, Pl i).1 ≤ N by show SizeOf.sizeOf (D i) ≤ N; omega) h2
            refine ⟨((h', s'), ks'), fun j u hu => ?_, hk', hb'⟩
            rw [hcell j (by have := (List.getElem?_eq_some_iff.1 hu).1; simpa [pdL] using this)]
            exact hu)
          subst hll
          refine ⟨⟨some a, l.length, cap⟩, l.map fun z => .mk z.1.1 z.2, rfl, .mk _ (l.map Prod.fst) _ (by simp) ⟨some a, cap, by simp [kidV], by simpa using hl, (fun h => by cases h), fun b hb j hj => ?_⟩ (fun i h1 h2 => by simp [Pd.hd]) (fun i h2 => ?_) (fun i h1 h2 => ?_)⟩
          · cases hb
            have hj' : j < l.length := by simpa using hj
            simpa using (hls j hj').1
          · have hj' : i < l.length := by simpa using h2
            simpa [Pd.hd] using (hls i hj').2.2
          · have hj' : i < l.length := by simpa using h1
            simpa [Pd.kids] using (hls i hj').2.1
      · obtain ⟨ks, rfl, hk⟩ := hs
        exact ⟨⟨i0, s1.data.toList, i2, c, i4, s5.data.toList⟩, s, ks, by simp [pdL], hk, ⟨hc.lo, hc.hi⟩⟩
theorem pd_in {H : Type} {enc : TypeId × Value → H} {W : World} {base : Nat} {v : Value} {d : DataW H} {p : List MemPlace} (hv : Value.okWide Tryd.prog W .any base 27 v)
    (h : DataW.Trod enc Tryd.prog W 0 (fun _ => true) true 27 v d p) : ∃ (h : Ph) (s : Kv) (ks : List Pd), v = pdV h s ∧ Kd W s ks ∧ I64b h.val.num := by
  obtain ⟨cs, rfl, hsz⟩ := okWide_struct Tryd.underlying27 hv
  obtain ⟨fuel, hf⟩ := h
  obtain ⟨h, s, ks, e, hk, hb⟩ := pd_trod _ fuel _ _ (Nat.le_refl _) hf
  refine ⟨h, s, ks, ?_, hk, hb⟩
  have e2 : cs.toList = pdL (h, s) := by simpa [Value.cells] using e
  unfold pdV
  congr 1
  apply Array.ext'
  rw [e2]; rfl
end Go.Proofs.YtpmipdnmhffkeaaDoor


namespace Go.Proofs.YtpmipdnmhffkeaaDoor
set_option linter.unusedVariables false
set_option linter.unusedSimpArgs false
set_option maxRecDepth 100000
open Go.Joins Go.ChangeShapes Go.WideShapes Go.ChangeAt Go.RowKit Go.Deep

theorem cof_zn : Tryd.prog.cellsOf 33 = 8 := by kernel_rfl
/-- a zone within its fields' ranges -/
structure ZnWf (z : Zn) : Prop where
  rows : -9223372036854775808 ≤ z.rows ∧ z.rows ≤ 9223372036854775807
  nulls : -9223372036854775808 ≤ z.nulls ∧ z.nulls ≤ 9223372036854775807
  low : ClWf z.low
  high : ClWf z.high
end Go.Proofs.YtpmipdnmhffkeaaDoor


namespace Go.Proofs.YtpmipdnmhffkeaaDoor
set_option linter.unusedVariables false
set_option linter.unusedSimpArgs false
set_option maxRecDepth 100000
open Go.Joins Go.ChangeShapes Go.WideShapes Go.ChangeAt Go.RowKit Go.Deep

/-- eight cells that are read as a zone -/
theorem zn_cells {H : Type} {enc : TypeId × Value → H} {W : World} {n : Nat} {x : DataW H × List MemPlace} {c0 c1 c2 c3 c4 c5 c6 c7 : Value}
    (h : DataW.trod enc Tryd.prog W 0 (fun _ => true) true n 33 [c0, c1, c2, c3, c4, c5, c6, c7] = some x) : ∃ z : Zn, [c0, c1, c2, c3, c4, c5, c6, c7] = znL z ∧ ZnWf z := by
  obtain ⟨y0, y1, y2, y3, n, _, _, h0, h1, h2, h3⟩ := trod_struct4 Tryd.underlying33 h
  simp only [cof_int, cof_cl, List.drop_zero, List.drop_succ_cons, List.take_succ_cons, List.take_zero] at h0 h1 h2 h3
  obtain ⟨i0, e0, _, w0⟩ := DataW.trod_int Tryd.underlying3 h0
  obtain rfl := (List.cons.inj e0).1
  obtain ⟨i1, e1, _, w1⟩ := DataW.trod_int Tryd.underlying3 h1
  obtain rfl := (List.cons.inj e1).1
  obtain ⟨lo, rfl, rfl, rfl, k1⟩ := cl_cells h2
  obtain ⟨hi, rfl, rfl, rfl, k2⟩ := cl_cells h3
  have q0 := wf_i64_bd w0
  have q1 := wf_i64_bd w1
  exact ⟨⟨i0, i1, lo, hi⟩, rfl, ⟨q0.1, q0.2⟩, ⟨q1.1, q1.2⟩, k1, k2⟩
theorem zs_in {H : Type} {enc : TypeId × Value → H} {W : World} {base : Nat} {v : Value} {d : DataW H} {p : List MemPlace} (hv : Value.okWide Tryd.prog W .any base 28 v)
    (h : DataW.Trod enc Tryd.prog W 0 (fun _ => true) true 28 v d p) : ∃ l, Zs W v l ∧ l.length ≤ 9223372036854775807 ∧ (∀ c ∈ l, ZnWf c) ∧ ∀ k, v.ownBlock = some k → k < W.heap.size :=
  ns_in fd_zn Tryd.underlying28 cof_zn ZnWf (fun n cs y hl hy => by
    match cs, hl with
    | [c0, c1, c2, c3, c4, c5, c6, c7], _ => exact zn_cells hy) hv h

/-- the table lies as the text lays it -/
def oppTab : List Int := [0, 2, 1, 6, 5, 4, 3]
theorem opp_in {W : World} {rest : List (String × DataW Unit)} (h : laidMet Tryd.prog (("firkin/prune.opposites", Rows.laid_firkin_prune_opposites) :: rest) W) : OppT W := by
  have hT : Lib.TabIs Tryd.prog W "firkin/prune.opposites" .i64 oppTab := Lib.tabIs_of_head (n := 7) (show Tryd.prog.globalNamed "firkin/prune.opposites" = some 0 by kernel_rfl)
    (show (Tryd.prog.globals[0]?).map (·.type) = some 96 by kernel_rfl) Tryd.underlying96 Tryd.underlying3 (by kernel_rfl) (by kernel_rfl) (h : laidMet Tryd.prog (("firkin/prune.opposites", Lib.tabData .i64 oppTab) :: rest) W)
  intro i hi
  have := hT.cell (show Tryd.prog.globalNamed "firkin/prune.opposites" = some 0 by kernel_rfl) i (by simpa [oppTab] using hi)
  rw [this]
  have all : ∀ j : Fin 7, oppTab.getD j.1 0 = ((oppN j.1 : Nat) : Int) := by decide
  rw [all ⟨i, hi⟩]
theorem opp_inH {W : World} (h : laidMetH Tryd.prog [("firkin/prune.opposites", Rows.laid_firkin_prune_opposites)] W) : OppT W := by
  rw [MakeChecks.laidMetH_plain _ _ _ (by kernel_rfl)] at h
  exact opp_in h
end Go.Proofs.YtpmipdnmhffkeaaDoor
