/-
  Joined: Layer 20: what a predicate is of a row, the program's: of every one. · Rows: slices of slices of cells: what one reads as (Rs), one of the call's own (Ro), and the steps over them; a cell appended, the new row in the old block or in a new one. · Layer 20: the program's ask, Row, Rows.
-/
import Derived.Lib.Zigzag
import Derived.Deep.RegionWith
import Derived.Deep.RegionHeld3
import Derived.Deep.QuietTactic
import Derived.BigQuiet
import Derived.Test.YtnbhgkolfapblaaZ3
import Derived.Test.YtnbhgkolfapblaaZ2
import Derived.ArgAppend
import Derived.Deep.DeepAppendRoom

namespace Go.Proofs.Ytnbhgkolfapblaa
set_option linter.unusedVariables false
set_option linter.unusedSimpArgs false
set_option maxRecDepth 100000
open Go.RowKit

/-- a record and a predicate, boxed one behind the other -/
def recW (w : World) (v1 v2 : Value) (h : Ph) (t : Kv) : World := (w.alloc (.cells #[v1, v2] 61)).alloc (.cells (pdC h t) 27)
theorem recW_fr (w : World) (v1 v2 : Value) (h : Ph) (t : Kv) : Fr Non w (recW w v1 v2 h t) := ((Fr.refl Non w).alloc _).alloc _
theorem recW_rec (w : World) (v1 v2 : Value) (h : Ph) (t : Kv) : Blk (recW w v1 v2 h t) w.heap.size 61 #[v1, v2] := (Blk.new _ _ _).fr ((Fr.refl Non _).alloc _) (fun e => e)
theorem recW_pd (w : World) (v1 v2 : Value) (h : Ph) (t : Kv) : PdB (recW w v1 v2 h t) (w.heap.size + 1) h t := by
  have e := pd_new (w.alloc (.cells #[v1, v2] 61)) _ h t rfl
  rw [show (w.alloc (.cells #[v1, v2] 61)).heap.size = w.heap.size + 1 by simp] at e
  exact e
theorem truH_1 {cols : List Co} {row : List Cl} {h : Ph} {ts : List Int} (e : h.op = 1) : truH cols row h ts = 1 := by unfold truH; rw [e]; rfl
theorem truH_2 {cols : List Co} {row : List Cl} {h : Ph} {ts : List Int} (e : h.op = 2) : truH cols row h ts = cmpR h.cmp (cellN cols row h.col) h.val := by unfold truH; rw [if_pos e]
theorem truH_3 {cols : List Co} {row : List Cl} {h : Ph} {ts : List Int} (e : h.op = 3) : truH cols row h ts = yesI (cellN cols row h.col).null := by unfold truH; rw [if_neg (by omega), if_pos e]
theorem truH_4 {cols : List Co} {row : List Cl} {h : Ph} {ts : List Int} (e : h.op = 4) : truH cols row h ts = likR (cellN cols row h.col) h.pat := by unfold truH; rw [if_neg (by omega), if_neg (by omega), if_pos e]
theorem truH_5 {cols : List Co} {row : List Cl} {h : Ph} {ts : List Int} (e : h.op = 5) : truH cols row h ts = notI (ts.headD 0) := by unfold truH; rw [if_neg (by omega), if_neg (by omega), if_neg (by omega), if_pos e]
theorem truH_6 {cols : List Co} {row : List Cl} {h : Ph} {ts : List Int} (e : h.op = 6) : truH cols row h ts = chnI 0 1 ts := by unfold truH; rw [if_neg (by omega), if_neg (by omega), if_neg (by omega), if_neg (by omega), if_pos e]
theorem truH_7 {cols : List Co} {row : List Cl} {h : Ph} {ts : List Int} (e : h.op = 7) : truH cols row h ts = chnI 1 0 ts := by unfold truH; rw [if_neg (by omega), if_neg (by omega), if_neg (by omega), if_neg (by omega), if_neg (by omega), if_pos e]

theorem an_iface {ty : Int} {nl : Bool} {c : Cl} (h : mayC ty nl c = true) (hn : c.null = false) : ∃ u x, anV (toA ty c) = .iface u x := by
  have h1 := (an_two h h hn hn).1
  revert h1
  generalize toA ty c = a
  intro h1
  cases h1 <;> exact ⟨_, _, rfl⟩

set_option maxHeartbeats 8000000 in
theorem etruth_any (v1 v2 : Value) (cols : List Co) (row : List Cl) (hcl : cols.length ≤ 1000) (hr : rowB cols row = true) (p : Pd) : ∀ (t : Kv) (w : World), Ks w v1 cols → Cs w v2 row → Kd w t p.kids → bigP p = true → oneP p = true → typP cols p = true →
    Calls Try.prog 28 #[recV v1 v2, pdV p.hd t] w fun e w' => e = .returned (.int .i64 (truP cols row p)) ∧ Fr Non w w' := by
  induction p using Pd.ind with
  | h hd ks ih =>
    intro t w h1 h2 hk hbig hone htyp
    dsimp only [Pd.hd, Pd.kids] at hk ⊢
    have hn : t.n = ks.length := hk.len
    obtain ⟨hl, _, hpl, _, hbk⟩ := bigP_mk hbig
    obtain ⟨hok, hok1⟩ := one_kids hone
    obtain ⟨hty, hty1⟩ := typ_kids htyp
    obtain ⟨A1, c1, rfl⟩ := h1.shape
    obtain ⟨A2, c2, rfl⟩ := h2.shape
    have F0 := Lib.hid (recW_fr w (.slice A1 cols.length c1) (.slice A2 row.length c2) hd t)
    have RB := Lib.hid (recW_rec w (.slice A1 cols.length c1) (.slice A2 row.length c2) hd t)
    have PB := Lib.hid (recW_pd w (.slice A1 cols.length c1) (.slice A2 row.length c2) hd t)
    have IH : Hid (∀ j (h : j < ks.length) (W : World) (t' : Kv), Ks W (.slice A1 cols.length c1) cols → Cs W (.slice A2 row.length c2) row → Kd W t' ks[j].kids → Calls Try.prog 28 #[recV (.slice A1 cols.length c1) (.slice A2 row.length c2), pdV ks[j].hd t'] W fun e w' => e = .returned (.int .i64 (truP cols row ks[j])) ∧ Fr Non W w') :=
      Lib.hid (fun j h W t' a b c => ih _ (List.getElem_mem h) t' W a b c (hbk _ (List.getElem_mem h)) (hok1 _ (List.getElem_mem h)) (hty1 _ (List.getElem_mem h)))
    have HV : Hid (Ks w (.slice A1 cols.length c1) cols) := Lib.hid h1
    have HC := Lib.hid h2
    have HK : Hid (Kd w t ks) := Lib.hid hk
    have HE0 := Lib.hid (tru_is cols row hd ks)
    clear ih hk h1 h2 hbig hone htyp hok1 hty1 hbk
    generalize truP cols row (.mk hd ks) = r at *
    rcases hd_ways hok with ⟨ho, h0, -⟩ | ⟨ho, h0, ha⟩ | ⟨ho, h0, -⟩ | ⟨ho, h0, -⟩
    · have HE : Hid (r = 1) := Lib.hid (by rw [HE0.out, truH_1 ho])
      clear HE0 IH HV HC HK hok hty h0 hpl hr
      obtain ⟨ho_, hc, hm, ⟨vn, vi, vt⟩, hkd, hp⟩ := hd
      obtain ⟨A, n, c⟩ := t
      dsimp only at ho hn
      clear hn
      subst ho
      unfold recW at F0 RB PB
      unfold recV pdV
      unfold pdC kidV at *
      dsimp only at *
      replace F0 := F0.out
      generalize hg : w.heap.size = g at *
      have r0 := RB.out.cell 0
      have r1 := RB.out.cell 1
      simp at r0 r1
      obtain ⟨b0, b1, b2, b3, b4, b5, b6, b7, b8⟩ := pdB_cells PB.out
      dsimp only at b0 b1 b2 b3 b4 b5 b6 b7 b8
      go_enter Try.func28, Try.ntmps28
      go_wp2
      go_ret
      exact ⟨ret_int HE.out.symm, F0⟩
    · obtain ⟨hne, k, hk1, hk2, hf, hcell, hmay, hq2, hq4⟩ := ask_col ho ha hty hr
      have HVa : Hid (∀ W, Fr Non w W → Calls Try.prog 45 #[recV (.slice A1 cols.length c1) (.slice A2 row.length c2), .string ⟨hd.col.toArray⟩] W fun e w' => e = .returned (anV (toA cols[k].ty row[k])) ∧ Fr Non W w') := Lib.hid (fun W hf2 => evalue_any _ _ cols row hd.col k W (HV.out.non hf2) (HC.out.non hf2) hcl hk1 hk2 hf)
      rcases ho with ho | ho | ho
      · obtain ⟨hkt, hmv⟩ := hq2 ho
        have HE : Hid (r = cmpR hd.cmp row[k] hd.val) := Lib.hid (by rw [HE0.out, truH_2 ho, hcell])
        rw [hkt] at hmay
        have HTo := Lib.hid (fun W => ato_any hd.kind hd.val W)
        have HCo := Lib.hid (fun W => ecompared_any hd.kind cols[k].nl hd.cmp row[k] hd.val W hmay hmv)
        rw [hkt] at HVa
        clear HE0 IH HV HC HK hok hty h0 hpl hr hcell hmay hq2 hq4 hkt hmv hf hne ha
        generalize cmpR hd.cmp row[k] hd.val = z at *
        generalize anV (toA hd.kind row[k]) = x1 at *
        generalize anV (toA hd.kind hd.val) = x2 at *
        obtain ⟨ho_, hc, hm, ⟨vn, vi, vt⟩, hkd, hp⟩ := hd
        obtain ⟨A, n, c⟩ := t
        dsimp only at ho hn HTo HCo HVa
        clear hn
        subst ho
        unfold recW at F0 RB PB
        unfold recV pdV at *
        unfold clV clC at HTo
        unfold pdC kidV at *
        dsimp only at *
        generalize hg : w.heap.size = g at *
        have r0 := RB.out.cell 0
        have r1 := RB.out.cell 1
        simp at r0 r1
        obtain ⟨b0, b1, b2, b3, b4, b5, b6, b7, b8⟩ := pdB_cells PB.out
        dsimp only at b0 b1 b2 b3 b4 b5 b6 b7 b8
        go_enter Try.func28, Try.ntmps28
        go_wp2
        have RBd := Lib.hid RB.out.drew
        have PBd := Lib.hid PB.out.drew
        have Fd := Lib.hid F0.out.drew
        refine wp_region_held_drew (S := (fun W' => W'.cell? ⟨g, 0, none⟩ = some (.slice A1 cols.length c1) ∧ W'.cell? ⟨g, 1, none⟩ = some (.slice A2 row.length c2) ∧ W'.cell? ⟨g + 1, 0, none⟩ = some (.int .i64 2) ∧ W'.cell? ⟨g + 1, 1, none⟩ = some (.string ⟨hc.toArray⟩) ∧ W'.cell? ⟨g + 1, 2, none⟩ = some (.int .i64 hm) ∧ W'.cell? ⟨g + 1, 3, none⟩ = some (.bool vn) ∧ W'.cell? ⟨g + 1, 4, none⟩ = some (.int .i64 vi) ∧ W'.cell? ⟨g + 1, 5, none⟩ = some (.string ⟨vt.toArray⟩) ∧ W'.cell? ⟨g + 1, 6, none⟩ = some (.int .i64 hkd) ∧ W'.cell? ⟨g + 1, 7, none⟩ = some (.string ⟨hp.toArray⟩) ∧ W'.cell? ⟨g + 1, 8, none⟩ = some (.slice A n c))) (by kernel_rfl) (by exact ⟨r0, r1, b0, b1, b2, b3, b4, b5, b6, b7, b8⟩) (fun hHeld => ?_)
        refine wpAnyH_take (i := 0) (oi := ⟨some 9, _, _, _, _, none⟩) (v := ?v1) rfl (by kernel_rfl) (by kernel_rfl) (by kernel_rfl) (fun _ _ _ h => h) (Or.inl ⟨by rfl, ?hy1⟩) (by assumption) ?rest1
        case hy1 => (intro wS hSw; (try dsimp only at hSw); go_simp; (try with_reducible rfl))
        (try simp only [Act.put, List.setIfInBounds_toArray, List.set_cons_zero, List.set_cons_succ])
        refine wpAnyH_take (i := 1) (oi := ⟨some 10, _, _, _, _, none⟩) (v := ?v2) rfl (by kernel_rfl) (by kernel_rfl) (by kernel_rfl) (fun _ _ _ h => h) (Or.inl ⟨by rfl, ?hy2⟩) (by assumption) ?rest2
        case hy2 => (intro wS hSw; (try dsimp only at hSw); go_simp; (try with_reducible rfl))
        (try simp only [Act.put, List.setIfInBounds_toArray, List.set_cons_zero, List.set_cons_succ])
        refine wpAnyH_take (i := 2) (oi := ⟨some 11, _, _, _, _, none⟩) (v := ?v3) rfl (by kernel_rfl) (by kernel_rfl) (by kernel_rfl) (fun _ _ _ h => h) (Or.inl ⟨by rfl, ?hy3⟩) (by assumption) ?rest3
        case hy3 => (intro wS hSw; (try dsimp only at hSw); go_simp; (try with_reducible rfl))
        (try simp only [Act.put, List.setIfInBounds_toArray, List.set_cons_zero, List.set_cons_succ])
        refine wpAnyH_take (i := 4) (oi := ⟨some 13, _, _, _, _, none⟩) (v := ?v4) rfl (by kernel_rfl) (by kernel_rfl) (by kernel_rfl) (fun _ _ _ h => h) (Or.inl ⟨by rfl, ?hy4⟩) (by assumption) ?rest4
        case hy4 => (intro wS hSw; (try dsimp only at hSw); go_simp; (try with_reducible rfl))
        (try simp only [Act.put, List.setIfInBounds_toArray, List.set_cons_zero, List.set_cons_succ])
        refine wpAnyH_take (i := 5) (oi := ⟨some 14, _, _, _, _, none⟩) (v := ?v5) rfl (by kernel_rfl) (by kernel_rfl) (by kernel_rfl) (fun _ _ _ h => h) (Or.inl ⟨by rfl, ?hy5⟩) (by assumption) ?rest5
        case hy5 => (intro wS hSw; (try dsimp only at hSw); go_simp; (try with_reducible rfl))
        (try simp only [Act.put, List.setIfInBounds_toArray, List.set_cons_zero, List.set_cons_succ])
        refine wpAnyH_take (i := 6) (oi := ⟨some 15, _, _, _, _, none⟩) (v := ?v6) rfl (by kernel_rfl) (by kernel_rfl) (by kernel_rfl) (fun _ _ _ h => h) (Or.inl ⟨by rfl, ?hy6⟩) (by assumption) ?rest6
        case hy6 => (intro wS hSw; (try dsimp only at hSw); go_simp; (try with_reducible rfl))
        (try simp only [Act.put, List.setIfInBounds_toArray, List.set_cons_zero, List.set_cons_succ])
        refine wpAnyH_take (i := 7) (oi := ⟨some 16, _, _, _, _, none⟩) (v := ?v7) rfl (by kernel_rfl) (by kernel_rfl) (by kernel_rfl) (fun _ _ _ h => h) (Or.inl ⟨by rfl, ?hy7⟩) (by assumption) ?rest7
        case hy7 => (intro wS hSw; (try dsimp only at hSw); go_simp; (try with_reducible rfl))
        (try simp only [Act.put, List.setIfInBounds_toArray, List.set_cons_zero, List.set_cons_succ])
        refine wpAnyH_take (i := 9) (oi := ⟨some 18, _, _, _, _, none⟩) (v := ?v8) rfl (by kernel_rfl) (by kernel_rfl) (by kernel_rfl) (fun _ _ _ h => h) (Or.inl ⟨by rfl, ?hy8⟩) (by assumption) ?rest8
        case hy8 => (intro wS hSw; (try dsimp only at hSw); go_simp; (try with_reducible rfl))
        (try simp only [Act.put, List.setIfInBounds_toArray, List.set_cons_zero, List.set_cons_succ])
        refine wpAnyH_take (i := 10) (oi := ⟨some 19, _, _, _, _, none⟩) (v := ?v9) rfl (by kernel_rfl) (by kernel_rfl) (by kernel_rfl) (fun _ _ _ h => h) (Or.inl ⟨by rfl, ?hy9⟩) (by assumption) ?rest9
        case hy9 => (intro wS hSw; (try dsimp only at hSw); go_simp; (try with_reducible rfl))
        (try simp only [Act.put, List.setIfInBounds_toArray, List.set_cons_zero, List.set_cons_succ])
        refine wpAnyH_ready (rs := [3]) (by kernel_rfl) (by simp) ?_
        refine AllReadyH.cons (o := ⟨some 12, _, _, _, _, none⟩) rfl (fun K hK => ?_) AllReadyH.nil
        go_simp
        go_at_call 45
        refine (HVa.out _ Fd.out).mono ?_
        rintro e w4 ⟨rfl, f4⟩
        have RB4 := Lib.hid (RBd.out.fr f4 (fun e => e))
        have PB4 := Lib.hid (PBd.out.fr f4 (fun e => e))
        have F4 := Lib.hid (Fd.out.trans f4)
        clear r0 r1 b0 b1 b2 b3 b4 b5 b6 b7 b8 f4
        have r0 := RB4.out.cell 0
        have r1 := RB4.out.cell 1
        simp at r0 r1
        obtain ⟨b0, b1, b2, b3, b4, b5, b6, b7, b8⟩ := pdB_cells PB4.out
        dsimp only at b0 b1 b2 b3 b4 b5 b6 b7 b8

        go_wp2_with fail
        refine hK.out _ _ (by exact ⟨r0, r1, b0, b1, b2, b3, b4, b5, b6, b7, b8⟩) (fun hHeld => ?_)
        clear hK K
        (try simp only [Act.put, List.setIfInBounds_toArray, List.set_cons_zero, List.set_cons_succ])
        refine wpAnyH_ready (rs := [8]) (by kernel_rfl) (by simp) ?_
        refine AllReadyH.cons (o := ⟨some 17, _, _, _, _, none⟩) rfl (fun K hK => ?_) AllReadyH.nil
        go_simp
        go_at_call 46
        refine (HTo.out _).mono ?_
        rintro e w5 ⟨rfl, f5⟩
        have RB5 := Lib.hid (RB4.out.fr f5 (fun e => e))
        have PB5 := Lib.hid (PB4.out.fr f5 (fun e => e))
        have F5 := Lib.hid (F4.out.trans f5)
        clear r0 r1 b0 b1 b2 b3 b4 b5 b6 b7 b8 f5
        have r0 := RB5.out.cell 0
        have r1 := RB5.out.cell 1
        simp at r0 r1
        obtain ⟨b0, b1, b2, b3, b4, b5, b6, b7, b8⟩ := pdB_cells PB5.out
        dsimp only at b0 b1 b2 b3 b4 b5 b6 b7 b8

        go_wp2_with fail
        refine hK.out _ _ (by exact ⟨r0, r1, b0, b1, b2, b3, b4, b5, b6, b7, b8⟩) (fun hHeld => ?_)
        clear hK K
        (try simp only [Act.put, List.setIfInBounds_toArray, List.set_cons_zero, List.set_cons_succ])
        refine wpAnyH_ready (rs := [11]) (by kernel_rfl) (by simp) ?_
        refine AllReadyH.cons (o := ⟨some 20, _, _, _, _, none⟩) rfl (fun K hK => ?_) AllReadyH.nil
        go_simp
        go_at_call 44
        refine (HCo.out _).mono ?_
        rintro e w6 ⟨rfl, f6⟩
        have RB6 := Lib.hid (RB5.out.fr f6 (fun e => e))
        have PB6 := Lib.hid (PB5.out.fr f6 (fun e => e))
        have F6 := Lib.hid (F5.out.trans f6)
        clear r0 r1 b0 b1 b2 b3 b4 b5 b6 b7 b8 f6
        have r0 := RB6.out.cell 0
        have r1 := RB6.out.cell 1
        simp at r0 r1
        obtain ⟨b0, b1, b2, b3, b4, b5, b6, b7, b8⟩ := pdB_cells PB6.out
        dsimp only at b0 b1 b2 b3 b4 b5 b6 b7 b8

        go_wp2_with fail
        refine hK.out _ _ (by exact ⟨r0, r1, b0, b1, b2, b3, b4, b5, b6, b7, b8⟩) (fun hHeld => ?_)
        clear hK K
        (try simp only [Act.put, List.setIfInBounds_toArray, List.set_cons_zero, List.set_cons_succ])
        refine wpAnyH_take (i := 12) (oi := ⟨some 4, _, _, _, _, none⟩) (v := ?v10) rfl (by kernel_rfl) (by kernel_rfl) (by kernel_rfl) (fun _ _ _ h => h) (Or.inl ⟨by rfl, ?hy10⟩) (by assumption) ?rest10
        case hy10 => (intro wS hSw; (try dsimp only at hSw); go_simp; (try with_reducible rfl))
        (try simp only [Act.put, List.setIfInBounds_toArray, List.set_cons_zero, List.set_cons_succ])
        refine wpAnyH_done (by kernel_rfl) ?_ _
        go_wp2
        go_ret
        exact ⟨ret_int HE.out.symm, F6.out⟩
      · have HE : Hid (r = yesI row[k].null) := Lib.hid (by rw [HE0.out, truH_3 ho, hcell])
        have HTo := Lib.hid (fun b W => etold_any b W)
        clear HE0 IH HV HC HK hok hty h0 hpl hr hcell hq2 hq4 hf hne ha
        cases hnu : row[k].null
        · rw [hnu] at HE
          have q1 := fun W u x => not_nil W u x
          obtain ⟨u, x, hux⟩ := an_iface hmay hnu
          rw [hux] at HVa
          clear hmay hnu
          obtain ⟨ho_, hc, hm, ⟨vn, vi, vt⟩, hkd, hp⟩ := hd
          obtain ⟨A, n, c⟩ := t
          dsimp only at ho hn HVa
          clear hn
          subst ho
          unfold recW at F0 RB PB
          unfold recV pdV at *
          unfold pdC kidV at *
          dsimp only at *
          generalize hg : w.heap.size = g at *
          have r0 := RB.out.cell 0
          have r1 := RB.out.cell 1
          simp at r0 r1
          obtain ⟨b0, b1, b2, b3, b4, b5, b6, b7, b8⟩ := pdB_cells PB.out
          dsimp only at b0 b1 b2 b3 b4 b5 b6 b7 b8
          go_enter Try.func28, Try.ntmps28
          go_wp2_with fail
          refine (HVa.out _ F0.out).mono ?_
          rintro e w4 ⟨rfl, f4⟩
          have F4 := Lib.hid (F0.out.trans f4)
          clear r0 r1 b0 b1 b2 b3 b4 b5 b6 b7 b8 f4
          go_wp2_with fail
          refine (HTo.out _ _).mono ?_
          rintro e w5 ⟨rfl, rfl⟩
          go_wp2
          go_ret
          exact ⟨ret_int HE.out.symm, F4.out⟩
        · rw [hnu] at HE
          have q1 := fun W => nil_nil W
          rw [toA_null hnu] at HVa
          simp only [anV] at HVa
          clear hmay hnu
          obtain ⟨ho_, hc, hm, ⟨vn, vi, vt⟩, hkd, hp⟩ := hd
          obtain ⟨A, n, c⟩ := t
          dsimp only at ho hn HVa
          clear hn
          subst ho
          unfold recW at F0 RB PB
          unfold recV pdV at *
          unfold pdC kidV at *
          dsimp only at *
          generalize hg : w.heap.size = g at *
          have r0 := RB.out.cell 0
          have r1 := RB.out.cell 1
          simp at r0 r1
          obtain ⟨b0, b1, b2, b3, b4, b5, b6, b7, b8⟩ := pdB_cells PB.out
          dsimp only at b0 b1 b2 b3 b4 b5 b6 b7 b8
          go_enter Try.func28, Try.ntmps28
          go_wp2_with fail
          refine (HVa.out _ F0.out).mono ?_
          rintro e w4 ⟨rfl, f4⟩
          have F4 := Lib.hid (F0.out.trans f4)
          clear r0 r1 b0 b1 b2 b3 b4 b5 b6 b7 b8 f4
          go_wp2_with fail
          refine (HTo.out _ _).mono ?_
          rintro e w5 ⟨rfl, rfl⟩
          go_wp2
          go_ret
          exact ⟨ret_int HE.out.symm, F4.out⟩
      · have hkt := hq4 ho
        have HE : Hid (r = likR row[k] hd.pat) := Lib.hid (by rw [HE0.out, truH_4 ho, hcell])
        rw [hkt] at hmay HVa
        have HLi := Lib.hid (fun W => eliked_any cols[k].nl row[k] hd.pat W hmay (by omega))
        clear HE0 IH HV HC HK hok hty h0 hpl hr hcell hmay hq2 hq4 hkt hf hne ha
        generalize likR row[k] hd.pat = z at *
        generalize anV (toA 3 row[k]) = x1 at *
        obtain ⟨ho_, hc, hm, ⟨vn, vi, vt⟩, hkd, hp⟩ := hd
        obtain ⟨A, n, c⟩ := t
        dsimp only at ho hn HLi HVa
        clear hn
        subst ho
        unfold recW at F0 RB PB
        unfold recV pdV at *
        unfold pdC kidV at *
        dsimp only at *
        generalize hg : w.heap.size = g at *
        have r0 := RB.out.cell 0
        have r1 := RB.out.cell 1
        simp at r0 r1
        obtain ⟨b0, b1, b2, b3, b4, b5, b6, b7, b8⟩ := pdB_cells PB.out
        dsimp only at b0 b1 b2 b3 b4 b5 b6 b7 b8
        go_enter Try.func28, Try.ntmps28
        go_wp2
        have RBd := Lib.hid RB.out.drew
        have PBd := Lib.hid PB.out.drew
        have Fd := Lib.hid F0.out.drew
        refine wp_region_held_drew (S := (fun W' => W'.cell? ⟨g, 0, none⟩ = some (.slice A1 cols.length c1) ∧ W'.cell? ⟨g, 1, none⟩ = some (.slice A2 row.length c2) ∧ W'.cell? ⟨g + 1, 0, none⟩ = some (.int .i64 4) ∧ W'.cell? ⟨g + 1, 1, none⟩ = some (.string ⟨hc.toArray⟩) ∧ W'.cell? ⟨g + 1, 2, none⟩ = some (.int .i64 hm) ∧ W'.cell? ⟨g + 1, 3, none⟩ = some (.bool vn) ∧ W'.cell? ⟨g + 1, 4, none⟩ = some (.int .i64 vi) ∧ W'.cell? ⟨g + 1, 5, none⟩ = some (.string ⟨vt.toArray⟩) ∧ W'.cell? ⟨g + 1, 6, none⟩ = some (.int .i64 hkd) ∧ W'.cell? ⟨g + 1, 7, none⟩ = some (.string ⟨hp.toArray⟩) ∧ W'.cell? ⟨g + 1, 8, none⟩ = some (.slice A n c))) (by kernel_rfl) (by exact ⟨r0, r1, b0, b1, b2, b3, b4, b5, b6, b7, b8⟩) (fun hHeld => ?_)
        refine wpAnyH_take (i := 0) (oi := ⟨some 31, _, _, _, _, none⟩) (v := ?v11) rfl (by kernel_rfl) (by kernel_rfl) (by kernel_rfl) (fun _ _ _ h => h) (Or.inl ⟨by rfl, ?hy11⟩) (by assumption) ?rest11
        case hy11 => (intro wS hSw; (try dsimp only at hSw); go_simp; (try with_reducible rfl))
        (try simp only [Act.put, List.setIfInBounds_toArray, List.set_cons_zero, List.set_cons_succ])
        refine wpAnyH_take (i := 1) (oi := ⟨some 32, _, _, _, _, none⟩) (v := ?v12) rfl (by kernel_rfl) (by kernel_rfl) (by kernel_rfl) (fun _ _ _ h => h) (Or.inl ⟨by rfl, ?hy12⟩) (by assumption) ?rest12
        case hy12 => (intro wS hSw; (try dsimp only at hSw); go_simp; (try with_reducible rfl))
        (try simp only [Act.put, List.setIfInBounds_toArray, List.set_cons_zero, List.set_cons_succ])
        refine wpAnyH_take (i := 2) (oi := ⟨some 33, _, _, _, _, none⟩) (v := ?v13) rfl (by kernel_rfl) (by kernel_rfl) (by kernel_rfl) (fun _ _ _ h => h) (Or.inl ⟨by rfl, ?hy13⟩) (by assumption) ?rest13
        case hy13 => (intro wS hSw; (try dsimp only at hSw); go_simp; (try with_reducible rfl))
        (try simp only [Act.put, List.setIfInBounds_toArray, List.set_cons_zero, List.set_cons_succ])
        refine wpAnyH_take (i := 4) (oi := ⟨some 35, _, _, _, _, none⟩) (v := ?v14) rfl (by kernel_rfl) (by kernel_rfl) (by kernel_rfl) (fun _ _ _ h => h) (Or.inl ⟨by rfl, ?hy14⟩) (by assumption) ?rest14
        case hy14 => (intro wS hSw; (try dsimp only at hSw); go_simp; (try with_reducible rfl))
        (try simp only [Act.put, List.setIfInBounds_toArray, List.set_cons_zero, List.set_cons_succ])
        refine wpAnyH_take (i := 5) (oi := ⟨some 36, _, _, _, _, none⟩) (v := ?v15) rfl (by kernel_rfl) (by kernel_rfl) (by kernel_rfl) (fun _ _ _ h => h) (Or.inl ⟨by rfl, ?hy15⟩) (by assumption) ?rest15
        case hy15 => (intro wS hSw; (try dsimp only at hSw); go_simp; (try with_reducible rfl))
        (try simp only [Act.put, List.setIfInBounds_toArray, List.set_cons_zero, List.set_cons_succ])
        refine wpAnyH_ready (rs := [3]) (by kernel_rfl) (by simp) ?_
        refine AllReadyH.cons (o := ⟨some 34, _, _, _, _, none⟩) rfl (fun K hK => ?_) AllReadyH.nil
        go_simp
        go_at_call 45
        refine (HVa.out _ Fd.out).mono ?_
        rintro e w4 ⟨rfl, f4⟩
        have RB4 := Lib.hid (RBd.out.fr f4 (fun e => e))
        have PB4 := Lib.hid (PBd.out.fr f4 (fun e => e))
        have F4 := Lib.hid (Fd.out.trans f4)
        clear r0 r1 b0 b1 b2 b3 b4 b5 b6 b7 b8 f4
        have r0 := RB4.out.cell 0
        have r1 := RB4.out.cell 1
        simp at r0 r1
        obtain ⟨b0, b1, b2, b3, b4, b5, b6, b7, b8⟩ := pdB_cells PB4.out
        dsimp only at b0 b1 b2 b3 b4 b5 b6 b7 b8

        go_wp2_with fail
        refine hK.out _ _ (by exact ⟨r0, r1, b0, b1, b2, b3, b4, b5, b6, b7, b8⟩) (fun hHeld => ?_)
        clear hK K
        (try simp only [Act.put, List.setIfInBounds_toArray, List.set_cons_zero, List.set_cons_succ])
        refine wpAnyH_ready (rs := [6]) (by kernel_rfl) (by simp) ?_
        refine AllReadyH.cons (o := ⟨some 37, _, _, _, _, none⟩) rfl (fun K hK => ?_) AllReadyH.nil
        go_simp
        go_at_call 48
        refine (HLi.out _).mono ?_
        rintro e w5 ⟨rfl, f5⟩
        have RB5 := Lib.hid (RB4.out.fr f5 (fun e => e))
        have PB5 := Lib.hid (PB4.out.fr f5 (fun e => e))
        have F5 := Lib.hid (F4.out.trans f5)
        clear r0 r1 b0 b1 b2 b3 b4 b5 b6 b7 b8 f5
        have r0 := RB5.out.cell 0
        have r1 := RB5.out.cell 1
        simp at r0 r1
        obtain ⟨b0, b1, b2, b3, b4, b5, b6, b7, b8⟩ := pdB_cells PB5.out
        dsimp only at b0 b1 b2 b3 b4 b5 b6 b7 b8

        go_wp2_with fail
        refine hK.out _ _ (by exact ⟨r0, r1, b0, b1, b2, b3, b4, b5, b6, b7, b8⟩) (fun hHeld => ?_)
        clear hK K
        (try simp only [Act.put, List.setIfInBounds_toArray, List.set_cons_zero, List.set_cons_succ])
        refine wpAnyH_take (i := 7) (oi := ⟨some 4, _, _, _, _, none⟩) (v := ?v16) rfl (by kernel_rfl) (by kernel_rfl) (by kernel_rfl) (fun _ _ _ h => h) (Or.inl ⟨by rfl, ?hy16⟩) (by assumption) ?rest16
        case hy16 => (intro wS hSw; (try dsimp only at hSw); go_simp; (try with_reducible rfl))
        (try simp only [Act.put, List.setIfInBounds_toArray, List.set_cons_zero, List.set_cons_succ])
        refine wpAnyH_done (by kernel_rfl) ?_ _
        go_wp2
        go_ret
        exact ⟨ret_int HE.out.symm, F5.out⟩
    · have hk1 : 0 < ks.length := by omega
      obtain ⟨a, t', hA, hc2, hkk, _⟩ := HK.out.elN F0.out.drew 0 hk1
      have HT : Hid (∀ W, Fr Non w W → Calls Try.prog 28 #[recV (.slice A1 cols.length c1) (.slice A2 row.length c2), pdV ks[0].hd t'] W fun e w' => e = .returned (.int .i64 (truP cols row ks[0])) ∧ Fr Non W w') :=
        Lib.hid (fun W hf => IH.out 0 hk1 W t' (HV.out.non hf) (HC.out.non hf) (hkk.non hf))
      have HNo := Lib.hid (fun z W => enot_any z W)
      have HE : Hid (r = notI (truP cols row ks[0])) := Lib.hid (by
        rw [HE0.out, truH_5 ho]
        cases ks with
        | nil => simp at hk1
        | cons x l => rfl)
      clear HE0 IH HV HC HK hok hty hpl hr hkk
      generalize truP cols row ks[0] = z at *
      generalize ks[0].hd = x at *
      obtain ⟨ho_, hc, hm, ⟨vn, vi, vt⟩, hkd, hp⟩ := hd
      obtain ⟨A, n, c⟩ := t
      obtain ⟨xo, xc, xm, ⟨xn, xi, xt⟩, xk, xp⟩ := x
      obtain ⟨tA, tn, tc⟩ := t'
      dsimp only at ho hn hA
      subst hA
      subst ho
      obtain ⟨k0, k1, k2, k3, k4, k5, k6, k7, k8⟩ := hc2
      simp only [Nat.zero_mul] at k0 k1 k2 k3 k4 k5 k6 k7 k8
      have hn1 : 0 < n := by omega
      clear hn h0 hk1
      unfold recW at F0 RB PB k0 k1 k2 k3 k4 k5 k6 k7 k8
      unfold recV pdV at *
      unfold pdC kidV at *
      dsimp only at *
      generalize hg : w.heap.size = g at *
      have r0 := RB.out.cell 0
      have r1 := RB.out.cell 1
      simp at r0 r1
      obtain ⟨b0, b1, b2, b3, b4, b5, b6, b7, b8⟩ := pdB_cells PB.out
      dsimp only at b0 b1 b2 b3 b4 b5 b6 b7 b8
      go_enter Try.func28, Try.ntmps28
      go_wp2
      have RBd := Lib.hid RB.out.drew
      have PBd := Lib.hid PB.out.drew
      have Fd := Lib.hid F0.out.drew
      refine wp_region_held_drew (S := (fun W' => W'.cell? ⟨g, 0, none⟩ = some (.slice A1 cols.length c1) ∧ W'.cell? ⟨g, 1, none⟩ = some (.slice A2 row.length c2) ∧ W'.cell? ⟨g + 1, 0, none⟩ = some (.int .i64 5) ∧ W'.cell? ⟨g + 1, 1, none⟩ = some (.string ⟨hc.toArray⟩) ∧ W'.cell? ⟨g + 1, 2, none⟩ = some (.int .i64 hm) ∧ W'.cell? ⟨g + 1, 3, none⟩ = some (.bool vn) ∧ W'.cell? ⟨g + 1, 4, none⟩ = some (.int .i64 vi) ∧ W'.cell? ⟨g + 1, 5, none⟩ = some (.string ⟨vt.toArray⟩) ∧ W'.cell? ⟨g + 1, 6, none⟩ = some (.int .i64 hkd) ∧ W'.cell? ⟨g + 1, 7, none⟩ = some (.string ⟨hp.toArray⟩) ∧ W'.cell? ⟨g + 1, 8, none⟩ = some (.slice (some a) n c) ∧ W'.cell? a = some (.int .i64 xo) ∧ W'.cell? { block := a.block, off := a.off + 1 } = some (.string ⟨xc.toArray⟩) ∧ W'.cell? { block := a.block, off := a.off + 2 } = some (.int .i64 xm) ∧ W'.cell? { block := a.block, off := a.off + 3 } = some (.bool xn) ∧ W'.cell? { block := a.block, off := a.off + 4 } = some (.int .i64 xi) ∧ W'.cell? { block := a.block, off := a.off + 5 } = some (.string ⟨xt.toArray⟩) ∧ W'.cell? { block := a.block, off := a.off + 6 } = some (.int .i64 xk) ∧ W'.cell? { block := a.block, off := a.off + 7 } = some (.string ⟨xp.toArray⟩) ∧ W'.cell? { block := a.block, off := a.off + 8 } = some (.slice tA tn tc))) (by kernel_rfl) (by exact ⟨r0, r1, b0, b1, b2, b3, b4, b5, b6, b7, b8, k0, k1, k2, k3, k4, k5, k6, k7, k8⟩) (fun hHeld => ?_)
      refine wpAnyH_take (i := 0) (oi := ⟨some 40, _, _, _, _, none⟩) (v := ?v17) rfl (by kernel_rfl) (by kernel_rfl) (by kernel_rfl) (fun _ _ _ h => h) (Or.inl ⟨by rfl, ?hy17⟩) (by assumption) ?rest17
      case hy17 => (intro wS hSw; (try dsimp only at hSw); go_simp; (try with_reducible rfl))
      (try simp only [Act.put, List.setIfInBounds_toArray, List.set_cons_zero, List.set_cons_succ])
      refine wpAnyH_take (i := 1) (oi := ⟨some 41, _, _, _, _, none⟩) (v := ?v18) rfl (by kernel_rfl) (by kernel_rfl) (by kernel_rfl) (fun _ _ _ h => h) (Or.inl ⟨by rfl, ?hy18⟩) (by assumption) ?rest18
      case hy18 => (intro wS hSw; (try dsimp only at hSw); go_simp; (try with_reducible rfl))
      (try simp only [Act.put, List.setIfInBounds_toArray, List.set_cons_zero, List.set_cons_succ])
      refine wpAnyH_take (i := 2) (oi := ⟨some 42, _, _, _, _, none⟩) (v := ?v19) rfl (by kernel_rfl) (by kernel_rfl) (by kernel_rfl) (fun _ _ _ h => h) (Or.inl ⟨by rfl, ?hy19⟩) (by assumption) ?rest19
      case hy19 => (intro wS hSw; (try dsimp only at hSw); go_simp; (try with_reducible rfl))
      (try simp only [Act.put, List.setIfInBounds_toArray, List.set_cons_zero, List.set_cons_succ])
      refine wpAnyH_take (i := 3) (oi := ⟨some 43, _, _, _, _, none⟩) (v := ?v20) rfl (by kernel_rfl) (by kernel_rfl) (by kernel_rfl) (fun _ _ _ h => h) (Or.inl ⟨by rfl, ?hy20⟩) (by assumption) ?rest20
      case hy20 => (intro wS hSw; (try dsimp only at hSw); go_simp; (try with_reducible rfl))
      (try simp only [Act.put, List.setIfInBounds_toArray, List.set_cons_zero, List.set_cons_succ])
      refine wpAnyH_take (i := 4) (oi := ⟨some 44, _, _, _, _, none⟩) (v := ?v21) rfl (by kernel_rfl) (by kernel_rfl) (by kernel_rfl) (fun _ _ _ h => h) (Or.inl ⟨by rfl, ?hy21⟩) (by assumption) ?rest21
      case hy21 => (intro wS hSw; (try dsimp only at hSw); go_simp; (try with_reducible rfl))
      (try simp only [Act.put, List.setIfInBounds_toArray, List.set_cons_zero, List.set_cons_succ])
      refine wpAnyH_ready (rs := [5]) (by kernel_rfl) (by simp) ?_
      refine AllReadyH.cons (o := ⟨some 45, _, _, _, _, none⟩) rfl (fun K hK => ?_) AllReadyH.nil
      go_simp
      go_at_call 28
      refine (HT.out _ Fd.out).mono ?_
      rintro e w4 ⟨rfl, f4⟩
      have RB4 := Lib.hid (RBd.out.fr f4 (fun e => e))
      have PB4 := Lib.hid (PBd.out.fr f4 (fun e => e))
      have F4 := Lib.hid (Fd.out.trans f4)
      clear r0 r1 b0 b1 b2 b3 b4 b5 b6 b7 b8
      have r0 := RB4.out.cell 0
      have r1 := RB4.out.cell 1
      simp at r0 r1
      obtain ⟨b0, b1, b2, b3, b4, b5, b6, b7, b8⟩ := pdB_cells PB4.out
      dsimp only at b0 b1 b2 b3 b4 b5 b6 b7 b8
      replace k0 := (f4.cell (World.block_lt_of_cell? _ _ k0) (fun e => e)).trans k0
      replace k1 := (f4.cell (World.block_lt_of_cell? _ _ k1) (fun e => e)).trans k1
      replace k2 := (f4.cell (World.block_lt_of_cell? _ _ k2) (fun e => e)).trans k2
      replace k3 := (f4.cell (World.block_lt_of_cell? _ _ k3) (fun e => e)).trans k3
      replace k4 := (f4.cell (World.block_lt_of_cell? _ _ k4) (fun e => e)).trans k4
      replace k5 := (f4.cell (World.block_lt_of_cell? _ _ k5) (fun e => e)).trans k5
      replace k6 := (f4.cell (World.block_lt_of_cell? _ _ k6) (fun e => e)).trans k6
      replace k7 := (f4.cell (World.block_lt_of_cell? _ _ k7) (fun e => e)).trans k7
      replace k8 := (f4.cell (World.block_lt_of_cell? _ _ k8) (fun e => e)).trans k8
      clear f4

      go_wp2_with fail
      refine hK.out _ _ (by exact ⟨r0, r1, b0, b1, b2, b3, b4, b5, b6, b7, b8, k0, k1, k2, k3, k4, k5, k6, k7, k8⟩) (fun hHeld => ?_)
      clear hK K
      (try simp only [Act.put, List.setIfInBounds_toArray, List.set_cons_zero, List.set_cons_succ])
      refine wpAnyH_ready (rs := [6]) (by kernel_rfl) (by simp) ?_
      refine AllReadyH.cons (o := ⟨some 46, _, _, _, _, none⟩) rfl (fun K hK => ?_) AllReadyH.nil
      go_simp
      go_at_call 49
      refine (HNo.out _ _).mono ?_
      rintro e w5 ⟨rfl, rfl⟩

      go_wp2_with fail
      refine hK.out _ _ (by exact ⟨r0, r1, b0, b1, b2, b3, b4, b5, b6, b7, b8, k0, k1, k2, k3, k4, k5, k6, k7, k8⟩) (fun hHeld => ?_)
      clear hK K
      (try simp only [Act.put, List.setIfInBounds_toArray, List.set_cons_zero, List.set_cons_succ])
      refine wpAnyH_take (i := 7) (oi := ⟨some 4, _, _, _, _, none⟩) (v := ?v22) rfl (by kernel_rfl) (by kernel_rfl) (by kernel_rfl) (fun _ _ _ h => h) (Or.inl ⟨by rfl, ?hy22⟩) (by assumption) ?rest22
      case hy22 => (intro wS hSw; (try dsimp only at hSw); go_simp; (try with_reducible rfl))
      (try simp only [Act.put, List.setIfInBounds_toArray, List.set_cons_zero, List.set_cons_succ])
      refine wpAnyH_done (by kernel_rfl) ?_ _
      go_wp2
      go_ret
      exact ⟨ret_int HE.out.symm, F4.out⟩
    · rcases ho with ho | ho
      · have HE : Hid (r = chnI 0 1 (ks.map (truP cols row))) := Lib.hid (by rw [HE0.out, truH_6 ho])
        have HCh : Hid (∀ W, Fr Non w W → Calls Try.prog 50 #[recV (.slice A1 cols.length c1) (.slice A2 row.length c2), kidV t, .int .i64 0, .int .i64 1] W fun e w' => e = .returned (.int .i64 (chnI 0 1 (ks.map (truP cols row)))) ∧ Fr Non W w') :=
          Lib.hid (fun W hf => echain_of _ _ cols row ks 0 1 t W (HV.out.non hf) (HC.out.non hf) (HK.out.non hf) hl IH)
        clear HE0 IH HV HC HK hok hty hpl hr h0 hl
        generalize chnI 0 1 (ks.map (truP cols row)) = z at *
        obtain ⟨ho_, hc, hm, ⟨vn, vi, vt⟩, hkd, hp⟩ := hd
        obtain ⟨A, n, c⟩ := t
        dsimp only at ho hn
        clear hn
        subst ho
        unfold recW at F0 RB PB
        unfold recV pdV at *
        unfold pdC kidV at *
        dsimp only at *
        generalize hg : w.heap.size = g at *
        have r0 := RB.out.cell 0
        have r1 := RB.out.cell 1
        simp at r0 r1
        obtain ⟨b0, b1, b2, b3, b4, b5, b6, b7, b8⟩ := pdB_cells PB.out
        dsimp only at b0 b1 b2 b3 b4 b5 b6 b7 b8
        go_enter Try.func28, Try.ntmps28
        go_wp2_with fail
        refine (HCh.out _ F0.out).mono ?_
        rintro e w4 ⟨rfl, f4⟩
        have F4 := Lib.hid (F0.out.trans f4)
        clear r0 r1 b0 b1 b2 b3 b4 b5 b6 b7 b8 f4
        go_wp2
        go_ret
        exact ⟨ret_int HE.out.symm, F4.out⟩
      · have HE : Hid (r = chnI 1 0 (ks.map (truP cols row))) := Lib.hid (by rw [HE0.out, truH_7 ho])
        have HCh : Hid (∀ W, Fr Non w W → Calls Try.prog 50 #[recV (.slice A1 cols.length c1) (.slice A2 row.length c2), kidV t, .int .i64 1, .int .i64 0] W fun e w' => e = .returned (.int .i64 (chnI 1 0 (ks.map (truP cols row)))) ∧ Fr Non W w') :=
          Lib.hid (fun W hf => echain_of _ _ cols row ks 1 0 t W (HV.out.non hf) (HC.out.non hf) (HK.out.non hf) hl IH)
        clear HE0 IH HV HC HK hok hty hpl hr h0 hl
        generalize chnI 1 0 (ks.map (truP cols row)) = z at *
        obtain ⟨ho_, hc, hm, ⟨vn, vi, vt⟩, hkd, hp⟩ := hd
        obtain ⟨A, n, c⟩ := t
        dsimp only at ho hn
        clear hn
        subst ho
        unfold recW at F0 RB PB
        unfold recV pdV at *
        unfold pdC kidV at *
        dsimp only at *
        generalize hg : w.heap.size = g at *
        have r0 := RB.out.cell 0
        have r1 := RB.out.cell 1
        simp at r0 r1
        obtain ⟨b0, b1, b2, b3, b4, b5, b6, b7, b8⟩ := pdB_cells PB.out
        dsimp only at b0 b1 b2 b3 b4 b5 b6 b7 b8
        go_enter Try.func28, Try.ntmps28
        go_wp2_with fail
        refine (HCh.out _ F0.out).mono ?_
        rintro e w4 ⟨rfl, f4⟩
        have F4 := Lib.hid (F0.out.trans f4)
        clear r0 r1 b0 b1 b2 b3 b4 b5 b6 b7 b8 f4
        go_wp2
        go_ret
        exact ⟨ret_int HE.out.symm, F4.out⟩
end Go.Proofs.Ytnbhgkolfapblaa


namespace Go.Proofs.Ytnbhgkolfapblaa
set_option linter.unusedVariables false
set_option linter.unusedSimpArgs false
set_option maxRecDepth 100000
open Go.RowKit

/-- a slice's words -/
structure Sl where
  A : Option Addr
  n : Nat
  c : Nat
def slV (s : Sl) : Value := .slice s.A s.n s.c
def noSl : Sl := ⟨none, 0, 0⟩
/-- the slice v reads as the rows rs -/
def Rs (w : World) (v : Value) (rs : List (List Cl)) : Prop := ∃ hs : List Sl, hs.length = rs.length ∧ Vs slV w v hs ∧ ∀ i (h : i < hs.length) (h2 : i < rs.length), Cs w (slV hs[i]) rs[i]
theorem Rs.non {w w' : World} {v : Value} {rs : List (List Cl)} (h : Rs w v rs) (hf : Fr Non w w') : Rs w' v rs := by
  obtain ⟨hs, h1, h2, h3⟩ := h
  exact ⟨hs, h1, h2.non hf, fun i a b => (h3 i a b).non hf⟩
theorem Rs.shape {w : World} {v : Value} {rs : List (List Cl)} (h : Rs w v rs) : ∃ A c, v = .slice A rs.length c := by
  obtain ⟨hs, h1, h2, _⟩ := h
  obtain ⟨A, c, e⟩ := h2.shape
  exact ⟨A, c, by rw [e, h1]⟩
theorem Rs.nil_ (w : World) : Rs w (.slice none 0 0) [] := ⟨[], rfl, Vs.nil_ w, fun i h => by cases h⟩
/-- the row at j -/
theorem Rs.el {w : World} {A : Option Addr} {n c : Nat} {rs : List (List Cl)} (h : Rs w (.slice A n c) rs) (j : Nat) (hj : j < rs.length) :
    ∃ a A' c', A = some a ∧ n = rs.length ∧ w.cell? (a.add j) = some (.slice A' rs[j].length c') ∧ Cs w (.slice A' rs[j].length c') rs[j] := by
  obtain ⟨hs, h1, h2, h3⟩ := h
  obtain ⟨A0, c0, he, _⟩ := h2
  have h2' : Vs slV w (.slice A n c) hs := ⟨A0, c0, he, by assumption⟩
  simp only [Value.slice.injEq] at he
  obtain ⟨rfl, rfl, rfl⟩ := he
  obtain ⟨a, rfl, _, _, hc⟩ := h2'.addr (by omega)
  have h4 := h3 j (by omega) hj
  obtain ⟨A', c', e⟩ := h4.shape
  have h5 := hc j (by omega)
  rw [e] at h4 h5
  exact ⟨a, A', c', rfl, h1, h5, h4⟩

/-- rows of the call's own, from block B on -/
def Ro (w : World) (B : Nat) (v : Value) (rs : List (List Cl)) : Prop := ∃ hs : List Sl, hs.length = rs.length ∧ Ow slV 42 w B v hs ∧ ∀ i (h : i < hs.length) (h2 : i < rs.length), Oc w B (slV hs[i]) rs[i]
theorem Ro.rs {w : World} {B : Nat} {v : Value} {rs : List (List Cl)} (h : Ro w B v rs) : Rs w v rs := by
  obtain ⟨hs, h1, h2, h3⟩ := h
  exact ⟨hs, h1, h2.vs, fun i a b => (h3 i a b).cs⟩
theorem Ro.non {w w' : World} {B : Nat} {v : Value} {rs : List (List Cl)} (h : Ro w B v rs) (hf : Fr Non w w') : Ro w' B v rs := by
  obtain ⟨hs, h1, h2, h3⟩ := h
  exact ⟨hs, h1, h2.non hf, fun i a b => (h3 i a b).non hf⟩
theorem Ro.mono {w : World} {B B' : Nat} {v : Value} {rs : List (List Cl)} (h : Ro w B v rs) (hB : B' ≤ B) : Ro w B' v rs := by
  obtain ⟨hs, h1, h2, h3⟩ := h
  exact ⟨hs, h1, h2.mono hB, fun i a b => (h3 i a b).mono hB⟩
theorem Ro.shape {w : World} {B : Nat} {v : Value} {rs : List (List Cl)} (h : Ro w B v rs) : ∃ A c, v = .slice A rs.length c := h.rs.shape
theorem Ro.frozen {w : World} {B g n cap : Nat} {rs : List (List Cl)} (h : Ro w B (.slice (some ⟨g, 0, none⟩) n cap) rs) (hn : n = rs.length) (j : Nat) : w.frozen? ⟨g, j, none⟩ = false := by
  obtain ⟨hs, h1, h2, h3⟩ := h
  exact h2.frozen (by omega) j
theorem Ro.lt {w : World} {B : Nat} {v : Value} {rs : List (List Cl)} (h : Ro w B v rs) : ∀ k, v.ownBlock = some k → B ≤ k ∧ k < w.heap.size := by
  obtain ⟨hs, h1, h2, h3⟩ := h
  exact h2.lt
theorem oc_kind_ne {w : World} {B g : Nat} {v : Value} {l : List Cl} {cur : Array Value} {E : TypeId} (h : Oc w B v l) (hg : w.heap[g]? = some (.cells cur E (0, 0))) (hE : 24 ≠ E) : ∀ k, v.ownBlock = some k → k ≠ g := by
  rintro k hk rfl
  obtain ⟨c, h1⟩ := h.kind k hk
  rw [hg] at h1
  simp at h1
  exact hE h1.2.symm
theorem cell_ne_cells : 24 ≠ 42 := by decide
/-- a row stored -/
theorem Ro.put {w : World} {B g n cap : Nat} {rs : List (List Cl)} (h : Ro w B (.slice (some ⟨g, 0, none⟩) n cap) rs) (hn : n = rs.length) (j : Nat) {u : Value} {l : List Cl} (hu : Oc w B u l) :
    Ro (w.setCell ⟨g, j, none⟩ u) B (.slice (some ⟨g, 0, none⟩) n cap) (rs.set j l) := by
  obtain ⟨hs, h1, h2, h3⟩ := h
  obtain ⟨A, c, rfl⟩ := hu.shape
  obtain ⟨cur, hg⟩ := h2.kind g rfl
  have hf : Fr (One g) w (w.setCell ⟨g, j, none⟩ (.slice A l.length c)) := (Fr.refl _ _).set1 j _
  refine ⟨hs.set j ⟨A, l.length, c⟩, by simp [h1], h2.store (by omega) j ⟨A, l.length, c⟩, fun i a b => ?_⟩
  simp only [List.getElem_set]
  split
  · exact hu.fr hf (oc_kind_ne hu hg cell_ne_cells)
  · have h4 := h3 i (by simpa using a) (by simpa using b)
    exact h4.fr hf (oc_kind_ne h4 hg cell_ne_cells)
/-- the row at j, of the call's own -/
theorem Ro.el {w : World} {B g n cap : Nat} {rs : List (List Cl)} (h : Ro w B (.slice (some ⟨g, 0, none⟩) n cap) rs) (hn : n = rs.length) (j : Nat) (hj : j < rs.length) :
    ∃ A' c', w.cell? ⟨g, j, none⟩ = some (.slice A' rs[j].length c') ∧ Cs w (.slice A' rs[j].length c') rs[j] := by
  obtain ⟨hs, h1, h2, h3⟩ := h
  have h4 := (h3 j (by omega) hj).cs
  obtain ⟨A', c', e⟩ := h4.shape
  have h5 := h2.cell (by omega) j hs[j] (List.getElem?_eq_getElem (by omega))
  rw [e] at h4 h5
  exact ⟨A', c', h5, h4⟩

/-! ### Rows whose blocks are apart, to be appended to in their places -/
/-- the slices' blocks are apart -/
def Apart (hs : List Sl) : Prop := ∀ i j (hi : i < hs.length) (hj : j < hs.length), i ≠ j → ∀ k, (slV hs[i]).ownBlock = some k → (slV hs[j]).ownBlock ≠ some k
def Rq (w : World) (B : Nat) (v : Value) (rs : List (List Cl)) : Prop := ∃ hs : List Sl, hs.length = rs.length ∧ Ow slV 42 w B v hs ∧ (∀ i (h : i < hs.length) (h2 : i < rs.length), Oc w B (slV hs[i]) rs[i]) ∧ Apart hs
theorem Rq.non {w w' : World} {B : Nat} {v : Value} {rs : List (List Cl)} (h : Rq w B v rs) (hf : Fr Non w w') : Rq w' B v rs := by
  obtain ⟨hs, h1, h2, h3, h4⟩ := h
  exact ⟨hs, h1, h2.non hf, fun i a b => (h3 i a b).non hf, h4⟩
/-- the row at j, and what is left when another one, in the same block or in a new one, is stored in its place -/
theorem Rq.el {w : World} {B g n cap : Nat} {rs : List (List Cl)} (h : Rq w B (.slice (some ⟨g, 0, none⟩) n cap) rs) (hn : n = rs.length) (j : Nat) (hj : j < rs.length) :
    ∃ A' c', w.cell? ⟨g, j, none⟩ = some (.slice A' rs[j].length c') ∧ Oc w B (.slice A' rs[j].length c') rs[j] ∧
      ∀ (w1 w2 : World) (u : Value) (l : List Cl), Fr Non w w1 → Fr (fun k => (Value.slice A' rs[j].length c').ownBlock = some k) w1 w2 → Oc w2 B u l → (u.ownBlock = (Value.slice A' rs[j].length c').ownBlock ∨ ∀ k, u.ownBlock = some k → w1.heap.size ≤ k) →
        w2.frozen? ⟨g, j, none⟩ = false ∧ g < w2.heap.size ∧ Rq (w2.setCell ⟨g, j, none⟩ u) B (.slice (some ⟨g, 0, none⟩) n cap) (rs.set j l) := by
  obtain ⟨hs, h1, h2, h3, h4⟩ := h
  have hj' : j < hs.length := by omega
  have h5 := h3 j hj' hj
  obtain ⟨A', c', e⟩ := h5.shape
  have h6 := h2.cell (by omega) j hs[j] (List.getElem?_eq_getElem hj')
  have hown : (slV hs[j]).ownBlock = (Value.slice A' rs[j].length c').ownBlock := by rw [e]
  refine ⟨A', c', by rw [h6, e], by rw [← e]; exact h5, fun w1 w2 u l f1 f2 hu hblk => ?_⟩
  obtain ⟨cur0, hg0⟩ := h2.kind g rfl
  have hng : ∀ k, (Value.slice A' rs[j].length c').ownBlock = some k → k ≠ g := by rw [← e]; exact oc_kind_ne h5 hg0 cell_ne_cells
  have o1 := h2.non f1
  have o2 : Ow slV 42 w2 B (.slice (some ⟨g, 0, none⟩) n cap) hs := o1.fr f2 (fun k hk e2 => hng k e2 (by simpa [Value.ownBlock] using hk.symm))
  obtain ⟨cur, hg⟩ := o2.kind g rfl
  obtain ⟨A, c, rfl⟩ := hu.shape
  have hf : Fr (One g) w2 (w2.setCell ⟨g, j, none⟩ (.slice A l.length c)) := (Fr.refl _ _).set1 j _
  refine ⟨o2.frozen (by omega) j, (o2.lt g rfl).2, hs.set j ⟨A, l.length, c⟩, by simp [h1], o2.store (by omega) j ⟨A, l.length, c⟩, fun i a b => ?_, fun i i' hi hi' hne k hk hk' => ?_⟩
  · simp only [List.getElem_set]
    split
    · exact hu.fr hf (oc_kind_ne hu hg cell_ne_cells)
    · rename_i hne
      have a' : i < hs.length := by simpa using a
      have h7 := (h3 i a' (by simpa using b)).non f1
      have h8 := h7.fr f2 (fun k hk e2 => h4 i j a' hj' (fun e => hne e.symm) k hk (by rw [hown]; exact e2))
      exact h8.fr hf (oc_kind_ne h8 hg cell_ne_cells)
  · simp only [List.length_set] at hi hi'
    simp only [List.getElem_set] at hk hk'
    have old : ∀ i (hi : i < hs.length), i ≠ j → ∀ k, (slV hs[i]).ownBlock = some k → (slV (⟨A, l.length, c⟩ : Sl)).ownBlock ≠ some k := by
      intro i hi hne k hk hk'
      have hk2 : (Value.slice A l.length c).ownBlock = some k := hk'
      rcases hblk with hb | hb
      · rw [hb] at hk2
        exact h4 i j hi hj' hne k hk (by rw [hown]; exact hk2)
      · have h9 := hb k hk2
        have h10 := ((h3 i hi (by omega)).lt k hk).2
        have := f1.size
        omega
    by_cases e1 : j = i
    · rw [if_pos e1] at hk
      rw [if_neg (fun e2 => hne (by omega))] at hk'
      exact old i' hi' (by omega) k hk' hk
    · rw [if_neg e1] at hk
      by_cases e2 : j = i'
      · rw [if_pos e2] at hk'
        exact old i hi (by omega) k hk hk'
      · rw [if_neg e2] at hk'
        exact h4 i i' hi hi' hne k hk hk'

end Go.Proofs.Ytnbhgkolfapblaa


namespace Go.Proofs.Ytnbhgkolfapblaa
set_option linter.unusedVariables false
set_option linter.unusedSimpArgs false
set_option maxRecDepth 100000
open Go.RowKit

/-- two numbers handed back -/
def twoV (r : Int × Int) : Value := .tuple #[.int .i64 r.1, .int .i64 r.2]
theorem ret_twoV {r : Int × Int} {a b : Int} (h : r = (a, b)) : Ending.returned (.tuple #[.int .i64 a, .int .i64 b]) = Ending.returned (twoV r) := by rw [h]; rfl
def askE (cols : List Co) (p : Pd) (row : List Cl) : Int × Int := if rowB cols row = true then (truP cols row p, 0) else (0, 10)
theorem askE_yes {cols : List Co} {p : Pd} {row : List Cl} (h : rowB cols row = true) : askE cols p row = (truP cols row p, 0) := by unfold askE; rw [if_pos h]
theorem askE_no {cols : List Co} {p : Pd} {row : List Cl} (h : rowB cols row = false) : askE cols p row = (0, 10) := by unfold askE; rw [if_neg (by rw [h]; simp)]
theorem rowE_ask {cols : List Co} {p : Pd} {row : List Cl} (h : fitP cols p = 0) : rowE cols p row = askE cols p row := by unfold rowE askE; rw [if_pos h]

set_option maxHeartbeats 2000000 in
theorem eask_any (v1 v2 : Value) (cols : List Co) (row : List Cl) (hcl : cols.length ≤ 1000) (h : Ph) (ks : List Pd) (t : Kv) (w : World) (h1 : Ks w v1 cols) (h2 : Cs w v2 row) (hk : Kd w t ks) (hbig : bigP (.mk h ks) = true) (hf : fitP cols (.mk h ks) = 0) :
    Calls Try.prog 18 #[v1, pdV h t, v2] w fun e w' => e = .returned (twoV (askE cols (.mk h ks) row)) ∧ Fr Non w w' := by
  obtain ⟨_, hone, htyp⟩ := fit_zero hf
  have F0 : Fr Non w (w.alloc (.cells (pdC h t) 27)) := (Fr.refl Non w).alloc _
  have PB := Lib.hid (pd_new w _ h t rfl)
  have HR := Lib.hid (fun W (hf2 : Fr Non w W) => srow_any v1 v2 cols row W (h1.non hf2) (h2.non hf2) (by omega))
  have HT : Hid (rowB cols row = true → ∀ W, Fr Non w W → Calls Try.prog 28 #[recV v1 v2, pdV h t] W fun e w' => e = .returned (.int .i64 (truP cols row (.mk h ks))) ∧ Fr Non W w') :=
    Lib.hid (fun hr W hf2 => etruth_any v1 v2 cols row hcl hr (.mk h ks) t W (h1.non hf2) (h2.non hf2) (hk.non hf2) hbig hone htyp)
  have HY := Lib.hid (fun e => askE_yes (cols := cols) (p := .mk h ks) (row := row) e)
  have HX := Lib.hid (fun e => askE_no (cols := cols) (p := .mk h ks) (row := row) e)
  obtain ⟨A1, c1, rfl⟩ := h1.shape
  obtain ⟨A2, c2, rfl⟩ := h2.shape
  generalize truP cols row (.mk h ks) = z at *
  generalize askE cols (.mk h ks) row = r at *
  clear hone htyp hk hbig hf h1 h2
  replace F0 := Lib.hid F0
  obtain ⟨ho, hc, hm, ⟨vn, vi, vt⟩, hkd, hp⟩ := h
  obtain ⟨A, n, c⟩ := t
  unfold recV pdV at *
  unfold pdC kidV at *
  dsimp only at *
  cases hb : rowB cols row
  · have HE := Lib.hid (HX.out hb)
    simp only [hb] at HR
    clear HX HY HT hb
    go_enter Try.func18, Try.ntmps18
    go_wp2_with fail
    refine (HR.out _ F0.out).mono ?_
    rintro e w1 ⟨rfl, f1⟩
    go_wp2
    go_ret2
    exact ⟨ret_twoV HE.out, F0.out.trans f1⟩
  · have HE := Lib.hid (HY.out hb)
    replace HT := Lib.hid (HT.out hb)
    simp only [hb] at HR
    clear HX HY hb
    go_enter Try.func18, Try.ntmps18
    go_wp2_with fail
    refine (HR.out _ F0.out).mono ?_
    rintro e w1 ⟨rfl, f1⟩
    obtain ⟨b0, b1, b2, b3, b4, b5, b6, b7, b8⟩ := pdB_cells (PB.out.fr f1 (fun e => e))
    dsimp only at b0 b1 b2 b3 b4 b5 b6 b7 b8
    have F1 := Lib.hid (F0.out.trans f1)
    clear f1
    go_wp2_with fail
    refine (HT.out _ F1.out).mono ?_
    rintro e w2 ⟨rfl, f2⟩
    go_wp2
    go_ret2
    exact ⟨ret_twoV HE.out, F1.out.trans f2⟩

set_option maxHeartbeats 2000000 in
theorem erow_any (v1 v2 : Value) (cols : List Co) (row : List Cl) (hcl : cols.length ≤ 1000) (hcb : ∀ c ∈ cols, c.name.length ≤ 1000) (h : Ph) (ks : List Pd) (t : Kv) (w : World) (h1 : Ks w v1 cols) (h2 : Cs w v2 row) (hk : Kd w t ks) (hb : I64b h.val.num) (hbig : bigP (.mk h ks) = true) (hdep : depP (.mk h ks) ≤ 100) :
    Calls Try.prog 13 #[v1, pdV h t, v2] w fun e w' => e = .returned (twoV (rowE cols (.mk h ks) row)) ∧ Fr Non w w' := by
  have F0 : Fr Non w (w.alloc (.cells (pdC h t) 27)) := (Fr.refl Non w).alloc _
  have PB := Lib.hid (pd_new w _ h t rfl)
  have HF := Lib.hid (fun W (hf2 : Fr Non w W) => pfits_big cols hcl hcb v1 h t ks W (h1.non hf2) (hk.non hf2) hb hbig hdep)
  have HA : Hid (fitP cols (.mk h ks) = 0 → ∀ W, Fr Non w W → Calls Try.prog 18 #[v1, pdV h t, v2] W fun e w' => e = .returned (twoV (askE cols (.mk h ks) row)) ∧ Fr Non W w') :=
    Lib.hid (fun hf W hf2 => eask_any v1 v2 cols row hcl h ks t W (h1.non hf2) (h2.non hf2) (hk.non hf2) hbig hf)
  have HY := Lib.hid (fun e => rowE_ask (cols := cols) (p := .mk h ks) (row := row) e)
  have HX := Lib.hid (fun e => rowE_bad (cols := cols) (p := .mk h ks) (row := row) e)
  obtain ⟨A1, c1, rfl⟩ := h1.shape
  obtain ⟨A2, c2, rfl⟩ := h2.shape
  generalize fitP cols (.mk h ks) = z at *
  generalize askE cols (.mk h ks) row = s at *
  generalize rowE cols (.mk h ks) row = r at *
  clear hk hbig hdep hb h1 h2
  replace F0 := Lib.hid F0
  obtain ⟨ho, hc, hm, ⟨vn, vi, vt⟩, hkd, hp⟩ := h
  obtain ⟨A, n, c⟩ := t
  unfold pdV at *
  unfold pdC kidV at *
  dsimp only at *
  by_cases hz : z = 0
  · subst hz
    have HE := Lib.hid (HY.out rfl)
    replace HA := Lib.hid (HA.out rfl)
    clear HX HY
    obtain ⟨s1, s2⟩ := s
    unfold twoV at HA
    dsimp only at HA
    go_enter Try.func13, Try.ntmps13
    go_wp2_with fail
    refine (HF.out _ F0.out).mono ?_
    rintro e w1 ⟨rfl, f1⟩
    obtain ⟨b0, b1, b2, b3, b4, b5, b6, b7, b8⟩ := pdB_cells (PB.out.fr f1 (fun e => e))
    dsimp only at b0 b1 b2 b3 b4 b5 b6 b7 b8
    have F1 := Lib.hid (F0.out.trans f1)
    clear f1
    go_wp2_with fail
    refine (HA.out _ F1.out).mono ?_
    rintro e w2 ⟨rfl, f2⟩
    go_wp2
    go_ret2
    exact ⟨ret_twoV HE.out, F1.out.trans f2⟩
  · have HE := Lib.hid (HX.out hz)
    have hb : (z != 0) = true := by rw [bne_iff_ne]; exact hz
    clear HX HY HA hz
    go_enter Try.func13, Try.ntmps13
    go_wp2_with fail
    refine (HF.out _ F0.out).mono ?_
    rintro e w1 ⟨rfl, f1⟩
    go_wp2
    go_ret2
    exact ⟨ret_twoV HE.out, F0.out.trans f1⟩

/-- places and an error handed back -/
def PlcR (w : World) (r : List Int × Int) (e : Ending) : Prop := ∃ u, e = .returned (.tuple #[u, .int .i64 r.2]) ∧ Vs iv w u r.1
theorem plcR_no {w : World} {r : List Int × Int} {z : Int} (h : r = ([], z)) : PlcR w r (.returned (.tuple #[.slice none 0 0, .int .i64 z])) := ⟨_, by rw [h], by rw [h]; exact Vs.nil_ w⟩
theorem plcR_yes {w : World} {r : List Int × Int} {l : List Int} {u : Value} (h : r = (l, 0)) (hu : Vs iv w u l) : PlcR w r (.returned (.tuple #[u, .int .i64 0])) := ⟨u, by rw [h], by rw [h]; exact hu⟩

set_option maxHeartbeats 4000000 in
theorem erows_any (v1 v2 : Value) (cols : List Co) (rows : List (List Cl)) (hcl : cols.length ≤ 1000) (hcb : ∀ c ∈ cols, c.name.length ≤ 1000) (h : Ph) (ks : List Pd) (t : Kv) (w : World) (h1 : Ks w v1 cols) (h2 : Rs w v2 rows) (hk : Kd w t ks) (hb : I64b h.val.num) (hbig : bigP (.mk h ks) = true) (hdep : depP (.mk h ks) ≤ 100) (hrl : rows.length ≤ 100000) :
    Calls Try.prog 9 #[v1, pdV h t, v2] w fun e w' => PlcR w' (rowsE cols (.mk h ks) rows) e ∧ Fr Non w w' := by
  have F0 : Fr Non w (w.alloc (.cells (pdC h t) 27)) := (Fr.refl Non w).alloc _
  have PB := Lib.hid (pd_new w _ h t rfl)
  have HF := Lib.hid (fun W (hf2 : Fr Non w W) => pfits_big cols hcl hcb v1 h t ks W (h1.non hf2) (hk.non hf2) hb hbig hdep)
  have HA : Hid (fitP cols (.mk h ks) = 0 → ∀ row v W, Fr Non w W → Cs W v row → Calls Try.prog 18 #[v1, pdV h t, v] W fun e w' => e = .returned (twoV (askE cols (.mk h ks) row)) ∧ Fr Non W w') :=
    Lib.hid (fun hf row v W hf2 hv => eask_any v1 v cols row hcl h ks t W (h1.non hf2) hv (hk.non hf2) hbig hf)
  have HX := Lib.hid (fun e => rowsE_bad (cols := cols) (p := .mk h ks) (rows := rows) e)
  have HX2 := Lib.hid (fun a (k : Nat) b c => rowsE_type (cols := cols) (p := .mk h ks) (rows := rows) (k := k) a b c)
  have HX3 := Lib.hid (fun a (k : Nat) b c => rowsE_ok (cols := cols) (p := .mk h ks) (rows := rows) (k := k) a b c)
  have HR : Hid (Rs w v2 rows) := Lib.hid h2
  obtain ⟨A1, c1, rfl⟩ := h1.shape
  obtain ⟨A2, c2, rfl⟩ := h2.shape
  generalize rowsE cols (.mk h ks) rows = r at *
  have HP1 := Lib.hid (fun (k : Nat) a b => plc_yes (cols := cols) (p := .mk h ks) (rows := rows) (n := k) a b)
  have HP2 := Lib.hid (fun (k : Nat) a b => plc_no (cols := cols) (p := .mk h ks) (rows := rows) (n := k) a b)
  have HP3 := Lib.hid (fun (k : Nat) => plcI_len cols (.mk h ks) rows k)
  have HP0 : Hid (plcI cols (.mk h ks) rows 0 = []) := Lib.hid rfl
  have HAY := Lib.hid (fun row a => askE_yes (cols := cols) (p := .mk h ks) (row := row) a)
  have HAN := Lib.hid (fun row a => askE_no (cols := cols) (p := .mk h ks) (row := row) a)
  generalize fitP cols (.mk h ks) = z at *
  generalize Pd.mk h ks = p at *
  clear hk hbig hdep hb h1 h2
  replace F0 := Lib.hid F0
  obtain ⟨ho, hc, hm, ⟨vn, vi, vt⟩, hkd, hp⟩ := h
  obtain ⟨A, n, c⟩ := t
  unfold pdV at *
  unfold pdC kidV at *
  dsimp only at *
  by_cases hz : z = 0
  · subst hz
    replace HA := Lib.hid (HA.out rfl)
    replace HX2 := Lib.hid (HX2.out rfl)
    replace HX3 := Lib.hid (HX3.out rfl)
    clear HX
    go_enter Try.func9, Try.ntmps9
    go_wp2_with fail
    refine (HF.out _ F0.out).mono ?_
    rintro e w1 ⟨rfl, f1⟩
    have PB1 := Lib.hid (PB.out.fr f1 (fun e => e))
    have F1 := Lib.hid (F0.out.trans f1)
    clear f1 HF
    go_wp2
    go_loopw [9, 22] (fun u i wr => ∃ k : Nat, k ≤ rows.length ∧ i = .int .i64 k ∧ Hid (Ow iv 3 wr w1.heap.size u (plcI cols p rows k)) ∧ Hid (∀ j (h : j < rows.length), j < k → rowB cols rows[j] = true) ∧ Hid (Fr Non w1 wr)) (fun _ i _ => rows.length - (intOf i).toNat)
    case atStart => exact ⟨0, Nat.zero_le _, rfl, Lib.hid (by rw [HP0.out]; exact ow_nil _ _), Lib.hid (fun _ _ h => by omega), Lib.hid (Fr.refl _ _)⟩
    case round =>
      rename_i u i wr
      obtain ⟨k, hk, rfl, HO, HT, FR⟩ := hrel
      have HFw := Lib.hid (F1.out.trans FR.out)
      obtain ⟨uA, uc, rfl⟩ := HO.out.shape
      by_cases hlt : k < rows.length
      · obtain ⟨a, A', c', rfl, -, q1, hc1⟩ := (HR.out.non HFw.out).el k hlt
        obtain ⟨b0, b1, b2, b3, b4, b5, b6, b7, b8⟩ := pdB_cells (PB1.out.fr FR.out (fun e => e))
        dsimp only at b0 b1 b2 b3 b4 b5 b6 b7 b8
        have HAk := Lib.hid (HA.out _ _ wr HFw.out hc1)
        have HXk := Lib.hid (HX2.out k hlt)
        have HYk := Lib.hid (fun e => rows_more (cols := cols) HT.out hlt e)
        have HPy := Lib.hid (HP1.out k hlt)
        have HPn := Lib.hid (HP2.out k hlt)
        have HAy := Lib.hid (HAY.out rows[k])
        have HAn := Lib.hid (HAN.out rows[k])
        have hpl := HP3.out k
        clear hc1 HT HX3 HX2 HA HP1 HP2 HAY HAN HP0 HP3
        generalize hrk : rows[k] = row at *
        generalize truP cols row p = y at *
        generalize askE cols p row = s at *
        cases hbb : rowB cols row
        · have HE := Lib.hid (HXk.out hbb)
          have hs := HAn.out hbb
          subst hs
          unfold twoV at HAk
          dsimp only at HAk
          clear HXk HYk HAy HAn hbb HPy HPn hpl hrk
          go_wp2_with fail
          refine HAk.out.mono ?_
          rintro e w2 ⟨rfl, f2⟩
          go_wp2
          go_ret2
          exact ⟨plcR_no HE.out, HFw.out.trans f2⟩
        · have HE := Lib.hid (HYk.out hbb)
          have hs := HAy.out hbb
          subst hs
          unfold twoV at HAk
          dsimp only at HAk
          have hB := FR.out.size
          clear HXk HYk HAy HAn hbb hrk
          by_cases hy : y = 1
          · subst hy
            have HPk := Lib.hid (HPy.out rfl)
            clear HPy HPn
            go_wp2_with fail
            refine HAk.out.mono ?_
            rintro e w2 ⟨rfl, f2⟩
            have F2 := Lib.hid (FR.out.trans f2)
            have hO2 := HO.out.non f2
            have hB2 : w1.heap.size ≤ w2.heap.size := Nat.le_trans hB f2.size
            clear f2 HAk
            generalize plcI cols p rows k = L at *
            go_wp2_with (at_builtin; refine wpList_pushG el_int iv_oneC rfl (.tmp 39) (.tmp 41) rfl w1.heap.size _ L rfl hO2 _ (k : Int) rfl rfl (by omega) hB2 ?_; intro v3 w3 hown3 hfr3)
            go_roundw
            case rel => exact ⟨k + 1, by omega, by go_num, Lib.hid (by rw [HPk.out]; exact hown3), HE, Lib.hid (F2.out.fresh hfr3 fun q hq => (hO2.lt q hq).1)⟩
            case measure => simp [intOf]; omega
          · have HPk := Lib.hid (HPn.out hy)
            have hb1 : (y == 1) = false := by rw [beq_eq_false_iff_ne]; exact hy
            clear HPy HPn hy
            go_wp2_with fail
            refine HAk.out.mono ?_
            rintro e w2 ⟨rfl, f2⟩
            go_wp2
            go_roundw
            case rel => exact ⟨k + 1, by omega, by go_num, Lib.hid (by rw [HPk.out]; exact HO.out.non f2), HE, Lib.hid (FR.out.trans f2)⟩
            case measure => simp [intOf]; omega
      · have HE := Lib.hid (HX3.out k (by omega) HT.out)
        have hkl : k = rows.length := by omega
        subst hkl
        clear HT
        go_wp2
        go_ret2
        exact ⟨plcR_yes HE.out HO.out.vs, HFw.out⟩
  · have HE := Lib.hid (HX.out hz)
    have hb : (z != 0) = true := by rw [bne_iff_ne]; exact hz
    clear HX HA hz HX2 HX3
    go_enter Try.func9, Try.ntmps9
    go_wp2_with fail
    refine (HF.out _ F0.out).mono ?_
    rintro e w1 ⟨rfl, f1⟩
    go_wp2
    go_ret2
    exact ⟨plcR_no HE.out, F0.out.trans f1⟩
end Go.Proofs.Ytnbhgkolfapblaa
