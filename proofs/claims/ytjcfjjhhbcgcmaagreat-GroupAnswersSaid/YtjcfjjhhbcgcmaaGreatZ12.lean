/-
  Joined: Ev4, Ev5, Ev6
-/
import Derived.Lib.Zigzag
import Derived.Deep.QuietTactic
import Derived.BigQuiet
import Derived.Deep.RegionHeld3
import Derived.Deep.DrawnRows
import Derived.Shelf.Strings.Replace
import Derived.Shelf.Strconv.Itoa4
import Derived.Shelf.Strings.OnBuilder
import Derived.Test.YtjcfjjhhbcgcmaaGreatProg
import Derived.Lib.SmallJoins
import Derived.Lib.AppendIntMem
import Derived.Laws.StructEq
import Derived.Laws.Rows
import Derived.Laws.ResultCell
import Derived.Deep.RegionWith
import Derived.Test.YtjcfjjhhbcgcmaaGreatZ11
import Derived.Test.YtjcfjjhhbcgcmaaGreatZ1
import Derived.Test.YtjcfjjhhbcgcmaaGreatZ6
import Derived.Test.YtjcfjjhhbcgcmaaGreatZ10
set_option linter.unusedVariables false
set_option linter.unusedSimpArgs false
set_option maxRecDepth 100000
namespace Go.Proofs.YtjcfjjhhbcgcmaaGreat
open Go.RowKit
def recW (w : World) (v1 v2 : Value) (h : Ph) (t : Kv) : World := (w.alloc (.cells #[v1, v2] 94)).alloc (.cells (pdC h t) 28)
theorem recW_fr (w : World) (v1 v2 : Value) (h : Ph) (t : Kv) : Fr Non w (recW w v1 v2 h t) := ((Fr.refl Non w).alloc _).alloc _
theorem recW_rec (w : World) (v1 v2 : Value) (h : Ph) (t : Kv) : Blk (recW w v1 v2 h t) w.heap.size 94 #[v1, v2] := (Blk.new _ _ _).fr ((Fr.refl Non _).alloc _) (fun e => e)
theorem recW_pd (w : World) (v1 v2 : Value) (h : Ph) (t : Kv) : PdB (recW w v1 v2 h t) (w.heap.size + 1) h t := by
  have e := pd_new (w.alloc (.cells #[v1, v2] 94)) _ h t rfl
  rw [show (w.alloc (.cells #[v1, v2] 94)).heap.size = w.heap.size + 1 by simp] at e
  exact e
theorem truH_1 {cols : List Co} {row : List Cl} {h : Ph} {ts : List Int} (e : h.op = 1) : truH cols row h ts = 1 := by unfold truH; rw [e]; rfl
theorem truH_2 {cols : List Co} {row : List Cl} {h : Ph} {ts : List Int} (e : h.op = 2) : truH cols row h ts = cmpR h.cmp (cellN cols row h.col) h.val := by unfold truH; rw [if_pos e]
theorem truH_3 {cols : List Co} {row : List Cl} {h : Ph} {ts : List Int} (e : h.op = 3) : truH cols row h ts = yesI (cellN cols row h.col).null := by unfold truH; rw [if_neg (by omega), if_pos e]
theorem truH_4 {cols : List Co} {row : List Cl} {h : Ph} {ts : List Int} (e : h.op = 4) : truH cols row h ts = likR (cellN cols row h.col) h.pat := by unfold truH; rw [if_neg (by omega), if_neg (by omega), if_pos e]
theorem truH_5 {cols : List Co} {row : List Cl} {h : Ph} {ts : List Int} (e : h.op = 5) : truH cols row h ts = notI (ts.headD 0) := by unfold truH; rw [if_neg (by omega), if_neg (by omega), if_neg (by omega), if_pos e]
theorem truH_6 {cols : List Co} {row : List Cl} {h : Ph} {ts : List Int} (e : h.op = 6) : truH cols row h ts = chnI 0 1 ts := by unfold truH; rw [if_neg (by omega), if_neg (by omega), if_neg (by omega), if_neg (by omega), if_pos e]
theorem truH_7 {cols : List Co} {row : List Cl} {h : Ph} {ts : List Int} (e : h.op = 7) : truH cols row h ts = chnI 1 0 ts := by unfold truH; rw [if_neg (by omega), if_neg (by omega), if_neg (by omega), if_neg (by omega), if_neg (by omega), if_pos e]
theorem an_iface {ty : Int} {nl : Bool} {c : Cl} (h : mayC ty nl c = true) (hn : c.null = false) : ∃ u x, anV (toA ty c) = .iface u x := by
  have h1 := (an_two h h hn hn).1
  revert h1
  generalize toA ty c = a
  intro h1
  cases h1 <;> exact ⟨_, _, rfl⟩
set_option maxHeartbeats 8000000 in
theorem etruth_any (v1 v2 : Value) (cols : List Co) (row : List Cl) (hcl : cols.length ≤ 1000) (hr : rowB cols row = true) (p : Pd) : ∀ (t : Kv) (w : World), Ks w v1 cols → Cs w v2 row → Kd w t p.kids → bigP p = true → oneP p = true → typP cols p = true →
    Calls Tryz.prog 66 #[recV v1 v2, pdV p.hd t] w fun e w' => e = .returned (.int .i64 (truP cols row p)) ∧ Fr Non w w' := by
  induction p using Pd.ind with
  | h hd ks ih =>
    intro t w h1 h2 hk hbig hone htyp
    dsimp only [Pd.hd, Pd.kids] at hk ⊢
    have hn : t.n = ks.length := hk.len
    obtain ⟨hl, _, hpl, _, hbk⟩ := bigP_mk hbig
    obtain ⟨hok, hok1⟩ := one_kids hone
    obtain ⟨hty, hty1⟩ := typ_kids htyp
    obtain ⟨A1, c1, rfl⟩ := h1.shape
    obtain ⟨A2, c2, rfl⟩ := h2.shape
    have F0 := Lib.hid (recW_fr w (.slice A1 cols.length c1) (.slice A2 row.length c2) hd t)
    have RB := Lib.hid (recW_rec w (.slice A1 cols.length c1) (.slice A2 row.length c2) hd t)
    have PB := Lib.hid (recW_pd w (.slice A1 cols.length c1) (.slice A2 row.length c2) hd t)
    have IH : Hid (∀ j (h : j < ks.length) (W : World) (t' : Kv), Ks W (.slice A1 cols.length c1) cols → Cs W (.slice A2 row.length c2) row → Kd W t' ks[j].kids → Calls Tryz.prog 66 #[recV (.slice A1 cols.length c1) (.slice A2 row.length c2), pdV ks[j].hd t'] W fun e w' => e = .returned (.int .i64 (truP cols row ks[j])) ∧ Fr Non W w') :=
      Lib.hid (fun j h W t' a b c => ih _ (List.getElem_mem h) t' W a b c (hbk _ (List.getElem_mem h)) (hok1 _ (List.getElem_mem h)) (hty1 _ (List.getElem_mem h)))
    have HV : Hid (Ks w (.slice A1 cols.length c1) cols) := Lib.hid h1
    have HC := Lib.hid h2
    have HK : Hid (Kd w t ks) := Lib.hid hk
    have HE0 := Lib.hid (tru_is cols row hd ks)
    clear ih hk h1 h2 hbig hone htyp hok1 hty1 hbk
    generalize truP cols row (.mk hd ks) = r at *
    rcases hd_ways hok with ⟨ho, h0, -⟩ | ⟨ho, h0, ha⟩ | ⟨ho, h0, -⟩ | ⟨ho, h0, -⟩
    · have HE : Hid (r = 1) := Lib.hid (by rw [HE0.out, truH_1 ho])
      clear HE0 IH HV HC HK hok hty h0 hpl hr
      obtain ⟨ho_, hc, hm, ⟨vn, vi, vt⟩, hkd, hp⟩ := hd
      obtain ⟨A, n, c⟩ := t
      dsimp only at ho hn
      clear hn
      subst ho
      unfold recW at F0 RB PB
      unfold recV pdV
      unfold pdC kidV at *
      dsimp only at *
      replace F0 := F0.out
      generalize hg : w.heap.size = g at *
      have r0 := RB.out.cell 0
      have r1 := RB.out.cell 1
      simp at r0 r1
      obtain ⟨b0, b1, b2, b3, b4, b5, b6, b7, b8⟩ := pdB_cells PB.out
      dsimp only at b0 b1 b2 b3 b4 b5 b6 b7 b8
      go_enter Tryz.func66, Tryz.ntmps66
      go_wp2
      go_ret
      exact ⟨ret_int HE.out.symm, F0⟩
    · obtain ⟨hne, k, hk1, hk2, hf, hcell, hmay, hq2, hq4⟩ := ask_col ho ha hty hr
      have HVa : Hid (∀ W, Fr Non w W → Calls Tryz.prog 93 #[recV (.slice A1 cols.length c1) (.slice A2 row.length c2), .string ⟨hd.col.toArray⟩] W fun e w' => e = .returned (anV (toA cols[k].ty row[k])) ∧ Fr Non W w') := Lib.hid (fun W hf2 => evalue_any _ _ cols row hd.col k W (HV.out.non hf2) (HC.out.non hf2) hcl hk1 hk2 hf)
      rcases ho with ho | ho | ho
      · obtain ⟨hkt, hmv⟩ := hq2 ho
        have HE : Hid (r = cmpR hd.cmp row[k] hd.val) := Lib.hid (by rw [HE0.out, truH_2 ho, hcell])
        rw [hkt] at hmay
        have HTo := Lib.hid (fun W => ato_any hd.kind hd.val W)
        have HCo := Lib.hid (fun W => ecompared_any hd.kind cols[k].nl hd.cmp row[k] hd.val W hmay hmv)
        rw [hkt] at HVa
        clear HE0 IH HV HC HK hok hty h0 hpl hr hcell hmay hq2 hq4 hkt hmv hf hne ha
        generalize cmpR hd.cmp row[k] hd.val = z at *
        generalize anV (toA hd.kind row[k]) = x1 at *
        generalize anV (toA hd.kind hd.val) = x2 at *
        obtain ⟨ho_, hc, hm, ⟨vn, vi, vt⟩, hkd, hp⟩ := hd
        obtain ⟨A, n, c⟩ := t
        dsimp only at ho hn HTo HCo HVa
        clear hn
        subst ho
        unfold recW at F0 RB PB
        unfold recV pdV at *
        unfold clV clC at HTo
        unfold pdC kidV at *
        dsimp only at *
        generalize hg : w.heap.size = g at *
        have r0 := RB.out.cell 0
        have r1 := RB.out.cell 1
        simp at r0 r1
        obtain ⟨b0, b1, b2, b3, b4, b5, b6, b7, b8⟩ := pdB_cells PB.out
        dsimp only at b0 b1 b2 b3 b4 b5 b6 b7 b8
        go_enter Tryz.func66, Tryz.ntmps66
        go_wp2
        have RBd := Lib.hid RB.out.drew
        have PBd := Lib.hid PB.out.drew
        have Fd := Lib.hid F0.out.drew
        refine wp_region_held_drew (S := (fun W' => W'.cell? ⟨g, 0, none⟩ = some (.slice A1 cols.length c1) ∧ W'.cell? ⟨g, 1, none⟩ = some (.slice A2 row.length c2) ∧ W'.cell? ⟨g + 1, 0, none⟩ = some (.int .i64 2) ∧ W'.cell? ⟨g + 1, 1, none⟩ = some (.string ⟨hc.toArray⟩) ∧ W'.cell? ⟨g + 1, 2, none⟩ = some (.int .i64 hm) ∧ W'.cell? ⟨g + 1, 3, none⟩ = some (.bool vn) ∧ W'.cell? ⟨g + 1, 4, none⟩ = some (.int .i64 vi) ∧ W'.cell? ⟨g + 1, 5, none⟩ = some (.string ⟨vt.toArray⟩) ∧ W'.cell? ⟨g + 1, 6, none⟩ = some (.int .i64 hkd) ∧ W'.cell? ⟨g + 1, 7, none⟩ = some (.string ⟨hp.toArray⟩) ∧ W'.cell? ⟨g + 1, 8, none⟩ = some (.slice A n c))) (by kernel_rfl) (by exact ⟨r0, r1, b0, b1, b2, b3, b4, b5, b6, b7, b8⟩) (fun hHeld => ?_)
        refine wpAnyH_take (i := 0) (oi := ⟨some 9, _, _, _, _, none⟩) (v := ?v1) rfl (by kernel_rfl) (by kernel_rfl) (by kernel_rfl) (fun _ _ _ h => h) (Or.inl ⟨by rfl, ?hy1⟩) (by assumption) ?rest1
        case hy1 => (intro wS hSw; (try dsimp only at hSw); go_simp; (try with_reducible rfl))
        (try simp only [Act.put, zA, zB, zC])
        refine wpAnyH_take (i := 1) (oi := ⟨some 10, _, _, _, _, none⟩) (v := ?v2) rfl (by kernel_rfl) (by kernel_rfl) (by kernel_rfl) (fun _ _ _ h => h) (Or.inl ⟨by rfl, ?hy2⟩) (by assumption) ?rest2
        case hy2 => (intro wS hSw; (try dsimp only at hSw); go_simp; (try with_reducible rfl))
        (try simp only [Act.put, zA, zB, zC])
        refine wpAnyH_take (i := 2) (oi := ⟨some 11, _, _, _, _, none⟩) (v := ?v3) rfl (by kernel_rfl) (by kernel_rfl) (by kernel_rfl) (fun _ _ _ h => h) (Or.inl ⟨by rfl, ?hy3⟩) (by assumption) ?rest3
        case hy3 => (intro wS hSw; (try dsimp only at hSw); go_simp; (try with_reducible rfl))
        (try simp only [Act.put, zA, zB, zC])
        refine wpAnyH_take (i := 4) (oi := ⟨some 13, _, _, _, _, none⟩) (v := ?v4) rfl (by kernel_rfl) (by kernel_rfl) (by kernel_rfl) (fun _ _ _ h => h) (Or.inl ⟨by rfl, ?hy4⟩) (by assumption) ?rest4
        case hy4 => (intro wS hSw; (try dsimp only at hSw); go_simp; (try with_reducible rfl))
        (try simp only [Act.put, zA, zB, zC])
        refine wpAnyH_take (i := 5) (oi := ⟨some 14, _, _, _, _, none⟩) (v := ?v5) rfl (by kernel_rfl) (by kernel_rfl) (by kernel_rfl) (fun _ _ _ h => h) (Or.inl ⟨by rfl, ?hy5⟩) (by assumption) ?rest5
        case hy5 => (intro wS hSw; (try dsimp only at hSw); go_simp; (try with_reducible rfl))
        (try simp only [Act.put, zA, zB, zC])
        refine wpAnyH_take (i := 6) (oi := ⟨some 15, _, _, _, _, none⟩) (v := ?v6) rfl (by kernel_rfl) (by kernel_rfl) (by kernel_rfl) (fun _ _ _ h => h) (Or.inl ⟨by rfl, ?hy6⟩) (by assumption) ?rest6
        case hy6 => (intro wS hSw; (try dsimp only at hSw); go_simp; (try with_reducible rfl))
        (try simp only [Act.put, zA, zB, zC])
        refine wpAnyH_take (i := 7) (oi := ⟨some 16, _, _, _, _, none⟩) (v := ?v7) rfl (by kernel_rfl) (by kernel_rfl) (by kernel_rfl) (fun _ _ _ h => h) (Or.inl ⟨by rfl, ?hy7⟩) (by assumption) ?rest7
        case hy7 => (intro wS hSw; (try dsimp only at hSw); go_simp; (try with_reducible rfl))
        (try simp only [Act.put, zA, zB, zC])
        refine wpAnyH_take (i := 9) (oi := ⟨some 18, _, _, _, _, none⟩) (v := ?v8) rfl (by kernel_rfl) (by kernel_rfl) (by kernel_rfl) (fun _ _ _ h => h) (Or.inl ⟨by rfl, ?hy8⟩) (by assumption) ?rest8
        case hy8 => (intro wS hSw; (try dsimp only at hSw); go_simp; (try with_reducible rfl))
        (try simp only [Act.put, zA, zB, zC])
        refine wpAnyH_take (i := 10) (oi := ⟨some 19, _, _, _, _, none⟩) (v := ?v9) rfl (by kernel_rfl) (by kernel_rfl) (by kernel_rfl) (fun _ _ _ h => h) (Or.inl ⟨by rfl, ?hy9⟩) (by assumption) ?rest9
        case hy9 => (intro wS hSw; (try dsimp only at hSw); go_simp; (try with_reducible rfl))
        (try simp only [Act.put, zA, zB, zC])
        refine wpAnyH_ready (rs := [3]) (by kernel_rfl) (by simp) ?_
        refine AllReadyH.cons (o := ⟨some 12, _, _, _, _, none⟩) rfl (fun K hK => ?_) AllReadyH.nil
        go_simp
        go_at_call 93
        refine (HVa.out _ Fd.out).mono ?_
        rintro e w4 ⟨rfl, f4⟩
        have RB4 := Lib.hid (RBd.out.fr f4 (fun e => e))
        have PB4 := Lib.hid (PBd.out.fr f4 (fun e => e))
        have F4 := Lib.hid (Fd.out.trans f4)
        clear r0 r1 b0 b1 b2 b3 b4 b5 b6 b7 b8 f4
        have r0 := RB4.out.cell 0
        have r1 := RB4.out.cell 1
        simp at r0 r1
        obtain ⟨b0, b1, b2, b3, b4, b5, b6, b7, b8⟩ := pdB_cells PB4.out
        dsimp only at b0 b1 b2 b3 b4 b5 b6 b7 b8
        go_wp2_with fail
        refine hK.out _ _ (by exact ⟨r0, r1, b0, b1, b2, b3, b4, b5, b6, b7, b8⟩) (fun hHeld => ?_)
        clear hK K
        (try simp only [Act.put, zA, zB, zC])
        refine wpAnyH_ready (rs := [8]) (by kernel_rfl) (by simp) ?_
        refine AllReadyH.cons (o := ⟨some 17, _, _, _, _, none⟩) rfl (fun K hK => ?_) AllReadyH.nil
        go_simp
        go_at_call 94
        refine (HTo.out _).mono ?_
        rintro e w5 ⟨rfl, f5⟩
        have RB5 := Lib.hid (RB4.out.fr f5 (fun e => e))
        have PB5 := Lib.hid (PB4.out.fr f5 (fun e => e))
        have F5 := Lib.hid (F4.out.trans f5)
        clear r0 r1 b0 b1 b2 b3 b4 b5 b6 b7 b8 f5
        have r0 := RB5.out.cell 0
        have r1 := RB5.out.cell 1
        simp at r0 r1
        obtain ⟨b0, b1, b2, b3, b4, b5, b6, b7, b8⟩ := pdB_cells PB5.out
        dsimp only at b0 b1 b2 b3 b4 b5 b6 b7 b8
        go_wp2_with fail
        refine hK.out _ _ (by exact ⟨r0, r1, b0, b1, b2, b3, b4, b5, b6, b7, b8⟩) (fun hHeld => ?_)
        clear hK K
        (try simp only [Act.put, zA, zB, zC])
        refine wpAnyH_ready (rs := [11]) (by kernel_rfl) (by simp) ?_
        refine AllReadyH.cons (o := ⟨some 20, _, _, _, _, none⟩) rfl (fun K hK => ?_) AllReadyH.nil
        go_simp
        go_at_call 92
        refine (HCo.out _).mono ?_
        rintro e w6 ⟨rfl, f6⟩
        have RB6 := Lib.hid (RB5.out.fr f6 (fun e => e))
        have PB6 := Lib.hid (PB5.out.fr f6 (fun e => e))
        have F6 := Lib.hid (F5.out.trans f6)
        clear r0 r1 b0 b1 b2 b3 b4 b5 b6 b7 b8 f6
        have r0 := RB6.out.cell 0
        have r1 := RB6.out.cell 1
        simp at r0 r1
        obtain ⟨b0, b1, b2, b3, b4, b5, b6, b7, b8⟩ := pdB_cells PB6.out
        dsimp only at b0 b1 b2 b3 b4 b5 b6 b7 b8
        go_wp2_with fail
        refine hK.out _ _ (by exact ⟨r0, r1, b0, b1, b2, b3, b4, b5, b6, b7, b8⟩) (fun hHeld => ?_)
        clear hK K
        (try simp only [Act.put, zA, zB, zC])
        refine wpAnyH_take (i := 12) (oi := ⟨some 4, _, _, _, _, none⟩) (v := ?v10) rfl (by kernel_rfl) (by kernel_rfl) (by kernel_rfl) (fun _ _ _ h => h) (Or.inl ⟨by rfl, ?hy10⟩) (by assumption) ?rest10
        case hy10 => (intro wS hSw; (try dsimp only at hSw); go_simp; (try with_reducible rfl))
        (try simp only [Act.put, zA, zB, zC])
        refine wpAnyH_done (by kernel_rfl) ?_ _
        go_wp2
        go_ret
        exact ⟨ret_int HE.out.symm, F6.out⟩
      · have HE : Hid (r = yesI row[k].null) := Lib.hid (by rw [HE0.out, truH_3 ho, hcell])
        have HTo := Lib.hid (fun b W => etold_any b W)
        clear HE0 IH HV HC HK hok hty h0 hpl hr hcell hq2 hq4 hf hne ha
        cases hnu : row[k].null
        · rw [hnu] at HE
          have q1 := fun W u x => not_nil W u x
          obtain ⟨u, x, hux⟩ := an_iface hmay hnu
          rw [hux] at HVa
          clear hmay hnu
          obtain ⟨ho_, hc, hm, ⟨vn, vi, vt⟩, hkd, hp⟩ := hd
          obtain ⟨A, n, c⟩ := t
          dsimp only at ho hn HVa
          clear hn
          subst ho
          unfold recW at F0 RB PB
          unfold recV pdV at *
          unfold pdC kidV at *
          dsimp only at *
          generalize hg : w.heap.size = g at *
          have r0 := RB.out.cell 0
          have r1 := RB.out.cell 1
          simp at r0 r1
          obtain ⟨b0, b1, b2, b3, b4, b5, b6, b7, b8⟩ := pdB_cells PB.out
          dsimp only at b0 b1 b2 b3 b4 b5 b6 b7 b8
          go_enter Tryz.func66, Tryz.ntmps66
          go_wp2_with fail
          refine (HVa.out _ F0.out).mono ?_
          rintro e w4 ⟨rfl, f4⟩
          have F4 := Lib.hid (F0.out.trans f4)
          clear r0 r1 b0 b1 b2 b3 b4 b5 b6 b7 b8 f4
          go_wp2_with fail
          refine (HTo.out _ _).mono ?_
          rintro e w5 ⟨rfl, rfl⟩
          go_wp2
          go_ret
          exact ⟨ret_int HE.out.symm, F4.out⟩
        · rw [hnu] at HE
          have q1 := fun W => nil_nil W
          rw [toA_null hnu] at HVa
          simp only [anV] at HVa
          clear hmay hnu
          obtain ⟨ho_, hc, hm, ⟨vn, vi, vt⟩, hkd, hp⟩ := hd
          obtain ⟨A, n, c⟩ := t
          dsimp only at ho hn HVa
          clear hn
          subst ho
          unfold recW at F0 RB PB
          unfold recV pdV at *
          unfold pdC kidV at *
          dsimp only at *
          generalize hg : w.heap.size = g at *
          have r0 := RB.out.cell 0
          have r1 := RB.out.cell 1
          simp at r0 r1
          obtain ⟨b0, b1, b2, b3, b4, b5, b6, b7, b8⟩ := pdB_cells PB.out
          dsimp only at b0 b1 b2 b3 b4 b5 b6 b7 b8
          go_enter Tryz.func66, Tryz.ntmps66
          go_wp2_with fail
          refine (HVa.out _ F0.out).mono ?_
          rintro e w4 ⟨rfl, f4⟩
          have F4 := Lib.hid (F0.out.trans f4)
          clear r0 r1 b0 b1 b2 b3 b4 b5 b6 b7 b8 f4
          go_wp2_with fail
          refine (HTo.out _ _).mono ?_
          rintro e w5 ⟨rfl, rfl⟩
          go_wp2
          go_ret
          exact ⟨ret_int HE.out.symm, F4.out⟩
      · have hkt := hq4 ho
        have HE : Hid (r = likR row[k] hd.pat) := Lib.hid (by rw [HE0.out, truH_4 ho, hcell])
        rw [hkt] at hmay HVa
        have HLi := Lib.hid (fun W => eliked_any cols[k].nl row[k] hd.pat W hmay (by omega))
        clear HE0 IH HV HC HK hok hty h0 hpl hr hcell hmay hq2 hq4 hkt hf hne ha
        generalize likR row[k] hd.pat = z at *
        generalize anV (toA 3 row[k]) = x1 at *
        obtain ⟨ho_, hc, hm, ⟨vn, vi, vt⟩, hkd, hp⟩ := hd
        obtain ⟨A, n, c⟩ := t
        dsimp only at ho hn HLi HVa
        clear hn
        subst ho
        unfold recW at F0 RB PB
        unfold recV pdV at *
        unfold pdC kidV at *
        dsimp only at *
        generalize hg : w.heap.size = g at *
        have r0 := RB.out.cell 0
        have r1 := RB.out.cell 1
        simp at r0 r1
        obtain ⟨b0, b1, b2, b3, b4, b5, b6, b7, b8⟩ := pdB_cells PB.out
        dsimp only at b0 b1 b2 b3 b4 b5 b6 b7 b8
        go_enter Tryz.func66, Tryz.ntmps66
        go_wp2
        have RBd := Lib.hid RB.out.drew
        have PBd := Lib.hid PB.out.drew
        have Fd := Lib.hid F0.out.drew
        refine wp_region_held_drew (S := (fun W' => W'.cell? ⟨g, 0, none⟩ = some (.slice A1 cols.length c1) ∧ W'.cell? ⟨g, 1, none⟩ = some (.slice A2 row.length c2) ∧ W'.cell? ⟨g + 1, 0, none⟩ = some (.int .i64 4) ∧ W'.cell? ⟨g + 1, 1, none⟩ = some (.string ⟨hc.toArray⟩) ∧ W'.cell? ⟨g + 1, 2, none⟩ = some (.int .i64 hm) ∧ W'.cell? ⟨g + 1, 3, none⟩ = some (.bool vn) ∧ W'.cell? ⟨g + 1, 4, none⟩ = some (.int .i64 vi) ∧ W'.cell? ⟨g + 1, 5, none⟩ = some (.string ⟨vt.toArray⟩) ∧ W'.cell? ⟨g + 1, 6, none⟩ = some (.int .i64 hkd) ∧ W'.cell? ⟨g + 1, 7, none⟩ = some (.string ⟨hp.toArray⟩) ∧ W'.cell? ⟨g + 1, 8, none⟩ = some (.slice A n c))) (by kernel_rfl) (by exact ⟨r0, r1, b0, b1, b2, b3, b4, b5, b6, b7, b8⟩) (fun hHeld => ?_)
        refine wpAnyH_take (i := 0) (oi := ⟨some 31, _, _, _, _, none⟩) (v := ?v11) rfl (by kernel_rfl) (by kernel_rfl) (by kernel_rfl) (fun _ _ _ h => h) (Or.inl ⟨by rfl, ?hy11⟩) (by assumption) ?rest11
        case hy11 => (intro wS hSw; (try dsimp only at hSw); go_simp; (try with_reducible rfl))
        (try simp only [Act.put, zA, zB, zC])
        refine wpAnyH_take (i := 1) (oi := ⟨some 32, _, _, _, _, none⟩) (v := ?v12) rfl (by kernel_rfl) (by kernel_rfl) (by kernel_rfl) (fun _ _ _ h => h) (Or.inl ⟨by rfl, ?hy12⟩) (by assumption) ?rest12
        case hy12 => (intro wS hSw; (try dsimp only at hSw); go_simp; (try with_reducible rfl))
        (try simp only [Act.put, zA, zB, zC])
        refine wpAnyH_take (i := 2) (oi := ⟨some 33, _, _, _, _, none⟩) (v := ?v13) rfl (by kernel_rfl) (by kernel_rfl) (by kernel_rfl) (fun _ _ _ h => h) (Or.inl ⟨by rfl, ?hy13⟩) (by assumption) ?rest13
        case hy13 => (intro wS hSw; (try dsimp only at hSw); go_simp; (try with_reducible rfl))
        (try simp only [Act.put, zA, zB, zC])
        refine wpAnyH_take (i := 4) (oi := ⟨some 35, _, _, _, _, none⟩) (v := ?v14) rfl (by kernel_rfl) (by kernel_rfl) (by kernel_rfl) (fun _ _ _ h => h) (Or.inl ⟨by rfl, ?hy14⟩) (by assumption) ?rest14
        case hy14 => (intro wS hSw; (try dsimp only at hSw); go_simp; (try with_reducible rfl))
        (try simp only [Act.put, zA, zB, zC])
        refine wpAnyH_take (i := 5) (oi := ⟨some 36, _, _, _, _, none⟩) (v := ?v15) rfl (by kernel_rfl) (by kernel_rfl) (by kernel_rfl) (fun _ _ _ h => h) (Or.inl ⟨by rfl, ?hy15⟩) (by assumption) ?rest15
        case hy15 => (intro wS hSw; (try dsimp only at hSw); go_simp; (try with_reducible rfl))
        (try simp only [Act.put, zA, zB, zC])
        refine wpAnyH_ready (rs := [3]) (by kernel_rfl) (by simp) ?_
        refine AllReadyH.cons (o := ⟨some 34, _, _, _, _, none⟩) rfl (fun K hK => ?_) AllReadyH.nil
        go_simp
        go_at_call 93
        refine (HVa.out _ Fd.out).mono ?_
        rintro e w4 ⟨rfl, f4⟩
        have RB4 := Lib.hid (RBd.out.fr f4 (fun e => e))
        have PB4 := Lib.hid (PBd.out.fr f4 (fun e => e))
        have F4 := Lib.hid (Fd.out.trans f4)
        clear r0 r1 b0 b1 b2 b3 b4 b5 b6 b7 b8 f4
        have r0 := RB4.out.cell 0
        have r1 := RB4.out.cell 1
        simp at r0 r1
        obtain ⟨b0, b1, b2, b3, b4, b5, b6, b7, b8⟩ := pdB_cells PB4.out
        dsimp only at b0 b1 b2 b3 b4 b5 b6 b7 b8
        go_wp2_with fail
        refine hK.out _ _ (by exact ⟨r0, r1, b0, b1, b2, b3, b4, b5, b6, b7, b8⟩) (fun hHeld => ?_)
        clear hK K
        (try simp only [Act.put, zA, zB, zC])
        refine wpAnyH_ready (rs := [6]) (by kernel_rfl) (by simp) ?_
        refine AllReadyH.cons (o := ⟨some 37, _, _, _, _, none⟩) rfl (fun K hK => ?_) AllReadyH.nil
        go_simp
        go_at_call 96
        refine (HLi.out _).mono ?_
        rintro e w5 ⟨rfl, f5⟩
        have RB5 := Lib.hid (RB4.out.fr f5 (fun e => e))
        have PB5 := Lib.hid (PB4.out.fr f5 (fun e => e))
        have F5 := Lib.hid (F4.out.trans f5)
        clear r0 r1 b0 b1 b2 b3 b4 b5 b6 b7 b8 f5
        have r0 := RB5.out.cell 0
        have r1 := RB5.out.cell 1
        simp at r0 r1
        obtain ⟨b0, b1, b2, b3, b4, b5, b6, b7, b8⟩ := pdB_cells PB5.out
        dsimp only at b0 b1 b2 b3 b4 b5 b6 b7 b8
        go_wp2_with fail
        refine hK.out _ _ (by exact ⟨r0, r1, b0, b1, b2, b3, b4, b5, b6, b7, b8⟩) (fun hHeld => ?_)
        clear hK K
        (try simp only [Act.put, zA, zB, zC])
        refine wpAnyH_take (i := 7) (oi := ⟨some 4, _, _, _, _, none⟩) (v := ?v16) rfl (by kernel_rfl) (by kernel_rfl) (by kernel_rfl) (fun _ _ _ h => h) (Or.inl ⟨by rfl, ?hy16⟩) (by assumption) ?rest16
        case hy16 => (intro wS hSw; (try dsimp only at hSw); go_simp; (try with_reducible rfl))
        (try simp only [Act.put, zA, zB, zC])
        refine wpAnyH_done (by kernel_rfl) ?_ _
        go_wp2
        go_ret
        exact ⟨ret_int HE.out.symm, F5.out⟩
    · have hk1 : 0 < ks.length := by omega
      obtain ⟨a, t', hA, hc2, hkk, _⟩ := HK.out.elN F0.out.drew 0 hk1
      have HT : Hid (∀ W, Fr Non w W → Calls Tryz.prog 66 #[recV (.slice A1 cols.length c1) (.slice A2 row.length c2), pdV ks[0].hd t'] W fun e w' => e = .returned (.int .i64 (truP cols row ks[0])) ∧ Fr Non W w') :=
        Lib.hid (fun W hf => IH.out 0 hk1 W t' (HV.out.non hf) (HC.out.non hf) (hkk.non hf))
      have HNo := Lib.hid (fun z W => enot_any z W)
      have HE : Hid (r = notI (truP cols row ks[0])) := Lib.hid (by
        rw [HE0.out, truH_5 ho]
        cases ks with
        | nil => simp at hk1
        | cons x l => rfl)
      clear HE0 IH HV HC HK hok hty hpl hr hkk
      generalize truP cols row ks[0] = z at *
      generalize ks[0].hd = x at *
      obtain ⟨ho_, hc, hm, ⟨vn, vi, vt⟩, hkd, hp⟩ := hd
      obtain ⟨A, n, c⟩ := t
      obtain ⟨xo, xc, xm, ⟨xn, xi, xt⟩, xk, xp⟩ := x
      obtain ⟨tA, tn, tc⟩ := t'
      dsimp only at ho hn hA
      subst hA
      subst ho
      obtain ⟨k0, k1, k2, k3, k4, k5, k6, k7, k8⟩ := hc2
      simp only [Nat.zero_mul] at k0 k1 k2 k3 k4 k5 k6 k7 k8
      have hn1 : 0 < n := by omega
      clear hn h0 hk1
      unfold recW at F0 RB PB k0 k1 k2 k3 k4 k5 k6 k7 k8
      unfold recV pdV at *
      unfold pdC kidV at *
      dsimp only at *
      generalize hg : w.heap.size = g at *
      have r0 := RB.out.cell 0
      have r1 := RB.out.cell 1
      simp at r0 r1
      obtain ⟨b0, b1, b2, b3, b4, b5, b6, b7, b8⟩ := pdB_cells PB.out
      dsimp only at b0 b1 b2 b3 b4 b5 b6 b7 b8
      go_enter Tryz.func66, Tryz.ntmps66
      go_wp2
      have RBd := Lib.hid RB.out.drew
      have PBd := Lib.hid PB.out.drew
      have Fd := Lib.hid F0.out.drew
      refine wp_region_held_drew (S := (fun W' => W'.cell? ⟨g, 0, none⟩ = some (.slice A1 cols.length c1) ∧ W'.cell? ⟨g, 1, none⟩ = some (.slice A2 row.length c2) ∧ W'.cell? ⟨g + 1, 0, none⟩ = some (.int .i64 5) ∧ W'.cell? ⟨g + 1, 1, none⟩ = some (.string ⟨hc.toArray⟩) ∧ W'.cell? ⟨g + 1, 2, none⟩ = some (.int .i64 hm) ∧ W'.cell? ⟨g + 1, 3, none⟩ = some (.bool vn) ∧ W'.cell? ⟨g + 1, 4, none⟩ = some (.int .i64 vi) ∧ W'.cell? ⟨g + 1, 5, none⟩ = some (.string ⟨vt.toArray⟩) ∧ W'.cell? ⟨g + 1, 6, none⟩ = some (.int .i64 hkd) ∧ W'.cell? ⟨g + 1, 7, none⟩ = some (.string ⟨hp.toArray⟩) ∧ W'.cell? ⟨g + 1, 8, none⟩ = some (.slice (some a) n c) ∧ W'.cell? a = some (.int .i64 xo) ∧ W'.cell? { block := a.block, off := a.off + 1 } = some (.string ⟨xc.toArray⟩) ∧ W'.cell? { block := a.block, off := a.off + 2 } = some (.int .i64 xm) ∧ W'.cell? { block := a.block, off := a.off + 3 } = some (.bool xn) ∧ W'.cell? { block := a.block, off := a.off + 4 } = some (.int .i64 xi) ∧ W'.cell? { block := a.block, off := a.off + 5 } = some (.string ⟨xt.toArray⟩) ∧ W'.cell? { block := a.block, off := a.off + 6 } = some (.int .i64 xk) ∧ W'.cell? { block := a.block, off := a.off + 7 } = some (.string ⟨xp.toArray⟩) ∧ W'.cell? { block := a.block, off := a.off + 8 } = some (.slice tA tn tc))) (by kernel_rfl) (by exact ⟨r0, r1, b0, b1, b2, b3, b4, b5, b6, b7, b8, k0, k1, k2, k3, k4, k5, k6, k7, k8⟩) (fun hHeld => ?_)
      refine wpAnyH_take (i := 0) (oi := ⟨some 40, _, _, _, _, none⟩) (v := ?v17) rfl (by kernel_rfl) (by kernel_rfl) (by kernel_rfl) (fun _ _ _ h => h) (Or.inl ⟨by rfl, ?hy17⟩) (by assumption) ?rest17
      case hy17 => (intro wS hSw; (try dsimp only at hSw); go_simp; (try with_reducible rfl))
      (try simp only [Act.put, zA, zB, zC])
      refine wpAnyH_take (i := 1) (oi := ⟨some 41, _, _, _, _, none⟩) (v := ?v18) rfl (by kernel_rfl) (by kernel_rfl) (by kernel_rfl) (fun _ _ _ h => h) (Or.inl ⟨by rfl, ?hy18⟩) (by assumption) ?rest18
      case hy18 => (intro wS hSw; (try dsimp only at hSw); go_simp; (try with_reducible rfl))
      (try simp only [Act.put, zA, zB, zC])
      refine wpAnyH_take (i := 2) (oi := ⟨some 42, _, _, _, _, none⟩) (v := ?v19) rfl (by kernel_rfl) (by kernel_rfl) (by kernel_rfl) (fun _ _ _ h => h) (Or.inl ⟨by rfl, ?hy19⟩) (by assumption) ?rest19
      case hy19 => (intro wS hSw; (try dsimp only at hSw); go_simp; (try with_reducible rfl))
      (try simp only [Act.put, zA, zB, zC])
      refine wpAnyH_take (i := 3) (oi := ⟨some 43, _, _, _, _, none⟩) (v := ?v20) rfl (by kernel_rfl) (by kernel_rfl) (by kernel_rfl) (fun _ _ _ h => h) (Or.inl ⟨by rfl, ?hy20⟩) (by assumption) ?rest20
      case hy20 => (intro wS hSw; (try dsimp only at hSw); go_simp; (try with_reducible rfl))
      (try simp only [Act.put, zA, zB, zC])
      refine wpAnyH_take (i := 4) (oi := ⟨some 44, _, _, _, _, none⟩) (v := ?v21) rfl (by kernel_rfl) (by kernel_rfl) (by kernel_rfl) (fun _ _ _ h => h) (Or.inl ⟨by rfl, ?hy21⟩) (by assumption) ?rest21
      case hy21 => (intro wS hSw; (try dsimp only at hSw); go_simp; (try with_reducible rfl))
      (try simp only [Act.put, zA, zB, zC])
      refine wpAnyH_ready (rs := [5]) (by kernel_rfl) (by simp) ?_
      refine AllReadyH.cons (o := ⟨some 45, _, _, _, _, none⟩) rfl (fun K hK => ?_) AllReadyH.nil
      go_simp
      go_at_call 66
      refine (HT.out _ Fd.out).mono ?_
      rintro e w4 ⟨rfl, f4⟩
      have RB4 := Lib.hid (RBd.out.fr f4 (fun e => e))
      have PB4 := Lib.hid (PBd.out.fr f4 (fun e => e))
      have F4 := Lib.hid (Fd.out.trans f4)
      clear r0 r1 b0 b1 b2 b3 b4 b5 b6 b7 b8
      have r0 := RB4.out.cell 0
      have r1 := RB4.out.cell 1
      simp at r0 r1
      obtain ⟨b0, b1, b2, b3, b4, b5, b6, b7, b8⟩ := pdB_cells PB4.out
      dsimp only at b0 b1 b2 b3 b4 b5 b6 b7 b8
      replace k0 := (f4.cell (World.block_lt_of_cell? _ _ k0) (fun e => e)).trans k0
      replace k1 := (f4.cell (World.block_lt_of_cell? _ _ k1) (fun e => e)).trans k1
      replace k2 := (f4.cell (World.block_lt_of_cell? _ _ k2) (fun e => e)).trans k2
      replace k3 := (f4.cell (World.block_lt_of_cell? _ _ k3) (fun e => e)).trans k3
      replace k4 := (f4.cell (World.block_lt_of_cell? _ _ k4) (fun e => e)).trans k4
      replace k5 := (f4.cell (World.block_lt_of_cell? _ _ k5) (fun e => e)).trans k5
      replace k6 := (f4.cell (World.block_lt_of_cell? _ _ k6) (fun e => e)).trans k6
      replace k7 := (f4.cell (World.block_lt_of_cell? _ _ k7) (fun e => e)).trans k7
      replace k8 := (f4.cell (World.block_lt_of_cell? _ _ k8) (fun e => e)).trans k8
      clear f4
      go_wp2_with fail
      refine hK.out _ _ (by exact ⟨r0, r1, b0, b1, b2, b3, b4, b5, b6, b7, b8, k0, k1, k2, k3, k4, k5, k6, k7, k8⟩) (fun hHeld => ?_)
      clear hK K
      (try simp only [Act.put, zA, zB, zC])
      refine wpAnyH_ready (rs := [6]) (by kernel_rfl) (by simp) ?_
      refine AllReadyH.cons (o := ⟨some 46, _, _, _, _, none⟩) rfl (fun K hK => ?_) AllReadyH.nil
      go_simp
      go_at_call 97
      refine (HNo.out _ _).mono ?_
      rintro e w5 ⟨rfl, rfl⟩
      go_wp2_with fail
      refine hK.out _ _ (by exact ⟨r0, r1, b0, b1, b2, b3, b4, b5, b6, b7, b8, k0, k1, k2, k3, k4, k5, k6, k7, k8⟩) (fun hHeld => ?_)
      clear hK K
      (try simp only [Act.put, zA, zB, zC])
      refine wpAnyH_take (i := 7) (oi := ⟨some 4, _, _, _, _, none⟩) (v := ?v22) rfl (by kernel_rfl) (by kernel_rfl) (by kernel_rfl) (fun _ _ _ h => h) (Or.inl ⟨by rfl, ?hy22⟩) (by assumption) ?rest22
      case hy22 => (intro wS hSw; (try dsimp only at hSw); go_simp; (try with_reducible rfl))
      (try simp only [Act.put, zA, zB, zC])
      refine wpAnyH_done (by kernel_rfl) ?_ _
      go_wp2
      go_ret
      exact ⟨ret_int HE.out.symm, F4.out⟩
    · rcases ho with ho | ho
      · have HE : Hid (r = chnI 0 1 (ks.map (truP cols row))) := Lib.hid (by rw [HE0.out, truH_6 ho])
        have HCh : Hid (∀ W, Fr Non w W → Calls Tryz.prog 98 #[recV (.slice A1 cols.length c1) (.slice A2 row.length c2), kidV t, .int .i64 0, .int .i64 1] W fun e w' => e = .returned (.int .i64 (chnI 0 1 (ks.map (truP cols row)))) ∧ Fr Non W w') :=
          Lib.hid (fun W hf => echain_of _ _ cols row ks 0 1 t W (HV.out.non hf) (HC.out.non hf) (HK.out.non hf) hl IH)
        clear HE0 IH HV HC HK hok hty hpl hr h0 hl
        generalize chnI 0 1 (ks.map (truP cols row)) = z at *
        obtain ⟨ho_, hc, hm, ⟨vn, vi, vt⟩, hkd, hp⟩ := hd
        obtain ⟨A, n, c⟩ := t
        dsimp only at ho hn
        clear hn
        subst ho
        unfold recW at F0 RB PB
        unfold recV pdV at *
        unfold pdC kidV at *
        dsimp only at *
        generalize hg : w.heap.size = g at *
        have r0 := RB.out.cell 0
        have r1 := RB.out.cell 1
        simp at r0 r1
        obtain ⟨b0, b1, b2, b3, b4, b5, b6, b7, b8⟩ := pdB_cells PB.out
        dsimp only at b0 b1 b2 b3 b4 b5 b6 b7 b8
        go_enter Tryz.func66, Tryz.ntmps66
        go_wp2_with fail
        refine (HCh.out _ F0.out).mono ?_
        rintro e w4 ⟨rfl, f4⟩
        have F4 := Lib.hid (F0.out.trans f4)
        clear r0 r1 b0 b1 b2 b3 b4 b5 b6 b7 b8 f4
        go_wp2
        go_ret
        exact ⟨ret_int HE.out.symm, F4.out⟩
      · have HE : Hid (r = chnI 1 0 (ks.map (truP cols row))) := Lib.hid (by rw [HE0.out, truH_7 ho])
        have HCh : Hid (∀ W, Fr Non w W → Calls Tryz.prog 98 #[recV (.slice A1 cols.length c1) (.slice A2 row.length c2), kidV t, .int .i64 1, .int .i64 0] W fun e w' => e = .returned (.int .i64 (chnI 1 0 (ks.map (truP cols row)))) ∧ Fr Non W w') :=
          Lib.hid (fun W hf => echain_of _ _ cols row ks 1 0 t W (HV.out.non hf) (HC.out.non hf) (HK.out.non hf) hl IH)
        clear HE0 IH HV HC HK hok hty hpl hr h0 hl
        generalize chnI 1 0 (ks.map (truP cols row)) = z at *
        obtain ⟨ho_, hc, hm, ⟨vn, vi, vt⟩, hkd, hp⟩ := hd
        obtain ⟨A, n, c⟩ := t
        dsimp only at ho hn
        clear hn
        subst ho
        unfold recW at F0 RB PB
        unfold recV pdV at *
        unfold pdC kidV at *
        dsimp only at *
        generalize hg : w.heap.size = g at *
        have r0 := RB.out.cell 0
        have r1 := RB.out.cell 1
        simp at r0 r1
        obtain ⟨b0, b1, b2, b3, b4, b5, b6, b7, b8⟩ := pdB_cells PB.out
        dsimp only at b0 b1 b2 b3 b4 b5 b6 b7 b8
        go_enter Tryz.func66, Tryz.ntmps66
        go_wp2_with fail
        refine (HCh.out _ F0.out).mono ?_
        rintro e w4 ⟨rfl, f4⟩
        have F4 := Lib.hid (F0.out.trans f4)
        clear r0 r1 b0 b1 b2 b3 b4 b5 b6 b7 b8 f4
        go_wp2
        go_ret
        exact ⟨ret_int HE.out.symm, F4.out⟩
end Go.Proofs.YtjcfjjhhbcgcmaaGreat

namespace Go.Proofs.YtjcfjjhhbcgcmaaGreat
open Go.RowKit
def twoV (r : Int × Int) : Value := .tuple #[.int .i64 r.1, .int .i64 r.2]
theorem ret_twoV {r : Int × Int} {a b : Int} (h : r = (a, b)) : Ending.returned (.tuple #[.int .i64 a, .int .i64 b]) = Ending.returned (twoV r) := by rw [h]; rfl
def askE (cols : List Co) (p : Pd) (row : List Cl) : Int × Int := if rowB cols row = true then (truP cols row p, 0) else (0, 10)
theorem askE_yes {cols : List Co} {p : Pd} {row : List Cl} (h : rowB cols row = true) : askE cols p row = (truP cols row p, 0) := by unfold askE; rw [if_pos h]
theorem askE_no {cols : List Co} {p : Pd} {row : List Cl} (h : rowB cols row = false) : askE cols p row = (0, 10) := by unfold askE; rw [if_neg (by rw [h]; simp)]
set_option maxHeartbeats 2000000 in
theorem eask_any (v1 v2 : Value) (cols : List Co) (row : List Cl) (hcl : cols.length ≤ 1000) (h : Ph) (ks : List Pd) (t : Kv) (w : World) (h1 : Ks w v1 cols) (h2 : Cs w v2 row) (hk : Kd w t ks) (hbig : bigP (.mk h ks) = true) (hf : fitP cols (.mk h ks) = 0) :
    Calls Tryz.prog 40 #[v1, pdV h t, v2] w fun e w' => e = .returned (twoV (askE cols (.mk h ks) row)) ∧ Fr Non w w' := by
  obtain ⟨_, hone, htyp⟩ := fit_zero hf
  have F0 : Fr Non w (w.alloc (.cells (pdC h t) 28)) := (Fr.refl Non w).alloc _
  have PB := Lib.hid (pd_new w _ h t rfl)
  have HR := Lib.hid (fun W (hf2 : Fr Non w W) => srow_any v1 v2 cols row W (h1.non hf2) (h2.non hf2) (by omega))
  have HT : Hid (rowB cols row = true → ∀ W, Fr Non w W → Calls Tryz.prog 66 #[recV v1 v2, pdV h t] W fun e w' => e = .returned (.int .i64 (truP cols row (.mk h ks))) ∧ Fr Non W w') :=
    Lib.hid (fun hr W hf2 => etruth_any v1 v2 cols row hcl hr (.mk h ks) t W (h1.non hf2) (h2.non hf2) (hk.non hf2) hbig hone htyp)
  have HY := Lib.hid (fun e => askE_yes (cols := cols) (p := .mk h ks) (row := row) e)
  have HX := Lib.hid (fun e => askE_no (cols := cols) (p := .mk h ks) (row := row) e)
  obtain ⟨A1, c1, rfl⟩ := h1.shape
  obtain ⟨A2, c2, rfl⟩ := h2.shape
  generalize truP cols row (.mk h ks) = z at *
  generalize askE cols (.mk h ks) row = r at *
  clear hone htyp hk hbig hf h1 h2
  replace F0 := Lib.hid F0
  obtain ⟨ho, hc, hm, ⟨vn, vi, vt⟩, hkd, hp⟩ := h
  obtain ⟨A, n, c⟩ := t
  unfold recV pdV at *
  unfold pdC kidV at *
  dsimp only at *
  cases hb : rowB cols row
  · have HE := Lib.hid (HX.out hb)
    simp only [hb] at HR
    clear HX HY HT hb
    go_enter Tryz.func40, Tryz.ntmps40
    go_wp2_with fail
    refine (HR.out _ F0.out).mono ?_
    rintro e w1 ⟨rfl, f1⟩
    go_wp2
    go_ret2
    exact ⟨ret_twoV HE.out, F0.out.trans f1⟩
  · have HE := Lib.hid (HY.out hb)
    replace HT := Lib.hid (HT.out hb)
    simp only [hb] at HR
    clear HX HY hb
    go_enter Tryz.func40, Tryz.ntmps40
    go_wp2_with fail
    refine (HR.out _ F0.out).mono ?_
    rintro e w1 ⟨rfl, f1⟩
    obtain ⟨b0, b1, b2, b3, b4, b5, b6, b7, b8⟩ := pdB_cells (PB.out.fr f1 (fun e => e))
    dsimp only at b0 b1 b2 b3 b4 b5 b6 b7 b8
    have F1 := Lib.hid (F0.out.trans f1)
    clear f1
    go_wp2_with fail
    refine (HT.out _ F1.out).mono ?_
    rintro e w2 ⟨rfl, f2⟩
    go_wp2
    go_ret2
    exact ⟨ret_twoV HE.out, F1.out.trans f2⟩
def PlcR (w : World) (r : List Int × Int) (e : Ending) : Prop := ∃ u, e = .returned (.tuple #[u, .int .i64 r.2]) ∧ Vs iv w u r.1
theorem plcR_no {w : World} {r : List Int × Int} {z : Int} (h : r = ([], z)) : PlcR w r (.returned (.tuple #[.slice none 0 0, .int .i64 z])) := ⟨_, by rw [h], by rw [h]; exact Vs.nil_ w⟩
theorem plcR_yes {w : World} {r : List Int × Int} {l : List Int} {u : Value} (h : r = (l, 0)) (hu : Vs iv w u l) : PlcR w r (.returned (.tuple #[u, .int .i64 0])) := ⟨u, by rw [h], by rw [h]; exact hu⟩
set_option maxHeartbeats 4000000 in
theorem erows_any (v1 v2 : Value) (cols : List Co) (rows : List (List Cl)) (hcl : cols.length ≤ 1000) (hcb : ∀ c ∈ cols, c.name.length ≤ 1000) (h : Ph) (ks : List Pd) (t : Kv) (w : World) (h1 : Ks w v1 cols) (h2 : Rs w v2 rows) (hk : Kd w t ks) (hb : I64b h.val.num) (hbig : bigP (.mk h ks) = true) (hdep : depP (.mk h ks) ≤ 100) (hrl : rows.length ≤ 100000) :
    Calls Tryz.prog 22 #[v1, pdV h t, v2] w fun e w' => PlcR w' (rowsE cols (.mk h ks) rows) e ∧ Fr Non w w' := by
  have F0 : Fr Non w (w.alloc (.cells (pdC h t) 28)) := (Fr.refl Non w).alloc _
  have PB := Lib.hid (pd_new w _ h t rfl)
  have HF := Lib.hid (fun W (hf2 : Fr Non w W) => pfits_big cols hcl hcb v1 h t ks W (h1.non hf2) (hk.non hf2) hb hbig hdep)
  have HA : Hid (fitP cols (.mk h ks) = 0 → ∀ row v W, Fr Non w W → Cs W v row → Calls Tryz.prog 40 #[v1, pdV h t, v] W fun e w' => e = .returned (twoV (askE cols (.mk h ks) row)) ∧ Fr Non W w') :=
    Lib.hid (fun hf row v W hf2 hv => eask_any v1 v cols row hcl h ks t W (h1.non hf2) hv (hk.non hf2) hbig hf)
  have HX := Lib.hid (fun e => rowsE_bad (cols := cols) (p := .mk h ks) (rows := rows) e)
  have HX2 := Lib.hid (fun a (k : Nat) b c => rowsE_type (cols := cols) (p := .mk h ks) (rows := rows) (k := k) a b c)
  have HX3 := Lib.hid (fun a (k : Nat) b c => rowsE_ok (cols := cols) (p := .mk h ks) (rows := rows) (k := k) a b c)
  have HR : Hid (Rs w v2 rows) := Lib.hid h2
  obtain ⟨A1, c1, rfl⟩ := h1.shape
  obtain ⟨A2, c2, rfl⟩ := h2.shape
  generalize rowsE cols (.mk h ks) rows = r at *
  have HP1 := Lib.hid (fun (k : Nat) a b => plc_yes (cols := cols) (p := .mk h ks) (rows := rows) (n := k) a b)
  have HP2 := Lib.hid (fun (k : Nat) a b => plc_no (cols := cols) (p := .mk h ks) (rows := rows) (n := k) a b)
  have HP3 := Lib.hid (fun (k : Nat) => plcI_len cols (.mk h ks) rows k)
  have HP0 : Hid (plcI cols (.mk h ks) rows 0 = []) := Lib.hid rfl
  have HAY := Lib.hid (fun row a => askE_yes (cols := cols) (p := .mk h ks) (row := row) a)
  have HAN := Lib.hid (fun row a => askE_no (cols := cols) (p := .mk h ks) (row := row) a)
  generalize fitP cols (.mk h ks) = z at *
  generalize Pd.mk h ks = p at *
  clear hk hbig hdep hb h1 h2
  replace F0 := Lib.hid F0
  obtain ⟨ho, hc, hm, ⟨vn, vi, vt⟩, hkd, hp⟩ := h
  obtain ⟨A, n, c⟩ := t
  unfold pdV at *
  unfold pdC kidV at *
  dsimp only at *
  by_cases hz : z = 0
  · subst hz
    replace HA := Lib.hid (HA.out rfl)
    replace HX2 := Lib.hid (HX2.out rfl)
    replace HX3 := Lib.hid (HX3.out rfl)
    clear HX
    go_enter Tryz.func22, Tryz.ntmps22
    go_wp2_with fail
    refine (HF.out _ F0.out).mono ?_
    rintro e w1 ⟨rfl, f1⟩
    have PB1 := Lib.hid (PB.out.fr f1 (fun e => e))
    have F1 := Lib.hid (F0.out.trans f1)
    clear f1 HF
    go_wp2
    go_loopw [9, 22] (fun u i wr => ∃ k : Nat, k ≤ rows.length ∧ i = .int .i64 k ∧ Hid (Ow iv 3 wr w1.heap.size u (plcI cols p rows k)) ∧ Hid (∀ j (h : j < rows.length), j < k → rowB cols rows[j] = true) ∧ Hid (Fr Non w1 wr)) (fun _ i _ => rows.length - (intOf i).toNat)
    case atStart => exact ⟨0, Nat.zero_le _, rfl, Lib.hid (by rw [HP0.out]; exact ow_nil _ _), Lib.hid (fun _ _ h => by omega), Lib.hid (Fr.refl _ _)⟩
    case round =>
      rename_i u i wr
      obtain ⟨k, hk, rfl, HO, HT, FR⟩ := hrel
      have HFw := Lib.hid (F1.out.trans FR.out)
      obtain ⟨uA, uc, rfl⟩ := HO.out.shape
      by_cases hlt : k < rows.length
      · obtain ⟨a, A', c', rfl, -, q1, hc1⟩ := (HR.out.non HFw.out).el k hlt
        obtain ⟨b0, b1, b2, b3, b4, b5, b6, b7, b8⟩ := pdB_cells (PB1.out.fr FR.out (fun e => e))
        dsimp only at b0 b1 b2 b3 b4 b5 b6 b7 b8
        have HAk := Lib.hid (HA.out _ _ wr HFw.out hc1)
        have HXk := Lib.hid (HX2.out k hlt)
        have HYk := Lib.hid (fun e => rows_more (cols := cols) HT.out hlt e)
        have HPy := Lib.hid (HP1.out k hlt)
        have HPn := Lib.hid (HP2.out k hlt)
        have HAy := Lib.hid (HAY.out rows[k])
        have HAn := Lib.hid (HAN.out rows[k])
        have hpl := HP3.out k
        clear hc1 HT HX3 HX2 HA HP1 HP2 HAY HAN HP0 HP3
        generalize hrk : rows[k] = row at *
        generalize truP cols row p = y at *
        generalize askE cols p row = s at *
        cases hbb : rowB cols row
        · have HE := Lib.hid (HXk.out hbb)
          have hs := HAn.out hbb
          subst hs
          unfold twoV at HAk
          dsimp only at HAk
          clear HXk HYk HAy HAn hbb HPy HPn hpl hrk
          go_wp2_with fail
          refine HAk.out.mono ?_
          rintro e w2 ⟨rfl, f2⟩
          go_wp2
          go_ret2
          exact ⟨plcR_no HE.out, HFw.out.trans f2⟩
        · have HE := Lib.hid (HYk.out hbb)
          have hs := HAy.out hbb
          subst hs
          unfold twoV at HAk
          dsimp only at HAk
          have hB := FR.out.size
          clear HXk HYk HAy HAn hbb hrk
          by_cases hy : y = 1
          · subst hy
            have HPk := Lib.hid (HPy.out rfl)
            clear HPy HPn
            go_wp2_with fail
            refine HAk.out.mono ?_
            rintro e w2 ⟨rfl, f2⟩
            have F2 := Lib.hid (FR.out.trans f2)
            have hO2 := HO.out.non f2
            have hB2 : w1.heap.size ≤ w2.heap.size := Nat.le_trans hB f2.size
            clear f2 HAk
            generalize plcI cols p rows k = L at *
            go_wp2_with (at_builtin; refine wpList_pushG el_int iv_oneC rfl (.tmp 39) (.tmp 41) rfl w1.heap.size _ L rfl hO2 _ (k : Int) rfl rfl (by omega) hB2 ?_; intro v3 w3 hown3 hfr3)
            go_roundw
            case rel => exact ⟨k + 1, by omega, by go_num, Lib.hid (by rw [HPk.out]; exact hown3), HE, Lib.hid (F2.out.fresh hfr3 fun q hq => (hO2.lt q hq).1)⟩
            case measure => simp [intOf]; omega
          · have HPk := Lib.hid (HPn.out hy)
            have hb1 : (y == 1) = false := by rw [beq_eq_false_iff_ne]; exact hy
            clear HPy HPn hy
            go_wp2_with fail
            refine HAk.out.mono ?_
            rintro e w2 ⟨rfl, f2⟩
            go_wp2
            go_roundw
            case rel => exact ⟨k + 1, by omega, by go_num, Lib.hid (by rw [HPk.out]; exact HO.out.non f2), HE, Lib.hid (FR.out.trans f2)⟩
            case measure => simp [intOf]; omega
      · have HE := Lib.hid (HX3.out k (by omega) HT.out)
        have hkl : k = rows.length := by omega
        subst hkl
        clear HT
        go_wp2
        go_ret2
        exact ⟨plcR_yes HE.out HO.out.vs, HFw.out⟩
  · have HE := Lib.hid (HX.out hz)
    have hb : (z != 0) = true := by rw [bne_iff_ne]; exact hz
    clear HX HA hz HX2 HX3
    go_enter Tryz.func22, Tryz.ntmps22
    go_wp2_with fail
    refine (HF.out _ F0.out).mono ?_
    rintro e w1 ⟨rfl, f1⟩
    go_wp2
    go_ret2
    exact ⟨plcR_no HE.out, F0.out.trans f1⟩
end Go.Proofs.YtjcfjjhhbcgcmaaGreat

namespace Go.Proofs.YtjcfjjhhbcgcmaaGreat
open Go.RowKit
def doc20 (w : World) (h : Ph) (t : Kv) : World := (w.alloc (.cells (pdC h t) 28)).alloc (.cells #[.bool false, .int .i64 0, .string ⟨#[]⟩] 25)
theorem doc20_fr (w : World) (h : Ph) (t : Kv) : Fr Non w (doc20 w h t) := ((Fr.refl Non w).alloc _).alloc _
theorem doc20_pd (w : World) (h : Ph) (t : Kv) : PdB (doc20 w h t) w.heap.size h t := (pd_new w _ h t rfl).fr ((Fr.refl Non _).alloc _) (fun e => e)
theorem doc20_cl (w : World) (h : Ph) (t : Kv) : ClB (doc20 w h t) (w.heap.size + 1) ⟨false, 0, []⟩ := by
  have e := cl_new (w.alloc (.cells (pdC h t) 28)) ⟨false, 0, []⟩
  rw [show (w.alloc (.cells (pdC h t) 28)).heap.size = w.heap.size + 1 by simp] at e
  exact e
theorem addE0 (a : Addr) : a.add 0 = a := by
  obtain ⟨B, o, e⟩ := a
  cases e <;> rfl
set_option maxHeartbeats 8000000 in
theorem rtruth_any (v1 v2 : Value) (cols : List Co) (row : List Cl) (hcl : cols.length ≤ 1000) (hr : rowB cols row = true) (p : Pd) : ∀ (t : Kv) (w : World), Ks w v1 cols → Cs w v2 row → Kd w t p.kids → bigP p = true → oneP p = true → typP cols p = true →
    Calls Tryz.prog 27 #[v1, pdV p.hd t, v2] w fun e w' => e = .returned (.int .i64 (truP cols row p)) ∧ Fr Non w w' := by
  induction p using Pd.ind with
  | h hd ks ih =>
    intro t w h1 h2 hk hbig hone htyp
    dsimp only [Pd.hd, Pd.kids] at hk ⊢
    have hn : t.n = ks.length := hk.len
    obtain ⟨hl, _, hpl, _, hbk⟩ := bigP_mk hbig
    obtain ⟨hok, hok1⟩ := one_kids hone
    obtain ⟨hty, hty1⟩ := typ_kids htyp
    obtain ⟨A1, c1, rfl⟩ := h1.shape
    obtain ⟨A2, c2, rfl⟩ := h2.shape
    have F0 := Lib.hid (doc20_fr w hd t)
    have PB := Lib.hid (doc20_pd w hd t)
    have CB := Lib.hid (doc20_cl w hd t)
    have IH : Hid (∀ j (h : j < ks.length) (W : World) (t' : Kv), Ks W (.slice A1 cols.length c1) cols → Cs W (.slice A2 row.length c2) row → Kd W t' ks[j].kids → Calls Tryz.prog 27 #[.slice A1 cols.length c1, pdV ks[j].hd t', .slice A2 row.length c2] W fun e w' => e = .returned (.int .i64 (truP cols row ks[j])) ∧ Fr Non W w') :=
      Lib.hid (fun j h W t' a b c => ih _ (List.getElem_mem h) t' W a b c (hbk _ (List.getElem_mem h)) (hok1 _ (List.getElem_mem h)) (hty1 _ (List.getElem_mem h)))
    have HV : Hid (Ks w (.slice A1 cols.length c1) cols) := Lib.hid h1
    have HC := Lib.hid h2
    have HK : Hid (Kd w t ks) := Lib.hid hk
    have HE0 := Lib.hid (tru_is cols row hd ks)
    clear ih hk h1 h2 hbig hone htyp hok1 hty1 hbk
    generalize truP cols row (.mk hd ks) = r at *
    rcases hd_ways hok with ⟨ho, h0, hco⟩ | ⟨ho, h0, ha⟩ | ⟨ho, h0, hco⟩ | ⟨ho, h0, hco⟩
    · have HE : Hid (r = 1) := Lib.hid (by rw [HE0.out, truH_1 ho])
      clear HE0 IH HV HC HK hok hty h0 hpl hr CB
      have CB := Lib.hid True.intro
      obtain ⟨ho_, hc, hm, ⟨vn, vi, vt⟩, hkd, hp⟩ := hd
      obtain ⟨A, n, c⟩ := t
      dsimp only at ho hn hco
      clear hn
      subst ho
      unfold doc20 at F0 PB
      unfold pdV at *
      unfold pdC kidV at *
      dsimp only at *
      generalize hg : w.heap.size = g at *
      subst hco
      obtain ⟨b0, b1, b2, b3, b4, b5, b6, b7, b8⟩ := pdB_cells PB.out
      dsimp only at b0 b1 b2 b3 b4 b5 b6 b7 b8
      go_enter Tryz.func27, Tryz.ntmps27
      go_wp2
      go_ret
      exact ⟨ret_int HE.out.symm, F0.out⟩
    · obtain ⟨hne, k, hk1, hk2, hf, hcell, hmay, hq2, hq4⟩ := ask_col ho ha hty hr
      have hb := beq_eq_false_iff_ne.2 hne
      have hb2 : (hd.col != []) = true := by rw [bne_iff_ne]; exact hne
      have HFi := Lib.hid (fun W h => rfind_any (.slice A1 cols.length c1) cols hd.col W h (by omega))
      rw [hf] at HFi
      rcases ho with ho | ho | ho
      · obtain ⟨hkt, hmv⟩ := hq2 ho
        have HE : Hid (r = cmpR hd.cmp row[k] hd.val) := Lib.hid (by rw [HE0.out, truH_2 ho, hcell])
        have HCo := Lib.hid (fun W => rcmp_any row[k] hd.val hd.cmp W)
        have HY := Lib.hid (fun b W => ryes_any b W)
        have HZ : Hid (row[k].null = true → cmpR hd.cmp row[k] hd.val = 2) := Lib.hid (fun e => by unfold cmpR; rw [if_pos e])
        have HW : Hid (row[k].null = false → cmpR hd.cmp row[k] hd.val = yesI (agrI hd.cmp (ordC row[k] hd.val))) := Lib.hid (fun e => by unfold cmpR; rw [if_neg (by rw [e]; simp)])
        clear HE0 IH HK hok hty h0 hpl hr hcell hmay hq2 hq4 hkt hmv hf hne ha
        generalize cmpR hd.cmp row[k] hd.val = z at *
        generalize agrI hd.cmp (ordC row[k] hd.val) = ab at *
        obtain ⟨ho_, hc, hm, ⟨vn, vi, vt⟩, hkd, hp⟩ := hd
        obtain ⟨A, n, c⟩ := t
        dsimp only at ho hn HCo HFi hb hb2
        clear hn
        subst ho
        unfold doc20 at F0 PB CB
        unfold pdV at *
        unfold pdC kidV at *
        dsimp only at *
        generalize hg : w.heap.size = g at *
        unfold clV clC at HCo
        dsimp only at HCo
        obtain ⟨b0, b1, b2, b3, b4, b5, b6, b7, b8⟩ := pdB_cells PB.out
        dsimp only at b0 b1 b2 b3 b4 b5 b6 b7 b8
        go_enter Tryz.func27, Tryz.ntmps27
        go_wp2_with fail
        refine (HFi.out _ (HV.out.non F0.out)).mono ?_
        rintro e w1 ⟨rfl, f1⟩
        have PB1 := Lib.hid (PB.out.fr f1 (fun e => e))
        have CB1 : ClB w1 (g + 1) ⟨false, 0, []⟩ := CB.out.fr f1 (fun e => e)
        have F1 := Lib.hid (F0.out.trans f1)
        have hc1 := HC.out.non F1.out
        obtain ⟨a2, rfl, -, -, hel⟩ := hc1.addr (show 0 < row.length by omega)
        obtain ⟨t0, t1, t2⟩ := (hel k hk2).lit
        obtain ⟨s0, s1, s2, z0, z1, z2⟩ := CB1.facts
        clear b0 b1 b2 b3 b4 b5 b6 b7 b8 hel hc1 f1
        generalize row[k] = y at *
        obtain ⟨yn, yi, yt⟩ := y
        dsimp only at *
        have F2 : Fr Non w (setCl w1 (g + 1) yn yi yt) := F1.out.fresh (setCl_fr _ _ _ _ _) (fun k e => by have : k = g + 1 := e; omega)
        have CB2 := setCl_B CB1 yn yi yt
        have PB2 := PB1.out.fr (setCl_fr w1 (g + 1) yn yi yt) (fun e => by have : g = g + 1 := e; omega)
        obtain ⟨d0, d1, d2, -, -, -⟩ := CB2.facts
        obtain ⟨b0, b1, b2, b3, b4, b5, b6, b7, b8⟩ := pdB_cells PB2
        dsimp only at b0 b1 b2 b3 b4 b5 b6 b7 b8 d0 d1 d2
        replace F2 := Lib.hid F2
        unfold setCl at b0 b1 b2 b3 b4 b5 b6 b7 b8 d0 d1 d2 F2
        clear CB1 CB2 PB2 PB1 CB
        unfold findI
        cases yn
        · have HE2 := Lib.hid (HW.out rfl)
          clear HZ HW
          go_wp2_with fail
          refine (HCo.out _).mono ?_
          rintro e w4 ⟨rfl, f4⟩
          have F4 := Lib.hid (F2.out.trans f4)
          clear f4
          go_wp2_with fail
          refine (HY.out _ _).mono ?_
          rintro e w5 ⟨rfl, rfl⟩
          go_wp2
          go_ret
          exact ⟨ret_int (by rw [HE.out, HE2.out]), F4.out⟩
        · have HE2 := Lib.hid (HZ.out rfl)
          clear HZ HW HCo
          go_wp2
          go_ret
          exact ⟨ret_int (by rw [HE.out, HE2.out]), F2.out⟩
      · have HE : Hid (r = yesI row[k].null) := Lib.hid (by rw [HE0.out, truH_3 ho, hcell])
        have HY := Lib.hid (fun b W => ryes_any b W)
        clear HE0 IH HK hok hty h0 hpl hr hcell hmay hq2 hq4 hf hne ha
        obtain ⟨ho_, hc, hm, ⟨vn, vi, vt⟩, hkd, hp⟩ := hd
        obtain ⟨A, n, c⟩ := t
        dsimp only at ho hn HFi hb hb2
        clear hn
        subst ho
        unfold doc20 at F0 PB CB
        unfold pdV at *
        unfold pdC kidV at *
        dsimp only at *
        generalize hg : w.heap.size = g at *
        obtain ⟨b0, b1, b2, b3, b4, b5, b6, b7, b8⟩ := pdB_cells PB.out
        dsimp only at b0 b1 b2 b3 b4 b5 b6 b7 b8
        go_enter Tryz.func27, Tryz.ntmps27
        go_wp2_with fail
        refine (HFi.out _ (HV.out.non F0.out)).mono ?_
        rintro e w1 ⟨rfl, f1⟩
        have PB1 := Lib.hid (PB.out.fr f1 (fun e => e))
        have CB1 : ClB w1 (g + 1) ⟨false, 0, []⟩ := CB.out.fr f1 (fun e => e)
        have F1 := Lib.hid (F0.out.trans f1)
        have hc1 := HC.out.non F1.out
        obtain ⟨a2, rfl, -, -, hel⟩ := hc1.addr (show 0 < row.length by omega)
        obtain ⟨t0, t1, t2⟩ := (hel k hk2).lit
        obtain ⟨s0, s1, s2, z0, z1, z2⟩ := CB1.facts
        clear b0 b1 b2 b3 b4 b5 b6 b7 b8 hel hc1 f1
        generalize row[k] = y at *
        obtain ⟨yn, yi, yt⟩ := y
        dsimp only at *
        have F2 : Fr Non w (setCl w1 (g + 1) yn yi yt) := F1.out.fresh (setCl_fr _ _ _ _ _) (fun k e => by have : k = g + 1 := e; omega)
        have CB2 := setCl_B CB1 yn yi yt
        have PB2 := PB1.out.fr (setCl_fr w1 (g + 1) yn yi yt) (fun e => by have : g = g + 1 := e; omega)
        obtain ⟨d0, d1, d2, -, -, -⟩ := CB2.facts
        obtain ⟨b0, b1, b2, b3, b4, b5, b6, b7, b8⟩ := pdB_cells PB2
        dsimp only at b0 b1 b2 b3 b4 b5 b6 b7 b8 d0 d1 d2
        replace F2 := Lib.hid F2
        unfold setCl at b0 b1 b2 b3 b4 b5 b6 b7 b8 d0 d1 d2 F2
        clear CB1 CB2 PB2 PB1 CB
        unfold findI
        go_wp2_with fail
        refine (HY.out _ _).mono ?_
        rintro e w5 ⟨rfl, rfl⟩
        go_wp2
        go_ret
        exact ⟨ret_int HE.out.symm, F2.out⟩
      · have hkt := hq4 ho
        rw [hkt] at hmay
        have htl := mayC_text hmay
        have HE : Hid (r = likR row[k] hd.pat) := Lib.hid (by rw [HE0.out, truH_4 ho, hcell])
        have HM := Lib.hid (fun W => rgmatch_any hd.pat row[k].txt W (by omega) (by omega))
        have HY := Lib.hid (fun b W => ryes_any b W)
        have HZ : Hid (row[k].null = true → likR row[k] hd.pat = 2) := Lib.hid (fun e => by unfold likR; rw [if_pos e])
        have HW : Hid (row[k].null = false → likR row[k] hd.pat = yesI (matchU hd.pat row[k].txt)) := Lib.hid (fun e => by unfold likR; rw [if_neg (by rw [e]; simp)])
        clear HE0 IH HK hok hty h0 hpl hr hcell hmay hq2 hq4 hkt hf hne ha htl
        generalize likR row[k] hd.pat = z at *
        generalize matchU hd.pat row[k].txt = ab at *
        obtain ⟨ho_, hc, hm, ⟨vn, vi, vt⟩, hkd, hp⟩ := hd
        obtain ⟨A, n, c⟩ := t
        dsimp only at ho hn HM HFi hb hb2
        clear hn
        subst ho
        unfold doc20 at F0 PB CB
        unfold pdV at *
        unfold pdC kidV at *
        dsimp only at *
        generalize hg : w.heap.size = g at *
        obtain ⟨b0, b1, b2, b3, b4, b5, b6, b7, b8⟩ := pdB_cells PB.out
        dsimp only at b0 b1 b2 b3 b4 b5 b6 b7 b8
        go_enter Tryz.func27, Tryz.ntmps27
        go_wp2_with fail
        refine (HFi.out _ (HV.out.non F0.out)).mono ?_
        rintro e w1 ⟨rfl, f1⟩
        have PB1 := Lib.hid (PB.out.fr f1 (fun e => e))
        have CB1 : ClB w1 (g + 1) ⟨false, 0, []⟩ := CB.out.fr f1 (fun e => e)
        have F1 := Lib.hid (F0.out.trans f1)
        have hc1 := HC.out.non F1.out
        obtain ⟨a2, rfl, -, -, hel⟩ := hc1.addr (show 0 < row.length by omega)
        obtain ⟨t0, t1, t2⟩ := (hel k hk2).lit
        obtain ⟨s0, s1, s2, z0, z1, z2⟩ := CB1.facts
        clear b0 b1 b2 b3 b4 b5 b6 b7 b8 hel hc1 f1
        generalize row[k] = y at *
        obtain ⟨yn, yi, yt⟩ := y
        dsimp only at *
        have F2 : Fr Non w (setCl w1 (g + 1) yn yi yt) := F1.out.fresh (setCl_fr _ _ _ _ _) (fun k e => by have : k = g + 1 := e; omega)
        have CB2 := setCl_B CB1 yn yi yt
        have PB2 := PB1.out.fr (setCl_fr w1 (g + 1) yn yi yt) (fun e => by have : g = g + 1 := e; omega)
        obtain ⟨d0, d1, d2, -, -, -⟩ := CB2.facts
        obtain ⟨b0, b1, b2, b3, b4, b5, b6, b7, b8⟩ := pdB_cells PB2
        dsimp only at b0 b1 b2 b3 b4 b5 b6 b7 b8 d0 d1 d2
        replace F2 := Lib.hid F2
        unfold setCl at b0 b1 b2 b3 b4 b5 b6 b7 b8 d0 d1 d2 F2
        clear CB1 CB2 PB2 PB1 CB
        unfold findI
        cases yn
        · have HE2 := Lib.hid (HW.out rfl)
          clear HZ HW
          go_wp2_with fail
          refine (HM.out _).mono ?_
          rintro e w4 ⟨rfl, f4⟩
          have F4 := Lib.hid (F2.out.trans f4)
          clear f4
          go_wp2_with fail
          refine (HY.out _ _).mono ?_
          rintro e w5 ⟨rfl, rfl⟩
          go_wp2
          go_ret
          exact ⟨ret_int (by rw [HE.out, HE2.out]), F4.out⟩
        · have HE2 := Lib.hid (HZ.out rfl)
          clear HZ HW HM
          go_wp2
          go_ret
          exact ⟨ret_int (by rw [HE.out, HE2.out]), F2.out⟩
    · have hk1 : 0 < ks.length := by omega
      obtain ⟨a, t', hA, hc2, hkk, _⟩ := HK.out.elN (Fr.refl Non w) 0 hk1
      have HT := Lib.hid (IH.out 0 hk1 _ t' (HV.out.non F0.out) (HC.out.non F0.out) (hkk.non F0.out))
      have HE : Hid (r = notI (truP cols row ks[0])) := Lib.hid (by
        rw [HE0.out, truH_5 ho]
        cases ks with
        | nil => simp at hk1
        | cons x l => rfl)
      have htr := tru_one cols row ks[0]
      clear HE0 IH HV HC HK hok hty hpl hr hkk
      generalize truP cols row ks[0] = z at *
      generalize ks[0].hd = x at *
      have hn1 : 0 < t.n := by omega
      clear h0 hk1
      obtain ⟨xo, xc, xm, ⟨xn, xi, xt⟩, xk, xp⟩ := x
      obtain ⟨tA, tn, tc⟩ := t'
      obtain ⟨k0, k1, k2, k3, k4, k5, k6, k7, k8⟩ := hc2
      simp only [Nat.zero_mul] at k0 k1 k2 k3 k4 k5 k6 k7 k8
      unfold doc20 at HT
      rw [addE0] at k0 k1 k2 k3 k4 k5 k6 k7 k8
      have hlt := World.block_lt_of_cell? _ _ k0
      unfold pdV at HT
      obtain ⟨ho_, hc, hm, ⟨vn, vi, vt⟩, hkd, hp⟩ := hd
      obtain ⟨A, n, c⟩ := t
      dsimp only at ho hn hco hA hn1
      clear hn
      subst ho
      unfold doc20 at F0 PB CB
      unfold pdV at *
      unfold pdC kidV at *
      dsimp only at *
      generalize hg : w.heap.size = g at *
      subst hco
      subst hA
      obtain ⟨b0, b1, b2, b3, b4, b5, b6, b7, b8⟩ := pdB_cells PB.out
      dsimp only at b0 b1 b2 b3 b4 b5 b6 b7 b8
      by_cases h2 : z = 2
      · subst h2
        go_enter Tryz.func27, Tryz.ntmps27
        go_wp2_with fail
        refine HT.out.mono ?_
        rintro e w4 ⟨rfl, f4⟩
        go_wp2
        go_ret
        exact ⟨ret_int HE.out.symm, F0.out.trans f4⟩
      · have hb : (z == 2) = false := by rw [beq_eq_false_iff_ne]; exact h2
        have HN := Lib.hid (not_sub htr h2)
        have hw : IntKind.i64.wrap (1 - z) = 1 - z := by rcases htr with rfl | rfl | rfl <;> rfl
        have hz1 : -1 ≤ z := by rcases htr with rfl | rfl | rfl <;> omega
        have hz2 : z ≤ 3 := by rcases htr with rfl | rfl | rfl <;> omega
        clear htr h2
        go_enter Tryz.func27, Tryz.ntmps27
        go_wp2_with fail
        refine HT.out.mono ?_
        rintro e w4 ⟨rfl, f4⟩
        go_wp2
        go_ret
        exact ⟨ret_int (by rw [HE.out, ← HN.out]), F0.out.trans f4⟩
    · rcases ho with ho | ho
      · have HS : Hid (∀ j bn bm bz, HasTo (ks.map (truP cols row)) j bn bm bz → t.n ≤ j → r = (if bn then 0 else if bm then 2 else 1 : Int)) := Lib.hid (fun j bn bm bz h hj => by
          rw [HE0.out, truH_6 ho]; exact (has_end h (by rw [List.length_map]; omega)).1)
        have HM : Hid (∀ j bn bm bz (h : j < ks.length), HasTo (ks.map (truP cols row)) j bn bm bz → HasTo (ks.map (truP cols row)) (j + 1) (bn || truP cols row ks[j] == 0) (bm || truP cols row ks[j] == 2) (bz || truP cols row ks[j] == 1)) := Lib.hid (fun j bn bm bz h h2 => by
          have e := has_more h2 (by rw [List.length_map]; exact h)
          rw [List.getElem_map] at e; exact e)
        have H0 := Lib.hid (has_start (ks.map (truP cols row)))
        have HY := Lib.hid (fun b W => ryes_any b W)
        have hnn : t.n ≤ 1000 := by omega
        have HL := Lib.hid hn
        clear HE0 hok hty hpl hr h0 hl
        generalize ks.map (truP cols row) = L at *
        obtain ⟨ho_, hc, hm, ⟨vn, vi, vt⟩, hkd, hp⟩ := hd
        obtain ⟨A, n, c⟩ := t
        dsimp only at ho hn hco hnn HS HL HK
        clear hn
        subst ho
        unfold doc20 at F0 PB CB
        unfold pdV at *
        unfold pdC kidV at *
        dsimp only at *
        generalize hg : w.heap.size = g at *
        subst hco
        obtain ⟨b0, b1, b2, b3, b4, b5, b6, b7, b8⟩ := pdB_cells PB.out
        dsimp only at b0 b1 b2 b3 b4 b5 b6 b7 b8
        go_enter Tryz.func27, Tryz.ntmps27
        go_wp2
        go_loopw [9, 10, 11, 12] (fun un um uz i wr => ∃ (k : Nat) (bn bm bz : Bool), k ≤ n ∧ i = .int .i64 k ∧ un = .bool bn ∧ um = .bool bm ∧ uz = .bool bz ∧ Hid (HasTo L k bn bm bz) ∧ Hid (Fr Non ((w.alloc (.cells #[.int .i64 6, .string ⟨#[]⟩, .int .i64 hm, .bool vn, .int .i64 vi, .string ⟨vt.toArray⟩, .int .i64 hkd, .string ⟨hp.toArray⟩, .slice A n c] 28)).alloc (.cells #[.bool false, .int .i64 0, .string ⟨#[]⟩] 25)) wr)) (fun _ _ _ i _ => n - (intOf i).toNat)
        case atStart => exact ⟨0, false, false, false, Nat.zero_le _, rfl, rfl, rfl, rfl, H0, Lib.hid (Fr.refl _ _)⟩
        case round =>
          clear H0 b0 b1 b2 b3 b4 b5 b6 b7 b8
          obtain ⟨k, bn, bm, bz, hk, rfl, rfl, rfl, rfl, HT, FR⟩ := hrel
          have HFw := Lib.hid (F0.out.trans FR.out)
          obtain ⟨b0, b1, b2, b3, b4, b5, b6, b7, b8⟩ := pdB_cells (PB.out.fr FR.out (fun e => e))
          dsimp only at b0 b1 b2 b3 b4 b5 b6 b7 b8
          by_cases hlt : k < n
          · have hlt2 : k < ks.length := by have := HL.out; omega
            obtain ⟨a, t, hA, hc2, hkk, _⟩ := HK.out.elN HFw.out k hlt2
            have HCa := Lib.hid (IH.out k hlt2 wr t (HV.out.non HFw.out) (HC.out.non HFw.out) (hkk.non HFw.out))
            have HN := Lib.hid (HM.out k bn bm bz hlt2 HT.out)
            dsimp only at hA
            subst hA
            obtain ⟨k0, k1, k2, k3, k4, k5, k6, k7, k8⟩ := hc2
            clear hkk HT HM HS
            generalize truP cols row ks[k] = y at *
            generalize ks[k].hd = x at *
            obtain ⟨xo, xc, xm, ⟨xn, xi, xt⟩, xk, xp⟩ := x
            obtain ⟨tA, tn, tc⟩ := t
            dsimp only at HCa k0 k1 k2 k3 k4 k5 k6 k7 k8
            cases bn <;> cases bm <;> cases bz
            all_goals
              simp only [Bool.false_or, Bool.true_or] at HN
              go_wp2_with fail
              refine HCa.out.mono ?_
              rintro e w2 ⟨rfl, f2⟩
              clear HCa
              go_wp2
              go_roundw
              case rel => exact ⟨k + 1, _, _, _, by omega, by go_num, rfl, rfl, rfl, HN, Lib.hid (FR.out.trans f2)⟩
              case measure => simp [intOf]; omega
          · have HE := Lib.hid (HS.out k bn bm bz HT.out (by omega))
            clear HT HS HM
            cases bn <;> cases bm <;> cases bz
            all_goals
              go_wp2
              first
              | (go_ret; exact ⟨ret_int HE.out.symm, HFw.out⟩)
              | (refine (HY.out _ _).mono ?_
                 rintro e w5 ⟨rfl, rfl⟩
                 go_wp2
                 go_ret
                 exact ⟨ret_int HE.out.symm, HFw.out⟩)
      · have HS : Hid (∀ j bn bm bz, HasTo (ks.map (truP cols row)) j bn bm bz → t.n ≤ j → r = (if bz then 1 else if bm then 2 else 0 : Int)) := Lib.hid (fun j bn bm bz h hj => by
          rw [HE0.out, truH_7 ho]; exact (has_end h (by rw [List.length_map]; omega)).2)
        have HM : Hid (∀ j bn bm bz (h : j < ks.length), HasTo (ks.map (truP cols row)) j bn bm bz → HasTo (ks.map (truP cols row)) (j + 1) (bn || truP cols row ks[j] == 0) (bm || truP cols row ks[j] == 2) (bz || truP cols row ks[j] == 1)) := Lib.hid (fun j bn bm bz h h2 => by
          have e := has_more h2 (by rw [List.length_map]; exact h)
          rw [List.getElem_map] at e; exact e)
        have H0 := Lib.hid (has_start (ks.map (truP cols row)))
        have HY := Lib.hid (fun b W => ryes_any b W)
        have hnn : t.n ≤ 1000 := by omega
        have HL := Lib.hid hn
        clear HE0 hok hty hpl hr h0 hl
        generalize ks.map (truP cols row) = L at *
        obtain ⟨ho_, hc, hm, ⟨vn, vi, vt⟩, hkd, hp⟩ := hd
        obtain ⟨A, n, c⟩ := t
        dsimp only at ho hn hco hnn HS HL HK
        clear hn
        subst ho
        unfold doc20 at F0 PB CB
        unfold pdV at *
        unfold pdC kidV at *
        dsimp only at *
        generalize hg : w.heap.size = g at *
        subst hco
        obtain ⟨b0, b1, b2, b3, b4, b5, b6, b7, b8⟩ := pdB_cells PB.out
        dsimp only at b0 b1 b2 b3 b4 b5 b6 b7 b8
        go_enter Tryz.func27, Tryz.ntmps27
        go_wp2
        go_loopw [9, 10, 11, 12] (fun un um uz i wr => ∃ (k : Nat) (bn bm bz : Bool), k ≤ n ∧ i = .int .i64 k ∧ un = .bool bn ∧ um = .bool bm ∧ uz = .bool bz ∧ Hid (HasTo L k bn bm bz) ∧ Hid (Fr Non ((w.alloc (.cells #[.int .i64 7, .string ⟨#[]⟩, .int .i64 hm, .bool vn, .int .i64 vi, .string ⟨vt.toArray⟩, .int .i64 hkd, .string ⟨hp.toArray⟩, .slice A n c] 28)).alloc (.cells #[.bool false, .int .i64 0, .string ⟨#[]⟩] 25)) wr)) (fun _ _ _ i _ => n - (intOf i).toNat)
        case atStart => exact ⟨0, false, false, false, Nat.zero_le _, rfl, rfl, rfl, rfl, H0, Lib.hid (Fr.refl _ _)⟩
        case round =>
          clear H0 b0 b1 b2 b3 b4 b5 b6 b7 b8
          obtain ⟨k, bn, bm, bz, hk, rfl, rfl, rfl, rfl, HT, FR⟩ := hrel
          have HFw := Lib.hid (F0.out.trans FR.out)
          obtain ⟨b0, b1, b2, b3, b4, b5, b6, b7, b8⟩ := pdB_cells (PB.out.fr FR.out (fun e => e))
          dsimp only at b0 b1 b2 b3 b4 b5 b6 b7 b8
          by_cases hlt : k < n
          · have hlt2 : k < ks.length := by have := HL.out; omega
            obtain ⟨a, t, hA, hc2, hkk, _⟩ := HK.out.elN HFw.out k hlt2
            have HCa := Lib.hid (IH.out k hlt2 wr t (HV.out.non HFw.out) (HC.out.non HFw.out) (hkk.non HFw.out))
            have HN := Lib.hid (HM.out k bn bm bz hlt2 HT.out)
            dsimp only at hA
            subst hA
            obtain ⟨k0, k1, k2, k3, k4, k5, k6, k7, k8⟩ := hc2
            clear hkk HT HM HS
            generalize truP cols row ks[k] = y at *
            generalize ks[k].hd = x at *
            obtain ⟨xo, xc, xm, ⟨xn, xi, xt⟩, xk, xp⟩ := x
            obtain ⟨tA, tn, tc⟩ := t
            dsimp only at HCa k0 k1 k2 k3 k4 k5 k6 k7 k8
            cases bn <;> cases bm <;> cases bz
            all_goals
              simp only [Bool.false_or, Bool.true_or] at HN
              go_wp2_with fail
              refine HCa.out.mono ?_
              rintro e w2 ⟨rfl, f2⟩
              clear HCa
              go_wp2
              go_roundw
              case rel => exact ⟨k + 1, _, _, _, by omega, by go_num, rfl, rfl, rfl, HN, Lib.hid (FR.out.trans f2)⟩
              case measure => simp [intOf]; omega
          · have HE := Lib.hid (HS.out k bn bm bz HT.out (by omega))
            clear HT HS HM
            cases bn <;> cases bm <;> cases bz
            all_goals
              go_wp2
              first
              | (go_ret; exact ⟨ret_int HE.out.symm, HFw.out⟩)
              | (refine (HY.out _ _).mono ?_
                 rintro e w5 ⟨rfl, rfl⟩
                 go_wp2
                 go_ret
                 exact ⟨ret_int HE.out.symm, HFw.out⟩)
end Go.Proofs.YtjcfjjhhbcgcmaaGreat
