/-
  Joined: Layer 21: which truths a predicate may be, the program's: of every one. · A map of texts to whole numbers of the call's own: which texts it has, and how many; made, written, counted. · Layer 12: which columns a table may have, the program's. · Layer 17: Fits, the program's. · Layer 21: the program's Ask and Skip. · Layer 17: slices of predicates laid by a literal. · Layer 21: the page's example. · Rows: slices of slices of cells: what one reads as (Rs), one of the call's own (Ro), and the steps over them; a cell appended, the new row in the old block or in a new one. · Layer 13: a column of rows, the document's.
-/
import Derived.Lib.Zigzag
import Derived.Deep.RegionHeld3
import Derived.Test.YtpmipdnmhffkeaaDoorZ3
import Derived.Test.YtpmipdnmhffkeaaDoorZ4
import Derived.Test.YtpmipdnmhffkeaaDoorZ1
import Derived.Maps.OwnSet
import Derived.Maps.OwnOps
import Derived.Test.YtpmipdnmhffkeaaDoorZ2
import Derived.BigQuiet
import Derived.Deep.QuietTactic
import Derived.ArgAppend
import Derived.Deep.DeepAppendRoom

namespace Go.Proofs.YtpmipdnmhffkeaaDoor
set_option linter.unusedVariables false
set_option linter.unusedSimpArgs false
set_option maxRecDepth 100000
open Go.RowKit

theorem prnH_1 {cols : List Co} {zs : List Zn} {h : Ph} {ts : List Tr} (e : h.op = 1) : prnH cols zs h ts = ⟨true, false, false⟩ := by unfold prnH; rw [e]; rfl
theorem prnH_2 {cols : List Co} {zs : List Zn} {h : Ph} {ts : List Tr} (e : h.op = 2) : prnH cols zs h ts = cmpT2 (zoneN cols zs h.col) h := by unfold prnH; rw [if_pos e]; rfl
theorem prnH_3 {cols : List Co} {zs : List Zn} {h : Ph} {ts : List Tr} (e : h.op = 3) : prnH cols zs h ts = ⟨nullZ (zoneN cols zs h.col), someZ (zoneN cols zs h.col), false⟩ := by unfold prnH; rw [if_neg (by omega), if_pos e]
theorem prnH_4 {cols : List Co} {zs : List Zn} {h : Ph} {ts : List Tr} (e : h.op = 4) : prnH cols zs h ts = ⟨someZ (zoneN cols zs h.col), someZ (zoneN cols zs h.col), nullZ (zoneN cols zs h.col)⟩ := by unfold prnH; rw [if_neg (by omega), if_neg (by omega), if_pos e]
theorem prnH_5 {cols : List Co} {zs : List Zn} {h : Ph} {ts : List Tr} (e : h.op = 5) : prnH cols zs h ts = notT2 (ts.headD noT) := by unfold prnH; rw [if_neg (by omega), if_neg (by omega), if_neg (by omega), if_pos e]
theorem prnH_6 {cols : List Co} {zs : List Zn} {h : Ph} {ts : List Tr} (e : h.op = 6) : prnH cols zs h ts = allT2 ts := by unfold prnH; rw [if_neg (by omega), if_neg (by omega), if_neg (by omega), if_neg (by omega), if_pos e]
theorem prnH_7 {cols : List Co} {zs : List Zn} {h : Ph} {ts : List Tr} (e : h.op = 7) : prnH cols zs h ts = anyT2 ts := by unfold prnH; rw [if_neg (by omega), if_neg (by omega), if_neg (by omega), if_neg (by omega), if_neg (by omega), if_pos e]
/-- one that asks of a column: it is there -/
theorem ask_zone {cols : List Co} {zs : List Zn} {h : Ph} (ho : h.op = 2 ∨ h.op = 3 ∨ h.op = 4) (ha : askOk h = true) (ht : okT cols h = true) (hz : zs.length = cols.length) :
    h.col ≠ [] ∧ ∃ (k : Nat) (h1 : k < cols.length) (h2 : k < zs.length), findC cols h.col = some k ∧ zoneN cols zs h.col = zs[k] ∧ (h.op = 2 → 1 ≤ h.cmp ∧ h.cmp ≤ 6 ∧ h.val.null = false) := by
  unfold askOk at ha
  rw [Bool.and_eq_true] at ha
  have hne := name_some ha.1
  refine ⟨hne, ?_⟩
  unfold okT at ht
  rw [if_neg hne] at ht
  split at ht
  · cases ht
  · rename_i k hk
    have h1 := find_lt hk
    have h2 : k < zs.length := by omega
    refine ⟨k, h1, h2, hk, ?_, fun e => ?_⟩
    · unfold zoneN; rw [hk]; dsimp only; rw [List.getD_eq_getElem?_getD, List.getElem?_eq_getElem h2]; rfl
    · have ha2 := ha.2
      rw [if_pos e] at ha2
      simp only [Bool.and_eq_true, decide_eq_true_eq] at ha2
      exact ⟨ha2.1.1.1, ha2.1.1.2, may_null ha2.1.2⟩

/-- what is known and a predicate boxed, and the answer's block -/
def knW (w : World) (v1 v2 : Value) (h : Ph) (t : Kv) : World := ((w.alloc (.cells #[v1, v2] 59)).alloc (.cells (pdC h t) 27)).alloc (.cells #[.bool false, .bool false, .bool false] 35)
theorem knW_fr (w : World) (v1 v2 : Value) (h : Ph) (t : Kv) : Fr Non w (knW w v1 v2 h t) := (((Fr.refl Non w).alloc _).alloc _).alloc _
theorem knW_rec (w : World) (v1 v2 : Value) (h : Ph) (t : Kv) : Blk (knW w v1 v2 h t) w.heap.size 59 #[v1, v2] := (Blk.new _ _ _).fr (((Fr.refl Non _).alloc _).alloc _) (fun e => e)
theorem knW_pd (w : World) (v1 v2 : Value) (h : Ph) (t : Kv) : PdB (knW w v1 v2 h t) (w.heap.size + 1) h t := by
  have e := pd_new (w.alloc (.cells #[v1, v2] 59)) _ h t rfl
  rw [show (w.alloc (.cells #[v1, v2] 59)).heap.size = w.heap.size + 1 by simp] at e
  exact e.fr ((Fr.refl Non _).alloc _) (fun e => e)
theorem knW_tr (w : World) (v1 v2 : Value) (h : Ph) (t : Kv) : TrB 35 (knW w v1 v2 h t) (w.heap.size + 1 + 1) ⟨false, false, false⟩ := tr_newG _ _ ⟨false, false, false⟩ _ (by simp)

set_option maxHeartbeats 8000000 in
theorem pztruths_any (v1 v2 : Value) (cols : List Co) (zs : List Zn) (hcl : cols.length ≤ 1000) (hzl : zs.length = cols.length) (p : Pd) : ∀ (t : Kv) (w : World), Ks w v1 cols → Zs w v2 zs → OppT w → Kd w t p.kids → bigP p = true → oneP p = true → typP cols p = true →
    Calls Tryd.prog 20 #[knV v1 v2, pdV p.hd t] w fun e w' => e = .returned (trV (prnP cols zs p)) ∧ Fr Non w w' := by
  induction p using Pd.ind with
  | h hd ks ih =>
    intro t w h1 h2 hT hk hbig hone htyp
    dsimp only [Pd.hd, Pd.kids] at hk ⊢
    have hn : t.n = ks.length := hk.len
    obtain ⟨hl, _, hpl, _, hbk⟩ := bigP_mk hbig
    obtain ⟨hok, hok1⟩ := one_kids hone
    obtain ⟨hty, hty1⟩ := typ_kids htyp
    obtain ⟨A1, c1, rfl⟩ := h1.shape
    obtain ⟨A2, c2, rfl⟩ := h2.shape
    replace hzl := Lib.hid hzl
    have F0 := Lib.hid (knW_fr w (.slice A1 cols.length c1) (.slice A2 zs.length c2) hd t)
    have RB := Lib.hid (knW_rec w (.slice A1 cols.length c1) (.slice A2 zs.length c2) hd t)
    have PB := Lib.hid (knW_pd w (.slice A1 cols.length c1) (.slice A2 zs.length c2) hd t)
    have AB : Hid (TrB 35 (knW w (.slice A1 cols.length c1) (.slice A2 zs.length c2) hd t) (w.heap.size + 1 + 1) ⟨false, false, false⟩) := Lib.hid (knW_tr w (.slice A1 cols.length c1) (.slice A2 zs.length c2) hd t)
    have IH : Hid (∀ j (h : j < ks.length) (W : World) (t' : Kv), Fr Non w W → Kd W t' ks[j].kids → Calls Tryd.prog 20 #[knV (.slice A1 cols.length c1) (.slice A2 zs.length c2), pdV ks[j].hd t'] W fun e w' => e = .returned (trV (prnP cols zs ks[j])) ∧ Fr Non W w') :=
      Lib.hid (fun j h W t' a b => ih _ (List.getElem_mem h) t' W (h1.non a) (h2.non a) (hT.non a) b (hbk _ (List.getElem_mem h)) (hok1 _ (List.getElem_mem h)) (hty1 _ (List.getElem_mem h)))
    have HV : Hid (Ks w (.slice A1 cols.length c1) cols) := Lib.hid h1
    have HZ : Hid (Zs w (.slice A2 zs.length c2) zs) := Lib.hid h2
    have HO := Lib.hid hT
    have HK : Hid (Kd w t ks) := Lib.hid hk
    have HE0 := Lib.hid (prn_is cols zs hd ks)
    clear ih hk h1 h2 hT hbig hone htyp hok1 hty1 hbk
    generalize prnP cols zs (.mk hd ks) = r at *
    rcases hd_ways hok with ⟨ho, h0, -⟩ | ⟨ho, h0, ha⟩ | ⟨ho, h0, -⟩ | ⟨ho, h0, -⟩
    · have HE : Hid (r = ⟨true, false, false⟩) := Lib.hid (by rw [HE0.out, prnH_1 ho])
      clear HE0 IH HV HZ HO HK hok hty h0 hpl
      obtain ⟨ho_, hc, hm, ⟨vn, vi, vt⟩, hkd, hp⟩ := hd
      obtain ⟨A, n, c⟩ := t
      dsimp only at ho hn 
      clear hn
      subst ho
      unfold knW at F0 RB PB AB
      unfold knV pdV at *
      unfold pdC kidV at *
      dsimp only at *
      generalize hg : w.heap.size = g at *
      have r0 := RB.out.cell 0
      have r1 := RB.out.cell 1
      simp at r0 r1
      obtain ⟨b0, b1, b2, b3, b4, b5, b6, b7, b8⟩ := pdB_cells PB.out
      dsimp only at b0 b1 b2 b3 b4 b5 b6 b7 b8
      have F6 := Lib.hid ((((Fr.refl Non w).alloc (.cells #[.slice A1 cols.length c1, .slice A2 zs.length c2] 59)).alloc (.cells #[.int .i64 1, .string ⟨hc.toArray⟩, .int .i64 hm, .bool vn, .int .i64 vi, .string ⟨vt.toArray⟩, .int .i64 hkd, .string ⟨hp.toArray⟩, .slice A n c] 27)).alloc (.cells #[.bool true, .bool false, .bool false] 35))
      have AB6 : Hid (TrB 35 (((w.alloc (.cells #[.slice A1 cols.length c1, .slice A2 zs.length c2] 59)).alloc (.cells #[.int .i64 1, .string ⟨hc.toArray⟩, .int .i64 hm, .bool vn, .int .i64 vi, .string ⟨vt.toArray⟩, .int .i64 hkd, .string ⟨hp.toArray⟩, .slice A n c] 27)).alloc (.cells #[.bool true, .bool false, .bool false] 35)) (g + 1 + 1) ⟨true, false, false⟩) := Lib.hid (tr_newG _ _ ⟨true, false, false⟩ _ (by rw [← hg]; simp))
      go_enter Tryd.func20, Tryd.ntmps20
      go_wp2
      exact bodyPost_ret (v := trV ⟨true, false, false⟩) (ret_tr (p := 4) rfl _ _ _ ⟨true, false, false⟩ (by rfl) AB6.out) rfl ⟨by rw [HE.out] <;> rfl, F6.out⟩
    · obtain ⟨hne, k, hk1, hk2, hf, hzn, hq2⟩ := ask_zone (zs := zs) ho ha hty hzl.out
      have HZo : Hid (∀ W, Fr Non w W → Calls Tryd.prog 38 #[knV (.slice A1 cols.length c1) (.slice A2 zs.length c2), .string ⟨hd.col.toArray⟩] W fun e w' => e = .returned (znV zs[k]) ∧ Fr Non W w') := Lib.hid (fun W hf2 => pzzone_any _ _ cols zs hd.col k W (HV.out.non hf2) (HZ.out.non hf2) hcl hf hk2)
      rcases ho with ho | ho | ho
      · obtain ⟨q1, q6, hvn⟩ := hq2 ho
        have HE : Hid (r = cmpT2 zs[k] hd) := Lib.hid (by rw [HE0.out, prnH_2 ho, hzn])
        have HCo : Hid (∀ W, Fr Non w W → Calls Tryd.prog 37 #[znV zs[k], pdV hd t] W fun e w' => e = .returned (trV (cmpT2 zs[k] hd)) ∧ Fr Non W w') := Lib.hid (fun W hf2 => pzcompared_any zs[k] hd t W (HO.out.non hf2) hvn q1 q6)
        clear HE0 IH HV HZ HO HK hok hty h0 hpl hq2 hvn q1 q6 hf hne ha hzn
        generalize cmpT2 zs[k] hd = y at *
        generalize hz : zs[k] = z at *
        clear hz
        obtain ⟨ya, yb, yc⟩ := y
        obtain ⟨zr, zu, ⟨ln, li, lt⟩, ⟨hn2, hi, ht⟩⟩ := z
        obtain ⟨ho_, hc, hm, ⟨vn, vi, vt⟩, hkd, hp⟩ := hd
        obtain ⟨A, n, c⟩ := t
        dsimp only at ho hn HCo HZo
        clear hn
        subst ho
        obtain ⟨W0, hW0⟩ : ∃ W, W = knW w (.slice A1 cols.length c1) (.slice A2 zs.length c2) ⟨2, hc, hm, ⟨vn, vi, vt⟩, hkd, hp⟩ ⟨A, n, c⟩ := ⟨_, rfl⟩
        rw [← hW0] at F0 RB PB AB
        unfold knW at hW0
        unfold knV pdV at *
        unfold znV znC at *
        unfold trV at HCo
        unfold pdC kidV at *
        dsimp only at *
        generalize hg : w.heap.size = g at *
        have r0 := RB.out.cell 0
        have r1 := RB.out.cell 1
        simp at r0 r1
        obtain ⟨b0, b1, b2, b3, b4, b5, b6, b7, b8⟩ := pdB_cells PB.out
        dsimp only at b0 b1 b2 b3 b4 b5 b6 b7 b8
        go_enter Tryd.func20, Tryd.ntmps20
        go_wp2
        rw [← hW0]
        clear hW0
        obtain ⟨V, hV⟩ : ∃ V, V = W0.drew := ⟨_, rfl⟩
        refine wp_region_held_drew (S := (fun W' => W'.cell? ⟨g, 0, none⟩ = some (.slice A1 cols.length c1) ∧ W'.cell? ⟨g, 1, none⟩ = some (.slice A2 zs.length c2) ∧ W'.cell? ⟨g + 1, 0, none⟩ = some (.int .i64 2) ∧ W'.cell? ⟨g + 1, 1, none⟩ = some (.string ⟨hc.toArray⟩) ∧ W'.cell? ⟨g + 1, 2, none⟩ = some (.int .i64 hm) ∧ W'.cell? ⟨g + 1, 3, none⟩ = some (.bool vn) ∧ W'.cell? ⟨g + 1, 4, none⟩ = some (.int .i64 vi) ∧ W'.cell? ⟨g + 1, 5, none⟩ = some (.string ⟨vt.toArray⟩) ∧ W'.cell? ⟨g + 1, 6, none⟩ = some (.int .i64 hkd) ∧ W'.cell? ⟨g + 1, 7, none⟩ = some (.string ⟨hp.toArray⟩) ∧ W'.cell? ⟨g + 1, 8, none⟩ = some (.slice A n c))) (by kernel_rfl) (by exact ⟨r0, r1, b0, b1, b2, b3, b4, b5, b6, b7, b8⟩) (fun hHeld => ?_)
        rw [← hV]
        rw [← hV] at hHeld
        have FV : Fr Non W0 V := by rw [hV]; exact (Fr.refl Non W0).drew
        clear hV
        replace r0 := FV.at0 r0
        replace r1 := FV.at0 r1
        replace b0 := FV.at0 b0
        replace b1 := FV.at0 b1
        replace b2 := FV.at0 b2
        replace b3 := FV.at0 b3
        replace b4 := FV.at0 b4
        replace b5 := FV.at0 b5
        replace b6 := FV.at0 b6
        replace b7 := FV.at0 b7
        replace b8 := FV.at0 b8
        have AV : TrB 35 V (g + 1 + 1) ⟨false, false, false⟩ := AB.out.fr FV (fun e => e)
        have GV : Fr Non V V := Fr.refl Non V
        have FwV := Lib.hid (F0.out.trans FV)
        refine wpAnyH_take (i := 0) (oi := ⟨some 11, _, _, _, _, none⟩) (v := ?v1) rfl (by kernel_rfl) (by kernel_rfl) (by kernel_rfl) (fun _ _ _ h => h) (Or.inl ⟨by rfl, ?hy1⟩) (by assumption) ?rest1
        case hy1 => (intro wS hSw; (try dsimp only at hSw); go_simp; (try with_reducible rfl))
        (try simp only [Act.put, List.setIfInBounds_toArray, List.set_cons_zero, List.set_cons_succ])
        refine wpAnyH_take (i := 1) (oi := ⟨some 12, _, _, _, _, none⟩) (v := ?v2) rfl (by kernel_rfl) (by kernel_rfl) (by kernel_rfl) (fun _ _ _ h => h) (Or.inl ⟨by rfl, ?hy2⟩) (by assumption) ?rest2
        case hy2 => (intro wS hSw; (try dsimp only at hSw); go_simp; (try with_reducible rfl))
        (try simp only [Act.put, List.setIfInBounds_toArray, List.set_cons_zero, List.set_cons_succ])
        refine wpAnyH_take (i := 2) (oi := ⟨some 13, _, _, _, _, none⟩) (v := ?v3) rfl (by kernel_rfl) (by kernel_rfl) (by kernel_rfl) (fun _ _ _ h => h) (Or.inl ⟨by rfl, ?hy3⟩) (by assumption) ?rest3
        case hy3 => (intro wS hSw; (try dsimp only at hSw); go_simp; (try with_reducible rfl))
        (try simp only [Act.put, List.setIfInBounds_toArray, List.set_cons_zero, List.set_cons_succ])
        refine wpAnyH_take (i := 4) (oi := ⟨some 15, _, _, _, _, none⟩) (v := ?v4) rfl (by kernel_rfl) (by kernel_rfl) (by kernel_rfl) (fun _ _ _ h => h) (Or.inl ⟨by rfl, ?hy4⟩) (by assumption) ?rest4
        case hy4 => (intro wS hSw; (try dsimp only at hSw); go_simp; (try with_reducible rfl))
        (try simp only [Act.put, List.setIfInBounds_toArray, List.set_cons_zero, List.set_cons_succ])
        refine wpAnyH_ready (rs := [3]) (by kernel_rfl) (by simp) ?_
        refine AllReadyH.cons (o := ⟨some 14, _, _, _, _, none⟩) rfl (fun K hK => ?_) AllReadyH.nil
        go_simp
        go_at_call 38
        refine (HZo.out _ FwV.out).mono ?_
        rintro e w4 ⟨rfl, f4⟩
        have G4 := GV.trans f4
        go_wp2_with fail
        refine hK.out _ _ (by exact ⟨G4.at0 r0, G4.at0 r1, G4.at0 b0, G4.at0 b1, G4.at0 b2, G4.at0 b3, G4.at0 b4, G4.at0 b5, G4.at0 b6, G4.at0 b7, G4.at0 b8⟩) (fun hHeld => ?_)
        clear hK K
        (try simp only [Act.put, List.setIfInBounds_toArray, List.set_cons_zero, List.set_cons_succ])
        refine wpAnyH_ready (rs := [5]) (by kernel_rfl) (by simp) ?_
        refine AllReadyH.cons (o := ⟨some 16, _, _, _, _, none⟩) rfl (fun K hK => ?_) AllReadyH.nil
        go_simp
        go_at_call 37
        refine (HCo.out _ (FwV.out.trans G4)).mono ?_
        rintro e w5 ⟨rfl, f5⟩
        have G5 := G4.trans f5
        go_wp2_with fail
        refine hK.out _ _ (by exact ⟨G5.at0 r0, G5.at0 r1, G5.at0 b0, G5.at0 b1, G5.at0 b2, G5.at0 b3, G5.at0 b4, G5.at0 b5, G5.at0 b6, G5.at0 b7, G5.at0 b8⟩) (fun hHeld => ?_)
        clear hK K
        (try simp only [Act.put, List.setIfInBounds_toArray, List.set_cons_zero, List.set_cons_succ])
        refine wpAnyH_ready (rs := [6]) (by kernel_rfl) (by simp) ?_
        refine AllReadyH.cons (o := ⟨none, _, _, _, _, none⟩) rfl (fun K hK => ?_) AllReadyH.nil
        have TB5 : TrB 35 w5 (g + 1 + 1) ⟨false, false, false⟩ := AV.fr G5 (fun e => e)
        obtain ⟨p0, p1, p2, z0, z1, z2⟩ := TB5.facts
        obtain ⟨W6, hW6⟩ : ∃ W, W = setTr w5 (g + 1 + 1) ya yb yc := ⟨_, rfl⟩
        have s6 : Fr (One (g + 1 + 1)) w5 W6 := by rw [hW6]; exact setTr_fr _ _ _ _ _
        have TB6 : TrB 35 W6 (g + 1 + 1) ⟨ya, yb, yc⟩ := by rw [hW6]; exact setTr_B TB5 _ _ _
        have F6 : Fr Non w W6 := (FwV.out.trans G5).fresh s6 (fun k e => by have : k = g + 1 + 1 := e; omega)
        have q_r0 := (s6.cell (World.block_lt_of_cell? _ _ (G5.at0 r0)) (fun e => by have e2 : g = g + 1 + 1 := e; omega)).trans (G5.at0 r0)
        have q_r1 := (s6.cell (World.block_lt_of_cell? _ _ (G5.at0 r1)) (fun e => by have e2 : g = g + 1 + 1 := e; omega)).trans (G5.at0 r1)
        have q_b0 := (s6.cell (World.block_lt_of_cell? _ _ (G5.at0 b0)) (fun e => by have e2 : g + 1 = g + 1 + 1 := e; omega)).trans (G5.at0 b0)
        have q_b1 := (s6.cell (World.block_lt_of_cell? _ _ (G5.at0 b1)) (fun e => by have e2 : g + 1 = g + 1 + 1 := e; omega)).trans (G5.at0 b1)
        have q_b2 := (s6.cell (World.block_lt_of_cell? _ _ (G5.at0 b2)) (fun e => by have e2 : g + 1 = g + 1 + 1 := e; omega)).trans (G5.at0 b2)
        have q_b3 := (s6.cell (World.block_lt_of_cell? _ _ (G5.at0 b3)) (fun e => by have e2 : g + 1 = g + 1 + 1 := e; omega)).trans (G5.at0 b3)
        have q_b4 := (s6.cell (World.block_lt_of_cell? _ _ (G5.at0 b4)) (fun e => by have e2 : g + 1 = g + 1 + 1 := e; omega)).trans (G5.at0 b4)
        have q_b5 := (s6.cell (World.block_lt_of_cell? _ _ (G5.at0 b5)) (fun e => by have e2 : g + 1 = g + 1 + 1 := e; omega)).trans (G5.at0 b5)
        have q_b6 := (s6.cell (World.block_lt_of_cell? _ _ (G5.at0 b6)) (fun e => by have e2 : g + 1 = g + 1 + 1 := e; omega)).trans (G5.at0 b6)
        have q_b7 := (s6.cell (World.block_lt_of_cell? _ _ (G5.at0 b7)) (fun e => by have e2 : g + 1 = g + 1 + 1 := e; omega)).trans (G5.at0 b7)
        have q_b8 := (s6.cell (World.block_lt_of_cell? _ _ (G5.at0 b8)) (fun e => by have e2 : g + 1 = g + 1 + 1 := e; omega)).trans (G5.at0 b8)
        unfold setTr at hW6
        go_simp
        rw [← hW6]
        clear hW6 p0 p1 p2 z0 z1 z2
        refine hK.out _ _ (by exact ⟨q_r0, q_r1, q_b0, q_b1, q_b2, q_b3, q_b4, q_b5, q_b6, q_b7, q_b8⟩) (fun hHeld => ?_)
        clear hK K
        (try simp only [Act.put, List.setIfInBounds_toArray, List.set_cons_zero, List.set_cons_succ])
        refine wpAnyH_done (by kernel_rfl) ?_ _
        clear hHeld
        have TBH := Lib.hid TB6
        go_wp2
        exact bodyPost_ret (v := trV ⟨ya, yb, yc⟩) (ret_tr (p := 4) rfl _ _ _ ⟨ya, yb, yc⟩ (by rfl) TBH.out) rfl ⟨by rw [HE.out] <;> rfl, F6⟩
      · have HE : Hid (r = ⟨nullZ zs[k], someZ zs[k], false⟩) := Lib.hid (by rw [HE0.out, prnH_3 ho, hzn])
        have HSo := Lib.hid (fun W => pzsome_any zs[k] W)
        rw [show nullZ zs[k] = decide (0 < zs[k].nulls) from rfl] at HE
        clear HE0 IH HV HZ HO HK hok hty h0 hpl hq2 hf hne ha hzn
        generalize someZ zs[k] = ya at *
        generalize hz : zs[k] = z at *
        clear hz
        obtain ⟨zr, zu, ⟨ln, li, lt⟩, ⟨hn2, hi, ht⟩⟩ := z
        obtain ⟨ho_, hc, hm, ⟨vn, vi, vt⟩, hkd, hp⟩ := hd
        obtain ⟨A, n, c⟩ := t
        dsimp only at ho hn HZo HE
        clear hn
        subst ho
        obtain ⟨W0, hW0⟩ : ∃ W, W = knW w (.slice A1 cols.length c1) (.slice A2 zs.length c2) ⟨3, hc, hm, ⟨vn, vi, vt⟩, hkd, hp⟩ ⟨A, n, c⟩ := ⟨_, rfl⟩
        rw [← hW0] at F0 RB PB AB
        unfold knW at hW0
        unfold knV pdV at *
        unfold znV znC at *
        unfold pdC kidV at *
        dsimp only at *
        generalize hg : w.heap.size = g at *
        have r0 := RB.out.cell 0
        have r1 := RB.out.cell 1
        simp at r0 r1
        obtain ⟨b0, b1, b2, b3, b4, b5, b6, b7, b8⟩ := pdB_cells PB.out
        dsimp only at b0 b1 b2 b3 b4 b5 b6 b7 b8
        go_enter Tryd.func20, Tryd.ntmps20
        go_wp2_with fail
        rw [← hW0]
        clear hW0
        refine (HZo.out _ F0.out).mono ?_
        rintro e w4 ⟨rfl, f4⟩
        obtain ⟨W1, hW1⟩ : ∃ W, W = w4.alloc (.cells #[.int .i64 zr, .int .i64 zu, .bool ln, .int .i64 li, .string ⟨lt.toArray⟩, .bool hn2, .int .i64 hi, .string ⟨ht.toArray⟩] 33) := ⟨_, rfl⟩
        obtain ⟨D, hD⟩ : ∃ D, w4.heap.size = D := ⟨_, rfl⟩
        have f1 : Fr Non w4 W1 := by rw [hW1]; exact (Fr.refl Non w4).alloc _
        have ZB1 : ZnB W1 D ⟨zr, zu, ⟨ln, li, lt⟩, ⟨hn2, hi, ht⟩⟩ := by rw [hW1, ← hD]; exact Blk.new _ _ _
        have hDg : g + 1 + 1 < D := by have := (AB.out.fr f4 (fun e => e)).lt; omega
        have AB1 : Hid (TrB 35 W1 (g + 1 + 1) ⟨false, false, false⟩) := Lib.hid ((AB.out.fr f4 (fun e => e)).fr f1 (fun e => e))
        have F1 := Lib.hid ((F0.out.trans f4).trans f1)
        obtain ⟨y0, y1, y2, y3, y4, y5, y6, y7⟩ := znB_cells ZB1
        dsimp only at y0 y1 y2 y3 y4 y5 y6 y7
        clear r0 r1 b0 b1 b2 b3 b4 b5 b6 b7 b8 f4 f1 ZB1 AB F0
        go_wp2
        rw [← hW1]
        clear hW1 hD
        obtain ⟨V, hV⟩ : ∃ V, V = W1.drew := ⟨_, rfl⟩
        refine wp_region_held_drew (S := (fun W' => W'.cell? ⟨D, 0, none⟩ = some (.int .i64 zr) ∧ W'.cell? ⟨D, 1, none⟩ = some (.int .i64 zu) ∧ W'.cell? ⟨D, 2, none⟩ = some (.bool ln) ∧ W'.cell? ⟨D, 3, none⟩ = some (.int .i64 li) ∧ W'.cell? ⟨D, 4, none⟩ = some (.string ⟨lt.toArray⟩) ∧ W'.cell? ⟨D, 5, none⟩ = some (.bool hn2) ∧ W'.cell? ⟨D, 6, none⟩ = some (.int .i64 hi) ∧ W'.cell? ⟨D, 7, none⟩ = some (.string ⟨ht.toArray⟩))) (by kernel_rfl) (by exact ⟨y0, y1, y2, y3, y4, y5, y6, y7⟩) (fun hHeld => ?_)
        rw [← hV]
        rw [← hV] at hHeld
        have FV : Fr Non W1 V := by rw [hV]; exact (Fr.refl Non W1).drew
        clear hV
        replace y0 := FV.at0 y0
        replace y1 := FV.at0 y1
        replace y2 := FV.at0 y2
        replace y3 := FV.at0 y3
        replace y4 := FV.at0 y4
        replace y5 := FV.at0 y5
        replace y6 := FV.at0 y6
        replace y7 := FV.at0 y7
        have AV : TrB 35 V (g + 1 + 1) ⟨false, false, false⟩ := AB1.out.fr FV (fun e => e)
        have GV : Fr Non V V := Fr.refl Non V
        have FwV := Lib.hid (F1.out.trans FV)
        refine wpAnyH_take (i := 0) (oi := ⟨some 23, _, _, _, _, none⟩) (v := ?v5) rfl (by kernel_rfl) (by kernel_rfl) (by kernel_rfl) (fun _ _ _ h => h) (Or.inl ⟨by rfl, ?hy5⟩) (by assumption) ?rest5
        case hy5 => (intro wS hSw; (try dsimp only at hSw); go_simp; (try with_reducible rfl))
        (try simp only [Act.put, List.setIfInBounds_toArray, List.set_cons_zero, List.set_cons_succ])
        refine wpAnyH_take (i := 1) (oi := ⟨some 24, _, _, _, _, none⟩) (v := ?v6) rfl (by kernel_rfl) (by kernel_rfl) (by kernel_rfl) (fun _ _ _ h => h) (Or.inl ⟨by rfl, ?hy6⟩) (by assumption) ?rest6
        case hy6 => (intro wS hSw; (try dsimp only at hSw); go_simp; (try with_reducible rfl))
        (try simp only [Act.put, List.setIfInBounds_toArray, List.set_cons_zero, List.set_cons_succ])
        refine wpAnyH_take (i := 2) (oi := ⟨some 25, _, _, _, _, none⟩) (v := ?v7) rfl (by kernel_rfl) (by kernel_rfl) (by kernel_rfl) (fun _ _ _ h => h) (Or.inl ⟨by rfl, ?hy7⟩) (by assumption) ?rest7
        case hy7 => (intro wS hSw; (try dsimp only at hSw); go_simp; (try with_reducible rfl))
        (try simp only [Act.put, List.setIfInBounds_toArray, List.set_cons_zero, List.set_cons_succ])
        refine wpAnyH_take (i := 3) (oi := ⟨some 26, _, _, _, _, none⟩) (v := ?v8) rfl (by kernel_rfl) (by kernel_rfl) (by kernel_rfl) (fun _ _ _ h => h) (Or.inl ⟨by rfl, ?hy8⟩) (by assumption) ?rest8
        case hy8 => (intro wS hSw; (try dsimp only at hSw); go_simp; (try with_reducible rfl))
        (try simp only [Act.put, List.setIfInBounds_toArray, List.set_cons_zero, List.set_cons_succ])
        refine wpAnyH_ready (rs := [4]) (by kernel_rfl) (by simp) ?_
        refine AllReadyH.cons (o := ⟨some 27, _, _, _, _, none⟩) rfl (fun K hK => ?_) AllReadyH.nil
        go_simp
        go_at_call 39
        refine (HSo.out _).mono ?_
        rintro e w5 ⟨rfl, f5⟩
        have G5 := GV.trans f5
        go_wp2_with fail
        refine hK.out _ _ (by exact ⟨G5.at0 y0, G5.at0 y1, G5.at0 y2, G5.at0 y3, G5.at0 y4, G5.at0 y5, G5.at0 y6, G5.at0 y7⟩) (fun hHeld => ?_)
        clear hK K
        (try simp only [Act.put, List.setIfInBounds_toArray, List.set_cons_zero, List.set_cons_succ])
        refine wpAnyH_take (i := 5) (oi := ⟨some 28, _, _, _, _, none⟩) (v := ?v9) rfl (by kernel_rfl) (by kernel_rfl) (by kernel_rfl) (fun _ _ _ h => h) (Or.inl ⟨by rfl, ?hy9⟩) (by assumption) ?rest9
        case hy9 => (intro wS hSw; (try dsimp only at hSw); go_simp; (try with_reducible rfl))
        (try simp only [Act.put, List.setIfInBounds_toArray, List.set_cons_zero, List.set_cons_succ])
        refine wpAnyH_ready (rs := [6]) (by kernel_rfl) (by simp) ?_
        refine AllReadyH.cons (o := ⟨none, _, _, _, _, none⟩) rfl (fun K hK => ?_) AllReadyH.nil
        have TB5 : TrB 35 w5 (g + 1 + 1) ⟨false, false, false⟩ := AV.fr G5 (fun e => e)
        obtain ⟨p0, p1, p2, z0, z1, z2⟩ := TB5.facts
        obtain ⟨W6, hW6⟩ : ∃ W, W = setTr w5 (g + 1 + 1) (decide (0 < zu)) ya false := ⟨_, rfl⟩
        have s6 : Fr (One (g + 1 + 1)) w5 W6 := by rw [hW6]; exact setTr_fr _ _ _ _ _
        have TB6 : TrB 35 W6 (g + 1 + 1) ⟨(decide (0 < zu)), ya, false⟩ := by rw [hW6]; exact setTr_B TB5 _ _ _
        have F6 : Fr Non w W6 := (FwV.out.trans G5).fresh s6 (fun k e => by have : k = g + 1 + 1 := e; omega)
        have q_y0 := (s6.cell (World.block_lt_of_cell? _ _ (G5.at0 y0)) (fun e => by have e2 : D = g + 1 + 1 := e; omega)).trans (G5.at0 y0)
        have q_y1 := (s6.cell (World.block_lt_of_cell? _ _ (G5.at0 y1)) (fun e => by have e2 : D = g + 1 + 1 := e; omega)).trans (G5.at0 y1)
        have q_y2 := (s6.cell (World.block_lt_of_cell? _ _ (G5.at0 y2)) (fun e => by have e2 : D = g + 1 + 1 := e; omega)).trans (G5.at0 y2)
        have q_y3 := (s6.cell (World.block_lt_of_cell? _ _ (G5.at0 y3)) (fun e => by have e2 : D = g + 1 + 1 := e; omega)).trans (G5.at0 y3)
        have q_y4 := (s6.cell (World.block_lt_of_cell? _ _ (G5.at0 y4)) (fun e => by have e2 : D = g + 1 + 1 := e; omega)).trans (G5.at0 y4)
        have q_y5 := (s6.cell (World.block_lt_of_cell? _ _ (G5.at0 y5)) (fun e => by have e2 : D = g + 1 + 1 := e; omega)).trans (G5.at0 y5)
        have q_y6 := (s6.cell (World.block_lt_of_cell? _ _ (G5.at0 y6)) (fun e => by have e2 : D = g + 1 + 1 := e; omega)).trans (G5.at0 y6)
        have q_y7 := (s6.cell (World.block_lt_of_cell? _ _ (G5.at0 y7)) (fun e => by have e2 : D = g + 1 + 1 := e; omega)).trans (G5.at0 y7)
        unfold setTr at hW6
        go_simp
        rw [← hW6]
        clear hW6 p0 p1 p2 z0 z1 z2
        refine hK.out _ _ (by exact ⟨q_y0, q_y1, q_y2, q_y3, q_y4, q_y5, q_y6, q_y7⟩) (fun hHeld => ?_)
        clear hK K
        (try simp only [Act.put, List.setIfInBounds_toArray, List.set_cons_zero, List.set_cons_succ])
        refine wpAnyH_done (by kernel_rfl) ?_ _
        clear hHeld
        have TBH := Lib.hid TB6
        go_wp2
        exact bodyPost_ret (v := trV ⟨(decide (0 < zu)), ya, false⟩) (ret_tr (p := 4) rfl _ _ _ ⟨(decide (0 < zu)), ya, false⟩ (by rfl) TBH.out) rfl ⟨by rw [HE.out] <;> rfl, F6⟩
      · have HE : Hid (r = ⟨someZ zs[k], someZ zs[k], nullZ zs[k]⟩) := Lib.hid (by rw [HE0.out, prnH_4 ho, hzn])
        have HSo := Lib.hid (fun W => pzsome_any zs[k] W)
        rw [show nullZ zs[k] = decide (0 < zs[k].nulls) from rfl] at HE
        clear HE0 IH HV HZ HO HK hok hty h0 hpl hq2 hf hne ha hzn
        generalize someZ zs[k] = ya at *
        generalize hz : zs[k] = z at *
        clear hz
        obtain ⟨zr, zu, ⟨ln, li, lt⟩, ⟨hn2, hi, ht⟩⟩ := z
        obtain ⟨ho_, hc, hm, ⟨vn, vi, vt⟩, hkd, hp⟩ := hd
        obtain ⟨A, n, c⟩ := t
        dsimp only at ho hn HZo HE
        clear hn
        subst ho
        obtain ⟨W0, hW0⟩ : ∃ W, W = knW w (.slice A1 cols.length c1) (.slice A2 zs.length c2) ⟨4, hc, hm, ⟨vn, vi, vt⟩, hkd, hp⟩ ⟨A, n, c⟩ := ⟨_, rfl⟩
        rw [← hW0] at F0 RB PB AB
        unfold knW at hW0
        unfold knV pdV at *
        unfold znV znC at *
        unfold pdC kidV at *
        dsimp only at *
        generalize hg : w.heap.size = g at *
        have r0 := RB.out.cell 0
        have r1 := RB.out.cell 1
        simp at r0 r1
        obtain ⟨b0, b1, b2, b3, b4, b5, b6, b7, b8⟩ := pdB_cells PB.out
        dsimp only at b0 b1 b2 b3 b4 b5 b6 b7 b8
        go_enter Tryd.func20, Tryd.ntmps20
        go_wp2_with fail
        rw [← hW0]
        clear hW0
        refine (HZo.out _ F0.out).mono ?_
        rintro e w4 ⟨rfl, f4⟩
        obtain ⟨W1, hW1⟩ : ∃ W, W = w4.alloc (.cells #[.int .i64 zr, .int .i64 zu, .bool ln, .int .i64 li, .string ⟨lt.toArray⟩, .bool hn2, .int .i64 hi, .string ⟨ht.toArray⟩] 33) := ⟨_, rfl⟩
        obtain ⟨D, hD⟩ : ∃ D, w4.heap.size = D := ⟨_, rfl⟩
        have f1 : Fr Non w4 W1 := by rw [hW1]; exact (Fr.refl Non w4).alloc _
        have ZB1 : ZnB W1 D ⟨zr, zu, ⟨ln, li, lt⟩, ⟨hn2, hi, ht⟩⟩ := by rw [hW1, ← hD]; exact Blk.new _ _ _
        have hDg : g + 1 + 1 < D := by have := (AB.out.fr f4 (fun e => e)).lt; omega
        have AB1 : Hid (TrB 35 W1 (g + 1 + 1) ⟨false, false, false⟩) := Lib.hid ((AB.out.fr f4 (fun e => e)).fr f1 (fun e => e))
        have F1 := Lib.hid ((F0.out.trans f4).trans f1)
        obtain ⟨y0, y1, y2, y3, y4, y5, y6, y7⟩ := znB_cells ZB1
        dsimp only at y0 y1 y2 y3 y4 y5 y6 y7
        clear r0 r1 b0 b1 b2 b3 b4 b5 b6 b7 b8 f4 f1 ZB1 AB F0
        go_wp2
        rw [← hW1]
        clear hW1 hD
        obtain ⟨V, hV⟩ : ∃ V, V = W1.drew := ⟨_, rfl⟩
        refine wp_region_held_drew (S := (fun W' => W'.cell? ⟨D, 0, none⟩ = some (.int .i64 zr) ∧ W'.cell? ⟨D, 1, none⟩ = some (.int .i64 zu) ∧ W'.cell? ⟨D, 2, none⟩ = some (.bool ln) ∧ W'.cell? ⟨D, 3, none⟩ = some (.int .i64 li) ∧ W'.cell? ⟨D, 4, none⟩ = some (.string ⟨lt.toArray⟩) ∧ W'.cell? ⟨D, 5, none⟩ = some (.bool hn2) ∧ W'.cell? ⟨D, 6, none⟩ = some (.int .i64 hi) ∧ W'.cell? ⟨D, 7, none⟩ = some (.string ⟨ht.toArray⟩))) (by kernel_rfl) (by exact ⟨y0, y1, y2, y3, y4, y5, y6, y7⟩) (fun hHeld => ?_)
        rw [← hV]
        rw [← hV] at hHeld
        have FV : Fr Non W1 V := by rw [hV]; exact (Fr.refl Non W1).drew
        clear hV
        replace y0 := FV.at0 y0
        replace y1 := FV.at0 y1
        replace y2 := FV.at0 y2
        replace y3 := FV.at0 y3
        replace y4 := FV.at0 y4
        replace y5 := FV.at0 y5
        replace y6 := FV.at0 y6
        replace y7 := FV.at0 y7
        have AV : TrB 35 V (g + 1 + 1) ⟨false, false, false⟩ := AB1.out.fr FV (fun e => e)
        have GV : Fr Non V V := Fr.refl Non V
        have FwV := Lib.hid (F1.out.trans FV)
        refine wpAnyH_take (i := 0) (oi := ⟨some 35, _, _, _, _, none⟩) (v := ?v10) rfl (by kernel_rfl) (by kernel_rfl) (by kernel_rfl) (fun _ _ _ h => h) (Or.inl ⟨by rfl, ?hy10⟩) (by assumption) ?rest10
        case hy10 => (intro wS hSw; (try dsimp only at hSw); go_simp; (try with_reducible rfl))
        (try simp only [Act.put, List.setIfInBounds_toArray, List.set_cons_zero, List.set_cons_succ])
        refine wpAnyH_take (i := 2) (oi := ⟨some 37, _, _, _, _, none⟩) (v := ?v11) rfl (by kernel_rfl) (by kernel_rfl) (by kernel_rfl) (fun _ _ _ h => h) (Or.inl ⟨by rfl, ?hy11⟩) (by assumption) ?rest11
        case hy11 => (intro wS hSw; (try dsimp only at hSw); go_simp; (try with_reducible rfl))
        (try simp only [Act.put, List.setIfInBounds_toArray, List.set_cons_zero, List.set_cons_succ])
        refine wpAnyH_take (i := 4) (oi := ⟨some 39, _, _, _, _, none⟩) (v := ?v12) rfl (by kernel_rfl) (by kernel_rfl) (by kernel_rfl) (fun _ _ _ h => h) (Or.inl ⟨by rfl, ?hy12⟩) (by assumption) ?rest12
        case hy12 => (intro wS hSw; (try dsimp only at hSw); go_simp; (try with_reducible rfl))
        (try simp only [Act.put, List.setIfInBounds_toArray, List.set_cons_zero, List.set_cons_succ])
        refine wpAnyH_take (i := 5) (oi := ⟨some 40, _, _, _, _, none⟩) (v := ?v13) rfl (by kernel_rfl) (by kernel_rfl) (by kernel_rfl) (fun _ _ _ h => h) (Or.inl ⟨by rfl, ?hy13⟩) (by assumption) ?rest13
        case hy13 => (intro wS hSw; (try dsimp only at hSw); go_simp; (try with_reducible rfl))
        (try simp only [Act.put, List.setIfInBounds_toArray, List.set_cons_zero, List.set_cons_succ])
        refine wpAnyH_take (i := 6) (oi := ⟨some 41, _, _, _, _, none⟩) (v := ?v14) rfl (by kernel_rfl) (by kernel_rfl) (by kernel_rfl) (fun _ _ _ h => h) (Or.inl ⟨by rfl, ?hy14⟩) (by assumption) ?rest14
        case hy14 => (intro wS hSw; (try dsimp only at hSw); go_simp; (try with_reducible rfl))
        (try simp only [Act.put, List.setIfInBounds_toArray, List.set_cons_zero, List.set_cons_succ])
        refine wpAnyH_ready (rs := [1]) (by kernel_rfl) (by simp) ?_
        refine AllReadyH.cons (o := ⟨some 36, _, _, _, _, none⟩) rfl (fun K hK => ?_) AllReadyH.nil
        go_simp
        go_at_call 39
        refine (HSo.out _).mono ?_
        rintro e w5 ⟨rfl, f5⟩
        have G5 := GV.trans f5
        go_wp2_with fail
        refine hK.out _ _ (by exact ⟨G5.at0 y0, G5.at0 y1, G5.at0 y2, G5.at0 y3, G5.at0 y4, G5.at0 y5, G5.at0 y6, G5.at0 y7⟩) (fun hHeld => ?_)
        clear hK K
        (try simp only [Act.put, List.setIfInBounds_toArray, List.set_cons_zero, List.set_cons_succ])
        refine wpAnyH_ready (rs := [3]) (by kernel_rfl) (by simp) ?_
        refine AllReadyH.cons (o := ⟨some 38, _, _, _, _, none⟩) rfl (fun K hK => ?_) AllReadyH.nil
        go_simp
        go_at_call 39
        refine (HSo.out _).mono ?_
        rintro e w6 ⟨rfl, f6⟩
        have G6 := G5.trans f6
        go_wp2_with fail
        refine hK.out _ _ (by exact ⟨G6.at0 y0, G6.at0 y1, G6.at0 y2, G6.at0 y3, G6.at0 y4, G6.at0 y5, G6.at0 y6, G6.at0 y7⟩) (fun hHeld => ?_)
        clear hK K
        (try simp only [Act.put, List.setIfInBounds_toArray, List.set_cons_zero, List.set_cons_succ])
        refine wpAnyH_take (i := 7) (oi := ⟨some 42, _, _, _, _, none⟩) (v := ?v15) rfl (by kernel_rfl) (by kernel_rfl) (by kernel_rfl) (fun _ _ _ h => h) (Or.inl ⟨by rfl, ?hy15⟩) (by assumption) ?rest15
        case hy15 => (intro wS hSw; (try dsimp only at hSw); go_simp; (try with_reducible rfl))
        (try simp only [Act.put, List.setIfInBounds_toArray, List.set_cons_zero, List.set_cons_succ])
        refine wpAnyH_ready (rs := [8]) (by kernel_rfl) (by simp) ?_
        refine AllReadyH.cons (o := ⟨none, _, _, _, _, none⟩) rfl (fun K hK => ?_) AllReadyH.nil
        have TB5 : TrB 35 w6 (g + 1 + 1) ⟨false, false, false⟩ := AV.fr G6 (fun e => e)
        obtain ⟨p0, p1, p2, z0, z1, z2⟩ := TB5.facts
        obtain ⟨W6, hW6⟩ : ∃ W, W = setTr w6 (g + 1 + 1) ya ya (decide (0 < zu)) := ⟨_, rfl⟩
        have s6 : Fr (One (g + 1 + 1)) w6 W6 := by rw [hW6]; exact setTr_fr _ _ _ _ _
        have TB6 : TrB 35 W6 (g + 1 + 1) ⟨ya, ya, (decide (0 < zu))⟩ := by rw [hW6]; exact setTr_B TB5 _ _ _
        have F6 : Fr Non w W6 := (FwV.out.trans G6).fresh s6 (fun k e => by have : k = g + 1 + 1 := e; omega)
        have q_y0 := (s6.cell (World.block_lt_of_cell? _ _ (G6.at0 y0)) (fun e => by have e2 : D = g + 1 + 1 := e; omega)).trans (G6.at0 y0)
        have q_y1 := (s6.cell (World.block_lt_of_cell? _ _ (G6.at0 y1)) (fun e => by have e2 : D = g + 1 + 1 := e; omega)).trans (G6.at0 y1)
        have q_y2 := (s6.cell (World.block_lt_of_cell? _ _ (G6.at0 y2)) (fun e => by have e2 : D = g + 1 + 1 := e; omega)).trans (G6.at0 y2)
        have q_y3 := (s6.cell (World.block_lt_of_cell? _ _ (G6.at0 y3)) (fun e => by have e2 : D = g + 1 + 1 := e; omega)).trans (G6.at0 y3)
        have q_y4 := (s6.cell (World.block_lt_of_cell? _ _ (G6.at0 y4)) (fun e => by have e2 : D = g + 1 + 1 := e; omega)).trans (G6.at0 y4)
        have q_y5 := (s6.cell (World.block_lt_of_cell? _ _ (G6.at0 y5)) (fun e => by have e2 : D = g + 1 + 1 := e; omega)).trans (G6.at0 y5)
        have q_y6 := (s6.cell (World.block_lt_of_cell? _ _ (G6.at0 y6)) (fun e => by have e2 : D = g + 1 + 1 := e; omega)).trans (G6.at0 y6)
        have q_y7 := (s6.cell (World.block_lt_of_cell? _ _ (G6.at0 y7)) (fun e => by have e2 : D = g + 1 + 1 := e; omega)).trans (G6.at0 y7)
        unfold setTr at hW6
        go_simp
        rw [← hW6]
        clear hW6 p0 p1 p2 z0 z1 z2
        refine hK.out _ _ (by exact ⟨q_y0, q_y1, q_y2, q_y3, q_y4, q_y5, q_y6, q_y7⟩) (fun hHeld => ?_)
        clear hK K
        (try simp only [Act.put, List.setIfInBounds_toArray, List.set_cons_zero, List.set_cons_succ])
        refine wpAnyH_done (by kernel_rfl) ?_ _
        clear hHeld
        have TBH := Lib.hid TB6
        go_wp2
        exact bodyPost_ret (v := trV ⟨ya, ya, (decide (0 < zu))⟩) (ret_tr (p := 4) rfl _ _ _ ⟨ya, ya, (decide (0 < zu))⟩ (by rfl) TBH.out) rfl ⟨by rw [HE.out] <;> rfl, F6⟩
    · have hk1 : 0 < ks.length := by omega
      obtain ⟨a, t', hA, hc2, hkk, _⟩ := HK.out.elN (Fr.refl Non w) 0 hk1
      have HT : Hid (∀ W, Fr Non w W → Calls Tryd.prog 20 #[knV (.slice A1 cols.length c1) (.slice A2 zs.length c2), pdV ks[0].hd t'] W fun e w' => e = .returned (trV (prnP cols zs ks[0])) ∧ Fr Non W w') :=
        Lib.hid (fun W hf => IH.out 0 hk1 W t' hf (hkk.non hf))
      have HE : Hid (r = notT2 (prnP cols zs ks[0])) := Lib.hid (by
        rw [HE0.out, prnH_5 ho]
        cases ks with
        | nil => simp at hk1
        | cons x l => rfl)
      clear HE0 IH HV HZ HO HK hok hty hpl hkk
      generalize prnP cols zs ks[0] = z at *
      generalize ks[0].hd = x at *
      obtain ⟨xo, xc, xm, ⟨xn, xi, xt⟩, xk, xp⟩ := x
      obtain ⟨tA, tn, tc⟩ := t'
      obtain ⟨ya, yb, yc⟩ := z
      have HNo := Lib.hid (fun W => pznot_any ⟨ya, yb, yc⟩ W)
      rw [Nat.zero_mul, add_none] at hc2
      obtain ⟨k0, k1, k2, k3, k4, k5, k6, k7, k8⟩ := hc2
      have hn1 : 0 < t.n := by omega
      clear h0 hk1
      obtain ⟨ho_, hc, hm, ⟨vn, vi, vt⟩, hkd, hp⟩ := hd
      obtain ⟨A, n, c⟩ := t
      dsimp only at ho hn hA hn1
      clear hn
      subst ho
      obtain ⟨W0, hW0⟩ : ∃ W, W = knW w (.slice A1 cols.length c1) (.slice A2 zs.length c2) ⟨5, hc, hm, ⟨vn, vi, vt⟩, hkd, hp⟩ ⟨A, n, c⟩ := ⟨_, rfl⟩
      rw [← hW0] at F0 RB PB AB
      have hka := World.block_lt_of_cell? _ _ k0
      replace k0 := F0.out.at0 k0
      replace k1 := F0.out.at0 k1
      replace k2 := F0.out.at0 k2
      replace k3 := F0.out.at0 k3
      replace k4 := F0.out.at0 k4
      replace k5 := F0.out.at0 k5
      replace k6 := F0.out.at0 k6
      replace k7 := F0.out.at0 k7
      replace k8 := F0.out.at0 k8
      unfold knW at hW0
      unfold knV pdV at *
      unfold trV at HT HNo
      unfold notT2 at HNo
      unfold pdC kidV at *
      dsimp only at *
      generalize hg : w.heap.size = g at *
      subst hA
      have r0 := RB.out.cell 0
      have r1 := RB.out.cell 1
      simp at r0 r1
      obtain ⟨b0, b1, b2, b3, b4, b5, b6, b7, b8⟩ := pdB_cells PB.out
      dsimp only at b0 b1 b2 b3 b4 b5 b6 b7 b8
      go_enter Tryd.func20, Tryd.ntmps20
      go_wp2
      rw [← hW0]
      clear hW0
      obtain ⟨V, hV⟩ : ∃ V, V = W0.drew := ⟨_, rfl⟩
      refine wp_region_held_drew (S := (fun W' => W'.cell? ⟨g, 0, none⟩ = some (.slice A1 cols.length c1) ∧ W'.cell? ⟨g, 1, none⟩ = some (.slice A2 zs.length c2) ∧ W'.cell? ⟨g + 1, 0, none⟩ = some (.int .i64 5) ∧ W'.cell? ⟨g + 1, 1, none⟩ = some (.string ⟨hc.toArray⟩) ∧ W'.cell? ⟨g + 1, 2, none⟩ = some (.int .i64 hm) ∧ W'.cell? ⟨g + 1, 3, none⟩ = some (.bool vn) ∧ W'.cell? ⟨g + 1, 4, none⟩ = some (.int .i64 vi) ∧ W'.cell? ⟨g + 1, 5, none⟩ = some (.string ⟨vt.toArray⟩) ∧ W'.cell? ⟨g + 1, 6, none⟩ = some (.int .i64 hkd) ∧ W'.cell? ⟨g + 1, 7, none⟩ = some (.string ⟨hp.toArray⟩) ∧ W'.cell? ⟨g + 1, 8, none⟩ = some (.slice (some a) n c) ∧ W'.cell? a = some (.int .i64 xo) ∧ W'.cell? { block := a.block, off := a.off + 1 } = some (.string ⟨xc.toArray⟩) ∧ W'.cell? { block := a.block, off := a.off + 2 } = some (.int .i64 xm) ∧ W'.cell? { block := a.block, off := a.off + 3 } = some (.bool xn) ∧ W'.cell? { block := a.block, off := a.off + 4 } = some (.int .i64 xi) ∧ W'.cell? { block := a.block, off := a.off + 5 } = some (.string ⟨xt.toArray⟩) ∧ W'.cell? { block := a.block, off := a.off + 6 } = some (.int .i64 xk) ∧ W'.cell? { block := a.block, off := a.off + 7 } = some (.string ⟨xp.toArray⟩) ∧ W'.cell? { block := a.block, off := a.off + 8 } = some (.slice tA tn tc))) (by kernel_rfl) (by exact ⟨r0, r1, b0, b1, b2, b3, b4, b5, b6, b7, b8, k0, k1, k2, k3, k4, k5, k6, k7, k8⟩) (fun hHeld => ?_)
      rw [← hV]
      rw [← hV] at hHeld
      have FV : Fr Non W0 V := by rw [hV]; exact (Fr.refl Non W0).drew
      clear hV
      replace r0 := FV.at0 r0
      replace r1 := FV.at0 r1
      replace b0 := FV.at0 b0
      replace b1 := FV.at0 b1
      replace b2 := FV.at0 b2
      replace b3 := FV.at0 b3
      replace b4 := FV.at0 b4
      replace b5 := FV.at0 b5
      replace b6 := FV.at0 b6
      replace b7 := FV.at0 b7
      replace b8 := FV.at0 b8
      replace k0 := FV.at0 k0
      replace k1 := FV.at0 k1
      replace k2 := FV.at0 k2
      replace k3 := FV.at0 k3
      replace k4 := FV.at0 k4
      replace k5 := FV.at0 k5
      replace k6 := FV.at0 k6
      replace k7 := FV.at0 k7
      replace k8 := FV.at0 k8
      have AV : TrB 35 V (g + 1 + 1) ⟨false, false, false⟩ := AB.out.fr FV (fun e => e)
      have GV : Fr Non V V := Fr.refl Non V
      have FwV := Lib.hid (F0.out.trans FV)
      refine wpAnyH_take (i := 0) (oi := ⟨some 45, _, _, _, _, none⟩) (v := ?v16) rfl (by kernel_rfl) (by kernel_rfl) (by kernel_rfl) (fun _ _ _ h => h) (Or.inl ⟨by rfl, ?hy16⟩) (by assumption) ?rest16
      case hy16 => (intro wS hSw; (try dsimp only at hSw); go_simp; (try with_reducible rfl))
      (try simp only [Act.put, List.setIfInBounds_toArray, List.set_cons_zero, List.set_cons_succ])
      refine wpAnyH_take (i := 1) (oi := ⟨some 46, _, _, _, _, none⟩) (v := ?v17) rfl (by kernel_rfl) (by kernel_rfl) (by kernel_rfl) (fun _ _ _ h => h) (Or.inl ⟨by rfl, ?hy17⟩) (by assumption) ?rest17
      case hy17 => (intro wS hSw; (try dsimp only at hSw); go_simp; (try with_reducible rfl))
      (try simp only [Act.put, List.setIfInBounds_toArray, List.set_cons_zero, List.set_cons_succ])
      refine wpAnyH_take (i := 2) (oi := ⟨some 47, _, _, _, _, none⟩) (v := ?v18) rfl (by kernel_rfl) (by kernel_rfl) (by kernel_rfl) (fun _ _ _ h => h) (Or.inl ⟨by rfl, ?hy18⟩) (by assumption) ?rest18
      case hy18 => (intro wS hSw; (try dsimp only at hSw); go_simp; (try with_reducible rfl))
      (try simp only [Act.put, List.setIfInBounds_toArray, List.set_cons_zero, List.set_cons_succ])
      refine wpAnyH_take (i := 3) (oi := ⟨some 48, _, _, _, _, none⟩) (v := ?v19) rfl (by kernel_rfl) (by kernel_rfl) (by kernel_rfl) (fun _ _ _ h => h) (Or.inl ⟨by rfl, ?hy19⟩) (by assumption) ?rest19
      case hy19 => (intro wS hSw; (try dsimp only at hSw); go_simp; (try with_reducible rfl))
      (try simp only [Act.put, List.setIfInBounds_toArray, List.set_cons_zero, List.set_cons_succ])
      refine wpAnyH_take (i := 4) (oi := ⟨some 49, _, _, _, _, none⟩) (v := ?v20) rfl (by kernel_rfl) (by kernel_rfl) (by kernel_rfl) (fun _ _ _ h => h) (Or.inl ⟨by rfl, ?hy20⟩) (by assumption) ?rest20
      case hy20 => (intro wS hSw; (try dsimp only at hSw); go_simp; (try with_reducible rfl))
      (try simp only [Act.put, List.setIfInBounds_toArray, List.set_cons_zero, List.set_cons_succ])
      refine wpAnyH_ready (rs := [5]) (by kernel_rfl) (by simp) ?_
      refine AllReadyH.cons (o := ⟨some 50, _, _, _, _, none⟩) rfl (fun K hK => ?_) AllReadyH.nil
      go_simp
      go_at_call 20
      refine (HT.out _ FwV.out).mono ?_
      rintro e w4 ⟨rfl, f4⟩
      have G4 := GV.trans f4
      go_wp2_with fail
      refine hK.out _ _ (by exact ⟨G4.at0 r0, G4.at0 r1, G4.at0 b0, G4.at0 b1, G4.at0 b2, G4.at0 b3, G4.at0 b4, G4.at0 b5, G4.at0 b6, G4.at0 b7, G4.at0 b8, G4.at0 k0, G4.at0 k1, G4.at0 k2, G4.at0 k3, G4.at0 k4, G4.at0 k5, G4.at0 k6, G4.at0 k7, G4.at0 k8⟩) (fun hHeld => ?_)
      clear hK K
      (try simp only [Act.put, List.setIfInBounds_toArray, List.set_cons_zero, List.set_cons_succ])
      refine wpAnyH_ready (rs := [6]) (by kernel_rfl) (by simp) ?_
      refine AllReadyH.cons (o := ⟨some 51, _, _, _, _, none⟩) rfl (fun K hK => ?_) AllReadyH.nil
      go_simp
      go_at_call 40
      refine (HNo.out _).mono ?_
      rintro e w5 ⟨rfl, f5⟩
      have G5 := G4.trans f5
      go_wp2_with fail
      refine hK.out _ _ (by exact ⟨G5.at0 r0, G5.at0 r1, G5.at0 b0, G5.at0 b1, G5.at0 b2, G5.at0 b3, G5.at0 b4, G5.at0 b5, G5.at0 b6, G5.at0 b7, G5.at0 b8, G5.at0 k0, G5.at0 k1, G5.at0 k2, G5.at0 k3, G5.at0 k4, G5.at0 k5, G5.at0 k6, G5.at0 k7, G5.at0 k8⟩) (fun hHeld => ?_)
      clear hK K
      (try simp only [Act.put, List.setIfInBounds_toArray, List.set_cons_zero, List.set_cons_succ])
      refine wpAnyH_ready (rs := [7]) (by kernel_rfl) (by simp) ?_
      refine AllReadyH.cons (o := ⟨none, _, _, _, _, none⟩) rfl (fun K hK => ?_) AllReadyH.nil
      have TB5 : TrB 35 w5 (g + 1 + 1) ⟨false, false, false⟩ := AV.fr G5 (fun e => e)
      obtain ⟨p0, p1, p2, z0, z1, z2⟩ := TB5.facts
      obtain ⟨W6, hW6⟩ : ∃ W, W = setTr w5 (g + 1 + 1) yb ya yc := ⟨_, rfl⟩
      have s6 : Fr (One (g + 1 + 1)) w5 W6 := by rw [hW6]; exact setTr_fr _ _ _ _ _
      have TB6 : TrB 35 W6 (g + 1 + 1) ⟨yb, ya, yc⟩ := by rw [hW6]; exact setTr_B TB5 _ _ _
      have F6 : Fr Non w W6 := (FwV.out.trans G5).fresh s6 (fun k e => by have : k = g + 1 + 1 := e; omega)
      have q_r0 := (s6.cell (World.block_lt_of_cell? _ _ (G5.at0 r0)) (fun e => by have e2 : g = g + 1 + 1 := e; omega)).trans (G5.at0 r0)
      have q_r1 := (s6.cell (World.block_lt_of_cell? _ _ (G5.at0 r1)) (fun e => by have e2 : g = g + 1 + 1 := e; omega)).trans (G5.at0 r1)
      have q_b0 := (s6.cell (World.block_lt_of_cell? _ _ (G5.at0 b0)) (fun e => by have e2 : g + 1 = g + 1 + 1 := e; omega)).trans (G5.at0 b0)
      have q_b1 := (s6.cell (World.block_lt_of_cell? _ _ (G5.at0 b1)) (fun e => by have e2 : g + 1 = g + 1 + 1 := e; omega)).trans (G5.at0 b1)
      have q_b2 := (s6.cell (World.block_lt_of_cell? _ _ (G5.at0 b2)) (fun e => by have e2 : g + 1 = g + 1 + 1 := e; omega)).trans (G5.at0 b2)
      have q_b3 := (s6.cell (World.block_lt_of_cell? _ _ (G5.at0 b3)) (fun e => by have e2 : g + 1 = g + 1 + 1 := e; omega)).trans (G5.at0 b3)
      have q_b4 := (s6.cell (World.block_lt_of_cell? _ _ (G5.at0 b4)) (fun e => by have e2 : g + 1 = g + 1 + 1 := e; omega)).trans (G5.at0 b4)
      have q_b5 := (s6.cell (World.block_lt_of_cell? _ _ (G5.at0 b5)) (fun e => by have e2 : g + 1 = g + 1 + 1 := e; omega)).trans (G5.at0 b5)
      have q_b6 := (s6.cell (World.block_lt_of_cell? _ _ (G5.at0 b6)) (fun e => by have e2 : g + 1 = g + 1 + 1 := e; omega)).trans (G5.at0 b6)
      have q_b7 := (s6.cell (World.block_lt_of_cell? _ _ (G5.at0 b7)) (fun e => by have e2 : g + 1 = g + 1 + 1 := e; omega)).trans (G5.at0 b7)
      have q_b8 := (s6.cell (World.block_lt_of_cell? _ _ (G5.at0 b8)) (fun e => by have e2 : g + 1 = g + 1 + 1 := e; omega)).trans (G5.at0 b8)
      have q_k0 := (s6.cell (World.block_lt_of_cell? _ _ (G5.at0 k0)) (fun e => by have e2 : a.block = g + 1 + 1 := e; omega)).trans (G5.at0 k0)
      have q_k1 := (s6.cell (World.block_lt_of_cell? _ _ (G5.at0 k1)) (fun e => by have e2 : a.block = g + 1 + 1 := e; omega)).trans (G5.at0 k1)
      have q_k2 := (s6.cell (World.block_lt_of_cell? _ _ (G5.at0 k2)) (fun e => by have e2 : a.block = g + 1 + 1 := e; omega)).trans (G5.at0 k2)
      have q_k3 := (s6.cell (World.block_lt_of_cell? _ _ (G5.at0 k3)) (fun e => by have e2 : a.block = g + 1 + 1 := e; omega)).trans (G5.at0 k3)
      have q_k4 := (s6.cell (World.block_lt_of_cell? _ _ (G5.at0 k4)) (fun e => by have e2 : a.block = g + 1 + 1 := e; omega)).trans (G5.at0 k4)
      have q_k5 := (s6.cell (World.block_lt_of_cell? _ _ (G5.at0 k5)) (fun e => by have e2 : a.block = g + 1 + 1 := e; omega)).trans (G5.at0 k5)
      have q_k6 := (s6.cell (World.block_lt_of_cell? _ _ (G5.at0 k6)) (fun e => by have e2 : a.block = g + 1 + 1 := e; omega)).trans (G5.at0 k6)
      have q_k7 := (s6.cell (World.block_lt_of_cell? _ _ (G5.at0 k7)) (fun e => by have e2 : a.block = g + 1 + 1 := e; omega)).trans (G5.at0 k7)
      have q_k8 := (s6.cell (World.block_lt_of_cell? _ _ (G5.at0 k8)) (fun e => by have e2 : a.block = g + 1 + 1 := e; omega)).trans (G5.at0 k8)
      unfold setTr at hW6
      go_simp
      rw [← hW6]
      clear hW6 p0 p1 p2 z0 z1 z2
      refine hK.out _ _ (by exact ⟨q_r0, q_r1, q_b0, q_b1, q_b2, q_b3, q_b4, q_b5, q_b6, q_b7, q_b8, q_k0, q_k1, q_k2, q_k3, q_k4, q_k5, q_k6, q_k7, q_k8⟩) (fun hHeld => ?_)
      clear hK K
      (try simp only [Act.put, List.setIfInBounds_toArray, List.set_cons_zero, List.set_cons_succ])
      refine wpAnyH_done (by kernel_rfl) ?_ _
      clear hHeld
      have TBH := Lib.hid TB6
      go_wp2
      exact bodyPost_ret (v := trV ⟨yb, ya, yc⟩) (ret_tr (p := 4) rfl _ _ _ ⟨yb, ya, yc⟩ (by rfl) TBH.out) rfl ⟨by rw [HE.out] <;> rfl, F6⟩
    · rcases ho with ho | ho
      · have HE : Hid (r = allT2 (ks.map (prnP cols zs))) := Lib.hid (by rw [HE0.out, prnH_6 ho])
        have HCh : Hid (∀ W, Fr Non w W → Calls Tryd.prog 41 #[knV (.slice A1 cols.length c1) (.slice A2 zs.length c2), kidV t, .func (.func 42) #[] #[]] W fun e w' => e = .returned (trV (allT2 (ks.map (prnP cols zs)))) ∧ Fr Non W w') :=
          Lib.hid (fun W hf => pzchand_of _ _ cols zs ks t W (HV.out.non hf) (HZ.out.non hf) (HK.out.non hf) hl (by omega) (Lib.hid (fun j h W2 t2 hf2 hk2 => IH.out j h W2 t2 (hf.trans hf2) hk2)))
        clear HE0 IH HV HZ HO HK hok hty hpl h0 hl
        generalize allT2 (ks.map (prnP cols zs)) = y at *
        obtain ⟨ya, yb, yc⟩ := y
        obtain ⟨ho_, hc, hm, ⟨vn, vi, vt⟩, hkd, hp⟩ := hd
        obtain ⟨A, n, c⟩ := t
        dsimp only at ho hn HCh
        clear hn
        subst ho
        obtain ⟨W0, hW0⟩ : ∃ W, W = knW w (.slice A1 cols.length c1) (.slice A2 zs.length c2) ⟨6, hc, hm, ⟨vn, vi, vt⟩, hkd, hp⟩ ⟨A, n, c⟩ := ⟨_, rfl⟩
        rw [← hW0] at F0 RB PB AB
        unfold knW at hW0
        unfold knV pdV at *
        unfold trV at HCh
        unfold pdC kidV at *
        dsimp only at *
        generalize hg : w.heap.size = g at *
        have r0 := RB.out.cell 0
        have r1 := RB.out.cell 1
        simp at r0 r1
        obtain ⟨b0, b1, b2, b3, b4, b5, b6, b7, b8⟩ := pdB_cells PB.out
        dsimp only at b0 b1 b2 b3 b4 b5 b6 b7 b8
        go_enter Tryd.func20, Tryd.ntmps20
        go_wp2_with fail
        rw [← hW0]
        clear hW0
        refine (HCh.out _ F0.out).mono ?_
        rintro e w4 ⟨rfl, f4⟩
        have AB4 : TrB 35 w4 (g + 1 + 1) ⟨false, false, false⟩ := AB.out.fr f4 (fun e => e)
        have AB6 := Lib.hid (setTr_B AB4 ya yb yc)
        have F6 := Lib.hid ((F0.out.trans f4).fresh (setTr_fr w4 (g + 1 + 1) ya yb yc) (fun k e => by have : k = g + 1 + 1 := e; omega))
        obtain ⟨p0, p1, p2, z0, z1, z2⟩ := TrB.facts AB4
        dsimp only at p0 p1 p2
        clear r0 r1 b0 b1 b2 b3 b4 b5 b6 b7 b8
        go_wp2
        exact bodyPost_ret (v := trV ⟨ya, yb, yc⟩) (ret_tr (p := 4) rfl _ _ _ ⟨ya, yb, yc⟩ (by rfl) AB6.out) rfl ⟨by rw [HE.out] <;> rfl, F6.out⟩
      · have HE : Hid (r = anyT2 (ks.map (prnP cols zs))) := Lib.hid (by rw [HE0.out, prnH_7 ho])
        have HCh : Hid (∀ W, Fr Non w W → Calls Tryd.prog 41 #[knV (.slice A1 cols.length c1) (.slice A2 zs.length c2), kidV t, .func (.func 43) #[] #[]] W fun e w' => e = .returned (trV (anyT2 (ks.map (prnP cols zs)))) ∧ Fr Non W w') :=
          Lib.hid (fun W hf => pzchor_of _ _ cols zs ks t W (HV.out.non hf) (HZ.out.non hf) (HK.out.non hf) hl (by omega) (Lib.hid (fun j h W2 t2 hf2 hk2 => IH.out j h W2 t2 (hf.trans hf2) hk2)))
        clear HE0 IH HV HZ HO HK hok hty hpl h0 hl
        generalize anyT2 (ks.map (prnP cols zs)) = y at *
        obtain ⟨ya, yb, yc⟩ := y
        obtain ⟨ho_, hc, hm, ⟨vn, vi, vt⟩, hkd, hp⟩ := hd
        obtain ⟨A, n, c⟩ := t
        dsimp only at ho hn HCh
        clear hn
        subst ho
        obtain ⟨W0, hW0⟩ : ∃ W, W = knW w (.slice A1 cols.length c1) (.slice A2 zs.length c2) ⟨7, hc, hm, ⟨vn, vi, vt⟩, hkd, hp⟩ ⟨A, n, c⟩ := ⟨_, rfl⟩
        rw [← hW0] at F0 RB PB AB
        unfold knW at hW0
        unfold knV pdV at *
        unfold trV at HCh
        unfold pdC kidV at *
        dsimp only at *
        generalize hg : w.heap.size = g at *
        have r0 := RB.out.cell 0
        have r1 := RB.out.cell 1
        simp at r0 r1
        obtain ⟨b0, b1, b2, b3, b4, b5, b6, b7, b8⟩ := pdB_cells PB.out
        dsimp only at b0 b1 b2 b3 b4 b5 b6 b7 b8
        go_enter Tryd.func20, Tryd.ntmps20
        go_wp2_with fail
        rw [← hW0]
        clear hW0
        refine (HCh.out _ F0.out).mono ?_
        rintro e w4 ⟨rfl, f4⟩
        have AB4 : TrB 35 w4 (g + 1 + 1) ⟨false, false, false⟩ := AB.out.fr f4 (fun e => e)
        have AB6 := Lib.hid (setTr_B AB4 ya yb yc)
        have F6 := Lib.hid ((F0.out.trans f4).fresh (setTr_fr w4 (g + 1 + 1) ya yb yc) (fun k e => by have : k = g + 1 + 1 := e; omega))
        obtain ⟨p0, p1, p2, z0, z1, z2⟩ := TrB.facts AB4
        dsimp only at p0 p1 p2
        clear r0 r1 b0 b1 b2 b3 b4 b5 b6 b7 b8
        go_wp2
        exact bodyPost_ret (v := trV ⟨ya, yb, yc⟩) (ret_tr (p := 4) rfl _ _ _ ⟨ya, yb, yc⟩ (by rfl) AB6.out) rfl ⟨by rw [HE.out] <;> rfl, F6.out⟩
end Go.Proofs.YtpmipdnmhffkeaaDoor


namespace Go.Proofs.YtpmipdnmhffkeaaDoor
set_option linter.unusedVariables false
set_option linter.unusedSimpArgs false
set_option maxRecDepth 100000
open Go.RowKit Go.Maps

/-- how many unlike ones -/
def cntU : List Tx → Nat
  | [] => 0
  | y :: r => if y ∈ r then cntU r else cntU r + 1
theorem cntU_le (l : List Tx) : cntU l ≤ l.length := by
  induction l with
  | nil => exact Nat.le_refl _
  | cons y r ih =>
    unfold cntU
    rw [List.length_cons]
    split <;> omega
theorem cntU_all (l : List Tx) : cntU l = l.length ↔ l.Nodup := by
  induction l with
  | nil => simp [cntU]
  | cons y r ih =>
    have := cntU_le r
    unfold cntU
    rw [List.length_cons, List.nodup_cons]
    split
    · rename_i h
      constructor
      · intro e; omega
      · intro e; exact absurd h e.1
    · rename_i h
      rw [← ih]
      constructor
      · intro e; exact ⟨h, by omega⟩
      · intro e; omega

/-- block b is a map of at most n texts: those of ks -/
def MapS (w : World) (b n : Nat) (ks : List Tx) : Prop :=
  ∃ D : DataW Unit, w.ownsMap Tryd.prog 9 (plainElem Tryd.prog 3) b n D ∧ (∀ x, has D (.string x) = decide (x ∈ ks)) ∧ Maps.size D = cntU ks
theorem MapS.lt {w : World} {b n : Nat} {ks : List Tx} (h : MapS w b n ks) : b < w.heap.size := by
  obtain ⟨D, h1, _⟩ := h; exact h1.lt
theorem MapS.fr {S : Nat → Prop} {w w' : World} {b n : Nat} {ks : List Tx} (h : MapS w b n ks) (hf : Fr S w w') (hn : ¬ S b) : MapS w' b n ks := by
  obtain ⟨D, h1, h2, h3⟩ := h
  have hlt := h1.lt
  obtain ⟨es, clock, hb, F, hs, hD⟩ := h1
  exact ⟨D, ⟨es, clock, (hf.block b hlt hn).trans hb, F, hs, hD⟩, h2, h3⟩
theorem MapS.made (w : World) : MapS (w.alloc (.map #[] 0)) w.heap.size 0 [] :=
  ⟨.map [], World.ownsMap_made w _ _ _, fun x => by simp [has], rfl⟩

theorem keyLitS (x : Tx) : WideAt.IsKeyLit (.string x) := trivial
theorem keyStrS {x : Tx} (hx : x.length ≤ maxLen) : keyOf Tryd.prog 9 (.string ⟨x.toArray⟩) = some (.string x) := by
  have := Go.WideMaps.keyOf_string_mk (P := Tryd.prog) Tryd.underlying9 (s := ⟨x.toArray⟩) (by simpa [ByteArray.size] using hx)
  simpa using this
theorem MapS.put {w w' : World} {b n : Nat} {ks : List Tx} {D : DataW Unit} (h1 : w.ownsMap Tryd.prog 9 (plainElem Tryd.prog 3) b n D) (h2 : ∀ x, has D (.string x) = decide (x ∈ ks)) (h3 : Maps.size D = cntU ks)
    (y : Tx) (v : Int) (h : w'.ownsMap Tryd.prog 9 (plainElem Tryd.prog 3) b (n + 1) (D.put (.string y) (.lit (.int .i64 v)))) : MapS w' b (n + 1) (y :: ks) := by
  have hm := h1.isMap
  refine ⟨_, h, fun x => ?_, ?_⟩
  · by_cases he : x = y
    · subst he; rw [has_put_same hm (keyLitS x)]; simp
    · rw [has_put_other (by simpa using he), h2]; simp [he]
  · rw [Maps.size_put (h1.tidy (string_keyed Tryd.underlying9)), h2, h3]
    rw [show cntU (y :: ks) = if y ∈ ks then cntU ks else cntU ks + 1 from rfl]
    by_cases hy : y ∈ ks <;> simp [hy]

/-- 'm[y] = v' -/
theorem wpList_putS (w : World) {ops : Array Oper} {rest : List Oper} {o : Oper} {a : Act} {Q : Exit → Act → World → Prop} (hg : o.guard = none) (m x v : Operand) (hop : o.op = Op.mapUpdate 101 m x v)
    (b n : Nat) (ks : List Tx) (hm : a.eval m = .map (some b)) (hown : MapS w b n ks) (hn : n ≤ 1000000000) (y : Tx) (z : Int) (hx : a.eval x = .string ⟨y.toArray⟩) (hv : a.eval v = .int .i64 z)
    (hy : y.length ≤ 9223372036854775807) (hz1 : -9223372036854775808 ≤ z) (hz2 : z ≤ 9223372036854775807)
    (hK : ∀ w', MapS w' b (n + 1) (y :: ks) → Fr (One b) w w' → wpList Tryd.prog ops Q rest (a.put o.dst undef) w') : wpList Tryd.prog ops Q (o :: rest) a w := by
  obtain ⟨D, h1, h2, h3⟩ := hown
  refine wpList_mapUpdate_own w hg m x v 101 hop 9 3 (string_keyed Tryd.underlying9) Tryd.underlying101 _ b n D hm h1 (by unfold maxLen; omega) _ _ (.string y) hx hv (keyStrS (by simpa [maxLen] using hy)) (.lit (.int .i64 z)) [] (plainElem_int Tryd.underlying3 (WalkArith.wf_i64 ⟨hz1, hz2⟩)) ?_
  intro w' hw' hg'
  exact hK w' (MapS.put h1 h2 h3 y z hw') ((Fr.of_grown hg').mono fun k _ e => by simpa [One, eq_comm] using e)
/-- 'len(m)' -/
theorem MapS.len {w : World} {b n : Nat} {ks : List Tx} (h : MapS w b n ks) (ty : TypeId) : (Builtin.len_ #[101] ty #[.map (some b)]).run Tryd.prog w = .ok (.int .i64 (cntU ks)) w := by
  obtain ⟨D, h1, h2, h3⟩ := h
  rw [← h3]
  exact h1.len Tryd.underlying101 ty
end Go.Proofs.YtpmipdnmhffkeaaDoor


namespace Go.Proofs.YtpmipdnmhffkeaaDoor
set_option linter.unusedVariables false
set_option linter.unusedSimpArgs false
set_option maxRecDepth 100000
open Go.RowKit

theorem mayC_nullT (ty : Int) : mayC ty true ⟨true, 0, []⟩ = isTy ty := by rw [mayC_null]; simp [ceq]
theorem ktype_any (ty : Int) (w : World) : Calls Tryd.prog 72 #[.int .i64 ty] w fun e w' => e = .returned (.bool (isTy ty)) ∧ Fr Non w w' := by
  have M := fun W => may_any ty true ⟨true, 0, []⟩ W
  rw [mayC_nullT] at M
  unfold clV clC at M
  dsimp only at M
  go_enter Tryd.func72, Tryd.ntmps72
  go_wp2_with fail
  refine (M _).mono ?_
  rintro e w1 ⟨rfl, f1⟩
  go_wp2
  go_ret
  exact ⟨rfl, f1⟩

theorem maynot_any (c : Co) (w : World) (hc : c.name.length ≤ 1000000000) : Calls Tryd.prog 54 #[coV c] w fun e w' => e = .returned (.bool (badC c)) ∧ Fr Non w w' := by
  obtain ⟨n, ty, nl⟩ := c
  have M := fun W => sname_any n W hc
  have T := fun W => ktype_any ty W
  have b0 := co_new w ⟨n, ty, nl⟩
  have g0 : _ = _ := b0.cell 0
  simp at g0
  unfold badC coV coC
  dsimp only
  cases hn : nameB n
  · simp only [hn] at M
    replace M := Lib.hid M
    clear T
    go_enter Tryd.func54, Tryd.ntmps54
    go_wp2_with fail
    refine (M.out _).mono ?_
    rintro e w1 ⟨rfl, f1⟩
    go_wp2
    go_ret
    exact ⟨rfl, ((Fr.refl _ _).alloc _).trans f1⟩
  · simp only [hn] at M
    replace M := Lib.hid M
    replace T := Lib.hid T
    replace b0 : Hid (CoB _ _ _) := Lib.hid b0
    go_enter Tryd.func54, Tryd.ntmps54
    go_wp2_with fail
    refine (M.out _).mono ?_
    rintro e w1 ⟨rfl, f1⟩
    have g1 := (b0.out.fr f1 (fun e => e)).cell 1
    simp at g1
    go_wp2_with fail
    refine (T.out _).mono ?_
    rintro e w2 ⟨rfl, f2⟩
    go_wp2
    go_ret
    exact ⟨ret_boolE (by simp), (((Fr.refl _ _).alloc _).trans f1).trans f2⟩

theorem idx_any (v : Value) (l : List Co) (w : World) (hv : Ks w v l) (hl : l.length ≤ 1000000000) (hb : ∀ c ∈ l, c.name.length ≤ 1000000000) :
    Calls Tryd.prog 70 #[v, .func (.func 54) #[] #[]] w fun e w' => ∃ z : Int, e = .returned (.int .i64 z) ∧ decide (0 ≤ z) = l.any badC ∧ Fr Non w w' := by
  obtain ⟨A, c, rfl, hlc, hn, hcell⟩ := hv
  have HC := Lib.hid hcell
  have HN := Lib.hid hn
  have HB := Lib.hid hb
  clear hcell hn hb
  go_enter Tryd.func70, Tryd.ntmps70
  go_wp2
  go_loopw [8] (fun i wr => ∃ (k : Nat), k ≤ l.length ∧ i = .int .i64 k ∧ Hid ((l.take k).any badC = false) ∧ Fr Non w wr) (fun i _ => l.length - (intOf i).toNat)
  case atStart => exact ⟨0, Nat.zero_le _, rfl, Lib.hid rfl, Fr.refl _ _⟩
  case round =>
    obtain ⟨k, hk, rfl, hne, hfr⟩ := hrel
    by_cases hlt : k < l.length
    · cases A with
      | none => have := HN.out rfl; omega
      | some a =>
        obtain ⟨hc0, hc1, hc2⟩ := co_lit ((HC.out a rfl k hlt).non hfr)
        have HY := Lib.hid (fun h => any_more hlt hne.out h)
        have HX : Hid (badC l[k] = true → l.any badC = true) := Lib.hid (fun h => List.any_eq_true.2 ⟨_, List.getElem_mem hlt, h⟩)
        have M := fun W => maynot_any l[k] W (HB.out _ (List.getElem_mem hlt))
        clear hne
        generalize l[k] = x at *
        obtain ⟨xn, xt, xb⟩ := x
        unfold coV coC at M
        dsimp only at hc0 hc1 hc2 HY HX M
        have HF := Lib.hid hfr
        clear hfr
        cases hx : badC ⟨xn, xt, xb⟩
        · have HE := Lib.hid (HY.out hx)
          simp only [hx] at M
          replace M := Lib.hid M
          clear HX HY hx
          go_wp2_with fail
          refine (M.out _).mono ?_
          rintro e w2 ⟨rfl, f2⟩
          go_wp2
          go_roundw
          case rel => exact ⟨k + 1, by omega, by go_num, HE, HF.out.trans f2⟩
          case measure => simp [intOf]; omega
        · have HE := Lib.hid (HX.out hx)
          simp only [hx] at M
          replace M := Lib.hid M
          clear HX HY hx
          go_wp2_with fail
          refine (M.out _).mono ?_
          rintro e w2 ⟨rfl, f2⟩
          go_wp2
          go_ret
          exact ⟨_, rfl, by rw [HE.out]; exact decide_eq_true (by omega), HF.out.trans f2⟩
    · have HE : Hid (l.any badC = false) := Lib.hid (by have := hne.out; rwa [List.take_of_length_le (by omega)] at this)
      clear hne
      go_wp2
      go_ret
      exact ⟨_, rfl, by rw [HE.out]; rfl, hfr⟩
theorem contains_any (v : Value) (l : List Co) (w : World) (hv : Ks w v l) (hl : l.length ≤ 1000000000) (hb : ∀ c ∈ l, c.name.length ≤ 1000000000) :
    Calls Tryd.prog 53 #[v, .func (.func 54) #[] #[]] w fun e w' => e = .returned (.bool (l.any badC)) ∧ Fr Non w w' := by
  have h0 := Lib.hid (idx_any v l w hv hl hb)
  clear hv hb
  go_enter Tryd.func53, Tryd.ntmps53
  go_wp2_with fail
  refine h0.out.mono ?_
  rintro e w1 ⟨z, rfl, hz, f1⟩
  go_wp2
  go_ret
  exact ⟨rfl, f1⟩

/-- the names up to k, the last one first -/
def nmsR (l : List Co) (k : Nat) : List Tx := (namesC (l.take k)).reverse
theorem nmsR_more {l : List Co} {k : Nat} (h : k < l.length) : nmsR l (k + 1) = l[k].name :: nmsR l k := by
  unfold nmsR namesC
  rw [List.take_succ_eq_append_getElem h, List.map_append, List.reverse_append]; rfl
theorem nmsR_all {l : List Co} {k : Nat} (h : k = l.length) : decide ((cntU (nmsR l k) : Int) = l.length) = decide ((namesC l).Nodup) := by
  subst h
  unfold nmsR
  rw [List.take_length]
  have h1 := cntU_all (namesC l).reverse
  rw [List.length_reverse, (List.reverse_perm (namesC l)).nodup_iff] at h1
  have h2 : (namesC l).length = l.length := by unfold namesC; rw [List.length_map]
  rw [h2] at h1
  rw [decide_eq_decide, ← h1]
  omega

set_option maxHeartbeats 1000000 in
theorem unlike_any (v : Value) (l : List Co) (w : World) (hv : Ks w v l) (hl : l.length ≤ 1000000000) (hb : ∀ c ∈ l, c.name.length ≤ 1000000000) :
    Calls Tryd.prog 55 #[v] w fun e w' => e = .returned (.bool (decide ((namesC l).Nodup))) ∧ Fr Non w w' := by
  obtain ⟨A, c, rfl, hlc, hn, hcell⟩ := hv
  have HC := Lib.hid hcell
  have HN := Lib.hid hn
  have HB := Lib.hid hb
  clear hcell hn hb
  have hmm := @run_makeMap Tryd.prog
  go_enter Tryd.func55, Tryd.ntmps55
  go_wp2
  have hm0 := MapS.made w
  have hf0 : Fr Non w (w.alloc (.map #[] 0)) := (Fr.refl _ _).alloc _
  go_loopw [9] (fun i wr => ∃ (k : Nat), k ≤ l.length ∧ i = .int .i64 k ∧ MapS wr w.heap.size k (nmsR l k) ∧ Fr Non w wr) (fun i _ => l.length - (intOf i).toNat)
  case atStart => exact ⟨0, Nat.zero_le _, rfl, hm0, hf0⟩
  case round =>
    clear hm0 hf0
    obtain ⟨k, hk, rfl, hm, hfr⟩ := hrel
    by_cases hlt : k < l.length
    · cases A with
      | none => have := HN.out rfl; omega
      | some a =>
        obtain ⟨hc0, hc1, hc2⟩ := co_lit ((HC.out a rfl k hlt).non hfr)
        have HM := Lib.hid (nmsR_more hlt)
        have hxl := HB.out _ (List.getElem_mem hlt)
        generalize l[k] = x at *
        obtain ⟨xn, xt, xb⟩ := x
        dsimp only at hc0 hc1 hc2 HM hxl
        have f1 := (Fr.refl Non wr).alloc (.cells #[.string ⟨xn.toArray⟩, .int .i64 xt, .bool xb] 55)
        have hm1 := Lib.hid (hm.fr f1 (fun e => e))
        have HF := Lib.hid (hfr.trans f1)
        have g0 := (co_new wr ⟨xn, xt, xb⟩).cell 0
        simp at g0
        clear hm hfr f1
        go_wp2_with (at_mapUpdate; refine wpList_putS _ rfl _ _ _ rfl w.heap.size k (nmsR l k) rfl hm1.out (by omega) xn (k : Int) rfl rfl (by omega) (by omega) (by omega) ?_; intro w1 hm2 hf2)
        go_roundw
        case rel => exact ⟨k + 1, by omega, by go_num, by rw [HM.out]; exact hm2, HF.out.fresh hf2 (fun q hq => by have : q = w.heap.size := hq; omega)⟩
        case measure => simp [intOf]; omega
    · have HE := Lib.hid (nmsR_all (l := l) (k := k) (by omega))
      have hlen := fun ty => hm.len ty
      clear hm
      go_wp2
      go_ret
      exact ⟨ret_boolE HE.out, hfr⟩

set_option maxHeartbeats 1000000 in
theorem scheck_any (v : Value) (l : List Co) (w : World) (hv : Ks w v l) (hl : l.length ≤ 1000000000) (hb : ∀ c ∈ l, c.name.length ≤ 1000000000) :
    Calls Tryd.prog 32 #[v] w fun e w' => e = .returned (.int .i64 (chkC l)) ∧ Fr Non w w' := by
  obtain ⟨A, c, rfl⟩ := hv.shape
  have HV := Lib.hid hv
  have C1 := Lib.hid (contains_any _ l w hv hl hb)
  have U1 := fun W h => unlike_any (.slice A l.length c) l W h hl hb
  replace U1 := Lib.hid U1
  clear hv hb
  by_cases h0 : l.length = 0
  · have H := Lib.hid (chk_none h0)
    go_enter Tryd.func32, Tryd.ntmps32
    go_wp2
    go_ret
    exact ⟨ret_int H.out.symm, Fr.refl _ _⟩
  · have h0b : ((l.length : Int) == 0) = false := by rw [beq_eq_false_iff_ne]; omega
    have H0 := Lib.hid h0
    clear h0
    cases ha : l.any badC
    · have HA := Lib.hid ha
      rw [ha] at C1
      clear ha
      by_cases hd : (namesC l).Nodup
      · have HD := Lib.hid hd
        rw [decide_eq_true hd] at U1
        clear hd
        by_cases h6 : 6 < l.length
        · have H := Lib.hid (chk_many H0.out HA.out HD.out h6)
          go_enter Tryd.func32, Tryd.ntmps32
          go_wp2_with fail
          refine C1.out.mono ?_
          rintro e w1 ⟨rfl, f1⟩
          go_wp2_with fail
          refine (U1.out _ (HV.out.non f1)).mono ?_
          rintro e w2 ⟨rfl, f2⟩
          go_wp2
          go_ret
          exact ⟨ret_int H.out.symm, f1.trans f2⟩
        · have H := Lib.hid (chk_ok H0.out HA.out HD.out h6)
          go_enter Tryd.func32, Tryd.ntmps32
          go_wp2_with fail
          refine C1.out.mono ?_
          rintro e w1 ⟨rfl, f1⟩
          go_wp2_with fail
          refine (U1.out _ (HV.out.non f1)).mono ?_
          rintro e w2 ⟨rfl, f2⟩
          go_wp2
          go_ret
          exact ⟨ret_int H.out.symm, f1.trans f2⟩
      · have H := Lib.hid (chk_dup hd)
        rw [decide_eq_false hd] at U1
        clear hd
        go_enter Tryd.func32, Tryd.ntmps32
        go_wp2_with fail
        refine C1.out.mono ?_
        rintro e w1 ⟨rfl, f1⟩
        go_wp2_with fail
        refine (U1.out _ (HV.out.non f1)).mono ?_
        rintro e w2 ⟨rfl, f2⟩
        go_wp2
        go_ret
        exact ⟨ret_int H.out.symm, f1.trans f2⟩
    · have H := Lib.hid (chk_any ha)
      rw [ha] at C1
      clear ha
      go_enter Tryd.func32, Tryd.ntmps32
      go_wp2_with fail
      refine C1.out.mono ?_
      rintro e w1 ⟨rfl, f1⟩
      go_wp2
      go_ret
      exact ⟨ret_int H.out.symm, f1⟩
end Go.Proofs.YtpmipdnmhffkeaaDoor


namespace Go.Proofs.YtpmipdnmhffkeaaDoor
set_option linter.unusedVariables false
set_option linter.unusedSimpArgs false
set_option maxRecDepth 100000
open Go.RowKit

theorem okS_nil {cols : List Co} {h : Ph} (e : h.col = []) : okT cols h = true := by unfold okT; rw [if_pos e]
theorem okS_none {cols : List Co} {h : Ph} (e : ¬ h.col = []) (f : findC cols h.col = none) : okT cols h = false := by unfold okT; rw [if_neg e, f]
theorem okS_some {cols : List Co} {h : Ph} {k : Nat} (e : ¬ h.col = []) (f : findC cols h.col = some k) (hk : k < cols.length) : okT cols h = if h.op = 2 then cols[k].ty == h.kind else if h.op = 4 then cols[k].ty == 3 else true := by
  unfold okT; rw [if_neg e, f]
  simp [hk]
theorem Ks.findS {w : World} {A : Option Addr} {n c : Nat} {cols : List Co} (h : Ks w (.slice A n c) cols) (k : Nat) (hk : k < cols.length) :
    ∃ a, A = some a ∧ n = cols.length ∧ w.cell? { block := (a.add (k * 3)).block, off := (a.add (k * 3)).off + 1 } = some (.int .i64 cols[k].ty) := by
  have hnl : n = cols.length := by
    obtain ⟨A0, c0, he⟩ := h.shape
    simp only [Value.slice.injEq] at he
    exact he.2.1
  obtain ⟨a, ha, hn, _, hc⟩ := Ns.addr h (by omega)
  exact ⟨a, ha, hn, (co_lit (hc k hk)).2.1⟩
set_option maxHeartbeats 4000000 in
theorem suits_any (cols : List Co) (hcl : cols.length ≤ 1000) (v : Value) (h : Ph) (t : Kv) (w : World) (hv : Ks w v cols) :
    Calls Tryd.prog 35 #[v, pdV h t] w fun e w' => e = .returned (.bool (okT cols h)) ∧ Fr Non w w' := by
  have F0 : Fr Non w (w.alloc (.cells (pdC h t) 27)) := (Fr.refl Non w).alloc _
  have HB := Lib.hid (pd_new w _ h t rfl)
  have FC := Lib.hid (fun W hw => sfind_any v cols h.col W hw (by omega))
  have HO1 := Lib.hid (fun e => okS_nil (cols := cols) (h := h) e)
  have HO2 := Lib.hid (fun e f => okS_none (cols := cols) (h := h) e f)
  have HO3 := Lib.hid (fun k e f hk => okS_some (cols := cols) (h := h) (k := k) e f hk)
  have HFL := Lib.hid (fun k (e : findC cols h.col = some k) => find_lt e)
  obtain ⟨vA, vc, hve⟩ := hv.shape
  have HV : Hid (Ks _ v cols) := Lib.hid (hv.non F0)
  have HF := Lib.hid F0
  clear F0 hv
  obtain ⟨ho, hc, hm, ⟨vn, vi, vt⟩, hkd, hp⟩ := h
  obtain ⟨A, n, c⟩ := t
  dsimp only at HO1 HO2 HO3 FC HFL
  unfold pdV
  unfold pdC kidV
  dsimp only
  subst hve
  generalize okT cols _ = r at *
  by_cases h0 : hc = []
  · subst h0
    have HE := Lib.hid (HO1.out rfl)
    clear HO1 HO2 HO3 FC HFL
    go_enter Tryd.func35, Tryd.ntmps35
    go_wp2
    go_ret
    exact ⟨ret_boolE HE.out.symm, HF.out⟩
  · have hb : (hc == []) = false := by rw [beq_eq_false_iff_ne]; exact h0
    cases hf : findC cols hc with
    | none =>
      have HE := Lib.hid (HO2.out h0 hf)
      simp only [hf] at FC
      clear HO1 HO2 HO3 HFL hf h0
      go_enter Tryd.func35, Tryd.ntmps35
      go_wp2_with fail
      refine (FC.out _ HV.out).mono ?_
      rintro e w1 ⟨rfl, f1⟩
      unfold findV
      go_wp2
      go_ret
      exact ⟨ret_boolE HE.out.symm, HF.out.trans f1⟩
    | some q =>
      have hql := HFL.out q hf
      have HO4 := Lib.hid (HO3.out q h0 hf hql)
      simp only [hf] at FC
      clear HO1 HO2 HO3 HFL hf h0
      have hqn : ((q : Int) < 0) = False := by simp
      by_cases h2 : ho = 2
      · subst h2
        have HE : Hid (r = (cols[q].ty == hkd)) := Lib.hid (by rw [HO4.out, if_pos rfl])
        clear HO4
        go_enter Tryd.func35, Tryd.ntmps35
        go_wp2_with fail
        refine (FC.out _ HV.out).mono ?_
        rintro e w1 ⟨rfl, f1⟩
        obtain ⟨g0, g1, g2, g3, g4, g5, g6, g7, g8⟩ := pdB_cells (HB.out.fr f1 (fun e => e))
        dsimp only at g0 g1 g2 g3 g4 g5 g6 g7 g8
        obtain ⟨ca, rfl, hcn, hct⟩ := Ks.findS (HV.out.non f1) q hql
        generalize cols[q].ty = ct at *
        have F1 := Lib.hid (HF.out.trans f1)
        clear f1 hcn
        unfold findV
        dsimp only
        go_wp2
        go_quiet (fail)
        go_wp2
        go_ret
        exact ⟨ret_boolE HE.out.symm, F1.out.drewN _⟩
      · by_cases h4 : ho = 4
        · subst h4
          have HE : Hid (r = (cols[q].ty == 3)) := Lib.hid (by rw [HO4.out, if_neg h2, if_pos rfl])
          clear HO4
          go_enter Tryd.func35, Tryd.ntmps35
          go_wp2_with fail
          refine (FC.out _ HV.out).mono ?_
          rintro e w1 ⟨rfl, f1⟩
          obtain ⟨g0, g1, g2, g3, g4, g5, g6, g7, g8⟩ := pdB_cells (HB.out.fr f1 (fun e => e))
          dsimp only at g0 g1 g2 g3 g4 g5 g6 g7 g8
          obtain ⟨ca, rfl, hcn, hct⟩ := Ks.findS (HV.out.non f1) q hql
          generalize cols[q].ty = ct at *
          have F1 := Lib.hid (HF.out.trans f1)
          clear f1 hcn
          unfold findV
          dsimp only
          go_wp2
          go_ret
          exact ⟨ret_boolE HE.out.symm, F1.out⟩
        · have HE : Hid (r = true) := Lib.hid (by rw [HO4.out, if_neg h2, if_neg h4])
          have hb3 : (ho == 2) = false := by rw [beq_eq_false_iff_ne]; exact h2
          have hb4 : (ho == 4) = false := by rw [beq_eq_false_iff_ne]; exact h4
          clear HO4
          go_enter Tryd.func35, Tryd.ntmps35
          go_wp2_with fail
          refine (FC.out _ HV.out).mono ?_
          rintro e w1 ⟨rfl, f1⟩
          obtain ⟨g0, g1, g2, g3, g4, g5, g6, g7, g8⟩ := pdB_cells (HB.out.fr f1 (fun e => e))
          dsimp only at g0 g1 g2 g3 g4 g5 g6 g7 g8
          have F1 := Lib.hid (HF.out.trans f1)
          clear f1
          unfold findV
          dsimp only
          go_wp2
          go_ret
          exact ⟨ret_boolE HE.out.symm, F1.out⟩

/-- the columns' variable lies in block g -/
def RcT (cols : List Co) (v : Value) (g : Nat) (W : World) (_ : Unit) (X : Nat → Prop) : Prop := Blk W g 22 #[v] ∧ Ks W v cols ∧ X = Non
set_option maxHeartbeats 2000000 in
theorem fits1_any (cols : List Co) (hcl : cols.length ≤ 1000) (v : Value) (w0 : World) (g : Nat) : Asks (RcT cols v g) (stepT cols) 34 g w0 := by
  intro W u X p t d dz hdz hF hr hk hb hlen hdep
  subst hdz
  obtain ⟨h, ks⟩ := p
  obtain ⟨hB, hV, rfl⟩ := hr
  dsimp only [Pd.hd, Pd.kids] at hk hb ⊢
  have F0 : Fr Non W (W.alloc (.cells (pdC h t) 27)) := (Fr.refl Non W).alloc _
  have S1 := Lib.hid (suits_any cols hcl v h t _ (hV.non F0))
  have hc0 := (hB.fr F0 (fun e => e)).cell 0
  have hgl := hB.lt
  have HS : Hid (stepT cols u (.mk h ks) d = bif okT cols h then some () else none) := Lib.hid (by unfold stepT; show (if okT cols h = true then some () else none) = _; cases okT cols h <;> rfl)
  have HB := Lib.hid hB
  have HV := Lib.hid hV
  have HF0 := Lib.hid F0
  obtain ⟨vA, vc, hve⟩ := hV.shape
  simp at hc0
  generalize stepT cols u _ d = r at *
  generalize okT cols h = b at *
  clear hk hlen hdep hB hV F0 hF
  obtain ⟨ho, hc, hm, ⟨vn, vi, vt⟩, hkd, hp⟩ := h
  obtain ⟨A, nn, c⟩ := t
  subst hve
  unfold pdV pdC kidV at S1 ⊢
  unfold pdC kidV at hc0
  dsimp only at S1 hc0 ⊢
  go_enter Tryd.func34, Tryd.ntmps34
  go_wp2_with fail
  refine S1.out.mono ?_
  rintro e w1 ⟨rfl, f1⟩
  go_wp2
  go_ret
  have f2 := HF0.out.trans f1
  refine ⟨by rw [HS.out]; cases b <;> rfl, f2, fun s' hs => ⟨Non, ⟨HB.out.fr f2 (fun e => e), HV.out.non f2, rfl⟩, fun q hq => .inl hq⟩⟩

set_option maxHeartbeats 4000000 in
theorem pfits_big (cols : List Co) (hcl : cols.length ≤ 1000) (hcb : ∀ c ∈ cols, c.name.length ≤ 1000) (v : Value) (h : Ph) (t : Kv) (ks : List Pd) (w : World) (hv : Ks w v cols) (hk : Kd w t ks) (hb : I64b h.val.num) (hlen : bigP (.mk h ks) = true) (hdep : depP (.mk h ks) ≤ 100) :
    Calls Tryd.prog 18 #[v, pdV h t] w fun e w' => e = .returned (.int .i64 (fitP cols (.mk h ks))) ∧ Fr Non w w' := by
  have F0 : Fr Non w ((w.alloc (.cells #[v] 22)).alloc (.cells (pdC h t) 27)) := ((Fr.refl Non w).alloc _).alloc _
  have e1 : (w.alloc (.cells #[v] 22)).heap.size = w.heap.size + 1 := by simp
  have PB := pd_new (w.alloc (.cells #[v] 22)) _ h t rfl
  rw [e1] at PB
  have VB : Blk ((w.alloc (.cells #[v] 22)).alloc (.cells (pdC h t) 27)) w.heap.size 22 #[v] := (Blk.new _ _ _).fr ((Fr.refl Non _).alloc _) (fun e => e)
  have M1 := Lib.hid (fun W hk => pmay_big h t ks W hk hb hlen hdep)
  have C1 := Lib.hid (fun W hv => scheck_any v cols W hv (by omega) (fun c hc => by have := hcb c hc; omega))
  have A1 : Hid (∀ W, Blk W w.heap.size 22 #[v] → Ks W v cols → Fr Non w W → Calls Tryd.prog 33 #[pdV h t, .int .i64 1, .func (.func 34) #[] #[.pointer (some ⟨w.heap.size, 0, none⟩)]] W fun e w' => e = .returned (.bool (typP cols (.mk h ks))) ∧ Fr Non W w') := Lib.hid (fun W hB hV hF => by
    have h0 := all_any (RcT cols v w.heap.size) (stepT cols) 34 w.heap.size w
      (fun W s X hr q hq => by obtain ⟨_, _, rfl⟩ := hr; exact hq.elim)
      (fun W W' s X hr hf => ⟨hr.1.fr hf (fun e => e), hr.2.1.non hf, hr.2.2⟩) Tryd.call34 (fits1_any cols hcl v w w.heap.size) (.mk h ks)
      W () Non t 1 1 rfl hF ⟨hB, hV, rfl⟩ hk hb hlen (by omega)
    refine h0.mono ?_
    rintro e w' ⟨rfl, f1, _⟩
    rw [allT]
    exact ⟨by cases typP cols (.mk h ks) <;> rfl, f1⟩)
  have HE0 : Hid (fitP cols (.mk h ks) = if mayP (.mk h ks) = false ∨ ¬ chkC cols = 0 then 1 else if typP cols (.mk h ks) = true then 0 else 10) := Lib.hid rfl
  have hmf : ∀ (fn : Fn) (first cap : Array Value) (w : World), (Instr.makeFunc fn first cap).run Tryd.prog w = .ok (.func fn first cap) w := fun _ _ _ _ => rfl
  generalize fitP cols (.mk h ks) = r at *
  generalize mayP (.mk h ks) = b1 at *
  generalize typP cols (.mk h ks) = b2 at *
  generalize chkC cols = z at *
  have HK := Lib.hid (hk.non F0)
  have HV : Hid (Ks _ v cols) := Lib.hid (hv.non F0)
  obtain ⟨vA, vc, hve⟩ := hv.shape
  have F0 := Lib.hid F0
  have PB := Lib.hid PB
  have VB := Lib.hid VB
  clear hk hlen hv hdep e1
  obtain ⟨ho, hc, hm, ⟨vn, vi, vt⟩, hkd, hp⟩ := h
  obtain ⟨A, nn, c⟩ := t
  subst hve
  unfold pdV pdC kidV at *
  dsimp only at *
  cases b1
  · have HE : Hid (r = 1) := Lib.hid (by rw [HE0.out, if_pos (.inl rfl)])
    clear HE0 A1
    go_enter Tryd.func18, Tryd.ntmps18
    go_wp2_with fail
    refine (M1.out _ HK.out).mono ?_
    rintro e w1 ⟨rfl, f1⟩
    go_wp2
    go_ret
    exact ⟨ret_int HE.out.symm, F0.out.trans f1⟩
  · go_enter Tryd.func18, Tryd.ntmps18
    go_wp2_with fail
    refine (M1.out _ HK.out).mono ?_
    rintro e w1 ⟨rfl, f1⟩
    have PB1 := Lib.hid (PB.out.fr f1 (fun e => e))
    have VB1 := Lib.hid (VB.out.fr f1 (fun e => e))
    have HV1 : Hid (Ks w1 _ cols) := Lib.hid (HV.out.non f1)
    have F1 := Lib.hid (F0.out.trans f1)
    have c0 := VB1.out.cell 0
    simp at c0
    clear f1 M1 HK HV PB VB F0
    go_wp2_with fail
    refine (C1.out _ HV1.out).mono ?_
    rintro e w2 ⟨rfl, f2⟩
    have PB2 := Lib.hid (PB1.out.fr f2 (fun e => e))
    have VB2 := Lib.hid (VB1.out.fr f2 (fun e => e))
    have HV2 : Hid (Ks w2 _ cols) := Lib.hid (HV1.out.non f2)
    have F2 := Lib.hid (F1.out.trans f2)
    clear f2 C1 PB1 VB1 HV1 F1 c0
    by_cases hz : z = 0
    · subst hz
      have HE : Hid (r = if b2 = true then 0 else 10) := Lib.hid (by rw [HE0.out, if_neg (by simp)])
      obtain ⟨g0, g1, g2, g3, g4, g5, g6, g7, g8⟩ := pdB_cells PB2.out
      dsimp only at g0 g1 g2 g3 g4 g5 g6 g7 g8
      clear HE0
      go_wp2_with fail
      refine (A1.out _ VB2.out HV2.out F2.out).mono ?_
      rintro e w3 ⟨rfl, f3⟩
      cases b2
      · go_wp2
        go_ret
        exact ⟨ret_int HE.out.symm, F2.out.trans f3⟩
      · go_wp2
        go_ret
        exact ⟨ret_int HE.out.symm, F2.out.trans f3⟩
    · have HE : Hid (r = 1) := Lib.hid (by rw [HE0.out, if_pos (.inr hz)])
      have hb : (z != 0) = true := by rw [bne_iff_ne]; exact hz
      clear HE0 A1
      go_wp2
      go_ret
      exact ⟨ret_int HE.out.symm, F2.out⟩

end Go.Proofs.YtpmipdnmhffkeaaDoor


namespace Go.Proofs.YtpmipdnmhffkeaaDoor
set_option linter.unusedVariables false
set_option linter.unusedSimpArgs false
set_option maxRecDepth 100000
open Go.RowKit

def askV (r : Tr × Int) : Value := .tuple #[trV r.1, .int .i64 r.2]
theorem ret_ask {r : Tr × Int} {a : Tr} {b : Int} (h : r = (a, b)) : Ending.returned (.tuple #[trV a, .int .i64 b]) = Ending.returned (askV r) := by rw [h]; rfl
theorem prnE_bad {cols : List Co} {p : Pd} {zs : List Zn} (h : fitP cols p ≠ 0) : prnE cols p zs = (noT, fitP cols p) := by unfold prnE; rw [if_neg h]
theorem prnE_arg {cols : List Co} {p : Pd} {zs : List Zn} (h : fitP cols p = 0) (h2 : zonesB cols zs = false) : prnE cols p zs = (noT, 1) := by unfold prnE; rw [if_pos h, h2]; rfl
theorem prnE_ok {cols : List Co} {p : Pd} {zs : List Zn} (h : fitP cols p = 0) (h2 : zonesB cols zs = true) : prnE cols p zs = (prnP cols zs p, 0) := by unfold prnE; rw [if_pos h, h2]; rfl
theorem zonesB_eq {cols : List Co} {zs : List Zn} (h : zonesB cols zs = true) : zs.length = cols.length := (of_decide_eq_true h : _ ∧ _).1

/-- a predicate boxed, and the answer's block, of type E -/
def askW (E : TypeId) (w : World) (h : Ph) (t : Kv) : World := (w.alloc (.cells (pdC h t) 27)).alloc (.cells #[.bool false, .bool false, .bool false] E)
theorem askW_fr (E : TypeId) (w : World) (h : Ph) (t : Kv) : Fr Non w (askW E w h t) := ((Fr.refl Non w).alloc _).alloc _
theorem askW_pd (E : TypeId) (w : World) (h : Ph) (t : Kv) : PdB (askW E w h t) w.heap.size h t := (pd_new w _ h t rfl).fr ((Fr.refl Non _).alloc _) (fun e => e)
theorem askW_tr (E : TypeId) (w : World) (h : Ph) (t : Kv) : TrB E (askW E w h t) (w.heap.size + 1) ⟨false, false, false⟩ := tr_newG _ _ ⟨false, false, false⟩ _ (by simp)

set_option maxHeartbeats 4000000 in
theorem pzask_any (v1 v2 : Value) (cols : List Co) (zs : List Zn) (hcl : cols.length ≤ 1000) (hcb : ∀ c ∈ cols, c.name.length ≤ 1000) (h : Ph) (ks : List Pd) (t : Kv) (w : World) (h1 : Ks w v1 cols) (h2 : Zs w v2 zs) (hT : OppT w) (hk : Kd w t ks) (hb : I64b h.val.num) (hbig : bigP (.mk h ks) = true) (hdep : depP (.mk h ks) ≤ 100) :
    Calls Tryd.prog 9 #[v1, pdV h t, v2] w fun e w' => e = .returned (askV (prnE cols (.mk h ks) zs)) ∧ Fr Non w w' := by
  have F0 := Lib.hid (askW_fr 35 w h t)
  have PB := Lib.hid (askW_pd 35 w h t)
  have AB : Hid (TrB 35 (askW 35 w h t) (w.heap.size + 1) ⟨false, false, false⟩) := Lib.hid (askW_tr 35 w h t)
  have HF := Lib.hid (fun W (hf2 : Fr Non w W) => pfits_big cols hcl hcb v1 h t ks W (h1.non hf2) (hk.non hf2) hb hbig hdep)
  have HM := Lib.hid (fun W (hf2 : Fr Non w W) => pzmayof_any v1 v2 cols zs W (h1.non hf2) (h2.non hf2) hcl)
  have HTr : Hid (fitP cols (.mk h ks) = 0 → zonesB cols zs = true → ∀ W, Fr Non w W → Calls Tryd.prog 20 #[knV v1 v2, pdV h t] W fun e w' => e = .returned (trV (prnP cols zs (.mk h ks))) ∧ Fr Non W w') :=
    Lib.hid (fun a b W hf => pztruths_any v1 v2 cols zs hcl (zonesB_eq b) (.mk h ks) t W (h1.non hf) (h2.non hf) (hT.non hf) (hk.non hf) hbig (fit_zero a).2.1 (fit_zero a).2.2)
  have HX := Lib.hid (fun a => prnE_bad (cols := cols) (p := .mk h ks) (zs := zs) a)
  have HX2 := Lib.hid (fun a b => prnE_arg (cols := cols) (p := .mk h ks) (zs := zs) a b)
  have HX3 := Lib.hid (fun a b => prnE_ok (cols := cols) (p := .mk h ks) (zs := zs) a b)
  obtain ⟨A1, c1, rfl⟩ := h1.shape
  obtain ⟨A2, c2, rfl⟩ := h2.shape
  generalize fitP cols (.mk h ks) = z at *
  generalize prnP cols zs (.mk h ks) = y at *
  generalize prnE cols (.mk h ks) zs = r at *
  generalize zonesB cols zs = b at *
  clear hk hbig hdep hb h1 h2 hT
  obtain ⟨ho, hc, hm, ⟨vn, vi, vt⟩, hkd, hp⟩ := h
  obtain ⟨A, n, c⟩ := t
  obtain ⟨ya, yb, yc⟩ := y
  unfold askW at F0 PB AB
  unfold knV trV at HTr
  unfold pdV at *
  unfold pdC kidV at *
  dsimp only at *
  generalize hg : w.heap.size = g at *
  by_cases hz : z = 0
  · subst hz
    clear HX
    replace HTr := Lib.hid (HTr.out rfl)
    replace HX2 := Lib.hid (HX2.out rfl)
    replace HX3 := Lib.hid (HX3.out rfl)
    go_enter Tryd.func9, Tryd.ntmps9
    go_wp2_with fail
    refine (HF.out _ F0.out).mono ?_
    rintro e w1 ⟨rfl, f1⟩
    have PB1 := Lib.hid (PB.out.fr f1 (fun e => e))
    have AB1 : Hid (TrB 35 w1 (g + 1) ⟨false, false, false⟩) := Lib.hid (AB.out.fr f1 (fun e => e))
    have F1 := Lib.hid (F0.out.trans f1)
    clear f1 PB AB F0 HF
    go_wp2_with fail
    refine (HM.out _ F1.out).mono ?_
    rintro e w2 ⟨rfl, f2⟩
    have PB2 := Lib.hid (PB1.out.fr f2 (fun e => e))
    have AB2 : TrB 35 w2 (g + 1) ⟨false, false, false⟩ := AB1.out.fr f2 (fun e => e)
    have F2 := Lib.hid (F1.out.trans f2)
    clear f2 PB1 AB1 F1 HM
    cases b
    · have HE := Lib.hid (HX2.out rfl)
      obtain ⟨p0, p1, p2, z0, z1, z2⟩ := AB2.facts
      dsimp only at p0 p1 p2
      have AB3 := Lib.hid (setTr_B AB2 false false false)
      have F3 := Lib.hid (F2.out.fresh (setTr_fr w2 (g + 1) false false false) (fun k e => by have : k = g + 1 := e; omega))
      clear HX2 HX3 HTr
      go_wp2
      exact bodyPost_ret (v := .tuple #[trV noT, .int .i64 1]) (ret_tr2 (p := 6) (u := 7) rfl _ _ _ noT _ (by rfl) (by rfl) AB3.out) rfl ⟨ret_ask HE.out, F3.out⟩
    · have HE := Lib.hid (HX3.out rfl)
      replace HTr := Lib.hid (HTr.out rfl)
      obtain ⟨b0, b1, b2, b3, b4, b5, b6, b7, b8⟩ := pdB_cells PB2.out
      dsimp only at b0 b1 b2 b3 b4 b5 b6 b7 b8
      replace AB2 := Lib.hid AB2
      clear HX2 HX3
      go_wp2_with fail
      refine (HTr.out _ F2.out).mono ?_
      rintro e w3 ⟨rfl, f3⟩
      have AB3 : TrB 35 w3 (g + 1) ⟨false, false, false⟩ := AB2.out.fr f3 (fun e => e)
      have F3 := Lib.hid (F2.out.trans f3)
      obtain ⟨p0, p1, p2, z0, z1, z2⟩ := AB3.facts
      dsimp only at p0 p1 p2
      have AB4 := Lib.hid (setTr_B AB3 ya yb yc)
      have F4 := Lib.hid (F3.out.fresh (setTr_fr w3 (g + 1) ya yb yc) (fun k e => by have : k = g + 1 := e; omega))
      clear HTr b0 b1 b2 b3 b4 b5 b6 b7 b8 f3
      go_wp2
      exact bodyPost_ret (v := .tuple #[trV ⟨ya, yb, yc⟩, .int .i64 0]) (ret_tr2 (p := 6) (u := 7) rfl _ _ _ ⟨ya, yb, yc⟩ _ (by rfl) (by rfl) AB4.out) rfl ⟨ret_ask HE.out, F4.out⟩
  · have HE := Lib.hid (HX.out hz)
    have hb : (z != 0) = true := by rw [bne_iff_ne]; exact hz
    clear HX HX2 HX3 HTr HM hz
    go_enter Tryd.func9, Tryd.ntmps9
    go_wp2_with fail
    refine (HF.out _ F0.out).mono ?_
    rintro e w1 ⟨rfl, f1⟩
    have AB1 : TrB 35 w1 (g + 1) ⟨false, false, false⟩ := AB.out.fr f1 (fun e => e)
    have F1 := Lib.hid (F0.out.trans f1)
    obtain ⟨p0, p1, p2, z0, z1, z2⟩ := AB1.facts
    dsimp only at p0 p1 p2
    have AB3 := Lib.hid (setTr_B AB1 false false false)
    have F3 := Lib.hid (F1.out.fresh (setTr_fr w1 (g + 1) false false false) (fun k e => by have : k = g + 1 := e; omega))
    clear f1
    go_wp2
    exact bodyPost_ret (v := .tuple #[trV noT, .int .i64 z]) (ret_tr2 (p := 6) (u := 7) rfl _ _ _ noT _ (by rfl) (by rfl) AB3.out) rfl ⟨ret_ask HE.out, F3.out⟩

theorem run_eql_tr (W : World) (a b c : Bool) : (binOp .eql 35 (.agg #[.bool a, .bool b, .bool c]) (.agg #[.bool false, .bool b, .bool c])).run Tryd.prog W = .ok (.bool (!a)) W := by
  go_simp
  cases a <;> simp
theorem skpE_is {cols : List Co} {p : Pd} {zs : List Zn} {t : Tr} {e : Int} (h : prnE cols p zs = (t, e)) : skpE cols p zs = (decide (e = 0) && !t.yes) := by unfold skpE; rw [h]
set_option maxHeartbeats 4000000 in
theorem pzskip_any (v1 v2 : Value) (cols : List Co) (zs : List Zn) (hcl : cols.length ≤ 1000) (hcb : ∀ c ∈ cols, c.name.length ≤ 1000) (h : Ph) (ks : List Pd) (t : Kv) (w : World) (h1 : Ks w v1 cols) (h2 : Zs w v2 zs) (hT : OppT w) (hk : Kd w t ks) (hb : I64b h.val.num) (hbig : bigP (.mk h ks) = true) (hdep : depP (.mk h ks) ≤ 100) :
    Calls Tryd.prog 12 #[v1, pdV h t, v2] w fun e w' => e = .returned (.bool (skpE cols (.mk h ks) zs)) ∧ Fr Non w w' := by
  have F0 : Fr Non w (w.alloc (.cells (pdC h t) 27)) := (Fr.refl Non w).alloc _
  have HA := Lib.hid (fun W (hf2 : Fr Non w W) => pzask_any v1 v2 cols zs hcl hcb h ks t W (h1.non hf2) (h2.non hf2) (hT.non hf2) (hk.non hf2) hb hbig hdep)
  have HE0 := Lib.hid (fun a b e => skpE_is (cols := cols) (p := .mk h ks) (zs := zs) (t := a) (e := b) e)
  obtain ⟨A1, c1, rfl⟩ := h1.shape
  obtain ⟨A2, c2, rfl⟩ := h2.shape
  obtain ⟨y, hy⟩ : ∃ y, prnE cols (.mk h ks) zs = y := ⟨_, rfl⟩
  rw [hy] at HA HE0
  generalize skpE cols (.mk h ks) zs = r at *
  obtain ⟨⟨ya, yb, yc⟩, z⟩ := y
  have HE := Lib.hid (HE0.out _ _ rfl)
  have q := fun W => run_eql_tr W ya yb yc
  clear hk hbig hdep hb h1 h2 hT hy HE0
  obtain ⟨ho, hc, hm, ⟨vn, vi, vt⟩, hkd, hp⟩ := h
  obtain ⟨A, n, c⟩ := t
  unfold askV trV at HA
  unfold pdV at *
  unfold pdC kidV at *
  dsimp only at *
  replace F0 := Lib.hid F0
  by_cases hz : z = 0
  · subst hz
    go_enter Tryd.func12, Tryd.ntmps12
    go_wp2_with fail
    refine (HA.out _ F0.out).mono ?_
    rintro e w1 ⟨rfl, f1⟩
    go_wp2
    go_ret
    exact ⟨ret_boolE (by rw [HE.out] <;> simp), (F0.out.trans f1).alloc _⟩
  · have hb : (z == 0) = false := by rw [beq_eq_false_iff_ne]; exact hz
    have hd : decide (z = 0) = false := decide_eq_false hz
    rw [hd] at HE
    clear hz hd
    go_enter Tryd.func12, Tryd.ntmps12
    go_wp2_with fail
    refine (HA.out _ F0.out).mono ?_
    rintro e w1 ⟨rfl, f1⟩
    go_wp2
    go_ret
    exact ⟨ret_boolE (by rw [HE.out] <;> simp), (F0.out.trans f1).alloc _⟩
end Go.Proofs.YtpmipdnmhffkeaaDoor


namespace Go.Proofs.YtpmipdnmhffkeaaDoor
set_option linter.unusedVariables false
set_option linter.unusedSimpArgs false
set_option maxRecDepth 100000
open Go.RowKit

/-- the first, and the others, of a slice -/
theorem Kd.fst {w : World} {a : Addr} {n c : Nat} {p : Pd} {l : List Pd} (h : Kd w ⟨some a, n, c⟩ (p :: l)) : Kd w ⟨some a, 1, c⟩ [p] := by
  cases h with
  | mk s ns ps hl hN hh hb hk =>
    obtain ⟨A, c', he, h1, h2, h3⟩ := hN
    unfold kidV at he
    simp only [Value.slice.injEq] at he
    obtain ⟨rfl, hn, rfl⟩ := he
    cases ns with
    | nil => cases hl
    | cons x r =>
      refine .mk _ [x] [p] rfl ⟨some a, c, rfl, by simp at h1 ⊢; omega, fun e => (by cases e), fun b hb' j hj => ?_⟩ (fun i h1 h2 => ?_) (fun i h2 => ?_) (fun i h1 h2 => ?_)
      · have hj0 : j = 0 := by simpa using hj
        subst hj0
        exact h3 b hb' 0 (by simp)
      · have hi : i = 0 := by simpa using h1
        subst hi; exact hh 0 (by simp) (by simp)
      · have hi : i = 0 := by simpa using h2
        subst hi; exact hb 0 (by simp)
      · have hi : i = 0 := by simpa using h1
        subst hi; exact hk 0 (by simp) (by simp)
end Go.Proofs.YtpmipdnmhffkeaaDoor


namespace Go.Proofs.YtpmipdnmhffkeaaDoor
set_option linter.unusedVariables false
set_option linter.unusedSimpArgs false
set_option maxRecDepth 100000
open Go.RowKit

theorem num21_any (z : Int) (w : World) : Calls Tryd.prog 11 #[.int .i64 z] w fun e w' => e = .returned (.int .i64 z) ∧ w = w' := by
  go_enter Tryd.func11, Tryd.ntmps11
  go_wp2
  go_ret
  exact ⟨rfl, rfl⟩

def x21P : Ph := ⟨2, [97], 5, ⟨false, 5, []⟩, 1, []⟩
def x21C : List Co := [⟨[97], 1, false⟩]
def x21Z : List Zn := [⟨2, 0, ⟨false, 1, []⟩, ⟨false, 5, []⟩⟩]
theorem x21_1 : prnE x21C (.mk x21P []) x21Z = (⟨false, true, false⟩, 0) := by decide +kernel
theorem x21_2 : skpE x21C (.mk x21P []) x21Z = true := by decide +kernel

set_option maxHeartbeats 4000000 in
theorem live21_any (w : World) (hT : OppT w) : Calls Tryd.prog 8 #[] w fun e w' => e = .returned (.bool true) ∧ Fr Non w w' := by
  have f1 := (Fr.refl Non w).alloc (.cells #[.string ⟨#[97]⟩, .int .i64 1, .bool false] 55)
  have f2 := f1.alloc (.cells #[.int .i64 2, .int .i64 0, .bool false, .int .i64 1, .string ⟨#[]⟩, .bool false, .int .i64 5, .string ⟨#[]⟩] 33)
  have f3 := f2.alloc (.cells (pdC x21P noKv) 27)
  have k1 : Ks (((w.alloc (.cells #[.string ⟨#[97]⟩, .int .i64 1, .bool false] 55)).alloc (.cells #[.int .i64 2, .int .i64 0, .bool false, .int .i64 1, .string ⟨#[]⟩, .bool false, .int .i64 5, .string ⟨#[]⟩] 33)).alloc (.cells (pdC x21P noKv) 27)) (.slice (some ⟨w.heap.size, 0, none⟩) 1 1) x21C :=
    ((((no_lit (E := 55) fd_co w 0 _ [⟨[97], 1, false⟩] #[.string ⟨#[97]⟩, .int .i64 1, .bool false] rfl rfl (Nat.zero_le _) (by decide)).alloc _).alloc _).ns fd_co)
  have z1 : Zs (((w.alloc (.cells #[.string ⟨#[97]⟩, .int .i64 1, .bool false] 55)).alloc (.cells #[.int .i64 2, .int .i64 0, .bool false, .int .i64 1, .string ⟨#[]⟩, .bool false, .int .i64 5, .string ⟨#[]⟩] 33)).alloc (.cells (pdC x21P noKv) 27)) (.slice (some ⟨w.heap.size + 1, 0, none⟩) 1 1) x21Z :=
    ((no_lit (E := 33) fd_zn (w.alloc (.cells #[.string ⟨#[97]⟩, .int .i64 1, .bool false] 55)) 0 (w.heap.size + 1) [⟨2, 0, ⟨false, 1, []⟩, ⟨false, 5, []⟩⟩] #[.int .i64 2, .int .i64 0, .bool false, .int .i64 1, .string ⟨#[]⟩, .bool false, .int .i64 5, .string ⟨#[]⟩] rfl (by simp) (Nat.zero_le _) (by decide)).alloc _).ns fd_zn
  have PB := pd_new ((w.alloc (.cells #[.string ⟨#[97]⟩, .int .i64 1, .bool false] 55)).alloc (.cells #[.int .i64 2, .int .i64 0, .bool false, .int .i64 1, .string ⟨#[]⟩, .bool false, .int .i64 5, .string ⟨#[]⟩] 33)) _ x21P noKv rfl
  rw [show ((w.alloc (.cells #[.string ⟨#[97]⟩, .int .i64 1, .bool false] 55)).alloc (.cells #[.int .i64 2, .int .i64 0, .bool false, .int .i64 1, .string ⟨#[]⟩, .bool false, .int .i64 5, .string ⟨#[]⟩] 33)).heap.size = w.heap.size + 1 + 1 by simp] at PB
  have hcb : ∀ c ∈ x21C, c.name.length ≤ 1000 := by decide
  have R1 := Lib.hid (fun W (h1 : Ks W (.slice (some ⟨w.heap.size, 0, none⟩) 1 1) x21C) (h2 : Zs W (.slice (some ⟨w.heap.size + 1, 0, none⟩) 1 1) x21Z) (h3 : OppT W) => pzask_any _ _ x21C x21Z (by decide) hcb x21P [] noKv W h1 h2 h3 (Kd.nil_ W) (show I64b 5 by unfold I64b; omega) (by decide +kernel) (by decide +kernel))
  have R2 := Lib.hid (fun W (h1 : Ks W (.slice (some ⟨w.heap.size, 0, none⟩) 1 1) x21C) (h2 : Zs W (.slice (some ⟨w.heap.size + 1, 0, none⟩) 1 1) x21Z) (h3 : OppT W) => pzskip_any _ _ x21C x21Z (by decide) hcb x21P [] noKv W h1 h2 h3 (Kd.nil_ W) (show I64b 5 by unfold I64b; omega) (by decide +kernel) (by decide +kernel))
  rw [x21_1] at R1
  rw [x21_2] at R2
  have q := fun W => run_eql_tr W false true false
  have o1 := Lib.hid (hT.non f3)
  replace k1 := Lib.hid k1
  replace z1 := Lib.hid z1
  replace f3 := Lib.hid f3
  replace PB := Lib.hid PB
  have HN := Lib.hid (fun z W => num21_any z W)
  clear f1 f2 hcb hT
  unfold askV trV at R1
  unfold x21P pdV at *
  unfold pdC kidV noKv at *
  dsimp only at *
  go_enter Tryd.func8, Tryd.ntmps8
  go_wp2_with fail
  refine (R1.out _ k1.out z1.out o1.out).mono ?_
  rintro e w1 ⟨rfl, g1⟩
  have g2 := g1.alloc (.cells #[.bool false, .bool true, .bool false] 35)
  have k2 := Lib.hid (k1.out.non g2)
  have z2 := Lib.hid (z1.out.non g2)
  have o2 := Lib.hid (o1.out.non g2)
  have F2 := Lib.hid (f3.out.trans g2)
  obtain ⟨b0, b1, b2, b3, b4, b5, b6, b7, b8⟩ := pdB_cells (PB.out.fr g2 (fun e => e))
  dsimp only at b0 b1 b2 b3 b4 b5 b6 b7 b8
  clear g1 g2 R1
  go_wp2_with fail
  refine (HN.out _ _).mono ?_
  rintro e w4 ⟨rfl, rfl⟩
  go_wp2_with fail
  refine (R2.out _ k2.out z2.out o2.out).mono ?_
  rintro e w5 ⟨rfl, g5⟩
  go_wp2
  go_ret
  exact ⟨rfl, F2.out.trans g5⟩
end Go.Proofs.YtpmipdnmhffkeaaDoor


namespace Go.Proofs.YtpmipdnmhffkeaaDoor
set_option linter.unusedVariables false
set_option linter.unusedSimpArgs false
set_option maxRecDepth 100000
open Go.RowKit

/-- a slice's words -/
structure Sl where
  A : Option Addr
  n : Nat
  c : Nat
def slV (s : Sl) : Value := .slice s.A s.n s.c
def noSl : Sl := ⟨none, 0, 0⟩
/-- the slice v reads as the rows rs -/
def Rs (w : World) (v : Value) (rs : List (List Cl)) : Prop := ∃ hs : List Sl, hs.length = rs.length ∧ Vs slV w v hs ∧ ∀ i (h : i < hs.length) (h2 : i < rs.length), Cs w (slV hs[i]) rs[i]
theorem Rs.non {w w' : World} {v : Value} {rs : List (List Cl)} (h : Rs w v rs) (hf : Fr Non w w') : Rs w' v rs := by
  obtain ⟨hs, h1, h2, h3⟩ := h
  exact ⟨hs, h1, h2.non hf, fun i a b => (h3 i a b).non hf⟩
theorem Rs.shape {w : World} {v : Value} {rs : List (List Cl)} (h : Rs w v rs) : ∃ A c, v = .slice A rs.length c := by
  obtain ⟨hs, h1, h2, _⟩ := h
  obtain ⟨A, c, e⟩ := h2.shape
  exact ⟨A, c, by rw [e, h1]⟩
theorem Rs.nil_ (w : World) : Rs w (.slice none 0 0) [] := ⟨[], rfl, Vs.nil_ w, fun i h => by cases h⟩
/-- the row at j -/
theorem Rs.el {w : World} {A : Option Addr} {n c : Nat} {rs : List (List Cl)} (h : Rs w (.slice A n c) rs) (j : Nat) (hj : j < rs.length) :
    ∃ a A' c', A = some a ∧ n = rs.length ∧ w.cell? (a.add j) = some (.slice A' rs[j].length c') ∧ Cs w (.slice A' rs[j].length c') rs[j] := by
  obtain ⟨hs, h1, h2, h3⟩ := h
  obtain ⟨A0, c0, he, _⟩ := h2
  have h2' : Vs slV w (.slice A n c) hs := ⟨A0, c0, he, by assumption⟩
  simp only [Value.slice.injEq] at he
  obtain ⟨rfl, rfl, rfl⟩ := he
  obtain ⟨a, rfl, _, _, hc⟩ := h2'.addr (by omega)
  have h4 := h3 j (by omega) hj
  obtain ⟨A', c', e⟩ := h4.shape
  have h5 := hc j (by omega)
  rw [e] at h4 h5
  exact ⟨a, A', c', rfl, h1, h5, h4⟩

/-- rows of the call's own, from block B on -/
def Ro (w : World) (B : Nat) (v : Value) (rs : List (List Cl)) : Prop := ∃ hs : List Sl, hs.length = rs.length ∧ Ow slV 50 w B v hs ∧ ∀ i (h : i < hs.length) (h2 : i < rs.length), Oc w B (slV hs[i]) rs[i]
theorem Ro.rs {w : World} {B : Nat} {v : Value} {rs : List (List Cl)} (h : Ro w B v rs) : Rs w v rs := by
  obtain ⟨hs, h1, h2, h3⟩ := h
  exact ⟨hs, h1, h2.vs, fun i a b => (h3 i a b).cs⟩
theorem Ro.non {w w' : World} {B : Nat} {v : Value} {rs : List (List Cl)} (h : Ro w B v rs) (hf : Fr Non w w') : Ro w' B v rs := by
  obtain ⟨hs, h1, h2, h3⟩ := h
  exact ⟨hs, h1, h2.non hf, fun i a b => (h3 i a b).non hf⟩
theorem Ro.mono {w : World} {B B' : Nat} {v : Value} {rs : List (List Cl)} (h : Ro w B v rs) (hB : B' ≤ B) : Ro w B' v rs := by
  obtain ⟨hs, h1, h2, h3⟩ := h
  exact ⟨hs, h1, h2.mono hB, fun i a b => (h3 i a b).mono hB⟩
theorem Ro.shape {w : World} {B : Nat} {v : Value} {rs : List (List Cl)} (h : Ro w B v rs) : ∃ A c, v = .slice A rs.length c := h.rs.shape
theorem Ro.frozen {w : World} {B g n cap : Nat} {rs : List (List Cl)} (h : Ro w B (.slice (some ⟨g, 0, none⟩) n cap) rs) (hn : n = rs.length) (j : Nat) : w.frozen? ⟨g, j, none⟩ = false := by
  obtain ⟨hs, h1, h2, h3⟩ := h
  exact h2.frozen (by omega) j
theorem Ro.lt {w : World} {B : Nat} {v : Value} {rs : List (List Cl)} (h : Ro w B v rs) : ∀ k, v.ownBlock = some k → B ≤ k ∧ k < w.heap.size := by
  obtain ⟨hs, h1, h2, h3⟩ := h
  exact h2.lt
theorem oc_kind_ne {w : World} {B g : Nat} {v : Value} {l : List Cl} {cur : Array Value} {E : TypeId} (h : Oc w B v l) (hg : w.heap[g]? = some (.cells cur E (0, 0))) (hE : 24 ≠ E) : ∀ k, v.ownBlock = some k → k ≠ g := by
  rintro k hk rfl
  obtain ⟨c, h1⟩ := h.kind k hk
  rw [hg] at h1
  simp at h1
  exact hE h1.2.symm
theorem cell_ne_cells : 24 ≠ 50 := by decide
/-- a row stored -/
theorem Ro.put {w : World} {B g n cap : Nat} {rs : List (List Cl)} (h : Ro w B (.slice (some ⟨g, 0, none⟩) n cap) rs) (hn : n = rs.length) (j : Nat) {u : Value} {l : List Cl} (hu : Oc w B u l) :
    Ro (w.setCell ⟨g, j, none⟩ u) B (.slice (some ⟨g, 0, none⟩) n cap) (rs.set j l) := by
  obtain ⟨hs, h1, h2, h3⟩ := h
  obtain ⟨A, c, rfl⟩ := hu.shape
  obtain ⟨cur, hg⟩ := h2.kind g rfl
  have hf : Fr (One g) w (w.setCell ⟨g, j, none⟩ (.slice A l.length c)) := (Fr.refl _ _).set1 j _
  refine ⟨hs.set j ⟨A, l.length, c⟩, by simp [h1], h2.store (by omega) j ⟨A, l.length, c⟩, fun i a b => ?_⟩
  simp only [List.getElem_set]
  split
  · exact hu.fr hf (oc_kind_ne hu hg cell_ne_cells)
  · have h4 := h3 i (by simpa using a) (by simpa using b)
    exact h4.fr hf (oc_kind_ne h4 hg cell_ne_cells)
/-- the row at j, of the call's own -/
theorem Ro.el {w : World} {B g n cap : Nat} {rs : List (List Cl)} (h : Ro w B (.slice (some ⟨g, 0, none⟩) n cap) rs) (hn : n = rs.length) (j : Nat) (hj : j < rs.length) :
    ∃ A' c', w.cell? ⟨g, j, none⟩ = some (.slice A' rs[j].length c') ∧ Cs w (.slice A' rs[j].length c') rs[j] := by
  obtain ⟨hs, h1, h2, h3⟩ := h
  have h4 := (h3 j (by omega) hj).cs
  obtain ⟨A', c', e⟩ := h4.shape
  have h5 := h2.cell (by omega) j hs[j] (List.getElem?_eq_getElem (by omega))
  rw [e] at h4 h5
  exact ⟨A', c', h5, h4⟩

/-! ### Rows whose blocks are apart, to be appended to in their places -/
/-- the slices' blocks are apart -/
def Apart (hs : List Sl) : Prop := ∀ i j (hi : i < hs.length) (hj : j < hs.length), i ≠ j → ∀ k, (slV hs[i]).ownBlock = some k → (slV hs[j]).ownBlock ≠ some k
def Rq (w : World) (B : Nat) (v : Value) (rs : List (List Cl)) : Prop := ∃ hs : List Sl, hs.length = rs.length ∧ Ow slV 50 w B v hs ∧ (∀ i (h : i < hs.length) (h2 : i < rs.length), Oc w B (slV hs[i]) rs[i]) ∧ Apart hs
theorem Rq.non {w w' : World} {B : Nat} {v : Value} {rs : List (List Cl)} (h : Rq w B v rs) (hf : Fr Non w w') : Rq w' B v rs := by
  obtain ⟨hs, h1, h2, h3, h4⟩ := h
  exact ⟨hs, h1, h2.non hf, fun i a b => (h3 i a b).non hf, h4⟩
/-- the row at j, and what is left when another one, in the same block or in a new one, is stored in its place -/
theorem Rq.el {w : World} {B g n cap : Nat} {rs : List (List Cl)} (h : Rq w B (.slice (some ⟨g, 0, none⟩) n cap) rs) (hn : n = rs.length) (j : Nat) (hj : j < rs.length) :
    ∃ A' c', w.cell? ⟨g, j, none⟩ = some (.slice A' rs[j].length c') ∧ Oc w B (.slice A' rs[j].length c') rs[j] ∧
      ∀ (w1 w2 : World) (u : Value) (l : List Cl), Fr Non w w1 → Fr (fun k => (Value.slice A' rs[j].length c').ownBlock = some k) w1 w2 → Oc w2 B u l → (u.ownBlock = (Value.slice A' rs[j].length c').ownBlock ∨ ∀ k, u.ownBlock = some k → w1.heap.size ≤ k) →
        w2.frozen? ⟨g, j, none⟩ = false ∧ g < w2.heap.size ∧ Rq (w2.setCell ⟨g, j, none⟩ u) B (.slice (some ⟨g, 0, none⟩) n cap) (rs.set j l) := by
  obtain ⟨hs, h1, h2, h3, h4⟩ := h
  have hj' : j < hs.length := by omega
  have h5 := h3 j hj' hj
  obtain ⟨A', c', e⟩ := h5.shape
  have h6 := h2.cell (by omega) j hs[j] (List.getElem?_eq_getElem hj')
  have hown : (slV hs[j]).ownBlock = (Value.slice A' rs[j].length c').ownBlock := by rw [e]
  refine ⟨A', c', by rw [h6, e], by rw [← e]; exact h5, fun w1 w2 u l f1 f2 hu hblk => ?_⟩
  obtain ⟨cur0, hg0⟩ := h2.kind g rfl
  have hng : ∀ k, (Value.slice A' rs[j].length c').ownBlock = some k → k ≠ g := by rw [← e]; exact oc_kind_ne h5 hg0 cell_ne_cells
  have o1 := h2.non f1
  have o2 : Ow slV 50 w2 B (.slice (some ⟨g, 0, none⟩) n cap) hs := o1.fr f2 (fun k hk e2 => hng k e2 (by simpa [Value.ownBlock] using hk.symm))
  obtain ⟨cur, hg⟩ := o2.kind g rfl
  obtain ⟨A, c, rfl⟩ := hu.shape
  have hf : Fr (One g) w2 (w2.setCell ⟨g, j, none⟩ (.slice A l.length c)) := (Fr.refl _ _).set1 j _
  refine ⟨o2.frozen (by omega) j, (o2.lt g rfl).2, hs.set j ⟨A, l.length, c⟩, by simp [h1], o2.store (by omega) j ⟨A, l.length, c⟩, fun i a b => ?_, fun i i' hi hi' hne k hk hk' => ?_⟩
  · simp only [List.getElem_set]
    split
    · exact hu.fr hf (oc_kind_ne hu hg cell_ne_cells)
    · rename_i hne
      have a' : i < hs.length := by simpa using a
      have h7 := (h3 i a' (by simpa using b)).non f1
      have h8 := h7.fr f2 (fun k hk e2 => h4 i j a' hj' (fun e => hne e.symm) k hk (by rw [hown]; exact e2))
      exact h8.fr hf (oc_kind_ne h8 hg cell_ne_cells)
  · simp only [List.length_set] at hi hi'
    simp only [List.getElem_set] at hk hk'
    have old : ∀ i (hi : i < hs.length), i ≠ j → ∀ k, (slV hs[i]).ownBlock = some k → (slV (⟨A, l.length, c⟩ : Sl)).ownBlock ≠ some k := by
      intro i hi hne k hk hk'
      have hk2 : (Value.slice A l.length c).ownBlock = some k := hk'
      rcases hblk with hb | hb
      · rw [hb] at hk2
        exact h4 i j hi hj' hne k hk (by rw [hown]; exact hk2)
      · have h9 := hb k hk2
        have h10 := ((h3 i hi (by omega)).lt k hk).2
        have := f1.size
        omega
    by_cases e1 : j = i
    · rw [if_pos e1] at hk
      rw [if_neg (fun e2 => hne (by omega))] at hk'
      exact old i' hi' (by omega) k hk' hk
    · rw [if_neg e1] at hk
      by_cases e2 : j = i'
      · rw [if_pos e2] at hk'
        exact old i hi (by omega) k hk hk'
      · rw [if_neg e2] at hk'
        exact h4 i i' hi hi' hne k hk hk'

end Go.Proofs.YtpmipdnmhffkeaaDoor


namespace Go.Proofs.YtpmipdnmhffkeaaDoor
set_option linter.unusedVariables false
set_option linter.unusedSimpArgs false
set_option maxRecDepth 100000
open Go.RowKit

theorem colC_at (rs : List (List Cl)) (p k : Nat) (h : k < rs.length) (hp : p < rs[k].length) : (colC rs p)[k]? = some rs[k][p] := by
  unfold colC
  rw [List.getElem?_map, List.getElem?_eq_getElem h]
  simp [hp]
theorem colC_take (rs : List (List Cl)) (p k : Nat) (h : k < rs.length) (hp : p < rs[k].length) : (colC rs p).take (k + 1) = (colC rs p).take k ++ [rs[k][p]] := by
  have hl : k < (colC rs p).length := by rw [colC_length]; exact h
  rw [List.take_succ_eq_append_getElem hl]
  have := colC_at rs p k h hp
  rw [List.getElem?_eq_getElem hl] at this
  rw [Option.some.inj this]

set_option maxHeartbeats 4000000 in
theorem rcells_any (v : Value) (rs : List (List Cl)) (p : Nat) (w : World) (hv : Rs w v rs) (hl : rs.length ≤ 1000000) (hp : ∀ r ∈ rs, p < r.length) :
    Calls Tryd.prog 16 #[v, .int .i64 p] w fun e w' => ∃ u, e = .returned u ∧ Oc w' w.heap.size u (colC rs p) ∧ Fr Non w w' := by
  obtain ⟨A, c, rfl⟩ := hv.shape
  have HV := Lib.hid hv
  have HP := Lib.hid hp
  clear hv hp
  go_enter Tryd.func16, Tryd.ntmps16
  go_wp2
  generalize hg : w.heap.size = g at *
  have hO0 : Oc (w.alloc (.cells #[] 24)) g (.slice (some ⟨g, 0, none⟩) 0 0) [] := oc_lit0 w g g hg.symm (Nat.le_refl _)
  have hf0 := (Fr.refl Non w).alloc (.cells #[] 24)
  have HS := Lib.hid (Nat.le_of_eq hg)
  have HS2 := Lib.hid (Nat.le_of_eq hg.symm)
  clear hg
  go_loopw [5, 6] (fun x i wr => ∃ (k : Nat), k ≤ rs.length ∧ i = .int .i64 k ∧ Oc wr g x ((colC rs p).take k) ∧ Fr Non w wr) (fun _ i _ => rs.length - (intOf i).toNat)
  case atStart => exact ⟨0, Nat.zero_le _, rfl, hO0, hf0⟩
  case round =>
    clear hO0 hf0
    obtain ⟨k, hk, rfl, hO, hfr⟩ := hrel
    by_cases hlt : k < rs.length
    · have hpk := HP.out rs[k] (List.getElem_mem hlt)
      obtain ⟨a, A', c', rfl, _, hc1, hc2⟩ := (HV.out.non hfr).el k hlt
      have HT2 := Lib.hid (colC_take rs p k hlt hpk)
      have hdl : ((colC rs p).take k).length = k := by rw [List.length_take, colC_length]; omega
      have HDl := Lib.hid hdl
      generalize (colC rs p).take k = D at *
      generalize rs[k] = r at *
      have hr0 : 0 < r.length := by omega
      obtain ⟨a', rfl, _, _, hel⟩ := hc2.addr hr0
      obtain ⟨q0, q1, q2⟩ := (hel p hpk).lit
      generalize r[p] = x at *
      have hsz := hfr.size
      have hgw : g ≤ wr.heap.size := by have := HS2.out; omega
      have HO := Lib.hid hO
      have HF := Lib.hid hfr
      obtain ⟨xn, xi, xt⟩ := x
      clear hO hel hc2 hfr hdl
      go_wp2_with (at_builtin; refine wpList_pushC rfl (.tmp 14) (.tmp 22) rfl g _ D rfl HO.out ⟨xn, xi, xt⟩ _ _ _ rfl rfl rfl _ rfl rfl (by have := HDl.out; omega) hgw ?_; intro v6 w6 hown6 hf6)
      have hfr6 := HF.out.fresh hf6 (fun q hq => by have := (HO.out.lt q hq).1; have := HS.out; omega)
      go_roundw
      case rel => exact ⟨k + 1, by omega, by go_num, by rw [HT2.out]; exact hown6, hfr6⟩
      case measure => simp [intOf]; omega
    · obtain rfl : k = rs.length := by omega
      rw [List.take_of_length_le (by rw [colC_length]; exact Nat.le_refl _)] at hO
      go_wp2
      go_ret
      exact ⟨_, rfl, hO.mono HS.out, hfr⟩

end Go.Proofs.YtpmipdnmhffkeaaDoor
