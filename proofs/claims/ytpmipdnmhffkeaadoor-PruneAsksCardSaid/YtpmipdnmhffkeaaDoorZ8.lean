/-
  Joined: Layer 21: which truths a predicate may be, the document's: of every one. · Layer 21: which truths a predicate may be, the document's: of every one. · Layer 21: which truths a predicate may be, the document's: of every one.
-/
import Derived.Lib.Zigzag
import Derived.Lib.DecodeN
import Derived.Laws.RangeAny
import Derived.Laws.Cover4
import Derived.BigRegion
import Derived.BigQuiet
import Derived.Deep.RegionHeld3
import Derived.Test.YtpmipdnmhffkeaaDoorZ5
import Derived.Deep.Cut
import Derived.Deep.CutRange
import Derived.Test.YtpmipdnmhffkeaaDoorZ7

namespace Go.Proofs.YtpmipdnmhffkeaaDoor
set_option linter.unusedVariables false
set_option linter.unusedSimpArgs false
set_option maxRecDepth 100000
open Go.RowKit

set_option maxHeartbeats 2000000 in
theorem dzyes_any (a b : Cl) (op : Int) (c : Cl) (w : World) :
    Calls Tryd.prog 48 #[clV a, clV b, .int .i64 op, clV c] w fun e w' => e = .returned (.bool (rngI op a b c)) ∧ Fr Non w w' := by
  have HO1 := Lib.hid (fun W => rorder_any a c W)
  have HO2 := Lib.hid (fun W => rorder_any b c W)
  have HR1 : Hid (op = 1 → rngI op a b c = (decide (ordC a c ≤ 0) && decide (0 ≤ ordC b c))) := Lib.hid (fun e => by subst e; rfl)
  have HR2 : Hid (op = 2 → rngI op a b c = (ordC a c != 0 || ordC b c != 0)) := Lib.hid (fun e => by subst e; rfl)
  have HR3 : Hid (op = 3 → rngI op a b c = decide (ordC a c < 0)) := Lib.hid (fun e => by subst e; rfl)
  have HR4 : Hid (op = 4 → rngI op a b c = decide (ordC a c ≤ 0)) := Lib.hid (fun e => by subst e; rfl)
  have HR5 : Hid (op = 5 → rngI op a b c = decide (0 < ordC b c)) := Lib.hid (fun e => by subst e; rfl)
  have HR6 := Lib.hid (fun h1 h2 h3 h4 h5 => rng_6 (op := op) a b c h1 h2 h3 h4 h5)
  obtain ⟨W0, hW0⟩ : ∃ W, W = ((w.alloc (.cells (clC a) 24)).alloc (.cells (clC b) 24)).alloc (.cells (clC c) 24) := ⟨_, rfl⟩
  have F0 : Fr Non w W0 := by rw [hW0]; exact (((Fr.refl Non w).alloc _).alloc _).alloc _
  have B1 : ClB W0 w.heap.size a := by rw [hW0]; exact (cl_new w a).fr (((Fr.refl Non _).alloc _).alloc _) (fun e => e)
  have B2 : ClB W0 (w.heap.size + 1) b := by
    have e := cl_new (w.alloc (.cells (clC a) 24)) b
    rw [show (w.alloc (.cells (clC a) 24)).heap.size = w.heap.size + 1 by simp] at e
    rw [hW0]; exact e.fr ((Fr.refl Non _).alloc _) (fun e => e)
  have B3 : ClB W0 (w.heap.size + 1 + 1) c := by
    have e := cl_new ((w.alloc (.cells (clC a) 24)).alloc (.cells (clC b) 24)) c
    rw [show ((w.alloc (.cells (clC a) 24)).alloc (.cells (clC b) 24)).heap.size = w.heap.size + 1 + 1 by simp] at e
    rw [hW0]; exact e
  obtain ⟨a0, a1, a2, -⟩ := B1.facts
  obtain ⟨b0, b1, b2, -⟩ := B2.facts
  obtain ⟨d0, d1, d2, -⟩ := B3.facts
  generalize rngI op a b c = r at *
  generalize ordC a c = x at *
  generalize ordC b c = y at *
  obtain ⟨an, ai, aq⟩ := a
  obtain ⟨bn, bi, bt⟩ := b
  obtain ⟨cn, ci, ct⟩ := c
  clear B1 B2 B3
  unfold clV clC at *
  dsimp only at *
  replace F0 := Lib.hid F0
  generalize hg : w.heap.size = g at *
  go_enter Tryd.func48, Tryd.ntmps48
  go_wp2
  rw [← hW0]
  clear hW0
  obtain ⟨V, hV⟩ : ∃ V, V = W0.drew := ⟨_, rfl⟩
  refine wp_region_held_drew (S := (fun W' => W'.cell? ⟨g, 0, none⟩ = some (.bool an) ∧ W'.cell? ⟨g, 1, none⟩ = some (.int .i64 ai) ∧ W'.cell? ⟨g, 2, none⟩ = some (.string ⟨aq.toArray⟩) ∧ W'.cell? ⟨g + 1, 0, none⟩ = some (.bool bn) ∧ W'.cell? ⟨g + 1, 1, none⟩ = some (.int .i64 bi) ∧ W'.cell? ⟨g + 1, 2, none⟩ = some (.string ⟨bt.toArray⟩) ∧ W'.cell? ⟨g + 1 + 1, 0, none⟩ = some (.bool cn) ∧ W'.cell? ⟨g + 1 + 1, 1, none⟩ = some (.int .i64 ci) ∧ W'.cell? ⟨g + 1 + 1, 2, none⟩ = some (.string ⟨ct.toArray⟩))) (by kernel_rfl) (by exact ⟨a0, a1, a2, b0, b1, b2, d0, d1, d2⟩) (fun hHeld => ?_)
  rw [← hV]
  rw [← hV] at hHeld
  have FV : Fr Non W0 V := by rw [hV]; exact (Fr.refl Non W0).drew
  clear hV
  replace a0 := FV.at0 a0
  replace a1 := FV.at0 a1
  replace a2 := FV.at0 a2
  replace b0 := FV.at0 b0
  replace b1 := FV.at0 b1
  replace b2 := FV.at0 b2
  replace d0 := FV.at0 d0
  replace d1 := FV.at0 d1
  replace d2 := FV.at0 d2
  have GV : Fr Non V V := Fr.refl Non V
  have FwV := Lib.hid (F0.out.trans FV)
  refine wpAnyH_take (i := 0) (oi := ⟨some 11, _, _, _, _, none⟩) (v := ?v1) rfl (by kernel_rfl) (by kernel_rfl) (by kernel_rfl) (fun _ _ _ h => h) (Or.inl ⟨by rfl, ?hy1⟩) (by assumption) ?rest1
  case hy1 => (intro wS hSw; (try dsimp only at hSw); go_simp; (try with_reducible rfl))
  (try simp only [Act.put, List.setIfInBounds_toArray, List.set_cons_zero, List.set_cons_succ])
  refine wpAnyH_take (i := 1) (oi := ⟨some 12, _, _, _, _, none⟩) (v := ?v2) rfl (by kernel_rfl) (by kernel_rfl) (by kernel_rfl) (fun _ _ _ h => h) (Or.inl ⟨by rfl, ?hy2⟩) (by assumption) ?rest2
  case hy2 => (intro wS hSw; (try dsimp only at hSw); go_simp; (try with_reducible rfl))
  (try simp only [Act.put, List.setIfInBounds_toArray, List.set_cons_zero, List.set_cons_succ])
  refine wpAnyH_take (i := 3) (oi := ⟨some 14, _, _, _, _, none⟩) (v := ?v3) rfl (by kernel_rfl) (by kernel_rfl) (by kernel_rfl) (fun _ _ _ h => h) (Or.inl ⟨by rfl, ?hy3⟩) (by assumption) ?rest3
  case hy3 => (intro wS hSw; (try dsimp only at hSw); go_simp; (try with_reducible rfl))
  (try simp only [Act.put, List.setIfInBounds_toArray, List.set_cons_zero, List.set_cons_succ])
  refine wpAnyH_take (i := 4) (oi := ⟨some 15, _, _, _, _, none⟩) (v := ?v4) rfl (by kernel_rfl) (by kernel_rfl) (by kernel_rfl) (fun _ _ _ h => h) (Or.inl ⟨by rfl, ?hy4⟩) (by assumption) ?rest4
  case hy4 => (intro wS hSw; (try dsimp only at hSw); go_simp; (try with_reducible rfl))
  (try simp only [Act.put, List.setIfInBounds_toArray, List.set_cons_zero, List.set_cons_succ])
  refine wpAnyH_ready (rs := [2]) (by kernel_rfl) (by simp) ?_
  refine AllReadyH.cons (o := ⟨some 13, _, _, _, _, none⟩) rfl (fun K hK => ?_) AllReadyH.nil
  go_simp
  go_at_call 26
  refine (HO1.out _).mono ?_
  rintro e w4 ⟨rfl, f4⟩
  have G4 := GV.trans f4
  go_wp2_with fail
  refine hK.out _ _ (by exact ⟨G4.at0 a0, G4.at0 a1, G4.at0 a2, G4.at0 b0, G4.at0 b1, G4.at0 b2, G4.at0 d0, G4.at0 d1, G4.at0 d2⟩) (fun hHeld => ?_)
  clear hK K
  (try simp only [Act.put, List.setIfInBounds_toArray, List.set_cons_zero, List.set_cons_succ])
  refine wpAnyH_ready (rs := [5]) (by kernel_rfl) (by simp) ?_
  refine AllReadyH.cons (o := ⟨some 16, _, _, _, _, none⟩) rfl (fun K hK => ?_) AllReadyH.nil
  go_simp
  go_at_call 26
  refine (HO2.out _).mono ?_
  rintro e w5 ⟨rfl, f5⟩
  have G5 := G4.trans f5
  go_wp2_with fail
  refine hK.out _ _ (by exact ⟨G5.at0 a0, G5.at0 a1, G5.at0 a2, G5.at0 b0, G5.at0 b1, G5.at0 b2, G5.at0 d0, G5.at0 d1, G5.at0 d2⟩) (fun hHeld => ?_)
  clear hK K
  (try simp only [Act.put, List.setIfInBounds_toArray, List.set_cons_zero, List.set_cons_succ])
  refine wpAnyH_take (i := 6) (oi := ⟨some 9, _, _, _, _, none⟩) (v := ?v5) rfl (by kernel_rfl) (by kernel_rfl) (by kernel_rfl) (fun _ _ _ h => h) (Or.inl ⟨by rfl, ?hy5⟩) (by assumption) ?rest5
  case hy5 => (intro wS hSw; (try dsimp only at hSw); go_simp; (try with_reducible rfl))
  (try simp only [Act.put, List.setIfInBounds_toArray, List.set_cons_zero, List.set_cons_succ])
  refine wpAnyH_take (i := 7) (oi := ⟨some 10, _, _, _, _, none⟩) (v := ?v6) rfl (by kernel_rfl) (by kernel_rfl) (by kernel_rfl) (fun _ _ _ h => h) (Or.inl ⟨by rfl, ?hy6⟩) (by assumption) ?rest6
  case hy6 => (intro wS hSw; (try dsimp only at hSw); go_simp; (try with_reducible rfl))
  (try simp only [Act.put, List.setIfInBounds_toArray, List.set_cons_zero, List.set_cons_succ])
  refine wpAnyH_done (by kernel_rfl) ?_ _
  clear hHeld
  have F6 := Lib.hid (FwV.out.trans G5)
  clear a0 a1 a2 b0 b1 b2 d0 d1 d2 G4 G5 GV FV f4 f5 FwV F0 HO1 HO2
  by_cases h1 : op = 1
  · subst h1
    have HE := Lib.hid (HR1.out rfl)
    clear HR1 HR2 HR3 HR4 HR5 HR6
    by_cases hx : x ≤ 0
    · have hd : decide (x ≤ 0) = true := decide_eq_true hx
      go_wp2
      go_ret
      exact ⟨ret_boolE (by rw [HE.out, hd] <;> rfl), F6.out⟩
    · have hd : decide (x ≤ 0) = false := decide_eq_false hx
      go_wp2
      go_ret
      exact ⟨ret_boolE (by rw [HE.out, hd] <;> rfl), F6.out⟩
  by_cases h2 : op = 2
  · subst h2
    have HE := Lib.hid (HR2.out rfl)
    clear HR1 HR2 HR3 HR4 HR5 HR6
    cases hx : x != 0
    · go_wp2
      go_ret
      exact ⟨ret_boolE (by rw [HE.out, hx] <;> rfl), F6.out⟩
    · go_wp2
      go_ret
      exact ⟨ret_boolE (by rw [HE.out, hx] <;> rfl), F6.out⟩
  by_cases h3 : op = 3
  · subst h3
    have HE := Lib.hid (HR3.out rfl)
    clear HR1 HR2 HR3 HR4 HR5 HR6
    go_wp2
    go_ret
    exact ⟨ret_boolE HE.out.symm, F6.out⟩
  by_cases h4 : op = 4
  · subst h4
    have HE := Lib.hid (HR4.out rfl)
    clear HR1 HR2 HR3 HR4 HR5 HR6
    go_wp2
    go_ret
    exact ⟨ret_boolE HE.out.symm, F6.out⟩
  by_cases h5 : op = 5
  · subst h5
    have HE := Lib.hid (HR5.out rfl)
    clear HR1 HR2 HR3 HR4 HR5 HR6
    go_wp2
    go_ret
    exact ⟨ret_boolE HE.out.symm, F6.out⟩
  have HE := Lib.hid (HR6.out h1 h2 h3 h4 h5)
  have q1 : (op == 1) = false := by rw [beq_eq_false_iff_ne]; exact h1
  have q2 : (op == 2) = false := by rw [beq_eq_false_iff_ne]; exact h2
  have q3 : (op == 3) = false := by rw [beq_eq_false_iff_ne]; exact h3
  have q4 : (op == 4) = false := by rw [beq_eq_false_iff_ne]; exact h4
  have q5 : (op == 5) = false := by rw [beq_eq_false_iff_ne]; exact h5
  clear h1 h2 h3 h4 h5 HR1 HR2 HR3 HR4 HR5 HR6
  go_wp2
  go_ret
  exact ⟨ret_boolE HE.out.symm, F6.out⟩
end Go.Proofs.YtpmipdnmhffkeaaDoor


namespace Go.Proofs.YtpmipdnmhffkeaaDoor
set_option linter.unusedVariables false
set_option linter.unusedSimpArgs false
set_option maxRecDepth 100000
open Go.RowKit

/-- a predicate boxed, the answer's block, a zone of nothing -/
def docW (w : World) (h : Ph) (t : Kv) : World := ((w.alloc (.cells (pdC h t) 27)).alloc (.cells #[.bool false, .bool false, .bool false] 39)).alloc (.cells (znC noZn) 33)
theorem docW_fr (w : World) (h : Ph) (t : Kv) : Fr Non w (docW w h t) := (((Fr.refl Non w).alloc _).alloc _).alloc _
theorem docW_pd (w : World) (h : Ph) (t : Kv) : PdB (docW w h t) w.heap.size h t := (pd_new w _ h t rfl).fr (((Fr.refl Non _).alloc _).alloc _) (fun e => e)
theorem docW_tr (w : World) (h : Ph) (t : Kv) : TrB 39 (docW w h t) (w.heap.size + 1) ⟨false, false, false⟩ := (tr_newG 39 (w.alloc (.cells (pdC h t) 27)) ⟨false, false, false⟩ _ (by simp)).fr ((Fr.refl Non _).alloc _) (fun e => e)
theorem docW_zn (w : World) (h : Ph) (t : Kv) : ZnB (docW w h t) (w.heap.size + 1 + 1) noZn := by
  have e : ZnB (docW w h t) ((w.alloc (.cells (pdC h t) 27)).alloc (.cells #[.bool false, .bool false, .bool false] 39)).heap.size noZn := Blk.new _ _ _
  rw [show ((w.alloc (.cells (pdC h t) 27)).alloc (.cells #[.bool false, .bool false, .bool false] 39)).heap.size = w.heap.size + 1 + 1 by simp] at e
  exact e
/-- what the document's loop holds behind so many kids -/
def DocTo (L : List Tr) (k : Nat) (aY aN nY nN nM : Bool) : Prop := aY = (L.take k).all (·.yes) ∧ aN = (L.take k).all (·.no) ∧ nY = (L.take k).any (·.yes) ∧ nN = (L.take k).any (·.no) ∧ nM = (L.take k).any (·.maybe)
theorem docTo_start (L : List Tr) : DocTo L 0 true true false false false := ⟨by simp, by simp, by simp, by simp, by simp⟩
theorem docTo_more {L : List Tr} {k : Nat} {aY aN nY nN nM : Bool} (h : DocTo L k aY aN nY nN nM) (hk : k < L.length) : DocTo L (k + 1) (aY && L[k].yes) (aN && L[k].no) (nY || L[k].yes) (nN || L[k].no) (nM || L[k].maybe) := by
  obtain ⟨h1, h2, h3, h4, h5⟩ := h
  unfold DocTo
  rw [List.take_succ_eq_append_getElem hk, h1, h2, h3, h4, h5, List.all_append, List.all_append, List.any_append, List.any_append, List.any_append]
  refine ⟨?_, ?_, ?_, ?_, ?_⟩ <;> simp only [List.all_cons, List.all_nil, List.any_cons, List.any_nil, Bool.and_true, Bool.or_false]
theorem docTo_end {L : List Tr} {k : Nat} {aY aN nY nN nM : Bool} (h : DocTo L k aY aN nY nN nM) (hk : L.length ≤ k) : allT2 L = ⟨aY, nN, nM⟩ ∧ anyT2 L = ⟨nY, aN, nM⟩ := by
  obtain ⟨h1, h2, h3, h4, h5⟩ := h
  rw [List.take_of_length_le hk] at h1 h2 h3 h4 h5
  unfold allT2 anyT2
  rw [h1, h2, h3, h4, h5]
  exact ⟨rfl, rfl⟩
theorem prnH_67 {cols : List Co} {zs : List Zn} {h : Ph} {ts : List Tr} (e : h.op = 6 ∨ h.op = 7) : prnH cols zs h ts = if h.op = 6 then allT2 ts else anyT2 ts := by
  rcases e with e | e
  · rw [prnH_6 e, if_pos e]
  · rw [prnH_7 e, if_neg (by omega)]

set_option maxHeartbeats 8000000 in
theorem dzask67_of (v1 v2 : Value) (cols : List Co) (zs : List Zn) (hd : Ph) (ks : List Pd) (t : Kv) (w : World) (h1 : Ks w v1 cols) (h2 : Zs w v2 zs) (hk : Kd w t ks) (hl : ks.length ≤ 1000) (ho : hd.op = 6 ∨ hd.op = 7) (hco : hd.col = [])
    (IH0 : Hid (∀ j (h : j < ks.length) (W : World) (t' : Kv), Fr Non w W → Kd W t' ks[j].kids → Calls Tryd.prog 23 #[v1, pdV ks[j].hd t', v2] W fun e w' => e = .returned (trV (prnP cols zs ks[j])) ∧ Fr Non W w')) :
    Calls Tryd.prog 23 #[v1, pdV hd t, v2] w fun e w' => e = .returned (trV (prnP cols zs (.mk hd ks))) ∧ Fr Non w w' := by
    have hn : t.n = ks.length := hk.len
    obtain ⟨A1, c1, rfl⟩ := h1.shape
    obtain ⟨A2, c2, rfl⟩ := h2.shape
    have F0 := Lib.hid (docW_fr w hd t)
    have PB := Lib.hid (docW_pd w hd t)
    have AB : Hid (TrB 39 (docW w hd t) (w.heap.size + 1) ⟨false, false, false⟩) := Lib.hid (docW_tr w hd t)
    have ZB := Lib.hid (docW_zn w hd t)
    have IH := IH0
    have HK : Hid (Kd w t ks) := Lib.hid hk
    have HE0 := Lib.hid (prn_is cols zs hd ks)
    clear hk h1 h2 IH0
    generalize prnP cols zs (.mk hd ks) = r at *
    · have HS : Hid (∀ j aY aN nY nN nM, DocTo (ks.map (prnP cols zs)) j aY aN nY nN nM → t.n ≤ j → r = if hd.op = 6 then ⟨aY, nN, nM⟩ else ⟨nY, aN, nM⟩) := Lib.hid (fun j aY aN nY nN nM h hj => by
        have e := docTo_end h (by rw [List.length_map]; omega)
        rw [HE0.out, prnH_67 ho, e.1, e.2])
      have HM : Hid (∀ j aY aN nY nN nM (h : j < ks.length), DocTo (ks.map (prnP cols zs)) j aY aN nY nN nM → DocTo (ks.map (prnP cols zs)) (j + 1) (aY && (prnP cols zs ks[j]).yes) (aN && (prnP cols zs ks[j]).no) (nY || (prnP cols zs ks[j]).yes) (nN || (prnP cols zs ks[j]).no) (nM || (prnP cols zs ks[j]).maybe)) := Lib.hid (fun j aY aN nY nN nM h h2 => by
        have e := docTo_more h2 (by rw [List.length_map]; exact h)
        rw [List.getElem_map] at e; exact e)
      have H0 := Lib.hid (docTo_start (ks.map (prnP cols zs)))
      have hnn : t.n ≤ 1000 := by omega
      have HL := Lib.hid hn
      clear HE0 hl
      generalize ks.map (prnP cols zs) = L at *
      obtain ⟨ho_, hc, hm, ⟨vn, vi, vt⟩, hkd, hp⟩ := hd
      obtain ⟨A, n, c⟩ := t
      dsimp only at ho hn hco hnn HS HL HK
      clear hn
      obtain ⟨W0, hW0⟩ : ∃ W, W = docW w ⟨ho_, hc, hm, ⟨vn, vi, vt⟩, hkd, hp⟩ ⟨A, n, c⟩ := ⟨_, rfl⟩
      rw [← hW0] at F0 PB AB ZB
      unfold docW at hW0
      unfold pdV at *
      unfold pdC kidV znC noZn noCl at *
      dsimp only at *
      generalize hg : w.heap.size = g at *
      subst hco
      have j1 : (ho_ == 1) = false := by rcases ho with rfl | rfl <;> rfl
      have j3 : (ho_ == 3) = false := by rcases ho with rfl | rfl <;> rfl
      have j2 : (ho_ == 2) = false := by rcases ho with rfl | rfl <;> rfl
      have j4 : (ho_ == 4) = false := by rcases ho with rfl | rfl <;> rfl
      have j5 : (ho_ == 5) = false := by rcases ho with rfl | rfl <;> rfl
      replace ho := Lib.hid ho
      obtain ⟨b0, b1, b2, b3, b4, b5, b6, b7, b8⟩ := pdB_cells PB.out
      dsimp only at b0 b1 b2 b3 b4 b5 b6 b7 b8
      obtain ⟨e0, e1, -⟩ := znB_cells ZB.out
      dsimp only at e0 e1
      go_enter Tryd.func23, Tryd.ntmps23
      go_wp2
      rw [← hW0]
      clear hW0
      obtain ⟨V, hV⟩ : ∃ V, V = W0.drew := ⟨_, rfl⟩
      refine wp_region_held_drew (S := (fun W' => W'.cell? ⟨g + 1 + 1, 0, none⟩ = some (.int .i64 0) ∧ W'.cell? ⟨g + 1 + 1, 1, none⟩ = some (.int .i64 0))) (by kernel_rfl) (by exact ⟨e0, e1⟩) (fun hHeld => ?_)
      rw [← hV]
      rw [← hV] at hHeld
      have FV : Fr Non W0 V := by rw [hV]; exact (Fr.refl Non W0).drew
      clear hV
      replace e0 := FV.at0 e0
      replace e1 := FV.at0 e1
      refine wpAnyH_take (i := 0) (oi := ⟨some 27, _, _, _, _, none⟩) (v := ?v86) rfl (by kernel_rfl) (by kernel_rfl) (by kernel_rfl) (fun _ _ _ h => h) (Or.inl ⟨by rfl, ?hy86⟩) (by assumption) ?rest86
      case hy86 => (intro wS hSw; (try dsimp only at hSw); go_simp; (try with_reducible rfl))
      (try simp only [Act.put, List.setIfInBounds_toArray, List.set_cons_zero, List.set_cons_succ])
      refine wpAnyH_take (i := 1) (oi := ⟨some 28, _, _, _, _, none⟩) (v := ?v87) rfl (by kernel_rfl) (by kernel_rfl) (by kernel_rfl) (fun _ _ _ h => h) (Or.inl ⟨by rfl, ?hy87⟩) (by assumption) ?rest87
      case hy87 => (intro wS hSw; (try dsimp only at hSw); go_simp; (try with_reducible rfl))
      (try simp only [Act.put, List.setIfInBounds_toArray, List.set_cons_zero, List.set_cons_succ])
      refine wpAnyH_take (i := 2) (oi := ⟨some 29, _, _, _, _, none⟩) (v := ?v88) rfl (by kernel_rfl) (by kernel_rfl) (by kernel_rfl) (fun _ _ _ h => h) (Or.inl ⟨by rfl, ?hy88⟩) (by assumption) ?rest88
      case hy88 => (intro wS hSw; (try dsimp only at hSw); go_simp; (try with_reducible rfl))
      (try simp only [Act.put, List.setIfInBounds_toArray, List.set_cons_zero, List.set_cons_succ])
      refine wpAnyH_take (i := 3) (oi := ⟨some 30, _, _, _, _, none⟩) (v := ?v89) rfl (by kernel_rfl) (by kernel_rfl) (by kernel_rfl) (fun _ _ _ h => h) (Or.inl ⟨by rfl, ?hy89⟩) (by assumption) ?rest89
      case hy89 => (intro wS hSw; (try dsimp only at hSw); go_simp; (try with_reducible rfl))
      (try simp only [Act.put, List.setIfInBounds_toArray, List.set_cons_zero, List.set_cons_succ])
      refine wpAnyH_take (i := 4) (oi := ⟨some 31, _, _, _, _, none⟩) (v := ?v90) rfl (by kernel_rfl) (by kernel_rfl) (by kernel_rfl) (fun _ _ _ h => h) (Or.inl ⟨by rfl, ?hy90⟩) (by assumption) ?rest90
      case hy90 => (intro wS hSw; (try dsimp only at hSw); go_simp; (try with_reducible rfl))
      (try simp only [Act.put, List.setIfInBounds_toArray, List.set_cons_zero, List.set_cons_succ])
      refine wpAnyH_take (i := 5) (oi := ⟨some 32, _, _, _, _, none⟩) (v := ?v91) rfl (by kernel_rfl) (by kernel_rfl) (by kernel_rfl) (fun _ _ _ h => h) (Or.inl ⟨by rfl, ?hy91⟩) (by assumption) ?rest91
      case hy91 => (intro wS hSw; (try dsimp only at hSw); go_simp; (try with_reducible rfl))
      (try simp only [Act.put, List.setIfInBounds_toArray, List.set_cons_zero, List.set_cons_succ])
      refine wpAnyH_take (i := 6) (oi := ⟨some 33, _, _, _, _, none⟩) (v := ?v92) rfl (by kernel_rfl) (by kernel_rfl) (by kernel_rfl) (fun _ _ _ h => h) (Or.inl ⟨by rfl, ?hy92⟩) (by assumption) ?rest92
      case hy92 => (intro wS hSw; (try dsimp only at hSw); go_simp; (try with_reducible rfl))
      (try simp only [Act.put, List.setIfInBounds_toArray, List.set_cons_zero, List.set_cons_succ])
      refine wpAnyH_take (i := 7) (oi := ⟨some 34, _, _, _, _, none⟩) (v := ?v93) rfl (by kernel_rfl) (by kernel_rfl) (by kernel_rfl) (fun _ _ _ h => h) (Or.inl ⟨by rfl, ?hy93⟩) (by assumption) ?rest93
      case hy93 => (intro wS hSw; (try dsimp only at hSw); go_simp; (try with_reducible rfl))
      (try simp only [Act.put, List.setIfInBounds_toArray, List.set_cons_zero, List.set_cons_succ])
      refine wpAnyH_take (i := 8) (oi := ⟨some 8, _, _, _, _, none⟩) (v := ?v94) rfl (by kernel_rfl) (by kernel_rfl) (by kernel_rfl) (fun _ _ _ h => h) (Or.inl ⟨by rfl, ?hy94⟩) (by assumption) ?rest94
      case hy94 => (intro wS hSw; (try dsimp only at hSw); go_simp; (try with_reducible rfl))
      (try simp only [Act.put, List.setIfInBounds_toArray, List.set_cons_zero, List.set_cons_succ])
      refine wpAnyH_take (i := 9) (oi := ⟨some 9, _, _, _, _, none⟩) (v := ?v95) rfl (by kernel_rfl) (by kernel_rfl) (by kernel_rfl) (fun _ _ _ h => h) (Or.inl ⟨by rfl, ?hy95⟩) (by assumption) ?rest95
      case hy95 => (intro wS hSw; (try dsimp only at hSw); go_simp; (try with_reducible rfl))
      (try simp only [Act.put, List.setIfInBounds_toArray, List.set_cons_zero, List.set_cons_succ])
      refine wpAnyH_done (by kernel_rfl) ?_ _
      clear hHeld
      have FwV := Lib.hid (F0.out.trans FV)
      have PBV := Lib.hid (PB.out.fr FV (fun e => e))
      have ABV : TrB 39 V (g + 1) ⟨false, false, false⟩ := AB.out.fr FV (fun e => e)
      clear b0 b1 b2 b3 b4 b5 b6 b7 b8 e0 e1
      obtain ⟨b0, b1, b2, b3, b4, b5, b6, b7, b8⟩ := pdB_cells PBV.out
      dsimp only at b0 b1 b2 b3 b4 b5 b6 b7 b8
      obtain ⟨D, hD⟩ : ∃ D, V.heap.size = D := ⟨_, rfl⟩
      have hDg : g + 1 < D := by have := ABV.lt; omega
      have f5 : Fr Non V ((V.alloc (.cells #[.bool true, .bool true, .bool false] 39)).alloc (.cells #[.bool false, .bool false, .bool false] 39)) := ((Fr.refl Non V).alloc _).alloc _
      have TA0 : Hid (TrB 39 ((V.alloc (.cells #[.bool true, .bool true, .bool false] 39)).alloc (.cells #[.bool false, .bool false, .bool false] 39)) D ⟨true, true, false⟩) := Lib.hid ((tr_newG 39 V ⟨true, true, false⟩ D hD).fr ((Fr.refl Non _).alloc _) (fun e => e))
      have TN0 : Hid (TrB 39 ((V.alloc (.cells #[.bool true, .bool true, .bool false] 39)).alloc (.cells #[.bool false, .bool false, .bool false] 39)) (D + 1) ⟨false, false, false⟩) := Lib.hid (tr_newG 39 (V.alloc (.cells #[.bool true, .bool true, .bool false] 39)) ⟨false, false, false⟩ (D + 1) (by rw [← hD]; simp))
      have PB0 := Lib.hid (PBV.out.fr f5 (fun e => e))
      have AB0 : Hid (TrB 39 ((V.alloc (.cells #[.bool true, .bool true, .bool false] 39)).alloc (.cells #[.bool false, .bool false, .bool false] 39)) (g + 1) ⟨false, false, false⟩) := Lib.hid (ABV.fr f5 (fun e => e))
      have FQ0 := Lib.hid (FwV.out.trans f5)
      have HwD : Hid (w.heap.size ≤ D) := Lib.hid (by have := FwV.out.size; omega)
      clear f5 ABV PBV FwV FV PB AB ZB F0
      go_wp2
      go_loopw [14] (fun i wr => ∃ (k : Nat) (aY aN nY nN nM : Bool), k ≤ n ∧ i = .int .i64 k ∧ Hid (DocTo L k aY aN nY nN nM) ∧ Hid (TrB 39 wr D ⟨aY, aN, false⟩) ∧ Hid (TrB 39 wr (D + 1) ⟨nY, nN, nM⟩) ∧ Hid (PdB wr g ⟨ho_, [], hm, ⟨vn, vi, vt⟩, hkd, hp⟩ ⟨A, n, c⟩) ∧ Hid (TrB 39 wr (g + 1) ⟨false, false, false⟩) ∧ Hid (Fr Non w wr)) (fun i _ => n - (intOf i).toNat)
      case atStart => exact ⟨0, true, true, false, false, false, Nat.zero_le _, rfl, H0, TA0, TN0, PB0, AB0, FQ0⟩
      case round =>
        clear H0 TA0 TN0 PB0 AB0 FQ0 b0 b1 b2 b3 b4 b5 b6 b7 b8
        obtain ⟨k, aY, aN, nY, nN, nM, hk, rfl, HT, TA, TN, PBr, ABr, FR⟩ := hrel
        obtain ⟨b0, b1, b2, b3, b4, b5, b6, b7, b8⟩ := pdB_cells PBr.out
        dsimp only at b0 b1 b2 b3 b4 b5 b6 b7 b8
        by_cases hlt : k < n
        · have hlt2 : k < ks.length := by have := HL.out; omega
          obtain ⟨a, t, hA, hc2, hkk, _⟩ := HK.out.elN FR.out k hlt2
          have HCa := Lib.hid (IH.out k hlt2 wr t FR.out (hkk.non FR.out))
          have HN := Lib.hid (HM.out k aY aN nY nN nM hlt2 HT.out)
          dsimp only at hA
          subst hA
          obtain ⟨k0, k1, k2, k3, k4, k5, k6, k7, k8⟩ := hc2
          clear hkk HT HM HS
          generalize prnP cols zs ks[k] = y at *
          generalize ks[k].hd = x at *
          obtain ⟨xo, xc, xm, ⟨xn, xi, xt⟩, xk, xp⟩ := x
          obtain ⟨tA, tn, tc⟩ := t
          obtain ⟨qa, qb, qc⟩ := y
          unfold trV at HCa
          dsimp only at HCa HN k0 k1 k2 k3 k4 k5 k6 k7 k8
          go_wp2_with fail
          refine HCa.out.mono ?_
          rintro e w4 ⟨rfl, f4⟩
          obtain ⟨E, hE⟩ : ∃ E, w4.heap.size = E := ⟨_, rfl⟩
          obtain ⟨W6, hW6⟩ : ∃ W, W = w4.alloc (.cells #[.bool qa, .bool qb, .bool qc] 39) := ⟨_, rfl⟩
          have f6 : Fr Non wr W6 := by rw [hW6]; exact f4.alloc _
          have TE6 : TrB 39 W6 E ⟨qa, qb, qc⟩ := by rw [hW6]; exact tr_newG _ _ ⟨qa, qb, qc⟩ _ hE
          have hED : D + 1 < E := by have := (TN.out.fr f4 (fun e => e)).lt; omega
          have TA6 : TrB 39 W6 D ⟨aY, aN, false⟩ := TA.out.fr f6 (fun e => e)
          have TN6 : TrB 39 W6 (D + 1) ⟨nY, nN, nM⟩ := TN.out.fr f6 (fun e => e)
          have FR6 := FR.out.trans f6
          obtain ⟨W7, hW7⟩ : ∃ W, W = setTr W6 D (aY && qa) (aN && qb) false := ⟨_, rfl⟩
          have s7 : Fr (One D) W6 W7 := by rw [hW7]; exact setTr_fr _ _ _ _ _
          have TA7 : TrB 39 W7 D ⟨aY && qa, aN && qb, false⟩ := by rw [hW7]; exact setTr_B TA6 _ _ _
          have TN7 : TrB 39 W7 (D + 1) ⟨nY, nN, nM⟩ := TN6.fr s7 (fun e => by have : D + 1 = D := e; omega)
          have TE7 : TrB 39 W7 E ⟨qa, qb, qc⟩ := TE6.fr s7 (fun e => by have : E = D := e; omega)
          have FR7 := FR6.fresh s7 (fun k e => by have e2 : k = D := e; have := HwD.out; omega)
          obtain ⟨W8, hW8⟩ : ∃ W, W = setTr W7 (D + 1) (nY || qa) (nN || qb) (nM || qc) := ⟨_, rfl⟩
          have s8 : Fr (One (D + 1)) W7 W8 := by rw [hW8]; exact setTr_fr _ _ _ _ _
          have TA8 : Hid (TrB 39 W8 D ⟨aY && qa, aN && qb, false⟩) := Lib.hid (TA7.fr s8 (fun e => by have : D = D + 1 := e; omega))
          have TN8 : Hid (TrB 39 W8 (D + 1) ⟨nY || qa, nN || qb, nM || qc⟩) := Lib.hid (by rw [hW8]; exact setTr_B TN7 _ _ _)
          have PB8 : Hid (PdB W8 g ⟨ho_, [], hm, ⟨vn, vi, vt⟩, hkd, hp⟩ ⟨some a, n, c⟩) := Lib.hid (((PBr.out.fr f6 (fun e => e)).fr s7 (fun e => by have : g = D := e; omega)).fr s8 (fun e => by have : g = D + 1 := e; omega))
          have AB8 : Hid (TrB 39 W8 (g + 1) ⟨false, false, false⟩) := Lib.hid (((ABr.out.fr f6 (fun e => e)).fr s7 (fun e => by have : g + 1 = D := e; omega)).fr s8 (fun e => by have : g + 1 = D + 1 := e; omega))
          have F8 := Lib.hid (FR7.fresh s8 (fun k e => by have e2 : k = D + 1 := e; have := HwD.out; omega))
          obtain ⟨m0, m1, -, u0, u1, u2⟩ := TA6.facts
          obtain ⟨-, -, m2, -, -, -⟩ := TA6.facts
          obtain ⟨v0, v1, v2, -, -, -⟩ := TE6.facts
          dsimp only at m0 m1 m2 v0 v1 v2
          obtain ⟨n0, n1, n2, l0, l1, l2⟩ := TN7.facts
          obtain ⟨o0, o1, o2, -, -, -⟩ := TE7.facts
          dsimp only at n0 n1 n2 o0 o1 o2
          unfold setTr at hW7 hW8
          clear b0 b1 b2 b3 b4 b5 b6 b7 b8 k0 k1 k2 k3 k4 k5 k6 k7 k8 HCa TA TN PBr ABr FR f4 f6 TE6 TA6 TN6 FR6 s7 TA7 TN7 TE7 FR7 s8
          go_upto_region 23 with fail
          rw [← hW6]
          clear hW6 hE
          go_cut [15] from 101 to 147 (fun q wx => q = .pointer (some ⟨E, 0, none⟩) ∧ wx = W7)
          case first =>
            clear n0 n1 n2 o0 o1 o2 l0 l1 l2 HN
            cases aY <;> cases aN
            all_goals
              simp only [Bool.true_and, Bool.false_and] at hW7
              go_upto_region 24 with fail
              go_meet
              exact ⟨rfl, hW7.symm⟩
          case rest =>
            obtain ⟨rfl, rfl⟩ := hcut
            clear hW7 m0 m1 m2 u0 u1 u2 v0 v1 v2
            cases nY <;> cases nN <;> cases nM
            all_goals
              simp only [Bool.true_or, Bool.false_or] at hW8 TN8 HN
              go_wp2
              subst hW8
              go_roundw
              case rel => exact ⟨k + 1, _, _, _, _, _, by omega, by go_num, HN, TA8, TN8, PB8, AB8, F8⟩
              case measure => simp [intOf]; omega
        · have HE0 := Lib.hid (HS.out k aY aN nY nN nM HT.out (by omega))
          clear HT HS HM
          obtain ⟨m0, m1, -, -, -, -⟩ := TA.out.facts
          obtain ⟨n0, n1, n2, -, -, -⟩ := TN.out.facts
          dsimp only at m0 m1 n0 n1 n2
          have AB4 : TrB 39 wr (g + 1) ⟨false, false, false⟩ := ABr.out
          rcases ho.out with rfl | rfl
          · have HE : Hid (r = ⟨aY, nN, nM⟩) := Lib.hid (by rw [HE0.out, if_pos rfl])
            have AB6 := Lib.hid (setTr_B AB4 aY nN nM)
            have F6 := Lib.hid (FR.out.fresh (setTr_fr wr (g + 1) aY nN nM) (fun k e => by have : k = g + 1 := e; omega))
            obtain ⟨p0, p1, p2, z0, z1, z2⟩ := TrB.facts AB4
            dsimp only at p0 p1 p2
            go_wp2
            exact bodyPost_ret (v := trV ⟨aY, nN, nM⟩) (ret_rtr (p := 6) rfl _ _ _ ⟨aY, nN, nM⟩ (by rfl) AB6.out) rfl ⟨by rw [HE.out] <;> rfl, F6.out⟩
          · have HE : Hid (r = ⟨nY, aN, nM⟩) := Lib.hid (by rw [HE0.out, if_neg (by decide)])
            have AB6 := Lib.hid (setTr_B AB4 nY aN nM)
            have F6 := Lib.hid (FR.out.fresh (setTr_fr wr (g + 1) nY aN nM) (fun k e => by have : k = g + 1 := e; omega))
            obtain ⟨p0, p1, p2, z0, z1, z2⟩ := TrB.facts AB4
            dsimp only at p0 p1 p2
            go_wp2
            exact bodyPost_ret (v := trV ⟨nY, aN, nM⟩) (ret_rtr (p := 6) rfl _ _ _ ⟨nY, aN, nM⟩ (by rfl) AB6.out) rfl ⟨by rw [HE.out] <;> rfl, F6.out⟩
end Go.Proofs.YtpmipdnmhffkeaaDoor


namespace Go.Proofs.YtpmipdnmhffkeaaDoor
set_option linter.unusedVariables false
set_option linter.unusedSimpArgs false
set_option maxRecDepth 100000
open Go.RowKit

set_option maxHeartbeats 8000000 in
theorem dzask_any (v1 v2 : Value) (cols : List Co) (zs : List Zn) (hcl : cols.length ≤ 1000) (hzl : zs.length = cols.length) (p : Pd) : ∀ (t : Kv) (w : World), Ks w v1 cols → Zs w v2 zs → Kd w t p.kids → bigP p = true → oneP p = true → typP cols p = true →
    Calls Tryd.prog 23 #[v1, pdV p.hd t, v2] w fun e w' => e = .returned (trV (prnP cols zs p)) ∧ Fr Non w w' := by
  induction p using Pd.ind with
  | h hd ks ih =>
    intro t w h1 h2 hk hbig hone htyp
    dsimp only [Pd.hd, Pd.kids] at hk ⊢
    have hn : t.n = ks.length := hk.len
    obtain ⟨hl, _, hpl, _, hbk⟩ := bigP_mk hbig
    obtain ⟨hok, hok1⟩ := one_kids hone
    obtain ⟨hty, hty1⟩ := typ_kids htyp
    obtain ⟨A1, c1, rfl⟩ := h1.shape
    obtain ⟨A2, c2, rfl⟩ := h2.shape
    replace hzl := Lib.hid hzl
    have F0 := Lib.hid (docW_fr w hd t)
    have PB := Lib.hid (docW_pd w hd t)
    have AB : Hid (TrB 39 (docW w hd t) (w.heap.size + 1) ⟨false, false, false⟩) := Lib.hid (docW_tr w hd t)
    have ZB := Lib.hid (docW_zn w hd t)
    have IH : Hid (∀ j (h : j < ks.length) (W : World) (t' : Kv), Fr Non w W → Kd W t' ks[j].kids → Calls Tryd.prog 23 #[.slice A1 cols.length c1, pdV ks[j].hd t', .slice A2 zs.length c2] W fun e w' => e = .returned (trV (prnP cols zs ks[j])) ∧ Fr Non W w') :=
      Lib.hid (fun j h W t' a b => ih _ (List.getElem_mem h) t' W (h1.non a) (h2.non a) b (hbk _ (List.getElem_mem h)) (hok1 _ (List.getElem_mem h)) (hty1 _ (List.getElem_mem h)))
    have HV : Hid (Ks w (.slice A1 cols.length c1) cols) := Lib.hid h1
    have HZ : Hid (Zs w (.slice A2 zs.length c2) zs) := Lib.hid h2
    have HK : Hid (Kd w t ks) := Lib.hid hk
    have H67 := Lib.hid (fun a b => dzask67_of (.slice A1 cols.length c1) (.slice A2 zs.length c2) cols zs hd ks t w h1 h2 hk hl a b IH)
    have HE0 := Lib.hid (prn_is cols zs hd ks)
    clear ih hk h1 h2 hbig hone htyp hok1 hty1 hbk
    generalize prnP cols zs (.mk hd ks) = r at *
    rcases hd_ways hok with ⟨ho, h0, hco⟩ | ⟨ho, h0, ha⟩ | ⟨ho, h0, hco⟩ | ⟨ho, h0, hco⟩
    · clear H67
      have HE : Hid (r = ⟨true, false, false⟩) := Lib.hid (by rw [HE0.out, prnH_1 ho])
      clear HE0 IH HV HZ HK hok hty h0 hpl
      obtain ⟨ho_, hc, hm, ⟨vn, vi, vt⟩, hkd, hp⟩ := hd
      obtain ⟨A, n, c⟩ := t
      dsimp only at ho hn hco
      clear hn
      subst ho
      obtain ⟨W0, hW0⟩ : ∃ W, W = docW w ⟨1, hc, hm, ⟨vn, vi, vt⟩, hkd, hp⟩ ⟨A, n, c⟩ := ⟨_, rfl⟩
      rw [← hW0] at F0 PB AB ZB
      unfold docW at hW0
      unfold pdV at *
      unfold pdC kidV znC noZn noCl at *
      dsimp only at *
      generalize hg : w.heap.size = g at *
      subst hco
      obtain ⟨b0, b1, b2, b3, b4, b5, b6, b7, b8⟩ := pdB_cells PB.out
      dsimp only at b0 b1 b2 b3 b4 b5 b6 b7 b8
      obtain ⟨e0, e1, -⟩ := znB_cells ZB.out
      dsimp only at e0 e1
      go_enter Tryd.func23, Tryd.ntmps23
      go_wp2
      rw [← hW0]
      clear hW0
      obtain ⟨V, hV⟩ : ∃ V, V = W0.drew := ⟨_, rfl⟩
      refine wp_region_held_drew (S := (fun W' => W'.cell? ⟨g + 1 + 1, 0, none⟩ = some (.int .i64 0) ∧ W'.cell? ⟨g + 1 + 1, 1, none⟩ = some (.int .i64 0))) (by kernel_rfl) (by exact ⟨e0, e1⟩) (fun hHeld => ?_)
      rw [← hV]
      rw [← hV] at hHeld
      have FV : Fr Non W0 V := by rw [hV]; exact (Fr.refl Non W0).drew
      clear hV
      replace e0 := FV.at0 e0
      replace e1 := FV.at0 e1
      refine wpAnyH_take (i := 0) (oi := ⟨some 27, _, _, _, _, none⟩) (v := ?v1) rfl (by kernel_rfl) (by kernel_rfl) (by kernel_rfl) (fun _ _ _ h => h) (Or.inl ⟨by rfl, ?hy1⟩) (by assumption) ?rest1
      case hy1 => (intro wS hSw; (try dsimp only at hSw); go_simp; (try with_reducible rfl))
      (try simp only [Act.put, List.setIfInBounds_toArray, List.set_cons_zero, List.set_cons_succ])
      refine wpAnyH_take (i := 1) (oi := ⟨some 28, _, _, _, _, none⟩) (v := ?v2) rfl (by kernel_rfl) (by kernel_rfl) (by kernel_rfl) (fun _ _ _ h => h) (Or.inl ⟨by rfl, ?hy2⟩) (by assumption) ?rest2
      case hy2 => (intro wS hSw; (try dsimp only at hSw); go_simp; (try with_reducible rfl))
      (try simp only [Act.put, List.setIfInBounds_toArray, List.set_cons_zero, List.set_cons_succ])
      refine wpAnyH_take (i := 2) (oi := ⟨some 29, _, _, _, _, none⟩) (v := ?v3) rfl (by kernel_rfl) (by kernel_rfl) (by kernel_rfl) (fun _ _ _ h => h) (Or.inl ⟨by rfl, ?hy3⟩) (by assumption) ?rest3
      case hy3 => (intro wS hSw; (try dsimp only at hSw); go_simp; (try with_reducible rfl))
      (try simp only [Act.put, List.setIfInBounds_toArray, List.set_cons_zero, List.set_cons_succ])
      refine wpAnyH_take (i := 3) (oi := ⟨some 30, _, _, _, _, none⟩) (v := ?v4) rfl (by kernel_rfl) (by kernel_rfl) (by kernel_rfl) (fun _ _ _ h => h) (Or.inl ⟨by rfl, ?hy4⟩) (by assumption) ?rest4
      case hy4 => (intro wS hSw; (try dsimp only at hSw); go_simp; (try with_reducible rfl))
      (try simp only [Act.put, List.setIfInBounds_toArray, List.set_cons_zero, List.set_cons_succ])
      refine wpAnyH_take (i := 4) (oi := ⟨some 31, _, _, _, _, none⟩) (v := ?v5) rfl (by kernel_rfl) (by kernel_rfl) (by kernel_rfl) (fun _ _ _ h => h) (Or.inl ⟨by rfl, ?hy5⟩) (by assumption) ?rest5
      case hy5 => (intro wS hSw; (try dsimp only at hSw); go_simp; (try with_reducible rfl))
      (try simp only [Act.put, List.setIfInBounds_toArray, List.set_cons_zero, List.set_cons_succ])
      refine wpAnyH_take (i := 5) (oi := ⟨some 32, _, _, _, _, none⟩) (v := ?v6) rfl (by kernel_rfl) (by kernel_rfl) (by kernel_rfl) (fun _ _ _ h => h) (Or.inl ⟨by rfl, ?hy6⟩) (by assumption) ?rest6
      case hy6 => (intro wS hSw; (try dsimp only at hSw); go_simp; (try with_reducible rfl))
      (try simp only [Act.put, List.setIfInBounds_toArray, List.set_cons_zero, List.set_cons_succ])
      refine wpAnyH_take (i := 6) (oi := ⟨some 33, _, _, _, _, none⟩) (v := ?v7) rfl (by kernel_rfl) (by kernel_rfl) (by kernel_rfl) (fun _ _ _ h => h) (Or.inl ⟨by rfl, ?hy7⟩) (by assumption) ?rest7
      case hy7 => (intro wS hSw; (try dsimp only at hSw); go_simp; (try with_reducible rfl))
      (try simp only [Act.put, List.setIfInBounds_toArray, List.set_cons_zero, List.set_cons_succ])
      refine wpAnyH_take (i := 7) (oi := ⟨some 34, _, _, _, _, none⟩) (v := ?v8) rfl (by kernel_rfl) (by kernel_rfl) (by kernel_rfl) (fun _ _ _ h => h) (Or.inl ⟨by rfl, ?hy8⟩) (by assumption) ?rest8
      case hy8 => (intro wS hSw; (try dsimp only at hSw); go_simp; (try with_reducible rfl))
      (try simp only [Act.put, List.setIfInBounds_toArray, List.set_cons_zero, List.set_cons_succ])
      refine wpAnyH_take (i := 8) (oi := ⟨some 8, _, _, _, _, none⟩) (v := ?v9) rfl (by kernel_rfl) (by kernel_rfl) (by kernel_rfl) (fun _ _ _ h => h) (Or.inl ⟨by rfl, ?hy9⟩) (by assumption) ?rest9
      case hy9 => (intro wS hSw; (try dsimp only at hSw); go_simp; (try with_reducible rfl))
      (try simp only [Act.put, List.setIfInBounds_toArray, List.set_cons_zero, List.set_cons_succ])
      refine wpAnyH_take (i := 9) (oi := ⟨some 9, _, _, _, _, none⟩) (v := ?v10) rfl (by kernel_rfl) (by kernel_rfl) (by kernel_rfl) (fun _ _ _ h => h) (Or.inl ⟨by rfl, ?hy10⟩) (by assumption) ?rest10
      case hy10 => (intro wS hSw; (try dsimp only at hSw); go_simp; (try with_reducible rfl))
      (try simp only [Act.put, List.setIfInBounds_toArray, List.set_cons_zero, List.set_cons_succ])
      refine wpAnyH_done (by kernel_rfl) ?_ _
      clear hHeld
      have FwV := Lib.hid (F0.out.trans FV)
      have PBV := Lib.hid (PB.out.fr FV (fun e => e))
      have ABV : TrB 39 V (g + 1) ⟨false, false, false⟩ := AB.out.fr FV (fun e => e)
      clear b0 b1 b2 b3 b4 b5 b6 b7 b8 e0 e1
      obtain ⟨b0, b1, b2, b3, b4, b5, b6, b7, b8⟩ := pdB_cells PBV.out
      dsimp only at b0 b1 b2 b3 b4 b5 b6 b7 b8
      have AB6 := Lib.hid (setTr_B ABV true false false)
      have F6 := Lib.hid (FwV.out.fresh (setTr_fr V (g + 1) true false false) (fun k e => by have : k = g + 1 := e; omega))
      obtain ⟨p0, p1, p2, z0, z1, z2⟩ := TrB.facts ABV
      dsimp only at p0 p1 p2
      go_wp2
      exact bodyPost_ret (v := trV ⟨true, false, false⟩) (ret_rtr (p := 6) rfl _ _ _ ⟨true, false, false⟩ (by rfl) AB6.out) rfl ⟨by rw [HE.out] <;> rfl, F6.out⟩
    · clear H67
      obtain ⟨hne, k, hk1, hk2, hf, hzn, hq2⟩ := ask_zone (zs := zs) ho ha hty hzl.out
      have hb2 : (hd.col != []) = true := by rw [bne_iff_ne]; exact hne
      have hb3 : (hd.col == []) = false := beq_eq_false_iff_ne.2 hne
      have hb4 : List.isEmpty hd.col = false := by rw [List.isEmpty_eq_false_iff]; exact hne
      have HFi := Lib.hid (fun W h => rfind_any (.slice A1 cols.length c1) cols hd.col W h (by omega))
      rw [hf] at HFi
      unfold findI at HFi
      dsimp only at HFi
      have HZk : Hid (∀ W, Fr Non w W → ∃ a2, A2 = some a2 ∧ ZAt W (a2.add (k * 8)) zs[k]) := Lib.hid (fun W hf2 => by
        obtain ⟨a2, e, -, -, hel⟩ := (HZ.out.non hf2).addr (show 0 < zs.length by omega)
        exact ⟨a2, e, zn_lit (hel k hk2)⟩)
      rcases ho with ho | ho | ho
      · obtain ⟨q1, q6, hvn⟩ := hq2 ho
        have HE : Hid (r = ⟨someZ zs[k] && rngI hd.cmp zs[k].low zs[k].high hd.val, someZ zs[k] && rngI (oppI hd.cmp) zs[k].low zs[k].high hd.val, decide (0 < zs[k].nulls)⟩) := Lib.hid (by rw [HE0.out, prnH_2 ho, hzn] <;> rfl)
        obtain ⟨q, hq⟩ := Int.eq_ofNat_of_zero_le (show 0 ≤ hd.cmp by omega)
        have hq7 : q < 7 := by omega
        have hqi : (q : Int) < 7 := by omega
        have HY1 := Lib.hid (fun W => dzyes_any zs[k].low zs[k].high hd.cmp hd.val W)
        have HY2 := Lib.hid (fun W => dzyes_any zs[k].low zs[k].high (oppI hd.cmp) hd.val W)
        have hopp : oppI hd.cmp = ((oppN q : Nat) : Int) := by rw [hq]; exact (oppN_is (by omega) (by omega)).symm
        have hdv : ∀ (i : Nat) (W : World), i < 7 → (W.alloc (.cells #[.int .i64 0, .int .i64 2, .int .i64 1, .int .i64 6, .int .i64 5, .int .i64 4, .int .i64 3] 3)).cell? ⟨W.heap.size, i, none⟩ = some (.int .i64 ((oppN i : Nat) : Int)) := fun i W hi => by
          rw [(Blk.new W 3 #[.int .i64 0, .int .i64 2, .int .i64 1, .int .i64 6, .int .i64 5, .int .i64 4, .int .i64 3]).cell i]
          have : i = 0 ∨ i = 1 ∨ i = 2 ∨ i = 3 ∨ i = 4 ∨ i = 5 ∨ i = 6 := by omega
          rcases this with rfl | rfl | rfl | rfl | rfl | rfl | rfl <;> rfl
        replace hdv := Lib.hid (hdv q)
        generalize rngI hd.cmp zs[k].low zs[k].high hd.val = ra at *
        generalize rngI (oppI hd.cmp) zs[k].low zs[k].high hd.val = rb at *
        rw [hopp] at HY2
        rw [hq] at HY1
        generalize oppN q = m at *
        have hsz : Hid (someZ zs[k] = decide (zs[k].nulls < zs[k].rows)) := Lib.hid rfl
        generalize someZ zs[k] = sz at *
        clear HE0 IH HK hok hty h0 hpl hq2 hvn q1 q6 hf hne ha hzn hopp
        generalize hz : zs[k] = z at *
        clear hz
        obtain ⟨zr, zu, ⟨ln, li, lt⟩, ⟨hn2, hi, ht⟩⟩ := z
        obtain ⟨ho_, hc, hm, ⟨vn, vi, vt⟩, hkd, hp⟩ := hd
        obtain ⟨A, n, c⟩ := t
        dsimp only at ho hn HFi hb2 hb3 hb4 HY1 HY2 HE hq
        clear hn
        subst ho
        subst hq
        obtain ⟨W0, hW0⟩ : ∃ W, W = docW w ⟨2, hc, (q : Nat), ⟨vn, vi, vt⟩, hkd, hp⟩ ⟨A, n, c⟩ := ⟨_, rfl⟩
        rw [← hW0] at F0 PB AB ZB
        unfold docW at hW0
        unfold clV clC at HY1 HY2
        unfold pdV at *
        unfold pdC kidV znC noZn noCl at *
        dsimp only at *
        generalize hg : w.heap.size = g at *
        obtain ⟨b0, b1, b2, b3, b4, b5, b6, b7, b8⟩ := pdB_cells PB.out
        dsimp only at b0 b1 b2 b3 b4 b5 b6 b7 b8
        go_enter Tryd.func23, Tryd.ntmps23
        go_wp2_with fail
        rw [← hW0]
        clear hW0
        refine (HFi.out _ (HV.out.non F0.out)).mono ?_
        rintro e w1 ⟨rfl, f1⟩
        have PB1 := Lib.hid (PB.out.fr f1 (fun e => e))
        have AB1 : Hid (TrB 39 w1 (g + 1) ⟨false, false, false⟩) := Lib.hid (AB.out.fr f1 (fun e => e))
        have ZB1 : ZnB w1 (g + 1 + 1) ⟨0, 0, ⟨false, 0, []⟩, ⟨false, 0, []⟩⟩ := ZB.out.fr f1 (fun e => e)
        have F1 := Lib.hid (F0.out.trans f1)
        obtain ⟨a2, rfl, hza⟩ := HZk.out _ F1.out
        obtain ⟨t0, t1, t2, t3, t4, t5, t6, t7⟩ := hza
        dsimp only at t0 t1 t2 t3 t4 t5 t6 t7
        obtain ⟨u0, u1, u2, u3, u4, u5, u6, u7⟩ := znB_froz ZB1
        obtain ⟨x0, x1, x2, x3, x4, x5, x6, x7⟩ := znB_cells ZB1
        dsimp only at x0 x1 x2 x3 x4 x5 x6 x7
        obtain ⟨W2, hW2⟩ : ∃ W, W = setZn w1 (g + 1 + 1) ⟨zr, zu, ⟨ln, li, lt⟩, ⟨hn2, hi, ht⟩⟩ := ⟨_, rfl⟩
        have s2 : Fr (One (g + 1 + 1)) w1 W2 := by rw [hW2]; exact setZn_fr _ _ _
        have ZB2 : Hid (ZnB W2 (g + 1 + 1) ⟨zr, zu, ⟨ln, li, lt⟩, ⟨hn2, hi, ht⟩⟩) := Lib.hid (by rw [hW2]; exact setZn_B ZB1 _)
        have PB2 := Lib.hid (PB1.out.fr s2 (fun e => by have : g = g + 1 + 1 := e; omega))
        have AB2 : Hid (TrB 39 W2 (g + 1) ⟨false, false, false⟩) := Lib.hid (AB1.out.fr s2 (fun e => by have : g + 1 = g + 1 + 1 := e; omega))
        have F2 := Lib.hid (F1.out.fresh s2 (fun k e => by have : k = g + 1 + 1 := e; omega))
        clear b0 b1 b2 b3 b4 b5 b6 b7 b8 s2 ZB1 PB1 AB1 F1 f1
        have hb9 := hb2
        unfold setZn setHigh setLow setRN at hW2
        dsimp only at hW2
        go_wp2
        rw [← hW2]
        clear hW2 t0 t1 t2 t3 t4 t5 t6 t7 u0 u1 u2 u3 u4 u5 u6 u7 x0 x1 x2 x3 x4 x5 x6 x7
        obtain ⟨e0, e1, -⟩ := znB_cells ZB2.out
        dsimp only at e0 e1
        obtain ⟨V, hV⟩ : ∃ V, V = W2.drew := ⟨_, rfl⟩
        refine wp_region_held_drew (S := (fun W' => W'.cell? ⟨g + 1 + 1, 0, none⟩ = some (.int .i64 zr) ∧ W'.cell? ⟨g + 1 + 1, 1, none⟩ = some (.int .i64 zu))) (by kernel_rfl) (by exact ⟨e0, e1⟩) (fun hHeld => ?_)
        rw [← hV]
        rw [← hV] at hHeld
        have FV : Fr Non W2 V := by rw [hV]; exact (Fr.refl Non W2).drew
        clear hV
        replace e0 := FV.at0 e0
        replace e1 := FV.at0 e1
        refine wpAnyH_take (i := 0) (oi := ⟨some 27, _, _, _, _, none⟩) (v := ?v11) rfl (by kernel_rfl) (by kernel_rfl) (by kernel_rfl) (fun _ _ _ h => h) (Or.inl ⟨by rfl, ?hy11⟩) (by assumption) ?rest11
        case hy11 => (intro wS hSw; (try dsimp only at hSw); go_simp; (try with_reducible rfl))
        (try simp only [Act.put, List.setIfInBounds_toArray, List.set_cons_zero, List.set_cons_succ])
        refine wpAnyH_take (i := 1) (oi := ⟨some 28, _, _, _, _, none⟩) (v := ?v12) rfl (by kernel_rfl) (by kernel_rfl) (by kernel_rfl) (fun _ _ _ h => h) (Or.inl ⟨by rfl, ?hy12⟩) (by assumption) ?rest12
        case hy12 => (intro wS hSw; (try dsimp only at hSw); go_simp; (try with_reducible rfl))
        (try simp only [Act.put, List.setIfInBounds_toArray, List.set_cons_zero, List.set_cons_succ])
        refine wpAnyH_take (i := 2) (oi := ⟨some 29, _, _, _, _, none⟩) (v := ?v13) rfl (by kernel_rfl) (by kernel_rfl) (by kernel_rfl) (fun _ _ _ h => h) (Or.inl ⟨by rfl, ?hy13⟩) (by assumption) ?rest13
        case hy13 => (intro wS hSw; (try dsimp only at hSw); go_simp; (try with_reducible rfl))
        (try simp only [Act.put, List.setIfInBounds_toArray, List.set_cons_zero, List.set_cons_succ])
        refine wpAnyH_take (i := 3) (oi := ⟨some 30, _, _, _, _, none⟩) (v := ?v14) rfl (by kernel_rfl) (by kernel_rfl) (by kernel_rfl) (fun _ _ _ h => h) (Or.inl ⟨by rfl, ?hy14⟩) (by assumption) ?rest14
        case hy14 => (intro wS hSw; (try dsimp only at hSw); go_simp; (try with_reducible rfl))
        (try simp only [Act.put, List.setIfInBounds_toArray, List.set_cons_zero, List.set_cons_succ])
        refine wpAnyH_take (i := 4) (oi := ⟨some 31, _, _, _, _, none⟩) (v := ?v15) rfl (by kernel_rfl) (by kernel_rfl) (by kernel_rfl) (fun _ _ _ h => h) (Or.inl ⟨by rfl, ?hy15⟩) (by assumption) ?rest15
        case hy15 => (intro wS hSw; (try dsimp only at hSw); go_simp; (try with_reducible rfl))
        (try simp only [Act.put, List.setIfInBounds_toArray, List.set_cons_zero, List.set_cons_succ])
        refine wpAnyH_take (i := 5) (oi := ⟨some 32, _, _, _, _, none⟩) (v := ?v16) rfl (by kernel_rfl) (by kernel_rfl) (by kernel_rfl) (fun _ _ _ h => h) (Or.inl ⟨by rfl, ?hy16⟩) (by assumption) ?rest16
        case hy16 => (intro wS hSw; (try dsimp only at hSw); go_simp; (try with_reducible rfl))
        (try simp only [Act.put, List.setIfInBounds_toArray, List.set_cons_zero, List.set_cons_succ])
        refine wpAnyH_take (i := 6) (oi := ⟨some 33, _, _, _, _, none⟩) (v := ?v17) rfl (by kernel_rfl) (by kernel_rfl) (by kernel_rfl) (fun _ _ _ h => h) (Or.inl ⟨by rfl, ?hy17⟩) (by assumption) ?rest17
        case hy17 => (intro wS hSw; (try dsimp only at hSw); go_simp; (try with_reducible rfl))
        (try simp only [Act.put, List.setIfInBounds_toArray, List.set_cons_zero, List.set_cons_succ])
        refine wpAnyH_take (i := 7) (oi := ⟨some 34, _, _, _, _, none⟩) (v := ?v18) rfl (by kernel_rfl) (by kernel_rfl) (by kernel_rfl) (fun _ _ _ h => h) (Or.inl ⟨by rfl, ?hy18⟩) (by assumption) ?rest18
        case hy18 => (intro wS hSw; (try dsimp only at hSw); go_simp; (try with_reducible rfl))
        (try simp only [Act.put, List.setIfInBounds_toArray, List.set_cons_zero, List.set_cons_succ])
        refine wpAnyH_take (i := 8) (oi := ⟨some 8, _, _, _, _, none⟩) (v := ?v19) rfl (by kernel_rfl) (by kernel_rfl) (by kernel_rfl) (fun _ _ _ h => h) (Or.inl ⟨by rfl, ?hy19⟩) (by assumption) ?rest19
        case hy19 => (intro wS hSw; (try dsimp only at hSw); go_simp; (try with_reducible rfl))
        (try simp only [Act.put, List.setIfInBounds_toArray, List.set_cons_zero, List.set_cons_succ])
        refine wpAnyH_take (i := 9) (oi := ⟨some 9, _, _, _, _, none⟩) (v := ?v20) rfl (by kernel_rfl) (by kernel_rfl) (by kernel_rfl) (fun _ _ _ h => h) (Or.inl ⟨by rfl, ?hy20⟩) (by assumption) ?rest20
        case hy20 => (intro wS hSw; (try dsimp only at hSw); go_simp; (try with_reducible rfl))
        (try simp only [Act.put, List.setIfInBounds_toArray, List.set_cons_zero, List.set_cons_succ])
        refine wpAnyH_done (by kernel_rfl) ?_ _
        clear hHeld
        have FwV := Lib.hid (F2.out.trans FV)
        have PBV := Lib.hid (PB2.out.fr FV (fun e => e))
        have ZBV := Lib.hid (ZB2.out.fr FV (fun e => e))
        have ABV : TrB 39 V (g + 1) ⟨false, false, false⟩ := AB2.out.fr FV (fun e => e)
        clear e0 e1
        obtain ⟨b0, b1, b2, b3, b4, b5, b6, b7, b8⟩ := pdB_cells PBV.out
        dsimp only at b0 b1 b2 b3 b4 b5 b6 b7 b8
        obtain ⟨D, hD⟩ : ∃ D, V.heap.size = D := ⟨_, rfl⟩
        have hDg : g + 1 + 1 < D := by have := (ZBV.out).lt; omega
        obtain ⟨U, hU0⟩ : ∃ W, W = V.alloc (.cells #[.int .i64 0, .int .i64 2, .int .i64 1, .int .i64 6, .int .i64 5, .int .i64 4, .int .i64 3] 3) := ⟨_, rfl⟩
        have FU : Fr Non V U := by rw [hU0]; exact (Fr.refl Non V).alloc _
        have o1 := hdv.out V hq7
        rw [← hU0, hD] at o1
        obtain ⟨-, -, y2, y3, y4, y5, y6, y7⟩ := znB_cells (ZBV.out.fr FU (fun e => e))
        dsimp only at y2 y3 y4 y5 y6 y7
        go_wp2
        rw [← hU0]
        clear hU0 hD b0 b1 b6 b7 b8
        replace b2 := FU.at0 b2
        replace b3 := FU.at0 b3
        replace b4 := FU.at0 b4
        replace b5 := FU.at0 b5
        rw [← hsz.out]
        clear hsz
        cases sz
        · obtain ⟨U2, hU⟩ : ∃ V, V = U.drew := ⟨_, rfl⟩
          refine wp_region_held_drew (S := (fun W' => W'.cell? ⟨g + 1 + 1, 2, none⟩ = some (.bool ln) ∧ W'.cell? ⟨g + 1 + 1, 3, none⟩ = some (.int .i64 li) ∧ W'.cell? ⟨g + 1 + 1, 4, none⟩ = some (.string ⟨lt.toArray⟩) ∧ W'.cell? ⟨g + 1 + 1, 5, none⟩ = some (.bool hn2) ∧ W'.cell? ⟨g + 1 + 1, 6, none⟩ = some (.int .i64 hi) ∧ W'.cell? ⟨g + 1 + 1, 7, none⟩ = some (.string ⟨ht.toArray⟩) ∧ W'.cell? ⟨g, 2, none⟩ = some (.int .i64 (q : Nat)) ∧ W'.cell? ⟨g, 3, none⟩ = some (.bool vn) ∧ W'.cell? ⟨g, 4, none⟩ = some (.int .i64 vi) ∧ W'.cell? ⟨g, 5, none⟩ = some (.string ⟨vt.toArray⟩) ∧ W'.cell? ⟨D, q, none⟩ = some (.int .i64 (m : Nat)))) (by kernel_rfl) (by exact ⟨y2, y3, y4, y5, y6, y7, b2, b3, b4, b5, o1⟩) (fun hHeld => ?_)
          rw [← hU]
          rw [← hU] at hHeld
          have FU2 : Fr Non U U2 := by rw [hU]; exact (Fr.refl Non U).drew
          clear hU
          replace y2 := FU2.at0 y2
          replace y3 := FU2.at0 y3
          replace y4 := FU2.at0 y4
          replace y5 := FU2.at0 y5
          replace y6 := FU2.at0 y6
          replace y7 := FU2.at0 y7
          replace b2 := FU2.at0 b2
          replace b3 := FU2.at0 b3
          replace b4 := FU2.at0 b4
          replace b5 := FU2.at0 b5
          replace o1 := FU2.at0 o1
          have AV : Hid (TrB 39 U2 (g + 1) ⟨false, false, false⟩) := Lib.hid ((ABV.fr FU (fun e => e)).fr FU2 (fun e => e))
          have GV : Fr Non U2 U2 := Fr.refl Non U2
          have FwU := Lib.hid ((FwV.out.trans FU).trans FU2)
          refine wpAnyH_take (i := 0) (oi := ⟨some 48, _, _, _, _, none⟩) (v := ?v21) rfl (by kernel_rfl) (by kernel_rfl) (by kernel_rfl) (fun _ _ _ h => h) (Or.inl ⟨by rfl, ?hy21⟩) (by assumption) ?rest21
          case hy21 => (intro wS hSw; (try dsimp only at hSw); go_simp; (try with_reducible rfl))
          (try simp only [Act.put, List.setIfInBounds_toArray, List.set_cons_zero, List.set_cons_succ])
          refine wpAnyH_take (i := 1) (oi := ⟨some 49, _, _, _, _, none⟩) (v := ?v22) rfl (by kernel_rfl) (by kernel_rfl) (by kernel_rfl) (fun _ _ _ h => h) (Or.inl ⟨by rfl, ?hy22⟩) (by assumption) ?rest22
          case hy22 => (intro wS hSw; (try dsimp only at hSw); go_simp; (try with_reducible rfl))
          (try simp only [Act.put, List.setIfInBounds_toArray, List.set_cons_zero, List.set_cons_succ])
          refine wpAnyH_take (i := 2) (oi := ⟨some 50, _, _, _, _, some (1, true)⟩) (v := undef) rfl (by kernel_rfl) (by kernel_rfl) (by kernel_rfl) (fun _ _ _ h => h) (Or.inr ⟨by rfl, rfl⟩) (by assumption) ?_
          (try simp only [Act.put, List.setIfInBounds_toArray, List.set_cons_zero, List.set_cons_succ])
          refine wpAnyH_take (i := 3) (oi := ⟨some 51, _, _, _, _, some (1, true)⟩) (v := undef) rfl (by kernel_rfl) (by kernel_rfl) (by kernel_rfl) (fun _ _ _ h => h) (Or.inr ⟨by rfl, rfl⟩) (by assumption) ?_
          (try simp only [Act.put, List.setIfInBounds_toArray, List.set_cons_zero, List.set_cons_succ])
          refine wpAnyH_take (i := 4) (oi := ⟨some 52, _, _, _, _, some (1, true)⟩) (v := undef) rfl (by kernel_rfl) (by kernel_rfl) (by kernel_rfl) (fun _ _ _ h => h) (Or.inr ⟨by rfl, rfl⟩) (by assumption) ?_
          (try simp only [Act.put, List.setIfInBounds_toArray, List.set_cons_zero, List.set_cons_succ])
          refine wpAnyH_take (i := 5) (oi := ⟨some 53, _, _, _, _, some (1, true)⟩) (v := undef) rfl (by kernel_rfl) (by kernel_rfl) (by kernel_rfl) (fun _ _ _ h => h) (Or.inr ⟨by rfl, rfl⟩) (by assumption) ?_
          (try simp only [Act.put, List.setIfInBounds_toArray, List.set_cons_zero, List.set_cons_succ])
          refine wpAnyH_take (i := 6) (oi := ⟨some 54, _, _, _, _, some (1, true)⟩) (v := undef) rfl (by kernel_rfl) (by kernel_rfl) (by kernel_rfl) (fun _ _ _ h => h) (Or.inr ⟨by rfl, rfl⟩) (by assumption) ?_
          (try simp only [Act.put, List.setIfInBounds_toArray, List.set_cons_zero, List.set_cons_succ])
          refine wpAnyH_take (i := 7) (oi := ⟨some 55, _, _, _, _, some (1, true)⟩) (v := undef) rfl (by kernel_rfl) (by kernel_rfl) (by kernel_rfl) (fun _ _ _ h => h) (Or.inr ⟨by rfl, rfl⟩) (by assumption) ?_
          (try simp only [Act.put, List.setIfInBounds_toArray, List.set_cons_zero, List.set_cons_succ])
          refine wpAnyH_take (i := 8) (oi := ⟨some 56, _, _, _, _, some (1, true)⟩) (v := undef) rfl (by kernel_rfl) (by kernel_rfl) (by kernel_rfl) (fun _ _ _ h => h) (Or.inr ⟨by rfl, rfl⟩) (by assumption) ?_
          (try simp only [Act.put, List.setIfInBounds_toArray, List.set_cons_zero, List.set_cons_succ])
          refine wpAnyH_take (i := 9) (oi := ⟨some 57, _, _, _, _, some (1, true)⟩) (v := undef) rfl (by kernel_rfl) (by kernel_rfl) (by kernel_rfl) (fun _ _ _ h => h) (Or.inr ⟨by rfl, rfl⟩) (by assumption) ?_
          (try simp only [Act.put, List.setIfInBounds_toArray, List.set_cons_zero, List.set_cons_succ])
          refine wpAnyH_take (i := 10) (oi := ⟨some 58, _, _, _, _, some (1, true)⟩) (v := undef) rfl (by kernel_rfl) (by kernel_rfl) (by kernel_rfl) (fun _ _ _ h => h) (Or.inr ⟨by rfl, rfl⟩) (by assumption) ?_
          (try simp only [Act.put, List.setIfInBounds_toArray, List.set_cons_zero, List.set_cons_succ])
          refine wpAnyH_take (i := 11) (oi := ⟨some 59, _, _, _, _, none⟩) (v := ?v23) rfl (by kernel_rfl) (by kernel_rfl) (by kernel_rfl) (fun _ _ _ h => h) (Or.inl ⟨by rfl, ?hy23⟩) (by assumption) ?rest23
          case hy23 => (intro wS hSw; (try dsimp only at hSw); go_simp; (try with_reducible rfl))
          (try simp only [Act.put, List.setIfInBounds_toArray, List.set_cons_zero, List.set_cons_succ])
          refine wpAnyH_take (i := 12) (oi := ⟨some 60, _, _, _, _, none⟩) (v := ?v24) rfl (by kernel_rfl) (by kernel_rfl) (by kernel_rfl) (fun _ _ _ h => h) (Or.inl ⟨by rfl, ?hy24⟩) (by assumption) ?rest24
          case hy24 => (intro wS hSw; (try dsimp only at hSw); go_simp; (try with_reducible rfl))
          (try simp only [Act.put, List.setIfInBounds_toArray, List.set_cons_zero, List.set_cons_succ])
          refine wpAnyH_take (i := 13) (oi := ⟨some 61, _, _, _, _, none⟩) (v := ?v25) rfl (by kernel_rfl) (by kernel_rfl) (by kernel_rfl) (fun _ _ _ h => h) (Or.inl ⟨by rfl, ?hy25⟩) (by assumption) ?rest25
          case hy25 => (intro wS hSw; (try dsimp only at hSw); go_simp; (try with_reducible rfl))
          (try simp only [Act.put, List.setIfInBounds_toArray, List.set_cons_zero, List.set_cons_succ])
          refine wpAnyH_take (i := 14) (oi := ⟨some 62, _, _, _, _, some (13, true)⟩) (v := undef) rfl (by kernel_rfl) (by kernel_rfl) (by kernel_rfl) (fun _ _ _ h => h) (Or.inr ⟨by rfl, rfl⟩) (by assumption) ?_
          (try simp only [Act.put, List.setIfInBounds_toArray, List.set_cons_zero, List.set_cons_succ])
          refine wpAnyH_take (i := 15) (oi := ⟨some 63, _, _, _, _, some (13, true)⟩) (v := undef) rfl (by kernel_rfl) (by kernel_rfl) (by kernel_rfl) (fun _ _ _ h => h) (Or.inr ⟨by rfl, rfl⟩) (by assumption) ?_
          (try simp only [Act.put, List.setIfInBounds_toArray, List.set_cons_zero, List.set_cons_succ])
          refine wpAnyH_take (i := 16) (oi := ⟨some 64, _, _, _, _, some (13, true)⟩) (v := undef) rfl (by kernel_rfl) (by kernel_rfl) (by kernel_rfl) (fun _ _ _ h => h) (Or.inr ⟨by rfl, rfl⟩) (by assumption) ?_
          (try simp only [Act.put, List.setIfInBounds_toArray, List.set_cons_zero, List.set_cons_succ])
          refine wpAnyH_take (i := 17) (oi := ⟨some 65, _, _, _, _, some (13, true)⟩) (v := undef) rfl (by kernel_rfl) (by kernel_rfl) (by kernel_rfl) (fun _ _ _ h => h) (Or.inr ⟨by rfl, rfl⟩) (by assumption) ?_
          (try simp only [Act.put, List.setIfInBounds_toArray, List.set_cons_zero, List.set_cons_succ])
          refine wpAnyH_take (i := 18) (oi := ⟨some 66, _, _, _, _, some (13, true)⟩) (v := undef) rfl (by kernel_rfl) (by kernel_rfl) (by kernel_rfl) (fun _ _ _ h => h) (Or.inr ⟨by rfl, rfl⟩) (by assumption) ?_
          (try simp only [Act.put, List.setIfInBounds_toArray, List.set_cons_zero, List.set_cons_succ])
          refine wpAnyH_take (i := 19) (oi := ⟨some 67, _, _, _, _, some (13, true)⟩) (v := undef) rfl (by kernel_rfl) (by kernel_rfl) (by kernel_rfl) (fun _ _ _ h => h) (Or.inr ⟨by rfl, rfl⟩) (by assumption) ?_
          (try simp only [Act.put, List.setIfInBounds_toArray, List.set_cons_zero, List.set_cons_succ])
          refine wpAnyH_take (i := 20) (oi := ⟨some 68, _, _, _, _, some (13, true)⟩) (v := undef) rfl (by kernel_rfl) (by kernel_rfl) (by kernel_rfl) (fun _ _ _ h => h) (Or.inr ⟨by rfl, rfl⟩) (by assumption) ?_
          (try simp only [Act.put, List.setIfInBounds_toArray, List.set_cons_zero, List.set_cons_succ])
          refine wpAnyH_take (i := 21) (oi := ⟨some 69, _, _, _, _, some (13, true)⟩) (v := undef) rfl (by kernel_rfl) (by kernel_rfl) (by kernel_rfl) (fun _ _ _ h => h) (Or.inr ⟨by rfl, rfl⟩) (by assumption) ?_
          (try simp only [Act.put, List.setIfInBounds_toArray, List.set_cons_zero, List.set_cons_succ])
          refine wpAnyH_take (i := 22) (oi := ⟨some 70, _, _, _, _, some (13, true)⟩) (v := undef) rfl (by kernel_rfl) (by kernel_rfl) (by kernel_rfl) (fun _ _ _ h => h) (Or.inr ⟨by rfl, rfl⟩) (by assumption) ?_
          (try simp only [Act.put, List.setIfInBounds_toArray, List.set_cons_zero, List.set_cons_succ])
          refine wpAnyH_take (i := 23) (oi := ⟨some 71, _, _, _, _, some (13, true)⟩) (v := undef) rfl (by kernel_rfl) (by kernel_rfl) (by kernel_rfl) (fun _ _ _ h => h) (Or.inr ⟨by rfl, rfl⟩) (by assumption) ?_
          (try simp only [Act.put, List.setIfInBounds_toArray, List.set_cons_zero, List.set_cons_succ])
          refine wpAnyH_take (i := 24) (oi := ⟨some 72, _, _, _, _, some (13, true)⟩) (v := undef) rfl (by kernel_rfl) (by kernel_rfl) (by kernel_rfl) (fun _ _ _ h => h) (Or.inr ⟨by rfl, rfl⟩) (by assumption) ?_
          (try simp only [Act.put, List.setIfInBounds_toArray, List.set_cons_zero, List.set_cons_succ])
          refine wpAnyH_take (i := 25) (oi := ⟨some 73, _, _, _, _, some (13, true)⟩) (v := undef) rfl (by kernel_rfl) (by kernel_rfl) (by kernel_rfl) (fun _ _ _ h => h) (Or.inr ⟨by rfl, rfl⟩) (by assumption) ?_
          (try simp only [Act.put, List.setIfInBounds_toArray, List.set_cons_zero, List.set_cons_succ])
          refine wpAnyH_take (i := 26) (oi := ⟨some 74, _, _, _, _, none⟩) (v := ?v26) rfl (by kernel_rfl) (by kernel_rfl) (by kernel_rfl) (fun _ _ _ h => h) (Or.inl ⟨by rfl, ?hy26⟩) (by assumption) ?rest26
          case hy26 => (intro wS hSw; (try dsimp only at hSw); go_simp; (try with_reducible rfl))
          (try simp only [Act.put, List.setIfInBounds_toArray, List.set_cons_zero, List.set_cons_succ])
          refine wpAnyH_take (i := 27) (oi := ⟨some 75, _, _, _, _, none⟩) (v := ?v27) rfl (by kernel_rfl) (by kernel_rfl) (by kernel_rfl) (fun _ _ _ h => h) (Or.inl ⟨by rfl, ?hy27⟩) (by assumption) ?rest27
          case hy27 => (intro wS hSw; (try dsimp only at hSw); go_simp; (try with_reducible rfl))
          (try simp only [Act.put, List.setIfInBounds_toArray, List.set_cons_zero, List.set_cons_succ])
          refine wpAnyH_take (i := 28) (oi := ⟨some 76, _, _, _, _, none⟩) (v := ?v28) rfl (by kernel_rfl) (by kernel_rfl) (by kernel_rfl) (fun _ _ _ h => h) (Or.inl ⟨by rfl, ?hy28⟩) (by assumption) ?rest28
          case hy28 => (intro wS hSw; (try dsimp only at hSw); go_simp; (try with_reducible rfl))
          (try simp only [Act.put, List.setIfInBounds_toArray, List.set_cons_zero, List.set_cons_succ])
          refine wpAnyH_ready (rs := [29]) (by kernel_rfl) (by simp) ?_
          refine AllReadyH.cons (o := ⟨none, _, _, _, _, none⟩) rfl (fun K hK => ?_) AllReadyH.nil
          have TB5 : TrB 39 U2 (g + 1) ⟨false, false, false⟩ := AV.out.fr GV (fun e => e)
          obtain ⟨p0, p1, p2, z0, z1, z2⟩ := TB5.facts
          dsimp only at p0 p1 p2
          obtain ⟨W6, hW6⟩ : ∃ W, W = setTr U2 (g + 1) false false (decide (0 < zu)) := ⟨_, rfl⟩
          have s6 : Fr (One (g + 1)) U2 W6 := by rw [hW6]; exact setTr_fr _ _ _ _ _
          have TB6 : TrB 39 W6 (g + 1) ⟨false, false, (decide (0 < zu))⟩ := by rw [hW6]; exact setTr_B TB5 _ _ _
          have F6 : Fr Non w W6 := (FwU.out.trans GV).fresh s6 (fun k e => by have : k = g + 1 := e; omega)
          have q_y2 := (s6.cell (World.block_lt_of_cell? _ _ (GV.at0 y2)) (fun e => by have e2 : g + 1 + 1 = g + 1 := e; omega)).trans (GV.at0 y2)
          have q_y3 := (s6.cell (World.block_lt_of_cell? _ _ (GV.at0 y3)) (fun e => by have e2 : g + 1 + 1 = g + 1 := e; omega)).trans (GV.at0 y3)
          have q_y4 := (s6.cell (World.block_lt_of_cell? _ _ (GV.at0 y4)) (fun e => by have e2 : g + 1 + 1 = g + 1 := e; omega)).trans (GV.at0 y4)
          have q_y5 := (s6.cell (World.block_lt_of_cell? _ _ (GV.at0 y5)) (fun e => by have e2 : g + 1 + 1 = g + 1 := e; omega)).trans (GV.at0 y5)
          have q_y6 := (s6.cell (World.block_lt_of_cell? _ _ (GV.at0 y6)) (fun e => by have e2 : g + 1 + 1 = g + 1 := e; omega)).trans (GV.at0 y6)
          have q_y7 := (s6.cell (World.block_lt_of_cell? _ _ (GV.at0 y7)) (fun e => by have e2 : g + 1 + 1 = g + 1 := e; omega)).trans (GV.at0 y7)
          have q_b2 := (s6.cell (World.block_lt_of_cell? _ _ (GV.at0 b2)) (fun e => by have e2 : g = g + 1 := e; omega)).trans (GV.at0 b2)
          have q_b3 := (s6.cell (World.block_lt_of_cell? _ _ (GV.at0 b3)) (fun e => by have e2 : g = g + 1 := e; omega)).trans (GV.at0 b3)
          have q_b4 := (s6.cell (World.block_lt_of_cell? _ _ (GV.at0 b4)) (fun e => by have e2 : g = g + 1 := e; omega)).trans (GV.at0 b4)
          have q_b5 := (s6.cell (World.block_lt_of_cell? _ _ (GV.at0 b5)) (fun e => by have e2 : g = g + 1 := e; omega)).trans (GV.at0 b5)
          have q_o1 := (s6.cell (World.block_lt_of_cell? _ _ (GV.at0 o1)) (fun e => by have e2 : D = g + 1 := e; omega)).trans (GV.at0 o1)
          unfold setTr at hW6
          go_simp
          rw [← hW6]
          clear hW6 p0 p1 p2 z0 z1 z2
          refine hK.out _ _ (by exact ⟨q_y2, q_y3, q_y4, q_y5, q_y6, q_y7, q_b2, q_b3, q_b4, q_b5, q_o1⟩) (fun hHeld => ?_)
          clear hK K
          (try simp only [Act.put, List.setIfInBounds_toArray, List.set_cons_zero, List.set_cons_succ])
          refine wpAnyH_done (by kernel_rfl) ?_ _
          clear hHeld
          have TBH := Lib.hid TB6
          go_wp2
          exact bodyPost_ret (v := trV ⟨false, false, (decide (0 < zu))⟩) (ret_rtr (p := 6) rfl _ _ _ ⟨false, false, (decide (0 < zu))⟩ (by rfl) TBH.out) rfl ⟨by rw [HE.out] <;> rfl, F6⟩
        · obtain ⟨U2, hU⟩ : ∃ V, V = U.drew := ⟨_, rfl⟩
          refine wp_region_held_drew (S := (fun W' => W'.cell? ⟨g + 1 + 1, 2, none⟩ = some (.bool ln) ∧ W'.cell? ⟨g + 1 + 1, 3, none⟩ = some (.int .i64 li) ∧ W'.cell? ⟨g + 1 + 1, 4, none⟩ = some (.string ⟨lt.toArray⟩) ∧ W'.cell? ⟨g + 1 + 1, 5, none⟩ = some (.bool hn2) ∧ W'.cell? ⟨g + 1 + 1, 6, none⟩ = some (.int .i64 hi) ∧ W'.cell? ⟨g + 1 + 1, 7, none⟩ = some (.string ⟨ht.toArray⟩) ∧ W'.cell? ⟨g, 2, none⟩ = some (.int .i64 (q : Nat)) ∧ W'.cell? ⟨g, 3, none⟩ = some (.bool vn) ∧ W'.cell? ⟨g, 4, none⟩ = some (.int .i64 vi) ∧ W'.cell? ⟨g, 5, none⟩ = some (.string ⟨vt.toArray⟩) ∧ W'.cell? ⟨D, q, none⟩ = some (.int .i64 (m : Nat)))) (by kernel_rfl) (by exact ⟨y2, y3, y4, y5, y6, y7, b2, b3, b4, b5, o1⟩) (fun hHeld => ?_)
          rw [← hU]
          rw [← hU] at hHeld
          have FU2 : Fr Non U U2 := by rw [hU]; exact (Fr.refl Non U).drew
          clear hU
          replace y2 := FU2.at0 y2
          replace y3 := FU2.at0 y3
          replace y4 := FU2.at0 y4
          replace y5 := FU2.at0 y5
          replace y6 := FU2.at0 y6
          replace y7 := FU2.at0 y7
          replace b2 := FU2.at0 b2
          replace b3 := FU2.at0 b3
          replace b4 := FU2.at0 b4
          replace b5 := FU2.at0 b5
          replace o1 := FU2.at0 o1
          have AV : Hid (TrB 39 U2 (g + 1) ⟨false, false, false⟩) := Lib.hid ((ABV.fr FU (fun e => e)).fr FU2 (fun e => e))
          have GV : Fr Non U2 U2 := Fr.refl Non U2
          have FwU := Lib.hid ((FwV.out.trans FU).trans FU2)
          refine wpAnyH_take (i := 0) (oi := ⟨some 48, _, _, _, _, none⟩) (v := ?v29) rfl (by kernel_rfl) (by kernel_rfl) (by kernel_rfl) (fun _ _ _ h => h) (Or.inl ⟨by rfl, ?hy29⟩) (by assumption) ?rest29
          case hy29 => (intro wS hSw; (try dsimp only at hSw); go_simp; (try with_reducible rfl))
          (try simp only [Act.put, List.setIfInBounds_toArray, List.set_cons_zero, List.set_cons_succ])
          refine wpAnyH_take (i := 1) (oi := ⟨some 49, _, _, _, _, none⟩) (v := ?v30) rfl (by kernel_rfl) (by kernel_rfl) (by kernel_rfl) (fun _ _ _ h => h) (Or.inl ⟨by rfl, ?hy30⟩) (by assumption) ?rest30
          case hy30 => (intro wS hSw; (try dsimp only at hSw); go_simp; (try with_reducible rfl))
          (try simp only [Act.put, List.setIfInBounds_toArray, List.set_cons_zero, List.set_cons_succ])
          refine wpAnyH_take (i := 2) (oi := ⟨some 50, _, _, _, _, some (1, true)⟩) (v := ?v31) rfl (by kernel_rfl) (by kernel_rfl) (by kernel_rfl) (fun _ _ _ h => h) (Or.inl ⟨by rfl, ?hy31⟩) (by assumption) ?rest31
          case hy31 => (intro wS hSw; (try dsimp only at hSw); go_simp; (try with_reducible rfl))
          (try simp only [Act.put, List.setIfInBounds_toArray, List.set_cons_zero, List.set_cons_succ])
          refine wpAnyH_take (i := 3) (oi := ⟨some 51, _, _, _, _, some (1, true)⟩) (v := ?v32) rfl (by kernel_rfl) (by kernel_rfl) (by kernel_rfl) (fun _ _ _ h => h) (Or.inl ⟨by rfl, ?hy32⟩) (by assumption) ?rest32
          case hy32 => (intro wS hSw; (try dsimp only at hSw); go_simp; (try with_reducible rfl))
          (try simp only [Act.put, List.setIfInBounds_toArray, List.set_cons_zero, List.set_cons_succ])
          refine wpAnyH_take (i := 4) (oi := ⟨some 52, _, _, _, _, some (1, true)⟩) (v := ?v33) rfl (by kernel_rfl) (by kernel_rfl) (by kernel_rfl) (fun _ _ _ h => h) (Or.inl ⟨by rfl, ?hy33⟩) (by assumption) ?rest33
          case hy33 => (intro wS hSw; (try dsimp only at hSw); go_simp; (try with_reducible rfl))
          (try simp only [Act.put, List.setIfInBounds_toArray, List.set_cons_zero, List.set_cons_succ])
          refine wpAnyH_take (i := 5) (oi := ⟨some 53, _, _, _, _, some (1, true)⟩) (v := ?v34) rfl (by kernel_rfl) (by kernel_rfl) (by kernel_rfl) (fun _ _ _ h => h) (Or.inl ⟨by rfl, ?hy34⟩) (by assumption) ?rest34
          case hy34 => (intro wS hSw; (try dsimp only at hSw); go_simp; (try with_reducible rfl))
          (try simp only [Act.put, List.setIfInBounds_toArray, List.set_cons_zero, List.set_cons_succ])
          refine wpAnyH_take (i := 6) (oi := ⟨some 54, _, _, _, _, some (1, true)⟩) (v := ?v35) rfl (by kernel_rfl) (by kernel_rfl) (by kernel_rfl) (fun _ _ _ h => h) (Or.inl ⟨by rfl, ?hy35⟩) (by assumption) ?rest35
          case hy35 => (intro wS hSw; (try dsimp only at hSw); go_simp; (try with_reducible rfl))
          (try simp only [Act.put, List.setIfInBounds_toArray, List.set_cons_zero, List.set_cons_succ])
          refine wpAnyH_take (i := 7) (oi := ⟨some 55, _, _, _, _, some (1, true)⟩) (v := ?v36) rfl (by kernel_rfl) (by kernel_rfl) (by kernel_rfl) (fun _ _ _ h => h) (Or.inl ⟨by rfl, ?hy36⟩) (by assumption) ?rest36
          case hy36 => (intro wS hSw; (try dsimp only at hSw); go_simp; (try with_reducible rfl))
          (try simp only [Act.put, List.setIfInBounds_toArray, List.set_cons_zero, List.set_cons_succ])
          refine wpAnyH_take (i := 8) (oi := ⟨some 56, _, _, _, _, some (1, true)⟩) (v := ?v37) rfl (by kernel_rfl) (by kernel_rfl) (by kernel_rfl) (fun _ _ _ h => h) (Or.inl ⟨by rfl, ?hy37⟩) (by assumption) ?rest37
          case hy37 => (intro wS hSw; (try dsimp only at hSw); go_simp; (try with_reducible rfl))
          (try simp only [Act.put, List.setIfInBounds_toArray, List.set_cons_zero, List.set_cons_succ])
          refine wpAnyH_take (i := 9) (oi := ⟨some 57, _, _, _, _, some (1, true)⟩) (v := ?v38) rfl (by kernel_rfl) (by kernel_rfl) (by kernel_rfl) (fun _ _ _ h => h) (Or.inl ⟨by rfl, ?hy38⟩) (by assumption) ?rest38
          case hy38 => (intro wS hSw; (try dsimp only at hSw); go_simp; (try with_reducible rfl))
          (try simp only [Act.put, List.setIfInBounds_toArray, List.set_cons_zero, List.set_cons_succ])
          refine wpAnyH_take (i := 12) (oi := ⟨some 60, _, _, _, _, none⟩) (v := ?v39) rfl (by kernel_rfl) (by kernel_rfl) (by kernel_rfl) (fun _ _ _ h => h) (Or.inl ⟨by rfl, ?hy39⟩) (by assumption) ?rest39
          case hy39 => (intro wS hSw; (try dsimp only at hSw); go_simp; (try with_reducible rfl))
          (try simp only [Act.put, List.setIfInBounds_toArray, List.set_cons_zero, List.set_cons_succ])
          refine wpAnyH_take (i := 27) (oi := ⟨some 75, _, _, _, _, none⟩) (v := ?v40) rfl (by kernel_rfl) (by kernel_rfl) (by kernel_rfl) (fun _ _ _ h => h) (Or.inl ⟨by rfl, ?hy40⟩) (by assumption) ?rest40
          case hy40 => (intro wS hSw; (try dsimp only at hSw); go_simp; (try with_reducible rfl))
          (try simp only [Act.put, List.setIfInBounds_toArray, List.set_cons_zero, List.set_cons_succ])
          refine wpAnyH_ready (rs := [10]) (by kernel_rfl) (by simp) ?_
          refine AllReadyH.cons (o := ⟨some 58, _, _, _, _, some (1, true)⟩) rfl (fun K hK => ?_) AllReadyH.nil
          go_simp
          go_at_call 48
          refine (HY1.out _).mono ?_
          rintro e w4 ⟨rfl, f4⟩
          have G4 := GV.trans f4
          go_wp2_with fail
          refine hK.out _ _ (by exact ⟨G4.at0 y2, G4.at0 y3, G4.at0 y4, G4.at0 y5, G4.at0 y6, G4.at0 y7, G4.at0 b2, G4.at0 b3, G4.at0 b4, G4.at0 b5, G4.at0 o1⟩) (fun hHeld => ?_)
          clear hK K
          (try simp only [Act.put, List.setIfInBounds_toArray, List.set_cons_zero, List.set_cons_succ])
          refine wpAnyH_take (i := 11) (oi := ⟨some 59, _, _, _, _, none⟩) (v := ?v41) rfl (by kernel_rfl) (by kernel_rfl) (by kernel_rfl) (fun _ _ _ h => h) (Or.inl ⟨by rfl, ?hy41⟩) (by assumption) ?rest41
          case hy41 => (intro wS hSw; (try dsimp only at hSw); go_simp; (try with_reducible rfl))
          (try simp only [Act.put, List.setIfInBounds_toArray, List.set_cons_zero, List.set_cons_succ])
          refine wpAnyH_take (i := 13) (oi := ⟨some 61, _, _, _, _, none⟩) (v := ?v42) rfl (by kernel_rfl) (by kernel_rfl) (by kernel_rfl) (fun _ _ _ h => h) (Or.inl ⟨by rfl, ?hy42⟩) (by assumption) ?rest42
          case hy42 => (intro wS hSw; (try dsimp only at hSw); go_simp; (try with_reducible rfl))
          (try simp only [Act.put, List.setIfInBounds_toArray, List.set_cons_zero, List.set_cons_succ])
          refine wpAnyH_take (i := 14) (oi := ⟨some 62, _, _, _, _, some (13, true)⟩) (v := ?v43) rfl (by kernel_rfl) (by kernel_rfl) (by kernel_rfl) (fun _ _ _ h => h) (Or.inl ⟨by rfl, ?hy43⟩) (by assumption) ?rest43
          case hy43 => (intro wS hSw; (try dsimp only at hSw); go_simp; (try with_reducible rfl))
          (try simp only [Act.put, List.setIfInBounds_toArray, List.set_cons_zero, List.set_cons_succ])
          refine wpAnyH_take (i := 15) (oi := ⟨some 63, _, _, _, _, some (13, true)⟩) (v := ?v44) rfl (by kernel_rfl) (by kernel_rfl) (by kernel_rfl) (fun _ _ _ h => h) (Or.inl ⟨by rfl, ?hy44⟩) (by assumption) ?rest44
          case hy44 => (intro wS hSw; (try dsimp only at hSw); go_simp; (try with_reducible rfl))
          (try simp only [Act.put, List.setIfInBounds_toArray, List.set_cons_zero, List.set_cons_succ])
          refine wpAnyH_take (i := 16) (oi := ⟨some 64, _, _, _, _, some (13, true)⟩) (v := ?v45) rfl (by kernel_rfl) (by kernel_rfl) (by kernel_rfl) (fun _ _ _ h => h) (Or.inl ⟨by rfl, ?hy45⟩) (by assumption) ?rest45
          case hy45 => (intro wS hSw; (try dsimp only at hSw); go_simp; (try with_reducible rfl))
          (try simp only [Act.put, List.setIfInBounds_toArray, List.set_cons_zero, List.set_cons_succ])
          refine wpAnyH_take (i := 17) (oi := ⟨some 65, _, _, _, _, some (13, true)⟩) (v := ?v46) rfl (by kernel_rfl) (by kernel_rfl) (by kernel_rfl) (fun _ _ _ h => h) (Or.inl ⟨by rfl, ?hy46⟩) (by assumption) ?rest46
          case hy46 => (intro wS hSw; (try dsimp only at hSw); go_simp; (try with_reducible rfl))
          (try simp only [Act.put, List.setIfInBounds_toArray, List.set_cons_zero, List.set_cons_succ])
          refine wpAnyH_take (i := 18) (oi := ⟨some 66, _, _, _, _, some (13, true)⟩) (v := ?v47) rfl (by kernel_rfl) (by kernel_rfl) (by kernel_rfl) (fun _ _ _ h => h) (Or.inl ⟨by rfl, ?hy47⟩) (by assumption) ?rest47
          case hy47 => (intro wS hSw; (try dsimp only at hSw); go_simp; (try with_reducible rfl))
          (try simp only [Act.put, List.setIfInBounds_toArray, List.set_cons_zero, List.set_cons_succ])
          refine wpAnyH_take (i := 19) (oi := ⟨some 67, _, _, _, _, some (13, true)⟩) (v := ?v48) rfl (by kernel_rfl) (by kernel_rfl) (by kernel_rfl) (fun _ _ _ h => h) (Or.inl ⟨by rfl, ?hy48⟩) (by assumption) ?rest48
          case hy48 => (intro wS hSw; (try dsimp only at hSw); go_simp; (try with_reducible rfl))
          (try simp only [Act.put, List.setIfInBounds_toArray, List.set_cons_zero, List.set_cons_succ])
          refine wpAnyH_take (i := 20) (oi := ⟨some 68, _, _, _, _, some (13, true)⟩) (v := ?v49) rfl (by kernel_rfl) (by kernel_rfl) (by kernel_rfl) (fun _ _ _ h => h) (Or.inl ⟨by rfl, ?hy49⟩) (by assumption) ?rest49
          case hy49 => (intro wS hSw; (try dsimp only at hSw); go_simp; (try with_reducible rfl))
          (try simp only [Act.put, List.setIfInBounds_toArray, List.set_cons_zero, List.set_cons_succ])
          refine wpAnyH_take (i := 21) (oi := ⟨some 69, _, _, _, _, some (13, true)⟩) (v := ?v50) rfl (by kernel_rfl) (by kernel_rfl) (by kernel_rfl) (fun _ _ _ h => h) (Or.inl ⟨by rfl, ?hy50⟩) (by assumption) ?rest50
          case hy50 => (intro wS hSw; (try dsimp only at hSw); go_simp; (try with_reducible rfl))
          (try simp only [Act.put, List.setIfInBounds_toArray, List.set_cons_zero, List.set_cons_succ])
          refine wpAnyH_take (i := 22) (oi := ⟨some 70, _, _, _, _, some (13, true)⟩) (v := ?v51) rfl (by kernel_rfl) (by kernel_rfl) (by kernel_rfl) (fun _ _ _ h => h) (Or.inl ⟨by rfl, ?hy51⟩) (by assumption) ?rest51
          case hy51 => (intro wS hSw; (try dsimp only at hSw); go_simp; (try with_reducible rfl))
          (try simp only [Act.put, List.setIfInBounds_toArray, List.set_cons_zero, List.set_cons_succ])
          refine wpAnyH_take (i := 23) (oi := ⟨some 71, _, _, _, _, some (13, true)⟩) (v := ?v52) rfl (by kernel_rfl) (by kernel_rfl) (by kernel_rfl) (fun _ _ _ h => h) (Or.inl ⟨by rfl, ?hy52⟩) (by assumption) ?rest52
          case hy52 => (intro wS hSw; (try dsimp only at hSw); go_simp; (try with_reducible rfl))
          (try simp only [Act.put, List.setIfInBounds_toArray, List.set_cons_zero, List.set_cons_succ])
          refine wpAnyH_take (i := 24) (oi := ⟨some 72, _, _, _, _, some (13, true)⟩) (v := ?v53) rfl (by kernel_rfl) (by kernel_rfl) (by kernel_rfl) (fun _ _ _ h => h) (Or.inl ⟨by rfl, ?hy53⟩) (by assumption) ?rest53
          case hy53 => (intro wS hSw; (try dsimp only at hSw); go_simp; (try with_reducible rfl))
          (try simp only [Act.put, List.setIfInBounds_toArray, List.set_cons_zero, List.set_cons_succ])
          refine wpAnyH_ready (rs := [25]) (by kernel_rfl) (by simp) ?_
          refine AllReadyH.cons (o := ⟨some 73, _, _, _, _, some (13, true)⟩) rfl (fun K hK => ?_) AllReadyH.nil
          go_simp
          go_at_call 48
          refine (HY2.out _).mono ?_
          rintro e w5 ⟨rfl, f5⟩
          have G5 := G4.trans f5
          go_wp2_with fail
          refine hK.out _ _ (by exact ⟨G5.at0 y2, G5.at0 y3, G5.at0 y4, G5.at0 y5, G5.at0 y6, G5.at0 y7, G5.at0 b2, G5.at0 b3, G5.at0 b4, G5.at0 b5, G5.at0 o1⟩) (fun hHeld => ?_)
          clear hK K
          (try simp only [Act.put, List.setIfInBounds_toArray, List.set_cons_zero, List.set_cons_succ])
          refine wpAnyH_take (i := 26) (oi := ⟨some 74, _, _, _, _, none⟩) (v := ?v54) rfl (by kernel_rfl) (by kernel_rfl) (by kernel_rfl) (fun _ _ _ h => h) (Or.inl ⟨by rfl, ?hy54⟩) (by assumption) ?rest54
          case hy54 => (intro wS hSw; (try dsimp only at hSw); go_simp; (try with_reducible rfl))
          (try simp only [Act.put, List.setIfInBounds_toArray, List.set_cons_zero, List.set_cons_succ])
          refine wpAnyH_take (i := 28) (oi := ⟨some 76, _, _, _, _, none⟩) (v := ?v55) rfl (by kernel_rfl) (by kernel_rfl) (by kernel_rfl) (fun _ _ _ h => h) (Or.inl ⟨by rfl, ?hy55⟩) (by assumption) ?rest55
          case hy55 => (intro wS hSw; (try dsimp only at hSw); go_simp; (try with_reducible rfl))
          (try simp only [Act.put, List.setIfInBounds_toArray, List.set_cons_zero, List.set_cons_succ])
          refine wpAnyH_ready (rs := [29]) (by kernel_rfl) (by simp) ?_
          refine AllReadyH.cons (o := ⟨none, _, _, _, _, none⟩) rfl (fun K hK => ?_) AllReadyH.nil
          have TB5 : TrB 39 w5 (g + 1) ⟨false, false, false⟩ := AV.out.fr G5 (fun e => e)
          obtain ⟨p0, p1, p2, z0, z1, z2⟩ := TB5.facts
          dsimp only at p0 p1 p2
          obtain ⟨W6, hW6⟩ : ∃ W, W = setTr w5 (g + 1) ra rb (decide (0 < zu)) := ⟨_, rfl⟩
          have s6 : Fr (One (g + 1)) w5 W6 := by rw [hW6]; exact setTr_fr _ _ _ _ _
          have TB6 : TrB 39 W6 (g + 1) ⟨ra, rb, (decide (0 < zu))⟩ := by rw [hW6]; exact setTr_B TB5 _ _ _
          have F6 : Fr Non w W6 := (FwU.out.trans G5).fresh s6 (fun k e => by have : k = g + 1 := e; omega)
          have q_y2 := (s6.cell (World.block_lt_of_cell? _ _ (G5.at0 y2)) (fun e => by have e2 : g + 1 + 1 = g + 1 := e; omega)).trans (G5.at0 y2)
          have q_y3 := (s6.cell (World.block_lt_of_cell? _ _ (G5.at0 y3)) (fun e => by have e2 : g + 1 + 1 = g + 1 := e; omega)).trans (G5.at0 y3)
          have q_y4 := (s6.cell (World.block_lt_of_cell? _ _ (G5.at0 y4)) (fun e => by have e2 : g + 1 + 1 = g + 1 := e; omega)).trans (G5.at0 y4)
          have q_y5 := (s6.cell (World.block_lt_of_cell? _ _ (G5.at0 y5)) (fun e => by have e2 : g + 1 + 1 = g + 1 := e; omega)).trans (G5.at0 y5)
          have q_y6 := (s6.cell (World.block_lt_of_cell? _ _ (G5.at0 y6)) (fun e => by have e2 : g + 1 + 1 = g + 1 := e; omega)).trans (G5.at0 y6)
          have q_y7 := (s6.cell (World.block_lt_of_cell? _ _ (G5.at0 y7)) (fun e => by have e2 : g + 1 + 1 = g + 1 := e; omega)).trans (G5.at0 y7)
          have q_b2 := (s6.cell (World.block_lt_of_cell? _ _ (G5.at0 b2)) (fun e => by have e2 : g = g + 1 := e; omega)).trans (G5.at0 b2)
          have q_b3 := (s6.cell (World.block_lt_of_cell? _ _ (G5.at0 b3)) (fun e => by have e2 : g = g + 1 := e; omega)).trans (G5.at0 b3)
          have q_b4 := (s6.cell (World.block_lt_of_cell? _ _ (G5.at0 b4)) (fun e => by have e2 : g = g + 1 := e; omega)).trans (G5.at0 b4)
          have q_b5 := (s6.cell (World.block_lt_of_cell? _ _ (G5.at0 b5)) (fun e => by have e2 : g = g + 1 := e; omega)).trans (G5.at0 b5)
          have q_o1 := (s6.cell (World.block_lt_of_cell? _ _ (G5.at0 o1)) (fun e => by have e2 : D = g + 1 := e; omega)).trans (G5.at0 o1)
          unfold setTr at hW6
          go_simp
          rw [← hW6]
          clear hW6 p0 p1 p2 z0 z1 z2
          refine hK.out _ _ (by exact ⟨q_y2, q_y3, q_y4, q_y5, q_y6, q_y7, q_b2, q_b3, q_b4, q_b5, q_o1⟩) (fun hHeld => ?_)
          clear hK K
          (try simp only [Act.put, List.setIfInBounds_toArray, List.set_cons_zero, List.set_cons_succ])
          refine wpAnyH_done (by kernel_rfl) ?_ _
          clear hHeld
          have TBH := Lib.hid TB6
          go_wp2
          exact bodyPost_ret (v := trV ⟨ra, rb, (decide (0 < zu))⟩) (ret_rtr (p := 6) rfl _ _ _ ⟨ra, rb, (decide (0 < zu))⟩ (by rfl) TBH.out) rfl ⟨by rw [HE.out] <;> rfl, F6⟩
      · have HE : Hid (r = ⟨decide (0 < zs[k].nulls), decide (zs[k].nulls < zs[k].rows), false⟩) := Lib.hid (by rw [HE0.out, prnH_3 ho, hzn] <;> rfl)
        clear HE0 IH HK hok hty h0 hpl hq2 hf hne ha hzn
        generalize hz : zs[k] = z at *
        clear hz
        obtain ⟨zr, zu, ⟨ln, li, lt⟩, ⟨hn2, hi, ht⟩⟩ := z
        obtain ⟨ho_, hc, hm, ⟨vn, vi, vt⟩, hkd, hp⟩ := hd
        obtain ⟨A, n, c⟩ := t
        dsimp only at ho hn HFi hb2 hb3 hb4 HE
        clear hn
        subst ho
        obtain ⟨W0, hW0⟩ : ∃ W, W = docW w ⟨3, hc, hm, ⟨vn, vi, vt⟩, hkd, hp⟩ ⟨A, n, c⟩ := ⟨_, rfl⟩
        rw [← hW0] at F0 PB AB ZB
        unfold docW at hW0
        unfold pdV at *
        unfold pdC kidV znC noZn noCl at *
        dsimp only at *
        generalize hg : w.heap.size = g at *
        obtain ⟨b0, b1, b2, b3, b4, b5, b6, b7, b8⟩ := pdB_cells PB.out
        dsimp only at b0 b1 b2 b3 b4 b5 b6 b7 b8
        go_enter Tryd.func23, Tryd.ntmps23
        go_wp2_with fail
        rw [← hW0]
        clear hW0
        refine (HFi.out _ (HV.out.non F0.out)).mono ?_
        rintro e w1 ⟨rfl, f1⟩
        have PB1 := Lib.hid (PB.out.fr f1 (fun e => e))
        have AB1 : Hid (TrB 39 w1 (g + 1) ⟨false, false, false⟩) := Lib.hid (AB.out.fr f1 (fun e => e))
        have ZB1 : ZnB w1 (g + 1 + 1) ⟨0, 0, ⟨false, 0, []⟩, ⟨false, 0, []⟩⟩ := ZB.out.fr f1 (fun e => e)
        have F1 := Lib.hid (F0.out.trans f1)
        obtain ⟨a2, rfl, hza⟩ := HZk.out _ F1.out
        obtain ⟨t0, t1, t2, t3, t4, t5, t6, t7⟩ := hza
        dsimp only at t0 t1 t2 t3 t4 t5 t6 t7
        obtain ⟨u0, u1, u2, u3, u4, u5, u6, u7⟩ := znB_froz ZB1
        obtain ⟨x0, x1, x2, x3, x4, x5, x6, x7⟩ := znB_cells ZB1
        dsimp only at x0 x1 x2 x3 x4 x5 x6 x7
        obtain ⟨W2, hW2⟩ : ∃ W, W = setZn w1 (g + 1 + 1) ⟨zr, zu, ⟨ln, li, lt⟩, ⟨hn2, hi, ht⟩⟩ := ⟨_, rfl⟩
        have s2 : Fr (One (g + 1 + 1)) w1 W2 := by rw [hW2]; exact setZn_fr _ _ _
        have ZB2 : Hid (ZnB W2 (g + 1 + 1) ⟨zr, zu, ⟨ln, li, lt⟩, ⟨hn2, hi, ht⟩⟩) := Lib.hid (by rw [hW2]; exact setZn_B ZB1 _)
        have PB2 := Lib.hid (PB1.out.fr s2 (fun e => by have : g = g + 1 + 1 := e; omega))
        have AB2 : Hid (TrB 39 W2 (g + 1) ⟨false, false, false⟩) := Lib.hid (AB1.out.fr s2 (fun e => by have : g + 1 = g + 1 + 1 := e; omega))
        have F2 := Lib.hid (F1.out.fresh s2 (fun k e => by have : k = g + 1 + 1 := e; omega))
        clear b0 b1 b2 b3 b4 b5 b6 b7 b8 s2 ZB1 PB1 AB1 F1 f1
        have hb9 := hb2
        unfold setZn setHigh setLow setRN at hW2
        dsimp only at hW2
        go_wp2
        rw [← hW2]
        clear hW2 t0 t1 t2 t3 t4 t5 t6 t7 u0 u1 u2 u3 u4 u5 u6 u7 x0 x1 x2 x3 x4 x5 x6 x7
        obtain ⟨e0, e1, -⟩ := znB_cells ZB2.out
        dsimp only at e0 e1
        obtain ⟨V, hV⟩ : ∃ V, V = W2.drew := ⟨_, rfl⟩
        refine wp_region_held_drew (S := (fun W' => W'.cell? ⟨g + 1 + 1, 0, none⟩ = some (.int .i64 zr) ∧ W'.cell? ⟨g + 1 + 1, 1, none⟩ = some (.int .i64 zu))) (by kernel_rfl) (by exact ⟨e0, e1⟩) (fun hHeld => ?_)
        rw [← hV]
        rw [← hV] at hHeld
        have FV : Fr Non W2 V := by rw [hV]; exact (Fr.refl Non W2).drew
        clear hV
        replace e0 := FV.at0 e0
        replace e1 := FV.at0 e1
        refine wpAnyH_take (i := 0) (oi := ⟨some 27, _, _, _, _, none⟩) (v := ?v56) rfl (by kernel_rfl) (by kernel_rfl) (by kernel_rfl) (fun _ _ _ h => h) (Or.inl ⟨by rfl, ?hy56⟩) (by assumption) ?rest56
        case hy56 => (intro wS hSw; (try dsimp only at hSw); go_simp; (try with_reducible rfl))
        (try simp only [Act.put, List.setIfInBounds_toArray, List.set_cons_zero, List.set_cons_succ])
        refine wpAnyH_take (i := 1) (oi := ⟨some 28, _, _, _, _, none⟩) (v := ?v57) rfl (by kernel_rfl) (by kernel_rfl) (by kernel_rfl) (fun _ _ _ h => h) (Or.inl ⟨by rfl, ?hy57⟩) (by assumption) ?rest57
        case hy57 => (intro wS hSw; (try dsimp only at hSw); go_simp; (try with_reducible rfl))
        (try simp only [Act.put, List.setIfInBounds_toArray, List.set_cons_zero, List.set_cons_succ])
        refine wpAnyH_take (i := 2) (oi := ⟨some 29, _, _, _, _, none⟩) (v := ?v58) rfl (by kernel_rfl) (by kernel_rfl) (by kernel_rfl) (fun _ _ _ h => h) (Or.inl ⟨by rfl, ?hy58⟩) (by assumption) ?rest58
        case hy58 => (intro wS hSw; (try dsimp only at hSw); go_simp; (try with_reducible rfl))
        (try simp only [Act.put, List.setIfInBounds_toArray, List.set_cons_zero, List.set_cons_succ])
        refine wpAnyH_take (i := 3) (oi := ⟨some 30, _, _, _, _, none⟩) (v := ?v59) rfl (by kernel_rfl) (by kernel_rfl) (by kernel_rfl) (fun _ _ _ h => h) (Or.inl ⟨by rfl, ?hy59⟩) (by assumption) ?rest59
        case hy59 => (intro wS hSw; (try dsimp only at hSw); go_simp; (try with_reducible rfl))
        (try simp only [Act.put, List.setIfInBounds_toArray, List.set_cons_zero, List.set_cons_succ])
        refine wpAnyH_take (i := 4) (oi := ⟨some 31, _, _, _, _, none⟩) (v := ?v60) rfl (by kernel_rfl) (by kernel_rfl) (by kernel_rfl) (fun _ _ _ h => h) (Or.inl ⟨by rfl, ?hy60⟩) (by assumption) ?rest60
        case hy60 => (intro wS hSw; (try dsimp only at hSw); go_simp; (try with_reducible rfl))
        (try simp only [Act.put, List.setIfInBounds_toArray, List.set_cons_zero, List.set_cons_succ])
        refine wpAnyH_take (i := 5) (oi := ⟨some 32, _, _, _, _, none⟩) (v := ?v61) rfl (by kernel_rfl) (by kernel_rfl) (by kernel_rfl) (fun _ _ _ h => h) (Or.inl ⟨by rfl, ?hy61⟩) (by assumption) ?rest61
        case hy61 => (intro wS hSw; (try dsimp only at hSw); go_simp; (try with_reducible rfl))
        (try simp only [Act.put, List.setIfInBounds_toArray, List.set_cons_zero, List.set_cons_succ])
        refine wpAnyH_take (i := 6) (oi := ⟨some 33, _, _, _, _, none⟩) (v := ?v62) rfl (by kernel_rfl) (by kernel_rfl) (by kernel_rfl) (fun _ _ _ h => h) (Or.inl ⟨by rfl, ?hy62⟩) (by assumption) ?rest62
        case hy62 => (intro wS hSw; (try dsimp only at hSw); go_simp; (try with_reducible rfl))
        (try simp only [Act.put, List.setIfInBounds_toArray, List.set_cons_zero, List.set_cons_succ])
        refine wpAnyH_take (i := 7) (oi := ⟨some 34, _, _, _, _, none⟩) (v := ?v63) rfl (by kernel_rfl) (by kernel_rfl) (by kernel_rfl) (fun _ _ _ h => h) (Or.inl ⟨by rfl, ?hy63⟩) (by assumption) ?rest63
        case hy63 => (intro wS hSw; (try dsimp only at hSw); go_simp; (try with_reducible rfl))
        (try simp only [Act.put, List.setIfInBounds_toArray, List.set_cons_zero, List.set_cons_succ])
        refine wpAnyH_take (i := 8) (oi := ⟨some 8, _, _, _, _, none⟩) (v := ?v64) rfl (by kernel_rfl) (by kernel_rfl) (by kernel_rfl) (fun _ _ _ h => h) (Or.inl ⟨by rfl, ?hy64⟩) (by assumption) ?rest64
        case hy64 => (intro wS hSw; (try dsimp only at hSw); go_simp; (try with_reducible rfl))
        (try simp only [Act.put, List.setIfInBounds_toArray, List.set_cons_zero, List.set_cons_succ])
        refine wpAnyH_take (i := 9) (oi := ⟨some 9, _, _, _, _, none⟩) (v := ?v65) rfl (by kernel_rfl) (by kernel_rfl) (by kernel_rfl) (fun _ _ _ h => h) (Or.inl ⟨by rfl, ?hy65⟩) (by assumption) ?rest65
        case hy65 => (intro wS hSw; (try dsimp only at hSw); go_simp; (try with_reducible rfl))
        (try simp only [Act.put, List.setIfInBounds_toArray, List.set_cons_zero, List.set_cons_succ])
        refine wpAnyH_done (by kernel_rfl) ?_ _
        clear hHeld
        have FwV := Lib.hid (F2.out.trans FV)
        have PBV := Lib.hid (PB2.out.fr FV (fun e => e))
        have ZBV := Lib.hid (ZB2.out.fr FV (fun e => e))
        have ABV : TrB 39 V (g + 1) ⟨false, false, false⟩ := AB2.out.fr FV (fun e => e)
        clear e0 e1
        obtain ⟨b0, b1, b2, b3, b4, b5, b6, b7, b8⟩ := pdB_cells PBV.out
        dsimp only at b0 b1 b2 b3 b4 b5 b6 b7 b8
        have AB6 := Lib.hid (setTr_B ABV (decide (0 < zu)) (decide (zu < zr)) false)
        have F6 := Lib.hid (FwV.out.fresh (setTr_fr V (g + 1) (decide (0 < zu)) (decide (zu < zr)) false) (fun k e => by have : k = g + 1 := e; omega))
        obtain ⟨p0, p1, p2, z0, z1, z2⟩ := TrB.facts ABV
        dsimp only at p0 p1 p2
        go_wp2
        exact bodyPost_ret (v := trV ⟨decide (0 < zu), decide (zu < zr), false⟩) (ret_rtr (p := 6) rfl _ _ _ ⟨decide (0 < zu), decide (zu < zr), false⟩ (by rfl) AB6.out) rfl ⟨by rw [HE.out] <;> rfl, F6.out⟩
      · have HE : Hid (r = ⟨decide (zs[k].nulls < zs[k].rows), decide (zs[k].nulls < zs[k].rows), decide (0 < zs[k].nulls)⟩) := Lib.hid (by rw [HE0.out, prnH_4 ho, hzn] <;> rfl)
        clear HE0 IH HK hok hty h0 hpl hq2 hf hne ha hzn
        generalize hz : zs[k] = z at *
        clear hz
        obtain ⟨zr, zu, ⟨ln, li, lt⟩, ⟨hn2, hi, ht⟩⟩ := z
        obtain ⟨ho_, hc, hm, ⟨vn, vi, vt⟩, hkd, hp⟩ := hd
        obtain ⟨A, n, c⟩ := t
        dsimp only at ho hn HFi hb2 hb3 hb4 HE
        clear hn
        subst ho
        obtain ⟨W0, hW0⟩ : ∃ W, W = docW w ⟨4, hc, hm, ⟨vn, vi, vt⟩, hkd, hp⟩ ⟨A, n, c⟩ := ⟨_, rfl⟩
        rw [← hW0] at F0 PB AB ZB
        unfold docW at hW0
        unfold pdV at *
        unfold pdC kidV znC noZn noCl at *
        dsimp only at *
        generalize hg : w.heap.size = g at *
        obtain ⟨b0, b1, b2, b3, b4, b5, b6, b7, b8⟩ := pdB_cells PB.out
        dsimp only at b0 b1 b2 b3 b4 b5 b6 b7 b8
        go_enter Tryd.func23, Tryd.ntmps23
        go_wp2_with fail
        rw [← hW0]
        clear hW0
        refine (HFi.out _ (HV.out.non F0.out)).mono ?_
        rintro e w1 ⟨rfl, f1⟩
        have PB1 := Lib.hid (PB.out.fr f1 (fun e => e))
        have AB1 : Hid (TrB 39 w1 (g + 1) ⟨false, false, false⟩) := Lib.hid (AB.out.fr f1 (fun e => e))
        have ZB1 : ZnB w1 (g + 1 + 1) ⟨0, 0, ⟨false, 0, []⟩, ⟨false, 0, []⟩⟩ := ZB.out.fr f1 (fun e => e)
        have F1 := Lib.hid (F0.out.trans f1)
        obtain ⟨a2, rfl, hza⟩ := HZk.out _ F1.out
        obtain ⟨t0, t1, t2, t3, t4, t5, t6, t7⟩ := hza
        dsimp only at t0 t1 t2 t3 t4 t5 t6 t7
        obtain ⟨u0, u1, u2, u3, u4, u5, u6, u7⟩ := znB_froz ZB1
        obtain ⟨x0, x1, x2, x3, x4, x5, x6, x7⟩ := znB_cells ZB1
        dsimp only at x0 x1 x2 x3 x4 x5 x6 x7
        obtain ⟨W2, hW2⟩ : ∃ W, W = setZn w1 (g + 1 + 1) ⟨zr, zu, ⟨ln, li, lt⟩, ⟨hn2, hi, ht⟩⟩ := ⟨_, rfl⟩
        have s2 : Fr (One (g + 1 + 1)) w1 W2 := by rw [hW2]; exact setZn_fr _ _ _
        have ZB2 : Hid (ZnB W2 (g + 1 + 1) ⟨zr, zu, ⟨ln, li, lt⟩, ⟨hn2, hi, ht⟩⟩) := Lib.hid (by rw [hW2]; exact setZn_B ZB1 _)
        have PB2 := Lib.hid (PB1.out.fr s2 (fun e => by have : g = g + 1 + 1 := e; omega))
        have AB2 : Hid (TrB 39 W2 (g + 1) ⟨false, false, false⟩) := Lib.hid (AB1.out.fr s2 (fun e => by have : g + 1 = g + 1 + 1 := e; omega))
        have F2 := Lib.hid (F1.out.fresh s2 (fun k e => by have : k = g + 1 + 1 := e; omega))
        clear b0 b1 b2 b3 b4 b5 b6 b7 b8 s2 ZB1 PB1 AB1 F1 f1
        have hb9 := hb2
        unfold setZn setHigh setLow setRN at hW2
        dsimp only at hW2
        go_wp2
        rw [← hW2]
        clear hW2 t0 t1 t2 t3 t4 t5 t6 t7 u0 u1 u2 u3 u4 u5 u6 u7 x0 x1 x2 x3 x4 x5 x6 x7
        obtain ⟨e0, e1, -⟩ := znB_cells ZB2.out
        dsimp only at e0 e1
        obtain ⟨V, hV⟩ : ∃ V, V = W2.drew := ⟨_, rfl⟩
        refine wp_region_held_drew (S := (fun W' => W'.cell? ⟨g + 1 + 1, 0, none⟩ = some (.int .i64 zr) ∧ W'.cell? ⟨g + 1 + 1, 1, none⟩ = some (.int .i64 zu))) (by kernel_rfl) (by exact ⟨e0, e1⟩) (fun hHeld => ?_)
        rw [← hV]
        rw [← hV] at hHeld
        have FV : Fr Non W2 V := by rw [hV]; exact (Fr.refl Non W2).drew
        clear hV
        replace e0 := FV.at0 e0
        replace e1 := FV.at0 e1
        refine wpAnyH_take (i := 0) (oi := ⟨some 27, _, _, _, _, none⟩) (v := ?v66) rfl (by kernel_rfl) (by kernel_rfl) (by kernel_rfl) (fun _ _ _ h => h) (Or.inl ⟨by rfl, ?hy66⟩) (by assumption) ?rest66
        case hy66 => (intro wS hSw; (try dsimp only at hSw); go_simp; (try with_reducible rfl))
        (try simp only [Act.put, List.setIfInBounds_toArray, List.set_cons_zero, List.set_cons_succ])
        refine wpAnyH_take (i := 1) (oi := ⟨some 28, _, _, _, _, none⟩) (v := ?v67) rfl (by kernel_rfl) (by kernel_rfl) (by kernel_rfl) (fun _ _ _ h => h) (Or.inl ⟨by rfl, ?hy67⟩) (by assumption) ?rest67
        case hy67 => (intro wS hSw; (try dsimp only at hSw); go_simp; (try with_reducible rfl))
        (try simp only [Act.put, List.setIfInBounds_toArray, List.set_cons_zero, List.set_cons_succ])
        refine wpAnyH_take (i := 2) (oi := ⟨some 29, _, _, _, _, none⟩) (v := ?v68) rfl (by kernel_rfl) (by kernel_rfl) (by kernel_rfl) (fun _ _ _ h => h) (Or.inl ⟨by rfl, ?hy68⟩) (by assumption) ?rest68
        case hy68 => (intro wS hSw; (try dsimp only at hSw); go_simp; (try with_reducible rfl))
        (try simp only [Act.put, List.setIfInBounds_toArray, List.set_cons_zero, List.set_cons_succ])
        refine wpAnyH_take (i := 3) (oi := ⟨some 30, _, _, _, _, none⟩) (v := ?v69) rfl (by kernel_rfl) (by kernel_rfl) (by kernel_rfl) (fun _ _ _ h => h) (Or.inl ⟨by rfl, ?hy69⟩) (by assumption) ?rest69
        case hy69 => (intro wS hSw; (try dsimp only at hSw); go_simp; (try with_reducible rfl))
        (try simp only [Act.put, List.setIfInBounds_toArray, List.set_cons_zero, List.set_cons_succ])
        refine wpAnyH_take (i := 4) (oi := ⟨some 31, _, _, _, _, none⟩) (v := ?v70) rfl (by kernel_rfl) (by kernel_rfl) (by kernel_rfl) (fun _ _ _ h => h) (Or.inl ⟨by rfl, ?hy70⟩) (by assumption) ?rest70
        case hy70 => (intro wS hSw; (try dsimp only at hSw); go_simp; (try with_reducible rfl))
        (try simp only [Act.put, List.setIfInBounds_toArray, List.set_cons_zero, List.set_cons_succ])
        refine wpAnyH_take (i := 5) (oi := ⟨some 32, _, _, _, _, none⟩) (v := ?v71) rfl (by kernel_rfl) (by kernel_rfl) (by kernel_rfl) (fun _ _ _ h => h) (Or.inl ⟨by rfl, ?hy71⟩) (by assumption) ?rest71
        case hy71 => (intro wS hSw; (try dsimp only at hSw); go_simp; (try with_reducible rfl))
        (try simp only [Act.put, List.setIfInBounds_toArray, List.set_cons_zero, List.set_cons_succ])
        refine wpAnyH_take (i := 6) (oi := ⟨some 33, _, _, _, _, none⟩) (v := ?v72) rfl (by kernel_rfl) (by kernel_rfl) (by kernel_rfl) (fun _ _ _ h => h) (Or.inl ⟨by rfl, ?hy72⟩) (by assumption) ?rest72
        case hy72 => (intro wS hSw; (try dsimp only at hSw); go_simp; (try with_reducible rfl))
        (try simp only [Act.put, List.setIfInBounds_toArray, List.set_cons_zero, List.set_cons_succ])
        refine wpAnyH_take (i := 7) (oi := ⟨some 34, _, _, _, _, none⟩) (v := ?v73) rfl (by kernel_rfl) (by kernel_rfl) (by kernel_rfl) (fun _ _ _ h => h) (Or.inl ⟨by rfl, ?hy73⟩) (by assumption) ?rest73
        case hy73 => (intro wS hSw; (try dsimp only at hSw); go_simp; (try with_reducible rfl))
        (try simp only [Act.put, List.setIfInBounds_toArray, List.set_cons_zero, List.set_cons_succ])
        refine wpAnyH_take (i := 8) (oi := ⟨some 8, _, _, _, _, none⟩) (v := ?v74) rfl (by kernel_rfl) (by kernel_rfl) (by kernel_rfl) (fun _ _ _ h => h) (Or.inl ⟨by rfl, ?hy74⟩) (by assumption) ?rest74
        case hy74 => (intro wS hSw; (try dsimp only at hSw); go_simp; (try with_reducible rfl))
        (try simp only [Act.put, List.setIfInBounds_toArray, List.set_cons_zero, List.set_cons_succ])
        refine wpAnyH_take (i := 9) (oi := ⟨some 9, _, _, _, _, none⟩) (v := ?v75) rfl (by kernel_rfl) (by kernel_rfl) (by kernel_rfl) (fun _ _ _ h => h) (Or.inl ⟨by rfl, ?hy75⟩) (by assumption) ?rest75
        case hy75 => (intro wS hSw; (try dsimp only at hSw); go_simp; (try with_reducible rfl))
        (try simp only [Act.put, List.setIfInBounds_toArray, List.set_cons_zero, List.set_cons_succ])
        refine wpAnyH_done (by kernel_rfl) ?_ _
        clear hHeld
        have FwV := Lib.hid (F2.out.trans FV)
        have PBV := Lib.hid (PB2.out.fr FV (fun e => e))
        have ZBV := Lib.hid (ZB2.out.fr FV (fun e => e))
        have ABV : TrB 39 V (g + 1) ⟨false, false, false⟩ := AB2.out.fr FV (fun e => e)
        clear e0 e1
        obtain ⟨b0, b1, b2, b3, b4, b5, b6, b7, b8⟩ := pdB_cells PBV.out
        dsimp only at b0 b1 b2 b3 b4 b5 b6 b7 b8
        have AB6 := Lib.hid (setTr_B ABV (decide (zu < zr)) (decide (zu < zr)) (decide (0 < zu)))
        have F6 := Lib.hid (FwV.out.fresh (setTr_fr V (g + 1) (decide (zu < zr)) (decide (zu < zr)) (decide (0 < zu))) (fun k e => by have : k = g + 1 := e; omega))
        obtain ⟨p0, p1, p2, z0, z1, z2⟩ := TrB.facts ABV
        dsimp only at p0 p1 p2
        go_wp2
        exact bodyPost_ret (v := trV ⟨decide (zu < zr), decide (zu < zr), decide (0 < zu)⟩) (ret_rtr (p := 6) rfl _ _ _ ⟨decide (zu < zr), decide (zu < zr), decide (0 < zu)⟩ (by rfl) AB6.out) rfl ⟨by rw [HE.out] <;> rfl, F6.out⟩
    · clear H67
      have hk1 : 0 < ks.length := by omega
      obtain ⟨a, t', hA, hc2, hkk, _⟩ := HK.out.elN (Fr.refl Non w) 0 hk1
      have HT : Hid (∀ W, Fr Non w W → Calls Tryd.prog 23 #[.slice A1 cols.length c1, pdV ks[0].hd t', .slice A2 zs.length c2] W fun e w' => e = .returned (trV (prnP cols zs ks[0])) ∧ Fr Non W w') :=
        Lib.hid (fun W hf => IH.out 0 hk1 W t' hf (hkk.non hf))
      have HE : Hid (r = notT2 (prnP cols zs ks[0])) := Lib.hid (by
        rw [HE0.out, prnH_5 ho]
        cases ks with
        | nil => simp at hk1
        | cons x l => rfl)
      clear HE0 IH HV HZ HK hok hty hpl hkk
      generalize prnP cols zs ks[0] = z at *
      generalize ks[0].hd = x at *
      obtain ⟨xo, xc, xm, ⟨xn, xi, xt⟩, xk, xp⟩ := x
      obtain ⟨tA, tn, tc⟩ := t'
      obtain ⟨ya, yb, yc⟩ := z
      rw [Nat.zero_mul, add_none] at hc2
      obtain ⟨k0, k1, k2, k3, k4, k5, k6, k7, k8⟩ := hc2
      have hn1 : 0 < t.n := by omega
      clear h0 hk1
      obtain ⟨ho_, hc, hm, ⟨vn, vi, vt⟩, hkd, hp⟩ := hd
      obtain ⟨A, n, c⟩ := t
      dsimp only at ho hn hco hA hn1
      clear hn
      subst ho
      obtain ⟨W0, hW0⟩ : ∃ W, W = docW w ⟨5, hc, hm, ⟨vn, vi, vt⟩, hkd, hp⟩ ⟨A, n, c⟩ := ⟨_, rfl⟩
      rw [← hW0] at F0 PB AB ZB
      replace k0 := F0.out.at0 k0
      replace k1 := F0.out.at0 k1
      replace k2 := F0.out.at0 k2
      replace k3 := F0.out.at0 k3
      replace k4 := F0.out.at0 k4
      replace k5 := F0.out.at0 k5
      replace k6 := F0.out.at0 k6
      replace k7 := F0.out.at0 k7
      replace k8 := F0.out.at0 k8
      unfold docW at hW0
      unfold trV at HT
      unfold pdV at *
      unfold pdC kidV znC noZn noCl at *
      dsimp only at *
      generalize hg : w.heap.size = g at *
      subst hco
      subst hA
      obtain ⟨b0, b1, b2, b3, b4, b5, b6, b7, b8⟩ := pdB_cells PB.out
      dsimp only at b0 b1 b2 b3 b4 b5 b6 b7 b8
      obtain ⟨e0, e1, -⟩ := znB_cells ZB.out
      dsimp only at e0 e1
      go_enter Tryd.func23, Tryd.ntmps23
      go_wp2
      rw [← hW0]
      clear hW0
      obtain ⟨V, hV⟩ : ∃ V, V = W0.drew := ⟨_, rfl⟩
      refine wp_region_held_drew (S := (fun W' => W'.cell? ⟨g + 1 + 1, 0, none⟩ = some (.int .i64 0) ∧ W'.cell? ⟨g + 1 + 1, 1, none⟩ = some (.int .i64 0))) (by kernel_rfl) (by exact ⟨e0, e1⟩) (fun hHeld => ?_)
      rw [← hV]
      rw [← hV] at hHeld
      have FV : Fr Non W0 V := by rw [hV]; exact (Fr.refl Non W0).drew
      clear hV
      replace e0 := FV.at0 e0
      replace e1 := FV.at0 e1
      refine wpAnyH_take (i := 0) (oi := ⟨some 27, _, _, _, _, none⟩) (v := ?v76) rfl (by kernel_rfl) (by kernel_rfl) (by kernel_rfl) (fun _ _ _ h => h) (Or.inl ⟨by rfl, ?hy76⟩) (by assumption) ?rest76
      case hy76 => (intro wS hSw; (try dsimp only at hSw); go_simp; (try with_reducible rfl))
      (try simp only [Act.put, List.setIfInBounds_toArray, List.set_cons_zero, List.set_cons_succ])
      refine wpAnyH_take (i := 1) (oi := ⟨some 28, _, _, _, _, none⟩) (v := ?v77) rfl (by kernel_rfl) (by kernel_rfl) (by kernel_rfl) (fun _ _ _ h => h) (Or.inl ⟨by rfl, ?hy77⟩) (by assumption) ?rest77
      case hy77 => (intro wS hSw; (try dsimp only at hSw); go_simp; (try with_reducible rfl))
      (try simp only [Act.put, List.setIfInBounds_toArray, List.set_cons_zero, List.set_cons_succ])
      refine wpAnyH_take (i := 2) (oi := ⟨some 29, _, _, _, _, none⟩) (v := ?v78) rfl (by kernel_rfl) (by kernel_rfl) (by kernel_rfl) (fun _ _ _ h => h) (Or.inl ⟨by rfl, ?hy78⟩) (by assumption) ?rest78
      case hy78 => (intro wS hSw; (try dsimp only at hSw); go_simp; (try with_reducible rfl))
      (try simp only [Act.put, List.setIfInBounds_toArray, List.set_cons_zero, List.set_cons_succ])
      refine wpAnyH_take (i := 3) (oi := ⟨some 30, _, _, _, _, none⟩) (v := ?v79) rfl (by kernel_rfl) (by kernel_rfl) (by kernel_rfl) (fun _ _ _ h => h) (Or.inl ⟨by rfl, ?hy79⟩) (by assumption) ?rest79
      case hy79 => (intro wS hSw; (try dsimp only at hSw); go_simp; (try with_reducible rfl))
      (try simp only [Act.put, List.setIfInBounds_toArray, List.set_cons_zero, List.set_cons_succ])
      refine wpAnyH_take (i := 4) (oi := ⟨some 31, _, _, _, _, none⟩) (v := ?v80) rfl (by kernel_rfl) (by kernel_rfl) (by kernel_rfl) (fun _ _ _ h => h) (Or.inl ⟨by rfl, ?hy80⟩) (by assumption) ?rest80
      case hy80 => (intro wS hSw; (try dsimp only at hSw); go_simp; (try with_reducible rfl))
      (try simp only [Act.put, List.setIfInBounds_toArray, List.set_cons_zero, List.set_cons_succ])
      refine wpAnyH_take (i := 5) (oi := ⟨some 32, _, _, _, _, none⟩) (v := ?v81) rfl (by kernel_rfl) (by kernel_rfl) (by kernel_rfl) (fun _ _ _ h => h) (Or.inl ⟨by rfl, ?hy81⟩) (by assumption) ?rest81
      case hy81 => (intro wS hSw; (try dsimp only at hSw); go_simp; (try with_reducible rfl))
      (try simp only [Act.put, List.setIfInBounds_toArray, List.set_cons_zero, List.set_cons_succ])
      refine wpAnyH_take (i := 6) (oi := ⟨some 33, _, _, _, _, none⟩) (v := ?v82) rfl (by kernel_rfl) (by kernel_rfl) (by kernel_rfl) (fun _ _ _ h => h) (Or.inl ⟨by rfl, ?hy82⟩) (by assumption) ?rest82
      case hy82 => (intro wS hSw; (try dsimp only at hSw); go_simp; (try with_reducible rfl))
      (try simp only [Act.put, List.setIfInBounds_toArray, List.set_cons_zero, List.set_cons_succ])
      refine wpAnyH_take (i := 7) (oi := ⟨some 34, _, _, _, _, none⟩) (v := ?v83) rfl (by kernel_rfl) (by kernel_rfl) (by kernel_rfl) (fun _ _ _ h => h) (Or.inl ⟨by rfl, ?hy83⟩) (by assumption) ?rest83
      case hy83 => (intro wS hSw; (try dsimp only at hSw); go_simp; (try with_reducible rfl))
      (try simp only [Act.put, List.setIfInBounds_toArray, List.set_cons_zero, List.set_cons_succ])
      refine wpAnyH_take (i := 8) (oi := ⟨some 8, _, _, _, _, none⟩) (v := ?v84) rfl (by kernel_rfl) (by kernel_rfl) (by kernel_rfl) (fun _ _ _ h => h) (Or.inl ⟨by rfl, ?hy84⟩) (by assumption) ?rest84
      case hy84 => (intro wS hSw; (try dsimp only at hSw); go_simp; (try with_reducible rfl))
      (try simp only [Act.put, List.setIfInBounds_toArray, List.set_cons_zero, List.set_cons_succ])
      refine wpAnyH_take (i := 9) (oi := ⟨some 9, _, _, _, _, none⟩) (v := ?v85) rfl (by kernel_rfl) (by kernel_rfl) (by kernel_rfl) (fun _ _ _ h => h) (Or.inl ⟨by rfl, ?hy85⟩) (by assumption) ?rest85
      case hy85 => (intro wS hSw; (try dsimp only at hSw); go_simp; (try with_reducible rfl))
      (try simp only [Act.put, List.setIfInBounds_toArray, List.set_cons_zero, List.set_cons_succ])
      refine wpAnyH_done (by kernel_rfl) ?_ _
      clear hHeld
      have FwV := Lib.hid (F0.out.trans FV)
      have PBV := Lib.hid (PB.out.fr FV (fun e => e))
      have ABV : TrB 39 V (g + 1) ⟨false, false, false⟩ := AB.out.fr FV (fun e => e)
      clear b0 b1 b2 b3 b4 b5 b6 b7 b8 e0 e1
      replace k0 := FV.at0 k0
      replace k1 := FV.at0 k1
      replace k2 := FV.at0 k2
      replace k3 := FV.at0 k3
      replace k4 := FV.at0 k4
      replace k5 := FV.at0 k5
      replace k6 := FV.at0 k6
      replace k7 := FV.at0 k7
      replace k8 := FV.at0 k8
      obtain ⟨b0, b1, b2, b3, b4, b5, b6, b7, b8⟩ := pdB_cells PBV.out
      dsimp only at b0 b1 b2 b3 b4 b5 b6 b7 b8
      replace ABV := Lib.hid ABV
      go_wp2_with fail
      refine (HT.out _ FwV.out).mono ?_
      rintro e w4 ⟨rfl, f4⟩
      obtain ⟨D, hD⟩ : ∃ D, w4.heap.size = D := ⟨_, rfl⟩
      obtain ⟨W5, hW5⟩ : ∃ W, W = w4.alloc (.cells #[.bool ya, .bool yb, .bool yc] 39) := ⟨_, rfl⟩
      have f5 : Fr Non w4 W5 := by rw [hW5]; exact (Fr.refl Non w4).alloc _
      have TB5 : TrB 39 W5 D ⟨ya, yb, yc⟩ := by rw [hW5]; exact tr_newG _ _ ⟨ya, yb, yc⟩ _ hD
      have AB5 : TrB 39 W5 (g + 1) ⟨false, false, false⟩ := (ABV.out.fr f4 (fun e => e)).fr f5 (fun e => e)
      have F5 := Lib.hid ((FwV.out.trans f4).trans f5)
      clear b0 b1 b2 b3 b4 b5 b6 b7 b8 k0 k1 k2 k3 k4 k5 k6 k7 k8 HT f4 f5
      go_upto_region 17 with fail
      rw [← hW5]
      clear hW5
      obtain ⟨m0, m1, m2, -, -, -⟩ := TB5.facts
      dsimp only at m0 m1 m2
      have AB6 := Lib.hid (setTr_B AB5 yb ya yc)
      have F6 := Lib.hid (F5.out.fresh (setTr_fr W5 (g + 1) yb ya yc) (fun k e => by have : k = g + 1 := e; omega))
      obtain ⟨p0, p1, p2, z0, z1, z2⟩ := TrB.facts AB5
      dsimp only at p0 p1 p2
      go_wp2
      exact bodyPost_ret (v := trV ⟨yb, ya, yc⟩) (ret_rtr (p := 6) rfl _ _ _ ⟨yb, ya, yc⟩ (by rfl) AB6.out) rfl ⟨by rw [HE.out] <;> rfl, F6.out⟩
    · exact H67.out ho hco
end Go.Proofs.YtpmipdnmhffkeaaDoor
