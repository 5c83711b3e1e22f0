/-
  Joined: Grp4, MathBits, Bitv3, Grp5, FoS
-/
import Derived.Lib.Zigzag
import Derived.Deep.QuietTactic
import Derived.BigQuiet
import Derived.Deep.RegionHeld3
import Derived.Deep.DrawnRows
import Derived.Shelf.Strings.Replace
import Derived.Shelf.Strconv.Itoa4
import Derived.Shelf.Strings.OnBuilder
import Derived.Test.YtjcfjjhhbcgcmaaGreatProg
import Derived.Lib.SmallJoins
import Derived.Lib.AppendIntMem
import Derived.Laws.StructEq
import Derived.Laws.Rows
import Derived.Laws.ResultCell
import Derived.Deep.RegionWith
import Derived.Test.YtjcfjjhhbcgcmaaGreatZ5
import Derived.Test.YtjcfjjhhbcgcmaaGreatZ11
import Derived.Test.YtjcfjjhhbcgcmaaGreatZ12
import Derived.Test.YtjcfjjhhbcgcmaaGreatZ1
import Derived.Test.YtjcfjjhhbcgcmaaGreatZ6
import Derived.Test.YtjcfjjhhbcgcmaaGreatZ2
import Derived.Test.YtjcfjjhhbcgcmaaGreatZ3
set_option linter.unusedVariables false
set_option linter.unusedSimpArgs false
set_option maxRecDepth 100000
namespace Go.Proofs.YtjcfjjhhbcgcmaaGreat
open Go.RowKit
set_option maxHeartbeats 16000000 in
theorem dansw_any (v0 v2 : Value) (cols : List Co) (q : Qy) (c : Value) (s : Kv) (g : Value) (rows : List (List Cl)) (w : World) (h0 : Ks w v0 cols) (hq : QyS w q c s g) (h2 : Rs w v2 rows) (hcl : cols.length ≤ 1000) (hcb : ∀ c ∈ cols, c.name.length ≤ 1000) (hs : SmQ q) (hrl : rows.length ≤ 100000) :
    Calls Tryz.prog 10 #[v0, qyV q c s g, v2] w fun e w' => ∃ u, e = .returned (.tuple #[u, .int .i64 (ansE cols q rows).2]) ∧ Ro w' w.heap.size u (ansE cols q rows).1 ∧ Fr Non w w' := by
  obtain ⟨ps, hps, hpv, hpc⟩ := rs_pairs h2
  have hpl : ps.length ≤ 100000 := by rw [← hps, List.length_map] at hrl; exact hrl
  obtain ⟨A2, c2, hv2⟩ := hpv.shape
  rw [List.length_map] at hv2
  subst hv2
  obtain ⟨A0, c0, hv0⟩ := h0.shape
  have hparts := fun e : fitQ cols q = 0 => fitQ_parts e
  have M1 : Hid (∀ W, Fr Non w W → Calls Tryz.prog 25 #[v0, qyV q c s g] W fun e w' => e = .returned (.int .i64 (fitQ cols q)) ∧ Fr Non W w') := Lib.hid (fun W hf => rqfits_any v0 cols q c s g W (h0.non hf) hcl hcb (hq.non hf) hs)
  have HRw : Hid (∀ i (h : i < ps.length) W, Fr Non w W → Calls Tryz.prog 26 #[v0, slV ps[i].1] W fun e w' => e = .returned (.bool (rowB cols ps[i].2)) ∧ Fr Non W w') := Lib.hid (fun i h W hf => rrow_any v0 _ cols _ W (h0.non hf) ((hpc _ (List.getElem_mem h)).non hf) (by omega))
  have HTr : Hid (fitQ cols q = 0 → ∀ i (h : i < ps.length) W, Fr Non w W → rowB cols ps[i].2 = true → Calls Tryz.prog 27 #[v0, pdV q.whr.hd s, slV ps[i].1] W fun e w' => e = .returned (.int .i64 (truP cols ps[i].2 q.whr)) ∧ Fr Non W w') := Lib.hid (fun e i h W hf hr => rtruth_any v0 _ cols _ hcl hr q.whr s W (h0.non hf) ((hpc _ (List.getElem_mem h)).non hf) (hq.kids.non hf) (big_of_len _ hs.lens) (may_one (may_parts (hparts e).1).2) (hparts e).2.2.1)
  have hrowl : ∀ r, rowB cols r = true → r.length = cols.length := fun r h => (row_at h).1.symm
  have HPl : Hid (fitQ cols q = 0 → ∀ u S W, Fr Non w W → Rs W u S → (∀ r ∈ S, rowB cols r = true) → S.length ≤ 100000 → Calls Tryz.prog 28 #[v0, qyV q c s g, u] W fun e w' => ∃ u', e = .returned u' ∧ Ro w' W.heap.size u' (plainG cols q S) ∧ Fr Non W w') := Lib.hid (fun e u S W hf hS hr hl => dplain_any v0 u cols q c s g S W (h0.non hf) (hq.non hf) hS hcl (by have := hs.cols; omega) hl (fun r h => hrowl r (hr r h)) (named_has (hparts e).2.2.2).1)
  have HVa : Hid (∀ u S W, Fr Non w W → Rs W u S → (∀ r ∈ S, rowB cols r = true) → S.length ≤ 100000 → Calls Tryz.prog 29 #[v0, qyV q c s g, u] W fun e w' => ∃ u', e = .returned u' ∧ Oc w' W.heap.size u' (valsG cols q S) ∧ Fr Non W w') := Lib.hid (fun u S W hf hS hr hl => dvals_any v0 u cols q c s g S W (h0.non hf) (hq.non hf) hS hcl (by have := hs.aggs; omega) hl (fun r h => hrowl r (hr r h)))
  have HFi : Hid (∀ W, Fr Non w W → Calls Tryz.prog 30 #[v0, .string ⟨q.by_.toArray⟩] W fun e w' => e = .returned (.int .i64 (findI (findC cols q.by_))) ∧ Fr Non W w') := Lib.hid (fun W hf => rfind_any v0 cols q.by_ W (h0.non hf) (by omega))
  have HBy : Hid (fitQ cols q = 0 → 0 < q.aggs.length → q.by_ ≠ [] → ∃ p, findC cols q.by_ = some p) := Lib.hid (fun e ha hb => (named_has (hparts e).2.2.2).2.2 hb (by unfold allQ; rw [decide_eq_false (show ¬ q.aggs.length = 0 by omega), Bool.and_false]))
  have HKy : Hid (∀ p, findC cols q.by_ = some p → ∀ u S W, Rs W u S → (∀ r ∈ S, rowB cols r = true) → S.length ≤ 100000 → Calls Tryz.prog 31 #[u, .int .i64 p] W fun e w' => ∃ u', e = .returned u' ∧ Oc w' W.heap.size u' (keysG cols q.by_ S) ∧ Fr Non W w') := Lib.hid (fun p hf u S W hS hr hl => by
    have hp := find_lt hf
    unfold keysG
    rw [cells_col hf]
    exact dkeys_any u p S W hS hl (fun r h => by have := hrowl r (hr r h); omega) (by omega))
  have HCe : Hid (∀ p, findC cols q.by_ = some p → ∀ r, rowB cols r = true → ∃ h : p < r.length, cellN cols r q.by_ = r[p]) := Lib.hid (fun p hf r h => by
    have hp := find_lt hf
    have hl := hrowl r h
    exact ⟨by omega, cellN_at hf (by omega)⟩)
  have HE0 : Hid (¬ fitQ cols q = 0 → ansE cols q rows = ([], fitQ cols q)) := Lib.hid (fun e => if_neg e)
  have HE1 : Hid (fitQ cols q = 0 → ∀ i (h : i < ps.length), rowB cols ps[i].2 = false → ansE cols q rows = ([], 10)) := Lib.hid (fun e i h hr => by
    unfold ansE
    rw [if_pos e, if_neg]
    rw [← hps, List.all_map, List.all_eq_true]
    intro hall
    have := hall _ (List.getElem_mem h)
    rw [Function.comp_apply, hr] at this
    cases this)
  have HE2 : Hid (fitQ cols q = 0 → (∀ i (h : i < ps.length), rowB cols ps[i].2 = true) → ansE cols q rows = (answG cols q ((psF (fun r => truP cols r q.whr == 1) ps ps.length).map Prod.snd), 0)) := Lib.hid (fun e hall => by
    unfold ansE
    rw [if_pos e, if_pos, psF_end, hps]
    · rfl
    · rw [← hps, List.all_map, List.all_eq_true]
      intro p hp
      obtain ⟨i, hi, rfl⟩ := List.mem_iff_getElem.1 hp
      exact hall i hi)
  have HG : Hid (∀ S, (q.aggs.length = 0 → answG cols q S = plainG cols q S) ∧ (¬ q.aggs.length = 0 → q.by_ = [] → answG cols q S = [valsG cols q S]) ∧ (¬ q.aggs.length = 0 → ¬ q.by_ = [] → answG cols q S = (keysG cols q.by_ S).map fun c => c :: valsG cols q (S.filter fun r => ceq (cellN cols r q.by_) c))) := Lib.hid (fun S => ⟨fun e => if_pos e, fun e e2 => by unfold answG; rw [if_neg e, if_pos e2], fun e e2 => by unfold answG; rw [if_neg e, if_neg e2]; rfl⟩)
  have HKl : Hid (∀ S, (keysG cols q.by_ S).length ≤ S.length) := Lib.hid (fun S => by unfold keysG; exact Nat.le_trans (keys_len _) (by rw [List.length_map]; exact Nat.le_refl _))
  have HVl : Hid (∀ S, (valsG cols q S).length ≤ 15) := Lib.hid (fun S => by unfold valsG; rw [List.length_map]; exact hs.aggs)
  have HPV := Lib.hid hpv
  have HPC := Lib.hid hpc
  have Q0 := Lib.hid (Qin.new hq)
  have HSm := Lib.hid hs
  subst hv0
  obtain ⟨cA, cc, hce⟩ := hq.cols.shape
  obtain ⟨gA, gc, hge⟩ := hq.aggs.shape
  clear hq hs hparts hrowl h0 h2 hpv hpc hcb hps
  generalize ansE cols q rows = R at *
  generalize fitQ cols q = z at *
  generalize answG cols q = an at *
  generalize plainG cols q = pl at *
  generalize valsG cols q = va at *
  generalize keysG cols q.by_ = ke at *
  obtain ⟨tr, htr⟩ : ∃ tr : List Cl → Int, ∀ r, truP cols r q.whr = tr r := ⟨_, fun _ => rfl⟩
  obtain ⟨cby, hcby⟩ : ∃ cb : List Cl → Cl, ∀ r, cellN cols r q.by_ = cb r := ⟨_, fun _ => rfl⟩
  simp only [htr] at HTr HE2
  simp only [hcby] at HCe HG
  clear htr hcby
  obtain ⟨tab, qc, ⟨⟨wo, wc, wm, ⟨wn, wi, wt⟩, wk, wp⟩, wks⟩, aggs, by_⟩ := q
  obtain ⟨sA, sn, sc⟩ := s
  dsimp only at hce hge
  subst hce hge
  unfold qyV at M1 HPl HVa ⊢
  unfold pdV pdC at HTr
  unfold qyC at M1 HPl HVa ⊢
  unfold kidV at M1 HPl HVa HTr ⊢
  dsimp only [Pd.hd, Pd.kids] at M1 HTr HPl HVa HFi HBy HKy HCe HG ⊢
  obtain ⟨b, hb⟩ : ∃ b, w.heap.size = b := ⟨_, rfl⟩
  have QB0 : Hid (QB _ b ⟨tab, qc, ⟨⟨wo, wc, wm, ⟨wn, wi, wt⟩, wk, wp⟩, wks⟩, aggs, by_⟩ (.slice cA qc.length cc) ⟨sA, sn, sc⟩ (.slice gA aggs.length gc)) := Lib.hid (by have := Q0.out.blk; rw [hb] at this; exact this)
  have F0 := Lib.hid Q0.out.fr
  clear Q0 HSm
  unfold qyC kidV at QB0 F0
  dsimp only [Pd.hd, Pd.kids] at QB0 F0
  have HB := Lib.hid hb
  have HR2 : Hid (∃ r1 r2, R = (r1, r2)) := Lib.hid ⟨R.1, R.2, rfl⟩
  obtain ⟨b0, b1, b2, b3, b4, b5, b6, b7, b8, b9, b10, b11, b12⟩ := qB_cells QB0.out
  dsimp only [Pd.hd, Pd.kids] at b0 b1 b2 b3 b4 b5 b6 b7 b8 b9 b10 b11 b12
  go_enter Tryz.func10, Tryz.ntmps10
  go_wp2_with fail
  refine (M1.out _ F0.out).mono ?_
  rintro e w0 ⟨rfl, f0⟩
  replace QB0 : Hid (QB w0 b ⟨tab, qc, ⟨⟨wo, wc, wm, ⟨wn, wi, wt⟩, wk, wp⟩, wks⟩, aggs, by_⟩ (.slice cA qc.length cc) ⟨sA, sn, sc⟩ (.slice gA aggs.length gc)) := Lib.hid (QB0.out.fr f0 (fun e => e))
  replace F0 := Lib.hid (F0.out.trans f0)
  clear f0
  clear b0 b1 b2 b3 b4 b5 b6 b7 b8 b9 b10 b11 b12
  by_cases hz : z = 0
  · subst hz
    have hbs : b + 1 ≤ w0.heap.size := by have := QB0.out.lt; omega
    have HO0 : Hid (Ow slV 47 (w0.alloc (.cells #[] 47)) (b + 1) (.slice (some ⟨w0.heap.size, 0, none⟩) 0 0) []) := Lib.hid (ow_lit0 w0 (b + 1) w0.heap.size rfl hbs)
    have FF0 := Lib.hid (F0.out.alloc (.cells #[] 47))
    have QBB0 : Hid (QB (w0.alloc (.cells #[] 47)) b ⟨tab, qc, ⟨⟨wo, wc, wm, ⟨wn, wi, wt⟩, wk, wp⟩, wks⟩, aggs, by_⟩ (.slice cA qc.length cc) ⟨sA, sn, sc⟩ (.slice gA aggs.length gc)) := Lib.hid (QB0.out.fr ((Fr.refl Non _).alloc _) (fun e => e))
    clear QB0 F0 hb HE0 M1
    replace HTr := Lib.hid (HTr.out rfl)
    replace HPl := Lib.hid (HPl.out rfl)
    replace HBy := Lib.hid (HBy.out rfl)
    replace HE1 := Lib.hid (HE1.out rfl)
    replace HE2 := Lib.hid (HE2.out rfl)
    have hbs2 := Lib.hid hbs
    clear hbs
    go_wp2
    go_loopw [9, 10] (fun x i wr => ∃ (i' : Nat), i' ≤ ps.length ∧ i = .int .i64 i' ∧ Hid (∀ m (h : m < ps.length), m < i' → rowB cols ps[m].2 = true) ∧ Ow slV 47 wr (b + 1) x ((psF (fun r => tr r == 1) ps i').map Prod.fst) ∧ Hid (QB wr b ⟨tab, qc, ⟨⟨wo, wc, wm, ⟨wn, wi, wt⟩, wk, wp⟩, wks⟩, aggs, by_⟩ (.slice cA qc.length cc) ⟨sA, sn, sc⟩ (.slice gA aggs.length gc)) ∧ Hid (Fr Non w wr)) (fun _ i _ => ps.length - (intOf i).toNat)
    case atStart => exact ⟨0, Nat.zero_le _, rfl, Lib.hid (fun m _ h => by omega), HO0.out, QBB0, FF0⟩
    case round =>
      clear QBB0 FF0 HO0
      obtain ⟨i, hi, rfl, HAl, hO, QB1, FR⟩ := hrel
      rename World => w1
      have HO := Lib.hid hO
      clear hO
      by_cases hlt : i < ps.length
      · obtain ⟨a2, e2, -, -, hh⟩ := (HPV.out.non FR.out).addr (show 0 < ps.length by omega)
        subst e2
        have g0 := hh i (by rw [List.length_map]; exact hlt)
        clear hh
        rw [List.getElem_map] at g0
        have HMo := Lib.hid (psF_more (f := fun r => tr r == 1) hlt)
        have HPl2 : Hid (((psF (fun r => tr r == 1) ps i).map Prod.fst).length ≤ 100000) := Lib.hid (by rw [List.length_map]; have := psF_len (fun r => tr r == 1) ps i; omega)
        have HRi := Lib.hid (HRw.out i hlt)
        have HTi := Lib.hid (HTr.out i hlt)
        have HE1i := Lib.hid (HE1.out i hlt)
        generalize (psF (fun r => tr r == 1) ps i) = D at *
        obtain ⟨pi, hpi⟩ : ∃ p, ps[i] = p := ⟨_, rfl⟩
        have HAl2 : Hid (rowB cols pi.2 = true → ∀ m (h : m < ps.length), m < i + 1 → rowB cols ps[m].2 = true) := Lib.hid (fun e m h hm => by
          by_cases e2 : m = i
          · subst e2; rw [hpi]; exact e
          · exact HAl.out m h (by omega))
        rw [hpi] at g0 HMo HRi HTi HE1i
        clear hpi
        obtain ⟨⟨hA, hn, hc⟩, r⟩ := pi
        unfold slV at g0 HRi HTi
        dsimp only at g0 HMo HRi HTi HE1i HAl2
        obtain ⟨y, hy⟩ : ∃ y, tr r = y := ⟨_, rfl⟩
        rw [hy] at HTi HMo
        clear hy
        go_wp2_with fail
        refine (HRi.out _ FR.out).mono ?_
        rintro e w2 ⟨rfl, f2⟩
        have FR2 := Lib.hid (FR.out.trans f2)
        have QB2 : Hid (QB w2 b ⟨tab, qc, ⟨⟨wo, wc, wm, ⟨wn, wi, wt⟩, wk, wp⟩, wks⟩, aggs, by_⟩ (.slice cA qc.length cc) ⟨sA, sn, sc⟩ (.slice gA aggs.length gc)) := Lib.hid (QB1.out.fr f2 (fun e => e))
        have HO2 := Lib.hid (HO.out.non f2)
        replace g0 := f2.at0 g0
        clear f2 HRi
        cases hrb : rowB cols r
        · have HE := Lib.hid (HE1i.out hrb)
          go_wp2
          go_ret2
          exact ⟨_, by rw [HE.out]; first | done | rfl, by rw [HE.out]; exact ro_nil _ _, FR2.out⟩
        · replace HTi := Lib.hid (fun W hf => HTi.out W hf hrb)
          replace HAl2 := Lib.hid (HAl2.out hrb)
          obtain ⟨b0, b1, b2, b3, b4, b5, b6, b7, b8, b9, b10, b11, b12⟩ := qB_cells QB2.out
          dsimp only [Pd.hd, Pd.kids] at b0 b1 b2 b3 b4 b5 b6 b7 b8 b9 b10 b11 b12
          clear HE1i hrb b0 b1 b11 b12
          go_wp2
          obtain ⟨V, hV⟩ : ∃ V, V = w2.drew := ⟨_, rfl⟩
          refine wp_region_held_drew (S := (fun W' => W'.cell? ⟨b, 2, none⟩ = some (.int .i64 wo) ∧ W'.cell? ⟨b, 3, none⟩ = some (.string ⟨wc.toArray⟩) ∧ W'.cell? ⟨b, 4, none⟩ = some (.int .i64 wm) ∧ W'.cell? ⟨b, 5, none⟩ = some (.bool wn) ∧ W'.cell? ⟨b, 6, none⟩ = some (.int .i64 wi) ∧ W'.cell? ⟨b, 7, none⟩ = some (.string ⟨wt.toArray⟩) ∧ W'.cell? ⟨b, 8, none⟩ = some (.int .i64 wk) ∧ W'.cell? ⟨b, 9, none⟩ = some (.string ⟨wp.toArray⟩) ∧ W'.cell? ⟨b, 10, none⟩ = some (.slice sA sn sc) ∧ W'.cell? (a2.add i) = some (.slice hA hn hc))) (by kernel_rfl) (by exact ⟨b2, b3, b4, b5, b6, b7, b8, b9, b10, g0⟩) (fun hHeld => ?_)
          rw [← hV]
          rw [← hV] at hHeld
          have FV : Fr Non w2 V := by rw [hV]; exact (Fr.refl Non _).drew
          clear hV
          replace b2 := FV.at0 b2
          replace b3 := FV.at0 b3
          replace b4 := FV.at0 b4
          replace b5 := FV.at0 b5
          replace b6 := FV.at0 b6
          replace b7 := FV.at0 b7
          replace b8 := FV.at0 b8
          replace b9 := FV.at0 b9
          replace b10 := FV.at0 b10
          replace g0 := FV.at0 g0
          refine wpAnyH_take (i := 0) (oi := ⟨some 37, _, _, _, _, none⟩) (v := ?v115) rfl (by kernel_rfl) (by kernel_rfl) (by kernel_rfl) (fun _ _ _ h => h) (Or.inl ⟨by rfl, ?hy115⟩) (by assumption) ?rest115
          case hy115 => (intro wS hSw; (try dsimp only at hSw); go_simp; (try with_reducible rfl))
          (try simp only [Act.put, zA, zB, zC])
          refine wpAnyH_take (i := 1) (oi := ⟨some 38, _, _, _, _, none⟩) (v := ?v116) rfl (by kernel_rfl) (by kernel_rfl) (by kernel_rfl) (fun _ _ _ h => h) (Or.inl ⟨by rfl, ?hy116⟩) (by assumption) ?rest116
          case hy116 => (intro wS hSw; (try dsimp only at hSw); go_simp; (try with_reducible rfl))
          (try simp only [Act.put, zA, zB, zC])
          refine wpAnyH_take (i := 2) (oi := ⟨some 39, _, _, _, _, none⟩) (v := ?v117) rfl (by kernel_rfl) (by kernel_rfl) (by kernel_rfl) (fun _ _ _ h => h) (Or.inl ⟨by rfl, ?hy117⟩) (by assumption) ?rest117
          case hy117 => (intro wS hSw; (try dsimp only at hSw); go_simp; (try with_reducible rfl))
          (try simp only [Act.put, zA, zB, zC])
          refine wpAnyH_take (i := 3) (oi := ⟨some 40, _, _, _, _, none⟩) (v := ?v118) rfl (by kernel_rfl) (by kernel_rfl) (by kernel_rfl) (fun _ _ _ h => h) (Or.inl ⟨by rfl, ?hy118⟩) (by assumption) ?rest118
          case hy118 => (intro wS hSw; (try dsimp only at hSw); go_simp; (try with_reducible rfl))
          (try simp only [Act.put, zA, zB, zC])
          refine wpAnyH_take (i := 4) (oi := ⟨some 41, _, _, _, _, none⟩) (v := ?v119) rfl (by kernel_rfl) (by kernel_rfl) (by kernel_rfl) (fun _ _ _ h => h) (Or.inl ⟨by rfl, ?hy119⟩) (by assumption) ?rest119
          case hy119 => (intro wS hSw; (try dsimp only at hSw); go_simp; (try with_reducible rfl))
          (try simp only [Act.put, zA, zB, zC])
          refine wpAnyH_take (i := 5) (oi := ⟨some 42, _, _, _, _, none⟩) (v := ?v120) rfl (by kernel_rfl) (by kernel_rfl) (by kernel_rfl) (fun _ _ _ h => h) (Or.inl ⟨by rfl, ?hy120⟩) (by assumption) ?rest120
          case hy120 => (intro wS hSw; (try dsimp only at hSw); go_simp; (try with_reducible rfl))
          (try simp only [Act.put, zA, zB, zC])
          refine wpAnyH_take (i := 6) (oi := ⟨some 43, _, _, _, _, none⟩) (v := ?v121) rfl (by kernel_rfl) (by kernel_rfl) (by kernel_rfl) (fun _ _ _ h => h) (Or.inl ⟨by rfl, ?hy121⟩) (by assumption) ?rest121
          case hy121 => (intro wS hSw; (try dsimp only at hSw); go_simp; (try with_reducible rfl))
          (try simp only [Act.put, zA, zB, zC])
          refine wpAnyH_ready (rs := [7]) (by kernel_rfl) (by simp) ?_
          refine AllReadyH.cons (o := ⟨some 44, _, _, _, _, none⟩) rfl (fun K hK => ?_) AllReadyH.nil
          go_simp
          go_at_call 27
          refine (HTi.out _ (FR2.out.trans FV)).mono ?_
          rintro e w4 ⟨rfl, f4⟩
          go_wp2_with fail
          refine hK.out _ _ (by exact ⟨f4.at0 b2, f4.at0 b3, f4.at0 b4, f4.at0 b5, f4.at0 b6, f4.at0 b7, f4.at0 b8, f4.at0 b9, f4.at0 b10, f4.at0 g0⟩) (fun hHeld => ?_)
          clear hK K
          (try simp only [Act.put, zA, zB, zC])
          replace b2 := f4.at0 b2
          replace b3 := f4.at0 b3
          replace b4 := f4.at0 b4
          replace b5 := f4.at0 b5
          replace b6 := f4.at0 b6
          replace b7 := f4.at0 b7
          replace b8 := f4.at0 b8
          replace b9 := f4.at0 b9
          replace b10 := f4.at0 b10
          replace g0 := f4.at0 g0
          refine wpAnyH_take (i := 8) (oi := ⟨some 45, _, _, _, _, none⟩) (v := ?v122) rfl (by kernel_rfl) (by kernel_rfl) (by kernel_rfl) (fun _ _ _ h => h) (Or.inl ⟨by rfl, ?hy122⟩) (by assumption) ?rest122
          case hy122 => (intro wS hSw; (try dsimp only at hSw); go_simp; (try with_reducible rfl))
          (try simp only [Act.put, zA, zB, zC])
          refine wpAnyH_done (by kernel_rfl) ?_ _
          have FR4 := Lib.hid ((FR2.out.trans FV).trans f4)
          have QB4 : Hid (QB w4 b ⟨tab, qc, ⟨⟨wo, wc, wm, ⟨wn, wi, wt⟩, wk, wp⟩, wks⟩, aggs, by_⟩ (.slice cA qc.length cc) ⟨sA, sn, sc⟩ (.slice gA aggs.length gc)) := Lib.hid ((QB2.out.fr FV (fun e => e)).fr f4 (fun e => e))
          have HO4 := Lib.hid ((HO2.out.non FV).non f4)
          clear hHeld FV f4 FR2 QB2 HO2 b2 b3 b4 b5 b6 b7 b8 b9 b10 HTi
          have hb4 : b + 1 ≤ w4.heap.size := by have := QB4.out.lt; omega
          by_cases hy1 : y = 1
          · have hd : (y == 1) = true := by rw [hy1]; rfl
            rw [hd, if_pos rfl] at HMo
            clear hy1
            go_wp2_with (at_builtin; refine wpList_pushG el_rows slV_one rfl (.tmp 46) (.tmp 51) rfl (b + 1) _ (D.map Prod.fst) rfl HO4.out (.slice hA hn hc) ⟨hA, hn, hc⟩ rfl (by rfl) (by have := HPl2.out; omega) hb4 ?_; intro x6 w6 HX6 f6)
            have F6 := Lib.hid (FR4.out.fresh f6 (fun z e => by have := (HO4.out.lt z e).1; have := HB.out; omega))
            have QB6 := Lib.hid (QB4.out.fr f6 (fun e => by have := (HO4.out.lt _ e).1; omega))
            go_roundw
            case rel => exact ⟨i + 1, by omega, by go_num, HAl2, by rw [HMo.out, List.map_append]; exact HX6, QB6, F6⟩
            case measure => simp [intOf]; omega
          · have hd : (y == 1) = false := by rw [beq_eq_false_iff_ne]; exact hy1
            rw [hd, if_neg (by simp), List.append_nil] at HMo
            clear hy1
            go_wp2
            go_roundw
            case rel => exact ⟨i + 1, by omega, by go_num, HAl2, by rw [HMo.out]; exact HO4.out, QB4, FR4⟩
            case measure => simp [intOf]; omega
      · have hie : i = ps.length := by omega
        subst hie
        have HE := Lib.hid (HE2.out (fun m h => HAl.out m h h))
        clear HE1 HE2 HRw HTr
        have HSP := Lib.hid (psF_len (fun r => tr r == 1) ps ps.length)
        have HSm : Hid (∀ p ∈ psF (fun r => tr r == 1) ps ps.length, Cs w (slV p.1) p.2 ∧ rowB cols p.2 = true) := Lib.hid (fun p hp => by
          have hm := (psF_mem hp).1
          obtain ⟨m, hm1, hm2⟩ := List.mem_iff_getElem.1 hm
          exact ⟨HPC.out p hm, by rw [← hm2]; exact HAl.out m hm1 hm1⟩)
        generalize psF (fun r => tr r == 1) ps ps.length = SP at *
        have HSr : Hid (∀ r ∈ SP.map Prod.snd, rowB cols r = true) := Lib.hid (fun r hr => by
          obtain ⟨p, hp, rfl⟩ := List.mem_map.1 hr
          exact (HSm.out p hp).2)
        have HSl : Hid ((SP.map Prod.snd).length ≤ 100000) := Lib.hid (by rw [List.length_map]; have := HSP.out; omega)
        have HRS := Lib.hid (fun W (hf : Fr Non w1 W) => rs_ofp ((HO.out.non hf).vs) (fun p hp => (HSm.out p hp).1.non (FR.out.trans hf)))
        clear HAl HPC HPV
        obtain ⟨Sx, cx, hxv⟩ := HO.out.shape
        rw [List.length_map] at hxv
        subst hxv
        obtain ⟨S, hS⟩ : ∃ S, SP.map Prod.snd = S := ⟨_, rfl⟩
        rw [hS] at HE HSr HSl HRS
        replace hS := Lib.hid hS
        obtain ⟨HG1, HG2, HG3⟩ := HG.out S
        replace HG1 := Lib.hid HG1
        replace HG2 := Lib.hid HG2
        replace HG3 := Lib.hid HG3
        obtain ⟨b0, b1, b2, b3, b4, b5, b6, b7, b8, b9, b10, b11, b12⟩ := qB_cells QB1.out
        dsimp only [Pd.hd, Pd.kids] at b0 b1 b2 b3 b4 b5 b6 b7 b8 b9 b10 b11 b12
        by_cases ha : aggs.length = 0
        · have hd : ((aggs.length : Int) == 0) = true := by rw [ha]; rfl
          have HGE := Lib.hid (HG1.out ha)
          clear ha HG1 HG2 HG3 HG HKy HCe HFi HBy HKl HVl
          go_wp2_with fail
          refine (HPl.out _ S w1 FR.out (HRS.out w1 (Fr.refl _ _)) HSr.out HSl.out).mono ?_
          rintro e w5 ⟨u, rfl, hu, f5⟩
          go_wp2
          go_ret2
          exact ⟨u, by rw [HE.out]; first | done | rfl, by rw [HE.out, HGE.out]; exact hu.mono (by have := FR.out.size; have := HB.out; omega), FR.out.trans f5⟩
        · have hda : ((aggs.length : Int) == 0) = false := by rw [beq_eq_false_iff_ne]; omega
          by_cases hby : by_ = []
          · have hdb : (by_ == []) = true := by rw [hby]; rfl
            have HGE := Lib.hid (HG2.out ha hby)
            clear ha HG1 HG2 HG3 HG HKy HCe HFi HBy HKl
            have HV := Lib.hid (HVa.out _ S w1 FR.out (HRS.out w1 (Fr.refl _ _)) HSr.out HSl.out)
            generalize va S = VV at *
            subst hby
            go_wp2_with fail
            refine HV.out.mono ?_
            rintro e w5 ⟨u, rfl, hu, f5⟩
            obtain ⟨uA, uc, hue⟩ := hu.shape
            subst hue
            have hRo := Lib.hid (ro_one hu rfl (by have := f5.size; omega))
            have FE := Lib.hid ((FR.out.trans f5).alloc (.cells #[.slice uA VV.length uc] 47))
            clear hu f5
            go_wp2
            go_ret2
            exact ⟨_, by rw [HE.out]; first | done | rfl, by rw [HE.out, HGE.out]; exact hRo.out.mono (by have := FR.out.size; have := HB.out; omega), FE.out⟩
          · have hdb : (by_ == []) = false := by rw [beq_eq_false_iff_ne]; exact hby
            have HGE := Lib.hid (HG3.out ha hby)
            obtain ⟨p, hp⟩ := HBy.out (by omega) hby
            clear ha
            replace HCe := Lib.hid (HCe.out p hp)
            replace HKy := Lib.hid (HKy.out p hp)
            rw [hp] at HFi
            unfold findI at HFi
            dsimp only at HFi
            clear HG1 HG2 HG3 HG HBy HPl hp hby
            go_wp2_with fail
            refine (HFi.out w1 FR.out).mono ?_
            rintro e w3 ⟨rfl, f3⟩
            have FR3 := Lib.hid (FR.out.trans f3)
            have QB3 : Hid (QB w3 b ⟨tab, qc, ⟨⟨wo, wc, wm, ⟨wn, wi, wt⟩, wk, wp⟩, wks⟩, aggs, by_⟩ (.slice cA qc.length cc) ⟨sA, sn, sc⟩ (.slice gA aggs.length gc)) := Lib.hid (QB1.out.fr f3 (fun e => e))
            have F13 := Lib.hid f3
            clear f3 HFi QB1 b0 b1 b2 b3 b4 b5 b6 b7 b8 b9 b10 b11 b12
            go_wp2_with fail
            refine (HKy.out _ S w3 (HRS.out w3 F13.out) HSr.out HSl.out).mono ?_
            rintro e wz ⟨u, rfl, hu, fk⟩
            have HKl2 := Lib.hid (Nat.le_trans (HKl.out S) HSl.out)
            generalize ke S = KS at *
            obtain ⟨Ak, ck, hue⟩ := hu.shape
            subst hue
            have HKs := Lib.hid hu
            have FK := Lib.hid (FR3.out.trans fk)
            have F1K := Lib.hid (F13.out.trans fk)
            have QBK : Hid (QB wz b ⟨tab, qc, ⟨⟨wo, wc, wm, ⟨wn, wi, wt⟩, wk, wp⟩, wks⟩, aggs, by_⟩ (.slice cA qc.length cc) ⟨sA, sn, sc⟩ (.slice gA aggs.length gc)) := Lib.hid (QB3.out.fr fk (fun e => e))
            clear hu fk FR3 F13 QB3 HKy HKl
            obtain ⟨B2, hB2⟩ : ∃ B, wz.heap.size = B := ⟨_, rfl⟩
            have HRo0 : Hid (Ro (wz.alloc (.cells #[] 47)) B2 (.slice (some ⟨B2, 0, none⟩) 0 0) []) := Lib.hid (ro_lit0 wz B2 B2 hB2.symm (Nat.le_refl _))
            have FK0 := Lib.hid ((Fr.refl Non wz).alloc (.cells #[] 47))
            have HB2 := Lib.hid hB2
            have hkl := HKl2.out
            go_wp2
            clear hB2
            obtain ⟨FN, hFN⟩ : ∃ FN : Cl → List Cl, ∀ c, (c :: va (S.filter fun r => ceq (cby r) c)) = FN c := ⟨_, fun _ => rfl⟩
            have HFN := Lib.hid hFN
            simp only [hFN] at HGE
            clear hFN
            go_loopw [13, 14] (fun x i wr => ∃ (i' : Nat), i' ≤ KS.length ∧ i = .int .i64 i' ∧ Ro wr B2 x ((KS.take i').map FN) ∧ Hid (Fr Non wz wr)) (fun _ i _ => KS.length - (intOf i).toNat)
            case atStart => exact ⟨0, Nat.zero_le _, rfl, HRo0.out, FK0⟩
            case round =>
              clear HRo0 FK0
              obtain ⟨i, hi, rfl, hO, FI⟩ := hrel
              rename World => wr
              have HOut := Lib.hid hO
              clear hO
              by_cases hlt : i < KS.length
              · have HMo : Hid ((KS.take (i + 1)).map FN = (KS.take i).map FN ++ [FN KS[i]]) := Lib.hid (by rw [List.take_succ_eq_append_getElem hlt, List.map_append]; rfl)
                have HDl : Hid (((KS.take i).map FN).length ≤ 100000) := Lib.hid (by rw [List.length_map, List.length_take]; omega)
                generalize (KS.take i).map FN = D at *
                obtain ⟨ak, hak, -, -, hel⟩ := HKs.out.cs.addr (show 0 < KS.length by omega)
                subst hak
                obtain ⟨k0, k1, k2⟩ := (hel i hlt).lit
                have HK0 := Lib.hid k0
                have HK1 := Lib.hid k1
                have HK2 := Lib.hid k2
                clear hel k0 k1 k2
                have HFc := Lib.hid (HFN.out KS[i])
                generalize KS[i] = c at *
                obtain ⟨B3, hB3⟩ : ∃ B, wr.heap.size = B := ⟨_, rfl⟩
                have HM0 : Hid (Ow slV 47 (wr.alloc (.cells #[] 47)) B3 (.slice (some ⟨B3, 0, none⟩) 0 0) []) := Lib.hid (ow_lit0 wr B3 B3 hB3.symm (Nat.le_refl _))
                have FM0 := Lib.hid ((Fr.refl Non wr).alloc (.cells #[] 47))
                have HB3 := Lib.hid hB3
                have hsl : SP.length ≤ 100000 := by have := HSl.out; rw [← hS.out, List.length_map] at this; exact this
                go_wp2
                clear hB3
                go_loopw [15, 16] (fun y k wq => ∃ (k' : Nat), k' ≤ SP.length ∧ k = .int .i64 k' ∧ Ow slV 47 wq B3 y ((psF (fun r => ceq (cby r) c) SP k').map Prod.fst) ∧ Hid (Fr Non wr wq)) (fun _ k _ => SP.length - (intOf k).toNat)
                case atStart => exact ⟨0, Nat.zero_le _, rfl, HM0.out, FM0⟩
                case round =>
                  clear HM0 FM0
                  obtain ⟨k, hk, rfl, hM, FM⟩ := hrel
                  rename World => wq
                  have HM := Lib.hid hM
                  clear hM
                  by_cases hkl2 : k < SP.length
                  · have HMm := Lib.hid (psF_more (f := fun r => ceq (cby r) c) hkl2)
                    have HDm : Hid (((psF (fun r => ceq (cby r) c) SP k).map Prod.fst).length ≤ 100000) := Lib.hid (by rw [List.length_map]; have := psF_len (fun r => ceq (cby r) c) SP k; omega)
                    generalize (psF (fun r => ceq (cby r) c) SP k) = E at *
                    have FQ1 := Lib.hid ((F1K.out.trans FI.out).trans FM.out)
                    obtain ⟨sx, hsx, -, -, hel⟩ := ((HO.out.non FQ1.out).vs).addr (show 0 < SP.length by omega)
                    subst hsx
                    have g0 := hel k (by rw [List.length_map]; exact hkl2)
                    rw [List.getElem_map] at g0
                    clear hel
                    obtain ⟨hcs, hrb⟩ := HSm.out _ (List.getElem_mem hkl2)
                    obtain ⟨pk, hpk⟩ : ∃ q, SP[k] = q := ⟨_, rfl⟩
                    rw [hpk] at g0 hcs hrb HMm
                    clear hpk
                    obtain ⟨⟨hA, hn, hc⟩, r⟩ := pk
                    unfold slV at g0 hcs
                    dsimp only at g0 hcs hrb HMm
                    obtain ⟨hpr, hce⟩ := HCe.out r hrb
                    rw [hce] at HMm
                    have hcs2 := hcs.non (FR.out.trans FQ1.out)
                    obtain ⟨_, _, hen, -⟩ := hcs2
                    simp only [Value.slice.injEq] at hen
                    obtain ⟨-, hen, -⟩ := hen
                    have hcs3 := hcs.non (FR.out.trans FQ1.out)
                    subst hen
                    obtain ⟨ar, har, -, -, hel⟩ := hcs3.addr (show 0 < r.length by omega)
                    subst har
                    obtain ⟨t0, t1, t2⟩ := (hel p hpr).lit
                    clear hel hcs hcs3 hce hrb
                    have k0 := (FI.out.trans FM.out).at0 HK0.out
                    have k1 := (FI.out.trans FM.out).at0 HK1.out
                    have k2 := (FI.out.trans FM.out).at0 HK2.out
                    generalize r[p] = x at *
                    obtain ⟨xn, xi, xt⟩ := x
                    obtain ⟨cn, ci, ct⟩ := c
                    dsimp only at t0 t1 t2 k0 k1 k2
                    have hB3q : B3 ≤ wq.heap.size := by have := FM.out.size; have := HB3.out; omega
                    cases hqe : ceq ⟨xn, xi, xt⟩ ⟨cn, ci, ct⟩
                    · have hq : ∀ W, (binOp .eql 25 (.agg #[.bool xn, .int .i64 xi, .string ⟨xt.toArray⟩]) (.agg #[.bool cn, .int .i64 ci, .string ⟨ct.toArray⟩])).run Tryz.prog W = .ok (.bool false) W := fun W => by
                        have := run_eql_cl W ⟨xn, xi, xt⟩ ⟨cn, ci, ct⟩
                        rw [hqe] at this; exact this
                      rw [hqe, if_neg (by simp), List.append_nil] at HMm
                      clear hqe
                      go_wp2
                      obtain ⟨V, hV⟩ : ∃ V, V = wq.drew := ⟨_, rfl⟩
                      refine wp_region_held_drew (S := (fun W' => W'.cell? (sx.add k) = some (.slice (some ar) r.length hc) ∧ W'.cell? (ar.add (p * 3)) = some (.bool xn) ∧ W'.cell? { block := (ar.add (p * 3)).block, off := (ar.add (p * 3)).off + 1 } = some (.int .i64 xi) ∧ W'.cell? { block := (ar.add (p * 3)).block, off := (ar.add (p * 3)).off + 2 } = some (.string ⟨xt.toArray⟩) ∧ W'.cell? (ak.add (i * 3)) = some (.bool cn) ∧ W'.cell? { block := (ak.add (i * 3)).block, off := (ak.add (i * 3)).off + 1 } = some (.int .i64 ci) ∧ W'.cell? { block := (ak.add (i * 3)).block, off := (ak.add (i * 3)).off + 2 } = some (.string ⟨ct.toArray⟩))) (by kernel_rfl) (by exact ⟨g0, t0, t1, t2, k0, k1, k2⟩) (fun hHeld => ?_)
                      rw [← hV]
                      rw [← hV] at hHeld
                      have FV : Fr Non wq V := by rw [hV]; exact (Fr.refl Non _).drew
                      clear hV
                      replace g0 := FV.at0 g0
                      replace t0 := FV.at0 t0
                      replace t1 := FV.at0 t1
                      replace t2 := FV.at0 t2
                      replace k0 := FV.at0 k0
                      replace k1 := FV.at0 k1
                      replace k2 := FV.at0 k2
                      refine wpAnyH_take (i := 0) (oi := ⟨some 90, _, _, _, _, none⟩) (v := ?v81) rfl (by kernel_rfl) (by kernel_rfl) (by kernel_rfl) (fun _ _ _ h => h) (Or.inl ⟨by rfl, ?hy81⟩) (by assumption) ?rest81
                      case hy81 => (intro wS hSw; (try dsimp only at hSw); go_simp; (try with_reducible rfl))
                      (try simp only [Act.put, zA, zB, zC])
                      refine wpAnyH_take (i := 1) (oi := ⟨some 91, _, _, _, _, none⟩) (v := ?v82) rfl (by kernel_rfl) (by kernel_rfl) (by kernel_rfl) (fun _ _ _ h => h) (Or.inl ⟨by rfl, ?hy82⟩) (by assumption) ?rest82
                      case hy82 => (intro wS hSw; (try dsimp only at hSw); go_simp; (try with_reducible rfl))
                      (try simp only [Act.put, zA, zB, zC])
                      refine wpAnyH_take (i := 2) (oi := ⟨some 92, _, _, _, _, none⟩) (v := ?v83) rfl (by kernel_rfl) (by kernel_rfl) (by kernel_rfl) (fun _ _ _ h => h) (Or.inl ⟨by rfl, ?hy83⟩) (by assumption) ?rest83
                      case hy83 => (intro wS hSw; (try dsimp only at hSw); go_simp; (try with_reducible rfl))
                      (try simp only [Act.put, zA, zB, zC])
                      refine wpAnyH_take (i := 3) (oi := ⟨some 93, _, _, _, _, none⟩) (v := ?v84) rfl (by kernel_rfl) (by kernel_rfl) (by kernel_rfl) (fun _ _ _ h => h) (Or.inl ⟨by rfl, ?hy84⟩) (by assumption) ?rest84
                      case hy84 => (intro wS hSw; (try dsimp only at hSw); go_simp; (try with_reducible rfl))
                      (try simp only [Act.put, zA, zB, zC])
                      refine wpAnyH_take (i := 4) (oi := ⟨some 94, _, _, _, _, none⟩) (v := ?v85) rfl (by kernel_rfl) (by kernel_rfl) (by kernel_rfl) (fun _ _ _ h => h) (Or.inl ⟨by rfl, ?hy85⟩) (by assumption) ?rest85
                      case hy85 => (intro wS hSw; (try dsimp only at hSw); go_simp; (try with_reducible rfl))
                      (try simp only [Act.put, zA, zB, zC])
                      refine wpAnyH_take (i := 5) (oi := ⟨some 95, _, _, _, _, none⟩) (v := ?v86) rfl (by kernel_rfl) (by kernel_rfl) (by kernel_rfl) (fun _ _ _ h => h) (Or.inl ⟨by rfl, ?hy86⟩) (by assumption) ?rest86
                      case hy86 => (intro wS hSw; (try dsimp only at hSw); go_simp; (try with_reducible rfl))
                      (try simp only [Act.put, zA, zB, zC])
                      refine wpAnyH_take (i := 6) (oi := ⟨some 96, _, _, _, _, none⟩) (v := ?v87) rfl (by kernel_rfl) (by kernel_rfl) (by kernel_rfl) (fun _ _ _ h => h) (Or.inl ⟨by rfl, ?hy87⟩) (by assumption) ?rest87
                      case hy87 => (intro wS hSw; (try dsimp only at hSw); go_simp; (try with_reducible rfl))
                      (try simp only [Act.put, zA, zB, zC])
                      refine wpAnyH_take (i := 7) (oi := ⟨some 97, _, _, _, _, none⟩) (v := ?v88) rfl (by kernel_rfl) (by kernel_rfl) (by kernel_rfl) (fun _ _ _ h => h) (Or.inl ⟨by rfl, ?hy88⟩) (by assumption) ?rest88
                      case hy88 => (intro wS hSw; (try dsimp only at hSw); go_simp; (try with_reducible rfl))
                      (try simp only [Act.put, zA, zB, zC])
                      refine wpAnyH_take (i := 8) (oi := ⟨some 98, _, _, _, _, none⟩) (v := ?v89) rfl (by kernel_rfl) (by kernel_rfl) (by kernel_rfl) (fun _ _ _ h => h) (Or.inl ⟨by rfl, ?hy89⟩) (by assumption) ?rest89
                      case hy89 => (intro wS hSw; (try dsimp only at hSw); go_simp; (try with_reducible rfl))
                      (try simp only [Act.put, zA, zB, zC])
                      refine wpAnyH_take (i := 9) (oi := ⟨some 99, _, _, _, _, none⟩) (v := ?v90) rfl (by kernel_rfl) (by kernel_rfl) (by kernel_rfl) (fun _ _ _ h => h) (Or.inl ⟨by rfl, ?hy90⟩) (by assumption) ?rest90
                      case hy90 => (intro wS hSw; (try dsimp only at hSw); go_simp; (try with_reducible rfl))
                      (try simp only [Act.put, zA, zB, zC])
                      refine wpAnyH_take (i := 10) (oi := ⟨some 100, _, _, _, _, none⟩) (v := ?v91) rfl (by kernel_rfl) (by kernel_rfl) (by kernel_rfl) (fun _ _ _ h => h) (Or.inl ⟨by rfl, ?hy91⟩) (by assumption) ?rest91
                      case hy91 => (intro wS hSw; (try dsimp only at hSw); go_simp; (try with_reducible rfl))
                      (try simp only [Act.put, zA, zB, zC])
                      refine wpAnyH_take (i := 11) (oi := ⟨some 101, _, _, _, _, none⟩) (v := ?v92) rfl (by kernel_rfl) (by kernel_rfl) (by kernel_rfl) (fun _ _ _ h => h) (Or.inl ⟨by rfl, ?hy92⟩) (by assumption) ?rest92
                      case hy92 => (intro wS hSw; (try dsimp only at hSw); go_simp; (try with_reducible rfl))
                      (try simp only [Act.put, zA, zB, zC])
                      refine wpAnyH_done (by kernel_rfl) ?_ _
                      have FMV := Lib.hid (FM.out.trans FV)
                      have HMV := Lib.hid (HM.out.non FV)
                      have hB3v : B3 ≤ V.heap.size := by have := FV.size; omega
                      clear hHeld t0 t1 t2 k0 k1 k2
                      clear FV g0
                      go_wp2
                      go_roundw
                      case rel => exact ⟨k + 1, by omega, by go_num, by rw [HMm.out]; exact HMV.out, FMV⟩
                      case measure => simp [intOf]; omega
                    · have hq : ∀ W, (binOp .eql 25 (.agg #[.bool xn, .int .i64 xi, .string ⟨xt.toArray⟩]) (.agg #[.bool cn, .int .i64 ci, .string ⟨ct.toArray⟩])).run Tryz.prog W = .ok (.bool true) W := fun W => by
                        have := run_eql_cl W ⟨xn, xi, xt⟩ ⟨cn, ci, ct⟩
                        rw [hqe] at this; exact this
                      rw [hqe, if_pos rfl] at HMm
                      clear hqe
                      go_wp2
                      obtain ⟨V, hV⟩ : ∃ V, V = wq.drew := ⟨_, rfl⟩
                      refine wp_region_held_drew (S := (fun W' => W'.cell? (sx.add k) = some (.slice (some ar) r.length hc) ∧ W'.cell? (ar.add (p * 3)) = some (.bool xn) ∧ W'.cell? { block := (ar.add (p * 3)).block, off := (ar.add (p * 3)).off + 1 } = some (.int .i64 xi) ∧ W'.cell? { block := (ar.add (p * 3)).block, off := (ar.add (p * 3)).off + 2 } = some (.string ⟨xt.toArray⟩) ∧ W'.cell? (ak.add (i * 3)) = some (.bool cn) ∧ W'.cell? { block := (ak.add (i * 3)).block, off := (ak.add (i * 3)).off + 1 } = some (.int .i64 ci) ∧ W'.cell? { block := (ak.add (i * 3)).block, off := (ak.add (i * 3)).off + 2 } = some (.string ⟨ct.toArray⟩))) (by kernel_rfl) (by exact ⟨g0, t0, t1, t2, k0, k1, k2⟩) (fun hHeld => ?_)
                      rw [← hV]
                      rw [← hV] at hHeld
                      have FV : Fr Non wq V := by rw [hV]; exact (Fr.refl Non _).drew
                      clear hV
                      replace g0 := FV.at0 g0
                      replace t0 := FV.at0 t0
                      replace t1 := FV.at0 t1
                      replace t2 := FV.at0 t2
                      replace k0 := FV.at0 k0
                      replace k1 := FV.at0 k1
                      replace k2 := FV.at0 k2
                      refine wpAnyH_take (i := 0) (oi := ⟨some 90, _, _, _, _, none⟩) (v := ?v93) rfl (by kernel_rfl) (by kernel_rfl) (by kernel_rfl) (fun _ _ _ h => h) (Or.inl ⟨by rfl, ?hy93⟩) (by assumption) ?rest93
                      case hy93 => (intro wS hSw; (try dsimp only at hSw); go_simp; (try with_reducible rfl))
                      (try simp only [Act.put, zA, zB, zC])
                      refine wpAnyH_take (i := 1) (oi := ⟨some 91, _, _, _, _, none⟩) (v := ?v94) rfl (by kernel_rfl) (by kernel_rfl) (by kernel_rfl) (fun _ _ _ h => h) (Or.inl ⟨by rfl, ?hy94⟩) (by assumption) ?rest94
                      case hy94 => (intro wS hSw; (try dsimp only at hSw); go_simp; (try with_reducible rfl))
                      (try simp only [Act.put, zA, zB, zC])
                      refine wpAnyH_take (i := 2) (oi := ⟨some 92, _, _, _, _, none⟩) (v := ?v95) rfl (by kernel_rfl) (by kernel_rfl) (by kernel_rfl) (fun _ _ _ h => h) (Or.inl ⟨by rfl, ?hy95⟩) (by assumption) ?rest95
                      case hy95 => (intro wS hSw; (try dsimp only at hSw); go_simp; (try with_reducible rfl))
                      (try simp only [Act.put, zA, zB, zC])
                      refine wpAnyH_take (i := 3) (oi := ⟨some 93, _, _, _, _, none⟩) (v := ?v96) rfl (by kernel_rfl) (by kernel_rfl) (by kernel_rfl) (fun _ _ _ h => h) (Or.inl ⟨by rfl, ?hy96⟩) (by assumption) ?rest96
                      case hy96 => (intro wS hSw; (try dsimp only at hSw); go_simp; (try with_reducible rfl))
                      (try simp only [Act.put, zA, zB, zC])
                      refine wpAnyH_take (i := 4) (oi := ⟨some 94, _, _, _, _, none⟩) (v := ?v97) rfl (by kernel_rfl) (by kernel_rfl) (by kernel_rfl) (fun _ _ _ h => h) (Or.inl ⟨by rfl, ?hy97⟩) (by assumption) ?rest97
                      case hy97 => (intro wS hSw; (try dsimp only at hSw); go_simp; (try with_reducible rfl))
                      (try simp only [Act.put, zA, zB, zC])
                      refine wpAnyH_take (i := 5) (oi := ⟨some 95, _, _, _, _, none⟩) (v := ?v98) rfl (by kernel_rfl) (by kernel_rfl) (by kernel_rfl) (fun _ _ _ h => h) (Or.inl ⟨by rfl, ?hy98⟩) (by assumption) ?rest98
                      case hy98 => (intro wS hSw; (try dsimp only at hSw); go_simp; (try with_reducible rfl))
                      (try simp only [Act.put, zA, zB, zC])
                      refine wpAnyH_take (i := 6) (oi := ⟨some 96, _, _, _, _, none⟩) (v := ?v99) rfl (by kernel_rfl) (by kernel_rfl) (by kernel_rfl) (fun _ _ _ h => h) (Or.inl ⟨by rfl, ?hy99⟩) (by assumption) ?rest99
                      case hy99 => (intro wS hSw; (try dsimp only at hSw); go_simp; (try with_reducible rfl))
                      (try simp only [Act.put, zA, zB, zC])
                      refine wpAnyH_take (i := 7) (oi := ⟨some 97, _, _, _, _, none⟩) (v := ?v100) rfl (by kernel_rfl) (by kernel_rfl) (by kernel_rfl) (fun _ _ _ h => h) (Or.inl ⟨by rfl, ?hy100⟩) (by assumption) ?rest100
                      case hy100 => (intro wS hSw; (try dsimp only at hSw); go_simp; (try with_reducible rfl))
                      (try simp only [Act.put, zA, zB, zC])
                      refine wpAnyH_take (i := 8) (oi := ⟨some 98, _, _, _, _, none⟩) (v := ?v101) rfl (by kernel_rfl) (by kernel_rfl) (by kernel_rfl) (fun _ _ _ h => h) (Or.inl ⟨by rfl, ?hy101⟩) (by assumption) ?rest101
                      case hy101 => (intro wS hSw; (try dsimp only at hSw); go_simp; (try with_reducible rfl))
                      (try simp only [Act.put, zA, zB, zC])
                      refine wpAnyH_take (i := 9) (oi := ⟨some 99, _, _, _, _, none⟩) (v := ?v102) rfl (by kernel_rfl) (by kernel_rfl) (by kernel_rfl) (fun _ _ _ h => h) (Or.inl ⟨by rfl, ?hy102⟩) (by assumption) ?rest102
                      case hy102 => (intro wS hSw; (try dsimp only at hSw); go_simp; (try with_reducible rfl))
                      (try simp only [Act.put, zA, zB, zC])
                      refine wpAnyH_take (i := 10) (oi := ⟨some 100, _, _, _, _, none⟩) (v := ?v103) rfl (by kernel_rfl) (by kernel_rfl) (by kernel_rfl) (fun _ _ _ h => h) (Or.inl ⟨by rfl, ?hy103⟩) (by assumption) ?rest103
                      case hy103 => (intro wS hSw; (try dsimp only at hSw); go_simp; (try with_reducible rfl))
                      (try simp only [Act.put, zA, zB, zC])
                      refine wpAnyH_take (i := 11) (oi := ⟨some 101, _, _, _, _, none⟩) (v := ?v104) rfl (by kernel_rfl) (by kernel_rfl) (by kernel_rfl) (fun _ _ _ h => h) (Or.inl ⟨by rfl, ?hy104⟩) (by assumption) ?rest104
                      case hy104 => (intro wS hSw; (try dsimp only at hSw); go_simp; (try with_reducible rfl))
                      (try simp only [Act.put, zA, zB, zC])
                      refine wpAnyH_done (by kernel_rfl) ?_ _
                      have FMV := Lib.hid (FM.out.trans FV)
                      have HMV := Lib.hid (HM.out.non FV)
                      have hB3v : B3 ≤ V.heap.size := by have := FV.size; omega
                      clear hHeld t0 t1 t2 k0 k1 k2
                      clear FV
                      go_wp2_with (at_builtin; refine wpList_pushG el_rows slV_one rfl (.tmp 102) (.tmp 107) rfl B3 _ (E.map Prod.fst) rfl HMV.out (.slice (some ar) r.length hc) ⟨some ar, r.length, hc⟩ rfl (by rfl) (by have := HDm.out; omega) hB3v ?_; intro y6 w6 HY6 f6)
                      have F6 := Lib.hid (FMV.out.fresh f6 (fun z e => by have := (HMV.out.lt z e).1; have := HB3.out; omega))
                      go_roundw
                      case rel => exact ⟨k + 1, by omega, by go_num, by rw [HMm.out, List.map_append]; exact HY6, F6⟩
                      case measure => simp [intOf]; omega
                  · have hke : k = SP.length := by omega
                    have FQ1 := Lib.hid ((F1K.out.trans FI.out).trans FM.out)
                    have FQw := Lib.hid (FR.out.trans FQ1.out)
                    have HMr : Hid (Rs wq _ (S.filter fun r => ceq (cby r) c)) := Lib.hid (by
                      have h1 := HM.out
                      rw [hke] at h1
                      have h2 := rs_ofp h1.vs (fun q hq => ((HSm.out q (psF_mem hq).1).1).non FQw.out)
                      rw [psF_end, hS.out] at h2
                      exact h2)
                    have HMl : Hid ((S.filter fun r => ceq (cby r) c).length ≤ 100000) := Lib.hid (Nat.le_trans (List.length_filter_le _ _) HSl.out)
                    have HMs : Hid (∀ r ∈ S.filter (fun r => ceq (cby r) c), rowB cols r = true) := Lib.hid (fun r hr => HSr.out r (List.mem_filter.1 hr).1)
                    have HV := Lib.hid (fun W (hf : Fr Non wq W) => HVa.out _ _ W (FQw.out.trans hf) (HMr.out.non hf) HMs.out HMl.out)
                    have HVVl := Lib.hid (HVl.out (S.filter fun r => ceq (cby r) c))
                    generalize va (S.filter fun r => ceq (cby r) c) = VV at *
                    have QBq : Hid (QB wq b ⟨tab, qc, ⟨⟨wo, wc, wm, ⟨wn, wi, wt⟩, wk, wp⟩, wks⟩, aggs, by_⟩ (.slice cA qc.length cc) ⟨sA, sn, sc⟩ (.slice gA aggs.length gc)) := Lib.hid (QBK.out.fr (FI.out.trans FM.out) (fun e => e))
                    have hpb : b < B2 := by have := QBK.out.lt; have := HB2.out; omega
                    have hpk : (ak.add (i * 3)).block < B2 := by have := World.block_lt_of_cell? _ _ HK0.out; have := HB2.out; omega
                    obtain ⟨b0, b1, b2, b3, b4, b5, b6, b7, b8, b9, b10, b11, b12⟩ := qB_cells QBq.out
                    dsimp only [Pd.hd, Pd.kids] at b0 b1 b2 b3 b4 b5 b6 b7 b8 b9 b10 b11 b12
                    have k0 := (FI.out.trans FM.out).at0 HK0.out
                    have k1 := (FI.out.trans FM.out).at0 HK1.out
                    have k2 := (FI.out.trans FM.out).at0 HK2.out
                    have HOutq := Lib.hid (HOut.out.non FM.out)
                    have FIq := Lib.hid (FI.out.trans FM.out)
                    obtain ⟨Ay, cy, hyv⟩ := HM.out.shape
                    obtain ⟨cn, ci, ct⟩ := c
                    dsimp only at k0 k1 k2
                    have HB2q : Hid (B2 ≤ wq.heap.size) := Lib.hid (by have := FIq.out.size; have := HB2.out; omega)
                    rw [List.length_map] at hyv
                    subst hyv
                    clear hke HMr HM
                    go_wp2
                    obtain ⟨V, hV⟩ : ∃ V, V = wq.drew := ⟨_, rfl⟩
                    refine wp_region_held_drew (S := (fun W' => W'.cell? ⟨b, 0, none⟩ = some (.string ⟨tab.toArray⟩) ∧ W'.cell? ⟨b, 1, none⟩ = some (.slice cA qc.length cc) ∧ W'.cell? ⟨b, 2, none⟩ = some (.int .i64 wo) ∧ W'.cell? ⟨b, 3, none⟩ = some (.string ⟨wc.toArray⟩) ∧ W'.cell? ⟨b, 4, none⟩ = some (.int .i64 wm) ∧ W'.cell? ⟨b, 5, none⟩ = some (.bool wn) ∧ W'.cell? ⟨b, 6, none⟩ = some (.int .i64 wi) ∧ W'.cell? ⟨b, 7, none⟩ = some (.string ⟨wt.toArray⟩) ∧ W'.cell? ⟨b, 8, none⟩ = some (.int .i64 wk) ∧ W'.cell? ⟨b, 9, none⟩ = some (.string ⟨wp.toArray⟩) ∧ W'.cell? ⟨b, 10, none⟩ = some (.slice sA sn sc) ∧ W'.cell? ⟨b, 11, none⟩ = some (.slice gA aggs.length gc) ∧ W'.cell? ⟨b, 12, none⟩ = some (.string ⟨by_.toArray⟩) ∧ W'.cell? (ak.add (i * 3)) = some (.bool cn) ∧ W'.cell? { block := (ak.add (i * 3)).block, off := (ak.add (i * 3)).off + 1 } = some (.int .i64 ci) ∧ W'.cell? { block := (ak.add (i * 3)).block, off := (ak.add (i * 3)).off + 2 } = some (.string ⟨ct.toArray⟩))) (by kernel_rfl) (by exact ⟨b0, b1, b2, b3, b4, b5, b6, b7, b8, b9, b10, b11, b12, k0, k1, k2⟩) (fun hHeld => ?_)
                    rw [← hV]
                    rw [← hV] at hHeld
                    have FV : Fr Non wq V := by rw [hV]; exact (Fr.refl Non _).drew
                    clear hV
                    replace b0 := FV.at0 b0
                    replace b1 := FV.at0 b1
                    replace b2 := FV.at0 b2
                    replace b3 := FV.at0 b3
                    replace b4 := FV.at0 b4
                    replace b5 := FV.at0 b5
                    replace b6 := FV.at0 b6
                    replace b7 := FV.at0 b7
                    replace b8 := FV.at0 b8
                    replace b9 := FV.at0 b9
                    replace b10 := FV.at0 b10
                    replace b11 := FV.at0 b11
                    replace b12 := FV.at0 b12
                    replace k0 := FV.at0 k0
                    replace k1 := FV.at0 k1
                    replace k2 := FV.at0 k2
                    have HOut28 := Lib.hid (HOutq.out.non FV)
                    have FIV := Lib.hid (FIq.out.trans FV)
                    have HVV := Lib.hid (fun W (hf : Fr Non V W) => HV.out W (FV.trans hf))
                    obtain ⟨BV, hBV⟩ : ∃ B, V.heap.size = B := ⟨_, rfl⟩
                    have HBV := Lib.hid hBV
                    have HB2V : Hid (B2 ≤ BV) := Lib.hid (by have := HB2q.out; have := FV.size; omega)
                    clear hBV HOutq FIq HV
                    refine wpAnyH_take (i := 0) (oi := ⟨some 109, _, _, _, _, none⟩) (v := ?v105) rfl (by kernel_rfl) (by kernel_rfl) (by kernel_rfl) (fun _ _ _ h => h) (Or.inl ⟨by rfl, ?hy105⟩) (by assumption) ?rest105
                    case hy105 => (intro wS hSw; (try dsimp only at hSw); go_simp; (try with_reducible rfl))
                    (try simp only [Act.put, zA, zB, zC])
                    refine wpAnyH_take (i := 1) (oi := ⟨some 110, _, _, _, _, none⟩) (v := ?v106) rfl (by kernel_rfl) (by kernel_rfl) (by kernel_rfl) (fun _ _ _ h => h) (Or.inl ⟨by rfl, ?hy106⟩) (by assumption) ?rest106
                    case hy106 => (intro wS hSw; (try dsimp only at hSw); go_simp; (try with_reducible rfl))
                    (try simp only [Act.put, zA, zB, zC])
                    refine wpAnyH_take (i := 2) (oi := ⟨some 111, _, _, _, _, none⟩) (v := ?v107) rfl (by kernel_rfl) (by kernel_rfl) (by kernel_rfl) (fun _ _ _ h => h) (Or.inl ⟨by rfl, ?hy107⟩) (by assumption) ?rest107
                    case hy107 => (intro wS hSw; (try dsimp only at hSw); go_simp; (try with_reducible rfl))
                    (try simp only [Act.put, zA, zB, zC])
                    refine wpAnyH_take (i := 3) (oi := ⟨some 112, _, _, _, _, none⟩) (v := ?v108) rfl (by kernel_rfl) (by kernel_rfl) (by kernel_rfl) (fun _ _ _ h => h) (Or.inl ⟨by rfl, ?hy108⟩) (by assumption) ?rest108
                    case hy108 => (intro wS hSw; (try dsimp only at hSw); go_simp; (try with_reducible rfl))
                    (try simp only [Act.put, zA, zB, zC])
                    refine wpAnyH_take (i := 4) (oi := ⟨some 113, _, _, _, _, none⟩) (v := ?v109) rfl (by kernel_rfl) (by kernel_rfl) (by kernel_rfl) (fun _ _ _ h => h) (Or.inl ⟨by rfl, ?hy109⟩) (by assumption) ?rest109
                    case hy109 => (intro wS hSw; (try dsimp only at hSw); go_simp; (try with_reducible rfl))
                    (try simp only [Act.put, zA, zB, zC])
                    refine wpAnyH_take (i := 6) (oi := ⟨some 115, _, _, _, _, none⟩) (v := ?v110) rfl (by kernel_rfl) (by kernel_rfl) (by kernel_rfl) (fun _ _ _ h => h) (Or.inl ⟨by rfl, ?hy110⟩) (by assumption) ?rest110
                    case hy110 => (intro wS hSw; (try dsimp only at hSw); go_simp; (try with_reducible rfl))
                    (try simp only [Act.put, zA, zB, zC])
                    refine wpAnyH_take (i := 7) (oi := ⟨some 116, _, _, _, _, none⟩) (v := ?v111) rfl (by kernel_rfl) (by kernel_rfl) (by kernel_rfl) (fun _ _ _ h => h) (Or.inl ⟨by rfl, ?hy111⟩) (by assumption) ?rest111
                    case hy111 => (intro wS hSw; (try dsimp only at hSw); go_simp; (try with_reducible rfl))
                    (try simp only [Act.put, zA, zB, zC])
                    refine wpAnyH_take (i := 8) (oi := ⟨some 117, _, _, _, _, none⟩) (v := ?v112) rfl (by kernel_rfl) (by kernel_rfl) (by kernel_rfl) (fun _ _ _ h => h) (Or.inl ⟨by rfl, ?hy112⟩) (by assumption) ?rest112
                    case hy112 => (intro wS hSw; (try dsimp only at hSw); go_simp; (try with_reducible rfl))
                    (try simp only [Act.put, zA, zB, zC])
                    refine wpAnyH_ready (rs := [5, 9]) (by kernel_rfl) (by simp) ?_
                    refine AllReadyH.cons (o := ⟨some 114, _, _, _, _, none⟩) rfl (fun K hK => ?_) ?_
                    · have FV0 : Fr Non V V := Fr.refl _ _
                      obtain ⟨H, hH⟩ : ∃ H, V.heap.size = H := ⟨_, rfl⟩
                      obtain ⟨X5, hX5⟩ : ∃ W, W = V.alloc (.cells #[.bool cn, .int .i64 ci, .string ⟨ct.toArray⟩] 25) := ⟨_, rfl⟩
                      have HL : Oc X5 BV (.slice (some ⟨H, 0, none⟩) 1 1) [⟨cn, ci, ct⟩] := by rw [hX5]; exact oc_lit V BV H [⟨cn, ci, ct⟩] _ rfl hH.symm (by have := HBV.out; have := FV0.size; omega) (by simp)
                      have fs : Fr Non V X5 := by rw [hX5]; exact (Fr.refl Non _).alloc _
                      have G5 : Fr Non V X5 := FV0.trans fs
                      go_simp
                      rw [← hX5]
                      clear hX5
                      refine hK.out _ _ (by exact ⟨G5.at0 b0, G5.at0 b1, G5.at0 b2, G5.at0 b3, G5.at0 b4, G5.at0 b5, G5.at0 b6, G5.at0 b7, G5.at0 b8, G5.at0 b9, G5.at0 b10, G5.at0 b11, G5.at0 b12, G5.at0 k0, G5.at0 k1, G5.at0 k2⟩) (fun hHeld => ?_)
                      clear hK K fs
                      (try simp only [Act.put, zA, zB, zC])
                      refine wpAnyH_ready (rs := [9]) (by kernel_rfl) (by simp) ?_
                      refine AllReadyH.cons (o := ⟨some 118, _, _, _, _, none⟩) rfl (fun K hK => ?_) AllReadyH.nil
                      go_simp
                      go_at_call 29
                      refine (HVV.out _ G5).mono ?_
                      rintro e X9 ⟨u, rfl, hu, fs⟩
                      obtain ⟨uA, uc, hue⟩ := hu.shape
                      subst hue
                      have G9 : Fr Non V X9 := G5.trans fs
                      have HL9 := HL.non fs
                      go_wp2_with fail
                      refine hK.out _ _ (by exact ⟨G9.at0 b0, G9.at0 b1, G9.at0 b2, G9.at0 b3, G9.at0 b4, G9.at0 b5, G9.at0 b6, G9.at0 b7, G9.at0 b8, G9.at0 b9, G9.at0 b10, G9.at0 b11, G9.at0 b12, G9.at0 k0, G9.at0 k1, G9.at0 k2⟩) (fun hHeld => ?_)
                      clear hK K
                      (try simp only [Act.put, zA, zB, zC])
                      have HV0 : Oc X9 BV (.slice (some ⟨H, 0, none⟩) 1 1) [⟨cn, ci, ct⟩] := HL9
                      refine wpAnyH_ready (rs := [10]) (by kernel_rfl) (by simp) ?_
                      refine AllReadyH.cons (o := ⟨some 119, _, _, _, _, none⟩) rfl (fun K hK => ?_) AllReadyH.nil
                      refine wp_appC (.tmp 114) (.tmp 118) rfl BV _ (.slice uA VV.length uc) [⟨cn, ci, ct⟩] VV rfl HV0 rfl hu.cs (by have := HVVl.out; simp; omega) (by have := G9.size; have := HBV.out; omega) ?_
                      intro v10 X10 HV10 f10
                      have G10 : Fr Non V X10 := G9.fresh f10 (fun z e => by have := (HV0.lt z e).1; have := HBV.out; omega)
                      obtain ⟨vA, vc, hve⟩ := HV10.shape
                      subst hve
                      refine hK.out _ _ (by exact ⟨G10.at0 b0, G10.at0 b1, G10.at0 b2, G10.at0 b3, G10.at0 b4, G10.at0 b5, G10.at0 b6, G10.at0 b7, G10.at0 b8, G10.at0 b9, G10.at0 b10, G10.at0 b11, G10.at0 b12, G10.at0 k0, G10.at0 k1, G10.at0 k2⟩) (fun hHeld => ?_)
                      clear hK K HV0
                      (try simp only [Act.put, zA, zB, zC])
                      refine wpAnyH_ready (rs := [11]) (by kernel_rfl) (by simp) ?_
                      refine AllReadyH.cons (o := ⟨some 120, _, _, _, _, none⟩) rfl (fun K hK => ?_) AllReadyH.nil
                      have G11 : Fr Non V (X10.alloc (.cells #[.slice vA ([(⟨cn, ci, ct⟩ : Cl)] ++ VV).length vc] 47)) := G10.alloc _
                      go_simp
                      refine hK.out _ _ (by exact ⟨G11.at0 b0, G11.at0 b1, G11.at0 b2, G11.at0 b3, G11.at0 b4, G11.at0 b5, G11.at0 b6, G11.at0 b7, G11.at0 b8, G11.at0 b9, G11.at0 b10, G11.at0 b11, G11.at0 b12, G11.at0 k0, G11.at0 k1, G11.at0 k2⟩) (fun hHeld => ?_)
                      clear hK K
                      (try simp only [Act.put, zA, zB, zC])
                      refine wpAnyH_ready (rs := [12]) (by kernel_rfl) (by simp) ?_
                      refine AllReadyH.cons (o := ⟨some 121, _, _, _, _, none⟩) rfl (fun K hK => ?_) AllReadyH.nil
                      have HOX : Ro X10 B2 _ D := HOut28.out.non G10
                      refine wp_pushRo (.tmp 109) (.tmp 120) rfl B2 _ D rfl HOX (.slice vA ([(⟨cn, ci, ct⟩ : Cl)] ++ VV).length vc) ([(⟨cn, ci, ct⟩ : Cl)] ++ VV) (HV10.mono (by have := HBV.out; have := HB2V.out; omega)) rfl (by have := HDl.out; omega) (by have := G10.size; have := HBV.out; have := HB2V.out; omega) ?_
                      intro x12 X12 HX12 f12
                      have G12 : Fr Non V X12 → True := fun _ => trivial
                      have F12 := Lib.hid ((FIV.out.trans G10).fresh f12 (fun z e => by have := (HOX.lt z e).1; have := HB2.out; omega))
                      have keep12 : ∀ {p : Addr} {u : Value}, X10.cell? p = some u → p.block < B2 → X12.cell? p = some u := fun {p u} e hp => (f12.cell (World.block_lt_of_cell? _ _ e) (fun e2 => by have := (HOX.lt _ e2).1; omega)).trans e
                      refine hK.out _ _ (by exact ⟨keep12 (G10.at0 b0) hpb, keep12 (G10.at0 b1) hpb, keep12 (G10.at0 b2) hpb, keep12 (G10.at0 b3) hpb, keep12 (G10.at0 b4) hpb, keep12 (G10.at0 b5) hpb, keep12 (G10.at0 b6) hpb, keep12 (G10.at0 b7) hpb, keep12 (G10.at0 b8) hpb, keep12 (G10.at0 b9) hpb, keep12 (G10.at0 b10) hpb, keep12 (G10.at0 b11) hpb, keep12 (G10.at0 b12) hpb, keep12 (G10.at0 k0) hpk, keep12 (G10.at0 k1) hpk, keep12 (G10.at0 k2) hpk⟩) (fun hHeld => ?_)
                      clear hK K
                      (try simp only [Act.put, zA, zB, zC])
                      refine wpAnyH_take (i := 13) (oi := ⟨some 13, _, _, _, _, none⟩) (v := ?v113) rfl (by kernel_rfl) (by kernel_rfl) (by kernel_rfl) (fun _ _ _ h => h) (Or.inl ⟨by rfl, ?hy113⟩) (by assumption) ?rest113
                      case hy113 => (intro wS hSw; (try dsimp only at hSw); go_simp; (try with_reducible rfl))
                      (try simp only [Act.put, zA, zB, zC])
                      refine wpAnyH_done (by kernel_rfl) ?_ _
                      have HX12h := Lib.hid HX12
                      clear hHeld HX12 f12 keep12 G10 G11 G12 HOX HV10 b0 b1 b2 b3 b4 b5 b6 b7 b8 b9 b10 b11 b12 k0 k1 k2
                      obtain ⟨A12, c12, hv12⟩ := HX12h.out.shape
                      subst hv12
                      go_wp2
                      go_roundw
                      case rel => exact ⟨i + 1, by omega, by go_num, by rw [HMo.out, ← HFc.out]; exact HX12h.out, F12⟩
                      case measure => simp [intOf]; omega
                    · refine AllReadyH.cons (o := ⟨some 118, _, _, _, _, none⟩) rfl (fun K hK => ?_) AllReadyH.nil
                      have FV0 : Fr Non V V := Fr.refl _ _
                      go_simp
                      go_at_call 29
                      refine (HVV.out _ FV0).mono ?_
                      rintro e X9 ⟨u, rfl, hu, fs⟩
                      obtain ⟨uA, uc, hue⟩ := hu.shape
                      subst hue
                      have G9 : Fr Non V X9 := FV0.trans fs
                      go_wp2_with fail
                      refine hK.out _ _ (by exact ⟨G9.at0 b0, G9.at0 b1, G9.at0 b2, G9.at0 b3, G9.at0 b4, G9.at0 b5, G9.at0 b6, G9.at0 b7, G9.at0 b8, G9.at0 b9, G9.at0 b10, G9.at0 b11, G9.at0 b12, G9.at0 k0, G9.at0 k1, G9.at0 k2⟩) (fun hHeld => ?_)
                      clear hK K
                      (try simp only [Act.put, zA, zB, zC])
                      clear fs
                      refine wpAnyH_ready (rs := [5]) (by kernel_rfl) (by simp) ?_
                      refine AllReadyH.cons (o := ⟨some 114, _, _, _, _, none⟩) rfl (fun K hK => ?_) AllReadyH.nil
                      obtain ⟨H, hH⟩ : ∃ H, X9.heap.size = H := ⟨_, rfl⟩
                      obtain ⟨X5, hX5⟩ : ∃ W, W = X9.alloc (.cells #[.bool cn, .int .i64 ci, .string ⟨ct.toArray⟩] 25) := ⟨_, rfl⟩
                      have HL : Oc X5 BV (.slice (some ⟨H, 0, none⟩) 1 1) [⟨cn, ci, ct⟩] := by rw [hX5]; exact oc_lit X9 BV H [⟨cn, ci, ct⟩] _ rfl hH.symm (by have := HBV.out; have := G9.size; omega) (by simp)
                      have fs : Fr Non X9 X5 := by rw [hX5]; exact (Fr.refl Non _).alloc _
                      have G5 : Fr Non V X5 := G9.trans fs
                      have hu5 := hu.non fs
                      go_simp
                      rw [← hX5]
                      clear hX5
                      refine hK.out _ _ (by exact ⟨G5.at0 b0, G5.at0 b1, G5.at0 b2, G5.at0 b3, G5.at0 b4, G5.at0 b5, G5.at0 b6, G5.at0 b7, G5.at0 b8, G5.at0 b9, G5.at0 b10, G5.at0 b11, G5.at0 b12, G5.at0 k0, G5.at0 k1, G5.at0 k2⟩) (fun hHeld => ?_)
                      clear hK K fs
                      (try simp only [Act.put, zA, zB, zC])
                      have HV0 : Oc X5 BV (.slice (some ⟨H, 0, none⟩) 1 1) [⟨cn, ci, ct⟩] := HL
                      refine wpAnyH_ready (rs := [10]) (by kernel_rfl) (by simp) ?_
                      refine AllReadyH.cons (o := ⟨some 119, _, _, _, _, none⟩) rfl (fun K hK => ?_) AllReadyH.nil
                      refine wp_appC (.tmp 114) (.tmp 118) rfl BV _ (.slice uA VV.length uc) [⟨cn, ci, ct⟩] VV rfl HV0 rfl hu5.cs (by have := HVVl.out; simp; omega) (by have := G5.size; have := HBV.out; omega) ?_
                      intro v10 X10 HV10 f10
                      have G10 : Fr Non V X10 := G5.fresh f10 (fun z e => by have := (HV0.lt z e).1; have := HBV.out; omega)
                      obtain ⟨vA, vc, hve⟩ := HV10.shape
                      subst hve
                      refine hK.out _ _ (by exact ⟨G10.at0 b0, G10.at0 b1, G10.at0 b2, G10.at0 b3, G10.at0 b4, G10.at0 b5, G10.at0 b6, G10.at0 b7, G10.at0 b8, G10.at0 b9, G10.at0 b10, G10.at0 b11, G10.at0 b12, G10.at0 k0, G10.at0 k1, G10.at0 k2⟩) (fun hHeld => ?_)
                      clear hK K HV0
                      (try simp only [Act.put, zA, zB, zC])
                      refine wpAnyH_ready (rs := [11]) (by kernel_rfl) (by simp) ?_
                      refine AllReadyH.cons (o := ⟨some 120, _, _, _, _, none⟩) rfl (fun K hK => ?_) AllReadyH.nil
                      have G11 : Fr Non V (X10.alloc (.cells #[.slice vA ([(⟨cn, ci, ct⟩ : Cl)] ++ VV).length vc] 47)) := G10.alloc _
                      go_simp
                      refine hK.out _ _ (by exact ⟨G11.at0 b0, G11.at0 b1, G11.at0 b2, G11.at0 b3, G11.at0 b4, G11.at0 b5, G11.at0 b6, G11.at0 b7, G11.at0 b8, G11.at0 b9, G11.at0 b10, G11.at0 b11, G11.at0 b12, G11.at0 k0, G11.at0 k1, G11.at0 k2⟩) (fun hHeld => ?_)
                      clear hK K
                      (try simp only [Act.put, zA, zB, zC])
                      refine wpAnyH_ready (rs := [12]) (by kernel_rfl) (by simp) ?_
                      refine AllReadyH.cons (o := ⟨some 121, _, _, _, _, none⟩) rfl (fun K hK => ?_) AllReadyH.nil
                      have HOX : Ro X10 B2 _ D := HOut28.out.non G10
                      refine wp_pushRo (.tmp 109) (.tmp 120) rfl B2 _ D rfl HOX (.slice vA ([(⟨cn, ci, ct⟩ : Cl)] ++ VV).length vc) ([(⟨cn, ci, ct⟩ : Cl)] ++ VV) (HV10.mono (by have := HBV.out; have := HB2V.out; omega)) rfl (by have := HDl.out; omega) (by have := G10.size; have := HBV.out; have := HB2V.out; omega) ?_
                      intro x12 X12 HX12 f12
                      have G12 : Fr Non V X12 → True := fun _ => trivial
                      have F12 := Lib.hid ((FIV.out.trans G10).fresh f12 (fun z e => by have := (HOX.lt z e).1; have := HB2.out; omega))
                      have keep12 : ∀ {p : Addr} {u : Value}, X10.cell? p = some u → p.block < B2 → X12.cell? p = some u := fun {p u} e hp => (f12.cell (World.block_lt_of_cell? _ _ e) (fun e2 => by have := (HOX.lt _ e2).1; omega)).trans e
                      refine hK.out _ _ (by exact ⟨keep12 (G10.at0 b0) hpb, keep12 (G10.at0 b1) hpb, keep12 (G10.at0 b2) hpb, keep12 (G10.at0 b3) hpb, keep12 (G10.at0 b4) hpb, keep12 (G10.at0 b5) hpb, keep12 (G10.at0 b6) hpb, keep12 (G10.at0 b7) hpb, keep12 (G10.at0 b8) hpb, keep12 (G10.at0 b9) hpb, keep12 (G10.at0 b10) hpb, keep12 (G10.at0 b11) hpb, keep12 (G10.at0 b12) hpb, keep12 (G10.at0 k0) hpk, keep12 (G10.at0 k1) hpk, keep12 (G10.at0 k2) hpk⟩) (fun hHeld => ?_)
                      clear hK K
                      (try simp only [Act.put, zA, zB, zC])
                      refine wpAnyH_take (i := 13) (oi := ⟨some 13, _, _, _, _, none⟩) (v := ?v114) rfl (by kernel_rfl) (by kernel_rfl) (by kernel_rfl) (fun _ _ _ h => h) (Or.inl ⟨by rfl, ?hy114⟩) (by assumption) ?rest114
                      case hy114 => (intro wS hSw; (try dsimp only at hSw); go_simp; (try with_reducible rfl))
                      (try simp only [Act.put, zA, zB, zC])
                      refine wpAnyH_done (by kernel_rfl) ?_ _
                      have HX12h := Lib.hid HX12
                      clear hHeld HX12 f12 keep12 G10 G11 G12 HOX HV10 b0 b1 b2 b3 b4 b5 b6 b7 b8 b9 b10 b11 b12 k0 k1 k2
                      obtain ⟨A12, c12, hv12⟩ := HX12h.out.shape
                      subst hv12
                      go_wp2
                      go_roundw
                      case rel => exact ⟨i + 1, by omega, by go_num, by rw [HMo.out, ← HFc.out]; exact HX12h.out, F12⟩
                      case measure => simp [intOf]; omega
              · have hke : i = KS.length := by omega
                rw [hke, List.take_length] at HOut
                have HGE2 := HGE.out
                clear hke
                go_wp2
                go_ret2
                exact ⟨_, by rw [HE.out]; first | done | rfl, by rw [HE.out, HGE2]; exact HOut.out.mono (by have := FK.out.size; have := HB2.out; have := HB.out; omega), FK.out.trans FI.out⟩
  · have hzb : (z != 0) = true := by simpa using hz
    have HE := Lib.hid (HE0.out hz)
    go_wp2
    go_ret2
    exact ⟨_, by rw [HE.out]; first | done | rfl, by rw [HE.out]; exact ro_nil _ _, F0.out⟩
end Go.Proofs.YtjcfjjhhbcgcmaaGreat

namespace Go.Proofs.YtjcfjjhhbcgcmaaGreat
def byteOf : List Bool → Nat
  | [] => 0
  | b :: l => b.toNat + 2 * byteOf l
def need (n : Nat) : Nat := (n + 7) / 8
def pkn (l : List Bool) (p j : Nat) : Nat := byteOf (((l.take p).drop (8 * j)).take 8)
def pk (l : List Bool) (p : Nat) : List UInt8 := (List.range (need l.length)).map fun j => (pkn l p j).toUInt8
def cnt (l : List Bool) : Nat := (l.filter id).length
end Go.Proofs.YtjcfjjhhbcgcmaaGreat

namespace Go.Proofs.YtjcfjjhhbcgcmaaGreat
open Go.RowKit
theorem ret_bool {a b : Bool} (h : a = b) : Ending.returned (.bool a) = .returned (.bool b) := by rw [h]
theorem take_ne {α : Type} [DecidableEq α] {a b : List α} {k : Nat} (hk : k < a.length) (hk2 : k < b.length) (h : a[k] ≠ b[k]) : a ≠ b := by
  intro e; subst e; exact h rfl
theorem take_eq_succ {α : Type} {a b : List α} {k : Nat} (hk : k < a.length) (hk2 : k < b.length) (h : a.take k = b.take k) (he : a[k] = b[k]) : a.take (k + 1) = b.take (k + 1) := by
  rw [List.take_succ_eq_append_getElem hk, List.take_succ_eq_append_getElem hk2, h, he]
set_option maxHeartbeats 1000000 in
theorem ints_any (v1 v2 : Value) (l1 l2 : List Int) (w : World) (h1 : Vs iv w v1 l1) (h2 : Vs iv w v2 l2) (hl1 : l1.length ≤ 9223372036854775807) (hl2 : l2.length ≤ 9223372036854775807) :
    Calls Tryz.prog 13 #[v1, v2] w fun e w' => e = .returned (.bool (l1 == l2)) ∧ Fr Non w w' := by
  obtain ⟨A1, c1, rfl, hc1, hn1, hcell1⟩ := h1
  obtain ⟨A2, c2, rfl, hc2, hn2, hcell2⟩ := h2
  have HN1 := Lib.hid hn1
  have HN2 := Lib.hid hn2
  have HC1 := Lib.hid hcell1
  have HC2 := Lib.hid hcell2
  clear hn1 hn2 hcell1 hcell2
  by_cases hlen : l1.length = l2.length
  · have HL := Lib.hid hlen
    have hb : ((l1.length : Int) != l2.length) = false := by rw [hlen]; simp
    have hle : l1.length ≤ l2.length := by omega
    have hge : l2.length ≤ l1.length := by omega
    clear hlen
    go_enter Tryz.func13, Tryz.ntmps13
    go_wp2
    go_loopw [5] (fun i wr => ∃ k : Nat, k ≤ l1.length ∧ i = .int .i64 k ∧ Hid (l1.take k = l2.take k) ∧ ∃ n, wr = w.drewN n) (fun i _ => l1.length - (intOf i).toNat)
    case atStart => exact ⟨0, Nat.zero_le _, rfl, Lib.hid rfl, 0, rfl⟩
    case round =>
      obtain ⟨k, hk, rfl, HT, n, rfl⟩ := hrel
      by_cases hlt : k < l1.length
      · cases A1 with
        | none => have := HN1.out rfl; omega
        | some a1 =>
          cases A2 with
          | none => have := HN2.out rfl; omega
          | some a2 =>
            have g1 : w.cell? (a1.add k) = some (iv l1[k]) := HC1.out a1 rfl k hlt
            have g2 : w.cell? (a2.add k) = some (iv (l2[k]'(by omega))) := HC2.out a2 rfl k (by omega)
            unfold iv at g1 g2
            by_cases he : l1[k] = l2[k]'(by omega)
            · have HE := Lib.hid (take_eq_succ hlt (by omega) HT.out he)
              rw [← he] at g2
              clear he
              generalize l1[k] = x at *
              have hx : (x != x) = false := by simp
              go_wp2
              go_quiet (fail)
              go_wp2
              go_roundw
              case rel => exact ⟨k + 1, by omega, by go_num, HE, _, rfl⟩
              case measure => simp [intOf]; omega
            · have HE := Lib.hid (take_ne hlt (by omega) he)
              have hx : (l1[k] != l2[k]'(by omega)) = true := by rw [bne_iff_ne]; exact he
              clear he
              generalize l1[k] = x at *
              generalize l2[k]'(by omega) = y at *
              go_wp2
              go_quiet (fail)
              go_wp2
              go_ret
              exact ⟨ret_bool (beq_eq_false_iff_ne.2 HE.out).symm, ((Fr.refl _ _).drewN _).drewN _⟩
      · have HE : Hid (l1 = l2) := Lib.hid (by
          have := HT.out
          rwa [List.take_of_length_le (by omega), List.take_of_length_le (by omega)] at this)
        go_wp2
        go_ret
        exact ⟨ret_bool (beq_iff_eq.2 HE.out).symm, (Fr.refl _ _).drewN _⟩
  · have hb : ((l1.length : Int) != l2.length) = true := by rw [bne_iff_ne]; omega
    have HE : Hid (l1 ≠ l2) := Lib.hid (fun e => hlen (by rw [e]))
    clear hlen
    go_enter Tryz.func13, Tryz.ntmps13
    go_wp2
    go_ret
    exact ⟨ret_bool (beq_eq_false_iff_ne.2 HE.out).symm, Fr.refl _ _⟩
end Go.Proofs.YtjcfjjhhbcgcmaaGreat

namespace Go.Proofs.YtjcfjjhhbcgcmaaGreat
open Go.RowKit
set_option maxHeartbeats 8000000 in
theorem dtyps_any (v0 : Value) (cols : List Co) (q : Qy) (c : Value) (s : Kv) (g : Value) (w : World) (h0 : Ks w v0 cols) (hq : QyS w q c s g) (hcl : cols.length ≤ 1000) (hcb : ∀ c ∈ cols, c.name.length ≤ 1000) (hs : SmQ q) :
    Calls Tryz.prog 15 #[v0, qyV q c s g] w fun e w' => ∃ u, e = .returned u ∧ Vs iv w' u (typsG cols q) ∧ Fr Non w w' := by
  obtain ⟨A0, c0, hv0⟩ := h0.shape
  have hparts := fun e : fitQ cols q = 0 => fitQ_parts e
  have M1 : Hid (∀ W, Fr Non w W → Calls Tryz.prog 25 #[v0, qyV q c s g] W fun e w' => e = .returned (.int .i64 (fitQ cols q)) ∧ Fr Non W w') := Lib.hid (fun W hf => rqfits_any v0 cols q c s g W (h0.non hf) hcl hcb (hq.non hf) hs)
  have HFi : Hid (∀ n W, Fr Non w W → Calls Tryz.prog 30 #[v0, .string ⟨n.toArray⟩] W fun e w' => e = .returned (.int .i64 (findI (findC cols n))) ∧ Fr Non W w') := Lib.hid (fun n W hf => rfind_any v0 cols n W (h0.non hf) (by omega))
  have HKs := Lib.hid h0
  have HCs : Hid (Vs sv w c q.cols) := Lib.hid hq.cols
  have HAg : Hid (Gs w g q.aggs) := Lib.hid hq.aggs
  have HTN : Hid (∀ n k, findC cols n = some k → ∃ h : k < cols.length, tyN cols n = cols[k].ty) := Lib.hid (fun n k hf => by
    have hk := find_lt hf
    refine ⟨hk, ?_⟩
    unfold tyN; rw [hf]; dsimp only; rw [List.getD_eq_getElem?_getD, List.getElem?_eq_getElem hk]; rfl)
  have HN1 : Hid (fitQ cols q = 0 → ∀ k (h : k < q.cols.length), ∃ m, findC cols q.cols[k] = some m) := Lib.hid (fun e k h => (named_has (hparts e).2.2.2).1 _ (List.getElem_mem h))
  have HN2 : Hid (fitQ cols q = 0 → ∀ k (h : k < q.aggs.length), 4 ≤ q.aggs[k].op → ∃ m, findC cols q.aggs[k].col = some m) := Lib.hid (fun e k h h4 => (named_has (hparts e).2.2.2).2.1 _ (List.getElem_mem h) (by omega))
  have HN3 : Hid (fitQ cols q = 0 → q.by_ ≠ [] → ∃ m, findC cols q.by_ = some m) := Lib.hid (fun e hb => by
    refine (named_has (hparts e).2.2.2).2.2 hb ?_
    rcases mayQ_ways (hparts e).1 with ⟨_, h⟩ | ⟨h, _⟩
    · exact absurd h hb
    · unfold allQ; rw [decide_eq_false (show ¬ q.aggs.length = 0 by omega), Bool.and_false])
  have HE0 : Hid (¬ fitQ cols q = 0 → typsG cols q = []) := Lib.hid (fun e => if_neg e)
  have HE1 : Hid (fitQ cols q = 0 → typsG cols q = (if q.aggs.length = 0 ∧ q.cols.length = 0 then cols.map Co.ty else []) ++ q.cols.map (tyN cols) ++ (if q.by_ = [] then [] else [tyN cols q.by_]) ++ q.aggs.map (fun a => if 4 ≤ a.op then tyN cols a.col else 1)) := Lib.hid (fun e => if_pos e)
  have Q0 := Lib.hid (Qin.new hq)
  have hlc := hs.cols
  have hlg := hs.aggs
  subst hv0
  obtain ⟨cA, cc, hce⟩ := hq.cols.shape
  obtain ⟨gA, gc, hge⟩ := hq.aggs.shape
  clear hq hs hparts h0 hcb
  generalize typsG cols q = R at *
  generalize fitQ cols q = z at *
  generalize tyN cols = TN at *
  obtain ⟨tab, qc, ⟨⟨wo, wc, wm, ⟨wn, wi, wt⟩, wk, wp⟩, wks⟩, aggs, by_⟩ := q
  obtain ⟨sA, sn, sc⟩ := s
  dsimp only at hce hge hlc hlg
  subst hce hge
  unfold qyV at M1 ⊢
  unfold qyC at M1 ⊢
  unfold kidV at M1 ⊢
  dsimp only [Pd.hd, Pd.kids] at M1 HCs HAg HN1 HN2 HN3 HE1 ⊢
  obtain ⟨b, hb⟩ : ∃ b, w.heap.size = b := ⟨_, rfl⟩
  have QB0 : Hid (QB _ b ⟨tab, qc, ⟨⟨wo, wc, wm, ⟨wn, wi, wt⟩, wk, wp⟩, wks⟩, aggs, by_⟩ (.slice cA qc.length cc) ⟨sA, sn, sc⟩ (.slice gA aggs.length gc)) := Lib.hid (by have := Q0.out.blk; rw [hb] at this; exact this)
  have F0 := Lib.hid Q0.out.fr
  clear Q0
  unfold qyC kidV at QB0 F0
  dsimp only [Pd.hd, Pd.kids] at QB0 F0
  have HB := Lib.hid hb
  obtain ⟨b0, b1, b2, b3, b4, b5, b6, b7, b8, b9, b10, b11, b12⟩ := qB_cells QB0.out
  dsimp only [Pd.hd, Pd.kids] at b0 b1 b2 b3 b4 b5 b6 b7 b8 b9 b10 b11 b12
  go_enter Tryz.func15, Tryz.ntmps15
  go_wp2_with fail
  refine (M1.out _ F0.out).mono ?_
  rintro e w0 ⟨rfl, f0⟩
  replace QB0 : Hid (QB w0 b ⟨tab, qc, ⟨⟨wo, wc, wm, ⟨wn, wi, wt⟩, wk, wp⟩, wks⟩, aggs, by_⟩ (.slice cA qc.length cc) ⟨sA, sn, sc⟩ (.slice gA aggs.length gc)) := Lib.hid (QB0.out.fr f0 (fun e => e))
  replace F0 := Lib.hid (F0.out.trans f0)
  clear f0
  clear b0 b1 b2 b3 b4 b5 b6 b7 b8 b9 b10 b11 b12
  by_cases hz : z = 0
  · subst hz
    have hbs : b + 1 ≤ w0.heap.size := by have := QB0.out.lt; omega
    have HO0 : Hid (Ow iv 3 (w0.alloc (.cells #[] 3)) (b + 1) (.slice (some ⟨w0.heap.size, 0, none⟩) 0 0) []) := Lib.hid (ow_lit0 w0 (b + 1) w0.heap.size rfl hbs)
    have FF0 := Lib.hid (F0.out.alloc (.cells #[] 3))
    have QBB0 : Hid (QB (w0.alloc (.cells #[] 3)) b ⟨tab, qc, ⟨⟨wo, wc, wm, ⟨wn, wi, wt⟩, wk, wp⟩, wks⟩, aggs, by_⟩ (.slice cA qc.length cc) ⟨sA, sn, sc⟩ (.slice gA aggs.length gc)) := Lib.hid (QB0.out.fr ((Fr.refl Non _).alloc _) (fun e => e))
    clear QB0 F0 hb HE0 M1 hbs
    replace HE1 := Lib.hid (HE1.out rfl)
    replace HN1 := Lib.hid (HN1.out rfl)
    replace HN2 := Lib.hid (HN2.out rfl)
    replace HN3 := Lib.hid (HN3.out rfl)
    go_wp2
    go_loopw [5, 6] (fun x i wr => ∃ (k : Nat) (L : List Int), k ≤ cols.length ∧ i = .int .i64 k ∧ Ow iv 3 wr (b + 1) x L ∧ Hid (L.length ≤ k ∧ L = (if aggs.length = 0 ∧ qc.length = 0 then (cols.take k).map Co.ty else []) ∧ (¬ (aggs.length = 0 ∧ qc.length = 0) → k = 0)) ∧ Hid (QB wr b ⟨tab, qc, ⟨⟨wo, wc, wm, ⟨wn, wi, wt⟩, wk, wp⟩, wks⟩, aggs, by_⟩ (.slice cA qc.length cc) ⟨sA, sn, sc⟩ (.slice gA aggs.length gc)) ∧ Hid (Fr Non w wr)) (fun _ i _ => cols.length - (intOf i).toNat)
    case atStart => exact ⟨0, [], Nat.zero_le _, rfl, HO0.out, Lib.hid ⟨Nat.zero_le _, by split <;> rfl, fun _ => rfl⟩, QBB0, FF0⟩
    case round =>
      clear QBB0 FF0 HO0
      obtain ⟨k, L, hk, rfl, hO, HL, QB1, FR⟩ := hrel
      rename World => w1
      have HO := Lib.hid hO
      clear hO
      obtain ⟨b0, b1, b2, b3, b4, b5, b6, b7, b8, b9, b10, b11, b12⟩ := qB_cells QB1.out
      dsimp only [Pd.hd, Pd.kids] at b0 b1 b2 b3 b4 b5 b6 b7 b8 b9 b10 b11 b12
      by_cases hon : k < cols.length ∧ aggs.length = 0 ∧ qc.length = 0
      · obtain ⟨hlt, h1, h2⟩ := hon
        obtain ⟨a0, ha0, -, t1⟩ := Ks.findS (HKs.out.non FR.out) k hlt
        subst ha0
        have hb1 : b + 1 ≤ w1.heap.size := by have := QB1.out.lt; omega
        have hd1 : ((aggs.length : Int) == 0) = true := by rw [h1]; rfl
        have hd2 : ((qc.length : Int) == 0) = true := by rw [h2]; rfl
        have HLn : Hid (L.length ≤ 1000) := Lib.hid (by have := HL.out.1; omega)
        have HL2 : Hid ((L ++ [cols[k].ty]).length ≤ k + 1 ∧ (L ++ [cols[k].ty]) = (if aggs.length = 0 ∧ qc.length = 0 then (cols.take (k + 1)).map Co.ty else []) ∧ (¬ (aggs.length = 0 ∧ qc.length = 0) → k + 1 = 0)) := Lib.hid (by
          obtain ⟨e1, e2, e3⟩ := HL.out
          refine ⟨by simp; omega, ?_, fun e => absurd ⟨h1, h2⟩ e⟩
          rw [if_pos ⟨h1, h2⟩] at e2 ⊢
          rw [List.take_succ_eq_append_getElem hlt, List.map_append, e2]; rfl)
        generalize cols[k].ty = y at *
        clear h1 h2 HL
        go_wp2_with (at_builtin; refine wpList_pushG el_int iv_oneC rfl (.tmp 33) (.tmp 39) rfl (b + 1) _ L rfl HO.out _ y rfl (by rfl) (by have := HLn.out; omega) hb1 ?_; intro x6 w6 HX6 f6)
        have F6 := Lib.hid (FR.out.fresh f6 (fun z e => by have := (HO.out.lt z e).1; have := HB.out; omega))
        have QB6 := Lib.hid (QB1.out.fr f6 (fun e => by have := (HO.out.lt _ e).1; omega))
        go_roundw
        case rel => exact ⟨k + 1, L ++ [y], by omega, by go_num, HX6, HL2, QB6, F6⟩
        case measure => simp [intOf]; omega
      · have HLE : Hid (L.length ≤ 1000 ∧ L = (if aggs.length = 0 ∧ qc.length = 0 then cols.map Co.ty else [])) := Lib.hid (by
          obtain ⟨e1, e2, e3⟩ := HL.out
          refine ⟨by omega, ?_⟩
          rw [e2]
          split
          · rename_i hh
            rw [List.take_of_length_le (by by_cases h : k < cols.length; exact absurd ⟨h, hh⟩ hon; omega)]
          · rfl)
        have hways : ¬ k < cols.length ∨ (k < cols.length ∧ aggs.length ≠ 0) ∨ (k < cols.length ∧ aggs.length = 0 ∧ qc.length ≠ 0) := by
          by_cases h1 : k < cols.length
          · by_cases h2 : aggs.length = 0
            · exact .inr (.inr ⟨h1, h2, fun h3 => hon ⟨h1, h2, h3⟩⟩)
            · exact .inr (.inl ⟨h1, h2⟩)
          · exact .inl h1
        clear hon
        rcases hways with h1 | ⟨h1, h2⟩ | ⟨h1, h2, h3⟩
        focus
          go_wp2
        rotate_left
        focus
          have hd1 : ((aggs.length : Int) == 0) = false := by rw [beq_eq_false_iff_ne]; omega
          clear h2
          go_wp2
        rotate_left
        focus
          have hd1 : ((aggs.length : Int) == 0) = true := by rw [h2]; rfl
          have hd2 : ((qc.length : Int) == 0) = false := by rw [beq_eq_false_iff_ne]; omega
          clear h2 h3
          go_wp2
        rotate_left
        all_goals
          clear h1
          have HL1 : Hid (L.length ≤ 1000 ∧ L = (if aggs.length = 0 ∧ qc.length = 0 then cols.map Co.ty else [])) := HLE
          have hw1 : Hid (b + 1 ≤ w1.heap.size) := Lib.hid (by have := QB1.out.lt; omega)
          clear HLE HL b0 b1 b2 b3 b4 b5 b6 b7 b8 b9 b10 b11 b12
          go_loopw [5, 7] (fun x i wr => ∃ (k : Nat), k ≤ qc.length ∧ i = .int .i64 k ∧ Ow iv 3 wr (b + 1) x (L ++ (qc.take k).map TN) ∧ Hid (QB wr b ⟨tab, qc, ⟨⟨wo, wc, wm, ⟨wn, wi, wt⟩, wk, wp⟩, wks⟩, aggs, by_⟩ (.slice cA qc.length cc) ⟨sA, sn, sc⟩ (.slice gA aggs.length gc)) ∧ Hid (Fr Non w wr)) (fun _ i _ => qc.length - (intOf i).toNat)
          case atStart => exact ⟨0, Nat.zero_le _, rfl, by rw [List.take_zero, List.map_nil, List.append_nil]; exact HO.out, QB1, FR⟩
          case round =>
            clear QB1 FR HO
            obtain ⟨m, hm, rfl, hO, QB1, FR⟩ := hrel
            rename World => w2
            have HO := Lib.hid hO
            clear hO
            obtain ⟨b0, b1, b2, b3, b4, b5, b6, b7, b8, b9, b10, b11, b12⟩ := qB_cells QB1.out
            dsimp only [Pd.hd, Pd.kids] at b0 b1 b2 b3 b4 b5 b6 b7 b8 b9 b10 b11 b12
            by_cases hlt2 : m < qc.length
            · obtain ⟨ac, e3, -, -, hel0⟩ := (HCs.out.non FR.out).addr (show 0 < qc.length by omega)
              subst e3
              have g0 := hel0 m hlt2
              clear hel0
              obtain ⟨kk, hkk⟩ := HN1.out m hlt2
              obtain ⟨hkc, hty⟩ := HTN.out _ kk hkk
              have HT : Hid ((qc.take (m + 1)).map TN = (qc.take m).map TN ++ [cols[kk].ty]) := Lib.hid (by
                rw [List.take_succ_eq_append_getElem hlt2, List.map_append, List.map_cons, List.map_nil, hty])
              have HDl : Hid ((L ++ (qc.take m).map TN).length ≤ 2000) := Lib.hid (by have := HL1.out.1; rw [List.length_append, List.length_map, List.length_take]; omega)
              have HFk := Lib.hid (HFi.out qc[m])
              rw [hkk] at HFk
              unfold findI at HFk
              dsimp only at HFk
              clear hkk hty
              generalize (qc.take m).map TN = D at *
              generalize qc[m] = n at *
              unfold sv at g0
              go_wp2_with fail
              refine (HFk.out _ FR.out).mono ?_
              rintro e w4 ⟨rfl, f4⟩
              have FR4 := Lib.hid (FR.out.trans f4)
              have QB4 := Lib.hid (QB1.out.fr f4 (fun e => e))
              have HO4 := Lib.hid (HO.out.non f4)
              obtain ⟨a0, ha0, -, t1⟩ := Ks.findS (HKs.out.non FR4.out) kk hkc
              subst ha0
              generalize cols[kk].ty = y at *
              have hb4 : b + 1 ≤ w4.heap.size := by have := QB4.out.lt; omega
              clear f4 b0 b1 b2 b3 b4 b5 b6 b7 b8 b9 b10 b11 b12 g0 QB1 FR HO
              go_wp2_with (at_builtin; refine wpList_pushG el_int iv_oneC rfl (.tmp 48) (.tmp 60) rfl (b + 1) _ (L ++ D) rfl HO4.out _ y rfl (by rfl) (by have := HDl.out; omega) hb4 ?_; intro x6 w6 HX6 f6)
              have F6 := Lib.hid (FR4.out.fresh f6 (fun z e => by have := (HO4.out.lt z e).1; have := HB.out; omega))
              have QB6 := Lib.hid (QB4.out.fr f6 (fun e => by have := (HO4.out.lt _ e).1; omega))
              go_roundw
              case rel => exact ⟨m + 1, by omega, by go_num, by rw [HT.out, ← List.append_assoc]; exact HX6, QB6, F6⟩
              case measure => simp [intOf]; omega
            · have hme : m = qc.length := by omega
              rw [hme, List.take_length] at HO
              have HDl : Hid ((L ++ qc.map TN).length ≤ 2000) := Lib.hid (by have := HL1.out.1; rw [List.length_append, List.length_map]; omega)
              have HE2 : Hid (R = (L ++ qc.map TN) ++ (if by_ = [] then [] else [TN by_]) ++ aggs.map (fun a => if 4 ≤ a.op then TN a.col else 1)) := Lib.hid (by rw [HE1.out, ← HL1.out.2])
              generalize L ++ qc.map TN = L2 at *
              clear hme HE1
              by_cases hby : by_ = []
              · have hdb : (by_ == []) = true := by rw [hby]; rfl
                rw [if_pos hby, List.append_nil] at HE2
                have HO2 := HO
                clear hby
                go_wp2
                go_loopw [5, 8] (fun x i wr => ∃ (k : Nat), k ≤ aggs.length ∧ i = .int .i64 k ∧ Ow iv 3 wr (b + 1) x (L2 ++ (aggs.take k).map (fun a => if 4 ≤ a.op then TN a.col else 1)) ∧ Hid (QB wr b ⟨tab, qc, ⟨⟨wo, wc, wm, ⟨wn, wi, wt⟩, wk, wp⟩, wks⟩, aggs, by_⟩ (.slice cA qc.length cc) ⟨sA, sn, sc⟩ (.slice gA aggs.length gc)) ∧ Hid (Fr Non w wr)) (fun _ i _ => aggs.length - (intOf i).toNat)
                case atStart => exact ⟨0, Nat.zero_le _, rfl, by rw [List.take_zero, List.map_nil, List.append_nil]; exact HO2.out, QB1, FR⟩
                case round =>
                  clear QB1 FR HO2
                  obtain ⟨j, hj, rfl, hO, QB1, FR⟩ := hrel
                  rename World => w3
                  have HO := Lib.hid hO
                  clear hO
                  obtain ⟨b0, b1, b2, b3, b4, b5, b6, b7, b8, b9, b10, b11, b12⟩ := qB_cells QB1.out
                  dsimp only [Pd.hd, Pd.kids] at b0 b1 b2 b3 b4 b5 b6 b7 b8 b9 b10 b11 b12
                  by_cases hlt3 : j < aggs.length
                  · obtain ⟨ga, hga, -, g1, g2⟩ := (HAg.out.non FR.out).gat j hlt3
                    subst hga
                    have HT := Lib.hid (show (aggs.take (j + 1)).map (fun a => if 4 ≤ a.op then TN a.col else 1) = (aggs.take j).map (fun a => if 4 ≤ a.op then TN a.col else 1) ++ [if 4 ≤ aggs[j].op then TN aggs[j].col else 1] by
                      rw [List.take_succ_eq_append_getElem hlt3, List.map_append, List.map_cons, List.map_nil])
                    have HD3 : Hid ((L2 ++ (aggs.take j).map (fun a => if 4 ≤ a.op then TN a.col else 1)).length ≤ 3000) := Lib.hid (by have := HDl.out; rw [List.length_append, List.length_map, List.length_take]; omega)
                    have HN := Lib.hid (HN2.out j hlt3)
                    generalize (aggs.take j).map (fun a => if 4 ≤ a.op then TN a.col else 1) = D at *
                    generalize aggs[j] = ag at *
                    obtain ⟨ao, an⟩ := ag
                    dsimp only at g1 g2 HT HN
                    have hb3 : b + 1 ≤ w3.heap.size := by have := QB1.out.lt; omega
                    by_cases h4 : 4 ≤ ao
                    · obtain ⟨kk, hkk⟩ := HN.out h4
                      obtain ⟨hkc, hty⟩ := HTN.out _ kk hkk
                      rw [if_pos h4, hty] at HT
                      have hd : decide (4 ≤ ao) = true := decide_eq_true h4
                      have HFk := Lib.hid (HFi.out an)
                      rw [hkk] at HFk
                      unfold findI at HFk
                      dsimp only at HFk
                      clear hkk hty h4 HN
                      go_wp2_with fail
                      refine (HFk.out _ FR.out).mono ?_
                      rintro e w4 ⟨rfl, f4⟩
                      have FR4 := Lib.hid (FR.out.trans f4)
                      have QB4 := Lib.hid (QB1.out.fr f4 (fun e => e))
                      have HO4 := Lib.hid (HO.out.non f4)
                      obtain ⟨a0, ha0, -, t1⟩ := Ks.findS (HKs.out.non FR4.out) kk hkc
                      first | subst ha0 | (have ha1 := Option.some.inj ha0; clear ha0; subst ha1)
                      generalize cols[kk].ty = y at *
                      have hb4 : b + 1 ≤ w4.heap.size := by have := QB4.out.lt; omega
                      clear f4 b0 b1 b2 b3 b4 b5 b6 b7 b8 b9 b10 b11 b12 g1 g2 QB1 FR HO
                      go_wp2_with (at_builtin; refine wpList_pushG el_int iv_oneC rfl (.tmp 102) (.tmp 104) rfl (b + 1) _ (L2 ++ D) rfl HO4.out _ y rfl (by rfl) (by have := HD3.out; omega) hb4 ?_; intro x6 w6 HX6 f6)
                      have F6 := Lib.hid (FR4.out.fresh f6 (fun z e => by have := (HO4.out.lt z e).1; have := HB.out; omega))
                      have QB6 := Lib.hid (QB4.out.fr f6 (fun e => by have := (HO4.out.lt _ e).1; omega))
                      go_roundw
                      case rel => exact ⟨j + 1, by omega, by go_num, by rw [HT.out, ← List.append_assoc]; exact HX6, QB6, F6⟩
                      case measure => simp [intOf]; omega
                    · rw [if_neg h4] at HT
                      have hd : decide (4 ≤ ao) = false := decide_eq_false h4
                      clear h4 HN
                      go_wp2_with (at_builtin; refine wpList_pushG el_int iv_oneC rfl (.tmp 102) (.tmp 104) rfl (b + 1) _ (L2 ++ D) rfl HO.out _ 1 rfl (by rfl) (by have := HD3.out; omega) hb3 ?_; intro x6 w6 HX6 f6)
                      have F6 := Lib.hid (FR.out.fresh f6 (fun z e => by have := (HO.out.lt z e).1; have := HB.out; omega))
                      have QB6 := Lib.hid (QB1.out.fr f6 (fun e => by have := (HO.out.lt _ e).1; omega))
                      go_roundw
                      case rel => exact ⟨j + 1, by omega, by go_num, by rw [HT.out, ← List.append_assoc]; exact HX6, QB6, F6⟩
                      case measure => simp [intOf]; omega
                  · have hje : j = aggs.length := by omega
                    rw [hje, List.take_length] at HO
                    clear hje
                    go_wp2
                    go_ret
                    exact ⟨_, rfl, by rw [HE2.out]; exact HO.out.vs, FR.out⟩
              · have hdb : (by_ == []) = false := by rw [beq_eq_false_iff_ne]; exact hby
                rw [if_neg hby] at HE2
                obtain ⟨kk, hkk⟩ := HN3.out hby
                obtain ⟨hkc, hty⟩ := HTN.out _ kk hkk
                rw [hty] at HE2
                have HFk := Lib.hid (HFi.out by_)
                rw [hkk] at HFk
                unfold findI at HFk
                dsimp only at HFk
                clear hkk hty hby
                go_wp2_with fail
                refine (HFk.out _ FR.out).mono ?_
                rintro e w4 ⟨rfl, f4⟩
                have FR4 := Lib.hid (FR.out.trans f4)
                have QB4 := Lib.hid (QB1.out.fr f4 (fun e => e))
                have HO4 := Lib.hid (HO.out.non f4)
                obtain ⟨a0, ha0, -, t1⟩ := Ks.findS (HKs.out.non FR4.out) kk hkc
                subst ha0
                generalize cols[kk].ty = y at *
                have hb4 : b + 1 ≤ w4.heap.size := by have := QB4.out.lt; omega
                clear f4 b0 b1 b2 b3 b4 b5 b6 b7 b8 b9 b10 b11 b12 QB1 FR HO
                go_wp2_with (at_builtin; refine wpList_pushG el_int iv_oneC rfl (.tmp 65) (.tmp 74) rfl (b + 1) _ L2 rfl HO4.out _ y rfl (by rfl) (by have := HDl.out; omega) hb4 ?_; intro x6 w6 HX6 f6)
                have FR := Lib.hid (FR4.out.fresh f6 (fun z e => by have := (HO4.out.lt z e).1; have := HB.out; omega))
                have QB1 : Hid (QB w6 b ⟨tab, qc, ⟨⟨wo, wc, wm, ⟨wn, wi, wt⟩, wk, wp⟩, wks⟩, aggs, by_⟩ (.slice cA qc.length cc) ⟨sA, sn, sc⟩ (.slice gA aggs.length gc)) := Lib.hid (QB4.out.fr f6 (fun e => by have := (HO4.out.lt _ e).1; omega))
                have HO2 := Lib.hid HX6
                replace HDl : Hid ((L2 ++ [y]).length ≤ 2001) := Lib.hid (by have := HDl.out; simp; omega)
                clear f6 FR4 QB4 HO4 HX6 HFk t1
                generalize L2 ++ [y] = L3 at *
                go_loopw [5, 8] (fun x i wr => ∃ (k : Nat), k ≤ aggs.length ∧ i = .int .i64 k ∧ Ow iv 3 wr (b + 1) x (L3 ++ (aggs.take k).map (fun a => if 4 ≤ a.op then TN a.col else 1)) ∧ Hid (QB wr b ⟨tab, qc, ⟨⟨wo, wc, wm, ⟨wn, wi, wt⟩, wk, wp⟩, wks⟩, aggs, by_⟩ (.slice cA qc.length cc) ⟨sA, sn, sc⟩ (.slice gA aggs.length gc)) ∧ Hid (Fr Non w wr)) (fun _ i _ => aggs.length - (intOf i).toNat)
                case atStart => exact ⟨0, Nat.zero_le _, rfl, by rw [List.take_zero, List.map_nil, List.append_nil]; exact HO2.out, QB1, FR⟩
                case round =>
                  clear QB1 FR HO2
                  obtain ⟨j, hj, rfl, hO, QB1, FR⟩ := hrel
                  rename World => w3
                  have HO := Lib.hid hO
                  clear hO
                  obtain ⟨b0, b1, b2, b3, b4, b5, b6, b7, b8, b9, b10, b11, b12⟩ := qB_cells QB1.out
                  dsimp only [Pd.hd, Pd.kids] at b0 b1 b2 b3 b4 b5 b6 b7 b8 b9 b10 b11 b12
                  by_cases hlt3 : j < aggs.length
                  · obtain ⟨ga, hga, -, g1, g2⟩ := (HAg.out.non FR.out).gat j hlt3
                    subst hga
                    have HT := Lib.hid (show (aggs.take (j + 1)).map (fun a => if 4 ≤ a.op then TN a.col else 1) = (aggs.take j).map (fun a => if 4 ≤ a.op then TN a.col else 1) ++ [if 4 ≤ aggs[j].op then TN aggs[j].col else 1] by
                      rw [List.take_succ_eq_append_getElem hlt3, List.map_append, List.map_cons, List.map_nil])
                    have HD3 : Hid ((L3 ++ (aggs.take j).map (fun a => if 4 ≤ a.op then TN a.col else 1)).length ≤ 3000) := Lib.hid (by have := HDl.out; rw [List.length_append, List.length_map, List.length_take]; omega)
                    have HN := Lib.hid (HN2.out j hlt3)
                    generalize (aggs.take j).map (fun a => if 4 ≤ a.op then TN a.col else 1) = D at *
                    generalize aggs[j] = ag at *
                    obtain ⟨ao, an⟩ := ag
                    dsimp only at g1 g2 HT HN
                    have hb3 : b + 1 ≤ w3.heap.size := by have := QB1.out.lt; omega
                    by_cases h4 : 4 ≤ ao
                    · obtain ⟨kk, hkk⟩ := HN.out h4
                      obtain ⟨hkc, hty⟩ := HTN.out _ kk hkk
                      rw [if_pos h4, hty] at HT
                      have hd : decide (4 ≤ ao) = true := decide_eq_true h4
                      have HFk := Lib.hid (HFi.out an)
                      rw [hkk] at HFk
                      unfold findI at HFk
                      dsimp only at HFk
                      clear hkk hty h4 HN
                      go_wp2_with fail
                      refine (HFk.out _ FR.out).mono ?_
                      rintro e w4 ⟨rfl, f4⟩
                      have FR4 := Lib.hid (FR.out.trans f4)
                      have QB4 := Lib.hid (QB1.out.fr f4 (fun e => e))
                      have HO4 := Lib.hid (HO.out.non f4)
                      obtain ⟨a0, ha0, -, t1⟩ := Ks.findS (HKs.out.non FR4.out) kk hkc
                      first | subst ha0 | (have ha1 := Option.some.inj ha0; clear ha0; subst ha1)
                      generalize cols[kk].ty = y at *
                      have hb4 : b + 1 ≤ w4.heap.size := by have := QB4.out.lt; omega
                      clear f4 b0 b1 b2 b3 b4 b5 b6 b7 b8 b9 b10 b11 b12 g1 g2 QB1 FR HO
                      go_wp2_with (at_builtin; refine wpList_pushG el_int iv_oneC rfl (.tmp 102) (.tmp 104) rfl (b + 1) _ (L3 ++ D) rfl HO4.out _ y rfl (by rfl) (by have := HD3.out; omega) hb4 ?_; intro x6 w6 HX6 f6)
                      have F6 := Lib.hid (FR4.out.fresh f6 (fun z e => by have := (HO4.out.lt z e).1; have := HB.out; omega))
                      have QB6 := Lib.hid (QB4.out.fr f6 (fun e => by have := (HO4.out.lt _ e).1; omega))
                      go_roundw
                      case rel => exact ⟨j + 1, by omega, by go_num, by rw [HT.out, ← List.append_assoc]; exact HX6, QB6, F6⟩
                      case measure => simp [intOf]; omega
                    · rw [if_neg h4] at HT
                      have hd : decide (4 ≤ ao) = false := decide_eq_false h4
                      clear h4 HN
                      go_wp2_with (at_builtin; refine wpList_pushG el_int iv_oneC rfl (.tmp 102) (.tmp 104) rfl (b + 1) _ (L3 ++ D) rfl HO.out _ 1 rfl (by rfl) (by have := HD3.out; omega) hb3 ?_; intro x6 w6 HX6 f6)
                      have F6 := Lib.hid (FR.out.fresh f6 (fun z e => by have := (HO.out.lt z e).1; have := HB.out; omega))
                      have QB6 := Lib.hid (QB1.out.fr f6 (fun e => by have := (HO.out.lt _ e).1; omega))
                      go_roundw
                      case rel => exact ⟨j + 1, by omega, by go_num, by rw [HT.out, ← List.append_assoc]; exact HX6, QB6, F6⟩
                      case measure => simp [intOf]; omega
                  · have hje : j = aggs.length := by omega
                    rw [hje, List.take_length] at HO
                    clear hje
                    go_wp2
                    go_ret
                    exact ⟨_, rfl, by rw [HE2.out]; exact HO.out.vs, FR.out⟩
  · have hzb : (z != 0) = true := by simpa using hz
    have HE := Lib.hid (HE0.out hz)
    go_wp2
    go_ret
    exact ⟨_, rfl, by rw [HE.out]; exact Vs.nil_ _, F0.out⟩
end Go.Proofs.YtjcfjjhhbcgcmaaGreat

namespace Go.Proofs.YtjcfjjhhbcgcmaaGreat
open Go.RowKit
structure Fs where
  cnt : Int
  has : Int
  sum : Int
  some : Bool
  low : Cl
  high : Cl
  deriving DecidableEq
def fsC (s : Fs) : Array Value := #[.int .i64 s.cnt, .int .i64 s.has, .int .i64 s.sum, .bool s.some, .bool s.low.null, .int .i64 s.low.num, .string ⟨s.low.txt.toArray⟩, .bool s.high.null, .int .i64 s.high.num, .string ⟨s.high.txt.toArray⟩]
def fsV (s : Fs) : Value := .agg (fsC s)
def noFs : Fs := ⟨0, 0, 0, false, noCl, noCl⟩
abbrev FsB (w : World) (g : Nat) (s : Fs) : Prop := Blk w g 122 (fsC s)
def FsCells (w : World) (g : Nat) (s : Fs) : Prop :=
  w.cell? ⟨g, 0, none⟩ = some (.int .i64 s.cnt) ∧ w.cell? ⟨g, 1, none⟩ = some (.int .i64 s.has) ∧ w.cell? ⟨g, 2, none⟩ = some (.int .i64 s.sum) ∧ w.cell? ⟨g, 3, none⟩ = some (.bool s.some) ∧
  w.cell? ⟨g, 4, none⟩ = some (.bool s.low.null) ∧ w.cell? ⟨g, 5, none⟩ = some (.int .i64 s.low.num) ∧ w.cell? ⟨g, 6, none⟩ = some (.string ⟨s.low.txt.toArray⟩) ∧
  w.cell? ⟨g, 7, none⟩ = some (.bool s.high.null) ∧ w.cell? ⟨g, 8, none⟩ = some (.int .i64 s.high.num) ∧ w.cell? ⟨g, 9, none⟩ = some (.string ⟨s.high.txt.toArray⟩)
def FsFroz (w : World) (g : Nat) : Prop :=
  w.frozen? ⟨g, 0, none⟩ = false ∧ w.frozen? ⟨g, 1, none⟩ = false ∧ w.frozen? ⟨g, 2, none⟩ = false ∧ w.frozen? ⟨g, 3, none⟩ = false ∧ w.frozen? ⟨g, 4, none⟩ = false ∧
  w.frozen? ⟨g, 5, none⟩ = false ∧ w.frozen? ⟨g, 6, none⟩ = false ∧ w.frozen? ⟨g, 7, none⟩ = false ∧ w.frozen? ⟨g, 8, none⟩ = false ∧ w.frozen? ⟨g, 9, none⟩ = false
theorem fsB_cells {w : World} {g : Nat} {s : Fs} (h : FsB w g s) : FsCells w g s :=
  ⟨h.cell 0, h.cell 1, h.cell 2, h.cell 3, h.cell 4, h.cell 5, h.cell 6, h.cell 7, h.cell 8, h.cell 9⟩
theorem fsB_froz {w : World} {g : Nat} {s : Fs} (h : FsB w g s) : FsFroz w g :=
  ⟨h.frozen 0, h.frozen 1, h.frozen 2, h.frozen 3, h.frozen 4, h.frozen 5, h.frozen 6, h.frozen 7, h.frozen 8, h.frozen 9⟩
def setFsN (w : World) (g : Nat) (c h m : Int) (b : Bool) : World := (((w.setCell ⟨g, 0, none⟩ (.int .i64 c)).setCell ⟨g, 1, none⟩ (.int .i64 h)).setCell ⟨g, 2, none⟩ (.int .i64 m)).setCell ⟨g, 3, none⟩ (.bool b)
theorem setFsN_B {w : World} {g : Nat} {s : Fs} (x : FsB w g s) (c h m : Int) (b : Bool) : FsB (setFsN w g c h m b) g ⟨c, h, m, b, s.low, s.high⟩ := (((Blk.set x 0 _).set 1 _).set 2 _).set 3 _
theorem setFsN_fr (w : World) (g : Nat) (c h m : Int) (b : Bool) : Fr (One g) w (setFsN w g c h m b) := ((((Fr.refl (One g) w).set1 0 _).set1 1 _).set1 2 _).set1 3 _
def setFsL (w : World) (g : Nat) (n : Bool) (i : Int) (t : List UInt8) : World := ((w.setCell ⟨g, 4, none⟩ (.bool n)).setCell ⟨g, 5, none⟩ (.int .i64 i)).setCell ⟨g, 6, none⟩ (.string ⟨t.toArray⟩)
def setFsH (w : World) (g : Nat) (n : Bool) (i : Int) (t : List UInt8) : World := ((w.setCell ⟨g, 7, none⟩ (.bool n)).setCell ⟨g, 8, none⟩ (.int .i64 i)).setCell ⟨g, 9, none⟩ (.string ⟨t.toArray⟩)
theorem setFsL_B {w : World} {g : Nat} {s : Fs} (h : FsB w g s) (c : Cl) : FsB (setFsL w g c.null c.num c.txt) g ⟨s.cnt, s.has, s.sum, s.some, c, s.high⟩ := ((Blk.set h 4 _).set 5 _).set 6 _
theorem setFsH_B {w : World} {g : Nat} {s : Fs} (h : FsB w g s) (c : Cl) : FsB (setFsH w g c.null c.num c.txt) g ⟨s.cnt, s.has, s.sum, s.some, s.low, c⟩ := ((Blk.set h 7 _).set 8 _).set 9 _
theorem setFsL_fr (w : World) (g : Nat) (n : Bool) (i : Int) (t : List UInt8) : Fr (One g) w (setFsL w g n i t) := (((Fr.refl (One g) w).set1 4 _).set1 5 _).set1 6 _
theorem setFsH_fr (w : World) (g : Nat) (n : Bool) (i : Int) (t : List UInt8) : Fr (One g) w (setFsH w g n i t) := (((Fr.refl (One g) w).set1 7 _).set1 8 _).set1 9 _
def setFs (w : World) (g : Nat) (s : Fs) : World := setFsH (setFsL (setFsN w g s.cnt s.has s.sum s.some) g s.low.null s.low.num s.low.txt) g s.high.null s.high.num s.high.txt
theorem setFs_B {w : World} {g : Nat} {y : Fs} (h : FsB w g y) (s : Fs) : FsB (setFs w g s) g s := setFsH_B (setFsL_B (setFsN_B h s.cnt s.has s.sum s.some) s.low) s.high
theorem setFs_fr (w : World) (g : Nat) (s : Fs) : Fr (One g) w (setFs w g s) := ((setFsN_fr _ _ _ _ _ _).trans (setFsL_fr _ _ _ _ _)).trans (setFsH_fr _ _ _ _ _)
theorem Fr.atO {w w' : World} {g k o : Nat} (h : Fr (One g) w w') (hk : k ≠ g) {u : Value} (e : w.cell? ⟨k, o, none⟩ = some u) : w'.cell? ⟨k, o, none⟩ = some u :=
  (h.cell (World.block_lt_of_cell? _ _ e) hk).trans e
theorem ret_fs {fn : Func} {p : Tmp} (h : fn.results = #[.cell p 122]) (tmps : Array Value) (w : World) (g : Nat) (s : Fs)
    (hp : tmps.getD p undef = .pointer (some ⟨g, 0, none⟩)) (hg : FsB w g s) : (results fn tmps).run Tryz.prog w = .ok (fsV s) w :=
  results_cell_row h tmps w g 122 _ (0, 0) _ hp hg Tryz.underlying122 rfl (by kernel_rfl)
theorem fs_new (w : World) (s : Fs) (g : Nat) (hg : w.heap.size = g) : FsB (w.alloc (.cells (fsC s) 122)) g s := by subst hg; exact Blk.new _ _ _
theorem cl_newG (w : World) (c : Cl) (g : Nat) (hg : w.heap.size = g) : ClB (w.alloc (.cells #[.bool c.null, .int .i64 c.num, .string ⟨c.txt.toArray⟩] 25)) g c := by subst hg; exact cl_new _ _
def lesF (a b : Cl) : Cl := if 0 < ordC a b then b else a
def grtF (a b : Cl) : Cl := if ordC a b < 0 then b else a
def joinS (a b : Fs) : Fs :=
  ⟨w6 (a.cnt + b.cnt), w6 (a.has + b.has), w6 (a.sum + b.sum), a.some || b.some,
    if a.some = false then b.low else if b.some = false then a.low else lesF a.low b.low,
    if a.some = false then b.high else if b.some = false then a.high else grtF a.high b.high⟩
def oneS (c : Cl) : Fs := if c.null then ⟨1, 0, 0, false, noCl, noCl⟩ else ⟨1, 1, c.num, true, c, c⟩
def sumS (s : Fs) (c : Cl) : Cl := if s.some then c else nulCl
def valS (op : Int) (s : Fs) : Cl :=
  if op = 1 then ⟨false, s.cnt, []⟩ else if op = 2 then ⟨false, s.has, []⟩ else if op = 3 then sumS s ⟨false, s.sum, []⟩ else if op = 4 then sumS s s.low else if op = 5 then sumS s s.high else noCl
def fsF (s : Fo) : Fs := ⟨s.cnt, s.has, s.sum, !decide (s.has = 0), s.low, s.high⟩
theorem valS_F (op : Int) (s : Fo) : valS op (fsF s) = valF op s := by
  unfold valS valF fsF sumS
  dsimp only
  by_cases h1 : op = 1
  · rw [if_pos h1, if_pos h1]
  rw [if_neg h1, if_neg h1]
  by_cases h2 : op = 2
  · rw [if_pos h2, if_pos h2]
  rw [if_neg h2, if_neg h2]
  by_cases h3 : op < 1 ∨ 5 < op
  · rw [if_pos h3, if_neg (by omega), if_neg (by omega), if_neg (by omega)]
  rw [if_neg h3]
  by_cases h : s.has = 0
  · simp only [h, decide_true, Bool.not_true, if_true, Bool.false_eq_true, if_false]
    by_cases h4 : op = 3
    · rw [if_pos h4]
    rw [if_neg h4]
    by_cases h5 : op = 4
    · rw [if_pos h5]
    rw [if_neg h5, if_pos (by omega)]
  · simp only [h, decide_false, Bool.not_false, if_true, if_false]
    by_cases h4 : op = 3
    · rw [if_pos h4, if_pos h4]
    rw [if_neg h4, if_neg h4]
    by_cases h5 : op = 4
    · rw [if_pos h5, if_pos h5]
    rw [if_neg h5, if_neg h5, if_pos (by omega)]
theorem w6_small {n : Int} (h : 0 ≤ n) (h' : n ≤ 1000000000000) : w6 n = n := by unfold w6; omega
theorem live_lenG (l : List Cl) : (liveC l).length ≤ l.length := List.length_filter_le _ _
theorem foOf_none {l : List Cl} {s : Fo} (h : FoOf l s) (h0 : s.has = 0) : s.low = noCl ∧ s.high = noCl ∧ s.sum = 0 := by
  have e := (has_zero h).1 h0
  have hb := h.bnds
  rw [e] at hb
  rcases hb with ⟨-, h1, h2⟩ | ⟨h1, -, -⟩
  · exact ⟨h1, h2, by rw [h.sum, e]; rfl⟩
  · cases h1
theorem lesF_is (a b : Cl) : lesF a b = if ordC b a < 0 then b else a := by
  have n := ordC_neg a b
  unfold lesF
  by_cases h : 0 < ordC a b
  · rw [if_pos h, if_pos (by omega)]
  · rw [if_neg h, if_neg (by omega)]
theorem grtF_is (a b : Cl) : grtF a b = if 0 < ordC b a then b else a := by
  have n := ordC_neg a b
  unfold grtF
  by_cases h : ordC a b < 0
  · rw [if_pos h, if_pos (by omega)]
  · rw [if_neg h, if_neg (by omega)]
theorem oneS_F {l : List Cl} {s : Fo} (h : FoOf l s) (c : Cl) (hl : l.length ≤ 1000000) : joinS (fsF s) (oneS c) = fsF (addF s c) := by
  have c1 := h.cnt
  have d1 := h.has
  have e1 := live_lenG l
  have t1 : w6 (s.cnt + 1) = s.cnt + 1 := w6_small (by omega) (by omega)
  have t2 : w6 (s.has + 1) = s.has + 1 := w6_small (by omega) (by omega)
  have t3 : w6 (s.has + 0) = s.has := by rw [Int.add_zero]; exact w6_small (by omega) (by omega)
  have t4 : w6 (s.sum + 0) = s.sum := by rw [Int.add_zero, h.sum]; unfold w6; omega
  have t5 : decide (s.has + 1 = 0) = false := by simp; omega
  unfold joinS oneS addF fsF
  cases hn : c.null
  · simp only [Bool.false_eq_true, if_false]
    rw [t1, t2, t5, lesF_is, grtF_is]
    by_cases x : s.has = 0 <;> simp [x]
  · simp only [if_true]
    rw [t1, t3, t4]
    by_cases x : s.has = 0
    · obtain ⟨q1, q2, -⟩ := foOf_none h x
      simp [x, q1, q2]
    · simp [x]
theorem fsF_snoc (l : List Cl) (c : Cl) (hl : l.length ≤ 1000000) : joinS (fsF (foC l)) (oneS c) = fsF (foC (l ++ [c])) := by
  rw [foC_app]; exact oneS_F (foC_is l) c hl
end Go.Proofs.YtjcfjjhhbcgcmaaGreat
