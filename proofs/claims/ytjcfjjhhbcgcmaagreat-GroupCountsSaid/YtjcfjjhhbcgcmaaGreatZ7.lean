/-
  Joined: Layer 23: what is answered to a query: the program's. · Layer 23: an error's number, the page's example. · Layer 10: which lists of cells are small. · Layer 13: which columns and rows are small. · Layer 17: slices of predicates laid by a literal. · Layer 18: which queries there may be, the program's: the example; small queries. · Layer 23: the walk of the law GroupTypes. · Layer 23: the walk of the law GroupCounts. · Arguments opened: a cell by value; a value of each type. · Arguments opened: a slice of cells. · Arguments opened: a slice of columns. · Layer 17: an argument opened: a predicate.
-/
import Derived.Lib.Zigzag
import Derived.Deep.RegionHeld3
import Derived.Deep.QuietTactic
import Derived.BigQuiet
import Derived.Deep.DrawnRows
import Derived.Shelf.Strings.Replace
import Derived.Shelf.Strconv.Itoa4
import Derived.Shelf.Strings.OnBuilder
import Derived.Test.YtjcfjjhhbcgcmaaGreatProg
import Derived.Lib.SmallJoins
import Derived.Lib.AppendIntMem
import Derived.Laws.StructEq
import Derived.Laws.Rows
import Derived.Laws.ResultCell
import Derived.BigRegion
import Derived.Deep.RegionWith
import Derived.Test.YtjcfjjhhbcgcmaaGreatZ6
import Derived.Test.YtjcfjjhhbcgcmaaGreatZ4
import Derived.Test.YtjcfjjhhbcgcmaaGreatZ1
import Derived.Test.YtjcfjjhhbcgcmaaGreatZ3
import Derived.Test.YtjcfjjhhbcgcmaaGreatZ2
import Derived.OpenShut
import Derived.Stop.Joined
import Derived.ProofKit

namespace Go.Proofs.YtjcfjjhhbcgcmaaGreat
set_option linter.unusedVariables false
set_option linter.unusedSimpArgs false
set_option maxRecDepth 100000
open Go.RowKit

theorem cellN_pl {cols : List Co} {r : List Cl} {n : Tx} {k : Nat} (h : findC cols n = some k) : cellN cols r n = atC r (plN cols n) := by
  rw [plN_of h]; unfold cellN; rw [h]; rfl
theorem colC_atC (rows : List (List Cl)) (k : Nat) : colC rows k = rows.map fun r => atC r k := rfl
theorem vals_is {cols : List Co} {q : Qy} (rows : List (List Cl)) (ha : ∀ a ∈ q.aggs, agB a = true) (hn : ∀ a ∈ q.aggs, a.op ≠ 1 → ∃ k, findC cols a.col = some k) : q.aggs.map (agP cols rows) = valsG cols q rows := by
  unfold valsG
  refine List.map_congr_left (fun a hm => ?_)
  unfold agP agC
  by_cases h1 : a.op = 1
  · unfold valF
    rw [if_pos h1, if_pos h1, (foC_is _).cnt, (foC_is _).cnt, colC_length, List.length_map]
  · obtain ⟨k, hk⟩ := hn a hm h1
    rw [colC_atC]
    congr 2
    exact List.map_congr_left (fun r _ => (cellN_pl hk).symm)
theorem shown_row (r : List Cl) : (List.range r.length).map (atC r) = r := by
  have h := range_map r noCl (fun x : Cl => x)
  rw [List.map_id'] at h
  exact h
theorem plain_is {cols : List Co} {q : Qy} {rows : List (List Cl)} (ha : q.aggs.length = 0) (hb : q.by_ = []) (hn : ∀ n ∈ q.cols, ∃ k, findC cols n = some k) (hr : ∀ r ∈ rows, r.length = cols.length) : rows.map (fun r => (shnG cols q).map (atC r)) = plainG cols q rows := by
  unfold plainG shnG
  refine List.map_congr_left (fun r hm => ?_)
  rw [if_pos hb]
  by_cases hc : q.cols.length = 0
  · rw [if_pos ⟨hc, ha⟩, if_pos hc, List.eq_nil_of_length_eq_zero hc, List.map_nil, List.append_nil, ← hr r hm]
    exact shown_row r
  · rw [if_neg (fun e => hc e.1), if_neg hc, List.nil_append, List.map_map]
    exact List.map_congr_left (fun n hm2 => by obtain ⟨k, hk⟩ := hn n hm2; exact (cellN_pl hk).symm)
theorem by_is {cols : List Co} {q : Qy} {rows : List (List Cl)} (ha : ∀ a ∈ q.aggs, agB a = true) (hn : ∀ a ∈ q.aggs, a.op ≠ 1 → ∃ k, findC cols a.col = some k) (hb : ∃ k, findC cols q.by_ = some k) :
    (keysC (rows.map fun r => atC r (plN cols q.by_))).map (fun c => c :: q.aggs.map (agP cols (rows.filter fun r => ceq (atC r (plN cols q.by_)) c))) = byG cols q rows := by
  obtain ⟨k, hk⟩ := hb
  unfold byG keysG mineG
  have h1 : (rows.map fun r => atC r (plN cols q.by_)) = rows.map fun r => cellN cols r q.by_ := List.map_congr_left (fun r _ => (cellN_pl hk).symm)
  rw [h1]
  refine List.map_congr_left (fun c _ => ?_)
  rw [vals_is _ ha hn]
  have h2 : (fun r => ceq (atC r (plN cols q.by_)) c) = fun r => ceq (cellN cols r q.by_) c := funext (fun r => by rw [cellN_pl hk])
  rw [h2]
theorem whr_pl {α : Type} (l : List α) (d : α) (f : α → Bool) : ((List.range l.length).filter fun i => f (l.getD i d)).map (fun i => l.getD i d) = l.filter f := by
  have h := range_map l d (fun x : α => x)
  rw [List.map_id'] at h
  conv => rhs; rw [← h]
  rw [List.filter_map]; rfl

set_option maxHeartbeats 8000000 in
theorem ganswer0_any (v0 v2 : Value) (cols : List Co) (q : Qy) (c : Value) (s : Kv) (g : Value) (rows : List (List Cl)) (w : World) (h0 : Ks w v0 cols) (hq : QyS w q c s g) (h2 : Rs w v2 rows) (hcl : cols.length ≤ 1000) (hs : SmQ q) (hrl : rows.length ≤ 100000) (hf : fitQ cols q = 0) (hr : ∀ r ∈ rows, rowB cols r = true) (hok : ∀ r ∈ rows, ∀ c ∈ r, okC c) :
    Calls Tryz.prog 23 #[v0, qyV q c s g, v2] w fun e w' => ∃ u, e = .returned u ∧ Ro w' w.heap.size u (answG cols q rows) ∧ Fr Non w w' := by
  obtain ⟨hm, hc, _, hsu⟩ := fitQ_parts hf
  obtain ⟨n1, n2, n3⟩ := named_has hsu
  have hc0 := chk_pos hc
  have hrl2 : ∀ r ∈ rows, r.length = cols.length := fun r h => (row_at (hr r h)).1.symm
  have hql : q.cols.length ≤ 1000 := by have := hs.cols; omega
  have hal : q.aggs.length ≤ 1000 := by have := hs.aggs; omega
  have HSh : Hid (∀ W, Fr Non w W → Calls Tryz.prog 33 #[v0, qyV q c s g] W fun e w' => ∃ u, e = .returned u ∧ Vs iv w' u (plI (shnG cols q)) ∧ Fr Non W w') := Lib.hid (fun W hF => gshown_any v0 cols q c s g W (h0.non hF) (hq.non hF) hcl hql)
  have HPn : Hid (q.aggs.length = 0 → ∀ pv W, Fr Non w W → Vs iv W pv (plI (shnG cols q)) → Calls Tryz.prog 41 #[v2, pv] W fun e w' => ∃ u, e = .returned u ∧ Ro w' W.heap.size u (answG cols q rows) ∧ Fr Non W w') := Lib.hid (fun ha pv W hF hP => by
    have hb : q.by_ = [] := by
      rcases mayQ_ways hm with ⟨_, h⟩ | ⟨h, _⟩
      · exact h
      · omega
    have e : answG cols q rows = rows.map (fun r => (shnG cols q).map (atC r)) := by unfold answG; rw [if_pos ha]; exact (plain_is ha hb n1 hrl2).symm
    rw [e]
    exact gplain_any v2 pv rows (shnG cols q) W (h2.non hF) hP hrl (by have := shn_len cols q; omega) (fun r h k hk => by rw [hrl2 r h]; exact shn_lt hc0 k hk))
  have HAg : 0 < q.aggs.length → (∀ a ∈ q.aggs, agB a = true) ∧ q.cols.length = 0 := fun h => by
    rcases mayQ_ways hm with ⟨h1, _⟩ | ⟨_, h1, h2⟩
    · omega
    · exact ⟨h1, h2⟩
  have HVl : Hid (0 < q.aggs.length → q.by_ = [] → ∀ W, Fr Non w W → Calls Tryz.prog 42 #[v0, g, v2] W fun e w' => ∃ u, e = .returned u ∧ Oc w' W.heap.size u (valsG cols q rows) ∧ Fr Non W w') := Lib.hid (fun ha hb W hF => by
    have h9 := gvalues_any v0 g v2 cols q.aggs rows W (h0.non hF) (hq.aggs.non hF) (h2.non hF) hcl hal hrl hc0 hrl2
    rw [vals_is rows (HAg ha).1 n2] at h9
    exact h9)
  have HVe : Hid (0 < q.aggs.length → q.by_ = [] → answG cols q rows = [valsG cols q rows]) := Lib.hid (fun ha hb => by unfold answG; rw [if_neg (by omega), if_pos hb])
  have HGd : Hid (0 < q.aggs.length → q.by_ ≠ [] → ∀ W, Fr Non w W → Calls Tryz.prog 43 #[v0, qyV q c s g, v2] W fun e w' => ∃ u, e = .returned u ∧ Ro w' W.heap.size u (answG cols q rows) ∧ Fr Non W w') := Lib.hid (fun ha hb W hF => by
    have hbk := n3 hb (by unfold allQ; rw [decide_eq_false (show ¬ q.aggs.length = 0 by omega), Bool.and_false])
    have h9 := ggrouped_any v0 v2 cols q c s g rows W (h0.non hF) (hq.non hF) (h2.non hF) hcl hal hrl hc0 hrl2 (fun r h => by
      have hp : plN cols q.by_ < r.length := by rw [hrl2 r h]; exact plN_lt _ hc0
      rw [atC_at hp]
      exact hok r h _ (List.getElem_mem hp))
    rw [by_is (HAg ha).1 n2 hbk] at h9
    have e : answG cols q rows = byG cols q rows := by unfold answG; rw [if_neg (by omega), if_neg hb]
    rw [e]; exact h9)
  clear HAg n1 n2 n3 hok hr hrl2 hm hc hsu hf hql hal
  obtain ⟨A0, c0, rfl⟩ := h0.shape
  obtain ⟨A2, c2, rfl⟩ := h2.shape
  obtain ⟨cA, cc, hce⟩ := hq.cols.shape
  obtain ⟨gA, gc, hge⟩ := hq.aggs.shape
  have F0 : Fr Non w (w.alloc (.cells (qyC q c s g) 31)) := (Fr.refl Non w).alloc _
  have QB0 : Hid (QB _ w.heap.size q c s g) := Lib.hid (qy_new w _ q c s g rfl)
  clear hq h0 h2 hs
  obtain ⟨tab, qc, ⟨⟨wo, wc, wm, ⟨wn, wi, wt⟩, wk, wp⟩, wks⟩, aggs, by_⟩ := q
  obtain ⟨sA, sn, sc⟩ := s
  dsimp only at hce hge HPn HVl HVe HGd
  subst hce hge
  generalize answG cols _ rows = AN at *
  generalize valsG cols _ rows = VA at *
  generalize shnG cols _ = SH at *
  unfold qyC kidV at F0 QB0
  unfold qyV qyC kidV at HSh HGd
  unfold qyV qyC kidV
  dsimp only [Pd.hd, Pd.kids] at F0 QB0 HSh HGd ⊢
  obtain ⟨b, hb⟩ : ∃ b, w.heap.size = b := ⟨_, rfl⟩
  have HB := Lib.hid hb
  rw [hb] at QB0
  replace QB0 : Hid (QB _ b ⟨tab, qc, ⟨⟨wo, wc, wm, ⟨wn, wi, wt⟩, wk, wp⟩, wks⟩, aggs, by_⟩ (.slice cA qc.length cc) ⟨sA, sn, sc⟩ (.slice gA aggs.length gc)) := QB0
  obtain ⟨b0, b1, b2, b3, b4, b5, b6, b7, b8, b9, b10, b11, b12⟩ := qB_cells QB0.out
  dsimp only [Pd.hd, Pd.kids] at b0 b1 b2 b3 b4 b5 b6 b7 b8 b9 b10 b11 b12
  replace F0 := Lib.hid F0
  by_cases ha : aggs.length = 0
  · have hd : ((aggs.length : Int) == 0) = true := by rw [ha]; rfl
    replace HPn := Lib.hid (HPn.out ha)
    clear ha HVl HVe HGd
    go_enter Tryz.func23, Tryz.ntmps23
    go_wp2_with fail
    refine (HSh.out _ F0.out).mono ?_
    rintro e w1 ⟨u, rfl, hu, f1⟩
    have F1 := Lib.hid (F0.out.trans f1)
    have HPu := Lib.hid (HPn.out u w1 F1.out hu)
    clear f1 hu b0 b1 b2 b3 b4 b5 b6 b7 b8 b9 b10 b11 b12 hd
    go_wp2_with fail
    refine HPu.out.mono ?_
    rintro e w2 ⟨u2, rfl, hu2, f2⟩
    have HU2 := Lib.hid (hu2.mono (B' := w.heap.size) F1.out.size)
    have F2 := Lib.hid (F1.out.trans f2)
    clear hu2 f2
    go_wp2
    go_ret
    exact ⟨_, rfl, HU2.out, F2.out⟩
  · have hd : ((aggs.length : Int) == 0) = false := by rw [beq_eq_false_iff_ne]; omega
    have ha2 : 0 < aggs.length := by omega
    by_cases hby : by_ = []
    · have hd2 : (by_ == []) = true := by rw [hby]; rfl
      replace HVl := Lib.hid (HVl.out ha2 hby)
      replace HVe := Lib.hid (HVe.out ha2 hby)
      clear ha ha2 HPn HGd hby HSh
      rw [HVe.out]
      go_enter Tryz.func23, Tryz.ntmps23
      go_wp2_with fail
      refine (HVl.out _ F0.out).mono ?_
      rintro e w1 ⟨u, rfl, hu, f1⟩
      have F1 := Lib.hid (F0.out.trans f1)
      have HU := Lib.hid (hu.mono (B' := w.heap.size) F0.out.size)
      obtain ⟨uA, uc, hue⟩ := hu.shape
      subst hue
      have HR1 := Lib.hid (ro_one HU.out (g := w1.heap.size) rfl F1.out.size)
      clear f1 hu
      go_wp2
      go_ret
      exact ⟨_, rfl, HR1.out, F1.out.alloc _⟩
    · have hd2 : (by_ == []) = false := by rw [beq_eq_false_iff_ne]; exact hby
      replace HGd := Lib.hid (HGd.out ha2 hby)
      clear ha ha2 HPn HVl HVe hby HSh
      go_enter Tryz.func23, Tryz.ntmps23
      go_wp2_with fail
      refine (HGd.out _ F0.out).mono ?_
      rintro e w1 ⟨u, rfl, hu, f1⟩
      have F1 := Lib.hid (F0.out.trans f1)
      have HU := Lib.hid (hu.mono (B' := w.heap.size) F0.out.size)
      clear f1 hu b0 b1 b2 b3 b4 b5 b6 b7 b8 b9 b10 b11 b12 hd hd2
      go_wp2
      go_ret
      exact ⟨_, rfl, HU.out, F1.out⟩

set_option maxHeartbeats 8000000 in
theorem ganswer_any (v0 v2 : Value) (cols : List Co) (q : Qy) (c : Value) (s : Kv) (g : Value) (rows : List (List Cl)) (w : World) (h0 : Ks w v0 cols) (hq : QyS w q c s g) (h2 : Rs w v2 rows) (hcl : cols.length ≤ 20) (hcb : ∀ c ∈ cols, c.name.length ≤ 100) (hs : SmQ q) (hrl : rows.length ≤ 210) (hok : ∀ r ∈ rows, ∀ c ∈ r, okC c) :
    Calls Tryz.prog 9 #[v0, qyV q c s g, v2] w fun e w' => ∃ u, e = .returned (.tuple #[u, .int .i64 (ansE cols q rows).2]) ∧ Ro w' w.heap.size u (ansE cols q rows).1 ∧ Fr Non w w' := by
  obtain ⟨ps, hps, hpv, hpc⟩ := rs_pairs h2
  have hpl : ps.length ≤ 210 := by rw [← hps, List.length_map] at hrl; exact hrl
  have HFi : Hid (∀ W, Fr Non w W → Calls Tryz.prog 21 #[v0, qyV q c s g] W fun e w' => e = .returned (.int .i64 (fitQ cols q)) ∧ Fr Non W w') := Lib.hid (fun W hf => qfits_any v0 cols q c s g W (h0.non hf) (by omega) (fun c h => by have := hcb c h; omega) (hq.non hf) hs)
  have HEr : Hid (∀ W, Fr Non w W → Calls Tryz.prog 22 #[v0, pdV q.whr.hd s, v2] W fun e w' => PlcR w' (rowsE cols q.whr rows) e ∧ Fr Non W w') := Lib.hid (fun W hf => by
    have e1 : q.whr = .mk q.whr.hd q.whr.kids := by cases q.whr; rfl
    have h9 := erows_any v0 v2 cols rows (by omega) (fun c h => by have := hcb c h; omega) q.whr.hd q.whr.kids s W (h0.non hf) (h2.non hf) (hq.kids.non hf) hq.num (by rw [← e1]; exact big_of_len _ hs.lens) (by rw [← e1]; have := hs.deep; omega) (by omega)
    rw [← e1] at h9
    exact h9)
  have HFz : Hid (fitQ cols q = 0 → fitP cols q.whr = 0) := Lib.hid (fun e => by
    obtain ⟨hm, hc, ht, _⟩ := fitQ_parts e
    unfold fitP
    rw [if_neg, if_pos ht]
    rintro (h | h)
    · rw [(may_parts hm).2] at h; cases h
    · exact h hc)
  have HE0 : Hid (¬ fitQ cols q = 0 → ansE cols q rows = ([], fitQ cols q)) := Lib.hid (fun e => if_neg e)
  have HE1 : Hid (fitQ cols q = 0 → rows.all (rowB cols) = false → rowsE cols q.whr rows = ([], 10) ∧ ansE cols q rows = ([], 10)) := Lib.hid (fun e h => by
    unfold rowsE ansE
    rw [if_pos (HFz.out e), if_pos e, if_neg (by rw [h]; simp), if_neg (by rw [h]; simp)]
    exact ⟨rfl, rfl⟩)
  obtain ⟨pl, hplE⟩ : ∃ pl, (List.range rows.length).filter (fun i => truP cols (rows.getD i []) q.whr == 1) = pl := ⟨_, rfl⟩
  have hpl1 : pl.length ≤ 210 := by
    rw [← hplE]
    have := List.length_filter_le (fun i => truP cols (rows.getD i []) q.whr == 1) (List.range rows.length)
    rw [List.length_range] at this
    omega
  have hpl2 : ∀ k ∈ pl, k < ps.length := fun k hk => by
    rw [← hplE] at hk
    have := List.mem_range.1 (List.mem_filter.1 hk).1
    rw [← hps, List.length_map] at this
    exact this
  have hmine : (pl.map (atS ps)).map Prod.snd = whrG cols q rows := by
    unfold whrG
    rw [← whr_pl rows [] (fun r => truP cols r q.whr == 1), hplE, List.map_map]
    refine List.map_congr_left (fun k hk => ?_)
    have hk2 := hpl2 k hk
    show (atS ps k).2 = rows.getD k []
    rw [atS_at hk2, ← hps, List.getD_eq_getElem?_getD, List.getElem?_map, List.getElem?_eq_getElem hk2]
    rfl
  have HE2 : Hid (fitQ cols q = 0 → rows.all (rowB cols) = true → rowsE cols q.whr rows = (plI pl, 0) ∧ ansE cols q rows = (answG cols q (whrG cols q rows), 0)) := Lib.hid (fun e h => by
    unfold rowsE ansE
    rw [if_pos (HFz.out e), if_pos e, if_pos h, if_pos h]
    refine ⟨?_, rfl⟩
    unfold plcI plI
    rw [hplE])
  have HTk : Hid (∀ pv W, Fr Non w W → Vs iv W pv (plI pl) → Calls Tryz.prog 24 #[v2, pv] W fun e w' => ∃ u, e = .returned u ∧ Rs w' u (whrG cols q rows) ∧ Fr Non W w') := Lib.hid (fun pv W hf hP => by
    refine (gtakenR_any v2 pv ps pl W (hpv.non hf) hP (by omega) hpl2).mono ?_
    rintro e w' ⟨u, rfl, h3, h4⟩
    refine ⟨u, rfl, ?_, h4⟩
    rw [← hmine]
    exact rs_ofp h3.vs (fun p hp => by
      obtain ⟨k, hk, rfl⟩ := List.mem_map.1 hp
      rw [atS_at (hpl2 k hk)]
      exact (hpc _ (List.getElem_mem (hpl2 k hk))).non (hf.trans h4)))
  have HAn : Hid (fitQ cols q = 0 → rows.all (rowB cols) = true → ∀ u W, Fr Non w W → Rs W u (whrG cols q rows) → Calls Tryz.prog 23 #[v0, qyV q c s g, u] W fun e w' => ∃ u', e = .returned u' ∧ Ro w' W.heap.size u' (answG cols q (whrG cols q rows)) ∧ Fr Non W w') := Lib.hid (fun e h u W hf hR => by
    have hmem : ∀ r ∈ whrG cols q rows, r ∈ rows := fun r hr => (List.mem_filter.1 hr).1
    exact ganswer0_any v0 u cols q c s g _ W (h0.non hf) (hq.non hf) hR (by omega) hs (Nat.le_trans (List.length_filter_le _ _) (by omega)) e (fun r hr => List.all_eq_true.1 h r (hmem r hr)) (fun r hr => hok r (hmem r hr)))
  clear hmine hplE hpl1 hpl2 hpl hpc hpv hps HFz hok hrl hcb
  obtain ⟨A0, c0, rfl⟩ := h0.shape
  obtain ⟨A2, c2, hv2⟩ := h2.shape
  subst hv2
  obtain ⟨cA, cc, hce⟩ := hq.cols.shape
  obtain ⟨gA, gc, hge⟩ := hq.aggs.shape
  have F0 : Fr Non w (w.alloc (.cells (qyC q c s g) 31)) := (Fr.refl Non w).alloc _
  have QB0 : Hid (QB _ w.heap.size q c s g) := Lib.hid (qy_new w _ q c s g rfl)
  clear hq h0 h2 hs
  generalize rows.all (rowB cols) = al at *
  generalize answG cols q (whrG cols q rows) = AN at *
  generalize whrG cols q rows = WR at *
  generalize ansE cols q rows = AE at *
  generalize rowsE cols q.whr rows = RE at *
  generalize fitQ cols q = z at *
  obtain ⟨tab, qc, ⟨⟨wo, wc, wm, ⟨wn, wi, wt⟩, wk, wp⟩, wks⟩, aggs, by_⟩ := q
  obtain ⟨sA, sn, sc⟩ := s
  dsimp only at hce hge
  subst hce hge
  unfold qyC kidV at F0 QB0
  unfold qyV qyC kidV at HFi HAn
  unfold pdV pdC kidV at HEr
  unfold qyV qyC kidV
  dsimp only [Pd.hd, Pd.kids] at F0 QB0 HFi HAn HEr ⊢
  obtain ⟨b, hb⟩ : ∃ b, w.heap.size = b := ⟨_, rfl⟩
  have HB := Lib.hid hb
  rw [hb] at QB0
  replace QB0 : Hid (QB _ b ⟨tab, qc, ⟨⟨wo, wc, wm, ⟨wn, wi, wt⟩, wk, wp⟩, wks⟩, aggs, by_⟩ (.slice cA qc.length cc) ⟨sA, sn, sc⟩ (.slice gA aggs.length gc)) := QB0
  obtain ⟨b0, b1, b2, b3, b4, b5, b6, b7, b8, b9, b10, b11, b12⟩ := qB_cells QB0.out
  dsimp only [Pd.hd, Pd.kids] at b0 b1 b2 b3 b4 b5 b6 b7 b8 b9 b10 b11 b12
  replace F0 := Lib.hid F0
  go_enter Tryz.func9, Tryz.ntmps9
  go_wp2_with fail
  refine (HFi.out _ F0.out).mono ?_
  rintro e w1 ⟨rfl, f1⟩
  replace QB0 : Hid (QB w1 b ⟨tab, qc, ⟨⟨wo, wc, wm, ⟨wn, wi, wt⟩, wk, wp⟩, wks⟩, aggs, by_⟩ (.slice cA qc.length cc) ⟨sA, sn, sc⟩ (.slice gA aggs.length gc)) := Lib.hid (QB0.out.fr f1 (fun e => e))
  replace F0 := Lib.hid (F0.out.trans f1)
  clear f1 b0 b1 b2 b3 b4 b5 b6 b7 b8 b9 b10 b11 b12 HFi
  by_cases hz : z = 0
  · subst hz
    replace HE1 := Lib.hid (HE1.out rfl)
    replace HE2 := Lib.hid (HE2.out rfl)
    replace HAn := Lib.hid (HAn.out rfl)
    clear HE0
    obtain ⟨b0, b1, b2, b3, b4, b5, b6, b7, b8, b9, b10, b11, b12⟩ := qB_cells QB0.out
    dsimp only [Pd.hd, Pd.kids] at b0 b1 b2 b3 b4 b5 b6 b7 b8 b9 b10 b11 b12
    go_wp2_with fail
    refine (HEr.out _ F0.out).mono ?_
    rintro e w2 ⟨⟨u, rfl, hu⟩, f2⟩
    have F2 := Lib.hid (F0.out.trans f2)
    replace QB0 : Hid (QB w2 b ⟨tab, qc, ⟨⟨wo, wc, wm, ⟨wn, wi, wt⟩, wk, wp⟩, wks⟩, aggs, by_⟩ (.slice cA qc.length cc) ⟨sA, sn, sc⟩ (.slice gA aggs.length gc)) := Lib.hid (QB0.out.fr f2 (fun e => e))
    clear f2 b0 b1 b2 b3 b4 b5 b6 b7 b8 b9 b10 b11 b12 HEr
    cases al with
    | false =>
      obtain ⟨e1, e2⟩ := HE1.out rfl
      have HX := Lib.hid e2
      rw [e1]
      clear e1 e2 HE1 HE2 HAn hu
      go_wp2
      go_ret2
      exact ⟨_, by rw [HX.out]; first | done | rfl, by rw [HX.out]; exact ro_nil _ _, F2.out⟩
    | true =>
      obtain ⟨e1, e2⟩ := HE2.out rfl
      have HX := Lib.hid e2
      rw [e1] at hu ⊢
      replace HAn := Lib.hid (HAn.out rfl)
      dsimp only at hu ⊢
      have HU := Lib.hid hu
      clear e1 e2 HE1 HE2
      obtain ⟨uA, uc, hue⟩ := hu.shape
      subst hue
      clear hu
      replace HTk := Lib.hid (fun W hf hP => HTk.out (.slice uA (plI pl).length uc) W hf hP)
      obtain ⟨b0, b1, b2, b3, b4, b5, b6, b7, b8, b9, b10, b11, b12⟩ := qB_cells QB0.out
      dsimp only [Pd.hd, Pd.kids] at b0 b1 b2 b3 b4 b5 b6 b7 b8 b9 b10 b11 b12
      go_wp2
      obtain ⟨V, hV⟩ : ∃ V, V = w2.drew := ⟨_, rfl⟩
      refine wp_region_held_drew (S := (fun W' => W'.cell? ⟨b, 0, none⟩ = some (.string ⟨tab.toArray⟩) ∧ W'.cell? ⟨b, 1, none⟩ = some (.slice cA qc.length cc) ∧ W'.cell? ⟨b, 2, none⟩ = some (.int .i64 wo) ∧ W'.cell? ⟨b, 3, none⟩ = some (.string ⟨wc.toArray⟩) ∧ W'.cell? ⟨b, 4, none⟩ = some (.int .i64 wm) ∧ W'.cell? ⟨b, 5, none⟩ = some (.bool wn) ∧ W'.cell? ⟨b, 6, none⟩ = some (.int .i64 wi) ∧ W'.cell? ⟨b, 7, none⟩ = some (.string ⟨wt.toArray⟩) ∧ W'.cell? ⟨b, 8, none⟩ = some (.int .i64 wk) ∧ W'.cell? ⟨b, 9, none⟩ = some (.string ⟨wp.toArray⟩) ∧ W'.cell? ⟨b, 10, none⟩ = some (.slice sA sn sc) ∧ W'.cell? ⟨b, 11, none⟩ = some (.slice gA aggs.length gc) ∧ W'.cell? ⟨b, 12, none⟩ = some (.string ⟨by_.toArray⟩))) (by kernel_rfl) (by exact ⟨b0, b1, b2, b3, b4, b5, b6, b7, b8, b9, b10, b11, b12⟩) (fun hHeld => ?_)
      rw [← hV]
      rw [← hV] at hHeld
      have FV : Fr Non w2 V := by rw [hV]; exact (Fr.refl Non w2).drew
      clear hV
      replace b0 := FV.at0 b0
      replace b1 := FV.at0 b1
      replace b2 := FV.at0 b2
      replace b3 := FV.at0 b3
      replace b4 := FV.at0 b4
      replace b5 := FV.at0 b5
      replace b6 := FV.at0 b6
      replace b7 := FV.at0 b7
      replace b8 := FV.at0 b8
      replace b9 := FV.at0 b9
      replace b10 := FV.at0 b10
      replace b11 := FV.at0 b11
      replace b12 := FV.at0 b12
      refine wpAnyH_take (i := 0) (oi := ⟨some 28, _, _, _, _, none⟩) (v := ?v1) rfl (by kernel_rfl) (by kernel_rfl) (by kernel_rfl) (fun _ _ _ h => h) (Or.inl ⟨by rfl, ?hy1⟩) (by assumption) ?rest1
      case hy1 => (intro wS hSw; (try dsimp only at hSw); go_simp; (try with_reducible rfl))
      (try simp only [Act.put, List.setIfInBounds_toArray, List.set_cons_zero, List.set_cons_succ])
      refine wpAnyH_take (i := 1) (oi := ⟨some 29, _, _, _, _, none⟩) (v := ?v2) rfl (by kernel_rfl) (by kernel_rfl) (by kernel_rfl) (fun _ _ _ h => h) (Or.inl ⟨by rfl, ?hy2⟩) (by assumption) ?rest2
      case hy2 => (intro wS hSw; (try dsimp only at hSw); go_simp; (try with_reducible rfl))
      (try simp only [Act.put, List.setIfInBounds_toArray, List.set_cons_zero, List.set_cons_succ])
      refine wpAnyH_take (i := 2) (oi := ⟨some 30, _, _, _, _, none⟩) (v := ?v3) rfl (by kernel_rfl) (by kernel_rfl) (by kernel_rfl) (fun _ _ _ h => h) (Or.inl ⟨by rfl, ?hy3⟩) (by assumption) ?rest3
      case hy3 => (intro wS hSw; (try dsimp only at hSw); go_simp; (try with_reducible rfl))
      (try simp only [Act.put, List.setIfInBounds_toArray, List.set_cons_zero, List.set_cons_succ])
      refine wpAnyH_take (i := 3) (oi := ⟨some 31, _, _, _, _, none⟩) (v := ?v4) rfl (by kernel_rfl) (by kernel_rfl) (by kernel_rfl) (fun _ _ _ h => h) (Or.inl ⟨by rfl, ?hy4⟩) (by assumption) ?rest4
      case hy4 => (intro wS hSw; (try dsimp only at hSw); go_simp; (try with_reducible rfl))
      (try simp only [Act.put, List.setIfInBounds_toArray, List.set_cons_zero, List.set_cons_succ])
      refine wpAnyH_ready (rs := [4]) (by kernel_rfl) (by simp) ?_
      refine AllReadyH.cons (o := ⟨some 32, _, _, _, _, none⟩) rfl (fun K hK => ?_) AllReadyH.nil
      go_simp
      go_at_call 24
      refine (HTk.out _ (F2.out.trans FV) (HU.out.non FV)).mono ?_
      rintro e w3 ⟨u3, rfl, hu3, f3⟩
      go_wp2_with fail
      refine hK.out _ _ (by exact ⟨f3.at0 b0, f3.at0 b1, f3.at0 b2, f3.at0 b3, f3.at0 b4, f3.at0 b5, f3.at0 b6, f3.at0 b7, f3.at0 b8, f3.at0 b9, f3.at0 b10, f3.at0 b11, f3.at0 b12⟩) (fun hHeld => ?_)
      clear hK K
      (try simp only [Act.put, List.setIfInBounds_toArray, List.set_cons_zero, List.set_cons_succ])
      replace b0 := f3.at0 b0
      replace b1 := f3.at0 b1
      replace b2 := f3.at0 b2
      replace b3 := f3.at0 b3
      replace b4 := f3.at0 b4
      replace b5 := f3.at0 b5
      replace b6 := f3.at0 b6
      replace b7 := f3.at0 b7
      replace b8 := f3.at0 b8
      replace b9 := f3.at0 b9
      replace b10 := f3.at0 b10
      replace b11 := f3.at0 b11
      replace b12 := f3.at0 b12
      have F3 := FV.trans f3
      clear FV f3
      refine wpAnyH_ready (rs := [5]) (by kernel_rfl) (by simp) ?_
      refine AllReadyH.cons (o := ⟨some 33, _, _, _, _, none⟩) rfl (fun K hK => ?_) AllReadyH.nil
      go_simp
      go_at_call 23
      refine (HAn.out u3 _ (F2.out.trans F3) hu3).mono ?_
      rintro e w4 ⟨u4, rfl, hu4, f4⟩
      go_wp2_with fail
      refine hK.out _ _ (by exact ⟨f4.at0 b0, f4.at0 b1, f4.at0 b2, f4.at0 b3, f4.at0 b4, f4.at0 b5, f4.at0 b6, f4.at0 b7, f4.at0 b8, f4.at0 b9, f4.at0 b10, f4.at0 b11, f4.at0 b12⟩) (fun hHeld => ?_)
      clear hK K
      (try simp only [Act.put, List.setIfInBounds_toArray, List.set_cons_zero, List.set_cons_succ])
      have F4 := Lib.hid (F2.out.trans (F3.trans f4))
      have HU4 := Lib.hid (hu4.mono (B' := w.heap.size) (F2.out.trans F3).size)
      obtain ⟨u4A, u4c, hu4e⟩ := hu4.shape
      subst hu4e
      replace b0 := f4.at0 b0
      replace b1 := f4.at0 b1
      replace b2 := f4.at0 b2
      replace b3 := f4.at0 b3
      replace b4 := f4.at0 b4
      replace b5 := f4.at0 b5
      replace b6 := f4.at0 b6
      replace b7 := f4.at0 b7
      replace b8 := f4.at0 b8
      replace b9 := f4.at0 b9
      replace b10 := f4.at0 b10
      replace b11 := f4.at0 b11
      replace b12 := f4.at0 b12
      clear F3 f4 hu3 hu4
      refine wpAnyH_take (i := 6) (oi := ⟨some 6, _, _, _, _, none⟩) (v := ?v5) rfl (by kernel_rfl) (by kernel_rfl) (by kernel_rfl) (fun _ _ _ h => h) (Or.inl ⟨by rfl, ?hy5⟩) (by assumption) ?rest5
      case hy5 => (intro wS hSw; (try dsimp only at hSw); go_simp; (try with_reducible rfl))
      (try simp only [Act.put, List.setIfInBounds_toArray, List.set_cons_zero, List.set_cons_succ])
      refine wpAnyH_take (i := 7) (oi := ⟨some 7, _, _, _, _, none⟩) (v := ?v6) rfl (by kernel_rfl) (by kernel_rfl) (by kernel_rfl) (fun _ _ _ h => h) (Or.inl ⟨by rfl, ?hy6⟩) (by assumption) ?rest6
      case hy6 => (intro wS hSw; (try dsimp only at hSw); go_simp; (try with_reducible rfl))
      (try simp only [Act.put, List.setIfInBounds_toArray, List.set_cons_zero, List.set_cons_succ])
      refine wpAnyH_done (by kernel_rfl) ?_ _
      clear hHeld b0 b1 b2 b3 b4 b5 b6 b7 b8 b9 b10 b11 b12
      go_wp2
      go_ret2
      exact ⟨_, by rw [HX.out]; first | done | rfl, by rw [HX.out]; exact HU4.out, F4.out⟩
  · have hd : (z != 0) = true := by rw [bne_iff_ne]; exact hz
    have HX := Lib.hid (HE0.out hz)
    clear hz HE0 HE1 HE2 HAn HTk HEr
    go_wp2
    go_ret2
    exact ⟨_, by rw [HX.out]; first | done | rfl, by rw [HX.out]; exact ro_nil _ _, F0.out⟩
end Go.Proofs.YtjcfjjhhbcgcmaaGreat


namespace Go.Proofs.YtjcfjjhhbcgcmaaGreat
set_option linter.unusedVariables false
set_option linter.unusedSimpArgs false
set_option maxRecDepth 100000
open Go.RowKit

theorem gnum_any (n : Int) (w : World) : Calls Tryz.prog 11 #[.int .i64 n] w fun e w' => e = .returned (.int .i64 n) ∧ Fr Non w w' := by
  go_enter Tryz.func11, Tryz.ntmps11
  go_wp2
  go_ret
  exact ⟨rfl, Fr.refl _ _⟩
def exG1 : Qy := ⟨[116], [], .mk ⟨1, [], 0, ⟨false, 0, []⟩, 0, []⟩ [], [⟨1, []⟩], []⟩
def exG2 : Qy := ⟨[116], [], .mk ⟨1, [], 0, ⟨false, 0, []⟩, 0, []⟩ [], [⟨1, []⟩], [97]⟩
theorem exG1_sm : SmQ exG1 := ⟨by decide, by decide, by decide, by decide, by decide, by decide, by decide +kernel, by decide +kernel⟩
theorem exG2_sm : SmQ exG2 := ⟨by decide, by decide, by decide, by decide, by decide, by decide, by decide +kernel, by decide +kernel⟩
theorem exG1_ans : ansE [⟨[97], 1, false⟩] exG1 [] = ([[⟨false, 0, []⟩]], 0) := by decide +kernel
theorem exG2_ans : ansE [⟨[97], 1, false⟩] exG2 [] = ([], 0) := by decide +kernel
set_option maxHeartbeats 4000000 in
theorem live23_any (w : World) : Calls Tryz.prog 8 #[] w fun e w' => e = .returned (.bool true) ∧ Fr Non w w' := by
  obtain ⟨W1, hW1⟩ : ∃ W, W = w.alloc (.cells #[.string ⟨#[97]⟩, .int .i64 1, .bool false] 56) := ⟨_, rfl⟩
  have K1 : Ks W1 (.slice (some ⟨w.heap.size, 0, none⟩) 1 1) [⟨[97], 1, false⟩] := by rw [hW1]; exact (no_lit (E := 56) fd_co w 0 w.heap.size [⟨[97], 1, false⟩] #[.string ⟨#[97]⟩, .int .i64 1, .bool false] rfl rfl (Nat.zero_le _) (by decide)).ns fd_co
  have s1 : W1.heap.size = w.heap.size + 1 := by rw [hW1]; simp
  have F1 : Fr Non w W1 := by rw [hW1]; exact (Fr.refl Non w).alloc _
  obtain ⟨W2, hW2⟩ : ∃ W, W = W1.alloc (.cells #[.int .i64 1, .string ⟨#[]⟩] 50) := ⟨_, rfl⟩
  have G2 : Gs W2 (.slice (some ⟨w.heap.size + 1, 0, none⟩) 1 1) [⟨1, []⟩] := by rw [hW2]; exact (no_lit (E := 50) fd_ag W1 0 (w.heap.size + 1) [⟨1, []⟩] #[.int .i64 1, .string ⟨#[]⟩] rfl s1.symm (Nat.zero_le _) (by decide)).ns fd_ag
  have s2 : W2.heap.size = w.heap.size + 1 + 1 := by rw [hW2]; simp [s1]
  have F2 : Fr Non W1 W2 := by rw [hW2]; exact (Fr.refl Non W1).alloc _
  obtain ⟨W3, hW3⟩ : ∃ W, W = W2.alloc (.cells #[.string ⟨#[116]⟩, .slice none 0 0, .int .i64 1, .string ⟨#[]⟩, .int .i64 0, .bool false, .int .i64 0, .string ⟨#[]⟩, .int .i64 0, .string ⟨#[]⟩, .slice none 0 0, .slice (some ⟨w.heap.size + 1, 0, none⟩) 1 1, .string ⟨#[]⟩] 31) := ⟨_, rfl⟩
  have QB3 : QB W3 (w.heap.size + 1 + 1) exG1 (.slice none 0 0) noKv (.slice (some ⟨w.heap.size + 1, 0, none⟩) 1 1) := by rw [hW3]; exact qy_new W2 _ exG1 (.slice none 0 0) noKv (.slice (some ⟨w.heap.size + 1, 0, none⟩) 1 1) s2.symm
  have F3 : Fr Non W2 W3 := by rw [hW3]; exact (Fr.refl Non W2).alloc _
  have HK := Lib.hid ((K1.non F2).non F3)
  have HG := Lib.hid (G2.non F3)
  have FF := Lib.hid ((F1.trans F2).trans F3)
  have hD : w.heap.size + 1 + 1 < W3.heap.size := QB3.lt
  have A1 := Lib.hid (fun W (hf : Fr Non W3 W) => ganswer_any (.slice (some ⟨w.heap.size, 0, none⟩) 1 1) (.slice none 0 0) [⟨[97], 1, false⟩] exG1 (.slice none 0 0) noKv (.slice (some ⟨w.heap.size + 1, 0, none⟩) 1 1) [] W (HK.out.non hf) ⟨Vs.nil_ _, Kd.nil_ _, HG.out.non hf, ⟨by decide, by decide⟩⟩ (Rs.nil_ _) (by decide) (by decide) exG1_sm (by decide) (fun r h => by cases h))
  have A2 := Lib.hid (fun W (hf : Fr (One (w.heap.size + 1 + 1)) W3 W) => ganswer_any (.slice (some ⟨w.heap.size, 0, none⟩) 1 1) (.slice none 0 0) [⟨[97], 1, false⟩] exG2 (.slice none 0 0) noKv (.slice (some ⟨w.heap.size + 1, 0, none⟩) 1 1) [] W (HK.out.fr hf (fun k hk e => by have e2 : k = w.heap.size + 1 + 1 := e; simp [Value.ownBlock] at hk; omega)) ⟨Vs.nil_ _, Kd.nil_ _, HG.out.fr hf (fun k hk e => by have e2 : k = w.heap.size + 1 + 1 := e; simp [Value.ownBlock] at hk; omega), ⟨by decide, by decide⟩⟩ (Rs.nil_ _) (by decide) (by decide) exG2_sm (by decide) (fun r h => by cases h))
  rw [exG1_ans] at A1
  rw [exG2_ans] at A2
  replace QB3 := Lib.hid QB3
  clear K1 G2 F1 F2 F3 s1 s2
  unfold qyV qyC kidV noKv exG1 at A1
  unfold qyV qyC kidV noKv exG2 at A2
  dsimp only [Pd.hd, Pd.kids] at A1 A2
  obtain ⟨b0, b1, b2, b3, b4, b5, b6, b7, b8, b9, b10, b11, b12⟩ := qB_cells QB3.out
  dsimp only [Pd.hd, Pd.kids, exG1, exG2, noKv] at b0 b1 b2 b3 b4 b5 b6 b7 b8 b9 b10 b11 b12
  subst hW1 hW2
  go_enter Tryz.func8, Tryz.ntmps8
  go_wp2_with fail
  rw [← hW3]
  clear hW3
  refine (A1.out _ (Fr.refl _ _)).mono ?_
  rintro e W4 ⟨u, rfl, hu, f4⟩
  obtain ⟨D, hDD⟩ : ∃ D, w.heap.size + 1 + 1 = D := ⟨_, rfl⟩
  rw [hDD] at hD QB3 A2 ⊢
  replace hDD := Lib.hid hDD
  obtain ⟨uA, uc, hue⟩ := hu.shape
  have hue2 : u = .slice uA 1 uc := hue
  subst hue2
  clear hue
  have QB4 : Hid (QB W4 D exG1 (.slice none 0 0) noKv (.slice (some ⟨w.heap.size + 1, 0, none⟩) 1 1)) := Lib.hid (QB3.out.fr f4 (fun e => e))
  have s5 : Fr (One D) W4 (W4.setCell ⟨D, 12, none⟩ (.string ⟨#[97]⟩)) := (Fr.refl (One D) W4).set1 12 _
  have QB5 : Hid (QB (W4.setCell ⟨D, 12, none⟩ (.string ⟨#[97]⟩)) D exG2 (.slice none 0 0) noKv (.slice (some ⟨w.heap.size + 1, 0, none⟩) 1 1)) := Lib.hid (Blk.set QB4.out 12 _)
  have hu5 := Lib.hid (ro_fr hu s5 (fun k hk e => by have e2 : k = D := e; omega))
  have F35 := Lib.hid (f4.any.trans s5)
  have z12 := QB4.out.frozen 12
  clear b0 b1 b2 b3 b4 b5 b6 b7 b8 b9 b10 b11 b12
  obtain ⟨b0, b1, b2, b3, b4, b5, b6, b7, b8, b9, b10, b11, b12⟩ := qB_cells QB4.out
  dsimp only [Pd.hd, Pd.kids, exG1, exG2, noKv] at b0 b1 b2 b3 b4 b5 b6 b7 b8 b9 b10 b11 b12
  clear A1 QB3 QB4 hu f4 s5
  go_wp2_with fail
  refine (A2.out _ F35.out).mono ?_
  rintro e W6 ⟨u2, rfl, hu2, f6⟩
  obtain ⟨vA, vc, hve⟩ := hu2.shape
  have hve2 : u2 = .slice vA 0 vc := hve
  subst hve2
  clear hve hu2
  have FE := Lib.hid (FF.out.fresh (F35.out.trans f6.any) (fun k e => by have e2 : k = D := e; have := hDD.out; omega))
  have hu6 := Lib.hid (hu5.out.non f6)
  clear hu5 F35 QB5 A2 f6 b12 z12
  go_wp2_with fail
  refine (gnum_any _ _).mono ?_
  rintro e W7 ⟨rfl, f7⟩
  have hu7 := Lib.hid (hu6.out.non f7)
  replace FE := Lib.hid (FE.out.trans f7)
  clear hu6 f7
  go_wp2_with fail
  refine (gnum_any _ _).mono ?_
  rintro e W8 ⟨rfl, f8⟩
  have hu8 := Lib.hid (hu7.out.non f8)
  replace FE := Lib.hid (FE.out.trans f8)
  clear hu7 f8
  obtain ⟨a, A', c', hA, -, hc1, hc2⟩ := hu8.out.rs.el 0 (by simp)
  subst hA
  rw [add_none] at hc1
  simp only [List.getElem_cons_zero, List.length_singleton] at hc1 hc2
  obtain ⟨a', hA', -, -, hel⟩ := hc2.addr (by decide)
  subst hA'
  obtain ⟨t0, t1, t2⟩ := (hel 0 (by decide)).lit
  rw [Nat.zero_mul, add_none] at t0 t1 t2
  simp only [List.getElem_cons_zero] at t0 t1 t2
  have hq := fun W => run_eql_cl W ⟨false, 0, []⟩ ⟨false, 0, []⟩
  rw [ceq_self] at hq
  dsimp only at hq
  clear hc2 hel hu8
  go_wp2
  go_ret
  exact ⟨rfl, FE.out⟩
end Go.Proofs.YtjcfjjhhbcgcmaaGreat


namespace Go.Proofs.YtjcfjjhhbcgcmaaGreat
set_option linter.unusedVariables false
set_option linter.unusedSimpArgs false
set_option maxRecDepth 100000
open Go.RowKit

set_option maxHeartbeats 1000000 in
theorem smallC_any (v : Value) (l : List Cl) (w : World) (hv : Cs w v l) :
    Calls Tryz.prog 18 #[v] w fun e w' => ∃ b, e = .returned (.bool b) ∧ (b = true → l.length ≤ 100) ∧ Fr Non w w' := by
  obtain ⟨A, c, rfl, hlc, hn, hcell⟩ := hv
  have HC := Lib.hid hcell
  have HN := Lib.hid hn
  clear hcell hn
  go_enter Tryz.func18, Tryz.ntmps18
  go_wp2
  go_loopw [3] (fun i wr => ∃ (k : Nat), k ≤ l.length ∧ k ≤ 200 ∧ i = .int .i64 k ∧ Fr Non w wr) (fun i _ => 200 - (intOf i).toNat)
  case atStart => exact ⟨0, Nat.zero_le _, Nat.zero_le _, rfl, Fr.refl _ _⟩
  case round =>
    obtain ⟨k, hk, hk2, rfl, hfr⟩ := hrel
    by_cases hlt : k < l.length
    · by_cases h200 : k < 200
      · cases A with
        | none => have := HN.out rfl; omega
        | some a =>
          obtain ⟨hc0, hc1, hc2⟩ := (hfr.at3 (HC.out a rfl k hlt)).lit
          generalize l[k] = x at *
          obtain ⟨xn, xi, xt⟩ := x
          dsimp only at hc0 hc1 hc2
          have hs := slen xt
          by_cases hx : 60 < xt.length
          · go_wp2
            go_ret
            exact ⟨false, rfl, (fun h => by cases h), hfr⟩
          · go_wp2
            go_roundw
            case rel => exact ⟨k + 1, by omega, by omega, by go_num, hfr⟩
            case measure => simp [intOf]; omega
      · go_wp2
        go_ret
        exact ⟨_, rfl, (fun h => by have := of_decide_eq_true h; omega), hfr⟩
    · go_wp2
      go_ret
      exact ⟨_, rfl, (fun h => by have := of_decide_eq_true h; omega), hfr⟩
end Go.Proofs.YtjcfjjhhbcgcmaaGreat


namespace Go.Proofs.YtjcfjjhhbcgcmaaGreat
set_option linter.unusedVariables false
set_option linter.unusedSimpArgs false
set_option maxRecDepth 100000
open Go.RowKit

/-- what Small answers -/
def SmR (cols : List Co) (rows : List (List Cl)) (e : Ending) : Prop := ∃ s, e = .returned (.bool s) ∧ (s = true → cols.length ≤ 20 ∧ (∀ c ∈ cols, c.name.length ≤ 100) ∧ rows.length ≤ 210)
theorem smR_no {cols : List Co} {rows : List (List Cl)} : SmR cols rows (.returned (.bool false)) := ⟨false, rfl, fun h => by cases h⟩
theorem smR_yes {cols : List Co} {rows : List (List Cl)} (h : cols.length ≤ 20 ∧ (∀ c ∈ cols, c.name.length ≤ 100) ∧ rows.length ≤ 210) : SmR cols rows (.returned (.bool true)) := ⟨true, rfl, fun _ => h⟩

set_option maxHeartbeats 2000000 in
theorem small13_any (v1 v2 : Value) (cols : List Co) (rows : List (List Cl)) (w : World) (h1 : Ks w v1 cols) (h2 : Rs w v2 rows) :
    Calls Tryz.prog 6 #[v1, v2] w fun e w' => SmR cols rows e ∧ Fr Non w w' := by
  obtain ⟨A1, c1, rfl⟩ := h1.shape
  obtain ⟨A2, c2, rfl⟩ := h2.shape
  have H1 := Lib.hid h1
  have H2 := Lib.hid h2
  clear h1 h2
  go_enter Tryz.func6, Tryz.ntmps6
  go_wp2
  go_loopw [5] (fun i wr => ∃ k : Nat, k ≤ rows.length ∧ k ≤ 250 ∧ i = .int .i64 k ∧ Fr Non w wr) (fun i _ => 250 - (intOf i).toNat)
  case atStart => exact ⟨0, Nat.zero_le _, Nat.zero_le _, rfl, Fr.refl _ _⟩
  case round =>
    obtain ⟨k, hk, hk2, rfl, hF⟩ := hrel
    have HF := Lib.hid hF
    by_cases hgo : k < rows.length ∧ k < 250
    · obtain ⟨hlt, h250⟩ := hgo
      obtain ⟨a, A', c', rfl, _, q1, hc1⟩ := (H2.out.non hF).el k hlt
      have HS := Lib.hid (smallC_any _ rows[k] wr hc1)
      clear hF hc1
      generalize rows[k] = r at *
      by_cases hr : 10 < r.length
      · have d1 : decide (10 < (r.length : Int)) = true := decide_eq_true (by omega)
        clear hr HS
        go_wp2
        go_ret
        exact ⟨smR_no, HF.out⟩
      · have d1 : decide (10 < (r.length : Int)) = false := decide_eq_false (by omega)
        clear hr
        go_wp2_with fail
        refine HS.out.mono ?_
        rintro e w2 ⟨s, rfl, _, f2⟩
        have HF2 := Lib.hid (HF.out.trans f2)
        clear HS HF f2
        cases s with
        | true =>
          go_wp2
          go_roundw
          case rel => exact ⟨k + 1, by omega, by omega, by go_num, HF2.out⟩
          case measure => simp [intOf]; omega
        | false =>
          go_wp2
          go_ret
          exact ⟨smR_no, HF2.out⟩
    · have HK := Lib.hid (ksmall_any _ cols wr (H1.out.non hF))
      have HGo := Lib.hid hgo
      clear hF
      by_cases hlt : k < rows.length
      · have h250 : ¬ k < 250 := fun h => hgo ⟨hlt, h⟩
        clear hgo
        go_wp2_with fail
        refine HK.out.mono ?_
        rintro e w2 ⟨s, rfl, hs, f2⟩
        have HF2 := Lib.hid (HF.out.trans f2)
        have HSs := Lib.hid hs
        clear HK hs f2
        cases s with
        | true =>
          have d2 : decide ((rows.length : Int) ≤ 210) = false := decide_eq_false (by omega)
          go_wp2
          go_ret
          exact ⟨smR_no, HF2.out⟩
        | false =>
          go_wp2
          go_ret
          exact ⟨smR_no, HF2.out⟩
      · clear hgo
        go_wp2_with fail
        refine HK.out.mono ?_
        rintro e w2 ⟨s, rfl, hs, f2⟩
        have HF2 := Lib.hid (HF.out.trans f2)
        have HSs := Lib.hid hs
        clear HK hs f2
        cases s with
        | true =>
          by_cases h210 : rows.length ≤ 210
          · have d2 : decide ((rows.length : Int) ≤ 210) = true := decide_eq_true (by omega)
            go_wp2
            go_ret
            exact ⟨smR_yes ⟨(HSs.out (by first | rfl | trivial)).1, (HSs.out (by first | rfl | trivial)).2, h210⟩, HF2.out⟩
          · have d2 : decide ((rows.length : Int) ≤ 210) = false := decide_eq_false (by omega)
            go_wp2
            go_ret
            exact ⟨smR_no, HF2.out⟩
        | false =>
          go_wp2
          go_ret
          exact ⟨smR_no, HF2.out⟩
end Go.Proofs.YtjcfjjhhbcgcmaaGreat


namespace Go.Proofs.YtjcfjjhhbcgcmaaGreat
set_option linter.unusedVariables false
set_option linter.unusedSimpArgs false
set_option maxRecDepth 100000
open Go.RowKit

/-- the first, and the others, of a slice -/
theorem Kd.fst {w : World} {a : Addr} {n c : Nat} {p : Pd} {l : List Pd} (h : Kd w ⟨some a, n, c⟩ (p :: l)) : Kd w ⟨some a, 1, c⟩ [p] := by
  cases h with
  | mk s ns ps hl hN hh hb hk =>
    obtain ⟨A, c', he, h1, h2, h3⟩ := hN
    unfold kidV at he
    simp only [Value.slice.injEq] at he
    obtain ⟨rfl, hn, rfl⟩ := he
    cases ns with
    | nil => cases hl
    | cons x r =>
      refine .mk _ [x] [p] rfl ⟨some a, c, rfl, by simp at h1 ⊢; omega, fun e => (by cases e), fun b hb' j hj => ?_⟩ (fun i h1 h2 => ?_) (fun i h2 => ?_) (fun i h1 h2 => ?_)
      · have hj0 : j = 0 := by simpa using hj
        subst hj0
        exact h3 b hb' 0 (by simp)
      · have hi : i = 0 := by simpa using h1
        subst hi; exact hh 0 (by simp) (by simp)
      · have hi : i = 0 := by simpa using h2
        subst hi; exact hb 0 (by simp)
      · have hi : i = 0 := by simpa using h1
        subst hi; exact hk 0 (by simp) (by simp)
end Go.Proofs.YtjcfjjhhbcgcmaaGreat


namespace Go.Proofs.YtjcfjjhhbcgcmaaGreat
set_option linter.unusedVariables false
set_option linter.unusedSimpArgs false
set_option maxRecDepth 100000
open Go.RowKit

theorem end_no {P : Prop} : SmEnd P (.returned (.bool false)) := ⟨false, rfl, fun h => by cases h⟩
set_option maxHeartbeats 2000000 in
theorem rqsmall_any (q : Qy) (c : Value) (s : Kv) (g : Value) (w : World) (hq : QyS w q c s g) :
    Calls Tryz.prog 7 #[qyV q c s g] w fun e w' => SmEnd (SmQ q) e ∧ Fr Non w w' := by
  have Q0 := Lib.hid (Qin.new hq)
  have P := Lib.hid (fun W (h : QyS W q c s g) => rpsmall_any q.whr s 9 9 W rfl (by omega) h.kids)
  have HE0 : Hid ((q.cols.length ≤ 15 ∧ ∀ x ∈ q.cols, x.length ≤ 100) → (q.aggs.length ≤ 15 ∧ ∀ a ∈ q.aggs, a.col.length ≤ 100) → q.tab.length ≤ 100 → q.by_.length ≤ 100 → (lenP q.whr = true ∧ depP q.whr ≤ 9) → SmQ q) := Lib.hid (fun a b c d e => ⟨a.1, a.2, b.1, b.2, c, d, e.1, e.2⟩)
  generalize SmQ q = R at *
  unfold pdV pdC at P
  obtain ⟨cA, cc, hce⟩ := hq.cols.shape
  obtain ⟨gA, gc, hge⟩ := hq.aggs.shape
  clear hq
  obtain ⟨tab, cols, ⟨⟨wo, wc, wm, ⟨wn, wi, wt⟩, wk, wp⟩, wks⟩, aggs, by_⟩ := q
  obtain ⟨sA, sn, sc⟩ := s
  dsimp only at hce hge
  subst hce
  subst hge
  unfold qyV qyC kidV at *
  dsimp only [Pd.hd, Pd.kids] at *
  go_enter Tryz.func7, Tryz.ntmps7
  go_wp2
  go_loopw [3] (fun i wr => ∃ k : Nat, k ≤ cols.length ∧ k ≤ 20 ∧ i = .int .i64 k ∧ Hid (∀ j (h : j < cols.length), j < k → cols[j].length ≤ 100) ∧ Hid (Qin w w.heap.size ⟨tab, cols, ⟨⟨wo, wc, wm, ⟨wn, wi, wt⟩, wk, wp⟩, wks⟩, aggs, by_⟩ (.slice cA cols.length cc) ⟨sA, sn, sc⟩ (.slice gA aggs.length gc) wr)) (fun i _ => 20 - (intOf i).toNat)
  case atStart => exact ⟨0, Nat.zero_le _, Nat.zero_le _, rfl, Lib.hid (fun _ _ h => by omega), Q0⟩
  case round =>
    clear Q0
    obtain ⟨k, hk, hk2, rfl, HS, QR⟩ := hrel
    obtain ⟨g0, g1, g2, g3, g4, g5, g6, g7, g8, g9, g10, g11, g12⟩ := QR.out.cells
    dsimp only [Pd.hd, Pd.kids] at g0 g1 g2 g3 g4 g5 g6 g7 g8 g9 g10 g11 g12
    by_cases hlt : k < cols.length
    · by_cases h20 : k < 20
      · obtain ⟨a, rfl, _, _, hel⟩ := QR.out.sls.cols.addr (show 0 < cols.length by omega)
        have c0 := hel k hlt
        unfold sv at c0
        have HY : Hid (cols[k].length ≤ 100 → ∀ j (h : j < cols.length), j < k + 1 → cols[j].length ≤ 100) := Lib.hid (fun h j hj hjk => by
          by_cases e : j = k
          · subst e; exact h
          · exact HS.out j hj (by omega))
        clear HS hel
        try dsimp only at c0
        generalize cols[k] = y at *
        have hsl := slenN y
        by_cases hy : 100 < y.length
        · go_wp2
          go_ret
          exact ⟨end_no, QR.out.fr⟩
        · have H := Lib.hid (HY.out (by omega))
          clear HY
          go_wp2
          go_roundw
          case rel => exact ⟨k + 1, by omega, by omega, by go_num, H, QR⟩
          case measure => simp [intOf]; omega
      · have HN : Hid (¬ cols.length ≤ 15) := Lib.hid (by omega)
        clear HS
        rename World => W1
        go_wp2
        clear g0 g1 g2 g3 g4 g5 g6 g7 g8 g9 g10 g11 g12
        go_loopw [4] (fun i wr => ∃ k : Nat, k ≤ aggs.length ∧ k ≤ 20 ∧ i = .int .i64 k ∧ Hid (∀ j (h : j < aggs.length), j < k → aggs[j].col.length ≤ 100) ∧ Hid (Qin w w.heap.size ⟨tab, cols, ⟨⟨wo, wc, wm, ⟨wn, wi, wt⟩, wk, wp⟩, wks⟩, aggs, by_⟩ (.slice cA cols.length cc) ⟨sA, sn, sc⟩ (.slice gA aggs.length gc) wr)) (fun i _ => 20 - (intOf i).toNat)
        case atStart => exact ⟨0, Nat.zero_le _, Nat.zero_le _, rfl, Lib.hid (fun _ _ h => by omega), QR⟩
        case round =>
          clear QR
          obtain ⟨m, hm, hm2, rfl, HS2, QR⟩ := hrel
          obtain ⟨g0, g1, g2, g3, g4, g5, g6, g7, g8, g9, g10, g11, g12⟩ := QR.out.cells
          dsimp only [Pd.hd, Pd.kids] at g0 g1 g2 g3 g4 g5 g6 g7 g8 g9 g10 g11 g12
          by_cases hlt2 : m < aggs.length
          · by_cases h202 : m < 20
            · obtain ⟨b, rfl, _, d0, d1⟩ := Ns.gat QR.out.sls.aggs m hlt2
              have HY : Hid (aggs[m].col.length ≤ 100 → ∀ j (h : j < aggs.length), j < m + 1 → aggs[j].col.length ≤ 100) := Lib.hid (fun h j hj hjk => by
                by_cases e : j = m
                · subst e; exact h
                · exact HS2.out j hj (by omega))
              clear HS2
              try dsimp only at d0 d1
              generalize aggs[m] = x at *
              obtain ⟨xo, xn⟩ := x
              dsimp only at d0 d1 HY
              have hsl := slenN xn
              by_cases hy : 100 < xn.length
              · go_wp2
                go_ret
                exact ⟨end_no, QR.out.fr⟩
              · have H2 := Lib.hid (HY.out (by omega))
                clear HY
                go_wp2
                go_roundw
                case rel => exact ⟨m + 1, by omega, by omega, by go_num, H2, QR⟩
                case measure => simp [intOf]; omega
            · have HN2 : Hid (¬ aggs.length ≤ 15) := Lib.hid (by omega)
              have hc15 : ¬ cols.length ≤ 15 := HN.out
              go_wp2
              go_ret
              exact ⟨end_no, QR.out.fr⟩
          · have H2 : Hid (∀ a ∈ aggs, a.col.length ≤ 100) := Lib.hid (fun x hx => by
              obtain ⟨j, hj, rfl⟩ := List.mem_iff_getElem.1 hx
              exact HS2.out j hj (by omega))
            have hc15 : ¬ cols.length ≤ 15 := HN.out
            go_wp2
            go_ret
            exact ⟨end_no, QR.out.fr⟩
    · have H : Hid (∀ x ∈ cols, x.length ≤ 100) := Lib.hid (fun x hx => by
        obtain ⟨j, hj, rfl⟩ := List.mem_iff_getElem.1 hx
        exact HS.out j hj (by omega))
      clear HS
      rename World => W1
      go_wp2
      clear g0 g1 g2 g3 g4 g5 g6 g7 g8 g9 g10 g11 g12
      go_loopw [4] (fun i wr => ∃ k : Nat, k ≤ aggs.length ∧ k ≤ 20 ∧ i = .int .i64 k ∧ Hid (∀ j (h : j < aggs.length), j < k → aggs[j].col.length ≤ 100) ∧ Hid (Qin w w.heap.size ⟨tab, cols, ⟨⟨wo, wc, wm, ⟨wn, wi, wt⟩, wk, wp⟩, wks⟩, aggs, by_⟩ (.slice cA cols.length cc) ⟨sA, sn, sc⟩ (.slice gA aggs.length gc) wr)) (fun i _ => 20 - (intOf i).toNat)
      case atStart => exact ⟨0, Nat.zero_le _, Nat.zero_le _, rfl, Lib.hid (fun _ _ h => by omega), QR⟩
      case round =>
        clear QR
        obtain ⟨m, hm, hm2, rfl, HS2, QR⟩ := hrel
        obtain ⟨g0, g1, g2, g3, g4, g5, g6, g7, g8, g9, g10, g11, g12⟩ := QR.out.cells
        dsimp only [Pd.hd, Pd.kids] at g0 g1 g2 g3 g4 g5 g6 g7 g8 g9 g10 g11 g12
        by_cases hlt2 : m < aggs.length
        · by_cases h202 : m < 20
          · obtain ⟨b, rfl, _, d0, d1⟩ := Ns.gat QR.out.sls.aggs m hlt2
            have HY : Hid (aggs[m].col.length ≤ 100 → ∀ j (h : j < aggs.length), j < m + 1 → aggs[j].col.length ≤ 100) := Lib.hid (fun h j hj hjk => by
              by_cases e : j = m
              · subst e; exact h
              · exact HS2.out j hj (by omega))
            clear HS2
            try dsimp only at d0 d1
            generalize aggs[m] = x at *
            obtain ⟨xo, xn⟩ := x
            dsimp only at d0 d1 HY
            have hsl := slenN xn
            by_cases hy : 100 < xn.length
            · go_wp2
              go_ret
              exact ⟨end_no, QR.out.fr⟩
            · have H2 := Lib.hid (HY.out (by omega))
              clear HY
              go_wp2
              go_roundw
              case rel => exact ⟨m + 1, by omega, by omega, by go_num, H2, QR⟩
              case measure => simp [intOf]; omega
          · have HN2 : Hid (¬ aggs.length ≤ 15) := Lib.hid (by omega)
            by_cases hc15 : cols.length ≤ 15
            · have hg15 : ¬ aggs.length ≤ 15 := HN2.out
              go_wp2
              go_ret
              exact ⟨end_no, QR.out.fr⟩
            · go_wp2
              go_ret
              exact ⟨end_no, QR.out.fr⟩
        · have H2 : Hid (∀ a ∈ aggs, a.col.length ≤ 100) := Lib.hid (fun x hx => by
            obtain ⟨j, hj, rfl⟩ := List.mem_iff_getElem.1 hx
            exact HS2.out j hj (by omega))
          have st := slenN tab
          have sb := slenN by_
          by_cases hc15 : cols.length ≤ 15
          · by_cases hg15 : aggs.length ≤ 15
            · by_cases ht : tab.length ≤ 100
              · by_cases hb : by_.length ≤ 100
                · go_wp2_with fail
                  refine (P.out _ QR.out.sls).mono ?_
                  rintro e w5 ⟨⟨b5, rfl, hb5⟩, f5⟩
                  have HB5 := Lib.hid hb5
                  clear hb5
                  have HR : Hid (b5 = true → R) := Lib.hid (fun e => HE0.out ⟨hc15, H.out⟩ ⟨hg15, H2.out⟩ ht hb (HB5.out e))
                  go_wp2
                  go_ret
                  exact ⟨⟨_, rfl, HR.out⟩, QR.out.fr.trans f5⟩
                · go_wp2
                  go_ret
                  exact ⟨end_no, QR.out.fr⟩
              · go_wp2
                go_ret
                exact ⟨end_no, QR.out.fr⟩
            · go_wp2
              go_ret
              exact ⟨end_no, QR.out.fr⟩
          · go_wp2
            go_ret
            exact ⟨end_no, QR.out.fr⟩
end Go.Proofs.YtjcfjjhhbcgcmaaGreat


namespace Go.Proofs.YtjcfjjhhbcgcmaaGreat
set_option linter.unusedVariables false
set_option linter.unusedSimpArgs false
set_option maxRecDepth 100000
open Go.RowKit

theorem ansE_ok {cols : List Co} {q : Qy} {rows : List (List Cl)} (h : (ansE cols q rows).2 = 0) : fitQ cols q = 0 ∧ (∀ r ∈ rows, rowB cols r = true) ∧ (ansE cols q rows).1 = answG cols q (whrG cols q rows) := by
  unfold ansE at h ⊢
  split at h
  · split at h
    · rename_i h1 h2
      rw [if_pos h1, if_pos h2]
      exact ⟨h1, List.all_eq_true.1 h2, rfl⟩
    · cases h
  · rename_i h1
    exact absurd h h1
end Go.Proofs.YtjcfjjhhbcgcmaaGreat


namespace Go.Proofs.YtjcfjjhhbcgcmaaGreat
set_option linter.unusedVariables false
set_option linter.unusedSimpArgs false
set_option maxRecDepth 100000
open Go.RowKit

/-- the query that counts, by groups, and of all -/
def cntQ (q : Qy) : Qy := ⟨q.tab, [], q.whr, [⟨1, []⟩], q.by_⟩
def allQ' (q : Qy) : Qy := ⟨q.tab, [], q.whr, [⟨1, []⟩], []⟩
theorem cntQ_sm {q : Qy} (h : SmQ q) : SmQ (cntQ q) := ⟨by simp [cntQ], fun x hx => (by cases hx), by simp [cntQ], fun a ha => (by obtain rfl := List.mem_singleton.1 ha; simp), h.tab, h.by_, h.lens, h.deep⟩
theorem allQ'_sm {q : Qy} (h : SmQ q) : SmQ (allQ' q) := ⟨by simp [allQ'], fun x hx => (by cases hx), by simp [allQ'], fun a ha => (by obtain rfl := List.mem_singleton.1 ha; simp), h.tab, by simp [allQ'], h.lens, h.deep⟩
theorem cnt_vals (cols : List Co) (q : Qy) (T : List (List Cl)) (h : q.aggs = [⟨1, []⟩]) : valsG cols q T = [⟨false, T.length, []⟩] := by
  unfold valsG
  rw [h, List.map_cons, List.map_nil, agC_count]
theorem cnt_one {cols : List Co} {q : Qy} {rows : List (List Cl)} (h : (ansE cols (cntQ q) rows).2 = 0) (hb : q.by_ = []) : ∃ c, (ansE cols (cntQ q) rows).1 = [[c]] := by
  obtain ⟨h1, h2, h3⟩ := ansE_ok h
  rw [h3]
  unfold answG
  rw [if_neg (by simp [cntQ]), if_pos (show (cntQ q).by_ = [] from hb), cnt_vals _ _ _ rfl]
  exact ⟨_, rfl⟩
theorem cnt_many {cols : List Co} {q : Qy} {rows : List (List Cl)} (hl : rows.length ≤ 210) (h : (ansE cols (cntQ q) rows).2 = 0) (h' : (ansE cols (allQ' q) rows).2 = 0) (hb : ¬ q.by_ = []) :
    ∃ (KS : List Cl) (cn : Cl → Nat) (tt : Nat → Nat) (N : Nat), N ≤ 210 ∧ KS.length ≤ 210 ∧ (ansE cols (cntQ q) rows).1 = KS.map (fun c => [c, ⟨false, (cn c : Int), []⟩]) ∧ (∀ j (h : j < KS.length), 1 ≤ cn KS[j] ∧ cn KS[j] ≤ 210 ∧ tt (j + 1) = tt j + cn KS[j]) ∧ (∀ j, tt j ≤ 210) ∧ tt 0 = 0 ∧ tt KS.length = N ∧ (∀ j (h : j + 1 < KS.length), ordC KS[j] KS[j + 1] < 0) ∧ (ansE cols (allQ' q) rows).1 = [[⟨false, (N : Int), []⟩]] := by
  obtain ⟨h1, h2, h3⟩ := ansE_ok h
  obtain ⟨k1, k2, k3⟩ := ansE_ok h'
  have hw : whrG cols (allQ' q) rows = whrG cols (cntQ q) rows := rfl
  rw [hw] at k3
  have hT : (whrG cols (cntQ q) rows).length ≤ 210 := Nat.le_trans (List.length_filter_le _ _) hl
  generalize whrG cols (cntQ q) rows = T at *
  have htot := keys_total cols q.by_ T
  have hcl : ∀ c, cntK (fun r => cellN cols r q.by_) T c ≤ 210 := fun c => Nat.le_trans (List.length_filter_le _ _) hT
  refine ⟨keysG cols q.by_ T, cntK (fun r => cellN cols r q.by_) T, fun j => totK (fun r => cellN cols r q.by_) T ((keysG cols q.by_ T).take j), T.length, hT, ?_, ?_, fun j hj => ⟨keys_some cols q.by_ T (List.getElem_mem hj), hcl _, totK_take _ _ hj⟩, fun j => ?_, by simp [totK], by dsimp only; rw [List.take_length]; exact htot, fun j hj => ?_, ?_⟩
  · unfold keysG
    have := keys_len (T.map fun r => cellN cols r q.by_)
    rw [List.length_map] at this
    omega
  · rw [h3]
    unfold answG
    rw [if_neg (by simp [cntQ]), if_neg (show ¬ (cntQ q).by_ = [] from hb)]
    unfold byG
    refine List.map_congr_left (fun c hc => ?_)
    rw [cnt_vals _ _ _ rfl]
    rfl
  · exact Nat.le_trans (totK_le (fun r => cellN cols r q.by_) T (keysG cols q.by_ T) j) (by rw [htot]; exact hT)
  · exact rise_at (keys_rise _) (Nat.lt_succ_self j) hj
  · rw [k3]
    unfold answG
    rw [if_neg (by simp [allQ']), if_pos (show (allQ' q).by_ = [] from rfl), cnt_vals _ _ _ rfl]
/-- a row of two, of the call's own -/
theorem cnt_row {w : World} {B n uc : Nat} {ua : Addr} {KS : List Cl} {cn : Cl → Nat} (h : Ro w B (.slice (some ua) n uc) (KS.map fun c => [c, ⟨false, (cn c : Int), []⟩])) (j : Nat) (hj : j < KS.length) :
    ∃ g cap, w.cell? (ua.add j) = some (.slice (some ⟨g, 0, none⟩) 2 cap) ∧ w.cell? ⟨g, 0, none⟩ = some (.bool KS[j].null) ∧ w.cell? ⟨g, 1, none⟩ = some (.int .i64 KS[j].num) ∧ w.cell? ⟨g, 2, none⟩ = some (.string ⟨KS[j].txt.toArray⟩) ∧ w.cell? ⟨g, 4, none⟩ = some (.int .i64 (cn KS[j])) := by
  obtain ⟨hs, h1, h2, h3⟩ := h
  rw [List.length_map] at h1
  have h4 := h3 j (by omega) (by simpa using hj)
  rw [List.getElem_map] at h4
  obtain ⟨g, cap, hv, -, -, -, -⟩ := h4.row (by simp)
  have hv2 : slV hs[j] = .slice (some ⟨g, 0, none⟩) 2 cap := hv
  obtain ⟨A0, c0, he, _⟩ := h2.vs
  have h2' : Vs slV w (.slice (some ua) n uc) hs := h2.vs
  simp only [Value.slice.injEq] at he
  obtain ⟨_, rfl, _⟩ := he
  obtain ⟨a, ha, -, -, hc⟩ := h2'.addr (by omega)
  obtain rfl := Option.some.inj ha
  have h5 := hc j (by omega)
  rw [hv2] at h4 h5
  obtain ⟨e0, e1, e2⟩ := h4.el rfl 0 KS[j] rfl
  obtain ⟨-, f1, -⟩ := h4.el rfl 1 _ rfl
  exact ⟨g, cap, h5, e0, e1, e2, f1⟩
theorem ro_some {w : World} {B n c : Nat} {A : Option Addr} {rs : List (List Cl)} (h : Ro w B (.slice A n c) rs) (h0 : 0 < rs.length) : ∃ a, A = some a := by
  obtain ⟨a, _, _, hA, -⟩ := h.rs.el 0 h0
  exact ⟨a, hA⟩
theorem one_row {w : World} {B n uc : Nat} {A : Option Addr} {c : Cl} (h : Ro w B (.slice A n uc) [[c]]) :
    ∃ a g cap, A = some a ∧ w.cell? a = some (.slice (some ⟨g, 0, none⟩) 1 cap) ∧ w.cell? ⟨g, 1, none⟩ = some (.int .i64 c.num) := by
  obtain ⟨a, ha⟩ := ro_some h (by simp)
  subst ha
  obtain ⟨hs, h1, h2, h3⟩ := h
  have hl0 : 0 < hs.length := by rw [h1]; simp
  have h4 := h3 0 hl0 (by simp)
  obtain ⟨g, cap, hv, -, -, -, -⟩ := h4.row (by simp)
  have hv2 : slV hs[0] = .slice (some ⟨g, 0, none⟩) 1 cap := hv
  obtain ⟨A0, c0, he, _⟩ := h2.vs
  have h2' : Vs slV w (.slice (some a) n uc) hs := h2.vs
  simp only [Value.slice.injEq] at he
  obtain ⟨_, rfl, _⟩ := he
  obtain ⟨a', ha', -, -, hc⟩ := h2'.addr (by rw [h1]; simp)
  obtain rfl := Option.some.inj ha'
  have h5 := hc 0 (by rw [h1]; simp)
  rw [hv2] at h4 h5
  rw [add_none] at h5
  obtain ⟨e0, e1, e2⟩ := h4.el rfl 0 c rfl
  exact ⟨a, g, cap, rfl, h5, e1⟩
set_option maxHeartbeats 16000000 in
theorem groupCounts_walk (v0 v2 : Value) (cols : List Co) (q : Qy) (c : Value) (s : Kv) (g : Value) (rows : List (List Cl)) (w : World) (h0 : Ks w v0 cols) (hq : QyS w q c s g) (h2 : Rs w v2 rows) (hw : ∀ r ∈ rows, ∀ c ∈ r, okC c) :
    Calls Tryz.prog 5 #[v0, qyV q c s g, v2] w fun e w' => e = .returned (.bool true) ∧ Below w.heap.size w w' := by
  have SK := Lib.hid (small13_any v0 v2 cols rows _ (h0.non ((Fr.refl Non w).alloc (.cells (qyC q c s g) 31))) (h2.non ((Fr.refl Non w).alloc (.cells (qyC q c s g) 31))))
  have SQ := Lib.hid (fun W (hf : Fr Non w W) => rqsmall_any q c s g W (hq.non hf))
  have HA1 : Hid (SmQ q → (cols.length ≤ 20 ∧ (∀ c ∈ cols, c.name.length ≤ 100) ∧ rows.length ≤ 210) → ∀ gv W, Fr Non w W → Gs W gv [⟨1, []⟩] → Calls Tryz.prog 9 #[v0, qyV (cntQ q) (.slice none 0 0) s gv, v2] W fun e w' => ∃ u, e = .returned (.tuple #[u, .int .i64 (ansE cols (cntQ q) rows).2]) ∧ Ro w' W.heap.size u (ansE cols (cntQ q) rows).1 ∧ Fr Non W w') := Lib.hid (fun hs hc gv W hf hg => ganswer_any v0 v2 cols (cntQ q) (.slice none 0 0) s gv rows W (h0.non hf) ⟨Vs.nil_ _, (hq.non hf).kids, hg, hq.num⟩ (h2.non hf) hc.1 hc.2.1 (cntQ_sm hs) hc.2.2 hw)
  have HA2 : Hid (SmQ q → (cols.length ≤ 20 ∧ (∀ c ∈ cols, c.name.length ≤ 100) ∧ rows.length ≤ 210) → ∀ gv W, Fr Non w W → Gs W gv [⟨1, []⟩] → Calls Tryz.prog 9 #[v0, qyV (allQ' q) (.slice none 0 0) s gv, v2] W fun e w' => ∃ u, e = .returned (.tuple #[u, .int .i64 (ansE cols (allQ' q) rows).2]) ∧ Ro w' W.heap.size u (ansE cols (allQ' q) rows).1 ∧ Fr Non W w') := Lib.hid (fun hs hc gv W hf hg => ganswer_any v0 v2 cols (allQ' q) (.slice none 0 0) s gv rows W (h0.non hf) ⟨Vs.nil_ _, (hq.non hf).kids, hg, hq.num⟩ (h2.non hf) hc.1 hc.2.1 (allQ'_sm hs) hc.2.2 hw)
  have HM1 : Hid ((ansE cols (cntQ q) rows).2 = 0 → q.by_ = [] → ∃ c, (ansE cols (cntQ q) rows).1 = [[c]]) := Lib.hid (fun e e2 => cnt_one e e2)
  have HM2 : Hid (rows.length ≤ 210 → (ansE cols (cntQ q) rows).2 = 0 → (ansE cols (allQ' q) rows).2 = 0 → ¬ q.by_ = [] → ∃ (KS : List Cl) (cnt tot : Cl → Nat → Nat), True ∧ ∃ (cn : Cl → Nat) (tt : Nat → Nat) (N : Nat), N ≤ 210 ∧ KS.length ≤ 210 ∧ (ansE cols (cntQ q) rows).1 = KS.map (fun c => [c, ⟨false, (cn c : Int), []⟩]) ∧ (∀ j (h : j < KS.length), 1 ≤ cn KS[j] ∧ cn KS[j] ≤ 210 ∧ tt (j + 1) = tt j + cn KS[j]) ∧ (∀ j, tt j ≤ 210) ∧ tt 0 = 0 ∧ tt KS.length = N ∧ (∀ j (h : j + 1 < KS.length), ordC KS[j] KS[j + 1] < 0) ∧ (ansE cols (allQ' q) rows).1 = [[⟨false, (N : Int), []⟩]]) := Lib.hid (fun hl e e2 e3 => by
    obtain ⟨KS, cn, tt, N, h⟩ := cnt_many hl e e2 e3
    exact ⟨KS, fun _ _ => 0, fun _ _ => 0, trivial, cn, tt, N, h⟩)
  have Q0 := Lib.hid (Qin.new hq)
  obtain ⟨A0, c0, hv0⟩ := h0.shape
  obtain ⟨A2, c2, hv2⟩ := h2.shape
  have HV0 := Lib.hid h0
  have HV2 := Lib.hid h2
  obtain ⟨cA, cc, hce⟩ := hq.cols.shape
  obtain ⟨gA, gc, hge⟩ := hq.aggs.shape
  have HQ := Lib.hid hq
  clear hq h0 h2 hw
  subst hv0 hv2
  generalize SmQ q = P at *
  unfold cntQ at *
  unfold allQ' at *
  obtain ⟨R, hR⟩ : ∃ R, ansE cols ⟨q.tab, [], q.whr, [⟨1, []⟩], q.by_⟩ rows = R := ⟨_, rfl⟩
  obtain ⟨S, hS⟩ : ∃ S, ansE cols ⟨q.tab, [], q.whr, [⟨1, []⟩], []⟩ rows = S := ⟨_, rfl⟩
  simp only [hR, hS] at HA1 HA2 HM1 HM2
  clear hR hS
  obtain ⟨R1, R2⟩ := R
  obtain ⟨S1, S2⟩ := S
  dsimp only at HA1 HA2 HM1 HM2
  obtain ⟨tab, qc, ⟨⟨wo, wc, wm, ⟨wn, wi, wt⟩, wk, wp⟩, wks⟩, aggs, by_⟩ := q
  obtain ⟨sA, sn, sc⟩ := s
  dsimp only at hce hge
  subst hce hge
  obtain ⟨b, hb⟩ : ∃ b, w.heap.size = b := ⟨_, rfl⟩
  have QB0 : Hid (QB _ b ⟨tab, qc, ⟨⟨wo, wc, wm, ⟨wn, wi, wt⟩, wk, wp⟩, wks⟩, aggs, by_⟩ (.slice cA qc.length cc) ⟨sA, sn, sc⟩ (.slice gA aggs.length gc)) := Lib.hid (by have := Q0.out.blk; rw [hb] at this; exact this)
  have F0 := Lib.hid Q0.out.fr
  clear Q0
  unfold qyC kidV at QB0 F0 SK
  unfold qyV qyC kidV at SQ ⊢
  unfold qyV qyC kidV at HA1 HA2
  dsimp only [Pd.hd, Pd.kids] at QB0 F0 SK SQ HA1 HA2 HM1 HM2 ⊢
  have HB := Lib.hid hb
  obtain ⟨b0, b1, b2, b3, b4, b5, b6, b7, b8, b9, b10, b11, b12⟩ := qB_cells QB0.out
  dsimp only [Pd.hd, Pd.kids] at b0 b1 b2 b3 b4 b5 b6 b7 b8 b9 b10 b11 b12
  go_enter Tryz.func5, Tryz.ntmps5
  go_wp2_with fail
  refine SK.out.mono ?_
  rintro e w1 ⟨⟨b1', rfl, hb1⟩, f1⟩
  have HB1 := Lib.hid hb1
  have F1 := Lib.hid (F0.out.trans f1)
  have QB1 : Hid (QB w1 b ⟨tab, qc, ⟨⟨wo, wc, wm, ⟨wn, wi, wt⟩, wk, wp⟩, wks⟩, aggs, by_⟩ (.slice cA qc.length cc) ⟨sA, sn, sc⟩ (.slice gA aggs.length gc)) := Lib.hid (QB0.out.fr f1 (fun e => e))
  clear hb1 f1 F0 QB0 SK hb
  cases b1'
  · clear SQ HA1 HA2 HM1 HM2
    go_wp2_with fail
    refine (live23_any _).mono ?_
    rintro e wl ⟨rfl, fl⟩
    go_wp2
    go_ret
    exact ⟨rfl, (F1.out.trans fl).below⟩
  · clear b0 b1 b2 b3 b4 b5 b6 b7 b8 b9 b10 b11 b12
    obtain ⟨b0, b1, b2, b3, b4, b5, b6, b7, b8, b9, b10, b11, b12⟩ := qB_cells QB1.out
    dsimp only [Pd.hd, Pd.kids] at b0 b1 b2 b3 b4 b5 b6 b7 b8 b9 b10 b11 b12
    go_wp2_with fail
    refine (SQ.out _ F1.out).mono ?_
    rintro e w2 ⟨⟨b2', rfl, hb2⟩, f2⟩
    have HB2 := Lib.hid hb2
    have F2 := Lib.hid (F1.out.trans f2)
    have QB2 : Hid (QB w2 b ⟨tab, qc, ⟨⟨wo, wc, wm, ⟨wn, wi, wt⟩, wk, wp⟩, wks⟩, aggs, by_⟩ (.slice cA qc.length cc) ⟨sA, sn, sc⟩ (.slice gA aggs.length gc)) := Lib.hid (QB1.out.fr f2 (fun e => e))
    clear hb2 f2 F1 QB1 SQ
    clear b0 b1 b2 b3 b4 b5 b6 b7 b8 b9 b10 b11 b12
    cases b2'
    · clear HA1 HA2 HM1 HM2
      go_wp2_with fail
      refine (live23_any _).mono ?_
      rintro e wl ⟨rfl, fl⟩
      go_wp2
      go_ret
      exact ⟨rfl, (F2.out.trans fl).below⟩
    · have hp := HB2.out (by trivial)
      have hc := HB1.out (by trivial)
      replace HA1 := Lib.hid (HA1.out hp hc)
      replace HA2 := Lib.hid (HA2.out hp hc)
      replace HM2 := Lib.hid (HM2.out hc.2.2)
      clear HB1 HB2 hp hc
      have hbl : b < w2.heap.size := QB2.out.lt
      obtain ⟨G, hG⟩ : ∃ G, w2.heap.size = G := ⟨_, rfl⟩
      obtain ⟨Wa, hWa⟩ : ∃ W, W = (w2.setCell ⟨b, 1, none⟩ (.slice none 0 0)).setCell ⟨b, 11, none⟩ (.slice (some ⟨G, 0, none⟩) 1 1) := ⟨_, rfl⟩
      have sa : Fr (One b) w2 Wa := by rw [hWa]; exact ((Fr.refl (One b) w2).set1 1 _).set1 11 _
      have hGa : Wa.heap.size = G := by rw [hWa]; simpa using hG
      have QBa : QB Wa b ⟨tab, [], ⟨⟨wo, wc, wm, ⟨wn, wi, wt⟩, wk, wp⟩, wks⟩, [⟨1, []⟩], by_⟩ (.slice none 0 0) ⟨sA, sn, sc⟩ (.slice (some ⟨G, 0, none⟩) 1 1) := by rw [hWa]; exact (QB2.out.set 1 _).set 11 _
      obtain ⟨W3, hW3⟩ : ∃ W, W = Wa.alloc (.cells #[.int .i64 1, .string ⟨#[]⟩] 50) := ⟨_, rfl⟩
      have G3 : Hid (Gs W3 (.slice (some ⟨G, 0, none⟩) 1 1) [⟨1, []⟩]) := Lib.hid (by rw [hW3]; exact (no_lit (E := 50) fd_ag Wa 0 G [⟨1, []⟩] #[.int .i64 1, .string ⟨#[]⟩] rfl hGa.symm (Nat.zero_le _) (by decide)).ns fd_ag)
      have Fa : Fr Non Wa W3 := by rw [hW3]; exact (Fr.refl Non Wa).alloc _
      have QB3 : Hid (QB W3 b ⟨tab, [], ⟨⟨wo, wc, wm, ⟨wn, wi, wt⟩, wk, wp⟩, wks⟩, [⟨1, []⟩], by_⟩ (.slice none 0 0) ⟨sA, sn, sc⟩ (.slice (some ⟨G, 0, none⟩) 1 1)) := Lib.hid (QBa.fr Fa (fun e => e))
      have F3 := Lib.hid ((F2.out.fresh sa (fun k e => by have e2 : k = b := e; have := HB.out; omega)).trans Fa)
      have z1 := QB2.out.frozen 1
      have z11 := QB2.out.frozen 11
      have HGb : Hid (b < G) := Lib.hid (by omega)
      have hgb : b < G := HGb.out
      clear sa hGa QBa Fa F2
      subst hWa
      obtain ⟨b0, b1, b2, b3, b4, b5, b6, b7, b8, b9, b10, b11, b12⟩ := qB_cells QB2.out
      dsimp only [Pd.hd, Pd.kids] at b0 b1 b2 b3 b4 b5 b6 b7 b8 b9 b10 b11 b12
      go_wp2_with fail
      rw [← hW3]
      clear hW3 z1 z11 hgb QB2 b0 b1 b2 b3 b4 b5 b6 b7 b8 b9 b10 b11 b12
      refine (HA1.out _ _ F3.out G3.out).mono ?_
      rintro e W4 ⟨u1, rfl, hu1, f4⟩
      obtain ⟨u1A, u1c, hue1⟩ := hu1.shape
      subst hue1
      have hb3 : b < W3.heap.size := QB3.out.lt
      have F4 := Lib.hid (F3.out.trans f4)
      have QB4 : Hid (QB W4 b ⟨tab, [], ⟨⟨wo, wc, wm, ⟨wn, wi, wt⟩, wk, wp⟩, wks⟩, [⟨1, []⟩], by_⟩ (.slice none 0 0) ⟨sA, sn, sc⟩ (.slice (some ⟨G, 0, none⟩) 1 1)) := Lib.hid (QB3.out.fr f4 (fun e => e))
      obtain ⟨W5, hW5⟩ : ∃ W, W = W4.setCell ⟨b, 12, none⟩ (.string ⟨#[]⟩) := ⟨_, rfl⟩
      have s5 : Fr (One b) W4 W5 := by rw [hW5]; exact (Fr.refl (One b) W4).set1 12 _
      have QB5 : Hid (QB W5 b ⟨tab, [], ⟨⟨wo, wc, wm, ⟨wn, wi, wt⟩, wk, wp⟩, wks⟩, [⟨1, []⟩], []⟩ (.slice none 0 0) ⟨sA, sn, sc⟩ (.slice (some ⟨G, 0, none⟩) 1 1)) := Lib.hid (by rw [hW5]; exact Blk.set QB4.out 12 _)
      have G5 : Hid (Gs W5 (.slice (some ⟨G, 0, none⟩) 1 1) [⟨1, []⟩]) := Lib.hid ((G3.out.non f4).fr s5 (fun k hk e => by have e2 : k = b := e; have := HGb.out; simp [Value.ownBlock] at hk; omega))
      have F5 := Lib.hid (F4.out.fresh s5 (fun k e => by have e2 : k = b := e; have := HB.out; omega))
      have HU1 := Lib.hid (ro_fr hu1 s5 (fun k hk e => by have e2 : k = b := e; omega))
      have z12 := QB4.out.frozen 12
      clear s5 hu1 f4 F4 G3 F3 QB3 HA1
      obtain ⟨b0, b1, b2, b3, b4, b5, b6, b7, b8, b9, b10, b11, b12⟩ := qB_cells QB4.out
      dsimp only [Pd.hd, Pd.kids] at b0 b1 b2 b3 b4 b5 b6 b7 b8 b9 b10 b11 b12
      go_wp2_with fail
      rw [← hW5]
      clear hW5 z12 QB4 b0 b1 b2 b3 b4 b5 b6 b7 b8 b9 b10 b11 b12
      refine (HA2.out _ _ F5.out G5.out).mono ?_
      rintro e W6 ⟨u2, rfl, hu2, f6⟩
      obtain ⟨u2A, u2c, hue2⟩ := hu2.shape
      subst hue2
      have F6 := Lib.hid (F5.out.trans f6)
      replace HU1 := Lib.hid (HU1.out.non f6)
      have HU2 := Lib.hid hu2
      clear f6 hu2 F5 G5 QB5 HA2
      go_wp2_with fail
      refine (gnum_any _ _).mono ?_
      rintro e W7 ⟨rfl, f7⟩
      have F7 := Lib.hid (F6.out.trans f7)
      replace HU1 := Lib.hid (HU1.out.non f7)
      replace HU2 := Lib.hid (HU2.out.non f7)
      clear f7 F6
      by_cases hz : R2 = 0
      · have hd : (R2 == 0) = true := by rw [hz]; rfl
        have hd0 : (R2 != 0) = false := by rw [hz]; rfl
        go_wp2_with fail
        refine (gnum_any _ _).mono ?_
        rintro e W8 ⟨rfl, f8⟩
        have F8 := Lib.hid (F7.out.trans f8)
        replace HU1 := Lib.hid (HU1.out.non f8)
        replace HU2 := Lib.hid (HU2.out.non f8)
        clear f8 F7
        by_cases hz2 : S2 = 0
        · have he : (S2 == 0) = true := by rw [hz2]; rfl
          have he0 : (S2 != 0) = false := by rw [hz2]; rfl
          by_cases hby : by_ = []
          · obtain ⟨c1, hc1⟩ := HM1.out hz hby
            subst hc1
            obtain ⟨a, A', c', hA, -, hh, -⟩ := HU1.out.rs.el 0 (by simp)
            subst hA
            rw [add_none] at hh
            simp only [List.getElem_cons_zero, List.length_singleton] at hh
            clear hz hz2 hby HM1 HM2
            simp only [List.length_singleton]
            go_wp2_with fail
            refine (live23_any _).mono ?_
            rintro e wl ⟨rfl, fl⟩
            go_wp2
            go_ret
            exact ⟨rfl, (F8.out.trans fl).below⟩
          · obtain ⟨KS, -, -, -, cn, tt, N, hN, hKl, e1, hst, htl, ht0, htN, hri, e2⟩ := HM2.out hz hz2 hby
            subst e1 e2
            clear hz hz2 hby HM1 HM2
            have Hst := Lib.hid hst
            have Htl := Lib.hid htl
            have HtN := Lib.hid htN
            have Hri := Lib.hid hri
            have Ht0 := Lib.hid ht0
            clear hst htl htN hri ht0
            rw [List.length_map] at HU1 ⊢
            rcases Nat.eq_zero_or_pos KS.length with h0 | h0
            · have hd1 : decide (0 < KS.length) = false := decide_eq_false (by omega)
              have hd2 : decide ((0 : Int) < (KS.length : Int)) = false := decide_eq_false (by omega)
              have Hz := Lib.hid h0
              clear h0
              go_wp2
              clear hd1 hd2
              go_loopw [11, 12] (fun n i wr => ∃ (i' : Nat), i' ≤ KS.length ∧ i = .int .i64 i' ∧ n = .int .i64 (tt i') ∧ Hid (Fr Non W8 wr)) (fun _ i _ => KS.length - (intOf i).toNat)
              case atStart => exact ⟨0, Nat.zero_le _, rfl, by rw [Ht0.out]; rfl, Lib.hid (Fr.refl _ _)⟩
              case round =>
                obtain ⟨i, hi, rfl, rfl, FI⟩ := hrel
                rename World => w9
                by_cases hlt : i < KS.length
                · exfalso
                  have := Hz.out
                  omega
                · have hie : i = KS.length := by omega
                  subst hie
                  have hn := HtN.out
                  obtain ⟨a, g1, k1, ha, hh, c1⟩ := one_row (HU2.out.non FI.out)
                  subst ha
                  have F9 := Lib.hid (F8.out.trans FI.out)
                  dsimp only at c1
                  try simp only [List.length_singleton]
                  go_wp2_with fail
                  refine (live23_any _).mono ?_
                  rintro e wl ⟨rfl, fl⟩
                  go_wp2
                  go_ret
                  exact ⟨rfl, (F9.out.trans fl).below⟩
            · have hd1 : decide (0 < KS.length) = true := decide_eq_true h0
              have hd2 : decide ((0 : Int) < (KS.length : Int)) = true := decide_eq_true (by omega)
              obtain ⟨ua, hua⟩ := ro_some HU1.out (by simpa using h0)
              subst hua
              obtain ⟨g0, k0, hh, -⟩ := cnt_row HU1.out 0 h0
              rw [add_none] at hh
              go_wp2
              clear hd1 hd2 hh
              go_loopw [11, 12] (fun n i wr => ∃ (i' : Nat), i' ≤ KS.length ∧ i = .int .i64 i' ∧ n = .int .i64 (tt i') ∧ Hid (Fr Non W8 wr)) (fun _ i _ => KS.length - (intOf i).toNat)
              case atStart => exact ⟨0, Nat.zero_le _, rfl, by rw [Ht0.out]; rfl, Lib.hid (Fr.refl _ _)⟩
              case round =>
                obtain ⟨i, hi, rfl, rfl, FI⟩ := hrel
                rename World => w9
                by_cases hlt : i < KS.length
                · obtain ⟨g1, k1, hh1, c0, c1, c2, c4⟩ := cnt_row (HU1.out.non FI.out) i hlt
                  obtain ⟨n1, n2, n3⟩ := Hst.out i hlt
                  have hti := Htl.out i
                  have Hn3 := Lib.hid n3
                  clear n3
                  have hcd : decide (((cn KS[i] : Nat) : Int) < 1) = false := decide_eq_false (by omega)
                  by_cases hi0 : 0 < i
                  · obtain ⟨g2, k2, hh2, p0, p1, p2, -⟩ := cnt_row (HU1.out.non FI.out) (i - 1) (by omega)
                    have Hrd := Lib.hid (fun W => rorder_any KS[i - 1] KS[i] W)
                    have hri := Hri.out (i - 1) (by omega)
                    have hie : i - 1 + 1 = i := by omega
                    simp only [hie] at hri
                    obtain ⟨o, ho⟩ : ∃ o, ordC KS[i - 1] KS[i] = o := ⟨_, rfl⟩
                    rw [ho] at Hrd hri
                    have hod : decide (0 ≤ o) = false := decide_eq_false (by omega)
                    have hid : decide ((0 : Int) < (i : Int)) = true := decide_eq_true (by omega)
                    have hwr : IntKind.i64.wrap ((i : Int) - 1) = ((i - 1 : Nat) : Int) := by rw [w6_wrap]; unfold w6; omega
                    have hlt2 : i - 1 < KS.length := by omega
                    clear hri ho hie
                    generalize KS[i] = c at *
                    generalize KS[i - 1] = d at *
                    obtain ⟨x, hx⟩ : ∃ x, c = x := ⟨_, rfl⟩
                    obtain ⟨yn, yi, yt⟩ := d
                    have hx0 : c.null = x.null := by rw [hx]
                    have hx1 : c.num = x.num := by rw [hx]
                    have hx2 : c.txt = x.txt := by rw [hx]
                    rw [hx0] at c0
                    rw [hx1] at c1
                    rw [hx2] at c2
                    have Hrd2 : Hid (∀ W, Calls Tryz.prog 17 #[clV ⟨yn, yi, yt⟩, clV x] W fun e w' => e = .returned (.int .i64 o) ∧ Fr Non W w') := Lib.hid (fun W => by rw [← hx]; exact Hrd.out W)
                    clear hx0 hx1 hx2 hx Hrd
                    obtain ⟨xn, xi, xt⟩ := x
                    unfold clV clC at Hrd2
                    dsimp only at Hrd2 c0 c1 c2 p0 p1 p2
                    go_wp2
                    obtain ⟨V, hV⟩ : ∃ V, V = w9.drew := ⟨_, rfl⟩
                    refine wp_region_held_drew (S := (fun W' => W'.cell? (ua.add i) = some (.slice (some ⟨g1, 0, none⟩) 2 k1) ∧ W'.cell? ⟨g1, 4, none⟩ = some (.int .i64 (cn c)) ∧ W'.cell? ⟨g1, 0, none⟩ = some (.bool xn) ∧ W'.cell? ⟨g1, 1, none⟩ = some (.int .i64 xi) ∧ W'.cell? ⟨g1, 2, none⟩ = some (.string ⟨xt.toArray⟩) ∧ W'.cell? (ua.add (i - 1)) = some (.slice (some ⟨g2, 0, none⟩) 2 k2) ∧ W'.cell? ⟨g2, 0, none⟩ = some (.bool yn) ∧ W'.cell? ⟨g2, 1, none⟩ = some (.int .i64 yi) ∧ W'.cell? ⟨g2, 2, none⟩ = some (.string ⟨yt.toArray⟩))) (by kernel_rfl) (by exact ⟨hh1, c4, c0, c1, c2, hh2, p0, p1, p2⟩) (fun hHeld => ?_)
                    rw [← hV]
                    rw [← hV] at hHeld
                    have FV : Fr Non w9 V := by rw [hV]; exact (Fr.refl Non _).drew
                    clear hV
                    replace hh1 := FV.at0 hh1
                    replace c4 := FV.at0 c4
                    replace c0 := FV.at0 c0
                    replace c1 := FV.at0 c1
                    replace c2 := FV.at0 c2
                    replace hh2 := FV.at0 hh2
                    replace p0 := FV.at0 p0
                    replace p1 := FV.at0 p1
                    replace p2 := FV.at0 p2
                    refine wpAnyH_take (i := 0) (oi := ⟨some 69, _, _, _, _, none⟩) (v := ?v139) rfl (by kernel_rfl) (by kernel_rfl) (by kernel_rfl) (fun _ _ _ h => h) (Or.inl ⟨by rfl, ?hy139⟩) (by assumption) ?rest139
                    case hy139 => (intro wS hSw; (try dsimp only at hSw); go_simp; (try with_reducible rfl))
                    (try simp only [Act.put, List.setIfInBounds_toArray, List.set_cons_zero, List.set_cons_succ])
                    refine wpAnyH_take (i := 1) (oi := ⟨some 70, _, _, _, _, none⟩) (v := ?v140) rfl (by kernel_rfl) (by kernel_rfl) (by kernel_rfl) (fun _ _ _ h => h) (Or.inl ⟨by rfl, ?hy140⟩) (by assumption) ?rest140
                    case hy140 => (intro wS hSw; (try dsimp only at hSw); go_simp; (try with_reducible rfl))
                    (try simp only [Act.put, List.setIfInBounds_toArray, List.set_cons_zero, List.set_cons_succ])
                    refine wpAnyH_take (i := 2) (oi := ⟨some 71, _, _, _, _, none⟩) (v := ?v141) rfl (by kernel_rfl) (by kernel_rfl) (by kernel_rfl) (fun _ _ _ h => h) (Or.inl ⟨by rfl, ?hy141⟩) (by assumption) ?rest141
                    case hy141 => (intro wS hSw; (try dsimp only at hSw); go_simp; (try with_reducible rfl))
                    (try simp only [Act.put, List.setIfInBounds_toArray, List.set_cons_zero, List.set_cons_succ])
                    refine wpAnyH_take (i := 3) (oi := ⟨some 72, _, _, _, _, none⟩) (v := ?v142) rfl (by kernel_rfl) (by kernel_rfl) (by kernel_rfl) (fun _ _ _ h => h) (Or.inl ⟨by rfl, ?hy142⟩) (by assumption) ?rest142
                    case hy142 => (intro wS hSw; (try dsimp only at hSw); go_simp; (try with_reducible rfl))
                    (try simp only [Act.put, List.setIfInBounds_toArray, List.set_cons_zero, List.set_cons_succ])
                    refine wpAnyH_take (i := 4) (oi := ⟨some 73, _, _, _, _, none⟩) (v := ?v143) rfl (by kernel_rfl) (by kernel_rfl) (by kernel_rfl) (fun _ _ _ h => h) (Or.inl ⟨by rfl, ?hy143⟩) (by assumption) ?rest143
                    case hy143 => (intro wS hSw; (try dsimp only at hSw); go_simp; (try with_reducible rfl))
                    (try simp only [Act.put, List.setIfInBounds_toArray, List.set_cons_zero, List.set_cons_succ])
                    refine wpAnyH_take (i := 5) (oi := ⟨some 74, _, _, _, _, none⟩) (v := ?v144) rfl (by kernel_rfl) (by kernel_rfl) (by kernel_rfl) (fun _ _ _ h => h) (Or.inl ⟨by rfl, ?hy144⟩) (by assumption) ?rest144
                    case hy144 => (intro wS hSw; (try dsimp only at hSw); go_simp; (try with_reducible rfl))
                    (try simp only [Act.put, List.setIfInBounds_toArray, List.set_cons_zero, List.set_cons_succ])
                    refine wpAnyH_take (i := 6) (oi := ⟨some 75, _, _, _, _, none⟩) (v := ?v145) rfl (by kernel_rfl) (by kernel_rfl) (by kernel_rfl) (fun _ _ _ h => h) (Or.inl ⟨by rfl, ?hy145⟩) (by assumption) ?rest145
                    case hy145 => (intro wS hSw; (try dsimp only at hSw); go_simp; (try with_reducible rfl))
                    (try simp only [Act.put, List.setIfInBounds_toArray, List.set_cons_zero, List.set_cons_succ])
                    refine wpAnyH_take (i := 7) (oi := ⟨some 76, _, _, _, _, some (6, false)⟩) (v := ?v146) rfl (by kernel_rfl) (by kernel_rfl) (by kernel_rfl) (fun _ _ _ h => h) (Or.inl ⟨by rfl, ?hy146⟩) (by assumption) ?rest146
                    case hy146 => (intro wS hSw; (try dsimp only at hSw); go_simp; (try with_reducible rfl))
                    (try simp only [Act.put, List.setIfInBounds_toArray, List.set_cons_zero, List.set_cons_succ])
                    refine wpAnyH_take (i := 8) (oi := ⟨some 77, _, _, _, _, some (6, false)⟩) (v := ?v147) rfl (by kernel_rfl) (by kernel_rfl) (by kernel_rfl) (fun _ _ _ h => h) (Or.inl ⟨by rfl, ?hy147⟩) (by assumption) ?rest147
                    case hy147 => (intro wS hSw; (try dsimp only at hSw); go_simp; (try with_reducible rfl))
                    (try simp only [Act.put, List.setIfInBounds_toArray, List.set_cons_zero, List.set_cons_succ])
                    refine wpAnyH_take (i := 9) (oi := ⟨some 78, _, _, _, _, some (6, false)⟩) (v := ?v148) rfl (by kernel_rfl) (by kernel_rfl) (by kernel_rfl) (fun _ _ _ h => h) (Or.inl ⟨by rfl, ?hy148⟩) (by assumption) ?rest148
                    case hy148 => (intro wS hSw; (try dsimp only at hSw); go_simp; (try with_reducible rfl))
                    (try simp only [Act.put, List.setIfInBounds_toArray, List.set_cons_zero, List.set_cons_succ])
                    refine wpAnyH_take (i := 10) (oi := ⟨some 79, _, _, _, _, some (6, false)⟩) (v := ?v149) rfl (by kernel_rfl) (by kernel_rfl) (by kernel_rfl) (fun _ _ _ h => h) (Or.inl ⟨by rfl, ?hy149⟩) (by assumption) ?rest149
                    case hy149 => (intro wS hSw; (try dsimp only at hSw); go_simp; (try with_reducible rfl))
                    (try simp only [Act.put, List.setIfInBounds_toArray, List.set_cons_zero, List.set_cons_succ])
                    refine wpAnyH_take (i := 11) (oi := ⟨some 80, _, _, _, _, some (6, false)⟩) (v := ?v150) rfl (by kernel_rfl) (by kernel_rfl) (by kernel_rfl) (fun _ _ _ h => h) (Or.inl ⟨by rfl, ?hy150⟩) (by assumption) ?rest150
                    case hy150 => (intro wS hSw; (try dsimp only at hSw); go_simp; (try with_reducible rfl))
                    (try simp only [Act.put, List.setIfInBounds_toArray, List.set_cons_zero, List.set_cons_succ])
                    refine wpAnyH_take (i := 12) (oi := ⟨some 81, _, _, _, _, some (6, false)⟩) (v := ?v151) rfl (by kernel_rfl) (by kernel_rfl) (by kernel_rfl) (fun _ _ _ h => h) (Or.inl ⟨by rfl, ?hy151⟩) (by assumption) ?rest151
                    case hy151 => (intro wS hSw; (try dsimp only at hSw); go_simp; (try with_reducible rfl))
                    (try simp only [Act.put, List.setIfInBounds_toArray, List.set_cons_zero, List.set_cons_succ])
                    refine wpAnyH_take (i := 13) (oi := ⟨some 82, _, _, _, _, some (6, false)⟩) (v := ?v152) rfl (by kernel_rfl) (by kernel_rfl) (by kernel_rfl) (fun _ _ _ h => h) (Or.inl ⟨by rfl, ?hy152⟩) (by assumption) ?rest152
                    case hy152 => (intro wS hSw; (try dsimp only at hSw); go_simp; (try with_reducible rfl))
                    (try simp only [Act.put, List.setIfInBounds_toArray, List.set_cons_zero, List.set_cons_succ])
                    refine wpAnyH_take (i := 14) (oi := ⟨some 83, _, _, _, _, some (6, false)⟩) (v := ?v153) rfl (by kernel_rfl) (by kernel_rfl) (by kernel_rfl) (fun _ _ _ h => h) (Or.inl ⟨by rfl, ?hy153⟩) (by assumption) ?rest153
                    case hy153 => (intro wS hSw; (try dsimp only at hSw); go_simp; (try with_reducible rfl))
                    (try simp only [Act.put, List.setIfInBounds_toArray, List.set_cons_zero, List.set_cons_succ])
                    refine wpAnyH_take (i := 15) (oi := ⟨some 84, _, _, _, _, none⟩) (v := ?v154) rfl (by kernel_rfl) (by kernel_rfl) (by kernel_rfl) (fun _ _ _ h => h) (Or.inl ⟨by rfl, ?hy154⟩) (by assumption) ?rest154
                    case hy154 => (intro wS hSw; (try dsimp only at hSw); go_simp; (try with_reducible rfl))
                    (try simp only [Act.put, List.setIfInBounds_toArray, List.set_cons_zero, List.set_cons_succ])
                    refine wpAnyH_take (i := 16) (oi := ⟨some 85, _, _, _, _, none⟩) (v := ?v155) rfl (by kernel_rfl) (by kernel_rfl) (by kernel_rfl) (fun _ _ _ h => h) (Or.inl ⟨by rfl, ?hy155⟩) (by assumption) ?rest155
                    case hy155 => (intro wS hSw; (try dsimp only at hSw); go_simp; (try with_reducible rfl))
                    (try simp only [Act.put, List.setIfInBounds_toArray, List.set_cons_zero, List.set_cons_succ])
                    refine wpAnyH_take (i := 17) (oi := ⟨some 86, _, _, _, _, some (16, false)⟩) (v := ?v156) rfl (by kernel_rfl) (by kernel_rfl) (by kernel_rfl) (fun _ _ _ h => h) (Or.inl ⟨by rfl, ?hy156⟩) (by assumption) ?rest156
                    case hy156 => (intro wS hSw; (try dsimp only at hSw); go_simp; (try with_reducible rfl))
                    (try simp only [Act.put, List.setIfInBounds_toArray, List.set_cons_zero, List.set_cons_succ])
                    refine wpAnyH_take (i := 18) (oi := ⟨some 87, _, _, _, _, some (16, false)⟩) (v := ?v157) rfl (by kernel_rfl) (by kernel_rfl) (by kernel_rfl) (fun _ _ _ h => h) (Or.inl ⟨by rfl, ?hy157⟩) (by assumption) ?rest157
                    case hy157 => (intro wS hSw; (try dsimp only at hSw); go_simp; (try with_reducible rfl))
                    (try simp only [Act.put, List.setIfInBounds_toArray, List.set_cons_zero, List.set_cons_succ])
                    refine wpAnyH_take (i := 19) (oi := ⟨some 88, _, _, _, _, some (16, false)⟩) (v := ?v158) rfl (by kernel_rfl) (by kernel_rfl) (by kernel_rfl) (fun _ _ _ h => h) (Or.inl ⟨by rfl, ?hy158⟩) (by assumption) ?rest158
                    case hy158 => (intro wS hSw; (try dsimp only at hSw); go_simp; (try with_reducible rfl))
                    (try simp only [Act.put, List.setIfInBounds_toArray, List.set_cons_zero, List.set_cons_succ])
                    refine wpAnyH_take (i := 20) (oi := ⟨some 89, _, _, _, _, some (19, true)⟩) (v := ?v159) rfl (by kernel_rfl) (by kernel_rfl) (by kernel_rfl) (fun _ _ _ h => h) (Or.inl ⟨by rfl, ?hy159⟩) (by assumption) ?rest159
                    case hy159 => (intro wS hSw; (try dsimp only at hSw); go_simp; (try with_reducible rfl))
                    (try simp only [Act.put, List.setIfInBounds_toArray, List.set_cons_zero, List.set_cons_succ])
                    refine wpAnyH_take (i := 21) (oi := ⟨some 90, _, _, _, _, some (19, true)⟩) (v := ?v160) rfl (by kernel_rfl) (by kernel_rfl) (by kernel_rfl) (fun _ _ _ h => h) (Or.inl ⟨by rfl, ?hy160⟩) (by assumption) ?rest160
                    case hy160 => (intro wS hSw; (try dsimp only at hSw); go_simp; (try with_reducible rfl))
                    (try simp only [Act.put, List.setIfInBounds_toArray, List.set_cons_zero, List.set_cons_succ])
                    refine wpAnyH_take (i := 22) (oi := ⟨some 91, _, _, _, _, some (19, true)⟩) (v := ?v161) rfl (by kernel_rfl) (by kernel_rfl) (by kernel_rfl) (fun _ _ _ h => h) (Or.inl ⟨by rfl, ?hy161⟩) (by assumption) ?rest161
                    case hy161 => (intro wS hSw; (try dsimp only at hSw); go_simp; (try with_reducible rfl))
                    (try simp only [Act.put, List.setIfInBounds_toArray, List.set_cons_zero, List.set_cons_succ])
                    refine wpAnyH_take (i := 23) (oi := ⟨some 92, _, _, _, _, some (19, true)⟩) (v := ?v162) rfl (by kernel_rfl) (by kernel_rfl) (by kernel_rfl) (fun _ _ _ h => h) (Or.inl ⟨by rfl, ?hy162⟩) (by assumption) ?rest162
                    case hy162 => (intro wS hSw; (try dsimp only at hSw); go_simp; (try with_reducible rfl))
                    (try simp only [Act.put, List.setIfInBounds_toArray, List.set_cons_zero, List.set_cons_succ])
                    refine wpAnyH_take (i := 24) (oi := ⟨some 93, _, _, _, _, some (19, true)⟩) (v := ?v163) rfl (by kernel_rfl) (by kernel_rfl) (by kernel_rfl) (fun _ _ _ h => h) (Or.inl ⟨by rfl, ?hy163⟩) (by assumption) ?rest163
                    case hy163 => (intro wS hSw; (try dsimp only at hSw); go_simp; (try with_reducible rfl))
                    (try simp only [Act.put, List.setIfInBounds_toArray, List.set_cons_zero, List.set_cons_succ])
                    refine wpAnyH_take (i := 25) (oi := ⟨some 94, _, _, _, _, some (19, true)⟩) (v := ?v164) rfl (by kernel_rfl) (by kernel_rfl) (by kernel_rfl) (fun _ _ _ h => h) (Or.inl ⟨by rfl, ?hy164⟩) (by assumption) ?rest164
                    case hy164 => (intro wS hSw; (try dsimp only at hSw); go_simp; (try with_reducible rfl))
                    (try simp only [Act.put, List.setIfInBounds_toArray, List.set_cons_zero, List.set_cons_succ])
                    refine wpAnyH_take (i := 26) (oi := ⟨some 95, _, _, _, _, some (19, true)⟩) (v := ?v165) rfl (by kernel_rfl) (by kernel_rfl) (by kernel_rfl) (fun _ _ _ h => h) (Or.inl ⟨by rfl, ?hy165⟩) (by assumption) ?rest165
                    case hy165 => (intro wS hSw; (try dsimp only at hSw); go_simp; (try with_reducible rfl))
                    (try simp only [Act.put, List.setIfInBounds_toArray, List.set_cons_zero, List.set_cons_succ])
                    refine wpAnyH_take (i := 27) (oi := ⟨some 96, _, _, _, _, some (19, true)⟩) (v := ?v166) rfl (by kernel_rfl) (by kernel_rfl) (by kernel_rfl) (fun _ _ _ h => h) (Or.inl ⟨by rfl, ?hy166⟩) (by assumption) ?rest166
                    case hy166 => (intro wS hSw; (try dsimp only at hSw); go_simp; (try with_reducible rfl))
                    (try simp only [Act.put, List.setIfInBounds_toArray, List.set_cons_zero, List.set_cons_succ])
                    refine wpAnyH_take (i := 28) (oi := ⟨some 97, _, _, _, _, some (19, true)⟩) (v := ?v167) rfl (by kernel_rfl) (by kernel_rfl) (by kernel_rfl) (fun _ _ _ h => h) (Or.inl ⟨by rfl, ?hy167⟩) (by assumption) ?rest167
                    case hy167 => (intro wS hSw; (try dsimp only at hSw); go_simp; (try with_reducible rfl))
                    (try simp only [Act.put, List.setIfInBounds_toArray, List.set_cons_zero, List.set_cons_succ])
                    refine wpAnyH_take (i := 29) (oi := ⟨some 98, _, _, _, _, some (19, true)⟩) (v := ?v168) rfl (by kernel_rfl) (by kernel_rfl) (by kernel_rfl) (fun _ _ _ h => h) (Or.inl ⟨by rfl, ?hy168⟩) (by assumption) ?rest168
                    case hy168 => (intro wS hSw; (try dsimp only at hSw); go_simp; (try with_reducible rfl))
                    (try simp only [Act.put, List.setIfInBounds_toArray, List.set_cons_zero, List.set_cons_succ])
                    refine wpAnyH_take (i := 30) (oi := ⟨some 99, _, _, _, _, some (19, true)⟩) (v := ?v169) rfl (by kernel_rfl) (by kernel_rfl) (by kernel_rfl) (fun _ _ _ h => h) (Or.inl ⟨by rfl, ?hy169⟩) (by assumption) ?rest169
                    case hy169 => (intro wS hSw; (try dsimp only at hSw); go_simp; (try with_reducible rfl))
                    (try simp only [Act.put, List.setIfInBounds_toArray, List.set_cons_zero, List.set_cons_succ])
                    refine wpAnyH_take (i := 31) (oi := ⟨some 100, _, _, _, _, some (19, true)⟩) (v := ?v170) rfl (by kernel_rfl) (by kernel_rfl) (by kernel_rfl) (fun _ _ _ h => h) (Or.inl ⟨by rfl, ?hy170⟩) (by assumption) ?rest170
                    case hy170 => (intro wS hSw; (try dsimp only at hSw); go_simp; (try with_reducible rfl))
                    (try simp only [Act.put, List.setIfInBounds_toArray, List.set_cons_zero, List.set_cons_succ])
                    refine wpAnyH_take (i := 32) (oi := ⟨some 101, _, _, _, _, some (19, true)⟩) (v := ?v171) rfl (by kernel_rfl) (by kernel_rfl) (by kernel_rfl) (fun _ _ _ h => h) (Or.inl ⟨by rfl, ?hy171⟩) (by assumption) ?rest171
                    case hy171 => (intro wS hSw; (try dsimp only at hSw); go_simp; (try with_reducible rfl))
                    (try simp only [Act.put, List.setIfInBounds_toArray, List.set_cons_zero, List.set_cons_succ])
                    refine wpAnyH_ready (rs := [33]) (by kernel_rfl) (by simp) ?_
                    refine AllReadyH.cons (o := ⟨some 102, _, _, _, _, some (19, true)⟩) rfl (fun K hK => ?_) AllReadyH.nil
                    go_simp
                    go_at_call 17
                    refine (Hrd2.out _).mono ?_
                    rintro e wa ⟨rfl, fa⟩
                    go_wp2_with fail
                    refine hK.out _ _ (by exact ⟨fa.at0 hh1, fa.at0 c4, fa.at0 c0, fa.at0 c1, fa.at0 c2, fa.at0 hh2, fa.at0 p0, fa.at0 p1, fa.at0 p2⟩) (fun hHeld => ?_)
                    clear hK K
                    (try simp only [Act.put, List.setIfInBounds_toArray, List.set_cons_zero, List.set_cons_succ])
                    replace hh1 := fa.at0 hh1
                    replace c4 := fa.at0 c4
                    replace c0 := fa.at0 c0
                    replace c1 := fa.at0 c1
                    replace c2 := fa.at0 c2
                    replace hh2 := fa.at0 hh2
                    replace p0 := fa.at0 p0
                    replace p1 := fa.at0 p1
                    replace p2 := fa.at0 p2
                    refine wpAnyH_take (i := 34) (oi := ⟨some 103, _, _, _, _, some (19, true)⟩) (v := ?v172) rfl (by kernel_rfl) (by kernel_rfl) (by kernel_rfl) (fun _ _ _ h => h) (Or.inl ⟨by rfl, ?hy172⟩) (by assumption) ?rest172
                    case hy172 => (intro wS hSw; (try dsimp only at hSw); go_simp; (try with_reducible rfl))
                    (try simp only [Act.put, List.setIfInBounds_toArray, List.set_cons_zero, List.set_cons_succ])
                    refine wpAnyH_take (i := 35) (oi := ⟨some 104, _, _, _, _, some (16, false)⟩) (v := ?v173) rfl (by kernel_rfl) (by kernel_rfl) (by kernel_rfl) (fun _ _ _ h => h) (Or.inl ⟨by rfl, ?hy173⟩) (by assumption) ?rest173
                    case hy173 => (intro wS hSw; (try dsimp only at hSw); go_simp; (try with_reducible rfl))
                    (try simp only [Act.put, List.setIfInBounds_toArray, List.set_cons_zero, List.set_cons_succ])
                    refine wpAnyH_take (i := 36) (oi := ⟨some 105, _, _, _, _, none⟩) (v := ?v174) rfl (by kernel_rfl) (by kernel_rfl) (by kernel_rfl) (fun _ _ _ h => h) (Or.inl ⟨by rfl, ?hy174⟩) (by assumption) ?rest174
                    case hy174 => (intro wS hSw; (try dsimp only at hSw); go_simp; (try with_reducible rfl))
                    (try simp only [Act.put, List.setIfInBounds_toArray, List.set_cons_zero, List.set_cons_succ])
                    refine wpAnyH_done (by kernel_rfl) ?_ _
                    have FE := Lib.hid (FI.out.trans (FV.trans fa))
                    have HU9 := Lib.hid (HU1.out.non FE.out)
                    clear hHeld FV fa c0 c1 c2 hh2 p0 p1 p2
                    go_wp2
                    go_roundw
                    case rel => exact ⟨i + 1, by omega, by go_num, by rw [Hn3.out]; simp, FE⟩
                    case measure => simp [intOf]; omega
                  · have hid : decide ((0 : Int) < (i : Int)) = false := decide_eq_false (by omega)
                    generalize KS[i] = c at *
                    clear c0 c1 c2
                    go_wp2
                    obtain ⟨V, hV⟩ : ∃ V, V = w9.drew := ⟨_, rfl⟩
                    refine wp_region_held_drew (S := (fun W' => W'.cell? (ua.add i) = some (.slice (some ⟨g1, 0, none⟩) 2 k1) ∧ W'.cell? ⟨g1, 4, none⟩ = some (.int .i64 (cn c)))) (by kernel_rfl) (by exact ⟨hh1, c4⟩) (fun hHeld => ?_)
                    rw [← hV]
                    rw [← hV] at hHeld
                    have FV : Fr Non w9 V := by rw [hV]; exact (Fr.refl Non _).drew
                    clear hV
                    replace hh1 := FV.at0 hh1
                    replace c4 := FV.at0 c4
                    refine wpAnyH_take (i := 0) (oi := ⟨some 69, _, _, _, _, none⟩) (v := ?v175) rfl (by kernel_rfl) (by kernel_rfl) (by kernel_rfl) (fun _ _ _ h => h) (Or.inl ⟨by rfl, ?hy175⟩) (by assumption) ?rest175
                    case hy175 => (intro wS hSw; (try dsimp only at hSw); go_simp; (try with_reducible rfl))
                    (try simp only [Act.put, List.setIfInBounds_toArray, List.set_cons_zero, List.set_cons_succ])
                    refine wpAnyH_take (i := 1) (oi := ⟨some 70, _, _, _, _, none⟩) (v := ?v176) rfl (by kernel_rfl) (by kernel_rfl) (by kernel_rfl) (fun _ _ _ h => h) (Or.inl ⟨by rfl, ?hy176⟩) (by assumption) ?rest176
                    case hy176 => (intro wS hSw; (try dsimp only at hSw); go_simp; (try with_reducible rfl))
                    (try simp only [Act.put, List.setIfInBounds_toArray, List.set_cons_zero, List.set_cons_succ])
                    refine wpAnyH_take (i := 2) (oi := ⟨some 71, _, _, _, _, none⟩) (v := ?v177) rfl (by kernel_rfl) (by kernel_rfl) (by kernel_rfl) (fun _ _ _ h => h) (Or.inl ⟨by rfl, ?hy177⟩) (by assumption) ?rest177
                    case hy177 => (intro wS hSw; (try dsimp only at hSw); go_simp; (try with_reducible rfl))
                    (try simp only [Act.put, List.setIfInBounds_toArray, List.set_cons_zero, List.set_cons_succ])
                    refine wpAnyH_take (i := 3) (oi := ⟨some 72, _, _, _, _, none⟩) (v := ?v178) rfl (by kernel_rfl) (by kernel_rfl) (by kernel_rfl) (fun _ _ _ h => h) (Or.inl ⟨by rfl, ?hy178⟩) (by assumption) ?rest178
                    case hy178 => (intro wS hSw; (try dsimp only at hSw); go_simp; (try with_reducible rfl))
                    (try simp only [Act.put, List.setIfInBounds_toArray, List.set_cons_zero, List.set_cons_succ])
                    refine wpAnyH_take (i := 4) (oi := ⟨some 73, _, _, _, _, none⟩) (v := ?v179) rfl (by kernel_rfl) (by kernel_rfl) (by kernel_rfl) (fun _ _ _ h => h) (Or.inl ⟨by rfl, ?hy179⟩) (by assumption) ?rest179
                    case hy179 => (intro wS hSw; (try dsimp only at hSw); go_simp; (try with_reducible rfl))
                    (try simp only [Act.put, List.setIfInBounds_toArray, List.set_cons_zero, List.set_cons_succ])
                    refine wpAnyH_take (i := 5) (oi := ⟨some 74, _, _, _, _, none⟩) (v := ?v180) rfl (by kernel_rfl) (by kernel_rfl) (by kernel_rfl) (fun _ _ _ h => h) (Or.inl ⟨by rfl, ?hy180⟩) (by assumption) ?rest180
                    case hy180 => (intro wS hSw; (try dsimp only at hSw); go_simp; (try with_reducible rfl))
                    (try simp only [Act.put, List.setIfInBounds_toArray, List.set_cons_zero, List.set_cons_succ])
                    refine wpAnyH_take (i := 6) (oi := ⟨some 75, _, _, _, _, none⟩) (v := ?v181) rfl (by kernel_rfl) (by kernel_rfl) (by kernel_rfl) (fun _ _ _ h => h) (Or.inl ⟨by rfl, ?hy181⟩) (by assumption) ?rest181
                    case hy181 => (intro wS hSw; (try dsimp only at hSw); go_simp; (try with_reducible rfl))
                    (try simp only [Act.put, List.setIfInBounds_toArray, List.set_cons_zero, List.set_cons_succ])
                    refine wpAnyH_take (i := 7) (oi := ⟨some 76, _, _, _, _, some (6, false)⟩) (v := ?v182) rfl (by kernel_rfl) (by kernel_rfl) (by kernel_rfl) (fun _ _ _ h => h) (Or.inl ⟨by rfl, ?hy182⟩) (by assumption) ?rest182
                    case hy182 => (intro wS hSw; (try dsimp only at hSw); go_simp; (try with_reducible rfl))
                    (try simp only [Act.put, List.setIfInBounds_toArray, List.set_cons_zero, List.set_cons_succ])
                    refine wpAnyH_take (i := 8) (oi := ⟨some 77, _, _, _, _, some (6, false)⟩) (v := ?v183) rfl (by kernel_rfl) (by kernel_rfl) (by kernel_rfl) (fun _ _ _ h => h) (Or.inl ⟨by rfl, ?hy183⟩) (by assumption) ?rest183
                    case hy183 => (intro wS hSw; (try dsimp only at hSw); go_simp; (try with_reducible rfl))
                    (try simp only [Act.put, List.setIfInBounds_toArray, List.set_cons_zero, List.set_cons_succ])
                    refine wpAnyH_take (i := 9) (oi := ⟨some 78, _, _, _, _, some (6, false)⟩) (v := ?v184) rfl (by kernel_rfl) (by kernel_rfl) (by kernel_rfl) (fun _ _ _ h => h) (Or.inl ⟨by rfl, ?hy184⟩) (by assumption) ?rest184
                    case hy184 => (intro wS hSw; (try dsimp only at hSw); go_simp; (try with_reducible rfl))
                    (try simp only [Act.put, List.setIfInBounds_toArray, List.set_cons_zero, List.set_cons_succ])
                    refine wpAnyH_take (i := 10) (oi := ⟨some 79, _, _, _, _, some (6, false)⟩) (v := ?v185) rfl (by kernel_rfl) (by kernel_rfl) (by kernel_rfl) (fun _ _ _ h => h) (Or.inl ⟨by rfl, ?hy185⟩) (by assumption) ?rest185
                    case hy185 => (intro wS hSw; (try dsimp only at hSw); go_simp; (try with_reducible rfl))
                    (try simp only [Act.put, List.setIfInBounds_toArray, List.set_cons_zero, List.set_cons_succ])
                    refine wpAnyH_take (i := 11) (oi := ⟨some 80, _, _, _, _, some (6, false)⟩) (v := ?v186) rfl (by kernel_rfl) (by kernel_rfl) (by kernel_rfl) (fun _ _ _ h => h) (Or.inl ⟨by rfl, ?hy186⟩) (by assumption) ?rest186
                    case hy186 => (intro wS hSw; (try dsimp only at hSw); go_simp; (try with_reducible rfl))
                    (try simp only [Act.put, List.setIfInBounds_toArray, List.set_cons_zero, List.set_cons_succ])
                    refine wpAnyH_take (i := 12) (oi := ⟨some 81, _, _, _, _, some (6, false)⟩) (v := ?v187) rfl (by kernel_rfl) (by kernel_rfl) (by kernel_rfl) (fun _ _ _ h => h) (Or.inl ⟨by rfl, ?hy187⟩) (by assumption) ?rest187
                    case hy187 => (intro wS hSw; (try dsimp only at hSw); go_simp; (try with_reducible rfl))
                    (try simp only [Act.put, List.setIfInBounds_toArray, List.set_cons_zero, List.set_cons_succ])
                    refine wpAnyH_take (i := 13) (oi := ⟨some 82, _, _, _, _, some (6, false)⟩) (v := ?v188) rfl (by kernel_rfl) (by kernel_rfl) (by kernel_rfl) (fun _ _ _ h => h) (Or.inl ⟨by rfl, ?hy188⟩) (by assumption) ?rest188
                    case hy188 => (intro wS hSw; (try dsimp only at hSw); go_simp; (try with_reducible rfl))
                    (try simp only [Act.put, List.setIfInBounds_toArray, List.set_cons_zero, List.set_cons_succ])
                    refine wpAnyH_take (i := 14) (oi := ⟨some 83, _, _, _, _, some (6, false)⟩) (v := ?v189) rfl (by kernel_rfl) (by kernel_rfl) (by kernel_rfl) (fun _ _ _ h => h) (Or.inl ⟨by rfl, ?hy189⟩) (by assumption) ?rest189
                    case hy189 => (intro wS hSw; (try dsimp only at hSw); go_simp; (try with_reducible rfl))
                    (try simp only [Act.put, List.setIfInBounds_toArray, List.set_cons_zero, List.set_cons_succ])
                    refine wpAnyH_take (i := 15) (oi := ⟨some 84, _, _, _, _, none⟩) (v := ?v190) rfl (by kernel_rfl) (by kernel_rfl) (by kernel_rfl) (fun _ _ _ h => h) (Or.inl ⟨by rfl, ?hy190⟩) (by assumption) ?rest190
                    case hy190 => (intro wS hSw; (try dsimp only at hSw); go_simp; (try with_reducible rfl))
                    (try simp only [Act.put, List.setIfInBounds_toArray, List.set_cons_zero, List.set_cons_succ])
                    refine wpAnyH_take (i := 16) (oi := ⟨some 85, _, _, _, _, none⟩) (v := ?v191) rfl (by kernel_rfl) (by kernel_rfl) (by kernel_rfl) (fun _ _ _ h => h) (Or.inl ⟨by rfl, ?hy191⟩) (by assumption) ?rest191
                    case hy191 => (intro wS hSw; (try dsimp only at hSw); go_simp; (try with_reducible rfl))
                    (try simp only [Act.put, List.setIfInBounds_toArray, List.set_cons_zero, List.set_cons_succ])
                    refine wpAnyH_take (i := 17) (oi := ⟨some 86, _, _, _, _, some (16, false)⟩) (v := ?v192) rfl (by kernel_rfl) (by kernel_rfl) (by kernel_rfl) (fun _ _ _ h => h) (Or.inl ⟨by rfl, ?hy192⟩) (by assumption) ?rest192
                    case hy192 => (intro wS hSw; (try dsimp only at hSw); go_simp; (try with_reducible rfl))
                    (try simp only [Act.put, List.setIfInBounds_toArray, List.set_cons_zero, List.set_cons_succ])
                    refine wpAnyH_take (i := 18) (oi := ⟨some 87, _, _, _, _, some (16, false)⟩) (v := ?v193) rfl (by kernel_rfl) (by kernel_rfl) (by kernel_rfl) (fun _ _ _ h => h) (Or.inl ⟨by rfl, ?hy193⟩) (by assumption) ?rest193
                    case hy193 => (intro wS hSw; (try dsimp only at hSw); go_simp; (try with_reducible rfl))
                    (try simp only [Act.put, List.setIfInBounds_toArray, List.set_cons_zero, List.set_cons_succ])
                    refine wpAnyH_take (i := 19) (oi := ⟨some 88, _, _, _, _, some (16, false)⟩) (v := ?v194) rfl (by kernel_rfl) (by kernel_rfl) (by kernel_rfl) (fun _ _ _ h => h) (Or.inl ⟨by rfl, ?hy194⟩) (by assumption) ?rest194
                    case hy194 => (intro wS hSw; (try dsimp only at hSw); go_simp; (try with_reducible rfl))
                    (try simp only [Act.put, List.setIfInBounds_toArray, List.set_cons_zero, List.set_cons_succ])
                    refine wpAnyH_take (i := 20) (oi := ⟨some 89, _, _, _, _, some (19, true)⟩) (v := undef) rfl (by kernel_rfl) (by kernel_rfl) (by kernel_rfl) (fun _ _ _ h => h) (Or.inr ⟨by rfl, rfl⟩) (by assumption) ?_
                    (try simp only [Act.put, List.setIfInBounds_toArray, List.set_cons_zero, List.set_cons_succ])
                    refine wpAnyH_take (i := 21) (oi := ⟨some 90, _, _, _, _, some (19, true)⟩) (v := undef) rfl (by kernel_rfl) (by kernel_rfl) (by kernel_rfl) (fun _ _ _ h => h) (Or.inr ⟨by rfl, rfl⟩) (by assumption) ?_
                    (try simp only [Act.put, List.setIfInBounds_toArray, List.set_cons_zero, List.set_cons_succ])
                    refine wpAnyH_take (i := 22) (oi := ⟨some 91, _, _, _, _, some (19, true)⟩) (v := undef) rfl (by kernel_rfl) (by kernel_rfl) (by kernel_rfl) (fun _ _ _ h => h) (Or.inr ⟨by rfl, rfl⟩) (by assumption) ?_
                    (try simp only [Act.put, List.setIfInBounds_toArray, List.set_cons_zero, List.set_cons_succ])
                    refine wpAnyH_take (i := 23) (oi := ⟨some 92, _, _, _, _, some (19, true)⟩) (v := undef) rfl (by kernel_rfl) (by kernel_rfl) (by kernel_rfl) (fun _ _ _ h => h) (Or.inr ⟨by rfl, rfl⟩) (by assumption) ?_
                    (try simp only [Act.put, List.setIfInBounds_toArray, List.set_cons_zero, List.set_cons_succ])
                    refine wpAnyH_take (i := 24) (oi := ⟨some 93, _, _, _, _, some (19, true)⟩) (v := undef) rfl (by kernel_rfl) (by kernel_rfl) (by kernel_rfl) (fun _ _ _ h => h) (Or.inr ⟨by rfl, rfl⟩) (by assumption) ?_
                    (try simp only [Act.put, List.setIfInBounds_toArray, List.set_cons_zero, List.set_cons_succ])
                    refine wpAnyH_take (i := 25) (oi := ⟨some 94, _, _, _, _, some (19, true)⟩) (v := undef) rfl (by kernel_rfl) (by kernel_rfl) (by kernel_rfl) (fun _ _ _ h => h) (Or.inr ⟨by rfl, rfl⟩) (by assumption) ?_
                    (try simp only [Act.put, List.setIfInBounds_toArray, List.set_cons_zero, List.set_cons_succ])
                    refine wpAnyH_take (i := 26) (oi := ⟨some 95, _, _, _, _, some (19, true)⟩) (v := undef) rfl (by kernel_rfl) (by kernel_rfl) (by kernel_rfl) (fun _ _ _ h => h) (Or.inr ⟨by rfl, rfl⟩) (by assumption) ?_
                    (try simp only [Act.put, List.setIfInBounds_toArray, List.set_cons_zero, List.set_cons_succ])
                    refine wpAnyH_take (i := 27) (oi := ⟨some 96, _, _, _, _, some (19, true)⟩) (v := undef) rfl (by kernel_rfl) (by kernel_rfl) (by kernel_rfl) (fun _ _ _ h => h) (Or.inr ⟨by rfl, rfl⟩) (by assumption) ?_
                    (try simp only [Act.put, List.setIfInBounds_toArray, List.set_cons_zero, List.set_cons_succ])
                    refine wpAnyH_take (i := 28) (oi := ⟨some 97, _, _, _, _, some (19, true)⟩) (v := undef) rfl (by kernel_rfl) (by kernel_rfl) (by kernel_rfl) (fun _ _ _ h => h) (Or.inr ⟨by rfl, rfl⟩) (by assumption) ?_
                    (try simp only [Act.put, List.setIfInBounds_toArray, List.set_cons_zero, List.set_cons_succ])
                    refine wpAnyH_take (i := 29) (oi := ⟨some 98, _, _, _, _, some (19, true)⟩) (v := undef) rfl (by kernel_rfl) (by kernel_rfl) (by kernel_rfl) (fun _ _ _ h => h) (Or.inr ⟨by rfl, rfl⟩) (by assumption) ?_
                    (try simp only [Act.put, List.setIfInBounds_toArray, List.set_cons_zero, List.set_cons_succ])
                    refine wpAnyH_take (i := 30) (oi := ⟨some 99, _, _, _, _, some (19, true)⟩) (v := undef) rfl (by kernel_rfl) (by kernel_rfl) (by kernel_rfl) (fun _ _ _ h => h) (Or.inr ⟨by rfl, rfl⟩) (by assumption) ?_
                    (try simp only [Act.put, List.setIfInBounds_toArray, List.set_cons_zero, List.set_cons_succ])
                    refine wpAnyH_take (i := 31) (oi := ⟨some 100, _, _, _, _, some (19, true)⟩) (v := undef) rfl (by kernel_rfl) (by kernel_rfl) (by kernel_rfl) (fun _ _ _ h => h) (Or.inr ⟨by rfl, rfl⟩) (by assumption) ?_
                    (try simp only [Act.put, List.setIfInBounds_toArray, List.set_cons_zero, List.set_cons_succ])
                    refine wpAnyH_take (i := 32) (oi := ⟨some 101, _, _, _, _, some (19, true)⟩) (v := undef) rfl (by kernel_rfl) (by kernel_rfl) (by kernel_rfl) (fun _ _ _ h => h) (Or.inr ⟨by rfl, rfl⟩) (by assumption) ?_
                    (try simp only [Act.put, List.setIfInBounds_toArray, List.set_cons_zero, List.set_cons_succ])
                    refine wpAnyH_take (i := 33) (oi := ⟨some 102, _, _, _, _, some (19, true)⟩) (v := undef) rfl (by kernel_rfl) (by kernel_rfl) (by kernel_rfl) (fun _ _ _ h => h) (Or.inr ⟨by rfl, rfl⟩) (by assumption) ?_
                    (try simp only [Act.put, List.setIfInBounds_toArray, List.set_cons_zero, List.set_cons_succ])
                    refine wpAnyH_take (i := 34) (oi := ⟨some 103, _, _, _, _, some (19, true)⟩) (v := undef) rfl (by kernel_rfl) (by kernel_rfl) (by kernel_rfl) (fun _ _ _ h => h) (Or.inr ⟨by rfl, rfl⟩) (by assumption) ?_
                    (try simp only [Act.put, List.setIfInBounds_toArray, List.set_cons_zero, List.set_cons_succ])
                    refine wpAnyH_take (i := 35) (oi := ⟨some 104, _, _, _, _, some (16, false)⟩) (v := ?v195) rfl (by kernel_rfl) (by kernel_rfl) (by kernel_rfl) (fun _ _ _ h => h) (Or.inl ⟨by rfl, ?hy195⟩) (by assumption) ?rest195
                    case hy195 => (intro wS hSw; (try dsimp only at hSw); go_simp; (try with_reducible rfl))
                    (try simp only [Act.put, List.setIfInBounds_toArray, List.set_cons_zero, List.set_cons_succ])
                    refine wpAnyH_take (i := 36) (oi := ⟨some 105, _, _, _, _, none⟩) (v := ?v196) rfl (by kernel_rfl) (by kernel_rfl) (by kernel_rfl) (fun _ _ _ h => h) (Or.inl ⟨by rfl, ?hy196⟩) (by assumption) ?rest196
                    case hy196 => (intro wS hSw; (try dsimp only at hSw); go_simp; (try with_reducible rfl))
                    (try simp only [Act.put, List.setIfInBounds_toArray, List.set_cons_zero, List.set_cons_succ])
                    refine wpAnyH_done (by kernel_rfl) ?_ _
                    have FE := Lib.hid (FI.out.trans FV)
                    have HU9 := Lib.hid (HU1.out.non FE.out)
                    clear hHeld FV
                    go_wp2
                    go_roundw
                    case rel => exact ⟨i + 1, by omega, by go_num, by rw [Hn3.out]; simp, FE⟩
                    case measure => simp [intOf]; omega
                · have hie : i = KS.length := by omega
                  subst hie
                  have hn := HtN.out
                  obtain ⟨a, g1, k1, ha, hh, c1⟩ := one_row (HU2.out.non FI.out)
                  subst ha
                  have F9 := Lib.hid (F8.out.trans FI.out)
                  dsimp only at c1
                  try simp only [List.length_singleton]
                  go_wp2_with fail
                  refine (live23_any _).mono ?_
                  rintro e wl ⟨rfl, fl⟩
                  go_wp2
                  go_ret
                  exact ⟨rfl, (F9.out.trans fl).below⟩
        · have he : (S2 == 0) = false := by rw [beq_eq_false_iff_ne]; exact hz2
          have he0 : (S2 != 0) = true := by simpa using hz2
          clear hz hz2 HM1 HM2
          go_wp2_with fail
          refine (live23_any _).mono ?_
          rintro e wl ⟨rfl, fl⟩
          go_wp2
          go_ret
          exact ⟨rfl, (F8.out.trans fl).below⟩
      · have hd : (R2 == 0) = false := by rw [beq_eq_false_iff_ne]; exact hz
        have hd0 : (R2 != 0) = true := by simpa using hz
        clear hz HM1 HM2
        go_wp2_with fail
        refine (live23_any _).mono ?_
        rintro e wl ⟨rfl, fl⟩
        go_wp2
        go_ret
        exact ⟨rfl, (F7.out.trans fl).below⟩
end Go.Proofs.YtjcfjjhhbcgcmaaGreat


namespace Go.Proofs.YtjcfjjhhbcgcmaaGreat
set_option linter.unusedVariables false
set_option linter.unusedSimpArgs false
set_option maxRecDepth 100000
open Go.Joins Go.ChangeShapes Go.WideShapes Go.ChangeAt Go.RowKit Go.Deep

/-- a cell within its fields' ranges -/
structure ClWf (c : Cl) : Prop where
  lo : -9223372036854775808 ≤ c.num
  hi : c.num ≤ 9223372036854775807
  len : c.txt.length ≤ 9223372036854775807
end Go.Proofs.YtjcfjjhhbcgcmaaGreat


namespace Go.Proofs.YtjcfjjhhbcgcmaaGreat
set_option linter.unusedVariables false
set_option linter.unusedSimpArgs false
set_option maxRecDepth 100000
open Go.Joins Go.ChangeShapes Go.WideShapes Go.ChangeAt Go.RowKit Go.Deep

theorem cof_bool : Tryz.prog.cellsOf 4 = 1 := by kernel_rfl
theorem cof_i64 : Tryz.prog.cellsOf 2 = 1 := by kernel_rfl
theorem cof_int : Tryz.prog.cellsOf 3 = 1 := by kernel_rfl
theorem cof_str : Tryz.prog.cellsOf 9 = 1 := by kernel_rfl
theorem cof_cl : Tryz.prog.cellsOf 25 = 3 := by kernel_rfl
/-- three cells that are read as a cell -/
theorem cl_cells {H : Type} {enc : TypeId × Value → H} {W : World} {n : Nat} {x : DataW H × List MemPlace} {c2 c3 c4 : Value}
    (h : DataW.trod enc Tryz.prog W 0 (fun _ => true) true n 25 [c2, c3, c4] = some x) : ∃ c : Cl, c2 = .bool c.null ∧ c3 = .int .i64 c.num ∧ c4 = .string ⟨c.txt.toArray⟩ ∧ ClWf c := by
  obtain ⟨y0, y1, y2, m, rfl, _, h0, h1, h2⟩ := trod_struct3 Tryz.underlying25 h
  simp only [cof_bool, cof_i64, cof_str, List.drop_zero, List.drop_succ_cons, List.take_succ_cons, List.take_zero] at h0 h1 h2
  obtain ⟨b, e0, _⟩ := DataW.trod_bool Tryz.underlying4 h0
  obtain rfl := (List.cons.inj e0).1
  obtain ⟨i, e1, _, hi⟩ := DataW.trod_int Tryz.underlying2 h1
  obtain rfl := (List.cons.inj e1).1
  obtain ⟨s, e2, _, hs⟩ := DataW.trod_string Tryz.underlying9 h2
  obtain rfl := (List.cons.inj e2).1
  have hb := wf_i64_bd hi
  exact ⟨⟨b, i, s.data.toList⟩, rfl, rfl, by simp, ⟨hb.1, hb.2, by simpa [maxLen] using hs⟩⟩
end Go.Proofs.YtjcfjjhhbcgcmaaGreat


namespace Go.Proofs.YtjcfjjhhbcgcmaaGreat
set_option linter.unusedVariables false
set_option linter.unusedSimpArgs false
set_option maxRecDepth 100000
open Go.Joins Go.ChangeShapes Go.WideShapes Go.ChangeAt Go.RowKit Go.Deep

theorem cof_co : Tryz.prog.cellsOf 56 = 3 := by kernel_rfl
/-- a column within its fields' ranges -/
structure CoWf (c : Co) : Prop where
  lo : -9223372036854775808 ≤ c.ty
  hi : c.ty ≤ 9223372036854775807
  len : c.name.length ≤ 9223372036854775807
/-- three cells that are read as a column -/
theorem co_cells {H : Type} {enc : TypeId × Value → H} {W : World} {n : Nat} {x : DataW H × List MemPlace} {c2 c3 c4 : Value}
    (h : DataW.trod enc Tryz.prog W 0 (fun _ => true) true n 56 [c2, c3, c4] = some x) : ∃ c : Co, c2 = .string ⟨c.name.toArray⟩ ∧ c3 = .int .i64 c.ty ∧ c4 = .bool c.nl ∧ CoWf c := by
  obtain ⟨y0, y1, y2, m, rfl, _, h0, h1, h2⟩ := trod_struct3 Tryz.underlying56 h
  simp only [cof_bool, cof_int, cof_str, List.drop_zero, List.drop_succ_cons, List.take_succ_cons, List.take_zero] at h0 h1 h2
  obtain ⟨s, e0, _, hs⟩ := DataW.trod_string Tryz.underlying9 h0
  obtain rfl := (List.cons.inj e0).1
  obtain ⟨i, e1, _, hi⟩ := DataW.trod_int Tryz.underlying3 h1
  obtain rfl := (List.cons.inj e1).1
  obtain ⟨b, e2, _⟩ := DataW.trod_bool Tryz.underlying4 h2
  obtain rfl := (List.cons.inj e2).1
  have hb := wf_i64_bd hi
  exact ⟨⟨s.data.toList, i, b⟩, by simp, rfl, rfl, ⟨hb.1, hb.2, by simpa [maxLen] using hs⟩⟩
theorem ks_in {H : Type} {enc : TypeId × Value → H} {W : World} {base : Nat} {v : Value} {d : DataW H} {p : List MemPlace} (hv : Value.okWide Tryz.prog W .any base 22 v)
    (h : DataW.Trod enc Tryz.prog W 0 (fun _ => true) true 22 v d p) : ∃ l, Ks W v l ∧ l.length ≤ 9223372036854775807 ∧ (∀ c ∈ l, CoWf c) ∧ ∀ k, v.ownBlock = some k → k < W.heap.size :=
  ns_in fd_co Tryz.underlying22 cof_co CoWf (fun n cs y hl hy => by
    match cs, hl with
    | [v0, v1, v2], _ =>
      obtain ⟨c, rfl, rfl, rfl, hw⟩ := co_cells hy
      exact ⟨c, rfl, hw⟩) hv h
end Go.Proofs.YtjcfjjhhbcgcmaaGreat


namespace Go.Proofs.YtjcfjjhhbcgcmaaGreat
set_option linter.unusedVariables false
set_option linter.unusedSimpArgs false
set_option maxRecDepth 100000
open Go.Joins Go.ChangeShapes Go.WideShapes Go.ChangeAt Go.RowKit Go.Deep

/-! ### A predicate opened -/
theorem cof_pd : Tryz.prog.cellsOf 28 = 9 := by kernel_rfl
theorem cof_pds : Tryz.prog.cellsOf 26 = 1 := by kernel_rfl
theorem pd_trod {H : Type} {enc : TypeId × Value → H} {W : World} : ∀ (N fuel : Nat) (cs : List Value) (x : DataW H × List MemPlace), SizeOf.sizeOf x.1 ≤ N →
    DataW.trod enc Tryz.prog W 0 (fun _ => true) true fuel 28 cs = some x → ∃ (h : Ph) (s : Kv) (ks : List Pd), cs = pdL (h, s) ∧ Kd W s ks ∧ I64b h.val.num := by
  intro N
  induction N with
  | zero =>
    intro fuel cs x hx h
    obtain ⟨xs, n, rfl, hxe, _⟩ := DataW.trod_struct Tryz.underlying28 h
    rw [hxe] at hx
    simp only [DataW.agg.sizeOf_spec] at hx
    omega
  | succ N ih =>
    intro fuel cs x hx h
    obtain ⟨xs, n, rfl, hxe, hlen, hxl, hall⟩ := DataW.trod_struct Tryz.underlying28 h
    rw [cof_pd] at hlen
    have hxl7 : xs.length = 7 := hxl
    rw [hxe] at hx
    simp only [DataW.agg.sizeOf_spec] at hx
    match cs, hlen with
    | [v0, v1, v2, v3, v4, v5, v6, v7, v8], _ =>
      have f0 : DataW.trod enc Tryz.prog W 0 (fun _ => true) true n 3 (List.take (Tryz.prog.cellsOf 3) (List.drop 0 [v0, v1, v2, v3, v4, v5, v6, v7, v8])) = xs[0]? := hall 0 _ rfl
      have f1 : DataW.trod enc Tryz.prog W 0 (fun _ => true) true n 9 (List.take (Tryz.prog.cellsOf 9) (List.drop 1 [v0, v1, v2, v3, v4, v5, v6, v7, v8])) = xs[1]? := hall 1 _ rfl
      have f2 : DataW.trod enc Tryz.prog W 0 (fun _ => true) true n 3 (List.take (Tryz.prog.cellsOf 3) (List.drop 2 [v0, v1, v2, v3, v4, v5, v6, v7, v8])) = xs[2]? := hall 2 _ rfl
      have f3 : DataW.trod enc Tryz.prog W 0 (fun _ => true) true n 25 (List.take (Tryz.prog.cellsOf 25) (List.drop 3 [v0, v1, v2, v3, v4, v5, v6, v7, v8])) = xs[3]? := hall 3 _ rfl
      have f4 : DataW.trod enc Tryz.prog W 0 (fun _ => true) true n 3 (List.take (Tryz.prog.cellsOf 3) (List.drop 6 [v0, v1, v2, v3, v4, v5, v6, v7, v8])) = xs[4]? := hall 4 _ rfl
      have f5 : DataW.trod enc Tryz.prog W 0 (fun _ => true) true n 9 (List.take (Tryz.prog.cellsOf 9) (List.drop 7 [v0, v1, v2, v3, v4, v5, v6, v7, v8])) = xs[5]? := hall 5 _ rfl
      have f6 : DataW.trod enc Tryz.prog W 0 (fun _ => true) true n 26 (List.take (Tryz.prog.cellsOf 26) (List.drop 8 [v0, v1, v2, v3, v4, v5, v6, v7, v8])) = xs[6]? := hall 6 _ rfl
      rw [List.getElem?_eq_getElem (by omega)] at f0 f1 f2 f3 f4 f5 f6
      simp only [cof_int, cof_str, cof_cl, cof_pds, List.drop_zero, List.drop_succ_cons, List.take_succ_cons, List.take_zero] at f0 f1 f2 f3 f4 f5 f6
      obtain ⟨i0, e0, _, w0⟩ := DataW.trod_int Tryz.underlying3 f0
      obtain rfl := (List.cons.inj e0).1
      obtain ⟨s1, e1, _, _⟩ := DataW.trod_string Tryz.underlying9 f1
      obtain rfl := (List.cons.inj e1).1
      obtain ⟨i2, e2, _, _⟩ := DataW.trod_int Tryz.underlying3 f2
      obtain rfl := (List.cons.inj e2).1
      obtain ⟨c, rfl, rfl, rfl, hc⟩ := cl_cells f3
      obtain ⟨i4, e4, _, _⟩ := DataW.trod_int Tryz.underlying3 f4
      obtain rfl := (List.cons.inj e4).1
      obtain ⟨s5, e5, _, _⟩ := DataW.trod_string Tryz.underlying9 f5
      obtain rfl := (List.cons.inj e5).1
      have hy : SizeOf.sizeOf xs[6].1 < SizeOf.sizeOf (xs.map fun x => x.fst) := List.sizeOf_lt_of_mem (List.mem_map.2 ⟨xs[6], List.getElem_mem _, rfl⟩)
      refine (?_ : ∃ (s : Kv) (ks : List Pd), v8 = kidV s ∧ Kd W s ks).elim fun s hs => ?_
      · rcases Go.Deep.open_slice Tryz.underlying26 f6 with ⟨hcs, _⟩ | ⟨a, len, cap, m, q, D, Pl, hcs, _, hl, hm, hmm, hye, hr⟩
        · obtain rfl := (List.cons.inj hcs).1
          exact ⟨noKv, [], rfl, Kd.nil_ W⟩
        · obtain rfl := (List.cons.inj hcs).1
          have hnm : len ≤ m := by rw [hmm]; simp; exact hl
          have hyx : xs[6].1 = DataW.slice ((List.range len).map D) ((List.range (m - len)).map fun j => D (len + j)) := (Prod.mk.inj (show (xs[6].1, xs[6].2) = _ from hye)).1
          rw [hyx] at hy
          simp only [DataW.slice.sizeOf_spec] at hy
          obtain ⟨l, hll, hls⟩ := choose_listG (fun i (z : (Ph × Kv) × List Pd) => AtN W (a.add (i * 9)) (pdL z.1) ∧ Kd W z.1.2 z.2 ∧ I64b z.1.1.val.num) len (by
            intro i hi
            obtain ⟨cs', h1, h2⟩ := hr i (by omega)
            rw [cof_pd] at h1
            obtain ⟨_, hlen', hcell⟩ := World.cells?_some h1
            have hd : SizeOf.sizeOf (D i) < SizeOf.sizeOf ((List.range len).map D) := List.sizeOf_lt_of_mem (List.mem_map.2 ⟨i, List.mem_range.2 hi, rfl⟩)
            obtain ⟨h', s', ks', rfl, hk', hb'⟩ := ih _ _ _ (show SizeOf.sizeOf (D i, Pl i).1 ≤ N by show SizeOf.sizeOf (D i) ≤ N; omega) h2
            refine ⟨((h', s'), ks'), fun j u hu => ?_, hk', hb'⟩
            rw [hcell j (by have := (List.getElem?_eq_some_iff.1 hu).1; simpa [pdL] using this)]
            exact hu)
          subst hll
          refine ⟨⟨some a, l.length, cap⟩, l.map fun z => .mk z.1.1 z.2, rfl, .mk _ (l.map Prod.fst) _ (by simp) ⟨some a, cap, by simp [kidV], by simpa using hl, (fun h => by cases h), fun b hb j hj => ?_⟩ (fun i h1 h2 => by simp [Pd.hd]) (fun i h2 => ?_) (fun i h1 h2 => ?_)⟩
          · cases hb
            have hj' : j < l.length := by simpa using hj
            simpa using (hls j hj').1
          · have hj' : i < l.length := by simpa using h2
            simpa [Pd.hd] using (hls i hj').2.2
          · have hj' : i < l.length := by simpa using h1
            simpa [Pd.kids] using (hls i hj').2.1
      · obtain ⟨ks, rfl, hk⟩ := hs
        exact ⟨⟨i0, s1.data.toList, i2, c, i4, s5.data.toList⟩, s, ks, by simp [pdL], hk, ⟨hc.lo, hc.hi⟩⟩
end Go.Proofs.YtjcfjjhhbcgcmaaGreat
