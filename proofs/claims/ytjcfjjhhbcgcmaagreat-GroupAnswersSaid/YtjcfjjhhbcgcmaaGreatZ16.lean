/-
  Joined: GrpY, GrpP, GrpL1, SmC, Sm13, Rws, PdLit, Qry9, GrpL2, OpenC, OpenS, OpenK, OpenPd
-/
import Derived.Lib.Zigzag
import Derived.Deep.QuietTactic
import Derived.BigQuiet
import Derived.Deep.RegionHeld3
import Derived.Deep.DrawnRows
import Derived.Shelf.Strings.Replace
import Derived.Shelf.Strconv.Itoa4
import Derived.Shelf.Strings.OnBuilder
import Derived.Test.YtjcfjjhhbcgcmaaGreatProg
import Derived.Lib.SmallJoins
import Derived.Lib.AppendIntMem
import Derived.Laws.StructEq
import Derived.Laws.Rows
import Derived.Laws.ResultCell
import Derived.Deep.RegionWith
import Derived.Test.YtjcfjjhhbcgcmaaGreatZ15
import Derived.Test.YtjcfjjhhbcgcmaaGreatZ7
import Derived.Test.YtjcfjjhhbcgcmaaGreatZ14
import Derived.Test.YtjcfjjhhbcgcmaaGreatZ5
import Derived.Test.YtjcfjjhhbcgcmaaGreatZ4
import Derived.Test.YtjcfjjhhbcgcmaaGreatZ12
import Derived.Test.YtjcfjjhhbcgcmaaGreatZ1
import Derived.Test.YtjcfjjhhbcgcmaaGreatZ9
import Derived.Test.YtjcfjjhhbcgcmaaGreatZ13
import Derived.OpenShut
import Derived.Stop.Joined
import Derived.ProofKit
set_option linter.unusedVariables false
set_option linter.unusedSimpArgs false
set_option maxRecDepth 100000
namespace Go.Proofs.YtjcfjjhhbcgcmaaGreat
open Go.RowKit
def tyA (cols : List Co) (k : Nat) : Int := (cols.getD k noCo).ty
theorem tyA_at {cols : List Co} {k : Nat} (h : k < cols.length) : tyA cols k = cols[k].ty := by unfold tyA; rw [List.getD_eq_getElem?_getD, List.getElem?_eq_getElem h]; rfl
theorem plN_of {cols : List Co} {n : Tx} {k : Nat} (h : findC cols n = some k) : plN cols n = k := by unfold plN; rw [h]; rfl
theorem tyN_of {cols : List Co} {n : Tx} {k : Nat} (h : findC cols n = some k) : tyN cols n = tyA cols (plN cols n) := by unfold tyN; rw [plN_of h, h]; rfl
theorem chk_pos {cols : List Co} (h : chkC cols = 0) : 0 < cols.length := by
  cases cols with
  | nil => exact absurd h (by decide)
  | cons a l => simp
theorem range_map {α β : Type} (l : List α) (d : α) (f : α → β) : (List.range l.length).map (fun k => f (l.getD k d)) = l.map f := by
  apply List.ext_getElem?
  intro i
  by_cases h : i < l.length
  · rw [List.getElem?_map, List.getElem?_range h, List.getElem?_map, List.getElem?_eq_getElem h]
    show some (f (l.getD i d)) = some (f l[i])
    rw [List.getD_eq_getElem?_getD, List.getElem?_eq_getElem h]; rfl
  · rw [List.getElem?_eq_none (by simp; omega), List.getElem?_eq_none (by simp; omega)]
theorem shn_lt {cols : List Co} {q : Qy} (h0 : 0 < cols.length) : ∀ k ∈ shnG cols q, k < cols.length := by
  intro k hk
  unfold shnG at hk
  split at hk
  · rcases List.mem_append.1 hk with h | h
    · split at h
      · exact List.mem_range.1 h
      · cases h
    · obtain ⟨n, _, rfl⟩ := List.mem_map.1 h; exact plN_lt n h0
  · obtain rfl := List.mem_singleton.1 hk; exact plN_lt _ h0
theorem shn_len (cols : List Co) (q : Qy) : (shnG cols q).length ≤ cols.length + q.cols.length + 1 := by
  unfold shnG
  split
  · rw [List.length_append, List.length_map]
    split
    · rw [List.length_range]; omega
    · rw [List.length_nil]; omega
  · rw [List.length_singleton]; omega
theorem typs_is {cols : List Co} {q : Qy} (h : fitQ cols q = 0) : (shnG cols q).map (tyA cols) ++ q.aggs.map (fun a => typF a.op (tyA cols (plN cols a.col))) = typsG cols q := by
  obtain ⟨hm, hc, _, hs⟩ := fitQ_parts h
  obtain ⟨n1, n2, n3⟩ := named_has hs
  unfold typsG
  rw [if_pos h]
  have hA : (∀ a ∈ q.aggs, agB a = true) → q.aggs.map (fun a => typF a.op (tyA cols (plN cols a.col))) = q.aggs.map (fun a => if 4 ≤ a.op then tyN cols a.col else 1) := by
    intro hag
    refine List.map_congr_left (fun a ha => ?_)
    unfold typF
    rcases ag_is (hag a ha) with ⟨h1, _⟩ | ⟨h1, h2, h5, _⟩
    · rw [if_pos (by omega), if_neg (by omega)]
    · by_cases h4 : 4 ≤ a.op
      · obtain ⟨k, hk⟩ := n2 a ha h1
        rw [if_neg (by omega), if_pos (by omega), if_pos h4, tyN_of hk]
      · rw [if_pos (by omega), if_neg h4]
  have hN : q.cols.map (fun n => tyA cols (plN cols n)) = q.cols.map (tyN cols) := List.map_congr_left (fun n hn => by obtain ⟨k, hk⟩ := n1 n hn; exact (tyN_of hk).symm)
  unfold shnG
  rcases mayQ_ways hm with ⟨h0, hb⟩ | ⟨h0, ha, hco⟩
  · rw [if_pos hb, if_pos hb, List.eq_nil_of_length_eq_zero h0, List.map_nil, List.append_nil, List.map_append, List.map_map]
    rw [show (tyA cols ∘ plN cols) = (fun n => tyA cols (plN cols n)) from rfl, hN]
    simp only [List.length_nil, true_and, and_true, List.append_nil, List.map_nil]
    split
    · rename_i hz
      rw [show (List.range cols.length).map (tyA cols) = cols.map Co.ty from range_map cols noCo Co.ty]
    · rfl
  · rw [hA ha]
    have hz : ¬ (q.aggs.length = 0 ∧ q.cols.length = 0) := by omega
    have hz2 : ¬ (q.cols.length = 0 ∧ q.aggs.length = 0) := by omega
    rw [if_neg hz, List.eq_nil_of_length_eq_zero hco]
    by_cases hb : q.by_ = []
    · rw [if_pos hb, if_pos hb, if_neg (fun e => by have := e.2; omega)]
      simp
    · rw [if_neg hb, if_neg hb]
      obtain ⟨k, hk⟩ := n3 hb (by unfold allQ; rw [decide_eq_false (show ¬ q.aggs.length = 0 by omega), Bool.and_false])
      simp [tyN_of hk]
set_option maxHeartbeats 8000000 in
theorem gtyps_any (v0 : Value) (cols : List Co) (q : Qy) (c : Value) (s : Kv) (g : Value) (w : World) (h0 : Ks w v0 cols) (hq : QyS w q c s g) (hcl : cols.length ≤ 20) (hcb : ∀ c ∈ cols, c.name.length ≤ 100) (hs : SmQ q) :
    Calls Tryz.prog 14 #[v0, qyV q c s g] w fun e w' => ∃ u, e = .returned u ∧ Vs iv w' u (typsG cols q) ∧ Fr Non w w' := by
  have HPl : Hid (∀ n W, Fr Non w W → Calls Tryz.prog 35 #[v0, .string ⟨n.toArray⟩] W fun e w' => e = .returned (.int .i64 (plN cols n : Int)) ∧ Fr Non W w') := Lib.hid (fun n W hf => gplace_any v0 cols n W (h0.non hf) (by omega))
  have HFi : Hid (∀ W, Fr Non w W → Calls Tryz.prog 21 #[v0, qyV q c s g] W fun e w' => e = .returned (.int .i64 (fitQ cols q)) ∧ Fr Non W w') := Lib.hid (fun W hf => qfits_any v0 cols q c s g W (h0.non hf) (by omega) (fun c h => by have := hcb c h; omega) (hq.non hf) hs)
  have hql : q.cols.length ≤ 1000 := by have := hs.cols; omega
  have hal : q.aggs.length ≤ 1000 := by have := hs.aggs; omega
  have HSw : Hid (∀ W, Fr Non w W → Calls Tryz.prog 33 #[v0, qyV q c s g] W fun e w' => ∃ u, e = .returned u ∧ Vs iv w' u (plI (shnG cols q)) ∧ Fr Non W w') := Lib.hid (fun W hf => gshown_any v0 cols q c s g W (h0.non hf) (hq.non hf) (by omega) hql)
  have HE0 : Hid (¬ fitQ cols q = 0 → typsG cols q = []) := Lib.hid (fun e => if_neg e)
  have HE1 : Hid (fitQ cols q = 0 → (shnG cols q).map (tyA cols) ++ q.aggs.map (fun a => typF a.op (tyA cols (plN cols a.col))) = typsG cols q ∧ 0 < cols.length ∧ (∀ k ∈ shnG cols q, k < cols.length)) := Lib.hid (fun e => ⟨typs_is e, chk_pos (fitQ_parts e).2.1, shn_lt (chk_pos (fitQ_parts e).2.1)⟩)
  have hsl : (shnG cols q).length ≤ 2000 := by have := shn_len cols q; omega
  have HKs0 := Lib.hid h0
  have HG0 := Lib.hid hq.aggs
  obtain ⟨A0, c0, rfl⟩ := h0.shape
  obtain ⟨cA, cc, hce⟩ := hq.cols.shape
  obtain ⟨gA, gc, hge⟩ := hq.aggs.shape
  have F0 : Fr Non w (w.alloc (.cells (qyC q c s g) 31)) := (Fr.refl Non w).alloc _
  have QB0 : Hid (QB _ w.heap.size q c s g) := Lib.hid (qy_new w _ q c s g rfl)
  clear hq h0 hcb hs
  obtain ⟨tab, qc, ⟨⟨wo, wc, wm, ⟨wn, wi, wt⟩, wk, wp⟩, wks⟩, aggs, by_⟩ := q
  obtain ⟨sA, sn, sc⟩ := s
  dsimp only at hce hge hql hal HE1 HG0
  subst hce hge
  have HG : Hid (Gs w (.slice gA aggs.length gc) aggs) := HG0
  have HKs : Hid (Ks w (.slice A0 cols.length c0) cols) := HKs0
  clear HG0 HKs0
  generalize typsG cols _ = TG at *
  generalize shnG cols _ = SL at *
  generalize fitQ cols _ = z at *
  unfold qyC kidV at F0 QB0
  unfold qyV qyC kidV at HFi HSw
  unfold qyV qyC kidV
  dsimp only [Pd.hd, Pd.kids] at F0 QB0 HFi HSw ⊢
  obtain ⟨b, hb⟩ : ∃ b, w.heap.size = b := ⟨_, rfl⟩
  have HB := Lib.hid hb
  rw [hb] at QB0
  replace QB0 : Hid (QB _ b ⟨tab, qc, ⟨⟨wo, wc, wm, ⟨wn, wi, wt⟩, wk, wp⟩, wks⟩, aggs, by_⟩ (.slice cA qc.length cc) ⟨sA, sn, sc⟩ (.slice gA aggs.length gc)) := QB0
  obtain ⟨b0, b1, b2, b3, b4, b5, b6, b7, b8, b9, b10, b11, b12⟩ := qB_cells QB0.out
  dsimp only [Pd.hd, Pd.kids] at b0 b1 b2 b3 b4 b5 b6 b7 b8 b9 b10 b11 b12
  replace F0 := Lib.hid F0
  go_enter Tryz.func14, Tryz.ntmps14
  go_wp2_with fail
  refine (HFi.out _ F0.out).mono ?_
  rintro e w1 ⟨rfl, f1⟩
  replace QB0 : Hid (QB w1 b ⟨tab, qc, ⟨⟨wo, wc, wm, ⟨wn, wi, wt⟩, wk, wp⟩, wks⟩, aggs, by_⟩ (.slice cA qc.length cc) ⟨sA, sn, sc⟩ (.slice gA aggs.length gc)) := Lib.hid (QB0.out.fr f1 (fun e => e))
  replace F0 := Lib.hid (F0.out.trans f1)
  clear f1 b0 b1 b2 b3 b4 b5 b6 b7 b8 b9 b10 b11 b12 HFi
  by_cases hz : z = 0
  · subst hz
    obtain ⟨hT, hc0, hS⟩ := HE1.out rfl
    have HT := Lib.hid hT
    have HS := Lib.hid hS
    have HC0 := Lib.hid hc0
    clear hT hS hc0 HE0 HE1
    obtain ⟨b0, b1, b2, b3, b4, b5, b6, b7, b8, b9, b10, b11, b12⟩ := qB_cells QB0.out
    dsimp only [Pd.hd, Pd.kids] at b0 b1 b2 b3 b4 b5 b6 b7 b8 b9 b10 b11 b12
    go_wp2_with fail
    refine (HSw.out _ F0.out).mono ?_
    rintro e w2 ⟨u, rfl, hu, f2⟩
    replace QB0 : Hid (QB w2 b ⟨tab, qc, ⟨⟨wo, wc, wm, ⟨wn, wi, wt⟩, wk, wp⟩, wks⟩, aggs, by_⟩ (.slice cA qc.length cc) ⟨sA, sn, sc⟩ (.slice gA aggs.length gc)) := Lib.hid (QB0.out.fr f2 (fun e => e))
    replace F0 := Lib.hid (F0.out.trans f2)
    clear f2 b0 b1 b2 b3 b4 b5 b6 b7 b8 b9 b10 b11 b12 HSw
    obtain ⟨A1, c1, hv1⟩ := hu.shape
    rw [plI_len] at hv1
    subst hv1
    have HU := Lib.hid hu
    obtain ⟨M, hM⟩ : ∃ M, w2.heap.size = M := ⟨_, rfl⟩
    have HMb : Hid (b + 1 ≤ M) := Lib.hid (by have := QB0.out.lt; omega)
    have HMe := Lib.hid hM
    clear hu hM
    go_wp2
    go_loopw [5, 18] (fun x i wr => ∃ (k : Nat), k ≤ SL.length ∧ i = .int .i64 k ∧ Hid (Ow iv 3 wr M x ((SL.take k).map (tyA cols))) ∧ Hid (Fr (fun k => M ≤ k) w2 wr)) (fun _ i _ => SL.length - (intOf i).toNat)
    case atStart => exact ⟨0, Nat.zero_le _, rfl, Lib.hid (ow_nil _ _), Lib.hid (Fr.refl _ _)⟩
    case round =>
      obtain ⟨k, hk, rfl, HO, FM⟩ := hrel
      rename World => w3
      have FR : Hid (Fr Non w w3) := Lib.hid (F0.out.fresh FM.out (fun k e => by have := F0.out.size; have := HMe.out; omega))
      by_cases hlt : k < SL.length
      · obtain ⟨a1, rfl, -, -, hel⟩ := (HU.out.keep (fun k _ hlt => FM.out.block k hlt (by have := HMe.out; omega))).addr (show 0 < SL.length by omega)
        have g0 := hel k (by rw [plI_len]; exact hlt)
        rw [plI_at hlt] at g0
        clear hel
        have hbk := HS.out _ (List.getElem_mem hlt)
        have HM : Hid ((SL.take (k + 1)).map (tyA cols) = (SL.take k).map (tyA cols) ++ [cols[SL[k]].ty]) := Lib.hid (by rw [List.take_succ_eq_append_getElem hlt, List.map_append, List.map_cons, List.map_nil, tyA_at hbk])
        have HDl : Hid (((SL.take k).map (tyA cols)).length ≤ 2000) := Lib.hid (by rw [List.length_map, List.length_take]; omega)
        generalize (SL.take k).map (tyA cols) = D at *
        generalize SL[k] = m at *
        obtain ⟨a0, rfl, -, t1⟩ := Ks.findS (HKs.out.non FR.out) m hbk
        unfold iv at g0
        generalize cols[m].ty = y at *
        obtain ⟨Ax, cx, hx⟩ := HO.out.shape
        subst hx
        have hb4 : M ≤ w3.heap.size := by have := FM.out.size; have := HMe.out; omega
        go_wp2_with (at_builtin; refine wpList_pushG el_int iv_oneC rfl (.tmp 22) (.tmp 28) rfl M _ D rfl HO.out _ y rfl (by rfl) (by have := HDl.out; omega) hb4 ?_; intro x6 w6 HX6 f6)
        have FM6 := Lib.hid (FM.out.join f6 (fun k hk e => (HO.out.lt k e).1))
        go_roundw
        case rel => exact ⟨k + 1, by omega, by go_num, by rw [HM.out]; exact Lib.hid HX6, FM6⟩
        case measure => simp [intOf]; omega
      · have hke : k = SL.length := by omega
        rw [hke, List.take_length] at HO
        have HLb : Hid ((SL.map (tyA cols)).length ≤ 2000) := Lib.hid (by rw [List.length_map]; exact hsl)
        generalize SL.map (tyA cols) = LB at *
        have QB1 : Hid (QB w3 b ⟨tab, qc, ⟨⟨wo, wc, wm, ⟨wn, wi, wt⟩, wk, wp⟩, wks⟩, aggs, by_⟩ (.slice cA qc.length cc) ⟨sA, sn, sc⟩ (.slice gA aggs.length gc)) := Lib.hid (QB0.out.fr FM.out (fun e => by have := HMb.out; omega))
        replace HO := Lib.hid (HO.out.mono HMb.out)
        clear hke HU HS QB0 F0 FM
        obtain ⟨b0, b1, b2, b3, b4, b5, b6, b7, b8, b9, b10, b11, b12⟩ := qB_cells QB1.out
        dsimp only [Pd.hd, Pd.kids] at b0 b1 b2 b3 b4 b5 b6 b7 b8 b9 b10 b11 b12
        go_wp2
        go_loopw [5, 34] (fun x i wr => ∃ (k : Nat), k ≤ aggs.length ∧ i = .int .i64 k ∧ Hid (Ow iv 3 wr (b + 1) x (LB ++ (aggs.take k).map (fun a => typF a.op (tyA cols (plN cols a.col))))) ∧ Hid (QB wr b ⟨tab, qc, ⟨⟨wo, wc, wm, ⟨wn, wi, wt⟩, wk, wp⟩, wks⟩, aggs, by_⟩ (.slice cA qc.length cc) ⟨sA, sn, sc⟩ (.slice gA aggs.length gc)) ∧ Hid (Fr Non w wr)) (fun _ i _ => aggs.length - (intOf i).toNat)
        case atStart => exact ⟨0, Nat.zero_le _, rfl, by rw [List.take_zero, List.map_nil, List.append_nil]; exact HO, QB1, FR⟩
        case round =>
          clear HO QB1 FR b0 b1 b2 b3 b4 b5 b6 b7 b8 b9 b10 b11 b12
          obtain ⟨k, hk, rfl, HO, QB1, FR⟩ := hrel
          rename World => wr
          by_cases hlt2 : k < aggs.length
          · obtain ⟨ga, hga, -, g1, g2⟩ := (HG.out.non FR.out).gat k hlt2
            subst hga
            have HM : Hid (LB ++ (aggs.take (k + 1)).map (fun a => typF a.op (tyA cols (plN cols a.col))) = (LB ++ (aggs.take k).map (fun a => typF a.op (tyA cols (plN cols a.col)))) ++ [typF aggs[k].op (tyA cols (plN cols aggs[k].col))]) := Lib.hid (by rw [List.take_succ_eq_append_getElem hlt2, List.map_append, List.map_cons, List.map_nil, List.append_assoc])
            have HLl : Hid ((LB ++ (aggs.take k).map (fun a => typF a.op (tyA cols (plN cols a.col)))).length ≤ 4000) := Lib.hid (by rw [List.length_append, List.length_map, List.length_take]; have := HLb.out; omega)
            have HPk := Lib.hid (HPl.out aggs[k].col)
            have hpk : plN cols aggs[k].col < cols.length := plN_lt _ HC0.out
            have HTy := Lib.hid (fun W => ftype_any aggs[k].op (tyA cols (plN cols aggs[k].col)) W)
            rw [tyA_at hpk] at HTy HM
            obtain ⟨D, hD⟩ : ∃ D, wr.heap.size = D := ⟨_, rfl⟩
            have HAB0 := ag_new wr D aggs[k] hD.symm
            generalize LB ++ (aggs.take k).map (fun a => typF a.op (tyA cols (plN cols a.col))) = L at *
            generalize plN cols aggs[k].col = pn at *
            generalize aggs[k] = ag at *
            obtain ⟨op, cn⟩ := ag
            dsimp only at g1 g2 HPk HTy HAB0 HM
            obtain ⟨a0, rfl, -, s2⟩ := Ks.findS (HKs.out.non FR.out) pn hpk
            have HA0 : Hid ((a0.add (pn * 3)).block < w.heap.size) := Lib.hid (by
              obtain ⟨a9, e9, -, s9⟩ := Ks.findS HKs.out pn hpk
              obtain rfl := Option.some.inj e9
              have h9 := World.block_lt_of_cell? _ _ s9
              exact h9)
            generalize cols[pn].ty = ty at *
            generalize typF op ty = y at *
            obtain ⟨Ax, cx, hx⟩ := HO.out.shape
            subst hx
            obtain ⟨w1, hw1⟩ : ∃ W, W = wr.alloc (.cells #[.int .i64 op, .string ⟨cn.toArray⟩] 50) := ⟨_, rfl⟩
            rw [← hw1] at HAB0
            have HAB : Hid (Blk w1 D 50 #[.int .i64 op, .string ⟨cn.toArray⟩]) := Lib.hid HAB0
            have f1 : Fr Non wr w1 := by rw [hw1]; exact (Fr.refl Non wr).alloc _
            have HO1 := Lib.hid (HO.out.non f1)
            have QBA := Lib.hid (QB1.out.fr f1 (fun e => e))
            obtain ⟨s0, s1⟩ := agB_cells HAB0
            replace s2 := f1.at0 s2
            have FA := Lib.hid (FR.out.trans f1)
            have FAs : Hid (b + 1 ≤ w1.heap.size) := Lib.hid (by have := QBA.out.lt; omega)
            go_wp2
            rw [← hw1]
            clear hw1 f1 HAB0 g1 g2 hD HO QB1 FR
            obtain ⟨V, hV⟩ : ∃ V, V = w1.drew := ⟨_, rfl⟩
            refine wp_region_held_drew (S := (fun W' => W'.cell? ⟨D, 0, none⟩ = some (.int .i64 op) ∧ W'.cell? ⟨D, 1, none⟩ = some (.string ⟨cn.toArray⟩) ∧ W'.cell? { block := (a0.add (pn * 3)).block, off := (a0.add (pn * 3)).off + 1 } = some (.int .i64 ty))) (by kernel_rfl) (by exact ⟨s0, s1, s2⟩) (fun hHeld => ?_)
            rw [← hV]
            rw [← hV] at hHeld
            have FV : Fr Non w1 V := by rw [hV]; exact (Fr.refl Non w1).drew
            clear hV
            replace s0 := FV.at0 s0
            replace s1 := FV.at0 s1
            replace s2 := FV.at0 s2
            refine wpAnyH_take (i := 0) (oi := ⟨some 38, _, _, _, _, none⟩) (v := ?v1) rfl (by kernel_rfl) (by kernel_rfl) (by kernel_rfl) (fun _ _ _ h => h) (Or.inl ⟨by rfl, ?hy1⟩) (by assumption) ?rest1
            case hy1 => (intro wS hSw; (try dsimp only at hSw); go_simp; (try with_reducible rfl))
            (try simp only [Act.put, zA, zB, zC])
            refine wpAnyH_take (i := 1) (oi := ⟨some 39, _, _, _, _, none⟩) (v := ?v2) rfl (by kernel_rfl) (by kernel_rfl) (by kernel_rfl) (fun _ _ _ h => h) (Or.inl ⟨by rfl, ?hy2⟩) (by assumption) ?rest2
            case hy2 => (intro wS hSw; (try dsimp only at hSw); go_simp; (try with_reducible rfl))
            (try simp only [Act.put, zA, zB, zC])
            refine wpAnyH_take (i := 2) (oi := ⟨some 40, _, _, _, _, none⟩) (v := ?v3) rfl (by kernel_rfl) (by kernel_rfl) (by kernel_rfl) (fun _ _ _ h => h) (Or.inl ⟨by rfl, ?hy3⟩) (by assumption) ?rest3
            case hy3 => (intro wS hSw; (try dsimp only at hSw); go_simp; (try with_reducible rfl))
            (try simp only [Act.put, zA, zB, zC])
            refine wpAnyH_take (i := 3) (oi := ⟨some 41, _, _, _, _, none⟩) (v := ?v4) rfl (by kernel_rfl) (by kernel_rfl) (by kernel_rfl) (fun _ _ _ h => h) (Or.inl ⟨by rfl, ?hy4⟩) (by assumption) ?rest4
            case hy4 => (intro wS hSw; (try dsimp only at hSw); go_simp; (try with_reducible rfl))
            (try simp only [Act.put, zA, zB, zC])
            refine wpAnyH_take (i := 4) (oi := ⟨some 42, _, _, _, _, none⟩) (v := ?v5) rfl (by kernel_rfl) (by kernel_rfl) (by kernel_rfl) (fun _ _ _ h => h) (Or.inl ⟨by rfl, ?hy5⟩) (by assumption) ?rest5
            case hy5 => (intro wS hSw; (try dsimp only at hSw); go_simp; (try with_reducible rfl))
            (try simp only [Act.put, zA, zB, zC])
            refine wpAnyH_take (i := 5) (oi := ⟨some 43, _, _, _, _, none⟩) (v := ?v6) rfl (by kernel_rfl) (by kernel_rfl) (by kernel_rfl) (fun _ _ _ h => h) (Or.inl ⟨by rfl, ?hy6⟩) (by assumption) ?rest6
            case hy6 => (intro wS hSw; (try dsimp only at hSw); go_simp; (try with_reducible rfl))
            (try simp only [Act.put, zA, zB, zC])
            refine wpAnyH_take (i := 6) (oi := ⟨some 44, _, _, _, _, none⟩) (v := ?v7) rfl (by kernel_rfl) (by kernel_rfl) (by kernel_rfl) (fun _ _ _ h => h) (Or.inl ⟨by rfl, ?hy7⟩) (by assumption) ?rest7
            case hy7 => (intro wS hSw; (try dsimp only at hSw); go_simp; (try with_reducible rfl))
            (try simp only [Act.put, zA, zB, zC])
            refine wpAnyH_ready (rs := [7]) (by kernel_rfl) (by simp) ?_
            refine AllReadyH.cons (o := ⟨some 45, _, _, _, _, none⟩) rfl (fun K hK => ?_) AllReadyH.nil
            go_simp
            go_at_call 35
            refine (HPk.out _ (FA.out.trans FV)).mono ?_
            rintro e w2 ⟨rfl, f2⟩
            go_wp2_with fail
            refine hK.out _ _ (by exact ⟨f2.at0 s0, f2.at0 s1, f2.at0 s2⟩) (fun hHeld => ?_)
            clear hK K
            (try simp only [Act.put, zA, zB, zC])
            replace s0 := f2.at0 s0
            replace s1 := f2.at0 s1
            replace s2 := f2.at0 s2
            have F2 := FV.trans f2
            clear FV f2
            refine wpAnyH_take (i := 8) (oi := ⟨some 46, _, _, _, _, none⟩) (v := ?v8) rfl (by kernel_rfl) (by kernel_rfl) (by kernel_rfl) (fun _ _ _ h => h) (Or.inl ⟨by rfl, ?hy8⟩) (by assumption) ?rest8
            case hy8 => (intro wS hSw; (try dsimp only at hSw); go_simp; (try with_reducible rfl))
            (try simp only [Act.put, zA, zB, zC])
            refine wpAnyH_take (i := 9) (oi := ⟨some 47, _, _, _, _, none⟩) (v := ?v9) rfl (by kernel_rfl) (by kernel_rfl) (by kernel_rfl) (fun _ _ _ h => h) (Or.inl ⟨by rfl, ?hy9⟩) (by assumption) ?rest9
            case hy9 => (intro wS hSw; (try dsimp only at hSw); go_simp; (try with_reducible rfl))
            (try simp only [Act.put, zA, zB, zC])
            refine wpAnyH_take (i := 10) (oi := ⟨some 48, _, _, _, _, none⟩) (v := ?v10) rfl (by kernel_rfl) (by kernel_rfl) (by kernel_rfl) (fun _ _ _ h => h) (Or.inl ⟨by rfl, ?hy10⟩) (by assumption) ?rest10
            case hy10 => (intro wS hSw; (try dsimp only at hSw); go_simp; (try with_reducible rfl))
            (try simp only [Act.put, zA, zB, zC])
            refine wpAnyH_ready (rs := [11]) (by kernel_rfl) (by simp) ?_
            refine AllReadyH.cons (o := ⟨some 49, _, _, _, _, none⟩) rfl (fun K hK => ?_) AllReadyH.nil
            go_simp
            go_at_call 34
            refine (HTy.out _).mono ?_
            rintro e w3 ⟨rfl, rfl⟩
            go_wp2_with fail
            refine hK.out _ _ (by exact ⟨s0, s1, s2⟩) (fun hHeld => ?_)
            clear hK K
            (try simp only [Act.put, zA, zB, zC])
            have HO3 := HO1.out.non F2
            refine wpAnyH_ready (rs := [12]) (by kernel_rfl) (by simp) ?_
            refine AllReadyH.cons (o := ⟨some 50, _, _, _, _, none⟩) rfl (fun K hK => ?_) AllReadyH.nil
            obtain ⟨H, hH⟩ : ∃ H, w2.heap.size = H := ⟨_, rfl⟩
            obtain ⟨w5, hw5⟩ : ∃ W, W = w2.alloc (.cells #[.int .i64 y] 3) := ⟨_, rfl⟩
            have HB1 : Vs iv w5 (.slice (some ⟨H, 0, none⟩) 1 1) [y] := by rw [hw5, ← hH]; exact vs_row (f := iv) w2 [y] _ _
            have f5 : Fr Non w2 w5 := by rw [hw5]; exact (Fr.refl Non w2).alloc _
            have F5 : Fr Non w1 w5 := F2.trans f5
            have HO5 := HO3.non f5
            go_simp
            rw [← hw5]
            clear hw5
            refine hK.out _ _ (by exact ⟨f5.at0 s0, f5.at0 s1, f5.at0 s2⟩) (fun hHeld => ?_)
            clear hK K
            (try simp only [Act.put, zA, zB, zC])
            replace s0 := f5.at0 s0
            replace s1 := f5.at0 s1
            replace s2 := f5.at0 s2
            clear HO3 F2 f5 hH
            refine wpAnyH_ready (rs := [13]) (by kernel_rfl) (by simp) ?_
            refine AllReadyH.cons (o := ⟨some 51, _, _, _, _, none⟩) rfl (fun K hK => ?_) AllReadyH.nil
            refine wp_appG el_int iv_oneC (.tmp 38) (.tmp 50) rfl (b + 1) _ (.slice (some ⟨H, 0, none⟩) 1 1) L [y] rfl HO5 rfl HB1 (by have := HLl.out; simp; omega) (by have := F5.size; have := FAs.out; omega) ?_
            intro y6 w6 HO6 f6
            have hDne : ∀ k, Value.ownBlock (.slice Ax L.length cx) = some k → k ≠ D := fun k hk e => by
              subst e
              obtain ⟨cur, h9⟩ := HO5.kind k hk
              have h8 : w5.heap[k]? = some (.cells #[.int .i64 op, .string ⟨cn.toArray⟩] 50 (0, 0)) := HAB.out.fr F5 (fun e => e)
              rw [h9] at h8
              simp only [Option.some.injEq, Obj.cells.injEq] at h8
              exact absurd h8.2.1 (by decide)
            have keep6 : ∀ {o : Nat} {u : Value}, w5.cell? ⟨D, o, none⟩ = some u → w6.cell? ⟨D, o, none⟩ = some u := fun {o u} e => (f6.cell (World.block_lt_of_cell? _ _ e) (fun e2 => hDne _ e2 rfl)).trans e
            have keep7 : w6.cell? { block := (a0.add (pn * 3)).block, off := (a0.add (pn * 3)).off + 1 } = some (.int .i64 ty) := (f6.cell (World.block_lt_of_cell? _ _ s2) (fun e2 => by have h9 := (HO5.lt _ e2).1; dsimp only at h9; have := HA0.out; have := HB.out; omega)).trans s2
            have F6 := (FA.out.trans F5).fresh f6 (fun z e => by have := (HO5.lt z e).1; have := HB.out; omega)
            have QB6 : Hid (QB w6 b ⟨tab, qc, ⟨⟨wo, wc, wm, ⟨wn, wi, wt⟩, wk, wp⟩, wks⟩, aggs, by_⟩ (.slice cA qc.length cc) ⟨sA, sn, sc⟩ (.slice (some ga) aggs.length gc)) := Lib.hid ((QBA.out.fr F5 (fun e => e)).fr f6 (fun e => by have := (HO5.lt _ e).1; omega))
            refine hK.out _ _ (by exact ⟨keep6 s0, keep6 s1, keep7⟩) (fun hHeld => ?_)
            clear hK K
            (try simp only [Act.put, zA, zB, zC])
            refine wpAnyH_take (i := 14) (oi := ⟨some 5, _, _, _, _, none⟩) (v := ?v11) rfl (by kernel_rfl) (by kernel_rfl) (by kernel_rfl) (fun _ _ _ h => h) (Or.inl ⟨by rfl, ?hy11⟩) (by assumption) ?rest11
            case hy11 => (intro wS hSw; (try dsimp only at hSw); go_simp; (try with_reducible rfl))
            (try simp only [Act.put, zA, zB, zC])
            refine wpAnyH_done (by kernel_rfl) ?_ _
            have F6h := Lib.hid F6
            have HO6h := Lib.hid HO6
            clear hHeld F6 HO6 HO5 F5 HB1 keep6 keep7 hDne s0 s1 s2 f6
            obtain ⟨A6, c6, hv6⟩ := HO6h.out.shape
            go_wp2
            go_roundw
            case rel => exact ⟨k + 1, by omega, by go_num, by rw [HM.out]; exact HO6h, QB6, F6h⟩
            case measure => simp [intOf]; omega
          · have hke2 : k = aggs.length := by omega
            rw [hke2, List.take_length, HT.out] at HO
            go_wp2
            go_ret
            exact ⟨_, rfl, HO.out.vs, FR.out⟩
  · have HE := Lib.hid (HE0.out hz)
    have hd : (z != 0) = true := by rw [bne_iff_ne]; exact hz
    clear hz HE0 HE1
    go_wp2
    go_ret
    exact ⟨_, rfl, by rw [HE.out]; exact Vs.nil_ _, F0.out⟩
end Go.Proofs.YtjcfjjhhbcgcmaaGreat

namespace Go.Proofs.YtjcfjjhhbcgcmaaGreat
open Go.RowKit
theorem cellN_pl {cols : List Co} {r : List Cl} {n : Tx} {k : Nat} (h : findC cols n = some k) : cellN cols r n = atC r (plN cols n) := by
  rw [plN_of h]; unfold cellN; rw [h]; rfl
theorem colC_atC (rows : List (List Cl)) (k : Nat) : colC rows k = rows.map fun r => atC r k := rfl
theorem vals_is {cols : List Co} {q : Qy} (rows : List (List Cl)) (ha : ∀ a ∈ q.aggs, agB a = true) (hn : ∀ a ∈ q.aggs, a.op ≠ 1 → ∃ k, findC cols a.col = some k) : q.aggs.map (agP cols rows) = valsG cols q rows := by
  unfold valsG
  refine List.map_congr_left (fun a hm => ?_)
  unfold agP agC
  by_cases h1 : a.op = 1
  · unfold valF
    rw [if_pos h1, if_pos h1, (foC_is _).cnt, (foC_is _).cnt, colC_length, List.length_map]
  · obtain ⟨k, hk⟩ := hn a hm h1
    rw [colC_atC]
    congr 2
    exact List.map_congr_left (fun r _ => (cellN_pl hk).symm)
theorem shown_row (r : List Cl) : (List.range r.length).map (atC r) = r := by
  have h := range_map r noCl (fun x : Cl => x)
  rw [List.map_id'] at h
  exact h
theorem plain_is {cols : List Co} {q : Qy} {rows : List (List Cl)} (ha : q.aggs.length = 0) (hb : q.by_ = []) (hn : ∀ n ∈ q.cols, ∃ k, findC cols n = some k) (hr : ∀ r ∈ rows, r.length = cols.length) : rows.map (fun r => (shnG cols q).map (atC r)) = plainG cols q rows := by
  unfold plainG shnG
  refine List.map_congr_left (fun r hm => ?_)
  rw [if_pos hb]
  by_cases hc : q.cols.length = 0
  · rw [if_pos ⟨hc, ha⟩, if_pos hc, List.eq_nil_of_length_eq_zero hc, List.map_nil, List.append_nil, ← hr r hm]
    exact shown_row r
  · rw [if_neg (fun e => hc e.1), if_neg hc, List.nil_append, List.map_map]
    exact List.map_congr_left (fun n hm2 => by obtain ⟨k, hk⟩ := hn n hm2; exact (cellN_pl hk).symm)
theorem by_is {cols : List Co} {q : Qy} {rows : List (List Cl)} (ha : ∀ a ∈ q.aggs, agB a = true) (hn : ∀ a ∈ q.aggs, a.op ≠ 1 → ∃ k, findC cols a.col = some k) (hb : ∃ k, findC cols q.by_ = some k) :
    (keysC (rows.map fun r => atC r (plN cols q.by_))).map (fun c => c :: q.aggs.map (agP cols (rows.filter fun r => ceq (atC r (plN cols q.by_)) c))) = byG cols q rows := by
  obtain ⟨k, hk⟩ := hb
  unfold byG keysG mineG
  have h1 : (rows.map fun r => atC r (plN cols q.by_)) = rows.map fun r => cellN cols r q.by_ := List.map_congr_left (fun r _ => (cellN_pl hk).symm)
  rw [h1]
  refine List.map_congr_left (fun c _ => ?_)
  rw [vals_is _ ha hn]
  have h2 : (fun r => ceq (atC r (plN cols q.by_)) c) = fun r => ceq (cellN cols r q.by_) c := funext (fun r => by rw [cellN_pl hk])
  rw [h2]
theorem whr_pl {α : Type} (l : List α) (d : α) (f : α → Bool) : ((List.range l.length).filter fun i => f (l.getD i d)).map (fun i => l.getD i d) = l.filter f := by
  have h := range_map l d (fun x : α => x)
  rw [List.map_id'] at h
  conv => rhs; rw [← h]
  rw [List.filter_map]; rfl
set_option maxHeartbeats 8000000 in
theorem ganswer0_any (v0 v2 : Value) (cols : List Co) (q : Qy) (c : Value) (s : Kv) (g : Value) (rows : List (List Cl)) (w : World) (h0 : Ks w v0 cols) (hq : QyS w q c s g) (h2 : Rs w v2 rows) (hcl : cols.length ≤ 1000) (hs : SmQ q) (hrl : rows.length ≤ 100000) (hf : fitQ cols q = 0) (hr : ∀ r ∈ rows, rowB cols r = true) (hok : ∀ r ∈ rows, ∀ c ∈ r, okC c) :
    Calls Tryz.prog 23 #[v0, qyV q c s g, v2] w fun e w' => ∃ u, e = .returned u ∧ Ro w' w.heap.size u (answG cols q rows) ∧ Fr Non w w' := by
  obtain ⟨hm, hc, _, hsu⟩ := fitQ_parts hf
  obtain ⟨n1, n2, n3⟩ := named_has hsu
  have hc0 := chk_pos hc
  have hrl2 : ∀ r ∈ rows, r.length = cols.length := fun r h => (row_at (hr r h)).1.symm
  have hql : q.cols.length ≤ 1000 := by have := hs.cols; omega
  have hal : q.aggs.length ≤ 1000 := by have := hs.aggs; omega
  have HSh : Hid (∀ W, Fr Non w W → Calls Tryz.prog 33 #[v0, qyV q c s g] W fun e w' => ∃ u, e = .returned u ∧ Vs iv w' u (plI (shnG cols q)) ∧ Fr Non W w') := Lib.hid (fun W hF => gshown_any v0 cols q c s g W (h0.non hF) (hq.non hF) hcl hql)
  have HPn : Hid (q.aggs.length = 0 → ∀ pv W, Fr Non w W → Vs iv W pv (plI (shnG cols q)) → Calls Tryz.prog 41 #[v2, pv] W fun e w' => ∃ u, e = .returned u ∧ Ro w' W.heap.size u (answG cols q rows) ∧ Fr Non W w') := Lib.hid (fun ha pv W hF hP => by
    have hb : q.by_ = [] := by
      rcases mayQ_ways hm with ⟨_, h⟩ | ⟨h, _⟩
      · exact h
      · omega
    have e : answG cols q rows = rows.map (fun r => (shnG cols q).map (atC r)) := by unfold answG; rw [if_pos ha]; exact (plain_is ha hb n1 hrl2).symm
    rw [e]
    exact gplain_any v2 pv rows (shnG cols q) W (h2.non hF) hP hrl (by have := shn_len cols q; omega) (fun r h k hk => by rw [hrl2 r h]; exact shn_lt hc0 k hk))
  have HAg : 0 < q.aggs.length → (∀ a ∈ q.aggs, agB a = true) ∧ q.cols.length = 0 := fun h => by
    rcases mayQ_ways hm with ⟨h1, _⟩ | ⟨_, h1, h2⟩
    · omega
    · exact ⟨h1, h2⟩
  have HVl : Hid (0 < q.aggs.length → q.by_ = [] → ∀ W, Fr Non w W → Calls Tryz.prog 42 #[v0, g, v2] W fun e w' => ∃ u, e = .returned u ∧ Oc w' W.heap.size u (valsG cols q rows) ∧ Fr Non W w') := Lib.hid (fun ha hb W hF => by
    have h9 := gvalues_any v0 g v2 cols q.aggs rows W (h0.non hF) (hq.aggs.non hF) (h2.non hF) hcl hal hrl hc0 hrl2
    rw [vals_is rows (HAg ha).1 n2] at h9
    exact h9)
  have HVe : Hid (0 < q.aggs.length → q.by_ = [] → answG cols q rows = [valsG cols q rows]) := Lib.hid (fun ha hb => by unfold answG; rw [if_neg (by omega), if_pos hb])
  have HGd : Hid (0 < q.aggs.length → q.by_ ≠ [] → ∀ W, Fr Non w W → Calls Tryz.prog 43 #[v0, qyV q c s g, v2] W fun e w' => ∃ u, e = .returned u ∧ Ro w' W.heap.size u (answG cols q rows) ∧ Fr Non W w') := Lib.hid (fun ha hb W hF => by
    have hbk := n3 hb (by unfold allQ; rw [decide_eq_false (show ¬ q.aggs.length = 0 by omega), Bool.and_false])
    have h9 := ggrouped_any v0 v2 cols q c s g rows W (h0.non hF) (hq.non hF) (h2.non hF) hcl hal hrl hc0 hrl2 (fun r h => by
      have hp : plN cols q.by_ < r.length := by rw [hrl2 r h]; exact plN_lt _ hc0
      rw [atC_at hp]
      exact hok r h _ (List.getElem_mem hp))
    rw [by_is (HAg ha).1 n2 hbk] at h9
    have e : answG cols q rows = byG cols q rows := by unfold answG; rw [if_neg (by omega), if_neg hb]
    rw [e]; exact h9)
  clear HAg n1 n2 n3 hok hr hrl2 hm hc hsu hf hql hal
  obtain ⟨A0, c0, rfl⟩ := h0.shape
  obtain ⟨A2, c2, rfl⟩ := h2.shape
  obtain ⟨cA, cc, hce⟩ := hq.cols.shape
  obtain ⟨gA, gc, hge⟩ := hq.aggs.shape
  have F0 : Fr Non w (w.alloc (.cells (qyC q c s g) 31)) := (Fr.refl Non w).alloc _
  have QB0 : Hid (QB _ w.heap.size q c s g) := Lib.hid (qy_new w _ q c s g rfl)
  clear hq h0 h2 hs
  obtain ⟨tab, qc, ⟨⟨wo, wc, wm, ⟨wn, wi, wt⟩, wk, wp⟩, wks⟩, aggs, by_⟩ := q
  obtain ⟨sA, sn, sc⟩ := s
  dsimp only at hce hge HPn HVl HVe HGd
  subst hce hge
  generalize answG cols _ rows = AN at *
  generalize valsG cols _ rows = VA at *
  generalize shnG cols _ = SH at *
  unfold qyC kidV at F0 QB0
  unfold qyV qyC kidV at HSh HGd
  unfold qyV qyC kidV
  dsimp only [Pd.hd, Pd.kids] at F0 QB0 HSh HGd ⊢
  obtain ⟨b, hb⟩ : ∃ b, w.heap.size = b := ⟨_, rfl⟩
  have HB := Lib.hid hb
  rw [hb] at QB0
  replace QB0 : Hid (QB _ b ⟨tab, qc, ⟨⟨wo, wc, wm, ⟨wn, wi, wt⟩, wk, wp⟩, wks⟩, aggs, by_⟩ (.slice cA qc.length cc) ⟨sA, sn, sc⟩ (.slice gA aggs.length gc)) := QB0
  obtain ⟨b0, b1, b2, b3, b4, b5, b6, b7, b8, b9, b10, b11, b12⟩ := qB_cells QB0.out
  dsimp only [Pd.hd, Pd.kids] at b0 b1 b2 b3 b4 b5 b6 b7 b8 b9 b10 b11 b12
  replace F0 := Lib.hid F0
  by_cases ha : aggs.length = 0
  · have hd : ((aggs.length : Int) == 0) = true := by rw [ha]; rfl
    replace HPn := Lib.hid (HPn.out ha)
    clear ha HVl HVe HGd
    go_enter Tryz.func23, Tryz.ntmps23
    go_wp2_with fail
    refine (HSh.out _ F0.out).mono ?_
    rintro e w1 ⟨u, rfl, hu, f1⟩
    have F1 := Lib.hid (F0.out.trans f1)
    have HPu := Lib.hid (HPn.out u w1 F1.out hu)
    clear f1 hu b0 b1 b2 b3 b4 b5 b6 b7 b8 b9 b10 b11 b12 hd
    go_wp2_with fail
    refine HPu.out.mono ?_
    rintro e w2 ⟨u2, rfl, hu2, f2⟩
    have HU2 := Lib.hid (hu2.mono (B' := w.heap.size) F1.out.size)
    have F2 := Lib.hid (F1.out.trans f2)
    clear hu2 f2
    go_wp2
    go_ret
    exact ⟨_, rfl, HU2.out, F2.out⟩
  · have hd : ((aggs.length : Int) == 0) = false := by rw [beq_eq_false_iff_ne]; omega
    have ha2 : 0 < aggs.length := by omega
    by_cases hby : by_ = []
    · have hd2 : (by_ == []) = true := by rw [hby]; rfl
      replace HVl := Lib.hid (HVl.out ha2 hby)
      replace HVe := Lib.hid (HVe.out ha2 hby)
      clear ha ha2 HPn HGd hby HSh
      rw [HVe.out]
      go_enter Tryz.func23, Tryz.ntmps23
      go_wp2_with fail
      refine (HVl.out _ F0.out).mono ?_
      rintro e w1 ⟨u, rfl, hu, f1⟩
      have F1 := Lib.hid (F0.out.trans f1)
      have HU := Lib.hid (hu.mono (B' := w.heap.size) F0.out.size)
      obtain ⟨uA, uc, hue⟩ := hu.shape
      subst hue
      have HR1 := Lib.hid (ro_one HU.out (g := w1.heap.size) rfl F1.out.size)
      clear f1 hu
      go_wp2
      go_ret
      exact ⟨_, rfl, HR1.out, F1.out.alloc _⟩
    · have hd2 : (by_ == []) = false := by rw [beq_eq_false_iff_ne]; exact hby
      replace HGd := Lib.hid (HGd.out ha2 hby)
      clear ha ha2 HPn HVl HVe hby HSh
      go_enter Tryz.func23, Tryz.ntmps23
      go_wp2_with fail
      refine (HGd.out _ F0.out).mono ?_
      rintro e w1 ⟨u, rfl, hu, f1⟩
      have F1 := Lib.hid (F0.out.trans f1)
      have HU := Lib.hid (hu.mono (B' := w.heap.size) F0.out.size)
      clear f1 hu b0 b1 b2 b3 b4 b5 b6 b7 b8 b9 b10 b11 b12 hd hd2
      go_wp2
      go_ret
      exact ⟨_, rfl, HU.out, F1.out⟩
set_option maxHeartbeats 8000000 in
theorem ganswer_any (v0 v2 : Value) (cols : List Co) (q : Qy) (c : Value) (s : Kv) (g : Value) (rows : List (List Cl)) (w : World) (h0 : Ks w v0 cols) (hq : QyS w q c s g) (h2 : Rs w v2 rows) (hcl : cols.length ≤ 20) (hcb : ∀ c ∈ cols, c.name.length ≤ 100) (hs : SmQ q) (hrl : rows.length ≤ 210) (hok : ∀ r ∈ rows, ∀ c ∈ r, okC c) :
    Calls Tryz.prog 9 #[v0, qyV q c s g, v2] w fun e w' => ∃ u, e = .returned (.tuple #[u, .int .i64 (ansE cols q rows).2]) ∧ Ro w' w.heap.size u (ansE cols q rows).1 ∧ Fr Non w w' := by
  obtain ⟨ps, hps, hpv, hpc⟩ := rs_pairs h2
  have hpl : ps.length ≤ 210 := by rw [← hps, List.length_map] at hrl; exact hrl
  have HFi : Hid (∀ W, Fr Non w W → Calls Tryz.prog 21 #[v0, qyV q c s g] W fun e w' => e = .returned (.int .i64 (fitQ cols q)) ∧ Fr Non W w') := Lib.hid (fun W hf => qfits_any v0 cols q c s g W (h0.non hf) (by omega) (fun c h => by have := hcb c h; omega) (hq.non hf) hs)
  have HEr : Hid (∀ W, Fr Non w W → Calls Tryz.prog 22 #[v0, pdV q.whr.hd s, v2] W fun e w' => PlcR w' (rowsE cols q.whr rows) e ∧ Fr Non W w') := Lib.hid (fun W hf => by
    have e1 : q.whr = .mk q.whr.hd q.whr.kids := by cases q.whr; rfl
    have h9 := erows_any v0 v2 cols rows (by omega) (fun c h => by have := hcb c h; omega) q.whr.hd q.whr.kids s W (h0.non hf) (h2.non hf) (hq.kids.non hf) hq.num (by rw [← e1]; exact big_of_len _ hs.lens) (by rw [← e1]; have := hs.deep; omega) (by omega)
    rw [← e1] at h9
    exact h9)
  have HFz : Hid (fitQ cols q = 0 → fitP cols q.whr = 0) := Lib.hid (fun e => by
    obtain ⟨hm, hc, ht, _⟩ := fitQ_parts e
    unfold fitP
    rw [if_neg, if_pos ht]
    rintro (h | h)
    · rw [(may_parts hm).2] at h; cases h
    · exact h hc)
  have HE0 : Hid (¬ fitQ cols q = 0 → ansE cols q rows = ([], fitQ cols q)) := Lib.hid (fun e => if_neg e)
  have HE1 : Hid (fitQ cols q = 0 → rows.all (rowB cols) = false → rowsE cols q.whr rows = ([], 10) ∧ ansE cols q rows = ([], 10)) := Lib.hid (fun e h => by
    unfold rowsE ansE
    rw [if_pos (HFz.out e), if_pos e, if_neg (by rw [h]; simp), if_neg (by rw [h]; simp)]
    exact ⟨rfl, rfl⟩)
  obtain ⟨pl, hplE⟩ : ∃ pl, (List.range rows.length).filter (fun i => truP cols (rows.getD i []) q.whr == 1) = pl := ⟨_, rfl⟩
  have hpl1 : pl.length ≤ 210 := by
    rw [← hplE]
    have := List.length_filter_le (fun i => truP cols (rows.getD i []) q.whr == 1) (List.range rows.length)
    rw [List.length_range] at this
    omega
  have hpl2 : ∀ k ∈ pl, k < ps.length := fun k hk => by
    rw [← hplE] at hk
    have := List.mem_range.1 (List.mem_filter.1 hk).1
    rw [← hps, List.length_map] at this
    exact this
  have hmine : (pl.map (atS ps)).map Prod.snd = whrG cols q rows := by
    unfold whrG
    rw [← whr_pl rows [] (fun r => truP cols r q.whr == 1), hplE, List.map_map]
    refine List.map_congr_left (fun k hk => ?_)
    have hk2 := hpl2 k hk
    show (atS ps k).2 = rows.getD k []
    rw [atS_at hk2, ← hps, List.getD_eq_getElem?_getD, List.getElem?_map, List.getElem?_eq_getElem hk2]
    rfl
  have HE2 : Hid (fitQ cols q = 0 → rows.all (rowB cols) = true → rowsE cols q.whr rows = (plI pl, 0) ∧ ansE cols q rows = (answG cols q (whrG cols q rows), 0)) := Lib.hid (fun e h => by
    unfold rowsE ansE
    rw [if_pos (HFz.out e), if_pos e, if_pos h, if_pos h]
    refine ⟨?_, rfl⟩
    unfold plcI plI
    rw [hplE])
  have HTk : Hid (∀ pv W, Fr Non w W → Vs iv W pv (plI pl) → Calls Tryz.prog 24 #[v2, pv] W fun e w' => ∃ u, e = .returned u ∧ Rs w' u (whrG cols q rows) ∧ Fr Non W w') := Lib.hid (fun pv W hf hP => by
    refine (gtakenR_any v2 pv ps pl W (hpv.non hf) hP (by omega) hpl2).mono ?_
    rintro e w' ⟨u, rfl, h3, h4⟩
    refine ⟨u, rfl, ?_, h4⟩
    rw [← hmine]
    exact rs_ofp h3.vs (fun p hp => by
      obtain ⟨k, hk, rfl⟩ := List.mem_map.1 hp
      rw [atS_at (hpl2 k hk)]
      exact (hpc _ (List.getElem_mem (hpl2 k hk))).non (hf.trans h4)))
  have HAn : Hid (fitQ cols q = 0 → rows.all (rowB cols) = true → ∀ u W, Fr Non w W → Rs W u (whrG cols q rows) → Calls Tryz.prog 23 #[v0, qyV q c s g, u] W fun e w' => ∃ u', e = .returned u' ∧ Ro w' W.heap.size u' (answG cols q (whrG cols q rows)) ∧ Fr Non W w') := Lib.hid (fun e h u W hf hR => by
    have hmem : ∀ r ∈ whrG cols q rows, r ∈ rows := fun r hr => (List.mem_filter.1 hr).1
    exact ganswer0_any v0 u cols q c s g _ W (h0.non hf) (hq.non hf) hR (by omega) hs (Nat.le_trans (List.length_filter_le _ _) (by omega)) e (fun r hr => List.all_eq_true.1 h r (hmem r hr)) (fun r hr => hok r (hmem r hr)))
  clear hmine hplE hpl1 hpl2 hpl hpc hpv hps HFz hok hrl hcb
  obtain ⟨A0, c0, rfl⟩ := h0.shape
  obtain ⟨A2, c2, hv2⟩ := h2.shape
  subst hv2
  obtain ⟨cA, cc, hce⟩ := hq.cols.shape
  obtain ⟨gA, gc, hge⟩ := hq.aggs.shape
  have F0 : Fr Non w (w.alloc (.cells (qyC q c s g) 31)) := (Fr.refl Non w).alloc _
  have QB0 : Hid (QB _ w.heap.size q c s g) := Lib.hid (qy_new w _ q c s g rfl)
  clear hq h0 h2 hs
  generalize rows.all (rowB cols) = al at *
  generalize answG cols q (whrG cols q rows) = AN at *
  generalize whrG cols q rows = WR at *
  generalize ansE cols q rows = AE at *
  generalize rowsE cols q.whr rows = RE at *
  generalize fitQ cols q = z at *
  obtain ⟨tab, qc, ⟨⟨wo, wc, wm, ⟨wn, wi, wt⟩, wk, wp⟩, wks⟩, aggs, by_⟩ := q
  obtain ⟨sA, sn, sc⟩ := s
  dsimp only at hce hge
  subst hce hge
  unfold qyC kidV at F0 QB0
  unfold qyV qyC kidV at HFi HAn
  unfold pdV pdC kidV at HEr
  unfold qyV qyC kidV
  dsimp only [Pd.hd, Pd.kids] at F0 QB0 HFi HAn HEr ⊢
  obtain ⟨b, hb⟩ : ∃ b, w.heap.size = b := ⟨_, rfl⟩
  have HB := Lib.hid hb
  rw [hb] at QB0
  replace QB0 : Hid (QB _ b ⟨tab, qc, ⟨⟨wo, wc, wm, ⟨wn, wi, wt⟩, wk, wp⟩, wks⟩, aggs, by_⟩ (.slice cA qc.length cc) ⟨sA, sn, sc⟩ (.slice gA aggs.length gc)) := QB0
  obtain ⟨b0, b1, b2, b3, b4, b5, b6, b7, b8, b9, b10, b11, b12⟩ := qB_cells QB0.out
  dsimp only [Pd.hd, Pd.kids] at b0 b1 b2 b3 b4 b5 b6 b7 b8 b9 b10 b11 b12
  replace F0 := Lib.hid F0
  go_enter Tryz.func9, Tryz.ntmps9
  go_wp2_with fail
  refine (HFi.out _ F0.out).mono ?_
  rintro e w1 ⟨rfl, f1⟩
  replace QB0 : Hid (QB w1 b ⟨tab, qc, ⟨⟨wo, wc, wm, ⟨wn, wi, wt⟩, wk, wp⟩, wks⟩, aggs, by_⟩ (.slice cA qc.length cc) ⟨sA, sn, sc⟩ (.slice gA aggs.length gc)) := Lib.hid (QB0.out.fr f1 (fun e => e))
  replace F0 := Lib.hid (F0.out.trans f1)
  clear f1 b0 b1 b2 b3 b4 b5 b6 b7 b8 b9 b10 b11 b12 HFi
  by_cases hz : z = 0
  · subst hz
    replace HE1 := Lib.hid (HE1.out rfl)
    replace HE2 := Lib.hid (HE2.out rfl)
    replace HAn := Lib.hid (HAn.out rfl)
    clear HE0
    obtain ⟨b0, b1, b2, b3, b4, b5, b6, b7, b8, b9, b10, b11, b12⟩ := qB_cells QB0.out
    dsimp only [Pd.hd, Pd.kids] at b0 b1 b2 b3 b4 b5 b6 b7 b8 b9 b10 b11 b12
    go_wp2_with fail
    refine (HEr.out _ F0.out).mono ?_
    rintro e w2 ⟨⟨u, rfl, hu⟩, f2⟩
    have F2 := Lib.hid (F0.out.trans f2)
    replace QB0 : Hid (QB w2 b ⟨tab, qc, ⟨⟨wo, wc, wm, ⟨wn, wi, wt⟩, wk, wp⟩, wks⟩, aggs, by_⟩ (.slice cA qc.length cc) ⟨sA, sn, sc⟩ (.slice gA aggs.length gc)) := Lib.hid (QB0.out.fr f2 (fun e => e))
    clear f2 b0 b1 b2 b3 b4 b5 b6 b7 b8 b9 b10 b11 b12 HEr
    cases al with
    | false =>
      obtain ⟨e1, e2⟩ := HE1.out rfl
      have HX := Lib.hid e2
      rw [e1]
      clear e1 e2 HE1 HE2 HAn hu
      go_wp2
      go_ret2
      exact ⟨_, by rw [HX.out]; first | done | rfl, by rw [HX.out]; exact ro_nil _ _, F2.out⟩
    | true =>
      obtain ⟨e1, e2⟩ := HE2.out rfl
      have HX := Lib.hid e2
      rw [e1] at hu ⊢
      replace HAn := Lib.hid (HAn.out rfl)
      dsimp only at hu ⊢
      have HU := Lib.hid hu
      clear e1 e2 HE1 HE2
      obtain ⟨uA, uc, hue⟩ := hu.shape
      subst hue
      clear hu
      replace HTk := Lib.hid (fun W hf hP => HTk.out (.slice uA (plI pl).length uc) W hf hP)
      obtain ⟨b0, b1, b2, b3, b4, b5, b6, b7, b8, b9, b10, b11, b12⟩ := qB_cells QB0.out
      dsimp only [Pd.hd, Pd.kids] at b0 b1 b2 b3 b4 b5 b6 b7 b8 b9 b10 b11 b12
      go_wp2
      obtain ⟨V, hV⟩ : ∃ V, V = w2.drew := ⟨_, rfl⟩
      refine wp_region_held_drew (S := (fun W' => W'.cell? ⟨b, 0, none⟩ = some (.string ⟨tab.toArray⟩) ∧ W'.cell? ⟨b, 1, none⟩ = some (.slice cA qc.length cc) ∧ W'.cell? ⟨b, 2, none⟩ = some (.int .i64 wo) ∧ W'.cell? ⟨b, 3, none⟩ = some (.string ⟨wc.toArray⟩) ∧ W'.cell? ⟨b, 4, none⟩ = some (.int .i64 wm) ∧ W'.cell? ⟨b, 5, none⟩ = some (.bool wn) ∧ W'.cell? ⟨b, 6, none⟩ = some (.int .i64 wi) ∧ W'.cell? ⟨b, 7, none⟩ = some (.string ⟨wt.toArray⟩) ∧ W'.cell? ⟨b, 8, none⟩ = some (.int .i64 wk) ∧ W'.cell? ⟨b, 9, none⟩ = some (.string ⟨wp.toArray⟩) ∧ W'.cell? ⟨b, 10, none⟩ = some (.slice sA sn sc) ∧ W'.cell? ⟨b, 11, none⟩ = some (.slice gA aggs.length gc) ∧ W'.cell? ⟨b, 12, none⟩ = some (.string ⟨by_.toArray⟩))) (by kernel_rfl) (by exact ⟨b0, b1, b2, b3, b4, b5, b6, b7, b8, b9, b10, b11, b12⟩) (fun hHeld => ?_)
      rw [← hV]
      rw [← hV] at hHeld
      have FV : Fr Non w2 V := by rw [hV]; exact (Fr.refl Non w2).drew
      clear hV
      replace b0 := FV.at0 b0
      replace b1 := FV.at0 b1
      replace b2 := FV.at0 b2
      replace b3 := FV.at0 b3
      replace b4 := FV.at0 b4
      replace b5 := FV.at0 b5
      replace b6 := FV.at0 b6
      replace b7 := FV.at0 b7
      replace b8 := FV.at0 b8
      replace b9 := FV.at0 b9
      replace b10 := FV.at0 b10
      replace b11 := FV.at0 b11
      replace b12 := FV.at0 b12
      refine wpAnyH_take (i := 0) (oi := ⟨some 28, _, _, _, _, none⟩) (v := ?v1) rfl (by kernel_rfl) (by kernel_rfl) (by kernel_rfl) (fun _ _ _ h => h) (Or.inl ⟨by rfl, ?hy1⟩) (by assumption) ?rest1
      case hy1 => (intro wS hSw; (try dsimp only at hSw); go_simp; (try with_reducible rfl))
      (try simp only [Act.put, zA, zB, zC])
      refine wpAnyH_take (i := 1) (oi := ⟨some 29, _, _, _, _, none⟩) (v := ?v2) rfl (by kernel_rfl) (by kernel_rfl) (by kernel_rfl) (fun _ _ _ h => h) (Or.inl ⟨by rfl, ?hy2⟩) (by assumption) ?rest2
      case hy2 => (intro wS hSw; (try dsimp only at hSw); go_simp; (try with_reducible rfl))
      (try simp only [Act.put, zA, zB, zC])
      refine wpAnyH_take (i := 2) (oi := ⟨some 30, _, _, _, _, none⟩) (v := ?v3) rfl (by kernel_rfl) (by kernel_rfl) (by kernel_rfl) (fun _ _ _ h => h) (Or.inl ⟨by rfl, ?hy3⟩) (by assumption) ?rest3
      case hy3 => (intro wS hSw; (try dsimp only at hSw); go_simp; (try with_reducible rfl))
      (try simp only [Act.put, zA, zB, zC])
      refine wpAnyH_take (i := 3) (oi := ⟨some 31, _, _, _, _, none⟩) (v := ?v4) rfl (by kernel_rfl) (by kernel_rfl) (by kernel_rfl) (fun _ _ _ h => h) (Or.inl ⟨by rfl, ?hy4⟩) (by assumption) ?rest4
      case hy4 => (intro wS hSw; (try dsimp only at hSw); go_simp; (try with_reducible rfl))
      (try simp only [Act.put, zA, zB, zC])
      refine wpAnyH_ready (rs := [4]) (by kernel_rfl) (by simp) ?_
      refine AllReadyH.cons (o := ⟨some 32, _, _, _, _, none⟩) rfl (fun K hK => ?_) AllReadyH.nil
      go_simp
      go_at_call 24
      refine (HTk.out _ (F2.out.trans FV) (HU.out.non FV)).mono ?_
      rintro e w3 ⟨u3, rfl, hu3, f3⟩
      go_wp2_with fail
      refine hK.out _ _ (by exact ⟨f3.at0 b0, f3.at0 b1, f3.at0 b2, f3.at0 b3, f3.at0 b4, f3.at0 b5, f3.at0 b6, f3.at0 b7, f3.at0 b8, f3.at0 b9, f3.at0 b10, f3.at0 b11, f3.at0 b12⟩) (fun hHeld => ?_)
      clear hK K
      (try simp only [Act.put, zA, zB, zC])
      replace b0 := f3.at0 b0
      replace b1 := f3.at0 b1
      replace b2 := f3.at0 b2
      replace b3 := f3.at0 b3
      replace b4 := f3.at0 b4
      replace b5 := f3.at0 b5
      replace b6 := f3.at0 b6
      replace b7 := f3.at0 b7
      replace b8 := f3.at0 b8
      replace b9 := f3.at0 b9
      replace b10 := f3.at0 b10
      replace b11 := f3.at0 b11
      replace b12 := f3.at0 b12
      have F3 := FV.trans f3
      clear FV f3
      refine wpAnyH_ready (rs := [5]) (by kernel_rfl) (by simp) ?_
      refine AllReadyH.cons (o := ⟨some 33, _, _, _, _, none⟩) rfl (fun K hK => ?_) AllReadyH.nil
      go_simp
      go_at_call 23
      refine (HAn.out u3 _ (F2.out.trans F3) hu3).mono ?_
      rintro e w4 ⟨u4, rfl, hu4, f4⟩
      go_wp2_with fail
      refine hK.out _ _ (by exact ⟨f4.at0 b0, f4.at0 b1, f4.at0 b2, f4.at0 b3, f4.at0 b4, f4.at0 b5, f4.at0 b6, f4.at0 b7, f4.at0 b8, f4.at0 b9, f4.at0 b10, f4.at0 b11, f4.at0 b12⟩) (fun hHeld => ?_)
      clear hK K
      (try simp only [Act.put, zA, zB, zC])
      have F4 := Lib.hid (F2.out.trans (F3.trans f4))
      have HU4 := Lib.hid (hu4.mono (B' := w.heap.size) (F2.out.trans F3).size)
      obtain ⟨u4A, u4c, hu4e⟩ := hu4.shape
      subst hu4e
      replace b0 := f4.at0 b0
      replace b1 := f4.at0 b1
      replace b2 := f4.at0 b2
      replace b3 := f4.at0 b3
      replace b4 := f4.at0 b4
      replace b5 := f4.at0 b5
      replace b6 := f4.at0 b6
      replace b7 := f4.at0 b7
      replace b8 := f4.at0 b8
      replace b9 := f4.at0 b9
      replace b10 := f4.at0 b10
      replace b11 := f4.at0 b11
      replace b12 := f4.at0 b12
      clear F3 f4 hu3 hu4
      refine wpAnyH_take (i := 6) (oi := ⟨some 6, _, _, _, _, none⟩) (v := ?v5) rfl (by kernel_rfl) (by kernel_rfl) (by kernel_rfl) (fun _ _ _ h => h) (Or.inl ⟨by rfl, ?hy5⟩) (by assumption) ?rest5
      case hy5 => (intro wS hSw; (try dsimp only at hSw); go_simp; (try with_reducible rfl))
      (try simp only [Act.put, zA, zB, zC])
      refine wpAnyH_take (i := 7) (oi := ⟨some 7, _, _, _, _, none⟩) (v := ?v6) rfl (by kernel_rfl) (by kernel_rfl) (by kernel_rfl) (fun _ _ _ h => h) (Or.inl ⟨by rfl, ?hy6⟩) (by assumption) ?rest6
      case hy6 => (intro wS hSw; (try dsimp only at hSw); go_simp; (try with_reducible rfl))
      (try simp only [Act.put, zA, zB, zC])
      refine wpAnyH_done (by kernel_rfl) ?_ _
      clear hHeld b0 b1 b2 b3 b4 b5 b6 b7 b8 b9 b10 b11 b12
      go_wp2
      go_ret2
      exact ⟨_, by rw [HX.out]; first | done | rfl, by rw [HX.out]; exact HU4.out, F4.out⟩
  · have hd : (z != 0) = true := by rw [bne_iff_ne]; exact hz
    have HX := Lib.hid (HE0.out hz)
    clear hz HE0 HE1 HE2 HAn HTk HEr
    go_wp2
    go_ret2
    exact ⟨_, by rw [HX.out]; first | done | rfl, by rw [HX.out]; exact ro_nil _ _, F0.out⟩
end Go.Proofs.YtjcfjjhhbcgcmaaGreat

namespace Go.Proofs.YtjcfjjhhbcgcmaaGreat
open Go.RowKit
theorem gnum_any (n : Int) (w : World) : Calls Tryz.prog 11 #[.int .i64 n] w fun e w' => e = .returned (.int .i64 n) ∧ Fr Non w w' := by
  go_enter Tryz.func11, Tryz.ntmps11
  go_wp2
  go_ret
  exact ⟨rfl, Fr.refl _ _⟩
def exG1 : Qy := ⟨[116], [], .mk ⟨1, [], 0, ⟨false, 0, []⟩, 0, []⟩ [], [⟨1, []⟩], []⟩
def exG2 : Qy := ⟨[116], [], .mk ⟨1, [], 0, ⟨false, 0, []⟩, 0, []⟩ [], [⟨1, []⟩], [97]⟩
theorem exG1_sm : SmQ exG1 := ⟨by decide, by decide, by decide, by decide, by decide, by decide, by decide +kernel, by decide +kernel⟩
theorem exG2_sm : SmQ exG2 := ⟨by decide, by decide, by decide, by decide, by decide, by decide, by decide +kernel, by decide +kernel⟩
theorem exG1_ans : ansE [⟨[97], 1, false⟩] exG1 [] = ([[⟨false, 0, []⟩]], 0) := by decide +kernel
theorem exG2_ans : ansE [⟨[97], 1, false⟩] exG2 [] = ([], 0) := by decide +kernel
set_option maxHeartbeats 4000000 in
theorem live23_any (w : World) : Calls Tryz.prog 8 #[] w fun e w' => e = .returned (.bool true) ∧ Fr Non w w' := by
  obtain ⟨W1, hW1⟩ : ∃ W, W = w.alloc (.cells #[.string ⟨#[97]⟩, .int .i64 1, .bool false] 56) := ⟨_, rfl⟩
  have K1 : Ks W1 (.slice (some ⟨w.heap.size, 0, none⟩) 1 1) [⟨[97], 1, false⟩] := by rw [hW1]; exact (no_lit (E := 56) fd_co w 0 w.heap.size [⟨[97], 1, false⟩] #[.string ⟨#[97]⟩, .int .i64 1, .bool false] rfl rfl (Nat.zero_le _) (by decide)).ns fd_co
  have s1 : W1.heap.size = w.heap.size + 1 := by rw [hW1]; simp
  have F1 : Fr Non w W1 := by rw [hW1]; exact (Fr.refl Non w).alloc _
  obtain ⟨W2, hW2⟩ : ∃ W, W = W1.alloc (.cells #[.int .i64 1, .string ⟨#[]⟩] 50) := ⟨_, rfl⟩
  have G2 : Gs W2 (.slice (some ⟨w.heap.size + 1, 0, none⟩) 1 1) [⟨1, []⟩] := by rw [hW2]; exact (no_lit (E := 50) fd_ag W1 0 (w.heap.size + 1) [⟨1, []⟩] #[.int .i64 1, .string ⟨#[]⟩] rfl s1.symm (Nat.zero_le _) (by decide)).ns fd_ag
  have s2 : W2.heap.size = w.heap.size + 1 + 1 := by rw [hW2]; simp [s1]
  have F2 : Fr Non W1 W2 := by rw [hW2]; exact (Fr.refl Non W1).alloc _
  obtain ⟨W3, hW3⟩ : ∃ W, W = W2.alloc (.cells #[.string ⟨#[116]⟩, .slice none 0 0, .int .i64 1, .string ⟨#[]⟩, .int .i64 0, .bool false, .int .i64 0, .string ⟨#[]⟩, .int .i64 0, .string ⟨#[]⟩, .slice none 0 0, .slice (some ⟨w.heap.size + 1, 0, none⟩) 1 1, .string ⟨#[]⟩] 31) := ⟨_, rfl⟩
  have QB3 : QB W3 (w.heap.size + 1 + 1) exG1 (.slice none 0 0) noKv (.slice (some ⟨w.heap.size + 1, 0, none⟩) 1 1) := by rw [hW3]; exact qy_new W2 _ exG1 (.slice none 0 0) noKv (.slice (some ⟨w.heap.size + 1, 0, none⟩) 1 1) s2.symm
  have F3 : Fr Non W2 W3 := by rw [hW3]; exact (Fr.refl Non W2).alloc _
  have HK := Lib.hid ((K1.non F2).non F3)
  have HG := Lib.hid (G2.non F3)
  have FF := Lib.hid ((F1.trans F2).trans F3)
  have hD : w.heap.size + 1 + 1 < W3.heap.size := QB3.lt
  have A1 := Lib.hid (fun W (hf : Fr Non W3 W) => ganswer_any (.slice (some ⟨w.heap.size, 0, none⟩) 1 1) (.slice none 0 0) [⟨[97], 1, false⟩] exG1 (.slice none 0 0) noKv (.slice (some ⟨w.heap.size + 1, 0, none⟩) 1 1) [] W (HK.out.non hf) ⟨Vs.nil_ _, Kd.nil_ _, HG.out.non hf, ⟨by decide, by decide⟩⟩ (Rs.nil_ _) (by decide) (by decide) exG1_sm (by decide) (fun r h => by cases h))
  have A2 := Lib.hid (fun W (hf : Fr (One (w.heap.size + 1 + 1)) W3 W) => ganswer_any (.slice (some ⟨w.heap.size, 0, none⟩) 1 1) (.slice none 0 0) [⟨[97], 1, false⟩] exG2 (.slice none 0 0) noKv (.slice (some ⟨w.heap.size + 1, 0, none⟩) 1 1) [] W (HK.out.fr hf (fun k hk e => by have e2 : k = w.heap.size + 1 + 1 := e; simp [Value.ownBlock] at hk; omega)) ⟨Vs.nil_ _, Kd.nil_ _, HG.out.fr hf (fun k hk e => by have e2 : k = w.heap.size + 1 + 1 := e; simp [Value.ownBlock] at hk; omega), ⟨by decide, by decide⟩⟩ (Rs.nil_ _) (by decide) (by decide) exG2_sm (by decide) (fun r h => by cases h))
  rw [exG1_ans] at A1
  rw [exG2_ans] at A2
  replace QB3 := Lib.hid QB3
  clear K1 G2 F1 F2 F3 s1 s2
  unfold qyV qyC kidV noKv exG1 at A1
  unfold qyV qyC kidV noKv exG2 at A2
  dsimp only [Pd.hd, Pd.kids] at A1 A2
  obtain ⟨b0, b1, b2, b3, b4, b5, b6, b7, b8, b9, b10, b11, b12⟩ := qB_cells QB3.out
  dsimp only [Pd.hd, Pd.kids, exG1, exG2, noKv] at b0 b1 b2 b3 b4 b5 b6 b7 b8 b9 b10 b11 b12
  subst hW1 hW2
  go_enter Tryz.func8, Tryz.ntmps8
  go_wp2_with fail
  rw [← hW3]
  clear hW3
  refine (A1.out _ (Fr.refl _ _)).mono ?_
  rintro e W4 ⟨u, rfl, hu, f4⟩
  obtain ⟨D, hDD⟩ : ∃ D, w.heap.size + 1 + 1 = D := ⟨_, rfl⟩
  rw [hDD] at hD QB3 A2 ⊢
  replace hDD := Lib.hid hDD
  obtain ⟨uA, uc, hue⟩ := hu.shape
  have hue2 : u = .slice uA 1 uc := hue
  subst hue2
  clear hue
  have QB4 : Hid (QB W4 D exG1 (.slice none 0 0) noKv (.slice (some ⟨w.heap.size + 1, 0, none⟩) 1 1)) := Lib.hid (QB3.out.fr f4 (fun e => e))
  have s5 : Fr (One D) W4 (W4.setCell ⟨D, 12, none⟩ (.string ⟨#[97]⟩)) := (Fr.refl (One D) W4).set1 12 _
  have QB5 : Hid (QB (W4.setCell ⟨D, 12, none⟩ (.string ⟨#[97]⟩)) D exG2 (.slice none 0 0) noKv (.slice (some ⟨w.heap.size + 1, 0, none⟩) 1 1)) := Lib.hid (Blk.set QB4.out 12 _)
  have hu5 := Lib.hid (ro_fr hu s5 (fun k hk e => by have e2 : k = D := e; omega))
  have F35 := Lib.hid (f4.any.trans s5)
  have z12 := QB4.out.frozen 12
  clear b0 b1 b2 b3 b4 b5 b6 b7 b8 b9 b10 b11 b12
  obtain ⟨b0, b1, b2, b3, b4, b5, b6, b7, b8, b9, b10, b11, b12⟩ := qB_cells QB4.out
  dsimp only [Pd.hd, Pd.kids, exG1, exG2, noKv] at b0 b1 b2 b3 b4 b5 b6 b7 b8 b9 b10 b11 b12
  clear A1 QB3 QB4 hu f4 s5
  go_wp2_with fail
  refine (A2.out _ F35.out).mono ?_
  rintro e W6 ⟨u2, rfl, hu2, f6⟩
  obtain ⟨vA, vc, hve⟩ := hu2.shape
  have hve2 : u2 = .slice vA 0 vc := hve
  subst hve2
  clear hve hu2
  have FE := Lib.hid (FF.out.fresh (F35.out.trans f6.any) (fun k e => by have e2 : k = D := e; have := hDD.out; omega))
  have hu6 := Lib.hid (hu5.out.non f6)
  clear hu5 F35 QB5 A2 f6 b12 z12
  go_wp2_with fail
  refine (gnum_any _ _).mono ?_
  rintro e W7 ⟨rfl, f7⟩
  have hu7 := Lib.hid (hu6.out.non f7)
  replace FE := Lib.hid (FE.out.trans f7)
  clear hu6 f7
  go_wp2_with fail
  refine (gnum_any _ _).mono ?_
  rintro e W8 ⟨rfl, f8⟩
  have hu8 := Lib.hid (hu7.out.non f8)
  replace FE := Lib.hid (FE.out.trans f8)
  clear hu7 f8
  obtain ⟨a, A', c', hA, -, hc1, hc2⟩ := hu8.out.rs.el 0 (by simp)
  subst hA
  rw [add_none] at hc1
  simp only [List.getElem_cons_zero, List.length_singleton] at hc1 hc2
  obtain ⟨a', hA', -, -, hel⟩ := hc2.addr (by decide)
  subst hA'
  obtain ⟨t0, t1, t2⟩ := (hel 0 (by decide)).lit
  rw [Nat.zero_mul, add_none] at t0 t1 t2
  simp only [List.getElem_cons_zero] at t0 t1 t2
  have hq := fun W => run_eql_cl W ⟨false, 0, []⟩ ⟨false, 0, []⟩
  rw [ceq_self] at hq
  dsimp only at hq
  clear hc2 hel hu8
  go_wp2
  go_ret
  exact ⟨rfl, FE.out⟩
end Go.Proofs.YtjcfjjhhbcgcmaaGreat

namespace Go.Proofs.YtjcfjjhhbcgcmaaGreat
open Go.RowKit
set_option maxHeartbeats 1000000 in
theorem smallC_any (v : Value) (l : List Cl) (w : World) (hv : Cs w v l) :
    Calls Tryz.prog 18 #[v] w fun e w' => ∃ b, e = .returned (.bool b) ∧ (b = true → l.length ≤ 100) ∧ Fr Non w w' := by
  obtain ⟨A, c, rfl, hlc, hn, hcell⟩ := hv
  have HC := Lib.hid hcell
  have HN := Lib.hid hn
  clear hcell hn
  go_enter Tryz.func18, Tryz.ntmps18
  go_wp2
  go_loopw [3] (fun i wr => ∃ (k : Nat), k ≤ l.length ∧ k ≤ 200 ∧ i = .int .i64 k ∧ Fr Non w wr) (fun i _ => 200 - (intOf i).toNat)
  case atStart => exact ⟨0, Nat.zero_le _, Nat.zero_le _, rfl, Fr.refl _ _⟩
  case round =>
    obtain ⟨k, hk, hk2, rfl, hfr⟩ := hrel
    by_cases hlt : k < l.length
    · by_cases h200 : k < 200
      · cases A with
        | none => have := HN.out rfl; omega
        | some a =>
          obtain ⟨hc0, hc1, hc2⟩ := (hfr.at3 (HC.out a rfl k hlt)).lit
          generalize l[k] = x at *
          obtain ⟨xn, xi, xt⟩ := x
          dsimp only at hc0 hc1 hc2
          have hs := slen xt
          by_cases hx : 60 < xt.length
          · go_wp2
            go_ret
            exact ⟨false, rfl, (fun h => by cases h), hfr⟩
          · go_wp2
            go_roundw
            case rel => exact ⟨k + 1, by omega, by omega, by go_num, hfr⟩
            case measure => simp [intOf]; omega
      · go_wp2
        go_ret
        exact ⟨_, rfl, (fun h => by have := of_decide_eq_true h; omega), hfr⟩
    · go_wp2
      go_ret
      exact ⟨_, rfl, (fun h => by have := of_decide_eq_true h; omega), hfr⟩
end Go.Proofs.YtjcfjjhhbcgcmaaGreat

namespace Go.Proofs.YtjcfjjhhbcgcmaaGreat
open Go.RowKit
def SmR (cols : List Co) (rows : List (List Cl)) (e : Ending) : Prop := ∃ s, e = .returned (.bool s) ∧ (s = true → cols.length ≤ 20 ∧ (∀ c ∈ cols, c.name.length ≤ 100) ∧ rows.length ≤ 210)
theorem smR_no {cols : List Co} {rows : List (List Cl)} : SmR cols rows (.returned (.bool false)) := ⟨false, rfl, fun h => by cases h⟩
theorem smR_yes {cols : List Co} {rows : List (List Cl)} (h : cols.length ≤ 20 ∧ (∀ c ∈ cols, c.name.length ≤ 100) ∧ rows.length ≤ 210) : SmR cols rows (.returned (.bool true)) := ⟨true, rfl, fun _ => h⟩
set_option maxHeartbeats 2000000 in
theorem small13_any (v1 v2 : Value) (cols : List Co) (rows : List (List Cl)) (w : World) (h1 : Ks w v1 cols) (h2 : Rs w v2 rows) :
    Calls Tryz.prog 6 #[v1, v2] w fun e w' => SmR cols rows e ∧ Fr Non w w' := by
  obtain ⟨A1, c1, rfl⟩ := h1.shape
  obtain ⟨A2, c2, rfl⟩ := h2.shape
  have H1 := Lib.hid h1
  have H2 := Lib.hid h2
  clear h1 h2
  go_enter Tryz.func6, Tryz.ntmps6
  go_wp2
  go_loopw [5] (fun i wr => ∃ k : Nat, k ≤ rows.length ∧ k ≤ 250 ∧ i = .int .i64 k ∧ Fr Non w wr) (fun i _ => 250 - (intOf i).toNat)
  case atStart => exact ⟨0, Nat.zero_le _, Nat.zero_le _, rfl, Fr.refl _ _⟩
  case round =>
    obtain ⟨k, hk, hk2, rfl, hF⟩ := hrel
    have HF := Lib.hid hF
    by_cases hgo : k < rows.length ∧ k < 250
    · obtain ⟨hlt, h250⟩ := hgo
      obtain ⟨a, A', c', rfl, _, q1, hc1⟩ := (H2.out.non hF).el k hlt
      have HS := Lib.hid (smallC_any _ rows[k] wr hc1)
      clear hF hc1
      generalize rows[k] = r at *
      by_cases hr : 10 < r.length
      · have d1 : decide (10 < (r.length : Int)) = true := decide_eq_true (by omega)
        clear hr HS
        go_wp2
        go_ret
        exact ⟨smR_no, HF.out⟩
      · have d1 : decide (10 < (r.length : Int)) = false := decide_eq_false (by omega)
        clear hr
        go_wp2_with fail
        refine HS.out.mono ?_
        rintro e w2 ⟨s, rfl, _, f2⟩
        have HF2 := Lib.hid (HF.out.trans f2)
        clear HS HF f2
        cases s with
        | true =>
          go_wp2
          go_roundw
          case rel => exact ⟨k + 1, by omega, by omega, by go_num, HF2.out⟩
          case measure => simp [intOf]; omega
        | false =>
          go_wp2
          go_ret
          exact ⟨smR_no, HF2.out⟩
    · have HK := Lib.hid (ksmall_any _ cols wr (H1.out.non hF))
      have HGo := Lib.hid hgo
      clear hF
      by_cases hlt : k < rows.length
      · have h250 : ¬ k < 250 := fun h => hgo ⟨hlt, h⟩
        clear hgo
        go_wp2_with fail
        refine HK.out.mono ?_
        rintro e w2 ⟨s, rfl, hs, f2⟩
        have HF2 := Lib.hid (HF.out.trans f2)
        have HSs := Lib.hid hs
        clear HK hs f2
        cases s with
        | true =>
          have d2 : decide ((rows.length : Int) ≤ 210) = false := decide_eq_false (by omega)
          go_wp2
          go_ret
          exact ⟨smR_no, HF2.out⟩
        | false =>
          go_wp2
          go_ret
          exact ⟨smR_no, HF2.out⟩
      · clear hgo
        go_wp2_with fail
        refine HK.out.mono ?_
        rintro e w2 ⟨s, rfl, hs, f2⟩
        have HF2 := Lib.hid (HF.out.trans f2)
        have HSs := Lib.hid hs
        clear HK hs f2
        cases s with
        | true =>
          by_cases h210 : rows.length ≤ 210
          · have d2 : decide ((rows.length : Int) ≤ 210) = true := decide_eq_true (by omega)
            go_wp2
            go_ret
            exact ⟨smR_yes ⟨(HSs.out (by first | rfl | trivial)).1, (HSs.out (by first | rfl | trivial)).2, h210⟩, HF2.out⟩
          · have d2 : decide ((rows.length : Int) ≤ 210) = false := decide_eq_false (by omega)
            go_wp2
            go_ret
            exact ⟨smR_no, HF2.out⟩
        | false =>
          go_wp2
          go_ret
          exact ⟨smR_no, HF2.out⟩
end Go.Proofs.YtjcfjjhhbcgcmaaGreat

namespace Go.Proofs.YtjcfjjhhbcgcmaaGreat
open Go.RowKit
set_option maxHeartbeats 1000000 in
theorem call_any (v1 v2 : Value) (l1 l2 : List Cl) (w : World) (h1 : Cs w v1 l1) (h2 : Cs w v2 l2) (hl1 : l1.length ≤ 9223372036854775807) (hl2 : l2.length ≤ 9223372036854775807) :
    Calls Tryz.prog 32 #[v1, v2] w fun e w' => e = .returned (.bool (decide (l1 = l2))) ∧ Fr Non w w' := by
  obtain ⟨A1, c1, rfl, hc1, hn1, hcell1⟩ := h1
  obtain ⟨A2, c2, rfl, hc2, hn2, hcell2⟩ := h2
  have HN1 := Lib.hid hn1
  have HN2 := Lib.hid hn2
  have HC1 := Lib.hid hcell1
  have HC2 := Lib.hid hcell2
  clear hn1 hn2 hcell1 hcell2
  by_cases hlen : l1.length = l2.length
  · have HL := Lib.hid hlen
    have hb : ((l1.length : Int) != l2.length) = false := by rw [hlen]; simp
    have hle : l1.length ≤ l2.length := by omega
    have hge : l2.length ≤ l1.length := by omega
    clear hlen
    go_enter Tryz.func32, Tryz.ntmps32
    go_wp2
    go_loopw [5] (fun i wr => ∃ k : Nat, k ≤ l1.length ∧ i = .int .i64 k ∧ Hid (l1.take k = l2.take k) ∧ ∃ n, wr = w.drewN n) (fun i _ => l1.length - (intOf i).toNat)
    case atStart => exact ⟨0, Nat.zero_le _, rfl, Lib.hid rfl, 0, rfl⟩
    case round =>
      obtain ⟨k, hk, rfl, HT, n, rfl⟩ := hrel
      by_cases hlt : k < l1.length
      · cases A1 with
        | none => have := HN1.out rfl; omega
        | some a1 =>
          cases A2 with
          | none => have := HN2.out rfl; omega
          | some a2 =>
            obtain ⟨g0, g1, g2⟩ := (HC1.out a1 rfl k hlt).lit
            obtain ⟨d0, d1, d2⟩ := (HC2.out a2 rfl k (by omega)).lit
            by_cases he : l1[k] = l2[k]'(by omega)
            · have HE := Lib.hid (take_eq_succ hlt (by omega) HT.out he)
              rw [← he] at d0 d1 d2
              clear he
              generalize l1[k] = x at *
              have hx := fun W => run_neq_cl W x x
              rw [ceq_self] at hx
              obtain ⟨xn, xi, xt⟩ := x
              go_wp2
              go_quiet (fail)
              go_wp2
              go_roundw
              case rel => exact ⟨k + 1, by omega, by go_num, HE, _, rfl⟩
              case measure => simp [intOf]; omega
            · have HE := Lib.hid (take_ne hlt (by omega) he)
              have hc : ceq l1[k] (l2[k]'(by omega)) = false := by unfold ceq; exact decide_eq_false he
              clear he
              generalize l1[k] = x at *
              generalize l2[k]'(by omega) = y at *
              have hx := fun W => run_neq_cl W x y
              rw [hc] at hx
              clear hc
              obtain ⟨xn, xi, xt⟩ := x
              obtain ⟨yn, yi, yt⟩ := y
              go_wp2
              go_quiet (fail)
              go_wp2
              go_ret
              exact ⟨ret_bool (decide_eq_false HE.out).symm, ((Fr.refl _ _).drewN _).drewN _⟩
      · have HE : Hid (l1 = l2) := Lib.hid (by
          have := HT.out
          rwa [List.take_of_length_le (by omega), List.take_of_length_le (by omega)] at this)
        go_wp2
        go_ret
        exact ⟨ret_bool (decide_eq_true HE.out).symm, (Fr.refl _ _).drewN _⟩
  · have hb : ((l1.length : Int) != l2.length) = true := by rw [bne_iff_ne]; omega
    have HE : Hid (l1 ≠ l2) := Lib.hid (fun e => hlen (by rw [e]))
    clear hlen
    go_enter Tryz.func32, Tryz.ntmps32
    go_wp2
    go_ret
    exact ⟨ret_bool (decide_eq_false HE.out).symm, Fr.refl _ _⟩
set_option maxHeartbeats 2000000 in
theorem rrows9_any (v1 v2 : Value) (a b : List (List Cl)) (w : World) (h1 : Rs w v1 a) (h2 : Rs w v2 b) (hl1 : a.length ≤ 1000000000) (hl2 : b.length ≤ 1000000000) (ha : ∀ r ∈ a, r.length ≤ 9223372036854775807) (hb : ∀ r ∈ b, r.length ≤ 9223372036854775807) :
    Calls Tryz.prog 12 #[v1, v2] w fun e w' => e = .returned (.bool (decide (a = b))) ∧ Fr Non w w' := by
  obtain ⟨A1, c1, rfl⟩ := h1.shape
  obtain ⟨A2, c2, rfl⟩ := h2.shape
  have H1 := Lib.hid h1
  have H2 := Lib.hid h2
  have HA := Lib.hid ha
  have HB := Lib.hid hb
  clear h1 h2 ha hb
  by_cases hlen : a.length = b.length
  · have hb : ((a.length : Int) != b.length) = false := by rw [hlen]; simp
    have hle : a.length ≤ b.length := by omega
    have hge : b.length ≤ a.length := by omega
    clear hlen
    go_enter Tryz.func12, Tryz.ntmps12
    go_wp2
    go_loopw [5] (fun i wr => ∃ k : Nat, k ≤ a.length ∧ i = .int .i64 k ∧ Hid (a.take k = b.take k) ∧ Fr Non w wr) (fun i _ => a.length - (intOf i).toNat)
    case atStart => exact ⟨0, Nat.zero_le _, rfl, Lib.hid rfl, Fr.refl _ _⟩
    case round =>
      clear hb
      obtain ⟨k, hk, rfl, HT, hF⟩ := hrel
      by_cases hlt : k < a.length
      · have hlt2 : k < b.length := by omega
        have hFd : Fr Non w wr.drew := hF.drew
        obtain ⟨a1, A1', c1', rfl, _, q1, hc1⟩ := (H1.out.non hFd).el k hlt
        obtain ⟨a2, A2', c2', rfl, _, q2, hc2⟩ := (H2.out.non hFd).el k hlt2
        have CA := call_any _ _ a[k] b[k] wr.drew hc1 hc2 (HA.out _ (List.getElem_mem hlt)) (HB.out _ (List.getElem_mem hlt2))
        have HFd := Lib.hid hFd
        by_cases he : a[k] = b[k]
        · have HE2 := Lib.hid (take_eq_succ hlt hlt2 HT.out he)
          rw [decide_eq_true he] at CA
          replace CA := Lib.hid CA
          clear hc1 hc2 hFd hF HT he
          generalize a[k] = x at *
          generalize b[k] = y at *
          go_wp2
          go_region_held3 (fun W => W.cell? (a1.add k) = some (.slice A1' x.length c1') ∧ W.cell? (a2.add k) = some (.slice A2' y.length c2')) (first | exact ⟨q1, q2⟩ | exact ⟨q3, q4⟩ | fail) (first | (go_at_call 32; (with_reducible refine CA.out.mono ?_); rintro e w3 ⟨rfl, f3⟩; have q3 := (f3.cell (World.block_lt_of_cell? _ _ q1) (fun e => e)).trans q1; have q4 := (f3.cell (World.block_lt_of_cell? _ _ q2) (fun e => e)).trans q2))
          have F3 := HFd.out.trans f3
          go_wp2
          go_roundw
          case rel => exact ⟨k + 1, by omega, by go_num, HE2, F3⟩
          case measure => simp [intOf]; omega
        · have HN2 : Hid (decide (a = b) = false) := Lib.hid (decide_eq_false (fun h => take_ne hlt hlt2 he (by rw [h])))
          rw [decide_eq_false he] at CA
          replace CA := Lib.hid CA
          clear hc1 hc2 hFd hF HT he
          generalize a[k] = x at *
          generalize b[k] = y at *
          go_wp2
          go_region_held3 (fun W => W.cell? (a1.add k) = some (.slice A1' x.length c1') ∧ W.cell? (a2.add k) = some (.slice A2' y.length c2')) (first | exact ⟨q1, q2⟩ | exact ⟨q3, q4⟩ | fail) (first | (go_at_call 32; (with_reducible refine CA.out.mono ?_); rintro e w3 ⟨rfl, f3⟩; have q3 := (f3.cell (World.block_lt_of_cell? _ _ q1) (fun e => e)).trans q1; have q4 := (f3.cell (World.block_lt_of_cell? _ _ q2) (fun e => e)).trans q2))
          have F3 := HFd.out.trans f3
          go_wp2
          go_ret
          rw [HN2.out]
          exact ⟨rfl, F3⟩
      · have hab : a = b := by
          have h := HT.out
          rwa [List.take_of_length_le (by omega), List.take_of_length_le (by omega)] at h
        have HD : Hid (decide (a = b) = true) := Lib.hid (decide_eq_true hab)
        clear HT hab
        go_wp2
        go_ret
        rw [HD.out]
        exact ⟨rfl, hF⟩
  · have hb : ((a.length : Int) != b.length) = true := by rw [bne_iff_ne]; omega
    have HD : Hid (decide (a = b) = false) := Lib.hid (decide_eq_false (fun h => hlen (by rw [h])))
    clear hlen
    go_enter Tryz.func12, Tryz.ntmps12
    go_wp2
    go_ret
    rw [HD.out]
    exact ⟨rfl, Fr.refl _ _⟩
end Go.Proofs.YtjcfjjhhbcgcmaaGreat

namespace Go.Proofs.YtjcfjjhhbcgcmaaGreat
open Go.RowKit
theorem Kd.fst {w : World} {a : Addr} {n c : Nat} {p : Pd} {l : List Pd} (h : Kd w ⟨some a, n, c⟩ (p :: l)) : Kd w ⟨some a, 1, c⟩ [p] := by
  cases h with
  | mk s ns ps hl hN hh hb hk =>
    obtain ⟨A, c', he, h1, h2, h3⟩ := hN
    unfold kidV at he
    simp only [Value.slice.injEq] at he
    obtain ⟨rfl, hn, rfl⟩ := he
    cases ns with
    | nil => cases hl
    | cons x r =>
      refine .mk _ [x] [p] rfl ⟨some a, c, rfl, by simp at h1 ⊢; omega, fun e => (by cases e), fun b hb' j hj => ?_⟩ (fun i h1 h2 => ?_) (fun i h2 => ?_) (fun i h1 h2 => ?_)
      · have hj0 : j = 0 := by simpa using hj
        subst hj0
        exact h3 b hb' 0 (by simp)
      · have hi : i = 0 := by simpa using h1
        subst hi; exact hh 0 (by simp) (by simp)
      · have hi : i = 0 := by simpa using h2
        subst hi; exact hb 0 (by simp)
      · have hi : i = 0 := by simpa using h1
        subst hi; exact hk 0 (by simp) (by simp)
end Go.Proofs.YtjcfjjhhbcgcmaaGreat

namespace Go.Proofs.YtjcfjjhhbcgcmaaGreat
open Go.RowKit
theorem end_no {P : Prop} : SmEnd P (.returned (.bool false)) := ⟨false, rfl, fun h => by cases h⟩
set_option maxHeartbeats 2000000 in
theorem rqsmall_any (q : Qy) (c : Value) (s : Kv) (g : Value) (w : World) (hq : QyS w q c s g) :
    Calls Tryz.prog 7 #[qyV q c s g] w fun e w' => SmEnd (SmQ q) e ∧ Fr Non w w' := by
  have Q0 := Lib.hid (Qin.new hq)
  have P := Lib.hid (fun W (h : QyS W q c s g) => rpsmall_any q.whr s 9 9 W rfl (by omega) h.kids)
  have HE0 : Hid ((q.cols.length ≤ 15 ∧ ∀ x ∈ q.cols, x.length ≤ 100) → (q.aggs.length ≤ 15 ∧ ∀ a ∈ q.aggs, a.col.length ≤ 100) → q.tab.length ≤ 100 → q.by_.length ≤ 100 → (lenP q.whr = true ∧ depP q.whr ≤ 9) → SmQ q) := Lib.hid (fun a b c d e => ⟨a.1, a.2, b.1, b.2, c, d, e.1, e.2⟩)
  generalize SmQ q = R at *
  unfold pdV pdC at P
  obtain ⟨cA, cc, hce⟩ := hq.cols.shape
  obtain ⟨gA, gc, hge⟩ := hq.aggs.shape
  clear hq
  obtain ⟨tab, cols, ⟨⟨wo, wc, wm, ⟨wn, wi, wt⟩, wk, wp⟩, wks⟩, aggs, by_⟩ := q
  obtain ⟨sA, sn, sc⟩ := s
  dsimp only at hce hge
  subst hce
  subst hge
  unfold qyV qyC kidV at *
  dsimp only [Pd.hd, Pd.kids] at *
  go_enter Tryz.func7, Tryz.ntmps7
  go_wp2
  go_loopw [3] (fun i wr => ∃ k : Nat, k ≤ cols.length ∧ k ≤ 20 ∧ i = .int .i64 k ∧ Hid (∀ j (h : j < cols.length), j < k → cols[j].length ≤ 100) ∧ Hid (Qin w w.heap.size ⟨tab, cols, ⟨⟨wo, wc, wm, ⟨wn, wi, wt⟩, wk, wp⟩, wks⟩, aggs, by_⟩ (.slice cA cols.length cc) ⟨sA, sn, sc⟩ (.slice gA aggs.length gc) wr)) (fun i _ => 20 - (intOf i).toNat)
  case atStart => exact ⟨0, Nat.zero_le _, Nat.zero_le _, rfl, Lib.hid (fun _ _ h => by omega), Q0⟩
  case round =>
    clear Q0
    obtain ⟨k, hk, hk2, rfl, HS, QR⟩ := hrel
    obtain ⟨g0, g1, g2, g3, g4, g5, g6, g7, g8, g9, g10, g11, g12⟩ := QR.out.cells
    dsimp only [Pd.hd, Pd.kids] at g0 g1 g2 g3 g4 g5 g6 g7 g8 g9 g10 g11 g12
    by_cases hlt : k < cols.length
    · by_cases h20 : k < 20
      · obtain ⟨a, rfl, _, _, hel⟩ := QR.out.sls.cols.addr (show 0 < cols.length by omega)
        have c0 := hel k hlt
        unfold sv at c0
        have HY : Hid (cols[k].length ≤ 100 → ∀ j (h : j < cols.length), j < k + 1 → cols[j].length ≤ 100) := Lib.hid (fun h j hj hjk => by
          by_cases e : j = k
          · subst e; exact h
          · exact HS.out j hj (by omega))
        clear HS hel
        try dsimp only at c0
        generalize cols[k] = y at *
        have hsl := slenN y
        by_cases hy : 100 < y.length
        · go_wp2
          go_ret
          exact ⟨end_no, QR.out.fr⟩
        · have H := Lib.hid (HY.out (by omega))
          clear HY
          go_wp2
          go_roundw
          case rel => exact ⟨k + 1, by omega, by omega, by go_num, H, QR⟩
          case measure => simp [intOf]; omega
      · have HN : Hid (¬ cols.length ≤ 15) := Lib.hid (by omega)
        clear HS
        rename World => W1
        go_wp2
        clear g0 g1 g2 g3 g4 g5 g6 g7 g8 g9 g10 g11 g12
        go_loopw [4] (fun i wr => ∃ k : Nat, k ≤ aggs.length ∧ k ≤ 20 ∧ i = .int .i64 k ∧ Hid (∀ j (h : j < aggs.length), j < k → aggs[j].col.length ≤ 100) ∧ Hid (Qin w w.heap.size ⟨tab, cols, ⟨⟨wo, wc, wm, ⟨wn, wi, wt⟩, wk, wp⟩, wks⟩, aggs, by_⟩ (.slice cA cols.length cc) ⟨sA, sn, sc⟩ (.slice gA aggs.length gc) wr)) (fun i _ => 20 - (intOf i).toNat)
        case atStart => exact ⟨0, Nat.zero_le _, Nat.zero_le _, rfl, Lib.hid (fun _ _ h => by omega), QR⟩
        case round =>
          clear QR
          obtain ⟨m, hm, hm2, rfl, HS2, QR⟩ := hrel
          obtain ⟨g0, g1, g2, g3, g4, g5, g6, g7, g8, g9, g10, g11, g12⟩ := QR.out.cells
          dsimp only [Pd.hd, Pd.kids] at g0 g1 g2 g3 g4 g5 g6 g7 g8 g9 g10 g11 g12
          by_cases hlt2 : m < aggs.length
          · by_cases h202 : m < 20
            · obtain ⟨b, rfl, _, d0, d1⟩ := Ns.gat QR.out.sls.aggs m hlt2
              have HY : Hid (aggs[m].col.length ≤ 100 → ∀ j (h : j < aggs.length), j < m + 1 → aggs[j].col.length ≤ 100) := Lib.hid (fun h j hj hjk => by
                by_cases e : j = m
                · subst e; exact h
                · exact HS2.out j hj (by omega))
              clear HS2
              try dsimp only at d0 d1
              generalize aggs[m] = x at *
              obtain ⟨xo, xn⟩ := x
              dsimp only at d0 d1 HY
              have hsl := slenN xn
              by_cases hy : 100 < xn.length
              · go_wp2
                go_ret
                exact ⟨end_no, QR.out.fr⟩
              · have H2 := Lib.hid (HY.out (by omega))
                clear HY
                go_wp2
                go_roundw
                case rel => exact ⟨m + 1, by omega, by omega, by go_num, H2, QR⟩
                case measure => simp [intOf]; omega
            · have HN2 : Hid (¬ aggs.length ≤ 15) := Lib.hid (by omega)
              have hc15 : ¬ cols.length ≤ 15 := HN.out
              go_wp2
              go_ret
              exact ⟨end_no, QR.out.fr⟩
          · have H2 : Hid (∀ a ∈ aggs, a.col.length ≤ 100) := Lib.hid (fun x hx => by
              obtain ⟨j, hj, rfl⟩ := List.mem_iff_getElem.1 hx
              exact HS2.out j hj (by omega))
            have hc15 : ¬ cols.length ≤ 15 := HN.out
            go_wp2
            go_ret
            exact ⟨end_no, QR.out.fr⟩
    · have H : Hid (∀ x ∈ cols, x.length ≤ 100) := Lib.hid (fun x hx => by
        obtain ⟨j, hj, rfl⟩ := List.mem_iff_getElem.1 hx
        exact HS.out j hj (by omega))
      clear HS
      rename World => W1
      go_wp2
      clear g0 g1 g2 g3 g4 g5 g6 g7 g8 g9 g10 g11 g12
      go_loopw [4] (fun i wr => ∃ k : Nat, k ≤ aggs.length ∧ k ≤ 20 ∧ i = .int .i64 k ∧ Hid (∀ j (h : j < aggs.length), j < k → aggs[j].col.length ≤ 100) ∧ Hid (Qin w w.heap.size ⟨tab, cols, ⟨⟨wo, wc, wm, ⟨wn, wi, wt⟩, wk, wp⟩, wks⟩, aggs, by_⟩ (.slice cA cols.length cc) ⟨sA, sn, sc⟩ (.slice gA aggs.length gc) wr)) (fun i _ => 20 - (intOf i).toNat)
      case atStart => exact ⟨0, Nat.zero_le _, Nat.zero_le _, rfl, Lib.hid (fun _ _ h => by omega), QR⟩
      case round =>
        clear QR
        obtain ⟨m, hm, hm2, rfl, HS2, QR⟩ := hrel
        obtain ⟨g0, g1, g2, g3, g4, g5, g6, g7, g8, g9, g10, g11, g12⟩ := QR.out.cells
        dsimp only [Pd.hd, Pd.kids] at g0 g1 g2 g3 g4 g5 g6 g7 g8 g9 g10 g11 g12
        by_cases hlt2 : m < aggs.length
        · by_cases h202 : m < 20
          · obtain ⟨b, rfl, _, d0, d1⟩ := Ns.gat QR.out.sls.aggs m hlt2
            have HY : Hid (aggs[m].col.length ≤ 100 → ∀ j (h : j < aggs.length), j < m + 1 → aggs[j].col.length ≤ 100) := Lib.hid (fun h j hj hjk => by
              by_cases e : j = m
              · subst e; exact h
              · exact HS2.out j hj (by omega))
            clear HS2
            try dsimp only at d0 d1
            generalize aggs[m] = x at *
            obtain ⟨xo, xn⟩ := x
            dsimp only at d0 d1 HY
            have hsl := slenN xn
            by_cases hy : 100 < xn.length
            · go_wp2
              go_ret
              exact ⟨end_no, QR.out.fr⟩
            · have H2 := Lib.hid (HY.out (by omega))
              clear HY
              go_wp2
              go_roundw
              case rel => exact ⟨m + 1, by omega, by omega, by go_num, H2, QR⟩
              case measure => simp [intOf]; omega
          · have HN2 : Hid (¬ aggs.length ≤ 15) := Lib.hid (by omega)
            by_cases hc15 : cols.length ≤ 15
            · have hg15 : ¬ aggs.length ≤ 15 := HN2.out
              go_wp2
              go_ret
              exact ⟨end_no, QR.out.fr⟩
            · go_wp2
              go_ret
              exact ⟨end_no, QR.out.fr⟩
        · have H2 : Hid (∀ a ∈ aggs, a.col.length ≤ 100) := Lib.hid (fun x hx => by
            obtain ⟨j, hj, rfl⟩ := List.mem_iff_getElem.1 hx
            exact HS2.out j hj (by omega))
          have st := slenN tab
          have sb := slenN by_
          by_cases hc15 : cols.length ≤ 15
          · by_cases hg15 : aggs.length ≤ 15
            · by_cases ht : tab.length ≤ 100
              · by_cases hb : by_.length ≤ 100
                · go_wp2_with fail
                  refine (P.out _ QR.out.sls).mono ?_
                  rintro e w5 ⟨⟨b5, rfl, hb5⟩, f5⟩
                  have HB5 := Lib.hid hb5
                  clear hb5
                  have HR : Hid (b5 = true → R) := Lib.hid (fun e => HE0.out ⟨hc15, H.out⟩ ⟨hg15, H2.out⟩ ht hb (HB5.out e))
                  go_wp2
                  go_ret
                  exact ⟨⟨_, rfl, HR.out⟩, QR.out.fr.trans f5⟩
                · go_wp2
                  go_ret
                  exact ⟨end_no, QR.out.fr⟩
              · go_wp2
                go_ret
                exact ⟨end_no, QR.out.fr⟩
            · go_wp2
              go_ret
              exact ⟨end_no, QR.out.fr⟩
          · go_wp2
            go_ret
            exact ⟨end_no, QR.out.fr⟩
end Go.Proofs.YtjcfjjhhbcgcmaaGreat

namespace Go.Proofs.YtjcfjjhhbcgcmaaGreat
open Go.RowKit
theorem ans_lens {cols : List Co} {q : Qy} {rows : List (List Cl)} (hs : SmQ q) (hcl : cols.length ≤ 20) (hrl : rows.length ≤ 210) : (ansE cols q rows).1.length ≤ 1000 ∧ ∀ r ∈ (ansE cols q rows).1, r.length ≤ 1000 := by
  have hc := hs.cols
  have ha := hs.aggs
  unfold ansE
  split
  · split
    · rename_i hall
      have hw : (whrG cols q rows).length ≤ 210 := Nat.le_trans (List.length_filter_le _ _) hrl
      have hm : ∀ r ∈ whrG cols q rows, r.length = cols.length := fun r hr => (row_at (List.all_eq_true.1 hall r (List.mem_filter.1 hr).1)).1.symm
      dsimp only
      generalize whrG cols q rows = S at *
      have hv : ∀ T, (valsG cols q T).length ≤ 15 := fun T => by unfold valsG; rw [List.length_map]; exact ha
      unfold answG
      split
      · refine ⟨by rw [plain_len]; omega, fun r hr => ?_⟩
        unfold plainG at hr
        obtain ⟨x, hx, rfl⟩ := List.mem_map.1 hr
        split
        · have := hm x hx; omega
        · rw [List.length_map]; omega
      · split
        · refine ⟨by simp, fun r hr => ?_⟩
          obtain rfl := List.mem_singleton.1 hr
          have := hv S; omega
        · unfold byG
          refine ⟨?_, fun r hr => ?_⟩
          · rw [List.length_map]
            unfold keysG
            have := keys_len (S.map fun r => cellN cols r q.by_)
            rw [List.length_map] at this
            omega
          · obtain ⟨x, hx, rfl⟩ := List.mem_map.1 hr
            have := hv (mineG cols q.by_ S x)
            rw [List.length_cons]; omega
    · exact ⟨by simp, fun r hr => by cases hr⟩
  · exact ⟨by simp, fun r hr => by cases hr⟩
theorem typs_lens {cols : List Co} {q : Qy} (hs : SmQ q) (hcl : cols.length ≤ 20) : (typsG cols q).length ≤ 1000 := by
  have hc := hs.cols
  have ha := hs.aggs
  unfold typsG
  split
  · rw [List.length_append, List.length_append, List.length_append, List.length_map, List.length_map]
    have h1 : (if q.aggs.length = 0 ∧ q.cols.length = 0 then cols.map Co.ty else []).length ≤ 20 := by
      split
      · rw [List.length_map]; exact hcl
      · simp
    have h2 : (if q.by_ = [] then [] else [tyN cols q.by_]).length ≤ 1 := by split <;> simp
    omega
  · simp
set_option maxHeartbeats 16000000 in
theorem groupAnswers_walk (v0 v2 : Value) (cols : List Co) (q : Qy) (c : Value) (s : Kv) (g : Value) (rows : List (List Cl)) (w : World) (h0 : Ks w v0 cols) (hq : QyS w q c s g) (h2 : Rs w v2 rows) (hw : ∀ r ∈ rows, ∀ c ∈ r, okC c) :
    Calls Tryz.prog 3 #[v0, qyV q c s g, v2] w fun e w' => e = .returned (.bool true) ∧ Below w.heap.size w w' := by
  have SK := Lib.hid (small13_any v0 v2 cols rows _ (h0.non ((Fr.refl Non w).alloc (.cells (qyC q c s g) 31))) (h2.non ((Fr.refl Non w).alloc (.cells (qyC q c s g) 31))))
  have SQ := Lib.hid (fun W (hf : Fr Non w W) => rqsmall_any q c s g W (hq.non hf))
  have HA1 : Hid (SmQ q → (cols.length ≤ 20 ∧ (∀ c ∈ cols, c.name.length ≤ 100) ∧ rows.length ≤ 210) → ∀ W, Fr Non w W → Calls Tryz.prog 9 #[v0, qyV q c s g, v2] W fun e w' => ∃ u, e = .returned (.tuple #[u, .int .i64 (ansE cols q rows).2]) ∧ Ro w' W.heap.size u (ansE cols q rows).1 ∧ Fr Non W w') := Lib.hid (fun hs hc W hf => ganswer_any v0 v2 cols q c s g rows W (h0.non hf) (hq.non hf) (h2.non hf) hc.1 hc.2.1 hs hc.2.2 hw)
  have HA2 : Hid (SmQ q → (cols.length ≤ 20 ∧ (∀ c ∈ cols, c.name.length ≤ 100) ∧ rows.length ≤ 210) → ∀ W, Fr Non w W → Calls Tryz.prog 10 #[v0, qyV q c s g, v2] W fun e w' => ∃ u, e = .returned (.tuple #[u, .int .i64 (ansE cols q rows).2]) ∧ Ro w' W.heap.size u (ansE cols q rows).1 ∧ Fr Non W w') := Lib.hid (fun hs hc W hf => dansw_any v0 v2 cols q c s g rows W (h0.non hf) (hq.non hf) (h2.non hf) (by have := hc.1; omega) (fun c h => by have := hc.2.1 c h; omega) hs (by have := hc.2.2; omega))
  have HX1 : Hid (SmQ q → (cols.length ≤ 20 ∧ (∀ c ∈ cols, c.name.length ≤ 100) ∧ rows.length ≤ 210) → ∀ v1 v2 W, Rs W v1 (ansE cols q rows).1 → Rs W v2 (ansE cols q rows).1 → Calls Tryz.prog 12 #[v1, v2] W fun e w' => e = .returned (.bool true) ∧ Fr Non W w') := Lib.hid (fun hs hc v1 v2 W a b => by
    obtain ⟨e1, e2⟩ := ans_lens (rows := rows) hs hc.1 hc.2.2
    have c9 := rrows9_any v1 v2 _ _ W a b (by omega) (by omega) (fun r h => by have := e2 r h; omega) (fun r h => by have := e2 r h; omega)
    simpa using c9)
  have HT1 : Hid (SmQ q → (cols.length ≤ 20 ∧ (∀ c ∈ cols, c.name.length ≤ 100) ∧ rows.length ≤ 210) → ∀ W, Fr Non w W → Calls Tryz.prog 14 #[v0, qyV q c s g] W fun e w' => ∃ u, e = .returned u ∧ Vs iv w' u (typsG cols q) ∧ Fr Non W w') := Lib.hid (fun hs hc W hf => gtyps_any v0 cols q c s g W (h0.non hf) (hq.non hf) hc.1 hc.2.1 hs)
  have HT2 : Hid (SmQ q → (cols.length ≤ 20 ∧ (∀ c ∈ cols, c.name.length ≤ 100) ∧ rows.length ≤ 210) → ∀ W, Fr Non w W → Calls Tryz.prog 15 #[v0, qyV q c s g] W fun e w' => ∃ u, e = .returned u ∧ Vs iv w' u (typsG cols q) ∧ Fr Non W w') := Lib.hid (fun hs hc W hf => dtyps_any v0 cols q c s g W (h0.non hf) (hq.non hf) (by have := hc.1; omega) (fun c h => by have := hc.2.1 c h; omega) hs)
  have HX2 : Hid (SmQ q → (cols.length ≤ 20 ∧ (∀ c ∈ cols, c.name.length ≤ 100) ∧ rows.length ≤ 210) → ∀ v1 v2 W, Vs iv W v1 (typsG cols q) → Vs iv W v2 (typsG cols q) → Calls Tryz.prog 13 #[v1, v2] W fun e w' => e = .returned (.bool true) ∧ Fr Non W w') := Lib.hid (fun hs hc v1 v2 W a b => by
    have e1 := typs_lens (cols := cols) hs hc.1
    have c9 := ints_any v1 v2 _ _ W a b (by omega) (by omega)
    simpa using c9)
  have Q0 := Lib.hid (Qin.new hq)
  obtain ⟨A0, c0, hv0⟩ := h0.shape
  obtain ⟨A2, c2, hv2⟩ := h2.shape
  have HV0 := Lib.hid h0
  have HV2 := Lib.hid h2
  obtain ⟨cA, cc, hce⟩ := hq.cols.shape
  obtain ⟨gA, gc, hge⟩ := hq.aggs.shape
  have HQ := Lib.hid hq
  clear hq h0 h2 hw
  subst hv0 hv2
  generalize SmQ q = P at *
  generalize ansE cols q rows = R at *
  generalize typsG cols q = ty at *
  obtain ⟨R1, R2⟩ := R
  dsimp only at HA1 HA2 HX1
  obtain ⟨tab, qc, ⟨⟨wo, wc, wm, ⟨wn, wi, wt⟩, wk, wp⟩, wks⟩, aggs, by_⟩ := q
  obtain ⟨sA, sn, sc⟩ := s
  dsimp only at hce hge
  subst hce hge
  obtain ⟨b, hb⟩ : ∃ b, w.heap.size = b := ⟨_, rfl⟩
  have QB0 : Hid (QB _ b ⟨tab, qc, ⟨⟨wo, wc, wm, ⟨wn, wi, wt⟩, wk, wp⟩, wks⟩, aggs, by_⟩ (.slice cA qc.length cc) ⟨sA, sn, sc⟩ (.slice gA aggs.length gc)) := Lib.hid (by have := Q0.out.blk; rw [hb] at this; exact this)
  have F0 := Lib.hid Q0.out.fr
  clear Q0
  unfold qyC kidV at QB0 F0 SK
  unfold qyV qyC kidV at SQ ⊢
  unfold qyV qyC kidV at HA1 HA2 HT1 HT2
  dsimp only [Pd.hd, Pd.kids] at QB0 F0 SK SQ HA1 HA2 HX1 HT1 HT2 HX2 ⊢
  have HB := Lib.hid hb
  obtain ⟨b0, b1, b2, b3, b4, b5, b6, b7, b8, b9, b10, b11, b12⟩ := qB_cells QB0.out
  dsimp only [Pd.hd, Pd.kids] at b0 b1 b2 b3 b4 b5 b6 b7 b8 b9 b10 b11 b12
  go_enter Tryz.func3, Tryz.ntmps3
  go_wp2_with fail
  refine SK.out.mono ?_
  rintro e w1 ⟨⟨b1', rfl, hb1⟩, f1⟩
  have HB1 := Lib.hid hb1
  have F1 := Lib.hid (F0.out.trans f1)
  have QB1 : Hid (QB w1 b ⟨tab, qc, ⟨⟨wo, wc, wm, ⟨wn, wi, wt⟩, wk, wp⟩, wks⟩, aggs, by_⟩ (.slice cA qc.length cc) ⟨sA, sn, sc⟩ (.slice gA aggs.length gc)) := Lib.hid (QB0.out.fr f1 (fun e => e))
  clear hb1 f1 F0 QB0 SK hb
  cases b1'
  · clear SQ HA1 HA2 HX1 HT1 HT2 HX2
    go_wp2_with fail
    refine (live23_any _).mono ?_
    rintro e wl ⟨rfl, fl⟩
    go_wp2
    go_ret
    exact ⟨rfl, (F1.out.trans fl).below⟩
  · clear b0 b1 b2 b3 b4 b5 b6 b7 b8 b9 b10 b11 b12
    obtain ⟨b0, b1, b2, b3, b4, b5, b6, b7, b8, b9, b10, b11, b12⟩ := qB_cells QB1.out
    dsimp only [Pd.hd, Pd.kids] at b0 b1 b2 b3 b4 b5 b6 b7 b8 b9 b10 b11 b12
    go_wp2_with fail
    refine (SQ.out _ F1.out).mono ?_
    rintro e w2 ⟨⟨b2', rfl, hb2⟩, f2⟩
    have HB2 := Lib.hid hb2
    have F2 := Lib.hid (F1.out.trans f2)
    have QB2 : Hid (QB w2 b ⟨tab, qc, ⟨⟨wo, wc, wm, ⟨wn, wi, wt⟩, wk, wp⟩, wks⟩, aggs, by_⟩ (.slice cA qc.length cc) ⟨sA, sn, sc⟩ (.slice gA aggs.length gc)) := Lib.hid (QB1.out.fr f2 (fun e => e))
    clear hb2 f2 F1 QB1 SQ
    clear b0 b1 b2 b3 b4 b5 b6 b7 b8 b9 b10 b11 b12
    cases b2'
    · clear HA1 HA2 HX1 HT1 HT2 HX2
      go_wp2_with fail
      refine (live23_any _).mono ?_
      rintro e wl ⟨rfl, fl⟩
      go_wp2
      go_ret
      exact ⟨rfl, (F2.out.trans fl).below⟩
    · have hp := HB2.out (by trivial)
      have hc := HB1.out (by trivial)
      replace HA1 := Lib.hid (HA1.out hp hc)
      replace HA2 := Lib.hid (HA2.out hp hc)
      replace HX1 := Lib.hid (HX1.out hp hc)
      replace HT1 := Lib.hid (HT1.out hp hc)
      replace HT2 := Lib.hid (HT2.out hp hc)
      replace HX2 := Lib.hid (HX2.out hp hc)
      clear HB1 HB2 hp hc
      obtain ⟨b0, b1, b2, b3, b4, b5, b6, b7, b8, b9, b10, b11, b12⟩ := qB_cells QB2.out
      dsimp only [Pd.hd, Pd.kids] at b0 b1 b2 b3 b4 b5 b6 b7 b8 b9 b10 b11 b12
      go_wp2_with fail
      refine (HA1.out _ F2.out).mono ?_
      rintro e w3 ⟨u1, rfl, hu1, f3⟩
      obtain ⟨u1A, u1c, hue1⟩ := hu1.shape
      subst hue1
      have F3 := Lib.hid (F2.out.trans f3)
      have QB3 : Hid (QB w3 b ⟨tab, qc, ⟨⟨wo, wc, wm, ⟨wn, wi, wt⟩, wk, wp⟩, wks⟩, aggs, by_⟩ (.slice cA qc.length cc) ⟨sA, sn, sc⟩ (.slice gA aggs.length gc)) := Lib.hid (QB2.out.fr f3 (fun e => e))
      have HU1 := Lib.hid hu1
      clear f3 F2 QB2 hu1 HA1 b0 b1 b2 b3 b4 b5 b6 b7 b8 b9 b10 b11 b12
      obtain ⟨b0, b1, b2, b3, b4, b5, b6, b7, b8, b9, b10, b11, b12⟩ := qB_cells QB3.out
      dsimp only [Pd.hd, Pd.kids] at b0 b1 b2 b3 b4 b5 b6 b7 b8 b9 b10 b11 b12
      go_wp2_with fail
      refine (HA2.out _ F3.out).mono ?_
      rintro e w4 ⟨u2, rfl, hu2', f4⟩
      obtain ⟨u2A, u2c, hue2⟩ := hu2'.shape
      subst hue2
      have F4 := Lib.hid (F3.out.trans f4)
      have QB4 : Hid (QB w4 b ⟨tab, qc, ⟨⟨wo, wc, wm, ⟨wn, wi, wt⟩, wk, wp⟩, wks⟩, aggs, by_⟩ (.slice cA qc.length cc) ⟨sA, sn, sc⟩ (.slice gA aggs.length gc)) := Lib.hid (QB3.out.fr f4 (fun e => e))
      have hu1 := Lib.hid (HU1.out.non f4)
      have hu2 := Lib.hid hu2'
      clear f4 F3 QB3 hu2' HU1 HA2 b0 b1 b2 b3 b4 b5 b6 b7 b8 b9 b10 b11 b12
      obtain ⟨b0, b1, b2, b3, b4, b5, b6, b7, b8, b9, b10, b11, b12⟩ := qB_cells QB4.out
      dsimp only [Pd.hd, Pd.kids] at b0 b1 b2 b3 b4 b5 b6 b7 b8 b9 b10 b11 b12
      go_wp2
      obtain ⟨V, hV⟩ : ∃ V, V = w4.drew := ⟨_, rfl⟩
      refine wp_region_held_drew (S := (fun W' => W'.cell? ⟨b, 0, none⟩ = some (.string ⟨tab.toArray⟩) ∧ W'.cell? ⟨b, 1, none⟩ = some (.slice cA qc.length cc) ∧ W'.cell? ⟨b, 2, none⟩ = some (.int .i64 wo) ∧ W'.cell? ⟨b, 3, none⟩ = some (.string ⟨wc.toArray⟩) ∧ W'.cell? ⟨b, 4, none⟩ = some (.int .i64 wm) ∧ W'.cell? ⟨b, 5, none⟩ = some (.bool wn) ∧ W'.cell? ⟨b, 6, none⟩ = some (.int .i64 wi) ∧ W'.cell? ⟨b, 7, none⟩ = some (.string ⟨wt.toArray⟩) ∧ W'.cell? ⟨b, 8, none⟩ = some (.int .i64 wk) ∧ W'.cell? ⟨b, 9, none⟩ = some (.string ⟨wp.toArray⟩) ∧ W'.cell? ⟨b, 10, none⟩ = some (.slice sA sn sc) ∧ W'.cell? ⟨b, 11, none⟩ = some (.slice gA aggs.length gc) ∧ W'.cell? ⟨b, 12, none⟩ = some (.string ⟨by_.toArray⟩))) (by kernel_rfl) (by exact ⟨b0, b1, b2, b3, b4, b5, b6, b7, b8, b9, b10, b11, b12⟩) (fun hHeld => ?_)
      rw [← hV]
      rw [← hV] at hHeld
      have FV : Fr Non w4 V := by rw [hV]; exact (Fr.refl Non _).drew
      clear hV
      replace b0 := FV.at0 b0
      replace b1 := FV.at0 b1
      replace b2 := FV.at0 b2
      replace b3 := FV.at0 b3
      replace b4 := FV.at0 b4
      replace b5 := FV.at0 b5
      replace b6 := FV.at0 b6
      replace b7 := FV.at0 b7
      replace b8 := FV.at0 b8
      replace b9 := FV.at0 b9
      replace b10 := FV.at0 b10
      replace b11 := FV.at0 b11
      replace b12 := FV.at0 b12
      have G0 := Lib.hid (F4.out.trans FV)
      have hu1v := Lib.hid (hu1.out.non FV)
      have hu2v := Lib.hid (hu2.out.non FV)
      clear FV hu1 hu2 F4
      refine wpAnyH_take (i := 0) (oi := ⟨some 35, _, _, _, _, none⟩) (v := ?v123) rfl (by kernel_rfl) (by kernel_rfl) (by kernel_rfl) (fun _ _ _ h => h) (Or.inl ⟨by rfl, ?hy123⟩) (by assumption) ?rest123
      case hy123 => (intro wS hSw; (try dsimp only at hSw); go_simp; (try with_reducible rfl))
      (try simp only [Act.put, zA, zB, zC])
      refine wpAnyH_take (i := 2) (oi := ⟨some 37, _, _, _, _, none⟩) (v := ?v124) rfl (by kernel_rfl) (by kernel_rfl) (by kernel_rfl) (fun _ _ _ h => h) (Or.inl ⟨by rfl, ?hy124⟩) (by assumption) ?rest124
      case hy124 => (intro wS hSw; (try dsimp only at hSw); go_simp; (try with_reducible rfl))
      (try simp only [Act.put, zA, zB, zC])
      refine wpAnyH_ready (rs := [1]) (by kernel_rfl) (by simp) ?_
      refine AllReadyH.cons (o := ⟨some 36, _, _, _, _, none⟩) rfl (fun K hK => ?_) AllReadyH.nil
      go_simp
      go_at_call 11
      refine (gnum_any _ _).mono ?_
      rintro e x1 ⟨rfl, f1⟩
      have G1 := Lib.hid (G0.out.trans f1)
      have hu11 := Lib.hid (hu1v.out.non f1)
      have hu21 := Lib.hid (hu2v.out.non f1)
      replace b0 := f1.at0 b0
      replace b1 := f1.at0 b1
      replace b2 := f1.at0 b2
      replace b3 := f1.at0 b3
      replace b4 := f1.at0 b4
      replace b5 := f1.at0 b5
      replace b6 := f1.at0 b6
      replace b7 := f1.at0 b7
      replace b8 := f1.at0 b8
      replace b9 := f1.at0 b9
      replace b10 := f1.at0 b10
      replace b11 := f1.at0 b11
      replace b12 := f1.at0 b12
      go_wp2_with fail
      refine hK.out _ _ (by exact ⟨b0, b1, b2, b3, b4, b5, b6, b7, b8, b9, b10, b11, b12⟩) (fun hHeld => ?_)
      clear hK K
      (try simp only [Act.put, zA, zB, zC])
      refine wpAnyH_take (i := 3) (oi := ⟨some 38, _, _, _, _, none⟩) (v := ?v125) rfl (by kernel_rfl) (by kernel_rfl) (by kernel_rfl) (fun _ _ _ h => h) (Or.inl ⟨by rfl, ?hy125⟩) (by assumption) ?rest125
      case hy125 => (intro wS hSw; (try dsimp only at hSw); go_simp; (try with_reducible rfl))
      (try simp only [Act.put, zA, zB, zC])
      refine wpAnyH_take (i := 4) (oi := ⟨some 39, _, _, _, _, none⟩) (v := ?v126) rfl (by kernel_rfl) (by kernel_rfl) (by kernel_rfl) (fun _ _ _ h => h) (Or.inl ⟨by rfl, ?hy126⟩) (by assumption) ?rest126
      case hy126 => (intro wS hSw; (try dsimp only at hSw); go_simp; (try with_reducible rfl))
      (try simp only [Act.put, zA, zB, zC])
      refine wpAnyH_take (i := 5) (oi := ⟨some 40, _, _, _, _, some (4, true)⟩) (v := ?v127) rfl (by kernel_rfl) (by kernel_rfl) (by kernel_rfl) (fun _ _ _ h => h) (Or.inl ⟨by rfl, ?hy127⟩) (by assumption) ?rest127
      case hy127 => (intro wS hSw; (try dsimp only at hSw); go_simp; (try with_reducible rfl))
      (try simp only [Act.put, zA, zB, zC])
      refine wpAnyH_take (i := 6) (oi := ⟨some 41, _, _, _, _, some (4, true)⟩) (v := ?v128) rfl (by kernel_rfl) (by kernel_rfl) (by kernel_rfl) (fun _ _ _ h => h) (Or.inl ⟨by rfl, ?hy128⟩) (by assumption) ?rest128
      case hy128 => (intro wS hSw; (try dsimp only at hSw); go_simp; (try with_reducible rfl))
      (try simp only [Act.put, zA, zB, zC])
      refine wpAnyH_ready (rs := [7]) (by kernel_rfl) (by simp) ?_
      refine AllReadyH.cons (o := ⟨some 42, _, _, _, _, some (4, true)⟩) rfl (fun K hK => ?_) AllReadyH.nil
      go_simp
      go_at_call 12
      refine (HX1.out _ _ _ hu11.out.rs hu21.out.rs).mono ?_
      rintro e x2 ⟨rfl, f2⟩
      have G2 := Lib.hid (G1.out.trans f2)
      replace b0 := f2.at0 b0
      replace b1 := f2.at0 b1
      replace b2 := f2.at0 b2
      replace b3 := f2.at0 b3
      replace b4 := f2.at0 b4
      replace b5 := f2.at0 b5
      replace b6 := f2.at0 b6
      replace b7 := f2.at0 b7
      replace b8 := f2.at0 b8
      replace b9 := f2.at0 b9
      replace b10 := f2.at0 b10
      replace b11 := f2.at0 b11
      replace b12 := f2.at0 b12
      go_wp2_with fail
      refine hK.out _ _ (by exact ⟨b0, b1, b2, b3, b4, b5, b6, b7, b8, b9, b10, b11, b12⟩) (fun hHeld => ?_)
      clear hK K
      (try simp only [Act.put, zA, zB, zC])
      refine wpAnyH_take (i := 8) (oi := ⟨some 43, _, _, _, _, none⟩) (v := ?v129) rfl (by kernel_rfl) (by kernel_rfl) (by kernel_rfl) (fun _ _ _ h => h) (Or.inl ⟨by rfl, ?hy129⟩) (by assumption) ?rest129
      case hy129 => (intro wS hSw; (try dsimp only at hSw); go_simp; (try with_reducible rfl))
      (try simp only [Act.put, zA, zB, zC])
      refine wpAnyH_take (i := 9) (oi := ⟨some 44, _, _, _, _, none⟩) (v := ?v130) rfl (by kernel_rfl) (by kernel_rfl) (by kernel_rfl) (fun _ _ _ h => h) (Or.inl ⟨by rfl, ?hy130⟩) (by assumption) ?rest130
      case hy130 => (intro wS hSw; (try dsimp only at hSw); go_simp; (try with_reducible rfl))
      (try simp only [Act.put, zA, zB, zC])
      refine wpAnyH_take (i := 10) (oi := ⟨some 45, _, _, _, _, some (9, true)⟩) (v := ?v131) rfl (by kernel_rfl) (by kernel_rfl) (by kernel_rfl) (fun _ _ _ h => h) (Or.inl ⟨by rfl, ?hy131⟩) (by assumption) ?rest131
      case hy131 => (intro wS hSw; (try dsimp only at hSw); go_simp; (try with_reducible rfl))
      (try simp only [Act.put, zA, zB, zC])
      refine wpAnyH_take (i := 11) (oi := ⟨some 46, _, _, _, _, some (9, true)⟩) (v := ?v132) rfl (by kernel_rfl) (by kernel_rfl) (by kernel_rfl) (fun _ _ _ h => h) (Or.inl ⟨by rfl, ?hy132⟩) (by assumption) ?rest132
      case hy132 => (intro wS hSw; (try dsimp only at hSw); go_simp; (try with_reducible rfl))
      (try simp only [Act.put, zA, zB, zC])
      refine wpAnyH_take (i := 13) (oi := ⟨some 48, _, _, _, _, some (9, true)⟩) (v := ?v133) rfl (by kernel_rfl) (by kernel_rfl) (by kernel_rfl) (fun _ _ _ h => h) (Or.inl ⟨by rfl, ?hy133⟩) (by assumption) ?rest133
      case hy133 => (intro wS hSw; (try dsimp only at hSw); go_simp; (try with_reducible rfl))
      (try simp only [Act.put, zA, zB, zC])
      refine wpAnyH_take (i := 14) (oi := ⟨some 49, _, _, _, _, some (9, true)⟩) (v := ?v134) rfl (by kernel_rfl) (by kernel_rfl) (by kernel_rfl) (fun _ _ _ h => h) (Or.inl ⟨by rfl, ?hy134⟩) (by assumption) ?rest134
      case hy134 => (intro wS hSw; (try dsimp only at hSw); go_simp; (try with_reducible rfl))
      (try simp only [Act.put, zA, zB, zC])
      refine wpAnyH_ready (rs := [12]) (by kernel_rfl) (by simp) ?_
      refine AllReadyH.cons (o := ⟨some 47, _, _, _, _, some (9, true)⟩) rfl (fun K hK => ?_) AllReadyH.nil
      go_simp
      go_at_call 14
      refine (HT1.out _ G2.out).mono ?_
      rintro e x3 ⟨u3, rfl, hu3, f3⟩
      have G3 := Lib.hid (G2.out.trans f3)
      obtain ⟨t1A, t1c, ht1⟩ := hu3.shape
      subst ht1
      replace b0 := f3.at0 b0
      replace b1 := f3.at0 b1
      replace b2 := f3.at0 b2
      replace b3 := f3.at0 b3
      replace b4 := f3.at0 b4
      replace b5 := f3.at0 b5
      replace b6 := f3.at0 b6
      replace b7 := f3.at0 b7
      replace b8 := f3.at0 b8
      replace b9 := f3.at0 b9
      replace b10 := f3.at0 b10
      replace b11 := f3.at0 b11
      replace b12 := f3.at0 b12
      go_wp2_with fail
      refine hK.out _ _ (by exact ⟨b0, b1, b2, b3, b4, b5, b6, b7, b8, b9, b10, b11, b12⟩) (fun hHeld => ?_)
      clear hK K
      (try simp only [Act.put, zA, zB, zC])
      refine wpAnyH_ready (rs := [15]) (by kernel_rfl) (by simp) ?_
      refine AllReadyH.cons (o := ⟨some 50, _, _, _, _, some (9, true)⟩) rfl (fun K hK => ?_) AllReadyH.nil
      go_simp
      go_at_call 15
      refine (HT2.out _ G3.out).mono ?_
      rintro e x4 ⟨u4, rfl, hu4, f4⟩
      have G4 := Lib.hid (G3.out.trans f4)
      obtain ⟨t2A, t2c, ht2⟩ := hu4.shape
      subst ht2
      have hu34 := hu3.non f4
      replace b0 := f4.at0 b0
      replace b1 := f4.at0 b1
      replace b2 := f4.at0 b2
      replace b3 := f4.at0 b3
      replace b4 := f4.at0 b4
      replace b5 := f4.at0 b5
      replace b6 := f4.at0 b6
      replace b7 := f4.at0 b7
      replace b8 := f4.at0 b8
      replace b9 := f4.at0 b9
      replace b10 := f4.at0 b10
      replace b11 := f4.at0 b11
      replace b12 := f4.at0 b12
      go_wp2_with fail
      refine hK.out _ _ (by exact ⟨b0, b1, b2, b3, b4, b5, b6, b7, b8, b9, b10, b11, b12⟩) (fun hHeld => ?_)
      clear hK K
      (try simp only [Act.put, zA, zB, zC])
      refine wpAnyH_ready (rs := [16]) (by kernel_rfl) (by simp) ?_
      refine AllReadyH.cons (o := ⟨some 51, _, _, _, _, some (9, true)⟩) rfl (fun K hK => ?_) AllReadyH.nil
      go_simp
      go_at_call 13
      refine (HX2.out _ _ _ hu34 hu4).mono ?_
      rintro e x5 ⟨rfl, f5⟩
      have G5 := Lib.hid (G4.out.trans f5)
      replace b0 := f5.at0 b0
      replace b1 := f5.at0 b1
      replace b2 := f5.at0 b2
      replace b3 := f5.at0 b3
      replace b4 := f5.at0 b4
      replace b5 := f5.at0 b5
      replace b6 := f5.at0 b6
      replace b7 := f5.at0 b7
      replace b8 := f5.at0 b8
      replace b9 := f5.at0 b9
      replace b10 := f5.at0 b10
      replace b11 := f5.at0 b11
      replace b12 := f5.at0 b12
      go_wp2_with fail
      refine hK.out _ _ (by exact ⟨b0, b1, b2, b3, b4, b5, b6, b7, b8, b9, b10, b11, b12⟩) (fun hHeld => ?_)
      clear hK K
      (try simp only [Act.put, zA, zB, zC])
      refine wpAnyH_take (i := 17) (oi := ⟨some 52, _, _, _, _, none⟩) (v := ?v135) rfl (by kernel_rfl) (by kernel_rfl) (by kernel_rfl) (fun _ _ _ h => h) (Or.inl ⟨by rfl, ?hy135⟩) (by assumption) ?rest135
      case hy135 => (intro wS hSw; (try dsimp only at hSw); go_simp; (try with_reducible rfl))
      (try simp only [Act.put, zA, zB, zC])
      refine wpAnyH_take (i := 18) (oi := ⟨some 53, _, _, _, _, none⟩) (v := ?v136) rfl (by kernel_rfl) (by kernel_rfl) (by kernel_rfl) (fun _ _ _ h => h) (Or.inl ⟨by rfl, ?hy136⟩) (by assumption) ?rest136
      case hy136 => (intro wS hSw; (try dsimp only at hSw); go_simp; (try with_reducible rfl))
      (try simp only [Act.put, zA, zB, zC])
      refine wpAnyH_ready (rs := [19]) (by kernel_rfl) (by simp) ?_
      refine AllReadyH.cons (o := ⟨some 54, _, _, _, _, some (18, true)⟩) rfl (fun K hK => ?_) AllReadyH.nil
      go_simp
      go_at_call 8
      refine (live23_any _).mono ?_
      rintro e x6 ⟨rfl, f6⟩
      have G6 := Lib.hid (G5.out.trans f6)
      replace b0 := f6.at0 b0
      replace b1 := f6.at0 b1
      replace b2 := f6.at0 b2
      replace b3 := f6.at0 b3
      replace b4 := f6.at0 b4
      replace b5 := f6.at0 b5
      replace b6 := f6.at0 b6
      replace b7 := f6.at0 b7
      replace b8 := f6.at0 b8
      replace b9 := f6.at0 b9
      replace b10 := f6.at0 b10
      replace b11 := f6.at0 b11
      replace b12 := f6.at0 b12
      go_wp2_with fail
      refine hK.out _ _ (by exact ⟨b0, b1, b2, b3, b4, b5, b6, b7, b8, b9, b10, b11, b12⟩) (fun hHeld => ?_)
      clear hK K
      (try simp only [Act.put, zA, zB, zC])
      refine wpAnyH_take (i := 20) (oi := ⟨some 55, _, _, _, _, none⟩) (v := ?v137) rfl (by kernel_rfl) (by kernel_rfl) (by kernel_rfl) (fun _ _ _ h => h) (Or.inl ⟨by rfl, ?hy137⟩) (by assumption) ?rest137
      case hy137 => (intro wS hSw; (try dsimp only at hSw); go_simp; (try with_reducible rfl))
      (try simp only [Act.put, zA, zB, zC])
      refine wpAnyH_take (i := 21) (oi := ⟨some 6, _, _, _, _, none⟩) (v := ?v138) rfl (by kernel_rfl) (by kernel_rfl) (by kernel_rfl) (fun _ _ _ h => h) (Or.inl ⟨by rfl, ?hy138⟩) (by assumption) ?rest138
      case hy138 => (intro wS hSw; (try dsimp only at hSw); go_simp; (try with_reducible rfl))
      (try simp only [Act.put, zA, zB, zC])
      refine wpAnyH_done (by kernel_rfl) ?_ _
      go_wp2
      go_ret
      exact ⟨rfl, G6.out.below⟩
end Go.Proofs.YtjcfjjhhbcgcmaaGreat

namespace Go.Proofs.YtjcfjjhhbcgcmaaGreat
open Go.Joins Go.ChangeShapes Go.WideShapes Go.ChangeAt Go.RowKit Go.Deep
structure ClWf (c : Cl) : Prop where
  lo : -9223372036854775808 ≤ c.num
  hi : c.num ≤ 9223372036854775807
  len : c.txt.length ≤ 9223372036854775807
end Go.Proofs.YtjcfjjhhbcgcmaaGreat

namespace Go.Proofs.YtjcfjjhhbcgcmaaGreat
open Go.Joins Go.ChangeShapes Go.WideShapes Go.ChangeAt Go.RowKit Go.Deep
theorem cof_bool : Tryz.prog.cellsOf 4 = 1 := by kernel_rfl
theorem cof_i64 : Tryz.prog.cellsOf 2 = 1 := by kernel_rfl
theorem cof_int : Tryz.prog.cellsOf 3 = 1 := by kernel_rfl
theorem cof_str : Tryz.prog.cellsOf 9 = 1 := by kernel_rfl
theorem cof_cl : Tryz.prog.cellsOf 25 = 3 := by kernel_rfl
theorem cl_cells {H : Type} {enc : TypeId × Value → H} {W : World} {n : Nat} {x : DataW H × List MemPlace} {c2 c3 c4 : Value}
    (h : DataW.trod enc Tryz.prog W 0 (fun _ => true) true n 25 [c2, c3, c4] = some x) : ∃ c : Cl, c2 = .bool c.null ∧ c3 = .int .i64 c.num ∧ c4 = .string ⟨c.txt.toArray⟩ ∧ ClWf c := by
  obtain ⟨y0, y1, y2, m, rfl, _, h0, h1, h2⟩ := trod_struct3 Tryz.underlying25 h
  simp only [cof_bool, cof_i64, cof_str, List.drop_zero, List.drop_succ_cons, List.take_succ_cons, List.take_zero] at h0 h1 h2
  obtain ⟨b, e0, _⟩ := DataW.trod_bool Tryz.underlying4 h0
  obtain rfl := (List.cons.inj e0).1
  obtain ⟨i, e1, _, hi⟩ := DataW.trod_int Tryz.underlying2 h1
  obtain rfl := (List.cons.inj e1).1
  obtain ⟨s, e2, _, hs⟩ := DataW.trod_string Tryz.underlying9 h2
  obtain rfl := (List.cons.inj e2).1
  have hb := wf_i64_bd hi
  exact ⟨⟨b, i, s.data.toList⟩, rfl, rfl, by simp, ⟨hb.1, hb.2, by simpa [maxLen] using hs⟩⟩
end Go.Proofs.YtjcfjjhhbcgcmaaGreat

namespace Go.Proofs.YtjcfjjhhbcgcmaaGreat
open Go.Joins Go.ChangeShapes Go.WideShapes Go.ChangeAt Go.RowKit Go.Deep
theorem cof_co : Tryz.prog.cellsOf 56 = 3 := by kernel_rfl
structure CoWf (c : Co) : Prop where
  lo : -9223372036854775808 ≤ c.ty
  hi : c.ty ≤ 9223372036854775807
  len : c.name.length ≤ 9223372036854775807
theorem co_cells {H : Type} {enc : TypeId × Value → H} {W : World} {n : Nat} {x : DataW H × List MemPlace} {c2 c3 c4 : Value}
    (h : DataW.trod enc Tryz.prog W 0 (fun _ => true) true n 56 [c2, c3, c4] = some x) : ∃ c : Co, c2 = .string ⟨c.name.toArray⟩ ∧ c3 = .int .i64 c.ty ∧ c4 = .bool c.nl ∧ CoWf c := by
  obtain ⟨y0, y1, y2, m, rfl, _, h0, h1, h2⟩ := trod_struct3 Tryz.underlying56 h
  simp only [cof_bool, cof_int, cof_str, List.drop_zero, List.drop_succ_cons, List.take_succ_cons, List.take_zero] at h0 h1 h2
  obtain ⟨s, e0, _, hs⟩ := DataW.trod_string Tryz.underlying9 h0
  obtain rfl := (List.cons.inj e0).1
  obtain ⟨i, e1, _, hi⟩ := DataW.trod_int Tryz.underlying3 h1
  obtain rfl := (List.cons.inj e1).1
  obtain ⟨b, e2, _⟩ := DataW.trod_bool Tryz.underlying4 h2
  obtain rfl := (List.cons.inj e2).1
  have hb := wf_i64_bd hi
  exact ⟨⟨s.data.toList, i, b⟩, by simp, rfl, rfl, ⟨hb.1, hb.2, by simpa [maxLen] using hs⟩⟩
theorem ks_in {H : Type} {enc : TypeId × Value → H} {W : World} {base : Nat} {v : Value} {d : DataW H} {p : List MemPlace} (hv : Value.okWide Tryz.prog W .any base 22 v)
    (h : DataW.Trod enc Tryz.prog W 0 (fun _ => true) true 22 v d p) : ∃ l, Ks W v l ∧ l.length ≤ 9223372036854775807 ∧ (∀ c ∈ l, CoWf c) ∧ ∀ k, v.ownBlock = some k → k < W.heap.size :=
  ns_in fd_co Tryz.underlying22 cof_co CoWf (fun n cs y hl hy => by
    match cs, hl with
    | [v0, v1, v2], _ =>
      obtain ⟨c, rfl, rfl, rfl, hw⟩ := co_cells hy
      exact ⟨c, rfl, hw⟩) hv h
end Go.Proofs.YtjcfjjhhbcgcmaaGreat

namespace Go.Proofs.YtjcfjjhhbcgcmaaGreat
open Go.Joins Go.ChangeShapes Go.WideShapes Go.ChangeAt Go.RowKit Go.Deep
theorem cof_pd : Tryz.prog.cellsOf 28 = 9 := by kernel_rfl
theorem cof_pds : Tryz.prog.cellsOf 26 = 1 := by kernel_rfl
theorem pd_trod {H : Type} {enc : TypeId × Value → H} {W : World} : ∀ (N fuel : Nat) (cs : List Value) (x : DataW H × List MemPlace), SizeOf.sizeOf x.1 ≤ N →
    DataW.trod enc Tryz.prog W 0 (fun _ => true) true fuel 28 cs = some x → ∃ (h : Ph) (s : Kv) (ks : List Pd), cs = pdL (h, s) ∧ Kd W s ks ∧ I64b h.val.num := by
  intro N
  induction N with
  | zero =>
    intro fuel cs x hx h
    obtain ⟨xs, n, rfl, hxe, _⟩ := DataW.trod_struct Tryz.underlying28 h
    rw [hxe] at hx
    simp only [DataW.agg.sizeOf_spec] at hx
    omega
  | succ N ih =>
    intro fuel cs x hx h
    obtain ⟨xs, n, rfl, hxe, hlen, hxl, hall⟩ := DataW.trod_struct Tryz.underlying28 h
    rw [cof_pd] at hlen
    have hxl7 : xs.length = 7 := hxl
    rw [hxe] at hx
    simp only [DataW.agg.sizeOf_spec] at hx
    match cs, hlen with
    | [v0, v1, v2, v3, v4, v5, v6, v7, v8], _ =>
      have f0 : DataW.trod enc Tryz.prog W 0 (fun _ => true) true n 3 (List.take (Tryz.prog.cellsOf 3) (List.drop 0 [v0, v1, v2, v3, v4, v5, v6, v7, v8])) = xs[0]? := hall 0 _ rfl
      have f1 : DataW.trod enc Tryz.prog W 0 (fun _ => true) true n 9 (List.take (Tryz.prog.cellsOf 9) (List.drop 1 [v0, v1, v2, v3, v4, v5, v6, v7, v8])) = xs[1]? := hall 1 _ rfl
      have f2 : DataW.trod enc Tryz.prog W 0 (fun _ => true) true n 3 (List.take (Tryz.prog.cellsOf 3) (List.drop 2 [v0, v1, v2, v3, v4, v5, v6, v7, v8])) = xs[2]? := hall 2 _ rfl
      have f3 : DataW.trod enc Tryz.prog W 0 (fun _ => true) true n 25 (List.take (Tryz.prog.cellsOf 25) (List.drop 3 [v0, v1, v2, v3, v4, v5, v6, v7, v8])) = xs[3]? := hall 3 _ rfl
      have f4 : DataW.trod enc Tryz.prog W 0 (fun _ => true) true n 3 (List.take (Tryz.prog.cellsOf 3) (List.drop 6 [v0, v1, v2, v3, v4, v5, v6, v7, v8])) = xs[4]? := hall 4 _ rfl
      have f5 : DataW.trod enc Tryz.prog W 0 (fun _ => true) true n 9 (List.take (Tryz.prog.cellsOf 9) (List.drop 7 [v0, v1, v2, v3, v4, v5, v6, v7, v8])) = xs[5]? := hall 5 _ rfl
      have f6 : DataW.trod enc Tryz.prog W 0 (fun _ => true) true n 26 (List.take (Tryz.prog.cellsOf 26) (List.drop 8 [v0, v1, v2, v3, v4, v5, v6, v7, v8])) = xs[6]? := hall 6 _ rfl
      rw [List.getElem?_eq_getElem (by omega)] at f0 f1 f2 f3 f4 f5 f6
      simp only [cof_int, cof_str, cof_cl, cof_pds, List.drop_zero, List.drop_succ_cons, List.take_succ_cons, List.take_zero] at f0 f1 f2 f3 f4 f5 f6
      obtain ⟨i0, e0, _, w0⟩ := DataW.trod_int Tryz.underlying3 f0
      obtain rfl := (List.cons.inj e0).1
      obtain ⟨s1, e1, _, _⟩ := DataW.trod_string Tryz.underlying9 f1
      obtain rfl := (List.cons.inj e1).1
      obtain ⟨i2, e2, _, _⟩ := DataW.trod_int Tryz.underlying3 f2
      obtain rfl := (List.cons.inj e2).1
      obtain ⟨c, rfl, rfl, rfl, hc⟩ := cl_cells f3
      obtain ⟨i4, e4, _, _⟩ := DataW.trod_int Tryz.underlying3 f4
      obtain rfl := (List.cons.inj e4).1
      obtain ⟨s5, e5, _, _⟩ := DataW.trod_string Tryz.underlying9 f5
      obtain rfl := (List.cons.inj e5).1
      have hy : SizeOf.sizeOf xs[6].1 < SizeOf.sizeOf (xs.map fun x => x.fst) := List.sizeOf_lt_of_mem (List.mem_map.2 ⟨xs[6], List.getElem_mem _, rfl⟩)
      refine (?_ : ∃ (s : Kv) (ks : List Pd), v8 = kidV s ∧ Kd W s ks).elim fun s hs => ?_
      · rcases Go.Deep.open_slice Tryz.underlying26 f6 with ⟨hcs, _⟩ | ⟨a, len, cap, m, q, D, Pl, hcs, _, hl, hm, hmm, hye, hr⟩
        · obtain rfl := (List.cons.inj hcs).1
          exact ⟨noKv, [], rfl, Kd.nil_ W⟩
        · obtain rfl := (List.cons.inj hcs).1
          have hnm : len ≤ m := by rw [hmm]; simp; exact hl
          have hyx : xs[6].1 = DataW.slice ((List.range len).map D) ((List.range (m - len)).map fun j => D (len + j)) := (Prod.mk.inj (show (xs[6].1, xs[6].2) = _ from hye)).1
          rw [hyx] at hy
          simp only [DataW.slice.sizeOf_spec] at hy
          obtain ⟨l, hll, hls⟩ := choose_listG (fun i (z : (Ph × Kv) × List Pd) => AtN W (a.add (i * 9)) (pdL z.1) ∧ Kd W z.1.2 z.2 ∧ I64b z.1.1.val.num) len (by
            intro i hi
            obtain ⟨cs', h1, h2⟩ := hr i (by omega)
            rw [cof_pd] at h1
            obtain ⟨_, hlen', hcell⟩ := World.cells?_some h1
            have hd : SizeOf.sizeOf (D i) < SizeOf.sizeOf ((List.range len).map D) := List.sizeOf_lt_of_mem (List.mem_map.2 ⟨i, List.mem_range.2 hi, rfl⟩)
            obtain ⟨h', s', ks', rfl, hk', hb'⟩ := ih _ _ _ (show SizeOf.sizeOf (D i, Pl i).1 ≤ N by show SizeOf.sizeOf (D i) ≤ N; omega) h2
            refine ⟨((h', s'), ks'), fun j u hu => ?_, hk', hb'⟩
            rw [hcell j (by have := (List.getElem?_eq_some_iff.1 hu).1; simpa [pdL] using this)]
            exact hu)
          subst hll
          refine ⟨⟨some a, l.length, cap⟩, l.map fun z => .mk z.1.1 z.2, rfl, .mk _ (l.map Prod.fst) _ (by simp) ⟨some a, cap, by simp [kidV], by simpa using hl, (fun h => by cases h), fun b hb j hj => ?_⟩ (fun i h1 h2 => by simp [Pd.hd]) (fun i h2 => ?_) (fun i h1 h2 => ?_)⟩
          · cases hb
            have hj' : j < l.length := by simpa using hj
            simpa using (hls j hj').1
          · have hj' : i < l.length := by simpa using h2
            simpa [Pd.hd] using (hls i hj').2.2
          · have hj' : i < l.length := by simpa using h1
            simpa [Pd.kids] using (hls i hj').2.1
      · obtain ⟨ks, rfl, hk⟩ := hs
        exact ⟨⟨i0, s1.data.toList, i2, c, i4, s5.data.toList⟩, s, ks, by simp [pdL], hk, ⟨hc.lo, hc.hi⟩⟩
end Go.Proofs.YtjcfjjhhbcgcmaaGreat
