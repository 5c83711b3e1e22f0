/-
  Joined: Layer 20: what a predicate is of a row, the document's: of every one. · Layer 20: the document's Row, Rows. · Layer 10: which lists of cells are small. · Layer 13: which columns and rows are small. · Layer 21: the walk of PruneSafe. · Arguments opened: a cell by value; a value of each type. · Arguments opened: a slice of cells. · Arguments opened: a slice of slices of cells. · Arguments opened: a slice of columns. · Layer 17: an argument opened: a predicate. · Arguments of layer 21's laws, opened: a slice of zones; the table of opposites that the program lays.
-/
import Derived.Lib.Zigzag
import Derived.Deep.RegionHeld3
import Derived.Test.YtpmipdnmhffkeaaDoorZ6
import Derived.Test.YtpmipdnmhffkeaaDoorZ8
import Derived.Test.YtpmipdnmhffkeaaDoorZ2
import Derived.Test.YtpmipdnmhffkeaaDoorZ5
import Derived.Deep.Cut
import Derived.Test.YtpmipdnmhffkeaaDoorZ1
import Derived.Lib.SmallJoins
import Derived.OpenShut
import Derived.Stop.Joined
import Derived.ProofKit
import Derived.LaidMore
import Derived.Lib.LaidTab

namespace Go.Proofs.YtpmipdnmhffkeaaDoor
set_option linter.unusedVariables false
set_option linter.unusedSimpArgs false
set_option maxRecDepth 100000
open Go.RowKit

/-- a predicate and a cell of nothing, boxed one behind the other -/
def doc20 (w : World) (h : Ph) (t : Kv) : World := (w.alloc (.cells (pdC h t) 27)).alloc (.cells #[.bool false, .int .i64 0, .string ⟨#[]⟩] 24)
theorem doc20_fr (w : World) (h : Ph) (t : Kv) : Fr Non w (doc20 w h t) := ((Fr.refl Non w).alloc _).alloc _
theorem doc20_pd (w : World) (h : Ph) (t : Kv) : PdB (doc20 w h t) w.heap.size h t := (pd_new w _ h t rfl).fr ((Fr.refl Non _).alloc _) (fun e => e)
theorem doc20_cl (w : World) (h : Ph) (t : Kv) : ClB (doc20 w h t) (w.heap.size + 1) ⟨false, 0, []⟩ := by
  have e := cl_new (w.alloc (.cells (pdC h t) 27)) ⟨false, 0, []⟩
  rw [show (w.alloc (.cells (pdC h t) 27)).heap.size = w.heap.size + 1 by simp] at e
  exact e

theorem addE0 (a : Addr) : a.add 0 = a := by
  obtain ⟨B, o, e⟩ := a
  cases e <;> rfl
set_option maxHeartbeats 8000000 in
theorem rtruth_any (v1 v2 : Value) (cols : List Co) (row : List Cl) (hcl : cols.length ≤ 1000) (hr : rowB cols row = true) (p : Pd) : ∀ (t : Kv) (w : World), Ks w v1 cols → Cs w v2 row → Kd w t p.kids → bigP p = true → oneP p = true → typP cols p = true →
    Calls Tryd.prog 17 #[v1, pdV p.hd t, v2] w fun e w' => e = .returned (.int .i64 (truP cols row p)) ∧ Fr Non w w' := by
  induction p using Pd.ind with
  | h hd ks ih =>
    intro t w h1 h2 hk hbig hone htyp
    dsimp only [Pd.hd, Pd.kids] at hk ⊢
    have hn : t.n = ks.length := hk.len
    obtain ⟨hl, _, hpl, _, hbk⟩ := bigP_mk hbig
    obtain ⟨hok, hok1⟩ := one_kids hone
    obtain ⟨hty, hty1⟩ := typ_kids htyp
    obtain ⟨A1, c1, rfl⟩ := h1.shape
    obtain ⟨A2, c2, rfl⟩ := h2.shape
    have F0 := Lib.hid (doc20_fr w hd t)
    have PB := Lib.hid (doc20_pd w hd t)
    have CB := Lib.hid (doc20_cl w hd t)
    have IH : Hid (∀ j (h : j < ks.length) (W : World) (t' : Kv), Ks W (.slice A1 cols.length c1) cols → Cs W (.slice A2 row.length c2) row → Kd W t' ks[j].kids → Calls Tryd.prog 17 #[.slice A1 cols.length c1, pdV ks[j].hd t', .slice A2 row.length c2] W fun e w' => e = .returned (.int .i64 (truP cols row ks[j])) ∧ Fr Non W w') :=
      Lib.hid (fun j h W t' a b c => ih _ (List.getElem_mem h) t' W a b c (hbk _ (List.getElem_mem h)) (hok1 _ (List.getElem_mem h)) (hty1 _ (List.getElem_mem h)))
    have HV : Hid (Ks w (.slice A1 cols.length c1) cols) := Lib.hid h1
    have HC := Lib.hid h2
    have HK : Hid (Kd w t ks) := Lib.hid hk
    have HE0 := Lib.hid (tru_is cols row hd ks)
    clear ih hk h1 h2 hbig hone htyp hok1 hty1 hbk
    generalize truP cols row (.mk hd ks) = r at *
    rcases hd_ways hok with ⟨ho, h0, hco⟩ | ⟨ho, h0, ha⟩ | ⟨ho, h0, hco⟩ | ⟨ho, h0, hco⟩
    · have HE : Hid (r = 1) := Lib.hid (by rw [HE0.out, truH_1 ho])
      clear HE0 IH HV HC HK hok hty h0 hpl hr CB
      have CB := Lib.hid True.intro
      obtain ⟨ho_, hc, hm, ⟨vn, vi, vt⟩, hkd, hp⟩ := hd
      obtain ⟨A, n, c⟩ := t
      dsimp only at ho hn hco
      clear hn
      subst ho
      unfold doc20 at F0 PB
      unfold pdV at *
      unfold pdC kidV at *
      dsimp only at *
      generalize hg : w.heap.size = g at *
      subst hco
      obtain ⟨b0, b1, b2, b3, b4, b5, b6, b7, b8⟩ := pdB_cells PB.out
      dsimp only at b0 b1 b2 b3 b4 b5 b6 b7 b8
      go_enter Tryd.func17, Tryd.ntmps17
      go_wp2
      go_ret
      exact ⟨ret_int HE.out.symm, F0.out⟩
    · obtain ⟨hne, k, hk1, hk2, hf, hcell, hmay, hq2, hq4⟩ := ask_col ho ha hty hr
      have hb := beq_eq_false_iff_ne.2 hne
      have hb2 : (hd.col != []) = true := by rw [bne_iff_ne]; exact hne
      have HFi := Lib.hid (fun W h => rfind_any (.slice A1 cols.length c1) cols hd.col W h (by omega))
      rw [hf] at HFi
      rcases ho with ho | ho | ho
      · obtain ⟨hkt, hmv⟩ := hq2 ho
        have HE : Hid (r = cmpR hd.cmp row[k] hd.val) := Lib.hid (by rw [HE0.out, truH_2 ho, hcell])
        have HCo := Lib.hid (fun W => rcmp_any row[k] hd.val hd.cmp W)
        have HY := Lib.hid (fun b W => ryes_any b W)
        have HZ : Hid (row[k].null = true → cmpR hd.cmp row[k] hd.val = 2) := Lib.hid (fun e => by unfold cmpR; rw [if_pos e])
        have HW : Hid (row[k].null = false → cmpR hd.cmp row[k] hd.val = yesI (agrI hd.cmp (ordC row[k] hd.val))) := Lib.hid (fun e => by unfold cmpR; rw [if_neg (by rw [e]; simp)])
        clear HE0 IH HK hok hty h0 hpl hr hcell hmay hq2 hq4 hkt hmv hf hne ha
        generalize cmpR hd.cmp row[k] hd.val = z at *
        generalize agrI hd.cmp (ordC row[k] hd.val) = ab at *
        obtain ⟨ho_, hc, hm, ⟨vn, vi, vt⟩, hkd, hp⟩ := hd
        obtain ⟨A, n, c⟩ := t
        dsimp only at ho hn HCo HFi hb hb2
        clear hn
        subst ho
        unfold doc20 at F0 PB CB
        unfold pdV at *
        unfold pdC kidV at *
        dsimp only at *
        generalize hg : w.heap.size = g at *
        unfold clV clC at HCo
        dsimp only at HCo
        obtain ⟨b0, b1, b2, b3, b4, b5, b6, b7, b8⟩ := pdB_cells PB.out
        dsimp only at b0 b1 b2 b3 b4 b5 b6 b7 b8
        go_enter Tryd.func17, Tryd.ntmps17
        go_wp2_with fail
        refine (HFi.out _ (HV.out.non F0.out)).mono ?_
        rintro e w1 ⟨rfl, f1⟩
        have PB1 := Lib.hid (PB.out.fr f1 (fun e => e))
        have CB1 : ClB w1 (g + 1) ⟨false, 0, []⟩ := CB.out.fr f1 (fun e => e)
        have F1 := Lib.hid (F0.out.trans f1)
        have hc1 := HC.out.non F1.out
        obtain ⟨a2, rfl, -, -, hel⟩ := hc1.addr (show 0 < row.length by omega)
        obtain ⟨t0, t1, t2⟩ := (hel k hk2).lit
        obtain ⟨s0, s1, s2, z0, z1, z2⟩ := CB1.facts
        clear b0 b1 b2 b3 b4 b5 b6 b7 b8 hel hc1 f1
        generalize row[k] = y at *
        obtain ⟨yn, yi, yt⟩ := y
        dsimp only at *
        have F2 : Fr Non w (setCl w1 (g + 1) yn yi yt) := F1.out.fresh (setCl_fr _ _ _ _ _) (fun k e => by have : k = g + 1 := e; omega)
        have CB2 := setCl_B CB1 yn yi yt
        have PB2 := PB1.out.fr (setCl_fr w1 (g + 1) yn yi yt) (fun e => by have : g = g + 1 := e; omega)
        obtain ⟨d0, d1, d2, -, -, -⟩ := CB2.facts
        obtain ⟨b0, b1, b2, b3, b4, b5, b6, b7, b8⟩ := pdB_cells PB2
        dsimp only at b0 b1 b2 b3 b4 b5 b6 b7 b8 d0 d1 d2
        replace F2 := Lib.hid F2
        unfold setCl at b0 b1 b2 b3 b4 b5 b6 b7 b8 d0 d1 d2 F2
        clear CB1 CB2 PB2 PB1 CB
        unfold findI
        cases yn
        · have HE2 := Lib.hid (HW.out rfl)
          clear HZ HW
          go_wp2_with fail
          refine (HCo.out _).mono ?_
          rintro e w4 ⟨rfl, f4⟩
          have F4 := Lib.hid (F2.out.trans f4)
          clear f4
          go_wp2_with fail
          refine (HY.out _ _).mono ?_
          rintro e w5 ⟨rfl, rfl⟩
          go_wp2
          go_ret
          exact ⟨ret_int (by rw [HE.out, HE2.out]), F4.out⟩
        · have HE2 := Lib.hid (HZ.out rfl)
          clear HZ HW HCo
          go_wp2
          go_ret
          exact ⟨ret_int (by rw [HE.out, HE2.out]), F2.out⟩
      · have HE : Hid (r = yesI row[k].null) := Lib.hid (by rw [HE0.out, truH_3 ho, hcell])
        have HY := Lib.hid (fun b W => ryes_any b W)
        clear HE0 IH HK hok hty h0 hpl hr hcell hmay hq2 hq4 hf hne ha
        obtain ⟨ho_, hc, hm, ⟨vn, vi, vt⟩, hkd, hp⟩ := hd
        obtain ⟨A, n, c⟩ := t
        dsimp only at ho hn HFi hb hb2
        clear hn
        subst ho
        unfold doc20 at F0 PB CB
        unfold pdV at *
        unfold pdC kidV at *
        dsimp only at *
        generalize hg : w.heap.size = g at *
        obtain ⟨b0, b1, b2, b3, b4, b5, b6, b7, b8⟩ := pdB_cells PB.out
        dsimp only at b0 b1 b2 b3 b4 b5 b6 b7 b8
        go_enter Tryd.func17, Tryd.ntmps17
        go_wp2_with fail
        refine (HFi.out _ (HV.out.non F0.out)).mono ?_
        rintro e w1 ⟨rfl, f1⟩
        have PB1 := Lib.hid (PB.out.fr f1 (fun e => e))
        have CB1 : ClB w1 (g + 1) ⟨false, 0, []⟩ := CB.out.fr f1 (fun e => e)
        have F1 := Lib.hid (F0.out.trans f1)
        have hc1 := HC.out.non F1.out
        obtain ⟨a2, rfl, -, -, hel⟩ := hc1.addr (show 0 < row.length by omega)
        obtain ⟨t0, t1, t2⟩ := (hel k hk2).lit
        obtain ⟨s0, s1, s2, z0, z1, z2⟩ := CB1.facts
        clear b0 b1 b2 b3 b4 b5 b6 b7 b8 hel hc1 f1
        generalize row[k] = y at *
        obtain ⟨yn, yi, yt⟩ := y
        dsimp only at *
        have F2 : Fr Non w (setCl w1 (g + 1) yn yi yt) := F1.out.fresh (setCl_fr _ _ _ _ _) (fun k e => by have : k = g + 1 := e; omega)
        have CB2 := setCl_B CB1 yn yi yt
        have PB2 := PB1.out.fr (setCl_fr w1 (g + 1) yn yi yt) (fun e => by have : g = g + 1 := e; omega)
        obtain ⟨d0, d1, d2, -, -, -⟩ := CB2.facts
        obtain ⟨b0, b1, b2, b3, b4, b5, b6, b7, b8⟩ := pdB_cells PB2
        dsimp only at b0 b1 b2 b3 b4 b5 b6 b7 b8 d0 d1 d2
        replace F2 := Lib.hid F2
        unfold setCl at b0 b1 b2 b3 b4 b5 b6 b7 b8 d0 d1 d2 F2
        clear CB1 CB2 PB2 PB1 CB
        unfold findI
        go_wp2_with fail
        refine (HY.out _ _).mono ?_
        rintro e w5 ⟨rfl, rfl⟩
        go_wp2
        go_ret
        exact ⟨ret_int HE.out.symm, F2.out⟩
      · have hkt := hq4 ho
        rw [hkt] at hmay
        have htl := mayC_text hmay
        have HE : Hid (r = likR row[k] hd.pat) := Lib.hid (by rw [HE0.out, truH_4 ho, hcell])
        have HM := Lib.hid (fun W => rgmatch_any hd.pat row[k].txt W (by omega) (by omega))
        have HY := Lib.hid (fun b W => ryes_any b W)
        have HZ : Hid (row[k].null = true → likR row[k] hd.pat = 2) := Lib.hid (fun e => by unfold likR; rw [if_pos e])
        have HW : Hid (row[k].null = false → likR row[k] hd.pat = yesI (matchU hd.pat row[k].txt)) := Lib.hid (fun e => by unfold likR; rw [if_neg (by rw [e]; simp)])
        clear HE0 IH HK hok hty h0 hpl hr hcell hmay hq2 hq4 hkt hf hne ha htl
        generalize likR row[k] hd.pat = z at *
        generalize matchU hd.pat row[k].txt = ab at *
        obtain ⟨ho_, hc, hm, ⟨vn, vi, vt⟩, hkd, hp⟩ := hd
        obtain ⟨A, n, c⟩ := t
        dsimp only at ho hn HM HFi hb hb2
        clear hn
        subst ho
        unfold doc20 at F0 PB CB
        unfold pdV at *
        unfold pdC kidV at *
        dsimp only at *
        generalize hg : w.heap.size = g at *
        obtain ⟨b0, b1, b2, b3, b4, b5, b6, b7, b8⟩ := pdB_cells PB.out
        dsimp only at b0 b1 b2 b3 b4 b5 b6 b7 b8
        go_enter Tryd.func17, Tryd.ntmps17
        go_wp2_with fail
        refine (HFi.out _ (HV.out.non F0.out)).mono ?_
        rintro e w1 ⟨rfl, f1⟩
        have PB1 := Lib.hid (PB.out.fr f1 (fun e => e))
        have CB1 : ClB w1 (g + 1) ⟨false, 0, []⟩ := CB.out.fr f1 (fun e => e)
        have F1 := Lib.hid (F0.out.trans f1)
        have hc1 := HC.out.non F1.out
        obtain ⟨a2, rfl, -, -, hel⟩ := hc1.addr (show 0 < row.length by omega)
        obtain ⟨t0, t1, t2⟩ := (hel k hk2).lit
        obtain ⟨s0, s1, s2, z0, z1, z2⟩ := CB1.facts
        clear b0 b1 b2 b3 b4 b5 b6 b7 b8 hel hc1 f1
        generalize row[k] = y at *
        obtain ⟨yn, yi, yt⟩ := y
        dsimp only at *
        have F2 : Fr Non w (setCl w1 (g + 1) yn yi yt) := F1.out.fresh (setCl_fr _ _ _ _ _) (fun k e => by have : k = g + 1 := e; omega)
        have CB2 := setCl_B CB1 yn yi yt
        have PB2 := PB1.out.fr (setCl_fr w1 (g + 1) yn yi yt) (fun e => by have : g = g + 1 := e; omega)
        obtain ⟨d0, d1, d2, -, -, -⟩ := CB2.facts
        obtain ⟨b0, b1, b2, b3, b4, b5, b6, b7, b8⟩ := pdB_cells PB2
        dsimp only at b0 b1 b2 b3 b4 b5 b6 b7 b8 d0 d1 d2
        replace F2 := Lib.hid F2
        unfold setCl at b0 b1 b2 b3 b4 b5 b6 b7 b8 d0 d1 d2 F2
        clear CB1 CB2 PB2 PB1 CB
        unfold findI
        cases yn
        · have HE2 := Lib.hid (HW.out rfl)
          clear HZ HW
          go_wp2_with fail
          refine (HM.out _).mono ?_
          rintro e w4 ⟨rfl, f4⟩
          have F4 := Lib.hid (F2.out.trans f4)
          clear f4
          go_wp2_with fail
          refine (HY.out _ _).mono ?_
          rintro e w5 ⟨rfl, rfl⟩
          go_wp2
          go_ret
          exact ⟨ret_int (by rw [HE.out, HE2.out]), F4.out⟩
        · have HE2 := Lib.hid (HZ.out rfl)
          clear HZ HW HM
          go_wp2
          go_ret
          exact ⟨ret_int (by rw [HE.out, HE2.out]), F2.out⟩
    · have hk1 : 0 < ks.length := by omega
      obtain ⟨a, t', hA, hc2, hkk, _⟩ := HK.out.elN (Fr.refl Non w) 0 hk1
      have HT := Lib.hid (IH.out 0 hk1 _ t' (HV.out.non F0.out) (HC.out.non F0.out) (hkk.non F0.out))
      have HE : Hid (r = notI (truP cols row ks[0])) := Lib.hid (by
        rw [HE0.out, truH_5 ho]
        cases ks with
        | nil => simp at hk1
        | cons x l => rfl)
      have htr := tru_one cols row ks[0]
      clear HE0 IH HV HC HK hok hty hpl hr hkk
      generalize truP cols row ks[0] = z at *
      generalize ks[0].hd = x at *
      have hn1 : 0 < t.n := by omega
      clear h0 hk1
      obtain ⟨xo, xc, xm, ⟨xn, xi, xt⟩, xk, xp⟩ := x
      obtain ⟨tA, tn, tc⟩ := t'
      obtain ⟨k0, k1, k2, k3, k4, k5, k6, k7, k8⟩ := hc2
      simp only [Nat.zero_mul] at k0 k1 k2 k3 k4 k5 k6 k7 k8
      unfold doc20 at HT
      rw [addE0] at k0 k1 k2 k3 k4 k5 k6 k7 k8
      have hlt := World.block_lt_of_cell? _ _ k0
      unfold pdV at HT
      obtain ⟨ho_, hc, hm, ⟨vn, vi, vt⟩, hkd, hp⟩ := hd
      obtain ⟨A, n, c⟩ := t
      dsimp only at ho hn hco hA hn1
      clear hn
      subst ho
      unfold doc20 at F0 PB CB
      unfold pdV at *
      unfold pdC kidV at *
      dsimp only at *
      generalize hg : w.heap.size = g at *
      subst hco
      subst hA
      obtain ⟨b0, b1, b2, b3, b4, b5, b6, b7, b8⟩ := pdB_cells PB.out
      dsimp only at b0 b1 b2 b3 b4 b5 b6 b7 b8
      by_cases h2 : z = 2
      · subst h2
        go_enter Tryd.func17, Tryd.ntmps17
        go_wp2_with fail
        refine HT.out.mono ?_
        rintro e w4 ⟨rfl, f4⟩
        go_wp2
        go_ret
        exact ⟨ret_int HE.out.symm, F0.out.trans f4⟩
      · have hb : (z == 2) = false := by rw [beq_eq_false_iff_ne]; exact h2
        have HN := Lib.hid (not_sub htr h2)
        have hw : IntKind.i64.wrap (1 - z) = 1 - z := by rcases htr with rfl | rfl | rfl <;> rfl
        have hz1 : -1 ≤ z := by rcases htr with rfl | rfl | rfl <;> omega
        have hz2 : z ≤ 3 := by rcases htr with rfl | rfl | rfl <;> omega
        clear htr h2
        go_enter Tryd.func17, Tryd.ntmps17
        go_wp2_with fail
        refine HT.out.mono ?_
        rintro e w4 ⟨rfl, f4⟩
        go_wp2
        go_ret
        exact ⟨ret_int (by rw [HE.out, ← HN.out]), F0.out.trans f4⟩
    · rcases ho with ho | ho
      · have HS : Hid (∀ j bn bm bz, HasTo (ks.map (truP cols row)) j bn bm bz → t.n ≤ j → r = (if bn then 0 else if bm then 2 else 1 : Int)) := Lib.hid (fun j bn bm bz h hj => by
          rw [HE0.out, truH_6 ho]; exact (has_end h (by rw [List.length_map]; omega)).1)
        have HM : Hid (∀ j bn bm bz (h : j < ks.length), HasTo (ks.map (truP cols row)) j bn bm bz → HasTo (ks.map (truP cols row)) (j + 1) (bn || truP cols row ks[j] == 0) (bm || truP cols row ks[j] == 2) (bz || truP cols row ks[j] == 1)) := Lib.hid (fun j bn bm bz h h2 => by
          have e := has_more h2 (by rw [List.length_map]; exact h)
          rw [List.getElem_map] at e; exact e)
        have H0 := Lib.hid (has_start (ks.map (truP cols row)))
        have HY := Lib.hid (fun b W => ryes_any b W)
        have hnn : t.n ≤ 1000 := by omega
        have HL := Lib.hid hn
        clear HE0 hok hty hpl hr h0 hl
        generalize ks.map (truP cols row) = L at *
        obtain ⟨ho_, hc, hm, ⟨vn, vi, vt⟩, hkd, hp⟩ := hd
        obtain ⟨A, n, c⟩ := t
        dsimp only at ho hn hco hnn HS HL HK
        clear hn
        subst ho
        unfold doc20 at F0 PB CB
        unfold pdV at *
        unfold pdC kidV at *
        dsimp only at *
        generalize hg : w.heap.size = g at *
        subst hco
        obtain ⟨b0, b1, b2, b3, b4, b5, b6, b7, b8⟩ := pdB_cells PB.out
        dsimp only at b0 b1 b2 b3 b4 b5 b6 b7 b8
        go_enter Tryd.func17, Tryd.ntmps17
        go_wp2
        go_loopw [9, 10, 11, 12] (fun un um uz i wr => ∃ (k : Nat) (bn bm bz : Bool), k ≤ n ∧ i = .int .i64 k ∧ un = .bool bn ∧ um = .bool bm ∧ uz = .bool bz ∧ Hid (HasTo L k bn bm bz) ∧ Hid (Fr Non ((w.alloc (.cells #[.int .i64 6, .string ⟨#[]⟩, .int .i64 hm, .bool vn, .int .i64 vi, .string ⟨vt.toArray⟩, .int .i64 hkd, .string ⟨hp.toArray⟩, .slice A n c] 27)).alloc (.cells #[.bool false, .int .i64 0, .string ⟨#[]⟩] 24)) wr)) (fun _ _ _ i _ => n - (intOf i).toNat)
        case atStart => exact ⟨0, false, false, false, Nat.zero_le _, rfl, rfl, rfl, rfl, H0, Lib.hid (Fr.refl _ _)⟩
        case round =>
          clear H0 b0 b1 b2 b3 b4 b5 b6 b7 b8
          obtain ⟨k, bn, bm, bz, hk, rfl, rfl, rfl, rfl, HT, FR⟩ := hrel
          have HFw := Lib.hid (F0.out.trans FR.out)
          obtain ⟨b0, b1, b2, b3, b4, b5, b6, b7, b8⟩ := pdB_cells (PB.out.fr FR.out (fun e => e))
          dsimp only at b0 b1 b2 b3 b4 b5 b6 b7 b8
          by_cases hlt : k < n
          · have hlt2 : k < ks.length := by have := HL.out; omega
            obtain ⟨a, t, hA, hc2, hkk, _⟩ := HK.out.elN HFw.out k hlt2
            have HCa := Lib.hid (IH.out k hlt2 wr t (HV.out.non HFw.out) (HC.out.non HFw.out) (hkk.non HFw.out))
            have HN := Lib.hid (HM.out k bn bm bz hlt2 HT.out)
            dsimp only at hA
            subst hA
            obtain ⟨k0, k1, k2, k3, k4, k5, k6, k7, k8⟩ := hc2
            clear hkk HT HM HS
            generalize truP cols row ks[k] = y at *
            generalize ks[k].hd = x at *
            obtain ⟨xo, xc, xm, ⟨xn, xi, xt⟩, xk, xp⟩ := x
            obtain ⟨tA, tn, tc⟩ := t
            dsimp only at HCa k0 k1 k2 k3 k4 k5 k6 k7 k8
            cases bn <;> cases bm <;> cases bz
            all_goals
              simp only [Bool.false_or, Bool.true_or] at HN
              go_wp2_with fail
              refine HCa.out.mono ?_
              rintro e w2 ⟨rfl, f2⟩
              clear HCa
              go_wp2
              go_roundw
              case rel => exact ⟨k + 1, _, _, _, by omega, by go_num, rfl, rfl, rfl, HN, Lib.hid (FR.out.trans f2)⟩
              case measure => simp [intOf]; omega
          · have HE := Lib.hid (HS.out k bn bm bz HT.out (by omega))
            clear HT HS HM
            cases bn <;> cases bm <;> cases bz
            all_goals
              go_wp2
              first
              | (go_ret; exact ⟨ret_int HE.out.symm, HFw.out⟩)
              | (refine (HY.out _ _).mono ?_
                 rintro e w5 ⟨rfl, rfl⟩
                 go_wp2
                 go_ret
                 exact ⟨ret_int HE.out.symm, HFw.out⟩)
      · have HS : Hid (∀ j bn bm bz, HasTo (ks.map (truP cols row)) j bn bm bz → t.n ≤ j → r = (if bz then 1 else if bm then 2 else 0 : Int)) := Lib.hid (fun j bn bm bz h hj => by
          rw [HE0.out, truH_7 ho]; exact (has_end h (by rw [List.length_map]; omega)).2)
        have HM : Hid (∀ j bn bm bz (h : j < ks.length), HasTo (ks.map (truP cols row)) j bn bm bz → HasTo (ks.map (truP cols row)) (j + 1) (bn || truP cols row ks[j] == 0) (bm || truP cols row ks[j] == 2) (bz || truP cols row ks[j] == 1)) := Lib.hid (fun j bn bm bz h h2 => by
          have e := has_more h2 (by rw [List.length_map]; exact h)
          rw [List.getElem_map] at e; exact e)
        have H0 := Lib.hid (has_start (ks.map (truP cols row)))
        have HY := Lib.hid (fun b W => ryes_any b W)
        have hnn : t.n ≤ 1000 := by omega
        have HL := Lib.hid hn
        clear HE0 hok hty hpl hr h0 hl
        generalize ks.map (truP cols row) = L at *
        obtain ⟨ho_, hc, hm, ⟨vn, vi, vt⟩, hkd, hp⟩ := hd
        obtain ⟨A, n, c⟩ := t
        dsimp only at ho hn hco hnn HS HL HK
        clear hn
        subst ho
        unfold doc20 at F0 PB CB
        unfold pdV at *
        unfold pdC kidV at *
        dsimp only at *
        generalize hg : w.heap.size = g at *
        subst hco
        obtain ⟨b0, b1, b2, b3, b4, b5, b6, b7, b8⟩ := pdB_cells PB.out
        dsimp only at b0 b1 b2 b3 b4 b5 b6 b7 b8
        go_enter Tryd.func17, Tryd.ntmps17
        go_wp2
        go_loopw [9, 10, 11, 12] (fun un um uz i wr => ∃ (k : Nat) (bn bm bz : Bool), k ≤ n ∧ i = .int .i64 k ∧ un = .bool bn ∧ um = .bool bm ∧ uz = .bool bz ∧ Hid (HasTo L k bn bm bz) ∧ Hid (Fr Non ((w.alloc (.cells #[.int .i64 7, .string ⟨#[]⟩, .int .i64 hm, .bool vn, .int .i64 vi, .string ⟨vt.toArray⟩, .int .i64 hkd, .string ⟨hp.toArray⟩, .slice A n c] 27)).alloc (.cells #[.bool false, .int .i64 0, .string ⟨#[]⟩] 24)) wr)) (fun _ _ _ i _ => n - (intOf i).toNat)
        case atStart => exact ⟨0, false, false, false, Nat.zero_le _, rfl, rfl, rfl, rfl, H0, Lib.hid (Fr.refl _ _)⟩
        case round =>
          clear H0 b0 b1 b2 b3 b4 b5 b6 b7 b8
          obtain ⟨k, bn, bm, bz, hk, rfl, rfl, rfl, rfl, HT, FR⟩ := hrel
          have HFw := Lib.hid (F0.out.trans FR.out)
          obtain ⟨b0, b1, b2, b3, b4, b5, b6, b7, b8⟩ := pdB_cells (PB.out.fr FR.out (fun e => e))
          dsimp only at b0 b1 b2 b3 b4 b5 b6 b7 b8
          by_cases hlt : k < n
          · have hlt2 : k < ks.length := by have := HL.out; omega
            obtain ⟨a, t, hA, hc2, hkk, _⟩ := HK.out.elN HFw.out k hlt2
            have HCa := Lib.hid (IH.out k hlt2 wr t (HV.out.non HFw.out) (HC.out.non HFw.out) (hkk.non HFw.out))
            have HN := Lib.hid (HM.out k bn bm bz hlt2 HT.out)
            dsimp only at hA
            subst hA
            obtain ⟨k0, k1, k2, k3, k4, k5, k6, k7, k8⟩ := hc2
            clear hkk HT HM HS
            generalize truP cols row ks[k] = y at *
            generalize ks[k].hd = x at *
            obtain ⟨xo, xc, xm, ⟨xn, xi, xt⟩, xk, xp⟩ := x
            obtain ⟨tA, tn, tc⟩ := t
            dsimp only at HCa k0 k1 k2 k3 k4 k5 k6 k7 k8
            cases bn <;> cases bm <;> cases bz
            all_goals
              simp only [Bool.false_or, Bool.true_or] at HN
              go_wp2_with fail
              refine HCa.out.mono ?_
              rintro e w2 ⟨rfl, f2⟩
              clear HCa
              go_wp2
              go_roundw
              case rel => exact ⟨k + 1, _, _, _, by omega, by go_num, rfl, rfl, rfl, HN, Lib.hid (FR.out.trans f2)⟩
              case measure => simp [intOf]; omega
          · have HE := Lib.hid (HS.out k bn bm bz HT.out (by omega))
            clear HT HS HM
            cases bn <;> cases bm <;> cases bz
            all_goals
              go_wp2
              first
              | (go_ret; exact ⟨ret_int HE.out.symm, HFw.out⟩)
              | (refine (HY.out _ _).mono ?_
                 rintro e w5 ⟨rfl, rfl⟩
                 go_wp2
                 go_ret
                 exact ⟨ret_int HE.out.symm, HFw.out⟩)
end Go.Proofs.YtpmipdnmhffkeaaDoor


namespace Go.Proofs.YtpmipdnmhffkeaaDoor
set_option linter.unusedVariables false
set_option linter.unusedSimpArgs false
set_option maxRecDepth 100000
open Go.RowKit

set_option maxHeartbeats 2000000 in
theorem rrow20_any (v1 v2 : Value) (cols : List Co) (row : List Cl) (hcl : cols.length ≤ 1000) (hcb : ∀ c ∈ cols, c.name.length ≤ 1000) (h : Ph) (ks : List Pd) (t : Kv) (w : World) (h1 : Ks w v1 cols) (h2 : Cs w v2 row) (hk : Kd w t ks) (hlen : lenP (.mk h ks) = true) :
    Calls Tryd.prog 25 #[v1, pdV h t, v2] w fun e w' => e = .returned (twoV (rowE cols (.mk h ks) row)) ∧ Fr Non w w' := by
  have F0 : Fr Non w (w.alloc (.cells (pdC h t) 27)) := (Fr.refl Non w).alloc _
  have PB := Lib.hid (pd_new w _ h t rfl)
  have HF := Lib.hid (fun W (hf2 : Fr Non w W) => rfits_any cols hcl hcb v1 h t ks W (h1.non hf2) (hk.non hf2) hlen)
  have HR := Lib.hid (fun W (hf2 : Fr Non w W) => rrow_any v1 v2 cols row W (h1.non hf2) (h2.non hf2) (by omega))
  have HT : Hid (fitP cols (.mk h ks) = 0 → rowB cols row = true → ∀ W, Fr Non w W → Calls Tryd.prog 17 #[v1, pdV h t, v2] W fun e w' => e = .returned (.int .i64 (truP cols row (.mk h ks))) ∧ Fr Non W w') :=
    Lib.hid (fun hf hr W hf2 => rtruth_any v1 v2 cols row hcl hr (.mk h ks) t W (h1.non hf2) (h2.non hf2) (hk.non hf2) (big_of_len _ hlen) (fit_zero hf).2.1 (fit_zero hf).2.2)
  have HX := Lib.hid (fun e => rowE_bad (cols := cols) (p := .mk h ks) (row := row) e)
  have HX2 := Lib.hid (fun e e2 => rowE_type (cols := cols) (p := .mk h ks) (row := row) e e2)
  have HX3 := Lib.hid (fun e e2 => rowE_ok (cols := cols) (p := .mk h ks) (row := row) e e2)
  obtain ⟨A1, c1, rfl⟩ := h1.shape
  obtain ⟨A2, c2, rfl⟩ := h2.shape
  generalize fitP cols (.mk h ks) = z at *
  generalize truP cols row (.mk h ks) = y at *
  generalize rowE cols (.mk h ks) row = r at *
  clear hk hlen h1 h2
  replace F0 := Lib.hid F0
  obtain ⟨ho, hc, hm, ⟨vn, vi, vt⟩, hkd, hp⟩ := h
  obtain ⟨A, n, c⟩ := t
  unfold pdV at *
  unfold pdC kidV at *
  dsimp only at *
  by_cases hz : z = 0
  · subst hz
    clear HX
    cases hb : rowB cols row
    · have HE := Lib.hid (HX2.out rfl hb)
      simp only [hb] at HR
      clear HX2 HX3 HT hb
      go_enter Tryd.func25, Tryd.ntmps25
      go_wp2_with fail
      refine (HF.out _ F0.out).mono ?_
      rintro e w1 ⟨rfl, f1⟩
      have F1 := Lib.hid (F0.out.trans f1)
      clear f1
      go_wp2_with fail
      refine (HR.out _ F1.out).mono ?_
      rintro e w2 ⟨rfl, f2⟩
      go_wp2
      go_ret2
      exact ⟨ret_twoV HE.out, F1.out.trans f2⟩
    · have HE := Lib.hid (HX3.out rfl hb)
      replace HT := Lib.hid (HT.out rfl hb)
      simp only [hb] at HR
      clear HX2 HX3 hb
      go_enter Tryd.func25, Tryd.ntmps25
      go_wp2_with fail
      refine (HF.out _ F0.out).mono ?_
      rintro e w1 ⟨rfl, f1⟩
      have PB1 := Lib.hid (PB.out.fr f1 (fun e => e))
      have F1 := Lib.hid (F0.out.trans f1)
      clear f1
      go_wp2_with fail
      refine (HR.out _ F1.out).mono ?_
      rintro e w2 ⟨rfl, f2⟩
      obtain ⟨b0, b1, b2, b3, b4, b5, b6, b7, b8⟩ := pdB_cells (PB1.out.fr f2 (fun e => e))
      dsimp only at b0 b1 b2 b3 b4 b5 b6 b7 b8
      have F2 := Lib.hid (F1.out.trans f2)
      clear f2
      go_wp2_with fail
      refine (HT.out _ F2.out).mono ?_
      rintro e w3 ⟨rfl, f3⟩
      go_wp2
      go_ret2
      exact ⟨ret_twoV HE.out, F2.out.trans f3⟩
  · have HE := Lib.hid (HX.out hz)
    have hb : (z != 0) = true := by rw [bne_iff_ne]; exact hz
    clear HX HX2 HX3 HT hz
    go_enter Tryd.func25, Tryd.ntmps25
    go_wp2_with fail
    refine (HF.out _ F0.out).mono ?_
    rintro e w1 ⟨rfl, f1⟩
    go_wp2
    go_ret2
    exact ⟨ret_twoV HE.out, F0.out.trans f1⟩

set_option maxHeartbeats 8000000 in
theorem rrows20_any (v1 v2 : Value) (cols : List Co) (rows : List (List Cl)) (hcl : cols.length ≤ 1000) (hcb : ∀ c ∈ cols, c.name.length ≤ 1000) (h : Ph) (ks : List Pd) (t : Kv) (w : World) (h1 : Ks w v1 cols) (h2 : Rs w v2 rows) (hk : Kd w t ks) (hlen : lenP (.mk h ks) = true) (hrl : rows.length ≤ 100000) :
    Calls Tryd.prog 14 #[v1, pdV h t, v2] w fun e w' => PlcR w' (rowsE cols (.mk h ks) rows) e ∧ Fr Non w w' := by
  have F0 : Fr Non w (w.alloc (.cells (pdC h t) 27)) := (Fr.refl Non w).alloc _
  have PB := Lib.hid (pd_new w _ h t rfl)
  have HF := Lib.hid (fun W (hf2 : Fr Non w W) => rfits_any cols hcl hcb v1 h t ks W (h1.non hf2) (hk.non hf2) hlen)
  have HA : Hid (∀ row v W, Fr Non w W → Cs W v row → Calls Tryd.prog 25 #[v1, pdV h t, v] W fun e w' => e = .returned (twoV (rowE cols (.mk h ks) row)) ∧ Fr Non W w') :=
    Lib.hid (fun row v W hf2 hv => rrow20_any v1 v cols row hcl hcb h ks t W (h1.non hf2) hv (hk.non hf2) hlen)
  have HX := Lib.hid (fun e => rowsE_bad (cols := cols) (p := .mk h ks) (rows := rows) e)
  have HX2 := Lib.hid (fun a (k : Nat) b c => rowsE_type (cols := cols) (p := .mk h ks) (rows := rows) (k := k) a b c)
  have HX3 := Lib.hid (fun a (k : Nat) b c => rowsE_ok (cols := cols) (p := .mk h ks) (rows := rows) (k := k) a b c)
  have HR : Hid (Rs w v2 rows) := Lib.hid h2
  obtain ⟨A1, c1, rfl⟩ := h1.shape
  obtain ⟨A2, c2, rfl⟩ := h2.shape
  generalize rowsE cols (.mk h ks) rows = r at *
  have HP1 := Lib.hid (fun (k : Nat) a b => plc_yes (cols := cols) (p := .mk h ks) (rows := rows) (n := k) a b)
  have HP2 := Lib.hid (fun (k : Nat) a b => plc_no (cols := cols) (p := .mk h ks) (rows := rows) (n := k) a b)
  have HP3 := Lib.hid (fun (k : Nat) => plcI_len cols (.mk h ks) rows k)
  have HP0 : Hid (plcI cols (.mk h ks) rows 0 = []) := Lib.hid rfl
  have HAY := Lib.hid (fun row a b => rowE_ok (cols := cols) (p := .mk h ks) (row := row) a b)
  have HAN := Lib.hid (fun row a b => rowE_type (cols := cols) (p := .mk h ks) (row := row) a b)
  generalize fitP cols (.mk h ks) = z at *
  generalize Pd.mk h ks = p at *
  clear hk hlen h1 h2
  replace F0 := Lib.hid F0
  obtain ⟨ho, hc, hm, ⟨vn, vi, vt⟩, hkd, hp⟩ := h
  obtain ⟨A, n, c⟩ := t
  unfold pdV at *
  unfold pdC kidV at *
  dsimp only at *
  by_cases hz : z = 0
  · subst hz
    replace HX2 := Lib.hid (HX2.out rfl)
    replace HX3 := Lib.hid (HX3.out rfl)
    replace HAY := Lib.hid (fun row => HAY.out row rfl)
    replace HAN := Lib.hid (fun row => HAN.out row rfl)
    clear HX
    generalize hg : w.heap.size = g at *
    go_enter Tryd.func14, Tryd.ntmps14
    go_wp2_with fail
    refine (HF.out _ F0.out).mono ?_
    rintro e w1 ⟨rfl, f1⟩
    have PB1 := Lib.hid (PB.out.fr f1 (fun e => e))
    have F1 := Lib.hid (F0.out.trans f1)
    have H0 := Lib.hid (ow_lit0 (f := iv) (E := 3) w1 w1.heap.size w1.heap.size rfl (Nat.le_refl _))
    clear f1 HF
    go_wp2
    go_loopw [9, 10] (fun u i wr => ∃ k : Nat, k ≤ rows.length ∧ i = .int .i64 k ∧ Hid (Ow iv 3 wr w1.heap.size u (plcI cols p rows k)) ∧ Hid (∀ j (h : j < rows.length), j < k → rowB cols rows[j] = true) ∧ Hid (Fr Non w1 wr)) (fun _ i _ => rows.length - (intOf i).toNat)
    case atStart => exact ⟨0, Nat.zero_le _, rfl, Lib.hid (by rw [HP0.out]; exact H0.out), Lib.hid (fun _ _ h => by omega), Lib.hid ((Fr.refl _ _).alloc _)⟩
    case round =>
      clear H0
      rename_i u i wr
      obtain ⟨k, hk, rfl, HO, HT, FR⟩ := hrel
      have HFw := Lib.hid (F1.out.trans FR.out)
      obtain ⟨uA, uc, rfl⟩ := HO.out.shape
      by_cases hlt : k < rows.length
      · obtain ⟨a, A', c', rfl, -, q1, hc1⟩ := (HR.out.non HFw.out).el k hlt
        obtain ⟨b0, b1, b2, b3, b4, b5, b6, b7, b8⟩ := pdB_cells (PB1.out.fr FR.out (fun e => e))
        dsimp only at b0 b1 b2 b3 b4 b5 b6 b7 b8
        have HAk := Lib.hid (HA.out _ _ wr.drew HFw.out.drew (hc1.non (Fr.refl Non wr).drew))
        have HXk := Lib.hid (HX2.out k hlt)
        have HYk := Lib.hid (fun e => rows_more (cols := cols) HT.out hlt e)
        have HPy := Lib.hid (HP1.out k hlt)
        have HPn := Lib.hid (HP2.out k hlt)
        have HAy := Lib.hid (HAY.out rows[k])
        have HAn := Lib.hid (HAN.out rows[k])
        have hpl := HP3.out k
        clear hc1 HT HX3 HX2 HA HP1 HP2 HAY HAN HP0 HP3
        generalize truP cols rows[k] p = y at *
        generalize rowE cols p rows[k] = s at *
        cases hbb : rowB cols rows[k]
        · have HE := Lib.hid (HXk.out hbb)
          have hs := HAn.out hbb
          subst hs
          unfold twoV at HAk
          dsimp only at HAk
          clear HXk HYk HAy HAn hbb HPy HPn hpl
          go_wp2
          refine wp_region_held_drew (S := (fun W' => W'.cell? ⟨g, 0, none⟩ = some (.int .i64 ho) ∧ W'.cell? ⟨g, 1, none⟩ = some (.string ⟨hc.toArray⟩) ∧ W'.cell? ⟨g, 2, none⟩ = some (.int .i64 hm) ∧ W'.cell? ⟨g, 3, none⟩ = some (.bool vn) ∧ W'.cell? ⟨g, 4, none⟩ = some (.int .i64 vi) ∧ W'.cell? ⟨g, 5, none⟩ = some (.string ⟨vt.toArray⟩) ∧ W'.cell? ⟨g, 6, none⟩ = some (.int .i64 hkd) ∧ W'.cell? ⟨g, 7, none⟩ = some (.string ⟨hp.toArray⟩) ∧ W'.cell? ⟨g, 8, none⟩ = some (.slice A n c) ∧ W'.cell? (a.add k) = some (.slice A' rows[k].length c'))) (by kernel_rfl) (by exact ⟨b0, b1, b2, b3, b4, b5, b6, b7, b8, q1⟩) (fun hHeld => ?_)
          refine wpAnyH_take (i := 0) (oi := ⟨some 27, _, _, _, _, none⟩) (v := ?v1) rfl (by kernel_rfl) (by kernel_rfl) (by kernel_rfl) (fun _ _ _ h => h) (Or.inl ⟨by rfl, ?hy1⟩) (by assumption) ?rest1
          case hy1 => (intro wS hSw; (try dsimp only at hSw); go_simp; (try with_reducible rfl))
          (try simp only [Act.put, List.setIfInBounds_toArray, List.set_cons_zero, List.set_cons_succ])
          refine wpAnyH_take (i := 1) (oi := ⟨some 28, _, _, _, _, none⟩) (v := ?v2) rfl (by kernel_rfl) (by kernel_rfl) (by kernel_rfl) (fun _ _ _ h => h) (Or.inl ⟨by rfl, ?hy2⟩) (by assumption) ?rest2
          case hy2 => (intro wS hSw; (try dsimp only at hSw); go_simp; (try with_reducible rfl))
          (try simp only [Act.put, List.setIfInBounds_toArray, List.set_cons_zero, List.set_cons_succ])
          refine wpAnyH_take (i := 2) (oi := ⟨some 29, _, _, _, _, none⟩) (v := ?v3) rfl (by kernel_rfl) (by kernel_rfl) (by kernel_rfl) (fun _ _ _ h => h) (Or.inl ⟨by rfl, ?hy3⟩) (by assumption) ?rest3
          case hy3 => (intro wS hSw; (try dsimp only at hSw); go_simp; (try with_reducible rfl))
          (try simp only [Act.put, List.setIfInBounds_toArray, List.set_cons_zero, List.set_cons_succ])
          refine wpAnyH_take (i := 3) (oi := ⟨some 30, _, _, _, _, none⟩) (v := ?v4) rfl (by kernel_rfl) (by kernel_rfl) (by kernel_rfl) (fun _ _ _ h => h) (Or.inl ⟨by rfl, ?hy4⟩) (by assumption) ?rest4
          case hy4 => (intro wS hSw; (try dsimp only at hSw); go_simp; (try with_reducible rfl))
          (try simp only [Act.put, List.setIfInBounds_toArray, List.set_cons_zero, List.set_cons_succ])
          refine wpAnyH_take (i := 4) (oi := ⟨some 31, _, _, _, _, none⟩) (v := ?v5) rfl (by kernel_rfl) (by kernel_rfl) (by kernel_rfl) (fun _ _ _ h => h) (Or.inl ⟨by rfl, ?hy5⟩) (by assumption) ?rest5
          case hy5 => (intro wS hSw; (try dsimp only at hSw); go_simp; (try with_reducible rfl))
          (try simp only [Act.put, List.setIfInBounds_toArray, List.set_cons_zero, List.set_cons_succ])
          refine wpAnyH_take (i := 5) (oi := ⟨some 32, _, _, _, _, none⟩) (v := ?v6) rfl (by kernel_rfl) (by kernel_rfl) (by kernel_rfl) (fun _ _ _ h => h) (Or.inl ⟨by rfl, ?hy6⟩) (by assumption) ?rest6
          case hy6 => (intro wS hSw; (try dsimp only at hSw); go_simp; (try with_reducible rfl))
          (try simp only [Act.put, List.setIfInBounds_toArray, List.set_cons_zero, List.set_cons_succ])
          refine wpAnyH_ready (rs := [6]) (by kernel_rfl) (by simp) ?_
          refine AllReadyH.cons (o := ⟨some 33, _, _, _, _, none⟩) rfl (fun K hK => ?_) AllReadyH.nil
          go_simp
          go_at_call 25
          refine (HAk.out).mono ?_
          rintro e w4 ⟨rfl, f4⟩
          have PB4 := Lib.hid ((PB1.out.fr FR.out (fun e => e)).fr ((Fr.refl Non wr).drew.trans f4) (fun e => e))
          have q4 := (f4.cell (World.block_lt_of_cell? _ _ (show wr.drew.cell? _ = _ from q1)) (fun e => e)).trans (show wr.drew.cell? _ = _ from q1)
          clear b0 b1 b2 b3 b4 b5 b6 b7 b8
          obtain ⟨b0, b1, b2, b3, b4, b5, b6, b7, b8⟩ := pdB_cells PB4.out
          dsimp only at b0 b1 b2 b3 b4 b5 b6 b7 b8

          go_wp2_with fail
          refine hK.out _ _ (by exact ⟨b0, b1, b2, b3, b4, b5, b6, b7, b8, q4⟩) (fun hHeld => ?_)
          clear hK K
          (try simp only [Act.put, List.setIfInBounds_toArray, List.set_cons_zero, List.set_cons_succ])
          refine wpAnyH_take (i := 7) (oi := ⟨some 26, _, _, _, _, none⟩) (v := ?v7) rfl (by kernel_rfl) (by kernel_rfl) (by kernel_rfl) (fun _ _ _ h => h) (Or.inl ⟨by rfl, ?hy7⟩) (by assumption) ?rest7
          case hy7 => (intro wS hSw; (try dsimp only at hSw); go_simp; (try with_reducible rfl))
          (try simp only [Act.put, List.setIfInBounds_toArray, List.set_cons_zero, List.set_cons_succ])
          refine wpAnyH_take (i := 8) (oi := ⟨some 34, _, _, _, _, none⟩) (v := ?v8) rfl (by kernel_rfl) (by kernel_rfl) (by kernel_rfl) (fun _ _ _ h => h) (Or.inl ⟨by rfl, ?hy8⟩) (by assumption) ?rest8
          case hy8 => (intro wS hSw; (try dsimp only at hSw); go_simp; (try with_reducible rfl))
          (try simp only [Act.put, List.setIfInBounds_toArray, List.set_cons_zero, List.set_cons_succ])
          refine wpAnyH_take (i := 9) (oi := ⟨some 35, _, _, _, _, none⟩) (v := ?v9) rfl (by kernel_rfl) (by kernel_rfl) (by kernel_rfl) (fun _ _ _ h => h) (Or.inl ⟨by rfl, ?hy9⟩) (by assumption) ?rest9
          case hy9 => (intro wS hSw; (try dsimp only at hSw); go_simp; (try with_reducible rfl))
          (try simp only [Act.put, List.setIfInBounds_toArray, List.set_cons_zero, List.set_cons_succ])
          refine wpAnyH_take (i := 10) (oi := ⟨some 11, _, _, _, _, none⟩) (v := ?v10) rfl (by kernel_rfl) (by kernel_rfl) (by kernel_rfl) (fun _ _ _ h => h) (Or.inl ⟨by rfl, ?hy10⟩) (by assumption) ?rest10
          case hy10 => (intro wS hSw; (try dsimp only at hSw); go_simp; (try with_reducible rfl))
          (try simp only [Act.put, List.setIfInBounds_toArray, List.set_cons_zero, List.set_cons_succ])
          refine wpAnyH_take (i := 11) (oi := ⟨some 12, _, _, _, _, none⟩) (v := ?v11) rfl (by kernel_rfl) (by kernel_rfl) (by kernel_rfl) (fun _ _ _ h => h) (Or.inl ⟨by rfl, ?hy11⟩) (by assumption) ?rest11
          case hy11 => (intro wS hSw; (try dsimp only at hSw); go_simp; (try with_reducible rfl))
          (try simp only [Act.put, List.setIfInBounds_toArray, List.set_cons_zero, List.set_cons_succ])
          refine wpAnyH_done (by kernel_rfl) ?_ _
          have F2 := Lib.hid (FR.out.trans ((Fr.refl Non wr).drew.trans f4))
          clear b0 b1 b2 b3 b4 b5 b6 b7 b8 q4 q1
          go_wp2
          go_ret2
          exact ⟨plcR_no HE.out, F1.out.trans F2.out⟩
        · have HE := Lib.hid (HYk.out hbb)
          have hs := HAy.out hbb
          subst hs
          unfold twoV at HAk
          dsimp only at HAk
          clear HXk HYk HAy HAn hbb
          go_wp2
          refine wp_region_held_drew (S := (fun W' => W'.cell? ⟨g, 0, none⟩ = some (.int .i64 ho) ∧ W'.cell? ⟨g, 1, none⟩ = some (.string ⟨hc.toArray⟩) ∧ W'.cell? ⟨g, 2, none⟩ = some (.int .i64 hm) ∧ W'.cell? ⟨g, 3, none⟩ = some (.bool vn) ∧ W'.cell? ⟨g, 4, none⟩ = some (.int .i64 vi) ∧ W'.cell? ⟨g, 5, none⟩ = some (.string ⟨vt.toArray⟩) ∧ W'.cell? ⟨g, 6, none⟩ = some (.int .i64 hkd) ∧ W'.cell? ⟨g, 7, none⟩ = some (.string ⟨hp.toArray⟩) ∧ W'.cell? ⟨g, 8, none⟩ = some (.slice A n c) ∧ W'.cell? (a.add k) = some (.slice A' rows[k].length c'))) (by kernel_rfl) (by exact ⟨b0, b1, b2, b3, b4, b5, b6, b7, b8, q1⟩) (fun hHeld => ?_)
          refine wpAnyH_take (i := 0) (oi := ⟨some 27, _, _, _, _, none⟩) (v := ?v12) rfl (by kernel_rfl) (by kernel_rfl) (by kernel_rfl) (fun _ _ _ h => h) (Or.inl ⟨by rfl, ?hy12⟩) (by assumption) ?rest12
          case hy12 => (intro wS hSw; (try dsimp only at hSw); go_simp; (try with_reducible rfl))
          (try simp only [Act.put, List.setIfInBounds_toArray, List.set_cons_zero, List.set_cons_succ])
          refine wpAnyH_take (i := 1) (oi := ⟨some 28, _, _, _, _, none⟩) (v := ?v13) rfl (by kernel_rfl) (by kernel_rfl) (by kernel_rfl) (fun _ _ _ h => h) (Or.inl ⟨by rfl, ?hy13⟩) (by assumption) ?rest13
          case hy13 => (intro wS hSw; (try dsimp only at hSw); go_simp; (try with_reducible rfl))
          (try simp only [Act.put, List.setIfInBounds_toArray, List.set_cons_zero, List.set_cons_succ])
          refine wpAnyH_take (i := 2) (oi := ⟨some 29, _, _, _, _, none⟩) (v := ?v14) rfl (by kernel_rfl) (by kernel_rfl) (by kernel_rfl) (fun _ _ _ h => h) (Or.inl ⟨by rfl, ?hy14⟩) (by assumption) ?rest14
          case hy14 => (intro wS hSw; (try dsimp only at hSw); go_simp; (try with_reducible rfl))
          (try simp only [Act.put, List.setIfInBounds_toArray, List.set_cons_zero, List.set_cons_succ])
          refine wpAnyH_take (i := 3) (oi := ⟨some 30, _, _, _, _, none⟩) (v := ?v15) rfl (by kernel_rfl) (by kernel_rfl) (by kernel_rfl) (fun _ _ _ h => h) (Or.inl ⟨by rfl, ?hy15⟩) (by assumption) ?rest15
          case hy15 => (intro wS hSw; (try dsimp only at hSw); go_simp; (try with_reducible rfl))
          (try simp only [Act.put, List.setIfInBounds_toArray, List.set_cons_zero, List.set_cons_succ])
          refine wpAnyH_take (i := 4) (oi := ⟨some 31, _, _, _, _, none⟩) (v := ?v16) rfl (by kernel_rfl) (by kernel_rfl) (by kernel_rfl) (fun _ _ _ h => h) (Or.inl ⟨by rfl, ?hy16⟩) (by assumption) ?rest16
          case hy16 => (intro wS hSw; (try dsimp only at hSw); go_simp; (try with_reducible rfl))
          (try simp only [Act.put, List.setIfInBounds_toArray, List.set_cons_zero, List.set_cons_succ])
          refine wpAnyH_take (i := 5) (oi := ⟨some 32, _, _, _, _, none⟩) (v := ?v17) rfl (by kernel_rfl) (by kernel_rfl) (by kernel_rfl) (fun _ _ _ h => h) (Or.inl ⟨by rfl, ?hy17⟩) (by assumption) ?rest17
          case hy17 => (intro wS hSw; (try dsimp only at hSw); go_simp; (try with_reducible rfl))
          (try simp only [Act.put, List.setIfInBounds_toArray, List.set_cons_zero, List.set_cons_succ])
          refine wpAnyH_ready (rs := [6]) (by kernel_rfl) (by simp) ?_
          refine AllReadyH.cons (o := ⟨some 33, _, _, _, _, none⟩) rfl (fun K hK => ?_) AllReadyH.nil
          go_simp
          go_at_call 25
          refine (HAk.out).mono ?_
          rintro e w4 ⟨rfl, f4⟩
          have PB4 := Lib.hid ((PB1.out.fr FR.out (fun e => e)).fr ((Fr.refl Non wr).drew.trans f4) (fun e => e))
          have q4 := (f4.cell (World.block_lt_of_cell? _ _ (show wr.drew.cell? _ = _ from q1)) (fun e => e)).trans (show wr.drew.cell? _ = _ from q1)
          clear b0 b1 b2 b3 b4 b5 b6 b7 b8
          obtain ⟨b0, b1, b2, b3, b4, b5, b6, b7, b8⟩ := pdB_cells PB4.out
          dsimp only at b0 b1 b2 b3 b4 b5 b6 b7 b8

          go_wp2_with fail
          refine hK.out _ _ (by exact ⟨b0, b1, b2, b3, b4, b5, b6, b7, b8, q4⟩) (fun hHeld => ?_)
          clear hK K
          (try simp only [Act.put, List.setIfInBounds_toArray, List.set_cons_zero, List.set_cons_succ])
          refine wpAnyH_take (i := 7) (oi := ⟨some 26, _, _, _, _, none⟩) (v := ?v18) rfl (by kernel_rfl) (by kernel_rfl) (by kernel_rfl) (fun _ _ _ h => h) (Or.inl ⟨by rfl, ?hy18⟩) (by assumption) ?rest18
          case hy18 => (intro wS hSw; (try dsimp only at hSw); go_simp; (try with_reducible rfl))
          (try simp only [Act.put, List.setIfInBounds_toArray, List.set_cons_zero, List.set_cons_succ])
          refine wpAnyH_take (i := 8) (oi := ⟨some 34, _, _, _, _, none⟩) (v := ?v19) rfl (by kernel_rfl) (by kernel_rfl) (by kernel_rfl) (fun _ _ _ h => h) (Or.inl ⟨by rfl, ?hy19⟩) (by assumption) ?rest19
          case hy19 => (intro wS hSw; (try dsimp only at hSw); go_simp; (try with_reducible rfl))
          (try simp only [Act.put, List.setIfInBounds_toArray, List.set_cons_zero, List.set_cons_succ])
          refine wpAnyH_take (i := 9) (oi := ⟨some 35, _, _, _, _, none⟩) (v := ?v20) rfl (by kernel_rfl) (by kernel_rfl) (by kernel_rfl) (fun _ _ _ h => h) (Or.inl ⟨by rfl, ?hy20⟩) (by assumption) ?rest20
          case hy20 => (intro wS hSw; (try dsimp only at hSw); go_simp; (try with_reducible rfl))
          (try simp only [Act.put, List.setIfInBounds_toArray, List.set_cons_zero, List.set_cons_succ])
          refine wpAnyH_take (i := 10) (oi := ⟨some 11, _, _, _, _, none⟩) (v := ?v21) rfl (by kernel_rfl) (by kernel_rfl) (by kernel_rfl) (fun _ _ _ h => h) (Or.inl ⟨by rfl, ?hy21⟩) (by assumption) ?rest21
          case hy21 => (intro wS hSw; (try dsimp only at hSw); go_simp; (try with_reducible rfl))
          (try simp only [Act.put, List.setIfInBounds_toArray, List.set_cons_zero, List.set_cons_succ])
          refine wpAnyH_take (i := 11) (oi := ⟨some 12, _, _, _, _, none⟩) (v := ?v22) rfl (by kernel_rfl) (by kernel_rfl) (by kernel_rfl) (fun _ _ _ h => h) (Or.inl ⟨by rfl, ?hy22⟩) (by assumption) ?rest22
          case hy22 => (intro wS hSw; (try dsimp only at hSw); go_simp; (try with_reducible rfl))
          (try simp only [Act.put, List.setIfInBounds_toArray, List.set_cons_zero, List.set_cons_succ])
          refine wpAnyH_done (by kernel_rfl) ?_ _
          have F2 := Lib.hid (FR.out.trans ((Fr.refl Non wr).drew.trans f4))
          clear b0 b1 b2 b3 b4 b5 b6 b7 b8 q4 q1
          have hO2 := HO.out.non ((Fr.refl Non wr).drew.trans f4)
          have hB2 : w1.heap.size ≤ w4.heap.size := F2.out.size
          clear f4 HAk PB4 hHeld
          by_cases hy : y = 1
          · subst hy
            have HPk := Lib.hid (HPy.out rfl)
            clear HPy HPn
            generalize plcI cols p rows k = L at *
            go_wp2_with (at_builtin; refine wpList_pushG el_int iv_oneC rfl (.tmp 41) (.tmp 43) rfl w1.heap.size _ L rfl hO2 _ (k : Int) rfl rfl (by omega) hB2 ?_; intro v3 w3 hown3 hfr3)
            go_roundw
            case rel => exact ⟨k + 1, by omega, by go_num, Lib.hid (by rw [HPk.out]; exact hown3), HE, Lib.hid (F2.out.fresh hfr3 fun q hq => (hO2.lt q hq).1)⟩
            case measure => simp [intOf]; omega
          · have HPk := Lib.hid (HPn.out hy)
            have hb1 : (y == 1) = false := by rw [beq_eq_false_iff_ne]; exact hy
            clear HPy HPn hy
            go_wp2
            go_roundw
            case rel => exact ⟨k + 1, by omega, by go_num, Lib.hid (by rw [HPk.out]; exact hO2), HE, F2⟩
            case measure => simp [intOf]; omega
      · have HE := Lib.hid (HX3.out k (by omega) HT.out)
        have hkl : k = rows.length := by omega
        subst hkl
        clear HT
        go_wp2
        go_ret2
        exact ⟨plcR_yes HE.out HO.out.vs, HFw.out⟩
  · have HE := Lib.hid (HX.out hz)
    have hb : (z != 0) = true := by rw [bne_iff_ne]; exact hz
    clear HX HA hz HX2 HX3
    go_enter Tryd.func14, Tryd.ntmps14
    go_wp2_with fail
    refine (HF.out _ F0.out).mono ?_
    rintro e w1 ⟨rfl, f1⟩
    go_wp2
    go_ret2
    exact ⟨plcR_no HE.out, F0.out.trans f1⟩
end Go.Proofs.YtpmipdnmhffkeaaDoor


namespace Go.Proofs.YtpmipdnmhffkeaaDoor
set_option linter.unusedVariables false
set_option linter.unusedSimpArgs false
set_option maxRecDepth 100000
open Go.RowKit

set_option maxHeartbeats 1000000 in
theorem smallC_any (v : Value) (l : List Cl) (w : World) (hv : Cs w v l) :
    Calls Tryd.prog 24 #[v] w fun e w' => ∃ b, e = .returned (.bool b) ∧ (b = true → l.length ≤ 100) ∧ Fr Non w w' := by
  obtain ⟨A, c, rfl, hlc, hn, hcell⟩ := hv
  have HC := Lib.hid hcell
  have HN := Lib.hid hn
  clear hcell hn
  go_enter Tryd.func24, Tryd.ntmps24
  go_wp2
  go_loopw [3] (fun i wr => ∃ (k : Nat), k ≤ l.length ∧ k ≤ 200 ∧ i = .int .i64 k ∧ Fr Non w wr) (fun i _ => 200 - (intOf i).toNat)
  case atStart => exact ⟨0, Nat.zero_le _, Nat.zero_le _, rfl, Fr.refl _ _⟩
  case round =>
    obtain ⟨k, hk, hk2, rfl, hfr⟩ := hrel
    by_cases hlt : k < l.length
    · by_cases h200 : k < 200
      · cases A with
        | none => have := HN.out rfl; omega
        | some a =>
          obtain ⟨hc0, hc1, hc2⟩ := (hfr.at3 (HC.out a rfl k hlt)).lit
          generalize l[k] = x at *
          obtain ⟨xn, xi, xt⟩ := x
          dsimp only at hc0 hc1 hc2
          have hs := slen xt
          by_cases hx : 60 < xt.length
          · go_wp2
            go_ret
            exact ⟨false, rfl, (fun h => by cases h), hfr⟩
          · go_wp2
            go_roundw
            case rel => exact ⟨k + 1, by omega, by omega, by go_num, hfr⟩
            case measure => simp [intOf]; omega
      · go_wp2
        go_ret
        exact ⟨_, rfl, (fun h => by have := of_decide_eq_true h; omega), hfr⟩
    · go_wp2
      go_ret
      exact ⟨_, rfl, (fun h => by have := of_decide_eq_true h; omega), hfr⟩
end Go.Proofs.YtpmipdnmhffkeaaDoor


namespace Go.Proofs.YtpmipdnmhffkeaaDoor
set_option linter.unusedVariables false
set_option linter.unusedSimpArgs false
set_option maxRecDepth 100000
open Go.RowKit

/-- what Small answers -/
def SmR (cols : List Co) (rows : List (List Cl)) (e : Ending) : Prop := ∃ s, e = .returned (.bool s) ∧ (s = true → cols.length ≤ 20 ∧ (∀ c ∈ cols, c.name.length ≤ 100) ∧ rows.length ≤ 210)
theorem smR_no {cols : List Co} {rows : List (List Cl)} : SmR cols rows (.returned (.bool false)) := ⟨false, rfl, fun h => by cases h⟩
theorem smR_yes {cols : List Co} {rows : List (List Cl)} (h : cols.length ≤ 20 ∧ (∀ c ∈ cols, c.name.length ≤ 100) ∧ rows.length ≤ 210) : SmR cols rows (.returned (.bool true)) := ⟨true, rfl, fun _ => h⟩

set_option maxHeartbeats 2000000 in
theorem small13_any (v1 v2 : Value) (cols : List Co) (rows : List (List Cl)) (w : World) (h1 : Ks w v1 cols) (h2 : Rs w v2 rows) :
    Calls Tryd.prog 13 #[v1, v2] w fun e w' => SmR cols rows e ∧ Fr Non w w' := by
  obtain ⟨A1, c1, rfl⟩ := h1.shape
  obtain ⟨A2, c2, rfl⟩ := h2.shape
  have H1 := Lib.hid h1
  have H2 := Lib.hid h2
  clear h1 h2
  go_enter Tryd.func13, Tryd.ntmps13
  go_wp2
  go_loopw [5] (fun i wr => ∃ k : Nat, k ≤ rows.length ∧ k ≤ 250 ∧ i = .int .i64 k ∧ Fr Non w wr) (fun i _ => 250 - (intOf i).toNat)
  case atStart => exact ⟨0, Nat.zero_le _, Nat.zero_le _, rfl, Fr.refl _ _⟩
  case round =>
    obtain ⟨k, hk, hk2, rfl, hF⟩ := hrel
    have HF := Lib.hid hF
    by_cases hgo : k < rows.length ∧ k < 250
    · obtain ⟨hlt, h250⟩ := hgo
      obtain ⟨a, A', c', rfl, _, q1, hc1⟩ := (H2.out.non hF).el k hlt
      have HS := Lib.hid (smallC_any _ rows[k] wr hc1)
      clear hF hc1
      generalize rows[k] = r at *
      by_cases hr : 10 < r.length
      · have d1 : decide (10 < (r.length : Int)) = true := decide_eq_true (by omega)
        clear hr HS
        go_wp2
        go_ret
        exact ⟨smR_no, HF.out⟩
      · have d1 : decide (10 < (r.length : Int)) = false := decide_eq_false (by omega)
        clear hr
        go_wp2_with fail
        refine HS.out.mono ?_
        rintro e w2 ⟨s, rfl, _, f2⟩
        have HF2 := Lib.hid (HF.out.trans f2)
        clear HS HF f2
        cases s with
        | true =>
          go_wp2
          go_roundw
          case rel => exact ⟨k + 1, by omega, by omega, by go_num, HF2.out⟩
          case measure => simp [intOf]; omega
        | false =>
          go_wp2
          go_ret
          exact ⟨smR_no, HF2.out⟩
    · have HK := Lib.hid (ksmall_any _ cols wr (H1.out.non hF))
      have HGo := Lib.hid hgo
      clear hF
      by_cases hlt : k < rows.length
      · have h250 : ¬ k < 250 := fun h => hgo ⟨hlt, h⟩
        clear hgo
        go_wp2_with fail
        refine HK.out.mono ?_
        rintro e w2 ⟨s, rfl, hs, f2⟩
        have HF2 := Lib.hid (HF.out.trans f2)
        have HSs := Lib.hid hs
        clear HK hs f2
        cases s with
        | true =>
          have d2 : decide ((rows.length : Int) ≤ 210) = false := decide_eq_false (by omega)
          go_wp2
          go_ret
          exact ⟨smR_no, HF2.out⟩
        | false =>
          go_wp2
          go_ret
          exact ⟨smR_no, HF2.out⟩
      · clear hgo
        go_wp2_with fail
        refine HK.out.mono ?_
        rintro e w2 ⟨s, rfl, hs, f2⟩
        have HF2 := Lib.hid (HF.out.trans f2)
        have HSs := Lib.hid hs
        clear HK hs f2
        cases s with
        | true =>
          by_cases h210 : rows.length ≤ 210
          · have d2 : decide ((rows.length : Int) ≤ 210) = true := decide_eq_true (by omega)
            go_wp2
            go_ret
            exact ⟨smR_yes ⟨(HSs.out (by first | rfl | trivial)).1, (HSs.out (by first | rfl | trivial)).2, h210⟩, HF2.out⟩
          · have d2 : decide ((rows.length : Int) ≤ 210) = false := decide_eq_false (by omega)
            go_wp2
            go_ret
            exact ⟨smR_no, HF2.out⟩
        | false =>
          go_wp2
          go_ret
          exact ⟨smR_no, HF2.out⟩
end Go.Proofs.YtpmipdnmhffkeaaDoor


namespace Go.Proofs.YtpmipdnmhffkeaaDoor
set_option linter.unusedVariables false
set_option linter.unusedSimpArgs false
set_option maxRecDepth 100000
open Go.RowKit

theorem hasT_0 {a b c : Bool} (h : hasT ⟨a, b, c⟩ 0 = true) : b = true := h
theorem hasT_1 {a b c : Bool} (h : hasT ⟨a, b, c⟩ 1 = true) : a = true := h
theorem hasT_2 {a b c : Bool} (h : hasT ⟨a, b, c⟩ 2 = true) : c = true := h

set_option maxHeartbeats 8000000 in
theorem pruneSafe_walk (v0 v2 : Value) (cols : List Co) (h : Ph) (t : Kv) (ks : List Pd) (rows : List (List Cl)) (w : World) (h0 : Ks w v0 cols) (hk : Kd w t ks) (hb : I64b h.val.num) (h2 : Rs w v2 rows) (hT : OppT w) :
    Calls Tryd.prog 4 #[v0, pdV h t, v2] w fun e w' => e = .returned (.bool true) ∧ Below w.heap.size w w' := by
  have F00 : Fr Non w (w.alloc (.cells (pdC h t) 27)) := (Fr.refl Non w).alloc _
  have PB0 := Lib.hid (pd_new w _ h t rfl)
  have S1 := Lib.hid (small13_any v0 v2 cols rows _ (h0.non F00) (h2.non F00))
  have S2 := Lib.hid (fun W hk => rpsmall_any (.mk h ks) t 9 9 W rfl (by omega) hk)
  have A1 : Hid (lenP (.mk h ks) = true → depP (.mk h ks) ≤ 9 → (cols.length ≤ 20 ∧ (∀ c ∈ cols, c.name.length ≤ 100) ∧ rows.length ≤ 210) → ∀ v Z W, Fr Non w W → Zs W v Z → Calls Tryd.prog 9 #[v0, pdV h t, v] W fun e w' => e = .returned (askV (prnE cols (.mk h ks) Z)) ∧ Fr Non W w') :=
    Lib.hid (fun a b c v Z W hf hz => pzask_any v0 v cols Z (by omega) (fun x hx => by have := c.2.1 x hx; omega) h ks t W (h0.non hf) hz (hT.non hf) (hk.non hf) hb (big_of_len _ a) (by omega))
  have A2 : Hid (lenP (.mk h ks) = true → (cols.length ≤ 20 ∧ (∀ c ∈ cols, c.name.length ≤ 100) ∧ rows.length ≤ 210) → ∀ W, Fr Non w W → Calls Tryd.prog 14 #[v0, pdV h t, v2] W fun e w' => PlcR w' (rowsE cols (.mk h ks) rows) e ∧ Fr Non W w') :=
    Lib.hid (fun a c W hf => rrows20_any v0 v2 cols rows (by omega) (fun x hx => by have := c.2.1 x hx; omega) h ks t W (h0.non hf) (h2.non hf) (hk.non hf) a (by omega))
  have A3 : Hid (lenP (.mk h ks) = true → depP (.mk h ks) ≤ 9 → (cols.length ≤ 20 ∧ (∀ c ∈ cols, c.name.length ≤ 100) ∧ rows.length ≤ 210) → ∀ v Z W, Fr Non w W → Zs W v Z → Calls Tryd.prog 12 #[v0, pdV h t, v] W fun e w' => e = .returned (.bool (skpE cols (.mk h ks) Z)) ∧ Fr Non W w') :=
    Lib.hid (fun a b c v Z W hf hz => pzskip_any v0 v cols Z (by omega) (fun x hx => by have := c.2.1 x hx; omega) h ks t W (h0.non hf) hz (hT.non hf) (hk.non hf) hb (big_of_len _ a) (by omega))
  have A4 : Hid (lenP (.mk h ks) = true → (cols.length ≤ 20 ∧ (∀ c ∈ cols, c.name.length ≤ 100) ∧ rows.length ≤ 210) → fitP cols (.mk h ks) = 0 → ∀ v row W, rowB cols row = true → Fr Non w W → Cs W v row → Calls Tryd.prog 17 #[v0, pdV h t, v] W fun e w' => e = .returned (.int .i64 (truP cols row (.mk h ks))) ∧ Fr Non W w') :=
    Lib.hid (fun a c f v row W hr hf hv => rtruth_any v0 v cols row (by omega) hr (.mk h ks) t W (h0.non hf) hv (hk.non hf) (big_of_len _ a) (fit_zero f).2.1 (fit_zero f).2.2)
  have A5 : Hid (rows.length ≤ 210 → ∀ (i : Nat) W, (∀ r ∈ rows, i < r.length) → Fr Non w W → Calls Tryd.prog 16 #[v2, .int .i64 i] W fun e w' => ∃ u, e = .returned u ∧ Oc w' W.heap.size u (colC rows i) ∧ Fr Non W w') :=
    Lib.hid (fun a i W hr hf => rcells_any v2 rows i W (h2.non hf) (by omega) hr)
  have HRz := Lib.hid (fun e => rowsE_zero (cols := cols) (p := .mk h ks) (rows := rows) e)
  have HSf := Lib.hid (fun zs a b c d e => safe_all (cols := cols) (zs := zs) (rows := rows) (p := .mk h ks) a b c d e)
  have HSk := Lib.hid (fun zs a b e => skpE_is (cols := cols) (p := .mk h ks) (zs := zs) (t := a) (e := b) e)
  have HTr := Lib.hid (fun row => tru_one cols row (.mk h ks))
  dsimp only [Pd.hd, Pd.kids] at S2
  generalize rowsE cols (.mk h ks) rows = r at *
  generalize lenP (.mk h ks) = lb at *
  generalize depP (.mk h ks) = db at *
  have HK : Hid (Kd w t ks) := Lib.hid hk
  generalize Pd.mk h ks = p at *
  have HR : Hid (Rs w v2 rows) := Lib.hid h2
  have HLi := Lib.hid (fun W (hf : Fr Non w W) => live21_any W (hT.non hf))
  have HN := Lib.hid (fun z W => num21_any z W)
  obtain ⟨A0, c0, rfl⟩ := h0.shape
  obtain ⟨A2_, c2, rfl⟩ := h2.shape
  replace F00 := Lib.hid F00
  clear hk h0 h2 hb hT
  obtain ⟨ho, hc, hm, ⟨vn, vi, vt⟩, hkd, hp⟩ := h
  obtain ⟨A, n, c⟩ := t
  unfold pdV at *
  unfold pdC kidV at *
  dsimp only at *
  generalize hg : w.heap.size = g at *
  go_enter Tryd.func4, Tryd.ntmps4
  go_wp2_with fail
  refine S1.out.mono ?_
  rintro e w1 ⟨⟨s1, rfl, hs1⟩, f1⟩
  have HB1 := Lib.hid hs1
  have PB1 := Lib.hid (PB0.out.fr f1 (fun e => e))
  have F1 := Lib.hid (F00.out.trans f1)
  clear f1 hs1 S1
  cases s1
  · clear A1 A2 A3 A4 A5 S2 HB1
    go_wp2_with fail
    refine (HLi.out _ F1.out).mono ?_
    rintro e w9 ⟨rfl, f9⟩
    go_wp2
    go_ret
    exact ⟨rfl, (F1.out.trans f9).below.mono (by omega)⟩
  · obtain ⟨b0, b1, b2, b3, b4, b5, b6, b7, b8⟩ := pdB_cells PB1.out
    dsimp only at b0 b1 b2 b3 b4 b5 b6 b7 b8
    go_wp2_with fail
    refine (S2.out _ (HK.out.non F1.out)).mono ?_
    rintro e w2 ⟨⟨s2, rfl, hs2⟩, f2⟩
    have HB2 := Lib.hid hs2
    have PB2 := Lib.hid (PB1.out.fr f2 (fun e => e))
    have F2 := Lib.hid (F1.out.trans f2)
    clear f2 hs2 S2
    clear b0 b1 b2 b3 b4 b5 b6 b7 b8
    cases s2
    · clear A1 A2 A3 A4 A5 HB1 HB2
      go_wp2_with fail
      refine (HLi.out _ F2.out).mono ?_
      rintro e w9 ⟨rfl, f9⟩
      go_wp2
      go_ret
      exact ⟨rfl, (F2.out.trans f9).below.mono (by omega)⟩
    · obtain ⟨hl1, hd1⟩ := HB2.out rfl
      have hcl := HB1.out (by trivial)
      have M1 := Lib.hid (A1.out hl1 hd1 hcl)
      have M2 := Lib.hid (A2.out hl1 hcl)
      have M3 := Lib.hid (A3.out hl1 hd1 hcl)
      have M4 := Lib.hid (A4.out hl1 hcl)
      have M5 := Lib.hid (A5.out hcl.2.2)
      have hrl : rows.length ≤ 210 := hcl.2.2
      have hcl9 : cols.length ≤ 20 := hcl.1
      clear A1 A2 A3 A4 A5 HB1 HB2 hl1 hd1 hcl
      obtain ⟨b0, b1, b2, b3, b4, b5, b6, b7, b8⟩ := pdB_cells PB2.out
      dsimp only at b0 b1 b2 b3 b4 b5 b6 b7 b8
      go_wp2_with fail
      refine (M2.out _ F2.out).mono ?_
      rintro e w3 ⟨⟨u3, rfl, hv3⟩, f3⟩
      have PB3 := Lib.hid (PB2.out.fr f3 (fun e => e))
      have F3 := Lib.hid (F2.out.trans f3)
      have HV3 := Lib.hid hv3
      obtain ⟨L, z⟩ := r
      dsimp only at *
      clear f3 hv3 M2
      clear b0 b1 b2 b3 b4 b5 b6 b7 b8
      by_cases hz : z = 0
      · subst hz
        obtain ⟨hfit, hrow, hL⟩ := HRz.out rfl
        have hL1 : L = plcI cols p rows rows.length := (Prod.mk.inj hL).1
        replace M4 := Lib.hid (M4.out hfit)
        have HSa : Hid (∀ zs : List Zn, zs.length = cols.length → (∀ j (h : j < zs.length), IsOf (colC rows j) zs[j]) → prnE cols p zs = (prnP cols zs p, 0) ∧ (∀ k (h : k < rows.length), hasT (prnP cols zs p) (truP cols rows[k] p) = true) ∧ ((prnP cols zs p).yes = false → L = [])) := Lib.hid (fun zs a b => by
          have := HSf.out zs hfit hrow a b (by omega)
          rw [hL1]; exact this)
        have HRow := Lib.hid hrow
        have HLen : Hid (∀ i, i < cols.length → ∀ r ∈ rows, i < r.length) := Lib.hid (fun i hi r hr => by
          obtain ⟨k, hk, rfl⟩ := List.mem_iff_getElem.1 hr
          have := (row_at (hrow k hk)).1
          omega)
        clear HSf HRz hfit hrow hL hL1
        obtain ⟨Au, cu, rfl⟩ := HV3.out.shape
        obtain ⟨D, hD⟩ : ∃ D, w3.heap.size = D := ⟨_, rfl⟩
        have hO0 : Zo (w3.alloc (.cells #[] 33)) D (.slice (some ⟨D, 0, none⟩) 0 0) [] := no_lit0 w3 D D hD.symm (Nat.le_refl _)
        have hf0 : Fr Non w3 (w3.alloc (.cells #[] 33)) := (Fr.refl Non w3).alloc _
        have HDs := Lib.hid hD
        go_wp2
        clear hD
        go_loopw [9, 10] (fun x i wr => ∃ (k : Nat) (Z : List Zn), k ≤ cols.length ∧ i = .int .i64 k ∧ Z.length = k ∧ Hid (∀ j (h : j < Z.length), IsOf (colC rows j) Z[j]) ∧ Zo wr D x Z ∧ Fr Non w3 wr) (fun _ i _ => cols.length - (intOf i).toNat)
        case atStart => exact ⟨0, [], Nat.zero_le _, rfl, rfl, Lib.hid (fun j h => by cases h), hO0, hf0⟩
        case round =>
          clear hO0 hf0
          obtain ⟨k, Z, hk, rfl, hZl, HIs, hO, hfr⟩ := hrel
          have HO := Lib.hid hO
          have HF := Lib.hid hfr
          have HZl := Lib.hid hZl
          clear hO hfr hZl
          by_cases hlt : k < cols.length
          · have HC := Lib.hid (M5.out k wr (HLen.out k hlt) (F3.out.trans HF.out))
            go_wp2_with fail
            refine HC.out.mono ?_
            rintro e w4 ⟨u4, rfl, hoc, f4⟩
            have HZo := Lib.hid (rzof_any u4 (colC rows k) w4 hoc.cs (fun q hq => (hoc.lt q hq).2) (by rw [colC_length]; omega))
            clear hoc HC
            go_wp2_with fail
            refine HZo.out.mono ?_
            rintro e w5 ⟨z, rfl, hiz, f5⟩
            have HIz := Lib.hid hiz
            have f45 := f4.trans f5
            have HO5 : Hid (Zo w5 D _ Z) := Lib.hid (HO.out.non f45)
            have HF5 := Lib.hid (HF.out.trans f45)
            have hDw : D ≤ w5.heap.size := by have := HF5.out.size; have := HDs.out; omega
            have HIs2 : Hid (∀ j (h : j < (Z ++ [z]).length), IsOf (colC rows j) (Z ++ [z])[j]) := Lib.hid (fun j h => by
              by_cases hj : j < Z.length
              · rw [List.getElem_append_left hj]; exact HIs.out j hj
              · have hjk : j = k := by have := HZl.out; rw [List.length_append, List.length_singleton] at h; omega
                subst hjk
                rw [List.getElem_append_right (by omega)]
                simpa using HIz.out)
            have HZl2 : Hid ((Z ++ [z]).length = k + 1) := Lib.hid (by rw [List.length_append, HZl.out]; rfl)
            have HZ9 : Hid (Z.length < 68719476735) := Lib.hid (by have := HZl.out; omega)
            clear hiz f4 f5 f45 HZo HIs HO HF HIz
            obtain ⟨zr, zu, ⟨ln, li, lt⟩, ⟨hn2, hi, ht⟩⟩ := z
            unfold znV znC
            dsimp only
            go_wp2_with (at_builtin; refine wpList_pushN fd_zn eln_zn rfl (.tmp 42) (.tmp 47) rfl D _ Z rfl HO5.out ⟨zr, zu, ⟨ln, li, lt⟩, ⟨hn2, hi, ht⟩⟩ #[.int .i64 zr, .int .i64 zu, .bool ln, .int .i64 li, .string ⟨lt.toArray⟩, .bool hn2, .int .i64 hi, .string ⟨ht.toArray⟩] rfl _ rfl rfl HZ9.out hDw ?_; intro v6 w6 hown6 hf6)
            have hfr6 := HF5.out.fresh hf6 (fun q hq => by have := (HO5.out.lt q hq).1; have := HDs.out; omega)
            go_roundw
            case rel => exact ⟨k + 1, _, by omega, by go_num, HZl2.out, HIs2, hown6, hfr6⟩
            case measure => simp [intOf]; omega
          · have hkc : Z.length = cols.length := by have := HZl.out; omega
            obtain ⟨e1, hhas, hno⟩ := HSa.out Z hkc HIs.out
            have HS1 := Lib.hid (HSk.out Z _ _ e1)
            have G1 := Lib.hid (fun v W a b => M1.out v Z W a b)
            have G3 := Lib.hid (fun v W a b => M3.out v Z W a b)
            simp only [e1] at G1
            have HH := Lib.hid hhas
            have HNo := Lib.hid hno
            have hzs := HO.out.ns fd_zn
            have HF4 := Lib.hid (F3.out.trans HF.out)
            have PB4 := Lib.hid (PB3.out.fr HF.out (fun e => e))
            have HV4 := Lib.hid (HV3.out.non HF.out)
            have HZs := Lib.hid hzs
            clear HSa HSk HIs HO hhas hno M1 M3 M5 e1 HLen HZl hkc
            generalize prnP cols Z p = y at *
            generalize skpE cols p Z = sk at *
            obtain ⟨ya, yb, yc⟩ := y
            obtain ⟨Az, cz, rfl⟩ := hzs.shape
            clear hzs
            unfold askV trV at G1
            dsimp only at *
            obtain ⟨b0, b1, b2, b3, b4, b5, b6, b7, b8⟩ := pdB_cells PB4.out
            dsimp only at b0 b1 b2 b3 b4 b5 b6 b7 b8
            go_wp2_with fail
            refine (G1.out _ _ HF4.out HZs.out).mono ?_
            rintro e w5 ⟨rfl, f5⟩
            have g5 := f5.alloc (.cells #[.bool ya, .bool yb, .bool yc] 35)
            have PB5 := Lib.hid (PB4.out.fr g5 (fun e => e))
            have F5 := Lib.hid (HF4.out.trans g5)
            have HZ5 := Lib.hid (HZs.out.non g5)
            have HV5 := Lib.hid (HV4.out.non g5)
            obtain ⟨R5, hR5⟩ : ∃ R, w5.heap.size = R := ⟨_, rfl⟩
            have TB5 : Hid (TrB 35 _ R5 ⟨ya, yb, yc⟩) := Lib.hid (tr_newG 35 w5 ⟨ya, yb, yc⟩ R5 hR5)
            obtain ⟨W5, hW5⟩ : ∃ W, W = w5.alloc (.cells #[.bool ya, .bool yb, .bool yc] 35) := ⟨_, rfl⟩
            dsimp only at TB5
            rw [← hW5] at PB5 F5 TB5 HZ5 HV5
            clear f5 g5 G1 PB4 HF4 HZs HV4 HV3 PB3 F3
            clear b0 b1 b2 b3 b4 b5 b6 b7 b8
            go_upto_region 12 with fail
            rw [← hW5]
            clear hW5 hR5
            go_wp2_with fail
            refine (HN.out _ _).mono ?_
            rintro e wn ⟨rfl, rfl⟩
            go_wp2
            go_loopw [13, 14] (fun i _ wr => ∃ k : Nat, k ≤ rows.length ∧ i = .int .i64 k ∧ Hid (Fr Non W5 wr)) (fun i _ _ => rows.length - (intOf i).toNat)
            case atStart => exact ⟨0, Nat.zero_le _, rfl, Lib.hid (Fr.refl _ _)⟩
            case round =>
              obtain ⟨k, hk, rfl, FR⟩ := hrel
              have F6 := Lib.hid (F5.out.trans FR.out)
              have PB6 := Lib.hid (PB5.out.fr FR.out (fun e => e))
              have TB6 : Hid (TrB 35 wr R5 ⟨ya, yb, yc⟩) := Lib.hid (TB5.out.fr FR.out (fun e => e))
              by_cases hlt : k < rows.length
              · obtain ⟨a, A', c', rfl, -, q7, hc1⟩ := (HR.out.non F6.out).el k hlt
                have hh := HH.out k hlt
                have htr := HTr.out rows[k]
                have G4 := Lib.hid (fun W hf => M4.out (.slice A' rows[k].length c') rows[k] W (HRow.out k hlt) (F6.out.trans hf) (hc1.non hf))
                clear hc1 HH HTr HRow M4 G3 HNo
                generalize truP cols rows[k] p = x at *
                obtain ⟨b0, b1, b2, b3, b4, b5, b6, b7, b8⟩ := pdB_cells PB6.out
                dsimp only at b0 b1 b2 b3 b4 b5 b6 b7 b8
                go_wp2
                obtain ⟨V, hV⟩ : ∃ V, V = wr.drew := ⟨_, rfl⟩
                refine wp_region_held_drew (S := (fun W' => W'.cell? ⟨g, 0, none⟩ = some (.int .i64 ho) ∧ W'.cell? ⟨g, 1, none⟩ = some (.string ⟨hc.toArray⟩) ∧ W'.cell? ⟨g, 2, none⟩ = some (.int .i64 hm) ∧ W'.cell? ⟨g, 3, none⟩ = some (.bool vn) ∧ W'.cell? ⟨g, 4, none⟩ = some (.int .i64 vi) ∧ W'.cell? ⟨g, 5, none⟩ = some (.string ⟨vt.toArray⟩) ∧ W'.cell? ⟨g, 6, none⟩ = some (.int .i64 hkd) ∧ W'.cell? ⟨g, 7, none⟩ = some (.string ⟨hp.toArray⟩) ∧ W'.cell? ⟨g, 8, none⟩ = some (.slice A n c) ∧ W'.cell? (a.add k) = some (.slice A' rows[k].length c'))) (by kernel_rfl) (by exact ⟨b0, b1, b2, b3, b4, b5, b6, b7, b8, q7⟩) (fun hHeld => ?_)
                rw [← hV]
                rw [← hV] at hHeld
                have FV : Fr Non wr V := by rw [hV]; exact (Fr.refl Non wr).drew
                clear hV
                replace b0 := FV.at0 b0
                replace b1 := FV.at0 b1
                replace b2 := FV.at0 b2
                replace b3 := FV.at0 b3
                replace b4 := FV.at0 b4
                replace b5 := FV.at0 b5
                replace b6 := FV.at0 b6
                replace b7 := FV.at0 b7
                replace b8 := FV.at0 b8
                replace q7 := FV.at0 q7
                refine wpAnyH_take (i := 0) (oi := ⟨some 65, _, _, _, _, none⟩) (v := ?v1) rfl (by kernel_rfl) (by kernel_rfl) (by kernel_rfl) (fun _ _ _ h => h) (Or.inl ⟨by rfl, ?hy1⟩) (by assumption) ?rest1
                case hy1 => (intro wS hSw; (try dsimp only at hSw); go_simp; (try with_reducible rfl))
                (try simp only [Act.put, List.setIfInBounds_toArray, List.set_cons_zero, List.set_cons_succ])
                refine wpAnyH_take (i := 1) (oi := ⟨some 66, _, _, _, _, none⟩) (v := ?v2) rfl (by kernel_rfl) (by kernel_rfl) (by kernel_rfl) (fun _ _ _ h => h) (Or.inl ⟨by rfl, ?hy2⟩) (by assumption) ?rest2
                case hy2 => (intro wS hSw; (try dsimp only at hSw); go_simp; (try with_reducible rfl))
                (try simp only [Act.put, List.setIfInBounds_toArray, List.set_cons_zero, List.set_cons_succ])
                refine wpAnyH_take (i := 2) (oi := ⟨some 67, _, _, _, _, none⟩) (v := ?v3) rfl (by kernel_rfl) (by kernel_rfl) (by kernel_rfl) (fun _ _ _ h => h) (Or.inl ⟨by rfl, ?hy3⟩) (by assumption) ?rest3
                case hy3 => (intro wS hSw; (try dsimp only at hSw); go_simp; (try with_reducible rfl))
                (try simp only [Act.put, List.setIfInBounds_toArray, List.set_cons_zero, List.set_cons_succ])
                refine wpAnyH_take (i := 3) (oi := ⟨some 68, _, _, _, _, none⟩) (v := ?v4) rfl (by kernel_rfl) (by kernel_rfl) (by kernel_rfl) (fun _ _ _ h => h) (Or.inl ⟨by rfl, ?hy4⟩) (by assumption) ?rest4
                case hy4 => (intro wS hSw; (try dsimp only at hSw); go_simp; (try with_reducible rfl))
                (try simp only [Act.put, List.setIfInBounds_toArray, List.set_cons_zero, List.set_cons_succ])
                refine wpAnyH_take (i := 4) (oi := ⟨some 69, _, _, _, _, none⟩) (v := ?v5) rfl (by kernel_rfl) (by kernel_rfl) (by kernel_rfl) (fun _ _ _ h => h) (Or.inl ⟨by rfl, ?hy5⟩) (by assumption) ?rest5
                case hy5 => (intro wS hSw; (try dsimp only at hSw); go_simp; (try with_reducible rfl))
                (try simp only [Act.put, List.setIfInBounds_toArray, List.set_cons_zero, List.set_cons_succ])
                refine wpAnyH_take (i := 5) (oi := ⟨some 70, _, _, _, _, none⟩) (v := ?v6) rfl (by kernel_rfl) (by kernel_rfl) (by kernel_rfl) (fun _ _ _ h => h) (Or.inl ⟨by rfl, ?hy6⟩) (by assumption) ?rest6
                case hy6 => (intro wS hSw; (try dsimp only at hSw); go_simp; (try with_reducible rfl))
                (try simp only [Act.put, List.setIfInBounds_toArray, List.set_cons_zero, List.set_cons_succ])
                refine wpAnyH_ready (rs := [6]) (by kernel_rfl) (by simp) ?_
                refine AllReadyH.cons (o := ⟨some 71, _, _, _, _, none⟩) rfl (fun K hK => ?_) AllReadyH.nil
                go_simp
                go_at_call 17
                refine (G4.out _ FV).mono ?_
                rintro e w7 ⟨rfl, f7⟩
                go_wp2_with fail
                refine hK.out _ _ (by exact ⟨f7.at0 b0, f7.at0 b1, f7.at0 b2, f7.at0 b3, f7.at0 b4, f7.at0 b5, f7.at0 b6, f7.at0 b7, f7.at0 b8, f7.at0 q7⟩) (fun hHeld => ?_)
                clear hK K
                (try simp only [Act.put, List.setIfInBounds_toArray, List.set_cons_zero, List.set_cons_succ])
                refine wpAnyH_take (i := 7) (oi := ⟨some 14, _, _, _, _, none⟩) (v := ?v7) rfl (by kernel_rfl) (by kernel_rfl) (by kernel_rfl) (fun _ _ _ h => h) (Or.inl ⟨by rfl, ?hy7⟩) (by assumption) ?rest7
                case hy7 => (intro wS hSw; (try dsimp only at hSw); go_simp; (try with_reducible rfl))
                (try simp only [Act.put, List.setIfInBounds_toArray, List.set_cons_zero, List.set_cons_succ])
                refine wpAnyH_done (by kernel_rfl) ?_ _
                clear hHeld q7
                clear b0 b1 b2 b3 b4 b5 b6 b7 b8
                have f6 := FV.trans f7
                have TB7 : TrB 35 w7 R5 ⟨ya, yb, yc⟩ := TB6.out.fr f6 (fun e => e)
                have FR7 := Lib.hid (FR.out.trans f6)
                obtain ⟨m0, m1, m2, -, -, -⟩ := TB7.facts
                dsimp only at m0 m1 m2
                clear TB7 f6 f7 FV G4
                rcases htr with rfl | rfl | rfl
                · obtain rfl := hasT_0 hh
                  clear hh
                  go_wp2
                  go_roundw
                  case rel => exact ⟨k + 1, by omega, by go_num, FR7⟩
                  case measure => simp [intOf]; omega
                · obtain rfl := hasT_1 hh
                  clear hh
                  go_wp2
                  go_roundw
                  case rel => exact ⟨k + 1, by omega, by go_num, FR7⟩
                  case measure => simp [intOf]; omega
                · obtain rfl := hasT_2 hh
                  clear hh
                  go_wp2
                  go_roundw
                  case rel => exact ⟨k + 1, by omega, by go_num, FR7⟩
                  case measure => simp [intOf]; omega
              · have HZ6 := Lib.hid (HZ5.out.non FR.out)
                have G6 := Lib.hid (G3.out _ wr F6.out HZ6.out)
                clear HH HTr HRow M4 G3
                obtain ⟨b0, b1, b2, b3, b4, b5, b6, b7, b8⟩ := pdB_cells PB6.out
                dsimp only at b0 b1 b2 b3 b4 b5 b6 b7 b8
                cases ya
                · have hs : sk = true := by rw [HS1.out]; rfl
                  have hL0 : L = [] := HNo.out rfl
                  subst hs
                  subst hL0
                  clear HNo HS1
                  go_wp2_with fail
                  refine G6.out.mono ?_
                  rintro e w8 ⟨rfl, f8⟩
                  have F8 := Lib.hid (F6.out.trans f8)
                  clear b0 b1 b2 b3 b4 b5 b6 b7 b8
                  go_wp2_with fail
                  refine (HLi.out _ F8.out).mono ?_
                  rintro e w9 ⟨rfl, f9⟩
                  go_wp2
                  go_ret
                  exact ⟨rfl, (F8.out.trans f9).below.mono (by omega)⟩
                · have hs : sk = false := by rw [HS1.out]; rfl
                  subst hs
                  clear HNo HS1
                  go_wp2_with fail
                  refine G6.out.mono ?_
                  rintro e w8 ⟨rfl, f8⟩
                  have F8 := Lib.hid (F6.out.trans f8)
                  clear b0 b1 b2 b3 b4 b5 b6 b7 b8
                  go_wp2_with fail
                  refine (HLi.out _ F8.out).mono ?_
                  rintro e w9 ⟨rfl, f9⟩
                  go_wp2
                  go_ret
                  exact ⟨rfl, (F8.out.trans f9).below.mono (by omega)⟩
      · have hb : (z != 0) = true := by rw [bne_iff_ne]; exact hz
        clear hz
        go_wp2_with fail
        refine (HLi.out _ F3.out).mono ?_
        rintro e w9 ⟨rfl, f9⟩
        go_wp2
        go_ret
        exact ⟨rfl, (F3.out.trans f9).below.mono (by omega)⟩
end Go.Proofs.YtpmipdnmhffkeaaDoor


namespace Go.Proofs.YtpmipdnmhffkeaaDoor
set_option linter.unusedVariables false
set_option linter.unusedSimpArgs false
set_option maxRecDepth 100000
open Go.Joins Go.ChangeShapes Go.WideShapes Go.ChangeAt Go.RowKit Go.Deep

/-- a cell within its fields' ranges -/
structure ClWf (c : Cl) : Prop where
  lo : -9223372036854775808 ≤ c.num
  hi : c.num ≤ 9223372036854775807
  len : c.txt.length ≤ 9223372036854775807
end Go.Proofs.YtpmipdnmhffkeaaDoor


namespace Go.Proofs.YtpmipdnmhffkeaaDoor
set_option linter.unusedVariables false
set_option linter.unusedSimpArgs false
set_option maxRecDepth 100000
open Go.Joins Go.ChangeShapes Go.WideShapes Go.ChangeAt Go.RowKit Go.Deep

theorem cof_bool : Tryd.prog.cellsOf 4 = 1 := by kernel_rfl
theorem cof_i64 : Tryd.prog.cellsOf 2 = 1 := by kernel_rfl
theorem cof_int : Tryd.prog.cellsOf 3 = 1 := by kernel_rfl
theorem cof_str : Tryd.prog.cellsOf 9 = 1 := by kernel_rfl
theorem cof_cl : Tryd.prog.cellsOf 24 = 3 := by kernel_rfl
/-- three cells that are read as a cell -/
theorem cl_cells {H : Type} {enc : TypeId × Value → H} {W : World} {n : Nat} {x : DataW H × List MemPlace} {c2 c3 c4 : Value}
    (h : DataW.trod enc Tryd.prog W 0 (fun _ => true) true n 24 [c2, c3, c4] = some x) : ∃ c : Cl, c2 = .bool c.null ∧ c3 = .int .i64 c.num ∧ c4 = .string ⟨c.txt.toArray⟩ ∧ ClWf c := by
  obtain ⟨y0, y1, y2, m, rfl, _, h0, h1, h2⟩ := trod_struct3 Tryd.underlying24 h
  simp only [cof_bool, cof_i64, cof_str, List.drop_zero, List.drop_succ_cons, List.take_succ_cons, List.take_zero] at h0 h1 h2
  obtain ⟨b, e0, _⟩ := DataW.trod_bool Tryd.underlying4 h0
  obtain rfl := (List.cons.inj e0).1
  obtain ⟨i, e1, _, hi⟩ := DataW.trod_int Tryd.underlying2 h1
  obtain rfl := (List.cons.inj e1).1
  obtain ⟨s, e2, _, hs⟩ := DataW.trod_string Tryd.underlying9 h2
  obtain rfl := (List.cons.inj e2).1
  have hb := wf_i64_bd hi
  exact ⟨⟨b, i, s.data.toList⟩, rfl, rfl, by simp, ⟨hb.1, hb.2, by simpa [maxLen] using hs⟩⟩
end Go.Proofs.YtpmipdnmhffkeaaDoor


namespace Go.Proofs.YtpmipdnmhffkeaaDoor
set_option linter.unusedVariables false
set_option linter.unusedSimpArgs false
set_option maxRecDepth 100000
open Go.Joins Go.ChangeShapes Go.WideShapes Go.ChangeAt Go.RowKit Go.Deep

theorem cof_row : Tryd.prog.cellsOf 50 = 1 := by kernel_rfl
theorem bytes_cl : Tryd.prog.bytesOf 24 = 32 := by kernel_rfl
/-- an element's weights are the slice's -/
theorem weights_elem {H : Type} {P : Program} {t e : TypeId} (hu : P.underlying t = some (.slice e)) : ∀ {elems spare : List (DataW H)} {d : DataW H} {n : Nat}, d ∈ elems → n ∈ d.weights P e → n ∈ (DataW.slice elems spare).weights P t := by
  intro elems spare d n hd hn
  have all : ∀ {l : List (DataW H)}, d ∈ l → n ∈ DataW.weightsAll P e l := by
    intro l hl
    induction l with
    | nil => cases hl
    | cons x r ih =>
      simp only [DataW.weightsAll, List.mem_append]
      rcases List.mem_cons.1 hl with rfl | hl
      · exact .inl hn
      · exact .inr (ih hl)
  simp only [DataW.weights, hu, List.mem_cons, List.mem_append]
  exact .inr (.inl (all hd))
/-- a slice of cells in a cell of another one -/
theorem cs_trod {H : Type} {enc : TypeId × Value → H} {W : World} {n : Nat} {x : DataW H × List MemPlace} {v : Value}
    (h : DataW.trod enc Tryd.prog W 0 (fun _ => true) true n 50 [v] = some x) : ∃ (s : Sl) (l : List Cl), v = slV s ∧ s.n = l.length ∧ Cs W (slV s) l ∧ l.length ≤ 9223372036854775807 ∧ (∀ c ∈ l, ClWf c) ∧ ((∀ n ∈ x.1.weights Tryd.prog 50, n ≤ reachBytes) → l.length ≤ 4398046511103) := by
  rcases Go.Deep.open_slice Tryd.underlying50 h with ⟨hcs, _⟩ | ⟨a, len, cap, m, k, D, Pl, hcs, _, hl, hm, hmm, hx, hr⟩
  · obtain rfl := (List.cons.inj hcs).1
    exact ⟨noSl, [], rfl, rfl, Cs.nil_ W, by simp, by simp, fun _ => by simp⟩
  · obtain rfl := (List.cons.inj hcs).1
    have hnm : len ≤ m := by rw [hmm]; simp; exact hl
    obtain ⟨l, hll, hls⟩ := choose_listG (fun i (x : Cl) => At3 W (a.add (i * 3)) x ∧ ClWf x) len (by
      intro i hi
      obtain ⟨cs', h1, h2⟩ := hr i (by omega)
      rw [cof_cl] at h1
      obtain ⟨_, hlen, hcell⟩ := World.cells?_some h1
      match cs', hlen with
      | [v0, v1, v2], _ =>
        obtain ⟨c, rfl, rfl, rfl, hw⟩ := cl_cells h2
        have e0 := hcell 0 (by omega)
        have e1 := hcell 1 (by omega)
        have e2 := hcell 2 (by omega)
        exact ⟨c, ⟨by simpa [add_add] using e0, by simpa using e1, by simpa using e2⟩, hw⟩)
    subst hll
    refine ⟨⟨some a, l.length, cap⟩, l, rfl, rfl, ⟨some a, cap, rfl, hl, (fun h => by cases h), fun b hb j hj => ?_⟩, by unfold maxLen at hm; omega, fun x hx => ?_, fun hz => ?_⟩
    · cases hb
      exact (hls j hj).1
    · obtain ⟨j, hj, rfl⟩ := List.mem_iff_getElem.1 hx
      exact (hls j hj).2
    · have := hz ((((List.range l.length).map D).length + ((List.range (m - l.length)).map fun j => D (l.length + j)).length) * Tryd.prog.bytesOf 24) (by rw [hx]; simp [DataW.weights, Tryd.underlying50])
      rw [bytes_cl] at this
      simp only [List.length_map, List.length_range, reachBytes] at this
      omega
theorem rs_inS {H : Type} {enc : TypeId × Value → H} {W : World} {base : Nat} {v : Value} {d : DataW H} {p : List MemPlace} (hv : Value.okWide Tryd.prog W .any base 44 v)
    (h : DataW.Trod enc Tryd.prog W 0 (fun _ => true) true 44 v d p) : ∃ rs, Rs W v rs ∧ rs.length ≤ 9223372036854775807 ∧ (∀ r ∈ rs, r.length ≤ 9223372036854775807 ∧ ∀ c ∈ r, ClWf c) ∧ (∀ k, v.ownBlock = some k → k < W.heap.size) ∧ ((∀ n ∈ d.weights Tryd.prog 44, n ≤ reachBytes) → ∀ r ∈ rs, r.length ≤ 4398046511103) := by
  have hT := Tryd.underlying44
  have hlt : ∀ k, v.ownBlock = some k → k < W.heap.size := by
    rcases slice_in hT hv with rfl | ⟨b, o, n, c, rfl, _, hb⟩
    · intro k hk; cases hk
    · intro k hk
      obtain rfl : b = k := by simpa [Value.ownBlock] using hk
      exact hb
  obtain ⟨A, n, c, rfl⟩ := okWide_slice hT hv
  obtain ⟨fuel, hf⟩ := h
  rcases Go.Deep.open_slice hT hf with ⟨hcs, _⟩ | ⟨a, len, cap, m, k, D, Pl, hcs, _, hl, hm, hmm, hx, hr⟩
  · simp [Value.cells] at hcs
    obtain ⟨rfl, rfl, rfl⟩ := hcs
    exact ⟨[], Rs.nil_ W, by simp, by simp, hlt, fun _ => by simp⟩
  · simp [Value.cells] at hcs
    obtain ⟨rfl, rfl, rfl⟩ := hcs
    have hnm : n ≤ m := by rw [hmm]; simp; exact hl
    obtain ⟨l, hll, hls⟩ := choose_listG (fun i (x : Sl × List Cl) => W.cell? (a.add i) = some (slV x.1) ∧ Cs W (slV x.1) x.2 ∧ x.2.length ≤ 9223372036854775807 ∧ (∀ c ∈ x.2, ClWf c) ∧ ((∀ n ∈ d.weights Tryd.prog 44, n ≤ reachBytes) → x.2.length ≤ 4398046511103)) n (by
      intro i hi
      obtain ⟨cs', h1, h2⟩ := hr i (by omega)
      rw [cof_row] at h1
      obtain ⟨_, hlen, hcell⟩ := World.cells?_some h1
      match cs', hlen with
      | [v0], _ =>
        obtain ⟨s, l, rfl, _, hc, h3, h4, h5⟩ := cs_trod h2
        have e0 := hcell 0 (by omega)
        exact ⟨(s, l), by simpa [add_add] using e0, hc, h3, h4, fun hz => h5 fun q hq => hz q (by rw [(Prod.mk.inj hx).1]; exact weights_elem Tryd.underlying44 (List.mem_map.2 ⟨i, List.mem_range.2 hi, rfl⟩) hq)⟩)
    subst hll
    refine ⟨l.map Prod.snd, ⟨l.map Prod.fst, by simp, ⟨some a, c, by simp, by simpa using hl, (fun h => by cases h), fun b hb j hj => ?_⟩, fun i a b => ?_⟩, by unfold maxLen at hm; simp; omega, fun x hx => ?_, hlt, fun hz x hx => ?_⟩
    · cases hb
      have hj' : j < l.length := by simpa using hj
      simpa using (hls j hj').1
    · have hj' : i < l.length := by simpa using a
      simpa using (hls i hj').2.1
    · obtain ⟨y, hy, rfl⟩ := List.mem_map.1 hx
      obtain ⟨j, hj, rfl⟩ := List.mem_iff_getElem.1 hy
      exact ⟨(hls j hj).2.2.1, (hls j hj).2.2.2.1⟩
    · obtain ⟨y, hy, rfl⟩ := List.mem_map.1 hx
      obtain ⟨j, hj, rfl⟩ := List.mem_iff_getElem.1 hy
      exact (hls j hj).2.2.2.2 hz
theorem rs_in {H : Type} {enc : TypeId × Value → H} {W : World} {base : Nat} {v : Value} {d : DataW H} {p : List MemPlace} (hv : Value.okWide Tryd.prog W .any base 44 v)
    (h : DataW.Trod enc Tryd.prog W 0 (fun _ => true) true 44 v d p) : ∃ rs, Rs W v rs ∧ rs.length ≤ 9223372036854775807 ∧ (∀ r ∈ rs, r.length ≤ 9223372036854775807 ∧ ∀ c ∈ r, ClWf c) ∧ ∀ k, v.ownBlock = some k → k < W.heap.size := by
  obtain ⟨rs, h1, h2, h3, h4, _⟩ := rs_inS hv h
  exact ⟨rs, h1, h2, h3, h4⟩
end Go.Proofs.YtpmipdnmhffkeaaDoor


namespace Go.Proofs.YtpmipdnmhffkeaaDoor
set_option linter.unusedVariables false
set_option linter.unusedSimpArgs false
set_option maxRecDepth 100000
open Go.Joins Go.ChangeShapes Go.WideShapes Go.ChangeAt Go.RowKit Go.Deep

theorem cof_co : Tryd.prog.cellsOf 55 = 3 := by kernel_rfl
/-- a column within its fields' ranges -/
structure CoWf (c : Co) : Prop where
  lo : -9223372036854775808 ≤ c.ty
  hi : c.ty ≤ 9223372036854775807
  len : c.name.length ≤ 9223372036854775807
/-- three cells that are read as a column -/
theorem co_cells {H : Type} {enc : TypeId × Value → H} {W : World} {n : Nat} {x : DataW H × List MemPlace} {c2 c3 c4 : Value}
    (h : DataW.trod enc Tryd.prog W 0 (fun _ => true) true n 55 [c2, c3, c4] = some x) : ∃ c : Co, c2 = .string ⟨c.name.toArray⟩ ∧ c3 = .int .i64 c.ty ∧ c4 = .bool c.nl ∧ CoWf c := by
  obtain ⟨y0, y1, y2, m, rfl, _, h0, h1, h2⟩ := trod_struct3 Tryd.underlying55 h
  simp only [cof_bool, cof_int, cof_str, List.drop_zero, List.drop_succ_cons, List.take_succ_cons, List.take_zero] at h0 h1 h2
  obtain ⟨s, e0, _, hs⟩ := DataW.trod_string Tryd.underlying9 h0
  obtain rfl := (List.cons.inj e0).1
  obtain ⟨i, e1, _, hi⟩ := DataW.trod_int Tryd.underlying3 h1
  obtain rfl := (List.cons.inj e1).1
  obtain ⟨b, e2, _⟩ := DataW.trod_bool Tryd.underlying4 h2
  obtain rfl := (List.cons.inj e2).1
  have hb := wf_i64_bd hi
  exact ⟨⟨s.data.toList, i, b⟩, by simp, rfl, rfl, ⟨hb.1, hb.2, by simpa [maxLen] using hs⟩⟩
theorem ks_in {H : Type} {enc : TypeId × Value → H} {W : World} {base : Nat} {v : Value} {d : DataW H} {p : List MemPlace} (hv : Value.okWide Tryd.prog W .any base 22 v)
    (h : DataW.Trod enc Tryd.prog W 0 (fun _ => true) true 22 v d p) : ∃ l, Ks W v l ∧ l.length ≤ 9223372036854775807 ∧ (∀ c ∈ l, CoWf c) ∧ ∀ k, v.ownBlock = some k → k < W.heap.size :=
  ns_in fd_co Tryd.underlying22 cof_co CoWf (fun n cs y hl hy => by
    match cs, hl with
    | [v0, v1, v2], _ =>
      obtain ⟨c, rfl, rfl, rfl, hw⟩ := co_cells hy
      exact ⟨c, rfl, hw⟩) hv h
end Go.Proofs.YtpmipdnmhffkeaaDoor


namespace Go.Proofs.YtpmipdnmhffkeaaDoor
set_option linter.unusedVariables false
set_option linter.unusedSimpArgs false
set_option maxRecDepth 100000
open Go.Joins Go.ChangeShapes Go.WideShapes Go.ChangeAt Go.RowKit Go.Deep

/-! ### A predicate opened -/
theorem cof_pd : Tryd.prog.cellsOf 27 = 9 := by kernel_rfl
theorem cof_pds : Tryd.prog.cellsOf 25 = 1 := by kernel_rfl
theorem pd_trod {H : Type} {enc : TypeId × Value → H} {W : World} : ∀ (N fuel : Nat) (cs : List Value) (x : DataW H × List MemPlace), SizeOf.sizeOf x.1 ≤ N →
    DataW.trod enc Tryd.prog W 0 (fun _ => true) true fuel 27 cs = some x → ∃ (h : Ph) (s : Kv) (ks : List Pd), cs = pdL (h, s) ∧ Kd W s ks ∧ I64b h.val.num := by
  intro N
  induction N with
  | zero =>
    intro fuel cs x hx h
    obtain ⟨xs, n, rfl, hxe, _⟩ := DataW.trod_struct Tryd.underlying27 h
    rw [hxe] at hx
    simp only [DataW.agg.sizeOf_spec] at hx
    omega
  | succ N ih =>
    intro fuel cs x hx h
    obtain ⟨xs, n, rfl, hxe, hlen, hxl, hall⟩ := DataW.trod_struct Tryd.underlying27 h
    rw [cof_pd] at hlen
    have hxl7 : xs.length = 7 := hxl
    rw [hxe] at hx
    simp only [DataW.agg.sizeOf_spec] at hx
    match cs, hlen with
    | [v0, v1, v2, v3, v4, v5, v6, v7, v8], _ =>
      have f0 : DataW.trod enc Tryd.prog W 0 (fun _ => true) true n 3 (List.take (Tryd.prog.cellsOf 3) (List.drop 0 [v0, v1, v2, v3, v4, v5, v6, v7, v8])) = xs[0]? := hall 0 _ rfl
      have f1 : DataW.trod enc Tryd.prog W 0 (fun _ => true) true n 9 (List.take (Tryd.prog.cellsOf 9) (List.drop 1 [v0, v1, v2, v3, v4, v5, v6, v7, v8])) = xs[1]? := hall 1 _ rfl
      have f2 : DataW.trod enc Tryd.prog W 0 (fun _ => true) true n 3 (List.take (Tryd.prog.cellsOf 3) (List.drop 2 [v0, v1, v2, v3, v4, v5, v6, v7, v8])) = xs[2]? := hall 2 _ rfl
      have f3 : DataW.trod enc Tryd.prog W 0 (fun _ => true) true n 24 (List.take (Tryd.prog.cellsOf 24) (List.drop 3 [v0, v1, v2, v3, v4, v5, v6, v7, v8])) = xs[3]? := hall 3 _ rfl
      have f4 : DataW.trod enc Tryd.prog W 0 (fun _ => true) true n 3 (List.take (Tryd.prog.cellsOf 3) (List.drop 6 [v0, v1, v2, v3, v4, v5, v6, v7, v8])) = xs[4]? := hall 4 _ rfl
      have f5 : DataW.trod enc Tryd.prog W 0 (fun _ => true) true n 9 (List.take (Tryd.prog.cellsOf 9) (List.drop 7 [v0, v1, v2, v3, v4, v5, v6, v7, v8])) = xs[5]? := hall 5 _ rfl
      have f6 : DataW.trod enc Tryd.prog W 0 (fun _ => true) true n 25 (List.take (Tryd.prog.cellsOf 25) (List.drop 8 [v0, v1, v2, v3, v4, v5, v6, v7, v8])) = xs[6]? := hall 6 _ rfl
      rw [List.getElem?_eq_getElem (by omega)] at f0 f1 f2 f3 f4 f5 f6
      simp only [cof_int, cof_str, cof_cl, cof_pds, List.drop_zero, List.drop_succ_cons, List.take_succ_cons, List.take_zero] at f0 f1 f2 f3 f4 f5 f6
      obtain ⟨i0, e0, _, w0⟩ := DataW.trod_int Tryd.underlying3 f0
      obtain rfl := (List.cons.inj e0).1
      obtain ⟨s1, e1, _, _⟩ := DataW.trod_string Tryd.underlying9 f1
      obtain rfl := (List.cons.inj e1).1
      obtain ⟨i2, e2, _, _⟩ := DataW.trod_int Tryd.underlying3 f2
      obtain rfl := (List.cons.inj e2).1
      obtain ⟨c, rfl, rfl, rfl, hc⟩ := cl_cells f3
      obtain ⟨i4, e4, _, _⟩ := DataW.trod_int Tryd.underlying3 f4
      obtain rfl := (List.cons.inj e4).1
      obtain ⟨s5, e5, _, _⟩ := DataW.trod_string Tryd.underlying9 f5
      obtain rfl := (List.cons.inj e5).1
      have hy : SizeOf.sizeOf xs[6].1 < SizeOf.sizeOf (xs.map fun x => x.fst) := List.sizeOf_lt_of_mem (List.mem_map.2 ⟨xs[6], List.getElem_mem _, rfl⟩)
      refine (?_ : ∃ (s : Kv) (ks : List Pd), v8 = kidV s ∧ Kd W s ks).elim fun s hs => ?_
      · rcases Go.Deep.open_slice Tryd.underlying25 f6 with ⟨hcs, _⟩ | ⟨a, len, cap, m, q, D, Pl, hcs, _, hl, hm, hmm, hye, hr⟩
        · obtain rfl := (List.cons.inj hcs).1
          exact ⟨noKv, [], rfl, Kd.nil_ W⟩
        · obtain rfl := (List.cons.inj hcs).1
          have hnm : len ≤ m := by rw [hmm]; simp; exact hl
          have hyx : xs[6].1 = DataW.slice ((List.range len).map D) ((List.range (m - len)).map fun j => D (len + j)) := (Prod.mk.inj (show (xs[6].1, xs[6].2) = _ from hye)).1
          rw [hyx] at hy
          simp only [DataW.slice.sizeOf_spec] at hy
          obtain ⟨l, hll, hls⟩ := choose_listG (fun i (z : (Ph × Kv) × List Pd) => AtN W (a.add (i * 9)) (pdL z.1) ∧ Kd W z.1.2 z.2 ∧ I64b z.1.1.val.num) len (by
            intro i hi
            obtain ⟨cs', h1, h2⟩ := hr i (by omega)
            rw [cof_pd] at h1
            obtain ⟨_, hlen', hcell⟩ := World.cells?_some h1
            have hd : SizeOf.sizeOf (D i) < SizeOf.sizeOf ((List.range len).map D) := List.sizeOf_lt_of_mem (List.mem_map.2 ⟨i, List.mem_range.2 hi, rfl⟩)
            obtain ⟨h', s', ks', rfl, hk', hb'⟩ := ih _ _ _ (show SizeOf.sizeOf (D i, Pl i).1 ≤ N by show SizeOf.sizeOf (D i) ≤ N; omega) h2
            refine ⟨((h', s'), ks'), fun j u hu => ?_, hk', hb'⟩
            rw [hcell j (by have := (List.getElem?_eq_some_iff.1 hu).1; simpa [pdL] using this)]
            exact hu)
          subst hll
          refine ⟨⟨some a, l.length, cap⟩, l.map fun z => .mk z.1.1 z.2, rfl, .mk _ (l.map Prod.fst) _ (by simp) ⟨some a, cap, by simp [kidV], by simpa using hl, (fun h => by cases h), fun b hb j hj => ?_⟩ (fun i h1 h2 => by simp [Pd.hd]) (fun i h2 => ?_) (fun i h1 h2 => ?_)⟩
          · cases hb
            have hj' : j < l.length := by simpa using hj
            simpa using (hls j hj').1
          · have hj' : i < l.length := by simpa using h2
            simpa [Pd.hd] using (hls i hj').2.2
          · have hj' : i < l.length := by simpa using h1
            simpa [Pd.kids] using (hls i hj').2.1
      · obtain ⟨ks, rfl, hk⟩ := hs
        exact ⟨⟨i0, s1.data.toList, i2, c, i4, s5.data.toList⟩, s, ks, by simp [pdL], hk, ⟨hc.lo, hc.hi⟩⟩
theorem pd_in {H : Type} {enc : TypeId × Value → H} {W : World} {base : Nat} {v : Value} {d : DataW H} {p : List MemPlace} (hv : Value.okWide Tryd.prog W .any base 27 v)
    (h : DataW.Trod enc Tryd.prog W 0 (fun _ => true) true 27 v d p) : ∃ (h : Ph) (s : Kv) (ks : List Pd), v = pdV h s ∧ Kd W s ks ∧ I64b h.val.num := by
  obtain ⟨cs, rfl, hsz⟩ := okWide_struct Tryd.underlying27 hv
  obtain ⟨fuel, hf⟩ := h
  obtain ⟨h, s, ks, e, hk, hb⟩ := pd_trod _ fuel _ _ (Nat.le_refl _) hf
  refine ⟨h, s, ks, ?_, hk, hb⟩
  have e2 : cs.toList = pdL (h, s) := by simpa [Value.cells] using e
  unfold pdV
  congr 1
  apply Array.ext'
  rw [e2]; rfl
end Go.Proofs.YtpmipdnmhffkeaaDoor


namespace Go.Proofs.YtpmipdnmhffkeaaDoor
set_option linter.unusedVariables false
set_option linter.unusedSimpArgs false
set_option maxRecDepth 100000
open Go.Joins Go.ChangeShapes Go.WideShapes Go.ChangeAt Go.RowKit Go.Deep

/-- the table lies as the text lays it -/
def oppTab : List Int := [0, 2, 1, 6, 5, 4, 3]
theorem opp_in {W : World} {rest : List (String × DataW Unit)} (h : laidMet Tryd.prog (("firkin/prune.opposites", Rows.laid_firkin_prune_opposites) :: rest) W) : OppT W := by
  have hT : Lib.TabIs Tryd.prog W "firkin/prune.opposites" .i64 oppTab := Lib.tabIs_of_head (n := 7) (show Tryd.prog.globalNamed "firkin/prune.opposites" = some 0 by kernel_rfl)
    (show (Tryd.prog.globals[0]?).map (·.type) = some 96 by kernel_rfl) Tryd.underlying96 Tryd.underlying3 (by kernel_rfl) (by kernel_rfl) (h : laidMet Tryd.prog (("firkin/prune.opposites", Lib.tabData .i64 oppTab) :: rest) W)
  intro i hi
  have := hT.cell (show Tryd.prog.globalNamed "firkin/prune.opposites" = some 0 by kernel_rfl) i (by simpa [oppTab] using hi)
  rw [this]
  have all : ∀ j : Fin 7, oppTab.getD j.1 0 = ((oppN j.1 : Nat) : Int) := by decide
  rw [all ⟨i, hi⟩]
theorem opp_inH {W : World} (h : laidMetH Tryd.prog [("firkin/prune.opposites", Rows.laid_firkin_prune_opposites)] W) : OppT W := by
  rw [MakeChecks.laidMetH_plain _ _ _ (by kernel_rfl)] at h
  exact opp_in h
end Go.Proofs.YtpmipdnmhffkeaaDoor
