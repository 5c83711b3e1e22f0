/-
  Joined: QryD
-/
import Derived.Lib.Zigzag
import Derived.Deep.QuietTactic
import Derived.BigQuiet
import Derived.Deep.RegionHeld3
import Derived.Deep.DrawnRows
import Derived.Shelf.Strings.Replace
import Derived.Shelf.Strconv.Itoa4
import Derived.Shelf.Strings.OnBuilder
import Derived.Test.YtjcfjjhhbcgcmaaGreatProg
import Derived.Lib.SmallJoins
import Derived.Lib.AppendIntMem
import Derived.Laws.StructEq
import Derived.Laws.Rows
import Derived.Laws.ResultCell
import Derived.Deep.RegionWith
import Derived.Test.YtjcfjjhhbcgcmaaGreatZ6
set_option linter.unusedVariables false
set_option linter.unusedSimpArgs false
set_option maxRecDepth 100000
namespace Go.Proofs.YtjcfjjhhbcgcmaaGreat
open Go.RowKit
theorem find_val (cs : List Co) (n : Tx) : ∃ (k : Nat) (b : Bool), findV (findC cs n) = .tuple #[.int .i64 k, .bool b] ∧ k = (findC cs n).getD 0 ∧ b = hasC cs n := by
  unfold hasC
  cases findC cs n with
  | none => exact ⟨0, false, rfl, rfl, rfl⟩
  | some k => exact ⟨k, true, rfl, rfl, rfl⟩
theorem find_dlt {cs : List Co} (n : Tx) (h : 0 < cs.length) : (findC cs n).getD 0 < cs.length := by
  cases hf : findC cs n with
  | none => exact h
  | some k => exact find_lt hf
set_option maxHeartbeats 1000000 in
theorem sum1_any (v : Value) (cs : List Co) (b : Nat) (a : Ag) (w : World) (hb : Blk w b 22 #[v]) (hv : Ks w v cs) (hcl : cs.length ≤ 1000) (h0 : 0 < cs.length) :
    Calls Tryz.prog 64 #[agV a, .pointer (some ⟨b, 0, none⟩)] w fun e w' => e = .returned (.bool (sumN cs a)) ∧ Fr Non w w' := by
  have F0 : Fr Non w (w.alloc (.cells #[.int .i64 a.op, .string ⟨a.col.toArray⟩] 50)) := (Fr.refl Non w).alloc _
  have B0 := Lib.hid (ag_new w _ a rfl)
  have HB0 := Lib.hid (hb.fr F0 (fun e => e))
  have hV := Lib.hid (hv.non F0)
  have F := Lib.hid (fun W (h : Ks W v cs) => sfind_any v cs a.col W h (by omega))
  obtain ⟨k, bb, hfv, hk, -⟩ := find_val cs a.col
  rw [hfv] at F
  have hkl : k < cs.length := by rw [hk]; exact find_dlt a.col h0
  have HE0 : Hid (sumN cs a = (decide (a.op = 3) && decide (cs[k].ty ≠ 1))) := Lib.hid (by
    unfold sumN
    rw [← hk, List.getElem?_eq_getElem hkl])
  have HF := Lib.hid F0
  have hbl := hb.lt
  obtain ⟨vA, vc, hve⟩ := hv.shape
  clear hfv hk F0 hv hb
  obtain ⟨o, c⟩ := a
  unfold agV
  dsimp only at *
  subst hve
  generalize sumN cs _ = r at *
  have c0 := HB0.out.cell 0
  simp at c0
  go_enter Tryz.func64, Tryz.ntmps64
  go_wp2_with fail
  refine (F.out _ hV.out).mono ?_
  rintro e w1 ⟨rfl, f1⟩
  obtain ⟨g0, g1⟩ := agB_cells (B0.out.fr f1 (fun e => e))
  have c1 := (HB0.out.fr f1 (fun e => e)).cell 0
  simp at c1
  obtain ⟨ca, rfl, hcn, hct⟩ := Ks.findS (hV.out.non f1) k hkl
  generalize cs[k].ty = ct at *
  have F1 := Lib.hid (HF.out.trans f1)
  clear f1 hcn c0
  by_cases h3 : o = 3
  · have HE : Hid (r = decide (ct ≠ 1)) := Lib.hid (by rw [HE0.out, decide_eq_true h3, Bool.true_and])
    clear HE0
    subst h3
    by_cases hc1 : ct = 1
    · have HE2 : Hid (r = false) := Lib.hid (by rw [HE.out]; exact decide_eq_false (fun e => e hc1))
      have hcb : (ct != 1) = false := by rw [hc1]; rfl
      clear HE hc1
      go_wp2
      go_ret
      exact ⟨ret_boolE HE2.out.symm, F1.out⟩
    · have HE2 : Hid (r = true) := Lib.hid (by rw [HE.out]; exact decide_eq_true hc1)
      have hcb : (ct != 1) = true := by rw [bne_iff_ne]; exact hc1
      clear HE hc1
      go_wp2
      go_ret
      exact ⟨ret_boolE HE2.out.symm, F1.out⟩
  · have h3b : (o == 3) = false := by rw [beq_eq_false_iff_ne]; exact h3
    have HE : Hid (r = false) := Lib.hid (by rw [HE0.out, decide_eq_false h3, Bool.false_and])
    clear HE0 h3
    go_wp2
    go_ret
    exact ⟨ret_boolE HE.out.symm, F1.out⟩
theorem sidx_any (cs : List Co) (b : Nat) (v : Value) (l : List Ag) (w : World) (hv : Gs w v l) (hl : l.length ≤ 1000000000) (HM : Hid (∀ k (h : k < l.length) W, Fr Non w W → Calls Tryz.prog 64 #[agV l[k], .pointer (some ⟨b, 0, none⟩)] W fun e w' => e = .returned (.bool (sumN cs l[k])) ∧ Fr Non W w')) :
    Calls Tryz.prog 90 #[v, .func (.func 64) #[] #[.pointer (some ⟨b, 0, none⟩)]] w fun e w' => ∃ z : Int, e = .returned (.int .i64 z) ∧ decide (0 ≤ z) = l.any (sumN cs) ∧ Fr Non w w' := by
  obtain ⟨A, c, rfl, hlc, hn, hcell⟩ := hv
  have HC := Lib.hid hcell
  have HN := Lib.hid hn
  clear hcell hn
  go_enter Tryz.func90, Tryz.ntmps90
  go_wp2
  go_loopw [8] (fun i wr => ∃ (k : Nat), k ≤ l.length ∧ i = .int .i64 k ∧ Hid ((l.take k).any (sumN cs) = false) ∧ Fr Non w wr) (fun i _ => l.length - (intOf i).toNat)
  case atStart => exact ⟨0, Nat.zero_le _, rfl, Lib.hid rfl, Fr.refl _ _⟩
  case round =>
    obtain ⟨k, hk, rfl, hne, hfr⟩ := hrel
    by_cases hlt : k < l.length
    · cases A with
      | none => have := HN.out rfl; omega
      | some a =>
        obtain ⟨hc0, hc1⟩ := ag_lit ((HC.out a rfl k hlt).non hfr)
        have HY := Lib.hid (fun h => any_moreG hlt hne.out h)
        have HX : Hid (sumN cs l[k] = true → l.any (sumN cs) = true) := Lib.hid (fun h => List.any_eq_true.2 ⟨_, List.getElem_mem hlt, h⟩)
        have M := fun W (hf : Fr Non wr W) => HM.out k hlt W (hfr.trans hf)
        clear hne
        generalize l[k] = x at *
        obtain ⟨xo, xn⟩ := x
        unfold agV at M
        dsimp only at hc0 hc1 HY HX M
        have HF := Lib.hid hfr
        clear hfr
        cases hx : sumN cs ⟨xo, xn⟩
        · have HE := Lib.hid (HY.out hx)
          simp only [hx] at M
          replace M := Lib.hid M
          clear HX HY hx
          go_wp2_with fail
          refine (M.out _ (Fr.refl _ _)).mono ?_
          rintro e w2 ⟨rfl, f2⟩
          go_wp2
          go_roundw
          case rel => exact ⟨k + 1, by omega, by go_num, HE, HF.out.trans f2⟩
          case measure => simp [intOf]; omega
        · have HE := Lib.hid (HX.out hx)
          simp only [hx] at M
          replace M := Lib.hid M
          clear HX HY hx
          go_wp2_with fail
          refine (M.out _ (Fr.refl _ _)).mono ?_
          rintro e w2 ⟨rfl, f2⟩
          go_wp2
          go_ret
          exact ⟨_, rfl, by rw [HE.out]; exact decide_eq_true (by omega), HF.out.trans f2⟩
    · have HE : Hid (l.any (sumN cs) = false) := Lib.hid (by have := hne.out; rwa [List.take_of_length_le (by omega)] at this)
      clear hne
      go_wp2
      go_ret
      exact ⟨_, rfl, by rw [HE.out]; rfl, hfr⟩
theorem sconts_any (cs : List Co) (b : Nat) (v : Value) (l : List Ag) (w : World) (hv : Gs w v l) (hl : l.length ≤ 1000000000) (HM : Hid (∀ k (h : k < l.length) W, Fr Non w W → Calls Tryz.prog 64 #[agV l[k], .pointer (some ⟨b, 0, none⟩)] W fun e w' => e = .returned (.bool (sumN cs l[k])) ∧ Fr Non W w')) :
    Calls Tryz.prog 63 #[v, .func (.func 64) #[] #[.pointer (some ⟨b, 0, none⟩)]] w fun e w' => e = .returned (.bool (l.any (sumN cs))) ∧ Fr Non w w' := by
  have h0 := Lib.hid (sidx_any cs b v l w hv hl HM)
  obtain ⟨A, c, rfl⟩ := hv.shape
  clear hv HM
  go_enter Tryz.func63, Tryz.ntmps63
  go_wp2_with fail
  refine h0.out.mono ?_
  rintro e w1 ⟨z, rfl, hz, f1⟩
  go_wp2
  go_ret
  exact ⟨rfl, f1⟩
theorem Qin.new1 {w : World} {q : Qy} {c : Value} {s : Kv} {g : Value} (h : QyS w q c s g) (o : Obj) : Qin w (w.heap.size + 1) q c s g ((w.alloc o).alloc (.cells (qyC q c s g) 31)) := by
  have F0 : Fr Non w (w.alloc o) := (Fr.refl Non w).alloc _
  have F1 : Fr Non (w.alloc o) ((w.alloc o).alloc (.cells (qyC q c s g) 31)) := (Fr.refl Non _).alloc _
  exact ⟨F0.trans F1, qy_new _ _ q c s g (by simp), h.non (F0.trans F1)⟩
theorem named_len (cs : List Co) {q : Qy} (hs : SmQ q) (hcl : cs.length ≤ 1000) : (namedQ cs q).length ≤ 1031 := by
  unfold namedQ
  split
  · rw [namesC_len]; omega
  · rw [List.length_append, List.length_append]
    have h1 := agN_len q.aggs
    have h2 := hs.cols
    have h3 := hs.aggs
    have h4 : (byN q.by_).length ≤ 1 := by unfold byN; split <;> simp
    omega
set_option maxHeartbeats 2000000 in
theorem qsuits_any (v : Value) (cs : List Co) (q : Qy) (c : Value) (s : Kv) (g : Value) (w : World) (hv : Ks w v cs) (hcl : cs.length ≤ 1000) (h0 : 0 < cs.length) (hq : QyS w q c s g) (hs : SmQ q) :
    Calls Tryz.prog 39 #[v, qyV q c s g] w fun e w' => e = .returned (.bool (suitQ cs q)) ∧ Fr Non w w' := by
  have Q0 := Lib.hid (Qin.new1 hq (.cells #[v] 22))
  have B0 : Hid (Blk ((w.alloc (.cells #[v] 22)).alloc (.cells (qyC q c s g) 31)) w.heap.size 22 #[v]) := Lib.hid ((Blk.new _ _ _).fr ((Fr.refl Non _).alloc _) (fun e => e))
  have HV0 := Lib.hid hv
  have N1 := Lib.hid (fun W (hf : Fr Non w W) (h : QyS W q c s g) => named_any v cs q c s g W (hv.non hf) hcl h hs)
  have F := Lib.hid (fun (n : Tx) W (hf : Fr Non w W) => sfind_any v cs n W (hv.non hf) (by omega))
  have S1 := Lib.hid (fun W (hf : Fr Non w W) (h : QyS W q c s g) (hb : Blk W w.heap.size 22 #[v]) => sconts_any cs w.heap.size g q.aggs W h.aggs (by have := hs.aggs; omega) (Lib.hid fun k _ W2 hf2 => sum1_any v cs w.heap.size q.aggs[k] W2 (hb.fr hf2 (fun e => e)) (hv.non (hf.trans hf2)) hcl h0))
  have HE0 : Hid (suitQ cs q = ((namedQ cs q).all (hasC cs) && !(q.aggs.any (sumN cs)))) := Lib.hid rfl
  have hmf : ∀ (fn : Fn) (first cap : Array Value) (w : World), (Instr.makeFunc fn first cap).run Tryz.prog w = .ok (.func fn first cap) w := fun _ _ _ _ => rfl
  have hnl := named_len cs hs hcl
  generalize suitQ cs q = r at *
  generalize namedQ cs q = ns at *
  generalize q.aggs.any (sumN cs) = bs at *
  clear hs
  obtain ⟨cA, cc, hce⟩ := hq.cols.shape
  obtain ⟨gA, gc, hge⟩ := hq.aggs.shape
  clear hq
  obtain ⟨tab, cols, ⟨⟨wo, wc, wm, ⟨wn, wi, wt⟩, wk, wp⟩, wks⟩, aggs, by_⟩ := q
  obtain ⟨sA, sn, sc⟩ := s
  obtain ⟨vA, vc, hve⟩ := hv.shape
  dsimp only at hce hge
  subst hce
  subst hge
  subst hve
  unfold qyV qyC kidV at *
  dsimp only [Pd.hd, Pd.kids] at *
  clear hv
  have c0 := B0.out.cell 0
  simp at c0
  go_enter Tryz.func39, Tryz.ntmps39
  go_wp2_with fail
  refine (N1.out _ Q0.out.fr Q0.out.sls).mono ?_
  rintro e w1 ⟨u1, rfl, ho1, f1⟩
  have Q1 := Lib.hid (Q0.out.non f1)
  have B1 := Lib.hid (B0.out.fr f1 (fun e => e))
  have HO1 := Lib.hid ho1.vs
  obtain ⟨uA, uc, rfl⟩ := ho1.shape
  clear f1 ho1 c0 Q0 B0 N1
  go_wp2
  go_loopw [13] (fun i wr => ∃ k : Nat, k ≤ ns.length ∧ i = .int .i64 k ∧ Hid ((ns.take k).all (hasC cs) = true) ∧ Hid (Qin w (w.heap.size + 1) ⟨tab, cols, ⟨⟨wo, wc, wm, ⟨wn, wi, wt⟩, wk, wp⟩, wks⟩, aggs, by_⟩ (.slice cA cols.length cc) ⟨sA, sn, sc⟩ (.slice gA aggs.length gc) wr) ∧ Hid (Blk wr w.heap.size 22 #[.slice vA cs.length vc]) ∧ Hid (Vs sv wr (.slice uA ns.length uc) ns)) (fun i _ => ns.length - (intOf i).toNat)
  case atStart => exact ⟨0, Nat.zero_le _, rfl, Lib.hid rfl, Q1, B1, HO1⟩
  case round =>
    clear Q1 B1 HO1
    obtain ⟨k, hk, rfl, HT, QR, BR, OR⟩ := hrel
    have c0 := BR.out.cell 0
    simp at c0
    by_cases hlt : k < ns.length
    · obtain ⟨a, rfl, _, _, hel⟩ := OR.out.addr (show 0 < ns.length by omega)
      have d0 := hel k hlt
      unfold sv at d0
      have HX : Hid (hasC cs ns[k] = false → r = false) := Lib.hid (fun e => by
        have : ns.all (hasC cs) = false := by rw [List.all_eq_false]; exact ⟨_, List.getElem_mem hlt, by rw [e]; simp⟩
        rw [HE0.out, this]; rfl)
      have HY : Hid (hasC cs ns[k] = true → (ns.take (k + 1)).all (hasC cs) = true) := Lib.hid (fun e => by
        rw [List.take_succ_eq_append_getElem hlt, List.all_append, HT.out]; simp [e])
      have FN := Lib.hid (F.out ns[k])
      clear HT hel
      generalize ns[k] = y at *
      obtain ⟨k0, bb, hfv, -, hbb⟩ := find_val cs y
      rw [hfv] at FN
      rw [← hbb] at HX HY
      clear hfv hbb
      cases bb
      · have HE := Lib.hid (HX.out rfl)
        clear HX HY
        go_wp2_with fail
        refine (FN.out _ QR.out.fr).mono ?_
        rintro e w2 ⟨rfl, f2⟩
        go_wp2
        go_ret
        exact ⟨ret_boolE HE.out.symm, QR.out.fr.trans f2⟩
      · have HE := Lib.hid (HY.out rfl)
        clear HX HY
        go_wp2_with fail
        refine (FN.out _ QR.out.fr).mono ?_
        rintro e w2 ⟨rfl, f2⟩
        have Q2 := Lib.hid (QR.out.non f2)
        have B2 := Lib.hid (BR.out.fr f2 (fun e => e))
        have O2 := Lib.hid (OR.out.non f2)
        clear f2
        go_wp2
        go_roundw
        case rel => exact ⟨k + 1, by omega, by go_num, HE, Q2, B2, O2⟩
        case measure => simp [intOf]; omega
    · have HE : Hid (r = !bs) := Lib.hid (by
        have h := HT.out
        rw [List.take_of_length_le (by omega)] at h
        rw [HE0.out, h, Bool.true_and])
      clear HE0 HT
      obtain ⟨g0, g1, g2, g3, g4, g5, g6, g7, g8, g9, g10, g11, g12⟩ := QR.out.cells
      dsimp only [Pd.hd, Pd.kids] at g0 g1 g2 g3 g4 g5 g6 g7 g8 g9 g10 g11 g12
      go_wp2_with fail
      refine (S1.out _ QR.out.fr QR.out.sls BR.out).mono ?_
      rintro e w2 ⟨rfl, f2⟩
      go_wp2
      go_ret
      exact ⟨ret_boolE HE.out.symm, QR.out.fr.trans f2⟩
set_option maxHeartbeats 2000000 in
theorem qfits_any (v : Value) (cs : List Co) (q : Qy) (c : Value) (s : Kv) (g : Value) (w : World) (hv : Ks w v cs) (hcl : cs.length ≤ 1000) (hcb : ∀ c ∈ cs, c.name.length ≤ 1000) (hq : QyS w q c s g) (hs : SmQ q) :
    Calls Tryz.prog 21 #[v, qyV q c s g] w fun e w' => e = .returned (.int .i64 (fitQ cs q)) ∧ Fr Non w w' := by
  have Q0 := Lib.hid (Qin.new hq)
  have M1 := Lib.hid (fun W (h : QyS W q c s g) => qmay_any q c s g W h hs)
  have C1 := Lib.hid (fun W (hf : Fr Non w W) => scheck_any v cs W (hv.non hf) (by omega) (fun c hc => by have := hcb c hc; omega))
  have P1 := Lib.hid (fun W (hf : Fr Non w W) (h : QyS W q c s g) => pfits_any cs hcl hcb v q.whr.hd s q.whr.kids W (hv.non hf) h.kids h.num (by rw [← Pd.eta]; exact hs.lens) (by rw [← Pd.eta]; exact hs.deep))
  rw [← Pd.eta] at P1
  have S1 : Hid (chkC cs = 0 → ∀ W, Fr Non w W → QyS W q c s g → Calls Tryz.prog 39 #[v, qyV q c s g] W fun e w' => e = .returned (.bool (suitQ cs q)) ∧ Fr Non W w') := Lib.hid (fun e W hf h => qsuits_any v cs q c s g W (hv.non hf) hcl (by have := (chk_is e).1; omega) h hs)
  have HE0 : Hid (fitQ cs q = if mayQ q = false ∨ ¬ chkC cs = 0 then 1 else if typP cs q.whr = true ∧ suitQ cs q = true then 0 else 10) := Lib.hid rfl
  have HP : Hid (mayQ q = true → chkC cs = 0 → fitP cs q.whr = if typP cs q.whr = true then 0 else 10) := Lib.hid (fun e e2 => by
    unfold fitP
    rw [if_neg (by rw [(may_parts e).2, e2]; simp)])
  generalize fitQ cs q = r at *
  generalize mayQ q = bm at *
  generalize suitQ cs q = bs at *
  generalize typP cs q.whr = bt at *
  generalize fitP cs q.whr = fp at *
  generalize chkC cs = z at *
  unfold pdV pdC at P1
  clear hs
  obtain ⟨cA, cc, hce⟩ := hq.cols.shape
  obtain ⟨gA, gc, hge⟩ := hq.aggs.shape
  clear hq
  obtain ⟨tab, cols, ⟨⟨wo, wc, wm, ⟨wn, wi, wt⟩, wk, wp⟩, wks⟩, aggs, by_⟩ := q
  obtain ⟨sA, sn, sc⟩ := s
  obtain ⟨vA, vc, hve⟩ := hv.shape
  dsimp only at hce hge
  subst hce
  subst hge
  subst hve
  unfold qyV qyC kidV at *
  dsimp only [Pd.hd, Pd.kids] at *
  clear hv
  go_enter Tryz.func21, Tryz.ntmps21
  go_wp2_with fail
  refine (M1.out _ Q0.out.sls).mono ?_
  rintro e w1 ⟨rfl, f1⟩
  have Q1 := Lib.hid (Q0.out.non f1)
  clear f1
  cases bm
  · have HE : Hid (r = 1) := Lib.hid (by rw [HE0.out, if_pos (.inl rfl)])
    clear HE0 HP S1
    go_wp2
    go_ret
    exact ⟨ret_int HE.out.symm, Q1.out.fr⟩
  · go_wp2_with fail
    refine (C1.out _ Q1.out.fr).mono ?_
    rintro e w2 ⟨rfl, f2⟩
    have Q2 := Lib.hid (Q1.out.non f2)
    clear f2
    obtain ⟨g0, g1, g2, g3, g4, g5, g6, g7, g8, g9, g10, g11, g12⟩ := Q2.out.cells
    dsimp only [Pd.hd, Pd.kids] at g0 g1 g2 g3 g4 g5 g6 g7 g8 g9 g10 g11 g12
    by_cases hz : z = 0
    · have HP2 := Lib.hid (HP.out (by trivial) hz)
      have HE2 : Hid (r = if bt = true ∧ bs = true then 0 else 10) := Lib.hid (by rw [HE0.out, if_neg (by rw [hz]; simp)])
      have S2 := Lib.hid (S1.out hz)
      clear HE0 HP S1
      subst hz
      go_wp2_with fail
      refine (P1.out _ Q2.out.fr Q2.out.sls).mono ?_
      rintro e w3 ⟨rfl, f3⟩
      have Q3 := Lib.hid (Q2.out.non f3)
      clear f3
      clear g0 g1 g2 g3 g4 g5 g6 g7 g8 g9 g10 g11 g12
      obtain ⟨g0, g1, g2, g3, g4, g5, g6, g7, g8, g9, g10, g11, g12⟩ := Q3.out.cells
      dsimp only [Pd.hd, Pd.kids] at g0 g1 g2 g3 g4 g5 g6 g7 g8 g9 g10 g11 g12
      cases bt
      · have hfp : fp = 10 := by rw [HP2.out]; rfl
        have HE : Hid (r = 10) := Lib.hid (by rw [HE2.out]; simp)
        clear HE2 HP2 S2
        subst hfp
        go_wp2
        go_ret
        exact ⟨ret_int HE.out.symm, Q3.out.fr⟩
      · have hfp : fp = 0 := by rw [HP2.out]; rfl
        clear HP2
        subst hfp
        go_wp2_with fail
        refine (S2.out _ Q3.out.fr Q3.out.sls).mono ?_
        rintro e w4 ⟨rfl, f4⟩
        have Q4 := Lib.hid (Q3.out.non f4)
        clear f4
        cases bs
        · have HE : Hid (r = 10) := Lib.hid (by rw [HE2.out]; simp)
          clear HE2
          go_wp2
          go_ret
          exact ⟨ret_int HE.out.symm, Q4.out.fr⟩
        · have HE : Hid (r = 0) := Lib.hid (by rw [HE2.out]; simp)
          clear HE2
          go_wp2
          go_ret
          exact ⟨ret_int HE.out.symm, Q4.out.fr⟩
    · have hzb : (z != 0) = true := by rw [bne_iff_ne]; exact hz
      have HE : Hid (r = 1) := Lib.hid (by rw [HE0.out, if_pos (.inr hz)])
      clear HE0 HP S1 hz
      go_wp2
      go_ret
      exact ⟨ret_int HE.out.symm, Q2.out.fr⟩
end Go.Proofs.YtjcfjjhhbcgcmaaGreat
