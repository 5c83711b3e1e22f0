/-
  Joined: Layer 17: the document's May, Small, typed, Fits. · Layer 18: which queries there may be, the program's: the document's. · Layer 18: which queries there may be, the program's: a plain one, one of aggregates. · Layer 18: which queries there may be, the program's: what is asked for, as queries have it. · Layer 18: which queries there may be, the program's: a query's text, the program's. · A region that draws, walked by hand: what all steps keep, made stronger midway. · Layer 17: the text of a predicate, the document's.
-/
import Derived.Laws.StructEq
import Derived.Laws.Rows
import Derived.Laws.ResultCell
import Derived.Lib.Zigzag
import Derived.Lib.DecodeN
import Derived.Laws.RangeAny
import Derived.Laws.Cover4
import Derived.Laws.Cover1
import Derived.Deep.QuietTactic
import Derived.BigQuiet
import Derived.Deep.RegionHeld3
import Derived.Deep.DrawnRows
import Derived.Lib.SmallJoins
import Derived.Lib.AppendIntMem
import Derived.Test.YtibopcceffncpaaDoorZ4
import Derived.Test.YtibopcceffncpaaDoorZ3
import Derived.Test.YtibopcceffncpaaDoorZ2
import Derived.Test.YtibopcceffncpaaDoorZ1

namespace Go.Proofs.YtibopcceffncpaaDoor
set_option linter.unusedVariables false
set_option linter.unusedSimpArgs false
set_option maxRecDepth 100000
open Go.RowKit

set_option maxHeartbeats 2000000 in
theorem rpmay_any (h : Ph) (t : Kv) (ks : List Pd) (w : World) (hk : Kd w t ks) (hlen : lenP (.mk h ks) = true) :
    Calls Tryd.prog 26 #[pdV h t] w fun e w' => e = .returned (.bool (mayP (.mk h ks))) ∧ Fr Non w w' := by
  have F0 : Fr Non w (w.alloc (.cells (pdC h t) 27)) := (Fr.refl Non w).alloc _
  have HM := Lib.hid (may_size (.mk h ks))
  have C1 := rsize_any (.mk h ks) t 16 6 6 _ rfl (hk.non F0) hlen (by omega) (by omega) (by omega)
  have C2 := Lib.hid (fun W hk => ronep_any (.mk h ks) t W hk hlen)
  have PB := Lib.hid (pd_new w _ h t rfl)
  have hs := (size_is (.mk h ks) 16 6 (by omega)).2.2
  generalize sizeP (.mk h ks) 16 6 = z at *
  generalize mayP (.mk h ks) = r at *
  generalize oneP (.mk h ks) = b at *
  dsimp only [Pd.hd, Pd.kids] at C1 C2
  have C1 := Lib.hid C1
  have HK := Lib.hid (hk.non F0)
  have F0 := Lib.hid F0
  clear hk hlen
  obtain ⟨ho, hc, hm, ⟨vn, vi, vt⟩, hkd, hp⟩ := h
  obtain ⟨A, nn, c⟩ := t
  unfold pdV pdC kidV at *
  dsimp only at *
  by_cases h16 : z ≤ 16
  · have HE : Hid (r = b) := Lib.hid (by rw [← HM.out, decide_eq_true h16]; rfl)
    clear HM
    go_enter Tryd.func26, Tryd.ntmps26
    go_wp2_with fail
    refine C1.out.mono ?_
    rintro e w1 ⟨rfl, f1⟩
    obtain ⟨g0, g1, g2, g3, g4, g5, g6, g7, g8⟩ := pdB_cells (PB.out.fr f1 (fun e => e))
    dsimp only at g0 g1 g2 g3 g4 g5 g6 g7 g8
    have HK1 := Lib.hid (HK.out.non f1)
    have F1 := Lib.hid (F0.out.trans f1)
    clear f1
    go_wp2_with fail
    refine (C2.out _ HK1.out).mono ?_
    rintro e w2 ⟨rfl, f2⟩
    go_wp2
    go_ret
    exact ⟨ret_boolE HE.out.symm, F1.out.trans f2⟩
  · have HE : Hid (r = false) := Lib.hid (by rw [← HM.out, decide_eq_false h16]; rfl)
    clear HM
    go_enter Tryd.func26, Tryd.ntmps26
    go_wp2_with fail
    refine C1.out.mono ?_
    rintro e w1 ⟨rfl, f1⟩
    go_wp2
    go_ret
    exact ⟨ret_boolE HE.out.symm, F0.out.trans f1⟩

/-! ### Small -/
theorem lenP_is (h : Ph) (ks : List Pd) : lenP (.mk h ks) = (lenH h ks.length && ks.all lenP) := by rw [lenP, lenL_all]
theorem depL_is {ks : List Pd} {m : Nat} (h : ∀ x ∈ ks, depP x ≤ m) : depL ks ≤ m := by
  induction ks with
  | nil => rw [depL]; omega
  | cons x r ih => rw [depL]; have := h x (List.mem_cons_self ..); have := ih (fun y hy => h y (List.mem_cons_of_mem _ hy)); omega
/-- yes only if P -/
def SmEnd (P : Prop) (e : Ending) : Prop := ∃ b, e = .returned (.bool b) ∧ (b = true → P)
set_option maxHeartbeats 4000000 in
theorem rpsmall_any (p : Pd) : ∀ (t : Kv) (m : Nat) (mz : Int) (w : World), mz = m → m ≤ 1000 → Kd w t p.kids →
    Calls Tryd.prog 12 #[pdV p.hd t, .int .i64 mz] w fun e w' => SmEnd (lenP p = true ∧ depP p ≤ m) e ∧ Fr Non w w' := by
  induction p using Pd.ind with
  | h hd ks ih =>
    intro t m mz w hmz hm1 hk
    subst hmz
    have hn : t.n = ks.length := hk.len
    have F0 : Fr Non w (w.alloc (.cells (pdC hd t) 27)) := (Fr.refl Non w).alloc _
    have HB := Lib.hid (pd_new w _ hd t rfl)
    have HE : Hid (lenH hd ks.length = true → 1 ≤ m → (∀ j (h : j < ks.length), lenP ks[j] = true ∧ depP ks[j] ≤ m - 1) → lenP (.mk hd ks) = true ∧ depP (.mk hd ks) ≤ m) := Lib.hid (fun a b c => by
      refine ⟨?_, ?_⟩
      · rw [lenP_is, a, Bool.true_and, List.all_eq_true]
        intro x hx
        obtain ⟨j, hj, rfl⟩ := List.mem_iff_getElem.1 hx
        exact (c j hj).1
      · have : depL ks ≤ m - 1 := depL_is (fun x hx => by obtain ⟨j, hj, rfl⟩ := List.mem_iff_getElem.1 hx; exact (c j hj).2)
        rw [depP]; omega)
    have IH : Hid (1 ≤ m → ∀ k (h : k < ks.length) (W : World) (t' : Kv), Kd W t' ks[k].kids →
        Calls Tryd.prog 12 #[pdV ks[k].hd t', .int .i64 ((m : Int) - 1)] W fun e w' => SmEnd (lenP ks[k] = true ∧ depP ks[k] ≤ m - 1) e ∧ Fr Non W w') :=
      Lib.hid (fun h1 k h W t' a => ih _ (List.getElem_mem h) t' (m - 1) _ W (by omega) (by omega) a)
    have HK : Hid (Kd w t ks) := Lib.hid hk
    have HF := Lib.hid F0
    have HLH : Hid (∀ a b c d, a = hd.col.length → b = hd.pat.length → c = hd.val.txt.length → d = ks.length → d ≤ 20 → a ≤ 100 → b ≤ 100 → c ≤ 100 → lenH hd ks.length = true) := Lib.hid (fun a b c d e1 e2 e3 e4 h1 h2 h3 h4 => by unfold lenH; exact decide_eq_true ⟨by omega, by omega, by omega, by omega⟩)
    generalize lenH hd ks.length = lh at *
    generalize lenP (.mk hd ks) = r at *
    generalize depP (.mk hd ks) = dd at *
    clear ih hk F0
    obtain ⟨ho, hc, hm, ⟨vn, vi, vt⟩, hkd, hp⟩ := hd
    obtain ⟨A, n, c⟩ := t
    dsimp only at hn
    have HL := Lib.hid hn
    have s1 := slen hc
    have s2 := slen hp
    have s3 := slen vt
    dsimp only at HLH
    unfold pdV pdC kidV
    dsimp only [Pd.hd, Pd.kids]
    clear hn
    by_cases h1 : m < 1
    · clear HE IH HLH
      go_enter Tryd.func12, Tryd.ntmps12
      go_wp2
      go_ret
      exact ⟨⟨_, rfl, fun h => by cases h⟩, HF.out⟩
    · have IH := Lib.hid (IH.out (by omega))
      by_cases h2 : 20 < n
      · clear HE IH HLH
        go_enter Tryd.func12, Tryd.ntmps12
        go_wp2
        go_ret
        exact ⟨⟨_, rfl, fun h => by cases h⟩, HF.out⟩
      · by_cases h3 : 100 < hc.length
        · clear HE IH HLH
          go_enter Tryd.func12, Tryd.ntmps12
          go_wp2
          go_ret
          exact ⟨⟨_, rfl, fun h => by cases h⟩, HF.out⟩
        · by_cases h4 : 100 < hp.length
          · clear HE IH HLH
            go_enter Tryd.func12, Tryd.ntmps12
            go_wp2
            go_ret
            exact ⟨⟨_, rfl, fun h => by cases h⟩, HF.out⟩
          · by_cases h5 : 100 < vt.length
            · clear HE IH HLH
              go_enter Tryd.func12, Tryd.ntmps12
              go_wp2
              go_ret
              exact ⟨⟨_, rfl, fun h => by cases h⟩, HF.out⟩
            · have HE1 := Lib.hid (HE.out (HLH.out _ _ _ n rfl rfl rfl HL.out (by omega) (by omega) (by omega) (by omega)) (by omega))
              clear HE HLH
              go_enter Tryd.func12, Tryd.ntmps12
              go_wp2
              go_loopw [5] (fun i wr => ∃ k : Nat, k ≤ n ∧ i = .int .i64 k ∧ Hid (∀ j (h : j < ks.length), j < k → lenP ks[j] = true ∧ depP ks[j] ≤ m - 1) ∧ Hid (Fr Non (w.alloc (.cells (pdC ⟨ho, hc, hm, ⟨vn, vi, vt⟩, hkd, hp⟩ ⟨A, n, c⟩) 27)) wr)) (fun i _ => n - (intOf i).toNat)
              case atStart => exact ⟨0, Nat.zero_le _, rfl, Lib.hid (fun _ _ h => by omega), Lib.hid (Fr.refl _ _)⟩
              case round =>
                obtain ⟨k, hk, rfl, HT, FR⟩ := hrel
                have b8 := (HB.out.fr FR.out (fun e => e)).cell 8
                simp [pdC, kidV] at b8
                have HFw := Lib.hid (HF.out.trans FR.out)
                by_cases hlt : k < n
                · have hlt2 : k < ks.length := by have := HL.out; omega
                  obtain ⟨a, t, hA, hc2, hkk, _⟩ := HK.out.elN HFw.out k hlt2
                  have HC := Lib.hid (IH.out k hlt2 wr t (hkk.non HFw.out))
                  have HY : Hid (lenP ks[k] = true ∧ depP ks[k] ≤ m - 1 → ∀ j (h : j < ks.length), j < k + 1 → lenP ks[j] = true ∧ depP ks[j] ≤ m - 1) := Lib.hid (fun e j hj hjk => by
                    by_cases ee : j = k
                    · subst ee; exact e
                    · exact HT.out j hj (by omega))
                  dsimp only at hA
                  subst hA
                  obtain ⟨c0, c1, c2, c3, c4, c5, c6, c7, c8⟩ := hc2
                  clear hkk HT
                  generalize lenP ks[k] = y1 at *
                  generalize depP ks[k] = y2 at *
                  generalize ks[k].hd = x at *
                  obtain ⟨xo, xc, xm, ⟨xn, xi, xt⟩, xk, xp⟩ := x
                  obtain ⟨tA, tn, tc⟩ := t
                  unfold pdV pdC kidV at HC
                  dsimp only at HC c0 c1 c2 c3 c4 c5 c6 c7 c8
                  go_wp2_with fail
                  refine HC.out.mono ?_
                  rintro e w2 ⟨⟨b, rfl, hb⟩, f2⟩
                  have HB2 := Lib.hid hb
                  clear hb
                  cases b
                  · go_wp2
                    go_ret
                    exact ⟨⟨_, rfl, fun h => by cases h⟩, HFw.out.trans f2⟩
                  · have HT := Lib.hid (HY.out (HB2.out rfl))
                    clear HB2 HY
                    go_wp2
                    go_roundw
                    case rel => exact ⟨k + 1, by omega, by go_num, HT, Lib.hid (FR.out.trans f2)⟩
                    case measure => simp [intOf]; omega
                · have HE2 := Lib.hid (HE1.out (fun j hj => HT.out j hj (by have := HL.out; omega)))
                  clear HE1 HT
                  go_wp2
                  go_ret
                  exact ⟨⟨_, rfl, fun _ => HE2.out⟩, HFw.out⟩
end Go.Proofs.YtibopcceffncpaaDoor


namespace Go.Proofs.YtibopcceffncpaaDoor
set_option linter.unusedVariables false
set_option linter.unusedSimpArgs false
set_option maxRecDepth 100000
open Go.RowKit

theorem rag_any (a : Ag) (w : World) (hl : a.col.length ≤ 1000000000) :
    Calls Tryd.prog 27 #[agV a] w fun e w' => e = .returned (.bool (agB a)) ∧ Fr Non w w' := by
  have N := fun W => rname_any a.col W hl
  have HF : Hid (Fr Non w (w.alloc (.cells #[.int .i64 a.op, .string ⟨a.col.toArray⟩] 36))) := Lib.hid ((Fr.refl Non w).alloc _)
  have HE0 : Hid (agB a = if a.op = 1 then decide (a.col = []) else decide (2 ≤ a.op ∧ a.op ≤ 5) && nameB a.col) := Lib.hid rfl
  obtain ⟨o, c⟩ := a
  unfold agV
  dsimp only at *
  generalize agB _ = r at *
  by_cases h1 : o = 1
  · subst h1
    clear N
    by_cases h0 : c = []
    · subst h0
      have HE : Hid (r = true) := Lib.hid (by rw [HE0.out]; rfl)
      clear HE0
      go_enter Tryd.func27, Tryd.ntmps27
      go_wp2
      go_ret
      exact ⟨ret_boolE HE.out.symm, HF.out⟩
    · have hb : (c == []) = false := by rw [beq_eq_false_iff_ne]; exact h0
      have HE : Hid (r = false) := Lib.hid (by rw [HE0.out, if_pos rfl]; exact decide_eq_false h0)
      clear HE0 h0
      go_enter Tryd.func27, Tryd.ntmps27
      go_wp2
      go_ret
      exact ⟨ret_boolE HE.out.symm, HF.out⟩
  · have hb1 : (o == 1) = false := by rw [beq_eq_false_iff_ne]; exact h1
    by_cases h2 : o < 2
    · have HE : Hid (r = false) := Lib.hid (by rw [HE0.out, if_neg h1, decide_eq_false (by omega)]; rfl)
      clear HE0 N
      go_enter Tryd.func27, Tryd.ntmps27
      go_wp2
      go_ret
      exact ⟨ret_boolE HE.out.symm, HF.out⟩
    · by_cases h5 : 5 < o
      · have HE : Hid (r = false) := Lib.hid (by rw [HE0.out, if_neg h1, decide_eq_false (by omega)]; rfl)
        clear HE0 N
        go_enter Tryd.func27, Tryd.ntmps27
        go_wp2
        go_ret
        exact ⟨ret_boolE HE.out.symm, HF.out⟩
      · have HE : Hid (r = nameB c) := Lib.hid (by rw [HE0.out, if_neg h1, decide_eq_true (by omega)]; rfl)
        generalize nameB c = b at *
        clear HE0
        replace N := Lib.hid N
        go_enter Tryd.func27, Tryd.ntmps27
        go_wp2_with fail
        refine (N.out _).mono ?_
        rintro e w1 ⟨rfl, f1⟩
        go_wp2
        go_ret
        exact ⟨ret_boolE HE.out.symm, HF.out.trans f1⟩

theorem all_moreG {α : Type} {p : α → Bool} {l : List α} {k : Nat} (h : k < l.length) (h1 : (l.take k).all p = true) (h2 : p l[k] = true) : (l.take (k + 1)).all p = true := by
  rw [List.take_succ_eq_append_getElem h, List.all_append, h1]; simp [h2]
theorem all_badG {α : Type} {p : α → Bool} {l : List α} {k : Nat} (h : k < l.length) (h2 : p l[k] = false) : l.all p = false := by
  rw [List.all_eq_false]; exact ⟨_, List.getElem_mem h, by rw [h2]; simp⟩
theorem all_endG {α : Type} {p : α → Bool} {l : List α} {k : Nat} (h : l.length ≤ k) (h1 : (l.take k).all p = true) : l.all p = true := by rwa [List.take_of_length_le h] at h1
theorem not_in {l : List Tx} {k : Nat} (h : k < l.length) (hn : ∀ j (hj : j < l.length), j < k → l[j] ≠ l[k]) : ¬ l[k] ∈ l.take k := by
  intro hm
  obtain ⟨j, hj, e⟩ := List.mem_iff_getElem.1 hm
  rw [List.length_take] at hj
  rw [List.getElem_take] at e
  exact hn j (by omega) (by omega) e
theorem is_in {l : List Tx} {k j : Nat} (h : k < l.length) (hj : j < k) (e : l[j] = l[k]) : l[k] ∈ l.take k := by
  rw [← e]
  exact List.mem_iff_getElem.2 ⟨j, by rw [List.length_take]; omega, by rw [List.getElem_take]⟩
set_option maxHeartbeats 2000000 in
theorem rqmay_any (q : Qy) (c : Value) (s : Kv) (g : Value) (w : World) (hq : QyS w q c s g) (hs : SmQ q) :
    Calls Tryd.prog 11 #[qyV q c s g] w fun e w' => e = .returned (.bool (mayQ q)) ∧ Fr Non w w' := by
  have Q0 := Lib.hid (Qin.new hq)
  have N := Lib.hid (fun W => rname_any q.tab W (by have := hs.tab; omega))
  have NB := Lib.hid (fun W => rname_any q.by_ W (by have := hs.by_; omega))
  have NC := Lib.hid (fun k (h : k < q.cols.length) W => rname_any q.cols[k] W (by have := hs.names _ (List.getElem_mem h); omega))
  have GA := Lib.hid (fun k (h : k < q.aggs.length) W => rag_any q.aggs[k] W (by have := hs.acol _ (List.getElem_mem h); omega))
  have P := Lib.hid (fun W (h : QyS W q c s g) => rpmay_any q.whr.hd s q.whr.kids W h.kids (by rw [← Pd.eta]; exact hs.lens))
  rw [← Pd.eta] at P
  have HE0 : Hid (mayQ q = (nameB q.tab && (mayP q.whr && (decide (q.cols.length ≤ 6 ∧ q.aggs.length ≤ 4) && (unlB q.cols && (if q.aggs.length = 0 then decide (q.by_ = []) else q.aggs.all agB && (decide (q.cols.length = 0) && (decide (q.by_ = []) || nameB q.by_)))))))) := Lib.hid (may_doc q)
  generalize mayQ q = r at *
  generalize nameB q.tab = b1 at *
  generalize mayP q.whr = b2 at *
  generalize nameB q.by_ = bn at *
  have hlc := hs.cols
  have hlg := hs.aggs
  unfold pdV pdC at P
  obtain ⟨cA, cc, hce⟩ := hq.cols.shape
  obtain ⟨gA, gc, hge⟩ := hq.aggs.shape
  clear hq hs
  obtain ⟨tab, cols, ⟨⟨wo, wc, wm, ⟨wn, wi, wt⟩, wk, wp⟩, wks⟩, aggs, by_⟩ := q
  obtain ⟨sA, sn, sc⟩ := s
  dsimp only at hce hge
  subst hce
  subst hge
  unfold qyV qyC kidV at *
  dsimp only [Pd.hd, Pd.kids] at *
  go_enter Tryd.func11, Tryd.ntmps11
  go_wp2_with fail
  refine (N.out _).mono ?_
  rintro e w1 ⟨rfl, f1⟩
  have Q1 := Lib.hid (Q0.out.non f1)
  clear f1
  cases b1
  · have HE : Hid (r = false) := Lib.hid (by rw [HE0.out]; rfl)
    clear HE0
    go_wp2
    go_ret
    exact ⟨ret_boolE HE.out.symm, Q1.out.fr⟩
  · obtain ⟨g0, g1, g2, g3, g4, g5, g6, g7, g8, g9, g10, g11, g12⟩ := Q1.out.cells
    dsimp only [Pd.hd, Pd.kids] at g0 g1 g2 g3 g4 g5 g6 g7 g8 g9 g10 g11 g12
    go_wp2_with fail
    refine (P.out _ Q1.out.sls).mono ?_
    rintro e w2 ⟨rfl, f2⟩
    have Q2 := Lib.hid (Q1.out.non f2)
    clear f2
    clear g0 g1 g2 g3 g4 g5 g6 g7 g8 g9 g10 g11 g12
    obtain ⟨g0, g1, g2, g3, g4, g5, g6, g7, g8, g9, g10, g11, g12⟩ := Q2.out.cells
    dsimp only [Pd.hd, Pd.kids] at g0 g1 g2 g3 g4 g5 g6 g7 g8 g9 g10 g11 g12
    cases b2
    · have HE : Hid (r = false) := Lib.hid (by rw [HE0.out]; rfl)
      clear HE0
      go_wp2
      go_ret
      exact ⟨ret_boolE HE.out.symm, Q2.out.fr⟩
    · by_cases h6 : 6 < cols.length
      · have HE : Hid (r = false) := Lib.hid (by rw [HE0.out, decide_eq_false (by omega)]; rfl)
        clear HE0
        go_wp2
        go_ret
        exact ⟨ret_boolE HE.out.symm, Q2.out.fr⟩
      · by_cases h4 : 4 < aggs.length
        · have HE : Hid (r = false) := Lib.hid (by rw [HE0.out, decide_eq_false (by omega)]; rfl)
          clear HE0
          go_wp2
          go_ret
          exact ⟨ret_boolE HE.out.symm, Q2.out.fr⟩
        · have HU : Hid (unlB cols = false → r = false) := Lib.hid (fun e => by rw [HE0.out, e]; simp)
          have HE1 : Hid (unlB cols = true → r = (if aggs.length = 0 then decide (by_ = []) else aggs.all agB && (decide (cols.length = 0) && (decide (by_ = []) || bn)))) := Lib.hid (fun e => by rw [HE0.out, e, decide_eq_true (by omega)]; rfl)
          clear HE0 N P
          go_wp2
          clear g0 g1 g2 g3 g4 g5 g6 g7 g8 g9 g10 g11 g12
          go_loopw [3] (fun i wr => ∃ k : Nat, k ≤ cols.length ∧ i = .int .i64 k ∧ Hid (unlK cols k) ∧ Hid (Qin w w.heap.size ⟨tab, cols, ⟨⟨wo, wc, wm, ⟨wn, wi, wt⟩, wk, wp⟩, wks⟩, aggs, by_⟩ (.slice cA cols.length cc) ⟨sA, sn, sc⟩ (.slice gA aggs.length gc) wr)) (fun i _ => cols.length - (intOf i).toNat)
          case atStart => exact ⟨0, Nat.zero_le _, rfl, Lib.hid (unlK_zero _), Q2⟩
          case round =>
            clear Q0 Q1 Q2
            obtain ⟨k, hk, rfl, HT, QR⟩ := hrel
            obtain ⟨g0, g1, g2, g3, g4, g5, g6, g7, g8, g9, g10, g11, g12⟩ := QR.out.cells
            dsimp only [Pd.hd, Pd.kids] at g0 g1 g2 g3 g4 g5 g6 g7 g8 g9 g10 g11 g12
            by_cases hlt : k < cols.length
            · obtain ⟨a, rfl, _, hcc, hel⟩ := QR.out.sls.cols.addr (show 0 < cols.length by omega)
              have c0 := hel k hlt
              unfold sv at c0
              have HX := Lib.hid (fun e => HU.out (unl_bad hlt e))
              have HX2 : Hid (∀ j (hj : j < cols.length), j < k → cols[j] = cols[k] → r = false) := Lib.hid (fun j _ hj e => HU.out (unl_dup hlt (is_in hlt hj e)))
              have HY := Lib.hid (fun e e2 => unlK_more hlt HT.out e (not_in hlt e2))
              have NK := Lib.hid (NC.out k hlt)
              clear HT hel
              generalize hy : cols[k] = y at *
              have HYE := Lib.hid hy
              clear hy
              cases hn : nameB y
              · have HE := Lib.hid (HX.out hn)
                rw [hn] at NK
                clear HX HX2 HY hn
                go_wp2_with fail
                refine (NK.out _).mono ?_
                rintro e w3 ⟨rfl, f3⟩
                go_wp2
                go_ret
                exact ⟨ret_boolE HE.out.symm, QR.out.fr.trans f3⟩
              · have HY1 := Lib.hid (HY.out hn)
                rw [hn] at NK
                clear HX HY hn
                go_wp2_with fail
                refine (NK.out _).mono ?_
                rintro e w3 ⟨rfl, f3⟩
                have Q3 := Lib.hid (QR.out.non f3)
                clear f3 QR g0 g1 g2 g3 g4 g5 g6 g7 g8 g9 g10 g11 g12 c0
                obtain ⟨g0, g1, g2, g3, g4, g5, g6, g7, g8, g9, g10, g11, g12⟩ := Q3.out.cells
                dsimp only [Pd.hd, Pd.kids] at g0 g1 g2 g3 g4 g5 g6 g7 g8 g9 g10 g11 g12
                clear g0 g2 g3 g4 g5 g6 g7 g8 g9 g10 g11 g12
                obtain ⟨a2, ha2, _, _, hel2⟩ := Q3.out.sls.cols.addr (show 0 < cols.length by omega)
                obtain rfl := Option.some.inj ha2
                have HEL := Lib.hid hel2
                have c1 := hel2 k hlt
                unfold sv at c1
                try dsimp only at c1
                rw [HYE.out] at c1
                clear hel2 ha2
                go_wp2
                go_loopw [4] (fun i wx => ∃ m : Nat, m ≤ k ∧ i = .int .i64 m ∧ Hid (∀ j (hj : j < cols.length), j < m → cols[j] ≠ y) ∧ ∃ n, wx = w3.drewN n) (fun i _ => k - (intOf i).toNat)
                case atStart => exact ⟨0, Nat.zero_le _, rfl, Lib.hid (fun _ _ h => by omega), 0, rfl⟩
                case round =>
                  obtain ⟨m, hm, rfl, hne, n, rfl⟩ := hrel
                  by_cases hmk : m < k
                  · have hml : m < cols.length := by omega
                    have c2 := HEL.out m hml
                    unfold sv at c2
                    try dsimp only at c2
                    have HZ := Lib.hid (HX2.out m hml hmk)
                    have HW : Hid (cols[m] ≠ y → ∀ j (hj : j < cols.length), j < m + 1 → cols[j] ≠ y) := Lib.hid (fun e j hj hjm => by
                      by_cases ee : j = m
                      · subst ee; exact e
                      · exact hne.out j hj (by omega))
                    clear hne
                    generalize cols[m] = z at *
                    by_cases he : z = y
                    · have HE := Lib.hid (HZ.out he)
                      have hbe : (z == y) = true := by rw [beq_iff_eq]; exact he
                      clear HZ HW he
                      go_wp2
                      go_quiet (fail)
                      go_wp2
                      go_ret
                      exact ⟨ret_boolE HE.out.symm, (Q3.out.fr.drewN n).drewN _⟩
                    · have HE := Lib.hid (HW.out he)
                      have hbe : (z == y) = false := by rw [beq_eq_false_iff_ne]; exact he
                      clear HZ HW he
                      go_wp2
                      go_quiet (fail)
                      go_wp2
                      go_roundw
                      case rel => exact ⟨m + 1, by omega, by go_num, HE, _, rfl⟩
                      case measure => simp [intOf]; omega
                  · have HE := Lib.hid (HY1.out (fun j hj hjk => hne.out j hj (by omega)))
                    clear HX2 HY1 hne
                    go_wp2
                    go_roundw
                    case rel => exact ⟨k + 1, by omega, by go_num, HE, Lib.hid (Q3.out.non ((Fr.refl Non w3).drewN n))⟩
                    case measure => simp [intOf]; omega
            · have HE2 := Lib.hid (HE1.out (unlK_all (by omega) HT.out))
              clear HT HU HE1 NC
              by_cases ha : aggs.length = 0
              · have hab : ((aggs.length : Int) == 0) = true := by rw [beq_iff_eq]; omega
                by_cases hb : by_ = []
                · have HE : Hid (r = true) := Lib.hid (by rw [HE2.out, if_pos ha]; exact decide_eq_true hb)
                  clear HE2 ha
                  subst hb
                  go_wp2
                  go_ret
                  exact ⟨ret_boolE HE.out.symm, QR.out.fr⟩
                · have hbb : (by_ == []) = false := by rw [beq_eq_false_iff_ne]; exact hb
                  have HE : Hid (r = false) := Lib.hid (by rw [HE2.out, if_pos ha]; exact decide_eq_false hb)
                  clear HE2 ha hb
                  go_wp2
                  go_ret
                  exact ⟨ret_boolE HE.out.symm, QR.out.fr⟩
              · have hab : ((aggs.length : Int) == 0) = false := by rw [beq_eq_false_iff_ne]; omega
                have HAB : Hid (aggs.all agB = false → r = false) := Lib.hid (fun e => by rw [HE2.out, if_neg ha, e]; rfl)
                have HAY : Hid (aggs.all agB = true → r = (decide (cols.length = 0) && (decide (by_ = []) || bn))) := Lib.hid (fun e => by rw [HE2.out, if_neg ha, e]; rfl)
                clear HE2 ha
                go_wp2
                clear g0 g1 g2 g3 g4 g5 g6 g7 g8 g9 g10 g11 g12
                rename World => W5
                go_loopw [5] (fun i wr => ∃ k : Nat, k ≤ aggs.length ∧ i = .int .i64 k ∧ Hid ((aggs.take k).all agB = true) ∧ Hid (Qin w w.heap.size ⟨tab, cols, ⟨⟨wo, wc, wm, ⟨wn, wi, wt⟩, wk, wp⟩, wks⟩, aggs, by_⟩ (.slice cA cols.length cc) ⟨sA, sn, sc⟩ (.slice gA aggs.length gc) wr)) (fun i _ => aggs.length - (intOf i).toNat)
                case atStart => exact ⟨0, Nat.zero_le _, rfl, Lib.hid rfl, QR⟩
                case round =>
                  clear QR hlt hk hab
                  obtain ⟨k, hk, rfl, HT, QR⟩ := hrel
                  obtain ⟨g0, g1, g2, g3, g4, g5, g6, g7, g8, g9, g10, g11, g12⟩ := QR.out.cells
                  dsimp only [Pd.hd, Pd.kids] at g0 g1 g2 g3 g4 g5 g6 g7 g8 g9 g10 g11 g12
                  by_cases hlt : k < aggs.length
                  · obtain ⟨a, rfl, _, d0, d1⟩ := Ns.gat QR.out.sls.aggs k hlt
                    have HX := Lib.hid (fun e => HAB.out (all_badG hlt e))
                    have HY := Lib.hid (fun e => all_moreG hlt HT.out e)
                    have M := GA.out k hlt
                    dsimp only at d0 d1 M
                    clear HT
                    generalize aggs[k] = x at *
                    obtain ⟨xo, xn⟩ := x
                    unfold agV at M
                    dsimp only at d0 d1 HX HY M
                    generalize agB ⟨xo, xn⟩ = bx at *
                    replace M := Lib.hid M
                    cases bx
                    · have HE := Lib.hid (HX.out rfl)
                      clear HX HY
                      go_wp2_with fail
                      refine (M.out _).mono ?_
                      rintro e w3 ⟨rfl, f3⟩
                      go_wp2
                      go_ret
                      exact ⟨ret_boolE HE.out.symm, QR.out.fr.trans f3⟩
                    · have HE := Lib.hid (HY.out rfl)
                      clear HX HY
                      go_wp2_with fail
                      refine (M.out _).mono ?_
                      rintro e w3 ⟨rfl, f3⟩
                      go_wp2
                      go_roundw
                      case rel => exact ⟨k + 1, by omega, by go_num, HE, Lib.hid (QR.out.non f3)⟩
                      case measure => simp [intOf]; omega
                  · have HE2 := Lib.hid (HAY.out (all_endG (by omega) HT.out))
                    clear HT HAB HAY GA
                    by_cases hc : cols.length = 0
                    · have hcb : ((cols.length : Int) == 0) = true := by rw [beq_iff_eq]; omega
                      by_cases hb : by_ = []
                      · have HE : Hid (r = true) := Lib.hid (by rw [HE2.out, decide_eq_true hc, decide_eq_true hb]; rfl)
                        clear HE2 hc NB
                        subst hb
                        go_wp2
                        go_ret
                        exact ⟨ret_boolE HE.out.symm, QR.out.fr⟩
                      · have hbb : (by_ == []) = false := by rw [beq_eq_false_iff_ne]; exact hb
                        have HE : Hid (r = bn) := Lib.hid (by rw [HE2.out, decide_eq_true hc, decide_eq_false hb]; rfl)
                        clear HE2 hc hb
                        go_wp2_with fail
                        refine (NB.out _).mono ?_
                        rintro e w3 ⟨rfl, f3⟩
                        go_wp2
                        go_ret
                        exact ⟨ret_boolE HE.out.symm, QR.out.fr.trans f3⟩
                    · have hcb : ((cols.length : Int) == 0) = false := by rw [beq_eq_false_iff_ne]; omega
                      have HE : Hid (r = false) := Lib.hid (by rw [HE2.out, decide_eq_false hc]; rfl)
                      clear HE2 hc NB
                      go_wp2
                      go_ret
                      exact ⟨ret_boolE HE.out.symm, QR.out.fr⟩
end Go.Proofs.YtibopcceffncpaaDoor


namespace Go.Proofs.YtibopcceffncpaaDoor
set_option linter.unusedVariables false
set_option linter.unusedSimpArgs false
set_option maxRecDepth 100000
open Go.RowKit

set_option maxHeartbeats 1000000 in
theorem mplain_any (q : Qy) (c : Value) (s : Kv) (g : Value) (w : World) (hq : QyS w q c s g) (hs : SmQ q) :
    Calls Tryd.prog 30 #[qyV q c s g] w fun e w' => e = .returned (.bool (plainQ q)) ∧ Fr Non w w' := by
  have Q0 := Lib.hid (Qin.new hq)
  have U := Lib.hid (fun W (h : QyS W q c s g) => unln_any c q.cols W h.cols (by have := hs.cols; omega) (fun x hx => by have := hs.names x hx; omega))
  have HE0 : Hid (plainQ q = (decide (q.aggs.length = 0) && (decide (q.by_ = []) && (decide (q.cols.length ≤ 6) && unlB q.cols)))) := Lib.hid rfl
  have hlc := hs.cols
  have hlg := hs.aggs
  generalize plainQ q = r at *
  generalize unlB q.cols = bu at *
  obtain ⟨cA, cc, hce⟩ := hq.cols.shape
  obtain ⟨gA, gc, hge⟩ := hq.aggs.shape
  clear hq hs
  obtain ⟨tab, cols, ⟨⟨wo, wc, wm, ⟨wn, wi, wt⟩, wk, wp⟩, wks⟩, aggs, by_⟩ := q
  obtain ⟨sA, sn, sc⟩ := s
  dsimp only at hce hge
  subst hce
  subst hge
  unfold qyV qyC kidV at *
  dsimp only [Pd.hd, Pd.kids] at *
  by_cases ha : aggs.length = 0
  · have hab : ((aggs.length : Int) == 0) = true := by rw [beq_iff_eq]; omega
    by_cases hb : by_ = []
    · subst hb
      by_cases h6 : cols.length ≤ 6
      · have HE : Hid (r = bu) := Lib.hid (by rw [HE0.out, decide_eq_true ha, decide_eq_true h6]; rfl)
        clear HE0 ha
        go_enter Tryd.func30, Tryd.ntmps30
        go_wp2_with fail
        refine (U.out _ Q0.out.sls).mono ?_
        rintro e w1 ⟨rfl, f1⟩
        go_wp2
        go_ret
        exact ⟨ret_boolE HE.out.symm, Q0.out.fr.trans f1⟩
      · have HE : Hid (r = false) := Lib.hid (by rw [HE0.out, decide_eq_false h6]; simp)
        clear HE0 ha U
        go_enter Tryd.func30, Tryd.ntmps30
        go_wp2
        go_ret
        exact ⟨ret_boolE HE.out.symm, Q0.out.fr⟩
    · have hbb : (by_ == []) = false := by rw [beq_eq_false_iff_ne]; exact hb
      have HE : Hid (r = false) := Lib.hid (by rw [HE0.out, decide_eq_false hb]; simp)
      clear HE0 ha U hb
      go_enter Tryd.func30, Tryd.ntmps30
      go_wp2
      go_ret
      exact ⟨ret_boolE HE.out.symm, Q0.out.fr⟩
  · have hab : ((aggs.length : Int) == 0) = false := by rw [beq_eq_false_iff_ne]; omega
    have HE : Hid (r = false) := Lib.hid (by rw [HE0.out, decide_eq_false ha]; rfl)
    clear HE0 U
    go_enter Tryd.func30, Tryd.ntmps30
    go_wp2
    go_ret
    exact ⟨ret_boolE HE.out.symm, Q0.out.fr⟩

set_option maxHeartbeats 1000000 in
theorem mfold_any (q : Qy) (c : Value) (s : Kv) (g : Value) (w : World) (hq : QyS w q c s g) (hs : SmQ q) :
    Calls Tryd.prog 31 #[qyV q c s g] w fun e w' => e = .returned (.bool (foldQ q)) ∧ Fr Non w w' := by
  have Q0 := Lib.hid (Qin.new hq)
  have G := Lib.hid (fun W (h : QyS W q c s g) => gconts_any g q.aggs W h.aggs (by have := hs.aggs; omega) (fun x hx => by have := hs.acol x hx; omega))
  have N := Lib.hid (fun W => sname_any q.by_ W (by have := hs.by_; omega))
  have HE0 : Hid (foldQ q = (decide (0 < q.aggs.length) && (decide (q.aggs.length ≤ 4) && (q.aggs.all agB && (decide (q.cols.length = 0) && (decide (q.by_ = []) || nameB q.by_)))))) := Lib.hid rfl
  have hlc := hs.cols
  have hlg := hs.aggs
  generalize foldQ q = r at *
  generalize q.aggs.all agB = ba at *
  generalize nameB q.by_ = bn at *
  obtain ⟨cA, cc, hce⟩ := hq.cols.shape
  obtain ⟨gA, gc, hge⟩ := hq.aggs.shape
  clear hq hs
  obtain ⟨tab, cols, ⟨⟨wo, wc, wm, ⟨wn, wi, wt⟩, wk, wp⟩, wks⟩, aggs, by_⟩ := q
  obtain ⟨sA, sn, sc⟩ := s
  dsimp only at hce hge
  subst hce
  subst hge
  unfold qyV qyC kidV at *
  dsimp only [Pd.hd, Pd.kids] at *
  by_cases ha : aggs.length = 0
  · have HE : Hid (r = false) := Lib.hid (by rw [HE0.out, decide_eq_false (by omega)]; rfl)
    have ha0 : (aggs.length : Int) ≤ 0 := by omega
    clear HE0 G N ha
    go_enter Tryd.func31, Tryd.ntmps31
    go_wp2
    go_ret
    exact ⟨ret_boolE HE.out.symm, Q0.out.fr⟩
  · by_cases h4 : aggs.length ≤ 4
    · cases ba
      · have HE : Hid (r = false) := Lib.hid (by rw [HE0.out]; simp)
        clear HE0 N
        go_enter Tryd.func31, Tryd.ntmps31
        go_wp2_with fail
        refine (G.out _ Q0.out.sls).mono ?_
        rintro e w1 ⟨rfl, f1⟩
        have Q1 := Lib.hid (Q0.out.non f1)
        clear f1
        go_wp2
        go_ret
        exact ⟨ret_boolE HE.out.symm, Q1.out.fr⟩
      · by_cases hc : cols.length = 0
        · have hcb : ((cols.length : Int) == 0) = true := by rw [beq_iff_eq]; omega
          by_cases hb : by_ = []
          · have HE : Hid (r = true) := Lib.hid (by rw [HE0.out, decide_eq_true (show 0 < aggs.length by omega), decide_eq_true h4, decide_eq_true hc, decide_eq_true hb]; rfl)
            clear HE0 N hc
            subst hb
            go_enter Tryd.func31, Tryd.ntmps31
            go_wp2_with fail
            refine (G.out _ Q0.out.sls).mono ?_
            rintro e w1 ⟨rfl, f1⟩
            have Q1 := Lib.hid (Q0.out.non f1)
            clear f1
            obtain ⟨g0, g1, g2, g3, g4, g5, g6, g7, g8, g9, g10, g11, g12⟩ := Q1.out.cells
            dsimp only [Pd.hd, Pd.kids] at g0 g1 g2 g3 g4 g5 g6 g7 g8 g9 g10 g11 g12
            go_wp2
            go_ret
            exact ⟨ret_boolE HE.out.symm, Q1.out.fr⟩
          · have hbb : (by_ == []) = false := by rw [beq_eq_false_iff_ne]; exact hb
            have HE : Hid (r = bn) := Lib.hid (by rw [HE0.out, decide_eq_true (show 0 < aggs.length by omega), decide_eq_true h4, decide_eq_true hc, decide_eq_false hb]; rfl)
            clear HE0 hb hc
            go_enter Tryd.func31, Tryd.ntmps31
            go_wp2_with fail
            refine (G.out _ Q0.out.sls).mono ?_
            rintro e w1 ⟨rfl, f1⟩
            have Q1 := Lib.hid (Q0.out.non f1)
            clear f1
            obtain ⟨g0, g1, g2, g3, g4, g5, g6, g7, g8, g9, g10, g11, g12⟩ := Q1.out.cells
            dsimp only [Pd.hd, Pd.kids] at g0 g1 g2 g3 g4 g5 g6 g7 g8 g9 g10 g11 g12
            go_wp2_with fail
            refine (N.out _).mono ?_
            rintro e w2 ⟨rfl, f2⟩
            go_wp2
            go_ret
            exact ⟨ret_boolE HE.out.symm, Q1.out.fr.trans f2⟩
        · have hcb : ((cols.length : Int) == 0) = false := by rw [beq_eq_false_iff_ne]; omega
          have HE : Hid (r = false) := Lib.hid (by rw [HE0.out, decide_eq_false hc]; simp)
          clear HE0 N hc
          go_enter Tryd.func31, Tryd.ntmps31
          go_wp2_with fail
          refine (G.out _ Q0.out.sls).mono ?_
          rintro e w1 ⟨rfl, f1⟩
          have Q1 := Lib.hid (Q0.out.non f1)
          clear f1
          obtain ⟨g0, g1, g2, g3, g4, g5, g6, g7, g8, g9, g10, g11, g12⟩ := Q1.out.cells
          dsimp only [Pd.hd, Pd.kids] at g0 g1 g2 g3 g4 g5 g6 g7 g8 g9 g10 g11 g12
          go_wp2
          go_ret
          exact ⟨ret_boolE HE.out.symm, Q1.out.fr⟩
    · have HE : Hid (r = false) := Lib.hid (by rw [HE0.out, decide_eq_false h4]; simp)
      clear HE0 G N
      go_enter Tryd.func31, Tryd.ntmps31
      go_wp2
      go_ret
      exact ⟨ret_boolE HE.out.symm, Q0.out.fr⟩

set_option maxHeartbeats 2000000 in
theorem qmay_any (q : Qy) (c : Value) (s : Kv) (g : Value) (w : World) (hq : QyS w q c s g) (hs : SmQ q) :
    Calls Tryd.prog 13 #[qyV q c s g] w fun e w' => e = .returned (.bool (mayQ q)) ∧ Fr Non w w' := by
  have Q0 := Lib.hid (Qin.new hq)
  have N := Lib.hid (fun W => sname_any q.tab W (by have := hs.tab; omega))
  have P := Lib.hid (fun W (h : QyS W q c s g) => pmay_any q.whr.hd s q.whr.kids W h.kids h.num (by rw [← Pd.eta]; exact hs.lens) (by rw [← Pd.eta]; exact hs.deep))
  rw [← Pd.eta] at P
  have A1 := Lib.hid (fun W (h : QyS W q c s g) => mplain_any q c s g W h hs)
  have A2 := Lib.hid (fun W (h : QyS W q c s g) => mfold_any q c s g W h hs)
  have HE : Hid (mayQ q = (nameB q.tab && (mayP q.whr && (plainQ q || foldQ q)))) := Lib.hid rfl
  generalize mayQ q = r at *
  generalize nameB q.tab = b1 at *
  generalize mayP q.whr = b2 at *
  generalize plainQ q = b3 at *
  generalize foldQ q = b4 at *
  unfold pdV pdC at P
  obtain ⟨cA, cc, hce⟩ := hq.cols.shape
  obtain ⟨gA, gc, hge⟩ := hq.aggs.shape
  clear hq hs
  obtain ⟨tab, cols, ⟨⟨wo, wc, wm, ⟨wn, wi, wt⟩, wk, wp⟩, wks⟩, aggs, by_⟩ := q
  obtain ⟨sA, sn, sc⟩ := s
  dsimp only at hce hge
  subst hce
  subst hge
  unfold qyV qyC kidV at *
  dsimp only [Pd.hd, Pd.kids] at *
  go_enter Tryd.func13, Tryd.ntmps13
  go_wp2_with fail
  refine (N.out _).mono ?_
  rintro e w1 ⟨rfl, f1⟩
  have Q1 := Lib.hid (Q0.out.non f1)
  clear f1
  obtain ⟨g0, g1, g2, g3, g4, g5, g6, g7, g8, g9, g10, g11, g12⟩ := Q1.out.cells
  dsimp only [Pd.hd, Pd.kids] at g0 g1 g2 g3 g4 g5 g6 g7 g8 g9 g10 g11 g12
  cases b1
  · go_wp2
    go_ret
    exact ⟨ret_boolE HE.out.symm, Q1.out.fr⟩
  · go_wp2_with fail
    refine (P.out _ Q1.out.sls).mono ?_
    rintro e w2 ⟨rfl, f2⟩
    have Q2 := Lib.hid (Q1.out.non f2)
    clear f2
    clear g0 g1 g2 g3 g4 g5 g6 g7 g8 g9 g10 g11 g12
    obtain ⟨g0, g1, g2, g3, g4, g5, g6, g7, g8, g9, g10, g11, g12⟩ := Q2.out.cells
    dsimp only [Pd.hd, Pd.kids] at g0 g1 g2 g3 g4 g5 g6 g7 g8 g9 g10 g11 g12
    cases b2
    · go_wp2
      go_ret
      exact ⟨ret_boolE HE.out.symm, Q2.out.fr⟩
    · go_wp2_with fail
      refine (A1.out _ Q2.out.sls).mono ?_
      rintro e w3 ⟨rfl, f3⟩
      have Q3 := Lib.hid (Q2.out.non f3)
      clear f3
      clear g0 g1 g2 g3 g4 g5 g6 g7 g8 g9 g10 g11 g12
      obtain ⟨g0, g1, g2, g3, g4, g5, g6, g7, g8, g9, g10, g11, g12⟩ := Q3.out.cells
      dsimp only [Pd.hd, Pd.kids] at g0 g1 g2 g3 g4 g5 g6 g7 g8 g9 g10 g11 g12
      cases b3
      · go_wp2_with fail
        refine (A2.out _ Q3.out.sls).mono ?_
        rintro e w4 ⟨rfl, f4⟩
        have Q4 := Lib.hid (Q3.out.non f4)
        clear f4
        go_wp2
        go_ret
        exact ⟨ret_boolE HE.out.symm, Q4.out.fr⟩
      · go_wp2
        go_ret
        exact ⟨ret_boolE HE.out.symm, Q3.out.fr⟩
end Go.Proofs.YtibopcceffncpaaDoor


namespace Go.Proofs.YtibopcceffncpaaDoor
set_option linter.unusedVariables false
set_option linter.unusedSimpArgs false
set_option maxRecDepth 100000
open Go.RowKit

def callsL : List Tx := [[], [], [104, 97, 115], [115, 117, 109], [109, 105, 110], [109, 97, 120]]
theorem calls_at (j : Nat) (h : j < callsL.length) : callsL[j] = wordA j := by
  have h7 : j < 6 := h
  match j, h7 with
  | 0, _ => rfl
  | 1, _ => rfl
  | 2, _ => rfl
  | 3, _ => rfl
  | 4, _ => rfl
  | 5, _ => rfl
/-- the variables lie as the program's text lays them -/
structure Lq (w : World) : Prop where
  lp : Lp w
  calls : ∀ j (h : j < callsL.length), w.cell? ⟨0, j, none⟩ = some (.string ⟨callsL[j].toArray⟩)
theorem Lq.non {w w' : World} (h : Lq w) (hf : Fr Non w w') : Lq w' :=
  ⟨h.lp.non hf, fun j hj => (hf.cell (World.block_lt_of_cell? w _ (h.calls j hj)) (fun e => e)).trans (h.calls j hj)⟩

theorem qcall_any (a : Ag) (w : World) (hW : Lq w) (ha : agB a = true) (hl : a.col.length ≤ 100) :
    Calls Tryd.prog 36 #[agV a] w fun e w' => e = .returned (.string ⟨(toldA a).toArray⟩) ∧ Fr Non w w' := by
  have F0 : Fr Non w (w.alloc (.cells #[.int .i64 a.op, .string ⟨a.col.toArray⟩] 36)) := (Fr.refl Non w).alloc _
  have B0 := ag_new w _ a rfl
  have HW := Lib.hid (hW.non F0)
  have HF := Lib.hid F0
  have HA := ag_is ha
  have HE0 : Hid (toldA a = if a.op = 1 then [99, 111, 117, 110, 116, 40, 42, 41] else wordA a.op ++ [40] ++ a.col ++ [41]) := Lib.hid rfl
  clear hW ha F0
  obtain ⟨o, c⟩ := a
  unfold agV
  dsimp only at *
  generalize toldA _ = r at *
  rcases HA with ⟨h1, h2⟩ | ⟨h1, h2, h3, -⟩
  · subst h1
    subst h2
    have HE := Lib.hid (HE0.out.trans (if_pos rfl))
    clear HE0 HW B0
    go_enter Tryd.func36, Tryd.ntmps36
    go_wp2
    go_ret
    exact ⟨strE (by rw [HE.out] <;> simp), HF.out⟩
  · have hb1 : (o == 1) = false := by rw [beq_eq_false_iff_ne]; exact h1
    have HE := Lib.hid (HE0.out.trans (if_neg h1))
    obtain ⟨j, rfl⟩ : ∃ j : Nat, o = (j : Int) := ⟨o.toNat, by omega⟩
    have hj : j < 6 := by omega
    have hj7 : (j : Int) < 6 := by omega
    have hmk := HW.out.calls j hj
    rw [calls_at j hj] at hmk
    have hwl : (wordA (j : Int)).length ≤ 3 := by
      unfold wordA
      split
      · decide
      · split
        · decide
        · split
          · decide
          · split <;> decide
    clear HE0 h1
    generalize wordA (j : Int) = mk at *
    obtain ⟨q0, q1⟩ := agB_cells B0
    have s1 := fun W => sadd mk [40] (by simp; omega) W
    have s2 := fun W => sadd (mk ++ [40]) c (by simp; omega) W
    have s3 := fun W => sadd (mk ++ [40] ++ c) [41] (by simp; omega) W
    have s4 := fun W => sadd (mk ++ 40 :: c) [41] (by simp; omega) W
    clear B0
    go_enter Tryd.func36, Tryd.ntmps36
    go_wp2
    go_quiet (fail)
    go_wp2
    go_ret
    exact ⟨strE (by rw [HE.out] <;> simp), HF.out.drewN _⟩

theorem cloneS_any (v : Value) (l : List Tx) (w : World) (h : Vs sv w v l) (hl : l.length < 1000000000) :
    Calls Tryd.prog 35 #[v] w fun e w' => ∃ u, e = .returned u ∧ Ow sv 9 w' w.heap.size u l ∧ Fr Non w w' := by
  have HB := Lib.hid h
  have hq := fun (W : World) (a : Option Addr) (n c : Nat) => Lib.run_eql_slice_nil (P := Tryd.prog) W 22 9 a n c 0 0 Tryd.underlying22
  obtain ⟨A, c, rfl, hlc, hn, _⟩ := h
  cases A with
  | none =>
    have hc : c = 0 := hn rfl
    subst hc
    have hl0 : l = [] := List.eq_nil_of_length_eq_zero (by omega)
    subst hl0
    go_enter Tryd.func35, Tryd.ntmps35
    go_wp2
    go_ret
    exact ⟨_, rfl, ow_nil _ _, Fr.refl _ _⟩
  | some a =>
    clear hn
    go_enter Tryd.func35, Tryd.ntmps35
    go_wp2_with (at_builtin; refine wpList_appG el_str sv_one rfl (.tmp 5) (.tmp 6) rfl w.heap.size (.slice (some ⟨w.heap.size, 0, none⟩) 0 0) (.slice (some a) l.length c) [] l rfl (ow_lit0 _ _ _ rfl (Nat.le_refl _)) rfl (HB.out.non ((Fr.refl _ _).alloc _)) (by simp; omega) (by simp) ?_; intro v3 w3 hown hf3)
    go_ret
    refine ⟨_, rfl, by simpa using hown, ((Fr.refl Non w).alloc _).fresh hf3 (fun k hk => by simp [Value.ownBlock] at hk; omega)⟩

theorem wants_any (q : Qy) (c : Value) (s : Kv) (g : Value) (w : World) (hq : QyS w q c s g) (hs : SmQ q) :
    Calls Tryd.prog 14 #[qyV q c s g] w fun e w' => e = .returned (.bool (allQ q)) ∧ Fr Non w w' := by
  have Q0 := Lib.hid (Qin.new hq)
  have HE0 : Hid (allQ q = (decide (q.cols.length = 0) && decide (q.aggs.length = 0))) := Lib.hid rfl
  have hlc := hs.cols
  have hlg := hs.aggs
  generalize allQ q = r at *
  obtain ⟨cA, cc, hce⟩ := hq.cols.shape
  obtain ⟨gA, gc, hge⟩ := hq.aggs.shape
  clear hq hs
  obtain ⟨tab, cols, ⟨⟨wo, wc, wm, ⟨wn, wi, wt⟩, wk, wp⟩, wks⟩, aggs, by_⟩ := q
  obtain ⟨sA, sn, sc⟩ := s
  dsimp only at hce hge
  subst hce
  subst hge
  unfold qyV qyC kidV at *
  dsimp only [Pd.hd, Pd.kids] at *
  by_cases hc : cols.length = 0
  · have hcb : ((cols.length : Int) == 0) = true := by rw [beq_iff_eq]; omega
    by_cases hg : aggs.length = 0
    · have hgb : ((aggs.length : Int) == 0) = true := by rw [beq_iff_eq]; omega
      have HE : Hid (r = true) := Lib.hid (by rw [HE0.out, decide_eq_true hc, decide_eq_true hg]; rfl)
      clear HE0 hc hg
      go_enter Tryd.func14, Tryd.ntmps14
      go_wp2
      go_ret
      exact ⟨ret_boolE HE.out.symm, Q0.out.fr⟩
    · have hgb : ((aggs.length : Int) == 0) = false := by rw [beq_eq_false_iff_ne]; omega
      have HE : Hid (r = false) := Lib.hid (by rw [HE0.out, decide_eq_true hc, decide_eq_false hg]; rfl)
      clear HE0 hc hg
      go_enter Tryd.func14, Tryd.ntmps14
      go_wp2
      go_ret
      exact ⟨ret_boolE HE.out.symm, Q0.out.fr⟩
  · have hcb : ((cols.length : Int) == 0) = false := by rw [beq_eq_false_iff_ne]; omega
    have HE : Hid (r = false) := Lib.hid (by rw [HE0.out, decide_eq_false hc]; rfl)
    clear HE0 hc
    go_enter Tryd.func14, Tryd.ntmps14
    go_wp2
    go_ret
    exact ⟨ret_boolE HE.out.symm, Q0.out.fr⟩

theorem told_more {q : List Tx} {l : List Ag} {k : Nat} (h : k < l.length) : q ++ (l.take (k + 1)).map toldA = (q ++ (l.take k).map toldA) ++ [toldA l[k]] := by
  rw [List.take_succ_eq_append_getElem h, List.map_append, List.append_assoc]; rfl
set_option maxHeartbeats 1000000 in
theorem asked_any (q : Qy) (c : Value) (s : Kv) (g : Value) (w : World) (hq : QyS w q c s g) (hs : SmQ q) (hW : Lq w) (ha : ∀ a ∈ q.aggs, agB a = true) :
    Calls Tryd.prog 16 #[qyV q c s g] w fun e w' => ∃ v, e = .returned v ∧ Ow sv 9 w' w.heap.size v (askedQ q) ∧ Fr Non w w' := by
  have Q0 := Lib.hid (Qin.new hq)
  have C1 := Lib.hid (fun W (h : QyS W q c s g) => cloneS_any c q.cols W h.cols (by have := hs.cols; omega))
  have CA := Lib.hid (fun k (h : k < q.aggs.length) W (hf : Fr Non w W) => qcall_any q.aggs[k] W (hW.non hf) (ha _ (List.getElem_mem h)) (hs.acol _ (List.getElem_mem h)))
  have HE0 : Hid (askedQ q = q.cols ++ (q.aggs.map toldA)) := Lib.hid rfl
  have hlc := hs.cols
  have hlg := hs.aggs
  generalize askedQ q = r at *
  have HS := Lib.hid hq
  clear ha hW
  obtain ⟨cA, cc, hce⟩ := hq.cols.shape
  obtain ⟨gA, gc, hge⟩ := hq.aggs.shape
  clear hq hs
  obtain ⟨tab, cols, ⟨⟨wo, wc, wm, ⟨wn, wi, wt⟩, wk, wp⟩, wks⟩, aggs, by_⟩ := q
  obtain ⟨sA, sn, sc⟩ := s
  dsimp only at hce hge
  subst hce
  subst hge
  unfold qyV qyC kidV at *
  dsimp only [Pd.hd, Pd.kids] at *
  go_enter Tryd.func16, Tryd.ntmps16
  go_wp2_with fail
  refine (C1.out _ Q0.out.sls).mono ?_
  rintro e w1 ⟨u1, rfl, ho1, f1⟩
  have Q1 := Lib.hid (Q0.out.non f1)
  have HO1 : Hid (Ow sv 9 w1 w.heap.size u1 (cols ++ (aggs.take 0).map toldA)) := Lib.hid (by simpa using ho1.mono (Q0.out.fr.size))
  clear f1 ho1
  obtain ⟨g0, g1, g2, g3, g4, g5, g6, g7, g8, g9, g10, g11, g12⟩ := Q1.out.cells
  dsimp only [Pd.hd, Pd.kids] at g0 g1 g2 g3 g4 g5 g6 g7 g8 g9 g10 g11 g12
  go_wp2
  clear g0 g1 g2 g3 g4 g5 g6 g7 g8 g9 g10 g11 g12
  go_loopw [3, 12] (fun u i wr => ∃ k : Nat, k ≤ aggs.length ∧ i = .int .i64 k ∧ Hid (Ow sv 9 wr w.heap.size u (cols ++ (aggs.take k).map toldA)) ∧ Hid (Fr Non w wr)) (fun _ i _ => aggs.length - (intOf i).toNat)
  case atStart => exact ⟨0, Nat.zero_le _, rfl, HO1, Lib.hid Q1.out.fr⟩
  case round =>
    clear HO1 Q0 Q1
    rename_i u i wr
    obtain ⟨k, hk, rfl, HO, FR⟩ := hrel
    obtain ⟨uA, uc, hue⟩ := HO.out.shape
    have hlk : (cols ++ (aggs.take k).map toldA).length ≤ 40 := by rw [List.length_append, List.length_map, List.length_take]; omega
    generalize hun : (cols ++ (aggs.take k).map toldA).length = un at *
    subst hue
    by_cases hlt : k < aggs.length
    · obtain ⟨a, rfl, _, d0, d1⟩ := Ns.gat (HS.out.aggs.non FR.out) k hlt
      have HY := Lib.hid (told_more (q := cols) hlt)
      have M := CA.out k hlt
      dsimp only at d0 d1 M
      generalize hx : aggs[k] = x at *
      clear hx
      obtain ⟨xo, xn⟩ := x
      unfold agV at M
      dsimp only at d0 d1 HY M
      replace M := Lib.hid M
      generalize toldA ⟨xo, xn⟩ = y at *
      generalize cols ++ (aggs.take k).map toldA = tl at *
      have HLK := Lib.hid (show tl.length ≤ 40 by omega)
      clear hun hlk
      have G1 := Lib.hid ((Fr.refl Non wr).alloc (.cells #[.int .i64 xo, .string ⟨xn.toArray⟩] 36))
      go_wp2_with fail
      refine (M.out _ (FR.out.trans G1.out)).mono ?_
      rintro e w2 ⟨rfl, f2⟩
      have F2 := Lib.hid (G1.out.trans f2)
      have FW := Lib.hid (FR.out.trans F2.out)
      have hO2 := Lib.hid (HO.out.non F2.out)
      have hsz : w.heap.size ≤ w2.heap.size := FW.out.size
      clear f2
      go_wp2_with (at_builtin; refine wpList_pushG el_str sv_one rfl (.tmp 16) (.tmp 19) rfl w.heap.size _ tl rfl hO2.out _ y rfl rfl (by have := HLK.out; omega) hsz ?_; intro v3 w3 hown3 hfr3)
      have HO3 := Lib.hid hown3
      have F3 : Hid (Fr Non w w3) := Lib.hid (FW.out.fresh hfr3 (fun q hq => (hO2.out.lt q hq).1))
      clear hown3 hfr3
      go_roundw
      case rel => exact ⟨k + 1, by omega, by go_num, by rw [HY.out]; exact HO3, F3⟩
      case measure => simp [intOf]; omega
    · have hT : aggs.take k = aggs := List.take_of_length_le (by omega)
      rw [hT, ← HE0.out] at HO
      go_wp2
      go_ret
      exact ⟨_, rfl, HO.out, FR.out⟩
end Go.Proofs.YtibopcceffncpaaDoor


namespace Go.Proofs.YtibopcceffncpaaDoor
set_option linter.unusedVariables false
set_option linter.unusedSimpArgs false
set_option maxRecDepth 100000
open Go.RowKit

theorem pd_num {w : World} {h : Ph} {s : Kv} {ks : List Pd} (hk : Kd w s ks) (hb : I64b h.val.num) : numP (.mk h ks) := ⟨hb, hk.num⟩
theorem textP_le {q : Qy} (h : SmQ q) (hn : numP q.whr) : (TextP q.whr).length ≤ 6400 := by
  unfold TextP
  split
  · rename_i b
    have a := text_len q.whr hn h.lens
    unfold mayP at b
    simp only [Bool.and_eq_true, decide_eq_true_eq] at b
    omega
  · simp
theorem listQ_len {q : Qy} (h : SmQ q) : (listQ q).length ≤ 6150 := by
  unfold listQ
  split
  · decide
  · exact joinQ_len _ (asked_len h).1 (asked_len h).2
theorem may_ags {q : Qy} (h : mayQ q = true) : ∀ a ∈ q.aggs, agB a = true := by
  rcases may_kinds h with ⟨h1, _⟩ | ⟨_, _, h3, _⟩
  · rw [h1]; simp
  · exact h3
theorem QyS.nums {w : World} {q : Qy} {c : Value} {s : Kv} {g : Value} (h : QyS w q c s g) : numP q.whr := by
  have := pd_num (h := q.whr.hd) h.kids h.num
  rwa [← Pd.eta] at this
set_option maxHeartbeats 4000000 in
theorem qtext_any (q : Qy) (c : Value) (s : Kv) (g : Value) (w : World) (hq : QyS w q c s g) (hs : SmQ q) (hW : Lq w) :
    Calls Tryd.prog 7 #[qyV q c s g] w fun e w' => e = .returned (.string ⟨(TextQ q).toArray⟩) ∧ Fr Non w w' := by
  have Q0 := Lib.hid (Qin.new hq)
  have M1 := Lib.hid (fun W (h : QyS W q c s g) => qmay_any q c s g W h hs)
  have A1 := Lib.hid (fun W (h : QyS W q c s g) => wants_any q c s g W h hs)
  have K1 : Hid (mayQ q = true → ∀ W, QyS W q c s g → Fr Non w W → Calls Tryd.prog 16 #[qyV q c s g] W fun e w' => ∃ v, e = .returned v ∧ Ow sv 9 w' W.heap.size v (askedQ q) ∧ Fr Non W w') := Lib.hid (fun hm W h hf => asked_any q c s g W h hs (hW.non hf) (may_ags hm))
  have J1 := Lib.hid (fun W v B (h : Ow sv 9 W B v (askedQ q)) (hf : Fr Non w W) => pjoin_any v (askedQ q) comT B W h (by have := joinQ_len _ (asked_len hs).1 (asked_len hs).2; omega) (by have := (asked_len hs).1; omega))
  have P1 := Lib.hid (fun W (h : QyS W q c s g) (hf : Fr Non w W) => pText_any q.whr.hd s q.whr.kids W (hW.non hf).lp h.kids h.num (by rw [← Pd.eta]; exact hs.lens) (by rw [← Pd.eta]; exact hs.deep))
  rw [← Pd.eta] at P1
  have htx := textP_le hs hq.nums
  have hlq := listQ_len hs
  have HE0 : Hid (TextQ q = if mayQ q = true then textQ q else []) := Lib.hid rfl
  have HT : Hid (mayQ q = true → textQ q = selT ++ listQ q ++ fromT ++ q.tab ++ (if q.whr.hd.op = 1 then [] else whereT ++ TextP q.whr) ++ grpT q.by_) := Lib.hid (fun e => by unfold textQ whrT TextP; rw [if_pos (may_parts e).2])
  have HA : Hid (allQ q = true → listQ q = [42]) := Lib.hid (fun e => if_pos e)
  have HJ : Hid (allQ q = false → listQ q = Lib.join (askedQ q) comT) := Lib.hid (fun e => if_neg (by rw [e]; simp))
  have htl := hs.tab
  have hbl := hs.by_
  generalize TextQ q = r at *
  generalize textQ q = rt at *
  generalize mayQ q = bm at *
  generalize allQ q = ba at *
  generalize listQ q = L at *
  generalize Lib.join (askedQ q) comT = J at *
  generalize TextP q.whr = tx at *
  unfold comT at J1
  unfold pdV pdC at P1
  obtain ⟨cA, cc, hce⟩ := hq.cols.shape
  obtain ⟨gA, gc, hge⟩ := hq.aggs.shape
  clear hq hs hW
  obtain ⟨tab, cols, ⟨⟨wo, wc, wm, ⟨wn, wi, wt⟩, wk, wp⟩, wks⟩, aggs, by_⟩ := q
  obtain ⟨sA, sn, sc⟩ := s
  dsimp only at hce hge
  subst hce
  subst hge
  unfold qyV qyC kidV at *
  dsimp only [Pd.hd, Pd.kids] at *
  cases bm
  · have HE : Hid (r = []) := Lib.hid (by rw [HE0.out, if_neg (by simp)])
    clear HE0 HT
    go_enter Tryd.func7, Tryd.ntmps7
    go_wp2_with fail
    refine (M1.out _ Q0.out.sls).mono ?_
    rintro e w1 ⟨rfl, f1⟩
    have Q1 := Lib.hid (Q0.out.non f1)
    clear f1
    go_wp2
    go_ret
    exact ⟨strE (by rw [HE.out] <;> simp), Q1.out.fr⟩
  · have HE1 := Lib.hid ((HE0.out.trans (if_pos rfl)).trans (HT.out rfl))
    clear HE0 HT
    obtain ⟨t1, ht1⟩ : ∃ t1, t1 = selT ++ L := ⟨_, rfl⟩
    obtain ⟨t2, ht2⟩ : ∃ t2, t2 = t1 ++ fromT := ⟨_, rfl⟩
    obtain ⟨t3, ht3⟩ : ∃ t3, t3 = t2 ++ tab := ⟨_, rfl⟩
    obtain ⟨u1, hu1⟩ : ∃ u1, u1 = whereT ++ tx := ⟨_, rfl⟩
    obtain ⟨t4, ht4⟩ : ∃ t4, t4 = t3 ++ u1 := ⟨_, rfl⟩
    obtain ⟨v1, hv1⟩ : ∃ v1, v1 = groupT ++ by_ := ⟨_, rfl⟩
    have l1 : t1.length ≤ 6157 := by rw [ht1]; simp [selT]; omega
    have l2 : t2.length ≤ 6163 := by rw [ht2]; simp [fromT]; omega
    have l3 : t3.length ≤ 6263 := by rw [ht3]; simp; omega
    have lu : u1.length ≤ 6407 := by rw [hu1]; simp [whereT]; omega
    have l4 : t4.length ≤ 12670 := by rw [ht4]; simp; omega
    have lv : v1.length ≤ 110 := by rw [hv1]; simp [groupT]; omega
    have s1 : ∀ W, (Op.stringOp BinOp.add ⟨#[115, 101, 108, 101, 99, 116, 32]⟩ ⟨L.toArray⟩).run Tryd.prog W = .ok (.string ⟨t1.toArray⟩) W := fun W => by rw [ht1]; exact sadd selT L (by first | omega | (simp [selT, fromT, whereT, groupT]; omega)) W
    have s2 : ∀ W, (Op.stringOp BinOp.add ⟨t1.toArray⟩ ⟨#[32, 102, 114, 111, 109, 32]⟩).run Tryd.prog W = .ok (.string ⟨t2.toArray⟩) W := fun W => by rw [ht2]; exact sadd t1 fromT (by first | omega | (simp [selT, fromT, whereT, groupT]; omega)) W
    have s3 : ∀ W, (Op.stringOp BinOp.add ⟨t2.toArray⟩ ⟨tab.toArray⟩).run Tryd.prog W = .ok (.string ⟨t3.toArray⟩) W := fun W => by rw [ht3]; exact sadd t2 tab (by first | omega | (simp [selT, fromT, whereT, groupT]; omega)) W
    have s4 : ∀ W, (Op.stringOp BinOp.add ⟨#[32, 119, 104, 101, 114, 101, 32]⟩ ⟨tx.toArray⟩).run Tryd.prog W = .ok (.string ⟨u1.toArray⟩) W := fun W => by rw [hu1]; exact sadd whereT tx (by first | omega | (simp [selT, fromT, whereT, groupT]; omega)) W
    have s5 : ∀ W, (Op.stringOp BinOp.add ⟨t3.toArray⟩ ⟨u1.toArray⟩).run Tryd.prog W = .ok (.string ⟨t4.toArray⟩) W := fun W => by rw [ht4]; exact sadd t3 u1 (by first | omega | (simp [selT, fromT, whereT, groupT]; omega)) W
    have s6 : ∀ W, (Op.stringOp BinOp.add ⟨#[32, 103, 114, 111, 117, 112, 32, 98, 121, 32]⟩ ⟨by_.toArray⟩).run Tryd.prog W = .ok (.string ⟨v1.toArray⟩) W := fun W => by rw [hv1]; exact sadd groupT by_ (by first | omega | (simp [selT, fromT, whereT, groupT]; omega)) W
    have s7 : ∀ W, (Op.stringOp BinOp.add ⟨t3.toArray⟩ ⟨v1.toArray⟩).run Tryd.prog W = .ok (.string ⟨(t3 ++ v1).toArray⟩) W := fun W => sadd t3 v1 (by omega) W
    have s8 : ∀ W, (Op.stringOp BinOp.add ⟨t4.toArray⟩ ⟨v1.toArray⟩).run Tryd.prog W = .ok (.string ⟨(t4 ++ v1).toArray⟩) W := fun W => sadd t4 v1 (by omega) W
    have HE2 : Hid (r = t3 ++ (if wo = 1 then [] else u1) ++ grpT by_) := Lib.hid (by rw [HE1.out, ht3, ht2, ht1, hu1]; rfl)
    have HG1 : Hid (¬ by_ = [] → grpT by_ = v1) := Lib.hid (fun e => by rw [hv1]; exact if_neg e)
    have HG0 : Hid (grpT [] = []) := Lib.hid rfl
    have HT4 : Hid (t4 = t3 ++ u1) := Lib.hid ht4
    have K2 := Lib.hid (K1.out rfl)
    clear K1 HE1 ht1 ht2 ht3 hu1 ht4 hv1 l1 l2 l3 l4 lu lv
    cases ba
    rotate_left
    · have hL : L = [42] := HA.out rfl
      clear HA HJ K2 J1
      subst hL
      by_cases hwo : wo = 1
      · subst hwo
        by_cases hby : by_ = []
        · subst hby
          have HE : Hid (r = t3) := Lib.hid (by rw [HE2.out, if_pos rfl, HG0.out] <;> simp)
          clear HE2 HG1 HG0 HT4
          go_enter Tryd.func7, Tryd.ntmps7
          go_wp2_with fail
          refine (M1.out _ Q0.out.sls).mono ?_
          rintro e w1 ⟨rfl, f1⟩
          have Q1 := Lib.hid (Q0.out.non f1)
          clear f1
          obtain ⟨g0, g1, g2, g3, g4, g5, g6, g7, g8, g9, g10, g11, g12⟩ := Q1.out.cells
          dsimp only [Pd.hd, Pd.kids] at g0 g1 g2 g3 g4 g5 g6 g7 g8 g9 g10 g11 g12
          go_wp2_with fail
          refine (A1.out _ Q1.out.sls).mono ?_
          rintro e w2 ⟨rfl, f2⟩
          have Q2 := Lib.hid (Q1.out.non f2)
          clear f2
          clear g0 g1 g2 g3 g4 g5 g6 g7 g8 g9 g10 g11 g12
          obtain ⟨g0, g1, g2, g3, g4, g5, g6, g7, g8, g9, g10, g11, g12⟩ := Q2.out.cells
          dsimp only [Pd.hd, Pd.kids] at g0 g1 g2 g3 g4 g5 g6 g7 g8 g9 g10 g11 g12
          go_wp2
          go_ret
          exact ⟨strE (by rw [HE.out] <;> simp), Q2.out.fr⟩
        · have hbb : (by_ == []) = false := by rw [beq_eq_false_iff_ne]; exact hby
          have hbb2 : (by_ != []) = true := by rw [bne_iff_ne]; exact hby
          have HE : Hid (r = t3 ++ v1) := Lib.hid (by rw [HE2.out, if_pos rfl, HG1.out hby] <;> simp)
          clear HE2 HG1 HG0 HT4 hby
          go_enter Tryd.func7, Tryd.ntmps7
          go_wp2_with fail
          refine (M1.out _ Q0.out.sls).mono ?_
          rintro e w1 ⟨rfl, f1⟩
          have Q1 := Lib.hid (Q0.out.non f1)
          clear f1
          obtain ⟨g0, g1, g2, g3, g4, g5, g6, g7, g8, g9, g10, g11, g12⟩ := Q1.out.cells
          dsimp only [Pd.hd, Pd.kids] at g0 g1 g2 g3 g4 g5 g6 g7 g8 g9 g10 g11 g12
          go_wp2_with fail
          refine (A1.out _ Q1.out.sls).mono ?_
          rintro e w2 ⟨rfl, f2⟩
          have Q2 := Lib.hid (Q1.out.non f2)
          clear f2
          clear g0 g1 g2 g3 g4 g5 g6 g7 g8 g9 g10 g11 g12
          obtain ⟨g0, g1, g2, g3, g4, g5, g6, g7, g8, g9, g10, g11, g12⟩ := Q2.out.cells
          dsimp only [Pd.hd, Pd.kids] at g0 g1 g2 g3 g4 g5 g6 g7 g8 g9 g10 g11 g12
          go_wp2
          go_ret
          exact ⟨strE (by rw [HE.out] <;> simp), Q2.out.fr⟩
      · have hwb : (wo != 1) = true := by rw [bne_iff_ne]; exact hwo
        by_cases hby : by_ = []
        · subst hby
          have HE : Hid (r = t4) := Lib.hid (by rw [HE2.out, if_neg hwo, HG0.out] <;> rw [HT4.out] <;> simp)
          clear HE2 HG1 HG0 HT4 hwo
          go_enter Tryd.func7, Tryd.ntmps7
          go_wp2_with fail
          refine (M1.out _ Q0.out.sls).mono ?_
          rintro e w1 ⟨rfl, f1⟩
          have Q1 := Lib.hid (Q0.out.non f1)
          clear f1
          obtain ⟨g0, g1, g2, g3, g4, g5, g6, g7, g8, g9, g10, g11, g12⟩ := Q1.out.cells
          dsimp only [Pd.hd, Pd.kids] at g0 g1 g2 g3 g4 g5 g6 g7 g8 g9 g10 g11 g12
          go_wp2_with fail
          refine (A1.out _ Q1.out.sls).mono ?_
          rintro e w2 ⟨rfl, f2⟩
          have Q2 := Lib.hid (Q1.out.non f2)
          clear f2
          clear g0 g1 g2 g3 g4 g5 g6 g7 g8 g9 g10 g11 g12
          obtain ⟨g0, g1, g2, g3, g4, g5, g6, g7, g8, g9, g10, g11, g12⟩ := Q2.out.cells
          dsimp only [Pd.hd, Pd.kids] at g0 g1 g2 g3 g4 g5 g6 g7 g8 g9 g10 g11 g12
          go_wp2_with fail
          refine (P1.out _ Q2.out.sls Q2.out.fr).mono ?_
          rintro e w3 ⟨rfl, f3⟩
          have Q3 := Lib.hid (Q2.out.non f3)
          clear f3
          clear g0 g1 g2 g3 g4 g5 g6 g7 g8 g9 g10 g11 g12
          obtain ⟨g0, g1, g2, g3, g4, g5, g6, g7, g8, g9, g10, g11, g12⟩ := Q3.out.cells
          dsimp only [Pd.hd, Pd.kids] at g0 g1 g2 g3 g4 g5 g6 g7 g8 g9 g10 g11 g12
          go_wp2
          go_ret
          exact ⟨strE (by rw [HE.out] <;> simp), Q3.out.fr⟩
        · have hbb : (by_ == []) = false := by rw [beq_eq_false_iff_ne]; exact hby
          have hbb2 : (by_ != []) = true := by rw [bne_iff_ne]; exact hby
          have HE : Hid (r = t4 ++ v1) := Lib.hid (by rw [HE2.out, if_neg hwo, HG1.out hby] <;> rw [HT4.out] <;> simp)
          clear HE2 HG1 HG0 HT4 hby hwo
          go_enter Tryd.func7, Tryd.ntmps7
          go_wp2_with fail
          refine (M1.out _ Q0.out.sls).mono ?_
          rintro e w1 ⟨rfl, f1⟩
          have Q1 := Lib.hid (Q0.out.non f1)
          clear f1
          obtain ⟨g0, g1, g2, g3, g4, g5, g6, g7, g8, g9, g10, g11, g12⟩ := Q1.out.cells
          dsimp only [Pd.hd, Pd.kids] at g0 g1 g2 g3 g4 g5 g6 g7 g8 g9 g10 g11 g12
          go_wp2_with fail
          refine (A1.out _ Q1.out.sls).mono ?_
          rintro e w2 ⟨rfl, f2⟩
          have Q2 := Lib.hid (Q1.out.non f2)
          clear f2
          clear g0 g1 g2 g3 g4 g5 g6 g7 g8 g9 g10 g11 g12
          obtain ⟨g0, g1, g2, g3, g4, g5, g6, g7, g8, g9, g10, g11, g12⟩ := Q2.out.cells
          dsimp only [Pd.hd, Pd.kids] at g0 g1 g2 g3 g4 g5 g6 g7 g8 g9 g10 g11 g12
          go_wp2_with fail
          refine (P1.out _ Q2.out.sls Q2.out.fr).mono ?_
          rintro e w3 ⟨rfl, f3⟩
          have Q3 := Lib.hid (Q2.out.non f3)
          clear f3
          clear g0 g1 g2 g3 g4 g5 g6 g7 g8 g9 g10 g11 g12
          obtain ⟨g0, g1, g2, g3, g4, g5, g6, g7, g8, g9, g10, g11, g12⟩ := Q3.out.cells
          dsimp only [Pd.hd, Pd.kids] at g0 g1 g2 g3 g4 g5 g6 g7 g8 g9 g10 g11 g12
          go_wp2
          go_ret
          exact ⟨strE (by rw [HE.out] <;> simp), Q3.out.fr⟩
    · have hL : L = J := HJ.out rfl
      clear HA HJ
      subst hL
      by_cases hwo : wo = 1
      · subst hwo
        by_cases hby : by_ = []
        · subst hby
          have HE : Hid (r = t3) := Lib.hid (by rw [HE2.out, if_pos rfl, HG0.out] <;> simp)
          clear HE2 HG1 HG0 HT4
          go_enter Tryd.func7, Tryd.ntmps7
          go_wp2_with fail
          refine (M1.out _ Q0.out.sls).mono ?_
          rintro e w1 ⟨rfl, f1⟩
          have Q1 := Lib.hid (Q0.out.non f1)
          clear f1
          obtain ⟨g0, g1, g2, g3, g4, g5, g6, g7, g8, g9, g10, g11, g12⟩ := Q1.out.cells
          dsimp only [Pd.hd, Pd.kids] at g0 g1 g2 g3 g4 g5 g6 g7 g8 g9 g10 g11 g12
          go_wp2_with fail
          refine (A1.out _ Q1.out.sls).mono ?_
          rintro e w2 ⟨rfl, f2⟩
          have Q2 := Lib.hid (Q1.out.non f2)
          clear f2
          clear g0 g1 g2 g3 g4 g5 g6 g7 g8 g9 g10 g11 g12
          obtain ⟨g0, g1, g2, g3, g4, g5, g6, g7, g8, g9, g10, g11, g12⟩ := Q2.out.cells
          dsimp only [Pd.hd, Pd.kids] at g0 g1 g2 g3 g4 g5 g6 g7 g8 g9 g10 g11 g12
          go_wp2_with fail
          refine (K2.out _ Q2.out.sls Q2.out.fr).mono ?_
          rintro e w3 ⟨v3, rfl, ho3, f3⟩
          have Q3 := Lib.hid (Q2.out.non f3)
          have HO3 := Lib.hid ho3
          clear f3 ho3
          clear g0 g1 g2 g3 g4 g5 g6 g7 g8 g9 g10 g11 g12
          go_wp2_with fail
          refine (J1.out _ _ _ HO3.out Q3.out.fr).mono ?_
          rintro e w4 ⟨rfl, f4⟩
          have Q4 := Lib.hid (Q3.out.non f4)
          clear f4
          obtain ⟨g0, g1, g2, g3, g4, g5, g6, g7, g8, g9, g10, g11, g12⟩ := Q4.out.cells
          dsimp only [Pd.hd, Pd.kids] at g0 g1 g2 g3 g4 g5 g6 g7 g8 g9 g10 g11 g12
          go_wp2
          go_ret
          exact ⟨strE (by rw [HE.out] <;> simp), Q4.out.fr⟩
        · have hbb : (by_ == []) = false := by rw [beq_eq_false_iff_ne]; exact hby
          have hbb2 : (by_ != []) = true := by rw [bne_iff_ne]; exact hby
          have HE : Hid (r = t3 ++ v1) := Lib.hid (by rw [HE2.out, if_pos rfl, HG1.out hby] <;> simp)
          clear HE2 HG1 HG0 HT4 hby
          go_enter Tryd.func7, Tryd.ntmps7
          go_wp2_with fail
          refine (M1.out _ Q0.out.sls).mono ?_
          rintro e w1 ⟨rfl, f1⟩
          have Q1 := Lib.hid (Q0.out.non f1)
          clear f1
          obtain ⟨g0, g1, g2, g3, g4, g5, g6, g7, g8, g9, g10, g11, g12⟩ := Q1.out.cells
          dsimp only [Pd.hd, Pd.kids] at g0 g1 g2 g3 g4 g5 g6 g7 g8 g9 g10 g11 g12
          go_wp2_with fail
          refine (A1.out _ Q1.out.sls).mono ?_
          rintro e w2 ⟨rfl, f2⟩
          have Q2 := Lib.hid (Q1.out.non f2)
          clear f2
          clear g0 g1 g2 g3 g4 g5 g6 g7 g8 g9 g10 g11 g12
          obtain ⟨g0, g1, g2, g3, g4, g5, g6, g7, g8, g9, g10, g11, g12⟩ := Q2.out.cells
          dsimp only [Pd.hd, Pd.kids] at g0 g1 g2 g3 g4 g5 g6 g7 g8 g9 g10 g11 g12
          go_wp2_with fail
          refine (K2.out _ Q2.out.sls Q2.out.fr).mono ?_
          rintro e w3 ⟨v3, rfl, ho3, f3⟩
          have Q3 := Lib.hid (Q2.out.non f3)
          have HO3 := Lib.hid ho3
          clear f3 ho3
          clear g0 g1 g2 g3 g4 g5 g6 g7 g8 g9 g10 g11 g12
          go_wp2_with fail
          refine (J1.out _ _ _ HO3.out Q3.out.fr).mono ?_
          rintro e w4 ⟨rfl, f4⟩
          have Q4 := Lib.hid (Q3.out.non f4)
          clear f4
          obtain ⟨g0, g1, g2, g3, g4, g5, g6, g7, g8, g9, g10, g11, g12⟩ := Q4.out.cells
          dsimp only [Pd.hd, Pd.kids] at g0 g1 g2 g3 g4 g5 g6 g7 g8 g9 g10 g11 g12
          go_wp2
          go_ret
          exact ⟨strE (by rw [HE.out] <;> simp), Q4.out.fr⟩
      · have hwb : (wo != 1) = true := by rw [bne_iff_ne]; exact hwo
        by_cases hby : by_ = []
        · subst hby
          have HE : Hid (r = t4) := Lib.hid (by rw [HE2.out, if_neg hwo, HG0.out] <;> rw [HT4.out] <;> simp)
          clear HE2 HG1 HG0 HT4 hwo
          go_enter Tryd.func7, Tryd.ntmps7
          go_wp2_with fail
          refine (M1.out _ Q0.out.sls).mono ?_
          rintro e w1 ⟨rfl, f1⟩
          have Q1 := Lib.hid (Q0.out.non f1)
          clear f1
          obtain ⟨g0, g1, g2, g3, g4, g5, g6, g7, g8, g9, g10, g11, g12⟩ := Q1.out.cells
          dsimp only [Pd.hd, Pd.kids] at g0 g1 g2 g3 g4 g5 g6 g7 g8 g9 g10 g11 g12
          go_wp2_with fail
          refine (A1.out _ Q1.out.sls).mono ?_
          rintro e w2 ⟨rfl, f2⟩
          have Q2 := Lib.hid (Q1.out.non f2)
          clear f2
          clear g0 g1 g2 g3 g4 g5 g6 g7 g8 g9 g10 g11 g12
          obtain ⟨g0, g1, g2, g3, g4, g5, g6, g7, g8, g9, g10, g11, g12⟩ := Q2.out.cells
          dsimp only [Pd.hd, Pd.kids] at g0 g1 g2 g3 g4 g5 g6 g7 g8 g9 g10 g11 g12
          go_wp2_with fail
          refine (K2.out _ Q2.out.sls Q2.out.fr).mono ?_
          rintro e w3 ⟨v3, rfl, ho3, f3⟩
          have Q3 := Lib.hid (Q2.out.non f3)
          have HO3 := Lib.hid ho3
          clear f3 ho3
          clear g0 g1 g2 g3 g4 g5 g6 g7 g8 g9 g10 g11 g12
          go_wp2_with fail
          refine (J1.out _ _ _ HO3.out Q3.out.fr).mono ?_
          rintro e w4 ⟨rfl, f4⟩
          have Q4 := Lib.hid (Q3.out.non f4)
          clear f4
          obtain ⟨g0, g1, g2, g3, g4, g5, g6, g7, g8, g9, g10, g11, g12⟩ := Q4.out.cells
          dsimp only [Pd.hd, Pd.kids] at g0 g1 g2 g3 g4 g5 g6 g7 g8 g9 g10 g11 g12
          go_wp2_with fail
          refine (P1.out _ Q4.out.sls Q4.out.fr).mono ?_
          rintro e w5 ⟨rfl, f5⟩
          have Q5 := Lib.hid (Q4.out.non f5)
          clear f5
          clear g0 g1 g2 g3 g4 g5 g6 g7 g8 g9 g10 g11 g12
          obtain ⟨g0, g1, g2, g3, g4, g5, g6, g7, g8, g9, g10, g11, g12⟩ := Q5.out.cells
          dsimp only [Pd.hd, Pd.kids] at g0 g1 g2 g3 g4 g5 g6 g7 g8 g9 g10 g11 g12
          go_wp2
          go_ret
          exact ⟨strE (by rw [HE.out] <;> simp), Q5.out.fr⟩
        · have hbb : (by_ == []) = false := by rw [beq_eq_false_iff_ne]; exact hby
          have hbb2 : (by_ != []) = true := by rw [bne_iff_ne]; exact hby
          have HE : Hid (r = t4 ++ v1) := Lib.hid (by rw [HE2.out, if_neg hwo, HG1.out hby] <;> rw [HT4.out] <;> simp)
          clear HE2 HG1 HG0 HT4 hby hwo
          go_enter Tryd.func7, Tryd.ntmps7
          go_wp2_with fail
          refine (M1.out _ Q0.out.sls).mono ?_
          rintro e w1 ⟨rfl, f1⟩
          have Q1 := Lib.hid (Q0.out.non f1)
          clear f1
          obtain ⟨g0, g1, g2, g3, g4, g5, g6, g7, g8, g9, g10, g11, g12⟩ := Q1.out.cells
          dsimp only [Pd.hd, Pd.kids] at g0 g1 g2 g3 g4 g5 g6 g7 g8 g9 g10 g11 g12
          go_wp2_with fail
          refine (A1.out _ Q1.out.sls).mono ?_
          rintro e w2 ⟨rfl, f2⟩
          have Q2 := Lib.hid (Q1.out.non f2)
          clear f2
          clear g0 g1 g2 g3 g4 g5 g6 g7 g8 g9 g10 g11 g12
          obtain ⟨g0, g1, g2, g3, g4, g5, g6, g7, g8, g9, g10, g11, g12⟩ := Q2.out.cells
          dsimp only [Pd.hd, Pd.kids] at g0 g1 g2 g3 g4 g5 g6 g7 g8 g9 g10 g11 g12
          go_wp2_with fail
          refine (K2.out _ Q2.out.sls Q2.out.fr).mono ?_
          rintro e w3 ⟨v3, rfl, ho3, f3⟩
          have Q3 := Lib.hid (Q2.out.non f3)
          have HO3 := Lib.hid ho3
          clear f3 ho3
          clear g0 g1 g2 g3 g4 g5 g6 g7 g8 g9 g10 g11 g12
          go_wp2_with fail
          refine (J1.out _ _ _ HO3.out Q3.out.fr).mono ?_
          rintro e w4 ⟨rfl, f4⟩
          have Q4 := Lib.hid (Q3.out.non f4)
          clear f4
          obtain ⟨g0, g1, g2, g3, g4, g5, g6, g7, g8, g9, g10, g11, g12⟩ := Q4.out.cells
          dsimp only [Pd.hd, Pd.kids] at g0 g1 g2 g3 g4 g5 g6 g7 g8 g9 g10 g11 g12
          go_wp2_with fail
          refine (P1.out _ Q4.out.sls Q4.out.fr).mono ?_
          rintro e w5 ⟨rfl, f5⟩
          have Q5 := Lib.hid (Q4.out.non f5)
          clear f5
          clear g0 g1 g2 g3 g4 g5 g6 g7 g8 g9 g10 g11 g12
          obtain ⟨g0, g1, g2, g3, g4, g5, g6, g7, g8, g9, g10, g11, g12⟩ := Q5.out.cells
          dsimp only [Pd.hd, Pd.kids] at g0 g1 g2 g3 g4 g5 g6 g7 g8 g9 g10 g11 g12
          go_wp2
          go_ret
          exact ⟨strE (by rw [HE.out] <;> simp), Q5.out.fr⟩
end Go.Proofs.YtibopcceffncpaaDoor


namespace Go.Proofs.YtibopcceffncpaaDoor
set_option linter.unusedVariables false
set_option linter.unusedSimpArgs false
set_option maxRecDepth 100000
open Go.RowKit

/-- behind an operation more may be held than ahead of it -/
theorem wpAnyH_more {P : Program} {md : Region.Mode} {ops : Array Oper} {Q : Exit → Act → World → Prop} {S S' : World → Prop} (h : ∀ w, S' w → S w) :
    ∀ (fuel : Nat) (listed : Array Bool) (a : Act) (w : World), wpAnyH P md ops Q S' fuel listed a w → wpAnyH P md ops Q S fuel listed a w
  | 0, _, _, _, hw => hw
  | fuel + 1, _, _, _, hw => ⟨hw.1, fun i hi => wpOp_mono (fun a' w' h' => ⟨h w' h'.1, wpAnyH_more h fuel _ a' w' h'.2⟩) (hw.2 i hi)⟩
end Go.Proofs.YtibopcceffncpaaDoor


namespace Go.Proofs.YtibopcceffncpaaDoor
set_option linter.unusedVariables false
set_option linter.unusedSimpArgs false
set_option maxRecDepth 100000
open Go.RowKit

theorem six_at (W : World) (j : Nat) (hj : j < 6) : (W.alloc (.cells #[.string ⟨#[61]⟩, .string ⟨#[60, 62]⟩, .string ⟨#[60]⟩, .string ⟨#[60, 61]⟩, .string ⟨#[62]⟩, .string ⟨#[62, 61]⟩] 9)).cell? ⟨W.heap.size, j, none⟩ = some (.string ⟨(markB ((j : Int) + 1)).toArray⟩) := by
  rw [cell_of_row _ W.heap.size j _ _ (0, 0) (heap_alloc_new W _)]
  match j, hj with
  | 0, _ => rfl
  | 1, _ => rfl
  | 2, _ => rfl
  | 3, _ => rfl
  | 4, _ => rfl
  | 5, _ => rfl
theorem al_keep {w : World} {o : Obj} {p : Addr} {v : Value} (h : w.drew.cell? p = some v) : (w.alloc o).drew.cell? p = some v :=
  (((Fr.refl Non w).alloc o).cell (World.block_lt_of_cell? w _ h) (fun e => e)).trans h
theorem al_keep2 {w : World} {o : Obj} {p : Addr} {v : Value} (h : w.cell? p = some v) : (w.alloc o).cell? p = some v :=
  (((Fr.refl Non w).alloc o).cell (World.block_lt_of_cell? w _ h) (fun e => e)).trans h

set_option maxHeartbeats 8000000 in
theorem rtext2_any (h : Ph) (ks : List Pd) (t : Kv) (w : World) (hop : h.op = 2) (h16 : 1 ≤ h.cmp ∧ h.cmp ≤ 6) (hb : I64b h.val.num) (hl1 : h.col.length ≤ 100) (hl2 : h.val.txt.length ≤ 100) :
    Calls Tryd.prog 38 #[pdV h t] w fun e w' => e = .returned (.string ⟨(textP (.mk h ks)).toArray⟩) ∧ Fr Non w w' := by
  have HE := Lib.hid (tx_2 (h := h) (ks := ks) hop)
  have HC := Lib.hid (fun W => rpvalue_any h.kind h.val W hb (by omega))
  have hvl := valT_len h.kind h.val hb hl2
  have hml := markB_len h.cmp
  have PB := pd_new w _ h t rfl
  have HF : Hid (Fr Non w (w.alloc (.cells (pdC h t) 27))) := Lib.hid ((Fr.refl Non w).alloc _)
  generalize textP (.mk h ks) = r at *
  obtain ⟨ho, hc, hm, ⟨vn, vi, vt⟩, hkd, hp⟩ := h
  obtain ⟨A, n, c⟩ := t
  dsimp only at *
  subst hop
  obtain ⟨j, rfl⟩ : ∃ j : Nat, hm = (j : Int) + 1 := ⟨(hm - 1).toNat, by omega⟩
  have hj6 : j < 6 := by omega
  have hj7 : (j : Int) < 6 := by omega
  have hw1 : IntKind.i64.wrap (j : Int) = j := by
    have e : (2 ^ IntKind.i64.bits : Int) = 18446744073709551616 := by decide
    have e2 : (2 ^ (IntKind.i64.bits - 1) : Int) = 9223372036854775808 := by decide
    unfold IntKind.wrap
    simp [e, e2]
    omega
  obtain ⟨_, q1, q2, q3, q4, q5, q6, _, _⟩ := pdB_cells PB.drew
  dsimp only at q1 q2 q3 q4 q5 q6
  have HSIX := six_at (w.alloc (.cells (pdC ⟨2, hc, (j : Int) + 1, ⟨vn, vi, vt⟩, hkd, hp⟩ ⟨A, n, c⟩) 27)) j hj6
  rw [show (w.alloc (.cells (pdC ⟨2, hc, (j : Int) + 1, ⟨vn, vi, vt⟩, hkd, hp⟩ ⟨A, n, c⟩) 27)).heap.size = w.heap.size + 1 by simp] at HSIX
  obtain ⟨mk, HMK0⟩ : ∃ mk, markB ((j : Int) + 1) = mk := ⟨_, rfl⟩
  rw [HMK0] at HSIX HE hml
  have HMK := Lib.hid HMK0
  clear HMK0
  generalize valT hkd ⟨vn, vi, vt⟩ = va at *
  have s1 := fun W => sadd hc [32] (by simp; omega) W
  have s2 := fun W => sadd (hc ++ [32]) mk (by simp; omega) W
  have s3 := fun W => sadd (hc ++ [32] ++ mk) [32] (by simp; omega) W
  have s4 := fun W => sadd (hc ++ [32] ++ mk ++ [32]) va (by simp; omega) W
  have s5 := fun W => sadd (hc ++ 32 :: mk) [32] (by simp; omega) W
  have s6 := fun W => sadd (hc ++ 32 :: (mk ++ [32])) va (by simp; omega) W
  have HSIX := Lib.hid HSIX
  unfold clV clC at HC
  unfold pdV
  unfold pdC kidV at *
  dsimp only at *
  go_enter Tryd.func38, Tryd.ntmps38
  go_wp2
  refine wp_region_held_drew (S := (fun W => W.cell? ⟨w.heap.size, 1, none⟩ = some (.string ⟨hc.toArray⟩) ∧ W.cell? ⟨w.heap.size, 2, none⟩ = some (.int .i64 ((j : Int) + 1)) ∧ W.cell? ⟨w.heap.size, 3, none⟩ = some (.bool vn) ∧ W.cell? ⟨w.heap.size, 4, none⟩ = some (.int .i64 vi) ∧ W.cell? ⟨w.heap.size, 5, none⟩ = some (.string ⟨vt.toArray⟩) ∧ W.cell? ⟨w.heap.size, 6, none⟩ = some (.int .i64 hkd))) (by kernel_rfl) (by exact ⟨q1, q2, q3, q4, q5, q6⟩) (fun hHeld => ?_)
  refine wpAnyH_take (i := 0) (oi := ⟨some 13, _, _, _, _, none⟩) (v := ?v1) rfl (by kernel_rfl) (by kernel_rfl) (by kernel_rfl) (fun _ _ _ h => h) (Or.inl ⟨by rfl, ?hy1⟩) (by assumption) ?rest1
  case hy1 => (intro wS hSw; (try dsimp only at hSw); go_simp; (try with_reducible rfl))
  (try simp only [Act.put, List.setIfInBounds_toArray, List.set_cons_zero, List.set_cons_succ])
  refine wpAnyH_take (i := 1) (oi := ⟨some 14, _, _, _, _, none⟩) (v := ?v2) rfl (by kernel_rfl) (by kernel_rfl) (by kernel_rfl) (fun _ _ _ h => h) (Or.inl ⟨by rfl, ?hy2⟩) (by assumption) ?rest2
  case hy2 => (intro wS hSw; (try dsimp only at hSw); go_simp; (try with_reducible rfl))
  (try simp only [Act.put, List.setIfInBounds_toArray, List.set_cons_zero, List.set_cons_succ])
  refine wpAnyH_take (i := 2) (oi := ⟨some 15, _, _, _, _, none⟩) (v := ?v3) rfl (by kernel_rfl) (by kernel_rfl) (by kernel_rfl) (fun _ _ _ h => h) (Or.inl ⟨by rfl, ?hy3⟩) (by assumption) ?rest3
  case hy3 => (intro wS hSw; (try dsimp only at hSw); go_simp; (try with_reducible rfl))
  (try simp only [Act.put, List.setIfInBounds_toArray, List.set_cons_zero, List.set_cons_succ])
  refine wpAnyH_take (i := 4) (oi := ⟨some 17, _, _, _, _, none⟩) (v := ?v4) rfl (by kernel_rfl) (by kernel_rfl) (by kernel_rfl) (fun _ _ _ h => h) (Or.inl ⟨by rfl, ?hy4⟩) (by assumption) ?rest4
  case hy4 => (intro wS hSw; (try dsimp only at hSw); go_simp; (try with_reducible rfl))
  (try simp only [Act.put, List.setIfInBounds_toArray, List.set_cons_zero, List.set_cons_succ])
  refine wpAnyH_take (i := 5) (oi := ⟨some 18, _, _, _, _, none⟩) (v := ?v5) rfl (by kernel_rfl) (by kernel_rfl) (by kernel_rfl) (fun _ _ _ h => h) (Or.inl ⟨by rfl, ?hy5⟩) (by assumption) ?rest5
  case hy5 => (intro wS hSw; (try dsimp only at hSw); go_simp; (try with_reducible rfl))
  (try simp only [Act.put, List.setIfInBounds_toArray, List.set_cons_zero, List.set_cons_succ])
  refine wpAnyH_take (i := 6) (oi := ⟨some 19, _, _, _, _, none⟩) (v := ?v6) rfl (by kernel_rfl) (by kernel_rfl) (by kernel_rfl) (fun _ _ _ h => h) (Or.inl ⟨by rfl, ?hy6⟩) (by assumption) ?rest6
  case hy6 => (intro wS hSw; (try dsimp only at hSw); go_simp; (try with_reducible rfl))
  (try simp only [Act.put, List.setIfInBounds_toArray, List.set_cons_zero, List.set_cons_succ])
  refine wpAnyH_take (i := 11) (oi := ⟨some 24, _, _, _, _, none⟩) (v := ?v7) rfl (by kernel_rfl) (by kernel_rfl) (by kernel_rfl) (fun _ _ _ h => h) (Or.inl ⟨by rfl, ?hy7⟩) (by assumption) ?rest7
  case hy7 => (intro wS hSw; (try dsimp only at hSw); go_simp; (try with_reducible rfl))
  (try simp only [Act.put, List.setIfInBounds_toArray, List.set_cons_zero, List.set_cons_succ])
  refine wpAnyH_take (i := 12) (oi := ⟨some 25, _, _, _, _, none⟩) (v := ?v8) rfl (by kernel_rfl) (by kernel_rfl) (by kernel_rfl) (fun _ _ _ h => h) (Or.inl ⟨by rfl, ?hy8⟩) (by assumption) ?rest8
  case hy8 => (intro wS hSw; (try dsimp only at hSw); go_simp; (try with_reducible rfl))
  (try simp only [Act.put, List.setIfInBounds_toArray, List.set_cons_zero, List.set_cons_succ])
  refine wpAnyH_take (i := 13) (oi := ⟨some 26, _, _, _, _, none⟩) (v := ?v9) rfl (by kernel_rfl) (by kernel_rfl) (by kernel_rfl) (fun _ _ _ h => h) (Or.inl ⟨by rfl, ?hy9⟩) (by assumption) ?rest9
  case hy9 => (intro wS hSw; (try dsimp only at hSw); go_simp; (try with_reducible rfl))
  (try simp only [Act.put, List.setIfInBounds_toArray, List.set_cons_zero, List.set_cons_succ])
  refine wpAnyH_take (i := 14) (oi := ⟨some 27, _, _, _, _, none⟩) (v := ?v10) rfl (by kernel_rfl) (by kernel_rfl) (by kernel_rfl) (fun _ _ _ h => h) (Or.inl ⟨by rfl, ?hy10⟩) (by assumption) ?rest10
  case hy10 => (intro wS hSw; (try dsimp only at hSw); go_simp; (try with_reducible rfl))
  (try simp only [Act.put, List.setIfInBounds_toArray, List.set_cons_zero, List.set_cons_succ])
  refine wpAnyH_ready (rs := [3, 15]) (by kernel_rfl) (by simp) ?_
  refine AllReadyH.cons (o := ⟨some 16, _, _, _, _, none⟩) rfl (fun K hK => ?_) (AllReadyH.cons (o := ⟨some 28, _, _, _, _, none⟩) rfl (fun K hK => ?_) AllReadyH.nil)
  · go_simp
    have um : ((w.alloc (.cells #[.int .i64 2, .string ⟨hc.toArray⟩, .int .i64 ((j : Int) + 1), .bool vn, .int .i64 vi, .string ⟨vt.toArray⟩, .int .i64 hkd, .string ⟨hp.toArray⟩, .slice A n c] 27)).alloc (.cells #[.string ⟨#[61]⟩, .string ⟨#[60, 62]⟩, .string ⟨#[60]⟩, .string ⟨#[60, 61]⟩, .string ⟨#[62]⟩, .string ⟨#[62, 61]⟩] 9)).drew.cell? ⟨w.heap.size + 1, j, none⟩ = some (.string ⟨mk.toArray⟩) := HSIX.out
    have u1 := al_keep (o := (.cells #[.string ⟨#[61]⟩, .string ⟨#[60, 62]⟩, .string ⟨#[60]⟩, .string ⟨#[60, 61]⟩, .string ⟨#[62]⟩, .string ⟨#[62, 61]⟩] 9)) q1
    have u2 := al_keep (o := (.cells #[.string ⟨#[61]⟩, .string ⟨#[60, 62]⟩, .string ⟨#[60]⟩, .string ⟨#[60, 61]⟩, .string ⟨#[62]⟩, .string ⟨#[62, 61]⟩] 9)) q2
    have u3 := al_keep (o := (.cells #[.string ⟨#[61]⟩, .string ⟨#[60, 62]⟩, .string ⟨#[60]⟩, .string ⟨#[60, 61]⟩, .string ⟨#[62]⟩, .string ⟨#[62, 61]⟩] 9)) q3
    have u4 := al_keep (o := (.cells #[.string ⟨#[61]⟩, .string ⟨#[60, 62]⟩, .string ⟨#[60]⟩, .string ⟨#[60, 61]⟩, .string ⟨#[62]⟩, .string ⟨#[62, 61]⟩] 9)) q4
    have u5 := al_keep (o := (.cells #[.string ⟨#[61]⟩, .string ⟨#[60, 62]⟩, .string ⟨#[60]⟩, .string ⟨#[60, 61]⟩, .string ⟨#[62]⟩, .string ⟨#[62, 61]⟩] 9)) q5
    have u6 := al_keep (o := (.cells #[.string ⟨#[61]⟩, .string ⟨#[60, 62]⟩, .string ⟨#[60]⟩, .string ⟨#[60, 61]⟩, .string ⟨#[62]⟩, .string ⟨#[62, 61]⟩] 9)) q6
    refine hK.out _ _ (by exact ⟨u1, u2, u3, u4, u5, u6⟩) (fun hHeld => ?_)
    clear hK K
    (try simp only [Act.put, List.setIfInBounds_toArray, List.set_cons_zero, List.set_cons_succ])
    refine wpAnyH_more (S' := (fun W => W.cell? ⟨w.heap.size + 1, j, none⟩ = some (.string ⟨mk.toArray⟩) ∧ W.cell? ⟨w.heap.size, 1, none⟩ = some (.string ⟨hc.toArray⟩) ∧ W.cell? ⟨w.heap.size, 2, none⟩ = some (.int .i64 ((j : Int) + 1)) ∧ W.cell? ⟨w.heap.size, 3, none⟩ = some (.bool vn) ∧ W.cell? ⟨w.heap.size, 4, none⟩ = some (.int .i64 vi) ∧ W.cell? ⟨w.heap.size, 5, none⟩ = some (.string ⟨vt.toArray⟩) ∧ W.cell? ⟨w.heap.size, 6, none⟩ = some (.int .i64 hkd))) (fun W h => h.2) _ _ _ _ ?_
    have hMore := And.intro um hHeld
    clear hHeld
    refine wpAnyH_take (i := 7) (oi := ⟨some 20, _, _, _, _, none⟩) (v := ?v11) rfl (by kernel_rfl) (by kernel_rfl) (by kernel_rfl) (fun _ _ _ h => h) (Or.inl ⟨by rfl, ?hy11⟩) (by assumption) ?rest11
    case hy11 => (intro wS hSw; (try dsimp only at hSw); go_simp; (try with_reducible rfl))
    (try simp only [Act.put, List.setIfInBounds_toArray, List.set_cons_zero, List.set_cons_succ])
    refine wpAnyH_take (i := 8) (oi := ⟨some 21, _, _, _, _, none⟩) (v := ?v12) rfl (by kernel_rfl) (by kernel_rfl) (by kernel_rfl) (fun _ _ _ h => h) (Or.inl ⟨by rfl, ?hy12⟩) (by assumption) ?rest12
    case hy12 => (intro wS hSw; (try dsimp only at hSw); go_simp; (try with_reducible rfl))
    (try simp only [Act.put, List.setIfInBounds_toArray, List.set_cons_zero, List.set_cons_succ])
    refine wpAnyH_take (i := 9) (oi := ⟨some 22, _, _, _, _, none⟩) (v := ?v13) rfl (by kernel_rfl) (by kernel_rfl) (by kernel_rfl) (fun _ _ _ h => h) (Or.inl ⟨by rfl, ?hy13⟩) (by assumption) ?rest13
    case hy13 => (intro wS hSw; (try dsimp only at hSw); go_simp; (try with_reducible rfl))
    (try simp only [Act.put, List.setIfInBounds_toArray, List.set_cons_zero, List.set_cons_succ])
    refine wpAnyH_take (i := 10) (oi := ⟨some 23, _, _, _, _, none⟩) (v := ?v14) rfl (by kernel_rfl) (by kernel_rfl) (by kernel_rfl) (fun _ _ _ h => h) (Or.inl ⟨by rfl, ?hy14⟩) (by assumption) ?rest14
    case hy14 => (intro wS hSw; (try dsimp only at hSw); go_simp; (try with_reducible rfl))
    (try simp only [Act.put, List.setIfInBounds_toArray, List.set_cons_zero, List.set_cons_succ])
    refine wpAnyH_ready (rs := [15]) (by kernel_rfl) (by simp) ?_
    refine AllReadyH.cons (o := ⟨some 28, _, _, _, _, none⟩) rfl (fun K hK => ?_) AllReadyH.nil
    go_simp
    go_at_call 60
    (with_reducible refine (HC.out _).mono ?_)
    rintro e w3 ⟨rfl, f3⟩
    have v1 := (f3.cell (World.block_lt_of_cell? _ _ u1) (fun e => e)).trans u1
    have v2 := (f3.cell (World.block_lt_of_cell? _ _ u2) (fun e => e)).trans u2
    have v3 := (f3.cell (World.block_lt_of_cell? _ _ u3) (fun e => e)).trans u3
    have v4 := (f3.cell (World.block_lt_of_cell? _ _ u4) (fun e => e)).trans u4
    have v5 := (f3.cell (World.block_lt_of_cell? _ _ u5) (fun e => e)).trans u5
    have v6 := (f3.cell (World.block_lt_of_cell? _ _ u6) (fun e => e)).trans u6
    have vm := (f3.cell (World.block_lt_of_cell? _ _ um) (fun e => e)).trans um
    go_wp2_with fail
    refine hK.out _ _ (by exact ⟨vm, v1, v2, v3, v4, v5, v6⟩) (fun hHeld => ?_)
    clear hK K
    (try simp only [Act.put, List.setIfInBounds_toArray, List.set_cons_zero, List.set_cons_succ])
    refine wpAnyH_take (i := 16) (oi := ⟨some 29, _, _, _, _, none⟩) (v := ?v15) rfl (by kernel_rfl) (by kernel_rfl) (by kernel_rfl) (fun _ _ _ h => h) (Or.inl ⟨by rfl, ?hy15⟩) (by assumption) ?rest15
    case hy15 => (intro wS hSw; (try dsimp only at hSw); go_simp; (try with_reducible rfl))
    (try simp only [Act.put, List.setIfInBounds_toArray, List.set_cons_zero, List.set_cons_succ])
    refine wpAnyH_take (i := 17) (oi := ⟨some 2, _, _, _, _, none⟩) (v := ?v16) rfl (by kernel_rfl) (by kernel_rfl) (by kernel_rfl) (fun _ _ _ h => h) (Or.inl ⟨by rfl, ?hy16⟩) (by assumption) ?rest16
    case hy16 => (intro wS hSw; (try dsimp only at hSw); go_simp; (try with_reducible rfl))
    (try simp only [Act.put, List.setIfInBounds_toArray, List.set_cons_zero, List.set_cons_succ])
    refine wpAnyH_done (by kernel_rfl) ?_ _
    go_wp2
    go_ret
    exact ⟨strE (by rw [HE.out] <;> simp), ((HF.out.alloc _).drew).trans f3⟩
  · go_simp
    go_at_call 60
    (with_reducible refine (HC.out _).mono ?_)
    rintro e w3 ⟨rfl, f3⟩
    have u1 := (f3.cell (World.block_lt_of_cell? _ _ q1) (fun e => e)).trans q1
    have u2 := (f3.cell (World.block_lt_of_cell? _ _ q2) (fun e => e)).trans q2
    have u3 := (f3.cell (World.block_lt_of_cell? _ _ q3) (fun e => e)).trans q3
    have u4 := (f3.cell (World.block_lt_of_cell? _ _ q4) (fun e => e)).trans q4
    have u5 := (f3.cell (World.block_lt_of_cell? _ _ q5) (fun e => e)).trans q5
    have u6 := (f3.cell (World.block_lt_of_cell? _ _ q6) (fun e => e)).trans q6
    go_wp2_with fail
    refine hK.out _ _ (by exact ⟨u1, u2, u3, u4, u5, u6⟩) (fun hHeld => ?_)
    clear hK K
    (try simp only [Act.put, List.setIfInBounds_toArray, List.set_cons_zero, List.set_cons_succ])
    refine wpAnyH_ready (rs := [3]) (by kernel_rfl) (by simp) ?_
    refine AllReadyH.cons (o := ⟨some 16, _, _, _, _, none⟩) rfl (fun K hK => ?_) AllReadyH.nil
    go_simp
    have vm := six_at w3 j hj6
    rw [HMK.out] at vm
    have v1 := al_keep2 (o := (.cells #[.string ⟨#[61]⟩, .string ⟨#[60, 62]⟩, .string ⟨#[60]⟩, .string ⟨#[60, 61]⟩, .string ⟨#[62]⟩, .string ⟨#[62, 61]⟩] 9)) u1
    have v2 := al_keep2 (o := (.cells #[.string ⟨#[61]⟩, .string ⟨#[60, 62]⟩, .string ⟨#[60]⟩, .string ⟨#[60, 61]⟩, .string ⟨#[62]⟩, .string ⟨#[62, 61]⟩] 9)) u2
    have v3 := al_keep2 (o := (.cells #[.string ⟨#[61]⟩, .string ⟨#[60, 62]⟩, .string ⟨#[60]⟩, .string ⟨#[60, 61]⟩, .string ⟨#[62]⟩, .string ⟨#[62, 61]⟩] 9)) u3
    have v4 := al_keep2 (o := (.cells #[.string ⟨#[61]⟩, .string ⟨#[60, 62]⟩, .string ⟨#[60]⟩, .string ⟨#[60, 61]⟩, .string ⟨#[62]⟩, .string ⟨#[62, 61]⟩] 9)) u4
    have v5 := al_keep2 (o := (.cells #[.string ⟨#[61]⟩, .string ⟨#[60, 62]⟩, .string ⟨#[60]⟩, .string ⟨#[60, 61]⟩, .string ⟨#[62]⟩, .string ⟨#[62, 61]⟩] 9)) u5
    have v6 := al_keep2 (o := (.cells #[.string ⟨#[61]⟩, .string ⟨#[60, 62]⟩, .string ⟨#[60]⟩, .string ⟨#[60, 61]⟩, .string ⟨#[62]⟩, .string ⟨#[62, 61]⟩] 9)) u6
    refine hK.out _ _ (by exact ⟨v1, v2, v3, v4, v5, v6⟩) (fun hHeld => ?_)
    clear hK K
    (try simp only [Act.put, List.setIfInBounds_toArray, List.set_cons_zero, List.set_cons_succ])
    refine wpAnyH_more (S' := (fun W => W.cell? ⟨w3.heap.size, j, none⟩ = some (.string ⟨mk.toArray⟩) ∧ W.cell? ⟨w.heap.size, 1, none⟩ = some (.string ⟨hc.toArray⟩) ∧ W.cell? ⟨w.heap.size, 2, none⟩ = some (.int .i64 ((j : Int) + 1)) ∧ W.cell? ⟨w.heap.size, 3, none⟩ = some (.bool vn) ∧ W.cell? ⟨w.heap.size, 4, none⟩ = some (.int .i64 vi) ∧ W.cell? ⟨w.heap.size, 5, none⟩ = some (.string ⟨vt.toArray⟩) ∧ W.cell? ⟨w.heap.size, 6, none⟩ = some (.int .i64 hkd))) (fun W h => h.2) _ _ _ _ ?_
    have hMore := And.intro vm hHeld
    clear hHeld
    refine wpAnyH_take (i := 7) (oi := ⟨some 20, _, _, _, _, none⟩) (v := ?v17) rfl (by kernel_rfl) (by kernel_rfl) (by kernel_rfl) (fun _ _ _ h => h) (Or.inl ⟨by rfl, ?hy17⟩) (by assumption) ?rest17
    case hy17 => (intro wS hSw; (try dsimp only at hSw); go_simp; (try with_reducible rfl))
    (try simp only [Act.put, List.setIfInBounds_toArray, List.set_cons_zero, List.set_cons_succ])
    refine wpAnyH_take (i := 8) (oi := ⟨some 21, _, _, _, _, none⟩) (v := ?v18) rfl (by kernel_rfl) (by kernel_rfl) (by kernel_rfl) (fun _ _ _ h => h) (Or.inl ⟨by rfl, ?hy18⟩) (by assumption) ?rest18
    case hy18 => (intro wS hSw; (try dsimp only at hSw); go_simp; (try with_reducible rfl))
    (try simp only [Act.put, List.setIfInBounds_toArray, List.set_cons_zero, List.set_cons_succ])
    refine wpAnyH_take (i := 9) (oi := ⟨some 22, _, _, _, _, none⟩) (v := ?v19) rfl (by kernel_rfl) (by kernel_rfl) (by kernel_rfl) (fun _ _ _ h => h) (Or.inl ⟨by rfl, ?hy19⟩) (by assumption) ?rest19
    case hy19 => (intro wS hSw; (try dsimp only at hSw); go_simp; (try with_reducible rfl))
    (try simp only [Act.put, List.setIfInBounds_toArray, List.set_cons_zero, List.set_cons_succ])
    refine wpAnyH_take (i := 10) (oi := ⟨some 23, _, _, _, _, none⟩) (v := ?v20) rfl (by kernel_rfl) (by kernel_rfl) (by kernel_rfl) (fun _ _ _ h => h) (Or.inl ⟨by rfl, ?hy20⟩) (by assumption) ?rest20
    case hy20 => (intro wS hSw; (try dsimp only at hSw); go_simp; (try with_reducible rfl))
    (try simp only [Act.put, List.setIfInBounds_toArray, List.set_cons_zero, List.set_cons_succ])
    refine wpAnyH_take (i := 16) (oi := ⟨some 29, _, _, _, _, none⟩) (v := ?v21) rfl (by kernel_rfl) (by kernel_rfl) (by kernel_rfl) (fun _ _ _ h => h) (Or.inl ⟨by rfl, ?hy21⟩) (by assumption) ?rest21
    case hy21 => (intro wS hSw; (try dsimp only at hSw); go_simp; (try with_reducible rfl))
    (try simp only [Act.put, List.setIfInBounds_toArray, List.set_cons_zero, List.set_cons_succ])
    refine wpAnyH_take (i := 17) (oi := ⟨some 2, _, _, _, _, none⟩) (v := ?v22) rfl (by kernel_rfl) (by kernel_rfl) (by kernel_rfl) (fun _ _ _ h => h) (Or.inl ⟨by rfl, ?hy22⟩) (by assumption) ?rest22
    case hy22 => (intro wS hSw; (try dsimp only at hSw); go_simp; (try with_reducible rfl))
    (try simp only [Act.put, List.setIfInBounds_toArray, List.set_cons_zero, List.set_cons_succ])
    refine wpAnyH_done (by kernel_rfl) ?_ _
    go_wp2
    go_ret
    exact ⟨strE (by rw [HE.out] <;> simp), (HF.out.drew.trans f3).alloc _⟩

set_option maxHeartbeats 8000000 in
theorem rtext4_any (h : Ph) (ks : List Pd) (t : Kv) (w : World) (hop : h.op = 4) (hl1 : h.col.length ≤ 100) (hl2 : h.pat.length ≤ 100) :
    Calls Tryd.prog 38 #[pdV h t] w fun e w' => e = .returned (.string ⟨(textP (.mk h ks)).toArray⟩) ∧ Fr Non w w' := by
  have HE := Lib.hid (tx_4 (h := h) (ks := ks) hop)
  have HC : Hid (∀ W, Calls Tryd.prog 61 #[.string ⟨h.pat.toArray⟩] W fun e w' => e = .returned (.string ⟨(quoT h.pat).toArray⟩) ∧ Fr Non W w') := Lib.hid (fun W => rquote_any h.pat W (by omega))
  have hql := quoT_len h.pat
  have PB := pd_new w _ h t rfl
  have HF : Hid (Fr Non w (w.alloc (.cells (pdC h t) 27))) := Lib.hid ((Fr.refl Non w).alloc _)
  generalize textP (.mk h ks) = r at *
  obtain ⟨ho, hc, hm, ⟨vn, vi, vt⟩, hkd, hp⟩ := h
  obtain ⟨A, n, c⟩ := t
  dsimp only at *
  subst hop
  obtain ⟨_, q1, _, _, _, _, _, q2, _⟩ := pdB_cells PB.drew
  dsimp only at q1 q2
  generalize quoT hp = va at *
  have s1 := fun W => sadd hc [32, 108, 105, 107, 101, 32] (by simp; omega) W
  have s2 := fun W => sadd (hc ++ [32, 108, 105, 107, 101, 32]) va (by simp; omega) W
  unfold pdV
  unfold pdC kidV at *
  dsimp only at *
  go_enter Tryd.func38, Tryd.ntmps38
  go_wp2
  refine wp_region_held_drew (S := (fun W => W.cell? ⟨w.heap.size, 1, none⟩ = some (.string ⟨hc.toArray⟩) ∧ W.cell? ⟨w.heap.size, 7, none⟩ = some (.string ⟨hp.toArray⟩))) (by kernel_rfl) (by exact ⟨q1, q2⟩) (fun hHeld => ?_)
  refine wpAnyH_take (i := 0) (oi := ⟨some 37, _, _, _, _, none⟩) (v := ?v23) rfl (by kernel_rfl) (by kernel_rfl) (by kernel_rfl) (fun _ _ _ h => h) (Or.inl ⟨by rfl, ?hy23⟩) (by assumption) ?rest23
  case hy23 => (intro wS hSw; (try dsimp only at hSw); go_simp; (try with_reducible rfl))
  (try simp only [Act.put, List.setIfInBounds_toArray, List.set_cons_zero, List.set_cons_succ])
  refine wpAnyH_take (i := 1) (oi := ⟨some 38, _, _, _, _, none⟩) (v := ?v24) rfl (by kernel_rfl) (by kernel_rfl) (by kernel_rfl) (fun _ _ _ h => h) (Or.inl ⟨by rfl, ?hy24⟩) (by assumption) ?rest24
  case hy24 => (intro wS hSw; (try dsimp only at hSw); go_simp; (try with_reducible rfl))
  (try simp only [Act.put, List.setIfInBounds_toArray, List.set_cons_zero, List.set_cons_succ])
  refine wpAnyH_take (i := 2) (oi := ⟨some 39, _, _, _, _, none⟩) (v := ?v25) rfl (by kernel_rfl) (by kernel_rfl) (by kernel_rfl) (fun _ _ _ h => h) (Or.inl ⟨by rfl, ?hy25⟩) (by assumption) ?rest25
  case hy25 => (intro wS hSw; (try dsimp only at hSw); go_simp; (try with_reducible rfl))
  (try simp only [Act.put, List.setIfInBounds_toArray, List.set_cons_zero, List.set_cons_succ])
  refine wpAnyH_take (i := 3) (oi := ⟨some 40, _, _, _, _, none⟩) (v := ?v26) rfl (by kernel_rfl) (by kernel_rfl) (by kernel_rfl) (fun _ _ _ h => h) (Or.inl ⟨by rfl, ?hy26⟩) (by assumption) ?rest26
  case hy26 => (intro wS hSw; (try dsimp only at hSw); go_simp; (try with_reducible rfl))
  (try simp only [Act.put, List.setIfInBounds_toArray, List.set_cons_zero, List.set_cons_succ])
  refine wpAnyH_take (i := 4) (oi := ⟨some 41, _, _, _, _, none⟩) (v := ?v27) rfl (by kernel_rfl) (by kernel_rfl) (by kernel_rfl) (fun _ _ _ h => h) (Or.inl ⟨by rfl, ?hy27⟩) (by assumption) ?rest27
  case hy27 => (intro wS hSw; (try dsimp only at hSw); go_simp; (try with_reducible rfl))
  (try simp only [Act.put, List.setIfInBounds_toArray, List.set_cons_zero, List.set_cons_succ])
  refine wpAnyH_ready (rs := [5]) (by kernel_rfl) (by simp) ?_
  refine AllReadyH.cons (o := ⟨some 42, _, _, _, _, none⟩) rfl (fun K hK => ?_) AllReadyH.nil
  go_simp
  go_at_call 61
  (with_reducible refine (HC.out _).mono ?_)
  rintro e w3 ⟨rfl, f3⟩
  have u1 := (f3.cell (World.block_lt_of_cell? _ _ q1) (fun e => e)).trans q1
  have u2 := (f3.cell (World.block_lt_of_cell? _ _ q2) (fun e => e)).trans q2
  go_wp2_with fail
  refine hK.out _ _ (by exact ⟨u1, u2⟩) (fun hHeld => ?_)
  clear hK K
  (try simp only [Act.put, List.setIfInBounds_toArray, List.set_cons_zero, List.set_cons_succ])
  refine wpAnyH_take (i := 6) (oi := ⟨some 43, _, _, _, _, none⟩) (v := ?v28) rfl (by kernel_rfl) (by kernel_rfl) (by kernel_rfl) (fun _ _ _ h => h) (Or.inl ⟨by rfl, ?hy28⟩) (by assumption) ?rest28
  case hy28 => (intro wS hSw; (try dsimp only at hSw); go_simp; (try with_reducible rfl))
  (try simp only [Act.put, List.setIfInBounds_toArray, List.set_cons_zero, List.set_cons_succ])
  refine wpAnyH_take (i := 7) (oi := ⟨some 2, _, _, _, _, none⟩) (v := ?v29) rfl (by kernel_rfl) (by kernel_rfl) (by kernel_rfl) (fun _ _ _ h => h) (Or.inl ⟨by rfl, ?hy29⟩) (by assumption) ?rest29
  case hy29 => (intro wS hSw; (try dsimp only at hSw); go_simp; (try with_reducible rfl))
  (try simp only [Act.put, List.setIfInBounds_toArray, List.set_cons_zero, List.set_cons_succ])
  refine wpAnyH_done (by kernel_rfl) ?_ _
  go_wp2
  go_ret
  exact ⟨strE (by rw [HE.out] <;> simp), HF.out.drew.trans f3⟩

set_option maxHeartbeats 8000000 in
theorem rtext5_any (h : Ph) (ks : List Pd) (t : Kv) (w : World) (hop : h.op = 5) (hk : Kd w t ks) (h1 : ks.length = 1) (hops : ∀ k ∈ ks, 1 ≤ k.hd.op ∧ k.hd.op ≤ 7) (hl : ∀ k ∈ ks, (textP k).length ≤ 100000)
    (IH : Hid (∀ k (h : k < ks.length) W t', Kd W t' ks[k].kids → Calls Tryd.prog 38 #[pdV ks[k].hd t'] W fun e w' => e = .returned (.string ⟨(textP ks[k]).toArray⟩) ∧ Fr Non W w')) :
    Calls Tryd.prog 38 #[pdV h t] w fun e w' => e = .returned (.string ⟨(textP (.mk h ks)).toArray⟩) ∧ Fr Non w w' := by
  have hn := hk.len
  match ks, h1 with
  | [p], _ =>
  have HE := Lib.hid (tx_5 (h := h) (k := p) (ks := []) hop)
  have PB := Lib.hid (pd_new w _ h t rfl)
  have F0 : Fr Non w (w.alloc (.cells (pdC h t) 27)) := (Fr.refl Non w).alloc _
  obtain ⟨a, s, hA, hc2, hkk, _⟩ := hk.elN F0 0 (by simp)
  have HC := Lib.hid (IH.out 0 (by simp) _ s (hkk.non F0))
  have hpo := hops p (by simp)
  have hpl := hl p (by simp)
  have HK := Lib.hid hk
  clear IH hkk hops hl hk
  simp only [List.getElem_cons_zero] at HC hc2
  rw [show a.add (0 * 9) = a by simp [Addr.add]] at hc2
  generalize hrr : textP (.mk h [p]) = r at *
  clear hrr
  have HF := Lib.hid F0
  clear F0
  obtain ⟨x, ps⟩ := p
  dsimp only [Pd.hd] at hpo hc2 HC
  have HI := Lib.hid (fun e => brk_in (ops := [6, 7]) (h := x) (ks := ps) e)
  have HO := Lib.hid (fun e => brk_out (ops := [6, 7]) (h := x) (ks := ps) e)
  generalize brkP [6, 7] (.mk x ps) = y at *
  generalize textP (.mk x ps) = tx at *
  have s1 := fun W => sadd [110, 111, 116, 32] tx (by simp; omega) W
  have s2 := fun W => sadd [40] tx (by simp; omega) W
  have s3 := fun W => sadd ([40] ++ tx) [41] (by simp; omega) W
  have s4 := fun W => sadd [110, 111, 116, 32] ([40] ++ tx ++ [41]) (by simp; omega) W
  have HC3 := Lib.hid (fun W (f1 : Fr Non (w.alloc (.cells (pdC h t) 27)) W) => HK.out.elN (HF.out.trans f1) 0 (by simp))
  obtain ⟨ho, hc, hm, ⟨vn, vi, vt⟩, hkd, hp⟩ := h
  obtain ⟨A, n, c⟩ := t
  dsimp only at hn hA hop
  subst hop hA
  simp only [List.length_cons, List.length_nil] at hn
  subst hn
  obtain ⟨c0, c1, c2, c3, c4, c5, c6, c7, c8⟩ := hc2
  have e0 := Lib.hid c0
  obtain ⟨xo, xc, xm, ⟨xn, xi, xt⟩, xk, xp⟩ := x
  obtain ⟨tA, tn, tc⟩ := s
  dsimp only at hpo HI HO
  unfold pdV at HC ⊢
  unfold pdC kidV at *
  dsimp only at *
  by_cases h6 : 6 ≤ xo
  · have HE2 := Lib.hid (HI.out (by simp; try omega))
    clear HI HO
    go_enter Tryd.func38, Tryd.ntmps38
    go_wp2_with fail
    refine HC.out.mono ?_
    rintro e w1 ⟨rfl, f1⟩
    have d0 := (f1.cell (World.block_lt_of_cell? _ _ e0.out) (fun e => e)).trans e0.out
    have b8 := (PB.out.fr f1 (fun e => e)).cell 8
    simp [pdC, kidV] at b8
    have F1 := Lib.hid (HF.out.trans f1)
    clear f1
    go_wp2
    go_ret
    exact ⟨strE (by rw [HE.out, HE2.out] <;> simp), F1.out⟩
  · have HE2 := Lib.hid (HO.out (by simp; try omega))
    have h6n : ¬ (6 : Int) ≤ xo := h6
    clear HI HO
    go_enter Tryd.func38, Tryd.ntmps38
    go_wp2_with fail
    refine HC.out.mono ?_
    rintro e w1 ⟨rfl, f1⟩
    have d0 := (f1.cell (World.block_lt_of_cell? _ _ e0.out) (fun e => e)).trans e0.out
    have b8 := (PB.out.fr f1 (fun e => e)).cell 8
    simp [pdC, kidV] at b8
    have F1 := Lib.hid (HF.out.trans f1)
    clear f1
    go_wp2
    go_ret
    exact ⟨strE (by rw [HE.out, HE2.out] <;> simp), F1.out⟩

theorem joinT_more (ops : List Int) (sep : Tx) {ks : List Pd} {k : Nat} (h : k < ks.length) : Lib.join ((ks.take (k + 1)).map (brkP ops)) sep = if k = 0 then brkP ops ks[k] else Lib.join ((ks.take k).map (brkP ops)) sep ++ sep ++ brkP ops ks[k] := by
  rw [brkT_more ops h, join_more, List.length_map, List.length_take, Nat.min_eq_left (by omega)]
theorem inter_pre (sep : Tx) (l m : List Tx) : (Lib.join l sep).length ≤ (Lib.join (l ++ m) sep).length := by
  unfold Lib.join
  induction l with
  | nil => simp [List.intercalate]
  | cons x r ih =>
    cases r with
    | nil =>
      cases m with
      | nil => simp
      | cons y m => 
        have e : List.intercalate sep ([x] ++ y :: m) = x ++ sep ++ List.intercalate sep (y :: m) := by simp [List.intercalate]
        rw [e]; simp [List.intercalate]; try omega
    | cons y r =>
      have e : List.intercalate sep (x :: y :: r) = x ++ sep ++ List.intercalate sep (y :: r) := by simp [List.intercalate]
      have e2 : List.intercalate sep (x :: y :: r ++ m) = x ++ sep ++ List.intercalate sep (y :: r ++ m) := by simp [List.intercalate]
      rw [e, e2, List.length_append, List.length_append, List.length_append, List.length_append]
      omega
theorem joinT_len (ops : List Int) (sep : Tx) (ks : List Pd) (k : Nat) : (Lib.join ((ks.take k).map (brkP ops)) sep).length ≤ (Lib.join (ks.map (brkP ops)) sep).length := by
  have := inter_pre sep ((ks.take k).map (brkP ops)) ((ks.drop k).map (brkP ops))
  rwa [← List.map_append, List.take_append_drop] at this

set_option maxHeartbeats 8000000 in
theorem rtext6_any (h : Ph) (ks : List Pd) (t : Kv) (w : World) (hop : h.op = 6) (hk : Kd w t ks) (hl20 : ks.length ≤ 20) (hJ : (textP (.mk h ks)).length ≤ 100000) (hl : ∀ k ∈ ks, (textP k).length ≤ 100000)
    (IH : Hid (∀ k (h : k < ks.length) W t', Kd W t' ks[k].kids → Calls Tryd.prog 38 #[pdV ks[k].hd t'] W fun e w' => e = .returned (.string ⟨(textP ks[k]).toArray⟩) ∧ Fr Non W w')) :
    Calls Tryd.prog 38 #[pdV h t] w fun e w' => e = .returned (.string ⟨(textP (.mk h ks)).toArray⟩) ∧ Fr Non w w' := by
  have hn := hk.len
  have HE := Lib.hid (tx_6 (h := h) (ks := ks) hop)
  have PB := Lib.hid (pd_new w _ h t rfl)
  have F0 : Fr Non w (w.alloc (.cells (pdC h t) 27)) := (Fr.refl Non w).alloc _
  have HF := Lib.hid F0
  have HK := Lib.hid hk
  have HT := Lib.hid hl
  have HJ : Hid (∀ k, (Lib.join ((ks.take k).map (brkP [7])) andT).length ≤ 100000) := Lib.hid (fun k => Nat.le_trans (joinT_len _ _ _ _) (by rw [← HE.out]; exact hJ))
  generalize textP (.mk h ks) = r at *
  clear F0 hk hl hJ
  obtain ⟨ho, hc, hm, ⟨vn, vi, vt⟩, hkd, hp⟩ := h
  obtain ⟨A, n, c⟩ := t
  dsimp only at hn hop
  subst hop
  have hn20 : n ≤ 20 := by omega
  have HL := Lib.hid hn
  clear hn hl20
  unfold pdV
  unfold pdC kidV
  dsimp only
  have HS0 : Hid ([] = Lib.join ((ks.take 0).map (brkP [7])) andT) := Lib.hid rfl
  go_enter Tryd.func38, Tryd.ntmps38
  go_wp2
  go_loopw [4, 5, 6] (fun u i x wr => ∃ (k : Nat) (so : Tx) (xv : Value), k ≤ n ∧ i = .int .i64 k ∧ u = .string ⟨so.toArray⟩ ∧ x = xv ∧ Hid (so = Lib.join ((ks.take k).map (brkP [7])) andT) ∧ Hid (Fr Non (w.alloc (.cells (pdC ⟨6, hc, hm, ⟨vn, vi, vt⟩, hkd, hp⟩ ⟨A, n, c⟩) 27)) wr)) (fun _ i _ _ => n - (intOf i).toNat)
  case atStart => exact ⟨0, [], _, Nat.zero_le _, rfl, rfl, rfl, HS0, Lib.hid (Fr.refl _ _)⟩
  case round =>
    clear HS0
    obtain ⟨k, so, xv, hk, rfl, rfl, rfl, HS, FR⟩ := hrel
    have b8 := (PB.out.fr FR.out (fun e => e)).cell 8
    simp [pdC, kidV] at b8
    have HFw := Lib.hid (HF.out.trans FR.out)
    by_cases hlt : k < n
    · have hlt2 : k < ks.length := by have := HL.out; omega
      obtain ⟨a, t, hA, hc2, hkk, _⟩ := HK.out.elN HFw.out k hlt2
      have HC := Lib.hid (IH.out k hlt2 wr t (hkk.non HFw.out))
      have hpl := HT.out _ (List.getElem_mem hlt2)
      have hso : so.length ≤ 100000 := by rw [HS.out]; exact HJ.out k
      have HY0 := Lib.hid (joinT_more [7] andT hlt2)
      rw [← HS.out] at HY0
      dsimp only at hA
      subst hA
      clear hkk
      generalize ks[k] = p at *
      obtain ⟨x, ps⟩ := p
      dsimp only [Pd.hd] at hc2 HC
      have HI := Lib.hid (fun e => brk_in (ops := [7]) (h := x) (ks := ps) e)
      have HO := Lib.hid (fun e => brk_out (ops := [7]) (h := x) (ks := ps) e)
      generalize brkP [7] (.mk x ps) = y at *
      generalize textP (.mk x ps) = tx at *
      obtain ⟨c0, c1, c2, c3, c4, c5, c6, c7, c8⟩ := hc2
      have e0 := Lib.hid c0
      obtain ⟨xo, xc, xm, ⟨xn, xi, xt⟩, xk, xp⟩ := x
      obtain ⟨tA, tn, tc⟩ := t
      dsimp only at HI HO
      unfold pdV pdC kidV at HC
      dsimp only at HC c0 c1 c2 c3 c4 c5 c6 c7 c8
      dsimp only at e0
      by_cases h7 : xo = 7
      · have HE2 := Lib.hid (HI.out (by simp [h7]))
        clear HI HO
        subst h7
        have z1 := fun W => sadd [40] tx (by simp; omega) W
        have z2 := fun W => sadd ([40] ++ tx) [41] (by simp; omega) W
        by_cases hk0 : k = 0
        · subst hk0
          have HY : Hid (Lib.join ((ks.take (0 + 1)).map (brkP [7])) andT = y) := Lib.hid (by rw [HY0.out, if_pos rfl])
          have hso0 : so = [] := HS.out
          have ha0 : a.add (0 * 9) = a := by simp [Addr.add]
          rw [ha0] at c0 c1 c2 c3 c4 c5 c6 c7 c8 e0
          subst hso0
          clear HY0 HS
          have s2 := fun W => sadd [] ([40] ++ tx ++ [41]) (by simp; omega) W
          go_wp2_with fail
          refine HC.out.mono ?_
          rintro e w2 ⟨rfl, f2⟩
          have d0 := (f2.cell (World.block_lt_of_cell? _ _ e0.out) (fun e => e)).trans e0.out
          have F2 := Lib.hid (FR.out.trans f2)
          have b0 := (PB.out.fr F2.out (fun e => e)).cell 0
          have b8 := (PB.out.fr F2.out (fun e => e)).cell 8
          simp [pdC, kidV] at b0 b8
          clear f2
          go_wp2
          go_roundw
          case rel => exact ⟨0 + 1, _, _, by omega, by go_num, rfl, rfl, Lib.hid (by rw [HY.out, HE2.out] <;> simp), Lib.hid F2.out⟩
          case measure => simp [intOf]; omega
        · have HY : Hid (Lib.join ((ks.take (k + 1)).map (brkP [7])) andT = so ++ andT ++ y) := Lib.hid (by rw [HY0.out, if_neg hk0])
          have hkp : 0 < k := by omega
          clear HY0 HS hk0
          have s1 := fun W => sadd so [32, 97, 110, 100, 32] (by simp; omega) W
          have s2 := fun W => sadd (so ++ [32, 97, 110, 100, 32]) ([40] ++ tx ++ [41]) (by simp; omega) W
          go_wp2_with fail
          refine HC.out.mono ?_
          rintro e w2 ⟨rfl, f2⟩
          have d0 := (f2.cell (World.block_lt_of_cell? _ _ e0.out) (fun e => e)).trans e0.out
          have F2 := Lib.hid (FR.out.trans f2)
          have b0 := (PB.out.fr F2.out (fun e => e)).cell 0
          have b8 := (PB.out.fr F2.out (fun e => e)).cell 8
          simp [pdC, kidV] at b0 b8
          clear f2
          go_wp2
          go_roundw
          case rel => exact ⟨k + 1, _, _, by omega, by go_num, rfl, rfl, Lib.hid (by rw [HY.out, HE2.out] <;> simp [andT]), Lib.hid F2.out⟩
          case measure => simp [intOf]; omega
      · have hx7 : (xo == 7) = false := by rw [beq_eq_false_iff_ne]; exact h7
        have HE2 := Lib.hid (HO.out (by simp [h7]))
        clear HI HO h7
        by_cases hk0 : k = 0
        · subst hk0
          have HY : Hid (Lib.join ((ks.take (0 + 1)).map (brkP [7])) andT = y) := Lib.hid (by rw [HY0.out, if_pos rfl])
          have hso0 : so = [] := HS.out
          have ha0 : a.add (0 * 9) = a := by simp [Addr.add]
          rw [ha0] at c0 c1 c2 c3 c4 c5 c6 c7 c8 e0
          subst hso0
          clear HY0 HS
          have s2 := fun W => sadd [] tx (by simp; omega) W
          go_wp2_with fail
          refine HC.out.mono ?_
          rintro e w2 ⟨rfl, f2⟩
          have d0 := (f2.cell (World.block_lt_of_cell? _ _ e0.out) (fun e => e)).trans e0.out
          have F2 := Lib.hid (FR.out.trans f2)
          have b0 := (PB.out.fr F2.out (fun e => e)).cell 0
          have b8 := (PB.out.fr F2.out (fun e => e)).cell 8
          simp [pdC, kidV] at b0 b8
          clear f2
          go_wp2
          go_roundw
          case rel => exact ⟨0 + 1, _, _, by omega, by go_num, rfl, rfl, Lib.hid (by rw [HY.out, HE2.out] <;> simp), Lib.hid F2.out⟩
          case measure => simp [intOf]; omega
        · have HY : Hid (Lib.join ((ks.take (k + 1)).map (brkP [7])) andT = so ++ andT ++ y) := Lib.hid (by rw [HY0.out, if_neg hk0])
          have hkp : 0 < k := by omega
          clear HY0 HS hk0
          have s1 := fun W => sadd so [32, 97, 110, 100, 32] (by simp; omega) W
          have s2 := fun W => sadd (so ++ [32, 97, 110, 100, 32]) tx (by simp; omega) W
          go_wp2_with fail
          refine HC.out.mono ?_
          rintro e w2 ⟨rfl, f2⟩
          have d0 := (f2.cell (World.block_lt_of_cell? _ _ e0.out) (fun e => e)).trans e0.out
          have F2 := Lib.hid (FR.out.trans f2)
          have b0 := (PB.out.fr F2.out (fun e => e)).cell 0
          have b8 := (PB.out.fr F2.out (fun e => e)).cell 8
          simp [pdC, kidV] at b0 b8
          clear f2
          go_wp2
          go_roundw
          case rel => exact ⟨k + 1, _, _, by omega, by go_num, rfl, rfl, Lib.hid (by rw [HY.out, HE2.out] <;> simp [andT]), Lib.hid F2.out⟩
          case measure => simp [intOf]; omega
    · have HR : Hid (r = so) := Lib.hid (by
        rw [HE.out, HS.out, List.take_of_length_le (by have := HL.out; omega)])
      clear HS
      go_wp2
      go_ret
      exact ⟨strE HR.out.symm, HFw.out⟩

set_option maxHeartbeats 8000000 in
theorem rtext7_any (h : Ph) (ks : List Pd) (t : Kv) (w : World) (hop : h.op = 7) (hk : Kd w t ks) (hl20 : ks.length ≤ 20) (hJ : (textP (.mk h ks)).length ≤ 100000) (hl : ∀ k ∈ ks, (textP k).length ≤ 100000)
    (IH : Hid (∀ k (h : k < ks.length) W t', Kd W t' ks[k].kids → Calls Tryd.prog 38 #[pdV ks[k].hd t'] W fun e w' => e = .returned (.string ⟨(textP ks[k]).toArray⟩) ∧ Fr Non W w')) :
    Calls Tryd.prog 38 #[pdV h t] w fun e w' => e = .returned (.string ⟨(textP (.mk h ks)).toArray⟩) ∧ Fr Non w w' := by
  have hn := hk.len
  have HE := Lib.hid (tx_7 (h := h) (ks := ks) hop)
  have PB := Lib.hid (pd_new w _ h t rfl)
  have F0 : Fr Non w (w.alloc (.cells (pdC h t) 27)) := (Fr.refl Non w).alloc _
  have HF := Lib.hid F0
  have HK := Lib.hid hk
  have HT := Lib.hid hl
  have HJ : Hid (∀ k, (Lib.join ((ks.take k).map (brkP [])) orT).length ≤ 100000) := Lib.hid (fun k => Nat.le_trans (joinT_len _ _ _ _) (by rw [← HE.out]; exact hJ))
  generalize textP (.mk h ks) = r at *
  clear F0 hk hl hJ
  obtain ⟨ho, hc, hm, ⟨vn, vi, vt⟩, hkd, hp⟩ := h
  obtain ⟨A, n, c⟩ := t
  dsimp only at hn hop
  subst hop
  have hn20 : n ≤ 20 := by omega
  have HL := Lib.hid hn
  clear hn hl20
  unfold pdV
  unfold pdC kidV
  dsimp only
  have HS0 : Hid ([] = Lib.join ((ks.take 0).map (brkP [])) orT) := Lib.hid rfl
  go_enter Tryd.func38, Tryd.ntmps38
  go_wp2
  go_loopw [4, 5, 6] (fun u i x wr => ∃ (k : Nat) (so : Tx) (xv : Value), k ≤ n ∧ i = .int .i64 k ∧ u = .string ⟨so.toArray⟩ ∧ x = xv ∧ Hid (so = Lib.join ((ks.take k).map (brkP [])) orT) ∧ Hid (Fr Non (w.alloc (.cells (pdC ⟨7, hc, hm, ⟨vn, vi, vt⟩, hkd, hp⟩ ⟨A, n, c⟩) 27)) wr)) (fun _ i _ _ => n - (intOf i).toNat)
  case atStart => exact ⟨0, [], _, Nat.zero_le _, rfl, rfl, rfl, HS0, Lib.hid (Fr.refl _ _)⟩
  case round =>
    clear HS0
    obtain ⟨k, so, xv, hk, rfl, rfl, rfl, HS, FR⟩ := hrel
    have b8 := (PB.out.fr FR.out (fun e => e)).cell 8
    simp [pdC, kidV] at b8
    have HFw := Lib.hid (HF.out.trans FR.out)
    by_cases hlt : k < n
    · have hlt2 : k < ks.length := by have := HL.out; omega
      obtain ⟨a, t, hA, hc2, hkk, _⟩ := HK.out.elN HFw.out k hlt2
      have HC := Lib.hid (IH.out k hlt2 wr t (hkk.non HFw.out))
      have hpl := HT.out _ (List.getElem_mem hlt2)
      have hso : so.length ≤ 100000 := by rw [HS.out]; exact HJ.out k
      have HY0 := Lib.hid (joinT_more [] orT hlt2)
      rw [← HS.out] at HY0
      dsimp only at hA
      subst hA
      clear hkk
      generalize ks[k] = p at *
      obtain ⟨x, ps⟩ := p
      dsimp only [Pd.hd] at hc2 HC
      have HI := Lib.hid (fun e => brk_in (ops := []) (h := x) (ks := ps) e)
      have HO := Lib.hid (fun e => brk_out (ops := []) (h := x) (ks := ps) e)
      generalize brkP [] (.mk x ps) = y at *
      generalize textP (.mk x ps) = tx at *
      obtain ⟨c0, c1, c2, c3, c4, c5, c6, c7, c8⟩ := hc2
      have e0 := Lib.hid c0
      obtain ⟨xo, xc, xm, ⟨xn, xi, xt⟩, xk, xp⟩ := x
      obtain ⟨tA, tn, tc⟩ := t
      dsimp only at HI HO
      unfold pdV pdC kidV at HC
      dsimp only at HC c0 c1 c2 c3 c4 c5 c6 c7 c8
      dsimp only at e0
      have HE2 := Lib.hid (HO.out (by simp))
      clear HI HO
      by_cases hk0 : k = 0
      · subst hk0
        have HY : Hid (Lib.join ((ks.take (0 + 1)).map (brkP [])) orT = y) := Lib.hid (by rw [HY0.out, if_pos rfl])
        have hso0 : so = [] := HS.out
        have ha0 : a.add (0 * 9) = a := by simp [Addr.add]
        rw [ha0] at c0 c1 c2 c3 c4 c5 c6 c7 c8 e0
        subst hso0
        clear HY0 HS
        have s2 := fun W => sadd [] tx (by simp; omega) W
        go_wp2_with fail
        refine HC.out.mono ?_
        rintro e w2 ⟨rfl, f2⟩
        have d0 := (f2.cell (World.block_lt_of_cell? _ _ e0.out) (fun e => e)).trans e0.out
        have F2 := Lib.hid (FR.out.trans f2)
        have b0 := (PB.out.fr F2.out (fun e => e)).cell 0
        have b8 := (PB.out.fr F2.out (fun e => e)).cell 8
        simp [pdC, kidV] at b0 b8
        clear f2
        go_wp2
        go_roundw
        case rel => exact ⟨0 + 1, _, _, by omega, by go_num, rfl, rfl, Lib.hid (by rw [HY.out, HE2.out] <;> simp), Lib.hid F2.out⟩
        case measure => simp [intOf]; omega
      · have HY : Hid (Lib.join ((ks.take (k + 1)).map (brkP [])) orT = so ++ orT ++ y) := Lib.hid (by rw [HY0.out, if_neg hk0])
        have hkp : 0 < k := by omega
        clear HY0 HS hk0
        have s1 := fun W => sadd so [32, 111, 114, 32] (by simp; omega) W
        have s2 := fun W => sadd (so ++ [32, 111, 114, 32]) tx (by simp; omega) W
        go_wp2_with fail
        refine HC.out.mono ?_
        rintro e w2 ⟨rfl, f2⟩
        have d0 := (f2.cell (World.block_lt_of_cell? _ _ e0.out) (fun e => e)).trans e0.out
        have F2 := Lib.hid (FR.out.trans f2)
        have b0 := (PB.out.fr F2.out (fun e => e)).cell 0
        have b8 := (PB.out.fr F2.out (fun e => e)).cell 8
        simp [pdC, kidV] at b0 b8
        clear f2
        go_wp2
        go_roundw
        case rel => exact ⟨k + 1, _, _, by omega, by go_num, rfl, rfl, Lib.hid (by rw [HY.out, HE2.out] <;> simp [orT]), Lib.hid F2.out⟩
        case measure => simp [intOf]; omega
    · have HR : Hid (r = so) := Lib.hid (by
        rw [HE.out, HS.out, List.take_of_length_le (by have := HL.out; omega)])
      clear HS
      go_wp2
      go_ret
      exact ⟨strE HR.out.symm, HFw.out⟩

set_option maxHeartbeats 2000000 in
theorem rtext13_any (h : Ph) (ks : List Pd) (t : Kv) (w : World) (hop : h.op = 1 ∨ h.op = 3) (hl1 : h.col.length ≤ 100) :
    Calls Tryd.prog 38 #[pdV h t] w fun e w' => e = .returned (.string ⟨(textP (.mk h ks)).toArray⟩) ∧ Fr Non w w' := by
  have X1 := Lib.hid (fun e => tx_1 (h := h) (ks := ks) e)
  have X3 := Lib.hid (fun e => tx_3 (h := h) (ks := ks) e)
  have HF : Hid (Fr Non w (w.alloc (.cells (pdC h t) 27))) := Lib.hid ((Fr.refl Non w).alloc _)
  generalize textP (.mk h ks) = r at *
  obtain ⟨ho, hc, hm, ⟨vn, vi, vt⟩, hkd, hp⟩ := h
  obtain ⟨A, n, c⟩ := t
  dsimp only at *
  unfold pdV
  unfold pdC kidV at *
  dsimp only at *
  rcases hop with h1 | h3
  · have HE := Lib.hid (X1.out h1)
    subst h1
    clear X1 X3
    go_enter Tryd.func38, Tryd.ntmps38
    go_wp2
    go_ret
    exact ⟨strE (by rw [HE.out]), HF.out⟩
  · have HE := Lib.hid (X3.out h3)
    subst h3
    clear X1 X3
    have s1 := fun W => sadd hc [32, 105, 115, 32, 110, 117, 108, 108] (by simp; omega) W
    go_enter Tryd.func38, Tryd.ntmps38
    go_wp2
    go_ret
    exact ⟨strE (by rw [HE.out]), HF.out⟩
theorem rptext_any (p : Pd) : ∀ (t : Kv) (w : World), Kd w t p.kids → I64b p.hd.val.num → lenP p = true → oneP p = true → cntP p ≤ 16 →
    Calls Tryd.prog 38 #[pdV p.hd t] w fun e w' => e = .returned (.string ⟨(textP p).toArray⟩) ∧ Fr Non w w' := by
  induction p using Pd.ind with
  | h hd ks ih =>
    intro t w hk hb hlen hone hcnt
    dsimp only [Pd.hd, Pd.kids] at hk hb ⊢
    have hls := lenP_mk hlen
    have hops := one_ops hone
    have hnum : numP (.mk hd ks) := ⟨hb, hk.num⟩
    have htl := text_len (.mk hd ks) hnum hlen
    have hkl : ∀ k ∈ ks, (textP k).length ≤ 100000 := fun k hm => by
      have h1 := cntL_mem hm
      rw [cntP] at hcnt
      have := text_len k ((numL_all ks).1 hk.num _ hm) (hls.2.2.2.2 _ hm)
      omega
    have IH : Hid (∀ k (h : k < ks.length) W t', Kd W t' ks[k].kids → Calls Tryd.prog 38 #[pdV ks[k].hd t'] W fun e w' => e = .returned (.string ⟨(textP ks[k]).toArray⟩) ∧ Fr Non W w') :=
      Lib.hid (fun k h W t' a => by
        have hm := List.getElem_mem h
        have h1 := cntL_mem hm
        rw [cntP] at hcnt
        refine ih _ hm t' W a ?_ (hls.2.2.2.2 _ hm) (hops.2 _ hm) (by omega)
        have := (numL_all ks).1 hk.num _ hm
        generalize ks[k] = p at *
        obtain ⟨h, ks⟩ := p
        exact this.1)
    have hko : ∀ k ∈ ks, 1 ≤ k.hd.op ∧ k.hd.op ≤ 7 := fun k hm => by
      have h1 := hops.2 k hm
      obtain ⟨h, ks⟩ := k
      have h2 := (one_ops h1).1
      show 1 ≤ h.op ∧ h.op ≤ 7
      omega
    rcases hops.1 with h1 | ⟨h2, hc1, hc6⟩ | h3 | h4 | ⟨h5, hk1⟩ | h6 | h7
    · exact rtext13_any hd ks t w (.inl h1) hls.2.1
    · exact rtext2_any hd ks t w h2 ⟨hc1, hc6⟩ hb hls.2.1 hls.2.2.2.1
    · exact rtext13_any hd ks t w (.inr h3) hls.2.1
    · exact rtext4_any hd ks t w h4 hls.2.1 hls.2.2.1
    · exact rtext5_any hd ks t w h5 hk hk1 hko hkl IH
    · exact rtext6_any hd ks t w h6 hk hls.1 (by omega) hkl IH
    · exact rtext7_any hd ks t w h7 hk hls.1 (by omega) hkl IH
set_option maxHeartbeats 2000000 in
theorem rpText_any (h : Ph) (t : Kv) (ks : List Pd) (w : World) (hk : Kd w t ks) (hb : I64b h.val.num) (hlen : lenP (.mk h ks) = true) :
    Calls Tryd.prog 19 #[pdV h t] w fun e w' => e = .returned (.string ⟨(TextP (.mk h ks)).toArray⟩) ∧ Fr Non w w' := by
  have F0 : Fr Non w (w.alloc (.cells (pdC h t) 27)) := (Fr.refl Non w).alloc _
  have M1 := Lib.hid (rpmay_any h t ks _ (hk.non F0) hlen)
  have PB := Lib.hid (pd_new w _ h t rfl)
  have C1 : Hid (mayP (.mk h ks) = true → ∀ W, Fr Non w W → Calls Tryd.prog 38 #[pdV h t] W fun e w' => e = .returned (.string ⟨(textP (.mk h ks)).toArray⟩) ∧ Fr Non W w') := Lib.hid (fun e W hf => by
    unfold mayP at e
    rw [Bool.and_eq_true, decide_eq_true_eq] at e
    exact rptext_any (.mk h ks) t W (hk.non hf) hb hlen e.2 e.1.1)
  have HE0 : Hid (TextP (.mk h ks) = if mayP (.mk h ks) = true then textP (.mk h ks) else []) := Lib.hid rfl
  generalize TextP (.mk h ks) = r at *
  generalize textP (.mk h ks) = tx at *
  generalize mayP (.mk h ks) = b at *
  have F0 := Lib.hid F0
  clear hk hlen
  obtain ⟨ho, hc, hm, ⟨vn, vi, vt⟩, hkd, hp⟩ := h
  obtain ⟨A, nn, c⟩ := t
  unfold pdV pdC kidV at *
  dsimp only at *
  cases b
  · have HE : Hid (r = []) := Lib.hid (by rw [HE0.out, if_neg (by simp)])
    clear HE0 C1
    go_enter Tryd.func19, Tryd.ntmps19
    go_wp2_with fail
    refine M1.out.mono ?_
    rintro e w1 ⟨rfl, f1⟩
    go_wp2
    go_ret
    exact ⟨by rw [HE.out]; rfl, F0.out.trans f1⟩
  · have HE : Hid (r = tx) := Lib.hid (by rw [HE0.out, if_pos rfl])
    have C2 := Lib.hid (C1.out rfl)
    clear HE0 C1
    go_enter Tryd.func19, Tryd.ntmps19
    go_wp2_with fail
    refine M1.out.mono ?_
    rintro e w1 ⟨rfl, f1⟩
    obtain ⟨g0, g1, g2, g3, g4, g5, g6, g7, g8⟩ := pdB_cells (PB.out.fr f1 (fun e => e))
    dsimp only at g0 g1 g2 g3 g4 g5 g6 g7 g8
    have F1 := Lib.hid (F0.out.trans f1)
    clear f1
    go_wp2_with fail
    refine (C2.out _ F1.out).mono ?_
    rintro e w2 ⟨rfl, f2⟩
    go_wp2
    go_ret
    exact ⟨by rw [HE.out]; rfl, F1.out.trans f2⟩
end Go.Proofs.YtibopcceffncpaaDoor
