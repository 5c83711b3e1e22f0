/-
  Joined: Layer 17: the document's May, Small, typed, Fits. · Layer 18: which queries there may be, the program's: the document's. · Layer 17: whether two are the same, both programs'. · Layer 18: which queries there may be, the program's: whether two queries are the same, both programs'. · Layer 18: which queries there may be, the program's: a plain one, one of aggregates. · Layer 18: which queries there may be, the program's: what is asked for, as queries have it.
-/
import Derived.Laws.StructEq
import Derived.Laws.Rows
import Derived.Laws.ResultCell
import Derived.Lib.Zigzag
import Derived.Lib.DecodeN
import Derived.Laws.RangeAny
import Derived.Laws.Cover4
import Derived.Laws.Cover1
import Derived.Deep.QuietTactic
import Derived.BigQuiet
import Derived.Deep.RegionHeld3
import Derived.Deep.DrawnRows
import Derived.Lib.SmallJoins
import Derived.Lib.AppendIntMem
import Derived.Test.YtibopcceffncpaaDoorZ4
import Derived.Test.YtibopcceffncpaaDoorZ3
import Derived.Test.YtibopcceffncpaaDoorZ1
import Derived.Test.YtibopcceffncpaaDoorZ2

namespace Go.Proofs.YtibopcceffncpaaDoor
set_option linter.unusedVariables false
set_option linter.unusedSimpArgs false
set_option maxRecDepth 100000
open Go.RowKit

set_option maxHeartbeats 2000000 in
theorem rpmay_any (h : Ph) (t : Kv) (ks : List Pd) (w : World) (hk : Kd w t ks) (hlen : lenP (.mk h ks) = true) :
    Calls Tryd.prog 26 #[pdV h t] w fun e w' => e = .returned (.bool (mayP (.mk h ks))) ∧ Fr Non w w' := by
  have F0 : Fr Non w (w.alloc (.cells (pdC h t) 27)) := (Fr.refl Non w).alloc _
  have HM := Lib.hid (may_size (.mk h ks))
  have C1 := rsize_any (.mk h ks) t 16 6 6 _ rfl (hk.non F0) hlen (by omega) (by omega) (by omega)
  have C2 := Lib.hid (fun W hk => ronep_any (.mk h ks) t W hk hlen)
  have PB := Lib.hid (pd_new w _ h t rfl)
  have hs := (size_is (.mk h ks) 16 6 (by omega)).2.2
  generalize sizeP (.mk h ks) 16 6 = z at *
  generalize mayP (.mk h ks) = r at *
  generalize oneP (.mk h ks) = b at *
  dsimp only [Pd.hd, Pd.kids] at C1 C2
  have C1 := Lib.hid C1
  have HK := Lib.hid (hk.non F0)
  have F0 := Lib.hid F0
  clear hk hlen
  obtain ⟨ho, hc, hm, ⟨vn, vi, vt⟩, hkd, hp⟩ := h
  obtain ⟨A, nn, c⟩ := t
  unfold pdV pdC kidV at *
  dsimp only at *
  by_cases h16 : z ≤ 16
  · have HE : Hid (r = b) := Lib.hid (by rw [← HM.out, decide_eq_true h16]; rfl)
    clear HM
    go_enter Tryd.func26, Tryd.ntmps26
    go_wp2_with fail
    refine C1.out.mono ?_
    rintro e w1 ⟨rfl, f1⟩
    obtain ⟨g0, g1, g2, g3, g4, g5, g6, g7, g8⟩ := pdB_cells (PB.out.fr f1 (fun e => e))
    dsimp only at g0 g1 g2 g3 g4 g5 g6 g7 g8
    have HK1 := Lib.hid (HK.out.non f1)
    have F1 := Lib.hid (F0.out.trans f1)
    clear f1
    go_wp2_with fail
    refine (C2.out _ HK1.out).mono ?_
    rintro e w2 ⟨rfl, f2⟩
    go_wp2
    go_ret
    exact ⟨ret_boolE HE.out.symm, F1.out.trans f2⟩
  · have HE : Hid (r = false) := Lib.hid (by rw [← HM.out, decide_eq_false h16]; rfl)
    clear HM
    go_enter Tryd.func26, Tryd.ntmps26
    go_wp2_with fail
    refine C1.out.mono ?_
    rintro e w1 ⟨rfl, f1⟩
    go_wp2
    go_ret
    exact ⟨ret_boolE HE.out.symm, F0.out.trans f1⟩

/-! ### Small -/
theorem lenP_is (h : Ph) (ks : List Pd) : lenP (.mk h ks) = (lenH h ks.length && ks.all lenP) := by rw [lenP, lenL_all]
theorem depL_is {ks : List Pd} {m : Nat} (h : ∀ x ∈ ks, depP x ≤ m) : depL ks ≤ m := by
  induction ks with
  | nil => rw [depL]; omega
  | cons x r ih => rw [depL]; have := h x (List.mem_cons_self ..); have := ih (fun y hy => h y (List.mem_cons_of_mem _ hy)); omega
/-- yes only if P -/
def SmEnd (P : Prop) (e : Ending) : Prop := ∃ b, e = .returned (.bool b) ∧ (b = true → P)
set_option maxHeartbeats 4000000 in
theorem rpsmall_any (p : Pd) : ∀ (t : Kv) (m : Nat) (mz : Int) (w : World), mz = m → m ≤ 1000 → Kd w t p.kids →
    Calls Tryd.prog 12 #[pdV p.hd t, .int .i64 mz] w fun e w' => SmEnd (lenP p = true ∧ depP p ≤ m) e ∧ Fr Non w w' := by
  induction p using Pd.ind with
  | h hd ks ih =>
    intro t m mz w hmz hm1 hk
    subst hmz
    have hn : t.n = ks.length := hk.len
    have F0 : Fr Non w (w.alloc (.cells (pdC hd t) 27)) := (Fr.refl Non w).alloc _
    have HB := Lib.hid (pd_new w _ hd t rfl)
    have HE : Hid (lenH hd ks.length = true → 1 ≤ m → (∀ j (h : j < ks.length), lenP ks[j] = true ∧ depP ks[j] ≤ m - 1) → lenP (.mk hd ks) = true ∧ depP (.mk hd ks) ≤ m) := Lib.hid (fun a b c => by
      refine ⟨?_, ?_⟩
      · rw [lenP_is, a, Bool.true_and, List.all_eq_true]
        intro x hx
        obtain ⟨j, hj, rfl⟩ := List.mem_iff_getElem.1 hx
        exact (c j hj).1
      · have : depL ks ≤ m - 1 := depL_is (fun x hx => by obtain ⟨j, hj, rfl⟩ := List.mem_iff_getElem.1 hx; exact (c j hj).2)
        rw [depP]; omega)
    have IH : Hid (1 ≤ m → ∀ k (h : k < ks.length) (W : World) (t' : Kv), Kd W t' ks[k].kids →
        Calls Tryd.prog 12 #[pdV ks[k].hd t', .int .i64 ((m : Int) - 1)] W fun e w' => SmEnd (lenP ks[k] = true ∧ depP ks[k] ≤ m - 1) e ∧ Fr Non W w') :=
      Lib.hid (fun h1 k h W t' a => ih _ (List.getElem_mem h) t' (m - 1) _ W (by omega) (by omega) a)
    have HK : Hid (Kd w t ks) := Lib.hid hk
    have HF := Lib.hid F0
    have HLH : Hid (∀ a b c d, a = hd.col.length → b = hd.pat.length → c = hd.val.txt.length → d = ks.length → d ≤ 20 → a ≤ 100 → b ≤ 100 → c ≤ 100 → lenH hd ks.length = true) := Lib.hid (fun a b c d e1 e2 e3 e4 h1 h2 h3 h4 => by unfold lenH; exact decide_eq_true ⟨by omega, by omega, by omega, by omega⟩)
    generalize lenH hd ks.length = lh at *
    generalize lenP (.mk hd ks) = r at *
    generalize depP (.mk hd ks) = dd at *
    clear ih hk F0
    obtain ⟨ho, hc, hm, ⟨vn, vi, vt⟩, hkd, hp⟩ := hd
    obtain ⟨A, n, c⟩ := t
    dsimp only at hn
    have HL := Lib.hid hn
    have s1 := slen hc
    have s2 := slen hp
    have s3 := slen vt
    dsimp only at HLH
    unfold pdV pdC kidV
    dsimp only [Pd.hd, Pd.kids]
    clear hn
    by_cases h1 : m < 1
    · clear HE IH HLH
      go_enter Tryd.func12, Tryd.ntmps12
      go_wp2
      go_ret
      exact ⟨⟨_, rfl, fun h => by cases h⟩, HF.out⟩
    · have IH := Lib.hid (IH.out (by omega))
      by_cases h2 : 20 < n
      · clear HE IH HLH
        go_enter Tryd.func12, Tryd.ntmps12
        go_wp2
        go_ret
        exact ⟨⟨_, rfl, fun h => by cases h⟩, HF.out⟩
      · by_cases h3 : 100 < hc.length
        · clear HE IH HLH
          go_enter Tryd.func12, Tryd.ntmps12
          go_wp2
          go_ret
          exact ⟨⟨_, rfl, fun h => by cases h⟩, HF.out⟩
        · by_cases h4 : 100 < hp.length
          · clear HE IH HLH
            go_enter Tryd.func12, Tryd.ntmps12
            go_wp2
            go_ret
            exact ⟨⟨_, rfl, fun h => by cases h⟩, HF.out⟩
          · by_cases h5 : 100 < vt.length
            · clear HE IH HLH
              go_enter Tryd.func12, Tryd.ntmps12
              go_wp2
              go_ret
              exact ⟨⟨_, rfl, fun h => by cases h⟩, HF.out⟩
            · have HE1 := Lib.hid (HE.out (HLH.out _ _ _ n rfl rfl rfl HL.out (by omega) (by omega) (by omega) (by omega)) (by omega))
              clear HE HLH
              go_enter Tryd.func12, Tryd.ntmps12
              go_wp2
              go_loopw [5] (fun i wr => ∃ k : Nat, k ≤ n ∧ i = .int .i64 k ∧ Hid (∀ j (h : j < ks.length), j < k → lenP ks[j] = true ∧ depP ks[j] ≤ m - 1) ∧ Hid (Fr Non (w.alloc (.cells (pdC ⟨ho, hc, hm, ⟨vn, vi, vt⟩, hkd, hp⟩ ⟨A, n, c⟩) 27)) wr)) (fun i _ => n - (intOf i).toNat)
              case atStart => exact ⟨0, Nat.zero_le _, rfl, Lib.hid (fun _ _ h => by omega), Lib.hid (Fr.refl _ _)⟩
              case round =>
                obtain ⟨k, hk, rfl, HT, FR⟩ := hrel
                have b8 := (HB.out.fr FR.out (fun e => e)).cell 8
                simp [pdC, kidV] at b8
                have HFw := Lib.hid (HF.out.trans FR.out)
                by_cases hlt : k < n
                · have hlt2 : k < ks.length := by have := HL.out; omega
                  obtain ⟨a, t, hA, hc2, hkk, _⟩ := HK.out.elN HFw.out k hlt2
                  have HC := Lib.hid (IH.out k hlt2 wr t (hkk.non HFw.out))
                  have HY : Hid (lenP ks[k] = true ∧ depP ks[k] ≤ m - 1 → ∀ j (h : j < ks.length), j < k + 1 → lenP ks[j] = true ∧ depP ks[j] ≤ m - 1) := Lib.hid (fun e j hj hjk => by
                    by_cases ee : j = k
                    · subst ee; exact e
                    · exact HT.out j hj (by omega))
                  dsimp only at hA
                  subst hA
                  obtain ⟨c0, c1, c2, c3, c4, c5, c6, c7, c8⟩ := hc2
                  clear hkk HT
                  generalize lenP ks[k] = y1 at *
                  generalize depP ks[k] = y2 at *
                  generalize ks[k].hd = x at *
                  obtain ⟨xo, xc, xm, ⟨xn, xi, xt⟩, xk, xp⟩ := x
                  obtain ⟨tA, tn, tc⟩ := t
                  unfold pdV pdC kidV at HC
                  dsimp only at HC c0 c1 c2 c3 c4 c5 c6 c7 c8
                  go_wp2_with fail
                  refine HC.out.mono ?_
                  rintro e w2 ⟨⟨b, rfl, hb⟩, f2⟩
                  have HB2 := Lib.hid hb
                  clear hb
                  cases b
                  · go_wp2
                    go_ret
                    exact ⟨⟨_, rfl, fun h => by cases h⟩, HFw.out.trans f2⟩
                  · have HT := Lib.hid (HY.out (HB2.out rfl))
                    clear HB2 HY
                    go_wp2
                    go_roundw
                    case rel => exact ⟨k + 1, by omega, by go_num, HT, Lib.hid (FR.out.trans f2)⟩
                    case measure => simp [intOf]; omega
                · have HE2 := Lib.hid (HE1.out (fun j hj => HT.out j hj (by have := HL.out; omega)))
                  clear HE1 HT
                  go_wp2
                  go_ret
                  exact ⟨⟨_, rfl, fun _ => HE2.out⟩, HFw.out⟩
end Go.Proofs.YtibopcceffncpaaDoor


namespace Go.Proofs.YtibopcceffncpaaDoor
set_option linter.unusedVariables false
set_option linter.unusedSimpArgs false
set_option maxRecDepth 100000
open Go.RowKit

theorem rag_any (a : Ag) (w : World) (hl : a.col.length ≤ 1000000000) :
    Calls Tryd.prog 27 #[agV a] w fun e w' => e = .returned (.bool (agB a)) ∧ Fr Non w w' := by
  have N := fun W => rname_any a.col W hl
  have HF : Hid (Fr Non w (w.alloc (.cells #[.int .i64 a.op, .string ⟨a.col.toArray⟩] 36))) := Lib.hid ((Fr.refl Non w).alloc _)
  have HE0 : Hid (agB a = if a.op = 1 then decide (a.col = []) else decide (2 ≤ a.op ∧ a.op ≤ 5) && nameB a.col) := Lib.hid rfl
  obtain ⟨o, c⟩ := a
  unfold agV
  dsimp only at *
  generalize agB _ = r at *
  by_cases h1 : o = 1
  · subst h1
    clear N
    by_cases h0 : c = []
    · subst h0
      have HE : Hid (r = true) := Lib.hid (by rw [HE0.out]; rfl)
      clear HE0
      go_enter Tryd.func27, Tryd.ntmps27
      go_wp2
      go_ret
      exact ⟨ret_boolE HE.out.symm, HF.out⟩
    · have hb : (c == []) = false := by rw [beq_eq_false_iff_ne]; exact h0
      have HE : Hid (r = false) := Lib.hid (by rw [HE0.out, if_pos rfl]; exact decide_eq_false h0)
      clear HE0 h0
      go_enter Tryd.func27, Tryd.ntmps27
      go_wp2
      go_ret
      exact ⟨ret_boolE HE.out.symm, HF.out⟩
  · have hb1 : (o == 1) = false := by rw [beq_eq_false_iff_ne]; exact h1
    by_cases h2 : o < 2
    · have HE : Hid (r = false) := Lib.hid (by rw [HE0.out, if_neg h1, decide_eq_false (by omega)]; rfl)
      clear HE0 N
      go_enter Tryd.func27, Tryd.ntmps27
      go_wp2
      go_ret
      exact ⟨ret_boolE HE.out.symm, HF.out⟩
    · by_cases h5 : 5 < o
      · have HE : Hid (r = false) := Lib.hid (by rw [HE0.out, if_neg h1, decide_eq_false (by omega)]; rfl)
        clear HE0 N
        go_enter Tryd.func27, Tryd.ntmps27
        go_wp2
        go_ret
        exact ⟨ret_boolE HE.out.symm, HF.out⟩
      · have HE : Hid (r = nameB c) := Lib.hid (by rw [HE0.out, if_neg h1, decide_eq_true (by omega)]; rfl)
        generalize nameB c = b at *
        clear HE0
        replace N := Lib.hid N
        go_enter Tryd.func27, Tryd.ntmps27
        go_wp2_with fail
        refine (N.out _).mono ?_
        rintro e w1 ⟨rfl, f1⟩
        go_wp2
        go_ret
        exact ⟨ret_boolE HE.out.symm, HF.out.trans f1⟩

theorem all_moreG {α : Type} {p : α → Bool} {l : List α} {k : Nat} (h : k < l.length) (h1 : (l.take k).all p = true) (h2 : p l[k] = true) : (l.take (k + 1)).all p = true := by
  rw [List.take_succ_eq_append_getElem h, List.all_append, h1]; simp [h2]
theorem all_badG {α : Type} {p : α → Bool} {l : List α} {k : Nat} (h : k < l.length) (h2 : p l[k] = false) : l.all p = false := by
  rw [List.all_eq_false]; exact ⟨_, List.getElem_mem h, by rw [h2]; simp⟩
theorem all_endG {α : Type} {p : α → Bool} {l : List α} {k : Nat} (h : l.length ≤ k) (h1 : (l.take k).all p = true) : l.all p = true := by rwa [List.take_of_length_le h] at h1
theorem not_in {l : List Tx} {k : Nat} (h : k < l.length) (hn : ∀ j (hj : j < l.length), j < k → l[j] ≠ l[k]) : ¬ l[k] ∈ l.take k := by
  intro hm
  obtain ⟨j, hj, e⟩ := List.mem_iff_getElem.1 hm
  rw [List.length_take] at hj
  rw [List.getElem_take] at e
  exact hn j (by omega) (by omega) e
theorem is_in {l : List Tx} {k j : Nat} (h : k < l.length) (hj : j < k) (e : l[j] = l[k]) : l[k] ∈ l.take k := by
  rw [← e]
  exact List.mem_iff_getElem.2 ⟨j, by rw [List.length_take]; omega, by rw [List.getElem_take]⟩
set_option maxHeartbeats 2000000 in
theorem rqmay_any (q : Qy) (c : Value) (s : Kv) (g : Value) (w : World) (hq : QyS w q c s g) (hs : SmQ q) :
    Calls Tryd.prog 11 #[qyV q c s g] w fun e w' => e = .returned (.bool (mayQ q)) ∧ Fr Non w w' := by
  have Q0 := Lib.hid (Qin.new hq)
  have N := Lib.hid (fun W => rname_any q.tab W (by have := hs.tab; omega))
  have NB := Lib.hid (fun W => rname_any q.by_ W (by have := hs.by_; omega))
  have NC := Lib.hid (fun k (h : k < q.cols.length) W => rname_any q.cols[k] W (by have := hs.names _ (List.getElem_mem h); omega))
  have GA := Lib.hid (fun k (h : k < q.aggs.length) W => rag_any q.aggs[k] W (by have := hs.acol _ (List.getElem_mem h); omega))
  have P := Lib.hid (fun W (h : QyS W q c s g) => rpmay_any q.whr.hd s q.whr.kids W h.kids (by rw [← Pd.eta]; exact hs.lens))
  rw [← Pd.eta] at P
  have HE0 : Hid (mayQ q = (nameB q.tab && (mayP q.whr && (decide (q.cols.length ≤ 6 ∧ q.aggs.length ≤ 4) && (unlB q.cols && (if q.aggs.length = 0 then decide (q.by_ = []) else q.aggs.all agB && (decide (q.cols.length = 0) && (decide (q.by_ = []) || nameB q.by_)))))))) := Lib.hid (may_doc q)
  generalize mayQ q = r at *
  generalize nameB q.tab = b1 at *
  generalize mayP q.whr = b2 at *
  generalize nameB q.by_ = bn at *
  have hlc := hs.cols
  have hlg := hs.aggs
  unfold pdV pdC at P
  obtain ⟨cA, cc, hce⟩ := hq.cols.shape
  obtain ⟨gA, gc, hge⟩ := hq.aggs.shape
  clear hq hs
  obtain ⟨tab, cols, ⟨⟨wo, wc, wm, ⟨wn, wi, wt⟩, wk, wp⟩, wks⟩, aggs, by_⟩ := q
  obtain ⟨sA, sn, sc⟩ := s
  dsimp only at hce hge
  subst hce
  subst hge
  unfold qyV qyC kidV at *
  dsimp only [Pd.hd, Pd.kids] at *
  go_enter Tryd.func11, Tryd.ntmps11
  go_wp2_with fail
  refine (N.out _).mono ?_
  rintro e w1 ⟨rfl, f1⟩
  have Q1 := Lib.hid (Q0.out.non f1)
  clear f1
  cases b1
  · have HE : Hid (r = false) := Lib.hid (by rw [HE0.out]; rfl)
    clear HE0
    go_wp2
    go_ret
    exact ⟨ret_boolE HE.out.symm, Q1.out.fr⟩
  · obtain ⟨g0, g1, g2, g3, g4, g5, g6, g7, g8, g9, g10, g11, g12⟩ := Q1.out.cells
    dsimp only [Pd.hd, Pd.kids] at g0 g1 g2 g3 g4 g5 g6 g7 g8 g9 g10 g11 g12
    go_wp2_with fail
    refine (P.out _ Q1.out.sls).mono ?_
    rintro e w2 ⟨rfl, f2⟩
    have Q2 := Lib.hid (Q1.out.non f2)
    clear f2
    clear g0 g1 g2 g3 g4 g5 g6 g7 g8 g9 g10 g11 g12
    obtain ⟨g0, g1, g2, g3, g4, g5, g6, g7, g8, g9, g10, g11, g12⟩ := Q2.out.cells
    dsimp only [Pd.hd, Pd.kids] at g0 g1 g2 g3 g4 g5 g6 g7 g8 g9 g10 g11 g12
    cases b2
    · have HE : Hid (r = false) := Lib.hid (by rw [HE0.out]; rfl)
      clear HE0
      go_wp2
      go_ret
      exact ⟨ret_boolE HE.out.symm, Q2.out.fr⟩
    · by_cases h6 : 6 < cols.length
      · have HE : Hid (r = false) := Lib.hid (by rw [HE0.out, decide_eq_false (by omega)]; rfl)
        clear HE0
        go_wp2
        go_ret
        exact ⟨ret_boolE HE.out.symm, Q2.out.fr⟩
      · by_cases h4 : 4 < aggs.length
        · have HE : Hid (r = false) := Lib.hid (by rw [HE0.out, decide_eq_false (by omega)]; rfl)
          clear HE0
          go_wp2
          go_ret
          exact ⟨ret_boolE HE.out.symm, Q2.out.fr⟩
        · have HU : Hid (unlB cols = false → r = false) := Lib.hid (fun e => by rw [HE0.out, e]; simp)
          have HE1 : Hid (unlB cols = true → r = (if aggs.length = 0 then decide (by_ = []) else aggs.all agB && (decide (cols.length = 0) && (decide (by_ = []) || bn)))) := Lib.hid (fun e => by rw [HE0.out, e, decide_eq_true (by omega)]; rfl)
          clear HE0 N P
          go_wp2
          clear g0 g1 g2 g3 g4 g5 g6 g7 g8 g9 g10 g11 g12
          go_loopw [3] (fun i wr => ∃ k : Nat, k ≤ cols.length ∧ i = .int .i64 k ∧ Hid (unlK cols k) ∧ Hid (Qin w w.heap.size ⟨tab, cols, ⟨⟨wo, wc, wm, ⟨wn, wi, wt⟩, wk, wp⟩, wks⟩, aggs, by_⟩ (.slice cA cols.length cc) ⟨sA, sn, sc⟩ (.slice gA aggs.length gc) wr)) (fun i _ => cols.length - (intOf i).toNat)
          case atStart => exact ⟨0, Nat.zero_le _, rfl, Lib.hid (unlK_zero _), Q2⟩
          case round =>
            clear Q0 Q1 Q2
            obtain ⟨k, hk, rfl, HT, QR⟩ := hrel
            obtain ⟨g0, g1, g2, g3, g4, g5, g6, g7, g8, g9, g10, g11, g12⟩ := QR.out.cells
            dsimp only [Pd.hd, Pd.kids] at g0 g1 g2 g3 g4 g5 g6 g7 g8 g9 g10 g11 g12
            by_cases hlt : k < cols.length
            · obtain ⟨a, rfl, _, hcc, hel⟩ := QR.out.sls.cols.addr (show 0 < cols.length by omega)
              have c0 := hel k hlt
              unfold sv at c0
              have HX := Lib.hid (fun e => HU.out (unl_bad hlt e))
              have HX2 : Hid (∀ j (hj : j < cols.length), j < k → cols[j] = cols[k] → r = false) := Lib.hid (fun j _ hj e => HU.out (unl_dup hlt (is_in hlt hj e)))
              have HY := Lib.hid (fun e e2 => unlK_more hlt HT.out e (not_in hlt e2))
              have NK := Lib.hid (NC.out k hlt)
              clear HT hel
              generalize hy : cols[k] = y at *
              have HYE := Lib.hid hy
              clear hy
              cases hn : nameB y
              · have HE := Lib.hid (HX.out hn)
                rw [hn] at NK
                clear HX HX2 HY hn
                go_wp2_with fail
                refine (NK.out _).mono ?_
                rintro e w3 ⟨rfl, f3⟩
                go_wp2
                go_ret
                exact ⟨ret_boolE HE.out.symm, QR.out.fr.trans f3⟩
              · have HY1 := Lib.hid (HY.out hn)
                rw [hn] at NK
                clear HX HY hn
                go_wp2_with fail
                refine (NK.out _).mono ?_
                rintro e w3 ⟨rfl, f3⟩
                have Q3 := Lib.hid (QR.out.non f3)
                clear f3 QR g0 g1 g2 g3 g4 g5 g6 g7 g8 g9 g10 g11 g12 c0
                obtain ⟨g0, g1, g2, g3, g4, g5, g6, g7, g8, g9, g10, g11, g12⟩ := Q3.out.cells
                dsimp only [Pd.hd, Pd.kids] at g0 g1 g2 g3 g4 g5 g6 g7 g8 g9 g10 g11 g12
                clear g0 g2 g3 g4 g5 g6 g7 g8 g9 g10 g11 g12
                obtain ⟨a2, ha2, _, _, hel2⟩ := Q3.out.sls.cols.addr (show 0 < cols.length by omega)
                obtain rfl := Option.some.inj ha2
                have HEL := Lib.hid hel2
                have c1 := hel2 k hlt
                unfold sv at c1
                try dsimp only at c1
                rw [HYE.out] at c1
                clear hel2 ha2
                go_wp2
                go_loopw [4] (fun i wx => ∃ m : Nat, m ≤ k ∧ i = .int .i64 m ∧ Hid (∀ j (hj : j < cols.length), j < m → cols[j] ≠ y) ∧ ∃ n, wx = w3.drewN n) (fun i _ => k - (intOf i).toNat)
                case atStart => exact ⟨0, Nat.zero_le _, rfl, Lib.hid (fun _ _ h => by omega), 0, rfl⟩
                case round =>
                  obtain ⟨m, hm, rfl, hne, n, rfl⟩ := hrel
                  by_cases hmk : m < k
                  · have hml : m < cols.length := by omega
                    have c2 := HEL.out m hml
                    unfold sv at c2
                    try dsimp only at c2
                    have HZ := Lib.hid (HX2.out m hml hmk)
                    have HW : Hid (cols[m] ≠ y → ∀ j (hj : j < cols.length), j < m + 1 → cols[j] ≠ y) := Lib.hid (fun e j hj hjm => by
                      by_cases ee : j = m
                      · subst ee; exact e
                      · exact hne.out j hj (by omega))
                    clear hne
                    generalize cols[m] = z at *
                    by_cases he : z = y
                    · have HE := Lib.hid (HZ.out he)
                      have hbe : (z == y) = true := by rw [beq_iff_eq]; exact he
                      clear HZ HW he
                      go_wp2
                      go_quiet (fail)
                      go_wp2
                      go_ret
                      exact ⟨ret_boolE HE.out.symm, (Q3.out.fr.drewN n).drewN _⟩
                    · have HE := Lib.hid (HW.out he)
                      have hbe : (z == y) = false := by rw [beq_eq_false_iff_ne]; exact he
                      clear HZ HW he
                      go_wp2
                      go_quiet (fail)
                      go_wp2
                      go_roundw
                      case rel => exact ⟨m + 1, by omega, by go_num, HE, _, rfl⟩
                      case measure => simp [intOf]; omega
                  · have HE := Lib.hid (HY1.out (fun j hj hjk => hne.out j hj (by omega)))
                    clear HX2 HY1 hne
                    go_wp2
                    go_roundw
                    case rel => exact ⟨k + 1, by omega, by go_num, HE, Lib.hid (Q3.out.non ((Fr.refl Non w3).drewN n))⟩
                    case measure => simp [intOf]; omega
            · have HE2 := Lib.hid (HE1.out (unlK_all (by omega) HT.out))
              clear HT HU HE1 NC
              by_cases ha : aggs.length = 0
              · have hab : ((aggs.length : Int) == 0) = true := by rw [beq_iff_eq]; omega
                by_cases hb : by_ = []
                · have HE : Hid (r = true) := Lib.hid (by rw [HE2.out, if_pos ha]; exact decide_eq_true hb)
                  clear HE2 ha
                  subst hb
                  go_wp2
                  go_ret
                  exact ⟨ret_boolE HE.out.symm, QR.out.fr⟩
                · have hbb : (by_ == []) = false := by rw [beq_eq_false_iff_ne]; exact hb
                  have HE : Hid (r = false) := Lib.hid (by rw [HE2.out, if_pos ha]; exact decide_eq_false hb)
                  clear HE2 ha hb
                  go_wp2
                  go_ret
                  exact ⟨ret_boolE HE.out.symm, QR.out.fr⟩
              · have hab : ((aggs.length : Int) == 0) = false := by rw [beq_eq_false_iff_ne]; omega
                have HAB : Hid (aggs.all agB = false → r = false) := Lib.hid (fun e => by rw [HE2.out, if_neg ha, e]; rfl)
                have HAY : Hid (aggs.all agB = true → r = (decide (cols.length = 0) && (decide (by_ = []) || bn))) := Lib.hid (fun e => by rw [HE2.out, if_neg ha, e]; rfl)
                clear HE2 ha
                go_wp2
                clear g0 g1 g2 g3 g4 g5 g6 g7 g8 g9 g10 g11 g12
                rename World => W5
                go_loopw [5] (fun i wr => ∃ k : Nat, k ≤ aggs.length ∧ i = .int .i64 k ∧ Hid ((aggs.take k).all agB = true) ∧ Hid (Qin w w.heap.size ⟨tab, cols, ⟨⟨wo, wc, wm, ⟨wn, wi, wt⟩, wk, wp⟩, wks⟩, aggs, by_⟩ (.slice cA cols.length cc) ⟨sA, sn, sc⟩ (.slice gA aggs.length gc) wr)) (fun i _ => aggs.length - (intOf i).toNat)
                case atStart => exact ⟨0, Nat.zero_le _, rfl, Lib.hid rfl, QR⟩
                case round =>
                  clear QR hlt hk hab
                  obtain ⟨k, hk, rfl, HT, QR⟩ := hrel
                  obtain ⟨g0, g1, g2, g3, g4, g5, g6, g7, g8, g9, g10, g11, g12⟩ := QR.out.cells
                  dsimp only [Pd.hd, Pd.kids] at g0 g1 g2 g3 g4 g5 g6 g7 g8 g9 g10 g11 g12
                  by_cases hlt : k < aggs.length
                  · obtain ⟨a, rfl, _, d0, d1⟩ := Ns.gat QR.out.sls.aggs k hlt
                    have HX := Lib.hid (fun e => HAB.out (all_badG hlt e))
                    have HY := Lib.hid (fun e => all_moreG hlt HT.out e)
                    have M := GA.out k hlt
                    dsimp only at d0 d1 M
                    clear HT
                    generalize aggs[k] = x at *
                    obtain ⟨xo, xn⟩ := x
                    unfold agV at M
                    dsimp only at d0 d1 HX HY M
                    generalize agB ⟨xo, xn⟩ = bx at *
                    replace M := Lib.hid M
                    cases bx
                    · have HE := Lib.hid (HX.out rfl)
                      clear HX HY
                      go_wp2_with fail
                      refine (M.out _).mono ?_
                      rintro e w3 ⟨rfl, f3⟩
                      go_wp2
                      go_ret
                      exact ⟨ret_boolE HE.out.symm, QR.out.fr.trans f3⟩
                    · have HE := Lib.hid (HY.out rfl)
                      clear HX HY
                      go_wp2_with fail
                      refine (M.out _).mono ?_
                      rintro e w3 ⟨rfl, f3⟩
                      go_wp2
                      go_roundw
                      case rel => exact ⟨k + 1, by omega, by go_num, HE, Lib.hid (QR.out.non f3)⟩
                      case measure => simp [intOf]; omega
                  · have HE2 := Lib.hid (HAY.out (all_endG (by omega) HT.out))
                    clear HT HAB HAY GA
                    by_cases hc : cols.length = 0
                    · have hcb : ((cols.length : Int) == 0) = true := by rw [beq_iff_eq]; omega
                      by_cases hb : by_ = []
                      · have HE : Hid (r = true) := Lib.hid (by rw [HE2.out, decide_eq_true hc, decide_eq_true hb]; rfl)
                        clear HE2 hc NB
                        subst hb
                        go_wp2
                        go_ret
                        exact ⟨ret_boolE HE.out.symm, QR.out.fr⟩
                      · have hbb : (by_ == []) = false := by rw [beq_eq_false_iff_ne]; exact hb
                        have HE : Hid (r = bn) := Lib.hid (by rw [HE2.out, decide_eq_true hc, decide_eq_false hb]; rfl)
                        clear HE2 hc hb
                        go_wp2_with fail
                        refine (NB.out _).mono ?_
                        rintro e w3 ⟨rfl, f3⟩
                        go_wp2
                        go_ret
                        exact ⟨ret_boolE HE.out.symm, QR.out.fr.trans f3⟩
                    · have hcb : ((cols.length : Int) == 0) = false := by rw [beq_eq_false_iff_ne]; omega
                      have HE : Hid (r = false) := Lib.hid (by rw [HE2.out, decide_eq_false hc]; rfl)
                      clear HE2 hc NB
                      go_wp2
                      go_ret
                      exact ⟨ret_boolE HE.out.symm, QR.out.fr⟩
end Go.Proofs.YtibopcceffncpaaDoor


namespace Go.Proofs.YtibopcceffncpaaDoor
set_option linter.unusedVariables false
set_option linter.unusedSimpArgs false
set_option maxRecDepth 100000
open Go.RowKit

theorem sameP_is (h h' : Ph) (ks ks' : List Pd) : sameP (.mk h ks) (.mk h' ks') = (peq h h' && sameL ks ks') := by rw [sameP]; rfl
theorem sameL_len {l m : List Pd} (h : ¬ l.length = m.length) : sameL l m = false := by
  rw [Bool.eq_false_iff]
  intro e
  exact h (by rw [(sameL_iff l m).1 e])
theorem sameL_at {l m : List Pd} {k : Nat} (h1 : k < l.length) (h2 : k < m.length) : sameL (l.drop k) (m.drop k) = (sameP l[k] m[k] && sameL (l.drop (k + 1)) (m.drop (k + 1))) := by
  rw [List.drop_eq_getElem_cons h1, List.drop_eq_getElem_cons h2, sameL]
theorem sameL_end {l m : List Pd} {k : Nat} (h1 : l.length ≤ k) (h2 : m.length ≤ k) : sameL (l.drop k) (m.drop k) = true := by
  rw [List.drop_eq_nil_of_le h1, List.drop_eq_nil_of_le h2, sameL]

set_option maxHeartbeats 4000000 in
theorem eqf_any (ks ms : List Pd) (s t : Kv) (w : World) (hk : Kd w s ks) (hm : Kd w t ms) (hl : ks.length ≤ 20)
    (IH : Hid (∀ k (h : k < ks.length) (j : Nat) (h2 : j < ms.length) (W : World) (s' t' : Kv), Kd W s' ks[k].kids → Kd W t' ms[j].kids → Calls Tryd.prog 21 #[pdV ks[k].hd s', pdV ms[j].hd t'] W fun e w' => e = .returned (.bool (sameP ks[k] ms[j])) ∧ Fr Non W w')) :
    Calls Tryd.prog 40 #[kidV s, kidV t, .func (.func 21) #[] #[]] w fun e w' => e = .returned (.bool (sameL ks ms)) ∧ Fr Non w w' := by
  have hn1 := hk.len
  have hn2 := hm.len
  have HK := Lib.hid hk
  have HM := Lib.hid hm
  have HS0 := Lib.hid (fun e => sameL_len (l := ks) (m := ms) e)
  have HS1 : Hid (sameL ks ms = sameL (ks.drop 0) (ms.drop 0)) := Lib.hid rfl
  generalize sameL ks ms = r at *
  clear hk hm
  obtain ⟨A, n, c⟩ := s
  obtain ⟨A2, n2, c2⟩ := t
  dsimp only at hn1 hn2
  have hn20 : n ≤ 20 := by omega
  have HL1 := Lib.hid hn1
  have HL2 := Lib.hid hn2
  clear hn1 hn2 hl
  unfold kidV
  dsimp only
  by_cases hne : n = n2
  · subst hne
    clear HS0
    go_enter Tryd.func40, Tryd.ntmps40
    go_wp2
    go_loopw [17] (fun i wr => ∃ k : Nat, k ≤ n ∧ i = .int .i64 k ∧ Hid (r = sameL (ks.drop k) (ms.drop k)) ∧ Hid (Fr Non w wr)) (fun i _ => n - (intOf i).toNat)
    case atStart => exact ⟨0, Nat.zero_le _, rfl, HS1, Lib.hid (Fr.refl _ _)⟩
    case round =>
      clear HS1
      obtain ⟨k, hk, rfl, HE, FR⟩ := hrel
      by_cases hlt : k < n
      · have h1 : k < ks.length := by have := HL1.out; omega
        have h2 : k < ms.length := by have := HL2.out; omega
        obtain ⟨a, t, hA, hc, hkk, _⟩ := HK.out.elN FR.out k h1
        dsimp only at hA
        subst hA
        obtain ⟨a2, t2, hA2, hc2, hkk2, _⟩ := HM.out.elN FR.out k h2
        dsimp only at hA2
        subst hA2
        obtain ⟨c0, c1, c2, c3, c4, c5, c6, c7, c8⟩ := hc
        obtain ⟨d0, d1, d2, d3, d4, d5, d6, d7, d8⟩ := hc2
        have HC := Lib.hid (fun W hf => IH.out k h1 k h2 W t t2 (hkk.non (FR.out.trans hf)) (hkk2.non (FR.out.trans hf)))
        have HY := Lib.hid (HE.out.trans (sameL_at h1 h2))
        clear hkk hkk2 HE
        generalize sameP ks[k] ms[k] = b at *
        generalize ks[k].hd = x at *
        generalize ms[k].hd = y at *
        obtain ⟨xo, xc, xm, ⟨xn, xi, xt⟩, xk, xp⟩ := x
        obtain ⟨yo, yc, ym, ⟨yn, yi, yt⟩, yk, yp⟩ := y
        obtain ⟨tA, tn, tc⟩ := t
        obtain ⟨uA, un, uc⟩ := t2
        unfold pdV pdC kidV at HC
        dsimp only at HC c0 c1 c2 c3 c4 c5 c6 c7 c8 d0 d1 d2 d3 d4 d5 d6 d7 d8
        have G2 := Lib.hid (((Fr.refl Non wr).alloc (.cells #[.int .i64 xo, .string ⟨xc.toArray⟩, .int .i64 xm, .bool xn, .int .i64 xi, .string ⟨xt.toArray⟩, .int .i64 xk, .string ⟨xp.toArray⟩, .slice tA tn tc] 27)).alloc (.cells #[.int .i64 yo, .string ⟨yc.toArray⟩, .int .i64 ym, .bool yn, .int .i64 yi, .string ⟨yt.toArray⟩, .int .i64 yk, .string ⟨yp.toArray⟩, .slice uA un uc] 27))
        have HC2 := Lib.hid (HC.out _ G2.out)
        clear HC
        have AP : ∀ o : Obj, ∀ p : Addr, ∀ v, wr.cell? p = some v → (wr.alloc o).cell? p = some v := fun o p v e => (((Fr.refl Non wr).alloc o).cell (World.block_lt_of_cell? _ _ e) (fun e => e)).trans e
        replace AP := Lib.hid AP
        have d0' := AP.out (.cells #[.int .i64 xo, .string ⟨xc.toArray⟩, .int .i64 xm, .bool xn, .int .i64 xi, .string ⟨xt.toArray⟩, .int .i64 xk, .string ⟨xp.toArray⟩, .slice tA tn tc] 27) _ _ d0
        have d1' := AP.out (.cells #[.int .i64 xo, .string ⟨xc.toArray⟩, .int .i64 xm, .bool xn, .int .i64 xi, .string ⟨xt.toArray⟩, .int .i64 xk, .string ⟨xp.toArray⟩, .slice tA tn tc] 27) _ _ d1
        have d2' := AP.out (.cells #[.int .i64 xo, .string ⟨xc.toArray⟩, .int .i64 xm, .bool xn, .int .i64 xi, .string ⟨xt.toArray⟩, .int .i64 xk, .string ⟨xp.toArray⟩, .slice tA tn tc] 27) _ _ d2
        have d3' := AP.out (.cells #[.int .i64 xo, .string ⟨xc.toArray⟩, .int .i64 xm, .bool xn, .int .i64 xi, .string ⟨xt.toArray⟩, .int .i64 xk, .string ⟨xp.toArray⟩, .slice tA tn tc] 27) _ _ d3
        have d4' := AP.out (.cells #[.int .i64 xo, .string ⟨xc.toArray⟩, .int .i64 xm, .bool xn, .int .i64 xi, .string ⟨xt.toArray⟩, .int .i64 xk, .string ⟨xp.toArray⟩, .slice tA tn tc] 27) _ _ d4
        have d5' := AP.out (.cells #[.int .i64 xo, .string ⟨xc.toArray⟩, .int .i64 xm, .bool xn, .int .i64 xi, .string ⟨xt.toArray⟩, .int .i64 xk, .string ⟨xp.toArray⟩, .slice tA tn tc] 27) _ _ d5
        have d6' := AP.out (.cells #[.int .i64 xo, .string ⟨xc.toArray⟩, .int .i64 xm, .bool xn, .int .i64 xi, .string ⟨xt.toArray⟩, .int .i64 xk, .string ⟨xp.toArray⟩, .slice tA tn tc] 27) _ _ d6
        have d7' := AP.out (.cells #[.int .i64 xo, .string ⟨xc.toArray⟩, .int .i64 xm, .bool xn, .int .i64 xi, .string ⟨xt.toArray⟩, .int .i64 xk, .string ⟨xp.toArray⟩, .slice tA tn tc] 27) _ _ d7
        have d8' := AP.out (.cells #[.int .i64 xo, .string ⟨xc.toArray⟩, .int .i64 xm, .bool xn, .int .i64 xi, .string ⟨xt.toArray⟩, .int .i64 xk, .string ⟨xp.toArray⟩, .slice tA tn tc] 27) _ _ d8
        clear d0 d1 d2 d3 d4 d5 d6 d7 d8 AP
        cases b
        · have HE2 : Hid (r = false) := Lib.hid (by rw [HY.out]; rfl)
          clear HY
          go_wp2_with fail
          refine HC2.out.mono ?_
          rintro e w2 ⟨rfl, f2⟩
          go_wp2
          go_ret
          exact ⟨ret_boolE HE2.out.symm, (FR.out.trans G2.out).trans f2⟩
        · have HE2 : Hid (r = sameL (ks.drop (k + 1)) (ms.drop (k + 1))) := Lib.hid (by rw [HY.out]; rfl)
          clear HY
          go_wp2_with fail
          refine HC2.out.mono ?_
          rintro e w2 ⟨rfl, f2⟩
          go_wp2
          go_roundw
          case rel => exact ⟨k + 1, by omega, by go_num, HE2, Lib.hid ((FR.out.trans G2.out).trans f2)⟩
          case measure => simp [intOf]; omega
      · have HE2 : Hid (r = true) := Lib.hid (HE.out.trans (sameL_end (by have := HL1.out; omega) (by have := HL2.out; omega)))
        clear HE
        go_wp2
        go_ret
        exact ⟨ret_boolE HE2.out.symm, FR.out⟩
  · have hb : ((n : Int) != n2) = true := by rw [bne_iff_ne]; omega
    have HE2 : Hid (r = false) := Lib.hid (HS0.out (by have := HL1.out; have := HL2.out; omega))
    clear hne HS0 HS1
    go_enter Tryd.func40, Tryd.ntmps40
    go_wp2
    go_ret
    exact ⟨ret_boolE HE2.out.symm, Fr.refl _ _⟩

set_option maxHeartbeats 4000000 in
theorem psame_any (p : Pd) : ∀ (q : Pd) (s t : Kv) (w : World), Kd w s p.kids → Kd w t q.kids → lenP p = true →
    Calls Tryd.prog 21 #[pdV p.hd s, pdV q.hd t] w fun e w' => e = .returned (.bool (sameP p q)) ∧ Fr Non w w' := by
  induction p using Pd.ind with
  | h hd ks ih =>
    rintro ⟨hd2, ms⟩ s t w hk hm hlen
    have hls := lenP_mk hlen
    dsimp only [Pd.hd, Pd.kids] at hk hm ⊢
    have E1 := Lib.hid (fun W hk hm => eqf_any ks ms s t W hk hm hls.1 (Lib.hid (fun k h j h2 W s' t' a b => ih _ (List.getElem_mem h) ms[j] s' t' W a b (hls.2.2.2.2 _ (List.getElem_mem h)))))
    have A1 := Lib.hid (fun W => alike_any hd hd2 s t W)
    have PB := pd2_new w _ hd hd2 s t rfl
    have F0 : Fr Non w ((w.alloc (.cells (pdC hd s) 27)).alloc (.cells (pdC hd2 t) 27)) := ((Fr.refl Non w).alloc _).alloc _
    have HE0 := Lib.hid (sameP_is hd hd2 ks ms)
    generalize sameP _ _ = r at *
    generalize sameL ks ms = b at *
    generalize peq hd hd2 = q at *
    have HK := Lib.hid (hk.non F0)
    have HM := Lib.hid (hm.non F0)
    have PB := Lib.hid PB
    have F0 := Lib.hid F0
    clear ih hk hm hlen hls
    obtain ⟨ho, hc, hmm, ⟨vn, vi, vt⟩, hkd, hp⟩ := hd
    obtain ⟨go, gc, gm, ⟨un, ui, ut⟩, gkd, gp⟩ := hd2
    obtain ⟨A, n, c⟩ := s
    obtain ⟨A2, n2, c2⟩ := t
    unfold pdV pdC kidV at *
    dsimp only at *
    cases q
    · have HE : Hid (r = false) := Lib.hid (by rw [HE0.out]; rfl)
      clear HE0 E1
      go_enter Tryd.func21, Tryd.ntmps21
      go_wp2_with fail
      refine (A1.out _).mono ?_
      rintro e w1 ⟨rfl, f1⟩
      go_wp2
      go_ret
      exact ⟨ret_boolE HE.out.symm, F0.out.trans f1⟩
    · have HE : Hid (r = b) := Lib.hid (by rw [HE0.out]; rfl)
      clear HE0
      go_enter Tryd.func21, Tryd.ntmps21
      go_wp2_with fail
      refine (A1.out _).mono ?_
      rintro e w1 ⟨rfl, f1⟩
      have g8 := (PB.out.1.fr f1 (fun e => e)).cell 8
      have h8 := (PB.out.2.fr f1 (fun e => e)).cell 8
      simp [pdC, kidV] at g8 h8
      have HK1 := Lib.hid (HK.out.non f1)
      have HM1 := Lib.hid (HM.out.non f1)
      have F1 := Lib.hid (F0.out.trans f1)
      clear f1 PB HK HM F0
      go_wp2_with fail
      refine (E1.out _ HK1.out HM1.out).mono ?_
      rintro e w2 ⟨rfl, f2⟩
      go_wp2
      go_ret
      exact ⟨ret_boolE HE.out.symm, F1.out.trans f2⟩

set_option maxHeartbeats 8000000 in
theorem rpsame_any (p : Pd) : ∀ (q : Pd) (s t : Kv) (w : World), Kd w s p.kids → Kd w t q.kids → lenP p = true →
    Calls Tryd.prog 24 #[pdV p.hd s, pdV q.hd t] w fun e w' => e = .returned (.bool (sameP p q)) ∧ Fr Non w w' := by
  induction p using Pd.ind with
  | h hd ks ih =>
    rintro ⟨hd2, ms⟩ s t w hk hm hlen
    have hls := lenP_mk hlen
    dsimp only [Pd.hd, Pd.kids] at hk hm ⊢
    have hn1 := hk.len
    have hn2 := hm.len
    have IH : Hid (∀ k (h : k < ks.length) (j : Nat) (h2 : j < ms.length) (W : World) (s' t' : Kv), Kd W s' ks[k].kids → Kd W t' ms[j].kids → Calls Tryd.prog 24 #[pdV ks[k].hd s', pdV ms[j].hd t'] W fun e w' => e = .returned (.bool (sameP ks[k] ms[j])) ∧ Fr Non W w') := Lib.hid (fun k h j h2 W s' t' a b => ih _ (List.getElem_mem h) ms[j] s' t' W a b (hls.2.2.2.2 _ (List.getElem_mem h)))
    have A1 := Lib.hid (fun W => flat_any hd hd2 s t W)
    have PB := pd2_new w _ hd hd2 s t rfl
    have F0 : Fr Non w ((w.alloc (.cells (pdC hd s) 27)).alloc (.cells (pdC hd2 t) 27)) := ((Fr.refl Non w).alloc _).alloc _
    have HE0 := Lib.hid (sameP_is hd hd2 ks ms)
    have HS0 := Lib.hid (fun e => sameL_len (l := ks) (m := ms) e)
    have HS1 : Hid (sameL ks ms = sameL (ks.drop 0) (ms.drop 0)) := Lib.hid rfl
    generalize sameP (.mk hd ks) (.mk hd2 ms) = r at *
    generalize sameL ks ms = b0 at *
    generalize peq hd hd2 = q at *
    have HK := Lib.hid (hk.non F0)
    have HM := Lib.hid (hm.non F0)
    have PB := Lib.hid PB
    have F0 := Lib.hid F0
    have hls2 : ks.length ≤ 20 := hls.1
    clear ih hk hm hlen hls
    obtain ⟨ho, hc, hmm, ⟨vn, vi, vt⟩, hkd, hp⟩ := hd
    obtain ⟨go, gc, gm, ⟨un, ui, ut⟩, gkd, gp⟩ := hd2
    obtain ⟨A, n, c⟩ := s
    obtain ⟨A2, n2, c2⟩ := t
    dsimp only at hn1 hn2
    have hn20 : n ≤ 20 := by omega
    have HL1 := Lib.hid hn1
    have HL2 := Lib.hid hn2
    clear hn1 hn2 hls2
    unfold pdV pdC kidV at A1 ⊢
    dsimp only at A1 ⊢
    cases q
    · have HE : Hid (r = false) := Lib.hid (by rw [HE0.out]; rfl)
      clear HE0 IH HS0 HS1
      go_enter Tryd.func24, Tryd.ntmps24
      go_wp2_with fail
      refine (A1.out _).mono ?_
      rintro e w1 ⟨rfl, f1⟩
      go_wp2
      go_ret
      exact ⟨ret_boolE HE.out.symm, F0.out.trans f1⟩
    · have HE : Hid (r = b0) := Lib.hid (by rw [HE0.out]; rfl)
      clear HE0
      go_enter Tryd.func24, Tryd.ntmps24
      go_wp2_with fail
      refine (A1.out _).mono ?_
      rintro e w1 ⟨rfl, f1⟩
      have PB1 := Lib.hid (PB.out.1.fr f1 (fun e => e))
      have PB2 := Lib.hid (PB.out.2.fr f1 (fun e => e))
      have g8 := PB1.out.cell 8
      have h8 := PB2.out.cell 8
      simp [pdC, kidV] at g8 h8
      have HK1 := Lib.hid (HK.out.non f1)
      have HM1 := Lib.hid (HM.out.non f1)
      have F1 := Lib.hid (F0.out.trans f1)
      clear f1 PB HK HM F0 A1
      by_cases hne : n = n2
      · subst hne
        clear HS0
        go_wp2
        go_loopw [5] (fun i wr => ∃ k : Nat, k ≤ n ∧ i = .int .i64 k ∧ Hid (b0 = sameL (ks.drop k) (ms.drop k)) ∧ Hid (Fr Non w1 wr)) (fun i _ => n - (intOf i).toNat)
        case atStart => exact ⟨0, Nat.zero_le _, rfl, HS1, Lib.hid (Fr.refl _ _)⟩
        case round =>
          clear HS1 g8 h8
          obtain ⟨k, hk, rfl, HT, FR⟩ := hrel
          have g8 := (PB1.out.fr FR.out (fun e => e)).cell 8
          have h8 := (PB2.out.fr FR.out (fun e => e)).cell 8
          simp [pdC, kidV] at g8 h8
          by_cases hlt : k < n
          · have h1 : k < ks.length := by have := HL1.out; omega
            have h2 : k < ms.length := by have := HL2.out; omega
            obtain ⟨a, t, hA, hc, hkk, _⟩ := HK1.out.elN FR.out.drew k h1
            dsimp only at hA
            subst hA
            obtain ⟨a2, t2, hA2, hc2, hkk2, _⟩ := HM1.out.elN FR.out.drew k h2
            dsimp only at hA2
            subst hA2
            have q0 : wr.drew.cell? ⟨w.heap.size, 8, none⟩ = _ := g8
            have q1 : wr.drew.cell? ⟨w.heap.size + 1, 8, none⟩ = _ := h8
            obtain ⟨q2, q3, q4, q5, q6, q7, q8, q9, q10⟩ := hc
            obtain ⟨q11, q12, q13, q14, q15, q16, q17, q18, q19⟩ := hc2
            have HC := Lib.hid (IH.out k h1 k h2 wr.drew t t2 (hkk.non FR.out.drew) (hkk2.non FR.out.drew))
            have HY := Lib.hid (HT.out.trans (sameL_at h1 h2))
            clear hkk hkk2 HT
            generalize sameP ks[k] ms[k] = b at *
            generalize ks[k].hd = x at *
            generalize ms[k].hd = y at *
            obtain ⟨xo, xc, xm, ⟨xn, xi, xt⟩, xk, xp⟩ := x
            obtain ⟨yo, yc, ym, ⟨yn, yi, yt⟩, yk, yp⟩ := y
            obtain ⟨tA, tn, tc⟩ := t
            obtain ⟨uA, un, uc⟩ := t2
            unfold pdV pdC kidV at HC
            dsimp only at HC q2 q3 q4 q5 q6 q7 q8 q9 q10 q11 q12 q13 q14 q15 q16 q17 q18 q19
            cases b
            · have HE2 : Hid (r = false) := Lib.hid (by rw [HE.out, HY.out]; rfl)
              clear HY
              go_wp2
              refine wp_region_held_drew (S := (fun W => W.cell? ⟨w.heap.size, 8, none⟩ = some (.slice (some a) n c) ∧ W.cell? ⟨w.heap.size + 1, 8, none⟩ = some (.slice (some a2) n c2) ∧ W.cell? (a.add (k * 9)) = some (.int .i64 xo) ∧ W.cell? { block := (a.add (k * 9)).block, off := (a.add (k * 9)).off + 1 } = some (.string ⟨xc.toArray⟩) ∧ W.cell? { block := (a.add (k * 9)).block, off := (a.add (k * 9)).off + 2 } = some (.int .i64 xm) ∧ W.cell? { block := (a.add (k * 9)).block, off := (a.add (k * 9)).off + 3 } = some (.bool xn) ∧ W.cell? { block := (a.add (k * 9)).block, off := (a.add (k * 9)).off + 4 } = some (.int .i64 xi) ∧ W.cell? { block := (a.add (k * 9)).block, off := (a.add (k * 9)).off + 5 } = some (.string ⟨xt.toArray⟩) ∧ W.cell? { block := (a.add (k * 9)).block, off := (a.add (k * 9)).off + 6 } = some (.int .i64 xk) ∧ W.cell? { block := (a.add (k * 9)).block, off := (a.add (k * 9)).off + 7 } = some (.string ⟨xp.toArray⟩) ∧ W.cell? { block := (a.add (k * 9)).block, off := (a.add (k * 9)).off + 8 } = some (.slice tA tn tc) ∧ W.cell? (a2.add (k * 9)) = some (.int .i64 yo) ∧ W.cell? { block := (a2.add (k * 9)).block, off := (a2.add (k * 9)).off + 1 } = some (.string ⟨yc.toArray⟩) ∧ W.cell? { block := (a2.add (k * 9)).block, off := (a2.add (k * 9)).off + 2 } = some (.int .i64 ym) ∧ W.cell? { block := (a2.add (k * 9)).block, off := (a2.add (k * 9)).off + 3 } = some (.bool yn) ∧ W.cell? { block := (a2.add (k * 9)).block, off := (a2.add (k * 9)).off + 4 } = some (.int .i64 yi) ∧ W.cell? { block := (a2.add (k * 9)).block, off := (a2.add (k * 9)).off + 5 } = some (.string ⟨yt.toArray⟩) ∧ W.cell? { block := (a2.add (k * 9)).block, off := (a2.add (k * 9)).off + 6 } = some (.int .i64 yk) ∧ W.cell? { block := (a2.add (k * 9)).block, off := (a2.add (k * 9)).off + 7 } = some (.string ⟨yp.toArray⟩) ∧ W.cell? { block := (a2.add (k * 9)).block, off := (a2.add (k * 9)).off + 8 } = some (.slice uA un uc))) (by kernel_rfl) (by exact ⟨q0, q1, q2, q3, q4, q5, q6, q7, q8, q9, q10, q11, q12, q13, q14, q15, q16, q17, q18, q19⟩) (fun hHeld => ?_)
              refine wpAnyH_take (i := 0) (oi := ⟨some 26, _, _, _, _, none⟩) (v := ?v1) rfl (by kernel_rfl) (by kernel_rfl) (by kernel_rfl) (fun _ _ _ h => h) (Or.inl ⟨by rfl, ?hy1⟩) (by assumption) ?rest1
              case hy1 => (intro wS hSw; (try dsimp only at hSw); go_simp; (try with_reducible rfl))
              (try simp only [Act.put, List.setIfInBounds_toArray, List.set_cons_zero, List.set_cons_succ])
              refine wpAnyH_take (i := 1) (oi := ⟨some 27, _, _, _, _, none⟩) (v := ?v2) rfl (by kernel_rfl) (by kernel_rfl) (by kernel_rfl) (fun _ _ _ h => h) (Or.inl ⟨by rfl, ?hy2⟩) (by assumption) ?rest2
              case hy2 => (intro wS hSw; (try dsimp only at hSw); go_simp; (try with_reducible rfl))
              (try simp only [Act.put, List.setIfInBounds_toArray, List.set_cons_zero, List.set_cons_succ])
              refine wpAnyH_take (i := 2) (oi := ⟨some 28, _, _, _, _, none⟩) (v := ?v3) rfl (by kernel_rfl) (by kernel_rfl) (by kernel_rfl) (fun _ _ _ h => h) (Or.inl ⟨by rfl, ?hy3⟩) (by assumption) ?rest3
              case hy3 => (intro wS hSw; (try dsimp only at hSw); go_simp; (try with_reducible rfl))
              (try simp only [Act.put, List.setIfInBounds_toArray, List.set_cons_zero, List.set_cons_succ])
              refine wpAnyH_take (i := 3) (oi := ⟨some 29, _, _, _, _, none⟩) (v := ?v4) rfl (by kernel_rfl) (by kernel_rfl) (by kernel_rfl) (fun _ _ _ h => h) (Or.inl ⟨by rfl, ?hy4⟩) (by assumption) ?rest4
              case hy4 => (intro wS hSw; (try dsimp only at hSw); go_simp; (try with_reducible rfl))
              (try simp only [Act.put, List.setIfInBounds_toArray, List.set_cons_zero, List.set_cons_succ])
              refine wpAnyH_take (i := 4) (oi := ⟨some 30, _, _, _, _, none⟩) (v := ?v5) rfl (by kernel_rfl) (by kernel_rfl) (by kernel_rfl) (fun _ _ _ h => h) (Or.inl ⟨by rfl, ?hy5⟩) (by assumption) ?rest5
              case hy5 => (intro wS hSw; (try dsimp only at hSw); go_simp; (try with_reducible rfl))
              (try simp only [Act.put, List.setIfInBounds_toArray, List.set_cons_zero, List.set_cons_succ])
              refine wpAnyH_take (i := 5) (oi := ⟨some 31, _, _, _, _, none⟩) (v := ?v6) rfl (by kernel_rfl) (by kernel_rfl) (by kernel_rfl) (fun _ _ _ h => h) (Or.inl ⟨by rfl, ?hy6⟩) (by assumption) ?rest6
              case hy6 => (intro wS hSw; (try dsimp only at hSw); go_simp; (try with_reducible rfl))
              (try simp only [Act.put, List.setIfInBounds_toArray, List.set_cons_zero, List.set_cons_succ])
              refine wpAnyH_take (i := 6) (oi := ⟨some 32, _, _, _, _, none⟩) (v := ?v7) rfl (by kernel_rfl) (by kernel_rfl) (by kernel_rfl) (fun _ _ _ h => h) (Or.inl ⟨by rfl, ?hy7⟩) (by assumption) ?rest7
              case hy7 => (intro wS hSw; (try dsimp only at hSw); go_simp; (try with_reducible rfl))
              (try simp only [Act.put, List.setIfInBounds_toArray, List.set_cons_zero, List.set_cons_succ])
              refine wpAnyH_take (i := 7) (oi := ⟨some 33, _, _, _, _, none⟩) (v := ?v8) rfl (by kernel_rfl) (by kernel_rfl) (by kernel_rfl) (fun _ _ _ h => h) (Or.inl ⟨by rfl, ?hy8⟩) (by assumption) ?rest8
              case hy8 => (intro wS hSw; (try dsimp only at hSw); go_simp; (try with_reducible rfl))
              (try simp only [Act.put, List.setIfInBounds_toArray, List.set_cons_zero, List.set_cons_succ])
              refine wpAnyH_take (i := 8) (oi := ⟨some 34, _, _, _, _, none⟩) (v := ?v9) rfl (by kernel_rfl) (by kernel_rfl) (by kernel_rfl) (fun _ _ _ h => h) (Or.inl ⟨by rfl, ?hy9⟩) (by assumption) ?rest9
              case hy9 => (intro wS hSw; (try dsimp only at hSw); go_simp; (try with_reducible rfl))
              (try simp only [Act.put, List.setIfInBounds_toArray, List.set_cons_zero, List.set_cons_succ])
              refine wpAnyH_take (i := 9) (oi := ⟨some 35, _, _, _, _, none⟩) (v := ?v10) rfl (by kernel_rfl) (by kernel_rfl) (by kernel_rfl) (fun _ _ _ h => h) (Or.inl ⟨by rfl, ?hy10⟩) (by assumption) ?rest10
              case hy10 => (intro wS hSw; (try dsimp only at hSw); go_simp; (try with_reducible rfl))
              (try simp only [Act.put, List.setIfInBounds_toArray, List.set_cons_zero, List.set_cons_succ])
              refine wpAnyH_ready (rs := [10]) (by kernel_rfl) (by simp) ?_
              refine AllReadyH.cons (o := ⟨some 36, _, _, _, _, none⟩) rfl (fun K hK => ?_) AllReadyH.nil
              go_simp
              go_at_call 24
              (with_reducible refine HC.out.mono ?_)
              rintro e w3 ⟨rfl, f3⟩
              have u0 := (f3.cell (World.block_lt_of_cell? _ _ q0) (fun e => e)).trans q0
              have u1 := (f3.cell (World.block_lt_of_cell? _ _ q1) (fun e => e)).trans q1
              have u2 := (f3.cell (World.block_lt_of_cell? _ _ q2) (fun e => e)).trans q2
              have u3 := (f3.cell (World.block_lt_of_cell? _ _ q3) (fun e => e)).trans q3
              have u4 := (f3.cell (World.block_lt_of_cell? _ _ q4) (fun e => e)).trans q4
              have u5 := (f3.cell (World.block_lt_of_cell? _ _ q5) (fun e => e)).trans q5
              have u6 := (f3.cell (World.block_lt_of_cell? _ _ q6) (fun e => e)).trans q6
              have u7 := (f3.cell (World.block_lt_of_cell? _ _ q7) (fun e => e)).trans q7
              have u8 := (f3.cell (World.block_lt_of_cell? _ _ q8) (fun e => e)).trans q8
              have u9 := (f3.cell (World.block_lt_of_cell? _ _ q9) (fun e => e)).trans q9
              have u10 := (f3.cell (World.block_lt_of_cell? _ _ q10) (fun e => e)).trans q10
              have u11 := (f3.cell (World.block_lt_of_cell? _ _ q11) (fun e => e)).trans q11
              have u12 := (f3.cell (World.block_lt_of_cell? _ _ q12) (fun e => e)).trans q12
              have u13 := (f3.cell (World.block_lt_of_cell? _ _ q13) (fun e => e)).trans q13
              have u14 := (f3.cell (World.block_lt_of_cell? _ _ q14) (fun e => e)).trans q14
              have u15 := (f3.cell (World.block_lt_of_cell? _ _ q15) (fun e => e)).trans q15
              have u16 := (f3.cell (World.block_lt_of_cell? _ _ q16) (fun e => e)).trans q16
              have u17 := (f3.cell (World.block_lt_of_cell? _ _ q17) (fun e => e)).trans q17
              have u18 := (f3.cell (World.block_lt_of_cell? _ _ q18) (fun e => e)).trans q18
              have u19 := (f3.cell (World.block_lt_of_cell? _ _ q19) (fun e => e)).trans q19
              go_wp2_with fail
              refine hK.out _ _ (by exact ⟨u0, u1, u2, u3, u4, u5, u6, u7, u8, u9, u10, u11, u12, u13, u14, u15, u16, u17, u18, u19⟩) (fun hHeld => ?_)
              clear hK K
              (try simp only [Act.put, List.setIfInBounds_toArray, List.set_cons_zero, List.set_cons_succ])
              refine wpAnyH_take (i := 11) (oi := ⟨some 37, _, _, _, _, none⟩) (v := ?v11) rfl (by kernel_rfl) (by kernel_rfl) (by kernel_rfl) (fun _ _ _ h => h) (Or.inl ⟨by rfl, ?hy11⟩) (by assumption) ?rest11
              case hy11 => (intro wS hSw; (try dsimp only at hSw); go_simp; (try with_reducible rfl))
              (try simp only [Act.put, List.setIfInBounds_toArray, List.set_cons_zero, List.set_cons_succ])
              refine wpAnyH_done (by kernel_rfl) ?_ _
              clear q0 u0 q1 u1 q2 u2 q3 u3 q4 u4 q5 u5 q6 u6 q7 u7 q8 u8 q9 u9 q10 u10 q11 u11 q12 u12 q13 u13 q14 u14 q15 u15 q16 u16 q17 u17 q18 u18 q19 u19
              go_wp2
              go_ret
              exact ⟨ret_boolE HE2.out.symm, (F1.out.trans FR.out.drew).trans f3⟩
            · have HE2 : Hid (b0 = sameL (ks.drop (k + 1)) (ms.drop (k + 1))) := Lib.hid (by rw [HY.out]; rfl)
              clear HY
              go_wp2
              refine wp_region_held_drew (S := (fun W => W.cell? ⟨w.heap.size, 8, none⟩ = some (.slice (some a) n c) ∧ W.cell? ⟨w.heap.size + 1, 8, none⟩ = some (.slice (some a2) n c2) ∧ W.cell? (a.add (k * 9)) = some (.int .i64 xo) ∧ W.cell? { block := (a.add (k * 9)).block, off := (a.add (k * 9)).off + 1 } = some (.string ⟨xc.toArray⟩) ∧ W.cell? { block := (a.add (k * 9)).block, off := (a.add (k * 9)).off + 2 } = some (.int .i64 xm) ∧ W.cell? { block := (a.add (k * 9)).block, off := (a.add (k * 9)).off + 3 } = some (.bool xn) ∧ W.cell? { block := (a.add (k * 9)).block, off := (a.add (k * 9)).off + 4 } = some (.int .i64 xi) ∧ W.cell? { block := (a.add (k * 9)).block, off := (a.add (k * 9)).off + 5 } = some (.string ⟨xt.toArray⟩) ∧ W.cell? { block := (a.add (k * 9)).block, off := (a.add (k * 9)).off + 6 } = some (.int .i64 xk) ∧ W.cell? { block := (a.add (k * 9)).block, off := (a.add (k * 9)).off + 7 } = some (.string ⟨xp.toArray⟩) ∧ W.cell? { block := (a.add (k * 9)).block, off := (a.add (k * 9)).off + 8 } = some (.slice tA tn tc) ∧ W.cell? (a2.add (k * 9)) = some (.int .i64 yo) ∧ W.cell? { block := (a2.add (k * 9)).block, off := (a2.add (k * 9)).off + 1 } = some (.string ⟨yc.toArray⟩) ∧ W.cell? { block := (a2.add (k * 9)).block, off := (a2.add (k * 9)).off + 2 } = some (.int .i64 ym) ∧ W.cell? { block := (a2.add (k * 9)).block, off := (a2.add (k * 9)).off + 3 } = some (.bool yn) ∧ W.cell? { block := (a2.add (k * 9)).block, off := (a2.add (k * 9)).off + 4 } = some (.int .i64 yi) ∧ W.cell? { block := (a2.add (k * 9)).block, off := (a2.add (k * 9)).off + 5 } = some (.string ⟨yt.toArray⟩) ∧ W.cell? { block := (a2.add (k * 9)).block, off := (a2.add (k * 9)).off + 6 } = some (.int .i64 yk) ∧ W.cell? { block := (a2.add (k * 9)).block, off := (a2.add (k * 9)).off + 7 } = some (.string ⟨yp.toArray⟩) ∧ W.cell? { block := (a2.add (k * 9)).block, off := (a2.add (k * 9)).off + 8 } = some (.slice uA un uc))) (by kernel_rfl) (by exact ⟨q0, q1, q2, q3, q4, q5, q6, q7, q8, q9, q10, q11, q12, q13, q14, q15, q16, q17, q18, q19⟩) (fun hHeld => ?_)
              refine wpAnyH_take (i := 0) (oi := ⟨some 26, _, _, _, _, none⟩) (v := ?v12) rfl (by kernel_rfl) (by kernel_rfl) (by kernel_rfl) (fun _ _ _ h => h) (Or.inl ⟨by rfl, ?hy12⟩) (by assumption) ?rest12
              case hy12 => (intro wS hSw; (try dsimp only at hSw); go_simp; (try with_reducible rfl))
              (try simp only [Act.put, List.setIfInBounds_toArray, List.set_cons_zero, List.set_cons_succ])
              refine wpAnyH_take (i := 1) (oi := ⟨some 27, _, _, _, _, none⟩) (v := ?v13) rfl (by kernel_rfl) (by kernel_rfl) (by kernel_rfl) (fun _ _ _ h => h) (Or.inl ⟨by rfl, ?hy13⟩) (by assumption) ?rest13
              case hy13 => (intro wS hSw; (try dsimp only at hSw); go_simp; (try with_reducible rfl))
              (try simp only [Act.put, List.setIfInBounds_toArray, List.set_cons_zero, List.set_cons_succ])
              refine wpAnyH_take (i := 2) (oi := ⟨some 28, _, _, _, _, none⟩) (v := ?v14) rfl (by kernel_rfl) (by kernel_rfl) (by kernel_rfl) (fun _ _ _ h => h) (Or.inl ⟨by rfl, ?hy14⟩) (by assumption) ?rest14
              case hy14 => (intro wS hSw; (try dsimp only at hSw); go_simp; (try with_reducible rfl))
              (try simp only [Act.put, List.setIfInBounds_toArray, List.set_cons_zero, List.set_cons_succ])
              refine wpAnyH_take (i := 3) (oi := ⟨some 29, _, _, _, _, none⟩) (v := ?v15) rfl (by kernel_rfl) (by kernel_rfl) (by kernel_rfl) (fun _ _ _ h => h) (Or.inl ⟨by rfl, ?hy15⟩) (by assumption) ?rest15
              case hy15 => (intro wS hSw; (try dsimp only at hSw); go_simp; (try with_reducible rfl))
              (try simp only [Act.put, List.setIfInBounds_toArray, List.set_cons_zero, List.set_cons_succ])
              refine wpAnyH_take (i := 4) (oi := ⟨some 30, _, _, _, _, none⟩) (v := ?v16) rfl (by kernel_rfl) (by kernel_rfl) (by kernel_rfl) (fun _ _ _ h => h) (Or.inl ⟨by rfl, ?hy16⟩) (by assumption) ?rest16
              case hy16 => (intro wS hSw; (try dsimp only at hSw); go_simp; (try with_reducible rfl))
              (try simp only [Act.put, List.setIfInBounds_toArray, List.set_cons_zero, List.set_cons_succ])
              refine wpAnyH_take (i := 5) (oi := ⟨some 31, _, _, _, _, none⟩) (v := ?v17) rfl (by kernel_rfl) (by kernel_rfl) (by kernel_rfl) (fun _ _ _ h => h) (Or.inl ⟨by rfl, ?hy17⟩) (by assumption) ?rest17
              case hy17 => (intro wS hSw; (try dsimp only at hSw); go_simp; (try with_reducible rfl))
              (try simp only [Act.put, List.setIfInBounds_toArray, List.set_cons_zero, List.set_cons_succ])
              refine wpAnyH_take (i := 6) (oi := ⟨some 32, _, _, _, _, none⟩) (v := ?v18) rfl (by kernel_rfl) (by kernel_rfl) (by kernel_rfl) (fun _ _ _ h => h) (Or.inl ⟨by rfl, ?hy18⟩) (by assumption) ?rest18
              case hy18 => (intro wS hSw; (try dsimp only at hSw); go_simp; (try with_reducible rfl))
              (try simp only [Act.put, List.setIfInBounds_toArray, List.set_cons_zero, List.set_cons_succ])
              refine wpAnyH_take (i := 7) (oi := ⟨some 33, _, _, _, _, none⟩) (v := ?v19) rfl (by kernel_rfl) (by kernel_rfl) (by kernel_rfl) (fun _ _ _ h => h) (Or.inl ⟨by rfl, ?hy19⟩) (by assumption) ?rest19
              case hy19 => (intro wS hSw; (try dsimp only at hSw); go_simp; (try with_reducible rfl))
              (try simp only [Act.put, List.setIfInBounds_toArray, List.set_cons_zero, List.set_cons_succ])
              refine wpAnyH_take (i := 8) (oi := ⟨some 34, _, _, _, _, none⟩) (v := ?v20) rfl (by kernel_rfl) (by kernel_rfl) (by kernel_rfl) (fun _ _ _ h => h) (Or.inl ⟨by rfl, ?hy20⟩) (by assumption) ?rest20
              case hy20 => (intro wS hSw; (try dsimp only at hSw); go_simp; (try with_reducible rfl))
              (try simp only [Act.put, List.setIfInBounds_toArray, List.set_cons_zero, List.set_cons_succ])
              refine wpAnyH_take (i := 9) (oi := ⟨some 35, _, _, _, _, none⟩) (v := ?v21) rfl (by kernel_rfl) (by kernel_rfl) (by kernel_rfl) (fun _ _ _ h => h) (Or.inl ⟨by rfl, ?hy21⟩) (by assumption) ?rest21
              case hy21 => (intro wS hSw; (try dsimp only at hSw); go_simp; (try with_reducible rfl))
              (try simp only [Act.put, List.setIfInBounds_toArray, List.set_cons_zero, List.set_cons_succ])
              refine wpAnyH_ready (rs := [10]) (by kernel_rfl) (by simp) ?_
              refine AllReadyH.cons (o := ⟨some 36, _, _, _, _, none⟩) rfl (fun K hK => ?_) AllReadyH.nil
              go_simp
              go_at_call 24
              (with_reducible refine HC.out.mono ?_)
              rintro e w3 ⟨rfl, f3⟩
              have u0 := (f3.cell (World.block_lt_of_cell? _ _ q0) (fun e => e)).trans q0
              have u1 := (f3.cell (World.block_lt_of_cell? _ _ q1) (fun e => e)).trans q1
              have u2 := (f3.cell (World.block_lt_of_cell? _ _ q2) (fun e => e)).trans q2
              have u3 := (f3.cell (World.block_lt_of_cell? _ _ q3) (fun e => e)).trans q3
              have u4 := (f3.cell (World.block_lt_of_cell? _ _ q4) (fun e => e)).trans q4
              have u5 := (f3.cell (World.block_lt_of_cell? _ _ q5) (fun e => e)).trans q5
              have u6 := (f3.cell (World.block_lt_of_cell? _ _ q6) (fun e => e)).trans q6
              have u7 := (f3.cell (World.block_lt_of_cell? _ _ q7) (fun e => e)).trans q7
              have u8 := (f3.cell (World.block_lt_of_cell? _ _ q8) (fun e => e)).trans q8
              have u9 := (f3.cell (World.block_lt_of_cell? _ _ q9) (fun e => e)).trans q9
              have u10 := (f3.cell (World.block_lt_of_cell? _ _ q10) (fun e => e)).trans q10
              have u11 := (f3.cell (World.block_lt_of_cell? _ _ q11) (fun e => e)).trans q11
              have u12 := (f3.cell (World.block_lt_of_cell? _ _ q12) (fun e => e)).trans q12
              have u13 := (f3.cell (World.block_lt_of_cell? _ _ q13) (fun e => e)).trans q13
              have u14 := (f3.cell (World.block_lt_of_cell? _ _ q14) (fun e => e)).trans q14
              have u15 := (f3.cell (World.block_lt_of_cell? _ _ q15) (fun e => e)).trans q15
              have u16 := (f3.cell (World.block_lt_of_cell? _ _ q16) (fun e => e)).trans q16
              have u17 := (f3.cell (World.block_lt_of_cell? _ _ q17) (fun e => e)).trans q17
              have u18 := (f3.cell (World.block_lt_of_cell? _ _ q18) (fun e => e)).trans q18
              have u19 := (f3.cell (World.block_lt_of_cell? _ _ q19) (fun e => e)).trans q19
              go_wp2_with fail
              refine hK.out _ _ (by exact ⟨u0, u1, u2, u3, u4, u5, u6, u7, u8, u9, u10, u11, u12, u13, u14, u15, u16, u17, u18, u19⟩) (fun hHeld => ?_)
              clear hK K
              (try simp only [Act.put, List.setIfInBounds_toArray, List.set_cons_zero, List.set_cons_succ])
              refine wpAnyH_take (i := 11) (oi := ⟨some 37, _, _, _, _, none⟩) (v := ?v22) rfl (by kernel_rfl) (by kernel_rfl) (by kernel_rfl) (fun _ _ _ h => h) (Or.inl ⟨by rfl, ?hy22⟩) (by assumption) ?rest22
              case hy22 => (intro wS hSw; (try dsimp only at hSw); go_simp; (try with_reducible rfl))
              (try simp only [Act.put, List.setIfInBounds_toArray, List.set_cons_zero, List.set_cons_succ])
              refine wpAnyH_done (by kernel_rfl) ?_ _
              clear q0 u0 q1 u1 q2 u2 q3 u3 q4 u4 q5 u5 q6 u6 q7 u7 q8 u8 q9 u9 q10 u10 q11 u11 q12 u12 q13 u13 q14 u14 q15 u15 q16 u16 q17 u17 q18 u18 q19 u19
              go_wp2
              go_roundw
              case rel => exact ⟨k + 1, by omega, by go_num, HE2, Lib.hid (FR.out.drew.trans f3)⟩
              case measure => simp [intOf]; omega
          · have HE2 : Hid (r = true) := Lib.hid (HE.out.trans (HT.out.trans (sameL_end (by have := HL1.out; omega) (by have := HL2.out; omega))))
            clear HT
            go_wp2
            go_ret
            exact ⟨ret_boolE HE2.out.symm, F1.out.trans FR.out⟩
      · have hb : ((n : Int) != n2) = true := by rw [bne_iff_ne]; omega
        have HE2 : Hid (r = false) := Lib.hid (HE.out.trans (HS0.out (by have := HL1.out; have := HL2.out; omega)))
        clear hne HS0 HS1
        go_wp2
        go_ret
        exact ⟨ret_boolE HE2.out.symm, F1.out⟩
end Go.Proofs.YtibopcceffncpaaDoor


namespace Go.Proofs.YtibopcceffncpaaDoor
set_option linter.unusedVariables false
set_option linter.unusedSimpArgs false
set_option maxRecDepth 100000
open Go.RowKit

theorem Qin.new2 {w : World} {q : Qy} {c : Value} {s : Kv} {g : Value} {q2 : Qy} {c2 : Value} {s2 : Kv} {g2 : Value} (h : QyS w q c s g) (h2 : QyS w q2 c2 s2 g2) :
    Qin w w.heap.size q c s g ((w.alloc (.cells (qyC q c s g) 30)).alloc (.cells (qyC q2 c2 s2 g2) 30)) ∧ Qin w (w.heap.size + 1) q2 c2 s2 g2 ((w.alloc (.cells (qyC q c s g) 30)).alloc (.cells (qyC q2 c2 s2 g2) 30)) := by
  have F0 : Fr Non w (w.alloc (.cells (qyC q c s g) 30)) := (Fr.refl Non w).alloc _
  have F1 : Fr Non (w.alloc (.cells (qyC q c s g) 30)) ((w.alloc (.cells (qyC q c s g) 30)).alloc (.cells (qyC q2 c2 s2 g2) 30)) := (Fr.refl Non _).alloc _
  refine ⟨(Qin.new h).non F1, F0.trans F1, ?_, h2.non (F0.trans F1)⟩
  exact qy_new _ _ q2 c2 s2 g2 (by simp)
theorem take_neA {a b : List Ag} {k : Nat} (hk : k < a.length) (hk2 : k < b.length) (h : a[k] ≠ b[k]) : a ≠ b := by
  rintro rfl; exact h rfl
theorem take_eqA {a b : List Ag} {k : Nat} (hk : k < a.length) (hk2 : k < b.length) (h : a.take k = b.take k) (he : a[k] = b[k]) : a.take (k + 1) = b.take (k + 1) := by
  rw [List.take_succ_eq_append_getElem hk, List.take_succ_eq_append_getElem hk2, h, he]
theorem sequal_any (v1 v2 : Value) (l1 l2 : List (List UInt8)) (w : World) (h1 : Vs sv w v1 l1) (h2 : Vs sv w v2 l2) (hl1 : l1.length ≤ 9223372036854775807) :
    Calls Tryd.prog 20 #[v1, v2] w fun e w' => e = .returned (.bool (decide (l1 = l2))) ∧ Fr Non w w' := by
  obtain ⟨A1, c1, rfl, hc1, hn1, hcell1⟩ := h1
  obtain ⟨A2, c2, rfl, hc2, hn2, hcell2⟩ := h2
  have HN1 := Lib.hid hn1
  have HN2 := Lib.hid hn2
  have HC1 := Lib.hid hcell1
  have HC2 := Lib.hid hcell2
  clear hn1 hn2 hcell1 hcell2
  by_cases hlen : l1.length = l2.length
  · have HL := Lib.hid hlen
    have hb : ((l1.length : Int) != l2.length) = false := by rw [hlen]; simp
    have hle : l1.length ≤ l2.length := by omega
    have hge : l2.length ≤ l1.length := by omega
    clear hlen
    go_enter Tryd.func20, Tryd.ntmps20
    go_wp2
    go_loopw [13] (fun i wr => ∃ k : Nat, k ≤ l1.length ∧ i = .int .i64 k ∧ Hid (l1.take k = l2.take k) ∧ ∃ n, wr = w.drewN n) (fun i _ => l1.length - (intOf i).toNat)
    case atStart => exact ⟨0, Nat.zero_le _, rfl, Lib.hid rfl, 0, rfl⟩
    case round =>
      obtain ⟨k, hk, rfl, HT, n, rfl⟩ := hrel
      by_cases hlt : k < l1.length
      · cases A1 with
        | none => have := HN1.out rfl; omega
        | some a1 =>
          cases A2 with
          | none => have := HN2.out rfl; omega
          | some a2 =>
            have g1 : w.cell? (a1.add k) = some (sv l1[k]) := HC1.out a1 rfl k hlt
            have g2 : w.cell? (a2.add k) = some (sv (l2[k]'(by omega))) := HC2.out a2 rfl k (by omega)
            unfold sv at g1 g2
            by_cases he : l1[k] = l2[k]'(by omega)
            · have HE := Lib.hid (take_eqS hlt (by omega) HT.out he)
              rw [← he] at g2
              clear he
              generalize l1[k] = x at *
              go_wp2
              go_quiet (fail)
              go_wp2
              go_roundw
              case rel => exact ⟨k + 1, by omega, by go_num, HE, _, rfl⟩
              case measure => simp [intOf]; omega
            · have HE := Lib.hid (take_neS hlt (by omega) he)
              have hx : (l1[k] == l2[k]'(by omega)) = false := by rw [beq_eq_false_iff_ne]; exact he
              clear he
              generalize l1[k] = x at *
              generalize l2[k]'(by omega) = y at *
              go_wp2
              go_quiet (fail)
              go_wp2
              go_ret
              exact ⟨ret_boolE (decide_eq_false HE.out).symm, ((Fr.refl _ _).drewN _).drewN _⟩
      · have HE : Hid (l1 = l2) := Lib.hid (by
          have := HT.out
          rwa [List.take_of_length_le (by omega), List.take_of_length_le (by omega)] at this)
        go_wp2
        go_ret
        exact ⟨ret_boolE (decide_eq_true HE.out).symm, (Fr.refl _ _).drewN _⟩
  · have hb : ((l1.length : Int) != l2.length) = true := by rw [bne_iff_ne]; omega
    have HE : Hid (l1 ≠ l2) := Lib.hid (fun e => hlen (by rw [e]))
    clear hlen
    go_enter Tryd.func20, Tryd.ntmps20
    go_wp2
    go_ret
    exact ⟨ret_boolE (decide_eq_false HE.out).symm, Fr.refl _ _⟩
set_option maxHeartbeats 1000000 in
theorem gequal_any (v1 v2 : Value) (l1 l2 : List Ag) (w : World) (h1 : Gs w v1 l1) (h2 : Gs w v2 l2) (hl1 : l1.length ≤ 9223372036854775807) :
    Calls Tryd.prog 22 #[v1, v2] w fun e w' => e = .returned (.bool (decide (l1 = l2))) ∧ Fr Non w w' := by
  obtain ⟨A1, c1, rfl, hc1, hn1, hcell1⟩ := h1
  obtain ⟨A2, c2, rfl, hc2, hn2, hcell2⟩ := h2
  have HN1 := Lib.hid hn1
  have HN2 := Lib.hid hn2
  have HC1 := Lib.hid hcell1
  have HC2 := Lib.hid hcell2
  clear hn1 hn2 hcell1 hcell2
  by_cases hlen : l1.length = l2.length
  · have HL := Lib.hid hlen
    have hb : ((l1.length : Int) != l2.length) = false := by rw [hlen]; simp
    have hle : l1.length ≤ l2.length := by omega
    have hge : l2.length ≤ l1.length := by omega
    clear hlen
    go_enter Tryd.func22, Tryd.ntmps22
    go_wp2
    go_loopw [13] (fun i wr => ∃ k : Nat, k ≤ l1.length ∧ i = .int .i64 k ∧ Hid (l1.take k = l2.take k) ∧ ∃ n, wr = w.drewN n) (fun i _ => l1.length - (intOf i).toNat)
    case atStart => exact ⟨0, Nat.zero_le _, rfl, Lib.hid rfl, 0, rfl⟩
    case round =>
      obtain ⟨k, hk, rfl, HT, n, rfl⟩ := hrel
      by_cases hlt : k < l1.length
      · cases A1 with
        | none => have := HN1.out rfl; omega
        | some a1 =>
          cases A2 with
          | none => have := HN2.out rfl; omega
          | some a2 =>
            obtain ⟨g0, g1⟩ := ag_lit (HC1.out a1 rfl k hlt)
            obtain ⟨y0, y1⟩ := ag_lit (HC2.out a2 rfl k (by omega))
            have q := fun W => run_neq_ag W l1[k] (l2[k]'(by omega))
            by_cases he : l1[k] = l2[k]'(by omega)
            · have HE := Lib.hid (take_eqA hlt (by omega) HT.out he)
              rw [← he] at y0 y1 q
              rw [aeq_self] at q
              clear he
              generalize l1[k] = x at *
              obtain ⟨xn, xt⟩ := x
              dsimp only at g0 g1 y0 y1 q
              go_wp2
              go_quiet (fail)
              go_wp2
              go_roundw
              case rel => exact ⟨k + 1, by omega, by go_num, HE, _, rfl⟩
              case measure => simp [intOf]; omega
            · have HE := Lib.hid (take_neA hlt (by omega) he)
              have hx : aeq l1[k] (l2[k]'(by omega)) = false := decide_eq_false he
              rw [hx] at q
              clear he hx
              generalize l1[k] = x at *
              generalize l2[k]'(by omega) = y at *
              obtain ⟨xn, xt⟩ := x
              obtain ⟨yn, yt⟩ := y
              dsimp only at g0 g1 y0 y1 q
              go_wp2
              go_quiet (fail)
              go_wp2
              go_ret
              exact ⟨ret_boolE (decide_eq_false HE.out).symm, ((Fr.refl _ _).drewN _).drewN _⟩
      · have HE : Hid (l1 = l2) := Lib.hid (by
          have := HT.out
          rwa [List.take_of_length_le (by omega), List.take_of_length_le (by omega)] at this)
        go_wp2
        go_ret
        exact ⟨ret_boolE (decide_eq_true HE.out).symm, (Fr.refl _ _).drewN _⟩
  · have hb : ((l1.length : Int) != l2.length) = true := by rw [bne_iff_ne]; omega
    have HE : Hid (l1 ≠ l2) := Lib.hid (fun e => hlen (by rw [e]))
    clear hlen
    go_enter Tryd.func22, Tryd.ntmps22
    go_wp2
    go_ret
    exact ⟨ret_boolE (decide_eq_false HE.out).symm, Fr.refl _ _⟩

set_option maxHeartbeats 2000000 in
theorem qsame_any (q : Qy) (c : Value) (s : Kv) (g : Value) (q2 : Qy) (c2 : Value) (s2 : Kv) (g2 : Value) (w : World) (hq : QyS w q c s g) (hq2 : QyS w q2 c2 s2 g2) (hs : SmQ q) :
    Calls Tryd.prog 9 #[qyV q c s g, qyV q2 c2 s2 g2] w fun e w' => e = .returned (.bool (sameQ q q2)) ∧ Fr Non w w' := by
  have QR0 := Qin.new2 hq hq2
  have Q0 := Lib.hid QR0.1
  have R0 := Lib.hid QR0.2
  have HC := Lib.hid (fun W (h : QyS W q c s g) (h2 : QyS W q2 c2 s2 g2) => sequal_any c c2 q.cols q2.cols W h.cols h2.cols (by have := hs.cols; omega))
  have HP := Lib.hid (fun W (h : QyS W q c s g) (h2 : QyS W q2 c2 s2 g2) => psame_any q.whr q2.whr s s2 W h.kids h2.kids hs.lens)
  have HG := Lib.hid (fun W (h : QyS W q c s g) (h2 : QyS W q2 c2 s2 g2) => gequal_any g g2 q.aggs q2.aggs W h.aggs h2.aggs (by have := hs.aggs; omega))
  have HE0 : Hid (sameQ q q2 = (decide (q.tab = q2.tab) && (decide (q.cols = q2.cols) && (sameP q.whr q2.whr && (decide (q.aggs = q2.aggs) && decide (q.by_ = q2.by_)))))) := Lib.hid rfl
  clear QR0
  generalize sameQ q q2 = r at *
  generalize sameP q.whr q2.whr = bp at *
  have hlc := hs.cols
  have hlg := hs.aggs
  unfold pdV pdC at HP
  obtain ⟨cA, cc, hce⟩ := hq.cols.shape
  obtain ⟨gA, gc, hge⟩ := hq.aggs.shape
  obtain ⟨cA2, cc2, hce2⟩ := hq2.cols.shape
  obtain ⟨gA2, gc2, hge2⟩ := hq2.aggs.shape
  clear hq hq2 hs
  obtain ⟨tab, cols, ⟨⟨wo, wc, wm, ⟨wn, wi, wt⟩, wk, wp⟩, wks⟩, aggs, by_⟩ := q
  obtain ⟨tab2, cols2, ⟨⟨wo2, wc2, wm2, ⟨wn2, wi2, wt2⟩, wk2, wp2⟩, wks2⟩, aggs2, by2_⟩ := q2
  obtain ⟨sA, sn, sc⟩ := s
  obtain ⟨sA2, sn2, sc2⟩ := s2
  dsimp only at hce hge hce2 hge2
  subst hce
  subst hge
  subst hce2
  subst hge2
  unfold qyV qyC kidV at *
  dsimp only [Pd.hd, Pd.kids] at *
  by_cases ht : tab = tab2
  · have htb : (tab == tab2) = true := by rw [beq_iff_eq]; exact ht
    have HT0 := Lib.hid ht
    clear ht
    go_enter Tryd.func9, Tryd.ntmps9
    go_wp2_with fail
    refine (HC.out _ Q0.out.sls R0.out.sls).mono ?_
    rintro e w1 ⟨rfl, f1⟩
    have Q1 := Lib.hid (Q0.out.non f1)
    have R1 := Lib.hid (R0.out.non f1)
    clear f1
    obtain ⟨g0, g1, g2, g3, g4, g5, g6, g7, g8, g9, g10, g11, g12⟩ := Q1.out.cells
    dsimp only [Pd.hd, Pd.kids] at g0 g1 g2 g3 g4 g5 g6 g7 g8 g9 g10 g11 g12
    obtain ⟨k0, k1, k2, k3, k4, k5, k6, k7, k8, k9, k10, k11, k12⟩ := R1.out.cells
    dsimp only [Pd.hd, Pd.kids] at k0 k1 k2 k3 k4 k5 k6 k7 k8 k9 k10 k11 k12
    by_cases hc : cols = cols2
    · rw [decide_eq_true hc]
      have HC0 := Lib.hid hc
      clear hc
      go_wp2_with fail
      refine (HP.out _ Q1.out.sls R1.out.sls).mono ?_
      rintro e w2 ⟨rfl, f2⟩
      have Q2 := Lib.hid (Q1.out.non f2)
      have R2 := Lib.hid (R1.out.non f2)
      clear f2
      clear g0 g1 g2 g3 g4 g5 g6 g7 g8 g9 g10 g11 g12 k0 k1 k2 k3 k4 k5 k6 k7 k8 k9 k10 k11 k12
      obtain ⟨g0, g1, g2, g3, g4, g5, g6, g7, g8, g9, g10, g11, g12⟩ := Q2.out.cells
      dsimp only [Pd.hd, Pd.kids] at g0 g1 g2 g3 g4 g5 g6 g7 g8 g9 g10 g11 g12
      obtain ⟨k0, k1, k2, k3, k4, k5, k6, k7, k8, k9, k10, k11, k12⟩ := R2.out.cells
      dsimp only [Pd.hd, Pd.kids] at k0 k1 k2 k3 k4 k5 k6 k7 k8 k9 k10 k11 k12
      cases bp
      · have HE : Hid (r = false) := Lib.hid (by rw [HE0.out, decide_eq_true HT0.out, decide_eq_true HC0.out]; rfl)
        clear HE0
        go_wp2
        go_ret
        exact ⟨ret_boolE HE.out.symm, Q2.out.fr⟩
      · go_wp2_with fail
        refine (HG.out _ Q2.out.sls R2.out.sls).mono ?_
        rintro e w3 ⟨rfl, f3⟩
        have Q3 := Lib.hid (Q2.out.non f3)
        have R3 := Lib.hid (R2.out.non f3)
        clear f3
        clear g0 g1 g2 g3 g4 g5 g6 g7 g8 g9 g10 g11 g12 k0 k1 k2 k3 k4 k5 k6 k7 k8 k9 k10 k11 k12
        obtain ⟨g0, g1, g2, g3, g4, g5, g6, g7, g8, g9, g10, g11, g12⟩ := Q3.out.cells
        dsimp only [Pd.hd, Pd.kids] at g0 g1 g2 g3 g4 g5 g6 g7 g8 g9 g10 g11 g12
        obtain ⟨k0, k1, k2, k3, k4, k5, k6, k7, k8, k9, k10, k11, k12⟩ := R3.out.cells
        dsimp only [Pd.hd, Pd.kids] at k0 k1 k2 k3 k4 k5 k6 k7 k8 k9 k10 k11 k12
        by_cases hg : aggs = aggs2
        · have HG0 := Lib.hid hg
          rw [decide_eq_true hg]
          clear hg
          by_cases hb : by_ = by2_
          · have HE : Hid (r = true) := Lib.hid (by rw [HE0.out, decide_eq_true HT0.out, decide_eq_true HC0.out, decide_eq_true HG0.out, decide_eq_true hb]; rfl)
            have hbb : (by_ == by2_) = true := by rw [beq_iff_eq]; exact hb
            clear HE0 hb
            go_wp2
            go_ret
            exact ⟨ret_boolE HE.out.symm, Q3.out.fr⟩
          · have HE : Hid (r = false) := Lib.hid (by rw [HE0.out, decide_eq_true HT0.out, decide_eq_true HC0.out, decide_eq_true HG0.out, decide_eq_false hb]; rfl)
            have hbb : (by_ == by2_) = false := by rw [beq_eq_false_iff_ne]; exact hb
            clear HE0 hb
            go_wp2
            go_ret
            exact ⟨ret_boolE HE.out.symm, Q3.out.fr⟩
        · have HE : Hid (r = false) := Lib.hid (by rw [HE0.out, decide_eq_false hg]; simp)
          rw [decide_eq_false hg]
          clear HE0 hg
          go_wp2
          go_ret
          exact ⟨ret_boolE HE.out.symm, Q3.out.fr⟩
    · have HE : Hid (r = false) := Lib.hid (by rw [HE0.out, decide_eq_false hc]; simp)
      rw [decide_eq_false hc]
      clear HE0 hc
      go_wp2
      go_ret
      exact ⟨ret_boolE HE.out.symm, Q1.out.fr⟩
  · have htb : (tab == tab2) = false := by rw [beq_eq_false_iff_ne]; exact ht
    have HE : Hid (r = false) := Lib.hid (by rw [HE0.out, decide_eq_false ht]; rfl)
    clear HE0 ht
    go_enter Tryd.func9, Tryd.ntmps9
    go_wp2
    go_ret
    exact ⟨ret_boolE HE.out.symm, Q0.out.fr⟩
set_option maxHeartbeats 2000000 in
theorem rqsame_any (q : Qy) (c : Value) (s : Kv) (g : Value) (q2 : Qy) (c2 : Value) (s2 : Kv) (g2 : Value) (w : World) (hq : QyS w q c s g) (hq2 : QyS w q2 c2 s2 g2) (hs : SmQ q) :
    Calls Tryd.prog 10 #[qyV q c s g, qyV q2 c2 s2 g2] w fun e w' => e = .returned (.bool (sameQ q q2)) ∧ Fr Non w w' := by
  have QR0 := Qin.new2 hq hq2
  have Q0 := Lib.hid QR0.1
  have R0 := Lib.hid QR0.2
  have HC := Lib.hid (fun W (h : QyS W q c s g) (h2 : QyS W q2 c2 s2 g2) => names_any c c2 q.cols q2.cols W h.cols h2.cols (by have := hs.cols; omega))
  have HP := Lib.hid (fun W (h : QyS W q c s g) (h2 : QyS W q2 c2 s2 g2) => rpsame_any q.whr q2.whr s s2 W h.kids h2.kids hs.lens)
  have HE0 : Hid (sameQ q q2 = (decide (q.tab = q2.tab) && (decide (q.cols = q2.cols) && (sameP q.whr q2.whr && (decide (q.aggs = q2.aggs) && decide (q.by_ = q2.by_)))))) := Lib.hid rfl
  have HCE : Hid ((q.cols == q2.cols) = decide (q.cols = q2.cols)) := Lib.hid (by rw [Bool.eq_iff_iff, beq_iff_eq, decide_eq_true_eq])
  clear QR0
  generalize (q.cols == q2.cols) = bc at *
  generalize decide (q.cols = q2.cols) = bd at *
  generalize sameQ q q2 = r at *
  generalize sameP q.whr q2.whr = bp at *
  have hlc := hs.cols
  have hlg := hs.aggs
  unfold pdV pdC at HP
  obtain ⟨cA, cc, hce⟩ := hq.cols.shape
  obtain ⟨gA, gc, hge⟩ := hq.aggs.shape
  obtain ⟨cA2, cc2, hce2⟩ := hq2.cols.shape
  obtain ⟨gA2, gc2, hge2⟩ := hq2.aggs.shape
  clear hq hq2 hs
  obtain ⟨tab, cols, ⟨⟨wo, wc, wm, ⟨wn, wi, wt⟩, wk, wp⟩, wks⟩, aggs, by_⟩ := q
  obtain ⟨tab2, cols2, ⟨⟨wo2, wc2, wm2, ⟨wn2, wi2, wt2⟩, wk2, wp2⟩, wks2⟩, aggs2, by2_⟩ := q2
  obtain ⟨sA, sn, sc⟩ := s
  obtain ⟨sA2, sn2, sc2⟩ := s2
  dsimp only at hce hge hce2 hge2
  subst hce
  subst hge
  subst hce2
  subst hge2
  unfold qyV qyC kidV at *
  dsimp only [Pd.hd, Pd.kids] at *
  have hbc : bc = bd := HCE.out
  subst hbc
  clear HCE
  by_cases ht : tab = tab2
  · have htb : (tab == tab2) = true := by rw [beq_iff_eq]; exact ht
    have htb2 : (tab != tab2) = false := by rw [bne, htb]; rfl
    have HT0 := Lib.hid ht
    clear ht
    by_cases hb : by_ = by2_
    · have hbb : (by_ == by2_) = true := by rw [beq_iff_eq]; exact hb
      have hbb2 : (by_ != by2_) = false := by rw [bne, hbb]; rfl
      have HB0 := Lib.hid hb
      clear hb
      go_enter Tryd.func10, Tryd.ntmps10
      go_wp2_with fail
      refine (HC.out _ Q0.out.sls R0.out.sls).mono ?_
      rintro e w1 ⟨rfl, f1⟩
      have Q1 := Lib.hid (Q0.out.non f1)
      have R1 := Lib.hid (R0.out.non f1)
      clear f1
      obtain ⟨g0, g1, g2, g3, g4, g5, g6, g7, g8, g9, g10, g11, g12⟩ := Q1.out.cells
      dsimp only [Pd.hd, Pd.kids] at g0 g1 g2 g3 g4 g5 g6 g7 g8 g9 g10 g11 g12
      obtain ⟨k0, k1, k2, k3, k4, k5, k6, k7, k8, k9, k10, k11, k12⟩ := R1.out.cells
      dsimp only [Pd.hd, Pd.kids] at k0 k1 k2 k3 k4 k5 k6 k7 k8 k9 k10 k11 k12
      cases bc
      · have HE : Hid (r = false) := Lib.hid (by rw [HE0.out]; simp)
        clear HE0
        go_wp2
        go_ret
        exact ⟨ret_boolE HE.out.symm, Q1.out.fr⟩
      · go_wp2_with fail
        refine (HP.out _ Q1.out.sls R1.out.sls).mono ?_
        rintro e w2 ⟨rfl, f2⟩
        have Q2 := Lib.hid (Q1.out.non f2)
        have R2 := Lib.hid (R1.out.non f2)
        clear f2
        clear g0 g1 g2 g3 g4 g5 g6 g7 g8 g9 g10 g11 g12 k0 k1 k2 k3 k4 k5 k6 k7 k8 k9 k10 k11 k12
        obtain ⟨g0, g1, g2, g3, g4, g5, g6, g7, g8, g9, g10, g11, g12⟩ := Q2.out.cells
        dsimp only [Pd.hd, Pd.kids] at g0 g1 g2 g3 g4 g5 g6 g7 g8 g9 g10 g11 g12
        obtain ⟨k0, k1, k2, k3, k4, k5, k6, k7, k8, k9, k10, k11, k12⟩ := R2.out.cells
        dsimp only [Pd.hd, Pd.kids] at k0 k1 k2 k3 k4 k5 k6 k7 k8 k9 k10 k11 k12
        cases bp
        · have HE : Hid (r = false) := Lib.hid (by rw [HE0.out]; simp)
          clear HE0
          go_wp2
          go_ret
          exact ⟨ret_boolE HE.out.symm, Q2.out.fr⟩
        · have HE1 : Hid (r = decide (aggs = aggs2)) := Lib.hid (by rw [HE0.out, decide_eq_true HT0.out, decide_eq_true HB0.out]; simp)
          clear HE0
          by_cases hlen : aggs.length = aggs2.length
          · have hln : ((aggs.length : Int) != aggs2.length) = false := by rw [hlen]; simp
            have hle : aggs.length ≤ aggs2.length := by omega
            have hge : aggs2.length ≤ aggs.length := by omega
            clear hlen
            have HA1 := Lib.hid Q2.out.sls.aggs
            have HA2 := Lib.hid R2.out.sls.aggs
            go_wp2
            go_loopw [5] (fun i wr => ∃ k : Nat, k ≤ aggs.length ∧ i = .int .i64 k ∧ Hid (aggs.take k = aggs2.take k) ∧ ∃ n, wr = w2.drewN n) (fun i _ => aggs.length - (intOf i).toNat)
            case atStart => exact ⟨0, Nat.zero_le _, rfl, Lib.hid rfl, 0, rfl⟩
            case round =>
              obtain ⟨k, hk, rfl, HT, n, rfl⟩ := hrel
              by_cases hlt : k < aggs.length
              · obtain ⟨a, rfl, _, d0, d1⟩ := Ns.gat HA1.out k hlt
                obtain ⟨b, rfl, _, y0, y1⟩ := Ns.gat HA2.out k (by omega)
                have q := fun W => run_neq_ag W aggs[k] (aggs2[k]'(by omega))
                by_cases he : aggs[k] = aggs2[k]'(by omega)
                · have HE := Lib.hid (take_eqA hlt (by omega) HT.out he)
                  rw [← he] at q
                  simp only [← he] at y0 y1
                  rw [aeq_self] at q
                  clear he
                  try dsimp only at d0 d1 y0 y1 q
                  generalize aggs[k] = x at *
                  obtain ⟨xn, xt⟩ := x
                  try dsimp only at d0 d1 y0 y1 q
                  go_wp2
                  go_quiet (fail)
                  go_wp2
                  go_roundw
                  case rel => exact ⟨k + 1, by omega, by go_num, HE, _, rfl⟩
                  case measure => simp [intOf]; omega
                · have HE : Hid (r = false) := Lib.hid (by rw [HE1.out, decide_eq_false (take_neA hlt (by omega) he)])
                  have hx : aeq aggs[k] (aggs2[k]'(by omega)) = false := decide_eq_false he
                  rw [hx] at q
                  clear he hx HE1
                  try dsimp only at d0 d1 y0 y1 q
                  generalize aggs[k] = x at *
                  generalize aggs2[k]'(by omega) = y at *
                  obtain ⟨xn, xt⟩ := x
                  obtain ⟨yn, yt⟩ := y
                  try dsimp only at d0 d1 y0 y1 q
                  go_wp2
                  go_quiet (fail)
                  go_wp2
                  go_ret
                  exact ⟨ret_boolE HE.out.symm, (Q2.out.fr.drewN _).drewN _⟩
              · have HE : Hid (r = true) := Lib.hid (by
                  have := HT.out
                  rw [List.take_of_length_le (by omega), List.take_of_length_le (by omega)] at this
                  rw [HE1.out, decide_eq_true this])
                clear HE1 HT
                go_wp2
                go_ret
                exact ⟨ret_boolE HE.out.symm, Q2.out.fr.drewN _⟩
          · have hln : ((aggs.length : Int) != aggs2.length) = true := by rw [bne_iff_ne]; omega
            have HE : Hid (r = false) := Lib.hid (by rw [HE1.out]; exact decide_eq_false (fun e => hlen (by rw [e])))
            clear HE1 hlen
            go_wp2
            go_ret
            exact ⟨ret_boolE HE.out.symm, Q2.out.fr⟩
    · have hbb : (by_ == by2_) = false := by rw [beq_eq_false_iff_ne]; exact hb
      have hbb2 : (by_ != by2_) = true := by rw [bne, hbb]; rfl
      have HE : Hid (r = false) := Lib.hid (by rw [HE0.out, decide_eq_false hb]; simp)
      clear HE0 hb
      go_enter Tryd.func10, Tryd.ntmps10
      go_wp2
      go_ret
      exact ⟨ret_boolE HE.out.symm, Q0.out.fr⟩
  · have htb : (tab == tab2) = false := by rw [beq_eq_false_iff_ne]; exact ht
    have htb2 : (tab != tab2) = true := by rw [bne, htb]; rfl
    have HE : Hid (r = false) := Lib.hid (by rw [HE0.out, decide_eq_false ht]; rfl)
    clear HE0 ht
    go_enter Tryd.func10, Tryd.ntmps10
    go_wp2
    go_ret
    exact ⟨ret_boolE HE.out.symm, Q0.out.fr⟩
end Go.Proofs.YtibopcceffncpaaDoor


namespace Go.Proofs.YtibopcceffncpaaDoor
set_option linter.unusedVariables false
set_option linter.unusedSimpArgs false
set_option maxRecDepth 100000
open Go.RowKit

set_option maxHeartbeats 1000000 in
theorem mplain_any (q : Qy) (c : Value) (s : Kv) (g : Value) (w : World) (hq : QyS w q c s g) (hs : SmQ q) :
    Calls Tryd.prog 30 #[qyV q c s g] w fun e w' => e = .returned (.bool (plainQ q)) ∧ Fr Non w w' := by
  have Q0 := Lib.hid (Qin.new hq)
  have U := Lib.hid (fun W (h : QyS W q c s g) => unln_any c q.cols W h.cols (by have := hs.cols; omega) (fun x hx => by have := hs.names x hx; omega))
  have HE0 : Hid (plainQ q = (decide (q.aggs.length = 0) && (decide (q.by_ = []) && (decide (q.cols.length ≤ 6) && unlB q.cols)))) := Lib.hid rfl
  have hlc := hs.cols
  have hlg := hs.aggs
  generalize plainQ q = r at *
  generalize unlB q.cols = bu at *
  obtain ⟨cA, cc, hce⟩ := hq.cols.shape
  obtain ⟨gA, gc, hge⟩ := hq.aggs.shape
  clear hq hs
  obtain ⟨tab, cols, ⟨⟨wo, wc, wm, ⟨wn, wi, wt⟩, wk, wp⟩, wks⟩, aggs, by_⟩ := q
  obtain ⟨sA, sn, sc⟩ := s
  dsimp only at hce hge
  subst hce
  subst hge
  unfold qyV qyC kidV at *
  dsimp only [Pd.hd, Pd.kids] at *
  by_cases ha : aggs.length = 0
  · have hab : ((aggs.length : Int) == 0) = true := by rw [beq_iff_eq]; omega
    by_cases hb : by_ = []
    · subst hb
      by_cases h6 : cols.length ≤ 6
      · have HE : Hid (r = bu) := Lib.hid (by rw [HE0.out, decide_eq_true ha, decide_eq_true h6]; rfl)
        clear HE0 ha
        go_enter Tryd.func30, Tryd.ntmps30
        go_wp2_with fail
        refine (U.out _ Q0.out.sls).mono ?_
        rintro e w1 ⟨rfl, f1⟩
        go_wp2
        go_ret
        exact ⟨ret_boolE HE.out.symm, Q0.out.fr.trans f1⟩
      · have HE : Hid (r = false) := Lib.hid (by rw [HE0.out, decide_eq_false h6]; simp)
        clear HE0 ha U
        go_enter Tryd.func30, Tryd.ntmps30
        go_wp2
        go_ret
        exact ⟨ret_boolE HE.out.symm, Q0.out.fr⟩
    · have hbb : (by_ == []) = false := by rw [beq_eq_false_iff_ne]; exact hb
      have HE : Hid (r = false) := Lib.hid (by rw [HE0.out, decide_eq_false hb]; simp)
      clear HE0 ha U hb
      go_enter Tryd.func30, Tryd.ntmps30
      go_wp2
      go_ret
      exact ⟨ret_boolE HE.out.symm, Q0.out.fr⟩
  · have hab : ((aggs.length : Int) == 0) = false := by rw [beq_eq_false_iff_ne]; omega
    have HE : Hid (r = false) := Lib.hid (by rw [HE0.out, decide_eq_false ha]; rfl)
    clear HE0 U
    go_enter Tryd.func30, Tryd.ntmps30
    go_wp2
    go_ret
    exact ⟨ret_boolE HE.out.symm, Q0.out.fr⟩

set_option maxHeartbeats 1000000 in
theorem mfold_any (q : Qy) (c : Value) (s : Kv) (g : Value) (w : World) (hq : QyS w q c s g) (hs : SmQ q) :
    Calls Tryd.prog 31 #[qyV q c s g] w fun e w' => e = .returned (.bool (foldQ q)) ∧ Fr Non w w' := by
  have Q0 := Lib.hid (Qin.new hq)
  have G := Lib.hid (fun W (h : QyS W q c s g) => gconts_any g q.aggs W h.aggs (by have := hs.aggs; omega) (fun x hx => by have := hs.acol x hx; omega))
  have N := Lib.hid (fun W => sname_any q.by_ W (by have := hs.by_; omega))
  have HE0 : Hid (foldQ q = (decide (0 < q.aggs.length) && (decide (q.aggs.length ≤ 4) && (q.aggs.all agB && (decide (q.cols.length = 0) && (decide (q.by_ = []) || nameB q.by_)))))) := Lib.hid rfl
  have hlc := hs.cols
  have hlg := hs.aggs
  generalize foldQ q = r at *
  generalize q.aggs.all agB = ba at *
  generalize nameB q.by_ = bn at *
  obtain ⟨cA, cc, hce⟩ := hq.cols.shape
  obtain ⟨gA, gc, hge⟩ := hq.aggs.shape
  clear hq hs
  obtain ⟨tab, cols, ⟨⟨wo, wc, wm, ⟨wn, wi, wt⟩, wk, wp⟩, wks⟩, aggs, by_⟩ := q
  obtain ⟨sA, sn, sc⟩ := s
  dsimp only at hce hge
  subst hce
  subst hge
  unfold qyV qyC kidV at *
  dsimp only [Pd.hd, Pd.kids] at *
  by_cases ha : aggs.length = 0
  · have HE : Hid (r = false) := Lib.hid (by rw [HE0.out, decide_eq_false (by omega)]; rfl)
    have ha0 : (aggs.length : Int) ≤ 0 := by omega
    clear HE0 G N ha
    go_enter Tryd.func31, Tryd.ntmps31
    go_wp2
    go_ret
    exact ⟨ret_boolE HE.out.symm, Q0.out.fr⟩
  · by_cases h4 : aggs.length ≤ 4
    · cases ba
      · have HE : Hid (r = false) := Lib.hid (by rw [HE0.out]; simp)
        clear HE0 N
        go_enter Tryd.func31, Tryd.ntmps31
        go_wp2_with fail
        refine (G.out _ Q0.out.sls).mono ?_
        rintro e w1 ⟨rfl, f1⟩
        have Q1 := Lib.hid (Q0.out.non f1)
        clear f1
        go_wp2
        go_ret
        exact ⟨ret_boolE HE.out.symm, Q1.out.fr⟩
      · by_cases hc : cols.length = 0
        · have hcb : ((cols.length : Int) == 0) = true := by rw [beq_iff_eq]; omega
          by_cases hb : by_ = []
          · have HE : Hid (r = true) := Lib.hid (by rw [HE0.out, decide_eq_true (show 0 < aggs.length by omega), decide_eq_true h4, decide_eq_true hc, decide_eq_true hb]; rfl)
            clear HE0 N hc
            subst hb
            go_enter Tryd.func31, Tryd.ntmps31
            go_wp2_with fail
            refine (G.out _ Q0.out.sls).mono ?_
            rintro e w1 ⟨rfl, f1⟩
            have Q1 := Lib.hid (Q0.out.non f1)
            clear f1
            obtain ⟨g0, g1, g2, g3, g4, g5, g6, g7, g8, g9, g10, g11, g12⟩ := Q1.out.cells
            dsimp only [Pd.hd, Pd.kids] at g0 g1 g2 g3 g4 g5 g6 g7 g8 g9 g10 g11 g12
            go_wp2
            go_ret
            exact ⟨ret_boolE HE.out.symm, Q1.out.fr⟩
          · have hbb : (by_ == []) = false := by rw [beq_eq_false_iff_ne]; exact hb
            have HE : Hid (r = bn) := Lib.hid (by rw [HE0.out, decide_eq_true (show 0 < aggs.length by omega), decide_eq_true h4, decide_eq_true hc, decide_eq_false hb]; rfl)
            clear HE0 hb hc
            go_enter Tryd.func31, Tryd.ntmps31
            go_wp2_with fail
            refine (G.out _ Q0.out.sls).mono ?_
            rintro e w1 ⟨rfl, f1⟩
            have Q1 := Lib.hid (Q0.out.non f1)
            clear f1
            obtain ⟨g0, g1, g2, g3, g4, g5, g6, g7, g8, g9, g10, g11, g12⟩ := Q1.out.cells
            dsimp only [Pd.hd, Pd.kids] at g0 g1 g2 g3 g4 g5 g6 g7 g8 g9 g10 g11 g12
            go_wp2_with fail
            refine (N.out _).mono ?_
            rintro e w2 ⟨rfl, f2⟩
            go_wp2
            go_ret
            exact ⟨ret_boolE HE.out.symm, Q1.out.fr.trans f2⟩
        · have hcb : ((cols.length : Int) == 0) = false := by rw [beq_eq_false_iff_ne]; omega
          have HE : Hid (r = false) := Lib.hid (by rw [HE0.out, decide_eq_false hc]; simp)
          clear HE0 N hc
          go_enter Tryd.func31, Tryd.ntmps31
          go_wp2_with fail
          refine (G.out _ Q0.out.sls).mono ?_
          rintro e w1 ⟨rfl, f1⟩
          have Q1 := Lib.hid (Q0.out.non f1)
          clear f1
          obtain ⟨g0, g1, g2, g3, g4, g5, g6, g7, g8, g9, g10, g11, g12⟩ := Q1.out.cells
          dsimp only [Pd.hd, Pd.kids] at g0 g1 g2 g3 g4 g5 g6 g7 g8 g9 g10 g11 g12
          go_wp2
          go_ret
          exact ⟨ret_boolE HE.out.symm, Q1.out.fr⟩
    · have HE : Hid (r = false) := Lib.hid (by rw [HE0.out, decide_eq_false h4]; simp)
      clear HE0 G N
      go_enter Tryd.func31, Tryd.ntmps31
      go_wp2
      go_ret
      exact ⟨ret_boolE HE.out.symm, Q0.out.fr⟩

set_option maxHeartbeats 2000000 in
theorem qmay_any (q : Qy) (c : Value) (s : Kv) (g : Value) (w : World) (hq : QyS w q c s g) (hs : SmQ q) :
    Calls Tryd.prog 13 #[qyV q c s g] w fun e w' => e = .returned (.bool (mayQ q)) ∧ Fr Non w w' := by
  have Q0 := Lib.hid (Qin.new hq)
  have N := Lib.hid (fun W => sname_any q.tab W (by have := hs.tab; omega))
  have P := Lib.hid (fun W (h : QyS W q c s g) => pmay_any q.whr.hd s q.whr.kids W h.kids h.num (by rw [← Pd.eta]; exact hs.lens) (by rw [← Pd.eta]; exact hs.deep))
  rw [← Pd.eta] at P
  have A1 := Lib.hid (fun W (h : QyS W q c s g) => mplain_any q c s g W h hs)
  have A2 := Lib.hid (fun W (h : QyS W q c s g) => mfold_any q c s g W h hs)
  have HE : Hid (mayQ q = (nameB q.tab && (mayP q.whr && (plainQ q || foldQ q)))) := Lib.hid rfl
  generalize mayQ q = r at *
  generalize nameB q.tab = b1 at *
  generalize mayP q.whr = b2 at *
  generalize plainQ q = b3 at *
  generalize foldQ q = b4 at *
  unfold pdV pdC at P
  obtain ⟨cA, cc, hce⟩ := hq.cols.shape
  obtain ⟨gA, gc, hge⟩ := hq.aggs.shape
  clear hq hs
  obtain ⟨tab, cols, ⟨⟨wo, wc, wm, ⟨wn, wi, wt⟩, wk, wp⟩, wks⟩, aggs, by_⟩ := q
  obtain ⟨sA, sn, sc⟩ := s
  dsimp only at hce hge
  subst hce
  subst hge
  unfold qyV qyC kidV at *
  dsimp only [Pd.hd, Pd.kids] at *
  go_enter Tryd.func13, Tryd.ntmps13
  go_wp2_with fail
  refine (N.out _).mono ?_
  rintro e w1 ⟨rfl, f1⟩
  have Q1 := Lib.hid (Q0.out.non f1)
  clear f1
  obtain ⟨g0, g1, g2, g3, g4, g5, g6, g7, g8, g9, g10, g11, g12⟩ := Q1.out.cells
  dsimp only [Pd.hd, Pd.kids] at g0 g1 g2 g3 g4 g5 g6 g7 g8 g9 g10 g11 g12
  cases b1
  · go_wp2
    go_ret
    exact ⟨ret_boolE HE.out.symm, Q1.out.fr⟩
  · go_wp2_with fail
    refine (P.out _ Q1.out.sls).mono ?_
    rintro e w2 ⟨rfl, f2⟩
    have Q2 := Lib.hid (Q1.out.non f2)
    clear f2
    clear g0 g1 g2 g3 g4 g5 g6 g7 g8 g9 g10 g11 g12
    obtain ⟨g0, g1, g2, g3, g4, g5, g6, g7, g8, g9, g10, g11, g12⟩ := Q2.out.cells
    dsimp only [Pd.hd, Pd.kids] at g0 g1 g2 g3 g4 g5 g6 g7 g8 g9 g10 g11 g12
    cases b2
    · go_wp2
      go_ret
      exact ⟨ret_boolE HE.out.symm, Q2.out.fr⟩
    · go_wp2_with fail
      refine (A1.out _ Q2.out.sls).mono ?_
      rintro e w3 ⟨rfl, f3⟩
      have Q3 := Lib.hid (Q2.out.non f3)
      clear f3
      clear g0 g1 g2 g3 g4 g5 g6 g7 g8 g9 g10 g11 g12
      obtain ⟨g0, g1, g2, g3, g4, g5, g6, g7, g8, g9, g10, g11, g12⟩ := Q3.out.cells
      dsimp only [Pd.hd, Pd.kids] at g0 g1 g2 g3 g4 g5 g6 g7 g8 g9 g10 g11 g12
      cases b3
      · go_wp2_with fail
        refine (A2.out _ Q3.out.sls).mono ?_
        rintro e w4 ⟨rfl, f4⟩
        have Q4 := Lib.hid (Q3.out.non f4)
        clear f4
        go_wp2
        go_ret
        exact ⟨ret_boolE HE.out.symm, Q4.out.fr⟩
      · go_wp2
        go_ret
        exact ⟨ret_boolE HE.out.symm, Q3.out.fr⟩
end Go.Proofs.YtibopcceffncpaaDoor


namespace Go.Proofs.YtibopcceffncpaaDoor
set_option linter.unusedVariables false
set_option linter.unusedSimpArgs false
set_option maxRecDepth 100000
open Go.RowKit

def callsL : List Tx := [[], [], [104, 97, 115], [115, 117, 109], [109, 105, 110], [109, 97, 120]]
theorem calls_at (j : Nat) (h : j < callsL.length) : callsL[j] = wordA j := by
  have h7 : j < 6 := h
  match j, h7 with
  | 0, _ => rfl
  | 1, _ => rfl
  | 2, _ => rfl
  | 3, _ => rfl
  | 4, _ => rfl
  | 5, _ => rfl
/-- the variables lie as the program's text lays them -/
structure Lq (w : World) : Prop where
  lp : Lp w
  calls : ∀ j (h : j < callsL.length), w.cell? ⟨0, j, none⟩ = some (.string ⟨callsL[j].toArray⟩)
theorem Lq.non {w w' : World} (h : Lq w) (hf : Fr Non w w') : Lq w' :=
  ⟨h.lp.non hf, fun j hj => (hf.cell (World.block_lt_of_cell? w _ (h.calls j hj)) (fun e => e)).trans (h.calls j hj)⟩

theorem qcall_any (a : Ag) (w : World) (hW : Lq w) (ha : agB a = true) (hl : a.col.length ≤ 100) :
    Calls Tryd.prog 36 #[agV a] w fun e w' => e = .returned (.string ⟨(toldA a).toArray⟩) ∧ Fr Non w w' := by
  have F0 : Fr Non w (w.alloc (.cells #[.int .i64 a.op, .string ⟨a.col.toArray⟩] 36)) := (Fr.refl Non w).alloc _
  have B0 := ag_new w _ a rfl
  have HW := Lib.hid (hW.non F0)
  have HF := Lib.hid F0
  have HA := ag_is ha
  have HE0 : Hid (toldA a = if a.op = 1 then [99, 111, 117, 110, 116, 40, 42, 41] else wordA a.op ++ [40] ++ a.col ++ [41]) := Lib.hid rfl
  clear hW ha F0
  obtain ⟨o, c⟩ := a
  unfold agV
  dsimp only at *
  generalize toldA _ = r at *
  rcases HA with ⟨h1, h2⟩ | ⟨h1, h2, h3, -⟩
  · subst h1
    subst h2
    have HE := Lib.hid (HE0.out.trans (if_pos rfl))
    clear HE0 HW B0
    go_enter Tryd.func36, Tryd.ntmps36
    go_wp2
    go_ret
    exact ⟨strE (by rw [HE.out] <;> simp), HF.out⟩
  · have hb1 : (o == 1) = false := by rw [beq_eq_false_iff_ne]; exact h1
    have HE := Lib.hid (HE0.out.trans (if_neg h1))
    obtain ⟨j, rfl⟩ : ∃ j : Nat, o = (j : Int) := ⟨o.toNat, by omega⟩
    have hj : j < 6 := by omega
    have hj7 : (j : Int) < 6 := by omega
    have hmk := HW.out.calls j hj
    rw [calls_at j hj] at hmk
    have hwl : (wordA (j : Int)).length ≤ 3 := by
      unfold wordA
      split
      · decide
      · split
        · decide
        · split
          · decide
          · split <;> decide
    clear HE0 h1
    generalize wordA (j : Int) = mk at *
    obtain ⟨q0, q1⟩ := agB_cells B0
    have s1 := fun W => sadd mk [40] (by simp; omega) W
    have s2 := fun W => sadd (mk ++ [40]) c (by simp; omega) W
    have s3 := fun W => sadd (mk ++ [40] ++ c) [41] (by simp; omega) W
    have s4 := fun W => sadd (mk ++ 40 :: c) [41] (by simp; omega) W
    clear B0
    go_enter Tryd.func36, Tryd.ntmps36
    go_wp2
    go_quiet (fail)
    go_wp2
    go_ret
    exact ⟨strE (by rw [HE.out] <;> simp), HF.out.drewN _⟩

theorem cloneS_any (v : Value) (l : List Tx) (w : World) (h : Vs sv w v l) (hl : l.length < 1000000000) :
    Calls Tryd.prog 35 #[v] w fun e w' => ∃ u, e = .returned u ∧ Ow sv 9 w' w.heap.size u l ∧ Fr Non w w' := by
  have HB := Lib.hid h
  have hq := fun (W : World) (a : Option Addr) (n c : Nat) => Lib.run_eql_slice_nil (P := Tryd.prog) W 22 9 a n c 0 0 Tryd.underlying22
  obtain ⟨A, c, rfl, hlc, hn, _⟩ := h
  cases A with
  | none =>
    have hc : c = 0 := hn rfl
    subst hc
    have hl0 : l = [] := List.eq_nil_of_length_eq_zero (by omega)
    subst hl0
    go_enter Tryd.func35, Tryd.ntmps35
    go_wp2
    go_ret
    exact ⟨_, rfl, ow_nil _ _, Fr.refl _ _⟩
  | some a =>
    clear hn
    go_enter Tryd.func35, Tryd.ntmps35
    go_wp2_with (at_builtin; refine wpList_appG el_str sv_one rfl (.tmp 5) (.tmp 6) rfl w.heap.size (.slice (some ⟨w.heap.size, 0, none⟩) 0 0) (.slice (some a) l.length c) [] l rfl (ow_lit0 _ _ _ rfl (Nat.le_refl _)) rfl (HB.out.non ((Fr.refl _ _).alloc _)) (by simp; omega) (by simp) ?_; intro v3 w3 hown hf3)
    go_ret
    refine ⟨_, rfl, by simpa using hown, ((Fr.refl Non w).alloc _).fresh hf3 (fun k hk => by simp [Value.ownBlock] at hk; omega)⟩

theorem wants_any (q : Qy) (c : Value) (s : Kv) (g : Value) (w : World) (hq : QyS w q c s g) (hs : SmQ q) :
    Calls Tryd.prog 14 #[qyV q c s g] w fun e w' => e = .returned (.bool (allQ q)) ∧ Fr Non w w' := by
  have Q0 := Lib.hid (Qin.new hq)
  have HE0 : Hid (allQ q = (decide (q.cols.length = 0) && decide (q.aggs.length = 0))) := Lib.hid rfl
  have hlc := hs.cols
  have hlg := hs.aggs
  generalize allQ q = r at *
  obtain ⟨cA, cc, hce⟩ := hq.cols.shape
  obtain ⟨gA, gc, hge⟩ := hq.aggs.shape
  clear hq hs
  obtain ⟨tab, cols, ⟨⟨wo, wc, wm, ⟨wn, wi, wt⟩, wk, wp⟩, wks⟩, aggs, by_⟩ := q
  obtain ⟨sA, sn, sc⟩ := s
  dsimp only at hce hge
  subst hce
  subst hge
  unfold qyV qyC kidV at *
  dsimp only [Pd.hd, Pd.kids] at *
  by_cases hc : cols.length = 0
  · have hcb : ((cols.length : Int) == 0) = true := by rw [beq_iff_eq]; omega
    by_cases hg : aggs.length = 0
    · have hgb : ((aggs.length : Int) == 0) = true := by rw [beq_iff_eq]; omega
      have HE : Hid (r = true) := Lib.hid (by rw [HE0.out, decide_eq_true hc, decide_eq_true hg]; rfl)
      clear HE0 hc hg
      go_enter Tryd.func14, Tryd.ntmps14
      go_wp2
      go_ret
      exact ⟨ret_boolE HE.out.symm, Q0.out.fr⟩
    · have hgb : ((aggs.length : Int) == 0) = false := by rw [beq_eq_false_iff_ne]; omega
      have HE : Hid (r = false) := Lib.hid (by rw [HE0.out, decide_eq_true hc, decide_eq_false hg]; rfl)
      clear HE0 hc hg
      go_enter Tryd.func14, Tryd.ntmps14
      go_wp2
      go_ret
      exact ⟨ret_boolE HE.out.symm, Q0.out.fr⟩
  · have hcb : ((cols.length : Int) == 0) = false := by rw [beq_eq_false_iff_ne]; omega
    have HE : Hid (r = false) := Lib.hid (by rw [HE0.out, decide_eq_false hc]; rfl)
    clear HE0 hc
    go_enter Tryd.func14, Tryd.ntmps14
    go_wp2
    go_ret
    exact ⟨ret_boolE HE.out.symm, Q0.out.fr⟩

theorem told_more {q : List Tx} {l : List Ag} {k : Nat} (h : k < l.length) : q ++ (l.take (k + 1)).map toldA = (q ++ (l.take k).map toldA) ++ [toldA l[k]] := by
  rw [List.take_succ_eq_append_getElem h, List.map_append, List.append_assoc]; rfl
set_option maxHeartbeats 1000000 in
theorem asked_any (q : Qy) (c : Value) (s : Kv) (g : Value) (w : World) (hq : QyS w q c s g) (hs : SmQ q) (hW : Lq w) (ha : ∀ a ∈ q.aggs, agB a = true) :
    Calls Tryd.prog 16 #[qyV q c s g] w fun e w' => ∃ v, e = .returned v ∧ Ow sv 9 w' w.heap.size v (askedQ q) ∧ Fr Non w w' := by
  have Q0 := Lib.hid (Qin.new hq)
  have C1 := Lib.hid (fun W (h : QyS W q c s g) => cloneS_any c q.cols W h.cols (by have := hs.cols; omega))
  have CA := Lib.hid (fun k (h : k < q.aggs.length) W (hf : Fr Non w W) => qcall_any q.aggs[k] W (hW.non hf) (ha _ (List.getElem_mem h)) (hs.acol _ (List.getElem_mem h)))
  have HE0 : Hid (askedQ q = q.cols ++ (q.aggs.map toldA)) := Lib.hid rfl
  have hlc := hs.cols
  have hlg := hs.aggs
  generalize askedQ q = r at *
  have HS := Lib.hid hq
  clear ha hW
  obtain ⟨cA, cc, hce⟩ := hq.cols.shape
  obtain ⟨gA, gc, hge⟩ := hq.aggs.shape
  clear hq hs
  obtain ⟨tab, cols, ⟨⟨wo, wc, wm, ⟨wn, wi, wt⟩, wk, wp⟩, wks⟩, aggs, by_⟩ := q
  obtain ⟨sA, sn, sc⟩ := s
  dsimp only at hce hge
  subst hce
  subst hge
  unfold qyV qyC kidV at *
  dsimp only [Pd.hd, Pd.kids] at *
  go_enter Tryd.func16, Tryd.ntmps16
  go_wp2_with fail
  refine (C1.out _ Q0.out.sls).mono ?_
  rintro e w1 ⟨u1, rfl, ho1, f1⟩
  have Q1 := Lib.hid (Q0.out.non f1)
  have HO1 : Hid (Ow sv 9 w1 w.heap.size u1 (cols ++ (aggs.take 0).map toldA)) := Lib.hid (by simpa using ho1.mono (Q0.out.fr.size))
  clear f1 ho1
  obtain ⟨g0, g1, g2, g3, g4, g5, g6, g7, g8, g9, g10, g11, g12⟩ := Q1.out.cells
  dsimp only [Pd.hd, Pd.kids] at g0 g1 g2 g3 g4 g5 g6 g7 g8 g9 g10 g11 g12
  go_wp2
  clear g0 g1 g2 g3 g4 g5 g6 g7 g8 g9 g10 g11 g12
  go_loopw [3, 12] (fun u i wr => ∃ k : Nat, k ≤ aggs.length ∧ i = .int .i64 k ∧ Hid (Ow sv 9 wr w.heap.size u (cols ++ (aggs.take k).map toldA)) ∧ Hid (Fr Non w wr)) (fun _ i _ => aggs.length - (intOf i).toNat)
  case atStart => exact ⟨0, Nat.zero_le _, rfl, HO1, Lib.hid Q1.out.fr⟩
  case round =>
    clear HO1 Q0 Q1
    rename_i u i wr
    obtain ⟨k, hk, rfl, HO, FR⟩ := hrel
    obtain ⟨uA, uc, hue⟩ := HO.out.shape
    have hlk : (cols ++ (aggs.take k).map toldA).length ≤ 40 := by rw [List.length_append, List.length_map, List.length_take]; omega
    generalize hun : (cols ++ (aggs.take k).map toldA).length = un at *
    subst hue
    by_cases hlt : k < aggs.length
    · obtain ⟨a, rfl, _, d0, d1⟩ := Ns.gat (HS.out.aggs.non FR.out) k hlt
      have HY := Lib.hid (told_more (q := cols) hlt)
      have M := CA.out k hlt
      dsimp only at d0 d1 M
      generalize hx : aggs[k] = x at *
      clear hx
      obtain ⟨xo, xn⟩ := x
      unfold agV at M
      dsimp only at d0 d1 HY M
      replace M := Lib.hid M
      generalize toldA ⟨xo, xn⟩ = y at *
      generalize cols ++ (aggs.take k).map toldA = tl at *
      have HLK := Lib.hid (show tl.length ≤ 40 by omega)
      clear hun hlk
      have G1 := Lib.hid ((Fr.refl Non wr).alloc (.cells #[.int .i64 xo, .string ⟨xn.toArray⟩] 36))
      go_wp2_with fail
      refine (M.out _ (FR.out.trans G1.out)).mono ?_
      rintro e w2 ⟨rfl, f2⟩
      have F2 := Lib.hid (G1.out.trans f2)
      have FW := Lib.hid (FR.out.trans F2.out)
      have hO2 := Lib.hid (HO.out.non F2.out)
      have hsz : w.heap.size ≤ w2.heap.size := FW.out.size
      clear f2
      go_wp2_with (at_builtin; refine wpList_pushG el_str sv_one rfl (.tmp 16) (.tmp 19) rfl w.heap.size _ tl rfl hO2.out _ y rfl rfl (by have := HLK.out; omega) hsz ?_; intro v3 w3 hown3 hfr3)
      have HO3 := Lib.hid hown3
      have F3 : Hid (Fr Non w w3) := Lib.hid (FW.out.fresh hfr3 (fun q hq => (hO2.out.lt q hq).1))
      clear hown3 hfr3
      go_roundw
      case rel => exact ⟨k + 1, by omega, by go_num, by rw [HY.out]; exact HO3, F3⟩
      case measure => simp [intOf]; omega
    · have hT : aggs.take k = aggs := List.take_of_length_le (by omega)
      rw [hT, ← HE0.out] at HO
      go_wp2
      go_ret
      exact ⟨_, rfl, HO.out, FR.out⟩
end Go.Proofs.YtibopcceffncpaaDoor
