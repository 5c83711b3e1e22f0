/-
  Joined: Layer 17: the document's May, Small, typed, Fits. · Layer 18: which queries there may be, the program's: the document's. · Layer 19: the document's Query. · Layer 17: whether two are the same, both programs'. · Layer 18: which queries there may be, the program's: whether two queries are the same, both programs'. · Layer 19: the program's Where. · Layer 19: the walk of ParseWhere. · A region that draws, walked by hand: what all steps keep, made stronger midway.
-/
import Derived.Laws.StructEq
import Derived.Laws.Rows
import Derived.Laws.ResultCell
import Derived.Lib.Zigzag
import Derived.Laws.Cover1
import Derived.Deep.QuietTactic
import Derived.BigQuiet
import Derived.Deep.RegionHeld3
import Derived.Deep.DrawnRows
import Derived.Deep.Cut
import Derived.StillTail
import Derived.Deep.RegionWith
import Derived.Test.YtipgaafgnefmdaaGreatDoorZ8
import Derived.Test.YtipgaafgnefmdaaGreatDoorZ6
import Derived.Deep.CutRange
import Derived.Test.YtipgaafgnefmdaaGreatDoorZ4
import Derived.Test.YtipgaafgnefmdaaGreatDoorZ1

namespace Go.Proofs.YtipgaafgnefmdaaGreatDoor
set_option linter.unusedVariables false
set_option linter.unusedSimpArgs false
set_option maxRecDepth 100000
open Go.RowKit

set_option maxHeartbeats 2000000 in
theorem rpmay_big (h : Ph) (t : Kv) (ks : List Pd) (w : World) (hk : Kd w t ks) (hlen : bigP (.mk h ks) = true) :
    Calls Tryz.prog 33 #[pdV h t] w fun e w' => e = .returned (.bool (mayP (.mk h ks))) ∧ Fr Non w w' := by
  have F0 : Fr Non w (w.alloc (.cells (pdC h t) 28)) := (Fr.refl Non w).alloc _
  have HM := Lib.hid (may_size (.mk h ks))
  have C1 := rsize_any (.mk h ks) t 16 6 6 _ rfl (hk.non F0) hlen (by omega) (by omega) (by omega)
  have C2 := Lib.hid (fun W hk => ronep_any (.mk h ks) t W hk hlen)
  have PB := Lib.hid (pd_new w _ h t rfl)
  have hs := (size_is (.mk h ks) 16 6 (by omega)).2.2
  generalize sizeP (.mk h ks) 16 6 = z at *
  generalize mayP (.mk h ks) = r at *
  generalize oneP (.mk h ks) = b at *
  dsimp only [Pd.hd, Pd.kids] at C1 C2
  have C1 := Lib.hid C1
  have HK := Lib.hid (hk.non F0)
  have F0 := Lib.hid F0
  clear hk hlen
  obtain ⟨ho, hc, hm, ⟨vn, vi, vt⟩, hkd, hp⟩ := h
  obtain ⟨A, nn, c⟩ := t
  unfold pdV pdC kidV at *
  dsimp only at *
  by_cases h16 : z ≤ 16
  · have HE : Hid (r = b) := Lib.hid (by rw [← HM.out, decide_eq_true h16]; rfl)
    clear HM
    go_enter Tryz.func33, Tryz.ntmps33
    go_wp2_with fail
    refine C1.out.mono ?_
    rintro e w1 ⟨rfl, f1⟩
    obtain ⟨g0, g1, g2, g3, g4, g5, g6, g7, g8⟩ := pdB_cells (PB.out.fr f1 (fun e => e))
    dsimp only at g0 g1 g2 g3 g4 g5 g6 g7 g8
    have HK1 := Lib.hid (HK.out.non f1)
    have F1 := Lib.hid (F0.out.trans f1)
    clear f1
    go_wp2_with fail
    refine (C2.out _ HK1.out).mono ?_
    rintro e w2 ⟨rfl, f2⟩
    go_wp2
    go_ret
    exact ⟨ret_boolE HE.out.symm, F1.out.trans f2⟩
  · have HE : Hid (r = false) := Lib.hid (by rw [← HM.out, decide_eq_false h16]; rfl)
    clear HM
    go_enter Tryz.func33, Tryz.ntmps33
    go_wp2_with fail
    refine C1.out.mono ?_
    rintro e w1 ⟨rfl, f1⟩
    go_wp2
    go_ret
    exact ⟨ret_boolE HE.out.symm, F0.out.trans f1⟩

theorem rpmay_any (h : Ph) (t : Kv) (ks : List Pd) (w : World) (hk : Kd w t ks) (hlen : lenP (.mk h ks) = true) :
    Calls Tryz.prog 33 #[pdV h t] w fun e w' => e = .returned (.bool (mayP (.mk h ks))) ∧ Fr Non w w' := rpmay_big h t ks w hk (big_of_len _ hlen)

/-! ### Small -/
theorem lenP_is (h : Ph) (ks : List Pd) : lenP (.mk h ks) = (lenH h ks.length && ks.all lenP) := by rw [lenP, lenL_all]
theorem depL_is {ks : List Pd} {m : Nat} (h : ∀ x ∈ ks, depP x ≤ m) : depL ks ≤ m := by
  induction ks with
  | nil => rw [depL]; omega
  | cons x r ih => rw [depL]; have := h x (List.mem_cons_self ..); have := ih (fun y hy => h y (List.mem_cons_of_mem _ hy)); omega
/-- yes only if P -/
def SmEnd (P : Prop) (e : Ending) : Prop := ∃ b, e = .returned (.bool b) ∧ (b = true → P)
set_option maxHeartbeats 4000000 in
theorem rpsmall_any (p : Pd) : ∀ (t : Kv) (m : Nat) (mz : Int) (w : World), mz = m → m ≤ 1000 → Kd w t p.kids →
    Calls Tryz.prog 35 #[pdV p.hd t, .int .i64 mz] w fun e w' => SmEnd (lenP p = true ∧ depP p ≤ m) e ∧ Fr Non w w' := by
  induction p using Pd.ind with
  | h hd ks ih =>
    intro t m mz w hmz hm1 hk
    subst hmz
    have hn : t.n = ks.length := hk.len
    have F0 : Fr Non w (w.alloc (.cells (pdC hd t) 28)) := (Fr.refl Non w).alloc _
    have HB := Lib.hid (pd_new w _ hd t rfl)
    have HE : Hid (lenH hd ks.length = true → 1 ≤ m → (∀ j (h : j < ks.length), lenP ks[j] = true ∧ depP ks[j] ≤ m - 1) → lenP (.mk hd ks) = true ∧ depP (.mk hd ks) ≤ m) := Lib.hid (fun a b c => by
      refine ⟨?_, ?_⟩
      · rw [lenP_is, a, Bool.true_and, List.all_eq_true]
        intro x hx
        obtain ⟨j, hj, rfl⟩ := List.mem_iff_getElem.1 hx
        exact (c j hj).1
      · have : depL ks ≤ m - 1 := depL_is (fun x hx => by obtain ⟨j, hj, rfl⟩ := List.mem_iff_getElem.1 hx; exact (c j hj).2)
        rw [depP]; omega)
    have IH : Hid (1 ≤ m → ∀ k (h : k < ks.length) (W : World) (t' : Kv), Kd W t' ks[k].kids →
        Calls Tryz.prog 35 #[pdV ks[k].hd t', .int .i64 ((m : Int) - 1)] W fun e w' => SmEnd (lenP ks[k] = true ∧ depP ks[k] ≤ m - 1) e ∧ Fr Non W w') :=
      Lib.hid (fun h1 k h W t' a => ih _ (List.getElem_mem h) t' (m - 1) _ W (by omega) (by omega) a)
    have HK : Hid (Kd w t ks) := Lib.hid hk
    have HF := Lib.hid F0
    have HLH : Hid (∀ a b c d, a = hd.col.length → b = hd.pat.length → c = hd.val.txt.length → d = ks.length → d ≤ 20 → a ≤ 100 → b ≤ 100 → c ≤ 100 → lenH hd ks.length = true) := Lib.hid (fun a b c d e1 e2 e3 e4 h1 h2 h3 h4 => by unfold lenH; exact decide_eq_true ⟨by omega, by omega, by omega, by omega⟩)
    generalize lenH hd ks.length = lh at *
    generalize lenP (.mk hd ks) = r at *
    generalize depP (.mk hd ks) = dd at *
    clear ih hk F0
    obtain ⟨ho, hc, hm, ⟨vn, vi, vt⟩, hkd, hp⟩ := hd
    obtain ⟨A, n, c⟩ := t
    dsimp only at hn
    have HL := Lib.hid hn
    have s1 := slen hc
    have s2 := slen hp
    have s3 := slen vt
    dsimp only at HLH
    unfold pdV pdC kidV
    dsimp only [Pd.hd, Pd.kids]
    clear hn
    by_cases h1 : m < 1
    · clear HE IH HLH
      go_enter Tryz.func35, Tryz.ntmps35
      go_wp2
      go_ret
      exact ⟨⟨_, rfl, fun h => by cases h⟩, HF.out⟩
    · have IH := Lib.hid (IH.out (by omega))
      by_cases h2 : 20 < n
      · clear HE IH HLH
        go_enter Tryz.func35, Tryz.ntmps35
        go_wp2
        go_ret
        exact ⟨⟨_, rfl, fun h => by cases h⟩, HF.out⟩
      · by_cases h3 : 100 < hc.length
        · clear HE IH HLH
          go_enter Tryz.func35, Tryz.ntmps35
          go_wp2
          go_ret
          exact ⟨⟨_, rfl, fun h => by cases h⟩, HF.out⟩
        · by_cases h4 : 100 < hp.length
          · clear HE IH HLH
            go_enter Tryz.func35, Tryz.ntmps35
            go_wp2
            go_ret
            exact ⟨⟨_, rfl, fun h => by cases h⟩, HF.out⟩
          · by_cases h5 : 100 < vt.length
            · clear HE IH HLH
              go_enter Tryz.func35, Tryz.ntmps35
              go_wp2
              go_ret
              exact ⟨⟨_, rfl, fun h => by cases h⟩, HF.out⟩
            · have HE1 := Lib.hid (HE.out (HLH.out _ _ _ n rfl rfl rfl HL.out (by omega) (by omega) (by omega) (by omega)) (by omega))
              clear HE HLH
              go_enter Tryz.func35, Tryz.ntmps35
              go_wp2
              go_loopw [5] (fun i wr => ∃ k : Nat, k ≤ n ∧ i = .int .i64 k ∧ Hid (∀ j (h : j < ks.length), j < k → lenP ks[j] = true ∧ depP ks[j] ≤ m - 1) ∧ Hid (Fr Non (w.alloc (.cells (pdC ⟨ho, hc, hm, ⟨vn, vi, vt⟩, hkd, hp⟩ ⟨A, n, c⟩) 28)) wr)) (fun i _ => n - (intOf i).toNat)
              case atStart => exact ⟨0, Nat.zero_le _, rfl, Lib.hid (fun _ _ h => by omega), Lib.hid (Fr.refl _ _)⟩
              case round =>
                obtain ⟨k, hk, rfl, HT, FR⟩ := hrel
                have b8 := (HB.out.fr FR.out (fun e => e)).cell 8
                simp [pdC, kidV] at b8
                have HFw := Lib.hid (HF.out.trans FR.out)
                by_cases hlt : k < n
                · have hlt2 : k < ks.length := by have := HL.out; omega
                  obtain ⟨a, t, hA, hc2, hkk, _⟩ := HK.out.elN HFw.out k hlt2
                  have HC := Lib.hid (IH.out k hlt2 wr t (hkk.non HFw.out))
                  have HY : Hid (lenP ks[k] = true ∧ depP ks[k] ≤ m - 1 → ∀ j (h : j < ks.length), j < k + 1 → lenP ks[j] = true ∧ depP ks[j] ≤ m - 1) := Lib.hid (fun e j hj hjk => by
                    by_cases ee : j = k
                    · subst ee; exact e
                    · exact HT.out j hj (by omega))
                  dsimp only at hA
                  subst hA
                  obtain ⟨c0, c1, c2, c3, c4, c5, c6, c7, c8⟩ := hc2
                  clear hkk HT
                  generalize lenP ks[k] = y1 at *
                  generalize depP ks[k] = y2 at *
                  generalize ks[k].hd = x at *
                  obtain ⟨xo, xc, xm, ⟨xn, xi, xt⟩, xk, xp⟩ := x
                  obtain ⟨tA, tn, tc⟩ := t
                  unfold pdV pdC kidV at HC
                  dsimp only at HC c0 c1 c2 c3 c4 c5 c6 c7 c8
                  go_wp2_with fail
                  refine HC.out.mono ?_
                  rintro e w2 ⟨⟨b, rfl, hb⟩, f2⟩
                  have HB2 := Lib.hid hb
                  clear hb
                  cases b
                  · go_wp2
                    go_ret
                    exact ⟨⟨_, rfl, fun h => by cases h⟩, HFw.out.trans f2⟩
                  · have HT := Lib.hid (HY.out (HB2.out rfl))
                    clear HB2 HY
                    go_wp2
                    go_roundw
                    case rel => exact ⟨k + 1, by omega, by go_num, HT, Lib.hid (FR.out.trans f2)⟩
                    case measure => simp [intOf]; omega
                · have HE2 := Lib.hid (HE1.out (fun j hj => HT.out j hj (by have := HL.out; omega)))
                  clear HE1 HT
                  go_wp2
                  go_ret
                  exact ⟨⟨_, rfl, fun _ => HE2.out⟩, HFw.out⟩
end Go.Proofs.YtipgaafgnefmdaaGreatDoor


namespace Go.Proofs.YtipgaafgnefmdaaGreatDoor
set_option linter.unusedVariables false
set_option linter.unusedSimpArgs false
set_option maxRecDepth 100000
open Go.RowKit

theorem rag_any (a : Ag) (w : World) (hl : a.col.length ≤ 1000000000) :
    Calls Tryz.prog 37 #[agV a] w fun e w' => e = .returned (.bool (agB a)) ∧ Fr Non w w' := by
  have N := fun W => rname_any a.col W hl
  have HF : Hid (Fr Non w (w.alloc (.cells #[.int .i64 a.op, .string ⟨a.col.toArray⟩] 69))) := Lib.hid ((Fr.refl Non w).alloc _)
  have HE0 : Hid (agB a = if a.op = 1 then decide (a.col = []) else decide (2 ≤ a.op ∧ a.op ≤ 5) && nameB a.col) := Lib.hid rfl
  obtain ⟨o, c⟩ := a
  unfold agV
  dsimp only at *
  generalize agB _ = r at *
  by_cases h1 : o = 1
  · subst h1
    clear N
    by_cases h0 : c = []
    · subst h0
      have HE : Hid (r = true) := Lib.hid (by rw [HE0.out]; rfl)
      clear HE0
      go_enter Tryz.func37, Tryz.ntmps37
      go_wp2
      go_ret
      exact ⟨ret_boolE HE.out.symm, HF.out⟩
    · have hb : (c == []) = false := by rw [beq_eq_false_iff_ne]; exact h0
      have HE : Hid (r = false) := Lib.hid (by rw [HE0.out, if_pos rfl]; exact decide_eq_false h0)
      clear HE0 h0
      go_enter Tryz.func37, Tryz.ntmps37
      go_wp2
      go_ret
      exact ⟨ret_boolE HE.out.symm, HF.out⟩
  · have hb1 : (o == 1) = false := by rw [beq_eq_false_iff_ne]; exact h1
    by_cases h2 : o < 2
    · have HE : Hid (r = false) := Lib.hid (by rw [HE0.out, if_neg h1, decide_eq_false (by omega)]; rfl)
      clear HE0 N
      go_enter Tryz.func37, Tryz.ntmps37
      go_wp2
      go_ret
      exact ⟨ret_boolE HE.out.symm, HF.out⟩
    · by_cases h5 : 5 < o
      · have HE : Hid (r = false) := Lib.hid (by rw [HE0.out, if_neg h1, decide_eq_false (by omega)]; rfl)
        clear HE0 N
        go_enter Tryz.func37, Tryz.ntmps37
        go_wp2
        go_ret
        exact ⟨ret_boolE HE.out.symm, HF.out⟩
      · have HE : Hid (r = nameB c) := Lib.hid (by rw [HE0.out, if_neg h1, decide_eq_true (by omega)]; rfl)
        generalize nameB c = b at *
        clear HE0
        replace N := Lib.hid N
        go_enter Tryz.func37, Tryz.ntmps37
        go_wp2_with fail
        refine (N.out _).mono ?_
        rintro e w1 ⟨rfl, f1⟩
        go_wp2
        go_ret
        exact ⟨ret_boolE HE.out.symm, HF.out.trans f1⟩

theorem all_moreG {α : Type} {p : α → Bool} {l : List α} {k : Nat} (h : k < l.length) (h1 : (l.take k).all p = true) (h2 : p l[k] = true) : (l.take (k + 1)).all p = true := by
  rw [List.take_succ_eq_append_getElem h, List.all_append, h1]; simp [h2]
theorem all_badG {α : Type} {p : α → Bool} {l : List α} {k : Nat} (h : k < l.length) (h2 : p l[k] = false) : l.all p = false := by
  rw [List.all_eq_false]; exact ⟨_, List.getElem_mem h, by rw [h2]; simp⟩
theorem all_endG {α : Type} {p : α → Bool} {l : List α} {k : Nat} (h : l.length ≤ k) (h1 : (l.take k).all p = true) : l.all p = true := by rwa [List.take_of_length_le h] at h1
theorem not_in {l : List Tx} {k : Nat} (h : k < l.length) (hn : ∀ j (hj : j < l.length), j < k → l[j] ≠ l[k]) : ¬ l[k] ∈ l.take k := by
  intro hm
  obtain ⟨j, hj, e⟩ := List.mem_iff_getElem.1 hm
  rw [List.length_take] at hj
  rw [List.getElem_take] at e
  exact hn j (by omega) (by omega) e
theorem is_in {l : List Tx} {k j : Nat} (h : k < l.length) (hj : j < k) (e : l[j] = l[k]) : l[k] ∈ l.take k := by
  rw [← e]
  exact List.mem_iff_getElem.2 ⟨j, by rw [List.length_take]; omega, by rw [List.getElem_take]⟩
set_option maxHeartbeats 2000000 in
theorem rqmay_big (q : Qy) (c : Value) (s : Kv) (g : Value) (w : World) (hq : QyS w q c s g) (hs : BgQ q) :
    Calls Tryz.prog 15 #[qyV q c s g] w fun e w' => e = .returned (.bool (mayQ q)) ∧ Fr Non w w' := by
  have Q0 := Lib.hid (Qin.new hq)
  have N := Lib.hid (fun W => rname_any q.tab W (by have := hs.tab; omega))
  have NB := Lib.hid (fun W => rname_any q.by_ W (by have := hs.by_; omega))
  have NC := Lib.hid (fun k (h : k < q.cols.length) W => rname_any q.cols[k] W (by have := hs.names _ (List.getElem_mem h); omega))
  have GA := Lib.hid (fun k (h : k < q.aggs.length) W => rag_any q.aggs[k] W (by have := hs.acol _ (List.getElem_mem h); omega))
  have P := Lib.hid (fun W (h : QyS W q c s g) => rpmay_big q.whr.hd s q.whr.kids W h.kids (by rw [← Pd.eta]; exact hs.lens))
  rw [← Pd.eta] at P
  have HE0 : Hid (mayQ q = (nameB q.tab && (mayP q.whr && (decide (q.cols.length ≤ 6 ∧ q.aggs.length ≤ 4) && (unlB q.cols && (if q.aggs.length = 0 then decide (q.by_ = []) else q.aggs.all agB && (decide (q.cols.length = 0) && (decide (q.by_ = []) || nameB q.by_)))))))) := Lib.hid (may_doc q)
  generalize mayQ q = r at *
  generalize nameB q.tab = b1 at *
  generalize mayP q.whr = b2 at *
  generalize nameB q.by_ = bn at *
  have hlc := hs.cols
  have hlg := hs.aggs
  unfold pdV pdC at P
  obtain ⟨cA, cc, hce⟩ := hq.cols.shape
  obtain ⟨gA, gc, hge⟩ := hq.aggs.shape
  clear hq hs
  obtain ⟨tab, cols, ⟨⟨wo, wc, wm, ⟨wn, wi, wt⟩, wk, wp⟩, wks⟩, aggs, by_⟩ := q
  obtain ⟨sA, sn, sc⟩ := s
  dsimp only at hce hge
  subst hce
  subst hge
  unfold qyV qyC kidV at *
  dsimp only [Pd.hd, Pd.kids] at *
  go_enter Tryz.func15, Tryz.ntmps15
  go_wp2_with fail
  refine (N.out _).mono ?_
  rintro e w1 ⟨rfl, f1⟩
  have Q1 := Lib.hid (Q0.out.non f1)
  clear f1
  cases b1
  · have HE : Hid (r = false) := Lib.hid (by rw [HE0.out]; rfl)
    clear HE0
    go_wp2
    go_ret
    exact ⟨ret_boolE HE.out.symm, Q1.out.fr⟩
  · obtain ⟨g0, g1, g2, g3, g4, g5, g6, g7, g8, g9, g10, g11, g12⟩ := Q1.out.cells
    dsimp only [Pd.hd, Pd.kids] at g0 g1 g2 g3 g4 g5 g6 g7 g8 g9 g10 g11 g12
    go_wp2_with fail
    refine (P.out _ Q1.out.sls).mono ?_
    rintro e w2 ⟨rfl, f2⟩
    have Q2 := Lib.hid (Q1.out.non f2)
    clear f2
    clear g0 g1 g2 g3 g4 g5 g6 g7 g8 g9 g10 g11 g12
    obtain ⟨g0, g1, g2, g3, g4, g5, g6, g7, g8, g9, g10, g11, g12⟩ := Q2.out.cells
    dsimp only [Pd.hd, Pd.kids] at g0 g1 g2 g3 g4 g5 g6 g7 g8 g9 g10 g11 g12
    cases b2
    · have HE : Hid (r = false) := Lib.hid (by rw [HE0.out]; rfl)
      clear HE0
      go_wp2
      go_ret
      exact ⟨ret_boolE HE.out.symm, Q2.out.fr⟩
    · by_cases h6 : 6 < cols.length
      · have HE : Hid (r = false) := Lib.hid (by rw [HE0.out, decide_eq_false (by omega)]; rfl)
        clear HE0
        go_wp2
        go_ret
        exact ⟨ret_boolE HE.out.symm, Q2.out.fr⟩
      · by_cases h4 : 4 < aggs.length
        · have HE : Hid (r = false) := Lib.hid (by rw [HE0.out, decide_eq_false (by omega)]; rfl)
          clear HE0
          go_wp2
          go_ret
          exact ⟨ret_boolE HE.out.symm, Q2.out.fr⟩
        · have HU : Hid (unlB cols = false → r = false) := Lib.hid (fun e => by rw [HE0.out, e]; simp)
          have HE1 : Hid (unlB cols = true → r = (if aggs.length = 0 then decide (by_ = []) else aggs.all agB && (decide (cols.length = 0) && (decide (by_ = []) || bn)))) := Lib.hid (fun e => by rw [HE0.out, e, decide_eq_true (by omega)]; rfl)
          clear HE0 N P
          go_wp2
          clear g0 g1 g2 g3 g4 g5 g6 g7 g8 g9 g10 g11 g12
          go_loopw [3] (fun i wr => ∃ k : Nat, k ≤ cols.length ∧ i = .int .i64 k ∧ Hid (unlK cols k) ∧ Hid (Qin w w.heap.size ⟨tab, cols, ⟨⟨wo, wc, wm, ⟨wn, wi, wt⟩, wk, wp⟩, wks⟩, aggs, by_⟩ (.slice cA cols.length cc) ⟨sA, sn, sc⟩ (.slice gA aggs.length gc) wr)) (fun i _ => cols.length - (intOf i).toNat)
          case atStart => exact ⟨0, Nat.zero_le _, rfl, Lib.hid (unlK_zero _), Q2⟩
          case round =>
            clear Q0 Q1 Q2
            obtain ⟨k, hk, rfl, HT, QR⟩ := hrel
            obtain ⟨g0, g1, g2, g3, g4, g5, g6, g7, g8, g9, g10, g11, g12⟩ := QR.out.cells
            dsimp only [Pd.hd, Pd.kids] at g0 g1 g2 g3 g4 g5 g6 g7 g8 g9 g10 g11 g12
            by_cases hlt : k < cols.length
            · obtain ⟨a, rfl, _, hcc, hel⟩ := QR.out.sls.cols.addr (show 0 < cols.length by omega)
              have c0 := hel k hlt
              unfold sv at c0
              have HX := Lib.hid (fun e => HU.out (unl_bad hlt e))
              have HX2 : Hid (∀ j (hj : j < cols.length), j < k → cols[j] = cols[k] → r = false) := Lib.hid (fun j _ hj e => HU.out (unl_dup hlt (is_in hlt hj e)))
              have HY := Lib.hid (fun e e2 => unlK_more hlt HT.out e (not_in hlt e2))
              have NK := Lib.hid (NC.out k hlt)
              clear HT hel
              generalize hy : cols[k] = y at *
              have HYE := Lib.hid hy
              clear hy
              cases hn : nameB y
              · have HE := Lib.hid (HX.out hn)
                rw [hn] at NK
                clear HX HX2 HY hn
                go_wp2_with fail
                refine (NK.out _).mono ?_
                rintro e w3 ⟨rfl, f3⟩
                go_wp2
                go_ret
                exact ⟨ret_boolE HE.out.symm, QR.out.fr.trans f3⟩
              · have HY1 := Lib.hid (HY.out hn)
                rw [hn] at NK
                clear HX HY hn
                go_wp2_with fail
                refine (NK.out _).mono ?_
                rintro e w3 ⟨rfl, f3⟩
                have Q3 := Lib.hid (QR.out.non f3)
                clear f3 QR g0 g1 g2 g3 g4 g5 g6 g7 g8 g9 g10 g11 g12 c0
                obtain ⟨g0, g1, g2, g3, g4, g5, g6, g7, g8, g9, g10, g11, g12⟩ := Q3.out.cells
                dsimp only [Pd.hd, Pd.kids] at g0 g1 g2 g3 g4 g5 g6 g7 g8 g9 g10 g11 g12
                clear g0 g2 g3 g4 g5 g6 g7 g8 g9 g10 g11 g12
                obtain ⟨a2, ha2, _, _, hel2⟩ := Q3.out.sls.cols.addr (show 0 < cols.length by omega)
                obtain rfl := Option.some.inj ha2
                have HEL := Lib.hid hel2
                have c1 := hel2 k hlt
                unfold sv at c1
                try dsimp only at c1
                rw [HYE.out] at c1
                clear hel2 ha2
                go_wp2
                go_loopw [4] (fun i wx => ∃ m : Nat, m ≤ k ∧ i = .int .i64 m ∧ Hid (∀ j (hj : j < cols.length), j < m → cols[j] ≠ y) ∧ ∃ n, wx = w3.drewN n) (fun i _ => k - (intOf i).toNat)
                case atStart => exact ⟨0, Nat.zero_le _, rfl, Lib.hid (fun _ _ h => by omega), 0, rfl⟩
                case round =>
                  obtain ⟨m, hm, rfl, hne, n, rfl⟩ := hrel
                  by_cases hmk : m < k
                  · have hml : m < cols.length := by omega
                    have c2 := HEL.out m hml
                    unfold sv at c2
                    try dsimp only at c2
                    have HZ := Lib.hid (HX2.out m hml hmk)
                    have HW : Hid (cols[m] ≠ y → ∀ j (hj : j < cols.length), j < m + 1 → cols[j] ≠ y) := Lib.hid (fun e j hj hjm => by
                      by_cases ee : j = m
                      · subst ee; exact e
                      · exact hne.out j hj (by omega))
                    clear hne
                    generalize cols[m] = z at *
                    by_cases he : z = y
                    · have HE := Lib.hid (HZ.out he)
                      have hbe : (z == y) = true := by rw [beq_iff_eq]; exact he
                      clear HZ HW he
                      go_wp2
                      go_quiet (fail)
                      go_wp2
                      go_ret
                      exact ⟨ret_boolE HE.out.symm, (Q3.out.fr.drewN n).drewN _⟩
                    · have HE := Lib.hid (HW.out he)
                      have hbe : (z == y) = false := by rw [beq_eq_false_iff_ne]; exact he
                      clear HZ HW he
                      go_wp2
                      go_quiet (fail)
                      go_wp2
                      go_roundw
                      case rel => exact ⟨m + 1, by omega, by go_num, HE, _, rfl⟩
                      case measure => simp [intOf]; omega
                  · have HE := Lib.hid (HY1.out (fun j hj hjk => hne.out j hj (by omega)))
                    clear HX2 HY1 hne
                    go_wp2
                    go_roundw
                    case rel => exact ⟨k + 1, by omega, by go_num, HE, Lib.hid (Q3.out.non ((Fr.refl Non w3).drewN n))⟩
                    case measure => simp [intOf]; omega
            · have HE2 := Lib.hid (HE1.out (unlK_all (by omega) HT.out))
              clear HT HU HE1 NC
              by_cases ha : aggs.length = 0
              · have hab : ((aggs.length : Int) == 0) = true := by rw [beq_iff_eq]; omega
                by_cases hb : by_ = []
                · have HE : Hid (r = true) := Lib.hid (by rw [HE2.out, if_pos ha]; exact decide_eq_true hb)
                  clear HE2 ha
                  subst hb
                  go_wp2
                  go_ret
                  exact ⟨ret_boolE HE.out.symm, QR.out.fr⟩
                · have hbb : (by_ == []) = false := by rw [beq_eq_false_iff_ne]; exact hb
                  have HE : Hid (r = false) := Lib.hid (by rw [HE2.out, if_pos ha]; exact decide_eq_false hb)
                  clear HE2 ha hb
                  go_wp2
                  go_ret
                  exact ⟨ret_boolE HE.out.symm, QR.out.fr⟩
              · have hab : ((aggs.length : Int) == 0) = false := by rw [beq_eq_false_iff_ne]; omega
                have HAB : Hid (aggs.all agB = false → r = false) := Lib.hid (fun e => by rw [HE2.out, if_neg ha, e]; rfl)
                have HAY : Hid (aggs.all agB = true → r = (decide (cols.length = 0) && (decide (by_ = []) || bn))) := Lib.hid (fun e => by rw [HE2.out, if_neg ha, e]; rfl)
                clear HE2 ha
                go_wp2
                clear g0 g1 g2 g3 g4 g5 g6 g7 g8 g9 g10 g11 g12
                rename World => W5
                go_loopw [5] (fun i wr => ∃ k : Nat, k ≤ aggs.length ∧ i = .int .i64 k ∧ Hid ((aggs.take k).all agB = true) ∧ Hid (Qin w w.heap.size ⟨tab, cols, ⟨⟨wo, wc, wm, ⟨wn, wi, wt⟩, wk, wp⟩, wks⟩, aggs, by_⟩ (.slice cA cols.length cc) ⟨sA, sn, sc⟩ (.slice gA aggs.length gc) wr)) (fun i _ => aggs.length - (intOf i).toNat)
                case atStart => exact ⟨0, Nat.zero_le _, rfl, Lib.hid rfl, QR⟩
                case round =>
                  clear QR hlt hk hab
                  obtain ⟨k, hk, rfl, HT, QR⟩ := hrel
                  obtain ⟨g0, g1, g2, g3, g4, g5, g6, g7, g8, g9, g10, g11, g12⟩ := QR.out.cells
                  dsimp only [Pd.hd, Pd.kids] at g0 g1 g2 g3 g4 g5 g6 g7 g8 g9 g10 g11 g12
                  by_cases hlt : k < aggs.length
                  · obtain ⟨a, rfl, _, d0, d1⟩ := Ns.gat QR.out.sls.aggs k hlt
                    have HX := Lib.hid (fun e => HAB.out (all_badG hlt e))
                    have HY := Lib.hid (fun e => all_moreG hlt HT.out e)
                    have M := GA.out k hlt
                    dsimp only at d0 d1 M
                    clear HT
                    generalize aggs[k] = x at *
                    obtain ⟨xo, xn⟩ := x
                    unfold agV at M
                    dsimp only at d0 d1 HX HY M
                    generalize agB ⟨xo, xn⟩ = bx at *
                    replace M := Lib.hid M
                    cases bx
                    · have HE := Lib.hid (HX.out rfl)
                      clear HX HY
                      go_wp2_with fail
                      refine (M.out _).mono ?_
                      rintro e w3 ⟨rfl, f3⟩
                      go_wp2
                      go_ret
                      exact ⟨ret_boolE HE.out.symm, QR.out.fr.trans f3⟩
                    · have HE := Lib.hid (HY.out rfl)
                      clear HX HY
                      go_wp2_with fail
                      refine (M.out _).mono ?_
                      rintro e w3 ⟨rfl, f3⟩
                      go_wp2
                      go_roundw
                      case rel => exact ⟨k + 1, by omega, by go_num, HE, Lib.hid (QR.out.non f3)⟩
                      case measure => simp [intOf]; omega
                  · have HE2 := Lib.hid (HAY.out (all_endG (by omega) HT.out))
                    clear HT HAB HAY GA
                    by_cases hc : cols.length = 0
                    · have hcb : ((cols.length : Int) == 0) = true := by rw [beq_iff_eq]; omega
                      by_cases hb : by_ = []
                      · have HE : Hid (r = true) := Lib.hid (by rw [HE2.out, decide_eq_true hc, decide_eq_true hb]; rfl)
                        clear HE2 hc NB
                        subst hb
                        go_wp2
                        go_ret
                        exact ⟨ret_boolE HE.out.symm, QR.out.fr⟩
                      · have hbb : (by_ == []) = false := by rw [beq_eq_false_iff_ne]; exact hb
                        have HE : Hid (r = bn) := Lib.hid (by rw [HE2.out, decide_eq_true hc, decide_eq_false hb]; rfl)
                        clear HE2 hc hb
                        go_wp2_with fail
                        refine (NB.out _).mono ?_
                        rintro e w3 ⟨rfl, f3⟩
                        go_wp2
                        go_ret
                        exact ⟨ret_boolE HE.out.symm, QR.out.fr.trans f3⟩
                    · have hcb : ((cols.length : Int) == 0) = false := by rw [beq_eq_false_iff_ne]; omega
                      have HE : Hid (r = false) := Lib.hid (by rw [HE2.out, decide_eq_false hc]; rfl)
                      clear HE2 hc NB
                      go_wp2
                      go_ret
                      exact ⟨ret_boolE HE.out.symm, QR.out.fr⟩
theorem rqmay_any (q : Qy) (c : Value) (s : Kv) (g : Value) (w : World) (hq : QyS w q c s g) (hs : SmQ q) :
    Calls Tryz.prog 15 #[qyV q c s g] w fun e w' => e = .returned (.bool (mayQ q)) ∧ Fr Non w w' := rqmay_big q c s g w hq hs.big
end Go.Proofs.YtipgaafgnefmdaaGreatDoor


namespace Go.Proofs.YtipgaafgnefmdaaGreatDoor
set_option linter.unusedVariables false
set_option linter.unusedSimpArgs false
set_option maxRecDepth 100000
open Go.RowKit

/-- how the document's reader and its query stand, behind some of its parts -/
structure RSt (g : Nat) (w w' : World) (σ : Sg) (q : Qy) (c : Value) (s : Kv) (a : Value) : Prop where
  st : TX (g + 1) g w' σ
  fr : Fr Non w w'
  res : QB w' w.heap.size noQy nilV noKv nilV
  qry : QB w' (g + 1) q c s a
  sls : QG (g + 2) w' q c s a
theorem RSt.step {g : Nat} {w w1 w2 : World} {σ σ' : Sg} {q : Qy} {c : Value} {s : Kv} {a : Value} (h : RSt g w w1 σ q c s a) (hg : w.heap.size < g) (hT : TX (g + 1) g w2 σ') (hF : Fr (One g) w1 w2) : RSt g w w2 σ' q c s a :=
  ⟨hT, h.fr.fresh hF (fun k e => by have : k = g := e; omega), h.res.fr hF (fun e => by have : w.heap.size = g := e; omega), h.qry.fr hF (fun e => by have : g + 1 = g := e; omega), h.sls.fr hF (fun b hb e => by have : b = g := e; omega)⟩
theorem RSt.sz {g : Nat} {w w1 : World} {σ : Sg} {q : Qy} {c : Value} {s : Kv} {a : Value} (h : RSt g w w1 σ q c s a) : g + 2 ≤ w1.heap.size := by have := h.qry.lt; omega
/-- a part stored -/
theorem RSt.put {g : Nat} {w w1 w2 : World} {σ : Sg} {q q2 : Qy} {c c2 : Value} {s s2 : Kv} {a a2 : Value} (h : RSt g w w1 σ q c s a) (hg : w.heap.size < g) (hF : Fr (One (g + 1)) w1 w2) (hq : QB w2 (g + 1) q2 c2 s2 a2) (hs : QG (g + 2) w2 q2 c2 s2 a2) : RSt g w w2 σ q2 c2 s2 a2 :=
  ⟨h.st.fresh hF (fun k e => by have : k = g + 1 := e; omega), h.fr.fresh hF (fun k e => by have : k = g + 1 := e; omega), h.res.fr hF (fun e => by have : w.heap.size = g + 1 := e; omega), hq, hs⟩
end Go.Proofs.YtipgaafgnefmdaaGreatDoor


namespace Go.Proofs.YtipgaafgnefmdaaGreatDoor
set_option linter.unusedVariables false
set_option linter.unusedSimpArgs false
set_option maxRecDepth 100000
open Go.RowKit

theorem sameP_is (h h' : Ph) (ks ks' : List Pd) : sameP (.mk h ks) (.mk h' ks') = (peq h h' && sameL ks ks') := by rw [sameP]; rfl
theorem sameL_len {l m : List Pd} (h : ¬ l.length = m.length) : sameL l m = false := by
  rw [Bool.eq_false_iff]
  intro e
  exact h (by rw [(sameL_iff l m).1 e])
theorem sameL_at {l m : List Pd} {k : Nat} (h1 : k < l.length) (h2 : k < m.length) : sameL (l.drop k) (m.drop k) = (sameP l[k] m[k] && sameL (l.drop (k + 1)) (m.drop (k + 1))) := by
  rw [List.drop_eq_getElem_cons h1, List.drop_eq_getElem_cons h2, sameL]
theorem sameL_end {l m : List Pd} {k : Nat} (h1 : l.length ≤ k) (h2 : m.length ≤ k) : sameL (l.drop k) (m.drop k) = true := by
  rw [List.drop_eq_nil_of_le h1, List.drop_eq_nil_of_le h2, sameL]

set_option maxHeartbeats 8000000 in
theorem rpsame_any (p : Pd) : ∀ (q : Pd) (s t : Kv) (w : World), Kd w s p.kids → Kd w t q.kids → lenP p = true →
    Calls Tryz.prog 13 #[pdV p.hd s, pdV q.hd t] w fun e w' => e = .returned (.bool (sameP p q)) ∧ Fr Non w w' := by
  induction p using Pd.ind with
  | h hd ks ih =>
    rintro ⟨hd2, ms⟩ s t w hk hm hlen
    have hls := lenP_mk hlen
    dsimp only [Pd.hd, Pd.kids] at hk hm ⊢
    have hn1 := hk.len
    have hn2 := hm.len
    have IH : Hid (∀ k (h : k < ks.length) (j : Nat) (h2 : j < ms.length) (W : World) (s' t' : Kv), Kd W s' ks[k].kids → Kd W t' ms[j].kids → Calls Tryz.prog 13 #[pdV ks[k].hd s', pdV ms[j].hd t'] W fun e w' => e = .returned (.bool (sameP ks[k] ms[j])) ∧ Fr Non W w') := Lib.hid (fun k h j h2 W s' t' a b => ih _ (List.getElem_mem h) ms[j] s' t' W a b (hls.2.2.2.2 _ (List.getElem_mem h)))
    have A1 := Lib.hid (fun W => flat_any hd hd2 s t W)
    have PB := pd2_new w _ hd hd2 s t rfl
    have F0 : Fr Non w ((w.alloc (.cells (pdC hd s) 28)).alloc (.cells (pdC hd2 t) 28)) := ((Fr.refl Non w).alloc _).alloc _
    have HE0 := Lib.hid (sameP_is hd hd2 ks ms)
    have HS0 := Lib.hid (fun e => sameL_len (l := ks) (m := ms) e)
    have HS1 : Hid (sameL ks ms = sameL (ks.drop 0) (ms.drop 0)) := Lib.hid rfl
    generalize sameP (.mk hd ks) (.mk hd2 ms) = r at *
    generalize sameL ks ms = b0 at *
    generalize peq hd hd2 = q at *
    have HK := Lib.hid (hk.non F0)
    have HM := Lib.hid (hm.non F0)
    have PB := Lib.hid PB
    have F0 := Lib.hid F0
    have hls2 : ks.length ≤ 20 := hls.1
    clear ih hk hm hlen hls
    obtain ⟨ho, hc, hmm, ⟨vn, vi, vt⟩, hkd, hp⟩ := hd
    obtain ⟨go, gc, gm, ⟨un, ui, ut⟩, gkd, gp⟩ := hd2
    obtain ⟨A, n, c⟩ := s
    obtain ⟨A2, n2, c2⟩ := t
    dsimp only at hn1 hn2
    have hn20 : n ≤ 20 := by omega
    have HL1 := Lib.hid hn1
    have HL2 := Lib.hid hn2
    clear hn1 hn2 hls2
    unfold pdV pdC kidV at A1 ⊢
    dsimp only at A1 ⊢
    cases q
    · have HE : Hid (r = false) := Lib.hid (by rw [HE0.out]; rfl)
      clear HE0 IH HS0 HS1
      go_enter Tryz.func13, Tryz.ntmps13
      go_wp2_with fail
      refine (A1.out _).mono ?_
      rintro e w1 ⟨rfl, f1⟩
      go_wp2
      go_ret
      exact ⟨ret_boolE HE.out.symm, F0.out.trans f1⟩
    · have HE : Hid (r = b0) := Lib.hid (by rw [HE0.out]; rfl)
      clear HE0
      go_enter Tryz.func13, Tryz.ntmps13
      go_wp2_with fail
      refine (A1.out _).mono ?_
      rintro e w1 ⟨rfl, f1⟩
      have PB1 := Lib.hid (PB.out.1.fr f1 (fun e => e))
      have PB2 := Lib.hid (PB.out.2.fr f1 (fun e => e))
      have g8 := PB1.out.cell 8
      have h8 := PB2.out.cell 8
      simp [pdC, kidV] at g8 h8
      have HK1 := Lib.hid (HK.out.non f1)
      have HM1 := Lib.hid (HM.out.non f1)
      have F1 := Lib.hid (F0.out.trans f1)
      clear f1 PB HK HM F0 A1
      by_cases hne : n = n2
      · subst hne
        clear HS0
        go_wp2
        go_loopw [5] (fun i wr => ∃ k : Nat, k ≤ n ∧ i = .int .i64 k ∧ Hid (b0 = sameL (ks.drop k) (ms.drop k)) ∧ Hid (Fr Non w1 wr)) (fun i _ => n - (intOf i).toNat)
        case atStart => exact ⟨0, Nat.zero_le _, rfl, HS1, Lib.hid (Fr.refl _ _)⟩
        case round =>
          clear HS1 g8 h8
          obtain ⟨k, hk, rfl, HT, FR⟩ := hrel
          have g8 := (PB1.out.fr FR.out (fun e => e)).cell 8
          have h8 := (PB2.out.fr FR.out (fun e => e)).cell 8
          simp [pdC, kidV] at g8 h8
          by_cases hlt : k < n
          · have h1 : k < ks.length := by have := HL1.out; omega
            have h2 : k < ms.length := by have := HL2.out; omega
            obtain ⟨a, t, hA, hc, hkk, _⟩ := HK1.out.elN FR.out.drew k h1
            dsimp only at hA
            subst hA
            obtain ⟨a2, t2, hA2, hc2, hkk2, _⟩ := HM1.out.elN FR.out.drew k h2
            dsimp only at hA2
            subst hA2
            have q0 : wr.drew.cell? ⟨w.heap.size, 8, none⟩ = _ := g8
            have q1 : wr.drew.cell? ⟨w.heap.size + 1, 8, none⟩ = _ := h8
            obtain ⟨q2, q3, q4, q5, q6, q7, q8, q9, q10⟩ := hc
            obtain ⟨q11, q12, q13, q14, q15, q16, q17, q18, q19⟩ := hc2
            have HC := Lib.hid (IH.out k h1 k h2 wr.drew t t2 (hkk.non FR.out.drew) (hkk2.non FR.out.drew))
            have HY := Lib.hid (HT.out.trans (sameL_at h1 h2))
            clear hkk hkk2 HT
            generalize sameP ks[k] ms[k] = b at *
            generalize ks[k].hd = x at *
            generalize ms[k].hd = y at *
            obtain ⟨xo, xc, xm, ⟨xn, xi, xt⟩, xk, xp⟩ := x
            obtain ⟨yo, yc, ym, ⟨yn, yi, yt⟩, yk, yp⟩ := y
            obtain ⟨tA, tn, tc⟩ := t
            obtain ⟨uA, un, uc⟩ := t2
            unfold pdV pdC kidV at HC
            dsimp only at HC q2 q3 q4 q5 q6 q7 q8 q9 q10 q11 q12 q13 q14 q15 q16 q17 q18 q19
            cases b
            · have HE2 : Hid (r = false) := Lib.hid (by rw [HE.out, HY.out]; rfl)
              clear HY
              go_wp2
              refine wp_region_held_drew (S := (fun W => W.cell? ⟨w.heap.size, 8, none⟩ = some (.slice (some a) n c) ∧ W.cell? ⟨w.heap.size + 1, 8, none⟩ = some (.slice (some a2) n c2) ∧ W.cell? (a.add (k * 9)) = some (.int .i64 xo) ∧ W.cell? { block := (a.add (k * 9)).block, off := (a.add (k * 9)).off + 1 } = some (.string ⟨xc.toArray⟩) ∧ W.cell? { block := (a.add (k * 9)).block, off := (a.add (k * 9)).off + 2 } = some (.int .i64 xm) ∧ W.cell? { block := (a.add (k * 9)).block, off := (a.add (k * 9)).off + 3 } = some (.bool xn) ∧ W.cell? { block := (a.add (k * 9)).block, off := (a.add (k * 9)).off + 4 } = some (.int .i64 xi) ∧ W.cell? { block := (a.add (k * 9)).block, off := (a.add (k * 9)).off + 5 } = some (.string ⟨xt.toArray⟩) ∧ W.cell? { block := (a.add (k * 9)).block, off := (a.add (k * 9)).off + 6 } = some (.int .i64 xk) ∧ W.cell? { block := (a.add (k * 9)).block, off := (a.add (k * 9)).off + 7 } = some (.string ⟨xp.toArray⟩) ∧ W.cell? { block := (a.add (k * 9)).block, off := (a.add (k * 9)).off + 8 } = some (.slice tA tn tc) ∧ W.cell? (a2.add (k * 9)) = some (.int .i64 yo) ∧ W.cell? { block := (a2.add (k * 9)).block, off := (a2.add (k * 9)).off + 1 } = some (.string ⟨yc.toArray⟩) ∧ W.cell? { block := (a2.add (k * 9)).block, off := (a2.add (k * 9)).off + 2 } = some (.int .i64 ym) ∧ W.cell? { block := (a2.add (k * 9)).block, off := (a2.add (k * 9)).off + 3 } = some (.bool yn) ∧ W.cell? { block := (a2.add (k * 9)).block, off := (a2.add (k * 9)).off + 4 } = some (.int .i64 yi) ∧ W.cell? { block := (a2.add (k * 9)).block, off := (a2.add (k * 9)).off + 5 } = some (.string ⟨yt.toArray⟩) ∧ W.cell? { block := (a2.add (k * 9)).block, off := (a2.add (k * 9)).off + 6 } = some (.int .i64 yk) ∧ W.cell? { block := (a2.add (k * 9)).block, off := (a2.add (k * 9)).off + 7 } = some (.string ⟨yp.toArray⟩) ∧ W.cell? { block := (a2.add (k * 9)).block, off := (a2.add (k * 9)).off + 8 } = some (.slice uA un uc))) (by kernel_rfl) (by exact ⟨q0, q1, q2, q3, q4, q5, q6, q7, q8, q9, q10, q11, q12, q13, q14, q15, q16, q17, q18, q19⟩) (fun hHeld => ?_)
              refine wpAnyH_take (i := 0) (oi := ⟨some 26, _, _, _, _, none⟩) (v := ?v1) rfl (by kernel_rfl) (by kernel_rfl) (by kernel_rfl) (fun _ _ _ h => h) (Or.inl ⟨by rfl, ?hy1⟩) (by assumption) ?rest1
              case hy1 => (intro wS hSw; (try dsimp only at hSw); go_simp; (try with_reducible rfl))
              (try simp only [Act.put, List.setIfInBounds_toArray, List.set_cons_zero, List.set_cons_succ])
              refine wpAnyH_take (i := 1) (oi := ⟨some 27, _, _, _, _, none⟩) (v := ?v2) rfl (by kernel_rfl) (by kernel_rfl) (by kernel_rfl) (fun _ _ _ h => h) (Or.inl ⟨by rfl, ?hy2⟩) (by assumption) ?rest2
              case hy2 => (intro wS hSw; (try dsimp only at hSw); go_simp; (try with_reducible rfl))
              (try simp only [Act.put, List.setIfInBounds_toArray, List.set_cons_zero, List.set_cons_succ])
              refine wpAnyH_take (i := 2) (oi := ⟨some 28, _, _, _, _, none⟩) (v := ?v3) rfl (by kernel_rfl) (by kernel_rfl) (by kernel_rfl) (fun _ _ _ h => h) (Or.inl ⟨by rfl, ?hy3⟩) (by assumption) ?rest3
              case hy3 => (intro wS hSw; (try dsimp only at hSw); go_simp; (try with_reducible rfl))
              (try simp only [Act.put, List.setIfInBounds_toArray, List.set_cons_zero, List.set_cons_succ])
              refine wpAnyH_take (i := 3) (oi := ⟨some 29, _, _, _, _, none⟩) (v := ?v4) rfl (by kernel_rfl) (by kernel_rfl) (by kernel_rfl) (fun _ _ _ h => h) (Or.inl ⟨by rfl, ?hy4⟩) (by assumption) ?rest4
              case hy4 => (intro wS hSw; (try dsimp only at hSw); go_simp; (try with_reducible rfl))
              (try simp only [Act.put, List.setIfInBounds_toArray, List.set_cons_zero, List.set_cons_succ])
              refine wpAnyH_take (i := 4) (oi := ⟨some 30, _, _, _, _, none⟩) (v := ?v5) rfl (by kernel_rfl) (by kernel_rfl) (by kernel_rfl) (fun _ _ _ h => h) (Or.inl ⟨by rfl, ?hy5⟩) (by assumption) ?rest5
              case hy5 => (intro wS hSw; (try dsimp only at hSw); go_simp; (try with_reducible rfl))
              (try simp only [Act.put, List.setIfInBounds_toArray, List.set_cons_zero, List.set_cons_succ])
              refine wpAnyH_take (i := 5) (oi := ⟨some 31, _, _, _, _, none⟩) (v := ?v6) rfl (by kernel_rfl) (by kernel_rfl) (by kernel_rfl) (fun _ _ _ h => h) (Or.inl ⟨by rfl, ?hy6⟩) (by assumption) ?rest6
              case hy6 => (intro wS hSw; (try dsimp only at hSw); go_simp; (try with_reducible rfl))
              (try simp only [Act.put, List.setIfInBounds_toArray, List.set_cons_zero, List.set_cons_succ])
              refine wpAnyH_take (i := 6) (oi := ⟨some 32, _, _, _, _, none⟩) (v := ?v7) rfl (by kernel_rfl) (by kernel_rfl) (by kernel_rfl) (fun _ _ _ h => h) (Or.inl ⟨by rfl, ?hy7⟩) (by assumption) ?rest7
              case hy7 => (intro wS hSw; (try dsimp only at hSw); go_simp; (try with_reducible rfl))
              (try simp only [Act.put, List.setIfInBounds_toArray, List.set_cons_zero, List.set_cons_succ])
              refine wpAnyH_take (i := 7) (oi := ⟨some 33, _, _, _, _, none⟩) (v := ?v8) rfl (by kernel_rfl) (by kernel_rfl) (by kernel_rfl) (fun _ _ _ h => h) (Or.inl ⟨by rfl, ?hy8⟩) (by assumption) ?rest8
              case hy8 => (intro wS hSw; (try dsimp only at hSw); go_simp; (try with_reducible rfl))
              (try simp only [Act.put, List.setIfInBounds_toArray, List.set_cons_zero, List.set_cons_succ])
              refine wpAnyH_take (i := 8) (oi := ⟨some 34, _, _, _, _, none⟩) (v := ?v9) rfl (by kernel_rfl) (by kernel_rfl) (by kernel_rfl) (fun _ _ _ h => h) (Or.inl ⟨by rfl, ?hy9⟩) (by assumption) ?rest9
              case hy9 => (intro wS hSw; (try dsimp only at hSw); go_simp; (try with_reducible rfl))
              (try simp only [Act.put, List.setIfInBounds_toArray, List.set_cons_zero, List.set_cons_succ])
              refine wpAnyH_take (i := 9) (oi := ⟨some 35, _, _, _, _, none⟩) (v := ?v10) rfl (by kernel_rfl) (by kernel_rfl) (by kernel_rfl) (fun _ _ _ h => h) (Or.inl ⟨by rfl, ?hy10⟩) (by assumption) ?rest10
              case hy10 => (intro wS hSw; (try dsimp only at hSw); go_simp; (try with_reducible rfl))
              (try simp only [Act.put, List.setIfInBounds_toArray, List.set_cons_zero, List.set_cons_succ])
              refine wpAnyH_ready (rs := [10]) (by kernel_rfl) (by simp) ?_
              refine AllReadyH.cons (o := ⟨some 36, _, _, _, _, none⟩) rfl (fun K hK => ?_) AllReadyH.nil
              go_simp
              go_at_call 13
              (with_reducible refine HC.out.mono ?_)
              rintro e w3 ⟨rfl, f3⟩
              have u0 := (f3.cell (World.block_lt_of_cell? _ _ q0) (fun e => e)).trans q0
              have u1 := (f3.cell (World.block_lt_of_cell? _ _ q1) (fun e => e)).trans q1
              have u2 := (f3.cell (World.block_lt_of_cell? _ _ q2) (fun e => e)).trans q2
              have u3 := (f3.cell (World.block_lt_of_cell? _ _ q3) (fun e => e)).trans q3
              have u4 := (f3.cell (World.block_lt_of_cell? _ _ q4) (fun e => e)).trans q4
              have u5 := (f3.cell (World.block_lt_of_cell? _ _ q5) (fun e => e)).trans q5
              have u6 := (f3.cell (World.block_lt_of_cell? _ _ q6) (fun e => e)).trans q6
              have u7 := (f3.cell (World.block_lt_of_cell? _ _ q7) (fun e => e)).trans q7
              have u8 := (f3.cell (World.block_lt_of_cell? _ _ q8) (fun e => e)).trans q8
              have u9 := (f3.cell (World.block_lt_of_cell? _ _ q9) (fun e => e)).trans q9
              have u10 := (f3.cell (World.block_lt_of_cell? _ _ q10) (fun e => e)).trans q10
              have u11 := (f3.cell (World.block_lt_of_cell? _ _ q11) (fun e => e)).trans q11
              have u12 := (f3.cell (World.block_lt_of_cell? _ _ q12) (fun e => e)).trans q12
              have u13 := (f3.cell (World.block_lt_of_cell? _ _ q13) (fun e => e)).trans q13
              have u14 := (f3.cell (World.block_lt_of_cell? _ _ q14) (fun e => e)).trans q14
              have u15 := (f3.cell (World.block_lt_of_cell? _ _ q15) (fun e => e)).trans q15
              have u16 := (f3.cell (World.block_lt_of_cell? _ _ q16) (fun e => e)).trans q16
              have u17 := (f3.cell (World.block_lt_of_cell? _ _ q17) (fun e => e)).trans q17
              have u18 := (f3.cell (World.block_lt_of_cell? _ _ q18) (fun e => e)).trans q18
              have u19 := (f3.cell (World.block_lt_of_cell? _ _ q19) (fun e => e)).trans q19
              go_wp2_with fail
              refine hK.out _ _ (by exact ⟨u0, u1, u2, u3, u4, u5, u6, u7, u8, u9, u10, u11, u12, u13, u14, u15, u16, u17, u18, u19⟩) (fun hHeld => ?_)
              clear hK K
              (try simp only [Act.put, List.setIfInBounds_toArray, List.set_cons_zero, List.set_cons_succ])
              refine wpAnyH_take (i := 11) (oi := ⟨some 37, _, _, _, _, none⟩) (v := ?v11) rfl (by kernel_rfl) (by kernel_rfl) (by kernel_rfl) (fun _ _ _ h => h) (Or.inl ⟨by rfl, ?hy11⟩) (by assumption) ?rest11
              case hy11 => (intro wS hSw; (try dsimp only at hSw); go_simp; (try with_reducible rfl))
              (try simp only [Act.put, List.setIfInBounds_toArray, List.set_cons_zero, List.set_cons_succ])
              refine wpAnyH_done (by kernel_rfl) ?_ _
              clear q0 u0 q1 u1 q2 u2 q3 u3 q4 u4 q5 u5 q6 u6 q7 u7 q8 u8 q9 u9 q10 u10 q11 u11 q12 u12 q13 u13 q14 u14 q15 u15 q16 u16 q17 u17 q18 u18 q19 u19
              go_wp2
              go_ret
              exact ⟨ret_boolE HE2.out.symm, (F1.out.trans FR.out.drew).trans f3⟩
            · have HE2 : Hid (b0 = sameL (ks.drop (k + 1)) (ms.drop (k + 1))) := Lib.hid (by rw [HY.out]; rfl)
              clear HY
              go_wp2
              refine wp_region_held_drew (S := (fun W => W.cell? ⟨w.heap.size, 8, none⟩ = some (.slice (some a) n c) ∧ W.cell? ⟨w.heap.size + 1, 8, none⟩ = some (.slice (some a2) n c2) ∧ W.cell? (a.add (k * 9)) = some (.int .i64 xo) ∧ W.cell? { block := (a.add (k * 9)).block, off := (a.add (k * 9)).off + 1 } = some (.string ⟨xc.toArray⟩) ∧ W.cell? { block := (a.add (k * 9)).block, off := (a.add (k * 9)).off + 2 } = some (.int .i64 xm) ∧ W.cell? { block := (a.add (k * 9)).block, off := (a.add (k * 9)).off + 3 } = some (.bool xn) ∧ W.cell? { block := (a.add (k * 9)).block, off := (a.add (k * 9)).off + 4 } = some (.int .i64 xi) ∧ W.cell? { block := (a.add (k * 9)).block, off := (a.add (k * 9)).off + 5 } = some (.string ⟨xt.toArray⟩) ∧ W.cell? { block := (a.add (k * 9)).block, off := (a.add (k * 9)).off + 6 } = some (.int .i64 xk) ∧ W.cell? { block := (a.add (k * 9)).block, off := (a.add (k * 9)).off + 7 } = some (.string ⟨xp.toArray⟩) ∧ W.cell? { block := (a.add (k * 9)).block, off := (a.add (k * 9)).off + 8 } = some (.slice tA tn tc) ∧ W.cell? (a2.add (k * 9)) = some (.int .i64 yo) ∧ W.cell? { block := (a2.add (k * 9)).block, off := (a2.add (k * 9)).off + 1 } = some (.string ⟨yc.toArray⟩) ∧ W.cell? { block := (a2.add (k * 9)).block, off := (a2.add (k * 9)).off + 2 } = some (.int .i64 ym) ∧ W.cell? { block := (a2.add (k * 9)).block, off := (a2.add (k * 9)).off + 3 } = some (.bool yn) ∧ W.cell? { block := (a2.add (k * 9)).block, off := (a2.add (k * 9)).off + 4 } = some (.int .i64 yi) ∧ W.cell? { block := (a2.add (k * 9)).block, off := (a2.add (k * 9)).off + 5 } = some (.string ⟨yt.toArray⟩) ∧ W.cell? { block := (a2.add (k * 9)).block, off := (a2.add (k * 9)).off + 6 } = some (.int .i64 yk) ∧ W.cell? { block := (a2.add (k * 9)).block, off := (a2.add (k * 9)).off + 7 } = some (.string ⟨yp.toArray⟩) ∧ W.cell? { block := (a2.add (k * 9)).block, off := (a2.add (k * 9)).off + 8 } = some (.slice uA un uc))) (by kernel_rfl) (by exact ⟨q0, q1, q2, q3, q4, q5, q6, q7, q8, q9, q10, q11, q12, q13, q14, q15, q16, q17, q18, q19⟩) (fun hHeld => ?_)
              refine wpAnyH_take (i := 0) (oi := ⟨some 26, _, _, _, _, none⟩) (v := ?v12) rfl (by kernel_rfl) (by kernel_rfl) (by kernel_rfl) (fun _ _ _ h => h) (Or.inl ⟨by rfl, ?hy12⟩) (by assumption) ?rest12
              case hy12 => (intro wS hSw; (try dsimp only at hSw); go_simp; (try with_reducible rfl))
              (try simp only [Act.put, List.setIfInBounds_toArray, List.set_cons_zero, List.set_cons_succ])
              refine wpAnyH_take (i := 1) (oi := ⟨some 27, _, _, _, _, none⟩) (v := ?v13) rfl (by kernel_rfl) (by kernel_rfl) (by kernel_rfl) (fun _ _ _ h => h) (Or.inl ⟨by rfl, ?hy13⟩) (by assumption) ?rest13
              case hy13 => (intro wS hSw; (try dsimp only at hSw); go_simp; (try with_reducible rfl))
              (try simp only [Act.put, List.setIfInBounds_toArray, List.set_cons_zero, List.set_cons_succ])
              refine wpAnyH_take (i := 2) (oi := ⟨some 28, _, _, _, _, none⟩) (v := ?v14) rfl (by kernel_rfl) (by kernel_rfl) (by kernel_rfl) (fun _ _ _ h => h) (Or.inl ⟨by rfl, ?hy14⟩) (by assumption) ?rest14
              case hy14 => (intro wS hSw; (try dsimp only at hSw); go_simp; (try with_reducible rfl))
              (try simp only [Act.put, List.setIfInBounds_toArray, List.set_cons_zero, List.set_cons_succ])
              refine wpAnyH_take (i := 3) (oi := ⟨some 29, _, _, _, _, none⟩) (v := ?v15) rfl (by kernel_rfl) (by kernel_rfl) (by kernel_rfl) (fun _ _ _ h => h) (Or.inl ⟨by rfl, ?hy15⟩) (by assumption) ?rest15
              case hy15 => (intro wS hSw; (try dsimp only at hSw); go_simp; (try with_reducible rfl))
              (try simp only [Act.put, List.setIfInBounds_toArray, List.set_cons_zero, List.set_cons_succ])
              refine wpAnyH_take (i := 4) (oi := ⟨some 30, _, _, _, _, none⟩) (v := ?v16) rfl (by kernel_rfl) (by kernel_rfl) (by kernel_rfl) (fun _ _ _ h => h) (Or.inl ⟨by rfl, ?hy16⟩) (by assumption) ?rest16
              case hy16 => (intro wS hSw; (try dsimp only at hSw); go_simp; (try with_reducible rfl))
              (try simp only [Act.put, List.setIfInBounds_toArray, List.set_cons_zero, List.set_cons_succ])
              refine wpAnyH_take (i := 5) (oi := ⟨some 31, _, _, _, _, none⟩) (v := ?v17) rfl (by kernel_rfl) (by kernel_rfl) (by kernel_rfl) (fun _ _ _ h => h) (Or.inl ⟨by rfl, ?hy17⟩) (by assumption) ?rest17
              case hy17 => (intro wS hSw; (try dsimp only at hSw); go_simp; (try with_reducible rfl))
              (try simp only [Act.put, List.setIfInBounds_toArray, List.set_cons_zero, List.set_cons_succ])
              refine wpAnyH_take (i := 6) (oi := ⟨some 32, _, _, _, _, none⟩) (v := ?v18) rfl (by kernel_rfl) (by kernel_rfl) (by kernel_rfl) (fun _ _ _ h => h) (Or.inl ⟨by rfl, ?hy18⟩) (by assumption) ?rest18
              case hy18 => (intro wS hSw; (try dsimp only at hSw); go_simp; (try with_reducible rfl))
              (try simp only [Act.put, List.setIfInBounds_toArray, List.set_cons_zero, List.set_cons_succ])
              refine wpAnyH_take (i := 7) (oi := ⟨some 33, _, _, _, _, none⟩) (v := ?v19) rfl (by kernel_rfl) (by kernel_rfl) (by kernel_rfl) (fun _ _ _ h => h) (Or.inl ⟨by rfl, ?hy19⟩) (by assumption) ?rest19
              case hy19 => (intro wS hSw; (try dsimp only at hSw); go_simp; (try with_reducible rfl))
              (try simp only [Act.put, List.setIfInBounds_toArray, List.set_cons_zero, List.set_cons_succ])
              refine wpAnyH_take (i := 8) (oi := ⟨some 34, _, _, _, _, none⟩) (v := ?v20) rfl (by kernel_rfl) (by kernel_rfl) (by kernel_rfl) (fun _ _ _ h => h) (Or.inl ⟨by rfl, ?hy20⟩) (by assumption) ?rest20
              case hy20 => (intro wS hSw; (try dsimp only at hSw); go_simp; (try with_reducible rfl))
              (try simp only [Act.put, List.setIfInBounds_toArray, List.set_cons_zero, List.set_cons_succ])
              refine wpAnyH_take (i := 9) (oi := ⟨some 35, _, _, _, _, none⟩) (v := ?v21) rfl (by kernel_rfl) (by kernel_rfl) (by kernel_rfl) (fun _ _ _ h => h) (Or.inl ⟨by rfl, ?hy21⟩) (by assumption) ?rest21
              case hy21 => (intro wS hSw; (try dsimp only at hSw); go_simp; (try with_reducible rfl))
              (try simp only [Act.put, List.setIfInBounds_toArray, List.set_cons_zero, List.set_cons_succ])
              refine wpAnyH_ready (rs := [10]) (by kernel_rfl) (by simp) ?_
              refine AllReadyH.cons (o := ⟨some 36, _, _, _, _, none⟩) rfl (fun K hK => ?_) AllReadyH.nil
              go_simp
              go_at_call 13
              (with_reducible refine HC.out.mono ?_)
              rintro e w3 ⟨rfl, f3⟩
              have u0 := (f3.cell (World.block_lt_of_cell? _ _ q0) (fun e => e)).trans q0
              have u1 := (f3.cell (World.block_lt_of_cell? _ _ q1) (fun e => e)).trans q1
              have u2 := (f3.cell (World.block_lt_of_cell? _ _ q2) (fun e => e)).trans q2
              have u3 := (f3.cell (World.block_lt_of_cell? _ _ q3) (fun e => e)).trans q3
              have u4 := (f3.cell (World.block_lt_of_cell? _ _ q4) (fun e => e)).trans q4
              have u5 := (f3.cell (World.block_lt_of_cell? _ _ q5) (fun e => e)).trans q5
              have u6 := (f3.cell (World.block_lt_of_cell? _ _ q6) (fun e => e)).trans q6
              have u7 := (f3.cell (World.block_lt_of_cell? _ _ q7) (fun e => e)).trans q7
              have u8 := (f3.cell (World.block_lt_of_cell? _ _ q8) (fun e => e)).trans q8
              have u9 := (f3.cell (World.block_lt_of_cell? _ _ q9) (fun e => e)).trans q9
              have u10 := (f3.cell (World.block_lt_of_cell? _ _ q10) (fun e => e)).trans q10
              have u11 := (f3.cell (World.block_lt_of_cell? _ _ q11) (fun e => e)).trans q11
              have u12 := (f3.cell (World.block_lt_of_cell? _ _ q12) (fun e => e)).trans q12
              have u13 := (f3.cell (World.block_lt_of_cell? _ _ q13) (fun e => e)).trans q13
              have u14 := (f3.cell (World.block_lt_of_cell? _ _ q14) (fun e => e)).trans q14
              have u15 := (f3.cell (World.block_lt_of_cell? _ _ q15) (fun e => e)).trans q15
              have u16 := (f3.cell (World.block_lt_of_cell? _ _ q16) (fun e => e)).trans q16
              have u17 := (f3.cell (World.block_lt_of_cell? _ _ q17) (fun e => e)).trans q17
              have u18 := (f3.cell (World.block_lt_of_cell? _ _ q18) (fun e => e)).trans q18
              have u19 := (f3.cell (World.block_lt_of_cell? _ _ q19) (fun e => e)).trans q19
              go_wp2_with fail
              refine hK.out _ _ (by exact ⟨u0, u1, u2, u3, u4, u5, u6, u7, u8, u9, u10, u11, u12, u13, u14, u15, u16, u17, u18, u19⟩) (fun hHeld => ?_)
              clear hK K
              (try simp only [Act.put, List.setIfInBounds_toArray, List.set_cons_zero, List.set_cons_succ])
              refine wpAnyH_take (i := 11) (oi := ⟨some 37, _, _, _, _, none⟩) (v := ?v22) rfl (by kernel_rfl) (by kernel_rfl) (by kernel_rfl) (fun _ _ _ h => h) (Or.inl ⟨by rfl, ?hy22⟩) (by assumption) ?rest22
              case hy22 => (intro wS hSw; (try dsimp only at hSw); go_simp; (try with_reducible rfl))
              (try simp only [Act.put, List.setIfInBounds_toArray, List.set_cons_zero, List.set_cons_succ])
              refine wpAnyH_done (by kernel_rfl) ?_ _
              clear q0 u0 q1 u1 q2 u2 q3 u3 q4 u4 q5 u5 q6 u6 q7 u7 q8 u8 q9 u9 q10 u10 q11 u11 q12 u12 q13 u13 q14 u14 q15 u15 q16 u16 q17 u17 q18 u18 q19 u19
              go_wp2
              go_roundw
              case rel => exact ⟨k + 1, by omega, by go_num, HE2, Lib.hid (FR.out.drew.trans f3)⟩
              case measure => simp [intOf]; omega
          · have HE2 : Hid (r = true) := Lib.hid (HE.out.trans (HT.out.trans (sameL_end (by have := HL1.out; omega) (by have := HL2.out; omega))))
            clear HT
            go_wp2
            go_ret
            exact ⟨ret_boolE HE2.out.symm, F1.out.trans FR.out⟩
      · have hb : ((n : Int) != n2) = true := by rw [bne_iff_ne]; omega
        have HE2 : Hid (r = false) := Lib.hid (HE.out.trans (HS0.out (by have := HL1.out; have := HL2.out; omega)))
        clear hne HS0 HS1
        go_wp2
        go_ret
        exact ⟨ret_boolE HE2.out.symm, F1.out⟩
end Go.Proofs.YtipgaafgnefmdaaGreatDoor


namespace Go.Proofs.YtipgaafgnefmdaaGreatDoor
set_option linter.unusedVariables false
set_option linter.unusedSimpArgs false
set_option maxRecDepth 100000
open Go.RowKit

theorem Qin.new2 {w : World} {q : Qy} {c : Value} {s : Kv} {g : Value} {q2 : Qy} {c2 : Value} {s2 : Kv} {g2 : Value} (h : QyS w q c s g) (h2 : QyS w q2 c2 s2 g2) :
    Qin w w.heap.size q c s g ((w.alloc (.cells (qyC q c s g) 31)).alloc (.cells (qyC q2 c2 s2 g2) 31)) ∧ Qin w (w.heap.size + 1) q2 c2 s2 g2 ((w.alloc (.cells (qyC q c s g) 31)).alloc (.cells (qyC q2 c2 s2 g2) 31)) := by
  have F0 : Fr Non w (w.alloc (.cells (qyC q c s g) 31)) := (Fr.refl Non w).alloc _
  have F1 : Fr Non (w.alloc (.cells (qyC q c s g) 31)) ((w.alloc (.cells (qyC q c s g) 31)).alloc (.cells (qyC q2 c2 s2 g2) 31)) := (Fr.refl Non _).alloc _
  refine ⟨(Qin.new h).non F1, F0.trans F1, ?_, h2.non (F0.trans F1)⟩
  exact qy_new _ _ q2 c2 s2 g2 (by simp)
theorem take_neA {a b : List Ag} {k : Nat} (hk : k < a.length) (hk2 : k < b.length) (h : a[k] ≠ b[k]) : a ≠ b := by
  rintro rfl; exact h rfl
theorem take_eqA {a b : List Ag} {k : Nat} (hk : k < a.length) (hk2 : k < b.length) (h : a.take k = b.take k) (he : a[k] = b[k]) : a.take (k + 1) = b.take (k + 1) := by
  rw [List.take_succ_eq_append_getElem hk, List.take_succ_eq_append_getElem hk2, h, he]
set_option maxHeartbeats 2000000 in
theorem rqsame_any (q : Qy) (c : Value) (s : Kv) (g : Value) (q2 : Qy) (c2 : Value) (s2 : Kv) (g2 : Value) (w : World) (hq : QyS w q c s g) (hq2 : QyS w q2 c2 s2 g2) (hs : SmQ q) :
    Calls Tryz.prog 9 #[qyV q c s g, qyV q2 c2 s2 g2] w fun e w' => e = .returned (.bool (sameQ q q2)) ∧ Fr Non w w' := by
  have QR0 := Qin.new2 hq hq2
  have Q0 := Lib.hid QR0.1
  have R0 := Lib.hid QR0.2
  have HC := Lib.hid (fun W (h : QyS W q c s g) (h2 : QyS W q2 c2 s2 g2) => names_any c c2 q.cols q2.cols W h.cols h2.cols (by have := hs.cols; omega))
  have HP := Lib.hid (fun W (h : QyS W q c s g) (h2 : QyS W q2 c2 s2 g2) => rpsame_any q.whr q2.whr s s2 W h.kids h2.kids hs.lens)
  have HE0 : Hid (sameQ q q2 = (decide (q.tab = q2.tab) && (decide (q.cols = q2.cols) && (sameP q.whr q2.whr && (decide (q.aggs = q2.aggs) && decide (q.by_ = q2.by_)))))) := Lib.hid rfl
  have HCE : Hid ((q.cols == q2.cols) = decide (q.cols = q2.cols)) := Lib.hid (by rw [Bool.eq_iff_iff, beq_iff_eq, decide_eq_true_eq])
  clear QR0
  generalize (q.cols == q2.cols) = bc at *
  generalize decide (q.cols = q2.cols) = bd at *
  generalize sameQ q q2 = r at *
  generalize sameP q.whr q2.whr = bp at *
  have hlc := hs.cols
  have hlg := hs.aggs
  unfold pdV pdC at HP
  obtain ⟨cA, cc, hce⟩ := hq.cols.shape
  obtain ⟨gA, gc, hge⟩ := hq.aggs.shape
  obtain ⟨cA2, cc2, hce2⟩ := hq2.cols.shape
  obtain ⟨gA2, gc2, hge2⟩ := hq2.aggs.shape
  clear hq hq2 hs
  obtain ⟨tab, cols, ⟨⟨wo, wc, wm, ⟨wn, wi, wt⟩, wk, wp⟩, wks⟩, aggs, by_⟩ := q
  obtain ⟨tab2, cols2, ⟨⟨wo2, wc2, wm2, ⟨wn2, wi2, wt2⟩, wk2, wp2⟩, wks2⟩, aggs2, by2_⟩ := q2
  obtain ⟨sA, sn, sc⟩ := s
  obtain ⟨sA2, sn2, sc2⟩ := s2
  dsimp only at hce hge hce2 hge2
  subst hce
  subst hge
  subst hce2
  subst hge2
  unfold qyV qyC kidV at *
  dsimp only [Pd.hd, Pd.kids] at *
  have hbc : bc = bd := HCE.out
  subst hbc
  clear HCE
  by_cases ht : tab = tab2
  · have htb : (tab == tab2) = true := by rw [beq_iff_eq]; exact ht
    have htb2 : (tab != tab2) = false := by rw [bne, htb]; rfl
    have HT0 := Lib.hid ht
    clear ht
    by_cases hb : by_ = by2_
    · have hbb : (by_ == by2_) = true := by rw [beq_iff_eq]; exact hb
      have hbb2 : (by_ != by2_) = false := by rw [bne, hbb]; rfl
      have HB0 := Lib.hid hb
      clear hb
      go_enter Tryz.func9, Tryz.ntmps9
      go_wp2_with fail
      refine (HC.out _ Q0.out.sls R0.out.sls).mono ?_
      rintro e w1 ⟨rfl, f1⟩
      have Q1 := Lib.hid (Q0.out.non f1)
      have R1 := Lib.hid (R0.out.non f1)
      clear f1
      obtain ⟨g0, g1, g2, g3, g4, g5, g6, g7, g8, g9, g10, g11, g12⟩ := Q1.out.cells
      dsimp only [Pd.hd, Pd.kids] at g0 g1 g2 g3 g4 g5 g6 g7 g8 g9 g10 g11 g12
      obtain ⟨k0, k1, k2, k3, k4, k5, k6, k7, k8, k9, k10, k11, k12⟩ := R1.out.cells
      dsimp only [Pd.hd, Pd.kids] at k0 k1 k2 k3 k4 k5 k6 k7 k8 k9 k10 k11 k12
      cases bc
      · have HE : Hid (r = false) := Lib.hid (by rw [HE0.out]; simp)
        clear HE0
        go_wp2
        go_ret
        exact ⟨ret_boolE HE.out.symm, Q1.out.fr⟩
      · go_wp2_with fail
        refine (HP.out _ Q1.out.sls R1.out.sls).mono ?_
        rintro e w2 ⟨rfl, f2⟩
        have Q2 := Lib.hid (Q1.out.non f2)
        have R2 := Lib.hid (R1.out.non f2)
        clear f2
        clear g0 g1 g2 g3 g4 g5 g6 g7 g8 g9 g10 g11 g12 k0 k1 k2 k3 k4 k5 k6 k7 k8 k9 k10 k11 k12
        obtain ⟨g0, g1, g2, g3, g4, g5, g6, g7, g8, g9, g10, g11, g12⟩ := Q2.out.cells
        dsimp only [Pd.hd, Pd.kids] at g0 g1 g2 g3 g4 g5 g6 g7 g8 g9 g10 g11 g12
        obtain ⟨k0, k1, k2, k3, k4, k5, k6, k7, k8, k9, k10, k11, k12⟩ := R2.out.cells
        dsimp only [Pd.hd, Pd.kids] at k0 k1 k2 k3 k4 k5 k6 k7 k8 k9 k10 k11 k12
        cases bp
        · have HE : Hid (r = false) := Lib.hid (by rw [HE0.out]; simp)
          clear HE0
          go_wp2
          go_ret
          exact ⟨ret_boolE HE.out.symm, Q2.out.fr⟩
        · have HE1 : Hid (r = decide (aggs = aggs2)) := Lib.hid (by rw [HE0.out, decide_eq_true HT0.out, decide_eq_true HB0.out]; simp)
          clear HE0
          by_cases hlen : aggs.length = aggs2.length
          · have hln : ((aggs.length : Int) != aggs2.length) = false := by rw [hlen]; simp
            have hle : aggs.length ≤ aggs2.length := by omega
            have hge : aggs2.length ≤ aggs.length := by omega
            clear hlen
            have HA1 := Lib.hid Q2.out.sls.aggs
            have HA2 := Lib.hid R2.out.sls.aggs
            go_wp2
            go_loopw [5] (fun i wr => ∃ k : Nat, k ≤ aggs.length ∧ i = .int .i64 k ∧ Hid (aggs.take k = aggs2.take k) ∧ ∃ n, wr = w2.drewN n) (fun i _ => aggs.length - (intOf i).toNat)
            case atStart => exact ⟨0, Nat.zero_le _, rfl, Lib.hid rfl, 0, rfl⟩
            case round =>
              obtain ⟨k, hk, rfl, HT, n, rfl⟩ := hrel
              by_cases hlt : k < aggs.length
              · obtain ⟨a, rfl, _, d0, d1⟩ := Ns.gat HA1.out k hlt
                obtain ⟨b, rfl, _, y0, y1⟩ := Ns.gat HA2.out k (by omega)
                have q := fun W => run_neq_ag W aggs[k] (aggs2[k]'(by omega))
                by_cases he : aggs[k] = aggs2[k]'(by omega)
                · have HE := Lib.hid (take_eqA hlt (by omega) HT.out he)
                  rw [← he] at q
                  simp only [← he] at y0 y1
                  rw [aeq_self] at q
                  clear he
                  try dsimp only at d0 d1 y0 y1 q
                  generalize aggs[k] = x at *
                  obtain ⟨xn, xt⟩ := x
                  try dsimp only at d0 d1 y0 y1 q
                  go_wp2
                  go_quiet (fail)
                  go_wp2
                  go_roundw
                  case rel => exact ⟨k + 1, by omega, by go_num, HE, _, rfl⟩
                  case measure => simp [intOf]; omega
                · have HE : Hid (r = false) := Lib.hid (by rw [HE1.out, decide_eq_false (take_neA hlt (by omega) he)])
                  have hx : aeq aggs[k] (aggs2[k]'(by omega)) = false := decide_eq_false he
                  rw [hx] at q
                  clear he hx HE1
                  try dsimp only at d0 d1 y0 y1 q
                  generalize aggs[k] = x at *
                  generalize aggs2[k]'(by omega) = y at *
                  obtain ⟨xn, xt⟩ := x
                  obtain ⟨yn, yt⟩ := y
                  try dsimp only at d0 d1 y0 y1 q
                  go_wp2
                  go_quiet (fail)
                  go_wp2
                  go_ret
                  exact ⟨ret_boolE HE.out.symm, (Q2.out.fr.drewN _).drewN _⟩
              · have HE : Hid (r = true) := Lib.hid (by
                  have := HT.out
                  rw [List.take_of_length_le (by omega), List.take_of_length_le (by omega)] at this
                  rw [HE1.out, decide_eq_true this])
                clear HE1 HT
                go_wp2
                go_ret
                exact ⟨ret_boolE HE.out.symm, Q2.out.fr.drewN _⟩
          · have hln : ((aggs.length : Int) != aggs2.length) = true := by rw [bne_iff_ne]; omega
            have HE : Hid (r = false) := Lib.hid (by rw [HE1.out]; exact decide_eq_false (fun e => hlen (by rw [e])))
            clear HE1 hlen
            go_wp2
            go_ret
            exact ⟨ret_boolE HE.out.symm, Q2.out.fr⟩
    · have hbb : (by_ == by2_) = false := by rw [beq_eq_false_iff_ne]; exact hb
      have hbb2 : (by_ != by2_) = true := by rw [bne, hbb]; rfl
      have HE : Hid (r = false) := Lib.hid (by rw [HE0.out, decide_eq_false hb]; simp)
      clear HE0 hb
      go_enter Tryz.func9, Tryz.ntmps9
      go_wp2
      go_ret
      exact ⟨ret_boolE HE.out.symm, Q0.out.fr⟩
  · have htb : (tab == tab2) = false := by rw [beq_eq_false_iff_ne]; exact ht
    have htb2 : (tab != tab2) = true := by rw [bne, htb]; rfl
    have HE : Hid (r = false) := Lib.hid (by rw [HE0.out, decide_eq_false ht]; rfl)
    clear HE0 ht
    go_enter Tryz.func9, Tryz.ntmps9
    go_wp2
    go_ret
    exact ⟨ret_boolE HE.out.symm, Q0.out.fr⟩
end Go.Proofs.YtipgaafgnefmdaaGreatDoor


namespace Go.Proofs.YtipgaafgnefmdaaGreatDoor
set_option linter.unusedVariables false
set_option linter.unusedSimpArgs false
set_option maxRecDepth 100000
open Go.RowKit

set_option maxHeartbeats 4000000 in
theorem pwholeP_any (s : Tx) (w : World) (hW : Lw w) :
    Calls Tryz.prog 30 #[.string ⟨s.toArray⟩, .func (.func 31) #[] #[], .func (.func 32) #[] #[]] w (TelP s w) := by
  have FA : Fr Non w ((w.alloc (.cells #[.int .i64 0, .string ⟨#[]⟩, .int .i64 0, .bool false, .int .i64 0, .string ⟨#[]⟩, .int .i64 0, .string ⟨#[]⟩, .slice none 0 0] 28)).alloc (.cells #[.int .i64 0, .string ⟨#[]⟩, .int .i64 0, .bool false, .int .i64 0, .string ⟨#[]⟩, .int .i64 0, .string ⟨#[]⟩, .slice none 0 0] 28)) := ((Fr.refl Non w).alloc _).alloc _
  have A1 := Lib.hid (wall_any s _ (hW.non FA))
  have HZ0 : Hid (PdB ((w.alloc (.cells #[.int .i64 0, .string ⟨#[]⟩, .int .i64 0, .bool false, .int .i64 0, .string ⟨#[]⟩, .int .i64 0, .string ⟨#[]⟩, .slice none 0 0] 28)).alloc (.cells #[.int .i64 0, .string ⟨#[]⟩, .int .i64 0, .bool false, .int .i64 0, .string ⟨#[]⟩, .int .i64 0, .string ⟨#[]⟩, .slice none 0 0] 28)) w.heap.size noPd.hd noKv) := Lib.hid ((pd_new w _ noPd.hd noKv rfl).fr ((Fr.refl Non _).alloc _) (fun e => e))
  have HN0 : Hid (PdB ((w.alloc (.cells #[.int .i64 0, .string ⟨#[]⟩, .int .i64 0, .bool false, .int .i64 0, .string ⟨#[]⟩, .int .i64 0, .string ⟨#[]⟩, .slice none 0 0] 28)).alloc (.cells #[.int .i64 0, .string ⟨#[]⟩, .int .i64 0, .bool false, .int .i64 0, .string ⟨#[]⟩, .int .i64 0, .string ⟨#[]⟩, .slice none 0 0] 28)) (w.heap.size + 1) noPd.hd noKv) := Lib.hid (by
    have := pd_new (w.alloc (.cells #[.int .i64 0, .string ⟨#[]⟩, .int .i64 0, .bool false, .int .i64 0, .string ⟨#[]⟩, .int .i64 0, .string ⟨#[]⟩, .slice none 0 0] 28)) _ noPd.hd noKv rfl
    rw [show (w.alloc (.cells #[.int .i64 0, .string ⟨#[]⟩, .int .i64 0, .bool false, .int .i64 0, .string ⟨#[]⟩, .int .i64 0, .string ⟨#[]⟩, .slice none 0 0] 28)).heap.size = w.heap.size + 1 by simp] at this
    exact this)
  have HFA := Lib.hid FA
  have T1 := Lib.hid (fun e => tp_err (s := s) e)
  have T2 := Lib.hid (fun e e2 => tp_no (s := s) e e2)
  have T3 := Lib.hid (fun e e2 => tp_yes (s := s) e e2)
  have HEN := Lib.hid (fun e => ws_end (s := s) e)
  have hc1 := Tryz.call31
  have hc2 := Tryz.call32
  clear FA hW
  generalize (wsB s).1 = l at *
  generalize (wsB s).2.1 = n1 at *
  generalize (wsB s).2.2 = n2 at *
  go_enter Tryz.func30, Tryz.ntmps30
  go_wp2_with fail
  refine A1.out.mono ?_
  rintro e w1 ⟨v, rfl, hTk, hF⟩
  have HZ1 := Lib.hid (HZ0.out.fr hF (fun e => e))
  have HN1 := Lib.hid (HN0.out.fr hF (fun e => e))
  have HF1 := Lib.hid (HFA.out.trans hF)
  have HS1 : Hid (w.heap.size + 2 ≤ w1.heap.size) := Lib.hid (by have := hF.size; simpa using this)
  have HTK := Lib.hid hTk
  clear hTk hF A1 HZ0 HN0 HFA
  by_cases he : n2 = 0
  · have HEND := Lib.hid (HEN.out he)
    have hb : ((n2 : Int) != 0) = false := by rw [bne_eq_false_iff_eq]; omega
    have T21 := Lib.hid (fun e2 => T2.out he e2)
    have T31 := Lib.hid (fun e2 => T3.out he e2)
    clear T1 T2 T3 HEN he
    obtain ⟨tA, tc, hv⟩ := HTK.out.shape
    subst hv
    have FB : Fr Non w1 (w1.alloc (.cells #[.slice tA l.length tc, .bool false, .int .i64 0] 83)) := (Fr.refl Non w1).alloc _
    have HPX : Hid (PX (w1.heap.size + 1) w1.heap.size 0 (w1.alloc (.cells #[.slice tA l.length tc, .bool false, .int .i64 0] 83)) (.ok l)) := Lib.hid ⟨tA, tc, Blk.new w1 _ _, HTK.out.non FB, HEND.out, fun a ha => by
      subst ha
      obtain ⟨a', e1, _, _, hat⟩ := HTK.out.addr HEND.out.ne
      obtain rfl := Option.some.inj e1
      have hlt := World.block_lt_of_cell? _ _ (hat 0 HEND.out.ne 0 _ rfl)
      rw [show (a.add (0 * 4)).add 0 = a by cases a; rfl] at hlt
      exact ⟨by omega, by omega⟩, by omega, by simp⟩
    have HZ2 := Lib.hid (HZ1.out.fr FB (fun e => e))
    have HN2 := Lib.hid (HN1.out.fr FB (fun e => e))
    have HF2 := Lib.hid (HF1.out.trans FB)
    clear FB HZ1 HN1 HTK HEND
    have RD := Lib.hid (ppred_any (w1.heap.size + 1) w1.heap.size _ (.ok l) HPX.out)
    have HON : Hid (onS (.ok l) (predK 6) = predK 6 l) := Lib.hid rfl
    rw [HON.out] at RD
    go_wp2_with fail
    refine RD.out.mono ?_
    rintro e w3 ⟨⟨q, v, rfl, ⟨k, rfl, hkd, hkb⟩, hT, hA⟩, hF⟩
    have HKD : Hid (KdS (fun b => w.heap.size + 1 ≤ b) w3 k q.kids) := Lib.hid (hkd.imp fun b hb _ => by have := HS1.out; simp at hb; omega)
    have HKB := Lib.hid hkb
    clear hkd hkb
    have HZ3 := Lib.hid (HZ2.out.fr hF (fun e => by have : w.heap.size = w1.heap.size := e; have := HS1.out; omega))
    have HN3 := Lib.hid (HN2.out.fr hF (fun e => by have : w.heap.size + 1 = w1.heap.size := e; have := HS1.out; omega))
    have HF3 := Lib.hid ((HF1.out.then ((Fr.refl Non w1).alloc (.cells #[.slice tA l.length tc, .bool false, .int .i64 0] 83))).fresh hF (fun k e => by have : k = w1.heap.size := e; have := HS1.out; omega))
    have HS3 : Hid (w1.heap.size + 1 ≤ w3.heap.size) := Lib.hid (by have := hF.size; simpa using this)
    have HT3 := Lib.hid hT
    have HA := Lib.hid hA
    clear hT hA hF RD HZ2 HN2 HF2 HF1 HPX HON
    obtain ⟨⟨xo, xc, xm, ⟨xn, xi, xt⟩, xk, xp⟩, xks⟩ := q
    obtain ⟨kA, kn, kc⟩ := k
    have FB : Fr Non w3 (w3.alloc (.cells #[.int .i64 xo, .string ⟨xc.toArray⟩, .int .i64 xm, .bool xn, .int .i64 xi, .string ⟨xt.toArray⟩, .int .i64 xk, .string ⟨xp.toArray⟩, .slice kA kn kc] 28)) := (Fr.refl Non w3).alloc _
    have HP4 : Hid (PdB (w3.alloc (.cells #[.int .i64 xo, .string ⟨xc.toArray⟩, .int .i64 xm, .bool xn, .int .i64 xi, .string ⟨xt.toArray⟩, .int .i64 xk, .string ⟨xp.toArray⟩, .slice kA kn kc] 28)) w3.heap.size ⟨xo, xc, xm, ⟨xn, xi, xt⟩, xk, xp⟩ ⟨kA, kn, kc⟩) := Lib.hid (pd_new w3 _ ⟨xo, xc, xm, ⟨xn, xi, xt⟩, xk, xp⟩ ⟨kA, kn, kc⟩ rfl)
    have HQ4 : Hid (KdS (fun b => w.heap.size + 1 ≤ b) (w3.alloc (.cells #[.int .i64 xo, .string ⟨xc.toArray⟩, .int .i64 xm, .bool xn, .int .i64 xi, .string ⟨xt.toArray⟩, .int .i64 xk, .string ⟨xp.toArray⟩, .slice kA kn kc] 28)) ⟨kA, kn, kc⟩ xks) := Lib.hid (HKD.out.non FB)
    clear HKD
    unfold pdV pdC kidV
    dsimp only [Pd.hd, Pd.kids] at *
    have HZ4 := Lib.hid (HZ3.out.fr FB (fun e => e))
    have HN4 := Lib.hid (HN3.out.fr FB (fun e => e))
    have HF4 := Lib.hid (HF3.out.trans FB)
    have HT4 := Lib.hid (HT3.out.non FB)
    clear FB HZ3 HN3 HF3 HT3
    have IS := Lib.hid (pis_any (w1.heap.size + 1) w1.heap.size 0 0 _ _ HT4.out)
    generalize kindX 0 (dropV (predK 6 l)) = b at *
    go_wp2_with fail
    refine IS.out.mono ?_
    rintro e w5 ⟨rfl, rfl⟩
    clear IS
    generalize w3.alloc (.cells #[.int .i64 xo, .string ⟨xc.toArray⟩, .int .i64 xm, .bool xn, .int .i64 xi, .string ⟨xt.toArray⟩, .int .i64 xk, .string ⟨xp.toArray⟩, .slice kA kn kc] 28) = W4 at *
    cases b
    · have TE := Lib.hid (T21.out (by first | rfl | trivial))
      clear T21 T31
      obtain ⟨lb, bad, hps, hpl⟩ := HT4.out.place
      have AT := Lib.hid (fun W hf => pat_any (w1.heap.size + 1) w1.heap.size 0 lb bad W (hps.non hf))
      have HPL := Lib.hid hpl
      have TE2 : Hid (telP s = (noPd, (hdT lb).at_, 2)) := Lib.hid (by rw [HPL.out]; exact TE.out)
      clear hps hpl HT4 HP4 HQ4 HA
      obtain ⟨f0, f1, f2, f3, f4, f5, f6, f7, f8⟩ := pdB_frozen HZ4.out
      obtain ⟨r0, r1, r2, r3, r4, r5, r6, r7, r8⟩ := pdB_cells HZ4.out
      obtain ⟨p0, p1, p2, p3, p4, p5, p6, p7, p8⟩ := pdB_cells HN4.out
      dsimp only [noKv, noPd, zCl, Pd.hd] at r0 r1 r2 r3 r4 r5 r6 r7 r8 p0 p1 p2 p3 p4 p5 p6 p7 p8
      have E5 := Lib.hid (setPd_B HZ4.out noPd.hd noKv)
      have G5 := Lib.hid (HF4.out.fresh (setPd_fr W4 w.heap.size noPd.hd noKv) (fun k e => by have : k = w.heap.size := e; omega))
      unfold setPd kidV noKv noPd zCl at E5 G5
      dsimp only [Pd.hd] at E5 G5
      clear HZ4 HN4
      go_upto_region 8 with fail
      go_region_with (first | (go_at_call 42; refine (AT.out _ (by first | exact (Fr.refl Non _) | exact (Fr.refl Non _).drew | exact (Fr.refl Non _).drewN _)).mono ?_; rintro e wz ⟨rfl, rfl⟩))
      all_goals (go_wp2; exact bodyPost_ret (ret_pd3 (p := 6) (u := 7) (v := 8) rfl _ _ w.heap.size noPd.hd noKv _ _ rfl rfl rfl E5.out.drew) rfl (TelP.none TE2.out G5.out.drew))

    · obtain ⟨q0, r0, hx, hbg, hy1, hy2⟩ := T31.out (by first | rfl | trivial)
      obtain rfl := HA.out q0 r0 hx
      have HY1 := Lib.hid hy1
      have HY2 := Lib.hid hy2
      have MY := Lib.hid (pmay_big ⟨xo, xc, xm, ⟨xn, xi, xt⟩, xk, xp⟩ ⟨kA, kn, kc⟩ xks W4 HQ4.out.kd HKB.out hbg.1 hbg.2)
      clear hx hy1 hy2 hbg T21 T31 HA HT4
      generalize mayP (.mk ⟨xo, xc, xm, ⟨xn, xi, xt⟩, xk, xp⟩ xks) = m at *
      obtain ⟨p0, p1, p2, p3, p4, p5, p6, p7, p8⟩ := pdB_cells HP4.out
      dsimp only [Pd.hd] at p0 p1 p2 p3 p4 p5 p6 p7 p8
      unfold pdV pdC kidV at MY
      dsimp only at MY
      go_wp2_with fail
      refine MY.out.mono ?_
      rintro e w6 ⟨rfl, hF⟩
      have HZ6 := Lib.hid (HZ4.out.fr hF (fun e => e))
      have HN6 := Lib.hid (HN4.out.fr hF (fun e => e))
      have HP6 := Lib.hid (HP4.out.fr hF (fun e => e))
      have HF6 := Lib.hid (HF4.out.trans hF)
      have HQ6 := Lib.hid (HQ4.out.non hF)
      clear hF MY HZ4 HN4 HP4 HF4 HQ4 p0 p1 p2 p3 p4 p5 p6 p7 p8
      cases m
      · have TE := Lib.hid (HY2.out (by first | rfl | trivial))
        clear HY1 HY2 HP6 HQ6
        obtain ⟨f0, f1, f2, f3, f4, f5, f6, f7, f8⟩ := pdB_frozen HZ6.out
        obtain ⟨r0, r1, r2, r3, r4, r5, r6, r7, r8⟩ := pdB_cells HZ6.out
        obtain ⟨p0, p1, p2, p3, p4, p5, p6, p7, p8⟩ := pdB_cells HN6.out
        dsimp only [noKv, noPd, zCl, Pd.hd] at r0 r1 r2 r3 r4 r5 r6 r7 r8 p0 p1 p2 p3 p4 p5 p6 p7 p8
        have E5 := Lib.hid (setPd_B HZ6.out noPd.hd noKv)
        have G5 := Lib.hid (HF6.out.fresh (setPd_fr w6 w.heap.size noPd.hd noKv) (fun k e => by have : k = w.heap.size := e; omega))
        unfold setPd kidV noKv noPd zCl at E5 G5
        dsimp only [Pd.hd] at E5 G5
        clear HZ6 HN6
        go_wp2
        exact bodyPost_ret (ret_pd3 (p := 6) (u := 7) (v := 8) rfl _ _ w.heap.size noPd.hd noKv _ _ rfl rfl rfl E5.out) rfl (TelP.none TE.out G5.out)
      · have TE := Lib.hid (HY1.out (by first | rfl | trivial))
        clear HY1 HY2 HN6
        obtain ⟨f0, f1, f2, f3, f4, f5, f6, f7, f8⟩ := pdB_frozen HZ6.out
        obtain ⟨r0, r1, r2, r3, r4, r5, r6, r7, r8⟩ := pdB_cells HZ6.out
        obtain ⟨p0, p1, p2, p3, p4, p5, p6, p7, p8⟩ := pdB_cells HP6.out
        dsimp only [noKv, noPd, zCl, Pd.hd] at r0 r1 r2 r3 r4 r5 r6 r7 r8 p0 p1 p2 p3 p4 p5 p6 p7 p8
        have E5 := Lib.hid (setPd_B HZ6.out ⟨xo, xc, xm, ⟨xn, xi, xt⟩, xk, xp⟩ ⟨kA, kn, kc⟩)
        have G5 := Lib.hid (HF6.out.fresh (setPd_fr w6 w.heap.size ⟨xo, xc, xm, ⟨xn, xi, xt⟩, xk, xp⟩ ⟨kA, kn, kc⟩) (fun k e => by have : k = w.heap.size := e; omega))
        have K5 := Lib.hid ((HQ6.out.fr (setPd_fr w6 w.heap.size ⟨xo, xc, xm, ⟨xn, xi, xt⟩, xk, xp⟩ ⟨kA, kn, kc⟩) (fun b hb _ e => by have : b = w.heap.size := e; omega)).imp (S' := fun b => w.heap.size ≤ b) fun b hb _ => by omega)
        clear HZ6 HP6
        unfold setPd kidV at E5 G5 K5
        dsimp only [Pd.hd] at E5 G5 K5
        go_wp2
        exact bodyPost_ret (ret_pd3 (p := 6) (u := 7) (v := 8) rfl _ _ w.heap.size ⟨xo, xc, xm, ⟨xn, xi, xt⟩, xk, xp⟩ ⟨kA, kn, kc⟩ _ _ rfl rfl rfl E5.out) rfl (TelP.some TE.out K5.out HKB.out G5.out)

  · have TE := Lib.hid (T1.out he)
    have hb : ((n2 : Int) != 0) = true := by rw [bne_iff_ne]; omega
    clear T1 T2 T3 HEN he HTK
    obtain ⟨f0, f1, f2, f3, f4, f5, f6, f7, f8⟩ := pdB_frozen HZ1.out
    obtain ⟨r0, r1, r2, r3, r4, r5, r6, r7, r8⟩ := pdB_cells HZ1.out
    obtain ⟨p0, p1, p2, p3, p4, p5, p6, p7, p8⟩ := pdB_cells HN1.out
    dsimp only [noKv, noPd, zCl, Pd.hd] at r0 r1 r2 r3 r4 r5 r6 r7 r8 p0 p1 p2 p3 p4 p5 p6 p7 p8
    have E5 := Lib.hid (setPd_B HZ1.out noPd.hd noKv)
    have G5 := Lib.hid (HF1.out.fresh (setPd_fr w1 w.heap.size noPd.hd noKv) (fun k e => by have : k = w.heap.size := e; omega))
    unfold setPd kidV noKv noPd zCl at E5 G5
    dsimp only [Pd.hd] at E5 G5
    clear HZ1 HN1
    go_wp2
    exact bodyPost_ret (ret_pd3 (p := 6) (u := 7) (v := 8) rfl _ _ w.heap.size noPd.hd noKv _ _ rfl rfl rfl E5.out) rfl (TelP.none TE.out G5.out)
theorem pWhere_any (s : Tx) (w : World) (hW : Lw w) : Calls Tryz.prog 11 #[.string ⟨s.toArray⟩] w (TelP s w) := by
  have FA : Fr Non w (w.alloc (.cells #[.int .i64 0, .string ⟨#[]⟩, .int .i64 0, .bool false, .int .i64 0, .string ⟨#[]⟩, .int .i64 0, .string ⟨#[]⟩, .slice none 0 0] 28)) := (Fr.refl Non w).alloc _
  have A1 := Lib.hid (pwholeP_any s _ (hW.non FA))
  have HZ0 : Hid (PdB (w.alloc (.cells #[.int .i64 0, .string ⟨#[]⟩, .int .i64 0, .bool false, .int .i64 0, .string ⟨#[]⟩, .int .i64 0, .string ⟨#[]⟩, .slice none 0 0] 28)) w.heap.size noPd.hd noKv) := Lib.hid (pd_new w _ noPd.hd noKv rfl)
  have HFA := Lib.hid FA
  clear FA hW
  go_enter Tryz.func11, Tryz.ntmps11
  go_wp2_with fail
  refine A1.out.mono ?_
  rintro e w1 ⟨k, rfl, hG, hb, hF⟩
  have HZ1 := Lib.hid (HZ0.out.fr hF (fun e => e))
  have HF1 := Lib.hid (HFA.out.trans hF)
  have HG : Hid (KdS (fun b => w.heap.size + 1 ≤ b) w1 k (telP s).1.kids) := Lib.hid (hG.imp fun b hb _ => by simpa using hb)
  have HB := Lib.hid hb
  have HTQ : Hid (telP s = (.mk (telP s).1.hd (telP s).1.kids, (telP s).2.1, (telP s).2.2)) := Lib.hid (by rw [← Pd.eta])
  clear hG hF hb A1 HZ0 HFA
  generalize (telP s).1.hd = hd at *
  generalize (telP s).1.kids = xks at *
  generalize (telP s).2.1 = n at *
  generalize (telP s).2.2 = er at *
  obtain ⟨xo, xc, xm, ⟨xn, xi, xt⟩, xk, xp⟩ := hd
  obtain ⟨kA, kn, kc⟩ := k
  obtain ⟨r0, r1, r2, r3, r4, r5, r6, r7, r8⟩ := pdB_cells HZ1.out
  obtain ⟨f0, f1, f2, f3, f4, f5, f6, f7, f8⟩ := pdB_frozen HZ1.out
  dsimp only [noKv, noPd, zCl, Pd.hd] at r0 r1 r2 r3 r4 r5 r6 r7 r8
  have E5 := Lib.hid (setPd_B HZ1.out ⟨xo, xc, xm, ⟨xn, xi, xt⟩, xk, xp⟩ ⟨kA, kn, kc⟩)
  have G5 := Lib.hid (HF1.out.fresh (setPd_fr w1 w.heap.size ⟨xo, xc, xm, ⟨xn, xi, xt⟩, xk, xp⟩ ⟨kA, kn, kc⟩) (fun k e => by have : k = w.heap.size := e; omega))
  have K5 := Lib.hid ((HG.out.fr (setPd_fr w1 w.heap.size ⟨xo, xc, xm, ⟨xn, xi, xt⟩, xk, xp⟩ ⟨kA, kn, kc⟩) (fun b hb _ e => by have : b = w.heap.size := e; omega)).imp (S' := fun b => w.heap.size ≤ b) fun b hb _ => by omega)
  clear HZ1 HG HF1
  unfold setPd kidV at E5 G5 K5
  unfold pdV pdC kidV
  dsimp only at *
  go_wp2
  exact bodyPost_ret (ret_pd3 (p := 2) (u := 3) (v := 4) rfl _ _ w.heap.size ⟨xo, xc, xm, ⟨xn, xi, xt⟩, xk, xp⟩ ⟨kA, kn, kc⟩ _ _ rfl rfl rfl E5.out) rfl (TelP.some HTQ.out K5.out HB.out G5.out)
end Go.Proofs.YtipgaafgnefmdaaGreatDoor


namespace Go.Proofs.YtipgaafgnefmdaaGreatDoor
set_option linter.unusedVariables false
set_option linter.unusedSimpArgs false
set_option maxRecDepth 100000
open Go.RowKit

/-- the predicate lies in block b of a world that has come of w0 -/
structure Pin (w0 : World) (b : Nat) (h : Ph) (s : Kv) (ks : List Pd) (w : World) : Prop where
  fr : Fr Non w0 w
  blk : PdB w b h s
  kids : Kd w s ks
theorem Pin.non {w0 w w' : World} {b : Nat} {h : Ph} {s : Kv} {ks : List Pd} (e : Pin w0 b h s ks w) (hf : Fr Non w w') : Pin w0 b h s ks w' :=
  ⟨e.fr.trans hf, e.blk.fr hf (fun e => e), e.kids.non hf⟩
theorem Pin.cells {w0 w : World} {b : Nat} {h : Ph} {s : Kv} {ks : List Pd} (e : Pin w0 b h s ks w) : PBlk w b h s := pdB_cells e.blk
theorem pd_lay {w W : World} {h : Ph} {s : Kv} {ks : List Pd} (hf : Fr Non w W) (e : Kd W s ks) :
    Pin w W.heap.size h s ks (W.alloc (.cells (pdC h s) 28)) :=
  have hF : Fr Non W (W.alloc (.cells (pdC h s) 28)) := (Fr.refl Non W).alloc _
  ⟨hf.trans hF, pd_new W _ h s rfl, e.non hF⟩
theorem sameP_self (p : Pd) : sameP p p = true := (same_iff p p).2 rfl

end Go.Proofs.YtipgaafgnefmdaaGreatDoor


namespace Go.Proofs.YtipgaafgnefmdaaGreatDoor
set_option linter.unusedVariables false
set_option linter.unusedSimpArgs false
set_option maxRecDepth 100000
open Go.RowKit

/-- behind an operation more may be held than ahead of it -/
theorem wpAnyH_more {P : Program} {md : Region.Mode} {ops : Array Oper} {Q : Exit → Act → World → Prop} {S S' : World → Prop} (h : ∀ w, S' w → S w) :
    ∀ (fuel : Nat) (listed : Array Bool) (a : Act) (w : World), wpAnyH P md ops Q S' fuel listed a w → wpAnyH P md ops Q S fuel listed a w
  | 0, _, _, _, hw => hw
  | fuel + 1, _, _, _, hw => ⟨hw.1, fun i hi => wpOp_mono (fun a' w' h' => ⟨h w' h'.1, wpAnyH_more h fuel _ a' w' h'.2⟩) (hw.2 i hi)⟩
end Go.Proofs.YtipgaafgnefmdaaGreatDoor
