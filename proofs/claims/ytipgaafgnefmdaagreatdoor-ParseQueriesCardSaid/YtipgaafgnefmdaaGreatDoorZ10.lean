/-
  Joined: Layer 19: the document's reader: what is asked for, whichever way; the end; the document's Where. · Layer 18: which queries there may be, the program's: the document's. · Layer 19: the document's Query. · Layer 17: whether two are the same, both programs'. · Layer 18: which queries there may be, the program's: whether two queries are the same, both programs'. · Layer 19: the walk of ParseQueries. · A row's frame that hands the world's shape on. · Layer 16: the variables that a row lists, opened; a row's frame that hands the world's shape on.
-/
import Derived.Deep.Slices
import Derived.Laws.StructEq
import Derived.Laws.Rows
import Derived.Laws.ResultCell
import Derived.Lib.Zigzag
import Derived.Laws.Cover1
import Derived.Deep.QuietTactic
import Derived.BigQuiet
import Derived.Deep.RegionHeld3
import Derived.Deep.DrawnRows
import Derived.Test.YtipgaafgnefmdaaGreatDoorZ8
import Derived.Test.YtipgaafgnefmdaaGreatDoorZ4
import Derived.Test.YtipgaafgnefmdaaGreatDoorZ9
import Derived.Deep.RegionWith
import Derived.Deep.Cut
import Derived.Test.YtipgaafgnefmdaaGreatDoorZ6
import Derived.Deep.CutRange
import Derived.Test.YtipgaafgnefmdaaGreatDoorRows
import Derived.Test.YtipgaafgnefmdaaGreatDoorZ1
import Derived.LaidMore
import Derived.Lay
import Derived.Handed
import Derived.Shelf.Vars
import Derived.OpenShut
import Derived.Stop.Joined
import Derived.ProofKit
import Derived.Test.YtipgaafgnefmdaaGreatDoorZ5
import Derived.Stop.LaidErr
import Derived.Lib.LaidTab

namespace Go.Proofs.YtipgaafgnefmdaaGreatDoor
set_option linter.unusedVariables false
set_option linter.unusedSimpArgs false
set_option maxRecDepth 100000
open Go.RowKit

theorem twhat_star (B g Q : Nat) (σ : Sg) (w : World) (h : TX B g w σ) (hQ : QB w Q ⟨[], [], allPd, [], []⟩ nilV noKv nilV) (hB : B ≤ Q) (h1 : isX 4 [42] σ = true) :
    Calls Tryz.prog 23 #[.pointer (some ⟨g, 0, none⟩), .pointer (some ⟨Q, 0, none⟩)] w (WhatE B g Q w (onS σ whatK)) := by
  have HL := Lib.hid h.lt
  have HBQ := Lib.hid hB
  have HQ0 := Lib.hid hQ
  have HX := Lib.hid (what_star h1)
  have I1 := Lib.hid (xis_any B g 4 [42] σ w h)
  rw [h1] at I1
  obtain ⟨l, rfl, _⟩ := isX_ok h1
  have TK := Lib.hid (xtake_any B g l w h)
  clear h hQ hB h1
  generalize onS (.ok l) whatK = XW at *
  go_enter Tryz.func23, Tryz.ntmps23
  go_wp2_with fail
  refine I1.out.mono ?_
  rintro e wx ⟨rfl, rfl⟩
  clear I1
  go_wp2_with fail
  refine TK.out.mono ?_
  rintro e w1 ⟨⟨tv, rfl⟩, hT, hF⟩
  have HT := Lib.hid hT
  have HF := Lib.hid hF
  have HQ1 := Lib.hid (HQ0.out.fr hF (fun e => by have : Q = g := e; have := HL.out; have := HBQ.out; omega))
  clear hT hF TK HQ0
  go_wp2
  go_end0
  exact ⟨rfl, by rw [HX.out]; exact HT.out, ⟨[], nilV, [], nilV, HQ1.out, by rw [HX.out]; exact fun b r e => by cases e; rfl, nil_vs _, nil_own, nil_gs _, nil_own⟩, Fr.two HF.out⟩
theorem twhat_any (B g Q : Nat) (σ : Sg) (w : World) (h : TX B g w σ) (hQ : QB w Q ⟨[], [], allPd, [], []⟩ nilV noKv nilV) (hB : B ≤ Q) :
    Calls Tryz.prog 23 #[.pointer (some ⟨g, 0, none⟩), .pointer (some ⟨Q, 0, none⟩)] w (WhatE B g Q w (onS σ whatK)) := by
  cases h1 : isX 4 [42] σ with
  | true => exact twhat_star B g Q σ w h hQ hB h1
  | false =>
    cases h2 : namedX σ with
    | true => exact twhat_names B g Q σ w h hQ hB h1 h2
    | false => exact twhat_aggs B g Q σ w h hQ hB h1 h2
theorem errK_place (σ : Sg) : onM σ errK = .error (placeX σ) := by cases σ <;> rfl
theorem TX.badc {B g : Nat} {w : World} {k : Int} (h : TX B g w (.error k)) : w.cell? ⟨g, 1, none⟩ = some (.bool true) ∧ w.cell? ⟨g, 2, none⟩ = some (.int .i64 k) ∧ g < w.heap.size := by
  obtain ⟨l, A, c, hR⟩ := h
  exact ⟨hR.cells.2.1, hR.cells.2.2.1, hR.blk.lt⟩
/-- where a reader stands when it is told that nothing more may be left -/
def endX (σ : Sg) : Sg := if kindX 0 σ = true then σ else .error (placeX σ)
theorem endX_yes {σ : Sg} (h : kindX 0 σ = true) : endX σ = σ := if_pos h
theorem endX_no {σ : Sg} (h : kindX 0 σ = false) : endX σ = .error (placeX σ) := if_neg (by simp [h])
theorem tend_any (B g : Nat) (σ : Sg) (w : World) (h : TX B g w σ) :
    Calls Tryz.prog 28 #[.pointer (some ⟨g, 0, none⟩)] w fun e w' => e = .returned (.tuple #[]) ∧ TX B g w' (endX σ) ∧ Fr (One g) w w' := by
  have FL := Lib.hid (xfail_any B g σ w h)
  rw [errK_place] at FL
  have HY := Lib.hid (fun e => endX_yes (σ := σ) e)
  have HN := Lib.hid (fun e => endX_no (σ := σ) e)
  have HT := Lib.hid h
  cases σ with
  | error z =>
    obtain ⟨c1, _⟩ := h.bad
    have HE := Lib.hid (HN.out rfl)
    clear h HT HY HN
    generalize endX (.error z) = E at *
    go_enter Tryz.func28, Tryz.ntmps28
    go_wp2_with fail
    refine FL.out.mono ?_
    rintro e w2 ⟨rfl, hT, hF⟩
    have HT2 := Lib.hid hT
    have HF2 := Lib.hid hF
    clear hT hF
    go_wp2
    go_end0
    exact ⟨rfl, by rw [HE.out]; exact HT2.out, HF2.out⟩
  | ok l =>
    obtain ⟨A, c, hR⟩ := h
    obtain ⟨a, rfl, t0, t1, t2, t3⟩ := hR.tok
    obtain ⟨c0, c1, c2, z0, z1, z2⟩ := hR.cells
    have hln := hR.fin.ne
    have HK : Hid (kindX 0 (.ok l) = decide ((hdT l).kind = 0)) := Lib.hid rfl
    clear hR
    generalize endX (.ok l) = E at *
    generalize kindX 0 (.ok l) = b at *
    generalize placeX (.ok l) = pl at *
    generalize hdT l = t at *
    obtain ⟨tk, tt, tn, ta⟩ := t
    dsimp only at *
    by_cases hk : tk = 0
    · have HE : Hid (b = true) := Lib.hid (by rw [HK.out, decide_eq_true hk])
      clear HK FL
      subst hk
      go_enter Tryz.func28, Tryz.ntmps28
      go_wp2
      go_end0
      exact ⟨rfl, by rw [HY.out HE.out]; exact HT.out, Fr.refl _ _⟩
    · have HE : Hid (b = false) := Lib.hid (by rw [HK.out, decide_eq_false hk])
      have hkb : (tk != 0) = true := by rw [bne_iff_ne]; exact hk
      clear HK hk
      go_enter Tryz.func28, Tryz.ntmps28
      go_wp2_with fail
      refine FL.out.mono ?_
      rintro e w2 ⟨rfl, hT, hF⟩
      have HT2 := Lib.hid hT
      have HF2 := Lib.hid hF
      clear hT hF
      go_wp2
      go_end0
      exact ⟨rfl, by rw [HN.out HE.out]; exact HT2.out, HF2.out⟩
end Go.Proofs.YtipgaafgnefmdaaGreatDoor


namespace Go.Proofs.YtipgaafgnefmdaaGreatDoor
set_option linter.unusedVariables false
set_option linter.unusedSimpArgs false
set_option maxRecDepth 100000
open Go.RowKit

theorem rag_any (a : Ag) (w : World) (hl : a.col.length ≤ 1000000000) :
    Calls Tryz.prog 37 #[agV a] w fun e w' => e = .returned (.bool (agB a)) ∧ Fr Non w w' := by
  have N := fun W => rname_any a.col W hl
  have HF : Hid (Fr Non w (w.alloc (.cells #[.int .i64 a.op, .string ⟨a.col.toArray⟩] 69))) := Lib.hid ((Fr.refl Non w).alloc _)
  have HE0 : Hid (agB a = if a.op = 1 then decide (a.col = []) else decide (2 ≤ a.op ∧ a.op ≤ 5) && nameB a.col) := Lib.hid rfl
  obtain ⟨o, c⟩ := a
  unfold agV
  dsimp only at *
  generalize agB _ = r at *
  by_cases h1 : o = 1
  · subst h1
    clear N
    by_cases h0 : c = []
    · subst h0
      have HE : Hid (r = true) := Lib.hid (by rw [HE0.out]; rfl)
      clear HE0
      go_enter Tryz.func37, Tryz.ntmps37
      go_wp2
      go_ret
      exact ⟨ret_boolE HE.out.symm, HF.out⟩
    · have hb : (c == []) = false := by rw [beq_eq_false_iff_ne]; exact h0
      have HE : Hid (r = false) := Lib.hid (by rw [HE0.out, if_pos rfl]; exact decide_eq_false h0)
      clear HE0 h0
      go_enter Tryz.func37, Tryz.ntmps37
      go_wp2
      go_ret
      exact ⟨ret_boolE HE.out.symm, HF.out⟩
  · have hb1 : (o == 1) = false := by rw [beq_eq_false_iff_ne]; exact h1
    by_cases h2 : o < 2
    · have HE : Hid (r = false) := Lib.hid (by rw [HE0.out, if_neg h1, decide_eq_false (by omega)]; rfl)
      clear HE0 N
      go_enter Tryz.func37, Tryz.ntmps37
      go_wp2
      go_ret
      exact ⟨ret_boolE HE.out.symm, HF.out⟩
    · by_cases h5 : 5 < o
      · have HE : Hid (r = false) := Lib.hid (by rw [HE0.out, if_neg h1, decide_eq_false (by omega)]; rfl)
        clear HE0 N
        go_enter Tryz.func37, Tryz.ntmps37
        go_wp2
        go_ret
        exact ⟨ret_boolE HE.out.symm, HF.out⟩
      · have HE : Hid (r = nameB c) := Lib.hid (by rw [HE0.out, if_neg h1, decide_eq_true (by omega)]; rfl)
        generalize nameB c = b at *
        clear HE0
        replace N := Lib.hid N
        go_enter Tryz.func37, Tryz.ntmps37
        go_wp2_with fail
        refine (N.out _).mono ?_
        rintro e w1 ⟨rfl, f1⟩
        go_wp2
        go_ret
        exact ⟨ret_boolE HE.out.symm, HF.out.trans f1⟩

theorem all_moreG {α : Type} {p : α → Bool} {l : List α} {k : Nat} (h : k < l.length) (h1 : (l.take k).all p = true) (h2 : p l[k] = true) : (l.take (k + 1)).all p = true := by
  rw [List.take_succ_eq_append_getElem h, List.all_append, h1]; simp [h2]
theorem all_badG {α : Type} {p : α → Bool} {l : List α} {k : Nat} (h : k < l.length) (h2 : p l[k] = false) : l.all p = false := by
  rw [List.all_eq_false]; exact ⟨_, List.getElem_mem h, by rw [h2]; simp⟩
theorem all_endG {α : Type} {p : α → Bool} {l : List α} {k : Nat} (h : l.length ≤ k) (h1 : (l.take k).all p = true) : l.all p = true := by rwa [List.take_of_length_le h] at h1
theorem not_in {l : List Tx} {k : Nat} (h : k < l.length) (hn : ∀ j (hj : j < l.length), j < k → l[j] ≠ l[k]) : ¬ l[k] ∈ l.take k := by
  intro hm
  obtain ⟨j, hj, e⟩ := List.mem_iff_getElem.1 hm
  rw [List.length_take] at hj
  rw [List.getElem_take] at e
  exact hn j (by omega) (by omega) e
theorem is_in {l : List Tx} {k j : Nat} (h : k < l.length) (hj : j < k) (e : l[j] = l[k]) : l[k] ∈ l.take k := by
  rw [← e]
  exact List.mem_iff_getElem.2 ⟨j, by rw [List.length_take]; omega, by rw [List.getElem_take]⟩
set_option maxHeartbeats 2000000 in
theorem rqmay_big (q : Qy) (c : Value) (s : Kv) (g : Value) (w : World) (hq : QyS w q c s g) (hs : BgQ q) :
    Calls Tryz.prog 15 #[qyV q c s g] w fun e w' => e = .returned (.bool (mayQ q)) ∧ Fr Non w w' := by
  have Q0 := Lib.hid (Qin.new hq)
  have N := Lib.hid (fun W => rname_any q.tab W (by have := hs.tab; omega))
  have NB := Lib.hid (fun W => rname_any q.by_ W (by have := hs.by_; omega))
  have NC := Lib.hid (fun k (h : k < q.cols.length) W => rname_any q.cols[k] W (by have := hs.names _ (List.getElem_mem h); omega))
  have GA := Lib.hid (fun k (h : k < q.aggs.length) W => rag_any q.aggs[k] W (by have := hs.acol _ (List.getElem_mem h); omega))
  have P := Lib.hid (fun W (h : QyS W q c s g) => rpmay_big q.whr.hd s q.whr.kids W h.kids (by rw [← Pd.eta]; exact hs.lens))
  rw [← Pd.eta] at P
  have HE0 : Hid (mayQ q = (nameB q.tab && (mayP q.whr && (decide (q.cols.length ≤ 6 ∧ q.aggs.length ≤ 4) && (unlB q.cols && (if q.aggs.length = 0 then decide (q.by_ = []) else q.aggs.all agB && (decide (q.cols.length = 0) && (decide (q.by_ = []) || nameB q.by_)))))))) := Lib.hid (may_doc q)
  generalize mayQ q = r at *
  generalize nameB q.tab = b1 at *
  generalize mayP q.whr = b2 at *
  generalize nameB q.by_ = bn at *
  have hlc := hs.cols
  have hlg := hs.aggs
  unfold pdV pdC at P
  obtain ⟨cA, cc, hce⟩ := hq.cols.shape
  obtain ⟨gA, gc, hge⟩ := hq.aggs.shape
  clear hq hs
  obtain ⟨tab, cols, ⟨⟨wo, wc, wm, ⟨wn, wi, wt⟩, wk, wp⟩, wks⟩, aggs, by_⟩ := q
  obtain ⟨sA, sn, sc⟩ := s
  dsimp only at hce hge
  subst hce
  subst hge
  unfold qyV qyC kidV at *
  dsimp only [Pd.hd, Pd.kids] at *
  go_enter Tryz.func15, Tryz.ntmps15
  go_wp2_with fail
  refine (N.out _).mono ?_
  rintro e w1 ⟨rfl, f1⟩
  have Q1 := Lib.hid (Q0.out.non f1)
  clear f1
  cases b1
  · have HE : Hid (r = false) := Lib.hid (by rw [HE0.out]; rfl)
    clear HE0
    go_wp2
    go_ret
    exact ⟨ret_boolE HE.out.symm, Q1.out.fr⟩
  · obtain ⟨g0, g1, g2, g3, g4, g5, g6, g7, g8, g9, g10, g11, g12⟩ := Q1.out.cells
    dsimp only [Pd.hd, Pd.kids] at g0 g1 g2 g3 g4 g5 g6 g7 g8 g9 g10 g11 g12
    go_wp2_with fail
    refine (P.out _ Q1.out.sls).mono ?_
    rintro e w2 ⟨rfl, f2⟩
    have Q2 := Lib.hid (Q1.out.non f2)
    clear f2
    clear g0 g1 g2 g3 g4 g5 g6 g7 g8 g9 g10 g11 g12
    obtain ⟨g0, g1, g2, g3, g4, g5, g6, g7, g8, g9, g10, g11, g12⟩ := Q2.out.cells
    dsimp only [Pd.hd, Pd.kids] at g0 g1 g2 g3 g4 g5 g6 g7 g8 g9 g10 g11 g12
    cases b2
    · have HE : Hid (r = false) := Lib.hid (by rw [HE0.out]; rfl)
      clear HE0
      go_wp2
      go_ret
      exact ⟨ret_boolE HE.out.symm, Q2.out.fr⟩
    · by_cases h6 : 6 < cols.length
      · have HE : Hid (r = false) := Lib.hid (by rw [HE0.out, decide_eq_false (by omega)]; rfl)
        clear HE0
        go_wp2
        go_ret
        exact ⟨ret_boolE HE.out.symm, Q2.out.fr⟩
      · by_cases h4 : 4 < aggs.length
        · have HE : Hid (r = false) := Lib.hid (by rw [HE0.out, decide_eq_false (by omega)]; rfl)
          clear HE0
          go_wp2
          go_ret
          exact ⟨ret_boolE HE.out.symm, Q2.out.fr⟩
        · have HU : Hid (unlB cols = false → r = false) := Lib.hid (fun e => by rw [HE0.out, e]; simp)
          have HE1 : Hid (unlB cols = true → r = (if aggs.length = 0 then decide (by_ = []) else aggs.all agB && (decide (cols.length = 0) && (decide (by_ = []) || bn)))) := Lib.hid (fun e => by rw [HE0.out, e, decide_eq_true (by omega)]; rfl)
          clear HE0 N P
          go_wp2
          clear g0 g1 g2 g3 g4 g5 g6 g7 g8 g9 g10 g11 g12
          go_loopw [3] (fun i wr => ∃ k : Nat, k ≤ cols.length ∧ i = .int .i64 k ∧ Hid (unlK cols k) ∧ Hid (Qin w w.heap.size ⟨tab, cols, ⟨⟨wo, wc, wm, ⟨wn, wi, wt⟩, wk, wp⟩, wks⟩, aggs, by_⟩ (.slice cA cols.length cc) ⟨sA, sn, sc⟩ (.slice gA aggs.length gc) wr)) (fun i _ => cols.length - (intOf i).toNat)
          case atStart => exact ⟨0, Nat.zero_le _, rfl, Lib.hid (unlK_zero _), Q2⟩
          case round =>
            clear Q0 Q1 Q2
            obtain ⟨k, hk, rfl, HT, QR⟩ := hrel
            obtain ⟨g0, g1, g2, g3, g4, g5, g6, g7, g8, g9, g10, g11, g12⟩ := QR.out.cells
            dsimp only [Pd.hd, Pd.kids] at g0 g1 g2 g3 g4 g5 g6 g7 g8 g9 g10 g11 g12
            by_cases hlt : k < cols.length
            · obtain ⟨a, rfl, _, hcc, hel⟩ := QR.out.sls.cols.addr (show 0 < cols.length by omega)
              have c0 := hel k hlt
              unfold sv at c0
              have HX := Lib.hid (fun e => HU.out (unl_bad hlt e))
              have HX2 : Hid (∀ j (hj : j < cols.length), j < k → cols[j] = cols[k] → r = false) := Lib.hid (fun j _ hj e => HU.out (unl_dup hlt (is_in hlt hj e)))
              have HY := Lib.hid (fun e e2 => unlK_more hlt HT.out e (not_in hlt e2))
              have NK := Lib.hid (NC.out k hlt)
              clear HT hel
              generalize hy : cols[k] = y at *
              have HYE := Lib.hid hy
              clear hy
              cases hn : nameB y
              · have HE := Lib.hid (HX.out hn)
                rw [hn] at NK
                clear HX HX2 HY hn
                go_wp2_with fail
                refine (NK.out _).mono ?_
                rintro e w3 ⟨rfl, f3⟩
                go_wp2
                go_ret
                exact ⟨ret_boolE HE.out.symm, QR.out.fr.trans f3⟩
              · have HY1 := Lib.hid (HY.out hn)
                rw [hn] at NK
                clear HX HY hn
                go_wp2_with fail
                refine (NK.out _).mono ?_
                rintro e w3 ⟨rfl, f3⟩
                have Q3 := Lib.hid (QR.out.non f3)
                clear f3 QR g0 g1 g2 g3 g4 g5 g6 g7 g8 g9 g10 g11 g12 c0
                obtain ⟨g0, g1, g2, g3, g4, g5, g6, g7, g8, g9, g10, g11, g12⟩ := Q3.out.cells
                dsimp only [Pd.hd, Pd.kids] at g0 g1 g2 g3 g4 g5 g6 g7 g8 g9 g10 g11 g12
                clear g0 g2 g3 g4 g5 g6 g7 g8 g9 g10 g11 g12
                obtain ⟨a2, ha2, _, _, hel2⟩ := Q3.out.sls.cols.addr (show 0 < cols.length by omega)
                obtain rfl := Option.some.inj ha2
                have HEL := Lib.hid hel2
                have c1 := hel2 k hlt
                unfold sv at c1
                try dsimp only at c1
                rw [HYE.out] at c1
                clear hel2 ha2
                go_wp2
                go_loopw [4] (fun i wx => ∃ m : Nat, m ≤ k ∧ i = .int .i64 m ∧ Hid (∀ j (hj : j < cols.length), j < m → cols[j] ≠ y) ∧ ∃ n, wx = w3.drewN n) (fun i _ => k - (intOf i).toNat)
                case atStart => exact ⟨0, Nat.zero_le _, rfl, Lib.hid (fun _ _ h => by omega), 0, rfl⟩
                case round =>
                  obtain ⟨m, hm, rfl, hne, n, rfl⟩ := hrel
                  by_cases hmk : m < k
                  · have hml : m < cols.length := by omega
                    have c2 := HEL.out m hml
                    unfold sv at c2
                    try dsimp only at c2
                    have HZ := Lib.hid (HX2.out m hml hmk)
                    have HW : Hid (cols[m] ≠ y → ∀ j (hj : j < cols.length), j < m + 1 → cols[j] ≠ y) := Lib.hid (fun e j hj hjm => by
                      by_cases ee : j = m
                      · subst ee; exact e
                      · exact hne.out j hj (by omega))
                    clear hne
                    generalize cols[m] = z at *
                    by_cases he : z = y
                    · have HE := Lib.hid (HZ.out he)
                      have hbe : (z == y) = true := by rw [beq_iff_eq]; exact he
                      clear HZ HW he
                      go_wp2
                      go_quiet (fail)
                      go_wp2
                      go_ret
                      exact ⟨ret_boolE HE.out.symm, (Q3.out.fr.drewN n).drewN _⟩
                    · have HE := Lib.hid (HW.out he)
                      have hbe : (z == y) = false := by rw [beq_eq_false_iff_ne]; exact he
                      clear HZ HW he
                      go_wp2
                      go_quiet (fail)
                      go_wp2
                      go_roundw
                      case rel => exact ⟨m + 1, by omega, by go_num, HE, _, rfl⟩
                      case measure => simp [intOf]; omega
                  · have HE := Lib.hid (HY1.out (fun j hj hjk => hne.out j hj (by omega)))
                    clear HX2 HY1 hne
                    go_wp2
                    go_roundw
                    case rel => exact ⟨k + 1, by omega, by go_num, HE, Lib.hid (Q3.out.non ((Fr.refl Non w3).drewN n))⟩
                    case measure => simp [intOf]; omega
            · have HE2 := Lib.hid (HE1.out (unlK_all (by omega) HT.out))
              clear HT HU HE1 NC
              by_cases ha : aggs.length = 0
              · have hab : ((aggs.length : Int) == 0) = true := by rw [beq_iff_eq]; omega
                by_cases hb : by_ = []
                · have HE : Hid (r = true) := Lib.hid (by rw [HE2.out, if_pos ha]; exact decide_eq_true hb)
                  clear HE2 ha
                  subst hb
                  go_wp2
                  go_ret
                  exact ⟨ret_boolE HE.out.symm, QR.out.fr⟩
                · have hbb : (by_ == []) = false := by rw [beq_eq_false_iff_ne]; exact hb
                  have HE : Hid (r = false) := Lib.hid (by rw [HE2.out, if_pos ha]; exact decide_eq_false hb)
                  clear HE2 ha hb
                  go_wp2
                  go_ret
                  exact ⟨ret_boolE HE.out.symm, QR.out.fr⟩
              · have hab : ((aggs.length : Int) == 0) = false := by rw [beq_eq_false_iff_ne]; omega
                have HAB : Hid (aggs.all agB = false → r = false) := Lib.hid (fun e => by rw [HE2.out, if_neg ha, e]; rfl)
                have HAY : Hid (aggs.all agB = true → r = (decide (cols.length = 0) && (decide (by_ = []) || bn))) := Lib.hid (fun e => by rw [HE2.out, if_neg ha, e]; rfl)
                clear HE2 ha
                go_wp2
                clear g0 g1 g2 g3 g4 g5 g6 g7 g8 g9 g10 g11 g12
                rename World => W5
                go_loopw [5] (fun i wr => ∃ k : Nat, k ≤ aggs.length ∧ i = .int .i64 k ∧ Hid ((aggs.take k).all agB = true) ∧ Hid (Qin w w.heap.size ⟨tab, cols, ⟨⟨wo, wc, wm, ⟨wn, wi, wt⟩, wk, wp⟩, wks⟩, aggs, by_⟩ (.slice cA cols.length cc) ⟨sA, sn, sc⟩ (.slice gA aggs.length gc) wr)) (fun i _ => aggs.length - (intOf i).toNat)
                case atStart => exact ⟨0, Nat.zero_le _, rfl, Lib.hid rfl, QR⟩
                case round =>
                  clear QR hlt hk hab
                  obtain ⟨k, hk, rfl, HT, QR⟩ := hrel
                  obtain ⟨g0, g1, g2, g3, g4, g5, g6, g7, g8, g9, g10, g11, g12⟩ := QR.out.cells
                  dsimp only [Pd.hd, Pd.kids] at g0 g1 g2 g3 g4 g5 g6 g7 g8 g9 g10 g11 g12
                  by_cases hlt : k < aggs.length
                  · obtain ⟨a, rfl, _, d0, d1⟩ := Ns.gat QR.out.sls.aggs k hlt
                    have HX := Lib.hid (fun e => HAB.out (all_badG hlt e))
                    have HY := Lib.hid (fun e => all_moreG hlt HT.out e)
                    have M := GA.out k hlt
                    dsimp only at d0 d1 M
                    clear HT
                    generalize aggs[k] = x at *
                    obtain ⟨xo, xn⟩ := x
                    unfold agV at M
                    dsimp only at d0 d1 HX HY M
                    generalize agB ⟨xo, xn⟩ = bx at *
                    replace M := Lib.hid M
                    cases bx
                    · have HE := Lib.hid (HX.out rfl)
                      clear HX HY
                      go_wp2_with fail
                      refine (M.out _).mono ?_
                      rintro e w3 ⟨rfl, f3⟩
                      go_wp2
                      go_ret
                      exact ⟨ret_boolE HE.out.symm, QR.out.fr.trans f3⟩
                    · have HE := Lib.hid (HY.out rfl)
                      clear HX HY
                      go_wp2_with fail
                      refine (M.out _).mono ?_
                      rintro e w3 ⟨rfl, f3⟩
                      go_wp2
                      go_roundw
                      case rel => exact ⟨k + 1, by omega, by go_num, HE, Lib.hid (QR.out.non f3)⟩
                      case measure => simp [intOf]; omega
                  · have HE2 := Lib.hid (HAY.out (all_endG (by omega) HT.out))
                    clear HT HAB HAY GA
                    by_cases hc : cols.length = 0
                    · have hcb : ((cols.length : Int) == 0) = true := by rw [beq_iff_eq]; omega
                      by_cases hb : by_ = []
                      · have HE : Hid (r = true) := Lib.hid (by rw [HE2.out, decide_eq_true hc, decide_eq_true hb]; rfl)
                        clear HE2 hc NB
                        subst hb
                        go_wp2
                        go_ret
                        exact ⟨ret_boolE HE.out.symm, QR.out.fr⟩
                      · have hbb : (by_ == []) = false := by rw [beq_eq_false_iff_ne]; exact hb
                        have HE : Hid (r = bn) := Lib.hid (by rw [HE2.out, decide_eq_true hc, decide_eq_false hb]; rfl)
                        clear HE2 hc hb
                        go_wp2_with fail
                        refine (NB.out _).mono ?_
                        rintro e w3 ⟨rfl, f3⟩
                        go_wp2
                        go_ret
                        exact ⟨ret_boolE HE.out.symm, QR.out.fr.trans f3⟩
                    · have hcb : ((cols.length : Int) == 0) = false := by rw [beq_eq_false_iff_ne]; omega
                      have HE : Hid (r = false) := Lib.hid (by rw [HE2.out, decide_eq_false hc]; rfl)
                      clear HE2 hc NB
                      go_wp2
                      go_ret
                      exact ⟨ret_boolE HE.out.symm, QR.out.fr⟩
end Go.Proofs.YtipgaafgnefmdaaGreatDoor


namespace Go.Proofs.YtipgaafgnefmdaaGreatDoor
set_option linter.unusedVariables false
set_option linter.unusedSimpArgs false
set_option maxRecDepth 100000
open Go.RowKit

/-- how the document's reader and its query stand, behind some of its parts -/
structure RSt (g : Nat) (w w' : World) (σ : Sg) (q : Qy) (c : Value) (s : Kv) (a : Value) : Prop where
  st : TX (g + 1) g w' σ
  fr : Fr Non w w'
  res : QB w' w.heap.size noQy nilV noKv nilV
  qry : QB w' (g + 1) q c s a
  sls : QG (g + 2) w' q c s a
theorem RSt.step {g : Nat} {w w1 w2 : World} {σ σ' : Sg} {q : Qy} {c : Value} {s : Kv} {a : Value} (h : RSt g w w1 σ q c s a) (hg : w.heap.size < g) (hT : TX (g + 1) g w2 σ') (hF : Fr (One g) w1 w2) : RSt g w w2 σ' q c s a :=
  ⟨hT, h.fr.fresh hF (fun k e => by have : k = g := e; omega), h.res.fr hF (fun e => by have : w.heap.size = g := e; omega), h.qry.fr hF (fun e => by have : g + 1 = g := e; omega), h.sls.fr hF (fun b hb e => by have : b = g := e; omega)⟩
theorem RSt.sz {g : Nat} {w w1 : World} {σ : Sg} {q : Qy} {c : Value} {s : Kv} {a : Value} (h : RSt g w w1 σ q c s a) : g + 2 ≤ w1.heap.size := by have := h.qry.lt; omega
/-- a part stored -/
theorem RSt.put {g : Nat} {w w1 w2 : World} {σ : Sg} {q q2 : Qy} {c c2 : Value} {s s2 : Kv} {a a2 : Value} (h : RSt g w w1 σ q c s a) (hg : w.heap.size < g) (hF : Fr (One (g + 1)) w1 w2) (hq : QB w2 (g + 1) q2 c2 s2 a2) (hs : QG (g + 2) w2 q2 c2 s2 a2) : RSt g w w2 σ q2 c2 s2 a2 :=
  ⟨h.st.fresh hF (fun k e => by have : k = g + 1 := e; omega), h.fr.fresh hF (fun k e => by have : k = g + 1 := e; omega), h.res.fr hF (fun e => by have : w.heap.size = g + 1 := e; omega), hq, hs⟩
set_option maxHeartbeats 4000000 in
theorem tQuery_any (s : Tx) (w : World) : Calls Tryz.prog 8 #[.string ⟨s.toArray⟩] w (TelQ s w) := by
  have FA : Fr Non w (w.alloc (.cells #[.string ⟨#[]⟩, .slice none 0 0, .int .i64 0, .string ⟨#[]⟩, .int .i64 0, .bool false, .int .i64 0, .string ⟨#[]⟩, .int .i64 0, .string ⟨#[]⟩, .slice none 0 0, .slice none 0 0, .string ⟨#[]⟩] 31)) := (Fr.refl Non w).alloc _
  have A1 := Lib.hid (wordsR_any s (w.alloc (.cells #[.string ⟨#[]⟩, .slice none 0 0, .int .i64 0, .string ⟨#[]⟩, .int .i64 0, .bool false, .int .i64 0, .string ⟨#[]⟩, .int .i64 0, .string ⟨#[]⟩, .slice none 0 0, .slice none 0 0, .string ⟨#[]⟩] 31)))
  have HZ0 : Hid (QB (w.alloc (.cells #[.string ⟨#[]⟩, .slice none 0 0, .int .i64 0, .string ⟨#[]⟩, .int .i64 0, .bool false, .int .i64 0, .string ⟨#[]⟩, .int .i64 0, .string ⟨#[]⟩, .slice none 0 0, .slice none 0 0, .string ⟨#[]⟩] 31)) w.heap.size noQy nilV noKv nilV) := Lib.hid (qy_new w _ noQy nilV noKv nilV rfl)
  have HFA := Lib.hid FA
  have T1 := Lib.hid (fun e => tq_err (s := s) e)
  have T2 := Lib.hid (fun e e2 => tq_no (s := s) e e2)
  have T3 := Lib.hid (fun e e2 => tq_yes (s := s) e e2)
  have HEN := Lib.hid (fun e => ws_end (s := s) e)
  clear FA
  generalize (wsB s).1 = l at *
  generalize (wsB s).2.1 = n1 at *
  generalize (wsB s).2.2 = n2 at *
  go_enter Tryz.func8, Tryz.ntmps8
  go_wp2_with fail
  refine A1.out.mono ?_
  rintro e w1 ⟨v, rfl, hTk, hF⟩
  have HZ1 := Lib.hid (HZ0.out.fr hF (fun e => e))
  have HF1 := Lib.hid (HFA.out.trans hF)
  have HS1 : Hid (w.heap.size < w1.heap.size) := Lib.hid (by have := hF.size; simp at this; omega)
  have HTK := Lib.hid hTk
  clear hTk hF A1 HZ0 HFA
  by_cases he : n2 = 0
  · have HEND := Lib.hid (HEN.out he)
    have hb : ((n2 : Int) != 0) = false := by rw [bne_eq_false_iff_eq]; omega
    have T21 := Lib.hid (fun e2 => T2.out he e2)
    have T31 := Lib.hid (fun e2 => T3.out he e2)
    clear T1 T2 T3 HEN he
    obtain ⟨tA, tc, hv⟩ := HTK.out.shape
    subst hv
    have FB : Fr Non w1 ((w1.alloc (.cells #[.slice tA l.length tc, .bool false, .int .i64 0] 57)).alloc (.cells #[.string ⟨#[]⟩, .slice none 0 0, .int .i64 1, .string ⟨#[]⟩, .int .i64 0, .bool false, .int .i64 0, .string ⟨#[]⟩, .int .i64 0, .string ⟨#[]⟩, .slice none 0 0, .slice none 0 0, .string ⟨#[]⟩] 31)) := ((Fr.refl Non w1).alloc _).alloc _
    have HTX : Hid (TX (w1.heap.size + 1) w1.heap.size ((w1.alloc (.cells #[.slice tA l.length tc, .bool false, .int .i64 0] 57)).alloc (.cells #[.string ⟨#[]⟩, .slice none 0 0, .int .i64 1, .string ⟨#[]⟩, .int .i64 0, .bool false, .int .i64 0, .string ⟨#[]⟩, .int .i64 0, .string ⟨#[]⟩, .slice none 0 0, .slice none 0 0, .string ⟨#[]⟩] 31)) (.ok l)) := Lib.hid (by
      have h0 : TX (w1.heap.size + 1) w1.heap.size (w1.alloc (.cells #[.slice tA l.length tc, .bool false, .int .i64 0] 57)) (.ok l) := ⟨tA, tc, Blk.new w1 _ _, HTK.out.non ((Fr.refl Non w1).alloc _), HEND.out, fun a ha => by
        subst ha
        obtain ⟨a', e1, _, _, hat⟩ := HTK.out.addr HEND.out.ne
        obtain rfl := Option.some.inj e1
        have hlt := World.block_lt_of_cell? _ _ (hat 0 HEND.out.ne 0 _ rfl)
        rw [show (a.add (0 * 4)).add 0 = a by cases a; rfl] at hlt
        exact ⟨by omega, by omega⟩, by omega, by simp⟩
      exact h0.non ((Fr.refl Non _).alloc _))
    have HQ : Hid (RSt w1.heap.size w ((w1.alloc (.cells #[.slice tA l.length tc, .bool false, .int .i64 0] 57)).alloc (.cells #[.string ⟨#[]⟩, .slice none 0 0, .int .i64 1, .string ⟨#[]⟩, .int .i64 0, .bool false, .int .i64 0, .string ⟨#[]⟩, .int .i64 0, .string ⟨#[]⟩, .slice none 0 0, .slice none 0 0, .string ⟨#[]⟩] 31)) (.ok l) ⟨[], [], allPd, [], []⟩ nilV noKv nilV) := Lib.hid ⟨HTX.out, HF1.out.trans FB, HZ1.out.fr FB (fun e => e), by
      have := qy_new (w1.alloc (.cells #[.slice tA l.length tc, .bool false, .int .i64 0] 57)) _ ⟨[], [], allPd, [], []⟩ nilV noKv nilV rfl
      rw [show (w1.alloc (.cells #[.slice tA l.length tc, .bool false, .int .i64 0] 57)).heap.size = w1.heap.size + 1 by simp] at this
      exact this, ⟨nil_vs _, nil_own, KdS.nil_ _ _, nil_gs _, nil_own, i64b_0⟩⟩
    have N1 := Lib.hid (xmust_any (w1.heap.size + 1) w1.heap.size 1 selW (.ok l) _ HTX.out)
    have HPARTS := Lib.hid (query_parts (.ok l))
    have HON : Hid (onS (.ok l) queryR = queryR l) := Lib.hid rfl
    rw [HON.out] at HPARTS
    clear FB HZ1 HTK HEND HF1 HTX HON
    generalize queryR l = X at *
    generalize onM (.ok l) (mustK 1 selW) = σ1 at *
    go_upto_region 6 with fail
    generalize hW : (w1.alloc (.cells #[.slice tA l.length tc, .bool false, .int .i64 0] 57)).alloc (.cells #[.string ⟨#[]⟩, .slice none 0 0, .int .i64 1, .string ⟨#[]⟩, .int .i64 0, .bool false, .int .i64 0, .string ⟨#[]⟩, .int .i64 0, .string ⟨#[]⟩, .slice none 0 0, .slice none 0 0, .string ⟨#[]⟩] 31) = W3 at *
    clear hW
    generalize w1.heap.size = g at *
    go_wp2_with fail
    refine N1.out.mono ?_
    rintro e w4 ⟨rfl, hT, hF⟩
    have HQ1 := Lib.hid (HQ.out.step HS1.out hT hF)
    clear hT hF N1 HQ
    have WT := Lib.hid (twhat_any (g + 1) g (g + 1) σ1 w4 HQ1.out.st HQ1.out.qry (Nat.le_refl _))
    go_wp2_with fail
    refine WT.out.mono ?_
    rintro e w5 ⟨rfl, hT, ⟨c, cv, gs, gv, hq, hV, hc, hcB, hg, hgB⟩, hF⟩
    have HS4 := HQ1.out.sz
    have HQ2 : Hid (RSt g w w5 (dropV (onS σ1 whatK)) ⟨[], c, allPd, gs, []⟩ cv noKv gv) := Lib.hid ⟨hT, HQ1.out.fr.fresh hF (fun k e => by have := HS1.out; rcases e with e | e <;> omega), HQ1.out.res.fr hF (fun e => by have := HS1.out; rcases e with e | e <;> omega), hq, ⟨hc, fun b hb => Nat.le_trans HS4 (hcB b hb), KdS.nil_ _ _, hg, fun b hb => Nat.le_trans HS4 (hgB b hb), i64b_0⟩⟩
    have HPT := Lib.hid (fun t p b σ4 σ5 σ6 => HPARTS.out c gs t p b _ σ4 σ5 σ6 rfl hV)
    clear hT hq hV hc hcB hg hgB hF HS4 WT HQ1 HPARTS
    generalize dropV (onS σ1 whatK) = σ2 at *
    have N2 := Lib.hid (xmust_any (g + 1) g 1 fromW σ2 w5 HQ2.out.st)
    go_wp2_with fail
    refine N2.out.mono ?_
    rintro e w6 ⟨rfl, hT, hF⟩
    have HQ3 := Lib.hid (HQ2.out.step HS1.out hT hF)
    clear hT hF N2 HQ2
    generalize onM σ2 (mustK 1 fromW) = σ3 at *
    have NM := Lib.hid (xname_any (g + 1) g σ3 w6 HQ3.out.st)
    go_wp2_with fail
    refine NM.out.mono ?_
    rintro e w7 ⟨⟨t, v, rfl, rfl, hT, hA⟩, hF⟩
    have HQ4 := Lib.hid (HQ3.out.step HS1.out hT hF)
    have HPT2 := Lib.hid (fun p b σ5 σ6 => HPT.out t p b _ σ5 σ6 rfl hA)
    clear hT hA hF NM HQ3 HPT
    generalize dropV (onS σ3 nameK) = σ4 at *
    have r1 := HQ4.out.qry.cell 0
    have f1 := HQ4.out.qry.frozen 0
    simp [qyC] at r1
    have FS := Lib.hid (set1_frT w7 (g + 1) 0 (.string ⟨t.toArray⟩))
    have HQ5 := Lib.hid (HQ4.out.put HS1.out FS.out (qB_tab HQ4.out.qry t) ((⟨HQ4.out.sls.cols, HQ4.out.sls.colB, HQ4.out.sls.kids, HQ4.out.sls.aggs, HQ4.out.sls.aggB, HQ4.out.sls.num⟩ : QG (g + 2) w7 ⟨t, c, allPd, gs, []⟩ cv noKv gv).fr FS.out (fun b hb e => by have : b = g + 1 := e; omega)))
    clear FS HQ4
    go_upto_region 10 with fail
    clear r1 f1
    generalize w7.setCell ⟨g + 1, 0, none⟩ (.string ⟨t.toArray⟩) = W5 at *
    have S2 := Lib.hid (xis_any (g + 1) g 1 whereW σ4 W5 HQ5.out.st)
    have W1 := Lib.hid (fun e => where_yes (σ := σ4) e)
    have W2 := Lib.hid (fun e => where_no (σ := σ4) e)
    have HXI := Lib.hid (fun e => isX_ok (k := 1) (s := whereW) (σ := σ4) e)
    generalize isX 1 whereW σ4 = b1 at *
    go_wp2_with fail
    refine S2.out.mono ?_
    rintro e wx ⟨rfl, rfl⟩
    clear S2
    go_upto_if 36 with fail
    go_cut [9] from 10 to 68 (fun q wx => q = .pointer (some ⟨g + 1, 0, none⟩) ∧ ∃ (p : Pd) (s : Kv), Hid (RSt g w wx (dropV (onS σ4 whereK)) ⟨t, c, p, gs, []⟩ cv s gv) ∧ Hid (IsV (onS σ4 whereK) p))
    case first =>
      cases b1
      · obtain ⟨a1, a2⟩ := W2.out (by first | rfl | trivial)
        have A1 := Lib.hid a1
        have A2 := Lib.hid a2
        clear a1 a2 W1 W2 HXI
        go_wp2
        go_meet
        exact ⟨rfl, allPd, noKv, Lib.hid (by rw [A1.out]; exact HQ5.out), A2⟩
      · have W11 := Lib.hid (W1.out (by first | rfl | trivial))
        obtain ⟨lw, rfl, _⟩ := HXI.out (by first | rfl | trivial)
        clear W1 W2 HXI
        have TK := Lib.hid (xtake_any (g + 1) g lw _ HQ5.out.st)
        go_wp2_with fail
        refine TK.out.mono ?_
        rintro e w8 ⟨⟨tv, rfl⟩, hT, hF⟩
        have HQ6 := Lib.hid (HQ5.out.step HS1.out hT hF)
        clear hT hF TK HQ5
        have PR := Lib.hid (tpred_any (g + 1) g w8 _ HQ6.out.st)
        have HTL : Hid (tailX (.ok lw) = tlK lw) := Lib.hid rfl
        rw [HTL.out] at W11
        go_wp2_with fail
        refine PR.out.mono ?_
        rintro e w9 ⟨⟨p, v, rfl, ⟨s, rfl, hk, hb⟩, hT, hA⟩, hF⟩
        have HQ7 := Lib.hid (HQ6.out.step HS1.out hT hF)
        have HA := Lib.hid hA
        have HS6 := Lib.hid HQ6.out.sz
        have HKD : Hid (KdS (fun b => g + 2 ≤ b) w9 s p.kids) := Lib.hid (hk.imp fun b hb _ => Nat.le_trans HS6.out hb)
        have HB := Lib.hid hb
        clear hk hb hT hA hF PR HQ6
        have FS := Lib.hid (setWh_fr w9 (g + 1) p.hd s)
        have HQ8 := Lib.hid (HQ7.out.put HS1.out FS.out (qB_whr HQ7.out.qry p s) ((⟨HQ7.out.sls.cols, HQ7.out.sls.colB, HKD.out, HQ7.out.sls.aggs, HQ7.out.sls.aggB, HB.out⟩ : QG (g + 2) w9 ⟨t, c, p, gs, []⟩ cv s gv).fr FS.out (fun b hb e => by have : b = g + 1 := e; omega)))
        obtain ⟨r0, r1, r2, r3, r4, r5, r6, r7, r8, r9, r10, r11, r12⟩ := qB_cells HQ7.out.qry
        obtain ⟨f0, f1, f2, f3, f4, f5, f6, f7, f8, f9, f10, f11, f12⟩ := qB_frozen HQ7.out.qry
        dsimp only [noKv, allPd, zCl, Pd.hd] at r0 r1 r2 r3 r4 r5 r6 r7 r8 r9 r10 r11 r12
        clear FS HKD HB HQ7
        obtain ⟨⟨xo, xc, xm, ⟨xn, xi, xt⟩, xk, xp⟩, xks⟩ := p
        obtain ⟨sA, sn, sc⟩ := s
        unfold pdV pdC kidV
        unfold setWh kidV at HQ8
        dsimp only [Pd.hd, Pd.kids] at *
        go_wp2
        go_meet
        exact ⟨rfl, .mk ⟨xo, xc, xm, ⟨xn, xi, xt⟩, xk, xp⟩ xks, ⟨sA, sn, sc⟩, Lib.hid (by rw [W11.out]; exact HQ8.out), Lib.hid (by rw [W11.out]; exact HA.out)⟩
    case rest =>
      obtain ⟨rfl, p, s2, HQ7, HV3⟩ := hcut
      have HPT3 := Lib.hid (fun b σ6 => HPT2.out p b _ σ6 rfl HV3.out)
      clear HPT2 HV3 HQ5 W1 W2 HXI
      generalize dropV (onS σ4 whereK) = σ5 at *
      have S3 := Lib.hid (xis_any (g + 1) g 1 groupW σ5 wc HQ7.out.st)
      have W1 := Lib.hid (fun e => group_yes (σ := σ5) e)
      have W2 := Lib.hid (fun e => group_no (σ := σ5) e)
      have HXI := Lib.hid (fun e => isX_ok (k := 1) (s := groupW) (σ := σ5) e)
      generalize isX 1 groupW σ5 = b2 at *
      go_wp2_with fail
      refine S3.out.mono ?_
      rintro e wx ⟨rfl, rfl⟩
      clear S3
      go_upto_if 43 with fail
      go_cut [9] from 10 to 68 (fun q wx => q = .pointer (some ⟨g + 1, 0, none⟩) ∧ ∃ (b : Tx), Hid (RSt g w wx (dropV (onS σ5 groupK)) ⟨t, c, p, gs, b⟩ cv s2 gv) ∧ Hid (IsV (onS σ5 groupK) b))
      case first =>
        cases b2
        · obtain ⟨a1, a2⟩ := W2.out (by first | rfl | trivial)
          have A1 := Lib.hid a1
          have A2 := Lib.hid a2
          clear a1 a2 W1 W2 HXI
          go_wp2
          go_meet
          exact ⟨rfl, [], Lib.hid (by rw [A1.out]; exact HQ7.out), A2⟩
        · have W11 := Lib.hid (W1.out (by first | rfl | trivial))
          obtain ⟨lw, rfl, _⟩ := HXI.out (by first | rfl | trivial)
          clear W1 W2 HXI
          have HTL : Hid (tailX (.ok lw) = tlK lw) := Lib.hid rfl
          rw [HTL.out] at W11
          have TK := Lib.hid (xtake_any (g + 1) g lw _ HQ7.out.st)
          go_wp2_with fail
          refine TK.out.mono ?_
          rintro e w8 ⟨⟨tv, rfl⟩, hT, hF⟩
          have HQ8 := Lib.hid (HQ7.out.step HS1.out hT hF)
          clear hT hF TK HQ7
          have N4 := Lib.hid (xmust_any (g + 1) g 1 byW _ w8 HQ8.out.st)
          go_wp2_with fail
          refine N4.out.mono ?_
          rintro e w9 ⟨rfl, hT, hF⟩
          have HQ9 := Lib.hid (HQ8.out.step HS1.out hT hF)
          clear hT hF N4 HQ8
          have NM := Lib.hid (xname_any (g + 1) g _ w9 HQ9.out.st)
          go_wp2_with fail
          refine NM.out.mono ?_
          rintro e wa ⟨⟨b, v, rfl, rfl, hT, hA⟩, hF⟩
          have HQA := Lib.hid (HQ9.out.step HS1.out hT hF)
          have HA := Lib.hid hA
          clear hT hA hF NM HQ9
          have r1 := HQA.out.qry.cell 12
          have f1 := HQA.out.qry.frozen 12
          simp [qyC] at r1
          have FS := Lib.hid (set1_frT wa (g + 1) 12 (.string ⟨b.toArray⟩))
          have HQB := Lib.hid (HQA.out.put HS1.out FS.out (qB_by HQA.out.qry b) ((⟨HQA.out.sls.cols, HQA.out.sls.colB, HQA.out.sls.kids, HQA.out.sls.aggs, HQA.out.sls.aggB, HQA.out.sls.num⟩ : QG (g + 2) wa ⟨t, c, p, gs, b⟩ cv s2 gv).fr FS.out (fun b hb e => by have : b = g + 1 := e; omega)))
          clear FS HQA
          go_wp2
          go_meet
          exact ⟨rfl, b, Lib.hid (by rw [W11.out]; exact HQB.out), Lib.hid (by rw [W11.out]; exact HA.out)⟩
      case rest =>
        obtain ⟨rfl, b, HQ9, HV4⟩ := hcut
        obtain ⟨a1, a2⟩ := HPT3.out b _ rfl HV4.out
        have A1 := Lib.hid a1
        have A2 := Lib.hid a2
        clear a1 a2 HPT3 HV4 HQ7 W1 W2 HXI
        generalize dropV (onS σ5 groupK) = σ6 at *
        rw [A1.out] at T21 T31
        have EN := Lib.hid (tend_any (g + 1) g σ6 wc HQ9.out.st)
        have HEY := Lib.hid (fun e => endX_yes (σ := σ6) e)
        have HEN2 := Lib.hid (fun e => endX_no (σ := σ6) e)
        generalize endX σ6 = E at *
        generalize kindX 0 σ6 = be at *
        go_wp2_with fail
        refine EN.out.mono ?_
        rintro e w9 ⟨rfl, hT, hF⟩
        have HQA := Lib.hid (HQ9.out.step HS1.out hT hF)
        clear hT hF EN HQ9
        cases be
        · have TE := Lib.hid (T21.out (by first | rfl | trivial))
          obtain ⟨cb, ca, cl_⟩ := TX.badc (k := placeX σ6) (by rw [← HEN2.out (by first | rfl | trivial)]; exact HQA.out.st)
          clear T21 T31 HEY HEN2 A1 A2
          generalize placeX σ6 = pl at *
          obtain ⟨f0, f1, f2, f3, f4, f5, f6, f7, f8, f9, f10, f11, f12⟩ := qB_frozen HQA.out.res
          obtain ⟨r0, r1, r2, r3, r4, r5, r6, r7, r8, r9, r10, r11, r12⟩ := qB_cells HQA.out.res
          dsimp only [noKv, noQy, noPd, zCl, Pd.hd, nilV] at r0 r1 r2 r3 r4 r5 r6 r7 r8 r9 r10 r11 r12
          have E5 := Lib.hid (setQy_B HQA.out.res noQy nilV noKv nilV)
          have G5 := Lib.hid (HQA.out.fr.fresh (setQy_fr w9 w.heap.size noQy nilV noKv nilV) (fun k e => by have : k = w.heap.size := e; omega))
          unfold setQy kidV nilV noKv noQy noPd zCl at E5 G5
          dsimp only [Pd.hd] at E5 G5
          clear HQA
          go_upto_region 19 with fail
          have hne1 : w.heap.size ≠ g := by have := HS1.out; omega
          have hne2 : g ≠ w.heap.size := by have := HS1.out; omega
          go_region
          all_goals (go_wp2; exact bodyPost_ret (ret_qy3 (p := 2) (u := 3) (v := 4) rfl _ _ w.heap.size noQy nilV noKv nilV _ _ rfl rfl rfl E5.out.drew) rfl (TelQ.none TE.out G5.out.drew))
        · obtain ⟨q0, r0, hx, hbg, hy1, hy2⟩ := T31.out (by first | rfl | trivial)
          have hq0 := A2.out q0 r0 hx
          subst hq0
          have HY1 := Lib.hid hy1
          have HY2 := Lib.hid hy2
          have HGD : Hid (w9.cell? ⟨g, 1, none⟩ = some (.bool false)) := Lib.hid (by
            have h5 := HQA.out.st
            rw [HEY.out (by first | rfl | trivial), ← A1.out, hx] at h5
            exact h5.good.1)
          have cb := HGD.out
          obtain ⟨cA, cc, hcv⟩ := HQA.out.sls.cols.shape
          obtain ⟨gA, gc, hgv⟩ := HQA.out.sls.aggs.shape
          dsimp only at hcv hgv
          subst hcv hgv
          obtain ⟨⟨xo, xc, xm, ⟨xn, xi, xt⟩, xk, xp⟩, xks⟩ := p
          obtain ⟨sA, sn, sc⟩ := s2
          have MY := Lib.hid (rqmay_big ⟨t, c, .mk ⟨xo, xc, xm, ⟨xn, xi, xt⟩, xk, xp⟩ xks, gs, b⟩ (.slice cA c.length cc) ⟨sA, sn, sc⟩ (.slice gA gs.length gc) w9 HQA.out.sls.s hbg)
          clear hx hy1 hy2 hbg T21 T31 A1 A2 HEY HEN2 HGD
          generalize mayQ ⟨t, c, .mk ⟨xo, xc, xm, ⟨xn, xi, xt⟩, xk, xp⟩ xks, gs, b⟩ = m at *
          obtain ⟨p0, p1, p2, p3, p4, p5, p6, p7, p8, p9, p10, p11, p12⟩ := qB_cells HQA.out.qry
          dsimp only [Pd.hd] at p0 p1 p2 p3 p4 p5 p6 p7 p8 p9 p10 p11 p12
          unfold qyV qyC kidV at MY
          dsimp only [Pd.hd] at MY
          have HZ5 := Lib.hid HQA.out.res
          have HP5 := Lib.hid HQA.out.qry
          have HF5 := Lib.hid HQA.out.fr
          have HG5 := Lib.hid HQA.out.sls
          clear HQA
          go_wp2_with fail
          refine MY.out.mono ?_
          rintro e wb ⟨rfl, hF⟩
          have HZ6 := Lib.hid (HZ5.out.fr hF (fun e => e))
          have HP6 := Lib.hid (HP5.out.fr hF (fun e => e))
          have HF6 := Lib.hid (HF5.out.trans hF)
          have HG6 := Lib.hid (HG5.out.fr hF (fun _ _ e => e))
          clear hF MY HZ5 HP5 HF5 HG5 p0 p1 p2 p3 p4 p5 p6 p7 p8 p9 p10 p11 p12 cb
          cases m
          · have TE := Lib.hid (HY2.out (by first | rfl | trivial))
            clear HY1 HY2 HP6 HG6
            obtain ⟨f0, f1, f2, f3, f4, f5, f6, f7, f8, f9, f10, f11, f12⟩ := qB_frozen HZ6.out
            obtain ⟨r0, r1, r2, r3, r4, r5, r6, r7, r8, r9, r10, r11, r12⟩ := qB_cells HZ6.out
            dsimp only [noKv, noQy, noPd, zCl, Pd.hd, nilV] at r0 r1 r2 r3 r4 r5 r6 r7 r8 r9 r10 r11 r12
            have E5 := Lib.hid (setQy_B HZ6.out noQy nilV noKv nilV)
            have G5 := Lib.hid (HF6.out.fresh (setQy_fr wb w.heap.size noQy nilV noKv nilV) (fun k e => by have : k = w.heap.size := e; omega))
            unfold setQy kidV nilV noKv noQy noPd zCl at E5 G5
            dsimp only [Pd.hd] at E5 G5
            clear HZ6
            go_wp2
            exact bodyPost_ret (ret_qy3 (p := 2) (u := 3) (v := 4) rfl _ _ w.heap.size noQy nilV noKv nilV _ _ rfl rfl rfl E5.out) rfl (TelQ.none TE.out G5.out)
          · have TE := Lib.hid (HY1.out (by first | rfl | trivial))
            clear HY1 HY2
            obtain ⟨f0, f1, f2, f3, f4, f5, f6, f7, f8, f9, f10, f11, f12⟩ := qB_frozen HZ6.out
            obtain ⟨r0, r1, r2, r3, r4, r5, r6, r7, r8, r9, r10, r11, r12⟩ := qB_cells HZ6.out
            obtain ⟨p0, p1, p2, p3, p4, p5, p6, p7, p8, p9, p10, p11, p12⟩ := qB_cells HP6.out
            dsimp only [noKv, noQy, noPd, zCl, Pd.hd, nilV] at r0 r1 r2 r3 r4 r5 r6 r7 r8 r9 r10 r11 r12 p0 p1 p2 p3 p4 p5 p6 p7 p8 p9 p10 p11 p12
            have E5 := Lib.hid (setQy_B HZ6.out ⟨t, c, .mk ⟨xo, xc, xm, ⟨xn, xi, xt⟩, xk, xp⟩ xks, gs, b⟩ (.slice cA c.length cc) ⟨sA, sn, sc⟩ (.slice gA gs.length gc))
            have G5 := Lib.hid (HF6.out.fresh (setQy_fr wb w.heap.size ⟨t, c, .mk ⟨xo, xc, xm, ⟨xn, xi, xt⟩, xk, xp⟩ xks, gs, b⟩ (.slice cA c.length cc) ⟨sA, sn, sc⟩ (.slice gA gs.length gc)) (fun k e => by have : k = w.heap.size := e; omega))
            have K5 := Lib.hid ((HG6.out.fr (setQy_fr wb w.heap.size ⟨t, c, .mk ⟨xo, xc, xm, ⟨xn, xi, xt⟩, xk, xp⟩ xks, gs, b⟩ (.slice cA c.length cc) ⟨sA, sn, sc⟩ (.slice gA gs.length gc)) (fun k hk e => by have : k = w.heap.size := e; have := HS1.out; omega)).mono (M := w.heap.size) (by have := HS1.out; omega))
            clear HZ6 HP6 HG6
            unfold setQy kidV at E5 G5 K5
            dsimp only [Pd.hd] at E5 G5 K5
            go_wp2
            exact bodyPost_ret (ret_qy3 (p := 2) (u := 3) (v := 4) rfl _ _ w.heap.size ⟨t, c, .mk ⟨xo, xc, xm, ⟨xn, xi, xt⟩, xk, xp⟩ xks, gs, b⟩ (.slice cA c.length cc) ⟨sA, sn, sc⟩ (.slice gA gs.length gc) _ _ rfl rfl rfl E5.out) rfl (TelQ.some TE.out K5.out G5.out)
  · have TE := Lib.hid (T1.out he)
    have hb : ((n2 : Int) != 0) = true := by rw [bne_iff_ne]; omega
    clear T1 T2 T3 HEN he HTK
    obtain ⟨f0, f1, f2, f3, f4, f5, f6, f7, f8, f9, f10, f11, f12⟩ := qB_frozen HZ1.out
    obtain ⟨r0, r1, r2, r3, r4, r5, r6, r7, r8, r9, r10, r11, r12⟩ := qB_cells HZ1.out
    dsimp only [noKv, noQy, noPd, zCl, Pd.hd, nilV] at r0 r1 r2 r3 r4 r5 r6 r7 r8 r9 r10 r11 r12
    have E5 := Lib.hid (setQy_B HZ1.out noQy nilV noKv nilV)
    have G5 := Lib.hid (HF1.out.fresh (setQy_fr w1 w.heap.size noQy nilV noKv nilV) (fun k e => by have : k = w.heap.size := e; omega))
    unfold setQy kidV nilV noKv noQy noPd zCl at E5 G5
    dsimp only [Pd.hd] at E5 G5
    clear HZ1
    go_wp2
    exact bodyPost_ret (ret_qy3 (p := 2) (u := 3) (v := 4) rfl _ _ w.heap.size noQy nilV noKv nilV _ _ rfl rfl rfl E5.out) rfl (TelQ.none TE.out G5.out)
end Go.Proofs.YtipgaafgnefmdaaGreatDoor


namespace Go.Proofs.YtipgaafgnefmdaaGreatDoor
set_option linter.unusedVariables false
set_option linter.unusedSimpArgs false
set_option maxRecDepth 100000
open Go.RowKit

theorem sameP_is (h h' : Ph) (ks ks' : List Pd) : sameP (.mk h ks) (.mk h' ks') = (peq h h' && sameL ks ks') := by rw [sameP]; rfl
theorem sameL_len {l m : List Pd} (h : ¬ l.length = m.length) : sameL l m = false := by
  rw [Bool.eq_false_iff]
  intro e
  exact h (by rw [(sameL_iff l m).1 e])
theorem sameL_at {l m : List Pd} {k : Nat} (h1 : k < l.length) (h2 : k < m.length) : sameL (l.drop k) (m.drop k) = (sameP l[k] m[k] && sameL (l.drop (k + 1)) (m.drop (k + 1))) := by
  rw [List.drop_eq_getElem_cons h1, List.drop_eq_getElem_cons h2, sameL]
theorem sameL_end {l m : List Pd} {k : Nat} (h1 : l.length ≤ k) (h2 : m.length ≤ k) : sameL (l.drop k) (m.drop k) = true := by
  rw [List.drop_eq_nil_of_le h1, List.drop_eq_nil_of_le h2, sameL]

set_option maxHeartbeats 8000000 in
theorem rpsame_any (p : Pd) : ∀ (q : Pd) (s t : Kv) (w : World), Kd w s p.kids → Kd w t q.kids → lenP p = true →
    Calls Tryz.prog 13 #[pdV p.hd s, pdV q.hd t] w fun e w' => e = .returned (.bool (sameP p q)) ∧ Fr Non w w' := by
  induction p using Pd.ind with
  | h hd ks ih =>
    rintro ⟨hd2, ms⟩ s t w hk hm hlen
    have hls := lenP_mk hlen
    dsimp only [Pd.hd, Pd.kids] at hk hm ⊢
    have hn1 := hk.len
    have hn2 := hm.len
    have IH : Hid (∀ k (h : k < ks.length) (j : Nat) (h2 : j < ms.length) (W : World) (s' t' : Kv), Kd W s' ks[k].kids → Kd W t' ms[j].kids → Calls Tryz.prog 13 #[pdV ks[k].hd s', pdV ms[j].hd t'] W fun e w' => e = .returned (.bool (sameP ks[k] ms[j])) ∧ Fr Non W w') := Lib.hid (fun k h j h2 W s' t' a b => ih _ (List.getElem_mem h) ms[j] s' t' W a b (hls.2.2.2.2 _ (List.getElem_mem h)))
    have A1 := Lib.hid (fun W => flat_any hd hd2 s t W)
    have PB := pd2_new w _ hd hd2 s t rfl
    have F0 : Fr Non w ((w.alloc (.cells (pdC hd s) 28)).alloc (.cells (pdC hd2 t) 28)) := ((Fr.refl Non w).alloc _).alloc _
    have HE0 := Lib.hid (sameP_is hd hd2 ks ms)
    have HS0 := Lib.hid (fun e => sameL_len (l := ks) (m := ms) e)
    have HS1 : Hid (sameL ks ms = sameL (ks.drop 0) (ms.drop 0)) := Lib.hid rfl
    generalize sameP (.mk hd ks) (.mk hd2 ms) = r at *
    generalize sameL ks ms = b0 at *
    generalize peq hd hd2 = q at *
    have HK := Lib.hid (hk.non F0)
    have HM := Lib.hid (hm.non F0)
    have PB := Lib.hid PB
    have F0 := Lib.hid F0
    have hls2 : ks.length ≤ 20 := hls.1
    clear ih hk hm hlen hls
    obtain ⟨ho, hc, hmm, ⟨vn, vi, vt⟩, hkd, hp⟩ := hd
    obtain ⟨go, gc, gm, ⟨un, ui, ut⟩, gkd, gp⟩ := hd2
    obtain ⟨A, n, c⟩ := s
    obtain ⟨A2, n2, c2⟩ := t
    dsimp only at hn1 hn2
    have hn20 : n ≤ 20 := by omega
    have HL1 := Lib.hid hn1
    have HL2 := Lib.hid hn2
    clear hn1 hn2 hls2
    unfold pdV pdC kidV at A1 ⊢
    dsimp only at A1 ⊢
    cases q
    · have HE : Hid (r = false) := Lib.hid (by rw [HE0.out]; rfl)
      clear HE0 IH HS0 HS1
      go_enter Tryz.func13, Tryz.ntmps13
      go_wp2_with fail
      refine (A1.out _).mono ?_
      rintro e w1 ⟨rfl, f1⟩
      go_wp2
      go_ret
      exact ⟨ret_boolE HE.out.symm, F0.out.trans f1⟩
    · have HE : Hid (r = b0) := Lib.hid (by rw [HE0.out]; rfl)
      clear HE0
      go_enter Tryz.func13, Tryz.ntmps13
      go_wp2_with fail
      refine (A1.out _).mono ?_
      rintro e w1 ⟨rfl, f1⟩
      have PB1 := Lib.hid (PB.out.1.fr f1 (fun e => e))
      have PB2 := Lib.hid (PB.out.2.fr f1 (fun e => e))
      have g8 := PB1.out.cell 8
      have h8 := PB2.out.cell 8
      simp [pdC, kidV] at g8 h8
      have HK1 := Lib.hid (HK.out.non f1)
      have HM1 := Lib.hid (HM.out.non f1)
      have F1 := Lib.hid (F0.out.trans f1)
      clear f1 PB HK HM F0 A1
      by_cases hne : n = n2
      · subst hne
        clear HS0
        go_wp2
        go_loopw [5] (fun i wr => ∃ k : Nat, k ≤ n ∧ i = .int .i64 k ∧ Hid (b0 = sameL (ks.drop k) (ms.drop k)) ∧ Hid (Fr Non w1 wr)) (fun i _ => n - (intOf i).toNat)
        case atStart => exact ⟨0, Nat.zero_le _, rfl, HS1, Lib.hid (Fr.refl _ _)⟩
        case round =>
          clear HS1 g8 h8
          obtain ⟨k, hk, rfl, HT, FR⟩ := hrel
          have g8 := (PB1.out.fr FR.out (fun e => e)).cell 8
          have h8 := (PB2.out.fr FR.out (fun e => e)).cell 8
          simp [pdC, kidV] at g8 h8
          by_cases hlt : k < n
          · have h1 : k < ks.length := by have := HL1.out; omega
            have h2 : k < ms.length := by have := HL2.out; omega
            obtain ⟨a, t, hA, hc, hkk, _⟩ := HK1.out.elN FR.out.drew k h1
            dsimp only at hA
            subst hA
            obtain ⟨a2, t2, hA2, hc2, hkk2, _⟩ := HM1.out.elN FR.out.drew k h2
            dsimp only at hA2
            subst hA2
            have q0 : wr.drew.cell? ⟨w.heap.size, 8, none⟩ = _ := g8
            have q1 : wr.drew.cell? ⟨w.heap.size + 1, 8, none⟩ = _ := h8
            obtain ⟨q2, q3, q4, q5, q6, q7, q8, q9, q10⟩ := hc
            obtain ⟨q11, q12, q13, q14, q15, q16, q17, q18, q19⟩ := hc2
            have HC := Lib.hid (IH.out k h1 k h2 wr.drew t t2 (hkk.non FR.out.drew) (hkk2.non FR.out.drew))
            have HY := Lib.hid (HT.out.trans (sameL_at h1 h2))
            clear hkk hkk2 HT
            generalize sameP ks[k] ms[k] = b at *
            generalize ks[k].hd = x at *
            generalize ms[k].hd = y at *
            obtain ⟨xo, xc, xm, ⟨xn, xi, xt⟩, xk, xp⟩ := x
            obtain ⟨yo, yc, ym, ⟨yn, yi, yt⟩, yk, yp⟩ := y
            obtain ⟨tA, tn, tc⟩ := t
            obtain ⟨uA, un, uc⟩ := t2
            unfold pdV pdC kidV at HC
            dsimp only at HC q2 q3 q4 q5 q6 q7 q8 q9 q10 q11 q12 q13 q14 q15 q16 q17 q18 q19
            cases b
            · have HE2 : Hid (r = false) := Lib.hid (by rw [HE.out, HY.out]; rfl)
              clear HY
              go_wp2
              refine wp_region_held_drew (S := (fun W => W.cell? ⟨w.heap.size, 8, none⟩ = some (.slice (some a) n c) ∧ W.cell? ⟨w.heap.size + 1, 8, none⟩ = some (.slice (some a2) n c2) ∧ W.cell? (a.add (k * 9)) = some (.int .i64 xo) ∧ W.cell? { block := (a.add (k * 9)).block, off := (a.add (k * 9)).off + 1 } = some (.string ⟨xc.toArray⟩) ∧ W.cell? { block := (a.add (k * 9)).block, off := (a.add (k * 9)).off + 2 } = some (.int .i64 xm) ∧ W.cell? { block := (a.add (k * 9)).block, off := (a.add (k * 9)).off + 3 } = some (.bool xn) ∧ W.cell? { block := (a.add (k * 9)).block, off := (a.add (k * 9)).off + 4 } = some (.int .i64 xi) ∧ W.cell? { block := (a.add (k * 9)).block, off := (a.add (k * 9)).off + 5 } = some (.string ⟨xt.toArray⟩) ∧ W.cell? { block := (a.add (k * 9)).block, off := (a.add (k * 9)).off + 6 } = some (.int .i64 xk) ∧ W.cell? { block := (a.add (k * 9)).block, off := (a.add (k * 9)).off + 7 } = some (.string ⟨xp.toArray⟩) ∧ W.cell? { block := (a.add (k * 9)).block, off := (a.add (k * 9)).off + 8 } = some (.slice tA tn tc) ∧ W.cell? (a2.add (k * 9)) = some (.int .i64 yo) ∧ W.cell? { block := (a2.add (k * 9)).block, off := (a2.add (k * 9)).off + 1 } = some (.string ⟨yc.toArray⟩) ∧ W.cell? { block := (a2.add (k * 9)).block, off := (a2.add (k * 9)).off + 2 } = some (.int .i64 ym) ∧ W.cell? { block := (a2.add (k * 9)).block, off := (a2.add (k * 9)).off + 3 } = some (.bool yn) ∧ W.cell? { block := (a2.add (k * 9)).block, off := (a2.add (k * 9)).off + 4 } = some (.int .i64 yi) ∧ W.cell? { block := (a2.add (k * 9)).block, off := (a2.add (k * 9)).off + 5 } = some (.string ⟨yt.toArray⟩) ∧ W.cell? { block := (a2.add (k * 9)).block, off := (a2.add (k * 9)).off + 6 } = some (.int .i64 yk) ∧ W.cell? { block := (a2.add (k * 9)).block, off := (a2.add (k * 9)).off + 7 } = some (.string ⟨yp.toArray⟩) ∧ W.cell? { block := (a2.add (k * 9)).block, off := (a2.add (k * 9)).off + 8 } = some (.slice uA un uc))) (by kernel_rfl) (by exact ⟨q0, q1, q2, q3, q4, q5, q6, q7, q8, q9, q10, q11, q12, q13, q14, q15, q16, q17, q18, q19⟩) (fun hHeld => ?_)
              refine wpAnyH_take (i := 0) (oi := ⟨some 26, _, _, _, _, none⟩) (v := ?v1) rfl (by kernel_rfl) (by kernel_rfl) (by kernel_rfl) (fun _ _ _ h => h) (Or.inl ⟨by rfl, ?hy1⟩) (by assumption) ?rest1
              case hy1 => (intro wS hSw; (try dsimp only at hSw); go_simp; (try with_reducible rfl))
              (try simp only [Act.put, List.setIfInBounds_toArray, List.set_cons_zero, List.set_cons_succ])
              refine wpAnyH_take (i := 1) (oi := ⟨some 27, _, _, _, _, none⟩) (v := ?v2) rfl (by kernel_rfl) (by kernel_rfl) (by kernel_rfl) (fun _ _ _ h => h) (Or.inl ⟨by rfl, ?hy2⟩) (by assumption) ?rest2
              case hy2 => (intro wS hSw; (try dsimp only at hSw); go_simp; (try with_reducible rfl))
              (try simp only [Act.put, List.setIfInBounds_toArray, List.set_cons_zero, List.set_cons_succ])
              refine wpAnyH_take (i := 2) (oi := ⟨some 28, _, _, _, _, none⟩) (v := ?v3) rfl (by kernel_rfl) (by kernel_rfl) (by kernel_rfl) (fun _ _ _ h => h) (Or.inl ⟨by rfl, ?hy3⟩) (by assumption) ?rest3
              case hy3 => (intro wS hSw; (try dsimp only at hSw); go_simp; (try with_reducible rfl))
              (try simp only [Act.put, List.setIfInBounds_toArray, List.set_cons_zero, List.set_cons_succ])
              refine wpAnyH_take (i := 3) (oi := ⟨some 29, _, _, _, _, none⟩) (v := ?v4) rfl (by kernel_rfl) (by kernel_rfl) (by kernel_rfl) (fun _ _ _ h => h) (Or.inl ⟨by rfl, ?hy4⟩) (by assumption) ?rest4
              case hy4 => (intro wS hSw; (try dsimp only at hSw); go_simp; (try with_reducible rfl))
              (try simp only [Act.put, List.setIfInBounds_toArray, List.set_cons_zero, List.set_cons_succ])
              refine wpAnyH_take (i := 4) (oi := ⟨some 30, _, _, _, _, none⟩) (v := ?v5) rfl (by kernel_rfl) (by kernel_rfl) (by kernel_rfl) (fun _ _ _ h => h) (Or.inl ⟨by rfl, ?hy5⟩) (by assumption) ?rest5
              case hy5 => (intro wS hSw; (try dsimp only at hSw); go_simp; (try with_reducible rfl))
              (try simp only [Act.put, List.setIfInBounds_toArray, List.set_cons_zero, List.set_cons_succ])
              refine wpAnyH_take (i := 5) (oi := ⟨some 31, _, _, _, _, none⟩) (v := ?v6) rfl (by kernel_rfl) (by kernel_rfl) (by kernel_rfl) (fun _ _ _ h => h) (Or.inl ⟨by rfl, ?hy6⟩) (by assumption) ?rest6
              case hy6 => (intro wS hSw; (try dsimp only at hSw); go_simp; (try with_reducible rfl))
              (try simp only [Act.put, List.setIfInBounds_toArray, List.set_cons_zero, List.set_cons_succ])
              refine wpAnyH_take (i := 6) (oi := ⟨some 32, _, _, _, _, none⟩) (v := ?v7) rfl (by kernel_rfl) (by kernel_rfl) (by kernel_rfl) (fun _ _ _ h => h) (Or.inl ⟨by rfl, ?hy7⟩) (by assumption) ?rest7
              case hy7 => (intro wS hSw; (try dsimp only at hSw); go_simp; (try with_reducible rfl))
              (try simp only [Act.put, List.setIfInBounds_toArray, List.set_cons_zero, List.set_cons_succ])
              refine wpAnyH_take (i := 7) (oi := ⟨some 33, _, _, _, _, none⟩) (v := ?v8) rfl (by kernel_rfl) (by kernel_rfl) (by kernel_rfl) (fun _ _ _ h => h) (Or.inl ⟨by rfl, ?hy8⟩) (by assumption) ?rest8
              case hy8 => (intro wS hSw; (try dsimp only at hSw); go_simp; (try with_reducible rfl))
              (try simp only [Act.put, List.setIfInBounds_toArray, List.set_cons_zero, List.set_cons_succ])
              refine wpAnyH_take (i := 8) (oi := ⟨some 34, _, _, _, _, none⟩) (v := ?v9) rfl (by kernel_rfl) (by kernel_rfl) (by kernel_rfl) (fun _ _ _ h => h) (Or.inl ⟨by rfl, ?hy9⟩) (by assumption) ?rest9
              case hy9 => (intro wS hSw; (try dsimp only at hSw); go_simp; (try with_reducible rfl))
              (try simp only [Act.put, List.setIfInBounds_toArray, List.set_cons_zero, List.set_cons_succ])
              refine wpAnyH_take (i := 9) (oi := ⟨some 35, _, _, _, _, none⟩) (v := ?v10) rfl (by kernel_rfl) (by kernel_rfl) (by kernel_rfl) (fun _ _ _ h => h) (Or.inl ⟨by rfl, ?hy10⟩) (by assumption) ?rest10
              case hy10 => (intro wS hSw; (try dsimp only at hSw); go_simp; (try with_reducible rfl))
              (try simp only [Act.put, List.setIfInBounds_toArray, List.set_cons_zero, List.set_cons_succ])
              refine wpAnyH_ready (rs := [10]) (by kernel_rfl) (by simp) ?_
              refine AllReadyH.cons (o := ⟨some 36, _, _, _, _, none⟩) rfl (fun K hK => ?_) AllReadyH.nil
              go_simp
              go_at_call 13
              (with_reducible refine HC.out.mono ?_)
              rintro e w3 ⟨rfl, f3⟩
              have u0 := (f3.cell (World.block_lt_of_cell? _ _ q0) (fun e => e)).trans q0
              have u1 := (f3.cell (World.block_lt_of_cell? _ _ q1) (fun e => e)).trans q1
              have u2 := (f3.cell (World.block_lt_of_cell? _ _ q2) (fun e => e)).trans q2
              have u3 := (f3.cell (World.block_lt_of_cell? _ _ q3) (fun e => e)).trans q3
              have u4 := (f3.cell (World.block_lt_of_cell? _ _ q4) (fun e => e)).trans q4
              have u5 := (f3.cell (World.block_lt_of_cell? _ _ q5) (fun e => e)).trans q5
              have u6 := (f3.cell (World.block_lt_of_cell? _ _ q6) (fun e => e)).trans q6
              have u7 := (f3.cell (World.block_lt_of_cell? _ _ q7) (fun e => e)).trans q7
              have u8 := (f3.cell (World.block_lt_of_cell? _ _ q8) (fun e => e)).trans q8
              have u9 := (f3.cell (World.block_lt_of_cell? _ _ q9) (fun e => e)).trans q9
              have u10 := (f3.cell (World.block_lt_of_cell? _ _ q10) (fun e => e)).trans q10
              have u11 := (f3.cell (World.block_lt_of_cell? _ _ q11) (fun e => e)).trans q11
              have u12 := (f3.cell (World.block_lt_of_cell? _ _ q12) (fun e => e)).trans q12
              have u13 := (f3.cell (World.block_lt_of_cell? _ _ q13) (fun e => e)).trans q13
              have u14 := (f3.cell (World.block_lt_of_cell? _ _ q14) (fun e => e)).trans q14
              have u15 := (f3.cell (World.block_lt_of_cell? _ _ q15) (fun e => e)).trans q15
              have u16 := (f3.cell (World.block_lt_of_cell? _ _ q16) (fun e => e)).trans q16
              have u17 := (f3.cell (World.block_lt_of_cell? _ _ q17) (fun e => e)).trans q17
              have u18 := (f3.cell (World.block_lt_of_cell? _ _ q18) (fun e => e)).trans q18
              have u19 := (f3.cell (World.block_lt_of_cell? _ _ q19) (fun e => e)).trans q19
              go_wp2_with fail
              refine hK.out _ _ (by exact ⟨u0, u1, u2, u3, u4, u5, u6, u7, u8, u9, u10, u11, u12, u13, u14, u15, u16, u17, u18, u19⟩) (fun hHeld => ?_)
              clear hK K
              (try simp only [Act.put, List.setIfInBounds_toArray, List.set_cons_zero, List.set_cons_succ])
              refine wpAnyH_take (i := 11) (oi := ⟨some 37, _, _, _, _, none⟩) (v := ?v11) rfl (by kernel_rfl) (by kernel_rfl) (by kernel_rfl) (fun _ _ _ h => h) (Or.inl ⟨by rfl, ?hy11⟩) (by assumption) ?rest11
              case hy11 => (intro wS hSw; (try dsimp only at hSw); go_simp; (try with_reducible rfl))
              (try simp only [Act.put, List.setIfInBounds_toArray, List.set_cons_zero, List.set_cons_succ])
              refine wpAnyH_done (by kernel_rfl) ?_ _
              clear q0 u0 q1 u1 q2 u2 q3 u3 q4 u4 q5 u5 q6 u6 q7 u7 q8 u8 q9 u9 q10 u10 q11 u11 q12 u12 q13 u13 q14 u14 q15 u15 q16 u16 q17 u17 q18 u18 q19 u19
              go_wp2
              go_ret
              exact ⟨ret_boolE HE2.out.symm, (F1.out.trans FR.out.drew).trans f3⟩
            · have HE2 : Hid (b0 = sameL (ks.drop (k + 1)) (ms.drop (k + 1))) := Lib.hid (by rw [HY.out]; rfl)
              clear HY
              go_wp2
              refine wp_region_held_drew (S := (fun W => W.cell? ⟨w.heap.size, 8, none⟩ = some (.slice (some a) n c) ∧ W.cell? ⟨w.heap.size + 1, 8, none⟩ = some (.slice (some a2) n c2) ∧ W.cell? (a.add (k * 9)) = some (.int .i64 xo) ∧ W.cell? { block := (a.add (k * 9)).block, off := (a.add (k * 9)).off + 1 } = some (.string ⟨xc.toArray⟩) ∧ W.cell? { block := (a.add (k * 9)).block, off := (a.add (k * 9)).off + 2 } = some (.int .i64 xm) ∧ W.cell? { block := (a.add (k * 9)).block, off := (a.add (k * 9)).off + 3 } = some (.bool xn) ∧ W.cell? { block := (a.add (k * 9)).block, off := (a.add (k * 9)).off + 4 } = some (.int .i64 xi) ∧ W.cell? { block := (a.add (k * 9)).block, off := (a.add (k * 9)).off + 5 } = some (.string ⟨xt.toArray⟩) ∧ W.cell? { block := (a.add (k * 9)).block, off := (a.add (k * 9)).off + 6 } = some (.int .i64 xk) ∧ W.cell? { block := (a.add (k * 9)).block, off := (a.add (k * 9)).off + 7 } = some (.string ⟨xp.toArray⟩) ∧ W.cell? { block := (a.add (k * 9)).block, off := (a.add (k * 9)).off + 8 } = some (.slice tA tn tc) ∧ W.cell? (a2.add (k * 9)) = some (.int .i64 yo) ∧ W.cell? { block := (a2.add (k * 9)).block, off := (a2.add (k * 9)).off + 1 } = some (.string ⟨yc.toArray⟩) ∧ W.cell? { block := (a2.add (k * 9)).block, off := (a2.add (k * 9)).off + 2 } = some (.int .i64 ym) ∧ W.cell? { block := (a2.add (k * 9)).block, off := (a2.add (k * 9)).off + 3 } = some (.bool yn) ∧ W.cell? { block := (a2.add (k * 9)).block, off := (a2.add (k * 9)).off + 4 } = some (.int .i64 yi) ∧ W.cell? { block := (a2.add (k * 9)).block, off := (a2.add (k * 9)).off + 5 } = some (.string ⟨yt.toArray⟩) ∧ W.cell? { block := (a2.add (k * 9)).block, off := (a2.add (k * 9)).off + 6 } = some (.int .i64 yk) ∧ W.cell? { block := (a2.add (k * 9)).block, off := (a2.add (k * 9)).off + 7 } = some (.string ⟨yp.toArray⟩) ∧ W.cell? { block := (a2.add (k * 9)).block, off := (a2.add (k * 9)).off + 8 } = some (.slice uA un uc))) (by kernel_rfl) (by exact ⟨q0, q1, q2, q3, q4, q5, q6, q7, q8, q9, q10, q11, q12, q13, q14, q15, q16, q17, q18, q19⟩) (fun hHeld => ?_)
              refine wpAnyH_take (i := 0) (oi := ⟨some 26, _, _, _, _, none⟩) (v := ?v12) rfl (by kernel_rfl) (by kernel_rfl) (by kernel_rfl) (fun _ _ _ h => h) (Or.inl ⟨by rfl, ?hy12⟩) (by assumption) ?rest12
              case hy12 => (intro wS hSw; (try dsimp only at hSw); go_simp; (try with_reducible rfl))
              (try simp only [Act.put, List.setIfInBounds_toArray, List.set_cons_zero, List.set_cons_succ])
              refine wpAnyH_take (i := 1) (oi := ⟨some 27, _, _, _, _, none⟩) (v := ?v13) rfl (by kernel_rfl) (by kernel_rfl) (by kernel_rfl) (fun _ _ _ h => h) (Or.inl ⟨by rfl, ?hy13⟩) (by assumption) ?rest13
              case hy13 => (intro wS hSw; (try dsimp only at hSw); go_simp; (try with_reducible rfl))
              (try simp only [Act.put, List.setIfInBounds_toArray, List.set_cons_zero, List.set_cons_succ])
              refine wpAnyH_take (i := 2) (oi := ⟨some 28, _, _, _, _, none⟩) (v := ?v14) rfl (by kernel_rfl) (by kernel_rfl) (by kernel_rfl) (fun _ _ _ h => h) (Or.inl ⟨by rfl, ?hy14⟩) (by assumption) ?rest14
              case hy14 => (intro wS hSw; (try dsimp only at hSw); go_simp; (try with_reducible rfl))
              (try simp only [Act.put, List.setIfInBounds_toArray, List.set_cons_zero, List.set_cons_succ])
              refine wpAnyH_take (i := 3) (oi := ⟨some 29, _, _, _, _, none⟩) (v := ?v15) rfl (by kernel_rfl) (by kernel_rfl) (by kernel_rfl) (fun _ _ _ h => h) (Or.inl ⟨by rfl, ?hy15⟩) (by assumption) ?rest15
              case hy15 => (intro wS hSw; (try dsimp only at hSw); go_simp; (try with_reducible rfl))
              (try simp only [Act.put, List.setIfInBounds_toArray, List.set_cons_zero, List.set_cons_succ])
              refine wpAnyH_take (i := 4) (oi := ⟨some 30, _, _, _, _, none⟩) (v := ?v16) rfl (by kernel_rfl) (by kernel_rfl) (by kernel_rfl) (fun _ _ _ h => h) (Or.inl ⟨by rfl, ?hy16⟩) (by assumption) ?rest16
              case hy16 => (intro wS hSw; (try dsimp only at hSw); go_simp; (try with_reducible rfl))
              (try simp only [Act.put, List.setIfInBounds_toArray, List.set_cons_zero, List.set_cons_succ])
              refine wpAnyH_take (i := 5) (oi := ⟨some 31, _, _, _, _, none⟩) (v := ?v17) rfl (by kernel_rfl) (by kernel_rfl) (by kernel_rfl) (fun _ _ _ h => h) (Or.inl ⟨by rfl, ?hy17⟩) (by assumption) ?rest17
              case hy17 => (intro wS hSw; (try dsimp only at hSw); go_simp; (try with_reducible rfl))
              (try simp only [Act.put, List.setIfInBounds_toArray, List.set_cons_zero, List.set_cons_succ])
              refine wpAnyH_take (i := 6) (oi := ⟨some 32, _, _, _, _, none⟩) (v := ?v18) rfl (by kernel_rfl) (by kernel_rfl) (by kernel_rfl) (fun _ _ _ h => h) (Or.inl ⟨by rfl, ?hy18⟩) (by assumption) ?rest18
              case hy18 => (intro wS hSw; (try dsimp only at hSw); go_simp; (try with_reducible rfl))
              (try simp only [Act.put, List.setIfInBounds_toArray, List.set_cons_zero, List.set_cons_succ])
              refine wpAnyH_take (i := 7) (oi := ⟨some 33, _, _, _, _, none⟩) (v := ?v19) rfl (by kernel_rfl) (by kernel_rfl) (by kernel_rfl) (fun _ _ _ h => h) (Or.inl ⟨by rfl, ?hy19⟩) (by assumption) ?rest19
              case hy19 => (intro wS hSw; (try dsimp only at hSw); go_simp; (try with_reducible rfl))
              (try simp only [Act.put, List.setIfInBounds_toArray, List.set_cons_zero, List.set_cons_succ])
              refine wpAnyH_take (i := 8) (oi := ⟨some 34, _, _, _, _, none⟩) (v := ?v20) rfl (by kernel_rfl) (by kernel_rfl) (by kernel_rfl) (fun _ _ _ h => h) (Or.inl ⟨by rfl, ?hy20⟩) (by assumption) ?rest20
              case hy20 => (intro wS hSw; (try dsimp only at hSw); go_simp; (try with_reducible rfl))
              (try simp only [Act.put, List.setIfInBounds_toArray, List.set_cons_zero, List.set_cons_succ])
              refine wpAnyH_take (i := 9) (oi := ⟨some 35, _, _, _, _, none⟩) (v := ?v21) rfl (by kernel_rfl) (by kernel_rfl) (by kernel_rfl) (fun _ _ _ h => h) (Or.inl ⟨by rfl, ?hy21⟩) (by assumption) ?rest21
              case hy21 => (intro wS hSw; (try dsimp only at hSw); go_simp; (try with_reducible rfl))
              (try simp only [Act.put, List.setIfInBounds_toArray, List.set_cons_zero, List.set_cons_succ])
              refine wpAnyH_ready (rs := [10]) (by kernel_rfl) (by simp) ?_
              refine AllReadyH.cons (o := ⟨some 36, _, _, _, _, none⟩) rfl (fun K hK => ?_) AllReadyH.nil
              go_simp
              go_at_call 13
              (with_reducible refine HC.out.mono ?_)
              rintro e w3 ⟨rfl, f3⟩
              have u0 := (f3.cell (World.block_lt_of_cell? _ _ q0) (fun e => e)).trans q0
              have u1 := (f3.cell (World.block_lt_of_cell? _ _ q1) (fun e => e)).trans q1
              have u2 := (f3.cell (World.block_lt_of_cell? _ _ q2) (fun e => e)).trans q2
              have u3 := (f3.cell (World.block_lt_of_cell? _ _ q3) (fun e => e)).trans q3
              have u4 := (f3.cell (World.block_lt_of_cell? _ _ q4) (fun e => e)).trans q4
              have u5 := (f3.cell (World.block_lt_of_cell? _ _ q5) (fun e => e)).trans q5
              have u6 := (f3.cell (World.block_lt_of_cell? _ _ q6) (fun e => e)).trans q6
              have u7 := (f3.cell (World.block_lt_of_cell? _ _ q7) (fun e => e)).trans q7
              have u8 := (f3.cell (World.block_lt_of_cell? _ _ q8) (fun e => e)).trans q8
              have u9 := (f3.cell (World.block_lt_of_cell? _ _ q9) (fun e => e)).trans q9
              have u10 := (f3.cell (World.block_lt_of_cell? _ _ q10) (fun e => e)).trans q10
              have u11 := (f3.cell (World.block_lt_of_cell? _ _ q11) (fun e => e)).trans q11
              have u12 := (f3.cell (World.block_lt_of_cell? _ _ q12) (fun e => e)).trans q12
              have u13 := (f3.cell (World.block_lt_of_cell? _ _ q13) (fun e => e)).trans q13
              have u14 := (f3.cell (World.block_lt_of_cell? _ _ q14) (fun e => e)).trans q14
              have u15 := (f3.cell (World.block_lt_of_cell? _ _ q15) (fun e => e)).trans q15
              have u16 := (f3.cell (World.block_lt_of_cell? _ _ q16) (fun e => e)).trans q16
              have u17 := (f3.cell (World.block_lt_of_cell? _ _ q17) (fun e => e)).trans q17
              have u18 := (f3.cell (World.block_lt_of_cell? _ _ q18) (fun e => e)).trans q18
              have u19 := (f3.cell (World.block_lt_of_cell? _ _ q19) (fun e => e)).trans q19
              go_wp2_with fail
              refine hK.out _ _ (by exact ⟨u0, u1, u2, u3, u4, u5, u6, u7, u8, u9, u10, u11, u12, u13, u14, u15, u16, u17, u18, u19⟩) (fun hHeld => ?_)
              clear hK K
              (try simp only [Act.put, List.setIfInBounds_toArray, List.set_cons_zero, List.set_cons_succ])
              refine wpAnyH_take (i := 11) (oi := ⟨some 37, _, _, _, _, none⟩) (v := ?v22) rfl (by kernel_rfl) (by kernel_rfl) (by kernel_rfl) (fun _ _ _ h => h) (Or.inl ⟨by rfl, ?hy22⟩) (by assumption) ?rest22
              case hy22 => (intro wS hSw; (try dsimp only at hSw); go_simp; (try with_reducible rfl))
              (try simp only [Act.put, List.setIfInBounds_toArray, List.set_cons_zero, List.set_cons_succ])
              refine wpAnyH_done (by kernel_rfl) ?_ _
              clear q0 u0 q1 u1 q2 u2 q3 u3 q4 u4 q5 u5 q6 u6 q7 u7 q8 u8 q9 u9 q10 u10 q11 u11 q12 u12 q13 u13 q14 u14 q15 u15 q16 u16 q17 u17 q18 u18 q19 u19
              go_wp2
              go_roundw
              case rel => exact ⟨k + 1, by omega, by go_num, HE2, Lib.hid (FR.out.drew.trans f3)⟩
              case measure => simp [intOf]; omega
          · have HE2 : Hid (r = true) := Lib.hid (HE.out.trans (HT.out.trans (sameL_end (by have := HL1.out; omega) (by have := HL2.out; omega))))
            clear HT
            go_wp2
            go_ret
            exact ⟨ret_boolE HE2.out.symm, F1.out.trans FR.out⟩
      · have hb : ((n : Int) != n2) = true := by rw [bne_iff_ne]; omega
        have HE2 : Hid (r = false) := Lib.hid (HE.out.trans (HS0.out (by have := HL1.out; have := HL2.out; omega)))
        clear hne HS0 HS1
        go_wp2
        go_ret
        exact ⟨ret_boolE HE2.out.symm, F1.out⟩
end Go.Proofs.YtipgaafgnefmdaaGreatDoor


namespace Go.Proofs.YtipgaafgnefmdaaGreatDoor
set_option linter.unusedVariables false
set_option linter.unusedSimpArgs false
set_option maxRecDepth 100000
open Go.RowKit

theorem Qin.new2 {w : World} {q : Qy} {c : Value} {s : Kv} {g : Value} {q2 : Qy} {c2 : Value} {s2 : Kv} {g2 : Value} (h : QyS w q c s g) (h2 : QyS w q2 c2 s2 g2) :
    Qin w w.heap.size q c s g ((w.alloc (.cells (qyC q c s g) 31)).alloc (.cells (qyC q2 c2 s2 g2) 31)) ∧ Qin w (w.heap.size + 1) q2 c2 s2 g2 ((w.alloc (.cells (qyC q c s g) 31)).alloc (.cells (qyC q2 c2 s2 g2) 31)) := by
  have F0 : Fr Non w (w.alloc (.cells (qyC q c s g) 31)) := (Fr.refl Non w).alloc _
  have F1 : Fr Non (w.alloc (.cells (qyC q c s g) 31)) ((w.alloc (.cells (qyC q c s g) 31)).alloc (.cells (qyC q2 c2 s2 g2) 31)) := (Fr.refl Non _).alloc _
  refine ⟨(Qin.new h).non F1, F0.trans F1, ?_, h2.non (F0.trans F1)⟩
  exact qy_new _ _ q2 c2 s2 g2 (by simp)
theorem take_neA {a b : List Ag} {k : Nat} (hk : k < a.length) (hk2 : k < b.length) (h : a[k] ≠ b[k]) : a ≠ b := by
  rintro rfl; exact h rfl
theorem take_eqA {a b : List Ag} {k : Nat} (hk : k < a.length) (hk2 : k < b.length) (h : a.take k = b.take k) (he : a[k] = b[k]) : a.take (k + 1) = b.take (k + 1) := by
  rw [List.take_succ_eq_append_getElem hk, List.take_succ_eq_append_getElem hk2, h, he]
set_option maxHeartbeats 2000000 in
theorem rqsame_any (q : Qy) (c : Value) (s : Kv) (g : Value) (q2 : Qy) (c2 : Value) (s2 : Kv) (g2 : Value) (w : World) (hq : QyS w q c s g) (hq2 : QyS w q2 c2 s2 g2) (hs : SmQ q) :
    Calls Tryz.prog 9 #[qyV q c s g, qyV q2 c2 s2 g2] w fun e w' => e = .returned (.bool (sameQ q q2)) ∧ Fr Non w w' := by
  have QR0 := Qin.new2 hq hq2
  have Q0 := Lib.hid QR0.1
  have R0 := Lib.hid QR0.2
  have HC := Lib.hid (fun W (h : QyS W q c s g) (h2 : QyS W q2 c2 s2 g2) => names_any c c2 q.cols q2.cols W h.cols h2.cols (by have := hs.cols; omega))
  have HP := Lib.hid (fun W (h : QyS W q c s g) (h2 : QyS W q2 c2 s2 g2) => rpsame_any q.whr q2.whr s s2 W h.kids h2.kids hs.lens)
  have HE0 : Hid (sameQ q q2 = (decide (q.tab = q2.tab) && (decide (q.cols = q2.cols) && (sameP q.whr q2.whr && (decide (q.aggs = q2.aggs) && decide (q.by_ = q2.by_)))))) := Lib.hid rfl
  have HCE : Hid ((q.cols == q2.cols) = decide (q.cols = q2.cols)) := Lib.hid (by rw [Bool.eq_iff_iff, beq_iff_eq, decide_eq_true_eq])
  clear QR0
  generalize (q.cols == q2.cols) = bc at *
  generalize decide (q.cols = q2.cols) = bd at *
  generalize sameQ q q2 = r at *
  generalize sameP q.whr q2.whr = bp at *
  have hlc := hs.cols
  have hlg := hs.aggs
  unfold pdV pdC at HP
  obtain ⟨cA, cc, hce⟩ := hq.cols.shape
  obtain ⟨gA, gc, hge⟩ := hq.aggs.shape
  obtain ⟨cA2, cc2, hce2⟩ := hq2.cols.shape
  obtain ⟨gA2, gc2, hge2⟩ := hq2.aggs.shape
  clear hq hq2 hs
  obtain ⟨tab, cols, ⟨⟨wo, wc, wm, ⟨wn, wi, wt⟩, wk, wp⟩, wks⟩, aggs, by_⟩ := q
  obtain ⟨tab2, cols2, ⟨⟨wo2, wc2, wm2, ⟨wn2, wi2, wt2⟩, wk2, wp2⟩, wks2⟩, aggs2, by2_⟩ := q2
  obtain ⟨sA, sn, sc⟩ := s
  obtain ⟨sA2, sn2, sc2⟩ := s2
  dsimp only at hce hge hce2 hge2
  subst hce
  subst hge
  subst hce2
  subst hge2
  unfold qyV qyC kidV at *
  dsimp only [Pd.hd, Pd.kids] at *
  have hbc : bc = bd := HCE.out
  subst hbc
  clear HCE
  by_cases ht : tab = tab2
  · have htb : (tab == tab2) = true := by rw [beq_iff_eq]; exact ht
    have htb2 : (tab != tab2) = false := by rw [bne, htb]; rfl
    have HT0 := Lib.hid ht
    clear ht
    by_cases hb : by_ = by2_
    · have hbb : (by_ == by2_) = true := by rw [beq_iff_eq]; exact hb
      have hbb2 : (by_ != by2_) = false := by rw [bne, hbb]; rfl
      have HB0 := Lib.hid hb
      clear hb
      go_enter Tryz.func9, Tryz.ntmps9
      go_wp2_with fail
      refine (HC.out _ Q0.out.sls R0.out.sls).mono ?_
      rintro e w1 ⟨rfl, f1⟩
      have Q1 := Lib.hid (Q0.out.non f1)
      have R1 := Lib.hid (R0.out.non f1)
      clear f1
      obtain ⟨g0, g1, g2, g3, g4, g5, g6, g7, g8, g9, g10, g11, g12⟩ := Q1.out.cells
      dsimp only [Pd.hd, Pd.kids] at g0 g1 g2 g3 g4 g5 g6 g7 g8 g9 g10 g11 g12
      obtain ⟨k0, k1, k2, k3, k4, k5, k6, k7, k8, k9, k10, k11, k12⟩ := R1.out.cells
      dsimp only [Pd.hd, Pd.kids] at k0 k1 k2 k3 k4 k5 k6 k7 k8 k9 k10 k11 k12
      cases bc
      · have HE : Hid (r = false) := Lib.hid (by rw [HE0.out]; simp)
        clear HE0
        go_wp2
        go_ret
        exact ⟨ret_boolE HE.out.symm, Q1.out.fr⟩
      · go_wp2_with fail
        refine (HP.out _ Q1.out.sls R1.out.sls).mono ?_
        rintro e w2 ⟨rfl, f2⟩
        have Q2 := Lib.hid (Q1.out.non f2)
        have R2 := Lib.hid (R1.out.non f2)
        clear f2
        clear g0 g1 g2 g3 g4 g5 g6 g7 g8 g9 g10 g11 g12 k0 k1 k2 k3 k4 k5 k6 k7 k8 k9 k10 k11 k12
        obtain ⟨g0, g1, g2, g3, g4, g5, g6, g7, g8, g9, g10, g11, g12⟩ := Q2.out.cells
        dsimp only [Pd.hd, Pd.kids] at g0 g1 g2 g3 g4 g5 g6 g7 g8 g9 g10 g11 g12
        obtain ⟨k0, k1, k2, k3, k4, k5, k6, k7, k8, k9, k10, k11, k12⟩ := R2.out.cells
        dsimp only [Pd.hd, Pd.kids] at k0 k1 k2 k3 k4 k5 k6 k7 k8 k9 k10 k11 k12
        cases bp
        · have HE : Hid (r = false) := Lib.hid (by rw [HE0.out]; simp)
          clear HE0
          go_wp2
          go_ret
          exact ⟨ret_boolE HE.out.symm, Q2.out.fr⟩
        · have HE1 : Hid (r = decide (aggs = aggs2)) := Lib.hid (by rw [HE0.out, decide_eq_true HT0.out, decide_eq_true HB0.out]; simp)
          clear HE0
          by_cases hlen : aggs.length = aggs2.length
          · have hln : ((aggs.length : Int) != aggs2.length) = false := by rw [hlen]; simp
            have hle : aggs.length ≤ aggs2.length := by omega
            have hge : aggs2.length ≤ aggs.length := by omega
            clear hlen
            have HA1 := Lib.hid Q2.out.sls.aggs
            have HA2 := Lib.hid R2.out.sls.aggs
            go_wp2
            go_loopw [5] (fun i wr => ∃ k : Nat, k ≤ aggs.length ∧ i = .int .i64 k ∧ Hid (aggs.take k = aggs2.take k) ∧ ∃ n, wr = w2.drewN n) (fun i _ => aggs.length - (intOf i).toNat)
            case atStart => exact ⟨0, Nat.zero_le _, rfl, Lib.hid rfl, 0, rfl⟩
            case round =>
              obtain ⟨k, hk, rfl, HT, n, rfl⟩ := hrel
              by_cases hlt : k < aggs.length
              · obtain ⟨a, rfl, _, d0, d1⟩ := Ns.gat HA1.out k hlt
                obtain ⟨b, rfl, _, y0, y1⟩ := Ns.gat HA2.out k (by omega)
                have q := fun W => run_neq_ag W aggs[k] (aggs2[k]'(by omega))
                by_cases he : aggs[k] = aggs2[k]'(by omega)
                · have HE := Lib.hid (take_eqA hlt (by omega) HT.out he)
                  rw [← he] at q
                  simp only [← he] at y0 y1
                  rw [aeq_self] at q
                  clear he
                  try dsimp only at d0 d1 y0 y1 q
                  generalize aggs[k] = x at *
                  obtain ⟨xn, xt⟩ := x
                  try dsimp only at d0 d1 y0 y1 q
                  go_wp2
                  go_quiet (fail)
                  go_wp2
                  go_roundw
                  case rel => exact ⟨k + 1, by omega, by go_num, HE, _, rfl⟩
                  case measure => simp [intOf]; omega
                · have HE : Hid (r = false) := Lib.hid (by rw [HE1.out, decide_eq_false (take_neA hlt (by omega) he)])
                  have hx : aeq aggs[k] (aggs2[k]'(by omega)) = false := decide_eq_false he
                  rw [hx] at q
                  clear he hx HE1
                  try dsimp only at d0 d1 y0 y1 q
                  generalize aggs[k] = x at *
                  generalize aggs2[k]'(by omega) = y at *
                  obtain ⟨xn, xt⟩ := x
                  obtain ⟨yn, yt⟩ := y
                  try dsimp only at d0 d1 y0 y1 q
                  go_wp2
                  go_quiet (fail)
                  go_wp2
                  go_ret
                  exact ⟨ret_boolE HE.out.symm, (Q2.out.fr.drewN _).drewN _⟩
              · have HE : Hid (r = true) := Lib.hid (by
                  have := HT.out
                  rw [List.take_of_length_le (by omega), List.take_of_length_le (by omega)] at this
                  rw [HE1.out, decide_eq_true this])
                clear HE1 HT
                go_wp2
                go_ret
                exact ⟨ret_boolE HE.out.symm, Q2.out.fr.drewN _⟩
          · have hln : ((aggs.length : Int) != aggs2.length) = true := by rw [bne_iff_ne]; omega
            have HE : Hid (r = false) := Lib.hid (by rw [HE1.out]; exact decide_eq_false (fun e => hlen (by rw [e])))
            clear HE1 hlen
            go_wp2
            go_ret
            exact ⟨ret_boolE HE.out.symm, Q2.out.fr⟩
    · have hbb : (by_ == by2_) = false := by rw [beq_eq_false_iff_ne]; exact hb
      have hbb2 : (by_ != by2_) = true := by rw [bne, hbb]; rfl
      have HE : Hid (r = false) := Lib.hid (by rw [HE0.out, decide_eq_false hb]; simp)
      clear HE0 hb
      go_enter Tryz.func9, Tryz.ntmps9
      go_wp2
      go_ret
      exact ⟨ret_boolE HE.out.symm, Q0.out.fr⟩
  · have htb : (tab == tab2) = false := by rw [beq_eq_false_iff_ne]; exact ht
    have htb2 : (tab != tab2) = true := by rw [bne, htb]; rfl
    have HE : Hid (r = false) := Lib.hid (by rw [HE0.out, decide_eq_false ht]; rfl)
    clear HE0 ht
    go_enter Tryz.func9, Tryz.ntmps9
    go_wp2
    go_ret
    exact ⟨ret_boolE HE.out.symm, Q0.out.fr⟩
end Go.Proofs.YtipgaafgnefmdaaGreatDoor


namespace Go.Proofs.YtipgaafgnefmdaaGreatDoor
set_option linter.unusedVariables false
set_option linter.unusedSimpArgs false
set_option maxRecDepth 100000
open Go.RowKit

set_option maxHeartbeats 4000000 in
theorem parseQueries_walk (s : Tx) (w : World) (hW : Lw w) :
    Calls Tryz.prog 3 #[.string ⟨s.toArray⟩] w fun e w' => e = .returned (.bool true) ∧ Below w.heap.size w w' := by
  have A1 := Lib.hid (pQuery_any s w hW)
  have A2 := Lib.hid (fun W (h : Fr Non w W) => tQuery_any s W)
  have HV := Lib.hid (fun W (h : Fr Non w W) => live19_any W (hW.non h))
  have HN := Lib.hid (fun n V => lnum19_any n V)
  have HE : Hid (∀ c k g c2 k2 g2 W, QyS W (telQ s).1 c k g → QyS W (telQ s).1 c2 k2 g2 → Calls Tryz.prog 9 #[qyV (telQ s).1 c k g, qyV (telQ s).1 c2 k2 g2] W fun e w' => e = .returned (.bool true) ∧ Fr Non W w') := Lib.hid (fun c k g c2 k2 g2 W h1 h2 => by
    have x := rqsame_any _ c k g _ c2 k2 g2 W h1 h2 (telQ_sm s)
    rw [sameQ_self] at x
    exact x)
  clear hW
  unfold TelQ at A1 A2
  by_cases h5 : 500 < s.length
  · have hb : decide ((500 : Int) < (s.length : Int)) = true := by simp; omega
    clear h5 A1 A2 HE HN
    go_enter Tryz.func3, Tryz.ntmps3
    go_wp2_with fail
    refine (HV.out _ (Fr.refl _ _)).mono ?_
    rintro e w9 ⟨rfl, f9⟩
    have HF := Lib.hid f9
    clear f9
    go_wp2
    go_ret
    exact ⟨rfl, HF.out.below⟩
  · have hb : decide ((500 : Int) < (s.length : Int)) = false := by simp; omega
    clear h5
    generalize (telQ s).1 = q at *
    generalize (telQ s).2.1 = n at *
    generalize (telQ s).2.2 = er at *
    obtain ⟨tab, cols, ⟨⟨wo, wc, wm, ⟨wn, wi, wt⟩, wk, wp⟩, wks⟩, aggs, by_⟩ := q
    go_enter Tryz.func3, Tryz.ntmps3
    go_wp2_with fail
    refine A1.out.mono ?_
    rintro e w1 ⟨c, k, g, rfl, hG, hF⟩
    obtain ⟨cA, cc, rfl⟩ := hG.cols.shape
    obtain ⟨gA, gc, rfl⟩ := hG.aggs.shape
    obtain ⟨kA, kn, kc⟩ := k
    have Q1 := Lib.hid (qy_put hF hG.s)
    clear hG hF A1
    unfold qyC kidV at Q1
    unfold qyV qyC kidV
    dsimp only [Pd.hd, Pd.kids] at Q1
    dsimp only [Pd.hd, Pd.kids]
    go_upto_region 4 with fail
    generalize w1.alloc (.cells #[.string ⟨tab.toArray⟩, .slice cA cols.length cc, .int .i64 wo, .string ⟨wc.toArray⟩, .int .i64 wm, .bool wn, .int .i64 wi, .string ⟨wt.toArray⟩, .int .i64 wk, .string ⟨wp.toArray⟩, .slice kA kn kc, .slice gA aggs.length gc, .string ⟨by_.toArray⟩] 31) = W2 at *
    generalize w1.heap.size = b1 at *
    go_wp2_with fail
    refine (A2.out _ Q1.out.fr).mono ?_
    rintro e w2 ⟨c2, k2, g2, rfl, hG, hF⟩
    obtain ⟨cA2, cc2, rfl⟩ := hG.cols.shape
    obtain ⟨gA2, gc2, rfl⟩ := hG.aggs.shape
    obtain ⟨kA2, kn2, kc2⟩ := k2
    have R2 := Lib.hid (qy_put hF hG.s)
    have Q2 := Lib.hid ((Q1.out.non hF).non ((Fr.refl Non w2).alloc (.cells (qyC ⟨tab, cols, .mk ⟨wo, wc, wm, ⟨wn, wi, wt⟩, wk, wp⟩ wks, aggs, by_⟩ (.slice cA2 cols.length cc2) ⟨kA2, kn2, kc2⟩ (.slice gA2 aggs.length gc2)) 31)))
    have HS := Lib.hid (HE.out (.slice cA cols.length cc) ⟨kA, kn, kc⟩ (.slice gA aggs.length gc) (.slice cA2 cols.length cc2) ⟨kA2, kn2, kc2⟩ (.slice gA2 aggs.length gc2))
    clear hG hF A2 Q1 HE
    unfold qyC kidV at Q2 R2
    unfold qyV qyC kidV at HS
    unfold qyV qyC kidV
    dsimp only [Pd.hd, Pd.kids] at Q2 R2 HS
    dsimp only [Pd.hd, Pd.kids]
    go_upto_region 5 with fail
    generalize w2.alloc (.cells #[.string ⟨tab.toArray⟩, .slice cA2 cols.length cc2, .int .i64 wo, .string ⟨wc.toArray⟩, .int .i64 wm, .bool wn, .int .i64 wi, .string ⟨wt.toArray⟩, .int .i64 wk, .string ⟨wp.toArray⟩, .slice kA2 kn2 kc2, .slice gA2 aggs.length gc2, .string ⟨by_.toArray⟩] 31) = W4 at *
    generalize w2.heap.size = b2 at *
    have Q4 := Q2
    have R4 := R2
    clear Q2 R2
    obtain ⟨g0, g1, g2, g3, g4, g5, g6, g7, g8, g9, g10, g11, g12⟩ := Q4.out.cells
    obtain ⟨k0, k1, k2, k3, k4, k5, k6, k7, k8, k9, k10, k11, k12⟩ := R4.out.cells
    dsimp only [Pd.hd, Pd.kids] at g0 g1 g2 g3 g4 g5 g6 g7 g8 g9 g10 g11 g12 k0 k1 k2 k3 k4 k5 k6 k7 k8 k9 k10 k11 k12
    go_wp2_with fail
    refine (HS.out _ Q4.out.sls R4.out.sls).mono ?_
    rintro e w5 ⟨rfl, f5⟩
    have Q5 := Lib.hid (Q4.out.non f5)
    have R5 := Lib.hid (R4.out.non f5)
    clear g0 g1 g2 g3 g4 g5 g6 g7 g8 g9 g10 g11 g12 k0 k1 k2 k3 k4 k5 k6 k7 k8 k9 k10 k11 k12
    obtain ⟨g0, g1, g2, g3, g4, g5, g6, g7, g8, g9, g10, g11, g12⟩ := Q5.out.cells
    obtain ⟨k0, k1, k2, k3, k4, k5, k6, k7, k8, k9, k10, k11, k12⟩ := R5.out.cells
    dsimp only [Pd.hd, Pd.kids] at g0 g1 g2 g3 g4 g5 g6 g7 g8 g9 g10 g11 g12 k0 k1 k2 k3 k4 k5 k6 k7 k8 k9 k10 k11 k12
    go_wp2_with fail
    refine (HN.out _ _).mono ?_
    rintro e w6 ⟨rfl, rfl⟩
    go_wp2_with fail
    refine (HV.out _ Q5.out.fr).mono ?_
    rintro e w7 ⟨rfl, f7⟩
    have HF := Lib.hid (Q5.out.fr.trans f7)
    clear f7
    go_wp2
    go_ret
    exact ⟨rfl, HF.out.below⟩
end Go.Proofs.YtipgaafgnefmdaaGreatDoor


namespace Go.Proofs.YtipgaafgnefmdaaGreatDoor
set_option linter.unusedVariables false
set_option linter.unusedSimpArgs false
set_option maxRecDepth 100000
open Go.ChangeShapes Go.WideShapes Go.ChangeAt Go.RowKit

/-- a call's contract, by what the row says and by what the world's shape says -/
theorem handed_shaped {H : Type} {enc : TypeId × Value → H} {a : Assume} {C : Checked} {os : Os} {f : FuncId} {fn : Func} {s : ChangeSpec} {conds : List PathCond} {apart fresh handsOn again : Bool} {X : World → Array Value → Prop}
    (hX : ∀ (w w' : World) (args : Array Value), w.heap = w'.heap → X w args → X w' args)
    (own : ownKnob C.prog.godebug = none) (started : os.Started) (noInit : C.prog.inits.idxOf? f = none) (hfn : C.prog.funcs[f]? = some fn)
    (witness : ∃ (w : World) (tape : Tape) (i : Input), w.os = os ∧ (w.forCall tape i).Shaped C.prog ∧ i.vars = [] ∧ Input.okWide C.prog (w.forCall tape i) .any w.heap.size f i ∧
      ((s.pre enc C.prog fn conds apart (w.forCall tape i).memory i.args ∧ X (w.forCall tape i).memory i.args) ∧ sizedMet enc C.prog fn (OpenSpec.ofChange s) apart (w.forCall tape i).memory i.args) ∧ a.holds C.prog (lone (Frame.enter C.prog f i.args .normal) [] (w.forCall tape i)))
    (contract : ∀ (W : World) (base : Nat) (args : Array Value) (ds gs : List (DataW H)) (before : List MemPlace),
      (∀ (j : Nat) t v, fn.params[j]? = some t → args[j]? = some v → Value.okWide C.prog W .any base t v) →
      DataW.Whole enc C.prog fn.params.toList s.vars apart W args.toList ds gs before → W.ShapedOpen C.prog → X W args →
      Calls C.prog f args W fun e W' => ∃ v, e = .returned v ∧ s.post enc C.prog fn apart fresh handsOn again W args v W') :
    ReturnsInHanded a C os f .any (fun w args => (s.pre enc C.prog fn conds apart w args ∧ X w args) ∧ sizedMet enc C.prog fn (OpenSpec.ofChange s) apart w args) (s.post enc C.prog fn apart fresh handsOn again) := by
  refine returnsInHanded_of_calls own started noInit witness ?_
  intro w tape i _ hsh _ hok hpre hholds
  obtain ⟨_, _, _, fn', hfn', _, _, _, _, hval⟩ := hok
  obtain rfl : fn' = fn := Option.some.inj (hfn'.symm.trans hfn)
  obtain ⟨⟨⟨ds, gs, before, hw, _⟩, hx⟩, _⟩ := hpre
  refine (contract (w.forCall tape i) w.heap.size i.args ds gs before hval (DataW.Whole.of_heap (w' := w.forCall tape i) (by rfl) hw) hsh (hX _ _ _ (by rfl) hx)).mono fun e W' ⟨v, he, hp⟩ => ?_
  subst he
  exact ChangeSpec.post_blind hp

end Go.Proofs.YtipgaafgnefmdaaGreatDoor


namespace Go.Proofs.YtipgaafgnefmdaaGreatDoor
set_option linter.unusedVariables false
set_option linter.unusedSimpArgs false
set_option maxRecDepth 100000
open Go.ChangeShapes Go.WideShapes Go.ChangeAt Go.RowKit

/-- the list of the rows of this layer -/
abbrev laid16 : List (String × DataW Unit) := [("math/bits.deBruijn32tab", Rows.laid_math_bits_deBruijn32tab), ("math/bits.deBruijn64tab", Rows.laid_math_bits_deBruijn64tab), ("internal/strconv.uint64pow10", Rows.laid_internal_strconv_uint64pow10), ("unicode/utf8.acceptRanges", Rows.laid_unicode_utf8_acceptRanges), ("strconv.ErrRange", Rows.laid_strconv_ErrRange), ("strconv.ErrSyntax", Rows.laid_strconv_ErrSyntax), ("firkin/word.marks", Rows.laid_firkin_word_marks), ("unicode/utf8.first", Rows.laid_unicode_utf8_first)]
theorem err_row (u : TypeId) (h : Tryz.prog.typeName? 3 u = some "*errors.errorString") : u = 170 :=
  typeName_ptr_named (nm := "errors.errorString") (by rw [show "*" ++ "errors.errorString" = "*errors.errorString" by decide]; kernel_rfl) (by kernel_rfl) (by decide) u (by rw [show "*" ++ "errors.errorString" = "*errors.errorString" by decide]; exact h)
theorem pow_data : (Rows.laid_internal_strconv_uint64pow10 : DataW Unit) = Lib.tabData .u64 Lib.pow10Tab := by kernel_rfl
def marksD : List (DataW Unit) := marksL.map fun l => .lit (.string l)
theorem marks_data : (Rows.laid_firkin_word_marks : DataW Unit) = .agg marksD := by kernel_rfl
theorem marks_in {W : World} {r : List (String × DataW Unit)} (h : laidMet Tryz.prog (("firkin/word.marks", Rows.laid_firkin_word_marks) :: r) W) : ∀ j (h : j < marksL.length), W.cell? ⟨0, j, none⟩ = some (.string ⟨marksL[j].toArray⟩) := by
  intro j hj
  rw [marks_data] at h
  obtain ⟨ps, ⟨g, t, cs, fuel, p, q, hg, ht, hv, hd, _, _⟩, _, _⟩ := h
  obtain rfl := Option.some.inj ((show Tryz.prog.globalNamed "firkin/word.marks" = some 0 by kernel_rfl).symm.trans hg)
  obtain rfl := Option.some.inj ((show (Tryz.prog.globals[0]?).map (·.type) = some 130 by kernel_rfl).symm.trans ht)
  obtain ⟨xs, m, _, ex, _, hl, hel⟩ := DataW.trod_array Tryz.underlying130 hd
  have c9 : Tryz.prog.cellsOf 9 = 1 := by kernel_rfl
  have hj10 : j < 10 := hj
  have hE := hel j hj10
  rw [c9, Nat.mul_one, List.getElem?_eq_getElem (by omega)] at hE
  obtain ⟨s, e1, e2, _⟩ := DataW.trod_string Tryz.underlying9 hE
  have e3 : (xs.map (·.1)) = marksD := (DataW.agg.inj (Prod.mk.inj ex).1).symm
  have e4 : (xs.map (·.1))[j]? = marksD[j]? := by rw [e3]
  unfold marksD at e4
  obtain ⟨m', hm⟩ : ∃ m', marksL[j]? = some m' := ⟨_, List.getElem?_eq_getElem hj⟩
  rw [List.getElem?_map, List.getElem?_map, List.getElem?_eq_getElem (by omega : j < xs.length), hm, e2] at e4
  have hs : s.data.toList = m' := by simpa using e4
  rw [World.var?_cell hg hv j, (List.getElem?_eq_some_iff.1 hm).2, ← hs]
  have : cs.toList[j]? = some (.string s) := by
    have h0 : ((cs.toList.drop j).take 1)[0]? = some (.string s) := by rw [e1]; rfl
    simpa using h0
  simpa using this
theorem lw_in {W : World} (h : laidMetH Tryz.prog laid16 W) (hs : W.ShapedOpen Tryz.prog) : Lw W := by
  rw [MakeChecks.laidMetH_plain _ _ _ (by kernel_rfl)] at h
  have h2 := h.tail.tail
  have h5 := h2.tail.tail
  have h7 := h5.tail.tail
  refine ⟨marks_in h7, cell_of_shapedOpen_int hs (by decide +kernel) (t := 3) (zero := #[.int .i64 0]) (by kernel_rfl) rfl (by kernel_rfl) (by kernel_rfl) Tryz.underlying3, ?_, ?_, ?_⟩
  · exact Lib.tabIs_of_head (n := 20) (show Tryz.prog.globalNamed "internal/strconv.uint64pow10" = some 3 by kernel_rfl)
      (show (Tryz.prog.globals[3]?).map (·.type) = some 175 by kernel_rfl) Tryz.underlying175 Tryz.underlying120 (by kernel_rfl) (by kernel_rfl) (by rw [pow_data] at h2; exact h2)
  · obtain ⟨a, s, hv, _⟩ := laid_sentinel h5.tail (show Tryz.prog.globalNamed "strconv.ErrSyntax" = some 1 by kernel_rfl) (show (Tryz.prog.globals[1]?).map (·.type) = some 126 by kernel_rfl) Tryz.underlying126 err_row Tryz.underlying170 Tryz.underlying172 rfl rfl Tryz.underlying9 (by kernel_rfl) (by kernel_rfl)
    exact ⟨_, _, hv⟩
  · obtain ⟨a, s, hv, _⟩ := laid_sentinel h5 (show Tryz.prog.globalNamed "strconv.ErrRange" = some 2 by kernel_rfl) (show (Tryz.prog.globals[2]?).map (·.type) = some 126 by kernel_rfl) Tryz.underlying126 err_row Tryz.underlying170 Tryz.underlying172 rfl rfl Tryz.underlying9 (by kernel_rfl) (by kernel_rfl)
    exact ⟨_, _, hv⟩

/-! ### A world in which they lie so -/
theorem laid16_shaped (os : Os) : (World.laidAll Tryz.prog os laid16).Shaped Tryz.prog := World.shaped_of_ZipB (by kernel_rfl) (by kernel_rfl)
theorem laid16_met (os : Os) (args : Array Value) : laidMetH Tryz.prog laid16 ((World.laidAll Tryz.prog os laid16).forCall (fun _ _ => 0) ⟨#[], args, []⟩).memory := by
  rw [MakeChecks.laidMetH_plain _ _ _ (by kernel_rfl)]
  exact laidMet_laidAll _ (by kernel_rfl) (by kernel_rfl)
end Go.Proofs.YtipgaafgnefmdaaGreatDoor
