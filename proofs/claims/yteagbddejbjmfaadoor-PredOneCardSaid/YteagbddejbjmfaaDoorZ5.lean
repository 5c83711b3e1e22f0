/-
  Joined: Layer 17: whether two are the same, both programs'. · A map of texts to whole numbers of the call's own: which texts it has, and how many; made, written, counted. · Layer 17: the document's May, Small, typed, Fits. · Predicates' texts read again: a reader of texts (of lists of bytes, by so many steps), which reads each predicate's text as the predicate: so unlike ones have unlike texts. Nothing of the program. · Layer 17: the walk of the law that unlike predicates have unlike texts. · A row's frame that hands the world's shape on. · Arguments opened: a cell by value; a value of each type. · Slices of cells: what one reads as (Cs), a row of the call's own (Oc), and the steps over them. · Arguments opened: a slice of cells.
-/
import Derived.Laws.StructEq
import Derived.Laws.Rows
import Derived.Laws.ResultCell
import Derived.Lib.Zigzag
import Derived.Lib.DecodeN
import Derived.Laws.RangeAny
import Derived.Laws.Cover4
import Derived.Laws.Cover1
import Derived.Lib.SmallJoins
import Derived.Lib.AppendIntMem
import Derived.BigQuiet
import Derived.Deep.RegionHeld3
import Derived.Test.YteagbddejbjmfaaDoorZ4
import Derived.Test.YteagbddejbjmfaaDoorZ1
import Derived.Maps.OwnSet
import Derived.Maps.OwnOps
import Derived.Test.YteagbddejbjmfaaDoorZ3
import Derived.Test.YteagbddejbjmfaaDoorRows
import Derived.LaidMore
import Derived.Lay
import Derived.Handed
import Derived.Shelf.Vars
import Derived.OpenShut
import Derived.Stop.Joined
import Derived.ProofKit

namespace Go.Proofs.YteagbddejbjmfaaDoor
set_option linter.unusedVariables false
set_option linter.unusedSimpArgs false
set_option maxRecDepth 100000
open Go.RowKit

theorem sameP_is (h h' : Ph) (ks ks' : List Pd) : sameP (.mk h ks) (.mk h' ks') = (peq h h' && sameL ks ks') := by rw [sameP]; rfl
theorem sameL_len {l m : List Pd} (h : ¬ l.length = m.length) : sameL l m = false := by
  rw [Bool.eq_false_iff]
  intro e
  exact h (by rw [(sameL_iff l m).1 e])
theorem sameL_at {l m : List Pd} {k : Nat} (h1 : k < l.length) (h2 : k < m.length) : sameL (l.drop k) (m.drop k) = (sameP l[k] m[k] && sameL (l.drop (k + 1)) (m.drop (k + 1))) := by
  rw [List.drop_eq_getElem_cons h1, List.drop_eq_getElem_cons h2, sameL]
theorem sameL_end {l m : List Pd} {k : Nat} (h1 : l.length ≤ k) (h2 : m.length ≤ k) : sameL (l.drop k) (m.drop k) = true := by
  rw [List.drop_eq_nil_of_le h1, List.drop_eq_nil_of_le h2, sameL]

set_option maxHeartbeats 4000000 in
theorem eqf_any (ks ms : List Pd) (s t : Kv) (w : World) (hk : Kd w s ks) (hm : Kd w t ms) (hl : ks.length ≤ 20)
    (IH : Hid (∀ k (h : k < ks.length) (j : Nat) (h2 : j < ms.length) (W : World) (s' t' : Kv), Kd W s' ks[k].kids → Kd W t' ms[j].kids → Calls Tryd.prog 21 #[pdV ks[k].hd s', pdV ms[j].hd t'] W fun e w' => e = .returned (.bool (sameP ks[k] ms[j])) ∧ Fr Non W w')) :
    Calls Tryd.prog 43 #[kidV s, kidV t, .func (.func 21) #[] #[]] w fun e w' => e = .returned (.bool (sameL ks ms)) ∧ Fr Non w w' := by
  have hn1 := hk.len
  have hn2 := hm.len
  have HK := Lib.hid hk
  have HM := Lib.hid hm
  have HS0 := Lib.hid (fun e => sameL_len (l := ks) (m := ms) e)
  have HS1 : Hid (sameL ks ms = sameL (ks.drop 0) (ms.drop 0)) := Lib.hid rfl
  generalize sameL ks ms = r at *
  clear hk hm
  obtain ⟨A, n, c⟩ := s
  obtain ⟨A2, n2, c2⟩ := t
  dsimp only at hn1 hn2
  have hn20 : n ≤ 20 := by omega
  have HL1 := Lib.hid hn1
  have HL2 := Lib.hid hn2
  clear hn1 hn2 hl
  unfold kidV
  dsimp only
  by_cases hne : n = n2
  · subst hne
    clear HS0
    go_enter Tryd.func43, Tryd.ntmps43
    go_wp2
    go_loopw [17] (fun i wr => ∃ k : Nat, k ≤ n ∧ i = .int .i64 k ∧ Hid (r = sameL (ks.drop k) (ms.drop k)) ∧ Hid (Fr Non w wr)) (fun i _ => n - (intOf i).toNat)
    case atStart => exact ⟨0, Nat.zero_le _, rfl, HS1, Lib.hid (Fr.refl _ _)⟩
    case round =>
      clear HS1
      obtain ⟨k, hk, rfl, HE, FR⟩ := hrel
      by_cases hlt : k < n
      · have h1 : k < ks.length := by have := HL1.out; omega
        have h2 : k < ms.length := by have := HL2.out; omega
        obtain ⟨a, t, hA, hc, hkk, _⟩ := HK.out.elN FR.out k h1
        dsimp only at hA
        subst hA
        obtain ⟨a2, t2, hA2, hc2, hkk2, _⟩ := HM.out.elN FR.out k h2
        dsimp only at hA2
        subst hA2
        obtain ⟨c0, c1, c2, c3, c4, c5, c6, c7, c8⟩ := hc
        obtain ⟨d0, d1, d2, d3, d4, d5, d6, d7, d8⟩ := hc2
        have HC := Lib.hid (fun W hf => IH.out k h1 k h2 W t t2 (hkk.non (FR.out.trans hf)) (hkk2.non (FR.out.trans hf)))
        have HY := Lib.hid (HE.out.trans (sameL_at h1 h2))
        clear hkk hkk2 HE
        generalize sameP ks[k] ms[k] = b at *
        generalize ks[k].hd = x at *
        generalize ms[k].hd = y at *
        obtain ⟨xo, xc, xm, ⟨xn, xi, xt⟩, xk, xp⟩ := x
        obtain ⟨yo, yc, ym, ⟨yn, yi, yt⟩, yk, yp⟩ := y
        obtain ⟨tA, tn, tc⟩ := t
        obtain ⟨uA, un, uc⟩ := t2
        unfold pdV pdC kidV at HC
        dsimp only at HC c0 c1 c2 c3 c4 c5 c6 c7 c8 d0 d1 d2 d3 d4 d5 d6 d7 d8
        have G2 := Lib.hid (((Fr.refl Non wr).alloc (.cells #[.int .i64 xo, .string ⟨xc.toArray⟩, .int .i64 xm, .bool xn, .int .i64 xi, .string ⟨xt.toArray⟩, .int .i64 xk, .string ⟨xp.toArray⟩, .slice tA tn tc] 27)).alloc (.cells #[.int .i64 yo, .string ⟨yc.toArray⟩, .int .i64 ym, .bool yn, .int .i64 yi, .string ⟨yt.toArray⟩, .int .i64 yk, .string ⟨yp.toArray⟩, .slice uA un uc] 27))
        have HC2 := Lib.hid (HC.out _ G2.out)
        clear HC
        have AP : ∀ o : Obj, ∀ p : Addr, ∀ v, wr.cell? p = some v → (wr.alloc o).cell? p = some v := fun o p v e => (((Fr.refl Non wr).alloc o).cell (World.block_lt_of_cell? _ _ e) (fun e => e)).trans e
        replace AP := Lib.hid AP
        have d0' := AP.out (.cells #[.int .i64 xo, .string ⟨xc.toArray⟩, .int .i64 xm, .bool xn, .int .i64 xi, .string ⟨xt.toArray⟩, .int .i64 xk, .string ⟨xp.toArray⟩, .slice tA tn tc] 27) _ _ d0
        have d1' := AP.out (.cells #[.int .i64 xo, .string ⟨xc.toArray⟩, .int .i64 xm, .bool xn, .int .i64 xi, .string ⟨xt.toArray⟩, .int .i64 xk, .string ⟨xp.toArray⟩, .slice tA tn tc] 27) _ _ d1
        have d2' := AP.out (.cells #[.int .i64 xo, .string ⟨xc.toArray⟩, .int .i64 xm, .bool xn, .int .i64 xi, .string ⟨xt.toArray⟩, .int .i64 xk, .string ⟨xp.toArray⟩, .slice tA tn tc] 27) _ _ d2
        have d3' := AP.out (.cells #[.int .i64 xo, .string ⟨xc.toArray⟩, .int .i64 xm, .bool xn, .int .i64 xi, .string ⟨xt.toArray⟩, .int .i64 xk, .string ⟨xp.toArray⟩, .slice tA tn tc] 27) _ _ d3
        have d4' := AP.out (.cells #[.int .i64 xo, .string ⟨xc.toArray⟩, .int .i64 xm, .bool xn, .int .i64 xi, .string ⟨xt.toArray⟩, .int .i64 xk, .string ⟨xp.toArray⟩, .slice tA tn tc] 27) _ _ d4
        have d5' := AP.out (.cells #[.int .i64 xo, .string ⟨xc.toArray⟩, .int .i64 xm, .bool xn, .int .i64 xi, .string ⟨xt.toArray⟩, .int .i64 xk, .string ⟨xp.toArray⟩, .slice tA tn tc] 27) _ _ d5
        have d6' := AP.out (.cells #[.int .i64 xo, .string ⟨xc.toArray⟩, .int .i64 xm, .bool xn, .int .i64 xi, .string ⟨xt.toArray⟩, .int .i64 xk, .string ⟨xp.toArray⟩, .slice tA tn tc] 27) _ _ d6
        have d7' := AP.out (.cells #[.int .i64 xo, .string ⟨xc.toArray⟩, .int .i64 xm, .bool xn, .int .i64 xi, .string ⟨xt.toArray⟩, .int .i64 xk, .string ⟨xp.toArray⟩, .slice tA tn tc] 27) _ _ d7
        have d8' := AP.out (.cells #[.int .i64 xo, .string ⟨xc.toArray⟩, .int .i64 xm, .bool xn, .int .i64 xi, .string ⟨xt.toArray⟩, .int .i64 xk, .string ⟨xp.toArray⟩, .slice tA tn tc] 27) _ _ d8
        clear d0 d1 d2 d3 d4 d5 d6 d7 d8 AP
        cases b
        · have HE2 : Hid (r = false) := Lib.hid (by rw [HY.out]; rfl)
          clear HY
          go_wp2_with fail
          refine HC2.out.mono ?_
          rintro e w2 ⟨rfl, f2⟩
          go_wp2
          go_ret
          exact ⟨ret_boolE HE2.out.symm, (FR.out.trans G2.out).trans f2⟩
        · have HE2 : Hid (r = sameL (ks.drop (k + 1)) (ms.drop (k + 1))) := Lib.hid (by rw [HY.out]; rfl)
          clear HY
          go_wp2_with fail
          refine HC2.out.mono ?_
          rintro e w2 ⟨rfl, f2⟩
          go_wp2
          go_roundw
          case rel => exact ⟨k + 1, by omega, by go_num, HE2, Lib.hid ((FR.out.trans G2.out).trans f2)⟩
          case measure => simp [intOf]; omega
      · have HE2 : Hid (r = true) := Lib.hid (HE.out.trans (sameL_end (by have := HL1.out; omega) (by have := HL2.out; omega)))
        clear HE
        go_wp2
        go_ret
        exact ⟨ret_boolE HE2.out.symm, FR.out⟩
  · have hb : ((n : Int) != n2) = true := by rw [bne_iff_ne]; omega
    have HE2 : Hid (r = false) := Lib.hid (HS0.out (by have := HL1.out; have := HL2.out; omega))
    clear hne HS0 HS1
    go_enter Tryd.func43, Tryd.ntmps43
    go_wp2
    go_ret
    exact ⟨ret_boolE HE2.out.symm, Fr.refl _ _⟩

set_option maxHeartbeats 4000000 in
theorem psame_any (p : Pd) : ∀ (q : Pd) (s t : Kv) (w : World), Kd w s p.kids → Kd w t q.kids → lenP p = true →
    Calls Tryd.prog 21 #[pdV p.hd s, pdV q.hd t] w fun e w' => e = .returned (.bool (sameP p q)) ∧ Fr Non w w' := by
  induction p using Pd.ind with
  | h hd ks ih =>
    rintro ⟨hd2, ms⟩ s t w hk hm hlen
    have hls := lenP_mk hlen
    dsimp only [Pd.hd, Pd.kids] at hk hm ⊢
    have E1 := Lib.hid (fun W hk hm => eqf_any ks ms s t W hk hm hls.1 (Lib.hid (fun k h j h2 W s' t' a b => ih _ (List.getElem_mem h) ms[j] s' t' W a b (hls.2.2.2.2 _ (List.getElem_mem h)))))
    have A1 := Lib.hid (fun W => alike_any hd hd2 s t W)
    have PB := pd2_new w _ hd hd2 s t rfl
    have F0 : Fr Non w ((w.alloc (.cells (pdC hd s) 27)).alloc (.cells (pdC hd2 t) 27)) := ((Fr.refl Non w).alloc _).alloc _
    have HE0 := Lib.hid (sameP_is hd hd2 ks ms)
    generalize sameP _ _ = r at *
    generalize sameL ks ms = b at *
    generalize peq hd hd2 = q at *
    have HK := Lib.hid (hk.non F0)
    have HM := Lib.hid (hm.non F0)
    have PB := Lib.hid PB
    have F0 := Lib.hid F0
    clear ih hk hm hlen hls
    obtain ⟨ho, hc, hmm, ⟨vn, vi, vt⟩, hkd, hp⟩ := hd
    obtain ⟨go, gc, gm, ⟨un, ui, ut⟩, gkd, gp⟩ := hd2
    obtain ⟨A, n, c⟩ := s
    obtain ⟨A2, n2, c2⟩ := t
    unfold pdV pdC kidV at *
    dsimp only at *
    cases q
    · have HE : Hid (r = false) := Lib.hid (by rw [HE0.out]; rfl)
      clear HE0 E1
      go_enter Tryd.func21, Tryd.ntmps21
      go_wp2_with fail
      refine (A1.out _).mono ?_
      rintro e w1 ⟨rfl, f1⟩
      go_wp2
      go_ret
      exact ⟨ret_boolE HE.out.symm, F0.out.trans f1⟩
    · have HE : Hid (r = b) := Lib.hid (by rw [HE0.out]; rfl)
      clear HE0
      go_enter Tryd.func21, Tryd.ntmps21
      go_wp2_with fail
      refine (A1.out _).mono ?_
      rintro e w1 ⟨rfl, f1⟩
      have g8 := (PB.out.1.fr f1 (fun e => e)).cell 8
      have h8 := (PB.out.2.fr f1 (fun e => e)).cell 8
      simp [pdC, kidV] at g8 h8
      have HK1 := Lib.hid (HK.out.non f1)
      have HM1 := Lib.hid (HM.out.non f1)
      have F1 := Lib.hid (F0.out.trans f1)
      clear f1 PB HK HM F0
      go_wp2_with fail
      refine (E1.out _ HK1.out HM1.out).mono ?_
      rintro e w2 ⟨rfl, f2⟩
      go_wp2
      go_ret
      exact ⟨ret_boolE HE.out.symm, F1.out.trans f2⟩

set_option maxHeartbeats 8000000 in
theorem rpsame_any (p : Pd) : ∀ (q : Pd) (s t : Kv) (w : World), Kd w s p.kids → Kd w t q.kids → lenP p = true →
    Calls Tryd.prog 22 #[pdV p.hd s, pdV q.hd t] w fun e w' => e = .returned (.bool (sameP p q)) ∧ Fr Non w w' := by
  induction p using Pd.ind with
  | h hd ks ih =>
    rintro ⟨hd2, ms⟩ s t w hk hm hlen
    have hls := lenP_mk hlen
    dsimp only [Pd.hd, Pd.kids] at hk hm ⊢
    have hn1 := hk.len
    have hn2 := hm.len
    have IH : Hid (∀ k (h : k < ks.length) (j : Nat) (h2 : j < ms.length) (W : World) (s' t' : Kv), Kd W s' ks[k].kids → Kd W t' ms[j].kids → Calls Tryd.prog 22 #[pdV ks[k].hd s', pdV ms[j].hd t'] W fun e w' => e = .returned (.bool (sameP ks[k] ms[j])) ∧ Fr Non W w') := Lib.hid (fun k h j h2 W s' t' a b => ih _ (List.getElem_mem h) ms[j] s' t' W a b (hls.2.2.2.2 _ (List.getElem_mem h)))
    have A1 := Lib.hid (fun W => flat_any hd hd2 s t W)
    have PB := pd2_new w _ hd hd2 s t rfl
    have F0 : Fr Non w ((w.alloc (.cells (pdC hd s) 27)).alloc (.cells (pdC hd2 t) 27)) := ((Fr.refl Non w).alloc _).alloc _
    have HE0 := Lib.hid (sameP_is hd hd2 ks ms)
    have HS0 := Lib.hid (fun e => sameL_len (l := ks) (m := ms) e)
    have HS1 : Hid (sameL ks ms = sameL (ks.drop 0) (ms.drop 0)) := Lib.hid rfl
    generalize sameP (.mk hd ks) (.mk hd2 ms) = r at *
    generalize sameL ks ms = b0 at *
    generalize peq hd hd2 = q at *
    have HK := Lib.hid (hk.non F0)
    have HM := Lib.hid (hm.non F0)
    have PB := Lib.hid PB
    have F0 := Lib.hid F0
    have hls2 : ks.length ≤ 20 := hls.1
    clear ih hk hm hlen hls
    obtain ⟨ho, hc, hmm, ⟨vn, vi, vt⟩, hkd, hp⟩ := hd
    obtain ⟨go, gc, gm, ⟨un, ui, ut⟩, gkd, gp⟩ := hd2
    obtain ⟨A, n, c⟩ := s
    obtain ⟨A2, n2, c2⟩ := t
    dsimp only at hn1 hn2
    have hn20 : n ≤ 20 := by omega
    have HL1 := Lib.hid hn1
    have HL2 := Lib.hid hn2
    clear hn1 hn2 hls2
    unfold pdV pdC kidV at A1 ⊢
    dsimp only at A1 ⊢
    cases q
    · have HE : Hid (r = false) := Lib.hid (by rw [HE0.out]; rfl)
      clear HE0 IH HS0 HS1
      go_enter Tryd.func22, Tryd.ntmps22
      go_wp2_with fail
      refine (A1.out _).mono ?_
      rintro e w1 ⟨rfl, f1⟩
      go_wp2
      go_ret
      exact ⟨ret_boolE HE.out.symm, F0.out.trans f1⟩
    · have HE : Hid (r = b0) := Lib.hid (by rw [HE0.out]; rfl)
      clear HE0
      go_enter Tryd.func22, Tryd.ntmps22
      go_wp2_with fail
      refine (A1.out _).mono ?_
      rintro e w1 ⟨rfl, f1⟩
      have PB1 := Lib.hid (PB.out.1.fr f1 (fun e => e))
      have PB2 := Lib.hid (PB.out.2.fr f1 (fun e => e))
      have g8 := PB1.out.cell 8
      have h8 := PB2.out.cell 8
      simp [pdC, kidV] at g8 h8
      have HK1 := Lib.hid (HK.out.non f1)
      have HM1 := Lib.hid (HM.out.non f1)
      have F1 := Lib.hid (F0.out.trans f1)
      clear f1 PB HK HM F0 A1
      by_cases hne : n = n2
      · subst hne
        clear HS0
        go_wp2
        go_loopw [5] (fun i wr => ∃ k : Nat, k ≤ n ∧ i = .int .i64 k ∧ Hid (b0 = sameL (ks.drop k) (ms.drop k)) ∧ Hid (Fr Non w1 wr)) (fun i _ => n - (intOf i).toNat)
        case atStart => exact ⟨0, Nat.zero_le _, rfl, HS1, Lib.hid (Fr.refl _ _)⟩
        case round =>
          clear HS1 g8 h8
          obtain ⟨k, hk, rfl, HT, FR⟩ := hrel
          have g8 := (PB1.out.fr FR.out (fun e => e)).cell 8
          have h8 := (PB2.out.fr FR.out (fun e => e)).cell 8
          simp [pdC, kidV] at g8 h8
          by_cases hlt : k < n
          · have h1 : k < ks.length := by have := HL1.out; omega
            have h2 : k < ms.length := by have := HL2.out; omega
            obtain ⟨a, t, hA, hc, hkk, _⟩ := HK1.out.elN FR.out.drew k h1
            dsimp only at hA
            subst hA
            obtain ⟨a2, t2, hA2, hc2, hkk2, _⟩ := HM1.out.elN FR.out.drew k h2
            dsimp only at hA2
            subst hA2
            have q0 : wr.drew.cell? ⟨w.heap.size, 8, none⟩ = _ := g8
            have q1 : wr.drew.cell? ⟨w.heap.size + 1, 8, none⟩ = _ := h8
            obtain ⟨q2, q3, q4, q5, q6, q7, q8, q9, q10⟩ := hc
            obtain ⟨q11, q12, q13, q14, q15, q16, q17, q18, q19⟩ := hc2
            have HC := Lib.hid (IH.out k h1 k h2 wr.drew t t2 (hkk.non FR.out.drew) (hkk2.non FR.out.drew))
            have HY := Lib.hid (HT.out.trans (sameL_at h1 h2))
            clear hkk hkk2 HT
            generalize sameP ks[k] ms[k] = b at *
            generalize ks[k].hd = x at *
            generalize ms[k].hd = y at *
            obtain ⟨xo, xc, xm, ⟨xn, xi, xt⟩, xk, xp⟩ := x
            obtain ⟨yo, yc, ym, ⟨yn, yi, yt⟩, yk, yp⟩ := y
            obtain ⟨tA, tn, tc⟩ := t
            obtain ⟨uA, un, uc⟩ := t2
            unfold pdV pdC kidV at HC
            dsimp only at HC q2 q3 q4 q5 q6 q7 q8 q9 q10 q11 q12 q13 q14 q15 q16 q17 q18 q19
            cases b
            · have HE2 : Hid (r = false) := Lib.hid (by rw [HE.out, HY.out]; rfl)
              clear HY
              go_wp2
              refine wp_region_held_drew (S := (fun W => W.cell? ⟨w.heap.size, 8, none⟩ = some (.slice (some a) n c) ∧ W.cell? ⟨w.heap.size + 1, 8, none⟩ = some (.slice (some a2) n c2) ∧ W.cell? (a.add (k * 9)) = some (.int .i64 xo) ∧ W.cell? { block := (a.add (k * 9)).block, off := (a.add (k * 9)).off + 1 } = some (.string ⟨xc.toArray⟩) ∧ W.cell? { block := (a.add (k * 9)).block, off := (a.add (k * 9)).off + 2 } = some (.int .i64 xm) ∧ W.cell? { block := (a.add (k * 9)).block, off := (a.add (k * 9)).off + 3 } = some (.bool xn) ∧ W.cell? { block := (a.add (k * 9)).block, off := (a.add (k * 9)).off + 4 } = some (.int .i64 xi) ∧ W.cell? { block := (a.add (k * 9)).block, off := (a.add (k * 9)).off + 5 } = some (.string ⟨xt.toArray⟩) ∧ W.cell? { block := (a.add (k * 9)).block, off := (a.add (k * 9)).off + 6 } = some (.int .i64 xk) ∧ W.cell? { block := (a.add (k * 9)).block, off := (a.add (k * 9)).off + 7 } = some (.string ⟨xp.toArray⟩) ∧ W.cell? { block := (a.add (k * 9)).block, off := (a.add (k * 9)).off + 8 } = some (.slice tA tn tc) ∧ W.cell? (a2.add (k * 9)) = some (.int .i64 yo) ∧ W.cell? { block := (a2.add (k * 9)).block, off := (a2.add (k * 9)).off + 1 } = some (.string ⟨yc.toArray⟩) ∧ W.cell? { block := (a2.add (k * 9)).block, off := (a2.add (k * 9)).off + 2 } = some (.int .i64 ym) ∧ W.cell? { block := (a2.add (k * 9)).block, off := (a2.add (k * 9)).off + 3 } = some (.bool yn) ∧ W.cell? { block := (a2.add (k * 9)).block, off := (a2.add (k * 9)).off + 4 } = some (.int .i64 yi) ∧ W.cell? { block := (a2.add (k * 9)).block, off := (a2.add (k * 9)).off + 5 } = some (.string ⟨yt.toArray⟩) ∧ W.cell? { block := (a2.add (k * 9)).block, off := (a2.add (k * 9)).off + 6 } = some (.int .i64 yk) ∧ W.cell? { block := (a2.add (k * 9)).block, off := (a2.add (k * 9)).off + 7 } = some (.string ⟨yp.toArray⟩) ∧ W.cell? { block := (a2.add (k * 9)).block, off := (a2.add (k * 9)).off + 8 } = some (.slice uA un uc))) (by kernel_rfl) (by exact ⟨q0, q1, q2, q3, q4, q5, q6, q7, q8, q9, q10, q11, q12, q13, q14, q15, q16, q17, q18, q19⟩) (fun hHeld => ?_)
              refine wpAnyH_take (i := 0) (oi := ⟨some 26, _, _, _, _, none⟩) (v := ?v1) rfl (by kernel_rfl) (by kernel_rfl) (by kernel_rfl) (fun _ _ _ h => h) (Or.inl ⟨by rfl, ?hy1⟩) (by assumption) ?rest1
              case hy1 => (intro wS hSw; (try dsimp only at hSw); go_simp; (try with_reducible rfl))
              (try simp only [Act.put, List.setIfInBounds_toArray, List.set_cons_zero, List.set_cons_succ])
              refine wpAnyH_take (i := 1) (oi := ⟨some 27, _, _, _, _, none⟩) (v := ?v2) rfl (by kernel_rfl) (by kernel_rfl) (by kernel_rfl) (fun _ _ _ h => h) (Or.inl ⟨by rfl, ?hy2⟩) (by assumption) ?rest2
              case hy2 => (intro wS hSw; (try dsimp only at hSw); go_simp; (try with_reducible rfl))
              (try simp only [Act.put, List.setIfInBounds_toArray, List.set_cons_zero, List.set_cons_succ])
              refine wpAnyH_take (i := 2) (oi := ⟨some 28, _, _, _, _, none⟩) (v := ?v3) rfl (by kernel_rfl) (by kernel_rfl) (by kernel_rfl) (fun _ _ _ h => h) (Or.inl ⟨by rfl, ?hy3⟩) (by assumption) ?rest3
              case hy3 => (intro wS hSw; (try dsimp only at hSw); go_simp; (try with_reducible rfl))
              (try simp only [Act.put, List.setIfInBounds_toArray, List.set_cons_zero, List.set_cons_succ])
              refine wpAnyH_take (i := 3) (oi := ⟨some 29, _, _, _, _, none⟩) (v := ?v4) rfl (by kernel_rfl) (by kernel_rfl) (by kernel_rfl) (fun _ _ _ h => h) (Or.inl ⟨by rfl, ?hy4⟩) (by assumption) ?rest4
              case hy4 => (intro wS hSw; (try dsimp only at hSw); go_simp; (try with_reducible rfl))
              (try simp only [Act.put, List.setIfInBounds_toArray, List.set_cons_zero, List.set_cons_succ])
              refine wpAnyH_take (i := 4) (oi := ⟨some 30, _, _, _, _, none⟩) (v := ?v5) rfl (by kernel_rfl) (by kernel_rfl) (by kernel_rfl) (fun _ _ _ h => h) (Or.inl ⟨by rfl, ?hy5⟩) (by assumption) ?rest5
              case hy5 => (intro wS hSw; (try dsimp only at hSw); go_simp; (try with_reducible rfl))
              (try simp only [Act.put, List.setIfInBounds_toArray, List.set_cons_zero, List.set_cons_succ])
              refine wpAnyH_take (i := 5) (oi := ⟨some 31, _, _, _, _, none⟩) (v := ?v6) rfl (by kernel_rfl) (by kernel_rfl) (by kernel_rfl) (fun _ _ _ h => h) (Or.inl ⟨by rfl, ?hy6⟩) (by assumption) ?rest6
              case hy6 => (intro wS hSw; (try dsimp only at hSw); go_simp; (try with_reducible rfl))
              (try simp only [Act.put, List.setIfInBounds_toArray, List.set_cons_zero, List.set_cons_succ])
              refine wpAnyH_take (i := 6) (oi := ⟨some 32, _, _, _, _, none⟩) (v := ?v7) rfl (by kernel_rfl) (by kernel_rfl) (by kernel_rfl) (fun _ _ _ h => h) (Or.inl ⟨by rfl, ?hy7⟩) (by assumption) ?rest7
              case hy7 => (intro wS hSw; (try dsimp only at hSw); go_simp; (try with_reducible rfl))
              (try simp only [Act.put, List.setIfInBounds_toArray, List.set_cons_zero, List.set_cons_succ])
              refine wpAnyH_take (i := 7) (oi := ⟨some 33, _, _, _, _, none⟩) (v := ?v8) rfl (by kernel_rfl) (by kernel_rfl) (by kernel_rfl) (fun _ _ _ h => h) (Or.inl ⟨by rfl, ?hy8⟩) (by assumption) ?rest8
              case hy8 => (intro wS hSw; (try dsimp only at hSw); go_simp; (try with_reducible rfl))
              (try simp only [Act.put, List.setIfInBounds_toArray, List.set_cons_zero, List.set_cons_succ])
              refine wpAnyH_take (i := 8) (oi := ⟨some 34, _, _, _, _, none⟩) (v := ?v9) rfl (by kernel_rfl) (by kernel_rfl) (by kernel_rfl) (fun _ _ _ h => h) (Or.inl ⟨by rfl, ?hy9⟩) (by assumption) ?rest9
              case hy9 => (intro wS hSw; (try dsimp only at hSw); go_simp; (try with_reducible rfl))
              (try simp only [Act.put, List.setIfInBounds_toArray, List.set_cons_zero, List.set_cons_succ])
              refine wpAnyH_take (i := 9) (oi := ⟨some 35, _, _, _, _, none⟩) (v := ?v10) rfl (by kernel_rfl) (by kernel_rfl) (by kernel_rfl) (fun _ _ _ h => h) (Or.inl ⟨by rfl, ?hy10⟩) (by assumption) ?rest10
              case hy10 => (intro wS hSw; (try dsimp only at hSw); go_simp; (try with_reducible rfl))
              (try simp only [Act.put, List.setIfInBounds_toArray, List.set_cons_zero, List.set_cons_succ])
              refine wpAnyH_ready (rs := [10]) (by kernel_rfl) (by simp) ?_
              refine AllReadyH.cons (o := ⟨some 36, _, _, _, _, none⟩) rfl (fun K hK => ?_) AllReadyH.nil
              go_simp
              go_at_call 22
              (with_reducible refine HC.out.mono ?_)
              rintro e w3 ⟨rfl, f3⟩
              have u0 := (f3.cell (World.block_lt_of_cell? _ _ q0) (fun e => e)).trans q0
              have u1 := (f3.cell (World.block_lt_of_cell? _ _ q1) (fun e => e)).trans q1
              have u2 := (f3.cell (World.block_lt_of_cell? _ _ q2) (fun e => e)).trans q2
              have u3 := (f3.cell (World.block_lt_of_cell? _ _ q3) (fun e => e)).trans q3
              have u4 := (f3.cell (World.block_lt_of_cell? _ _ q4) (fun e => e)).trans q4
              have u5 := (f3.cell (World.block_lt_of_cell? _ _ q5) (fun e => e)).trans q5
              have u6 := (f3.cell (World.block_lt_of_cell? _ _ q6) (fun e => e)).trans q6
              have u7 := (f3.cell (World.block_lt_of_cell? _ _ q7) (fun e => e)).trans q7
              have u8 := (f3.cell (World.block_lt_of_cell? _ _ q8) (fun e => e)).trans q8
              have u9 := (f3.cell (World.block_lt_of_cell? _ _ q9) (fun e => e)).trans q9
              have u10 := (f3.cell (World.block_lt_of_cell? _ _ q10) (fun e => e)).trans q10
              have u11 := (f3.cell (World.block_lt_of_cell? _ _ q11) (fun e => e)).trans q11
              have u12 := (f3.cell (World.block_lt_of_cell? _ _ q12) (fun e => e)).trans q12
              have u13 := (f3.cell (World.block_lt_of_cell? _ _ q13) (fun e => e)).trans q13
              have u14 := (f3.cell (World.block_lt_of_cell? _ _ q14) (fun e => e)).trans q14
              have u15 := (f3.cell (World.block_lt_of_cell? _ _ q15) (fun e => e)).trans q15
              have u16 := (f3.cell (World.block_lt_of_cell? _ _ q16) (fun e => e)).trans q16
              have u17 := (f3.cell (World.block_lt_of_cell? _ _ q17) (fun e => e)).trans q17
              have u18 := (f3.cell (World.block_lt_of_cell? _ _ q18) (fun e => e)).trans q18
              have u19 := (f3.cell (World.block_lt_of_cell? _ _ q19) (fun e => e)).trans q19
              go_wp2_with fail
              refine hK.out _ _ (by exact ⟨u0, u1, u2, u3, u4, u5, u6, u7, u8, u9, u10, u11, u12, u13, u14, u15, u16, u17, u18, u19⟩) (fun hHeld => ?_)
              clear hK K
              (try simp only [Act.put, List.setIfInBounds_toArray, List.set_cons_zero, List.set_cons_succ])
              refine wpAnyH_take (i := 11) (oi := ⟨some 37, _, _, _, _, none⟩) (v := ?v11) rfl (by kernel_rfl) (by kernel_rfl) (by kernel_rfl) (fun _ _ _ h => h) (Or.inl ⟨by rfl, ?hy11⟩) (by assumption) ?rest11
              case hy11 => (intro wS hSw; (try dsimp only at hSw); go_simp; (try with_reducible rfl))
              (try simp only [Act.put, List.setIfInBounds_toArray, List.set_cons_zero, List.set_cons_succ])
              refine wpAnyH_done (by kernel_rfl) ?_ _
              clear q0 u0 q1 u1 q2 u2 q3 u3 q4 u4 q5 u5 q6 u6 q7 u7 q8 u8 q9 u9 q10 u10 q11 u11 q12 u12 q13 u13 q14 u14 q15 u15 q16 u16 q17 u17 q18 u18 q19 u19
              go_wp2
              go_ret
              exact ⟨ret_boolE HE2.out.symm, (F1.out.trans FR.out.drew).trans f3⟩
            · have HE2 : Hid (b0 = sameL (ks.drop (k + 1)) (ms.drop (k + 1))) := Lib.hid (by rw [HY.out]; rfl)
              clear HY
              go_wp2
              refine wp_region_held_drew (S := (fun W => W.cell? ⟨w.heap.size, 8, none⟩ = some (.slice (some a) n c) ∧ W.cell? ⟨w.heap.size + 1, 8, none⟩ = some (.slice (some a2) n c2) ∧ W.cell? (a.add (k * 9)) = some (.int .i64 xo) ∧ W.cell? { block := (a.add (k * 9)).block, off := (a.add (k * 9)).off + 1 } = some (.string ⟨xc.toArray⟩) ∧ W.cell? { block := (a.add (k * 9)).block, off := (a.add (k * 9)).off + 2 } = some (.int .i64 xm) ∧ W.cell? { block := (a.add (k * 9)).block, off := (a.add (k * 9)).off + 3 } = some (.bool xn) ∧ W.cell? { block := (a.add (k * 9)).block, off := (a.add (k * 9)).off + 4 } = some (.int .i64 xi) ∧ W.cell? { block := (a.add (k * 9)).block, off := (a.add (k * 9)).off + 5 } = some (.string ⟨xt.toArray⟩) ∧ W.cell? { block := (a.add (k * 9)).block, off := (a.add (k * 9)).off + 6 } = some (.int .i64 xk) ∧ W.cell? { block := (a.add (k * 9)).block, off := (a.add (k * 9)).off + 7 } = some (.string ⟨xp.toArray⟩) ∧ W.cell? { block := (a.add (k * 9)).block, off := (a.add (k * 9)).off + 8 } = some (.slice tA tn tc) ∧ W.cell? (a2.add (k * 9)) = some (.int .i64 yo) ∧ W.cell? { block := (a2.add (k * 9)).block, off := (a2.add (k * 9)).off + 1 } = some (.string ⟨yc.toArray⟩) ∧ W.cell? { block := (a2.add (k * 9)).block, off := (a2.add (k * 9)).off + 2 } = some (.int .i64 ym) ∧ W.cell? { block := (a2.add (k * 9)).block, off := (a2.add (k * 9)).off + 3 } = some (.bool yn) ∧ W.cell? { block := (a2.add (k * 9)).block, off := (a2.add (k * 9)).off + 4 } = some (.int .i64 yi) ∧ W.cell? { block := (a2.add (k * 9)).block, off := (a2.add (k * 9)).off + 5 } = some (.string ⟨yt.toArray⟩) ∧ W.cell? { block := (a2.add (k * 9)).block, off := (a2.add (k * 9)).off + 6 } = some (.int .i64 yk) ∧ W.cell? { block := (a2.add (k * 9)).block, off := (a2.add (k * 9)).off + 7 } = some (.string ⟨yp.toArray⟩) ∧ W.cell? { block := (a2.add (k * 9)).block, off := (a2.add (k * 9)).off + 8 } = some (.slice uA un uc))) (by kernel_rfl) (by exact ⟨q0, q1, q2, q3, q4, q5, q6, q7, q8, q9, q10, q11, q12, q13, q14, q15, q16, q17, q18, q19⟩) (fun hHeld => ?_)
              refine wpAnyH_take (i := 0) (oi := ⟨some 26, _, _, _, _, none⟩) (v := ?v12) rfl (by kernel_rfl) (by kernel_rfl) (by kernel_rfl) (fun _ _ _ h => h) (Or.inl ⟨by rfl, ?hy12⟩) (by assumption) ?rest12
              case hy12 => (intro wS hSw; (try dsimp only at hSw); go_simp; (try with_reducible rfl))
              (try simp only [Act.put, List.setIfInBounds_toArray, List.set_cons_zero, List.set_cons_succ])
              refine wpAnyH_take (i := 1) (oi := ⟨some 27, _, _, _, _, none⟩) (v := ?v13) rfl (by kernel_rfl) (by kernel_rfl) (by kernel_rfl) (fun _ _ _ h => h) (Or.inl ⟨by rfl, ?hy13⟩) (by assumption) ?rest13
              case hy13 => (intro wS hSw; (try dsimp only at hSw); go_simp; (try with_reducible rfl))
              (try simp only [Act.put, List.setIfInBounds_toArray, List.set_cons_zero, List.set_cons_succ])
              refine wpAnyH_take (i := 2) (oi := ⟨some 28, _, _, _, _, none⟩) (v := ?v14) rfl (by kernel_rfl) (by kernel_rfl) (by kernel_rfl) (fun _ _ _ h => h) (Or.inl ⟨by rfl, ?hy14⟩) (by assumption) ?rest14
              case hy14 => (intro wS hSw; (try dsimp only at hSw); go_simp; (try with_reducible rfl))
              (try simp only [Act.put, List.setIfInBounds_toArray, List.set_cons_zero, List.set_cons_succ])
              refine wpAnyH_take (i := 3) (oi := ⟨some 29, _, _, _, _, none⟩) (v := ?v15) rfl (by kernel_rfl) (by kernel_rfl) (by kernel_rfl) (fun _ _ _ h => h) (Or.inl ⟨by rfl, ?hy15⟩) (by assumption) ?rest15
              case hy15 => (intro wS hSw; (try dsimp only at hSw); go_simp; (try with_reducible rfl))
              (try simp only [Act.put, List.setIfInBounds_toArray, List.set_cons_zero, List.set_cons_succ])
              refine wpAnyH_take (i := 4) (oi := ⟨some 30, _, _, _, _, none⟩) (v := ?v16) rfl (by kernel_rfl) (by kernel_rfl) (by kernel_rfl) (fun _ _ _ h => h) (Or.inl ⟨by rfl, ?hy16⟩) (by assumption) ?rest16
              case hy16 => (intro wS hSw; (try dsimp only at hSw); go_simp; (try with_reducible rfl))
              (try simp only [Act.put, List.setIfInBounds_toArray, List.set_cons_zero, List.set_cons_succ])
              refine wpAnyH_take (i := 5) (oi := ⟨some 31, _, _, _, _, none⟩) (v := ?v17) rfl (by kernel_rfl) (by kernel_rfl) (by kernel_rfl) (fun _ _ _ h => h) (Or.inl ⟨by rfl, ?hy17⟩) (by assumption) ?rest17
              case hy17 => (intro wS hSw; (try dsimp only at hSw); go_simp; (try with_reducible rfl))
              (try simp only [Act.put, List.setIfInBounds_toArray, List.set_cons_zero, List.set_cons_succ])
              refine wpAnyH_take (i := 6) (oi := ⟨some 32, _, _, _, _, none⟩) (v := ?v18) rfl (by kernel_rfl) (by kernel_rfl) (by kernel_rfl) (fun _ _ _ h => h) (Or.inl ⟨by rfl, ?hy18⟩) (by assumption) ?rest18
              case hy18 => (intro wS hSw; (try dsimp only at hSw); go_simp; (try with_reducible rfl))
              (try simp only [Act.put, List.setIfInBounds_toArray, List.set_cons_zero, List.set_cons_succ])
              refine wpAnyH_take (i := 7) (oi := ⟨some 33, _, _, _, _, none⟩) (v := ?v19) rfl (by kernel_rfl) (by kernel_rfl) (by kernel_rfl) (fun _ _ _ h => h) (Or.inl ⟨by rfl, ?hy19⟩) (by assumption) ?rest19
              case hy19 => (intro wS hSw; (try dsimp only at hSw); go_simp; (try with_reducible rfl))
              (try simp only [Act.put, List.setIfInBounds_toArray, List.set_cons_zero, List.set_cons_succ])
              refine wpAnyH_take (i := 8) (oi := ⟨some 34, _, _, _, _, none⟩) (v := ?v20) rfl (by kernel_rfl) (by kernel_rfl) (by kernel_rfl) (fun _ _ _ h => h) (Or.inl ⟨by rfl, ?hy20⟩) (by assumption) ?rest20
              case hy20 => (intro wS hSw; (try dsimp only at hSw); go_simp; (try with_reducible rfl))
              (try simp only [Act.put, List.setIfInBounds_toArray, List.set_cons_zero, List.set_cons_succ])
              refine wpAnyH_take (i := 9) (oi := ⟨some 35, _, _, _, _, none⟩) (v := ?v21) rfl (by kernel_rfl) (by kernel_rfl) (by kernel_rfl) (fun _ _ _ h => h) (Or.inl ⟨by rfl, ?hy21⟩) (by assumption) ?rest21
              case hy21 => (intro wS hSw; (try dsimp only at hSw); go_simp; (try with_reducible rfl))
              (try simp only [Act.put, List.setIfInBounds_toArray, List.set_cons_zero, List.set_cons_succ])
              refine wpAnyH_ready (rs := [10]) (by kernel_rfl) (by simp) ?_
              refine AllReadyH.cons (o := ⟨some 36, _, _, _, _, none⟩) rfl (fun K hK => ?_) AllReadyH.nil
              go_simp
              go_at_call 22
              (with_reducible refine HC.out.mono ?_)
              rintro e w3 ⟨rfl, f3⟩
              have u0 := (f3.cell (World.block_lt_of_cell? _ _ q0) (fun e => e)).trans q0
              have u1 := (f3.cell (World.block_lt_of_cell? _ _ q1) (fun e => e)).trans q1
              have u2 := (f3.cell (World.block_lt_of_cell? _ _ q2) (fun e => e)).trans q2
              have u3 := (f3.cell (World.block_lt_of_cell? _ _ q3) (fun e => e)).trans q3
              have u4 := (f3.cell (World.block_lt_of_cell? _ _ q4) (fun e => e)).trans q4
              have u5 := (f3.cell (World.block_lt_of_cell? _ _ q5) (fun e => e)).trans q5
              have u6 := (f3.cell (World.block_lt_of_cell? _ _ q6) (fun e => e)).trans q6
              have u7 := (f3.cell (World.block_lt_of_cell? _ _ q7) (fun e => e)).trans q7
              have u8 := (f3.cell (World.block_lt_of_cell? _ _ q8) (fun e => e)).trans q8
              have u9 := (f3.cell (World.block_lt_of_cell? _ _ q9) (fun e => e)).trans q9
              have u10 := (f3.cell (World.block_lt_of_cell? _ _ q10) (fun e => e)).trans q10
              have u11 := (f3.cell (World.block_lt_of_cell? _ _ q11) (fun e => e)).trans q11
              have u12 := (f3.cell (World.block_lt_of_cell? _ _ q12) (fun e => e)).trans q12
              have u13 := (f3.cell (World.block_lt_of_cell? _ _ q13) (fun e => e)).trans q13
              have u14 := (f3.cell (World.block_lt_of_cell? _ _ q14) (fun e => e)).trans q14
              have u15 := (f3.cell (World.block_lt_of_cell? _ _ q15) (fun e => e)).trans q15
              have u16 := (f3.cell (World.block_lt_of_cell? _ _ q16) (fun e => e)).trans q16
              have u17 := (f3.cell (World.block_lt_of_cell? _ _ q17) (fun e => e)).trans q17
              have u18 := (f3.cell (World.block_lt_of_cell? _ _ q18) (fun e => e)).trans q18
              have u19 := (f3.cell (World.block_lt_of_cell? _ _ q19) (fun e => e)).trans q19
              go_wp2_with fail
              refine hK.out _ _ (by exact ⟨u0, u1, u2, u3, u4, u5, u6, u7, u8, u9, u10, u11, u12, u13, u14, u15, u16, u17, u18, u19⟩) (fun hHeld => ?_)
              clear hK K
              (try simp only [Act.put, List.setIfInBounds_toArray, List.set_cons_zero, List.set_cons_succ])
              refine wpAnyH_take (i := 11) (oi := ⟨some 37, _, _, _, _, none⟩) (v := ?v22) rfl (by kernel_rfl) (by kernel_rfl) (by kernel_rfl) (fun _ _ _ h => h) (Or.inl ⟨by rfl, ?hy22⟩) (by assumption) ?rest22
              case hy22 => (intro wS hSw; (try dsimp only at hSw); go_simp; (try with_reducible rfl))
              (try simp only [Act.put, List.setIfInBounds_toArray, List.set_cons_zero, List.set_cons_succ])
              refine wpAnyH_done (by kernel_rfl) ?_ _
              clear q0 u0 q1 u1 q2 u2 q3 u3 q4 u4 q5 u5 q6 u6 q7 u7 q8 u8 q9 u9 q10 u10 q11 u11 q12 u12 q13 u13 q14 u14 q15 u15 q16 u16 q17 u17 q18 u18 q19 u19
              go_wp2
              go_roundw
              case rel => exact ⟨k + 1, by omega, by go_num, HE2, Lib.hid (FR.out.drew.trans f3)⟩
              case measure => simp [intOf]; omega
          · have HE2 : Hid (r = true) := Lib.hid (HE.out.trans (HT.out.trans (sameL_end (by have := HL1.out; omega) (by have := HL2.out; omega))))
            clear HT
            go_wp2
            go_ret
            exact ⟨ret_boolE HE2.out.symm, F1.out.trans FR.out⟩
      · have hb : ((n : Int) != n2) = true := by rw [bne_iff_ne]; omega
        have HE2 : Hid (r = false) := Lib.hid (HE.out.trans (HS0.out (by have := HL1.out; have := HL2.out; omega)))
        clear hne HS0 HS1
        go_wp2
        go_ret
        exact ⟨ret_boolE HE2.out.symm, F1.out⟩
end Go.Proofs.YteagbddejbjmfaaDoor


namespace Go.Proofs.YteagbddejbjmfaaDoor
set_option linter.unusedVariables false
set_option linter.unusedSimpArgs false
set_option maxRecDepth 100000
open Go.RowKit Go.Maps

/-- how many unlike ones -/
def cntU : List Tx → Nat
  | [] => 0
  | y :: r => if y ∈ r then cntU r else cntU r + 1
/-- block b is a map of at most n texts: those of ks -/
def MapS (w : World) (b n : Nat) (ks : List Tx) : Prop :=
  ∃ D : DataW Unit, w.ownsMap Tryd.prog 9 (plainElem Tryd.prog 3) b n D ∧ (∀ x, has D (.string x) = decide (x ∈ ks)) ∧ Maps.size D = cntU ks
theorem MapS.lt {w : World} {b n : Nat} {ks : List Tx} (h : MapS w b n ks) : b < w.heap.size := by
  obtain ⟨D, h1, _⟩ := h; exact h1.lt
theorem MapS.fr {S : Nat → Prop} {w w' : World} {b n : Nat} {ks : List Tx} (h : MapS w b n ks) (hf : Fr S w w') (hn : ¬ S b) : MapS w' b n ks := by
  obtain ⟨D, h1, h2, h3⟩ := h
  have hlt := h1.lt
  obtain ⟨es, clock, hb, F, hs, hD⟩ := h1
  exact ⟨D, ⟨es, clock, (hf.block b hlt hn).trans hb, F, hs, hD⟩, h2, h3⟩
theorem keyLitS (x : Tx) : WideAt.IsKeyLit (.string x) := trivial
theorem MapS.put {w w' : World} {b n : Nat} {ks : List Tx} {D : DataW Unit} (h1 : w.ownsMap Tryd.prog 9 (plainElem Tryd.prog 3) b n D) (h2 : ∀ x, has D (.string x) = decide (x ∈ ks)) (h3 : Maps.size D = cntU ks)
    (y : Tx) (v : Int) (h : w'.ownsMap Tryd.prog 9 (plainElem Tryd.prog 3) b (n + 1) (D.put (.string y) (.lit (.int .i64 v)))) : MapS w' b (n + 1) (y :: ks) := by
  have hm := h1.isMap
  refine ⟨_, h, fun x => ?_, ?_⟩
  · by_cases he : x = y
    · subst he; rw [has_put_same hm (keyLitS x)]; simp
    · rw [has_put_other (by simpa using he), h2]; simp [he]
  · rw [Maps.size_put (h1.tidy (string_keyed Tryd.underlying9)), h2, h3]
    rw [show cntU (y :: ks) = if y ∈ ks then cntU ks else cntU ks + 1 from rfl]
    by_cases hy : y ∈ ks <;> simp [hy]

/-- 'len(m)' -/
theorem MapS.len {w : World} {b n : Nat} {ks : List Tx} (h : MapS w b n ks) (ty : TypeId) : (Builtin.len_ #[76] ty #[.map (some b)]).run Tryd.prog w = .ok (.int .i64 (cntU ks)) w := by
  obtain ⟨D, h1, h2, h3⟩ := h
  rw [← h3]
  exact h1.len Tryd.underlying76 ty
end Go.Proofs.YteagbddejbjmfaaDoor


namespace Go.Proofs.YteagbddejbjmfaaDoor
set_option linter.unusedVariables false
set_option linter.unusedSimpArgs false
set_option maxRecDepth 100000
open Go.RowKit

set_option maxHeartbeats 2000000 in
theorem rpmay_any (h : Ph) (t : Kv) (ks : List Pd) (w : World) (hk : Kd w t ks) (hlen : lenP (.mk h ks) = true) :
    Calls Tryd.prog 10 #[pdV h t] w fun e w' => e = .returned (.bool (mayP (.mk h ks))) ∧ Fr Non w w' := by
  have F0 : Fr Non w (w.alloc (.cells (pdC h t) 27)) := (Fr.refl Non w).alloc _
  have HM := Lib.hid (may_size (.mk h ks))
  have C1 := rsize_any (.mk h ks) t 16 6 6 _ rfl (hk.non F0) hlen (by omega) (by omega) (by omega)
  have C2 := Lib.hid (fun W hk => ronep_any (.mk h ks) t W hk hlen)
  have PB := Lib.hid (pd_new w _ h t rfl)
  have hs := (size_is (.mk h ks) 16 6 (by omega)).2.2
  generalize sizeP (.mk h ks) 16 6 = z at *
  generalize mayP (.mk h ks) = r at *
  generalize oneP (.mk h ks) = b at *
  dsimp only [Pd.hd, Pd.kids] at C1 C2
  have C1 := Lib.hid C1
  have HK := Lib.hid (hk.non F0)
  have F0 := Lib.hid F0
  clear hk hlen
  obtain ⟨ho, hc, hm, ⟨vn, vi, vt⟩, hkd, hp⟩ := h
  obtain ⟨A, nn, c⟩ := t
  unfold pdV pdC kidV at *
  dsimp only at *
  by_cases h16 : z ≤ 16
  · have HE : Hid (r = b) := Lib.hid (by rw [← HM.out, decide_eq_true h16]; rfl)
    clear HM
    go_enter Tryd.func10, Tryd.ntmps10
    go_wp2_with fail
    refine C1.out.mono ?_
    rintro e w1 ⟨rfl, f1⟩
    obtain ⟨g0, g1, g2, g3, g4, g5, g6, g7, g8⟩ := pdB_cells (PB.out.fr f1 (fun e => e))
    dsimp only at g0 g1 g2 g3 g4 g5 g6 g7 g8
    have HK1 := Lib.hid (HK.out.non f1)
    have F1 := Lib.hid (F0.out.trans f1)
    clear f1
    go_wp2_with fail
    refine (C2.out _ HK1.out).mono ?_
    rintro e w2 ⟨rfl, f2⟩
    go_wp2
    go_ret
    exact ⟨ret_boolE HE.out.symm, F1.out.trans f2⟩
  · have HE : Hid (r = false) := Lib.hid (by rw [← HM.out, decide_eq_false h16]; rfl)
    clear HM
    go_enter Tryd.func10, Tryd.ntmps10
    go_wp2_with fail
    refine C1.out.mono ?_
    rintro e w1 ⟨rfl, f1⟩
    go_wp2
    go_ret
    exact ⟨ret_boolE HE.out.symm, F0.out.trans f1⟩

/-! ### Small -/
theorem lenP_is (h : Ph) (ks : List Pd) : lenP (.mk h ks) = (lenH h ks.length && ks.all lenP) := by rw [lenP, lenL_all]
theorem depL_is {ks : List Pd} {m : Nat} (h : ∀ x ∈ ks, depP x ≤ m) : depL ks ≤ m := by
  induction ks with
  | nil => rw [depL]; omega
  | cons x r ih => rw [depL]; have := h x (List.mem_cons_self ..); have := ih (fun y hy => h y (List.mem_cons_of_mem _ hy)); omega
/-- yes only if P -/
def SmEnd (P : Prop) (e : Ending) : Prop := ∃ b, e = .returned (.bool b) ∧ (b = true → P)
set_option maxHeartbeats 4000000 in
theorem rpsmall_any (p : Pd) : ∀ (t : Kv) (m : Nat) (mz : Int) (w : World), mz = m → m ≤ 1000 → Kd w t p.kids →
    Calls Tryd.prog 7 #[pdV p.hd t, .int .i64 mz] w fun e w' => SmEnd (lenP p = true ∧ depP p ≤ m) e ∧ Fr Non w w' := by
  induction p using Pd.ind with
  | h hd ks ih =>
    intro t m mz w hmz hm1 hk
    subst hmz
    have hn : t.n = ks.length := hk.len
    have F0 : Fr Non w (w.alloc (.cells (pdC hd t) 27)) := (Fr.refl Non w).alloc _
    have HB := Lib.hid (pd_new w _ hd t rfl)
    have HE : Hid (lenH hd ks.length = true → 1 ≤ m → (∀ j (h : j < ks.length), lenP ks[j] = true ∧ depP ks[j] ≤ m - 1) → lenP (.mk hd ks) = true ∧ depP (.mk hd ks) ≤ m) := Lib.hid (fun a b c => by
      refine ⟨?_, ?_⟩
      · rw [lenP_is, a, Bool.true_and, List.all_eq_true]
        intro x hx
        obtain ⟨j, hj, rfl⟩ := List.mem_iff_getElem.1 hx
        exact (c j hj).1
      · have : depL ks ≤ m - 1 := depL_is (fun x hx => by obtain ⟨j, hj, rfl⟩ := List.mem_iff_getElem.1 hx; exact (c j hj).2)
        rw [depP]; omega)
    have IH : Hid (1 ≤ m → ∀ k (h : k < ks.length) (W : World) (t' : Kv), Kd W t' ks[k].kids →
        Calls Tryd.prog 7 #[pdV ks[k].hd t', .int .i64 ((m : Int) - 1)] W fun e w' => SmEnd (lenP ks[k] = true ∧ depP ks[k] ≤ m - 1) e ∧ Fr Non W w') :=
      Lib.hid (fun h1 k h W t' a => ih _ (List.getElem_mem h) t' (m - 1) _ W (by omega) (by omega) a)
    have HK : Hid (Kd w t ks) := Lib.hid hk
    have HF := Lib.hid F0
    have HLH : Hid (∀ a b c d, a = hd.col.length → b = hd.pat.length → c = hd.val.txt.length → d = ks.length → d ≤ 20 → a ≤ 100 → b ≤ 100 → c ≤ 100 → lenH hd ks.length = true) := Lib.hid (fun a b c d e1 e2 e3 e4 h1 h2 h3 h4 => by unfold lenH; exact decide_eq_true ⟨by omega, by omega, by omega, by omega⟩)
    generalize lenH hd ks.length = lh at *
    generalize lenP (.mk hd ks) = r at *
    generalize depP (.mk hd ks) = dd at *
    clear ih hk F0
    obtain ⟨ho, hc, hm, ⟨vn, vi, vt⟩, hkd, hp⟩ := hd
    obtain ⟨A, n, c⟩ := t
    dsimp only at hn
    have HL := Lib.hid hn
    have s1 := slen hc
    have s2 := slen hp
    have s3 := slen vt
    dsimp only at HLH
    unfold pdV pdC kidV
    dsimp only [Pd.hd, Pd.kids]
    clear hn
    by_cases h1 : m < 1
    · clear HE IH HLH
      go_enter Tryd.func7, Tryd.ntmps7
      go_wp2
      go_ret
      exact ⟨⟨_, rfl, fun h => by cases h⟩, HF.out⟩
    · have IH := Lib.hid (IH.out (by omega))
      by_cases h2 : 20 < n
      · clear HE IH HLH
        go_enter Tryd.func7, Tryd.ntmps7
        go_wp2
        go_ret
        exact ⟨⟨_, rfl, fun h => by cases h⟩, HF.out⟩
      · by_cases h3 : 100 < hc.length
        · clear HE IH HLH
          go_enter Tryd.func7, Tryd.ntmps7
          go_wp2
          go_ret
          exact ⟨⟨_, rfl, fun h => by cases h⟩, HF.out⟩
        · by_cases h4 : 100 < hp.length
          · clear HE IH HLH
            go_enter Tryd.func7, Tryd.ntmps7
            go_wp2
            go_ret
            exact ⟨⟨_, rfl, fun h => by cases h⟩, HF.out⟩
          · by_cases h5 : 100 < vt.length
            · clear HE IH HLH
              go_enter Tryd.func7, Tryd.ntmps7
              go_wp2
              go_ret
              exact ⟨⟨_, rfl, fun h => by cases h⟩, HF.out⟩
            · have HE1 := Lib.hid (HE.out (HLH.out _ _ _ n rfl rfl rfl HL.out (by omega) (by omega) (by omega) (by omega)) (by omega))
              clear HE HLH
              go_enter Tryd.func7, Tryd.ntmps7
              go_wp2
              go_loopw [5] (fun i wr => ∃ k : Nat, k ≤ n ∧ i = .int .i64 k ∧ Hid (∀ j (h : j < ks.length), j < k → lenP ks[j] = true ∧ depP ks[j] ≤ m - 1) ∧ Hid (Fr Non (w.alloc (.cells (pdC ⟨ho, hc, hm, ⟨vn, vi, vt⟩, hkd, hp⟩ ⟨A, n, c⟩) 27)) wr)) (fun i _ => n - (intOf i).toNat)
              case atStart => exact ⟨0, Nat.zero_le _, rfl, Lib.hid (fun _ _ h => by omega), Lib.hid (Fr.refl _ _)⟩
              case round =>
                obtain ⟨k, hk, rfl, HT, FR⟩ := hrel
                have b8 := (HB.out.fr FR.out (fun e => e)).cell 8
                simp [pdC, kidV] at b8
                have HFw := Lib.hid (HF.out.trans FR.out)
                by_cases hlt : k < n
                · have hlt2 : k < ks.length := by have := HL.out; omega
                  obtain ⟨a, t, hA, hc2, hkk, _⟩ := HK.out.elN HFw.out k hlt2
                  have HC := Lib.hid (IH.out k hlt2 wr t (hkk.non HFw.out))
                  have HY : Hid (lenP ks[k] = true ∧ depP ks[k] ≤ m - 1 → ∀ j (h : j < ks.length), j < k + 1 → lenP ks[j] = true ∧ depP ks[j] ≤ m - 1) := Lib.hid (fun e j hj hjk => by
                    by_cases ee : j = k
                    · subst ee; exact e
                    · exact HT.out j hj (by omega))
                  dsimp only at hA
                  subst hA
                  obtain ⟨c0, c1, c2, c3, c4, c5, c6, c7, c8⟩ := hc2
                  clear hkk HT
                  generalize lenP ks[k] = y1 at *
                  generalize depP ks[k] = y2 at *
                  generalize ks[k].hd = x at *
                  obtain ⟨xo, xc, xm, ⟨xn, xi, xt⟩, xk, xp⟩ := x
                  obtain ⟨tA, tn, tc⟩ := t
                  unfold pdV pdC kidV at HC
                  dsimp only at HC c0 c1 c2 c3 c4 c5 c6 c7 c8
                  go_wp2_with fail
                  refine HC.out.mono ?_
                  rintro e w2 ⟨⟨b, rfl, hb⟩, f2⟩
                  have HB2 := Lib.hid hb
                  clear hb
                  cases b
                  · go_wp2
                    go_ret
                    exact ⟨⟨_, rfl, fun h => by cases h⟩, HFw.out.trans f2⟩
                  · have HT := Lib.hid (HY.out (HB2.out rfl))
                    clear HB2 HY
                    go_wp2
                    go_roundw
                    case rel => exact ⟨k + 1, by omega, by go_num, HT, Lib.hid (FR.out.trans f2)⟩
                    case measure => simp [intOf]; omega
                · have HE2 := Lib.hid (HE1.out (fun j hj => HT.out j hj (by have := HL.out; omega)))
                  clear HE1 HT
                  go_wp2
                  go_ret
                  exact ⟨⟨_, rfl, fun _ => HE2.out⟩, HFw.out⟩
end Go.Proofs.YteagbddejbjmfaaDoor


namespace Go.Proofs.YteagbddejbjmfaaDoor
set_option linter.unusedVariables false
set_option linter.unusedSimpArgs false
set_option maxRecDepth 100000
open Go.RowKit

/-! ### A word -/
def wcB (c : UInt8) : Bool := decide (c ≠ 32 ∧ c ≠ 41)
/-- nothing, or what ends a word -/
def EndW (r : Tx) : Prop := r = [] ∨ ∃ c r', r = c :: r' ∧ wcB c = false
theorem endW_nil : EndW [] := .inl rfl
theorem endW_32 (r : Tx) : EndW (32 :: r) := .inr ⟨_, _, rfl, by decide⟩
theorem endW_41 (r : Tx) : EndW (41 :: r) := .inr ⟨_, _, rfl, by decide⟩
theorem endW_not {r : Tx} (h : EndW r) : r.head? ≠ some 39 := by
  rcases h with rfl | ⟨c, r', rfl, hc⟩
  · simp
  · intro e
    simp only [List.head?_cons, Option.some.injEq] at e
    subst e
    revert hc
    decide
theorem tw_word {w r : Tx} (hw : ∀ c ∈ w, wcB c = true) (hr : EndW r) : (w ++ r).takeWhile wcB = w ∧ (w ++ r).dropWhile wcB = r := by
  induction w with
  | nil =>
    rcases hr with rfl | ⟨c, r', rfl, hc⟩
    · exact ⟨rfl, rfl⟩
    · simp [hc]
  | cons c w ih =>
    have h1 := hw c (List.mem_cons_self ..)
    obtain ⟨a, b⟩ := ih (fun x hx => hw x (List.mem_cons_of_mem _ hx))
    simp [h1, a, b]

/-! ### Values -/
def valR (l : Tx) : Option ((Int × Cl) × Tx) :=
  if l.head? = some 39 then (qtB l.tail).map fun x => ((3, ⟨false, 0, x.1⟩), l.tail.drop x.2)
  else if l.takeWhile wcB = [116, 114, 117, 101] then some ((2, ⟨false, 1, []⟩), l.dropWhile wcB)
  else if l.takeWhile wcB = [102, 97, 108, 115, 101] then some ((2, ⟨false, 0, []⟩), l.dropWhile wcB)
  else (valB (l.takeWhile wcB)).map fun n => ((1, ⟨false, n, []⟩), l.dropWhile wcB)
theorem itoa_by (v : Int) (h : I64b v) : ∀ c ∈ Lib.itoa v, c = 45 ∨ digB c = true := by
  intro c hc
  rcases itoa_shape h rfl with ⟨_, h2, _, _⟩ | ⟨d, h1, _, h2, _, _⟩
  · exact .inr (List.all_eq_true.1 h2 c hc)
  · rw [h1] at hc
    rcases List.mem_cons.1 hc with rfl | hc
    · exact .inl rfl
    · exact .inr (List.all_eq_true.1 h2 c hc)
theorem itoa_hd1 (v : Int) (h : I64b v) : ∃ c r, Lib.itoa v = c :: r := by
  have : 1 ≤ (Lib.itoa v).length := by
    rcases itoa_shape h rfl with ⟨_, _, h3, _⟩ | ⟨d, h1, _, _, _, _⟩
    · exact h3
    · rw [h1]; simp
  cases e : Lib.itoa v with
  | nil => rw [e] at this; simp at this
  | cons c r => exact ⟨c, r, rfl⟩
theorem num_wc {c : UInt8} (h : c = 45 ∨ digB c = true) : wcB c = true ∧ c ≠ 39 ∧ c ≠ 116 ∧ c ≠ 102 := by
  rcases h with rfl | h
  · decide
  · simp only [digB, decide_eq_true_eq] at h
    refine ⟨decide_eq_true ⟨?_, ?_⟩, ?_, ?_, ?_⟩ <;> (rintro rfl; revert h; decide)
theorem valR_ok {k : Int} {c : Cl} {r : Tx} (hm : mayC k false c = true) (hn : I64b c.num) (hr : EndW r) : valR (valT k c ++ r) = some ((k, c), r) := by
  obtain ⟨n, i, t⟩ := c
  unfold mayC at hm
  rw [Bool.and_eq_true] at hm
  obtain ⟨ht, hm⟩ := hm
  cases n
  · rw [if_neg (by simp)] at hm
    dsimp only at hm hn
    unfold isTy at ht
    by_cases h3 : k = 3
    · subst h3
      rw [if_pos rfl, Bool.and_eq_true, beq_iff_eq] at hm
      obtain ⟨rfl, _⟩ := hm
      show valR (quoT t ++ r) = _
      unfold quoT valR
      rw [if_pos (by simp)]
      have e : (39 :: dblB t ++ [39] ++ r).tail = dblB t ++ 39 :: r := by simp
      rw [e, qt_dbl t r (endW_not hr)]
      simp
    · rw [if_neg h3, Bool.and_eq_true] at hm
      obtain ⟨hte, hm⟩ := hm
      obtain rfl : t = [] := by simpa using hte
      by_cases h1 : k = 1
      · subst h1
        show valR (Lib.itoa i ++ r) = _
        have hb := itoa_by i hn
        obtain ⟨c, q, hq⟩ := itoa_hd1 i hn
        have hc := num_wc (hb c (by rw [hq]; exact List.mem_cons_self ..))
        obtain ⟨a, b⟩ := tw_word (fun c hc => (num_wc (hb c hc)).1) hr
        unfold valR
        rw [a, b, if_neg (by rw [hq]; simpa using hc.2.1), if_neg (by rw [hq]; simp [hc.2.2.1]), if_neg (by rw [hq]; simp [hc.2.2.2]), valB_itoa hn]
        rfl
      · have h2 : k = 2 := by
          simp only [Bool.or_eq_true, beq_iff_eq] at ht
          omega
        subst h2
        have hi : i = 0 ∨ i = 1 := by
          simp only [Bool.or_eq_true, beq_iff_eq] at hm
          omega
        rcases hi with rfl | rfl
        · show valR ([102, 97, 108, 115, 101] ++ r) = _
          obtain ⟨a, b⟩ := tw_word (w := [102, 97, 108, 115, 101]) (by decide) hr
          unfold valR
          rw [a, b, if_neg (by simp), if_neg (by decide), if_pos rfl]
        · show valR ([116, 114, 117, 101] ++ r) = _
          obtain ⟨a, b⟩ := tw_word (w := [116, 114, 117, 101]) (by decide) hr
          unfold valR
          rw [a, b, if_neg (by simp), if_pos rfl]
  · rw [if_pos rfl] at hm
    simp at hm

/-! ### The reader -/
def markR (w : Tx) : Int := if w = [61] then 1 else if w = [60, 62] then 2 else if w = [60] then 3 else if w = [60, 61] then 4 else if w = [62] then 5 else 6
def bare (op : Int) : Ph := ⟨op, [], 0, zCl, 0, []⟩
/-- what stands between 'or's -/
def grp : Pd → List (Bool × Pd) → List (List Pd)
  | u, [] => [[u]]
  | u, (true, v) :: r => match grp v r with
    | g :: gs => (u :: g) :: gs
    | [] => []
  | u, (false, v) :: r => [u] :: grp v r
def mkA : List Pd → Pd
  | [p] => p
  | ps => .mk (bare 6) ps
def unch (u : Pd) (cs : List (Bool × Pd)) : Pd := match grp u cs with
  | [g] => mkA g
  | gs => .mk (bare 7) (gs.map mkA)
mutual
def prsU : Nat → Tx → Option (Pd × Tx)
  | 0, _ => none
  | f + 1, l =>
    if l.head? = some 40 then (prsE f l.tail).bind fun x => if x.2.head? = some 41 then some (x.1, x.2.tail) else none
    else if l.takeWhile wcB = [97, 108, 108] then some (.mk (bare 1) [], l.dropWhile wcB)
    else if l.takeWhile wcB = [110, 111, 116] then (prsU f ((l.dropWhile wcB).drop 1)).bind fun x => some (.mk (bare 5) [x.1], x.2)
    else if ((l.dropWhile wcB).drop 1).takeWhile wcB = [105, 115] then some (.mk ⟨3, l.takeWhile wcB, 0, zCl, 0, []⟩ [], (((l.dropWhile wcB).drop 1).dropWhile wcB).drop 5)
    else if ((l.dropWhile wcB).drop 1).takeWhile wcB = [108, 105, 107, 101] then
      (qtB ((((l.dropWhile wcB).drop 1).dropWhile wcB).drop 2)).bind fun x => some (.mk ⟨4, l.takeWhile wcB, 0, zCl, 0, x.1⟩ [], ((((l.dropWhile wcB).drop 1).dropWhile wcB).drop 2).drop x.2)
    else (valR ((((l.dropWhile wcB).drop 1).dropWhile wcB).drop 1)).bind fun x => some (.mk ⟨2, l.takeWhile wcB, markR (((l.dropWhile wcB).drop 1).takeWhile wcB), x.1.2, x.1.1, []⟩ [], x.2)
def prsE : Nat → Tx → Option (Pd × Tx)
  | 0, _ => none
  | f + 1, l => (prsU f l).bind fun x => some (unch x.1 (prsC f x.2).1, (prsC f x.2).2)
def prsC : Nat → Tx → List (Bool × Pd) × Tx
  | 0, r => ([], r)
  | f + 1, r =>
    if andT.isPrefixOf r then match prsU f (r.drop 5) with
      | some x => ((true, x.1) :: (prsC f x.2).1, (prsC f x.2).2)
      | none => ([], r)
    else if orT.isPrefixOf r then match prsU f (r.drop 4) with
      | some x => ((false, x.1) :: (prsC f x.2).1, (prsC f x.2).2)
      | none => ([], r)
    else ([], r)
end

/-! ### Groups -/
theorem grp_and (us : List Pd) : ∀ u, grp u (us.map fun v => (true, v)) = [u :: us] := by
  induction us with
  | nil => intro u; rfl
  | cons v us ih => intro u; rw [List.map_cons, grp, ih v]
theorem grp_or (us : List Pd) (v : Pd) (r : List (Bool × Pd)) : ∀ u, grp u ((us.map fun v => (true, v)) ++ (false, v) :: r) = (u :: us) :: grp v r := by
  induction us with
  | nil => intro u; rfl
  | cons x us ih => intro u; rw [List.map_cons, List.cons_append, grp, ih x]
/-- a kid of 'or', as what 'and' joins -/
def cjP (k : Pd) : Pd × List Pd := if k.hd.op = 6 then (match k.kids with | u :: us => (u, us) | [] => (k, [])) else (k, [])
def chn (ks : List Pd) : List (Bool × Pd) := ks.flatMap fun k => (false, (cjP k).1) :: (cjP k).2.map fun v => (true, v)
theorem grp_chn (ks : List Pd) : ∀ k, grp (cjP k).1 (((cjP k).2.map fun v => (true, v)) ++ chn ks) = ((k :: ks).map fun x => (cjP x).1 :: (cjP x).2) := by
  induction ks with
  | nil => intro k; unfold chn; rw [List.flatMap_nil, List.append_nil, grp_and]; rfl
  | cons y ks ih =>
    intro k
    have e : chn (y :: ks) = (false, (cjP y).1) :: (((cjP y).2.map fun v => (true, v)) ++ chn ks) := by unfold chn; rw [List.flatMap_cons]; rfl
    rw [e, grp_or, ih y]; rfl

/-! ### Shapes -/
theorem bare_is {h : Ph} (e : bareH h = true) : h = bare h.op := by
  unfold bareH at e
  exact of_decide_eq_true e
def Shape (h : Ph) (ks : List Pd) : Prop :=
  (h = bare 1 ∧ ks = []) ∨ (∃ col cmp val kind, h = ⟨2, col, cmp, val, kind, []⟩ ∧ ks = [] ∧ nameB col = true ∧ 1 ≤ cmp ∧ cmp ≤ 6 ∧ mayC kind false val = true) ∨
  (∃ col, h = ⟨3, col, 0, zCl, 0, []⟩ ∧ ks = [] ∧ nameB col = true) ∨ (∃ col pat, h = ⟨4, col, 0, zCl, 0, pat⟩ ∧ ks = [] ∧ nameB col = true) ∨
  (∃ k, h = bare 5 ∧ ks = [k]) ∨ (h = bare 6 ∧ 1 < ks.length ∧ ∀ k ∈ ks, k.hd.op ≠ 6) ∨ (h = bare 7 ∧ 1 < ks.length ∧ ∀ k ∈ ks, k.hd.op ≠ 7)
theorem kidOp_no {op : Int} {ks : List Pd} (h : kidOp op ks = false) : ∀ k ∈ ks, k.hd.op ≠ op := by
  intro k hk e
  unfold kidOp at h
  rw [List.any_eq_false] at h
  exact h k hk (by simpa using e)
theorem shape_of {h : Ph} {ks : List Pd} (e : hdOk h ks = true) : Shape h ks := by
  unfold hdOk at e
  unfold Shape
  split at e
  · rename_i h1
    rw [Bool.and_eq_true, decide_eq_true_eq] at e
    have := bare_is e.2
    rw [h1] at this
    exact .inl ⟨this, List.eq_nil_of_length_eq_zero e.1⟩
  · split at e
    · rename_i h1 h2
      rw [Bool.and_eq_true, decide_eq_true_eq] at e
      have hk := List.eq_nil_of_length_eq_zero e.1
      have e2 := e.2
      unfold askOk at e2
      rw [Bool.and_eq_true] at e2
      obtain ⟨op, col, cmp, val, kind, pat⟩ := h
      dsimp only at h2 e2
      rcases h2 with rfl | rfl | rfl
      · rw [if_pos rfl, Bool.and_eq_true, Bool.and_eq_true, decide_eq_true_eq, decide_eq_true_eq] at e2
        obtain ⟨a, ⟨b, c⟩, d⟩ := e2
        exact .inr (.inl ⟨_, _, _, _, d, hk, a, b.1, b.2, c⟩)
      · rw [if_neg (by decide), if_neg (by decide), decide_eq_true_eq] at e2
        exact .inr (.inr (.inl ⟨_, e2.2, hk, e2.1⟩))
      · rw [if_neg (by decide), if_pos rfl, Bool.and_eq_true, decide_eq_true_eq, decide_eq_true_eq] at e2
        exact .inr (.inr (.inr (.inl ⟨_, _, e2.2.2, hk, e2.1⟩)))
    · split at e
      · rename_i h5
        rw [Bool.and_eq_true, decide_eq_true_eq] at e
        have := bare_is e.2
        rw [h5] at this
        obtain ⟨k, hk⟩ := List.length_eq_one_iff.1 e.1
        exact .inr (.inr (.inr (.inr (.inl ⟨k, this, hk⟩))))
      · split at e
        · rename_i h6
          rw [Bool.and_eq_true, Bool.and_eq_true, decide_eq_true_eq] at e
          obtain ⟨⟨a, b⟩, c⟩ := e
          have hb := bare_is b
          have hk := kidOp_no (by simpa using c)
          rcases h6 with h6 | h6
          · rw [h6] at hb hk
            exact .inr (.inr (.inr (.inr (.inr (.inl ⟨hb, a, hk⟩)))))
          · rw [h6] at hb hk
            exact .inr (.inr (.inr (.inr (.inr (.inr ⟨hb, a, hk⟩)))))
        · cases e
theorem name_wc {l : Tx} (h : nameB l = true) : l ≠ [] ∧ (∀ c ∈ l, wcB c = true ∧ c ≠ 40) ∧ l ≠ [97, 108, 108] ∧ l ≠ [110, 111, 116] := by
  have e := of_decide_eq_true h
  refine ⟨fun e0 => by rw [e0] at e; simp at e, fun c hc => ?_, fun e0 => ?_, fun e0 => ?_⟩
  · obtain ⟨j, hj, rfl⟩ := List.mem_iff_getElem.1 hc
    have := e.2.2.2 j hj
    have hb : ∀ c : UInt8, okI j c.toNat = true → (wcB c = true ∧ c ≠ 40) := by
      intro c hc
      have hne : ∀ n : UInt8, n.toNat < 48 → c ≠ n := by
        rintro n hn rfl
        unfold okI ltrI dgtI at hc
        simp only [Bool.or_eq_true, Bool.and_eq_true, decide_eq_true_eq] at hc
        omega
      exact ⟨decide_eq_true ⟨hne 32 (by decide), hne 41 (by decide)⟩, hne 40 (by decide)⟩
    exact hb _ this
  · rw [e0] at h; revert h; decide +kernel
  · rw [e0] at h; revert h; decide +kernel
theorem markR_ok {n : Int} (h1 : 1 ≤ n) (h6 : n ≤ 6) : markR (markB n) = n ∧ (∀ c ∈ markB n, wcB c = true) ∧ markB n ≠ [105, 115] ∧ markB n ≠ [108, 105, 107, 101] := by
  have : n = 1 ∨ n = 2 ∨ n = 3 ∨ n = 4 ∨ n = 5 ∨ n = 6 := by omega
  rcases this with rfl | rfl | rfl | rfl | rfl | rfl <;> decide

/-! ### Read again -/
def bT (k : Pd) : Tx := brkP [6, 7] k
def sepT (b : Bool) : Tx := if b then andT else orT
def runT (cs : List (Bool × Pd)) : Tx := cs.flatMap fun x => sepT x.1 ++ bT x.2
def EndE (r : Tx) : Prop := r = [] ∨ ∃ r', r = 41 :: r'
theorem EndE.w {r : Tx} (h : EndE r) : EndW r := by
  rcases h with rfl | ⟨r', rfl⟩
  · exact endW_nil
  · exact endW_41 _
def PU (p : Pd) : Prop := ∀ f r, 3 * cntP p ≤ f → EndW r → prsU f (bT p ++ r) = some (p, r)
def PE (p : Pd) : Prop := ∀ f r, 3 * cntP p ≤ f + 1 → EndE r → prsE f (textP p ++ r) = some (p, r)
/-- one that stands without brackets -/
def PA (p : Pd) : Prop := ∀ f r, 3 * cntP p ≤ f + 2 → EndW r → prsU f (textP p ++ r) = some (p, r)
theorem runT_end (cs : List (Bool × Pd)) {r : Tx} (h : EndE r) : EndW (runT cs ++ r) := by
  cases cs with
  | nil => exact h.w
  | cons x cs =>
    unfold runT
    rw [List.flatMap_cons]
    unfold sepT
    split
    · exact endW_32 _
    · exact endW_32 _
def sumC (cs : List (Bool × Pd)) : Nat := (cs.map fun x => cntP x.2).sum
theorem and_pre (l : Tx) : andT.isPrefixOf (andT ++ l) = true := by simp [andT, List.isPrefixOf]
theorem or_not (l : Tx) : andT.isPrefixOf (orT ++ l) = false := by simp [andT, orT, List.isPrefixOf]
theorem or_pre (l : Tx) : orT.isPrefixOf (orT ++ l) = true := by simp [orT, List.isPrefixOf]
theorem end_not {r : Tx} (h : EndE r) : andT.isPrefixOf r = false ∧ orT.isPrefixOf r = false := by
  rcases h with rfl | ⟨r', rfl⟩
  · decide
  · simp [andT, orT, List.isPrefixOf]
theorem prsC_end (f : Nat) {r : Tx} (h : EndE r) : prsC f r = ([], r) := by
  cases f with
  | zero => rw [prsC]
  | succ f => rw [prsC, (end_not h).1, (end_not h).2]; rfl
theorem prsC_ok (cs : List (Bool × Pd)) (hcs : ∀ x ∈ cs, PU x.2) : ∀ (f : Nat) (r : Tx), 3 * sumC cs + 1 ≤ f → EndE r → prsC f (runT cs ++ r) = (cs, r) := by
  induction cs with
  | nil => intro f r _ hr; exact prsC_end f hr
  | cons x cs ih =>
    intro f r hf hr
    obtain ⟨b, u⟩ := x
    have hs : sumC ((b, u) :: cs) = cntP u + sumC cs := by unfold sumC; simp
    have hp := cnt_pos u
    obtain ⟨f, rfl⟩ : ∃ g, f = g + 1 := ⟨f - 1, by omega⟩
    have hu := hcs (b, u) (List.mem_cons_self ..) f (runT cs ++ r) (by dsimp only; omega) (runT_end cs hr)
    have hc := ih (fun y hy => hcs y (List.mem_cons_of_mem _ hy)) f r (by omega) hr
    have e : runT ((b, u) :: cs) ++ r = sepT b ++ (bT u ++ (runT cs ++ r)) := by unfold runT; rw [List.flatMap_cons]; simp
    rw [e, prsC]
    dsimp only at hu
    cases b
    · rw [show sepT false = orT from rfl, or_not, or_pre, show (orT ++ (bT u ++ (runT cs ++ r))).drop 4 = bT u ++ (runT cs ++ r) from rfl, hu]
      simp [hc]
    · rw [show sepT true = andT from rfl, and_pre, show (andT ++ (bT u ++ (runT cs ++ r))).drop 5 = bT u ++ (runT cs ++ r) from rfl, hu]
      simp [hc]
/-- a chain -/
theorem prsE_chain (u : Pd) (cs : List (Bool × Pd)) (hu : PU u) (hcs : ∀ x ∈ cs, PU x.2) (f : Nat) (r : Tx) (hf : 3 * (cntP u + sumC cs) + 2 ≤ f) (hr : EndE r) : prsE f (bT u ++ runT cs ++ r) = some (unch u cs, r) := by
  obtain ⟨f, rfl⟩ : ∃ g, f = g + 1 := ⟨f - 1, by omega⟩
  have hp := cnt_pos u
  rw [prsE, List.append_assoc, hu f (runT cs ++ r) (by omega) (runT_end cs hr), Option.bind_some, prsC_ok cs hcs f r (by omega) hr]
theorem bT_atom {p : Pd} (h : p.hd.op ≠ 6 ∧ p.hd.op ≠ 7) : bT p = textP p := by
  unfold bT brkP brk
  rw [if_neg (by simp [h.1, h.2])]
theorem bT_br {p : Pd} (h : p.hd.op = 6 ∨ p.hd.op = 7) : bT p = 40 :: (textP p ++ [41]) := by
  unfold bT brkP brk
  rw [if_pos (by simpa using h)]
  rfl
theorem pu_of (p : Pd) (hE : PE p) (hA : p.hd.op ≠ 6 ∧ p.hd.op ≠ 7 → PA p) : PU p := by
  intro f r hf hr
  by_cases h : p.hd.op = 6 ∨ p.hd.op = 7
  · have hp := cnt_pos p
    obtain ⟨f, rfl⟩ : ∃ g, f = g + 1 := ⟨f - 1, by omega⟩
    rw [bT_br h, prsU, if_pos (by simp)]
    have e : ((40 :: (textP p ++ [41])) ++ r).tail = textP p ++ 41 :: r := by simp
    rw [e, hE f (41 :: r) (by omega) (.inr ⟨_, rfl⟩)]
    simp
  · have h2 : p.hd.op ≠ 6 ∧ p.hd.op ≠ 7 := ⟨fun e => h (.inl e), fun e => h (.inr e)⟩
    rw [bT_atom h2]
    exact hA h2 f r (by omega) hr
theorem pe_atom (p : Pd) (hA : PA p) : PE p := by
  intro f r hf hr
  have hp := cnt_pos p
  obtain ⟨f, rfl⟩ : ∃ g, f = g + 1 := ⟨f - 1, by omega⟩
  rw [prsE, hA f r (by omega) hr.w, Option.bind_some, prsC_end f hr]
  rfl
theorem join_run (b : Bool) (u : Pd) (us : List Pd) : Lib.join ((u :: us).map bT) (sepT b) = bT u ++ runT (us.map fun v => (b, v)) := by
  unfold Lib.join runT
  induction us generalizing u with
  | nil => simp [List.intercalate]
  | cons v us ih =>
    have e : List.intercalate (sepT b) ((u :: v :: us).map bT) = bT u ++ sepT b ++ List.intercalate (sepT b) ((v :: us).map bT) := by simp [List.intercalate]
    rw [e, ih v]
    simp
theorem pa_all : PA (.mk (bare 1) []) := by
  intro f r hf hr
  rw [cntP, cntL] at hf
  obtain ⟨f, rfl⟩ : ∃ g, f = g + 1 := ⟨f - 1, by omega⟩
  have e : textP (.mk (bare 1) []) = [97, 108, 108] := by rw [textP, textL]; rfl
  obtain ⟨a, b⟩ := tw_word (w := [97, 108, 108]) (by decide) hr
  rw [e, prsU, if_neg (by simp), a, b, if_pos rfl]
theorem head_ne {c : Tx} (h : nameB c = true) (r : Tx) : (c ++ r).head? ≠ some 40 := by
  obtain ⟨h1, h2, _⟩ := name_wc h
  cases c with
  | nil => exact absurd rfl h1
  | cons x c => simpa using (h2 x (List.mem_cons_self ..)).2
theorem pa_nul {col : Tx} (hn : nameB col = true) : PA (.mk ⟨3, col, 0, zCl, 0, []⟩ []) := by
  intro f r hf hr
  rw [cntP, cntL] at hf
  obtain ⟨f, rfl⟩ : ∃ g, f = g + 1 := ⟨f - 1, by omega⟩
  have e : textP (.mk ⟨3, col, 0, zCl, 0, []⟩ []) ++ r = col ++ (32 :: ([105, 115] ++ (32 :: ([110, 117, 108, 108] ++ r)))) := by rw [textP, textL]; simp [textH]
  obtain ⟨h1, h2, h3, h4⟩ := name_wc hn
  obtain ⟨a, b⟩ := tw_word (w := col) (fun c hc => (h2 c hc).1) (endW_32 ([105, 115] ++ (32 :: ([110, 117, 108, 108] ++ r))))
  obtain ⟨a2, b2⟩ := tw_word (w := [105, 115]) (by decide) (endW_32 ([110, 117, 108, 108] ++ r))
  rw [e, prsU, if_neg (head_ne hn _), a, b, if_neg h3, if_neg h4, show (32 :: ([105, 115] ++ (32 :: ([110, 117, 108, 108] ++ r)))).drop 1 = [105, 115] ++ (32 :: ([110, 117, 108, 108] ++ r)) from rfl, a2, b2, if_pos rfl]
  rfl
theorem pa_like {col pat : Tx} (hn : nameB col = true) : PA (.mk ⟨4, col, 0, zCl, 0, pat⟩ []) := by
  intro f r hf hr
  rw [cntP, cntL] at hf
  obtain ⟨f, rfl⟩ : ∃ g, f = g + 1 := ⟨f - 1, by omega⟩
  have e : textP (.mk ⟨4, col, 0, zCl, 0, pat⟩ []) ++ r = col ++ (32 :: ([108, 105, 107, 101] ++ (32 :: 39 :: (dblB pat ++ 39 :: r)))) := by rw [textP, textL]; simp [textH, quoT]
  obtain ⟨h1, h2, h3, h4⟩ := name_wc hn
  obtain ⟨a, b⟩ := tw_word (w := col) (fun c hc => (h2 c hc).1) (endW_32 ([108, 105, 107, 101] ++ (32 :: 39 :: (dblB pat ++ 39 :: r))))
  obtain ⟨a2, b2⟩ := tw_word (w := [108, 105, 107, 101]) (by decide) (endW_32 (39 :: (dblB pat ++ 39 :: r)))
  rw [e, prsU, if_neg (head_ne hn _), a, b, if_neg h3, if_neg h4, show (32 :: ([108, 105, 107, 101] ++ (32 :: 39 :: (dblB pat ++ 39 :: r)))).drop 1 = [108, 105, 107, 101] ++ (32 :: 39 :: (dblB pat ++ 39 :: r)) from rfl, a2, b2, if_neg (by decide), if_pos rfl,
    show (32 :: 39 :: (dblB pat ++ 39 :: r)).drop 2 = dblB pat ++ 39 :: r from rfl, qt_dbl pat r (endW_not hr)]
  simp
theorem pa_cmp {col : Tx} {cmp : Int} {val : Cl} {kind : Int} (hn : nameB col = true) (h1 : 1 ≤ cmp) (h6 : cmp ≤ 6) (hm : mayC kind false val = true) (hv : I64b val.num) : PA (.mk ⟨2, col, cmp, val, kind, []⟩ []) := by
  intro f r hf hr
  rw [cntP, cntL] at hf
  obtain ⟨f, rfl⟩ : ∃ g, f = g + 1 := ⟨f - 1, by omega⟩
  have e : textP (.mk ⟨2, col, cmp, val, kind, []⟩ []) ++ r = col ++ (32 :: (markB cmp ++ (32 :: (valT kind val ++ r)))) := by rw [textP, textL]; simp [textH]
  obtain ⟨_, h2, h3, h4⟩ := name_wc hn
  obtain ⟨m1, m2, m3, m4⟩ := markR_ok h1 h6
  obtain ⟨a, b⟩ := tw_word (w := col) (fun c hc => (h2 c hc).1) (endW_32 (markB cmp ++ (32 :: (valT kind val ++ r))))
  obtain ⟨a2, b2⟩ := tw_word (w := markB cmp) m2 (endW_32 (valT kind val ++ r))
  rw [e, prsU, if_neg (head_ne hn _), a, b, if_neg h3, if_neg h4, show (32 :: (markB cmp ++ (32 :: (valT kind val ++ r)))).drop 1 = markB cmp ++ (32 :: (valT kind val ++ r)) from rfl, a2, b2, if_neg m3, if_neg m4,
    show (32 :: (valT kind val ++ r)).drop 1 = valT kind val ++ r from rfl, valR_ok hm hv hr, m1]
  rfl
theorem pa_not {k : Pd} (hk : PU k) : PA (.mk (bare 5) [k]) := by
  intro f r hf hr
  rw [cntP, cntL, cntL] at hf
  have hp := cnt_pos k
  obtain ⟨f, rfl⟩ : ∃ g, f = g + 1 := ⟨f - 1, by omega⟩
  have e : textP (.mk (bare 5) [k]) ++ r = [110, 111, 116] ++ (32 :: (bT k ++ r)) := by
    rw [textP, textL, textL]
    show ([110, 111, 116, 32] ++ brk [6, 7] (k.hd.op, textP k)) ++ r = _
    simp [bT, brkP]
  obtain ⟨a, b⟩ := tw_word (w := [110, 111, 116]) (by decide) (endW_32 (bT k ++ r))
  rw [e, prsU, if_neg (by simp), a, b, if_neg (by decide), if_pos rfl, show (32 :: (bT k ++ r)).drop 1 = bT k ++ r from rfl, hk f r (by omega) hr]
  rfl
theorem text_and (ks : List Pd) (h : ∀ k ∈ ks, k.hd.op ≠ 6) : textP (.mk (bare 6) ks) = Lib.join (ks.map bT) andT := by
  rw [textP]
  show Lib.join ((textL ks).map (brk [7])) andT = _
  rw [textL_brk]
  congr 1
  apply List.map_congr_left
  intro k hk
  unfold bT brkP brk
  have := h k hk
  by_cases h7 : k.hd.op = 7
  · rw [if_pos (by simp [h7]), if_pos (by simp [h7])]
  · rw [if_neg (by simp [h7]), if_neg (by simp [h7, this])]
theorem text_or (ks : List Pd) : textP (.mk (bare 7) ks) = Lib.join (ks.map textP) orT := by
  rw [textP]
  show Lib.join ((textL ks).map (brk [])) orT = _
  rw [textL_brk]
  rfl
theorem sum_map (b : Bool) (us : List Pd) : sumC (us.map fun v => (b, v)) = cntL us := by
  unfold sumC
  induction us with
  | nil => rfl
  | cons u us ih => rw [List.map_cons, List.map_cons, List.sum_cons, ih, cntL]
theorem pe_and {ks : List Pd} (h2 : 1 < ks.length) (h6 : ∀ k ∈ ks, k.hd.op ≠ 6) (hk : ∀ k ∈ ks, PU k) : PE (.mk (bare 6) ks) := by
  intro f r hf hr
  match ks, h2 with
  | u :: v :: us, _ =>
    rw [cntP, cntL] at hf
    rw [text_and _ h6, show andT = sepT true from rfl, join_run, prsE_chain u _ (hk u (List.mem_cons_self ..)) (fun x hx => by
      obtain ⟨y, hy, rfl⟩ := List.mem_map.1 hx
      exact hk y (List.mem_cons_of_mem _ hy)) f r (by rw [sum_map]; omega) hr]
    unfold unch
    rw [grp_and]
    rfl
/-- a kid of 'or' -/
theorem cj_text {k : Pd} (h7 : k.hd.op ≠ 7) (h1 : oneP k = true) : textP k = bT (cjP k).1 ++ runT ((cjP k).2.map fun v => (true, v)) ∧ mkA ((cjP k).1 :: (cjP k).2) = k ∧ cntP (cjP k).1 + cntL (cjP k).2 ≤ cntP k := by
  obtain ⟨h, ks⟩ := k
  rw [oneP, Bool.and_eq_true] at h1
  have hs := shape_of h1.1
  unfold cjP
  by_cases h6 : h.op = 6
  · rw [if_pos (show (Pd.mk h ks).hd.op = 6 from h6)]
    unfold Shape at hs
    rcases hs with ⟨rfl, _⟩ | ⟨_, _, _, _, rfl, _⟩ | ⟨_, rfl, _⟩ | ⟨_, _, rfl, _⟩ | ⟨_, rfl, _⟩ | ⟨rfl, h2, hk⟩ | ⟨rfl, _⟩
    · exact absurd (show (1 : Int) = 6 from h6) (by decide)
    · exact absurd (show (2 : Int) = 6 from h6) (by decide)
    · exact absurd (show (3 : Int) = 6 from h6) (by decide)
    · exact absurd (show (4 : Int) = 6 from h6) (by decide)
    · exact absurd (show (5 : Int) = 6 from h6) (by decide)
    · match ks, h2 with
      | u :: v :: us, _ =>
        refine ⟨?_, rfl, ?_⟩
        · rw [text_and _ hk, show andT = sepT true from rfl, join_run]; rfl
        · show cntP u + cntL (v :: us) ≤ _
          simp only [cntP, cntL]; omega
    · exact absurd (show (7 : Int) = 6 from h6) (by decide)
  · rw [if_neg (show ¬ (Pd.mk h ks).hd.op = 6 from h6)]
    refine ⟨?_, rfl, by show cntP (Pd.mk h ks) + cntL [] ≤ cntP (Pd.mk h ks); rw [cntL]; omega⟩
    rw [bT_atom (p := .mk h ks) ⟨h6, h7⟩]
    simp [runT]
theorem or_run (ks : List Pd) (h : ∀ k ∈ ks, k.hd.op ≠ 7 ∧ oneP k = true) : ∀ k, k.hd.op ≠ 7 → oneP k = true → Lib.join ((k :: ks).map textP) orT = bT (cjP k).1 ++ runT (((cjP k).2.map fun v => (true, v)) ++ chn ks) := by
  induction ks with
  | nil =>
    intro k h7 h1
    have e : Lib.join ([k].map textP) orT = textP k := by simp [Lib.join, List.intercalate]
    rw [e, (cj_text h7 h1).1]
    unfold chn
    simp
  | cons y ks ih =>
    intro k h7 h1
    have e : Lib.join ((k :: y :: ks).map textP) orT = textP k ++ orT ++ Lib.join ((y :: ks).map textP) orT := by simp [Lib.join, List.intercalate]
    have hy := h y (List.mem_cons_self ..)
    rw [e, ih (fun x hx => h x (List.mem_cons_of_mem _ hx)) y hy.1 hy.2, (cj_text h7 h1).1]
    have e2 : chn (y :: ks) = (false, (cjP y).1) :: (((cjP y).2.map fun v => (true, v)) ++ chn ks) := by unfold chn; rw [List.flatMap_cons]; rfl
    rw [e2]
    unfold runT
    simp [sepT]
theorem chn_sum (ks : List Pd) (h : ∀ k ∈ ks, k.hd.op ≠ 7 ∧ oneP k = true) : sumC (chn ks) ≤ cntL ks := by
  induction ks with
  | nil => exact Nat.le_refl _
  | cons y ks ih =>
    have hy := h y (List.mem_cons_self ..)
    have e2 : chn (y :: ks) = (false, (cjP y).1) :: (((cjP y).2.map fun v => (true, v)) ++ chn ks) := by unfold chn; rw [List.flatMap_cons]; rfl
    have h1 := ih (fun x hx => h x (List.mem_cons_of_mem _ hx))
    have h2 := (cj_text hy.1 hy.2).2.2
    have h3 := sum_map true (cjP y).2
    rw [e2, cntL]
    unfold sumC at *
    rw [List.map_cons, List.sum_cons, List.map_append, List.sum_append, h3]
    dsimp only
    omega
theorem pe_or {ks : List Pd} (h2 : 1 < ks.length) (h7 : ∀ k ∈ ks, k.hd.op ≠ 7) (h1 : ∀ k ∈ ks, oneP k = true) (hk : ∀ k ∈ ks, PU (cjP k).1 ∧ ∀ v ∈ (cjP k).2, PU v) : PE (.mk (bare 7) ks) := by
  intro f r hf hr
  match ks, h2 with
  | k :: y :: ks, _ =>
    rw [cntP, cntL] at hf
    have hk0 := hk k (List.mem_cons_self ..)
    have hkk := cj_text (h7 k (List.mem_cons_self ..)) (h1 k (List.mem_cons_self ..))
    have hss := chn_sum (y :: ks) (fun x hx => ⟨h7 x (List.mem_cons_of_mem _ hx), h1 x (List.mem_cons_of_mem _ hx)⟩)
    have hsum : sumC (((cjP k).2.map fun v => (true, v)) ++ chn (y :: ks)) = cntL (cjP k).2 + sumC (chn (y :: ks)) := by
      have := sum_map true (cjP k).2
      unfold sumC at *
      rw [List.map_append, List.sum_append, this]
    rw [text_or, or_run (y :: ks) (fun x hx => ⟨h7 x (List.mem_cons_of_mem _ hx), h1 x (List.mem_cons_of_mem _ hx)⟩) k (h7 k (List.mem_cons_self ..)) (h1 k (List.mem_cons_self ..)),
      prsE_chain (cjP k).1 _ hk0.1 (fun x hx => by
        rcases List.mem_append.1 hx with hx | hx
        · obtain ⟨v, hv, rfl⟩ := List.mem_map.1 hx
          exact hk0.2 v hv
        · unfold chn at hx
          obtain ⟨z, hz, hx⟩ := List.mem_flatMap.1 hx
          have hkz := hk z (List.mem_cons_of_mem _ hz)
          rcases List.mem_cons.1 hx with rfl | hx
          · exact hkz.1
          · obtain ⟨v, hv, rfl⟩ := List.mem_map.1 hx
            exact hkz.2 v hv) f r (by rw [hsum]; omega) hr]
    unfold unch
    rw [grp_chn, List.map_cons, List.map_cons]
    show some (Pd.mk (bare 7) ((((cjP k).1 :: (cjP k).2) :: ((cjP y).1 :: (cjP y).2) :: ks.map fun x => (cjP x).1 :: (cjP x).2).map mkA), r) = _
    congr 2
    have e : ((((cjP k).1 :: (cjP k).2) :: ((cjP y).1 :: (cjP y).2) :: ks.map fun x => (cjP x).1 :: (cjP x).2).map mkA) = (k :: y :: ks).map fun x => mkA ((cjP x).1 :: (cjP x).2) := by simp
    rw [e]
    congr 1
    exact (List.map_congr_left (g := id) fun x hx => (cj_text (h7 x hx) (h1 x hx)).2.1).trans (List.map_id _)
theorem read_all (p : Pd) : oneP p = true → numP p → PU p ∧ PE p ∧ ∀ k ∈ p.kids, PU k := by
  induction p using Pd.ind with
  | h hd ks ih =>
    intro h1 hn
    rw [oneP, Bool.and_eq_true, oneL_all] at h1
    rw [numP] at hn
    have hone := List.all_eq_true.1 h1.2
    have hnum := (numL_all ks).1 hn.2
    have hkid : ∀ k ∈ ks, PU k := fun k hk => (ih k hk (hone k hk) (hnum k hk)).1
    have hs := shape_of h1.1
    have key : PE (.mk hd ks) ∧ (hd.op ≠ 6 ∧ hd.op ≠ 7 → PA (.mk hd ks)) := by
      unfold Shape at hs
      rcases hs with ⟨rfl, rfl⟩ | ⟨col, cmp, val, kind, rfl, rfl, a, b, c, d⟩ | ⟨col, rfl, rfl, a⟩ | ⟨col, pat, rfl, rfl, a⟩ | ⟨k, rfl, rfl⟩ | ⟨rfl, h2, h6⟩ | ⟨rfl, h2, h7⟩
      · exact ⟨pe_atom _ pa_all, fun _ => pa_all⟩
      · have := pa_cmp a b c d hn.1
        exact ⟨pe_atom _ this, fun _ => this⟩
      · exact ⟨pe_atom _ (pa_nul a), fun _ => pa_nul a⟩
      · exact ⟨pe_atom _ (pa_like a), fun _ => pa_like a⟩
      · have := pa_not (hkid k (List.mem_cons_self ..))
        exact ⟨pe_atom _ this, fun _ => this⟩
      · exact ⟨pe_and h2 h6 hkid, fun e => absurd rfl e.1⟩
      · refine ⟨pe_or h2 h7 hone (fun k hk => ?_), fun e => absurd rfl e.2⟩
        unfold cjP
        by_cases h6 : k.hd.op = 6
        · rw [if_pos h6]
          have hkk := (ih k hk (hone k hk) (hnum k hk)).2.2
          generalize hq : k.kids = q at *
          match q with
          | [] => exact ⟨hkid k hk, fun v hv => by cases hv⟩
          | u :: us => exact ⟨hkk u (List.mem_cons_self ..), fun v hv => hkk v (List.mem_cons_of_mem _ hv)⟩
        · rw [if_neg h6]
          exact ⟨hkid k hk, fun v hv => by cases hv⟩
    exact ⟨pu_of _ key.1 key.2, key.1, hkid⟩
theorem text_inj (a b : Pd) (h1 : oneP a = true) (h2 : oneP b = true) (n1 : numP a) (n2 : numP b) (h : textP a = textP b) : a = b := by
  have ra := (read_all a h1 n1).2.1 (3 * cntP a + 3 * cntP b) [] (by omega) (.inl rfl)
  have rb := (read_all b h2 n2).2.1 (3 * cntP a + 3 * cntP b) [] (by omega) (.inl rfl)
  rw [h] at ra
  exact (Prod.mk.inj (Option.some.inj (ra.symm.trans rb))).1
end Go.Proofs.YteagbddejbjmfaaDoor


namespace Go.Proofs.YteagbddejbjmfaaDoor
set_option linter.unusedVariables false
set_option linter.unusedSimpArgs false
set_option maxRecDepth 100000
open Go.RowKit


theorem text_one (a b : Pd) (ma : mayP a = true) (mb : mayP b = true) (na : numP a) (nb : numP b) : (TextP a == TextP b) = sameP a b := by
  unfold TextP
  rw [if_pos ma, if_pos mb, Bool.eq_iff_iff, beq_iff_eq, same_iff]
  unfold mayP at ma mb
  rw [Bool.and_eq_true] at ma mb
  exact ⟨text_inj a b ma.2 mb.2 na nb, fun e => by rw [e]⟩
set_option maxHeartbeats 8000000 in
theorem predOne_walk (h : Ph) (t : Kv) (ks : List Pd) (h2 : Ph) (t2 : Kv) (ms : List Pd) (W : World) (hW : Lp W) (hk : Kd W t ks) (hb : I64b h.val.num) (hk2 : Kd W t2 ms) (hb2 : I64b h2.val.num) :
    Calls Tryd.prog 5 #[pdV h t, pdV h2 t2] W fun e w' => e = .returned (.bool true) ∧ Below W.heap.size W w' := by
  have F00 : Fr Non W ((W.alloc (.cells (pdC h t) 27)).alloc (.cells (pdC h2 t2) 27)) := ((Fr.refl Non W).alloc _).alloc _
  have Q := pd2_new W _ h h2 t t2 rfl
  have PA0 := Lib.hid Q.1
  have PB0 := Lib.hid Q.2
  clear Q
  have S1 := Lib.hid (rpsmall_any (.mk h ks) t 9 9 _ rfl (by omega) (hk.non F00))
  have S2 := Lib.hid (fun W hk => rpsmall_any (.mk h2 ms) t2 9 9 W rfl (by omega) hk)
  have HT1 : Hid (lenP (.mk h ks) = true → depP (.mk h ks) ≤ 9 → ∀ W, Lp W → Kd W t ks → Calls Tryd.prog 14 #[pdV h t] W fun e w' => e = .returned (.string ⟨(TextP (.mk h ks)).toArray⟩) ∧ Fr Non W w') := Lib.hid (fun a b W hW hk => pText_any h t ks W hW hk hb a b)
  have HT2 : Hid (lenP (.mk h2 ms) = true → depP (.mk h2 ms) ≤ 9 → ∀ W, Lp W → Kd W t2 ms → Calls Tryd.prog 14 #[pdV h2 t2] W fun e w' => e = .returned (.string ⟨(TextP (.mk h2 ms)).toArray⟩) ∧ Fr Non W w') := Lib.hid (fun a b W hW hk => pText_any h2 t2 ms W hW hk hb2 a b)
  have HM1 : Hid (lenP (.mk h ks) = true → ∀ W, Kd W t ks → Calls Tryd.prog 10 #[pdV h t] W fun e w' => e = .returned (.bool (mayP (.mk h ks))) ∧ Fr Non W w') := Lib.hid (fun a W hk => rpmay_any h t ks W hk a)
  have HM2 : Hid (lenP (.mk h2 ms) = true → ∀ W, Kd W t2 ms → Calls Tryd.prog 10 #[pdV h2 t2] W fun e w' => e = .returned (.bool (mayP (.mk h2 ms))) ∧ Fr Non W w') := Lib.hid (fun a W hk => rpmay_any h2 t2 ms W hk a)
  have HE1 : Hid (lenP (.mk h ks) = true → ∀ W, Kd W t ks → Kd W t2 ms → Calls Tryd.prog 21 #[pdV h t, pdV h2 t2] W fun e w' => e = .returned (.bool (sameP (.mk h ks) (.mk h2 ms))) ∧ Fr Non W w') := Lib.hid (fun a W x y => psame_any (.mk h ks) (.mk h2 ms) t t2 W x y a)
  have HE2 : Hid (lenP (.mk h ks) = true → ∀ W, Kd W t ks → Kd W t2 ms → Calls Tryd.prog 22 #[pdV h t, pdV h2 t2] W fun e w' => e = .returned (.bool (sameP (.mk h ks) (.mk h2 ms))) ∧ Fr Non W w') := Lib.hid (fun a W x y => rpsame_any (.mk h ks) (.mk h2 ms) t t2 W x y a)
  have HE3 : Hid (lenP (.mk h ks) = true → ∀ W, Kd W t ks → Calls Tryd.prog 21 #[pdV h t, pdV h t] W fun e w' => e = .returned (.bool true) ∧ Fr Non W w') := Lib.hid (fun a W x => by
    have c := psame_any (.mk h ks) (.mk h ks) t t W x x a
    rw [same_self] at c
    exact c)
  have HIN : Hid (mayP (.mk h ks) = true → mayP (.mk h2 ms) = true → (TextP (.mk h ks) == TextP (.mk h2 ms)) = sameP (.mk h ks) (.mk h2 ms)) := Lib.hid (fun a b => text_one _ _ a b ⟨hb, hk.num⟩ ⟨hb2, hk2.num⟩)
  dsimp only [Pd.hd, Pd.kids] at S1 S2
  generalize mayP (.mk h ks) = m1 at *
  generalize mayP (.mk h2 ms) = m2 at *
  generalize TextP (.mk h ks) = x1 at *
  generalize TextP (.mk h2 ms) = x2 at *
  generalize sameP (.mk h ks) (.mk h2 ms) = sb at *
  generalize lenP (.mk h ks) = l1 at *
  generalize lenP (.mk h2 ms) = l2 at *
  generalize depP (.mk h ks) = e1 at *
  generalize depP (.mk h2 ms) = e2 at *
  have F0 := Lib.hid F00
  have HA0 := Lib.hid (hk.non F00)
  have HB0 := Lib.hid (hk2.non F00)
  have HW0 := Lib.hid (hW.non F00)
  clear hk hk2 hW F00
  obtain ⟨ho, hc, hm, ⟨vn, vi, vt⟩, hkd, hp⟩ := h
  obtain ⟨A, n, c⟩ := t
  obtain ⟨oo, oc, om, ⟨on, oi, ot⟩, ok, op⟩ := h2
  obtain ⟨A2, n2, c2⟩ := t2
  unfold pdV at S1 S2 HT1 HT2 HM1 HM2 HE1 HE2 HE3 ⊢
  unfold pdC kidV at *
  dsimp only at *
  go_enter Tryd.func5, Tryd.ntmps5
  go_wp2_with fail
  refine S1.out.mono ?_
  rintro e w1 ⟨⟨b1, rfl, hb1⟩, f1⟩
  have HQ1 := Lib.hid hb1
  have PA1 := Lib.hid (PA0.out.fr f1 (fun e => e))
  have PB1 := Lib.hid (PB0.out.fr f1 (fun e => e))
  have HA1 := Lib.hid (HA0.out.non f1)
  have HB1 := Lib.hid (HB0.out.non f1)
  have HW1 := Lib.hid (HW0.out.non f1)
  have F1 := Lib.hid (F0.out.trans f1)
  obtain ⟨g0, g1, g2, g3, g4, g5, g6, g7, g8⟩ := pdB_cells PA1.out
  obtain ⟨d0, d1, d2, d3, d4, d5, d6, d7, d8⟩ := pdB_cells PB1.out
  dsimp only at g0 g1 g2 g3 g4 g5 g6 g7 g8 d0 d1 d2 d3 d4 d5 d6 d7 d8
  clear f1 hb1 S1
  cases b1
  · clear HT1 HT2 HM1 HM2 HE1 HE2 HE3 S2 HIN
    go_wp2_with fail
    refine (plive_any _ HW1.out).mono ?_
    rintro e w9 ⟨rfl, f9⟩
    go_wp2
    go_ret
    exact ⟨rfl, (F1.out.trans f9).below⟩
  · go_wp2_with fail
    refine (S2.out _ HB1.out).mono ?_
    rintro e w2 ⟨⟨b2, rfl, hb2⟩, f2⟩
    have HQ2 := Lib.hid hb2
    have PA2 := Lib.hid (PA1.out.fr f2 (fun e => e))
    have PB2 := Lib.hid (PB1.out.fr f2 (fun e => e))
    have HA2 := Lib.hid (HA1.out.non f2)
    have HB2 := Lib.hid (HB1.out.non f2)
    have HW2 := Lib.hid (HW1.out.non f2)
    have F2 := Lib.hid (F1.out.trans f2)
    clear g0 g1 g2 g3 g4 g5 g6 g7 g8 d0 d1 d2 d3 d4 d5 d6 d7 d8
    obtain ⟨g0, g1, g2, g3, g4, g5, g6, g7, g8⟩ := pdB_cells PA2.out
    obtain ⟨d0, d1, d2, d3, d4, d5, d6, d7, d8⟩ := pdB_cells PB2.out
    dsimp only at g0 g1 g2 g3 g4 g5 g6 g7 g8 d0 d1 d2 d3 d4 d5 d6 d7 d8
    clear f2 hb2 S2
    cases b2
    · clear HT1 HT2 HM1 HM2 HE1 HE2 HE3 HIN
      go_wp2_with fail
      refine (plive_any _ HW2.out).mono ?_
      rintro e w9 ⟨rfl, f9⟩
      go_wp2
      go_ret
      exact ⟨rfl, (F2.out.trans f9).below⟩
    · obtain ⟨hl1, hd1⟩ := HQ1.out (by trivial)
      obtain ⟨hl2, hd2⟩ := HQ2.out (by trivial)
      have T1 := Lib.hid (HT1.out hl1 hd1)
      have T2 := Lib.hid (HT2.out hl2 hd2)
      have M1 := Lib.hid (HM1.out hl1)
      have M2 := Lib.hid (HM2.out hl2)
      have E1 := Lib.hid (HE1.out hl1)
      have E2 := Lib.hid (HE2.out hl1)
      have E3 := Lib.hid (HE3.out hl1)
      go_wp2
      have PAd := Lib.hid PA2.out.drew
      have PBd := Lib.hid PB2.out.drew
      have HAd := Lib.hid (HA2.out.non (Fr.refl Non w2).drew)
      have HBd := Lib.hid (HB2.out.non (Fr.refl Non w2).drew)
      have HWd := Lib.hid (HW2.out.non (Fr.refl Non w2).drew)
      have Fd := Lib.hid F2.out.drew
      clear g0 g1 g2 g3 g4 g5 g6 g7 g8 d0 d1 d2 d3 d4 d5 d6 d7 d8
      obtain ⟨g0, g1, g2, g3, g4, g5, g6, g7, g8⟩ := pdB_cells PAd.out
      obtain ⟨d0, d1, d2, d3, d4, d5, d6, d7, d8⟩ := pdB_cells PBd.out
      dsimp only at g0 g1 g2 g3 g4 g5 g6 g7 g8 d0 d1 d2 d3 d4 d5 d6 d7 d8
      clear HT1 HT2 HM1 HM2 HE1 HE2 HE3 HQ1 HQ2 hl1 hd1 hl2 hd2
      refine wp_region_held_drew (S := (fun W' => W'.cell? ⟨W.heap.size, 0, none⟩ = some (.int .i64 ho) ∧ W'.cell? ⟨W.heap.size, 1, none⟩ = some (.string ⟨hc.toArray⟩) ∧ W'.cell? ⟨W.heap.size, 2, none⟩ = some (.int .i64 hm) ∧ W'.cell? ⟨W.heap.size, 3, none⟩ = some (.bool vn) ∧ W'.cell? ⟨W.heap.size, 4, none⟩ = some (.int .i64 vi) ∧ W'.cell? ⟨W.heap.size, 5, none⟩ = some (.string ⟨vt.toArray⟩) ∧ W'.cell? ⟨W.heap.size, 6, none⟩ = some (.int .i64 hkd) ∧ W'.cell? ⟨W.heap.size, 7, none⟩ = some (.string ⟨hp.toArray⟩) ∧ W'.cell? ⟨W.heap.size, 8, none⟩ = some (.slice A n c) ∧ W'.cell? ⟨W.heap.size + 1, 0, none⟩ = some (.int .i64 oo) ∧ W'.cell? ⟨W.heap.size + 1, 1, none⟩ = some (.string ⟨oc.toArray⟩) ∧ W'.cell? ⟨W.heap.size + 1, 2, none⟩ = some (.int .i64 om) ∧ W'.cell? ⟨W.heap.size + 1, 3, none⟩ = some (.bool on) ∧ W'.cell? ⟨W.heap.size + 1, 4, none⟩ = some (.int .i64 oi) ∧ W'.cell? ⟨W.heap.size + 1, 5, none⟩ = some (.string ⟨ot.toArray⟩) ∧ W'.cell? ⟨W.heap.size + 1, 6, none⟩ = some (.int .i64 ok) ∧ W'.cell? ⟨W.heap.size + 1, 7, none⟩ = some (.string ⟨op.toArray⟩) ∧ W'.cell? ⟨W.heap.size + 1, 8, none⟩ = some (.slice A2 n2 c2))) (by kernel_rfl) (by exact ⟨g0, g1, g2, g3, g4, g5, g6, g7, g8, d0, d1, d2, d3, d4, d5, d6, d7, d8⟩) (fun hHeld => ?_)
      refine wpAnyH_take (i := 0) (oi := ⟨some 14, _, _, _, _, none⟩) (v := ?v40) rfl (by kernel_rfl) (by kernel_rfl) (by kernel_rfl) (fun _ _ _ h => h) (Or.inl ⟨by rfl, ?hy40⟩) (by assumption) ?rest40
      case hy40 => (intro wS hSw; (try dsimp only at hSw); go_simp; (try with_reducible rfl))
      (try simp only [Act.put, List.setIfInBounds_toArray, List.set_cons_zero, List.set_cons_succ])
      refine wpAnyH_take (i := 1) (oi := ⟨some 15, _, _, _, _, none⟩) (v := ?v41) rfl (by kernel_rfl) (by kernel_rfl) (by kernel_rfl) (fun _ _ _ h => h) (Or.inl ⟨by rfl, ?hy41⟩) (by assumption) ?rest41
      case hy41 => (intro wS hSw; (try dsimp only at hSw); go_simp; (try with_reducible rfl))
      (try simp only [Act.put, List.setIfInBounds_toArray, List.set_cons_zero, List.set_cons_succ])
      refine wpAnyH_take (i := 3) (oi := ⟨some 17, _, _, _, _, none⟩) (v := ?v42) rfl (by kernel_rfl) (by kernel_rfl) (by kernel_rfl) (fun _ _ _ h => h) (Or.inl ⟨by rfl, ?hy42⟩) (by assumption) ?rest42
      case hy42 => (intro wS hSw; (try dsimp only at hSw); go_simp; (try with_reducible rfl))
      (try simp only [Act.put, List.setIfInBounds_toArray, List.set_cons_zero, List.set_cons_succ])
      refine wpAnyH_take (i := 4) (oi := ⟨some 18, _, _, _, _, none⟩) (v := ?v43) rfl (by kernel_rfl) (by kernel_rfl) (by kernel_rfl) (fun _ _ _ h => h) (Or.inl ⟨by rfl, ?hy43⟩) (by assumption) ?rest43
      case hy43 => (intro wS hSw; (try dsimp only at hSw); go_simp; (try with_reducible rfl))
      (try simp only [Act.put, List.setIfInBounds_toArray, List.set_cons_zero, List.set_cons_succ])
      refine wpAnyH_ready (rs := [2]) (by kernel_rfl) (by simp) ?_
      refine AllReadyH.cons (o := ⟨some 16, _, _, _, _, none⟩) rfl (fun K hK => ?_) AllReadyH.nil
      go_simp
      go_at_call 21
      refine (E1.out _ HAd.out HBd.out).mono ?_
      rintro e w5 ⟨rfl, f5⟩
      have PA5 := Lib.hid (PAd.out.fr f5 (fun e => e))
      have PB5 := Lib.hid (PBd.out.fr f5 (fun e => e))
      have HA5 := Lib.hid (HAd.out.non f5)
      have HB5 := Lib.hid (HBd.out.non f5)
      have HW5 := Lib.hid (HWd.out.non f5)
      have F5 := Lib.hid (Fd.out.trans f5)
      clear g0 g1 g2 g3 g4 g5 g6 g7 g8 d0 d1 d2 d3 d4 d5 d6 d7 d8
      obtain ⟨g0, g1, g2, g3, g4, g5, g6, g7, g8⟩ := pdB_cells PA5.out
      obtain ⟨d0, d1, d2, d3, d4, d5, d6, d7, d8⟩ := pdB_cells PB5.out
      dsimp only at g0 g1 g2 g3 g4 g5 g6 g7 g8 d0 d1 d2 d3 d4 d5 d6 d7 d8
      go_wp2_with fail
      refine hK.out _ _ (by exact ⟨g0, g1, g2, g3, g4, g5, g6, g7, g8, d0, d1, d2, d3, d4, d5, d6, d7, d8⟩) (fun hHeld => ?_)
      clear hK K
      (try simp only [Act.put, List.setIfInBounds_toArray, List.set_cons_zero, List.set_cons_succ])
      refine wpAnyH_ready (rs := [5]) (by kernel_rfl) (by simp) ?_
      refine AllReadyH.cons (o := ⟨some 19, _, _, _, _, none⟩) rfl (fun K hK => ?_) AllReadyH.nil
      go_simp
      go_at_call 22
      refine (E2.out _ HA5.out HB5.out).mono ?_
      rintro e w6 ⟨rfl, f6⟩
      have PA6 := Lib.hid (PA5.out.fr f6 (fun e => e))
      have PB6 := Lib.hid (PB5.out.fr f6 (fun e => e))
      have HA6 := Lib.hid (HA5.out.non f6)
      have HB6 := Lib.hid (HB5.out.non f6)
      have HW6 := Lib.hid (HW5.out.non f6)
      have F6 := Lib.hid (F5.out.trans f6)
      clear g0 g1 g2 g3 g4 g5 g6 g7 g8 d0 d1 d2 d3 d4 d5 d6 d7 d8
      obtain ⟨g0, g1, g2, g3, g4, g5, g6, g7, g8⟩ := pdB_cells PA6.out
      obtain ⟨d0, d1, d2, d3, d4, d5, d6, d7, d8⟩ := pdB_cells PB6.out
      dsimp only at g0 g1 g2 g3 g4 g5 g6 g7 g8 d0 d1 d2 d3 d4 d5 d6 d7 d8
      go_wp2_with fail
      refine hK.out _ _ (by exact ⟨g0, g1, g2, g3, g4, g5, g6, g7, g8, d0, d1, d2, d3, d4, d5, d6, d7, d8⟩) (fun hHeld => ?_)
      clear hK K
      (try simp only [Act.put, List.setIfInBounds_toArray, List.set_cons_zero, List.set_cons_succ])
      refine wpAnyH_take (i := 6) (oi := ⟨some 20, _, _, _, _, none⟩) (v := ?v44) rfl (by kernel_rfl) (by kernel_rfl) (by kernel_rfl) (fun _ _ _ h => h) (Or.inl ⟨by rfl, ?hy44⟩) (by assumption) ?rest44
      case hy44 => (intro wS hSw; (try dsimp only at hSw); go_simp; (try with_reducible rfl))
      (try simp only [Act.put, List.setIfInBounds_toArray, List.set_cons_zero, List.set_cons_succ])
      refine wpAnyH_take (i := 7) (oi := ⟨some 21, _, _, _, _, none⟩) (v := ?v45) rfl (by kernel_rfl) (by kernel_rfl) (by kernel_rfl) (fun _ _ _ h => h) (Or.inl ⟨by rfl, ?hy45⟩) (by assumption) ?rest45
      case hy45 => (intro wS hSw; (try dsimp only at hSw); go_simp; (try with_reducible rfl))
      (try simp only [Act.put, List.setIfInBounds_toArray, List.set_cons_zero, List.set_cons_succ])
      refine wpAnyH_take (i := 8) (oi := ⟨some 22, _, _, _, _, some (7, false)⟩) (v := ?v46) rfl (by kernel_rfl) (by kernel_rfl) (by kernel_rfl) (fun _ _ _ h => h) (Or.inl ⟨by rfl, ?hy46⟩) (by assumption) ?rest46
      case hy46 => (intro wS hSw; (try dsimp only at hSw); go_simp; (try with_reducible rfl))
      (try simp only [Act.put, List.setIfInBounds_toArray, List.set_cons_zero, List.set_cons_succ])
      refine wpAnyH_take (i := 9) (oi := ⟨some 23, _, _, _, _, some (7, false)⟩) (v := ?v47) rfl (by kernel_rfl) (by kernel_rfl) (by kernel_rfl) (fun _ _ _ h => h) (Or.inl ⟨by rfl, ?hy47⟩) (by assumption) ?rest47
      case hy47 => (intro wS hSw; (try dsimp only at hSw); go_simp; (try with_reducible rfl))
      (try simp only [Act.put, List.setIfInBounds_toArray, List.set_cons_zero, List.set_cons_succ])
      refine wpAnyH_ready (rs := [10]) (by kernel_rfl) (by simp) ?_
      refine AllReadyH.cons (o := ⟨some 24, _, _, _, _, some (7, false)⟩) rfl (fun K hK => ?_) AllReadyH.nil
      go_simp
      go_at_call 21
      refine (E3.out _ HA6.out).mono ?_
      rintro e w7 ⟨rfl, f7⟩
      have PA7 := Lib.hid (PA6.out.fr f7 (fun e => e))
      have PB7 := Lib.hid (PB6.out.fr f7 (fun e => e))
      have HA7 := Lib.hid (HA6.out.non f7)
      have HB7 := Lib.hid (HB6.out.non f7)
      have HW7 := Lib.hid (HW6.out.non f7)
      have F7 := Lib.hid (F6.out.trans f7)
      clear g0 g1 g2 g3 g4 g5 g6 g7 g8 d0 d1 d2 d3 d4 d5 d6 d7 d8
      obtain ⟨g0, g1, g2, g3, g4, g5, g6, g7, g8⟩ := pdB_cells PA7.out
      obtain ⟨d0, d1, d2, d3, d4, d5, d6, d7, d8⟩ := pdB_cells PB7.out
      dsimp only at g0 g1 g2 g3 g4 g5 g6 g7 g8 d0 d1 d2 d3 d4 d5 d6 d7 d8
      go_wp2_with fail
      refine hK.out _ _ (by exact ⟨g0, g1, g2, g3, g4, g5, g6, g7, g8, d0, d1, d2, d3, d4, d5, d6, d7, d8⟩) (fun hHeld => ?_)
      clear hK K
      (try simp only [Act.put, List.setIfInBounds_toArray, List.set_cons_zero, List.set_cons_succ])
      refine wpAnyH_take (i := 11) (oi := ⟨some 25, _, _, _, _, some (7, false)⟩) (v := ?v48) rfl (by kernel_rfl) (by kernel_rfl) (by kernel_rfl) (fun _ _ _ h => h) (Or.inl ⟨by rfl, ?hy48⟩) (by assumption) ?rest48
      case hy48 => (intro wS hSw; (try dsimp only at hSw); go_simp; (try with_reducible rfl))
      (try simp only [Act.put, List.setIfInBounds_toArray, List.set_cons_zero, List.set_cons_succ])
      refine wpAnyH_take (i := 12) (oi := ⟨some 26, _, _, _, _, none⟩) (v := ?v49) rfl (by kernel_rfl) (by kernel_rfl) (by kernel_rfl) (fun _ _ _ h => h) (Or.inl ⟨by rfl, ?hy49⟩) (by assumption) ?rest49
      case hy49 => (intro wS hSw; (try dsimp only at hSw); go_simp; (try with_reducible rfl))
      (try simp only [Act.put, List.setIfInBounds_toArray, List.set_cons_zero, List.set_cons_succ])
      refine wpAnyH_done (by kernel_rfl) ?_ _

      go_wp2_with fail
      refine (M1.out _ HA7.out).mono ?_
      rintro e w8 ⟨rfl, f8⟩
      have PA8 := Lib.hid (PA7.out.fr f8 (fun e => e))
      have PB8 := Lib.hid (PB7.out.fr f8 (fun e => e))
      have HA8 := Lib.hid (HA7.out.non f8)
      have HB8 := Lib.hid (HB7.out.non f8)
      have HW8 := Lib.hid (HW7.out.non f8)
      have F8 := Lib.hid (F7.out.trans f8)
      clear g0 g1 g2 g3 g4 g5 g6 g7 g8 d0 d1 d2 d3 d4 d5 d6 d7 d8
      obtain ⟨g0, g1, g2, g3, g4, g5, g6, g7, g8⟩ := pdB_cells PA8.out
      obtain ⟨d0, d1, d2, d3, d4, d5, d6, d7, d8⟩ := pdB_cells PB8.out
      dsimp only at g0 g1 g2 g3 g4 g5 g6 g7 g8 d0 d1 d2 d3 d4 d5 d6 d7 d8
      clear f8
      cases m1
      · clear T1 T2 M2 E1 E2 E3 HIN
        go_wp2_with fail
        refine (plive_any _ HW8.out).mono ?_
        rintro e w9 ⟨rfl, f9⟩
        go_wp2
        go_ret
        exact ⟨rfl, (F8.out.trans f9).below⟩
      · go_wp2_with fail
        refine (M2.out _ HB8.out).mono ?_
        rintro e w9 ⟨rfl, f9⟩
        have PA9 := Lib.hid (PA8.out.fr f9 (fun e => e))
        have PB9 := Lib.hid (PB8.out.fr f9 (fun e => e))
        have HA9 := Lib.hid (HA8.out.non f9)
        have HB9 := Lib.hid (HB8.out.non f9)
        have HW9 := Lib.hid (HW8.out.non f9)
        have F9 := Lib.hid (F8.out.trans f9)
        clear g0 g1 g2 g3 g4 g5 g6 g7 g8 d0 d1 d2 d3 d4 d5 d6 d7 d8
        obtain ⟨g0, g1, g2, g3, g4, g5, g6, g7, g8⟩ := pdB_cells PA9.out
        obtain ⟨d0, d1, d2, d3, d4, d5, d6, d7, d8⟩ := pdB_cells PB9.out
        dsimp only at g0 g1 g2 g3 g4 g5 g6 g7 g8 d0 d1 d2 d3 d4 d5 d6 d7 d8
        clear f9
        cases m2
        · clear T1 T2 E1 E2 E3 HIN
          go_wp2_with fail
          refine (plive_any _ HW9.out).mono ?_
          rintro e w9 ⟨rfl, f9⟩
          go_wp2
          go_ret
          exact ⟨rfl, (F9.out.trans f9).below⟩
        · have hin := HIN.out (by trivial) (by trivial)
          have hin2 : ((x1 == x2) == sb) = true := by rw [hin]; simp
          go_wp2
          have PAh := Lib.hid PA9.out.drew
          have PBh := Lib.hid PB9.out.drew
          have HAh := Lib.hid (HA9.out.non (Fr.refl Non w9).drew)
          have HBh := Lib.hid (HB9.out.non (Fr.refl Non w9).drew)
          have HWh := Lib.hid (HW9.out.non (Fr.refl Non w9).drew)
          have Fh := Lib.hid F9.out.drew
          clear g0 g1 g2 g3 g4 g5 g6 g7 g8 d0 d1 d2 d3 d4 d5 d6 d7 d8
          obtain ⟨g0, g1, g2, g3, g4, g5, g6, g7, g8⟩ := pdB_cells PAh.out
          obtain ⟨d0, d1, d2, d3, d4, d5, d6, d7, d8⟩ := pdB_cells PBh.out
          dsimp only at g0 g1 g2 g3 g4 g5 g6 g7 g8 d0 d1 d2 d3 d4 d5 d6 d7 d8
          refine wp_region_held_drew (S := (fun W' => W'.cell? ⟨W.heap.size, 0, none⟩ = some (.int .i64 ho) ∧ W'.cell? ⟨W.heap.size, 1, none⟩ = some (.string ⟨hc.toArray⟩) ∧ W'.cell? ⟨W.heap.size, 2, none⟩ = some (.int .i64 hm) ∧ W'.cell? ⟨W.heap.size, 3, none⟩ = some (.bool vn) ∧ W'.cell? ⟨W.heap.size, 4, none⟩ = some (.int .i64 vi) ∧ W'.cell? ⟨W.heap.size, 5, none⟩ = some (.string ⟨vt.toArray⟩) ∧ W'.cell? ⟨W.heap.size, 6, none⟩ = some (.int .i64 hkd) ∧ W'.cell? ⟨W.heap.size, 7, none⟩ = some (.string ⟨hp.toArray⟩) ∧ W'.cell? ⟨W.heap.size, 8, none⟩ = some (.slice A n c) ∧ W'.cell? ⟨W.heap.size + 1, 0, none⟩ = some (.int .i64 oo) ∧ W'.cell? ⟨W.heap.size + 1, 1, none⟩ = some (.string ⟨oc.toArray⟩) ∧ W'.cell? ⟨W.heap.size + 1, 2, none⟩ = some (.int .i64 om) ∧ W'.cell? ⟨W.heap.size + 1, 3, none⟩ = some (.bool on) ∧ W'.cell? ⟨W.heap.size + 1, 4, none⟩ = some (.int .i64 oi) ∧ W'.cell? ⟨W.heap.size + 1, 5, none⟩ = some (.string ⟨ot.toArray⟩) ∧ W'.cell? ⟨W.heap.size + 1, 6, none⟩ = some (.int .i64 ok) ∧ W'.cell? ⟨W.heap.size + 1, 7, none⟩ = some (.string ⟨op.toArray⟩) ∧ W'.cell? ⟨W.heap.size + 1, 8, none⟩ = some (.slice A2 n2 c2))) (by kernel_rfl) (by exact ⟨g0, g1, g2, g3, g4, g5, g6, g7, g8, d0, d1, d2, d3, d4, d5, d6, d7, d8⟩) (fun hHeld => ?_)
          refine wpAnyH_take (i := 0) (oi := ⟨some 36, _, _, _, _, none⟩) (v := ?v50) rfl (by kernel_rfl) (by kernel_rfl) (by kernel_rfl) (fun _ _ _ h => h) (Or.inl ⟨by rfl, ?hy50⟩) (by assumption) ?rest50
          case hy50 => (intro wS hSw; (try dsimp only at hSw); go_simp; (try with_reducible rfl))
          (try simp only [Act.put, List.setIfInBounds_toArray, List.set_cons_zero, List.set_cons_succ])
          refine wpAnyH_take (i := 2) (oi := ⟨some 38, _, _, _, _, none⟩) (v := ?v51) rfl (by kernel_rfl) (by kernel_rfl) (by kernel_rfl) (fun _ _ _ h => h) (Or.inl ⟨by rfl, ?hy51⟩) (by assumption) ?rest51
          case hy51 => (intro wS hSw; (try dsimp only at hSw); go_simp; (try with_reducible rfl))
          (try simp only [Act.put, List.setIfInBounds_toArray, List.set_cons_zero, List.set_cons_succ])
          refine wpAnyH_take (i := 5) (oi := ⟨some 41, _, _, _, _, none⟩) (v := ?v52) rfl (by kernel_rfl) (by kernel_rfl) (by kernel_rfl) (fun _ _ _ h => h) (Or.inl ⟨by rfl, ?hy52⟩) (by assumption) ?rest52
          case hy52 => (intro wS hSw; (try dsimp only at hSw); go_simp; (try with_reducible rfl))
          (try simp only [Act.put, List.setIfInBounds_toArray, List.set_cons_zero, List.set_cons_succ])
          refine wpAnyH_take (i := 6) (oi := ⟨some 42, _, _, _, _, none⟩) (v := ?v53) rfl (by kernel_rfl) (by kernel_rfl) (by kernel_rfl) (fun _ _ _ h => h) (Or.inl ⟨by rfl, ?hy53⟩) (by assumption) ?rest53
          case hy53 => (intro wS hSw; (try dsimp only at hSw); go_simp; (try with_reducible rfl))
          (try simp only [Act.put, List.setIfInBounds_toArray, List.set_cons_zero, List.set_cons_succ])
          refine wpAnyH_ready (rs := [1]) (by kernel_rfl) (by simp) ?_
          refine AllReadyH.cons (o := ⟨some 37, _, _, _, _, none⟩) rfl (fun K hK => ?_) AllReadyH.nil
          go_simp
          go_at_call 14
          refine (T1.out _ HWh.out HAh.out).mono ?_
          rintro e w10 ⟨rfl, f10⟩
          have PA10 := Lib.hid (PAh.out.fr f10 (fun e => e))
          have PB10 := Lib.hid (PBh.out.fr f10 (fun e => e))
          have HA10 := Lib.hid (HAh.out.non f10)
          have HB10 := Lib.hid (HBh.out.non f10)
          have HW10 := Lib.hid (HWh.out.non f10)
          have F10 := Lib.hid (Fh.out.trans f10)
          clear g0 g1 g2 g3 g4 g5 g6 g7 g8 d0 d1 d2 d3 d4 d5 d6 d7 d8
          obtain ⟨g0, g1, g2, g3, g4, g5, g6, g7, g8⟩ := pdB_cells PA10.out
          obtain ⟨d0, d1, d2, d3, d4, d5, d6, d7, d8⟩ := pdB_cells PB10.out
          dsimp only at g0 g1 g2 g3 g4 g5 g6 g7 g8 d0 d1 d2 d3 d4 d5 d6 d7 d8
          go_wp2_with fail
          refine hK.out _ _ (by exact ⟨g0, g1, g2, g3, g4, g5, g6, g7, g8, d0, d1, d2, d3, d4, d5, d6, d7, d8⟩) (fun hHeld => ?_)
          clear hK K
          (try simp only [Act.put, List.setIfInBounds_toArray, List.set_cons_zero, List.set_cons_succ])
          refine wpAnyH_ready (rs := [3]) (by kernel_rfl) (by simp) ?_
          refine AllReadyH.cons (o := ⟨some 39, _, _, _, _, none⟩) rfl (fun K hK => ?_) AllReadyH.nil
          go_simp
          go_at_call 14
          refine (T2.out _ HW10.out HB10.out).mono ?_
          rintro e w11 ⟨rfl, f11⟩
          have PA11 := Lib.hid (PA10.out.fr f11 (fun e => e))
          have PB11 := Lib.hid (PB10.out.fr f11 (fun e => e))
          have HA11 := Lib.hid (HA10.out.non f11)
          have HB11 := Lib.hid (HB10.out.non f11)
          have HW11 := Lib.hid (HW10.out.non f11)
          have F11 := Lib.hid (F10.out.trans f11)
          clear g0 g1 g2 g3 g4 g5 g6 g7 g8 d0 d1 d2 d3 d4 d5 d6 d7 d8
          obtain ⟨g0, g1, g2, g3, g4, g5, g6, g7, g8⟩ := pdB_cells PA11.out
          obtain ⟨d0, d1, d2, d3, d4, d5, d6, d7, d8⟩ := pdB_cells PB11.out
          dsimp only at g0 g1 g2 g3 g4 g5 g6 g7 g8 d0 d1 d2 d3 d4 d5 d6 d7 d8
          go_wp2_with fail
          refine hK.out _ _ (by exact ⟨g0, g1, g2, g3, g4, g5, g6, g7, g8, d0, d1, d2, d3, d4, d5, d6, d7, d8⟩) (fun hHeld => ?_)
          clear hK K
          (try simp only [Act.put, List.setIfInBounds_toArray, List.set_cons_zero, List.set_cons_succ])
          refine wpAnyH_take (i := 4) (oi := ⟨some 40, _, _, _, _, none⟩) (v := ?v54) rfl (by kernel_rfl) (by kernel_rfl) (by kernel_rfl) (fun _ _ _ h => h) (Or.inl ⟨by rfl, ?hy54⟩) (by assumption) ?rest54
          case hy54 => (intro wS hSw; (try dsimp only at hSw); go_simp; (try with_reducible rfl))
          (try simp only [Act.put, List.setIfInBounds_toArray, List.set_cons_zero, List.set_cons_succ])
          refine wpAnyH_ready (rs := [7]) (by kernel_rfl) (by simp) ?_
          refine AllReadyH.cons (o := ⟨some 43, _, _, _, _, none⟩) rfl (fun K hK => ?_) AllReadyH.nil
          go_simp
          go_at_call 22
          refine (E2.out _ HA11.out HB11.out).mono ?_
          rintro e w12 ⟨rfl, f12⟩
          have PA12 := Lib.hid (PA11.out.fr f12 (fun e => e))
          have PB12 := Lib.hid (PB11.out.fr f12 (fun e => e))
          have HA12 := Lib.hid (HA11.out.non f12)
          have HB12 := Lib.hid (HB11.out.non f12)
          have HW12 := Lib.hid (HW11.out.non f12)
          have F12 := Lib.hid (F11.out.trans f12)
          clear g0 g1 g2 g3 g4 g5 g6 g7 g8 d0 d1 d2 d3 d4 d5 d6 d7 d8
          obtain ⟨g0, g1, g2, g3, g4, g5, g6, g7, g8⟩ := pdB_cells PA12.out
          obtain ⟨d0, d1, d2, d3, d4, d5, d6, d7, d8⟩ := pdB_cells PB12.out
          dsimp only at g0 g1 g2 g3 g4 g5 g6 g7 g8 d0 d1 d2 d3 d4 d5 d6 d7 d8
          go_wp2_with fail
          refine hK.out _ _ (by exact ⟨g0, g1, g2, g3, g4, g5, g6, g7, g8, d0, d1, d2, d3, d4, d5, d6, d7, d8⟩) (fun hHeld => ?_)
          clear hK K
          (try simp only [Act.put, List.setIfInBounds_toArray, List.set_cons_zero, List.set_cons_succ])
          refine wpAnyH_take (i := 8) (oi := ⟨some 44, _, _, _, _, none⟩) (v := ?v55) rfl (by kernel_rfl) (by kernel_rfl) (by kernel_rfl) (fun _ _ _ h => h) (Or.inl ⟨by rfl, ?hy55⟩) (by assumption) ?rest55
          case hy55 => (intro wS hSw; (try dsimp only at hSw); go_simp; (try with_reducible rfl))
          (try simp only [Act.put, List.setIfInBounds_toArray, List.set_cons_zero, List.set_cons_succ])
          refine wpAnyH_take (i := 9) (oi := ⟨some 45, _, _, _, _, none⟩) (v := ?v56) rfl (by kernel_rfl) (by kernel_rfl) (by kernel_rfl) (fun _ _ _ h => h) (Or.inl ⟨by rfl, ?hy56⟩) (by assumption) ?rest56
          case hy56 => (intro wS hSw; (try dsimp only at hSw); go_simp; (try with_reducible rfl))
          (try simp only [Act.put, List.setIfInBounds_toArray, List.set_cons_zero, List.set_cons_succ])
          refine wpAnyH_ready (rs := [10]) (by kernel_rfl) (by simp) ?_
          refine AllReadyH.cons (o := ⟨some 46, _, _, _, _, some (9, true)⟩) rfl (fun K hK => ?_) AllReadyH.nil
          go_simp
          go_at_call 8
          refine (plive_any _ HW12.out).mono ?_
          rintro e w13 ⟨rfl, f13⟩
          have PA13 := Lib.hid (PA12.out.fr f13 (fun e => e))
          have PB13 := Lib.hid (PB12.out.fr f13 (fun e => e))
          have HA13 := Lib.hid (HA12.out.non f13)
          have HB13 := Lib.hid (HB12.out.non f13)
          have HW13 := Lib.hid (HW12.out.non f13)
          have F13 := Lib.hid (F12.out.trans f13)
          clear g0 g1 g2 g3 g4 g5 g6 g7 g8 d0 d1 d2 d3 d4 d5 d6 d7 d8
          obtain ⟨g0, g1, g2, g3, g4, g5, g6, g7, g8⟩ := pdB_cells PA13.out
          obtain ⟨d0, d1, d2, d3, d4, d5, d6, d7, d8⟩ := pdB_cells PB13.out
          dsimp only at g0 g1 g2 g3 g4 g5 g6 g7 g8 d0 d1 d2 d3 d4 d5 d6 d7 d8
          go_wp2_with fail
          refine hK.out _ _ (by exact ⟨g0, g1, g2, g3, g4, g5, g6, g7, g8, d0, d1, d2, d3, d4, d5, d6, d7, d8⟩) (fun hHeld => ?_)
          clear hK K
          (try simp only [Act.put, List.setIfInBounds_toArray, List.set_cons_zero, List.set_cons_succ])
          refine wpAnyH_take (i := 11) (oi := ⟨some 47, _, _, _, _, none⟩) (v := ?v57) rfl (by kernel_rfl) (by kernel_rfl) (by kernel_rfl) (fun _ _ _ h => h) (Or.inl ⟨by rfl, ?hy57⟩) (by assumption) ?rest57
          case hy57 => (intro wS hSw; (try dsimp only at hSw); go_simp; (try with_reducible rfl))
          (try simp only [Act.put, List.setIfInBounds_toArray, List.set_cons_zero, List.set_cons_succ])
          refine wpAnyH_take (i := 12) (oi := ⟨some 4, _, _, _, _, none⟩) (v := ?v58) rfl (by kernel_rfl) (by kernel_rfl) (by kernel_rfl) (fun _ _ _ h => h) (Or.inl ⟨by rfl, ?hy58⟩) (by assumption) ?rest58
          case hy58 => (intro wS hSw; (try dsimp only at hSw); go_simp; (try with_reducible rfl))
          (try simp only [Act.put, List.setIfInBounds_toArray, List.set_cons_zero, List.set_cons_succ])
          refine wpAnyH_done (by kernel_rfl) ?_ _
          go_wp2
          go_ret
          exact ⟨rfl, F13.out.below⟩
end Go.Proofs.YteagbddejbjmfaaDoor


namespace Go.Proofs.YteagbddejbjmfaaDoor
set_option linter.unusedVariables false
set_option linter.unusedSimpArgs false
set_option maxRecDepth 100000
open Go.ChangeShapes Go.WideShapes Go.ChangeAt Go.RowKit

/-- a call's contract, by what the row says and by what the world's shape says -/
theorem handed_shaped {H : Type} {enc : TypeId × Value → H} {a : Assume} {C : Checked} {os : Os} {f : FuncId} {fn : Func} {s : ChangeSpec} {conds : List PathCond} {apart fresh handsOn again : Bool} {X : World → Array Value → Prop}
    (hX : ∀ (w w' : World) (args : Array Value), w.heap = w'.heap → X w args → X w' args)
    (own : ownKnob C.prog.godebug = none) (started : os.Started) (noInit : C.prog.inits.idxOf? f = none) (hfn : C.prog.funcs[f]? = some fn)
    (witness : ∃ (w : World) (tape : Tape) (i : Input), w.os = os ∧ (w.forCall tape i).Shaped C.prog ∧ i.vars = [] ∧ Input.okWide C.prog (w.forCall tape i) .any w.heap.size f i ∧
      ((s.pre enc C.prog fn conds apart (w.forCall tape i).memory i.args ∧ X (w.forCall tape i).memory i.args) ∧ sizedMet enc C.prog fn (OpenSpec.ofChange s) apart (w.forCall tape i).memory i.args) ∧ a.holds C.prog (lone (Frame.enter C.prog f i.args .normal) [] (w.forCall tape i)))
    (contract : ∀ (W : World) (base : Nat) (args : Array Value) (ds gs : List (DataW H)) (before : List MemPlace),
      (∀ (j : Nat) t v, fn.params[j]? = some t → args[j]? = some v → Value.okWide C.prog W .any base t v) →
      DataW.Whole enc C.prog fn.params.toList s.vars apart W args.toList ds gs before → W.ShapedOpen C.prog → X W args →
      Calls C.prog f args W fun e W' => ∃ v, e = .returned v ∧ s.post enc C.prog fn apart fresh handsOn again W args v W') :
    ReturnsInHanded a C os f .any (fun w args => (s.pre enc C.prog fn conds apart w args ∧ X w args) ∧ sizedMet enc C.prog fn (OpenSpec.ofChange s) apart w args) (s.post enc C.prog fn apart fresh handsOn again) := by
  refine returnsInHanded_of_calls own started noInit witness ?_
  intro w tape i _ hsh _ hok hpre hholds
  obtain ⟨_, _, _, fn', hfn', _, _, _, _, hval⟩ := hok
  obtain rfl : fn' = fn := Option.some.inj (hfn'.symm.trans hfn)
  obtain ⟨⟨⟨ds, gs, before, hw, _⟩, hx⟩, _⟩ := hpre
  refine (contract (w.forCall tape i) w.heap.size i.args ds gs before hval (DataW.Whole.of_heap (w' := w.forCall tape i) (by rfl) hw) hsh (hX _ _ _ (by rfl) hx)).mono fun e W' ⟨v, he, hp⟩ => ?_
  subst he
  exact ChangeSpec.post_blind hp

end Go.Proofs.YteagbddejbjmfaaDoor


namespace Go.Proofs.YteagbddejbjmfaaDoor
set_option linter.unusedVariables false
set_option linter.unusedSimpArgs false
set_option maxRecDepth 100000
open Go.Joins Go.ChangeShapes Go.WideShapes Go.ChangeAt Go.RowKit Go.Deep

/-- a cell within its fields' ranges -/
structure ClWf (c : Cl) : Prop where
  lo : -9223372036854775808 ≤ c.num
  hi : c.num ≤ 9223372036854775807
  len : c.txt.length ≤ 9223372036854775807
end Go.Proofs.YteagbddejbjmfaaDoor


namespace Go.Proofs.YteagbddejbjmfaaDoor
set_option linter.unusedVariables false
set_option linter.unusedSimpArgs false
set_option maxRecDepth 100000
open Go.RowKit

/-- a cell's three values, and those of many -/
def clL (c : Cl) : List Value := [.bool c.null, .int .i64 c.num, .string ⟨c.txt.toArray⟩]
def clsL (l : List Cl) : List Value := l.flatMap clL
theorem clsL_cons (c : Cl) (l : List Cl) : clsL (c :: l) = clL c ++ clsL l := by simp [clsL]
theorem clsL_at (l : List Cl) (j : Nat) (i : Nat) (hj : j < l.length) (hi : i < 3) : (clsL l)[j * 3 + i]? = (clL l[j])[i]? := by
  induction l generalizing j with
  | nil => cases hj
  | cons c l ih =>
    rw [clsL_cons]
    cases j with
    | zero => rw [List.getElem?_append_left (by simp [clL]; omega)]; simp
    | succ j =>
      rw [List.getElem?_append_right (by simp [clL]; omega)]
      rw [show (j + 1) * 3 + i - (clL c).length = j * 3 + i by simp [clL]; omega]
      exact ih j (by simpa using hj)
/-- three cells, one behind the other, that hold c -/
structure At3 (w : World) (a : Addr) (c : Cl) : Prop where
  c0 : w.cell? a = some (.bool c.null)
  c1 : w.cell? (a.add 1) = some (.int .i64 c.num)
  c2 : w.cell? (a.add 2) = some (.string ⟨c.txt.toArray⟩)

/-- the slice v reads as the cells l -/
def Cs (w : World) (v : Value) (l : List Cl) : Prop :=
  ∃ A c, v = .slice A l.length c ∧ l.length ≤ c ∧ (A = none → c = 0) ∧ ∀ a, A = some a → ∀ j (h : j < l.length), At3 w (a.add (j * 3)) l[j]
/-- a row of the call's own, from block B on -/
def Oc (w : World) (B : Nat) (v : Value) (l : List Cl) : Prop := w.ownsRow B 24 3 v l.length (clsL l)

theorem At3.keep {w w' : World} {a : Addr} {c : Cl} (h : At3 w a c) (hk : w'.heap[a.block]? = w.heap[a.block]?) : At3 w' a c := by
  obtain ⟨h0, h1, h2⟩ := h
  exact ⟨by rw [← h0]; exact World.cell?_of_block hk, by rw [← h1]; exact World.cell?_of_block (by rw [add_block]; exact hk), by rw [← h2]; exact World.cell?_of_block (by rw [add_block]; exact hk)⟩

theorem Cs.nil_ (w : World) : Cs w (.slice none 0 0) [] := ⟨none, 0, rfl, Nat.le_refl _, fun _ => rfl, fun _ h => by cases h⟩
theorem Cs.keep {w w' : World} {v : Value} {l : List Cl} (h : Cs w v l) (hk : ∀ k, v.ownBlock = some k → k < w.heap.size → w'.heap[k]? = w.heap[k]?) : Cs w' v l := by
  obtain ⟨A, c, rfl, h1, h2, h3⟩ := h
  refine ⟨A, c, rfl, h1, h2, fun a ha j hj => ?_⟩
  have := h3 a ha j hj
  subst ha
  have hb := World.block_lt_of_cell? w _ this.c0
  refine this.keep ?_
  rw [add_block] at hb ⊢
  exact hk _ rfl hb
theorem Cs.fr {S : Nat → Prop} {w w' : World} {v : Value} {l : List Cl} (h : Cs w v l) (hf : Fr S w w') (hn : ∀ k, v.ownBlock = some k → ¬ S k) : Cs w' v l :=
  h.keep fun k hk hlt => hf.block k hlt (hn k hk)
theorem Cs.non {w w' : World} {v : Value} {l : List Cl} (h : Cs w v l) (hf : Fr Non w w') : Cs w' v l := h.fr hf fun _ _ e => e
theorem Cs.drew {w : World} {v : Value} {l : List Cl} (h : Cs w v l) : Cs w.drew v l := h.keep fun _ _ _ => rfl
theorem Cs.shape {w : World} {v : Value} {l : List Cl} (h : Cs w v l) : ∃ A c, v = .slice A l.length c := by
  obtain ⟨A, c, rfl, _⟩ := h; exact ⟨A, c, rfl⟩
/-- what a walk asks of the element at j -/
theorem Cs.el {w : World} {a : Addr} {n c : Nat} {l : List Cl} (h : Cs w (.slice (some a) n c) l) (j : Nat) (x : Cl) (hx : l[j]? = some x) :
    w.cell? (a.add (j * 3)) = some (.bool x.null) ∧ w.cell? ((a.add (j * 3)).add 1) = some (.int .i64 x.num) ∧ w.cell? ((a.add (j * 3)).add 2) = some (.string ⟨x.txt.toArray⟩) := by
  obtain ⟨A0, c0, he, h1, h2, h3⟩ := h
  simp only [Value.slice.injEq] at he
  obtain ⟨rfl, rfl, rfl⟩ := he
  obtain ⟨hj, rfl⟩ := List.getElem?_eq_some_iff.1 hx
  have := h3 a rfl j hj
  exact ⟨this.c0, this.c1, this.c2⟩

/-- as a walk spells them -/
theorem At3.lit {w : World} {a : Addr} {c : Cl} (h : At3 w a c) : w.cell? a = some (.bool c.null) ∧ w.cell? { block := a.block, off := a.off + 1 } = some (.int .i64 c.num) ∧ w.cell? { block := a.block, off := a.off + 2 } = some (.string ⟨c.txt.toArray⟩) := ⟨h.c0, h.c1, h.c2⟩
theorem Oc.lt {w : World} {B : Nat} {v : Value} {l : List Cl} (h : Oc w B v l) : ∀ k, v.ownBlock = some k → B ≤ k ∧ k < w.heap.size := World.ownsRow.lt h
theorem Oc.cs {w : World} {B : Nat} {v : Value} {l : List Cl} (h : Oc w B v l) : Cs w v l := by
  rcases h.2 with ⟨rfl, h0⟩ | ⟨g, cap, cur, rfl, _, _, hle, _, _, _⟩
  · have hl : l = [] := List.eq_nil_of_length_eq_zero h0
    subst hl; exact Cs.nil_ w
  · refine ⟨_, cap, rfl, hle, (fun h => by cases h), fun a ha j hj => ?_⟩
    cases ha
    have H := fun i hi => World.ownsRow.cells h (g := g) rfl (j * 3 + i) _ ((clsL_at l j i hj hi).trans (List.getElem?_eq_getElem (by simp [clL]; omega)))
    refine ⟨?_, ?_, ?_⟩
    · have := H 0 (by omega); simpa [clL] using this
    · rw [add_add]; have := H 1 (by omega); simpa [clL] using this
    · rw [add_add]; have := H 2 (by omega); simpa [clL] using this
theorem Oc.shape {w : World} {B : Nat} {v : Value} {l : List Cl} (h : Oc w B v l) : ∃ A c, v = .slice A l.length c := h.cs.shape
theorem Oc.keep {w w' : World} {B : Nat} {v : Value} {l : List Cl} (h : Oc w B v l) (hk : ∀ k, v.ownBlock = some k → w'.heap[k]? = w.heap[k]?) : Oc w' B v l := by
  refine ⟨h.1, ?_⟩
  rcases h.2 with h2 | ⟨g, cap, cur, hv, hb, hg, r⟩
  · exact .inl h2
  · exact .inr ⟨g, cap, cur, hv, hb, by rw [hk g (by rw [hv]; rfl)]; exact hg, r⟩
theorem Oc.fr {S : Nat → Prop} {w w' : World} {B : Nat} {v : Value} {l : List Cl} (h : Oc w B v l) (hf : Fr S w w') (hn : ∀ k, v.ownBlock = some k → ¬ S k) : Oc w' B v l :=
  h.keep fun k hk => hf.block k (h.lt k hk).2 (hn k hk)
theorem Oc.non {w w' : World} {B : Nat} {v : Value} {l : List Cl} (h : Oc w B v l) (hf : Fr Non w w') : Oc w' B v l := h.fr hf fun _ _ e => e
theorem Oc.alloc {w : World} {B : Nat} {v : Value} {l : List Cl} (h : Oc w B v l) (o : Obj) : Oc (w.alloc o) B v l := h.non ((Fr.refl _ _).alloc o)
theorem Oc.drew {w : World} {B : Nat} {v : Value} {l : List Cl} (h : Oc w B v l) : Oc w.drew B v l := h
theorem Oc.mono {w : World} {B B' : Nat} {v : Value} {l : List Cl} (h : Oc w B v l) (hB : B' ≤ B) : Oc w B' v l := by
  refine ⟨h.1, ?_⟩
  rcases h.2 with h2 | ⟨g, cap, cur, hv, hb, r⟩
  · exact .inl h2
  · exact .inr ⟨g, cap, cur, hv, by omega, r⟩
theorem Oc.kind {w : World} {B : Nat} {v : Value} {l : List Cl} (h : Oc w B v l) : ∀ k, v.ownBlock = some k → ∃ cur, w.heap[k]? = some (.cells cur 24 (0, 0)) := by
  intro k hk
  rcases h.2 with ⟨rfl, _⟩ | ⟨g, cap, cur, rfl, _, hg, _⟩
  · cases hk
  · obtain rfl : g = k := by simpa [Value.ownBlock] using hk
    exact ⟨cur, hg⟩
theorem Oc.row {w : World} {B : Nat} {v : Value} {l : List Cl} (h : Oc w B v l) (hn : 0 < l.length) : ∃ g cap, v = .slice (some ⟨g, 0, none⟩) l.length cap ∧ B ≤ g ∧ g < w.heap.size ∧ l.length ≤ cap ∧ cap ≤ maxLen := by
  rcases h.2 with ⟨rfl, h0⟩ | ⟨g, cap, cur, rfl, hb, hg, hle, hm, _⟩
  · omega
  · exact ⟨g, cap, rfl, hb, (Array.getElem?_eq_some_iff.1 hg).1, hle, hm⟩
/-- what a walk asks of a row's element at j -/
theorem Oc.el {w : World} {B g n cap : Nat} {l : List Cl} (h : Oc w B (.slice (some ⟨g, 0, none⟩) n cap) l) (hn : n = l.length) (j : Nat) (x : Cl) (hx : l[j]? = some x) :
    w.cell? ⟨g, j * 3, none⟩ = some (.bool x.null) ∧ w.cell? ⟨g, j * 3 + 1, none⟩ = some (.int .i64 x.num) ∧ w.cell? ⟨g, j * 3 + 2, none⟩ = some (.string ⟨x.txt.toArray⟩) := by
  subst hn
  obtain ⟨hj, rfl⟩ := List.getElem?_eq_some_iff.1 hx
  refine ⟨?_, ?_, ?_⟩
  · rw [World.ownsRow.cellAt h (j * 3) (by omega)]; have := clsL_at l j 0 hj (by omega); simpa [clL] using this
  · rw [World.ownsRow.cellAt h (j * 3 + 1) (by omega)]; have := clsL_at l j 1 hj (by omega); simpa [clL] using this
  · rw [World.ownsRow.cellAt h (j * 3 + 2) (by omega)]; have := clsL_at l j 2 hj (by omega); simpa [clL] using this
theorem Oc.frozen {w : World} {B g n cap : Nat} {l : List Cl} (h : Oc w B (.slice (some ⟨g, 0, none⟩) n cap) l) (hn : n = l.length) (j : Nat) : w.frozen? ⟨g, j, none⟩ = false := by
  subst hn; exact World.ownsRow.frozenAt h j
/-! ### Steps -/
end Go.Proofs.YteagbddejbjmfaaDoor


namespace Go.Proofs.YteagbddejbjmfaaDoor
set_option linter.unusedVariables false
set_option linter.unusedSimpArgs false
set_option maxRecDepth 100000
open Go.Joins Go.ChangeShapes Go.WideShapes Go.ChangeAt Go.RowKit Go.Deep

theorem cof_bool : Tryd.prog.cellsOf 4 = 1 := by kernel_rfl
theorem cof_i64 : Tryd.prog.cellsOf 2 = 1 := by kernel_rfl
theorem cof_int : Tryd.prog.cellsOf 3 = 1 := by kernel_rfl
theorem cof_str : Tryd.prog.cellsOf 9 = 1 := by kernel_rfl
theorem cof_cl : Tryd.prog.cellsOf 24 = 3 := by kernel_rfl
/-- three cells that are read as a cell -/
theorem cl_cells {H : Type} {enc : TypeId × Value → H} {W : World} {n : Nat} {x : DataW H × List MemPlace} {c2 c3 c4 : Value}
    (h : DataW.trod enc Tryd.prog W 0 (fun _ => true) true n 24 [c2, c3, c4] = some x) : ∃ c : Cl, c2 = .bool c.null ∧ c3 = .int .i64 c.num ∧ c4 = .string ⟨c.txt.toArray⟩ ∧ ClWf c := by
  obtain ⟨y0, y1, y2, m, rfl, _, h0, h1, h2⟩ := trod_struct3 Tryd.underlying24 h
  simp only [cof_bool, cof_i64, cof_str, List.drop_zero, List.drop_succ_cons, List.take_succ_cons, List.take_zero] at h0 h1 h2
  obtain ⟨b, e0, _⟩ := DataW.trod_bool Tryd.underlying4 h0
  obtain rfl := (List.cons.inj e0).1
  obtain ⟨i, e1, _, hi⟩ := DataW.trod_int Tryd.underlying2 h1
  obtain rfl := (List.cons.inj e1).1
  obtain ⟨s, e2, _, hs⟩ := DataW.trod_string Tryd.underlying9 h2
  obtain rfl := (List.cons.inj e2).1
  have hb := wf_i64_bd hi
  exact ⟨⟨b, i, s.data.toList⟩, rfl, rfl, by simp, ⟨hb.1, hb.2, by simpa [maxLen] using hs⟩⟩
end Go.Proofs.YteagbddejbjmfaaDoor
