/-
  Joined: Layer 17: which predicates may be, if those within them may, the program's. · Layer 17: what is asked of a predicate and of all within it: the function that calls itself, over any closure; the first of the three closures; May. · Layer 17: May, the program's. · A map of texts to whole numbers of the call's own: which texts it has, and how many; made, written, counted. · Layer 12: which columns a table may have, the program's. · Layer 17: Fits, the program's. · Layer 20: two values compared, a text matched, a row's value in a column; the document's comparison. · Layer 17: which predicates may be, the document's. · Layer 20: what a predicate is of a row, the program's.
-/
import Derived.Lib.Zigzag
import Derived.Deep.RegionWith
import Derived.Deep.RegionHeld3
import Derived.Deep.QuietTactic
import Derived.BigQuiet
import Derived.Test.YtnbhgkolfapblaaZ2
import Derived.Test.YtnbhgkolfapblaaZ1
import Derived.Maps.OwnSet
import Derived.Maps.OwnOps

namespace Go.Proofs.Ytnbhgkolfapblaa
set_option linter.unusedVariables false
set_option linter.unusedSimpArgs false
set_option maxRecDepth 100000
open Go.RowKit

theorem kidOp_more {op : Int} {ks : List Pd} {k : Nat} (h : k < ks.length) (h1 : (ks.take k).any (fun x => x.hd.op == op) = false) (h2 : (ks[k].hd.op == op) = false) : (ks.take (k + 1)).any (fun x => x.hd.op == op) = false := by
  rw [List.take_succ_eq_append_getElem h, List.any_append, h1]; simp [h2]
set_option maxHeartbeats 2000000 in
theorem pidx_any (s : Kv) (ks : List Pd) (op : Int) (g : Nat) (w : World) (hk : Kd w s ks) (hg : Blk w g 3 #[.int .i64 op]) (hl : ks.length ≤ 1000000000) :
    Calls Try.prog 81 #[kidV s, .func (.func 71) #[] #[.pointer (some ⟨g, 0, none⟩)]] w fun e w' => ∃ z : Int, e = .returned (.int .i64 z) ∧ decide (0 ≤ z) = kidOp op ks ∧ Fr Non w w' := by
  have hn := hk.len
  have HK := Lib.hid hk
  have HG := Lib.hid hg
  clear hk hg
  obtain ⟨A, n, c⟩ := s
  dsimp only at hn
  subst hn
  unfold kidV
  dsimp only
  go_enter Try.func81, Try.ntmps81
  go_wp2
  go_loopw [8] (fun i wr => ∃ (k : Nat), k ≤ ks.length ∧ i = .int .i64 k ∧ Hid ((ks.take k).any (fun x => x.hd.op == op) = false) ∧ Fr Non w wr) (fun i _ => ks.length - (intOf i).toNat)
  case atStart => exact ⟨0, Nat.zero_le _, rfl, Lib.hid rfl, Fr.refl _ _⟩
  case round =>
    obtain ⟨k, hk, rfl, hne, hfr⟩ := hrel
    by_cases hlt : k < ks.length
    · obtain ⟨a, t, hA, hc, _, _⟩ := (HK.out.non hfr).el k hlt
      dsimp only at hA
      subst hA
      obtain ⟨c0, c1, c2, c3, c4, c5, c6, c7, c8⟩ := hc
      have HY := Lib.hid (fun h => kidOp_more hlt hne.out h)
      have HX : Hid ((ks[k].hd.op == op) = true → kidOp op ks = true) := Lib.hid (fun h => List.any_eq_true.2 ⟨_, List.getElem_mem hlt, h⟩)
      have M := fun W h => haskid1_any ks[k].hd t op g W h
      have HB := Lib.hid (HG.out.fr hfr (fun e => e))
      clear hne
      generalize ks[k].hd = x at *
      obtain ⟨xo, xc, xm, ⟨xn, xi, xt⟩, xk, xp⟩ := x
      obtain ⟨tA, tn, tc⟩ := t
      unfold pdV pdC kidV at M
      dsimp only at c0 c1 c2 c3 c4 c5 c6 c7 c8 HY HX M
      have HF := Lib.hid hfr
      clear hfr
      cases hx : (xo == op)
      · have HE := Lib.hid (HY.out hx)
        simp only [hx] at M
        replace M := Lib.hid M
        clear HX HY hx
        go_wp2_with fail
        refine (M.out _ HB.out).mono ?_
        rintro e w2 ⟨rfl, f2⟩
        go_wp2
        go_roundw
        case rel => exact ⟨k + 1, by omega, by go_num, HE, HF.out.trans f2⟩
        case measure => simp [intOf]; omega
      · have HE := Lib.hid (HX.out hx)
        simp only [hx] at M
        replace M := Lib.hid M
        clear HX HY hx
        go_wp2_with fail
        refine (M.out _ HB.out).mono ?_
        rintro e w2 ⟨rfl, f2⟩
        go_wp2
        go_ret
        exact ⟨_, rfl, by rw [HE.out]; exact decide_eq_true (by omega), HF.out.trans f2⟩
    · have HE : Hid (kidOp op ks = false) := Lib.hid (by have := hne.out; rwa [List.take_of_length_le (by omega)] at this)
      clear hne
      go_wp2
      go_ret
      exact ⟨_, rfl, by rw [HE.out]; rfl, hfr⟩
theorem pcont_any (s : Kv) (ks : List Pd) (op : Int) (g : Nat) (w : World) (hk : Kd w s ks) (hg : Blk w g 3 #[.int .i64 op]) (hl : ks.length ≤ 1000000000) :
    Calls Try.prog 70 #[kidV s, .func (.func 71) #[] #[.pointer (some ⟨g, 0, none⟩)]] w fun e w' => e = .returned (.bool (kidOp op ks)) ∧ Fr Non w w' := by
  have h0 := Lib.hid (pidx_any s ks op g w hk hg hl)
  clear hk hg
  obtain ⟨A, n, c⟩ := s
  unfold kidV at *
  dsimp only at *
  go_enter Try.func70, Try.ntmps70
  go_wp2_with fail
  refine h0.out.mono ?_
  rintro e w1 ⟨z, rfl, hz, f1⟩
  go_wp2
  go_ret
  exact ⟨rfl, f1⟩
theorem haskid_any (h : Ph) (s : Kv) (ks : List Pd) (op : Int) (w : World) (hk : Kd w s ks) (hl : ks.length ≤ 1000000000) :
    Calls Try.prog 58 #[pdV h s, .int .i64 op] w fun e w' => e = .returned (.bool (kidOp op ks)) ∧ Fr Non w w' := by
  have F0 : Hid (Fr Non w ((w.alloc (.cells (pdC h s) 27)).alloc (.cells #[.int .i64 op] 3))) := Lib.hid (((Fr.refl Non w).alloc _).alloc _)
  have e1 : (w.alloc (.cells (pdC h s) 27)).heap.size = w.heap.size + 1 := by simp
  have b2 := Blk.new (w.alloc (.cells (pdC h s) 27)) 3 #[.int .i64 op]
  rw [e1] at b2
  have C1 := Lib.hid (pcont_any s ks op _ _ (hk.non F0.out) b2 hl)
  have hmf : ∀ (fn : Fn) (first cap : Array Value) (w : World), (Instr.makeFunc fn first cap).run Try.prog w = .ok (.func fn first cap) w := fun _ _ _ _ => rfl
  clear hk b2 e1
  obtain ⟨ho, hc, hm, ⟨hn, hi, ht⟩, hk', hp⟩ := h
  obtain ⟨A, n, c⟩ := s
  unfold pdV pdC kidV at *
  dsimp only at *
  go_enter Try.func58, Try.ntmps58
  go_wp2_with fail
  refine C1.out.mono ?_
  rintro e w1 ⟨rfl, f1⟩
  go_wp2
  go_ret
  exact ⟨rfl, F0.out.trans f1⟩

/-! ### One alone -/
theorem hd_one {h : Ph} {ks : List Pd} (e : h.op = 1) : hdOk h ks = (decide (ks.length = 0) && peq h ⟨h.op, [], 0, zCl, 0, []⟩) := by unfold hdOk; rw [if_pos e]; rfl
theorem hd_ask {h : Ph} {ks : List Pd} (e : h.op = 2 ∨ h.op = 3 ∨ h.op = 4) : hdOk h ks = (decide (ks.length = 0) && askOk h) := by unfold hdOk; rw [if_neg (by omega), if_pos e]
theorem hd_not {h : Ph} {ks : List Pd} (e : h.op = 5) : hdOk h ks = (decide (ks.length = 1) && peq h ⟨h.op, [], 0, zCl, 0, []⟩) := by unfold hdOk; rw [if_neg (by omega), if_neg (by omega), if_pos e]; rfl
theorem hd_two {h : Ph} {ks : List Pd} (e : h.op = 6 ∨ h.op = 7) : hdOk h ks = (decide (1 < ks.length) && peq h ⟨h.op, [], 0, zCl, 0, []⟩ && !kidOp h.op ks) := by unfold hdOk; rw [if_neg (by omega), if_neg (by omega), if_neg (by omega), if_pos e]; rfl
theorem hd_none {h : Ph} {ks : List Pd} (h1 : ¬ h.op = 1) (h2 : ¬ (h.op = 2 ∨ h.op = 3 ∨ h.op = 4)) (h3 : ¬ h.op = 5) (h4 : ¬ (h.op = 6 ∨ h.op = 7)) : hdOk h ks = false := by unfold hdOk; rw [if_neg h1, if_neg h2, if_neg h3, if_neg h4]

set_option maxHeartbeats 4000000 in
theorem alone_any (h : Ph) (s : Kv) (ks : List Pd) (w : World) (hk : Kd w s ks) (hl : ks.length ≤ 1000000000) (hc : h.col.length ≤ 1000000000) :
    Calls Try.prog 38 #[pdV h s] w fun e w' => e = .returned (.bool (hdOk h ks)) ∧ Fr Non w w' := by
  have hn := hk.len
  have B0 := Lib.hid (pd_new w _ h s rfl)
  have F0 : Hid (Fr Non w _) := Lib.hid ((Fr.refl Non w).alloc (.cells (pdC h s) 27))
  have HK := Lib.hid (hk.non F0.out)
  have A1 := Lib.hid (fun W => alike_any h ⟨h.op, [], 0, zCl, 0, []⟩ s noKv W)
  have A2 := Lib.hid (fun W => mayask_any h s W hc)
  have A3 := Lib.hid (fun W hk => haskid_any h s ks h.op W hk hl)
  have H1 := Lib.hid (fun e => hd_one (h := h) (ks := ks) e)
  have H2 := Lib.hid (fun e => hd_ask (h := h) (ks := ks) e)
  have H3 := Lib.hid (fun e => hd_not (h := h) (ks := ks) e)
  have H4 := Lib.hid (fun e => hd_two (h := h) (ks := ks) e)
  have H5 := Lib.hid (fun a b c d => hd_none (h := h) (ks := ks) a b c d)
  clear hk
  obtain ⟨op, col, cmp, ⟨vn, vi, vt⟩, kind, pat⟩ := h
  obtain ⟨sA, n, sc⟩ := s
  dsimp only at hn
  have HL := Lib.hid hn
  clear hn
  unfold pdV pdC kidV at *
  unfold noKv at A1
  unfold zCl at A1 H1 H3 H4
  dsimp only at *
  by_cases h1 : op = 1
  · subst h1
    have HE := Lib.hid (H1.out rfl)
    clear H1 H2 H3 H4 H5 A2 A3 HK
    by_cases h0 : n = 0
    · subst h0
      have HE2 := Lib.hid (decide_eq_true HL.out.symm)
      go_enter Try.func38, Try.ntmps38
      go_wp2_with fail
      refine (A1.out _).mono ?_
      rintro e w1 ⟨rfl, f1⟩
      go_wp2
      go_ret
      exact ⟨ret_boolE (by rw [HE.out, HE2.out]; rfl), F0.out.trans f1⟩
    · have hb : ((n : Int) == 0) = false := by rw [beq_eq_false_iff_ne]; omega
      have HE2 : Hid (decide (ks.length = 0) = false) := Lib.hid (decide_eq_false (fun e => h0 (HL.out.trans e)))
      clear h0
      go_enter Try.func38, Try.ntmps38
      go_wp2
      go_ret
      exact ⟨ret_boolE (by rw [HE.out, HE2.out]; rfl), F0.out⟩
  · by_cases h2 : op = 2
    · subst h2
      have HE := Lib.hid (H2.out (by omega))
      clear H1 H2 H3 H4 H5 A1 A3 HK
      by_cases h0 : n = 0
      · subst h0
        have HE2 := Lib.hid (decide_eq_true HL.out.symm)
        go_enter Try.func38, Try.ntmps38
        go_wp2_with fail
        refine (A2.out _).mono ?_
        rintro e w1 ⟨rfl, f1⟩
        go_wp2
        go_ret
        exact ⟨ret_boolE (by rw [HE.out, HE2.out]; rfl), F0.out.trans f1⟩
      · have hb : ((n : Int) == 0) = false := by rw [beq_eq_false_iff_ne]; omega
        have HE2 : Hid (decide (ks.length = 0) = false) := Lib.hid (decide_eq_false (fun e => h0 (HL.out.trans e)))
        clear h0
        go_enter Try.func38, Try.ntmps38
        go_wp2
        go_ret
        exact ⟨ret_boolE (by rw [HE.out, HE2.out]; rfl), F0.out⟩
    · by_cases h3 : op = 3
      · subst h3
        have HE := Lib.hid (H2.out (by omega))
        clear H1 H2 H3 H4 H5 A1 A3 HK
        by_cases h0 : n = 0
        · subst h0
          have HE2 := Lib.hid (decide_eq_true HL.out.symm)
          go_enter Try.func38, Try.ntmps38
          go_wp2_with fail
          refine (A2.out _).mono ?_
          rintro e w1 ⟨rfl, f1⟩
          go_wp2
          go_ret
          exact ⟨ret_boolE (by rw [HE.out, HE2.out]; rfl), F0.out.trans f1⟩
        · have hb : ((n : Int) == 0) = false := by rw [beq_eq_false_iff_ne]; omega
          have HE2 : Hid (decide (ks.length = 0) = false) := Lib.hid (decide_eq_false (fun e => h0 (HL.out.trans e)))
          clear h0
          go_enter Try.func38, Try.ntmps38
          go_wp2
          go_ret
          exact ⟨ret_boolE (by rw [HE.out, HE2.out]; rfl), F0.out⟩
      · by_cases h4 : op = 4
        · subst h4
          have HE := Lib.hid (H2.out (by omega))
          clear H1 H2 H3 H4 H5 A1 A3 HK
          by_cases h0 : n = 0
          · subst h0
            have HE2 := Lib.hid (decide_eq_true HL.out.symm)
            go_enter Try.func38, Try.ntmps38
            go_wp2_with fail
            refine (A2.out _).mono ?_
            rintro e w1 ⟨rfl, f1⟩
            go_wp2
            go_ret
            exact ⟨ret_boolE (by rw [HE.out, HE2.out]; rfl), F0.out.trans f1⟩
          · have hb : ((n : Int) == 0) = false := by rw [beq_eq_false_iff_ne]; omega
            have HE2 : Hid (decide (ks.length = 0) = false) := Lib.hid (decide_eq_false (fun e => h0 (HL.out.trans e)))
            clear h0
            go_enter Try.func38, Try.ntmps38
            go_wp2
            go_ret
            exact ⟨ret_boolE (by rw [HE.out, HE2.out]; rfl), F0.out⟩
        · by_cases h5 : op = 5
          · subst h5
            have HE := Lib.hid (H3.out rfl)
            clear H1 H2 H3 H4 H5 A2 A3 HK
            by_cases h0 : n = 1
            · subst h0
              have HE2 := Lib.hid (decide_eq_true HL.out.symm)
              go_enter Try.func38, Try.ntmps38
              go_wp2_with fail
              refine (A1.out _).mono ?_
              rintro e w1 ⟨rfl, f1⟩
              go_wp2
              go_ret
              exact ⟨ret_boolE (by rw [HE.out, HE2.out]; rfl), F0.out.trans f1⟩
            · have hb : ((n : Int) == 1) = false := by rw [beq_eq_false_iff_ne]; omega
              have HE2 : Hid (decide (ks.length = 1) = false) := Lib.hid (decide_eq_false (fun e => h0 (HL.out.trans e)))
              clear h0
              go_enter Try.func38, Try.ntmps38
              go_wp2
              go_ret
              exact ⟨ret_boolE (by rw [HE.out, HE2.out]; rfl), F0.out⟩
          · by_cases h6 : op = 6
            · subst h6
              have HE := Lib.hid (H4.out (by omega))
              clear H1 H2 H3 H4 H5 A2
              by_cases h0 : 1 < n
              · have HE2 : Hid (decide (1 < ks.length) = true) := Lib.hid (decide_eq_true (by have := HL.out; omega))
                generalize hq : peq ⟨6, col, cmp, ⟨vn, vi, vt⟩, kind, pat⟩ _ = q at *
                clear hq
                go_enter Try.func38, Try.ntmps38
                go_wp2_with fail
                refine (A1.out _).mono ?_
                rintro e w1 ⟨rfl, f1⟩
                obtain ⟨g0, g1, g2, g3, g4, g5, g6, g7, g8⟩ := pdB_cells (B0.out.fr f1 (fun e => e))
                dsimp only at g0 g1 g2 g3 g4 g5 g6 g7 g8
                have HK1 := Lib.hid (HK.out.non f1)
                have F1 := Lib.hid (F0.out.trans f1)
                clear f1 F0 B0
                cases q
                · go_wp2
                  go_ret
                  exact ⟨ret_boolE (by rw [HE.out, HE2.out]; rfl), F1.out⟩
                · go_wp2_with fail
                  refine (A3.out _ HK1.out).mono ?_
                  rintro e w2 ⟨rfl, f2⟩
                  go_wp2
                  go_ret
                  exact ⟨ret_boolE (by rw [HE.out, HE2.out]; rfl), F1.out.trans f2⟩
              · have HE2 : Hid (decide (1 < ks.length) = false) := Lib.hid (decide_eq_false (by have := HL.out; omega))
                clear A1 A3
                go_enter Try.func38, Try.ntmps38
                go_wp2
                go_ret
                exact ⟨ret_boolE (by rw [HE.out, HE2.out]; rfl), F0.out⟩
            · by_cases h7 : op = 7
              · subst h7
                have HE := Lib.hid (H4.out (by omega))
                clear H1 H2 H3 H4 H5 A2
                by_cases h0 : 1 < n
                · have HE2 : Hid (decide (1 < ks.length) = true) := Lib.hid (decide_eq_true (by have := HL.out; omega))
                  generalize hq : peq ⟨7, col, cmp, ⟨vn, vi, vt⟩, kind, pat⟩ _ = q at *
                  clear hq
                  go_enter Try.func38, Try.ntmps38
                  go_wp2_with fail
                  refine (A1.out _).mono ?_
                  rintro e w1 ⟨rfl, f1⟩
                  obtain ⟨g0, g1, g2, g3, g4, g5, g6, g7, g8⟩ := pdB_cells (B0.out.fr f1 (fun e => e))
                  dsimp only at g0 g1 g2 g3 g4 g5 g6 g7 g8
                  have HK1 := Lib.hid (HK.out.non f1)
                  have F1 := Lib.hid (F0.out.trans f1)
                  clear f1 F0 B0
                  cases q
                  · go_wp2
                    go_ret
                    exact ⟨ret_boolE (by rw [HE.out, HE2.out]; rfl), F1.out⟩
                  · go_wp2_with fail
                    refine (A3.out _ HK1.out).mono ?_
                    rintro e w2 ⟨rfl, f2⟩
                    go_wp2
                    go_ret
                    exact ⟨ret_boolE (by rw [HE.out, HE2.out]; rfl), F1.out.trans f2⟩
                · have HE2 : Hid (decide (1 < ks.length) = false) := Lib.hid (decide_eq_false (by have := HL.out; omega))
                  clear A1 A3
                  go_enter Try.func38, Try.ntmps38
                  go_wp2
                  go_ret
                  exact ⟨ret_boolE (by rw [HE.out, HE2.out]; rfl), F0.out⟩
              · have HE := Lib.hid (H5.out h1 (by omega) h5 (by omega))
                clear H1 H2 H3 H4 H5 A1 A2 A3 HK B0
                go_enter Try.func38, Try.ntmps38
                go_wp2
                go_ret
                exact ⟨ret_boolE HE.out.symm, F0.out⟩
end Go.Proofs.Ytnbhgkolfapblaa


namespace Go.Proofs.Ytnbhgkolfapblaa
set_option linter.unusedVariables false
set_option linter.unusedSimpArgs false
set_option maxRecDepth 100000
open Go.RowKit

theorem lenP_mk {h : Ph} {ks : List Pd} (e : lenP (.mk h ks) = true) : ks.length ≤ 20 ∧ h.col.length ≤ 100 ∧ h.pat.length ≤ 100 ∧ h.val.txt.length ≤ 100 ∧ ∀ k ∈ ks, lenP k = true := by
  rw [lenP, Bool.and_eq_true, lenL_all] at e
  unfold lenH at e
  have e1 := of_decide_eq_true e.1
  exact ⟨e1.1, e1.2.1, e1.2.2.1, e1.2.2.2, List.all_eq_true.1 e.2⟩
theorem allL_at {σ : Type} {f : σ → Pd → Nat → Option σ} {ks : List Pd} {k : Nat} (h : k < ks.length) (s : σ) (d : Nat) : allL f (ks.drop k) s d = (allP f ks[k] s d).bind fun s' => allL f (ks.drop (k + 1)) s' d := by
  rw [List.drop_eq_getElem_cons h, allL]
theorem allL_end {σ : Type} {f : σ → Pd → Nat → Option σ} {ks : List Pd} {k : Nat} (h : ks.length ≤ k) (s : σ) (d : Nat) : allL f (ks.drop k) s d = some s := by
  rw [List.drop_eq_nil_of_le h, allL]

/-- how an asking ends: by what f says; of the old blocks those of X may have changed -/
def AskEnd {σ : Type} (R : World → σ → (Nat → Prop) → Prop) (r : Option σ) (X : Nat → Prop) (W : World) (e : Ending) (w' : World) : Prop :=
  e = .returned (.bool r.isSome) ∧ Fr X W w' ∧ ∀ s', r = some s' → ∃ X', R w' s' X' ∧ ∀ q, X' q → X q ∨ W.heap.size ≤ q
/-- what the function asked does -/
def Asks {σ : Type} (R : World → σ → (Nat → Prop) → Prop) (f : σ → Pd → Nat → Option σ) (F g : Nat) (w0 : World) : Prop :=
  ∀ (W : World) (s : σ) (X : Nat → Prop) (p : Pd) (t : Kv) (d : Nat) (dz : Int), dz = d → Fr Non w0 W → R W s X → Kd w0 t p.kids → I64b p.hd.val.num → bigP p = true → d + depP p ≤ 1000 →
    Calls Try.prog F #[pdV p.hd t, .int .i64 dz, .pointer (some ⟨g, 0, none⟩)] W (AskEnd R (f s p d) X W)
set_option maxHeartbeats 4000000 in
theorem all_any {σ : Type} (R : World → σ → (Nat → Prop) → Prop) (f : σ → Pd → Nat → Option σ) (F g : Nat) (w0 : World)
    (hlt : ∀ W s X, R W s X → ∀ q, X q → w0.heap.size ≤ q ∧ q < W.heap.size) (hR : ∀ W W' s X, R W s X → Fr Non W W' → R W' s X) (hcf : ∀ args W, (callFunc F args).run Try.prog W = .ok (.enter F args) W) (hask : Asks R f F g w0) (p : Pd) :
    ∀ (W : World) (s : σ) (X : Nat → Prop) (t : Kv) (d : Nat) (dz : Int), dz = d → Fr Non w0 W → R W s X → Kd w0 t p.kids → I64b p.hd.val.num → bigP p = true → d + depP p ≤ 1000 →
    Calls Try.prog 24 #[pdV p.hd t, .int .i64 dz, .func (.func F) #[] #[.pointer (some ⟨g, 0, none⟩)]] W (AskEnd R (allP f p s d) X W) := by
  induction p using Pd.ind with
  | h hd ks ih =>
    intro W s X t d dz hdz hF hr hk hb hlen hdep
    subst hdz
    have hn : t.n = ks.length := hk.len
    have hls := (bigP_mk hlen).1
    have hdd : d ≤ 999 := by have := dep_pos (.mk hd ks); omega
    have F1 : Fr Non W (W.alloc (.cells (pdC hd t) 27)) := (Fr.refl Non W).alloc _
    have hr1 := hR _ _ _ _ hr F1
    have A1 := hask _ s X (.mk hd ks) t d (d : Int) rfl (hF.trans F1) hr1 hk hb hlen hdep
    have hXb : ¬ X W.heap.size := fun h => by have := (hlt _ _ _ hr _ h).2; omega
    have B0 := Lib.hid (pd_new W _ hd t rfl)
    have HS : Hid (allP f (.mk hd ks) s d = (f s (.mk hd ks) d).bind fun s' => allL f ks s' (d + 1)) := Lib.hid (by rw [allP])
    generalize f s (.mk hd ks) d = r at *
    generalize allP f (.mk hd ks) s d = r0 at *
    have IH : Hid (∀ k (h : k < ks.length) (W' : World) (s' : σ) (X' : Nat → Prop) (t' : Kv), Fr Non w0 W' → R W' s' X' → Kd w0 t' ks[k].kids → I64b ks[k].hd.val.num →
        Calls Try.prog 24 #[pdV ks[k].hd t', .int .i64 ((d : Int) + 1), .func (.func F) #[] #[.pointer (some ⟨g, 0, none⟩)]] W' (AskEnd R (allP f ks[k] s' (d + 1)) X' W')) :=
      Lib.hid (fun k h W' s' X' t' a b c e => ih _ (List.getElem_mem h) W' s' X' t' (d + 1) _ (by simp) a b c e ((bigP_mk hlen).2.2.2.2 _ (List.getElem_mem h)) (by
        rw [depP] at hdep
        have := depL_mem (List.getElem_mem h)
        omega))
    have HKd : Hid (Kd w0 t ks) := Lib.hid hk
    have HF := Lib.hid hF
    have HLT := Lib.hid hlt
    have HR := Lib.hid hR
    have HR0 := Lib.hid hr
    have HF1 := Lib.hid F1
    clear ih hk hb hlen hdep hask hlt hR hr hr1 hF F1
    obtain ⟨ho, hc, hm, ⟨vn, vi, vt⟩, hkd, hp⟩ := hd
    obtain ⟨A, n, c⟩ := t
    dsimp only at hn
    subst hn
    unfold pdV pdC kidV at A1 ⊢
    dsimp only [Pd.hd, Pd.kids] at A1 ⊢
    have A1 := Lib.hid A1
    go_enter Try.func24, Try.ntmps24
    go_wp2_with fail
    refine A1.out.mono ?_
    rintro e w1 ⟨rfl, f1, hs1⟩
    have HS1 := Lib.hid hs1
    have g8 := (B0.out.fr f1 hXb).cell 8
    simp [pdC, kidV] at g8
    have FX : Hid (Fr X W w1) := Lib.hid (HF1.out.any.trans f1)
    have hsz : W.heap.size ≤ w1.heap.size := FX.out.size
    clear hs1 f1 A1 hXb
    cases r with
    | none =>
      have HE : Hid (r0 = none) := Lib.hid (by rw [HS.out]; rfl)
      go_wp2
      go_ret
      exact ⟨by rw [HE.out]; rfl, FX.out, fun s' h => by rw [HE.out] at h; cases h⟩
    | some s1 =>
      have HE : Hid (r0 = allL f ks s1 (d + 1)) := Lib.hid (by rw [HS.out]; rfl)
      clear HS
      obtain ⟨X1, hr1, hx1⟩ := HS1.out s1 rfl
      have hx2 : ∀ q, X1 q → X q ∨ W.heap.size ≤ q := fun q hq => (hx1 q hq).imp id (fun h => Nat.le_trans HF1.out.size h)
      clear hx1 HS1
      have HR1 := Lib.hid hr1
      have HX2 := Lib.hid hx2
      clear hr1 hx2
      go_wp2
      go_loopw [17] (fun i wr => ∃ (k : Nat) (sk : σ) (Xk : Nat → Prop), k ≤ ks.length ∧ i = .int .i64 k ∧ Hid (r0 = allL f (ks.drop k) sk (d + 1)) ∧ Hid (R wr sk Xk) ∧ Hid (Fr X W wr) ∧ Hid (∀ q, Xk q → X q ∨ W.heap.size ≤ q)) (fun i _ => ks.length - (intOf i).toNat)
      case atStart => exact ⟨0, s1, X1, Nat.zero_le _, rfl, HE, HR1, FX, HX2⟩
      case round =>
        clear HE HR1 FX HX2 g8 hsz
        obtain ⟨k, sk, Xk, hk, rfl, HE, HR1, FX, HX2⟩ := hrel
        have hFw : Hid (Fr Non w0 wr) := Lib.hid (HF.out.join FX.out (fun q hq h => absurd (HLT.out _ _ _ HR0.out q h).1 (by omega)))
        by_cases hlt : k < ks.length
        · obtain ⟨a, t, hA, hc2, hkk, hbb⟩ := HKd.out.el k hlt
          have hc3 : PCells wr (a.add (k * 9)) ks[k].hd t := by
            obtain ⟨a', t', hA', hc', _, _⟩ := (HKd.out.non hFw.out).el k hlt
            dsimp only at hA hA'
            obtain rfl := Option.some.inj (hA.symm.trans hA')
            have e : t' = t := by
              have x1 := hc'.2.2.2.2.2.2.2.2
              have x2 := hc2.2.2.2.2.2.2.2.2
              have hbl : (a.add (k * 9)).block < w0.heap.size := World.block_lt_of_cell? w0 _ hc2.1
              have x3 := hFw.out.cell (p := { block := (a.add (k * 9)).block, off := (a.add (k * 9)).off + 8 }) hbl (fun e => e)
              rw [x3, x2] at x1
              simp only [Option.some.injEq, Value.slice.injEq] at x1
              obtain ⟨y1, y2, y3⟩ := x1
              cases t; cases t'; simp_all
            rw [e] at hc'; exact hc'
          clear hc2
          dsimp only at hA
          subst hA
          obtain ⟨c0, c1, c2, c3, c4, c5, c6, c7, c8⟩ := hc3
          have HC := Lib.hid (fun W' s' X' a b => IH.out k hlt W' s' X' t a b hkk hbb)
          have HY := Lib.hid (HE.out.trans (allL_at hlt sk (d + 1)))
          clear hkk hbb HE
          generalize allP f ks[k] = ff at *
          generalize ks[k].hd = x at *
          obtain ⟨xo, xc, xm, ⟨xn, xi, xt⟩, xk, xp⟩ := x
          obtain ⟨tA, tn, tc⟩ := t
          dsimp only at c0 c1 c2 c3 c4 c5 c6 c7 c8
          have G1 := Lib.hid ((Fr.refl Non wr).alloc (.cells #[.int .i64 xo, .string ⟨xc.toArray⟩, .int .i64 xm, .bool xn, .int .i64 xi, .string ⟨xt.toArray⟩, .int .i64 xk, .string ⟨xp.toArray⟩, .slice tA tn tc] 27))
          have HC2 := Lib.hid (HC.out _ sk Xk (hFw.out.trans G1.out) (HR.out _ _ _ _ HR1.out G1.out))
          have hXl := HLT.out _ _ _ HR1.out
          have HXl := Lib.hid hXl
          clear HC hXl
          unfold pdV pdC kidV at HC2
          dsimp only at HC2
          generalize ff sk (d + 1) = rr at *
          go_wp2_with fail
          refine HC2.out.mono ?_
          rintro e w2 ⟨rfl, f2, hs2⟩
          have HS2 := Lib.hid hs2
          have FX2 : Hid (Fr X W w2) := Lib.hid (FX.out.join (G1.out.any.trans f2) (fun q hq h => by
            rcases HX2.out q h with h | h
            · exact h
            · omega))
          have hsz2 : W.heap.size ≤ wr.heap.size := FX.out.size
          clear hs2 f2 HC2
          cases rr with
          | none =>
            have HE : Hid (r0 = none) := Lib.hid HY.out
            clear HY HS2
            go_wp2
            go_ret
            exact ⟨by rw [HE.out]; rfl, FX2.out, fun s' h => by rw [HE.out] at h; cases h⟩
          | some s2 =>
            obtain ⟨X2, hr2, hx2⟩ := HS2.out s2 rfl
            have HE : Hid (r0 = allL f (ks.drop (k + 1)) s2 (d + 1)) := Lib.hid HY.out
            have HR2 := Lib.hid hr2
            have HX3 : Hid (∀ q, X2 q → X q ∨ W.heap.size ≤ q) := Lib.hid (fun q hq => by
              rcases hx2 q hq with h | h
              · exact HX2.out q h
              · refine .inr (Nat.le_trans hsz2 (Nat.le_trans G1.out.size h)))
            clear HY HS2 hr2 hx2
            go_wp2
            go_roundw
            case rel => exact ⟨k + 1, s2, X2, by omega, by go_num, HE, HR2, FX2, HX3⟩
            case measure => simp [intOf]; omega
        · have HE2 : Hid (r0 = some sk) := Lib.hid (HE.out.trans (allL_end (by omega) sk (d + 1)))
          clear HE
          go_wp2
          go_ret
          exact ⟨by rw [HE2.out]; rfl, FX.out, fun s' h => by
            rw [HE2.out] at h
            obtain rfl := Option.some.inj h
            exact ⟨Xk, HR1.out, HX2.out⟩⟩
end Go.Proofs.Ytnbhgkolfapblaa


namespace Go.Proofs.Ytnbhgkolfapblaa
set_option linter.unusedVariables false
set_option linter.unusedSimpArgs false
set_option maxRecDepth 100000
open Go.RowKit

/-- the count lies in block g -/
def RcM (w0 : World) (g : Nat) (W : World) (n : Nat) (X : Nat → Prop) : Prop := Blk W g 3 #[.int .i64 n] ∧ n ≤ 16 ∧ X = One g ∧ w0.heap.size ≤ g
theorem stepM_no {n : Nat} {p : Pd} {d : Nat} (h : ¬ (n + 1 ≤ 16 ∧ d ≤ 6)) : stepM n p d = none := by unfold stepM; rw [if_neg (fun e => h ⟨e.1, e.2.1⟩)]
theorem stepM_by {n : Nat} {p : Pd} {d : Nat} (h : n + 1 ≤ 16 ∧ d ≤ 6) : stepM n p d = bif hdOk p.hd p.kids then some (n + 1) else none := by
  unfold stepM
  cases hd : hdOk p.hd p.kids
  · rw [if_neg (by simp)]; rfl
  · rw [if_pos ⟨h.1, h.2, rfl⟩]; rfl
set_option maxHeartbeats 2000000 in
theorem may1_any (w0 : World) (g : Nat) : Asks (RcM w0 g) stepM 37 g w0 := by
  intro W n X p t d dz hdz hF hr hk hb hlen hdep
  subst hdz
  obtain ⟨h, ks⟩ := p
  obtain ⟨hB, hn16, rfl, hg0⟩ := hr
  dsimp only [Pd.hd, Pd.kids] at hk hb ⊢
  have hls := bigP_mk hlen
  have F0 : Fr Non W (W.alloc (.cells (pdC h t) 27)) := (Fr.refl Non W).alloc _
  have hB1 := hB.fr F0 (fun e => e)
  have hf0 := hB1.frozen 0
  have hc0 := hB1.cell 0
  have hB2 := (hB.set 0 (.int .i64 ((n : Int) + 1))).fr ((Fr.refl Non _).alloc (.cells (pdC h t) 27)) (fun e => e)
  have hc2 := hB2.cell 0
  have hgl := hB.lt
  have G2 : Fr (One g) W ((W.setCell ⟨g, 0, none⟩ (.int .i64 ((n : Int) + 1))).alloc (.cells (pdC h t) 27)) := ((Fr.refl (One g) W).set1 0 _).alloc _
  have P2 : PdB ((W.setCell ⟨g, 0, none⟩ (.int .i64 ((n : Int) + 1))).alloc (.cells (pdC h t) 27)) W.heap.size h t :=
    pd_new _ _ h t (by simp [World.setCell])
  obtain ⟨g0, g1, g2, g3, g4, g5, g6, g7, g8⟩ := pdB_cells P2
  have hkw : Kd ((W.setCell ⟨g, 0, none⟩ (.int .i64 ((n : Int) + 1))).alloc (.cells (pdC h t) 27)) t ks := hk.non (hF.join G2 (fun q hq e => by have : q = g := e; omega))
  have M := Lib.hid (alone_any h t ks _ hkw (by omega) (by omega))
  have HG := Lib.hid G2
  have HB2 := Lib.hid hB2
  have HN := Lib.hid (fun e => stepM_no (n := n) (p := .mk h ks) (d := d) e)
  have HY := Lib.hid (fun e => stepM_by (n := n) (p := .mk h ks) (d := d) e)
  simp at hc0 hc2
  clear hk hB hB1 hB2 P2 hkw F0 G2 hlen hdep hls hF
  obtain ⟨ho, hc, hm, ⟨vn, vi, vt⟩, hkd, hp⟩ := h
  obtain ⟨A, nn, c⟩ := t
  unfold pdV pdC kidV at *
  dsimp only at *
  by_cases h1 : n + 1 ≤ 16
  · by_cases h6 : d ≤ 6
    · have HE := Lib.hid (HY.out ⟨h1, h6⟩)
      clear HY HN
      generalize stepM n _ d = r at *
      dsimp only [Pd.hd, Pd.kids] at HE
      generalize hdOk _ ks = b at *
      go_enter Try.func37, Try.ntmps37
      go_wp2_with fail
      refine M.out.mono ?_
      rintro e w1 ⟨rfl, f1⟩
      go_wp2
      go_ret
      refine ⟨by rw [HE.out]; cases b <;> rfl, HG.out.then f1, fun s' hs => ?_⟩
      rw [HE.out] at hs
      cases b
      · cases hs
      · obtain rfl := Option.some.inj hs
        exact ⟨One g, ⟨HB2.out.fr f1 (fun e => e), h1, rfl, hg0⟩, fun q hq => .inl hq⟩
    · have HE := Lib.hid (HN.out (by omega))
      have hd1 : decide ((n : Int) + 1 ≤ 16) = true := decide_eq_true (by omega)
      have hd2 : decide ((d : Int) ≤ 6) = false := decide_eq_false (by omega)
      clear HY HN M
      generalize stepM n _ d = r at *
      go_enter Try.func37, Try.ntmps37
      go_wp2
      go_ret
      exact ⟨by rw [HE.out]; rfl, HG.out, fun s' hs => by rw [HE.out] at hs; cases hs⟩
  · have HE := Lib.hid (HN.out (by omega))
    have hd1 : decide ((n : Int) + 1 ≤ 16) = false := decide_eq_false (by omega)
    clear HY HN M
    generalize stepM n _ d = r at *
    go_enter Try.func37, Try.ntmps37
    go_wp2
    go_ret
    exact ⟨by rw [HE.out]; rfl, HG.out, fun s' hs => by rw [HE.out] at hs; cases hs⟩

set_option maxHeartbeats 2000000 in
theorem pmay_big (h : Ph) (t : Kv) (ks : List Pd) (w : World) (hk : Kd w t ks) (hb : I64b h.val.num) (hlen : bigP (.mk h ks) = true) (hdep : depP (.mk h ks) ≤ 100) :
    Calls Try.prog 22 #[pdV h t] w fun e w' => e = .returned (.bool (mayP (.mk h ks))) ∧ Fr Non w w' := by
  have F0 : Fr Non w (w.alloc (.cells (pdC h t) 27)) := (Fr.refl Non w).alloc _
  have F1 : Fr Non w ((w.alloc (.cells (pdC h t) 27)).alloc (.cells #[.int .i64 0] 3)) := F0.alloc _
  have e1 : (w.alloc (.cells (pdC h t) 27)).heap.size = w.heap.size + 1 := by simp
  have b2 := Blk.new (w.alloc (.cells (pdC h t) 27)) 3 #[.int .i64 0]
  rw [e1] at b2
  have hR0 : RcM w (w.heap.size + 1) ((w.alloc (.cells (pdC h t) 27)).alloc (.cells #[.int .i64 0] 3)) 0 (One (w.heap.size + 1)) := ⟨b2, by omega, rfl, by omega⟩
  have A1 := all_any (RcM w (w.heap.size + 1)) stepM 37 (w.heap.size + 1) w
    (fun W s X hr q hq => by
      obtain ⟨a, b, rfl, c⟩ := hr
      obtain rfl : q = w.heap.size + 1 := hq
      exact ⟨c, a.lt⟩)
    (fun W W' s X hr hf => ⟨hr.1.fr hf (fun e => e), hr.2⟩) Try.call37 (may1_any w (w.heap.size + 1)) (.mk h ks)
    _ 0 _ t 1 1 rfl F1 hR0 hk hb hlen (by omega)
  have HM : Hid ((allP stepM (.mk h ks) 0 1).isSome = mayP (.mk h ks)) := Lib.hid (may_all _)
  generalize allP stepM (.mk h ks) 0 1 = r at *
  dsimp only [Pd.hd, Pd.kids] at A1
  have A1 := Lib.hid A1
  have F1 := Lib.hid F1
  have P0 : PdB ((w.alloc (.cells (pdC h t) 27)).alloc (.cells #[.int .i64 0] 3)) w.heap.size h t := (pd_new w _ h t rfl).fr ((Fr.refl Non _).alloc _) (fun e => e)
  obtain ⟨g0, g1, g2, g3, g4, g5, g6, g7, g8⟩ := pdB_cells P0
  have hmf : ∀ (fn : Fn) (first cap : Array Value) (w : World), (Instr.makeFunc fn first cap).run Try.prog w = .ok (.func fn first cap) w := fun _ _ _ _ => rfl
  clear hk F0 hR0 b2 e1 P0 hlen hdep
  obtain ⟨ho, hc, hm, ⟨vn, vi, vt⟩, hkd, hp⟩ := h
  obtain ⟨A, nn, c⟩ := t
  unfold pdV pdC kidV at *
  dsimp only at *
  go_enter Try.func22, Try.ntmps22
  go_wp2_with fail
  refine A1.out.mono ?_
  rintro e w1 ⟨rfl, f1, _⟩
  go_wp2
  go_ret
  exact ⟨ret_boolE HM.out, F1.out.join f1 (fun q hq e => by have : q = w.heap.size + 1 := e; omega)⟩
end Go.Proofs.Ytnbhgkolfapblaa


namespace Go.Proofs.Ytnbhgkolfapblaa
set_option linter.unusedVariables false
set_option linter.unusedSimpArgs false
set_option maxRecDepth 100000
open Go.RowKit Go.Maps

/-- how many unlike ones -/
def cntU : List Tx → Nat
  | [] => 0
  | y :: r => if y ∈ r then cntU r else cntU r + 1
theorem cntU_le (l : List Tx) : cntU l ≤ l.length := by
  induction l with
  | nil => exact Nat.le_refl _
  | cons y r ih =>
    unfold cntU
    rw [List.length_cons]
    split <;> omega
theorem cntU_all (l : List Tx) : cntU l = l.length ↔ l.Nodup := by
  induction l with
  | nil => simp [cntU]
  | cons y r ih =>
    have := cntU_le r
    unfold cntU
    rw [List.length_cons, List.nodup_cons]
    split
    · rename_i h
      constructor
      · intro e; omega
      · intro e; exact absurd h e.1
    · rename_i h
      rw [← ih]
      constructor
      · intro e; exact ⟨h, by omega⟩
      · intro e; omega

/-- block b is a map of at most n texts: those of ks -/
def MapS (w : World) (b n : Nat) (ks : List Tx) : Prop :=
  ∃ D : DataW Unit, w.ownsMap Try.prog 9 (plainElem Try.prog 3) b n D ∧ (∀ x, has D (.string x) = decide (x ∈ ks)) ∧ Maps.size D = cntU ks
theorem MapS.lt {w : World} {b n : Nat} {ks : List Tx} (h : MapS w b n ks) : b < w.heap.size := by
  obtain ⟨D, h1, _⟩ := h; exact h1.lt
theorem MapS.fr {S : Nat → Prop} {w w' : World} {b n : Nat} {ks : List Tx} (h : MapS w b n ks) (hf : Fr S w w') (hn : ¬ S b) : MapS w' b n ks := by
  obtain ⟨D, h1, h2, h3⟩ := h
  have hlt := h1.lt
  obtain ⟨es, clock, hb, F, hs, hD⟩ := h1
  exact ⟨D, ⟨es, clock, (hf.block b hlt hn).trans hb, F, hs, hD⟩, h2, h3⟩
theorem MapS.made (w : World) : MapS (w.alloc (.map #[] 0)) w.heap.size 0 [] :=
  ⟨.map [], World.ownsMap_made w _ _ _, fun x => by simp [has], rfl⟩

theorem keyLitS (x : Tx) : WideAt.IsKeyLit (.string x) := trivial
theorem keyStrS {x : Tx} (hx : x.length ≤ maxLen) : keyOf Try.prog 9 (.string ⟨x.toArray⟩) = some (.string x) := by
  have := Go.WideMaps.keyOf_string_mk (P := Try.prog) Try.underlying9 (s := ⟨x.toArray⟩) (by simpa [ByteArray.size] using hx)
  simpa using this
theorem MapS.put {w w' : World} {b n : Nat} {ks : List Tx} {D : DataW Unit} (h1 : w.ownsMap Try.prog 9 (plainElem Try.prog 3) b n D) (h2 : ∀ x, has D (.string x) = decide (x ∈ ks)) (h3 : Maps.size D = cntU ks)
    (y : Tx) (v : Int) (h : w'.ownsMap Try.prog 9 (plainElem Try.prog 3) b (n + 1) (D.put (.string y) (.lit (.int .i64 v)))) : MapS w' b (n + 1) (y :: ks) := by
  have hm := h1.isMap
  refine ⟨_, h, fun x => ?_, ?_⟩
  · by_cases he : x = y
    · subst he; rw [has_put_same hm (keyLitS x)]; simp
    · rw [has_put_other (by simpa using he), h2]; simp [he]
  · rw [Maps.size_put (h1.tidy (string_keyed Try.underlying9)), h2, h3]
    rw [show cntU (y :: ks) = if y ∈ ks then cntU ks else cntU ks + 1 from rfl]
    by_cases hy : y ∈ ks <;> simp [hy]

/-- 'm[y] = v' -/
theorem wpList_putS (w : World) {ops : Array Oper} {rest : List Oper} {o : Oper} {a : Act} {Q : Exit → Act → World → Prop} (hg : o.guard = none) (m x v : Operand) (hop : o.op = Op.mapUpdate 88 m x v)
    (b n : Nat) (ks : List Tx) (hm : a.eval m = .map (some b)) (hown : MapS w b n ks) (hn : n ≤ 1000000000) (y : Tx) (z : Int) (hx : a.eval x = .string ⟨y.toArray⟩) (hv : a.eval v = .int .i64 z)
    (hy : y.length ≤ 9223372036854775807) (hz1 : -9223372036854775808 ≤ z) (hz2 : z ≤ 9223372036854775807)
    (hK : ∀ w', MapS w' b (n + 1) (y :: ks) → Fr (One b) w w' → wpList Try.prog ops Q rest (a.put o.dst undef) w') : wpList Try.prog ops Q (o :: rest) a w := by
  obtain ⟨D, h1, h2, h3⟩ := hown
  refine wpList_mapUpdate_own w hg m x v 88 hop 9 3 (string_keyed Try.underlying9) Try.underlying88 _ b n D hm h1 (by unfold maxLen; omega) _ _ (.string y) hx hv (keyStrS (by simpa [maxLen] using hy)) (.lit (.int .i64 z)) [] (plainElem_int Try.underlying3 (WalkArith.wf_i64 ⟨hz1, hz2⟩)) ?_
  intro w' hw' hg'
  exact hK w' (MapS.put h1 h2 h3 y z hw') ((Fr.of_grown hg').mono fun k _ e => by simpa [One, eq_comm] using e)
/-- 'len(m)' -/
theorem MapS.len {w : World} {b n : Nat} {ks : List Tx} (h : MapS w b n ks) (ty : TypeId) : (Builtin.len_ #[88] ty #[.map (some b)]).run Try.prog w = .ok (.int .i64 (cntU ks)) w := by
  obtain ⟨D, h1, h2, h3⟩ := h
  rw [← h3]
  exact h1.len Try.underlying88 ty
end Go.Proofs.Ytnbhgkolfapblaa


namespace Go.Proofs.Ytnbhgkolfapblaa
set_option linter.unusedVariables false
set_option linter.unusedSimpArgs false
set_option maxRecDepth 100000
open Go.RowKit

theorem mayC_nullT (ty : Int) : mayC ty true ⟨true, 0, []⟩ = isTy ty := by rw [mayC_null]; simp [ceq]
theorem ktype_any (ty : Int) (w : World) : Calls Try.prog 61 #[.int .i64 ty] w fun e w' => e = .returned (.bool (isTy ty)) ∧ Fr Non w w' := by
  have M := fun W => may_any ty true ⟨true, 0, []⟩ W
  rw [mayC_nullT] at M
  unfold clV clC at M
  dsimp only at M
  go_enter Try.func61, Try.ntmps61
  go_wp2_with fail
  refine (M _).mono ?_
  rintro e w1 ⟨rfl, f1⟩
  go_wp2
  go_ret
  exact ⟨rfl, f1⟩

theorem maynot_any (c : Co) (w : World) (hc : c.name.length ≤ 1000000000) : Calls Try.prog 40 #[coV c] w fun e w' => e = .returned (.bool (badC c)) ∧ Fr Non w w' := by
  obtain ⟨n, ty, nl⟩ := c
  have M := fun W => sname_any n W hc
  have T := fun W => ktype_any ty W
  have b0 := co_new w ⟨n, ty, nl⟩
  have g0 : _ = _ := b0.cell 0
  simp at g0
  unfold badC coV coC
  dsimp only
  cases hn : nameB n
  · simp only [hn] at M
    replace M := Lib.hid M
    clear T
    go_enter Try.func40, Try.ntmps40
    go_wp2_with fail
    refine (M.out _).mono ?_
    rintro e w1 ⟨rfl, f1⟩
    go_wp2
    go_ret
    exact ⟨rfl, ((Fr.refl _ _).alloc _).trans f1⟩
  · simp only [hn] at M
    replace M := Lib.hid M
    replace T := Lib.hid T
    replace b0 : Hid (CoB _ _ _) := Lib.hid b0
    go_enter Try.func40, Try.ntmps40
    go_wp2_with fail
    refine (M.out _).mono ?_
    rintro e w1 ⟨rfl, f1⟩
    have g1 := (b0.out.fr f1 (fun e => e)).cell 1
    simp at g1
    go_wp2_with fail
    refine (T.out _).mono ?_
    rintro e w2 ⟨rfl, f2⟩
    go_wp2
    go_ret
    exact ⟨ret_boolE (by simp), (((Fr.refl _ _).alloc _).trans f1).trans f2⟩

theorem idx_any (v : Value) (l : List Co) (w : World) (hv : Ks w v l) (hl : l.length ≤ 1000000000) (hb : ∀ c ∈ l, c.name.length ≤ 1000000000) :
    Calls Try.prog 59 #[v, .func (.func 40) #[] #[]] w fun e w' => ∃ z : Int, e = .returned (.int .i64 z) ∧ decide (0 ≤ z) = l.any badC ∧ Fr Non w w' := by
  obtain ⟨A, c, rfl, hlc, hn, hcell⟩ := hv
  have HC := Lib.hid hcell
  have HN := Lib.hid hn
  have HB := Lib.hid hb
  clear hcell hn hb
  go_enter Try.func59, Try.ntmps59
  go_wp2
  go_loopw [8] (fun i wr => ∃ (k : Nat), k ≤ l.length ∧ i = .int .i64 k ∧ Hid ((l.take k).any badC = false) ∧ Fr Non w wr) (fun i _ => l.length - (intOf i).toNat)
  case atStart => exact ⟨0, Nat.zero_le _, rfl, Lib.hid rfl, Fr.refl _ _⟩
  case round =>
    obtain ⟨k, hk, rfl, hne, hfr⟩ := hrel
    by_cases hlt : k < l.length
    · cases A with
      | none => have := HN.out rfl; omega
      | some a =>
        obtain ⟨hc0, hc1, hc2⟩ := co_lit ((HC.out a rfl k hlt).non hfr)
        have HY := Lib.hid (fun h => any_more hlt hne.out h)
        have HX : Hid (badC l[k] = true → l.any badC = true) := Lib.hid (fun h => List.any_eq_true.2 ⟨_, List.getElem_mem hlt, h⟩)
        have M := fun W => maynot_any l[k] W (HB.out _ (List.getElem_mem hlt))
        clear hne
        generalize l[k] = x at *
        obtain ⟨xn, xt, xb⟩ := x
        unfold coV coC at M
        dsimp only at hc0 hc1 hc2 HY HX M
        have HF := Lib.hid hfr
        clear hfr
        cases hx : badC ⟨xn, xt, xb⟩
        · have HE := Lib.hid (HY.out hx)
          simp only [hx] at M
          replace M := Lib.hid M
          clear HX HY hx
          go_wp2_with fail
          refine (M.out _).mono ?_
          rintro e w2 ⟨rfl, f2⟩
          go_wp2
          go_roundw
          case rel => exact ⟨k + 1, by omega, by go_num, HE, HF.out.trans f2⟩
          case measure => simp [intOf]; omega
        · have HE := Lib.hid (HX.out hx)
          simp only [hx] at M
          replace M := Lib.hid M
          clear HX HY hx
          go_wp2_with fail
          refine (M.out _).mono ?_
          rintro e w2 ⟨rfl, f2⟩
          go_wp2
          go_ret
          exact ⟨_, rfl, by rw [HE.out]; exact decide_eq_true (by omega), HF.out.trans f2⟩
    · have HE : Hid (l.any badC = false) := Lib.hid (by have := hne.out; rwa [List.take_of_length_le (by omega)] at this)
      clear hne
      go_wp2
      go_ret
      exact ⟨_, rfl, by rw [HE.out]; rfl, hfr⟩
theorem contains_any (v : Value) (l : List Co) (w : World) (hv : Ks w v l) (hl : l.length ≤ 1000000000) (hb : ∀ c ∈ l, c.name.length ≤ 1000000000) :
    Calls Try.prog 39 #[v, .func (.func 40) #[] #[]] w fun e w' => e = .returned (.bool (l.any badC)) ∧ Fr Non w w' := by
  have h0 := Lib.hid (idx_any v l w hv hl hb)
  clear hv hb
  go_enter Try.func39, Try.ntmps39
  go_wp2_with fail
  refine h0.out.mono ?_
  rintro e w1 ⟨z, rfl, hz, f1⟩
  go_wp2
  go_ret
  exact ⟨rfl, f1⟩

/-- the names up to k, the last one first -/
def nmsR (l : List Co) (k : Nat) : List Tx := (namesC (l.take k)).reverse
theorem nmsR_more {l : List Co} {k : Nat} (h : k < l.length) : nmsR l (k + 1) = l[k].name :: nmsR l k := by
  unfold nmsR namesC
  rw [List.take_succ_eq_append_getElem h, List.map_append, List.reverse_append]; rfl
theorem nmsR_all {l : List Co} {k : Nat} (h : k = l.length) : decide ((cntU (nmsR l k) : Int) = l.length) = decide ((namesC l).Nodup) := by
  subst h
  unfold nmsR
  rw [List.take_length]
  have h1 := cntU_all (namesC l).reverse
  rw [List.length_reverse, (List.reverse_perm (namesC l)).nodup_iff] at h1
  have h2 : (namesC l).length = l.length := by unfold namesC; rw [List.length_map]
  rw [h2] at h1
  rw [decide_eq_decide, ← h1]
  omega

set_option maxHeartbeats 1000000 in
theorem unlike_any (v : Value) (l : List Co) (w : World) (hv : Ks w v l) (hl : l.length ≤ 1000000000) (hb : ∀ c ∈ l, c.name.length ≤ 1000000000) :
    Calls Try.prog 41 #[v] w fun e w' => e = .returned (.bool (decide ((namesC l).Nodup))) ∧ Fr Non w w' := by
  obtain ⟨A, c, rfl, hlc, hn, hcell⟩ := hv
  have HC := Lib.hid hcell
  have HN := Lib.hid hn
  have HB := Lib.hid hb
  clear hcell hn hb
  have hmm := @run_makeMap Try.prog
  go_enter Try.func41, Try.ntmps41
  go_wp2
  have hm0 := MapS.made w
  have hf0 : Fr Non w (w.alloc (.map #[] 0)) := (Fr.refl _ _).alloc _
  go_loopw [9] (fun i wr => ∃ (k : Nat), k ≤ l.length ∧ i = .int .i64 k ∧ MapS wr w.heap.size k (nmsR l k) ∧ Fr Non w wr) (fun i _ => l.length - (intOf i).toNat)
  case atStart => exact ⟨0, Nat.zero_le _, rfl, hm0, hf0⟩
  case round =>
    clear hm0 hf0
    obtain ⟨k, hk, rfl, hm, hfr⟩ := hrel
    by_cases hlt : k < l.length
    · cases A with
      | none => have := HN.out rfl; omega
      | some a =>
        obtain ⟨hc0, hc1, hc2⟩ := co_lit ((HC.out a rfl k hlt).non hfr)
        have HM := Lib.hid (nmsR_more hlt)
        have hxl := HB.out _ (List.getElem_mem hlt)
        generalize l[k] = x at *
        obtain ⟨xn, xt, xb⟩ := x
        dsimp only at hc0 hc1 hc2 HM hxl
        have f1 := (Fr.refl Non wr).alloc (.cells #[.string ⟨xn.toArray⟩, .int .i64 xt, .bool xb] 51)
        have hm1 := Lib.hid (hm.fr f1 (fun e => e))
        have HF := Lib.hid (hfr.trans f1)
        have g0 := (co_new wr ⟨xn, xt, xb⟩).cell 0
        simp at g0
        clear hm hfr f1
        go_wp2_with (at_mapUpdate; refine wpList_putS _ rfl _ _ _ rfl w.heap.size k (nmsR l k) rfl hm1.out (by omega) xn (k : Int) rfl rfl (by omega) (by omega) (by omega) ?_; intro w1 hm2 hf2)
        go_roundw
        case rel => exact ⟨k + 1, by omega, by go_num, by rw [HM.out]; exact hm2, HF.out.fresh hf2 (fun q hq => by have : q = w.heap.size := hq; omega)⟩
        case measure => simp [intOf]; omega
    · have HE := Lib.hid (nmsR_all (l := l) (k := k) (by omega))
      have hlen := fun ty => hm.len ty
      clear hm
      go_wp2
      go_ret
      exact ⟨ret_boolE HE.out, hfr⟩

set_option maxHeartbeats 1000000 in
theorem scheck_any (v : Value) (l : List Co) (w : World) (hv : Ks w v l) (hl : l.length ≤ 1000000000) (hb : ∀ c ∈ l, c.name.length ≤ 1000000000) :
    Calls Try.prog 23 #[v] w fun e w' => e = .returned (.int .i64 (chkC l)) ∧ Fr Non w w' := by
  obtain ⟨A, c, rfl⟩ := hv.shape
  have HV := Lib.hid hv
  have C1 := Lib.hid (contains_any _ l w hv hl hb)
  have U1 := fun W h => unlike_any (.slice A l.length c) l W h hl hb
  replace U1 := Lib.hid U1
  clear hv hb
  by_cases h0 : l.length = 0
  · have H := Lib.hid (chk_none h0)
    go_enter Try.func23, Try.ntmps23
    go_wp2
    go_ret
    exact ⟨ret_int H.out.symm, Fr.refl _ _⟩
  · have h0b : ((l.length : Int) == 0) = false := by rw [beq_eq_false_iff_ne]; omega
    have H0 := Lib.hid h0
    clear h0
    cases ha : l.any badC
    · have HA := Lib.hid ha
      rw [ha] at C1
      clear ha
      by_cases hd : (namesC l).Nodup
      · have HD := Lib.hid hd
        rw [decide_eq_true hd] at U1
        clear hd
        by_cases h6 : 6 < l.length
        · have H := Lib.hid (chk_many H0.out HA.out HD.out h6)
          go_enter Try.func23, Try.ntmps23
          go_wp2_with fail
          refine C1.out.mono ?_
          rintro e w1 ⟨rfl, f1⟩
          go_wp2_with fail
          refine (U1.out _ (HV.out.non f1)).mono ?_
          rintro e w2 ⟨rfl, f2⟩
          go_wp2
          go_ret
          exact ⟨ret_int H.out.symm, f1.trans f2⟩
        · have H := Lib.hid (chk_ok H0.out HA.out HD.out h6)
          go_enter Try.func23, Try.ntmps23
          go_wp2_with fail
          refine C1.out.mono ?_
          rintro e w1 ⟨rfl, f1⟩
          go_wp2_with fail
          refine (U1.out _ (HV.out.non f1)).mono ?_
          rintro e w2 ⟨rfl, f2⟩
          go_wp2
          go_ret
          exact ⟨ret_int H.out.symm, f1.trans f2⟩
      · have H := Lib.hid (chk_dup hd)
        rw [decide_eq_false hd] at U1
        clear hd
        go_enter Try.func23, Try.ntmps23
        go_wp2_with fail
        refine C1.out.mono ?_
        rintro e w1 ⟨rfl, f1⟩
        go_wp2_with fail
        refine (U1.out _ (HV.out.non f1)).mono ?_
        rintro e w2 ⟨rfl, f2⟩
        go_wp2
        go_ret
        exact ⟨ret_int H.out.symm, f1.trans f2⟩
    · have H := Lib.hid (chk_any ha)
      rw [ha] at C1
      clear ha
      go_enter Try.func23, Try.ntmps23
      go_wp2_with fail
      refine C1.out.mono ?_
      rintro e w1 ⟨rfl, f1⟩
      go_wp2
      go_ret
      exact ⟨ret_int H.out.symm, f1⟩
end Go.Proofs.Ytnbhgkolfapblaa


namespace Go.Proofs.Ytnbhgkolfapblaa
set_option linter.unusedVariables false
set_option linter.unusedSimpArgs false
set_option maxRecDepth 100000
open Go.RowKit

theorem okS_nil {cols : List Co} {h : Ph} (e : h.col = []) : okT cols h = true := by unfold okT; rw [if_pos e]
theorem okS_none {cols : List Co} {h : Ph} (e : ¬ h.col = []) (f : findC cols h.col = none) : okT cols h = false := by unfold okT; rw [if_neg e, f]
theorem okS_some {cols : List Co} {h : Ph} {k : Nat} (e : ¬ h.col = []) (f : findC cols h.col = some k) (hk : k < cols.length) : okT cols h = if h.op = 2 then cols[k].ty == h.kind else if h.op = 4 then cols[k].ty == 3 else true := by
  unfold okT; rw [if_neg e, f]
  simp [hk]
theorem Ks.findS {w : World} {A : Option Addr} {n c : Nat} {cols : List Co} (h : Ks w (.slice A n c) cols) (k : Nat) (hk : k < cols.length) :
    ∃ a, A = some a ∧ n = cols.length ∧ w.cell? { block := (a.add (k * 3)).block, off := (a.add (k * 3)).off + 1 } = some (.int .i64 cols[k].ty) := by
  have hnl : n = cols.length := by
    obtain ⟨A0, c0, he⟩ := h.shape
    simp only [Value.slice.injEq] at he
    exact he.2.1
  obtain ⟨a, ha, hn, _, hc⟩ := Ns.addr h (by omega)
  exact ⟨a, ha, hn, (co_lit (hc k hk)).2.1⟩
set_option maxHeartbeats 4000000 in
theorem suits_any (cols : List Co) (hcl : cols.length ≤ 1000) (v : Value) (h : Ph) (t : Kv) (w : World) (hv : Ks w v cols) :
    Calls Try.prog 26 #[v, pdV h t] w fun e w' => e = .returned (.bool (okT cols h)) ∧ Fr Non w w' := by
  have F0 : Fr Non w (w.alloc (.cells (pdC h t) 27)) := (Fr.refl Non w).alloc _
  have HB := Lib.hid (pd_new w _ h t rfl)
  have FC := Lib.hid (fun W hw => sfind_any v cols h.col W hw (by omega))
  have HO1 := Lib.hid (fun e => okS_nil (cols := cols) (h := h) e)
  have HO2 := Lib.hid (fun e f => okS_none (cols := cols) (h := h) e f)
  have HO3 := Lib.hid (fun k e f hk => okS_some (cols := cols) (h := h) (k := k) e f hk)
  have HFL := Lib.hid (fun k (e : findC cols h.col = some k) => find_lt e)
  obtain ⟨vA, vc, hve⟩ := hv.shape
  have HV : Hid (Ks _ v cols) := Lib.hid (hv.non F0)
  have HF := Lib.hid F0
  clear F0 hv
  obtain ⟨ho, hc, hm, ⟨vn, vi, vt⟩, hkd, hp⟩ := h
  obtain ⟨A, n, c⟩ := t
  dsimp only at HO1 HO2 HO3 FC HFL
  unfold pdV
  unfold pdC kidV
  dsimp only
  subst hve
  generalize okT cols _ = r at *
  by_cases h0 : hc = []
  · subst h0
    have HE := Lib.hid (HO1.out rfl)
    clear HO1 HO2 HO3 FC HFL
    go_enter Try.func26, Try.ntmps26
    go_wp2
    go_ret
    exact ⟨ret_boolE HE.out.symm, HF.out⟩
  · have hb : (hc == []) = false := by rw [beq_eq_false_iff_ne]; exact h0
    cases hf : findC cols hc with
    | none =>
      have HE := Lib.hid (HO2.out h0 hf)
      simp only [hf] at FC
      clear HO1 HO2 HO3 HFL hf h0
      go_enter Try.func26, Try.ntmps26
      go_wp2_with fail
      refine (FC.out _ HV.out).mono ?_
      rintro e w1 ⟨rfl, f1⟩
      unfold findV
      go_wp2
      go_ret
      exact ⟨ret_boolE HE.out.symm, HF.out.trans f1⟩
    | some q =>
      have hql := HFL.out q hf
      have HO4 := Lib.hid (HO3.out q h0 hf hql)
      simp only [hf] at FC
      clear HO1 HO2 HO3 HFL hf h0
      have hqn : ((q : Int) < 0) = False := by simp
      by_cases h2 : ho = 2
      · subst h2
        have HE : Hid (r = (cols[q].ty == hkd)) := Lib.hid (by rw [HO4.out, if_pos rfl])
        clear HO4
        go_enter Try.func26, Try.ntmps26
        go_wp2_with fail
        refine (FC.out _ HV.out).mono ?_
        rintro e w1 ⟨rfl, f1⟩
        obtain ⟨g0, g1, g2, g3, g4, g5, g6, g7, g8⟩ := pdB_cells (HB.out.fr f1 (fun e => e))
        dsimp only at g0 g1 g2 g3 g4 g5 g6 g7 g8
        obtain ⟨ca, rfl, hcn, hct⟩ := Ks.findS (HV.out.non f1) q hql
        generalize cols[q].ty = ct at *
        have F1 := Lib.hid (HF.out.trans f1)
        clear f1 hcn
        unfold findV
        dsimp only
        go_wp2
        go_quiet (fail)
        go_wp2
        go_ret
        exact ⟨ret_boolE HE.out.symm, F1.out.drewN _⟩
      · by_cases h4 : ho = 4
        · subst h4
          have HE : Hid (r = (cols[q].ty == 3)) := Lib.hid (by rw [HO4.out, if_neg h2, if_pos rfl])
          clear HO4
          go_enter Try.func26, Try.ntmps26
          go_wp2_with fail
          refine (FC.out _ HV.out).mono ?_
          rintro e w1 ⟨rfl, f1⟩
          obtain ⟨g0, g1, g2, g3, g4, g5, g6, g7, g8⟩ := pdB_cells (HB.out.fr f1 (fun e => e))
          dsimp only at g0 g1 g2 g3 g4 g5 g6 g7 g8
          obtain ⟨ca, rfl, hcn, hct⟩ := Ks.findS (HV.out.non f1) q hql
          generalize cols[q].ty = ct at *
          have F1 := Lib.hid (HF.out.trans f1)
          clear f1 hcn
          unfold findV
          dsimp only
          go_wp2
          go_ret
          exact ⟨ret_boolE HE.out.symm, F1.out⟩
        · have HE : Hid (r = true) := Lib.hid (by rw [HO4.out, if_neg h2, if_neg h4])
          have hb3 : (ho == 2) = false := by rw [beq_eq_false_iff_ne]; exact h2
          have hb4 : (ho == 4) = false := by rw [beq_eq_false_iff_ne]; exact h4
          clear HO4
          go_enter Try.func26, Try.ntmps26
          go_wp2_with fail
          refine (FC.out _ HV.out).mono ?_
          rintro e w1 ⟨rfl, f1⟩
          obtain ⟨g0, g1, g2, g3, g4, g5, g6, g7, g8⟩ := pdB_cells (HB.out.fr f1 (fun e => e))
          dsimp only at g0 g1 g2 g3 g4 g5 g6 g7 g8
          have F1 := Lib.hid (HF.out.trans f1)
          clear f1
          unfold findV
          dsimp only
          go_wp2
          go_ret
          exact ⟨ret_boolE HE.out.symm, F1.out⟩

/-- the columns' variable lies in block g -/
def RcT (cols : List Co) (v : Value) (g : Nat) (W : World) (_ : Unit) (X : Nat → Prop) : Prop := Blk W g 22 #[v] ∧ Ks W v cols ∧ X = Non
set_option maxHeartbeats 2000000 in
theorem fits1_any (cols : List Co) (hcl : cols.length ≤ 1000) (v : Value) (w0 : World) (g : Nat) : Asks (RcT cols v g) (stepT cols) 25 g w0 := by
  intro W u X p t d dz hdz hF hr hk hb hlen hdep
  subst hdz
  obtain ⟨h, ks⟩ := p
  obtain ⟨hB, hV, rfl⟩ := hr
  dsimp only [Pd.hd, Pd.kids] at hk hb ⊢
  have F0 : Fr Non W (W.alloc (.cells (pdC h t) 27)) := (Fr.refl Non W).alloc _
  have S1 := Lib.hid (suits_any cols hcl v h t _ (hV.non F0))
  have hc0 := (hB.fr F0 (fun e => e)).cell 0
  have hgl := hB.lt
  have HS : Hid (stepT cols u (.mk h ks) d = bif okT cols h then some () else none) := Lib.hid (by unfold stepT; show (if okT cols h = true then some () else none) = _; cases okT cols h <;> rfl)
  have HB := Lib.hid hB
  have HV := Lib.hid hV
  have HF0 := Lib.hid F0
  obtain ⟨vA, vc, hve⟩ := hV.shape
  simp at hc0
  generalize stepT cols u _ d = r at *
  generalize okT cols h = b at *
  clear hk hlen hdep hB hV F0 hF
  obtain ⟨ho, hc, hm, ⟨vn, vi, vt⟩, hkd, hp⟩ := h
  obtain ⟨A, nn, c⟩ := t
  subst hve
  unfold pdV pdC kidV at S1 ⊢
  unfold pdC kidV at hc0
  dsimp only at S1 hc0 ⊢
  go_enter Try.func25, Try.ntmps25
  go_wp2_with fail
  refine S1.out.mono ?_
  rintro e w1 ⟨rfl, f1⟩
  go_wp2
  go_ret
  have f2 := HF0.out.trans f1
  refine ⟨by rw [HS.out]; cases b <;> rfl, f2, fun s' hs => ⟨Non, ⟨HB.out.fr f2 (fun e => e), HV.out.non f2, rfl⟩, fun q hq => .inl hq⟩⟩

set_option maxHeartbeats 4000000 in
theorem pfits_big (cols : List Co) (hcl : cols.length ≤ 1000) (hcb : ∀ c ∈ cols, c.name.length ≤ 1000) (v : Value) (h : Ph) (t : Kv) (ks : List Pd) (w : World) (hv : Ks w v cols) (hk : Kd w t ks) (hb : I64b h.val.num) (hlen : bigP (.mk h ks) = true) (hdep : depP (.mk h ks) ≤ 100) :
    Calls Try.prog 17 #[v, pdV h t] w fun e w' => e = .returned (.int .i64 (fitP cols (.mk h ks))) ∧ Fr Non w w' := by
  have F0 : Fr Non w ((w.alloc (.cells #[v] 22)).alloc (.cells (pdC h t) 27)) := ((Fr.refl Non w).alloc _).alloc _
  have e1 : (w.alloc (.cells #[v] 22)).heap.size = w.heap.size + 1 := by simp
  have PB := pd_new (w.alloc (.cells #[v] 22)) _ h t rfl
  rw [e1] at PB
  have VB : Blk ((w.alloc (.cells #[v] 22)).alloc (.cells (pdC h t) 27)) w.heap.size 22 #[v] := (Blk.new _ _ _).fr ((Fr.refl Non _).alloc _) (fun e => e)
  have M1 := Lib.hid (fun W hk => pmay_big h t ks W hk hb hlen hdep)
  have C1 := Lib.hid (fun W hv => scheck_any v cols W hv (by omega) (fun c hc => by have := hcb c hc; omega))
  have A1 : Hid (∀ W, Blk W w.heap.size 22 #[v] → Ks W v cols → Fr Non w W → Calls Try.prog 24 #[pdV h t, .int .i64 1, .func (.func 25) #[] #[.pointer (some ⟨w.heap.size, 0, none⟩)]] W fun e w' => e = .returned (.bool (typP cols (.mk h ks))) ∧ Fr Non W w') := Lib.hid (fun W hB hV hF => by
    have h0 := all_any (RcT cols v w.heap.size) (stepT cols) 25 w.heap.size w
      (fun W s X hr q hq => by obtain ⟨_, _, rfl⟩ := hr; exact hq.elim)
      (fun W W' s X hr hf => ⟨hr.1.fr hf (fun e => e), hr.2.1.non hf, hr.2.2⟩) Try.call25 (fits1_any cols hcl v w w.heap.size) (.mk h ks)
      W () Non t 1 1 rfl hF ⟨hB, hV, rfl⟩ hk hb hlen (by omega)
    refine h0.mono ?_
    rintro e w' ⟨rfl, f1, _⟩
    rw [allT]
    exact ⟨by cases typP cols (.mk h ks) <;> rfl, f1⟩)
  have HE0 : Hid (fitP cols (.mk h ks) = if mayP (.mk h ks) = false ∨ ¬ chkC cols = 0 then 1 else if typP cols (.mk h ks) = true then 0 else 10) := Lib.hid rfl
  have hmf : ∀ (fn : Fn) (first cap : Array Value) (w : World), (Instr.makeFunc fn first cap).run Try.prog w = .ok (.func fn first cap) w := fun _ _ _ _ => rfl
  generalize fitP cols (.mk h ks) = r at *
  generalize mayP (.mk h ks) = b1 at *
  generalize typP cols (.mk h ks) = b2 at *
  generalize chkC cols = z at *
  have HK := Lib.hid (hk.non F0)
  have HV : Hid (Ks _ v cols) := Lib.hid (hv.non F0)
  obtain ⟨vA, vc, hve⟩ := hv.shape
  have F0 := Lib.hid F0
  have PB := Lib.hid PB
  have VB := Lib.hid VB
  clear hk hlen hv hdep e1
  obtain ⟨ho, hc, hm, ⟨vn, vi, vt⟩, hkd, hp⟩ := h
  obtain ⟨A, nn, c⟩ := t
  subst hve
  unfold pdV pdC kidV at *
  dsimp only at *
  cases b1
  · have HE : Hid (r = 1) := Lib.hid (by rw [HE0.out, if_pos (.inl rfl)])
    clear HE0 A1
    go_enter Try.func17, Try.ntmps17
    go_wp2_with fail
    refine (M1.out _ HK.out).mono ?_
    rintro e w1 ⟨rfl, f1⟩
    go_wp2
    go_ret
    exact ⟨ret_int HE.out.symm, F0.out.trans f1⟩
  · go_enter Try.func17, Try.ntmps17
    go_wp2_with fail
    refine (M1.out _ HK.out).mono ?_
    rintro e w1 ⟨rfl, f1⟩
    have PB1 := Lib.hid (PB.out.fr f1 (fun e => e))
    have VB1 := Lib.hid (VB.out.fr f1 (fun e => e))
    have HV1 : Hid (Ks w1 _ cols) := Lib.hid (HV.out.non f1)
    have F1 := Lib.hid (F0.out.trans f1)
    have c0 := VB1.out.cell 0
    simp at c0
    clear f1 M1 HK HV PB VB F0
    go_wp2_with fail
    refine (C1.out _ HV1.out).mono ?_
    rintro e w2 ⟨rfl, f2⟩
    have PB2 := Lib.hid (PB1.out.fr f2 (fun e => e))
    have VB2 := Lib.hid (VB1.out.fr f2 (fun e => e))
    have HV2 : Hid (Ks w2 _ cols) := Lib.hid (HV1.out.non f2)
    have F2 := Lib.hid (F1.out.trans f2)
    clear f2 C1 PB1 VB1 HV1 F1 c0
    by_cases hz : z = 0
    · subst hz
      have HE : Hid (r = if b2 = true then 0 else 10) := Lib.hid (by rw [HE0.out, if_neg (by simp)])
      obtain ⟨g0, g1, g2, g3, g4, g5, g6, g7, g8⟩ := pdB_cells PB2.out
      dsimp only at g0 g1 g2 g3 g4 g5 g6 g7 g8
      clear HE0
      go_wp2_with fail
      refine (A1.out _ VB2.out HV2.out F2.out).mono ?_
      rintro e w3 ⟨rfl, f3⟩
      cases b2
      · go_wp2
        go_ret
        exact ⟨ret_int HE.out.symm, F2.out.trans f3⟩
      · go_wp2
        go_ret
        exact ⟨ret_int HE.out.symm, F2.out.trans f3⟩
    · have HE : Hid (r = 1) := Lib.hid (by rw [HE0.out, if_pos (.inr hz)])
      have hb : (z != 0) = true := by rw [bne_iff_ne]; exact hz
      clear HE0 A1
      go_wp2
      go_ret
      exact ⟨ret_int HE.out.symm, F2.out⟩

end Go.Proofs.Ytnbhgkolfapblaa


namespace Go.Proofs.Ytnbhgkolfapblaa
set_option linter.unusedVariables false
set_option linter.unusedSimpArgs false
set_option maxRecDepth 100000
open Go.RowKit

theorem ecompared_any (ty : Int) (nl : Bool) (op : Int) (c v : Cl) (w : World) (hc : mayC ty nl c = true) (hv : mayC ty false v = true) :
    Calls Try.prog 44 #[anV (toA ty c), anV (toA ty v), .int .i64 op] w fun e w' => e = .returned (.int .i64 (cmpR op c v)) ∧ Fr Non w w' := by
  cases hn : c.null
  · obtain ⟨hT, hO⟩ := an_two hc hv hn (may_null hv)
    have HC := Lib.hid (fun W => eorder_any _ _ hT W)
    rw [hO] at HC
    have HA := Lib.hid (fun n W => eagrees_any op n W)
    have HY := Lib.hid (fun b W => etold_any b W)
    have HE : Hid (cmpR op c v = yesI (agrI op (ordC c v))) := Lib.hid (by unfold cmpR; rw [hn]; rfl)
    have hN := fun W u x => not_nil W u x
    have hsh : ∃ u x, anV (toA ty c) = .iface u x := by
      generalize toA ty c = a at hT
      generalize toA ty v = b at hT
      cases hT <;> exact ⟨_, _, rfl⟩
    obtain ⟨u, x, hux⟩ := hsh
    rw [hux] at HC ⊢
    generalize anV (toA ty v) = y at *
    generalize ordC c v = n at *
    clear hO hT hux hn hc hv
    go_enter Try.func44, Try.ntmps44
    go_wp2_with fail
    refine (HC.out _).mono ?_
    rintro e w1 ⟨rfl, f1⟩
    go_wp2_with fail
    refine (HA.out _ _).mono ?_
    rintro e w2 ⟨rfl, rfl⟩
    go_wp2_with fail
    refine (HY.out _ _).mono ?_
    rintro e w3 ⟨rfl, rfl⟩
    go_wp2
    go_ret
    exact ⟨ret_int HE.out.symm, f1⟩
  · have HE : Hid (cmpR op c v = 2) := Lib.hid (by unfold cmpR; rw [hn]; rfl)
    rw [toA_null hn]
    generalize anV (toA ty v) = y at *
    unfold anV
    have hN := fun W => nil_nil W
    clear hn hc hv
    go_enter Try.func44, Try.ntmps44
    go_wp2
    go_ret
    exact ⟨ret_int HE.out.symm, Fr.refl _ _⟩

/-- no value: no text -/
theorem as_nil_str (W : World) : (Instr.typeAssert .nilIface 20 9 true).run Try.prog W = .ok (.tuple #[.string ⟨#[]⟩, .bool false]) W := by kernel_rfl
theorem eliked_any (nl : Bool) (c : Cl) (p : Tx) (w : World) (hc : mayC 3 nl c = true) (hp : p.length ≤ 1000) :
    Calls Try.prog 48 #[anV (toA 3 c), .string ⟨p.toArray⟩] w fun e w' => e = .returned (.int .i64 (likR c p)) ∧ Fr Non w w' := by
  cases hn : c.null
  · have ht := mayC_text hc
    have HG := Lib.hid (fun W => gmatch_any p c.txt W (by omega) (by omega))
    have HY := Lib.hid (fun b W => etold_any b W)
    have HE : Hid (likR c p = yesI (matchU p c.txt)) := Lib.hid (by unfold likR; rw [hn]; rfl)
    have hA := fun W v => as_str_str W v
    have ht3 : toA 3 c = .text c.txt := by unfold toA; rw [hn]; rfl
    rw [ht3]
    unfold anV
    generalize c.txt = t at *
    generalize matchU p t = b at *
    clear hn hc ht ht3
    go_enter Try.func48, Try.ntmps48
    go_wp2_with fail
    refine (HG.out _).mono ?_
    rintro e w1 ⟨rfl, f1⟩
    go_wp2_with fail
    refine (HY.out _ _).mono ?_
    rintro e w2 ⟨rfl, rfl⟩
    go_wp2
    go_ret
    exact ⟨ret_int HE.out.symm, f1⟩
  · have HE : Hid (likR c p = 2) := Lib.hid (by unfold likR; rw [hn]; rfl)
    rw [toA_null hn]
    unfold anV
    have hA := fun W => as_nil_str W
    clear hn hc
    go_enter Try.func48, Try.ntmps48
    go_wp2
    go_ret
    exact ⟨ret_int HE.out.symm, Fr.refl _ _⟩

/-! ### A row's value -/
/-- a record's value, and its block -/
def recV (v1 v2 : Value) : Value := .agg #[v1, v2]
set_option maxHeartbeats 2000000 in
theorem evalue_any (v1 v2 : Value) (cols : List Co) (row : List Cl) (n : Tx) (k : Nat) (w : World) (h1 : Ks w v1 cols) (h2 : Cs w v2 row) (hcl : cols.length ≤ 1000) (hk : k < cols.length) (hk2 : k < row.length) (hf : findC cols n = some k) :
    Calls Try.prog 45 #[recV v1 v2, .string ⟨n.toArray⟩] w fun e w' => e = .returned (anV (toA cols[k].ty row[k])) ∧ Fr Non w w' := by
  obtain ⟨A1, c1, rfl⟩ := h1.shape
  obtain ⟨A2, c2, rfl⟩ := h2.shape
  have F0 : Fr Non w (w.alloc (.cells #[.slice A1 cols.length c1, .slice A2 row.length c2] 61)) := (Fr.refl Non w).alloc _
  have RB : Blk (w.alloc (.cells #[.slice A1 cols.length c1, .slice A2 row.length c2] 61)) w.heap.size 61 #[.slice A1 cols.length c1, .slice A2 row.length c2] := Blk.new _ _ _
  have FC := Lib.hid (fun W h => sfind_any (.slice A1 cols.length c1) cols n W h (by omega))
  rw [hf] at FC
  have HK1 : Hid (Ks _ (.slice A1 cols.length c1) cols) := Lib.hid (h1.non F0)
  have HC2 := Lib.hid (h2.non F0)
  replace F0 := Lib.hid F0
  replace RB := Lib.hid RB
  have HX := fun W => ato_any cols[k].ty row[k] W
  generalize anV (toA cols[k].ty row[k]) = r at *
  replace HX := Lib.hid HX
  unfold recV
  have g0 := RB.out.cell 0
  simp at g0
  clear h1 h2 hf
  go_enter Try.func45, Try.ntmps45
  go_wp2_with fail
  refine (FC.out _ HK1.out).mono ?_
  rintro e w1 ⟨rfl, f1⟩
  have RB1 := Lib.hid (RB.out.fr f1 (fun e => e))
  have HK2 : Hid (Ks w1 (.slice A1 cols.length c1) cols) := Lib.hid (HK1.out.non f1)
  have HC3 := Lib.hid (HC2.out.non f1)
  have F1 := Lib.hid (F0.out.trans f1).drew
  clear f1 HK1 HC2 RB F0 FC g0
  obtain ⟨a1, rfl, -, t1⟩ := Ks.findS HK2.out k (by omega)
  obtain ⟨a2, rfl, -, -, hel⟩ := HC3.out.addr (show 0 < row.length by omega)
  obtain ⟨t3, t4, t5⟩ := (hel k (by omega)).lit
  have t6 := RB1.out.cell 0
  have t7 := RB1.out.cell 1
  simp at t6 t7
  generalize cols[k].ty = ty at *
  generalize row[k] = c at *
  obtain ⟨yn, yt, yb⟩ := c
  unfold clV clC at HX
  dsimp only at t3 t4 t5 HX
  unfold findV
  replace t1 : w1.drew.cell? _ = _ := t1
  replace t3 : w1.drew.cell? _ = _ := t3
  replace t4 : w1.drew.cell? _ = _ := t4
  replace t5 : w1.drew.cell? _ = _ := t5
  replace t6 : w1.drew.cell? _ = _ := t6
  replace t7 : w1.drew.cell? _ = _ := t7
  clear hel HK2 HC3 RB1
  generalize w.heap.size = g at *
  go_wp2
  go_region_held3 (fun W => W.cell? ⟨g, 0, none⟩ = some (.slice (some a1) cols.length c1) ∧ W.cell? ⟨g, 1, none⟩ = some (.slice (some a2) row.length c2) ∧ W.cell? { block := (a1.add (k * 3)).block, off := (a1.add (k * 3)).off + 1 } = some (.int .i64 ty) ∧ W.cell? (a2.add (k * 3)) = some (.bool yn) ∧ W.cell? { block := (a2.add (k * 3)).block, off := (a2.add (k * 3)).off + 1 } = some (.int .i64 yt) ∧ W.cell? { block := (a2.add (k * 3)).block, off := (a2.add (k * 3)).off + 2 } = some (.string ⟨yb.toArray⟩)) (first | exact ⟨t6, t7, t1, t3, t4, t5⟩ | exact ⟨u6, u7, u1, u3, u4, u5⟩ | fail) (first | (go_at_call 46; refine (HX.out _).mono ?_; rintro e w4 ⟨rfl, f4⟩; have F4 := Lib.hid (F1.out.trans f4); have u1 := (f4.cell (World.block_lt_of_cell? _ _ t1) (fun e => e)).trans t1; have u3 := (f4.cell (World.block_lt_of_cell? _ _ t3) (fun e => e)).trans t3; have u4 := (f4.cell (World.block_lt_of_cell? _ _ t4) (fun e => e)).trans t4; have u5 := (f4.cell (World.block_lt_of_cell? _ _ t5) (fun e => e)).trans t5; have u6 := (f4.cell (World.block_lt_of_cell? _ _ t6) (fun e => e)).trans t6; have u7 := (f4.cell (World.block_lt_of_cell? _ _ t7) (fun e => e)).trans t7))
  clear u1 u3 u4 u5 u6 u7 f4 t1 t3 t4 t5 t6 t7 HX F1
  go_wp2
  go_ret
  exact ⟨rfl, F4.out⟩

/-! ### The document's comparison -/
theorem rcmp_any (a b : Cl) (op : Int) (w : World) : Calls Try.prog 35 #[clV a, .int .i64 op, clV b] w fun e w' => e = .returned (.bool (agrI op (ordC a b))) ∧ Fr Non w w' := by
  have HO := Lib.hid (fun W => rorder_any a b W)
  have F0 : Fr Non w ((w.alloc (.cells (clC a) 24)).alloc (.cells (clC b) 24)) := ((Fr.refl _ _).alloc _).alloc _
  replace F0 := Lib.hid F0
  generalize ordC a b = n at *
  obtain ⟨an, ai, at_⟩ := a
  obtain ⟨bn, bi, bt⟩ := b
  unfold clV clC at *
  dsimp only at *
  by_cases h1 : op = 1
  · subst h1
    go_enter Try.func35, Try.ntmps35
    go_wp2_with fail
    refine (HO.out _).mono ?_
    rintro e w1 ⟨rfl, f1⟩
    have F1 := Lib.hid (F0.out.trans f1)
    clear f1
    go_wp2
    go_ret
    exact ⟨rfl, F1.out⟩
  by_cases h2 : op = 2
  · subst h2
    go_enter Try.func35, Try.ntmps35
    go_wp2_with fail
    refine (HO.out _).mono ?_
    rintro e w1 ⟨rfl, f1⟩
    have F1 := Lib.hid (F0.out.trans f1)
    clear f1
    go_wp2
    go_ret
    exact ⟨rfl, F1.out⟩
  by_cases h3 : op = 3
  · subst h3
    go_enter Try.func35, Try.ntmps35
    go_wp2_with fail
    refine (HO.out _).mono ?_
    rintro e w1 ⟨rfl, f1⟩
    have F1 := Lib.hid (F0.out.trans f1)
    clear f1
    go_wp2
    go_ret
    exact ⟨rfl, F1.out⟩
  by_cases h4 : op = 4
  · subst h4
    go_enter Try.func35, Try.ntmps35
    go_wp2_with fail
    refine (HO.out _).mono ?_
    rintro e w1 ⟨rfl, f1⟩
    have F1 := Lib.hid (F0.out.trans f1)
    clear f1
    go_wp2
    go_ret
    exact ⟨rfl, F1.out⟩
  by_cases h5 : op = 5
  · subst h5
    go_enter Try.func35, Try.ntmps35
    go_wp2_with fail
    refine (HO.out _).mono ?_
    rintro e w1 ⟨rfl, f1⟩
    have F1 := Lib.hid (F0.out.trans f1)
    clear f1
    go_wp2
    go_ret
    exact ⟨rfl, F1.out⟩
  have HE := Lib.hid (agr_6 n h1 h2 h3 h4 h5)
  have b1 : (op == 1) = false := by rw [beq_eq_false_iff_ne]; exact h1
  have b2 : (op == 2) = false := by rw [beq_eq_false_iff_ne]; exact h2
  have b3 : (op == 3) = false := by rw [beq_eq_false_iff_ne]; exact h3
  have b4 : (op == 4) = false := by rw [beq_eq_false_iff_ne]; exact h4
  have b5 : (op == 5) = false := by rw [beq_eq_false_iff_ne]; exact h5
  clear h1 h2 h3 h4 h5
  go_enter Try.func35, Try.ntmps35
  go_wp2_with fail
  refine (HO.out _).mono ?_
  rintro e w1 ⟨rfl, f1⟩
  have F1 := Lib.hid (F0.out.trans f1)
  clear f1
  go_wp2
  go_ret
  exact ⟨ret_boolE HE.out.symm, F1.out⟩
end Go.Proofs.Ytnbhgkolfapblaa


namespace Go.Proofs.Ytnbhgkolfapblaa
set_option linter.unusedVariables false
set_option linter.unusedSimpArgs false
set_option maxRecDepth 100000
open Go.RowKit

/-- an element's slice is what it was -/
theorem Kd.elN {w w' : World} {s : Kv} {ps : List Pd} (h : Kd w s ps) (hf : Fr Non w w') (j : Nat) (hj : j < ps.length) :
    ∃ a t, s.A = some a ∧ PCells w' (a.add (j * 9)) ps[j].hd t ∧ Kd w t ps[j].kids ∧ I64b ps[j].hd.val.num := by
  obtain ⟨a, t, hA, hc, hk, hb⟩ := h.el j hj
  refine ⟨a, t, hA, ?_, hk, hb⟩
  obtain ⟨c0, c1, c2, c3, c4, c5, c6, c7, c8⟩ := hc
  have q : ∀ (p : Addr) (v : Value), w.cell? p = some v → w'.cell? p = some v := fun p v e => (hf.cell (World.block_lt_of_cell? w _ e) (fun e => e)).trans e
  exact ⟨q _ _ c0, q _ _ c1, q _ _ c2, q _ _ c3, q _ _ c4, q _ _ c5, q _ _ c6, q _ _ c7, q _ _ c8⟩

/-! ### How many -/
theorem sizeL_at {ks : List Pd} {k : Nat} (h : k < ks.length) (m : Int) (d : Nat) (n : Int) (hn : ¬ 16 < n) : sizeL (ks.drop k) m d n = sizeL (ks.drop (k + 1)) m d (n + sizeP ks[k] (m - n) d) := by
  rw [List.drop_eq_getElem_cons h, sizeL, if_neg hn]
theorem sizeL_end {ks : List Pd} {k : Nat} (h : ks.length ≤ k) (m : Int) (d : Nat) (n : Int) : sizeL (ks.drop k) m d n = n := by rw [List.drop_eq_nil_of_le h, sizeL]
set_option maxHeartbeats 2000000 in
theorem rsize_any (p : Pd) : ∀ (t : Kv) (m : Int) (d : Nat) (dz : Int) (w : World), dz = d → Kd w t p.kids → bigP p = true → -100 ≤ m → m ≤ 16 → d ≤ 100 →
    Calls Try.prog 51 #[pdV p.hd t, .int .i64 m, .int .i64 dz] w fun e w' => e = .returned (.int .i64 (sizeP p m d)) ∧ Fr Non w w' := by
  induction p using Pd.ind with
  | h hd ks ih =>
    intro t m d dz w hdz hk hlen hm1 hm2 hd1
    subst hdz
    have hn : t.n = ks.length := hk.len
    have hls := (bigP_mk hlen).1
    have F0 : Fr Non w (w.alloc (.cells (pdC hd t) 27)) := (Fr.refl Non w).alloc _
    have HB := Lib.hid (pd_new w _ hd t rfl)
    have HS : Hid (¬ (d < 1 ∨ m < 1) → sizeP (.mk hd ks) m d = sizeL ks m (d - 1) 1) := Lib.hid (fun h => by rw [sizeP, if_neg h])
    have HS0 : Hid ((d < 1 ∨ m < 1) → sizeP (.mk hd ks) m d = 17) := Lib.hid (fun h => by rw [sizeP, if_pos h])
    have HBd : Hid (∀ (k : Nat) (h : k < ks.length) (m' : Int), m' ≤ 16 → 1 ≤ sizeP ks[k] m' (d - 1) ∧ sizeP ks[k] m' (d - 1) ≤ 17 + 17 * (d - 1 : Nat)) := Lib.hid (fun k h m' hm' => (size_is ks[k] m' (d - 1) hm').2.2)
    have IH : Hid (1 ≤ d → ∀ k (h : k < ks.length) (W : World) (t' : Kv) (m' : Int), Kd W t' ks[k].kids → -100 ≤ m' → m' ≤ 16 →
        Calls Try.prog 51 #[pdV ks[k].hd t', .int .i64 m', .int .i64 ((d : Int) - 1)] W fun e w' => e = .returned (.int .i64 (sizeP ks[k] m' (d - 1))) ∧ Fr Non W w') :=
      Lib.hid (fun h1 k h W t' m' a b c => ih _ (List.getElem_mem h) t' m' (d - 1) _ W (by omega) a ((bigP_mk hlen).2.2.2.2 _ (List.getElem_mem h)) b c (by omega))
    generalize sizeP (.mk hd ks) m d = r at *
    have HK : Hid (Kd w t ks) := Lib.hid hk
    have HF := Lib.hid F0
    clear ih hk hlen F0
    obtain ⟨ho, hc, hm, ⟨vn, vi, vt⟩, hkd, hp⟩ := hd
    obtain ⟨A, n, c⟩ := t
    dsimp only at hn
    unfold pdV pdC kidV
    dsimp only [Pd.hd, Pd.kids]
    have HL := Lib.hid hn
    have hn20 : n ≤ 1000 := by omega
    clear hn hls
    by_cases h1 : d < 1
    · have HE := Lib.hid (HS0.out (.inl h1))
      clear HS HS0
      go_enter Try.func51, Try.ntmps51
      go_wp2
      go_ret
      exact ⟨ret_int HE.out.symm, HF.out⟩
    · by_cases h2 : m < 1
      · have HE := Lib.hid (HS0.out (.inr h2))
        clear HS HS0
        go_enter Try.func51, Try.ntmps51
        go_wp2
        go_ret
        exact ⟨ret_int HE.out.symm, HF.out⟩
      · have HE := Lib.hid (HS.out (by omega))
        have IH := Lib.hid (IH.out (by omega))
        clear HS HS0
        go_enter Try.func51, Try.ntmps51
        go_wp2
        go_loopw [7, 8] (fun v i wr => ∃ (k : Nat) (q : Int), k ≤ n ∧ i = .int .i64 k ∧ v = .int .i64 q ∧ 1 ≤ q ∧ q ≤ 4000 ∧ Hid (r = sizeL (ks.drop k) m (d - 1) q) ∧ Hid (Fr Non (w.alloc (.cells (pdC ⟨ho, hc, hm, ⟨vn, vi, vt⟩, hkd, hp⟩ ⟨A, n, c⟩) 27)) wr)) (fun _ i _ => n - (intOf i).toNat)
        case atStart => exact ⟨0, 1, Nat.zero_le _, rfl, rfl, by omega, by omega, HE, Lib.hid (Fr.refl _ _)⟩
        case round =>
          clear HE
          obtain ⟨k, q, hk, rfl, rfl, hq1, hq2, HE, FR⟩ := hrel
          have b8 := (HB.out.fr FR.out (fun e => e)).cell 8
          simp [pdC, kidV] at b8
          have HFw := Lib.hid (HF.out.trans FR.out)
          by_cases hlt : k < n
          · by_cases hq : q ≤ 16
            · have hlt2 : k < ks.length := by have := HL.out; omega
              obtain ⟨a, t, hA, hc2, hkk, _⟩ := HK.out.elN HFw.out k hlt2
              have HC := Lib.hid (IH.out k hlt2 wr t (m - q) (hkk.non HFw.out) (by omega) (by omega))
              have HY := Lib.hid (HE.out.trans (sizeL_at hlt2 m (d - 1) q (by omega)))
              have hbd := HBd.out k hlt2 (m - q) (by omega)
              have hs1 : 1 ≤ sizeP ks[k] (m - q) (d - 1) := hbd.1
              have hs2 : sizeP ks[k] (m - q) (d - 1) ≤ 3000 := by omega
              dsimp only at hA
              subst hA
              obtain ⟨c0, c1, c2, c3, c4, c5, c6, c7, c8⟩ := hc2
              clear hkk HE hbd
              generalize sizeP ks[k] (m - q) (d - 1) = z at *
              generalize ks[k].hd = x at *
              obtain ⟨xo, xc, xm, ⟨xn, xi, xt⟩, xk, xp⟩ := x
              obtain ⟨tA, tn, tc⟩ := t
              unfold pdV pdC kidV at HC
              dsimp only at HC c0 c1 c2 c3 c4 c5 c6 c7 c8
              go_wp2_with fail
              refine HC.out.mono ?_
              rintro e w2 ⟨rfl, f2⟩
              go_wp2
              go_roundw
              case rel => exact ⟨k + 1, q + z, by omega, by go_num, by go_num, by omega, by omega, HY, Lib.hid (FR.out.trans f2)⟩
              case measure => simp [intOf]; omega
            · have HE2 : Hid (r = q) := Lib.hid (HE.out.trans (sizeL_big _ m (d - 1) q (by omega)))
              clear HE
              go_wp2
              go_ret
              exact ⟨ret_int HE2.out.symm, HFw.out⟩
          · have HE2 : Hid (r = q) := Lib.hid (HE.out.trans (sizeL_end (by have := HL.out; omega) m (d - 1) q))
            clear HE
            go_wp2
            go_ret
            exact ⟨ret_int HE2.out.symm, HFw.out⟩

/-! ### One -/
/-- but for those within -/
def baseOk (h : Ph) (n : Nat) : Bool :=
  if h.op = 1 then decide (n = 0) && peq h ⟨h.op, [], 0, zCl, 0, []⟩
  else if h.op = 2 then nameB h.col && decide (1 ≤ h.cmp ∧ h.cmp ≤ 6) && mayC h.kind false h.val && decide (n = 0) && peq h ⟨h.op, h.col, h.cmp, h.val, h.kind, []⟩
  else if h.op = 3 then nameB h.col && decide (n = 0) && peq h ⟨h.op, h.col, 0, zCl, 0, []⟩
  else if h.op = 4 then nameB h.col && decide (h.pat.length ≤ 40) && decide (n = 0) && peq h ⟨h.op, h.col, 0, zCl, 0, h.pat⟩
  else if h.op = 5 then decide (n = 1) && peq h ⟨h.op, [], 0, zCl, 0, []⟩
  else if h.op = 6 ∨ h.op = 7 then decide (1 < n) && peq h ⟨h.op, [], 0, zCl, 0, []⟩
  else false
def okk (op : Int) (x : Pd) : Bool := oneP x && !(decide (6 ≤ op) && x.hd.op == op)
theorem all_okk (op : Int) (l : List Pd) : l.all (okk op) = (l.all oneP && !(decide (6 ≤ op) && kidOp op l)) := by
  unfold kidOp
  induction l with
  | nil => simp
  | cons x l ih =>
    rw [List.all_cons, List.all_cons, List.any_cons, ih]
    unfold okk
    cases oneP x <;> cases decide (6 ≤ op) <;> cases (x.hd.op == op) <;> cases l.all oneP <;> cases l.any (fun k => k.hd.op == op) <;> rfl
theorem one_base (h : Ph) (ks : List Pd) (n : Nat) (hn : n = ks.length) : oneP (.mk h ks) = (baseOk h n && ks.all (okk h.op)) := by
  subst hn
  rw [oneP, oneL_all, all_okk]
  unfold hdOk baseOk bareH askOk peq
  by_cases h1 : h.op = 1
  · rw [if_pos h1, if_pos h1, decide_eq_false (show ¬ 6 ≤ h.op by omega)]; simp
  · rw [if_neg h1, if_neg h1]
    by_cases h2 : h.op = 2
    · rw [if_pos (.inl h2), if_pos h2, if_pos h2, decide_eq_false (show ¬ 6 ≤ h.op by omega)]
      simp only [Bool.false_and, Bool.not_false, Bool.and_true]
      congr 1
      cases nameB h.col <;> cases decide (1 ≤ h.cmp ∧ h.cmp ≤ 6) <;> cases mayC h.kind false h.val <;> cases decide (ks.length = 0) <;> simp
    · rw [if_neg h2, if_neg h2]
      by_cases h3 : h.op = 3
      · rw [if_pos (.inr (.inl h3)), if_pos h3, if_neg (show ¬ h.op = 4 by omega), decide_eq_false (show ¬ 6 ≤ h.op by omega)]
        simp only [Bool.false_and, Bool.not_false, Bool.and_true]
        congr 1
        cases nameB h.col <;> cases decide (ks.length = 0) <;> simp
      · rw [if_neg h3]
        by_cases h4 : h.op = 4
        · rw [if_pos (.inr (.inr h4)), if_pos h4, if_pos h4, decide_eq_false (show ¬ 6 ≤ h.op by omega)]
          simp only [Bool.false_and, Bool.not_false, Bool.and_true]
          congr 1
          cases nameB h.col <;> cases decide (h.pat.length ≤ 40) <;> cases decide (ks.length = 0) <;> simp
        · rw [if_neg (by omega), if_neg h4]
          by_cases h5 : h.op = 5
          · rw [if_pos h5, if_pos h5, decide_eq_false (show ¬ 6 ≤ h.op by omega)]; simp
          · rw [if_neg h5, if_neg h5]
            by_cases h6 : h.op = 6 ∨ h.op = 7
            · rw [if_pos h6, if_pos h6, decide_eq_true (show 6 ≤ h.op by omega)]
              simp only [Bool.true_and]
              cases kidOp h.op ks <;> cases ks.all oneP <;> simp
            · rw [if_neg h6, if_neg h6]; rfl
theorem all_no {op : Int} {ks : List Pd} {k : Nat} (h : k < ks.length) (hb : okk op ks[k] = false) : ks.all (okk op) = false := by
  rw [List.all_eq_false]; exact ⟨_, List.getElem_mem h, by rw [hb]; simp⟩
theorem all_yes {op : Int} {ks : List Pd} {k : Nat} (h : ks.length ≤ k) (hb : ∀ j (h : j < ks.length), j < k → okk op ks[j] = true) : ks.all (okk op) = true := by
  rw [List.all_eq_true]
  intro x hx
  obtain ⟨j, hj, rfl⟩ := List.mem_iff_getElem.1 hx
  exact hb j hj (by omega)
theorem okk_more {op : Int} {ks : List Pd} {k : Nat} (hb : ∀ j (h : j < ks.length), j < k → okk op ks[j] = true) (h : k < ks.length) (hk : okk op ks[k] = true) : ∀ j (h : j < ks.length), j < k + 1 → okk op ks[j] = true := by
  intro j hj hlt
  by_cases e : j = k
  · subst e; exact hk
  · exact hb j hj (by omega)

theorem three_new (w : World) (g : Nat) (a b d : Ph) (s t u : Kv) (hg : w.heap.size = g) :
    PdB (((w.alloc (.cells (pdC a s) 27)).alloc (.cells (pdC b t) 27)).alloc (.cells (pdC d u) 27)) g a s ∧
    PdB (((w.alloc (.cells (pdC a s) 27)).alloc (.cells (pdC b t) 27)).alloc (.cells (pdC d u) 27)) (g + 1) b t ∧
    PdB (((w.alloc (.cells (pdC a s) 27)).alloc (.cells (pdC b t) 27)).alloc (.cells (pdC d u) 27)) (g + 1 + 1) d u := by
  have h := pd2_new w g a b s t hg.symm
  refine ⟨h.1.fr ((Fr.refl Non _).alloc _) (fun e => e), h.2.fr ((Fr.refl Non _).alloc _) (fun e => e), pd_new _ _ d u (by simp; omega)⟩

set_option maxHeartbeats 8000000 in
theorem rone1_any (h0_ : Ph) (ks : List Pd) (t : Kv) (w : World) (hop : h0_.op = 1) (hk : Kd w t ks) (hl : ks.length ≤ 1000) (hcl : h0_.col.length ≤ 1000)
    (IH : Hid (∀ k (h : k < ks.length) (W : World) (t' : Kv), Kd W t' ks[k].kids → Calls Try.prog 52 #[pdV ks[k].hd t'] W fun e w' => e = .returned (.bool (oneP ks[k])) ∧ Fr Non W w')) :
    Calls Try.prog 52 #[pdV h0_ t] w fun e w' => e = .returned (.bool (oneP (.mk h0_ ks))) ∧ Fr Non w w' := by
  have hn : t.n = ks.length := hk.len
  have N1 := Lib.hid (fun W => rname_any h0_.col W (by omega))
  have M1 := Lib.hid (fun W => rmay_any h0_.kind false h0_.val W)
  have HE := Lib.hid (one_base h0_ ks t.n hn)
  generalize oneP (.mk h0_ ks) = r at *
  have HK : Hid (Kd w t ks) := Lib.hid hk
  have PB0 : Hid (∀ b d, PdB (((w.alloc (.cells (pdC h0_ t) 27)).alloc b).alloc d) w.heap.size h0_ t) := Lib.hid (fun b d => (pd_new w _ h0_ t rfl).fr (((Fr.refl Non _).alloc b).alloc d) (fun e => e))
  obtain ⟨op, col, cmp, ⟨vn, vi, vt⟩, kind, pat⟩ := h0_
  obtain ⟨A, n, c⟩ := t
  dsimp only at hn hop hcl HE
  have HL := Lib.hid hn
  have hn20 : n ≤ 1000 := by omega
  have hs := slen pat
  clear hn hk hl
  unfold pdV pdC kidV
  unfold clV clC at M1
  dsimp only at *
  subst hop
  have FL := Lib.hid (fun W => flat_any ⟨1, col, cmp, ⟨vn, vi, vt⟩, kind, pat⟩ ⟨1, [], 0, zCl, 0, []⟩ noKv noKv W)
  have HE0 : Hid (r = (baseOk ⟨1, col, cmp, ⟨vn, vi, vt⟩, kind, pat⟩ n && ks.all (okk 1))) := HE
  clear HE
  unfold pdV pdC kidV noKv at FL
  replace HE0 : Hid (r = (decide (n = 0) && peq ⟨1, col, cmp, ⟨vn, vi, vt⟩, kind, pat⟩ ⟨1, [], 0, zCl, 0, []⟩ && ks.all (okk 1))) := HE0
  generalize peq ⟨1, col, cmp, ⟨vn, vi, vt⟩, kind, pat⟩ ⟨1, [], 0, zCl, 0, []⟩ = q at *
  unfold zCl at FL
  dsimp only at FL
  clear N1 M1
  by_cases h0 : n = 0
  · subst h0
    have HE1 : Hid (r = (q && ks.all (okk 1))) := Lib.hid (by rw [HE0.out]; simp)
    clear HE0
    have HE0 := HE1
    clear HE1
    go_enter Try.func52, Try.ntmps52
    go_wp2_with fail
    refine (FL.out _).mono ?_
    rintro e w1 ⟨rfl, f1⟩
    have F1 := Lib.hid ((((((Fr.refl Non w).alloc _).alloc _).alloc _)).trans f1)
    have PB := Lib.hid (((PB0.out _ _)).fr f1 (fun e => e))
    have HK1 := HK
    obtain ⟨g0, g1, g2, g3, g4, g5, g6, g7, g8⟩ := pdB_cells PB.out
    dsimp only at g0 g1 g2 g3 g4 g5 g6 g7 g8
    clear f1 HK1
    cases q
    · go_wp2
      go_ret
      exact ⟨ret_boolE (by rw [HE0.out]; simp), F1.out⟩
    · have HE : Hid (r = ks.all (okk 1)) := Lib.hid (by rw [HE0.out]; simp)
      clear HE0
      go_wp2
      go_loopw [5] (fun i wr => ∃ k : Nat, k ≤ 0 ∧ i = .int .i64 k ∧ Hid (∀ j (h : j < ks.length), j < k → okk 1 ks[j] = true) ∧ Hid (Fr Non w1 wr)) (fun i _ => 0 - (intOf i).toNat)
      case atStart => exact ⟨0, Nat.zero_le _, rfl, Lib.hid (fun _ _ h => by omega), Lib.hid (Fr.refl _ _)⟩
      case round =>
        clear g0 g1 g2 g3 g4 g5 g6 g7 g8
        obtain ⟨k, hk, rfl, HT, FR⟩ := hrel
        have FW := Lib.hid (F1.out.trans FR.out)
        by_cases hlt : k < 0
        · exact absurd hlt (by omega)
        · have b8 := (PB.out.fr FR.out (fun e => e)).cell 8
          simp [pdC, kidV] at b8
          have HE2 := Lib.hid (all_yes (op := 1) (by have := HL.out; omega) HT.out)
          clear HT
          go_wp2
          go_ret
          exact ⟨ret_boolE (by rw [HE.out, HE2.out]), FW.out⟩
  · have HE1 : Hid (r = false) := Lib.hid (by rw [HE0.out, decide_eq_false h0]; simp)
    have hb : 0 < n := by omega
    clear HE0 h0
    go_enter Try.func52, Try.ntmps52
    go_wp2
    go_ret
    exact ⟨ret_boolE HE1.out.symm, (((Fr.refl Non w).alloc _).alloc _).alloc _⟩

set_option maxHeartbeats 8000000 in
theorem rone2_any (h0_ : Ph) (ks : List Pd) (t : Kv) (w : World) (hop : h0_.op = 2) (hk : Kd w t ks) (hl : ks.length ≤ 1000) (hcl : h0_.col.length ≤ 1000)
    (IH : Hid (∀ k (h : k < ks.length) (W : World) (t' : Kv), Kd W t' ks[k].kids → Calls Try.prog 52 #[pdV ks[k].hd t'] W fun e w' => e = .returned (.bool (oneP ks[k])) ∧ Fr Non W w')) :
    Calls Try.prog 52 #[pdV h0_ t] w fun e w' => e = .returned (.bool (oneP (.mk h0_ ks))) ∧ Fr Non w w' := by
  have hn : t.n = ks.length := hk.len
  have N1 := Lib.hid (fun W => rname_any h0_.col W (by omega))
  have M1 := Lib.hid (fun W => rmay_any h0_.kind false h0_.val W)
  have HE := Lib.hid (one_base h0_ ks t.n hn)
  generalize oneP (.mk h0_ ks) = r at *
  have HK : Hid (Kd w t ks) := Lib.hid hk
  have PB0 : Hid (∀ b d, PdB (((w.alloc (.cells (pdC h0_ t) 27)).alloc b).alloc d) w.heap.size h0_ t) := Lib.hid (fun b d => (pd_new w _ h0_ t rfl).fr (((Fr.refl Non _).alloc b).alloc d) (fun e => e))
  obtain ⟨op, col, cmp, ⟨vn, vi, vt⟩, kind, pat⟩ := h0_
  obtain ⟨A, n, c⟩ := t
  dsimp only at hn hop hcl HE
  have HL := Lib.hid hn
  have hn20 : n ≤ 1000 := by omega
  have hs := slen pat
  clear hn hk hl
  unfold pdV pdC kidV
  unfold clV clC at M1
  dsimp only at *
  subst hop
  have FL := Lib.hid (fun W => flat_any ⟨2, col, cmp, ⟨vn, vi, vt⟩, kind, pat⟩ ⟨2, col, cmp, ⟨vn, vi, vt⟩, kind, []⟩ noKv noKv W)
  have HE0 : Hid (r = (baseOk ⟨2, col, cmp, ⟨vn, vi, vt⟩, kind, pat⟩ n && ks.all (okk 2))) := HE
  clear HE
  unfold pdV pdC kidV noKv at FL
  replace HE0 : Hid (r = (nameB col && decide (1 ≤ cmp ∧ cmp ≤ 6) && mayC kind false ⟨vn, vi, vt⟩ && decide (n = 0) && peq ⟨2, col, cmp, ⟨vn, vi, vt⟩, kind, pat⟩ ⟨2, col, cmp, ⟨vn, vi, vt⟩, kind, []⟩ && ks.all (okk 2))) := HE0
  generalize peq ⟨2, col, cmp, ⟨vn, vi, vt⟩, kind, pat⟩ ⟨2, col, cmp, ⟨vn, vi, vt⟩, kind, []⟩ = q at *
  dsimp only at FL
  generalize nameB col = b1 at *
  generalize mayC kind false ⟨vn, vi, vt⟩ = b2 at *
  cases b1
  · have HE1 : Hid (r = false) := Lib.hid (by rw [HE0.out]; simp)
    clear HE0
    go_enter Try.func52, Try.ntmps52
    go_wp2_with fail
    refine (N1.out _).mono ?_
    rintro e wn ⟨rfl, fn⟩
    go_wp2
    go_ret
    exact ⟨ret_boolE HE1.out.symm, ((((Fr.refl Non w).alloc _).alloc _).alloc _).trans fn⟩
  · by_cases h1 : 1 ≤ cmp
    · by_cases h6 : cmp ≤ 6
      · cases b2
        · have HE1 : Hid (r = false) := Lib.hid (by rw [HE0.out]; simp)
          clear HE0
          go_enter Try.func52, Try.ntmps52
          go_wp2_with fail
          refine (N1.out _).mono ?_
          rintro e wn ⟨rfl, fn⟩
          have FN : Hid (Fr Non w wn) := Lib.hid (((((Fr.refl Non w).alloc _).alloc _).alloc _).trans fn)
          have Q := three_new w w.heap.size ⟨2, col, cmp, ⟨vn, vi, vt⟩, kind, pat⟩ ⟨2, col, cmp, ⟨vn, vi, vt⟩, kind, pat⟩ ⟨2, col, cmp, ⟨vn, vi, vt⟩, kind, []⟩ ⟨A, n, c⟩ noKv noKv rfl
          have PBn : Hid (PdB wn w.heap.size ⟨2, col, cmp, ⟨vn, vi, vt⟩, kind, pat⟩ ⟨A, n, c⟩) := Lib.hid (Q.1.fr fn (fun e => e))
          have PB3 : Hid (PdB wn (w.heap.size + 1) ⟨2, col, cmp, ⟨vn, vi, vt⟩, kind, pat⟩ noKv) := Lib.hid (Q.2.1.fr fn (fun e => e))
          have PB4 : Hid (PdB wn (w.heap.size + 1 + 1) ⟨2, col, cmp, ⟨vn, vi, vt⟩, kind, []⟩ noKv) := Lib.hid (Q.2.2.fr fn (fun e => e))
          clear Q fn
          obtain ⟨g0, g1, g2, g3, g4, g5, g6, g7, g8⟩ := pdB_cells PBn.out
          dsimp only at g0 g1 g2 g3 g4 g5 g6 g7 g8
          obtain ⟨d0, d1, d2, d3, d4, d5, d6, d7, d8⟩ := pdB_cells PB3.out
          obtain ⟨e0, e1, e2, e3, e4, e5, e6, e7, e8⟩ := pdB_cells PB4.out
          dsimp only at d0 d1 d2 d3 d4 d5 d6 d7 d8 e0 e1 e2 e3 e4 e5 e6 e7 e8
          go_wp2_with fail
          refine (M1.out _).mono ?_
          rintro e wm ⟨rfl, fm⟩
          go_wp2
          go_ret
          exact ⟨ret_boolE HE1.out.symm, FN.out.trans fm⟩
        · have HE9 : Hid (r = (decide (n = 0) && q && ks.all (okk 2))) := Lib.hid (by rw [HE0.out, decide_eq_true (show 1 ≤ cmp ∧ cmp ≤ 6 from ⟨h1, h6⟩)]; simp)
          clear HE0
          have HE0 := HE9
          clear HE9
          by_cases h0 : n = 0
          · subst h0
            have HE1 : Hid (r = (q && ks.all (okk 2))) := Lib.hid (by rw [HE0.out]; simp)
            clear HE0
            have HE0 := HE1
            clear HE1
            go_enter Try.func52, Try.ntmps52
            go_wp2_with fail
            refine (N1.out _).mono ?_
            rintro e wn ⟨rfl, fn⟩
            have FN : Hid (Fr Non w wn) := Lib.hid (((((Fr.refl Non w).alloc _).alloc _).alloc _).trans fn)
            have Q := three_new w w.heap.size ⟨2, col, cmp, ⟨vn, vi, vt⟩, kind, pat⟩ ⟨2, col, cmp, ⟨vn, vi, vt⟩, kind, pat⟩ ⟨2, col, cmp, ⟨vn, vi, vt⟩, kind, []⟩ ⟨A, 0, c⟩ noKv noKv rfl
            have PBn : Hid (PdB wn w.heap.size ⟨2, col, cmp, ⟨vn, vi, vt⟩, kind, pat⟩ ⟨A, 0, c⟩) := Lib.hid (Q.1.fr fn (fun e => e))
            have PB3 : Hid (PdB wn (w.heap.size + 1) ⟨2, col, cmp, ⟨vn, vi, vt⟩, kind, pat⟩ noKv) := Lib.hid (Q.2.1.fr fn (fun e => e))
            have PB4 : Hid (PdB wn (w.heap.size + 1 + 1) ⟨2, col, cmp, ⟨vn, vi, vt⟩, kind, []⟩ noKv) := Lib.hid (Q.2.2.fr fn (fun e => e))
            clear Q fn
            obtain ⟨g0, g1, g2, g3, g4, g5, g6, g7, g8⟩ := pdB_cells PBn.out
            dsimp only at g0 g1 g2 g3 g4 g5 g6 g7 g8
            obtain ⟨d0, d1, d2, d3, d4, d5, d6, d7, d8⟩ := pdB_cells PB3.out
            obtain ⟨e0, e1, e2, e3, e4, e5, e6, e7, e8⟩ := pdB_cells PB4.out
            dsimp only at d0 d1 d2 d3 d4 d5 d6 d7 d8 e0 e1 e2 e3 e4 e5 e6 e7 e8
            go_wp2_with fail
            refine (M1.out _).mono ?_
            rintro e wm ⟨rfl, fm⟩
            have FM := Lib.hid (FN.out.trans fm)
            have PBm := Lib.hid (PBn.out.fr fm (fun e => e))
            have PB5 := Lib.hid (PB3.out.fr fm (fun e => e))
            have PB6 := Lib.hid (PB4.out.fr fm (fun e => e))
            clear g0 g1 g2 g3 g4 g5 g6 g7 g8 d0 d1 d2 d3 d4 d5 d6 d7 d8 e0 e1 e2 e3 e4 e5 e6 e7 e8 fm
            obtain ⟨g0, g1, g2, g3, g4, g5, g6, g7, g8⟩ := pdB_cells PBm.out
            obtain ⟨d0, d1, d2, d3, d4, d5, d6, d7, d8⟩ := pdB_cells PB5.out
            obtain ⟨e0, e1, e2, e3, e4, e5, e6, e7, e8⟩ := pdB_cells PB6.out
            dsimp only at g0 g1 g2 g3 g4 g5 g6 g7 g8 d0 d1 d2 d3 d4 d5 d6 d7 d8 e0 e1 e2 e3 e4 e5 e6 e7 e8
            go_wp2_with fail
            refine (FL.out _).mono ?_
            rintro e w1 ⟨rfl, f1⟩
            have F1 := Lib.hid ((FM.out).trans f1)
            have PB := Lib.hid ((PBm.out).fr f1 (fun e => e))
            have HK1 := HK
            obtain ⟨g0, g1, g2, g3, g4, g5, g6, g7, g8⟩ := pdB_cells PB.out
            dsimp only at g0 g1 g2 g3 g4 g5 g6 g7 g8
            clear f1 HK1
            cases q
            · go_wp2
              go_ret
              exact ⟨ret_boolE (by rw [HE0.out]; simp), F1.out⟩
            · have HE : Hid (r = ks.all (okk 2)) := Lib.hid (by rw [HE0.out]; simp)
              clear HE0
              go_wp2
              go_loopw [5] (fun i wr => ∃ k : Nat, k ≤ 0 ∧ i = .int .i64 k ∧ Hid (∀ j (h : j < ks.length), j < k → okk 2 ks[j] = true) ∧ Hid (Fr Non w1 wr)) (fun i _ => 0 - (intOf i).toNat)
              case atStart => exact ⟨0, Nat.zero_le _, rfl, Lib.hid (fun _ _ h => by omega), Lib.hid (Fr.refl _ _)⟩
              case round =>
                clear g0 g1 g2 g3 g4 g5 g6 g7 g8
                obtain ⟨k, hk, rfl, HT, FR⟩ := hrel
                have FW := Lib.hid (F1.out.trans FR.out)
                by_cases hlt : k < 0
                · exact absurd hlt (by omega)
                · have b8 := (PB.out.fr FR.out (fun e => e)).cell 8
                  simp [pdC, kidV] at b8
                  have HE2 := Lib.hid (all_yes (op := 2) (by have := HL.out; omega) HT.out)
                  clear HT
                  go_wp2
                  go_ret
                  exact ⟨ret_boolE (by rw [HE.out, HE2.out]), FW.out⟩
          · have HE1 : Hid (r = false) := Lib.hid (by rw [HE0.out, decide_eq_false h0]; simp)
            have hb : 0 < n := by omega
            clear HE0 h0
            go_enter Try.func52, Try.ntmps52
            go_wp2_with fail
            refine (N1.out _).mono ?_
            rintro e wn ⟨rfl, fn⟩
            have FN : Hid (Fr Non w wn) := Lib.hid (((((Fr.refl Non w).alloc _).alloc _).alloc _).trans fn)
            have Q := three_new w w.heap.size ⟨2, col, cmp, ⟨vn, vi, vt⟩, kind, pat⟩ ⟨2, col, cmp, ⟨vn, vi, vt⟩, kind, pat⟩ ⟨2, col, cmp, ⟨vn, vi, vt⟩, kind, []⟩ ⟨A, n, c⟩ noKv noKv rfl
            have PBn : Hid (PdB wn w.heap.size ⟨2, col, cmp, ⟨vn, vi, vt⟩, kind, pat⟩ ⟨A, n, c⟩) := Lib.hid (Q.1.fr fn (fun e => e))
            have PB3 : Hid (PdB wn (w.heap.size + 1) ⟨2, col, cmp, ⟨vn, vi, vt⟩, kind, pat⟩ noKv) := Lib.hid (Q.2.1.fr fn (fun e => e))
            have PB4 : Hid (PdB wn (w.heap.size + 1 + 1) ⟨2, col, cmp, ⟨vn, vi, vt⟩, kind, []⟩ noKv) := Lib.hid (Q.2.2.fr fn (fun e => e))
            clear Q fn
            obtain ⟨g0, g1, g2, g3, g4, g5, g6, g7, g8⟩ := pdB_cells PBn.out
            dsimp only at g0 g1 g2 g3 g4 g5 g6 g7 g8
            obtain ⟨d0, d1, d2, d3, d4, d5, d6, d7, d8⟩ := pdB_cells PB3.out
            obtain ⟨e0, e1, e2, e3, e4, e5, e6, e7, e8⟩ := pdB_cells PB4.out
            dsimp only at d0 d1 d2 d3 d4 d5 d6 d7 d8 e0 e1 e2 e3 e4 e5 e6 e7 e8
            go_wp2_with fail
            refine (M1.out _).mono ?_
            rintro e wm ⟨rfl, fm⟩
            have FM := Lib.hid (FN.out.trans fm)
            have PBm := Lib.hid (PBn.out.fr fm (fun e => e))
            have PB5 := Lib.hid (PB3.out.fr fm (fun e => e))
            have PB6 := Lib.hid (PB4.out.fr fm (fun e => e))
            clear g0 g1 g2 g3 g4 g5 g6 g7 g8 d0 d1 d2 d3 d4 d5 d6 d7 d8 e0 e1 e2 e3 e4 e5 e6 e7 e8 fm
            obtain ⟨g0, g1, g2, g3, g4, g5, g6, g7, g8⟩ := pdB_cells PBm.out
            obtain ⟨d0, d1, d2, d3, d4, d5, d6, d7, d8⟩ := pdB_cells PB5.out
            obtain ⟨e0, e1, e2, e3, e4, e5, e6, e7, e8⟩ := pdB_cells PB6.out
            dsimp only at g0 g1 g2 g3 g4 g5 g6 g7 g8 d0 d1 d2 d3 d4 d5 d6 d7 d8 e0 e1 e2 e3 e4 e5 e6 e7 e8
            go_wp2
            go_ret
            exact ⟨ret_boolE HE1.out.symm, FM.out⟩
      · have HE1 : Hid (r = false) := Lib.hid (by rw [HE0.out, decide_eq_false (show ¬ (1 ≤ cmp ∧ cmp ≤ 6) from fun e => h6 e.2)]; simp)
        clear HE0
        go_enter Try.func52, Try.ntmps52
        go_wp2_with fail
        refine (N1.out _).mono ?_
        rintro e wn ⟨rfl, fn⟩
        have FN : Hid (Fr Non w wn) := Lib.hid (((((Fr.refl Non w).alloc _).alloc _).alloc _).trans fn)
        have Q := three_new w w.heap.size ⟨2, col, cmp, ⟨vn, vi, vt⟩, kind, pat⟩ ⟨2, col, cmp, ⟨vn, vi, vt⟩, kind, pat⟩ ⟨2, col, cmp, ⟨vn, vi, vt⟩, kind, []⟩ ⟨A, n, c⟩ noKv noKv rfl
        have PBn : Hid (PdB wn w.heap.size ⟨2, col, cmp, ⟨vn, vi, vt⟩, kind, pat⟩ ⟨A, n, c⟩) := Lib.hid (Q.1.fr fn (fun e => e))
        have PB3 : Hid (PdB wn (w.heap.size + 1) ⟨2, col, cmp, ⟨vn, vi, vt⟩, kind, pat⟩ noKv) := Lib.hid (Q.2.1.fr fn (fun e => e))
        have PB4 : Hid (PdB wn (w.heap.size + 1 + 1) ⟨2, col, cmp, ⟨vn, vi, vt⟩, kind, []⟩ noKv) := Lib.hid (Q.2.2.fr fn (fun e => e))
        clear Q fn
        obtain ⟨g0, g1, g2, g3, g4, g5, g6, g7, g8⟩ := pdB_cells PBn.out
        dsimp only at g0 g1 g2 g3 g4 g5 g6 g7 g8
        obtain ⟨d0, d1, d2, d3, d4, d5, d6, d7, d8⟩ := pdB_cells PB3.out
        obtain ⟨e0, e1, e2, e3, e4, e5, e6, e7, e8⟩ := pdB_cells PB4.out
        dsimp only at d0 d1 d2 d3 d4 d5 d6 d7 d8 e0 e1 e2 e3 e4 e5 e6 e7 e8
        go_wp2
        go_ret
        exact ⟨ret_boolE HE1.out.symm, FN.out⟩
    · have HE1 : Hid (r = false) := Lib.hid (by rw [HE0.out, decide_eq_false (show ¬ (1 ≤ cmp ∧ cmp ≤ 6) from fun e => h1 e.1)]; simp)
      clear HE0
      go_enter Try.func52, Try.ntmps52
      go_wp2_with fail
      refine (N1.out _).mono ?_
      rintro e wn ⟨rfl, fn⟩
      have FN : Hid (Fr Non w wn) := Lib.hid (((((Fr.refl Non w).alloc _).alloc _).alloc _).trans fn)
      have Q := three_new w w.heap.size ⟨2, col, cmp, ⟨vn, vi, vt⟩, kind, pat⟩ ⟨2, col, cmp, ⟨vn, vi, vt⟩, kind, pat⟩ ⟨2, col, cmp, ⟨vn, vi, vt⟩, kind, []⟩ ⟨A, n, c⟩ noKv noKv rfl
      have PBn : Hid (PdB wn w.heap.size ⟨2, col, cmp, ⟨vn, vi, vt⟩, kind, pat⟩ ⟨A, n, c⟩) := Lib.hid (Q.1.fr fn (fun e => e))
      have PB3 : Hid (PdB wn (w.heap.size + 1) ⟨2, col, cmp, ⟨vn, vi, vt⟩, kind, pat⟩ noKv) := Lib.hid (Q.2.1.fr fn (fun e => e))
      have PB4 : Hid (PdB wn (w.heap.size + 1 + 1) ⟨2, col, cmp, ⟨vn, vi, vt⟩, kind, []⟩ noKv) := Lib.hid (Q.2.2.fr fn (fun e => e))
      clear Q fn
      obtain ⟨g0, g1, g2, g3, g4, g5, g6, g7, g8⟩ := pdB_cells PBn.out
      dsimp only at g0 g1 g2 g3 g4 g5 g6 g7 g8
      obtain ⟨d0, d1, d2, d3, d4, d5, d6, d7, d8⟩ := pdB_cells PB3.out
      obtain ⟨e0, e1, e2, e3, e4, e5, e6, e7, e8⟩ := pdB_cells PB4.out
      dsimp only at d0 d1 d2 d3 d4 d5 d6 d7 d8 e0 e1 e2 e3 e4 e5 e6 e7 e8
      go_wp2
      go_ret
      exact ⟨ret_boolE HE1.out.symm, FN.out⟩

set_option maxHeartbeats 8000000 in
theorem rone3_any (h0_ : Ph) (ks : List Pd) (t : Kv) (w : World) (hop : h0_.op = 3) (hk : Kd w t ks) (hl : ks.length ≤ 1000) (hcl : h0_.col.length ≤ 1000)
    (IH : Hid (∀ k (h : k < ks.length) (W : World) (t' : Kv), Kd W t' ks[k].kids → Calls Try.prog 52 #[pdV ks[k].hd t'] W fun e w' => e = .returned (.bool (oneP ks[k])) ∧ Fr Non W w')) :
    Calls Try.prog 52 #[pdV h0_ t] w fun e w' => e = .returned (.bool (oneP (.mk h0_ ks))) ∧ Fr Non w w' := by
  have hn : t.n = ks.length := hk.len
  have N1 := Lib.hid (fun W => rname_any h0_.col W (by omega))
  have M1 := Lib.hid (fun W => rmay_any h0_.kind false h0_.val W)
  have HE := Lib.hid (one_base h0_ ks t.n hn)
  generalize oneP (.mk h0_ ks) = r at *
  have HK : Hid (Kd w t ks) := Lib.hid hk
  have PB0 : Hid (∀ b d, PdB (((w.alloc (.cells (pdC h0_ t) 27)).alloc b).alloc d) w.heap.size h0_ t) := Lib.hid (fun b d => (pd_new w _ h0_ t rfl).fr (((Fr.refl Non _).alloc b).alloc d) (fun e => e))
  obtain ⟨op, col, cmp, ⟨vn, vi, vt⟩, kind, pat⟩ := h0_
  obtain ⟨A, n, c⟩ := t
  dsimp only at hn hop hcl HE
  have HL := Lib.hid hn
  have hn20 : n ≤ 1000 := by omega
  have hs := slen pat
  clear hn hk hl
  unfold pdV pdC kidV
  unfold clV clC at M1
  dsimp only at *
  subst hop
  have FL := Lib.hid (fun W => flat_any ⟨3, col, cmp, ⟨vn, vi, vt⟩, kind, pat⟩ ⟨3, col, 0, zCl, 0, []⟩ noKv noKv W)
  have HE0 : Hid (r = (baseOk ⟨3, col, cmp, ⟨vn, vi, vt⟩, kind, pat⟩ n && ks.all (okk 3))) := HE
  clear HE
  unfold pdV pdC kidV noKv at FL
  replace HE0 : Hid (r = (nameB col && decide (n = 0) && peq ⟨3, col, cmp, ⟨vn, vi, vt⟩, kind, pat⟩ ⟨3, col, 0, zCl, 0, []⟩ && ks.all (okk 3))) := HE0
  generalize peq ⟨3, col, cmp, ⟨vn, vi, vt⟩, kind, pat⟩ ⟨3, col, 0, zCl, 0, []⟩ = q at *
  unfold zCl at FL
  dsimp only at FL
  clear M1
  generalize nameB col = b1 at *
  cases b1
  · have HE1 : Hid (r = false) := Lib.hid (by rw [HE0.out]; simp)
    clear HE0
    go_enter Try.func52, Try.ntmps52
    go_wp2_with fail
    refine (N1.out _).mono ?_
    rintro e wn ⟨rfl, fn⟩
    go_wp2
    go_ret
    exact ⟨ret_boolE HE1.out.symm, ((((Fr.refl Non w).alloc _).alloc _).alloc _).trans fn⟩
  · have HE9 : Hid (r = (decide (n = 0) && q && ks.all (okk 3))) := Lib.hid (by rw [HE0.out]; simp)
    clear HE0
    have HE0 := HE9
    clear HE9
    by_cases h0 : n = 0
    · subst h0
      have HE1 : Hid (r = (q && ks.all (okk 3))) := Lib.hid (by rw [HE0.out]; simp)
      clear HE0
      have HE0 := HE1
      clear HE1
      go_enter Try.func52, Try.ntmps52
      go_wp2_with fail
      refine (N1.out _).mono ?_
      rintro e wn ⟨rfl, fn⟩
      have FN : Hid (Fr Non w wn) := Lib.hid (((((Fr.refl Non w).alloc _).alloc _).alloc _).trans fn)
      have Q := three_new w w.heap.size ⟨3, col, cmp, ⟨vn, vi, vt⟩, kind, pat⟩ ⟨3, col, cmp, ⟨vn, vi, vt⟩, kind, pat⟩ ⟨3, col, 0, ⟨false, 0, []⟩, 0, []⟩ ⟨A, 0, c⟩ noKv noKv rfl
      have PBn : Hid (PdB wn w.heap.size ⟨3, col, cmp, ⟨vn, vi, vt⟩, kind, pat⟩ ⟨A, 0, c⟩) := Lib.hid (Q.1.fr fn (fun e => e))
      have PB3 : Hid (PdB wn (w.heap.size + 1) ⟨3, col, cmp, ⟨vn, vi, vt⟩, kind, pat⟩ noKv) := Lib.hid (Q.2.1.fr fn (fun e => e))
      have PB4 : Hid (PdB wn (w.heap.size + 1 + 1) ⟨3, col, 0, ⟨false, 0, []⟩, 0, []⟩ noKv) := Lib.hid (Q.2.2.fr fn (fun e => e))
      clear Q fn
      obtain ⟨g0, g1, g2, g3, g4, g5, g6, g7, g8⟩ := pdB_cells PBn.out
      dsimp only at g0 g1 g2 g3 g4 g5 g6 g7 g8
      obtain ⟨d0, d1, d2, d3, d4, d5, d6, d7, d8⟩ := pdB_cells PB3.out
      obtain ⟨e0, e1, e2, e3, e4, e5, e6, e7, e8⟩ := pdB_cells PB4.out
      dsimp only at d0 d1 d2 d3 d4 d5 d6 d7 d8 e0 e1 e2 e3 e4 e5 e6 e7 e8
      go_wp2_with fail
      refine (FL.out _).mono ?_
      rintro e w1 ⟨rfl, f1⟩
      have F1 := Lib.hid ((FN.out).trans f1)
      have PB := Lib.hid ((PBn.out).fr f1 (fun e => e))
      have HK1 := HK
      obtain ⟨g0, g1, g2, g3, g4, g5, g6, g7, g8⟩ := pdB_cells PB.out
      dsimp only at g0 g1 g2 g3 g4 g5 g6 g7 g8
      clear f1 HK1
      cases q
      · go_wp2
        go_ret
        exact ⟨ret_boolE (by rw [HE0.out]; simp), F1.out⟩
      · have HE : Hid (r = ks.all (okk 3)) := Lib.hid (by rw [HE0.out]; simp)
        clear HE0
        go_wp2
        go_loopw [5] (fun i wr => ∃ k : Nat, k ≤ 0 ∧ i = .int .i64 k ∧ Hid (∀ j (h : j < ks.length), j < k → okk 3 ks[j] = true) ∧ Hid (Fr Non w1 wr)) (fun i _ => 0 - (intOf i).toNat)
        case atStart => exact ⟨0, Nat.zero_le _, rfl, Lib.hid (fun _ _ h => by omega), Lib.hid (Fr.refl _ _)⟩
        case round =>
          clear g0 g1 g2 g3 g4 g5 g6 g7 g8
          obtain ⟨k, hk, rfl, HT, FR⟩ := hrel
          have FW := Lib.hid (F1.out.trans FR.out)
          by_cases hlt : k < 0
          · exact absurd hlt (by omega)
          · have b8 := (PB.out.fr FR.out (fun e => e)).cell 8
            simp [pdC, kidV] at b8
            have HE2 := Lib.hid (all_yes (op := 3) (by have := HL.out; omega) HT.out)
            clear HT
            go_wp2
            go_ret
            exact ⟨ret_boolE (by rw [HE.out, HE2.out]), FW.out⟩
    · have HE1 : Hid (r = false) := Lib.hid (by rw [HE0.out, decide_eq_false h0]; simp)
      have hb : 0 < n := by omega
      clear HE0 h0
      go_enter Try.func52, Try.ntmps52
      go_wp2_with fail
      refine (N1.out _).mono ?_
      rintro e wn ⟨rfl, fn⟩
      have FN : Hid (Fr Non w wn) := Lib.hid (((((Fr.refl Non w).alloc _).alloc _).alloc _).trans fn)
      have Q := three_new w w.heap.size ⟨3, col, cmp, ⟨vn, vi, vt⟩, kind, pat⟩ ⟨3, col, cmp, ⟨vn, vi, vt⟩, kind, pat⟩ ⟨3, col, 0, ⟨false, 0, []⟩, 0, []⟩ ⟨A, n, c⟩ noKv noKv rfl
      have PBn : Hid (PdB wn w.heap.size ⟨3, col, cmp, ⟨vn, vi, vt⟩, kind, pat⟩ ⟨A, n, c⟩) := Lib.hid (Q.1.fr fn (fun e => e))
      have PB3 : Hid (PdB wn (w.heap.size + 1) ⟨3, col, cmp, ⟨vn, vi, vt⟩, kind, pat⟩ noKv) := Lib.hid (Q.2.1.fr fn (fun e => e))
      have PB4 : Hid (PdB wn (w.heap.size + 1 + 1) ⟨3, col, 0, ⟨false, 0, []⟩, 0, []⟩ noKv) := Lib.hid (Q.2.2.fr fn (fun e => e))
      clear Q fn
      obtain ⟨g0, g1, g2, g3, g4, g5, g6, g7, g8⟩ := pdB_cells PBn.out
      dsimp only at g0 g1 g2 g3 g4 g5 g6 g7 g8
      obtain ⟨d0, d1, d2, d3, d4, d5, d6, d7, d8⟩ := pdB_cells PB3.out
      obtain ⟨e0, e1, e2, e3, e4, e5, e6, e7, e8⟩ := pdB_cells PB4.out
      dsimp only at d0 d1 d2 d3 d4 d5 d6 d7 d8 e0 e1 e2 e3 e4 e5 e6 e7 e8
      go_wp2
      go_ret
      exact ⟨ret_boolE HE1.out.symm, FN.out⟩

set_option maxHeartbeats 8000000 in
theorem rone4_any (h0_ : Ph) (ks : List Pd) (t : Kv) (w : World) (hop : h0_.op = 4) (hk : Kd w t ks) (hl : ks.length ≤ 1000) (hcl : h0_.col.length ≤ 1000)
    (IH : Hid (∀ k (h : k < ks.length) (W : World) (t' : Kv), Kd W t' ks[k].kids → Calls Try.prog 52 #[pdV ks[k].hd t'] W fun e w' => e = .returned (.bool (oneP ks[k])) ∧ Fr Non W w')) :
    Calls Try.prog 52 #[pdV h0_ t] w fun e w' => e = .returned (.bool (oneP (.mk h0_ ks))) ∧ Fr Non w w' := by
  have hn : t.n = ks.length := hk.len
  have N1 := Lib.hid (fun W => rname_any h0_.col W (by omega))
  have M1 := Lib.hid (fun W => rmay_any h0_.kind false h0_.val W)
  have HE := Lib.hid (one_base h0_ ks t.n hn)
  generalize oneP (.mk h0_ ks) = r at *
  have HK : Hid (Kd w t ks) := Lib.hid hk
  have PB0 : Hid (∀ b d, PdB (((w.alloc (.cells (pdC h0_ t) 27)).alloc b).alloc d) w.heap.size h0_ t) := Lib.hid (fun b d => (pd_new w _ h0_ t rfl).fr (((Fr.refl Non _).alloc b).alloc d) (fun e => e))
  obtain ⟨op, col, cmp, ⟨vn, vi, vt⟩, kind, pat⟩ := h0_
  obtain ⟨A, n, c⟩ := t
  dsimp only at hn hop hcl HE
  have HL := Lib.hid hn
  have hn20 : n ≤ 1000 := by omega
  have hs := slen pat
  clear hn hk hl
  unfold pdV pdC kidV
  unfold clV clC at M1
  dsimp only at *
  subst hop
  have FL := Lib.hid (fun W => flat_any ⟨4, col, cmp, ⟨vn, vi, vt⟩, kind, pat⟩ ⟨4, col, 0, zCl, 0, pat⟩ noKv noKv W)
  have HE0 : Hid (r = (baseOk ⟨4, col, cmp, ⟨vn, vi, vt⟩, kind, pat⟩ n && ks.all (okk 4))) := HE
  clear HE
  unfold pdV pdC kidV noKv at FL
  replace HE0 : Hid (r = (nameB col && decide (pat.length ≤ 40) && decide (n = 0) && peq ⟨4, col, cmp, ⟨vn, vi, vt⟩, kind, pat⟩ ⟨4, col, 0, zCl, 0, pat⟩ && ks.all (okk 4))) := HE0
  generalize peq ⟨4, col, cmp, ⟨vn, vi, vt⟩, kind, pat⟩ ⟨4, col, 0, zCl, 0, pat⟩ = q at *
  unfold zCl at FL
  dsimp only at FL
  clear M1
  generalize nameB col = b1 at *
  cases b1
  · have HE1 : Hid (r = false) := Lib.hid (by rw [HE0.out]; simp)
    clear HE0
    go_enter Try.func52, Try.ntmps52
    go_wp2_with fail
    refine (N1.out _).mono ?_
    rintro e wn ⟨rfl, fn⟩
    go_wp2
    go_ret
    exact ⟨ret_boolE HE1.out.symm, ((((Fr.refl Non w).alloc _).alloc _).alloc _).trans fn⟩
  · by_cases h40 : pat.length ≤ 40
    · have hpl : ¬ 40 < pat.length := by omega
      have HE9 : Hid (r = (decide (n = 0) && q && ks.all (okk 4))) := Lib.hid (by rw [HE0.out, decide_eq_true h40]; simp)
      clear HE0
      have HE0 := HE9
      clear HE9
      by_cases h0 : n = 0
      · subst h0
        have HE1 : Hid (r = (q && ks.all (okk 4))) := Lib.hid (by rw [HE0.out]; simp)
        clear HE0
        have HE0 := HE1
        clear HE1
        go_enter Try.func52, Try.ntmps52
        go_wp2_with fail
        refine (N1.out _).mono ?_
        rintro e wn ⟨rfl, fn⟩
        have FN : Hid (Fr Non w wn) := Lib.hid (((((Fr.refl Non w).alloc _).alloc _).alloc _).trans fn)
        have Q := three_new w w.heap.size ⟨4, col, cmp, ⟨vn, vi, vt⟩, kind, pat⟩ ⟨4, col, cmp, ⟨vn, vi, vt⟩, kind, pat⟩ ⟨4, col, 0, ⟨false, 0, []⟩, 0, pat⟩ ⟨A, 0, c⟩ noKv noKv rfl
        have PBn : Hid (PdB wn w.heap.size ⟨4, col, cmp, ⟨vn, vi, vt⟩, kind, pat⟩ ⟨A, 0, c⟩) := Lib.hid (Q.1.fr fn (fun e => e))
        have PB3 : Hid (PdB wn (w.heap.size + 1) ⟨4, col, cmp, ⟨vn, vi, vt⟩, kind, pat⟩ noKv) := Lib.hid (Q.2.1.fr fn (fun e => e))
        have PB4 : Hid (PdB wn (w.heap.size + 1 + 1) ⟨4, col, 0, ⟨false, 0, []⟩, 0, pat⟩ noKv) := Lib.hid (Q.2.2.fr fn (fun e => e))
        clear Q fn
        obtain ⟨g0, g1, g2, g3, g4, g5, g6, g7, g8⟩ := pdB_cells PBn.out
        dsimp only at g0 g1 g2 g3 g4 g5 g6 g7 g8
        obtain ⟨d0, d1, d2, d3, d4, d5, d6, d7, d8⟩ := pdB_cells PB3.out
        obtain ⟨e0, e1, e2, e3, e4, e5, e6, e7, e8⟩ := pdB_cells PB4.out
        dsimp only at d0 d1 d2 d3 d4 d5 d6 d7 d8 e0 e1 e2 e3 e4 e5 e6 e7 e8
        go_wp2_with fail
        refine (FL.out _).mono ?_
        rintro e w1 ⟨rfl, f1⟩
        have F1 := Lib.hid ((FN.out).trans f1)
        have PB := Lib.hid ((PBn.out).fr f1 (fun e => e))
        have HK1 := HK
        obtain ⟨g0, g1, g2, g3, g4, g5, g6, g7, g8⟩ := pdB_cells PB.out
        dsimp only at g0 g1 g2 g3 g4 g5 g6 g7 g8
        clear f1 HK1
        cases q
        · go_wp2
          go_ret
          exact ⟨ret_boolE (by rw [HE0.out]; simp), F1.out⟩
        · have HE : Hid (r = ks.all (okk 4)) := Lib.hid (by rw [HE0.out]; simp)
          clear HE0
          go_wp2
          go_loopw [5] (fun i wr => ∃ k : Nat, k ≤ 0 ∧ i = .int .i64 k ∧ Hid (∀ j (h : j < ks.length), j < k → okk 4 ks[j] = true) ∧ Hid (Fr Non w1 wr)) (fun i _ => 0 - (intOf i).toNat)
          case atStart => exact ⟨0, Nat.zero_le _, rfl, Lib.hid (fun _ _ h => by omega), Lib.hid (Fr.refl _ _)⟩
          case round =>
            clear g0 g1 g2 g3 g4 g5 g6 g7 g8
            obtain ⟨k, hk, rfl, HT, FR⟩ := hrel
            have FW := Lib.hid (F1.out.trans FR.out)
            by_cases hlt : k < 0
            · exact absurd hlt (by omega)
            · have b8 := (PB.out.fr FR.out (fun e => e)).cell 8
              simp [pdC, kidV] at b8
              have HE2 := Lib.hid (all_yes (op := 4) (by have := HL.out; omega) HT.out)
              clear HT
              go_wp2
              go_ret
              exact ⟨ret_boolE (by rw [HE.out, HE2.out]), FW.out⟩
      · have HE1 : Hid (r = false) := Lib.hid (by rw [HE0.out, decide_eq_false h0]; simp)
        have hb : 0 < n := by omega
        clear HE0 h0
        go_enter Try.func52, Try.ntmps52
        go_wp2_with fail
        refine (N1.out _).mono ?_
        rintro e wn ⟨rfl, fn⟩
        have FN : Hid (Fr Non w wn) := Lib.hid (((((Fr.refl Non w).alloc _).alloc _).alloc _).trans fn)
        have Q := three_new w w.heap.size ⟨4, col, cmp, ⟨vn, vi, vt⟩, kind, pat⟩ ⟨4, col, cmp, ⟨vn, vi, vt⟩, kind, pat⟩ ⟨4, col, 0, ⟨false, 0, []⟩, 0, pat⟩ ⟨A, n, c⟩ noKv noKv rfl
        have PBn : Hid (PdB wn w.heap.size ⟨4, col, cmp, ⟨vn, vi, vt⟩, kind, pat⟩ ⟨A, n, c⟩) := Lib.hid (Q.1.fr fn (fun e => e))
        have PB3 : Hid (PdB wn (w.heap.size + 1) ⟨4, col, cmp, ⟨vn, vi, vt⟩, kind, pat⟩ noKv) := Lib.hid (Q.2.1.fr fn (fun e => e))
        have PB4 : Hid (PdB wn (w.heap.size + 1 + 1) ⟨4, col, 0, ⟨false, 0, []⟩, 0, pat⟩ noKv) := Lib.hid (Q.2.2.fr fn (fun e => e))
        clear Q fn
        obtain ⟨g0, g1, g2, g3, g4, g5, g6, g7, g8⟩ := pdB_cells PBn.out
        dsimp only at g0 g1 g2 g3 g4 g5 g6 g7 g8
        obtain ⟨d0, d1, d2, d3, d4, d5, d6, d7, d8⟩ := pdB_cells PB3.out
        obtain ⟨e0, e1, e2, e3, e4, e5, e6, e7, e8⟩ := pdB_cells PB4.out
        dsimp only at d0 d1 d2 d3 d4 d5 d6 d7 d8 e0 e1 e2 e3 e4 e5 e6 e7 e8
        go_wp2
        go_ret
        exact ⟨ret_boolE HE1.out.symm, FN.out⟩
    · have hpl : 40 < pat.length := by omega
      have HE1 : Hid (r = false) := Lib.hid (by rw [HE0.out, decide_eq_false h40]; simp)
      clear HE0
      go_enter Try.func52, Try.ntmps52
      go_wp2_with fail
      refine (N1.out _).mono ?_
      rintro e wn ⟨rfl, fn⟩
      have FN : Hid (Fr Non w wn) := Lib.hid (((((Fr.refl Non w).alloc _).alloc _).alloc _).trans fn)
      have Q := three_new w w.heap.size ⟨4, col, cmp, ⟨vn, vi, vt⟩, kind, pat⟩ ⟨4, col, cmp, ⟨vn, vi, vt⟩, kind, pat⟩ ⟨4, col, 0, ⟨false, 0, []⟩, 0, pat⟩ ⟨A, n, c⟩ noKv noKv rfl
      have PBn : Hid (PdB wn w.heap.size ⟨4, col, cmp, ⟨vn, vi, vt⟩, kind, pat⟩ ⟨A, n, c⟩) := Lib.hid (Q.1.fr fn (fun e => e))
      have PB3 : Hid (PdB wn (w.heap.size + 1) ⟨4, col, cmp, ⟨vn, vi, vt⟩, kind, pat⟩ noKv) := Lib.hid (Q.2.1.fr fn (fun e => e))
      have PB4 : Hid (PdB wn (w.heap.size + 1 + 1) ⟨4, col, 0, ⟨false, 0, []⟩, 0, pat⟩ noKv) := Lib.hid (Q.2.2.fr fn (fun e => e))
      clear Q fn
      obtain ⟨g0, g1, g2, g3, g4, g5, g6, g7, g8⟩ := pdB_cells PBn.out
      dsimp only at g0 g1 g2 g3 g4 g5 g6 g7 g8
      obtain ⟨d0, d1, d2, d3, d4, d5, d6, d7, d8⟩ := pdB_cells PB3.out
      obtain ⟨e0, e1, e2, e3, e4, e5, e6, e7, e8⟩ := pdB_cells PB4.out
      dsimp only at d0 d1 d2 d3 d4 d5 d6 d7 d8 e0 e1 e2 e3 e4 e5 e6 e7 e8
      go_wp2
      go_ret
      exact ⟨ret_boolE HE1.out.symm, FN.out⟩
end Go.Proofs.Ytnbhgkolfapblaa


namespace Go.Proofs.Ytnbhgkolfapblaa
set_option linter.unusedVariables false
set_option linter.unusedSimpArgs false
set_option maxRecDepth 100000
open Go.RowKit

set_option maxHeartbeats 4000000 in
theorem echain_of (v1 v2 : Value) (cols : List Co) (row : List Cl) (ks : List Pd) (s k0 : Int) (t : Kv) (w : World) (h1 : Ks w v1 cols) (h2 : Cs w v2 row) (hk : Kd w t ks) (hl : ks.length ≤ 1000)
    (IH : Hid (∀ j (h : j < ks.length) (W : World) (t' : Kv), Ks W v1 cols → Cs W v2 row → Kd W t' ks[j].kids → Calls Try.prog 28 #[recV v1 v2, pdV ks[j].hd t'] W fun e w' => e = .returned (.int .i64 (truP cols row ks[j])) ∧ Fr Non W w')) :
    Calls Try.prog 50 #[recV v1 v2, kidV t, .int .i64 s, .int .i64 k0] w fun e w' => e = .returned (.int .i64 (chnI s k0 (ks.map (truP cols row)))) ∧ Fr Non w w' := by
  have hn := hk.len
  obtain ⟨A1, c1, rfl⟩ := h1.shape
  obtain ⟨A2, c2, rfl⟩ := h2.shape
  have HV : Hid (Ks w (.slice A1 cols.length c1) cols) := Lib.hid h1
  have HC := Lib.hid h2
  have HK := Lib.hid hk
  have F0 : Fr Non w (w.alloc (.cells #[.slice A1 cols.length c1, .slice A2 row.length c2] 61)) := (Fr.refl Non w).alloc _
  have RB : Blk (w.alloc (.cells #[.slice A1 cols.length c1, .slice A2 row.length c2] 61)) w.heap.size 61 #[.slice A1 cols.length c1, .slice A2 row.length c2] := Blk.new _ _ _
  replace F0 := Lib.hid F0
  replace RB := Lib.hid RB
  unfold recV at *
  clear h1 h2 hk
  obtain ⟨A, n, c⟩ := t
  dsimp only at hn
  have hn9 : n ≤ 1000 := by omega
  have HL := Lib.hid hn
  clear hn hl
  unfold kidV
  dsimp only
  have HE0 : Hid (∀ j is, ChnTo s k0 (ks.map (truP cols row)) j is → n ≤ j → chnI s k0 (ks.map (truP cols row)) = is) := Lib.hid (fun j is h hj => chn_end h (by rw [List.length_map]; have := HL.out; omega))
  have HE1 : Hid (∀ j (h : j < ks.length), truP cols row ks[j] = s → chnI s k0 (ks.map (truP cols row)) = s) := Lib.hid (fun j h e => chn_at (j := j) (by rw [List.length_map]; exact h) (by rw [List.getElem_map]; exact e))
  have HE2 : Hid (∀ j is (h : j < ks.length), ChnTo s k0 (ks.map (truP cols row)) j is → truP cols row ks[j] ≠ s → ChnTo s k0 (ks.map (truP cols row)) (j + 1) (if truP cols row ks[j] = 2 then 2 else is)) := Lib.hid (fun j is h e h1 => by
    have := chn_more (j := j) e (by rw [List.length_map]; exact h) (by rw [List.getElem_map]; exact h1)
    rw [List.getElem_map] at this; exact this)
  have HS0 : Hid (ChnTo s k0 (ks.map (truP cols row)) 0 k0) := Lib.hid (chn_start _ _ _)
  generalize chnI s k0 (ks.map (truP cols row)) = r at *
  generalize ks.map (truP cols row) = L at *
  go_enter Try.func50, Try.ntmps50
  go_wp2
  go_loopw [9, 15] (fun u i wr => ∃ (k : Nat) (is : Int), k ≤ n ∧ i = .int .i64 k ∧ u = .int .i64 is ∧ Hid (ChnTo s k0 L k is) ∧ Hid (Fr Non (w.alloc (.cells #[.slice A1 cols.length c1, .slice A2 row.length c2] 61)) wr)) (fun _ i _ => n - (intOf i).toNat)
  case atStart => exact ⟨0, k0, Nat.zero_le _, rfl, rfl, HS0, Lib.hid (Fr.refl _ _)⟩
  case round =>
    clear HS0
    obtain ⟨k, is, hk, rfl, rfl, HT, FR⟩ := hrel
    have HFw := Lib.hid (F0.out.trans FR.out)
    by_cases hlt : k < n
    · have hlt2 : k < ks.length := by have := HL.out; omega
      obtain ⟨a, t, hA, hc2, hkk, _⟩ := HK.out.elN HFw.out k hlt2
      have HCa : Hid (∀ W, Fr Non wr W → Calls Try.prog 28 #[.agg #[.slice A1 cols.length c1, .slice A2 row.length c2], pdV ks[k].hd t] W fun e w' => e = .returned (.int .i64 (truP cols row ks[k])) ∧ Fr Non W w') :=
        Lib.hid (fun W hf => IH.out k hlt2 W t (HV.out.non (HFw.out.trans hf)) (HC.out.non (HFw.out.trans hf)) (hkk.non (HFw.out.trans hf)))
      have HY := Lib.hid (fun e => HE1.out k hlt2 e)
      have HX := Lib.hid (fun e => HE2.out k is hlt2 HT.out e)
      dsimp only at hA
      subst hA
      obtain ⟨c0, c1_, c2_, c3, c4, c5, c6, c7, c8⟩ := hc2
      clear hkk HT HE0 HE1 HE2
      generalize truP cols row ks[k] = y at *
      generalize ks[k].hd = x at *
      have F1 : Fr Non wr (wr.alloc (.cells (pdC x t) 27)) := (Fr.refl Non wr).alloc _
      replace HCa := Lib.hid (HCa.out _ F1)
      have HB := Lib.hid (pd_new wr _ x t rfl)
      have RB1 := Lib.hid (RB.out.fr (FR.out.trans F1) (fun e => e))
      replace F1 := Lib.hid F1
      obtain ⟨xo, xc, xm, ⟨xn, xi, xt⟩, xk, xp⟩ := x
      obtain ⟨tA, tn, tc⟩ := t
      unfold pdV pdC kidV at *
      dsimp only at *
      have r0 := RB1.out.cell 0
      have r1 := RB1.out.cell 1
      simp at r0 r1
      obtain ⟨b0, b1, b2, b3, b4, b5, b6, b7, b8⟩ := pdB_cells HB.out
      dsimp only at b0 b1 b2 b3 b4 b5 b6 b7 b8
      by_cases hs : y = s
      · have HE := Lib.hid (HY.out hs)
        have hb : (y == s) = true := by rw [beq_iff_eq]; exact hs
        clear HX HY
        go_wp2_with fail
        refine HCa.out.mono ?_
        rintro e w2 ⟨rfl, f2⟩
        clear HCa
        go_wp2
        go_ret
        exact ⟨ret_int HE.out.symm, HFw.out.trans (F1.out.trans f2)⟩
      · have hb : (y == s) = false := by rw [beq_eq_false_iff_ne]; exact hs
        have HE := Lib.hid (HX.out hs)
        clear HX HY hs
        by_cases h2 : y = 2
        · subst h2
          rw [if_pos rfl] at HE
          go_wp2_with fail
          refine HCa.out.mono ?_
          rintro e w2 ⟨rfl, f2⟩
          clear HCa
          go_wp2
          go_roundw
          case rel => exact ⟨k + 1, 2, by omega, by go_num, rfl, HE, Lib.hid (FR.out.trans (F1.out.trans f2))⟩
          case measure => simp [intOf]; omega
        · rw [if_neg h2] at HE
          have hb2 : (y == 2) = false := by rw [beq_eq_false_iff_ne]; exact h2
          clear h2
          go_wp2_with fail
          refine HCa.out.mono ?_
          rintro e w2 ⟨rfl, f2⟩
          clear HCa
          go_wp2
          go_roundw
          case rel => exact ⟨k + 1, is, by omega, by go_num, rfl, HE, Lib.hid (FR.out.trans (F1.out.trans f2))⟩
          case measure => simp [intOf]; omega
    · have HE := Lib.hid (HE0.out k is HT.out (by omega))
      clear HT HE0 HE1 HE2
      go_wp2
      go_ret
      exact ⟨ret_int HE.out.symm, HFw.out⟩

end Go.Proofs.Ytnbhgkolfapblaa
