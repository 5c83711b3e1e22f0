/-
  Joined: Layer 17: which predicates may be, if those within them may, the program's. · Layer 17: what is asked of a predicate and of all within it: the function that calls itself, over any closure; the first of the three closures; May. · Layer 17: May, the program's. · Layer 17: which predicates may be, the document's. · Layer 12: where a column is; which columns are the same; both programs'. · Layer 21: a comparison asked of a zone; the zone of a name's column; may these be the columns' zones? · Layer 21: the zone of a name's column; may these be the columns' zones? · The tail of a slice of structs of k one-celled fields: s[j:]. · The tail of a slice of predicates: s[1:]. · A region that draws, walked by hand: what all steps keep but the last one, which waits for all that reads.
-/
import Derived.Lib.Zigzag
import Derived.Deep.RegionHeld3
import Derived.Test.YtpmipdnmhffkeaaDoorZ2
import Derived.Test.YtpmipdnmhffkeaaDoorZ1
import Derived.Deep.QuietTactic
import Derived.Deep.RegionWith
import Derived.BigQuiet
import Derived.StillTail

namespace Go.Proofs.YtpmipdnmhffkeaaDoor
set_option linter.unusedVariables false
set_option linter.unusedSimpArgs false
set_option maxRecDepth 100000
open Go.RowKit

theorem kidOp_more {op : Int} {ks : List Pd} {k : Nat} (h : k < ks.length) (h1 : (ks.take k).any (fun x => x.hd.op == op) = false) (h2 : (ks[k].hd.op == op) = false) : (ks.take (k + 1)).any (fun x => x.hd.op == op) = false := by
  rw [List.take_succ_eq_append_getElem h, List.any_append, h1]; simp [h2]
set_option maxHeartbeats 2000000 in
theorem pidx_any (s : Kv) (ks : List Pd) (op : Int) (g : Nat) (w : World) (hk : Kd w s ks) (hg : Blk w g 3 #[.int .i64 op]) (hl : ks.length ≤ 1000000000) :
    Calls Tryd.prog 87 #[kidV s, .func (.func 81) #[] #[.pointer (some ⟨g, 0, none⟩)]] w fun e w' => ∃ z : Int, e = .returned (.int .i64 z) ∧ decide (0 ≤ z) = kidOp op ks ∧ Fr Non w w' := by
  have hn := hk.len
  have HK := Lib.hid hk
  have HG := Lib.hid hg
  clear hk hg
  obtain ⟨A, n, c⟩ := s
  dsimp only at hn
  subst hn
  unfold kidV
  dsimp only
  go_enter Tryd.func87, Tryd.ntmps87
  go_wp2
  go_loopw [8] (fun i wr => ∃ (k : Nat), k ≤ ks.length ∧ i = .int .i64 k ∧ Hid ((ks.take k).any (fun x => x.hd.op == op) = false) ∧ Fr Non w wr) (fun i _ => ks.length - (intOf i).toNat)
  case atStart => exact ⟨0, Nat.zero_le _, rfl, Lib.hid rfl, Fr.refl _ _⟩
  case round =>
    obtain ⟨k, hk, rfl, hne, hfr⟩ := hrel
    by_cases hlt : k < ks.length
    · obtain ⟨a, t, hA, hc, _, _⟩ := (HK.out.non hfr).el k hlt
      dsimp only at hA
      subst hA
      obtain ⟨c0, c1, c2, c3, c4, c5, c6, c7, c8⟩ := hc
      have HY := Lib.hid (fun h => kidOp_more hlt hne.out h)
      have HX : Hid ((ks[k].hd.op == op) = true → kidOp op ks = true) := Lib.hid (fun h => List.any_eq_true.2 ⟨_, List.getElem_mem hlt, h⟩)
      have M := fun W h => haskid1_any ks[k].hd t op g W h
      have HB := Lib.hid (HG.out.fr hfr (fun e => e))
      clear hne
      generalize ks[k].hd = x at *
      obtain ⟨xo, xc, xm, ⟨xn, xi, xt⟩, xk, xp⟩ := x
      obtain ⟨tA, tn, tc⟩ := t
      unfold pdV pdC kidV at M
      dsimp only at c0 c1 c2 c3 c4 c5 c6 c7 c8 HY HX M
      have HF := Lib.hid hfr
      clear hfr
      cases hx : (xo == op)
      · have HE := Lib.hid (HY.out hx)
        simp only [hx] at M
        replace M := Lib.hid M
        clear HX HY hx
        go_wp2_with fail
        refine (M.out _ HB.out).mono ?_
        rintro e w2 ⟨rfl, f2⟩
        go_wp2
        go_roundw
        case rel => exact ⟨k + 1, by omega, by go_num, HE, HF.out.trans f2⟩
        case measure => simp [intOf]; omega
      · have HE := Lib.hid (HX.out hx)
        simp only [hx] at M
        replace M := Lib.hid M
        clear HX HY hx
        go_wp2_with fail
        refine (M.out _ HB.out).mono ?_
        rintro e w2 ⟨rfl, f2⟩
        go_wp2
        go_ret
        exact ⟨_, rfl, by rw [HE.out]; exact decide_eq_true (by omega), HF.out.trans f2⟩
    · have HE : Hid (kidOp op ks = false) := Lib.hid (by have := hne.out; rwa [List.take_of_length_le (by omega)] at this)
      clear hne
      go_wp2
      go_ret
      exact ⟨_, rfl, by rw [HE.out]; rfl, hfr⟩
theorem pcont_any (s : Kv) (ks : List Pd) (op : Int) (g : Nat) (w : World) (hk : Kd w s ks) (hg : Blk w g 3 #[.int .i64 op]) (hl : ks.length ≤ 1000000000) :
    Calls Tryd.prog 80 #[kidV s, .func (.func 81) #[] #[.pointer (some ⟨g, 0, none⟩)]] w fun e w' => e = .returned (.bool (kidOp op ks)) ∧ Fr Non w w' := by
  have h0 := Lib.hid (pidx_any s ks op g w hk hg hl)
  clear hk hg
  obtain ⟨A, n, c⟩ := s
  unfold kidV at *
  dsimp only at *
  go_enter Tryd.func80, Tryd.ntmps80
  go_wp2_with fail
  refine h0.out.mono ?_
  rintro e w1 ⟨z, rfl, hz, f1⟩
  go_wp2
  go_ret
  exact ⟨rfl, f1⟩
theorem haskid_any (h : Ph) (s : Kv) (ks : List Pd) (op : Int) (w : World) (hk : Kd w s ks) (hl : ks.length ≤ 1000000000) :
    Calls Tryd.prog 69 #[pdV h s, .int .i64 op] w fun e w' => e = .returned (.bool (kidOp op ks)) ∧ Fr Non w w' := by
  have F0 : Hid (Fr Non w ((w.alloc (.cells (pdC h s) 27)).alloc (.cells #[.int .i64 op] 3))) := Lib.hid (((Fr.refl Non w).alloc _).alloc _)
  have e1 : (w.alloc (.cells (pdC h s) 27)).heap.size = w.heap.size + 1 := by simp
  have b2 := Blk.new (w.alloc (.cells (pdC h s) 27)) 3 #[.int .i64 op]
  rw [e1] at b2
  have C1 := Lib.hid (pcont_any s ks op _ _ (hk.non F0.out) b2 hl)
  have hmf : ∀ (fn : Fn) (first cap : Array Value) (w : World), (Instr.makeFunc fn first cap).run Tryd.prog w = .ok (.func fn first cap) w := fun _ _ _ _ => rfl
  clear hk b2 e1
  obtain ⟨ho, hc, hm, ⟨hn, hi, ht⟩, hk', hp⟩ := h
  obtain ⟨A, n, c⟩ := s
  unfold pdV pdC kidV at *
  dsimp only at *
  go_enter Tryd.func69, Tryd.ntmps69
  go_wp2_with fail
  refine C1.out.mono ?_
  rintro e w1 ⟨rfl, f1⟩
  go_wp2
  go_ret
  exact ⟨rfl, F0.out.trans f1⟩

/-! ### One alone -/
theorem hd_one {h : Ph} {ks : List Pd} (e : h.op = 1) : hdOk h ks = (decide (ks.length = 0) && peq h ⟨h.op, [], 0, zCl, 0, []⟩) := by unfold hdOk; rw [if_pos e]; rfl
theorem hd_ask {h : Ph} {ks : List Pd} (e : h.op = 2 ∨ h.op = 3 ∨ h.op = 4) : hdOk h ks = (decide (ks.length = 0) && askOk h) := by unfold hdOk; rw [if_neg (by omega), if_pos e]
theorem hd_not {h : Ph} {ks : List Pd} (e : h.op = 5) : hdOk h ks = (decide (ks.length = 1) && peq h ⟨h.op, [], 0, zCl, 0, []⟩) := by unfold hdOk; rw [if_neg (by omega), if_neg (by omega), if_pos e]; rfl
theorem hd_two {h : Ph} {ks : List Pd} (e : h.op = 6 ∨ h.op = 7) : hdOk h ks = (decide (1 < ks.length) && peq h ⟨h.op, [], 0, zCl, 0, []⟩ && !kidOp h.op ks) := by unfold hdOk; rw [if_neg (by omega), if_neg (by omega), if_neg (by omega), if_pos e]; rfl
theorem hd_none {h : Ph} {ks : List Pd} (h1 : ¬ h.op = 1) (h2 : ¬ (h.op = 2 ∨ h.op = 3 ∨ h.op = 4)) (h3 : ¬ h.op = 5) (h4 : ¬ (h.op = 6 ∨ h.op = 7)) : hdOk h ks = false := by unfold hdOk; rw [if_neg h1, if_neg h2, if_neg h3, if_neg h4]

set_option maxHeartbeats 4000000 in
theorem alone_any (h : Ph) (s : Kv) (ks : List Pd) (w : World) (hk : Kd w s ks) (hl : ks.length ≤ 1000000000) (hc : h.col.length ≤ 1000000000) :
    Calls Tryd.prog 52 #[pdV h s] w fun e w' => e = .returned (.bool (hdOk h ks)) ∧ Fr Non w w' := by
  have hn := hk.len
  have B0 := Lib.hid (pd_new w _ h s rfl)
  have F0 : Hid (Fr Non w _) := Lib.hid ((Fr.refl Non w).alloc (.cells (pdC h s) 27))
  have HK := Lib.hid (hk.non F0.out)
  have A1 := Lib.hid (fun W => alike_any h ⟨h.op, [], 0, zCl, 0, []⟩ s noKv W)
  have A2 := Lib.hid (fun W => mayask_any h s W hc)
  have A3 := Lib.hid (fun W hk => haskid_any h s ks h.op W hk hl)
  have H1 := Lib.hid (fun e => hd_one (h := h) (ks := ks) e)
  have H2 := Lib.hid (fun e => hd_ask (h := h) (ks := ks) e)
  have H3 := Lib.hid (fun e => hd_not (h := h) (ks := ks) e)
  have H4 := Lib.hid (fun e => hd_two (h := h) (ks := ks) e)
  have H5 := Lib.hid (fun a b c d => hd_none (h := h) (ks := ks) a b c d)
  clear hk
  obtain ⟨op, col, cmp, ⟨vn, vi, vt⟩, kind, pat⟩ := h
  obtain ⟨sA, n, sc⟩ := s
  dsimp only at hn
  have HL := Lib.hid hn
  clear hn
  unfold pdV pdC kidV at *
  unfold noKv at A1
  unfold zCl at A1 H1 H3 H4
  dsimp only at *
  by_cases h1 : op = 1
  · subst h1
    have HE := Lib.hid (H1.out rfl)
    clear H1 H2 H3 H4 H5 A2 A3 HK
    by_cases h0 : n = 0
    · subst h0
      have HE2 := Lib.hid (decide_eq_true HL.out.symm)
      go_enter Tryd.func52, Tryd.ntmps52
      go_wp2_with fail
      refine (A1.out _).mono ?_
      rintro e w1 ⟨rfl, f1⟩
      go_wp2
      go_ret
      exact ⟨ret_boolE (by rw [HE.out, HE2.out]; rfl), F0.out.trans f1⟩
    · have hb : ((n : Int) == 0) = false := by rw [beq_eq_false_iff_ne]; omega
      have HE2 : Hid (decide (ks.length = 0) = false) := Lib.hid (decide_eq_false (fun e => h0 (HL.out.trans e)))
      clear h0
      go_enter Tryd.func52, Tryd.ntmps52
      go_wp2
      go_ret
      exact ⟨ret_boolE (by rw [HE.out, HE2.out]; rfl), F0.out⟩
  · by_cases h2 : op = 2
    · subst h2
      have HE := Lib.hid (H2.out (by omega))
      clear H1 H2 H3 H4 H5 A1 A3 HK
      by_cases h0 : n = 0
      · subst h0
        have HE2 := Lib.hid (decide_eq_true HL.out.symm)
        go_enter Tryd.func52, Tryd.ntmps52
        go_wp2_with fail
        refine (A2.out _).mono ?_
        rintro e w1 ⟨rfl, f1⟩
        go_wp2
        go_ret
        exact ⟨ret_boolE (by rw [HE.out, HE2.out]; rfl), F0.out.trans f1⟩
      · have hb : ((n : Int) == 0) = false := by rw [beq_eq_false_iff_ne]; omega
        have HE2 : Hid (decide (ks.length = 0) = false) := Lib.hid (decide_eq_false (fun e => h0 (HL.out.trans e)))
        clear h0
        go_enter Tryd.func52, Tryd.ntmps52
        go_wp2
        go_ret
        exact ⟨ret_boolE (by rw [HE.out, HE2.out]; rfl), F0.out⟩
    · by_cases h3 : op = 3
      · subst h3
        have HE := Lib.hid (H2.out (by omega))
        clear H1 H2 H3 H4 H5 A1 A3 HK
        by_cases h0 : n = 0
        · subst h0
          have HE2 := Lib.hid (decide_eq_true HL.out.symm)
          go_enter Tryd.func52, Tryd.ntmps52
          go_wp2_with fail
          refine (A2.out _).mono ?_
          rintro e w1 ⟨rfl, f1⟩
          go_wp2
          go_ret
          exact ⟨ret_boolE (by rw [HE.out, HE2.out]; rfl), F0.out.trans f1⟩
        · have hb : ((n : Int) == 0) = false := by rw [beq_eq_false_iff_ne]; omega
          have HE2 : Hid (decide (ks.length = 0) = false) := Lib.hid (decide_eq_false (fun e => h0 (HL.out.trans e)))
          clear h0
          go_enter Tryd.func52, Tryd.ntmps52
          go_wp2
          go_ret
          exact ⟨ret_boolE (by rw [HE.out, HE2.out]; rfl), F0.out⟩
      · by_cases h4 : op = 4
        · subst h4
          have HE := Lib.hid (H2.out (by omega))
          clear H1 H2 H3 H4 H5 A1 A3 HK
          by_cases h0 : n = 0
          · subst h0
            have HE2 := Lib.hid (decide_eq_true HL.out.symm)
            go_enter Tryd.func52, Tryd.ntmps52
            go_wp2_with fail
            refine (A2.out _).mono ?_
            rintro e w1 ⟨rfl, f1⟩
            go_wp2
            go_ret
            exact ⟨ret_boolE (by rw [HE.out, HE2.out]; rfl), F0.out.trans f1⟩
          · have hb : ((n : Int) == 0) = false := by rw [beq_eq_false_iff_ne]; omega
            have HE2 : Hid (decide (ks.length = 0) = false) := Lib.hid (decide_eq_false (fun e => h0 (HL.out.trans e)))
            clear h0
            go_enter Tryd.func52, Tryd.ntmps52
            go_wp2
            go_ret
            exact ⟨ret_boolE (by rw [HE.out, HE2.out]; rfl), F0.out⟩
        · by_cases h5 : op = 5
          · subst h5
            have HE := Lib.hid (H3.out rfl)
            clear H1 H2 H3 H4 H5 A2 A3 HK
            by_cases h0 : n = 1
            · subst h0
              have HE2 := Lib.hid (decide_eq_true HL.out.symm)
              go_enter Tryd.func52, Tryd.ntmps52
              go_wp2_with fail
              refine (A1.out _).mono ?_
              rintro e w1 ⟨rfl, f1⟩
              go_wp2
              go_ret
              exact ⟨ret_boolE (by rw [HE.out, HE2.out]; rfl), F0.out.trans f1⟩
            · have hb : ((n : Int) == 1) = false := by rw [beq_eq_false_iff_ne]; omega
              have HE2 : Hid (decide (ks.length = 1) = false) := Lib.hid (decide_eq_false (fun e => h0 (HL.out.trans e)))
              clear h0
              go_enter Tryd.func52, Tryd.ntmps52
              go_wp2
              go_ret
              exact ⟨ret_boolE (by rw [HE.out, HE2.out]; rfl), F0.out⟩
          · by_cases h6 : op = 6
            · subst h6
              have HE := Lib.hid (H4.out (by omega))
              clear H1 H2 H3 H4 H5 A2
              by_cases h0 : 1 < n
              · have HE2 : Hid (decide (1 < ks.length) = true) := Lib.hid (decide_eq_true (by have := HL.out; omega))
                generalize hq : peq ⟨6, col, cmp, ⟨vn, vi, vt⟩, kind, pat⟩ _ = q at *
                clear hq
                go_enter Tryd.func52, Tryd.ntmps52
                go_wp2_with fail
                refine (A1.out _).mono ?_
                rintro e w1 ⟨rfl, f1⟩
                obtain ⟨g0, g1, g2, g3, g4, g5, g6, g7, g8⟩ := pdB_cells (B0.out.fr f1 (fun e => e))
                dsimp only at g0 g1 g2 g3 g4 g5 g6 g7 g8
                have HK1 := Lib.hid (HK.out.non f1)
                have F1 := Lib.hid (F0.out.trans f1)
                clear f1 F0 B0
                cases q
                · go_wp2
                  go_ret
                  exact ⟨ret_boolE (by rw [HE.out, HE2.out]; rfl), F1.out⟩
                · go_wp2_with fail
                  refine (A3.out _ HK1.out).mono ?_
                  rintro e w2 ⟨rfl, f2⟩
                  go_wp2
                  go_ret
                  exact ⟨ret_boolE (by rw [HE.out, HE2.out]; rfl), F1.out.trans f2⟩
              · have HE2 : Hid (decide (1 < ks.length) = false) := Lib.hid (decide_eq_false (by have := HL.out; omega))
                clear A1 A3
                go_enter Tryd.func52, Tryd.ntmps52
                go_wp2
                go_ret
                exact ⟨ret_boolE (by rw [HE.out, HE2.out]; rfl), F0.out⟩
            · by_cases h7 : op = 7
              · subst h7
                have HE := Lib.hid (H4.out (by omega))
                clear H1 H2 H3 H4 H5 A2
                by_cases h0 : 1 < n
                · have HE2 : Hid (decide (1 < ks.length) = true) := Lib.hid (decide_eq_true (by have := HL.out; omega))
                  generalize hq : peq ⟨7, col, cmp, ⟨vn, vi, vt⟩, kind, pat⟩ _ = q at *
                  clear hq
                  go_enter Tryd.func52, Tryd.ntmps52
                  go_wp2_with fail
                  refine (A1.out _).mono ?_
                  rintro e w1 ⟨rfl, f1⟩
                  obtain ⟨g0, g1, g2, g3, g4, g5, g6, g7, g8⟩ := pdB_cells (B0.out.fr f1 (fun e => e))
                  dsimp only at g0 g1 g2 g3 g4 g5 g6 g7 g8
                  have HK1 := Lib.hid (HK.out.non f1)
                  have F1 := Lib.hid (F0.out.trans f1)
                  clear f1 F0 B0
                  cases q
                  · go_wp2
                    go_ret
                    exact ⟨ret_boolE (by rw [HE.out, HE2.out]; rfl), F1.out⟩
                  · go_wp2_with fail
                    refine (A3.out _ HK1.out).mono ?_
                    rintro e w2 ⟨rfl, f2⟩
                    go_wp2
                    go_ret
                    exact ⟨ret_boolE (by rw [HE.out, HE2.out]; rfl), F1.out.trans f2⟩
                · have HE2 : Hid (decide (1 < ks.length) = false) := Lib.hid (decide_eq_false (by have := HL.out; omega))
                  clear A1 A3
                  go_enter Tryd.func52, Tryd.ntmps52
                  go_wp2
                  go_ret
                  exact ⟨ret_boolE (by rw [HE.out, HE2.out]; rfl), F0.out⟩
              · have HE := Lib.hid (H5.out h1 (by omega) h5 (by omega))
                clear H1 H2 H3 H4 H5 A1 A2 A3 HK B0
                go_enter Tryd.func52, Tryd.ntmps52
                go_wp2
                go_ret
                exact ⟨ret_boolE HE.out.symm, F0.out⟩
end Go.Proofs.YtpmipdnmhffkeaaDoor


namespace Go.Proofs.YtpmipdnmhffkeaaDoor
set_option linter.unusedVariables false
set_option linter.unusedSimpArgs false
set_option maxRecDepth 100000
open Go.RowKit

theorem lenP_mk {h : Ph} {ks : List Pd} (e : lenP (.mk h ks) = true) : ks.length ≤ 20 ∧ h.col.length ≤ 100 ∧ h.pat.length ≤ 100 ∧ h.val.txt.length ≤ 100 ∧ ∀ k ∈ ks, lenP k = true := by
  rw [lenP, Bool.and_eq_true, lenL_all] at e
  unfold lenH at e
  have e1 := of_decide_eq_true e.1
  exact ⟨e1.1, e1.2.1, e1.2.2.1, e1.2.2.2, List.all_eq_true.1 e.2⟩
theorem allL_at {σ : Type} {f : σ → Pd → Nat → Option σ} {ks : List Pd} {k : Nat} (h : k < ks.length) (s : σ) (d : Nat) : allL f (ks.drop k) s d = (allP f ks[k] s d).bind fun s' => allL f (ks.drop (k + 1)) s' d := by
  rw [List.drop_eq_getElem_cons h, allL]
theorem allL_end {σ : Type} {f : σ → Pd → Nat → Option σ} {ks : List Pd} {k : Nat} (h : ks.length ≤ k) (s : σ) (d : Nat) : allL f (ks.drop k) s d = some s := by
  rw [List.drop_eq_nil_of_le h, allL]

/-- how an asking ends: by what f says; of the old blocks those of X may have changed -/
def AskEnd {σ : Type} (R : World → σ → (Nat → Prop) → Prop) (r : Option σ) (X : Nat → Prop) (W : World) (e : Ending) (w' : World) : Prop :=
  e = .returned (.bool r.isSome) ∧ Fr X W w' ∧ ∀ s', r = some s' → ∃ X', R w' s' X' ∧ ∀ q, X' q → X q ∨ W.heap.size ≤ q
/-- what the function asked does -/
def Asks {σ : Type} (R : World → σ → (Nat → Prop) → Prop) (f : σ → Pd → Nat → Option σ) (F g : Nat) (w0 : World) : Prop :=
  ∀ (W : World) (s : σ) (X : Nat → Prop) (p : Pd) (t : Kv) (d : Nat) (dz : Int), dz = d → Fr Non w0 W → R W s X → Kd w0 t p.kids → I64b p.hd.val.num → bigP p = true → d + depP p ≤ 1000 →
    Calls Tryd.prog F #[pdV p.hd t, .int .i64 dz, .pointer (some ⟨g, 0, none⟩)] W (AskEnd R (f s p d) X W)
set_option maxHeartbeats 4000000 in
theorem all_any {σ : Type} (R : World → σ → (Nat → Prop) → Prop) (f : σ → Pd → Nat → Option σ) (F g : Nat) (w0 : World)
    (hlt : ∀ W s X, R W s X → ∀ q, X q → w0.heap.size ≤ q ∧ q < W.heap.size) (hR : ∀ W W' s X, R W s X → Fr Non W W' → R W' s X) (hcf : ∀ args W, (callFunc F args).run Tryd.prog W = .ok (.enter F args) W) (hask : Asks R f F g w0) (p : Pd) :
    ∀ (W : World) (s : σ) (X : Nat → Prop) (t : Kv) (d : Nat) (dz : Int), dz = d → Fr Non w0 W → R W s X → Kd w0 t p.kids → I64b p.hd.val.num → bigP p = true → d + depP p ≤ 1000 →
    Calls Tryd.prog 33 #[pdV p.hd t, .int .i64 dz, .func (.func F) #[] #[.pointer (some ⟨g, 0, none⟩)]] W (AskEnd R (allP f p s d) X W) := by
  induction p using Pd.ind with
  | h hd ks ih =>
    intro W s X t d dz hdz hF hr hk hb hlen hdep
    subst hdz
    have hn : t.n = ks.length := hk.len
    have hls := (bigP_mk hlen).1
    have hdd : d ≤ 999 := by have := dep_pos (.mk hd ks); omega
    have F1 : Fr Non W (W.alloc (.cells (pdC hd t) 27)) := (Fr.refl Non W).alloc _
    have hr1 := hR _ _ _ _ hr F1
    have A1 := hask _ s X (.mk hd ks) t d (d : Int) rfl (hF.trans F1) hr1 hk hb hlen hdep
    have hXb : ¬ X W.heap.size := fun h => by have := (hlt _ _ _ hr _ h).2; omega
    have B0 := Lib.hid (pd_new W _ hd t rfl)
    have HS : Hid (allP f (.mk hd ks) s d = (f s (.mk hd ks) d).bind fun s' => allL f ks s' (d + 1)) := Lib.hid (by rw [allP])
    generalize f s (.mk hd ks) d = r at *
    generalize allP f (.mk hd ks) s d = r0 at *
    have IH : Hid (∀ k (h : k < ks.length) (W' : World) (s' : σ) (X' : Nat → Prop) (t' : Kv), Fr Non w0 W' → R W' s' X' → Kd w0 t' ks[k].kids → I64b ks[k].hd.val.num →
        Calls Tryd.prog 33 #[pdV ks[k].hd t', .int .i64 ((d : Int) + 1), .func (.func F) #[] #[.pointer (some ⟨g, 0, none⟩)]] W' (AskEnd R (allP f ks[k] s' (d + 1)) X' W')) :=
      Lib.hid (fun k h W' s' X' t' a b c e => ih _ (List.getElem_mem h) W' s' X' t' (d + 1) _ (by simp) a b c e ((bigP_mk hlen).2.2.2.2 _ (List.getElem_mem h)) (by
        rw [depP] at hdep
        have := depL_mem (List.getElem_mem h)
        omega))
    have HKd : Hid (Kd w0 t ks) := Lib.hid hk
    have HF := Lib.hid hF
    have HLT := Lib.hid hlt
    have HR := Lib.hid hR
    have HR0 := Lib.hid hr
    have HF1 := Lib.hid F1
    clear ih hk hb hlen hdep hask hlt hR hr hr1 hF F1
    obtain ⟨ho, hc, hm, ⟨vn, vi, vt⟩, hkd, hp⟩ := hd
    obtain ⟨A, n, c⟩ := t
    dsimp only at hn
    subst hn
    unfold pdV pdC kidV at A1 ⊢
    dsimp only [Pd.hd, Pd.kids] at A1 ⊢
    have A1 := Lib.hid A1
    go_enter Tryd.func33, Tryd.ntmps33
    go_wp2_with fail
    refine A1.out.mono ?_
    rintro e w1 ⟨rfl, f1, hs1⟩
    have HS1 := Lib.hid hs1
    have g8 := (B0.out.fr f1 hXb).cell 8
    simp [pdC, kidV] at g8
    have FX : Hid (Fr X W w1) := Lib.hid (HF1.out.any.trans f1)
    have hsz : W.heap.size ≤ w1.heap.size := FX.out.size
    clear hs1 f1 A1 hXb
    cases r with
    | none =>
      have HE : Hid (r0 = none) := Lib.hid (by rw [HS.out]; rfl)
      go_wp2
      go_ret
      exact ⟨by rw [HE.out]; rfl, FX.out, fun s' h => by rw [HE.out] at h; cases h⟩
    | some s1 =>
      have HE : Hid (r0 = allL f ks s1 (d + 1)) := Lib.hid (by rw [HS.out]; rfl)
      clear HS
      obtain ⟨X1, hr1, hx1⟩ := HS1.out s1 rfl
      have hx2 : ∀ q, X1 q → X q ∨ W.heap.size ≤ q := fun q hq => (hx1 q hq).imp id (fun h => Nat.le_trans HF1.out.size h)
      clear hx1 HS1
      have HR1 := Lib.hid hr1
      have HX2 := Lib.hid hx2
      clear hr1 hx2
      go_wp2
      go_loopw [17] (fun i wr => ∃ (k : Nat) (sk : σ) (Xk : Nat → Prop), k ≤ ks.length ∧ i = .int .i64 k ∧ Hid (r0 = allL f (ks.drop k) sk (d + 1)) ∧ Hid (R wr sk Xk) ∧ Hid (Fr X W wr) ∧ Hid (∀ q, Xk q → X q ∨ W.heap.size ≤ q)) (fun i _ => ks.length - (intOf i).toNat)
      case atStart => exact ⟨0, s1, X1, Nat.zero_le _, rfl, HE, HR1, FX, HX2⟩
      case round =>
        clear HE HR1 FX HX2 g8 hsz
        obtain ⟨k, sk, Xk, hk, rfl, HE, HR1, FX, HX2⟩ := hrel
        have hFw : Hid (Fr Non w0 wr) := Lib.hid (HF.out.join FX.out (fun q hq h => absurd (HLT.out _ _ _ HR0.out q h).1 (by omega)))
        by_cases hlt : k < ks.length
        · obtain ⟨a, t, hA, hc2, hkk, hbb⟩ := HKd.out.el k hlt
          have hc3 : PCells wr (a.add (k * 9)) ks[k].hd t := by
            obtain ⟨a', t', hA', hc', _, _⟩ := (HKd.out.non hFw.out).el k hlt
            dsimp only at hA hA'
            obtain rfl := Option.some.inj (hA.symm.trans hA')
            have e : t' = t := by
              have x1 := hc'.2.2.2.2.2.2.2.2
              have x2 := hc2.2.2.2.2.2.2.2.2
              have hbl : (a.add (k * 9)).block < w0.heap.size := World.block_lt_of_cell? w0 _ hc2.1
              have x3 := hFw.out.cell (p := { block := (a.add (k * 9)).block, off := (a.add (k * 9)).off + 8 }) hbl (fun e => e)
              rw [x3, x2] at x1
              simp only [Option.some.injEq, Value.slice.injEq] at x1
              obtain ⟨y1, y2, y3⟩ := x1
              cases t; cases t'; simp_all
            rw [e] at hc'; exact hc'
          clear hc2
          dsimp only at hA
          subst hA
          obtain ⟨c0, c1, c2, c3, c4, c5, c6, c7, c8⟩ := hc3
          have HC := Lib.hid (fun W' s' X' a b => IH.out k hlt W' s' X' t a b hkk hbb)
          have HY := Lib.hid (HE.out.trans (allL_at hlt sk (d + 1)))
          clear hkk hbb HE
          generalize allP f ks[k] = ff at *
          generalize ks[k].hd = x at *
          obtain ⟨xo, xc, xm, ⟨xn, xi, xt⟩, xk, xp⟩ := x
          obtain ⟨tA, tn, tc⟩ := t
          dsimp only at c0 c1 c2 c3 c4 c5 c6 c7 c8
          have G1 := Lib.hid ((Fr.refl Non wr).alloc (.cells #[.int .i64 xo, .string ⟨xc.toArray⟩, .int .i64 xm, .bool xn, .int .i64 xi, .string ⟨xt.toArray⟩, .int .i64 xk, .string ⟨xp.toArray⟩, .slice tA tn tc] 27))
          have HC2 := Lib.hid (HC.out _ sk Xk (hFw.out.trans G1.out) (HR.out _ _ _ _ HR1.out G1.out))
          have hXl := HLT.out _ _ _ HR1.out
          have HXl := Lib.hid hXl
          clear HC hXl
          unfold pdV pdC kidV at HC2
          dsimp only at HC2
          generalize ff sk (d + 1) = rr at *
          go_wp2_with fail
          refine HC2.out.mono ?_
          rintro e w2 ⟨rfl, f2, hs2⟩
          have HS2 := Lib.hid hs2
          have FX2 : Hid (Fr X W w2) := Lib.hid (FX.out.join (G1.out.any.trans f2) (fun q hq h => by
            rcases HX2.out q h with h | h
            · exact h
            · omega))
          have hsz2 : W.heap.size ≤ wr.heap.size := FX.out.size
          clear hs2 f2 HC2
          cases rr with
          | none =>
            have HE : Hid (r0 = none) := Lib.hid HY.out
            clear HY HS2
            go_wp2
            go_ret
            exact ⟨by rw [HE.out]; rfl, FX2.out, fun s' h => by rw [HE.out] at h; cases h⟩
          | some s2 =>
            obtain ⟨X2, hr2, hx2⟩ := HS2.out s2 rfl
            have HE : Hid (r0 = allL f (ks.drop (k + 1)) s2 (d + 1)) := Lib.hid HY.out
            have HR2 := Lib.hid hr2
            have HX3 : Hid (∀ q, X2 q → X q ∨ W.heap.size ≤ q) := Lib.hid (fun q hq => by
              rcases hx2 q hq with h | h
              · exact HX2.out q h
              · refine .inr (Nat.le_trans hsz2 (Nat.le_trans G1.out.size h)))
            clear HY HS2 hr2 hx2
            go_wp2
            go_roundw
            case rel => exact ⟨k + 1, s2, X2, by omega, by go_num, HE, HR2, FX2, HX3⟩
            case measure => simp [intOf]; omega
        · have HE2 : Hid (r0 = some sk) := Lib.hid (HE.out.trans (allL_end (by omega) sk (d + 1)))
          clear HE
          go_wp2
          go_ret
          exact ⟨by rw [HE2.out]; rfl, FX.out, fun s' h => by
            rw [HE2.out] at h
            obtain rfl := Option.some.inj h
            exact ⟨Xk, HR1.out, HX2.out⟩⟩
end Go.Proofs.YtpmipdnmhffkeaaDoor


namespace Go.Proofs.YtpmipdnmhffkeaaDoor
set_option linter.unusedVariables false
set_option linter.unusedSimpArgs false
set_option maxRecDepth 100000
open Go.RowKit

/-- the count lies in block g -/
def RcM (w0 : World) (g : Nat) (W : World) (n : Nat) (X : Nat → Prop) : Prop := Blk W g 3 #[.int .i64 n] ∧ n ≤ 16 ∧ X = One g ∧ w0.heap.size ≤ g
theorem stepM_no {n : Nat} {p : Pd} {d : Nat} (h : ¬ (n + 1 ≤ 16 ∧ d ≤ 6)) : stepM n p d = none := by unfold stepM; rw [if_neg (fun e => h ⟨e.1, e.2.1⟩)]
theorem stepM_by {n : Nat} {p : Pd} {d : Nat} (h : n + 1 ≤ 16 ∧ d ≤ 6) : stepM n p d = bif hdOk p.hd p.kids then some (n + 1) else none := by
  unfold stepM
  cases hd : hdOk p.hd p.kids
  · rw [if_neg (by simp)]; rfl
  · rw [if_pos ⟨h.1, h.2, rfl⟩]; rfl
set_option maxHeartbeats 2000000 in
theorem may1_any (w0 : World) (g : Nat) : Asks (RcM w0 g) stepM 51 g w0 := by
  intro W n X p t d dz hdz hF hr hk hb hlen hdep
  subst hdz
  obtain ⟨h, ks⟩ := p
  obtain ⟨hB, hn16, rfl, hg0⟩ := hr
  dsimp only [Pd.hd, Pd.kids] at hk hb ⊢
  have hls := bigP_mk hlen
  have F0 : Fr Non W (W.alloc (.cells (pdC h t) 27)) := (Fr.refl Non W).alloc _
  have hB1 := hB.fr F0 (fun e => e)
  have hf0 := hB1.frozen 0
  have hc0 := hB1.cell 0
  have hB2 := (hB.set 0 (.int .i64 ((n : Int) + 1))).fr ((Fr.refl Non _).alloc (.cells (pdC h t) 27)) (fun e => e)
  have hc2 := hB2.cell 0
  have hgl := hB.lt
  have G2 : Fr (One g) W ((W.setCell ⟨g, 0, none⟩ (.int .i64 ((n : Int) + 1))).alloc (.cells (pdC h t) 27)) := ((Fr.refl (One g) W).set1 0 _).alloc _
  have P2 : PdB ((W.setCell ⟨g, 0, none⟩ (.int .i64 ((n : Int) + 1))).alloc (.cells (pdC h t) 27)) W.heap.size h t :=
    pd_new _ _ h t (by simp [World.setCell])
  obtain ⟨g0, g1, g2, g3, g4, g5, g6, g7, g8⟩ := pdB_cells P2
  have hkw : Kd ((W.setCell ⟨g, 0, none⟩ (.int .i64 ((n : Int) + 1))).alloc (.cells (pdC h t) 27)) t ks := hk.non (hF.join G2 (fun q hq e => by have : q = g := e; omega))
  have M := Lib.hid (alone_any h t ks _ hkw (by omega) (by omega))
  have HG := Lib.hid G2
  have HB2 := Lib.hid hB2
  have HN := Lib.hid (fun e => stepM_no (n := n) (p := .mk h ks) (d := d) e)
  have HY := Lib.hid (fun e => stepM_by (n := n) (p := .mk h ks) (d := d) e)
  simp at hc0 hc2
  clear hk hB hB1 hB2 P2 hkw F0 G2 hlen hdep hls hF
  obtain ⟨ho, hc, hm, ⟨vn, vi, vt⟩, hkd, hp⟩ := h
  obtain ⟨A, nn, c⟩ := t
  unfold pdV pdC kidV at *
  dsimp only at *
  by_cases h1 : n + 1 ≤ 16
  · by_cases h6 : d ≤ 6
    · have HE := Lib.hid (HY.out ⟨h1, h6⟩)
      clear HY HN
      generalize stepM n _ d = r at *
      dsimp only [Pd.hd, Pd.kids] at HE
      generalize hdOk _ ks = b at *
      go_enter Tryd.func51, Tryd.ntmps51
      go_wp2_with fail
      refine M.out.mono ?_
      rintro e w1 ⟨rfl, f1⟩
      go_wp2
      go_ret
      refine ⟨by rw [HE.out]; cases b <;> rfl, HG.out.then f1, fun s' hs => ?_⟩
      rw [HE.out] at hs
      cases b
      · cases hs
      · obtain rfl := Option.some.inj hs
        exact ⟨One g, ⟨HB2.out.fr f1 (fun e => e), h1, rfl, hg0⟩, fun q hq => .inl hq⟩
    · have HE := Lib.hid (HN.out (by omega))
      have hd1 : decide ((n : Int) + 1 ≤ 16) = true := decide_eq_true (by omega)
      have hd2 : decide ((d : Int) ≤ 6) = false := decide_eq_false (by omega)
      clear HY HN M
      generalize stepM n _ d = r at *
      go_enter Tryd.func51, Tryd.ntmps51
      go_wp2
      go_ret
      exact ⟨by rw [HE.out]; rfl, HG.out, fun s' hs => by rw [HE.out] at hs; cases hs⟩
  · have HE := Lib.hid (HN.out (by omega))
    have hd1 : decide ((n : Int) + 1 ≤ 16) = false := decide_eq_false (by omega)
    clear HY HN M
    generalize stepM n _ d = r at *
    go_enter Tryd.func51, Tryd.ntmps51
    go_wp2
    go_ret
    exact ⟨by rw [HE.out]; rfl, HG.out, fun s' hs => by rw [HE.out] at hs; cases hs⟩

set_option maxHeartbeats 2000000 in
theorem pmay_big (h : Ph) (t : Kv) (ks : List Pd) (w : World) (hk : Kd w t ks) (hb : I64b h.val.num) (hlen : bigP (.mk h ks) = true) (hdep : depP (.mk h ks) ≤ 100) :
    Calls Tryd.prog 31 #[pdV h t] w fun e w' => e = .returned (.bool (mayP (.mk h ks))) ∧ Fr Non w w' := by
  have F0 : Fr Non w (w.alloc (.cells (pdC h t) 27)) := (Fr.refl Non w).alloc _
  have F1 : Fr Non w ((w.alloc (.cells (pdC h t) 27)).alloc (.cells #[.int .i64 0] 3)) := F0.alloc _
  have e1 : (w.alloc (.cells (pdC h t) 27)).heap.size = w.heap.size + 1 := by simp
  have b2 := Blk.new (w.alloc (.cells (pdC h t) 27)) 3 #[.int .i64 0]
  rw [e1] at b2
  have hR0 : RcM w (w.heap.size + 1) ((w.alloc (.cells (pdC h t) 27)).alloc (.cells #[.int .i64 0] 3)) 0 (One (w.heap.size + 1)) := ⟨b2, by omega, rfl, by omega⟩
  have A1 := all_any (RcM w (w.heap.size + 1)) stepM 51 (w.heap.size + 1) w
    (fun W s X hr q hq => by
      obtain ⟨a, b, rfl, c⟩ := hr
      obtain rfl : q = w.heap.size + 1 := hq
      exact ⟨c, a.lt⟩)
    (fun W W' s X hr hf => ⟨hr.1.fr hf (fun e => e), hr.2⟩) Tryd.call51 (may1_any w (w.heap.size + 1)) (.mk h ks)
    _ 0 _ t 1 1 rfl F1 hR0 hk hb hlen (by omega)
  have HM : Hid ((allP stepM (.mk h ks) 0 1).isSome = mayP (.mk h ks)) := Lib.hid (may_all _)
  generalize allP stepM (.mk h ks) 0 1 = r at *
  dsimp only [Pd.hd, Pd.kids] at A1
  have A1 := Lib.hid A1
  have F1 := Lib.hid F1
  have P0 : PdB ((w.alloc (.cells (pdC h t) 27)).alloc (.cells #[.int .i64 0] 3)) w.heap.size h t := (pd_new w _ h t rfl).fr ((Fr.refl Non _).alloc _) (fun e => e)
  obtain ⟨g0, g1, g2, g3, g4, g5, g6, g7, g8⟩ := pdB_cells P0
  have hmf : ∀ (fn : Fn) (first cap : Array Value) (w : World), (Instr.makeFunc fn first cap).run Tryd.prog w = .ok (.func fn first cap) w := fun _ _ _ _ => rfl
  clear hk F0 hR0 b2 e1 P0 hlen hdep
  obtain ⟨ho, hc, hm, ⟨vn, vi, vt⟩, hkd, hp⟩ := h
  obtain ⟨A, nn, c⟩ := t
  unfold pdV pdC kidV at *
  dsimp only at *
  go_enter Tryd.func31, Tryd.ntmps31
  go_wp2_with fail
  refine A1.out.mono ?_
  rintro e w1 ⟨rfl, f1, _⟩
  go_wp2
  go_ret
  exact ⟨ret_boolE HM.out, F1.out.join f1 (fun q hq e => by have : q = w.heap.size + 1 := e; omega)⟩
end Go.Proofs.YtpmipdnmhffkeaaDoor


namespace Go.Proofs.YtpmipdnmhffkeaaDoor
set_option linter.unusedVariables false
set_option linter.unusedSimpArgs false
set_option maxRecDepth 100000
open Go.RowKit

/-- an element's slice is what it was -/
theorem Kd.elN {w w' : World} {s : Kv} {ps : List Pd} (h : Kd w s ps) (hf : Fr Non w w') (j : Nat) (hj : j < ps.length) :
    ∃ a t, s.A = some a ∧ PCells w' (a.add (j * 9)) ps[j].hd t ∧ Kd w t ps[j].kids ∧ I64b ps[j].hd.val.num := by
  obtain ⟨a, t, hA, hc, hk, hb⟩ := h.el j hj
  refine ⟨a, t, hA, ?_, hk, hb⟩
  obtain ⟨c0, c1, c2, c3, c4, c5, c6, c7, c8⟩ := hc
  have q : ∀ (p : Addr) (v : Value), w.cell? p = some v → w'.cell? p = some v := fun p v e => (hf.cell (World.block_lt_of_cell? w _ e) (fun e => e)).trans e
  exact ⟨q _ _ c0, q _ _ c1, q _ _ c2, q _ _ c3, q _ _ c4, q _ _ c5, q _ _ c6, q _ _ c7, q _ _ c8⟩

/-! ### How many -/
theorem sizeL_at {ks : List Pd} {k : Nat} (h : k < ks.length) (m : Int) (d : Nat) (n : Int) (hn : ¬ 16 < n) : sizeL (ks.drop k) m d n = sizeL (ks.drop (k + 1)) m d (n + sizeP ks[k] (m - n) d) := by
  rw [List.drop_eq_getElem_cons h, sizeL, if_neg hn]
theorem sizeL_end {ks : List Pd} {k : Nat} (h : ks.length ≤ k) (m : Int) (d : Nat) (n : Int) : sizeL (ks.drop k) m d n = n := by rw [List.drop_eq_nil_of_le h, sizeL]
set_option maxHeartbeats 2000000 in
theorem rsize_any (p : Pd) : ∀ (t : Kv) (m : Int) (d : Nat) (dz : Int) (w : World), dz = d → Kd w t p.kids → bigP p = true → -100 ≤ m → m ≤ 16 → d ≤ 100 →
    Calls Tryd.prog 64 #[pdV p.hd t, .int .i64 m, .int .i64 dz] w fun e w' => e = .returned (.int .i64 (sizeP p m d)) ∧ Fr Non w w' := by
  induction p using Pd.ind with
  | h hd ks ih =>
    intro t m d dz w hdz hk hlen hm1 hm2 hd1
    subst hdz
    have hn : t.n = ks.length := hk.len
    have hls := (bigP_mk hlen).1
    have F0 : Fr Non w (w.alloc (.cells (pdC hd t) 27)) := (Fr.refl Non w).alloc _
    have HB := Lib.hid (pd_new w _ hd t rfl)
    have HS : Hid (¬ (d < 1 ∨ m < 1) → sizeP (.mk hd ks) m d = sizeL ks m (d - 1) 1) := Lib.hid (fun h => by rw [sizeP, if_neg h])
    have HS0 : Hid ((d < 1 ∨ m < 1) → sizeP (.mk hd ks) m d = 17) := Lib.hid (fun h => by rw [sizeP, if_pos h])
    have HBd : Hid (∀ (k : Nat) (h : k < ks.length) (m' : Int), m' ≤ 16 → 1 ≤ sizeP ks[k] m' (d - 1) ∧ sizeP ks[k] m' (d - 1) ≤ 17 + 17 * (d - 1 : Nat)) := Lib.hid (fun k h m' hm' => (size_is ks[k] m' (d - 1) hm').2.2)
    have IH : Hid (1 ≤ d → ∀ k (h : k < ks.length) (W : World) (t' : Kv) (m' : Int), Kd W t' ks[k].kids → -100 ≤ m' → m' ≤ 16 →
        Calls Tryd.prog 64 #[pdV ks[k].hd t', .int .i64 m', .int .i64 ((d : Int) - 1)] W fun e w' => e = .returned (.int .i64 (sizeP ks[k] m' (d - 1))) ∧ Fr Non W w') :=
      Lib.hid (fun h1 k h W t' m' a b c => ih _ (List.getElem_mem h) t' m' (d - 1) _ W (by omega) a ((bigP_mk hlen).2.2.2.2 _ (List.getElem_mem h)) b c (by omega))
    generalize sizeP (.mk hd ks) m d = r at *
    have HK : Hid (Kd w t ks) := Lib.hid hk
    have HF := Lib.hid F0
    clear ih hk hlen F0
    obtain ⟨ho, hc, hm, ⟨vn, vi, vt⟩, hkd, hp⟩ := hd
    obtain ⟨A, n, c⟩ := t
    dsimp only at hn
    unfold pdV pdC kidV
    dsimp only [Pd.hd, Pd.kids]
    have HL := Lib.hid hn
    have hn20 : n ≤ 1000 := by omega
    clear hn hls
    by_cases h1 : d < 1
    · have HE := Lib.hid (HS0.out (.inl h1))
      clear HS HS0
      go_enter Tryd.func64, Tryd.ntmps64
      go_wp2
      go_ret
      exact ⟨ret_int HE.out.symm, HF.out⟩
    · by_cases h2 : m < 1
      · have HE := Lib.hid (HS0.out (.inr h2))
        clear HS HS0
        go_enter Tryd.func64, Tryd.ntmps64
        go_wp2
        go_ret
        exact ⟨ret_int HE.out.symm, HF.out⟩
      · have HE := Lib.hid (HS.out (by omega))
        have IH := Lib.hid (IH.out (by omega))
        clear HS HS0
        go_enter Tryd.func64, Tryd.ntmps64
        go_wp2
        go_loopw [7, 8] (fun v i wr => ∃ (k : Nat) (q : Int), k ≤ n ∧ i = .int .i64 k ∧ v = .int .i64 q ∧ 1 ≤ q ∧ q ≤ 4000 ∧ Hid (r = sizeL (ks.drop k) m (d - 1) q) ∧ Hid (Fr Non (w.alloc (.cells (pdC ⟨ho, hc, hm, ⟨vn, vi, vt⟩, hkd, hp⟩ ⟨A, n, c⟩) 27)) wr)) (fun _ i _ => n - (intOf i).toNat)
        case atStart => exact ⟨0, 1, Nat.zero_le _, rfl, rfl, by omega, by omega, HE, Lib.hid (Fr.refl _ _)⟩
        case round =>
          clear HE
          obtain ⟨k, q, hk, rfl, rfl, hq1, hq2, HE, FR⟩ := hrel
          have b8 := (HB.out.fr FR.out (fun e => e)).cell 8
          simp [pdC, kidV] at b8
          have HFw := Lib.hid (HF.out.trans FR.out)
          by_cases hlt : k < n
          · by_cases hq : q ≤ 16
            · have hlt2 : k < ks.length := by have := HL.out; omega
              obtain ⟨a, t, hA, hc2, hkk, _⟩ := HK.out.elN HFw.out k hlt2
              have HC := Lib.hid (IH.out k hlt2 wr t (m - q) (hkk.non HFw.out) (by omega) (by omega))
              have HY := Lib.hid (HE.out.trans (sizeL_at hlt2 m (d - 1) q (by omega)))
              have hbd := HBd.out k hlt2 (m - q) (by omega)
              have hs1 : 1 ≤ sizeP ks[k] (m - q) (d - 1) := hbd.1
              have hs2 : sizeP ks[k] (m - q) (d - 1) ≤ 3000 := by omega
              dsimp only at hA
              subst hA
              obtain ⟨c0, c1, c2, c3, c4, c5, c6, c7, c8⟩ := hc2
              clear hkk HE hbd
              generalize sizeP ks[k] (m - q) (d - 1) = z at *
              generalize ks[k].hd = x at *
              obtain ⟨xo, xc, xm, ⟨xn, xi, xt⟩, xk, xp⟩ := x
              obtain ⟨tA, tn, tc⟩ := t
              unfold pdV pdC kidV at HC
              dsimp only at HC c0 c1 c2 c3 c4 c5 c6 c7 c8
              go_wp2_with fail
              refine HC.out.mono ?_
              rintro e w2 ⟨rfl, f2⟩
              go_wp2
              go_roundw
              case rel => exact ⟨k + 1, q + z, by omega, by go_num, by go_num, by omega, by omega, HY, Lib.hid (FR.out.trans f2)⟩
              case measure => simp [intOf]; omega
            · have HE2 : Hid (r = q) := Lib.hid (HE.out.trans (sizeL_big _ m (d - 1) q (by omega)))
              clear HE
              go_wp2
              go_ret
              exact ⟨ret_int HE2.out.symm, HFw.out⟩
          · have HE2 : Hid (r = q) := Lib.hid (HE.out.trans (sizeL_end (by have := HL.out; omega) m (d - 1) q))
            clear HE
            go_wp2
            go_ret
            exact ⟨ret_int HE2.out.symm, HFw.out⟩

/-! ### One -/
/-- but for those within -/
def baseOk (h : Ph) (n : Nat) : Bool :=
  if h.op = 1 then decide (n = 0) && peq h ⟨h.op, [], 0, zCl, 0, []⟩
  else if h.op = 2 then nameB h.col && decide (1 ≤ h.cmp ∧ h.cmp ≤ 6) && mayC h.kind false h.val && decide (n = 0) && peq h ⟨h.op, h.col, h.cmp, h.val, h.kind, []⟩
  else if h.op = 3 then nameB h.col && decide (n = 0) && peq h ⟨h.op, h.col, 0, zCl, 0, []⟩
  else if h.op = 4 then nameB h.col && decide (h.pat.length ≤ 40) && decide (n = 0) && peq h ⟨h.op, h.col, 0, zCl, 0, h.pat⟩
  else if h.op = 5 then decide (n = 1) && peq h ⟨h.op, [], 0, zCl, 0, []⟩
  else if h.op = 6 ∨ h.op = 7 then decide (1 < n) && peq h ⟨h.op, [], 0, zCl, 0, []⟩
  else false
def okk (op : Int) (x : Pd) : Bool := oneP x && !(decide (6 ≤ op) && x.hd.op == op)
theorem all_okk (op : Int) (l : List Pd) : l.all (okk op) = (l.all oneP && !(decide (6 ≤ op) && kidOp op l)) := by
  unfold kidOp
  induction l with
  | nil => simp
  | cons x l ih =>
    rw [List.all_cons, List.all_cons, List.any_cons, ih]
    unfold okk
    cases oneP x <;> cases decide (6 ≤ op) <;> cases (x.hd.op == op) <;> cases l.all oneP <;> cases l.any (fun k => k.hd.op == op) <;> rfl
theorem one_base (h : Ph) (ks : List Pd) (n : Nat) (hn : n = ks.length) : oneP (.mk h ks) = (baseOk h n && ks.all (okk h.op)) := by
  subst hn
  rw [oneP, oneL_all, all_okk]
  unfold hdOk baseOk bareH askOk peq
  by_cases h1 : h.op = 1
  · rw [if_pos h1, if_pos h1, decide_eq_false (show ¬ 6 ≤ h.op by omega)]; simp
  · rw [if_neg h1, if_neg h1]
    by_cases h2 : h.op = 2
    · rw [if_pos (.inl h2), if_pos h2, if_pos h2, decide_eq_false (show ¬ 6 ≤ h.op by omega)]
      simp only [Bool.false_and, Bool.not_false, Bool.and_true]
      congr 1
      cases nameB h.col <;> cases decide (1 ≤ h.cmp ∧ h.cmp ≤ 6) <;> cases mayC h.kind false h.val <;> cases decide (ks.length = 0) <;> simp
    · rw [if_neg h2, if_neg h2]
      by_cases h3 : h.op = 3
      · rw [if_pos (.inr (.inl h3)), if_pos h3, if_neg (show ¬ h.op = 4 by omega), decide_eq_false (show ¬ 6 ≤ h.op by omega)]
        simp only [Bool.false_and, Bool.not_false, Bool.and_true]
        congr 1
        cases nameB h.col <;> cases decide (ks.length = 0) <;> simp
      · rw [if_neg h3]
        by_cases h4 : h.op = 4
        · rw [if_pos (.inr (.inr h4)), if_pos h4, if_pos h4, decide_eq_false (show ¬ 6 ≤ h.op by omega)]
          simp only [Bool.false_and, Bool.not_false, Bool.and_true]
          congr 1
          cases nameB h.col <;> cases decide (h.pat.length ≤ 40) <;> cases decide (ks.length = 0) <;> simp
        · rw [if_neg (by omega), if_neg h4]
          by_cases h5 : h.op = 5
          · rw [if_pos h5, if_pos h5, decide_eq_false (show ¬ 6 ≤ h.op by omega)]; simp
          · rw [if_neg h5, if_neg h5]
            by_cases h6 : h.op = 6 ∨ h.op = 7
            · rw [if_pos h6, if_pos h6, decide_eq_true (show 6 ≤ h.op by omega)]
              simp only [Bool.true_and]
              cases kidOp h.op ks <;> cases ks.all oneP <;> simp
            · rw [if_neg h6, if_neg h6]; rfl
theorem all_no {op : Int} {ks : List Pd} {k : Nat} (h : k < ks.length) (hb : okk op ks[k] = false) : ks.all (okk op) = false := by
  rw [List.all_eq_false]; exact ⟨_, List.getElem_mem h, by rw [hb]; simp⟩
theorem all_yes {op : Int} {ks : List Pd} {k : Nat} (h : ks.length ≤ k) (hb : ∀ j (h : j < ks.length), j < k → okk op ks[j] = true) : ks.all (okk op) = true := by
  rw [List.all_eq_true]
  intro x hx
  obtain ⟨j, hj, rfl⟩ := List.mem_iff_getElem.1 hx
  exact hb j hj (by omega)
theorem okk_more {op : Int} {ks : List Pd} {k : Nat} (hb : ∀ j (h : j < ks.length), j < k → okk op ks[j] = true) (h : k < ks.length) (hk : okk op ks[k] = true) : ∀ j (h : j < ks.length), j < k + 1 → okk op ks[j] = true := by
  intro j hj hlt
  by_cases e : j = k
  · subst e; exact hk
  · exact hb j hj (by omega)

theorem three_new (w : World) (g : Nat) (a b d : Ph) (s t u : Kv) (hg : w.heap.size = g) :
    PdB (((w.alloc (.cells (pdC a s) 27)).alloc (.cells (pdC b t) 27)).alloc (.cells (pdC d u) 27)) g a s ∧
    PdB (((w.alloc (.cells (pdC a s) 27)).alloc (.cells (pdC b t) 27)).alloc (.cells (pdC d u) 27)) (g + 1) b t ∧
    PdB (((w.alloc (.cells (pdC a s) 27)).alloc (.cells (pdC b t) 27)).alloc (.cells (pdC d u) 27)) (g + 1 + 1) d u := by
  have h := pd2_new w g a b s t hg.symm
  refine ⟨h.1.fr ((Fr.refl Non _).alloc _) (fun e => e), h.2.fr ((Fr.refl Non _).alloc _) (fun e => e), pd_new _ _ d u (by simp; omega)⟩

set_option maxHeartbeats 8000000 in
theorem rone1_any (h0_ : Ph) (ks : List Pd) (t : Kv) (w : World) (hop : h0_.op = 1) (hk : Kd w t ks) (hl : ks.length ≤ 1000) (hcl : h0_.col.length ≤ 1000)
    (IH : Hid (∀ k (h : k < ks.length) (W : World) (t' : Kv), Kd W t' ks[k].kids → Calls Tryd.prog 65 #[pdV ks[k].hd t'] W fun e w' => e = .returned (.bool (oneP ks[k])) ∧ Fr Non W w')) :
    Calls Tryd.prog 65 #[pdV h0_ t] w fun e w' => e = .returned (.bool (oneP (.mk h0_ ks))) ∧ Fr Non w w' := by
  have hn : t.n = ks.length := hk.len
  have N1 := Lib.hid (fun W => rname_any h0_.col W (by omega))
  have M1 := Lib.hid (fun W => rmay_any h0_.kind false h0_.val W)
  have HE := Lib.hid (one_base h0_ ks t.n hn)
  generalize oneP (.mk h0_ ks) = r at *
  have HK : Hid (Kd w t ks) := Lib.hid hk
  have PB0 : Hid (∀ b d, PdB (((w.alloc (.cells (pdC h0_ t) 27)).alloc b).alloc d) w.heap.size h0_ t) := Lib.hid (fun b d => (pd_new w _ h0_ t rfl).fr (((Fr.refl Non _).alloc b).alloc d) (fun e => e))
  obtain ⟨op, col, cmp, ⟨vn, vi, vt⟩, kind, pat⟩ := h0_
  obtain ⟨A, n, c⟩ := t
  dsimp only at hn hop hcl HE
  have HL := Lib.hid hn
  have hn20 : n ≤ 1000 := by omega
  have hs := slen pat
  clear hn hk hl
  unfold pdV pdC kidV
  unfold clV clC at M1
  dsimp only at *
  subst hop
  have FL := Lib.hid (fun W => flat_any ⟨1, col, cmp, ⟨vn, vi, vt⟩, kind, pat⟩ ⟨1, [], 0, zCl, 0, []⟩ noKv noKv W)
  have HE0 : Hid (r = (baseOk ⟨1, col, cmp, ⟨vn, vi, vt⟩, kind, pat⟩ n && ks.all (okk 1))) := HE
  clear HE
  unfold pdV pdC kidV noKv at FL
  replace HE0 : Hid (r = (decide (n = 0) && peq ⟨1, col, cmp, ⟨vn, vi, vt⟩, kind, pat⟩ ⟨1, [], 0, zCl, 0, []⟩ && ks.all (okk 1))) := HE0
  generalize peq ⟨1, col, cmp, ⟨vn, vi, vt⟩, kind, pat⟩ ⟨1, [], 0, zCl, 0, []⟩ = q at *
  unfold zCl at FL
  dsimp only at FL
  clear N1 M1
  by_cases h0 : n = 0
  · subst h0
    have HE1 : Hid (r = (q && ks.all (okk 1))) := Lib.hid (by rw [HE0.out]; simp)
    clear HE0
    have HE0 := HE1
    clear HE1
    go_enter Tryd.func65, Tryd.ntmps65
    go_wp2_with fail
    refine (FL.out _).mono ?_
    rintro e w1 ⟨rfl, f1⟩
    have F1 := Lib.hid ((((((Fr.refl Non w).alloc _).alloc _).alloc _)).trans f1)
    have PB := Lib.hid (((PB0.out _ _)).fr f1 (fun e => e))
    have HK1 := HK
    obtain ⟨g0, g1, g2, g3, g4, g5, g6, g7, g8⟩ := pdB_cells PB.out
    dsimp only at g0 g1 g2 g3 g4 g5 g6 g7 g8
    clear f1 HK1
    cases q
    · go_wp2
      go_ret
      exact ⟨ret_boolE (by rw [HE0.out]; simp), F1.out⟩
    · have HE : Hid (r = ks.all (okk 1)) := Lib.hid (by rw [HE0.out]; simp)
      clear HE0
      go_wp2
      go_loopw [5] (fun i wr => ∃ k : Nat, k ≤ 0 ∧ i = .int .i64 k ∧ Hid (∀ j (h : j < ks.length), j < k → okk 1 ks[j] = true) ∧ Hid (Fr Non w1 wr)) (fun i _ => 0 - (intOf i).toNat)
      case atStart => exact ⟨0, Nat.zero_le _, rfl, Lib.hid (fun _ _ h => by omega), Lib.hid (Fr.refl _ _)⟩
      case round =>
        clear g0 g1 g2 g3 g4 g5 g6 g7 g8
        obtain ⟨k, hk, rfl, HT, FR⟩ := hrel
        have FW := Lib.hid (F1.out.trans FR.out)
        by_cases hlt : k < 0
        · exact absurd hlt (by omega)
        · have b8 := (PB.out.fr FR.out (fun e => e)).cell 8
          simp [pdC, kidV] at b8
          have HE2 := Lib.hid (all_yes (op := 1) (by have := HL.out; omega) HT.out)
          clear HT
          go_wp2
          go_ret
          exact ⟨ret_boolE (by rw [HE.out, HE2.out]), FW.out⟩
  · have HE1 : Hid (r = false) := Lib.hid (by rw [HE0.out, decide_eq_false h0]; simp)
    have hb : 0 < n := by omega
    clear HE0 h0
    go_enter Tryd.func65, Tryd.ntmps65
    go_wp2
    go_ret
    exact ⟨ret_boolE HE1.out.symm, (((Fr.refl Non w).alloc _).alloc _).alloc _⟩

set_option maxHeartbeats 8000000 in
theorem rone2_any (h0_ : Ph) (ks : List Pd) (t : Kv) (w : World) (hop : h0_.op = 2) (hk : Kd w t ks) (hl : ks.length ≤ 1000) (hcl : h0_.col.length ≤ 1000)
    (IH : Hid (∀ k (h : k < ks.length) (W : World) (t' : Kv), Kd W t' ks[k].kids → Calls Tryd.prog 65 #[pdV ks[k].hd t'] W fun e w' => e = .returned (.bool (oneP ks[k])) ∧ Fr Non W w')) :
    Calls Tryd.prog 65 #[pdV h0_ t] w fun e w' => e = .returned (.bool (oneP (.mk h0_ ks))) ∧ Fr Non w w' := by
  have hn : t.n = ks.length := hk.len
  have N1 := Lib.hid (fun W => rname_any h0_.col W (by omega))
  have M1 := Lib.hid (fun W => rmay_any h0_.kind false h0_.val W)
  have HE := Lib.hid (one_base h0_ ks t.n hn)
  generalize oneP (.mk h0_ ks) = r at *
  have HK : Hid (Kd w t ks) := Lib.hid hk
  have PB0 : Hid (∀ b d, PdB (((w.alloc (.cells (pdC h0_ t) 27)).alloc b).alloc d) w.heap.size h0_ t) := Lib.hid (fun b d => (pd_new w _ h0_ t rfl).fr (((Fr.refl Non _).alloc b).alloc d) (fun e => e))
  obtain ⟨op, col, cmp, ⟨vn, vi, vt⟩, kind, pat⟩ := h0_
  obtain ⟨A, n, c⟩ := t
  dsimp only at hn hop hcl HE
  have HL := Lib.hid hn
  have hn20 : n ≤ 1000 := by omega
  have hs := slen pat
  clear hn hk hl
  unfold pdV pdC kidV
  unfold clV clC at M1
  dsimp only at *
  subst hop
  have FL := Lib.hid (fun W => flat_any ⟨2, col, cmp, ⟨vn, vi, vt⟩, kind, pat⟩ ⟨2, col, cmp, ⟨vn, vi, vt⟩, kind, []⟩ noKv noKv W)
  have HE0 : Hid (r = (baseOk ⟨2, col, cmp, ⟨vn, vi, vt⟩, kind, pat⟩ n && ks.all (okk 2))) := HE
  clear HE
  unfold pdV pdC kidV noKv at FL
  replace HE0 : Hid (r = (nameB col && decide (1 ≤ cmp ∧ cmp ≤ 6) && mayC kind false ⟨vn, vi, vt⟩ && decide (n = 0) && peq ⟨2, col, cmp, ⟨vn, vi, vt⟩, kind, pat⟩ ⟨2, col, cmp, ⟨vn, vi, vt⟩, kind, []⟩ && ks.all (okk 2))) := HE0
  generalize peq ⟨2, col, cmp, ⟨vn, vi, vt⟩, kind, pat⟩ ⟨2, col, cmp, ⟨vn, vi, vt⟩, kind, []⟩ = q at *
  dsimp only at FL
  generalize nameB col = b1 at *
  generalize mayC kind false ⟨vn, vi, vt⟩ = b2 at *
  cases b1
  · have HE1 : Hid (r = false) := Lib.hid (by rw [HE0.out]; simp)
    clear HE0
    go_enter Tryd.func65, Tryd.ntmps65
    go_wp2_with fail
    refine (N1.out _).mono ?_
    rintro e wn ⟨rfl, fn⟩
    go_wp2
    go_ret
    exact ⟨ret_boolE HE1.out.symm, ((((Fr.refl Non w).alloc _).alloc _).alloc _).trans fn⟩
  · by_cases h1 : 1 ≤ cmp
    · by_cases h6 : cmp ≤ 6
      · cases b2
        · have HE1 : Hid (r = false) := Lib.hid (by rw [HE0.out]; simp)
          clear HE0
          go_enter Tryd.func65, Tryd.ntmps65
          go_wp2_with fail
          refine (N1.out _).mono ?_
          rintro e wn ⟨rfl, fn⟩
          have FN : Hid (Fr Non w wn) := Lib.hid (((((Fr.refl Non w).alloc _).alloc _).alloc _).trans fn)
          have Q := three_new w w.heap.size ⟨2, col, cmp, ⟨vn, vi, vt⟩, kind, pat⟩ ⟨2, col, cmp, ⟨vn, vi, vt⟩, kind, pat⟩ ⟨2, col, cmp, ⟨vn, vi, vt⟩, kind, []⟩ ⟨A, n, c⟩ noKv noKv rfl
          have PBn : Hid (PdB wn w.heap.size ⟨2, col, cmp, ⟨vn, vi, vt⟩, kind, pat⟩ ⟨A, n, c⟩) := Lib.hid (Q.1.fr fn (fun e => e))
          have PB3 : Hid (PdB wn (w.heap.size + 1) ⟨2, col, cmp, ⟨vn, vi, vt⟩, kind, pat⟩ noKv) := Lib.hid (Q.2.1.fr fn (fun e => e))
          have PB4 : Hid (PdB wn (w.heap.size + 1 + 1) ⟨2, col, cmp, ⟨vn, vi, vt⟩, kind, []⟩ noKv) := Lib.hid (Q.2.2.fr fn (fun e => e))
          clear Q fn
          obtain ⟨g0, g1, g2, g3, g4, g5, g6, g7, g8⟩ := pdB_cells PBn.out
          dsimp only at g0 g1 g2 g3 g4 g5 g6 g7 g8
          obtain ⟨d0, d1, d2, d3, d4, d5, d6, d7, d8⟩ := pdB_cells PB3.out
          obtain ⟨e0, e1, e2, e3, e4, e5, e6, e7, e8⟩ := pdB_cells PB4.out
          dsimp only at d0 d1 d2 d3 d4 d5 d6 d7 d8 e0 e1 e2 e3 e4 e5 e6 e7 e8
          go_wp2_with fail
          refine (M1.out _).mono ?_
          rintro e wm ⟨rfl, fm⟩
          go_wp2
          go_ret
          exact ⟨ret_boolE HE1.out.symm, FN.out.trans fm⟩
        · have HE9 : Hid (r = (decide (n = 0) && q && ks.all (okk 2))) := Lib.hid (by rw [HE0.out, decide_eq_true (show 1 ≤ cmp ∧ cmp ≤ 6 from ⟨h1, h6⟩)]; simp)
          clear HE0
          have HE0 := HE9
          clear HE9
          by_cases h0 : n = 0
          · subst h0
            have HE1 : Hid (r = (q && ks.all (okk 2))) := Lib.hid (by rw [HE0.out]; simp)
            clear HE0
            have HE0 := HE1
            clear HE1
            go_enter Tryd.func65, Tryd.ntmps65
            go_wp2_with fail
            refine (N1.out _).mono ?_
            rintro e wn ⟨rfl, fn⟩
            have FN : Hid (Fr Non w wn) := Lib.hid (((((Fr.refl Non w).alloc _).alloc _).alloc _).trans fn)
            have Q := three_new w w.heap.size ⟨2, col, cmp, ⟨vn, vi, vt⟩, kind, pat⟩ ⟨2, col, cmp, ⟨vn, vi, vt⟩, kind, pat⟩ ⟨2, col, cmp, ⟨vn, vi, vt⟩, kind, []⟩ ⟨A, 0, c⟩ noKv noKv rfl
            have PBn : Hid (PdB wn w.heap.size ⟨2, col, cmp, ⟨vn, vi, vt⟩, kind, pat⟩ ⟨A, 0, c⟩) := Lib.hid (Q.1.fr fn (fun e => e))
            have PB3 : Hid (PdB wn (w.heap.size + 1) ⟨2, col, cmp, ⟨vn, vi, vt⟩, kind, pat⟩ noKv) := Lib.hid (Q.2.1.fr fn (fun e => e))
            have PB4 : Hid (PdB wn (w.heap.size + 1 + 1) ⟨2, col, cmp, ⟨vn, vi, vt⟩, kind, []⟩ noKv) := Lib.hid (Q.2.2.fr fn (fun e => e))
            clear Q fn
            obtain ⟨g0, g1, g2, g3, g4, g5, g6, g7, g8⟩ := pdB_cells PBn.out
            dsimp only at g0 g1 g2 g3 g4 g5 g6 g7 g8
            obtain ⟨d0, d1, d2, d3, d4, d5, d6, d7, d8⟩ := pdB_cells PB3.out
            obtain ⟨e0, e1, e2, e3, e4, e5, e6, e7, e8⟩ := pdB_cells PB4.out
            dsimp only at d0 d1 d2 d3 d4 d5 d6 d7 d8 e0 e1 e2 e3 e4 e5 e6 e7 e8
            go_wp2_with fail
            refine (M1.out _).mono ?_
            rintro e wm ⟨rfl, fm⟩
            have FM := Lib.hid (FN.out.trans fm)
            have PBm := Lib.hid (PBn.out.fr fm (fun e => e))
            have PB5 := Lib.hid (PB3.out.fr fm (fun e => e))
            have PB6 := Lib.hid (PB4.out.fr fm (fun e => e))
            clear g0 g1 g2 g3 g4 g5 g6 g7 g8 d0 d1 d2 d3 d4 d5 d6 d7 d8 e0 e1 e2 e3 e4 e5 e6 e7 e8 fm
            obtain ⟨g0, g1, g2, g3, g4, g5, g6, g7, g8⟩ := pdB_cells PBm.out
            obtain ⟨d0, d1, d2, d3, d4, d5, d6, d7, d8⟩ := pdB_cells PB5.out
            obtain ⟨e0, e1, e2, e3, e4, e5, e6, e7, e8⟩ := pdB_cells PB6.out
            dsimp only at g0 g1 g2 g3 g4 g5 g6 g7 g8 d0 d1 d2 d3 d4 d5 d6 d7 d8 e0 e1 e2 e3 e4 e5 e6 e7 e8
            go_wp2_with fail
            refine (FL.out _).mono ?_
            rintro e w1 ⟨rfl, f1⟩
            have F1 := Lib.hid ((FM.out).trans f1)
            have PB := Lib.hid ((PBm.out).fr f1 (fun e => e))
            have HK1 := HK
            obtain ⟨g0, g1, g2, g3, g4, g5, g6, g7, g8⟩ := pdB_cells PB.out
            dsimp only at g0 g1 g2 g3 g4 g5 g6 g7 g8
            clear f1 HK1
            cases q
            · go_wp2
              go_ret
              exact ⟨ret_boolE (by rw [HE0.out]; simp), F1.out⟩
            · have HE : Hid (r = ks.all (okk 2)) := Lib.hid (by rw [HE0.out]; simp)
              clear HE0
              go_wp2
              go_loopw [5] (fun i wr => ∃ k : Nat, k ≤ 0 ∧ i = .int .i64 k ∧ Hid (∀ j (h : j < ks.length), j < k → okk 2 ks[j] = true) ∧ Hid (Fr Non w1 wr)) (fun i _ => 0 - (intOf i).toNat)
              case atStart => exact ⟨0, Nat.zero_le _, rfl, Lib.hid (fun _ _ h => by omega), Lib.hid (Fr.refl _ _)⟩
              case round =>
                clear g0 g1 g2 g3 g4 g5 g6 g7 g8
                obtain ⟨k, hk, rfl, HT, FR⟩ := hrel
                have FW := Lib.hid (F1.out.trans FR.out)
                by_cases hlt : k < 0
                · exact absurd hlt (by omega)
                · have b8 := (PB.out.fr FR.out (fun e => e)).cell 8
                  simp [pdC, kidV] at b8
                  have HE2 := Lib.hid (all_yes (op := 2) (by have := HL.out; omega) HT.out)
                  clear HT
                  go_wp2
                  go_ret
                  exact ⟨ret_boolE (by rw [HE.out, HE2.out]), FW.out⟩
          · have HE1 : Hid (r = false) := Lib.hid (by rw [HE0.out, decide_eq_false h0]; simp)
            have hb : 0 < n := by omega
            clear HE0 h0
            go_enter Tryd.func65, Tryd.ntmps65
            go_wp2_with fail
            refine (N1.out _).mono ?_
            rintro e wn ⟨rfl, fn⟩
            have FN : Hid (Fr Non w wn) := Lib.hid (((((Fr.refl Non w).alloc _).alloc _).alloc _).trans fn)
            have Q := three_new w w.heap.size ⟨2, col, cmp, ⟨vn, vi, vt⟩, kind, pat⟩ ⟨2, col, cmp, ⟨vn, vi, vt⟩, kind, pat⟩ ⟨2, col, cmp, ⟨vn, vi, vt⟩, kind, []⟩ ⟨A, n, c⟩ noKv noKv rfl
            have PBn : Hid (PdB wn w.heap.size ⟨2, col, cmp, ⟨vn, vi, vt⟩, kind, pat⟩ ⟨A, n, c⟩) := Lib.hid (Q.1.fr fn (fun e => e))
            have PB3 : Hid (PdB wn (w.heap.size + 1) ⟨2, col, cmp, ⟨vn, vi, vt⟩, kind, pat⟩ noKv) := Lib.hid (Q.2.1.fr fn (fun e => e))
            have PB4 : Hid (PdB wn (w.heap.size + 1 + 1) ⟨2, col, cmp, ⟨vn, vi, vt⟩, kind, []⟩ noKv) := Lib.hid (Q.2.2.fr fn (fun e => e))
            clear Q fn
            obtain ⟨g0, g1, g2, g3, g4, g5, g6, g7, g8⟩ := pdB_cells PBn.out
            dsimp only at g0 g1 g2 g3 g4 g5 g6 g7 g8
            obtain ⟨d0, d1, d2, d3, d4, d5, d6, d7, d8⟩ := pdB_cells PB3.out
            obtain ⟨e0, e1, e2, e3, e4, e5, e6, e7, e8⟩ := pdB_cells PB4.out
            dsimp only at d0 d1 d2 d3 d4 d5 d6 d7 d8 e0 e1 e2 e3 e4 e5 e6 e7 e8
            go_wp2_with fail
            refine (M1.out _).mono ?_
            rintro e wm ⟨rfl, fm⟩
            have FM := Lib.hid (FN.out.trans fm)
            have PBm := Lib.hid (PBn.out.fr fm (fun e => e))
            have PB5 := Lib.hid (PB3.out.fr fm (fun e => e))
            have PB6 := Lib.hid (PB4.out.fr fm (fun e => e))
            clear g0 g1 g2 g3 g4 g5 g6 g7 g8 d0 d1 d2 d3 d4 d5 d6 d7 d8 e0 e1 e2 e3 e4 e5 e6 e7 e8 fm
            obtain ⟨g0, g1, g2, g3, g4, g5, g6, g7, g8⟩ := pdB_cells PBm.out
            obtain ⟨d0, d1, d2, d3, d4, d5, d6, d7, d8⟩ := pdB_cells PB5.out
            obtain ⟨e0, e1, e2, e3, e4, e5, e6, e7, e8⟩ := pdB_cells PB6.out
            dsimp only at g0 g1 g2 g3 g4 g5 g6 g7 g8 d0 d1 d2 d3 d4 d5 d6 d7 d8 e0 e1 e2 e3 e4 e5 e6 e7 e8
            go_wp2
            go_ret
            exact ⟨ret_boolE HE1.out.symm, FM.out⟩
      · have HE1 : Hid (r = false) := Lib.hid (by rw [HE0.out, decide_eq_false (show ¬ (1 ≤ cmp ∧ cmp ≤ 6) from fun e => h6 e.2)]; simp)
        clear HE0
        go_enter Tryd.func65, Tryd.ntmps65
        go_wp2_with fail
        refine (N1.out _).mono ?_
        rintro e wn ⟨rfl, fn⟩
        have FN : Hid (Fr Non w wn) := Lib.hid (((((Fr.refl Non w).alloc _).alloc _).alloc _).trans fn)
        have Q := three_new w w.heap.size ⟨2, col, cmp, ⟨vn, vi, vt⟩, kind, pat⟩ ⟨2, col, cmp, ⟨vn, vi, vt⟩, kind, pat⟩ ⟨2, col, cmp, ⟨vn, vi, vt⟩, kind, []⟩ ⟨A, n, c⟩ noKv noKv rfl
        have PBn : Hid (PdB wn w.heap.size ⟨2, col, cmp, ⟨vn, vi, vt⟩, kind, pat⟩ ⟨A, n, c⟩) := Lib.hid (Q.1.fr fn (fun e => e))
        have PB3 : Hid (PdB wn (w.heap.size + 1) ⟨2, col, cmp, ⟨vn, vi, vt⟩, kind, pat⟩ noKv) := Lib.hid (Q.2.1.fr fn (fun e => e))
        have PB4 : Hid (PdB wn (w.heap.size + 1 + 1) ⟨2, col, cmp, ⟨vn, vi, vt⟩, kind, []⟩ noKv) := Lib.hid (Q.2.2.fr fn (fun e => e))
        clear Q fn
        obtain ⟨g0, g1, g2, g3, g4, g5, g6, g7, g8⟩ := pdB_cells PBn.out
        dsimp only at g0 g1 g2 g3 g4 g5 g6 g7 g8
        obtain ⟨d0, d1, d2, d3, d4, d5, d6, d7, d8⟩ := pdB_cells PB3.out
        obtain ⟨e0, e1, e2, e3, e4, e5, e6, e7, e8⟩ := pdB_cells PB4.out
        dsimp only at d0 d1 d2 d3 d4 d5 d6 d7 d8 e0 e1 e2 e3 e4 e5 e6 e7 e8
        go_wp2
        go_ret
        exact ⟨ret_boolE HE1.out.symm, FN.out⟩
    · have HE1 : Hid (r = false) := Lib.hid (by rw [HE0.out, decide_eq_false (show ¬ (1 ≤ cmp ∧ cmp ≤ 6) from fun e => h1 e.1)]; simp)
      clear HE0
      go_enter Tryd.func65, Tryd.ntmps65
      go_wp2_with fail
      refine (N1.out _).mono ?_
      rintro e wn ⟨rfl, fn⟩
      have FN : Hid (Fr Non w wn) := Lib.hid (((((Fr.refl Non w).alloc _).alloc _).alloc _).trans fn)
      have Q := three_new w w.heap.size ⟨2, col, cmp, ⟨vn, vi, vt⟩, kind, pat⟩ ⟨2, col, cmp, ⟨vn, vi, vt⟩, kind, pat⟩ ⟨2, col, cmp, ⟨vn, vi, vt⟩, kind, []⟩ ⟨A, n, c⟩ noKv noKv rfl
      have PBn : Hid (PdB wn w.heap.size ⟨2, col, cmp, ⟨vn, vi, vt⟩, kind, pat⟩ ⟨A, n, c⟩) := Lib.hid (Q.1.fr fn (fun e => e))
      have PB3 : Hid (PdB wn (w.heap.size + 1) ⟨2, col, cmp, ⟨vn, vi, vt⟩, kind, pat⟩ noKv) := Lib.hid (Q.2.1.fr fn (fun e => e))
      have PB4 : Hid (PdB wn (w.heap.size + 1 + 1) ⟨2, col, cmp, ⟨vn, vi, vt⟩, kind, []⟩ noKv) := Lib.hid (Q.2.2.fr fn (fun e => e))
      clear Q fn
      obtain ⟨g0, g1, g2, g3, g4, g5, g6, g7, g8⟩ := pdB_cells PBn.out
      dsimp only at g0 g1 g2 g3 g4 g5 g6 g7 g8
      obtain ⟨d0, d1, d2, d3, d4, d5, d6, d7, d8⟩ := pdB_cells PB3.out
      obtain ⟨e0, e1, e2, e3, e4, e5, e6, e7, e8⟩ := pdB_cells PB4.out
      dsimp only at d0 d1 d2 d3 d4 d5 d6 d7 d8 e0 e1 e2 e3 e4 e5 e6 e7 e8
      go_wp2
      go_ret
      exact ⟨ret_boolE HE1.out.symm, FN.out⟩

set_option maxHeartbeats 8000000 in
theorem rone3_any (h0_ : Ph) (ks : List Pd) (t : Kv) (w : World) (hop : h0_.op = 3) (hk : Kd w t ks) (hl : ks.length ≤ 1000) (hcl : h0_.col.length ≤ 1000)
    (IH : Hid (∀ k (h : k < ks.length) (W : World) (t' : Kv), Kd W t' ks[k].kids → Calls Tryd.prog 65 #[pdV ks[k].hd t'] W fun e w' => e = .returned (.bool (oneP ks[k])) ∧ Fr Non W w')) :
    Calls Tryd.prog 65 #[pdV h0_ t] w fun e w' => e = .returned (.bool (oneP (.mk h0_ ks))) ∧ Fr Non w w' := by
  have hn : t.n = ks.length := hk.len
  have N1 := Lib.hid (fun W => rname_any h0_.col W (by omega))
  have M1 := Lib.hid (fun W => rmay_any h0_.kind false h0_.val W)
  have HE := Lib.hid (one_base h0_ ks t.n hn)
  generalize oneP (.mk h0_ ks) = r at *
  have HK : Hid (Kd w t ks) := Lib.hid hk
  have PB0 : Hid (∀ b d, PdB (((w.alloc (.cells (pdC h0_ t) 27)).alloc b).alloc d) w.heap.size h0_ t) := Lib.hid (fun b d => (pd_new w _ h0_ t rfl).fr (((Fr.refl Non _).alloc b).alloc d) (fun e => e))
  obtain ⟨op, col, cmp, ⟨vn, vi, vt⟩, kind, pat⟩ := h0_
  obtain ⟨A, n, c⟩ := t
  dsimp only at hn hop hcl HE
  have HL := Lib.hid hn
  have hn20 : n ≤ 1000 := by omega
  have hs := slen pat
  clear hn hk hl
  unfold pdV pdC kidV
  unfold clV clC at M1
  dsimp only at *
  subst hop
  have FL := Lib.hid (fun W => flat_any ⟨3, col, cmp, ⟨vn, vi, vt⟩, kind, pat⟩ ⟨3, col, 0, zCl, 0, []⟩ noKv noKv W)
  have HE0 : Hid (r = (baseOk ⟨3, col, cmp, ⟨vn, vi, vt⟩, kind, pat⟩ n && ks.all (okk 3))) := HE
  clear HE
  unfold pdV pdC kidV noKv at FL
  replace HE0 : Hid (r = (nameB col && decide (n = 0) && peq ⟨3, col, cmp, ⟨vn, vi, vt⟩, kind, pat⟩ ⟨3, col, 0, zCl, 0, []⟩ && ks.all (okk 3))) := HE0
  generalize peq ⟨3, col, cmp, ⟨vn, vi, vt⟩, kind, pat⟩ ⟨3, col, 0, zCl, 0, []⟩ = q at *
  unfold zCl at FL
  dsimp only at FL
  clear M1
  generalize nameB col = b1 at *
  cases b1
  · have HE1 : Hid (r = false) := Lib.hid (by rw [HE0.out]; simp)
    clear HE0
    go_enter Tryd.func65, Tryd.ntmps65
    go_wp2_with fail
    refine (N1.out _).mono ?_
    rintro e wn ⟨rfl, fn⟩
    go_wp2
    go_ret
    exact ⟨ret_boolE HE1.out.symm, ((((Fr.refl Non w).alloc _).alloc _).alloc _).trans fn⟩
  · have HE9 : Hid (r = (decide (n = 0) && q && ks.all (okk 3))) := Lib.hid (by rw [HE0.out]; simp)
    clear HE0
    have HE0 := HE9
    clear HE9
    by_cases h0 : n = 0
    · subst h0
      have HE1 : Hid (r = (q && ks.all (okk 3))) := Lib.hid (by rw [HE0.out]; simp)
      clear HE0
      have HE0 := HE1
      clear HE1
      go_enter Tryd.func65, Tryd.ntmps65
      go_wp2_with fail
      refine (N1.out _).mono ?_
      rintro e wn ⟨rfl, fn⟩
      have FN : Hid (Fr Non w wn) := Lib.hid (((((Fr.refl Non w).alloc _).alloc _).alloc _).trans fn)
      have Q := three_new w w.heap.size ⟨3, col, cmp, ⟨vn, vi, vt⟩, kind, pat⟩ ⟨3, col, cmp, ⟨vn, vi, vt⟩, kind, pat⟩ ⟨3, col, 0, ⟨false, 0, []⟩, 0, []⟩ ⟨A, 0, c⟩ noKv noKv rfl
      have PBn : Hid (PdB wn w.heap.size ⟨3, col, cmp, ⟨vn, vi, vt⟩, kind, pat⟩ ⟨A, 0, c⟩) := Lib.hid (Q.1.fr fn (fun e => e))
      have PB3 : Hid (PdB wn (w.heap.size + 1) ⟨3, col, cmp, ⟨vn, vi, vt⟩, kind, pat⟩ noKv) := Lib.hid (Q.2.1.fr fn (fun e => e))
      have PB4 : Hid (PdB wn (w.heap.size + 1 + 1) ⟨3, col, 0, ⟨false, 0, []⟩, 0, []⟩ noKv) := Lib.hid (Q.2.2.fr fn (fun e => e))
      clear Q fn
      obtain ⟨g0, g1, g2, g3, g4, g5, g6, g7, g8⟩ := pdB_cells PBn.out
      dsimp only at g0 g1 g2 g3 g4 g5 g6 g7 g8
      obtain ⟨d0, d1, d2, d3, d4, d5, d6, d7, d8⟩ := pdB_cells PB3.out
      obtain ⟨e0, e1, e2, e3, e4, e5, e6, e7, e8⟩ := pdB_cells PB4.out
      dsimp only at d0 d1 d2 d3 d4 d5 d6 d7 d8 e0 e1 e2 e3 e4 e5 e6 e7 e8
      go_wp2_with fail
      refine (FL.out _).mono ?_
      rintro e w1 ⟨rfl, f1⟩
      have F1 := Lib.hid ((FN.out).trans f1)
      have PB := Lib.hid ((PBn.out).fr f1 (fun e => e))
      have HK1 := HK
      obtain ⟨g0, g1, g2, g3, g4, g5, g6, g7, g8⟩ := pdB_cells PB.out
      dsimp only at g0 g1 g2 g3 g4 g5 g6 g7 g8
      clear f1 HK1
      cases q
      · go_wp2
        go_ret
        exact ⟨ret_boolE (by rw [HE0.out]; simp), F1.out⟩
      · have HE : Hid (r = ks.all (okk 3)) := Lib.hid (by rw [HE0.out]; simp)
        clear HE0
        go_wp2
        go_loopw [5] (fun i wr => ∃ k : Nat, k ≤ 0 ∧ i = .int .i64 k ∧ Hid (∀ j (h : j < ks.length), j < k → okk 3 ks[j] = true) ∧ Hid (Fr Non w1 wr)) (fun i _ => 0 - (intOf i).toNat)
        case atStart => exact ⟨0, Nat.zero_le _, rfl, Lib.hid (fun _ _ h => by omega), Lib.hid (Fr.refl _ _)⟩
        case round =>
          clear g0 g1 g2 g3 g4 g5 g6 g7 g8
          obtain ⟨k, hk, rfl, HT, FR⟩ := hrel
          have FW := Lib.hid (F1.out.trans FR.out)
          by_cases hlt : k < 0
          · exact absurd hlt (by omega)
          · have b8 := (PB.out.fr FR.out (fun e => e)).cell 8
            simp [pdC, kidV] at b8
            have HE2 := Lib.hid (all_yes (op := 3) (by have := HL.out; omega) HT.out)
            clear HT
            go_wp2
            go_ret
            exact ⟨ret_boolE (by rw [HE.out, HE2.out]), FW.out⟩
    · have HE1 : Hid (r = false) := Lib.hid (by rw [HE0.out, decide_eq_false h0]; simp)
      have hb : 0 < n := by omega
      clear HE0 h0
      go_enter Tryd.func65, Tryd.ntmps65
      go_wp2_with fail
      refine (N1.out _).mono ?_
      rintro e wn ⟨rfl, fn⟩
      have FN : Hid (Fr Non w wn) := Lib.hid (((((Fr.refl Non w).alloc _).alloc _).alloc _).trans fn)
      have Q := three_new w w.heap.size ⟨3, col, cmp, ⟨vn, vi, vt⟩, kind, pat⟩ ⟨3, col, cmp, ⟨vn, vi, vt⟩, kind, pat⟩ ⟨3, col, 0, ⟨false, 0, []⟩, 0, []⟩ ⟨A, n, c⟩ noKv noKv rfl
      have PBn : Hid (PdB wn w.heap.size ⟨3, col, cmp, ⟨vn, vi, vt⟩, kind, pat⟩ ⟨A, n, c⟩) := Lib.hid (Q.1.fr fn (fun e => e))
      have PB3 : Hid (PdB wn (w.heap.size + 1) ⟨3, col, cmp, ⟨vn, vi, vt⟩, kind, pat⟩ noKv) := Lib.hid (Q.2.1.fr fn (fun e => e))
      have PB4 : Hid (PdB wn (w.heap.size + 1 + 1) ⟨3, col, 0, ⟨false, 0, []⟩, 0, []⟩ noKv) := Lib.hid (Q.2.2.fr fn (fun e => e))
      clear Q fn
      obtain ⟨g0, g1, g2, g3, g4, g5, g6, g7, g8⟩ := pdB_cells PBn.out
      dsimp only at g0 g1 g2 g3 g4 g5 g6 g7 g8
      obtain ⟨d0, d1, d2, d3, d4, d5, d6, d7, d8⟩ := pdB_cells PB3.out
      obtain ⟨e0, e1, e2, e3, e4, e5, e6, e7, e8⟩ := pdB_cells PB4.out
      dsimp only at d0 d1 d2 d3 d4 d5 d6 d7 d8 e0 e1 e2 e3 e4 e5 e6 e7 e8
      go_wp2
      go_ret
      exact ⟨ret_boolE HE1.out.symm, FN.out⟩

set_option maxHeartbeats 8000000 in
theorem rone4_any (h0_ : Ph) (ks : List Pd) (t : Kv) (w : World) (hop : h0_.op = 4) (hk : Kd w t ks) (hl : ks.length ≤ 1000) (hcl : h0_.col.length ≤ 1000)
    (IH : Hid (∀ k (h : k < ks.length) (W : World) (t' : Kv), Kd W t' ks[k].kids → Calls Tryd.prog 65 #[pdV ks[k].hd t'] W fun e w' => e = .returned (.bool (oneP ks[k])) ∧ Fr Non W w')) :
    Calls Tryd.prog 65 #[pdV h0_ t] w fun e w' => e = .returned (.bool (oneP (.mk h0_ ks))) ∧ Fr Non w w' := by
  have hn : t.n = ks.length := hk.len
  have N1 := Lib.hid (fun W => rname_any h0_.col W (by omega))
  have M1 := Lib.hid (fun W => rmay_any h0_.kind false h0_.val W)
  have HE := Lib.hid (one_base h0_ ks t.n hn)
  generalize oneP (.mk h0_ ks) = r at *
  have HK : Hid (Kd w t ks) := Lib.hid hk
  have PB0 : Hid (∀ b d, PdB (((w.alloc (.cells (pdC h0_ t) 27)).alloc b).alloc d) w.heap.size h0_ t) := Lib.hid (fun b d => (pd_new w _ h0_ t rfl).fr (((Fr.refl Non _).alloc b).alloc d) (fun e => e))
  obtain ⟨op, col, cmp, ⟨vn, vi, vt⟩, kind, pat⟩ := h0_
  obtain ⟨A, n, c⟩ := t
  dsimp only at hn hop hcl HE
  have HL := Lib.hid hn
  have hn20 : n ≤ 1000 := by omega
  have hs := slen pat
  clear hn hk hl
  unfold pdV pdC kidV
  unfold clV clC at M1
  dsimp only at *
  subst hop
  have FL := Lib.hid (fun W => flat_any ⟨4, col, cmp, ⟨vn, vi, vt⟩, kind, pat⟩ ⟨4, col, 0, zCl, 0, pat⟩ noKv noKv W)
  have HE0 : Hid (r = (baseOk ⟨4, col, cmp, ⟨vn, vi, vt⟩, kind, pat⟩ n && ks.all (okk 4))) := HE
  clear HE
  unfold pdV pdC kidV noKv at FL
  replace HE0 : Hid (r = (nameB col && decide (pat.length ≤ 40) && decide (n = 0) && peq ⟨4, col, cmp, ⟨vn, vi, vt⟩, kind, pat⟩ ⟨4, col, 0, zCl, 0, pat⟩ && ks.all (okk 4))) := HE0
  generalize peq ⟨4, col, cmp, ⟨vn, vi, vt⟩, kind, pat⟩ ⟨4, col, 0, zCl, 0, pat⟩ = q at *
  unfold zCl at FL
  dsimp only at FL
  clear M1
  generalize nameB col = b1 at *
  cases b1
  · have HE1 : Hid (r = false) := Lib.hid (by rw [HE0.out]; simp)
    clear HE0
    go_enter Tryd.func65, Tryd.ntmps65
    go_wp2_with fail
    refine (N1.out _).mono ?_
    rintro e wn ⟨rfl, fn⟩
    go_wp2
    go_ret
    exact ⟨ret_boolE HE1.out.symm, ((((Fr.refl Non w).alloc _).alloc _).alloc _).trans fn⟩
  · by_cases h40 : pat.length ≤ 40
    · have hpl : ¬ 40 < pat.length := by omega
      have HE9 : Hid (r = (decide (n = 0) && q && ks.all (okk 4))) := Lib.hid (by rw [HE0.out, decide_eq_true h40]; simp)
      clear HE0
      have HE0 := HE9
      clear HE9
      by_cases h0 : n = 0
      · subst h0
        have HE1 : Hid (r = (q && ks.all (okk 4))) := Lib.hid (by rw [HE0.out]; simp)
        clear HE0
        have HE0 := HE1
        clear HE1
        go_enter Tryd.func65, Tryd.ntmps65
        go_wp2_with fail
        refine (N1.out _).mono ?_
        rintro e wn ⟨rfl, fn⟩
        have FN : Hid (Fr Non w wn) := Lib.hid (((((Fr.refl Non w).alloc _).alloc _).alloc _).trans fn)
        have Q := three_new w w.heap.size ⟨4, col, cmp, ⟨vn, vi, vt⟩, kind, pat⟩ ⟨4, col, cmp, ⟨vn, vi, vt⟩, kind, pat⟩ ⟨4, col, 0, ⟨false, 0, []⟩, 0, pat⟩ ⟨A, 0, c⟩ noKv noKv rfl
        have PBn : Hid (PdB wn w.heap.size ⟨4, col, cmp, ⟨vn, vi, vt⟩, kind, pat⟩ ⟨A, 0, c⟩) := Lib.hid (Q.1.fr fn (fun e => e))
        have PB3 : Hid (PdB wn (w.heap.size + 1) ⟨4, col, cmp, ⟨vn, vi, vt⟩, kind, pat⟩ noKv) := Lib.hid (Q.2.1.fr fn (fun e => e))
        have PB4 : Hid (PdB wn (w.heap.size + 1 + 1) ⟨4, col, 0, ⟨false, 0, []⟩, 0, pat⟩ noKv) := Lib.hid (Q.2.2.fr fn (fun e => e))
        clear Q fn
        obtain ⟨g0, g1, g2, g3, g4, g5, g6, g7, g8⟩ := pdB_cells PBn.out
        dsimp only at g0 g1 g2 g3 g4 g5 g6 g7 g8
        obtain ⟨d0, d1, d2, d3, d4, d5, d6, d7, d8⟩ := pdB_cells PB3.out
        obtain ⟨e0, e1, e2, e3, e4, e5, e6, e7, e8⟩ := pdB_cells PB4.out
        dsimp only at d0 d1 d2 d3 d4 d5 d6 d7 d8 e0 e1 e2 e3 e4 e5 e6 e7 e8
        go_wp2_with fail
        refine (FL.out _).mono ?_
        rintro e w1 ⟨rfl, f1⟩
        have F1 := Lib.hid ((FN.out).trans f1)
        have PB := Lib.hid ((PBn.out).fr f1 (fun e => e))
        have HK1 := HK
        obtain ⟨g0, g1, g2, g3, g4, g5, g6, g7, g8⟩ := pdB_cells PB.out
        dsimp only at g0 g1 g2 g3 g4 g5 g6 g7 g8
        clear f1 HK1
        cases q
        · go_wp2
          go_ret
          exact ⟨ret_boolE (by rw [HE0.out]; simp), F1.out⟩
        · have HE : Hid (r = ks.all (okk 4)) := Lib.hid (by rw [HE0.out]; simp)
          clear HE0
          go_wp2
          go_loopw [5] (fun i wr => ∃ k : Nat, k ≤ 0 ∧ i = .int .i64 k ∧ Hid (∀ j (h : j < ks.length), j < k → okk 4 ks[j] = true) ∧ Hid (Fr Non w1 wr)) (fun i _ => 0 - (intOf i).toNat)
          case atStart => exact ⟨0, Nat.zero_le _, rfl, Lib.hid (fun _ _ h => by omega), Lib.hid (Fr.refl _ _)⟩
          case round =>
            clear g0 g1 g2 g3 g4 g5 g6 g7 g8
            obtain ⟨k, hk, rfl, HT, FR⟩ := hrel
            have FW := Lib.hid (F1.out.trans FR.out)
            by_cases hlt : k < 0
            · exact absurd hlt (by omega)
            · have b8 := (PB.out.fr FR.out (fun e => e)).cell 8
              simp [pdC, kidV] at b8
              have HE2 := Lib.hid (all_yes (op := 4) (by have := HL.out; omega) HT.out)
              clear HT
              go_wp2
              go_ret
              exact ⟨ret_boolE (by rw [HE.out, HE2.out]), FW.out⟩
      · have HE1 : Hid (r = false) := Lib.hid (by rw [HE0.out, decide_eq_false h0]; simp)
        have hb : 0 < n := by omega
        clear HE0 h0
        go_enter Tryd.func65, Tryd.ntmps65
        go_wp2_with fail
        refine (N1.out _).mono ?_
        rintro e wn ⟨rfl, fn⟩
        have FN : Hid (Fr Non w wn) := Lib.hid (((((Fr.refl Non w).alloc _).alloc _).alloc _).trans fn)
        have Q := three_new w w.heap.size ⟨4, col, cmp, ⟨vn, vi, vt⟩, kind, pat⟩ ⟨4, col, cmp, ⟨vn, vi, vt⟩, kind, pat⟩ ⟨4, col, 0, ⟨false, 0, []⟩, 0, pat⟩ ⟨A, n, c⟩ noKv noKv rfl
        have PBn : Hid (PdB wn w.heap.size ⟨4, col, cmp, ⟨vn, vi, vt⟩, kind, pat⟩ ⟨A, n, c⟩) := Lib.hid (Q.1.fr fn (fun e => e))
        have PB3 : Hid (PdB wn (w.heap.size + 1) ⟨4, col, cmp, ⟨vn, vi, vt⟩, kind, pat⟩ noKv) := Lib.hid (Q.2.1.fr fn (fun e => e))
        have PB4 : Hid (PdB wn (w.heap.size + 1 + 1) ⟨4, col, 0, ⟨false, 0, []⟩, 0, pat⟩ noKv) := Lib.hid (Q.2.2.fr fn (fun e => e))
        clear Q fn
        obtain ⟨g0, g1, g2, g3, g4, g5, g6, g7, g8⟩ := pdB_cells PBn.out
        dsimp only at g0 g1 g2 g3 g4 g5 g6 g7 g8
        obtain ⟨d0, d1, d2, d3, d4, d5, d6, d7, d8⟩ := pdB_cells PB3.out
        obtain ⟨e0, e1, e2, e3, e4, e5, e6, e7, e8⟩ := pdB_cells PB4.out
        dsimp only at d0 d1 d2 d3 d4 d5 d6 d7 d8 e0 e1 e2 e3 e4 e5 e6 e7 e8
        go_wp2
        go_ret
        exact ⟨ret_boolE HE1.out.symm, FN.out⟩
    · have hpl : 40 < pat.length := by omega
      have HE1 : Hid (r = false) := Lib.hid (by rw [HE0.out, decide_eq_false h40]; simp)
      clear HE0
      go_enter Tryd.func65, Tryd.ntmps65
      go_wp2_with fail
      refine (N1.out _).mono ?_
      rintro e wn ⟨rfl, fn⟩
      have FN : Hid (Fr Non w wn) := Lib.hid (((((Fr.refl Non w).alloc _).alloc _).alloc _).trans fn)
      have Q := three_new w w.heap.size ⟨4, col, cmp, ⟨vn, vi, vt⟩, kind, pat⟩ ⟨4, col, cmp, ⟨vn, vi, vt⟩, kind, pat⟩ ⟨4, col, 0, ⟨false, 0, []⟩, 0, pat⟩ ⟨A, n, c⟩ noKv noKv rfl
      have PBn : Hid (PdB wn w.heap.size ⟨4, col, cmp, ⟨vn, vi, vt⟩, kind, pat⟩ ⟨A, n, c⟩) := Lib.hid (Q.1.fr fn (fun e => e))
      have PB3 : Hid (PdB wn (w.heap.size + 1) ⟨4, col, cmp, ⟨vn, vi, vt⟩, kind, pat⟩ noKv) := Lib.hid (Q.2.1.fr fn (fun e => e))
      have PB4 : Hid (PdB wn (w.heap.size + 1 + 1) ⟨4, col, 0, ⟨false, 0, []⟩, 0, pat⟩ noKv) := Lib.hid (Q.2.2.fr fn (fun e => e))
      clear Q fn
      obtain ⟨g0, g1, g2, g3, g4, g5, g6, g7, g8⟩ := pdB_cells PBn.out
      dsimp only at g0 g1 g2 g3 g4 g5 g6 g7 g8
      obtain ⟨d0, d1, d2, d3, d4, d5, d6, d7, d8⟩ := pdB_cells PB3.out
      obtain ⟨e0, e1, e2, e3, e4, e5, e6, e7, e8⟩ := pdB_cells PB4.out
      dsimp only at d0 d1 d2 d3 d4 d5 d6 d7 d8 e0 e1 e2 e3 e4 e5 e6 e7 e8
      go_wp2
      go_ret
      exact ⟨ret_boolE HE1.out.symm, FN.out⟩
end Go.Proofs.YtpmipdnmhffkeaaDoor


namespace Go.Proofs.YtpmipdnmhffkeaaDoor
set_option linter.unusedVariables false
set_option linter.unusedSimpArgs false
set_option maxRecDepth 100000
open Go.RowKit

/-- what Find tells -/
def findV : Option Nat → Value
  | some k => .tuple #[.int .i64 k, .bool true]
  | none => .tuple #[.int .i64 0, .bool false]
def findI : Option Nat → Int
  | some k => k
  | none => -1
set_option maxHeartbeats 1000000 in
theorem sfind_any (v : Value) (l : List Co) (n : Tx) (w : World) (hv : Ks w v l) (hl : l.length ≤ 1000000000) :
    Calls Tryd.prog 56 #[v, .string ⟨n.toArray⟩] w fun e w' => e = .returned (findV (findC l n)) ∧ Fr Non w w' := by
  obtain ⟨A, c, rfl, hlc, hn, hcell⟩ := hv
  have HC := Lib.hid hcell
  have HN := Lib.hid hn
  clear hcell hn
  go_enter Tryd.func56, Tryd.ntmps56
  go_wp2
  go_loopw [10] (fun i wr => ∃ (k : Nat), k ≤ l.length ∧ i = .int .i64 k ∧ Hid (∀ j (hj : j < l.length), j < k → l[j].name ≠ n) ∧ Fr Non w wr) (fun i _ => l.length - (intOf i).toNat)
  case atStart => exact ⟨0, Nat.zero_le _, rfl, Lib.hid (fun _ _ h => by omega), Fr.refl _ _⟩
  case round =>
    obtain ⟨k, hk, rfl, hne, hfr⟩ := hrel
    by_cases hlt : k < l.length
    · cases A with
      | none => have := HN.out rfl; omega
      | some a =>
        obtain ⟨hc0, hc1, hc2⟩ := co_lit ((HC.out a rfl k hlt).non hfr)
        have HY := Lib.hid (fun h => find_at hlt h hne.out)
        have HX := Lib.hid (fun h => ne_more hlt hne.out h)
        clear hne
        generalize l[k] = x at *
        obtain ⟨xn, xt, xb⟩ := x
        dsimp only at hc0 hc1 hc2 HY HX
        have hfr2 := Lib.hid (hfr.alloc (.cells #[.string ⟨xn.toArray⟩, .int .i64 xt, .bool xb] 55))
        have g0 := (co_new wr ⟨xn, xt, xb⟩).cell 0
        simp at g0
        by_cases he : xn = n
        · have hb : (xn == n) = true := by rw [beq_iff_eq]; exact he
          have HE := Lib.hid (HY.out he)
          clear HY HX he hfr
          go_wp2
          go_ret2
          refine ⟨?_, hfr2.out⟩
          rw [HE.out]; rfl
        · have hb : (xn == n) = false := by rw [beq_eq_false_iff_ne]; exact he
          have HE := Lib.hid (HX.out he)
          clear HY HX he hfr
          go_wp2
          go_roundw
          case rel => exact ⟨k + 1, by omega, by go_num, HE, hfr2.out⟩
          case measure => simp [intOf]; omega
    · have HE := Lib.hid (find_no (l := l) (n := n) (fun j hj => hne.out j hj (by omega)))
      clear hne
      go_wp2
      go_ret2
      refine ⟨?_, hfr⟩
      rw [HE.out]; rfl

set_option maxHeartbeats 1000000 in
theorem rfind_any (v : Value) (l : List Co) (n : Tx) (w : World) (hv : Ks w v l) (hl : l.length ≤ 1000000000) :
    Calls Tryd.prog 27 #[v, .string ⟨n.toArray⟩] w fun e w' => e = .returned (.int .i64 (findI (findC l n))) ∧ Fr Non w w' := by
  obtain ⟨A, c, rfl, hlc, hn, hcell⟩ := hv
  have HC := Lib.hid hcell
  have HN := Lib.hid hn
  clear hcell hn
  go_enter Tryd.func27, Tryd.ntmps27
  go_wp2
  go_loop [5] (fun i => ∃ (k : Nat), k ≤ l.length ∧ i = .int .i64 k ∧ Hid (∀ j (hj : j < l.length), j < k → l[j].name ≠ n)) (fun i => l.length - (intOf i).toNat)
  case atStart => exact ⟨0, Nat.zero_le _, rfl, Lib.hid (fun _ _ h => by omega)⟩
  case round =>
    obtain ⟨k, hk, rfl, hne⟩ := hrel
    by_cases hlt : k < l.length
    · cases A with
      | none => have := HN.out rfl; omega
      | some a =>
        obtain ⟨hc0, hc1, hc2⟩ := co_lit (HC.out a rfl k hlt)
        have HY := Lib.hid (fun h => find_at hlt h hne.out)
        have HX := Lib.hid (fun h => ne_more hlt hne.out h)
        clear hne
        generalize l[k] = x at *
        obtain ⟨xn, xt, xb⟩ := x
        dsimp only at hc0 hc1 hc2 HY HX
        by_cases he : xn = n
        · have hb : (xn == n) = true := by rw [beq_iff_eq]; exact he
          have HE := Lib.hid (HY.out he)
          clear HY HX he
          go_wp2
          go_ret
          refine ⟨?_, Fr.refl _ _⟩
          rw [HE.out]; rfl
        · have hb : (xn == n) = false := by rw [beq_eq_false_iff_ne]; exact he
          have HE := Lib.hid (HX.out he)
          clear HY HX he
          go_wp2
          go_roundw
          case rel => exact ⟨k + 1, by omega, by go_num, HE⟩
          case measure => simp [intOf]; omega
    · have HE := Lib.hid (find_no (l := l) (n := n) (fun j hj => hne.out j hj (by omega)))
      clear hne
      go_wp2
      go_ret
      refine ⟨?_, Fr.refl _ _⟩
      rw [HE.out]; rfl

end Go.Proofs.YtpmipdnmhffkeaaDoor


namespace Go.Proofs.YtpmipdnmhffkeaaDoor
set_option linter.unusedVariables false
set_option linter.unusedSimpArgs false
set_option maxRecDepth 100000
open Go.RowKit

/-- a zone and a predicate boxed, the answer's block, and what there may be so far -/
def cmpW (w : World) (z : Zn) (h : Ph) (t : Kv) (b : Bool) : World := (((w.alloc (.cells (znC z) 33)).alloc (.cells (pdC h t) 27)).alloc (.cells #[.bool false, .bool false, .bool false] 35)).alloc (.cells #[.bool false, .bool false, .bool b] 35)
theorem cmpW_fr (w : World) (z : Zn) (h : Ph) (t : Kv) (b : Bool) : Fr Non w (cmpW w z h t b) := ((((Fr.refl Non w).alloc _).alloc _).alloc _).alloc _
theorem cmpW_z (w : World) (z : Zn) (h : Ph) (t : Kv) (b : Bool) : ZnB (cmpW w z h t b) w.heap.size z := (Blk.new _ _ _).fr ((((Fr.refl Non _).alloc _).alloc _).alloc _) (fun e => e)
theorem cmpW_p (w : World) (z : Zn) (h : Ph) (t : Kv) (b : Bool) : PdB (cmpW w z h t b) (w.heap.size + 1) h t := by
  have e := pd_new (w.alloc (.cells (znC z) 33)) _ h t rfl
  rw [show (w.alloc (.cells (znC z) 33)).heap.size = w.heap.size + 1 by simp] at e
  exact e.fr (((Fr.refl Non _).alloc _).alloc _) (fun e => e)
theorem cmpW_a (w : World) (z : Zn) (h : Ph) (t : Kv) (b : Bool) : TrB 35 (cmpW w z h t b) (w.heap.size + 1 + 1) ⟨false, false, false⟩ := by
  have e := tr_new 35 ((w.alloc (.cells (znC z) 33)).alloc (.cells (pdC h t) 27)) ⟨false, false, false⟩
  rw [show ((w.alloc (.cells (znC z) 33)).alloc (.cells (pdC h t) 27)).heap.size = w.heap.size + 1 + 1 by simp] at e
  exact e.fr ((Fr.refl Non _).alloc _) (fun e => e)
theorem cmpW_m (w : World) (z : Zn) (h : Ph) (t : Kv) (b : Bool) : TrB 35 (cmpW w z h t b) (w.heap.size + 1 + 1 + 1) ⟨false, false, b⟩ := by
  have e := tr_new 35 (((w.alloc (.cells (znC z) 33)).alloc (.cells (pdC h t) 27)).alloc (.cells #[.bool false, .bool false, .bool false] 35)) ⟨false, false, b⟩
  rw [show (((w.alloc (.cells (znC z) 33)).alloc (.cells (pdC h t) 27)).alloc (.cells #[.bool false, .bool false, .bool false] 35)).heap.size = w.heap.size + 1 + 1 + 1 by simp] at e
  exact e

def cmpT2 (z : Zn) (h : Ph) : Tr := ⟨someZ z && rngI h.cmp z.low z.high h.val, someZ z && rngI (oppI h.cmp) z.low z.high h.val, nullZ z⟩

set_option maxHeartbeats 4000000 in
theorem pzcompared_any (z : Zn) (h : Ph) (t : Kv) (w : World) (hT : OppT w) (hv : h.val.null = false) (h1 : 1 ≤ h.cmp) (h2 : h.cmp ≤ 6) :
    Calls Tryd.prog 37 #[znV z, pdV h t] w fun e w' => e = .returned (trV (cmpT2 z h)) ∧ Fr Non w w' := by
  obtain ⟨q, hq⟩ := Int.eq_ofNat_of_zero_le (show 0 ≤ h.cmp by omega)
  have hq1 : 1 ≤ q := by omega
  have hq6 : q ≤ 6 := by omega
  have hq7 : q < 7 := by omega
  have hqi : (q : Int) < 7 := by omega
  have hGLT : 0 < w.heap.size := World.block_lt_of_cell? w _ (hT 0 (by decide))
  have F0 := Lib.hid (cmpW_fr w z h t (nullZ z))
  have ZB := Lib.hid (cmpW_z w z h t (nullZ z))
  have PB := Lib.hid (cmpW_p w z h t (nullZ z))
  have AB := Lib.hid (cmpW_a w z h t (nullZ z))
  have MB := Lib.hid (cmpW_m w z h t (nullZ z))
  have OT := Lib.hid (hT.non (cmpW_fr w z h t (nullZ z)))
  have HSo := Lib.hid (fun W => pzsome_any z W)
  have HA1 : Hid (someZ z = true → ∀ W, Calls Tryd.prog 63 #[.int .i64 h.cmp, znV z, clV h.val] W fun e w' => e = .returned (.bool (rngI h.cmp z.low z.high h.val)) ∧ Fr Non W w') := Lib.hid (fun e W => pzagrees_any h.cmp z h.val W hv e)
  have HA2 : Hid (someZ z = true → ∀ W, Calls Tryd.prog 63 #[.int .i64 ((oppN q : Nat) : Int), znV z, clV h.val] W fun e w' => e = .returned (.bool (rngI (oppI h.cmp) z.low z.high h.val)) ∧ Fr Non W w') := Lib.hid (fun e W => by
    have := pzagrees_any (oppI h.cmp) z h.val W hv e
    rw [hq, ← oppN_is hq1 hq6] at this ⊢
    exact this)
  have HE : Hid (cmpT2 z h = ⟨someZ z && rngI h.cmp z.low z.high h.val, someZ z && rngI (oppI h.cmp) z.low z.high h.val, decide (0 < z.nulls)⟩) := Lib.hid rfl
  clear hT hv h1 h2 hq1 hq6
  generalize cmpT2 z h = r at *
  obtain ⟨m, hm⟩ : ∃ m, oppN q = m := ⟨_, rfl⟩
  rw [hm] at HA2
  generalize rngI h.cmp z.low z.high h.val = y1 at *
  generalize rngI (oppI h.cmp) z.low z.high h.val = y2 at *
  rw [hq] at HA1
  generalize hsz : someZ z = sz at *
  have HNu : Hid (nullZ z = decide (0 < z.nulls)) := Lib.hid rfl
  rw [HNu.out] at *
  clear HNu
  obtain ⟨ho, hc, hmm, ⟨vn, vi, vt⟩, hkd, hp⟩ := h
  obtain ⟨A, n, c⟩ := t
  obtain ⟨zr, zu, ⟨ln, li, lt⟩, ⟨hn2, hi, ht⟩⟩ := z
  dsimp only at hq
  subst hq
  clear hsz
  unfold cmpW at F0 ZB PB AB MB OT
  unfold znV pdV clV at *
  unfold znC pdC clC kidV at *
  dsimp only at *
  generalize hg : w.heap.size = g at *
  obtain ⟨a0, a1, a2, a3, a4, a5, a6, a7⟩ := znB_cells ZB.out
  obtain ⟨-, -, b2, b3, b4, b5, -, -, -⟩ := pdB_cells PB.out
  have o1 := OT.out q hq7
  dsimp only at a0 a1 a2 a3 a4 a5 a6 a7 b2 b3 b4 b5
  rw [hm] at o1
  go_enter Tryd.func37, Tryd.ntmps37
  go_wp2_with fail
  refine (HSo.out _).mono ?_
  rintro e w1 ⟨rfl, f1⟩
  have ZB1 := Lib.hid (ZB.out.fr f1 (fun e => e))
  have PB1 := Lib.hid (PB.out.fr f1 (fun e => e))
  have AB1 : Hid (TrB 35 w1 (g + 1 + 1) ⟨false, false, false⟩) := Lib.hid (AB.out.fr f1 (fun e => e))
  have MB1 : Hid (TrB 35 w1 (g + 1 + 1 + 1) ⟨false, false, decide (0 < zu)⟩) := Lib.hid (MB.out.fr f1 (fun e => e))
  have OT1 := Lib.hid (OT.out.non f1)
  have F1 := Lib.hid (F0.out.trans f1)
  clear a0 a1 a2 a3 a4 a5 a6 a7 b2 b3 b4 b5 o1 f1 HSo ZB PB AB MB OT F0
  obtain ⟨a0, a1, a2, a3, a4, a5, a6, a7⟩ := znB_cells ZB1.out
  obtain ⟨-, -, b2, b3, b4, b5, -, -, -⟩ := pdB_cells PB1.out
  have o1 := OT1.out q hq7
  dsimp only at a0 a1 a2 a3 a4 a5 a6 a7 b2 b3 b4 b5
  rw [hm] at o1
  generalize decide (0 < zu) = nz at *
  cases sz
  · clear HA1 HA2
    have AB2 := Lib.hid (setTr_B AB1.out false false nz)
    have F2 := Lib.hid (F1.out.fresh (setTr_fr w1 (g + 1 + 1) false false nz) (fun k e => by have : k = g + 1 + 1 := e; omega))
    obtain ⟨m0, m1, m2, -, -, -⟩ := MB1.out.facts
    obtain ⟨p0, p1, p2, z0, z1, z2⟩ := AB1.out.facts
    dsimp only at m0 m1 m2
    go_wp2
    exact bodyPost_ret (v := trV ⟨false, false, nz⟩) (ret_tr (p := 4) rfl _ _ _ ⟨false, false, nz⟩ (by rfl) AB2.out) rfl ⟨by rw [HE.out]; rfl, F2.out⟩
  · replace HA1 := Lib.hid (HA1.out rfl)
    replace HA2 := Lib.hid (HA2.out rfl)
    go_wp2_with fail
    refine (HA1.out _).mono ?_
    rintro e w2 ⟨rfl, f2⟩
    have MB2 : TrB 35 w2 (g + 1 + 1 + 1) ⟨false, false, nz⟩ := MB1.out.fr f2 (fun e => e)
    obtain ⟨W3, hW3⟩ : ∃ W, W = w2.setCell ⟨g + 1 + 1 + 1, 0, none⟩ (.bool y1) := ⟨_, rfl⟩
    have s3 : Fr (One (g + 1 + 1 + 1)) w2 W3 := by rw [hW3]; exact (Fr.refl (One (g + 1 + 1 + 1)) w2).set1 0 _
    have ne1 : ¬ One (g + 1 + 1 + 1) g := fun e => by have : g = g + 1 + 1 + 1 := e; omega
    have ne2 : ¬ One (g + 1 + 1 + 1) (g + 1) := fun e => by have : g + 1 = g + 1 + 1 + 1 := e; omega
    have ne3 : ¬ One (g + 1 + 1 + 1) (g + 1 + 1) := fun e => by have : g + 1 + 1 = g + 1 + 1 + 1 := e; omega
    have ZB3 := Lib.hid ((ZB1.out.fr f2 (fun e => e)).fr s3 ne1)
    have PB3 := Lib.hid ((PB1.out.fr f2 (fun e => e)).fr s3 ne2)
    have AB3 : Hid (TrB 35 W3 (g + 1 + 1) ⟨false, false, false⟩) := Lib.hid ((AB1.out.fr f2 (fun e => e)).fr s3 ne3)
    have MB3 : Hid (TrB 35 W3 (g + 1 + 1 + 1) ⟨y1, false, nz⟩) := Lib.hid (by rw [hW3]; exact Blk.set MB2 0 _)
    have hgo : 0 < g := hGLT
    have OT3 : Hid (OppT W3) := Lib.hid (fun i hi => by
      have e := OT1.out.non f2 i hi
      rw [← e]
      exact s3.cell (World.block_lt_of_cell? _ _ e) (fun e => by have : 0 = g + 1 + 1 + 1 := e; omega))
    have F3 := Lib.hid ((F1.out.trans f2).fresh s3 (fun k e => by have : k = g + 1 + 1 + 1 := e; omega))
    obtain ⟨p0, -, -, z0, -, -⟩ := MB2.facts
    clear a0 a1 a2 a3 a4 a5 a6 a7 b2 b3 b4 b5 o1 ZB1 PB1 AB1 MB1 OT1 F1 f2 MB2 s3 ne1 ne2 ne3
    obtain ⟨a0, a1, a2, a3, a4, a5, a6, a7⟩ := znB_cells ZB3.out
    obtain ⟨-, -, b2, b3, b4, b5, -, -, -⟩ := pdB_cells PB3.out
    have o1 := OT3.out q hq7
    dsimp only at a0 a1 a2 a3 a4 a5 a6 a7 b2 b3 b4 b5
    rw [hm] at o1
    go_wp2
    rw [← hW3]
    clear hW3
    have F3d := Lib.hid F3.out.drew
    have MB3d : Hid (TrB 35 W3.drew (g + 1 + 1 + 1) ⟨y1, false, nz⟩) := Lib.hid MB3.out.drew
    have AB3d : Hid (TrB 35 W3.drew (g + 1 + 1) ⟨false, false, false⟩) := Lib.hid AB3.out.drew
    have ZB3d := Lib.hid ZB3.out.drew
    have PB3d := Lib.hid PB3.out.drew
    refine wp_region_held_drew (S := (fun W' => W'.cell? ⟨g, 0, none⟩ = some (.int .i64 zr) ∧ W'.cell? ⟨g, 1, none⟩ = some (.int .i64 zu) ∧ W'.cell? ⟨g, 2, none⟩ = some (.bool ln) ∧ W'.cell? ⟨g, 3, none⟩ = some (.int .i64 li) ∧ W'.cell? ⟨g, 4, none⟩ = some (.string ⟨lt.toArray⟩) ∧ W'.cell? ⟨g, 5, none⟩ = some (.bool hn2) ∧ W'.cell? ⟨g, 6, none⟩ = some (.int .i64 hi) ∧ W'.cell? ⟨g, 7, none⟩ = some (.string ⟨ht.toArray⟩) ∧ W'.cell? ⟨g + 1, 2, none⟩ = some (.int .i64 (q : Nat)) ∧ W'.cell? ⟨g + 1, 3, none⟩ = some (.bool vn) ∧ W'.cell? ⟨g + 1, 4, none⟩ = some (.int .i64 vi) ∧ W'.cell? ⟨g + 1, 5, none⟩ = some (.string ⟨vt.toArray⟩) ∧ W'.cell? ⟨0, q, none⟩ = some (.int .i64 (m : Nat)))) (by kernel_rfl) (by exact ⟨a0, a1, a2, a3, a4, a5, a6, a7, b2, b3, b4, b5, o1⟩) (fun hHeld => ?_)
    refine wpAnyH_take (i := 0) (oi := ⟨some 19, _, _, _, _, none⟩) (v := ?v1) rfl (by kernel_rfl) (by kernel_rfl) (by kernel_rfl) (fun _ _ _ h => h) (Or.inl ⟨by rfl, ?hy1⟩) (by assumption) ?rest1
    case hy1 => (intro wS hSw; (try dsimp only at hSw); go_simp; (try with_reducible rfl))
    (try simp only [Act.put, List.setIfInBounds_toArray, List.set_cons_zero, List.set_cons_succ])
    refine wpAnyH_take (i := 1) (oi := ⟨some 20, _, _, _, _, none⟩) (v := ?v2) rfl (by kernel_rfl) (by kernel_rfl) (by kernel_rfl) (fun _ _ _ h => h) (Or.inl ⟨by rfl, ?hy2⟩) (by assumption) ?rest2
    case hy2 => (intro wS hSw; (try dsimp only at hSw); go_simp; (try with_reducible rfl))
    (try simp only [Act.put, List.setIfInBounds_toArray, List.set_cons_zero, List.set_cons_succ])
    refine wpAnyH_take (i := 2) (oi := ⟨some 21, _, _, _, _, none⟩) (v := ?v3) rfl (by kernel_rfl) (by kernel_rfl) (by kernel_rfl) (fun _ _ _ h => h) (Or.inl ⟨by rfl, ?hy3⟩) (by assumption) ?rest3
    case hy3 => (intro wS hSw; (try dsimp only at hSw); go_simp; (try with_reducible rfl))
    (try simp only [Act.put, List.setIfInBounds_toArray, List.set_cons_zero, List.set_cons_succ])
    refine wpAnyH_take (i := 3) (oi := ⟨some 22, _, _, _, _, none⟩) (v := ?v4) rfl (by kernel_rfl) (by kernel_rfl) (by kernel_rfl) (fun _ _ _ h => h) (Or.inl ⟨by rfl, ?hy4⟩) (by assumption) ?rest4
    case hy4 => (intro wS hSw; (try dsimp only at hSw); go_simp; (try with_reducible rfl))
    (try simp only [Act.put, List.setIfInBounds_toArray, List.set_cons_zero, List.set_cons_succ])
    refine wpAnyH_take (i := 4) (oi := ⟨some 23, _, _, _, _, none⟩) (v := ?v5) rfl (by kernel_rfl) (by kernel_rfl) (by kernel_rfl) (fun _ _ _ h => h) (Or.inl ⟨by rfl, ?hy5⟩) (by assumption) ?rest5
    case hy5 => (intro wS hSw; (try dsimp only at hSw); go_simp; (try with_reducible rfl))
    (try simp only [Act.put, List.setIfInBounds_toArray, List.set_cons_zero, List.set_cons_succ])
    refine wpAnyH_take (i := 5) (oi := ⟨some 24, _, _, _, _, none⟩) (v := ?v6) rfl (by kernel_rfl) (by kernel_rfl) (by kernel_rfl) (fun _ _ _ h => h) (Or.inl ⟨by rfl, ?hy6⟩) (by assumption) ?rest6
    case hy6 => (intro wS hSw; (try dsimp only at hSw); go_simp; (try with_reducible rfl))
    (try simp only [Act.put, List.setIfInBounds_toArray, List.set_cons_zero, List.set_cons_succ])
    refine wpAnyH_take (i := 6) (oi := ⟨some 25, _, _, _, _, none⟩) (v := ?v7) rfl (by kernel_rfl) (by kernel_rfl) (by kernel_rfl) (fun _ _ _ h => h) (Or.inl ⟨by rfl, ?hy7⟩) (by assumption) ?rest7
    case hy7 => (intro wS hSw; (try dsimp only at hSw); go_simp; (try with_reducible rfl))
    (try simp only [Act.put, List.setIfInBounds_toArray, List.set_cons_zero, List.set_cons_succ])
    refine wpAnyH_ready (rs := [7]) (by kernel_rfl) (by simp) ?_
    refine AllReadyH.cons (o := ⟨some 26, _, _, _, _, none⟩) rfl (fun K hK => ?_) AllReadyH.nil
    go_simp
    go_at_call 63
    refine (HA2.out _).mono ?_
    rintro e w4 ⟨rfl, f4⟩
    have hF4 := f4
    have ZB4 := Lib.hid (ZB3d.out.fr f4 (fun e => e))
    have PB4 := Lib.hid (PB3d.out.fr f4 (fun e => e))
    have AB4 : Hid (TrB 35 w4 (g + 1 + 1) ⟨false, false, false⟩) := Lib.hid (AB3d.out.fr f4 (fun e => e))
    have MB4 : TrB 35 w4 (g + 1 + 1 + 1) ⟨y1, false, nz⟩ := MB3d.out.fr f4 (fun e => e)
    have OT4 : OppT w4 := fun i hi => by
      have e : W3.drew.cell? _ = _ := OT3.out i hi
      rw [← e]
      exact f4.cell (World.block_lt_of_cell? _ _ e) (fun e => e)
    have F4 := Lib.hid (F3d.out.trans f4)
    clear a0 a1 a2 a3 a4 a5 a6 a7 b2 b3 b4 b5 o1
    obtain ⟨a0, a1, a2, a3, a4, a5, a6, a7⟩ := znB_cells ZB4.out
    obtain ⟨-, -, b2, b3, b4, b5, -, -, -⟩ := pdB_cells PB4.out
    have o1 := OT4 q hq7
    dsimp only at a0 a1 a2 a3 a4 a5 a6 a7 b2 b3 b4 b5
    rw [hm] at o1

    go_wp2_with fail
    refine hK.out _ _ (by exact ⟨a0, a1, a2, a3, a4, a5, a6, a7, b2, b3, b4, b5, o1⟩) (fun hHeld => ?_)
    clear hK K
    (try simp only [Act.put, List.setIfInBounds_toArray, List.set_cons_zero, List.set_cons_succ])
    refine wpAnyH_take (i := 8) (oi := ⟨some 27, _, _, _, _, none⟩) (v := ?v8) rfl (by kernel_rfl) (by kernel_rfl) (by kernel_rfl) (fun _ _ _ h => h) (Or.inl ⟨by rfl, ?hy8⟩) (by assumption) ?rest8
    case hy8 => (intro wS hSw; (try dsimp only at hSw); go_simp; (try with_reducible rfl))
    (try simp only [Act.put, List.setIfInBounds_toArray, List.set_cons_zero, List.set_cons_succ])
    refine wpAnyH_ready (rs := [9]) (by kernel_rfl) (by simp) ?_
    refine AllReadyH.cons (o := ⟨none, _, _, _, _, none⟩) rfl (fun K hK => ?_) AllReadyH.nil
    obtain ⟨-, p1, -, -, z1, -⟩ := MB4.facts
    obtain ⟨W5, hW5⟩ : ∃ W, W = w4.setCell ⟨g + 1 + 1 + 1, 1, none⟩ (.bool y2) := ⟨_, rfl⟩
    have s5 : Fr (One (g + 1 + 1 + 1)) w4 W5 := by rw [hW5]; exact (Fr.refl (One (g + 1 + 1 + 1)) w4).set1 1 _
    have ne1 : ¬ One (g + 1 + 1 + 1) g := fun e => by have : g = g + 1 + 1 + 1 := e; omega
    have ne2 : ¬ One (g + 1 + 1 + 1) (g + 1) := fun e => by have : g + 1 = g + 1 + 1 + 1 := e; omega
    have ne3 : ¬ One (g + 1 + 1 + 1) (g + 1 + 1) := fun e => by have : g + 1 + 1 = g + 1 + 1 + 1 := e; omega
    have AB5 : Hid (TrB 35 W5 (g + 1 + 1) ⟨false, false, false⟩) := Lib.hid (AB4.out.fr s5 ne3)
    have MB5 : TrB 35 W5 (g + 1 + 1 + 1) ⟨y1, y2, nz⟩ := by rw [hW5]; exact Blk.set MB4 1 _
    have F5 := Lib.hid (F4.out.fresh s5 (fun k e => by have : k = g + 1 + 1 + 1 := e; omega))
    go_simp
    rw [← hW5]
    clear hW5
    have ZB5 := ZB4.out.fr s5 ne1
    have PB5 := PB4.out.fr s5 ne2
    have OT5 : OppT W5 := fun i hi => by
      have e := OT4 i hi
      rw [← e]
      exact s5.cell (World.block_lt_of_cell? _ _ e) (fun e => by have : 0 = g + 1 + 1 + 1 := e; omega)
    clear a0 a1 a2 a3 a4 a5 a6 a7 b2 b3 b4 b5 o1
    obtain ⟨a0, a1, a2, a3, a4, a5, a6, a7⟩ := znB_cells ZB5
    obtain ⟨-, -, b2, b3, b4, b5, -, -, -⟩ := pdB_cells PB5
    have o1 := OT5 q hq7
    dsimp only at a0 a1 a2 a3 a4 a5 a6 a7 b2 b3 b4 b5
    rw [hm] at o1
    refine hK.out _ _ (by exact ⟨a0, a1, a2, a3, a4, a5, a6, a7, b2, b3, b4, b5, o1⟩) (fun hHeld => ?_)
    clear hK K
    (try simp only [Act.put, List.setIfInBounds_toArray, List.set_cons_zero, List.set_cons_succ])
    refine wpAnyH_done (by kernel_rfl) ?_ _
    clear hHeld ZB5 PB5 OT5 ZB4 PB4 OT4 MB4 AB4 F4 ZB3 PB3 OT3 AB3 MB3 F3 ZB3d PB3d MB3d AB3d F3d HA1 HA2
    clear a0 a1 a2 a3 a4 a5 a6 a7 b2 b3 b4 b5 o1
    have AB6 := Lib.hid (setTr_B AB5.out y1 y2 nz)
    have F6 := Lib.hid (F5.out.fresh (setTr_fr W5 (g + 1 + 1) y1 y2 nz) (fun k e => by have : k = g + 1 + 1 := e; omega))
    obtain ⟨m0, m1, m2, -, -, -⟩ := MB5.facts
    obtain ⟨p0, p1, p2, z0, z1, z2⟩ := AB5.out.facts
    dsimp only at m0 m1 m2
    go_wp2
    exact bodyPost_ret (v := trV ⟨y1, y2, nz⟩) (ret_tr (p := 4) rfl _ _ _ ⟨y1, y2, nz⟩ (by rfl) AB6.out) rfl ⟨by rw [HE.out]; rfl, F6.out⟩
end Go.Proofs.YtpmipdnmhffkeaaDoor


namespace Go.Proofs.YtpmipdnmhffkeaaDoor
set_option linter.unusedVariables false
set_option linter.unusedSimpArgs false
set_option maxRecDepth 100000
open Go.RowKit


/-! ### The zone of a name's column -/
def knV (v1 v2 : Value) : Value := .agg #[v1, v2]
set_option maxHeartbeats 2000000 in
theorem pzzone_any (v1 v2 : Value) (cols : List Co) (zs : List Zn) (n : Tx) (k : Nat) (w : World) (h1 : Ks w v1 cols) (h2 : Zs w v2 zs) (hcl : cols.length ≤ 1000) (hk : findC cols n = some k) (hkz : k < zs.length) :
    Calls Tryd.prog 38 #[knV v1 v2, .string ⟨n.toArray⟩] w fun e w' => e = .returned (znV zs[k]) ∧ Fr Non w w' := by
  obtain ⟨A1, c1, rfl⟩ := h1.shape
  obtain ⟨A2, c2, rfl⟩ := h2.shape
  have HF := Lib.hid (fun W h => sfind_any (.slice A1 cols.length c1) cols n W h (by omega))
  rw [hk] at HF
  unfold findV at HF
  dsimp only at HF
  have f0 := ((Fr.refl Non w).alloc (.cells #[.slice A1 cols.length c1, .slice A2 zs.length c2] 59)).alloc (.cells (znC noZn) 33)
  have RB : Blk _ w.heap.size 59 #[.slice A1 cols.length c1, .slice A2 zs.length c2] := (Blk.new w 59 #[.slice A1 cols.length c1, .slice A2 zs.length c2]).fr ((Fr.refl Non _).alloc (.cells (znC noZn) 33)) (fun e => e)
  have AB : ZnB ((w.alloc (.cells #[.slice A1 cols.length c1, .slice A2 zs.length c2] 59)).alloc (.cells (znC noZn) 33)) (w.heap.size + 1) noZn := by
    have e : ZnB ((w.alloc (.cells #[.slice A1 cols.length c1, .slice A2 zs.length c2] 59)).alloc (.cells (znC noZn) 33)) (w.alloc (.cells #[.slice A1 cols.length c1, .slice A2 zs.length c2] 59)).heap.size noZn := Blk.new _ _ _
    rw [show (w.alloc (.cells #[.slice A1 cols.length c1, .slice A2 zs.length c2] 59)).heap.size = w.heap.size + 1 by simp] at e
    exact e
  obtain ⟨z, hz⟩ : ∃ z, zs[k] = z := ⟨_, rfl⟩
  rw [hz]
  replace hz := Lib.hid hz
  have HV := Lib.hid (h1.non f0)
  have HZ := Lib.hid (h2.non f0)
  replace f0 := Lib.hid f0
  replace RB := Lib.hid RB
  replace AB := Lib.hid AB
  clear h1 h2 hk
  unfold knV
  have r0 := RB.out.cell 0
  have r1 := RB.out.cell 1
  simp at r0 r1
  unfold znC noZn noCl at *
  dsimp only at *
  generalize hg : w.heap.size = g at *
  go_enter Tryd.func38, Tryd.ntmps38
  go_wp2_with fail
  refine (HF.out _ HV.out).mono ?_
  rintro e w1 ⟨rfl, f1⟩
  have RB1 := RB.out.fr f1 (fun e => e)
  have AB1 : ZnB w1 (g + 1) ⟨0, 0, ⟨false, 0, []⟩, ⟨false, 0, []⟩⟩ := AB.out.fr f1 (fun e => e)
  have F1 := Lib.hid (f0.out.trans f1)
  clear r0 r1 f0
  have r0 := RB1.cell 0
  have r1 := RB1.cell 1
  simp at r0 r1
  obtain ⟨a, rfl, -, -, hel⟩ := (HZ.out.non f1).addr (show 0 < zs.length by omega)
  have ht := zn_lit (hel k hkz)
  rw [hz.out] at ht
  obtain ⟨t0, t1, t2, t3, t4, t5, t6, t7⟩ := ht
  obtain ⟨y0, y1, y2, y3, y4, y5, y6, y7⟩ := znB_froz AB1
  obtain ⟨x0, x1, x2, x3, x4, x5, x6, x7⟩ := znB_cells AB1
  dsimp only at x0 x1 x2 x3 x4 x5 x6 x7
  have AB2 := Lib.hid (setZn_B AB1 z)
  have F2 := Lib.hid (F1.out.fresh (setZn_fr w1 (g + 1) z) (fun k e => by have : k = g + 1 := e; omega))
  clear hel HZ HV HF AB1 hz
  go_wp2
  exact bodyPost_ret (v := znV z) (ret_zn (p := 4) rfl _ _ _ z (by rfl) AB2.out) rfl ⟨rfl, F2.out⟩

/-! ### May these be the columns' zones? -/
theorem zonesB_no {cols : List Co} {zs : List Zn} {k : Nat} (hk : k < zs.length) (hk2 : k < cols.length) (h : mayZ cols[k].ty zs[k] = false) : zonesB cols zs = false :=
  decide_eq_false fun e => by have := e.2 k hk hk2; rw [h] at this; cases this
theorem zonesB_len {cols : List Co} {zs : List Zn} (h : zs.length ≠ cols.length) : zonesB cols zs = false := decide_eq_false fun e => h e.1
set_option maxHeartbeats 4000000 in
theorem pzmayof_any (v1 v2 : Value) (cols : List Co) (zs : List Zn) (w : World) (h1 : Ks w v1 cols) (h2 : Zs w v2 zs) (hcl : cols.length ≤ 1000) :
    Calls Tryd.prog 19 #[v1, v2] w fun e w' => e = .returned (.bool (zonesB cols zs)) ∧ Fr Non w w' := by
  obtain ⟨A1, c1, rfl⟩ := h1.shape
  obtain ⟨A2, c2, rfl⟩ := h2.shape
  by_cases hlen : zs.length = cols.length
  · have hb : ((zs.length : Int) != (cols.length : Int)) = false := by rw [hlen]; simp
    have hlz : zs.length ≤ 1000 := by omega
    have HL := Lib.hid hlen
    have HV := Lib.hid h1
    have HZ := Lib.hid h2
    have HN : Hid (∀ k (h : k < zs.length) (h2 : k < cols.length), mayZ cols[k].ty zs[k] = false → zonesB cols zs = false) := Lib.hid (fun k h h2 e => zonesB_no h h2 e)
    have HY : Hid ((∀ j (h : j < zs.length) (h2 : j < cols.length), mayZ cols[j].ty zs[j] = true) → zonesB cols zs = true) := Lib.hid (fun e => decide_eq_true ⟨hlen, e⟩)
    clear hlen h1 h2
    generalize zonesB cols zs = r at *
    generalize hn : zs.length = nz at hb hlz
    go_enter Tryd.func19, Tryd.ntmps19
    go_wp2
    go_loopw [14] (fun i wr => ∃ (k : Nat), k ≤ cols.length ∧ i = .int .i64 k ∧ Hid (∀ j (h : j < zs.length) (h2 : j < cols.length), j < k → mayZ cols[j].ty zs[j] = true) ∧ Hid (Fr Non w wr)) (fun i _ => cols.length - (intOf i).toNat)
    case atStart => exact ⟨0, Nat.zero_le _, rfl, Lib.hid (fun j h h2 e => absurd e (by omega)), Lib.hid (Fr.refl _ _)⟩
    case round =>
      obtain ⟨k, hk, rfl, HT, FR⟩ := hrel
      by_cases hlt : k < cols.length
      · have hkz : k < zs.length := by have := HL.out; omega
        have hk9 : k < 1000 := by omega
        have hkn : k < nz := by omega
        obtain ⟨a1, rfl, -, -, hel1⟩ := (HV.out.non FR.out).addr (show 0 < cols.length by omega)
        have hZn := (HZ.out.non FR.out)
        obtain ⟨a2, rfl, -, -, hel2⟩ := hZn.addr (show 0 < zs.length by omega)
        obtain ⟨t0, t1, t2⟩ := co_lit (hel1 k hlt)
        have ZA := Lib.hid (zn_lit (hel2 k hkz))
        have HN1 := Lib.hid (HN.out k hkz hlt)
        have HX : Hid (mayZ cols[k].ty zs[k] = true → ∀ j (h : j < zs.length) (h2 : j < cols.length), j < k + 1 → mayZ cols[j].ty zs[j] = true) := Lib.hid (fun e j h h2 hj => by
          by_cases hjk : j = k
          · subst hjk; exact e
          · exact HT.out j h h2 (by omega))
        have CB := Lib.hid (co_new wr cols[k])
        have HM := Lib.hid (fun W => zmay_any cols[k].ty zs[k] W)
        have F1 := Lib.hid ((Fr.refl Non wr).alloc (.cells #[.string ⟨cols[k].name.toArray⟩, .int .i64 cols[k].ty, .bool cols[k].nl] 55))
        clear hel1 hel2 hZn HT HN HY
        generalize cols[k] = x at *
        generalize hz : zs[k] = z at *
        clear hz
        obtain ⟨xn, xt, xb⟩ := x
        obtain ⟨zr, zu, ⟨ln, li, lt⟩, ⟨hn2, hi, ht⟩⟩ := z
        unfold znV znC at HM
        dsimp only at *
        generalize mayZ xt _ = y at *
        have ZA1 := Lib.hid (ZA.out.non F1.out)
        have CB1 := Lib.hid (CB.out.cell 1)
        simp only [List.getElem?_toArray, List.getElem?_cons_succ, List.getElem?_cons_zero] at CB1
        generalize hR : wr.heap.size = R at *
        go_wp2
        obtain ⟨y0, y1, y2, y3, y4, y5, y6, y7⟩ := ZA1.out
        have cb := CB1.out
        have F1d := Lib.hid F1.out.drew
        refine wp_region_held_drew (S := (fun W' => W'.cell? ⟨R, 1, none⟩ = some (.int .i64 xt) ∧ W'.cell? (a2.add (k * 8)) = some (.int .i64 zr) ∧ W'.cell? { block := (a2.add (k * 8)).block, off := (a2.add (k * 8)).off + 1 } = some (.int .i64 zu) ∧ W'.cell? { block := (a2.add (k * 8)).block, off := (a2.add (k * 8)).off + 2 } = some (.bool ln) ∧ W'.cell? { block := (a2.add (k * 8)).block, off := (a2.add (k * 8)).off + 3 } = some (.int .i64 li) ∧ W'.cell? { block := (a2.add (k * 8)).block, off := (a2.add (k * 8)).off + 4 } = some (.string ⟨lt.toArray⟩) ∧ W'.cell? { block := (a2.add (k * 8)).block, off := (a2.add (k * 8)).off + 5 } = some (.bool hn2) ∧ W'.cell? { block := (a2.add (k * 8)).block, off := (a2.add (k * 8)).off + 6 } = some (.int .i64 hi) ∧ W'.cell? { block := (a2.add (k * 8)).block, off := (a2.add (k * 8)).off + 7 } = some (.string ⟨ht.toArray⟩))) (by kernel_rfl) (by exact ⟨cb, y0, y1, y2, y3, y4, y5, y6, y7⟩) (fun hHeld => ?_)
        refine wpAnyH_take (i := 0) (oi := ⟨some 19, _, _, _, _, none⟩) (v := ?v9) rfl (by kernel_rfl) (by kernel_rfl) (by kernel_rfl) (fun _ _ _ h => h) (Or.inl ⟨by rfl, ?hy9⟩) (by assumption) ?rest9
        case hy9 => (intro wS hSw; (try dsimp only at hSw); go_simp; (try with_reducible rfl))
        (try simp only [Act.put, List.setIfInBounds_toArray, List.set_cons_zero, List.set_cons_succ])
        refine wpAnyH_take (i := 1) (oi := ⟨some 20, _, _, _, _, none⟩) (v := ?v10) rfl (by kernel_rfl) (by kernel_rfl) (by kernel_rfl) (fun _ _ _ h => h) (Or.inl ⟨by rfl, ?hy10⟩) (by assumption) ?rest10
        case hy10 => (intro wS hSw; (try dsimp only at hSw); go_simp; (try with_reducible rfl))
        (try simp only [Act.put, List.setIfInBounds_toArray, List.set_cons_zero, List.set_cons_succ])
        refine wpAnyH_take (i := 2) (oi := ⟨some 21, _, _, _, _, none⟩) (v := ?v11) rfl (by kernel_rfl) (by kernel_rfl) (by kernel_rfl) (fun _ _ _ h => h) (Or.inl ⟨by rfl, ?hy11⟩) (by assumption) ?rest11
        case hy11 => (intro wS hSw; (try dsimp only at hSw); go_simp; (try with_reducible rfl))
        (try simp only [Act.put, List.setIfInBounds_toArray, List.set_cons_zero, List.set_cons_succ])
        refine wpAnyH_take (i := 3) (oi := ⟨some 22, _, _, _, _, none⟩) (v := ?v12) rfl (by kernel_rfl) (by kernel_rfl) (by kernel_rfl) (fun _ _ _ h => h) (Or.inl ⟨by rfl, ?hy12⟩) (by assumption) ?rest12
        case hy12 => (intro wS hSw; (try dsimp only at hSw); go_simp; (try with_reducible rfl))
        (try simp only [Act.put, List.setIfInBounds_toArray, List.set_cons_zero, List.set_cons_succ])
        refine wpAnyH_take (i := 4) (oi := ⟨some 23, _, _, _, _, none⟩) (v := ?v13) rfl (by kernel_rfl) (by kernel_rfl) (by kernel_rfl) (fun _ _ _ h => h) (Or.inl ⟨by rfl, ?hy13⟩) (by assumption) ?rest13
        case hy13 => (intro wS hSw; (try dsimp only at hSw); go_simp; (try with_reducible rfl))
        (try simp only [Act.put, List.setIfInBounds_toArray, List.set_cons_zero, List.set_cons_succ])
        refine wpAnyH_take (i := 5) (oi := ⟨some 24, _, _, _, _, none⟩) (v := ?v14) rfl (by kernel_rfl) (by kernel_rfl) (by kernel_rfl) (fun _ _ _ h => h) (Or.inl ⟨by rfl, ?hy14⟩) (by assumption) ?rest14
        case hy14 => (intro wS hSw; (try dsimp only at hSw); go_simp; (try with_reducible rfl))
        (try simp only [Act.put, List.setIfInBounds_toArray, List.set_cons_zero, List.set_cons_succ])
        refine wpAnyH_ready (rs := [6]) (by kernel_rfl) (by simp) ?_
        refine AllReadyH.cons (o := ⟨some 25, _, _, _, _, none⟩) rfl (fun K hK => ?_) AllReadyH.nil
        go_simp
        go_at_call 36
        refine (HM.out _).mono ?_
        rintro e w4 ⟨rfl, f4⟩
        have q : ∀ {p : Addr} {u : Value}, (wr.alloc (.cells #[.string ⟨xn.toArray⟩, .int .i64 xt, .bool xb] 55)).drew.cell? p = some u → w4.cell? p = some u := fun e => (f4.cell (World.block_lt_of_cell? _ _ e) (fun e => e)).trans e
        replace cb := q cb
        replace y0 := q y0
        replace y1 := q y1
        replace y2 := q y2
        replace y3 := q y3
        replace y4 := q y4
        replace y5 := q y5
        replace y6 := q y6
        replace y7 := q y7
        have F4 := Lib.hid (F1d.out.trans f4)
        clear f4 q

        go_wp2_with fail
        refine hK.out _ _ (by exact ⟨cb, y0, y1, y2, y3, y4, y5, y6, y7⟩) (fun hHeld => ?_)
        clear hK K
        (try simp only [Act.put, List.setIfInBounds_toArray, List.set_cons_zero, List.set_cons_succ])
        refine wpAnyH_take (i := 7) (oi := ⟨some 26, _, _, _, _, none⟩) (v := ?v15) rfl (by kernel_rfl) (by kernel_rfl) (by kernel_rfl) (fun _ _ _ h => h) (Or.inl ⟨by rfl, ?hy15⟩) (by assumption) ?rest15
        case hy15 => (intro wS hSw; (try dsimp only at hSw); go_simp; (try with_reducible rfl))
        (try simp only [Act.put, List.setIfInBounds_toArray, List.set_cons_zero, List.set_cons_succ])
        refine wpAnyH_done (by kernel_rfl) ?_ _
        clear hHeld
        cases y
        · have HE := Lib.hid (HN1.out rfl)
          go_wp2
          go_ret
          exact ⟨ret_boolE HE.out.symm, FR.out.trans F4.out⟩
        · have HX1 := Lib.hid (HX.out rfl)
          go_wp2
          go_roundw
          case rel => exact ⟨k + 1, by omega, by go_num, HX1, Lib.hid (FR.out.trans F4.out)⟩
          case measure => simp [intOf]; omega
      · have HE := Lib.hid (HY.out (fun j h h2 => HT.out j h h2 (by omega)))
        clear HT HY HN
        go_wp2
        go_ret
        exact ⟨ret_boolE HE.out.symm, FR.out⟩
  · have hb : ((zs.length : Int) != (cols.length : Int)) = true := by rw [bne_iff_ne]; omega
    have HE := Lib.hid (zonesB_len hlen)
    clear hlen
    go_enter Tryd.func19, Tryd.ntmps19
    go_wp2
    go_ret
    exact ⟨ret_boolE HE.out.symm, Fr.refl _ _⟩
end Go.Proofs.YtpmipdnmhffkeaaDoor


namespace Go.Proofs.YtpmipdnmhffkeaaDoor
set_option linter.unusedVariables false
set_option linter.unusedSimpArgs false
set_option maxRecDepth 100000
open Go.ChangeShapes Go.WideShapes Go.ChangeAt Go.RowKit

theorem slice_tlN {α : Type} {f : α → List Value} {k : Nat} {T E : TypeId} (hT : Tryd.prog.underlying T = some (.slice E)) (hs : ∀ w, (sizeOf (Tryd.prog.elem T)).run Tryd.prog w = .ok k w) (A : Option Addr) (n c j : Nat) (kl : IntKind) (y : Int) (hy : y = (j : Int)) (hj : j ≤ n) (hn : n ≤ c) :
    ∃ A' c', (∀ W, (Instr.slice T (.slice A n c) (some (.int kl y)) none none).run Tryd.prog W = .ok (.slice A' (n - j) c') W) ∧
      (∀ W (l : List α), l.length = n → Ns f k W (.slice A n c) l → Ns f k W (.slice A' (n - j) c') (l.drop j)) ∧ (∀ a', A' = some a' → ∃ a, A = some a ∧ a'.block = a.block) := by
  subst hy
  refine ⟨if c = j then A else A.map (·.add (j * k)), c - j, fun W => ?_, ?_, ?_⟩
  · rw [run_slice_any W T A n c (by
      have : Tryd.prog.elem T = E := by simp [Program.elem, hT]
      rw [this]; exact hT)]
    have hb : (Instr.sliceBounds true n c (some (.int kl (j : Int))) none none).run Tryd.prog W = .ok (j, n, c) W := by
      simp [Instr.sliceBounds, run_sliceBound, hj, hn]
    rw [hb]
    simp only [Result.andThen_ok, hs]
    simp [sliced]
  · rintro W l hl ⟨A0, c0, he, h1, h2, h3⟩
    simp only [Value.slice.injEq] at he
    obtain ⟨rfl, hl', rfl⟩ := he
    refine ⟨if c = j then A else A.map (·.add (j * k)), c - j, by rw [List.length_drop, hl], by rw [List.length_drop]; omega, fun e => ?_, fun a ha i hi => ?_⟩
    · split at e
      · have := h2 e; omega
      · have := h2 (by simpa using e); omega
    · rw [List.length_drop] at hi
      rw [if_neg (by omega)] at ha
      cases A with
      | none => cases ha
      | some b =>
        obtain rfl : b.add (j * k) = a := by simpa using ha
        have h4 := h3 b rfl (j + i) (by omega)
        rw [List.getElem_drop, add_add, ← Nat.add_mul]
        exact h4
  · intro a' ha
    split at ha
    · exact ⟨a', ha, rfl⟩
    · cases A with
      | none => cases ha
      | some b =>
        obtain rfl : b.add (j * k) = a' := by simpa using ha
        exact ⟨b, rfl, add_block _ _⟩
end Go.Proofs.YtpmipdnmhffkeaaDoor


namespace Go.Proofs.YtpmipdnmhffkeaaDoor
set_option linter.unusedVariables false
set_option linter.unusedSimpArgs false
set_option maxRecDepth 100000
open Go.RowKit

theorem sz_pd (w : World) : (sizeOf (Tryd.prog.elem 25)).run Tryd.prog w = .ok 9 w := by kernel_rfl
theorem Kd.tail {w : World} {A : Option Addr} {n c : Nat} {ks : List Pd} (h : Kd w ⟨A, n, c⟩ ks) (h1 : 1 ≤ n) :
    ∃ A' c', (∀ W, (Instr.slice 25 (.slice A n c) (some (.int .i64 1)) none none).run Tryd.prog W = .ok (.slice A' (n - 1) c') W) ∧ Kd w ⟨A', n - 1, c'⟩ (ks.drop 1) := by
  cases h with
  | mk s ns ps hl hN hh hb hk =>
    obtain ⟨A0, c0, e, h2, h3, h4⟩ := hN
    unfold kidV at e
    simp only [Value.slice.injEq] at e
    obtain ⟨rfl, hn, rfl⟩ := e
    subst hn
    obtain ⟨A', c', hrun, hns, -⟩ := slice_tlN (f := pdL) Tryd.underlying25 sz_pd A ns.length c 1 .i64 1 rfl h1 h2
    refine ⟨A', c', hrun, .mk _ (ns.drop 1) (ks.drop 1) (by simp [hl]) (hns w ns rfl ⟨A, c, rfl, h2, h3, h4⟩) (fun i a b => ?_) (fun i b => ?_) (fun i a b => ?_)⟩
    · rw [List.getElem_drop, List.getElem_drop]; exact hh _ _ _
    · rw [List.getElem_drop]; exact hb _ _
    · rw [List.getElem_drop, List.getElem_drop]; exact hk _ _ _
end Go.Proofs.YtpmipdnmhffkeaaDoor


namespace Go.Proofs.YtpmipdnmhffkeaaDoor
set_option linter.unusedVariables false
set_option linter.unusedSimpArgs false
set_option maxRecDepth 100000
open Go.RowKit

section
variable {P : Program} {ops : Array Oper} {Q : Exit → Act → World → Prop} {md : Region.Mode} {S : World → Prop} {last : Nat}
/-- whatever order is picked; S holds behind every operation but 'last' -/
def wpAnyK (P : Program) (md : Region.Mode) (ops : Array Oper) (Q : Exit → Act → World → Prop) (S : World → Prop) (last : Nat) : Nat → Array Bool → Act → World → Prop
  | 0, listed, a, w => Region.ready md ops listed = [] ∧ Q .normal a w
  | fuel + 1, listed, a, w =>
    (Region.ready md ops listed = [] → Q .normal a w) ∧
    ∀ i ∈ Region.ready md ops listed, wpOp P ops Q i (fun a' w' => (i ≠ last → S w') ∧ wpAnyK P md ops Q S last fuel (listed.setIfInBounds i true) a' w') a w
theorem wpAny_of_K : ∀ (fuel : Nat) (listed : Array Bool) (a : Act) (w : World), wpAnyK P md ops Q S last fuel listed a w → wpAny P md ops Q fuel listed a w
  | 0, _, _, _, h => h
  | fuel + 1, _, _, _, h => ⟨h.1, fun i hi => wpOp_mono (fun a' w' h' => wpAny_of_K fuel _ a' w' h'.2) (h.2 i hi)⟩
theorem wpAnyK_first {i : Nat} {oi : Oper} {v : Value} (hi : ops[i]? = some oi) (hsel : ∀ (j : Nat) (o : Oper) cs b, ops[j]? = some o → o.op ≠ .select cs b)
    (hQ : ∀ c a w, Q (.panic c) (a.put oi.dst v) w → Q (.panic c) a w) (hw : Region.waitsFor md ops last i = true) (hl : i ≠ last) :
    ∀ (fuel : Nat) (listed : Array Bool) (a : Act) (w : World),
      (∀ j oj, ops[j]? = some oj → j ≠ i → listed.getD j true = false → (∀ e ∈ oj.after, Region.binds md e = true → e.on ≠ i) → oi.apart ops oj = true) →
      i ∈ Region.ready md ops listed → YieldsIf P ops S oi v a → S w →
      wpAnyK P md ops Q S last fuel (listed.setIfInBounds i true) (a.put oi.dst v) w → wpAnyK P md ops Q S last (fuel + 1) listed a w := by
  intro fuel
  induction fuel with
  | zero =>
    intro listed a w _ hr hy hS H
    refine ⟨fun h => (by rw [h] at hr; cases hr), fun j hj => ?_⟩
    by_cases hji : j = i
    · subst hji; exact hy.wpOp hi hS ⟨fun _ => hS, H⟩
    · have := ready_mono hj hji
      rw [H.1] at this
      cases this
  | succ fuel ih =>
    intro listed a w hfree hr hy hS H
    refine ⟨fun h => (by rw [h] at hr; cases hr), fun j hj => ?_⟩
    by_cases hji : j = i
    · subst hji; exact hy.wpOp hi hS ⟨fun _ => hS, H⟩
    · have h1 := H.2 j (ready_mono hj hji)
      obtain ⟨hjun, oj, hoj, hall⟩ := mem_ready.1 hj
      have hnot : ∀ e ∈ oj.after, Region.binds md e = true → e.on ≠ i := fun e he hb heq => by
        have h1 := hall e he hb
        have h0 := (mem_ready.1 hr).1
        rw [heq] at h1
        rcases Nat.lt_or_ge i listed.size with h' | h'
        · simp [h'] at h0 h1; rw [h0] at h1; cases h1
        · simp [Array.getElem?_eq_none h'] at h1
      have hjl : j ≠ last := by
        intro e
        subst e
        obtain ⟨oj', hj', e, he, hb, hon⟩ := Region.waitsFor_spec hw
        obtain rfl : oj' = oj := Option.some.inj (hj'.symm.trans hoj)
        exact hnot e he hb hon
      have h2 := wpOp_putIf hoj (hfree j oj hoj hji hjun hnot) (fun cs b => hsel i oi cs b hi) (fun cs b => hsel j oj cs b hoj) hQ hy h1
      have hfree' : ∀ k ok, ops[k]? = some ok → k ≠ i → (listed.setIfInBounds j true).getD k true = false →
          (∀ e ∈ ok.after, Region.binds md e = true → e.on ≠ i) → oi.apart ops ok = true := fun k ok hk hki hun hno => by
        refine hfree k ok hk hki ?_ hno
        by_cases hjk : j = k
        · subst hjk; exact hjun
        · rw [getD_set_ne true hjk] at hun; exact hun
      refine wpOp_mono (fun a' w' h3 => ⟨h3.2.1, ih (listed.setIfInBounds j true) a' w' hfree' (ready_mono hr (Ne.symm hji)) h3.1 (h3.2.1 hjl) ?_⟩) h2
      rw [Array.setIfInBounds_comm _ _ hji]
      exact h3.2.2
theorem wpAnyK_take {i : Nat} {oi : Oper} {v : Value} {fuel : Nat} {listed : Array Bool} {a : Act} {w : World} (hi : ops[i]? = some oi)
    (hs : Region.noSelect ops = true) (hf : Region.free md ops listed i = true) (hr : (Region.ready md ops listed).contains i = true)
    (hQ : ∀ c a w, Q (.panic c) (a.put oi.dst v) w → Q (.panic c) a w) (hw : Region.waitsFor md ops last i = true) (hl : i ≠ last) (hy : YieldsIf P ops S oi v a) (hS : S w)
    (h : wpAnyK P md ops Q S last fuel (listed.setIfInBounds i true) (a.put oi.dst v) w) : wpAnyK P md ops Q S last (fuel + 1) listed a w :=
  wpAnyK_first hi (Region.noSelect_spec hs) hQ hw hl fuel listed a w (Region.free_spec hi hf) (by simpa using hr) hy hS h
/-- the only operation that may come up now -/
theorem wpAnyK_one {i : Nat} {o : Oper} {fuel : Nat} {listed : Array Bool} {a : Act} {w : World} (hr : Region.ready md ops listed = [i]) (ho : ops[i]? = some o)
    (h : ∀ K' : Act → World → Prop, Shut (∀ a w, (i ≠ last → S w) → wpAnyK P md ops Q S last fuel (listed.setIfInBounds i true) a w → K' a w) → if Region.wanted o (yielded ops a.tmps) = true then Oper.wp P o a w K' Q else K' (a.put o.dst undef) w) :
    wpAnyK P md ops Q S last (fuel + 1) listed a w := by
  refine ⟨fun h0 => absurd (hr.symm.trans h0) (by simp), fun j hj => ?_⟩
  rw [hr] at hj
  obtain rfl := List.mem_singleton.1 hj
  exact wpOp_step ho (fun K' hK => h K' (fun a w hS hW => hK a w ⟨hS, hW⟩))
theorem wpAnyK_done {listed : Array Bool} {a : Act} {w : World} (hr : Region.ready md ops listed = []) (h : Q .normal a w) : ∀ fuel, wpAnyK P md ops Q S last fuel listed a w
  | 0 => ⟨hr, h⟩
  | _ + 1 => ⟨fun _ => h, by rw [hr]; simp⟩
theorem wp_region_K {id : Nat} {a : Act} {w : World} (S : World → Prop) (last : Nat) (hm : P.follows .mixedOrders = true)
    (h : wpAnyK P .any ops Q S last ops.size (Array.replicate ops.size false) a w.drew) : (Code.region id ops true).wp P Q a w :=
  wp_region_any hm (wpAny_of_K _ _ _ _ h)
end
end Go.Proofs.YtpmipdnmhffkeaaDoor
