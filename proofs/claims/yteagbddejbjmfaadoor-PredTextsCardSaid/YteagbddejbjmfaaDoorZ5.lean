/-
  Joined: Layer 17: the document's May, Small, typed, Fits. · A region that draws, walked by hand: what all steps keep, made stronger midway. · Layer 17: the text of a predicate, the document's. · Layer 5: the walks of firkinref05.Put, firkinref05.Same. · Slices of texts: what one reads as; the document's Names; a slice of texts that came in. · Layer 17: the columns of a predicate, both programs'. · Layer 17: the columns of a predicate, the document's.
-/
import Derived.Laws.StructEq
import Derived.Laws.Rows
import Derived.Laws.ResultCell
import Derived.Lib.Zigzag
import Derived.Lib.DecodeN
import Derived.Laws.RangeAny
import Derived.Laws.Cover4
import Derived.Laws.Cover1
import Derived.Lib.SmallJoins
import Derived.Lib.AppendIntMem
import Derived.BigQuiet
import Derived.Deep.RegionHeld3
import Derived.Deep.QuietTactic
import Derived.Deep.DrawnRows
import Derived.Test.YteagbddejbjmfaaDoorZ4
import Derived.Test.YteagbddejbjmfaaDoorZ1
import Derived.Test.YteagbddejbjmfaaDoorZ3
import Derived.Test.YteagbddejbjmfaaDoorZ2

namespace Go.Proofs.YteagbddejbjmfaaDoor
set_option linter.unusedVariables false
set_option linter.unusedSimpArgs false
set_option maxRecDepth 100000
open Go.RowKit

set_option maxHeartbeats 2000000 in
theorem rpmay_any (h : Ph) (t : Kv) (ks : List Pd) (w : World) (hk : Kd w t ks) (hlen : lenP (.mk h ks) = true) :
    Calls Tryd.prog 10 #[pdV h t] w fun e w' => e = .returned (.bool (mayP (.mk h ks))) ∧ Fr Non w w' := by
  have F0 : Fr Non w (w.alloc (.cells (pdC h t) 27)) := (Fr.refl Non w).alloc _
  have HM := Lib.hid (may_size (.mk h ks))
  have C1 := rsize_any (.mk h ks) t 16 6 6 _ rfl (hk.non F0) hlen (by omega) (by omega) (by omega)
  have C2 := Lib.hid (fun W hk => ronep_any (.mk h ks) t W hk hlen)
  have PB := Lib.hid (pd_new w _ h t rfl)
  have hs := (size_is (.mk h ks) 16 6 (by omega)).2.2
  generalize sizeP (.mk h ks) 16 6 = z at *
  generalize mayP (.mk h ks) = r at *
  generalize oneP (.mk h ks) = b at *
  dsimp only [Pd.hd, Pd.kids] at C1 C2
  have C1 := Lib.hid C1
  have HK := Lib.hid (hk.non F0)
  have F0 := Lib.hid F0
  clear hk hlen
  obtain ⟨ho, hc, hm, ⟨vn, vi, vt⟩, hkd, hp⟩ := h
  obtain ⟨A, nn, c⟩ := t
  unfold pdV pdC kidV at *
  dsimp only at *
  by_cases h16 : z ≤ 16
  · have HE : Hid (r = b) := Lib.hid (by rw [← HM.out, decide_eq_true h16]; rfl)
    clear HM
    go_enter Tryd.func10, Tryd.ntmps10
    go_wp2_with fail
    refine C1.out.mono ?_
    rintro e w1 ⟨rfl, f1⟩
    obtain ⟨g0, g1, g2, g3, g4, g5, g6, g7, g8⟩ := pdB_cells (PB.out.fr f1 (fun e => e))
    dsimp only at g0 g1 g2 g3 g4 g5 g6 g7 g8
    have HK1 := Lib.hid (HK.out.non f1)
    have F1 := Lib.hid (F0.out.trans f1)
    clear f1
    go_wp2_with fail
    refine (C2.out _ HK1.out).mono ?_
    rintro e w2 ⟨rfl, f2⟩
    go_wp2
    go_ret
    exact ⟨ret_boolE HE.out.symm, F1.out.trans f2⟩
  · have HE : Hid (r = false) := Lib.hid (by rw [← HM.out, decide_eq_false h16]; rfl)
    clear HM
    go_enter Tryd.func10, Tryd.ntmps10
    go_wp2_with fail
    refine C1.out.mono ?_
    rintro e w1 ⟨rfl, f1⟩
    go_wp2
    go_ret
    exact ⟨ret_boolE HE.out.symm, F0.out.trans f1⟩

/-! ### Small -/
theorem lenP_is (h : Ph) (ks : List Pd) : lenP (.mk h ks) = (lenH h ks.length && ks.all lenP) := by rw [lenP, lenL_all]
theorem depL_is {ks : List Pd} {m : Nat} (h : ∀ x ∈ ks, depP x ≤ m) : depL ks ≤ m := by
  induction ks with
  | nil => rw [depL]; omega
  | cons x r ih => rw [depL]; have := h x (List.mem_cons_self ..); have := ih (fun y hy => h y (List.mem_cons_of_mem _ hy)); omega
/-- yes only if P -/
def SmEnd (P : Prop) (e : Ending) : Prop := ∃ b, e = .returned (.bool b) ∧ (b = true → P)
set_option maxHeartbeats 4000000 in
theorem rpsmall_any (p : Pd) : ∀ (t : Kv) (m : Nat) (mz : Int) (w : World), mz = m → m ≤ 1000 → Kd w t p.kids →
    Calls Tryd.prog 7 #[pdV p.hd t, .int .i64 mz] w fun e w' => SmEnd (lenP p = true ∧ depP p ≤ m) e ∧ Fr Non w w' := by
  induction p using Pd.ind with
  | h hd ks ih =>
    intro t m mz w hmz hm1 hk
    subst hmz
    have hn : t.n = ks.length := hk.len
    have F0 : Fr Non w (w.alloc (.cells (pdC hd t) 27)) := (Fr.refl Non w).alloc _
    have HB := Lib.hid (pd_new w _ hd t rfl)
    have HE : Hid (lenH hd ks.length = true → 1 ≤ m → (∀ j (h : j < ks.length), lenP ks[j] = true ∧ depP ks[j] ≤ m - 1) → lenP (.mk hd ks) = true ∧ depP (.mk hd ks) ≤ m) := Lib.hid (fun a b c => by
      refine ⟨?_, ?_⟩
      · rw [lenP_is, a, Bool.true_and, List.all_eq_true]
        intro x hx
        obtain ⟨j, hj, rfl⟩ := List.mem_iff_getElem.1 hx
        exact (c j hj).1
      · have : depL ks ≤ m - 1 := depL_is (fun x hx => by obtain ⟨j, hj, rfl⟩ := List.mem_iff_getElem.1 hx; exact (c j hj).2)
        rw [depP]; omega)
    have IH : Hid (1 ≤ m → ∀ k (h : k < ks.length) (W : World) (t' : Kv), Kd W t' ks[k].kids →
        Calls Tryd.prog 7 #[pdV ks[k].hd t', .int .i64 ((m : Int) - 1)] W fun e w' => SmEnd (lenP ks[k] = true ∧ depP ks[k] ≤ m - 1) e ∧ Fr Non W w') :=
      Lib.hid (fun h1 k h W t' a => ih _ (List.getElem_mem h) t' (m - 1) _ W (by omega) (by omega) a)
    have HK : Hid (Kd w t ks) := Lib.hid hk
    have HF := Lib.hid F0
    have HLH : Hid (∀ a b c d, a = hd.col.length → b = hd.pat.length → c = hd.val.txt.length → d = ks.length → d ≤ 20 → a ≤ 100 → b ≤ 100 → c ≤ 100 → lenH hd ks.length = true) := Lib.hid (fun a b c d e1 e2 e3 e4 h1 h2 h3 h4 => by unfold lenH; exact decide_eq_true ⟨by omega, by omega, by omega, by omega⟩)
    generalize lenH hd ks.length = lh at *
    generalize lenP (.mk hd ks) = r at *
    generalize depP (.mk hd ks) = dd at *
    clear ih hk F0
    obtain ⟨ho, hc, hm, ⟨vn, vi, vt⟩, hkd, hp⟩ := hd
    obtain ⟨A, n, c⟩ := t
    dsimp only at hn
    have HL := Lib.hid hn
    have s1 := slen hc
    have s2 := slen hp
    have s3 := slen vt
    dsimp only at HLH
    unfold pdV pdC kidV
    dsimp only [Pd.hd, Pd.kids]
    clear hn
    by_cases h1 : m < 1
    · clear HE IH HLH
      go_enter Tryd.func7, Tryd.ntmps7
      go_wp2
      go_ret
      exact ⟨⟨_, rfl, fun h => by cases h⟩, HF.out⟩
    · have IH := Lib.hid (IH.out (by omega))
      by_cases h2 : 20 < n
      · clear HE IH HLH
        go_enter Tryd.func7, Tryd.ntmps7
        go_wp2
        go_ret
        exact ⟨⟨_, rfl, fun h => by cases h⟩, HF.out⟩
      · by_cases h3 : 100 < hc.length
        · clear HE IH HLH
          go_enter Tryd.func7, Tryd.ntmps7
          go_wp2
          go_ret
          exact ⟨⟨_, rfl, fun h => by cases h⟩, HF.out⟩
        · by_cases h4 : 100 < hp.length
          · clear HE IH HLH
            go_enter Tryd.func7, Tryd.ntmps7
            go_wp2
            go_ret
            exact ⟨⟨_, rfl, fun h => by cases h⟩, HF.out⟩
          · by_cases h5 : 100 < vt.length
            · clear HE IH HLH
              go_enter Tryd.func7, Tryd.ntmps7
              go_wp2
              go_ret
              exact ⟨⟨_, rfl, fun h => by cases h⟩, HF.out⟩
            · have HE1 := Lib.hid (HE.out (HLH.out _ _ _ n rfl rfl rfl HL.out (by omega) (by omega) (by omega) (by omega)) (by omega))
              clear HE HLH
              go_enter Tryd.func7, Tryd.ntmps7
              go_wp2
              go_loopw [5] (fun i wr => ∃ k : Nat, k ≤ n ∧ i = .int .i64 k ∧ Hid (∀ j (h : j < ks.length), j < k → lenP ks[j] = true ∧ depP ks[j] ≤ m - 1) ∧ Hid (Fr Non (w.alloc (.cells (pdC ⟨ho, hc, hm, ⟨vn, vi, vt⟩, hkd, hp⟩ ⟨A, n, c⟩) 27)) wr)) (fun i _ => n - (intOf i).toNat)
              case atStart => exact ⟨0, Nat.zero_le _, rfl, Lib.hid (fun _ _ h => by omega), Lib.hid (Fr.refl _ _)⟩
              case round =>
                obtain ⟨k, hk, rfl, HT, FR⟩ := hrel
                have b8 := (HB.out.fr FR.out (fun e => e)).cell 8
                simp [pdC, kidV] at b8
                have HFw := Lib.hid (HF.out.trans FR.out)
                by_cases hlt : k < n
                · have hlt2 : k < ks.length := by have := HL.out; omega
                  obtain ⟨a, t, hA, hc2, hkk, _⟩ := HK.out.elN HFw.out k hlt2
                  have HC := Lib.hid (IH.out k hlt2 wr t (hkk.non HFw.out))
                  have HY : Hid (lenP ks[k] = true ∧ depP ks[k] ≤ m - 1 → ∀ j (h : j < ks.length), j < k + 1 → lenP ks[j] = true ∧ depP ks[j] ≤ m - 1) := Lib.hid (fun e j hj hjk => by
                    by_cases ee : j = k
                    · subst ee; exact e
                    · exact HT.out j hj (by omega))
                  dsimp only at hA
                  subst hA
                  obtain ⟨c0, c1, c2, c3, c4, c5, c6, c7, c8⟩ := hc2
                  clear hkk HT
                  generalize lenP ks[k] = y1 at *
                  generalize depP ks[k] = y2 at *
                  generalize ks[k].hd = x at *
                  obtain ⟨xo, xc, xm, ⟨xn, xi, xt⟩, xk, xp⟩ := x
                  obtain ⟨tA, tn, tc⟩ := t
                  unfold pdV pdC kidV at HC
                  dsimp only at HC c0 c1 c2 c3 c4 c5 c6 c7 c8
                  go_wp2_with fail
                  refine HC.out.mono ?_
                  rintro e w2 ⟨⟨b, rfl, hb⟩, f2⟩
                  have HB2 := Lib.hid hb
                  clear hb
                  cases b
                  · go_wp2
                    go_ret
                    exact ⟨⟨_, rfl, fun h => by cases h⟩, HFw.out.trans f2⟩
                  · have HT := Lib.hid (HY.out (HB2.out rfl))
                    clear HB2 HY
                    go_wp2
                    go_roundw
                    case rel => exact ⟨k + 1, by omega, by go_num, HT, Lib.hid (FR.out.trans f2)⟩
                    case measure => simp [intOf]; omega
                · have HE2 := Lib.hid (HE1.out (fun j hj => HT.out j hj (by have := HL.out; omega)))
                  clear HE1 HT
                  go_wp2
                  go_ret
                  exact ⟨⟨_, rfl, fun _ => HE2.out⟩, HFw.out⟩
end Go.Proofs.YteagbddejbjmfaaDoor


namespace Go.Proofs.YteagbddejbjmfaaDoor
set_option linter.unusedVariables false
set_option linter.unusedSimpArgs false
set_option maxRecDepth 100000
open Go.RowKit

/-- behind an operation more may be held than ahead of it -/
theorem wpAnyH_more {P : Program} {md : Region.Mode} {ops : Array Oper} {Q : Exit → Act → World → Prop} {S S' : World → Prop} (h : ∀ w, S' w → S w) :
    ∀ (fuel : Nat) (listed : Array Bool) (a : Act) (w : World), wpAnyH P md ops Q S' fuel listed a w → wpAnyH P md ops Q S fuel listed a w
  | 0, _, _, _, hw => hw
  | fuel + 1, _, _, _, hw => ⟨hw.1, fun i hi => wpOp_mono (fun a' w' h' => ⟨h w' h'.1, wpAnyH_more h fuel _ a' w' h'.2⟩) (hw.2 i hi)⟩
end Go.Proofs.YteagbddejbjmfaaDoor


namespace Go.Proofs.YteagbddejbjmfaaDoor
set_option linter.unusedVariables false
set_option linter.unusedSimpArgs false
set_option maxRecDepth 100000
open Go.RowKit

theorem six_at (W : World) (j : Nat) (hj : j < 6) : (W.alloc (.cells #[.string ⟨#[61]⟩, .string ⟨#[60, 62]⟩, .string ⟨#[60]⟩, .string ⟨#[60, 61]⟩, .string ⟨#[62]⟩, .string ⟨#[62, 61]⟩] 9)).cell? ⟨W.heap.size, j, none⟩ = some (.string ⟨(markB ((j : Int) + 1)).toArray⟩) := by
  rw [cell_of_row _ W.heap.size j _ _ (0, 0) (heap_alloc_new W _)]
  match j, hj with
  | 0, _ => rfl
  | 1, _ => rfl
  | 2, _ => rfl
  | 3, _ => rfl
  | 4, _ => rfl
  | 5, _ => rfl
theorem al_keep {w : World} {o : Obj} {p : Addr} {v : Value} (h : w.drew.cell? p = some v) : (w.alloc o).drew.cell? p = some v :=
  (((Fr.refl Non w).alloc o).cell (World.block_lt_of_cell? w _ h) (fun e => e)).trans h
theorem al_keep2 {w : World} {o : Obj} {p : Addr} {v : Value} (h : w.cell? p = some v) : (w.alloc o).cell? p = some v :=
  (((Fr.refl Non w).alloc o).cell (World.block_lt_of_cell? w _ h) (fun e => e)).trans h

set_option maxHeartbeats 8000000 in
theorem rtext2_any (h : Ph) (ks : List Pd) (t : Kv) (w : World) (hop : h.op = 2) (h16 : 1 ≤ h.cmp ∧ h.cmp ≤ 6) (hb : I64b h.val.num) (hl1 : h.col.length ≤ 100) (hl2 : h.val.txt.length ≤ 100) :
    Calls Tryd.prog 34 #[pdV h t] w fun e w' => e = .returned (.string ⟨(textP (.mk h ks)).toArray⟩) ∧ Fr Non w w' := by
  have HE := Lib.hid (tx_2 (h := h) (ks := ks) hop)
  have HC := Lib.hid (fun W => rpvalue_any h.kind h.val W hb (by omega))
  have hvl := valT_len h.kind h.val hb hl2
  have hml := markB_len h.cmp
  have PB := pd_new w _ h t rfl
  have HF : Hid (Fr Non w (w.alloc (.cells (pdC h t) 27))) := Lib.hid ((Fr.refl Non w).alloc _)
  generalize textP (.mk h ks) = r at *
  obtain ⟨ho, hc, hm, ⟨vn, vi, vt⟩, hkd, hp⟩ := h
  obtain ⟨A, n, c⟩ := t
  dsimp only at *
  subst hop
  obtain ⟨j, rfl⟩ : ∃ j : Nat, hm = (j : Int) + 1 := ⟨(hm - 1).toNat, by omega⟩
  have hj6 : j < 6 := by omega
  have hj7 : (j : Int) < 6 := by omega
  have hw1 : IntKind.i64.wrap (j : Int) = j := by
    have e : (2 ^ IntKind.i64.bits : Int) = 18446744073709551616 := by decide
    have e2 : (2 ^ (IntKind.i64.bits - 1) : Int) = 9223372036854775808 := by decide
    unfold IntKind.wrap
    simp [e, e2]
    omega
  obtain ⟨_, q1, q2, q3, q4, q5, q6, _, _⟩ := pdB_cells PB.drew
  dsimp only at q1 q2 q3 q4 q5 q6
  have HSIX := six_at (w.alloc (.cells (pdC ⟨2, hc, (j : Int) + 1, ⟨vn, vi, vt⟩, hkd, hp⟩ ⟨A, n, c⟩) 27)) j hj6
  rw [show (w.alloc (.cells (pdC ⟨2, hc, (j : Int) + 1, ⟨vn, vi, vt⟩, hkd, hp⟩ ⟨A, n, c⟩) 27)).heap.size = w.heap.size + 1 by simp] at HSIX
  obtain ⟨mk, HMK0⟩ : ∃ mk, markB ((j : Int) + 1) = mk := ⟨_, rfl⟩
  rw [HMK0] at HSIX HE hml
  have HMK := Lib.hid HMK0
  clear HMK0
  generalize valT hkd ⟨vn, vi, vt⟩ = va at *
  have s1 := fun W => sadd hc [32] (by simp; omega) W
  have s2 := fun W => sadd (hc ++ [32]) mk (by simp; omega) W
  have s3 := fun W => sadd (hc ++ [32] ++ mk) [32] (by simp; omega) W
  have s4 := fun W => sadd (hc ++ [32] ++ mk ++ [32]) va (by simp; omega) W
  have s5 := fun W => sadd (hc ++ 32 :: mk) [32] (by simp; omega) W
  have s6 := fun W => sadd (hc ++ 32 :: (mk ++ [32])) va (by simp; omega) W
  have HSIX := Lib.hid HSIX
  unfold clV clC at HC
  unfold pdV
  unfold pdC kidV at *
  dsimp only at *
  go_enter Tryd.func34, Tryd.ntmps34
  go_wp2
  refine wp_region_held_drew (S := (fun W => W.cell? ⟨w.heap.size, 1, none⟩ = some (.string ⟨hc.toArray⟩) ∧ W.cell? ⟨w.heap.size, 2, none⟩ = some (.int .i64 ((j : Int) + 1)) ∧ W.cell? ⟨w.heap.size, 3, none⟩ = some (.bool vn) ∧ W.cell? ⟨w.heap.size, 4, none⟩ = some (.int .i64 vi) ∧ W.cell? ⟨w.heap.size, 5, none⟩ = some (.string ⟨vt.toArray⟩) ∧ W.cell? ⟨w.heap.size, 6, none⟩ = some (.int .i64 hkd))) (by kernel_rfl) (by exact ⟨q1, q2, q3, q4, q5, q6⟩) (fun hHeld => ?_)
  refine wpAnyH_take (i := 0) (oi := ⟨some 13, _, _, _, _, none⟩) (v := ?v1) rfl (by kernel_rfl) (by kernel_rfl) (by kernel_rfl) (fun _ _ _ h => h) (Or.inl ⟨by rfl, ?hy1⟩) (by assumption) ?rest1
  case hy1 => (intro wS hSw; (try dsimp only at hSw); go_simp; (try with_reducible rfl))
  (try simp only [Act.put, List.setIfInBounds_toArray, List.set_cons_zero, List.set_cons_succ])
  refine wpAnyH_take (i := 1) (oi := ⟨some 14, _, _, _, _, none⟩) (v := ?v2) rfl (by kernel_rfl) (by kernel_rfl) (by kernel_rfl) (fun _ _ _ h => h) (Or.inl ⟨by rfl, ?hy2⟩) (by assumption) ?rest2
  case hy2 => (intro wS hSw; (try dsimp only at hSw); go_simp; (try with_reducible rfl))
  (try simp only [Act.put, List.setIfInBounds_toArray, List.set_cons_zero, List.set_cons_succ])
  refine wpAnyH_take (i := 2) (oi := ⟨some 15, _, _, _, _, none⟩) (v := ?v3) rfl (by kernel_rfl) (by kernel_rfl) (by kernel_rfl) (fun _ _ _ h => h) (Or.inl ⟨by rfl, ?hy3⟩) (by assumption) ?rest3
  case hy3 => (intro wS hSw; (try dsimp only at hSw); go_simp; (try with_reducible rfl))
  (try simp only [Act.put, List.setIfInBounds_toArray, List.set_cons_zero, List.set_cons_succ])
  refine wpAnyH_take (i := 4) (oi := ⟨some 17, _, _, _, _, none⟩) (v := ?v4) rfl (by kernel_rfl) (by kernel_rfl) (by kernel_rfl) (fun _ _ _ h => h) (Or.inl ⟨by rfl, ?hy4⟩) (by assumption) ?rest4
  case hy4 => (intro wS hSw; (try dsimp only at hSw); go_simp; (try with_reducible rfl))
  (try simp only [Act.put, List.setIfInBounds_toArray, List.set_cons_zero, List.set_cons_succ])
  refine wpAnyH_take (i := 5) (oi := ⟨some 18, _, _, _, _, none⟩) (v := ?v5) rfl (by kernel_rfl) (by kernel_rfl) (by kernel_rfl) (fun _ _ _ h => h) (Or.inl ⟨by rfl, ?hy5⟩) (by assumption) ?rest5
  case hy5 => (intro wS hSw; (try dsimp only at hSw); go_simp; (try with_reducible rfl))
  (try simp only [Act.put, List.setIfInBounds_toArray, List.set_cons_zero, List.set_cons_succ])
  refine wpAnyH_take (i := 6) (oi := ⟨some 19, _, _, _, _, none⟩) (v := ?v6) rfl (by kernel_rfl) (by kernel_rfl) (by kernel_rfl) (fun _ _ _ h => h) (Or.inl ⟨by rfl, ?hy6⟩) (by assumption) ?rest6
  case hy6 => (intro wS hSw; (try dsimp only at hSw); go_simp; (try with_reducible rfl))
  (try simp only [Act.put, List.setIfInBounds_toArray, List.set_cons_zero, List.set_cons_succ])
  refine wpAnyH_take (i := 11) (oi := ⟨some 24, _, _, _, _, none⟩) (v := ?v7) rfl (by kernel_rfl) (by kernel_rfl) (by kernel_rfl) (fun _ _ _ h => h) (Or.inl ⟨by rfl, ?hy7⟩) (by assumption) ?rest7
  case hy7 => (intro wS hSw; (try dsimp only at hSw); go_simp; (try with_reducible rfl))
  (try simp only [Act.put, List.setIfInBounds_toArray, List.set_cons_zero, List.set_cons_succ])
  refine wpAnyH_take (i := 12) (oi := ⟨some 25, _, _, _, _, none⟩) (v := ?v8) rfl (by kernel_rfl) (by kernel_rfl) (by kernel_rfl) (fun _ _ _ h => h) (Or.inl ⟨by rfl, ?hy8⟩) (by assumption) ?rest8
  case hy8 => (intro wS hSw; (try dsimp only at hSw); go_simp; (try with_reducible rfl))
  (try simp only [Act.put, List.setIfInBounds_toArray, List.set_cons_zero, List.set_cons_succ])
  refine wpAnyH_take (i := 13) (oi := ⟨some 26, _, _, _, _, none⟩) (v := ?v9) rfl (by kernel_rfl) (by kernel_rfl) (by kernel_rfl) (fun _ _ _ h => h) (Or.inl ⟨by rfl, ?hy9⟩) (by assumption) ?rest9
  case hy9 => (intro wS hSw; (try dsimp only at hSw); go_simp; (try with_reducible rfl))
  (try simp only [Act.put, List.setIfInBounds_toArray, List.set_cons_zero, List.set_cons_succ])
  refine wpAnyH_take (i := 14) (oi := ⟨some 27, _, _, _, _, none⟩) (v := ?v10) rfl (by kernel_rfl) (by kernel_rfl) (by kernel_rfl) (fun _ _ _ h => h) (Or.inl ⟨by rfl, ?hy10⟩) (by assumption) ?rest10
  case hy10 => (intro wS hSw; (try dsimp only at hSw); go_simp; (try with_reducible rfl))
  (try simp only [Act.put, List.setIfInBounds_toArray, List.set_cons_zero, List.set_cons_succ])
  refine wpAnyH_ready (rs := [3, 15]) (by kernel_rfl) (by simp) ?_
  refine AllReadyH.cons (o := ⟨some 16, _, _, _, _, none⟩) rfl (fun K hK => ?_) (AllReadyH.cons (o := ⟨some 28, _, _, _, _, none⟩) rfl (fun K hK => ?_) AllReadyH.nil)
  · go_simp
    have um : ((w.alloc (.cells #[.int .i64 2, .string ⟨hc.toArray⟩, .int .i64 ((j : Int) + 1), .bool vn, .int .i64 vi, .string ⟨vt.toArray⟩, .int .i64 hkd, .string ⟨hp.toArray⟩, .slice A n c] 27)).alloc (.cells #[.string ⟨#[61]⟩, .string ⟨#[60, 62]⟩, .string ⟨#[60]⟩, .string ⟨#[60, 61]⟩, .string ⟨#[62]⟩, .string ⟨#[62, 61]⟩] 9)).drew.cell? ⟨w.heap.size + 1, j, none⟩ = some (.string ⟨mk.toArray⟩) := HSIX.out
    have u1 := al_keep (o := (.cells #[.string ⟨#[61]⟩, .string ⟨#[60, 62]⟩, .string ⟨#[60]⟩, .string ⟨#[60, 61]⟩, .string ⟨#[62]⟩, .string ⟨#[62, 61]⟩] 9)) q1
    have u2 := al_keep (o := (.cells #[.string ⟨#[61]⟩, .string ⟨#[60, 62]⟩, .string ⟨#[60]⟩, .string ⟨#[60, 61]⟩, .string ⟨#[62]⟩, .string ⟨#[62, 61]⟩] 9)) q2
    have u3 := al_keep (o := (.cells #[.string ⟨#[61]⟩, .string ⟨#[60, 62]⟩, .string ⟨#[60]⟩, .string ⟨#[60, 61]⟩, .string ⟨#[62]⟩, .string ⟨#[62, 61]⟩] 9)) q3
    have u4 := al_keep (o := (.cells #[.string ⟨#[61]⟩, .string ⟨#[60, 62]⟩, .string ⟨#[60]⟩, .string ⟨#[60, 61]⟩, .string ⟨#[62]⟩, .string ⟨#[62, 61]⟩] 9)) q4
    have u5 := al_keep (o := (.cells #[.string ⟨#[61]⟩, .string ⟨#[60, 62]⟩, .string ⟨#[60]⟩, .string ⟨#[60, 61]⟩, .string ⟨#[62]⟩, .string ⟨#[62, 61]⟩] 9)) q5
    have u6 := al_keep (o := (.cells #[.string ⟨#[61]⟩, .string ⟨#[60, 62]⟩, .string ⟨#[60]⟩, .string ⟨#[60, 61]⟩, .string ⟨#[62]⟩, .string ⟨#[62, 61]⟩] 9)) q6
    refine hK.out _ _ (by exact ⟨u1, u2, u3, u4, u5, u6⟩) (fun hHeld => ?_)
    clear hK K
    (try simp only [Act.put, List.setIfInBounds_toArray, List.set_cons_zero, List.set_cons_succ])
    refine wpAnyH_more (S' := (fun W => W.cell? ⟨w.heap.size + 1, j, none⟩ = some (.string ⟨mk.toArray⟩) ∧ W.cell? ⟨w.heap.size, 1, none⟩ = some (.string ⟨hc.toArray⟩) ∧ W.cell? ⟨w.heap.size, 2, none⟩ = some (.int .i64 ((j : Int) + 1)) ∧ W.cell? ⟨w.heap.size, 3, none⟩ = some (.bool vn) ∧ W.cell? ⟨w.heap.size, 4, none⟩ = some (.int .i64 vi) ∧ W.cell? ⟨w.heap.size, 5, none⟩ = some (.string ⟨vt.toArray⟩) ∧ W.cell? ⟨w.heap.size, 6, none⟩ = some (.int .i64 hkd))) (fun W h => h.2) _ _ _ _ ?_
    have hMore := And.intro um hHeld
    clear hHeld
    refine wpAnyH_take (i := 7) (oi := ⟨some 20, _, _, _, _, none⟩) (v := ?v11) rfl (by kernel_rfl) (by kernel_rfl) (by kernel_rfl) (fun _ _ _ h => h) (Or.inl ⟨by rfl, ?hy11⟩) (by assumption) ?rest11
    case hy11 => (intro wS hSw; (try dsimp only at hSw); go_simp; (try with_reducible rfl))
    (try simp only [Act.put, List.setIfInBounds_toArray, List.set_cons_zero, List.set_cons_succ])
    refine wpAnyH_take (i := 8) (oi := ⟨some 21, _, _, _, _, none⟩) (v := ?v12) rfl (by kernel_rfl) (by kernel_rfl) (by kernel_rfl) (fun _ _ _ h => h) (Or.inl ⟨by rfl, ?hy12⟩) (by assumption) ?rest12
    case hy12 => (intro wS hSw; (try dsimp only at hSw); go_simp; (try with_reducible rfl))
    (try simp only [Act.put, List.setIfInBounds_toArray, List.set_cons_zero, List.set_cons_succ])
    refine wpAnyH_take (i := 9) (oi := ⟨some 22, _, _, _, _, none⟩) (v := ?v13) rfl (by kernel_rfl) (by kernel_rfl) (by kernel_rfl) (fun _ _ _ h => h) (Or.inl ⟨by rfl, ?hy13⟩) (by assumption) ?rest13
    case hy13 => (intro wS hSw; (try dsimp only at hSw); go_simp; (try with_reducible rfl))
    (try simp only [Act.put, List.setIfInBounds_toArray, List.set_cons_zero, List.set_cons_succ])
    refine wpAnyH_take (i := 10) (oi := ⟨some 23, _, _, _, _, none⟩) (v := ?v14) rfl (by kernel_rfl) (by kernel_rfl) (by kernel_rfl) (fun _ _ _ h => h) (Or.inl ⟨by rfl, ?hy14⟩) (by assumption) ?rest14
    case hy14 => (intro wS hSw; (try dsimp only at hSw); go_simp; (try with_reducible rfl))
    (try simp only [Act.put, List.setIfInBounds_toArray, List.set_cons_zero, List.set_cons_succ])
    refine wpAnyH_ready (rs := [15]) (by kernel_rfl) (by simp) ?_
    refine AllReadyH.cons (o := ⟨some 28, _, _, _, _, none⟩) rfl (fun K hK => ?_) AllReadyH.nil
    go_simp
    go_at_call 17
    (with_reducible refine (HC.out _).mono ?_)
    rintro e w3 ⟨rfl, f3⟩
    have v1 := (f3.cell (World.block_lt_of_cell? _ _ u1) (fun e => e)).trans u1
    have v2 := (f3.cell (World.block_lt_of_cell? _ _ u2) (fun e => e)).trans u2
    have v3 := (f3.cell (World.block_lt_of_cell? _ _ u3) (fun e => e)).trans u3
    have v4 := (f3.cell (World.block_lt_of_cell? _ _ u4) (fun e => e)).trans u4
    have v5 := (f3.cell (World.block_lt_of_cell? _ _ u5) (fun e => e)).trans u5
    have v6 := (f3.cell (World.block_lt_of_cell? _ _ u6) (fun e => e)).trans u6
    have vm := (f3.cell (World.block_lt_of_cell? _ _ um) (fun e => e)).trans um
    go_wp2_with fail
    refine hK.out _ _ (by exact ⟨vm, v1, v2, v3, v4, v5, v6⟩) (fun hHeld => ?_)
    clear hK K
    (try simp only [Act.put, List.setIfInBounds_toArray, List.set_cons_zero, List.set_cons_succ])
    refine wpAnyH_take (i := 16) (oi := ⟨some 29, _, _, _, _, none⟩) (v := ?v15) rfl (by kernel_rfl) (by kernel_rfl) (by kernel_rfl) (fun _ _ _ h => h) (Or.inl ⟨by rfl, ?hy15⟩) (by assumption) ?rest15
    case hy15 => (intro wS hSw; (try dsimp only at hSw); go_simp; (try with_reducible rfl))
    (try simp only [Act.put, List.setIfInBounds_toArray, List.set_cons_zero, List.set_cons_succ])
    refine wpAnyH_take (i := 17) (oi := ⟨some 2, _, _, _, _, none⟩) (v := ?v16) rfl (by kernel_rfl) (by kernel_rfl) (by kernel_rfl) (fun _ _ _ h => h) (Or.inl ⟨by rfl, ?hy16⟩) (by assumption) ?rest16
    case hy16 => (intro wS hSw; (try dsimp only at hSw); go_simp; (try with_reducible rfl))
    (try simp only [Act.put, List.setIfInBounds_toArray, List.set_cons_zero, List.set_cons_succ])
    refine wpAnyH_done (by kernel_rfl) ?_ _
    go_wp2
    go_ret
    exact ⟨strE (by rw [HE.out] <;> simp), ((HF.out.alloc _).drew).trans f3⟩
  · go_simp
    go_at_call 17
    (with_reducible refine (HC.out _).mono ?_)
    rintro e w3 ⟨rfl, f3⟩
    have u1 := (f3.cell (World.block_lt_of_cell? _ _ q1) (fun e => e)).trans q1
    have u2 := (f3.cell (World.block_lt_of_cell? _ _ q2) (fun e => e)).trans q2
    have u3 := (f3.cell (World.block_lt_of_cell? _ _ q3) (fun e => e)).trans q3
    have u4 := (f3.cell (World.block_lt_of_cell? _ _ q4) (fun e => e)).trans q4
    have u5 := (f3.cell (World.block_lt_of_cell? _ _ q5) (fun e => e)).trans q5
    have u6 := (f3.cell (World.block_lt_of_cell? _ _ q6) (fun e => e)).trans q6
    go_wp2_with fail
    refine hK.out _ _ (by exact ⟨u1, u2, u3, u4, u5, u6⟩) (fun hHeld => ?_)
    clear hK K
    (try simp only [Act.put, List.setIfInBounds_toArray, List.set_cons_zero, List.set_cons_succ])
    refine wpAnyH_ready (rs := [3]) (by kernel_rfl) (by simp) ?_
    refine AllReadyH.cons (o := ⟨some 16, _, _, _, _, none⟩) rfl (fun K hK => ?_) AllReadyH.nil
    go_simp
    have vm := six_at w3 j hj6
    rw [HMK.out] at vm
    have v1 := al_keep2 (o := (.cells #[.string ⟨#[61]⟩, .string ⟨#[60, 62]⟩, .string ⟨#[60]⟩, .string ⟨#[60, 61]⟩, .string ⟨#[62]⟩, .string ⟨#[62, 61]⟩] 9)) u1
    have v2 := al_keep2 (o := (.cells #[.string ⟨#[61]⟩, .string ⟨#[60, 62]⟩, .string ⟨#[60]⟩, .string ⟨#[60, 61]⟩, .string ⟨#[62]⟩, .string ⟨#[62, 61]⟩] 9)) u2
    have v3 := al_keep2 (o := (.cells #[.string ⟨#[61]⟩, .string ⟨#[60, 62]⟩, .string ⟨#[60]⟩, .string ⟨#[60, 61]⟩, .string ⟨#[62]⟩, .string ⟨#[62, 61]⟩] 9)) u3
    have v4 := al_keep2 (o := (.cells #[.string ⟨#[61]⟩, .string ⟨#[60, 62]⟩, .string ⟨#[60]⟩, .string ⟨#[60, 61]⟩, .string ⟨#[62]⟩, .string ⟨#[62, 61]⟩] 9)) u4
    have v5 := al_keep2 (o := (.cells #[.string ⟨#[61]⟩, .string ⟨#[60, 62]⟩, .string ⟨#[60]⟩, .string ⟨#[60, 61]⟩, .string ⟨#[62]⟩, .string ⟨#[62, 61]⟩] 9)) u5
    have v6 := al_keep2 (o := (.cells #[.string ⟨#[61]⟩, .string ⟨#[60, 62]⟩, .string ⟨#[60]⟩, .string ⟨#[60, 61]⟩, .string ⟨#[62]⟩, .string ⟨#[62, 61]⟩] 9)) u6
    refine hK.out _ _ (by exact ⟨v1, v2, v3, v4, v5, v6⟩) (fun hHeld => ?_)
    clear hK K
    (try simp only [Act.put, List.setIfInBounds_toArray, List.set_cons_zero, List.set_cons_succ])
    refine wpAnyH_more (S' := (fun W => W.cell? ⟨w3.heap.size, j, none⟩ = some (.string ⟨mk.toArray⟩) ∧ W.cell? ⟨w.heap.size, 1, none⟩ = some (.string ⟨hc.toArray⟩) ∧ W.cell? ⟨w.heap.size, 2, none⟩ = some (.int .i64 ((j : Int) + 1)) ∧ W.cell? ⟨w.heap.size, 3, none⟩ = some (.bool vn) ∧ W.cell? ⟨w.heap.size, 4, none⟩ = some (.int .i64 vi) ∧ W.cell? ⟨w.heap.size, 5, none⟩ = some (.string ⟨vt.toArray⟩) ∧ W.cell? ⟨w.heap.size, 6, none⟩ = some (.int .i64 hkd))) (fun W h => h.2) _ _ _ _ ?_
    have hMore := And.intro vm hHeld
    clear hHeld
    refine wpAnyH_take (i := 7) (oi := ⟨some 20, _, _, _, _, none⟩) (v := ?v17) rfl (by kernel_rfl) (by kernel_rfl) (by kernel_rfl) (fun _ _ _ h => h) (Or.inl ⟨by rfl, ?hy17⟩) (by assumption) ?rest17
    case hy17 => (intro wS hSw; (try dsimp only at hSw); go_simp; (try with_reducible rfl))
    (try simp only [Act.put, List.setIfInBounds_toArray, List.set_cons_zero, List.set_cons_succ])
    refine wpAnyH_take (i := 8) (oi := ⟨some 21, _, _, _, _, none⟩) (v := ?v18) rfl (by kernel_rfl) (by kernel_rfl) (by kernel_rfl) (fun _ _ _ h => h) (Or.inl ⟨by rfl, ?hy18⟩) (by assumption) ?rest18
    case hy18 => (intro wS hSw; (try dsimp only at hSw); go_simp; (try with_reducible rfl))
    (try simp only [Act.put, List.setIfInBounds_toArray, List.set_cons_zero, List.set_cons_succ])
    refine wpAnyH_take (i := 9) (oi := ⟨some 22, _, _, _, _, none⟩) (v := ?v19) rfl (by kernel_rfl) (by kernel_rfl) (by kernel_rfl) (fun _ _ _ h => h) (Or.inl ⟨by rfl, ?hy19⟩) (by assumption) ?rest19
    case hy19 => (intro wS hSw; (try dsimp only at hSw); go_simp; (try with_reducible rfl))
    (try simp only [Act.put, List.setIfInBounds_toArray, List.set_cons_zero, List.set_cons_succ])
    refine wpAnyH_take (i := 10) (oi := ⟨some 23, _, _, _, _, none⟩) (v := ?v20) rfl (by kernel_rfl) (by kernel_rfl) (by kernel_rfl) (fun _ _ _ h => h) (Or.inl ⟨by rfl, ?hy20⟩) (by assumption) ?rest20
    case hy20 => (intro wS hSw; (try dsimp only at hSw); go_simp; (try with_reducible rfl))
    (try simp only [Act.put, List.setIfInBounds_toArray, List.set_cons_zero, List.set_cons_succ])
    refine wpAnyH_take (i := 16) (oi := ⟨some 29, _, _, _, _, none⟩) (v := ?v21) rfl (by kernel_rfl) (by kernel_rfl) (by kernel_rfl) (fun _ _ _ h => h) (Or.inl ⟨by rfl, ?hy21⟩) (by assumption) ?rest21
    case hy21 => (intro wS hSw; (try dsimp only at hSw); go_simp; (try with_reducible rfl))
    (try simp only [Act.put, List.setIfInBounds_toArray, List.set_cons_zero, List.set_cons_succ])
    refine wpAnyH_take (i := 17) (oi := ⟨some 2, _, _, _, _, none⟩) (v := ?v22) rfl (by kernel_rfl) (by kernel_rfl) (by kernel_rfl) (fun _ _ _ h => h) (Or.inl ⟨by rfl, ?hy22⟩) (by assumption) ?rest22
    case hy22 => (intro wS hSw; (try dsimp only at hSw); go_simp; (try with_reducible rfl))
    (try simp only [Act.put, List.setIfInBounds_toArray, List.set_cons_zero, List.set_cons_succ])
    refine wpAnyH_done (by kernel_rfl) ?_ _
    go_wp2
    go_ret
    exact ⟨strE (by rw [HE.out] <;> simp), (HF.out.drew.trans f3).alloc _⟩

set_option maxHeartbeats 8000000 in
theorem rtext4_any (h : Ph) (ks : List Pd) (t : Kv) (w : World) (hop : h.op = 4) (hl1 : h.col.length ≤ 100) (hl2 : h.pat.length ≤ 100) :
    Calls Tryd.prog 34 #[pdV h t] w fun e w' => e = .returned (.string ⟨(textP (.mk h ks)).toArray⟩) ∧ Fr Non w w' := by
  have HE := Lib.hid (tx_4 (h := h) (ks := ks) hop)
  have HC : Hid (∀ W, Calls Tryd.prog 39 #[.string ⟨h.pat.toArray⟩] W fun e w' => e = .returned (.string ⟨(quoT h.pat).toArray⟩) ∧ Fr Non W w') := Lib.hid (fun W => rquote_any h.pat W (by omega))
  have hql := quoT_len h.pat
  have PB := pd_new w _ h t rfl
  have HF : Hid (Fr Non w (w.alloc (.cells (pdC h t) 27))) := Lib.hid ((Fr.refl Non w).alloc _)
  generalize textP (.mk h ks) = r at *
  obtain ⟨ho, hc, hm, ⟨vn, vi, vt⟩, hkd, hp⟩ := h
  obtain ⟨A, n, c⟩ := t
  dsimp only at *
  subst hop
  obtain ⟨_, q1, _, _, _, _, _, q2, _⟩ := pdB_cells PB.drew
  dsimp only at q1 q2
  generalize quoT hp = va at *
  have s1 := fun W => sadd hc [32, 108, 105, 107, 101, 32] (by simp; omega) W
  have s2 := fun W => sadd (hc ++ [32, 108, 105, 107, 101, 32]) va (by simp; omega) W
  unfold pdV
  unfold pdC kidV at *
  dsimp only at *
  go_enter Tryd.func34, Tryd.ntmps34
  go_wp2
  refine wp_region_held_drew (S := (fun W => W.cell? ⟨w.heap.size, 1, none⟩ = some (.string ⟨hc.toArray⟩) ∧ W.cell? ⟨w.heap.size, 7, none⟩ = some (.string ⟨hp.toArray⟩))) (by kernel_rfl) (by exact ⟨q1, q2⟩) (fun hHeld => ?_)
  refine wpAnyH_take (i := 0) (oi := ⟨some 37, _, _, _, _, none⟩) (v := ?v23) rfl (by kernel_rfl) (by kernel_rfl) (by kernel_rfl) (fun _ _ _ h => h) (Or.inl ⟨by rfl, ?hy23⟩) (by assumption) ?rest23
  case hy23 => (intro wS hSw; (try dsimp only at hSw); go_simp; (try with_reducible rfl))
  (try simp only [Act.put, List.setIfInBounds_toArray, List.set_cons_zero, List.set_cons_succ])
  refine wpAnyH_take (i := 1) (oi := ⟨some 38, _, _, _, _, none⟩) (v := ?v24) rfl (by kernel_rfl) (by kernel_rfl) (by kernel_rfl) (fun _ _ _ h => h) (Or.inl ⟨by rfl, ?hy24⟩) (by assumption) ?rest24
  case hy24 => (intro wS hSw; (try dsimp only at hSw); go_simp; (try with_reducible rfl))
  (try simp only [Act.put, List.setIfInBounds_toArray, List.set_cons_zero, List.set_cons_succ])
  refine wpAnyH_take (i := 2) (oi := ⟨some 39, _, _, _, _, none⟩) (v := ?v25) rfl (by kernel_rfl) (by kernel_rfl) (by kernel_rfl) (fun _ _ _ h => h) (Or.inl ⟨by rfl, ?hy25⟩) (by assumption) ?rest25
  case hy25 => (intro wS hSw; (try dsimp only at hSw); go_simp; (try with_reducible rfl))
  (try simp only [Act.put, List.setIfInBounds_toArray, List.set_cons_zero, List.set_cons_succ])
  refine wpAnyH_take (i := 3) (oi := ⟨some 40, _, _, _, _, none⟩) (v := ?v26) rfl (by kernel_rfl) (by kernel_rfl) (by kernel_rfl) (fun _ _ _ h => h) (Or.inl ⟨by rfl, ?hy26⟩) (by assumption) ?rest26
  case hy26 => (intro wS hSw; (try dsimp only at hSw); go_simp; (try with_reducible rfl))
  (try simp only [Act.put, List.setIfInBounds_toArray, List.set_cons_zero, List.set_cons_succ])
  refine wpAnyH_take (i := 4) (oi := ⟨some 41, _, _, _, _, none⟩) (v := ?v27) rfl (by kernel_rfl) (by kernel_rfl) (by kernel_rfl) (fun _ _ _ h => h) (Or.inl ⟨by rfl, ?hy27⟩) (by assumption) ?rest27
  case hy27 => (intro wS hSw; (try dsimp only at hSw); go_simp; (try with_reducible rfl))
  (try simp only [Act.put, List.setIfInBounds_toArray, List.set_cons_zero, List.set_cons_succ])
  refine wpAnyH_ready (rs := [5]) (by kernel_rfl) (by simp) ?_
  refine AllReadyH.cons (o := ⟨some 42, _, _, _, _, none⟩) rfl (fun K hK => ?_) AllReadyH.nil
  go_simp
  go_at_call 39
  (with_reducible refine (HC.out _).mono ?_)
  rintro e w3 ⟨rfl, f3⟩
  have u1 := (f3.cell (World.block_lt_of_cell? _ _ q1) (fun e => e)).trans q1
  have u2 := (f3.cell (World.block_lt_of_cell? _ _ q2) (fun e => e)).trans q2
  go_wp2_with fail
  refine hK.out _ _ (by exact ⟨u1, u2⟩) (fun hHeld => ?_)
  clear hK K
  (try simp only [Act.put, List.setIfInBounds_toArray, List.set_cons_zero, List.set_cons_succ])
  refine wpAnyH_take (i := 6) (oi := ⟨some 43, _, _, _, _, none⟩) (v := ?v28) rfl (by kernel_rfl) (by kernel_rfl) (by kernel_rfl) (fun _ _ _ h => h) (Or.inl ⟨by rfl, ?hy28⟩) (by assumption) ?rest28
  case hy28 => (intro wS hSw; (try dsimp only at hSw); go_simp; (try with_reducible rfl))
  (try simp only [Act.put, List.setIfInBounds_toArray, List.set_cons_zero, List.set_cons_succ])
  refine wpAnyH_take (i := 7) (oi := ⟨some 2, _, _, _, _, none⟩) (v := ?v29) rfl (by kernel_rfl) (by kernel_rfl) (by kernel_rfl) (fun _ _ _ h => h) (Or.inl ⟨by rfl, ?hy29⟩) (by assumption) ?rest29
  case hy29 => (intro wS hSw; (try dsimp only at hSw); go_simp; (try with_reducible rfl))
  (try simp only [Act.put, List.setIfInBounds_toArray, List.set_cons_zero, List.set_cons_succ])
  refine wpAnyH_done (by kernel_rfl) ?_ _
  go_wp2
  go_ret
  exact ⟨strE (by rw [HE.out] <;> simp), HF.out.drew.trans f3⟩

set_option maxHeartbeats 8000000 in
theorem rtext5_any (h : Ph) (ks : List Pd) (t : Kv) (w : World) (hop : h.op = 5) (hk : Kd w t ks) (h1 : ks.length = 1) (hops : ∀ k ∈ ks, 1 ≤ k.hd.op ∧ k.hd.op ≤ 7) (hl : ∀ k ∈ ks, (textP k).length ≤ 100000)
    (IH : Hid (∀ k (h : k < ks.length) W t', Kd W t' ks[k].kids → Calls Tryd.prog 34 #[pdV ks[k].hd t'] W fun e w' => e = .returned (.string ⟨(textP ks[k]).toArray⟩) ∧ Fr Non W w')) :
    Calls Tryd.prog 34 #[pdV h t] w fun e w' => e = .returned (.string ⟨(textP (.mk h ks)).toArray⟩) ∧ Fr Non w w' := by
  have hn := hk.len
  match ks, h1 with
  | [p], _ =>
  have HE := Lib.hid (tx_5 (h := h) (k := p) (ks := []) hop)
  have PB := Lib.hid (pd_new w _ h t rfl)
  have F0 : Fr Non w (w.alloc (.cells (pdC h t) 27)) := (Fr.refl Non w).alloc _
  obtain ⟨a, s, hA, hc2, hkk, _⟩ := hk.elN F0 0 (by simp)
  have HC := Lib.hid (IH.out 0 (by simp) _ s (hkk.non F0))
  have hpo := hops p (by simp)
  have hpl := hl p (by simp)
  have HK := Lib.hid hk
  clear IH hkk hops hl hk
  simp only [List.getElem_cons_zero] at HC hc2
  rw [show a.add (0 * 9) = a by simp [Addr.add]] at hc2
  generalize hrr : textP (.mk h [p]) = r at *
  clear hrr
  have HF := Lib.hid F0
  clear F0
  obtain ⟨x, ps⟩ := p
  dsimp only [Pd.hd] at hpo hc2 HC
  have HI := Lib.hid (fun e => brk_in (ops := [6, 7]) (h := x) (ks := ps) e)
  have HO := Lib.hid (fun e => brk_out (ops := [6, 7]) (h := x) (ks := ps) e)
  generalize brkP [6, 7] (.mk x ps) = y at *
  generalize textP (.mk x ps) = tx at *
  have s1 := fun W => sadd [110, 111, 116, 32] tx (by simp; omega) W
  have s2 := fun W => sadd [40] tx (by simp; omega) W
  have s3 := fun W => sadd ([40] ++ tx) [41] (by simp; omega) W
  have s4 := fun W => sadd [110, 111, 116, 32] ([40] ++ tx ++ [41]) (by simp; omega) W
  have HC3 := Lib.hid (fun W (f1 : Fr Non (w.alloc (.cells (pdC h t) 27)) W) => HK.out.elN (HF.out.trans f1) 0 (by simp))
  obtain ⟨ho, hc, hm, ⟨vn, vi, vt⟩, hkd, hp⟩ := h
  obtain ⟨A, n, c⟩ := t
  dsimp only at hn hA hop
  subst hop hA
  simp only [List.length_cons, List.length_nil] at hn
  subst hn
  obtain ⟨c0, c1, c2, c3, c4, c5, c6, c7, c8⟩ := hc2
  have e0 := Lib.hid c0
  obtain ⟨xo, xc, xm, ⟨xn, xi, xt⟩, xk, xp⟩ := x
  obtain ⟨tA, tn, tc⟩ := s
  dsimp only at hpo HI HO
  unfold pdV at HC ⊢
  unfold pdC kidV at *
  dsimp only at *
  by_cases h6 : 6 ≤ xo
  · have HE2 := Lib.hid (HI.out (by simp; try omega))
    clear HI HO
    go_enter Tryd.func34, Tryd.ntmps34
    go_wp2_with fail
    refine HC.out.mono ?_
    rintro e w1 ⟨rfl, f1⟩
    have d0 := (f1.cell (World.block_lt_of_cell? _ _ e0.out) (fun e => e)).trans e0.out
    have b8 := (PB.out.fr f1 (fun e => e)).cell 8
    simp [pdC, kidV] at b8
    have F1 := Lib.hid (HF.out.trans f1)
    clear f1
    go_wp2
    go_ret
    exact ⟨strE (by rw [HE.out, HE2.out] <;> simp), F1.out⟩
  · have HE2 := Lib.hid (HO.out (by simp; try omega))
    have h6n : ¬ (6 : Int) ≤ xo := h6
    clear HI HO
    go_enter Tryd.func34, Tryd.ntmps34
    go_wp2_with fail
    refine HC.out.mono ?_
    rintro e w1 ⟨rfl, f1⟩
    have d0 := (f1.cell (World.block_lt_of_cell? _ _ e0.out) (fun e => e)).trans e0.out
    have b8 := (PB.out.fr f1 (fun e => e)).cell 8
    simp [pdC, kidV] at b8
    have F1 := Lib.hid (HF.out.trans f1)
    clear f1
    go_wp2
    go_ret
    exact ⟨strE (by rw [HE.out, HE2.out] <;> simp), F1.out⟩

theorem joinT_more (ops : List Int) (sep : Tx) {ks : List Pd} {k : Nat} (h : k < ks.length) : Lib.join ((ks.take (k + 1)).map (brkP ops)) sep = if k = 0 then brkP ops ks[k] else Lib.join ((ks.take k).map (brkP ops)) sep ++ sep ++ brkP ops ks[k] := by
  rw [brkT_more ops h, join_more, List.length_map, List.length_take, Nat.min_eq_left (by omega)]
theorem inter_pre (sep : Tx) (l m : List Tx) : (Lib.join l sep).length ≤ (Lib.join (l ++ m) sep).length := by
  unfold Lib.join
  induction l with
  | nil => simp [List.intercalate]
  | cons x r ih =>
    cases r with
    | nil =>
      cases m with
      | nil => simp
      | cons y m => 
        have e : List.intercalate sep ([x] ++ y :: m) = x ++ sep ++ List.intercalate sep (y :: m) := by simp [List.intercalate]
        rw [e]; simp [List.intercalate]; try omega
    | cons y r =>
      have e : List.intercalate sep (x :: y :: r) = x ++ sep ++ List.intercalate sep (y :: r) := by simp [List.intercalate]
      have e2 : List.intercalate sep (x :: y :: r ++ m) = x ++ sep ++ List.intercalate sep (y :: r ++ m) := by simp [List.intercalate]
      rw [e, e2, List.length_append, List.length_append, List.length_append, List.length_append]
      omega
theorem joinT_len (ops : List Int) (sep : Tx) (ks : List Pd) (k : Nat) : (Lib.join ((ks.take k).map (brkP ops)) sep).length ≤ (Lib.join (ks.map (brkP ops)) sep).length := by
  have := inter_pre sep ((ks.take k).map (brkP ops)) ((ks.drop k).map (brkP ops))
  rwa [← List.map_append, List.take_append_drop] at this

set_option maxHeartbeats 8000000 in
theorem rtext6_any (h : Ph) (ks : List Pd) (t : Kv) (w : World) (hop : h.op = 6) (hk : Kd w t ks) (hl20 : ks.length ≤ 20) (hJ : (textP (.mk h ks)).length ≤ 100000) (hl : ∀ k ∈ ks, (textP k).length ≤ 100000)
    (IH : Hid (∀ k (h : k < ks.length) W t', Kd W t' ks[k].kids → Calls Tryd.prog 34 #[pdV ks[k].hd t'] W fun e w' => e = .returned (.string ⟨(textP ks[k]).toArray⟩) ∧ Fr Non W w')) :
    Calls Tryd.prog 34 #[pdV h t] w fun e w' => e = .returned (.string ⟨(textP (.mk h ks)).toArray⟩) ∧ Fr Non w w' := by
  have hn := hk.len
  have HE := Lib.hid (tx_6 (h := h) (ks := ks) hop)
  have PB := Lib.hid (pd_new w _ h t rfl)
  have F0 : Fr Non w (w.alloc (.cells (pdC h t) 27)) := (Fr.refl Non w).alloc _
  have HF := Lib.hid F0
  have HK := Lib.hid hk
  have HT := Lib.hid hl
  have HJ : Hid (∀ k, (Lib.join ((ks.take k).map (brkP [7])) andT).length ≤ 100000) := Lib.hid (fun k => Nat.le_trans (joinT_len _ _ _ _) (by rw [← HE.out]; exact hJ))
  generalize textP (.mk h ks) = r at *
  clear F0 hk hl hJ
  obtain ⟨ho, hc, hm, ⟨vn, vi, vt⟩, hkd, hp⟩ := h
  obtain ⟨A, n, c⟩ := t
  dsimp only at hn hop
  subst hop
  have hn20 : n ≤ 20 := by omega
  have HL := Lib.hid hn
  clear hn hl20
  unfold pdV
  unfold pdC kidV
  dsimp only
  have HS0 : Hid ([] = Lib.join ((ks.take 0).map (brkP [7])) andT) := Lib.hid rfl
  go_enter Tryd.func34, Tryd.ntmps34
  go_wp2
  go_loopw [4, 5, 6] (fun u i x wr => ∃ (k : Nat) (so : Tx) (xv : Value), k ≤ n ∧ i = .int .i64 k ∧ u = .string ⟨so.toArray⟩ ∧ x = xv ∧ Hid (so = Lib.join ((ks.take k).map (brkP [7])) andT) ∧ Hid (Fr Non (w.alloc (.cells (pdC ⟨6, hc, hm, ⟨vn, vi, vt⟩, hkd, hp⟩ ⟨A, n, c⟩) 27)) wr)) (fun _ i _ _ => n - (intOf i).toNat)
  case atStart => exact ⟨0, [], _, Nat.zero_le _, rfl, rfl, rfl, HS0, Lib.hid (Fr.refl _ _)⟩
  case round =>
    clear HS0
    obtain ⟨k, so, xv, hk, rfl, rfl, rfl, HS, FR⟩ := hrel
    have b8 := (PB.out.fr FR.out (fun e => e)).cell 8
    simp [pdC, kidV] at b8
    have HFw := Lib.hid (HF.out.trans FR.out)
    by_cases hlt : k < n
    · have hlt2 : k < ks.length := by have := HL.out; omega
      obtain ⟨a, t, hA, hc2, hkk, _⟩ := HK.out.elN HFw.out k hlt2
      have HC := Lib.hid (IH.out k hlt2 wr t (hkk.non HFw.out))
      have hpl := HT.out _ (List.getElem_mem hlt2)
      have hso : so.length ≤ 100000 := by rw [HS.out]; exact HJ.out k
      have HY0 := Lib.hid (joinT_more [7] andT hlt2)
      rw [← HS.out] at HY0
      dsimp only at hA
      subst hA
      clear hkk
      generalize ks[k] = p at *
      obtain ⟨x, ps⟩ := p
      dsimp only [Pd.hd] at hc2 HC
      have HI := Lib.hid (fun e => brk_in (ops := [7]) (h := x) (ks := ps) e)
      have HO := Lib.hid (fun e => brk_out (ops := [7]) (h := x) (ks := ps) e)
      generalize brkP [7] (.mk x ps) = y at *
      generalize textP (.mk x ps) = tx at *
      obtain ⟨c0, c1, c2, c3, c4, c5, c6, c7, c8⟩ := hc2
      have e0 := Lib.hid c0
      obtain ⟨xo, xc, xm, ⟨xn, xi, xt⟩, xk, xp⟩ := x
      obtain ⟨tA, tn, tc⟩ := t
      dsimp only at HI HO
      unfold pdV pdC kidV at HC
      dsimp only at HC c0 c1 c2 c3 c4 c5 c6 c7 c8
      dsimp only at e0
      by_cases h7 : xo = 7
      · have HE2 := Lib.hid (HI.out (by simp [h7]))
        clear HI HO
        subst h7
        have z1 := fun W => sadd [40] tx (by simp; omega) W
        have z2 := fun W => sadd ([40] ++ tx) [41] (by simp; omega) W
        by_cases hk0 : k = 0
        · subst hk0
          have HY : Hid (Lib.join ((ks.take (0 + 1)).map (brkP [7])) andT = y) := Lib.hid (by rw [HY0.out, if_pos rfl])
          have hso0 : so = [] := HS.out
          have ha0 : a.add (0 * 9) = a := by simp [Addr.add]
          rw [ha0] at c0 c1 c2 c3 c4 c5 c6 c7 c8 e0
          subst hso0
          clear HY0 HS
          have s2 := fun W => sadd [] ([40] ++ tx ++ [41]) (by simp; omega) W
          go_wp2_with fail
          refine HC.out.mono ?_
          rintro e w2 ⟨rfl, f2⟩
          have d0 := (f2.cell (World.block_lt_of_cell? _ _ e0.out) (fun e => e)).trans e0.out
          have F2 := Lib.hid (FR.out.trans f2)
          have b0 := (PB.out.fr F2.out (fun e => e)).cell 0
          have b8 := (PB.out.fr F2.out (fun e => e)).cell 8
          simp [pdC, kidV] at b0 b8
          clear f2
          go_wp2
          go_roundw
          case rel => exact ⟨0 + 1, _, _, by omega, by go_num, rfl, rfl, Lib.hid (by rw [HY.out, HE2.out] <;> simp), Lib.hid F2.out⟩
          case measure => simp [intOf]; omega
        · have HY : Hid (Lib.join ((ks.take (k + 1)).map (brkP [7])) andT = so ++ andT ++ y) := Lib.hid (by rw [HY0.out, if_neg hk0])
          have hkp : 0 < k := by omega
          clear HY0 HS hk0
          have s1 := fun W => sadd so [32, 97, 110, 100, 32] (by simp; omega) W
          have s2 := fun W => sadd (so ++ [32, 97, 110, 100, 32]) ([40] ++ tx ++ [41]) (by simp; omega) W
          go_wp2_with fail
          refine HC.out.mono ?_
          rintro e w2 ⟨rfl, f2⟩
          have d0 := (f2.cell (World.block_lt_of_cell? _ _ e0.out) (fun e => e)).trans e0.out
          have F2 := Lib.hid (FR.out.trans f2)
          have b0 := (PB.out.fr F2.out (fun e => e)).cell 0
          have b8 := (PB.out.fr F2.out (fun e => e)).cell 8
          simp [pdC, kidV] at b0 b8
          clear f2
          go_wp2
          go_roundw
          case rel => exact ⟨k + 1, _, _, by omega, by go_num, rfl, rfl, Lib.hid (by rw [HY.out, HE2.out] <;> simp [andT]), Lib.hid F2.out⟩
          case measure => simp [intOf]; omega
      · have hx7 : (xo == 7) = false := by rw [beq_eq_false_iff_ne]; exact h7
        have HE2 := Lib.hid (HO.out (by simp [h7]))
        clear HI HO h7
        by_cases hk0 : k = 0
        · subst hk0
          have HY : Hid (Lib.join ((ks.take (0 + 1)).map (brkP [7])) andT = y) := Lib.hid (by rw [HY0.out, if_pos rfl])
          have hso0 : so = [] := HS.out
          have ha0 : a.add (0 * 9) = a := by simp [Addr.add]
          rw [ha0] at c0 c1 c2 c3 c4 c5 c6 c7 c8 e0
          subst hso0
          clear HY0 HS
          have s2 := fun W => sadd [] tx (by simp; omega) W
          go_wp2_with fail
          refine HC.out.mono ?_
          rintro e w2 ⟨rfl, f2⟩
          have d0 := (f2.cell (World.block_lt_of_cell? _ _ e0.out) (fun e => e)).trans e0.out
          have F2 := Lib.hid (FR.out.trans f2)
          have b0 := (PB.out.fr F2.out (fun e => e)).cell 0
          have b8 := (PB.out.fr F2.out (fun e => e)).cell 8
          simp [pdC, kidV] at b0 b8
          clear f2
          go_wp2
          go_roundw
          case rel => exact ⟨0 + 1, _, _, by omega, by go_num, rfl, rfl, Lib.hid (by rw [HY.out, HE2.out] <;> simp), Lib.hid F2.out⟩
          case measure => simp [intOf]; omega
        · have HY : Hid (Lib.join ((ks.take (k + 1)).map (brkP [7])) andT = so ++ andT ++ y) := Lib.hid (by rw [HY0.out, if_neg hk0])
          have hkp : 0 < k := by omega
          clear HY0 HS hk0
          have s1 := fun W => sadd so [32, 97, 110, 100, 32] (by simp; omega) W
          have s2 := fun W => sadd (so ++ [32, 97, 110, 100, 32]) tx (by simp; omega) W
          go_wp2_with fail
          refine HC.out.mono ?_
          rintro e w2 ⟨rfl, f2⟩
          have d0 := (f2.cell (World.block_lt_of_cell? _ _ e0.out) (fun e => e)).trans e0.out
          have F2 := Lib.hid (FR.out.trans f2)
          have b0 := (PB.out.fr F2.out (fun e => e)).cell 0
          have b8 := (PB.out.fr F2.out (fun e => e)).cell 8
          simp [pdC, kidV] at b0 b8
          clear f2
          go_wp2
          go_roundw
          case rel => exact ⟨k + 1, _, _, by omega, by go_num, rfl, rfl, Lib.hid (by rw [HY.out, HE2.out] <;> simp [andT]), Lib.hid F2.out⟩
          case measure => simp [intOf]; omega
    · have HR : Hid (r = so) := Lib.hid (by
        rw [HE.out, HS.out, List.take_of_length_le (by have := HL.out; omega)])
      clear HS
      go_wp2
      go_ret
      exact ⟨strE HR.out.symm, HFw.out⟩

set_option maxHeartbeats 8000000 in
theorem rtext7_any (h : Ph) (ks : List Pd) (t : Kv) (w : World) (hop : h.op = 7) (hk : Kd w t ks) (hl20 : ks.length ≤ 20) (hJ : (textP (.mk h ks)).length ≤ 100000) (hl : ∀ k ∈ ks, (textP k).length ≤ 100000)
    (IH : Hid (∀ k (h : k < ks.length) W t', Kd W t' ks[k].kids → Calls Tryd.prog 34 #[pdV ks[k].hd t'] W fun e w' => e = .returned (.string ⟨(textP ks[k]).toArray⟩) ∧ Fr Non W w')) :
    Calls Tryd.prog 34 #[pdV h t] w fun e w' => e = .returned (.string ⟨(textP (.mk h ks)).toArray⟩) ∧ Fr Non w w' := by
  have hn := hk.len
  have HE := Lib.hid (tx_7 (h := h) (ks := ks) hop)
  have PB := Lib.hid (pd_new w _ h t rfl)
  have F0 : Fr Non w (w.alloc (.cells (pdC h t) 27)) := (Fr.refl Non w).alloc _
  have HF := Lib.hid F0
  have HK := Lib.hid hk
  have HT := Lib.hid hl
  have HJ : Hid (∀ k, (Lib.join ((ks.take k).map (brkP [])) orT).length ≤ 100000) := Lib.hid (fun k => Nat.le_trans (joinT_len _ _ _ _) (by rw [← HE.out]; exact hJ))
  generalize textP (.mk h ks) = r at *
  clear F0 hk hl hJ
  obtain ⟨ho, hc, hm, ⟨vn, vi, vt⟩, hkd, hp⟩ := h
  obtain ⟨A, n, c⟩ := t
  dsimp only at hn hop
  subst hop
  have hn20 : n ≤ 20 := by omega
  have HL := Lib.hid hn
  clear hn hl20
  unfold pdV
  unfold pdC kidV
  dsimp only
  have HS0 : Hid ([] = Lib.join ((ks.take 0).map (brkP [])) orT) := Lib.hid rfl
  go_enter Tryd.func34, Tryd.ntmps34
  go_wp2
  go_loopw [4, 5, 6] (fun u i x wr => ∃ (k : Nat) (so : Tx) (xv : Value), k ≤ n ∧ i = .int .i64 k ∧ u = .string ⟨so.toArray⟩ ∧ x = xv ∧ Hid (so = Lib.join ((ks.take k).map (brkP [])) orT) ∧ Hid (Fr Non (w.alloc (.cells (pdC ⟨7, hc, hm, ⟨vn, vi, vt⟩, hkd, hp⟩ ⟨A, n, c⟩) 27)) wr)) (fun _ i _ _ => n - (intOf i).toNat)
  case atStart => exact ⟨0, [], _, Nat.zero_le _, rfl, rfl, rfl, HS0, Lib.hid (Fr.refl _ _)⟩
  case round =>
    clear HS0
    obtain ⟨k, so, xv, hk, rfl, rfl, rfl, HS, FR⟩ := hrel
    have b8 := (PB.out.fr FR.out (fun e => e)).cell 8
    simp [pdC, kidV] at b8
    have HFw := Lib.hid (HF.out.trans FR.out)
    by_cases hlt : k < n
    · have hlt2 : k < ks.length := by have := HL.out; omega
      obtain ⟨a, t, hA, hc2, hkk, _⟩ := HK.out.elN HFw.out k hlt2
      have HC := Lib.hid (IH.out k hlt2 wr t (hkk.non HFw.out))
      have hpl := HT.out _ (List.getElem_mem hlt2)
      have hso : so.length ≤ 100000 := by rw [HS.out]; exact HJ.out k
      have HY0 := Lib.hid (joinT_more [] orT hlt2)
      rw [← HS.out] at HY0
      dsimp only at hA
      subst hA
      clear hkk
      generalize ks[k] = p at *
      obtain ⟨x, ps⟩ := p
      dsimp only [Pd.hd] at hc2 HC
      have HI := Lib.hid (fun e => brk_in (ops := []) (h := x) (ks := ps) e)
      have HO := Lib.hid (fun e => brk_out (ops := []) (h := x) (ks := ps) e)
      generalize brkP [] (.mk x ps) = y at *
      generalize textP (.mk x ps) = tx at *
      obtain ⟨c0, c1, c2, c3, c4, c5, c6, c7, c8⟩ := hc2
      have e0 := Lib.hid c0
      obtain ⟨xo, xc, xm, ⟨xn, xi, xt⟩, xk, xp⟩ := x
      obtain ⟨tA, tn, tc⟩ := t
      dsimp only at HI HO
      unfold pdV pdC kidV at HC
      dsimp only at HC c0 c1 c2 c3 c4 c5 c6 c7 c8
      dsimp only at e0
      have HE2 := Lib.hid (HO.out (by simp))
      clear HI HO
      by_cases hk0 : k = 0
      · subst hk0
        have HY : Hid (Lib.join ((ks.take (0 + 1)).map (brkP [])) orT = y) := Lib.hid (by rw [HY0.out, if_pos rfl])
        have hso0 : so = [] := HS.out
        have ha0 : a.add (0 * 9) = a := by simp [Addr.add]
        rw [ha0] at c0 c1 c2 c3 c4 c5 c6 c7 c8 e0
        subst hso0
        clear HY0 HS
        have s2 := fun W => sadd [] tx (by simp; omega) W
        go_wp2_with fail
        refine HC.out.mono ?_
        rintro e w2 ⟨rfl, f2⟩
        have d0 := (f2.cell (World.block_lt_of_cell? _ _ e0.out) (fun e => e)).trans e0.out
        have F2 := Lib.hid (FR.out.trans f2)
        have b0 := (PB.out.fr F2.out (fun e => e)).cell 0
        have b8 := (PB.out.fr F2.out (fun e => e)).cell 8
        simp [pdC, kidV] at b0 b8
        clear f2
        go_wp2
        go_roundw
        case rel => exact ⟨0 + 1, _, _, by omega, by go_num, rfl, rfl, Lib.hid (by rw [HY.out, HE2.out] <;> simp), Lib.hid F2.out⟩
        case measure => simp [intOf]; omega
      · have HY : Hid (Lib.join ((ks.take (k + 1)).map (brkP [])) orT = so ++ orT ++ y) := Lib.hid (by rw [HY0.out, if_neg hk0])
        have hkp : 0 < k := by omega
        clear HY0 HS hk0
        have s1 := fun W => sadd so [32, 111, 114, 32] (by simp; omega) W
        have s2 := fun W => sadd (so ++ [32, 111, 114, 32]) tx (by simp; omega) W
        go_wp2_with fail
        refine HC.out.mono ?_
        rintro e w2 ⟨rfl, f2⟩
        have d0 := (f2.cell (World.block_lt_of_cell? _ _ e0.out) (fun e => e)).trans e0.out
        have F2 := Lib.hid (FR.out.trans f2)
        have b0 := (PB.out.fr F2.out (fun e => e)).cell 0
        have b8 := (PB.out.fr F2.out (fun e => e)).cell 8
        simp [pdC, kidV] at b0 b8
        clear f2
        go_wp2
        go_roundw
        case rel => exact ⟨k + 1, _, _, by omega, by go_num, rfl, rfl, Lib.hid (by rw [HY.out, HE2.out] <;> simp [orT]), Lib.hid F2.out⟩
        case measure => simp [intOf]; omega
    · have HR : Hid (r = so) := Lib.hid (by
        rw [HE.out, HS.out, List.take_of_length_le (by have := HL.out; omega)])
      clear HS
      go_wp2
      go_ret
      exact ⟨strE HR.out.symm, HFw.out⟩

set_option maxHeartbeats 2000000 in
theorem rtext13_any (h : Ph) (ks : List Pd) (t : Kv) (w : World) (hop : h.op = 1 ∨ h.op = 3) (hl1 : h.col.length ≤ 100) :
    Calls Tryd.prog 34 #[pdV h t] w fun e w' => e = .returned (.string ⟨(textP (.mk h ks)).toArray⟩) ∧ Fr Non w w' := by
  have X1 := Lib.hid (fun e => tx_1 (h := h) (ks := ks) e)
  have X3 := Lib.hid (fun e => tx_3 (h := h) (ks := ks) e)
  have HF : Hid (Fr Non w (w.alloc (.cells (pdC h t) 27))) := Lib.hid ((Fr.refl Non w).alloc _)
  generalize textP (.mk h ks) = r at *
  obtain ⟨ho, hc, hm, ⟨vn, vi, vt⟩, hkd, hp⟩ := h
  obtain ⟨A, n, c⟩ := t
  dsimp only at *
  unfold pdV
  unfold pdC kidV at *
  dsimp only at *
  rcases hop with h1 | h3
  · have HE := Lib.hid (X1.out h1)
    subst h1
    clear X1 X3
    go_enter Tryd.func34, Tryd.ntmps34
    go_wp2
    go_ret
    exact ⟨strE (by rw [HE.out]), HF.out⟩
  · have HE := Lib.hid (X3.out h3)
    subst h3
    clear X1 X3
    have s1 := fun W => sadd hc [32, 105, 115, 32, 110, 117, 108, 108] (by simp; omega) W
    go_enter Tryd.func34, Tryd.ntmps34
    go_wp2
    go_ret
    exact ⟨strE (by rw [HE.out]), HF.out⟩
theorem rptext_any (p : Pd) : ∀ (t : Kv) (w : World), Kd w t p.kids → I64b p.hd.val.num → lenP p = true → oneP p = true → cntP p ≤ 16 →
    Calls Tryd.prog 34 #[pdV p.hd t] w fun e w' => e = .returned (.string ⟨(textP p).toArray⟩) ∧ Fr Non w w' := by
  induction p using Pd.ind with
  | h hd ks ih =>
    intro t w hk hb hlen hone hcnt
    dsimp only [Pd.hd, Pd.kids] at hk hb ⊢
    have hls := lenP_mk hlen
    have hops := one_ops hone
    have hnum : numP (.mk hd ks) := ⟨hb, hk.num⟩
    have htl := text_len (.mk hd ks) hnum hlen
    have hkl : ∀ k ∈ ks, (textP k).length ≤ 100000 := fun k hm => by
      have h1 := cntL_mem hm
      rw [cntP] at hcnt
      have := text_len k ((numL_all ks).1 hk.num _ hm) (hls.2.2.2.2 _ hm)
      omega
    have IH : Hid (∀ k (h : k < ks.length) W t', Kd W t' ks[k].kids → Calls Tryd.prog 34 #[pdV ks[k].hd t'] W fun e w' => e = .returned (.string ⟨(textP ks[k]).toArray⟩) ∧ Fr Non W w') :=
      Lib.hid (fun k h W t' a => by
        have hm := List.getElem_mem h
        have h1 := cntL_mem hm
        rw [cntP] at hcnt
        refine ih _ hm t' W a ?_ (hls.2.2.2.2 _ hm) (hops.2 _ hm) (by omega)
        have := (numL_all ks).1 hk.num _ hm
        generalize ks[k] = p at *
        obtain ⟨h, ks⟩ := p
        exact this.1)
    have hko : ∀ k ∈ ks, 1 ≤ k.hd.op ∧ k.hd.op ≤ 7 := fun k hm => by
      have h1 := hops.2 k hm
      obtain ⟨h, ks⟩ := k
      have h2 := (one_ops h1).1
      show 1 ≤ h.op ∧ h.op ≤ 7
      omega
    rcases hops.1 with h1 | ⟨h2, hc1, hc6⟩ | h3 | h4 | ⟨h5, hk1⟩ | h6 | h7
    · exact rtext13_any hd ks t w (.inl h1) hls.2.1
    · exact rtext2_any hd ks t w h2 ⟨hc1, hc6⟩ hb hls.2.1 hls.2.2.2.1
    · exact rtext13_any hd ks t w (.inr h3) hls.2.1
    · exact rtext4_any hd ks t w h4 hls.2.1 hls.2.2.1
    · exact rtext5_any hd ks t w h5 hk hk1 hko hkl IH
    · exact rtext6_any hd ks t w h6 hk hls.1 (by omega) hkl IH
    · exact rtext7_any hd ks t w h7 hk hls.1 (by omega) hkl IH
set_option maxHeartbeats 2000000 in
theorem rpText_any (h : Ph) (t : Kv) (ks : List Pd) (w : World) (hk : Kd w t ks) (hb : I64b h.val.num) (hlen : lenP (.mk h ks) = true) :
    Calls Tryd.prog 15 #[pdV h t] w fun e w' => e = .returned (.string ⟨(TextP (.mk h ks)).toArray⟩) ∧ Fr Non w w' := by
  have F0 : Fr Non w (w.alloc (.cells (pdC h t) 27)) := (Fr.refl Non w).alloc _
  have M1 := Lib.hid (rpmay_any h t ks _ (hk.non F0) hlen)
  have PB := Lib.hid (pd_new w _ h t rfl)
  have C1 : Hid (mayP (.mk h ks) = true → ∀ W, Fr Non w W → Calls Tryd.prog 34 #[pdV h t] W fun e w' => e = .returned (.string ⟨(textP (.mk h ks)).toArray⟩) ∧ Fr Non W w') := Lib.hid (fun e W hf => by
    unfold mayP at e
    rw [Bool.and_eq_true, decide_eq_true_eq] at e
    exact rptext_any (.mk h ks) t W (hk.non hf) hb hlen e.2 e.1.1)
  have HE0 : Hid (TextP (.mk h ks) = if mayP (.mk h ks) = true then textP (.mk h ks) else []) := Lib.hid rfl
  generalize TextP (.mk h ks) = r at *
  generalize textP (.mk h ks) = tx at *
  generalize mayP (.mk h ks) = b at *
  have F0 := Lib.hid F0
  clear hk hlen
  obtain ⟨ho, hc, hm, ⟨vn, vi, vt⟩, hkd, hp⟩ := h
  obtain ⟨A, nn, c⟩ := t
  unfold pdV pdC kidV at *
  dsimp only at *
  cases b
  · have HE : Hid (r = []) := Lib.hid (by rw [HE0.out, if_neg (by simp)])
    clear HE0 C1
    go_enter Tryd.func15, Tryd.ntmps15
    go_wp2_with fail
    refine M1.out.mono ?_
    rintro e w1 ⟨rfl, f1⟩
    go_wp2
    go_ret
    exact ⟨by rw [HE.out]; rfl, F0.out.trans f1⟩
  · have HE : Hid (r = tx) := Lib.hid (by rw [HE0.out, if_pos rfl])
    have C2 := Lib.hid (C1.out rfl)
    clear HE0 C1
    go_enter Tryd.func15, Tryd.ntmps15
    go_wp2_with fail
    refine M1.out.mono ?_
    rintro e w1 ⟨rfl, f1⟩
    obtain ⟨g0, g1, g2, g3, g4, g5, g6, g7, g8⟩ := pdB_cells (PB.out.fr f1 (fun e => e))
    dsimp only at g0 g1 g2 g3 g4 g5 g6 g7 g8
    have F1 := Lib.hid (F0.out.trans f1)
    clear f1
    go_wp2_with fail
    refine (C2.out _ F1.out).mono ?_
    rintro e w2 ⟨rfl, f2⟩
    go_wp2
    go_ret
    exact ⟨by rw [HE.out]; rfl, F1.out.trans f2⟩
end Go.Proofs.YteagbddejbjmfaaDoor


namespace Go.Proofs.YteagbddejbjmfaaDoor
set_option linter.unusedVariables false
set_option linter.unusedSimpArgs false
set_option maxRecDepth 100000
open Go.RowKit

theorem take_neS {α : Type} {a b : List α} {k : Nat} (hk : k < a.length) (hk2 : k < b.length) (h : a[k] ≠ b[k]) : a ≠ b := by
  intro e; subst e; exact h rfl
theorem take_eqS {α : Type} {a b : List α} {k : Nat} (hk : k < a.length) (hk2 : k < b.length) (h : a.take k = b.take k) (he : a[k] = b[k]) : a.take (k + 1) = b.take (k + 1) := by
  rw [List.take_succ_eq_append_getElem hk, List.take_succ_eq_append_getElem hk2, h, he]

end Go.Proofs.YteagbddejbjmfaaDoor


namespace Go.Proofs.YteagbddejbjmfaaDoor
set_option linter.unusedVariables false
set_option linter.unusedSimpArgs false
set_option maxRecDepth 100000
open Go.ChangeShapes Go.WideShapes Go.ChangeAt Go.RowKit

set_option maxHeartbeats 1000000 in
theorem names_any (v1 v2 : Value) (l1 l2 : List (List UInt8)) (w : World) (h1 : Vs sv w v1 l1) (h2 : Vs sv w v2 l2) (hl1 : l1.length ≤ 9223372036854775807) :
    Calls Tryd.prog 18 #[v1, v2] w fun e w' => e = .returned (.bool (l1 == l2)) ∧ Fr Non w w' := by
  obtain ⟨A1, c1, rfl, hc1, hn1, hcell1⟩ := h1
  obtain ⟨A2, c2, rfl, hc2, hn2, hcell2⟩ := h2
  have HN1 := Lib.hid hn1
  have HN2 := Lib.hid hn2
  have HC1 := Lib.hid hcell1
  have HC2 := Lib.hid hcell2
  clear hn1 hn2 hcell1 hcell2
  by_cases hlen : l1.length = l2.length
  · have HL := Lib.hid hlen
    have hb : ((l1.length : Int) != l2.length) = false := by rw [hlen]; simp
    have hle : l1.length ≤ l2.length := by omega
    have hge : l2.length ≤ l1.length := by omega
    clear hlen
    go_enter Tryd.func18, Tryd.ntmps18
    go_wp2
    go_loopw [5] (fun i wr => ∃ k : Nat, k ≤ l1.length ∧ i = .int .i64 k ∧ Hid (l1.take k = l2.take k) ∧ ∃ n, wr = w.drewN n) (fun i _ => l1.length - (intOf i).toNat)
    case atStart => exact ⟨0, Nat.zero_le _, rfl, Lib.hid rfl, 0, rfl⟩
    case round =>
      obtain ⟨k, hk, rfl, HT, n, rfl⟩ := hrel
      by_cases hlt : k < l1.length
      · cases A1 with
        | none => have := HN1.out rfl; omega
        | some a1 =>
          cases A2 with
          | none => have := HN2.out rfl; omega
          | some a2 =>
            have g1 : w.cell? (a1.add k) = some (sv l1[k]) := HC1.out a1 rfl k hlt
            have g2 : w.cell? (a2.add k) = some (sv (l2[k]'(by omega))) := HC2.out a2 rfl k (by omega)
            unfold sv at g1 g2
            by_cases he : l1[k] = l2[k]'(by omega)
            · have HE := Lib.hid (take_eqS hlt (by omega) HT.out he)
              rw [← he] at g2
              clear he
              generalize l1[k] = x at *
              go_wp2
              go_quiet (fail)
              go_wp2
              go_roundw
              case rel => exact ⟨k + 1, by omega, by go_num, HE, _, rfl⟩
              case measure => simp [intOf]; omega
            · have HE := Lib.hid (take_neS hlt (by omega) he)
              have hx : (l1[k] == l2[k]'(by omega)) = false := by rw [beq_eq_false_iff_ne]; exact he
              clear he
              generalize l1[k] = x at *
              generalize l2[k]'(by omega) = y at *
              go_wp2
              go_quiet (fail)
              go_wp2
              go_ret
              exact ⟨ret_boolE (beq_eq_false_iff_ne.2 HE.out).symm, ((Fr.refl _ _).drewN _).drewN _⟩
      · have HE : Hid (l1 = l2) := Lib.hid (by
          have := HT.out
          rwa [List.take_of_length_le (by omega), List.take_of_length_le (by omega)] at this)
        go_wp2
        go_ret
        exact ⟨ret_boolE (beq_iff_eq.2 HE.out).symm, (Fr.refl _ _).drewN _⟩
  · have hb : ((l1.length : Int) != l2.length) = true := by rw [bne_iff_ne]; omega
    have HE : Hid (l1 ≠ l2) := Lib.hid (fun e => hlen (by rw [e]))
    clear hlen
    go_enter Tryd.func18, Tryd.ntmps18
    go_wp2
    go_ret
    exact ⟨ret_boolE (beq_eq_false_iff_ne.2 HE.out).symm, Fr.refl _ _⟩
end Go.Proofs.YteagbddejbjmfaaDoor


namespace Go.Proofs.YteagbddejbjmfaaDoor
set_option linter.unusedVariables false
set_option linter.unusedSimpArgs false
set_option maxRecDepth 100000
open Go.RowKit

/-! ### Asked of all: what is handed on may lie anew each time; of the predicates a condition -/
def AskEndQ {σ : Type} (R : World → σ → (Nat → Prop) → Prop) (r : Option σ) (X : Nat → Prop) (W : World) (e : Ending) (w' : World) : Prop :=
  e = .returned (.bool r.isSome) ∧ Fr X W w' ∧ ∀ s', r = some s' → ∃ X', R w' s' X'
def AskEndA {σ : Type} (R : World → σ → (Nat → Prop) → Prop) (r : Option σ) (w0 : World) (e : Ending) (w' : World) : Prop :=
  e = .returned (.bool r.isSome) ∧ Fr Non w0 w' ∧ ∀ s', r = some s' → ∃ X', R w' s' X'
def AsksQ {σ : Type} (R : World → σ → (Nat → Prop) → Prop) (f : σ → Pd → Nat → Option σ) (F g : Nat) (w0 : World) (P : Pd → Prop) : Prop :=
  ∀ (W : World) (s : σ) (X : Nat → Prop) (p : Pd) (t : Kv) (d : Nat) (dz : Int), dz = d → Fr Non w0 W → R W s X → Kd w0 t p.kids → I64b p.hd.val.num → lenP p = true → d + depP p ≤ 1000 → P p →
    Calls Tryd.prog F #[pdV p.hd t, .int .i64 dz, .pointer (some ⟨g, 0, none⟩)] W (AskEndQ R (f s p d) X W)
set_option maxHeartbeats 4000000 in
theorem allq_any {σ : Type} (R : World → σ → (Nat → Prop) → Prop) (f : σ → Pd → Nat → Option σ) (F g : Nat) (w0 : World)
    (hlt : ∀ W s X, R W s X → ∀ q, X q → w0.heap.size ≤ q ∧ q < W.heap.size) (hR : ∀ W W' s X, R W s X → Fr Non W W' → R W' s X) (hcf : ∀ args W, (callFunc F args).run Tryd.prog W = .ok (.enter F args) W) (P : Pd → Prop) (hP : ∀ h ks, P (.mk h ks) → ∀ k ∈ ks, P k) (hask : AsksQ R f F g w0 P) (p : Pd) :
    ∀ (W : World) (s : σ) (X : Nat → Prop) (t : Kv) (d : Nat) (dz : Int), dz = d → Fr Non w0 W → R W s X → Kd w0 t p.kids → I64b p.hd.val.num → lenP p = true → d + depP p ≤ 1000 → P p →
    Calls Tryd.prog 23 #[pdV p.hd t, .int .i64 dz, .func (.func F) #[] #[.pointer (some ⟨g, 0, none⟩)]] W (AskEndA R (allP f p s d) w0) := by
  induction p using Pd.ind with
  | h hd ks ih =>
    intro W s X t d dz hdz hF hr hk hb hlen hdep hPp
    subst hdz
    have hn : t.n = ks.length := hk.len
    have hls := (lenP_mk hlen).1
    have hdd : d ≤ 999 := by have := dep_pos (.mk hd ks); omega
    have F1 : Fr Non W (W.alloc (.cells (pdC hd t) 27)) := (Fr.refl Non W).alloc _
    have hr1 := hR _ _ _ _ hr F1
    have A1 := hask _ s X (.mk hd ks) t d (d : Int) rfl (hF.trans F1) hr1 hk hb hlen hdep hPp
    have hXb : ¬ X W.heap.size := fun h => by have := (hlt _ _ _ hr _ h).2; omega
    have B0 := Lib.hid (pd_new W _ hd t rfl)
    have HS : Hid (allP f (.mk hd ks) s d = (f s (.mk hd ks) d).bind fun s' => allL f ks s' (d + 1)) := Lib.hid (by rw [allP])
    generalize f s (.mk hd ks) d = r at *
    generalize allP f (.mk hd ks) s d = r0 at *
    have IH : Hid (∀ k (h : k < ks.length) (W' : World) (s' : σ) (X' : Nat → Prop) (t' : Kv), Fr Non w0 W' → R W' s' X' → Kd w0 t' ks[k].kids → I64b ks[k].hd.val.num →
        Calls Tryd.prog 23 #[pdV ks[k].hd t', .int .i64 ((d : Int) + 1), .func (.func F) #[] #[.pointer (some ⟨g, 0, none⟩)]] W' (AskEndA R (allP f ks[k] s' (d + 1)) w0)) :=
      Lib.hid (fun k h W' s' X' t' a b c e => ih _ (List.getElem_mem h) W' s' X' t' (d + 1) _ (by simp) a b c e ((lenP_mk hlen).2.2.2.2 _ (List.getElem_mem h)) (by
        rw [depP] at hdep
        have := depL_mem (List.getElem_mem h)
        omega) (hP hd ks hPp _ (List.getElem_mem h)))
    have HKd : Hid (Kd w0 t ks) := Lib.hid hk
    have HF := Lib.hid hF
    have HLT := Lib.hid hlt
    have HR := Lib.hid hR
    have HR0 := Lib.hid hr
    have HF1 := Lib.hid F1
    clear ih hk hb hlen hdep hask hlt hR hr hr1 hF F1 hPp hP
    obtain ⟨ho, hc, hm, ⟨vn, vi, vt⟩, hkd, hp⟩ := hd
    obtain ⟨A, n, c⟩ := t
    dsimp only at hn
    subst hn
    unfold pdV pdC kidV at A1 ⊢
    dsimp only [Pd.hd, Pd.kids] at A1 ⊢
    have A1 := Lib.hid A1
    go_enter Tryd.func23, Tryd.ntmps23
    go_wp2_with fail
    refine A1.out.mono ?_
    rintro e w1 ⟨rfl, f1, hs1⟩
    have HS1 := Lib.hid hs1
    have g8 := (B0.out.fr f1 hXb).cell 8
    simp [pdC, kidV] at g8
    have FX : Hid (Fr Non w0 w1) := Lib.hid ((HF.out.trans HF1.out).fresh f1 (fun q hq => (HLT.out _ _ _ HR0.out q hq).1))
    clear hs1 f1 A1 hXb
    cases r with
    | none =>
      have HE : Hid (r0 = none) := Lib.hid (by rw [HS.out]; rfl)
      go_wp2
      go_ret
      exact ⟨by rw [HE.out]; rfl, FX.out, fun s' h => by rw [HE.out] at h; cases h⟩
    | some s1 =>
      have HE : Hid (r0 = allL f ks s1 (d + 1)) := Lib.hid (by rw [HS.out]; rfl)
      clear HS
      obtain ⟨X1, hr1⟩ := HS1.out s1 rfl
      have HR1 := Lib.hid hr1
      clear hr1 HS1
      go_wp2
      go_loopw [17] (fun i wr => ∃ (k : Nat) (sk : σ) (Xk : Nat → Prop), k ≤ ks.length ∧ i = .int .i64 k ∧ Hid (r0 = allL f (ks.drop k) sk (d + 1)) ∧ Hid (R wr sk Xk) ∧ Hid (Fr Non w0 wr)) (fun i _ => ks.length - (intOf i).toNat)
      case atStart => exact ⟨0, s1, X1, Nat.zero_le _, rfl, HE, HR1, FX⟩
      case round =>
        clear HE HR1 FX g8
        obtain ⟨k, sk, Xk, hk, rfl, HE, HR1, FX⟩ := hrel
        have hFw := FX
        by_cases hlt : k < ks.length
        · obtain ⟨a, t, hA, hc2, hkk, hbb⟩ := HKd.out.el k hlt
          have hc3 : PCells wr (a.add (k * 9)) ks[k].hd t := by
            obtain ⟨a', t', hA', hc', _, _⟩ := (HKd.out.non hFw.out).el k hlt
            dsimp only at hA hA'
            obtain rfl := Option.some.inj (hA.symm.trans hA')
            have e : t' = t := by
              have x1 := hc'.2.2.2.2.2.2.2.2
              have x2 := hc2.2.2.2.2.2.2.2.2
              have hbl : (a.add (k * 9)).block < w0.heap.size := World.block_lt_of_cell? w0 _ hc2.1
              have x3 := hFw.out.cell (p := { block := (a.add (k * 9)).block, off := (a.add (k * 9)).off + 8 }) hbl (fun e => e)
              rw [x3, x2] at x1
              simp only [Option.some.injEq, Value.slice.injEq] at x1
              obtain ⟨y1, y2, y3⟩ := x1
              cases t; cases t'; simp_all
            rw [e] at hc'; exact hc'
          clear hc2
          dsimp only at hA
          subst hA
          obtain ⟨c0, c1, c2, c3, c4, c5, c6, c7, c8⟩ := hc3
          have HC := Lib.hid (fun W' s' X' a b => IH.out k hlt W' s' X' t a b hkk hbb)
          have HY := Lib.hid (HE.out.trans (allL_at hlt sk (d + 1)))
          clear hkk hbb HE
          generalize allP f ks[k] = ff at *
          generalize ks[k].hd = x at *
          obtain ⟨xo, xc, xm, ⟨xn, xi, xt⟩, xk, xp⟩ := x
          obtain ⟨tA, tn, tc⟩ := t
          dsimp only at c0 c1 c2 c3 c4 c5 c6 c7 c8
          have G1 := Lib.hid ((Fr.refl Non wr).alloc (.cells #[.int .i64 xo, .string ⟨xc.toArray⟩, .int .i64 xm, .bool xn, .int .i64 xi, .string ⟨xt.toArray⟩, .int .i64 xk, .string ⟨xp.toArray⟩, .slice tA tn tc] 27))
          have HC2 := Lib.hid (HC.out _ sk Xk (hFw.out.trans G1.out) (HR.out _ _ _ _ HR1.out G1.out))
          clear HC
          unfold pdV pdC kidV at HC2
          dsimp only at HC2
          generalize ff sk (d + 1) = rr at *
          go_wp2_with fail
          refine HC2.out.mono ?_
          rintro e w2 ⟨rfl, f2, hs2⟩
          have HS2 := Lib.hid hs2
          have FX2 : Hid (Fr Non w0 w2) := Lib.hid f2
          clear hs2 f2 HC2
          cases rr with
          | none =>
            have HE : Hid (r0 = none) := Lib.hid HY.out
            clear HY HS2
            go_wp2
            go_ret
            exact ⟨by rw [HE.out]; rfl, FX2.out, fun s' h => by rw [HE.out] at h; cases h⟩
          | some s2 =>
            obtain ⟨X2, hr2⟩ := HS2.out s2 rfl
            have HE : Hid (r0 = allL f (ks.drop (k + 1)) s2 (d + 1)) := Lib.hid HY.out
            have HR2 := Lib.hid hr2
            clear HY HS2 hr2
            go_wp2
            go_roundw
            case rel => exact ⟨k + 1, s2, X2, by omega, by go_num, HE, HR2, FX2⟩
            case measure => simp [intOf]; omega
        · have HE2 : Hid (r0 = some sk) := Lib.hid (HE.out.trans (allL_end (by omega) sk (d + 1)))
          clear HE
          go_wp2
          go_ret
          exact ⟨by rw [HE2.out]; rfl, FX.out, fun s' h => by
            rw [HE2.out] at h
            obtain rfl := Option.some.inj h
            exact ⟨Xk, HR1.out⟩⟩

/-! ### Which names there are -/
mutual
def namP : Pd → List Tx | .mk h ks => h.col :: namL ks
def namL : List Pd → List Tx | [] => [] | k :: r => namP k ++ namL r
end
theorem namL_mem {l : List Pd} {k : Pd} (h : k ∈ l) : ∀ x ∈ namP k, x ∈ namL l := by
  induction l with
  | nil => cases h
  | cons y r ih =>
    intro x hx
    rw [namL, List.mem_append]
    rcases List.mem_cons.1 h with rfl | h
    · exact .inl hx
    · exact .inr (ih h x hx)
theorem nam_len (p : Pd) : (namP p).length = cntP p := by
  induction p using Pd.ind with
  | h hd ks ih =>
    have hL : ∀ (l : List Pd), (∀ k ∈ l, k ∈ ks) → (namL l).length = cntL l := by
      intro l
      induction l with
      | nil => intro _; rw [namL, cntL]; rfl
      | cons k r ih2 => intro hm; rw [namL, cntL, List.length_append, ih k (hm k (List.mem_cons_self ..)), ih2 (fun x hx => hm x (List.mem_cons_of_mem _ hx))]
    rw [namP, cntP, List.length_cons, hL ks (fun _ h => h)]; omega
theorem nodup_sub (l U : List Tx) (h1 : l.Nodup) (h2 : ∀ x ∈ l, x ∈ U) : l.length ≤ U.length := by
  induction l generalizing U with
  | nil => simp
  | cons x l ih =>
    rw [List.nodup_cons] at h1
    have hx := h2 x (List.mem_cons_self ..)
    have := ih (U.erase x) h1.2 (fun y hy => by
      have hne : y ≠ x := fun e => h1.1 (e ▸ hy)
      exact (List.mem_erase_of_ne hne).2 (h2 y (List.mem_cons_of_mem _ hy)))
    rw [List.length_erase_of_mem hx] at this
    have := List.length_pos_of_mem hx
    rw [List.length_cons]; omega
theorem addC_no {l : List Tx} {h : Ph} (e : h.col = [] ∨ h.col ∈ l) : addC l h = l := by unfold addC; rw [if_pos e]
theorem addC_yes {l : List Tx} {h : Ph} (e1 : ¬ h.col = []) (e2 : ¬ h.col ∈ l) : addC l h = l ++ [h.col] := by unfold addC; rw [if_neg (by rintro (e | e); exact e1 e; exact e2 e)]

/-! ### Where a text is -/
set_option maxHeartbeats 2000000 in
theorem pidxs_any (v : Value) (l : List Tx) (x : Tx) (w : World) (hv : Vs sv w v l) (hl : l.length ≤ 1000) :
    Calls Tryd.prog 58 #[v, .string ⟨x.toArray⟩] w fun e w' => ∃ z : Int, e = .returned (.int .i64 z) ∧ decide (0 ≤ z) = decide (x ∈ l) ∧ Fr Non w w' := by
  obtain ⟨A, c, rfl, hlc, hn, hcell⟩ := hv
  have HC := Lib.hid hcell
  have HN := Lib.hid hn
  clear hcell hn
  go_enter Tryd.func58, Tryd.ntmps58
  go_wp2
  go_loopw [8] (fun i wr => ∃ (k : Nat), k ≤ l.length ∧ i = .int .i64 k ∧ Hid (∀ j (h : j < l.length), j < k → l[j] ≠ x) ∧ Hid (Fr Non w wr)) (fun i _ => l.length - (intOf i).toNat)
  case atStart => exact ⟨0, Nat.zero_le _, rfl, Lib.hid (fun _ _ h => by omega), Lib.hid (Fr.refl _ _)⟩
  case round =>
    obtain ⟨k, hk, rfl, HT, FR⟩ := hrel
    by_cases hlt : k < l.length
    · cases A with
      | none => have := HN.out rfl; omega
      | some a =>
        have c0 := (FR.out.cell (World.block_lt_of_cell? _ _ (HC.out a rfl k hlt)) (fun e => e)).trans (HC.out a rfl k hlt)
        unfold sv at c0
        have HX : Hid (l[k] = x → x ∈ l) := Lib.hid (fun e => by rw [← e]; exact List.getElem_mem hlt)
        have HY : Hid (l[k] ≠ x → ∀ j (h : j < l.length), j < k + 1 → l[j] ≠ x) := Lib.hid (fun e j hj hjk => by
          by_cases ee : j = k
          · subst ee; exact e
          · exact HT.out j hj (by omega))
        clear HT
        generalize l[k] = y at *
        by_cases he : y = x
        · have HE := Lib.hid (HX.out he)
          subst he
          clear HX HY
          go_wp2
          go_ret
          exact ⟨_, rfl, by rw [decide_eq_true HE.out]; exact decide_eq_true (by omega), FR.out⟩
        · have hb : (x == y) = false := by rw [beq_eq_false_iff_ne]; exact fun e => he e.symm
          have HE := Lib.hid (HY.out he)
          clear HX HY he
          go_wp2
          go_roundw
          case rel => exact ⟨k + 1, by omega, by go_num, HE, FR⟩
          case measure => simp [intOf]; omega
    · have HE : Hid (¬ x ∈ l) := Lib.hid (fun hx => by
        obtain ⟨j, hj, e⟩ := List.mem_iff_getElem.1 hx
        exact HT.out j hj (by omega) e)
      clear HT
      go_wp2
      go_ret
      exact ⟨_, rfl, by rw [decide_eq_false HE.out]; rfl, FR.out⟩
theorem pconts_any (v : Value) (l : List Tx) (x : Tx) (w : World) (hv : Vs sv w v l) (hl : l.length ≤ 1000) :
    Calls Tryd.prog 41 #[v, .string ⟨x.toArray⟩] w fun e w' => e = .returned (.bool (decide (x ∈ l))) ∧ Fr Non w w' := by
  have h0 := Lib.hid (pidxs_any v l x w hv hl)
  obtain ⟨A, c, rfl⟩ := hv.shape
  clear hv
  go_enter Tryd.func41, Tryd.ntmps41
  go_wp2_with fail
  refine h0.out.mono ?_
  rintro e w1 ⟨z, rfl, hz, f1⟩
  go_wp2
  go_ret
  exact ⟨rfl, f1⟩

/-! ### The program's -/
/-- the names' variable lies in block g -/
def RcC (w0 : World) (g : Nat) (U : List Tx) (W : World) (l : List Tx) (X : Nat → Prop) : Prop :=
  w0.heap.size ≤ g ∧ l.Nodup ∧ (∀ x ∈ l, x ∈ U) ∧ ∃ v, Blk W g 40 #[v] ∧ Ow sv 9 W w0.heap.size v l ∧ X = fun q => q = g ∨ v.ownBlock = some q
theorem str_ne_strs : 9 ≠ 40 := by decide
theorem ow_other2 {α : Type} {f : α → Value} {E t : TypeId} {w : World} {B g : Nat} {v : Value} {l : List α} {cs : Array Value} (h : Ow f E w B v l) (hb : Blk w g t cs) (hne : E ≠ t) : ∀ k, v.ownBlock = some k → k ≠ g := by
  rintro k hk rfl
  obtain ⟨cur, h1⟩ := h.kind k hk
  unfold Blk at hb
  rw [hb] at h1
  simp at h1
  exact hne h1.2.symm
set_option maxHeartbeats 4000000 in
theorem cols1_any (w0 : World) (g : Nat) (U : List Tx) (hU : U.length ≤ 500) : AsksQ (RcC w0 g U) stepC 40 g w0 (fun p => p.hd.col = [] ∨ p.hd.col ∈ U) := by
  intro W l X p t d dz hdz hF hr hk hb hlen hdep hPp
  subst hdz
  obtain ⟨h, ks⟩ := p
  obtain ⟨hg0, hnd, hsub, v, hB, hO, rfl⟩ := hr
  dsimp only [Pd.hd, Pd.kids] at hk hb hPp ⊢
  have hll := nodup_sub l U hnd hsub
  have F0 : Fr Non W (W.alloc (.cells (pdC h t) 27)) := (Fr.refl Non W).alloc _
  have hgl := hB.lt
  have HB1 := Lib.hid (hB.fr F0 (fun e => e))
  have HO1 := Lib.hid (hO.non F0)
  have PB := Lib.hid (pd_new W _ h t rfl)
  have hc0 := HB1.out.cell 0
  simp at hc0
  have HC := Lib.hid (pconts_any v l h.col _ HO1.out.vs (by omega))
  have HN := Lib.hid (fun e => addC_no (l := l) (h := h) e)
  have HY := Lib.hid (fun e f => addC_yes (l := l) (h := h) e f)
  have HP := Lib.hid hPp
  have HND := Lib.hid hnd
  have HSB := Lib.hid hsub
  have HS : Hid (stepC l (.mk h ks) d = some (addC l h)) := Lib.hid rfl
  obtain ⟨vA, vc, hve⟩ := hO.shape
  have HO := Lib.hid hO
  have HF0 := Lib.hid F0
  have HB := Lib.hid hB
  generalize stepC l _ d = r at *
  generalize addC l h = al at *
  clear hk hlen hdep hB F0 hF hnd hsub hO hPp
  obtain ⟨ho, hc, hm, ⟨vn, vi, vt⟩, hkd, hp⟩ := h
  obtain ⟨A, nn, c⟩ := t
  subst hve
  dsimp only at HC HN HY HP
  unfold pdV
  unfold pdC kidV at *
  dsimp only at *
  by_cases h0 : hc = []
  · have HE := Lib.hid (HN.out (.inl h0))
    subst h0
    clear HC HN HY
    go_enter Tryd.func40, Tryd.ntmps40
    go_wp2
    go_ret
    refine ⟨by rw [HS.out]; rfl, HF0.out.any, fun s' hs => ?_⟩
    rw [HS.out, HE.out] at hs
    obtain rfl := Option.some.inj hs
    exact ⟨_, hg0, HND.out, HSB.out, _, HB1.out, HO1.out, rfl⟩
  · have hb1 : (hc == []) = false := by rw [beq_eq_false_iff_ne]; exact h0
    by_cases hi : hc ∈ l
    · have HE := Lib.hid (HN.out (.inr hi))
      simp only [decide_eq_true hi] at HC
      clear HN HY hi h0
      go_enter Tryd.func40, Tryd.ntmps40
      go_wp2_with fail
      refine HC.out.mono ?_
      rintro e w1 ⟨rfl, f1⟩
      go_wp2
      go_ret
      refine ⟨by rw [HS.out]; rfl, (HF0.out.trans f1).any, fun s' hs => ?_⟩
      rw [HS.out, HE.out] at hs
      obtain rfl := Option.some.inj hs
      exact ⟨_, hg0, HND.out, HSB.out, _, HB1.out.fr f1 (fun e => e), HO1.out.non f1, rfl⟩
    · have HE := Lib.hid (HY.out h0 hi)
      have HND2 : Hid ((l ++ [hc]).Nodup) := Lib.hid (by
        rw [List.nodup_append]
        refine ⟨HND.out, by simp, ?_⟩
        intro a ha b hb
        obtain rfl := List.mem_singleton.1 hb
        exact fun e => hi (e ▸ ha))
      have HSB2 : Hid (∀ x ∈ l ++ [hc], x ∈ U) := Lib.hid (fun x hx => by
        rcases List.mem_append.1 hx with hx | hx
        · exact HSB.out x hx
        · obtain rfl := List.mem_singleton.1 hx
          exact HP.out.resolve_left h0)
      simp only [decide_eq_false hi] at HC
      clear HN HY hi h0 HP
      go_enter Tryd.func40, Tryd.ntmps40
      go_wp2_with fail
      refine HC.out.mono ?_
      rintro e w1 ⟨rfl, f1⟩
      have HB2 := Lib.hid (HB1.out.fr f1 (fun e => e))
      have HO2 := Lib.hid (HO1.out.non f1)
      have c0 := HB2.out.cell 0
      simp at c0
      have g1 := (PB.out.fr f1 (fun e => e)).cell 1
      simp [pdC] at g1
      have F1 := Lib.hid (HF0.out.trans f1)
      have hsz : w0.heap.size ≤ w1.heap.size := by have := F1.out.size; omega
      clear f1 hc0
      go_wp2_with (at_builtin; refine wpList_pushG el_str sv_one rfl (.tmp 16) (.tmp 19) rfl w0.heap.size _ l rfl HO2.out _ hc rfl rfl (by omega) hsz ?_; intro v3 w3 hown3 hfr3; obtain ⟨A3, c3, hv3⟩ := hown3.shape; rw [show (l ++ [hc]).length = l.length + 1 by simp] at hv3; subst hv3; have HO3 := Lib.hid hown3; have HB3 := Lib.hid (HB2.out.fr hfr3 (fun e => ow_other2 HO2.out HB2.out str_ne_strs g e rfl)); have fz := HB3.out.frozen 0; have cz := HB3.out.cell 0; simp at cz; have F3 := Lib.hid hfr3; have hg3 := HB3.out.lt; clear hown3 hfr3)
      go_ret
      refine ⟨by rw [HS.out]; rfl, ?_, fun s' hs => ?_⟩
      · exact (F1.out.any.trans (F3.out.mono (fun q _ e => .inr e))).setCell (fun _ => .inl rfl) _
      · rw [HS.out, HE.out] at hs
        obtain rfl := Option.some.inj hs
        exact ⟨_, hg0, HND2.out, HSB2.out, _, HB3.out.set 0 _, HO3.out.fr ((Fr.refl (One g) _).set1 0 _) (fun q hq e => ow_other2 HO3.out HB3.out str_ne_strs q hq e), rfl⟩

set_option maxHeartbeats 4000000 in
theorem pcols_any (h : Ph) (t : Kv) (ks : List Pd) (w : World) (hk : Kd w t ks) (hb : I64b h.val.num) (hlen : lenP (.mk h ks) = true) (hdep : depP (.mk h ks) ≤ 9) (hmay : mayP (.mk h ks) = true) :
    Calls Tryd.prog 19 #[pdV h t] w fun e w' => ∃ v, e = .returned v ∧ Vs sv w' v (colP [] (.mk h ks)) ∧ Fr Non w w' := by
  have F0 : Fr Non w (w.alloc (.cells (pdC h t) 27)) := (Fr.refl Non w).alloc _
  have M1 := pmay_any h t ks _ (hk.non F0) hb hlen hdep
  rw [hmay] at M1
  have M1 := Lib.hid M1
  have PB := Lib.hid (pd_new w _ h t rfl)
  have hcnt : cntP (.mk h ks) ≤ 16 := by
    unfold mayP at hmay
    rw [Bool.and_eq_true, decide_eq_true_eq] at hmay
    exact hmay.1.1
  have HA : Hid (∀ (W : World) (g : Nat), Fr Non w W → w.heap.size ≤ g → Blk W g 40 #[.slice none 0 0] →
      Calls Tryd.prog 23 #[pdV h t, .int .i64 1, .func (.func 40) #[] #[.pointer (some ⟨g, 0, none⟩)]] W fun e w' => e = .returned (.bool true) ∧ Fr Non w w' ∧ ∃ v, Blk w' g 40 #[v] ∧ Vs sv w' v (colP [] (.mk h ks))) := Lib.hid (fun W g hF hg hB => by
    have h0 := allq_any (RcC w g (namP (.mk h ks))) stepC 40 g w
      (fun W s X hr q hq => by
        obtain ⟨h1, _, _, v, h2, h3, rfl⟩ := hr
        rcases hq with hq | hq
        · subst hq; exact ⟨h1, h2.lt⟩
        · exact h3.lt q hq)
      (fun W W' s X hr hf => by
        obtain ⟨h1, h2, h3, v, h4, h5, h6⟩ := hr
        exact ⟨h1, h2, h3, v, h4.fr hf (fun e => e), h5.non hf, h6⟩) Tryd.call40
      (fun p => ∀ x ∈ namP p, x ∈ namP (.mk h ks)) (fun h' ks' hp k hm x hx => hp x (by rw [namP]; exact List.mem_cons_of_mem _ (namL_mem hm x hx)))
      (fun W s X p t d dz a1 a2 a3 a4 a5 a6 a7 a8 => cols1_any w g (namP (.mk h ks)) (by rw [nam_len]; omega) W s X p t d dz a1 a2 a3 a4 a5 a6 a7 (.inr (a8 _ (by obtain ⟨h, ks⟩ := p; rw [namP]; exact List.mem_cons_self ..))))
      (.mk h ks) W [] (fun q => q = g ∨ (Value.slice none 0 0).ownBlock = some q) t 1 1 rfl hF ⟨hg, List.nodup_nil, (fun x hx => by cases hx), _, hB, ow_nil _ _, rfl⟩ hk hb hlen (by omega) (fun x hx => hx)
    refine h0.mono ?_
    rintro e w' ⟨rfl, f1, hs⟩
    rw [allC] at hs ⊢
    obtain ⟨X', _, _, _, v, h2, h3, _⟩ := hs _ rfl
    exact ⟨rfl, f1, v, h2, h3.vs⟩)
  have hmf : ∀ (fn : Fn) (first cap : Array Value) (w : World), (Instr.makeFunc fn first cap).run Tryd.prog w = .ok (.func fn first cap) w := fun _ _ _ _ => rfl
  generalize colP [] (.mk h ks) = cl at *
  have HF := Lib.hid F0
  clear hk hlen hdep hmay hcnt F0
  obtain ⟨ho, hc, hm, ⟨vn, vi, vt⟩, hkd, hp⟩ := h
  obtain ⟨A, nn, c⟩ := t
  unfold pdV pdC kidV at M1 HA ⊢
  dsimp only at M1 HA ⊢
  go_enter Tryd.func19, Tryd.ntmps19
  go_wp2_with fail
  refine M1.out.mono ?_
  rintro e w1 ⟨rfl, f1⟩
  have F1 := Lib.hid (HF.out.trans f1)
  have G1 := Lib.hid ((Fr.refl Non w1).alloc (.cells #[.slice none 0 0] 40))
  have PB1 := Lib.hid ((PB.out.fr f1 (fun e => e)).fr G1.out (fun e => e))
  obtain ⟨g0, g1, g2, g3, g4, g5, g6, g7, g8⟩ := pdB_cells PB1.out
  dsimp only at g0 g1 g2 g3 g4 g5 g6 g7 g8
  have HB := Lib.hid (HA.out _ w1.heap.size (F1.out.trans G1.out) F1.out.size (Blk.new w1 40 #[.slice none 0 0]))
  clear f1 M1 HA
  go_wp2_with fail
  refine HB.out.mono ?_
  rintro e w2 ⟨rfl, f2, v, hbv, hvs⟩
  have c0 := hbv.cell 0
  simp at c0
  obtain ⟨vA, vc, rfl⟩ := hvs.shape
  have HVS := Lib.hid hvs
  clear hvs hbv
  go_wp2
  go_ret
  exact ⟨_, rfl, HVS.out, f2⟩
end Go.Proofs.YteagbddejbjmfaaDoor


namespace Go.Proofs.YteagbddejbjmfaaDoor
set_option linter.unusedVariables false
set_option linter.unusedSimpArgs false
set_option maxRecDepth 100000
open Go.RowKit

theorem colL_at {ks : List Pd} {k : Nat} (h : k < ks.length) (l : List Tx) : colL l (ks.drop k) = colL (colP l ks[k]) (ks.drop (k + 1)) := by rw [List.drop_eq_getElem_cons h, colL]
theorem colL_end {ks : List Pd} {k : Nat} (h : ks.length ≤ k) (l : List Tx) : colL l (ks.drop k) = l := by rw [List.drop_eq_nil_of_le h, colL]
/-- a row of texts, from block B on -/
def Sr (B : Nat) (W : World) (q : Nat) : Prop := B ≤ q ∧ ∃ cur, W.heap[q]? = some (.cells cur 9 (0, 0))
theorem fr_sr {B : Nat} {W W1 W2 : World} (h : Fr (Sr B W) W W1) (h2 : Fr (Sr B W1) W1 W2) : Fr (Sr B W) W W2 := by
  refine h.join h2 (fun q hq ⟨h3, cur, h4⟩ => ?_)
  refine Classical.byContradiction fun hn => hn ⟨h3, cur, ?_⟩
  rw [← h.block q hq hn]; exact h4
theorem fr_own {B : Nat} {W W1 : World} {v : Value} {l : List Tx} (ho : Ow sv 9 W B v l) (h : Fr (fun q => v.ownBlock = some q) W W1) : Fr (Sr B W) W W1 :=
  h.mono fun q _ e => ⟨(ho.lt q e).1, ho.kind q e⟩
theorem sr_pd {B : Nat} {W : World} {g : Nat} {h : Ph} {s : Kv} (e : PdB W g h s) : ¬ Sr B W g := by
  rintro ⟨_, cur, h1⟩
  unfold PdB Blk at e
  rw [e] at h1
  simp at h1
theorem in_more {l : List Tx} {x : Tx} {k : Nat} (h : k < l.length) : decide (x ∈ l.take (k + 1)) = (decide (x ∈ l.take k) || (l[k] == x)) := by
  rw [List.take_succ_eq_append_getElem h, Bool.eq_iff_iff, decide_eq_true_eq, List.mem_append, Bool.or_eq_true, decide_eq_true_eq, List.mem_singleton, beq_iff_eq]
  exact ⟨fun h => h.imp id Eq.symm, fun h => h.imp id Eq.symm⟩
set_option maxHeartbeats 8000000 in
theorem rcols_any (w0 : World) (p : Pd) : ∀ (l : List Tx) (v : Value) (w : World) (t : Kv), Fr Non w0 w → Ow sv 9 w w0.heap.size v l → l.length + cntP p ≤ 1000 → Kd w0 t p.kids → lenP p = true →
    Calls Tryd.prog 20 #[v, pdV p.hd t] w fun e w' => ∃ v', e = .returned v' ∧ Ow sv 9 w' w0.heap.size v' (colP l p) ∧ Fr (Sr w0.heap.size w) w w' := by
  induction p using Pd.ind with
  | h hd ks ih =>
    intro l v w t hF hO hlen hk hl
    dsimp only [Pd.hd, Pd.kids] at hk ⊢
    have hls := lenP_mk hl
    have hn := hk.len
    have hcnt := hlen
    rw [cntP] at hcnt
    have hal := addC_len l hd
    have IH : Hid (∀ k (h : k < ks.length) (l' : List Tx) (v' : Value) (W : World) (t' : Kv), Fr Non w0 W → Ow sv 9 W w0.heap.size v' l' → l'.length + cntP ks[k] ≤ 1000 → Kd w0 t' ks[k].kids →
        Calls Tryd.prog 20 #[v', pdV ks[k].hd t'] W fun e w' => ∃ u, e = .returned u ∧ Ow sv 9 w' w0.heap.size u (colP l' ks[k]) ∧ Fr (Sr w0.heap.size W) W w') :=
      Lib.hid (fun k h l' v' W t' a b c d => ih _ (List.getElem_mem h) l' v' W t' a b c d (hls.2.2.2.2 _ (List.getElem_mem h)))
    have HE0 : Hid (colP l (.mk hd ks) = colL (addC l hd) ks) := Lib.hid (by rw [colP])
    have HAN := Lib.hid (fun e => addC_no (l := l) (h := hd) e)
    have HAY := Lib.hid (fun e f => addC_yes (l := l) (h := hd) e f)
    have PB0 := pd_new w _ hd t rfl
    have F0 : Fr Non w (w.alloc (.cells (pdC hd t) 27)) := (Fr.refl Non w).alloc _
    have HO := Lib.hid (hO.non F0)
    have FR := Lib.hid (F0.any (S := Sr w0.heap.size w))
    have PB := Lib.hid PB0
    have HF := Lib.hid hF
    have HK := Lib.hid hk
    generalize colP l (.mk hd ks) = rr at *
    obtain ⟨vA, vc, hve⟩ := hO.shape
    have hls1 := hls.1
    have hsz0 : w0.heap.size ≤ w.heap.size := hF.size
    clear ih hk hl hls hF hO F0 PB0 hlen
    obtain ⟨ho, hc, hm, ⟨vn, vi, vt⟩, hkd, hp⟩ := hd
    obtain ⟨A, n, c⟩ := t
    dsimp only at hn HAN HAY
    have HL := Lib.hid hn
    have hn20 : n ≤ 20 := by omega
    clear hn hls1
    subst hve
    unfold pdV
    by_cases h0 : hc = []
    · have HE : Hid (rr = colL l ks) := Lib.hid (by rw [HE0.out, HAN.out (.inl h0)])
      subst h0
      clear HE0 HAN HAY
      unfold pdC kidV
      dsimp only
      go_enter Tryd.func20, Tryd.ntmps20
      go_wp2
      have HQ0 : Hid (rr = colL l (ks.drop 0)) := HE
      have HN0 : Hid ((l).length + cntL (ks.drop 0) ≤ 1000) := Lib.hid (by rw [List.drop_zero]; omega)
      go_loopw [0, 7] (fun u i wr => ∃ (k : Nat) (lk : List Tx), k ≤ n ∧ i = .int .i64 k ∧ Hid (Ow sv 9 wr w0.heap.size u lk) ∧ Hid (rr = colL lk (ks.drop k)) ∧ Hid (lk.length + cntL (ks.drop k) ≤ 1000) ∧ Hid (Fr (Sr w0.heap.size w) w wr) ∧ Hid (PdB wr w.heap.size ⟨ho, [], hm, ⟨vn, vi, vt⟩, hkd, hp⟩ ⟨A, n, c⟩)) (fun _ i _ => n - (intOf i).toNat)
      case atStart => exact ⟨0, l, Nat.zero_le _, rfl, HO, HQ0, HN0, FR, PB⟩
      case round =>
        rename_i u i wr
        obtain ⟨k, lk, hk, rfl, HOk, HQ, HN, FRk, PBk⟩ := hrel
        have b8 := PBk.out.cell 8
        simp [pdC, kidV] at b8
        have HFw : Hid (Fr Non w0 wr) := Lib.hid (HF.out.fresh FRk.out (fun q hq => hq.1))
        obtain ⟨uA, uc, hue⟩ := HOk.out.shape
        subst hue
        by_cases hlt : k < n
        · have hlt2 : k < ks.length := by have := HL.out; omega
          obtain ⟨a, t, hA, hc2, hkk, _⟩ := HK.out.elN HFw.out k hlt2
          have HC := Lib.hid (IH.out k hlt2 lk _ wr t HFw.out HOk.out (by have := HN.out; rw [List.drop_eq_getElem_cons hlt2, cntL] at this; omega) hkk)
          have HQ2 := Lib.hid (HQ.out.trans (colL_at hlt2 lk))
          have HN2 : Hid ((colP lk ks[k]).length + cntL (ks.drop (k + 1)) ≤ 1000) := Lib.hid (by
            have h1 := HN.out
            rw [List.drop_eq_getElem_cons hlt2, cntL] at h1
            have h2 := colP_len ks[k] lk
            omega)
          dsimp only at hA
          subst hA
          obtain ⟨c0, c1, c2, c3, c4, c5, c6, c7, c8⟩ := hc2
          clear hkk HQ HN
          generalize colP lk ks[k] = l2 at *
          generalize ks[k].hd = x at *
          obtain ⟨xo, xc, xm, ⟨xn, xi, xt⟩, xk, xp⟩ := x
          obtain ⟨tA, tn, tc⟩ := t
          unfold pdV pdC kidV at HC
          dsimp only at HC c0 c1 c2 c3 c4 c5 c6 c7 c8
          go_wp2_with fail
          refine HC.out.mono ?_
          rintro e w2 ⟨v', rfl, hown2, f2⟩
          have HO5 := Lib.hid hown2
          have FR5 := Lib.hid (fr_sr FRk.out f2)
          have PB5 := Lib.hid (PBk.out.fr f2 (sr_pd PBk.out))
          clear hown2 f2 HC
          go_wp2
          go_roundw
          case rel => exact ⟨k + 1, l2, by omega, by go_num, HO5, HQ2, HN2, FR5, PB5⟩
          case measure => simp [intOf]; omega
        · have HR : Hid (rr = lk) := Lib.hid (HQ.out.trans (colL_end (by have := HL.out; omega) lk))
          clear HQ
          go_wp2
          go_ret
          exact ⟨_, rfl, by rw [HR.out]; exact HOk.out, FRk.out⟩
    · have hb1 : (hc == []) = false := by rw [beq_eq_false_iff_ne]; exact h0
      have HP0 : Hid (∀ k (h : k < l.length), ∃ a, vA = some a ∧ (w.alloc (.cells (pdC ⟨ho, hc, hm, ⟨vn, vi, vt⟩, hkd, hp⟩ ⟨A, n, c⟩) 27)).cell? (a.add k) = some (.string ⟨l[k].toArray⟩)) := Lib.hid (fun k h => by
        obtain ⟨a, ha, _, _, hcl⟩ := HO.out.vs.addr (by omega)
        exact ⟨a, ha, hcl k h⟩)
      have HB0 : Hid (false = decide (hc ∈ l.take 0)) := Lib.hid (by simp)
      unfold pdC kidV
      dsimp only
      go_enter Tryd.func20, Tryd.ntmps20
      go_wp2
      go_loopw [5, 6] (fun x i wr => ∃ (k : Nat) (b : Bool), k ≤ l.length ∧ i = .int .i64 k ∧ x = .bool b ∧ Hid (b = decide (hc ∈ l.take k)) ∧ Hid (Fr Non (w.alloc (.cells (pdC ⟨ho, hc, hm, ⟨vn, vi, vt⟩, hkd, hp⟩ ⟨A, n, c⟩) 27)) wr)) (fun _ i _ => l.length - (intOf i).toNat)
      case atStart => exact ⟨0, false, Nat.zero_le _, rfl, rfl, HB0, Lib.hid (Fr.refl _ _)⟩
      case round =>
        clear HB0
        obtain ⟨k, b, hk, rfl, rfl, HB, F1⟩ := hrel
        have hl1000 : l.length ≤ 1000 := by omega
        have HPw := Lib.hid (PB.out.fr F1.out (fun e => e))
        by_cases hlt : k < l.length
        · obtain ⟨a, ha, hcl⟩ := HP0.out k hlt
          subst ha
          have q2 : wr.drew.cell? (a.add k) = _ := (F1.out.drew.cell (World.block_lt_of_cell? _ _ hcl) (fun e => e)).trans hcl
          have q1 : wr.drew.cell? ⟨w.heap.size, 1, none⟩ = _ := (HPw.out.drew).cell 1
          simp [pdC] at q1
          have HB2 := Lib.hid (in_more (x := hc) hlt)
          clear hcl
          generalize l[k] = y at *
          cases b
          · cases hy : (y == hc)
            · have HB3 : Hid (false = decide (hc ∈ l.take (k + 1))) := Lib.hid (by rw [HB2.out, ← HB.out, hy]; rfl)
              clear HB HB2
              go_wp2
              refine wp_region_held_drew (S := (fun W => W.cell? ⟨w.heap.size, 1, none⟩ = some (.string ⟨hc.toArray⟩) ∧ W.cell? (a.add k) = some (.string ⟨y.toArray⟩))) (by kernel_rfl) (by exact ⟨q1, q2⟩) (fun hHeld => ?_)
              refine wpAnyH_take (i := 0) (oi := ⟨some 17, _, _, _, _, none⟩) (v := ?v1) rfl (by kernel_rfl) (by kernel_rfl) (by kernel_rfl) (fun _ _ _ h => h) (Or.inl ⟨by rfl, ?hy1⟩) (by assumption) ?rest1
              case hy1 => (intro wS hSw; (try dsimp only at hSw); go_simp; (try with_reducible rfl))
              (try simp only [Act.put, List.setIfInBounds_toArray, List.set_cons_zero, List.set_cons_succ])
              refine wpAnyH_take (i := 1) (oi := ⟨some 18, _, _, _, _, none⟩) (v := ?v2) rfl (by kernel_rfl) (by kernel_rfl) (by kernel_rfl) (fun _ _ _ h => h) (Or.inl ⟨by rfl, ?hy2⟩) (by assumption) ?rest2
              case hy2 => (intro wS hSw; (try dsimp only at hSw); go_simp; (try with_reducible rfl))
              (try simp only [Act.put, List.setIfInBounds_toArray, List.set_cons_zero, List.set_cons_succ])
              refine wpAnyH_take (i := 2) (oi := ⟨some 19, _, _, _, _, some (1, false)⟩) (v := ?v3) rfl (by kernel_rfl) (by kernel_rfl) (by kernel_rfl) (fun _ _ _ h => h) (Or.inl ⟨by rfl, ?hy3⟩) (by assumption) ?rest3
              case hy3 => (intro wS hSw; (try dsimp only at hSw); go_simp; (try with_reducible rfl))
              (try simp only [Act.put, List.setIfInBounds_toArray, List.set_cons_zero, List.set_cons_succ])
              refine wpAnyH_take (i := 3) (oi := ⟨some 20, _, _, _, _, some (1, false)⟩) (v := ?v4) rfl (by kernel_rfl) (by kernel_rfl) (by kernel_rfl) (fun _ _ _ h => h) (Or.inl ⟨by rfl, ?hy4⟩) (by assumption) ?rest4
              case hy4 => (intro wS hSw; (try dsimp only at hSw); go_simp; (try with_reducible rfl))
              (try simp only [Act.put, List.setIfInBounds_toArray, List.set_cons_zero, List.set_cons_succ])
              refine wpAnyH_take (i := 4) (oi := ⟨some 21, _, _, _, _, some (1, false)⟩) (v := ?v5) rfl (by kernel_rfl) (by kernel_rfl) (by kernel_rfl) (fun _ _ _ h => h) (Or.inl ⟨by rfl, ?hy5⟩) (by assumption) ?rest5
              case hy5 => (intro wS hSw; (try dsimp only at hSw); go_simp; (try with_reducible rfl))
              (try simp only [Act.put, List.setIfInBounds_toArray, List.set_cons_zero, List.set_cons_succ])
              refine wpAnyH_take (i := 5) (oi := ⟨some 22, _, _, _, _, some (1, false)⟩) (v := ?v6) rfl (by kernel_rfl) (by kernel_rfl) (by kernel_rfl) (fun _ _ _ h => h) (Or.inl ⟨by rfl, ?hy6⟩) (by assumption) ?rest6
              case hy6 => (intro wS hSw; (try dsimp only at hSw); go_simp; (try with_reducible rfl))
              (try simp only [Act.put, List.setIfInBounds_toArray, List.set_cons_zero, List.set_cons_succ])
              refine wpAnyH_take (i := 6) (oi := ⟨some 23, _, _, _, _, some (1, false)⟩) (v := ?v7) rfl (by kernel_rfl) (by kernel_rfl) (by kernel_rfl) (fun _ _ _ h => h) (Or.inl ⟨by rfl, ?hy7⟩) (by assumption) ?rest7
              case hy7 => (intro wS hSw; (try dsimp only at hSw); go_simp; (try with_reducible rfl))
              (try simp only [Act.put, List.setIfInBounds_toArray, List.set_cons_zero, List.set_cons_succ])
              refine wpAnyH_take (i := 7) (oi := ⟨some 24, _, _, _, _, some (1, false)⟩) (v := ?v8) rfl (by kernel_rfl) (by kernel_rfl) (by kernel_rfl) (fun _ _ _ h => h) (Or.inl ⟨by rfl, ?hy8⟩) (by assumption) ?rest8
              case hy8 => (intro wS hSw; (try dsimp only at hSw); go_simp; (try with_reducible rfl))
              (try simp only [Act.put, List.setIfInBounds_toArray, List.set_cons_zero, List.set_cons_succ])
              refine wpAnyH_take (i := 8) (oi := ⟨some 25, _, _, _, _, some (1, false)⟩) (v := ?v9) rfl (by kernel_rfl) (by kernel_rfl) (by kernel_rfl) (fun _ _ _ h => h) (Or.inl ⟨by rfl, ?hy9⟩) (by assumption) ?rest9
              case hy9 => (intro wS hSw; (try dsimp only at hSw); go_simp; (try with_reducible rfl))
              (try simp only [Act.put, List.setIfInBounds_toArray, List.set_cons_zero, List.set_cons_succ])
              refine wpAnyH_take (i := 9) (oi := ⟨some 26, _, _, _, _, none⟩) (v := ?v10) rfl (by kernel_rfl) (by kernel_rfl) (by kernel_rfl) (fun _ _ _ h => h) (Or.inl ⟨by rfl, ?hy10⟩) (by assumption) ?rest10
              case hy10 => (intro wS hSw; (try dsimp only at hSw); go_simp; (try with_reducible rfl))
              (try simp only [Act.put, List.setIfInBounds_toArray, List.set_cons_zero, List.set_cons_succ])
              refine wpAnyH_take (i := 10) (oi := ⟨some 5, _, _, _, _, none⟩) (v := ?v11) rfl (by kernel_rfl) (by kernel_rfl) (by kernel_rfl) (fun _ _ _ h => h) (Or.inl ⟨by rfl, ?hy11⟩) (by assumption) ?rest11
              case hy11 => (intro wS hSw; (try dsimp only at hSw); go_simp; (try with_reducible rfl))
              (try simp only [Act.put, List.setIfInBounds_toArray, List.set_cons_zero, List.set_cons_succ])
              refine wpAnyH_done (by kernel_rfl) ?_ _
              go_wp2
              go_roundw
              case rel => exact ⟨k + 1, false, by omega, by go_num, rfl, HB3, Lib.hid F1.out.drew⟩
              case measure => simp [intOf]; omega
            · have HB3 : Hid (true = decide (hc ∈ l.take (k + 1))) := Lib.hid (by rw [HB2.out, ← HB.out, hy]; rfl)
              clear HB HB2
              go_wp2
              refine wp_region_held_drew (S := (fun W => W.cell? ⟨w.heap.size, 1, none⟩ = some (.string ⟨hc.toArray⟩) ∧ W.cell? (a.add k) = some (.string ⟨y.toArray⟩))) (by kernel_rfl) (by exact ⟨q1, q2⟩) (fun hHeld => ?_)
              refine wpAnyH_take (i := 0) (oi := ⟨some 17, _, _, _, _, none⟩) (v := ?v12) rfl (by kernel_rfl) (by kernel_rfl) (by kernel_rfl) (fun _ _ _ h => h) (Or.inl ⟨by rfl, ?hy12⟩) (by assumption) ?rest12
              case hy12 => (intro wS hSw; (try dsimp only at hSw); go_simp; (try with_reducible rfl))
              (try simp only [Act.put, List.setIfInBounds_toArray, List.set_cons_zero, List.set_cons_succ])
              refine wpAnyH_take (i := 1) (oi := ⟨some 18, _, _, _, _, none⟩) (v := ?v13) rfl (by kernel_rfl) (by kernel_rfl) (by kernel_rfl) (fun _ _ _ h => h) (Or.inl ⟨by rfl, ?hy13⟩) (by assumption) ?rest13
              case hy13 => (intro wS hSw; (try dsimp only at hSw); go_simp; (try with_reducible rfl))
              (try simp only [Act.put, List.setIfInBounds_toArray, List.set_cons_zero, List.set_cons_succ])
              refine wpAnyH_take (i := 2) (oi := ⟨some 19, _, _, _, _, some (1, false)⟩) (v := ?v14) rfl (by kernel_rfl) (by kernel_rfl) (by kernel_rfl) (fun _ _ _ h => h) (Or.inl ⟨by rfl, ?hy14⟩) (by assumption) ?rest14
              case hy14 => (intro wS hSw; (try dsimp only at hSw); go_simp; (try with_reducible rfl))
              (try simp only [Act.put, List.setIfInBounds_toArray, List.set_cons_zero, List.set_cons_succ])
              refine wpAnyH_take (i := 3) (oi := ⟨some 20, _, _, _, _, some (1, false)⟩) (v := ?v15) rfl (by kernel_rfl) (by kernel_rfl) (by kernel_rfl) (fun _ _ _ h => h) (Or.inl ⟨by rfl, ?hy15⟩) (by assumption) ?rest15
              case hy15 => (intro wS hSw; (try dsimp only at hSw); go_simp; (try with_reducible rfl))
              (try simp only [Act.put, List.setIfInBounds_toArray, List.set_cons_zero, List.set_cons_succ])
              refine wpAnyH_take (i := 4) (oi := ⟨some 21, _, _, _, _, some (1, false)⟩) (v := ?v16) rfl (by kernel_rfl) (by kernel_rfl) (by kernel_rfl) (fun _ _ _ h => h) (Or.inl ⟨by rfl, ?hy16⟩) (by assumption) ?rest16
              case hy16 => (intro wS hSw; (try dsimp only at hSw); go_simp; (try with_reducible rfl))
              (try simp only [Act.put, List.setIfInBounds_toArray, List.set_cons_zero, List.set_cons_succ])
              refine wpAnyH_take (i := 5) (oi := ⟨some 22, _, _, _, _, some (1, false)⟩) (v := ?v17) rfl (by kernel_rfl) (by kernel_rfl) (by kernel_rfl) (fun _ _ _ h => h) (Or.inl ⟨by rfl, ?hy17⟩) (by assumption) ?rest17
              case hy17 => (intro wS hSw; (try dsimp only at hSw); go_simp; (try with_reducible rfl))
              (try simp only [Act.put, List.setIfInBounds_toArray, List.set_cons_zero, List.set_cons_succ])
              refine wpAnyH_take (i := 6) (oi := ⟨some 23, _, _, _, _, some (1, false)⟩) (v := ?v18) rfl (by kernel_rfl) (by kernel_rfl) (by kernel_rfl) (fun _ _ _ h => h) (Or.inl ⟨by rfl, ?hy18⟩) (by assumption) ?rest18
              case hy18 => (intro wS hSw; (try dsimp only at hSw); go_simp; (try with_reducible rfl))
              (try simp only [Act.put, List.setIfInBounds_toArray, List.set_cons_zero, List.set_cons_succ])
              refine wpAnyH_take (i := 7) (oi := ⟨some 24, _, _, _, _, some (1, false)⟩) (v := ?v19) rfl (by kernel_rfl) (by kernel_rfl) (by kernel_rfl) (fun _ _ _ h => h) (Or.inl ⟨by rfl, ?hy19⟩) (by assumption) ?rest19
              case hy19 => (intro wS hSw; (try dsimp only at hSw); go_simp; (try with_reducible rfl))
              (try simp only [Act.put, List.setIfInBounds_toArray, List.set_cons_zero, List.set_cons_succ])
              refine wpAnyH_take (i := 8) (oi := ⟨some 25, _, _, _, _, some (1, false)⟩) (v := ?v20) rfl (by kernel_rfl) (by kernel_rfl) (by kernel_rfl) (fun _ _ _ h => h) (Or.inl ⟨by rfl, ?hy20⟩) (by assumption) ?rest20
              case hy20 => (intro wS hSw; (try dsimp only at hSw); go_simp; (try with_reducible rfl))
              (try simp only [Act.put, List.setIfInBounds_toArray, List.set_cons_zero, List.set_cons_succ])
              refine wpAnyH_take (i := 9) (oi := ⟨some 26, _, _, _, _, none⟩) (v := ?v21) rfl (by kernel_rfl) (by kernel_rfl) (by kernel_rfl) (fun _ _ _ h => h) (Or.inl ⟨by rfl, ?hy21⟩) (by assumption) ?rest21
              case hy21 => (intro wS hSw; (try dsimp only at hSw); go_simp; (try with_reducible rfl))
              (try simp only [Act.put, List.setIfInBounds_toArray, List.set_cons_zero, List.set_cons_succ])
              refine wpAnyH_take (i := 10) (oi := ⟨some 5, _, _, _, _, none⟩) (v := ?v22) rfl (by kernel_rfl) (by kernel_rfl) (by kernel_rfl) (fun _ _ _ h => h) (Or.inl ⟨by rfl, ?hy22⟩) (by assumption) ?rest22
              case hy22 => (intro wS hSw; (try dsimp only at hSw); go_simp; (try with_reducible rfl))
              (try simp only [Act.put, List.setIfInBounds_toArray, List.set_cons_zero, List.set_cons_succ])
              refine wpAnyH_done (by kernel_rfl) ?_ _
              go_wp2
              go_roundw
              case rel => exact ⟨k + 1, true, by omega, by go_num, rfl, HB3, Lib.hid F1.out.drew⟩
              case measure => simp [intOf]; omega
          · have HB3 : Hid (true = decide (hc ∈ l.take (k + 1))) := Lib.hid (by rw [HB2.out, ← HB.out]; rfl)
            clear HB HB2
            go_wp2
            refine wp_region_held_drew (S := (fun W => W.cell? ⟨w.heap.size, 1, none⟩ = some (.string ⟨hc.toArray⟩) ∧ W.cell? (a.add k) = some (.string ⟨y.toArray⟩))) (by kernel_rfl) (by exact ⟨q1, q2⟩) (fun hHeld => ?_)
            refine wpAnyH_take (i := 0) (oi := ⟨some 17, _, _, _, _, none⟩) (v := ?v23) rfl (by kernel_rfl) (by kernel_rfl) (by kernel_rfl) (fun _ _ _ h => h) (Or.inl ⟨by rfl, ?hy23⟩) (by assumption) ?rest23
            case hy23 => (intro wS hSw; (try dsimp only at hSw); go_simp; (try with_reducible rfl))
            (try simp only [Act.put, List.setIfInBounds_toArray, List.set_cons_zero, List.set_cons_succ])
            refine wpAnyH_take (i := 1) (oi := ⟨some 18, _, _, _, _, none⟩) (v := ?v24) rfl (by kernel_rfl) (by kernel_rfl) (by kernel_rfl) (fun _ _ _ h => h) (Or.inl ⟨by rfl, ?hy24⟩) (by assumption) ?rest24
            case hy24 => (intro wS hSw; (try dsimp only at hSw); go_simp; (try with_reducible rfl))
            (try simp only [Act.put, List.setIfInBounds_toArray, List.set_cons_zero, List.set_cons_succ])
            refine wpAnyH_take (i := 2) (oi := ⟨some 19, _, _, _, _, some (1, false)⟩) (v := undef) rfl (by kernel_rfl) (by kernel_rfl) (by kernel_rfl) (fun _ _ _ h => h) (Or.inr ⟨by rfl, rfl⟩) (by assumption) ?_
            (try simp only [Act.put, List.setIfInBounds_toArray, List.set_cons_zero, List.set_cons_succ])
            refine wpAnyH_take (i := 3) (oi := ⟨some 20, _, _, _, _, some (1, false)⟩) (v := undef) rfl (by kernel_rfl) (by kernel_rfl) (by kernel_rfl) (fun _ _ _ h => h) (Or.inr ⟨by rfl, rfl⟩) (by assumption) ?_
            (try simp only [Act.put, List.setIfInBounds_toArray, List.set_cons_zero, List.set_cons_succ])
            refine wpAnyH_take (i := 4) (oi := ⟨some 21, _, _, _, _, some (1, false)⟩) (v := undef) rfl (by kernel_rfl) (by kernel_rfl) (by kernel_rfl) (fun _ _ _ h => h) (Or.inr ⟨by rfl, rfl⟩) (by assumption) ?_
            (try simp only [Act.put, List.setIfInBounds_toArray, List.set_cons_zero, List.set_cons_succ])
            refine wpAnyH_take (i := 5) (oi := ⟨some 22, _, _, _, _, some (1, false)⟩) (v := undef) rfl (by kernel_rfl) (by kernel_rfl) (by kernel_rfl) (fun _ _ _ h => h) (Or.inr ⟨by rfl, rfl⟩) (by assumption) ?_
            (try simp only [Act.put, List.setIfInBounds_toArray, List.set_cons_zero, List.set_cons_succ])
            refine wpAnyH_take (i := 6) (oi := ⟨some 23, _, _, _, _, some (1, false)⟩) (v := undef) rfl (by kernel_rfl) (by kernel_rfl) (by kernel_rfl) (fun _ _ _ h => h) (Or.inr ⟨by rfl, rfl⟩) (by assumption) ?_
            (try simp only [Act.put, List.setIfInBounds_toArray, List.set_cons_zero, List.set_cons_succ])
            refine wpAnyH_take (i := 7) (oi := ⟨some 24, _, _, _, _, some (1, false)⟩) (v := undef) rfl (by kernel_rfl) (by kernel_rfl) (by kernel_rfl) (fun _ _ _ h => h) (Or.inr ⟨by rfl, rfl⟩) (by assumption) ?_
            (try simp only [Act.put, List.setIfInBounds_toArray, List.set_cons_zero, List.set_cons_succ])
            refine wpAnyH_take (i := 8) (oi := ⟨some 25, _, _, _, _, some (1, false)⟩) (v := undef) rfl (by kernel_rfl) (by kernel_rfl) (by kernel_rfl) (fun _ _ _ h => h) (Or.inr ⟨by rfl, rfl⟩) (by assumption) ?_
            (try simp only [Act.put, List.setIfInBounds_toArray, List.set_cons_zero, List.set_cons_succ])
            refine wpAnyH_take (i := 9) (oi := ⟨some 26, _, _, _, _, none⟩) (v := ?v25) rfl (by kernel_rfl) (by kernel_rfl) (by kernel_rfl) (fun _ _ _ h => h) (Or.inl ⟨by rfl, ?hy25⟩) (by assumption) ?rest25
            case hy25 => (intro wS hSw; (try dsimp only at hSw); go_simp; (try with_reducible rfl))
            (try simp only [Act.put, List.setIfInBounds_toArray, List.set_cons_zero, List.set_cons_succ])
            refine wpAnyH_take (i := 10) (oi := ⟨some 5, _, _, _, _, none⟩) (v := ?v26) rfl (by kernel_rfl) (by kernel_rfl) (by kernel_rfl) (fun _ _ _ h => h) (Or.inl ⟨by rfl, ?hy26⟩) (by assumption) ?rest26
            case hy26 => (intro wS hSw; (try dsimp only at hSw); go_simp; (try with_reducible rfl))
            (try simp only [Act.put, List.setIfInBounds_toArray, List.set_cons_zero, List.set_cons_succ])
            refine wpAnyH_done (by kernel_rfl) ?_ _
            go_wp2
            go_roundw
            case rel => exact ⟨k + 1, true, by omega, by go_num, rfl, HB3, Lib.hid F1.out.drew⟩
            case measure => simp [intOf]; omega
        · have HB4 : Hid (b = decide (hc ∈ l)) := Lib.hid (by rw [HB.out, List.take_of_length_le (by omega)])
          have HO1 := Lib.hid (HO.out.non F1.out)
          have FR1 := Lib.hid (FR.out.then F1.out)
          clear HB HO FR PB HP0
          cases b
          · have hni : ¬ hc ∈ l := of_decide_eq_false HB4.out.symm
            have HE : Hid (rr = colL (l ++ [hc]) ks) := Lib.hid (by rw [HE0.out, HAY.out h0 hni])
            clear HE0 HAN HAY HB4 hni h0
            have g1 := HPw.out.cell 1
            simp [pdC] at g1
            have hszr : w0.heap.size ≤ wr.heap.size := Nat.le_trans hsz0 FR1.out.size
            go_wp2_with (at_builtin; refine wpList_pushG el_str sv_one rfl (.tmp 29) (.tmp 32) rfl w0.heap.size _ l rfl HO1.out _ hc rfl rfl (by omega) hszr ?_; intro v3 w3 hown3 hfr3)
            have HO3 := Lib.hid hown3
            have FR3 := Lib.hid (fr_sr FR1.out (fr_own HO1.out hfr3))
            have PB3 := Lib.hid (HPw.out.fr (fr_own HO1.out hfr3) (sr_pd HPw.out))
            clear hown3 hfr3 g1
            try go_wp2
            have HQ0 : Hid (rr = colL (l ++ [hc]) (ks.drop 0)) := HE
            have HN0 : Hid (((l ++ [hc])).length + cntL (ks.drop 0) ≤ 1000) := Lib.hid (by rw [List.drop_zero, List.length_append]; simp; omega)
            go_loopw [0, 7] (fun u i wr => ∃ (k : Nat) (lk : List Tx), k ≤ n ∧ i = .int .i64 k ∧ Hid (Ow sv 9 wr w0.heap.size u lk) ∧ Hid (rr = colL lk (ks.drop k)) ∧ Hid (lk.length + cntL (ks.drop k) ≤ 1000) ∧ Hid (Fr (Sr w0.heap.size w) w wr) ∧ Hid (PdB wr w.heap.size ⟨ho, hc, hm, ⟨vn, vi, vt⟩, hkd, hp⟩ ⟨A, n, c⟩)) (fun _ i _ => n - (intOf i).toNat)
            case atStart => exact ⟨0, (l ++ [hc]), Nat.zero_le _, rfl, HO3, HQ0, HN0, FR3, PB3⟩
            case round =>
              rename_i u i wr
              obtain ⟨k, lk, hk, rfl, HOk, HQ, HN, FRk, PBk⟩ := hrel
              have b8 := PBk.out.cell 8
              simp [pdC, kidV] at b8
              have HFw : Hid (Fr Non w0 wr) := Lib.hid (HF.out.fresh FRk.out (fun q hq => hq.1))
              obtain ⟨uA, uc, hue⟩ := HOk.out.shape
              subst hue
              by_cases hlt : k < n
              · have hlt2 : k < ks.length := by have := HL.out; omega
                obtain ⟨a, t, hA, hc2, hkk, _⟩ := HK.out.elN HFw.out k hlt2
                have HC := Lib.hid (IH.out k hlt2 lk _ wr t HFw.out HOk.out (by have := HN.out; rw [List.drop_eq_getElem_cons hlt2, cntL] at this; omega) hkk)
                have HQ2 := Lib.hid (HQ.out.trans (colL_at hlt2 lk))
                have HN2 : Hid ((colP lk ks[k]).length + cntL (ks.drop (k + 1)) ≤ 1000) := Lib.hid (by
                  have h1 := HN.out
                  rw [List.drop_eq_getElem_cons hlt2, cntL] at h1
                  have h2 := colP_len ks[k] lk
                  omega)
                dsimp only at hA
                subst hA
                obtain ⟨c0, c1, c2, c3, c4, c5, c6, c7, c8⟩ := hc2
                clear hkk HQ HN
                generalize colP lk ks[k] = l2 at *
                generalize ks[k].hd = x at *
                obtain ⟨xo, xc, xm, ⟨xn, xi, xt⟩, xk, xp⟩ := x
                obtain ⟨tA, tn, tc⟩ := t
                unfold pdV pdC kidV at HC
                dsimp only at HC c0 c1 c2 c3 c4 c5 c6 c7 c8
                go_wp2_with fail
                refine HC.out.mono ?_
                rintro e w2 ⟨v', rfl, hown2, f2⟩
                have HO5 := Lib.hid hown2
                have FR5 := Lib.hid (fr_sr FRk.out f2)
                have PB5 := Lib.hid (PBk.out.fr f2 (sr_pd PBk.out))
                clear hown2 f2 HC
                go_wp2
                go_roundw
                case rel => exact ⟨k + 1, l2, by omega, by go_num, HO5, HQ2, HN2, FR5, PB5⟩
                case measure => simp [intOf]; omega
              · have HR : Hid (rr = lk) := Lib.hid (HQ.out.trans (colL_end (by have := HL.out; omega) lk))
                clear HQ
                go_wp2
                go_ret
                exact ⟨_, rfl, by rw [HR.out]; exact HOk.out, FRk.out⟩
          · have hin : hc ∈ l := of_decide_eq_true HB4.out.symm
            have HE : Hid (rr = colL l ks) := Lib.hid (by rw [HE0.out, HAN.out (.inr hin)])
            clear HE0 HAN HAY HB4 hin h0
            go_wp2
            have HQ0 : Hid (rr = colL l (ks.drop 0)) := HE
            have HN0 : Hid ((l).length + cntL (ks.drop 0) ≤ 1000) := Lib.hid (by rw [List.drop_zero]; omega)
            go_loopw [0, 7] (fun u i wr => ∃ (k : Nat) (lk : List Tx), k ≤ n ∧ i = .int .i64 k ∧ Hid (Ow sv 9 wr w0.heap.size u lk) ∧ Hid (rr = colL lk (ks.drop k)) ∧ Hid (lk.length + cntL (ks.drop k) ≤ 1000) ∧ Hid (Fr (Sr w0.heap.size w) w wr) ∧ Hid (PdB wr w.heap.size ⟨ho, hc, hm, ⟨vn, vi, vt⟩, hkd, hp⟩ ⟨A, n, c⟩)) (fun _ i _ => n - (intOf i).toNat)
            case atStart => exact ⟨0, l, Nat.zero_le _, rfl, HO1, HQ0, HN0, FR1, HPw⟩
            case round =>
              rename_i u i wr
              obtain ⟨k, lk, hk, rfl, HOk, HQ, HN, FRk, PBk⟩ := hrel
              have b8 := PBk.out.cell 8
              simp [pdC, kidV] at b8
              have HFw : Hid (Fr Non w0 wr) := Lib.hid (HF.out.fresh FRk.out (fun q hq => hq.1))
              obtain ⟨uA, uc, hue⟩ := HOk.out.shape
              subst hue
              by_cases hlt : k < n
              · have hlt2 : k < ks.length := by have := HL.out; omega
                obtain ⟨a, t, hA, hc2, hkk, _⟩ := HK.out.elN HFw.out k hlt2
                have HC := Lib.hid (IH.out k hlt2 lk _ wr t HFw.out HOk.out (by have := HN.out; rw [List.drop_eq_getElem_cons hlt2, cntL] at this; omega) hkk)
                have HQ2 := Lib.hid (HQ.out.trans (colL_at hlt2 lk))
                have HN2 : Hid ((colP lk ks[k]).length + cntL (ks.drop (k + 1)) ≤ 1000) := Lib.hid (by
                  have h1 := HN.out
                  rw [List.drop_eq_getElem_cons hlt2, cntL] at h1
                  have h2 := colP_len ks[k] lk
                  omega)
                dsimp only at hA
                subst hA
                obtain ⟨c0, c1, c2, c3, c4, c5, c6, c7, c8⟩ := hc2
                clear hkk HQ HN
                generalize colP lk ks[k] = l2 at *
                generalize ks[k].hd = x at *
                obtain ⟨xo, xc, xm, ⟨xn, xi, xt⟩, xk, xp⟩ := x
                obtain ⟨tA, tn, tc⟩ := t
                unfold pdV pdC kidV at HC
                dsimp only at HC c0 c1 c2 c3 c4 c5 c6 c7 c8
                go_wp2_with fail
                refine HC.out.mono ?_
                rintro e w2 ⟨v', rfl, hown2, f2⟩
                have HO5 := Lib.hid hown2
                have FR5 := Lib.hid (fr_sr FRk.out f2)
                have PB5 := Lib.hid (PBk.out.fr f2 (sr_pd PBk.out))
                clear hown2 f2 HC
                go_wp2
                go_roundw
                case rel => exact ⟨k + 1, l2, by omega, by go_num, HO5, HQ2, HN2, FR5, PB5⟩
                case measure => simp [intOf]; omega
              · have HR : Hid (rr = lk) := Lib.hid (HQ.out.trans (colL_end (by have := HL.out; omega) lk))
                clear HQ
                go_wp2
                go_ret
                exact ⟨_, rfl, by rw [HR.out]; exact HOk.out, FRk.out⟩
end Go.Proofs.YteagbddejbjmfaaDoor
