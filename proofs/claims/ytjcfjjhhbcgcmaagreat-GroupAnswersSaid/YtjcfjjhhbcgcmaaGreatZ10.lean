/-
  Joined: Pred9
-/
import Derived.Lib.Zigzag
import Derived.Deep.QuietTactic
import Derived.BigQuiet
import Derived.Deep.RegionHeld3
import Derived.Deep.DrawnRows
import Derived.Shelf.Strings.Replace
import Derived.Shelf.Strconv.Itoa4
import Derived.Shelf.Strings.OnBuilder
import Derived.Test.YtjcfjjhhbcgcmaaGreatProg
import Derived.Lib.SmallJoins
import Derived.Lib.AppendIntMem
import Derived.Laws.StructEq
import Derived.Laws.Rows
import Derived.Laws.ResultCell
import Derived.Deep.RegionWith
import Derived.Test.YtjcfjjhhbcgcmaaGreatZ9
set_option linter.unusedVariables false
set_option linter.unusedSimpArgs false
set_option maxRecDepth 100000
namespace Go.Proofs.YtjcfjjhhbcgcmaaGreat
open Go.RowKit
theorem okT_nil {cols : List Co} {h : Ph} (e : h.col = []) : okT cols h = true := by unfold okT; rw [if_pos e]
theorem okT_none {cols : List Co} {h : Ph} (e : ¬ h.col = []) (f : findC cols h.col = none) : okT cols h = false := by unfold okT; rw [if_neg e, f]
theorem okT_some {cols : List Co} {h : Ph} {k : Nat} (e : ¬ h.col = []) (f : findC cols h.col = some k) (hk : k < cols.length) : okT cols h = if h.op = 2 then cols[k].ty == h.kind else if h.op = 4 then cols[k].ty == 3 else true := by
  unfold okT; rw [if_neg e, f]
  simp [hk]
theorem typ_is (cols : List Co) (h : Ph) (ks : List Pd) : typP cols (.mk h ks) = (okT cols h && ks.all (typP cols)) := by rw [typP, typL_all]
theorem allT_no {cols : List Co} {ks : List Pd} {k : Nat} (h : k < ks.length) (hb : typP cols ks[k] = false) : ks.all (typP cols) = false := by
  rw [List.all_eq_false]; exact ⟨_, List.getElem_mem h, by rw [hb]; simp⟩
theorem allT_yes {cols : List Co} {ks : List Pd} {k : Nat} (h : ks.length ≤ k) (hb : ∀ j (h : j < ks.length), j < k → typP cols ks[j] = true) : ks.all (typP cols) = true := by
  rw [List.all_eq_true]
  intro x hx
  obtain ⟨j, hj, rfl⟩ := List.mem_iff_getElem.1 hx
  exact hb j hj (by omega)
theorem typ_more {cols : List Co} {ks : List Pd} {k : Nat} (hb : ∀ j (h : j < ks.length), j < k → typP cols ks[j] = true) (h : k < ks.length) (hk : typP cols ks[k] = true) : ∀ j (h : j < ks.length), j < k + 1 → typP cols ks[j] = true := by
  intro j hj hlt
  by_cases e : j = k
  · subst e; exact hk
  · exact hb j hj (by omega)
theorem Ks.find {w : World} {A : Option Addr} {n c : Nat} {cols : List Co} (h : Ks w (.slice A n c) cols) (k : Nat) (hk : k < cols.length) :
    ∃ a, A = some a ∧ n = cols.length ∧ w.cell? { block := (a.add (k * 3)).block, off := (a.add (k * 3)).off + 1 } = some (.int .i64 cols[k].ty) := by
  have hnl : n = cols.length := by
    obtain ⟨A0, c0, he⟩ := h.shape
    simp only [Value.slice.injEq] at he
    exact he.2.1
  obtain ⟨a, ha, hn, _, hc⟩ := Ns.addr h (by omega)
  exact ⟨a, ha, hn, (co_lit (hc k hk)).2.1⟩
set_option maxHeartbeats 8000000 in
theorem rtyped_any (cols : List Co) (hcl : cols.length ≤ 1000) (p : Pd) : ∀ (v : Value) (t : Kv) (w : World), Ks w v cols → Kd w t p.kids → lenP p = true →
    Calls Tryz.prog 76 #[v, pdV p.hd t] w fun e w' => e = .returned (.bool (typP cols p)) ∧ Fr Non w w' := by
  induction p using Pd.ind with
  | h hd ks ih =>
    intro v t w hv hk hlen
    have hn : t.n = ks.length := hk.len
    have hls := lenP_mk hlen
    have F0 : Fr Non w (w.alloc (.cells (pdC hd t) 28)) := (Fr.refl Non w).alloc _
    have HB := Lib.hid (pd_new w _ hd t rfl)
    have IH : Hid (∀ k (h : k < ks.length) (W : World) (t' : Kv), Ks W v cols → Kd W t' ks[k].kids → Calls Tryz.prog 76 #[v, pdV ks[k].hd t'] W fun e w' => e = .returned (.bool (typP cols ks[k])) ∧ Fr Non W w') :=
      Lib.hid (fun k h W t' a b => ih _ (List.getElem_mem h) v t' W a b (hls.2.2.2.2 _ (List.getElem_mem h)))
    have FC := Lib.hid (fun W h => rfind_any v cols hd.col W h (by omega))
    have HE0 := Lib.hid (typ_is cols hd ks)
    have HO1 := Lib.hid (fun e => okT_nil (cols := cols) (h := hd) e)
    have HO2 := Lib.hid (fun e f => okT_none (cols := cols) (h := hd) e f)
    have HO3 := Lib.hid (fun k e f hk => okT_some (cols := cols) (h := hd) (k := k) e f hk)
    have HFL := Lib.hid (fun k (h : findC cols hd.col = some k) => find_lt h)
    generalize typP cols (.mk hd ks) = r at *
    obtain ⟨vA, vc, hve⟩ := hv.shape
    have HV : Hid (Ks w v cols) := Lib.hid hv
    have HK : Hid (Kd w t ks) := Lib.hid hk
    have HF := Lib.hid F0
    have hls2 : ks.length ≤ 20 := hls.1
    clear ih hk hlen F0 hv hls
    obtain ⟨ho, hc, hm, ⟨vn, vi, vt⟩, hkd, hp⟩ := hd
    obtain ⟨A, n, c⟩ := t
    dsimp only at hn HO1 HO2 HO3 FC HFL
    have HL := Lib.hid hn
    have hn20 : n ≤ 20 := by omega
    unfold pdV pdC kidV
    dsimp only [Pd.hd, Pd.kids]
    clear hn hls2
    subst hve
    generalize okT cols _ = ok at *
    by_cases h0 : hc = []
    · subst h0
      have HE : Hid (r = ks.all (typP cols)) := Lib.hid (by rw [HE0.out, HO1.out rfl]; rfl)
      clear HE0 HO1 HO2 HO3
      clear FC HFL
      go_enter Tryz.func76, Tryz.ntmps76
      go_wp2
      go_loopw [6] (fun i wr => ∃ k : Nat, k ≤ n ∧ i = .int .i64 k ∧ Hid (∀ j (h : j < ks.length), j < k → typP cols ks[j] = true) ∧ Hid (Fr Non (w.alloc (.cells (pdC ⟨ho, [], hm, ⟨vn, vi, vt⟩, hkd, hp⟩ ⟨A, n, c⟩) 28)) wr)) (fun i _ => n - (intOf i).toNat)
      case atStart => exact ⟨0, Nat.zero_le _, rfl, Lib.hid (fun _ _ h => by omega), Lib.hid (Fr.refl _ _)⟩
      case round =>
        obtain ⟨k, hk, rfl, HT, FR⟩ := hrel
        have b8 := (HB.out.fr FR.out (fun e => e)).cell 8
        simp [pdC, kidV] at b8
        have HFw := Lib.hid (HF.out.trans FR.out)
        by_cases hlt : k < n
        · have hlt2 : k < ks.length := by have := HL.out; omega
          obtain ⟨a, t, hA, hc2, hkk, _⟩ := HK.out.elN HFw.out k hlt2
          have HC := Lib.hid (IH.out k hlt2 wr t (HV.out.non HFw.out) (hkk.non HFw.out))
          have HY := Lib.hid (fun e => typ_more (cols := cols) HT.out hlt2 e)
          have HX := Lib.hid (fun e => allT_no (cols := cols) hlt2 e)
          dsimp only at hA
          subst hA
          obtain ⟨c0, c1, c2, c3, c4, c5, c6, c7, c8⟩ := hc2
          clear hkk HT
          generalize typP cols ks[k] = y at *
          generalize ks[k].hd = x at *
          obtain ⟨xo, xc, xm, ⟨xn, xi, xt⟩, xk, xp⟩ := x
          obtain ⟨tA, tn, tc⟩ := t
          unfold pdV pdC kidV at HC
          dsimp only at HC c0 c1 c2 c3 c4 c5 c6 c7 c8
          cases y
          · have HE2 := Lib.hid (HX.out rfl)
            clear HX HY
            go_wp2_with fail
            refine HC.out.mono ?_
            rintro e w2 ⟨rfl, f2⟩
            go_wp2
            go_ret
            exact ⟨ret_boolE (by rw [HE.out, HE2.out]), HFw.out.trans f2⟩
          · have HE2 := Lib.hid (HY.out rfl)
            clear HX HY
            go_wp2_with fail
            refine HC.out.mono ?_
            rintro e w2 ⟨rfl, f2⟩
            go_wp2
            go_roundw
            case rel => exact ⟨k + 1, by omega, by go_num, HE2, Lib.hid (FR.out.trans f2)⟩
            case measure => simp [intOf]; omega
        · have HE2 := Lib.hid (allT_yes (cols := cols) (by have := HL.out; omega) HT.out)
          clear HT
          go_wp2
          go_ret
          exact ⟨ret_boolE (by rw [HE.out, HE2.out]), HFw.out⟩
    · have hb : (hc == []) = false := by rw [beq_eq_false_iff_ne]; exact h0
      have hb2 : (hc != []) = true := by rw [bne_iff_ne]; exact h0
      cases hf : findC cols hc with
      | none =>
        have HE : Hid (r = false) := Lib.hid (by rw [HE0.out, HO2.out h0 hf]; rfl)
        clear HE0 HO1 HO2 HO3 IH
        simp only [hf] at FC
        clear hf h0 HFL
        go_enter Tryz.func76, Tryz.ntmps76
        go_wp2_with fail
        refine (FC.out _ (HV.out.non HF.out)).mono ?_
        rintro e w1 ⟨rfl, f1⟩
        obtain ⟨g0, g1, g2, g3, g4, g5, g6, g7, g8⟩ := pdB_cells (HB.out.fr f1 (fun e => e))
        dsimp only at g0 g1 g2 g3 g4 g5 g6 g7 g8
        unfold findI
        go_wp2
        refine wp_region_held_drew (S := (fun W => W.cell? ⟨w.heap.size, 0, none⟩ = some (.int .i64 ho) ∧ W.cell? ⟨w.heap.size, 6, none⟩ = some (.int .i64 hkd))) (by kernel_rfl) (by exact ⟨g0, g6⟩) (fun hHeld => ?_)
        refine wpAnyH_take (i := 0) (oi := ⟨some 14, _, _, _, _, none⟩) (v := ?v1) rfl (by kernel_rfl) (by kernel_rfl) (by kernel_rfl) (fun _ _ _ h => h) (Or.inl ⟨by rfl, ?hy1⟩) (by assumption) ?rest1
        case hy1 => (intro wS hSw; (try dsimp only at hSw); go_simp; (try with_reducible rfl))
        (try simp only [Act.put, zA, zB, zC])
        refine wpAnyH_take (i := 1) (oi := ⟨some 15, _, _, _, _, none⟩) (v := ?v2) rfl (by kernel_rfl) (by kernel_rfl) (by kernel_rfl) (fun _ _ _ h => h) (Or.inl ⟨by rfl, ?hy2⟩) (by assumption) ?rest2
        case hy2 => (intro wS hSw; (try dsimp only at hSw); go_simp; (try with_reducible rfl))
        (try simp only [Act.put, zA, zB, zC])
        refine wpAnyH_take (i := 2) (oi := ⟨some 16, _, _, _, _, none⟩) (v := ?v3) rfl (by kernel_rfl) (by kernel_rfl) (by kernel_rfl) (fun _ _ _ h => h) (Or.inl ⟨by rfl, ?hy3⟩) (by assumption) ?rest3
        case hy3 => (intro wS hSw; (try dsimp only at hSw); go_simp; (try with_reducible rfl))
        (try simp only [Act.put, zA, zB, zC])
        refine wpAnyH_take (i := 3) (oi := ⟨some 17, _, _, _, _, some (2, false)⟩) (v := undef) rfl (by kernel_rfl) (by kernel_rfl) (by kernel_rfl) (fun _ _ _ h => h) (Or.inr ⟨by rfl, rfl⟩) (by assumption) ?_
        (try simp only [Act.put, zA, zB, zC])
        refine wpAnyH_take (i := 4) (oi := ⟨some 18, _, _, _, _, some (2, false)⟩) (v := undef) rfl (by kernel_rfl) (by kernel_rfl) (by kernel_rfl) (fun _ _ _ h => h) (Or.inr ⟨by rfl, rfl⟩) (by assumption) ?_
        (try simp only [Act.put, zA, zB, zC])
        refine wpAnyH_take (i := 5) (oi := ⟨some 19, _, _, _, _, some (2, false)⟩) (v := undef) rfl (by kernel_rfl) (by kernel_rfl) (by kernel_rfl) (fun _ _ _ h => h) (Or.inr ⟨by rfl, rfl⟩) (by assumption) ?_
        (try simp only [Act.put, zA, zB, zC])
        refine wpAnyH_take (i := 6) (oi := ⟨some 20, _, _, _, _, some (2, false)⟩) (v := undef) rfl (by kernel_rfl) (by kernel_rfl) (by kernel_rfl) (fun _ _ _ h => h) (Or.inr ⟨by rfl, rfl⟩) (by assumption) ?_
        (try simp only [Act.put, zA, zB, zC])
        refine wpAnyH_take (i := 7) (oi := ⟨some 21, _, _, _, _, some (6, true)⟩) (v := undef) rfl (by kernel_rfl) (by kernel_rfl) (by kernel_rfl) (fun _ _ _ h => h) (Or.inr ⟨by rfl, rfl⟩) (by assumption) ?_
        (try simp only [Act.put, zA, zB, zC])
        refine wpAnyH_take (i := 8) (oi := ⟨some 22, _, _, _, _, some (6, true)⟩) (v := undef) rfl (by kernel_rfl) (by kernel_rfl) (by kernel_rfl) (fun _ _ _ h => h) (Or.inr ⟨by rfl, rfl⟩) (by assumption) ?_
        (try simp only [Act.put, zA, zB, zC])
        refine wpAnyH_take (i := 9) (oi := ⟨some 23, _, _, _, _, some (6, true)⟩) (v := undef) rfl (by kernel_rfl) (by kernel_rfl) (by kernel_rfl) (fun _ _ _ h => h) (Or.inr ⟨by rfl, rfl⟩) (by assumption) ?_
        (try simp only [Act.put, zA, zB, zC])
        refine wpAnyH_take (i := 10) (oi := ⟨some 24, _, _, _, _, some (6, true)⟩) (v := undef) rfl (by kernel_rfl) (by kernel_rfl) (by kernel_rfl) (fun _ _ _ h => h) (Or.inr ⟨by rfl, rfl⟩) (by assumption) ?_
        (try simp only [Act.put, zA, zB, zC])
        refine wpAnyH_take (i := 11) (oi := ⟨some 25, _, _, _, _, some (6, true)⟩) (v := undef) rfl (by kernel_rfl) (by kernel_rfl) (by kernel_rfl) (fun _ _ _ h => h) (Or.inr ⟨by rfl, rfl⟩) (by assumption) ?_
        (try simp only [Act.put, zA, zB, zC])
        refine wpAnyH_take (i := 12) (oi := ⟨some 26, _, _, _, _, some (6, true)⟩) (v := undef) rfl (by kernel_rfl) (by kernel_rfl) (by kernel_rfl) (fun _ _ _ h => h) (Or.inr ⟨by rfl, rfl⟩) (by assumption) ?_
        (try simp only [Act.put, zA, zB, zC])
        refine wpAnyH_take (i := 13) (oi := ⟨some 27, _, _, _, _, some (6, true)⟩) (v := undef) rfl (by kernel_rfl) (by kernel_rfl) (by kernel_rfl) (fun _ _ _ h => h) (Or.inr ⟨by rfl, rfl⟩) (by assumption) ?_
        (try simp only [Act.put, zA, zB, zC])
        refine wpAnyH_take (i := 14) (oi := ⟨some 28, _, _, _, _, some (6, true)⟩) (v := undef) rfl (by kernel_rfl) (by kernel_rfl) (by kernel_rfl) (fun _ _ _ h => h) (Or.inr ⟨by rfl, rfl⟩) (by assumption) ?_
        (try simp only [Act.put, zA, zB, zC])
        refine wpAnyH_take (i := 15) (oi := ⟨some 29, _, _, _, _, some (2, false)⟩) (v := undef) rfl (by kernel_rfl) (by kernel_rfl) (by kernel_rfl) (fun _ _ _ h => h) (Or.inr ⟨by rfl, rfl⟩) (by assumption) ?_
        (try simp only [Act.put, zA, zB, zC])
        refine wpAnyH_take (i := 16) (oi := ⟨some 30, _, _, _, _, none⟩) (v := ?v4) rfl (by kernel_rfl) (by kernel_rfl) (by kernel_rfl) (fun _ _ _ h => h) (Or.inl ⟨by rfl, ?hy4⟩) (by assumption) ?rest4
        case hy4 => (intro wS hSw; (try dsimp only at hSw); go_simp; (try with_reducible rfl))
        (try simp only [Act.put, zA, zB, zC])
        refine wpAnyH_take (i := 17) (oi := ⟨some 31, _, _, _, _, none⟩) (v := ?v5) rfl (by kernel_rfl) (by kernel_rfl) (by kernel_rfl) (fun _ _ _ h => h) (Or.inl ⟨by rfl, ?hy5⟩) (by assumption) ?rest5
        case hy5 => (intro wS hSw; (try dsimp only at hSw); go_simp; (try with_reducible rfl))
        (try simp only [Act.put, zA, zB, zC])
        refine wpAnyH_take (i := 18) (oi := ⟨some 32, _, _, _, _, some (17, false)⟩) (v := undef) rfl (by kernel_rfl) (by kernel_rfl) (by kernel_rfl) (fun _ _ _ h => h) (Or.inr ⟨by rfl, rfl⟩) (by assumption) ?_
        (try simp only [Act.put, zA, zB, zC])
        refine wpAnyH_take (i := 19) (oi := ⟨some 33, _, _, _, _, some (17, false)⟩) (v := undef) rfl (by kernel_rfl) (by kernel_rfl) (by kernel_rfl) (fun _ _ _ h => h) (Or.inr ⟨by rfl, rfl⟩) (by assumption) ?_
        (try simp only [Act.put, zA, zB, zC])
        refine wpAnyH_take (i := 20) (oi := ⟨some 34, _, _, _, _, some (17, false)⟩) (v := undef) rfl (by kernel_rfl) (by kernel_rfl) (by kernel_rfl) (fun _ _ _ h => h) (Or.inr ⟨by rfl, rfl⟩) (by assumption) ?_
        (try simp only [Act.put, zA, zB, zC])
        refine wpAnyH_take (i := 21) (oi := ⟨some 35, _, _, _, _, some (17, false)⟩) (v := undef) rfl (by kernel_rfl) (by kernel_rfl) (by kernel_rfl) (fun _ _ _ h => h) (Or.inr ⟨by rfl, rfl⟩) (by assumption) ?_
        (try simp only [Act.put, zA, zB, zC])
        refine wpAnyH_take (i := 22) (oi := ⟨some 36, _, _, _, _, some (21, true)⟩) (v := undef) rfl (by kernel_rfl) (by kernel_rfl) (by kernel_rfl) (fun _ _ _ h => h) (Or.inr ⟨by rfl, rfl⟩) (by assumption) ?_
        (try simp only [Act.put, zA, zB, zC])
        refine wpAnyH_take (i := 23) (oi := ⟨some 37, _, _, _, _, some (21, true)⟩) (v := undef) rfl (by kernel_rfl) (by kernel_rfl) (by kernel_rfl) (fun _ _ _ h => h) (Or.inr ⟨by rfl, rfl⟩) (by assumption) ?_
        (try simp only [Act.put, zA, zB, zC])
        refine wpAnyH_take (i := 24) (oi := ⟨some 38, _, _, _, _, some (21, true)⟩) (v := undef) rfl (by kernel_rfl) (by kernel_rfl) (by kernel_rfl) (fun _ _ _ h => h) (Or.inr ⟨by rfl, rfl⟩) (by assumption) ?_
        (try simp only [Act.put, zA, zB, zC])
        refine wpAnyH_take (i := 25) (oi := ⟨some 39, _, _, _, _, some (21, true)⟩) (v := undef) rfl (by kernel_rfl) (by kernel_rfl) (by kernel_rfl) (fun _ _ _ h => h) (Or.inr ⟨by rfl, rfl⟩) (by assumption) ?_
        (try simp only [Act.put, zA, zB, zC])
        refine wpAnyH_take (i := 26) (oi := ⟨some 40, _, _, _, _, some (21, true)⟩) (v := undef) rfl (by kernel_rfl) (by kernel_rfl) (by kernel_rfl) (fun _ _ _ h => h) (Or.inr ⟨by rfl, rfl⟩) (by assumption) ?_
        (try simp only [Act.put, zA, zB, zC])
        refine wpAnyH_take (i := 27) (oi := ⟨some 41, _, _, _, _, some (21, true)⟩) (v := undef) rfl (by kernel_rfl) (by kernel_rfl) (by kernel_rfl) (fun _ _ _ h => h) (Or.inr ⟨by rfl, rfl⟩) (by assumption) ?_
        (try simp only [Act.put, zA, zB, zC])
        refine wpAnyH_take (i := 28) (oi := ⟨some 42, _, _, _, _, some (17, false)⟩) (v := undef) rfl (by kernel_rfl) (by kernel_rfl) (by kernel_rfl) (fun _ _ _ h => h) (Or.inr ⟨by rfl, rfl⟩) (by assumption) ?_
        (try simp only [Act.put, zA, zB, zC])
        refine wpAnyH_take (i := 29) (oi := ⟨some 43, _, _, _, _, none⟩) (v := ?v6) rfl (by kernel_rfl) (by kernel_rfl) (by kernel_rfl) (fun _ _ _ h => h) (Or.inl ⟨by rfl, ?hy6⟩) (by assumption) ?rest6
        case hy6 => (intro wS hSw; (try dsimp only at hSw); go_simp; (try with_reducible rfl))
        (try simp only [Act.put, zA, zB, zC])
        refine wpAnyH_done (by kernel_rfl) ?_ _
        go_wp2
        go_ret
        exact ⟨ret_boolE HE.out.symm, (HF.out.trans f1).drew⟩
      | some q =>
        have hql := HFL.out q hf
        have HO4 := Lib.hid (HO3.out q h0 hf hql)
        simp only [hf] at FC
        clear hf h0 HFL HO1 HO2 HO3
        have hqs : decide ((q : Int) < 0) = false := decide_eq_false (by omega)
        by_cases h2 : ho = 2
        · subst h2
          cases he : (cols[q].ty == hkd)
          · have he2 : (cols[q].ty != hkd) = true := by rw [bne, he]; rfl
            have HE : Hid (r = false) := Lib.hid (by rw [HE0.out, HO4.out, if_pos rfl, he]; rfl)
            clear HE0 HO4 IH
            go_enter Tryz.func76, Tryz.ntmps76
            go_wp2_with fail
            refine (FC.out _ (HV.out.non HF.out)).mono ?_
            rintro e w1 ⟨rfl, f1⟩
            obtain ⟨g0, g1, g2, g3, g4, g5, g6, g7, g8⟩ := pdB_cells (HB.out.fr f1 (fun e => e))
            dsimp only at g0 g1 g2 g3 g4 g5 g6 g7 g8
            obtain ⟨ca, rfl, hcn, hct⟩ := Ks.find (HV.out.non (HF.out.trans f1)) q hql
            generalize cols[q].ty = ct at *
            have F1 := Lib.hid f1
            clear f1 hcn
            unfold findI
            dsimp only
            go_wp2
            refine wp_region_held_drew (S := (fun W => W.cell? ⟨w.heap.size, 0, none⟩ = some (.int .i64 2) ∧ W.cell? ⟨w.heap.size, 6, none⟩ = some (.int .i64 hkd) ∧ W.cell? { block := (ca.add (q * 3)).block, off := (ca.add (q * 3)).off + 1 } = some (.int .i64 ct))) (by kernel_rfl) (by exact ⟨g0, g6, hct⟩) (fun hHeld => ?_)
            refine wpAnyH_take (i := 0) (oi := ⟨some 14, _, _, _, _, none⟩) (v := ?v7) rfl (by kernel_rfl) (by kernel_rfl) (by kernel_rfl) (fun _ _ _ h => h) (Or.inl ⟨by rfl, ?hy7⟩) (by assumption) ?rest7
            case hy7 => (intro wS hSw; (try dsimp only at hSw); go_simp; (try with_reducible rfl))
            (try simp only [Act.put, zA, zB, zC])
            refine wpAnyH_take (i := 1) (oi := ⟨some 15, _, _, _, _, none⟩) (v := ?v8) rfl (by kernel_rfl) (by kernel_rfl) (by kernel_rfl) (fun _ _ _ h => h) (Or.inl ⟨by rfl, ?hy8⟩) (by assumption) ?rest8
            case hy8 => (intro wS hSw; (try dsimp only at hSw); go_simp; (try with_reducible rfl))
            (try simp only [Act.put, zA, zB, zC])
            refine wpAnyH_take (i := 2) (oi := ⟨some 16, _, _, _, _, none⟩) (v := ?v9) rfl (by kernel_rfl) (by kernel_rfl) (by kernel_rfl) (fun _ _ _ h => h) (Or.inl ⟨by rfl, ?hy9⟩) (by assumption) ?rest9
            case hy9 => (intro wS hSw; (try dsimp only at hSw); go_simp; (try with_reducible rfl))
            (try simp only [Act.put, zA, zB, zC])
            refine wpAnyH_take (i := 3) (oi := ⟨some 17, _, _, _, _, some (2, false)⟩) (v := ?v10) rfl (by kernel_rfl) (by kernel_rfl) (by kernel_rfl) (fun _ _ _ h => h) (Or.inl ⟨by rfl, ?hy10⟩) (by assumption) ?rest10
            case hy10 => (intro wS hSw; (try dsimp only at hSw); go_simp; (try with_reducible rfl))
            (try simp only [Act.put, zA, zB, zC])
            refine wpAnyH_take (i := 4) (oi := ⟨some 18, _, _, _, _, some (2, false)⟩) (v := ?v11) rfl (by kernel_rfl) (by kernel_rfl) (by kernel_rfl) (fun _ _ _ h => h) (Or.inl ⟨by rfl, ?hy11⟩) (by assumption) ?rest11
            case hy11 => (intro wS hSw; (try dsimp only at hSw); go_simp; (try with_reducible rfl))
            (try simp only [Act.put, zA, zB, zC])
            refine wpAnyH_take (i := 5) (oi := ⟨some 19, _, _, _, _, some (2, false)⟩) (v := ?v12) rfl (by kernel_rfl) (by kernel_rfl) (by kernel_rfl) (fun _ _ _ h => h) (Or.inl ⟨by rfl, ?hy12⟩) (by assumption) ?rest12
            case hy12 => (intro wS hSw; (try dsimp only at hSw); go_simp; (try with_reducible rfl))
            (try simp only [Act.put, zA, zB, zC])
            refine wpAnyH_take (i := 6) (oi := ⟨some 20, _, _, _, _, some (2, false)⟩) (v := ?v13) rfl (by kernel_rfl) (by kernel_rfl) (by kernel_rfl) (fun _ _ _ h => h) (Or.inl ⟨by rfl, ?hy13⟩) (by assumption) ?rest13
            case hy13 => (intro wS hSw; (try dsimp only at hSw); go_simp; (try with_reducible rfl))
            (try simp only [Act.put, zA, zB, zC])
            refine wpAnyH_take (i := 7) (oi := ⟨some 21, _, _, _, _, some (6, true)⟩) (v := ?v14) rfl (by kernel_rfl) (by kernel_rfl) (by kernel_rfl) (fun _ _ _ h => h) (Or.inl ⟨by rfl, ?hy14⟩) (by assumption) ?rest14
            case hy14 => (intro wS hSw; (try dsimp only at hSw); go_simp; (try with_reducible rfl))
            (try simp only [Act.put, zA, zB, zC])
            refine wpAnyH_take (i := 8) (oi := ⟨some 22, _, _, _, _, some (6, true)⟩) (v := ?v15) rfl (by kernel_rfl) (by kernel_rfl) (by kernel_rfl) (fun _ _ _ h => h) (Or.inl ⟨by rfl, ?hy15⟩) (by assumption) ?rest15
            case hy15 => (intro wS hSw; (try dsimp only at hSw); go_simp; (try with_reducible rfl))
            (try simp only [Act.put, zA, zB, zC])
            refine wpAnyH_take (i := 9) (oi := ⟨some 23, _, _, _, _, some (6, true)⟩) (v := ?v16) rfl (by kernel_rfl) (by kernel_rfl) (by kernel_rfl) (fun _ _ _ h => h) (Or.inl ⟨by rfl, ?hy16⟩) (by assumption) ?rest16
            case hy16 => (intro wS hSw; (try dsimp only at hSw); go_simp; (try with_reducible rfl))
            (try simp only [Act.put, zA, zB, zC])
            refine wpAnyH_take (i := 10) (oi := ⟨some 24, _, _, _, _, some (6, true)⟩) (v := ?v17) rfl (by kernel_rfl) (by kernel_rfl) (by kernel_rfl) (fun _ _ _ h => h) (Or.inl ⟨by rfl, ?hy17⟩) (by assumption) ?rest17
            case hy17 => (intro wS hSw; (try dsimp only at hSw); go_simp; (try with_reducible rfl))
            (try simp only [Act.put, zA, zB, zC])
            refine wpAnyH_take (i := 11) (oi := ⟨some 25, _, _, _, _, some (6, true)⟩) (v := ?v18) rfl (by kernel_rfl) (by kernel_rfl) (by kernel_rfl) (fun _ _ _ h => h) (Or.inl ⟨by rfl, ?hy18⟩) (by assumption) ?rest18
            case hy18 => (intro wS hSw; (try dsimp only at hSw); go_simp; (try with_reducible rfl))
            (try simp only [Act.put, zA, zB, zC])
            refine wpAnyH_take (i := 12) (oi := ⟨some 26, _, _, _, _, some (6, true)⟩) (v := ?v19) rfl (by kernel_rfl) (by kernel_rfl) (by kernel_rfl) (fun _ _ _ h => h) (Or.inl ⟨by rfl, ?hy19⟩) (by assumption) ?rest19
            case hy19 => (intro wS hSw; (try dsimp only at hSw); go_simp; (try with_reducible rfl))
            (try simp only [Act.put, zA, zB, zC])
            refine wpAnyH_take (i := 13) (oi := ⟨some 27, _, _, _, _, some (6, true)⟩) (v := ?v20) rfl (by kernel_rfl) (by kernel_rfl) (by kernel_rfl) (fun _ _ _ h => h) (Or.inl ⟨by rfl, ?hy20⟩) (by assumption) ?rest20
            case hy20 => (intro wS hSw; (try dsimp only at hSw); go_simp; (try with_reducible rfl))
            (try simp only [Act.put, zA, zB, zC])
            refine wpAnyH_take (i := 14) (oi := ⟨some 28, _, _, _, _, some (6, true)⟩) (v := ?v21) rfl (by kernel_rfl) (by kernel_rfl) (by kernel_rfl) (fun _ _ _ h => h) (Or.inl ⟨by rfl, ?hy21⟩) (by assumption) ?rest21
            case hy21 => (intro wS hSw; (try dsimp only at hSw); go_simp; (try with_reducible rfl))
            (try simp only [Act.put, zA, zB, zC])
            refine wpAnyH_take (i := 15) (oi := ⟨some 29, _, _, _, _, some (2, false)⟩) (v := ?v22) rfl (by kernel_rfl) (by kernel_rfl) (by kernel_rfl) (fun _ _ _ h => h) (Or.inl ⟨by rfl, ?hy22⟩) (by assumption) ?rest22
            case hy22 => (intro wS hSw; (try dsimp only at hSw); go_simp; (try with_reducible rfl))
            (try simp only [Act.put, zA, zB, zC])
            refine wpAnyH_take (i := 16) (oi := ⟨some 30, _, _, _, _, none⟩) (v := ?v23) rfl (by kernel_rfl) (by kernel_rfl) (by kernel_rfl) (fun _ _ _ h => h) (Or.inl ⟨by rfl, ?hy23⟩) (by assumption) ?rest23
            case hy23 => (intro wS hSw; (try dsimp only at hSw); go_simp; (try with_reducible rfl))
            (try simp only [Act.put, zA, zB, zC])
            refine wpAnyH_take (i := 17) (oi := ⟨some 31, _, _, _, _, none⟩) (v := ?v24) rfl (by kernel_rfl) (by kernel_rfl) (by kernel_rfl) (fun _ _ _ h => h) (Or.inl ⟨by rfl, ?hy24⟩) (by assumption) ?rest24
            case hy24 => (intro wS hSw; (try dsimp only at hSw); go_simp; (try with_reducible rfl))
            (try simp only [Act.put, zA, zB, zC])
            refine wpAnyH_take (i := 18) (oi := ⟨some 32, _, _, _, _, some (17, false)⟩) (v := undef) rfl (by kernel_rfl) (by kernel_rfl) (by kernel_rfl) (fun _ _ _ h => h) (Or.inr ⟨by rfl, rfl⟩) (by assumption) ?_
            (try simp only [Act.put, zA, zB, zC])
            refine wpAnyH_take (i := 19) (oi := ⟨some 33, _, _, _, _, some (17, false)⟩) (v := undef) rfl (by kernel_rfl) (by kernel_rfl) (by kernel_rfl) (fun _ _ _ h => h) (Or.inr ⟨by rfl, rfl⟩) (by assumption) ?_
            (try simp only [Act.put, zA, zB, zC])
            refine wpAnyH_take (i := 20) (oi := ⟨some 34, _, _, _, _, some (17, false)⟩) (v := undef) rfl (by kernel_rfl) (by kernel_rfl) (by kernel_rfl) (fun _ _ _ h => h) (Or.inr ⟨by rfl, rfl⟩) (by assumption) ?_
            (try simp only [Act.put, zA, zB, zC])
            refine wpAnyH_take (i := 21) (oi := ⟨some 35, _, _, _, _, some (17, false)⟩) (v := undef) rfl (by kernel_rfl) (by kernel_rfl) (by kernel_rfl) (fun _ _ _ h => h) (Or.inr ⟨by rfl, rfl⟩) (by assumption) ?_
            (try simp only [Act.put, zA, zB, zC])
            refine wpAnyH_take (i := 22) (oi := ⟨some 36, _, _, _, _, some (21, true)⟩) (v := undef) rfl (by kernel_rfl) (by kernel_rfl) (by kernel_rfl) (fun _ _ _ h => h) (Or.inr ⟨by rfl, rfl⟩) (by assumption) ?_
            (try simp only [Act.put, zA, zB, zC])
            refine wpAnyH_take (i := 23) (oi := ⟨some 37, _, _, _, _, some (21, true)⟩) (v := undef) rfl (by kernel_rfl) (by kernel_rfl) (by kernel_rfl) (fun _ _ _ h => h) (Or.inr ⟨by rfl, rfl⟩) (by assumption) ?_
            (try simp only [Act.put, zA, zB, zC])
            refine wpAnyH_take (i := 24) (oi := ⟨some 38, _, _, _, _, some (21, true)⟩) (v := undef) rfl (by kernel_rfl) (by kernel_rfl) (by kernel_rfl) (fun _ _ _ h => h) (Or.inr ⟨by rfl, rfl⟩) (by assumption) ?_
            (try simp only [Act.put, zA, zB, zC])
            refine wpAnyH_take (i := 25) (oi := ⟨some 39, _, _, _, _, some (21, true)⟩) (v := undef) rfl (by kernel_rfl) (by kernel_rfl) (by kernel_rfl) (fun _ _ _ h => h) (Or.inr ⟨by rfl, rfl⟩) (by assumption) ?_
            (try simp only [Act.put, zA, zB, zC])
            refine wpAnyH_take (i := 26) (oi := ⟨some 40, _, _, _, _, some (21, true)⟩) (v := undef) rfl (by kernel_rfl) (by kernel_rfl) (by kernel_rfl) (fun _ _ _ h => h) (Or.inr ⟨by rfl, rfl⟩) (by assumption) ?_
            (try simp only [Act.put, zA, zB, zC])
            refine wpAnyH_take (i := 27) (oi := ⟨some 41, _, _, _, _, some (21, true)⟩) (v := undef) rfl (by kernel_rfl) (by kernel_rfl) (by kernel_rfl) (fun _ _ _ h => h) (Or.inr ⟨by rfl, rfl⟩) (by assumption) ?_
            (try simp only [Act.put, zA, zB, zC])
            refine wpAnyH_take (i := 28) (oi := ⟨some 42, _, _, _, _, some (17, false)⟩) (v := undef) rfl (by kernel_rfl) (by kernel_rfl) (by kernel_rfl) (fun _ _ _ h => h) (Or.inr ⟨by rfl, rfl⟩) (by assumption) ?_
            (try simp only [Act.put, zA, zB, zC])
            refine wpAnyH_take (i := 29) (oi := ⟨some 43, _, _, _, _, none⟩) (v := ?v25) rfl (by kernel_rfl) (by kernel_rfl) (by kernel_rfl) (fun _ _ _ h => h) (Or.inl ⟨by rfl, ?hy25⟩) (by assumption) ?rest25
            case hy25 => (intro wS hSw; (try dsimp only at hSw); go_simp; (try with_reducible rfl))
            (try simp only [Act.put, zA, zB, zC])
            refine wpAnyH_done (by kernel_rfl) ?_ _
            clear g0 g1 g2 g3 g4 g5 g6 g7 g8 hct
            go_wp2
            go_ret
            exact ⟨ret_boolE HE.out.symm, (HF.out.trans F1.out).drew⟩
          · have he2 : (cols[q].ty != hkd) = false := by rw [bne, he]; rfl
            have HE : Hid (r = ks.all (typP cols)) := Lib.hid (by rw [HE0.out, HO4.out, if_pos rfl, he]; rfl)
            clear HE0 HO4
            go_enter Tryz.func76, Tryz.ntmps76
            go_wp2_with fail
            refine (FC.out _ (HV.out.non HF.out)).mono ?_
            rintro e w1 ⟨rfl, f1⟩
            obtain ⟨g0, g1, g2, g3, g4, g5, g6, g7, g8⟩ := pdB_cells (HB.out.fr f1 (fun e => e))
            dsimp only at g0 g1 g2 g3 g4 g5 g6 g7 g8
            obtain ⟨ca, rfl, hcn, hct⟩ := Ks.find (HV.out.non (HF.out.trans f1)) q hql
            generalize cols[q].ty = ct at *
            have F1 := Lib.hid f1
            clear f1 hcn
            unfold findI
            dsimp only
            go_wp2
            refine wp_region_held_drew (S := (fun W => W.cell? ⟨w.heap.size, 0, none⟩ = some (.int .i64 2) ∧ W.cell? ⟨w.heap.size, 6, none⟩ = some (.int .i64 hkd) ∧ W.cell? { block := (ca.add (q * 3)).block, off := (ca.add (q * 3)).off + 1 } = some (.int .i64 ct))) (by kernel_rfl) (by exact ⟨g0, g6, hct⟩) (fun hHeld => ?_)
            refine wpAnyH_take (i := 0) (oi := ⟨some 14, _, _, _, _, none⟩) (v := ?v26) rfl (by kernel_rfl) (by kernel_rfl) (by kernel_rfl) (fun _ _ _ h => h) (Or.inl ⟨by rfl, ?hy26⟩) (by assumption) ?rest26
            case hy26 => (intro wS hSw; (try dsimp only at hSw); go_simp; (try with_reducible rfl))
            (try simp only [Act.put, zA, zB, zC])
            refine wpAnyH_take (i := 1) (oi := ⟨some 15, _, _, _, _, none⟩) (v := ?v27) rfl (by kernel_rfl) (by kernel_rfl) (by kernel_rfl) (fun _ _ _ h => h) (Or.inl ⟨by rfl, ?hy27⟩) (by assumption) ?rest27
            case hy27 => (intro wS hSw; (try dsimp only at hSw); go_simp; (try with_reducible rfl))
            (try simp only [Act.put, zA, zB, zC])
            refine wpAnyH_take (i := 2) (oi := ⟨some 16, _, _, _, _, none⟩) (v := ?v28) rfl (by kernel_rfl) (by kernel_rfl) (by kernel_rfl) (fun _ _ _ h => h) (Or.inl ⟨by rfl, ?hy28⟩) (by assumption) ?rest28
            case hy28 => (intro wS hSw; (try dsimp only at hSw); go_simp; (try with_reducible rfl))
            (try simp only [Act.put, zA, zB, zC])
            refine wpAnyH_take (i := 3) (oi := ⟨some 17, _, _, _, _, some (2, false)⟩) (v := ?v29) rfl (by kernel_rfl) (by kernel_rfl) (by kernel_rfl) (fun _ _ _ h => h) (Or.inl ⟨by rfl, ?hy29⟩) (by assumption) ?rest29
            case hy29 => (intro wS hSw; (try dsimp only at hSw); go_simp; (try with_reducible rfl))
            (try simp only [Act.put, zA, zB, zC])
            refine wpAnyH_take (i := 4) (oi := ⟨some 18, _, _, _, _, some (2, false)⟩) (v := ?v30) rfl (by kernel_rfl) (by kernel_rfl) (by kernel_rfl) (fun _ _ _ h => h) (Or.inl ⟨by rfl, ?hy30⟩) (by assumption) ?rest30
            case hy30 => (intro wS hSw; (try dsimp only at hSw); go_simp; (try with_reducible rfl))
            (try simp only [Act.put, zA, zB, zC])
            refine wpAnyH_take (i := 5) (oi := ⟨some 19, _, _, _, _, some (2, false)⟩) (v := ?v31) rfl (by kernel_rfl) (by kernel_rfl) (by kernel_rfl) (fun _ _ _ h => h) (Or.inl ⟨by rfl, ?hy31⟩) (by assumption) ?rest31
            case hy31 => (intro wS hSw; (try dsimp only at hSw); go_simp; (try with_reducible rfl))
            (try simp only [Act.put, zA, zB, zC])
            refine wpAnyH_take (i := 6) (oi := ⟨some 20, _, _, _, _, some (2, false)⟩) (v := ?v32) rfl (by kernel_rfl) (by kernel_rfl) (by kernel_rfl) (fun _ _ _ h => h) (Or.inl ⟨by rfl, ?hy32⟩) (by assumption) ?rest32
            case hy32 => (intro wS hSw; (try dsimp only at hSw); go_simp; (try with_reducible rfl))
            (try simp only [Act.put, zA, zB, zC])
            refine wpAnyH_take (i := 7) (oi := ⟨some 21, _, _, _, _, some (6, true)⟩) (v := ?v33) rfl (by kernel_rfl) (by kernel_rfl) (by kernel_rfl) (fun _ _ _ h => h) (Or.inl ⟨by rfl, ?hy33⟩) (by assumption) ?rest33
            case hy33 => (intro wS hSw; (try dsimp only at hSw); go_simp; (try with_reducible rfl))
            (try simp only [Act.put, zA, zB, zC])
            refine wpAnyH_take (i := 8) (oi := ⟨some 22, _, _, _, _, some (6, true)⟩) (v := ?v34) rfl (by kernel_rfl) (by kernel_rfl) (by kernel_rfl) (fun _ _ _ h => h) (Or.inl ⟨by rfl, ?hy34⟩) (by assumption) ?rest34
            case hy34 => (intro wS hSw; (try dsimp only at hSw); go_simp; (try with_reducible rfl))
            (try simp only [Act.put, zA, zB, zC])
            refine wpAnyH_take (i := 9) (oi := ⟨some 23, _, _, _, _, some (6, true)⟩) (v := ?v35) rfl (by kernel_rfl) (by kernel_rfl) (by kernel_rfl) (fun _ _ _ h => h) (Or.inl ⟨by rfl, ?hy35⟩) (by assumption) ?rest35
            case hy35 => (intro wS hSw; (try dsimp only at hSw); go_simp; (try with_reducible rfl))
            (try simp only [Act.put, zA, zB, zC])
            refine wpAnyH_take (i := 10) (oi := ⟨some 24, _, _, _, _, some (6, true)⟩) (v := ?v36) rfl (by kernel_rfl) (by kernel_rfl) (by kernel_rfl) (fun _ _ _ h => h) (Or.inl ⟨by rfl, ?hy36⟩) (by assumption) ?rest36
            case hy36 => (intro wS hSw; (try dsimp only at hSw); go_simp; (try with_reducible rfl))
            (try simp only [Act.put, zA, zB, zC])
            refine wpAnyH_take (i := 11) (oi := ⟨some 25, _, _, _, _, some (6, true)⟩) (v := ?v37) rfl (by kernel_rfl) (by kernel_rfl) (by kernel_rfl) (fun _ _ _ h => h) (Or.inl ⟨by rfl, ?hy37⟩) (by assumption) ?rest37
            case hy37 => (intro wS hSw; (try dsimp only at hSw); go_simp; (try with_reducible rfl))
            (try simp only [Act.put, zA, zB, zC])
            refine wpAnyH_take (i := 12) (oi := ⟨some 26, _, _, _, _, some (6, true)⟩) (v := ?v38) rfl (by kernel_rfl) (by kernel_rfl) (by kernel_rfl) (fun _ _ _ h => h) (Or.inl ⟨by rfl, ?hy38⟩) (by assumption) ?rest38
            case hy38 => (intro wS hSw; (try dsimp only at hSw); go_simp; (try with_reducible rfl))
            (try simp only [Act.put, zA, zB, zC])
            refine wpAnyH_take (i := 13) (oi := ⟨some 27, _, _, _, _, some (6, true)⟩) (v := ?v39) rfl (by kernel_rfl) (by kernel_rfl) (by kernel_rfl) (fun _ _ _ h => h) (Or.inl ⟨by rfl, ?hy39⟩) (by assumption) ?rest39
            case hy39 => (intro wS hSw; (try dsimp only at hSw); go_simp; (try with_reducible rfl))
            (try simp only [Act.put, zA, zB, zC])
            refine wpAnyH_take (i := 14) (oi := ⟨some 28, _, _, _, _, some (6, true)⟩) (v := ?v40) rfl (by kernel_rfl) (by kernel_rfl) (by kernel_rfl) (fun _ _ _ h => h) (Or.inl ⟨by rfl, ?hy40⟩) (by assumption) ?rest40
            case hy40 => (intro wS hSw; (try dsimp only at hSw); go_simp; (try with_reducible rfl))
            (try simp only [Act.put, zA, zB, zC])
            refine wpAnyH_take (i := 15) (oi := ⟨some 29, _, _, _, _, some (2, false)⟩) (v := ?v41) rfl (by kernel_rfl) (by kernel_rfl) (by kernel_rfl) (fun _ _ _ h => h) (Or.inl ⟨by rfl, ?hy41⟩) (by assumption) ?rest41
            case hy41 => (intro wS hSw; (try dsimp only at hSw); go_simp; (try with_reducible rfl))
            (try simp only [Act.put, zA, zB, zC])
            refine wpAnyH_take (i := 16) (oi := ⟨some 30, _, _, _, _, none⟩) (v := ?v42) rfl (by kernel_rfl) (by kernel_rfl) (by kernel_rfl) (fun _ _ _ h => h) (Or.inl ⟨by rfl, ?hy42⟩) (by assumption) ?rest42
            case hy42 => (intro wS hSw; (try dsimp only at hSw); go_simp; (try with_reducible rfl))
            (try simp only [Act.put, zA, zB, zC])
            refine wpAnyH_take (i := 17) (oi := ⟨some 31, _, _, _, _, none⟩) (v := ?v43) rfl (by kernel_rfl) (by kernel_rfl) (by kernel_rfl) (fun _ _ _ h => h) (Or.inl ⟨by rfl, ?hy43⟩) (by assumption) ?rest43
            case hy43 => (intro wS hSw; (try dsimp only at hSw); go_simp; (try with_reducible rfl))
            (try simp only [Act.put, zA, zB, zC])
            refine wpAnyH_take (i := 18) (oi := ⟨some 32, _, _, _, _, some (17, false)⟩) (v := ?v44) rfl (by kernel_rfl) (by kernel_rfl) (by kernel_rfl) (fun _ _ _ h => h) (Or.inl ⟨by rfl, ?hy44⟩) (by assumption) ?rest44
            case hy44 => (intro wS hSw; (try dsimp only at hSw); go_simp; (try with_reducible rfl))
            (try simp only [Act.put, zA, zB, zC])
            refine wpAnyH_take (i := 19) (oi := ⟨some 33, _, _, _, _, some (17, false)⟩) (v := ?v45) rfl (by kernel_rfl) (by kernel_rfl) (by kernel_rfl) (fun _ _ _ h => h) (Or.inl ⟨by rfl, ?hy45⟩) (by assumption) ?rest45
            case hy45 => (intro wS hSw; (try dsimp only at hSw); go_simp; (try with_reducible rfl))
            (try simp only [Act.put, zA, zB, zC])
            refine wpAnyH_take (i := 20) (oi := ⟨some 34, _, _, _, _, some (17, false)⟩) (v := ?v46) rfl (by kernel_rfl) (by kernel_rfl) (by kernel_rfl) (fun _ _ _ h => h) (Or.inl ⟨by rfl, ?hy46⟩) (by assumption) ?rest46
            case hy46 => (intro wS hSw; (try dsimp only at hSw); go_simp; (try with_reducible rfl))
            (try simp only [Act.put, zA, zB, zC])
            refine wpAnyH_take (i := 21) (oi := ⟨some 35, _, _, _, _, some (17, false)⟩) (v := ?v47) rfl (by kernel_rfl) (by kernel_rfl) (by kernel_rfl) (fun _ _ _ h => h) (Or.inl ⟨by rfl, ?hy47⟩) (by assumption) ?rest47
            case hy47 => (intro wS hSw; (try dsimp only at hSw); go_simp; (try with_reducible rfl))
            (try simp only [Act.put, zA, zB, zC])
            refine wpAnyH_take (i := 22) (oi := ⟨some 36, _, _, _, _, some (21, true)⟩) (v := undef) rfl (by kernel_rfl) (by kernel_rfl) (by kernel_rfl) (fun _ _ _ h => h) (Or.inr ⟨by rfl, rfl⟩) (by assumption) ?_
            (try simp only [Act.put, zA, zB, zC])
            refine wpAnyH_take (i := 23) (oi := ⟨some 37, _, _, _, _, some (21, true)⟩) (v := undef) rfl (by kernel_rfl) (by kernel_rfl) (by kernel_rfl) (fun _ _ _ h => h) (Or.inr ⟨by rfl, rfl⟩) (by assumption) ?_
            (try simp only [Act.put, zA, zB, zC])
            refine wpAnyH_take (i := 24) (oi := ⟨some 38, _, _, _, _, some (21, true)⟩) (v := undef) rfl (by kernel_rfl) (by kernel_rfl) (by kernel_rfl) (fun _ _ _ h => h) (Or.inr ⟨by rfl, rfl⟩) (by assumption) ?_
            (try simp only [Act.put, zA, zB, zC])
            refine wpAnyH_take (i := 25) (oi := ⟨some 39, _, _, _, _, some (21, true)⟩) (v := undef) rfl (by kernel_rfl) (by kernel_rfl) (by kernel_rfl) (fun _ _ _ h => h) (Or.inr ⟨by rfl, rfl⟩) (by assumption) ?_
            (try simp only [Act.put, zA, zB, zC])
            refine wpAnyH_take (i := 26) (oi := ⟨some 40, _, _, _, _, some (21, true)⟩) (v := undef) rfl (by kernel_rfl) (by kernel_rfl) (by kernel_rfl) (fun _ _ _ h => h) (Or.inr ⟨by rfl, rfl⟩) (by assumption) ?_
            (try simp only [Act.put, zA, zB, zC])
            refine wpAnyH_take (i := 27) (oi := ⟨some 41, _, _, _, _, some (21, true)⟩) (v := undef) rfl (by kernel_rfl) (by kernel_rfl) (by kernel_rfl) (fun _ _ _ h => h) (Or.inr ⟨by rfl, rfl⟩) (by assumption) ?_
            (try simp only [Act.put, zA, zB, zC])
            refine wpAnyH_take (i := 28) (oi := ⟨some 42, _, _, _, _, some (17, false)⟩) (v := ?v48) rfl (by kernel_rfl) (by kernel_rfl) (by kernel_rfl) (fun _ _ _ h => h) (Or.inl ⟨by rfl, ?hy48⟩) (by assumption) ?rest48
            case hy48 => (intro wS hSw; (try dsimp only at hSw); go_simp; (try with_reducible rfl))
            (try simp only [Act.put, zA, zB, zC])
            refine wpAnyH_take (i := 29) (oi := ⟨some 43, _, _, _, _, none⟩) (v := ?v49) rfl (by kernel_rfl) (by kernel_rfl) (by kernel_rfl) (fun _ _ _ h => h) (Or.inl ⟨by rfl, ?hy49⟩) (by assumption) ?rest49
            case hy49 => (intro wS hSw; (try dsimp only at hSw); go_simp; (try with_reducible rfl))
            (try simp only [Act.put, zA, zB, zC])
            refine wpAnyH_done (by kernel_rfl) ?_ _
            clear g0 g1 g2 g3 g4 g5 g6 g7 g8 hct
            go_wp2
            go_loopw [6] (fun i wr => ∃ k : Nat, k ≤ n ∧ i = .int .i64 k ∧ Hid (∀ j (h : j < ks.length), j < k → typP cols ks[j] = true) ∧ Hid (Fr Non (w.alloc (.cells (pdC ⟨2, hc, hm, ⟨vn, vi, vt⟩, hkd, hp⟩ ⟨A, n, c⟩) 28)) wr)) (fun i _ => n - (intOf i).toNat)
            case atStart => exact ⟨0, Nat.zero_le _, rfl, Lib.hid (fun _ _ h => by omega), Lib.hid (F1.out.drew)⟩
            case round =>
              obtain ⟨k, hk, rfl, HT, FR⟩ := hrel
              have b8 := (HB.out.fr FR.out (fun e => e)).cell 8
              simp [pdC, kidV] at b8
              have HFw := Lib.hid (HF.out.trans FR.out)
              by_cases hlt : k < n
              · have hlt2 : k < ks.length := by have := HL.out; omega
                obtain ⟨a, t, hA, hc2, hkk, _⟩ := HK.out.elN HFw.out k hlt2
                have HC := Lib.hid (IH.out k hlt2 wr t (HV.out.non HFw.out) (hkk.non HFw.out))
                have HY := Lib.hid (fun e => typ_more (cols := cols) HT.out hlt2 e)
                have HX := Lib.hid (fun e => allT_no (cols := cols) hlt2 e)
                dsimp only at hA
                subst hA
                obtain ⟨c0, c1, c2, c3, c4, c5, c6, c7, c8⟩ := hc2
                clear hkk HT
                generalize typP cols ks[k] = y at *
                generalize ks[k].hd = x at *
                obtain ⟨xo, xc, xm, ⟨xn, xi, xt⟩, xk, xp⟩ := x
                obtain ⟨tA, tn, tc⟩ := t
                unfold pdV pdC kidV at HC
                dsimp only at HC c0 c1 c2 c3 c4 c5 c6 c7 c8
                cases y
                · have HE2 := Lib.hid (HX.out rfl)
                  clear HX HY
                  go_wp2_with fail
                  refine HC.out.mono ?_
                  rintro e w2 ⟨rfl, f2⟩
                  go_wp2
                  go_ret
                  exact ⟨ret_boolE (by rw [HE.out, HE2.out]), HFw.out.trans f2⟩
                · have HE2 := Lib.hid (HY.out rfl)
                  clear HX HY
                  go_wp2_with fail
                  refine HC.out.mono ?_
                  rintro e w2 ⟨rfl, f2⟩
                  go_wp2
                  go_roundw
                  case rel => exact ⟨k + 1, by omega, by go_num, HE2, Lib.hid (FR.out.trans f2)⟩
                  case measure => simp [intOf]; omega
              · have HE2 := Lib.hid (allT_yes (cols := cols) (by have := HL.out; omega) HT.out)
                clear HT
                go_wp2
                go_ret
                exact ⟨ret_boolE (by rw [HE.out, HE2.out]), HFw.out⟩
        · by_cases h4 : ho = 4
          · subst h4
            cases he : (cols[q].ty == 3)
            · have he2 : (cols[q].ty != 3) = true := by rw [bne, he]; rfl
              have HE : Hid (r = false) := Lib.hid (by rw [HE0.out, HO4.out, if_neg (by decide), if_pos rfl, he]; rfl)
              clear HE0 HO4 IH
              go_enter Tryz.func76, Tryz.ntmps76
              go_wp2_with fail
              refine (FC.out _ (HV.out.non HF.out)).mono ?_
              rintro e w1 ⟨rfl, f1⟩
              obtain ⟨g0, g1, g2, g3, g4, g5, g6, g7, g8⟩ := pdB_cells (HB.out.fr f1 (fun e => e))
              dsimp only at g0 g1 g2 g3 g4 g5 g6 g7 g8
              obtain ⟨ca, rfl, hcn, hct⟩ := Ks.find (HV.out.non (HF.out.trans f1)) q hql
              generalize cols[q].ty = ct at *
              have F1 := Lib.hid f1
              clear f1 hcn
              unfold findI
              dsimp only
              go_wp2
              refine wp_region_held_drew (S := (fun W => W.cell? ⟨w.heap.size, 0, none⟩ = some (.int .i64 4) ∧ W.cell? ⟨w.heap.size, 6, none⟩ = some (.int .i64 hkd) ∧ W.cell? { block := (ca.add (q * 3)).block, off := (ca.add (q * 3)).off + 1 } = some (.int .i64 ct))) (by kernel_rfl) (by exact ⟨g0, g6, hct⟩) (fun hHeld => ?_)
              refine wpAnyH_take (i := 0) (oi := ⟨some 14, _, _, _, _, none⟩) (v := ?v50) rfl (by kernel_rfl) (by kernel_rfl) (by kernel_rfl) (fun _ _ _ h => h) (Or.inl ⟨by rfl, ?hy50⟩) (by assumption) ?rest50
              case hy50 => (intro wS hSw; (try dsimp only at hSw); go_simp; (try with_reducible rfl))
              (try simp only [Act.put, zA, zB, zC])
              refine wpAnyH_take (i := 1) (oi := ⟨some 15, _, _, _, _, none⟩) (v := ?v51) rfl (by kernel_rfl) (by kernel_rfl) (by kernel_rfl) (fun _ _ _ h => h) (Or.inl ⟨by rfl, ?hy51⟩) (by assumption) ?rest51
              case hy51 => (intro wS hSw; (try dsimp only at hSw); go_simp; (try with_reducible rfl))
              (try simp only [Act.put, zA, zB, zC])
              refine wpAnyH_take (i := 2) (oi := ⟨some 16, _, _, _, _, none⟩) (v := ?v52) rfl (by kernel_rfl) (by kernel_rfl) (by kernel_rfl) (fun _ _ _ h => h) (Or.inl ⟨by rfl, ?hy52⟩) (by assumption) ?rest52
              case hy52 => (intro wS hSw; (try dsimp only at hSw); go_simp; (try with_reducible rfl))
              (try simp only [Act.put, zA, zB, zC])
              refine wpAnyH_take (i := 3) (oi := ⟨some 17, _, _, _, _, some (2, false)⟩) (v := ?v53) rfl (by kernel_rfl) (by kernel_rfl) (by kernel_rfl) (fun _ _ _ h => h) (Or.inl ⟨by rfl, ?hy53⟩) (by assumption) ?rest53
              case hy53 => (intro wS hSw; (try dsimp only at hSw); go_simp; (try with_reducible rfl))
              (try simp only [Act.put, zA, zB, zC])
              refine wpAnyH_take (i := 4) (oi := ⟨some 18, _, _, _, _, some (2, false)⟩) (v := ?v54) rfl (by kernel_rfl) (by kernel_rfl) (by kernel_rfl) (fun _ _ _ h => h) (Or.inl ⟨by rfl, ?hy54⟩) (by assumption) ?rest54
              case hy54 => (intro wS hSw; (try dsimp only at hSw); go_simp; (try with_reducible rfl))
              (try simp only [Act.put, zA, zB, zC])
              refine wpAnyH_take (i := 5) (oi := ⟨some 19, _, _, _, _, some (2, false)⟩) (v := ?v55) rfl (by kernel_rfl) (by kernel_rfl) (by kernel_rfl) (fun _ _ _ h => h) (Or.inl ⟨by rfl, ?hy55⟩) (by assumption) ?rest55
              case hy55 => (intro wS hSw; (try dsimp only at hSw); go_simp; (try with_reducible rfl))
              (try simp only [Act.put, zA, zB, zC])
              refine wpAnyH_take (i := 6) (oi := ⟨some 20, _, _, _, _, some (2, false)⟩) (v := ?v56) rfl (by kernel_rfl) (by kernel_rfl) (by kernel_rfl) (fun _ _ _ h => h) (Or.inl ⟨by rfl, ?hy56⟩) (by assumption) ?rest56
              case hy56 => (intro wS hSw; (try dsimp only at hSw); go_simp; (try with_reducible rfl))
              (try simp only [Act.put, zA, zB, zC])
              refine wpAnyH_take (i := 7) (oi := ⟨some 21, _, _, _, _, some (6, true)⟩) (v := undef) rfl (by kernel_rfl) (by kernel_rfl) (by kernel_rfl) (fun _ _ _ h => h) (Or.inr ⟨by rfl, rfl⟩) (by assumption) ?_
              (try simp only [Act.put, zA, zB, zC])
              refine wpAnyH_take (i := 8) (oi := ⟨some 22, _, _, _, _, some (6, true)⟩) (v := undef) rfl (by kernel_rfl) (by kernel_rfl) (by kernel_rfl) (fun _ _ _ h => h) (Or.inr ⟨by rfl, rfl⟩) (by assumption) ?_
              (try simp only [Act.put, zA, zB, zC])
              refine wpAnyH_take (i := 9) (oi := ⟨some 23, _, _, _, _, some (6, true)⟩) (v := undef) rfl (by kernel_rfl) (by kernel_rfl) (by kernel_rfl) (fun _ _ _ h => h) (Or.inr ⟨by rfl, rfl⟩) (by assumption) ?_
              (try simp only [Act.put, zA, zB, zC])
              refine wpAnyH_take (i := 10) (oi := ⟨some 24, _, _, _, _, some (6, true)⟩) (v := undef) rfl (by kernel_rfl) (by kernel_rfl) (by kernel_rfl) (fun _ _ _ h => h) (Or.inr ⟨by rfl, rfl⟩) (by assumption) ?_
              (try simp only [Act.put, zA, zB, zC])
              refine wpAnyH_take (i := 11) (oi := ⟨some 25, _, _, _, _, some (6, true)⟩) (v := undef) rfl (by kernel_rfl) (by kernel_rfl) (by kernel_rfl) (fun _ _ _ h => h) (Or.inr ⟨by rfl, rfl⟩) (by assumption) ?_
              (try simp only [Act.put, zA, zB, zC])
              refine wpAnyH_take (i := 12) (oi := ⟨some 26, _, _, _, _, some (6, true)⟩) (v := undef) rfl (by kernel_rfl) (by kernel_rfl) (by kernel_rfl) (fun _ _ _ h => h) (Or.inr ⟨by rfl, rfl⟩) (by assumption) ?_
              (try simp only [Act.put, zA, zB, zC])
              refine wpAnyH_take (i := 13) (oi := ⟨some 27, _, _, _, _, some (6, true)⟩) (v := undef) rfl (by kernel_rfl) (by kernel_rfl) (by kernel_rfl) (fun _ _ _ h => h) (Or.inr ⟨by rfl, rfl⟩) (by assumption) ?_
              (try simp only [Act.put, zA, zB, zC])
              refine wpAnyH_take (i := 14) (oi := ⟨some 28, _, _, _, _, some (6, true)⟩) (v := undef) rfl (by kernel_rfl) (by kernel_rfl) (by kernel_rfl) (fun _ _ _ h => h) (Or.inr ⟨by rfl, rfl⟩) (by assumption) ?_
              (try simp only [Act.put, zA, zB, zC])
              refine wpAnyH_take (i := 15) (oi := ⟨some 29, _, _, _, _, some (2, false)⟩) (v := ?v57) rfl (by kernel_rfl) (by kernel_rfl) (by kernel_rfl) (fun _ _ _ h => h) (Or.inl ⟨by rfl, ?hy57⟩) (by assumption) ?rest57
              case hy57 => (intro wS hSw; (try dsimp only at hSw); go_simp; (try with_reducible rfl))
              (try simp only [Act.put, zA, zB, zC])
              refine wpAnyH_take (i := 16) (oi := ⟨some 30, _, _, _, _, none⟩) (v := ?v58) rfl (by kernel_rfl) (by kernel_rfl) (by kernel_rfl) (fun _ _ _ h => h) (Or.inl ⟨by rfl, ?hy58⟩) (by assumption) ?rest58
              case hy58 => (intro wS hSw; (try dsimp only at hSw); go_simp; (try with_reducible rfl))
              (try simp only [Act.put, zA, zB, zC])
              refine wpAnyH_take (i := 17) (oi := ⟨some 31, _, _, _, _, none⟩) (v := ?v59) rfl (by kernel_rfl) (by kernel_rfl) (by kernel_rfl) (fun _ _ _ h => h) (Or.inl ⟨by rfl, ?hy59⟩) (by assumption) ?rest59
              case hy59 => (intro wS hSw; (try dsimp only at hSw); go_simp; (try with_reducible rfl))
              (try simp only [Act.put, zA, zB, zC])
              refine wpAnyH_take (i := 18) (oi := ⟨some 32, _, _, _, _, some (17, false)⟩) (v := ?v60) rfl (by kernel_rfl) (by kernel_rfl) (by kernel_rfl) (fun _ _ _ h => h) (Or.inl ⟨by rfl, ?hy60⟩) (by assumption) ?rest60
              case hy60 => (intro wS hSw; (try dsimp only at hSw); go_simp; (try with_reducible rfl))
              (try simp only [Act.put, zA, zB, zC])
              refine wpAnyH_take (i := 19) (oi := ⟨some 33, _, _, _, _, some (17, false)⟩) (v := ?v61) rfl (by kernel_rfl) (by kernel_rfl) (by kernel_rfl) (fun _ _ _ h => h) (Or.inl ⟨by rfl, ?hy61⟩) (by assumption) ?rest61
              case hy61 => (intro wS hSw; (try dsimp only at hSw); go_simp; (try with_reducible rfl))
              (try simp only [Act.put, zA, zB, zC])
              refine wpAnyH_take (i := 20) (oi := ⟨some 34, _, _, _, _, some (17, false)⟩) (v := ?v62) rfl (by kernel_rfl) (by kernel_rfl) (by kernel_rfl) (fun _ _ _ h => h) (Or.inl ⟨by rfl, ?hy62⟩) (by assumption) ?rest62
              case hy62 => (intro wS hSw; (try dsimp only at hSw); go_simp; (try with_reducible rfl))
              (try simp only [Act.put, zA, zB, zC])
              refine wpAnyH_take (i := 21) (oi := ⟨some 35, _, _, _, _, some (17, false)⟩) (v := ?v63) rfl (by kernel_rfl) (by kernel_rfl) (by kernel_rfl) (fun _ _ _ h => h) (Or.inl ⟨by rfl, ?hy63⟩) (by assumption) ?rest63
              case hy63 => (intro wS hSw; (try dsimp only at hSw); go_simp; (try with_reducible rfl))
              (try simp only [Act.put, zA, zB, zC])
              refine wpAnyH_take (i := 22) (oi := ⟨some 36, _, _, _, _, some (21, true)⟩) (v := ?v64) rfl (by kernel_rfl) (by kernel_rfl) (by kernel_rfl) (fun _ _ _ h => h) (Or.inl ⟨by rfl, ?hy64⟩) (by assumption) ?rest64
              case hy64 => (intro wS hSw; (try dsimp only at hSw); go_simp; (try with_reducible rfl))
              (try simp only [Act.put, zA, zB, zC])
              refine wpAnyH_take (i := 23) (oi := ⟨some 37, _, _, _, _, some (21, true)⟩) (v := ?v65) rfl (by kernel_rfl) (by kernel_rfl) (by kernel_rfl) (fun _ _ _ h => h) (Or.inl ⟨by rfl, ?hy65⟩) (by assumption) ?rest65
              case hy65 => (intro wS hSw; (try dsimp only at hSw); go_simp; (try with_reducible rfl))
              (try simp only [Act.put, zA, zB, zC])
              refine wpAnyH_take (i := 24) (oi := ⟨some 38, _, _, _, _, some (21, true)⟩) (v := ?v66) rfl (by kernel_rfl) (by kernel_rfl) (by kernel_rfl) (fun _ _ _ h => h) (Or.inl ⟨by rfl, ?hy66⟩) (by assumption) ?rest66
              case hy66 => (intro wS hSw; (try dsimp only at hSw); go_simp; (try with_reducible rfl))
              (try simp only [Act.put, zA, zB, zC])
              refine wpAnyH_take (i := 25) (oi := ⟨some 39, _, _, _, _, some (21, true)⟩) (v := ?v67) rfl (by kernel_rfl) (by kernel_rfl) (by kernel_rfl) (fun _ _ _ h => h) (Or.inl ⟨by rfl, ?hy67⟩) (by assumption) ?rest67
              case hy67 => (intro wS hSw; (try dsimp only at hSw); go_simp; (try with_reducible rfl))
              (try simp only [Act.put, zA, zB, zC])
              refine wpAnyH_take (i := 26) (oi := ⟨some 40, _, _, _, _, some (21, true)⟩) (v := ?v68) rfl (by kernel_rfl) (by kernel_rfl) (by kernel_rfl) (fun _ _ _ h => h) (Or.inl ⟨by rfl, ?hy68⟩) (by assumption) ?rest68
              case hy68 => (intro wS hSw; (try dsimp only at hSw); go_simp; (try with_reducible rfl))
              (try simp only [Act.put, zA, zB, zC])
              refine wpAnyH_take (i := 27) (oi := ⟨some 41, _, _, _, _, some (21, true)⟩) (v := ?v69) rfl (by kernel_rfl) (by kernel_rfl) (by kernel_rfl) (fun _ _ _ h => h) (Or.inl ⟨by rfl, ?hy69⟩) (by assumption) ?rest69
              case hy69 => (intro wS hSw; (try dsimp only at hSw); go_simp; (try with_reducible rfl))
              (try simp only [Act.put, zA, zB, zC])
              refine wpAnyH_take (i := 28) (oi := ⟨some 42, _, _, _, _, some (17, false)⟩) (v := ?v70) rfl (by kernel_rfl) (by kernel_rfl) (by kernel_rfl) (fun _ _ _ h => h) (Or.inl ⟨by rfl, ?hy70⟩) (by assumption) ?rest70
              case hy70 => (intro wS hSw; (try dsimp only at hSw); go_simp; (try with_reducible rfl))
              (try simp only [Act.put, zA, zB, zC])
              refine wpAnyH_take (i := 29) (oi := ⟨some 43, _, _, _, _, none⟩) (v := ?v71) rfl (by kernel_rfl) (by kernel_rfl) (by kernel_rfl) (fun _ _ _ h => h) (Or.inl ⟨by rfl, ?hy71⟩) (by assumption) ?rest71
              case hy71 => (intro wS hSw; (try dsimp only at hSw); go_simp; (try with_reducible rfl))
              (try simp only [Act.put, zA, zB, zC])
              refine wpAnyH_done (by kernel_rfl) ?_ _
              clear g0 g1 g2 g3 g4 g5 g6 g7 g8 hct
              go_wp2
              go_ret
              exact ⟨ret_boolE HE.out.symm, (HF.out.trans F1.out).drew⟩
            · have he2 : (cols[q].ty != 3) = false := by rw [bne, he]; rfl
              have HE : Hid (r = ks.all (typP cols)) := Lib.hid (by rw [HE0.out, HO4.out, if_neg (by decide), if_pos rfl, he]; rfl)
              clear HE0 HO4
              go_enter Tryz.func76, Tryz.ntmps76
              go_wp2_with fail
              refine (FC.out _ (HV.out.non HF.out)).mono ?_
              rintro e w1 ⟨rfl, f1⟩
              obtain ⟨g0, g1, g2, g3, g4, g5, g6, g7, g8⟩ := pdB_cells (HB.out.fr f1 (fun e => e))
              dsimp only at g0 g1 g2 g3 g4 g5 g6 g7 g8
              obtain ⟨ca, rfl, hcn, hct⟩ := Ks.find (HV.out.non (HF.out.trans f1)) q hql
              generalize cols[q].ty = ct at *
              have F1 := Lib.hid f1
              clear f1 hcn
              unfold findI
              dsimp only
              go_wp2
              refine wp_region_held_drew (S := (fun W => W.cell? ⟨w.heap.size, 0, none⟩ = some (.int .i64 4) ∧ W.cell? ⟨w.heap.size, 6, none⟩ = some (.int .i64 hkd) ∧ W.cell? { block := (ca.add (q * 3)).block, off := (ca.add (q * 3)).off + 1 } = some (.int .i64 ct))) (by kernel_rfl) (by exact ⟨g0, g6, hct⟩) (fun hHeld => ?_)
              refine wpAnyH_take (i := 0) (oi := ⟨some 14, _, _, _, _, none⟩) (v := ?v72) rfl (by kernel_rfl) (by kernel_rfl) (by kernel_rfl) (fun _ _ _ h => h) (Or.inl ⟨by rfl, ?hy72⟩) (by assumption) ?rest72
              case hy72 => (intro wS hSw; (try dsimp only at hSw); go_simp; (try with_reducible rfl))
              (try simp only [Act.put, zA, zB, zC])
              refine wpAnyH_take (i := 1) (oi := ⟨some 15, _, _, _, _, none⟩) (v := ?v73) rfl (by kernel_rfl) (by kernel_rfl) (by kernel_rfl) (fun _ _ _ h => h) (Or.inl ⟨by rfl, ?hy73⟩) (by assumption) ?rest73
              case hy73 => (intro wS hSw; (try dsimp only at hSw); go_simp; (try with_reducible rfl))
              (try simp only [Act.put, zA, zB, zC])
              refine wpAnyH_take (i := 2) (oi := ⟨some 16, _, _, _, _, none⟩) (v := ?v74) rfl (by kernel_rfl) (by kernel_rfl) (by kernel_rfl) (fun _ _ _ h => h) (Or.inl ⟨by rfl, ?hy74⟩) (by assumption) ?rest74
              case hy74 => (intro wS hSw; (try dsimp only at hSw); go_simp; (try with_reducible rfl))
              (try simp only [Act.put, zA, zB, zC])
              refine wpAnyH_take (i := 3) (oi := ⟨some 17, _, _, _, _, some (2, false)⟩) (v := ?v75) rfl (by kernel_rfl) (by kernel_rfl) (by kernel_rfl) (fun _ _ _ h => h) (Or.inl ⟨by rfl, ?hy75⟩) (by assumption) ?rest75
              case hy75 => (intro wS hSw; (try dsimp only at hSw); go_simp; (try with_reducible rfl))
              (try simp only [Act.put, zA, zB, zC])
              refine wpAnyH_take (i := 4) (oi := ⟨some 18, _, _, _, _, some (2, false)⟩) (v := ?v76) rfl (by kernel_rfl) (by kernel_rfl) (by kernel_rfl) (fun _ _ _ h => h) (Or.inl ⟨by rfl, ?hy76⟩) (by assumption) ?rest76
              case hy76 => (intro wS hSw; (try dsimp only at hSw); go_simp; (try with_reducible rfl))
              (try simp only [Act.put, zA, zB, zC])
              refine wpAnyH_take (i := 5) (oi := ⟨some 19, _, _, _, _, some (2, false)⟩) (v := ?v77) rfl (by kernel_rfl) (by kernel_rfl) (by kernel_rfl) (fun _ _ _ h => h) (Or.inl ⟨by rfl, ?hy77⟩) (by assumption) ?rest77
              case hy77 => (intro wS hSw; (try dsimp only at hSw); go_simp; (try with_reducible rfl))
              (try simp only [Act.put, zA, zB, zC])
              refine wpAnyH_take (i := 6) (oi := ⟨some 20, _, _, _, _, some (2, false)⟩) (v := ?v78) rfl (by kernel_rfl) (by kernel_rfl) (by kernel_rfl) (fun _ _ _ h => h) (Or.inl ⟨by rfl, ?hy78⟩) (by assumption) ?rest78
              case hy78 => (intro wS hSw; (try dsimp only at hSw); go_simp; (try with_reducible rfl))
              (try simp only [Act.put, zA, zB, zC])
              refine wpAnyH_take (i := 7) (oi := ⟨some 21, _, _, _, _, some (6, true)⟩) (v := undef) rfl (by kernel_rfl) (by kernel_rfl) (by kernel_rfl) (fun _ _ _ h => h) (Or.inr ⟨by rfl, rfl⟩) (by assumption) ?_
              (try simp only [Act.put, zA, zB, zC])
              refine wpAnyH_take (i := 8) (oi := ⟨some 22, _, _, _, _, some (6, true)⟩) (v := undef) rfl (by kernel_rfl) (by kernel_rfl) (by kernel_rfl) (fun _ _ _ h => h) (Or.inr ⟨by rfl, rfl⟩) (by assumption) ?_
              (try simp only [Act.put, zA, zB, zC])
              refine wpAnyH_take (i := 9) (oi := ⟨some 23, _, _, _, _, some (6, true)⟩) (v := undef) rfl (by kernel_rfl) (by kernel_rfl) (by kernel_rfl) (fun _ _ _ h => h) (Or.inr ⟨by rfl, rfl⟩) (by assumption) ?_
              (try simp only [Act.put, zA, zB, zC])
              refine wpAnyH_take (i := 10) (oi := ⟨some 24, _, _, _, _, some (6, true)⟩) (v := undef) rfl (by kernel_rfl) (by kernel_rfl) (by kernel_rfl) (fun _ _ _ h => h) (Or.inr ⟨by rfl, rfl⟩) (by assumption) ?_
              (try simp only [Act.put, zA, zB, zC])
              refine wpAnyH_take (i := 11) (oi := ⟨some 25, _, _, _, _, some (6, true)⟩) (v := undef) rfl (by kernel_rfl) (by kernel_rfl) (by kernel_rfl) (fun _ _ _ h => h) (Or.inr ⟨by rfl, rfl⟩) (by assumption) ?_
              (try simp only [Act.put, zA, zB, zC])
              refine wpAnyH_take (i := 12) (oi := ⟨some 26, _, _, _, _, some (6, true)⟩) (v := undef) rfl (by kernel_rfl) (by kernel_rfl) (by kernel_rfl) (fun _ _ _ h => h) (Or.inr ⟨by rfl, rfl⟩) (by assumption) ?_
              (try simp only [Act.put, zA, zB, zC])
              refine wpAnyH_take (i := 13) (oi := ⟨some 27, _, _, _, _, some (6, true)⟩) (v := undef) rfl (by kernel_rfl) (by kernel_rfl) (by kernel_rfl) (fun _ _ _ h => h) (Or.inr ⟨by rfl, rfl⟩) (by assumption) ?_
              (try simp only [Act.put, zA, zB, zC])
              refine wpAnyH_take (i := 14) (oi := ⟨some 28, _, _, _, _, some (6, true)⟩) (v := undef) rfl (by kernel_rfl) (by kernel_rfl) (by kernel_rfl) (fun _ _ _ h => h) (Or.inr ⟨by rfl, rfl⟩) (by assumption) ?_
              (try simp only [Act.put, zA, zB, zC])
              refine wpAnyH_take (i := 15) (oi := ⟨some 29, _, _, _, _, some (2, false)⟩) (v := ?v79) rfl (by kernel_rfl) (by kernel_rfl) (by kernel_rfl) (fun _ _ _ h => h) (Or.inl ⟨by rfl, ?hy79⟩) (by assumption) ?rest79
              case hy79 => (intro wS hSw; (try dsimp only at hSw); go_simp; (try with_reducible rfl))
              (try simp only [Act.put, zA, zB, zC])
              refine wpAnyH_take (i := 16) (oi := ⟨some 30, _, _, _, _, none⟩) (v := ?v80) rfl (by kernel_rfl) (by kernel_rfl) (by kernel_rfl) (fun _ _ _ h => h) (Or.inl ⟨by rfl, ?hy80⟩) (by assumption) ?rest80
              case hy80 => (intro wS hSw; (try dsimp only at hSw); go_simp; (try with_reducible rfl))
              (try simp only [Act.put, zA, zB, zC])
              refine wpAnyH_take (i := 17) (oi := ⟨some 31, _, _, _, _, none⟩) (v := ?v81) rfl (by kernel_rfl) (by kernel_rfl) (by kernel_rfl) (fun _ _ _ h => h) (Or.inl ⟨by rfl, ?hy81⟩) (by assumption) ?rest81
              case hy81 => (intro wS hSw; (try dsimp only at hSw); go_simp; (try with_reducible rfl))
              (try simp only [Act.put, zA, zB, zC])
              refine wpAnyH_take (i := 18) (oi := ⟨some 32, _, _, _, _, some (17, false)⟩) (v := ?v82) rfl (by kernel_rfl) (by kernel_rfl) (by kernel_rfl) (fun _ _ _ h => h) (Or.inl ⟨by rfl, ?hy82⟩) (by assumption) ?rest82
              case hy82 => (intro wS hSw; (try dsimp only at hSw); go_simp; (try with_reducible rfl))
              (try simp only [Act.put, zA, zB, zC])
              refine wpAnyH_take (i := 19) (oi := ⟨some 33, _, _, _, _, some (17, false)⟩) (v := ?v83) rfl (by kernel_rfl) (by kernel_rfl) (by kernel_rfl) (fun _ _ _ h => h) (Or.inl ⟨by rfl, ?hy83⟩) (by assumption) ?rest83
              case hy83 => (intro wS hSw; (try dsimp only at hSw); go_simp; (try with_reducible rfl))
              (try simp only [Act.put, zA, zB, zC])
              refine wpAnyH_take (i := 20) (oi := ⟨some 34, _, _, _, _, some (17, false)⟩) (v := ?v84) rfl (by kernel_rfl) (by kernel_rfl) (by kernel_rfl) (fun _ _ _ h => h) (Or.inl ⟨by rfl, ?hy84⟩) (by assumption) ?rest84
              case hy84 => (intro wS hSw; (try dsimp only at hSw); go_simp; (try with_reducible rfl))
              (try simp only [Act.put, zA, zB, zC])
              refine wpAnyH_take (i := 21) (oi := ⟨some 35, _, _, _, _, some (17, false)⟩) (v := ?v85) rfl (by kernel_rfl) (by kernel_rfl) (by kernel_rfl) (fun _ _ _ h => h) (Or.inl ⟨by rfl, ?hy85⟩) (by assumption) ?rest85
              case hy85 => (intro wS hSw; (try dsimp only at hSw); go_simp; (try with_reducible rfl))
              (try simp only [Act.put, zA, zB, zC])
              refine wpAnyH_take (i := 22) (oi := ⟨some 36, _, _, _, _, some (21, true)⟩) (v := ?v86) rfl (by kernel_rfl) (by kernel_rfl) (by kernel_rfl) (fun _ _ _ h => h) (Or.inl ⟨by rfl, ?hy86⟩) (by assumption) ?rest86
              case hy86 => (intro wS hSw; (try dsimp only at hSw); go_simp; (try with_reducible rfl))
              (try simp only [Act.put, zA, zB, zC])
              refine wpAnyH_take (i := 23) (oi := ⟨some 37, _, _, _, _, some (21, true)⟩) (v := ?v87) rfl (by kernel_rfl) (by kernel_rfl) (by kernel_rfl) (fun _ _ _ h => h) (Or.inl ⟨by rfl, ?hy87⟩) (by assumption) ?rest87
              case hy87 => (intro wS hSw; (try dsimp only at hSw); go_simp; (try with_reducible rfl))
              (try simp only [Act.put, zA, zB, zC])
              refine wpAnyH_take (i := 24) (oi := ⟨some 38, _, _, _, _, some (21, true)⟩) (v := ?v88) rfl (by kernel_rfl) (by kernel_rfl) (by kernel_rfl) (fun _ _ _ h => h) (Or.inl ⟨by rfl, ?hy88⟩) (by assumption) ?rest88
              case hy88 => (intro wS hSw; (try dsimp only at hSw); go_simp; (try with_reducible rfl))
              (try simp only [Act.put, zA, zB, zC])
              refine wpAnyH_take (i := 25) (oi := ⟨some 39, _, _, _, _, some (21, true)⟩) (v := ?v89) rfl (by kernel_rfl) (by kernel_rfl) (by kernel_rfl) (fun _ _ _ h => h) (Or.inl ⟨by rfl, ?hy89⟩) (by assumption) ?rest89
              case hy89 => (intro wS hSw; (try dsimp only at hSw); go_simp; (try with_reducible rfl))
              (try simp only [Act.put, zA, zB, zC])
              refine wpAnyH_take (i := 26) (oi := ⟨some 40, _, _, _, _, some (21, true)⟩) (v := ?v90) rfl (by kernel_rfl) (by kernel_rfl) (by kernel_rfl) (fun _ _ _ h => h) (Or.inl ⟨by rfl, ?hy90⟩) (by assumption) ?rest90
              case hy90 => (intro wS hSw; (try dsimp only at hSw); go_simp; (try with_reducible rfl))
              (try simp only [Act.put, zA, zB, zC])
              refine wpAnyH_take (i := 27) (oi := ⟨some 41, _, _, _, _, some (21, true)⟩) (v := ?v91) rfl (by kernel_rfl) (by kernel_rfl) (by kernel_rfl) (fun _ _ _ h => h) (Or.inl ⟨by rfl, ?hy91⟩) (by assumption) ?rest91
              case hy91 => (intro wS hSw; (try dsimp only at hSw); go_simp; (try with_reducible rfl))
              (try simp only [Act.put, zA, zB, zC])
              refine wpAnyH_take (i := 28) (oi := ⟨some 42, _, _, _, _, some (17, false)⟩) (v := ?v92) rfl (by kernel_rfl) (by kernel_rfl) (by kernel_rfl) (fun _ _ _ h => h) (Or.inl ⟨by rfl, ?hy92⟩) (by assumption) ?rest92
              case hy92 => (intro wS hSw; (try dsimp only at hSw); go_simp; (try with_reducible rfl))
              (try simp only [Act.put, zA, zB, zC])
              refine wpAnyH_take (i := 29) (oi := ⟨some 43, _, _, _, _, none⟩) (v := ?v93) rfl (by kernel_rfl) (by kernel_rfl) (by kernel_rfl) (fun _ _ _ h => h) (Or.inl ⟨by rfl, ?hy93⟩) (by assumption) ?rest93
              case hy93 => (intro wS hSw; (try dsimp only at hSw); go_simp; (try with_reducible rfl))
              (try simp only [Act.put, zA, zB, zC])
              refine wpAnyH_done (by kernel_rfl) ?_ _
              clear g0 g1 g2 g3 g4 g5 g6 g7 g8 hct
              go_wp2
              go_loopw [6] (fun i wr => ∃ k : Nat, k ≤ n ∧ i = .int .i64 k ∧ Hid (∀ j (h : j < ks.length), j < k → typP cols ks[j] = true) ∧ Hid (Fr Non (w.alloc (.cells (pdC ⟨4, hc, hm, ⟨vn, vi, vt⟩, hkd, hp⟩ ⟨A, n, c⟩) 28)) wr)) (fun i _ => n - (intOf i).toNat)
              case atStart => exact ⟨0, Nat.zero_le _, rfl, Lib.hid (fun _ _ h => by omega), Lib.hid (F1.out.drew)⟩
              case round =>
                obtain ⟨k, hk, rfl, HT, FR⟩ := hrel
                have b8 := (HB.out.fr FR.out (fun e => e)).cell 8
                simp [pdC, kidV] at b8
                have HFw := Lib.hid (HF.out.trans FR.out)
                by_cases hlt : k < n
                · have hlt2 : k < ks.length := by have := HL.out; omega
                  obtain ⟨a, t, hA, hc2, hkk, _⟩ := HK.out.elN HFw.out k hlt2
                  have HC := Lib.hid (IH.out k hlt2 wr t (HV.out.non HFw.out) (hkk.non HFw.out))
                  have HY := Lib.hid (fun e => typ_more (cols := cols) HT.out hlt2 e)
                  have HX := Lib.hid (fun e => allT_no (cols := cols) hlt2 e)
                  dsimp only at hA
                  subst hA
                  obtain ⟨c0, c1, c2, c3, c4, c5, c6, c7, c8⟩ := hc2
                  clear hkk HT
                  generalize typP cols ks[k] = y at *
                  generalize ks[k].hd = x at *
                  obtain ⟨xo, xc, xm, ⟨xn, xi, xt⟩, xk, xp⟩ := x
                  obtain ⟨tA, tn, tc⟩ := t
                  unfold pdV pdC kidV at HC
                  dsimp only at HC c0 c1 c2 c3 c4 c5 c6 c7 c8
                  cases y
                  · have HE2 := Lib.hid (HX.out rfl)
                    clear HX HY
                    go_wp2_with fail
                    refine HC.out.mono ?_
                    rintro e w2 ⟨rfl, f2⟩
                    go_wp2
                    go_ret
                    exact ⟨ret_boolE (by rw [HE.out, HE2.out]), HFw.out.trans f2⟩
                  · have HE2 := Lib.hid (HY.out rfl)
                    clear HX HY
                    go_wp2_with fail
                    refine HC.out.mono ?_
                    rintro e w2 ⟨rfl, f2⟩
                    go_wp2
                    go_roundw
                    case rel => exact ⟨k + 1, by omega, by go_num, HE2, Lib.hid (FR.out.trans f2)⟩
                    case measure => simp [intOf]; omega
                · have HE2 := Lib.hid (allT_yes (cols := cols) (by have := HL.out; omega) HT.out)
                  clear HT
                  go_wp2
                  go_ret
                  exact ⟨ret_boolE (by rw [HE.out, HE2.out]), HFw.out⟩
          · have hb3 : (ho == 2) = false := by rw [beq_eq_false_iff_ne]; exact h2
            have hb4 : (ho == 4) = false := by rw [beq_eq_false_iff_ne]; exact h4
            have HE : Hid (r = ks.all (typP cols)) := Lib.hid (by rw [HE0.out, HO4.out, if_neg h2, if_neg h4]; rfl)
            clear HE0 HO4
            go_enter Tryz.func76, Tryz.ntmps76
            go_wp2_with fail
            refine (FC.out _ (HV.out.non HF.out)).mono ?_
            rintro e w1 ⟨rfl, f1⟩
            obtain ⟨g0, g1, g2, g3, g4, g5, g6, g7, g8⟩ := pdB_cells (HB.out.fr f1 (fun e => e))
            dsimp only at g0 g1 g2 g3 g4 g5 g6 g7 g8
            obtain ⟨ca, rfl, hcn, hct⟩ := Ks.find (HV.out.non (HF.out.trans f1)) q hql
            generalize cols[q].ty = ct at *
            have F1 := Lib.hid f1
            clear f1 hcn
            unfold findI
            dsimp only
            go_wp2
            refine wp_region_held_drew (S := (fun W => W.cell? ⟨w.heap.size, 0, none⟩ = some (.int .i64 ho) ∧ W.cell? ⟨w.heap.size, 6, none⟩ = some (.int .i64 hkd) ∧ W.cell? { block := (ca.add (q * 3)).block, off := (ca.add (q * 3)).off + 1 } = some (.int .i64 ct))) (by kernel_rfl) (by exact ⟨g0, g6, hct⟩) (fun hHeld => ?_)
            refine wpAnyH_take (i := 0) (oi := ⟨some 14, _, _, _, _, none⟩) (v := ?v94) rfl (by kernel_rfl) (by kernel_rfl) (by kernel_rfl) (fun _ _ _ h => h) (Or.inl ⟨by rfl, ?hy94⟩) (by assumption) ?rest94
            case hy94 => (intro wS hSw; (try dsimp only at hSw); go_simp; (try with_reducible rfl))
            (try simp only [Act.put, zA, zB, zC])
            refine wpAnyH_take (i := 1) (oi := ⟨some 15, _, _, _, _, none⟩) (v := ?v95) rfl (by kernel_rfl) (by kernel_rfl) (by kernel_rfl) (fun _ _ _ h => h) (Or.inl ⟨by rfl, ?hy95⟩) (by assumption) ?rest95
            case hy95 => (intro wS hSw; (try dsimp only at hSw); go_simp; (try with_reducible rfl))
            (try simp only [Act.put, zA, zB, zC])
            refine wpAnyH_take (i := 2) (oi := ⟨some 16, _, _, _, _, none⟩) (v := ?v96) rfl (by kernel_rfl) (by kernel_rfl) (by kernel_rfl) (fun _ _ _ h => h) (Or.inl ⟨by rfl, ?hy96⟩) (by assumption) ?rest96
            case hy96 => (intro wS hSw; (try dsimp only at hSw); go_simp; (try with_reducible rfl))
            (try simp only [Act.put, zA, zB, zC])
            refine wpAnyH_take (i := 3) (oi := ⟨some 17, _, _, _, _, some (2, false)⟩) (v := ?v97) rfl (by kernel_rfl) (by kernel_rfl) (by kernel_rfl) (fun _ _ _ h => h) (Or.inl ⟨by rfl, ?hy97⟩) (by assumption) ?rest97
            case hy97 => (intro wS hSw; (try dsimp only at hSw); go_simp; (try with_reducible rfl))
            (try simp only [Act.put, zA, zB, zC])
            refine wpAnyH_take (i := 4) (oi := ⟨some 18, _, _, _, _, some (2, false)⟩) (v := ?v98) rfl (by kernel_rfl) (by kernel_rfl) (by kernel_rfl) (fun _ _ _ h => h) (Or.inl ⟨by rfl, ?hy98⟩) (by assumption) ?rest98
            case hy98 => (intro wS hSw; (try dsimp only at hSw); go_simp; (try with_reducible rfl))
            (try simp only [Act.put, zA, zB, zC])
            refine wpAnyH_take (i := 5) (oi := ⟨some 19, _, _, _, _, some (2, false)⟩) (v := ?v99) rfl (by kernel_rfl) (by kernel_rfl) (by kernel_rfl) (fun _ _ _ h => h) (Or.inl ⟨by rfl, ?hy99⟩) (by assumption) ?rest99
            case hy99 => (intro wS hSw; (try dsimp only at hSw); go_simp; (try with_reducible rfl))
            (try simp only [Act.put, zA, zB, zC])
            refine wpAnyH_take (i := 6) (oi := ⟨some 20, _, _, _, _, some (2, false)⟩) (v := ?v100) rfl (by kernel_rfl) (by kernel_rfl) (by kernel_rfl) (fun _ _ _ h => h) (Or.inl ⟨by rfl, ?hy100⟩) (by assumption) ?rest100
            case hy100 => (intro wS hSw; (try dsimp only at hSw); go_simp; (try with_reducible rfl))
            (try simp only [Act.put, zA, zB, zC])
            refine wpAnyH_take (i := 7) (oi := ⟨some 21, _, _, _, _, some (6, true)⟩) (v := undef) rfl (by kernel_rfl) (by kernel_rfl) (by kernel_rfl) (fun _ _ _ h => h) (Or.inr ⟨by rfl, rfl⟩) (by assumption) ?_
            (try simp only [Act.put, zA, zB, zC])
            refine wpAnyH_take (i := 8) (oi := ⟨some 22, _, _, _, _, some (6, true)⟩) (v := undef) rfl (by kernel_rfl) (by kernel_rfl) (by kernel_rfl) (fun _ _ _ h => h) (Or.inr ⟨by rfl, rfl⟩) (by assumption) ?_
            (try simp only [Act.put, zA, zB, zC])
            refine wpAnyH_take (i := 9) (oi := ⟨some 23, _, _, _, _, some (6, true)⟩) (v := undef) rfl (by kernel_rfl) (by kernel_rfl) (by kernel_rfl) (fun _ _ _ h => h) (Or.inr ⟨by rfl, rfl⟩) (by assumption) ?_
            (try simp only [Act.put, zA, zB, zC])
            refine wpAnyH_take (i := 10) (oi := ⟨some 24, _, _, _, _, some (6, true)⟩) (v := undef) rfl (by kernel_rfl) (by kernel_rfl) (by kernel_rfl) (fun _ _ _ h => h) (Or.inr ⟨by rfl, rfl⟩) (by assumption) ?_
            (try simp only [Act.put, zA, zB, zC])
            refine wpAnyH_take (i := 11) (oi := ⟨some 25, _, _, _, _, some (6, true)⟩) (v := undef) rfl (by kernel_rfl) (by kernel_rfl) (by kernel_rfl) (fun _ _ _ h => h) (Or.inr ⟨by rfl, rfl⟩) (by assumption) ?_
            (try simp only [Act.put, zA, zB, zC])
            refine wpAnyH_take (i := 12) (oi := ⟨some 26, _, _, _, _, some (6, true)⟩) (v := undef) rfl (by kernel_rfl) (by kernel_rfl) (by kernel_rfl) (fun _ _ _ h => h) (Or.inr ⟨by rfl, rfl⟩) (by assumption) ?_
            (try simp only [Act.put, zA, zB, zC])
            refine wpAnyH_take (i := 13) (oi := ⟨some 27, _, _, _, _, some (6, true)⟩) (v := undef) rfl (by kernel_rfl) (by kernel_rfl) (by kernel_rfl) (fun _ _ _ h => h) (Or.inr ⟨by rfl, rfl⟩) (by assumption) ?_
            (try simp only [Act.put, zA, zB, zC])
            refine wpAnyH_take (i := 14) (oi := ⟨some 28, _, _, _, _, some (6, true)⟩) (v := undef) rfl (by kernel_rfl) (by kernel_rfl) (by kernel_rfl) (fun _ _ _ h => h) (Or.inr ⟨by rfl, rfl⟩) (by assumption) ?_
            (try simp only [Act.put, zA, zB, zC])
            refine wpAnyH_take (i := 15) (oi := ⟨some 29, _, _, _, _, some (2, false)⟩) (v := ?v101) rfl (by kernel_rfl) (by kernel_rfl) (by kernel_rfl) (fun _ _ _ h => h) (Or.inl ⟨by rfl, ?hy101⟩) (by assumption) ?rest101
            case hy101 => (intro wS hSw; (try dsimp only at hSw); go_simp; (try with_reducible rfl))
            (try simp only [Act.put, zA, zB, zC])
            refine wpAnyH_take (i := 16) (oi := ⟨some 30, _, _, _, _, none⟩) (v := ?v102) rfl (by kernel_rfl) (by kernel_rfl) (by kernel_rfl) (fun _ _ _ h => h) (Or.inl ⟨by rfl, ?hy102⟩) (by assumption) ?rest102
            case hy102 => (intro wS hSw; (try dsimp only at hSw); go_simp; (try with_reducible rfl))
            (try simp only [Act.put, zA, zB, zC])
            refine wpAnyH_take (i := 17) (oi := ⟨some 31, _, _, _, _, none⟩) (v := ?v103) rfl (by kernel_rfl) (by kernel_rfl) (by kernel_rfl) (fun _ _ _ h => h) (Or.inl ⟨by rfl, ?hy103⟩) (by assumption) ?rest103
            case hy103 => (intro wS hSw; (try dsimp only at hSw); go_simp; (try with_reducible rfl))
            (try simp only [Act.put, zA, zB, zC])
            refine wpAnyH_take (i := 18) (oi := ⟨some 32, _, _, _, _, some (17, false)⟩) (v := ?v104) rfl (by kernel_rfl) (by kernel_rfl) (by kernel_rfl) (fun _ _ _ h => h) (Or.inl ⟨by rfl, ?hy104⟩) (by assumption) ?rest104
            case hy104 => (intro wS hSw; (try dsimp only at hSw); go_simp; (try with_reducible rfl))
            (try simp only [Act.put, zA, zB, zC])
            refine wpAnyH_take (i := 19) (oi := ⟨some 33, _, _, _, _, some (17, false)⟩) (v := ?v105) rfl (by kernel_rfl) (by kernel_rfl) (by kernel_rfl) (fun _ _ _ h => h) (Or.inl ⟨by rfl, ?hy105⟩) (by assumption) ?rest105
            case hy105 => (intro wS hSw; (try dsimp only at hSw); go_simp; (try with_reducible rfl))
            (try simp only [Act.put, zA, zB, zC])
            refine wpAnyH_take (i := 20) (oi := ⟨some 34, _, _, _, _, some (17, false)⟩) (v := ?v106) rfl (by kernel_rfl) (by kernel_rfl) (by kernel_rfl) (fun _ _ _ h => h) (Or.inl ⟨by rfl, ?hy106⟩) (by assumption) ?rest106
            case hy106 => (intro wS hSw; (try dsimp only at hSw); go_simp; (try with_reducible rfl))
            (try simp only [Act.put, zA, zB, zC])
            refine wpAnyH_take (i := 21) (oi := ⟨some 35, _, _, _, _, some (17, false)⟩) (v := ?v107) rfl (by kernel_rfl) (by kernel_rfl) (by kernel_rfl) (fun _ _ _ h => h) (Or.inl ⟨by rfl, ?hy107⟩) (by assumption) ?rest107
            case hy107 => (intro wS hSw; (try dsimp only at hSw); go_simp; (try with_reducible rfl))
            (try simp only [Act.put, zA, zB, zC])
            refine wpAnyH_take (i := 22) (oi := ⟨some 36, _, _, _, _, some (21, true)⟩) (v := undef) rfl (by kernel_rfl) (by kernel_rfl) (by kernel_rfl) (fun _ _ _ h => h) (Or.inr ⟨by rfl, rfl⟩) (by assumption) ?_
            (try simp only [Act.put, zA, zB, zC])
            refine wpAnyH_take (i := 23) (oi := ⟨some 37, _, _, _, _, some (21, true)⟩) (v := undef) rfl (by kernel_rfl) (by kernel_rfl) (by kernel_rfl) (fun _ _ _ h => h) (Or.inr ⟨by rfl, rfl⟩) (by assumption) ?_
            (try simp only [Act.put, zA, zB, zC])
            refine wpAnyH_take (i := 24) (oi := ⟨some 38, _, _, _, _, some (21, true)⟩) (v := undef) rfl (by kernel_rfl) (by kernel_rfl) (by kernel_rfl) (fun _ _ _ h => h) (Or.inr ⟨by rfl, rfl⟩) (by assumption) ?_
            (try simp only [Act.put, zA, zB, zC])
            refine wpAnyH_take (i := 25) (oi := ⟨some 39, _, _, _, _, some (21, true)⟩) (v := undef) rfl (by kernel_rfl) (by kernel_rfl) (by kernel_rfl) (fun _ _ _ h => h) (Or.inr ⟨by rfl, rfl⟩) (by assumption) ?_
            (try simp only [Act.put, zA, zB, zC])
            refine wpAnyH_take (i := 26) (oi := ⟨some 40, _, _, _, _, some (21, true)⟩) (v := undef) rfl (by kernel_rfl) (by kernel_rfl) (by kernel_rfl) (fun _ _ _ h => h) (Or.inr ⟨by rfl, rfl⟩) (by assumption) ?_
            (try simp only [Act.put, zA, zB, zC])
            refine wpAnyH_take (i := 27) (oi := ⟨some 41, _, _, _, _, some (21, true)⟩) (v := undef) rfl (by kernel_rfl) (by kernel_rfl) (by kernel_rfl) (fun _ _ _ h => h) (Or.inr ⟨by rfl, rfl⟩) (by assumption) ?_
            (try simp only [Act.put, zA, zB, zC])
            refine wpAnyH_take (i := 28) (oi := ⟨some 42, _, _, _, _, some (17, false)⟩) (v := ?v108) rfl (by kernel_rfl) (by kernel_rfl) (by kernel_rfl) (fun _ _ _ h => h) (Or.inl ⟨by rfl, ?hy108⟩) (by assumption) ?rest108
            case hy108 => (intro wS hSw; (try dsimp only at hSw); go_simp; (try with_reducible rfl))
            (try simp only [Act.put, zA, zB, zC])
            refine wpAnyH_take (i := 29) (oi := ⟨some 43, _, _, _, _, none⟩) (v := ?v109) rfl (by kernel_rfl) (by kernel_rfl) (by kernel_rfl) (fun _ _ _ h => h) (Or.inl ⟨by rfl, ?hy109⟩) (by assumption) ?rest109
            case hy109 => (intro wS hSw; (try dsimp only at hSw); go_simp; (try with_reducible rfl))
            (try simp only [Act.put, zA, zB, zC])
            refine wpAnyH_done (by kernel_rfl) ?_ _
            clear g0 g1 g2 g3 g4 g5 g6 g7 g8 hct
            go_wp2
            go_loopw [6] (fun i wr => ∃ k : Nat, k ≤ n ∧ i = .int .i64 k ∧ Hid (∀ j (h : j < ks.length), j < k → typP cols ks[j] = true) ∧ Hid (Fr Non (w.alloc (.cells (pdC ⟨ho, hc, hm, ⟨vn, vi, vt⟩, hkd, hp⟩ ⟨A, n, c⟩) 28)) wr)) (fun i _ => n - (intOf i).toNat)
            case atStart => exact ⟨0, Nat.zero_le _, rfl, Lib.hid (fun _ _ h => by omega), Lib.hid (F1.out.drew)⟩
            case round =>
              obtain ⟨k, hk, rfl, HT, FR⟩ := hrel
              have b8 := (HB.out.fr FR.out (fun e => e)).cell 8
              simp [pdC, kidV] at b8
              have HFw := Lib.hid (HF.out.trans FR.out)
              by_cases hlt : k < n
              · have hlt2 : k < ks.length := by have := HL.out; omega
                obtain ⟨a, t, hA, hc2, hkk, _⟩ := HK.out.elN HFw.out k hlt2
                have HC := Lib.hid (IH.out k hlt2 wr t (HV.out.non HFw.out) (hkk.non HFw.out))
                have HY := Lib.hid (fun e => typ_more (cols := cols) HT.out hlt2 e)
                have HX := Lib.hid (fun e => allT_no (cols := cols) hlt2 e)
                dsimp only at hA
                subst hA
                obtain ⟨c0, c1, c2, c3, c4, c5, c6, c7, c8⟩ := hc2
                clear hkk HT
                generalize typP cols ks[k] = y at *
                generalize ks[k].hd = x at *
                obtain ⟨xo, xc, xm, ⟨xn, xi, xt⟩, xk, xp⟩ := x
                obtain ⟨tA, tn, tc⟩ := t
                unfold pdV pdC kidV at HC
                dsimp only at HC c0 c1 c2 c3 c4 c5 c6 c7 c8
                cases y
                · have HE2 := Lib.hid (HX.out rfl)
                  clear HX HY
                  go_wp2_with fail
                  refine HC.out.mono ?_
                  rintro e w2 ⟨rfl, f2⟩
                  go_wp2
                  go_ret
                  exact ⟨ret_boolE (by rw [HE.out, HE2.out]), HFw.out.trans f2⟩
                · have HE2 := Lib.hid (HY.out rfl)
                  clear HX HY
                  go_wp2_with fail
                  refine HC.out.mono ?_
                  rintro e w2 ⟨rfl, f2⟩
                  go_wp2
                  go_roundw
                  case rel => exact ⟨k + 1, by omega, by go_num, HE2, Lib.hid (FR.out.trans f2)⟩
                  case measure => simp [intOf]; omega
              · have HE2 := Lib.hid (allT_yes (cols := cols) (by have := HL.out; omega) HT.out)
                clear HT
                go_wp2
                go_ret
                exact ⟨ret_boolE (by rw [HE.out, HE2.out]), HFw.out⟩
set_option maxHeartbeats 2000000 in
theorem rfits_any (cols : List Co) (hcl : cols.length ≤ 1000) (hcb : ∀ c ∈ cols, c.name.length ≤ 1000) (v : Value) (h : Ph) (t : Kv) (ks : List Pd) (w : World) (hv : Ks w v cols) (hk : Kd w t ks) (hlen : lenP (.mk h ks) = true) :
    Calls Tryz.prog 46 #[v, pdV h t] w fun e w' => e = .returned (.int .i64 (fitP cols (.mk h ks))) ∧ Fr Non w w' := by
  have F0 : Fr Non w (w.alloc (.cells (pdC h t) 28)) := (Fr.refl Non w).alloc _
  have M1 := Lib.hid (rpmay_any h t ks _ (hk.non F0) hlen)
  have C1 := Lib.hid (fun W hv => rcheck_any v cols W hv (by omega) (fun c hc => by have := hcb c hc; omega))
  have T1 := Lib.hid (fun W hv hk => rtyped_any cols hcl (.mk h ks) v t W hv hk hlen)
  have PB := Lib.hid (pd_new w _ h t rfl)
  have HE0 : Hid (fitP cols (.mk h ks) = if mayP (.mk h ks) = false ∨ ¬ chkC cols = 0 then 1 else if typP cols (.mk h ks) = true then 0 else 10) := Lib.hid rfl
  generalize fitP cols (.mk h ks) = r at *
  generalize mayP (.mk h ks) = b1 at *
  generalize typP cols (.mk h ks) = b2 at *
  generalize chkC cols = z at *
  dsimp only [Pd.hd, Pd.kids] at T1
  have HK := Lib.hid (hk.non F0)
  have HV : Hid (Ks _ v cols) := Lib.hid (hv.non F0)
  have F0 := Lib.hid F0
  clear hk hlen hv
  obtain ⟨ho, hc, hm, ⟨vn, vi, vt⟩, hkd, hp⟩ := h
  obtain ⟨A, nn, c⟩ := t
  unfold pdV pdC kidV at *
  dsimp only at *
  cases b1
  · have HE : Hid (r = 1) := Lib.hid (by rw [HE0.out, if_pos (.inl rfl)])
    clear HE0
    go_enter Tryz.func46, Tryz.ntmps46
    go_wp2_with fail
    refine M1.out.mono ?_
    rintro e w1 ⟨rfl, f1⟩
    go_wp2
    go_ret
    exact ⟨ret_int HE.out.symm, F0.out.trans f1⟩
  · by_cases hz : z = 0
    · subst hz
      have HE : Hid (r = if b2 = true then 0 else 10) := Lib.hid (by rw [HE0.out, if_neg (by simp)])
      clear HE0
      go_enter Tryz.func46, Tryz.ntmps46
      go_wp2_with fail
      refine M1.out.mono ?_
      rintro e w1 ⟨rfl, f1⟩
      have PB1 := Lib.hid (PB.out.fr f1 (fun e => e))
      have HK1 := Lib.hid (HK.out.non f1)
      have HV1 : Hid (Ks w1 v cols) := Lib.hid (HV.out.non f1)
      have F1 := Lib.hid (F0.out.trans f1)
      clear f1
      go_wp2_with fail
      refine (C1.out _ HV1.out).mono ?_
      rintro e w2 ⟨rfl, f2⟩
      obtain ⟨g0, g1, g2, g3, g4, g5, g6, g7, g8⟩ := pdB_cells (PB1.out.fr f2 (fun e => e))
      dsimp only at g0 g1 g2 g3 g4 g5 g6 g7 g8
      have HK2 := Lib.hid (HK1.out.non f2)
      have HV2 : Hid (Ks w2 v cols) := Lib.hid (HV1.out.non f2)
      have F2 := Lib.hid (F1.out.trans f2)
      clear f2
      go_wp2_with fail
      refine (T1.out _ HV2.out HK2.out).mono ?_
      rintro e w3 ⟨rfl, f3⟩
      cases b2
      · go_wp2
        go_ret
        exact ⟨ret_int HE.out.symm, F2.out.trans f3⟩
      · go_wp2
        go_ret
        exact ⟨ret_int HE.out.symm, F2.out.trans f3⟩
    · have HE : Hid (r = 1) := Lib.hid (by rw [HE0.out, if_pos (.inr hz)])
      have hb : (z != 0) = true := by rw [bne_iff_ne]; exact hz
      clear HE0
      go_enter Tryz.func46, Tryz.ntmps46
      go_wp2_with fail
      refine M1.out.mono ?_
      rintro e w1 ⟨rfl, f1⟩
      have PB1 := Lib.hid (PB.out.fr f1 (fun e => e))
      have HV1 : Hid (Ks w1 v cols) := Lib.hid (HV.out.non f1)
      have F1 := Lib.hid (F0.out.trans f1)
      clear f1
      go_wp2_with fail
      refine (C1.out _ HV1.out).mono ?_
      rintro e w2 ⟨rfl, f2⟩
      go_wp2
      go_ret
      exact ⟨ret_int HE.out.symm, F1.out.trans f2⟩
end Go.Proofs.YtjcfjjhhbcgcmaaGreat
