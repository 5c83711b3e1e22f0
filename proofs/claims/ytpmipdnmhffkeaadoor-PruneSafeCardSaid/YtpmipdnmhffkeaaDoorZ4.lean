/-
  Joined: Layer 21: the truths of kids, joined two by two.
-/
import Derived.Lib.Zigzag
import Derived.Deep.RegionHeld3
import Derived.Test.YtpmipdnmhffkeaaDoorZ3

namespace Go.Proofs.YtpmipdnmhffkeaaDoor
set_option linter.unusedVariables false
set_option linter.unusedSimpArgs false
set_option maxRecDepth 100000
open Go.RowKit

set_option maxHeartbeats 8000000 in
theorem pzchand_of (v1 v2 : Value) (cols : List Co) (zs : List Zn) (ks : List Pd) (t : Kv) (w : World) (h1 : Ks w v1 cols) (h2 : Zs w v2 zs) (hk : Kd w t ks) (hl : ks.length ≤ 1000) (h0 : 0 < ks.length)
    (IH0 : Hid (∀ j (h : j < ks.length) (W : World) (t' : Kv), Fr Non w W → Kd W t' ks[j].kids → Calls Tryd.prog 20 #[knV v1 v2, pdV ks[j].hd t'] W fun e w' => e = .returned (trV (prnP cols zs ks[j])) ∧ Fr Non W w')) :
    Calls Tryd.prog 41 #[knV v1 v2, kidV t, .func (.func 42) #[] #[]] w fun e w' => e = .returned (trV (allT2 (ks.map (prnP cols zs)))) ∧ Fr Non w w' := by
  cases ks with
  | nil => exact absurd h0 (by simp)
  | cons x0 M =>
    have hn := hk.len
    obtain ⟨A1, c1, rfl⟩ := h1.shape
    obtain ⟨A2, c2, rfl⟩ := h2.shape
    obtain ⟨A, n, c⟩ := t
    dsimp only [List.length_cons] at hn hl
    have hn1 : 1 ≤ n := by omega
    have hM : M.length ≤ 999 := by omega
    obtain ⟨A', c', hsl, hkt⟩ := hk.tail hn1
    rw [show n - 1 = M.length by omega] at hsl hkt
    have hn0 : 0 < n := by omega
    have HK : Hid (Kd w ⟨A', M.length, c'⟩ M) := Lib.hid hkt
    have IH : Hid (∀ j (h : j < M.length) (W : World) (t' : Kv), Fr Non w W → Kd W t' M[j].kids → Calls Tryd.prog 20 #[.agg #[.slice A1 cols.length c1, .slice A2 zs.length c2], pdV M[j].hd t'] W fun e w' => e = .returned (trV (prnP cols zs M[j])) ∧ Fr Non W w') :=
      Lib.hid (fun j h W t' a b => IH0.out (j + 1) (by simpa using h) W t' a b)
    obtain ⟨W0, hW0⟩ : ∃ W, W = (w.alloc (.cells #[.slice A1 cols.length c1, .slice A2 zs.length c2] 59)).alloc (.cells #[.bool false, .bool false, .bool false] 35) := ⟨_, rfl⟩
    have F0 : Fr Non w W0 := by rw [hW0]; exact ((Fr.refl Non w).alloc _).alloc _
    have RB0 : Blk W0 w.heap.size 59 #[.slice A1 cols.length c1, .slice A2 zs.length c2] := by
      rw [hW0]; exact (Blk.new w 59 #[.slice A1 cols.length c1, .slice A2 zs.length c2]).fr ((Fr.refl Non _).alloc _) (fun e => e)
    have AB0 : TrB 35 W0 (w.heap.size + 1) ⟨false, false, false⟩ := by
      rw [hW0]; exact tr_newG _ _ ⟨false, false, false⟩ _ (by simp)
    have hWs : W0.heap.size = w.heap.size + 1 + 1 := by rw [hW0]; simp
    obtain ⟨a, t0, hA, hc0, hkk0, -⟩ := hk.elN F0 0 (by simp)
    have HT0 : Hid (∀ W, Fr Non w W → Calls Tryd.prog 20 #[.agg #[.slice A1 cols.length c1, .slice A2 zs.length c2], pdV x0.hd t0] W fun e w' => e = .returned (trV (prnP cols zs x0)) ∧ Fr Non W w') :=
      Lib.hid (fun W hf => IH0.out 0 (by simp) W t0 hf (hkk0.non hf))
    have HS : Hid (allT2 ((x0 :: M).map (prnP cols zs)) = allT2 (prnP cols zs x0 :: M.map (prnP cols zs))) := Lib.hid rfl
    have HSt : Hid (allT2 (prnP cols zs x0 :: (M.map (prnP cols zs)).take 0) = prnP cols zs x0) := Lib.hid (allT_one _)
    clear hk h1 h2 hkk0 IH0 h0 hkt hl hn hn1
    dsimp only at hA
    rw [List.getElem_cons_zero, Nat.zero_mul, add_none] at hc0
    obtain ⟨k0, k1, k2, k3, k4, k5, k6, k7, k8⟩ := hc0
    subst hA
    generalize allT2 ((x0 :: M).map (prnP cols zs)) = r at *
    generalize hy0 : prnP cols zs x0 = y at *
    obtain ⟨ya, yb, yc, hy⟩ : ∃ a b d, y = ⟨a, b, d⟩ := ⟨y.yes, y.no, y.maybe, rfl⟩
    clear hy0
    rw [hy] at HT0
    generalize x0.hd = x at *
    obtain ⟨xo, xc, xm, ⟨xn, xi, xt⟩, xk, xp⟩ := x
    obtain ⟨tA, tn, tc⟩ := t0
    unfold knV
    unfold pdV pdC kidV at *
    unfold trV at HT0
    dsimp only at *
    generalize hg : w.heap.size = g at *
    have r0 := RB0.cell 0
    have r1 := RB0.cell 1
    simp at r0 r1
    replace F0 := Lib.hid F0
    replace RB0 := Lib.hid RB0
    replace AB0 := Lib.hid AB0
    replace hWs := Lib.hid hWs
    replace hy := Lib.hid hy
    have HgR := Lib.hid hg
    go_enter Tryd.func41, Tryd.ntmps41
    go_wp2
    rw [← hW0]
    clear hW0
    obtain ⟨V, hV⟩ : ∃ V, V = W0.drew := ⟨_, rfl⟩
    refine wp_region_held_drew (S := (fun W' => W'.cell? ⟨g, 0, none⟩ = some (.slice A1 cols.length c1) ∧ W'.cell? ⟨g, 1, none⟩ = some (.slice A2 zs.length c2) ∧ W'.cell? a = some (.int .i64 xo) ∧ W'.cell? { block := a.block, off := a.off + 1 } = some (.string ⟨xc.toArray⟩) ∧ W'.cell? { block := a.block, off := a.off + 2 } = some (.int .i64 xm) ∧ W'.cell? { block := a.block, off := a.off + 3 } = some (.bool xn) ∧ W'.cell? { block := a.block, off := a.off + 4 } = some (.int .i64 xi) ∧ W'.cell? { block := a.block, off := a.off + 5 } = some (.string ⟨xt.toArray⟩) ∧ W'.cell? { block := a.block, off := a.off + 6 } = some (.int .i64 xk) ∧ W'.cell? { block := a.block, off := a.off + 7 } = some (.string ⟨xp.toArray⟩) ∧ W'.cell? { block := a.block, off := a.off + 8 } = some (.slice tA tn tc))) (by kernel_rfl) (by exact ⟨r0, r1, k0, k1, k2, k3, k4, k5, k6, k7, k8⟩) (fun hHeld => ?_)
    rw [← hV]
    rw [← hV] at hHeld
    have FV : Hid (Fr Non w V) := Lib.hid (by rw [hV]; exact F0.out.drew)
    have F0V : Fr Non W0 V := by rw [hV]; exact (Fr.refl Non W0).drew
    have RB : Hid (Blk V g 59 #[.slice A1 cols.length c1, .slice A2 zs.length c2]) := Lib.hid (RB0.out.fr F0V (fun e => e))
    have AB : Hid (TrB 35 V (g + 1) ⟨false, false, false⟩) := Lib.hid (AB0.out.fr F0V (fun e => e))
    have HVs : Hid (V.heap.size = g + 1 + 1) := Lib.hid (by rw [hV]; exact hWs.out)
    replace r0 := F0V.at0 r0
    replace r1 := F0V.at0 r1
    replace k0 := F0V.at0 k0
    replace k1 := F0V.at0 k1
    replace k2 := F0V.at0 k2
    replace k3 := F0V.at0 k3
    replace k4 := F0V.at0 k4
    replace k5 := F0V.at0 k5
    replace k6 := F0V.at0 k6
    replace k7 := F0V.at0 k7
    replace k8 := F0V.at0 k8
    clear F0 RB0 AB0 hWs hV F0V
    refine wpAnyH_take (i := 0) (oi := ⟨some 10, _, _, _, _, none⟩) (v := ?v1) rfl (by kernel_rfl) (by kernel_rfl) (by kernel_rfl) (fun _ _ _ h => h) (Or.inl ⟨by rfl, ?hy1⟩) (by assumption) ?rest1
    case hy1 => (intro wS hSw; (try dsimp only at hSw); go_simp; (try with_reducible rfl))
    (try simp only [Act.put, List.setIfInBounds_toArray, List.set_cons_zero, List.set_cons_succ])
    refine wpAnyH_take (i := 1) (oi := ⟨some 11, _, _, _, _, none⟩) (v := ?v2) rfl (by kernel_rfl) (by kernel_rfl) (by kernel_rfl) (fun _ _ _ h => h) (Or.inl ⟨by rfl, ?hy2⟩) (by assumption) ?rest2
    case hy2 => (intro wS hSw; (try dsimp only at hSw); go_simp; (try with_reducible rfl))
    (try simp only [Act.put, List.setIfInBounds_toArray, List.set_cons_zero, List.set_cons_succ])
    refine wpAnyH_take (i := 2) (oi := ⟨some 12, _, _, _, _, none⟩) (v := ?v3) rfl (by kernel_rfl) (by kernel_rfl) (by kernel_rfl) (fun _ _ _ h => h) (Or.inl ⟨by rfl, ?hy3⟩) (by assumption) ?rest3
    case hy3 => (intro wS hSw; (try dsimp only at hSw); go_simp; (try with_reducible rfl))
    (try simp only [Act.put, List.setIfInBounds_toArray, List.set_cons_zero, List.set_cons_succ])
    refine wpAnyH_take (i := 3) (oi := ⟨some 13, _, _, _, _, none⟩) (v := ?v4) rfl (by kernel_rfl) (by kernel_rfl) (by kernel_rfl) (fun _ _ _ h => h) (Or.inl ⟨by rfl, ?hy4⟩) (by assumption) ?rest4
    case hy4 => (intro wS hSw; (try dsimp only at hSw); go_simp; (try with_reducible rfl))
    (try simp only [Act.put, List.setIfInBounds_toArray, List.set_cons_zero, List.set_cons_succ])
    refine wpAnyH_ready (rs := [4, 5]) (by kernel_rfl) (by simp) ?_
    refine AllReadyH.cons (o := ⟨some 14, _, _, _, _, none⟩) rfl (fun K hK => ?_) (AllReadyH.cons (o := ⟨some 7, _, _, _, _, none⟩) rfl (fun K hK => ?_) AllReadyH.nil)
    · go_simp
      go_at_call 20
      refine (HT0.out _ FV.out).mono ?_
      rintro e w4 ⟨rfl, f4⟩
      go_wp2_with fail
      refine hK.out _ _ (by exact ⟨f4.at0 r0, f4.at0 r1, f4.at0 k0, f4.at0 k1, f4.at0 k2, f4.at0 k3, f4.at0 k4, f4.at0 k5, f4.at0 k6, f4.at0 k7, f4.at0 k8⟩) (fun hHeld => ?_)
      clear hK K
      (try simp only [Act.put, List.setIfInBounds_toArray, List.set_cons_zero, List.set_cons_succ])
      refine wpAnyH_ready (rs := [5]) (by kernel_rfl) (by simp) ?_
      refine AllReadyH.cons (o := ⟨some 7, _, _, _, _, none⟩) rfl (fun K hK => ?_) AllReadyH.nil
      obtain ⟨R, hR⟩ : ∃ R, w4.heap.size = R := ⟨_, rfl⟩
      obtain ⟨W5, hW5⟩ : ∃ W, W = w4.alloc (.cells #[.bool false, .bool false, .bool false] 35) := ⟨_, rfl⟩
      have TB5 : TrB 35 W5 R ⟨false, false, false⟩ := by rw [hW5]; exact tr_newG _ w4 ⟨false, false, false⟩ R hR
      have F5 : Fr Non V W5 := by rw [hW5]; exact f4.alloc _
      have hRV : V.heap.size ≤ R := by have := f4.size; omega
      go_simp
      rw [← hW5]
      clear hW5 hR
      refine hK.out _ _ (by exact ⟨F5.at0 r0, F5.at0 r1, F5.at0 k0, F5.at0 k1, F5.at0 k2, F5.at0 k3, F5.at0 k4, F5.at0 k5, F5.at0 k6, F5.at0 k7, F5.at0 k8⟩) (fun hHeld => ?_)
      clear hK K
      (try simp only [Act.put, List.setIfInBounds_toArray, List.set_cons_zero, List.set_cons_succ])
      refine wpAnyH_ready (rs := [6]) (by kernel_rfl) (by simp) ?_
      refine AllReadyH.cons (o := ⟨none, _, _, _, _, none⟩) rfl (fun K hK => ?_) AllReadyH.nil
      obtain ⟨p0, p1, p2, z0, z1, z2⟩ := TB5.facts
      obtain ⟨W6, hW6⟩ : ∃ W, W = setTr W5 R ya yb yc := ⟨_, rfl⟩
      have s6 : Fr (One R) W5 W6 := by rw [hW6]; exact setTr_fr _ _ _ _ _
      have TB6 : TrB 35 W6 R ⟨ya, yb, yc⟩ := by rw [hW6]; exact setTr_B TB5 _ _ _
      have F6 : Fr Non V W6 := F5.fresh s6 (fun k e => by have : k = R := e; omega)
      unfold setTr at hW6
      go_simp
      rw [← hW6]
      clear hW6 p0 p1 p2 z0 z1 z2
      refine hK.out _ _ (by exact ⟨F6.at0 r0, F6.at0 r1, F6.at0 k0, F6.at0 k1, F6.at0 k2, F6.at0 k3, F6.at0 k4, F6.at0 k5, F6.at0 k6, F6.at0 k7, F6.at0 k8⟩) (fun hHeld => ?_)
      clear hK K
      (try simp only [Act.put, List.setIfInBounds_toArray, List.set_cons_zero, List.set_cons_succ])
      refine wpAnyH_done (by kernel_rfl) ?_ _
      clear hHeld
      have hR2 : g + 1 < R := by have := HVs.out; omega
      have FE := Lib.hid (FV.out.trans F6)
      have TB := Lib.hid TB6
      have RBE := Lib.hid (RB.out.fr F6 (fun e => e))
      have ABE : Hid (TrB 35 W6 (g + 1) ⟨false, false, false⟩) := Lib.hid (AB.out.fr F6 (fun e => e))
      clear r0 r1 k0 k1 k2 k3 k4 k5 k6 k7 k8 TB6 F6 F5 f4 TB5 s6 hRV HVs HT0
      go_wp2
      go_loopw [18] (fun i wr => ∃ (k : Nat) (st : Tr), k ≤ M.length ∧ i = .int .i64 k ∧ Hid (allT2 (y :: (M.map (prnP cols zs)).take k) = st) ∧ Hid (TrB 35 wr R st) ∧ Hid (Blk wr g 59 #[.slice A1 cols.length c1, .slice A2 zs.length c2]) ∧ Hid (TrB 35 wr (g + 1) ⟨false, false, false⟩) ∧ Hid (Fr Non w wr)) (fun i _ => M.length - (intOf i).toNat)
      case atStart => exact ⟨0, y, Nat.zero_le _, rfl, HSt, by rw [hy]; exact TB, RBE, ABE, FE⟩
      case round =>
        clear RBE ABE FE TB
        obtain ⟨k, st, hk, rfl, HT, TB, RBr, ABr, FR⟩ := hrel
        obtain ⟨sa, sb, sc⟩ := st
        by_cases hlt : k < M.length
        · obtain ⟨a, t, hA, hc2, hkk, -⟩ := HK.out.elN FR.out k hlt
          dsimp only at hA
          subst hA
          have F1 : Fr Non wr (wr.alloc (.cells (pdC M[k].hd t) 27)) := (Fr.refl Non wr).alloc _
          have HCa : Hid (∀ W, Fr Non w W → Calls Tryd.prog 20 #[.agg #[.slice A1 cols.length c1, .slice A2 zs.length c2], pdV M[k].hd t] W fun e w' => e = .returned (trV (prnP cols zs M[k])) ∧ Fr Non W w') :=
            Lib.hid (fun W hf => IH.out k hlt W t hf (hkk.non hf))
          have HN : Hid (allT2 (y :: (M.map (prnP cols zs)).take (k + 1)) = andTr ⟨sa, sb, sc⟩ (prnP cols zs M[k])) := Lib.hid (by
            rw [allT_take (by rw [List.length_map]; exact hlt), HT.out, List.getElem_map])
          have HJ := Lib.hid (fun b W => pzand_any ⟨sa, sb, sc⟩ b W)
          have HB := Lib.hid (pd_new wr _ M[k].hd t rfl)
          have RB1 := Lib.hid (RBr.out.fr F1 (fun e => e))
          have AB1 : Hid (TrB 35 (wr.alloc (.cells (pdC M[k].hd t) 27)) (g + 1) ⟨false, false, false⟩) := Lib.hid (ABr.out.fr F1 (fun e => e))
          have TB1 : Hid (TrB 35 (wr.alloc (.cells (pdC M[k].hd t) 27)) R ⟨sa, sb, sc⟩) := Lib.hid (TB.out.fr F1 (fun e => e))
          have FR1 := Lib.hid (FR.out.trans F1)
          obtain ⟨k0, k1, k2, k3, k4, k5, k6, k7, k8⟩ := hc2
          clear hkk HT TB RBr ABr FR F1
          generalize prnP cols zs M[k] = q at *
          obtain ⟨qa, qb, qc⟩ := q
          generalize M[k].hd = x at *
          obtain ⟨xo, xc, xm, ⟨xn, xi, xt⟩, xk, xp⟩ := x
          obtain ⟨tA, tn, tc⟩ := t
          unfold pdV pdC kidV at *
          unfold trV at HCa HJ
          dsimp only at *
          generalize hD : wr.heap.size = D at *
          go_wp2
          clear k0 k1 k2 k3 k4 k5 k6 k7 k8
          obtain ⟨k0, k1, k2, k3, k4, k5, k6, k7, k8⟩ := pdB_cells HB.out
          dsimp only at k0 k1 k2 k3 k4 k5 k6 k7 k8
          obtain ⟨m0, m1, m2, -, -, -⟩ := TB1.out.facts
          dsimp only at m0 m1 m2
          have r0 := RB1.out.cell 0
          have r1 := RB1.out.cell 1
          simp at r0 r1
          refine wp_region_K (fun W' => W'.cell? ⟨g, 0, none⟩ = some (.slice A1 cols.length c1) ∧ W'.cell? ⟨g, 1, none⟩ = some (.slice A2 zs.length c2) ∧ W'.cell? ⟨R, 0, none⟩ = some (.bool sa) ∧ W'.cell? ⟨R, 1, none⟩ = some (.bool sb) ∧ W'.cell? ⟨R, 2, none⟩ = some (.bool sc) ∧ W'.cell? ⟨D, 0, none⟩ = some (.int .i64 xo) ∧ W'.cell? ⟨D, 1, none⟩ = some (.string ⟨xc.toArray⟩) ∧ W'.cell? ⟨D, 2, none⟩ = some (.int .i64 xm) ∧ W'.cell? ⟨D, 3, none⟩ = some (.bool xn) ∧ W'.cell? ⟨D, 4, none⟩ = some (.int .i64 xi) ∧ W'.cell? ⟨D, 5, none⟩ = some (.string ⟨xt.toArray⟩) ∧ W'.cell? ⟨D, 6, none⟩ = some (.int .i64 xk) ∧ W'.cell? ⟨D, 7, none⟩ = some (.string ⟨xp.toArray⟩) ∧ W'.cell? ⟨D, 8, none⟩ = some (.slice tA tn tc)) 6 (by kernel_rfl) ?_
          obtain ⟨V1, hV1⟩ : ∃ V, V = (wr.alloc (.cells #[.int .i64 xo, .string ⟨xc.toArray⟩, .int .i64 xm, .bool xn, .int .i64 xi, .string ⟨xt.toArray⟩, .int .i64 xk, .string ⟨xp.toArray⟩, .slice tA tn tc] 27)).drew := ⟨_, rfl⟩
          rw [← hV1]
          have FV1 : Fr Non (wr.alloc (.cells #[.int .i64 xo, .string ⟨xc.toArray⟩, .int .i64 xm, .bool xn, .int .i64 xi, .string ⟨xt.toArray⟩, .int .i64 xk, .string ⟨xp.toArray⟩, .slice tA tn tc] 27)) V1 := by rw [hV1]; exact (Fr.refl Non _).drew
          clear hV1
          have hHeld : (fun W' : World => W'.cell? ⟨g, 0, none⟩ = some (.slice A1 cols.length c1) ∧ W'.cell? ⟨g, 1, none⟩ = some (.slice A2 zs.length c2) ∧ W'.cell? ⟨R, 0, none⟩ = some (.bool sa) ∧ W'.cell? ⟨R, 1, none⟩ = some (.bool sb) ∧ W'.cell? ⟨R, 2, none⟩ = some (.bool sc) ∧ W'.cell? ⟨D, 0, none⟩ = some (.int .i64 xo) ∧ W'.cell? ⟨D, 1, none⟩ = some (.string ⟨xc.toArray⟩) ∧ W'.cell? ⟨D, 2, none⟩ = some (.int .i64 xm) ∧ W'.cell? ⟨D, 3, none⟩ = some (.bool xn) ∧ W'.cell? ⟨D, 4, none⟩ = some (.int .i64 xi) ∧ W'.cell? ⟨D, 5, none⟩ = some (.string ⟨xt.toArray⟩) ∧ W'.cell? ⟨D, 6, none⟩ = some (.int .i64 xk) ∧ W'.cell? ⟨D, 7, none⟩ = some (.string ⟨xp.toArray⟩) ∧ W'.cell? ⟨D, 8, none⟩ = some (.slice tA tn tc)) V1 := ⟨FV1.at0 r0, FV1.at0 r1, FV1.at0 m0, FV1.at0 m1, FV1.at0 m2, FV1.at0 k0, FV1.at0 k1, FV1.at0 k2, FV1.at0 k3, FV1.at0 k4, FV1.at0 k5, FV1.at0 k6, FV1.at0 k7, FV1.at0 k8⟩
          refine wpAnyK_take (i := 0) (oi := ⟨some 22, _, _, _, _, none⟩) (v := ?v5) rfl (by kernel_rfl) (by kernel_rfl) (by kernel_rfl) (fun _ _ _ h => h) (by kernel_rfl) (by decide) (Or.inl ⟨by rfl, ?hy5⟩) (by assumption) ?rest5
          case hy5 => (intro wS hSw; (try dsimp only at hSw); go_simp; (try with_reducible rfl))
          (try simp only [Act.put, List.setIfInBounds_toArray, List.set_cons_zero, List.set_cons_succ])
          refine wpAnyK_take (i := 1) (oi := ⟨some 23, _, _, _, _, none⟩) (v := ?v6) rfl (by kernel_rfl) (by kernel_rfl) (by kernel_rfl) (fun _ _ _ h => h) (by kernel_rfl) (by decide) (Or.inl ⟨by rfl, ?hy6⟩) (by assumption) ?rest6
          case hy6 => (intro wS hSw; (try dsimp only at hSw); go_simp; (try with_reducible rfl))
          (try simp only [Act.put, List.setIfInBounds_toArray, List.set_cons_zero, List.set_cons_succ])
          refine wpAnyK_take (i := 2) (oi := ⟨some 24, _, _, _, _, none⟩) (v := ?v7) rfl (by kernel_rfl) (by kernel_rfl) (by kernel_rfl) (fun _ _ _ h => h) (by kernel_rfl) (by decide) (Or.inl ⟨by rfl, ?hy7⟩) (by assumption) ?rest7
          case hy7 => (intro wS hSw; (try dsimp only at hSw); go_simp; (try with_reducible rfl))
          (try simp only [Act.put, List.setIfInBounds_toArray, List.set_cons_zero, List.set_cons_succ])
          refine wpAnyK_take (i := 3) (oi := ⟨some 25, _, _, _, _, none⟩) (v := ?v8) rfl (by kernel_rfl) (by kernel_rfl) (by kernel_rfl) (fun _ _ _ h => h) (by kernel_rfl) (by decide) (Or.inl ⟨by rfl, ?hy8⟩) (by assumption) ?rest8
          case hy8 => (intro wS hSw; (try dsimp only at hSw); go_simp; (try with_reducible rfl))
          (try simp only [Act.put, List.setIfInBounds_toArray, List.set_cons_zero, List.set_cons_succ])
          refine wpAnyK_one (i := 4) (o := ⟨some 26, _, _, _, _, none⟩) (by kernel_rfl) rfl (fun K hK => ?_)
          go_simp
          go_at_call 20
          refine (HCa.out _ (FR1.out.trans FV1)).mono ?_
          rintro e w4 ⟨rfl, f4⟩
          have f4' := FV1.trans f4
          go_wp2_with fail
          refine hK.out _ _ (fun _ => ⟨f4'.at0 r0, f4'.at0 r1, f4'.at0 m0, f4'.at0 m1, f4'.at0 m2, f4'.at0 k0, f4'.at0 k1, f4'.at0 k2, f4'.at0 k3, f4'.at0 k4, f4'.at0 k5, f4'.at0 k6, f4'.at0 k7, f4'.at0 k8⟩) ?_
          clear hK K
          (try simp only [Act.put, List.setIfInBounds_toArray, List.set_cons_zero, List.set_cons_succ])
          refine wpAnyK_one (i := 5) (o := ⟨some 27, _, _, _, _, none⟩) (by kernel_rfl) rfl (fun K hK => ?_)
          go_simp
          go_at_call 42
          refine (HJ.out ⟨qa, qb, qc⟩ _).mono ?_
          rintro e w5 ⟨rfl, f5⟩
          have f5' := f4'.trans f5
          go_wp2_with fail
          refine hK.out _ _ (fun _ => ⟨f5'.at0 r0, f5'.at0 r1, f5'.at0 m0, f5'.at0 m1, f5'.at0 m2, f5'.at0 k0, f5'.at0 k1, f5'.at0 k2, f5'.at0 k3, f5'.at0 k4, f5'.at0 k5, f5'.at0 k6, f5'.at0 k7, f5'.at0 k8⟩) ?_
          clear hK K
          (try simp only [Act.put, List.setIfInBounds_toArray, List.set_cons_zero, List.set_cons_succ])
          have TB5 : TrB 35 w5 R ⟨sa, sb, sc⟩ := TB1.out.fr f5' (fun e => e)
          obtain ⟨p0, p1, p2, z0, z1, z2⟩ := TB5.facts
          obtain ⟨W6, hW6⟩ : ∃ W, W = setTr w5 R (andTr ⟨sa, sb, sc⟩ ⟨qa, qb, qc⟩).yes (andTr ⟨sa, sb, sc⟩ ⟨qa, qb, qc⟩).no (andTr ⟨sa, sb, sc⟩ ⟨qa, qb, qc⟩).maybe := ⟨_, rfl⟩
          have s6 : Fr (One R) w5 W6 := by rw [hW6]; exact setTr_fr _ _ _ _ _
          have TB6 : Hid (TrB 35 W6 R (andTr ⟨sa, sb, sc⟩ ⟨qa, qb, qc⟩)) := Lib.hid (by rw [hW6]; exact setTr_B TB5 _ _ _)
          have RB6 := Lib.hid ((RB1.out.fr f5' (fun e => e)).fr s6 (fun e => by have : g = R := e; omega))
          have AB6 : Hid (TrB 35 W6 (g + 1) ⟨false, false, false⟩) := Lib.hid ((AB1.out.fr f5' (fun e => e)).fr s6 (fun e => by have : g + 1 = R := e; omega))
          have F6 := Lib.hid ((FR1.out.trans f5').fresh s6 (fun k e => by have : k = R := e; have := HgR.out; omega))
          unfold setTr at hW6
          refine wpAnyK_one (i := 6) (o := ⟨none, _, _, _, _, none⟩) (by kernel_rfl) rfl (fun K hK => ?_)
          go_simp
          rw [← hW6]
          clear hW6
          refine hK.out _ _ (fun h => absurd rfl h) ?_
          clear hK K
          (try simp only [Act.put, List.setIfInBounds_toArray, List.set_cons_zero, List.set_cons_succ])
          refine wpAnyK_done (by kernel_rfl) ?_ _
          clear hHeld p0 p1 p2 z0 z1 z2 m0 m1 m2 r0 r1 k0 k1 k2 k3 k4 k5 k6 k7 k8 TB5 TB1 RB1 AB1 FR1 HB HCa HJ f5 f5' f4 f4' s6 FV1
          go_wp2
          go_roundw
          case rel => exact ⟨k + 1, _, by omega, by go_num, HN, TB6, RB6, AB6, F6⟩
          case measure => simp [intOf]; omega
        · have hke : k = M.length := by omega
          rw [hke, List.take_of_length_le (by rw [List.length_map]; exact Nat.le_refl _)] at HT
          have HE := Lib.hid (HS.out.trans HT.out)
          obtain ⟨m0, m1, m2, -, -, -⟩ := TB.out.facts
          obtain ⟨p0, p1, p2, z0, z1, z2⟩ := ABr.out.facts
          dsimp only at m0 m1 m2 p0 p1 p2
          have AB6 := Lib.hid (setTr_B ABr.out sa sb sc)
          have F7 := Lib.hid (FR.out.fresh (setTr_fr wr (g + 1) sa sb sc) (fun k e => by have : k = g + 1 := e; omega))
          clear HT TB RBr ABr FR
          go_wp2
          exact bodyPost_ret (v := trV ⟨sa, sb, sc⟩) (ret_tr (p := 6) rfl _ _ _ ⟨sa, sb, sc⟩ (by rfl) AB6.out) rfl ⟨by rw [HE.out], F7.out⟩
    · obtain ⟨R, hR⟩ : ∃ R, V.heap.size = R := ⟨_, rfl⟩
      obtain ⟨W5, hW5⟩ : ∃ W, W = V.alloc (.cells #[.bool false, .bool false, .bool false] 35) := ⟨_, rfl⟩
      have TB5 : TrB 35 W5 R ⟨false, false, false⟩ := by rw [hW5]; exact tr_newG _ V ⟨false, false, false⟩ R hR
      have F5 : Fr Non V W5 := by rw [hW5]; exact (Fr.refl Non V).alloc _
      have hRV : V.heap.size ≤ R := by omega
      go_simp
      rw [← hW5]
      clear hW5 hR
      refine hK.out _ _ (by exact ⟨F5.at0 r0, F5.at0 r1, F5.at0 k0, F5.at0 k1, F5.at0 k2, F5.at0 k3, F5.at0 k4, F5.at0 k5, F5.at0 k6, F5.at0 k7, F5.at0 k8⟩) (fun hHeld => ?_)
      clear hK K
      (try simp only [Act.put, List.setIfInBounds_toArray, List.set_cons_zero, List.set_cons_succ])
      refine wpAnyH_ready (rs := [4]) (by kernel_rfl) (by simp) ?_
      refine AllReadyH.cons (o := ⟨some 14, _, _, _, _, none⟩) rfl (fun K hK => ?_) AllReadyH.nil
      go_simp
      go_at_call 20
      refine (HT0.out _ (FV.out.trans F5)).mono ?_
      rintro e w4 ⟨rfl, f4⟩
      go_wp2_with fail
      replace TB5 : TrB 35 w4 R ⟨false, false, false⟩ := TB5.fr f4 (fun e => e)
      replace F5 : Fr Non V w4 := F5.trans f4
      refine hK.out _ _ (by exact ⟨F5.at0 r0, F5.at0 r1, F5.at0 k0, F5.at0 k1, F5.at0 k2, F5.at0 k3, F5.at0 k4, F5.at0 k5, F5.at0 k6, F5.at0 k7, F5.at0 k8⟩) (fun hHeld => ?_)
      clear hK K
      (try simp only [Act.put, List.setIfInBounds_toArray, List.set_cons_zero, List.set_cons_succ])
      refine wpAnyH_ready (rs := [6]) (by kernel_rfl) (by simp) ?_
      refine AllReadyH.cons (o := ⟨none, _, _, _, _, none⟩) rfl (fun K hK => ?_) AllReadyH.nil
      obtain ⟨p0, p1, p2, z0, z1, z2⟩ := TB5.facts
      obtain ⟨W6, hW6⟩ : ∃ W, W = setTr w4 R ya yb yc := ⟨_, rfl⟩
      have s6 : Fr (One R) w4 W6 := by rw [hW6]; exact setTr_fr _ _ _ _ _
      have TB6 : TrB 35 W6 R ⟨ya, yb, yc⟩ := by rw [hW6]; exact setTr_B TB5 _ _ _
      have F6 : Fr Non V W6 := F5.fresh s6 (fun k e => by have : k = R := e; omega)
      unfold setTr at hW6
      go_simp
      rw [← hW6]
      clear hW6 p0 p1 p2 z0 z1 z2
      refine hK.out _ _ (by exact ⟨F6.at0 r0, F6.at0 r1, F6.at0 k0, F6.at0 k1, F6.at0 k2, F6.at0 k3, F6.at0 k4, F6.at0 k5, F6.at0 k6, F6.at0 k7, F6.at0 k8⟩) (fun hHeld => ?_)
      clear hK K
      (try simp only [Act.put, List.setIfInBounds_toArray, List.set_cons_zero, List.set_cons_succ])
      refine wpAnyH_done (by kernel_rfl) ?_ _
      clear hHeld
      have hR2 : g + 1 < R := by have := HVs.out; omega
      have FE := Lib.hid (FV.out.trans F6)
      have TB := Lib.hid TB6
      have RBE := Lib.hid (RB.out.fr F6 (fun e => e))
      have ABE : Hid (TrB 35 W6 (g + 1) ⟨false, false, false⟩) := Lib.hid (AB.out.fr F6 (fun e => e))
      clear r0 r1 k0 k1 k2 k3 k4 k5 k6 k7 k8 TB6 F6 F5 f4 TB5 s6 hRV HVs HT0
      go_wp2
      go_loopw [18] (fun i wr => ∃ (k : Nat) (st : Tr), k ≤ M.length ∧ i = .int .i64 k ∧ Hid (allT2 (y :: (M.map (prnP cols zs)).take k) = st) ∧ Hid (TrB 35 wr R st) ∧ Hid (Blk wr g 59 #[.slice A1 cols.length c1, .slice A2 zs.length c2]) ∧ Hid (TrB 35 wr (g + 1) ⟨false, false, false⟩) ∧ Hid (Fr Non w wr)) (fun i _ => M.length - (intOf i).toNat)
      case atStart => exact ⟨0, y, Nat.zero_le _, rfl, HSt, by rw [hy]; exact TB, RBE, ABE, FE⟩
      case round =>
        clear RBE ABE FE TB
        obtain ⟨k, st, hk, rfl, HT, TB, RBr, ABr, FR⟩ := hrel
        obtain ⟨sa, sb, sc⟩ := st
        by_cases hlt : k < M.length
        · obtain ⟨a, t, hA, hc2, hkk, -⟩ := HK.out.elN FR.out k hlt
          dsimp only at hA
          subst hA
          have F1 : Fr Non wr (wr.alloc (.cells (pdC M[k].hd t) 27)) := (Fr.refl Non wr).alloc _
          have HCa : Hid (∀ W, Fr Non w W → Calls Tryd.prog 20 #[.agg #[.slice A1 cols.length c1, .slice A2 zs.length c2], pdV M[k].hd t] W fun e w' => e = .returned (trV (prnP cols zs M[k])) ∧ Fr Non W w') :=
            Lib.hid (fun W hf => IH.out k hlt W t hf (hkk.non hf))
          have HN : Hid (allT2 (y :: (M.map (prnP cols zs)).take (k + 1)) = andTr ⟨sa, sb, sc⟩ (prnP cols zs M[k])) := Lib.hid (by
            rw [allT_take (by rw [List.length_map]; exact hlt), HT.out, List.getElem_map])
          have HJ := Lib.hid (fun b W => pzand_any ⟨sa, sb, sc⟩ b W)
          have HB := Lib.hid (pd_new wr _ M[k].hd t rfl)
          have RB1 := Lib.hid (RBr.out.fr F1 (fun e => e))
          have AB1 : Hid (TrB 35 (wr.alloc (.cells (pdC M[k].hd t) 27)) (g + 1) ⟨false, false, false⟩) := Lib.hid (ABr.out.fr F1 (fun e => e))
          have TB1 : Hid (TrB 35 (wr.alloc (.cells (pdC M[k].hd t) 27)) R ⟨sa, sb, sc⟩) := Lib.hid (TB.out.fr F1 (fun e => e))
          have FR1 := Lib.hid (FR.out.trans F1)
          obtain ⟨k0, k1, k2, k3, k4, k5, k6, k7, k8⟩ := hc2
          clear hkk HT TB RBr ABr FR F1
          generalize prnP cols zs M[k] = q at *
          obtain ⟨qa, qb, qc⟩ := q
          generalize M[k].hd = x at *
          obtain ⟨xo, xc, xm, ⟨xn, xi, xt⟩, xk, xp⟩ := x
          obtain ⟨tA, tn, tc⟩ := t
          unfold pdV pdC kidV at *
          unfold trV at HCa HJ
          dsimp only at *
          generalize hD : wr.heap.size = D at *
          go_wp2
          clear k0 k1 k2 k3 k4 k5 k6 k7 k8
          obtain ⟨k0, k1, k2, k3, k4, k5, k6, k7, k8⟩ := pdB_cells HB.out
          dsimp only at k0 k1 k2 k3 k4 k5 k6 k7 k8
          obtain ⟨m0, m1, m2, -, -, -⟩ := TB1.out.facts
          dsimp only at m0 m1 m2
          have r0 := RB1.out.cell 0
          have r1 := RB1.out.cell 1
          simp at r0 r1
          refine wp_region_K (fun W' => W'.cell? ⟨g, 0, none⟩ = some (.slice A1 cols.length c1) ∧ W'.cell? ⟨g, 1, none⟩ = some (.slice A2 zs.length c2) ∧ W'.cell? ⟨R, 0, none⟩ = some (.bool sa) ∧ W'.cell? ⟨R, 1, none⟩ = some (.bool sb) ∧ W'.cell? ⟨R, 2, none⟩ = some (.bool sc) ∧ W'.cell? ⟨D, 0, none⟩ = some (.int .i64 xo) ∧ W'.cell? ⟨D, 1, none⟩ = some (.string ⟨xc.toArray⟩) ∧ W'.cell? ⟨D, 2, none⟩ = some (.int .i64 xm) ∧ W'.cell? ⟨D, 3, none⟩ = some (.bool xn) ∧ W'.cell? ⟨D, 4, none⟩ = some (.int .i64 xi) ∧ W'.cell? ⟨D, 5, none⟩ = some (.string ⟨xt.toArray⟩) ∧ W'.cell? ⟨D, 6, none⟩ = some (.int .i64 xk) ∧ W'.cell? ⟨D, 7, none⟩ = some (.string ⟨xp.toArray⟩) ∧ W'.cell? ⟨D, 8, none⟩ = some (.slice tA tn tc)) 6 (by kernel_rfl) ?_
          obtain ⟨V1, hV1⟩ : ∃ V, V = (wr.alloc (.cells #[.int .i64 xo, .string ⟨xc.toArray⟩, .int .i64 xm, .bool xn, .int .i64 xi, .string ⟨xt.toArray⟩, .int .i64 xk, .string ⟨xp.toArray⟩, .slice tA tn tc] 27)).drew := ⟨_, rfl⟩
          rw [← hV1]
          have FV1 : Fr Non (wr.alloc (.cells #[.int .i64 xo, .string ⟨xc.toArray⟩, .int .i64 xm, .bool xn, .int .i64 xi, .string ⟨xt.toArray⟩, .int .i64 xk, .string ⟨xp.toArray⟩, .slice tA tn tc] 27)) V1 := by rw [hV1]; exact (Fr.refl Non _).drew
          clear hV1
          have hHeld : (fun W' : World => W'.cell? ⟨g, 0, none⟩ = some (.slice A1 cols.length c1) ∧ W'.cell? ⟨g, 1, none⟩ = some (.slice A2 zs.length c2) ∧ W'.cell? ⟨R, 0, none⟩ = some (.bool sa) ∧ W'.cell? ⟨R, 1, none⟩ = some (.bool sb) ∧ W'.cell? ⟨R, 2, none⟩ = some (.bool sc) ∧ W'.cell? ⟨D, 0, none⟩ = some (.int .i64 xo) ∧ W'.cell? ⟨D, 1, none⟩ = some (.string ⟨xc.toArray⟩) ∧ W'.cell? ⟨D, 2, none⟩ = some (.int .i64 xm) ∧ W'.cell? ⟨D, 3, none⟩ = some (.bool xn) ∧ W'.cell? ⟨D, 4, none⟩ = some (.int .i64 xi) ∧ W'.cell? ⟨D, 5, none⟩ = some (.string ⟨xt.toArray⟩) ∧ W'.cell? ⟨D, 6, none⟩ = some (.int .i64 xk) ∧ W'.cell? ⟨D, 7, none⟩ = some (.string ⟨xp.toArray⟩) ∧ W'.cell? ⟨D, 8, none⟩ = some (.slice tA tn tc)) V1 := ⟨FV1.at0 r0, FV1.at0 r1, FV1.at0 m0, FV1.at0 m1, FV1.at0 m2, FV1.at0 k0, FV1.at0 k1, FV1.at0 k2, FV1.at0 k3, FV1.at0 k4, FV1.at0 k5, FV1.at0 k6, FV1.at0 k7, FV1.at0 k8⟩
          refine wpAnyK_take (i := 0) (oi := ⟨some 22, _, _, _, _, none⟩) (v := ?v9) rfl (by kernel_rfl) (by kernel_rfl) (by kernel_rfl) (fun _ _ _ h => h) (by kernel_rfl) (by decide) (Or.inl ⟨by rfl, ?hy9⟩) (by assumption) ?rest9
          case hy9 => (intro wS hSw; (try dsimp only at hSw); go_simp; (try with_reducible rfl))
          (try simp only [Act.put, List.setIfInBounds_toArray, List.set_cons_zero, List.set_cons_succ])
          refine wpAnyK_take (i := 1) (oi := ⟨some 23, _, _, _, _, none⟩) (v := ?v10) rfl (by kernel_rfl) (by kernel_rfl) (by kernel_rfl) (fun _ _ _ h => h) (by kernel_rfl) (by decide) (Or.inl ⟨by rfl, ?hy10⟩) (by assumption) ?rest10
          case hy10 => (intro wS hSw; (try dsimp only at hSw); go_simp; (try with_reducible rfl))
          (try simp only [Act.put, List.setIfInBounds_toArray, List.set_cons_zero, List.set_cons_succ])
          refine wpAnyK_take (i := 2) (oi := ⟨some 24, _, _, _, _, none⟩) (v := ?v11) rfl (by kernel_rfl) (by kernel_rfl) (by kernel_rfl) (fun _ _ _ h => h) (by kernel_rfl) (by decide) (Or.inl ⟨by rfl, ?hy11⟩) (by assumption) ?rest11
          case hy11 => (intro wS hSw; (try dsimp only at hSw); go_simp; (try with_reducible rfl))
          (try simp only [Act.put, List.setIfInBounds_toArray, List.set_cons_zero, List.set_cons_succ])
          refine wpAnyK_take (i := 3) (oi := ⟨some 25, _, _, _, _, none⟩) (v := ?v12) rfl (by kernel_rfl) (by kernel_rfl) (by kernel_rfl) (fun _ _ _ h => h) (by kernel_rfl) (by decide) (Or.inl ⟨by rfl, ?hy12⟩) (by assumption) ?rest12
          case hy12 => (intro wS hSw; (try dsimp only at hSw); go_simp; (try with_reducible rfl))
          (try simp only [Act.put, List.setIfInBounds_toArray, List.set_cons_zero, List.set_cons_succ])
          refine wpAnyK_one (i := 4) (o := ⟨some 26, _, _, _, _, none⟩) (by kernel_rfl) rfl (fun K hK => ?_)
          go_simp
          go_at_call 20
          refine (HCa.out _ (FR1.out.trans FV1)).mono ?_
          rintro e w4 ⟨rfl, f4⟩
          have f4' := FV1.trans f4
          go_wp2_with fail
          refine hK.out _ _ (fun _ => ⟨f4'.at0 r0, f4'.at0 r1, f4'.at0 m0, f4'.at0 m1, f4'.at0 m2, f4'.at0 k0, f4'.at0 k1, f4'.at0 k2, f4'.at0 k3, f4'.at0 k4, f4'.at0 k5, f4'.at0 k6, f4'.at0 k7, f4'.at0 k8⟩) ?_
          clear hK K
          (try simp only [Act.put, List.setIfInBounds_toArray, List.set_cons_zero, List.set_cons_succ])
          refine wpAnyK_one (i := 5) (o := ⟨some 27, _, _, _, _, none⟩) (by kernel_rfl) rfl (fun K hK => ?_)
          go_simp
          go_at_call 42
          refine (HJ.out ⟨qa, qb, qc⟩ _).mono ?_
          rintro e w5 ⟨rfl, f5⟩
          have f5' := f4'.trans f5
          go_wp2_with fail
          refine hK.out _ _ (fun _ => ⟨f5'.at0 r0, f5'.at0 r1, f5'.at0 m0, f5'.at0 m1, f5'.at0 m2, f5'.at0 k0, f5'.at0 k1, f5'.at0 k2, f5'.at0 k3, f5'.at0 k4, f5'.at0 k5, f5'.at0 k6, f5'.at0 k7, f5'.at0 k8⟩) ?_
          clear hK K
          (try simp only [Act.put, List.setIfInBounds_toArray, List.set_cons_zero, List.set_cons_succ])
          have TB5 : TrB 35 w5 R ⟨sa, sb, sc⟩ := TB1.out.fr f5' (fun e => e)
          obtain ⟨p0, p1, p2, z0, z1, z2⟩ := TB5.facts
          obtain ⟨W6, hW6⟩ : ∃ W, W = setTr w5 R (andTr ⟨sa, sb, sc⟩ ⟨qa, qb, qc⟩).yes (andTr ⟨sa, sb, sc⟩ ⟨qa, qb, qc⟩).no (andTr ⟨sa, sb, sc⟩ ⟨qa, qb, qc⟩).maybe := ⟨_, rfl⟩
          have s6 : Fr (One R) w5 W6 := by rw [hW6]; exact setTr_fr _ _ _ _ _
          have TB6 : Hid (TrB 35 W6 R (andTr ⟨sa, sb, sc⟩ ⟨qa, qb, qc⟩)) := Lib.hid (by rw [hW6]; exact setTr_B TB5 _ _ _)
          have RB6 := Lib.hid ((RB1.out.fr f5' (fun e => e)).fr s6 (fun e => by have : g = R := e; omega))
          have AB6 : Hid (TrB 35 W6 (g + 1) ⟨false, false, false⟩) := Lib.hid ((AB1.out.fr f5' (fun e => e)).fr s6 (fun e => by have : g + 1 = R := e; omega))
          have F6 := Lib.hid ((FR1.out.trans f5').fresh s6 (fun k e => by have : k = R := e; have := HgR.out; omega))
          unfold setTr at hW6
          refine wpAnyK_one (i := 6) (o := ⟨none, _, _, _, _, none⟩) (by kernel_rfl) rfl (fun K hK => ?_)
          go_simp
          rw [← hW6]
          clear hW6
          refine hK.out _ _ (fun h => absurd rfl h) ?_
          clear hK K
          (try simp only [Act.put, List.setIfInBounds_toArray, List.set_cons_zero, List.set_cons_succ])
          refine wpAnyK_done (by kernel_rfl) ?_ _
          clear hHeld p0 p1 p2 z0 z1 z2 m0 m1 m2 r0 r1 k0 k1 k2 k3 k4 k5 k6 k7 k8 TB5 TB1 RB1 AB1 FR1 HB HCa HJ f5 f5' f4 f4' s6 FV1
          go_wp2
          go_roundw
          case rel => exact ⟨k + 1, _, by omega, by go_num, HN, TB6, RB6, AB6, F6⟩
          case measure => simp [intOf]; omega
        · have hke : k = M.length := by omega
          rw [hke, List.take_of_length_le (by rw [List.length_map]; exact Nat.le_refl _)] at HT
          have HE := Lib.hid (HS.out.trans HT.out)
          obtain ⟨m0, m1, m2, -, -, -⟩ := TB.out.facts
          obtain ⟨p0, p1, p2, z0, z1, z2⟩ := ABr.out.facts
          dsimp only at m0 m1 m2 p0 p1 p2
          have AB6 := Lib.hid (setTr_B ABr.out sa sb sc)
          have F7 := Lib.hid (FR.out.fresh (setTr_fr wr (g + 1) sa sb sc) (fun k e => by have : k = g + 1 := e; omega))
          clear HT TB RBr ABr FR
          go_wp2
          exact bodyPost_ret (v := trV ⟨sa, sb, sc⟩) (ret_tr (p := 6) rfl _ _ _ ⟨sa, sb, sc⟩ (by rfl) AB6.out) rfl ⟨by rw [HE.out], F7.out⟩

set_option maxHeartbeats 8000000 in
theorem pzchor_of (v1 v2 : Value) (cols : List Co) (zs : List Zn) (ks : List Pd) (t : Kv) (w : World) (h1 : Ks w v1 cols) (h2 : Zs w v2 zs) (hk : Kd w t ks) (hl : ks.length ≤ 1000) (h0 : 0 < ks.length)
    (IH0 : Hid (∀ j (h : j < ks.length) (W : World) (t' : Kv), Fr Non w W → Kd W t' ks[j].kids → Calls Tryd.prog 20 #[knV v1 v2, pdV ks[j].hd t'] W fun e w' => e = .returned (trV (prnP cols zs ks[j])) ∧ Fr Non W w')) :
    Calls Tryd.prog 41 #[knV v1 v2, kidV t, .func (.func 43) #[] #[]] w fun e w' => e = .returned (trV (anyT2 (ks.map (prnP cols zs)))) ∧ Fr Non w w' := by
  cases ks with
  | nil => exact absurd h0 (by simp)
  | cons x0 M =>
    have hn := hk.len
    obtain ⟨A1, c1, rfl⟩ := h1.shape
    obtain ⟨A2, c2, rfl⟩ := h2.shape
    obtain ⟨A, n, c⟩ := t
    dsimp only [List.length_cons] at hn hl
    have hn1 : 1 ≤ n := by omega
    have hM : M.length ≤ 999 := by omega
    obtain ⟨A', c', hsl, hkt⟩ := hk.tail hn1
    rw [show n - 1 = M.length by omega] at hsl hkt
    have hn0 : 0 < n := by omega
    have HK : Hid (Kd w ⟨A', M.length, c'⟩ M) := Lib.hid hkt
    have IH : Hid (∀ j (h : j < M.length) (W : World) (t' : Kv), Fr Non w W → Kd W t' M[j].kids → Calls Tryd.prog 20 #[.agg #[.slice A1 cols.length c1, .slice A2 zs.length c2], pdV M[j].hd t'] W fun e w' => e = .returned (trV (prnP cols zs M[j])) ∧ Fr Non W w') :=
      Lib.hid (fun j h W t' a b => IH0.out (j + 1) (by simpa using h) W t' a b)
    obtain ⟨W0, hW0⟩ : ∃ W, W = (w.alloc (.cells #[.slice A1 cols.length c1, .slice A2 zs.length c2] 59)).alloc (.cells #[.bool false, .bool false, .bool false] 35) := ⟨_, rfl⟩
    have F0 : Fr Non w W0 := by rw [hW0]; exact ((Fr.refl Non w).alloc _).alloc _
    have RB0 : Blk W0 w.heap.size 59 #[.slice A1 cols.length c1, .slice A2 zs.length c2] := by
      rw [hW0]; exact (Blk.new w 59 #[.slice A1 cols.length c1, .slice A2 zs.length c2]).fr ((Fr.refl Non _).alloc _) (fun e => e)
    have AB0 : TrB 35 W0 (w.heap.size + 1) ⟨false, false, false⟩ := by
      rw [hW0]; exact tr_newG _ _ ⟨false, false, false⟩ _ (by simp)
    have hWs : W0.heap.size = w.heap.size + 1 + 1 := by rw [hW0]; simp
    obtain ⟨a, t0, hA, hc0, hkk0, -⟩ := hk.elN F0 0 (by simp)
    have HT0 : Hid (∀ W, Fr Non w W → Calls Tryd.prog 20 #[.agg #[.slice A1 cols.length c1, .slice A2 zs.length c2], pdV x0.hd t0] W fun e w' => e = .returned (trV (prnP cols zs x0)) ∧ Fr Non W w') :=
      Lib.hid (fun W hf => IH0.out 0 (by simp) W t0 hf (hkk0.non hf))
    have HS : Hid (anyT2 ((x0 :: M).map (prnP cols zs)) = anyT2 (prnP cols zs x0 :: M.map (prnP cols zs))) := Lib.hid rfl
    have HSt : Hid (anyT2 (prnP cols zs x0 :: (M.map (prnP cols zs)).take 0) = prnP cols zs x0) := Lib.hid (anyT_one _)
    clear hk h1 h2 hkk0 IH0 h0 hkt hl hn hn1
    dsimp only at hA
    rw [List.getElem_cons_zero, Nat.zero_mul, add_none] at hc0
    obtain ⟨k0, k1, k2, k3, k4, k5, k6, k7, k8⟩ := hc0
    subst hA
    generalize anyT2 ((x0 :: M).map (prnP cols zs)) = r at *
    generalize hy0 : prnP cols zs x0 = y at *
    obtain ⟨ya, yb, yc, hy⟩ : ∃ a b d, y = ⟨a, b, d⟩ := ⟨y.yes, y.no, y.maybe, rfl⟩
    clear hy0
    rw [hy] at HT0
    generalize x0.hd = x at *
    obtain ⟨xo, xc, xm, ⟨xn, xi, xt⟩, xk, xp⟩ := x
    obtain ⟨tA, tn, tc⟩ := t0
    unfold knV
    unfold pdV pdC kidV at *
    unfold trV at HT0
    dsimp only at *
    generalize hg : w.heap.size = g at *
    have r0 := RB0.cell 0
    have r1 := RB0.cell 1
    simp at r0 r1
    replace F0 := Lib.hid F0
    replace RB0 := Lib.hid RB0
    replace AB0 := Lib.hid AB0
    replace hWs := Lib.hid hWs
    replace hy := Lib.hid hy
    have HgR := Lib.hid hg
    go_enter Tryd.func41, Tryd.ntmps41
    go_wp2
    rw [← hW0]
    clear hW0
    obtain ⟨V, hV⟩ : ∃ V, V = W0.drew := ⟨_, rfl⟩
    refine wp_region_held_drew (S := (fun W' => W'.cell? ⟨g, 0, none⟩ = some (.slice A1 cols.length c1) ∧ W'.cell? ⟨g, 1, none⟩ = some (.slice A2 zs.length c2) ∧ W'.cell? a = some (.int .i64 xo) ∧ W'.cell? { block := a.block, off := a.off + 1 } = some (.string ⟨xc.toArray⟩) ∧ W'.cell? { block := a.block, off := a.off + 2 } = some (.int .i64 xm) ∧ W'.cell? { block := a.block, off := a.off + 3 } = some (.bool xn) ∧ W'.cell? { block := a.block, off := a.off + 4 } = some (.int .i64 xi) ∧ W'.cell? { block := a.block, off := a.off + 5 } = some (.string ⟨xt.toArray⟩) ∧ W'.cell? { block := a.block, off := a.off + 6 } = some (.int .i64 xk) ∧ W'.cell? { block := a.block, off := a.off + 7 } = some (.string ⟨xp.toArray⟩) ∧ W'.cell? { block := a.block, off := a.off + 8 } = some (.slice tA tn tc))) (by kernel_rfl) (by exact ⟨r0, r1, k0, k1, k2, k3, k4, k5, k6, k7, k8⟩) (fun hHeld => ?_)
    rw [← hV]
    rw [← hV] at hHeld
    have FV : Hid (Fr Non w V) := Lib.hid (by rw [hV]; exact F0.out.drew)
    have F0V : Fr Non W0 V := by rw [hV]; exact (Fr.refl Non W0).drew
    have RB : Hid (Blk V g 59 #[.slice A1 cols.length c1, .slice A2 zs.length c2]) := Lib.hid (RB0.out.fr F0V (fun e => e))
    have AB : Hid (TrB 35 V (g + 1) ⟨false, false, false⟩) := Lib.hid (AB0.out.fr F0V (fun e => e))
    have HVs : Hid (V.heap.size = g + 1 + 1) := Lib.hid (by rw [hV]; exact hWs.out)
    replace r0 := F0V.at0 r0
    replace r1 := F0V.at0 r1
    replace k0 := F0V.at0 k0
    replace k1 := F0V.at0 k1
    replace k2 := F0V.at0 k2
    replace k3 := F0V.at0 k3
    replace k4 := F0V.at0 k4
    replace k5 := F0V.at0 k5
    replace k6 := F0V.at0 k6
    replace k7 := F0V.at0 k7
    replace k8 := F0V.at0 k8
    clear F0 RB0 AB0 hWs hV F0V
    refine wpAnyH_take (i := 0) (oi := ⟨some 10, _, _, _, _, none⟩) (v := ?v13) rfl (by kernel_rfl) (by kernel_rfl) (by kernel_rfl) (fun _ _ _ h => h) (Or.inl ⟨by rfl, ?hy13⟩) (by assumption) ?rest13
    case hy13 => (intro wS hSw; (try dsimp only at hSw); go_simp; (try with_reducible rfl))
    (try simp only [Act.put, List.setIfInBounds_toArray, List.set_cons_zero, List.set_cons_succ])
    refine wpAnyH_take (i := 1) (oi := ⟨some 11, _, _, _, _, none⟩) (v := ?v14) rfl (by kernel_rfl) (by kernel_rfl) (by kernel_rfl) (fun _ _ _ h => h) (Or.inl ⟨by rfl, ?hy14⟩) (by assumption) ?rest14
    case hy14 => (intro wS hSw; (try dsimp only at hSw); go_simp; (try with_reducible rfl))
    (try simp only [Act.put, List.setIfInBounds_toArray, List.set_cons_zero, List.set_cons_succ])
    refine wpAnyH_take (i := 2) (oi := ⟨some 12, _, _, _, _, none⟩) (v := ?v15) rfl (by kernel_rfl) (by kernel_rfl) (by kernel_rfl) (fun _ _ _ h => h) (Or.inl ⟨by rfl, ?hy15⟩) (by assumption) ?rest15
    case hy15 => (intro wS hSw; (try dsimp only at hSw); go_simp; (try with_reducible rfl))
    (try simp only [Act.put, List.setIfInBounds_toArray, List.set_cons_zero, List.set_cons_succ])
    refine wpAnyH_take (i := 3) (oi := ⟨some 13, _, _, _, _, none⟩) (v := ?v16) rfl (by kernel_rfl) (by kernel_rfl) (by kernel_rfl) (fun _ _ _ h => h) (Or.inl ⟨by rfl, ?hy16⟩) (by assumption) ?rest16
    case hy16 => (intro wS hSw; (try dsimp only at hSw); go_simp; (try with_reducible rfl))
    (try simp only [Act.put, List.setIfInBounds_toArray, List.set_cons_zero, List.set_cons_succ])
    refine wpAnyH_ready (rs := [4, 5]) (by kernel_rfl) (by simp) ?_
    refine AllReadyH.cons (o := ⟨some 14, _, _, _, _, none⟩) rfl (fun K hK => ?_) (AllReadyH.cons (o := ⟨some 7, _, _, _, _, none⟩) rfl (fun K hK => ?_) AllReadyH.nil)
    · go_simp
      go_at_call 20
      refine (HT0.out _ FV.out).mono ?_
      rintro e w4 ⟨rfl, f4⟩
      go_wp2_with fail
      refine hK.out _ _ (by exact ⟨f4.at0 r0, f4.at0 r1, f4.at0 k0, f4.at0 k1, f4.at0 k2, f4.at0 k3, f4.at0 k4, f4.at0 k5, f4.at0 k6, f4.at0 k7, f4.at0 k8⟩) (fun hHeld => ?_)
      clear hK K
      (try simp only [Act.put, List.setIfInBounds_toArray, List.set_cons_zero, List.set_cons_succ])
      refine wpAnyH_ready (rs := [5]) (by kernel_rfl) (by simp) ?_
      refine AllReadyH.cons (o := ⟨some 7, _, _, _, _, none⟩) rfl (fun K hK => ?_) AllReadyH.nil
      obtain ⟨R, hR⟩ : ∃ R, w4.heap.size = R := ⟨_, rfl⟩
      obtain ⟨W5, hW5⟩ : ∃ W, W = w4.alloc (.cells #[.bool false, .bool false, .bool false] 35) := ⟨_, rfl⟩
      have TB5 : TrB 35 W5 R ⟨false, false, false⟩ := by rw [hW5]; exact tr_newG _ w4 ⟨false, false, false⟩ R hR
      have F5 : Fr Non V W5 := by rw [hW5]; exact f4.alloc _
      have hRV : V.heap.size ≤ R := by have := f4.size; omega
      go_simp
      rw [← hW5]
      clear hW5 hR
      refine hK.out _ _ (by exact ⟨F5.at0 r0, F5.at0 r1, F5.at0 k0, F5.at0 k1, F5.at0 k2, F5.at0 k3, F5.at0 k4, F5.at0 k5, F5.at0 k6, F5.at0 k7, F5.at0 k8⟩) (fun hHeld => ?_)
      clear hK K
      (try simp only [Act.put, List.setIfInBounds_toArray, List.set_cons_zero, List.set_cons_succ])
      refine wpAnyH_ready (rs := [6]) (by kernel_rfl) (by simp) ?_
      refine AllReadyH.cons (o := ⟨none, _, _, _, _, none⟩) rfl (fun K hK => ?_) AllReadyH.nil
      obtain ⟨p0, p1, p2, z0, z1, z2⟩ := TB5.facts
      obtain ⟨W6, hW6⟩ : ∃ W, W = setTr W5 R ya yb yc := ⟨_, rfl⟩
      have s6 : Fr (One R) W5 W6 := by rw [hW6]; exact setTr_fr _ _ _ _ _
      have TB6 : TrB 35 W6 R ⟨ya, yb, yc⟩ := by rw [hW6]; exact setTr_B TB5 _ _ _
      have F6 : Fr Non V W6 := F5.fresh s6 (fun k e => by have : k = R := e; omega)
      unfold setTr at hW6
      go_simp
      rw [← hW6]
      clear hW6 p0 p1 p2 z0 z1 z2
      refine hK.out _ _ (by exact ⟨F6.at0 r0, F6.at0 r1, F6.at0 k0, F6.at0 k1, F6.at0 k2, F6.at0 k3, F6.at0 k4, F6.at0 k5, F6.at0 k6, F6.at0 k7, F6.at0 k8⟩) (fun hHeld => ?_)
      clear hK K
      (try simp only [Act.put, List.setIfInBounds_toArray, List.set_cons_zero, List.set_cons_succ])
      refine wpAnyH_done (by kernel_rfl) ?_ _
      clear hHeld
      have hR2 : g + 1 < R := by have := HVs.out; omega
      have FE := Lib.hid (FV.out.trans F6)
      have TB := Lib.hid TB6
      have RBE := Lib.hid (RB.out.fr F6 (fun e => e))
      have ABE : Hid (TrB 35 W6 (g + 1) ⟨false, false, false⟩) := Lib.hid (AB.out.fr F6 (fun e => e))
      clear r0 r1 k0 k1 k2 k3 k4 k5 k6 k7 k8 TB6 F6 F5 f4 TB5 s6 hRV HVs HT0
      go_wp2
      go_loopw [18] (fun i wr => ∃ (k : Nat) (st : Tr), k ≤ M.length ∧ i = .int .i64 k ∧ Hid (anyT2 (y :: (M.map (prnP cols zs)).take k) = st) ∧ Hid (TrB 35 wr R st) ∧ Hid (Blk wr g 59 #[.slice A1 cols.length c1, .slice A2 zs.length c2]) ∧ Hid (TrB 35 wr (g + 1) ⟨false, false, false⟩) ∧ Hid (Fr Non w wr)) (fun i _ => M.length - (intOf i).toNat)
      case atStart => exact ⟨0, y, Nat.zero_le _, rfl, HSt, by rw [hy]; exact TB, RBE, ABE, FE⟩
      case round =>
        clear RBE ABE FE TB
        obtain ⟨k, st, hk, rfl, HT, TB, RBr, ABr, FR⟩ := hrel
        obtain ⟨sa, sb, sc⟩ := st
        by_cases hlt : k < M.length
        · obtain ⟨a, t, hA, hc2, hkk, -⟩ := HK.out.elN FR.out k hlt
          dsimp only at hA
          subst hA
          have F1 : Fr Non wr (wr.alloc (.cells (pdC M[k].hd t) 27)) := (Fr.refl Non wr).alloc _
          have HCa : Hid (∀ W, Fr Non w W → Calls Tryd.prog 20 #[.agg #[.slice A1 cols.length c1, .slice A2 zs.length c2], pdV M[k].hd t] W fun e w' => e = .returned (trV (prnP cols zs M[k])) ∧ Fr Non W w') :=
            Lib.hid (fun W hf => IH.out k hlt W t hf (hkk.non hf))
          have HN : Hid (anyT2 (y :: (M.map (prnP cols zs)).take (k + 1)) = orTr ⟨sa, sb, sc⟩ (prnP cols zs M[k])) := Lib.hid (by
            rw [anyT_take (by rw [List.length_map]; exact hlt), HT.out, List.getElem_map])
          have HJ := Lib.hid (fun b W => pzor_any ⟨sa, sb, sc⟩ b W)
          have HB := Lib.hid (pd_new wr _ M[k].hd t rfl)
          have RB1 := Lib.hid (RBr.out.fr F1 (fun e => e))
          have AB1 : Hid (TrB 35 (wr.alloc (.cells (pdC M[k].hd t) 27)) (g + 1) ⟨false, false, false⟩) := Lib.hid (ABr.out.fr F1 (fun e => e))
          have TB1 : Hid (TrB 35 (wr.alloc (.cells (pdC M[k].hd t) 27)) R ⟨sa, sb, sc⟩) := Lib.hid (TB.out.fr F1 (fun e => e))
          have FR1 := Lib.hid (FR.out.trans F1)
          obtain ⟨k0, k1, k2, k3, k4, k5, k6, k7, k8⟩ := hc2
          clear hkk HT TB RBr ABr FR F1
          generalize prnP cols zs M[k] = q at *
          obtain ⟨qa, qb, qc⟩ := q
          generalize M[k].hd = x at *
          obtain ⟨xo, xc, xm, ⟨xn, xi, xt⟩, xk, xp⟩ := x
          obtain ⟨tA, tn, tc⟩ := t
          unfold pdV pdC kidV at *
          unfold trV at HCa HJ
          dsimp only at *
          generalize hD : wr.heap.size = D at *
          go_wp2
          clear k0 k1 k2 k3 k4 k5 k6 k7 k8
          obtain ⟨k0, k1, k2, k3, k4, k5, k6, k7, k8⟩ := pdB_cells HB.out
          dsimp only at k0 k1 k2 k3 k4 k5 k6 k7 k8
          obtain ⟨m0, m1, m2, -, -, -⟩ := TB1.out.facts
          dsimp only at m0 m1 m2
          have r0 := RB1.out.cell 0
          have r1 := RB1.out.cell 1
          simp at r0 r1
          refine wp_region_K (fun W' => W'.cell? ⟨g, 0, none⟩ = some (.slice A1 cols.length c1) ∧ W'.cell? ⟨g, 1, none⟩ = some (.slice A2 zs.length c2) ∧ W'.cell? ⟨R, 0, none⟩ = some (.bool sa) ∧ W'.cell? ⟨R, 1, none⟩ = some (.bool sb) ∧ W'.cell? ⟨R, 2, none⟩ = some (.bool sc) ∧ W'.cell? ⟨D, 0, none⟩ = some (.int .i64 xo) ∧ W'.cell? ⟨D, 1, none⟩ = some (.string ⟨xc.toArray⟩) ∧ W'.cell? ⟨D, 2, none⟩ = some (.int .i64 xm) ∧ W'.cell? ⟨D, 3, none⟩ = some (.bool xn) ∧ W'.cell? ⟨D, 4, none⟩ = some (.int .i64 xi) ∧ W'.cell? ⟨D, 5, none⟩ = some (.string ⟨xt.toArray⟩) ∧ W'.cell? ⟨D, 6, none⟩ = some (.int .i64 xk) ∧ W'.cell? ⟨D, 7, none⟩ = some (.string ⟨xp.toArray⟩) ∧ W'.cell? ⟨D, 8, none⟩ = some (.slice tA tn tc)) 6 (by kernel_rfl) ?_
          obtain ⟨V1, hV1⟩ : ∃ V, V = (wr.alloc (.cells #[.int .i64 xo, .string ⟨xc.toArray⟩, .int .i64 xm, .bool xn, .int .i64 xi, .string ⟨xt.toArray⟩, .int .i64 xk, .string ⟨xp.toArray⟩, .slice tA tn tc] 27)).drew := ⟨_, rfl⟩
          rw [← hV1]
          have FV1 : Fr Non (wr.alloc (.cells #[.int .i64 xo, .string ⟨xc.toArray⟩, .int .i64 xm, .bool xn, .int .i64 xi, .string ⟨xt.toArray⟩, .int .i64 xk, .string ⟨xp.toArray⟩, .slice tA tn tc] 27)) V1 := by rw [hV1]; exact (Fr.refl Non _).drew
          clear hV1
          have hHeld : (fun W' : World => W'.cell? ⟨g, 0, none⟩ = some (.slice A1 cols.length c1) ∧ W'.cell? ⟨g, 1, none⟩ = some (.slice A2 zs.length c2) ∧ W'.cell? ⟨R, 0, none⟩ = some (.bool sa) ∧ W'.cell? ⟨R, 1, none⟩ = some (.bool sb) ∧ W'.cell? ⟨R, 2, none⟩ = some (.bool sc) ∧ W'.cell? ⟨D, 0, none⟩ = some (.int .i64 xo) ∧ W'.cell? ⟨D, 1, none⟩ = some (.string ⟨xc.toArray⟩) ∧ W'.cell? ⟨D, 2, none⟩ = some (.int .i64 xm) ∧ W'.cell? ⟨D, 3, none⟩ = some (.bool xn) ∧ W'.cell? ⟨D, 4, none⟩ = some (.int .i64 xi) ∧ W'.cell? ⟨D, 5, none⟩ = some (.string ⟨xt.toArray⟩) ∧ W'.cell? ⟨D, 6, none⟩ = some (.int .i64 xk) ∧ W'.cell? ⟨D, 7, none⟩ = some (.string ⟨xp.toArray⟩) ∧ W'.cell? ⟨D, 8, none⟩ = some (.slice tA tn tc)) V1 := ⟨FV1.at0 r0, FV1.at0 r1, FV1.at0 m0, FV1.at0 m1, FV1.at0 m2, FV1.at0 k0, FV1.at0 k1, FV1.at0 k2, FV1.at0 k3, FV1.at0 k4, FV1.at0 k5, FV1.at0 k6, FV1.at0 k7, FV1.at0 k8⟩
          refine wpAnyK_take (i := 0) (oi := ⟨some 22, _, _, _, _, none⟩) (v := ?v17) rfl (by kernel_rfl) (by kernel_rfl) (by kernel_rfl) (fun _ _ _ h => h) (by kernel_rfl) (by decide) (Or.inl ⟨by rfl, ?hy17⟩) (by assumption) ?rest17
          case hy17 => (intro wS hSw; (try dsimp only at hSw); go_simp; (try with_reducible rfl))
          (try simp only [Act.put, List.setIfInBounds_toArray, List.set_cons_zero, List.set_cons_succ])
          refine wpAnyK_take (i := 1) (oi := ⟨some 23, _, _, _, _, none⟩) (v := ?v18) rfl (by kernel_rfl) (by kernel_rfl) (by kernel_rfl) (fun _ _ _ h => h) (by kernel_rfl) (by decide) (Or.inl ⟨by rfl, ?hy18⟩) (by assumption) ?rest18
          case hy18 => (intro wS hSw; (try dsimp only at hSw); go_simp; (try with_reducible rfl))
          (try simp only [Act.put, List.setIfInBounds_toArray, List.set_cons_zero, List.set_cons_succ])
          refine wpAnyK_take (i := 2) (oi := ⟨some 24, _, _, _, _, none⟩) (v := ?v19) rfl (by kernel_rfl) (by kernel_rfl) (by kernel_rfl) (fun _ _ _ h => h) (by kernel_rfl) (by decide) (Or.inl ⟨by rfl, ?hy19⟩) (by assumption) ?rest19
          case hy19 => (intro wS hSw; (try dsimp only at hSw); go_simp; (try with_reducible rfl))
          (try simp only [Act.put, List.setIfInBounds_toArray, List.set_cons_zero, List.set_cons_succ])
          refine wpAnyK_take (i := 3) (oi := ⟨some 25, _, _, _, _, none⟩) (v := ?v20) rfl (by kernel_rfl) (by kernel_rfl) (by kernel_rfl) (fun _ _ _ h => h) (by kernel_rfl) (by decide) (Or.inl ⟨by rfl, ?hy20⟩) (by assumption) ?rest20
          case hy20 => (intro wS hSw; (try dsimp only at hSw); go_simp; (try with_reducible rfl))
          (try simp only [Act.put, List.setIfInBounds_toArray, List.set_cons_zero, List.set_cons_succ])
          refine wpAnyK_one (i := 4) (o := ⟨some 26, _, _, _, _, none⟩) (by kernel_rfl) rfl (fun K hK => ?_)
          go_simp
          go_at_call 20
          refine (HCa.out _ (FR1.out.trans FV1)).mono ?_
          rintro e w4 ⟨rfl, f4⟩
          have f4' := FV1.trans f4
          go_wp2_with fail
          refine hK.out _ _ (fun _ => ⟨f4'.at0 r0, f4'.at0 r1, f4'.at0 m0, f4'.at0 m1, f4'.at0 m2, f4'.at0 k0, f4'.at0 k1, f4'.at0 k2, f4'.at0 k3, f4'.at0 k4, f4'.at0 k5, f4'.at0 k6, f4'.at0 k7, f4'.at0 k8⟩) ?_
          clear hK K
          (try simp only [Act.put, List.setIfInBounds_toArray, List.set_cons_zero, List.set_cons_succ])
          refine wpAnyK_one (i := 5) (o := ⟨some 27, _, _, _, _, none⟩) (by kernel_rfl) rfl (fun K hK => ?_)
          go_simp
          go_at_call 43
          refine (HJ.out ⟨qa, qb, qc⟩ _).mono ?_
          rintro e w5 ⟨rfl, f5⟩
          have f5' := f4'.trans f5
          go_wp2_with fail
          refine hK.out _ _ (fun _ => ⟨f5'.at0 r0, f5'.at0 r1, f5'.at0 m0, f5'.at0 m1, f5'.at0 m2, f5'.at0 k0, f5'.at0 k1, f5'.at0 k2, f5'.at0 k3, f5'.at0 k4, f5'.at0 k5, f5'.at0 k6, f5'.at0 k7, f5'.at0 k8⟩) ?_
          clear hK K
          (try simp only [Act.put, List.setIfInBounds_toArray, List.set_cons_zero, List.set_cons_succ])
          have TB5 : TrB 35 w5 R ⟨sa, sb, sc⟩ := TB1.out.fr f5' (fun e => e)
          obtain ⟨p0, p1, p2, z0, z1, z2⟩ := TB5.facts
          obtain ⟨W6, hW6⟩ : ∃ W, W = setTr w5 R (orTr ⟨sa, sb, sc⟩ ⟨qa, qb, qc⟩).yes (orTr ⟨sa, sb, sc⟩ ⟨qa, qb, qc⟩).no (orTr ⟨sa, sb, sc⟩ ⟨qa, qb, qc⟩).maybe := ⟨_, rfl⟩
          have s6 : Fr (One R) w5 W6 := by rw [hW6]; exact setTr_fr _ _ _ _ _
          have TB6 : Hid (TrB 35 W6 R (orTr ⟨sa, sb, sc⟩ ⟨qa, qb, qc⟩)) := Lib.hid (by rw [hW6]; exact setTr_B TB5 _ _ _)
          have RB6 := Lib.hid ((RB1.out.fr f5' (fun e => e)).fr s6 (fun e => by have : g = R := e; omega))
          have AB6 : Hid (TrB 35 W6 (g + 1) ⟨false, false, false⟩) := Lib.hid ((AB1.out.fr f5' (fun e => e)).fr s6 (fun e => by have : g + 1 = R := e; omega))
          have F6 := Lib.hid ((FR1.out.trans f5').fresh s6 (fun k e => by have : k = R := e; have := HgR.out; omega))
          unfold setTr at hW6
          refine wpAnyK_one (i := 6) (o := ⟨none, _, _, _, _, none⟩) (by kernel_rfl) rfl (fun K hK => ?_)
          go_simp
          rw [← hW6]
          clear hW6
          refine hK.out _ _ (fun h => absurd rfl h) ?_
          clear hK K
          (try simp only [Act.put, List.setIfInBounds_toArray, List.set_cons_zero, List.set_cons_succ])
          refine wpAnyK_done (by kernel_rfl) ?_ _
          clear hHeld p0 p1 p2 z0 z1 z2 m0 m1 m2 r0 r1 k0 k1 k2 k3 k4 k5 k6 k7 k8 TB5 TB1 RB1 AB1 FR1 HB HCa HJ f5 f5' f4 f4' s6 FV1
          go_wp2
          go_roundw
          case rel => exact ⟨k + 1, _, by omega, by go_num, HN, TB6, RB6, AB6, F6⟩
          case measure => simp [intOf]; omega
        · have hke : k = M.length := by omega
          rw [hke, List.take_of_length_le (by rw [List.length_map]; exact Nat.le_refl _)] at HT
          have HE := Lib.hid (HS.out.trans HT.out)
          obtain ⟨m0, m1, m2, -, -, -⟩ := TB.out.facts
          obtain ⟨p0, p1, p2, z0, z1, z2⟩ := ABr.out.facts
          dsimp only at m0 m1 m2 p0 p1 p2
          have AB6 := Lib.hid (setTr_B ABr.out sa sb sc)
          have F7 := Lib.hid (FR.out.fresh (setTr_fr wr (g + 1) sa sb sc) (fun k e => by have : k = g + 1 := e; omega))
          clear HT TB RBr ABr FR
          go_wp2
          exact bodyPost_ret (v := trV ⟨sa, sb, sc⟩) (ret_tr (p := 6) rfl _ _ _ ⟨sa, sb, sc⟩ (by rfl) AB6.out) rfl ⟨by rw [HE.out], F7.out⟩
    · obtain ⟨R, hR⟩ : ∃ R, V.heap.size = R := ⟨_, rfl⟩
      obtain ⟨W5, hW5⟩ : ∃ W, W = V.alloc (.cells #[.bool false, .bool false, .bool false] 35) := ⟨_, rfl⟩
      have TB5 : TrB 35 W5 R ⟨false, false, false⟩ := by rw [hW5]; exact tr_newG _ V ⟨false, false, false⟩ R hR
      have F5 : Fr Non V W5 := by rw [hW5]; exact (Fr.refl Non V).alloc _
      have hRV : V.heap.size ≤ R := by omega
      go_simp
      rw [← hW5]
      clear hW5 hR
      refine hK.out _ _ (by exact ⟨F5.at0 r0, F5.at0 r1, F5.at0 k0, F5.at0 k1, F5.at0 k2, F5.at0 k3, F5.at0 k4, F5.at0 k5, F5.at0 k6, F5.at0 k7, F5.at0 k8⟩) (fun hHeld => ?_)
      clear hK K
      (try simp only [Act.put, List.setIfInBounds_toArray, List.set_cons_zero, List.set_cons_succ])
      refine wpAnyH_ready (rs := [4]) (by kernel_rfl) (by simp) ?_
      refine AllReadyH.cons (o := ⟨some 14, _, _, _, _, none⟩) rfl (fun K hK => ?_) AllReadyH.nil
      go_simp
      go_at_call 20
      refine (HT0.out _ (FV.out.trans F5)).mono ?_
      rintro e w4 ⟨rfl, f4⟩
      go_wp2_with fail
      replace TB5 : TrB 35 w4 R ⟨false, false, false⟩ := TB5.fr f4 (fun e => e)
      replace F5 : Fr Non V w4 := F5.trans f4
      refine hK.out _ _ (by exact ⟨F5.at0 r0, F5.at0 r1, F5.at0 k0, F5.at0 k1, F5.at0 k2, F5.at0 k3, F5.at0 k4, F5.at0 k5, F5.at0 k6, F5.at0 k7, F5.at0 k8⟩) (fun hHeld => ?_)
      clear hK K
      (try simp only [Act.put, List.setIfInBounds_toArray, List.set_cons_zero, List.set_cons_succ])
      refine wpAnyH_ready (rs := [6]) (by kernel_rfl) (by simp) ?_
      refine AllReadyH.cons (o := ⟨none, _, _, _, _, none⟩) rfl (fun K hK => ?_) AllReadyH.nil
      obtain ⟨p0, p1, p2, z0, z1, z2⟩ := TB5.facts
      obtain ⟨W6, hW6⟩ : ∃ W, W = setTr w4 R ya yb yc := ⟨_, rfl⟩
      have s6 : Fr (One R) w4 W6 := by rw [hW6]; exact setTr_fr _ _ _ _ _
      have TB6 : TrB 35 W6 R ⟨ya, yb, yc⟩ := by rw [hW6]; exact setTr_B TB5 _ _ _
      have F6 : Fr Non V W6 := F5.fresh s6 (fun k e => by have : k = R := e; omega)
      unfold setTr at hW6
      go_simp
      rw [← hW6]
      clear hW6 p0 p1 p2 z0 z1 z2
      refine hK.out _ _ (by exact ⟨F6.at0 r0, F6.at0 r1, F6.at0 k0, F6.at0 k1, F6.at0 k2, F6.at0 k3, F6.at0 k4, F6.at0 k5, F6.at0 k6, F6.at0 k7, F6.at0 k8⟩) (fun hHeld => ?_)
      clear hK K
      (try simp only [Act.put, List.setIfInBounds_toArray, List.set_cons_zero, List.set_cons_succ])
      refine wpAnyH_done (by kernel_rfl) ?_ _
      clear hHeld
      have hR2 : g + 1 < R := by have := HVs.out; omega
      have FE := Lib.hid (FV.out.trans F6)
      have TB := Lib.hid TB6
      have RBE := Lib.hid (RB.out.fr F6 (fun e => e))
      have ABE : Hid (TrB 35 W6 (g + 1) ⟨false, false, false⟩) := Lib.hid (AB.out.fr F6 (fun e => e))
      clear r0 r1 k0 k1 k2 k3 k4 k5 k6 k7 k8 TB6 F6 F5 f4 TB5 s6 hRV HVs HT0
      go_wp2
      go_loopw [18] (fun i wr => ∃ (k : Nat) (st : Tr), k ≤ M.length ∧ i = .int .i64 k ∧ Hid (anyT2 (y :: (M.map (prnP cols zs)).take k) = st) ∧ Hid (TrB 35 wr R st) ∧ Hid (Blk wr g 59 #[.slice A1 cols.length c1, .slice A2 zs.length c2]) ∧ Hid (TrB 35 wr (g + 1) ⟨false, false, false⟩) ∧ Hid (Fr Non w wr)) (fun i _ => M.length - (intOf i).toNat)
      case atStart => exact ⟨0, y, Nat.zero_le _, rfl, HSt, by rw [hy]; exact TB, RBE, ABE, FE⟩
      case round =>
        clear RBE ABE FE TB
        obtain ⟨k, st, hk, rfl, HT, TB, RBr, ABr, FR⟩ := hrel
        obtain ⟨sa, sb, sc⟩ := st
        by_cases hlt : k < M.length
        · obtain ⟨a, t, hA, hc2, hkk, -⟩ := HK.out.elN FR.out k hlt
          dsimp only at hA
          subst hA
          have F1 : Fr Non wr (wr.alloc (.cells (pdC M[k].hd t) 27)) := (Fr.refl Non wr).alloc _
          have HCa : Hid (∀ W, Fr Non w W → Calls Tryd.prog 20 #[.agg #[.slice A1 cols.length c1, .slice A2 zs.length c2], pdV M[k].hd t] W fun e w' => e = .returned (trV (prnP cols zs M[k])) ∧ Fr Non W w') :=
            Lib.hid (fun W hf => IH.out k hlt W t hf (hkk.non hf))
          have HN : Hid (anyT2 (y :: (M.map (prnP cols zs)).take (k + 1)) = orTr ⟨sa, sb, sc⟩ (prnP cols zs M[k])) := Lib.hid (by
            rw [anyT_take (by rw [List.length_map]; exact hlt), HT.out, List.getElem_map])
          have HJ := Lib.hid (fun b W => pzor_any ⟨sa, sb, sc⟩ b W)
          have HB := Lib.hid (pd_new wr _ M[k].hd t rfl)
          have RB1 := Lib.hid (RBr.out.fr F1 (fun e => e))
          have AB1 : Hid (TrB 35 (wr.alloc (.cells (pdC M[k].hd t) 27)) (g + 1) ⟨false, false, false⟩) := Lib.hid (ABr.out.fr F1 (fun e => e))
          have TB1 : Hid (TrB 35 (wr.alloc (.cells (pdC M[k].hd t) 27)) R ⟨sa, sb, sc⟩) := Lib.hid (TB.out.fr F1 (fun e => e))
          have FR1 := Lib.hid (FR.out.trans F1)
          obtain ⟨k0, k1, k2, k3, k4, k5, k6, k7, k8⟩ := hc2
          clear hkk HT TB RBr ABr FR F1
          generalize prnP cols zs M[k] = q at *
          obtain ⟨qa, qb, qc⟩ := q
          generalize M[k].hd = x at *
          obtain ⟨xo, xc, xm, ⟨xn, xi, xt⟩, xk, xp⟩ := x
          obtain ⟨tA, tn, tc⟩ := t
          unfold pdV pdC kidV at *
          unfold trV at HCa HJ
          dsimp only at *
          generalize hD : wr.heap.size = D at *
          go_wp2
          clear k0 k1 k2 k3 k4 k5 k6 k7 k8
          obtain ⟨k0, k1, k2, k3, k4, k5, k6, k7, k8⟩ := pdB_cells HB.out
          dsimp only at k0 k1 k2 k3 k4 k5 k6 k7 k8
          obtain ⟨m0, m1, m2, -, -, -⟩ := TB1.out.facts
          dsimp only at m0 m1 m2
          have r0 := RB1.out.cell 0
          have r1 := RB1.out.cell 1
          simp at r0 r1
          refine wp_region_K (fun W' => W'.cell? ⟨g, 0, none⟩ = some (.slice A1 cols.length c1) ∧ W'.cell? ⟨g, 1, none⟩ = some (.slice A2 zs.length c2) ∧ W'.cell? ⟨R, 0, none⟩ = some (.bool sa) ∧ W'.cell? ⟨R, 1, none⟩ = some (.bool sb) ∧ W'.cell? ⟨R, 2, none⟩ = some (.bool sc) ∧ W'.cell? ⟨D, 0, none⟩ = some (.int .i64 xo) ∧ W'.cell? ⟨D, 1, none⟩ = some (.string ⟨xc.toArray⟩) ∧ W'.cell? ⟨D, 2, none⟩ = some (.int .i64 xm) ∧ W'.cell? ⟨D, 3, none⟩ = some (.bool xn) ∧ W'.cell? ⟨D, 4, none⟩ = some (.int .i64 xi) ∧ W'.cell? ⟨D, 5, none⟩ = some (.string ⟨xt.toArray⟩) ∧ W'.cell? ⟨D, 6, none⟩ = some (.int .i64 xk) ∧ W'.cell? ⟨D, 7, none⟩ = some (.string ⟨xp.toArray⟩) ∧ W'.cell? ⟨D, 8, none⟩ = some (.slice tA tn tc)) 6 (by kernel_rfl) ?_
          obtain ⟨V1, hV1⟩ : ∃ V, V = (wr.alloc (.cells #[.int .i64 xo, .string ⟨xc.toArray⟩, .int .i64 xm, .bool xn, .int .i64 xi, .string ⟨xt.toArray⟩, .int .i64 xk, .string ⟨xp.toArray⟩, .slice tA tn tc] 27)).drew := ⟨_, rfl⟩
          rw [← hV1]
          have FV1 : Fr Non (wr.alloc (.cells #[.int .i64 xo, .string ⟨xc.toArray⟩, .int .i64 xm, .bool xn, .int .i64 xi, .string ⟨xt.toArray⟩, .int .i64 xk, .string ⟨xp.toArray⟩, .slice tA tn tc] 27)) V1 := by rw [hV1]; exact (Fr.refl Non _).drew
          clear hV1
          have hHeld : (fun W' : World => W'.cell? ⟨g, 0, none⟩ = some (.slice A1 cols.length c1) ∧ W'.cell? ⟨g, 1, none⟩ = some (.slice A2 zs.length c2) ∧ W'.cell? ⟨R, 0, none⟩ = some (.bool sa) ∧ W'.cell? ⟨R, 1, none⟩ = some (.bool sb) ∧ W'.cell? ⟨R, 2, none⟩ = some (.bool sc) ∧ W'.cell? ⟨D, 0, none⟩ = some (.int .i64 xo) ∧ W'.cell? ⟨D, 1, none⟩ = some (.string ⟨xc.toArray⟩) ∧ W'.cell? ⟨D, 2, none⟩ = some (.int .i64 xm) ∧ W'.cell? ⟨D, 3, none⟩ = some (.bool xn) ∧ W'.cell? ⟨D, 4, none⟩ = some (.int .i64 xi) ∧ W'.cell? ⟨D, 5, none⟩ = some (.string ⟨xt.toArray⟩) ∧ W'.cell? ⟨D, 6, none⟩ = some (.int .i64 xk) ∧ W'.cell? ⟨D, 7, none⟩ = some (.string ⟨xp.toArray⟩) ∧ W'.cell? ⟨D, 8, none⟩ = some (.slice tA tn tc)) V1 := ⟨FV1.at0 r0, FV1.at0 r1, FV1.at0 m0, FV1.at0 m1, FV1.at0 m2, FV1.at0 k0, FV1.at0 k1, FV1.at0 k2, FV1.at0 k3, FV1.at0 k4, FV1.at0 k5, FV1.at0 k6, FV1.at0 k7, FV1.at0 k8⟩
          refine wpAnyK_take (i := 0) (oi := ⟨some 22, _, _, _, _, none⟩) (v := ?v21) rfl (by kernel_rfl) (by kernel_rfl) (by kernel_rfl) (fun _ _ _ h => h) (by kernel_rfl) (by decide) (Or.inl ⟨by rfl, ?hy21⟩) (by assumption) ?rest21
          case hy21 => (intro wS hSw; (try dsimp only at hSw); go_simp; (try with_reducible rfl))
          (try simp only [Act.put, List.setIfInBounds_toArray, List.set_cons_zero, List.set_cons_succ])
          refine wpAnyK_take (i := 1) (oi := ⟨some 23, _, _, _, _, none⟩) (v := ?v22) rfl (by kernel_rfl) (by kernel_rfl) (by kernel_rfl) (fun _ _ _ h => h) (by kernel_rfl) (by decide) (Or.inl ⟨by rfl, ?hy22⟩) (by assumption) ?rest22
          case hy22 => (intro wS hSw; (try dsimp only at hSw); go_simp; (try with_reducible rfl))
          (try simp only [Act.put, List.setIfInBounds_toArray, List.set_cons_zero, List.set_cons_succ])
          refine wpAnyK_take (i := 2) (oi := ⟨some 24, _, _, _, _, none⟩) (v := ?v23) rfl (by kernel_rfl) (by kernel_rfl) (by kernel_rfl) (fun _ _ _ h => h) (by kernel_rfl) (by decide) (Or.inl ⟨by rfl, ?hy23⟩) (by assumption) ?rest23
          case hy23 => (intro wS hSw; (try dsimp only at hSw); go_simp; (try with_reducible rfl))
          (try simp only [Act.put, List.setIfInBounds_toArray, List.set_cons_zero, List.set_cons_succ])
          refine wpAnyK_take (i := 3) (oi := ⟨some 25, _, _, _, _, none⟩) (v := ?v24) rfl (by kernel_rfl) (by kernel_rfl) (by kernel_rfl) (fun _ _ _ h => h) (by kernel_rfl) (by decide) (Or.inl ⟨by rfl, ?hy24⟩) (by assumption) ?rest24
          case hy24 => (intro wS hSw; (try dsimp only at hSw); go_simp; (try with_reducible rfl))
          (try simp only [Act.put, List.setIfInBounds_toArray, List.set_cons_zero, List.set_cons_succ])
          refine wpAnyK_one (i := 4) (o := ⟨some 26, _, _, _, _, none⟩) (by kernel_rfl) rfl (fun K hK => ?_)
          go_simp
          go_at_call 20
          refine (HCa.out _ (FR1.out.trans FV1)).mono ?_
          rintro e w4 ⟨rfl, f4⟩
          have f4' := FV1.trans f4
          go_wp2_with fail
          refine hK.out _ _ (fun _ => ⟨f4'.at0 r0, f4'.at0 r1, f4'.at0 m0, f4'.at0 m1, f4'.at0 m2, f4'.at0 k0, f4'.at0 k1, f4'.at0 k2, f4'.at0 k3, f4'.at0 k4, f4'.at0 k5, f4'.at0 k6, f4'.at0 k7, f4'.at0 k8⟩) ?_
          clear hK K
          (try simp only [Act.put, List.setIfInBounds_toArray, List.set_cons_zero, List.set_cons_succ])
          refine wpAnyK_one (i := 5) (o := ⟨some 27, _, _, _, _, none⟩) (by kernel_rfl) rfl (fun K hK => ?_)
          go_simp
          go_at_call 43
          refine (HJ.out ⟨qa, qb, qc⟩ _).mono ?_
          rintro e w5 ⟨rfl, f5⟩
          have f5' := f4'.trans f5
          go_wp2_with fail
          refine hK.out _ _ (fun _ => ⟨f5'.at0 r0, f5'.at0 r1, f5'.at0 m0, f5'.at0 m1, f5'.at0 m2, f5'.at0 k0, f5'.at0 k1, f5'.at0 k2, f5'.at0 k3, f5'.at0 k4, f5'.at0 k5, f5'.at0 k6, f5'.at0 k7, f5'.at0 k8⟩) ?_
          clear hK K
          (try simp only [Act.put, List.setIfInBounds_toArray, List.set_cons_zero, List.set_cons_succ])
          have TB5 : TrB 35 w5 R ⟨sa, sb, sc⟩ := TB1.out.fr f5' (fun e => e)
          obtain ⟨p0, p1, p2, z0, z1, z2⟩ := TB5.facts
          obtain ⟨W6, hW6⟩ : ∃ W, W = setTr w5 R (orTr ⟨sa, sb, sc⟩ ⟨qa, qb, qc⟩).yes (orTr ⟨sa, sb, sc⟩ ⟨qa, qb, qc⟩).no (orTr ⟨sa, sb, sc⟩ ⟨qa, qb, qc⟩).maybe := ⟨_, rfl⟩
          have s6 : Fr (One R) w5 W6 := by rw [hW6]; exact setTr_fr _ _ _ _ _
          have TB6 : Hid (TrB 35 W6 R (orTr ⟨sa, sb, sc⟩ ⟨qa, qb, qc⟩)) := Lib.hid (by rw [hW6]; exact setTr_B TB5 _ _ _)
          have RB6 := Lib.hid ((RB1.out.fr f5' (fun e => e)).fr s6 (fun e => by have : g = R := e; omega))
          have AB6 : Hid (TrB 35 W6 (g + 1) ⟨false, false, false⟩) := Lib.hid ((AB1.out.fr f5' (fun e => e)).fr s6 (fun e => by have : g + 1 = R := e; omega))
          have F6 := Lib.hid ((FR1.out.trans f5').fresh s6 (fun k e => by have : k = R := e; have := HgR.out; omega))
          unfold setTr at hW6
          refine wpAnyK_one (i := 6) (o := ⟨none, _, _, _, _, none⟩) (by kernel_rfl) rfl (fun K hK => ?_)
          go_simp
          rw [← hW6]
          clear hW6
          refine hK.out _ _ (fun h => absurd rfl h) ?_
          clear hK K
          (try simp only [Act.put, List.setIfInBounds_toArray, List.set_cons_zero, List.set_cons_succ])
          refine wpAnyK_done (by kernel_rfl) ?_ _
          clear hHeld p0 p1 p2 z0 z1 z2 m0 m1 m2 r0 r1 k0 k1 k2 k3 k4 k5 k6 k7 k8 TB5 TB1 RB1 AB1 FR1 HB HCa HJ f5 f5' f4 f4' s6 FV1
          go_wp2
          go_roundw
          case rel => exact ⟨k + 1, _, by omega, by go_num, HN, TB6, RB6, AB6, F6⟩
          case measure => simp [intOf]; omega
        · have hke : k = M.length := by omega
          rw [hke, List.take_of_length_le (by rw [List.length_map]; exact Nat.le_refl _)] at HT
          have HE := Lib.hid (HS.out.trans HT.out)
          obtain ⟨m0, m1, m2, -, -, -⟩ := TB.out.facts
          obtain ⟨p0, p1, p2, z0, z1, z2⟩ := ABr.out.facts
          dsimp only at m0 m1 m2 p0 p1 p2
          have AB6 := Lib.hid (setTr_B ABr.out sa sb sc)
          have F7 := Lib.hid (FR.out.fresh (setTr_fr wr (g + 1) sa sb sc) (fun k e => by have : k = g + 1 := e; omega))
          clear HT TB RBr ABr FR
          go_wp2
          exact bodyPost_ret (v := trV ⟨sa, sb, sc⟩) (ret_tr (p := 6) rfl _ _ _ ⟨sa, sb, sc⟩ (by rfl) AB6.out) rfl ⟨by rw [HE.out], F7.out⟩
end Go.Proofs.YtpmipdnmhffkeaaDoor
