/-
  Joined: Grp3, MathGroup2, MathPre3, MathQry2, QryC0, Name1, Name2, Pred2, Pred3, Pred4, Pred5, Glob1
-/
import Derived.Lib.Zigzag
import Derived.Deep.QuietTactic
import Derived.BigQuiet
import Derived.Deep.RegionHeld3
import Derived.Deep.DrawnRows
import Derived.Shelf.Strings.Replace
import Derived.Shelf.Strconv.Itoa4
import Derived.Shelf.Strings.OnBuilder
import Derived.Test.YtjcfjjhhbcgcmaaGreatProg
import Derived.Lib.SmallJoins
import Derived.Lib.AppendIntMem
import Derived.Laws.StructEq
import Derived.Laws.Rows
import Derived.Laws.ResultCell
import Derived.Deep.RegionWith
import Derived.Test.YtjcfjjhhbcgcmaaGreatZ1
import Derived.Test.YtjcfjjhhbcgcmaaGreatZ3
import Derived.Test.YtjcfjjhhbcgcmaaGreatZ4
import Derived.Test.YtjcfjjhhbcgcmaaGreatZ2
import Derived.Laws.RangeAny
import Derived.Lib.OthersKept
set_option linter.unusedVariables false
set_option linter.unusedSimpArgs false
set_option maxRecDepth 100000
namespace Go.Proofs.YtjcfjjhhbcgcmaaGreat
open Go.RowKit
theorem plain_more (cols : List Co) (q : Qy) (rows : List (List Cl)) {i : Nat} (h : i < rows.length) : plainG cols q (rows.take (i + 1)) = plainG cols q (rows.take i) ++ [if q.cols.length = 0 then rows[i] else q.cols.map fun n => cellN cols rows[i] n] := by
  unfold plainG
  rw [List.take_succ_eq_append_getElem h, List.map_append, List.map_cons, List.map_nil]
theorem plain_len (cols : List Co) (q : Qy) (rows : List (List Cl)) : (plainG cols q rows).length = rows.length := by unfold plainG; rw [List.length_map]
theorem cellN_at {cols : List Co} {r : List Cl} {n : Tx} {k : Nat} (hf : findC cols n = some k) (h : k < r.length) : cellN cols r n = r[k] := by
  unfold cellN; rw [hf]; dsimp only; rw [List.getD_eq_getElem?_getD, List.getElem?_eq_getElem h]; rfl
set_option maxHeartbeats 8000000 in
theorem dplain_any (v0 v2 : Value) (cols : List Co) (q : Qy) (c : Value) (s : Kv) (g : Value) (rows : List (List Cl)) (w : World) (h0 : Ks w v0 cols) (hq : QyS w q c s g) (h2 : Rs w v2 rows) (hcl : cols.length ≤ 1000) (hql : q.cols.length ≤ 1000) (hrl : rows.length ≤ 100000) (hr : ∀ r ∈ rows, r.length = cols.length) (hn : ∀ n ∈ q.cols, ∃ k, findC cols n = some k) :
    Calls Tryz.prog 28 #[v0, qyV q c s g, v2] w fun e w' => ∃ u, e = .returned u ∧ Ro w' w.heap.size u (plainG cols q rows) ∧ Fr Non w w' := by
  obtain ⟨A0, c0, rfl⟩ := h0.shape
  obtain ⟨A2, c2, rfl⟩ := h2.shape
  obtain ⟨Ac, cc, rfl⟩ := hq.cols.shape
  have HV := Lib.hid h0
  have HR := Lib.hid h2
  have HCs : Hid (Vs sv w (.slice Ac q.cols.length cc) q.cols) := Lib.hid hq.cols
  have HRl := Lib.hid hr
  have HNm := Lib.hid hn
  have f1 := ((Fr.refl Non w).alloc (.cells (qyC q (.slice Ac q.cols.length cc) s g) 31)).alloc (.cells #[] 47)
  have QB0 : Hid (QB ((w.alloc (.cells (qyC q (.slice Ac q.cols.length cc) s g) 31)).alloc (.cells #[] 47)) w.heap.size q (.slice Ac q.cols.length cc) s g) := Lib.hid ((qy_new w _ q _ s g rfl).fr ((Fr.refl Non _).alloc _) (fun e => e))
  have hO0 : Ro ((w.alloc (.cells (qyC q (.slice Ac q.cols.length cc) s g) 31)).alloc (.cells #[] 47)) (w.heap.size + 1) (.slice (some ⟨w.heap.size + 1, 0, none⟩) 0 0) [] := ro_lit0 _ (w.heap.size + 1) (w.heap.size + 1) (by simp) (Nat.le_refl _)
  clear h0 h2 hr hq hn
  unfold qyV
  unfold qyC at *
  generalize hb : w.heap.size = b at *
  have HB := Lib.hid hb
  have f1 := Lib.hid f1
  have hO0 := Lib.hid hO0
  obtain ⟨b0, b1, b2, b3, b4, b5, b6, b7, b8, b9, b10, b11, b12⟩ := qB_cells QB0.out
  go_enter Tryz.func28, Tryz.ntmps28
  go_wp2
  clear hb
  go_loopw [7, 8] (fun x i wr => ∃ (i' : Nat), i' ≤ rows.length ∧ i = .int .i64 i' ∧ Ro wr (b + 1) x (plainG cols q (rows.take i')) ∧ Hid (QB wr b q (.slice Ac q.cols.length cc) s g) ∧ Hid (Fr Non w wr)) (fun _ i _ => rows.length - (intOf i).toNat)
  case atStart => exact ⟨0, Nat.zero_le _, rfl, hO0.out, QB0, f1⟩
  case round =>
    clear hO0 f1 QB0 b0 b1 b2 b3 b4 b5 b6 b7 b8 b9 b10 b11 b12
    obtain ⟨i, hi, rfl, hO, QB1, FR⟩ := hrel
    rename World => w1
    have HO := Lib.hid hO
    clear hO
    obtain ⟨b0, b1, b2, b3, b4, b5, b6, b7, b8, b9, b10, b11, b12⟩ := qB_cells QB1.out
    by_cases hlt : i < rows.length
    · have HPm := Lib.hid (plain_more cols q rows hlt)
      have HPl : Hid ((plainG cols q (rows.take i)).length ≤ 100000) := Lib.hid (by rw [plain_len, List.length_take]; omega)
      generalize plainG cols q (rows.take i) = P at *
      have hrc : rows[i].length = cols.length := HRl.out _ (List.getElem_mem hlt)
      obtain ⟨a2, A3, c', e2, -, hc1, hc2⟩ := (HR.out.non FR.out).el i hlt
      subst e2
      generalize rows[i] = r at *
      have HC2 := Lib.hid hc2
      have Hc1 := Lib.hid hc1
      have Hrc := Lib.hid hrc
      clear hc1 hc2 hrc
      obtain ⟨M, hM⟩ : ∃ M, w1.heap.size = M := ⟨_, rfl⟩
      have HbM : Hid (b < M) := Lib.hid (by have := QB1.out.lt; omega)
      have HY0 : Hid (Oc (w1.alloc (.cells #[] 25)) M (.slice (some ⟨M, 0, none⟩) 0 0) []) := Lib.hid (oc_lit0 w1 M M hM.symm (Nat.le_refl _))
      have F1 := Lib.hid ((Fr.refl Non w1).alloc (.cells #[] 25))
      have HMe := Lib.hid hM
      go_wp2
      clear hM
      go_loopw [9, 10] (fun y k wq => ∃ (k' : Nat), k' ≤ q.cols.length ∧ k = .int .i64 k' ∧ Oc wq M y ((q.cols.take k').map (cellN cols r)) ∧ Hid (Fr Non w1 wq)) (fun _ k _ => q.cols.length - (intOf k).toNat)
      case atStart => exact ⟨0, Nat.zero_le _, rfl, HY0.out, F1⟩
      case round =>
        clear HY0 F1 b0 b1 b2 b3 b4 b5 b6 b7 b8 b9 b10 b11 b12
        obtain ⟨k, hk, rfl, hY, F1⟩ := hrel
        rename World => wq
        have HY := Lib.hid hY
        clear hY
        have QBq : Hid (QB wq b q (.slice Ac q.cols.length cc) s g) := Lib.hid (QB1.out.fr F1.out (fun e => e))
        obtain ⟨b0, b1, b2, b3, b4, b5, b6, b7, b8, b9, b10, b11, b12⟩ := qB_cells QBq.out
        by_cases hkl : k < q.cols.length
        · obtain ⟨ac, e3, -, -, hel0⟩ := (HCs.out.non (FR.out.trans F1.out)).addr (show 0 < q.cols.length by omega)
          subst e3
          have g0 := hel0 k hkl
          clear hel0
          obtain ⟨kk, hkk⟩ := HNm.out _ (List.getElem_mem hkl)
          have hkc := find_lt hkk
          have hkr : kk < r.length := by have := Hrc.out; omega
          have HX := Lib.hid (cellN_at hkk hkr)
          have HT : Hid ((q.cols.take (k + 1)).map (cellN cols r) = (q.cols.take k).map (cellN cols r) ++ [r[kk]]) := Lib.hid (by
            rw [List.take_succ_eq_append_getElem hkl, List.map_append, List.map_cons, List.map_nil, HX.out])
          have HDl : Hid (((q.cols.take k).map (cellN cols r)).length ≤ 1000) := Lib.hid (by rw [List.length_map, List.length_take]; omega)
          have HFi := Lib.hid (fun W h => rfind_any (.slice A0 cols.length c0) cols q.cols[k] W h (by omega))
          rw [hkk] at HFi
          unfold findI at HFi
          dsimp only at HFi
          clear hkk HX
          generalize (q.cols.take k).map (cellN cols r) = D at *
          generalize q.cols[k] = n at *
          unfold sv at g0
          obtain ⟨a3, e4, -, -, hel⟩ := (HC2.out.non F1.out).addr (show 0 < r.length by omega)
          subst e4
          obtain ⟨t0, t1, t2⟩ := (hel kk hkr).lit
          clear hel
          generalize r[kk] = x at *
          obtain ⟨xn, xi, xt⟩ := x
          dsimp only at t0 t1 t2
          have hc1 := F1.out.at0 Hc1.out
          have HMq : Hid (M ≤ wq.heap.size) := Lib.hid (by have := F1.out.size; have := HMe.out; omega)
          have FQ := Lib.hid (FR.out.trans F1.out)
          clear b0 b2 b3 b4 b5 b6 b7 b8 b9 b10 b11 b12
          obtain ⟨Ay, cy, hyv⟩ := HY.out.shape
          subst hyv
          go_wp2
          have hp2 : (a2.add i).block < M := by have := World.block_lt_of_cell? _ _ Hc1.out; have := HMe.out; omega
          have hp3 : (ac.add k).block < M := by
            obtain ⟨ac', e5, -, -, h5⟩ := (HCs.out.non FR.out).addr (show 0 < q.cols.length by omega)
            obtain rfl := Option.some.inj e5
            have := World.block_lt_of_cell? _ _ (h5 k hkl); have := HMe.out; omega
          have hp4 : (a3.add (kk * 3)).block < M := by
            obtain ⟨a3', e5, -, -, h5⟩ := HC2.out.addr (show 0 < r.length by omega)
            obtain rfl := Option.some.inj e5
            have := World.block_lt_of_cell? _ _ (h5 kk hkr).lit.1; have := HMe.out; omega
          obtain ⟨V, hV⟩ : ∃ V, V = wq.drew := ⟨_, rfl⟩
          refine wp_region_held_drew (S := (fun W' => W'.cell? ⟨b, 1, none⟩ = some (.slice (some ac) q.cols.length cc) ∧ W'.cell? (a2.add i) = some (.slice (some a3) r.length c') ∧ W'.cell? (ac.add k) = some (.string ⟨n.toArray⟩) ∧ W'.cell? (a3.add (kk * 3)) = some (.bool xn) ∧ W'.cell? { block := (a3.add (kk * 3)).block, off := (a3.add (kk * 3)).off + 1 } = some (.int .i64 xi) ∧ W'.cell? { block := (a3.add (kk * 3)).block, off := (a3.add (kk * 3)).off + 2 } = some (.string ⟨xt.toArray⟩))) (by kernel_rfl) (by exact ⟨b1, hc1, g0, t0, t1, t2⟩) (fun hHeld => ?_)
          rw [← hV]
          rw [← hV] at hHeld
          have FV : Fr Non wq V := by rw [hV]; exact (Fr.refl Non _).drew
          clear hV
          replace b1 := FV.at0 b1
          replace hc1 := FV.at0 hc1
          replace g0 := FV.at0 g0
          replace t0 := FV.at0 t0
          replace t1 := FV.at0 t1
          replace t2 := FV.at0 t2
          refine wpAnyH_take (i := 0) (oi := ⟨some 26, _, _, _, _, none⟩) (v := ?v94) rfl (by kernel_rfl) (by kernel_rfl) (by kernel_rfl) (fun _ _ _ h => h) (Or.inl ⟨by rfl, ?hy94⟩) (by assumption) ?rest94
          case hy94 => (intro wS hSw; (try dsimp only at hSw); go_simp; (try with_reducible rfl))
          (try simp only [Act.put, zA, zB, zC])
          refine wpAnyH_take (i := 1) (oi := ⟨some 27, _, _, _, _, none⟩) (v := ?v95) rfl (by kernel_rfl) (by kernel_rfl) (by kernel_rfl) (fun _ _ _ h => h) (Or.inl ⟨by rfl, ?hy95⟩) (by assumption) ?rest95
          case hy95 => (intro wS hSw; (try dsimp only at hSw); go_simp; (try with_reducible rfl))
          (try simp only [Act.put, zA, zB, zC])
          refine wpAnyH_take (i := 2) (oi := ⟨some 28, _, _, _, _, none⟩) (v := ?v96) rfl (by kernel_rfl) (by kernel_rfl) (by kernel_rfl) (fun _ _ _ h => h) (Or.inl ⟨by rfl, ?hy96⟩) (by assumption) ?rest96
          case hy96 => (intro wS hSw; (try dsimp only at hSw); go_simp; (try with_reducible rfl))
          (try simp only [Act.put, zA, zB, zC])
          refine wpAnyH_take (i := 3) (oi := ⟨some 29, _, _, _, _, none⟩) (v := ?v97) rfl (by kernel_rfl) (by kernel_rfl) (by kernel_rfl) (fun _ _ _ h => h) (Or.inl ⟨by rfl, ?hy97⟩) (by assumption) ?rest97
          case hy97 => (intro wS hSw; (try dsimp only at hSw); go_simp; (try with_reducible rfl))
          (try simp only [Act.put, zA, zB, zC])
          refine wpAnyH_take (i := 4) (oi := ⟨some 30, _, _, _, _, none⟩) (v := ?v98) rfl (by kernel_rfl) (by kernel_rfl) (by kernel_rfl) (fun _ _ _ h => h) (Or.inl ⟨by rfl, ?hy98⟩) (by assumption) ?rest98
          case hy98 => (intro wS hSw; (try dsimp only at hSw); go_simp; (try with_reducible rfl))
          (try simp only [Act.put, zA, zB, zC])
          refine wpAnyH_take (i := 5) (oi := ⟨some 31, _, _, _, _, none⟩) (v := ?v99) rfl (by kernel_rfl) (by kernel_rfl) (by kernel_rfl) (fun _ _ _ h => h) (Or.inl ⟨by rfl, ?hy99⟩) (by assumption) ?rest99
          case hy99 => (intro wS hSw; (try dsimp only at hSw); go_simp; (try with_reducible rfl))
          (try simp only [Act.put, zA, zB, zC])
          refine wpAnyH_take (i := 6) (oi := ⟨some 32, _, _, _, _, none⟩) (v := ?v100) rfl (by kernel_rfl) (by kernel_rfl) (by kernel_rfl) (fun _ _ _ h => h) (Or.inl ⟨by rfl, ?hy100⟩) (by assumption) ?rest100
          case hy100 => (intro wS hSw; (try dsimp only at hSw); go_simp; (try with_reducible rfl))
          (try simp only [Act.put, zA, zB, zC])
          refine wpAnyH_take (i := 7) (oi := ⟨some 33, _, _, _, _, none⟩) (v := ?v101) rfl (by kernel_rfl) (by kernel_rfl) (by kernel_rfl) (fun _ _ _ h => h) (Or.inl ⟨by rfl, ?hy101⟩) (by assumption) ?rest101
          case hy101 => (intro wS hSw; (try dsimp only at hSw); go_simp; (try with_reducible rfl))
          (try simp only [Act.put, zA, zB, zC])
          refine wpAnyH_take (i := 8) (oi := ⟨some 34, _, _, _, _, none⟩) (v := ?v102) rfl (by kernel_rfl) (by kernel_rfl) (by kernel_rfl) (fun _ _ _ h => h) (Or.inl ⟨by rfl, ?hy102⟩) (by assumption) ?rest102
          case hy102 => (intro wS hSw; (try dsimp only at hSw); go_simp; (try with_reducible rfl))
          (try simp only [Act.put, zA, zB, zC])
          refine wpAnyH_take (i := 9) (oi := ⟨some 35, _, _, _, _, none⟩) (v := ?v103) rfl (by kernel_rfl) (by kernel_rfl) (by kernel_rfl) (fun _ _ _ h => h) (Or.inl ⟨by rfl, ?hy103⟩) (by assumption) ?rest103
          case hy103 => (intro wS hSw; (try dsimp only at hSw); go_simp; (try with_reducible rfl))
          (try simp only [Act.put, zA, zB, zC])
          refine wpAnyH_take (i := 10) (oi := ⟨some 36, _, _, _, _, none⟩) (v := ?v104) rfl (by kernel_rfl) (by kernel_rfl) (by kernel_rfl) (fun _ _ _ h => h) (Or.inl ⟨by rfl, ?hy104⟩) (by assumption) ?rest104
          case hy104 => (intro wS hSw; (try dsimp only at hSw); go_simp; (try with_reducible rfl))
          (try simp only [Act.put, zA, zB, zC])
          refine wpAnyH_ready (rs := [11]) (by kernel_rfl) (by simp) ?_
          refine AllReadyH.cons (o := ⟨some 37, _, _, _, _, none⟩) rfl (fun K hK => ?_) AllReadyH.nil
          go_simp
          go_at_call 30
          refine (HFi.out _ (HV.out.non (FQ.out.trans FV))).mono ?_
          rintro e w4 ⟨rfl, f4⟩
          go_wp2_with fail
          refine hK.out _ _ (by exact ⟨f4.at0 b1, f4.at0 hc1, f4.at0 g0, f4.at0 t0, f4.at0 t1, f4.at0 t2⟩) (fun hHeld => ?_)
          clear hK K
          (try simp only [Act.put, zA, zB, zC])
          replace b1 := f4.at0 b1
          replace hc1 := f4.at0 hc1
          replace g0 := f4.at0 g0
          replace t0 := f4.at0 t0
          replace t1 := f4.at0 t1
          replace t2 := f4.at0 t2
          have F4 := FV.trans f4
          have HY4 := HY.out.non F4
          clear FV f4
          refine wpAnyH_take (i := 12) (oi := ⟨some 38, _, _, _, _, none⟩) (v := ?v105) rfl (by kernel_rfl) (by kernel_rfl) (by kernel_rfl) (fun _ _ _ h => h) (Or.inl ⟨by rfl, ?hy105⟩) (by assumption) ?rest105
          case hy105 => (intro wS hSw; (try dsimp only at hSw); go_simp; (try with_reducible rfl))
          (try simp only [Act.put, zA, zB, zC])
          refine wpAnyH_take (i := 13) (oi := ⟨some 39, _, _, _, _, none⟩) (v := ?v106) rfl (by kernel_rfl) (by kernel_rfl) (by kernel_rfl) (fun _ _ _ h => h) (Or.inl ⟨by rfl, ?hy106⟩) (by assumption) ?rest106
          case hy106 => (intro wS hSw; (try dsimp only at hSw); go_simp; (try with_reducible rfl))
          (try simp only [Act.put, zA, zB, zC])
          refine wpAnyH_ready (rs := [14]) (by kernel_rfl) (by simp) ?_
          refine AllReadyH.cons (o := ⟨some 40, _, _, _, _, none⟩) rfl (fun K hK => ?_) AllReadyH.nil
          obtain ⟨H, hH⟩ : ∃ H, w4.heap.size = H := ⟨_, rfl⟩
          obtain ⟨w5, hw5⟩ : ∃ W, W = w4.alloc (.cells #[.bool xn, .int .i64 xi, .string ⟨xt.toArray⟩] 25) := ⟨_, rfl⟩
          have HB1 : ClB w5 H ⟨xn, xi, xt⟩ := by rw [hw5, ← hH]; exact cl_new _ ⟨xn, xi, xt⟩
          have f5 : Fr Non w4 w5 := by rw [hw5]; exact (Fr.refl Non _).alloc _
          have F5 : Fr Non wq w5 := F4.trans f5
          have HY5 := HY4.non f5
          go_simp
          rw [← hw5]
          clear hw5
          refine hK.out _ _ (by exact ⟨f5.at0 b1, f5.at0 hc1, f5.at0 g0, f5.at0 t0, f5.at0 t1, f5.at0 t2⟩) (fun hHeld => ?_)
          clear hK K
          (try simp only [Act.put, zA, zB, zC])
          replace b1 := f5.at0 b1
          replace hc1 := f5.at0 hc1
          replace g0 := f5.at0 g0
          replace t0 := f5.at0 t0
          replace t1 := f5.at0 t1
          replace t2 := f5.at0 t2
          clear HY4 F4 f5 hH
          refine wpAnyH_ready (rs := [15]) (by kernel_rfl) (by simp) ?_
          refine AllReadyH.cons (o := ⟨some 41, _, _, _, _, none⟩) rfl (fun K hK => ?_) AllReadyH.nil
          refine wp_appC (.tmp 26) (.tmp 40) rfl M _ (.slice (some ⟨H, 0, none⟩) 1 1) D [⟨xn, xi, xt⟩] rfl HY5 rfl (cs_lit1 HB1) (by have := HDl.out; simp; omega) (by have := F5.size; have := HMq.out; omega) ?_
          intro y6 w6 HY6 f6
          have keep6 : ∀ {p : Addr} {u : Value}, w5.cell? p = some u → p.block < M → w6.cell? p = some u := fun {p u} e hp => (f6.cell (World.block_lt_of_cell? _ _ e) (fun e2 => by have := (HY5.lt _ e2).1; omega)).trans e
          have F6 := F1.out.fresh (F5.any.trans f6) (fun z e => by have := (HY5.lt z e).1; have := HMe.out; omega)
          refine hK.out _ _ (by exact ⟨keep6 b1 HbM.out, keep6 hc1 hp2, keep6 g0 hp3, keep6 t0 hp4, keep6 t1 hp4, keep6 t2 hp4⟩) (fun hHeld => ?_)
          clear hK K
          (try simp only [Act.put, zA, zB, zC])
          refine wpAnyH_take (i := 16) (oi := ⟨some 9, _, _, _, _, none⟩) (v := ?v107) rfl (by kernel_rfl) (by kernel_rfl) (by kernel_rfl) (fun _ _ _ h => h) (Or.inl ⟨by rfl, ?hy107⟩) (by assumption) ?rest107
          case hy107 => (intro wS hSw; (try dsimp only at hSw); go_simp; (try with_reducible rfl))
          (try simp only [Act.put, zA, zB, zC])
          refine wpAnyH_done (by kernel_rfl) ?_ _
          have F6h := Lib.hid F6
          have HY6h := Lib.hid HY6
          clear hHeld F6 HY6 HY5 F5 HB1 keep6 b1 hc1 g0 t0 t1 t2 f6 hp2 hp3 hp4
          obtain ⟨A6, c6, hv6⟩ := HY6h.out.shape
          go_wp2
          go_roundw
          case rel => exact ⟨k + 1, by omega, by go_num, by rw [HT.out]; exact HY6h.out, F6h⟩
          case measure => simp [intOf]; omega
        · have hke : k = q.cols.length := by omega
          rw [hke, List.take_length] at HY
          have HOq := Lib.hid (HO.out.non F1.out)
          have FQ := Lib.hid (FR.out.trans F1.out)
          have hbM : b + 1 ≤ wq.heap.size := by have := QBq.out.lt; omega
          by_cases h0 : q.cols.length = 0
          · have hd : ((q.cols.length : Int) == 0) = true := by rw [h0]; rfl
            have HE : Hid (q.cols = []) := Lib.hid (List.eq_nil_of_length_eq_zero h0)
            rw [HE.out, List.map_nil] at HY
            have HYm := Lib.hid (HY.out.mono (show b + 1 ≤ M by have := HbM.out; omega))
            have hcq := F1.out.at0 Hc1.out
            have HCq := Lib.hid (HC2.out.non F1.out)
            have hrl2 : r.length ≤ 1000 := by have := Hrc.out; omega
            have HPm0 : Hid (plainG cols q (rows.take (i + 1)) = P ++ [[] ++ r]) := Lib.hid (by rw [HPm.out, if_pos h0, List.nil_append])
            obtain ⟨Ay, cy, hyv⟩ := HY.out.shape
            subst hyv
            clear hke h0
            go_wp2_with (at_builtin; first | (refine wpList_appC (by rfl) (.tmp 46) (.tmp 50) rfl (b + 1) _ (.slice A3 r.length c') [] r rfl HYm.out rfl HCq.out (by simp; omega) hbM ?_; intro y6 w6 HY6 f6; obtain ⟨A6, c6, e6⟩ := HY6.shape; subst e6; have FY6 : Fr Non w1 w6 := F1.out.fresh f6 (fun z e => by have := (HY.out.lt z e).1; have := HMe.out; omega); have HO6 := HO.out.non FY6; have hb6 : b + 1 ≤ w6.heap.size := Nat.le_trans hbM f6.size) | (refine wpList_pushRo rfl (.tmp 52) (.tmp 54) rfl (b + 1) _ P rfl HO6 _ ([] ++ r) HY6 (by rfl) (by have := HPl.out; omega) hb6 ?_; intro x7 w7 HX7 f7))
            have F7 := Lib.hid ((FR.out.trans FY6).fresh f7 (fun z e => by have := (HO6.lt z e).1; have := HB.out; omega))
            have QB7 := Lib.hid ((QB1.out.fr FY6 (fun e => e)).fr f7 (fun e => by have := (HO6.lt _ e).1; omega))
            go_roundw
            case rel => exact ⟨i + 1, by omega, by go_num, by rw [HPm0.out]; exact HX7, QB7, F7⟩
            case measure => simp [intOf]; omega
          · have hd : ((q.cols.length : Int) == 0) = false := by rw [beq_eq_false_iff_ne]; omega
            have HPm0 : Hid (plainG cols q (rows.take (i + 1)) = P ++ [q.cols.map (cellN cols r)]) := Lib.hid (by rw [HPm.out, if_neg h0])
            have HYm := Lib.hid (HY.out.mono (show b + 1 ≤ M by have := HbM.out; omega))
            obtain ⟨Ay, cy, hyv⟩ := HY.out.shape
            rw [List.length_map] at hyv
            subst hyv
            clear hke h0
            go_wp2_with (at_builtin; refine wpList_pushRo rfl (.tmp 52) (.tmp 54) rfl (b + 1) _ P rfl HOq.out _ (q.cols.map (cellN cols r)) HYm.out (by rfl) (by have := HPl.out; omega) hbM ?_; intro x7 w7 HX7 f7)
            have F7 := Lib.hid (FQ.out.fresh f7 (fun z e => by have := (HOq.out.lt z e).1; have := HB.out; omega))
            have QB7 := Lib.hid (QBq.out.fr f7 (fun e => by have := (HOq.out.lt _ e).1; omega))
            go_roundw
            case rel => exact ⟨i + 1, by omega, by go_num, by rw [HPm0.out]; exact HX7, QB7, F7⟩
            case measure => simp [intOf]; omega
    · have hie : i = rows.length := by omega
      rw [hie, List.take_length] at HO
      go_wp2
      go_ret
      exact ⟨_, rfl, HO.out.mono (by have := HB.out; omega), FR.out⟩
end Go.Proofs.YtjcfjjhhbcgcmaaGreat

namespace Go.Proofs.YtjcfjjhhbcgcmaaGreat
open Go.RowKit
theorem fitQ_parts {cols : List Co} {q : Qy} (h : fitQ cols q = 0) : mayQ q = true ∧ chkC cols = 0 ∧ typP cols q.whr = true ∧ suitQ cols q = true := by
  unfold fitQ at h
  split at h
  · cases h
  · rename_i h1
    split at h
    · rename_i h2
      refine ⟨?_, ?_, h2.1, h2.2⟩
      · cases e : mayQ q
        · exact absurd (.inl e) h1
        · rfl
      · by_cases e : chkC cols = 0
        · exact e
        · exact absurd (.inr e) h1
    · cases h
theorem mayQ_ways {q : Qy} (h : mayQ q = true) : (q.aggs.length = 0 ∧ q.by_ = []) ∨ (0 < q.aggs.length ∧ (∀ a ∈ q.aggs, agB a = true) ∧ q.cols.length = 0) := by
  unfold mayQ at h
  rw [Bool.and_eq_true, Bool.and_eq_true, Bool.or_eq_true] at h
  rcases h.2.2 with h | h
  · unfold plainQ at h
    rw [Bool.and_eq_true, Bool.and_eq_true, decide_eq_true_eq, decide_eq_true_eq] at h
    exact .inl ⟨h.1, h.2.1⟩
  · unfold foldQ at h
    simp only [Bool.and_eq_true, decide_eq_true_eq, List.all_eq_true] at h
    exact .inr ⟨h.1, h.2.2.1, h.2.2.2.1⟩
theorem named_has {cols : List Co} {q : Qy} (h : suitQ cols q = true) : (∀ n ∈ q.cols, ∃ k, findC cols n = some k) ∧ (∀ a ∈ q.aggs, a.op ≠ 1 → ∃ k, findC cols a.col = some k) ∧ (q.by_ ≠ [] → allQ q = false → ∃ k, findC cols q.by_ = some k) := by
  unfold suitQ at h
  rw [Bool.and_eq_true, List.all_eq_true] at h
  have hh : ∀ {n}, n ∈ namedQ cols q → ∃ k, findC cols n = some k := fun {n} hn => by
    have := h.1 n hn
    unfold hasC at this
    cases e : findC cols n with
    | none => rw [e] at this; cases this
    | some k => exact ⟨k, rfl⟩
  unfold namedQ at hh
  cases ea : allQ q
  · simp only [ea, Bool.false_eq_true, if_false] at hh
    refine ⟨fun n hn => hh (by simp [hn]), fun a ha h1 => hh ?_, fun hb _ => hh ?_⟩
    · rw [List.mem_append, List.mem_append]
      refine .inl (.inr ?_)
      unfold agN
      exact List.mem_map.2 ⟨a, List.mem_filter.2 ⟨ha, decide_eq_true h1⟩, rfl⟩
    · rw [List.mem_append]
      refine .inr ?_
      unfold byN
      rw [if_neg hb]; exact List.mem_singleton.2 rfl
  · unfold allQ at ea
    rw [Bool.and_eq_true, decide_eq_true_eq, decide_eq_true_eq] at ea
    refine ⟨fun n hn => ?_, fun a ha => ?_, fun _ e => by cases e⟩
    · rw [List.eq_nil_of_length_eq_zero ea.1] at hn; cases hn
    · rw [List.eq_nil_of_length_eq_zero ea.2] at ha; cases ha
end Go.Proofs.YtjcfjjhhbcgcmaaGreat

namespace Go.Proofs.YtjcfjjhhbcgcmaaGreat
open Go.RowKit
def bare (op : Int) : Ph := ⟨op, [], 0, zCl, 0, []⟩
end Go.Proofs.YtjcfjjhhbcgcmaaGreat

namespace Go.Proofs.YtjcfjjhhbcgcmaaGreat
open Go.RowKit
theorem may_one {p : Pd} (h : mayP p = true) : oneP p = true := by
  unfold mayP at h
  rw [Bool.and_eq_true] at h
  exact h.2
end Go.Proofs.YtjcfjjhhbcgcmaaGreat

namespace Go.Proofs.YtjcfjjhhbcgcmaaGreat
open Go.RowKit
theorem wpList_pushS {w0 : World} {ops : Array Oper} {rest : List Oper} {o : Oper} {a : Act} {Q : Exit → Act → World → Prop} (hgd : o.guard = none) (s x : Operand)
    (ho : o.op = .call { callee := .builtin .append, args := #[s, x], argTypes := #[23, 23] })
    (B : Nat) (v : Value) (l : List Tx) (hs : a.eval s = v) (hown : Ow sv 9 w0 B v l) (u : Value) (y : Tx) (hu : u = sv y) (g : Nat) (hx : a.eval x = .slice (some ⟨g, 0, none⟩) 1 1) (hg : g = w0.heap.size)
    (hl : l.length < 1099511627776) (hB : B ≤ w0.heap.size)
    (h : ∀ v' w', Ow sv 9 w' B v' (l ++ [y]) → Fr (fun k => v.ownBlock = some k) w0 w' → wpList Tryz.prog ops Q rest (a.put o.dst v') w') :
    wpList Tryz.prog ops Q (o :: rest) a (w0.alloc (.cells #[u] 9)) := by
  subst hg
  exact wpList_pushG el_str sv_one hgd s x ho B v l hs hown u y hu hx hl hB h
end Go.Proofs.YtjcfjjhhbcgcmaaGreat

namespace Go.Proofs.YtjcfjjhhbcgcmaaGreat
open Go.RowKit
theorem isletter_any (r : Int) (w : World) : Calls Tryz.prog 79 #[.int .i32 r] w fun e w' => e = .returned (.bool (ltrI r)) ∧ w = w' := by
  by_cases h1 : 97 ≤ r
  · by_cases h2 : r ≤ 122
    · have H := Lib.hid (show ltrI r = true by simp [ltrI, h1, h2])
      go_enter Tryz.func79, Tryz.ntmps79
      go_wp2
      go_ret
      exact ⟨ret_boolE H.out.symm, rfl⟩
    · have H := Lib.hid (show ltrI r = false by simp [ltrI, h1, h2])
      go_enter Tryz.func79, Tryz.ntmps79
      go_wp2
      go_ret
      exact ⟨ret_boolE H.out.symm, rfl⟩
  · have H := Lib.hid (show ltrI r = false by simp [ltrI, h1])
    go_enter Tryz.func79, Tryz.ntmps79
    go_wp2
    go_ret
    exact ⟨ret_boolE H.out.symm, rfl⟩
theorem isdigit_any (r : Int) (w : World) : Calls Tryz.prog 80 #[.int .i32 r] w fun e w' => e = .returned (.bool (dgtI r)) ∧ w = w' := by
  by_cases h1 : 48 ≤ r
  · by_cases h2 : r ≤ 57
    · have H := Lib.hid (show dgtI r = true by simp [dgtI, h1, h2])
      go_enter Tryz.func80, Tryz.ntmps80
      go_wp2
      go_ret
      exact ⟨ret_boolE H.out.symm, rfl⟩
    · have H := Lib.hid (show dgtI r = false by simp [dgtI, h1, h2])
      go_enter Tryz.func80, Tryz.ntmps80
      go_wp2
      go_ret
      exact ⟨ret_boolE H.out.symm, rfl⟩
  · have H := Lib.hid (show dgtI r = false by simp [dgtI, h1])
    go_enter Tryz.func80, Tryz.ntmps80
    go_wp2
    go_ret
    exact ⟨ret_boolE H.out.symm, rfl⟩
set_option maxHeartbeats 4000000 in
theorem isword_any (l : List UInt8) (w : World) : Calls Tryz.prog 78 #[.string ⟨l.toArray⟩] w fun e w' => e = .returned (.bool (decide (l ∈ wordsL))) ∧ w = w' := by
  go_enter Tryz.func78, Tryz.ntmps78
  go_wp2
  all_goals
    go_ret
    exact ⟨ret_boolE (by simp_all [wordsL]), rfl⟩
theorem words_any (w : World) : Calls Tryz.prog 107 #[] w fun e w' => ∃ v, e = .returned v ∧ Vs sv w' v wordsL ∧ Fr Non w w' := by
  have hv := ow_lit (f := sv) (E := 9) w 0 _ wordsL #[.string ⟨#[97, 110, 100]⟩, .string ⟨#[111, 114]⟩, .string ⟨#[110, 111, 116]⟩, .string ⟨#[105, 115]⟩, .string ⟨#[110, 117, 108, 108]⟩, .string ⟨#[108, 105, 107, 101]⟩, .string ⟨#[116, 114, 117, 101]⟩, .string ⟨#[102, 97, 108, 115, 101]⟩, .string ⟨#[115, 101, 108, 101, 99, 116]⟩, .string ⟨#[102, 114, 111, 109]⟩, .string ⟨#[119, 104, 101, 114, 101]⟩, .string ⟨#[103, 114, 111, 117, 112]⟩, .string ⟨#[98, 121]⟩, .string ⟨#[97, 108, 108]⟩, .string ⟨#[99, 111, 117, 110, 116]⟩, .string ⟨#[104, 97, 115]⟩, .string ⟨#[115, 117, 109]⟩, .string ⟨#[109, 105, 110]⟩, .string ⟨#[109, 97, 120]⟩] rfl rfl (Nat.zero_le _) (by unfold maxLen; decide)
  have HV := Lib.hid hv.vs
  clear hv
  go_enter Tryz.func107, Tryz.ntmps107
  go_wp2
  go_ret
  exact ⟨_, rfl, HV.out, (Fr.refl _ _).alloc _⟩
end Go.Proofs.YtjcfjjhhbcgcmaaGreat

namespace Go.Proofs.YtjcfjjhhbcgcmaaGreat
open Go.RowKit
theorem slenN (l : List UInt8) : ByteArray.size ⟨l.toArray⟩ = l.length := by simp [ByteArray.size]
theorem not_word {l : List UInt8} (h : ∀ j (hj : j < wordsL.length), wordsL[j] ≠ l) : l ∉ wordsL := by
  intro hm
  obtain ⟨j, hj, e⟩ := List.mem_iff_getElem.1 hm
  exact h j hj e
theorem nmOk_more {l : List UInt8} {k : Nat} (h : ∀ j (hj : j < l.length), j < k → okI j (l[j]).toNat = true) (hk : k < l.length) (hc : okI k (l[k]).toNat = true) : ∀ j (hj : j < l.length), j < k + 1 → okI j (l[j]).toNat = true := by
  intro j hj hlt
  by_cases e : j = k
  · subst e; exact hc
  · exact h j hj (by omega)
set_option maxHeartbeats 2000000 in
theorem rname_any (l : List UInt8) (w : World) (hl : l.length ≤ 1000000000) : Calls Tryz.prog 73 #[.string ⟨l.toArray⟩] w fun e w' => e = .returned (.bool (nameB l)) ∧ Fr Non w w' := by
  have hs := slenN l
  go_enter Tryz.func73, Tryz.ntmps73
  go_wp2
  go_loop [3] (fun i => ∃ k : Nat, k ≤ l.length ∧ i = .int .i64 k ∧ Hid (∀ j (hj : j < l.length), j < k → okI j (l[j]).toNat = true)) (fun i => l.length - (intOf i).toNat)
  case atStart => exact ⟨0, by omega, rfl, Lib.hid (fun _ _ h => by omega)⟩
  case round =>
    obtain ⟨k, hk, rfl, hok⟩ := hrel
    by_cases hlt : k < l.length
    · obtain ⟨c, hc⟩ : ∃ c, l[k] = c := ⟨_, rfl⟩
      have hb := byte_at l k c hlt hc
      have HC := Lib.hid hc
      clear hc
      have HM := Lib.hid (fun (h : okI k c.toNat = true) => nmOk_more hok.out hlt (by rw [HC.out]; exact h))
      have HX := Lib.hid (fun (h : okI k c.toNat = false) => name_bad hlt (by rw [HC.out]; exact h))
      clear HC hok
      go_wp2
      all_goals first
        | (go_ret
           refine ⟨ret_boolE (HX.out ?_).symm, Fr.refl _ _⟩
           clear HX HM hb hs
           rw [Bool.eq_false_iff]
           intro hh
           simp [okI, ltrI, dgtI] at *
           done)
        | (go_ret
           refine ⟨ret_boolE (HX.out ?_).symm, Fr.refl _ _⟩
           clear HX HM hb hs
           rw [Bool.eq_false_iff]
           intro hh
           simp [okI, ltrI, dgtI] at *
           omega)
        | (go_roundw
           case rel =>
             refine ⟨k + 1, by omega, by go_num, Lib.hid (HM.out ?_)⟩
             clear HX HM hb hs
             simp [okI, ltrI, dgtI] at *
             omega
           case measure => simp [intOf]; omega)
        | (go_roundw
           case rel =>
             refine ⟨k + 1, by omega, by go_num, Lib.hid (HM.out ?_)⟩
             clear HX HM hb hs
             simp [okI, ltrI, dgtI] at *
             done
           case measure => simp [intOf]; omega)
    · have HO : Hid (nmOk l) := Lib.hid (fun j hj => hok.out j hj (by omega))
      clear hok
      go_wp2_with fail
      refine (words_any _).mono ?_
      rintro e w1 ⟨v, rfl, hv, hf1⟩
      have hw : wordsL.length = 19 := rfl
      obtain ⟨A, c, he, hc, hn, hcell⟩ := hv
      rw [hw] at he hc
      subst he
      have HN := Lib.hid hn
      have HCE := Lib.hid hcell
      have HF := Lib.hid hf1
      clear hn hcell hf1
      go_wp2
      go_loop [8] (fun i => ∃ q : Nat, q ≤ 19 ∧ i = .int .i64 q ∧ Hid (∀ j (hj : j < wordsL.length), j < q → wordsL[j] ≠ l)) (fun i => 19 - (intOf i).toNat)
      case atStart => exact ⟨0, by omega, rfl, Lib.hid (fun _ _ h => by omega)⟩
      case round =>
        obtain ⟨q, hq, rfl, hne⟩ := hrel
        by_cases hlq : q < 19
        · cases A with
          | none => have := HN.out rfl; omega
          | some a =>
            have hql : q < wordsL.length := by rw [hw]; exact hlq
            have hce := HCE.out a rfl q hql
            unfold sv at hce
            by_cases he : wordsL[q] = l
            · have HE := Lib.hid (name_word (l := l) (by rw [← he]; exact List.getElem_mem hql))
              rw [he] at hce
              clear he
              go_wp2
              go_ret
              exact ⟨ret_boolE HE.out.symm, HF.out⟩
            · have HE : Hid (∀ j (hj : j < wordsL.length), j < q + 1 → wordsL[j] ≠ l) := Lib.hid (fun j hj hlt => by
                by_cases e : j = q
                · subst e; exact he
                · exact hne.out j hj (by omega))
              have hb : (wordsL[q] == l) = false := by rw [beq_eq_false_iff_ne]; exact he
              clear he hne
              generalize wordsL[q] = x at *
              go_wp2
              go_roundw
              case rel => exact ⟨q + 1, by omega, by go_num, HE⟩
              case measure => simp [intOf]; omega
        · have HW : Hid (l ∉ wordsL) := Lib.hid (not_word fun j hj => hne.out j hj (by rw [hw] at hj; omega))
          clear hne
          by_cases h1 : 1 ≤ l.length
          · by_cases h2 : l.length ≤ 12
            · have H := Lib.hid (name_yes h1 h2 HW.out HO.out)
              go_wp2
              go_ret
              exact ⟨ret_boolE (by rw [H.out]; exact decide_eq_true (by omega)), HF.out⟩
            · have H := Lib.hid (name_long (l := l) (by omega))
              go_wp2
              go_ret
              exact ⟨ret_boolE (by rw [H.out]; exact decide_eq_false (by omega)), HF.out⟩
          · have H := Lib.hid (name_nil (l := l) (by omega))
            go_wp2
            go_ret
            exact ⟨ret_boolE H.out.symm, HF.out⟩
set_option maxHeartbeats 2000000 in
theorem sname_any (l : List UInt8) (w : World) (hl : l.length ≤ 1000000000) : Calls Tryz.prog 52 #[.string ⟨l.toArray⟩] w fun e w' => e = .returned (.bool (nameB l)) ∧ Fr Non w w' := by
  have hs := slenN l
  by_cases h0 : l = []
  · subst h0
    go_enter Tryz.func52, Tryz.ntmps52
    go_wp2
    go_ret
    exact ⟨rfl, Fr.refl _ _⟩
  · have h0b : (l == []) = false := by rw [beq_eq_false_iff_ne]; exact h0
    have HL : Hid (1 ≤ l.length) := Lib.hid (Nat.pos_of_ne_zero (fun e => h0 (List.eq_nil_of_length_eq_zero e)))
    clear h0
    by_cases h12 : 12 < l.length
    · have H := Lib.hid (name_long h12)
      go_enter Tryz.func52, Tryz.ntmps52
      go_wp2
      go_ret
      exact ⟨ret_boolE H.out.symm, Fr.refl _ _⟩
    · have HI := fun W => isword_any l W
      cases hw : decide (l ∈ wordsL)
      · simp only [hw] at HI
        have HW := Lib.hid (of_decide_eq_false hw)
        clear hw
        replace HI := Lib.hid HI
        go_enter Tryz.func52, Tryz.ntmps52
        go_wp2_with fail
        refine (HI.out _).mono ?_
        rintro e w1 ⟨rfl, rfl⟩
        clear HI
        go_wp2
        go_loopw [3, 4] (fun _ _ wr => ∃ k : Nat, k ≤ l.length ∧ wr = w.iter ⟨l.toArray⟩ k ∧ Hid (∀ j (hj : j < l.length), j < k → okI j (l[j]).toNat = true)) (fun _ _ wr => l.length - wr.iterPos w.heap.size)
        case atStart => exact ⟨0, by omega, rfl, Lib.hid (fun _ _ h => by omega)⟩
        case round =>
          obtain ⟨k, hk, rfl, hok⟩ := hrel
          by_cases hlt : k < l.length
          · obtain ⟨c, hc⟩ : ∃ c, l[k] = c := ⟨_, rfl⟩
            have hm := World.iterPos_iter w ⟨l.toArray⟩ k
            have HC := Lib.hid hc
            have hbk : (⟨l.toArray⟩ : ByteArray)[k]'(by rw [hs]; exact hlt) = c := hc
            clear hc
            have HM := Lib.hid (fun (h : okI k c.toNat = true) => nmOk_more hok.out hlt (by rw [HC.out]; exact h))
            have HX := Lib.hid (fun (h : okI k c.toNat = false) => name_bad hlt (by rw [HC.out]; exact h))
            clear HC hok
            by_cases hhi : c.toNat < 128
            · have hn := fun ty => run_next_ascii (P := Tryz.prog) w ⟨l.toArray⟩ k ty (by rw [hs]; exact hlt) (by rw [hbk]; exact hhi)
              rw [hbk] at hn
              clear hbk hhi
              have hm1 := World.iterPos_iter w ⟨l.toArray⟩ (k + 1)
              have FR1 := Lib.hid ((Fr.refl Non w).alloc (.stringIter ⟨l.toArray⟩ (k + 1)))
              replace hm1 := Lib.hid hm1
              change Hid (Fr Non w (w.iter ⟨l.toArray⟩ (k + 1))) at FR1
              have HM1 := hm1
              clear hm1
              have HL1 := fun W => isletter_any c.toNat W
              have HD1 := fun W => isdigit_any c.toNat W
              cases hL : ltrI c.toNat
              · simp only [hL] at HL1
                replace HL1 := Lib.hid HL1
                by_cases hk0 : k = 0
                · subst hk0
                  replace HX := Lib.hid (HX.out (by simp [okI, hL]))
                  clear HD1 HM hL
                  go_wp2_with fail
                  refine (HL1.out _).mono ?_
                  rintro e w1 ⟨rfl, rfl⟩
                  clear HL1
                  go_wp2
                  go_ret
                  exact ⟨ret_boolE HX.out.symm, FR1.out⟩
                · have hkb : ((k : Int) == 0) = false := by rw [beq_eq_false_iff_ne]; omega
                  have HK0 := Lib.hid hk0
                  clear hk0
                  cases hD : dgtI c.toNat
                  · simp only [hD] at HD1
                    replace HD1 := Lib.hid HD1
                    by_cases h95 : (c.toNat : Int) = 95
                    · replace HM := Lib.hid (HM.out (by simp [okI, hL, hD, h95]; exact .inr HK0.out))
                      have h95b : ((c.toNat : Int) == 95) = true := by rw [beq_iff_eq]; exact h95
                      clear HX hL hD h95
                      go_wp2_with fail
                      refine (HL1.out _).mono ?_
                      rintro e w1 ⟨rfl, rfl⟩
                      clear HL1
                      go_wp2_with fail
                      refine (HD1.out _).mono ?_
                      rintro e w1 ⟨rfl, rfl⟩
                      clear HD1
                      go_wp2
                      go_roundw
                      case rel => exact ⟨k + 1, by omega, rfl, HM⟩
                      case measure => rw [hm, HM1.out]; omega
                    · replace HX := Lib.hid (HX.out (by simp [okI, hL, hD, h95]))
                      have h95b : ((c.toNat : Int) == 95) = false := by rw [beq_eq_false_iff_ne]; exact h95
                      clear HM hL hD h95
                      go_wp2_with fail
                      refine (HL1.out _).mono ?_
                      rintro e w1 ⟨rfl, rfl⟩
                      clear HL1
                      go_wp2_with fail
                      refine (HD1.out _).mono ?_
                      rintro e w1 ⟨rfl, rfl⟩
                      clear HD1
                      go_wp2
                      go_ret
                      exact ⟨ret_boolE HX.out.symm, FR1.out⟩
                  · simp only [hD] at HD1
                    replace HD1 := Lib.hid HD1
                    replace HM := Lib.hid (HM.out (by simp [okI, hL, hD]; exact HK0.out))
                    clear HX hL hD
                    go_wp2_with fail
                    refine (HL1.out _).mono ?_
                    rintro e w1 ⟨rfl, rfl⟩
                    clear HL1
                    go_wp2_with fail
                    refine (HD1.out _).mono ?_
                    rintro e w1 ⟨rfl, rfl⟩
                    clear HD1
                    go_wp2
                    go_roundw
                    case rel => exact ⟨k + 1, by omega, rfl, HM⟩
                    case measure => rw [hm, HM1.out]; omega
              · simp only [hL] at HL1
                replace HL1 := Lib.hid HL1
                replace HM := Lib.hid (HM.out (by simp [okI, hL]))
                clear HX hL HD1
                go_wp2_with fail
                refine (HL1.out _).mono ?_
                rintro e w1 ⟨rfl, rfl⟩
                clear HL1
                go_wp2
                go_roundw
                case rel => exact ⟨k + 1, by omega, rfl, HM⟩
                case measure => rw [hm, HM1.out]; omega
            · have hn := fun ty => run_next_any (P := Tryz.prog) w ⟨l.toArray⟩ k ty (by rw [hs]; exact hlt)
              have hr := (decode_high ⟨l.toArray⟩ k (by rw [hs]; exact hlt) (by rw [hbk]; omega)).1
              replace HX := Lib.hid (HX.out (okI_high (by omega)))
              clear HM hbk
              generalize (Utf8.decode ⟨l.toArray⟩ k).1 = r at *
              generalize k + (Utf8.decode ⟨l.toArray⟩ k).2 = p at *
              have FR1 := Lib.hid ((Fr.refl Non w).alloc (.stringIter ⟨l.toArray⟩ p))
              change Hid (Fr Non w (w.iter ⟨l.toArray⟩ p)) at FR1
              have HL1 := fun W => isletter_any r W
              have HD1 := fun W => isdigit_any r W
              have e1 : ltrI r = false := by simp [ltrI]; omega
              have e2 : dgtI r = false := by simp [dgtI]; omega
              have h95b : ((r : Int) == 95) = false := by rw [beq_eq_false_iff_ne]; omega
              simp only [e1] at HL1
              simp only [e2] at HD1
              replace HL1 := Lib.hid HL1
              replace HD1 := Lib.hid HD1
              clear e1 e2 hr hhi
              by_cases hk0 : k = 0
              · subst hk0
                clear HD1
                go_wp2_with fail
                refine (HL1.out _).mono ?_
                rintro e w1 ⟨rfl, rfl⟩
                clear HL1
                go_wp2
                go_ret
                exact ⟨ret_boolE HX.out.symm, FR1.out⟩
              · have hkb : ((k : Int) == 0) = false := by rw [beq_eq_false_iff_ne]; omega
                clear hk0
                go_wp2_with fail
                refine (HL1.out _).mono ?_
                rintro e w1 ⟨rfl, rfl⟩
                clear HL1
                go_wp2_with fail
                refine (HD1.out _).mono ?_
                rintro e w1 ⟨rfl, rfl⟩
                clear HD1
                go_wp2
                go_ret
                exact ⟨ret_boolE HX.out.symm, FR1.out⟩
          · have hn := fun ty => run_next_end (P := Tryz.prog) w ⟨l.toArray⟩ k ty (by rw [hs]; exact hlt)
            have H := Lib.hid (name_yes HL.out (by omega) HW.out (fun j hj => hok.out j hj (by omega)))
            clear hok
            go_wp2
            go_ret
            exact ⟨ret_boolE H.out.symm, (Fr.refl _ _).alloc _⟩
      · simp only [hw] at HI
        have H := Lib.hid (name_word (of_decide_eq_true hw))
        clear hw
        replace HI := Lib.hid HI
        go_enter Tryz.func52, Tryz.ntmps52
        go_wp2_with fail
        refine (HI.out _).mono ?_
        rintro e w1 ⟨rfl, rfl⟩
        go_wp2
        go_ret
        exact ⟨ret_boolE H.out.symm, Fr.refl _ _⟩
end Go.Proofs.YtjcfjjhhbcgcmaaGreat

namespace Go.Proofs.YtjcfjjhhbcgcmaaGreat
open Go.RowKit
theorem ask_no {h : Ph} (hn : nameB h.col = false) : askOk h = false := by unfold askOk; rw [hn]; rfl
theorem ask_cmp {h : Ph} (hn : nameB h.col = true) (h2 : h.op = 2) : askOk h = (decide (1 ≤ h.cmp ∧ h.cmp ≤ 6) && mayC h.kind false h.val && peq h ⟨h.op, h.col, h.cmp, h.val, h.kind, []⟩) := by
  unfold askOk; rw [hn, if_pos h2]; rfl
theorem ask_like {h : Ph} (hn : nameB h.col = true) (h2 : h.op = 4) : askOk h = (decide (h.pat.length ≤ 40) && peq h ⟨h.op, h.col, 0, zCl, 0, h.pat⟩) := by
  unfold askOk; rw [hn, if_neg (by omega), if_pos h2]; rfl
theorem ask_nul {h : Ph} (hn : nameB h.col = true) (h2 : ¬ h.op = 2) (h4 : ¬ h.op = 4) : askOk h = peq h ⟨h.op, h.col, 0, zCl, 0, []⟩ := by
  unfold askOk; rw [hn, if_neg h2, if_neg h4]; rfl
theorem iscmp_any (n : Int) (w : World) : Calls Tryz.prog 128 #[.int .i64 n] w fun e w' => e = .returned (.bool (decide (1 ≤ n ∧ n ≤ 6))) ∧ Fr Non w w' := by
  by_cases h : 1 ≤ n
  · go_enter Tryz.func128, Tryz.ntmps128
    go_wp2
    go_ret
    exact ⟨ret_boolE (by simp [h]), Fr.refl _ _⟩
  · go_enter Tryz.func128, Tryz.ntmps128
    go_wp2
    go_ret
    exact ⟨ret_boolE (by simp; omega), Fr.refl _ _⟩
set_option maxHeartbeats 2000000 in
theorem mayask_any (h : Ph) (s : Kv) (w : World) (hl : h.col.length ≤ 1000000000) : Calls Tryz.prog 111 #[pdV h s] w fun e w' => e = .returned (.bool (askOk h)) ∧ Fr Non w w' := by
  have N1 := fun W => sname_any h.col W hl
  have B0 := Lib.hid (pd_new w _ h s rfl)
  have F0 : Hid (Fr Non w _) := Lib.hid ((Fr.refl Non w).alloc (.cells (pdC h s) 28))
  have H1 := Lib.hid (fun hn => ask_no (h := h) hn)
  have H2 := Lib.hid (fun hn h2 => ask_cmp (h := h) hn h2)
  have H3 := Lib.hid (fun hn h2 => ask_like (h := h) hn h2)
  have H4 := Lib.hid (fun hn h2 h4 => ask_nul (h := h) hn h2 h4)
  have A2 := Lib.hid (fun W => alike_any h ⟨h.op, h.col, h.cmp, h.val, h.kind, []⟩ s noKv W)
  have A3 := Lib.hid (fun W => alike_any h ⟨h.op, h.col, 0, zCl, 0, h.pat⟩ s noKv W)
  have A4 := Lib.hid (fun W => alike_any h ⟨h.op, h.col, 0, zCl, 0, []⟩ s noKv W)
  have C1 := Lib.hid (fun W => iscmp_any h.cmp W)
  have C2 := Lib.hid (fun W => may_any h.kind false h.val W)
  obtain ⟨op, col, cmp, ⟨vn, vi, vt⟩, kind, pat⟩ := h
  obtain ⟨sA, sn, sc⟩ := s
  have hs := slen pat
  dsimp only at *
  unfold pdV pdC kidV at *
  unfold noKv at A2 A3 A4
  unfold zCl at A3 A4
  unfold clV clC at C2
  dsimp only at *
  cases hn : nameB col
  · have HE := Lib.hid (H1.out hn)
    simp only [hn] at N1
    replace N1 := Lib.hid N1
    clear H1 H2 H3 H4 A2 A3 A4 C1 C2 hn
    go_enter Tryz.func111, Tryz.ntmps111
    go_wp2_with fail
    refine (N1.out _).mono ?_
    rintro e w1 ⟨rfl, f1⟩
    go_wp2
    go_ret
    exact ⟨ret_boolE HE.out.symm, F0.out.trans f1⟩
  · simp only [hn] at N1
    replace N1 := Lib.hid N1
    by_cases h2 : op = 2
    · have HE := Lib.hid (H2.out hn h2)
      clear H1 H2 H3 H4 A3 A4 hn
      subst h2
      go_enter Tryz.func111, Tryz.ntmps111
      go_wp2_with fail
      refine (N1.out _).mono ?_
      rintro e w1 ⟨rfl, f1⟩
      obtain ⟨g0, g1, g2, g3, g4, g5, g6, g7, g8⟩ := pdB_cells (B0.out.fr f1 (fun e => e))
      have B1 := Lib.hid (B0.out.fr f1 (fun e => e))
      dsimp only at g0 g1 g2 g3 g4 g5 g6 g7 g8
      generalize hc : decide (1 ≤ cmp ∧ cmp ≤ 6) = b1 at *
      clear hc
      have F1 := Lib.hid (F0.out.trans f1)
      clear f1 F0 B0
      go_wp2_with fail
      refine (C1.out _).mono ?_
      rintro e w2 ⟨rfl, f2⟩
      clear g0 g1 g2 g3 g4 g5 g6 g7 g8
      obtain ⟨g0, g1, g2, g3, g4, g5, g6, g7, g8⟩ := pdB_cells (B1.out.fr f2 (fun e => e))
      have B2 := Lib.hid (B1.out.fr f2 (fun e => e))
      have F2 := Lib.hid (F1.out.trans f2)
      dsimp only at g0 g1 g2 g3 g4 g5 g6 g7 g8
      clear f2 F1 B1
      cases b1
      · go_wp2
        go_ret
        exact ⟨ret_boolE (by rw [HE.out]; rfl), F2.out⟩
      · generalize hc : mayC kind false ⟨vn, vi, vt⟩ = b2 at *
        clear hc
        go_wp2_with fail
        refine (C2.out _).mono ?_
        rintro e w3 ⟨rfl, f3⟩
        clear g0 g1 g2 g3 g4 g5 g6 g7 g8
        obtain ⟨g0, g1, g2, g3, g4, g5, g6, g7, g8⟩ := pdB_cells (B2.out.fr f3 (fun e => e))
        have F3 := Lib.hid (F2.out.trans f3)
        dsimp only at g0 g1 g2 g3 g4 g5 g6 g7 g8
        clear f3 F2 B2
        cases b2
        · go_wp2
          go_ret
          exact ⟨ret_boolE (by rw [HE.out]; rfl), F3.out⟩
        · go_wp2_with fail
          refine (A2.out _).mono ?_
          rintro e w4 ⟨rfl, f4⟩
          go_wp2
          go_ret
          exact ⟨ret_boolE (by rw [HE.out]; rfl), F3.out.trans f4⟩
    · by_cases h4 : op = 4
      · have HE := Lib.hid (H3.out hn h4)
        clear H1 H2 H3 H4 A2 A4 hn C1 C2 h2
        subst h4
        go_enter Tryz.func111, Tryz.ntmps111
        go_wp2_with fail
        refine (N1.out _).mono ?_
        rintro e w1 ⟨rfl, f1⟩
        obtain ⟨g0, g1, g2, g3, g4, g5, g6, g7, g8⟩ := pdB_cells (B0.out.fr f1 (fun e => e))
        dsimp only at g0 g1 g2 g3 g4 g5 g6 g7 g8
        have F1 := Lib.hid (F0.out.trans f1)
        clear f1 F0 B0
        by_cases h40 : pat.length ≤ 40
        · go_wp2_with fail
          refine (A3.out _).mono ?_
          rintro e w4 ⟨rfl, f4⟩
          go_wp2
          go_ret
          exact ⟨ret_boolE (by rw [HE.out, decide_eq_true h40]; rfl), F1.out.trans f4⟩
        · go_wp2
          go_ret
          exact ⟨ret_boolE (by rw [HE.out, decide_eq_false h40]; simp), F1.out⟩
      · have HE := Lib.hid (H4.out hn h2 h4)
        clear H1 H2 H3 H4 A2 A3 hn C1 C2
        go_enter Tryz.func111, Tryz.ntmps111
        go_wp2_with fail
        refine (N1.out _).mono ?_
        rintro e w1 ⟨rfl, f1⟩
        obtain ⟨g0, g1, g2, g3, g4, g5, g6, g7, g8⟩ := pdB_cells (B0.out.fr f1 (fun e => e))
        dsimp only at g0 g1 g2 g3 g4 g5 g6 g7 g8
        have F1 := Lib.hid (F0.out.trans f1)
        clear f1 F0 B0
        go_wp2_with fail
        refine (A4.out _).mono ?_
        rintro e w4 ⟨rfl, f4⟩
        go_wp2
        go_ret
        exact ⟨ret_boolE (by rw [HE.out]; rfl), F1.out.trans f4⟩
theorem haskid1_any (h : Ph) (s : Kv) (op : Int) (g : Nat) (w : World) (hg : Blk w g 3 #[.int .i64 op]) :
    Calls Tryz.prog 130 #[pdV h s, .pointer (some ⟨g, 0, none⟩)] w fun e w' => e = .returned (.bool (h.op == op)) ∧ Fr Non w w' := by
  have F0 : Hid (Fr Non w _) := Lib.hid ((Fr.refl Non w).alloc (.cells (pdC h s) 28))
  have g0 := (hg.fr (F0.out) (fun e => e)).cell 0
  simp at g0
  obtain ⟨hop, col, cmp, ⟨vn, vi, vt⟩, kind, pat⟩ := h
  obtain ⟨sA, sn, sc⟩ := s
  unfold pdV pdC kidV at *
  dsimp only at *
  go_enter Tryz.func130, Tryz.ntmps130
  go_wp2
  go_ret
  exact ⟨rfl, F0.out⟩
end Go.Proofs.YtjcfjjhhbcgcmaaGreat

namespace Go.Proofs.YtjcfjjhhbcgcmaaGreat
open Go.RowKit
theorem kidOp_more {op : Int} {ks : List Pd} {k : Nat} (h : k < ks.length) (h1 : (ks.take k).any (fun x => x.hd.op == op) = false) (h2 : (ks[k].hd.op == op) = false) : (ks.take (k + 1)).any (fun x => x.hd.op == op) = false := by
  rw [List.take_succ_eq_append_getElem h, List.any_append, h1]; simp [h2]
set_option maxHeartbeats 2000000 in
theorem pidx_any (s : Kv) (ks : List Pd) (op : Int) (g : Nat) (w : World) (hk : Kd w s ks) (hg : Blk w g 3 #[.int .i64 op]) (hl : ks.length ≤ 1000000000) :
    Calls Tryz.prog 153 #[kidV s, .func (.func 130) #[] #[.pointer (some ⟨g, 0, none⟩)]] w fun e w' => ∃ z : Int, e = .returned (.int .i64 z) ∧ decide (0 ≤ z) = kidOp op ks ∧ Fr Non w w' := by
  have hn := hk.len
  have HK := Lib.hid hk
  have HG := Lib.hid hg
  clear hk hg
  obtain ⟨A, n, c⟩ := s
  dsimp only at hn
  subst hn
  unfold kidV
  dsimp only
  go_enter Tryz.func153, Tryz.ntmps153
  go_wp2
  go_loopw [8] (fun i wr => ∃ (k : Nat), k ≤ ks.length ∧ i = .int .i64 k ∧ Hid ((ks.take k).any (fun x => x.hd.op == op) = false) ∧ Fr Non w wr) (fun i _ => ks.length - (intOf i).toNat)
  case atStart => exact ⟨0, Nat.zero_le _, rfl, Lib.hid rfl, Fr.refl _ _⟩
  case round =>
    obtain ⟨k, hk, rfl, hne, hfr⟩ := hrel
    by_cases hlt : k < ks.length
    · obtain ⟨a, t, hA, hc, _, _⟩ := (HK.out.non hfr).el k hlt
      dsimp only at hA
      subst hA
      obtain ⟨c0, c1, c2, c3, c4, c5, c6, c7, c8⟩ := hc
      have HY := Lib.hid (fun h => kidOp_more hlt hne.out h)
      have HX : Hid ((ks[k].hd.op == op) = true → kidOp op ks = true) := Lib.hid (fun h => List.any_eq_true.2 ⟨_, List.getElem_mem hlt, h⟩)
      have M := fun W h => haskid1_any ks[k].hd t op g W h
      have HB := Lib.hid (HG.out.fr hfr (fun e => e))
      clear hne
      generalize ks[k].hd = x at *
      obtain ⟨xo, xc, xm, ⟨xn, xi, xt⟩, xk, xp⟩ := x
      obtain ⟨tA, tn, tc⟩ := t
      unfold pdV pdC kidV at M
      dsimp only at c0 c1 c2 c3 c4 c5 c6 c7 c8 HY HX M
      have HF := Lib.hid hfr
      clear hfr
      cases hx : (xo == op)
      · have HE := Lib.hid (HY.out hx)
        simp only [hx] at M
        replace M := Lib.hid M
        clear HX HY hx
        go_wp2_with fail
        refine (M.out _ HB.out).mono ?_
        rintro e w2 ⟨rfl, f2⟩
        go_wp2
        go_roundw
        case rel => exact ⟨k + 1, by omega, by go_num, HE, HF.out.trans f2⟩
        case measure => simp [intOf]; omega
      · have HE := Lib.hid (HX.out hx)
        simp only [hx] at M
        replace M := Lib.hid M
        clear HX HY hx
        go_wp2_with fail
        refine (M.out _ HB.out).mono ?_
        rintro e w2 ⟨rfl, f2⟩
        go_wp2
        go_ret
        exact ⟨_, rfl, by rw [HE.out]; exact decide_eq_true (by omega), HF.out.trans f2⟩
    · have HE : Hid (kidOp op ks = false) := Lib.hid (by have := hne.out; rwa [List.take_of_length_le (by omega)] at this)
      clear hne
      go_wp2
      go_ret
      exact ⟨_, rfl, by rw [HE.out]; rfl, hfr⟩
theorem pcont_any (s : Kv) (ks : List Pd) (op : Int) (g : Nat) (w : World) (hk : Kd w s ks) (hg : Blk w g 3 #[.int .i64 op]) (hl : ks.length ≤ 1000000000) :
    Calls Tryz.prog 129 #[kidV s, .func (.func 130) #[] #[.pointer (some ⟨g, 0, none⟩)]] w fun e w' => e = .returned (.bool (kidOp op ks)) ∧ Fr Non w w' := by
  have h0 := Lib.hid (pidx_any s ks op g w hk hg hl)
  clear hk hg
  obtain ⟨A, n, c⟩ := s
  unfold kidV at *
  dsimp only at *
  go_enter Tryz.func129, Tryz.ntmps129
  go_wp2_with fail
  refine h0.out.mono ?_
  rintro e w1 ⟨z, rfl, hz, f1⟩
  go_wp2
  go_ret
  exact ⟨rfl, f1⟩
theorem haskid_any (h : Ph) (s : Kv) (ks : List Pd) (op : Int) (w : World) (hk : Kd w s ks) (hl : ks.length ≤ 1000000000) :
    Calls Tryz.prog 112 #[pdV h s, .int .i64 op] w fun e w' => e = .returned (.bool (kidOp op ks)) ∧ Fr Non w w' := by
  have F0 : Hid (Fr Non w ((w.alloc (.cells (pdC h s) 28)).alloc (.cells #[.int .i64 op] 3))) := Lib.hid (((Fr.refl Non w).alloc _).alloc _)
  have e1 : (w.alloc (.cells (pdC h s) 28)).heap.size = w.heap.size + 1 := by simp
  have b2 := Blk.new (w.alloc (.cells (pdC h s) 28)) 3 #[.int .i64 op]
  rw [e1] at b2
  have C1 := Lib.hid (pcont_any s ks op _ _ (hk.non F0.out) b2 hl)
  have hmf : ∀ (fn : Fn) (first cap : Array Value) (w : World), (Instr.makeFunc fn first cap).run Tryz.prog w = .ok (.func fn first cap) w := fun _ _ _ _ => rfl
  clear hk b2 e1
  obtain ⟨ho, hc, hm, ⟨hn, hi, ht⟩, hk', hp⟩ := h
  obtain ⟨A, n, c⟩ := s
  unfold pdV pdC kidV at *
  dsimp only at *
  go_enter Tryz.func112, Tryz.ntmps112
  go_wp2_with fail
  refine C1.out.mono ?_
  rintro e w1 ⟨rfl, f1⟩
  go_wp2
  go_ret
  exact ⟨rfl, F0.out.trans f1⟩
theorem hd_one {h : Ph} {ks : List Pd} (e : h.op = 1) : hdOk h ks = (decide (ks.length = 0) && peq h ⟨h.op, [], 0, zCl, 0, []⟩) := by unfold hdOk; rw [if_pos e]; rfl
theorem hd_ask {h : Ph} {ks : List Pd} (e : h.op = 2 ∨ h.op = 3 ∨ h.op = 4) : hdOk h ks = (decide (ks.length = 0) && askOk h) := by unfold hdOk; rw [if_neg (by omega), if_pos e]
theorem hd_not {h : Ph} {ks : List Pd} (e : h.op = 5) : hdOk h ks = (decide (ks.length = 1) && peq h ⟨h.op, [], 0, zCl, 0, []⟩) := by unfold hdOk; rw [if_neg (by omega), if_neg (by omega), if_pos e]; rfl
theorem hd_two {h : Ph} {ks : List Pd} (e : h.op = 6 ∨ h.op = 7) : hdOk h ks = (decide (1 < ks.length) && peq h ⟨h.op, [], 0, zCl, 0, []⟩ && !kidOp h.op ks) := by unfold hdOk; rw [if_neg (by omega), if_neg (by omega), if_neg (by omega), if_pos e]; rfl
theorem hd_none {h : Ph} {ks : List Pd} (h1 : ¬ h.op = 1) (h2 : ¬ (h.op = 2 ∨ h.op = 3 ∨ h.op = 4)) (h3 : ¬ h.op = 5) (h4 : ¬ (h.op = 6 ∨ h.op = 7)) : hdOk h ks = false := by unfold hdOk; rw [if_neg h1, if_neg h2, if_neg h3, if_neg h4]
set_option maxHeartbeats 4000000 in
theorem alone_any (h : Ph) (s : Kv) (ks : List Pd) (w : World) (hk : Kd w s ks) (hl : ks.length ≤ 1000000000) (hc : h.col.length ≤ 1000000000) :
    Calls Tryz.prog 82 #[pdV h s] w fun e w' => e = .returned (.bool (hdOk h ks)) ∧ Fr Non w w' := by
  have hn := hk.len
  have B0 := Lib.hid (pd_new w _ h s rfl)
  have F0 : Hid (Fr Non w _) := Lib.hid ((Fr.refl Non w).alloc (.cells (pdC h s) 28))
  have HK := Lib.hid (hk.non F0.out)
  have A1 := Lib.hid (fun W => alike_any h ⟨h.op, [], 0, zCl, 0, []⟩ s noKv W)
  have A2 := Lib.hid (fun W => mayask_any h s W hc)
  have A3 := Lib.hid (fun W hk => haskid_any h s ks h.op W hk hl)
  have H1 := Lib.hid (fun e => hd_one (h := h) (ks := ks) e)
  have H2 := Lib.hid (fun e => hd_ask (h := h) (ks := ks) e)
  have H3 := Lib.hid (fun e => hd_not (h := h) (ks := ks) e)
  have H4 := Lib.hid (fun e => hd_two (h := h) (ks := ks) e)
  have H5 := Lib.hid (fun a b c d => hd_none (h := h) (ks := ks) a b c d)
  clear hk
  obtain ⟨op, col, cmp, ⟨vn, vi, vt⟩, kind, pat⟩ := h
  obtain ⟨sA, n, sc⟩ := s
  dsimp only at hn
  have HL := Lib.hid hn
  clear hn
  unfold pdV pdC kidV at *
  unfold noKv at A1
  unfold zCl at A1 H1 H3 H4
  dsimp only at *
  by_cases h1 : op = 1
  · subst h1
    have HE := Lib.hid (H1.out rfl)
    clear H1 H2 H3 H4 H5 A2 A3 HK
    by_cases h0 : n = 0
    · subst h0
      have HE2 := Lib.hid (decide_eq_true HL.out.symm)
      go_enter Tryz.func82, Tryz.ntmps82
      go_wp2_with fail
      refine (A1.out _).mono ?_
      rintro e w1 ⟨rfl, f1⟩
      go_wp2
      go_ret
      exact ⟨ret_boolE (by rw [HE.out, HE2.out]; rfl), F0.out.trans f1⟩
    · have hb : ((n : Int) == 0) = false := by rw [beq_eq_false_iff_ne]; omega
      have HE2 : Hid (decide (ks.length = 0) = false) := Lib.hid (decide_eq_false (fun e => h0 (HL.out.trans e)))
      clear h0
      go_enter Tryz.func82, Tryz.ntmps82
      go_wp2
      go_ret
      exact ⟨ret_boolE (by rw [HE.out, HE2.out]; rfl), F0.out⟩
  · by_cases h2 : op = 2
    · subst h2
      have HE := Lib.hid (H2.out (by omega))
      clear H1 H2 H3 H4 H5 A1 A3 HK
      by_cases h0 : n = 0
      · subst h0
        have HE2 := Lib.hid (decide_eq_true HL.out.symm)
        go_enter Tryz.func82, Tryz.ntmps82
        go_wp2_with fail
        refine (A2.out _).mono ?_
        rintro e w1 ⟨rfl, f1⟩
        go_wp2
        go_ret
        exact ⟨ret_boolE (by rw [HE.out, HE2.out]; rfl), F0.out.trans f1⟩
      · have hb : ((n : Int) == 0) = false := by rw [beq_eq_false_iff_ne]; omega
        have HE2 : Hid (decide (ks.length = 0) = false) := Lib.hid (decide_eq_false (fun e => h0 (HL.out.trans e)))
        clear h0
        go_enter Tryz.func82, Tryz.ntmps82
        go_wp2
        go_ret
        exact ⟨ret_boolE (by rw [HE.out, HE2.out]; rfl), F0.out⟩
    · by_cases h3 : op = 3
      · subst h3
        have HE := Lib.hid (H2.out (by omega))
        clear H1 H2 H3 H4 H5 A1 A3 HK
        by_cases h0 : n = 0
        · subst h0
          have HE2 := Lib.hid (decide_eq_true HL.out.symm)
          go_enter Tryz.func82, Tryz.ntmps82
          go_wp2_with fail
          refine (A2.out _).mono ?_
          rintro e w1 ⟨rfl, f1⟩
          go_wp2
          go_ret
          exact ⟨ret_boolE (by rw [HE.out, HE2.out]; rfl), F0.out.trans f1⟩
        · have hb : ((n : Int) == 0) = false := by rw [beq_eq_false_iff_ne]; omega
          have HE2 : Hid (decide (ks.length = 0) = false) := Lib.hid (decide_eq_false (fun e => h0 (HL.out.trans e)))
          clear h0
          go_enter Tryz.func82, Tryz.ntmps82
          go_wp2
          go_ret
          exact ⟨ret_boolE (by rw [HE.out, HE2.out]; rfl), F0.out⟩
      · by_cases h4 : op = 4
        · subst h4
          have HE := Lib.hid (H2.out (by omega))
          clear H1 H2 H3 H4 H5 A1 A3 HK
          by_cases h0 : n = 0
          · subst h0
            have HE2 := Lib.hid (decide_eq_true HL.out.symm)
            go_enter Tryz.func82, Tryz.ntmps82
            go_wp2_with fail
            refine (A2.out _).mono ?_
            rintro e w1 ⟨rfl, f1⟩
            go_wp2
            go_ret
            exact ⟨ret_boolE (by rw [HE.out, HE2.out]; rfl), F0.out.trans f1⟩
          · have hb : ((n : Int) == 0) = false := by rw [beq_eq_false_iff_ne]; omega
            have HE2 : Hid (decide (ks.length = 0) = false) := Lib.hid (decide_eq_false (fun e => h0 (HL.out.trans e)))
            clear h0
            go_enter Tryz.func82, Tryz.ntmps82
            go_wp2
            go_ret
            exact ⟨ret_boolE (by rw [HE.out, HE2.out]; rfl), F0.out⟩
        · by_cases h5 : op = 5
          · subst h5
            have HE := Lib.hid (H3.out rfl)
            clear H1 H2 H3 H4 H5 A2 A3 HK
            by_cases h0 : n = 1
            · subst h0
              have HE2 := Lib.hid (decide_eq_true HL.out.symm)
              go_enter Tryz.func82, Tryz.ntmps82
              go_wp2_with fail
              refine (A1.out _).mono ?_
              rintro e w1 ⟨rfl, f1⟩
              go_wp2
              go_ret
              exact ⟨ret_boolE (by rw [HE.out, HE2.out]; rfl), F0.out.trans f1⟩
            · have hb : ((n : Int) == 1) = false := by rw [beq_eq_false_iff_ne]; omega
              have HE2 : Hid (decide (ks.length = 1) = false) := Lib.hid (decide_eq_false (fun e => h0 (HL.out.trans e)))
              clear h0
              go_enter Tryz.func82, Tryz.ntmps82
              go_wp2
              go_ret
              exact ⟨ret_boolE (by rw [HE.out, HE2.out]; rfl), F0.out⟩
          · by_cases h6 : op = 6
            · subst h6
              have HE := Lib.hid (H4.out (by omega))
              clear H1 H2 H3 H4 H5 A2
              by_cases h0 : 1 < n
              · have HE2 : Hid (decide (1 < ks.length) = true) := Lib.hid (decide_eq_true (by have := HL.out; omega))
                generalize hq : peq ⟨6, col, cmp, ⟨vn, vi, vt⟩, kind, pat⟩ _ = q at *
                clear hq
                go_enter Tryz.func82, Tryz.ntmps82
                go_wp2_with fail
                refine (A1.out _).mono ?_
                rintro e w1 ⟨rfl, f1⟩
                obtain ⟨g0, g1, g2, g3, g4, g5, g6, g7, g8⟩ := pdB_cells (B0.out.fr f1 (fun e => e))
                dsimp only at g0 g1 g2 g3 g4 g5 g6 g7 g8
                have HK1 := Lib.hid (HK.out.non f1)
                have F1 := Lib.hid (F0.out.trans f1)
                clear f1 F0 B0
                cases q
                · go_wp2
                  go_ret
                  exact ⟨ret_boolE (by rw [HE.out, HE2.out]; rfl), F1.out⟩
                · go_wp2_with fail
                  refine (A3.out _ HK1.out).mono ?_
                  rintro e w2 ⟨rfl, f2⟩
                  go_wp2
                  go_ret
                  exact ⟨ret_boolE (by rw [HE.out, HE2.out]; rfl), F1.out.trans f2⟩
              · have HE2 : Hid (decide (1 < ks.length) = false) := Lib.hid (decide_eq_false (by have := HL.out; omega))
                clear A1 A3
                go_enter Tryz.func82, Tryz.ntmps82
                go_wp2
                go_ret
                exact ⟨ret_boolE (by rw [HE.out, HE2.out]; rfl), F0.out⟩
            · by_cases h7 : op = 7
              · subst h7
                have HE := Lib.hid (H4.out (by omega))
                clear H1 H2 H3 H4 H5 A2
                by_cases h0 : 1 < n
                · have HE2 : Hid (decide (1 < ks.length) = true) := Lib.hid (decide_eq_true (by have := HL.out; omega))
                  generalize hq : peq ⟨7, col, cmp, ⟨vn, vi, vt⟩, kind, pat⟩ _ = q at *
                  clear hq
                  go_enter Tryz.func82, Tryz.ntmps82
                  go_wp2_with fail
                  refine (A1.out _).mono ?_
                  rintro e w1 ⟨rfl, f1⟩
                  obtain ⟨g0, g1, g2, g3, g4, g5, g6, g7, g8⟩ := pdB_cells (B0.out.fr f1 (fun e => e))
                  dsimp only at g0 g1 g2 g3 g4 g5 g6 g7 g8
                  have HK1 := Lib.hid (HK.out.non f1)
                  have F1 := Lib.hid (F0.out.trans f1)
                  clear f1 F0 B0
                  cases q
                  · go_wp2
                    go_ret
                    exact ⟨ret_boolE (by rw [HE.out, HE2.out]; rfl), F1.out⟩
                  · go_wp2_with fail
                    refine (A3.out _ HK1.out).mono ?_
                    rintro e w2 ⟨rfl, f2⟩
                    go_wp2
                    go_ret
                    exact ⟨ret_boolE (by rw [HE.out, HE2.out]; rfl), F1.out.trans f2⟩
                · have HE2 : Hid (decide (1 < ks.length) = false) := Lib.hid (decide_eq_false (by have := HL.out; omega))
                  clear A1 A3
                  go_enter Tryz.func82, Tryz.ntmps82
                  go_wp2
                  go_ret
                  exact ⟨ret_boolE (by rw [HE.out, HE2.out]; rfl), F0.out⟩
              · have HE := Lib.hid (H5.out h1 (by omega) h5 (by omega))
                clear H1 H2 H3 H4 H5 A1 A2 A3 HK B0
                go_enter Tryz.func82, Tryz.ntmps82
                go_wp2
                go_ret
                exact ⟨ret_boolE HE.out.symm, F0.out⟩
end Go.Proofs.YtjcfjjhhbcgcmaaGreat

namespace Go.Proofs.YtjcfjjhhbcgcmaaGreat
open Go.RowKit
theorem lenP_mk {h : Ph} {ks : List Pd} (e : lenP (.mk h ks) = true) : ks.length ≤ 20 ∧ h.col.length ≤ 100 ∧ h.pat.length ≤ 100 ∧ h.val.txt.length ≤ 100 ∧ ∀ k ∈ ks, lenP k = true := by
  rw [lenP, Bool.and_eq_true, lenL_all] at e
  unfold lenH at e
  have e1 := of_decide_eq_true e.1
  exact ⟨e1.1, e1.2.1, e1.2.2.1, e1.2.2.2, List.all_eq_true.1 e.2⟩
theorem allL_at {σ : Type} {f : σ → Pd → Nat → Option σ} {ks : List Pd} {k : Nat} (h : k < ks.length) (s : σ) (d : Nat) : allL f (ks.drop k) s d = (allP f ks[k] s d).bind fun s' => allL f (ks.drop (k + 1)) s' d := by
  rw [List.drop_eq_getElem_cons h, allL]
theorem allL_end {σ : Type} {f : σ → Pd → Nat → Option σ} {ks : List Pd} {k : Nat} (h : ks.length ≤ k) (s : σ) (d : Nat) : allL f (ks.drop k) s d = some s := by
  rw [List.drop_eq_nil_of_le h, allL]
def AskEnd {σ : Type} (R : World → σ → (Nat → Prop) → Prop) (r : Option σ) (X : Nat → Prop) (W : World) (e : Ending) (w' : World) : Prop :=
  e = .returned (.bool r.isSome) ∧ Fr X W w' ∧ ∀ s', r = some s' → ∃ X', R w' s' X' ∧ ∀ q, X' q → X q ∨ W.heap.size ≤ q
def Asks {σ : Type} (R : World → σ → (Nat → Prop) → Prop) (f : σ → Pd → Nat → Option σ) (F g : Nat) (w0 : World) : Prop :=
  ∀ (W : World) (s : σ) (X : Nat → Prop) (p : Pd) (t : Kv) (d : Nat) (dz : Int), dz = d → Fr Non w0 W → R W s X → Kd w0 t p.kids → I64b p.hd.val.num → bigP p = true → d + depP p ≤ 1000 →
    Calls Tryz.prog F #[pdV p.hd t, .int .i64 dz, .pointer (some ⟨g, 0, none⟩)] W (AskEnd R (f s p d) X W)
set_option maxHeartbeats 4000000 in
theorem all_any {σ : Type} (R : World → σ → (Nat → Prop) → Prop) (f : σ → Pd → Nat → Option σ) (F g : Nat) (w0 : World)
    (hlt : ∀ W s X, R W s X → ∀ q, X q → w0.heap.size ≤ q ∧ q < W.heap.size) (hR : ∀ W W' s X, R W s X → Fr Non W W' → R W' s X) (hcf : ∀ args W, (callFunc F args).run Tryz.prog W = .ok (.enter F args) W) (hask : Asks R f F g w0) (p : Pd) :
    ∀ (W : World) (s : σ) (X : Nat → Prop) (t : Kv) (d : Nat) (dz : Int), dz = d → Fr Non w0 W → R W s X → Kd w0 t p.kids → I64b p.hd.val.num → bigP p = true → d + depP p ≤ 1000 →
    Calls Tryz.prog 59 #[pdV p.hd t, .int .i64 dz, .func (.func F) #[] #[.pointer (some ⟨g, 0, none⟩)]] W (AskEnd R (allP f p s d) X W) := by
  induction p using Pd.ind with
  | h hd ks ih =>
    intro W s X t d dz hdz hF hr hk hb hlen hdep
    subst hdz
    have hn : t.n = ks.length := hk.len
    have hls := (bigP_mk hlen).1
    have hdd : d ≤ 999 := by have := dep_pos (.mk hd ks); omega
    have F1 : Fr Non W (W.alloc (.cells (pdC hd t) 28)) := (Fr.refl Non W).alloc _
    have hr1 := hR _ _ _ _ hr F1
    have A1 := hask _ s X (.mk hd ks) t d (d : Int) rfl (hF.trans F1) hr1 hk hb hlen hdep
    have hXb : ¬ X W.heap.size := fun h => by have := (hlt _ _ _ hr _ h).2; omega
    have B0 := Lib.hid (pd_new W _ hd t rfl)
    have HS : Hid (allP f (.mk hd ks) s d = (f s (.mk hd ks) d).bind fun s' => allL f ks s' (d + 1)) := Lib.hid (by rw [allP])
    generalize f s (.mk hd ks) d = r at *
    generalize allP f (.mk hd ks) s d = r0 at *
    have IH : Hid (∀ k (h : k < ks.length) (W' : World) (s' : σ) (X' : Nat → Prop) (t' : Kv), Fr Non w0 W' → R W' s' X' → Kd w0 t' ks[k].kids → I64b ks[k].hd.val.num →
        Calls Tryz.prog 59 #[pdV ks[k].hd t', .int .i64 ((d : Int) + 1), .func (.func F) #[] #[.pointer (some ⟨g, 0, none⟩)]] W' (AskEnd R (allP f ks[k] s' (d + 1)) X' W')) :=
      Lib.hid (fun k h W' s' X' t' a b c e => ih _ (List.getElem_mem h) W' s' X' t' (d + 1) _ (by simp) a b c e ((bigP_mk hlen).2.2.2.2 _ (List.getElem_mem h)) (by
        rw [depP] at hdep
        have := depL_mem (List.getElem_mem h)
        omega))
    have HKd : Hid (Kd w0 t ks) := Lib.hid hk
    have HF := Lib.hid hF
    have HLT := Lib.hid hlt
    have HR := Lib.hid hR
    have HR0 := Lib.hid hr
    have HF1 := Lib.hid F1
    clear ih hk hb hlen hdep hask hlt hR hr hr1 hF F1
    obtain ⟨ho, hc, hm, ⟨vn, vi, vt⟩, hkd, hp⟩ := hd
    obtain ⟨A, n, c⟩ := t
    dsimp only at hn
    subst hn
    unfold pdV pdC kidV at A1 ⊢
    dsimp only [Pd.hd, Pd.kids] at A1 ⊢
    have A1 := Lib.hid A1
    go_enter Tryz.func59, Tryz.ntmps59
    go_wp2_with fail
    refine A1.out.mono ?_
    rintro e w1 ⟨rfl, f1, hs1⟩
    have HS1 := Lib.hid hs1
    have g8 := (B0.out.fr f1 hXb).cell 8
    simp [pdC, kidV] at g8
    have FX : Hid (Fr X W w1) := Lib.hid (HF1.out.any.trans f1)
    have hsz : W.heap.size ≤ w1.heap.size := FX.out.size
    clear hs1 f1 A1 hXb
    cases r with
    | none =>
      have HE : Hid (r0 = none) := Lib.hid (by rw [HS.out]; rfl)
      go_wp2
      go_ret
      exact ⟨by rw [HE.out]; rfl, FX.out, fun s' h => by rw [HE.out] at h; cases h⟩
    | some s1 =>
      have HE : Hid (r0 = allL f ks s1 (d + 1)) := Lib.hid (by rw [HS.out]; rfl)
      clear HS
      obtain ⟨X1, hr1, hx1⟩ := HS1.out s1 rfl
      have hx2 : ∀ q, X1 q → X q ∨ W.heap.size ≤ q := fun q hq => (hx1 q hq).imp id (fun h => Nat.le_trans HF1.out.size h)
      clear hx1 HS1
      have HR1 := Lib.hid hr1
      have HX2 := Lib.hid hx2
      clear hr1 hx2
      go_wp2
      go_loopw [17] (fun i wr => ∃ (k : Nat) (sk : σ) (Xk : Nat → Prop), k ≤ ks.length ∧ i = .int .i64 k ∧ Hid (r0 = allL f (ks.drop k) sk (d + 1)) ∧ Hid (R wr sk Xk) ∧ Hid (Fr X W wr) ∧ Hid (∀ q, Xk q → X q ∨ W.heap.size ≤ q)) (fun i _ => ks.length - (intOf i).toNat)
      case atStart => exact ⟨0, s1, X1, Nat.zero_le _, rfl, HE, HR1, FX, HX2⟩
      case round =>
        clear HE HR1 FX HX2 g8 hsz
        obtain ⟨k, sk, Xk, hk, rfl, HE, HR1, FX, HX2⟩ := hrel
        have hFw : Hid (Fr Non w0 wr) := Lib.hid (HF.out.join FX.out (fun q hq h => absurd (HLT.out _ _ _ HR0.out q h).1 (by omega)))
        by_cases hlt : k < ks.length
        · obtain ⟨a, t, hA, hc2, hkk, hbb⟩ := HKd.out.el k hlt
          have hc3 : PCells wr (a.add (k * 9)) ks[k].hd t := by
            obtain ⟨a', t', hA', hc', _, _⟩ := (HKd.out.non hFw.out).el k hlt
            dsimp only at hA hA'
            obtain rfl := Option.some.inj (hA.symm.trans hA')
            have e : t' = t := by
              have x1 := hc'.2.2.2.2.2.2.2.2
              have x2 := hc2.2.2.2.2.2.2.2.2
              have hbl : (a.add (k * 9)).block < w0.heap.size := World.block_lt_of_cell? w0 _ hc2.1
              have x3 := hFw.out.cell (p := { block := (a.add (k * 9)).block, off := (a.add (k * 9)).off + 8 }) hbl (fun e => e)
              rw [x3, x2] at x1
              simp only [Option.some.injEq, Value.slice.injEq] at x1
              obtain ⟨y1, y2, y3⟩ := x1
              cases t; cases t'; simp_all
            rw [e] at hc'; exact hc'
          clear hc2
          dsimp only at hA
          subst hA
          obtain ⟨c0, c1, c2, c3, c4, c5, c6, c7, c8⟩ := hc3
          have HC := Lib.hid (fun W' s' X' a b => IH.out k hlt W' s' X' t a b hkk hbb)
          have HY := Lib.hid (HE.out.trans (allL_at hlt sk (d + 1)))
          clear hkk hbb HE
          generalize allP f ks[k] = ff at *
          generalize ks[k].hd = x at *
          obtain ⟨xo, xc, xm, ⟨xn, xi, xt⟩, xk, xp⟩ := x
          obtain ⟨tA, tn, tc⟩ := t
          dsimp only at c0 c1 c2 c3 c4 c5 c6 c7 c8
          have G1 := Lib.hid ((Fr.refl Non wr).alloc (.cells #[.int .i64 xo, .string ⟨xc.toArray⟩, .int .i64 xm, .bool xn, .int .i64 xi, .string ⟨xt.toArray⟩, .int .i64 xk, .string ⟨xp.toArray⟩, .slice tA tn tc] 28))
          have HC2 := Lib.hid (HC.out _ sk Xk (hFw.out.trans G1.out) (HR.out _ _ _ _ HR1.out G1.out))
          have hXl := HLT.out _ _ _ HR1.out
          have HXl := Lib.hid hXl
          clear HC hXl
          unfold pdV pdC kidV at HC2
          dsimp only at HC2
          generalize ff sk (d + 1) = rr at *
          go_wp2_with fail
          refine HC2.out.mono ?_
          rintro e w2 ⟨rfl, f2, hs2⟩
          have HS2 := Lib.hid hs2
          have FX2 : Hid (Fr X W w2) := Lib.hid (FX.out.join (G1.out.any.trans f2) (fun q hq h => by
            rcases HX2.out q h with h | h
            · exact h
            · omega))
          have hsz2 : W.heap.size ≤ wr.heap.size := FX.out.size
          clear hs2 f2 HC2
          cases rr with
          | none =>
            have HE : Hid (r0 = none) := Lib.hid HY.out
            clear HY HS2
            go_wp2
            go_ret
            exact ⟨by rw [HE.out]; rfl, FX2.out, fun s' h => by rw [HE.out] at h; cases h⟩
          | some s2 =>
            obtain ⟨X2, hr2, hx2⟩ := HS2.out s2 rfl
            have HE : Hid (r0 = allL f (ks.drop (k + 1)) s2 (d + 1)) := Lib.hid HY.out
            have HR2 := Lib.hid hr2
            have HX3 : Hid (∀ q, X2 q → X q ∨ W.heap.size ≤ q) := Lib.hid (fun q hq => by
              rcases hx2 q hq with h | h
              · exact HX2.out q h
              · refine .inr (Nat.le_trans hsz2 (Nat.le_trans G1.out.size h)))
            clear HY HS2 hr2 hx2
            go_wp2
            go_roundw
            case rel => exact ⟨k + 1, s2, X2, by omega, by go_num, HE, HR2, FX2, HX3⟩
            case measure => simp [intOf]; omega
        · have HE2 : Hid (r0 = some sk) := Lib.hid (HE.out.trans (allL_end (by omega) sk (d + 1)))
          clear HE
          go_wp2
          go_ret
          exact ⟨by rw [HE2.out]; rfl, FX.out, fun s' h => by
            rw [HE2.out] at h
            obtain rfl := Option.some.inj h
            exact ⟨Xk, HR1.out, HX2.out⟩⟩
end Go.Proofs.YtjcfjjhhbcgcmaaGreat

namespace Go.Proofs.YtjcfjjhhbcgcmaaGreat
open Go.RowKit
def RcM (w0 : World) (g : Nat) (W : World) (n : Nat) (X : Nat → Prop) : Prop := Blk W g 3 #[.int .i64 n] ∧ n ≤ 16 ∧ X = One g ∧ w0.heap.size ≤ g
theorem stepM_no {n : Nat} {p : Pd} {d : Nat} (h : ¬ (n + 1 ≤ 16 ∧ d ≤ 6)) : stepM n p d = none := by unfold stepM; rw [if_neg (fun e => h ⟨e.1, e.2.1⟩)]
theorem stepM_by {n : Nat} {p : Pd} {d : Nat} (h : n + 1 ≤ 16 ∧ d ≤ 6) : stepM n p d = bif hdOk p.hd p.kids then some (n + 1) else none := by
  unfold stepM
  cases hd : hdOk p.hd p.kids
  · rw [if_neg (by simp)]; rfl
  · rw [if_pos ⟨h.1, h.2, rfl⟩]; rfl
set_option maxHeartbeats 2000000 in
theorem may1_any (w0 : World) (g : Nat) : Asks (RcM w0 g) stepM 81 g w0 := by
  intro W n X p t d dz hdz hF hr hk hb hlen hdep
  subst hdz
  obtain ⟨h, ks⟩ := p
  obtain ⟨hB, hn16, rfl, hg0⟩ := hr
  dsimp only [Pd.hd, Pd.kids] at hk hb ⊢
  have hls := bigP_mk hlen
  have F0 : Fr Non W (W.alloc (.cells (pdC h t) 28)) := (Fr.refl Non W).alloc _
  have hB1 := hB.fr F0 (fun e => e)
  have hf0 := hB1.frozen 0
  have hc0 := hB1.cell 0
  have hB2 := (hB.set 0 (.int .i64 ((n : Int) + 1))).fr ((Fr.refl Non _).alloc (.cells (pdC h t) 28)) (fun e => e)
  have hc2 := hB2.cell 0
  have hgl := hB.lt
  have G2 : Fr (One g) W ((W.setCell ⟨g, 0, none⟩ (.int .i64 ((n : Int) + 1))).alloc (.cells (pdC h t) 28)) := ((Fr.refl (One g) W).set1 0 _).alloc _
  have P2 : PdB ((W.setCell ⟨g, 0, none⟩ (.int .i64 ((n : Int) + 1))).alloc (.cells (pdC h t) 28)) W.heap.size h t :=
    pd_new _ _ h t (by simp [World.setCell])
  obtain ⟨g0, g1, g2, g3, g4, g5, g6, g7, g8⟩ := pdB_cells P2
  have hkw : Kd ((W.setCell ⟨g, 0, none⟩ (.int .i64 ((n : Int) + 1))).alloc (.cells (pdC h t) 28)) t ks := hk.non (hF.join G2 (fun q hq e => by have : q = g := e; omega))
  have M := Lib.hid (alone_any h t ks _ hkw (by omega) (by omega))
  have HG := Lib.hid G2
  have HB2 := Lib.hid hB2
  have HN := Lib.hid (fun e => stepM_no (n := n) (p := .mk h ks) (d := d) e)
  have HY := Lib.hid (fun e => stepM_by (n := n) (p := .mk h ks) (d := d) e)
  simp at hc0 hc2
  clear hk hB hB1 hB2 P2 hkw F0 G2 hlen hdep hls hF
  obtain ⟨ho, hc, hm, ⟨vn, vi, vt⟩, hkd, hp⟩ := h
  obtain ⟨A, nn, c⟩ := t
  unfold pdV pdC kidV at *
  dsimp only at *
  by_cases h1 : n + 1 ≤ 16
  · by_cases h6 : d ≤ 6
    · have HE := Lib.hid (HY.out ⟨h1, h6⟩)
      clear HY HN
      generalize stepM n _ d = r at *
      dsimp only [Pd.hd, Pd.kids] at HE
      generalize hdOk _ ks = b at *
      go_enter Tryz.func81, Tryz.ntmps81
      go_wp2_with fail
      refine M.out.mono ?_
      rintro e w1 ⟨rfl, f1⟩
      go_wp2
      go_ret
      refine ⟨by rw [HE.out]; cases b <;> rfl, HG.out.then f1, fun s' hs => ?_⟩
      rw [HE.out] at hs
      cases b
      · cases hs
      · obtain rfl := Option.some.inj hs
        exact ⟨One g, ⟨HB2.out.fr f1 (fun e => e), h1, rfl, hg0⟩, fun q hq => .inl hq⟩
    · have HE := Lib.hid (HN.out (by omega))
      have hd1 : decide ((n : Int) + 1 ≤ 16) = true := decide_eq_true (by omega)
      have hd2 : decide ((d : Int) ≤ 6) = false := decide_eq_false (by omega)
      clear HY HN M
      generalize stepM n _ d = r at *
      go_enter Tryz.func81, Tryz.ntmps81
      go_wp2
      go_ret
      exact ⟨by rw [HE.out]; rfl, HG.out, fun s' hs => by rw [HE.out] at hs; cases hs⟩
  · have HE := Lib.hid (HN.out (by omega))
    have hd1 : decide ((n : Int) + 1 ≤ 16) = false := decide_eq_false (by omega)
    clear HY HN M
    generalize stepM n _ d = r at *
    go_enter Tryz.func81, Tryz.ntmps81
    go_wp2
    go_ret
    exact ⟨by rw [HE.out]; rfl, HG.out, fun s' hs => by rw [HE.out] at hs; cases hs⟩
set_option maxHeartbeats 2000000 in
theorem pmay_big (h : Ph) (t : Kv) (ks : List Pd) (w : World) (hk : Kd w t ks) (hb : I64b h.val.num) (hlen : bigP (.mk h ks) = true) (hdep : depP (.mk h ks) ≤ 100) :
    Calls Tryz.prog 53 #[pdV h t] w fun e w' => e = .returned (.bool (mayP (.mk h ks))) ∧ Fr Non w w' := by
  have F0 : Fr Non w (w.alloc (.cells (pdC h t) 28)) := (Fr.refl Non w).alloc _
  have F1 : Fr Non w ((w.alloc (.cells (pdC h t) 28)).alloc (.cells #[.int .i64 0] 3)) := F0.alloc _
  have e1 : (w.alloc (.cells (pdC h t) 28)).heap.size = w.heap.size + 1 := by simp
  have b2 := Blk.new (w.alloc (.cells (pdC h t) 28)) 3 #[.int .i64 0]
  rw [e1] at b2
  have hR0 : RcM w (w.heap.size + 1) ((w.alloc (.cells (pdC h t) 28)).alloc (.cells #[.int .i64 0] 3)) 0 (One (w.heap.size + 1)) := ⟨b2, by omega, rfl, by omega⟩
  have A1 := all_any (RcM w (w.heap.size + 1)) stepM 81 (w.heap.size + 1) w
    (fun W s X hr q hq => by
      obtain ⟨a, b, rfl, c⟩ := hr
      obtain rfl : q = w.heap.size + 1 := hq
      exact ⟨c, a.lt⟩)
    (fun W W' s X hr hf => ⟨hr.1.fr hf (fun e => e), hr.2⟩) Tryz.call81 (may1_any w (w.heap.size + 1)) (.mk h ks)
    _ 0 _ t 1 1 rfl F1 hR0 hk hb hlen (by omega)
  have HM : Hid ((allP stepM (.mk h ks) 0 1).isSome = mayP (.mk h ks)) := Lib.hid (may_all _)
  generalize allP stepM (.mk h ks) 0 1 = r at *
  dsimp only [Pd.hd, Pd.kids] at A1
  have A1 := Lib.hid A1
  have F1 := Lib.hid F1
  have P0 : PdB ((w.alloc (.cells (pdC h t) 28)).alloc (.cells #[.int .i64 0] 3)) w.heap.size h t := (pd_new w _ h t rfl).fr ((Fr.refl Non _).alloc _) (fun e => e)
  obtain ⟨g0, g1, g2, g3, g4, g5, g6, g7, g8⟩ := pdB_cells P0
  have hmf : ∀ (fn : Fn) (first cap : Array Value) (w : World), (Instr.makeFunc fn first cap).run Tryz.prog w = .ok (.func fn first cap) w := fun _ _ _ _ => rfl
  clear hk F0 hR0 b2 e1 P0 hlen hdep
  obtain ⟨ho, hc, hm, ⟨vn, vi, vt⟩, hkd, hp⟩ := h
  obtain ⟨A, nn, c⟩ := t
  unfold pdV pdC kidV at *
  dsimp only at *
  go_enter Tryz.func53, Tryz.ntmps53
  go_wp2_with fail
  refine A1.out.mono ?_
  rintro e w1 ⟨rfl, f1, _⟩
  go_wp2
  go_ret
  exact ⟨ret_boolE HM.out, F1.out.join f1 (fun q hq e => by have : q = w.heap.size + 1 := e; omega)⟩
end Go.Proofs.YtjcfjjhhbcgcmaaGreat

namespace Go.Proofs.YtjcfjjhhbcgcmaaGreat
open Go.RowKit
def ruv (n : Nat) : Value := .int .i32 (n : Int)
theorem ruv_one (n : Nat) : (ruv n).oneCell' = true := rfl
theorem el_rune : El 104 21 (.int .i32 0) 4 := ⟨Tryz.underlying104, by kernel_rfl, rfl, by decide, by kernel_rfl, fun _ => by kernel_rfl⟩
def ItU (w : World) (k : Nat) (l : List UInt8) (p : Nat) : Prop := w.heap[k]? = some (.stringIter ⟨l.toArray⟩ p)
theorem sizeU (l : List UInt8) : ByteArray.size ⟨l.toArray⟩ = l.length := by simp [ByteArray.size]
theorem ItU.new (w : World) (l : List UInt8) : ItU (w.iter ⟨l.toArray⟩ 0) w.heap.size l 0 := World.iter_heap w _ 0
theorem ItU.pos {w : World} {k p : Nat} {l : List UInt8} (h : ItU w k l p) : w.iterPos k = p := by
  unfold ItU at h; simp [World.iterPos, h]
theorem ItU.lt {w : World} {k p : Nat} {l : List UInt8} (h : ItU w k l p) : k < w.heap.size := (Array.getElem?_eq_some_iff.1 h).1
theorem ItU.fr {S : Nat → Prop} {w w' : World} {k p : Nat} {l : List UInt8} (h : ItU w k l p) (hf : Fr S w w') (hn : ¬ S k) : ItU w' k l p := (hf.block k h.lt hn).trans h
theorem fr_iterAt (w : World) (k : Nat) (s : ByteArray) (p : Nat) : Fr (One k) w (w.iterAt k s p) :=
  ⟨rfl, rfl, rfl, by rw [Lib.iterAt_size]; exact Nat.le_refl _, fun j _ hj => Lib.iterAt_other w k j s p hj⟩
theorem nextU (wr : World) (k p : Nat) (l : List UInt8) (h : ItU wr k l p) (hp : p < l.length) :
    ∃ W, (∀ ty, (Instr.next (.pointer (some ⟨k, 0, none⟩)) true ty).run Tryz.prog wr = .ok (.tuple #[.bool true, .int .i64 p, .int .i32 ((dcU (l.drop p)).1 : Int)]) W) ∧
      ItU W k l (p + (dcU (l.drop p)).2) ∧ Fr (One k) wr W := by
  refine ⟨wr.iterAt k ⟨l.toArray⟩ (p + (dcU (l.drop p)).2), fun ty => ?_, Lib.iterAt_heap wr k _ p _ h, fr_iterAt _ _ _ _⟩
  rw [← dcU_at]
  exact Lib.run_next_any_at wr k _ p ty h (by rw [sizeU]; exact hp)
theorem nextU_end (wr : World) (k p : Nat) (l : List UInt8) (h : ItU wr k l p) (hp : ¬ p < l.length) (ty : TypeId) :
    (Instr.next (.pointer (some ⟨k, 0, none⟩)) true ty).run Tryz.prog wr = .ok (.tuple #[.bool false]) wr :=
  Lib.run_next_end_at wr k _ p ty h (by rw [sizeU]; exact hp)
theorem okU_le {r : Nat} (h : okU r) : r ≤ 1114111 := by unfold okU at h; omega
theorem smU_lt {r : Nat} (h1 : 65 ≤ r) (h2 : r ≤ 90) : smU r = r + 32 := by unfold smU; rw [if_pos ⟨h1, h2⟩]
theorem smU_lo {r : Nat} (h1 : r < 65) : smU r = r := by unfold smU; rw [if_neg (by omega)]
theorem smU_hi {r : Nat} (h1 : 90 < r) : smU r = r := by unfold smU; rw [if_neg (by omega)]
theorem gsmall_any (r : Nat) (w : World) (hr : r ≤ 1114111) : Calls Tryz.prog 156 #[.int .i32 r] w fun e w' => e = .returned (.int .i32 (smU r : Nat)) ∧ w = w' := by
  by_cases h1 : 65 ≤ r
  · by_cases h2 : r ≤ 90
    · have H := Lib.hid (smU_lt h1 h2)
      have hb1 : decide ((65 : Int) ≤ (r : Int)) = true := by simp; omega
      have hb2 : decide ((r : Int) ≤ 90) = true := by simp; omega
      have hw1 : IntKind.i32.wrap ((r : Int) - 65) = (r : Int) - 65 := by simp [IntKind.wrap, IntKind.bits, IntKind.signed]; omega
      have hw2 : IntKind.i32.wrap ((r : Int) - 65 + 97) = ((r + 32 : Nat) : Int) := by simp [IntKind.wrap, IntKind.bits, IntKind.signed]; omega
      clear h1 h2
      go_enter Tryz.func156, Tryz.ntmps156
      go_wp2
      go_ret
      exact ⟨ret_int (by rw [H.out]; push_cast; omega), rfl⟩
    · have H := Lib.hid (smU_hi (r := r) (by omega))
      have hb1 : decide ((65 : Int) ≤ (r : Int)) = true := by simp; omega
      have hb2 : decide ((r : Int) ≤ 90) = false := by simp; omega
      clear h1 h2
      go_enter Tryz.func156, Tryz.ntmps156
      go_wp2
      go_ret
      exact ⟨ret_int (by rw [H.out]), rfl⟩
  · have H := Lib.hid (smU_lo (r := r) (by omega))
    have hb1 : decide ((65 : Int) ≤ (r : Int)) = false := by simp; omega
    clear h1
    go_enter Tryz.func156, Tryz.ntmps156
    go_wp2
    go_ret
    exact ⟨ret_int (by rw [H.out]), rfl⟩
def fdU (l : List UInt8) (k : Nat) (d : List Nat) : Prop := foldU l = d ++ (runesU (l.drop k)).map smU ∧ d.length ≤ k
theorem fdU_zero (l : List UInt8) : fdU l 0 [] := ⟨by simp [foldU], by simp⟩
theorem fdU_more {l : List UInt8} {k : Nat} {d : List Nat} (h : fdU l k d) (hk : k < l.length) : fdU l (k + (dcU (l.drop k)).2) (d ++ [smU (dcU (l.drop k)).1]) ∧ 1 ≤ (dcU (l.drop k)).2 ∧ k + (dcU (l.drop k)).2 ≤ l.length ∧ okU (dcU (l.drop k)).1 := by
  have hne : l.drop k ≠ [] := by intro e; have := congrArg List.length e; simp at this; omega
  have hw := dcU_w hne
  rw [List.length_drop] at hw
  refine ⟨⟨?_, ?_⟩, hw.1, by omega, dcU_ok _⟩
  · rw [h.1, runesU_drop hk]; simp
  · have := h.2; rw [List.length_append]; simp; omega
theorem fdU_end {l : List UInt8} {k : Nat} {d : List Nat} (h : fdU l k d) (hk : ¬ k < l.length) : d = foldU l := by rw [h.1, runesU_end hk]; simp
set_option maxHeartbeats 1000000 in
theorem gfold_any (l : List UInt8) (w : World) (hl : l.length ≤ 1000000000) : Calls Tryz.prog 135 #[.string ⟨l.toArray⟩] w fun e w' => ∃ u, e = .returned u ∧ Ow ruv 21 w' w.heap.size u (foldU l) ∧ Fr Non w w' := by
  go_enter Tryz.func135, Tryz.ntmps135
  go_wp2
  go_loopw [3] (fun v wr => ∃ k d, k ≤ l.length ∧ ItU wr w.heap.size l k ∧ Ow ruv 21 wr (w.heap.size + 1) v d ∧ Fr Non w wr ∧ Hid (fdU l k d)) (fun _ wr => l.length - wr.iterPos w.heap.size)
  case atStart => exact ⟨0, [], by omega, ItU.new w l, ow_nil _ _, (Fr.refl _ _).alloc _, Lib.hid (fdU_zero l)⟩
  case round =>
    obtain ⟨k, d, hk, hit, hown, hfr, hd⟩ := hrel
    have hp0 := hit.pos
    by_cases hlt : k < l.length
    · obtain ⟨hm, hw1, hw2, hok⟩ := fdU_more hd.out hlt
      obtain ⟨W, hnx, hitW, hfW⟩ := nextU wr w.heap.size k l hit hlt
      have HSm := Lib.hid (fun V => gsmall_any (dcU (l.drop k)).1 V (okU_le hok))
      have hownW := hown.fr hfW (fun q hq e => by have := (hown.lt q hq).1; have : q = w.heap.size := e; omega)
      have hfrW := hfr.fresh hfW (fun q e => by have : q = w.heap.size := e; omega)
      have hdl := hd.out.2
      have HM := Lib.hid hm
      clear hd hit hown hfr hfW hok hm
      generalize (dcU (l.drop k)).1 = r at *
      generalize hq : k + (dcU (l.drop k)).2 = q at *
      have hkq : k < q := by omega
      clear hq hw1
      go_wp2_with fail
      refine (HSm.out _).mono ?_
      rintro e w1 ⟨rfl, rfl⟩
      clear HSm
      have hB := hitW.lt
      go_wp2_with (at_builtin; refine wpList_pushG el_rune ruv_one rfl (.tmp 11) (.tmp 14) rfl (w.heap.size + 1) _ d rfl hownW _ (smU r) rfl rfl (by omega) (by omega) ?_; intro v5 w5 hown5 hf5)
      have hit5 := hitW.fr hf5 (fun e => by have := (hownW.lt _ e).1; omega)
      have hfr5 := hfrW.fresh hf5 (fun q hq => by have := (hownW.lt q hq).1; omega)
      go_roundw
      case rel => exact ⟨q, _, hw2, hit5, hown5, hfr5, HM⟩
      case measure => rw [hp0, hit5.pos]; omega
    · have hnx := fun ty => nextU_end wr w.heap.size k l hit hlt ty
      have HE := Lib.hid (fdU_end hd.out hlt)
      clear hd
      go_wp2
      go_ret
      exact ⟨_, rfl, by rw [← HE.out]; exact hown.mono (by omega), hfr⟩
end Go.Proofs.YtjcfjjhhbcgcmaaGreat
