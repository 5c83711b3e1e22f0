/-
  Joined: Layer 17: the text of a predicate, the program's, op by op. · Layer 17: the page's example.
-/
import Derived.Laws.StructEq
import Derived.Laws.Rows
import Derived.Laws.ResultCell
import Derived.Lib.Zigzag
import Derived.Lib.DecodeN
import Derived.Laws.RangeAny
import Derived.Laws.Cover4
import Derived.Laws.Cover1
import Derived.Lib.SmallJoins
import Derived.Lib.AppendIntMem
import Derived.BigQuiet
import Derived.Deep.RegionHeld3
import Derived.Test.YteagbddejbjmfaaDoorZ2

namespace Go.Proofs.YteagbddejbjmfaaDoor
set_option linter.unusedVariables false
set_option linter.unusedSimpArgs false
set_option maxRecDepth 100000
open Go.RowKit

set_option maxHeartbeats 4000000 in
theorem ptext1_any (hd : Ph) (ks : List Pd) (t : Kv) (w : World) (hop : hd.op = 1) (hW0 : Lp w) (hk : Kd w t ks) (hb : I64b hd.val.num) (hls : ks.length ≤ 20 ∧ hd.col.length ≤ 100 ∧ hd.pat.length ≤ 100 ∧ hd.val.txt.length ≤ 100) (htl2 : (textP (.mk hd ks)).length ≤ 6400)  :
    Calls Tryd.prog 33 #[pdV hd t] w fun e w' => e = .returned (.string ⟨(textP (.mk hd ks)).toArray⟩) ∧ Fr Non w w' := by
  have hn : t.n = ks.length := hk.len
  have F0 : Fr Non w (w.alloc (.cells (pdC hd t) 27)) := (Fr.refl Non w).alloc _
  have PB := Lib.hid (pd_new w _ hd t rfl)
  have HK := Lib.hid (hk.non F0)
  have HW := Lib.hid (hW0.non F0)
  have HE := Lib.hid (tx_1 (h := hd) (ks := ks) hop)
  have hcl := hls.2.1
  have hpl := hls.2.2.1
  have hls1 := hls.1
  generalize textP (.mk hd ks) = r at *
  have HF := Lib.hid F0
  clear F0 hls hW0 hk
  obtain ⟨ho, hc, hm, ⟨vn, vi, vt⟩, hkd, hp⟩ := hd
  obtain ⟨A, n, c⟩ := t
  dsimp only at hn hop hcl hpl HE
  have HL := Lib.hid hn
  have hn20 : n ≤ 20 := by omega
  clear hn hls1
  unfold pdV
  unfold pdC kidV
  dsimp only
  subst hop
  go_enter Tryd.func33, Tryd.ntmps33
  go_wp2
  go_ret
  exact ⟨strE (by rw [HE.out]), HF.out⟩

set_option maxHeartbeats 4000000 in
theorem ptext2_any (hd : Ph) (ks : List Pd) (t : Kv) (w : World) (hop : hd.op = 2) (hW0 : Lp w) (hk : Kd w t ks) (hb : I64b hd.val.num) (hls : ks.length ≤ 20 ∧ hd.col.length ≤ 100 ∧ hd.pat.length ≤ 100 ∧ hd.val.txt.length ≤ 100) (htl2 : (textP (.mk hd ks)).length ≤ 6400) (h16 : 1 ≤ hd.cmp ∧ hd.cmp ≤ 6) :
    Calls Tryd.prog 33 #[pdV hd t] w fun e w' => e = .returned (.string ⟨(textP (.mk hd ks)).toArray⟩) ∧ Fr Non w w' := by
  have hn : t.n = ks.length := hk.len
  have F0 : Fr Non w (w.alloc (.cells (pdC hd t) 27)) := (Fr.refl Non w).alloc _
  have PB := Lib.hid (pd_new w _ hd t rfl)
  have HK := Lib.hid (hk.non F0)
  have HW := Lib.hid (hW0.non F0)
  have HV := Lib.hid (fun W hW => pvalue_any hd.kind hd.val W hW hb (by omega))
  have hvl := valT_len hd.kind hd.val hb hls.2.2.2
  have hml := markB_len hd.cmp
  have HE := Lib.hid (tx_2 (h := hd) (ks := ks) hop)
  have hcl := hls.2.1
  have hpl := hls.2.2.1
  have hls1 := hls.1
  generalize textP (.mk hd ks) = r at *
  have HF := Lib.hid F0
  clear F0 hls hW0 hk
  obtain ⟨ho, hc, hm, ⟨vn, vi, vt⟩, hkd, hp⟩ := hd
  obtain ⟨A, n, c⟩ := t
  dsimp only at hn hop hcl hpl HE HV hvl hml h16
  have HL := Lib.hid hn
  have hn20 : n ≤ 20 := by omega
  clear hn hls1
  unfold pdV
  unfold clV clC at HV
  dsimp only at HV
  obtain ⟨hc1, hc6⟩ := h16
  unfold pdC kidV
  dsimp only
  subst hop
  obtain ⟨j, rfl⟩ : ∃ j : Nat, hm = (j : Int) := ⟨hm.toNat, by omega⟩
  have hj : j < 7 := by omega
  have hj7 : (j : Int) < 7 := by omega
  have hmk := HW.out.marks j hj
  rw [cmps_at j hj] at hmk
  generalize markB (j : Int) = mk at *
  generalize hva : valT hkd ⟨vn, vi, vt⟩ = va at *
  clear hva
  have s1 := fun W => sadd hc [32] (by simp; omega) W
  have s2 := fun W => sadd (hc ++ [32]) mk (by simp; omega) W
  have s3 := fun W => sadd (hc ++ [32] ++ mk) [32] (by simp; omega) W
  have s4 := fun W => sadd (hc ++ [32] ++ mk ++ [32]) va (by simp; omega) W
  have s5 := fun W => sadd (hc ++ 32 :: mk) [32] (by simp; omega) W
  have s6 := fun W => sadd (hc ++ 32 :: (mk ++ [32])) va (by simp; omega) W
  have HC := Lib.hid (HV.out (w.alloc (.cells (pdC ⟨2, hc, j, ⟨vn, vi, vt⟩, hkd, hp⟩ ⟨A, n, c⟩) 27)).drew (HW.out.non (Fr.refl _ _).drew))
  have qm : (w.alloc (.cells (pdC ⟨2, hc, j, ⟨vn, vi, vt⟩, hkd, hp⟩ ⟨A, n, c⟩) 27)).drew.cell? ⟨0, j, none⟩ = _ := hmk
  obtain ⟨_, q1, q2, q3, q4, q5, q6, _, _⟩ := pdB_cells PB.out.drew
  dsimp only at q1 q2 q3 q4 q5 q6
  unfold pdC kidV at HC qm q1 q2 q3 q4 q5 q6
  dsimp only at HC qm q1 q2 q3 q4 q5 q6
  go_enter Tryd.func33, Tryd.ntmps33
  go_wp2
  refine wp_region_held_drew (S := (fun W => W.cell? ⟨w.heap.size, 1, none⟩ = some (.string ⟨hc.toArray⟩) ∧ W.cell? ⟨w.heap.size, 2, none⟩ = some (.int .i64 j) ∧ W.cell? ⟨w.heap.size, 3, none⟩ = some (.bool vn) ∧ W.cell? ⟨w.heap.size, 4, none⟩ = some (.int .i64 vi) ∧ W.cell? ⟨w.heap.size, 5, none⟩ = some (.string ⟨vt.toArray⟩) ∧ W.cell? ⟨w.heap.size, 6, none⟩ = some (.int .i64 hkd) ∧ W.cell? ⟨0, j, none⟩ = some (.string ⟨mk.toArray⟩))) (by kernel_rfl) (by exact ⟨q1, q2, q3, q4, q5, q6, qm⟩) (fun hHeld => ?_)
  refine wpAnyH_take (i := 0) (oi := ⟨some 7, _, _, _, _, none⟩) (v := ?v1) rfl (by kernel_rfl) (by kernel_rfl) (by kernel_rfl) (fun _ _ _ h => h) (Or.inl ⟨by rfl, ?hy1⟩) (by assumption) ?rest1
  case hy1 => (intro wS hSw; (try dsimp only at hSw); go_simp; (try with_reducible rfl))
  (try simp only [Act.put, List.setIfInBounds_toArray, List.set_cons_zero, List.set_cons_succ])
  refine wpAnyH_take (i := 1) (oi := ⟨some 8, _, _, _, _, none⟩) (v := ?v2) rfl (by kernel_rfl) (by kernel_rfl) (by kernel_rfl) (fun _ _ _ h => h) (Or.inl ⟨by rfl, ?hy2⟩) (by assumption) ?rest2
  case hy2 => (intro wS hSw; (try dsimp only at hSw); go_simp; (try with_reducible rfl))
  (try simp only [Act.put, List.setIfInBounds_toArray, List.set_cons_zero, List.set_cons_succ])
  refine wpAnyH_take (i := 2) (oi := ⟨some 9, _, _, _, _, none⟩) (v := ?v3) rfl (by kernel_rfl) (by kernel_rfl) (by kernel_rfl) (fun _ _ _ h => h) (Or.inl ⟨by rfl, ?hy3⟩) (by assumption) ?rest3
  case hy3 => (intro wS hSw; (try dsimp only at hSw); go_simp; (try with_reducible rfl))
  (try simp only [Act.put, List.setIfInBounds_toArray, List.set_cons_zero, List.set_cons_succ])
  refine wpAnyH_take (i := 3) (oi := ⟨some 10, _, _, _, _, none⟩) (v := ?v4) rfl (by kernel_rfl) (by kernel_rfl) (by kernel_rfl) (fun _ _ _ h => h) (Or.inl ⟨by rfl, ?hy4⟩) (by assumption) ?rest4
  case hy4 => (intro wS hSw; (try dsimp only at hSw); go_simp; (try with_reducible rfl))
  (try simp only [Act.put, List.setIfInBounds_toArray, List.set_cons_zero, List.set_cons_succ])
  refine wpAnyH_take (i := 4) (oi := ⟨some 11, _, _, _, _, none⟩) (v := ?v5) rfl (by kernel_rfl) (by kernel_rfl) (by kernel_rfl) (fun _ _ _ h => h) (Or.inl ⟨by rfl, ?hy5⟩) (by assumption) ?rest5
  case hy5 => (intro wS hSw; (try dsimp only at hSw); go_simp; (try with_reducible rfl))
  (try simp only [Act.put, List.setIfInBounds_toArray, List.set_cons_zero, List.set_cons_succ])
  refine wpAnyH_take (i := 5) (oi := ⟨some 12, _, _, _, _, none⟩) (v := ?v6) rfl (by kernel_rfl) (by kernel_rfl) (by kernel_rfl) (fun _ _ _ h => h) (Or.inl ⟨by rfl, ?hy6⟩) (by assumption) ?rest6
  case hy6 => (intro wS hSw; (try dsimp only at hSw); go_simp; (try with_reducible rfl))
  (try simp only [Act.put, List.setIfInBounds_toArray, List.set_cons_zero, List.set_cons_succ])
  refine wpAnyH_take (i := 6) (oi := ⟨some 13, _, _, _, _, none⟩) (v := ?v7) rfl (by kernel_rfl) (by kernel_rfl) (by kernel_rfl) (fun _ _ _ h => h) (Or.inl ⟨by rfl, ?hy7⟩) (by assumption) ?rest7
  case hy7 => (intro wS hSw; (try dsimp only at hSw); go_simp; (try with_reducible rfl))
  (try simp only [Act.put, List.setIfInBounds_toArray, List.set_cons_zero, List.set_cons_succ])
  refine wpAnyH_take (i := 7) (oi := ⟨some 14, _, _, _, _, none⟩) (v := ?v8) rfl (by kernel_rfl) (by kernel_rfl) (by kernel_rfl) (fun _ _ _ h => h) (Or.inl ⟨by rfl, ?hy8⟩) (by assumption) ?rest8
  case hy8 => (intro wS hSw; (try dsimp only at hSw); go_simp; (try with_reducible rfl))
  (try simp only [Act.put, List.setIfInBounds_toArray, List.set_cons_zero, List.set_cons_succ])
  refine wpAnyH_take (i := 8) (oi := ⟨some 15, _, _, _, _, none⟩) (v := ?v9) rfl (by kernel_rfl) (by kernel_rfl) (by kernel_rfl) (fun _ _ _ h => h) (Or.inl ⟨by rfl, ?hy9⟩) (by assumption) ?rest9
  case hy9 => (intro wS hSw; (try dsimp only at hSw); go_simp; (try with_reducible rfl))
  (try simp only [Act.put, List.setIfInBounds_toArray, List.set_cons_zero, List.set_cons_succ])
  refine wpAnyH_take (i := 9) (oi := ⟨some 16, _, _, _, _, none⟩) (v := ?v10) rfl (by kernel_rfl) (by kernel_rfl) (by kernel_rfl) (fun _ _ _ h => h) (Or.inl ⟨by rfl, ?hy10⟩) (by assumption) ?rest10
  case hy10 => (intro wS hSw; (try dsimp only at hSw); go_simp; (try with_reducible rfl))
  (try simp only [Act.put, List.setIfInBounds_toArray, List.set_cons_zero, List.set_cons_succ])
  refine wpAnyH_take (i := 10) (oi := ⟨some 17, _, _, _, _, none⟩) (v := ?v11) rfl (by kernel_rfl) (by kernel_rfl) (by kernel_rfl) (fun _ _ _ h => h) (Or.inl ⟨by rfl, ?hy11⟩) (by assumption) ?rest11
  case hy11 => (intro wS hSw; (try dsimp only at hSw); go_simp; (try with_reducible rfl))
  (try simp only [Act.put, List.setIfInBounds_toArray, List.set_cons_zero, List.set_cons_succ])
  refine wpAnyH_take (i := 11) (oi := ⟨some 18, _, _, _, _, none⟩) (v := ?v12) rfl (by kernel_rfl) (by kernel_rfl) (by kernel_rfl) (fun _ _ _ h => h) (Or.inl ⟨by rfl, ?hy12⟩) (by assumption) ?rest12
  case hy12 => (intro wS hSw; (try dsimp only at hSw); go_simp; (try with_reducible rfl))
  (try simp only [Act.put, List.setIfInBounds_toArray, List.set_cons_zero, List.set_cons_succ])
  refine wpAnyH_take (i := 12) (oi := ⟨some 19, _, _, _, _, none⟩) (v := ?v13) rfl (by kernel_rfl) (by kernel_rfl) (by kernel_rfl) (fun _ _ _ h => h) (Or.inl ⟨by rfl, ?hy13⟩) (by assumption) ?rest13
  case hy13 => (intro wS hSw; (try dsimp only at hSw); go_simp; (try with_reducible rfl))
  (try simp only [Act.put, List.setIfInBounds_toArray, List.set_cons_zero, List.set_cons_succ])
  refine wpAnyH_ready (rs := [13]) (by kernel_rfl) (by simp) ?_
  refine AllReadyH.cons (o := ⟨some 20, _, _, _, _, none⟩) rfl (fun K hK => ?_) AllReadyH.nil
  go_simp
  go_at_call 16
  (with_reducible refine HC.out.mono ?_)
  rintro e w3 ⟨rfl, f3⟩
  have u1 := (f3.cell (World.block_lt_of_cell? _ _ q1) (fun e => e)).trans q1
  have u2 := (f3.cell (World.block_lt_of_cell? _ _ q2) (fun e => e)).trans q2
  have u3 := (f3.cell (World.block_lt_of_cell? _ _ q3) (fun e => e)).trans q3
  have u4 := (f3.cell (World.block_lt_of_cell? _ _ q4) (fun e => e)).trans q4
  have u5 := (f3.cell (World.block_lt_of_cell? _ _ q5) (fun e => e)).trans q5
  have u6 := (f3.cell (World.block_lt_of_cell? _ _ q6) (fun e => e)).trans q6
  have um := (f3.cell (World.block_lt_of_cell? _ _ qm) (fun e => e)).trans qm
  go_wp2_with fail
  refine hK.out _ _ (by exact ⟨u1, u2, u3, u4, u5, u6, um⟩) (fun hHeld => ?_)
  clear hK K
  (try simp only [Act.put, List.setIfInBounds_toArray, List.set_cons_zero, List.set_cons_succ])
  refine wpAnyH_take (i := 14) (oi := ⟨some 21, _, _, _, _, none⟩) (v := ?v14) rfl (by kernel_rfl) (by kernel_rfl) (by kernel_rfl) (fun _ _ _ h => h) (Or.inl ⟨by rfl, ?hy14⟩) (by assumption) ?rest14
  case hy14 => (intro wS hSw; (try dsimp only at hSw); go_simp; (try with_reducible rfl))
  (try simp only [Act.put, List.setIfInBounds_toArray, List.set_cons_zero, List.set_cons_succ])
  refine wpAnyH_take (i := 15) (oi := ⟨some 2, _, _, _, _, none⟩) (v := ?v15) rfl (by kernel_rfl) (by kernel_rfl) (by kernel_rfl) (fun _ _ _ h => h) (Or.inl ⟨by rfl, ?hy15⟩) (by assumption) ?rest15
  case hy15 => (intro wS hSw; (try dsimp only at hSw); go_simp; (try with_reducible rfl))
  (try simp only [Act.put, List.setIfInBounds_toArray, List.set_cons_zero, List.set_cons_succ])
  refine wpAnyH_done (by kernel_rfl) ?_ _
  go_wp2
  go_ret
  exact ⟨strE (by rw [HE.out] <;> simp), HF.out.drew.trans f3⟩

set_option maxHeartbeats 4000000 in
theorem ptext3_any (hd : Ph) (ks : List Pd) (t : Kv) (w : World) (hop : hd.op = 3) (hW0 : Lp w) (hk : Kd w t ks) (hb : I64b hd.val.num) (hls : ks.length ≤ 20 ∧ hd.col.length ≤ 100 ∧ hd.pat.length ≤ 100 ∧ hd.val.txt.length ≤ 100) (htl2 : (textP (.mk hd ks)).length ≤ 6400)  :
    Calls Tryd.prog 33 #[pdV hd t] w fun e w' => e = .returned (.string ⟨(textP (.mk hd ks)).toArray⟩) ∧ Fr Non w w' := by
  have hn : t.n = ks.length := hk.len
  have F0 : Fr Non w (w.alloc (.cells (pdC hd t) 27)) := (Fr.refl Non w).alloc _
  have PB := Lib.hid (pd_new w _ hd t rfl)
  have HK := Lib.hid (hk.non F0)
  have HW := Lib.hid (hW0.non F0)
  have HE := Lib.hid (tx_3 (h := hd) (ks := ks) hop)
  have hcl := hls.2.1
  have hpl := hls.2.2.1
  have hls1 := hls.1
  generalize textP (.mk hd ks) = r at *
  have HF := Lib.hid F0
  clear F0 hls hW0 hk
  obtain ⟨ho, hc, hm, ⟨vn, vi, vt⟩, hkd, hp⟩ := hd
  obtain ⟨A, n, c⟩ := t
  dsimp only at hn hop hcl hpl HE
  have HL := Lib.hid hn
  have hn20 : n ≤ 20 := by omega
  clear hn hls1
  unfold pdV
  unfold pdC kidV
  dsimp only
  subst hop
  have s1 := fun W => sadd hc [32, 105, 115, 32, 110, 117, 108, 108] (by simp; omega) W
  go_enter Tryd.func33, Tryd.ntmps33
  go_wp2
  go_ret
  exact ⟨strE (by rw [HE.out]), HF.out⟩

set_option maxHeartbeats 4000000 in
theorem ptext4_any (hd : Ph) (ks : List Pd) (t : Kv) (w : World) (hop : hd.op = 4) (hW0 : Lp w) (hk : Kd w t ks) (hb : I64b hd.val.num) (hls : ks.length ≤ 20 ∧ hd.col.length ≤ 100 ∧ hd.pat.length ≤ 100 ∧ hd.val.txt.length ≤ 100) (htl2 : (textP (.mk hd ks)).length ≤ 6400)  :
    Calls Tryd.prog 33 #[pdV hd t] w fun e w' => e = .returned (.string ⟨(textP (.mk hd ks)).toArray⟩) ∧ Fr Non w w' := by
  have hn : t.n = ks.length := hk.len
  have F0 : Fr Non w (w.alloc (.cells (pdC hd t) 27)) := (Fr.refl Non w).alloc _
  have PB := Lib.hid (pd_new w _ hd t rfl)
  have HK := Lib.hid (hk.non F0)
  have HW := Lib.hid (hW0.non F0)
  have HQ := Lib.hid (fun W hW => pquote_any hd.pat W hW (by omega))
  have hql := quoT_len hd.pat
  have HE := Lib.hid (tx_4 (h := hd) (ks := ks) hop)
  have hcl := hls.2.1
  have hpl := hls.2.2.1
  have hls1 := hls.1
  generalize textP (.mk hd ks) = r at *
  have HF := Lib.hid F0
  clear F0 hls hW0 hk
  obtain ⟨ho, hc, hm, ⟨vn, vi, vt⟩, hkd, hp⟩ := hd
  obtain ⟨A, n, c⟩ := t
  dsimp only at hn hop hcl hpl HE HQ hql
  have HL := Lib.hid hn
  have hn20 : n ≤ 20 := by omega
  clear hn hls1
  unfold pdV
  unfold pdC kidV
  dsimp only
  subst hop
  generalize hva : quoT hp = va at *
  clear hva
  have s1 := fun W => sadd hc [32, 108, 105, 107, 101, 32] (by simp; omega) W
  have s2 := fun W => sadd (hc ++ [32, 108, 105, 107, 101, 32]) va (by simp; omega) W
  have HC := Lib.hid (HQ.out (w.alloc (.cells (pdC ⟨4, hc, hm, ⟨vn, vi, vt⟩, hkd, hp⟩ ⟨A, n, c⟩) 27)).drew (HW.out.non (Fr.refl _ _).drew))
  obtain ⟨_, q1, _, _, _, _, _, q2, _⟩ := pdB_cells PB.out.drew
  dsimp only at q1 q2
  unfold pdC kidV at HC q1 q2
  dsimp only at HC q1 q2
  go_enter Tryd.func33, Tryd.ntmps33
  go_wp2
  refine wp_region_held_drew (S := (fun W => W.cell? ⟨w.heap.size, 1, none⟩ = some (.string ⟨hc.toArray⟩) ∧ W.cell? ⟨w.heap.size, 7, none⟩ = some (.string ⟨hp.toArray⟩))) (by kernel_rfl) (by exact ⟨q1, q2⟩) (fun hHeld => ?_)
  refine wpAnyH_take (i := 0) (oi := ⟨some 29, _, _, _, _, none⟩) (v := ?v16) rfl (by kernel_rfl) (by kernel_rfl) (by kernel_rfl) (fun _ _ _ h => h) (Or.inl ⟨by rfl, ?hy16⟩) (by assumption) ?rest16
  case hy16 => (intro wS hSw; (try dsimp only at hSw); go_simp; (try with_reducible rfl))
  (try simp only [Act.put, List.setIfInBounds_toArray, List.set_cons_zero, List.set_cons_succ])
  refine wpAnyH_take (i := 1) (oi := ⟨some 30, _, _, _, _, none⟩) (v := ?v17) rfl (by kernel_rfl) (by kernel_rfl) (by kernel_rfl) (fun _ _ _ h => h) (Or.inl ⟨by rfl, ?hy17⟩) (by assumption) ?rest17
  case hy17 => (intro wS hSw; (try dsimp only at hSw); go_simp; (try with_reducible rfl))
  (try simp only [Act.put, List.setIfInBounds_toArray, List.set_cons_zero, List.set_cons_succ])
  refine wpAnyH_take (i := 2) (oi := ⟨some 31, _, _, _, _, none⟩) (v := ?v18) rfl (by kernel_rfl) (by kernel_rfl) (by kernel_rfl) (fun _ _ _ h => h) (Or.inl ⟨by rfl, ?hy18⟩) (by assumption) ?rest18
  case hy18 => (intro wS hSw; (try dsimp only at hSw); go_simp; (try with_reducible rfl))
  (try simp only [Act.put, List.setIfInBounds_toArray, List.set_cons_zero, List.set_cons_succ])
  refine wpAnyH_take (i := 3) (oi := ⟨some 32, _, _, _, _, none⟩) (v := ?v19) rfl (by kernel_rfl) (by kernel_rfl) (by kernel_rfl) (fun _ _ _ h => h) (Or.inl ⟨by rfl, ?hy19⟩) (by assumption) ?rest19
  case hy19 => (intro wS hSw; (try dsimp only at hSw); go_simp; (try with_reducible rfl))
  (try simp only [Act.put, List.setIfInBounds_toArray, List.set_cons_zero, List.set_cons_succ])
  refine wpAnyH_take (i := 4) (oi := ⟨some 33, _, _, _, _, none⟩) (v := ?v20) rfl (by kernel_rfl) (by kernel_rfl) (by kernel_rfl) (fun _ _ _ h => h) (Or.inl ⟨by rfl, ?hy20⟩) (by assumption) ?rest20
  case hy20 => (intro wS hSw; (try dsimp only at hSw); go_simp; (try with_reducible rfl))
  (try simp only [Act.put, List.setIfInBounds_toArray, List.set_cons_zero, List.set_cons_succ])
  refine wpAnyH_ready (rs := [5]) (by kernel_rfl) (by simp) ?_
  refine AllReadyH.cons (o := ⟨some 34, _, _, _, _, none⟩) rfl (fun K hK => ?_) AllReadyH.nil
  go_simp
  go_at_call 37
  (with_reducible refine HC.out.mono ?_)
  rintro e w3 ⟨rfl, f3⟩
  have u1 := (f3.cell (World.block_lt_of_cell? _ _ q1) (fun e => e)).trans q1
  have u2 := (f3.cell (World.block_lt_of_cell? _ _ q2) (fun e => e)).trans q2
  go_wp2_with fail
  refine hK.out _ _ (by exact ⟨u1, u2⟩) (fun hHeld => ?_)
  clear hK K
  (try simp only [Act.put, List.setIfInBounds_toArray, List.set_cons_zero, List.set_cons_succ])
  refine wpAnyH_take (i := 6) (oi := ⟨some 35, _, _, _, _, none⟩) (v := ?v21) rfl (by kernel_rfl) (by kernel_rfl) (by kernel_rfl) (fun _ _ _ h => h) (Or.inl ⟨by rfl, ?hy21⟩) (by assumption) ?rest21
  case hy21 => (intro wS hSw; (try dsimp only at hSw); go_simp; (try with_reducible rfl))
  (try simp only [Act.put, List.setIfInBounds_toArray, List.set_cons_zero, List.set_cons_succ])
  refine wpAnyH_take (i := 7) (oi := ⟨some 2, _, _, _, _, none⟩) (v := ?v22) rfl (by kernel_rfl) (by kernel_rfl) (by kernel_rfl) (fun _ _ _ h => h) (Or.inl ⟨by rfl, ?hy22⟩) (by assumption) ?rest22
  case hy22 => (intro wS hSw; (try dsimp only at hSw); go_simp; (try with_reducible rfl))
  (try simp only [Act.put, List.setIfInBounds_toArray, List.set_cons_zero, List.set_cons_succ])
  refine wpAnyH_done (by kernel_rfl) ?_ _
  go_wp2
  go_ret
  exact ⟨strE (by rw [HE.out] <;> simp), HF.out.drew.trans f3⟩

set_option maxHeartbeats 4000000 in
theorem ptext5_any (hd : Ph) (ks : List Pd) (t : Kv) (w : World) (hop : hd.op = 5) (hW0 : Lp w) (hk : Kd w t ks) (hb : I64b hd.val.num) (hls : ks.length ≤ 20 ∧ hd.col.length ≤ 100 ∧ hd.pat.length ≤ 100 ∧ hd.val.txt.length ≤ 100) (htl2 : (textP (.mk hd ks)).length ≤ 6400) (hk1 : ks.length = 1) (hkb : ∀ k (h : k < ks.length), (textP ks[k]).length ≤ 100000) (IH2 : Hid (∀ k (h : k < ks.length) W t', Lp W → Kd W t' ks[k].kids → Calls Tryd.prog 33 #[pdV ks[k].hd t'] W fun e w' => e = .returned (.string ⟨(textP ks[k]).toArray⟩) ∧ Fr Non W w')) :
    Calls Tryd.prog 33 #[pdV hd t] w fun e w' => e = .returned (.string ⟨(textP (.mk hd ks)).toArray⟩) ∧ Fr Non w w' := by
  have hn : t.n = ks.length := hk.len
  have F0 : Fr Non w (w.alloc (.cells (pdC hd t) 27)) := (Fr.refl Non w).alloc _
  have PB := Lib.hid (pd_new w _ hd t rfl)
  have HK := Lib.hid (hk.non F0)
  have HW := Lib.hid (hW0.non F0)
  have HKB := Lib.hid hkb
  have h0 : 0 < ks.length := by omega
  have HE : Hid (textP (.mk hd ks) = ([110, 111, 116, 32] : Tx) ++ brkP [6, 7] ks[0]) := Lib.hid (by
    cases ks with
    | nil => simp at h0
    | cons k r => exact tx_5 hop)
  have hcl := hls.2.1
  have hpl := hls.2.2.1
  have hls1 := hls.1
  generalize textP (.mk hd ks) = r at *
  have HF := Lib.hid F0
  clear F0 hls hW0 hk hkb
  obtain ⟨ho, hc, hm, ⟨vn, vi, vt⟩, hkd, hp⟩ := hd
  obtain ⟨A, n, c⟩ := t
  dsimp only at hn hop hcl hpl HE
  have HL := Lib.hid hn
  have hn20 : n ≤ 20 := by omega
  clear hn
  unfold pdV
  unfold pdC kidV
  dsimp only
  subst hop
  obtain ⟨a, t, hA, hc2, hkk, _⟩ := HK.out.el 0 h0
  dsimp only at hA
  subst hA
  have hkb := HKB.out 0 h0
  have HC : Hid (∀ W, Fr Non (w.alloc (.cells (pdC ⟨5, hc, hm, ⟨vn, vi, vt⟩, hkd, hp⟩ ⟨some a, n, c⟩) 27)) W → Calls Tryd.prog 33 #[pdV ks[0].hd t] W fun e w' => e = .returned (.string ⟨(textP ks[0]).toArray⟩) ∧ Fr Non W w') := Lib.hid (fun W hf => IH2.out 0 h0 W t (HW.out.non hf) (hkk.non hf))
  have hn1 : n = 1 := by have := HL.out; omega
  subst hn1
  have ht := hkb
  clear hkb hkk IH2 HKB
  generalize ks[0] = p at *
  obtain ⟨x, ps⟩ := p
  dsimp only [Pd.hd] at hc2 HC
  rw [show a.add (0 * 9) = a by simp [Addr.add]] at hc2
  obtain ⟨c0, c1, c2, c3, c4, c5, c6, c7, c8⟩ := hc2
  have G1 := Lib.hid ((Fr.refl Non (w.alloc (.cells (pdC ⟨5, hc, hm, ⟨vn, vi, vt⟩, hkd, hp⟩ ⟨some a, 1, c⟩) 27))).alloc (.cells #[.int .i64 6, .int .i64 7] 3))
  have V2 : Vs iv ((w.alloc (.cells (pdC ⟨5, hc, hm, ⟨vn, vi, vt⟩, hkd, hp⟩ ⟨some a, 1, c⟩) 27)).alloc (.cells #[.int .i64 6, .int .i64 7] 3)) (.slice (some ⟨(w.alloc (.cells (pdC ⟨5, hc, hm, ⟨vn, vi, vt⟩, hkd, hp⟩ ⟨some a, 1, c⟩) 27)).heap.size, 0, none⟩) 2 2) [6, 7] := vs_row _ [6, 7] _ (0, 0)
  rw [show (w.alloc (.cells (pdC ⟨5, hc, hm, ⟨vn, vi, vt⟩, hkd, hp⟩ ⟨some a, 1, c⟩) 27)).heap.size = w.heap.size + 1 by simp] at V2
  have HB := Lib.hid (pbrk_any x t ps [6, 7] _ _ V2 (by decide) ht (Lib.hid (fun W hf => HC.out W (G1.out.trans hf))))
  clear HC V2 ht
  have hbl : (brkP [6, 7] (.mk x ps)).length ≤ 6400 := by have e := congrArg List.length HE.out; rw [List.length_append] at e; omega
  generalize brkP [6, 7] (.mk x ps) = y at *
  have s1 := fun W => sadd [110, 111, 116, 32] y (by simp; omega) W
  obtain ⟨xo, xc, xm, ⟨xn, xi, xt⟩, xk, xp⟩ := x
  obtain ⟨tA, tn, tc⟩ := t
  unfold pdV at HB
  unfold pdC kidV at HB G1 c0 c1 c2 c3 c4 c5 c6 c7 c8
  dsimp only at HB G1 c0 c1 c2 c3 c4 c5 c6 c7 c8
  go_enter Tryd.func33, Tryd.ntmps33
  go_wp2_with fail
  refine HB.out.mono ?_
  rintro e w2 ⟨rfl, f2⟩
  go_wp2
  go_ret
  exact ⟨strE (by rw [HE.out] <;> simp), (HF.out.trans G1.out).trans f2⟩

set_option maxHeartbeats 4000000 in
theorem ptext6_any (hd : Ph) (ks : List Pd) (t : Kv) (w : World) (hop : hd.op = 6) (hW0 : Lp w) (hk : Kd w t ks) (hb : I64b hd.val.num) (hls : ks.length ≤ 20 ∧ hd.col.length ≤ 100 ∧ hd.pat.length ≤ 100 ∧ hd.val.txt.length ≤ 100) (htl2 : (textP (.mk hd ks)).length ≤ 6400) (hkb : ∀ k (h : k < ks.length), (textP ks[k]).length ≤ 100000) (IH2 : Hid (∀ k (h : k < ks.length) W t', Lp W → Kd W t' ks[k].kids → Calls Tryd.prog 33 #[pdV ks[k].hd t'] W fun e w' => e = .returned (.string ⟨(textP ks[k]).toArray⟩) ∧ Fr Non W w')) :
    Calls Tryd.prog 33 #[pdV hd t] w fun e w' => e = .returned (.string ⟨(textP (.mk hd ks)).toArray⟩) ∧ Fr Non w w' := by
  have hn : t.n = ks.length := hk.len
  have F0 : Fr Non w (w.alloc (.cells (pdC hd t) 27)) := (Fr.refl Non w).alloc _
  have PB := Lib.hid (pd_new w _ hd t rfl)
  have HK := Lib.hid (hk.non F0)
  have HW := Lib.hid (hW0.non F0)
  have HKB := Lib.hid hkb
  have HE := Lib.hid (tx_6 (h := hd) (ks := ks) hop)
  have hcl := hls.2.1
  have hpl := hls.2.2.1
  have hls1 := hls.1
  generalize textP (.mk hd ks) = r at *
  have HF := Lib.hid F0
  clear F0 hls hW0 hk hkb
  obtain ⟨ho, hc, hm, ⟨vn, vi, vt⟩, hkd, hp⟩ := hd
  obtain ⟨A, n, c⟩ := t
  dsimp only at hn hop hcl hpl HE
  have HL := Lib.hid hn
  have hn20 : n ≤ 20 := by omega
  clear hn hls1
  unfold pdV
  unfold pdC kidV
  dsimp only
  subst hop
  have G1 := Lib.hid ((Fr.refl Non (w.alloc (.cells (pdC ⟨6, hc, hm, ⟨vn, vi, vt⟩, hkd, hp⟩ ⟨A, n, c⟩) 27))).alloc (.cells #[.int .i64 7] 3))
  have V2 : Vs iv ((w.alloc (.cells (pdC ⟨6, hc, hm, ⟨vn, vi, vt⟩, hkd, hp⟩ ⟨A, n, c⟩) 27)).alloc (.cells #[.int .i64 7] 3)) (.slice (some ⟨(w.alloc (.cells (pdC ⟨6, hc, hm, ⟨vn, vi, vt⟩, hkd, hp⟩ ⟨A, n, c⟩) 27)).heap.size, 0, none⟩) 1 1) [7] := vs_row _ [7] _ (0, 0)
  rw [show (w.alloc (.cells (pdC ⟨6, hc, hm, ⟨vn, vi, vt⟩, hkd, hp⟩ ⟨A, n, c⟩) 27)).heap.size = w.heap.size + 1 by simp] at V2
  have HB := Lib.hid (pjoined_any ⟨A, n, c⟩ ks andT [7] _ _ (HW.out.non G1.out) (HK.out.non G1.out) V2 (by decide) (by have := HL.out; omega) (by rw [← HE.out]; omega) (fun k h => HKB.out k h) IH2)
  clear V2 IH2 HKB
  generalize Lib.join (ks.map (brkP [7])) andT = y at *
  unfold andT at HB
  unfold pdC kidV at HB G1
  dsimp only at HB G1
  go_enter Tryd.func33, Tryd.ntmps33
  go_wp2_with fail
  refine HB.out.mono ?_
  rintro e w2 ⟨rfl, f2⟩
  go_wp2
  go_ret
  exact ⟨strE (by rw [HE.out] <;> simp), (HF.out.trans G1.out).trans f2⟩

set_option maxHeartbeats 4000000 in
theorem ptext7_any (hd : Ph) (ks : List Pd) (t : Kv) (w : World) (hop : hd.op = 7) (hW0 : Lp w) (hk : Kd w t ks) (hb : I64b hd.val.num) (hls : ks.length ≤ 20 ∧ hd.col.length ≤ 100 ∧ hd.pat.length ≤ 100 ∧ hd.val.txt.length ≤ 100) (htl2 : (textP (.mk hd ks)).length ≤ 6400) (hkb : ∀ k (h : k < ks.length), (textP ks[k]).length ≤ 100000) (IH2 : Hid (∀ k (h : k < ks.length) W t', Lp W → Kd W t' ks[k].kids → Calls Tryd.prog 33 #[pdV ks[k].hd t'] W fun e w' => e = .returned (.string ⟨(textP ks[k]).toArray⟩) ∧ Fr Non W w')) :
    Calls Tryd.prog 33 #[pdV hd t] w fun e w' => e = .returned (.string ⟨(textP (.mk hd ks)).toArray⟩) ∧ Fr Non w w' := by
  have hn : t.n = ks.length := hk.len
  have F0 : Fr Non w (w.alloc (.cells (pdC hd t) 27)) := (Fr.refl Non w).alloc _
  have PB := Lib.hid (pd_new w _ hd t rfl)
  have HK := Lib.hid (hk.non F0)
  have HW := Lib.hid (hW0.non F0)
  have HKB := Lib.hid hkb
  have HE := Lib.hid (tx_7 (h := hd) (ks := ks) hop)
  have hcl := hls.2.1
  have hpl := hls.2.2.1
  have hls1 := hls.1
  generalize textP (.mk hd ks) = r at *
  have HF := Lib.hid F0
  clear F0 hls hW0 hk hkb
  obtain ⟨ho, hc, hm, ⟨vn, vi, vt⟩, hkd, hp⟩ := hd
  obtain ⟨A, n, c⟩ := t
  dsimp only at hn hop hcl hpl HE
  have HL := Lib.hid hn
  have hn20 : n ≤ 20 := by omega
  clear hn hls1
  unfold pdV
  unfold pdC kidV
  dsimp only
  subst hop
  have HB := Lib.hid (pjoined_any ⟨A, n, c⟩ ks orT [] (.slice none 0 0) _ HW.out HK.out (Vs.nil_ _) (by decide) (by have := HL.out; omega) (by rw [← HE.out]; omega) (fun k h => HKB.out k h) IH2)
  clear IH2 HKB
  generalize Lib.join (ks.map (brkP [])) orT = y at *
  unfold orT at HB
  unfold pdC kidV at HB
  dsimp only at HB
  go_enter Tryd.func33, Tryd.ntmps33
  go_wp2_with fail
  refine HB.out.mono ?_
  rintro e w2 ⟨rfl, f2⟩
  go_wp2
  go_ret
  exact ⟨strE (by rw [HE.out] <;> simp), HF.out.trans f2⟩

theorem ptext_any (p : Pd) : ∀ (t : Kv) (w : World), Lp w → Kd w t p.kids → I64b p.hd.val.num → lenP p = true → oneP p = true → cntP p ≤ 16 →
    Calls Tryd.prog 33 #[pdV p.hd t] w fun e w' => e = .returned (.string ⟨(textP p).toArray⟩) ∧ Fr Non w w' := by
  induction p using Pd.ind with
  | h hd ks ih =>
    intro t w hW hk hb hlen hone hcnt
    dsimp only [Pd.hd, Pd.kids] at hk hb ⊢
    have hls := lenP_mk hlen
    have hops := one_ops hone
    have hnum : numP (.mk hd ks) := ⟨hb, hk.num⟩
    have htl := text_len (.mk hd ks) hnum hlen
    have htl2 : (textP (.mk hd ks)).length ≤ 6400 := by omega
    have hkl : ∀ k (h : k < ks.length), (textP ks[k]).length ≤ 100000 := fun k h => by
      have hm := List.getElem_mem h
      have h1 := cntL_mem hm
      rw [cntP] at hcnt
      have := text_len ks[k] ((numL_all ks).1 hk.num _ hm) (hls.2.2.2.2 _ hm)
      omega
    have IH2 : Hid (∀ k (h : k < ks.length) W t', Lp W → Kd W t' ks[k].kids → Calls Tryd.prog 33 #[pdV ks[k].hd t'] W fun e w' => e = .returned (.string ⟨(textP ks[k]).toArray⟩) ∧ Fr Non W w') :=
      Lib.hid (fun k h W t' hW' a => by
        have hm := List.getElem_mem h
        have h1 := cntL_mem hm
        rw [cntP] at hcnt
        refine ih _ hm t' W hW' a ?_ (hls.2.2.2.2 _ hm) (hops.2 _ hm) (by omega)
        have := (numL_all ks).1 hk.num _ hm
        generalize ks[k] = p at *
        obtain ⟨h, ks⟩ := p
        exact this.1)
    have hl4 := And.intro hls.1 (And.intro hls.2.1 (And.intro hls.2.2.1 hls.2.2.2.1))
    rcases hops.1 with h1 | ⟨h2, hc1, hc6⟩ | h3 | h4 | ⟨h5, hk1⟩ | h6 | h7
    · exact ptext1_any hd ks t w h1 hW hk hb hl4 htl2
    · exact ptext2_any hd ks t w h2 hW hk hb hl4 htl2 ⟨hc1, hc6⟩
    · exact ptext3_any hd ks t w h3 hW hk hb hl4 htl2
    · exact ptext4_any hd ks t w h4 hW hk hb hl4 htl2
    · exact ptext5_any hd ks t w h5 hW hk hb hl4 htl2 hk1 hkl IH2
    · exact ptext6_any hd ks t w h6 hW hk hb hl4 htl2 hkl IH2
    · exact ptext7_any hd ks t w h7 hW hk hb hl4 htl2 hkl IH2

/-- nothing of one that may not be -/
def TextP (p : Pd) : Tx := if mayP p = true then textP p else []
set_option maxHeartbeats 2000000 in
theorem pText_any (h : Ph) (t : Kv) (ks : List Pd) (w : World) (hW : Lp w) (hk : Kd w t ks) (hb : I64b h.val.num) (hlen : lenP (.mk h ks) = true) (hdep : depP (.mk h ks) ≤ 9) :
    Calls Tryd.prog 14 #[pdV h t] w fun e w' => e = .returned (.string ⟨(TextP (.mk h ks)).toArray⟩) ∧ Fr Non w w' := by
  have F0 : Fr Non w (w.alloc (.cells (pdC h t) 27)) := (Fr.refl Non w).alloc _
  have M1 := Lib.hid (pmay_any h t ks _ (hk.non F0) hb hlen hdep)
  have PB := Lib.hid (pd_new w _ h t rfl)
  have C1 : Hid (mayP (.mk h ks) = true → ∀ W, Fr Non w W → Calls Tryd.prog 33 #[pdV h t] W fun e w' => e = .returned (.string ⟨(textP (.mk h ks)).toArray⟩) ∧ Fr Non W w') := Lib.hid (fun e W hf => by
    unfold mayP at e
    rw [Bool.and_eq_true, decide_eq_true_eq] at e
    exact ptext_any (.mk h ks) t W (hW.non hf) (hk.non hf) hb hlen e.2 e.1.1)
  have HE0 : Hid (TextP (.mk h ks) = if mayP (.mk h ks) = true then textP (.mk h ks) else []) := Lib.hid rfl
  generalize TextP (.mk h ks) = r at *
  generalize textP (.mk h ks) = tx at *
  generalize mayP (.mk h ks) = b at *
  have F0 := Lib.hid F0
  clear hk hlen hdep hW
  obtain ⟨ho, hc, hm, ⟨vn, vi, vt⟩, hkd, hp⟩ := h
  obtain ⟨A, nn, c⟩ := t
  unfold pdV pdC kidV at *
  dsimp only at *
  cases b
  · have HE : Hid (r = []) := Lib.hid (by rw [HE0.out, if_neg (by simp)])
    clear HE0 C1
    go_enter Tryd.func14, Tryd.ntmps14
    go_wp2_with fail
    refine M1.out.mono ?_
    rintro e w1 ⟨rfl, f1⟩
    go_wp2
    go_ret
    exact ⟨strE (by rw [HE.out] <;> simp), F0.out.trans f1⟩
  · have HE : Hid (r = tx) := Lib.hid (by rw [HE0.out, if_pos rfl])
    have C2 := Lib.hid (C1.out rfl)
    clear HE0 C1
    go_enter Tryd.func14, Tryd.ntmps14
    go_wp2_with fail
    refine M1.out.mono ?_
    rintro e w1 ⟨rfl, f1⟩
    obtain ⟨g0, g1, g2, g3, g4, g5, g6, g7, g8⟩ := pdB_cells (PB.out.fr f1 (fun e => e))
    dsimp only at g0 g1 g2 g3 g4 g5 g6 g7 g8
    have F1 := Lib.hid (F0.out.trans f1)
    clear f1
    go_wp2_with fail
    refine (C2.out _ F1.out).mono ?_
    rintro e w2 ⟨rfl, f2⟩
    go_wp2
    go_ret
    exact ⟨strE (by rw [HE.out] <;> simp), F1.out.trans f2⟩
end Go.Proofs.YteagbddejbjmfaaDoor


namespace Go.Proofs.YteagbddejbjmfaaDoor
set_option linter.unusedVariables false
set_option linter.unusedSimpArgs false
set_option maxRecDepth 100000
open Go.RowKit


def exLess : Ph := ⟨2, [97], 3, ⟨false, 5, []⟩, 1, []⟩
def exLike : Ph := ⟨4, [99], 0, zCl, 0, [120, 37]⟩
def exNull : Ph := ⟨3, [98], 0, zCl, 0, []⟩
def exNot : Ph := ⟨5, [], 0, zCl, 0, []⟩
def exOr : Ph := ⟨7, [], 0, zCl, 0, []⟩
def exAnd : Ph := ⟨6, [], 0, zCl, 0, []⟩
def exKids : List Pd := [.mk exLess [], .mk exOr [.mk exNull [], .mk exNot [.mk exLike []]]]
theorem itoa_5 : Lib.itoa 5 = [53] := by
  rw [show (5 : Int) = ((5 : Nat) : Int) from rfl, itoa_up, Lib.decDigits, dif_pos (by decide)]; rfl
theorem ex_may : mayP (.mk exAnd exKids) = true := by decide +kernel
theorem ex_len : lenP (.mk exAnd exKids) = true := by decide +kernel
theorem ex_dep : depP (.mk exAnd exKids) ≤ 9 := by decide +kernel
theorem ex_text : TextP (.mk exAnd exKids) = [97, 32, 60, 32, 53, 32, 97, 110, 100, 32, 40, 98, 32, 105, 115, 32, 110, 117, 108, 108, 32, 111, 114, 32, 110, 111, 116, 32, 99, 32, 108, 105, 107, 101, 32, 39, 120, 37, 39, 41] := by
  unfold TextP
  rw [if_pos ex_may]
  simp [exAnd, exKids, exLess, exOr, exNull, exNot, exLike, textP, textL, textH, brk, valT, itoa_5, markB, quoT, dblB, andT, orT, Lib.join, List.intercalate, Pd.hd, zCl]
theorem kd_lit (w : World) (g : Nat) (hg : g = w.heap.size) (ns : List (Ph × Kv)) (ps : List Pd) (cs : Array Value) (hcs : cs.toList = ns.flatMap pdL) (hl : ns.length = ps.length) (hm : ns.length ≤ 1000)
    (hh : ∀ i (h1 : i < ns.length) (h2 : i < ps.length), ns[i].1 = ps[i].hd) (hb : ∀ i (h2 : i < ps.length), I64b ps[i].hd.val.num) (hk : ∀ i (h1 : i < ns.length) (h2 : i < ps.length), Kd w ns[i].2 ps[i].kids) :
    Kd (w.alloc (.cells cs 27)) ⟨some ⟨g, 0, none⟩, ns.length, ns.length⟩ ps :=
  .mk _ ns ps hl ((no_lit (E := 27) fd_pd w 0 g ns cs hcs hg (Nat.zero_le _) (by omega)).ns fd_pd) hh hb (fun i h1 h2 => (hk i h1 h2).non ((Fr.refl _ _).alloc _))
set_option maxHeartbeats 4000000 in
theorem ex_kd (w : World) (g : Nat) (hg : g = w.heap.size) : ∀ (a b c d e f : Array Value), a = pdC exLess noKv → b = pdC exLike noKv → c = pdC exNot ⟨some ⟨g + 1, 0, none⟩, 1, 1⟩ → d = pdC exNull noKv ++ pdC exNot ⟨some ⟨g + 1, 0, none⟩, 1, 1⟩ → e = pdC exLess noKv ++ pdC exOr ⟨some ⟨g + 1 + 1 + 1, 0, none⟩, 2, 2⟩ →
    Kd ((((((w.alloc (.cells a 27)).alloc (.cells b 27)).alloc (.cells c 27)).alloc (.cells d 27)).alloc (.cells e 27)).alloc (.cells f 27)) ⟨some ⟨g + 1 + 1 + 1 + 1, 0, none⟩, 2, 2⟩ exKids := by
  intro a b c d e f ha hb hc hd he
  subst hg
  have k1 := kd_lit (w.alloc (.cells a 27)) (w.heap.size + 1) (by simp) [(exLike, noKv)] [.mk exLike []] b (by rw [hb]; rfl) rfl (by simp) (fun i h1 h2 => by
      match i, h1 with
      | 0, _ => rfl) (fun i h2 => by
      match i, h2 with
      | 0, _ => show I64b 0; unfold I64b; omega) (fun i h1 h2 => by
      match i, h1 with
      | 0, _ => exact Kd.nil_ _)
  have k2 := kd_lit (((w.alloc (.cells a 27)).alloc (.cells b 27)).alloc (.cells c 27)) (w.heap.size + 1 + 1 + 1) (by simp) [(exNull, noKv), (exNot, ⟨some ⟨w.heap.size + 1, 0, none⟩, 1, 1⟩)] [.mk exNull [], .mk exNot [.mk exLike []]] d (by rw [hd]; rfl) rfl (by simp) (fun i h1 h2 => by
      match i, h1 with
      | 0, _ => rfl
      | 1, _ => rfl) (fun i h2 => by
      match i, h2 with
      | 0, _ => show I64b 0; unfold I64b; omega
      | 1, _ => show I64b 0; unfold I64b; omega) (fun i h1 h2 => by
      match i, h1 with
      | 0, _ => exact Kd.nil_ _
      | 1, _ => exact k1.non ((Fr.refl _ _).alloc _))
  have k3 := kd_lit ((((w.alloc (.cells a 27)).alloc (.cells b 27)).alloc (.cells c 27)).alloc (.cells d 27)) (w.heap.size + 1 + 1 + 1 + 1) (by simp) [(exLess, noKv), (exOr, ⟨some ⟨w.heap.size + 1 + 1 + 1, 0, none⟩, 2, 2⟩)] exKids e (by rw [he]; rfl) rfl (by simp) (fun i h1 h2 => by
      match i, h1 with
      | 0, _ => rfl
      | 1, _ => rfl) (fun i h2 => by
      match i, h2 with
      | 0, _ => show I64b 5; unfold I64b; omega
      | 1, _ => show I64b 0; unfold I64b; omega) (fun i h1 h2 => by
      match i, h1 with
      | 0, _ => exact Kd.nil_ _
      | 1, _ => exact k2)
  exact k3.non ((Fr.refl _ _).alloc _)
set_option maxHeartbeats 4000000 in
theorem plive_any (w : World) (hW : Lp w) : Calls Tryd.prog 8 #[] w fun e w' => e = .returned (.bool true) ∧ Fr Non w w' := by
  have T := Lib.hid (fun (a b c d e f : Array Value) (ha : a = pdC exLess noKv) (hb : b = pdC exLike noKv) (hc : c = pdC exNot ⟨some ⟨w.heap.size + 1, 0, none⟩, 1, 1⟩) (hd : d = pdC exNull noKv ++ pdC exNot ⟨some ⟨w.heap.size + 1, 0, none⟩, 1, 1⟩) (he : e = pdC exLess noKv ++ pdC exOr ⟨some ⟨w.heap.size + 1 + 1 + 1, 0, none⟩, 2, 2⟩) =>
    pText_any exAnd ⟨some ⟨w.heap.size + 1 + 1 + 1 + 1, 0, none⟩, 2, 2⟩ exKids _ (hW.non ((((((((Fr.refl Non w).alloc (.cells a 27)).alloc (.cells b 27)).alloc (.cells c 27)).alloc (.cells d 27)).alloc (.cells e 27)).alloc (.cells f 27)))) (ex_kd w w.heap.size rfl a b c d e f ha hb hc hd he) (show I64b 0 by unfold I64b; omega) ex_len ex_dep)
  have HT := Lib.hid ex_text
  rw [HT.out] at T
  have T2 := T.out _ _ _ _ _ (pdC exAnd ⟨some ⟨w.heap.size + 1 + 1 + 1 + 1, 0, none⟩, 2, 2⟩) rfl rfl rfl rfl rfl
  clear T HT hW
  unfold exAnd exLess exLike exNot exNull exOr at T2
  unfold pdV at T2
  unfold pdC kidV noKv zCl at T2
  simp only [Array.append, List.append_toArray, Array.appendList] at T2
  try dsimp only at T2
  have HF := Lib.hid T2
  clear T2
  go_enter Tryd.func8, Tryd.ntmps8
  go_wp2_with fail
  refine HF.out.mono ?_
  rintro e w1 ⟨rfl, f1⟩
  go_wp2
  go_ret
  exact ⟨rfl, ((((((((Fr.refl Non w).alloc _).alloc _).alloc _).alloc _).alloc _).alloc _)).trans f1⟩
end Go.Proofs.YteagbddejbjmfaaDoor
