/-
  Joined: Layer 22: the program's Join, Add. · Slices of slices of bytes that the call owns (Owns), and the steps that append one slice, or one value of one cell, to a row of the call's own. · Slices of one-celled elements of any type: what one reads as (Vs), a row of the call's own (Ow), and the steps over them: append of one, append of many, make, copy, cuts. · Slices of cells: what one reads as (Cs), a row of the call's own (Oc), and the steps over them.
-/
import Derived.Lib.Varint
import Derived.Lib.Zigzag
import Derived.Test.YtincapmagennmaaZ1
import Derived.Deep.RegionHeld3
import Derived.Laws.CopyOwn
import Derived.Laws.OwnMore

namespace Go.Proofs.Ytincapmagennmaa
set_option linter.unusedVariables false
set_option linter.unusedSimpArgs false
set_option maxRecDepth 100000
open Go.RowKit

theorem joinS_w (a b : Fs) : joinS a b = ⟨wrap64 (a.cnt + b.cnt), wrap64 (a.has + b.has), wrap64 (a.sum + b.sum), a.some || b.some,
    if a.some = false then b.low else if b.some = false then a.low else lesF a.low b.low,
    if a.some = false then b.high else if b.some = false then a.high else grtF a.high b.high⟩ := by
  unfold joinS
  rw [w6_wrap64, w6_wrap64, w6_wrap64]

set_option maxHeartbeats 4000000 in
theorem fjoin_a (ac ah au bc bh bu : Int) (sb : Bool) (aln ahn bln bhn : Bool) (ali ahi bli bhi : Int) (alt aht blt bht : List UInt8) (w : World) :
    Calls Try.prog 12 #[fsV ⟨ac, ah, au, false, ⟨aln, ali, alt⟩, ⟨ahn, ahi, aht⟩⟩, fsV ⟨bc, bh, bu, sb, ⟨bln, bli, blt⟩, ⟨bhn, bhi, bht⟩⟩] w fun e w' => e = .returned (fsV (joinS ⟨ac, ah, au, false, ⟨aln, ali, alt⟩, ⟨ahn, ahi, aht⟩⟩ ⟨bc, bh, bu, sb, ⟨bln, bli, blt⟩, ⟨bhn, bhi, bht⟩⟩)) ∧ Fr Non w w' := by
  have hE : Hid (joinS ⟨ac, ah, au, false, ⟨aln, ali, alt⟩, ⟨ahn, ahi, aht⟩⟩ ⟨bc, bh, bu, sb, ⟨bln, bli, blt⟩, ⟨bhn, bhi, bht⟩⟩ = ⟨wrap64 (ac + bc), wrap64 (ah + bh), wrap64 (au + bu), sb, ⟨bln, bli, blt⟩, ⟨bhn, bhi, bht⟩⟩) := Lib.hid (by rw [joinS_w]; rfl)
  obtain ⟨g, hg⟩ : ∃ g, w.heap.size = g := ⟨_, rfl⟩
  obtain ⟨W1, hW1⟩ : ∃ W, W = w.alloc (.cells #[.int .i64 ac, .int .i64 ah, .int .i64 au, .bool false, .bool aln, .int .i64 ali, .string ⟨alt.toArray⟩, .bool ahn, .int .i64 ahi, .string ⟨aht.toArray⟩] 28) := ⟨_, rfl⟩
  have A1 : FsB W1 g ⟨ac, ah, au, false, ⟨aln, ali, alt⟩, ⟨ahn, ahi, aht⟩⟩ := by rw [hW1]; exact fs_new w ⟨ac, ah, au, false, ⟨aln, ali, alt⟩, ⟨ahn, ahi, aht⟩⟩ g hg
  have s1 : W1.heap.size = g + 1 := by rw [hW1]; simp [hg]
  have F1 : Fr Non w W1 := by rw [hW1]; exact (Fr.refl Non w).alloc _
  obtain ⟨W2, hW2⟩ : ∃ W, W = W1.alloc (.cells #[.int .i64 bc, .int .i64 bh, .int .i64 bu, .bool sb, .bool bln, .int .i64 bli, .string ⟨blt.toArray⟩, .bool bhn, .int .i64 bhi, .string ⟨bht.toArray⟩] 28) := ⟨_, rfl⟩
  have B2 : FsB W2 (g + 1) ⟨bc, bh, bu, sb, ⟨bln, bli, blt⟩, ⟨bhn, bhi, bht⟩⟩ := by rw [hW2]; exact fs_new W1 ⟨bc, bh, bu, sb, ⟨bln, bli, blt⟩, ⟨bhn, bhi, bht⟩⟩ _ s1
  have s2 : W2.heap.size = g + 2 := by rw [hW2]; simp [s1]
  have F2 : Fr Non W1 W2 := by rw [hW2]; exact (Fr.refl Non W1).alloc _
  obtain ⟨W3, hW3⟩ : ∃ W, W = W2.alloc (.cells #[.int .i64 0, .int .i64 0, .int .i64 0, .bool false, .bool false, .int .i64 0, .string ⟨([] : List UInt8).toArray⟩, .bool false, .int .i64 0, .string ⟨([] : List UInt8).toArray⟩] 28) := ⟨_, rfl⟩
  have R3 : FsB W3 (g + 2) ⟨0, 0, 0, false, ⟨false, 0, []⟩, ⟨false, 0, []⟩⟩ := by rw [hW3]; exact fs_new W2 ⟨0, 0, 0, false, ⟨false, 0, []⟩, ⟨false, 0, []⟩⟩ _ s2
  have s3 : W3.heap.size = g + 3 := by rw [hW3]; simp [s2]
  have F3 : Fr Non W2 W3 := by rw [hW3]; exact (Fr.refl Non W2).alloc _
  obtain ⟨W0, hW0⟩ : ∃ W, W = W3.alloc (.cells #[.int .i64 (wrap64 (ac + bc)), .int .i64 (wrap64 (ah + bh)), .int .i64 (wrap64 (au + bu)), .bool sb, .bool false, .int .i64 0, .string ⟨([] : List UInt8).toArray⟩, .bool false, .int .i64 0, .string ⟨([] : List UInt8).toArray⟩] 28) := ⟨_, rfl⟩
  have JB : FsB W0 (g + 3) ⟨wrap64 (ac + bc), wrap64 (ah + bh), wrap64 (au + bu), sb, ⟨false, 0, []⟩, ⟨false, 0, []⟩⟩ := by rw [hW0]; exact fs_new W3 ⟨wrap64 (ac + bc), wrap64 (ah + bh), wrap64 (au + bu), sb, ⟨false, 0, []⟩, ⟨false, 0, []⟩⟩ _ s3
  have F4 : Fr Non W3 W0 := by rw [hW0]; exact (Fr.refl Non W3).alloc _
  obtain ⟨a0, a1, a2, a3, a4, a5, a6, a7, a8, a9⟩ := fsB_cells (show FsB W0 g ⟨ac, ah, au, false, ⟨aln, ali, alt⟩, ⟨ahn, ahi, aht⟩⟩ from ((A1.fr F2 (fun e => e)).fr F3 (fun e => e)).fr F4 (fun e => e))
  obtain ⟨b0, b1, b2, b3, b4, b5, b6, b7, b8, b9⟩ := fsB_cells (show FsB W0 (g + 1) ⟨bc, bh, bu, sb, ⟨bln, bli, blt⟩, ⟨bhn, bhi, bht⟩⟩ from (B2.fr F3 (fun e => e)).fr F4 (fun e => e))
  dsimp only at a0 a1 a2 a3 a4 a5 a6 a7 a8 a9 b0 b1 b2 b3 b4 b5 b6 b7 b8 b9
  have RB : Hid (FsB W0 (g + 2) ⟨0, 0, 0, false, ⟨false, 0, []⟩, ⟨false, 0, []⟩⟩) := Lib.hid (R3.fr F4 (fun e => e))
  have F0 := Lib.hid (((F1.trans F2).trans F3).trans F4)
  have HG := Lib.hid hg
  replace JB := Lib.hid JB
  clear A1 B2 R3 F1 F2 F3 F4 s1 s2 s3
  subst hW1 hW2 hW3
  unfold fsV fsC
  dsimp only
  go_enter Try.func12, Try.ntmps12
  go_wp2
  rw [← hW0]
  clear hW0
  clear a0 a1 a2 a3 a4 a5 a6 a7 a8 a9 b0 b1 b2 b3
  obtain ⟨V, hV⟩ : ∃ V, V = W0.drew := ⟨_, rfl⟩
  refine wp_region_held_drew (S := (fun W' => W'.cell? ⟨(g + 1), 4, none⟩ = some (.bool bln) ∧ W'.cell? ⟨(g + 1), 5, none⟩ = some (.int .i64 bli) ∧ W'.cell? ⟨(g + 1), 6, none⟩ = some (.string ⟨blt.toArray⟩) ∧ W'.cell? ⟨(g + 1), 7, none⟩ = some (.bool bhn) ∧ W'.cell? ⟨(g + 1), 8, none⟩ = some (.int .i64 bhi) ∧ W'.cell? ⟨(g + 1), 9, none⟩ = some (.string ⟨bht.toArray⟩))) (by kernel_rfl) (by exact ⟨b4, b5, b6, b7, b8, b9⟩) (fun hHeld => ?_)
  rw [← hV]
  rw [← hV] at hHeld
  have FV : Fr Non W0 V := by rw [hV]; exact (Fr.refl Non W0).drew
  clear hV
  replace b4 := FV.at0 b4
  replace b5 := FV.at0 b5
  replace b6 := FV.at0 b6
  replace b7 := FV.at0 b7
  replace b8 := FV.at0 b8
  replace b9 := FV.at0 b9
  have JV : FsB V (g + 3) ⟨wrap64 (ac + bc), wrap64 (ah + bh), wrap64 (au + bu), sb, ⟨false, 0, []⟩, ⟨false, 0, []⟩⟩ := JB.out.fr FV (fun e => e)
  have RV : FsB V (g + 2) ⟨0, 0, 0, false, ⟨false, 0, []⟩, ⟨false, 0, []⟩⟩ := RB.out.fr FV (fun e => e)
  refine wpAnyH_take (i := 0) (oi := ⟨some 44, _, _, _, _, none⟩) (v := ?v1) rfl (by kernel_rfl) (by kernel_rfl) (by kernel_rfl) (fun _ _ _ h => h) (Or.inl ⟨by rfl, ?hy1⟩) (by assumption) ?rest1
  case hy1 => (intro wS hSw; (try dsimp only at hSw); go_simp; (try with_reducible rfl))
  (try simp only [Act.put, List.setIfInBounds_toArray, List.set_cons_zero, List.set_cons_succ])
  refine wpAnyH_take (i := 1) (oi := ⟨some 45, _, _, _, _, none⟩) (v := ?v2) rfl (by kernel_rfl) (by kernel_rfl) (by kernel_rfl) (fun _ _ _ h => h) (Or.inl ⟨by rfl, ?hy2⟩) (by assumption) ?rest2
  case hy2 => (intro wS hSw; (try dsimp only at hSw); go_simp; (try with_reducible rfl))
  (try simp only [Act.put, List.setIfInBounds_toArray, List.set_cons_zero, List.set_cons_succ])
  refine wpAnyH_take (i := 2) (oi := ⟨some 46, _, _, _, _, none⟩) (v := ?v3) rfl (by kernel_rfl) (by kernel_rfl) (by kernel_rfl) (fun _ _ _ h => h) (Or.inl ⟨by rfl, ?hy3⟩) (by assumption) ?rest3
  case hy3 => (intro wS hSw; (try dsimp only at hSw); go_simp; (try with_reducible rfl))
  (try simp only [Act.put, List.setIfInBounds_toArray, List.set_cons_zero, List.set_cons_succ])
  refine wpAnyH_take (i := 3) (oi := ⟨some 47, _, _, _, _, none⟩) (v := ?v4) rfl (by kernel_rfl) (by kernel_rfl) (by kernel_rfl) (fun _ _ _ h => h) (Or.inl ⟨by rfl, ?hy4⟩) (by assumption) ?rest4
  case hy4 => (intro wS hSw; (try dsimp only at hSw); go_simp; (try with_reducible rfl))
  (try simp only [Act.put, List.setIfInBounds_toArray, List.set_cons_zero, List.set_cons_succ])
  refine wpAnyH_take (i := 4) (oi := ⟨some 48, _, _, _, _, none⟩) (v := ?v5) rfl (by kernel_rfl) (by kernel_rfl) (by kernel_rfl) (fun _ _ _ h => h) (Or.inl ⟨by rfl, ?hy5⟩) (by assumption) ?rest5
  case hy5 => (intro wS hSw; (try dsimp only at hSw); go_simp; (try with_reducible rfl))
  (try simp only [Act.put, List.setIfInBounds_toArray, List.set_cons_zero, List.set_cons_succ])
  refine wpAnyH_ready (rs := [5]) (by kernel_rfl) (by simp) ?_
  refine AllReadyH.cons (o := ⟨none, _, _, _, _, none⟩) rfl (fun K hK => ?_) AllReadyH.nil
  obtain ⟨p0, p1, p2, p3, p4, p5, p6, p7, p8, p9⟩ := fsB_cells JV
  obtain ⟨z0, z1, z2, z3, z4, z5, z6, z7, z8, z9⟩ := fsB_froz JV
  dsimp only at p0 p1 p2 p3 p4 p5 p6 p7 p8 p9
  obtain ⟨W5, hW5⟩ : ∃ W, W = setFsL V (g + 3) bln bli blt := ⟨_, rfl⟩
  have sW5 : Fr (One (g + 3)) V W5 := by rw [hW5]; exact setFsL_fr _ _ _ _ _
  have JW5 := setFsL_B JV ⟨bln, bli, blt⟩
  dsimp only at JW5
  rw [← hW5] at JW5
  unfold setFsL at hW5
  go_simp
  rw [← hW5]
  clear hW5 p0 p1 p2 p3 p4 p5 p6 p7 p8 p9 z0 z1 z2 z3 z4 z5 z6 z7 z8 z9
  refine hK.out _ _ (by exact ⟨sW5.atO (by omega) b4, sW5.atO (by omega) b5, sW5.atO (by omega) b6, sW5.atO (by omega) b7, sW5.atO (by omega) b8, sW5.atO (by omega) b9⟩) (fun hHeld => ?_)
  clear hK K
  (try simp only [Act.put, List.setIfInBounds_toArray, List.set_cons_zero, List.set_cons_succ])
  replace b4 := sW5.atO (by omega) b4
  replace b5 := sW5.atO (by omega) b5
  replace b6 := sW5.atO (by omega) b6
  replace b7 := sW5.atO (by omega) b7
  replace b8 := sW5.atO (by omega) b8
  replace b9 := sW5.atO (by omega) b9
  refine wpAnyH_take (i := 6) (oi := ⟨some 49, _, _, _, _, none⟩) (v := ?v6) rfl (by kernel_rfl) (by kernel_rfl) (by kernel_rfl) (fun _ _ _ h => h) (Or.inl ⟨by rfl, ?hy6⟩) (by assumption) ?rest6
  case hy6 => (intro wS hSw; (try dsimp only at hSw); go_simp; (try with_reducible rfl))
  (try simp only [Act.put, List.setIfInBounds_toArray, List.set_cons_zero, List.set_cons_succ])
  refine wpAnyH_ready (rs := [7]) (by kernel_rfl) (by simp) ?_
  refine AllReadyH.cons (o := ⟨none, _, _, _, _, none⟩) rfl (fun K hK => ?_) AllReadyH.nil
  obtain ⟨p0, p1, p2, p3, p4, p5, p6, p7, p8, p9⟩ := fsB_cells JW5
  obtain ⟨z0, z1, z2, z3, z4, z5, z6, z7, z8, z9⟩ := fsB_froz JW5
  dsimp only at p0 p1 p2 p3 p4 p5 p6 p7 p8 p9
  obtain ⟨W6, hW6⟩ : ∃ W, W = setFsH W5 (g + 3) bhn bhi bht := ⟨_, rfl⟩
  have sW6 : Fr (One (g + 3)) W5 W6 := by rw [hW6]; exact setFsH_fr _ _ _ _ _
  have JW6 := setFsH_B JW5 ⟨bhn, bhi, bht⟩
  dsimp only at JW6
  rw [← hW6] at JW6
  unfold setFsH at hW6
  go_simp
  rw [← hW6]
  clear hW6 p0 p1 p2 p3 p4 p5 p6 p7 p8 p9 z0 z1 z2 z3 z4 z5 z6 z7 z8 z9
  refine hK.out _ _ (by exact ⟨sW6.atO (by omega) b4, sW6.atO (by omega) b5, sW6.atO (by omega) b6, sW6.atO (by omega) b7, sW6.atO (by omega) b8, sW6.atO (by omega) b9⟩) (fun hHeld => ?_)
  clear hK K
  (try simp only [Act.put, List.setIfInBounds_toArray, List.set_cons_zero, List.set_cons_succ])
  replace b4 := sW6.atO (by omega) b4
  replace b5 := sW6.atO (by omega) b5
  replace b6 := sW6.atO (by omega) b6
  replace b7 := sW6.atO (by omega) b7
  replace b8 := sW6.atO (by omega) b8
  replace b9 := sW6.atO (by omega) b9
  refine wpAnyH_done (by kernel_rfl) ?_ _
  clear hHeld
  have RE : FsB W6 (g + 2) ⟨0, 0, 0, false, ⟨false, 0, []⟩, ⟨false, 0, []⟩⟩ := (RV.fr sW5 (fun k => by have : g + 2 = g + 3 := k; omega)).fr sW6 (fun k => by have : g + 2 = g + 3 := k; omega)
  have F6 := Lib.hid (F0.out.fresh ((FV.any.trans sW5).trans sW6) (fun k e => by have : k = g + 3 := e; have := HG.out; omega))
  obtain ⟨p0, p1, p2, p3, p4, p5, p6, p7, p8, p9⟩ := fsB_cells JW6
  obtain ⟨q0, q1, q2, q3, q4, q5, q6, q7, q8, q9⟩ := fsB_cells RE
  obtain ⟨z0, z1, z2, z3, z4, z5, z6, z7, z8, z9⟩ := fsB_froz RE
  dsimp only at p0 p1 p2 p3 p4 p5 p6 p7 p8 p9 q0 q1 q2 q3 q4 q5 q6 q7 q8 q9
  have HE := Lib.hid (setFs_B RE ⟨wrap64 (ac + bc), wrap64 (ah + bh), wrap64 (au + bu), sb, ⟨bln, bli, blt⟩, ⟨bhn, bhi, bht⟩⟩)
  have FE := Lib.hid (F6.out.fresh (setFs_fr W6 (g + 2) ⟨wrap64 (ac + bc), wrap64 (ah + bh), wrap64 (au + bu), sb, ⟨bln, bli, blt⟩, ⟨bhn, bhi, bht⟩⟩) (fun k e => by have : k = g + 2 := e; have := HG.out; omega))
  unfold setFs setFsN setFsL setFsH at HE FE
  dsimp only at HE FE
  clear JW6 RE F6 sW5 sW6 FV JV RV b4 b5 b6 b7 b8 b9
  go_wp2
  exact bodyPost_ret (v := fsV ⟨wrap64 (ac + bc), wrap64 (ah + bh), wrap64 (au + bu), sb, ⟨bln, bli, blt⟩, ⟨bhn, bhi, bht⟩⟩) (ret_fs (p := 4) rfl _ _ (g + 2) ⟨wrap64 (ac + bc), wrap64 (ah + bh), wrap64 (au + bu), sb, ⟨bln, bli, blt⟩, ⟨bhn, bhi, bht⟩⟩ (by rfl) HE.out) rfl ⟨by rw [hE.out]; rfl, FE.out⟩

set_option maxHeartbeats 4000000 in
theorem fjoin_b (ac ah au bc bh bu : Int) (aln ahn bln bhn : Bool) (ali ahi bli bhi : Int) (alt aht blt bht : List UInt8) (w : World) :
    Calls Try.prog 12 #[fsV ⟨ac, ah, au, true, ⟨aln, ali, alt⟩, ⟨ahn, ahi, aht⟩⟩, fsV ⟨bc, bh, bu, false, ⟨bln, bli, blt⟩, ⟨bhn, bhi, bht⟩⟩] w fun e w' => e = .returned (fsV (joinS ⟨ac, ah, au, true, ⟨aln, ali, alt⟩, ⟨ahn, ahi, aht⟩⟩ ⟨bc, bh, bu, false, ⟨bln, bli, blt⟩, ⟨bhn, bhi, bht⟩⟩)) ∧ Fr Non w w' := by
  have hE : Hid (joinS ⟨ac, ah, au, true, ⟨aln, ali, alt⟩, ⟨ahn, ahi, aht⟩⟩ ⟨bc, bh, bu, false, ⟨bln, bli, blt⟩, ⟨bhn, bhi, bht⟩⟩ = ⟨wrap64 (ac + bc), wrap64 (ah + bh), wrap64 (au + bu), true, ⟨aln, ali, alt⟩, ⟨ahn, ahi, aht⟩⟩) := Lib.hid (by rw [joinS_w]; rfl)
  obtain ⟨g, hg⟩ : ∃ g, w.heap.size = g := ⟨_, rfl⟩
  obtain ⟨W1, hW1⟩ : ∃ W, W = w.alloc (.cells #[.int .i64 ac, .int .i64 ah, .int .i64 au, .bool true, .bool aln, .int .i64 ali, .string ⟨alt.toArray⟩, .bool ahn, .int .i64 ahi, .string ⟨aht.toArray⟩] 28) := ⟨_, rfl⟩
  have A1 : FsB W1 g ⟨ac, ah, au, true, ⟨aln, ali, alt⟩, ⟨ahn, ahi, aht⟩⟩ := by rw [hW1]; exact fs_new w ⟨ac, ah, au, true, ⟨aln, ali, alt⟩, ⟨ahn, ahi, aht⟩⟩ g hg
  have s1 : W1.heap.size = g + 1 := by rw [hW1]; simp [hg]
  have F1 : Fr Non w W1 := by rw [hW1]; exact (Fr.refl Non w).alloc _
  obtain ⟨W2, hW2⟩ : ∃ W, W = W1.alloc (.cells #[.int .i64 bc, .int .i64 bh, .int .i64 bu, .bool false, .bool bln, .int .i64 bli, .string ⟨blt.toArray⟩, .bool bhn, .int .i64 bhi, .string ⟨bht.toArray⟩] 28) := ⟨_, rfl⟩
  have B2 : FsB W2 (g + 1) ⟨bc, bh, bu, false, ⟨bln, bli, blt⟩, ⟨bhn, bhi, bht⟩⟩ := by rw [hW2]; exact fs_new W1 ⟨bc, bh, bu, false, ⟨bln, bli, blt⟩, ⟨bhn, bhi, bht⟩⟩ _ s1
  have s2 : W2.heap.size = g + 2 := by rw [hW2]; simp [s1]
  have F2 : Fr Non W1 W2 := by rw [hW2]; exact (Fr.refl Non W1).alloc _
  obtain ⟨W3, hW3⟩ : ∃ W, W = W2.alloc (.cells #[.int .i64 0, .int .i64 0, .int .i64 0, .bool false, .bool false, .int .i64 0, .string ⟨([] : List UInt8).toArray⟩, .bool false, .int .i64 0, .string ⟨([] : List UInt8).toArray⟩] 28) := ⟨_, rfl⟩
  have R3 : FsB W3 (g + 2) ⟨0, 0, 0, false, ⟨false, 0, []⟩, ⟨false, 0, []⟩⟩ := by rw [hW3]; exact fs_new W2 ⟨0, 0, 0, false, ⟨false, 0, []⟩, ⟨false, 0, []⟩⟩ _ s2
  have s3 : W3.heap.size = g + 3 := by rw [hW3]; simp [s2]
  have F3 : Fr Non W2 W3 := by rw [hW3]; exact (Fr.refl Non W2).alloc _
  obtain ⟨W0, hW0⟩ : ∃ W, W = W3.alloc (.cells #[.int .i64 (wrap64 (ac + bc)), .int .i64 (wrap64 (ah + bh)), .int .i64 (wrap64 (au + bu)), .bool true, .bool false, .int .i64 0, .string ⟨([] : List UInt8).toArray⟩, .bool false, .int .i64 0, .string ⟨([] : List UInt8).toArray⟩] 28) := ⟨_, rfl⟩
  have JB : FsB W0 (g + 3) ⟨wrap64 (ac + bc), wrap64 (ah + bh), wrap64 (au + bu), true, ⟨false, 0, []⟩, ⟨false, 0, []⟩⟩ := by rw [hW0]; exact fs_new W3 ⟨wrap64 (ac + bc), wrap64 (ah + bh), wrap64 (au + bu), true, ⟨false, 0, []⟩, ⟨false, 0, []⟩⟩ _ s3
  have F4 : Fr Non W3 W0 := by rw [hW0]; exact (Fr.refl Non W3).alloc _
  obtain ⟨a0, a1, a2, a3, a4, a5, a6, a7, a8, a9⟩ := fsB_cells (show FsB W0 g ⟨ac, ah, au, true, ⟨aln, ali, alt⟩, ⟨ahn, ahi, aht⟩⟩ from ((A1.fr F2 (fun e => e)).fr F3 (fun e => e)).fr F4 (fun e => e))
  obtain ⟨b0, b1, b2, b3, b4, b5, b6, b7, b8, b9⟩ := fsB_cells (show FsB W0 (g + 1) ⟨bc, bh, bu, false, ⟨bln, bli, blt⟩, ⟨bhn, bhi, bht⟩⟩ from (B2.fr F3 (fun e => e)).fr F4 (fun e => e))
  dsimp only at a0 a1 a2 a3 a4 a5 a6 a7 a8 a9 b0 b1 b2 b3 b4 b5 b6 b7 b8 b9
  have RB : Hid (FsB W0 (g + 2) ⟨0, 0, 0, false, ⟨false, 0, []⟩, ⟨false, 0, []⟩⟩) := Lib.hid (R3.fr F4 (fun e => e))
  have F0 := Lib.hid (((F1.trans F2).trans F3).trans F4)
  have HG := Lib.hid hg
  replace JB := Lib.hid JB
  clear A1 B2 R3 F1 F2 F3 F4 s1 s2 s3
  subst hW1 hW2 hW3
  unfold fsV fsC
  dsimp only
  go_enter Try.func12, Try.ntmps12
  go_wp2
  rw [← hW0]
  clear hW0
  clear a0 a1 a2 a3 b0 b1 b2 b3 b4 b5 b6 b7 b8 b9
  obtain ⟨V, hV⟩ : ∃ V, V = W0.drew := ⟨_, rfl⟩
  refine wp_region_held_drew (S := (fun W' => W'.cell? ⟨g, 4, none⟩ = some (.bool aln) ∧ W'.cell? ⟨g, 5, none⟩ = some (.int .i64 ali) ∧ W'.cell? ⟨g, 6, none⟩ = some (.string ⟨alt.toArray⟩) ∧ W'.cell? ⟨g, 7, none⟩ = some (.bool ahn) ∧ W'.cell? ⟨g, 8, none⟩ = some (.int .i64 ahi) ∧ W'.cell? ⟨g, 9, none⟩ = some (.string ⟨aht.toArray⟩))) (by kernel_rfl) (by exact ⟨a4, a5, a6, a7, a8, a9⟩) (fun hHeld => ?_)
  rw [← hV]
  rw [← hV] at hHeld
  have FV : Fr Non W0 V := by rw [hV]; exact (Fr.refl Non W0).drew
  clear hV
  replace a4 := FV.at0 a4
  replace a5 := FV.at0 a5
  replace a6 := FV.at0 a6
  replace a7 := FV.at0 a7
  replace a8 := FV.at0 a8
  replace a9 := FV.at0 a9
  have JV : FsB V (g + 3) ⟨wrap64 (ac + bc), wrap64 (ah + bh), wrap64 (au + bu), true, ⟨false, 0, []⟩, ⟨false, 0, []⟩⟩ := JB.out.fr FV (fun e => e)
  have RV : FsB V (g + 2) ⟨0, 0, 0, false, ⟨false, 0, []⟩, ⟨false, 0, []⟩⟩ := RB.out.fr FV (fun e => e)
  refine wpAnyH_take (i := 0) (oi := ⟨some 54, _, _, _, _, none⟩) (v := ?v7) rfl (by kernel_rfl) (by kernel_rfl) (by kernel_rfl) (fun _ _ _ h => h) (Or.inl ⟨by rfl, ?hy7⟩) (by assumption) ?rest7
  case hy7 => (intro wS hSw; (try dsimp only at hSw); go_simp; (try with_reducible rfl))
  (try simp only [Act.put, List.setIfInBounds_toArray, List.set_cons_zero, List.set_cons_succ])
  refine wpAnyH_take (i := 1) (oi := ⟨some 55, _, _, _, _, none⟩) (v := ?v8) rfl (by kernel_rfl) (by kernel_rfl) (by kernel_rfl) (fun _ _ _ h => h) (Or.inl ⟨by rfl, ?hy8⟩) (by assumption) ?rest8
  case hy8 => (intro wS hSw; (try dsimp only at hSw); go_simp; (try with_reducible rfl))
  (try simp only [Act.put, List.setIfInBounds_toArray, List.set_cons_zero, List.set_cons_succ])
  refine wpAnyH_take (i := 2) (oi := ⟨some 56, _, _, _, _, none⟩) (v := ?v9) rfl (by kernel_rfl) (by kernel_rfl) (by kernel_rfl) (fun _ _ _ h => h) (Or.inl ⟨by rfl, ?hy9⟩) (by assumption) ?rest9
  case hy9 => (intro wS hSw; (try dsimp only at hSw); go_simp; (try with_reducible rfl))
  (try simp only [Act.put, List.setIfInBounds_toArray, List.set_cons_zero, List.set_cons_succ])
  refine wpAnyH_take (i := 3) (oi := ⟨some 57, _, _, _, _, none⟩) (v := ?v10) rfl (by kernel_rfl) (by kernel_rfl) (by kernel_rfl) (fun _ _ _ h => h) (Or.inl ⟨by rfl, ?hy10⟩) (by assumption) ?rest10
  case hy10 => (intro wS hSw; (try dsimp only at hSw); go_simp; (try with_reducible rfl))
  (try simp only [Act.put, List.setIfInBounds_toArray, List.set_cons_zero, List.set_cons_succ])
  refine wpAnyH_take (i := 4) (oi := ⟨some 58, _, _, _, _, none⟩) (v := ?v11) rfl (by kernel_rfl) (by kernel_rfl) (by kernel_rfl) (fun _ _ _ h => h) (Or.inl ⟨by rfl, ?hy11⟩) (by assumption) ?rest11
  case hy11 => (intro wS hSw; (try dsimp only at hSw); go_simp; (try with_reducible rfl))
  (try simp only [Act.put, List.setIfInBounds_toArray, List.set_cons_zero, List.set_cons_succ])
  refine wpAnyH_ready (rs := [5]) (by kernel_rfl) (by simp) ?_
  refine AllReadyH.cons (o := ⟨none, _, _, _, _, none⟩) rfl (fun K hK => ?_) AllReadyH.nil
  obtain ⟨p0, p1, p2, p3, p4, p5, p6, p7, p8, p9⟩ := fsB_cells JV
  obtain ⟨z0, z1, z2, z3, z4, z5, z6, z7, z8, z9⟩ := fsB_froz JV
  dsimp only at p0 p1 p2 p3 p4 p5 p6 p7 p8 p9
  obtain ⟨W5, hW5⟩ : ∃ W, W = setFsL V (g + 3) aln ali alt := ⟨_, rfl⟩
  have sW5 : Fr (One (g + 3)) V W5 := by rw [hW5]; exact setFsL_fr _ _ _ _ _
  have JW5 := setFsL_B JV ⟨aln, ali, alt⟩
  dsimp only at JW5
  rw [← hW5] at JW5
  unfold setFsL at hW5
  go_simp
  rw [← hW5]
  clear hW5 p0 p1 p2 p3 p4 p5 p6 p7 p8 p9 z0 z1 z2 z3 z4 z5 z6 z7 z8 z9
  refine hK.out _ _ (by exact ⟨sW5.atO (by omega) a4, sW5.atO (by omega) a5, sW5.atO (by omega) a6, sW5.atO (by omega) a7, sW5.atO (by omega) a8, sW5.atO (by omega) a9⟩) (fun hHeld => ?_)
  clear hK K
  (try simp only [Act.put, List.setIfInBounds_toArray, List.set_cons_zero, List.set_cons_succ])
  replace a4 := sW5.atO (by omega) a4
  replace a5 := sW5.atO (by omega) a5
  replace a6 := sW5.atO (by omega) a6
  replace a7 := sW5.atO (by omega) a7
  replace a8 := sW5.atO (by omega) a8
  replace a9 := sW5.atO (by omega) a9
  refine wpAnyH_take (i := 6) (oi := ⟨some 59, _, _, _, _, none⟩) (v := ?v12) rfl (by kernel_rfl) (by kernel_rfl) (by kernel_rfl) (fun _ _ _ h => h) (Or.inl ⟨by rfl, ?hy12⟩) (by assumption) ?rest12
  case hy12 => (intro wS hSw; (try dsimp only at hSw); go_simp; (try with_reducible rfl))
  (try simp only [Act.put, List.setIfInBounds_toArray, List.set_cons_zero, List.set_cons_succ])
  refine wpAnyH_ready (rs := [7]) (by kernel_rfl) (by simp) ?_
  refine AllReadyH.cons (o := ⟨none, _, _, _, _, none⟩) rfl (fun K hK => ?_) AllReadyH.nil
  obtain ⟨p0, p1, p2, p3, p4, p5, p6, p7, p8, p9⟩ := fsB_cells JW5
  obtain ⟨z0, z1, z2, z3, z4, z5, z6, z7, z8, z9⟩ := fsB_froz JW5
  dsimp only at p0 p1 p2 p3 p4 p5 p6 p7 p8 p9
  obtain ⟨W6, hW6⟩ : ∃ W, W = setFsH W5 (g + 3) ahn ahi aht := ⟨_, rfl⟩
  have sW6 : Fr (One (g + 3)) W5 W6 := by rw [hW6]; exact setFsH_fr _ _ _ _ _
  have JW6 := setFsH_B JW5 ⟨ahn, ahi, aht⟩
  dsimp only at JW6
  rw [← hW6] at JW6
  unfold setFsH at hW6
  go_simp
  rw [← hW6]
  clear hW6 p0 p1 p2 p3 p4 p5 p6 p7 p8 p9 z0 z1 z2 z3 z4 z5 z6 z7 z8 z9
  refine hK.out _ _ (by exact ⟨sW6.atO (by omega) a4, sW6.atO (by omega) a5, sW6.atO (by omega) a6, sW6.atO (by omega) a7, sW6.atO (by omega) a8, sW6.atO (by omega) a9⟩) (fun hHeld => ?_)
  clear hK K
  (try simp only [Act.put, List.setIfInBounds_toArray, List.set_cons_zero, List.set_cons_succ])
  replace a4 := sW6.atO (by omega) a4
  replace a5 := sW6.atO (by omega) a5
  replace a6 := sW6.atO (by omega) a6
  replace a7 := sW6.atO (by omega) a7
  replace a8 := sW6.atO (by omega) a8
  replace a9 := sW6.atO (by omega) a9
  refine wpAnyH_done (by kernel_rfl) ?_ _
  clear hHeld
  have RE : FsB W6 (g + 2) ⟨0, 0, 0, false, ⟨false, 0, []⟩, ⟨false, 0, []⟩⟩ := (RV.fr sW5 (fun k => by have : g + 2 = g + 3 := k; omega)).fr sW6 (fun k => by have : g + 2 = g + 3 := k; omega)
  have F6 := Lib.hid (F0.out.fresh ((FV.any.trans sW5).trans sW6) (fun k e => by have : k = g + 3 := e; have := HG.out; omega))
  obtain ⟨p0, p1, p2, p3, p4, p5, p6, p7, p8, p9⟩ := fsB_cells JW6
  obtain ⟨q0, q1, q2, q3, q4, q5, q6, q7, q8, q9⟩ := fsB_cells RE
  obtain ⟨z0, z1, z2, z3, z4, z5, z6, z7, z8, z9⟩ := fsB_froz RE
  dsimp only at p0 p1 p2 p3 p4 p5 p6 p7 p8 p9 q0 q1 q2 q3 q4 q5 q6 q7 q8 q9
  have HE := Lib.hid (setFs_B RE ⟨wrap64 (ac + bc), wrap64 (ah + bh), wrap64 (au + bu), true, ⟨aln, ali, alt⟩, ⟨ahn, ahi, aht⟩⟩)
  have FE := Lib.hid (F6.out.fresh (setFs_fr W6 (g + 2) ⟨wrap64 (ac + bc), wrap64 (ah + bh), wrap64 (au + bu), true, ⟨aln, ali, alt⟩, ⟨ahn, ahi, aht⟩⟩) (fun k e => by have : k = g + 2 := e; have := HG.out; omega))
  unfold setFs setFsN setFsL setFsH at HE FE
  dsimp only at HE FE
  clear JW6 RE F6 sW5 sW6 FV JV RV a4 a5 a6 a7 a8 a9
  go_wp2
  exact bodyPost_ret (v := fsV ⟨wrap64 (ac + bc), wrap64 (ah + bh), wrap64 (au + bu), true, ⟨aln, ali, alt⟩, ⟨ahn, ahi, aht⟩⟩) (ret_fs (p := 4) rfl _ _ (g + 2) ⟨wrap64 (ac + bc), wrap64 (ah + bh), wrap64 (au + bu), true, ⟨aln, ali, alt⟩, ⟨ahn, ahi, aht⟩⟩ (by rfl) HE.out) rfl ⟨by rw [hE.out]; rfl, FE.out⟩

set_option maxHeartbeats 4000000 in
theorem fjoin_c (ac ah au bc bh bu : Int) (aln ahn bln bhn : Bool) (ali ahi bli bhi : Int) (alt aht blt bht : List UInt8) (w : World) :
    Calls Try.prog 12 #[fsV ⟨ac, ah, au, true, ⟨aln, ali, alt⟩, ⟨ahn, ahi, aht⟩⟩, fsV ⟨bc, bh, bu, true, ⟨bln, bli, blt⟩, ⟨bhn, bhi, bht⟩⟩] w fun e w' => e = .returned (fsV (joinS ⟨ac, ah, au, true, ⟨aln, ali, alt⟩, ⟨ahn, ahi, aht⟩⟩ ⟨bc, bh, bu, true, ⟨bln, bli, blt⟩, ⟨bhn, bhi, bht⟩⟩)) ∧ Fr Non w w' := by
  have O1 := Lib.hid (fun W => fles_any ⟨aln, ali, alt⟩ ⟨bln, bli, blt⟩ W)
  have O2 := Lib.hid (fun W => fgrt_any ⟨ahn, ahi, aht⟩ ⟨bhn, bhi, bht⟩ W)
  have hE : joinS ⟨ac, ah, au, true, ⟨aln, ali, alt⟩, ⟨ahn, ahi, aht⟩⟩ ⟨bc, bh, bu, true, ⟨bln, bli, blt⟩, ⟨bhn, bhi, bht⟩⟩ = ⟨wrap64 (ac + bc), wrap64 (ah + bh), wrap64 (au + bu), true, lesF ⟨aln, ali, alt⟩ ⟨bln, bli, blt⟩, grtF ⟨ahn, ahi, aht⟩ ⟨bhn, bhi, bht⟩⟩ := by rw [joinS_w]; rfl
  rw [hE]
  clear hE
  obtain ⟨l, hl⟩ : ∃ l, lesF ⟨aln, ali, alt⟩ ⟨bln, bli, blt⟩ = l := ⟨_, rfl⟩
  obtain ⟨h, hh⟩ : ∃ h, grtF ⟨ahn, ahi, aht⟩ ⟨bhn, bhi, bht⟩ = h := ⟨_, rfl⟩
  rw [hl] at O1 ⊢
  rw [hh] at O2 ⊢
  clear hl hh
  obtain ⟨ln, li, lt⟩ := l
  obtain ⟨hn, hi, ht⟩ := h
  unfold clV clC at O1 O2
  dsimp only at O1 O2
  have hE := Lib.hid (rfl : (0 : Nat) = 0)
  obtain ⟨g, hg⟩ : ∃ g, w.heap.size = g := ⟨_, rfl⟩
  obtain ⟨W1, hW1⟩ : ∃ W, W = w.alloc (.cells #[.int .i64 ac, .int .i64 ah, .int .i64 au, .bool true, .bool aln, .int .i64 ali, .string ⟨alt.toArray⟩, .bool ahn, .int .i64 ahi, .string ⟨aht.toArray⟩] 28) := ⟨_, rfl⟩
  have A1 : FsB W1 g ⟨ac, ah, au, true, ⟨aln, ali, alt⟩, ⟨ahn, ahi, aht⟩⟩ := by rw [hW1]; exact fs_new w ⟨ac, ah, au, true, ⟨aln, ali, alt⟩, ⟨ahn, ahi, aht⟩⟩ g hg
  have s1 : W1.heap.size = g + 1 := by rw [hW1]; simp [hg]
  have F1 : Fr Non w W1 := by rw [hW1]; exact (Fr.refl Non w).alloc _
  obtain ⟨W2, hW2⟩ : ∃ W, W = W1.alloc (.cells #[.int .i64 bc, .int .i64 bh, .int .i64 bu, .bool true, .bool bln, .int .i64 bli, .string ⟨blt.toArray⟩, .bool bhn, .int .i64 bhi, .string ⟨bht.toArray⟩] 28) := ⟨_, rfl⟩
  have B2 : FsB W2 (g + 1) ⟨bc, bh, bu, true, ⟨bln, bli, blt⟩, ⟨bhn, bhi, bht⟩⟩ := by rw [hW2]; exact fs_new W1 ⟨bc, bh, bu, true, ⟨bln, bli, blt⟩, ⟨bhn, bhi, bht⟩⟩ _ s1
  have s2 : W2.heap.size = g + 2 := by rw [hW2]; simp [s1]
  have F2 : Fr Non W1 W2 := by rw [hW2]; exact (Fr.refl Non W1).alloc _
  obtain ⟨W3, hW3⟩ : ∃ W, W = W2.alloc (.cells #[.int .i64 0, .int .i64 0, .int .i64 0, .bool false, .bool false, .int .i64 0, .string ⟨([] : List UInt8).toArray⟩, .bool false, .int .i64 0, .string ⟨([] : List UInt8).toArray⟩] 28) := ⟨_, rfl⟩
  have R3 : FsB W3 (g + 2) ⟨0, 0, 0, false, ⟨false, 0, []⟩, ⟨false, 0, []⟩⟩ := by rw [hW3]; exact fs_new W2 ⟨0, 0, 0, false, ⟨false, 0, []⟩, ⟨false, 0, []⟩⟩ _ s2
  have s3 : W3.heap.size = g + 3 := by rw [hW3]; simp [s2]
  have F3 : Fr Non W2 W3 := by rw [hW3]; exact (Fr.refl Non W2).alloc _
  obtain ⟨W0, hW0⟩ : ∃ W, W = W3.alloc (.cells #[.int .i64 (wrap64 (ac + bc)), .int .i64 (wrap64 (ah + bh)), .int .i64 (wrap64 (au + bu)), .bool true, .bool false, .int .i64 0, .string ⟨([] : List UInt8).toArray⟩, .bool false, .int .i64 0, .string ⟨([] : List UInt8).toArray⟩] 28) := ⟨_, rfl⟩
  have JB : FsB W0 (g + 3) ⟨wrap64 (ac + bc), wrap64 (ah + bh), wrap64 (au + bu), true, ⟨false, 0, []⟩, ⟨false, 0, []⟩⟩ := by rw [hW0]; exact fs_new W3 ⟨wrap64 (ac + bc), wrap64 (ah + bh), wrap64 (au + bu), true, ⟨false, 0, []⟩, ⟨false, 0, []⟩⟩ _ s3
  have F4 : Fr Non W3 W0 := by rw [hW0]; exact (Fr.refl Non W3).alloc _
  obtain ⟨a0, a1, a2, a3, a4, a5, a6, a7, a8, a9⟩ := fsB_cells (show FsB W0 g ⟨ac, ah, au, true, ⟨aln, ali, alt⟩, ⟨ahn, ahi, aht⟩⟩ from ((A1.fr F2 (fun e => e)).fr F3 (fun e => e)).fr F4 (fun e => e))
  obtain ⟨b0, b1, b2, b3, b4, b5, b6, b7, b8, b9⟩ := fsB_cells (show FsB W0 (g + 1) ⟨bc, bh, bu, true, ⟨bln, bli, blt⟩, ⟨bhn, bhi, bht⟩⟩ from (B2.fr F3 (fun e => e)).fr F4 (fun e => e))
  dsimp only at a0 a1 a2 a3 a4 a5 a6 a7 a8 a9 b0 b1 b2 b3 b4 b5 b6 b7 b8 b9
  have RB : Hid (FsB W0 (g + 2) ⟨0, 0, 0, false, ⟨false, 0, []⟩, ⟨false, 0, []⟩⟩) := Lib.hid (R3.fr F4 (fun e => e))
  have F0 := Lib.hid (((F1.trans F2).trans F3).trans F4)
  have HG := Lib.hid hg
  replace JB := Lib.hid JB
  clear A1 B2 R3 F1 F2 F3 F4 s1 s2 s3
  subst hW1 hW2 hW3
  unfold fsV fsC
  dsimp only
  go_enter Try.func12, Try.ntmps12
  go_wp2
  rw [← hW0]
  clear hW0
  clear a0 a1 a2 a3 b0 b1 b2 b3
  obtain ⟨V, hV⟩ : ∃ V, V = W0.drew := ⟨_, rfl⟩
  refine wp_region_held_drew (S := (fun W' => W'.cell? ⟨g, 4, none⟩ = some (.bool aln) ∧ W'.cell? ⟨g, 5, none⟩ = some (.int .i64 ali) ∧ W'.cell? ⟨g, 6, none⟩ = some (.string ⟨alt.toArray⟩) ∧ W'.cell? ⟨g, 7, none⟩ = some (.bool ahn) ∧ W'.cell? ⟨g, 8, none⟩ = some (.int .i64 ahi) ∧ W'.cell? ⟨g, 9, none⟩ = some (.string ⟨aht.toArray⟩) ∧ W'.cell? ⟨(g + 1), 4, none⟩ = some (.bool bln) ∧ W'.cell? ⟨(g + 1), 5, none⟩ = some (.int .i64 bli) ∧ W'.cell? ⟨(g + 1), 6, none⟩ = some (.string ⟨blt.toArray⟩) ∧ W'.cell? ⟨(g + 1), 7, none⟩ = some (.bool bhn) ∧ W'.cell? ⟨(g + 1), 8, none⟩ = some (.int .i64 bhi) ∧ W'.cell? ⟨(g + 1), 9, none⟩ = some (.string ⟨bht.toArray⟩))) (by kernel_rfl) (by exact ⟨a4, a5, a6, a7, a8, a9, b4, b5, b6, b7, b8, b9⟩) (fun hHeld => ?_)
  rw [← hV]
  rw [← hV] at hHeld
  have FV : Fr Non W0 V := by rw [hV]; exact (Fr.refl Non W0).drew
  clear hV
  replace a4 := FV.at0 a4
  replace a5 := FV.at0 a5
  replace a6 := FV.at0 a6
  replace a7 := FV.at0 a7
  replace a8 := FV.at0 a8
  replace a9 := FV.at0 a9
  replace b4 := FV.at0 b4
  replace b5 := FV.at0 b5
  replace b6 := FV.at0 b6
  replace b7 := FV.at0 b7
  replace b8 := FV.at0 b8
  replace b9 := FV.at0 b9
  have JV : FsB V (g + 3) ⟨wrap64 (ac + bc), wrap64 (ah + bh), wrap64 (au + bu), true, ⟨false, 0, []⟩, ⟨false, 0, []⟩⟩ := JB.out.fr FV (fun e => e)
  have RV : FsB V (g + 2) ⟨0, 0, 0, false, ⟨false, 0, []⟩, ⟨false, 0, []⟩⟩ := RB.out.fr FV (fun e => e)
  refine wpAnyH_take (i := 0) (oi := ⟨some 28, _, _, _, _, none⟩) (v := ?v13) rfl (by kernel_rfl) (by kernel_rfl) (by kernel_rfl) (fun _ _ _ h => h) (Or.inl ⟨by rfl, ?hy13⟩) (by assumption) ?rest13
  case hy13 => (intro wS hSw; (try dsimp only at hSw); go_simp; (try with_reducible rfl))
  (try simp only [Act.put, List.setIfInBounds_toArray, List.set_cons_zero, List.set_cons_succ])
  refine wpAnyH_take (i := 1) (oi := ⟨some 29, _, _, _, _, none⟩) (v := ?v14) rfl (by kernel_rfl) (by kernel_rfl) (by kernel_rfl) (fun _ _ _ h => h) (Or.inl ⟨by rfl, ?hy14⟩) (by assumption) ?rest14
  case hy14 => (intro wS hSw; (try dsimp only at hSw); go_simp; (try with_reducible rfl))
  (try simp only [Act.put, List.setIfInBounds_toArray, List.set_cons_zero, List.set_cons_succ])
  refine wpAnyH_take (i := 2) (oi := ⟨some 30, _, _, _, _, none⟩) (v := ?v15) rfl (by kernel_rfl) (by kernel_rfl) (by kernel_rfl) (fun _ _ _ h => h) (Or.inl ⟨by rfl, ?hy15⟩) (by assumption) ?rest15
  case hy15 => (intro wS hSw; (try dsimp only at hSw); go_simp; (try with_reducible rfl))
  (try simp only [Act.put, List.setIfInBounds_toArray, List.set_cons_zero, List.set_cons_succ])
  refine wpAnyH_take (i := 3) (oi := ⟨some 31, _, _, _, _, none⟩) (v := ?v16) rfl (by kernel_rfl) (by kernel_rfl) (by kernel_rfl) (fun _ _ _ h => h) (Or.inl ⟨by rfl, ?hy16⟩) (by assumption) ?rest16
  case hy16 => (intro wS hSw; (try dsimp only at hSw); go_simp; (try with_reducible rfl))
  (try simp only [Act.put, List.setIfInBounds_toArray, List.set_cons_zero, List.set_cons_succ])
  refine wpAnyH_take (i := 5) (oi := ⟨some 33, _, _, _, _, none⟩) (v := ?v17) rfl (by kernel_rfl) (by kernel_rfl) (by kernel_rfl) (fun _ _ _ h => h) (Or.inl ⟨by rfl, ?hy17⟩) (by assumption) ?rest17
  case hy17 => (intro wS hSw; (try dsimp only at hSw); go_simp; (try with_reducible rfl))
  (try simp only [Act.put, List.setIfInBounds_toArray, List.set_cons_zero, List.set_cons_succ])
  refine wpAnyH_take (i := 6) (oi := ⟨some 34, _, _, _, _, none⟩) (v := ?v18) rfl (by kernel_rfl) (by kernel_rfl) (by kernel_rfl) (fun _ _ _ h => h) (Or.inl ⟨by rfl, ?hy18⟩) (by assumption) ?rest18
  case hy18 => (intro wS hSw; (try dsimp only at hSw); go_simp; (try with_reducible rfl))
  (try simp only [Act.put, List.setIfInBounds_toArray, List.set_cons_zero, List.set_cons_succ])
  refine wpAnyH_take (i := 7) (oi := ⟨some 35, _, _, _, _, none⟩) (v := ?v19) rfl (by kernel_rfl) (by kernel_rfl) (by kernel_rfl) (fun _ _ _ h => h) (Or.inl ⟨by rfl, ?hy19⟩) (by assumption) ?rest19
  case hy19 => (intro wS hSw; (try dsimp only at hSw); go_simp; (try with_reducible rfl))
  (try simp only [Act.put, List.setIfInBounds_toArray, List.set_cons_zero, List.set_cons_succ])
  refine wpAnyH_take (i := 8) (oi := ⟨some 36, _, _, _, _, none⟩) (v := ?v20) rfl (by kernel_rfl) (by kernel_rfl) (by kernel_rfl) (fun _ _ _ h => h) (Or.inl ⟨by rfl, ?hy20⟩) (by assumption) ?rest20
  case hy20 => (intro wS hSw; (try dsimp only at hSw); go_simp; (try with_reducible rfl))
  (try simp only [Act.put, List.setIfInBounds_toArray, List.set_cons_zero, List.set_cons_succ])
  refine wpAnyH_ready (rs := [4]) (by kernel_rfl) (by simp) ?_
  refine AllReadyH.cons (o := ⟨some 32, _, _, _, _, none⟩) rfl (fun K hK => ?_) AllReadyH.nil
  go_simp
  go_at_call 17
  refine (O1.out _).mono ?_
  rintro e X1 ⟨rfl, fX1⟩
  go_wp2_with fail
  refine hK.out _ _ (by exact ⟨fX1.at0 a4, fX1.at0 a5, fX1.at0 a6, fX1.at0 a7, fX1.at0 a8, fX1.at0 a9, fX1.at0 b4, fX1.at0 b5, fX1.at0 b6, fX1.at0 b7, fX1.at0 b8, fX1.at0 b9⟩) (fun hHeld => ?_)
  clear hK K
  (try simp only [Act.put, List.setIfInBounds_toArray, List.set_cons_zero, List.set_cons_succ])
  replace a4 := fX1.at0 a4
  replace a5 := fX1.at0 a5
  replace a6 := fX1.at0 a6
  replace a7 := fX1.at0 a7
  replace a8 := fX1.at0 a8
  replace a9 := fX1.at0 a9
  replace b4 := fX1.at0 b4
  replace b5 := fX1.at0 b5
  replace b6 := fX1.at0 b6
  replace b7 := fX1.at0 b7
  replace b8 := fX1.at0 b8
  replace b9 := fX1.at0 b9
  refine wpAnyH_take (i := 10) (oi := ⟨some 38, _, _, _, _, none⟩) (v := ?v21) rfl (by kernel_rfl) (by kernel_rfl) (by kernel_rfl) (fun _ _ _ h => h) (Or.inl ⟨by rfl, ?hy21⟩) (by assumption) ?rest21
  case hy21 => (intro wS hSw; (try dsimp only at hSw); go_simp; (try with_reducible rfl))
  (try simp only [Act.put, List.setIfInBounds_toArray, List.set_cons_zero, List.set_cons_succ])
  refine wpAnyH_ready (rs := [9]) (by kernel_rfl) (by simp) ?_
  refine AllReadyH.cons (o := ⟨some 37, _, _, _, _, none⟩) rfl (fun K hK => ?_) AllReadyH.nil
  go_simp
  go_at_call 18
  refine (O2.out _).mono ?_
  rintro e X2 ⟨rfl, fX2⟩
  go_wp2_with fail
  refine hK.out _ _ (by exact ⟨fX2.at0 a4, fX2.at0 a5, fX2.at0 a6, fX2.at0 a7, fX2.at0 a8, fX2.at0 a9, fX2.at0 b4, fX2.at0 b5, fX2.at0 b6, fX2.at0 b7, fX2.at0 b8, fX2.at0 b9⟩) (fun hHeld => ?_)
  clear hK K
  (try simp only [Act.put, List.setIfInBounds_toArray, List.set_cons_zero, List.set_cons_succ])
  replace a4 := fX2.at0 a4
  replace a5 := fX2.at0 a5
  replace a6 := fX2.at0 a6
  replace a7 := fX2.at0 a7
  replace a8 := fX2.at0 a8
  replace a9 := fX2.at0 a9
  replace b4 := fX2.at0 b4
  replace b5 := fX2.at0 b5
  replace b6 := fX2.at0 b6
  replace b7 := fX2.at0 b7
  replace b8 := fX2.at0 b8
  replace b9 := fX2.at0 b9
  have JX : FsB X2 (g + 3) ⟨wrap64 (ac + bc), wrap64 (ah + bh), wrap64 (au + bu), true, ⟨false, 0, []⟩, ⟨false, 0, []⟩⟩ := (JV.fr fX1 (fun e => e)).fr fX2 (fun e => e)
  replace RV : FsB X2 (g + 2) ⟨0, 0, 0, false, ⟨false, 0, []⟩, ⟨false, 0, []⟩⟩ := (RV.fr fX1 (fun e => e)).fr fX2 (fun e => e)
  replace FV := (FV.trans fX1).trans fX2
  clear JV fX1 fX2
  refine wpAnyH_ready (rs := [11]) (by kernel_rfl) (by simp) ?_
  refine AllReadyH.cons (o := ⟨none, _, _, _, _, none⟩) rfl (fun K hK => ?_) AllReadyH.nil
  obtain ⟨p0, p1, p2, p3, p4, p5, p6, p7, p8, p9⟩ := fsB_cells JX
  obtain ⟨z0, z1, z2, z3, z4, z5, z6, z7, z8, z9⟩ := fsB_froz JX
  dsimp only at p0 p1 p2 p3 p4 p5 p6 p7 p8 p9
  obtain ⟨W5, hW5⟩ : ∃ W, W = setFsL X2 (g + 3) ln li lt := ⟨_, rfl⟩
  have sW5 : Fr (One (g + 3)) X2 W5 := by rw [hW5]; exact setFsL_fr _ _ _ _ _
  have JW5 := setFsL_B JX ⟨ln, li, lt⟩
  dsimp only at JW5
  rw [← hW5] at JW5
  unfold setFsL at hW5
  go_simp
  rw [← hW5]
  clear hW5 p0 p1 p2 p3 p4 p5 p6 p7 p8 p9 z0 z1 z2 z3 z4 z5 z6 z7 z8 z9
  refine hK.out _ _ (by exact ⟨sW5.atO (by omega) a4, sW5.atO (by omega) a5, sW5.atO (by omega) a6, sW5.atO (by omega) a7, sW5.atO (by omega) a8, sW5.atO (by omega) a9, sW5.atO (by omega) b4, sW5.atO (by omega) b5, sW5.atO (by omega) b6, sW5.atO (by omega) b7, sW5.atO (by omega) b8, sW5.atO (by omega) b9⟩) (fun hHeld => ?_)
  clear hK K
  (try simp only [Act.put, List.setIfInBounds_toArray, List.set_cons_zero, List.set_cons_succ])
  replace a4 := sW5.atO (by omega) a4
  replace a5 := sW5.atO (by omega) a5
  replace a6 := sW5.atO (by omega) a6
  replace a7 := sW5.atO (by omega) a7
  replace a8 := sW5.atO (by omega) a8
  replace a9 := sW5.atO (by omega) a9
  replace b4 := sW5.atO (by omega) b4
  replace b5 := sW5.atO (by omega) b5
  replace b6 := sW5.atO (by omega) b6
  replace b7 := sW5.atO (by omega) b7
  replace b8 := sW5.atO (by omega) b8
  replace b9 := sW5.atO (by omega) b9
  refine wpAnyH_take (i := 12) (oi := ⟨some 39, _, _, _, _, none⟩) (v := ?v22) rfl (by kernel_rfl) (by kernel_rfl) (by kernel_rfl) (fun _ _ _ h => h) (Or.inl ⟨by rfl, ?hy22⟩) (by assumption) ?rest22
  case hy22 => (intro wS hSw; (try dsimp only at hSw); go_simp; (try with_reducible rfl))
  (try simp only [Act.put, List.setIfInBounds_toArray, List.set_cons_zero, List.set_cons_succ])
  refine wpAnyH_ready (rs := [13]) (by kernel_rfl) (by simp) ?_
  refine AllReadyH.cons (o := ⟨none, _, _, _, _, none⟩) rfl (fun K hK => ?_) AllReadyH.nil
  obtain ⟨p0, p1, p2, p3, p4, p5, p6, p7, p8, p9⟩ := fsB_cells JW5
  obtain ⟨z0, z1, z2, z3, z4, z5, z6, z7, z8, z9⟩ := fsB_froz JW5
  dsimp only at p0 p1 p2 p3 p4 p5 p6 p7 p8 p9
  obtain ⟨W6, hW6⟩ : ∃ W, W = setFsH W5 (g + 3) hn hi ht := ⟨_, rfl⟩
  have sW6 : Fr (One (g + 3)) W5 W6 := by rw [hW6]; exact setFsH_fr _ _ _ _ _
  have JW6 := setFsH_B JW5 ⟨hn, hi, ht⟩
  dsimp only at JW6
  rw [← hW6] at JW6
  unfold setFsH at hW6
  go_simp
  rw [← hW6]
  clear hW6 p0 p1 p2 p3 p4 p5 p6 p7 p8 p9 z0 z1 z2 z3 z4 z5 z6 z7 z8 z9
  refine hK.out _ _ (by exact ⟨sW6.atO (by omega) a4, sW6.atO (by omega) a5, sW6.atO (by omega) a6, sW6.atO (by omega) a7, sW6.atO (by omega) a8, sW6.atO (by omega) a9, sW6.atO (by omega) b4, sW6.atO (by omega) b5, sW6.atO (by omega) b6, sW6.atO (by omega) b7, sW6.atO (by omega) b8, sW6.atO (by omega) b9⟩) (fun hHeld => ?_)
  clear hK K
  (try simp only [Act.put, List.setIfInBounds_toArray, List.set_cons_zero, List.set_cons_succ])
  replace a4 := sW6.atO (by omega) a4
  replace a5 := sW6.atO (by omega) a5
  replace a6 := sW6.atO (by omega) a6
  replace a7 := sW6.atO (by omega) a7
  replace a8 := sW6.atO (by omega) a8
  replace a9 := sW6.atO (by omega) a9
  replace b4 := sW6.atO (by omega) b4
  replace b5 := sW6.atO (by omega) b5
  replace b6 := sW6.atO (by omega) b6
  replace b7 := sW6.atO (by omega) b7
  replace b8 := sW6.atO (by omega) b8
  replace b9 := sW6.atO (by omega) b9
  refine wpAnyH_done (by kernel_rfl) ?_ _
  clear hHeld
  have RE : FsB W6 (g + 2) ⟨0, 0, 0, false, ⟨false, 0, []⟩, ⟨false, 0, []⟩⟩ := (RV.fr sW5 (fun k => by have : g + 2 = g + 3 := k; omega)).fr sW6 (fun k => by have : g + 2 = g + 3 := k; omega)
  have F6 := Lib.hid (F0.out.fresh ((FV.any.trans sW5).trans sW6) (fun k e => by have : k = g + 3 := e; have := HG.out; omega))
  obtain ⟨p0, p1, p2, p3, p4, p5, p6, p7, p8, p9⟩ := fsB_cells JW6
  obtain ⟨q0, q1, q2, q3, q4, q5, q6, q7, q8, q9⟩ := fsB_cells RE
  obtain ⟨z0, z1, z2, z3, z4, z5, z6, z7, z8, z9⟩ := fsB_froz RE
  dsimp only at p0 p1 p2 p3 p4 p5 p6 p7 p8 p9 q0 q1 q2 q3 q4 q5 q6 q7 q8 q9
  have HE := Lib.hid (setFs_B RE ⟨wrap64 (ac + bc), wrap64 (ah + bh), wrap64 (au + bu), true, ⟨ln, li, lt⟩, ⟨hn, hi, ht⟩⟩)
  have FE := Lib.hid (F6.out.fresh (setFs_fr W6 (g + 2) ⟨wrap64 (ac + bc), wrap64 (ah + bh), wrap64 (au + bu), true, ⟨ln, li, lt⟩, ⟨hn, hi, ht⟩⟩) (fun k e => by have : k = g + 2 := e; have := HG.out; omega))
  unfold setFs setFsN setFsL setFsH at HE FE
  dsimp only at HE FE
  clear JW6 RE F6 sW5 sW6 FV RV JX a4 a5 a6 a7 a8 a9 b4 b5 b6 b7 b8 b9
  go_wp2
  exact bodyPost_ret (v := fsV ⟨wrap64 (ac + bc), wrap64 (ah + bh), wrap64 (au + bu), true, ⟨ln, li, lt⟩, ⟨hn, hi, ht⟩⟩) (ret_fs (p := 4) rfl _ _ (g + 2) ⟨wrap64 (ac + bc), wrap64 (ah + bh), wrap64 (au + bu), true, ⟨ln, li, lt⟩, ⟨hn, hi, ht⟩⟩ (by rfl) HE.out) rfl ⟨by rfl, FE.out⟩

theorem fjoin_any (a b : Fs) (w : World) : Calls Try.prog 12 #[fsV a, fsV b] w fun e w' => e = .returned (fsV (joinS a b)) ∧ Fr Non w w' := by
  obtain ⟨ac, ah, au, sa, ⟨aln, ali, alt⟩, ⟨ahn, ahi, aht⟩⟩ := a
  obtain ⟨bc, bh, bu, sb, ⟨bln, bli, blt⟩, ⟨bhn, bhi, bht⟩⟩ := b
  cases sa
  · exact fjoin_a ac ah au bc bh bu sb aln ahn bln bhn ali ahi bli bhi alt aht blt bht w
  · cases sb
    · exact fjoin_b ac ah au bc bh bu aln ahn bln bhn ali ahi bli bhi alt aht blt bht w
    · exact fjoin_c ac ah au bc bh bu aln ahn bln bhn ali ahi bli bhi alt aht blt bht w

set_option maxHeartbeats 4000000 in
theorem fadd_any (s : Fs) (x : Cl) (w : World) : Calls Try.prog 14 #[fsV s, clV x] w fun e w' => e = .returned (fsV (joinS s (oneS x))) ∧ Fr Non w w' := by
  have O1 := Lib.hid (fun W => fof_any x W)
  have O2 := Lib.hid (fun W => fjoin_any s (oneS x) W)
  obtain ⟨r, hr⟩ : ∃ r, joinS s (oneS x) = r := ⟨_, rfl⟩
  rw [hr] at O2 ⊢
  clear hr
  generalize oneS x = y at *
  obtain ⟨xn, xi, xt⟩ := x
  obtain ⟨ac, ah, au, sa, ⟨aln, ali, alt⟩, ⟨ahn, ahi, aht⟩⟩ := s
  obtain ⟨bc, bh, bu, sb, ⟨bln, bli, blt⟩, ⟨bhn, bhi, bht⟩⟩ := y
  obtain ⟨rc, rh, ru, sr, ⟨rln, rli, rlt⟩, ⟨rhn, rhi, rht⟩⟩ := r
  unfold clV clC at O1 ⊢
  unfold fsV fsC at O1 O2 ⊢
  dsimp only at O1 O2 ⊢
  obtain ⟨g, hg⟩ : ∃ g, w.heap.size = g := ⟨_, rfl⟩
  obtain ⟨W1, hW1⟩ : ∃ W, W = w.alloc (.cells #[.int .i64 ac, .int .i64 ah, .int .i64 au, .bool sa, .bool aln, .int .i64 ali, .string ⟨alt.toArray⟩, .bool ahn, .int .i64 ahi, .string ⟨aht.toArray⟩] 28) := ⟨_, rfl⟩
  have A1 : FsB W1 g ⟨ac, ah, au, sa, ⟨aln, ali, alt⟩, ⟨ahn, ahi, aht⟩⟩ := by rw [hW1]; exact fs_new w ⟨ac, ah, au, sa, ⟨aln, ali, alt⟩, ⟨ahn, ahi, aht⟩⟩ g hg
  have s1 : W1.heap.size = g + 1 := by rw [hW1]; simp [hg]
  have F1 : Fr Non w W1 := by rw [hW1]; exact (Fr.refl Non w).alloc _
  obtain ⟨W2, hW2⟩ : ∃ W, W = W1.alloc (.cells #[.bool xn, .int .i64 xi, .string ⟨xt.toArray⟩] 26) := ⟨_, rfl⟩
  have B2 : ClB W2 (g + 1) ⟨xn, xi, xt⟩ := by rw [hW2]; exact cl_newG W1 ⟨xn, xi, xt⟩ _ s1
  have s2 : W2.heap.size = g + 2 := by rw [hW2]; simp [s1]
  have F2 : Fr Non W1 W2 := by rw [hW2]; exact (Fr.refl Non W1).alloc _
  obtain ⟨W0, hW0⟩ : ∃ W, W = W2.alloc (.cells #[.int .i64 0, .int .i64 0, .int .i64 0, .bool false, .bool false, .int .i64 0, .string ⟨([] : List UInt8).toArray⟩, .bool false, .int .i64 0, .string ⟨([] : List UInt8).toArray⟩] 28) := ⟨_, rfl⟩
  have R3 : FsB W0 (g + 2) ⟨0, 0, 0, false, ⟨false, 0, []⟩, ⟨false, 0, []⟩⟩ := by rw [hW0]; exact fs_new W2 ⟨0, 0, 0, false, ⟨false, 0, []⟩, ⟨false, 0, []⟩⟩ _ s2
  have F3 : Fr Non W2 W0 := by rw [hW0]; exact (Fr.refl Non W2).alloc _
  obtain ⟨a0, a1, a2, a3, a4, a5, a6, a7, a8, a9⟩ := fsB_cells (show FsB W0 g ⟨ac, ah, au, sa, ⟨aln, ali, alt⟩, ⟨ahn, ahi, aht⟩⟩ from (A1.fr F2 (fun e => e)).fr F3 (fun e => e))
  obtain ⟨b0, b1, b2, -, -, -⟩ := ClB.facts (c := ⟨xn, xi, xt⟩) (B2.fr F3 (fun e => e))
  dsimp only at a0 a1 a2 a3 a4 a5 a6 a7 a8 a9 b0 b1 b2
  have RB := Lib.hid R3
  have F0 := Lib.hid ((F1.trans F2).trans F3)
  have HG := Lib.hid hg
  clear A1 B2 R3 F1 F2 F3 s1 s2
  subst hW1 hW2
  go_enter Try.func14, Try.ntmps14
  go_wp2
  rw [← hW0]
  clear hW0
  obtain ⟨V, hV⟩ : ∃ V, V = W0.drew := ⟨_, rfl⟩
  refine wp_region_held_drew (S := (fun W' => W'.cell? ⟨g, 0, none⟩ = some (.int .i64 ac) ∧ W'.cell? ⟨g, 1, none⟩ = some (.int .i64 ah) ∧ W'.cell? ⟨g, 2, none⟩ = some (.int .i64 au) ∧ W'.cell? ⟨g, 3, none⟩ = some (.bool sa) ∧ W'.cell? ⟨g, 4, none⟩ = some (.bool aln) ∧ W'.cell? ⟨g, 5, none⟩ = some (.int .i64 ali) ∧ W'.cell? ⟨g, 6, none⟩ = some (.string ⟨alt.toArray⟩) ∧ W'.cell? ⟨g, 7, none⟩ = some (.bool ahn) ∧ W'.cell? ⟨g, 8, none⟩ = some (.int .i64 ahi) ∧ W'.cell? ⟨g, 9, none⟩ = some (.string ⟨aht.toArray⟩) ∧ W'.cell? ⟨(g + 1), 0, none⟩ = some (.bool xn) ∧ W'.cell? ⟨(g + 1), 1, none⟩ = some (.int .i64 xi) ∧ W'.cell? ⟨(g + 1), 2, none⟩ = some (.string ⟨xt.toArray⟩))) (by kernel_rfl) (by exact ⟨a0, a1, a2, a3, a4, a5, a6, a7, a8, a9, b0, b1, b2⟩) (fun hHeld => ?_)
  rw [← hV]
  rw [← hV] at hHeld
  have FV : Fr Non W0 V := by rw [hV]; exact (Fr.refl Non W0).drew
  clear hV
  replace a0 := FV.at0 a0
  replace a1 := FV.at0 a1
  replace a2 := FV.at0 a2
  replace a3 := FV.at0 a3
  replace a4 := FV.at0 a4
  replace a5 := FV.at0 a5
  replace a6 := FV.at0 a6
  replace a7 := FV.at0 a7
  replace a8 := FV.at0 a8
  replace a9 := FV.at0 a9
  replace b0 := FV.at0 b0
  replace b1 := FV.at0 b1
  replace b2 := FV.at0 b2
  refine wpAnyH_take (i := 0) (oi := ⟨some 5, _, _, _, _, none⟩) (v := ?v23) rfl (by kernel_rfl) (by kernel_rfl) (by kernel_rfl) (fun _ _ _ h => h) (Or.inl ⟨by rfl, ?hy23⟩) (by assumption) ?rest23
  case hy23 => (intro wS hSw; (try dsimp only at hSw); go_simp; (try with_reducible rfl))
  (try simp only [Act.put, List.setIfInBounds_toArray, List.set_cons_zero, List.set_cons_succ])
  refine wpAnyH_take (i := 1) (oi := ⟨some 6, _, _, _, _, none⟩) (v := ?v24) rfl (by kernel_rfl) (by kernel_rfl) (by kernel_rfl) (fun _ _ _ h => h) (Or.inl ⟨by rfl, ?hy24⟩) (by assumption) ?rest24
  case hy24 => (intro wS hSw; (try dsimp only at hSw); go_simp; (try with_reducible rfl))
  (try simp only [Act.put, List.setIfInBounds_toArray, List.set_cons_zero, List.set_cons_succ])
  refine wpAnyH_ready (rs := [2]) (by kernel_rfl) (by simp) ?_
  refine AllReadyH.cons (o := ⟨some 7, _, _, _, _, none⟩) rfl (fun K hK => ?_) AllReadyH.nil
  go_simp
  go_at_call 19
  refine (O1.out _).mono ?_
  rintro e X1 ⟨rfl, fX1⟩
  go_wp2_with fail
  refine hK.out _ _ (by exact ⟨fX1.at0 a0, fX1.at0 a1, fX1.at0 a2, fX1.at0 a3, fX1.at0 a4, fX1.at0 a5, fX1.at0 a6, fX1.at0 a7, fX1.at0 a8, fX1.at0 a9, fX1.at0 b0, fX1.at0 b1, fX1.at0 b2⟩) (fun hHeld => ?_)
  clear hK K
  (try simp only [Act.put, List.setIfInBounds_toArray, List.set_cons_zero, List.set_cons_succ])
  replace a0 := fX1.at0 a0
  replace a1 := fX1.at0 a1
  replace a2 := fX1.at0 a2
  replace a3 := fX1.at0 a3
  replace a4 := fX1.at0 a4
  replace a5 := fX1.at0 a5
  replace a6 := fX1.at0 a6
  replace a7 := fX1.at0 a7
  replace a8 := fX1.at0 a8
  replace a9 := fX1.at0 a9
  replace b0 := fX1.at0 b0
  replace b1 := fX1.at0 b1
  replace b2 := fX1.at0 b2
  refine wpAnyH_ready (rs := [3]) (by kernel_rfl) (by simp) ?_
  refine AllReadyH.cons (o := ⟨some 8, _, _, _, _, none⟩) rfl (fun K hK => ?_) AllReadyH.nil
  go_simp
  go_at_call 12
  refine (O2.out _).mono ?_
  rintro e X2 ⟨rfl, fX2⟩
  go_wp2_with fail
  refine hK.out _ _ (by exact ⟨fX2.at0 a0, fX2.at0 a1, fX2.at0 a2, fX2.at0 a3, fX2.at0 a4, fX2.at0 a5, fX2.at0 a6, fX2.at0 a7, fX2.at0 a8, fX2.at0 a9, fX2.at0 b0, fX2.at0 b1, fX2.at0 b2⟩) (fun hHeld => ?_)
  clear hK K
  (try simp only [Act.put, List.setIfInBounds_toArray, List.set_cons_zero, List.set_cons_succ])
  replace a0 := fX2.at0 a0
  replace a1 := fX2.at0 a1
  replace a2 := fX2.at0 a2
  replace a3 := fX2.at0 a3
  replace a4 := fX2.at0 a4
  replace a5 := fX2.at0 a5
  replace a6 := fX2.at0 a6
  replace a7 := fX2.at0 a7
  replace a8 := fX2.at0 a8
  replace a9 := fX2.at0 a9
  replace b0 := fX2.at0 b0
  replace b1 := fX2.at0 b1
  replace b2 := fX2.at0 b2
  have RV : FsB X2 (g + 2) ⟨0, 0, 0, false, ⟨false, 0, []⟩, ⟨false, 0, []⟩⟩ := ((RB.out.fr FV (fun e => e)).fr fX1 (fun e => e)).fr fX2 (fun e => e)
  refine wpAnyH_ready (rs := [4]) (by kernel_rfl) (by simp) ?_
  refine AllReadyH.cons (o := ⟨none, _, _, _, _, none⟩) rfl (fun K hK => ?_) AllReadyH.nil
  obtain ⟨p0, p1, p2, p3, p4, p5, p6, p7, p8, p9⟩ := fsB_cells RV
  obtain ⟨z0, z1, z2, z3, z4, z5, z6, z7, z8, z9⟩ := fsB_froz RV
  dsimp only at p0 p1 p2 p3 p4 p5 p6 p7 p8 p9
  obtain ⟨W6, hW6⟩ : ∃ W, W = setFs X2 (g + 2) ⟨rc, rh, ru, sr, ⟨rln, rli, rlt⟩, ⟨rhn, rhi, rht⟩⟩ := ⟨_, rfl⟩
  have s6 : Fr (One (g + 2)) X2 W6 := by rw [hW6]; exact setFs_fr _ _ _
  have J6 := setFs_B RV ⟨rc, rh, ru, sr, ⟨rln, rli, rlt⟩, ⟨rhn, rhi, rht⟩⟩
  rw [← hW6] at J6
  unfold setFs setFsN setFsL setFsH at hW6
  dsimp only at hW6
  go_simp
  rw [← hW6]
  clear hW6 p0 p1 p2 p3 p4 p5 p6 p7 p8 p9 z0 z1 z2 z3 z4 z5 z6 z7 z8 z9
  refine hK.out _ _ (by exact ⟨s6.atO (by omega) a0, s6.atO (by omega) a1, s6.atO (by omega) a2, s6.atO (by omega) a3, s6.atO (by omega) a4, s6.atO (by omega) a5, s6.atO (by omega) a6, s6.atO (by omega) a7, s6.atO (by omega) a8, s6.atO (by omega) a9, s6.atO (by omega) b0, s6.atO (by omega) b1, s6.atO (by omega) b2⟩) (fun hHeld => ?_)
  clear hK K
  (try simp only [Act.put, List.setIfInBounds_toArray, List.set_cons_zero, List.set_cons_succ])
  refine wpAnyH_done (by kernel_rfl) ?_ _
  have FE := Lib.hid (F0.out.fresh (((FV.trans fX1).trans fX2).any.trans s6) (fun k e => by have : k = g + 2 := e; have := HG.out; omega))
  replace J6 := Lib.hid J6
  clear hHeld FV fX1 fX2 s6 RV a0 a1 a2 a3 a4 a5 a6 a7 a8 a9 b0 b1 b2
  go_wp2
  exact bodyPost_ret (v := fsV ⟨rc, rh, ru, sr, ⟨rln, rli, rlt⟩, ⟨rhn, rhi, rht⟩⟩) (ret_fs (p := 4) rfl _ _ (g + 2) ⟨rc, rh, ru, sr, ⟨rln, rli, rlt⟩, ⟨rhn, rhi, rht⟩⟩ (by rfl) J6.out) rfl ⟨rfl, FE.out⟩
end Go.Proofs.Ytincapmagennmaa


namespace Go.Proofs.Ytincapmagennmaa
set_option linter.unusedVariables false
set_option linter.unusedSimpArgs false
set_option maxRecDepth 100000
open Go.RowKit

/-- a slice of slices of bytes that the call owns, row and all -/
def Owns (w : World) (B : Nat) (v : Value) (ls : List (List UInt8)) : Prop :=
  ∃ vs : List Value, w.ownsRow B 36 1 v vs.length vs ∧ vs.length = ls.length ∧ ∀ (i : Nat) (u : Value) (l : List UInt8), vs[i]? = some u → ls[i]? = some l → Own w B u l

theorem Own.kind {w : World} {B : Nat} {u : Value} {l : List UInt8} (h : Own w B u l) : ∀ k, u.ownBlock = some k → ∃ cur, w.heap[k]? = some (.cells cur 5 (0, 0)) := by
  intro k hk
  rcases h.2 with ⟨rfl, _⟩ | ⟨g, cap, cur, rfl, _, hg, _⟩
  · cases hk
  · obtain rfl : g = k := by simpa [Value.ownBlock] using hk
    exact ⟨cur, hg⟩
theorem row_kind {w : World} {B : Nat} {E : TypeId} {n : Nat} {v : Value} {xs : List Value} (h : w.ownsRow B E 1 v n xs) : ∀ k, v.ownBlock = some k → ∃ cur, w.heap[k]? = some (.cells cur E (0, 0)) := by
  intro k hk
  rcases h.2 with ⟨rfl, _⟩ | ⟨g, cap, cur, rfl, _, hg, _⟩
  · cases hk
  · obtain rfl : g = k := by simpa [Value.ownBlock] using hk
    exact ⟨cur, hg⟩
theorem row_keep {w w' : World} {B : Nat} {E : TypeId} {n : Nat} {v : Value} {xs : List Value} (h : w.ownsRow B E 1 v n xs) (hk : ∀ k, v.ownBlock = some k → w'.heap[k]? = w.heap[k]?) : w'.ownsRow B E 1 v n xs := by
  refine ⟨h.1, ?_⟩
  rcases h.2 with h2 | ⟨g, cap, cur, hv, hb, hg, r⟩
  · exact .inl h2
  · exact .inr ⟨g, cap, cur, hv, hb, by rw [hk g (by rw [hv]; rfl)]; exact hg, r⟩
theorem row_lt {w : World} {B : Nat} {E : TypeId} {n : Nat} {v : Value} {xs : List Value} (h : w.ownsRow B E 1 v n xs) : ∀ k, v.ownBlock = some k → B ≤ k ∧ k < w.heap.size := World.ownsRow.lt h
theorem row_mono {w : World} {B B' : Nat} {E : TypeId} {n : Nat} {v : Value} {xs : List Value} (h : w.ownsRow B E 1 v n xs) (hB : B' ≤ B) : w.ownsRow B' E 1 v n xs := by
  refine ⟨h.1, ?_⟩
  rcases h.2 with h2 | ⟨g, cap, cur, hv, hb, r⟩
  · exact .inl h2
  · exact .inr ⟨g, cap, cur, hv, by omega, r⟩

theorem Owns.lt {w : World} {B : Nat} {v : Value} {ls : List (List UInt8)} (h : Owns w B v ls) : ∀ k, v.ownBlock = some k → B ≤ k ∧ k < w.heap.size := by
  obtain ⟨vs, h1, _⟩ := h; exact row_lt h1
/-- it stays where the blocks that turn are no rows of slices and no bytes -/
theorem Owns.keep {w w' : World} {B : Nat} {v : Value} {ls : List (List UInt8)} (h : Owns w B v ls)
    (hk : ∀ k cur, (w.heap[k]? = some (.cells cur 36 (0, 0)) ∨ w.heap[k]? = some (.cells cur 5 (0, 0))) → B ≤ k → w'.heap[k]? = w.heap[k]?) : Owns w' B v ls := by
  obtain ⟨vs, h1, h2, h3⟩ := h
  refine ⟨vs, row_keep h1 fun k e => ?_, h2, fun i u l hu hl => (h3 i u l hu hl).keep fun k e => ?_⟩
  · obtain ⟨cur, hc⟩ := row_kind h1 k e
    exact hk k cur (.inl hc) (row_lt h1 k e).1
  · obtain ⟨cur, hc⟩ := (h3 i u l hu hl).kind k e
    exact hk k cur (.inr hc) ((h3 i u l hu hl).lt k e).1
theorem Owns.fr {S : Nat → Prop} {w w' : World} {B : Nat} {v : Value} {ls : List (List UInt8)} (h : Owns w B v ls) (hf : Fr S w w')
    (hS : ∀ k cur, S k → w.heap[k]? ≠ some (.cells cur 36 (0, 0)) ∧ w.heap[k]? ≠ some (.cells cur 5 (0, 0))) : Owns w' B v ls :=
  h.keep fun k cur hc _ => hf.block k (by rcases hc with e | e <;> exact (Array.getElem?_eq_some_iff.1 e).1) fun e => by
    rcases hc with h1 | h1
    · exact (hS k cur e).1 h1
    · exact (hS k cur e).2 h1
theorem Owns.non {w w' : World} {B : Nat} {v : Value} {ls : List (List UInt8)} (h : Owns w B v ls) (hf : Fr Non w w') : Owns w' B v ls := h.fr hf fun k cur e => e.elim
theorem Owns.mono {w : World} {B B' : Nat} {v : Value} {ls : List (List UInt8)} (h : Owns w B v ls) (hB : B' ≤ B) : Owns w B' v ls := by
  obtain ⟨vs, h1, h2, h3⟩ := h
  exact ⟨vs, row_mono h1 hB, h2, fun i u l hu hl => (h3 i u l hu hl).mono hB⟩
theorem Owns.bss {w : World} {B : Nat} {v : Value} {ls : List (List UInt8)} (h : Owns w B v ls) : Bss w v ls := by
  obtain ⟨vs, h1, h2, h3⟩ := h
  rcases h1.2 with ⟨rfl, h0⟩ | ⟨g, cap, cur, rfl, _, _, hle, _, _, _⟩
  · have hl : ls = [] := List.eq_nil_of_length_eq_zero (by omega)
    subst hl
    exact ⟨none, 0, rfl, Nat.le_refl _, fun _ => rfl, fun _ h => by cases h⟩
  · refine ⟨_, cap, by rw [h2], by omega, (fun h => by cases h), fun a ha j hj => ?_⟩
    cases ha
    have hj' : j < vs.length := by omega
    exact ⟨vs[j], World.ownsRow.cells h1 (g := g) rfl j _ (by simp [hj']), (h3 j vs[j] ls[j] (by simp [hj']) (by simp [hj])).bs⟩
theorem Owns.shape {w : World} {B : Nat} {v : Value} {ls : List (List UInt8)} (h : Owns w B v ls) : ∃ A c, v = .slice A ls.length c := by
  obtain ⟨A, c, rfl, _⟩ := h.bss; exact ⟨A, c, rfl⟩
/-! ### Whole numbers in a row of the call's own -/
def iv (n : Int) : Value := .int .i64 n
def OwnI (w : World) (B : Nat) (v : Value) (l : List Int) : Prop := w.ownsRow B 3 1 v (l.map iv).length (l.map iv)
theorem OwnI.non {w w' : World} {B : Nat} {v : Value} {l : List Int} (h : OwnI w B v l) (hf : Fr Non w w') : OwnI w' B v l := row_keep h fun k hk => hf.block k (row_lt h k hk).2 fun e => e
theorem OwnI.fr {S : Nat → Prop} {w w' : World} {B : Nat} {v : Value} {l : List Int} (h : OwnI w B v l) (hf : Fr S w w') (hn : ∀ k, v.ownBlock = some k → ¬ S k) : OwnI w' B v l := row_keep h fun k hk => hf.block k (row_lt h k hk).2 (hn k hk)
theorem OwnI.cell {w : World} {B : Nat} {v : Value} {l : List Int} (h : OwnI w B v l) {g n c : Nat} (hv : v = .slice (some ⟨g, 0, none⟩) n c) (j : Nat) (hj : j < l.length) : w.cell? ⟨g, j, none⟩ = some (.int .i64 l[j]) := by
  subst hv
  have := World.ownsRow.cells h (g := g) rfl j (iv l[j]) (by simp [hj])
  rwa [Addr.add_lit, Nat.zero_add] at this
end Go.Proofs.Ytincapmagennmaa


namespace Go.Proofs.Ytincapmagennmaa
set_option linter.unusedVariables false
set_option linter.unusedSimpArgs false
set_option maxRecDepth 100000
open Go.RowKit

/-- the slice v reads as the list l, each element's cell being f of it -/
def Vs {α : Type} (f : α → Value) (w : World) (v : Value) (l : List α) : Prop :=
  ∃ A c, v = .slice A l.length c ∧ l.length ≤ c ∧ (A = none → c = 0) ∧ ∀ a, A = some a → ∀ j (h : j < l.length), w.cell? (a.add j) = some (f l[j])
/-- a row of the call's own, from block B on, of elements of type E -/
def Ow {α : Type} (f : α → Value) (E : TypeId) (w : World) (B : Nat) (v : Value) (l : List α) : Prop := w.ownsRow B E 1 v l.length (l.map f)

section
variable {α : Type} {f : α → Value}

theorem Vs.nil_ (w : World) : Vs f w (.slice none 0 0) [] := ⟨none, 0, rfl, Nat.le_refl _, fun _ => rfl, fun _ h => by cases h⟩
theorem Vs.keep {w w' : World} {v : Value} {l : List α} (h : Vs f w v l) (hk : ∀ k, v.ownBlock = some k → k < w.heap.size → w'.heap[k]? = w.heap[k]?) : Vs f w' v l := by
  obtain ⟨A, c, rfl, h1, h2, h3⟩ := h
  refine ⟨A, c, rfl, h1, h2, fun a ha j hj => ?_⟩
  have := h3 a ha j hj
  subst ha
  have hb := World.block_lt_of_cell? w _ this
  rw [add_block] at hb
  rw [← this]
  exact World.cell?_of_block (by rw [add_block]; exact hk _ rfl hb)
theorem Vs.fr {S : Nat → Prop} {w w' : World} {v : Value} {l : List α} (h : Vs f w v l) (hf : Fr S w w') (hn : ∀ k, v.ownBlock = some k → ¬ S k) : Vs f w' v l :=
  h.keep fun k hk hlt => hf.block k hlt (hn k hk)
theorem Vs.non {w w' : World} {v : Value} {l : List α} (h : Vs f w v l) (hf : Fr Non w w') : Vs f w' v l := h.fr hf fun _ _ e => e
theorem Vs.drew {w : World} {v : Value} {l : List α} (h : Vs f w v l) : Vs f w.drew v l := h
theorem Vs.shape {w : World} {v : Value} {l : List α} (h : Vs f w v l) : ∃ A c, v = .slice A l.length c := by
  obtain ⟨A, c, rfl, _⟩ := h; exact ⟨A, c, rfl⟩
/-- its address, where it has an element -/
theorem Vs.addr {w : World} {A : Option Addr} {n c : Nat} {l : List α} (h : Vs f w (.slice A n c) l) (hl : 0 < n) : ∃ a, A = some a ∧ n = l.length ∧ n ≤ c ∧ ∀ j (h : j < l.length), w.cell? (a.add j) = some (f l[j]) := by
  obtain ⟨A0, c0, he, h1, h2, h3⟩ := h
  simp only [Value.slice.injEq] at he
  obtain ⟨rfl, rfl, rfl⟩ := he
  cases A with
  | none => have := h2 rfl; omega
  | some a => exact ⟨a, rfl, rfl, h1, h3 a rfl⟩
variable {E : TypeId}
theorem Ow.lt {w : World} {B : Nat} {v : Value} {l : List α} (h : Ow f E w B v l) : ∀ k, v.ownBlock = some k → B ≤ k ∧ k < w.heap.size := World.ownsRow.lt h
theorem Ow.vs {w : World} {B : Nat} {v : Value} {l : List α} (h : Ow f E w B v l) : Vs f w v l := by
  rcases h.2 with ⟨rfl, h0⟩ | ⟨g, cap, cur, rfl, _, _, hle, _, _, _⟩
  · have hl : l = [] := List.eq_nil_of_length_eq_zero h0
    subst hl; exact Vs.nil_ w
  · refine ⟨_, cap, rfl, hle, (fun h => by cases h), fun a ha j hj => ?_⟩
    cases ha
    exact World.ownsRow.cells h (g := g) rfl j _ (by simp [hj])
theorem Ow.shape {w : World} {B : Nat} {v : Value} {l : List α} (h : Ow f E w B v l) : ∃ A c, v = .slice A l.length c := h.vs.shape
theorem Ow.keep {w w' : World} {B : Nat} {v : Value} {l : List α} (h : Ow f E w B v l) (hk : ∀ k, v.ownBlock = some k → w'.heap[k]? = w.heap[k]?) : Ow f E w' B v l := row_keep h hk
theorem Ow.fr {S : Nat → Prop} {w w' : World} {B : Nat} {v : Value} {l : List α} (h : Ow f E w B v l) (hf : Fr S w w') (hn : ∀ k, v.ownBlock = some k → ¬ S k) : Ow f E w' B v l :=
  h.keep fun k hk => hf.block k (h.lt k hk).2 (hn k hk)
theorem Ow.non {w w' : World} {B : Nat} {v : Value} {l : List α} (h : Ow f E w B v l) (hf : Fr Non w w') : Ow f E w' B v l := h.fr hf fun _ _ e => e
theorem Ow.alloc {w : World} {B : Nat} {v : Value} {l : List α} (h : Ow f E w B v l) (o : Obj) : Ow f E (w.alloc o) B v l := h.non ((Fr.refl _ _).alloc o)
theorem Ow.drew {w : World} {B : Nat} {v : Value} {l : List α} (h : Ow f E w B v l) : Ow f E w.drew B v l := h
theorem Ow.mono {w : World} {B B' : Nat} {v : Value} {l : List α} (h : Ow f E w B v l) (hB : B' ≤ B) : Ow f E w B' v l := row_mono h hB
theorem Ow.kind {w : World} {B : Nat} {v : Value} {l : List α} (h : Ow f E w B v l) : ∀ k, v.ownBlock = some k → ∃ cur, w.heap[k]? = some (.cells cur E (0, 0)) := row_kind h
/-- where it has an element, it stands at a row's head -/
theorem Ow.row {w : World} {B : Nat} {v : Value} {l : List α} (h : Ow f E w B v l) (hn : 0 < l.length) : ∃ g cap, v = .slice (some ⟨g, 0, none⟩) l.length cap ∧ B ≤ g ∧ g < w.heap.size ∧ l.length ≤ cap ∧ cap ≤ maxLen := by
  rcases h.2 with ⟨rfl, h0⟩ | ⟨g, cap, cur, rfl, hb, hg, hle, hm, _⟩
  · omega
  · exact ⟨g, cap, rfl, hb, (Array.getElem?_eq_some_iff.1 hg).1, hle, hm⟩
theorem Ow.cell {w : World} {B g n cap : Nat} {l : List α} (h : Ow f E w B (.slice (some ⟨g, 0, none⟩) n cap) l) (hn : n = l.length) (j : Nat) (x : α) (hb : l[j]? = some x) : w.cell? ⟨g, j, none⟩ = some (f x) := by
  subst hn
  have hj : j < l.length := (List.getElem?_eq_some_iff.1 hb).1
  rw [World.ownsRow.cellAt h j (by omega), List.getElem?_map, hb]; rfl
theorem Ow.frozen {w : World} {B g n cap : Nat} {l : List α} (h : Ow f E w B (.slice (some ⟨g, 0, none⟩) n cap) l) (hn : n = l.length) (j : Nat) : w.frozen? ⟨g, j, none⟩ = false := by
  subst hn; exact World.ownsRow.frozenAt h j
/-! ### Steps -/
variable {T : TypeId} {z : Value} {by_ : Nat}
/-! ### Pieces -/
end

/-! ### Truths, whole numbers, bytes -/
theorem Bs.vs {w : World} {v : Value} {l : List UInt8} (h : Bs w v l) : Vs bv w v l := h
theorem Vs.bs {w : World} {v : Value} {l : List UInt8} (h : Vs bv w v l) : Bs w v l := h
theorem Ow.own {w : World} {B : Nat} {v : Value} {l : List UInt8} (h : Ow bv 5 w B v l) : Own w B v l := h

end Go.Proofs.Ytincapmagennmaa


namespace Go.Proofs.Ytincapmagennmaa
set_option linter.unusedVariables false
set_option linter.unusedSimpArgs false
set_option maxRecDepth 100000
open Go.RowKit

/-- a cell's three values, and those of many -/
def clL (c : Cl) : List Value := [.bool c.null, .int .i64 c.num, .string ⟨c.txt.toArray⟩]
def clsL (l : List Cl) : List Value := l.flatMap clL
theorem clsL_cons (c : Cl) (l : List Cl) : clsL (c :: l) = clL c ++ clsL l := by simp [clsL]
theorem clsL_app (l m : List Cl) : clsL (l ++ m) = clsL l ++ clsL m := by simp [clsL]
theorem clsL_one (c : Cl) : clsL [c] = clL c := by simp [clsL]
theorem clsL_len (l : List Cl) : (clsL l).length = l.length * 3 := by
  induction l with
  | nil => rfl
  | cons c l ih => rw [clsL_cons, List.length_append, ih, List.length_cons]; simp [clL]; omega
theorem clsL_at (l : List Cl) (j : Nat) (i : Nat) (hj : j < l.length) (hi : i < 3) : (clsL l)[j * 3 + i]? = (clL l[j])[i]? := by
  induction l generalizing j with
  | nil => cases hj
  | cons c l ih =>
    rw [clsL_cons]
    cases j with
    | zero => rw [List.getElem?_append_left (by simp [clL]; omega)]; simp
    | succ j =>
      rw [List.getElem?_append_right (by simp [clL]; omega)]
      rw [show (j + 1) * 3 + i - (clL c).length = j * 3 + i by simp [clL]; omega]
      exact ih j (by simpa using hj)
theorem clsL_one' (l : List Cl) : ∀ u ∈ clsL l, u.oneCell' = true := by
  intro u hu
  obtain ⟨c, _, hc⟩ := List.mem_flatMap.1 hu
  simp [clL] at hc
  rcases hc with rfl | rfl | rfl <;> rfl
/-- three cells, one behind the other, that hold c -/
structure At3 (w : World) (a : Addr) (c : Cl) : Prop where
  c0 : w.cell? a = some (.bool c.null)
  c1 : w.cell? (a.add 1) = some (.int .i64 c.num)
  c2 : w.cell? (a.add 2) = some (.string ⟨c.txt.toArray⟩)

/-- the slice v reads as the cells l -/
def Cs (w : World) (v : Value) (l : List Cl) : Prop :=
  ∃ A c, v = .slice A l.length c ∧ l.length ≤ c ∧ (A = none → c = 0) ∧ ∀ a, A = some a → ∀ j (h : j < l.length), At3 w (a.add (j * 3)) l[j]
/-- a row of the call's own, from block B on -/
def Oc (w : World) (B : Nat) (v : Value) (l : List Cl) : Prop := w.ownsRow B 26 3 v l.length (clsL l)

theorem At3.keep {w w' : World} {a : Addr} {c : Cl} (h : At3 w a c) (hk : w'.heap[a.block]? = w.heap[a.block]?) : At3 w' a c := by
  obtain ⟨h0, h1, h2⟩ := h
  exact ⟨by rw [← h0]; exact World.cell?_of_block hk, by rw [← h1]; exact World.cell?_of_block (by rw [add_block]; exact hk), by rw [← h2]; exact World.cell?_of_block (by rw [add_block]; exact hk)⟩

theorem Cs.nil_ (w : World) : Cs w (.slice none 0 0) [] := ⟨none, 0, rfl, Nat.le_refl _, fun _ => rfl, fun _ h => by cases h⟩
theorem Cs.keep {w w' : World} {v : Value} {l : List Cl} (h : Cs w v l) (hk : ∀ k, v.ownBlock = some k → k < w.heap.size → w'.heap[k]? = w.heap[k]?) : Cs w' v l := by
  obtain ⟨A, c, rfl, h1, h2, h3⟩ := h
  refine ⟨A, c, rfl, h1, h2, fun a ha j hj => ?_⟩
  have := h3 a ha j hj
  subst ha
  have hb := World.block_lt_of_cell? w _ this.c0
  refine this.keep ?_
  rw [add_block] at hb ⊢
  exact hk _ rfl hb
theorem Cs.fr {S : Nat → Prop} {w w' : World} {v : Value} {l : List Cl} (h : Cs w v l) (hf : Fr S w w') (hn : ∀ k, v.ownBlock = some k → ¬ S k) : Cs w' v l :=
  h.keep fun k hk hlt => hf.block k hlt (hn k hk)
theorem Cs.non {w w' : World} {v : Value} {l : List Cl} (h : Cs w v l) (hf : Fr Non w w') : Cs w' v l := h.fr hf fun _ _ e => e
theorem Cs.drew {w : World} {v : Value} {l : List Cl} (h : Cs w v l) : Cs w.drew v l := h.keep fun _ _ _ => rfl
theorem Cs.shape {w : World} {v : Value} {l : List Cl} (h : Cs w v l) : ∃ A c, v = .slice A l.length c := by
  obtain ⟨A, c, rfl, _⟩ := h; exact ⟨A, c, rfl⟩
theorem Cs.addr {w : World} {A : Option Addr} {n c : Nat} {l : List Cl} (h : Cs w (.slice A n c) l) (hl : 0 < n) : ∃ a, A = some a ∧ n = l.length ∧ n ≤ c ∧ ∀ j (h : j < l.length), At3 w (a.add (j * 3)) l[j] := by
  obtain ⟨A0, c0, he, h1, h2, h3⟩ := h
  simp only [Value.slice.injEq] at he
  obtain ⟨rfl, rfl, rfl⟩ := he
  cases A with
  | none => have := h2 rfl; omega
  | some a => exact ⟨a, rfl, rfl, h1, h3 a rfl⟩
theorem Fr.at3 {w w' : World} {a : Addr} {c : Cl} (hf : Fr Non w w') (h : At3 w a c) : At3 w' a c :=
  h.keep (hf.block _ (World.block_lt_of_cell? w _ h.c0) (fun e => e))
/-- as a walk spells them -/
theorem At3.lit {w : World} {a : Addr} {c : Cl} (h : At3 w a c) : w.cell? a = some (.bool c.null) ∧ w.cell? { block := a.block, off := a.off + 1 } = some (.int .i64 c.num) ∧ w.cell? { block := a.block, off := a.off + 2 } = some (.string ⟨c.txt.toArray⟩) := ⟨h.c0, h.c1, h.c2⟩
theorem Oc.lt {w : World} {B : Nat} {v : Value} {l : List Cl} (h : Oc w B v l) : ∀ k, v.ownBlock = some k → B ≤ k ∧ k < w.heap.size := World.ownsRow.lt h
theorem Oc.cs {w : World} {B : Nat} {v : Value} {l : List Cl} (h : Oc w B v l) : Cs w v l := by
  rcases h.2 with ⟨rfl, h0⟩ | ⟨g, cap, cur, rfl, _, _, hle, _, _, _⟩
  · have hl : l = [] := List.eq_nil_of_length_eq_zero h0
    subst hl; exact Cs.nil_ w
  · refine ⟨_, cap, rfl, hle, (fun h => by cases h), fun a ha j hj => ?_⟩
    cases ha
    have H := fun i hi => World.ownsRow.cells h (g := g) rfl (j * 3 + i) _ ((clsL_at l j i hj hi).trans (List.getElem?_eq_getElem (by simp [clL]; omega)))
    refine ⟨?_, ?_, ?_⟩
    · have := H 0 (by omega); simpa [clL] using this
    · rw [add_add]; have := H 1 (by omega); simpa [clL] using this
    · rw [add_add]; have := H 2 (by omega); simpa [clL] using this
theorem Oc.shape {w : World} {B : Nat} {v : Value} {l : List Cl} (h : Oc w B v l) : ∃ A c, v = .slice A l.length c := h.cs.shape
theorem Oc.keep {w w' : World} {B : Nat} {v : Value} {l : List Cl} (h : Oc w B v l) (hk : ∀ k, v.ownBlock = some k → w'.heap[k]? = w.heap[k]?) : Oc w' B v l := by
  refine ⟨h.1, ?_⟩
  rcases h.2 with h2 | ⟨g, cap, cur, hv, hb, hg, r⟩
  · exact .inl h2
  · exact .inr ⟨g, cap, cur, hv, hb, by rw [hk g (by rw [hv]; rfl)]; exact hg, r⟩
theorem Oc.fr {S : Nat → Prop} {w w' : World} {B : Nat} {v : Value} {l : List Cl} (h : Oc w B v l) (hf : Fr S w w') (hn : ∀ k, v.ownBlock = some k → ¬ S k) : Oc w' B v l :=
  h.keep fun k hk => hf.block k (h.lt k hk).2 (hn k hk)
theorem Oc.non {w w' : World} {B : Nat} {v : Value} {l : List Cl} (h : Oc w B v l) (hf : Fr Non w w') : Oc w' B v l := h.fr hf fun _ _ e => e
theorem Oc.alloc {w : World} {B : Nat} {v : Value} {l : List Cl} (h : Oc w B v l) (o : Obj) : Oc (w.alloc o) B v l := h.non ((Fr.refl _ _).alloc o)
theorem Oc.drew {w : World} {B : Nat} {v : Value} {l : List Cl} (h : Oc w B v l) : Oc w.drew B v l := h
theorem Oc.mono {w : World} {B B' : Nat} {v : Value} {l : List Cl} (h : Oc w B v l) (hB : B' ≤ B) : Oc w B' v l := by
  refine ⟨h.1, ?_⟩
  rcases h.2 with h2 | ⟨g, cap, cur, hv, hb, r⟩
  · exact .inl h2
  · exact .inr ⟨g, cap, cur, hv, by omega, r⟩
theorem Oc.kind {w : World} {B : Nat} {v : Value} {l : List Cl} (h : Oc w B v l) : ∀ k, v.ownBlock = some k → ∃ cur, w.heap[k]? = some (.cells cur 26 (0, 0)) := by
  intro k hk
  rcases h.2 with ⟨rfl, _⟩ | ⟨g, cap, cur, rfl, _, hg, _⟩
  · cases hk
  · obtain rfl : g = k := by simpa [Value.ownBlock] using hk
    exact ⟨cur, hg⟩
theorem Oc.row {w : World} {B : Nat} {v : Value} {l : List Cl} (h : Oc w B v l) (hn : 0 < l.length) : ∃ g cap, v = .slice (some ⟨g, 0, none⟩) l.length cap ∧ B ≤ g ∧ g < w.heap.size ∧ l.length ≤ cap ∧ cap ≤ maxLen := by
  rcases h.2 with ⟨rfl, h0⟩ | ⟨g, cap, cur, rfl, hb, hg, hle, hm, _⟩
  · omega
  · exact ⟨g, cap, rfl, hb, (Array.getElem?_eq_some_iff.1 hg).1, hle, hm⟩
theorem Oc.frozen {w : World} {B g n cap : Nat} {l : List Cl} (h : Oc w B (.slice (some ⟨g, 0, none⟩) n cap) l) (hn : n = l.length) (j : Nat) : w.frozen? ⟨g, j, none⟩ = false := by
  subst hn; exact World.ownsRow.frozenAt h j
theorem info_cl : (Try.prog.info? 26).map (fun i => (i.zero, i.size, i.bytes)) = some (some (.agg #[.bool false, .int .i64 0, .string ⟨#[]⟩]), 3, 32) := by kernel_rfl
theorem oc_lit0 (w : World) (B g : Nat) (hg : g = w.heap.size) (hB : B ≤ g) : Oc (w.alloc (.cells #[] 26)) B (.slice (some ⟨g, 0, none⟩) 0 0) [] := by
  subst hg
  exact World.ownsRow_lit w #[] 0 hB (by unfold maxLen; omega) rfl
theorem oc_lit (w : World) (B g : Nat) (l : List Cl) (cs : Array Value) (hcs : cs.toList = clsL l) (hg : g = w.heap.size) (hB : B ≤ g) (hm : l.length ≤ 1000000) : Oc (w.alloc (.cells cs 26)) B (.slice (some ⟨g, 0, none⟩) l.length l.length) l := by
  subst hg
  have h := World.ownsRow_lit (e := 26) (size := 3) w cs l.length hB (by unfold maxLen; omega) (by rw [← Array.length_toList, hcs, clsL_len])
  rw [hcs] at h
  exact h
/-! ### Steps -/
/-- append of one cell, which was stored in a new block first -/
theorem wpList_pushC {w0 : World} {ops : Array Oper} {rest : List Oper} {o : Oper} {a : Act} {Q : Exit → Act → World → Prop} (hgd : o.guard = none) (s x : Operand)
    (ho : o.op = .call { callee := .builtin .append, args := #[s, x], argTypes := #[22, 22] })
    (B : Nat) (v : Value) (l : List Cl) (hs : a.eval s = v) (hown : Oc w0 B v l) (y : Cl) (b : Bool) (i : Int) (t : ByteArray) (hb : b = y.null) (hi : i = y.num) (ht : t = ⟨y.txt.toArray⟩) (g : Nat) (hx : a.eval x = .slice (some ⟨g, 0, none⟩) 1 1) (hg : g = w0.heap.size)
    (hl : l.length < 1099511627776) (hB : B ≤ w0.heap.size)
    (h : ∀ v' w', Oc w' B v' (l ++ [y]) → Fr (fun k => v.ownBlock = some k) w0 w' → wpList Try.prog ops Q rest (a.put o.dst v') w') :
    wpList Try.prog ops Q (o :: rest) a (w0.alloc (.cells #[.bool b, .int .i64 i, .string t] 26)) := by
  subst hb hi ht hg
  obtain ⟨ii, hi, hz0, hz1, hz2⟩ := info_parts info_cl
  have hbl := ((cl_new w0 y).facts)
  refine wpList_append_own _ hgd s x _ ho B 26 ii _ 3 32 Try.underlying22 hi hz0 hz1 hz2 rfl (by omega) v l.length (clsL l) hs (hown.alloc _) ⟨w0.heap.size, 0, none⟩ 1 1 (clL y) hx rfl ?_ ?_ (by unfold maxLen; omega) (by omega) (by simp; omega) ?_
  · intro j u hu
    rw [Addr.add_lit, Nat.zero_add]
    match j with
    | 0 => obtain rfl : _ = u := by simpa [clL] using hu
           exact hbl.1
    | 1 => obtain rfl : _ = u := by simpa [clL] using hu
           exact hbl.2.1
    | 2 => obtain rfl : _ = u := by simpa [clL] using hu
           exact hbl.2.2.1
    | j + 3 => simp [clL] at hu
  · intro u hu
    exact clsL_one' [y] u (by rw [clsL_one]; exact hu)
  · intro v' w' h1 h2 _
    refine h v' w' ?_ ?_
    · unfold Oc
      rw [clsL_app, clsL_one, List.length_append]
      exact h1
    · exact ((Fr.refl _ _).alloc _).join (Fr.of_grown h2) fun k hk e => e.symm ▸ rfl
end Go.Proofs.Ytincapmagennmaa
