/-
  Joined: Layer 22: the program's Join, Add. · Slices of slices of bytes that the call owns (Owns), and the steps that append one slice, or one value of one cell, to a row of the call's own. · Slices of one-celled elements of any type: what one reads as (Vs), a row of the call's own (Ow), and the steps over them: append of one, append of many, make, copy, cuts. · Slices of cells: what one reads as (Cs), a row of the call's own (Oc), and the steps over them. · A region that draws, walked by hand: what all steps keep but the last one, which waits for all that reads. · Layer 22: the laws' 'of': the state of cells. · Layer 10: which lists of cells are small. · Append of a slice of cells onto a row of the call's own. · Parts of a slice of cells: s[:k], s[k:]. · The frame of a law's proof, for any parameters: where the call returned true and turned nothing that was there, the row's words hold. · Arguments opened: a slice of one-celled elements of any type; of truths; of whole numbers.
-/
import Derived.Lib.Varint
import Derived.Lib.Zigzag
import Derived.Deep.RegionHeld3
import Derived.Test.YtincapmagennmaaZ1
import Derived.Laws.CopyOwn
import Derived.Laws.OwnMore
import Derived.StillTail
import Derived.BigFrame
import Derived.Test.YtincapmagennmaaRows
import Derived.ProofKit
import Derived.OpenShut
import Derived.ShutString
import Derived.ChangeOld
import Derived.Below
import Derived.Deep.Slices

namespace Go.Proofs.Ytincapmagennmaa
set_option linter.unusedVariables false
set_option linter.unusedSimpArgs false
set_option maxRecDepth 100000
open Go.RowKit

theorem joinS_w (a b : Fs) : joinS a b = ⟨wrap64 (a.cnt + b.cnt), wrap64 (a.has + b.has), wrap64 (a.sum + b.sum), a.some || b.some,
    if a.some = false then b.low else if b.some = false then a.low else lesF a.low b.low,
    if a.some = false then b.high else if b.some = false then a.high else grtF a.high b.high⟩ := by
  unfold joinS
  rw [w6_wrap64, w6_wrap64, w6_wrap64]

set_option maxHeartbeats 4000000 in
theorem fjoin_a (ac ah au bc bh bu : Int) (sb : Bool) (aln ahn bln bhn : Bool) (ali ahi bli bhi : Int) (alt aht blt bht : List UInt8) (w : World) :
    Calls Try.prog 12 #[fsV ⟨ac, ah, au, false, ⟨aln, ali, alt⟩, ⟨ahn, ahi, aht⟩⟩, fsV ⟨bc, bh, bu, sb, ⟨bln, bli, blt⟩, ⟨bhn, bhi, bht⟩⟩] w fun e w' => e = .returned (fsV (joinS ⟨ac, ah, au, false, ⟨aln, ali, alt⟩, ⟨ahn, ahi, aht⟩⟩ ⟨bc, bh, bu, sb, ⟨bln, bli, blt⟩, ⟨bhn, bhi, bht⟩⟩)) ∧ Fr Non w w' := by
  have hE : Hid (joinS ⟨ac, ah, au, false, ⟨aln, ali, alt⟩, ⟨ahn, ahi, aht⟩⟩ ⟨bc, bh, bu, sb, ⟨bln, bli, blt⟩, ⟨bhn, bhi, bht⟩⟩ = ⟨wrap64 (ac + bc), wrap64 (ah + bh), wrap64 (au + bu), sb, ⟨bln, bli, blt⟩, ⟨bhn, bhi, bht⟩⟩) := Lib.hid (by rw [joinS_w]; rfl)
  obtain ⟨g, hg⟩ : ∃ g, w.heap.size = g := ⟨_, rfl⟩
  obtain ⟨W1, hW1⟩ : ∃ W, W = w.alloc (.cells #[.int .i64 ac, .int .i64 ah, .int .i64 au, .bool false, .bool aln, .int .i64 ali, .string ⟨alt.toArray⟩, .bool ahn, .int .i64 ahi, .string ⟨aht.toArray⟩] 28) := ⟨_, rfl⟩
  have A1 : FsB W1 g ⟨ac, ah, au, false, ⟨aln, ali, alt⟩, ⟨ahn, ahi, aht⟩⟩ := by rw [hW1]; exact fs_new w ⟨ac, ah, au, false, ⟨aln, ali, alt⟩, ⟨ahn, ahi, aht⟩⟩ g hg
  have s1 : W1.heap.size = g + 1 := by rw [hW1]; simp [hg]
  have F1 : Fr Non w W1 := by rw [hW1]; exact (Fr.refl Non w).alloc _
  obtain ⟨W2, hW2⟩ : ∃ W, W = W1.alloc (.cells #[.int .i64 bc, .int .i64 bh, .int .i64 bu, .bool sb, .bool bln, .int .i64 bli, .string ⟨blt.toArray⟩, .bool bhn, .int .i64 bhi, .string ⟨bht.toArray⟩] 28) := ⟨_, rfl⟩
  have B2 : FsB W2 (g + 1) ⟨bc, bh, bu, sb, ⟨bln, bli, blt⟩, ⟨bhn, bhi, bht⟩⟩ := by rw [hW2]; exact fs_new W1 ⟨bc, bh, bu, sb, ⟨bln, bli, blt⟩, ⟨bhn, bhi, bht⟩⟩ _ s1
  have s2 : W2.heap.size = g + 2 := by rw [hW2]; simp [s1]
  have F2 : Fr Non W1 W2 := by rw [hW2]; exact (Fr.refl Non W1).alloc _
  obtain ⟨W3, hW3⟩ : ∃ W, W = W2.alloc (.cells #[.int .i64 0, .int .i64 0, .int .i64 0, .bool false, .bool false, .int .i64 0, .string ⟨([] : List UInt8).toArray⟩, .bool false, .int .i64 0, .string ⟨([] : List UInt8).toArray⟩] 28) := ⟨_, rfl⟩
  have R3 : FsB W3 (g + 2) ⟨0, 0, 0, false, ⟨false, 0, []⟩, ⟨false, 0, []⟩⟩ := by rw [hW3]; exact fs_new W2 ⟨0, 0, 0, false, ⟨false, 0, []⟩, ⟨false, 0, []⟩⟩ _ s2
  have s3 : W3.heap.size = g + 3 := by rw [hW3]; simp [s2]
  have F3 : Fr Non W2 W3 := by rw [hW3]; exact (Fr.refl Non W2).alloc _
  obtain ⟨W0, hW0⟩ : ∃ W, W = W3.alloc (.cells #[.int .i64 (wrap64 (ac + bc)), .int .i64 (wrap64 (ah + bh)), .int .i64 (wrap64 (au + bu)), .bool sb, .bool false, .int .i64 0, .string ⟨([] : List UInt8).toArray⟩, .bool false, .int .i64 0, .string ⟨([] : List UInt8).toArray⟩] 28) := ⟨_, rfl⟩
  have JB : FsB W0 (g + 3) ⟨wrap64 (ac + bc), wrap64 (ah + bh), wrap64 (au + bu), sb, ⟨false, 0, []⟩, ⟨false, 0, []⟩⟩ := by rw [hW0]; exact fs_new W3 ⟨wrap64 (ac + bc), wrap64 (ah + bh), wrap64 (au + bu), sb, ⟨false, 0, []⟩, ⟨false, 0, []⟩⟩ _ s3
  have F4 : Fr Non W3 W0 := by rw [hW0]; exact (Fr.refl Non W3).alloc _
  obtain ⟨a0, a1, a2, a3, a4, a5, a6, a7, a8, a9⟩ := fsB_cells (show FsB W0 g ⟨ac, ah, au, false, ⟨aln, ali, alt⟩, ⟨ahn, ahi, aht⟩⟩ from ((A1.fr F2 (fun e => e)).fr F3 (fun e => e)).fr F4 (fun e => e))
  obtain ⟨b0, b1, b2, b3, b4, b5, b6, b7, b8, b9⟩ := fsB_cells (show FsB W0 (g + 1) ⟨bc, bh, bu, sb, ⟨bln, bli, blt⟩, ⟨bhn, bhi, bht⟩⟩ from (B2.fr F3 (fun e => e)).fr F4 (fun e => e))
  dsimp only at a0 a1 a2 a3 a4 a5 a6 a7 a8 a9 b0 b1 b2 b3 b4 b5 b6 b7 b8 b9
  have RB : Hid (FsB W0 (g + 2) ⟨0, 0, 0, false, ⟨false, 0, []⟩, ⟨false, 0, []⟩⟩) := Lib.hid (R3.fr F4 (fun e => e))
  have F0 := Lib.hid (((F1.trans F2).trans F3).trans F4)
  have HG := Lib.hid hg
  replace JB := Lib.hid JB
  clear A1 B2 R3 F1 F2 F3 F4 s1 s2 s3
  subst hW1 hW2 hW3
  unfold fsV fsC
  dsimp only
  go_enter Try.func12, Try.ntmps12
  go_wp2
  rw [← hW0]
  clear hW0
  clear a0 a1 a2 a3 a4 a5 a6 a7 a8 a9 b0 b1 b2 b3
  obtain ⟨V, hV⟩ : ∃ V, V = W0.drew := ⟨_, rfl⟩
  refine wp_region_held_drew (S := (fun W' => W'.cell? ⟨(g + 1), 4, none⟩ = some (.bool bln) ∧ W'.cell? ⟨(g + 1), 5, none⟩ = some (.int .i64 bli) ∧ W'.cell? ⟨(g + 1), 6, none⟩ = some (.string ⟨blt.toArray⟩) ∧ W'.cell? ⟨(g + 1), 7, none⟩ = some (.bool bhn) ∧ W'.cell? ⟨(g + 1), 8, none⟩ = some (.int .i64 bhi) ∧ W'.cell? ⟨(g + 1), 9, none⟩ = some (.string ⟨bht.toArray⟩))) (by kernel_rfl) (by exact ⟨b4, b5, b6, b7, b8, b9⟩) (fun hHeld => ?_)
  rw [← hV]
  rw [← hV] at hHeld
  have FV : Fr Non W0 V := by rw [hV]; exact (Fr.refl Non W0).drew
  clear hV
  replace b4 := FV.at0 b4
  replace b5 := FV.at0 b5
  replace b6 := FV.at0 b6
  replace b7 := FV.at0 b7
  replace b8 := FV.at0 b8
  replace b9 := FV.at0 b9
  have JV : FsB V (g + 3) ⟨wrap64 (ac + bc), wrap64 (ah + bh), wrap64 (au + bu), sb, ⟨false, 0, []⟩, ⟨false, 0, []⟩⟩ := JB.out.fr FV (fun e => e)
  have RV : FsB V (g + 2) ⟨0, 0, 0, false, ⟨false, 0, []⟩, ⟨false, 0, []⟩⟩ := RB.out.fr FV (fun e => e)
  refine wpAnyH_take (i := 0) (oi := ⟨some 44, _, _, _, _, none⟩) (v := ?v1) rfl (by kernel_rfl) (by kernel_rfl) (by kernel_rfl) (fun _ _ _ h => h) (Or.inl ⟨by rfl, ?hy1⟩) (by assumption) ?rest1
  case hy1 => (intro wS hSw; (try dsimp only at hSw); go_simp; (try with_reducible rfl))
  (try simp only [Act.put, List.setIfInBounds_toArray, List.set_cons_zero, List.set_cons_succ])
  refine wpAnyH_take (i := 1) (oi := ⟨some 45, _, _, _, _, none⟩) (v := ?v2) rfl (by kernel_rfl) (by kernel_rfl) (by kernel_rfl) (fun _ _ _ h => h) (Or.inl ⟨by rfl, ?hy2⟩) (by assumption) ?rest2
  case hy2 => (intro wS hSw; (try dsimp only at hSw); go_simp; (try with_reducible rfl))
  (try simp only [Act.put, List.setIfInBounds_toArray, List.set_cons_zero, List.set_cons_succ])
  refine wpAnyH_take (i := 2) (oi := ⟨some 46, _, _, _, _, none⟩) (v := ?v3) rfl (by kernel_rfl) (by kernel_rfl) (by kernel_rfl) (fun _ _ _ h => h) (Or.inl ⟨by rfl, ?hy3⟩) (by assumption) ?rest3
  case hy3 => (intro wS hSw; (try dsimp only at hSw); go_simp; (try with_reducible rfl))
  (try simp only [Act.put, List.setIfInBounds_toArray, List.set_cons_zero, List.set_cons_succ])
  refine wpAnyH_take (i := 3) (oi := ⟨some 47, _, _, _, _, none⟩) (v := ?v4) rfl (by kernel_rfl) (by kernel_rfl) (by kernel_rfl) (fun _ _ _ h => h) (Or.inl ⟨by rfl, ?hy4⟩) (by assumption) ?rest4
  case hy4 => (intro wS hSw; (try dsimp only at hSw); go_simp; (try with_reducible rfl))
  (try simp only [Act.put, List.setIfInBounds_toArray, List.set_cons_zero, List.set_cons_succ])
  refine wpAnyH_take (i := 4) (oi := ⟨some 48, _, _, _, _, none⟩) (v := ?v5) rfl (by kernel_rfl) (by kernel_rfl) (by kernel_rfl) (fun _ _ _ h => h) (Or.inl ⟨by rfl, ?hy5⟩) (by assumption) ?rest5
  case hy5 => (intro wS hSw; (try dsimp only at hSw); go_simp; (try with_reducible rfl))
  (try simp only [Act.put, List.setIfInBounds_toArray, List.set_cons_zero, List.set_cons_succ])
  refine wpAnyH_ready (rs := [5]) (by kernel_rfl) (by simp) ?_
  refine AllReadyH.cons (o := ⟨none, _, _, _, _, none⟩) rfl (fun K hK => ?_) AllReadyH.nil
  obtain ⟨p0, p1, p2, p3, p4, p5, p6, p7, p8, p9⟩ := fsB_cells JV
  obtain ⟨z0, z1, z2, z3, z4, z5, z6, z7, z8, z9⟩ := fsB_froz JV
  dsimp only at p0 p1 p2 p3 p4 p5 p6 p7 p8 p9
  obtain ⟨W5, hW5⟩ : ∃ W, W = setFsL V (g + 3) bln bli blt := ⟨_, rfl⟩
  have sW5 : Fr (One (g + 3)) V W5 := by rw [hW5]; exact setFsL_fr _ _ _ _ _
  have JW5 := setFsL_B JV ⟨bln, bli, blt⟩
  dsimp only at JW5
  rw [← hW5] at JW5
  unfold setFsL at hW5
  go_simp
  rw [← hW5]
  clear hW5 p0 p1 p2 p3 p4 p5 p6 p7 p8 p9 z0 z1 z2 z3 z4 z5 z6 z7 z8 z9
  refine hK.out _ _ (by exact ⟨sW5.atO (by omega) b4, sW5.atO (by omega) b5, sW5.atO (by omega) b6, sW5.atO (by omega) b7, sW5.atO (by omega) b8, sW5.atO (by omega) b9⟩) (fun hHeld => ?_)
  clear hK K
  (try simp only [Act.put, List.setIfInBounds_toArray, List.set_cons_zero, List.set_cons_succ])
  replace b4 := sW5.atO (by omega) b4
  replace b5 := sW5.atO (by omega) b5
  replace b6 := sW5.atO (by omega) b6
  replace b7 := sW5.atO (by omega) b7
  replace b8 := sW5.atO (by omega) b8
  replace b9 := sW5.atO (by omega) b9
  refine wpAnyH_take (i := 6) (oi := ⟨some 49, _, _, _, _, none⟩) (v := ?v6) rfl (by kernel_rfl) (by kernel_rfl) (by kernel_rfl) (fun _ _ _ h => h) (Or.inl ⟨by rfl, ?hy6⟩) (by assumption) ?rest6
  case hy6 => (intro wS hSw; (try dsimp only at hSw); go_simp; (try with_reducible rfl))
  (try simp only [Act.put, List.setIfInBounds_toArray, List.set_cons_zero, List.set_cons_succ])
  refine wpAnyH_ready (rs := [7]) (by kernel_rfl) (by simp) ?_
  refine AllReadyH.cons (o := ⟨none, _, _, _, _, none⟩) rfl (fun K hK => ?_) AllReadyH.nil
  obtain ⟨p0, p1, p2, p3, p4, p5, p6, p7, p8, p9⟩ := fsB_cells JW5
  obtain ⟨z0, z1, z2, z3, z4, z5, z6, z7, z8, z9⟩ := fsB_froz JW5
  dsimp only at p0 p1 p2 p3 p4 p5 p6 p7 p8 p9
  obtain ⟨W6, hW6⟩ : ∃ W, W = setFsH W5 (g + 3) bhn bhi bht := ⟨_, rfl⟩
  have sW6 : Fr (One (g + 3)) W5 W6 := by rw [hW6]; exact setFsH_fr _ _ _ _ _
  have JW6 := setFsH_B JW5 ⟨bhn, bhi, bht⟩
  dsimp only at JW6
  rw [← hW6] at JW6
  unfold setFsH at hW6
  go_simp
  rw [← hW6]
  clear hW6 p0 p1 p2 p3 p4 p5 p6 p7 p8 p9 z0 z1 z2 z3 z4 z5 z6 z7 z8 z9
  refine hK.out _ _ (by exact ⟨sW6.atO (by omega) b4, sW6.atO (by omega) b5, sW6.atO (by omega) b6, sW6.atO (by omega) b7, sW6.atO (by omega) b8, sW6.atO (by omega) b9⟩) (fun hHeld => ?_)
  clear hK K
  (try simp only [Act.put, List.setIfInBounds_toArray, List.set_cons_zero, List.set_cons_succ])
  replace b4 := sW6.atO (by omega) b4
  replace b5 := sW6.atO (by omega) b5
  replace b6 := sW6.atO (by omega) b6
  replace b7 := sW6.atO (by omega) b7
  replace b8 := sW6.atO (by omega) b8
  replace b9 := sW6.atO (by omega) b9
  refine wpAnyH_done (by kernel_rfl) ?_ _
  clear hHeld
  have RE : FsB W6 (g + 2) ⟨0, 0, 0, false, ⟨false, 0, []⟩, ⟨false, 0, []⟩⟩ := (RV.fr sW5 (fun k => by have : g + 2 = g + 3 := k; omega)).fr sW6 (fun k => by have : g + 2 = g + 3 := k; omega)
  have F6 := Lib.hid (F0.out.fresh ((FV.any.trans sW5).trans sW6) (fun k e => by have : k = g + 3 := e; have := HG.out; omega))
  obtain ⟨p0, p1, p2, p3, p4, p5, p6, p7, p8, p9⟩ := fsB_cells JW6
  obtain ⟨q0, q1, q2, q3, q4, q5, q6, q7, q8, q9⟩ := fsB_cells RE
  obtain ⟨z0, z1, z2, z3, z4, z5, z6, z7, z8, z9⟩ := fsB_froz RE
  dsimp only at p0 p1 p2 p3 p4 p5 p6 p7 p8 p9 q0 q1 q2 q3 q4 q5 q6 q7 q8 q9
  have HE := Lib.hid (setFs_B RE ⟨wrap64 (ac + bc), wrap64 (ah + bh), wrap64 (au + bu), sb, ⟨bln, bli, blt⟩, ⟨bhn, bhi, bht⟩⟩)
  have FE := Lib.hid (F6.out.fresh (setFs_fr W6 (g + 2) ⟨wrap64 (ac + bc), wrap64 (ah + bh), wrap64 (au + bu), sb, ⟨bln, bli, blt⟩, ⟨bhn, bhi, bht⟩⟩) (fun k e => by have : k = g + 2 := e; have := HG.out; omega))
  unfold setFs setFsN setFsL setFsH at HE FE
  dsimp only at HE FE
  clear JW6 RE F6 sW5 sW6 FV JV RV b4 b5 b6 b7 b8 b9
  go_wp2
  exact bodyPost_ret (v := fsV ⟨wrap64 (ac + bc), wrap64 (ah + bh), wrap64 (au + bu), sb, ⟨bln, bli, blt⟩, ⟨bhn, bhi, bht⟩⟩) (ret_fs (p := 4) rfl _ _ (g + 2) ⟨wrap64 (ac + bc), wrap64 (ah + bh), wrap64 (au + bu), sb, ⟨bln, bli, blt⟩, ⟨bhn, bhi, bht⟩⟩ (by rfl) HE.out) rfl ⟨by rw [hE.out]; rfl, FE.out⟩

set_option maxHeartbeats 4000000 in
theorem fjoin_b (ac ah au bc bh bu : Int) (aln ahn bln bhn : Bool) (ali ahi bli bhi : Int) (alt aht blt bht : List UInt8) (w : World) :
    Calls Try.prog 12 #[fsV ⟨ac, ah, au, true, ⟨aln, ali, alt⟩, ⟨ahn, ahi, aht⟩⟩, fsV ⟨bc, bh, bu, false, ⟨bln, bli, blt⟩, ⟨bhn, bhi, bht⟩⟩] w fun e w' => e = .returned (fsV (joinS ⟨ac, ah, au, true, ⟨aln, ali, alt⟩, ⟨ahn, ahi, aht⟩⟩ ⟨bc, bh, bu, false, ⟨bln, bli, blt⟩, ⟨bhn, bhi, bht⟩⟩)) ∧ Fr Non w w' := by
  have hE : Hid (joinS ⟨ac, ah, au, true, ⟨aln, ali, alt⟩, ⟨ahn, ahi, aht⟩⟩ ⟨bc, bh, bu, false, ⟨bln, bli, blt⟩, ⟨bhn, bhi, bht⟩⟩ = ⟨wrap64 (ac + bc), wrap64 (ah + bh), wrap64 (au + bu), true, ⟨aln, ali, alt⟩, ⟨ahn, ahi, aht⟩⟩) := Lib.hid (by rw [joinS_w]; rfl)
  obtain ⟨g, hg⟩ : ∃ g, w.heap.size = g := ⟨_, rfl⟩
  obtain ⟨W1, hW1⟩ : ∃ W, W = w.alloc (.cells #[.int .i64 ac, .int .i64 ah, .int .i64 au, .bool true, .bool aln, .int .i64 ali, .string ⟨alt.toArray⟩, .bool ahn, .int .i64 ahi, .string ⟨aht.toArray⟩] 28) := ⟨_, rfl⟩
  have A1 : FsB W1 g ⟨ac, ah, au, true, ⟨aln, ali, alt⟩, ⟨ahn, ahi, aht⟩⟩ := by rw [hW1]; exact fs_new w ⟨ac, ah, au, true, ⟨aln, ali, alt⟩, ⟨ahn, ahi, aht⟩⟩ g hg
  have s1 : W1.heap.size = g + 1 := by rw [hW1]; simp [hg]
  have F1 : Fr Non w W1 := by rw [hW1]; exact (Fr.refl Non w).alloc _
  obtain ⟨W2, hW2⟩ : ∃ W, W = W1.alloc (.cells #[.int .i64 bc, .int .i64 bh, .int .i64 bu, .bool false, .bool bln, .int .i64 bli, .string ⟨blt.toArray⟩, .bool bhn, .int .i64 bhi, .string ⟨bht.toArray⟩] 28) := ⟨_, rfl⟩
  have B2 : FsB W2 (g + 1) ⟨bc, bh, bu, false, ⟨bln, bli, blt⟩, ⟨bhn, bhi, bht⟩⟩ := by rw [hW2]; exact fs_new W1 ⟨bc, bh, bu, false, ⟨bln, bli, blt⟩, ⟨bhn, bhi, bht⟩⟩ _ s1
  have s2 : W2.heap.size = g + 2 := by rw [hW2]; simp [s1]
  have F2 : Fr Non W1 W2 := by rw [hW2]; exact (Fr.refl Non W1).alloc _
  obtain ⟨W3, hW3⟩ : ∃ W, W = W2.alloc (.cells #[.int .i64 0, .int .i64 0, .int .i64 0, .bool false, .bool false, .int .i64 0, .string ⟨([] : List UInt8).toArray⟩, .bool false, .int .i64 0, .string ⟨([] : List UInt8).toArray⟩] 28) := ⟨_, rfl⟩
  have R3 : FsB W3 (g + 2) ⟨0, 0, 0, false, ⟨false, 0, []⟩, ⟨false, 0, []⟩⟩ := by rw [hW3]; exact fs_new W2 ⟨0, 0, 0, false, ⟨false, 0, []⟩, ⟨false, 0, []⟩⟩ _ s2
  have s3 : W3.heap.size = g + 3 := by rw [hW3]; simp [s2]
  have F3 : Fr Non W2 W3 := by rw [hW3]; exact (Fr.refl Non W2).alloc _
  obtain ⟨W0, hW0⟩ : ∃ W, W = W3.alloc (.cells #[.int .i64 (wrap64 (ac + bc)), .int .i64 (wrap64 (ah + bh)), .int .i64 (wrap64 (au + bu)), .bool true, .bool false, .int .i64 0, .string ⟨([] : List UInt8).toArray⟩, .bool false, .int .i64 0, .string ⟨([] : List UInt8).toArray⟩] 28) := ⟨_, rfl⟩
  have JB : FsB W0 (g + 3) ⟨wrap64 (ac + bc), wrap64 (ah + bh), wrap64 (au + bu), true, ⟨false, 0, []⟩, ⟨false, 0, []⟩⟩ := by rw [hW0]; exact fs_new W3 ⟨wrap64 (ac + bc), wrap64 (ah + bh), wrap64 (au + bu), true, ⟨false, 0, []⟩, ⟨false, 0, []⟩⟩ _ s3
  have F4 : Fr Non W3 W0 := by rw [hW0]; exact (Fr.refl Non W3).alloc _
  obtain ⟨a0, a1, a2, a3, a4, a5, a6, a7, a8, a9⟩ := fsB_cells (show FsB W0 g ⟨ac, ah, au, true, ⟨aln, ali, alt⟩, ⟨ahn, ahi, aht⟩⟩ from ((A1.fr F2 (fun e => e)).fr F3 (fun e => e)).fr F4 (fun e => e))
  obtain ⟨b0, b1, b2, b3, b4, b5, b6, b7, b8, b9⟩ := fsB_cells (show FsB W0 (g + 1) ⟨bc, bh, bu, false, ⟨bln, bli, blt⟩, ⟨bhn, bhi, bht⟩⟩ from (B2.fr F3 (fun e => e)).fr F4 (fun e => e))
  dsimp only at a0 a1 a2 a3 a4 a5 a6 a7 a8 a9 b0 b1 b2 b3 b4 b5 b6 b7 b8 b9
  have RB : Hid (FsB W0 (g + 2) ⟨0, 0, 0, false, ⟨false, 0, []⟩, ⟨false, 0, []⟩⟩) := Lib.hid (R3.fr F4 (fun e => e))
  have F0 := Lib.hid (((F1.trans F2).trans F3).trans F4)
  have HG := Lib.hid hg
  replace JB := Lib.hid JB
  clear A1 B2 R3 F1 F2 F3 F4 s1 s2 s3
  subst hW1 hW2 hW3
  unfold fsV fsC
  dsimp only
  go_enter Try.func12, Try.ntmps12
  go_wp2
  rw [← hW0]
  clear hW0
  clear a0 a1 a2 a3 b0 b1 b2 b3 b4 b5 b6 b7 b8 b9
  obtain ⟨V, hV⟩ : ∃ V, V = W0.drew := ⟨_, rfl⟩
  refine wp_region_held_drew (S := (fun W' => W'.cell? ⟨g, 4, none⟩ = some (.bool aln) ∧ W'.cell? ⟨g, 5, none⟩ = some (.int .i64 ali) ∧ W'.cell? ⟨g, 6, none⟩ = some (.string ⟨alt.toArray⟩) ∧ W'.cell? ⟨g, 7, none⟩ = some (.bool ahn) ∧ W'.cell? ⟨g, 8, none⟩ = some (.int .i64 ahi) ∧ W'.cell? ⟨g, 9, none⟩ = some (.string ⟨aht.toArray⟩))) (by kernel_rfl) (by exact ⟨a4, a5, a6, a7, a8, a9⟩) (fun hHeld => ?_)
  rw [← hV]
  rw [← hV] at hHeld
  have FV : Fr Non W0 V := by rw [hV]; exact (Fr.refl Non W0).drew
  clear hV
  replace a4 := FV.at0 a4
  replace a5 := FV.at0 a5
  replace a6 := FV.at0 a6
  replace a7 := FV.at0 a7
  replace a8 := FV.at0 a8
  replace a9 := FV.at0 a9
  have JV : FsB V (g + 3) ⟨wrap64 (ac + bc), wrap64 (ah + bh), wrap64 (au + bu), true, ⟨false, 0, []⟩, ⟨false, 0, []⟩⟩ := JB.out.fr FV (fun e => e)
  have RV : FsB V (g + 2) ⟨0, 0, 0, false, ⟨false, 0, []⟩, ⟨false, 0, []⟩⟩ := RB.out.fr FV (fun e => e)
  refine wpAnyH_take (i := 0) (oi := ⟨some 54, _, _, _, _, none⟩) (v := ?v7) rfl (by kernel_rfl) (by kernel_rfl) (by kernel_rfl) (fun _ _ _ h => h) (Or.inl ⟨by rfl, ?hy7⟩) (by assumption) ?rest7
  case hy7 => (intro wS hSw; (try dsimp only at hSw); go_simp; (try with_reducible rfl))
  (try simp only [Act.put, List.setIfInBounds_toArray, List.set_cons_zero, List.set_cons_succ])
  refine wpAnyH_take (i := 1) (oi := ⟨some 55, _, _, _, _, none⟩) (v := ?v8) rfl (by kernel_rfl) (by kernel_rfl) (by kernel_rfl) (fun _ _ _ h => h) (Or.inl ⟨by rfl, ?hy8⟩) (by assumption) ?rest8
  case hy8 => (intro wS hSw; (try dsimp only at hSw); go_simp; (try with_reducible rfl))
  (try simp only [Act.put, List.setIfInBounds_toArray, List.set_cons_zero, List.set_cons_succ])
  refine wpAnyH_take (i := 2) (oi := ⟨some 56, _, _, _, _, none⟩) (v := ?v9) rfl (by kernel_rfl) (by kernel_rfl) (by kernel_rfl) (fun _ _ _ h => h) (Or.inl ⟨by rfl, ?hy9⟩) (by assumption) ?rest9
  case hy9 => (intro wS hSw; (try dsimp only at hSw); go_simp; (try with_reducible rfl))
  (try simp only [Act.put, List.setIfInBounds_toArray, List.set_cons_zero, List.set_cons_succ])
  refine wpAnyH_take (i := 3) (oi := ⟨some 57, _, _, _, _, none⟩) (v := ?v10) rfl (by kernel_rfl) (by kernel_rfl) (by kernel_rfl) (fun _ _ _ h => h) (Or.inl ⟨by rfl, ?hy10⟩) (by assumption) ?rest10
  case hy10 => (intro wS hSw; (try dsimp only at hSw); go_simp; (try with_reducible rfl))
  (try simp only [Act.put, List.setIfInBounds_toArray, List.set_cons_zero, List.set_cons_succ])
  refine wpAnyH_take (i := 4) (oi := ⟨some 58, _, _, _, _, none⟩) (v := ?v11) rfl (by kernel_rfl) (by kernel_rfl) (by kernel_rfl) (fun _ _ _ h => h) (Or.inl ⟨by rfl, ?hy11⟩) (by assumption) ?rest11
  case hy11 => (intro wS hSw; (try dsimp only at hSw); go_simp; (try with_reducible rfl))
  (try simp only [Act.put, List.setIfInBounds_toArray, List.set_cons_zero, List.set_cons_succ])
  refine wpAnyH_ready (rs := [5]) (by kernel_rfl) (by simp) ?_
  refine AllReadyH.cons (o := ⟨none, _, _, _, _, none⟩) rfl (fun K hK => ?_) AllReadyH.nil
  obtain ⟨p0, p1, p2, p3, p4, p5, p6, p7, p8, p9⟩ := fsB_cells JV
  obtain ⟨z0, z1, z2, z3, z4, z5, z6, z7, z8, z9⟩ := fsB_froz JV
  dsimp only at p0 p1 p2 p3 p4 p5 p6 p7 p8 p9
  obtain ⟨W5, hW5⟩ : ∃ W, W = setFsL V (g + 3) aln ali alt := ⟨_, rfl⟩
  have sW5 : Fr (One (g + 3)) V W5 := by rw [hW5]; exact setFsL_fr _ _ _ _ _
  have JW5 := setFsL_B JV ⟨aln, ali, alt⟩
  dsimp only at JW5
  rw [← hW5] at JW5
  unfold setFsL at hW5
  go_simp
  rw [← hW5]
  clear hW5 p0 p1 p2 p3 p4 p5 p6 p7 p8 p9 z0 z1 z2 z3 z4 z5 z6 z7 z8 z9
  refine hK.out _ _ (by exact ⟨sW5.atO (by omega) a4, sW5.atO (by omega) a5, sW5.atO (by omega) a6, sW5.atO (by omega) a7, sW5.atO (by omega) a8, sW5.atO (by omega) a9⟩) (fun hHeld => ?_)
  clear hK K
  (try simp only [Act.put, List.setIfInBounds_toArray, List.set_cons_zero, List.set_cons_succ])
  replace a4 := sW5.atO (by omega) a4
  replace a5 := sW5.atO (by omega) a5
  replace a6 := sW5.atO (by omega) a6
  replace a7 := sW5.atO (by omega) a7
  replace a8 := sW5.atO (by omega) a8
  replace a9 := sW5.atO (by omega) a9
  refine wpAnyH_take (i := 6) (oi := ⟨some 59, _, _, _, _, none⟩) (v := ?v12) rfl (by kernel_rfl) (by kernel_rfl) (by kernel_rfl) (fun _ _ _ h => h) (Or.inl ⟨by rfl, ?hy12⟩) (by assumption) ?rest12
  case hy12 => (intro wS hSw; (try dsimp only at hSw); go_simp; (try with_reducible rfl))
  (try simp only [Act.put, List.setIfInBounds_toArray, List.set_cons_zero, List.set_cons_succ])
  refine wpAnyH_ready (rs := [7]) (by kernel_rfl) (by simp) ?_
  refine AllReadyH.cons (o := ⟨none, _, _, _, _, none⟩) rfl (fun K hK => ?_) AllReadyH.nil
  obtain ⟨p0, p1, p2, p3, p4, p5, p6, p7, p8, p9⟩ := fsB_cells JW5
  obtain ⟨z0, z1, z2, z3, z4, z5, z6, z7, z8, z9⟩ := fsB_froz JW5
  dsimp only at p0 p1 p2 p3 p4 p5 p6 p7 p8 p9
  obtain ⟨W6, hW6⟩ : ∃ W, W = setFsH W5 (g + 3) ahn ahi aht := ⟨_, rfl⟩
  have sW6 : Fr (One (g + 3)) W5 W6 := by rw [hW6]; exact setFsH_fr _ _ _ _ _
  have JW6 := setFsH_B JW5 ⟨ahn, ahi, aht⟩
  dsimp only at JW6
  rw [← hW6] at JW6
  unfold setFsH at hW6
  go_simp
  rw [← hW6]
  clear hW6 p0 p1 p2 p3 p4 p5 p6 p7 p8 p9 z0 z1 z2 z3 z4 z5 z6 z7 z8 z9
  refine hK.out _ _ (by exact ⟨sW6.atO (by omega) a4, sW6.atO (by omega) a5, sW6.atO (by omega) a6, sW6.atO (by omega) a7, sW6.atO (by omega) a8, sW6.atO (by omega) a9⟩) (fun hHeld => ?_)
  clear hK K
  (try simp only [Act.put, List.setIfInBounds_toArray, List.set_cons_zero, List.set_cons_succ])
  replace a4 := sW6.atO (by omega) a4
  replace a5 := sW6.atO (by omega) a5
  replace a6 := sW6.atO (by omega) a6
  replace a7 := sW6.atO (by omega) a7
  replace a8 := sW6.atO (by omega) a8
  replace a9 := sW6.atO (by omega) a9
  refine wpAnyH_done (by kernel_rfl) ?_ _
  clear hHeld
  have RE : FsB W6 (g + 2) ⟨0, 0, 0, false, ⟨false, 0, []⟩, ⟨false, 0, []⟩⟩ := (RV.fr sW5 (fun k => by have : g + 2 = g + 3 := k; omega)).fr sW6 (fun k => by have : g + 2 = g + 3 := k; omega)
  have F6 := Lib.hid (F0.out.fresh ((FV.any.trans sW5).trans sW6) (fun k e => by have : k = g + 3 := e; have := HG.out; omega))
  obtain ⟨p0, p1, p2, p3, p4, p5, p6, p7, p8, p9⟩ := fsB_cells JW6
  obtain ⟨q0, q1, q2, q3, q4, q5, q6, q7, q8, q9⟩ := fsB_cells RE
  obtain ⟨z0, z1, z2, z3, z4, z5, z6, z7, z8, z9⟩ := fsB_froz RE
  dsimp only at p0 p1 p2 p3 p4 p5 p6 p7 p8 p9 q0 q1 q2 q3 q4 q5 q6 q7 q8 q9
  have HE := Lib.hid (setFs_B RE ⟨wrap64 (ac + bc), wrap64 (ah + bh), wrap64 (au + bu), true, ⟨aln, ali, alt⟩, ⟨ahn, ahi, aht⟩⟩)
  have FE := Lib.hid (F6.out.fresh (setFs_fr W6 (g + 2) ⟨wrap64 (ac + bc), wrap64 (ah + bh), wrap64 (au + bu), true, ⟨aln, ali, alt⟩, ⟨ahn, ahi, aht⟩⟩) (fun k e => by have : k = g + 2 := e; have := HG.out; omega))
  unfold setFs setFsN setFsL setFsH at HE FE
  dsimp only at HE FE
  clear JW6 RE F6 sW5 sW6 FV JV RV a4 a5 a6 a7 a8 a9
  go_wp2
  exact bodyPost_ret (v := fsV ⟨wrap64 (ac + bc), wrap64 (ah + bh), wrap64 (au + bu), true, ⟨aln, ali, alt⟩, ⟨ahn, ahi, aht⟩⟩) (ret_fs (p := 4) rfl _ _ (g + 2) ⟨wrap64 (ac + bc), wrap64 (ah + bh), wrap64 (au + bu), true, ⟨aln, ali, alt⟩, ⟨ahn, ahi, aht⟩⟩ (by rfl) HE.out) rfl ⟨by rw [hE.out]; rfl, FE.out⟩

set_option maxHeartbeats 4000000 in
theorem fjoin_c (ac ah au bc bh bu : Int) (aln ahn bln bhn : Bool) (ali ahi bli bhi : Int) (alt aht blt bht : List UInt8) (w : World) :
    Calls Try.prog 12 #[fsV ⟨ac, ah, au, true, ⟨aln, ali, alt⟩, ⟨ahn, ahi, aht⟩⟩, fsV ⟨bc, bh, bu, true, ⟨bln, bli, blt⟩, ⟨bhn, bhi, bht⟩⟩] w fun e w' => e = .returned (fsV (joinS ⟨ac, ah, au, true, ⟨aln, ali, alt⟩, ⟨ahn, ahi, aht⟩⟩ ⟨bc, bh, bu, true, ⟨bln, bli, blt⟩, ⟨bhn, bhi, bht⟩⟩)) ∧ Fr Non w w' := by
  have O1 := Lib.hid (fun W => fles_any ⟨aln, ali, alt⟩ ⟨bln, bli, blt⟩ W)
  have O2 := Lib.hid (fun W => fgrt_any ⟨ahn, ahi, aht⟩ ⟨bhn, bhi, bht⟩ W)
  have hE : joinS ⟨ac, ah, au, true, ⟨aln, ali, alt⟩, ⟨ahn, ahi, aht⟩⟩ ⟨bc, bh, bu, true, ⟨bln, bli, blt⟩, ⟨bhn, bhi, bht⟩⟩ = ⟨wrap64 (ac + bc), wrap64 (ah + bh), wrap64 (au + bu), true, lesF ⟨aln, ali, alt⟩ ⟨bln, bli, blt⟩, grtF ⟨ahn, ahi, aht⟩ ⟨bhn, bhi, bht⟩⟩ := by rw [joinS_w]; rfl
  rw [hE]
  clear hE
  obtain ⟨l, hl⟩ : ∃ l, lesF ⟨aln, ali, alt⟩ ⟨bln, bli, blt⟩ = l := ⟨_, rfl⟩
  obtain ⟨h, hh⟩ : ∃ h, grtF ⟨ahn, ahi, aht⟩ ⟨bhn, bhi, bht⟩ = h := ⟨_, rfl⟩
  rw [hl] at O1 ⊢
  rw [hh] at O2 ⊢
  clear hl hh
  obtain ⟨ln, li, lt⟩ := l
  obtain ⟨hn, hi, ht⟩ := h
  unfold clV clC at O1 O2
  dsimp only at O1 O2
  have hE := Lib.hid (rfl : (0 : Nat) = 0)
  obtain ⟨g, hg⟩ : ∃ g, w.heap.size = g := ⟨_, rfl⟩
  obtain ⟨W1, hW1⟩ : ∃ W, W = w.alloc (.cells #[.int .i64 ac, .int .i64 ah, .int .i64 au, .bool true, .bool aln, .int .i64 ali, .string ⟨alt.toArray⟩, .bool ahn, .int .i64 ahi, .string ⟨aht.toArray⟩] 28) := ⟨_, rfl⟩
  have A1 : FsB W1 g ⟨ac, ah, au, true, ⟨aln, ali, alt⟩, ⟨ahn, ahi, aht⟩⟩ := by rw [hW1]; exact fs_new w ⟨ac, ah, au, true, ⟨aln, ali, alt⟩, ⟨ahn, ahi, aht⟩⟩ g hg
  have s1 : W1.heap.size = g + 1 := by rw [hW1]; simp [hg]
  have F1 : Fr Non w W1 := by rw [hW1]; exact (Fr.refl Non w).alloc _
  obtain ⟨W2, hW2⟩ : ∃ W, W = W1.alloc (.cells #[.int .i64 bc, .int .i64 bh, .int .i64 bu, .bool true, .bool bln, .int .i64 bli, .string ⟨blt.toArray⟩, .bool bhn, .int .i64 bhi, .string ⟨bht.toArray⟩] 28) := ⟨_, rfl⟩
  have B2 : FsB W2 (g + 1) ⟨bc, bh, bu, true, ⟨bln, bli, blt⟩, ⟨bhn, bhi, bht⟩⟩ := by rw [hW2]; exact fs_new W1 ⟨bc, bh, bu, true, ⟨bln, bli, blt⟩, ⟨bhn, bhi, bht⟩⟩ _ s1
  have s2 : W2.heap.size = g + 2 := by rw [hW2]; simp [s1]
  have F2 : Fr Non W1 W2 := by rw [hW2]; exact (Fr.refl Non W1).alloc _
  obtain ⟨W3, hW3⟩ : ∃ W, W = W2.alloc (.cells #[.int .i64 0, .int .i64 0, .int .i64 0, .bool false, .bool false, .int .i64 0, .string ⟨([] : List UInt8).toArray⟩, .bool false, .int .i64 0, .string ⟨([] : List UInt8).toArray⟩] 28) := ⟨_, rfl⟩
  have R3 : FsB W3 (g + 2) ⟨0, 0, 0, false, ⟨false, 0, []⟩, ⟨false, 0, []⟩⟩ := by rw [hW3]; exact fs_new W2 ⟨0, 0, 0, false, ⟨false, 0, []⟩, ⟨false, 0, []⟩⟩ _ s2
  have s3 : W3.heap.size = g + 3 := by rw [hW3]; simp [s2]
  have F3 : Fr Non W2 W3 := by rw [hW3]; exact (Fr.refl Non W2).alloc _
  obtain ⟨W0, hW0⟩ : ∃ W, W = W3.alloc (.cells #[.int .i64 (wrap64 (ac + bc)), .int .i64 (wrap64 (ah + bh)), .int .i64 (wrap64 (au + bu)), .bool true, .bool false, .int .i64 0, .string ⟨([] : List UInt8).toArray⟩, .bool false, .int .i64 0, .string ⟨([] : List UInt8).toArray⟩] 28) := ⟨_, rfl⟩
  have JB : FsB W0 (g + 3) ⟨wrap64 (ac + bc), wrap64 (ah + bh), wrap64 (au + bu), true, ⟨false, 0, []⟩, ⟨false, 0, []⟩⟩ := by rw [hW0]; exact fs_new W3 ⟨wrap64 (ac + bc), wrap64 (ah + bh), wrap64 (au + bu), true, ⟨false, 0, []⟩, ⟨false, 0, []⟩⟩ _ s3
  have F4 : Fr Non W3 W0 := by rw [hW0]; exact (Fr.refl Non W3).alloc _
  obtain ⟨a0, a1, a2, a3, a4, a5, a6, a7, a8, a9⟩ := fsB_cells (show FsB W0 g ⟨ac, ah, au, true, ⟨aln, ali, alt⟩, ⟨ahn, ahi, aht⟩⟩ from ((A1.fr F2 (fun e => e)).fr F3 (fun e => e)).fr F4 (fun e => e))
  obtain ⟨b0, b1, b2, b3, b4, b5, b6, b7, b8, b9⟩ := fsB_cells (show FsB W0 (g + 1) ⟨bc, bh, bu, true, ⟨bln, bli, blt⟩, ⟨bhn, bhi, bht⟩⟩ from (B2.fr F3 (fun e => e)).fr F4 (fun e => e))
  dsimp only at a0 a1 a2 a3 a4 a5 a6 a7 a8 a9 b0 b1 b2 b3 b4 b5 b6 b7 b8 b9
  have RB : Hid (FsB W0 (g + 2) ⟨0, 0, 0, false, ⟨false, 0, []⟩, ⟨false, 0, []⟩⟩) := Lib.hid (R3.fr F4 (fun e => e))
  have F0 := Lib.hid (((F1.trans F2).trans F3).trans F4)
  have HG := Lib.hid hg
  replace JB := Lib.hid JB
  clear A1 B2 R3 F1 F2 F3 F4 s1 s2 s3
  subst hW1 hW2 hW3
  unfold fsV fsC
  dsimp only
  go_enter Try.func12, Try.ntmps12
  go_wp2
  rw [← hW0]
  clear hW0
  clear a0 a1 a2 a3 b0 b1 b2 b3
  obtain ⟨V, hV⟩ : ∃ V, V = W0.drew := ⟨_, rfl⟩
  refine wp_region_held_drew (S := (fun W' => W'.cell? ⟨g, 4, none⟩ = some (.bool aln) ∧ W'.cell? ⟨g, 5, none⟩ = some (.int .i64 ali) ∧ W'.cell? ⟨g, 6, none⟩ = some (.string ⟨alt.toArray⟩) ∧ W'.cell? ⟨g, 7, none⟩ = some (.bool ahn) ∧ W'.cell? ⟨g, 8, none⟩ = some (.int .i64 ahi) ∧ W'.cell? ⟨g, 9, none⟩ = some (.string ⟨aht.toArray⟩) ∧ W'.cell? ⟨(g + 1), 4, none⟩ = some (.bool bln) ∧ W'.cell? ⟨(g + 1), 5, none⟩ = some (.int .i64 bli) ∧ W'.cell? ⟨(g + 1), 6, none⟩ = some (.string ⟨blt.toArray⟩) ∧ W'.cell? ⟨(g + 1), 7, none⟩ = some (.bool bhn) ∧ W'.cell? ⟨(g + 1), 8, none⟩ = some (.int .i64 bhi) ∧ W'.cell? ⟨(g + 1), 9, none⟩ = some (.string ⟨bht.toArray⟩))) (by kernel_rfl) (by exact ⟨a4, a5, a6, a7, a8, a9, b4, b5, b6, b7, b8, b9⟩) (fun hHeld => ?_)
  rw [← hV]
  rw [← hV] at hHeld
  have FV : Fr Non W0 V := by rw [hV]; exact (Fr.refl Non W0).drew
  clear hV
  replace a4 := FV.at0 a4
  replace a5 := FV.at0 a5
  replace a6 := FV.at0 a6
  replace a7 := FV.at0 a7
  replace a8 := FV.at0 a8
  replace a9 := FV.at0 a9
  replace b4 := FV.at0 b4
  replace b5 := FV.at0 b5
  replace b6 := FV.at0 b6
  replace b7 := FV.at0 b7
  replace b8 := FV.at0 b8
  replace b9 := FV.at0 b9
  have JV : FsB V (g + 3) ⟨wrap64 (ac + bc), wrap64 (ah + bh), wrap64 (au + bu), true, ⟨false, 0, []⟩, ⟨false, 0, []⟩⟩ := JB.out.fr FV (fun e => e)
  have RV : FsB V (g + 2) ⟨0, 0, 0, false, ⟨false, 0, []⟩, ⟨false, 0, []⟩⟩ := RB.out.fr FV (fun e => e)
  refine wpAnyH_take (i := 0) (oi := ⟨some 28, _, _, _, _, none⟩) (v := ?v13) rfl (by kernel_rfl) (by kernel_rfl) (by kernel_rfl) (fun _ _ _ h => h) (Or.inl ⟨by rfl, ?hy13⟩) (by assumption) ?rest13
  case hy13 => (intro wS hSw; (try dsimp only at hSw); go_simp; (try with_reducible rfl))
  (try simp only [Act.put, List.setIfInBounds_toArray, List.set_cons_zero, List.set_cons_succ])
  refine wpAnyH_take (i := 1) (oi := ⟨some 29, _, _, _, _, none⟩) (v := ?v14) rfl (by kernel_rfl) (by kernel_rfl) (by kernel_rfl) (fun _ _ _ h => h) (Or.inl ⟨by rfl, ?hy14⟩) (by assumption) ?rest14
  case hy14 => (intro wS hSw; (try dsimp only at hSw); go_simp; (try with_reducible rfl))
  (try simp only [Act.put, List.setIfInBounds_toArray, List.set_cons_zero, List.set_cons_succ])
  refine wpAnyH_take (i := 2) (oi := ⟨some 30, _, _, _, _, none⟩) (v := ?v15) rfl (by kernel_rfl) (by kernel_rfl) (by kernel_rfl) (fun _ _ _ h => h) (Or.inl ⟨by rfl, ?hy15⟩) (by assumption) ?rest15
  case hy15 => (intro wS hSw; (try dsimp only at hSw); go_simp; (try with_reducible rfl))
  (try simp only [Act.put, List.setIfInBounds_toArray, List.set_cons_zero, List.set_cons_succ])
  refine wpAnyH_take (i := 3) (oi := ⟨some 31, _, _, _, _, none⟩) (v := ?v16) rfl (by kernel_rfl) (by kernel_rfl) (by kernel_rfl) (fun _ _ _ h => h) (Or.inl ⟨by rfl, ?hy16⟩) (by assumption) ?rest16
  case hy16 => (intro wS hSw; (try dsimp only at hSw); go_simp; (try with_reducible rfl))
  (try simp only [Act.put, List.setIfInBounds_toArray, List.set_cons_zero, List.set_cons_succ])
  refine wpAnyH_take (i := 5) (oi := ⟨some 33, _, _, _, _, none⟩) (v := ?v17) rfl (by kernel_rfl) (by kernel_rfl) (by kernel_rfl) (fun _ _ _ h => h) (Or.inl ⟨by rfl, ?hy17⟩) (by assumption) ?rest17
  case hy17 => (intro wS hSw; (try dsimp only at hSw); go_simp; (try with_reducible rfl))
  (try simp only [Act.put, List.setIfInBounds_toArray, List.set_cons_zero, List.set_cons_succ])
  refine wpAnyH_take (i := 6) (oi := ⟨some 34, _, _, _, _, none⟩) (v := ?v18) rfl (by kernel_rfl) (by kernel_rfl) (by kernel_rfl) (fun _ _ _ h => h) (Or.inl ⟨by rfl, ?hy18⟩) (by assumption) ?rest18
  case hy18 => (intro wS hSw; (try dsimp only at hSw); go_simp; (try with_reducible rfl))
  (try simp only [Act.put, List.setIfInBounds_toArray, List.set_cons_zero, List.set_cons_succ])
  refine wpAnyH_take (i := 7) (oi := ⟨some 35, _, _, _, _, none⟩) (v := ?v19) rfl (by kernel_rfl) (by kernel_rfl) (by kernel_rfl) (fun _ _ _ h => h) (Or.inl ⟨by rfl, ?hy19⟩) (by assumption) ?rest19
  case hy19 => (intro wS hSw; (try dsimp only at hSw); go_simp; (try with_reducible rfl))
  (try simp only [Act.put, List.setIfInBounds_toArray, List.set_cons_zero, List.set_cons_succ])
  refine wpAnyH_take (i := 8) (oi := ⟨some 36, _, _, _, _, none⟩) (v := ?v20) rfl (by kernel_rfl) (by kernel_rfl) (by kernel_rfl) (fun _ _ _ h => h) (Or.inl ⟨by rfl, ?hy20⟩) (by assumption) ?rest20
  case hy20 => (intro wS hSw; (try dsimp only at hSw); go_simp; (try with_reducible rfl))
  (try simp only [Act.put, List.setIfInBounds_toArray, List.set_cons_zero, List.set_cons_succ])
  refine wpAnyH_ready (rs := [4]) (by kernel_rfl) (by simp) ?_
  refine AllReadyH.cons (o := ⟨some 32, _, _, _, _, none⟩) rfl (fun K hK => ?_) AllReadyH.nil
  go_simp
  go_at_call 17
  refine (O1.out _).mono ?_
  rintro e X1 ⟨rfl, fX1⟩
  go_wp2_with fail
  refine hK.out _ _ (by exact ⟨fX1.at0 a4, fX1.at0 a5, fX1.at0 a6, fX1.at0 a7, fX1.at0 a8, fX1.at0 a9, fX1.at0 b4, fX1.at0 b5, fX1.at0 b6, fX1.at0 b7, fX1.at0 b8, fX1.at0 b9⟩) (fun hHeld => ?_)
  clear hK K
  (try simp only [Act.put, List.setIfInBounds_toArray, List.set_cons_zero, List.set_cons_succ])
  replace a4 := fX1.at0 a4
  replace a5 := fX1.at0 a5
  replace a6 := fX1.at0 a6
  replace a7 := fX1.at0 a7
  replace a8 := fX1.at0 a8
  replace a9 := fX1.at0 a9
  replace b4 := fX1.at0 b4
  replace b5 := fX1.at0 b5
  replace b6 := fX1.at0 b6
  replace b7 := fX1.at0 b7
  replace b8 := fX1.at0 b8
  replace b9 := fX1.at0 b9
  refine wpAnyH_take (i := 10) (oi := ⟨some 38, _, _, _, _, none⟩) (v := ?v21) rfl (by kernel_rfl) (by kernel_rfl) (by kernel_rfl) (fun _ _ _ h => h) (Or.inl ⟨by rfl, ?hy21⟩) (by assumption) ?rest21
  case hy21 => (intro wS hSw; (try dsimp only at hSw); go_simp; (try with_reducible rfl))
  (try simp only [Act.put, List.setIfInBounds_toArray, List.set_cons_zero, List.set_cons_succ])
  refine wpAnyH_ready (rs := [9]) (by kernel_rfl) (by simp) ?_
  refine AllReadyH.cons (o := ⟨some 37, _, _, _, _, none⟩) rfl (fun K hK => ?_) AllReadyH.nil
  go_simp
  go_at_call 18
  refine (O2.out _).mono ?_
  rintro e X2 ⟨rfl, fX2⟩
  go_wp2_with fail
  refine hK.out _ _ (by exact ⟨fX2.at0 a4, fX2.at0 a5, fX2.at0 a6, fX2.at0 a7, fX2.at0 a8, fX2.at0 a9, fX2.at0 b4, fX2.at0 b5, fX2.at0 b6, fX2.at0 b7, fX2.at0 b8, fX2.at0 b9⟩) (fun hHeld => ?_)
  clear hK K
  (try simp only [Act.put, List.setIfInBounds_toArray, List.set_cons_zero, List.set_cons_succ])
  replace a4 := fX2.at0 a4
  replace a5 := fX2.at0 a5
  replace a6 := fX2.at0 a6
  replace a7 := fX2.at0 a7
  replace a8 := fX2.at0 a8
  replace a9 := fX2.at0 a9
  replace b4 := fX2.at0 b4
  replace b5 := fX2.at0 b5
  replace b6 := fX2.at0 b6
  replace b7 := fX2.at0 b7
  replace b8 := fX2.at0 b8
  replace b9 := fX2.at0 b9
  have JX : FsB X2 (g + 3) ⟨wrap64 (ac + bc), wrap64 (ah + bh), wrap64 (au + bu), true, ⟨false, 0, []⟩, ⟨false, 0, []⟩⟩ := (JV.fr fX1 (fun e => e)).fr fX2 (fun e => e)
  replace RV : FsB X2 (g + 2) ⟨0, 0, 0, false, ⟨false, 0, []⟩, ⟨false, 0, []⟩⟩ := (RV.fr fX1 (fun e => e)).fr fX2 (fun e => e)
  replace FV := (FV.trans fX1).trans fX2
  clear JV fX1 fX2
  refine wpAnyH_ready (rs := [11]) (by kernel_rfl) (by simp) ?_
  refine AllReadyH.cons (o := ⟨none, _, _, _, _, none⟩) rfl (fun K hK => ?_) AllReadyH.nil
  obtain ⟨p0, p1, p2, p3, p4, p5, p6, p7, p8, p9⟩ := fsB_cells JX
  obtain ⟨z0, z1, z2, z3, z4, z5, z6, z7, z8, z9⟩ := fsB_froz JX
  dsimp only at p0 p1 p2 p3 p4 p5 p6 p7 p8 p9
  obtain ⟨W5, hW5⟩ : ∃ W, W = setFsL X2 (g + 3) ln li lt := ⟨_, rfl⟩
  have sW5 : Fr (One (g + 3)) X2 W5 := by rw [hW5]; exact setFsL_fr _ _ _ _ _
  have JW5 := setFsL_B JX ⟨ln, li, lt⟩
  dsimp only at JW5
  rw [← hW5] at JW5
  unfold setFsL at hW5
  go_simp
  rw [← hW5]
  clear hW5 p0 p1 p2 p3 p4 p5 p6 p7 p8 p9 z0 z1 z2 z3 z4 z5 z6 z7 z8 z9
  refine hK.out _ _ (by exact ⟨sW5.atO (by omega) a4, sW5.atO (by omega) a5, sW5.atO (by omega) a6, sW5.atO (by omega) a7, sW5.atO (by omega) a8, sW5.atO (by omega) a9, sW5.atO (by omega) b4, sW5.atO (by omega) b5, sW5.atO (by omega) b6, sW5.atO (by omega) b7, sW5.atO (by omega) b8, sW5.atO (by omega) b9⟩) (fun hHeld => ?_)
  clear hK K
  (try simp only [Act.put, List.setIfInBounds_toArray, List.set_cons_zero, List.set_cons_succ])
  replace a4 := sW5.atO (by omega) a4
  replace a5 := sW5.atO (by omega) a5
  replace a6 := sW5.atO (by omega) a6
  replace a7 := sW5.atO (by omega) a7
  replace a8 := sW5.atO (by omega) a8
  replace a9 := sW5.atO (by omega) a9
  replace b4 := sW5.atO (by omega) b4
  replace b5 := sW5.atO (by omega) b5
  replace b6 := sW5.atO (by omega) b6
  replace b7 := sW5.atO (by omega) b7
  replace b8 := sW5.atO (by omega) b8
  replace b9 := sW5.atO (by omega) b9
  refine wpAnyH_take (i := 12) (oi := ⟨some 39, _, _, _, _, none⟩) (v := ?v22) rfl (by kernel_rfl) (by kernel_rfl) (by kernel_rfl) (fun _ _ _ h => h) (Or.inl ⟨by rfl, ?hy22⟩) (by assumption) ?rest22
  case hy22 => (intro wS hSw; (try dsimp only at hSw); go_simp; (try with_reducible rfl))
  (try simp only [Act.put, List.setIfInBounds_toArray, List.set_cons_zero, List.set_cons_succ])
  refine wpAnyH_ready (rs := [13]) (by kernel_rfl) (by simp) ?_
  refine AllReadyH.cons (o := ⟨none, _, _, _, _, none⟩) rfl (fun K hK => ?_) AllReadyH.nil
  obtain ⟨p0, p1, p2, p3, p4, p5, p6, p7, p8, p9⟩ := fsB_cells JW5
  obtain ⟨z0, z1, z2, z3, z4, z5, z6, z7, z8, z9⟩ := fsB_froz JW5
  dsimp only at p0 p1 p2 p3 p4 p5 p6 p7 p8 p9
  obtain ⟨W6, hW6⟩ : ∃ W, W = setFsH W5 (g + 3) hn hi ht := ⟨_, rfl⟩
  have sW6 : Fr (One (g + 3)) W5 W6 := by rw [hW6]; exact setFsH_fr _ _ _ _ _
  have JW6 := setFsH_B JW5 ⟨hn, hi, ht⟩
  dsimp only at JW6
  rw [← hW6] at JW6
  unfold setFsH at hW6
  go_simp
  rw [← hW6]
  clear hW6 p0 p1 p2 p3 p4 p5 p6 p7 p8 p9 z0 z1 z2 z3 z4 z5 z6 z7 z8 z9
  refine hK.out _ _ (by exact ⟨sW6.atO (by omega) a4, sW6.atO (by omega) a5, sW6.atO (by omega) a6, sW6.atO (by omega) a7, sW6.atO (by omega) a8, sW6.atO (by omega) a9, sW6.atO (by omega) b4, sW6.atO (by omega) b5, sW6.atO (by omega) b6, sW6.atO (by omega) b7, sW6.atO (by omega) b8, sW6.atO (by omega) b9⟩) (fun hHeld => ?_)
  clear hK K
  (try simp only [Act.put, List.setIfInBounds_toArray, List.set_cons_zero, List.set_cons_succ])
  replace a4 := sW6.atO (by omega) a4
  replace a5 := sW6.atO (by omega) a5
  replace a6 := sW6.atO (by omega) a6
  replace a7 := sW6.atO (by omega) a7
  replace a8 := sW6.atO (by omega) a8
  replace a9 := sW6.atO (by omega) a9
  replace b4 := sW6.atO (by omega) b4
  replace b5 := sW6.atO (by omega) b5
  replace b6 := sW6.atO (by omega) b6
  replace b7 := sW6.atO (by omega) b7
  replace b8 := sW6.atO (by omega) b8
  replace b9 := sW6.atO (by omega) b9
  refine wpAnyH_done (by kernel_rfl) ?_ _
  clear hHeld
  have RE : FsB W6 (g + 2) ⟨0, 0, 0, false, ⟨false, 0, []⟩, ⟨false, 0, []⟩⟩ := (RV.fr sW5 (fun k => by have : g + 2 = g + 3 := k; omega)).fr sW6 (fun k => by have : g + 2 = g + 3 := k; omega)
  have F6 := Lib.hid (F0.out.fresh ((FV.any.trans sW5).trans sW6) (fun k e => by have : k = g + 3 := e; have := HG.out; omega))
  obtain ⟨p0, p1, p2, p3, p4, p5, p6, p7, p8, p9⟩ := fsB_cells JW6
  obtain ⟨q0, q1, q2, q3, q4, q5, q6, q7, q8, q9⟩ := fsB_cells RE
  obtain ⟨z0, z1, z2, z3, z4, z5, z6, z7, z8, z9⟩ := fsB_froz RE
  dsimp only at p0 p1 p2 p3 p4 p5 p6 p7 p8 p9 q0 q1 q2 q3 q4 q5 q6 q7 q8 q9
  have HE := Lib.hid (setFs_B RE ⟨wrap64 (ac + bc), wrap64 (ah + bh), wrap64 (au + bu), true, ⟨ln, li, lt⟩, ⟨hn, hi, ht⟩⟩)
  have FE := Lib.hid (F6.out.fresh (setFs_fr W6 (g + 2) ⟨wrap64 (ac + bc), wrap64 (ah + bh), wrap64 (au + bu), true, ⟨ln, li, lt⟩, ⟨hn, hi, ht⟩⟩) (fun k e => by have : k = g + 2 := e; have := HG.out; omega))
  unfold setFs setFsN setFsL setFsH at HE FE
  dsimp only at HE FE
  clear JW6 RE F6 sW5 sW6 FV RV JX a4 a5 a6 a7 a8 a9 b4 b5 b6 b7 b8 b9
  go_wp2
  exact bodyPost_ret (v := fsV ⟨wrap64 (ac + bc), wrap64 (ah + bh), wrap64 (au + bu), true, ⟨ln, li, lt⟩, ⟨hn, hi, ht⟩⟩) (ret_fs (p := 4) rfl _ _ (g + 2) ⟨wrap64 (ac + bc), wrap64 (ah + bh), wrap64 (au + bu), true, ⟨ln, li, lt⟩, ⟨hn, hi, ht⟩⟩ (by rfl) HE.out) rfl ⟨by rfl, FE.out⟩

theorem fjoin_any (a b : Fs) (w : World) : Calls Try.prog 12 #[fsV a, fsV b] w fun e w' => e = .returned (fsV (joinS a b)) ∧ Fr Non w w' := by
  obtain ⟨ac, ah, au, sa, ⟨aln, ali, alt⟩, ⟨ahn, ahi, aht⟩⟩ := a
  obtain ⟨bc, bh, bu, sb, ⟨bln, bli, blt⟩, ⟨bhn, bhi, bht⟩⟩ := b
  cases sa
  · exact fjoin_a ac ah au bc bh bu sb aln ahn bln bhn ali ahi bli bhi alt aht blt bht w
  · cases sb
    · exact fjoin_b ac ah au bc bh bu aln ahn bln bhn ali ahi bli bhi alt aht blt bht w
    · exact fjoin_c ac ah au bc bh bu aln ahn bln bhn ali ahi bli bhi alt aht blt bht w

set_option maxHeartbeats 4000000 in
theorem fadd_any (s : Fs) (x : Cl) (w : World) : Calls Try.prog 14 #[fsV s, clV x] w fun e w' => e = .returned (fsV (joinS s (oneS x))) ∧ Fr Non w w' := by
  have O1 := Lib.hid (fun W => fof_any x W)
  have O2 := Lib.hid (fun W => fjoin_any s (oneS x) W)
  obtain ⟨r, hr⟩ : ∃ r, joinS s (oneS x) = r := ⟨_, rfl⟩
  rw [hr] at O2 ⊢
  clear hr
  generalize oneS x = y at *
  obtain ⟨xn, xi, xt⟩ := x
  obtain ⟨ac, ah, au, sa, ⟨aln, ali, alt⟩, ⟨ahn, ahi, aht⟩⟩ := s
  obtain ⟨bc, bh, bu, sb, ⟨bln, bli, blt⟩, ⟨bhn, bhi, bht⟩⟩ := y
  obtain ⟨rc, rh, ru, sr, ⟨rln, rli, rlt⟩, ⟨rhn, rhi, rht⟩⟩ := r
  unfold clV clC at O1 ⊢
  unfold fsV fsC at O1 O2 ⊢
  dsimp only at O1 O2 ⊢
  obtain ⟨g, hg⟩ : ∃ g, w.heap.size = g := ⟨_, rfl⟩
  obtain ⟨W1, hW1⟩ : ∃ W, W = w.alloc (.cells #[.int .i64 ac, .int .i64 ah, .int .i64 au, .bool sa, .bool aln, .int .i64 ali, .string ⟨alt.toArray⟩, .bool ahn, .int .i64 ahi, .string ⟨aht.toArray⟩] 28) := ⟨_, rfl⟩
  have A1 : FsB W1 g ⟨ac, ah, au, sa, ⟨aln, ali, alt⟩, ⟨ahn, ahi, aht⟩⟩ := by rw [hW1]; exact fs_new w ⟨ac, ah, au, sa, ⟨aln, ali, alt⟩, ⟨ahn, ahi, aht⟩⟩ g hg
  have s1 : W1.heap.size = g + 1 := by rw [hW1]; simp [hg]
  have F1 : Fr Non w W1 := by rw [hW1]; exact (Fr.refl Non w).alloc _
  obtain ⟨W2, hW2⟩ : ∃ W, W = W1.alloc (.cells #[.bool xn, .int .i64 xi, .string ⟨xt.toArray⟩] 26) := ⟨_, rfl⟩
  have B2 : ClB W2 (g + 1) ⟨xn, xi, xt⟩ := by rw [hW2]; exact cl_newG W1 ⟨xn, xi, xt⟩ _ s1
  have s2 : W2.heap.size = g + 2 := by rw [hW2]; simp [s1]
  have F2 : Fr Non W1 W2 := by rw [hW2]; exact (Fr.refl Non W1).alloc _
  obtain ⟨W0, hW0⟩ : ∃ W, W = W2.alloc (.cells #[.int .i64 0, .int .i64 0, .int .i64 0, .bool false, .bool false, .int .i64 0, .string ⟨([] : List UInt8).toArray⟩, .bool false, .int .i64 0, .string ⟨([] : List UInt8).toArray⟩] 28) := ⟨_, rfl⟩
  have R3 : FsB W0 (g + 2) ⟨0, 0, 0, false, ⟨false, 0, []⟩, ⟨false, 0, []⟩⟩ := by rw [hW0]; exact fs_new W2 ⟨0, 0, 0, false, ⟨false, 0, []⟩, ⟨false, 0, []⟩⟩ _ s2
  have F3 : Fr Non W2 W0 := by rw [hW0]; exact (Fr.refl Non W2).alloc _
  obtain ⟨a0, a1, a2, a3, a4, a5, a6, a7, a8, a9⟩ := fsB_cells (show FsB W0 g ⟨ac, ah, au, sa, ⟨aln, ali, alt⟩, ⟨ahn, ahi, aht⟩⟩ from (A1.fr F2 (fun e => e)).fr F3 (fun e => e))
  obtain ⟨b0, b1, b2, -, -, -⟩ := ClB.facts (c := ⟨xn, xi, xt⟩) (B2.fr F3 (fun e => e))
  dsimp only at a0 a1 a2 a3 a4 a5 a6 a7 a8 a9 b0 b1 b2
  have RB := Lib.hid R3
  have F0 := Lib.hid ((F1.trans F2).trans F3)
  have HG := Lib.hid hg
  clear A1 B2 R3 F1 F2 F3 s1 s2
  subst hW1 hW2
  go_enter Try.func14, Try.ntmps14
  go_wp2
  rw [← hW0]
  clear hW0
  obtain ⟨V, hV⟩ : ∃ V, V = W0.drew := ⟨_, rfl⟩
  refine wp_region_held_drew (S := (fun W' => W'.cell? ⟨g, 0, none⟩ = some (.int .i64 ac) ∧ W'.cell? ⟨g, 1, none⟩ = some (.int .i64 ah) ∧ W'.cell? ⟨g, 2, none⟩ = some (.int .i64 au) ∧ W'.cell? ⟨g, 3, none⟩ = some (.bool sa) ∧ W'.cell? ⟨g, 4, none⟩ = some (.bool aln) ∧ W'.cell? ⟨g, 5, none⟩ = some (.int .i64 ali) ∧ W'.cell? ⟨g, 6, none⟩ = some (.string ⟨alt.toArray⟩) ∧ W'.cell? ⟨g, 7, none⟩ = some (.bool ahn) ∧ W'.cell? ⟨g, 8, none⟩ = some (.int .i64 ahi) ∧ W'.cell? ⟨g, 9, none⟩ = some (.string ⟨aht.toArray⟩) ∧ W'.cell? ⟨(g + 1), 0, none⟩ = some (.bool xn) ∧ W'.cell? ⟨(g + 1), 1, none⟩ = some (.int .i64 xi) ∧ W'.cell? ⟨(g + 1), 2, none⟩ = some (.string ⟨xt.toArray⟩))) (by kernel_rfl) (by exact ⟨a0, a1, a2, a3, a4, a5, a6, a7, a8, a9, b0, b1, b2⟩) (fun hHeld => ?_)
  rw [← hV]
  rw [← hV] at hHeld
  have FV : Fr Non W0 V := by rw [hV]; exact (Fr.refl Non W0).drew
  clear hV
  replace a0 := FV.at0 a0
  replace a1 := FV.at0 a1
  replace a2 := FV.at0 a2
  replace a3 := FV.at0 a3
  replace a4 := FV.at0 a4
  replace a5 := FV.at0 a5
  replace a6 := FV.at0 a6
  replace a7 := FV.at0 a7
  replace a8 := FV.at0 a8
  replace a9 := FV.at0 a9
  replace b0 := FV.at0 b0
  replace b1 := FV.at0 b1
  replace b2 := FV.at0 b2
  refine wpAnyH_take (i := 0) (oi := ⟨some 5, _, _, _, _, none⟩) (v := ?v23) rfl (by kernel_rfl) (by kernel_rfl) (by kernel_rfl) (fun _ _ _ h => h) (Or.inl ⟨by rfl, ?hy23⟩) (by assumption) ?rest23
  case hy23 => (intro wS hSw; (try dsimp only at hSw); go_simp; (try with_reducible rfl))
  (try simp only [Act.put, List.setIfInBounds_toArray, List.set_cons_zero, List.set_cons_succ])
  refine wpAnyH_take (i := 1) (oi := ⟨some 6, _, _, _, _, none⟩) (v := ?v24) rfl (by kernel_rfl) (by kernel_rfl) (by kernel_rfl) (fun _ _ _ h => h) (Or.inl ⟨by rfl, ?hy24⟩) (by assumption) ?rest24
  case hy24 => (intro wS hSw; (try dsimp only at hSw); go_simp; (try with_reducible rfl))
  (try simp only [Act.put, List.setIfInBounds_toArray, List.set_cons_zero, List.set_cons_succ])
  refine wpAnyH_ready (rs := [2]) (by kernel_rfl) (by simp) ?_
  refine AllReadyH.cons (o := ⟨some 7, _, _, _, _, none⟩) rfl (fun K hK => ?_) AllReadyH.nil
  go_simp
  go_at_call 19
  refine (O1.out _).mono ?_
  rintro e X1 ⟨rfl, fX1⟩
  go_wp2_with fail
  refine hK.out _ _ (by exact ⟨fX1.at0 a0, fX1.at0 a1, fX1.at0 a2, fX1.at0 a3, fX1.at0 a4, fX1.at0 a5, fX1.at0 a6, fX1.at0 a7, fX1.at0 a8, fX1.at0 a9, fX1.at0 b0, fX1.at0 b1, fX1.at0 b2⟩) (fun hHeld => ?_)
  clear hK K
  (try simp only [Act.put, List.setIfInBounds_toArray, List.set_cons_zero, List.set_cons_succ])
  replace a0 := fX1.at0 a0
  replace a1 := fX1.at0 a1
  replace a2 := fX1.at0 a2
  replace a3 := fX1.at0 a3
  replace a4 := fX1.at0 a4
  replace a5 := fX1.at0 a5
  replace a6 := fX1.at0 a6
  replace a7 := fX1.at0 a7
  replace a8 := fX1.at0 a8
  replace a9 := fX1.at0 a9
  replace b0 := fX1.at0 b0
  replace b1 := fX1.at0 b1
  replace b2 := fX1.at0 b2
  refine wpAnyH_ready (rs := [3]) (by kernel_rfl) (by simp) ?_
  refine AllReadyH.cons (o := ⟨some 8, _, _, _, _, none⟩) rfl (fun K hK => ?_) AllReadyH.nil
  go_simp
  go_at_call 12
  refine (O2.out _).mono ?_
  rintro e X2 ⟨rfl, fX2⟩
  go_wp2_with fail
  refine hK.out _ _ (by exact ⟨fX2.at0 a0, fX2.at0 a1, fX2.at0 a2, fX2.at0 a3, fX2.at0 a4, fX2.at0 a5, fX2.at0 a6, fX2.at0 a7, fX2.at0 a8, fX2.at0 a9, fX2.at0 b0, fX2.at0 b1, fX2.at0 b2⟩) (fun hHeld => ?_)
  clear hK K
  (try simp only [Act.put, List.setIfInBounds_toArray, List.set_cons_zero, List.set_cons_succ])
  replace a0 := fX2.at0 a0
  replace a1 := fX2.at0 a1
  replace a2 := fX2.at0 a2
  replace a3 := fX2.at0 a3
  replace a4 := fX2.at0 a4
  replace a5 := fX2.at0 a5
  replace a6 := fX2.at0 a6
  replace a7 := fX2.at0 a7
  replace a8 := fX2.at0 a8
  replace a9 := fX2.at0 a9
  replace b0 := fX2.at0 b0
  replace b1 := fX2.at0 b1
  replace b2 := fX2.at0 b2
  have RV : FsB X2 (g + 2) ⟨0, 0, 0, false, ⟨false, 0, []⟩, ⟨false, 0, []⟩⟩ := ((RB.out.fr FV (fun e => e)).fr fX1 (fun e => e)).fr fX2 (fun e => e)
  refine wpAnyH_ready (rs := [4]) (by kernel_rfl) (by simp) ?_
  refine AllReadyH.cons (o := ⟨none, _, _, _, _, none⟩) rfl (fun K hK => ?_) AllReadyH.nil
  obtain ⟨p0, p1, p2, p3, p4, p5, p6, p7, p8, p9⟩ := fsB_cells RV
  obtain ⟨z0, z1, z2, z3, z4, z5, z6, z7, z8, z9⟩ := fsB_froz RV
  dsimp only at p0 p1 p2 p3 p4 p5 p6 p7 p8 p9
  obtain ⟨W6, hW6⟩ : ∃ W, W = setFs X2 (g + 2) ⟨rc, rh, ru, sr, ⟨rln, rli, rlt⟩, ⟨rhn, rhi, rht⟩⟩ := ⟨_, rfl⟩
  have s6 : Fr (One (g + 2)) X2 W6 := by rw [hW6]; exact setFs_fr _ _ _
  have J6 := setFs_B RV ⟨rc, rh, ru, sr, ⟨rln, rli, rlt⟩, ⟨rhn, rhi, rht⟩⟩
  rw [← hW6] at J6
  unfold setFs setFsN setFsL setFsH at hW6
  dsimp only at hW6
  go_simp
  rw [← hW6]
  clear hW6 p0 p1 p2 p3 p4 p5 p6 p7 p8 p9 z0 z1 z2 z3 z4 z5 z6 z7 z8 z9
  refine hK.out _ _ (by exact ⟨s6.atO (by omega) a0, s6.atO (by omega) a1, s6.atO (by omega) a2, s6.atO (by omega) a3, s6.atO (by omega) a4, s6.atO (by omega) a5, s6.atO (by omega) a6, s6.atO (by omega) a7, s6.atO (by omega) a8, s6.atO (by omega) a9, s6.atO (by omega) b0, s6.atO (by omega) b1, s6.atO (by omega) b2⟩) (fun hHeld => ?_)
  clear hK K
  (try simp only [Act.put, List.setIfInBounds_toArray, List.set_cons_zero, List.set_cons_succ])
  refine wpAnyH_done (by kernel_rfl) ?_ _
  have FE := Lib.hid (F0.out.fresh (((FV.trans fX1).trans fX2).any.trans s6) (fun k e => by have : k = g + 2 := e; have := HG.out; omega))
  replace J6 := Lib.hid J6
  clear hHeld FV fX1 fX2 s6 RV a0 a1 a2 a3 a4 a5 a6 a7 a8 a9 b0 b1 b2
  go_wp2
  exact bodyPost_ret (v := fsV ⟨rc, rh, ru, sr, ⟨rln, rli, rlt⟩, ⟨rhn, rhi, rht⟩⟩) (ret_fs (p := 4) rfl _ _ (g + 2) ⟨rc, rh, ru, sr, ⟨rln, rli, rlt⟩, ⟨rhn, rhi, rht⟩⟩ (by rfl) J6.out) rfl ⟨rfl, FE.out⟩
end Go.Proofs.Ytincapmagennmaa


namespace Go.Proofs.Ytincapmagennmaa
set_option linter.unusedVariables false
set_option linter.unusedSimpArgs false
set_option maxRecDepth 100000
open Go.RowKit

/-- a slice of slices of bytes that the call owns, row and all -/
def Owns (w : World) (B : Nat) (v : Value) (ls : List (List UInt8)) : Prop :=
  ∃ vs : List Value, w.ownsRow B 36 1 v vs.length vs ∧ vs.length = ls.length ∧ ∀ (i : Nat) (u : Value) (l : List UInt8), vs[i]? = some u → ls[i]? = some l → Own w B u l

theorem Own.kind {w : World} {B : Nat} {u : Value} {l : List UInt8} (h : Own w B u l) : ∀ k, u.ownBlock = some k → ∃ cur, w.heap[k]? = some (.cells cur 5 (0, 0)) := by
  intro k hk
  rcases h.2 with ⟨rfl, _⟩ | ⟨g, cap, cur, rfl, _, hg, _⟩
  · cases hk
  · obtain rfl : g = k := by simpa [Value.ownBlock] using hk
    exact ⟨cur, hg⟩
theorem row_kind {w : World} {B : Nat} {E : TypeId} {n : Nat} {v : Value} {xs : List Value} (h : w.ownsRow B E 1 v n xs) : ∀ k, v.ownBlock = some k → ∃ cur, w.heap[k]? = some (.cells cur E (0, 0)) := by
  intro k hk
  rcases h.2 with ⟨rfl, _⟩ | ⟨g, cap, cur, rfl, _, hg, _⟩
  · cases hk
  · obtain rfl : g = k := by simpa [Value.ownBlock] using hk
    exact ⟨cur, hg⟩
theorem row_keep {w w' : World} {B : Nat} {E : TypeId} {n : Nat} {v : Value} {xs : List Value} (h : w.ownsRow B E 1 v n xs) (hk : ∀ k, v.ownBlock = some k → w'.heap[k]? = w.heap[k]?) : w'.ownsRow B E 1 v n xs := by
  refine ⟨h.1, ?_⟩
  rcases h.2 with h2 | ⟨g, cap, cur, hv, hb, hg, r⟩
  · exact .inl h2
  · exact .inr ⟨g, cap, cur, hv, hb, by rw [hk g (by rw [hv]; rfl)]; exact hg, r⟩
theorem row_lt {w : World} {B : Nat} {E : TypeId} {n : Nat} {v : Value} {xs : List Value} (h : w.ownsRow B E 1 v n xs) : ∀ k, v.ownBlock = some k → B ≤ k ∧ k < w.heap.size := World.ownsRow.lt h
theorem row_mono {w : World} {B B' : Nat} {E : TypeId} {n : Nat} {v : Value} {xs : List Value} (h : w.ownsRow B E 1 v n xs) (hB : B' ≤ B) : w.ownsRow B' E 1 v n xs := by
  refine ⟨h.1, ?_⟩
  rcases h.2 with h2 | ⟨g, cap, cur, hv, hb, r⟩
  · exact .inl h2
  · exact .inr ⟨g, cap, cur, hv, by omega, r⟩

theorem Owns.lt {w : World} {B : Nat} {v : Value} {ls : List (List UInt8)} (h : Owns w B v ls) : ∀ k, v.ownBlock = some k → B ≤ k ∧ k < w.heap.size := by
  obtain ⟨vs, h1, _⟩ := h; exact row_lt h1
/-- it stays where the blocks that turn are no rows of slices and no bytes -/
theorem Owns.keep {w w' : World} {B : Nat} {v : Value} {ls : List (List UInt8)} (h : Owns w B v ls)
    (hk : ∀ k cur, (w.heap[k]? = some (.cells cur 36 (0, 0)) ∨ w.heap[k]? = some (.cells cur 5 (0, 0))) → B ≤ k → w'.heap[k]? = w.heap[k]?) : Owns w' B v ls := by
  obtain ⟨vs, h1, h2, h3⟩ := h
  refine ⟨vs, row_keep h1 fun k e => ?_, h2, fun i u l hu hl => (h3 i u l hu hl).keep fun k e => ?_⟩
  · obtain ⟨cur, hc⟩ := row_kind h1 k e
    exact hk k cur (.inl hc) (row_lt h1 k e).1
  · obtain ⟨cur, hc⟩ := (h3 i u l hu hl).kind k e
    exact hk k cur (.inr hc) ((h3 i u l hu hl).lt k e).1
theorem Owns.fr {S : Nat → Prop} {w w' : World} {B : Nat} {v : Value} {ls : List (List UInt8)} (h : Owns w B v ls) (hf : Fr S w w')
    (hS : ∀ k cur, S k → w.heap[k]? ≠ some (.cells cur 36 (0, 0)) ∧ w.heap[k]? ≠ some (.cells cur 5 (0, 0))) : Owns w' B v ls :=
  h.keep fun k cur hc _ => hf.block k (by rcases hc with e | e <;> exact (Array.getElem?_eq_some_iff.1 e).1) fun e => by
    rcases hc with h1 | h1
    · exact (hS k cur e).1 h1
    · exact (hS k cur e).2 h1
theorem Owns.non {w w' : World} {B : Nat} {v : Value} {ls : List (List UInt8)} (h : Owns w B v ls) (hf : Fr Non w w') : Owns w' B v ls := h.fr hf fun k cur e => e.elim
theorem Owns.mono {w : World} {B B' : Nat} {v : Value} {ls : List (List UInt8)} (h : Owns w B v ls) (hB : B' ≤ B) : Owns w B' v ls := by
  obtain ⟨vs, h1, h2, h3⟩ := h
  exact ⟨vs, row_mono h1 hB, h2, fun i u l hu hl => (h3 i u l hu hl).mono hB⟩
theorem Owns.bss {w : World} {B : Nat} {v : Value} {ls : List (List UInt8)} (h : Owns w B v ls) : Bss w v ls := by
  obtain ⟨vs, h1, h2, h3⟩ := h
  rcases h1.2 with ⟨rfl, h0⟩ | ⟨g, cap, cur, rfl, _, _, hle, _, _, _⟩
  · have hl : ls = [] := List.eq_nil_of_length_eq_zero (by omega)
    subst hl
    exact ⟨none, 0, rfl, Nat.le_refl _, fun _ => rfl, fun _ h => by cases h⟩
  · refine ⟨_, cap, by rw [h2], by omega, (fun h => by cases h), fun a ha j hj => ?_⟩
    cases ha
    have hj' : j < vs.length := by omega
    exact ⟨vs[j], World.ownsRow.cells h1 (g := g) rfl j _ (by simp [hj']), (h3 j vs[j] ls[j] (by simp [hj']) (by simp [hj])).bs⟩
theorem Owns.shape {w : World} {B : Nat} {v : Value} {ls : List (List UInt8)} (h : Owns w B v ls) : ∃ A c, v = .slice A ls.length c := by
  obtain ⟨A, c, rfl, _⟩ := h.bss; exact ⟨A, c, rfl⟩
/-! ### Whole numbers in a row of the call's own -/
def iv (n : Int) : Value := .int .i64 n
def OwnI (w : World) (B : Nat) (v : Value) (l : List Int) : Prop := w.ownsRow B 3 1 v (l.map iv).length (l.map iv)
theorem OwnI.non {w w' : World} {B : Nat} {v : Value} {l : List Int} (h : OwnI w B v l) (hf : Fr Non w w') : OwnI w' B v l := row_keep h fun k hk => hf.block k (row_lt h k hk).2 fun e => e
theorem OwnI.fr {S : Nat → Prop} {w w' : World} {B : Nat} {v : Value} {l : List Int} (h : OwnI w B v l) (hf : Fr S w w') (hn : ∀ k, v.ownBlock = some k → ¬ S k) : OwnI w' B v l := row_keep h fun k hk => hf.block k (row_lt h k hk).2 (hn k hk)
theorem OwnI.cell {w : World} {B : Nat} {v : Value} {l : List Int} (h : OwnI w B v l) {g n c : Nat} (hv : v = .slice (some ⟨g, 0, none⟩) n c) (j : Nat) (hj : j < l.length) : w.cell? ⟨g, j, none⟩ = some (.int .i64 l[j]) := by
  subst hv
  have := World.ownsRow.cells h (g := g) rfl j (iv l[j]) (by simp [hj])
  rwa [Addr.add_lit, Nat.zero_add] at this
end Go.Proofs.Ytincapmagennmaa


namespace Go.Proofs.Ytincapmagennmaa
set_option linter.unusedVariables false
set_option linter.unusedSimpArgs false
set_option maxRecDepth 100000
open Go.RowKit

/-- the slice v reads as the list l, each element's cell being f of it -/
def Vs {α : Type} (f : α → Value) (w : World) (v : Value) (l : List α) : Prop :=
  ∃ A c, v = .slice A l.length c ∧ l.length ≤ c ∧ (A = none → c = 0) ∧ ∀ a, A = some a → ∀ j (h : j < l.length), w.cell? (a.add j) = some (f l[j])
/-- a row of the call's own, from block B on, of elements of type E -/
def Ow {α : Type} (f : α → Value) (E : TypeId) (w : World) (B : Nat) (v : Value) (l : List α) : Prop := w.ownsRow B E 1 v l.length (l.map f)

section
variable {α : Type} {f : α → Value}

theorem Vs.nil_ (w : World) : Vs f w (.slice none 0 0) [] := ⟨none, 0, rfl, Nat.le_refl _, fun _ => rfl, fun _ h => by cases h⟩
theorem Vs.keep {w w' : World} {v : Value} {l : List α} (h : Vs f w v l) (hk : ∀ k, v.ownBlock = some k → k < w.heap.size → w'.heap[k]? = w.heap[k]?) : Vs f w' v l := by
  obtain ⟨A, c, rfl, h1, h2, h3⟩ := h
  refine ⟨A, c, rfl, h1, h2, fun a ha j hj => ?_⟩
  have := h3 a ha j hj
  subst ha
  have hb := World.block_lt_of_cell? w _ this
  rw [add_block] at hb
  rw [← this]
  exact World.cell?_of_block (by rw [add_block]; exact hk _ rfl hb)
theorem Vs.fr {S : Nat → Prop} {w w' : World} {v : Value} {l : List α} (h : Vs f w v l) (hf : Fr S w w') (hn : ∀ k, v.ownBlock = some k → ¬ S k) : Vs f w' v l :=
  h.keep fun k hk hlt => hf.block k hlt (hn k hk)
theorem Vs.non {w w' : World} {v : Value} {l : List α} (h : Vs f w v l) (hf : Fr Non w w') : Vs f w' v l := h.fr hf fun _ _ e => e
theorem Vs.drew {w : World} {v : Value} {l : List α} (h : Vs f w v l) : Vs f w.drew v l := h
theorem Vs.shape {w : World} {v : Value} {l : List α} (h : Vs f w v l) : ∃ A c, v = .slice A l.length c := by
  obtain ⟨A, c, rfl, _⟩ := h; exact ⟨A, c, rfl⟩
/-- its address, where it has an element -/
theorem Vs.addr {w : World} {A : Option Addr} {n c : Nat} {l : List α} (h : Vs f w (.slice A n c) l) (hl : 0 < n) : ∃ a, A = some a ∧ n = l.length ∧ n ≤ c ∧ ∀ j (h : j < l.length), w.cell? (a.add j) = some (f l[j]) := by
  obtain ⟨A0, c0, he, h1, h2, h3⟩ := h
  simp only [Value.slice.injEq] at he
  obtain ⟨rfl, rfl, rfl⟩ := he
  cases A with
  | none => have := h2 rfl; omega
  | some a => exact ⟨a, rfl, rfl, h1, h3 a rfl⟩
variable {E : TypeId}
theorem Ow.lt {w : World} {B : Nat} {v : Value} {l : List α} (h : Ow f E w B v l) : ∀ k, v.ownBlock = some k → B ≤ k ∧ k < w.heap.size := World.ownsRow.lt h
theorem Ow.vs {w : World} {B : Nat} {v : Value} {l : List α} (h : Ow f E w B v l) : Vs f w v l := by
  rcases h.2 with ⟨rfl, h0⟩ | ⟨g, cap, cur, rfl, _, _, hle, _, _, _⟩
  · have hl : l = [] := List.eq_nil_of_length_eq_zero h0
    subst hl; exact Vs.nil_ w
  · refine ⟨_, cap, rfl, hle, (fun h => by cases h), fun a ha j hj => ?_⟩
    cases ha
    exact World.ownsRow.cells h (g := g) rfl j _ (by simp [hj])
theorem Ow.shape {w : World} {B : Nat} {v : Value} {l : List α} (h : Ow f E w B v l) : ∃ A c, v = .slice A l.length c := h.vs.shape
theorem Ow.keep {w w' : World} {B : Nat} {v : Value} {l : List α} (h : Ow f E w B v l) (hk : ∀ k, v.ownBlock = some k → w'.heap[k]? = w.heap[k]?) : Ow f E w' B v l := row_keep h hk
theorem Ow.fr {S : Nat → Prop} {w w' : World} {B : Nat} {v : Value} {l : List α} (h : Ow f E w B v l) (hf : Fr S w w') (hn : ∀ k, v.ownBlock = some k → ¬ S k) : Ow f E w' B v l :=
  h.keep fun k hk => hf.block k (h.lt k hk).2 (hn k hk)
theorem Ow.non {w w' : World} {B : Nat} {v : Value} {l : List α} (h : Ow f E w B v l) (hf : Fr Non w w') : Ow f E w' B v l := h.fr hf fun _ _ e => e
theorem Ow.alloc {w : World} {B : Nat} {v : Value} {l : List α} (h : Ow f E w B v l) (o : Obj) : Ow f E (w.alloc o) B v l := h.non ((Fr.refl _ _).alloc o)
theorem Ow.drew {w : World} {B : Nat} {v : Value} {l : List α} (h : Ow f E w B v l) : Ow f E w.drew B v l := h
theorem Ow.mono {w : World} {B B' : Nat} {v : Value} {l : List α} (h : Ow f E w B v l) (hB : B' ≤ B) : Ow f E w B' v l := row_mono h hB
theorem Ow.kind {w : World} {B : Nat} {v : Value} {l : List α} (h : Ow f E w B v l) : ∀ k, v.ownBlock = some k → ∃ cur, w.heap[k]? = some (.cells cur E (0, 0)) := row_kind h
/-- where it has an element, it stands at a row's head -/
theorem Ow.row {w : World} {B : Nat} {v : Value} {l : List α} (h : Ow f E w B v l) (hn : 0 < l.length) : ∃ g cap, v = .slice (some ⟨g, 0, none⟩) l.length cap ∧ B ≤ g ∧ g < w.heap.size ∧ l.length ≤ cap ∧ cap ≤ maxLen := by
  rcases h.2 with ⟨rfl, h0⟩ | ⟨g, cap, cur, rfl, hb, hg, hle, hm, _⟩
  · omega
  · exact ⟨g, cap, rfl, hb, (Array.getElem?_eq_some_iff.1 hg).1, hle, hm⟩
theorem Ow.cell {w : World} {B g n cap : Nat} {l : List α} (h : Ow f E w B (.slice (some ⟨g, 0, none⟩) n cap) l) (hn : n = l.length) (j : Nat) (x : α) (hb : l[j]? = some x) : w.cell? ⟨g, j, none⟩ = some (f x) := by
  subst hn
  have hj : j < l.length := (List.getElem?_eq_some_iff.1 hb).1
  rw [World.ownsRow.cellAt h j (by omega), List.getElem?_map, hb]; rfl
theorem Ow.frozen {w : World} {B g n cap : Nat} {l : List α} (h : Ow f E w B (.slice (some ⟨g, 0, none⟩) n cap) l) (hn : n = l.length) (j : Nat) : w.frozen? ⟨g, j, none⟩ = false := by
  subst hn; exact World.ownsRow.frozenAt h j
/-! ### Steps -/
variable {T : TypeId} {z : Value} {by_ : Nat}
/-! ### Pieces -/
end

/-- how many elements a slice has -/
def slLen : Value → Nat
  | .slice _ n _ => n
  | _ => 0
/-! ### Truths, whole numbers, bytes -/
theorem Bs.vs {w : World} {v : Value} {l : List UInt8} (h : Bs w v l) : Vs bv w v l := h
theorem Vs.bs {w : World} {v : Value} {l : List UInt8} (h : Vs bv w v l) : Bs w v l := h
theorem Ow.own {w : World} {B : Nat} {v : Value} {l : List UInt8} (h : Ow bv 5 w B v l) : Own w B v l := h

end Go.Proofs.Ytincapmagennmaa


namespace Go.Proofs.Ytincapmagennmaa
set_option linter.unusedVariables false
set_option linter.unusedSimpArgs false
set_option maxRecDepth 100000
open Go.RowKit

/-- a cell's three values, and those of many -/
def clL (c : Cl) : List Value := [.bool c.null, .int .i64 c.num, .string ⟨c.txt.toArray⟩]
def clsL (l : List Cl) : List Value := l.flatMap clL
theorem clsL_cons (c : Cl) (l : List Cl) : clsL (c :: l) = clL c ++ clsL l := by simp [clsL]
theorem clsL_app (l m : List Cl) : clsL (l ++ m) = clsL l ++ clsL m := by simp [clsL]
theorem clsL_len (l : List Cl) : (clsL l).length = l.length * 3 := by
  induction l with
  | nil => rfl
  | cons c l ih => rw [clsL_cons, List.length_append, ih, List.length_cons]; simp [clL]; omega
theorem clsL_at (l : List Cl) (j : Nat) (i : Nat) (hj : j < l.length) (hi : i < 3) : (clsL l)[j * 3 + i]? = (clL l[j])[i]? := by
  induction l generalizing j with
  | nil => cases hj
  | cons c l ih =>
    rw [clsL_cons]
    cases j with
    | zero => rw [List.getElem?_append_left (by simp [clL]; omega)]; simp
    | succ j =>
      rw [List.getElem?_append_right (by simp [clL]; omega)]
      rw [show (j + 1) * 3 + i - (clL c).length = j * 3 + i by simp [clL]; omega]
      exact ih j (by simpa using hj)
theorem clsL_one' (l : List Cl) : ∀ u ∈ clsL l, u.oneCell' = true := by
  intro u hu
  obtain ⟨c, _, hc⟩ := List.mem_flatMap.1 hu
  simp [clL] at hc
  rcases hc with rfl | rfl | rfl <;> rfl
/-- three cells, one behind the other, that hold c -/
structure At3 (w : World) (a : Addr) (c : Cl) : Prop where
  c0 : w.cell? a = some (.bool c.null)
  c1 : w.cell? (a.add 1) = some (.int .i64 c.num)
  c2 : w.cell? (a.add 2) = some (.string ⟨c.txt.toArray⟩)

/-- the slice v reads as the cells l -/
def Cs (w : World) (v : Value) (l : List Cl) : Prop :=
  ∃ A c, v = .slice A l.length c ∧ l.length ≤ c ∧ (A = none → c = 0) ∧ ∀ a, A = some a → ∀ j (h : j < l.length), At3 w (a.add (j * 3)) l[j]
/-- a row of the call's own, from block B on -/
def Oc (w : World) (B : Nat) (v : Value) (l : List Cl) : Prop := w.ownsRow B 26 3 v l.length (clsL l)

theorem At3.keep {w w' : World} {a : Addr} {c : Cl} (h : At3 w a c) (hk : w'.heap[a.block]? = w.heap[a.block]?) : At3 w' a c := by
  obtain ⟨h0, h1, h2⟩ := h
  exact ⟨by rw [← h0]; exact World.cell?_of_block hk, by rw [← h1]; exact World.cell?_of_block (by rw [add_block]; exact hk), by rw [← h2]; exact World.cell?_of_block (by rw [add_block]; exact hk)⟩

theorem Cs.nil_ (w : World) : Cs w (.slice none 0 0) [] := ⟨none, 0, rfl, Nat.le_refl _, fun _ => rfl, fun _ h => by cases h⟩
theorem Cs.keep {w w' : World} {v : Value} {l : List Cl} (h : Cs w v l) (hk : ∀ k, v.ownBlock = some k → k < w.heap.size → w'.heap[k]? = w.heap[k]?) : Cs w' v l := by
  obtain ⟨A, c, rfl, h1, h2, h3⟩ := h
  refine ⟨A, c, rfl, h1, h2, fun a ha j hj => ?_⟩
  have := h3 a ha j hj
  subst ha
  have hb := World.block_lt_of_cell? w _ this.c0
  refine this.keep ?_
  rw [add_block] at hb ⊢
  exact hk _ rfl hb
theorem Cs.fr {S : Nat → Prop} {w w' : World} {v : Value} {l : List Cl} (h : Cs w v l) (hf : Fr S w w') (hn : ∀ k, v.ownBlock = some k → ¬ S k) : Cs w' v l :=
  h.keep fun k hk hlt => hf.block k hlt (hn k hk)
theorem Cs.non {w w' : World} {v : Value} {l : List Cl} (h : Cs w v l) (hf : Fr Non w w') : Cs w' v l := h.fr hf fun _ _ e => e
theorem Cs.drew {w : World} {v : Value} {l : List Cl} (h : Cs w v l) : Cs w.drew v l := h.keep fun _ _ _ => rfl
theorem Cs.shape {w : World} {v : Value} {l : List Cl} (h : Cs w v l) : ∃ A c, v = .slice A l.length c := by
  obtain ⟨A, c, rfl, _⟩ := h; exact ⟨A, c, rfl⟩
theorem Cs.addr {w : World} {A : Option Addr} {n c : Nat} {l : List Cl} (h : Cs w (.slice A n c) l) (hl : 0 < n) : ∃ a, A = some a ∧ n = l.length ∧ n ≤ c ∧ ∀ j (h : j < l.length), At3 w (a.add (j * 3)) l[j] := by
  obtain ⟨A0, c0, he, h1, h2, h3⟩ := h
  simp only [Value.slice.injEq] at he
  obtain ⟨rfl, rfl, rfl⟩ := he
  cases A with
  | none => have := h2 rfl; omega
  | some a => exact ⟨a, rfl, rfl, h1, h3 a rfl⟩
theorem Fr.at3 {w w' : World} {a : Addr} {c : Cl} (hf : Fr Non w w') (h : At3 w a c) : At3 w' a c :=
  h.keep (hf.block _ (World.block_lt_of_cell? w _ h.c0) (fun e => e))
/-- as a walk spells them -/
theorem At3.lit {w : World} {a : Addr} {c : Cl} (h : At3 w a c) : w.cell? a = some (.bool c.null) ∧ w.cell? { block := a.block, off := a.off + 1 } = some (.int .i64 c.num) ∧ w.cell? { block := a.block, off := a.off + 2 } = some (.string ⟨c.txt.toArray⟩) := ⟨h.c0, h.c1, h.c2⟩
theorem Oc.lt {w : World} {B : Nat} {v : Value} {l : List Cl} (h : Oc w B v l) : ∀ k, v.ownBlock = some k → B ≤ k ∧ k < w.heap.size := World.ownsRow.lt h
theorem Oc.cs {w : World} {B : Nat} {v : Value} {l : List Cl} (h : Oc w B v l) : Cs w v l := by
  rcases h.2 with ⟨rfl, h0⟩ | ⟨g, cap, cur, rfl, _, _, hle, _, _, _⟩
  · have hl : l = [] := List.eq_nil_of_length_eq_zero h0
    subst hl; exact Cs.nil_ w
  · refine ⟨_, cap, rfl, hle, (fun h => by cases h), fun a ha j hj => ?_⟩
    cases ha
    have H := fun i hi => World.ownsRow.cells h (g := g) rfl (j * 3 + i) _ ((clsL_at l j i hj hi).trans (List.getElem?_eq_getElem (by simp [clL]; omega)))
    refine ⟨?_, ?_, ?_⟩
    · have := H 0 (by omega); simpa [clL] using this
    · rw [add_add]; have := H 1 (by omega); simpa [clL] using this
    · rw [add_add]; have := H 2 (by omega); simpa [clL] using this
theorem Oc.shape {w : World} {B : Nat} {v : Value} {l : List Cl} (h : Oc w B v l) : ∃ A c, v = .slice A l.length c := h.cs.shape
theorem Oc.keep {w w' : World} {B : Nat} {v : Value} {l : List Cl} (h : Oc w B v l) (hk : ∀ k, v.ownBlock = some k → w'.heap[k]? = w.heap[k]?) : Oc w' B v l := by
  refine ⟨h.1, ?_⟩
  rcases h.2 with h2 | ⟨g, cap, cur, hv, hb, hg, r⟩
  · exact .inl h2
  · exact .inr ⟨g, cap, cur, hv, hb, by rw [hk g (by rw [hv]; rfl)]; exact hg, r⟩
theorem Oc.fr {S : Nat → Prop} {w w' : World} {B : Nat} {v : Value} {l : List Cl} (h : Oc w B v l) (hf : Fr S w w') (hn : ∀ k, v.ownBlock = some k → ¬ S k) : Oc w' B v l :=
  h.keep fun k hk => hf.block k (h.lt k hk).2 (hn k hk)
theorem Oc.non {w w' : World} {B : Nat} {v : Value} {l : List Cl} (h : Oc w B v l) (hf : Fr Non w w') : Oc w' B v l := h.fr hf fun _ _ e => e
theorem Oc.alloc {w : World} {B : Nat} {v : Value} {l : List Cl} (h : Oc w B v l) (o : Obj) : Oc (w.alloc o) B v l := h.non ((Fr.refl _ _).alloc o)
theorem Oc.drew {w : World} {B : Nat} {v : Value} {l : List Cl} (h : Oc w B v l) : Oc w.drew B v l := h
theorem Oc.mono {w : World} {B B' : Nat} {v : Value} {l : List Cl} (h : Oc w B v l) (hB : B' ≤ B) : Oc w B' v l := by
  refine ⟨h.1, ?_⟩
  rcases h.2 with h2 | ⟨g, cap, cur, hv, hb, r⟩
  · exact .inl h2
  · exact .inr ⟨g, cap, cur, hv, by omega, r⟩
theorem Oc.kind {w : World} {B : Nat} {v : Value} {l : List Cl} (h : Oc w B v l) : ∀ k, v.ownBlock = some k → ∃ cur, w.heap[k]? = some (.cells cur 26 (0, 0)) := by
  intro k hk
  rcases h.2 with ⟨rfl, _⟩ | ⟨g, cap, cur, rfl, _, hg, _⟩
  · cases hk
  · obtain rfl : g = k := by simpa [Value.ownBlock] using hk
    exact ⟨cur, hg⟩
theorem Oc.row {w : World} {B : Nat} {v : Value} {l : List Cl} (h : Oc w B v l) (hn : 0 < l.length) : ∃ g cap, v = .slice (some ⟨g, 0, none⟩) l.length cap ∧ B ≤ g ∧ g < w.heap.size ∧ l.length ≤ cap ∧ cap ≤ maxLen := by
  rcases h.2 with ⟨rfl, h0⟩ | ⟨g, cap, cur, rfl, hb, hg, hle, hm, _⟩
  · omega
  · exact ⟨g, cap, rfl, hb, (Array.getElem?_eq_some_iff.1 hg).1, hle, hm⟩
theorem Oc.frozen {w : World} {B g n cap : Nat} {l : List Cl} (h : Oc w B (.slice (some ⟨g, 0, none⟩) n cap) l) (hn : n = l.length) (j : Nat) : w.frozen? ⟨g, j, none⟩ = false := by
  subst hn; exact World.ownsRow.frozenAt h j
theorem info_cl : (Try.prog.info? 26).map (fun i => (i.zero, i.size, i.bytes)) = some (some (.agg #[.bool false, .int .i64 0, .string ⟨#[]⟩]), 3, 32) := by kernel_rfl
theorem oc_lit0 (w : World) (B g : Nat) (hg : g = w.heap.size) (hB : B ≤ g) : Oc (w.alloc (.cells #[] 26)) B (.slice (some ⟨g, 0, none⟩) 0 0) [] := by
  subst hg
  exact World.ownsRow_lit w #[] 0 hB (by unfold maxLen; omega) rfl
theorem oc_lit (w : World) (B g : Nat) (l : List Cl) (cs : Array Value) (hcs : cs.toList = clsL l) (hg : g = w.heap.size) (hB : B ≤ g) (hm : l.length ≤ 1000000) : Oc (w.alloc (.cells cs 26)) B (.slice (some ⟨g, 0, none⟩) l.length l.length) l := by
  subst hg
  have h := World.ownsRow_lit (e := 26) (size := 3) w cs l.length hB (by unfold maxLen; omega) (by rw [← Array.length_toList, hcs, clsL_len])
  rw [hcs] at h
  exact h
/-! ### Steps -/
end Go.Proofs.Ytincapmagennmaa


namespace Go.Proofs.Ytincapmagennmaa
set_option linter.unusedVariables false
set_option linter.unusedSimpArgs false
set_option maxRecDepth 100000
open Go.RowKit

section
variable {P : Program} {ops : Array Oper} {Q : Exit → Act → World → Prop} {md : Region.Mode} {S : World → Prop} {last : Nat}
/-- whatever order is picked; S holds behind every operation but 'last' -/
def wpAnyK (P : Program) (md : Region.Mode) (ops : Array Oper) (Q : Exit → Act → World → Prop) (S : World → Prop) (last : Nat) : Nat → Array Bool → Act → World → Prop
  | 0, listed, a, w => Region.ready md ops listed = [] ∧ Q .normal a w
  | fuel + 1, listed, a, w =>
    (Region.ready md ops listed = [] → Q .normal a w) ∧
    ∀ i ∈ Region.ready md ops listed, wpOp P ops Q i (fun a' w' => (i ≠ last → S w') ∧ wpAnyK P md ops Q S last fuel (listed.setIfInBounds i true) a' w') a w
theorem wpAny_of_K : ∀ (fuel : Nat) (listed : Array Bool) (a : Act) (w : World), wpAnyK P md ops Q S last fuel listed a w → wpAny P md ops Q fuel listed a w
  | 0, _, _, _, h => h
  | fuel + 1, _, _, _, h => ⟨h.1, fun i hi => wpOp_mono (fun a' w' h' => wpAny_of_K fuel _ a' w' h'.2) (h.2 i hi)⟩
theorem wpAnyK_first {i : Nat} {oi : Oper} {v : Value} (hi : ops[i]? = some oi) (hsel : ∀ (j : Nat) (o : Oper) cs b, ops[j]? = some o → o.op ≠ .select cs b)
    (hQ : ∀ c a w, Q (.panic c) (a.put oi.dst v) w → Q (.panic c) a w) (hw : Region.waitsFor md ops last i = true) (hl : i ≠ last) :
    ∀ (fuel : Nat) (listed : Array Bool) (a : Act) (w : World),
      (∀ j oj, ops[j]? = some oj → j ≠ i → listed.getD j true = false → (∀ e ∈ oj.after, Region.binds md e = true → e.on ≠ i) → oi.apart ops oj = true) →
      i ∈ Region.ready md ops listed → YieldsIf P ops S oi v a → S w →
      wpAnyK P md ops Q S last fuel (listed.setIfInBounds i true) (a.put oi.dst v) w → wpAnyK P md ops Q S last (fuel + 1) listed a w := by
  intro fuel
  induction fuel with
  | zero =>
    intro listed a w _ hr hy hS H
    refine ⟨fun h => (by rw [h] at hr; cases hr), fun j hj => ?_⟩
    by_cases hji : j = i
    · subst hji; exact hy.wpOp hi hS ⟨fun _ => hS, H⟩
    · have := ready_mono hj hji
      rw [H.1] at this
      cases this
  | succ fuel ih =>
    intro listed a w hfree hr hy hS H
    refine ⟨fun h => (by rw [h] at hr; cases hr), fun j hj => ?_⟩
    by_cases hji : j = i
    · subst hji; exact hy.wpOp hi hS ⟨fun _ => hS, H⟩
    · have h1 := H.2 j (ready_mono hj hji)
      obtain ⟨hjun, oj, hoj, hall⟩ := mem_ready.1 hj
      have hnot : ∀ e ∈ oj.after, Region.binds md e = true → e.on ≠ i := fun e he hb heq => by
        have h1 := hall e he hb
        have h0 := (mem_ready.1 hr).1
        rw [heq] at h1
        rcases Nat.lt_or_ge i listed.size with h' | h'
        · simp [h'] at h0 h1; rw [h0] at h1; cases h1
        · simp [Array.getElem?_eq_none h'] at h1
      have hjl : j ≠ last := by
        intro e
        subst e
        obtain ⟨oj', hj', e, he, hb, hon⟩ := Region.waitsFor_spec hw
        obtain rfl : oj' = oj := Option.some.inj (hj'.symm.trans hoj)
        exact hnot e he hb hon
      have h2 := wpOp_putIf hoj (hfree j oj hoj hji hjun hnot) (fun cs b => hsel i oi cs b hi) (fun cs b => hsel j oj cs b hoj) hQ hy h1
      have hfree' : ∀ k ok, ops[k]? = some ok → k ≠ i → (listed.setIfInBounds j true).getD k true = false →
          (∀ e ∈ ok.after, Region.binds md e = true → e.on ≠ i) → oi.apart ops ok = true := fun k ok hk hki hun hno => by
        refine hfree k ok hk hki ?_ hno
        by_cases hjk : j = k
        · subst hjk; exact hjun
        · rw [getD_set_ne true hjk] at hun; exact hun
      refine wpOp_mono (fun a' w' h3 => ⟨h3.2.1, ih (listed.setIfInBounds j true) a' w' hfree' (ready_mono hr (Ne.symm hji)) h3.1 (h3.2.1 hjl) ?_⟩) h2
      rw [Array.setIfInBounds_comm _ _ hji]
      exact h3.2.2
theorem wpAnyK_take {i : Nat} {oi : Oper} {v : Value} {fuel : Nat} {listed : Array Bool} {a : Act} {w : World} (hi : ops[i]? = some oi)
    (hs : Region.noSelect ops = true) (hf : Region.free md ops listed i = true) (hr : (Region.ready md ops listed).contains i = true)
    (hQ : ∀ c a w, Q (.panic c) (a.put oi.dst v) w → Q (.panic c) a w) (hw : Region.waitsFor md ops last i = true) (hl : i ≠ last) (hy : YieldsIf P ops S oi v a) (hS : S w)
    (h : wpAnyK P md ops Q S last fuel (listed.setIfInBounds i true) (a.put oi.dst v) w) : wpAnyK P md ops Q S last (fuel + 1) listed a w :=
  wpAnyK_first hi (Region.noSelect_spec hs) hQ hw hl fuel listed a w (Region.free_spec hi hf) (by simpa using hr) hy hS h
/-- the only operation that may come up now -/
theorem wpAnyK_one {i : Nat} {o : Oper} {fuel : Nat} {listed : Array Bool} {a : Act} {w : World} (hr : Region.ready md ops listed = [i]) (ho : ops[i]? = some o)
    (h : ∀ K' : Act → World → Prop, Shut (∀ a w, (i ≠ last → S w) → wpAnyK P md ops Q S last fuel (listed.setIfInBounds i true) a w → K' a w) → if Region.wanted o (yielded ops a.tmps) = true then Oper.wp P o a w K' Q else K' (a.put o.dst undef) w) :
    wpAnyK P md ops Q S last (fuel + 1) listed a w := by
  refine ⟨fun h0 => absurd (hr.symm.trans h0) (by simp), fun j hj => ?_⟩
  rw [hr] at hj
  obtain rfl := List.mem_singleton.1 hj
  exact wpOp_step ho (fun K' hK => h K' (fun a w hS hW => hK a w ⟨hS, hW⟩))
theorem wpAnyK_done {listed : Array Bool} {a : Act} {w : World} (hr : Region.ready md ops listed = []) (h : Q .normal a w) : ∀ fuel, wpAnyK P md ops Q S last fuel listed a w
  | 0 => ⟨hr, h⟩
  | _ + 1 => ⟨fun _ => h, by rw [hr]; simp⟩
theorem wp_region_K {id : Nat} {a : Act} {w : World} (S : World → Prop) (last : Nat) (hm : P.follows .mixedOrders = true)
    (h : wpAnyK P .any ops Q S last ops.size (Array.replicate ops.size false) a w.drew) : (Code.region id ops true).wp P Q a w :=
  wp_region_any hm (wpAny_of_K _ _ _ _ h)
end
end Go.Proofs.Ytincapmagennmaa


namespace Go.Proofs.Ytincapmagennmaa
set_option linter.unusedVariables false
set_option linter.unusedSimpArgs false
set_option maxRecDepth 100000
open Go.RowKit

set_option maxHeartbeats 4000000 in
theorem lfof_any (v : Value) (l : List Cl) (w : World) (hv : Cs w v l) (hl : l.length ≤ 1000000) :
    Calls Try.prog 8 #[v] w fun e w' => e = .returned (fsV (fsF (foC l))) ∧ Fr Non w w' := by
  obtain ⟨A, c, rfl⟩ := hv.shape
  have HV := Lib.hid hv
  clear hv
  obtain ⟨g, hg⟩ : ∃ g, w.heap.size = g := ⟨_, rfl⟩
  have hR : FsB (w.alloc (.cells #[.int .i64 0, .int .i64 0, .int .i64 0, .bool false, .bool false, .int .i64 0, .string ⟨([] : List UInt8).toArray⟩, .bool false, .int .i64 0, .string ⟨([] : List UInt8).toArray⟩] 28)) g ⟨0, 0, 0, false, ⟨false, 0, []⟩, ⟨false, 0, []⟩⟩ := fs_new w ⟨0, 0, 0, false, ⟨false, 0, []⟩, ⟨false, 0, []⟩⟩ g hg
  have f0 : Fr Non w (w.alloc (.cells #[.int .i64 0, .int .i64 0, .int .i64 0, .bool false, .bool false, .int .i64 0, .string ⟨([] : List UInt8).toArray⟩, .bool false, .int .i64 0, .string ⟨([] : List UInt8).toArray⟩] 28)) := (Fr.refl Non w).alloc _
  have HN := Lib.hid (fun W => fnew_any W)
  have HG := Lib.hid hg
  replace hR := Lib.hid hR
  replace f0 := Lib.hid f0
  unfold fsV noFs noCl fsC at HN
  dsimp only at HN
  go_enter Try.func8, Try.ntmps8
  go_wp2_with fail
  refine (HN.out _).mono ?_
  rintro e w1 ⟨rfl, f1⟩
  obtain ⟨D, hD⟩ : ∃ D, w1.heap.size = D := ⟨_, rfl⟩
  have hgD : g < D := by have := (hR.out.fr f1 (fun e => e)).lt; omega
  have SB0 : FsB (w1.alloc (.cells #[.int .i64 0, .int .i64 0, .int .i64 0, .bool false, .bool false, .int .i64 0, .string ⟨([] : List UInt8).toArray⟩, .bool false, .int .i64 0, .string ⟨([] : List UInt8).toArray⟩] 28)) D noFs := fs_new w1 noFs D hD
  have f2 : Fr Non w1 (w1.alloc (.cells #[.int .i64 0, .int .i64 0, .int .i64 0, .bool false, .bool false, .int .i64 0, .string ⟨([] : List UInt8).toArray⟩, .bool false, .int .i64 0, .string ⟨([] : List UInt8).toArray⟩] 28)) := (Fr.refl Non w1).alloc _
  have RB0 := Lib.hid ((hR.out.fr f1 (fun e => e)).fr f2 (fun e => e))
  have FF0 := Lib.hid ((f0.out.trans f1).trans f2)
  replace SB0 := Lib.hid SB0
  have HD := Lib.hid hD
  clear hR f0 f1 f2 HN
  go_wp2
  go_loopw [4] (fun i wr => ∃ (k : Nat), k ≤ l.length ∧ i = .int .i64 k ∧ Hid (FsB wr D (fsF (foC (l.take k)))) ∧ Hid (FsB wr g ⟨0, 0, 0, false, ⟨false, 0, []⟩, ⟨false, 0, []⟩⟩) ∧ Hid (Fr Non w wr)) (fun i _ => l.length - (intOf i).toNat)
  case atStart => exact ⟨0, Nat.zero_le _, rfl, SB0, RB0, FF0⟩
  case round =>
    clear SB0 RB0 FF0
    obtain ⟨k, hk, rfl, SB, RB, FR⟩ := hrel
    by_cases hlt : k < l.length
    · obtain ⟨a, rfl, -, -, hel⟩ := (HV.out.non FR.out).addr (show 0 < l.length by omega)
      obtain ⟨t0, t1, t2⟩ := (hel k hlt).lit
      have HT := Lib.hid (fsF_snoc (l.take k) l[k] (by rw [List.length_take]; omega))
      have HC0 := Lib.hid (fun W => fadd_any (fsF (foC (l.take k))) l[k] W)
      have HE : Hid (fsF (foC (l.take k ++ [l[k]])) = fsF (foC (l.take (k + 1)))) := Lib.hid (by rw [List.take_succ_eq_append_getElem hlt])
      rw [HT.out, HE.out] at HC0
      clear hel HT HE
      obtain ⟨r, hr⟩ : ∃ r, fsF (foC (l.take (k + 1))) = r := ⟨_, rfl⟩
      rw [hr] at HC0
      replace hr := Lib.hid hr
      generalize fsF (foC (l.take k)) = x at *
      generalize l[k] = q at *
      obtain ⟨cn, ci, ct⟩ := q
      obtain ⟨xc, xh, xu, xs, ⟨xln, xli, xlt⟩, ⟨xhn, xhi, xht⟩⟩ := x
      obtain ⟨rc, rh, ru, rs, ⟨rln, rli, rlt⟩, ⟨rhn, rhi, rht⟩⟩ := r
      have HC := HC0
      clear HC0
      unfold fsV fsC clV clC at HC
      dsimp only at *
      obtain ⟨s0, s1, s2, s3, s4, s5, s6, s7, s8, s9⟩ := fsB_cells SB.out
      dsimp only at s0 s1 s2 s3 s4 s5 s6 s7 s8 s9
      go_wp2
      refine wp_region_K (fun W' => W'.cell? ⟨D, 0, none⟩ = some (.int .i64 xc) ∧ W'.cell? ⟨D, 1, none⟩ = some (.int .i64 xh) ∧ W'.cell? ⟨D, 2, none⟩ = some (.int .i64 xu) ∧ W'.cell? ⟨D, 3, none⟩ = some (.bool xs) ∧ W'.cell? ⟨D, 4, none⟩ = some (.bool xln) ∧ W'.cell? ⟨D, 5, none⟩ = some (.int .i64 xli) ∧ W'.cell? ⟨D, 6, none⟩ = some (.string ⟨xlt.toArray⟩) ∧ W'.cell? ⟨D, 7, none⟩ = some (.bool xhn) ∧ W'.cell? ⟨D, 8, none⟩ = some (.int .i64 xhi) ∧ W'.cell? ⟨D, 9, none⟩ = some (.string ⟨xht.toArray⟩) ∧ W'.cell? (a.add (k * 3)) = some (.bool cn) ∧ W'.cell? { block := (a.add (k * 3)).block, off := (a.add (k * 3)).off + 1 } = some (.int .i64 ci) ∧ W'.cell? { block := (a.add (k * 3)).block, off := (a.add (k * 3)).off + 2 } = some (.string ⟨ct.toArray⟩)) 6 (by kernel_rfl) ?_
      obtain ⟨V, hV⟩ : ∃ V, V = wr.drew := ⟨_, rfl⟩
      rw [← hV]
      have FV : Fr Non wr V := by rw [hV]; exact (Fr.refl Non wr).drew
      clear hV
      have hHeld : (fun W' : World => W'.cell? ⟨D, 0, none⟩ = some (.int .i64 xc) ∧ W'.cell? ⟨D, 1, none⟩ = some (.int .i64 xh) ∧ W'.cell? ⟨D, 2, none⟩ = some (.int .i64 xu) ∧ W'.cell? ⟨D, 3, none⟩ = some (.bool xs) ∧ W'.cell? ⟨D, 4, none⟩ = some (.bool xln) ∧ W'.cell? ⟨D, 5, none⟩ = some (.int .i64 xli) ∧ W'.cell? ⟨D, 6, none⟩ = some (.string ⟨xlt.toArray⟩) ∧ W'.cell? ⟨D, 7, none⟩ = some (.bool xhn) ∧ W'.cell? ⟨D, 8, none⟩ = some (.int .i64 xhi) ∧ W'.cell? ⟨D, 9, none⟩ = some (.string ⟨xht.toArray⟩) ∧ W'.cell? (a.add (k * 3)) = some (.bool cn) ∧ W'.cell? { block := (a.add (k * 3)).block, off := (a.add (k * 3)).off + 1 } = some (.int .i64 ci) ∧ W'.cell? { block := (a.add (k * 3)).block, off := (a.add (k * 3)).off + 2 } = some (.string ⟨ct.toArray⟩)) V := (by exact ⟨FV.at0 s0, FV.at0 s1, FV.at0 s2, FV.at0 s3, FV.at0 s4, FV.at0 s5, FV.at0 s6, FV.at0 s7, FV.at0 s8, FV.at0 s9, FV.at0 t0, FV.at0 t1, FV.at0 t2⟩)
      refine wpAnyK_take (i := 0) (oi := ⟨some 12, _, _, _, _, none⟩) (v := ?v1) rfl (by kernel_rfl) (by kernel_rfl) (by kernel_rfl) (fun _ _ _ h => h) (by kernel_rfl) (by decide) (Or.inl ⟨by rfl, ?hy1⟩) (by assumption) ?rest1
      case hy1 => (intro wS hSw; (try dsimp only at hSw); go_simp; (try with_reducible rfl))
      (try simp only [Act.put, List.setIfInBounds_toArray, List.set_cons_zero, List.set_cons_succ])
      refine wpAnyK_take (i := 1) (oi := ⟨some 13, _, _, _, _, none⟩) (v := ?v2) rfl (by kernel_rfl) (by kernel_rfl) (by kernel_rfl) (fun _ _ _ h => h) (by kernel_rfl) (by decide) (Or.inl ⟨by rfl, ?hy2⟩) (by assumption) ?rest2
      case hy2 => (intro wS hSw; (try dsimp only at hSw); go_simp; (try with_reducible rfl))
      (try simp only [Act.put, List.setIfInBounds_toArray, List.set_cons_zero, List.set_cons_succ])
      refine wpAnyK_take (i := 2) (oi := ⟨some 14, _, _, _, _, none⟩) (v := ?v3) rfl (by kernel_rfl) (by kernel_rfl) (by kernel_rfl) (fun _ _ _ h => h) (by kernel_rfl) (by decide) (Or.inl ⟨by rfl, ?hy3⟩) (by assumption) ?rest3
      case hy3 => (intro wS hSw; (try dsimp only at hSw); go_simp; (try with_reducible rfl))
      (try simp only [Act.put, List.setIfInBounds_toArray, List.set_cons_zero, List.set_cons_succ])
      refine wpAnyK_take (i := 3) (oi := ⟨some 15, _, _, _, _, none⟩) (v := ?v4) rfl (by kernel_rfl) (by kernel_rfl) (by kernel_rfl) (fun _ _ _ h => h) (by kernel_rfl) (by decide) (Or.inl ⟨by rfl, ?hy4⟩) (by assumption) ?rest4
      case hy4 => (intro wS hSw; (try dsimp only at hSw); go_simp; (try with_reducible rfl))
      (try simp only [Act.put, List.setIfInBounds_toArray, List.set_cons_zero, List.set_cons_succ])
      refine wpAnyK_take (i := 4) (oi := ⟨some 16, _, _, _, _, none⟩) (v := ?v5) rfl (by kernel_rfl) (by kernel_rfl) (by kernel_rfl) (fun _ _ _ h => h) (by kernel_rfl) (by decide) (Or.inl ⟨by rfl, ?hy5⟩) (by assumption) ?rest5
      case hy5 => (intro wS hSw; (try dsimp only at hSw); go_simp; (try with_reducible rfl))
      (try simp only [Act.put, List.setIfInBounds_toArray, List.set_cons_zero, List.set_cons_succ])
      refine wpAnyK_one (i := 5) (o := ⟨some 17, _, _, _, _, none⟩) (by kernel_rfl) rfl (fun K hK => ?_)
      go_simp
      go_at_call 14
      refine (HC.out _).mono ?_
      rintro e X2 ⟨rfl, fX⟩
      have fX' := FV.trans fX
      go_wp2_with fail
      refine hK.out _ _ (fun _ => (by exact ⟨fX'.at0 s0, fX'.at0 s1, fX'.at0 s2, fX'.at0 s3, fX'.at0 s4, fX'.at0 s5, fX'.at0 s6, fX'.at0 s7, fX'.at0 s8, fX'.at0 s9, fX'.at0 t0, fX'.at0 t1, fX'.at0 t2⟩)) ?_
      clear hK K
      (try simp only [Act.put, List.setIfInBounds_toArray, List.set_cons_zero, List.set_cons_succ])
      have RV : FsB X2 D ⟨xc, xh, xu, xs, ⟨xln, xli, xlt⟩, ⟨xhn, xhi, xht⟩⟩ := SB.out.fr fX' (fun e => e)
      obtain ⟨p0, p1, p2, p3, p4, p5, p6, p7, p8, p9⟩ := fsB_cells RV
      obtain ⟨z0, z1, z2, z3, z4, z5, z6, z7, z8, z9⟩ := fsB_froz RV
      dsimp only at p0 p1 p2 p3 p4 p5 p6 p7 p8 p9
      obtain ⟨W6, hW6⟩ : ∃ W, W = setFs X2 D ⟨rc, rh, ru, rs, ⟨rln, rli, rlt⟩, ⟨rhn, rhi, rht⟩⟩ := ⟨_, rfl⟩
      have w6f : Fr (One D) X2 W6 := by rw [hW6]; exact setFs_fr _ _ _
      have J6 := setFs_B RV ⟨rc, rh, ru, rs, ⟨rln, rli, rlt⟩, ⟨rhn, rhi, rht⟩⟩
      rw [← hW6] at J6
      unfold setFs setFsN setFsL setFsH at hW6
      dsimp only at hW6
      refine wpAnyK_one (i := 6) (o := ⟨none, _, _, _, _, none⟩) (by kernel_rfl) rfl (fun K hK => ?_)
      go_simp
      rw [← hW6]
      clear hW6 p0 p1 p2 p3 p4 p5 p6 p7 p8 p9 z0 z1 z2 z3 z4 z5 z6 z7 z8 z9
      refine hK.out _ _ (fun h => absurd h (by simp)) ?_
      clear hK K
      (try simp only [Act.put, List.setIfInBounds_toArray, List.set_cons_zero, List.set_cons_succ])
      refine wpAnyK_done (by kernel_rfl) ?_ _
      clear hHeld RV s0 s1 s2 s3 s4 s5 s6 s7 s8 s9 t0 t1 t2
      replace J6 := Lib.hid J6
      replace w6f := Lib.hid w6f
      replace fX := Lib.hid fX'
      clear fX' FV
      have F6 := Lib.hid (FR.out.fresh (fX.out.any.trans w6f.out) (fun q e => by have : q = D := e; have := HG.out; omega))
      have RB6 := Lib.hid ((RB.out.fr fX.out (fun e => e)).fr w6f.out (fun e => by have : g = D := e; omega))
      clear RB FR SB fX w6f
      go_wp2
      go_roundw
      case rel => exact ⟨k + 1, by omega, by go_num, by rw [hr.out]; exact J6, RB6, F6⟩
      case measure => simp [intOf]; omega
    · have hke : k = l.length := by omega
      rw [hke, List.take_length] at SB
      obtain ⟨x, hx⟩ : ∃ x, fsF (foC l) = x := ⟨_, rfl⟩
      rw [hx] at SB
      replace hx := Lib.hid hx
      obtain ⟨xc, xh, xu, xs, ⟨xln, xli, xlt⟩, ⟨xhn, xhi, xht⟩⟩ := x
      obtain ⟨s0, s1, s2, s3, s4, s5, s6, s7, s8, s9⟩ := fsB_cells SB.out
      obtain ⟨p0, p1, p2, p3, p4, p5, p6, p7, p8, p9⟩ := fsB_cells RB.out
      obtain ⟨z0, z1, z2, z3, z4, z5, z6, z7, z8, z9⟩ := fsB_froz RB.out
      dsimp only at s0 s1 s2 s3 s4 s5 s6 s7 s8 s9 p0 p1 p2 p3 p4 p5 p6 p7 p8 p9
      have HE := Lib.hid (setFs_B RB.out ⟨xc, xh, xu, xs, ⟨xln, xli, xlt⟩, ⟨xhn, xhi, xht⟩⟩)
      have FE := Lib.hid (FR.out.fresh (setFs_fr wr g ⟨xc, xh, xu, xs, ⟨xln, xli, xlt⟩, ⟨xhn, xhi, xht⟩⟩) (fun q e => by have : q = g := e; have := HG.out; omega))
      unfold setFs setFsN setFsL setFsH at HE FE
      dsimp only at HE FE
      clear hke SB RB FR HV
      go_wp2
      exact bodyPost_ret (v := fsV ⟨xc, xh, xu, xs, ⟨xln, xli, xlt⟩, ⟨xhn, xhi, xht⟩⟩) (ret_fs (p := 2) rfl _ _ g ⟨xc, xh, xu, xs, ⟨xln, xli, xlt⟩, ⟨xhn, xhi, xht⟩⟩ (by rfl) HE.out) rfl ⟨by rw [hx.out], FE.out⟩

theorem clf_num (n : Bool) (i : Int) (t : ByteArray) (W : World) : (Instr.field 26 (.agg #[.bool n, .int .i64 i, .string t]) 1).run Try.prog W = .ok (.int .i64 i) W := by kernel_rfl
theorem ex22 : fsF (foC [⟨false, 5, []⟩, ⟨true, 0, []⟩, ⟨false, 7, []⟩]) = ⟨3, 2, 12, true, ⟨false, 5, []⟩, ⟨false, 7, []⟩⟩ := by decide +kernel
set_option maxHeartbeats 2000000 in
theorem live22_any (w : World) : Calls Try.prog 7 #[] w fun e w' => e = .returned (.bool true) ∧ Fr Non w w' := by
  obtain ⟨W0, hW0⟩ : ∃ W, W = w.alloc (.cells #[.bool false, .int .i64 5, .string ⟨#[]⟩, .bool true, .int .i64 0, .string ⟨#[]⟩, .bool false, .int .i64 7, .string ⟨#[]⟩] 26) := ⟨_, rfl⟩
  have hO : Oc W0 0 (.slice (some ⟨w.heap.size, 0, none⟩) 3 3) [⟨false, 5, []⟩, ⟨true, 0, []⟩, ⟨false, 7, []⟩] := by rw [hW0]; exact oc_lit w 0 _ [⟨false, 5, []⟩, ⟨true, 0, []⟩, ⟨false, 7, []⟩] _ rfl rfl (Nat.zero_le _) (by decide)
  have F0 : Fr Non w W0 := by rw [hW0]; exact (Fr.refl Non w).alloc _
  have HO := lfof_any _ _ _ hO.cs (by decide)
  rw [ex22] at HO
  replace HO := Lib.hid HO
  clear hO
  replace F0 := Lib.hid F0
  have V1 : Hid (∀ W, Calls Try.prog 9 #[fsV ⟨3, 2, 12, true, ⟨false, 5, []⟩, ⟨false, 7, []⟩⟩, .int .i64 1] W fun e w' => e = .returned (clV ⟨false, 3, []⟩) ∧ Fr Non W w') := Lib.hid (fun W => fval_any 1 ⟨3, 2, 12, true, ⟨false, 5, []⟩, ⟨false, 7, []⟩⟩ W)
  have V2 : Hid (∀ W, Calls Try.prog 9 #[fsV ⟨3, 2, 12, true, ⟨false, 5, []⟩, ⟨false, 7, []⟩⟩, .int .i64 2] W fun e w' => e = .returned (clV ⟨false, 2, []⟩) ∧ Fr Non W w') := Lib.hid (fun W => fval_any 2 ⟨3, 2, 12, true, ⟨false, 5, []⟩, ⟨false, 7, []⟩⟩ W)
  have V3 : Hid (∀ W, Calls Try.prog 9 #[fsV ⟨3, 2, 12, true, ⟨false, 5, []⟩, ⟨false, 7, []⟩⟩, .int .i64 3] W fun e w' => e = .returned (clV ⟨false, 12, []⟩) ∧ Fr Non W w') := Lib.hid (fun W => fval_any 3 ⟨3, 2, 12, true, ⟨false, 5, []⟩, ⟨false, 7, []⟩⟩ W)
  have V4 : Hid (∀ W, Calls Try.prog 9 #[fsV ⟨3, 2, 12, true, ⟨false, 5, []⟩, ⟨false, 7, []⟩⟩, .int .i64 4] W fun e w' => e = .returned (clV ⟨false, 5, []⟩) ∧ Fr Non W w') := Lib.hid (fun W => fval_any 4 ⟨3, 2, 12, true, ⟨false, 5, []⟩, ⟨false, 7, []⟩⟩ W)
  have V5 : Hid (∀ W, Calls Try.prog 9 #[fsV ⟨3, 2, 12, true, ⟨false, 5, []⟩, ⟨false, 7, []⟩⟩, .int .i64 5] W fun e w' => e = .returned (clV ⟨false, 7, []⟩) ∧ Fr Non W w') := Lib.hid (fun W => fval_any 5 ⟨3, 2, 12, true, ⟨false, 5, []⟩, ⟨false, 7, []⟩⟩ W)
  have VT : Hid (∀ W, Calls Try.prog 11 #[.int .i64 4, .int .i64 3] W fun e w' => e = .returned (.int .i64 3) ∧ W = w') := Lib.hid (fun W => ftype_any 4 3 W)
  have hcf := clf_num
  unfold fsV fsC clV clC at *
  dsimp only at *
  go_enter Try.func7, Try.ntmps7
  go_wp2_with fail
  rw [← hW0]
  clear hW0
  refine HO.out.mono ?_
  rintro e w1 ⟨rfl, f1⟩
  obtain ⟨D, hD⟩ : ∃ D, w1.heap.size = D := ⟨_, rfl⟩
  have SB : FsB (w1.alloc (.cells #[.int .i64 3, .int .i64 2, .int .i64 12, .bool true, .bool false, .int .i64 5, .string ⟨#[]⟩, .bool false, .int .i64 7, .string ⟨#[]⟩] 28)) D ⟨3, 2, 12, true, ⟨false, 5, []⟩, ⟨false, 7, []⟩⟩ := fs_new w1 ⟨3, 2, 12, true, ⟨false, 5, []⟩, ⟨false, 7, []⟩⟩ D hD
  have FF := (F0.out.trans f1).alloc (.cells #[.int .i64 3, .int .i64 2, .int .i64 12, .bool true, .bool false, .int .i64 5, .string ⟨#[]⟩, .bool false, .int .i64 7, .string ⟨#[]⟩] 28)
  replace SB := Lib.hid SB
  replace FF := Lib.hid FF
  clear f1 HO F0
  obtain ⟨s0, s1, s2, s3, s4, s5, s6, s7, s8, s9⟩ := fsB_cells SB.out
  dsimp only at s0 s1 s2 s3 s4 s5 s6 s7 s8 s9
  go_wp2_with fail
  refine (V1.out _).mono ?_
  rintro e x1 ⟨rfl, f1⟩
  replace SB : Hid (FsB x1 D ⟨3, 2, 12, true, ⟨false, 5, []⟩, ⟨false, 7, []⟩⟩) := Lib.hid (SB.out.fr f1 (fun e => e))
  replace FF := Lib.hid (FF.out.trans f1)
  clear s0 s1 s2 s3 s4 s5 s6 s7 s8 s9 f1 V1
  obtain ⟨s0, s1, s2, s3, s4, s5, s6, s7, s8, s9⟩ := fsB_cells SB.out
  dsimp only at s0 s1 s2 s3 s4 s5 s6 s7 s8 s9
  go_wp2_with fail
  refine (V2.out _).mono ?_
  rintro e x2 ⟨rfl, f2⟩
  replace SB : Hid (FsB x2 D ⟨3, 2, 12, true, ⟨false, 5, []⟩, ⟨false, 7, []⟩⟩) := Lib.hid (SB.out.fr f2 (fun e => e))
  replace FF := Lib.hid (FF.out.trans f2)
  clear s0 s1 s2 s3 s4 s5 s6 s7 s8 s9 f2 V2
  obtain ⟨s0, s1, s2, s3, s4, s5, s6, s7, s8, s9⟩ := fsB_cells SB.out
  dsimp only at s0 s1 s2 s3 s4 s5 s6 s7 s8 s9
  go_wp2_with fail
  refine (V3.out _).mono ?_
  rintro e x3 ⟨rfl, f3⟩
  replace SB : Hid (FsB x3 D ⟨3, 2, 12, true, ⟨false, 5, []⟩, ⟨false, 7, []⟩⟩) := Lib.hid (SB.out.fr f3 (fun e => e))
  replace FF := Lib.hid (FF.out.trans f3)
  clear s0 s1 s2 s3 s4 s5 s6 s7 s8 s9 f3 V3
  obtain ⟨s0, s1, s2, s3, s4, s5, s6, s7, s8, s9⟩ := fsB_cells SB.out
  dsimp only at s0 s1 s2 s3 s4 s5 s6 s7 s8 s9
  go_wp2_with fail
  refine (V4.out _).mono ?_
  rintro e x4 ⟨rfl, f4⟩
  replace SB : Hid (FsB x4 D ⟨3, 2, 12, true, ⟨false, 5, []⟩, ⟨false, 7, []⟩⟩) := Lib.hid (SB.out.fr f4 (fun e => e))
  replace FF := Lib.hid (FF.out.trans f4)
  clear s0 s1 s2 s3 s4 s5 s6 s7 s8 s9 f4 V4
  obtain ⟨s0, s1, s2, s3, s4, s5, s6, s7, s8, s9⟩ := fsB_cells SB.out
  dsimp only at s0 s1 s2 s3 s4 s5 s6 s7 s8 s9
  go_wp2_with fail
  refine (V5.out _).mono ?_
  rintro e x5 ⟨rfl, f5⟩
  replace SB : Hid (FsB x5 D ⟨3, 2, 12, true, ⟨false, 5, []⟩, ⟨false, 7, []⟩⟩) := Lib.hid (SB.out.fr f5 (fun e => e))
  replace FF := Lib.hid (FF.out.trans f5)
  clear s0 s1 s2 s3 s4 s5 s6 s7 s8 s9 f5 V5
  go_wp2_with fail
  refine (VT.out _).mono ?_
  rintro e w7 ⟨rfl, rfl⟩
  go_wp2
  go_ret
  exact ⟨rfl, FF.out⟩
end Go.Proofs.Ytincapmagennmaa


namespace Go.Proofs.Ytincapmagennmaa
set_option linter.unusedVariables false
set_option linter.unusedSimpArgs false
set_option maxRecDepth 100000
open Go.RowKit

set_option maxHeartbeats 1000000 in
theorem smallC_any (v : Value) (l : List Cl) (w : World) (hv : Cs w v l) :
    Calls Try.prog 6 #[v] w fun e w' => ∃ b, e = .returned (.bool b) ∧ (b = true → l.length ≤ 100) ∧ Fr Non w w' := by
  obtain ⟨A, c, rfl, hlc, hn, hcell⟩ := hv
  have HC := Lib.hid hcell
  have HN := Lib.hid hn
  clear hcell hn
  go_enter Try.func6, Try.ntmps6
  go_wp2
  go_loopw [3] (fun i wr => ∃ (k : Nat), k ≤ l.length ∧ k ≤ 200 ∧ i = .int .i64 k ∧ Fr Non w wr) (fun i _ => 200 - (intOf i).toNat)
  case atStart => exact ⟨0, Nat.zero_le _, Nat.zero_le _, rfl, Fr.refl _ _⟩
  case round =>
    obtain ⟨k, hk, hk2, rfl, hfr⟩ := hrel
    by_cases hlt : k < l.length
    · by_cases h200 : k < 200
      · cases A with
        | none => have := HN.out rfl; omega
        | some a =>
          obtain ⟨hc0, hc1, hc2⟩ := (hfr.at3 (HC.out a rfl k hlt)).lit
          generalize l[k] = x at *
          obtain ⟨xn, xi, xt⟩ := x
          dsimp only at hc0 hc1 hc2
          have hs := slen xt
          by_cases hx : 60 < xt.length
          · go_wp2
            go_ret
            exact ⟨false, rfl, (fun h => by cases h), hfr⟩
          · go_wp2
            go_roundw
            case rel => exact ⟨k + 1, by omega, by omega, by go_num, hfr⟩
            case measure => simp [intOf]; omega
      · go_wp2
        go_ret
        exact ⟨_, rfl, (fun h => by have := of_decide_eq_true h; omega), hfr⟩
    · go_wp2
      go_ret
      exact ⟨_, rfl, (fun h => by have := of_decide_eq_true h; omega), hfr⟩
end Go.Proofs.Ytincapmagennmaa


namespace Go.Proofs.Ytincapmagennmaa
set_option linter.unusedVariables false
set_option linter.unusedSimpArgs false
set_option maxRecDepth 100000
open Go.RowKit

/-- append of a slice of cells onto a row of the call's own: the operation alone -/
theorem wp_appC {w : World} {o : Oper} {a : Act} {K : Act → World → Prop} {Q : Exit → Act → World → Prop} (s x : Operand)
    (ho : o.op = .call { callee := .builtin .append, args := #[s, x], argTypes := #[22, 22] })
    (B : Nat) (v y : Value) (l m : List Cl) (hs : a.eval s = v) (hown : Oc w B v l) (hx : a.eval x = y) (hy : Cs w y m)
    (hl : l.length + m.length < 4398046511104) (hB : B ≤ w.heap.size)
    (h : ∀ v' w', Oc w' B v' (l ++ m) → Fr (fun k => v.ownBlock = some k) w w' → K (a.put o.dst v') w') : o.wp Try.prog a w K Q := by
  obtain ⟨ii, hi, hz0, hz1, hz2⟩ := info_parts info_cl
  obtain ⟨A, c, rfl, hmc, hn, hcells⟩ := hy
  cases A with
  | some ad =>
    refine wp_append_own w s x _ ho B 26 ii _ 3 32 Try.underlying22 hi hz0 hz1 hz2 rfl (by omega) v l.length (clsL l) hs hown ad m.length c (clsL m) hx (clsL_len m) ?_ (clsL_one' m) (by unfold maxLen; omega) (by omega) hB ?_
    · intro j u hu
      have hj : j < m.length * 3 := by rw [← clsL_len]; exact (List.getElem?_eq_some_iff.1 hu).1
      have hat := clsL_at m (j / 3) (j % 3) (by omega) (Nat.mod_lt _ (by omega))
      rw [show j / 3 * 3 + j % 3 = j by omega, hu] at hat
      have h3 := hcells ad rfl (j / 3) (by omega)
      have e : ad.add j = (ad.add (j / 3 * 3)).add (j % 3) := by rw [add_add, show j / 3 * 3 + j % 3 = j by omega]
      rw [e]
      have hm : j % 3 = 0 ∨ j % 3 = 1 ∨ j % 3 = 2 := by omega
      rcases hm with hm | hm | hm <;> rw [hm] at hat ⊢
      · have := h3.c0; simp [clL] at hat; rw [hat, show ∀ p : Addr, p.add 0 = p from fun p => by simp [Addr.add]]; exact this
      · have := h3.c1; simp [clL] at hat; rw [hat]; exact this
      · have := h3.c2; simp [clL] at hat; rw [hat]; exact this
    · intro v' w' h1 h2 _
      refine h v' w' ?_ (Fr.of_grown h2)
      unfold Oc
      rw [clsL_app, List.length_append]
      exact h1
  | none =>
    have hm : m = [] := List.eq_nil_of_length_eq_zero (by have := hn rfl; omega)
    subst hm
    have hc : c = 0 := hn rfl
    subst hc
    have hrun := run_append_owned_none (P := Try.prog) (w := w) B 22 o.type 26 ii 3 Try.underlying22 hi v l.length (clsL l) hown
    unfold Oper.wp
    have hx' : a.eval x = .slice none 0 0 := hx
    simp [execOp, ho, resolve, invoke, builtin, hs, hx', hrun, Result.andThen]
    exact h v w (by simpa using hown) (Fr.refl _ _)
/-- .. as a step, guarded or not -/
theorem wpList_appC {w : World} {ops : Array Oper} {rest : List Oper} {o : Oper} {a : Act} {Q : Exit → Act → World → Prop} (hw : Region.wanted o (yielded ops a.tmps) = true) (s x : Operand)
    (ho : o.op = .call { callee := .builtin .append, args := #[s, x], argTypes := #[22, 22] })
    (B : Nat) (v y : Value) (l m : List Cl) (hs : a.eval s = v) (hown : Oc w B v l) (hx : a.eval x = y) (hy : Cs w y m)
    (hl : l.length + m.length < 4398046511104) (hB : B ≤ w.heap.size)
    (h : ∀ v' w', Oc w' B v' (l ++ m) → Fr (fun k => v.ownBlock = some k) w w' → wpList Try.prog ops Q rest (a.put o.dst v') w') : wpList Try.prog ops Q (o :: rest) a w :=
  BigFrame.wpList_want hw fun _ hK => wp_appC s x ho B v y l m hs hown hx hy hl hB fun v' w' h1 h2 => hK _ _ (h v' w' h1 h2)
end Go.Proofs.Ytincapmagennmaa


namespace Go.Proofs.Ytincapmagennmaa
set_option linter.unusedVariables false
set_option linter.unusedSimpArgs false
set_option maxRecDepth 100000
open Go.RowKit

theorem sz_clP (w : World) : (sizeOf (Try.prog.elem 22)).run Try.prog w = .ok 3 w := by kernel_rfl
theorem slice_hiCs (A : Option Addr) (n c k : Nat) (kl : IntKind) (y : Int) (hy : y = (k : Int)) (hk : k ≤ n) (hn : n ≤ c) :
    ∃ A' c', (∀ W, (Instr.slice 22 (.slice A n c) none (some (.int kl y)) none).run Try.prog W = .ok (.slice A' k c') W) ∧
      (∀ W (l : List Cl), Cs W (.slice A n c) l → Cs W (.slice A' k c') (l.take k)) := by
  subst hy
  refine ⟨if c = 0 then A else A.map (·.add 0), c, fun W => ?_, ?_⟩
  · rw [run_slice_any W 22 A n c (by kernel_rfl)]
    have hb : (Instr.sliceBounds true n c none (some (.int kl (k : Int))) none).run Try.prog W = .ok (0, k, c) W := by
      simp [Instr.sliceBounds, run_sliceBound, show (k : Int) ≤ c by omega]
    rw [hb]
    simp only [Result.andThen_ok, sz_clP]
    simp [sliced]
  · rintro W l ⟨A0, c0, he, h1, h2, h3⟩
    simp only [Value.slice.injEq] at he
    obtain ⟨rfl, rfl, rfl⟩ := he
    refine ⟨if c = 0 then A else A.map (·.add 0), c, by rw [List.length_take, Nat.min_eq_left hk], by rw [List.length_take]; omega, fun e => ?_, fun a ha j hj => ?_⟩
    · split at e
      · have := h2 e; omega
      · have := h2 (by simpa using e); omega
    · rw [List.length_take] at hj
      rw [if_neg (by omega)] at ha
      cases A with
      | none => cases ha
      | some b =>
        obtain rfl : b.add 0 = a := by simpa using ha
        have h4 := h3 b rfl j (by omega)
        rw [add_add, Nat.zero_add, List.getElem_take]
        exact h4
theorem slice_loCs (A : Option Addr) (n c j : Nat) (kl : IntKind) (y : Int) (hy : y = (j : Int)) (hj : j ≤ n) (hn : n ≤ c) :
    ∃ A' c', (∀ W, (Instr.slice 22 (.slice A n c) (some (.int kl y)) none none).run Try.prog W = .ok (.slice A' (n - j) c') W) ∧
      (∀ W (l : List Cl), Cs W (.slice A n c) l → Cs W (.slice A' (n - j) c') (l.drop j)) := by
  subst hy
  refine ⟨if c = j then A else A.map (·.add (j * 3)), c - j, fun W => ?_, ?_⟩
  · rw [run_slice_any W 22 A n c (by kernel_rfl)]
    have hb : (Instr.sliceBounds true n c (some (.int kl (j : Int))) none none).run Try.prog W = .ok (j, n, c) W := by
      simp [Instr.sliceBounds, run_sliceBound, hj, hn]
    rw [hb]
    simp only [Result.andThen_ok, sz_clP]
    simp [sliced]
  · rintro W l ⟨A0, c0, he, h1, h2, h3⟩
    simp only [Value.slice.injEq] at he
    obtain ⟨rfl, rfl, rfl⟩ := he
    refine ⟨if c = j then A else A.map (·.add (j * 3)), c - j, by rw [List.length_drop], by rw [List.length_drop]; omega, fun e => ?_, fun a ha i hi => ?_⟩
    · split at e
      · have := h2 e; omega
      · have := h2 (by simpa using e); omega
    · rw [List.length_drop] at hi
      rw [if_neg (by omega)] at ha
      cases A with
      | none => cases ha
      | some b =>
        obtain rfl : b.add (j * 3) = a := by simpa using ha
        have h4 := h3 b rfl (j + i) (by omega)
        rw [List.getElem_drop, add_add, ← Nat.add_mul]
        exact h4
end Go.Proofs.Ytincapmagennmaa


namespace Go.Proofs.Ytincapmagennmaa
set_option linter.unusedVariables false
set_option linter.unusedSimpArgs false
set_option maxRecDepth 100000
open Go.ChangeShapes Go.WideShapes Go.ChangeAt Go.RowKit

theorem frame_own : ownKnob Try.prog.godebug = none := by kernel_rfl
theorem frame_laidOut : laidOutB Try.prog = true := by kernel_rfl

/-- every argument reads as it did -/
theorem trodAll_below {H : Type} {enc : TypeId × Value → H} {W W' : World} (hb : Below W.heap.size W W') :
    ∀ (ts : List TypeId) (vs : List Value) (ds : List (DataW H)) (ps : List MemPlace), (∀ t ∈ ts, Try.prog.readableRec t = true ∧ t < Try.prog.types.size) →
      DataW.TrodAll enc Try.prog W 0 (fun _ => true) true ts vs ds ps → DataW.TrodAll enc Try.prog W' 0 (fun b => decide (b < W.heap.size)) true ts vs ds ps := by
  intro ts
  induction ts with
  | nil => intro vs ds ps _ h; cases vs <;> cases ds <;> simp_all [DataW.TrodAll]
  | cons t ts ih =>
    intro vs ds ps hr h
    cases vs with
    | nil => cases ds <;> simp_all [DataW.TrodAll]
    | cons v vs =>
      cases ds with
      | nil => simp_all [DataW.TrodAll]
      | cons d ds =>
        obtain ⟨p, q, h1, h2, rfl⟩ := h
        have hlt : ∀ x ∈ p, x.block < W.heap.size := by obtain ⟨m, hm⟩ := h1; exact DataW.trod_lt m _ _ _ hm
        have ht := hr t (List.mem_cons_self ..)
        exact ⟨p, q, Below.trod frame_laidOut ht.1 ht.2 h1 hb hlt, ih vs ds q (fun u hu => hr u (List.mem_cons_of_mem _ hu)) h2, rfl⟩

noncomputable def typesOk (ts : List TypeId) : Bool := ts.all fun t => Try.prog.readableRec t && decide (t < Try.prog.types.size)
theorem types_ok (ts : List TypeId) (h : typesOk ts = true) : ∀ t ∈ ts, Try.prog.readableRec t = true ∧ t < Try.prog.types.size := by
  intro t ht
  have := List.all_eq_true.1 h t ht
  simpa using this

/-- a slice that came in: nil, or it leads into a block that is there -/
theorem slice_in {W : World} {base : Nat} {t e : TypeId} {v : Value} (ht : Try.prog.underlying t = some (.slice e)) (hv : Value.okWide Try.prog W .any base t v) :
    v = .slice none 0 0 ∨ ∃ b o n c, v = .slice (some ⟨b, o, none⟩) n c ∧ n ≤ c ∧ b < W.heap.size := by
  obtain ⟨a, n, c, rfl⟩ := okWide_slice ht hv
  simp only [Value.okWide, ht, Cell.okWide] at hv
  cases a with
  | none =>
    left
    simp only [Cell.ok, ht] at hv
    cases n <;> cases c <;> simp_all
  | some a =>
    right
    simp only [Cell.ok, ht] at hv
    obtain ⟨h1, _, _, h2, row, cells, h3, _⟩ := hv
    obtain ⟨b, o, sp⟩ := a
    simp only at h2 h3
    subst h2
    refine ⟨b, o, n, c, rfl, h1, ?_⟩
    rcases Nat.lt_or_ge b W.heap.size with h | h
    · exact h
    · unfold World.shape? at h3
      rw [Array.getElem?_eq_none h] at h3
      cases h3

/-- bytes that came in -/
theorem bs_in {H : Type} {enc : TypeId × Value → H} {W : World} {base : Nat} {v : Value} {d : DataW H} {p : List MemPlace} (hv : Value.okWide Try.prog W .any base 36 v)
    (h : DataW.Trod enc Try.prog W 0 (fun _ => true) true 36 v d p) : ∃ l, Bs W v l ∧ l.length ≤ maxLen ∧ ∀ k, v.ownBlock = some k → k < W.heap.size := by
  rcases slice_in Try.underlying36 hv with rfl | ⟨b, o, len0, cap0, rfl, _, hblt⟩
  · exact ⟨[], Bs.nil_ W, Nat.zero_le _, fun _ h => by cases h⟩
  obtain ⟨fuel, hf⟩ := h
  rcases open_ints Try.underlying36 Try.underlying5 (by kernel_rfl) hf with ⟨hcs, _⟩ | ⟨x, l, c, zs, hcs, _, hl, hm, hz, _, hcell, hwz⟩
  · simp [Value.cells] at hcs
  · simp [Value.cells] at hcs
    obtain ⟨rfl, rfl, rfl⟩ := hcs
    have hzl : zs.length = cap0 := by simpa using hz
    have hlen : ((zs.take len0).map fun n => UInt8.ofNat n.toNat).length = len0 := by simp; omega
    refine ⟨(zs.take len0).map fun n => UInt8.ofNat n.toNat, ⟨_, cap0, by rw [hlen], by rw [hlen]; exact hl, (fun h => by cases h), fun a ha j hj => ?_⟩, by rw [hlen]; omega, fun k hk => ?_⟩
    · cases ha
      rw [hlen] at hj
      rw [hcell j (by omega)]
      have hw := hwz (zs.getD j 0) (by rw [← List.getElem_eq_getD (h := by omega) 0]; exact List.getElem_mem _)
      have hb : 0 ≤ zs.getD j 0 ∧ zs.getD j 0 ≤ 255 := by simpa [Lit.wf, IntKind.min, IntKind.max, IntKind.signed, IntKind.bits] using hw
      have he : ((zs.take len0).map fun n => UInt8.ofNat n.toNat)[j]'(by rw [hlen]; exact hj) = UInt8.ofNat (zs.getD j 0).toNat := by
        rw [List.getElem_map, List.getElem_take, ← List.getElem_eq_getD (h := by omega) 0]
      rw [he]
      unfold bv
      rw [show ((UInt8.ofNat (zs.getD j 0).toNat).toNat : Int) = zs.getD j 0 by rw [UInt8.toNat_ofNat']; omega]
    · simp [Value.ownBlock] at hk
      omega

theorem wf_i64_bd {n : Int} (h : (Lit.int .i64 n).wf = true) : -9223372036854775808 ≤ n ∧ n ≤ 9223372036854775807 := by
  simpa [Lit.wf, IntKind.min, IntKind.max, IntKind.signed, IntKind.bits] using h
end Go.Proofs.Ytincapmagennmaa


namespace Go.Proofs.Ytincapmagennmaa
set_option linter.unusedVariables false
set_option linter.unusedSimpArgs false
set_option maxRecDepth 100000
open Go.ChangeShapes Go.WideShapes Go.ChangeAt Go.RowKit

theorem choose_listG {α : Type} (P : Nat → α → Prop) : ∀ (n : Nat), (∀ i, i < n → ∃ x, P i x) → ∃ l : List α, l.length = n ∧ ∀ i (h : i < l.length), P i l[i]
  | 0, _ => ⟨[], rfl, fun i h => by simp at h⟩
  | n + 1, h => by
    obtain ⟨l, hl, hp⟩ := choose_listG P n fun i hi => h i (by omega)
    obtain ⟨x, hx⟩ := h n (by omega)
    refine ⟨l ++ [x], by simp [hl], fun i hi => ?_⟩
    by_cases hin : i < l.length
    · rw [List.getElem_append_left hin]; exact hp i hin
    · have : i = n := by simp at hi; omega
      subst this
      rw [List.getElem_append_right (by omega)]
      simpa using hx

end Go.Proofs.Ytincapmagennmaa
