/-
  Joined: Layer 17: the text of a predicate, the document's. · Layer 18: which queries there may be, the program's: what is asked for, as queries have it. · Layer 18: which queries there may be, the program's: a query's text, the program's. · Layer 18: which queries there may be, the program's: a query's text, the document's. · Layer 18: which queries there may be, the program's: the example; small queries. · Layer 19: the walk of ParseBack. · Arguments opened: a cell by value; a value of each type. · Slices of cells: what one reads as (Cs), a row of the call's own (Oc), and the steps over them. · Arguments opened: a slice of cells.
-/
import Derived.Laws.StructEq
import Derived.Laws.Rows
import Derived.Laws.ResultCell
import Derived.Lib.Zigzag
import Derived.Laws.Cover1
import Derived.Deep.QuietTactic
import Derived.BigQuiet
import Derived.Deep.RegionHeld3
import Derived.Deep.DrawnRows
import Derived.Deep.Cut
import Derived.StillTail
import Derived.Deep.RegionWith
import Derived.Test.YtipgaafgnefmdaaGreatDoorZ6
import Derived.Test.YtipgaafgnefmdaaGreatDoorZ9
import Derived.Test.YtipgaafgnefmdaaGreatDoorZ1
import Derived.Lib.SmallJoins
import Derived.Test.YtipgaafgnefmdaaGreatDoorZ3

namespace Go.Proofs.YtipgaafgnefmdaaGreatDoor
set_option linter.unusedVariables false
set_option linter.unusedSimpArgs false
set_option maxRecDepth 100000
open Go.RowKit

theorem six_at (W : World) (j : Nat) (hj : j < 6) : (W.alloc (.cells #[.string ⟨#[61]⟩, .string ⟨#[60, 62]⟩, .string ⟨#[60]⟩, .string ⟨#[60, 61]⟩, .string ⟨#[62]⟩, .string ⟨#[62, 61]⟩] 9)).cell? ⟨W.heap.size, j, none⟩ = some (.string ⟨(markB ((j : Int) + 1)).toArray⟩) := by
  rw [cell_of_row _ W.heap.size j _ _ (0, 0) (heap_alloc_new W _)]
  match j, hj with
  | 0, _ => rfl
  | 1, _ => rfl
  | 2, _ => rfl
  | 3, _ => rfl
  | 4, _ => rfl
  | 5, _ => rfl
theorem al_keep {w : World} {o : Obj} {p : Addr} {v : Value} (h : w.drew.cell? p = some v) : (w.alloc o).drew.cell? p = some v :=
  (((Fr.refl Non w).alloc o).cell (World.block_lt_of_cell? w _ h) (fun e => e)).trans h
theorem al_keep2 {w : World} {o : Obj} {p : Addr} {v : Value} (h : w.cell? p = some v) : (w.alloc o).cell? p = some v :=
  (((Fr.refl Non w).alloc o).cell (World.block_lt_of_cell? w _ h) (fun e => e)).trans h

set_option maxHeartbeats 8000000 in
theorem rtext2_any (h : Ph) (ks : List Pd) (t : Kv) (w : World) (hop : h.op = 2) (h16 : 1 ≤ h.cmp ∧ h.cmp ≤ 6) (hb : I64b h.val.num) (hl1 : h.col.length ≤ 100) (hl2 : h.val.txt.length ≤ 100) :
    Calls Tryz.prog 39 #[pdV h t] w fun e w' => e = .returned (.string ⟨(textP (.mk h ks)).toArray⟩) ∧ Fr Non w w' := by
  have HE := Lib.hid (tx_2 (h := h) (ks := ks) hop)
  have HC := Lib.hid (fun W => rpvalue_any h.kind h.val W hb (by omega))
  have hvl := valT_len h.kind h.val hb hl2
  have hml := markB_len h.cmp
  have PB := pd_new w _ h t rfl
  have HF : Hid (Fr Non w (w.alloc (.cells (pdC h t) 28))) := Lib.hid ((Fr.refl Non w).alloc _)
  generalize textP (.mk h ks) = r at *
  obtain ⟨ho, hc, hm, ⟨vn, vi, vt⟩, hkd, hp⟩ := h
  obtain ⟨A, n, c⟩ := t
  dsimp only at *
  subst hop
  obtain ⟨j, rfl⟩ : ∃ j : Nat, hm = (j : Int) + 1 := ⟨(hm - 1).toNat, by omega⟩
  have hj6 : j < 6 := by omega
  have hj7 : (j : Int) < 6 := by omega
  have hw1 : IntKind.i64.wrap (j : Int) = j := by
    have e : (2 ^ IntKind.i64.bits : Int) = 18446744073709551616 := by decide
    have e2 : (2 ^ (IntKind.i64.bits - 1) : Int) = 9223372036854775808 := by decide
    unfold IntKind.wrap
    simp [e, e2]
    omega
  obtain ⟨_, q1, q2, q3, q4, q5, q6, _, _⟩ := pdB_cells PB.drew
  dsimp only at q1 q2 q3 q4 q5 q6
  have HSIX := six_at (w.alloc (.cells (pdC ⟨2, hc, (j : Int) + 1, ⟨vn, vi, vt⟩, hkd, hp⟩ ⟨A, n, c⟩) 28)) j hj6
  rw [show (w.alloc (.cells (pdC ⟨2, hc, (j : Int) + 1, ⟨vn, vi, vt⟩, hkd, hp⟩ ⟨A, n, c⟩) 28)).heap.size = w.heap.size + 1 by simp] at HSIX
  obtain ⟨mk, HMK0⟩ : ∃ mk, markB ((j : Int) + 1) = mk := ⟨_, rfl⟩
  rw [HMK0] at HSIX HE hml
  have HMK := Lib.hid HMK0
  clear HMK0
  generalize valT hkd ⟨vn, vi, vt⟩ = va at *
  have s1 := fun W => sadd hc [32] (by simp; omega) W
  have s2 := fun W => sadd (hc ++ [32]) mk (by simp; omega) W
  have s3 := fun W => sadd (hc ++ [32] ++ mk) [32] (by simp; omega) W
  have s4 := fun W => sadd (hc ++ [32] ++ mk ++ [32]) va (by simp; omega) W
  have s5 := fun W => sadd (hc ++ 32 :: mk) [32] (by simp; omega) W
  have s6 := fun W => sadd (hc ++ 32 :: (mk ++ [32])) va (by simp; omega) W
  have HSIX := Lib.hid HSIX
  unfold clV clC at HC
  unfold pdV
  unfold pdC kidV at *
  dsimp only at *
  go_enter Tryz.func39, Tryz.ntmps39
  go_wp2
  refine wp_region_held_drew (S := (fun W => W.cell? ⟨w.heap.size, 1, none⟩ = some (.string ⟨hc.toArray⟩) ∧ W.cell? ⟨w.heap.size, 2, none⟩ = some (.int .i64 ((j : Int) + 1)) ∧ W.cell? ⟨w.heap.size, 3, none⟩ = some (.bool vn) ∧ W.cell? ⟨w.heap.size, 4, none⟩ = some (.int .i64 vi) ∧ W.cell? ⟨w.heap.size, 5, none⟩ = some (.string ⟨vt.toArray⟩) ∧ W.cell? ⟨w.heap.size, 6, none⟩ = some (.int .i64 hkd))) (by kernel_rfl) (by exact ⟨q1, q2, q3, q4, q5, q6⟩) (fun hHeld => ?_)
  refine wpAnyH_take (i := 0) (oi := ⟨some 13, _, _, _, _, none⟩) (v := ?v1) rfl (by kernel_rfl) (by kernel_rfl) (by kernel_rfl) (fun _ _ _ h => h) (Or.inl ⟨by rfl, ?hy1⟩) (by assumption) ?rest1
  case hy1 => (intro wS hSw; (try dsimp only at hSw); go_simp; (try with_reducible rfl))
  (try simp only [Act.put, List.setIfInBounds_toArray, List.set_cons_zero, List.set_cons_succ])
  refine wpAnyH_take (i := 1) (oi := ⟨some 14, _, _, _, _, none⟩) (v := ?v2) rfl (by kernel_rfl) (by kernel_rfl) (by kernel_rfl) (fun _ _ _ h => h) (Or.inl ⟨by rfl, ?hy2⟩) (by assumption) ?rest2
  case hy2 => (intro wS hSw; (try dsimp only at hSw); go_simp; (try with_reducible rfl))
  (try simp only [Act.put, List.setIfInBounds_toArray, List.set_cons_zero, List.set_cons_succ])
  refine wpAnyH_take (i := 2) (oi := ⟨some 15, _, _, _, _, none⟩) (v := ?v3) rfl (by kernel_rfl) (by kernel_rfl) (by kernel_rfl) (fun _ _ _ h => h) (Or.inl ⟨by rfl, ?hy3⟩) (by assumption) ?rest3
  case hy3 => (intro wS hSw; (try dsimp only at hSw); go_simp; (try with_reducible rfl))
  (try simp only [Act.put, List.setIfInBounds_toArray, List.set_cons_zero, List.set_cons_succ])
  refine wpAnyH_take (i := 4) (oi := ⟨some 17, _, _, _, _, none⟩) (v := ?v4) rfl (by kernel_rfl) (by kernel_rfl) (by kernel_rfl) (fun _ _ _ h => h) (Or.inl ⟨by rfl, ?hy4⟩) (by assumption) ?rest4
  case hy4 => (intro wS hSw; (try dsimp only at hSw); go_simp; (try with_reducible rfl))
  (try simp only [Act.put, List.setIfInBounds_toArray, List.set_cons_zero, List.set_cons_succ])
  refine wpAnyH_take (i := 5) (oi := ⟨some 18, _, _, _, _, none⟩) (v := ?v5) rfl (by kernel_rfl) (by kernel_rfl) (by kernel_rfl) (fun _ _ _ h => h) (Or.inl ⟨by rfl, ?hy5⟩) (by assumption) ?rest5
  case hy5 => (intro wS hSw; (try dsimp only at hSw); go_simp; (try with_reducible rfl))
  (try simp only [Act.put, List.setIfInBounds_toArray, List.set_cons_zero, List.set_cons_succ])
  refine wpAnyH_take (i := 6) (oi := ⟨some 19, _, _, _, _, none⟩) (v := ?v6) rfl (by kernel_rfl) (by kernel_rfl) (by kernel_rfl) (fun _ _ _ h => h) (Or.inl ⟨by rfl, ?hy6⟩) (by assumption) ?rest6
  case hy6 => (intro wS hSw; (try dsimp only at hSw); go_simp; (try with_reducible rfl))
  (try simp only [Act.put, List.setIfInBounds_toArray, List.set_cons_zero, List.set_cons_succ])
  refine wpAnyH_take (i := 11) (oi := ⟨some 24, _, _, _, _, none⟩) (v := ?v7) rfl (by kernel_rfl) (by kernel_rfl) (by kernel_rfl) (fun _ _ _ h => h) (Or.inl ⟨by rfl, ?hy7⟩) (by assumption) ?rest7
  case hy7 => (intro wS hSw; (try dsimp only at hSw); go_simp; (try with_reducible rfl))
  (try simp only [Act.put, List.setIfInBounds_toArray, List.set_cons_zero, List.set_cons_succ])
  refine wpAnyH_take (i := 12) (oi := ⟨some 25, _, _, _, _, none⟩) (v := ?v8) rfl (by kernel_rfl) (by kernel_rfl) (by kernel_rfl) (fun _ _ _ h => h) (Or.inl ⟨by rfl, ?hy8⟩) (by assumption) ?rest8
  case hy8 => (intro wS hSw; (try dsimp only at hSw); go_simp; (try with_reducible rfl))
  (try simp only [Act.put, List.setIfInBounds_toArray, List.set_cons_zero, List.set_cons_succ])
  refine wpAnyH_take (i := 13) (oi := ⟨some 26, _, _, _, _, none⟩) (v := ?v9) rfl (by kernel_rfl) (by kernel_rfl) (by kernel_rfl) (fun _ _ _ h => h) (Or.inl ⟨by rfl, ?hy9⟩) (by assumption) ?rest9
  case hy9 => (intro wS hSw; (try dsimp only at hSw); go_simp; (try with_reducible rfl))
  (try simp only [Act.put, List.setIfInBounds_toArray, List.set_cons_zero, List.set_cons_succ])
  refine wpAnyH_take (i := 14) (oi := ⟨some 27, _, _, _, _, none⟩) (v := ?v10) rfl (by kernel_rfl) (by kernel_rfl) (by kernel_rfl) (fun _ _ _ h => h) (Or.inl ⟨by rfl, ?hy10⟩) (by assumption) ?rest10
  case hy10 => (intro wS hSw; (try dsimp only at hSw); go_simp; (try with_reducible rfl))
  (try simp only [Act.put, List.setIfInBounds_toArray, List.set_cons_zero, List.set_cons_succ])
  refine wpAnyH_ready (rs := [3, 15]) (by kernel_rfl) (by simp) ?_
  refine AllReadyH.cons (o := ⟨some 16, _, _, _, _, none⟩) rfl (fun K hK => ?_) (AllReadyH.cons (o := ⟨some 28, _, _, _, _, none⟩) rfl (fun K hK => ?_) AllReadyH.nil)
  · go_simp
    have um : ((w.alloc (.cells #[.int .i64 2, .string ⟨hc.toArray⟩, .int .i64 ((j : Int) + 1), .bool vn, .int .i64 vi, .string ⟨vt.toArray⟩, .int .i64 hkd, .string ⟨hp.toArray⟩, .slice A n c] 28)).alloc (.cells #[.string ⟨#[61]⟩, .string ⟨#[60, 62]⟩, .string ⟨#[60]⟩, .string ⟨#[60, 61]⟩, .string ⟨#[62]⟩, .string ⟨#[62, 61]⟩] 9)).drew.cell? ⟨w.heap.size + 1, j, none⟩ = some (.string ⟨mk.toArray⟩) := HSIX.out
    have u1 := al_keep (o := (.cells #[.string ⟨#[61]⟩, .string ⟨#[60, 62]⟩, .string ⟨#[60]⟩, .string ⟨#[60, 61]⟩, .string ⟨#[62]⟩, .string ⟨#[62, 61]⟩] 9)) q1
    have u2 := al_keep (o := (.cells #[.string ⟨#[61]⟩, .string ⟨#[60, 62]⟩, .string ⟨#[60]⟩, .string ⟨#[60, 61]⟩, .string ⟨#[62]⟩, .string ⟨#[62, 61]⟩] 9)) q2
    have u3 := al_keep (o := (.cells #[.string ⟨#[61]⟩, .string ⟨#[60, 62]⟩, .string ⟨#[60]⟩, .string ⟨#[60, 61]⟩, .string ⟨#[62]⟩, .string ⟨#[62, 61]⟩] 9)) q3
    have u4 := al_keep (o := (.cells #[.string ⟨#[61]⟩, .string ⟨#[60, 62]⟩, .string ⟨#[60]⟩, .string ⟨#[60, 61]⟩, .string ⟨#[62]⟩, .string ⟨#[62, 61]⟩] 9)) q4
    have u5 := al_keep (o := (.cells #[.string ⟨#[61]⟩, .string ⟨#[60, 62]⟩, .string ⟨#[60]⟩, .string ⟨#[60, 61]⟩, .string ⟨#[62]⟩, .string ⟨#[62, 61]⟩] 9)) q5
    have u6 := al_keep (o := (.cells #[.string ⟨#[61]⟩, .string ⟨#[60, 62]⟩, .string ⟨#[60]⟩, .string ⟨#[60, 61]⟩, .string ⟨#[62]⟩, .string ⟨#[62, 61]⟩] 9)) q6
    refine hK.out _ _ (by exact ⟨u1, u2, u3, u4, u5, u6⟩) (fun hHeld => ?_)
    clear hK K
    (try simp only [Act.put, List.setIfInBounds_toArray, List.set_cons_zero, List.set_cons_succ])
    refine wpAnyH_more (S' := (fun W => W.cell? ⟨w.heap.size + 1, j, none⟩ = some (.string ⟨mk.toArray⟩) ∧ W.cell? ⟨w.heap.size, 1, none⟩ = some (.string ⟨hc.toArray⟩) ∧ W.cell? ⟨w.heap.size, 2, none⟩ = some (.int .i64 ((j : Int) + 1)) ∧ W.cell? ⟨w.heap.size, 3, none⟩ = some (.bool vn) ∧ W.cell? ⟨w.heap.size, 4, none⟩ = some (.int .i64 vi) ∧ W.cell? ⟨w.heap.size, 5, none⟩ = some (.string ⟨vt.toArray⟩) ∧ W.cell? ⟨w.heap.size, 6, none⟩ = some (.int .i64 hkd))) (fun W h => h.2) _ _ _ _ ?_
    have hMore := And.intro um hHeld
    clear hHeld
    refine wpAnyH_take (i := 7) (oi := ⟨some 20, _, _, _, _, none⟩) (v := ?v11) rfl (by kernel_rfl) (by kernel_rfl) (by kernel_rfl) (fun _ _ _ h => h) (Or.inl ⟨by rfl, ?hy11⟩) (by assumption) ?rest11
    case hy11 => (intro wS hSw; (try dsimp only at hSw); go_simp; (try with_reducible rfl))
    (try simp only [Act.put, List.setIfInBounds_toArray, List.set_cons_zero, List.set_cons_succ])
    refine wpAnyH_take (i := 8) (oi := ⟨some 21, _, _, _, _, none⟩) (v := ?v12) rfl (by kernel_rfl) (by kernel_rfl) (by kernel_rfl) (fun _ _ _ h => h) (Or.inl ⟨by rfl, ?hy12⟩) (by assumption) ?rest12
    case hy12 => (intro wS hSw; (try dsimp only at hSw); go_simp; (try with_reducible rfl))
    (try simp only [Act.put, List.setIfInBounds_toArray, List.set_cons_zero, List.set_cons_succ])
    refine wpAnyH_take (i := 9) (oi := ⟨some 22, _, _, _, _, none⟩) (v := ?v13) rfl (by kernel_rfl) (by kernel_rfl) (by kernel_rfl) (fun _ _ _ h => h) (Or.inl ⟨by rfl, ?hy13⟩) (by assumption) ?rest13
    case hy13 => (intro wS hSw; (try dsimp only at hSw); go_simp; (try with_reducible rfl))
    (try simp only [Act.put, List.setIfInBounds_toArray, List.set_cons_zero, List.set_cons_succ])
    refine wpAnyH_take (i := 10) (oi := ⟨some 23, _, _, _, _, none⟩) (v := ?v14) rfl (by kernel_rfl) (by kernel_rfl) (by kernel_rfl) (fun _ _ _ h => h) (Or.inl ⟨by rfl, ?hy14⟩) (by assumption) ?rest14
    case hy14 => (intro wS hSw; (try dsimp only at hSw); go_simp; (try with_reducible rfl))
    (try simp only [Act.put, List.setIfInBounds_toArray, List.set_cons_zero, List.set_cons_succ])
    refine wpAnyH_ready (rs := [15]) (by kernel_rfl) (by simp) ?_
    refine AllReadyH.cons (o := ⟨some 28, _, _, _, _, none⟩) rfl (fun K hK => ?_) AllReadyH.nil
    go_simp
    go_at_call 66
    (with_reducible refine (HC.out _).mono ?_)
    rintro e w3 ⟨rfl, f3⟩
    have v1 := (f3.cell (World.block_lt_of_cell? _ _ u1) (fun e => e)).trans u1
    have v2 := (f3.cell (World.block_lt_of_cell? _ _ u2) (fun e => e)).trans u2
    have v3 := (f3.cell (World.block_lt_of_cell? _ _ u3) (fun e => e)).trans u3
    have v4 := (f3.cell (World.block_lt_of_cell? _ _ u4) (fun e => e)).trans u4
    have v5 := (f3.cell (World.block_lt_of_cell? _ _ u5) (fun e => e)).trans u5
    have v6 := (f3.cell (World.block_lt_of_cell? _ _ u6) (fun e => e)).trans u6
    have vm := (f3.cell (World.block_lt_of_cell? _ _ um) (fun e => e)).trans um
    go_wp2_with fail
    refine hK.out _ _ (by exact ⟨vm, v1, v2, v3, v4, v5, v6⟩) (fun hHeld => ?_)
    clear hK K
    (try simp only [Act.put, List.setIfInBounds_toArray, List.set_cons_zero, List.set_cons_succ])
    refine wpAnyH_take (i := 16) (oi := ⟨some 29, _, _, _, _, none⟩) (v := ?v15) rfl (by kernel_rfl) (by kernel_rfl) (by kernel_rfl) (fun _ _ _ h => h) (Or.inl ⟨by rfl, ?hy15⟩) (by assumption) ?rest15
    case hy15 => (intro wS hSw; (try dsimp only at hSw); go_simp; (try with_reducible rfl))
    (try simp only [Act.put, List.setIfInBounds_toArray, List.set_cons_zero, List.set_cons_succ])
    refine wpAnyH_take (i := 17) (oi := ⟨some 2, _, _, _, _, none⟩) (v := ?v16) rfl (by kernel_rfl) (by kernel_rfl) (by kernel_rfl) (fun _ _ _ h => h) (Or.inl ⟨by rfl, ?hy16⟩) (by assumption) ?rest16
    case hy16 => (intro wS hSw; (try dsimp only at hSw); go_simp; (try with_reducible rfl))
    (try simp only [Act.put, List.setIfInBounds_toArray, List.set_cons_zero, List.set_cons_succ])
    refine wpAnyH_done (by kernel_rfl) ?_ _
    go_wp2
    go_ret
    exact ⟨strE (by rw [HE.out] <;> simp), ((HF.out.alloc _).drew).trans f3⟩
  · go_simp
    go_at_call 66
    (with_reducible refine (HC.out _).mono ?_)
    rintro e w3 ⟨rfl, f3⟩
    have u1 := (f3.cell (World.block_lt_of_cell? _ _ q1) (fun e => e)).trans q1
    have u2 := (f3.cell (World.block_lt_of_cell? _ _ q2) (fun e => e)).trans q2
    have u3 := (f3.cell (World.block_lt_of_cell? _ _ q3) (fun e => e)).trans q3
    have u4 := (f3.cell (World.block_lt_of_cell? _ _ q4) (fun e => e)).trans q4
    have u5 := (f3.cell (World.block_lt_of_cell? _ _ q5) (fun e => e)).trans q5
    have u6 := (f3.cell (World.block_lt_of_cell? _ _ q6) (fun e => e)).trans q6
    go_wp2_with fail
    refine hK.out _ _ (by exact ⟨u1, u2, u3, u4, u5, u6⟩) (fun hHeld => ?_)
    clear hK K
    (try simp only [Act.put, List.setIfInBounds_toArray, List.set_cons_zero, List.set_cons_succ])
    refine wpAnyH_ready (rs := [3]) (by kernel_rfl) (by simp) ?_
    refine AllReadyH.cons (o := ⟨some 16, _, _, _, _, none⟩) rfl (fun K hK => ?_) AllReadyH.nil
    go_simp
    have vm := six_at w3 j hj6
    rw [HMK.out] at vm
    have v1 := al_keep2 (o := (.cells #[.string ⟨#[61]⟩, .string ⟨#[60, 62]⟩, .string ⟨#[60]⟩, .string ⟨#[60, 61]⟩, .string ⟨#[62]⟩, .string ⟨#[62, 61]⟩] 9)) u1
    have v2 := al_keep2 (o := (.cells #[.string ⟨#[61]⟩, .string ⟨#[60, 62]⟩, .string ⟨#[60]⟩, .string ⟨#[60, 61]⟩, .string ⟨#[62]⟩, .string ⟨#[62, 61]⟩] 9)) u2
    have v3 := al_keep2 (o := (.cells #[.string ⟨#[61]⟩, .string ⟨#[60, 62]⟩, .string ⟨#[60]⟩, .string ⟨#[60, 61]⟩, .string ⟨#[62]⟩, .string ⟨#[62, 61]⟩] 9)) u3
    have v4 := al_keep2 (o := (.cells #[.string ⟨#[61]⟩, .string ⟨#[60, 62]⟩, .string ⟨#[60]⟩, .string ⟨#[60, 61]⟩, .string ⟨#[62]⟩, .string ⟨#[62, 61]⟩] 9)) u4
    have v5 := al_keep2 (o := (.cells #[.string ⟨#[61]⟩, .string ⟨#[60, 62]⟩, .string ⟨#[60]⟩, .string ⟨#[60, 61]⟩, .string ⟨#[62]⟩, .string ⟨#[62, 61]⟩] 9)) u5
    have v6 := al_keep2 (o := (.cells #[.string ⟨#[61]⟩, .string ⟨#[60, 62]⟩, .string ⟨#[60]⟩, .string ⟨#[60, 61]⟩, .string ⟨#[62]⟩, .string ⟨#[62, 61]⟩] 9)) u6
    refine hK.out _ _ (by exact ⟨v1, v2, v3, v4, v5, v6⟩) (fun hHeld => ?_)
    clear hK K
    (try simp only [Act.put, List.setIfInBounds_toArray, List.set_cons_zero, List.set_cons_succ])
    refine wpAnyH_more (S' := (fun W => W.cell? ⟨w3.heap.size, j, none⟩ = some (.string ⟨mk.toArray⟩) ∧ W.cell? ⟨w.heap.size, 1, none⟩ = some (.string ⟨hc.toArray⟩) ∧ W.cell? ⟨w.heap.size, 2, none⟩ = some (.int .i64 ((j : Int) + 1)) ∧ W.cell? ⟨w.heap.size, 3, none⟩ = some (.bool vn) ∧ W.cell? ⟨w.heap.size, 4, none⟩ = some (.int .i64 vi) ∧ W.cell? ⟨w.heap.size, 5, none⟩ = some (.string ⟨vt.toArray⟩) ∧ W.cell? ⟨w.heap.size, 6, none⟩ = some (.int .i64 hkd))) (fun W h => h.2) _ _ _ _ ?_
    have hMore := And.intro vm hHeld
    clear hHeld
    refine wpAnyH_take (i := 7) (oi := ⟨some 20, _, _, _, _, none⟩) (v := ?v17) rfl (by kernel_rfl) (by kernel_rfl) (by kernel_rfl) (fun _ _ _ h => h) (Or.inl ⟨by rfl, ?hy17⟩) (by assumption) ?rest17
    case hy17 => (intro wS hSw; (try dsimp only at hSw); go_simp; (try with_reducible rfl))
    (try simp only [Act.put, List.setIfInBounds_toArray, List.set_cons_zero, List.set_cons_succ])
    refine wpAnyH_take (i := 8) (oi := ⟨some 21, _, _, _, _, none⟩) (v := ?v18) rfl (by kernel_rfl) (by kernel_rfl) (by kernel_rfl) (fun _ _ _ h => h) (Or.inl ⟨by rfl, ?hy18⟩) (by assumption) ?rest18
    case hy18 => (intro wS hSw; (try dsimp only at hSw); go_simp; (try with_reducible rfl))
    (try simp only [Act.put, List.setIfInBounds_toArray, List.set_cons_zero, List.set_cons_succ])
    refine wpAnyH_take (i := 9) (oi := ⟨some 22, _, _, _, _, none⟩) (v := ?v19) rfl (by kernel_rfl) (by kernel_rfl) (by kernel_rfl) (fun _ _ _ h => h) (Or.inl ⟨by rfl, ?hy19⟩) (by assumption) ?rest19
    case hy19 => (intro wS hSw; (try dsimp only at hSw); go_simp; (try with_reducible rfl))
    (try simp only [Act.put, List.setIfInBounds_toArray, List.set_cons_zero, List.set_cons_succ])
    refine wpAnyH_take (i := 10) (oi := ⟨some 23, _, _, _, _, none⟩) (v := ?v20) rfl (by kernel_rfl) (by kernel_rfl) (by kernel_rfl) (fun _ _ _ h => h) (Or.inl ⟨by rfl, ?hy20⟩) (by assumption) ?rest20
    case hy20 => (intro wS hSw; (try dsimp only at hSw); go_simp; (try with_reducible rfl))
    (try simp only [Act.put, List.setIfInBounds_toArray, List.set_cons_zero, List.set_cons_succ])
    refine wpAnyH_take (i := 16) (oi := ⟨some 29, _, _, _, _, none⟩) (v := ?v21) rfl (by kernel_rfl) (by kernel_rfl) (by kernel_rfl) (fun _ _ _ h => h) (Or.inl ⟨by rfl, ?hy21⟩) (by assumption) ?rest21
    case hy21 => (intro wS hSw; (try dsimp only at hSw); go_simp; (try with_reducible rfl))
    (try simp only [Act.put, List.setIfInBounds_toArray, List.set_cons_zero, List.set_cons_succ])
    refine wpAnyH_take (i := 17) (oi := ⟨some 2, _, _, _, _, none⟩) (v := ?v22) rfl (by kernel_rfl) (by kernel_rfl) (by kernel_rfl) (fun _ _ _ h => h) (Or.inl ⟨by rfl, ?hy22⟩) (by assumption) ?rest22
    case hy22 => (intro wS hSw; (try dsimp only at hSw); go_simp; (try with_reducible rfl))
    (try simp only [Act.put, List.setIfInBounds_toArray, List.set_cons_zero, List.set_cons_succ])
    refine wpAnyH_done (by kernel_rfl) ?_ _
    go_wp2
    go_ret
    exact ⟨strE (by rw [HE.out] <;> simp), (HF.out.drew.trans f3).alloc _⟩

set_option maxHeartbeats 8000000 in
theorem rtext4_any (h : Ph) (ks : List Pd) (t : Kv) (w : World) (hop : h.op = 4) (hl1 : h.col.length ≤ 100) (hl2 : h.pat.length ≤ 100) :
    Calls Tryz.prog 39 #[pdV h t] w fun e w' => e = .returned (.string ⟨(textP (.mk h ks)).toArray⟩) ∧ Fr Non w w' := by
  have HE := Lib.hid (tx_4 (h := h) (ks := ks) hop)
  have HC : Hid (∀ W, Calls Tryz.prog 67 #[.string ⟨h.pat.toArray⟩] W fun e w' => e = .returned (.string ⟨(quoT h.pat).toArray⟩) ∧ Fr Non W w') := Lib.hid (fun W => rquote_any h.pat W (by omega))
  have hql := quoT_len h.pat
  have PB := pd_new w _ h t rfl
  have HF : Hid (Fr Non w (w.alloc (.cells (pdC h t) 28))) := Lib.hid ((Fr.refl Non w).alloc _)
  generalize textP (.mk h ks) = r at *
  obtain ⟨ho, hc, hm, ⟨vn, vi, vt⟩, hkd, hp⟩ := h
  obtain ⟨A, n, c⟩ := t
  dsimp only at *
  subst hop
  obtain ⟨_, q1, _, _, _, _, _, q2, _⟩ := pdB_cells PB.drew
  dsimp only at q1 q2
  generalize quoT hp = va at *
  have s1 := fun W => sadd hc [32, 108, 105, 107, 101, 32] (by simp; omega) W
  have s2 := fun W => sadd (hc ++ [32, 108, 105, 107, 101, 32]) va (by simp; omega) W
  unfold pdV
  unfold pdC kidV at *
  dsimp only at *
  go_enter Tryz.func39, Tryz.ntmps39
  go_wp2
  refine wp_region_held_drew (S := (fun W => W.cell? ⟨w.heap.size, 1, none⟩ = some (.string ⟨hc.toArray⟩) ∧ W.cell? ⟨w.heap.size, 7, none⟩ = some (.string ⟨hp.toArray⟩))) (by kernel_rfl) (by exact ⟨q1, q2⟩) (fun hHeld => ?_)
  refine wpAnyH_take (i := 0) (oi := ⟨some 37, _, _, _, _, none⟩) (v := ?v23) rfl (by kernel_rfl) (by kernel_rfl) (by kernel_rfl) (fun _ _ _ h => h) (Or.inl ⟨by rfl, ?hy23⟩) (by assumption) ?rest23
  case hy23 => (intro wS hSw; (try dsimp only at hSw); go_simp; (try with_reducible rfl))
  (try simp only [Act.put, List.setIfInBounds_toArray, List.set_cons_zero, List.set_cons_succ])
  refine wpAnyH_take (i := 1) (oi := ⟨some 38, _, _, _, _, none⟩) (v := ?v24) rfl (by kernel_rfl) (by kernel_rfl) (by kernel_rfl) (fun _ _ _ h => h) (Or.inl ⟨by rfl, ?hy24⟩) (by assumption) ?rest24
  case hy24 => (intro wS hSw; (try dsimp only at hSw); go_simp; (try with_reducible rfl))
  (try simp only [Act.put, List.setIfInBounds_toArray, List.set_cons_zero, List.set_cons_succ])
  refine wpAnyH_take (i := 2) (oi := ⟨some 39, _, _, _, _, none⟩) (v := ?v25) rfl (by kernel_rfl) (by kernel_rfl) (by kernel_rfl) (fun _ _ _ h => h) (Or.inl ⟨by rfl, ?hy25⟩) (by assumption) ?rest25
  case hy25 => (intro wS hSw; (try dsimp only at hSw); go_simp; (try with_reducible rfl))
  (try simp only [Act.put, List.setIfInBounds_toArray, List.set_cons_zero, List.set_cons_succ])
  refine wpAnyH_take (i := 3) (oi := ⟨some 40, _, _, _, _, none⟩) (v := ?v26) rfl (by kernel_rfl) (by kernel_rfl) (by kernel_rfl) (fun _ _ _ h => h) (Or.inl ⟨by rfl, ?hy26⟩) (by assumption) ?rest26
  case hy26 => (intro wS hSw; (try dsimp only at hSw); go_simp; (try with_reducible rfl))
  (try simp only [Act.put, List.setIfInBounds_toArray, List.set_cons_zero, List.set_cons_succ])
  refine wpAnyH_take (i := 4) (oi := ⟨some 41, _, _, _, _, none⟩) (v := ?v27) rfl (by kernel_rfl) (by kernel_rfl) (by kernel_rfl) (fun _ _ _ h => h) (Or.inl ⟨by rfl, ?hy27⟩) (by assumption) ?rest27
  case hy27 => (intro wS hSw; (try dsimp only at hSw); go_simp; (try with_reducible rfl))
  (try simp only [Act.put, List.setIfInBounds_toArray, List.set_cons_zero, List.set_cons_succ])
  refine wpAnyH_ready (rs := [5]) (by kernel_rfl) (by simp) ?_
  refine AllReadyH.cons (o := ⟨some 42, _, _, _, _, none⟩) rfl (fun K hK => ?_) AllReadyH.nil
  go_simp
  go_at_call 67
  (with_reducible refine (HC.out _).mono ?_)
  rintro e w3 ⟨rfl, f3⟩
  have u1 := (f3.cell (World.block_lt_of_cell? _ _ q1) (fun e => e)).trans q1
  have u2 := (f3.cell (World.block_lt_of_cell? _ _ q2) (fun e => e)).trans q2
  go_wp2_with fail
  refine hK.out _ _ (by exact ⟨u1, u2⟩) (fun hHeld => ?_)
  clear hK K
  (try simp only [Act.put, List.setIfInBounds_toArray, List.set_cons_zero, List.set_cons_succ])
  refine wpAnyH_take (i := 6) (oi := ⟨some 43, _, _, _, _, none⟩) (v := ?v28) rfl (by kernel_rfl) (by kernel_rfl) (by kernel_rfl) (fun _ _ _ h => h) (Or.inl ⟨by rfl, ?hy28⟩) (by assumption) ?rest28
  case hy28 => (intro wS hSw; (try dsimp only at hSw); go_simp; (try with_reducible rfl))
  (try simp only [Act.put, List.setIfInBounds_toArray, List.set_cons_zero, List.set_cons_succ])
  refine wpAnyH_take (i := 7) (oi := ⟨some 2, _, _, _, _, none⟩) (v := ?v29) rfl (by kernel_rfl) (by kernel_rfl) (by kernel_rfl) (fun _ _ _ h => h) (Or.inl ⟨by rfl, ?hy29⟩) (by assumption) ?rest29
  case hy29 => (intro wS hSw; (try dsimp only at hSw); go_simp; (try with_reducible rfl))
  (try simp only [Act.put, List.setIfInBounds_toArray, List.set_cons_zero, List.set_cons_succ])
  refine wpAnyH_done (by kernel_rfl) ?_ _
  go_wp2
  go_ret
  exact ⟨strE (by rw [HE.out] <;> simp), HF.out.drew.trans f3⟩

set_option maxHeartbeats 8000000 in
theorem rtext5_any (h : Ph) (ks : List Pd) (t : Kv) (w : World) (hop : h.op = 5) (hk : Kd w t ks) (h1 : ks.length = 1) (hops : ∀ k ∈ ks, 1 ≤ k.hd.op ∧ k.hd.op ≤ 7) (hl : ∀ k ∈ ks, (textP k).length ≤ 100000)
    (IH : Hid (∀ k (h : k < ks.length) W t', Kd W t' ks[k].kids → Calls Tryz.prog 39 #[pdV ks[k].hd t'] W fun e w' => e = .returned (.string ⟨(textP ks[k]).toArray⟩) ∧ Fr Non W w')) :
    Calls Tryz.prog 39 #[pdV h t] w fun e w' => e = .returned (.string ⟨(textP (.mk h ks)).toArray⟩) ∧ Fr Non w w' := by
  have hn := hk.len
  match ks, h1 with
  | [p], _ =>
  have HE := Lib.hid (tx_5 (h := h) (k := p) (ks := []) hop)
  have PB := Lib.hid (pd_new w _ h t rfl)
  have F0 : Fr Non w (w.alloc (.cells (pdC h t) 28)) := (Fr.refl Non w).alloc _
  obtain ⟨a, s, hA, hc2, hkk, _⟩ := hk.elN F0 0 (by simp)
  have HC := Lib.hid (IH.out 0 (by simp) _ s (hkk.non F0))
  have hpo := hops p (by simp)
  have hpl := hl p (by simp)
  have HK := Lib.hid hk
  clear IH hkk hops hl hk
  simp only [List.getElem_cons_zero] at HC hc2
  rw [show a.add (0 * 9) = a by simp [Addr.add]] at hc2
  generalize hrr : textP (.mk h [p]) = r at *
  clear hrr
  have HF := Lib.hid F0
  clear F0
  obtain ⟨x, ps⟩ := p
  dsimp only [Pd.hd] at hpo hc2 HC
  have HI := Lib.hid (fun e => brk_in (ops := [6, 7]) (h := x) (ks := ps) e)
  have HO := Lib.hid (fun e => brk_out (ops := [6, 7]) (h := x) (ks := ps) e)
  generalize brkP [6, 7] (.mk x ps) = y at *
  generalize textP (.mk x ps) = tx at *
  have s1 := fun W => sadd [110, 111, 116, 32] tx (by simp; omega) W
  have s2 := fun W => sadd [40] tx (by simp; omega) W
  have s3 := fun W => sadd ([40] ++ tx) [41] (by simp; omega) W
  have s4 := fun W => sadd [110, 111, 116, 32] ([40] ++ tx ++ [41]) (by simp; omega) W
  have HC3 := Lib.hid (fun W (f1 : Fr Non (w.alloc (.cells (pdC h t) 28)) W) => HK.out.elN (HF.out.trans f1) 0 (by simp))
  obtain ⟨ho, hc, hm, ⟨vn, vi, vt⟩, hkd, hp⟩ := h
  obtain ⟨A, n, c⟩ := t
  dsimp only at hn hA hop
  subst hop hA
  simp only [List.length_cons, List.length_nil] at hn
  subst hn
  obtain ⟨c0, c1, c2, c3, c4, c5, c6, c7, c8⟩ := hc2
  have e0 := Lib.hid c0
  obtain ⟨xo, xc, xm, ⟨xn, xi, xt⟩, xk, xp⟩ := x
  obtain ⟨tA, tn, tc⟩ := s
  dsimp only at hpo HI HO
  unfold pdV at HC ⊢
  unfold pdC kidV at *
  dsimp only at *
  by_cases h6 : 6 ≤ xo
  · have HE2 := Lib.hid (HI.out (by simp; try omega))
    clear HI HO
    go_enter Tryz.func39, Tryz.ntmps39
    go_wp2_with fail
    refine HC.out.mono ?_
    rintro e w1 ⟨rfl, f1⟩
    have d0 := (f1.cell (World.block_lt_of_cell? _ _ e0.out) (fun e => e)).trans e0.out
    have b8 := (PB.out.fr f1 (fun e => e)).cell 8
    simp [pdC, kidV] at b8
    have F1 := Lib.hid (HF.out.trans f1)
    clear f1
    go_wp2
    go_ret
    exact ⟨strE (by rw [HE.out, HE2.out] <;> simp), F1.out⟩
  · have HE2 := Lib.hid (HO.out (by simp; try omega))
    have h6n : ¬ (6 : Int) ≤ xo := h6
    clear HI HO
    go_enter Tryz.func39, Tryz.ntmps39
    go_wp2_with fail
    refine HC.out.mono ?_
    rintro e w1 ⟨rfl, f1⟩
    have d0 := (f1.cell (World.block_lt_of_cell? _ _ e0.out) (fun e => e)).trans e0.out
    have b8 := (PB.out.fr f1 (fun e => e)).cell 8
    simp [pdC, kidV] at b8
    have F1 := Lib.hid (HF.out.trans f1)
    clear f1
    go_wp2
    go_ret
    exact ⟨strE (by rw [HE.out, HE2.out] <;> simp), F1.out⟩

theorem joinT_more (ops : List Int) (sep : Tx) {ks : List Pd} {k : Nat} (h : k < ks.length) : Lib.join ((ks.take (k + 1)).map (brkP ops)) sep = if k = 0 then brkP ops ks[k] else Lib.join ((ks.take k).map (brkP ops)) sep ++ sep ++ brkP ops ks[k] := by
  rw [brkT_more ops h, join_more, List.length_map, List.length_take, Nat.min_eq_left (by omega)]
theorem inter_pre (sep : Tx) (l m : List Tx) : (Lib.join l sep).length ≤ (Lib.join (l ++ m) sep).length := by
  unfold Lib.join
  induction l with
  | nil => simp [List.intercalate]
  | cons x r ih =>
    cases r with
    | nil =>
      cases m with
      | nil => simp
      | cons y m => 
        have e : List.intercalate sep ([x] ++ y :: m) = x ++ sep ++ List.intercalate sep (y :: m) := by simp [List.intercalate]
        rw [e]; simp [List.intercalate]; try omega
    | cons y r =>
      have e : List.intercalate sep (x :: y :: r) = x ++ sep ++ List.intercalate sep (y :: r) := by simp [List.intercalate]
      have e2 : List.intercalate sep (x :: y :: r ++ m) = x ++ sep ++ List.intercalate sep (y :: r ++ m) := by simp [List.intercalate]
      rw [e, e2, List.length_append, List.length_append, List.length_append, List.length_append]
      omega
theorem joinT_len (ops : List Int) (sep : Tx) (ks : List Pd) (k : Nat) : (Lib.join ((ks.take k).map (brkP ops)) sep).length ≤ (Lib.join (ks.map (brkP ops)) sep).length := by
  have := inter_pre sep ((ks.take k).map (brkP ops)) ((ks.drop k).map (brkP ops))
  rwa [← List.map_append, List.take_append_drop] at this

set_option maxHeartbeats 8000000 in
theorem rtext6_any (h : Ph) (ks : List Pd) (t : Kv) (w : World) (hop : h.op = 6) (hk : Kd w t ks) (hl20 : ks.length ≤ 20) (hJ : (textP (.mk h ks)).length ≤ 100000) (hl : ∀ k ∈ ks, (textP k).length ≤ 100000)
    (IH : Hid (∀ k (h : k < ks.length) W t', Kd W t' ks[k].kids → Calls Tryz.prog 39 #[pdV ks[k].hd t'] W fun e w' => e = .returned (.string ⟨(textP ks[k]).toArray⟩) ∧ Fr Non W w')) :
    Calls Tryz.prog 39 #[pdV h t] w fun e w' => e = .returned (.string ⟨(textP (.mk h ks)).toArray⟩) ∧ Fr Non w w' := by
  have hn := hk.len
  have HE := Lib.hid (tx_6 (h := h) (ks := ks) hop)
  have PB := Lib.hid (pd_new w _ h t rfl)
  have F0 : Fr Non w (w.alloc (.cells (pdC h t) 28)) := (Fr.refl Non w).alloc _
  have HF := Lib.hid F0
  have HK := Lib.hid hk
  have HT := Lib.hid hl
  have HJ : Hid (∀ k, (Lib.join ((ks.take k).map (brkP [7])) andT).length ≤ 100000) := Lib.hid (fun k => Nat.le_trans (joinT_len _ _ _ _) (by rw [← HE.out]; exact hJ))
  generalize textP (.mk h ks) = r at *
  clear F0 hk hl hJ
  obtain ⟨ho, hc, hm, ⟨vn, vi, vt⟩, hkd, hp⟩ := h
  obtain ⟨A, n, c⟩ := t
  dsimp only at hn hop
  subst hop
  have hn20 : n ≤ 20 := by omega
  have HL := Lib.hid hn
  clear hn hl20
  unfold pdV
  unfold pdC kidV
  dsimp only
  have HS0 : Hid ([] = Lib.join ((ks.take 0).map (brkP [7])) andT) := Lib.hid rfl
  go_enter Tryz.func39, Tryz.ntmps39
  go_wp2
  go_loopw [4, 5, 6] (fun u i x wr => ∃ (k : Nat) (so : Tx) (xv : Value), k ≤ n ∧ i = .int .i64 k ∧ u = .string ⟨so.toArray⟩ ∧ x = xv ∧ Hid (so = Lib.join ((ks.take k).map (brkP [7])) andT) ∧ Hid (Fr Non (w.alloc (.cells (pdC ⟨6, hc, hm, ⟨vn, vi, vt⟩, hkd, hp⟩ ⟨A, n, c⟩) 28)) wr)) (fun _ i _ _ => n - (intOf i).toNat)
  case atStart => exact ⟨0, [], _, Nat.zero_le _, rfl, rfl, rfl, HS0, Lib.hid (Fr.refl _ _)⟩
  case round =>
    clear HS0
    obtain ⟨k, so, xv, hk, rfl, rfl, rfl, HS, FR⟩ := hrel
    have b8 := (PB.out.fr FR.out (fun e => e)).cell 8
    simp [pdC, kidV] at b8
    have HFw := Lib.hid (HF.out.trans FR.out)
    by_cases hlt : k < n
    · have hlt2 : k < ks.length := by have := HL.out; omega
      obtain ⟨a, t, hA, hc2, hkk, _⟩ := HK.out.elN HFw.out k hlt2
      have HC := Lib.hid (IH.out k hlt2 wr t (hkk.non HFw.out))
      have hpl := HT.out _ (List.getElem_mem hlt2)
      have hso : so.length ≤ 100000 := by rw [HS.out]; exact HJ.out k
      have HY0 := Lib.hid (joinT_more [7] andT hlt2)
      rw [← HS.out] at HY0
      dsimp only at hA
      subst hA
      clear hkk
      generalize ks[k] = p at *
      obtain ⟨x, ps⟩ := p
      dsimp only [Pd.hd] at hc2 HC
      have HI := Lib.hid (fun e => brk_in (ops := [7]) (h := x) (ks := ps) e)
      have HO := Lib.hid (fun e => brk_out (ops := [7]) (h := x) (ks := ps) e)
      generalize brkP [7] (.mk x ps) = y at *
      generalize textP (.mk x ps) = tx at *
      obtain ⟨c0, c1, c2, c3, c4, c5, c6, c7, c8⟩ := hc2
      have e0 := Lib.hid c0
      obtain ⟨xo, xc, xm, ⟨xn, xi, xt⟩, xk, xp⟩ := x
      obtain ⟨tA, tn, tc⟩ := t
      dsimp only at HI HO
      unfold pdV pdC kidV at HC
      dsimp only at HC c0 c1 c2 c3 c4 c5 c6 c7 c8
      dsimp only at e0
      by_cases h7 : xo = 7
      · have HE2 := Lib.hid (HI.out (by simp [h7]))
        clear HI HO
        subst h7
        have z1 := fun W => sadd [40] tx (by simp; omega) W
        have z2 := fun W => sadd ([40] ++ tx) [41] (by simp; omega) W
        by_cases hk0 : k = 0
        · subst hk0
          have HY : Hid (Lib.join ((ks.take (0 + 1)).map (brkP [7])) andT = y) := Lib.hid (by rw [HY0.out, if_pos rfl])
          have hso0 : so = [] := HS.out
          have ha0 : a.add (0 * 9) = a := by simp [Addr.add]
          rw [ha0] at c0 c1 c2 c3 c4 c5 c6 c7 c8 e0
          subst hso0
          clear HY0 HS
          have s2 := fun W => sadd [] ([40] ++ tx ++ [41]) (by simp; omega) W
          go_wp2_with fail
          refine HC.out.mono ?_
          rintro e w2 ⟨rfl, f2⟩
          have d0 := (f2.cell (World.block_lt_of_cell? _ _ e0.out) (fun e => e)).trans e0.out
          have F2 := Lib.hid (FR.out.trans f2)
          have b0 := (PB.out.fr F2.out (fun e => e)).cell 0
          have b8 := (PB.out.fr F2.out (fun e => e)).cell 8
          simp [pdC, kidV] at b0 b8
          clear f2
          go_wp2
          go_roundw
          case rel => exact ⟨0 + 1, _, _, by omega, by go_num, rfl, rfl, Lib.hid (by rw [HY.out, HE2.out] <;> simp), Lib.hid F2.out⟩
          case measure => simp [intOf]; omega
        · have HY : Hid (Lib.join ((ks.take (k + 1)).map (brkP [7])) andT = so ++ andT ++ y) := Lib.hid (by rw [HY0.out, if_neg hk0])
          have hkp : 0 < k := by omega
          clear HY0 HS hk0
          have s1 := fun W => sadd so [32, 97, 110, 100, 32] (by simp; omega) W
          have s2 := fun W => sadd (so ++ [32, 97, 110, 100, 32]) ([40] ++ tx ++ [41]) (by simp; omega) W
          go_wp2_with fail
          refine HC.out.mono ?_
          rintro e w2 ⟨rfl, f2⟩
          have d0 := (f2.cell (World.block_lt_of_cell? _ _ e0.out) (fun e => e)).trans e0.out
          have F2 := Lib.hid (FR.out.trans f2)
          have b0 := (PB.out.fr F2.out (fun e => e)).cell 0
          have b8 := (PB.out.fr F2.out (fun e => e)).cell 8
          simp [pdC, kidV] at b0 b8
          clear f2
          go_wp2
          go_roundw
          case rel => exact ⟨k + 1, _, _, by omega, by go_num, rfl, rfl, Lib.hid (by rw [HY.out, HE2.out] <;> simp [andT]), Lib.hid F2.out⟩
          case measure => simp [intOf]; omega
      · have hx7 : (xo == 7) = false := by rw [beq_eq_false_iff_ne]; exact h7
        have HE2 := Lib.hid (HO.out (by simp [h7]))
        clear HI HO h7
        by_cases hk0 : k = 0
        · subst hk0
          have HY : Hid (Lib.join ((ks.take (0 + 1)).map (brkP [7])) andT = y) := Lib.hid (by rw [HY0.out, if_pos rfl])
          have hso0 : so = [] := HS.out
          have ha0 : a.add (0 * 9) = a := by simp [Addr.add]
          rw [ha0] at c0 c1 c2 c3 c4 c5 c6 c7 c8 e0
          subst hso0
          clear HY0 HS
          have s2 := fun W => sadd [] tx (by simp; omega) W
          go_wp2_with fail
          refine HC.out.mono ?_
          rintro e w2 ⟨rfl, f2⟩
          have d0 := (f2.cell (World.block_lt_of_cell? _ _ e0.out) (fun e => e)).trans e0.out
          have F2 := Lib.hid (FR.out.trans f2)
          have b0 := (PB.out.fr F2.out (fun e => e)).cell 0
          have b8 := (PB.out.fr F2.out (fun e => e)).cell 8
          simp [pdC, kidV] at b0 b8
          clear f2
          go_wp2
          go_roundw
          case rel => exact ⟨0 + 1, _, _, by omega, by go_num, rfl, rfl, Lib.hid (by rw [HY.out, HE2.out] <;> simp), Lib.hid F2.out⟩
          case measure => simp [intOf]; omega
        · have HY : Hid (Lib.join ((ks.take (k + 1)).map (brkP [7])) andT = so ++ andT ++ y) := Lib.hid (by rw [HY0.out, if_neg hk0])
          have hkp : 0 < k := by omega
          clear HY0 HS hk0
          have s1 := fun W => sadd so [32, 97, 110, 100, 32] (by simp; omega) W
          have s2 := fun W => sadd (so ++ [32, 97, 110, 100, 32]) tx (by simp; omega) W
          go_wp2_with fail
          refine HC.out.mono ?_
          rintro e w2 ⟨rfl, f2⟩
          have d0 := (f2.cell (World.block_lt_of_cell? _ _ e0.out) (fun e => e)).trans e0.out
          have F2 := Lib.hid (FR.out.trans f2)
          have b0 := (PB.out.fr F2.out (fun e => e)).cell 0
          have b8 := (PB.out.fr F2.out (fun e => e)).cell 8
          simp [pdC, kidV] at b0 b8
          clear f2
          go_wp2
          go_roundw
          case rel => exact ⟨k + 1, _, _, by omega, by go_num, rfl, rfl, Lib.hid (by rw [HY.out, HE2.out] <;> simp [andT]), Lib.hid F2.out⟩
          case measure => simp [intOf]; omega
    · have HR : Hid (r = so) := Lib.hid (by
        rw [HE.out, HS.out, List.take_of_length_le (by have := HL.out; omega)])
      clear HS
      go_wp2
      go_ret
      exact ⟨strE HR.out.symm, HFw.out⟩

set_option maxHeartbeats 8000000 in
theorem rtext7_any (h : Ph) (ks : List Pd) (t : Kv) (w : World) (hop : h.op = 7) (hk : Kd w t ks) (hl20 : ks.length ≤ 20) (hJ : (textP (.mk h ks)).length ≤ 100000) (hl : ∀ k ∈ ks, (textP k).length ≤ 100000)
    (IH : Hid (∀ k (h : k < ks.length) W t', Kd W t' ks[k].kids → Calls Tryz.prog 39 #[pdV ks[k].hd t'] W fun e w' => e = .returned (.string ⟨(textP ks[k]).toArray⟩) ∧ Fr Non W w')) :
    Calls Tryz.prog 39 #[pdV h t] w fun e w' => e = .returned (.string ⟨(textP (.mk h ks)).toArray⟩) ∧ Fr Non w w' := by
  have hn := hk.len
  have HE := Lib.hid (tx_7 (h := h) (ks := ks) hop)
  have PB := Lib.hid (pd_new w _ h t rfl)
  have F0 : Fr Non w (w.alloc (.cells (pdC h t) 28)) := (Fr.refl Non w).alloc _
  have HF := Lib.hid F0
  have HK := Lib.hid hk
  have HT := Lib.hid hl
  have HJ : Hid (∀ k, (Lib.join ((ks.take k).map (brkP [])) orT).length ≤ 100000) := Lib.hid (fun k => Nat.le_trans (joinT_len _ _ _ _) (by rw [← HE.out]; exact hJ))
  generalize textP (.mk h ks) = r at *
  clear F0 hk hl hJ
  obtain ⟨ho, hc, hm, ⟨vn, vi, vt⟩, hkd, hp⟩ := h
  obtain ⟨A, n, c⟩ := t
  dsimp only at hn hop
  subst hop
  have hn20 : n ≤ 20 := by omega
  have HL := Lib.hid hn
  clear hn hl20
  unfold pdV
  unfold pdC kidV
  dsimp only
  have HS0 : Hid ([] = Lib.join ((ks.take 0).map (brkP [])) orT) := Lib.hid rfl
  go_enter Tryz.func39, Tryz.ntmps39
  go_wp2
  go_loopw [4, 5, 6] (fun u i x wr => ∃ (k : Nat) (so : Tx) (xv : Value), k ≤ n ∧ i = .int .i64 k ∧ u = .string ⟨so.toArray⟩ ∧ x = xv ∧ Hid (so = Lib.join ((ks.take k).map (brkP [])) orT) ∧ Hid (Fr Non (w.alloc (.cells (pdC ⟨7, hc, hm, ⟨vn, vi, vt⟩, hkd, hp⟩ ⟨A, n, c⟩) 28)) wr)) (fun _ i _ _ => n - (intOf i).toNat)
  case atStart => exact ⟨0, [], _, Nat.zero_le _, rfl, rfl, rfl, HS0, Lib.hid (Fr.refl _ _)⟩
  case round =>
    clear HS0
    obtain ⟨k, so, xv, hk, rfl, rfl, rfl, HS, FR⟩ := hrel
    have b8 := (PB.out.fr FR.out (fun e => e)).cell 8
    simp [pdC, kidV] at b8
    have HFw := Lib.hid (HF.out.trans FR.out)
    by_cases hlt : k < n
    · have hlt2 : k < ks.length := by have := HL.out; omega
      obtain ⟨a, t, hA, hc2, hkk, _⟩ := HK.out.elN HFw.out k hlt2
      have HC := Lib.hid (IH.out k hlt2 wr t (hkk.non HFw.out))
      have hpl := HT.out _ (List.getElem_mem hlt2)
      have hso : so.length ≤ 100000 := by rw [HS.out]; exact HJ.out k
      have HY0 := Lib.hid (joinT_more [] orT hlt2)
      rw [← HS.out] at HY0
      dsimp only at hA
      subst hA
      clear hkk
      generalize ks[k] = p at *
      obtain ⟨x, ps⟩ := p
      dsimp only [Pd.hd] at hc2 HC
      have HI := Lib.hid (fun e => brk_in (ops := []) (h := x) (ks := ps) e)
      have HO := Lib.hid (fun e => brk_out (ops := []) (h := x) (ks := ps) e)
      generalize brkP [] (.mk x ps) = y at *
      generalize textP (.mk x ps) = tx at *
      obtain ⟨c0, c1, c2, c3, c4, c5, c6, c7, c8⟩ := hc2
      have e0 := Lib.hid c0
      obtain ⟨xo, xc, xm, ⟨xn, xi, xt⟩, xk, xp⟩ := x
      obtain ⟨tA, tn, tc⟩ := t
      dsimp only at HI HO
      unfold pdV pdC kidV at HC
      dsimp only at HC c0 c1 c2 c3 c4 c5 c6 c7 c8
      dsimp only at e0
      have HE2 := Lib.hid (HO.out (by simp))
      clear HI HO
      by_cases hk0 : k = 0
      · subst hk0
        have HY : Hid (Lib.join ((ks.take (0 + 1)).map (brkP [])) orT = y) := Lib.hid (by rw [HY0.out, if_pos rfl])
        have hso0 : so = [] := HS.out
        have ha0 : a.add (0 * 9) = a := by simp [Addr.add]
        rw [ha0] at c0 c1 c2 c3 c4 c5 c6 c7 c8 e0
        subst hso0
        clear HY0 HS
        have s2 := fun W => sadd [] tx (by simp; omega) W
        go_wp2_with fail
        refine HC.out.mono ?_
        rintro e w2 ⟨rfl, f2⟩
        have d0 := (f2.cell (World.block_lt_of_cell? _ _ e0.out) (fun e => e)).trans e0.out
        have F2 := Lib.hid (FR.out.trans f2)
        have b0 := (PB.out.fr F2.out (fun e => e)).cell 0
        have b8 := (PB.out.fr F2.out (fun e => e)).cell 8
        simp [pdC, kidV] at b0 b8
        clear f2
        go_wp2
        go_roundw
        case rel => exact ⟨0 + 1, _, _, by omega, by go_num, rfl, rfl, Lib.hid (by rw [HY.out, HE2.out] <;> simp), Lib.hid F2.out⟩
        case measure => simp [intOf]; omega
      · have HY : Hid (Lib.join ((ks.take (k + 1)).map (brkP [])) orT = so ++ orT ++ y) := Lib.hid (by rw [HY0.out, if_neg hk0])
        have hkp : 0 < k := by omega
        clear HY0 HS hk0
        have s1 := fun W => sadd so [32, 111, 114, 32] (by simp; omega) W
        have s2 := fun W => sadd (so ++ [32, 111, 114, 32]) tx (by simp; omega) W
        go_wp2_with fail
        refine HC.out.mono ?_
        rintro e w2 ⟨rfl, f2⟩
        have d0 := (f2.cell (World.block_lt_of_cell? _ _ e0.out) (fun e => e)).trans e0.out
        have F2 := Lib.hid (FR.out.trans f2)
        have b0 := (PB.out.fr F2.out (fun e => e)).cell 0
        have b8 := (PB.out.fr F2.out (fun e => e)).cell 8
        simp [pdC, kidV] at b0 b8
        clear f2
        go_wp2
        go_roundw
        case rel => exact ⟨k + 1, _, _, by omega, by go_num, rfl, rfl, Lib.hid (by rw [HY.out, HE2.out] <;> simp [orT]), Lib.hid F2.out⟩
        case measure => simp [intOf]; omega
    · have HR : Hid (r = so) := Lib.hid (by
        rw [HE.out, HS.out, List.take_of_length_le (by have := HL.out; omega)])
      clear HS
      go_wp2
      go_ret
      exact ⟨strE HR.out.symm, HFw.out⟩

set_option maxHeartbeats 2000000 in
theorem rtext13_any (h : Ph) (ks : List Pd) (t : Kv) (w : World) (hop : h.op = 1 ∨ h.op = 3) (hl1 : h.col.length ≤ 100) :
    Calls Tryz.prog 39 #[pdV h t] w fun e w' => e = .returned (.string ⟨(textP (.mk h ks)).toArray⟩) ∧ Fr Non w w' := by
  have X1 := Lib.hid (fun e => tx_1 (h := h) (ks := ks) e)
  have X3 := Lib.hid (fun e => tx_3 (h := h) (ks := ks) e)
  have HF : Hid (Fr Non w (w.alloc (.cells (pdC h t) 28))) := Lib.hid ((Fr.refl Non w).alloc _)
  generalize textP (.mk h ks) = r at *
  obtain ⟨ho, hc, hm, ⟨vn, vi, vt⟩, hkd, hp⟩ := h
  obtain ⟨A, n, c⟩ := t
  dsimp only at *
  unfold pdV
  unfold pdC kidV at *
  dsimp only at *
  rcases hop with h1 | h3
  · have HE := Lib.hid (X1.out h1)
    subst h1
    clear X1 X3
    go_enter Tryz.func39, Tryz.ntmps39
    go_wp2
    go_ret
    exact ⟨strE (by rw [HE.out]), HF.out⟩
  · have HE := Lib.hid (X3.out h3)
    subst h3
    clear X1 X3
    have s1 := fun W => sadd hc [32, 105, 115, 32, 110, 117, 108, 108] (by simp; omega) W
    go_enter Tryz.func39, Tryz.ntmps39
    go_wp2
    go_ret
    exact ⟨strE (by rw [HE.out]), HF.out⟩
theorem rptext_any (p : Pd) : ∀ (t : Kv) (w : World), Kd w t p.kids → I64b p.hd.val.num → lenP p = true → oneP p = true → cntP p ≤ 16 →
    Calls Tryz.prog 39 #[pdV p.hd t] w fun e w' => e = .returned (.string ⟨(textP p).toArray⟩) ∧ Fr Non w w' := by
  induction p using Pd.ind with
  | h hd ks ih =>
    intro t w hk hb hlen hone hcnt
    dsimp only [Pd.hd, Pd.kids] at hk hb ⊢
    have hls := lenP_mk hlen
    have hops := one_ops hone
    have hnum : numP (.mk hd ks) := ⟨hb, hk.num⟩
    have htl := text_len (.mk hd ks) hnum hlen
    have hkl : ∀ k ∈ ks, (textP k).length ≤ 100000 := fun k hm => by
      have h1 := cntL_mem hm
      rw [cntP] at hcnt
      have := text_len k ((numL_all ks).1 hk.num _ hm) (hls.2.2.2.2 _ hm)
      omega
    have IH : Hid (∀ k (h : k < ks.length) W t', Kd W t' ks[k].kids → Calls Tryz.prog 39 #[pdV ks[k].hd t'] W fun e w' => e = .returned (.string ⟨(textP ks[k]).toArray⟩) ∧ Fr Non W w') :=
      Lib.hid (fun k h W t' a => by
        have hm := List.getElem_mem h
        have h1 := cntL_mem hm
        rw [cntP] at hcnt
        refine ih _ hm t' W a ?_ (hls.2.2.2.2 _ hm) (hops.2 _ hm) (by omega)
        have := (numL_all ks).1 hk.num _ hm
        generalize ks[k] = p at *
        obtain ⟨h, ks⟩ := p
        exact this.1)
    have hko : ∀ k ∈ ks, 1 ≤ k.hd.op ∧ k.hd.op ≤ 7 := fun k hm => by
      have h1 := hops.2 k hm
      obtain ⟨h, ks⟩ := k
      have h2 := (one_ops h1).1
      show 1 ≤ h.op ∧ h.op ≤ 7
      omega
    rcases hops.1 with h1 | ⟨h2, hc1, hc6⟩ | h3 | h4 | ⟨h5, hk1⟩ | h6 | h7
    · exact rtext13_any hd ks t w (.inl h1) hls.2.1
    · exact rtext2_any hd ks t w h2 ⟨hc1, hc6⟩ hb hls.2.1 hls.2.2.2.1
    · exact rtext13_any hd ks t w (.inr h3) hls.2.1
    · exact rtext4_any hd ks t w h4 hls.2.1 hls.2.2.1
    · exact rtext5_any hd ks t w h5 hk hk1 hko hkl IH
    · exact rtext6_any hd ks t w h6 hk hls.1 (by omega) hkl IH
    · exact rtext7_any hd ks t w h7 hk hls.1 (by omega) hkl IH
set_option maxHeartbeats 2000000 in
theorem rpText_any (h : Ph) (t : Kv) (ks : List Pd) (w : World) (hk : Kd w t ks) (hb : I64b h.val.num) (hlen : lenP (.mk h ks) = true) :
    Calls Tryz.prog 17 #[pdV h t] w fun e w' => e = .returned (.string ⟨(TextP (.mk h ks)).toArray⟩) ∧ Fr Non w w' := by
  have F0 : Fr Non w (w.alloc (.cells (pdC h t) 28)) := (Fr.refl Non w).alloc _
  have M1 := Lib.hid (rpmay_any h t ks _ (hk.non F0) hlen)
  have PB := Lib.hid (pd_new w _ h t rfl)
  have C1 : Hid (mayP (.mk h ks) = true → ∀ W, Fr Non w W → Calls Tryz.prog 39 #[pdV h t] W fun e w' => e = .returned (.string ⟨(textP (.mk h ks)).toArray⟩) ∧ Fr Non W w') := Lib.hid (fun e W hf => by
    unfold mayP at e
    rw [Bool.and_eq_true, decide_eq_true_eq] at e
    exact rptext_any (.mk h ks) t W (hk.non hf) hb hlen e.2 e.1.1)
  have HE0 : Hid (TextP (.mk h ks) = if mayP (.mk h ks) = true then textP (.mk h ks) else []) := Lib.hid rfl
  generalize TextP (.mk h ks) = r at *
  generalize textP (.mk h ks) = tx at *
  generalize mayP (.mk h ks) = b at *
  have F0 := Lib.hid F0
  clear hk hlen
  obtain ⟨ho, hc, hm, ⟨vn, vi, vt⟩, hkd, hp⟩ := h
  obtain ⟨A, nn, c⟩ := t
  unfold pdV pdC kidV at *
  dsimp only at *
  cases b
  · have HE : Hid (r = []) := Lib.hid (by rw [HE0.out, if_neg (by simp)])
    clear HE0 C1
    go_enter Tryz.func17, Tryz.ntmps17
    go_wp2_with fail
    refine M1.out.mono ?_
    rintro e w1 ⟨rfl, f1⟩
    go_wp2
    go_ret
    exact ⟨by rw [HE.out]; rfl, F0.out.trans f1⟩
  · have HE : Hid (r = tx) := Lib.hid (by rw [HE0.out, if_pos rfl])
    have C2 := Lib.hid (C1.out rfl)
    clear HE0 C1
    go_enter Tryz.func17, Tryz.ntmps17
    go_wp2_with fail
    refine M1.out.mono ?_
    rintro e w1 ⟨rfl, f1⟩
    obtain ⟨g0, g1, g2, g3, g4, g5, g6, g7, g8⟩ := pdB_cells (PB.out.fr f1 (fun e => e))
    dsimp only at g0 g1 g2 g3 g4 g5 g6 g7 g8
    have F1 := Lib.hid (F0.out.trans f1)
    clear f1
    go_wp2_with fail
    refine (C2.out _ F1.out).mono ?_
    rintro e w2 ⟨rfl, f2⟩
    go_wp2
    go_ret
    exact ⟨by rw [HE.out]; rfl, F1.out.trans f2⟩
end Go.Proofs.YtipgaafgnefmdaaGreatDoor


namespace Go.Proofs.YtipgaafgnefmdaaGreatDoor
set_option linter.unusedVariables false
set_option linter.unusedSimpArgs false
set_option maxRecDepth 100000
open Go.RowKit

theorem told_more {q : List Tx} {l : List Ag} {k : Nat} (h : k < l.length) : q ++ (l.take (k + 1)).map toldA = (q ++ (l.take k).map toldA) ++ [toldA l[k]] := by
  rw [List.take_succ_eq_append_getElem h, List.map_append, List.append_assoc]; rfl
end Go.Proofs.YtipgaafgnefmdaaGreatDoor


namespace Go.Proofs.YtipgaafgnefmdaaGreatDoor
set_option linter.unusedVariables false
set_option linter.unusedSimpArgs false
set_option maxRecDepth 100000
open Go.RowKit

theorem pd_num {w : World} {h : Ph} {s : Kv} {ks : List Pd} (hk : Kd w s ks) (hb : I64b h.val.num) : numP (.mk h ks) := ⟨hb, hk.num⟩
theorem textP_le {q : Qy} (h : SmQ q) (hn : numP q.whr) : (TextP q.whr).length ≤ 6400 := by
  unfold TextP
  split
  · rename_i b
    have a := text_len q.whr hn h.lens
    unfold mayP at b
    simp only [Bool.and_eq_true, decide_eq_true_eq] at b
    omega
  · simp
theorem may_ags {q : Qy} (h : mayQ q = true) : ∀ a ∈ q.aggs, agB a = true := by
  rcases may_kinds h with ⟨h1, _⟩ | ⟨_, _, h3, _⟩
  · rw [h1]; simp
  · exact h3
theorem QyS.nums {w : World} {q : Qy} {c : Value} {s : Kv} {g : Value} (h : QyS w q c s g) : numP q.whr := by
  have := pd_num (h := q.whr.hd) h.kids h.num
  rwa [← Pd.eta] at this
end Go.Proofs.YtipgaafgnefmdaaGreatDoor


namespace Go.Proofs.YtipgaafgnefmdaaGreatDoor
set_option linter.unusedVariables false
set_option linter.unusedSimpArgs false
set_option maxRecDepth 100000
open Go.RowKit

set_option maxHeartbeats 1000000 in
theorem rtold_any (a : Ag) (w : World) (ha : agB a = true) (hl : a.col.length ≤ 100) :
    Calls Tryz.prog 38 #[agV a] w fun e w' => e = .returned (.string ⟨(toldA a).toArray⟩) ∧ Fr Non w w' := by
  have F0 : Fr Non w (w.alloc (.cells #[.int .i64 a.op, .string ⟨a.col.toArray⟩] 69)) := (Fr.refl Non w).alloc _
  have HF := Lib.hid F0
  have HA := ag_is ha
  have HE0 : Hid (toldA a = if a.op = 1 then [99, 111, 117, 110, 116, 40, 42, 41] else wordA a.op ++ [40] ++ a.col ++ [41]) := Lib.hid rfl
  clear ha F0
  obtain ⟨o, c⟩ := a
  unfold agV
  dsimp only at *
  generalize toldA _ = r at *
  rcases HA with ⟨h1, h2⟩ | ⟨h1, h2, h3, -⟩
  · subst h1
    subst h2
    have HE := Lib.hid (HE0.out.trans (if_pos rfl))
    clear HE0
    go_enter Tryz.func38, Tryz.ntmps38
    go_wp2
    go_ret
    exact ⟨strE (by rw [HE.out] <;> simp), HF.out⟩
  · have HE := Lib.hid (HE0.out.trans (if_neg h1))
    clear HE0
    have hop : o = 2 ∨ o = 3 ∨ o = 4 ∨ o = 5 := by omega
    clear h1 h2 h3
    rcases hop with rfl | rfl | rfl | rfl
    · have HE2 : Hid (r = [104, 97, 115] ++ [40] ++ c ++ [41]) := HE
      have s1 := fun W => sadd [104, 97, 115] [40] (by simp) W
      have s2 := fun W => sadd ([104, 97, 115] ++ [40]) c (by simp; omega) W
      have s3 := fun W => sadd ([104, 97, 115] ++ [40] ++ c) [41] (by simp; omega) W
      simp only [List.cons_append, List.nil_append] at s1 s2 s3
      clear HE
      go_enter Tryz.func38, Tryz.ntmps38
      go_wp2
      go_region
      go_wp2
      go_ret
      exact ⟨strE (by rw [HE2.out] <;> simp), (HF.out.alloc _).drew⟩
    · have HE2 : Hid (r = [115, 117, 109] ++ [40] ++ c ++ [41]) := HE
      have s1 := fun W => sadd [115, 117, 109] [40] (by simp) W
      have s2 := fun W => sadd ([115, 117, 109] ++ [40]) c (by simp; omega) W
      have s3 := fun W => sadd ([115, 117, 109] ++ [40] ++ c) [41] (by simp; omega) W
      simp only [List.cons_append, List.nil_append] at s1 s2 s3
      clear HE
      go_enter Tryz.func38, Tryz.ntmps38
      go_wp2
      go_region
      go_wp2
      go_ret
      exact ⟨strE (by rw [HE2.out] <;> simp), (HF.out.alloc _).drew⟩
    · have HE2 : Hid (r = [109, 105, 110] ++ [40] ++ c ++ [41]) := HE
      have s1 := fun W => sadd [109, 105, 110] [40] (by simp) W
      have s2 := fun W => sadd ([109, 105, 110] ++ [40]) c (by simp; omega) W
      have s3 := fun W => sadd ([109, 105, 110] ++ [40] ++ c) [41] (by simp; omega) W
      simp only [List.cons_append, List.nil_append] at s1 s2 s3
      clear HE
      go_enter Tryz.func38, Tryz.ntmps38
      go_wp2
      go_region
      go_wp2
      go_ret
      exact ⟨strE (by rw [HE2.out] <;> simp), (HF.out.alloc _).drew⟩
    · have HE2 : Hid (r = [109, 97, 120] ++ [40] ++ c ++ [41]) := HE
      have s1 := fun W => sadd [109, 97, 120] [40] (by simp) W
      have s2 := fun W => sadd ([109, 97, 120] ++ [40]) c (by simp; omega) W
      have s3 := fun W => sadd ([109, 97, 120] ++ [40] ++ c) [41] (by simp; omega) W
      simp only [List.cons_append, List.nil_append] at s1 s2 s3
      clear HE
      go_enter Tryz.func38, Tryz.ntmps38
      go_wp2
      go_region
      go_wp2
      go_ret
      exact ⟨strE (by rw [HE2.out] <;> simp), (HF.out.alloc _).drew⟩

theorem joinG_more {l : List Tx} {k : Nat} (sep : Tx) (h : k < l.length) : Lib.join (l.take (k + 1)) sep = if k = 0 then l[k] else Lib.join (l.take k) sep ++ sep ++ l[k] := by
  rw [List.take_succ_eq_append_getElem h, join_more, List.length_take, Nat.min_eq_left (by omega)]
theorem joinG_len (l : List Tx) (k : Nat) : (Lib.join (l.take k) comT).length ≤ (Lib.join l comT).length := by
  have := inter_pre comT (l.take k) (l.drop k)
  rwa [List.take_append_drop] at this
theorem asked_nil {q : Qy} : (askedQ q).length = 0 ↔ allQ q = true := by
  unfold askedQ allQ
  rw [List.length_append, List.length_map, Bool.and_eq_true, decide_eq_true_eq, decide_eq_true_eq]
  omega
/-- the text up to the columns -/
def upT (b : Tx) (l : List Tx) (k : Nat) : Tx := b ++ Lib.join (l.take k) comT
theorem upT_zero (b : Tx) (l : List Tx) : upT b l 0 = b := by unfold upT; rw [List.take_zero]; simp [Lib.join, List.intercalate]
theorem upT_one {b : Tx} {l : List Tx} (h : 0 < l.length) : upT b l 1 = b ++ l[0] := by unfold upT; rw [show 1 = 0 + 1 from rfl, joinG_more comT h, if_pos rfl]
theorem upT_more {b : Tx} {l : List Tx} {k : Nat} (h : k < l.length) (h0 : ¬ k = 0) : upT b l (k + 1) = upT b l k ++ comT ++ l[k] := by unfold upT; rw [joinG_more comT h, if_neg h0]; simp
theorem upT_all (b : Tx) {l : List Tx} {k : Nat} (h : l.length ≤ k) : upT b l k = b ++ Lib.join l comT := by unfold upT; rw [List.take_of_length_le h]
theorem upT_len {b : Tx} {l : List Tx} (k : Nat) (hb : b.length ≤ 8) (hl : (Lib.join l comT).length ≤ 6150) : (upT b l k).length ≤ 6158 := by
  unfold upT
  have := joinG_len l k
  rw [List.length_append]
  omega
theorem Ow.at {w : World} {B : Nat} {A : Option Addr} {n c : Nat} {l : List Tx} (h : Ow sv 9 w B (.slice A n c) l) (k : Nat) (hk : k < l.length) : ∃ a, A = some a ∧ w.cell? (a.add k) = some (.string ⟨l[k].toArray⟩) := by
  obtain ⟨A', c', he⟩ := h.shape
  simp only [Value.slice.injEq] at he
  obtain ⟨rfl, rfl, rfl⟩ := he
  obtain ⟨a, ha, _, _, hel⟩ := h.vs.addr (show 0 < l.length by omega)
  exact ⟨a, ha, hel k hk⟩
set_option maxHeartbeats 2000000 in
theorem rqtext_any (q : Qy) (c : Value) (s : Kv) (g : Value) (w : World) (hq : QyS w q c s g) (hs : SmQ q) :
    Calls Tryz.prog 16 #[qyV q c s g] w fun e w' => e = .returned (.string ⟨(TextQ q).toArray⟩) ∧ Fr Non w w' := by
  have Q0 := Lib.hid (Qin.new hq)
  have HS := Lib.hid hq
  have M1 := Lib.hid (fun W (h : QyS W q c s g) => rqmay_any q c s g W h hs)
  have CA : Hid (mayQ q = true → ∀ k (h : k < q.aggs.length) W, Calls Tryz.prog 38 #[agV q.aggs[k]] W fun e w' => e = .returned (.string ⟨(toldA q.aggs[k]).toArray⟩) ∧ Fr Non W w') := Lib.hid (fun hm k h W => rtold_any q.aggs[k] W (may_ags hm _ (List.getElem_mem h)) (hs.acol _ (List.getElem_mem h)))
  have P1 := Lib.hid (fun W (h : QyS W q c s g) => rpText_any q.whr.hd s q.whr.kids W h.kids h.num (by rw [← Pd.eta]; exact hs.lens))
  rw [← Pd.eta] at P1
  have htx := textP_le hs hq.nums
  have hal := asked_len hs
  have HAL := Lib.hid hal.2
  have hal1 := hal.1
  have hjl := joinQ_len _ hal.1 hal.2
  have HE0 : Hid (TextQ q = if mayQ q = true then textQ q else []) := Lib.hid rfl
  have HT : Hid (mayQ q = true → textQ q = selT ++ listQ q ++ fromT ++ q.tab ++ whrT q.whr ++ grpT q.by_) := Lib.hid (fun e => rfl)
  have HW1 : Hid (q.whr.hd.op = 1 → whrT q.whr = []) := Lib.hid (fun e => if_pos e)
  have HW0 : Hid (mayQ q = true → ¬ q.whr.hd.op = 1 → whrT q.whr = whereT ++ TextP q.whr) := Lib.hid (fun e h => by unfold whrT TextP; rw [if_neg h, if_pos (may_parts e).2])
  have HA : Hid ((askedQ q).length = 0 → listQ q = [42]) := Lib.hid (fun e => if_pos (asked_nil.1 e))
  have HJ : Hid (¬ (askedQ q).length = 0 → listQ q = Lib.join (askedQ q) comT) := Lib.hid (fun e => if_neg (fun h => e (asked_nil.2 h)))
  have HAS : Hid (askedQ q = q.cols ++ q.aggs.map toldA) := Lib.hid rfl
  have htl := hs.tab
  have hbl := hs.by_
  have hlc := hs.cols
  have hlg := hs.aggs
  generalize TextQ q = r at *
  generalize textQ q = rt at *
  generalize whrT q.whr = wt_ at *
  generalize mayQ q = bm at *
  generalize listQ q = L at *
  generalize TextP q.whr = tx at *
  generalize askedQ q = al at *
  clear hal
  unfold pdV pdC at P1
  obtain ⟨cA, cc, hce⟩ := hq.cols.shape
  obtain ⟨gA, gc, hge⟩ := hq.aggs.shape
  clear hq hs
  obtain ⟨tab, cols, ⟨⟨wo, wc, wm, ⟨wn, wi, wt⟩, wk, wp⟩, wks⟩, aggs, by_⟩ := q
  obtain ⟨sA, sn, sc⟩ := s
  dsimp only at hce hge
  subst hce
  subst hge
  unfold qyV qyC kidV at *
  dsimp only [Pd.hd, Pd.kids] at *
  cases bm
  · have HE : Hid (r = []) := Lib.hid (by rw [HE0.out, if_neg (by simp)])
    clear HE0 HT
    go_enter Tryz.func16, Tryz.ntmps16
    go_wp2_with fail
    refine (M1.out _ Q0.out.sls).mono ?_
    rintro e w1 ⟨rfl, f1⟩
    have Q1 := Lib.hid (Q0.out.non f1)
    clear f1
    go_wp2
    go_ret
    exact ⟨strE (by rw [HE.out] <;> simp), Q1.out.fr⟩
  · have HE1 := Lib.hid ((HE0.out.trans (if_pos rfl)).trans (HT.out rfl))
    have CB := Lib.hid (CA.out rfl)
    have HW2 := Lib.hid (HW0.out rfl)
    clear HE0 HT CA HW0
    go_enter Tryz.func16, Tryz.ntmps16
    go_wp2_with fail
    refine (M1.out _ Q0.out.sls).mono ?_
    rintro e w1 ⟨rfl, f1⟩
    have Q1 := Lib.hid (Q0.out.non f1)
    clear f1
    obtain ⟨g0, g1, g2, g3, g4, g5, g6, g7, g8, g9, g10, g11, g12⟩ := Q1.out.cells
    dsimp only [Pd.hd, Pd.kids] at g0 g1 g2 g3 g4 g5 g6 g7 g8 g9 g10 g11 g12
    have hs1 := Q1.out.fr.size
    have hb1 := Q1.out.blk.lt
    have HV1 : Hid (Vs sv w1 (.slice cA cols.length cc) cols) := Lib.hid Q1.out.sls.cols
    go_wp2_with (at_builtin; refine wpList_appG el_str sv_one rfl (.tmp 10) (.tmp 12) rfl (w.heap.size + 1) (.slice (some ⟨w1.heap.size, 0, none⟩) 0 0) (.slice cA cols.length cc) [] cols rfl (ow_lit0 _ _ _ rfl (by omega)) rfl (HV1.out.non ((Fr.refl _ _).alloc _)) (by simp; omega) (by simp; omega) ?_; intro v2 w2 hown2 hf2)
    have f2 : Fr Non w1 w2 := ((Fr.refl Non w1).alloc _).fresh hf2 (fun k hk => by simp [Value.ownBlock] at hk; omega)
    have Q2 := Lib.hid (Q1.out.non f2)
    have HO2 : Hid (Ow sv 9 w2 (w.heap.size + 1) v2 (cols ++ (aggs.take 0).map toldA)) := Lib.hid (by simpa using hown2)
    clear hown2 hf2 f2 hs1 hb1 HV1
    clear g0 g1 g2 g3 g4 g5 g6 g7 g8 g9 g10 g11 g12
    go_wp2
    go_loopw [3, 4] (fun u i wr => ∃ k : Nat, k ≤ aggs.length ∧ i = .int .i64 k ∧ Hid (Ow sv 9 wr (w.heap.size + 1) u (cols ++ (aggs.take k).map toldA)) ∧ Hid (Qin w w.heap.size ⟨tab, cols, ⟨⟨wo, wc, wm, ⟨wn, wi, wt⟩, wk, wp⟩, wks⟩, aggs, by_⟩ (.slice cA cols.length cc) ⟨sA, sn, sc⟩ (.slice gA aggs.length gc) wr)) (fun _ i _ => aggs.length - (intOf i).toNat)
    case atStart => exact ⟨0, Nat.zero_le _, rfl, HO2, Q2⟩
    case round =>
      clear HO2 Q0 Q1 Q2
      rename_i u i wr
      obtain ⟨k, hk, rfl, HO, QR⟩ := hrel
      obtain ⟨uA, uc, hue⟩ := HO.out.shape
      have hlk : (cols ++ (aggs.take k).map toldA).length ≤ 40 := by rw [List.length_append, List.length_map, List.length_take]; omega
      generalize hun : (cols ++ (aggs.take k).map toldA).length = un at *
      subst hue
      obtain ⟨g0, g1, g2, g3, g4, g5, g6, g7, g8, g9, g10, g11, g12⟩ := QR.out.cells
      dsimp only [Pd.hd, Pd.kids] at g0 g1 g2 g3 g4 g5 g6 g7 g8 g9 g10 g11 g12
      by_cases hlt : k < aggs.length
      · obtain ⟨a, rfl, _, d0, d1⟩ := Ns.gat QR.out.sls.aggs k hlt
        have HY := Lib.hid (told_more (q := cols) hlt)
        have M := CB.out k hlt
        dsimp only at d0 d1 M
        generalize hx : aggs[k] = x at *
        clear hx
        obtain ⟨xo, xn⟩ := x
        unfold agV at M
        dsimp only at d0 d1 HY M
        replace M := Lib.hid M
        generalize toldA ⟨xo, xn⟩ = y at *
        generalize cols ++ (aggs.take k).map toldA = tl at *
        have HLK := Lib.hid (show tl.length ≤ 40 by omega)
        clear hun hlk
        go_wp2_with fail
        refine (M.out _).mono ?_
        rintro e w3 ⟨rfl, f3⟩
        have Q3 := Lib.hid (QR.out.non f3)
        have hO3 := Lib.hid (HO.out.non f3)
        have hsz : w.heap.size + 1 ≤ w3.heap.size := by have := Q3.out.blk.lt; omega
        clear f3 g0 g1 g2 g3 g4 g5 g6 g7 g8 g9 g10 g11 g12
        go_wp2_with (at_builtin; refine wpList_pushG el_str sv_one rfl (.tmp 21) (.tmp 28) rfl (w.heap.size + 1) _ tl rfl hO3.out _ y rfl rfl (by have := HLK.out; omega) hsz ?_; intro v4 w4 hown4 hfr4)
        have HO4 := Lib.hid hown4
        have F4 : Hid (Fr Non w w4) := Lib.hid (Q3.out.fr.fresh hfr4 (fun q hq => by have := (hO3.out.lt q hq).1; omega))
        have Q4 : Hid (Qin w w.heap.size ⟨tab, cols, ⟨⟨wo, wc, wm, ⟨wn, wi, wt⟩, wk, wp⟩, wks⟩, aggs, by_⟩ (.slice cA cols.length cc) ⟨sA, sn, sc⟩ (.slice (some a) aggs.length gc) w4) := Lib.hid ⟨F4.out, Q3.out.blk.fr hfr4 (fun e => by have := (hO3.out.lt _ e).1; omega), HS.out.non F4.out⟩
        clear hown4 hfr4
        go_roundw
        case rel => exact ⟨k + 1, by omega, by go_num, by rw [HY.out]; exact HO4, Q4⟩
        case measure => simp [intOf]; omega
      · have hT : aggs.take k = aggs := List.take_of_length_le (by omega)
        rw [hT, ← HAS.out] at HO hun
        subst hun
        clear HAS hT hlk CB
        rename World => w2
        obtain ⟨bs, hbs⟩ : ∃ bs, bs = (if al.length = 0 then selT ++ [42] else selT) := ⟨_, rfl⟩
        have hbsl : bs.length ≤ 8 := by rw [hbs]; split <;> decide
        have HLQ : Hid (selT ++ L = bs ++ Lib.join al comT) := Lib.hid (by
          rw [hbs]
          split
          · rename_i h0
            rw [HA.out h0, List.eq_nil_of_length_eq_zero h0]
            simp [Lib.join, List.intercalate]
          · rename_i h0
            rw [HJ.out h0])
        have HB1 : Hid (al.length = 0 → bs = [115, 101, 108, 101, 99, 116, 32, 42]) := Lib.hid (fun e => by rw [hbs, if_pos e]; rfl)
        have HB2 : Hid (¬ al.length = 0 → bs = [115, 101, 108, 101, 99, 116, 32]) := Lib.hid (fun e => by rw [hbs, if_neg e]; rfl)
        clear hbs HA HJ
        by_cases h0 : al.length = 0
        · have h0b : ((al.length : Int) == 0) = true := by rw [beq_iff_eq]; omega
          obtain rfl := HB1.out h0
          clear HB1 HB2 h0
          have s0 := fun W => sadd [115, 101, 108, 101, 99, 116, 32] [42] (by simp) W
          simp only [List.cons_append, List.nil_append] at s0
          go_wp2
          clear g0 g1 g2 g3 g4 g5 g6 g7 g8 g9 g10 g11 g12
          go_loopw [5, 6] (fun sv_ i wr => ∃ k : Nat, k ≤ al.length ∧ i = .int .i64 k ∧ (∃ t, sv_ = .string ⟨t.toArray⟩ ∧ Hid (t = upT [115, 101, 108, 101, 99, 116, 32, 42] al k)) ∧ Hid (Ow sv 9 wr (w.heap.size + 1) (.slice uA al.length uc) al) ∧ Hid (Qin w w.heap.size ⟨tab, cols, ⟨⟨wo, wc, wm, ⟨wn, wi, wt⟩, wk, wp⟩, wks⟩, aggs, by_⟩ (.slice cA cols.length cc) ⟨sA, sn, sc⟩ (.slice gA aggs.length gc) wr)) (fun _ i _ => al.length - (intOf i).toNat)
          case atStart => exact ⟨0, Nat.zero_le _, rfl, ⟨_, rfl, Lib.hid (upT_zero _ _).symm⟩, HO, QR⟩
          case round =>
            clear HO QR
            rename_i s_ i wr
            obtain ⟨j, hj, rfl, ⟨t, rfl, HTE⟩, HO, QR⟩ := hrel
            have htl2 : t.length ≤ 6158 := by rw [HTE.out]; exact upT_len j hbsl hjl
            by_cases hlt2 : j < al.length
            · obtain ⟨b, rfl, c0⟩ := HO.out.at j hlt2
              have hyl := HAL.out _ (List.getElem_mem hlt2)
              by_cases hj0 : j = 0
              · have HY : Hid (upT [115, 101, 108, 101, 99, 116, 32, 42] al (j + 1) = t ++ al[j]) := Lib.hid (by subst hj0; rw [HTE.out, upT_one hlt2, upT_zero])
                have hjb : (j : Int) ≤ 0 := by omega
                clear hj0
                generalize al[j] = y at *
                have s1 := fun W => sadd t y (by omega) W
                go_wp2
                go_roundw
                case rel => exact ⟨j + 1, by omega, by go_num, ⟨_, rfl, Lib.hid HY.out.symm⟩, HO, QR⟩
                case measure => simp [intOf]; omega
              · have HY : Hid (upT [115, 101, 108, 101, 99, 116, 32, 42] al (j + 1) = t ++ comT ++ al[j]) := Lib.hid (by rw [HTE.out, upT_more hlt2 hj0])
                generalize al[j] = y at *
                obtain ⟨t5, ht5⟩ : ∃ t5, t5 = t ++ comT := ⟨_, rfl⟩
                have l5 : t5.length ≤ 6160 := by rw [ht5]; simp [comT]; omega
                have s1 : ∀ W, (Op.stringOp BinOp.add ⟨t.toArray⟩ ⟨#[44, 32]⟩).run Tryz.prog W = .ok (.string ⟨t5.toArray⟩) W := fun W => by rw [ht5]; exact sadd t comT (by simp [comT]; omega) W
                rw [← ht5] at HY
                clear ht5
                have s2 := fun W => sadd t5 y (by omega) W
                have hjb : (0 : Int) < (j : Int) := by omega
                go_wp2
                go_roundw
                case rel => exact ⟨j + 1, by omega, by go_num, ⟨_, rfl, Lib.hid HY.out.symm⟩, HO, QR⟩
                case measure => simp [intOf]; omega
            · have HTA : Hid (t = selT ++ L) := Lib.hid (by rw [HTE.out, upT_all _ (by omega), HLQ.out])
              clear HTE HLQ HO HAL
              obtain ⟨t2, ht2⟩ : ∃ t2, t2 = t ++ fromT := ⟨_, rfl⟩
              obtain ⟨t3, ht3⟩ : ∃ t3, t3 = t2 ++ tab := ⟨_, rfl⟩
              obtain ⟨t4, ht4⟩ : ∃ t4, t4 = t3 ++ whereT := ⟨_, rfl⟩
              obtain ⟨t6, ht6⟩ : ∃ t6, t6 = t4 ++ tx := ⟨_, rfl⟩
              obtain ⟨u3, hu3⟩ : ∃ u3, u3 = t3 ++ groupT := ⟨_, rfl⟩
              obtain ⟨u6, hu6⟩ : ∃ u6, u6 = t6 ++ groupT := ⟨_, rfl⟩
              have l2 : t2.length ≤ 6170 := by rw [ht2]; simp [fromT]; omega
              have l3 : t3.length ≤ 6270 := by rw [ht3]; simp; omega
              have l4 : t4.length ≤ 6280 := by rw [ht4]; simp [whereT]; omega
              have l6 : t6.length ≤ 12680 := by rw [ht6]; simp; omega
              have l7 : u3.length ≤ 6290 := by rw [hu3]; simp [groupT]; omega
              have l8 : u6.length ≤ 12700 := by rw [hu6]; simp [groupT]; omega
              have s2 : ∀ W, (Op.stringOp BinOp.add ⟨t.toArray⟩ ⟨#[32, 102, 114, 111, 109, 32]⟩).run Tryz.prog W = .ok (.string ⟨t2.toArray⟩) W := fun W => by rw [ht2]; exact sadd t fromT (by first | omega | (simp [selT, fromT, whereT, groupT]; omega)) W
              have s3 : ∀ W, (Op.stringOp BinOp.add ⟨t2.toArray⟩ ⟨tab.toArray⟩).run Tryz.prog W = .ok (.string ⟨t3.toArray⟩) W := fun W => by rw [ht3]; exact sadd t2 tab (by first | omega | (simp [selT, fromT, whereT, groupT]; omega)) W
              have s4 : ∀ W, (Op.stringOp BinOp.add ⟨t3.toArray⟩ ⟨#[32, 119, 104, 101, 114, 101, 32]⟩).run Tryz.prog W = .ok (.string ⟨t4.toArray⟩) W := fun W => by rw [ht4]; exact sadd t3 whereT (by first | omega | (simp [selT, fromT, whereT, groupT]; omega)) W
              have s6 : ∀ W, (Op.stringOp BinOp.add ⟨t4.toArray⟩ ⟨tx.toArray⟩).run Tryz.prog W = .ok (.string ⟨t6.toArray⟩) W := fun W => by rw [ht6]; exact sadd t4 tx (by first | omega | (simp [selT, fromT, whereT, groupT]; omega)) W
              have s7 : ∀ W, (Op.stringOp BinOp.add ⟨t3.toArray⟩ ⟨#[32, 103, 114, 111, 117, 112, 32, 98, 121, 32]⟩).run Tryz.prog W = .ok (.string ⟨u3.toArray⟩) W := fun W => by rw [hu3]; exact sadd t3 groupT (by first | omega | (simp [selT, fromT, whereT, groupT]; omega)) W
              have s8 : ∀ W, (Op.stringOp BinOp.add ⟨t6.toArray⟩ ⟨#[32, 103, 114, 111, 117, 112, 32, 98, 121, 32]⟩).run Tryz.prog W = .ok (.string ⟨u6.toArray⟩) W := fun W => by rw [hu6]; exact sadd t6 groupT (by first | omega | (simp [selT, fromT, whereT, groupT]; omega)) W
              have s9 := fun W => sadd u3 by_ (by omega) W
              have s10 := fun W => sadd u6 by_ (by omega) W
              have HE2 : Hid (r = (if wo = 1 then t3 else t6) ++ grpT by_) := Lib.hid (by
                rw [HE1.out, ht6, ht4, ht3, ht2, HTA.out]
                by_cases e : wo = 1
                · rw [HW1.out e, if_pos e]; simp
                · rw [HW2.out e, if_neg e]; simp)
              have HG3 : Hid (¬ by_ = [] → t3 ++ grpT by_ = u3 ++ by_) := Lib.hid (fun e => by rw [hu3]; unfold grpT; rw [if_neg e]; simp)
              have HG6 : Hid (¬ by_ = [] → t6 ++ grpT by_ = u6 ++ by_) := Lib.hid (fun e => by rw [hu6]; unfold grpT; rw [if_neg e]; simp)
              have HG0 : Hid (∀ x : Tx, x ++ grpT [] = x) := Lib.hid (fun x => by unfold grpT; simp)
              clear ht2 ht3 ht4 ht6 hu3 hu6 l2 l3 l4 l6 l7 l8 HTA HE1 HW2 HW1
              obtain ⟨g0, g1, g2, g3, g4, g5, g6, g7, g8, g9, g10, g11, g12⟩ := QR.out.cells
              dsimp only [Pd.hd, Pd.kids] at g0 g1 g2 g3 g4 g5 g6 g7 g8 g9 g10 g11 g12
              by_cases hwo : wo = 1
              · subst hwo
                by_cases hby : by_ = []
                · subst hby
                  have HE : Hid (r = t3) := Lib.hid (by rw [HE2.out, if_pos rfl, HG0.out])
                  clear HE2 HG3 HG6 HG0
                  go_wp2
                  go_ret
                  exact ⟨strE (by rw [HE.out] <;> simp), QR.out.fr⟩
                · have hbb : (by_ == []) = false := by rw [beq_eq_false_iff_ne]; exact hby
                  have hbb2 : (by_ != []) = true := by rw [bne_iff_ne]; exact hby
                  have HE : Hid (r = u3 ++ by_) := Lib.hid (by rw [HE2.out, if_pos rfl, HG3.out hby])
                  clear HE2 HG3 HG6 HG0 hby
                  go_wp2
                  go_ret
                  exact ⟨strE (by rw [HE.out] <;> simp), QR.out.fr⟩
              · have hwb : (wo != 1) = true := by rw [bne_iff_ne]; exact hwo
                by_cases hby : by_ = []
                · subst hby
                  have HE : Hid (r = t6) := Lib.hid (by rw [HE2.out, if_neg hwo, HG0.out])
                  clear HE2 HG3 HG6 HG0 hwo
                  go_wp2_with fail
                  refine (P1.out _ QR.out.sls).mono ?_
                  rintro e w8 ⟨rfl, f8⟩
                  have Q8 := Lib.hid (QR.out.non f8)
                  clear f8
                  clear g0 g1 g2 g3 g4 g5 g6 g7 g8 g9 g10 g11 g12
                  obtain ⟨g0, g1, g2, g3, g4, g5, g6, g7, g8, g9, g10, g11, g12⟩ := Q8.out.cells
                  dsimp only [Pd.hd, Pd.kids] at g0 g1 g2 g3 g4 g5 g6 g7 g8 g9 g10 g11 g12
                  go_wp2
                  go_ret
                  exact ⟨strE (by rw [HE.out] <;> simp), Q8.out.fr⟩
                · have hbb : (by_ == []) = false := by rw [beq_eq_false_iff_ne]; exact hby
                  have hbb2 : (by_ != []) = true := by rw [bne_iff_ne]; exact hby
                  have HE : Hid (r = u6 ++ by_) := Lib.hid (by rw [HE2.out, if_neg hwo, HG6.out hby])
                  clear HE2 HG3 HG6 HG0 hby hwo
                  go_wp2_with fail
                  refine (P1.out _ QR.out.sls).mono ?_
                  rintro e w8 ⟨rfl, f8⟩
                  have Q8 := Lib.hid (QR.out.non f8)
                  clear f8
                  clear g0 g1 g2 g3 g4 g5 g6 g7 g8 g9 g10 g11 g12
                  obtain ⟨g0, g1, g2, g3, g4, g5, g6, g7, g8, g9, g10, g11, g12⟩ := Q8.out.cells
                  dsimp only [Pd.hd, Pd.kids] at g0 g1 g2 g3 g4 g5 g6 g7 g8 g9 g10 g11 g12
                  go_wp2
                  go_ret
                  exact ⟨strE (by rw [HE.out] <;> simp), Q8.out.fr⟩
        · have h0b : ((al.length : Int) == 0) = false := by rw [beq_eq_false_iff_ne]; omega
          obtain rfl := HB2.out h0
          clear HB1 HB2 h0
          go_wp2
          clear g0 g1 g2 g3 g4 g5 g6 g7 g8 g9 g10 g11 g12
          go_loopw [5, 6] (fun sv_ i wr => ∃ k : Nat, k ≤ al.length ∧ i = .int .i64 k ∧ (∃ t, sv_ = .string ⟨t.toArray⟩ ∧ Hid (t = upT [115, 101, 108, 101, 99, 116, 32] al k)) ∧ Hid (Ow sv 9 wr (w.heap.size + 1) (.slice uA al.length uc) al) ∧ Hid (Qin w w.heap.size ⟨tab, cols, ⟨⟨wo, wc, wm, ⟨wn, wi, wt⟩, wk, wp⟩, wks⟩, aggs, by_⟩ (.slice cA cols.length cc) ⟨sA, sn, sc⟩ (.slice gA aggs.length gc) wr)) (fun _ i _ => al.length - (intOf i).toNat)
          case atStart => exact ⟨0, Nat.zero_le _, rfl, ⟨_, rfl, Lib.hid (upT_zero _ _).symm⟩, HO, QR⟩
          case round =>
            clear HO QR
            rename_i s_ i wr
            obtain ⟨j, hj, rfl, ⟨t, rfl, HTE⟩, HO, QR⟩ := hrel
            have htl2 : t.length ≤ 6158 := by rw [HTE.out]; exact upT_len j hbsl hjl
            by_cases hlt2 : j < al.length
            · obtain ⟨b, rfl, c0⟩ := HO.out.at j hlt2
              have hyl := HAL.out _ (List.getElem_mem hlt2)
              by_cases hj0 : j = 0
              · have HY : Hid (upT [115, 101, 108, 101, 99, 116, 32] al (j + 1) = t ++ al[j]) := Lib.hid (by subst hj0; rw [HTE.out, upT_one hlt2, upT_zero])
                have hjb : (j : Int) ≤ 0 := by omega
                clear hj0
                generalize al[j] = y at *
                have s1 := fun W => sadd t y (by omega) W
                go_wp2
                go_roundw
                case rel => exact ⟨j + 1, by omega, by go_num, ⟨_, rfl, Lib.hid HY.out.symm⟩, HO, QR⟩
                case measure => simp [intOf]; omega
              · have HY : Hid (upT [115, 101, 108, 101, 99, 116, 32] al (j + 1) = t ++ comT ++ al[j]) := Lib.hid (by rw [HTE.out, upT_more hlt2 hj0])
                generalize al[j] = y at *
                obtain ⟨t5, ht5⟩ : ∃ t5, t5 = t ++ comT := ⟨_, rfl⟩
                have l5 : t5.length ≤ 6160 := by rw [ht5]; simp [comT]; omega
                have s1 : ∀ W, (Op.stringOp BinOp.add ⟨t.toArray⟩ ⟨#[44, 32]⟩).run Tryz.prog W = .ok (.string ⟨t5.toArray⟩) W := fun W => by rw [ht5]; exact sadd t comT (by simp [comT]; omega) W
                rw [← ht5] at HY
                clear ht5
                have s2 := fun W => sadd t5 y (by omega) W
                have hjb : (0 : Int) < (j : Int) := by omega
                go_wp2
                go_roundw
                case rel => exact ⟨j + 1, by omega, by go_num, ⟨_, rfl, Lib.hid HY.out.symm⟩, HO, QR⟩
                case measure => simp [intOf]; omega
            · have HTA : Hid (t = selT ++ L) := Lib.hid (by rw [HTE.out, upT_all _ (by omega), HLQ.out])
              clear HTE HLQ HO HAL
              obtain ⟨t2, ht2⟩ : ∃ t2, t2 = t ++ fromT := ⟨_, rfl⟩
              obtain ⟨t3, ht3⟩ : ∃ t3, t3 = t2 ++ tab := ⟨_, rfl⟩
              obtain ⟨t4, ht4⟩ : ∃ t4, t4 = t3 ++ whereT := ⟨_, rfl⟩
              obtain ⟨t6, ht6⟩ : ∃ t6, t6 = t4 ++ tx := ⟨_, rfl⟩
              obtain ⟨u3, hu3⟩ : ∃ u3, u3 = t3 ++ groupT := ⟨_, rfl⟩
              obtain ⟨u6, hu6⟩ : ∃ u6, u6 = t6 ++ groupT := ⟨_, rfl⟩
              have l2 : t2.length ≤ 6170 := by rw [ht2]; simp [fromT]; omega
              have l3 : t3.length ≤ 6270 := by rw [ht3]; simp; omega
              have l4 : t4.length ≤ 6280 := by rw [ht4]; simp [whereT]; omega
              have l6 : t6.length ≤ 12680 := by rw [ht6]; simp; omega
              have l7 : u3.length ≤ 6290 := by rw [hu3]; simp [groupT]; omega
              have l8 : u6.length ≤ 12700 := by rw [hu6]; simp [groupT]; omega
              have s2 : ∀ W, (Op.stringOp BinOp.add ⟨t.toArray⟩ ⟨#[32, 102, 114, 111, 109, 32]⟩).run Tryz.prog W = .ok (.string ⟨t2.toArray⟩) W := fun W => by rw [ht2]; exact sadd t fromT (by first | omega | (simp [selT, fromT, whereT, groupT]; omega)) W
              have s3 : ∀ W, (Op.stringOp BinOp.add ⟨t2.toArray⟩ ⟨tab.toArray⟩).run Tryz.prog W = .ok (.string ⟨t3.toArray⟩) W := fun W => by rw [ht3]; exact sadd t2 tab (by first | omega | (simp [selT, fromT, whereT, groupT]; omega)) W
              have s4 : ∀ W, (Op.stringOp BinOp.add ⟨t3.toArray⟩ ⟨#[32, 119, 104, 101, 114, 101, 32]⟩).run Tryz.prog W = .ok (.string ⟨t4.toArray⟩) W := fun W => by rw [ht4]; exact sadd t3 whereT (by first | omega | (simp [selT, fromT, whereT, groupT]; omega)) W
              have s6 : ∀ W, (Op.stringOp BinOp.add ⟨t4.toArray⟩ ⟨tx.toArray⟩).run Tryz.prog W = .ok (.string ⟨t6.toArray⟩) W := fun W => by rw [ht6]; exact sadd t4 tx (by first | omega | (simp [selT, fromT, whereT, groupT]; omega)) W
              have s7 : ∀ W, (Op.stringOp BinOp.add ⟨t3.toArray⟩ ⟨#[32, 103, 114, 111, 117, 112, 32, 98, 121, 32]⟩).run Tryz.prog W = .ok (.string ⟨u3.toArray⟩) W := fun W => by rw [hu3]; exact sadd t3 groupT (by first | omega | (simp [selT, fromT, whereT, groupT]; omega)) W
              have s8 : ∀ W, (Op.stringOp BinOp.add ⟨t6.toArray⟩ ⟨#[32, 103, 114, 111, 117, 112, 32, 98, 121, 32]⟩).run Tryz.prog W = .ok (.string ⟨u6.toArray⟩) W := fun W => by rw [hu6]; exact sadd t6 groupT (by first | omega | (simp [selT, fromT, whereT, groupT]; omega)) W
              have s9 := fun W => sadd u3 by_ (by omega) W
              have s10 := fun W => sadd u6 by_ (by omega) W
              have HE2 : Hid (r = (if wo = 1 then t3 else t6) ++ grpT by_) := Lib.hid (by
                rw [HE1.out, ht6, ht4, ht3, ht2, HTA.out]
                by_cases e : wo = 1
                · rw [HW1.out e, if_pos e]; simp
                · rw [HW2.out e, if_neg e]; simp)
              have HG3 : Hid (¬ by_ = [] → t3 ++ grpT by_ = u3 ++ by_) := Lib.hid (fun e => by rw [hu3]; unfold grpT; rw [if_neg e]; simp)
              have HG6 : Hid (¬ by_ = [] → t6 ++ grpT by_ = u6 ++ by_) := Lib.hid (fun e => by rw [hu6]; unfold grpT; rw [if_neg e]; simp)
              have HG0 : Hid (∀ x : Tx, x ++ grpT [] = x) := Lib.hid (fun x => by unfold grpT; simp)
              clear ht2 ht3 ht4 ht6 hu3 hu6 l2 l3 l4 l6 l7 l8 HTA HE1 HW2 HW1
              obtain ⟨g0, g1, g2, g3, g4, g5, g6, g7, g8, g9, g10, g11, g12⟩ := QR.out.cells
              dsimp only [Pd.hd, Pd.kids] at g0 g1 g2 g3 g4 g5 g6 g7 g8 g9 g10 g11 g12
              by_cases hwo : wo = 1
              · subst hwo
                by_cases hby : by_ = []
                · subst hby
                  have HE : Hid (r = t3) := Lib.hid (by rw [HE2.out, if_pos rfl, HG0.out])
                  clear HE2 HG3 HG6 HG0
                  go_wp2
                  go_ret
                  exact ⟨strE (by rw [HE.out] <;> simp), QR.out.fr⟩
                · have hbb : (by_ == []) = false := by rw [beq_eq_false_iff_ne]; exact hby
                  have hbb2 : (by_ != []) = true := by rw [bne_iff_ne]; exact hby
                  have HE : Hid (r = u3 ++ by_) := Lib.hid (by rw [HE2.out, if_pos rfl, HG3.out hby])
                  clear HE2 HG3 HG6 HG0 hby
                  go_wp2
                  go_ret
                  exact ⟨strE (by rw [HE.out] <;> simp), QR.out.fr⟩
              · have hwb : (wo != 1) = true := by rw [bne_iff_ne]; exact hwo
                by_cases hby : by_ = []
                · subst hby
                  have HE : Hid (r = t6) := Lib.hid (by rw [HE2.out, if_neg hwo, HG0.out])
                  clear HE2 HG3 HG6 HG0 hwo
                  go_wp2_with fail
                  refine (P1.out _ QR.out.sls).mono ?_
                  rintro e w8 ⟨rfl, f8⟩
                  have Q8 := Lib.hid (QR.out.non f8)
                  clear f8
                  clear g0 g1 g2 g3 g4 g5 g6 g7 g8 g9 g10 g11 g12
                  obtain ⟨g0, g1, g2, g3, g4, g5, g6, g7, g8, g9, g10, g11, g12⟩ := Q8.out.cells
                  dsimp only [Pd.hd, Pd.kids] at g0 g1 g2 g3 g4 g5 g6 g7 g8 g9 g10 g11 g12
                  go_wp2
                  go_ret
                  exact ⟨strE (by rw [HE.out] <;> simp), Q8.out.fr⟩
                · have hbb : (by_ == []) = false := by rw [beq_eq_false_iff_ne]; exact hby
                  have hbb2 : (by_ != []) = true := by rw [bne_iff_ne]; exact hby
                  have HE : Hid (r = u6 ++ by_) := Lib.hid (by rw [HE2.out, if_neg hwo, HG6.out hby])
                  clear HE2 HG3 HG6 HG0 hby hwo
                  go_wp2_with fail
                  refine (P1.out _ QR.out.sls).mono ?_
                  rintro e w8 ⟨rfl, f8⟩
                  have Q8 := Lib.hid (QR.out.non f8)
                  clear f8
                  clear g0 g1 g2 g3 g4 g5 g6 g7 g8 g9 g10 g11 g12
                  obtain ⟨g0, g1, g2, g3, g4, g5, g6, g7, g8, g9, g10, g11, g12⟩ := Q8.out.cells
                  dsimp only [Pd.hd, Pd.kids] at g0 g1 g2 g3 g4 g5 g6 g7 g8 g9 g10 g11 g12
                  go_wp2
                  go_ret
                  exact ⟨strE (by rw [HE.out] <;> simp), Q8.out.fr⟩
end Go.Proofs.YtipgaafgnefmdaaGreatDoor


namespace Go.Proofs.YtipgaafgnefmdaaGreatDoor
set_option linter.unusedVariables false
set_option linter.unusedSimpArgs false
set_option maxRecDepth 100000
open Go.RowKit

theorem end_no {P : Prop} : SmEnd P (.returned (.bool false)) := ⟨false, rfl, fun h => by cases h⟩
set_option maxHeartbeats 2000000 in
theorem rqsmall_any (q : Qy) (c : Value) (s : Kv) (g : Value) (w : World) (hq : QyS w q c s g) :
    Calls Tryz.prog 14 #[qyV q c s g] w fun e w' => SmEnd (SmQ q) e ∧ Fr Non w w' := by
  have Q0 := Lib.hid (Qin.new hq)
  have P := Lib.hid (fun W (h : QyS W q c s g) => rpsmall_any q.whr s 9 9 W rfl (by omega) h.kids)
  have HE0 : Hid ((q.cols.length ≤ 15 ∧ ∀ x ∈ q.cols, x.length ≤ 100) → (q.aggs.length ≤ 15 ∧ ∀ a ∈ q.aggs, a.col.length ≤ 100) → q.tab.length ≤ 100 → q.by_.length ≤ 100 → (lenP q.whr = true ∧ depP q.whr ≤ 9) → SmQ q) := Lib.hid (fun a b c d e => ⟨a.1, a.2, b.1, b.2, c, d, e.1, e.2⟩)
  generalize SmQ q = R at *
  unfold pdV pdC at P
  obtain ⟨cA, cc, hce⟩ := hq.cols.shape
  obtain ⟨gA, gc, hge⟩ := hq.aggs.shape
  clear hq
  obtain ⟨tab, cols, ⟨⟨wo, wc, wm, ⟨wn, wi, wt⟩, wk, wp⟩, wks⟩, aggs, by_⟩ := q
  obtain ⟨sA, sn, sc⟩ := s
  dsimp only at hce hge
  subst hce
  subst hge
  unfold qyV qyC kidV at *
  dsimp only [Pd.hd, Pd.kids] at *
  go_enter Tryz.func14, Tryz.ntmps14
  go_wp2
  go_loopw [3] (fun i wr => ∃ k : Nat, k ≤ cols.length ∧ k ≤ 20 ∧ i = .int .i64 k ∧ Hid (∀ j (h : j < cols.length), j < k → cols[j].length ≤ 100) ∧ Hid (Qin w w.heap.size ⟨tab, cols, ⟨⟨wo, wc, wm, ⟨wn, wi, wt⟩, wk, wp⟩, wks⟩, aggs, by_⟩ (.slice cA cols.length cc) ⟨sA, sn, sc⟩ (.slice gA aggs.length gc) wr)) (fun i _ => 20 - (intOf i).toNat)
  case atStart => exact ⟨0, Nat.zero_le _, Nat.zero_le _, rfl, Lib.hid (fun _ _ h => by omega), Q0⟩
  case round =>
    clear Q0
    obtain ⟨k, hk, hk2, rfl, HS, QR⟩ := hrel
    obtain ⟨g0, g1, g2, g3, g4, g5, g6, g7, g8, g9, g10, g11, g12⟩ := QR.out.cells
    dsimp only [Pd.hd, Pd.kids] at g0 g1 g2 g3 g4 g5 g6 g7 g8 g9 g10 g11 g12
    by_cases hlt : k < cols.length
    · by_cases h20 : k < 20
      · obtain ⟨a, rfl, _, _, hel⟩ := QR.out.sls.cols.addr (show 0 < cols.length by omega)
        have c0 := hel k hlt
        unfold sv at c0
        have HY : Hid (cols[k].length ≤ 100 → ∀ j (h : j < cols.length), j < k + 1 → cols[j].length ≤ 100) := Lib.hid (fun h j hj hjk => by
          by_cases e : j = k
          · subst e; exact h
          · exact HS.out j hj (by omega))
        clear HS hel
        try dsimp only at c0
        generalize cols[k] = y at *
        have hsl := slenN y
        by_cases hy : 100 < y.length
        · go_wp2
          go_ret
          exact ⟨end_no, QR.out.fr⟩
        · have H := Lib.hid (HY.out (by omega))
          clear HY
          go_wp2
          go_roundw
          case rel => exact ⟨k + 1, by omega, by omega, by go_num, H, QR⟩
          case measure => simp [intOf]; omega
      · have HN : Hid (¬ cols.length ≤ 15) := Lib.hid (by omega)
        clear HS
        rename World => W1
        go_wp2
        clear g0 g1 g2 g3 g4 g5 g6 g7 g8 g9 g10 g11 g12
        go_loopw [4] (fun i wr => ∃ k : Nat, k ≤ aggs.length ∧ k ≤ 20 ∧ i = .int .i64 k ∧ Hid (∀ j (h : j < aggs.length), j < k → aggs[j].col.length ≤ 100) ∧ Hid (Qin w w.heap.size ⟨tab, cols, ⟨⟨wo, wc, wm, ⟨wn, wi, wt⟩, wk, wp⟩, wks⟩, aggs, by_⟩ (.slice cA cols.length cc) ⟨sA, sn, sc⟩ (.slice gA aggs.length gc) wr)) (fun i _ => 20 - (intOf i).toNat)
        case atStart => exact ⟨0, Nat.zero_le _, Nat.zero_le _, rfl, Lib.hid (fun _ _ h => by omega), QR⟩
        case round =>
          clear QR
          obtain ⟨m, hm, hm2, rfl, HS2, QR⟩ := hrel
          obtain ⟨g0, g1, g2, g3, g4, g5, g6, g7, g8, g9, g10, g11, g12⟩ := QR.out.cells
          dsimp only [Pd.hd, Pd.kids] at g0 g1 g2 g3 g4 g5 g6 g7 g8 g9 g10 g11 g12
          by_cases hlt2 : m < aggs.length
          · by_cases h202 : m < 20
            · obtain ⟨b, rfl, _, d0, d1⟩ := Ns.gat QR.out.sls.aggs m hlt2
              have HY : Hid (aggs[m].col.length ≤ 100 → ∀ j (h : j < aggs.length), j < m + 1 → aggs[j].col.length ≤ 100) := Lib.hid (fun h j hj hjk => by
                by_cases e : j = m
                · subst e; exact h
                · exact HS2.out j hj (by omega))
              clear HS2
              try dsimp only at d0 d1
              generalize aggs[m] = x at *
              obtain ⟨xo, xn⟩ := x
              dsimp only at d0 d1 HY
              have hsl := slenN xn
              by_cases hy : 100 < xn.length
              · go_wp2
                go_ret
                exact ⟨end_no, QR.out.fr⟩
              · have H2 := Lib.hid (HY.out (by omega))
                clear HY
                go_wp2
                go_roundw
                case rel => exact ⟨m + 1, by omega, by omega, by go_num, H2, QR⟩
                case measure => simp [intOf]; omega
            · have HN2 : Hid (¬ aggs.length ≤ 15) := Lib.hid (by omega)
              have hc15 : ¬ cols.length ≤ 15 := HN.out
              go_wp2
              go_ret
              exact ⟨end_no, QR.out.fr⟩
          · have H2 : Hid (∀ a ∈ aggs, a.col.length ≤ 100) := Lib.hid (fun x hx => by
              obtain ⟨j, hj, rfl⟩ := List.mem_iff_getElem.1 hx
              exact HS2.out j hj (by omega))
            have hc15 : ¬ cols.length ≤ 15 := HN.out
            go_wp2
            go_ret
            exact ⟨end_no, QR.out.fr⟩
    · have H : Hid (∀ x ∈ cols, x.length ≤ 100) := Lib.hid (fun x hx => by
        obtain ⟨j, hj, rfl⟩ := List.mem_iff_getElem.1 hx
        exact HS.out j hj (by omega))
      clear HS
      rename World => W1
      go_wp2
      clear g0 g1 g2 g3 g4 g5 g6 g7 g8 g9 g10 g11 g12
      go_loopw [4] (fun i wr => ∃ k : Nat, k ≤ aggs.length ∧ k ≤ 20 ∧ i = .int .i64 k ∧ Hid (∀ j (h : j < aggs.length), j < k → aggs[j].col.length ≤ 100) ∧ Hid (Qin w w.heap.size ⟨tab, cols, ⟨⟨wo, wc, wm, ⟨wn, wi, wt⟩, wk, wp⟩, wks⟩, aggs, by_⟩ (.slice cA cols.length cc) ⟨sA, sn, sc⟩ (.slice gA aggs.length gc) wr)) (fun i _ => 20 - (intOf i).toNat)
      case atStart => exact ⟨0, Nat.zero_le _, Nat.zero_le _, rfl, Lib.hid (fun _ _ h => by omega), QR⟩
      case round =>
        clear QR
        obtain ⟨m, hm, hm2, rfl, HS2, QR⟩ := hrel
        obtain ⟨g0, g1, g2, g3, g4, g5, g6, g7, g8, g9, g10, g11, g12⟩ := QR.out.cells
        dsimp only [Pd.hd, Pd.kids] at g0 g1 g2 g3 g4 g5 g6 g7 g8 g9 g10 g11 g12
        by_cases hlt2 : m < aggs.length
        · by_cases h202 : m < 20
          · obtain ⟨b, rfl, _, d0, d1⟩ := Ns.gat QR.out.sls.aggs m hlt2
            have HY : Hid (aggs[m].col.length ≤ 100 → ∀ j (h : j < aggs.length), j < m + 1 → aggs[j].col.length ≤ 100) := Lib.hid (fun h j hj hjk => by
              by_cases e : j = m
              · subst e; exact h
              · exact HS2.out j hj (by omega))
            clear HS2
            try dsimp only at d0 d1
            generalize aggs[m] = x at *
            obtain ⟨xo, xn⟩ := x
            dsimp only at d0 d1 HY
            have hsl := slenN xn
            by_cases hy : 100 < xn.length
            · go_wp2
              go_ret
              exact ⟨end_no, QR.out.fr⟩
            · have H2 := Lib.hid (HY.out (by omega))
              clear HY
              go_wp2
              go_roundw
              case rel => exact ⟨m + 1, by omega, by omega, by go_num, H2, QR⟩
              case measure => simp [intOf]; omega
          · have HN2 : Hid (¬ aggs.length ≤ 15) := Lib.hid (by omega)
            by_cases hc15 : cols.length ≤ 15
            · have hg15 : ¬ aggs.length ≤ 15 := HN2.out
              go_wp2
              go_ret
              exact ⟨end_no, QR.out.fr⟩
            · go_wp2
              go_ret
              exact ⟨end_no, QR.out.fr⟩
        · have H2 : Hid (∀ a ∈ aggs, a.col.length ≤ 100) := Lib.hid (fun x hx => by
            obtain ⟨j, hj, rfl⟩ := List.mem_iff_getElem.1 hx
            exact HS2.out j hj (by omega))
          have st := slenN tab
          have sb := slenN by_
          by_cases hc15 : cols.length ≤ 15
          · by_cases hg15 : aggs.length ≤ 15
            · by_cases ht : tab.length ≤ 100
              · by_cases hb : by_.length ≤ 100
                · go_wp2_with fail
                  refine (P.out _ QR.out.sls).mono ?_
                  rintro e w5 ⟨⟨b5, rfl, hb5⟩, f5⟩
                  have HB5 := Lib.hid hb5
                  clear hb5
                  have HR : Hid (b5 = true → R) := Lib.hid (fun e => HE0.out ⟨hc15, H.out⟩ ⟨hg15, H2.out⟩ ht hb (HB5.out e))
                  go_wp2
                  go_ret
                  exact ⟨⟨_, rfl, HR.out⟩, QR.out.fr.trans f5⟩
                · go_wp2
                  go_ret
                  exact ⟨end_no, QR.out.fr⟩
              · go_wp2
                go_ret
                exact ⟨end_no, QR.out.fr⟩
            · go_wp2
              go_ret
              exact ⟨end_no, QR.out.fr⟩
          · go_wp2
            go_ret
            exact ⟨end_no, QR.out.fr⟩
end Go.Proofs.YtipgaafgnefmdaaGreatDoor


namespace Go.Proofs.YtipgaafgnefmdaaGreatDoor
set_option linter.unusedVariables false
set_option linter.unusedSimpArgs false
set_option maxRecDepth 100000
open Go.RowKit

theorem textP_part {q : Qy} (h : (textQ q).length ≤ 400) : (textP q.whr).length ≤ 400 := by
  unfold textQ whrT at h
  by_cases e : q.whr.hd.op = 1
  · obtain ⟨t, c, ⟨hd, ks⟩, g, y⟩ := q
    show (textP (.mk hd ks)).length ≤ 400
    rw [tx_1 (show hd.op = 1 from e)]
    decide
  · rw [if_neg e] at h
    simp only [List.length_append] at h
    omega
theorem may_text {q : Qy} (h : mayQ q = true) : TextQ q = textQ q := if_pos h
theorem may_textP {p : Pd} (h : mayP p = true) : TextP p = textP p := if_pos h
def BackQ (q : Qy) (V : World) (e : Ending) (w' : World) : Prop := ∃ c k g, e = .returned (.tuple #[qyV q c k g, .int .i64 (textQ q).length, .int .i64 0]) ∧ QyS w' q c k g ∧ Fr Non V w'
def BackP (p : Pd) (V : World) (e : Ending) (w' : World) : Prop := ∃ k, e = .returned (.tuple #[pdV p.hd k, .int .i64 (textP p).length, .int .i64 0]) ∧ Kd w' k p.kids ∧ Fr Non V w'
theorem backQ_any (q : Qy) (V : World) (hW : Lw V) (h : mayQ q = true) (hn : numP q.whr) (hl : (textQ q).length ≤ 400) :
    Calls Tryz.prog 7 #[.string ⟨(textQ q).toArray⟩] V (BackQ q V) := by
  have x := pQuery_any (textQ q) V hW
  unfold TelQ at x
  rw [back_qy h hn hl] at x
  refine x.mono ?_
  rintro e w' ⟨c, k, g, he, hG, hF⟩
  exact ⟨c, k, g, he, hG.s, hF⟩
theorem backP_any (p : Pd) (V : World) (hW : Lw V) (h : mayP p = true) (hn : numP p) (hl : (textP p).length ≤ 400) :
    Calls Tryz.prog 11 #[.string ⟨(textP p).toArray⟩] V (BackP p V) := by
  have x := pWhere_any (textP p) V hW
  unfold TelP at x
  rw [back_pd h hn hl] at x
  refine x.mono ?_
  rintro e w' ⟨k, he, hG, _, hF⟩
  exact ⟨k, he, hG.kd, hF⟩

set_option maxHeartbeats 8000000 in
theorem parseBack_walk (q : Qy) (c : Value) (s : Kv) (g : Value) (W : World) (hW : Lw W) (hq : QyS W q c s g) :
    Calls Tryz.prog 5 #[qyV q c s g] W fun e w' => e = .returned (.bool true) ∧ Below W.heap.size W w' := by
  have Q0 := Lib.hid (Qin.new hq)
  have HV := Lib.hid (fun V (h : Fr Non W V) => live19_any V (hW.non h))
  have HN := Lib.hid (fun n V => lnum19_any n V)
  have S1 := Lib.hid (fun V (h : QyS V q c s g) => rqsmall_any q c s g V h)
  have HM : Hid (SmQ q → ∀ V, QyS V q c s g → Calls Tryz.prog 15 #[qyV q c s g] V fun e w' => e = .returned (.bool (mayQ q)) ∧ Fr Non V w') := Lib.hid (fun hs V h => rqmay_any q c s g V h hs)
  have HT : Hid (SmQ q → ∀ V, QyS V q c s g → Calls Tryz.prog 16 #[qyV q c s g] V fun e w' => e = .returned (.string ⟨(TextQ q).toArray⟩) ∧ Fr Non V w') := Lib.hid (fun hs V h => rqtext_any q c s g V h hs)
  have HTX : Hid (mayQ q = true → TextQ q = textQ q) := Lib.hid may_text
  have HPQ : Hid (mayQ q = true → (textQ q).length ≤ 400 → ∀ V, Fr Non W V → Calls Tryz.prog 7 #[.string ⟨(textQ q).toArray⟩] V (BackQ q V)) := Lib.hid (fun hm hl V hf => backQ_any q V (hW.non hf) hm hq.nums hl)
  have HPW : Hid (mayQ q = true → (textQ q).length ≤ 400 → ∀ V, Fr Non W V → Calls Tryz.prog 11 #[.string ⟨(textP q.whr).toArray⟩] V (BackP q.whr V)) := Lib.hid (fun hm hl V hf => backP_any q.whr V (hW.non hf) (may_parts hm).2 hq.nums (textP_part hl))
  have HTP : Hid (mayQ q = true → ∀ V, QyS V q c s g → Calls Tryz.prog 17 #[pdV q.whr.hd s] V fun e w' => e = .returned (.string ⟨(textP q.whr).toArray⟩) ∧ Fr Non V w') := Lib.hid (fun hm V h => by
    have x := rpText_any q.whr.hd s q.whr.kids V h.kids hq.num (by rw [← Pd.eta]; exact may_len (may_parts hm).2)
    rw [← Pd.eta, may_textP (may_parts hm).2] at x
    exact x)
  have HEQ : Hid (SmQ q → ∀ c2 k2 g2 V, QyS V q c2 k2 g2 → QyS V q c s g → Calls Tryz.prog 9 #[qyV q c2 k2 g2, qyV q c s g] V fun e w' => e = .returned (.bool true) ∧ Fr Non V w') := Lib.hid (fun hs c2 k2 g2 V h1 h2 => by
    have x := rqsame_any _ c2 k2 g2 _ c s g V h1 h2 hs
    rw [sameQ_self] at x
    exact x)
  have HEP : Hid (SmQ q → ∀ k2 V, Kd V k2 q.whr.kids → Kd V s q.whr.kids → Calls Tryz.prog 13 #[pdV q.whr.hd k2, pdV q.whr.hd s] V fun e w' => e = .returned (.bool true) ∧ Fr Non V w') := Lib.hid (fun hs k2 V h1 h2 => by
    have x := rpsame_any q.whr q.whr k2 s V h1 h2 hs.lens
    rw [sameP_self] at x
    exact x)
  obtain ⟨cA, cc, hce⟩ := hq.cols.shape
  obtain ⟨gA, gc, hge⟩ := hq.aggs.shape
  clear hq hW
  unfold BackQ at HPQ
  unfold BackP at HPW
  generalize SmQ q = P at *
  generalize mayQ q = m at *
  generalize TextQ q = tX at *
  generalize textQ q = tx at *
  generalize textP q.whr = tp at *
  obtain ⟨tab, cols, ⟨⟨wo, wc, wm, ⟨wn, wi, wt⟩, wk, wp⟩, wks⟩, aggs, by_⟩ := q
  obtain ⟨sA, sn, sc⟩ := s
  dsimp only at hce hge
  subst hce
  subst hge
  unfold qyV qyC kidV at *
  unfold pdV pdC kidV at *
  dsimp only [Pd.hd, Pd.kids] at *
  go_enter Tryz.func5, Tryz.ntmps5
  obtain ⟨g0, g1, g2, g3, g4, g5, g6, g7, g8, g9, g10, g11, g12⟩ := Q0.out.cells
  dsimp only [Pd.hd, Pd.kids] at g0 g1 g2 g3 g4 g5 g6 g7 g8 g9 g10 g11 g12
  go_wp2_with fail
  refine (S1.out _ Q0.out.sls).mono ?_
  rintro e w1 ⟨⟨b1, rfl, hb1⟩, f1⟩
  have Q1 := Lib.hid (Q0.out.non f1)
  have HB1 := Lib.hid hb1
  clear g0 g1 g2 g3 g4 g5 g6 g7 g8 g9 g10 g11 g12
  obtain ⟨g0, g1, g2, g3, g4, g5, g6, g7, g8, g9, g10, g11, g12⟩ := Q1.out.cells
  dsimp only [Pd.hd, Pd.kids] at g0 g1 g2 g3 g4 g5 g6 g7 g8 g9 g10 g11 g12
  clear f1 hb1 S1
  cases b1
  · clear HM HT HTX HPQ HPW HTP HEQ HEP
    go_wp2_with fail
    refine (HV.out _ Q1.out.fr).mono ?_
    rintro e w9 ⟨rfl, f9⟩
    have HF := Lib.hid (Q1.out.fr.trans f9)
    clear f9
    go_wp2
    go_ret
    exact ⟨rfl, HF.out.below⟩
  · have hp := HB1.out (by trivial)
    have M1 := Lib.hid (HM.out hp)
    have T1 := Lib.hid (HT.out hp)
    have E1 := Lib.hid (HEQ.out hp)
    have E2 := Lib.hid (HEP.out hp)
    clear HM HT HEQ HEP HB1 hp
    go_wp2_with fail
    refine (M1.out _ Q1.out.sls).mono ?_
    rintro e w2 ⟨rfl, f2⟩
    have Q2 := Lib.hid (Q1.out.non f2)
    clear g0 g1 g2 g3 g4 g5 g6 g7 g8 g9 g10 g11 g12
    obtain ⟨g0, g1, g2, g3, g4, g5, g6, g7, g8, g9, g10, g11, g12⟩ := Q2.out.cells
    dsimp only [Pd.hd, Pd.kids] at g0 g1 g2 g3 g4 g5 g6 g7 g8 g9 g10 g11 g12
    clear f2 M1
    cases m
    · clear HTX HPQ HPW HTP T1 E1 E2
      go_wp2_with fail
      refine (HV.out _ Q2.out.fr).mono ?_
      rintro e w9 ⟨rfl, f9⟩
      have HF := Lib.hid (Q2.out.fr.trans f9)
      clear f9
      go_wp2
      go_ret
      exact ⟨rfl, HF.out.below⟩
    · obtain rfl := HTX.out (by trivial)
      have Y1 := Lib.hid (HPQ.out (by trivial))
      have Y2 := Lib.hid (HPW.out (by trivial))
      have Y3 := Lib.hid (HTP.out (by trivial))
      clear HTX HPQ HPW HTP
      go_wp2_with fail
      refine (T1.out _ Q2.out.sls).mono ?_
      rintro e w3 ⟨rfl, f3⟩
      have Q3 := Lib.hid (Q2.out.non f3)
      clear g0 g1 g2 g3 g4 g5 g6 g7 g8 g9 g10 g11 g12
      obtain ⟨g0, g1, g2, g3, g4, g5, g6, g7, g8, g9, g10, g11, g12⟩ := Q3.out.cells
      dsimp only [Pd.hd, Pd.kids] at g0 g1 g2 g3 g4 g5 g6 g7 g8 g9 g10 g11 g12
      clear f3
      by_cases hl : 400 < tX.length
      · have hb : decide ((400 : Int) < (tX.length : Int)) = true := by simp; omega
        clear hl Y1 Y2 Y3 T1 E1 E2
        go_wp2_with fail
        refine (HV.out _ Q3.out.fr).mono ?_
        rintro e w9 ⟨rfl, f9⟩
        have HF := Lib.hid (Q3.out.fr.trans f9)
        clear f9
        go_wp2
        go_ret
        exact ⟨rfl, HF.out.below⟩
      · have hb : decide ((400 : Int) < (tX.length : Int)) = false := by simp; omega
        have X1 := Lib.hid (Y1.out (by omega))
        have X2 := Lib.hid (Y2.out (by omega))
        clear hl Y1 Y2
        go_upto_region 3 with fail
        clear hb
        go_wp2_with fail
        refine (T1.out _ Q3.out.sls).mono ?_
        rintro e w4 ⟨rfl, f4⟩
        have Q4 := Lib.hid (Q3.out.non f4)
        clear g0 g1 g2 g3 g4 g5 g6 g7 g8 g9 g10 g11 g12
        obtain ⟨g0, g1, g2, g3, g4, g5, g6, g7, g8, g9, g10, g11, g12⟩ := Q4.out.cells
        dsimp only [Pd.hd, Pd.kids] at g0 g1 g2 g3 g4 g5 g6 g7 g8 g9 g10 g11 g12
        clear f4
        go_wp2_with fail
        refine (X1.out _ Q4.out.fr).mono ?_
        rintro e w5 ⟨c2, k2, g2, rfl, hG, hF⟩
        obtain ⟨cA2, cc2, rfl⟩ := hG.cols.shape
        obtain ⟨gA2, gc2, rfl⟩ := hG.aggs.shape
        obtain ⟨kA2, kn2, kc2⟩ := k2
        have R5 := Lib.hid (qy_put (Q4.out.fr.trans hF) hG)
        have Q5 := Lib.hid ((Q4.out.non hF).non ((Fr.refl Non w5).alloc (.cells (qyC ⟨tab, cols, .mk ⟨wo, wc, wm, ⟨wn, wi, wt⟩, wk, wp⟩ wks, aggs, by_⟩ (.slice cA2 cols.length cc2) ⟨kA2, kn2, kc2⟩ (.slice gA2 aggs.length gc2)) 31)))
        clear hG hF X1
        unfold qyC kidV at R5 Q5
        dsimp only [Pd.hd, Pd.kids, List.length] at R5 Q5
        dsimp only [Pd.hd, Pd.kids]
        go_upto_region 4 with fail
        generalize w5.alloc (.cells #[.string ⟨tab.toArray⟩, .slice cA2 cols.length cc2, .int .i64 wo, .string ⟨wc.toArray⟩, .int .i64 wm, .bool wn, .int .i64 wi, .string ⟨wt.toArray⟩, .int .i64 wk, .string ⟨wp.toArray⟩, .slice kA2 kn2 kc2, .slice gA2 aggs.length gc2, .string ⟨by_.toArray⟩] 31) = W5 at *
        generalize w5.heap.size = b1 at *
        clear g0 g1 g2 g3 g4 g5 g6 g7 g8 g9 g10 g11 g12
        obtain ⟨g0, g1, g2, g3, g4, g5, g6, g7, g8, g9, g10, g11, g12⟩ := Q5.out.cells
        dsimp only [Pd.hd, Pd.kids] at g0 g1 g2 g3 g4 g5 g6 g7 g8 g9 g10 g11 g12
        go_wp2_with fail
        refine (Y3.out _ Q5.out.sls).mono ?_
        rintro e w6 ⟨rfl, f6⟩
        have Q6 := Lib.hid (Q5.out.non f6)
        have R6 := Lib.hid (R5.out.non f6)
        clear f6 Q5 R5
        clear g0 g1 g2 g3 g4 g5 g6 g7 g8 g9 g10 g11 g12
        obtain ⟨g0, g1, g2, g3, g4, g5, g6, g7, g8, g9, g10, g11, g12⟩ := Q6.out.cells
        dsimp only [Pd.hd, Pd.kids] at g0 g1 g2 g3 g4 g5 g6 g7 g8 g9 g10 g11 g12
        go_wp2_with fail
        refine (X2.out _ Q6.out.fr).mono ?_
        rintro e w7 ⟨k3, rfl, hG, hF⟩
        obtain ⟨kA3, kn3, kc3⟩ := k3
        have P7 := Lib.hid (pd_lay (h := ⟨wo, wc, wm, ⟨wn, wi, wt⟩, wk, wp⟩) (Q6.out.fr.trans hF) hG)
        have FA := (Fr.refl Non w7).alloc (.cells (pdC ⟨wo, wc, wm, ⟨wn, wi, wt⟩, wk, wp⟩ ⟨kA3, kn3, kc3⟩) 28)
        have Q7 := Lib.hid ((Q6.out.non hF).non FA)
        have R7 := Lib.hid ((R6.out.non hF).non FA)
        clear hG hF FA X2 Q6 R6
        unfold pdC kidV at P7 Q7 R7
        dsimp only [Pd.hd, Pd.kids] at P7 Q7 R7
        dsimp only [Pd.hd, Pd.kids]
        go_upto_region 5 with fail
        generalize w7.alloc (.cells #[.int .i64 wo, .string ⟨wc.toArray⟩, .int .i64 wm, .bool wn, .int .i64 wi, .string ⟨wt.toArray⟩, .int .i64 wk, .string ⟨wp.toArray⟩, .slice kA3 kn3 kc3] 28) = W7 at *
        generalize w7.heap.size = b2 at *
        have Z1 := Lib.hid (E1.out (.slice cA2 cols.length cc2) ⟨kA2, kn2, kc2⟩ (.slice gA2 aggs.length gc2))
        have Z2 := Lib.hid (E2.out ⟨kA3, kn3, kc3⟩)
        clear E1 E2
        dsimp only [Pd.hd, Pd.kids] at Z1 Z2
        clear g0 g1 g2 g3 g4 g5 g6 g7 g8 g9 g10 g11 g12
        obtain ⟨g0, g1, g2, g3, g4, g5, g6, g7, g8, g9, g10, g11, g12⟩ := Q7.out.cells
        dsimp only [Pd.hd, Pd.kids] at g0 g1 g2 g3 g4 g5 g6 g7 g8 g9 g10 g11 g12
        obtain ⟨k0, k1, k2, k3, k4, k5, k6, k7, k8, k9, k10, k11, k12⟩ := R7.out.cells
        dsimp only [Pd.hd, Pd.kids] at k0 k1 k2 k3 k4 k5 k6 k7 k8 k9 k10 k11 k12
        obtain ⟨p0, p1, p2, p3, p4, p5, p6, p7, p8⟩ := P7.out.cells
        dsimp only [Pd.hd, Pd.kids] at p0 p1 p2 p3 p4 p5 p6 p7 p8
        go_wp2_with fail
        refine (HN.out _ _).mono ?_
        rintro e wn9 ⟨rfl, rfl⟩
        go_wp2_with fail
        refine (Z1.out _ R7.out.sls Q7.out.sls).mono ?_
        rintro e w8 ⟨rfl, f8⟩
        clear Z1
        have Q8 := Lib.hid (Q7.out.non f8)
        have R8 := Lib.hid (R7.out.non f8)
        have P8 := Lib.hid (P7.out.non f8)
        clear f8 Q7 R7 P7
        clear g0 g1 g2 g3 g4 g5 g6 g7 g8 g9 g10 g11 g12
        obtain ⟨g0, g1, g2, g3, g4, g5, g6, g7, g8, g9, g10, g11, g12⟩ := Q8.out.cells
        dsimp only [Pd.hd, Pd.kids] at g0 g1 g2 g3 g4 g5 g6 g7 g8 g9 g10 g11 g12
        clear k0 k1 k2 k3 k4 k5 k6 k7 k8 k9 k10 k11 k12
        obtain ⟨k0, k1, k2, k3, k4, k5, k6, k7, k8, k9, k10, k11, k12⟩ := R8.out.cells
        dsimp only [Pd.hd, Pd.kids] at k0 k1 k2 k3 k4 k5 k6 k7 k8 k9 k10 k11 k12
        clear p0 p1 p2 p3 p4 p5 p6 p7 p8
        obtain ⟨p0, p1, p2, p3, p4, p5, p6, p7, p8⟩ := P8.out.cells
        dsimp only [Pd.hd, Pd.kids] at p0 p1 p2 p3 p4 p5 p6 p7 p8
        go_wp2_with fail
        refine (T1.out _ Q8.out.sls).mono ?_
        rintro e w10 ⟨rfl, f10⟩
        have Q10 := Lib.hid (Q8.out.non f10)
        have R10 := Lib.hid (R8.out.non f10)
        have P10 := Lib.hid (P8.out.non f10)
        clear f10 Q8 R8 P8
        clear g0 g1 g2 g3 g4 g5 g6 g7 g8 g9 g10 g11 g12
        obtain ⟨g0, g1, g2, g3, g4, g5, g6, g7, g8, g9, g10, g11, g12⟩ := Q10.out.cells
        dsimp only [Pd.hd, Pd.kids] at g0 g1 g2 g3 g4 g5 g6 g7 g8 g9 g10 g11 g12
        clear k0 k1 k2 k3 k4 k5 k6 k7 k8 k9 k10 k11 k12
        obtain ⟨k0, k1, k2, k3, k4, k5, k6, k7, k8, k9, k10, k11, k12⟩ := R10.out.cells
        dsimp only [Pd.hd, Pd.kids] at k0 k1 k2 k3 k4 k5 k6 k7 k8 k9 k10 k11 k12
        clear p0 p1 p2 p3 p4 p5 p6 p7 p8
        obtain ⟨p0, p1, p2, p3, p4, p5, p6, p7, p8⟩ := P10.out.cells
        dsimp only [Pd.hd, Pd.kids] at p0 p1 p2 p3 p4 p5 p6 p7 p8
        go_wp2_with fail
        refine (HN.out _ _).mono ?_
        rintro e wn9 ⟨rfl, rfl⟩
        go_wp2_with fail
        refine (Z2.out _ P10.out.kids Q10.out.sls.kids).mono ?_
        rintro e w11 ⟨rfl, f11⟩
        clear Z2
        have Q11 := Lib.hid (Q10.out.non f11)
        have R11 := Lib.hid (R10.out.non f11)
        have P11 := Lib.hid (P10.out.non f11)
        clear f11 Q10 R10 P10
        clear g0 g1 g2 g3 g4 g5 g6 g7 g8 g9 g10 g11 g12
        obtain ⟨g0, g1, g2, g3, g4, g5, g6, g7, g8, g9, g10, g11, g12⟩ := Q11.out.cells
        dsimp only [Pd.hd, Pd.kids] at g0 g1 g2 g3 g4 g5 g6 g7 g8 g9 g10 g11 g12
        clear k0 k1 k2 k3 k4 k5 k6 k7 k8 k9 k10 k11 k12
        obtain ⟨k0, k1, k2, k3, k4, k5, k6, k7, k8, k9, k10, k11, k12⟩ := R11.out.cells
        dsimp only [Pd.hd, Pd.kids] at k0 k1 k2 k3 k4 k5 k6 k7 k8 k9 k10 k11 k12
        clear p0 p1 p2 p3 p4 p5 p6 p7 p8
        obtain ⟨p0, p1, p2, p3, p4, p5, p6, p7, p8⟩ := P11.out.cells
        dsimp only [Pd.hd, Pd.kids] at p0 p1 p2 p3 p4 p5 p6 p7 p8
        go_wp2_with fail
        refine (Y3.out _ Q11.out.sls).mono ?_
        rintro e w12 ⟨rfl, f12⟩
        have Q12 := Lib.hid (Q11.out.non f12)
        have R12 := Lib.hid (R11.out.non f12)
        have P12 := Lib.hid (P11.out.non f12)
        clear f12 Q11 R11 P11
        clear g0 g1 g2 g3 g4 g5 g6 g7 g8 g9 g10 g11 g12
        obtain ⟨g0, g1, g2, g3, g4, g5, g6, g7, g8, g9, g10, g11, g12⟩ := Q12.out.cells
        dsimp only [Pd.hd, Pd.kids] at g0 g1 g2 g3 g4 g5 g6 g7 g8 g9 g10 g11 g12
        clear k0 k1 k2 k3 k4 k5 k6 k7 k8 k9 k10 k11 k12
        obtain ⟨k0, k1, k2, k3, k4, k5, k6, k7, k8, k9, k10, k11, k12⟩ := R12.out.cells
        dsimp only [Pd.hd, Pd.kids] at k0 k1 k2 k3 k4 k5 k6 k7 k8 k9 k10 k11 k12
        clear p0 p1 p2 p3 p4 p5 p6 p7 p8
        obtain ⟨p0, p1, p2, p3, p4, p5, p6, p7, p8⟩ := P12.out.cells
        dsimp only [Pd.hd, Pd.kids] at p0 p1 p2 p3 p4 p5 p6 p7 p8
        go_wp2_with fail
        refine (HV.out _ Q12.out.fr).mono ?_
        rintro e w9 ⟨rfl, f9⟩
        have HF := Lib.hid (Q12.out.fr.trans f9)
        clear f9
        go_wp2
        go_ret
        exact ⟨rfl, HF.out.below⟩
end Go.Proofs.YtipgaafgnefmdaaGreatDoor


namespace Go.Proofs.YtipgaafgnefmdaaGreatDoor
set_option linter.unusedVariables false
set_option linter.unusedSimpArgs false
set_option maxRecDepth 100000
open Go.Joins Go.ChangeShapes Go.WideShapes Go.ChangeAt Go.RowKit Go.Deep

/-- a cell within its fields' ranges -/
structure ClWf (c : Cl) : Prop where
  lo : -9223372036854775808 ≤ c.num
  hi : c.num ≤ 9223372036854775807
  len : c.txt.length ≤ 9223372036854775807
end Go.Proofs.YtipgaafgnefmdaaGreatDoor


namespace Go.Proofs.YtipgaafgnefmdaaGreatDoor
set_option linter.unusedVariables false
set_option linter.unusedSimpArgs false
set_option maxRecDepth 100000
open Go.RowKit

/-- a cell's three values, and those of many -/
def clL (c : Cl) : List Value := [.bool c.null, .int .i64 c.num, .string ⟨c.txt.toArray⟩]
def clsL (l : List Cl) : List Value := l.flatMap clL
theorem clsL_cons (c : Cl) (l : List Cl) : clsL (c :: l) = clL c ++ clsL l := by simp [clsL]
theorem clsL_at (l : List Cl) (j : Nat) (i : Nat) (hj : j < l.length) (hi : i < 3) : (clsL l)[j * 3 + i]? = (clL l[j])[i]? := by
  induction l generalizing j with
  | nil => cases hj
  | cons c l ih =>
    rw [clsL_cons]
    cases j with
    | zero => rw [List.getElem?_append_left (by simp [clL]; omega)]; simp
    | succ j =>
      rw [List.getElem?_append_right (by simp [clL]; omega)]
      rw [show (j + 1) * 3 + i - (clL c).length = j * 3 + i by simp [clL]; omega]
      exact ih j (by simpa using hj)
/-- three cells, one behind the other, that hold c -/
structure At3 (w : World) (a : Addr) (c : Cl) : Prop where
  c0 : w.cell? a = some (.bool c.null)
  c1 : w.cell? (a.add 1) = some (.int .i64 c.num)
  c2 : w.cell? (a.add 2) = some (.string ⟨c.txt.toArray⟩)

/-- the slice v reads as the cells l -/
def Cs (w : World) (v : Value) (l : List Cl) : Prop :=
  ∃ A c, v = .slice A l.length c ∧ l.length ≤ c ∧ (A = none → c = 0) ∧ ∀ a, A = some a → ∀ j (h : j < l.length), At3 w (a.add (j * 3)) l[j]
/-- a row of the call's own, from block B on -/
def Oc (w : World) (B : Nat) (v : Value) (l : List Cl) : Prop := w.ownsRow B 25 3 v l.length (clsL l)

theorem At3.keep {w w' : World} {a : Addr} {c : Cl} (h : At3 w a c) (hk : w'.heap[a.block]? = w.heap[a.block]?) : At3 w' a c := by
  obtain ⟨h0, h1, h2⟩ := h
  exact ⟨by rw [← h0]; exact World.cell?_of_block hk, by rw [← h1]; exact World.cell?_of_block (by rw [add_block]; exact hk), by rw [← h2]; exact World.cell?_of_block (by rw [add_block]; exact hk)⟩

theorem Cs.nil_ (w : World) : Cs w (.slice none 0 0) [] := ⟨none, 0, rfl, Nat.le_refl _, fun _ => rfl, fun _ h => by cases h⟩
theorem Cs.keep {w w' : World} {v : Value} {l : List Cl} (h : Cs w v l) (hk : ∀ k, v.ownBlock = some k → k < w.heap.size → w'.heap[k]? = w.heap[k]?) : Cs w' v l := by
  obtain ⟨A, c, rfl, h1, h2, h3⟩ := h
  refine ⟨A, c, rfl, h1, h2, fun a ha j hj => ?_⟩
  have := h3 a ha j hj
  subst ha
  have hb := World.block_lt_of_cell? w _ this.c0
  refine this.keep ?_
  rw [add_block] at hb ⊢
  exact hk _ rfl hb
theorem Cs.fr {S : Nat → Prop} {w w' : World} {v : Value} {l : List Cl} (h : Cs w v l) (hf : Fr S w w') (hn : ∀ k, v.ownBlock = some k → ¬ S k) : Cs w' v l :=
  h.keep fun k hk hlt => hf.block k hlt (hn k hk)
theorem Cs.non {w w' : World} {v : Value} {l : List Cl} (h : Cs w v l) (hf : Fr Non w w') : Cs w' v l := h.fr hf fun _ _ e => e
theorem Cs.drew {w : World} {v : Value} {l : List Cl} (h : Cs w v l) : Cs w.drew v l := h.keep fun _ _ _ => rfl
theorem Cs.shape {w : World} {v : Value} {l : List Cl} (h : Cs w v l) : ∃ A c, v = .slice A l.length c := by
  obtain ⟨A, c, rfl, _⟩ := h; exact ⟨A, c, rfl⟩
theorem Cs.addr {w : World} {A : Option Addr} {n c : Nat} {l : List Cl} (h : Cs w (.slice A n c) l) (hl : 0 < n) : ∃ a, A = some a ∧ n = l.length ∧ n ≤ c ∧ ∀ j (h : j < l.length), At3 w (a.add (j * 3)) l[j] := by
  obtain ⟨A0, c0, he, h1, h2, h3⟩ := h
  simp only [Value.slice.injEq] at he
  obtain ⟨rfl, rfl, rfl⟩ := he
  cases A with
  | none => have := h2 rfl; omega
  | some a => exact ⟨a, rfl, rfl, h1, h3 a rfl⟩
/-- what a walk asks of the element at j -/
theorem Cs.el {w : World} {a : Addr} {n c : Nat} {l : List Cl} (h : Cs w (.slice (some a) n c) l) (j : Nat) (x : Cl) (hx : l[j]? = some x) :
    w.cell? (a.add (j * 3)) = some (.bool x.null) ∧ w.cell? ((a.add (j * 3)).add 1) = some (.int .i64 x.num) ∧ w.cell? ((a.add (j * 3)).add 2) = some (.string ⟨x.txt.toArray⟩) := by
  obtain ⟨A0, c0, he, h1, h2, h3⟩ := h
  simp only [Value.slice.injEq] at he
  obtain ⟨rfl, rfl, rfl⟩ := he
  obtain ⟨hj, rfl⟩ := List.getElem?_eq_some_iff.1 hx
  have := h3 a rfl j hj
  exact ⟨this.c0, this.c1, this.c2⟩

/-- as a walk spells them -/
theorem At3.lit {w : World} {a : Addr} {c : Cl} (h : At3 w a c) : w.cell? a = some (.bool c.null) ∧ w.cell? { block := a.block, off := a.off + 1 } = some (.int .i64 c.num) ∧ w.cell? { block := a.block, off := a.off + 2 } = some (.string ⟨c.txt.toArray⟩) := ⟨h.c0, h.c1, h.c2⟩
theorem Oc.lt {w : World} {B : Nat} {v : Value} {l : List Cl} (h : Oc w B v l) : ∀ k, v.ownBlock = some k → B ≤ k ∧ k < w.heap.size := World.ownsRow.lt h
theorem Oc.cs {w : World} {B : Nat} {v : Value} {l : List Cl} (h : Oc w B v l) : Cs w v l := by
  rcases h.2 with ⟨rfl, h0⟩ | ⟨g, cap, cur, rfl, _, _, hle, _, _, _⟩
  · have hl : l = [] := List.eq_nil_of_length_eq_zero h0
    subst hl; exact Cs.nil_ w
  · refine ⟨_, cap, rfl, hle, (fun h => by cases h), fun a ha j hj => ?_⟩
    cases ha
    have H := fun i hi => World.ownsRow.cells h (g := g) rfl (j * 3 + i) _ ((clsL_at l j i hj hi).trans (List.getElem?_eq_getElem (by simp [clL]; omega)))
    refine ⟨?_, ?_, ?_⟩
    · have := H 0 (by omega); simpa [clL] using this
    · rw [add_add]; have := H 1 (by omega); simpa [clL] using this
    · rw [add_add]; have := H 2 (by omega); simpa [clL] using this
theorem Oc.shape {w : World} {B : Nat} {v : Value} {l : List Cl} (h : Oc w B v l) : ∃ A c, v = .slice A l.length c := h.cs.shape
theorem Oc.keep {w w' : World} {B : Nat} {v : Value} {l : List Cl} (h : Oc w B v l) (hk : ∀ k, v.ownBlock = some k → w'.heap[k]? = w.heap[k]?) : Oc w' B v l := by
  refine ⟨h.1, ?_⟩
  rcases h.2 with h2 | ⟨g, cap, cur, hv, hb, hg, r⟩
  · exact .inl h2
  · exact .inr ⟨g, cap, cur, hv, hb, by rw [hk g (by rw [hv]; rfl)]; exact hg, r⟩
theorem Oc.fr {S : Nat → Prop} {w w' : World} {B : Nat} {v : Value} {l : List Cl} (h : Oc w B v l) (hf : Fr S w w') (hn : ∀ k, v.ownBlock = some k → ¬ S k) : Oc w' B v l :=
  h.keep fun k hk => hf.block k (h.lt k hk).2 (hn k hk)
theorem Oc.non {w w' : World} {B : Nat} {v : Value} {l : List Cl} (h : Oc w B v l) (hf : Fr Non w w') : Oc w' B v l := h.fr hf fun _ _ e => e
theorem Oc.alloc {w : World} {B : Nat} {v : Value} {l : List Cl} (h : Oc w B v l) (o : Obj) : Oc (w.alloc o) B v l := h.non ((Fr.refl _ _).alloc o)
theorem Oc.drew {w : World} {B : Nat} {v : Value} {l : List Cl} (h : Oc w B v l) : Oc w.drew B v l := h
theorem Oc.mono {w : World} {B B' : Nat} {v : Value} {l : List Cl} (h : Oc w B v l) (hB : B' ≤ B) : Oc w B' v l := by
  refine ⟨h.1, ?_⟩
  rcases h.2 with h2 | ⟨g, cap, cur, hv, hb, r⟩
  · exact .inl h2
  · exact .inr ⟨g, cap, cur, hv, by omega, r⟩
theorem Oc.kind {w : World} {B : Nat} {v : Value} {l : List Cl} (h : Oc w B v l) : ∀ k, v.ownBlock = some k → ∃ cur, w.heap[k]? = some (.cells cur 25 (0, 0)) := by
  intro k hk
  rcases h.2 with ⟨rfl, _⟩ | ⟨g, cap, cur, rfl, _, hg, _⟩
  · cases hk
  · obtain rfl : g = k := by simpa [Value.ownBlock] using hk
    exact ⟨cur, hg⟩
theorem Oc.row {w : World} {B : Nat} {v : Value} {l : List Cl} (h : Oc w B v l) (hn : 0 < l.length) : ∃ g cap, v = .slice (some ⟨g, 0, none⟩) l.length cap ∧ B ≤ g ∧ g < w.heap.size ∧ l.length ≤ cap ∧ cap ≤ maxLen := by
  rcases h.2 with ⟨rfl, h0⟩ | ⟨g, cap, cur, rfl, hb, hg, hle, hm, _⟩
  · omega
  · exact ⟨g, cap, rfl, hb, (Array.getElem?_eq_some_iff.1 hg).1, hle, hm⟩
/-- what a walk asks of a row's element at j -/
theorem Oc.el {w : World} {B g n cap : Nat} {l : List Cl} (h : Oc w B (.slice (some ⟨g, 0, none⟩) n cap) l) (hn : n = l.length) (j : Nat) (x : Cl) (hx : l[j]? = some x) :
    w.cell? ⟨g, j * 3, none⟩ = some (.bool x.null) ∧ w.cell? ⟨g, j * 3 + 1, none⟩ = some (.int .i64 x.num) ∧ w.cell? ⟨g, j * 3 + 2, none⟩ = some (.string ⟨x.txt.toArray⟩) := by
  subst hn
  obtain ⟨hj, rfl⟩ := List.getElem?_eq_some_iff.1 hx
  refine ⟨?_, ?_, ?_⟩
  · rw [World.ownsRow.cellAt h (j * 3) (by omega)]; have := clsL_at l j 0 hj (by omega); simpa [clL] using this
  · rw [World.ownsRow.cellAt h (j * 3 + 1) (by omega)]; have := clsL_at l j 1 hj (by omega); simpa [clL] using this
  · rw [World.ownsRow.cellAt h (j * 3 + 2) (by omega)]; have := clsL_at l j 2 hj (by omega); simpa [clL] using this
theorem Oc.frozen {w : World} {B g n cap : Nat} {l : List Cl} (h : Oc w B (.slice (some ⟨g, 0, none⟩) n cap) l) (hn : n = l.length) (j : Nat) : w.frozen? ⟨g, j, none⟩ = false := by
  subst hn; exact World.ownsRow.frozenAt h j
/-! ### Steps -/
end Go.Proofs.YtipgaafgnefmdaaGreatDoor


namespace Go.Proofs.YtipgaafgnefmdaaGreatDoor
set_option linter.unusedVariables false
set_option linter.unusedSimpArgs false
set_option maxRecDepth 100000
open Go.Joins Go.ChangeShapes Go.WideShapes Go.ChangeAt Go.RowKit Go.Deep

theorem cof_bool : Tryz.prog.cellsOf 4 = 1 := by kernel_rfl
theorem cof_i64 : Tryz.prog.cellsOf 2 = 1 := by kernel_rfl
theorem cof_int : Tryz.prog.cellsOf 3 = 1 := by kernel_rfl
theorem cof_str : Tryz.prog.cellsOf 9 = 1 := by kernel_rfl
theorem cof_cl : Tryz.prog.cellsOf 25 = 3 := by kernel_rfl
/-- three cells that are read as a cell -/
theorem cl_cells {H : Type} {enc : TypeId × Value → H} {W : World} {n : Nat} {x : DataW H × List MemPlace} {c2 c3 c4 : Value}
    (h : DataW.trod enc Tryz.prog W 0 (fun _ => true) true n 25 [c2, c3, c4] = some x) : ∃ c : Cl, c2 = .bool c.null ∧ c3 = .int .i64 c.num ∧ c4 = .string ⟨c.txt.toArray⟩ ∧ ClWf c := by
  obtain ⟨y0, y1, y2, m, rfl, _, h0, h1, h2⟩ := trod_struct3 Tryz.underlying25 h
  simp only [cof_bool, cof_i64, cof_str, List.drop_zero, List.drop_succ_cons, List.take_succ_cons, List.take_zero] at h0 h1 h2
  obtain ⟨b, e0, _⟩ := DataW.trod_bool Tryz.underlying4 h0
  obtain rfl := (List.cons.inj e0).1
  obtain ⟨i, e1, _, hi⟩ := DataW.trod_int Tryz.underlying2 h1
  obtain rfl := (List.cons.inj e1).1
  obtain ⟨s, e2, _, hs⟩ := DataW.trod_string Tryz.underlying9 h2
  obtain rfl := (List.cons.inj e2).1
  have hb := wf_i64_bd hi
  exact ⟨⟨b, i, s.data.toList⟩, rfl, rfl, by simp, ⟨hb.1, hb.2, by simpa [maxLen] using hs⟩⟩
end Go.Proofs.YtipgaafgnefmdaaGreatDoor
