/-
  Joined: WldP6, Wld2, WldP5, WldP7, WldP8, WldP9, Shelf
-/
import Derived.Lib.Zigzag
import Derived.Deep.QuietTactic
import Derived.BigQuiet
import Derived.Deep.RegionHeld3
import Derived.Deep.DrawnRows
import Derived.Laws.StructEq
import Derived.Laws.Rows
import Derived.Laws.ResultCell
import Derived.Test.YtpepapadbmkjiaaZ1
import Derived.Shelf.Strings.Prefix
import Derived.Shelf.Sort.Plain
import Derived.Test.YtpepapadbmkjiaaProg
set_option linter.unusedVariables false
set_option linter.unusedSimpArgs false
set_option maxRecDepth 100000
namespace Go.Proofs.Ytpepapadbmkjiaa
open Go.RowKit
def DoEnd (av : Nat → Prop) (N g : Nat) (w : World) (r : Int × Wst) (e : Ending) (w' : World) : Prop := e = .returned (.int .i64 r.1) ∧ (∃ n', n' ≤ N ∧ PW av n' w' g r.2) ∧ Fr (fun k => ¬ av k) w w'
def actP (x : Tx) (b : List UInt8) (fresh : Bool) (t : Wst) : Int × Wst := if fresh = true ∧ x ∈ t.ks then (6, t) else (0, laidS t x b)
theorem actP_new {x : Tx} {b : List UInt8} {t : Wst} (h : ¬ x ∈ t.ks) : actP x b true t = (0, laidS t x b) := if_neg (fun e => h e.2)
theorem actP_old {x : Tx} {b : List UInt8} {t : Wst} (h : x ∈ t.ks) : actP x b true t = (6, t) := if_pos ⟨rfl, h⟩
theorem actP_put (x : Tx) (b : List UInt8) (t : Wst) : actP x b false t = (0, laidS t x b) := if_neg (fun e => by cases e.1)
set_option maxHeartbeats 4000000 in
theorem pwdoput_any {av : Nat → Prop} {n : Nat} {w : World} {g : Nat} {s : Wst} (p : PW av n w g s) (hav : ∀ k, av k → k < w.heap.size) (hn : n < 1000000) (x : Tx) (hx : x.length ≤ 1000000000) (v : Value) (b : List UInt8) (hv : Bs w v b) (hbl : b.length ≤ 1048576) (B0 B1 B2 : Nat) (a0 : av B0) (a1 : av B1) (a2 : av B2) (h0 : w.cell? ⟨B0, 0, none⟩ = some (ptr g)) (h1 : w.cell? ⟨B1, 0, none⟩ = some (.string ⟨x.toArray⟩)) (h2 : w.cell? ⟨B2, 0, none⟩ = some v) :
    Calls Try.prog 31 #[ptr B2, ptr B0, ptr B1] w (DoEnd av (n + 1) g w (actP x b false s)) := by
  rw [actP_put]
  have HP0 := Lib.hid p
  obtain ⟨m, fv, f, vals, p⟩ := p
  have c0 : w.cell? ⟨g, 0, none⟩ = some (.map (some m)) := p.blk.cell 0
  have hlg := p.lt
  have hm0 : B0 ≠ m := fun e => p.am (by rw [← e]; exact a0)
  have hm1 : B1 ≠ m := fun e => p.am (by rw [← e]; exact a1)
  have hm2 : B2 ≠ m := fun e => p.am (by rw [← e]; exact a2)
  have l0 : B0 < w.heap.size := World.block_lt_of_cell? w _ h0
  have l1 : B1 < w.heap.size := World.block_lt_of_cell? w _ h1
  have l2 : B2 < w.heap.size := World.block_lt_of_cell? w _ h2
  have HOK : Hid (okTx x) := Lib.hid (by unfold okTx; omega)
  have HP := Lib.hid p
  have HAV := Lib.hid hav
  have HV := Lib.hid hv
  have HBL := Lib.hid hbl
  obtain ⟨Ab, cb, rfl⟩ := Vs.shape (f := bv) hv
  clear hv p hav hbl
  go_enter Try.func31, Try.ntmps31
  go_wp2
  obtain ⟨V, hV⟩ : ∃ V, V = w.drew := ⟨_, rfl⟩
  refine wp_region_held_drew (S := (fun W' => W'.cell? ⟨B0, 0, none⟩ = some (ptr g) ∧ W'.cell? ⟨B1, 0, none⟩ = some (.string ⟨x.toArray⟩) ∧ W'.cell? ⟨B2, 0, none⟩ = some (.slice Ab b.length cb) ∧ W'.cell? ⟨g, 0, none⟩ = some (.map (some m)))) (by kernel_rfl) (by exact ⟨h0, h1, h2, c0⟩) (fun hHeld => ?_)
  rw [← hV] at hHeld ⊢
  have FV : Fr Non w V := by rw [hV]; exact (Fr.refl _ _).drew
  clear hV
  have hgV : g < V.heap.size := by have := FV.size; omega
  have k0 : B0 < V.heap.size := by have := FV.size; omega
  have k1 : B1 < V.heap.size := by have := FV.size; omega
  have k2 : B2 < V.heap.size := by have := FV.size; omega
  replace h0 := hHeld.1
  replace h1 := hHeld.2.1
  replace h2 := hHeld.2.2.1
  replace c0 := hHeld.2.2.2
  refine wpAnyH_take (i := 0) (oi := ⟨some 4, _, _, _, _, none⟩) (v := ?v1) rfl (by kernel_rfl) (by kernel_rfl) (by kernel_rfl) (fun _ _ _ h => h) (Or.inl ⟨by rfl, ?hy1⟩) (by assumption) ?rest1
  case hy1 => (intro wS hSw; (try dsimp only at hSw); go_simp; (try with_reducible rfl))
  (try simp only [Act.put, zA, zB, zC])
  refine wpAnyH_take (i := 1) (oi := ⟨some 5, _, _, _, _, none⟩) (v := ?v2) rfl (by kernel_rfl) (by kernel_rfl) (by kernel_rfl) (fun _ _ _ h => h) (Or.inl ⟨by rfl, ?hy2⟩) (by assumption) ?rest2
  case hy2 => (intro wS hSw; (try dsimp only at hSw); go_simp; (try with_reducible rfl))
  (try simp only [Act.put, zA, zB, zC])
  refine wpAnyH_take (i := 2) (oi := ⟨some 6, _, _, _, _, none⟩) (v := ?v3) rfl (by kernel_rfl) (by kernel_rfl) (by kernel_rfl) (fun _ _ _ h => h) (Or.inl ⟨by rfl, ?hy3⟩) (by assumption) ?rest3
  case hy3 => (intro wS hSw; (try dsimp only at hSw); go_simp; (try with_reducible rfl))
  (try simp only [Act.put, zA, zB, zC])
  refine wpAnyH_take (i := 3) (oi := ⟨some 7, _, _, _, _, none⟩) (v := ?v4) rfl (by kernel_rfl) (by kernel_rfl) (by kernel_rfl) (fun _ _ _ h => h) (Or.inl ⟨by rfl, ?hy4⟩) (by assumption) ?rest4
  case hy4 => (intro wS hSw; (try dsimp only at hSw); go_simp; (try with_reducible rfl))
  (try simp only [Act.put, zA, zB, zC])
  refine wpAnyH_take (i := 4) (oi := ⟨some 8, _, _, _, _, none⟩) (v := ?v5) rfl (by kernel_rfl) (by kernel_rfl) (by kernel_rfl) (fun _ _ _ h => h) (Or.inl ⟨by rfl, ?hy5⟩) (by assumption) ?rest5
  case hy5 => (intro wS hSw; (try dsimp only at hSw); go_simp; (try with_reducible rfl))
  (try simp only [Act.put, zA, zB, zC])
  refine wpAnyH_take (i := 5) (oi := ⟨some 9, _, _, _, _, none⟩) (v := ?v6) rfl (by kernel_rfl) (by kernel_rfl) (by kernel_rfl) (fun _ _ _ h => h) (Or.inl ⟨by rfl, ?hy6⟩) (by assumption) ?rest6
  case hy6 => (intro wS hSw; (try dsimp only at hSw); go_simp; (try with_reducible rfl))
  (try simp only [Act.put, zA, zB, zC])
  refine wpAnyH_ready (rs := [6]) (by kernel_rfl) (by simp) ?_
  refine AllReadyH.cons (o := ⟨some 10, _, _, _, _, none⟩) rfl (fun K hK => ?_) AllReadyH.nil
  go_simp
  go_at_call 32
  refine (clone_any (.slice Ab b.length cb) b V (Vs.non HV.out FV) (by have := HBL.out; omega)).mono ?_
  rintro e W5 ⟨u, rfl, O5, F5⟩
  obtain ⟨Au, cu, rfl⟩ := O5.bs.shape
  have P5 := (HP.out.keep FV (fun k h => h.elim)).keep F5 (fun k h => h.elim)
  have j0 : W5.cell? ⟨B0, 0, none⟩ = some (ptr g) := (F5.cell (p := ⟨B0, 0, none⟩) k0 (fun e => e)).trans h0
  have j1 : W5.cell? ⟨B1, 0, none⟩ = some (.string ⟨x.toArray⟩) := (F5.cell (p := ⟨B1, 0, none⟩) k1 (fun e => e)).trans h1
  have j2 : W5.cell? ⟨B2, 0, none⟩ = some (.slice Ab b.length cb) := (F5.cell (p := ⟨B2, 0, none⟩) k2 (fun e => e)).trans h2
  have jc : W5.cell? ⟨g, 0, none⟩ = some (.map (some m)) := (F5.cell (p := ⟨g, 0, none⟩) hgV (fun e => e)).trans c0
  have hs5 := F5.size
  go_wp2_with fail
  refine hK.out _ _ (by exact ⟨j0, j1, j2, jc⟩) (fun hHeld => ?_)
  clear hK K
  (try simp only [Act.put, zA, zB, zC])
  refine wpAnyH_ready (rs := [7]) (by kernel_rfl) (by simp) ?_
  refine AllReadyH.cons (o := ⟨none, _, _, _, _, none⟩) rfl (fun K hK => ?_) AllReadyH.nil
  refine wp_putG mapT_bs keyTx W5 (.tmp 7) (.tmp 8) (.tmp 10) rfl m n s.ks vals rfl P5.map (by omega) x HOK.out (.slice Au b.length cu) rfl rfl ?_
  intro W6 M6 F6
  refine hK.out _ _ (by exact ⟨(F6.cell (p := ⟨B0, 0, none⟩) (by show B0 < _; omega) (fun e => hm0 e)).trans j0, (F6.cell (p := ⟨B1, 0, none⟩) (by show B1 < _; omega) (fun e => hm1 e)).trans j1, (F6.cell (p := ⟨B2, 0, none⟩) (by show B2 < _; omega) (fun e => hm2 e)).trans j2, (F6.cell (p := ⟨g, 0, none⟩) (by show g < _; omega) (fun e => HP.out.gm e)).trans jc⟩) (fun hHeld => ?_)
  clear hK K
  (try simp only [Act.put, zA, zB, zC])
  refine wpAnyH_done (by kernel_rfl) ?_ _
  have PE := Lib.hid (P5.lay x (.slice Au b.length cu) b HBL.out O5.bs (fun q hq => by
    have h1 := O5.lt q hq
    have h3 := FV.size
    have h4 := HP.out.lt
    have h5 := HP.out.map.lt
    exact ⟨h1.2, by omega, by omega, fun h => by have := HAV.out q h; omega⟩) M6 F6)
  have FE := Lib.hid (((Fr.any FV : Fr (fun k => ¬ av k) w V).trans (Fr.any F5)).trans (F6.mono (fun k _ h => by rw [show k = m from h]; exact HP.out.am)))
  clear hHeld P5 M6 F6 O5 F5 FV j0 j1 j2 jc
  go_wp2
  go_ret
  exact ⟨rfl, ⟨n + 1, Nat.le_refl _, ⟨m, fv, f, _, PE.out⟩⟩, FE.out⟩
set_option maxHeartbeats 4000000 in
theorem pwdonew_any {av : Nat → Prop} {n : Nat} {w : World} {g : Nat} {s : Wst} (p : PW av n w g s) (hav : ∀ k, av k → k < w.heap.size) (hn : n < 1000000) (x : Tx) (hx : x.length ≤ 1000000000) (v : Value) (b : List UInt8) (hv : Bs w v b) (hbl : b.length ≤ 1048576) (B0 B1 B2 : Nat) (a0 : av B0) (a1 : av B1) (a2 : av B2) (h0 : w.cell? ⟨B0, 0, none⟩ = some (ptr g)) (h1 : w.cell? ⟨B1, 0, none⟩ = some (.string ⟨x.toArray⟩)) (h2 : w.cell? ⟨B2, 0, none⟩ = some v) :
    Calls Try.prog 46 #[ptr B0, ptr B1, ptr B2] w (DoEnd av (n + 1) g w (actP x b true s)) := by
  have HP0 := Lib.hid p
  obtain ⟨m, fv, f, vals, p⟩ := p
  have c0 : w.cell? ⟨g, 0, none⟩ = some (.map (some m)) := p.blk.cell 0
  have hlg := p.lt
  have hm0 : B0 ≠ m := fun e => p.am (by rw [← e]; exact a0)
  have hm1 : B1 ≠ m := fun e => p.am (by rw [← e]; exact a1)
  have hm2 : B2 ≠ m := fun e => p.am (by rw [← e]; exact a2)
  have l0 : B0 < w.heap.size := World.block_lt_of_cell? w _ h0
  have l1 : B1 < w.heap.size := World.block_lt_of_cell? w _ h1
  have l2 : B2 < w.heap.size := World.block_lt_of_cell? w _ h2
  have HOK : Hid (okTx x) := Lib.hid (by unfold okTx; omega)
  have HP := Lib.hid p
  have HAV := Lib.hid hav
  have HV := Lib.hid hv
  have HBL := Lib.hid hbl
  obtain ⟨Ab, cb, rfl⟩ := Vs.shape (f := bv) hv
  clear hv p hav hbl
  have z0 : w.frozen? ⟨g, 0, none⟩ = false := HP.out.blk.frozen 0
  obtain ⟨q, hlk, hq⟩ : ∃ q : Bool, (Instr.lookup 42 (.map (some m)) (.string ⟨x.toArray⟩) true).run Try.prog w.drew = .ok (.tuple #[vals x, .bool q]) w.drew ∧ (q = true ↔ x ∈ s.ks) := ⟨_, (HP.out.map.non ((Fr.refl Non w).drew)).look2 mapT_bs keyTx (y := x) HOK.out, by simp⟩
  cases q
  · have HR : Hid (actP x b true s = (0, laidS s x b)) := Lib.hid (actP_new (fun e => by have := hq.2 e; cases this))
    rw [HR.out]
    clear hq
    go_enter Try.func46, Try.ntmps46
    go_wp2
    go_region
    obtain ⟨w9, hw9⟩ : ∃ W, W = w.drew := ⟨_, rfl⟩
    have F9 : Fr Non w w9 := by rw [hw9]; exact (Fr.refl _ _).drew
    rw [← hw9]
    clear hw9 hlk
    have hs9 := F9.size
    replace h0 := F9.at0 h0
    replace h1 := F9.at0 h1
    replace h2 := F9.at0 h2
    replace c0 := F9.at0 c0
    have HP9 := Lib.hid (HP.out.keep F9 (fun k h => h.elim))
    have HV9 := Lib.hid (Vs.non HV.out F9)
    have HF9 := Lib.hid F9
    clear F9 z0
    go_wp2
    obtain ⟨V, hV⟩ : ∃ V, V = w9.drew := ⟨_, rfl⟩
    refine wp_region_held_drew (S := (fun W' => W'.cell? ⟨B0, 0, none⟩ = some (ptr g) ∧ W'.cell? ⟨B1, 0, none⟩ = some (.string ⟨x.toArray⟩) ∧ W'.cell? ⟨B2, 0, none⟩ = some (.slice Ab b.length cb) ∧ W'.cell? ⟨g, 0, none⟩ = some (.map (some m)))) (by kernel_rfl) (by exact ⟨h0, h1, h2, c0⟩) (fun hHeld => ?_)
    rw [← hV] at hHeld ⊢
    have FV : Fr Non w9 V := by rw [hV]; exact (Fr.refl _ _).drew
    clear hV
    have hgV : g < V.heap.size := by have := FV.size; omega
    have k0 : B0 < V.heap.size := by have := FV.size; omega
    have k1 : B1 < V.heap.size := by have := FV.size; omega
    have k2 : B2 < V.heap.size := by have := FV.size; omega
    replace h0 := hHeld.1
    replace h1 := hHeld.2.1
    replace h2 := hHeld.2.2.1
    replace c0 := hHeld.2.2.2
    refine wpAnyH_take (i := 0) (oi := ⟨some 16, _, _, _, _, none⟩) (v := ?v7) rfl (by kernel_rfl) (by kernel_rfl) (by kernel_rfl) (fun _ _ _ h => h) (Or.inl ⟨by rfl, ?hy7⟩) (by assumption) ?rest7
    case hy7 => (intro wS hSw; (try dsimp only at hSw); go_simp; (try with_reducible rfl))
    (try simp only [Act.put, zA, zB, zC])
    refine wpAnyH_take (i := 1) (oi := ⟨some 17, _, _, _, _, none⟩) (v := ?v8) rfl (by kernel_rfl) (by kernel_rfl) (by kernel_rfl) (fun _ _ _ h => h) (Or.inl ⟨by rfl, ?hy8⟩) (by assumption) ?rest8
    case hy8 => (intro wS hSw; (try dsimp only at hSw); go_simp; (try with_reducible rfl))
    (try simp only [Act.put, zA, zB, zC])
    refine wpAnyH_take (i := 2) (oi := ⟨some 18, _, _, _, _, none⟩) (v := ?v9) rfl (by kernel_rfl) (by kernel_rfl) (by kernel_rfl) (fun _ _ _ h => h) (Or.inl ⟨by rfl, ?hy9⟩) (by assumption) ?rest9
    case hy9 => (intro wS hSw; (try dsimp only at hSw); go_simp; (try with_reducible rfl))
    (try simp only [Act.put, zA, zB, zC])
    refine wpAnyH_take (i := 3) (oi := ⟨some 19, _, _, _, _, none⟩) (v := ?v10) rfl (by kernel_rfl) (by kernel_rfl) (by kernel_rfl) (fun _ _ _ h => h) (Or.inl ⟨by rfl, ?hy10⟩) (by assumption) ?rest10
    case hy10 => (intro wS hSw; (try dsimp only at hSw); go_simp; (try with_reducible rfl))
    (try simp only [Act.put, zA, zB, zC])
    refine wpAnyH_take (i := 4) (oi := ⟨some 20, _, _, _, _, none⟩) (v := ?v11) rfl (by kernel_rfl) (by kernel_rfl) (by kernel_rfl) (fun _ _ _ h => h) (Or.inl ⟨by rfl, ?hy11⟩) (by assumption) ?rest11
    case hy11 => (intro wS hSw; (try dsimp only at hSw); go_simp; (try with_reducible rfl))
    (try simp only [Act.put, zA, zB, zC])
    refine wpAnyH_take (i := 5) (oi := ⟨some 21, _, _, _, _, none⟩) (v := ?v12) rfl (by kernel_rfl) (by kernel_rfl) (by kernel_rfl) (fun _ _ _ h => h) (Or.inl ⟨by rfl, ?hy12⟩) (by assumption) ?rest12
    case hy12 => (intro wS hSw; (try dsimp only at hSw); go_simp; (try with_reducible rfl))
    (try simp only [Act.put, zA, zB, zC])
    refine wpAnyH_ready (rs := [6]) (by kernel_rfl) (by simp) ?_
    refine AllReadyH.cons (o := ⟨some 22, _, _, _, _, none⟩) rfl (fun K hK => ?_) AllReadyH.nil
    go_simp
    go_at_call 32
    refine (clone_any (.slice Ab b.length cb) b V (Vs.non HV9.out FV) (by have := HBL.out; omega)).mono ?_
    rintro e W5 ⟨u, rfl, O5, F5⟩
    obtain ⟨Au, cu, rfl⟩ := O5.bs.shape
    have P5 := (HP9.out.keep FV (fun k h => h.elim)).keep F5 (fun k h => h.elim)
    have j0 : W5.cell? ⟨B0, 0, none⟩ = some (ptr g) := (F5.cell (p := ⟨B0, 0, none⟩) k0 (fun e => e)).trans h0
    have j1 : W5.cell? ⟨B1, 0, none⟩ = some (.string ⟨x.toArray⟩) := (F5.cell (p := ⟨B1, 0, none⟩) k1 (fun e => e)).trans h1
    have j2 : W5.cell? ⟨B2, 0, none⟩ = some (.slice Ab b.length cb) := (F5.cell (p := ⟨B2, 0, none⟩) k2 (fun e => e)).trans h2
    have jc : W5.cell? ⟨g, 0, none⟩ = some (.map (some m)) := (F5.cell (p := ⟨g, 0, none⟩) hgV (fun e => e)).trans c0
    have hs5 := F5.size
    go_wp2_with fail
    refine hK.out _ _ (by exact ⟨j0, j1, j2, jc⟩) (fun hHeld => ?_)
    clear hK K
    (try simp only [Act.put, zA, zB, zC])
    refine wpAnyH_ready (rs := [7]) (by kernel_rfl) (by simp) ?_
    refine AllReadyH.cons (o := ⟨none, _, _, _, _, none⟩) rfl (fun K hK => ?_) AllReadyH.nil
    refine wp_putG mapT_bs keyTx W5 (.tmp 19) (.tmp 20) (.tmp 22) rfl m n s.ks vals rfl P5.map (by omega) x HOK.out (.slice Au b.length cu) rfl rfl ?_
    intro W6 M6 F6
    refine hK.out _ _ (by exact ⟨(F6.cell (p := ⟨B0, 0, none⟩) (by show B0 < _; omega) (fun e => hm0 e)).trans j0, (F6.cell (p := ⟨B1, 0, none⟩) (by show B1 < _; omega) (fun e => hm1 e)).trans j1, (F6.cell (p := ⟨B2, 0, none⟩) (by show B2 < _; omega) (fun e => hm2 e)).trans j2, (F6.cell (p := ⟨g, 0, none⟩) (by show g < _; omega) (fun e => HP9.out.gm e)).trans jc⟩) (fun hHeld => ?_)
    clear hK K
    (try simp only [Act.put, zA, zB, zC])
    refine wpAnyH_done (by kernel_rfl) ?_ _
    have PE := Lib.hid (P5.lay x (.slice Au b.length cu) b HBL.out O5.bs (fun q hq => by
      have h1 := O5.lt q hq
      have h3 := FV.size
      have h4 := HP9.out.lt
      have h5 := HP9.out.map.lt
      exact ⟨h1.2, by omega, by omega, fun h => by have := HAV.out q h; omega⟩) M6 F6)
    have FE := Lib.hid (((Fr.any FV : Fr (fun k => ¬ av k) w9 V).trans (Fr.any F5)).trans (F6.mono (fun k _ h => by rw [show k = m from h]; exact HP9.out.am)))
    clear hHeld P5 M6 F6 O5 F5 FV j0 j1 j2 jc
    go_wp2
    go_ret
    exact ⟨rfl, ⟨n + 1, Nat.le_refl _, ⟨m, fv, f, _, PE.out⟩⟩, (Fr.any HF9.out).trans FE.out⟩
  · have HR : Hid (actP x b true s = (6, s)) := Lib.hid (actP_old (hq.1 rfl))
    rw [HR.out]
    clear hq
    go_enter Try.func46, Try.ntmps46
    go_wp2
    go_region
    have PE := Lib.hid (HP0.out.keep ((Fr.refl Non w).drew) (fun k h => h.elim))
    go_wp2
    go_ret
    exact ⟨rfl, ⟨n, by omega, PE.out⟩, (Fr.refl _ _).drew⟩
end Go.Proofs.Ytpepapadbmkjiaa

namespace Go.Proofs.Ytpepapadbmkjiaa
open Go.RowKit
theorem nmB24_of {c : UInt8} {n : Int} (hn : n = c.toNat) (h : (97 ≤ n ∧ n ≤ 122) ∨ (48 ≤ n ∧ n ≤ 57) ∨ n = 47 ∨ n = 46) : nmB24 c = true := by
  simp only [nmB24, Bool.or_eq_true, decide_eq_true_eq]
  omega
theorem nmB24_no {c : UInt8} {n : Int} (hn : n = c.toNat) (h : ¬((97 ≤ n ∧ n ≤ 122) ∨ (48 ≤ n ∧ n ≤ 57) ∨ n = 47 ∨ n = 46)) : nmB24 c = false := by
  rw [Bool.eq_false_iff]
  intro h'
  simp only [nmB24, Bool.or_eq_true, decide_eq_true_eq] at h'
  omega
theorem nm24_next {s : List UInt8} {k : Nat} (hlt : k < s.length) (HA : (s.take k).all nmB24 = true) (h : nmB24 s[k] = true) : (s.take (k + 1)).all nmB24 = true := by
  rw [List.take_succ_eq_append_getElem hlt, List.all_append, HA]
  simp [h]
theorem nm24_not {s : List UInt8} {k : Nat} (hlt : k < s.length) (h : nmB24 s[k] = false) : nm24 s = false := by
  have : s.all nmB24 = false := by
    rw [Bool.eq_false_iff]
    intro h'
    rw [List.all_eq_true] at h'
    rw [h' _ (List.getElem_mem hlt)] at h
    cases h
  simp [nm24, this]
set_option maxHeartbeats 4000000 in
theorem dwname_any (s : List UInt8) (w : World) (hs : s.length ≤ 1000000000) : Calls Try.prog 28 #[.string ⟨s.toArray⟩] w fun e w' => e = .returned (.bool (nm24 s)) ∧ w = w' := by
  obtain ⟨r, hr⟩ : ∃ r, nm24 s = r := ⟨_, rfl⟩
  rw [hr]
  replace hr := Lib.hid hr
  go_enter Try.func28, Try.ntmps28
  go_wp2
  go_loopw [3] (fun i wr => ∃ (k : Nat), k ≤ s.length ∧ i = .int .i64 k ∧ Hid ((s.take k).all nmB24 = true) ∧ wr = w) (fun i _ => s.length - (intOf i).toNat)
  case atStart => exact ⟨0, Nat.zero_le _, rfl, Lib.hid rfl, rfl⟩
  case round =>
    obtain ⟨k, hk, rfl, HA, rfl⟩ := hrel
    by_cases hlt : k < s.length
    · have hb : s.toArray[k]? = some s[k] := by simp [hlt]
      have HT : Hid (∀ n : Int, n = ((({ data := s.toArray } : ByteArray)[k]'(by exact hlt)).toNat : Int) → ((97 ≤ n ∧ n ≤ 122) ∨ (48 ≤ n ∧ n ≤ 57) ∨ n = 47 ∨ n = 46) → (s.take (k + 1)).all nmB24 = true) := Lib.hid (fun n hn h => nm24_next hlt HA.out (nmB24_of (c := s[k]) hn h))
      have HF : Hid (∀ n : Int, n = ((({ data := s.toArray } : ByteArray)[k]'(by exact hlt)).toNat : Int) → ¬((97 ≤ n ∧ n ≤ 122) ∨ (48 ≤ n ∧ n ≤ 57) ∨ n = 47 ∨ n = 46) → false = r) := Lib.hid (fun n hn h => by rw [← hr.out]; exact (nm24_not hlt (nmB24_no (c := s[k]) hn h)).symm)
      go_wp2
      all_goals
        first
          | (go_ret
             refine ⟨ret_boolE (HF.out _ rfl ?_), rfl⟩
             try simp only [bne_eq_false_iff_eq, bne_iff_ne, ne_eq, beq_eq_false_iff_ne, beq_iff_eq] at *
             omega)
          | (refine ⟨⟨k + 1, by omega, by first | rfl | (push_cast; rfl), Lib.hid (HT.out _ rfl ?_), trivial⟩, ?_⟩
             · try simp only [bne_eq_false_iff_eq] at *
               omega
             · show s.length - ((k : Int) + 1).toNat < s.length - (k : Int).toNat
               omega)
    · have hk' : k = s.length := by omega
      subst hk'
      rw [List.take_length] at HA
      have HE : Hid ((decide (1 ≤ s.length) && decide (s.length ≤ 24)) = r) := Lib.hid (by rw [← hr.out]; simp [nm24, HA.out])
      by_cases h1 : 1 ≤ s.length
      · by_cases h2 : s.length ≤ 24
        · have HE' : Hid (true = r) := Lib.hid (by rw [← HE.out]; simp [h1, h2])
          go_wp2
          go_ret
          exact ⟨ret_boolE ((by simp; omega : decide ((s.length : Int) ≤ 24) = true).trans HE'.out), rfl⟩
        · have HE' : Hid (false = r) := Lib.hid (by rw [← HE.out]; simp [h2])
          go_wp2
          go_ret
          exact ⟨ret_boolE ((by simp; omega : decide ((s.length : Int) ≤ 24) = false).trans HE'.out), rfl⟩
      · have HE' : Hid (false = r) := Lib.hid (by rw [← HE.out]; simp [h1])
        go_wp2
        go_ret
        exact ⟨ret_boolE HE'.out, rfl⟩
end Go.Proofs.Ytpepapadbmkjiaa

namespace Go.Proofs.Ytpepapadbmkjiaa
open Go.RowKit
def stB (n : Int) : Prop := (97 ≤ n ∧ n ≤ 122) ∨ (48 ≤ n ∧ n ≤ 57) ∨ n = 47 ∨ n = 46
def StEnd (n : Int) (e : Ending) : Prop := ∃ q : Bool, e = .returned (.bool q) ∧ (q = true ↔ stB n)
set_option maxHeartbeats 2000000 in
theorem pwstands_any (n : Int) (w : World) : Calls Try.prog 48 #[.int .u8 n] w fun e w' => StEnd n e ∧ w = w' := by
  obtain ⟨p1, h1⟩ : ∃ q : Bool, decide ((97 : Int) ≤ n) = q := ⟨_, rfl⟩
  obtain ⟨p2, h2⟩ : ∃ q : Bool, decide (n ≤ 122) = q := ⟨_, rfl⟩
  obtain ⟨p3, h3⟩ : ∃ q : Bool, decide ((48 : Int) ≤ n) = q := ⟨_, rfl⟩
  obtain ⟨p4, h4⟩ : ∃ q : Bool, decide (n ≤ 57) = q := ⟨_, rfl⟩
  obtain ⟨p5, h5⟩ : ∃ q : Bool, (n == 47) = q := ⟨_, rfl⟩
  obtain ⟨p6, h6⟩ : ∃ q : Bool, (n == 46) = q := ⟨_, rfl⟩
  obtain ⟨r, hr⟩ : ∃ r : Bool, (((p1 && p2) || (p3 && p4) || p5 || p6) = r) := ⟨_, rfl⟩
  have HE : Hid (StEnd n (.returned (.bool r))) := Lib.hid ⟨r, rfl, by
    rw [← hr, ← h1, ← h2, ← h3, ← h4, ← h5, ← h6]
    simp [stB]
    omega⟩
  cases p1 <;> cases p2 <;> cases p3 <;> cases p4 <;> cases p5 <;> cases p6 <;>
    (simp only [Bool.and_true, Bool.and_false, Bool.or_true, Bool.or_false, Bool.true_and, Bool.false_and, Bool.true_or, Bool.false_or] at hr
     subst hr
     go_enter Try.func48, Try.ntmps48
     go_wp2
     go_ret
     exact ⟨HE.out, rfl⟩)
theorem txt_some {s : List UInt8} (h : 1 ≤ s.length) : s.isEmpty = false := by
  cases s
  · simp at h
  · rfl
set_option maxHeartbeats 4000000 in
theorem pwname_any (s : List UInt8) (w : World) (hs : s.length ≤ 1000000000) : Calls Try.prog 27 #[.string ⟨s.toArray⟩] w fun e w' => e = .returned (.bool (nm24 s)) ∧ w = w' := by
  by_cases h1 : 1 ≤ s.length ∧ s.length ≤ 24
  · have d1 := txt_some h1.1
    have d2 : decide ((24 : Int) < (s.length : Int)) = false := decide_eq_false (by omega)
    obtain ⟨r, hr⟩ : ∃ r, nm24 s = r := ⟨_, rfl⟩
    rw [hr]
    have HE : Hid (s.all nmB24 = r) := Lib.hid (by rw [← hr]; simp [nm24, h1])
    replace hr := Lib.hid hr
    clear h1
    go_enter Try.func27, Try.ntmps27
    go_wp2
    go_loopw [13] (fun i wr => ∃ (k : Nat), k ≤ s.length ∧ i = .int .i64 k ∧ Hid ((s.take k).all nmB24 = true) ∧ wr = w) (fun i _ => s.length - (intOf i).toNat)
    case atStart => exact ⟨0, Nat.zero_le _, rfl, Lib.hid rfl, rfl⟩
    case round =>
      obtain ⟨k, hk, rfl, HA, rfl⟩ := hrel
      by_cases hlt : k < s.length
      · have hb : s.toArray[k]? = some s[k] := by simp [hlt]
        have HT : Hid (∀ n : Int, n = ((({ data := s.toArray } : ByteArray)[k]'(by exact hlt)).toNat : Int) → stB n → (s.take (k + 1)).all nmB24 = true) := Lib.hid (fun n hn h => nm24_next hlt HA.out (nmB24_of (c := s[k]) hn h))
        have HF : Hid (∀ n : Int, n = ((({ data := s.toArray } : ByteArray)[k]'(by exact hlt)).toNat : Int) → ¬stB n → false = r) := Lib.hid (fun n hn h => by rw [← hr.out]; exact (nm24_not hlt (nmB24_no (c := s[k]) hn h)).symm)
        go_wp2_with fail
        refine (pwstands_any _ wr).mono ?_
        rintro e w1 ⟨⟨q, rfl, hq⟩, rfl⟩
        cases q
        · have HF' : Hid (false = r) := Lib.hid (HF.out _ rfl (fun h => by have := hq.2 h; cases this))
          clear hq HF HT
          go_wp2
          go_ret
          exact ⟨ret_boolE HF'.out, rfl⟩
        · have HT' := Lib.hid (HT.out _ rfl (hq.1 rfl))
          clear hq HF HT
          go_wp2
          refine ⟨⟨k + 1, by omega, by first | rfl | (push_cast; rfl), HT', trivial⟩, ?_⟩
          show s.length - ((k : Int) + 1).toNat < s.length - (k : Int).toNat
          omega
      · have hk' : k = s.length := by omega
        subst hk'
        rw [List.take_length] at HA
        have HE' : Hid (true = r) := Lib.hid (by rw [← HE.out, HA.out])
        go_wp2
        go_ret
        exact ⟨ret_boolE HE'.out, rfl⟩
  · have HE : Hid (false = nm24 s) := Lib.hid (by simp only [nm24, decide_eq_false h1, Bool.and_false])
    by_cases h0 : 1 ≤ s.length
    · have d1 := txt_some h0
      have d2 : decide ((24 : Int) < (s.length : Int)) = true := decide_eq_true (by omega)
      clear h0 h1
      go_enter Try.func27, Try.ntmps27
      go_wp2
      go_ret
      exact ⟨ret_boolE HE.out, rfl⟩
    · obtain rfl : s = [] := List.eq_nil_of_length_eq_zero (by omega)
      clear h0 h1
      go_enter Try.func27, Try.ntmps27
      go_wp2
      go_ret
      exact ⟨ret_boolE HE.out, rfl⟩
theorem pwmayput_any (x : Tx) (v : Value) (b : List UInt8) (w : World) (hx : x.length ≤ 1000000000) (hv : Bs w v b) : Calls Try.prog 30 #[.string ⟨x.toArray⟩, v] w fun e w' => e = .returned (.bool (nm24 x && decide (b.length ≤ 1048576))) ∧ w = w' := by
  have HN := Lib.hid (pwname_any x w hx)
  obtain ⟨A, c, rfl⟩ := hv.shape
  clear hv
  have d1 : decide ((b.length : Int) ≤ 1048576) = decide (b.length ≤ 1048576) := by simp; omega
  generalize decide (b.length ≤ 1048576) = q at d1 ⊢
  cases hnm : nm24 x
  · rw [hnm] at HN
    go_enter Try.func30, Try.ntmps30
    go_wp2_with fail
    refine HN.out.mono ?_
    rintro e w0 ⟨rfl, rfl⟩
    go_wp2
    go_ret
    exact ⟨rfl, rfl⟩
  · rw [hnm] at HN
    go_enter Try.func30, Try.ntmps30
    go_wp2_with fail
    refine HN.out.mono ?_
    rintro e w0 ⟨rfl, rfl⟩
    go_wp2
    go_ret
    cases q <;> exact ⟨rfl, rfl⟩
end Go.Proofs.Ytpepapadbmkjiaa

namespace Go.Proofs.Ytpepapadbmkjiaa
open Go.RowKit Go.Maps
theorem wp_delG {α : Type} {k : TypeId} {f : α → Value} {lit : α → Lit} {ok : α → Prop} {z : Value} [DecidableEq α] {t e : TypeId} (T : MapT t k e z) (K : KeyG k f lit ok) (w : World) {o : Oper} {a : Act} {C : Act → World → Prop} {Q : Exit → Act → World → Prop} (m x : Operand) (hop : o.op = Op.call { callee := Callee.builtin Builtin.delete, args := #[m, x], argTypes := #[t, k] })
    (b n : Nat) (ks : List α) (g : α → Value) (hm : a.eval m = .map (some b)) (hown : MapG k lit ok z w b n ks g) (y : α) (hy : ok y) (hx : a.eval x = f y)
    (hK : ∀ w', MapG k lit ok z w' b n (ks.filter fun c => !decide (c = y)) (fun c => if c = y then z else g c) → Fr (One b) w w' → C (a.put o.dst (.tuple #[])) w') : o.wp Try.prog a w C Q := by
  obtain ⟨D, h1, h2, h3, h4⟩ := hown
  obtain ⟨w', hrun, hw', hg'⟩ := h1.drop K.law T.un (K.of y hy) o.type
  have := hK w' ⟨_, hw', fun l => ?_, fun x hx => h3 x (List.mem_filter.1 hx).1, fun x hx => ?_⟩ ((Fr.of_grown hg'.grown).mono fun k _ e => by simpa [One, eq_comm] using e)
  · unfold Oper.wp
    simp [execOp, hop, resolve, invoke, builtin, hm, hx, hrun, Result.andThen]
    exact this
  · by_cases he : l = lit y
    · subst he
      rw [has_del_same]
      constructor
      · intro h; cases h
      · rintro ⟨x, hx, e⟩
        obtain ⟨hx1, hx2⟩ := List.mem_filter.1 hx
        rw [K.lits hy (h3 x hx1) e] at hx2
        simp at hx2
    · rw [has_del_other he, h2]
      constructor
      · rintro ⟨x, hx, e⟩
        exact ⟨x, List.mem_filter.2 ⟨hx, by simp; exact fun e2 => he (by rw [e, e2])⟩, e⟩
      · rintro ⟨x, hx, e⟩; exact ⟨x, (List.mem_filter.1 hx).1, e⟩
  · by_cases he : x = y
    · subst he; rw [atKey_del_same]; dsimp only; rw [if_pos rfl]
    · rw [atKey_del_other (fun e => he (K.lits hx hy e))]; dsimp only; rw [if_neg he]; exact h4 x hx
theorem reqS_not {s : Wst} {ok : Bool} {act : Wst → Int × Wst} {r : Int × Wst} (h : notS s ok = some r) : reqS s ok act = r := by
  unfold notS at h
  unfold reqS
  by_cases h1 : ok = false
  · rw [if_pos h1] at h; cases h; rw [if_pos h1]
  · rw [if_neg h1] at h; rw [if_neg h1]
    by_cases h2 : s.dead = true
    · rw [if_pos h2] at h; cases h; rw [if_pos h2]
    · rw [if_neg h2] at h; rw [if_neg h2]
      by_cases h3 : s.fl.headD 0 = 1
      · rw [if_pos h3] at h; cases h
        have : nextF s.fl = 1 := by
          unfold nextF
          cases e : s.fl with
          | nil => rw [e] at h3; simp at h3
          | cons a r => rw [e] at h3; simp at h3; simp [h3]
        rw [if_pos this]
      · rw [if_neg h3] at h; cases h
theorem reqS_do {s : Wst} {ok : Bool} {act : Wst → Int × Wst} (h : notS s ok = none) : reqS s ok act = (if s.fl.headD 0 = 2 then 11 else (act (faultS (stepS s).2)).1, (act (faultS (stepS s).2)).2) := by
  unfold notS at h
  unfold reqS
  by_cases h1 : ok = false
  · rw [if_pos h1] at h; cases h
  · rw [if_neg h1] at h; rw [if_neg h1]
    by_cases h2 : s.dead = true
    · rw [if_pos h2] at h; cases h
    · rw [if_neg h2] at h; rw [if_neg h2]
      by_cases h3 : s.fl.headD 0 = 1
      · rw [if_pos h3] at h; cases h
      · have h4 : nextF s.fl ≠ 1 := by
          unfold nextF
          cases e : s.fl with
          | nil => simp
          | cons a r => rw [e] at h3; simp at h3; simp [h3]; split <;> omega
        have h5 : (nextF s.fl = 2) = (s.fl.headD 0 = 2) := by
          unfold nextF
          cases e : s.fl with
          | nil => simp
          | cons a r => rw [e] at h3; simp at h3; by_cases ha : a = 2 <;> simp [h3, ha]
        rw [if_neg h4]; simp only [h5]
theorem pwact_any {av : Nat → Prop} {n N : Nat} {w : World} {g : Nat} {s : Wst} (p : PW av n w g s) (hN : n ≤ N) (ok : Bool) (F : Nat) (caps : Array Value) (act : Wst → Int × Wst)
    (hcf : ∀ args W, (callFunc F args).run Try.prog W = .ok (.enter F args) W)
    (hdo : ∀ W t, ok = true → t = faultS (stepS s).2 → Fr (One g) w W → PW av n W g t → Calls Try.prog F caps W (DoEnd av N g W (act t))) :
    Calls Try.prog 29 #[ptr g, .bool ok, .func (.func F) #[] caps] w (DoEnd av N g w (reqS s ok act)) := by
  have hng := p.ng
  have HG : ∀ {W W' : World}, Fr (One g) W W' → Fr (fun k => ¬ av k) W W' := fun hf => hf.mono (fun k _ h => by rw [show k = g from h]; exact hng)
  refine (pwreq_any p ok F caps (fun r w' => r = (act (faultS (stepS s).2)).1 ∧ (∃ n', n' ≤ N ∧ PW av n' w' g (act (faultS (stepS s).2)).2) ∧ Fr (fun k => ¬ av k) w w') hcf (fun W ho hf hp => ?_)).mono ?_
  · refine (hdo W _ ho rfl hf hp).mono ?_
    rintro e w' ⟨rfl, hp', hf'⟩
    exact ⟨_, rfl, rfl, hp', (HG hf).trans hf'⟩
  · rintro e w' ⟨z, rfl, ⟨s', hn, hp', hf'⟩ | ⟨hn, r, ⟨rfl, hp', hf'⟩, rfl⟩⟩
    · rw [reqS_not hn]
      exact ⟨rfl, ⟨n, hN, hp'⟩, HG hf'⟩
    · rw [reqS_do hn]
      exact ⟨rfl, hp', hf'⟩
theorem hokb {x : Tx} {b : List UInt8} (h : (nm24 x && decide (b.length ≤ 1048576)) = true) : b.length ≤ 1048576 := by
  rw [Bool.and_eq_true] at h
  exact of_decide_eq_true h.2
def avR (av : Nat → Prop) (b c : Nat) (k : Nat) : Prop := av k ∨ (b ≤ k ∧ k < c)
theorem makeFunc_run : ∀ (fn : Fn) (first cap : Array Value) (w : World), (Instr.makeFunc fn first cap).run Try.prog w = .ok (.func fn first cap) w := fun _ _ _ _ => rfl
set_option maxHeartbeats 4000000 in
theorem pwdodel_any {av : Nat → Prop} {n : Nat} {w : World} {g : Nat} {s : Wst} (p : PW av n w g s) (hav : ∀ k, av k → k < w.heap.size) (x : Tx) (hx : x.length ≤ 1000000000) (B0 B1 : Nat) (a0 : av B0) (a1 : av B1) (h0 : w.cell? ⟨B0, 0, none⟩ = some (ptr g)) (h1 : w.cell? ⟨B1, 0, none⟩ = some (.string ⟨x.toArray⟩)) :
    Calls Try.prog 47 #[ptr B0, ptr B1] w (DoEnd av n g w ((0 : Int), goneS s x)) := by
  have HP0 := Lib.hid p
  obtain ⟨m, fv, f, vals, p⟩ := p
  have c0 : w.cell? ⟨g, 0, none⟩ = some (.map (some m)) := p.blk.cell 0
  have hlg := p.lt
  have hm0 : B0 ≠ m := fun e => p.am (by rw [← e]; exact a0)
  have hm1 : B1 ≠ m := fun e => p.am (by rw [← e]; exact a1)
  have l0 : B0 < w.heap.size := World.block_lt_of_cell? w _ h0
  have l1 : B1 < w.heap.size := World.block_lt_of_cell? w _ h1
  have HOK : Hid (okTx x) := Lib.hid (by unfold okTx; omega)
  have HP := Lib.hid p
  have HAV := Lib.hid hav
  clear p hav
  go_enter Try.func47, Try.ntmps47
  go_wp2
  obtain ⟨V, hV⟩ : ∃ V, V = w.drew := ⟨_, rfl⟩
  refine wp_region_held_drew (S := (fun W' => W'.cell? ⟨B0, 0, none⟩ = some (ptr g) ∧ W'.cell? ⟨B1, 0, none⟩ = some (.string ⟨x.toArray⟩) ∧ W'.cell? ⟨g, 0, none⟩ = some (.map (some m)))) (by kernel_rfl) (by exact ⟨h0, h1, c0⟩) (fun hHeld => ?_)
  rw [← hV] at hHeld ⊢
  have FV : Fr Non w V := by rw [hV]; exact (Fr.refl _ _).drew
  clear hV
  have hgV : g < V.heap.size := by have := FV.size; omega
  have k0 : B0 < V.heap.size := by have := FV.size; omega
  have k1 : B1 < V.heap.size := by have := FV.size; omega
  replace h0 := hHeld.1
  replace h1 := hHeld.2.1
  replace c0 := hHeld.2.2
  refine wpAnyH_take (i := 0) (oi := ⟨some 3, _, _, _, _, none⟩) (v := ?v13) rfl (by kernel_rfl) (by kernel_rfl) (by kernel_rfl) (fun _ _ _ h => h) (Or.inl ⟨by rfl, ?hy13⟩) (by assumption) ?rest13
  case hy13 => (intro wS hSw; (try dsimp only at hSw); go_simp; (try with_reducible rfl))
  (try simp only [Act.put, zA, zB, zC])
  refine wpAnyH_take (i := 1) (oi := ⟨some 4, _, _, _, _, none⟩) (v := ?v14) rfl (by kernel_rfl) (by kernel_rfl) (by kernel_rfl) (fun _ _ _ h => h) (Or.inl ⟨by rfl, ?hy14⟩) (by assumption) ?rest14
  case hy14 => (intro wS hSw; (try dsimp only at hSw); go_simp; (try with_reducible rfl))
  (try simp only [Act.put, zA, zB, zC])
  refine wpAnyH_take (i := 2) (oi := ⟨some 5, _, _, _, _, none⟩) (v := ?v15) rfl (by kernel_rfl) (by kernel_rfl) (by kernel_rfl) (fun _ _ _ h => h) (Or.inl ⟨by rfl, ?hy15⟩) (by assumption) ?rest15
  case hy15 => (intro wS hSw; (try dsimp only at hSw); go_simp; (try with_reducible rfl))
  (try simp only [Act.put, zA, zB, zC])
  refine wpAnyH_take (i := 3) (oi := ⟨some 6, _, _, _, _, none⟩) (v := ?v16) rfl (by kernel_rfl) (by kernel_rfl) (by kernel_rfl) (fun _ _ _ h => h) (Or.inl ⟨by rfl, ?hy16⟩) (by assumption) ?rest16
  case hy16 => (intro wS hSw; (try dsimp only at hSw); go_simp; (try with_reducible rfl))
  (try simp only [Act.put, zA, zB, zC])
  refine wpAnyH_take (i := 4) (oi := ⟨some 7, _, _, _, _, none⟩) (v := ?v17) rfl (by kernel_rfl) (by kernel_rfl) (by kernel_rfl) (fun _ _ _ h => h) (Or.inl ⟨by rfl, ?hy17⟩) (by assumption) ?rest17
  case hy17 => (intro wS hSw; (try dsimp only at hSw); go_simp; (try with_reducible rfl))
  (try simp only [Act.put, zA, zB, zC])
  refine wpAnyH_ready (rs := [5]) (by kernel_rfl) (by simp) ?_
  refine AllReadyH.cons (o := ⟨none, _, _, _, _, none⟩) rfl (fun K hK => ?_) AllReadyH.nil
  have P5 := HP.out.keep FV (fun k h => h.elim)
  refine wp_delG mapT_bs keyTx V (.tmp 6) (.tmp 7) rfl m n s.ks vals rfl P5.map x HOK.out rfl ?_
  intro W6 M6 F6
  refine hK.out _ _ (by exact ⟨(F6.cell (p := ⟨B0, 0, none⟩) k0 (fun e => hm0 e)).trans h0, (F6.cell (p := ⟨B1, 0, none⟩) k1 (fun e => hm1 e)).trans h1, (F6.cell (p := ⟨g, 0, none⟩) hgV (fun e => HP.out.gm e)).trans c0⟩) (fun hHeld => ?_)
  clear hK K
  (try simp only [Act.put, zA, zB, zC])
  refine wpAnyH_done (by kernel_rfl) ?_ _
  have PE := Lib.hid (P5.gone x M6 F6)
  have FE := Lib.hid ((Fr.any FV : Fr (fun k => ¬ av k) w V).trans (F6.mono (fun k _ h => by rw [show k = m from h]; exact HP.out.am)))
  clear hHeld P5 M6 F6 FV
  go_wp2
  go_ret
  exact ⟨rfl, ⟨n, Nat.le_refl _, ⟨m, fv, f, _, PE.out⟩⟩, FE.out⟩
set_option maxHeartbeats 4000000 in
theorem pwput_any {av : Nat → Prop} {n : Nat} {w : World} {g : Nat} {s : Wst} (p : PW av n w g s) (hav : ∀ k, av k → k < w.heap.size) (hn : n < 1000000) (x : Tx) (hx : x.length ≤ 1000000000) (v : Value) (b : List UInt8) (hv : ∀ W', Fr (fun k => ¬ av k) w W' → Bs W' v b) (hbl : b.length ≤ 1000000000) :
    Calls Try.prog 8 #[ptr g, .string ⟨x.toArray⟩, v] w fun e w' => e = .returned (.int .i64 (putS s x b false).1) ∧ (∃ n', n' ≤ n + 1 ∧ PW av n' w' g (putS s x b false).2) ∧ Fr (fun k => ¬ av k) w w' := by
  have HG := Lib.hid p.ng
  obtain ⟨Ab, cb, rfl⟩ := Vs.shape (f := bv) (hv w (Fr.refl _ _))
  obtain ⟨bx, hbx⟩ : ∃ b, w.heap.size = b := ⟨_, rfl⟩
  obtain ⟨W, hW⟩ : ∃ W, W = (((w.alloc (.cells #[ptr g] 25)).alloc (.cells #[.string ⟨x.toArray⟩] 9)).alloc (.cells #[.slice Ab b.length cb] 23)) := ⟨_, rfl⟩
  obtain ⟨Y0, hY0⟩ : ∃ Y, Y = w.alloc (.cells #[ptr g] 25) := ⟨_, rfl⟩
  have G0 : Fr Non w Y0 := by rw [hY0]; exact (Fr.refl _ _).alloc _
  have s0 : Y0.heap.size = bx + 1 := by rw [hY0]; simp; omega
  have b0 : Blk Y0 bx 25 #[ptr g] := by rw [hY0, ← hbx]; exact Blk.new _ _ _
  obtain ⟨Y1, hY1⟩ : ∃ Y, Y = Y0.alloc (.cells #[.string ⟨x.toArray⟩] 9) := ⟨_, rfl⟩
  have G1 : Fr Non Y0 Y1 := by rw [hY1]; exact (Fr.refl _ _).alloc _
  have s1 : Y1.heap.size = bx + 2 := by rw [hY1]; simp; omega
  have b1 : Blk Y1 (bx + 1) 9 #[.string ⟨x.toArray⟩] := by rw [hY1, ← s0]; exact Blk.new _ _ _
  obtain ⟨Y2, hY2⟩ : ∃ Y, Y = Y1.alloc (.cells #[.slice Ab b.length cb] 23) := ⟨_, rfl⟩
  have G2 : Fr Non Y1 Y2 := by rw [hY2]; exact (Fr.refl _ _).alloc _
  have s2 : Y2.heap.size = bx + 3 := by rw [hY2]; simp; omega
  have b2 : Blk Y2 (bx + 2) 23 #[.slice Ab b.length cb] := by rw [hY2, ← s1]; exact Blk.new _ _ _
  have hWY : W = Y2 := by rw [hW, hY2, hY1, hY0]
  subst hWY
  have FW : Fr Non w W := (G0.trans G1).trans G2
  have h0 : W.cell? ⟨bx, 0, none⟩ = some (ptr g) := ((b0.fr G1 (fun e => e)).fr G2 (fun e => e)).cell 0
  have h1 : W.cell? ⟨bx + 1, 0, none⟩ = some (.string ⟨x.toArray⟩) := (b1.fr G2 (fun e => e)).cell 0
  have h2 : W.cell? ⟨bx + 2, 0, none⟩ = some (.slice Ab b.length cb) := b2.cell 0
  have hz : W.heap.size = bx + 3 := s2
  have PW0 := Lib.hid ((p.avoid (av' := avR av bx (bx + 3)) (fun k h => h.imp id (fun h => by omega))).keep FW (fun k h => h.elim))
  have HAV : Hid (∀ k, avR av bx (bx + 3) k → k < W.heap.size) := Lib.hid (fun k h => h.elim (fun h => by have := hav k h; omega) (fun h => by omega))
  have HFW : Hid (Fr (fun k => ¬ av k) w W) := Lib.hid (Fr.any FW)
  have HSUB : Hid (∀ {X X' : World}, Fr (fun k => ¬ avR av bx (bx + 3) k) X X' → Fr (fun k => ¬ av k) X X') := Lib.hid (fun hf => hf.mono (fun k _ h hk => h (Or.inl hk)))
  have a0 : avR av bx (bx + 3) (bx) := Or.inr ⟨by omega, by omega⟩
  have a1 : avR av bx (bx + 3) (bx + 1) := Or.inr ⟨by omega, by omega⟩
  have a2 : avR av bx (bx + 3) (bx + 2) := Or.inr ⟨by omega, by omega⟩
  have HV := Lib.hid hv
  have HBL := Lib.hid hbl
  have hmf := makeFunc_run
  clear hY0 G0 s0 b0 hY1 G1 s1 b1 hY2 G2 s2 b2 FW p hav hv
  go_enter Try.func8, Try.ntmps8
  go_wp2
  try rw [hbx]
  try rw [← hW]
  clear hW hbx
  obtain ⟨V, hV⟩ : ∃ V, V = W.drew := ⟨_, rfl⟩
  refine wp_region_held_drew (S := (fun W' => W'.cell? ⟨bx, 0, none⟩ = some (ptr g) ∧ W'.cell? ⟨bx + 1, 0, none⟩ = some (.string ⟨x.toArray⟩) ∧ W'.cell? ⟨bx + 2, 0, none⟩ = some (.slice Ab b.length cb))) (by kernel_rfl) (by exact ⟨h0, h1, h2⟩) (fun hHeld => ?_)
  rw [← hV] at hHeld ⊢
  have FV : Fr Non W V := by rw [hV]; exact (Fr.refl _ _).drew
  clear hV
  have hvz : V.heap.size = bx + 3 ∨ bx + 3 ≤ V.heap.size := Or.inr (by have := FV.size; omega)
  have PV := Lib.hid (PW0.out.keep FV (fun k h => h.elim))
  have HFV : Hid (Fr (fun k => ¬ av k) w V) := Lib.hid (HFW.out.trans (Fr.any FV))
  have hsV : bx + 3 ≤ V.heap.size := by have := FV.size; omega
  have HAVV : Hid (∀ k, avR av bx (bx + 3) k → k < V.heap.size) := Lib.hid (fun k h => by have := HAV.out k h; have := FV.size; omega)
  clear FV hvz
  replace h0 := hHeld.1
  replace h1 := hHeld.2.1
  replace h2 := hHeld.2.2
  refine wpAnyH_take (i := 0) (oi := ⟨some 7, _, _, _, _, none⟩) (v := ?v18) rfl (by kernel_rfl) (by kernel_rfl) (by kernel_rfl) (fun _ _ _ h => h) (Or.inl ⟨by rfl, ?hy18⟩) (by assumption) ?rest18
  case hy18 => (intro wS hSw; (try dsimp only at hSw); go_simp; (try with_reducible rfl))
  (try simp only [Act.put, zA, zB, zC])
  refine wpAnyH_take (i := 1) (oi := ⟨some 8, _, _, _, _, none⟩) (v := ?v19) rfl (by kernel_rfl) (by kernel_rfl) (by kernel_rfl) (fun _ _ _ h => h) (Or.inl ⟨by rfl, ?hy19⟩) (by assumption) ?rest19
  case hy19 => (intro wS hSw; (try dsimp only at hSw); go_simp; (try with_reducible rfl))
  (try simp only [Act.put, zA, zB, zC])
  refine wpAnyH_take (i := 2) (oi := ⟨some 9, _, _, _, _, none⟩) (v := ?v20) rfl (by kernel_rfl) (by kernel_rfl) (by kernel_rfl) (fun _ _ _ h => h) (Or.inl ⟨by rfl, ?hy20⟩) (by assumption) ?rest20
  case hy20 => (intro wS hSw; (try dsimp only at hSw); go_simp; (try with_reducible rfl))
  (try simp only [Act.put, zA, zB, zC])
  refine wpAnyH_take (i := 4) (oi := ⟨some 11, _, _, _, _, none⟩) (v := ?v21) rfl (by kernel_rfl) (by kernel_rfl) (by kernel_rfl) (fun _ _ _ h => h) (Or.inl ⟨by rfl, ?hy21⟩) (by assumption) ?rest21
  case hy21 => (intro wS hSw; (try dsimp only at hSw); go_simp; (try with_reducible rfl))
  (try simp only [Act.put, zA, zB, zC])
  refine wpAnyH_ready (rs := [3]) (by kernel_rfl) (by simp) ?_
  refine AllReadyH.cons (o := ⟨some 10, _, _, _, _, none⟩) rfl (fun K hK => ?_) AllReadyH.nil
  go_simp
  go_at_call 30
  refine (pwmayput_any x (.slice Ab b.length cb) b V hx (HV.out V HFV.out)).mono ?_
  rintro e w0 ⟨rfl, rfl⟩
  go_wp2_with fail
  refine hK.out _ _ (by exact ⟨h0, h1, h2⟩) (fun hHeld => ?_)
  clear hK K
  (try simp only [Act.put, zA, zB, zC])
  refine wpAnyH_ready (rs := [5]) (by kernel_rfl) (by simp) ?_
  refine AllReadyH.cons (o := ⟨some 12, _, _, _, _, none⟩) rfl (fun K hK => ?_) AllReadyH.nil
  go_simp
  go_at_call 29
  refine (pwact_any (N := n + 1) PV.out (by omega) _ 31 #[ptr (bx + 2), ptr bx, ptr (bx + 1)] (actP x b false) Try.call31 (fun W' t hok ht hf hp => ?_)).mono ?_
  · have hsW := hf.size
    have HGV : ∀ k, avR av bx (bx + 3) k → k ≠ g := fun k hk e => PV.out.ng (by rw [← e]; exact hk)
    exact pwdoput_any hp (fun k h => by have := HAVV.out k h; omega) hn x hx (.slice Ab b.length cb) b (HV.out _ (HFV.out.trans (HSUB.out (hf.mono (fun k _ h hk => HGV k hk h))))) (hokb hok) bx (bx + 1) (bx + 2) a0 a1 a2 ((hf.cell (p := ⟨bx, 0, none⟩) (by show _ < V.heap.size; dsimp only; omega) (HGV _ a0)).trans h0) ((hf.cell (p := ⟨bx + 1, 0, none⟩) (by show _ < V.heap.size; dsimp only; omega) (HGV _ a1)).trans h1) ((hf.cell (p := ⟨bx + 2, 0, none⟩) (by show _ < V.heap.size; dsimp only; omega) (HGV _ a2)).trans h2)
  rintro e W5 ⟨rfl, ⟨n5, hn5, P5⟩, F5⟩
  have j0 : W5.cell? ⟨bx, 0, none⟩ = some (ptr g) := (F5.cell (p := ⟨bx, 0, none⟩) (by show _ < V.heap.size; dsimp only; omega) (fun h => h a0)).trans h0
  have j1 : W5.cell? ⟨bx + 1, 0, none⟩ = some (.string ⟨x.toArray⟩) := (F5.cell (p := ⟨bx + 1, 0, none⟩) (by show _ < V.heap.size; dsimp only; omega) (fun h => h a1)).trans h1
  have j2 : W5.cell? ⟨bx + 2, 0, none⟩ = some (.slice Ab b.length cb) := (F5.cell (p := ⟨bx + 2, 0, none⟩) (by show _ < V.heap.size; dsimp only; omega) (fun h => h a2)).trans h2
  go_wp2_with fail
  refine hK.out _ _ (by exact ⟨j0, j1, j2⟩) (fun hHeld => ?_)
  clear hK K
  (try simp only [Act.put, zA, zB, zC])
  refine wpAnyH_take (i := 6) (oi := ⟨some 6, _, _, _, _, none⟩) (v := ?v22) rfl (by kernel_rfl) (by kernel_rfl) (by kernel_rfl) (fun _ _ _ h => h) (Or.inl ⟨by rfl, ?hy22⟩) (by assumption) ?rest22
  case hy22 => (intro wS hSw; (try dsimp only at hSw); go_simp; (try with_reducible rfl))
  (try simp only [Act.put, zA, zB, zC])
  refine wpAnyH_done (by kernel_rfl) ?_ _
  have PE := Lib.hid (P5.avoid (av' := av) (fun k h => Or.inl (Or.inl h)))
  have FE := Lib.hid (HFV.out.trans (HSUB.out F5))
  clear hHeld P5 F5 j0 j1 j2
  go_wp2
  go_ret
  exact ⟨rfl, ⟨n5, hn5, PE.out⟩, FE.out⟩
set_option maxHeartbeats 4000000 in
theorem pwputnew_any {av : Nat → Prop} {n : Nat} {w : World} {g : Nat} {s : Wst} (p : PW av n w g s) (hav : ∀ k, av k → k < w.heap.size) (hn : n < 1000000) (x : Tx) (hx : x.length ≤ 1000000000) (v : Value) (b : List UInt8) (hv : ∀ W', Fr (fun k => ¬ av k) w W' → Bs W' v b) (hbl : b.length ≤ 1000000000) :
    Calls Try.prog 19 #[ptr g, .string ⟨x.toArray⟩, v] w fun e w' => e = .returned (.int .i64 (putS s x b true).1) ∧ (∃ n', n' ≤ n + 1 ∧ PW av n' w' g (putS s x b true).2) ∧ Fr (fun k => ¬ av k) w w' := by
  have HG := Lib.hid p.ng
  obtain ⟨Ab, cb, rfl⟩ := Vs.shape (f := bv) (hv w (Fr.refl _ _))
  obtain ⟨bx, hbx⟩ : ∃ b, w.heap.size = b := ⟨_, rfl⟩
  obtain ⟨W, hW⟩ : ∃ W, W = (((w.alloc (.cells #[ptr g] 25)).alloc (.cells #[.string ⟨x.toArray⟩] 9)).alloc (.cells #[.slice Ab b.length cb] 23)) := ⟨_, rfl⟩
  obtain ⟨Y0, hY0⟩ : ∃ Y, Y = w.alloc (.cells #[ptr g] 25) := ⟨_, rfl⟩
  have G0 : Fr Non w Y0 := by rw [hY0]; exact (Fr.refl _ _).alloc _
  have s0 : Y0.heap.size = bx + 1 := by rw [hY0]; simp; omega
  have b0 : Blk Y0 bx 25 #[ptr g] := by rw [hY0, ← hbx]; exact Blk.new _ _ _
  obtain ⟨Y1, hY1⟩ : ∃ Y, Y = Y0.alloc (.cells #[.string ⟨x.toArray⟩] 9) := ⟨_, rfl⟩
  have G1 : Fr Non Y0 Y1 := by rw [hY1]; exact (Fr.refl _ _).alloc _
  have s1 : Y1.heap.size = bx + 2 := by rw [hY1]; simp; omega
  have b1 : Blk Y1 (bx + 1) 9 #[.string ⟨x.toArray⟩] := by rw [hY1, ← s0]; exact Blk.new _ _ _
  obtain ⟨Y2, hY2⟩ : ∃ Y, Y = Y1.alloc (.cells #[.slice Ab b.length cb] 23) := ⟨_, rfl⟩
  have G2 : Fr Non Y1 Y2 := by rw [hY2]; exact (Fr.refl _ _).alloc _
  have s2 : Y2.heap.size = bx + 3 := by rw [hY2]; simp; omega
  have b2 : Blk Y2 (bx + 2) 23 #[.slice Ab b.length cb] := by rw [hY2, ← s1]; exact Blk.new _ _ _
  have hWY : W = Y2 := by rw [hW, hY2, hY1, hY0]
  subst hWY
  have FW : Fr Non w W := (G0.trans G1).trans G2
  have h0 : W.cell? ⟨bx, 0, none⟩ = some (ptr g) := ((b0.fr G1 (fun e => e)).fr G2 (fun e => e)).cell 0
  have h1 : W.cell? ⟨bx + 1, 0, none⟩ = some (.string ⟨x.toArray⟩) := (b1.fr G2 (fun e => e)).cell 0
  have h2 : W.cell? ⟨bx + 2, 0, none⟩ = some (.slice Ab b.length cb) := b2.cell 0
  have hz : W.heap.size = bx + 3 := s2
  have PW0 := Lib.hid ((p.avoid (av' := avR av bx (bx + 3)) (fun k h => h.imp id (fun h => by omega))).keep FW (fun k h => h.elim))
  have HAV : Hid (∀ k, avR av bx (bx + 3) k → k < W.heap.size) := Lib.hid (fun k h => h.elim (fun h => by have := hav k h; omega) (fun h => by omega))
  have HFW : Hid (Fr (fun k => ¬ av k) w W) := Lib.hid (Fr.any FW)
  have HSUB : Hid (∀ {X X' : World}, Fr (fun k => ¬ avR av bx (bx + 3) k) X X' → Fr (fun k => ¬ av k) X X') := Lib.hid (fun hf => hf.mono (fun k _ h hk => h (Or.inl hk)))
  have a0 : avR av bx (bx + 3) (bx) := Or.inr ⟨by omega, by omega⟩
  have a1 : avR av bx (bx + 3) (bx + 1) := Or.inr ⟨by omega, by omega⟩
  have a2 : avR av bx (bx + 3) (bx + 2) := Or.inr ⟨by omega, by omega⟩
  have HV := Lib.hid hv
  have HBL := Lib.hid hbl
  have hmf := makeFunc_run
  clear hY0 G0 s0 b0 hY1 G1 s1 b1 hY2 G2 s2 b2 FW p hav hv
  go_enter Try.func19, Try.ntmps19
  go_wp2
  try rw [hbx]
  try rw [← hW]
  clear hW hbx
  obtain ⟨V, hV⟩ : ∃ V, V = W.drew := ⟨_, rfl⟩
  refine wp_region_held_drew (S := (fun W' => W'.cell? ⟨bx, 0, none⟩ = some (ptr g) ∧ W'.cell? ⟨bx + 1, 0, none⟩ = some (.string ⟨x.toArray⟩) ∧ W'.cell? ⟨bx + 2, 0, none⟩ = some (.slice Ab b.length cb))) (by kernel_rfl) (by exact ⟨h0, h1, h2⟩) (fun hHeld => ?_)
  rw [← hV] at hHeld ⊢
  have FV : Fr Non W V := by rw [hV]; exact (Fr.refl _ _).drew
  clear hV
  have hvz : V.heap.size = bx + 3 ∨ bx + 3 ≤ V.heap.size := Or.inr (by have := FV.size; omega)
  have PV := Lib.hid (PW0.out.keep FV (fun k h => h.elim))
  have HFV : Hid (Fr (fun k => ¬ av k) w V) := Lib.hid (HFW.out.trans (Fr.any FV))
  have hsV : bx + 3 ≤ V.heap.size := by have := FV.size; omega
  have HAVV : Hid (∀ k, avR av bx (bx + 3) k → k < V.heap.size) := Lib.hid (fun k h => by have := HAV.out k h; have := FV.size; omega)
  clear FV hvz
  replace h0 := hHeld.1
  replace h1 := hHeld.2.1
  replace h2 := hHeld.2.2
  refine wpAnyH_take (i := 0) (oi := ⟨some 7, _, _, _, _, none⟩) (v := ?v23) rfl (by kernel_rfl) (by kernel_rfl) (by kernel_rfl) (fun _ _ _ h => h) (Or.inl ⟨by rfl, ?hy23⟩) (by assumption) ?rest23
  case hy23 => (intro wS hSw; (try dsimp only at hSw); go_simp; (try with_reducible rfl))
  (try simp only [Act.put, zA, zB, zC])
  refine wpAnyH_take (i := 1) (oi := ⟨some 8, _, _, _, _, none⟩) (v := ?v24) rfl (by kernel_rfl) (by kernel_rfl) (by kernel_rfl) (fun _ _ _ h => h) (Or.inl ⟨by rfl, ?hy24⟩) (by assumption) ?rest24
  case hy24 => (intro wS hSw; (try dsimp only at hSw); go_simp; (try with_reducible rfl))
  (try simp only [Act.put, zA, zB, zC])
  refine wpAnyH_take (i := 2) (oi := ⟨some 9, _, _, _, _, none⟩) (v := ?v25) rfl (by kernel_rfl) (by kernel_rfl) (by kernel_rfl) (fun _ _ _ h => h) (Or.inl ⟨by rfl, ?hy25⟩) (by assumption) ?rest25
  case hy25 => (intro wS hSw; (try dsimp only at hSw); go_simp; (try with_reducible rfl))
  (try simp only [Act.put, zA, zB, zC])
  refine wpAnyH_take (i := 4) (oi := ⟨some 11, _, _, _, _, none⟩) (v := ?v26) rfl (by kernel_rfl) (by kernel_rfl) (by kernel_rfl) (fun _ _ _ h => h) (Or.inl ⟨by rfl, ?hy26⟩) (by assumption) ?rest26
  case hy26 => (intro wS hSw; (try dsimp only at hSw); go_simp; (try with_reducible rfl))
  (try simp only [Act.put, zA, zB, zC])
  refine wpAnyH_ready (rs := [3]) (by kernel_rfl) (by simp) ?_
  refine AllReadyH.cons (o := ⟨some 10, _, _, _, _, none⟩) rfl (fun K hK => ?_) AllReadyH.nil
  go_simp
  go_at_call 30
  refine (pwmayput_any x (.slice Ab b.length cb) b V hx (HV.out V HFV.out)).mono ?_
  rintro e w0 ⟨rfl, rfl⟩
  go_wp2_with fail
  refine hK.out _ _ (by exact ⟨h0, h1, h2⟩) (fun hHeld => ?_)
  clear hK K
  (try simp only [Act.put, zA, zB, zC])
  refine wpAnyH_ready (rs := [5]) (by kernel_rfl) (by simp) ?_
  refine AllReadyH.cons (o := ⟨some 12, _, _, _, _, none⟩) rfl (fun K hK => ?_) AllReadyH.nil
  go_simp
  go_at_call 29
  refine (pwact_any (N := n + 1) PV.out (by omega) _ 46 #[ptr bx, ptr (bx + 1), ptr (bx + 2)] (actP x b true) Try.call46 (fun W' t hok ht hf hp => ?_)).mono ?_
  · have hsW := hf.size
    have HGV : ∀ k, avR av bx (bx + 3) k → k ≠ g := fun k hk e => PV.out.ng (by rw [← e]; exact hk)
    exact pwdonew_any hp (fun k h => by have := HAVV.out k h; omega) hn x hx (.slice Ab b.length cb) b (HV.out _ (HFV.out.trans (HSUB.out (hf.mono (fun k _ h hk => HGV k hk h))))) (hokb hok) bx (bx + 1) (bx + 2) a0 a1 a2 ((hf.cell (p := ⟨bx, 0, none⟩) (by show _ < V.heap.size; dsimp only; omega) (HGV _ a0)).trans h0) ((hf.cell (p := ⟨bx + 1, 0, none⟩) (by show _ < V.heap.size; dsimp only; omega) (HGV _ a1)).trans h1) ((hf.cell (p := ⟨bx + 2, 0, none⟩) (by show _ < V.heap.size; dsimp only; omega) (HGV _ a2)).trans h2)
  rintro e W5 ⟨rfl, ⟨n5, hn5, P5⟩, F5⟩
  have j0 : W5.cell? ⟨bx, 0, none⟩ = some (ptr g) := (F5.cell (p := ⟨bx, 0, none⟩) (by show _ < V.heap.size; dsimp only; omega) (fun h => h a0)).trans h0
  have j1 : W5.cell? ⟨bx + 1, 0, none⟩ = some (.string ⟨x.toArray⟩) := (F5.cell (p := ⟨bx + 1, 0, none⟩) (by show _ < V.heap.size; dsimp only; omega) (fun h => h a1)).trans h1
  have j2 : W5.cell? ⟨bx + 2, 0, none⟩ = some (.slice Ab b.length cb) := (F5.cell (p := ⟨bx + 2, 0, none⟩) (by show _ < V.heap.size; dsimp only; omega) (fun h => h a2)).trans h2
  go_wp2_with fail
  refine hK.out _ _ (by exact ⟨j0, j1, j2⟩) (fun hHeld => ?_)
  clear hK K
  (try simp only [Act.put, zA, zB, zC])
  refine wpAnyH_take (i := 6) (oi := ⟨some 6, _, _, _, _, none⟩) (v := ?v27) rfl (by kernel_rfl) (by kernel_rfl) (by kernel_rfl) (fun _ _ _ h => h) (Or.inl ⟨by rfl, ?hy27⟩) (by assumption) ?rest27
  case hy27 => (intro wS hSw; (try dsimp only at hSw); go_simp; (try with_reducible rfl))
  (try simp only [Act.put, zA, zB, zC])
  refine wpAnyH_done (by kernel_rfl) ?_ _
  have PE := Lib.hid (P5.avoid (av' := av) (fun k h => Or.inl (Or.inl h)))
  have FE := Lib.hid (HFV.out.trans (HSUB.out F5))
  clear hHeld P5 F5 j0 j1 j2
  go_wp2
  go_ret
  exact ⟨rfl, ⟨n5, hn5, PE.out⟩, FE.out⟩
set_option maxHeartbeats 4000000 in
theorem pwdel_any {av : Nat → Prop} {n : Nat} {w : World} {g : Nat} {s : Wst} (p : PW av n w g s) (hav : ∀ k, av k → k < w.heap.size) (x : Tx) (hx : x.length ≤ 1000000000)  :
    Calls Try.prog 20 #[ptr g, .string ⟨x.toArray⟩] w fun e w' => e = .returned (.int .i64 (delS s x).1) ∧ (∃ n', n' ≤ n ∧ PW av n' w' g (delS s x).2) ∧ Fr (fun k => ¬ av k) w w' := by
  have HG := Lib.hid p.ng
  obtain ⟨bx, hbx⟩ : ∃ b, w.heap.size = b := ⟨_, rfl⟩
  obtain ⟨W, hW⟩ : ∃ W, W = ((w.alloc (.cells #[ptr g] 25)).alloc (.cells #[.string ⟨x.toArray⟩] 9)) := ⟨_, rfl⟩
  obtain ⟨Y0, hY0⟩ : ∃ Y, Y = w.alloc (.cells #[ptr g] 25) := ⟨_, rfl⟩
  have G0 : Fr Non w Y0 := by rw [hY0]; exact (Fr.refl _ _).alloc _
  have s0 : Y0.heap.size = bx + 1 := by rw [hY0]; simp; omega
  have b0 : Blk Y0 bx 25 #[ptr g] := by rw [hY0, ← hbx]; exact Blk.new _ _ _
  obtain ⟨Y1, hY1⟩ : ∃ Y, Y = Y0.alloc (.cells #[.string ⟨x.toArray⟩] 9) := ⟨_, rfl⟩
  have G1 : Fr Non Y0 Y1 := by rw [hY1]; exact (Fr.refl _ _).alloc _
  have s1 : Y1.heap.size = bx + 2 := by rw [hY1]; simp; omega
  have b1 : Blk Y1 (bx + 1) 9 #[.string ⟨x.toArray⟩] := by rw [hY1, ← s0]; exact Blk.new _ _ _
  have hWY : W = Y1 := by rw [hW, hY1, hY0]
  subst hWY
  have FW : Fr Non w W := G0.trans G1
  have h0 : W.cell? ⟨bx, 0, none⟩ = some (ptr g) := (b0.fr G1 (fun e => e)).cell 0
  have h1 : W.cell? ⟨bx + 1, 0, none⟩ = some (.string ⟨x.toArray⟩) := b1.cell 0
  have hz : W.heap.size = bx + 2 := s1
  have PW0 := Lib.hid ((p.avoid (av' := avR av bx (bx + 2)) (fun k h => h.imp id (fun h => by omega))).keep FW (fun k h => h.elim))
  have HAV : Hid (∀ k, avR av bx (bx + 2) k → k < W.heap.size) := Lib.hid (fun k h => h.elim (fun h => by have := hav k h; omega) (fun h => by omega))
  have HFW : Hid (Fr (fun k => ¬ av k) w W) := Lib.hid (Fr.any FW)
  have HSUB : Hid (∀ {X X' : World}, Fr (fun k => ¬ avR av bx (bx + 2) k) X X' → Fr (fun k => ¬ av k) X X') := Lib.hid (fun hf => hf.mono (fun k _ h hk => h (Or.inl hk)))
  have a0 : avR av bx (bx + 2) (bx) := Or.inr ⟨by omega, by omega⟩
  have a1 : avR av bx (bx + 2) (bx + 1) := Or.inr ⟨by omega, by omega⟩
  have hmf := makeFunc_run
  clear hY0 G0 s0 b0 hY1 G1 s1 b1 FW p hav
  go_enter Try.func20, Try.ntmps20
  go_wp2
  try rw [hbx]
  try rw [← hW]
  clear hW hbx
  obtain ⟨V, hV⟩ : ∃ V, V = W.drew := ⟨_, rfl⟩
  refine wp_region_held_drew (S := (fun W' => W'.cell? ⟨bx, 0, none⟩ = some (ptr g) ∧ W'.cell? ⟨bx + 1, 0, none⟩ = some (.string ⟨x.toArray⟩))) (by kernel_rfl) (by exact ⟨h0, h1⟩) (fun hHeld => ?_)
  rw [← hV] at hHeld ⊢
  have FV : Fr Non W V := by rw [hV]; exact (Fr.refl _ _).drew
  clear hV
  have hvz : V.heap.size = bx + 2 ∨ bx + 2 ≤ V.heap.size := Or.inr (by have := FV.size; omega)
  have PV := Lib.hid (PW0.out.keep FV (fun k h => h.elim))
  have HFV : Hid (Fr (fun k => ¬ av k) w V) := Lib.hid (HFW.out.trans (Fr.any FV))
  have hsV : bx + 2 ≤ V.heap.size := by have := FV.size; omega
  have HAVV : Hid (∀ k, avR av bx (bx + 2) k → k < V.heap.size) := Lib.hid (fun k h => by have := HAV.out k h; have := FV.size; omega)
  clear FV hvz
  replace h0 := hHeld.1
  replace h1 := hHeld.2
  refine wpAnyH_take (i := 0) (oi := ⟨some 5, _, _, _, _, none⟩) (v := ?v28) rfl (by kernel_rfl) (by kernel_rfl) (by kernel_rfl) (fun _ _ _ h => h) (Or.inl ⟨by rfl, ?hy28⟩) (by assumption) ?rest28
  case hy28 => (intro wS hSw; (try dsimp only at hSw); go_simp; (try with_reducible rfl))
  (try simp only [Act.put, zA, zB, zC])
  refine wpAnyH_take (i := 1) (oi := ⟨some 6, _, _, _, _, none⟩) (v := ?v29) rfl (by kernel_rfl) (by kernel_rfl) (by kernel_rfl) (fun _ _ _ h => h) (Or.inl ⟨by rfl, ?hy29⟩) (by assumption) ?rest29
  case hy29 => (intro wS hSw; (try dsimp only at hSw); go_simp; (try with_reducible rfl))
  (try simp only [Act.put, zA, zB, zC])
  refine wpAnyH_take (i := 3) (oi := ⟨some 8, _, _, _, _, none⟩) (v := ?v30) rfl (by kernel_rfl) (by kernel_rfl) (by kernel_rfl) (fun _ _ _ h => h) (Or.inl ⟨by rfl, ?hy30⟩) (by assumption) ?rest30
  case hy30 => (intro wS hSw; (try dsimp only at hSw); go_simp; (try with_reducible rfl))
  (try simp only [Act.put, zA, zB, zC])
  refine wpAnyH_ready (rs := [2]) (by kernel_rfl) (by simp) ?_
  refine AllReadyH.cons (o := ⟨some 7, _, _, _, _, none⟩) rfl (fun K hK => ?_) AllReadyH.nil
  go_simp
  go_at_call 27
  refine (pwname_any x V hx).mono ?_
  rintro e w0 ⟨rfl, rfl⟩
  go_wp2_with fail
  refine hK.out _ _ (by exact ⟨h0, h1⟩) (fun hHeld => ?_)
  clear hK K
  (try simp only [Act.put, zA, zB, zC])
  refine wpAnyH_ready (rs := [4]) (by kernel_rfl) (by simp) ?_
  refine AllReadyH.cons (o := ⟨some 9, _, _, _, _, none⟩) rfl (fun K hK => ?_) AllReadyH.nil
  go_simp
  go_at_call 29
  refine (pwact_any (N := n) PV.out (by omega) _ 47 #[ptr bx, ptr (bx + 1)] (fun t => ((0 : Int), goneS t x)) Try.call47 (fun W' t hok ht hf hp => ?_)).mono ?_
  · have hsW := hf.size
    have HGV : ∀ k, avR av bx (bx + 2) k → k ≠ g := fun k hk e => PV.out.ng (by rw [← e]; exact hk)
    exact pwdodel_any hp (fun k h => by have := HAVV.out k h; omega) x hx bx (bx + 1) a0 a1 ((hf.cell (p := ⟨bx, 0, none⟩) (by show _ < V.heap.size; dsimp only; omega) (HGV _ a0)).trans h0) ((hf.cell (p := ⟨bx + 1, 0, none⟩) (by show _ < V.heap.size; dsimp only; omega) (HGV _ a1)).trans h1)
  rintro e W5 ⟨rfl, ⟨n5, hn5, P5⟩, F5⟩
  have j0 : W5.cell? ⟨bx, 0, none⟩ = some (ptr g) := (F5.cell (p := ⟨bx, 0, none⟩) (by show _ < V.heap.size; dsimp only; omega) (fun h => h a0)).trans h0
  have j1 : W5.cell? ⟨bx + 1, 0, none⟩ = some (.string ⟨x.toArray⟩) := (F5.cell (p := ⟨bx + 1, 0, none⟩) (by show _ < V.heap.size; dsimp only; omega) (fun h => h a1)).trans h1
  go_wp2_with fail
  refine hK.out _ _ (by exact ⟨j0, j1⟩) (fun hHeld => ?_)
  clear hK K
  (try simp only [Act.put, zA, zB, zC])
  refine wpAnyH_take (i := 5) (oi := ⟨some 4, _, _, _, _, none⟩) (v := ?v31) rfl (by kernel_rfl) (by kernel_rfl) (by kernel_rfl) (fun _ _ _ h => h) (Or.inl ⟨by rfl, ?hy31⟩) (by assumption) ?rest31
  case hy31 => (intro wS hSw; (try dsimp only at hSw); go_simp; (try with_reducible rfl))
  (try simp only [Act.put, zA, zB, zC])
  refine wpAnyH_done (by kernel_rfl) ?_ _
  have PE := Lib.hid (P5.avoid (av' := av) (fun k h => Or.inl (Or.inl h)))
  have FE := Lib.hid (HFV.out.trans (HSUB.out F5))
  clear hHeld P5 F5 j0 j1
  go_wp2
  go_ret
  exact ⟨rfl, ⟨n5, hn5, PE.out⟩, FE.out⟩
end Go.Proofs.Ytpepapadbmkjiaa

namespace Go.Proofs.Ytpepapadbmkjiaa
open Go.RowKit
def farS (s : Wst) (x : Tx) (o k : Int) : Prop := ((s.ob x).length : Int) < o ∨ ((s.ob x).length : Int) - o < k
instance (s : Wst) (x : Tx) (o k : Int) : Decidable (farS s x o k) := by unfold farS; infer_instance
def partS (s : Wst) (x : Tx) (o k : Int) : Int × List UInt8 :=
  if x ∈ s.ks then if farS s x o k then (1, []) else (0, ((s.ob x).drop o.toNat).take (if k = -1 then (s.ob x).length else k.toNat)) else (5, [])
theorem part_none {s : Wst} {x : Tx} {o k : Int} (h : ¬ x ∈ s.ks) : partS s x o k = (5, []) := if_neg h
theorem part_far {s : Wst} {x : Tx} {o k : Int} (h : x ∈ s.ks) (hf : farS s x o k) : partS s x o k = (1, []) := by unfold partS; rw [if_pos h, if_pos hf]
theorem part_did {s : Wst} {x : Tx} {o k : Int} (h : x ∈ s.ks) (hf : ¬ farS s x o k) : partS s x o k = (0, ((s.ob x).drop o.toNat).take (if k = -1 then (s.ob x).length else k.toNat)) := by unfold partS; rw [if_pos h, if_neg hf]
def PartEnd (w : World) (r : Int × List UInt8) (e : Ending) (w' : World) : Prop := ∃ u, e = .returned (.tuple #[u, .int .i64 r.1]) ∧ Own w' w.heap.size u r.2 ∧ Fr Non w w'
theorem PartEnd.not (w : World) (z : Int) : PartEnd w (z, []) (.returned (.tuple #[.slice none 0 0, .int .i64 z])) w := ⟨_, rfl, own_nil _ _, Fr.refl _ _⟩
set_option maxHeartbeats 4000000 in
theorem pwpart_any {av : Nat → Prop} {n : Nat} {w : World} {g : Nat} {s : Wst} (p : PW av n w g s) (x : Tx) (hx : x.length ≤ 1000000000) (o k : Int) (ho : 0 ≤ o ∧ o ≤ 9223372036854775807) (hk : -1 ≤ k ∧ k ≤ 9223372036854775807) :
    Calls Try.prog 43 #[ptr g, .string ⟨x.toArray⟩, .int .i64 o, .int .i64 k] w (PartEnd w (partS s x o k)) := by
  have HOK : Hid (okTx x) := Lib.hid (by unfold okTx; omega)
  obtain ⟨m, fv, f, vals, p⟩ := p
  have c0 : w.cell? ⟨g, 0, none⟩ = some (.map (some m)) := p.blk.cell 0
  have hlg := p.lt
  obtain ⟨q, hlk, hq⟩ : ∃ q : Bool, (Instr.lookup 42 (.map (some m)) (.string ⟨x.toArray⟩) true).run Try.prog w = .ok (.tuple #[vals x, .bool q]) w ∧ (q = true ↔ x ∈ s.ks) := ⟨_, p.map.look2 mapT_bs keyTx (y := x) HOK.out, by simp⟩
  have HP := Lib.hid p
  cases q
  · rw [part_none (fun h => by have := hq.2 h; cases this)]
    have HE := Lib.hid (PartEnd.not w 5)
    clear p hq
    go_enter Try.func43, Try.ntmps43
    go_wp2
    go_ret2
    exact HE.out
  · have hin := hq.1 rfl
    obtain ⟨HBs, hown⟩ := p.ob x hin
    have hol := p.obl x hin
    obtain ⟨b, hb⟩ : ∃ b, s.ob x = b := ⟨_, rfl⟩
    have hfar : farS s x o k ↔ ((b.length : Int) < o ∨ (b.length : Int) - o < k) := by unfold farS; rw [hb]
    rw [hb] at HBs hol
    obtain ⟨A, c, hv⟩ := Vs.shape (f := bv) HBs
    rw [hv] at hlk HBs hown
    have hbc : b.length ≤ c := by
      obtain ⟨A', c', he, h, -⟩ := HBs
      simp only [Value.slice.injEq] at he
      omega
    replace HBs := Lib.hid HBs
    by_cases h1 : (b.length : Int) < o
    · rw [part_far hin (hfar.2 (Or.inl h1))]
      have HE := Lib.hid (PartEnd.not w 1)
      have e1 : decide ((b.length : Int) < o) = true := decide_eq_true h1
      clear p hq hin hv hfar h1 hown hb
      go_enter Try.func43, Try.ntmps43
      go_wp2
      go_ret2
      exact HE.out
    · have e1 : decide ((b.length : Int) < o) = false := decide_eq_false h1
      have hw : wrap64 ((b.length : Int) - o) = (b.length : Int) - o := by unfold wrap64; omega
      by_cases h2 : (b.length : Int) - o < k
      · rw [part_far hin (hfar.2 (Or.inr h2))]
        have HE := Lib.hid (PartEnd.not w 1)
        have e2 : decide ((b.length : Int) - o < k) = true := decide_eq_true h2
        clear p hq hin hv hfar h1 h2 hown hb
        go_enter Try.func43, Try.ntmps43
        go_wp2
        go_ret2
        exact HE.out
      · rw [part_did hin (fun h => (hfar.1 h).elim h1 h2)]
        rw [hb]
        have e2 : decide ((b.length : Int) - o < k) = false := decide_eq_false h2
        obtain ⟨i, hi⟩ := Int.eq_ofNat_of_zero_le ho.1
        subst hi
        have hib : i ≤ b.length := by omega
        by_cases h3 : k = -1
        · subst h3
          have HR : Hid ((b.drop (i : Int).toNat).take (if (-1 : Int) = -1 then b.length else (-1 : Int).toNat) = (b.drop i).take (b.length - i)) := Lib.hid (by
            rw [if_pos rfl]
            simp [List.take_of_length_le])
          rw [HR.out]
          obtain ⟨A', c', hr1, hv1, ho1⟩ := slice_lhG el_u8 A b.length c i b.length .i64 .i64 (i : Int) ((i : Int) + ((b.length : Int) - (i : Int))) rfl (by omega) hib (Nat.le_refl _) hbc
          have HV := Lib.hid (hv1 bv w b rfl HBs.out)
          have hbl := hol
          clear p hq hin hv hfar h1 h2 hown hb hv1
          go_enter Try.func43, Try.ntmps43
          go_wp2_with fail
          refine (clone_any _ _ w HV.out (by simp; omega)).mono ?_
          rintro e w5 ⟨u, rfl, O5, F5⟩
          have HE : Hid (PartEnd w (0, (b.drop i).take (b.length - i)) (.returned (.tuple #[u, .int .i64 0])) w5) := Lib.hid ⟨u, rfl, O5, F5⟩
          clear O5 F5
          go_wp2
          go_ret2
          exact HE.out
        · obtain ⟨j, hj⟩ := Int.eq_ofNat_of_zero_le (show (0 : Int) ≤ k by omega)
          subst hj
          have HR : Hid ((b.drop (i : Int).toNat).take (if (j : Int) = -1 then b.length else (j : Int).toNat) = (b.drop i).take j) := Lib.hid (by
            rw [if_neg h3]; rfl)
          rw [HR.out]
          have e3 : ((j : Int) == -1) = false := by rw [beq_eq_false_iff_ne]; exact h3
          have hw2 : wrap64 ((i : Int) + (j : Int)) = (i : Int) + (j : Int) := by unfold wrap64; omega
          obtain ⟨A', c', hr1, hv1, ho1⟩ := slice_lhG el_u8 A b.length c i (i + j) .i64 .i64 (i : Int) ((i : Int) + (j : Int)) rfl (by omega) (by omega) (by omega) hbc
          have hv2 := hv1 bv w b rfl HBs.out
          have hij : i + j - i = j := by omega
          rw [hij] at hv2
          simp only [hij] at hr1
          have HV := Lib.hid hv2
          have hbl := hol
          clear hv2 hij ho1 p hq hin hv hfar h1 h2 h3 hown hb hv1
          go_enter Try.func43, Try.ntmps43
          go_wp2_with fail
          refine (clone_any _ _ w HV.out (by simp; omega)).mono ?_
          rintro e w5 ⟨u, rfl, O5, F5⟩
          have HE : Hid (PartEnd w (0, (b.drop i).take j) (.returned (.tuple #[u, .int .i64 0])) w5) := Lib.hid ⟨u, rfl, O5, F5⟩
          clear O5 F5
          go_wp2
          go_ret2
          exact HE.out
end Go.Proofs.Ytpepapadbmkjiaa

namespace Go.Proofs.Ytpepapadbmkjiaa
open Go.RowKit
def getR (s : Wst) (x : Tx) (o k : Int) : Int × List UInt8 × Wst := (getN s x o k, getB s x o k, getS s x o k)
theorem getB_none {s : Wst} {x : Tx} {o k : Int} (h : getN s x o k ≠ 0) : getB s x o k = [] := by unfold getB; rw [if_neg h]
theorem get_bad {s : Wst} {x : Tx} {o k : Int} (h : nm24 x = false ∨ o < 0 ∨ k < -1) : getR s x o k = (1, [], s) := by
  have h1 : getN s x o k = 1 := by unfold getN; rw [if_pos h]
  have h2 : getS s x o k = s := by unfold getS; rw [if_pos h]
  unfold getR; rw [getB_none (by rw [h1]; decide), h1, h2]
theorem get_dead {s : Wst} {x : Tx} {o k : Int} (h : ¬(nm24 x = false ∨ o < 0 ∨ k < -1)) (hd : s.dead = true) : getR s x o k = (8, [], s) := by
  have h1 : getN s x o k = 8 := by unfold getN; rw [if_neg h, if_pos hd]
  have h2 : getS s x o k = s := by unfold getS; rw [if_neg h, if_pos hd]
  unfold getR; rw [getB_none (by rw [h1]; decide), h1, h2]
theorem getS_ok {s : Wst} {x : Tx} {o k : Int} (h : ¬(nm24 x = false ∨ o < 0 ∨ k < -1)) (hd : s.dead = false) : getS s x o k = faultS (stepS s).2 := by
  unfold getS; rw [if_neg h, if_neg (by simp [hd])]
theorem next_zero {s : Wst} : nextF s.fl = 0 ↔ ¬(s.fl.headD 0 = 1 ∨ s.fl.headD 0 = 2) := by
  unfold nextF
  cases e : s.fl with
  | nil => simp
  | cons a r =>
    simp only [List.headD_cons]
    by_cases h : a = 1 ∨ a = 2
    · rw [if_pos h]
      exact ⟨fun e => by omega, fun e => absurd h e⟩
    · rw [if_neg h]
      exact ⟨fun _ => h, fun _ => rfl⟩
theorem get_away {s : Wst} {x : Tx} {o k : Int} (h : ¬(nm24 x = false ∨ o < 0 ∨ k < -1)) (hd : s.dead = false) (hf : s.fl.headD 0 = 1 ∨ s.fl.headD 0 = 2) : getR s x o k = (11, [], faultS (stepS s).2) := by
  have h1 : getN s x o k = 11 := by unfold getN; rw [if_neg h, if_neg (by simp [hd]), if_pos (fun e => (next_zero.1 e) hf)]
  unfold getR; rw [getB_none (by rw [h1]; decide), h1, getS_ok h hd]
theorem get_none {s : Wst} {x : Tx} {o k : Int} (h : ¬(nm24 x = false ∨ o < 0 ∨ k < -1)) (hd : s.dead = false) (hf : ¬(s.fl.headD 0 = 1 ∨ s.fl.headD 0 = 2)) (hx : ¬ x ∈ s.ks) : getR s x o k = (5, [], faultS (stepS s).2) := by
  have h1 : getN s x o k = 5 := by unfold getN; rw [if_neg h, if_neg (by simp [hd]), if_neg (fun e => e (next_zero.2 hf)), if_neg hx]
  unfold getR; rw [getB_none (by rw [h1]; decide), h1, getS_ok h hd]
theorem get_far {s : Wst} {x : Tx} {o k : Int} (h : ¬(nm24 x = false ∨ o < 0 ∨ k < -1)) (hd : s.dead = false) (hf : ¬(s.fl.headD 0 = 1 ∨ s.fl.headD 0 = 2)) (hx : x ∈ s.ks) (ho : ((s.ob x).length : Int) < o ∨ ((s.ob x).length : Int) - o < k) : getR s x o k = (1, [], faultS (stepS s).2) := by
  have h1 : getN s x o k = 1 := by unfold getN; rw [if_neg h, if_neg (by simp [hd]), if_neg (fun e => e (next_zero.2 hf)), if_pos hx, if_pos ho]
  unfold getR; rw [getB_none (by rw [h1]; decide), h1, getS_ok h hd]
theorem get_did {s : Wst} {x : Tx} {o k : Int} (h : ¬(nm24 x = false ∨ o < 0 ∨ k < -1)) (hd : s.dead = false) (hf : ¬(s.fl.headD 0 = 1 ∨ s.fl.headD 0 = 2)) (hx : x ∈ s.ks) (ho : ¬(((s.ob x).length : Int) < o ∨ ((s.ob x).length : Int) - o < k)) :
    getR s x o k = (0, ((s.ob x).drop o.toNat).take (if k = -1 then (s.ob x).length else k.toNat), faultS (stepS s).2) := by
  have h1 : getN s x o k = 0 := by unfold getN; rw [if_neg h, if_neg (by simp [hd]), if_neg (fun e => e (next_zero.2 hf)), if_pos hx, if_neg ho]
  have h2 : getB s x o k = ((s.ob x).drop o.toNat).take (if k = -1 then (s.ob x).length else k.toNat) := by unfold getB; rw [if_pos h1]
  unfold getR; rw [h2, h1, getS_ok h hd]
def GotS (av : Nat → Prop) (n : Nat) (w : World) (g : Nat) (R : Int × List UInt8 × Wst) (e : Ending) (w' : World) : Prop :=
  (∃ u, e = .returned (.tuple #[u, .int .i64 R.1]) ∧ Bs w' u R.2.1 ∧ ∀ q, u.ownBlock = some q → ¬ av q) ∧ PW av n w' g R.2.2 ∧ Fr (fun k => ¬ av k) w w'
def GotEnd (av : Nat → Prop) (n g b4 : Nat) (w : World) (s : Wst) (r : Int × List UInt8) (z : Int) (w' : World) : Prop :=
  z = r.1 ∧ PW av n w' g s ∧ Fr (One b4) w w' ∧ ∃ u, w'.cell? ⟨b4, 0, none⟩ = some u ∧ Own w' w.heap.size u r.2
set_option maxHeartbeats 4000000 in
theorem pwdoget_any {av : Nat → Prop} {n : Nat} {w : World} {g : Nat} {s : Wst} (p : PW av n w g s) (x : Tx) (hx : x.length ≤ 1000000000) (o k : Int) (ho : 0 ≤ o ∧ o ≤ 9223372036854775807) (hk : -1 ≤ k ∧ k ≤ 9223372036854775807) (B0 B1 B2 B3 B4 : Nat) (a4 : av B4)
    (h0 : w.cell? ⟨B0, 0, none⟩ = some (ptr g)) (h1 : w.cell? ⟨B1, 0, none⟩ = some (.string ⟨x.toArray⟩)) (h2 : w.cell? ⟨B2, 0, none⟩ = some (.int .i64 o)) (h3 : w.cell? ⟨B3, 0, none⟩ = some (.int .i64 k)) (h4 : Blk w B4 23 #[.slice none 0 0]) :
    Calls Try.prog 42 #[ptr B0, ptr B1, ptr B2, ptr B3, ptr B4] w fun e w' => ∃ z, e = .returned (.int .i64 z) ∧ GotEnd av n g B4 w s (partS s x o k) z w' := by
  have HC := Lib.hid (pwpart_any p x hx o k ho hk)
  have HP := Lib.hid p
  have H4 := Lib.hid h4
  have l4 := h4.lt
  have hng : B4 ≠ g := fun e => p.ng (by rw [← e]; exact a4)
  obtain ⟨⟨r, y⟩, hr⟩ : ∃ r, partS s x o k = r := ⟨_, rfl⟩
  rw [hr] at HC ⊢
  clear p h4 hr
  go_enter Try.func42, Try.ntmps42
  go_wp2_with fail
  refine HC.out.mono ?_
  rintro e w1 ⟨u, rfl, O1, F1⟩
  obtain ⟨Au, cu, rfl⟩ := O1.bs.shape
  have BB := H4.out.fr F1 (fun e => e)
  have c4 : w1.cell? ⟨B4, 0, none⟩ = some (.slice none 0 0) := BB.cell 0
  have z4 : w1.frozen? ⟨B4, 0, none⟩ = false := BB.frozen 0
  have l41 := BB.lt
  have F2 : Fr (One B4) w1 (w1.setCell ⟨B4, 0, none⟩ (.slice Au y.length cu)) := (Fr.refl _ _).set1 0 _
  have HE : Hid (GotEnd av n g B4 w s (r, y) r (w1.setCell ⟨B4, 0, none⟩ (.slice Au y.length cu))) := Lib.hid ⟨rfl, (HP.out.keep F1 (fun k h => h.elim)).keep F2 (fun k h => Or.inl (by rw [show k = B4 from h]; exact a4)), (Fr.any F1).trans F2, _, (BB.set 0 _).cell 0, O1.fr F2 (fun q hq e => by have h5 := (O1.lt q hq).1; have h6 : q = B4 := e; omega)⟩
  clear O1 F1 F2 BB
  dsimp only at HE ⊢
  go_wp2
  go_ret
  exact ⟨_, rfl, HE.out⟩
theorem part_err {s : Wst} {x : Tx} {o k : Int} (h : (partS s x o k).1 ≠ 0) : (partS s x o k).2 = [] := by
  unfold partS at h ⊢
  by_cases h1 : x ∈ s.ks
  · rw [if_pos h1] at h ⊢
    by_cases h2 : farS s x o k
    · rw [if_pos h2]
    · rw [if_neg h2] at h; exact absurd rfl h
  · rw [if_neg h1]
theorem part_same {s t : Wst} {x : Tx} {o k : Int} (h1 : t.ks = s.ks) (h2 : t.ob = s.ob) : partS t x o k = partS s x o k := by
  obtain ⟨a1, a2, a3, a4, a5, a6, a7⟩ := s
  obtain ⟨b1, b2, b3, b4, b5, b6, b7⟩ := t
  dsimp only at h1 h2
  subst h1 h2
  rfl
theorem get_part {s : Wst} {x : Tx} {o k : Int} (h : ¬(nm24 x = false ∨ o < 0 ∨ k < -1)) (hd : s.dead = false) (hf : ¬(s.fl.headD 0 = 1 ∨ s.fl.headD 0 = 2)) :
    getR s x o k = ((partS s x o k).1, (partS s x o k).2, faultS (stepS s).2) := by
  by_cases h1 : x ∈ s.ks
  · by_cases h2 : farS s x o k
    · rw [get_far h hd hf h1 h2, part_far h1 h2]
    · rw [get_did h hd hf h1 h2, part_did h1 h2]
  · rw [get_none h hd hf h1, part_none h1]
theorem notS_cases {s : Wst} {ok : Bool} {z : Int} {s' : Wst} (h : notS s ok = some (z, s')) : (ok = false ∧ z = 1 ∧ s' = s) ∨ (ok = true ∧ s.dead = true ∧ z = 8 ∧ s' = s) ∨ (ok = true ∧ s.dead = false ∧ s.fl.headD 0 = 1 ∧ z = 11 ∧ s' = faultS (stepS s).2) := by
  unfold notS at h
  cases ok
  · cases h; exact Or.inl ⟨rfl, rfl, rfl⟩
  · rw [if_neg (by simp)] at h
    by_cases hd : s.dead = true
    · rw [if_pos hd] at h; cases h; exact Or.inr (Or.inl ⟨rfl, hd, rfl, rfl⟩)
    · rw [if_neg hd] at h
      by_cases hf : s.fl.headD 0 = 1
      · rw [if_pos hf] at h; cases h; exact Or.inr (Or.inr ⟨rfl, by simpa using hd, hf, rfl, rfl⟩)
      · rw [if_neg hf] at h; cases h
theorem notS_none {s : Wst} {ok : Bool} (h : notS s ok = none) : ok = true ∧ s.dead = false ∧ s.fl.headD 0 ≠ 1 := by
  unfold notS at h
  cases ok
  · cases h
  · rw [if_neg (by simp)] at h
    by_cases hd : s.dead = true
    · rw [if_pos hd] at h; cases h
    · rw [if_neg hd] at h
      by_cases hf : s.fl.headD 0 = 1
      · rw [if_pos hf] at h; cases h
      · exact ⟨rfl, by simpa using hd, hf⟩
def SG (g b : Nat) (k : Nat) : Prop := k = g ∨ k = b
def GetMid (av : Nat → Prop) (n g b4 : Nat) (w V : World) (R : Int × List UInt8 × Wst) (z : Int) (w' : World) : Prop :=
  Fr (SG g b4) V w' ∧ ((z ≠ 0 ∧ GotS av n w g R (.returned (.tuple #[.slice none 0 0, .int .i64 z])) w') ∨ (z = 0 ∧ ∃ u, w'.cell? ⟨b4, 0, none⟩ = some u ∧ GotS av n w g R (.returned (.tuple #[u, .int .i64 0])) w'))
theorem get_mid {av av' : Nat → Prop} {n g b4 : Nat} {w V w' : World} {s : Wst} {x : Tx} {o k : Int} {ok : Bool} {e : Ending} (hok : ok = true ↔ ¬(nm24 x = false ∨ o < 0 ∨ k < -1)) (hav : ∀ q, av q → av' q) (ha : ∀ q, av q → q < V.heap.size) (hg : ¬ av g) (hb : ¬ av b4) (F : Fr (fun k => ¬ av k) w V)
    (h : ReqEnd av' n g s ok V (fun r W' => ∃ W0, Fr (One g) V W0 ∧ GotEnd av' n g b4 W0 (faultS (stepS s).2) (partS (faultS (stepS s).2) x o k) r W') e w') : ∃ z, e = .returned (.int .i64 z) ∧ GetMid av n g b4 w V (getR s x o k) z w' := by
  have HS : ∀ {X X' : World}, Fr (SG g b4) X X' → Fr (fun k => ¬ av k) X X' := fun hf => hf.mono (fun q _ h => by
    rcases h with rfl | rfl
    · exact hg
    · exact hb)
  have H1 : ∀ {X X' : World}, Fr (One g) X X' → Fr (SG g b4) X X' := fun hf => hf.mono (fun q _ h => Or.inl h)
  have H4 : ∀ {X X' : World}, Fr (One b4) X X' → Fr (SG g b4) X X' := fun hf => hf.mono (fun q _ h => Or.inr h)
  have HA : ∀ {X : World} {t : Wst}, PW av' n X g t → PW av n X g t := fun p => p.avoid (fun q hq => Or.inl (hav q hq))
  rcases h with ⟨z, rfl, ⟨s', hn, hp', hf'⟩ | ⟨hn, r, ⟨W0, hfW, rfl, hp', hf', u, hu, hO⟩, rfl⟩⟩
  · refine ⟨z, rfl, H1 hf', Or.inl ?_⟩
    have hGF := F.trans (HS (H1 hf'))
    rcases notS_cases hn with ⟨h1, rfl, rfl⟩ | ⟨h1, h2, rfl, rfl⟩ | ⟨h1, h2, h3, rfl, rfl⟩
    · rw [get_bad (Classical.byContradiction (fun hc => by rw [hok.2 hc] at h1; cases h1))]
      exact ⟨by decide, ⟨_, rfl, Bs.nil_ _, fun q h => by cases h⟩, HA hp', hGF⟩
    · rw [get_dead (hok.1 h1) h2]
      exact ⟨by decide, ⟨_, rfl, Bs.nil_ _, fun q h => by cases h⟩, HA hp', hGF⟩
    · rw [get_away (hok.1 h1) h2 (Or.inl h3)]
      exact ⟨by decide, ⟨_, rfl, Bs.nil_ _, fun q h => by cases h⟩, HA hp', hGF⟩
  · obtain ⟨h1, h2, h3⟩ := notS_none hn
    have hFr := (H1 hfW).trans (H4 hf')
    have hGF := F.trans (HS hFr)
    refine ⟨_, rfl, hFr, ?_⟩
    by_cases h4 : s.fl.headD 0 = 2
    · rw [if_pos h4, get_away (hok.1 h1) h2 (Or.inr h4)]
      exact Or.inl ⟨by decide, ⟨_, rfl, Bs.nil_ _, fun q h => by cases h⟩, HA hp', hGF⟩
    · rw [if_neg h4]
      have hps : partS (faultS (stepS s).2) x o k = partS s x o k := part_same (step_ks s).1 (step_ks s).2.2
      rw [hps] at hO ⊢
      rw [get_part (hok.1 h1) h2 (fun h => h.elim h3 h4)]
      by_cases hz : (partS s x o k).1 = 0
      · refine Or.inr ⟨hz, u, hu, ⟨u, by rw [hz], hO.bs, fun q hq hqa => ?_⟩, HA hp', hGF⟩
        have h5 := (hO.lt q hq).1
        have h6 := ha q hqa
        have h7 := hfW.size
        omega
      · exact Or.inl ⟨hz, ⟨_, rfl, by rw [part_err hz]; exact Bs.nil_ _, fun q h => by cases h⟩, HA hp', hGF⟩
set_option maxHeartbeats 8000000 in
theorem pwgetR_any {av : Nat → Prop} {n : Nat} {w : World} {g : Nat} {s : Wst} (p : PW av n w g s) (hav : ∀ k, av k → k < w.heap.size) (x : Tx) (hx : x.length ≤ 1000000000) (o k : Int) (ho : -9223372036854775808 ≤ o ∧ o ≤ 9223372036854775807) (hk : -9223372036854775808 ≤ k ∧ k ≤ 9223372036854775807) :
    Calls Try.prog 14 #[ptr g, .string ⟨x.toArray⟩, .int .i64 o, .int .i64 k] w fun e w' => GotS av n w g (getR s x o k) e w' := by
  have HG := Lib.hid p.ng
  obtain ⟨bx, hbx⟩ : ∃ b, w.heap.size = b := ⟨_, rfl⟩
  obtain ⟨W, hW⟩ : ∃ W, W = (((((w.alloc (.cells #[ptr g] 25)).alloc (.cells #[.string ⟨x.toArray⟩] 9)).alloc (.cells #[.int .i64 o] 3)).alloc (.cells #[.int .i64 k] 3)).alloc (.cells #[.slice none 0 0] 23)) := ⟨_, rfl⟩
  obtain ⟨Y0, hY0⟩ : ∃ Y, Y = w.alloc (.cells #[ptr g] 25) := ⟨_, rfl⟩
  have G0 : Fr Non w Y0 := by rw [hY0]; exact (Fr.refl _ _).alloc _
  have s0 : Y0.heap.size = bx + 1 := by rw [hY0]; simp; omega
  have b0 : Blk Y0 (bx) 25 #[ptr g] := by rw [hY0, ← hbx]; exact Blk.new _ _ _
  obtain ⟨Y1, hY1⟩ : ∃ Y, Y = Y0.alloc (.cells #[.string ⟨x.toArray⟩] 9) := ⟨_, rfl⟩
  have G1 : Fr Non Y0 Y1 := by rw [hY1]; exact (Fr.refl _ _).alloc _
  have s1 : Y1.heap.size = bx + 2 := by rw [hY1]; simp; omega
  have b1 : Blk Y1 (bx + 1) 9 #[.string ⟨x.toArray⟩] := by rw [hY1, ← s0]; exact Blk.new _ _ _
  obtain ⟨Y2, hY2⟩ : ∃ Y, Y = Y1.alloc (.cells #[.int .i64 o] 3) := ⟨_, rfl⟩
  have G2 : Fr Non Y1 Y2 := by rw [hY2]; exact (Fr.refl _ _).alloc _
  have s2 : Y2.heap.size = bx + 3 := by rw [hY2]; simp; omega
  have b2 : Blk Y2 (bx + 2) 3 #[.int .i64 o] := by rw [hY2, ← s1]; exact Blk.new _ _ _
  obtain ⟨Y3, hY3⟩ : ∃ Y, Y = Y2.alloc (.cells #[.int .i64 k] 3) := ⟨_, rfl⟩
  have G3 : Fr Non Y2 Y3 := by rw [hY3]; exact (Fr.refl _ _).alloc _
  have s3 : Y3.heap.size = bx + 4 := by rw [hY3]; simp; omega
  have b3 : Blk Y3 (bx + 3) 3 #[.int .i64 k] := by rw [hY3, ← s2]; exact Blk.new _ _ _
  obtain ⟨Y4, hY4⟩ : ∃ Y, Y = Y3.alloc (.cells #[.slice none 0 0] 23) := ⟨_, rfl⟩
  have G4 : Fr Non Y3 Y4 := by rw [hY4]; exact (Fr.refl _ _).alloc _
  have s4 : Y4.heap.size = bx + 5 := by rw [hY4]; simp; omega
  have b4 : Blk Y4 (bx + 4) 23 #[.slice none 0 0] := by rw [hY4, ← s3]; exact Blk.new _ _ _
  have hWY : W = Y4 := by rw [hW, hY4, hY3, hY2, hY1, hY0]
  subst hWY
  have FW : Fr Non w W := ((((G0.trans G1).trans G2).trans G3).trans G4)
  have e0 := Lib.hid ((((b0.fr G1 (fun e => e)).fr G2 (fun e => e)).fr G3 (fun e => e)).fr G4 (fun e => e))
  have h0 : W.cell? ⟨bx, 0, none⟩ = some (ptr g) := e0.out.cell 0
  have e1 := Lib.hid (((b1.fr G2 (fun e => e)).fr G3 (fun e => e)).fr G4 (fun e => e))
  have h1 : W.cell? ⟨bx + 1, 0, none⟩ = some (.string ⟨x.toArray⟩) := e1.out.cell 0
  have e2 := Lib.hid ((b2.fr G3 (fun e => e)).fr G4 (fun e => e))
  have h2 : W.cell? ⟨bx + 2, 0, none⟩ = some (.int .i64 o) := e2.out.cell 0
  have e3 := Lib.hid (b3.fr G4 (fun e => e))
  have h3 : W.cell? ⟨bx + 3, 0, none⟩ = some (.int .i64 k) := e3.out.cell 0
  have e4 := Lib.hid b4
  have h4 : W.cell? ⟨bx + 4, 0, none⟩ = some (.slice none 0 0) := e4.out.cell 0
  have hz : W.heap.size = bx + 5 := s4
  have PW0 := Lib.hid ((p.avoid (av' := avR av bx (bx + 5)) (fun k h => h.imp id (fun h => by omega))).keep FW (fun k h => h.elim))
  have HAV : Hid (∀ k, av k → k < bx) := Lib.hid (fun k h => by have := hav k h; omega)
  have HFW : Hid (Fr (fun k => ¬ av k) w W) := Lib.hid (Fr.any FW)
  have hmf := makeFunc_run
  have HO := Lib.hid ho
  have HK := Lib.hid hk
  clear e0 e1 e2 e3 h4 hY0 G0 s0 b0 hY1 G1 s1 b1 hY2 G2 s2 b2 hY3 G3 s3 b3 hY4 G4 s4 b4 FW p hav hk
  obtain ⟨ok, HOK⟩ : ∃ ok : Bool, Hid (ok = true ↔ ¬(nm24 x = false ∨ o < 0 ∨ k < -1)) := ⟨decide (¬(nm24 x = false ∨ o < 0 ∨ k < -1)), Lib.hid (by simp)⟩
  obtain ⟨R, HR⟩ : ∃ R, Hid (getR s x o k = R) := ⟨_, Lib.hid rfl⟩
  rw [HR.out]
  cases hnm : nm24 x
  · have HNM := Lib.hid hnm
    have hokf : ok = false := by
      cases ok
      · rfl
      · exact absurd (Or.inl hnm) (HOK.out.1 rfl)
    subst hokf
    clear hnm
    go_enter Try.func14, Try.ntmps14
    go_wp2
    try rw [hbx]
    try rw [← hW]
    clear hW hbx
    obtain ⟨V, hV⟩ : ∃ V, V = W.drew := ⟨_, rfl⟩
    refine wp_region_held_drew (S := (fun W' => W'.cell? ⟨bx, 0, none⟩ = some (ptr g) ∧ W'.cell? ⟨bx + 1, 0, none⟩ = some (.string ⟨x.toArray⟩) ∧ W'.cell? ⟨bx + 2, 0, none⟩ = some (.int .i64 o) ∧ W'.cell? ⟨bx + 3, 0, none⟩ = some (.int .i64 k))) (by kernel_rfl) (by exact ⟨h0, h1, h2, h3⟩) (fun hHeld => ?_)
    rw [← hV] at hHeld ⊢
    have FV : Fr Non W V := by rw [hV]; exact (Fr.refl _ _).drew
    clear hV
    have PV := Lib.hid (PW0.out.keep FV (fun k h => h.elim))
    have HFV : Hid (Fr (fun k => ¬ av k) w V) := Lib.hid (HFW.out.trans (Fr.any FV))
    have HB4 := Lib.hid (e4.out.fr FV (fun e => e))
    have hsV : bx + 5 ≤ V.heap.size := by have := FV.size; omega
    clear FV PW0 HFW e4
    have HNG : Hid (∀ k, bx ≤ k → k < bx + 5 → k ≠ g) := Lib.hid (fun k h1 h2 e => PV.out.ng (by rw [← e]; exact Or.inr ⟨h1, h2⟩))
    replace h0 := hHeld.1
    replace h1 := hHeld.2.1
    replace h2 := hHeld.2.2.1
    replace h3 := hHeld.2.2.2
    refine wpAnyH_take (i := 0) (oi := ⟨some 12, _, _, _, _, none⟩) (v := ?v1) rfl (by kernel_rfl) (by kernel_rfl) (by kernel_rfl) (fun _ _ _ h => h) (Or.inl ⟨by rfl, ?hy1⟩) (by assumption) ?rest1
    case hy1 => (intro wS hSw; (try dsimp only at hSw); go_simp; (try with_reducible rfl))
    (try simp only [Act.put, zA, zB, zC])
    refine wpAnyH_take (i := 1) (oi := ⟨some 13, _, _, _, _, none⟩) (v := ?v2) rfl (by kernel_rfl) (by kernel_rfl) (by kernel_rfl) (fun _ _ _ h => h) (Or.inl ⟨by rfl, ?hy2⟩) (by assumption) ?rest2
    case hy2 => (intro wS hSw; (try dsimp only at hSw); go_simp; (try with_reducible rfl))
    (try simp only [Act.put, zA, zB, zC])
    refine wpAnyH_take (i := 11) (oi := ⟨some 23, _, _, _, _, none⟩) (v := ?v3) rfl (by kernel_rfl) (by kernel_rfl) (by kernel_rfl) (fun _ _ _ h => h) (Or.inl ⟨by rfl, ?hy3⟩) (by assumption) ?rest3
    case hy3 => (intro wS hSw; (try dsimp only at hSw); go_simp; (try with_reducible rfl))
    (try simp only [Act.put, zA, zB, zC])
    refine wpAnyH_ready (rs := [2]) (by kernel_rfl) (by simp) ?_
    refine AllReadyH.cons (o := ⟨some 14, _, _, _, _, none⟩) rfl (fun K hK => ?_) AllReadyH.nil
    go_simp
    go_at_call 27
    refine (pwname_any x V hx).mono ?_
    rintro e w0 ⟨rfl, rfl⟩
    rw [HNM.out]
    go_wp2_with fail
    refine hK.out _ _ (by exact ⟨h0, h1, h2, h3⟩) (fun hHeld => ?_)
    clear hK K
    (try simp only [Act.put, zA, zB, zC])
    refine wpAnyH_take (i := 3) (oi := ⟨some 15, _, _, _, _, none⟩) (v := ?v4) rfl (by kernel_rfl) (by kernel_rfl) (by kernel_rfl) (fun _ _ _ h => h) (Or.inl ⟨by rfl, ?hy4⟩) (by assumption) ?rest4
    case hy4 => (intro wS hSw; (try dsimp only at hSw); go_simp; (try with_reducible rfl))
    (try simp only [Act.put, zA, zB, zC])
    refine wpAnyH_take (i := 4) (oi := ⟨some 16, _, _, _, _, some (3, true)⟩) (v := undef) rfl (by kernel_rfl) (by kernel_rfl) (by kernel_rfl) (fun _ _ _ h => h) (Or.inr ⟨by rfl, rfl⟩) (by assumption) ?_
    (try simp only [Act.put, zA, zB, zC])
    refine wpAnyH_take (i := 5) (oi := ⟨some 17, _, _, _, _, some (3, true)⟩) (v := undef) rfl (by kernel_rfl) (by kernel_rfl) (by kernel_rfl) (fun _ _ _ h => h) (Or.inr ⟨by rfl, rfl⟩) (by assumption) ?_
    (try simp only [Act.put, zA, zB, zC])
    refine wpAnyH_take (i := 6) (oi := ⟨some 18, _, _, _, _, none⟩) (v := ?v5) rfl (by kernel_rfl) (by kernel_rfl) (by kernel_rfl) (fun _ _ _ h => h) (Or.inl ⟨by rfl, ?hy5⟩) (by assumption) ?rest5
    case hy5 => (intro wS hSw; (try dsimp only at hSw); go_simp; (try with_reducible rfl))
    (try simp only [Act.put, zA, zB, zC])
    refine wpAnyH_take (i := 7) (oi := ⟨some 19, _, _, _, _, none⟩) (v := ?v6) rfl (by kernel_rfl) (by kernel_rfl) (by kernel_rfl) (fun _ _ _ h => h) (Or.inl ⟨by rfl, ?hy6⟩) (by assumption) ?rest6
    case hy6 => (intro wS hSw; (try dsimp only at hSw); go_simp; (try with_reducible rfl))
    (try simp only [Act.put, zA, zB, zC])
    refine wpAnyH_take (i := 8) (oi := ⟨some 20, _, _, _, _, some (7, true)⟩) (v := undef) rfl (by kernel_rfl) (by kernel_rfl) (by kernel_rfl) (fun _ _ _ h => h) (Or.inr ⟨by rfl, rfl⟩) (by assumption) ?_
    (try simp only [Act.put, zA, zB, zC])
    refine wpAnyH_take (i := 9) (oi := ⟨some 21, _, _, _, _, some (7, true)⟩) (v := undef) rfl (by kernel_rfl) (by kernel_rfl) (by kernel_rfl) (fun _ _ _ h => h) (Or.inr ⟨by rfl, rfl⟩) (by assumption) ?_
    (try simp only [Act.put, zA, zB, zC])
    refine wpAnyH_take (i := 10) (oi := ⟨some 22, _, _, _, _, none⟩) (v := ?v7) rfl (by kernel_rfl) (by kernel_rfl) (by kernel_rfl) (fun _ _ _ h => h) (Or.inl ⟨by rfl, ?hy7⟩) (by assumption) ?rest7
    case hy7 => (intro wS hSw; (try dsimp only at hSw); go_simp; (try with_reducible rfl))
    (try simp only [Act.put, zA, zB, zC])
    refine wpAnyH_ready (rs := [12]) (by kernel_rfl) (by simp) ?_
    refine AllReadyH.cons (o := ⟨some 24, _, _, _, _, none⟩) rfl (fun K hK => ?_) AllReadyH.nil
    go_simp
    go_at_call 29
    refine (pwreq_any PV.out _ 42 #[ptr bx, ptr (bx + 1), ptr (bx + 2), ptr (bx + 3), ptr (bx + 4)] (fun r W' => ∃ W0, Fr (One g) V W0 ∧ GotEnd (avR av bx (bx + 5)) n g (bx + 4) W0 (faultS (stepS s).2) (partS (faultS (stepS s).2) x o k) r W') Try.call42 (fun W' hok hf hp => ?_)).mono ?_
    · have hb := HOK.out.1 hok
      have hoo := HO.out
      have hkk := HK.out
      refine (pwdoget_any hp x hx o k ⟨by omega, by omega⟩ ⟨by omega, by omega⟩ bx (bx + 1) (bx + 2) (bx + 3) (bx + 4) (Or.inr ⟨by omega, by omega⟩) ((hf.cell (p := ⟨bx, 0, none⟩) (by show _ < V.heap.size; dsimp only; omega) (HNG.out (bx) (by omega) (by omega))).trans h0) ((hf.cell (p := ⟨bx + 1, 0, none⟩) (by show _ < V.heap.size; dsimp only; omega) (HNG.out (bx + 1) (by omega) (by omega))).trans h1) ((hf.cell (p := ⟨bx + 2, 0, none⟩) (by show _ < V.heap.size; dsimp only; omega) (HNG.out (bx + 2) (by omega) (by omega))).trans h2) ((hf.cell (p := ⟨bx + 3, 0, none⟩) (by show _ < V.heap.size; dsimp only; omega) (HNG.out (bx + 3) (by omega) (by omega))).trans h3) (HB4.out.fr hf (fun e => HNG.out (bx + 4) (by omega) (by omega) e))).mono ?_
      rintro e w' ⟨z, rfl, hz⟩
      exact ⟨z, rfl, W', hf, hz⟩
    intro e w5 hR
    obtain ⟨z, rfl, HMX⟩ := get_mid HOK.out (fun q hq => Or.inl hq) (fun q hq => by have := HAV.out q hq; omega) HG.out (fun h => by have := HAV.out _ h; omega) HFV.out hR
    rw [HR.out] at HMX
    obtain ⟨F5, HM⟩ := HMX
    clear hR
    have HM := Lib.hid HM
    have j0 : w5.cell? ⟨bx, 0, none⟩ = some (ptr g) := (F5.cell (p := ⟨bx, 0, none⟩) (by show _ < V.heap.size; dsimp only; omega) (fun h => h.elim (HNG.out (bx) (by omega) (by omega)) (fun h => by have h : bx = bx + 4 := h; omega))).trans h0
    have j1 : w5.cell? ⟨bx + 1, 0, none⟩ = some (.string ⟨x.toArray⟩) := (F5.cell (p := ⟨bx + 1, 0, none⟩) (by show _ < V.heap.size; dsimp only; omega) (fun h => h.elim (HNG.out (bx + 1) (by omega) (by omega)) (fun h => by have h : bx + 1 = bx + 4 := h; omega))).trans h1
    have j2 : w5.cell? ⟨bx + 2, 0, none⟩ = some (.int .i64 o) := (F5.cell (p := ⟨bx + 2, 0, none⟩) (by show _ < V.heap.size; dsimp only; omega) (fun h => h.elim (HNG.out (bx + 2) (by omega) (by omega)) (fun h => by have h : bx + 2 = bx + 4 := h; omega))).trans h2
    have j3 : w5.cell? ⟨bx + 3, 0, none⟩ = some (.int .i64 k) := (F5.cell (p := ⟨bx + 3, 0, none⟩) (by show _ < V.heap.size; dsimp only; omega) (fun h => h.elim (HNG.out (bx + 3) (by omega) (by omega)) (fun h => by have h : bx + 3 = bx + 4 := h; omega))).trans h3
    clear F5
    go_wp2_with fail
    refine hK.out _ _ (by exact ⟨j0, j1, j2, j3⟩) (fun hHeld => ?_)
    clear hK K
    (try simp only [Act.put, zA, zB, zC])
    refine wpAnyH_take (i := 13) (oi := ⟨some 11, _, _, _, _, none⟩) (v := ?v8) rfl (by kernel_rfl) (by kernel_rfl) (by kernel_rfl) (fun _ _ _ h => h) (Or.inl ⟨by rfl, ?hy8⟩) (by assumption) ?rest8
    case hy8 => (intro wS hSw; (try dsimp only at hSw); go_simp; (try with_reducible rfl))
    (try simp only [Act.put, zA, zB, zC])
    refine wpAnyH_done (by kernel_rfl) ?_ _
    clear hHeld j0 j1 j2 j3 h0 h1 h2 h3
    rcases HM.out with ⟨hz, HE⟩ | ⟨rfl, u, hu, HE⟩
    · have z1 : (z == 0) = false := by rw [beq_eq_false_iff_ne]; exact hz
      have z2 : (z != 0) = true := by rw [bne, z1]; rfl
      have HE := Lib.hid HE
      clear hz HM
      go_wp2
      go_ret2
      exact HE.out
    · have HE := Lib.hid HE
      clear HM
      go_wp2
      go_ret2
      exact HE.out
  · have HNM := Lib.hid hnm
    by_cases ho0 : 0 ≤ o
    · have d2 : decide (0 ≤ o) = true := decide_eq_true ho0
      have d3 : decide (-1 ≤ k) = ok := by
        rw [Bool.eq_iff_iff, decide_eq_true_eq, HOK.out, hnm]
        constructor
        · rintro h (h1 | h1 | h1)
          · cases h1
          · omega
          · omega
        · intro h
          have h1 : ¬ k < -1 := fun e => h (Or.inr (Or.inr e))
          omega
      clear hnm ho ho0
      go_enter Try.func14, Try.ntmps14
      go_wp2
      try rw [hbx]
      try rw [← hW]
      clear hW hbx
      obtain ⟨V, hV⟩ : ∃ V, V = W.drew := ⟨_, rfl⟩
      refine wp_region_held_drew (S := (fun W' => W'.cell? ⟨bx, 0, none⟩ = some (ptr g) ∧ W'.cell? ⟨bx + 1, 0, none⟩ = some (.string ⟨x.toArray⟩) ∧ W'.cell? ⟨bx + 2, 0, none⟩ = some (.int .i64 o) ∧ W'.cell? ⟨bx + 3, 0, none⟩ = some (.int .i64 k))) (by kernel_rfl) (by exact ⟨h0, h1, h2, h3⟩) (fun hHeld => ?_)
      rw [← hV] at hHeld ⊢
      have FV : Fr Non W V := by rw [hV]; exact (Fr.refl _ _).drew
      clear hV
      have PV := Lib.hid (PW0.out.keep FV (fun k h => h.elim))
      have HFV : Hid (Fr (fun k => ¬ av k) w V) := Lib.hid (HFW.out.trans (Fr.any FV))
      have HB4 := Lib.hid (e4.out.fr FV (fun e => e))
      have hsV : bx + 5 ≤ V.heap.size := by have := FV.size; omega
      clear FV PW0 HFW e4
      have HNG : Hid (∀ k, bx ≤ k → k < bx + 5 → k ≠ g) := Lib.hid (fun k h1 h2 e => PV.out.ng (by rw [← e]; exact Or.inr ⟨h1, h2⟩))
      replace h0 := hHeld.1
      replace h1 := hHeld.2.1
      replace h2 := hHeld.2.2.1
      replace h3 := hHeld.2.2.2
      refine wpAnyH_take (i := 0) (oi := ⟨some 12, _, _, _, _, none⟩) (v := ?v9) rfl (by kernel_rfl) (by kernel_rfl) (by kernel_rfl) (fun _ _ _ h => h) (Or.inl ⟨by rfl, ?hy9⟩) (by assumption) ?rest9
      case hy9 => (intro wS hSw; (try dsimp only at hSw); go_simp; (try with_reducible rfl))
      (try simp only [Act.put, zA, zB, zC])
      refine wpAnyH_take (i := 1) (oi := ⟨some 13, _, _, _, _, none⟩) (v := ?v10) rfl (by kernel_rfl) (by kernel_rfl) (by kernel_rfl) (fun _ _ _ h => h) (Or.inl ⟨by rfl, ?hy10⟩) (by assumption) ?rest10
      case hy10 => (intro wS hSw; (try dsimp only at hSw); go_simp; (try with_reducible rfl))
      (try simp only [Act.put, zA, zB, zC])
      refine wpAnyH_take (i := 11) (oi := ⟨some 23, _, _, _, _, none⟩) (v := ?v11) rfl (by kernel_rfl) (by kernel_rfl) (by kernel_rfl) (fun _ _ _ h => h) (Or.inl ⟨by rfl, ?hy11⟩) (by assumption) ?rest11
      case hy11 => (intro wS hSw; (try dsimp only at hSw); go_simp; (try with_reducible rfl))
      (try simp only [Act.put, zA, zB, zC])
      refine wpAnyH_ready (rs := [2]) (by kernel_rfl) (by simp) ?_
      refine AllReadyH.cons (o := ⟨some 14, _, _, _, _, none⟩) rfl (fun K hK => ?_) AllReadyH.nil
      go_simp
      go_at_call 27
      refine (pwname_any x V hx).mono ?_
      rintro e w0 ⟨rfl, rfl⟩
      rw [HNM.out]
      go_wp2_with fail
      refine hK.out _ _ (by exact ⟨h0, h1, h2, h3⟩) (fun hHeld => ?_)
      clear hK K
      (try simp only [Act.put, zA, zB, zC])
      refine wpAnyH_take (i := 3) (oi := ⟨some 15, _, _, _, _, none⟩) (v := ?v12) rfl (by kernel_rfl) (by kernel_rfl) (by kernel_rfl) (fun _ _ _ h => h) (Or.inl ⟨by rfl, ?hy12⟩) (by assumption) ?rest12
      case hy12 => (intro wS hSw; (try dsimp only at hSw); go_simp; (try with_reducible rfl))
      (try simp only [Act.put, zA, zB, zC])
      refine wpAnyH_take (i := 4) (oi := ⟨some 16, _, _, _, _, some (3, true)⟩) (v := ?v13) rfl (by kernel_rfl) (by kernel_rfl) (by kernel_rfl) (fun _ _ _ h => h) (Or.inl ⟨by rfl, ?hy13⟩) (by assumption) ?rest13
      case hy13 => (intro wS hSw; (try dsimp only at hSw); go_simp; (try with_reducible rfl))
      (try simp only [Act.put, zA, zB, zC])
      refine wpAnyH_take (i := 5) (oi := ⟨some 17, _, _, _, _, some (3, true)⟩) (v := ?v14) rfl (by kernel_rfl) (by kernel_rfl) (by kernel_rfl) (fun _ _ _ h => h) (Or.inl ⟨by rfl, ?hy14⟩) (by assumption) ?rest14
      case hy14 => (intro wS hSw; (try dsimp only at hSw); go_simp; (try with_reducible rfl))
      (try simp only [Act.put, zA, zB, zC])
      refine wpAnyH_take (i := 6) (oi := ⟨some 18, _, _, _, _, none⟩) (v := ?v15) rfl (by kernel_rfl) (by kernel_rfl) (by kernel_rfl) (fun _ _ _ h => h) (Or.inl ⟨by rfl, ?hy15⟩) (by assumption) ?rest15
      case hy15 => (intro wS hSw; (try dsimp only at hSw); go_simp; (try with_reducible rfl))
      (try simp only [Act.put, zA, zB, zC])
      refine wpAnyH_take (i := 7) (oi := ⟨some 19, _, _, _, _, none⟩) (v := ?v16) rfl (by kernel_rfl) (by kernel_rfl) (by kernel_rfl) (fun _ _ _ h => h) (Or.inl ⟨by rfl, ?hy16⟩) (by assumption) ?rest16
      case hy16 => (intro wS hSw; (try dsimp only at hSw); go_simp; (try with_reducible rfl))
      (try simp only [Act.put, zA, zB, zC])
      refine wpAnyH_take (i := 8) (oi := ⟨some 20, _, _, _, _, some (7, true)⟩) (v := ?v17) rfl (by kernel_rfl) (by kernel_rfl) (by kernel_rfl) (fun _ _ _ h => h) (Or.inl ⟨by rfl, ?hy17⟩) (by assumption) ?rest17
      case hy17 => (intro wS hSw; (try dsimp only at hSw); go_simp; (try with_reducible rfl))
      (try simp only [Act.put, zA, zB, zC])
      refine wpAnyH_take (i := 9) (oi := ⟨some 21, _, _, _, _, some (7, true)⟩) (v := ?v18) rfl (by kernel_rfl) (by kernel_rfl) (by kernel_rfl) (fun _ _ _ h => h) (Or.inl ⟨by rfl, ?hy18⟩) (by assumption) ?rest18
      case hy18 => (intro wS hSw; (try dsimp only at hSw); go_simp; (try with_reducible rfl))
      (try simp only [Act.put, zA, zB, zC])
      refine wpAnyH_take (i := 10) (oi := ⟨some 22, _, _, _, _, none⟩) (v := ?v19) rfl (by kernel_rfl) (by kernel_rfl) (by kernel_rfl) (fun _ _ _ h => h) (Or.inl ⟨by rfl, ?hy19⟩) (by assumption) ?rest19
      case hy19 => (intro wS hSw; (try dsimp only at hSw); go_simp; (try with_reducible rfl))
      (try simp only [Act.put, zA, zB, zC])
      refine wpAnyH_ready (rs := [12]) (by kernel_rfl) (by simp) ?_
      refine AllReadyH.cons (o := ⟨some 24, _, _, _, _, none⟩) rfl (fun K hK => ?_) AllReadyH.nil
      go_simp
      go_at_call 29
      refine (pwreq_any PV.out _ 42 #[ptr bx, ptr (bx + 1), ptr (bx + 2), ptr (bx + 3), ptr (bx + 4)] (fun r W' => ∃ W0, Fr (One g) V W0 ∧ GotEnd (avR av bx (bx + 5)) n g (bx + 4) W0 (faultS (stepS s).2) (partS (faultS (stepS s).2) x o k) r W') Try.call42 (fun W' hok hf hp => ?_)).mono ?_
      · have hb := HOK.out.1 hok
        have hoo := HO.out
        have hkk := HK.out
        refine (pwdoget_any hp x hx o k ⟨by omega, by omega⟩ ⟨by omega, by omega⟩ bx (bx + 1) (bx + 2) (bx + 3) (bx + 4) (Or.inr ⟨by omega, by omega⟩) ((hf.cell (p := ⟨bx, 0, none⟩) (by show _ < V.heap.size; dsimp only; omega) (HNG.out (bx) (by omega) (by omega))).trans h0) ((hf.cell (p := ⟨bx + 1, 0, none⟩) (by show _ < V.heap.size; dsimp only; omega) (HNG.out (bx + 1) (by omega) (by omega))).trans h1) ((hf.cell (p := ⟨bx + 2, 0, none⟩) (by show _ < V.heap.size; dsimp only; omega) (HNG.out (bx + 2) (by omega) (by omega))).trans h2) ((hf.cell (p := ⟨bx + 3, 0, none⟩) (by show _ < V.heap.size; dsimp only; omega) (HNG.out (bx + 3) (by omega) (by omega))).trans h3) (HB4.out.fr hf (fun e => HNG.out (bx + 4) (by omega) (by omega) e))).mono ?_
        rintro e w' ⟨z, rfl, hz⟩
        exact ⟨z, rfl, W', hf, hz⟩
      intro e w5 hR
      obtain ⟨z, rfl, HMX⟩ := get_mid HOK.out (fun q hq => Or.inl hq) (fun q hq => by have := HAV.out q hq; omega) HG.out (fun h => by have := HAV.out _ h; omega) HFV.out hR
      rw [HR.out] at HMX
      obtain ⟨F5, HM⟩ := HMX
      clear hR
      have HM := Lib.hid HM
      have j0 : w5.cell? ⟨bx, 0, none⟩ = some (ptr g) := (F5.cell (p := ⟨bx, 0, none⟩) (by show _ < V.heap.size; dsimp only; omega) (fun h => h.elim (HNG.out (bx) (by omega) (by omega)) (fun h => by have h : bx = bx + 4 := h; omega))).trans h0
      have j1 : w5.cell? ⟨bx + 1, 0, none⟩ = some (.string ⟨x.toArray⟩) := (F5.cell (p := ⟨bx + 1, 0, none⟩) (by show _ < V.heap.size; dsimp only; omega) (fun h => h.elim (HNG.out (bx + 1) (by omega) (by omega)) (fun h => by have h : bx + 1 = bx + 4 := h; omega))).trans h1
      have j2 : w5.cell? ⟨bx + 2, 0, none⟩ = some (.int .i64 o) := (F5.cell (p := ⟨bx + 2, 0, none⟩) (by show _ < V.heap.size; dsimp only; omega) (fun h => h.elim (HNG.out (bx + 2) (by omega) (by omega)) (fun h => by have h : bx + 2 = bx + 4 := h; omega))).trans h2
      have j3 : w5.cell? ⟨bx + 3, 0, none⟩ = some (.int .i64 k) := (F5.cell (p := ⟨bx + 3, 0, none⟩) (by show _ < V.heap.size; dsimp only; omega) (fun h => h.elim (HNG.out (bx + 3) (by omega) (by omega)) (fun h => by have h : bx + 3 = bx + 4 := h; omega))).trans h3
      clear F5
      go_wp2_with fail
      refine hK.out _ _ (by exact ⟨j0, j1, j2, j3⟩) (fun hHeld => ?_)
      clear hK K
      (try simp only [Act.put, zA, zB, zC])
      refine wpAnyH_take (i := 13) (oi := ⟨some 11, _, _, _, _, none⟩) (v := ?v20) rfl (by kernel_rfl) (by kernel_rfl) (by kernel_rfl) (fun _ _ _ h => h) (Or.inl ⟨by rfl, ?hy20⟩) (by assumption) ?rest20
      case hy20 => (intro wS hSw; (try dsimp only at hSw); go_simp; (try with_reducible rfl))
      (try simp only [Act.put, zA, zB, zC])
      refine wpAnyH_done (by kernel_rfl) ?_ _
      clear hHeld j0 j1 j2 j3 h0 h1 h2 h3
      rcases HM.out with ⟨hz, HE⟩ | ⟨rfl, u, hu, HE⟩
      · have z1 : (z == 0) = false := by rw [beq_eq_false_iff_ne]; exact hz
        have z2 : (z != 0) = true := by rw [bne, z1]; rfl
        have HE := Lib.hid HE
        clear hz HM
        go_wp2
        go_ret2
        exact HE.out
      · have HE := Lib.hid HE
        clear HM
        go_wp2
        go_ret2
        exact HE.out
    · have d2 : decide (0 ≤ o) = false := decide_eq_false ho0
      have hokf : ok = false := by
        cases ok
        · rfl
        · exact absurd (Or.inr (Or.inl (by omega))) (HOK.out.1 rfl)
      subst hokf
      clear hnm ho ho0
      go_enter Try.func14, Try.ntmps14
      go_wp2
      try rw [hbx]
      try rw [← hW]
      clear hW hbx
      obtain ⟨V, hV⟩ : ∃ V, V = W.drew := ⟨_, rfl⟩
      refine wp_region_held_drew (S := (fun W' => W'.cell? ⟨bx, 0, none⟩ = some (ptr g) ∧ W'.cell? ⟨bx + 1, 0, none⟩ = some (.string ⟨x.toArray⟩) ∧ W'.cell? ⟨bx + 2, 0, none⟩ = some (.int .i64 o) ∧ W'.cell? ⟨bx + 3, 0, none⟩ = some (.int .i64 k))) (by kernel_rfl) (by exact ⟨h0, h1, h2, h3⟩) (fun hHeld => ?_)
      rw [← hV] at hHeld ⊢
      have FV : Fr Non W V := by rw [hV]; exact (Fr.refl _ _).drew
      clear hV
      have PV := Lib.hid (PW0.out.keep FV (fun k h => h.elim))
      have HFV : Hid (Fr (fun k => ¬ av k) w V) := Lib.hid (HFW.out.trans (Fr.any FV))
      have HB4 := Lib.hid (e4.out.fr FV (fun e => e))
      have hsV : bx + 5 ≤ V.heap.size := by have := FV.size; omega
      clear FV PW0 HFW e4
      have HNG : Hid (∀ k, bx ≤ k → k < bx + 5 → k ≠ g) := Lib.hid (fun k h1 h2 e => PV.out.ng (by rw [← e]; exact Or.inr ⟨h1, h2⟩))
      replace h0 := hHeld.1
      replace h1 := hHeld.2.1
      replace h2 := hHeld.2.2.1
      replace h3 := hHeld.2.2.2
      refine wpAnyH_take (i := 0) (oi := ⟨some 12, _, _, _, _, none⟩) (v := ?v21) rfl (by kernel_rfl) (by kernel_rfl) (by kernel_rfl) (fun _ _ _ h => h) (Or.inl ⟨by rfl, ?hy21⟩) (by assumption) ?rest21
      case hy21 => (intro wS hSw; (try dsimp only at hSw); go_simp; (try with_reducible rfl))
      (try simp only [Act.put, zA, zB, zC])
      refine wpAnyH_take (i := 1) (oi := ⟨some 13, _, _, _, _, none⟩) (v := ?v22) rfl (by kernel_rfl) (by kernel_rfl) (by kernel_rfl) (fun _ _ _ h => h) (Or.inl ⟨by rfl, ?hy22⟩) (by assumption) ?rest22
      case hy22 => (intro wS hSw; (try dsimp only at hSw); go_simp; (try with_reducible rfl))
      (try simp only [Act.put, zA, zB, zC])
      refine wpAnyH_take (i := 11) (oi := ⟨some 23, _, _, _, _, none⟩) (v := ?v23) rfl (by kernel_rfl) (by kernel_rfl) (by kernel_rfl) (fun _ _ _ h => h) (Or.inl ⟨by rfl, ?hy23⟩) (by assumption) ?rest23
      case hy23 => (intro wS hSw; (try dsimp only at hSw); go_simp; (try with_reducible rfl))
      (try simp only [Act.put, zA, zB, zC])
      refine wpAnyH_ready (rs := [2]) (by kernel_rfl) (by simp) ?_
      refine AllReadyH.cons (o := ⟨some 14, _, _, _, _, none⟩) rfl (fun K hK => ?_) AllReadyH.nil
      go_simp
      go_at_call 27
      refine (pwname_any x V hx).mono ?_
      rintro e w0 ⟨rfl, rfl⟩
      rw [HNM.out]
      go_wp2_with fail
      refine hK.out _ _ (by exact ⟨h0, h1, h2, h3⟩) (fun hHeld => ?_)
      clear hK K
      (try simp only [Act.put, zA, zB, zC])
      refine wpAnyH_take (i := 3) (oi := ⟨some 15, _, _, _, _, none⟩) (v := ?v24) rfl (by kernel_rfl) (by kernel_rfl) (by kernel_rfl) (fun _ _ _ h => h) (Or.inl ⟨by rfl, ?hy24⟩) (by assumption) ?rest24
      case hy24 => (intro wS hSw; (try dsimp only at hSw); go_simp; (try with_reducible rfl))
      (try simp only [Act.put, zA, zB, zC])
      refine wpAnyH_take (i := 4) (oi := ⟨some 16, _, _, _, _, some (3, true)⟩) (v := ?v25) rfl (by kernel_rfl) (by kernel_rfl) (by kernel_rfl) (fun _ _ _ h => h) (Or.inl ⟨by rfl, ?hy25⟩) (by assumption) ?rest25
      case hy25 => (intro wS hSw; (try dsimp only at hSw); go_simp; (try with_reducible rfl))
      (try simp only [Act.put, zA, zB, zC])
      refine wpAnyH_take (i := 5) (oi := ⟨some 17, _, _, _, _, some (3, true)⟩) (v := ?v26) rfl (by kernel_rfl) (by kernel_rfl) (by kernel_rfl) (fun _ _ _ h => h) (Or.inl ⟨by rfl, ?hy26⟩) (by assumption) ?rest26
      case hy26 => (intro wS hSw; (try dsimp only at hSw); go_simp; (try with_reducible rfl))
      (try simp only [Act.put, zA, zB, zC])
      refine wpAnyH_take (i := 6) (oi := ⟨some 18, _, _, _, _, none⟩) (v := ?v27) rfl (by kernel_rfl) (by kernel_rfl) (by kernel_rfl) (fun _ _ _ h => h) (Or.inl ⟨by rfl, ?hy27⟩) (by assumption) ?rest27
      case hy27 => (intro wS hSw; (try dsimp only at hSw); go_simp; (try with_reducible rfl))
      (try simp only [Act.put, zA, zB, zC])
      refine wpAnyH_take (i := 7) (oi := ⟨some 19, _, _, _, _, none⟩) (v := ?v28) rfl (by kernel_rfl) (by kernel_rfl) (by kernel_rfl) (fun _ _ _ h => h) (Or.inl ⟨by rfl, ?hy28⟩) (by assumption) ?rest28
      case hy28 => (intro wS hSw; (try dsimp only at hSw); go_simp; (try with_reducible rfl))
      (try simp only [Act.put, zA, zB, zC])
      refine wpAnyH_take (i := 8) (oi := ⟨some 20, _, _, _, _, some (7, true)⟩) (v := undef) rfl (by kernel_rfl) (by kernel_rfl) (by kernel_rfl) (fun _ _ _ h => h) (Or.inr ⟨by rfl, rfl⟩) (by assumption) ?_
      (try simp only [Act.put, zA, zB, zC])
      refine wpAnyH_take (i := 9) (oi := ⟨some 21, _, _, _, _, some (7, true)⟩) (v := undef) rfl (by kernel_rfl) (by kernel_rfl) (by kernel_rfl) (fun _ _ _ h => h) (Or.inr ⟨by rfl, rfl⟩) (by assumption) ?_
      (try simp only [Act.put, zA, zB, zC])
      refine wpAnyH_take (i := 10) (oi := ⟨some 22, _, _, _, _, none⟩) (v := ?v29) rfl (by kernel_rfl) (by kernel_rfl) (by kernel_rfl) (fun _ _ _ h => h) (Or.inl ⟨by rfl, ?hy29⟩) (by assumption) ?rest29
      case hy29 => (intro wS hSw; (try dsimp only at hSw); go_simp; (try with_reducible rfl))
      (try simp only [Act.put, zA, zB, zC])
      refine wpAnyH_ready (rs := [12]) (by kernel_rfl) (by simp) ?_
      refine AllReadyH.cons (o := ⟨some 24, _, _, _, _, none⟩) rfl (fun K hK => ?_) AllReadyH.nil
      go_simp
      go_at_call 29
      refine (pwreq_any PV.out _ 42 #[ptr bx, ptr (bx + 1), ptr (bx + 2), ptr (bx + 3), ptr (bx + 4)] (fun r W' => ∃ W0, Fr (One g) V W0 ∧ GotEnd (avR av bx (bx + 5)) n g (bx + 4) W0 (faultS (stepS s).2) (partS (faultS (stepS s).2) x o k) r W') Try.call42 (fun W' hok hf hp => ?_)).mono ?_
      · have hb := HOK.out.1 hok
        have hoo := HO.out
        have hkk := HK.out
        refine (pwdoget_any hp x hx o k ⟨by omega, by omega⟩ ⟨by omega, by omega⟩ bx (bx + 1) (bx + 2) (bx + 3) (bx + 4) (Or.inr ⟨by omega, by omega⟩) ((hf.cell (p := ⟨bx, 0, none⟩) (by show _ < V.heap.size; dsimp only; omega) (HNG.out (bx) (by omega) (by omega))).trans h0) ((hf.cell (p := ⟨bx + 1, 0, none⟩) (by show _ < V.heap.size; dsimp only; omega) (HNG.out (bx + 1) (by omega) (by omega))).trans h1) ((hf.cell (p := ⟨bx + 2, 0, none⟩) (by show _ < V.heap.size; dsimp only; omega) (HNG.out (bx + 2) (by omega) (by omega))).trans h2) ((hf.cell (p := ⟨bx + 3, 0, none⟩) (by show _ < V.heap.size; dsimp only; omega) (HNG.out (bx + 3) (by omega) (by omega))).trans h3) (HB4.out.fr hf (fun e => HNG.out (bx + 4) (by omega) (by omega) e))).mono ?_
        rintro e w' ⟨z, rfl, hz⟩
        exact ⟨z, rfl, W', hf, hz⟩
      intro e w5 hR
      obtain ⟨z, rfl, HMX⟩ := get_mid HOK.out (fun q hq => Or.inl hq) (fun q hq => by have := HAV.out q hq; omega) HG.out (fun h => by have := HAV.out _ h; omega) HFV.out hR
      rw [HR.out] at HMX
      obtain ⟨F5, HM⟩ := HMX
      clear hR
      have HM := Lib.hid HM
      have j0 : w5.cell? ⟨bx, 0, none⟩ = some (ptr g) := (F5.cell (p := ⟨bx, 0, none⟩) (by show _ < V.heap.size; dsimp only; omega) (fun h => h.elim (HNG.out (bx) (by omega) (by omega)) (fun h => by have h : bx = bx + 4 := h; omega))).trans h0
      have j1 : w5.cell? ⟨bx + 1, 0, none⟩ = some (.string ⟨x.toArray⟩) := (F5.cell (p := ⟨bx + 1, 0, none⟩) (by show _ < V.heap.size; dsimp only; omega) (fun h => h.elim (HNG.out (bx + 1) (by omega) (by omega)) (fun h => by have h : bx + 1 = bx + 4 := h; omega))).trans h1
      have j2 : w5.cell? ⟨bx + 2, 0, none⟩ = some (.int .i64 o) := (F5.cell (p := ⟨bx + 2, 0, none⟩) (by show _ < V.heap.size; dsimp only; omega) (fun h => h.elim (HNG.out (bx + 2) (by omega) (by omega)) (fun h => by have h : bx + 2 = bx + 4 := h; omega))).trans h2
      have j3 : w5.cell? ⟨bx + 3, 0, none⟩ = some (.int .i64 k) := (F5.cell (p := ⟨bx + 3, 0, none⟩) (by show _ < V.heap.size; dsimp only; omega) (fun h => h.elim (HNG.out (bx + 3) (by omega) (by omega)) (fun h => by have h : bx + 3 = bx + 4 := h; omega))).trans h3
      clear F5
      go_wp2_with fail
      refine hK.out _ _ (by exact ⟨j0, j1, j2, j3⟩) (fun hHeld => ?_)
      clear hK K
      (try simp only [Act.put, zA, zB, zC])
      refine wpAnyH_take (i := 13) (oi := ⟨some 11, _, _, _, _, none⟩) (v := ?v30) rfl (by kernel_rfl) (by kernel_rfl) (by kernel_rfl) (fun _ _ _ h => h) (Or.inl ⟨by rfl, ?hy30⟩) (by assumption) ?rest30
      case hy30 => (intro wS hSw; (try dsimp only at hSw); go_simp; (try with_reducible rfl))
      (try simp only [Act.put, zA, zB, zC])
      refine wpAnyH_done (by kernel_rfl) ?_ _
      clear hHeld j0 j1 j2 j3 h0 h1 h2 h3
      rcases HM.out with ⟨hz, HE⟩ | ⟨rfl, u, hu, HE⟩
      · have z1 : (z == 0) = false := by rw [beq_eq_false_iff_ne]; exact hz
        have z2 : (z != 0) = true := by rw [bne, z1]; rfl
        have HE := Lib.hid HE
        clear hz HM
        go_wp2
        go_ret2
        exact HE.out
      · have HE := Lib.hid HE
        clear HM
        go_wp2
        go_ret2
        exact HE.out
theorem pwget_any {av : Nat → Prop} {n : Nat} {w : World} {g : Nat} {s : Wst} (p : PW av n w g s) (hav : ∀ k, av k → k < w.heap.size) (x : Tx) (hx : x.length ≤ 1000000000) (o k : Int) (ho : -9223372036854775808 ≤ o ∧ o ≤ 9223372036854775807) (hk : -9223372036854775808 ≤ k ∧ k ≤ 9223372036854775807) :
    Calls Try.prog 14 #[ptr g, .string ⟨x.toArray⟩, .int .i64 o, .int .i64 k] w fun e w' => (∃ u, e = .returned (.tuple #[u, .int .i64 (getN s x o k)]) ∧ Bs w' u (getB s x o k) ∧ ∀ q, u.ownBlock = some q → ¬ av q) ∧ PW av n w' g (getS s x o k) ∧ Fr (fun k => ¬ av k) w w' :=
  pwgetR_any p hav x hx o k ho hk
end Go.Proofs.Ytpepapadbmkjiaa

namespace Go.Proofs.Ytpepapadbmkjiaa
def lay_has_ren : Go.Shelf.Ren := ⟨fun | 99 => 55 | 206 => 57 | n => n, fun | 9 => 9 | 4 => 4 | 3 => 3 | n => n, fun | n => n⟩
theorem lay_has : Go.Proofs.Lays.n99 Try.prog lay_has_ren := {
  mixed := by kernel_rfl
  f99 := Try.func55.trans (congrArg some (by kernel_rfl))
  f206 := Try.func57.trans (congrArg some (by kernel_rfl))
  t3 := Try.underlying3
  a3 := Try.isAgg3
  z3 := Try.sizeOf3
  v3 := Try.zeroValue3
  t4 := Try.underlying4
  a4 := Try.isAgg4
  z4 := Try.sizeOf4
  v4 := Try.zeroValue4
  t9 := Try.underlying9
  a9 := Try.isAgg9
  z9 := Try.sizeOf9
  v9 := Try.zeroValue9 }
def lay_srt_ren : Go.Shelf.Ren := ⟨fun | 190 => 56 | 125 => 59 | 258 => 58 | 128 => 69 | 129 => 70 | 302 => 60 | 303 => 61 | 304 => 62 | 305 => 63 | 306 => 64 | 307 => 65 | 308 => 66 | 309 => 67 | 310 => 68 | 333 => 71 | 329 => 72 | 330 => 73 | 334 => 74 | 335 => 75 | 336 => 76 | 344 => 77 | n => n, fun | 31 => 46 | 9 => 9 | 3 => 3 | 46 => 81 | 0 => 0 | 51 => 90 | 53 => 92 | 4 => 4 | 183 => 84 | 182 => 83 | 131 => 49 | 5 => 5 | 218 => 93 | 222 => 97 | 228 => 99 | 229 => 100 | n => n, fun | n => n⟩
theorem lay_srt : Go.Proofs.Lays.n190 Try.prog lay_srt_ren := {
  mixed := by kernel_rfl
  f125 := Try.func59.trans (congrArg some (by kernel_rfl))
  f128 := Try.func69.trans (congrArg some (by kernel_rfl))
  f129 := Try.func70.trans (congrArg some (by kernel_rfl))
  f190 := Try.func56.trans (congrArg some (by kernel_rfl))
  f258 := Try.func58.trans (congrArg some (by kernel_rfl))
  f302 := Try.func60.trans (congrArg some (by kernel_rfl))
  f303 := Try.func61.trans (congrArg some (by kernel_rfl))
  f304 := Try.func62.trans (congrArg some (by kernel_rfl))
  f305 := Try.func63.trans (congrArg some (by kernel_rfl))
  f306 := Try.func64.trans (congrArg some (by kernel_rfl))
  f307 := Try.func65.trans (congrArg some (by kernel_rfl))
  f308 := Try.func66.trans (congrArg some (by kernel_rfl))
  f309 := Try.func67.trans (congrArg some (by kernel_rfl))
  f310 := Try.func68.trans (congrArg some (by kernel_rfl))
  f329 := Try.func72.trans (congrArg some (by kernel_rfl))
  f330 := Try.func73.trans (congrArg some (by kernel_rfl))
  f333 := Try.func71.trans (congrArg some (by kernel_rfl))
  f334 := Try.func74.trans (congrArg some (by kernel_rfl))
  f335 := Try.func75.trans (congrArg some (by kernel_rfl))
  f336 := Try.func76.trans (congrArg some (by kernel_rfl))
  f344 := Try.func77.trans (congrArg some (by kernel_rfl))
  t0 := Try.underlying0
  a0 := Try.isAgg0
  z0 := Try.sizeOf0
  v0 := Try.zeroValue0
  t3 := Try.underlying3
  a3 := Try.isAgg3
  z3 := Try.sizeOf3
  v3 := Try.zeroValue3
  t4 := Try.underlying4
  a4 := Try.isAgg4
  z4 := Try.sizeOf4
  v4 := Try.zeroValue4
  t5 := Try.underlying5
  a5 := Try.isAgg5
  z5 := Try.sizeOf5
  v5 := Try.zeroValue5
  t9 := Try.underlying9
  a9 := Try.isAgg9
  z9 := Try.sizeOf9
  v9 := Try.zeroValue9
  t31 := Try.underlying46
  a31 := Try.isAgg46
  z31 := Try.sizeOf46
  v31 := Try.zeroValue46
  t46 := Try.underlying81
  a46 := Try.isAgg81
  z46 := Try.sizeOf81
  v46 := Try.zeroValue81
  t51 := Try.underlying90
  a51 := Try.isAgg90
  z51 := Try.sizeOf90
  v51 := Try.zeroValue90
  t53 := Try.underlying92
  a53 := Try.isAgg92
  z53 := Try.sizeOf92
  v53 := Try.zeroValue92
  t131 := Try.underlying49
  a131 := Try.isAgg49
  z131 := Try.sizeOf49
  v131 := Try.zeroValue49
  t182 := Try.underlying83
  a182 := Try.isAgg83
  z182 := Try.sizeOf83
  v182 := Try.zeroValue83
  t183 := Try.underlying84
  a183 := Try.isAgg84
  z183 := Try.sizeOf84
  v183 := Try.zeroValue84
  t218 := Try.underlying93
  a218 := Try.isAgg93
  z218 := Try.sizeOf93
  v218 := Try.zeroValue93
  t222 := Try.underlying97
  a222 := Try.isAgg97
  z222 := Try.sizeOf97
  v222 := Try.zeroValue97
  t228 := Try.underlying99
  a228 := Try.isAgg99
  z228 := Try.sizeOf99
  v228 := Try.zeroValue99
  t229 := Try.underlying100
  a229 := Try.isAgg100
  z229 := Try.sizeOf100
  v229 := Try.zeroValue100 }
end Go.Proofs.Ytpepapadbmkjiaa
