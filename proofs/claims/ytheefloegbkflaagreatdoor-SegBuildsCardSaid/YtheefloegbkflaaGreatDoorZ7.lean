/-
  Joined: Layer 11: a zone's bytes, both programs'. · Layer 11: the closure that notes a cell in a zone. · Layer 11: the zone of a list's cells, the program's. · Layer 9: a cell read, both programs'. · Layer 11: a zone read, the program's. · Layer 9: a cell read by the document's own source. · Layer 11: a zone read, the document's. · Layer 9: a cell's bytes are read as it. A region that draws, walked by hand: what all steps keep, made stronger midway. · Layer 13: a segment's bytes, and what is read of bytes; what is built is read again; nothing of the program.
-/
import Derived.Deep.RegionHeld3
import Derived.Test.YtheefloegbkflaaGreatDoorZ6
import Derived.Test.YtheefloegbkflaaGreatDoorZ3
import Derived.Test.YtheefloegbkflaaGreatDoorZ2
import Derived.Test.YtheefloegbkflaaGreatDoorZ1
import Derived.WalkMore

namespace Go.Proofs.YtheefloegbkflaaGreatDoor
set_option linter.unusedVariables false
set_option linter.unusedSimpArgs false
set_option maxRecDepth 100000
open Go.RowKit

/-- a zone's bytes -/
def zoneB (ty : Int) (z : Zn) : List UInt8 :=
  if mayZ ty z = true then (Lib.uvarint z.rows.toNat ++ Lib.uvarint z.nulls.toNat) ++ (if bndZ z = true then cellB ty z.low ++ cellB ty z.high else []) else []
theorem zoneB_no {ty : Int} {z : Zn} (h : mayZ ty z = false) : zoneB ty z = [] := by unfold zoneB; rw [h]; rfl
theorem zoneB_none {ty : Int} {z : Zn} (h : mayZ ty z = true) (hb : bndZ z = false) : zoneB ty z = Lib.uvarint z.rows.toNat ++ Lib.uvarint z.nulls.toNat := by unfold zoneB; rw [h, hb]; simp
theorem zoneB_some {ty : Int} {z : Zn} (h : mayZ ty z = true) (hb : bndZ z = true) : zoneB ty z = ((Lib.uvarint z.rows.toNat ++ Lib.uvarint z.nulls.toNat) ++ cellB ty z.low) ++ cellB ty z.high := by unfold zoneB; rw [h, hb]; simp
theorem mayZ_cnt {ty : Int} {z : Zn} (h : mayZ ty z = true) : 0 ≤ z.nulls ∧ z.nulls ≤ z.rows ∧ z.rows ≤ 4096 := by
  rw [mayZ_is] at h
  have : cntZ z = true := by revert h; cases cntZ z <;> simp
  exact of_decide_eq_true this
theorem cellB_lt {ty : Int} {c : Cl} (h : ClOk c) : (cellB ty c).length < 2097152 := by
  have h1 := Lib.uvarint_length64 (zig_lt h.lo h.hi)
  have h2 := textB_lt h.len
  unfold cellB
  split
  · simp
  · split
    · simp; omega
    · split
      · simp; omega
      · simp

set_option maxHeartbeats 4000000 in
theorem zput_any (ty : Int) (z : Zn) (w : World) (hlo : ClOk z.low) (hhi : ClOk z.high) :
    Calls Tryz.prog 30 #[.int .i64 ty, znV z] w fun e w' => ∃ v, e = .returned v ∧ Own w' w.heap.size v (zoneB ty z) ∧ Fr Non w w' := by
  have h0 : ZnB (w.alloc (.cells (znC z) 56)) w.heap.size z := Blk.new _ _ _
  have F0 : Fr Non w _ := (Fr.refl Non w).alloc (.cells (znC z) 56)
  have M1 := fun W => zmay_any ty z W
  have B1 := fun W => bnd_any z W
  cases hm : mayZ ty z
  · have HE := Lib.hid (zoneB_no hm)
    rw [hm] at M1
    unfold znV znC at *
    clear h0 hm B1
    replace F0 := Lib.hid F0
    go_enter Tryz.func30, Tryz.ntmps30
    go_wp2_with fail
    refine (M1 _).mono ?_
    rintro e w1 ⟨rfl, f1⟩
    go_wp2
    go_ret
    exact ⟨_, rfl, by rw [HE.out]; exact own_nil _ _, F0.out.trans f1⟩
  · obtain ⟨q1, q2, q3⟩ := mayZ_cnt hm
    have HN := Lib.hid (fun hb => zoneB_none (ty := ty) (z := z) hm hb)
    have HS := Lib.hid (fun hb => zoneB_some (ty := ty) (z := z) hm hb)
    rw [hm] at M1
    clear hm
    obtain ⟨r, n, lo, hi⟩ := z
    dsimp only at q1 q2 q3 hlo hhi
    obtain ⟨n, rfl⟩ := Int.eq_ofNat_of_zero_le q1
    obtain ⟨r, rfl⟩ := Int.eq_ofNat_of_zero_le (show 0 ≤ r by omega)
    have N1 := Lib.hid (fun W => vnum_any r W (by unfold two64; omega))
    have N2 := Lib.hid (fun W => vnum_any n W (by unfold two64; omega))
    have L1 := Lib.uvarint_length64 (show r < 18446744073709551616 by omega)
    have L2 := Lib.uvarint_length64 (show n < 18446744073709551616 by omega)
    have L3 := cellB_lt (ty := ty) hlo
    have L4 := cellB_lt (ty := ty) hhi
    have e1 : IntKind.u64.wrap (r : Int) = r := IntWalk.u64_in _ ⟨by omega, by omega⟩
    have e2 : IntKind.u64.wrap (n : Int) = n := IntWalk.u64_in _ ⟨by omega, by omega⟩
    replace hlo := Lib.hid hlo
    replace hhi := Lib.hid hhi
    unfold znV znC at *
    dsimp only [Int.toNat_natCast] at HN HS
    clear q1 q2 q3
    replace F0 := Lib.hid F0
    replace h0 : Hid (ZnB _ _ _) := Lib.hid h0
    go_enter Tryz.func30, Tryz.ntmps30
    go_wp2_with fail
    refine (M1 _).mono ?_
    rintro e w1 ⟨rfl, f1⟩
    have h1 : ZnB _ _ _ := h0.out.fr f1 (fun e => e)
    have F1 := F0.out.trans f1
    clear h0 F0 f1 M1
    have HB1 := Lib.hid (show w.heap.size + 1 ≤ w1.drew.heap.size from h1.lt)
    generalize hR : w.heap.size = R at *
    go_wp2
    have hD : ZnB w1.drew R _ := h1
    have FD := F1.drew
    have c0 : w1.drew.cell? ⟨R, 0, none⟩ = some (.int .i64 r) := hD.cell 0
    have c1 : w1.drew.cell? ⟨R, 1, none⟩ = some (.int .i64 n) := hD.cell 1
    clear h1 F1
    replace hD : Hid (ZnB _ _ _) := Lib.hid hD
    replace FD := Lib.hid FD
    go_region_held3 (fun W => W.cell? ⟨R, 0, none⟩ = some (.int .i64 r) ∧ W.cell? ⟨R, 1, none⟩ = some (.int .i64 n)) (first | exact ⟨c0, c1⟩ | exact ⟨c2, c3⟩ | exact ⟨c4, c5⟩ | exact ⟨c6, c7⟩ | fail) (first | (go_at_call 26; (with_reducible refine (N1.out _).mono ?_); rintro e w2 ⟨v2, rfl, own2, f2⟩; have h2 : ZnB w2 R _ := hD.out.fr f2 (fun e => e); have F2 := FD.out.trans f2; have c2 : w2.cell? ⟨R, 0, none⟩ = some (.int .i64 r) := h2.cell 0; have c3 : w2.cell? ⟨R, 1, none⟩ = some (.int .i64 n) := h2.cell 1) | (go_at_call 26; (with_reducible refine (N2.out _).mono ?_); rintro e w3 ⟨v3, rfl, own3, f3⟩; have h3 : ZnB w3 R _ := h2.fr f3 (fun e => e); have F3 := F2.trans f3; have c4 : w3.cell? ⟨R, 0, none⟩ = some (.int .i64 r) := h3.cell 0; have c5 : w3.cell? ⟨R, 1, none⟩ = some (.int .i64 n) := h3.cell 1) | (refine step_app rfl (.tmp 13) (.tmp 17) (by rfl) (R + 1) v2 v3 (Lib.uvarint r) (Lib.uvarint n) (by rfl) ((own2.mono (HB1.out)).non f3) (by rfl) own3.bs (by omega) (Nat.le_trans HB1.out (Nat.le_trans f2.size f3.size)) ?_; intro v4 w4 own4 f4; have h4 : ZnB w4 R _ := h3.fr f4 (fun e => by have := (own2.lt R e).1; have := HB1.out; have : R + 1 ≤ w1.drew.heap.size := HB1.out; omega); have F4 := F3.fresh f4 (fun k hk => by have := (own2.lt k hk).1; have : R + 1 ≤ w1.drew.heap.size := HB1.out; omega); have c6 : w4.cell? ⟨R, 0, none⟩ = some (.int .i64 r) := h4.cell 0; have c7 : w4.cell? ⟨R, 1, none⟩ = some (.int .i64 n) := h4.cell 1))
    clear c0 c1 c2 c3 c4 c5 c6 c7 own2 own3 h2 h3 F2 F3 f2 f3 f4 hD FD N1 N2 e1 e2
    obtain ⟨a0, a1, a2, a3, a4, a5, a6, a7⟩ := znB_cells h4
    replace h4 : Hid (ZnB _ _ _) := Lib.hid h4
    replace F4 := Lib.hid F4
    replace own4 := Lib.hid own4
    go_wp2_with fail
    refine (B1 _).mono ?_
    rintro e w5 ⟨rfl, f5⟩
    have h5 : ZnB _ _ _ := h4.out.fr f5 (fun e => e)
    have F5 := F4.out.trans f5
    have own5 := own4.out.non f5
    clear h4 F4 own4 f5 a0 a1 a2 a3 a4 a5 a6 a7 B1
    cases hb : bndZ ⟨r, n, lo, hi⟩
    · replace HN := Lib.hid (HN.out hb)
      clear HS h5 HB1
      replace F5 := Lib.hid F5
      replace own5 := Lib.hid own5
      go_wp2
      go_ret
      exact ⟨v4, rfl, by rw [HN.out, hR]; exact own5.out.mono (by omega), F5.out⟩
    · replace HS := Lib.hid (HS.out hb)
      clear HN
      obtain ⟨a0, a1, a2, a3, a4, a5, a6, a7⟩ := znB_cells h5
      replace h5 : Hid (ZnB _ _ _) := Lib.hid h5
      have HB5 := F5.size
      replace F5 := Lib.hid F5
      replace own5 := Lib.hid own5
      have hs5 : Hid (R + 1 ≤ w5.heap.size) := Lib.hid h5.out.lt
      go_wp2_with fail
      refine (cput_any ty lo _ hlo.out).mono ?_
      rintro e w6 ⟨u6, rfl, ow6, f6⟩
      have h6 : ZnB _ _ _ := h5.out.fr f6 (fun e => e)
      have F6 := F5.out.trans f6
      have own6 := own5.out.non f6
      have hs6 : Hid (R + 1 ≤ w6.heap.size) := Lib.hid h6.lt
      clear h5 F5 own5 f6 hs5 a0 a1 a2 a3 a4 a5 a6 a7
      replace h6 : Hid (ZnB _ _ _) := Lib.hid h6
      replace F6 := Lib.hid F6
      go_wp2_with (at_builtin; refine wpList_app rfl (.tmp 21) (.tmp 25) rfl (R + 1) v4 u6 (Lib.uvarint r ++ Lib.uvarint n) (cellB ty lo) rfl own6 rfl ow6.bs (by rw [List.length_append]; omega) hs6.out ?_; intro v7 w7 own7 f7; have h7 : ZnB w7 R _ := h6.out.fr f7 (fun e => by have := (own6.lt R e).1; omega); have F7 := F6.out.fresh f7 (fun k hk => by have := (own6.lt k hk).1; omega); obtain ⟨a0, a1, a2, a3, a4, a5, a6, a7⟩ := znB_cells h7)
      refine (cput_any ty hi _ hhi.out).mono ?_
      rintro e w8 ⟨u8, rfl, ow8, f8⟩
      have F8 := F7.trans f8
      have own8 := own7.non f8
      have hs8 : Hid (R + 1 ≤ w8.heap.size) := Lib.hid (Nat.le_trans h7.lt f8.size)
      clear a0 a1 a2 a3 a4 a5 a6 a7 h7 F7 own7 f8 own6 ow6 h6 F6 hs6 f7
      replace F8 := Lib.hid F8
      go_wp2_with (at_builtin; refine wpList_app rfl (.tmp 27) (.tmp 31) rfl (R + 1) v7 u8 ((Lib.uvarint r ++ Lib.uvarint n) ++ cellB ty lo) (cellB ty hi) rfl own8 rfl ow8.bs (by rw [List.length_append, List.length_append]; omega) hs8.out ?_; intro v9 w9 own9 f9)
      have F9 := F8.out.fresh f9 (fun k hk => by have := (own8.lt k hk).1; omega)
      clear F8 f9 own8 ow8
      replace own9 := Lib.hid own9
      replace F9 := Lib.hid F9
      go_ret
      exact ⟨v9, rfl, by rw [HS.out, hR]; exact own9.out.mono (by omega), F9.out⟩

set_option maxHeartbeats 4000000 in
theorem rzput_any (ty : Int) (z : Zn) (w : World) (hlo : ClOk z.low) (hhi : ClOk z.high) :
    Calls Tryz.prog 37 #[.int .i64 ty, znV z] w fun e w' => ∃ v, e = .returned v ∧ Own w' w.heap.size v (zoneB ty z) ∧ Fr Non w w' := by
  have h0 : ZnB (w.alloc (.cells (znC z) 56)) w.heap.size z := Blk.new _ _ _
  have F0 : Fr Non w _ := (Fr.refl Non w).alloc (.cells (znC z) 56)
  have M1 := fun W => rzmay_any ty z W
  cases hm : mayZ ty z
  · have HE := Lib.hid (zoneB_no hm)
    rw [hm] at M1
    unfold znV znC at *
    clear h0 hm
    replace F0 := Lib.hid F0
    go_enter Tryz.func37, Tryz.ntmps37
    go_wp2_with fail
    refine (M1 _).mono ?_
    rintro e w1 ⟨rfl, f1⟩
    go_wp2
    go_ret
    exact ⟨_, rfl, by rw [HE.out]; exact own_nil _ _, F0.out.trans f1⟩
  · obtain ⟨q1, q2, q3⟩ := mayZ_cnt hm
    have HN := Lib.hid (fun hb => zoneB_none (ty := ty) (z := z) hm hb)
    have HS := Lib.hid (fun hb => zoneB_some (ty := ty) (z := z) hm hb)
    rw [hm] at M1
    clear hm
    obtain ⟨r, n, lo, hi⟩ := z
    dsimp only at q1 q2 q3 hlo hhi
    obtain ⟨n, rfl⟩ := Int.eq_ofNat_of_zero_le q1
    obtain ⟨r, rfl⟩ := Int.eq_ofNat_of_zero_le (show 0 ≤ r by omega)
    have N1 := Lib.hid (fun W => rnum_any r W (by unfold two64; omega))
    have N2 := Lib.hid (fun W => rnum_any n W (by unfold two64; omega))
    have L1 := Lib.uvarint_length64 (show r < 18446744073709551616 by omega)
    have L2 := Lib.uvarint_length64 (show n < 18446744073709551616 by omega)
    have L3 := cellB_lt (ty := ty) hlo
    have L4 := cellB_lt (ty := ty) hhi
    have e1 : IntKind.u64.wrap (r : Int) = r := IntWalk.u64_in _ ⟨by omega, by omega⟩
    have e2 : IntKind.u64.wrap (n : Int) = n := IntWalk.u64_in _ ⟨by omega, by omega⟩
    replace hlo := Lib.hid hlo
    replace hhi := Lib.hid hhi
    unfold znV znC at *
    dsimp only [Int.toNat_natCast] at HN HS
    clear q1 q2 q3
    replace F0 := Lib.hid F0
    replace h0 : Hid (ZnB _ _ _) := Lib.hid h0
    go_enter Tryz.func37, Tryz.ntmps37
    go_wp2_with fail
    refine (M1 _).mono ?_
    rintro e w1 ⟨rfl, f1⟩
    have h1 : ZnB _ _ _ := h0.out.fr f1 (fun e => e)
    have F1 := F0.out.trans f1
    clear h0 F0 f1 M1
    have HB1 := Lib.hid (show w.heap.size + 1 ≤ w1.drew.heap.size from h1.lt)
    generalize hR : w.heap.size = R at *
    go_wp2
    have hD : ZnB w1.drew R _ := h1
    have FD := F1.drew
    have c0 : w1.drew.cell? ⟨R, 0, none⟩ = some (.int .i64 r) := hD.cell 0
    have c1 : w1.drew.cell? ⟨R, 1, none⟩ = some (.int .i64 n) := hD.cell 1
    clear h1 F1
    replace hD : Hid (ZnB _ _ _) := Lib.hid hD
    replace FD := Lib.hid FD
    go_region_held3 (fun W => W.cell? ⟨R, 0, none⟩ = some (.int .i64 r) ∧ W.cell? ⟨R, 1, none⟩ = some (.int .i64 n)) (first | exact ⟨c0, c1⟩ | exact ⟨c2, c3⟩ | exact ⟨c4, c5⟩ | exact ⟨c6, c7⟩ | fail) (first | (go_at_call 34; (with_reducible refine (N1.out _).mono ?_); rintro e w2 ⟨v2, rfl, own2, f2⟩; have h2 : ZnB w2 R _ := hD.out.fr f2 (fun e => e); have F2 := FD.out.trans f2; have c2 : w2.cell? ⟨R, 0, none⟩ = some (.int .i64 r) := h2.cell 0; have c3 : w2.cell? ⟨R, 1, none⟩ = some (.int .i64 n) := h2.cell 1) | (go_at_call 34; (with_reducible refine (N2.out _).mono ?_); rintro e w3 ⟨v3, rfl, own3, f3⟩; have h3 : ZnB w3 R _ := h2.fr f3 (fun e => e); have F3 := F2.trans f3; have c4 : w3.cell? ⟨R, 0, none⟩ = some (.int .i64 r) := h3.cell 0; have c5 : w3.cell? ⟨R, 1, none⟩ = some (.int .i64 n) := h3.cell 1) | (refine step_app rfl (.tmp 13) (.tmp 17) (by rfl) (R + 1) v2 v3 (Lib.uvarint r) (Lib.uvarint n) (by rfl) ((own2.mono (HB1.out)).non f3) (by rfl) own3.bs (by omega) (Nat.le_trans HB1.out (Nat.le_trans f2.size f3.size)) ?_; intro v4 w4 own4 f4; have h4 : ZnB w4 R _ := h3.fr f4 (fun e => by have := (own2.lt R e).1; have := HB1.out; have : R + 1 ≤ w1.drew.heap.size := HB1.out; omega); have F4 := F3.fresh f4 (fun k hk => by have := (own2.lt k hk).1; have : R + 1 ≤ w1.drew.heap.size := HB1.out; omega); have c6 : w4.cell? ⟨R, 0, none⟩ = some (.int .i64 r) := h4.cell 0; have c7 : w4.cell? ⟨R, 1, none⟩ = some (.int .i64 n) := h4.cell 1))
    clear c0 c1 c2 c3 c4 c5 c6 c7 own2 own3 h2 h3 F2 F3 f2 f3 f4 hD FD N1 N2 e1 e2
    by_cases hb : (n : Int) < r
    · have hbz : bndZ ⟨r, n, lo, hi⟩ = true := decide_eq_true hb
      replace HS := Lib.hid (HS.out hbz)
      clear HN hbz
      obtain ⟨a0, a1, a2, a3, a4, a5, a6, a7⟩ := znB_cells h4
      replace h4 : Hid (ZnB _ _ _) := Lib.hid h4
      replace F4 := Lib.hid F4
      replace own4 := Lib.hid own4
      go_wp2
      clear a0 a1 a2 a3 a4 a5 a6 a7
      have hD : ZnB w4.drew R _ := h4.out
      have FD := F4.out.drew
      have ownD : Own w4.drew (R + 1) v4 _ := own4.out
      have hsD : R + 1 ≤ w4.drew.heap.size := hD.lt
      have t0 : w4.drew.cell? ⟨R, 2, none⟩ = some (.bool lo.null) := hD.cell 2
      have t1 : w4.drew.cell? ⟨R, 3, none⟩ = some (.int .i64 lo.num) := hD.cell 3
      have t2 : w4.drew.cell? ⟨R, 4, none⟩ = some (.string ⟨lo.txt.toArray⟩) := hD.cell 4
      have t3 : w4.drew.cell? ⟨R, 5, none⟩ = some (.bool hi.null) := hD.cell 5
      have t4 : w4.drew.cell? ⟨R, 6, none⟩ = some (.int .i64 hi.num) := hD.cell 6
      have t5 : w4.drew.cell? ⟨R, 7, none⟩ = some (.string ⟨hi.txt.toArray⟩) := hD.cell 7
      clear h4 F4 own4
      replace hD : Hid (ZnB _ _ _) := Lib.hid hD
      replace FD := Lib.hid FD
      replace ownD := Lib.hid ownD
      have P1 := Lib.hid (fun W => rcput_any ty lo W hlo.out)
      have P2 := Lib.hid (fun W => rcput_any ty hi W hhi.out)
      unfold clV clC at P1 P2
      go_region_held3 (fun W => W.cell? ⟨R, 2, none⟩ = some (.bool lo.null) ∧ W.cell? ⟨R, 3, none⟩ = some (.int .i64 lo.num) ∧ W.cell? ⟨R, 4, none⟩ = some (.string ⟨lo.txt.toArray⟩) ∧ W.cell? ⟨R, 5, none⟩ = some (.bool hi.null) ∧ W.cell? ⟨R, 6, none⟩ = some (.int .i64 hi.num) ∧ W.cell? ⟨R, 7, none⟩ = some (.string ⟨hi.txt.toArray⟩)) (first | exact ⟨t0, t1, t2, t3, t4, t5⟩ | exact ⟨b0, b1, b2, b3, b4, b5⟩ | exact ⟨c0, c1, c2, c3, c4, c5⟩ | exact ⟨d0, d1, d2, d3, d4, d5⟩ | exact ⟨e0, e1, e2, e3, e4, e5⟩ | fail) (first | (go_at_call 70; (with_reducible refine (P1.out _).mono ?_); rintro e w5 ⟨u5, rfl, ow5, f5⟩; have h5 : ZnB w5 R _ := hD.out.fr f5 (fun e => e); have F5 := FD.out.trans f5; have own5 := ownD.out.non f5; have b0 : w5.cell? ⟨R, 2, none⟩ = some (.bool lo.null) := h5.cell 2; have b1 : w5.cell? ⟨R, 3, none⟩ = some (.int .i64 lo.num) := h5.cell 3; have b2 : w5.cell? ⟨R, 4, none⟩ = some (.string ⟨lo.txt.toArray⟩) := h5.cell 4; have b3 : w5.cell? ⟨R, 5, none⟩ = some (.bool hi.null) := h5.cell 5; have b4 : w5.cell? ⟨R, 6, none⟩ = some (.int .i64 hi.num) := h5.cell 6; have b5 : w5.cell? ⟨R, 7, none⟩ = some (.string ⟨hi.txt.toArray⟩) := h5.cell 7) | (refine step_app rfl (.tmp 24) (.tmp 28) (by rfl) (R + 1) v4 u5 (Lib.uvarint r ++ Lib.uvarint n) (cellB ty lo) (by rfl) own5 (by rfl) ow5.bs (by rw [List.length_append]; omega) h5.lt ?_; intro v6 w6 own6 f6; have h6 : ZnB w6 R _ := h5.fr f6 (fun e => by have := (own5.lt R e).1; omega); have F6 := F5.fresh f6 (fun k hk => by have := (own5.lt k hk).1; omega); have c0 : w6.cell? ⟨R, 2, none⟩ = some (.bool lo.null) := h6.cell 2; have c1 : w6.cell? ⟨R, 3, none⟩ = some (.int .i64 lo.num) := h6.cell 3; have c2 : w6.cell? ⟨R, 4, none⟩ = some (.string ⟨lo.txt.toArray⟩) := h6.cell 4; have c3 : w6.cell? ⟨R, 5, none⟩ = some (.bool hi.null) := h6.cell 5; have c4 : w6.cell? ⟨R, 6, none⟩ = some (.int .i64 hi.num) := h6.cell 6; have c5 : w6.cell? ⟨R, 7, none⟩ = some (.string ⟨hi.txt.toArray⟩) := h6.cell 7) | (go_at_call 70; (with_reducible refine (P2.out _).mono ?_); rintro e w7 ⟨u7, rfl, ow7, f7⟩; have h7 : ZnB w7 R _ := h6.fr f7 (fun e => e); have F7 := F6.trans f7; have own7 := own6.non f7; have d0 : w7.cell? ⟨R, 2, none⟩ = some (.bool lo.null) := h7.cell 2; have d1 : w7.cell? ⟨R, 3, none⟩ = some (.int .i64 lo.num) := h7.cell 3; have d2 : w7.cell? ⟨R, 4, none⟩ = some (.string ⟨lo.txt.toArray⟩) := h7.cell 4; have d3 : w7.cell? ⟨R, 5, none⟩ = some (.bool hi.null) := h7.cell 5; have d4 : w7.cell? ⟨R, 6, none⟩ = some (.int .i64 hi.num) := h7.cell 6; have d5 : w7.cell? ⟨R, 7, none⟩ = some (.string ⟨hi.txt.toArray⟩) := h7.cell 7) | (refine step_app rfl (.tmp 29) (.tmp 33) (by rfl) (R + 1) v6 u7 ((Lib.uvarint r ++ Lib.uvarint n) ++ cellB ty lo) (cellB ty hi) (by rfl) own7 (by rfl) ow7.bs (by rw [List.length_append, List.length_append]; omega) h7.lt ?_; intro v8 w8 own8 f8; have h8 : ZnB w8 R _ := h7.fr f8 (fun e => by have := (own7.lt R e).1; omega); have F8 := F7.fresh f8 (fun k hk => by have := (own7.lt k hk).1; omega); have e0 : w8.cell? ⟨R, 2, none⟩ = some (.bool lo.null) := h8.cell 2; have e1 : w8.cell? ⟨R, 3, none⟩ = some (.int .i64 lo.num) := h8.cell 3; have e2 : w8.cell? ⟨R, 4, none⟩ = some (.string ⟨lo.txt.toArray⟩) := h8.cell 4; have e3 : w8.cell? ⟨R, 5, none⟩ = some (.bool hi.null) := h8.cell 5; have e4 : w8.cell? ⟨R, 6, none⟩ = some (.int .i64 hi.num) := h8.cell 6; have e5 : w8.cell? ⟨R, 7, none⟩ = some (.string ⟨hi.txt.toArray⟩) := h8.cell 7))
      have OE := Lib.hid own8
      have FE := Lib.hid F8
      clear t0 t1 t2 t3 t4 t5 b0 b1 b2 b3 b4 b5 c0 c1 c2 c3 c4 c5 d0 d1 d2 d3 d4 d5 e0 e1 e2 e3 e4 e5 own5 own6 own7 own8 ow5 ow7 h5 h6 h7 h8 F5 F6 F7 F8 f5 f6 f7 f8
      go_wp2
      go_ret
      exact ⟨v8, rfl, by rw [HS.out, hR]; exact OE.out.mono (by omega), FE.out⟩
    · have hbz : bndZ ⟨r, n, lo, hi⟩ = false := decide_eq_false hb
      replace HN := Lib.hid (HN.out hbz)
      clear HS hbz
      obtain ⟨a0, a1, a2, a3, a4, a5, a6, a7⟩ := znB_cells h4
      replace F4 := Lib.hid F4
      replace own4 := Lib.hid own4
      clear h4
      go_wp2
      go_ret
      exact ⟨v4, rfl, by rw [HN.out]; exact own4.out.mono (by omega), F4.out⟩
end Go.Proofs.YtheefloegbkflaaGreatDoor


namespace Go.Proofs.YtheefloegbkflaaGreatDoor
set_option linter.unusedVariables false
set_option linter.unusedSimpArgs false
set_option maxRecDepth 100000
open Go.RowKit

/-- a bound stored, as a walk spells it -/
def setLow (w : World) (g : Nat) (n : Bool) (i : Int) (t : List UInt8) : World := ((w.setCell ⟨g, 2, none⟩ (.bool n)).setCell ⟨g, 3, none⟩ (.int .i64 i)).setCell ⟨g, 4, none⟩ (.string ⟨t.toArray⟩)
def setHigh (w : World) (g : Nat) (n : Bool) (i : Int) (t : List UInt8) : World := ((w.setCell ⟨g, 5, none⟩ (.bool n)).setCell ⟨g, 6, none⟩ (.int .i64 i)).setCell ⟨g, 7, none⟩ (.string ⟨t.toArray⟩)
theorem setLow_B {w : World} {g : Nat} {z : Zn} (h : ZnB w g z) (c : Cl) : ZnB (setLow w g c.null c.num c.txt) g ⟨z.rows, z.nulls, c, z.high⟩ := ((Blk.set h 2 _).set 3 _).set 4 _
theorem setHigh_B {w : World} {g : Nat} {z : Zn} (h : ZnB w g z) (c : Cl) : ZnB (setHigh w g c.null c.num c.txt) g ⟨z.rows, z.nulls, z.low, c⟩ := ((Blk.set h 5 _).set 6 _).set 7 _
theorem setLow_fr (w : World) (g : Nat) (n : Bool) (i : Int) (t : List UInt8) : Fr (One g) w (setLow w g n i t) := (((Fr.refl (One g) w).set1 2 _).set1 3 _).set1 4 _
theorem setHigh_fr (w : World) (g : Nat) (n : Bool) (i : Int) (t : List UInt8) : Fr (One g) w (setHigh w g n i t) := (((Fr.refl (One g) w).set1 5 _).set1 6 _).set1 7 _
def TwoB (f g : Nat) : Nat → Prop := fun k => k = f ∨ k = g

/-- what the closure holds: whether nothing is noted yet, and where the zone lies -/
structure NoteAt (w : World) (f p g : Nat) (first : Bool) (z : Zn) : Prop where
  fb : Blk w f 4 #[.bool first]
  pb : Blk w p 109 #[ptr g]
  zb : ZnB w g z
theorem NoteAt.non {w w' : World} {f p g : Nat} {first : Bool} {z : Zn} (h : NoteAt w f p g first z) (hf : Fr Non w w') : NoteAt w' f p g first z :=
  ⟨h.fb.fr hf (fun e => e), h.pb.fr hf (fun e => e), h.zb.fr hf (fun e => e)⟩
theorem NoteAt.drew {w : World} {f p g : Nat} {first : Bool} {z : Zn} (h : NoteAt w f p g first z) : NoteAt w.drew f p g first z := ⟨h.fb, h.pb, h.zb⟩
theorem NoteAt.low {w : World} {f p g : Nat} {first : Bool} {z : Zn} (h : NoteAt w f p g first z) (hf : f ≠ g) (hp : p ≠ g) (c : Cl) : NoteAt (setLow w g c.null c.num c.txt) f p g first ⟨z.rows, z.nulls, c, z.high⟩ :=
  ⟨h.fb.fr (setLow_fr _ _ _ _ _) hf, h.pb.fr (setLow_fr _ _ _ _ _) hp, setLow_B h.zb c⟩
theorem NoteAt.high {w : World} {f p g : Nat} {first : Bool} {z : Zn} (h : NoteAt w f p g first z) (hf : f ≠ g) (hp : p ≠ g) (c : Cl) : NoteAt (setHigh w g c.null c.num c.txt) f p g first ⟨z.rows, z.nulls, z.low, c⟩ :=
  ⟨h.fb.fr (setHigh_fr _ _ _ _ _) hf, h.pb.fr (setHigh_fr _ _ _ _ _) hp, setHigh_B h.zb c⟩
theorem NoteAt.noted {w : World} {f p g : Nat} {first : Bool} {z : Zn} (h : NoteAt w f p g first z) (hp : p ≠ f) (hg : g ≠ f) : NoteAt (w.setCell ⟨f, 0, none⟩ (.bool false)) f p g false z :=
  ⟨h.fb.set 0 _, h.pb.fr ((Fr.refl (One f) w).set1 0 _) hp, h.zb.fr ((Fr.refl (One f) w).set1 0 _) hg⟩

theorem noteIn_any (g : Nat) (w : World) : Calls Tryz.prog 62 #[ptr g] w fun e w' => e = .returned (.func (.func 117) #[] #[ptr (w.heap.size + 1), ptr w.heap.size]) ∧
    Blk w' (w.heap.size + 1) 4 #[.bool true] ∧ Blk w' w.heap.size 109 #[ptr g] ∧ Fr Non w w' := by
  have hmf : ∀ (fn : Fn) (first cap : Array Value) (w : World), (Instr.makeFunc fn first cap).run Tryz.prog w = .ok (.func fn first cap) w := fun _ _ _ _ => rfl
  have h1 : Blk (w.alloc (.cells #[ptr g] 109)) w.heap.size 109 #[ptr g] := Blk.new _ _ _
  have f1 : Fr Non w (w.alloc (.cells #[ptr g] 109)) := (Fr.refl _ _).alloc _
  have hs : (w.alloc (.cells #[ptr g] 109)).heap.size = w.heap.size + 1 := by simp
  have h2 : Blk ((w.alloc (.cells #[ptr g] 109)).alloc (.cells #[.bool true] 4)) _ 4 #[.bool true] := Blk.new _ _ _
  rw [hs] at h2
  have f2 := (Fr.refl Non (w.alloc (.cells #[ptr g] 109))).alloc (.cells #[.bool true] 4)
  have H2 := Lib.hid h2
  have H1 := Lib.hid (h1.fr f2 (fun e => e))
  have F := Lib.hid (f1.trans f2)
  clear h1 h2 f1 f2 hs
  go_enter Tryz.func62, Tryz.ntmps62
  go_wp2
  go_ret
  exact ⟨rfl, H2.out, H1.out, F.out⟩

set_option maxHeartbeats 2000000 in
theorem note_any (f p g : Nat) (first : Bool) (z : Zn) (c : Cl) (w : World) (h : NoteAt w f p g first z) (hfp : p ≠ f) (hgf : g ≠ f) (hpg : p ≠ g) :
    Calls Tryz.prog 117 #[clV c, ptr f, ptr p] w fun e w' => e = .returned (.tuple #[]) ∧ NoteAt w' f p g false (noteZ first z c) ∧ Fr (TwoB f g) w w' := by
  have hz0 := h.zb.lt
  have hz1 := h.fb.lt
  have hz2 := h.pb.lt
  have hB : ClB (w.alloc (.cells #[.bool c.null, .int .i64 c.num, .string ⟨c.txt.toArray⟩] 54)) w.heap.size c := cl_new w c
  have F0 : Fr Non w (w.alloc (.cells #[.bool c.null, .int .i64 c.num, .string ⟨c.txt.toArray⟩] 54)) := (Fr.refl _ _).alloc _
  have hN := h.non F0
  have hF : Fr (One g) w _ := F0.any
  have hR : w.heap.size ≠ g ∧ w.heap.size ≠ f ∧ w.heap.size ≠ p := ⟨by omega, by omega, by omega⟩
  clear h F0 hz0 hz1 hz2
  have O1 := fun W => order_any c z.low W
  have O2 := fun W => order_any c z.high W
  have HZ : noteZ first z c = ⟨z.rows, z.nulls, if (first || decide (ordC c z.low < 0)) = true then c else z.low, if (first || decide (0 < ordC c z.high)) = true then c else z.high⟩ := rfl
  generalize ordC c z.low = x at *
  generalize ordC c z.high = y at *
  unfold clV clC at *
  cases first
  · go_enter Tryz.func117, Tryz.ntmps117
    go_wp2
    generalize w.alloc (.cells #[.bool c.null, .int .i64 c.num, .string ⟨c.txt.toArray⟩] 54) = V0 at *
    generalize w.heap.size = R at *
    replace O1 := Lib.hid O1
    replace O2 := Lib.hid O2
    replace HZ := Lib.hid HZ
    replace hN := hN.drew
    replace hB : ClB V0.drew R c := hB
    replace hF := hF.drew
    have s0 : (V0.drew).cell? ⟨f, 0, none⟩ = some (.bool false) := (hN).fb.cell 0
    have s1 : (V0.drew).cell? ⟨p, 0, none⟩ = some (ptr g) := (hN).pb.cell 0
    have s2 : (V0.drew).cell? ⟨g, 2, none⟩ = some (.bool z.low.null) := (hN).zb.cell 2
    have s3 : (V0.drew).cell? ⟨g, 3, none⟩ = some (.int .i64 z.low.num) := (hN).zb.cell 3
    have s4 : (V0.drew).cell? ⟨g, 4, none⟩ = some (.string ⟨z.low.txt.toArray⟩) := (hN).zb.cell 4
    have s5 : (V0.drew).cell? ⟨R, 0, none⟩ = some (.bool c.null) := (hB).cell 0
    have s6 : (V0.drew).cell? ⟨R, 1, none⟩ = some (.int .i64 c.num) := (hB).cell 1
    have s7 : (V0.drew).cell? ⟨R, 2, none⟩ = some (.string ⟨c.txt.toArray⟩) := (hB).cell 2
    go_region_held3 (fun W => W.cell? ⟨f, 0, none⟩ = some (.bool false) ∧ W.cell? ⟨p, 0, none⟩ = some (ptr g) ∧ W.cell? ⟨g, 2, none⟩ = some (.bool z.low.null) ∧ W.cell? ⟨g, 3, none⟩ = some (.int .i64 z.low.num) ∧ W.cell? ⟨g, 4, none⟩ = some (.string ⟨z.low.txt.toArray⟩) ∧ W.cell? ⟨R, 0, none⟩ = some (.bool c.null) ∧ W.cell? ⟨R, 1, none⟩ = some (.int .i64 c.num) ∧ W.cell? ⟨R, 2, none⟩ = some (.string ⟨c.txt.toArray⟩)) (first | exact ⟨s0, s1, s2, s3, s4, s5, s6, s7⟩ | exact ⟨t0, t1, t2, t3, t4, t5, t6, t7⟩) (first | (go_at_call 114; (with_reducible refine (O1.out _).mono ?_); rintro e w1 ⟨rfl, f1⟩; have hN1 := hN.non f1; have hB1 : ClB w1 R c := hB.fr f1 (fun e => e); have hF1 := hF.then f1; have t0 : w1.cell? ⟨f, 0, none⟩ = some (.bool false) := hN1.fb.cell 0; have t1 : w1.cell? ⟨p, 0, none⟩ = some (ptr g) := hN1.pb.cell 0; have t2 : w1.cell? ⟨g, 2, none⟩ = some (.bool z.low.null) := hN1.zb.cell 2; have t3 : w1.cell? ⟨g, 3, none⟩ = some (.int .i64 z.low.num) := hN1.zb.cell 3; have t4 : w1.cell? ⟨g, 4, none⟩ = some (.string ⟨z.low.txt.toArray⟩) := hN1.zb.cell 4; have t5 : w1.cell? ⟨R, 0, none⟩ = some (.bool c.null) := hB1.cell 0; have t6 : w1.cell? ⟨R, 1, none⟩ = some (.int .i64 c.num) := hB1.cell 1; have t7 : w1.cell? ⟨R, 2, none⟩ = some (.string ⟨c.txt.toArray⟩) := hB1.cell 2))
    clear s0 s1 s2 s3 s4 s5 s6 s7 t0 t1 t2 t3 t4 t5 t6 t7 f1 hN hB hF
    have hN := hN1
    have hB := hB1
    have hF := hF1
    clear hN1 hB1 hF1
    clear O1
    by_cases hx : x < 0
    · have HZ1 : Hid (noteZ false z c = ⟨z.rows, z.nulls, c, if (false || decide (0 < y)) = true then c else z.high⟩) := Lib.hid (by rw [HZ.out, decide_eq_true hx]; rfl)
      have hd : decide (x < 0) = true := decide_eq_true hx
      clear HZ
      generalize w1 = V1 at *
      have hL : NoteAt (setLow V1 g c.null c.num c.txt) f p g false ⟨z.rows, z.nulls, c, z.high⟩ := hN.low (Ne.symm hgf) hpg c
      have FL := setLow_fr V1 g c.null c.num c.txt
      have hBL : ClB (setLow V1 g c.null c.num c.txt) R c := hB.fr FL (fun e => hR.1 e)
      have FF : Fr (One g) w (setLow V1 g c.null c.num c.txt) := hF.trans FL
      replace hL := Lib.hid hL
      replace hBL := Lib.hid hBL
      replace FF := Lib.hid FF
      obtain ⟨y0, y1, y2, y3, y4, y5, y6, y7⟩ := znB_froz hN.zb
      obtain ⟨a0, a1, a2, a3, a4, a5, a6, a7⟩ := znB_cells hN.zb
      obtain ⟨c0, c1, c2, _⟩ := hB.facts
      have p0 : V1.cell? ⟨p, 0, none⟩ = some (ptr g) := hN.pb.cell 0
      clear FL
      unfold setLow at hL hBL FF
      clear hN hB hF
      go_wp2
      clear p0 y0 y1 y2 y3 y4 y5 y6 y7 a0 a1 a2 a3 a4 a5 a6 a7 c0 c1 c2
      generalize ((V1.setCell ⟨g, 2, none⟩ (.bool c.null)).setCell ⟨g, 3, none⟩ (.int .i64 c.num)).setCell ⟨g, 4, none⟩ (.string ⟨c.txt.toArray⟩) = V at *
      have hN := hL.out
      have hB := hBL.out
      have hF := FF.out
      clear hL hBL FF
      replace hN := hN.drew
      replace hB : ClB V.drew R c := hB
      replace hF := hF.drew
      have s0 : (V.drew).cell? ⟨f, 0, none⟩ = some (.bool false) := (hN).fb.cell 0
      have s1 : (V.drew).cell? ⟨p, 0, none⟩ = some (ptr g) := (hN).pb.cell 0
      have s2 : (V.drew).cell? ⟨g, 5, none⟩ = some (.bool z.high.null) := (hN).zb.cell 5
      have s3 : (V.drew).cell? ⟨g, 6, none⟩ = some (.int .i64 z.high.num) := (hN).zb.cell 6
      have s4 : (V.drew).cell? ⟨g, 7, none⟩ = some (.string ⟨z.high.txt.toArray⟩) := (hN).zb.cell 7
      have s5 : (V.drew).cell? ⟨R, 0, none⟩ = some (.bool c.null) := (hB).cell 0
      have s6 : (V.drew).cell? ⟨R, 1, none⟩ = some (.int .i64 c.num) := (hB).cell 1
      have s7 : (V.drew).cell? ⟨R, 2, none⟩ = some (.string ⟨c.txt.toArray⟩) := (hB).cell 2
      go_region_held3 (fun W => W.cell? ⟨f, 0, none⟩ = some (.bool false) ∧ W.cell? ⟨p, 0, none⟩ = some (ptr g) ∧ W.cell? ⟨g, 5, none⟩ = some (.bool z.high.null) ∧ W.cell? ⟨g, 6, none⟩ = some (.int .i64 z.high.num) ∧ W.cell? ⟨g, 7, none⟩ = some (.string ⟨z.high.txt.toArray⟩) ∧ W.cell? ⟨R, 0, none⟩ = some (.bool c.null) ∧ W.cell? ⟨R, 1, none⟩ = some (.int .i64 c.num) ∧ W.cell? ⟨R, 2, none⟩ = some (.string ⟨c.txt.toArray⟩)) (first | exact ⟨s0, s1, s2, s3, s4, s5, s6, s7⟩ | exact ⟨t0, t1, t2, t3, t4, t5, t6, t7⟩) (first | (go_at_call 114; (with_reducible refine (O2.out _).mono ?_); rintro e w1 ⟨rfl, f1⟩; have hN1 := hN.non f1; have hB1 : ClB w1 R c := hB.fr f1 (fun e => e); have hF1 := hF.then f1; have t0 : w1.cell? ⟨f, 0, none⟩ = some (.bool false) := hN1.fb.cell 0; have t1 : w1.cell? ⟨p, 0, none⟩ = some (ptr g) := hN1.pb.cell 0; have t2 : w1.cell? ⟨g, 5, none⟩ = some (.bool z.high.null) := hN1.zb.cell 5; have t3 : w1.cell? ⟨g, 6, none⟩ = some (.int .i64 z.high.num) := hN1.zb.cell 6; have t4 : w1.cell? ⟨g, 7, none⟩ = some (.string ⟨z.high.txt.toArray⟩) := hN1.zb.cell 7; have t5 : w1.cell? ⟨R, 0, none⟩ = some (.bool c.null) := hB1.cell 0; have t6 : w1.cell? ⟨R, 1, none⟩ = some (.int .i64 c.num) := hB1.cell 1; have t7 : w1.cell? ⟨R, 2, none⟩ = some (.string ⟨c.txt.toArray⟩) := hB1.cell 2))
      clear s0 s1 s2 s3 s4 s5 s6 s7 t0 t1 t2 t3 t4 t5 t6 t7 f1 hN hB hF
      have hN := hN1
      have hB := hB1
      have hF := hF1
      clear hN1 hB1 hF1
      by_cases hy : 0 < y
      · have HE : Hid (noteZ false z c = ⟨z.rows, z.nulls, c, c⟩) := Lib.hid (by rw [HZ1.out, decide_eq_true hy]; rfl)
        have hd : decide (0 < y) = true := decide_eq_true hy
        clear HZ1 O2
        generalize w1 = V1 at *
        have hL : NoteAt (setHigh V1 g c.null c.num c.txt) f p g false ⟨z.rows, z.nulls, c, c⟩ := hN.high (Ne.symm hgf) hpg c
        have FL := setHigh_fr V1 g c.null c.num c.txt
        have hBL : ClB (setHigh V1 g c.null c.num c.txt) R c := hB.fr FL (fun e => hR.1 e)
        have FF : Fr (One g) w (setHigh V1 g c.null c.num c.txt) := hF.trans FL
        replace hL := Lib.hid hL
        replace hBL := Lib.hid hBL
        replace FF := Lib.hid FF
        obtain ⟨y0, y1, y2, y3, y4, y5, y6, y7⟩ := znB_froz hN.zb
        obtain ⟨a0, a1, a2, a3, a4, a5, a6, a7⟩ := znB_cells hN.zb
        obtain ⟨c0, c1, c2, _⟩ := hB.facts
        have p0 : V1.cell? ⟨p, 0, none⟩ = some (ptr g) := hN.pb.cell 0
        clear FL
        have f0 := hN.fb.frozen 0
        have f1 : V1.cell? ⟨f, 0, none⟩ = some (.bool false) := hN.fb.cell 0
        have HN := Lib.hid (hL.out.noted hfp hgf)
        have HF := Lib.hid ((FF.out.mono (S' := TwoB f g) (fun _ _ e => .inr e)).setCell (p := ⟨f, 0, none⟩) (fun _ => .inl rfl) (.bool false))
        clear hL hBL FF hN hB hF
        go_wp2
        go_end0
        exact ⟨rfl, by rw [HE.out]; exact HN.out, HF.out⟩
      · have HE : Hid (noteZ false z c = ⟨z.rows, z.nulls, c, z.high⟩) := Lib.hid (by rw [HZ1.out, decide_eq_false hy]; rfl)
        have hd : decide (0 < y) = false := decide_eq_false hy
        clear HZ1 O2
        generalize w1 = V at *
        have f0 := hN.fb.frozen 0
        have f1 : V.cell? ⟨f, 0, none⟩ = some (.bool false) := hN.fb.cell 0
        have HN := Lib.hid (hN.noted hfp hgf)
        have HF := Lib.hid ((hF.mono (S' := TwoB f g) (fun _ _ e => .inr e)).setCell (p := ⟨f, 0, none⟩) (fun _ => .inl rfl) (.bool false))
        clear hN hB hF
        go_wp2
        go_end0
        exact ⟨rfl, by rw [HE.out]; exact HN.out, HF.out⟩
    · have HZ1 : Hid (noteZ false z c = ⟨z.rows, z.nulls, z.low, if (false || decide (0 < y)) = true then c else z.high⟩) := Lib.hid (by rw [HZ.out, decide_eq_false hx]; rfl)
      have hd : decide (x < 0) = false := decide_eq_false hx
      clear HZ
      generalize w1 = V at *
      go_wp2
      replace hN := hN.drew
      replace hB : ClB V.drew R c := hB
      replace hF := hF.drew
      have s0 : (V.drew).cell? ⟨f, 0, none⟩ = some (.bool false) := (hN).fb.cell 0
      have s1 : (V.drew).cell? ⟨p, 0, none⟩ = some (ptr g) := (hN).pb.cell 0
      have s2 : (V.drew).cell? ⟨g, 5, none⟩ = some (.bool z.high.null) := (hN).zb.cell 5
      have s3 : (V.drew).cell? ⟨g, 6, none⟩ = some (.int .i64 z.high.num) := (hN).zb.cell 6
      have s4 : (V.drew).cell? ⟨g, 7, none⟩ = some (.string ⟨z.high.txt.toArray⟩) := (hN).zb.cell 7
      have s5 : (V.drew).cell? ⟨R, 0, none⟩ = some (.bool c.null) := (hB).cell 0
      have s6 : (V.drew).cell? ⟨R, 1, none⟩ = some (.int .i64 c.num) := (hB).cell 1
      have s7 : (V.drew).cell? ⟨R, 2, none⟩ = some (.string ⟨c.txt.toArray⟩) := (hB).cell 2
      go_region_held3 (fun W => W.cell? ⟨f, 0, none⟩ = some (.bool false) ∧ W.cell? ⟨p, 0, none⟩ = some (ptr g) ∧ W.cell? ⟨g, 5, none⟩ = some (.bool z.high.null) ∧ W.cell? ⟨g, 6, none⟩ = some (.int .i64 z.high.num) ∧ W.cell? ⟨g, 7, none⟩ = some (.string ⟨z.high.txt.toArray⟩) ∧ W.cell? ⟨R, 0, none⟩ = some (.bool c.null) ∧ W.cell? ⟨R, 1, none⟩ = some (.int .i64 c.num) ∧ W.cell? ⟨R, 2, none⟩ = some (.string ⟨c.txt.toArray⟩)) (first | exact ⟨s0, s1, s2, s3, s4, s5, s6, s7⟩ | exact ⟨t0, t1, t2, t3, t4, t5, t6, t7⟩) (first | (go_at_call 114; (with_reducible refine (O2.out _).mono ?_); rintro e w1 ⟨rfl, f1⟩; have hN1 := hN.non f1; have hB1 : ClB w1 R c := hB.fr f1 (fun e => e); have hF1 := hF.then f1; have t0 : w1.cell? ⟨f, 0, none⟩ = some (.bool false) := hN1.fb.cell 0; have t1 : w1.cell? ⟨p, 0, none⟩ = some (ptr g) := hN1.pb.cell 0; have t2 : w1.cell? ⟨g, 5, none⟩ = some (.bool z.high.null) := hN1.zb.cell 5; have t3 : w1.cell? ⟨g, 6, none⟩ = some (.int .i64 z.high.num) := hN1.zb.cell 6; have t4 : w1.cell? ⟨g, 7, none⟩ = some (.string ⟨z.high.txt.toArray⟩) := hN1.zb.cell 7; have t5 : w1.cell? ⟨R, 0, none⟩ = some (.bool c.null) := hB1.cell 0; have t6 : w1.cell? ⟨R, 1, none⟩ = some (.int .i64 c.num) := hB1.cell 1; have t7 : w1.cell? ⟨R, 2, none⟩ = some (.string ⟨c.txt.toArray⟩) := hB1.cell 2))
      clear s0 s1 s2 s3 s4 s5 s6 s7 t0 t1 t2 t3 t4 t5 t6 t7 f1 hN hB hF
      have hN := hN1
      have hB := hB1
      have hF := hF1
      clear hN1 hB1 hF1
      by_cases hy : 0 < y
      · have HE : Hid (noteZ false z c = ⟨z.rows, z.nulls, z.low, c⟩) := Lib.hid (by rw [HZ1.out, decide_eq_true hy]; rfl)
        have hd : decide (0 < y) = true := decide_eq_true hy
        clear HZ1 O2
        generalize w1 = V1 at *
        have hL : NoteAt (setHigh V1 g c.null c.num c.txt) f p g false ⟨z.rows, z.nulls, z.low, c⟩ := hN.high (Ne.symm hgf) hpg c
        have FL := setHigh_fr V1 g c.null c.num c.txt
        have hBL : ClB (setHigh V1 g c.null c.num c.txt) R c := hB.fr FL (fun e => hR.1 e)
        have FF : Fr (One g) w (setHigh V1 g c.null c.num c.txt) := hF.trans FL
        replace hL := Lib.hid hL
        replace hBL := Lib.hid hBL
        replace FF := Lib.hid FF
        obtain ⟨y0, y1, y2, y3, y4, y5, y6, y7⟩ := znB_froz hN.zb
        obtain ⟨a0, a1, a2, a3, a4, a5, a6, a7⟩ := znB_cells hN.zb
        obtain ⟨c0, c1, c2, _⟩ := hB.facts
        have p0 : V1.cell? ⟨p, 0, none⟩ = some (ptr g) := hN.pb.cell 0
        clear FL
        have f0 := hN.fb.frozen 0
        have f1 : V1.cell? ⟨f, 0, none⟩ = some (.bool false) := hN.fb.cell 0
        have HN := Lib.hid (hL.out.noted hfp hgf)
        have HF := Lib.hid ((FF.out.mono (S' := TwoB f g) (fun _ _ e => .inr e)).setCell (p := ⟨f, 0, none⟩) (fun _ => .inl rfl) (.bool false))
        clear hL hBL FF hN hB hF
        go_wp2
        go_end0
        exact ⟨rfl, by rw [HE.out]; exact HN.out, HF.out⟩
      · have HE : Hid (noteZ false z c = ⟨z.rows, z.nulls, z.low, z.high⟩) := Lib.hid (by rw [HZ1.out, decide_eq_false hy]; rfl)
        have hd : decide (0 < y) = false := decide_eq_false hy
        clear HZ1 O2
        generalize w1 = V at *
        have f0 := hN.fb.frozen 0
        have f1 : V.cell? ⟨f, 0, none⟩ = some (.bool false) := hN.fb.cell 0
        have HN := Lib.hid (hN.noted hfp hgf)
        have HF := Lib.hid ((hF.mono (S' := TwoB f g) (fun _ _ e => .inr e)).setCell (p := ⟨f, 0, none⟩) (fun _ => .inl rfl) (.bool false))
        clear hN hB hF
        go_wp2
        go_end0
        exact ⟨rfl, by rw [HE.out]; exact HN.out, HF.out⟩
  · go_enter Tryz.func117, Tryz.ntmps117
    go_wp2
    generalize w.alloc (.cells #[.bool c.null, .int .i64 c.num, .string ⟨c.txt.toArray⟩] 54) = V at *
    generalize w.heap.size = R at *
    have HE : Hid (noteZ true z c = ⟨z.rows, z.nulls, c, c⟩) := Lib.hid (by rw [HZ]; rfl)
    clear O1 O2 HZ
    have q0 : V.cell? ⟨f, 0, none⟩ = some (.bool true) := hN.fb.cell 0
    go_region
    clear q0
    replace hN := hN.drew
    replace hB : ClB V.drew R c := hB
    replace hF := hF.drew
    generalize V.drew = V1 at *
    have hL : NoteAt (setLow V1 g c.null c.num c.txt) f p g true ⟨z.rows, z.nulls, c, z.high⟩ := hN.low (Ne.symm hgf) hpg c
    have FL := setLow_fr V1 g c.null c.num c.txt
    have hBL : ClB (setLow V1 g c.null c.num c.txt) R c := hB.fr FL (fun e => hR.1 e)
    have FF : Fr (One g) w (setLow V1 g c.null c.num c.txt) := hF.trans FL
    replace hL := Lib.hid hL
    replace hBL := Lib.hid hBL
    replace FF := Lib.hid FF
    obtain ⟨y0, y1, y2, y3, y4, y5, y6, y7⟩ := znB_froz hN.zb
    obtain ⟨a0, a1, a2, a3, a4, a5, a6, a7⟩ := znB_cells hN.zb
    obtain ⟨c0, c1, c2, _⟩ := hB.facts
    have p0 : V1.cell? ⟨p, 0, none⟩ = some (ptr g) := hN.pb.cell 0
    clear FL
    unfold setLow at hL hBL FF
    clear hN hB hF
    go_wp2
    clear p0 y0 y1 y2 y3 y4 y5 y6 y7 a0 a1 a2 a3 a4 a5 a6 a7 c0 c1 c2
    generalize ((V1.setCell ⟨g, 2, none⟩ (.bool c.null)).setCell ⟨g, 3, none⟩ (.int .i64 c.num)).setCell ⟨g, 4, none⟩ (.string ⟨c.txt.toArray⟩) = V at *
    have hN := hL.out
    have hB := hBL.out
    have hF := FF.out
    clear hL hBL FF
    have q0 : V.cell? ⟨f, 0, none⟩ = some (.bool true) := hN.fb.cell 0
    go_region
    clear q0
    replace hN := hN.drew
    replace hB : ClB V.drew R c := hB
    replace hF := hF.drew
    generalize V.drew = V2 at *
    have hL : NoteAt (setHigh V2 g c.null c.num c.txt) f p g true ⟨z.rows, z.nulls, c, c⟩ := hN.high (Ne.symm hgf) hpg c
    have FL := setHigh_fr V2 g c.null c.num c.txt
    have hBL : ClB (setHigh V2 g c.null c.num c.txt) R c := hB.fr FL (fun e => hR.1 e)
    have FF : Fr (One g) w (setHigh V2 g c.null c.num c.txt) := hF.trans FL
    replace hL := Lib.hid hL
    replace hBL := Lib.hid hBL
    replace FF := Lib.hid FF
    obtain ⟨y0, y1, y2, y3, y4, y5, y6, y7⟩ := znB_froz hN.zb
    obtain ⟨a0, a1, a2, a3, a4, a5, a6, a7⟩ := znB_cells hN.zb
    obtain ⟨c0, c1, c2, _⟩ := hB.facts
    have p0 : V2.cell? ⟨p, 0, none⟩ = some (ptr g) := hN.pb.cell 0
    clear FL
    have f0 := hN.fb.frozen 0
    have f1 : V2.cell? ⟨f, 0, none⟩ = some (.bool true) := hN.fb.cell 0
    have HN := Lib.hid (hL.out.noted hfp hgf)
    have HF := Lib.hid ((FF.out.mono (S' := TwoB f g) (fun _ _ e => .inr e)).setCell (p := ⟨f, 0, none⟩) (fun _ => .inl rfl) (.bool false))
    clear hL hBL FF hN hB hF
    go_wp2
    go_end0
    exact ⟨rfl, by rw [HE.out]; exact HN.out, HF.out⟩
end Go.Proofs.YtheefloegbkflaaGreatDoor


namespace Go.Proofs.YtheefloegbkflaaGreatDoor
set_option linter.unusedVariables false
set_option linter.unusedSimpArgs false
set_option maxRecDepth 100000
open Go.RowKit

/-- a zone stored whole, as a walk spells it -/
def setRN (w : World) (g : Nat) (r n : Int) : World := (w.setCell ⟨g, 0, none⟩ (.int .i64 r)).setCell ⟨g, 1, none⟩ (.int .i64 n)
theorem setRN_B {w : World} {g : Nat} {y : Zn} (h : ZnB w g y) (r n : Int) : ZnB (setRN w g r n) g ⟨r, n, y.low, y.high⟩ := (Blk.set h 0 _).set 1 _
theorem setRN_fr (w : World) (g : Nat) (r n : Int) : Fr (One g) w (setRN w g r n) := ((Fr.refl (One g) w).set1 0 _).set1 1 _
def setZn (w : World) (g : Nat) (z : Zn) : World := setHigh (setLow (setRN w g z.rows z.nulls) g z.low.null z.low.num z.low.txt) g z.high.null z.high.num z.high.txt
theorem setZn_B {w : World} {g : Nat} {y : Zn} (h : ZnB w g y) (z : Zn) : ZnB (setZn w g z) g z := setHigh_B (setLow_B (setRN_B h z.rows z.nulls) z.low) z.high
theorem setZn_fr (w : World) (g : Nat) (z : Zn) : Fr (One g) w (setZn w g z) := ((setRN_fr _ _ _ _).trans (setLow_fr _ _ _ _ _)).trans (setHigh_fr _ _ _ _ _)
theorem setNul_B {w : World} {g : Nat} {y : Zn} (h : ZnB w g y) (n : Int) : ZnB (w.setCell ⟨g, 1, none⟩ (.int .i64 n)) g ⟨y.rows, n, y.low, y.high⟩ := Blk.set h 1 _
theorem NoteAt.nul {w : World} {f p g : Nat} {first : Bool} {z : Zn} (h : NoteAt w f p g first z) (hf : f ≠ g) (hp : p ≠ g) (n : Int) : NoteAt (w.setCell ⟨g, 1, none⟩ (.int .i64 n)) f p g first ⟨z.rows, n, z.low, z.high⟩ :=
  ⟨h.fb.fr ((Fr.refl (One g) w).set1 1 _) hf, h.pb.fr ((Fr.refl (One g) w).set1 1 _) hp, setNul_B h.zb n⟩
/-- a call's end where its one result is a zone in a block -/
theorem ret_zn {fn : Func} {p : Tmp} (h : fn.results = #[.cell p 56]) (tmps : Array Value) (w : World) (g : Nat) (z : Zn)
    (hp : tmps.getD p undef = .pointer (some ⟨g, 0, none⟩)) (hg : ZnB w g z) : (results fn tmps).run Tryz.prog w = .ok (znV z) w :=
  results_cell_row h tmps w g 56 _ (0, 0) _ hp hg Tryz.underlying56 rfl (by kernel_rfl)

set_option maxHeartbeats 2000000 in
theorem zof_any (v : Value) (l : List Cl) (w : World) (hv : Cs w v l) (hl : l.length ≤ 1000000) :
    Calls Tryz.prog 31 #[v] w fun e w' => ∃ z, e = .returned (znV z) ∧ IsOf l z ∧ Fr Non w w' := by
  obtain ⟨A, c, rfl, hlc, hn, hcell⟩ := hv
  have HC := Lib.hid hcell
  have HN := Lib.hid hn
  clear hcell hn
  have f0 : Fr Non w _ := ((Fr.refl Non w).alloc (.cells (znC noZn) 56)).alloc (.cells (znC ⟨l.length, 0, noCl, noCl⟩) 56)
  have hA : ZnB (w.alloc (.cells (znC noZn) 56)) w.heap.size noZn := Blk.new _ _ _
  have hB : ZnB ((w.alloc (.cells (znC noZn) 56)).alloc (.cells (znC ⟨l.length, 0, noCl, noCl⟩) 56)) (w.alloc (.cells (znC noZn) 56)).heap.size ⟨l.length, 0, noCl, noCl⟩ := Blk.new _ _ _
  have hsz : (w.alloc (.cells (znC noZn) 56)).heap.size = w.heap.size + 1 := by simp
  rw [hsz] at hB
  have hA2 : ZnB ((w.alloc (.cells (znC noZn) 56)).alloc (.cells (znC ⟨l.length, 0, noCl, noCl⟩) 56)) w.heap.size noZn := hA.fr ((Fr.refl Non _).alloc _) (fun e => e)
  have hs2 : ((w.alloc (.cells (znC noZn) 56)).alloc (.cells (znC ⟨l.length, 0, noCl, noCl⟩) 56)).heap.size = w.heap.size + 1 + 1 := by simp
  clear hA hsz
  unfold znC noZn noCl at *
  dsimp only at *
  replace f0 := Lib.hid f0
  replace hB := Lib.hid hB
  replace hA2 := Lib.hid hA2
  go_enter Tryz.func31, Tryz.ntmps31
  go_wp2_with fail
  refine (noteIn_any (w.heap.size + 1) _).mono ?_
  rintro e w1 ⟨rfl, n1, n2, f1⟩
  rw [hs2] at n1 n2
  have hA3 := hA2.out.fr f1 (fun e => e)
  have hN3 : NoteAt w1 (w.heap.size + 1 + 1 + 1) (w.heap.size + 1 + 1) (w.heap.size + 1) true ⟨l.length, 0, noCl, noCl⟩ := ⟨n1, n2, hB.out.fr f1 (fun e => e)⟩
  have hF3 := f0.out.trans f1
  have J0 := Lib.hid (jinv_start l.length 0)
  clear hA2 hB f0 n1 n2 f1
  rw [hs2]
  clear hs2
  generalize hw : w.heap.size = R at *
  have HW := Lib.hid (Nat.le_of_eq hw)
  clear hw
  go_wp2
  go_loopw [13] (fun i wr => ∃ (k : Nat) (z : Zn) (first : Bool), k ≤ l.length ∧ i = .int .i64 k ∧ JInv l.length (nulC (l.take k)) (liveC (l.take k)) z first ∧ NoteAt wr (R + 1 + 1 + 1) (R + 1 + 1) (R + 1) first z ∧ ZnB wr R noZn ∧ Fr Non w wr) (fun i _ => l.length - (intOf i).toNat)
  case atStart => exact ⟨0, _, true, Nat.zero_le _, rfl, J0.out, hN3, hA3, hF3⟩
  case round =>
    clear hA3 hN3 hF3 J0
    obtain ⟨k, z, first, hk, rfl, hJ, hN, hA, hF⟩ := hrel
    have hHR : R + 1 < wr.heap.size := hN.zb.lt
    by_cases hlt : k < l.length
    · cases A with
      | none => have := HN.out rfl; omega
      | some a =>
        obtain ⟨hc0, hc1, hc2⟩ := (hF.at3 (HC.out a rfl k hlt)).lit
        have HY := Lib.hid (jinv_yes hlt hJ)
        have HX := Lib.hid (jinv_no hlt hJ)
        obtain ⟨hn0, hn1⟩ := jinv_le (Nat.le_of_lt hlt) hJ
        clear hJ
        generalize l[k] = x at *
        obtain ⟨xn, xi, xt⟩ := x
        dsimp only at hc0 hc1 hc2
        cases xn
        · have f1 := (Fr.refl Non wr).alloc (.cells #[.bool false, .int .i64 xi, .string ⟨xt.toArray⟩] 54)
          have hN1 := hN.non f1
          have hA1 := hA.fr f1 (fun e => e)
          have hF1 := hF.trans f1
          have HNote := Lib.hid (note_any (R + 1 + 1 + 1) (R + 1 + 1) (R + 1) first z ⟨false, xi, xt⟩ _ hN1 (by omega) (by omega) (by omega))
          replace HX := Lib.hid (HX.out rfl)
          clear HY hN f1 hN1 hA hF
          replace hA1 := Lib.hid hA1
          replace hF1 := Lib.hid hF1
          go_wp2_with fail
          refine HNote.out.mono ?_
          rintro e w4 ⟨rfl, hN4, f4⟩
          have hA4 := hA1.out.fr f4 (fun e => by rcases e with e | e <;> omega)
          have hF4 := hF1.out.fresh f4 (fun q e => by have := HW.out; rcases e with e | e <;> omega)
          replace hN4 := Lib.hid hN4
          go_wp2
          go_roundw
          case rel => exact ⟨k + 1, _, false, by omega, by go_num, HX.out, hN4.out, hA4, hF4⟩
          case measure => simp [intOf]; omega
        · have a1 : wr.cell? ⟨R + 1, 1, none⟩ = some (.int .i64 z.nulls) := hN.zb.cell 1
          have y1 := hN.zb.frozen 1
          have f2 := (Fr.refl (One (R + 1)) wr).set1 1 (.int .i64 (z.nulls + 1))
          have f1 := (Fr.refl Non (wr.setCell ⟨R + 1, 1, none⟩ (.int .i64 (z.nulls + 1)))).alloc (.cells #[.bool true, .int .i64 xi, .string ⟨xt.toArray⟩] 54)
          have hN2 := Lib.hid ((hN.nul (by omega) (by omega) (z.nulls + 1)).non f1)
          have hA2 := Lib.hid ((hA.fr f2 (fun e => by have : R = R + 1 := e; omega)).fr f1 (fun e => e))
          have hF2 := Lib.hid ((hF.fresh f2 (fun q e => by have : q = R + 1 := e; have := HW.out; omega)).trans f1)
          replace HY := Lib.hid (HY.out rfl)
          clear HX hN f1 f2 hA hF
          go_wp2_with fail
          go_roundw
          case rel => exact ⟨k + 1, _, first, by omega, by go_num, HY.out, hN2.out, hA2.out, hF2.out⟩
          case measure => simp [intOf]; omega
    · obtain rfl : k = l.length := by omega
      rw [List.take_length] at hJ
      have HE := Lib.hid (jinv_end hJ)
      obtain ⟨y0, y1, y2, y3, y4, y5, y6, y7⟩ := znB_froz hA
      obtain ⟨b0, b1, b2, b3, b4, b5, b6, b7⟩ := znB_cells hA
      obtain ⟨a0, a1, a2, a3, a4, a5, a6, a7⟩ := znB_cells hN.zb
      have HA := Lib.hid (setZn_B hA z)
      have HF := Lib.hid (hF.fresh (setZn_fr wr R z) (fun q e => by have : q = R := e; have := HW.out; omega))
      clear hJ hN hA hF
      go_wp2
      exact bodyPost_ret (v := znV z) (ret_zn (p := 2) rfl _ _ R z rfl HA.out) rfl ⟨z, rfl, HE.out, HF.out⟩
end Go.Proofs.YtheefloegbkflaaGreatDoor


namespace Go.Proofs.YtheefloegbkflaaGreatDoor
set_option linter.unusedVariables false
set_option linter.unusedSimpArgs false
set_option maxRecDepth 100000
open Go.RowKit

/-- what read tells: a cell, what is left, whether the source failed -/
def rdC (ty : Int) (l : List UInt8) : Cl × List UInt8 × Bool :=
  if mostV l 1 = 0 then (⟨true, 0, []⟩, mostR l 1, mostB l 1)
  else if ty = 1 ∨ ty = 2 then (⟨false, unzig (fstN (mostR l 1)), []⟩, rest (mostR l 1), fell (mostR l 1))
  else if ty = 3 then (⟨false, 0, txtT (mostR l 1) 40⟩, txtR (mostR l 1) 40, txtB (mostR l 1) 40)
  else (⟨false, 0, []⟩, mostR l 1, mostB l 1)
theorem rdC_null {ty : Int} {l : List UInt8} (h : mostV l 1 = 0) : rdC ty l = (⟨true, 0, []⟩, mostR l 1, mostB l 1) := by unfold rdC; rw [if_pos h]
theorem rdC_num {ty : Int} {l : List UInt8} (h : ¬ mostV l 1 = 0) (ht : ty = 1 ∨ ty = 2) : rdC ty l = (⟨false, unzig (fstN (mostR l 1)), []⟩, rest (mostR l 1), fell (mostR l 1)) := by unfold rdC; rw [if_neg h, if_pos ht]
theorem rdC_txt {l : List UInt8} (h : ¬ mostV l 1 = 0) : rdC 3 l = (⟨false, 0, txtT (mostR l 1) 40⟩, txtR (mostR l 1) 40, txtB (mostR l 1) 40) := by unfold rdC; rw [if_neg h, if_neg (by omega), if_pos rfl]
theorem rdC_no {ty : Int} {l : List UInt8} (h : ¬ mostV l 1 = 0) (h1 : ¬ ty = 1) (h2 : ¬ ty = 2) (h3 : ¬ ty = 3) : rdC ty l = (⟨false, 0, []⟩, mostR l 1, mostB l 1) := by unfold rdC; rw [if_neg h, if_neg (by omega), if_neg h3]

/-- a call's end, behind a cell stored whole in the block made first -/
theorem cell_end {w w1 : World} {g : Nat} {l : List UInt8} {bad : Bool} {c0 : Cl} (hg : g < w.heap.size) (hB : ClB w1 w.heap.size c0) (hF : Fr (One g) w w1) (hS : Src w1 g l bad) (n : Bool) (i : Int) (t : List UInt8) :
    ClB (setCl w1 w.heap.size n i t) w.heap.size ⟨n, i, t⟩ ∧ Src (setCl w1 w.heap.size n i t) g l bad ∧ Fr (One g) w (setCl w1 w.heap.size n i t) :=
  ⟨setCl_B hB n i t, hS.fr (setCl_fr _ _ _ _ _) (fun e => by have : g = w.heap.size := e; omega), hF.fresh (setCl_fr _ _ _ _ _) (fun k e => by have : k = w.heap.size := e; omega)⟩

set_option maxHeartbeats 1000000 in
theorem cread_any (g : Nat) (l : List UInt8) (bad : Bool) (ty : Int) (w : World) (h : Src w g l bad) :
    Calls Tryz.prog 188 #[ptr g, .int .i64 ty] w fun e w' => e = .returned (clV (rdC ty l).1) ∧ Src w' g (rdC ty l).2.1 (rdC ty l).2.2 ∧ Fr (One g) w w' := by
  have hg := h.1.lt
  have hB0 := cl_new w ⟨false, 0, []⟩
  have f0 : Fr Non w (w.alloc (.cells #[.bool false, .int .i64 0, .string ⟨([] : List UInt8).toArray⟩] 54)) := (Fr.refl _ _).alloc _
  have h0 := below_any g l bad 2 _ (h.fr f0 (fun e => e)) (by omega)
  rw [show (2 : Int) - 1 = 1 by rfl] at h0
  have key : ∀ (k : Nat), mostV l 1 = k → Calls Tryz.prog 188 #[ptr g, .int .i64 ty] w fun e w' => e = .returned (clV (rdC ty l).1) ∧ Src w' g (rdC ty l).2.1 (rdC ty l).2.2 ∧ Fr (One g) w w' := by
    intro k hk
    rw [hk] at h0
    have hgw : w.heap.size ≠ g := by omega
    by_cases hk0 : k = 0
    · subst hk0
      have HE := Lib.hid (rdC_null (ty := ty) hk)
      clear hk
      go_enter Tryz.func188, Tryz.ntmps188
      go_wp2_with fail
      refine h0.mono ?_
      rintro e w1 ⟨rfl, s1, f1⟩
      have hB1 : ClB w1 w.heap.size _ := hB0.fr f1 (fun e => hgw e)
      obtain ⟨c0, c1, c2, z0, z1, z2⟩ := hB1.facts
      dsimp only at c0 c1 c2
      have HB := Lib.hid hB1
      have HF := Lib.hid (f0.any.trans f1)
      have HS := Lib.hid s1
      clear hB1 hB0 f0 f1 s1 h0
      go_wp2
      obtain ⟨e1, e2, e3⟩ := cell_end hg HB.out HF.out HS.out true 0 []
      exact bodyPost_ret (v := clV ⟨true, 0, []⟩) (ret_cl (p := 4) rfl _ _ w.heap.size ⟨true, 0, []⟩ rfl e1) rfl ⟨by rw [HE.out], by rw [HE.out]; exact e2, e3⟩
    · have hkI : ((k : Int) == 0) = false := by rw [beq_eq_false_iff_ne]; omega
      have hk1 : ¬ mostV l 1 = 0 := by rw [hk]; exact hk0
      have HK := Lib.hid hk1
      clear hk hk1 hk0
      by_cases ht : ty = 1 ∨ ty = 2
      · have HE := Lib.hid (rdC_num HK.out ht)
        rcases ht with ht | ht
        all_goals
          subst ht
          go_enter Tryz.func188, Tryz.ntmps188
          go_wp2_with fail
          refine h0.mono ?_
          rintro e w1 ⟨rfl, s1, f1⟩
          have hB1 : ClB w1 w.heap.size _ := hB0.fr f1 (fun e => hgw e)
          go_wp2_with fail
          refine (sint_any g _ _ w1 s1).mono ?_
          rintro e w2 ⟨rfl, s2, f2⟩
          have hB2 : ClB w2 w.heap.size _ := hB1.fr f2 (fun e => hgw e)
          obtain ⟨c0, c1, c2, z0, z1, z2⟩ := hB2.facts
          dsimp only at c0 c1 c2
          have HB := Lib.hid hB2
          have HF := Lib.hid ((f0.any.trans f1).trans f2)
          have HS := Lib.hid s2
          clear hB1 hB2 hB0 f0 f1 f2 s1 s2 h0
          generalize unzig (fstN (mostR l 1)) = z at *
          go_wp2
          obtain ⟨e1, e2, e3⟩ := cell_end hg HB.out HF.out HS.out false z []
          exact bodyPost_ret (v := clV ⟨false, z, []⟩) (ret_cl (p := 4) rfl _ _ w.heap.size ⟨false, z, []⟩ rfl e1) rfl ⟨by rw [HE.out], by rw [HE.out]; exact e2, e3⟩
      · by_cases h3 : ty = 3
        · subst h3
          have HE := Lib.hid (rdC_txt HK.out)
          clear ht
          go_enter Tryz.func188, Tryz.ntmps188
          go_wp2_with fail
          refine h0.mono ?_
          rintro e w1 ⟨rfl, s1, f1⟩
          have hB1 : ClB w1 w.heap.size _ := hB0.fr f1 (fun e => hgw e)
          go_wp2_with fail
          refine (stext_any g _ _ 40 w1 s1 (by omega)).mono ?_
          rintro e w2 ⟨rfl, s2, f2⟩
          have hB2 : ClB w2 w.heap.size _ := hB1.fr f2 (fun e => hgw e)
          obtain ⟨c0, c1, c2, z0, z1, z2⟩ := hB2.facts
          dsimp only at c0 c1 c2
          have HB := Lib.hid hB2
          have HF := Lib.hid ((f0.any.trans f1).trans f2)
          have HS := Lib.hid s2
          clear hB1 hB2 hB0 f0 f1 f2 s1 s2 h0
          generalize txtT (mostR l 1) 40 = z at *
          go_wp2
          obtain ⟨e1, e2, e3⟩ := cell_end hg HB.out HF.out HS.out false 0 z
          exact bodyPost_ret (v := clV ⟨false, 0, z⟩) (ret_cl (p := 4) rfl _ _ w.heap.size ⟨false, 0, z⟩ rfl e1) rfl ⟨by rw [HE.out], by rw [HE.out]; exact e2, e3⟩
        · have h1 : ¬ ty = 1 := fun e => ht (.inl e)
          have h2 : ¬ ty = 2 := fun e => ht (.inr e)
          have HE := Lib.hid (rdC_no HK.out h1 h2 h3)
          clear ht
          go_enter Tryz.func188, Tryz.ntmps188
          go_wp2_with fail
          refine h0.mono ?_
          rintro e w1 ⟨rfl, s1, f1⟩
          have hB1 : ClB w1 w.heap.size _ := hB0.fr f1 (fun e => hgw e)
          obtain ⟨c0, c1, c2, z0, z1, z2⟩ := hB1.facts
          dsimp only at c0 c1 c2
          have HB := Lib.hid hB1
          have HF := Lib.hid (f0.any.trans f1)
          have HS := Lib.hid s1
          clear hB1 hB0 f0 f1 s1 h0
          go_wp2
          obtain ⟨e1, e2, e3⟩ := cell_end hg HB.out HF.out HS.out false 0 []
          exact bodyPost_ret (v := clV ⟨false, 0, []⟩) (ret_cl (p := 4) rfl _ _ w.heap.size ⟨false, 0, []⟩ rfl e1) rfl ⟨by rw [HE.out], by rw [HE.out]; exact e2, e3⟩
  exact key _ rfl

/-- what Take tells: the cell, what is left, whether the source failed -/
def tkC (ty : Int) (l : List UInt8) : Cl × List UInt8 × Bool := if (rdC ty l).2.2 = false ∧ mayC ty true (rdC ty l).1 = true then rdC ty l else (⟨false, 0, []⟩, [], true)
theorem tkC_yes {ty : Int} {l : List UInt8} (h1 : (rdC ty l).2.2 = false) (h2 : mayC ty true (rdC ty l).1 = true) : tkC ty l = rdC ty l := by unfold tkC; rw [if_pos ⟨h1, h2⟩]
theorem tkC_bad {ty : Int} {l : List UInt8} (h1 : (rdC ty l).2.2 = true) : tkC ty l = (⟨false, 0, []⟩, [], true) := by unfold tkC; rw [if_neg (by rw [h1]; simp)]
theorem tkC_not {ty : Int} {l : List UInt8} (h1 : mayC ty true (rdC ty l).1 = false) : tkC ty l = (⟨false, 0, []⟩, [], true) := by unfold tkC; rw [if_neg (by rw [h1]; simp)]

set_option maxHeartbeats 1000000 in
theorem ctake_any (g : Nat) (l : List UInt8) (bad : Bool) (ty : Int) (w : World) (h : Src w g l bad) :
    Calls Tryz.prog 174 #[ptr g, .int .i64 ty] w fun e w' => e = .returned (clV (tkC ty l).1) ∧ Src w' g (tkC ty l).2.1 (tkC ty l).2.2 ∧ Fr (One g) w w' := by
  have hg := h.1.lt
  have hB0 := cl_new w ⟨false, 0, []⟩
  have f0 : Fr Non w (w.alloc (.cells #[.bool false, .int .i64 0, .string ⟨([] : List UInt8).toArray⟩] 54)) := (Fr.refl _ _).alloc _
  have h0 := cread_any g l bad ty _ (h.fr f0 (fun e => e))
  have hgw : w.heap.size ≠ g := by omega
  have HY := Lib.hid (tkC_yes (ty := ty) (l := l))
  have HN1 := Lib.hid (tkC_bad (ty := ty) (l := l))
  have HN2 := Lib.hid (tkC_not (ty := ty) (l := l))
  generalize rdC ty l = x at *
  obtain ⟨⟨n, i, t⟩, r, b⟩ := x
  have hm := fun W => may_any ty true ⟨n, i, t⟩ W
  unfold clV clC at hm h0
  dsimp only at h0 HY HN1 HN2 hm
  cases b
  · cases hmc : mayC ty true ⟨n, i, t⟩
    · rw [hmc] at hm
      have HE := Lib.hid (HN2.out hmc)
      clear hmc
      go_enter Tryz.func174, Tryz.ntmps174
      go_wp2_with fail
      refine h0.mono ?_
      rintro e w1 ⟨rfl, s1, f1⟩
      have hB1 : ClB w1 w.heap.size _ := hB0.fr f1 (fun e => hgw e)
      have f2 := (Fr.refl Non w1).alloc (.cells #[.bool n, .int .i64 i, .string ⟨t.toArray⟩] 54)
      have hg1 := s1.1.lt
      have hr1 := hB1.lt
      have hB2 : ClB _ w.heap.size _ := hB1.fr f2 (fun e => e)
      have s2 := s1.fr f2 (fun e => e)
      have F2 := (f0.any.trans f1).then f2
      clear hB0 h0 hB1 f0 f1
      go_wp2_with fail
      refine (ok_any g _ _ _ s2).mono ?_
      rintro e w3 ⟨rfl, rfl⟩
      go_wp2_with fail
      refine (hm _).mono ?_
      rintro e w3 ⟨rfl, f3⟩
      go_wp2_with fail
      refine (fail_any g _ _ w3 (s2.fr f3 (fun e => e))).mono ?_
      rintro e w4 ⟨rfl, s4, f4⟩
      have hB4 : ClB w4 w.heap.size _ := (hB2.fr f3 (fun e => e)).fr f4 (fun e => hgw e)
      obtain ⟨c0, c1, c2, z0, z1, z2⟩ := hB4.facts
      dsimp only at c0 c1 c2
      have HB := Lib.hid hB4
      have HF := Lib.hid ((F2.then f3).trans f4)
      have HS := Lib.hid s4
      clear hB2 hB4 f2 f3 f4 s1 s2 s4 F2
      go_wp2
      obtain ⟨e1, e2, e3⟩ := cell_end hg HB.out HF.out HS.out false 0 []
      exact bodyPost_ret (v := clV ⟨false, 0, []⟩) (ret_cl (p := 4) rfl _ _ w.heap.size ⟨false, 0, []⟩ rfl e1) rfl ⟨by rw [HE.out], by rw [HE.out]; exact e2, e3⟩
    · rw [hmc] at hm
      have HE := Lib.hid (HY.out rfl hmc)
      clear hmc
      go_enter Tryz.func174, Tryz.ntmps174
      go_wp2_with fail
      refine h0.mono ?_
      rintro e w1 ⟨rfl, s1, f1⟩
      have hB1 : ClB w1 w.heap.size _ := hB0.fr f1 (fun e => hgw e)
      have f2 := (Fr.refl Non w1).alloc (.cells #[.bool n, .int .i64 i, .string ⟨t.toArray⟩] 54)
      have hC2 := cl_new w1 ⟨n, i, t⟩
      have hg1 := s1.1.lt
      have hr1 := hB1.lt
      have hB2 : ClB _ w.heap.size _ := hB1.fr f2 (fun e => e)
      have s2 := s1.fr f2 (fun e => e)
      have F2 := (f0.any.trans f1).then f2
      clear hB0 h0 hB1 f0 f1
      go_wp2_with fail
      refine (ok_any g _ _ _ s2).mono ?_
      rintro e w3 ⟨rfl, rfl⟩
      go_wp2_with fail
      refine (hm _).mono ?_
      rintro e w3 ⟨rfl, f3⟩
      have s4 := s2.fr f3 (fun e => e)
      have hB4 : ClB w3 w.heap.size _ := hB2.fr f3 (fun e => e)
      have hC4 : ClB w3 w1.heap.size _ := hC2.fr f3 (fun e => e)
      obtain ⟨c0, c1, c2, z0, z1, z2⟩ := hB4.facts
      obtain ⟨d0, d1, d2, _, _, _⟩ := hC4.facts
      dsimp only at c0 c1 c2 d0 d1 d2
      have HB := Lib.hid hB4
      have HF := Lib.hid (F2.then f3)
      have HS := Lib.hid s4
      clear hB2 hB4 f2 f3 s1 s2 s4 F2 hC2 hC4
      go_wp2
      obtain ⟨e1, e2, e3⟩ := cell_end hg HB.out HF.out HS.out n i t
      exact bodyPost_ret (v := clV ⟨n, i, t⟩) (ret_cl (p := 4) rfl _ _ w.heap.size ⟨n, i, t⟩ rfl e1) rfl ⟨by rw [HE.out], by rw [HE.out]; exact e2, e3⟩
  · have HE := Lib.hid (HN1.out rfl)
    go_enter Tryz.func174, Tryz.ntmps174
    go_wp2_with fail
    refine h0.mono ?_
    rintro e w1 ⟨rfl, s1, f1⟩
    have hB1 : ClB w1 w.heap.size _ := hB0.fr f1 (fun e => hgw e)
    have f2 := (Fr.refl Non w1).alloc (.cells #[.bool n, .int .i64 i, .string ⟨t.toArray⟩] 54)
    have hg1 := s1.1.lt
    have hr1 := hB1.lt
    have hB2 : ClB _ w.heap.size _ := hB1.fr f2 (fun e => e)
    have s2 := s1.fr f2 (fun e => e)
    have F2 := (f0.any.trans f1).then f2
    clear hB0 h0 hB1 f0 f1
    go_wp2_with fail
    refine (ok_any g _ _ _ s2).mono ?_
    rintro e w3 ⟨rfl, rfl⟩
    go_wp2_with fail
    refine (fail_any g _ _ _ s2).mono ?_
    rintro e w4 ⟨rfl, s4, f4⟩
    have hB4 : ClB w4 w.heap.size _ := hB2.fr f4 (fun e => hgw e)
    obtain ⟨c0, c1, c2, z0, z1, z2⟩ := hB4.facts
    dsimp only at c0 c1 c2
    have HB := Lib.hid hB4
    have HF := Lib.hid (F2.trans f4)
    have HS := Lib.hid s4
    clear hB2 hB4 f2 f4 s1 s2 s4 F2
    go_wp2
    obtain ⟨e1, e2, e3⟩ := cell_end hg HB.out HF.out HS.out false 0 []
    exact bodyPost_ret (v := clV ⟨false, 0, []⟩) (ret_cl (p := 4) rfl _ _ w.heap.size ⟨false, 0, []⟩ rfl e1) rfl ⟨by rw [HE.out], by rw [HE.out]; exact e2, e3⟩
end Go.Proofs.YtheefloegbkflaaGreatDoor


namespace Go.Proofs.YtheefloegbkflaaGreatDoor
set_option linter.unusedVariables false
set_option linter.unusedSimpArgs false
set_option maxRecDepth 100000
open Go.RowKit

theorem setRow_B {w : World} {g : Nat} {y : Zn} (h : ZnB w g y) (r : Int) : ZnB (w.setCell ⟨g, 0, none⟩ (.int .i64 r)) g ⟨r, y.nulls, y.low, y.high⟩ := Blk.set h 0 _
/-- what read tells: a zone, what is left, whether the source failed -/
def rdZ (ty : Int) (l : List UInt8) : Zn × List UInt8 × Bool :=
  if mostV (mostR l 4096) 4096 < mostV l 4096 then
    (⟨mostV l 4096, mostV (mostR l 4096) 4096, (tkC ty (mostR (mostR l 4096) 4096)).1, (tkC ty (tkC ty (mostR (mostR l 4096) 4096)).2.1).1⟩, (tkC ty (tkC ty (mostR (mostR l 4096) 4096)).2.1).2.1, (tkC ty (tkC ty (mostR (mostR l 4096) 4096)).2.1).2.2)
  else (⟨mostV l 4096, mostV (mostR l 4096) 4096, noCl, noCl⟩, mostR (mostR l 4096) 4096, mostB (mostR l 4096) 4096)
def tkZ (ty : Int) (l : List UInt8) : Zn × List UInt8 × Bool := if (rdZ ty l).2.2 = false ∧ mayZ ty (rdZ ty l).1 = true then rdZ ty l else (noZn, [], true)
theorem tkZ_yes {ty : Int} {l : List UInt8} (h1 : (rdZ ty l).2.2 = false) (h2 : mayZ ty (rdZ ty l).1 = true) : tkZ ty l = rdZ ty l := by unfold tkZ; rw [if_pos ⟨h1, h2⟩]
theorem tkZ_bad {ty : Int} {l : List UInt8} (h1 : (rdZ ty l).2.2 = true) : tkZ ty l = (noZn, [], true) := by unfold tkZ; rw [if_neg (by rw [h1]; simp)]
theorem tkZ_not {ty : Int} {l : List UInt8} (h1 : mayZ ty (rdZ ty l).1 = false) : tkZ ty l = (noZn, [], true) := by unfold tkZ; rw [if_neg (by rw [h1]; simp)]

set_option maxHeartbeats 4000000 in
theorem zread_any (g : Nat) (l : List UInt8) (bad : Bool) (ty : Int) (w : World) (h : Src w g l bad) :
    Calls Tryz.prog 134 #[ptr g, .int .i64 ty] w fun e w' => e = .returned (znV (rdZ ty l).1) ∧ Src w' g (rdZ ty l).2.1 (rdZ ty l).2.2 ∧ Fr (One g) w w' := by
  have hg := h.1.lt
  have F0 : Fr Non w _ := ((Fr.refl Non w).alloc (.cells (znC noZn) 56)).alloc (.cells (znC noZn) 56)
  have hA : ZnB (w.alloc (.cells (znC noZn) 56)) w.heap.size noZn := Blk.new _ _ _
  have hB : ZnB ((w.alloc (.cells (znC noZn) 56)).alloc (.cells (znC noZn) 56)) (w.alloc (.cells (znC noZn) 56)).heap.size noZn := Blk.new _ _ _
  rw [show (w.alloc (.cells (znC noZn) 56)).heap.size = w.heap.size + 1 by simp] at hB
  have hA0 : ZnB ((w.alloc (.cells (znC noZn) 56)).alloc (.cells (znC noZn) 56)) w.heap.size noZn := hA.fr ((Fr.refl Non _).alloc _) (fun e => e)
  have h0 := below_any g l bad 4097 _ (h.fr F0 (fun e => e)) (by omega)
  rw [show (4097 : Int) - 1 = 4096 by rfl] at h0
  have HE0 : rdZ ty l = if mostV (mostR l 4096) 4096 < mostV l 4096 then (⟨mostV l 4096, mostV (mostR l 4096) 4096, (tkC ty (mostR (mostR l 4096) 4096)).1, (tkC ty (tkC ty (mostR (mostR l 4096) 4096)).2.1).1⟩, (tkC ty (tkC ty (mostR (mostR l 4096) 4096)).2.1).2.1, (tkC ty (tkC ty (mostR (mostR l 4096) 4096)).2.1).2.2) else (⟨mostV l 4096, mostV (mostR l 4096) 4096, noCl, noCl⟩, mostR (mostR l 4096) 4096, mostB (mostR l 4096) 4096) := rfl
  generalize rdZ ty l = X at *
  have V2 := fun W s => below_any g (mostR l 4096) (mostB l 4096) 4097 W s (by omega)
  rw [show (4097 : Int) - 1 = 4096 by rfl] at V2
  generalize mostV l 4096 = r at *
  generalize hl1 : mostR l 4096 = l1 at *
  generalize hb1 : mostB l 4096 = b1 at *
  clear hl1 hb1
  generalize mostV l1 4096 = n at *
  generalize mostR l1 4096 = l2 at *
  generalize mostB l1 4096 = b2 at *
  clear h hA
  unfold znC noZn noCl at *
  dsimp only at *
  replace F0 := Lib.hid F0
  replace hB := Lib.hid hB
  replace hA0 := Lib.hid hA0
  replace h0 := Lib.hid h0
  replace V2 := Lib.hid V2
  go_enter Tryz.func134, Tryz.ntmps134
  go_wp2_with fail
  generalize hw : w.heap.size = R at *
  refine h0.out.mono ?_
  rintro e w1 ⟨rfl, s1, f1⟩
  have hB1 : ZnB w1 (R + 1) noZn := hB.out.fr f1 (fun e => by have : R + 1 = g := e; omega)
  have hA1 : ZnB w1 R noZn := hA0.out.fr f1 (fun e => by have : R = g := e; omega)
  have F1 := F0.out.any.trans f1
  clear h0 hB hA0 F0 f1
  have fs := (Fr.refl (One (R + 1)) w1).set1 0 (.int .i64 r)
  have hB2 := setRow_B hB1 r
  have hA2 : ZnB _ R noZn := hA1.fr fs (fun e => by have : R = R + 1 := e; omega)
  have s2 := s1.fr fs (fun e => by have : g = R + 1 := e; omega)
  have F2 := F1.fresh fs (fun k e => by have : k = R + 1 := e; omega)
  obtain ⟨a0, a1, a2, a3, a4, a5, a6, a7⟩ := znB_cells hB1
  obtain ⟨y0, y1, y2, y3, y4, y5, y6, y7⟩ := znB_froz hB1
  have V3 := V2.out _ s2
  clear hB1 hA1 F1 fs s1 s2 V2
  replace hB2 : Hid (ZnB _ _ _) := Lib.hid hB2
  replace hA2 : Hid (ZnB _ _ _) := Lib.hid hA2
  replace F2 := Lib.hid F2
  replace V3 := Lib.hid V3
  go_wp2_with fail
  refine V3.out.mono ?_
  rintro e w3 ⟨rfl, s3, f3⟩
  clear a0 a1 a2 a3 a4 a5 a6 a7 y0 y1 y2 y3 y4 y5 y6 y7
  have hB3 : ZnB w3 (R + 1) ⟨r, 0, noCl, noCl⟩ := hB2.out.fr f3 (fun e => by have : R + 1 = g := e; omega)
  have hA3 : ZnB w3 R noZn := hA2.out.fr f3 (fun e => by have : R = g := e; omega)
  have F3 := F2.out.trans f3
  clear hB2 hA2 F2 f3 V3
  have fs := (Fr.refl (One (R + 1)) w3).set1 1 (.int .i64 n)
  have hB4 : ZnB _ _ ⟨r, n, noCl, noCl⟩ := setNul_B hB3 n
  have hA4 : ZnB _ R noZn := hA3.fr fs (fun e => by have : R = R + 1 := e; omega)
  have s4 := s3.fr fs (fun e => by have : g = R + 1 := e; omega)
  have F4 := F3.fresh fs (fun k e => by have : k = R + 1 := e; omega)
  obtain ⟨a0, a1, a2, a3, a4, a5, a6, a7⟩ := znB_cells hB3
  obtain ⟨y0, y1, y2, y3, y4, y5, y6, y7⟩ := znB_froz hB3
  clear hB3 hA3 F3 fs s3
  have hB4c := hB4
  replace hB4 : Hid (ZnB _ _ _) := Lib.hid hB4
  replace hA4 : Hid (ZnB _ _ _) := Lib.hid hA4
  replace F4 := Lib.hid F4
  replace s4 := Lib.hid s4
  clear hB4c
  have B1 := fun W => bnd_any ⟨r, n, noCl, noCl⟩ W
  unfold znV znC noCl at B1
  dsimp only at B1
  replace B1 := Lib.hid B1
  have hbz : bndZ ⟨(r : Int), n, noCl, noCl⟩ = decide (n < r) := by unfold bndZ; simp
  unfold noCl at hbz
  rw [hbz] at B1
  clear hbz
  go_wp2_with fail
  refine (B1.out _).mono ?_
  rintro e w5 ⟨rfl, f5⟩
  clear a0 a1 a2 a3 a4 a5 a6 a7 y0 y1 y2 y3 y4 y5 y6 y7
  have hB5 : ZnB w5 (R + 1) ⟨r, n, noCl, noCl⟩ := hB4.out.fr f5 (fun e => e)
  have hA5 : ZnB w5 R noZn := hA4.out.fr f5 (fun e => e)
  have s5 := s4.out.fr f5 (fun e => e)
  have F5 := F4.out.then f5
  clear hB4 hA4 F4 s4 f5 B1
  by_cases hb : n < r
  · rw [if_pos hb] at HE0
    have hd : decide (n < r) = true := decide_eq_true hb
    replace HE0 := Lib.hid HE0
    have T1 := ctake_any g l2 b2 ty w5 s5
    have T2 := fun W s => ctake_any g (tkC ty l2).2.1 (tkC ty l2).2.2 ty W s
    generalize tkC ty l2 = p at *
    obtain ⟨lo, l3, b3⟩ := p
    dsimp only at T1 T2 HE0
    generalize tkC ty l3 = q at *
    obtain ⟨hi, l4, b4⟩ := q
    dsimp only at T2 HE0
    replace T1 := Lib.hid T1
    replace T2 := Lib.hid T2
    replace hB5 : Hid (ZnB _ _ _) := Lib.hid hB5
    replace hA5 : Hid (ZnB _ _ _) := Lib.hid hA5
    replace F5 := Lib.hid F5
    clear s5
    go_wp2_with fail
    refine T1.out.mono ?_
    rintro e w6 ⟨rfl, s6, f6⟩
    have hB6 : ZnB w6 (R + 1) ⟨r, n, noCl, noCl⟩ := hB5.out.fr f6 (fun e => by have : R + 1 = g := e; omega)
    have hA6 : ZnB w6 R noZn := hA5.out.fr f6 (fun e => by have : R = g := e; omega)
    have F6 := F5.out.trans f6
    clear hB5 hA5 F5 f6 T1
    have fs := setLow_fr w6 (R + 1) lo.null lo.num lo.txt
    have hB7 : ZnB (setLow w6 (R + 1) lo.null lo.num lo.txt) (R + 1) ⟨r, n, lo, noCl⟩ := setLow_B hB6 lo
    have hA7 : ZnB (setLow w6 (R + 1) lo.null lo.num lo.txt) R noZn := hA6.fr fs (fun e => by have : R = R + 1 := e; omega)
    have s7 := s6.fr fs (fun e => by have : g = R + 1 := e; omega)
    have F7 := F6.fresh fs (fun k e => by have : k = R + 1 := e; omega)
    obtain ⟨a0, a1, a2, a3, a4, a5, a6, a7⟩ := znB_cells hB6
    obtain ⟨y0, y1, y2, y3, y4, y5, y6, y7⟩ := znB_froz hB6
    have V7 := T2.out _ s7
    clear hB6 hA6 F6 fs s6 s7 T2
    unfold setLow at hB7 hA7 F7 V7
    unfold clV clC
    replace hB7 : Hid (ZnB _ _ _) := Lib.hid hB7
    replace hA7 : Hid (ZnB _ _ _) := Lib.hid hA7
    replace F7 := Lib.hid F7
    replace V7 := Lib.hid V7
    go_wp2_with fail
    refine V7.out.mono ?_
    rintro e w8 ⟨rfl, s8, f8⟩
    clear a0 a1 a2 a3 a4 a5 a6 a7 y0 y1 y2 y3 y4 y5 y6 y7
    have hB8 : ZnB w8 (R + 1) ⟨r, n, lo, noCl⟩ := hB7.out.fr f8 (fun e => by have : R + 1 = g := e; omega)
    have hA8 : ZnB w8 R noZn := hA7.out.fr f8 (fun e => by have : R = g := e; omega)
    have F8 := F7.out.trans f8
    clear hB7 hA7 F7 f8 V7
    have fs := setHigh_fr w8 (R + 1) hi.null hi.num hi.txt
    have hA9 : ZnB (setHigh w8 (R + 1) hi.null hi.num hi.txt) R noZn := hA8.fr fs (fun e => by have : R = R + 1 := e; omega)
    have s9 := s8.fr fs (fun e => by have : g = R + 1 := e; omega)
    have F9 := F8.fresh fs (fun k e => by have : k = R + 1 := e; omega)
    obtain ⟨b0, b1, b2, b3', b4', b5, b6, b7⟩ := znB_cells hA8
    obtain ⟨z0, z1, z2, z3, z4, z5, z6, z7⟩ := znB_froz hA8
    obtain ⟨a0, a1, a2, a3, a4, a5, a6, a7⟩ := znB_cells hB8
    obtain ⟨y0, y1, y2, y3, y4, y5, y6, y7⟩ := znB_froz hB8
    have HA := Lib.hid (setZn_B hA9 ⟨r, n, lo, hi⟩)
    have HS := Lib.hid (s9.fr (setZn_fr (setHigh w8 (R + 1) hi.null hi.num hi.txt) R ⟨r, n, lo, hi⟩) (fun e => by have : g = R := e; omega))
    have HF := Lib.hid (F9.fresh (setZn_fr (setHigh w8 (R + 1) hi.null hi.num hi.txt) R ⟨r, n, lo, hi⟩) (fun k e => by have : k = R := e; omega))
    clear hA8 hB8 F8 fs hA9 s8 s9 F9
    unfold clV clC
    go_wp2
    exact bodyPost_ret (v := znV ⟨r, n, lo, hi⟩) (ret_zn (p := 4) rfl _ _ R ⟨r, n, lo, hi⟩ rfl HA.out) rfl ⟨by rw [HE0.out], by rw [HE0.out]; exact HS.out, HF.out⟩
  · rw [if_neg hb] at HE0
    have hd : decide (n < r) = false := decide_eq_false hb
    replace HE0 := Lib.hid HE0
    obtain ⟨b0, b1, b2', b3, b4, b5, b6, b7⟩ := znB_cells hA5
    obtain ⟨z0, z1, z2, z3, z4, z5, z6, z7⟩ := znB_froz hA5
    obtain ⟨a0, a1, a2, a3, a4, a5, a6, a7⟩ := znB_cells hB5
    obtain ⟨y0, y1, y2, y3, y4, y5, y6, y7⟩ := znB_froz hB5
    have HA := Lib.hid (setZn_B hA5 ⟨r, n, noCl, noCl⟩)
    have HS := Lib.hid (s5.fr (setZn_fr w5 R ⟨r, n, noCl, noCl⟩) (fun e => by have : g = R := e; omega))
    have HF := Lib.hid (F5.fresh (setZn_fr w5 R ⟨r, n, noCl, noCl⟩) (fun k e => by have : k = R := e; omega))
    clear hA5 hB5 F5 s5
    go_wp2
    exact bodyPost_ret (v := znV ⟨r, n, noCl, noCl⟩) (ret_zn (p := 4) rfl _ _ R ⟨r, n, noCl, noCl⟩ rfl HA.out) rfl ⟨by rw [HE0.out]; rfl, by rw [HE0.out]; exact HS.out, HF.out⟩

set_option maxHeartbeats 4000000 in
theorem ztake_any (g : Nat) (l : List UInt8) (bad : Bool) (ty : Int) (w : World) (h : Src w g l bad) :
    Calls Tryz.prog 79 #[ptr g, .int .i64 ty] w fun e w' => e = .returned (znV (tkZ ty l).1) ∧ Src w' g (tkZ ty l).2.1 (tkZ ty l).2.2 ∧ Fr (One g) w w' := by
  have hg := h.1.lt
  have hA0 : ZnB (w.alloc (.cells (znC noZn) 56)) w.heap.size noZn := Blk.new _ _ _
  have F0 : Fr Non w _ := (Fr.refl Non w).alloc (.cells (znC noZn) 56)
  have h0 := zread_any g l bad ty _ (h.fr F0 (fun e => e))
  have HY := Lib.hid (tkZ_yes (ty := ty) (l := l))
  have HN1 := Lib.hid (tkZ_bad (ty := ty) (l := l))
  have HN2 := Lib.hid (tkZ_not (ty := ty) (l := l))
  generalize rdZ ty l = x at *
  obtain ⟨z, r, b⟩ := x
  dsimp only at h0 HY HN1 HN2
  have M1 := fun W => zmay_any ty z W
  unfold znV at M1 h0
  unfold znC noZn noCl at *
  dsimp only at *
  replace h0 := Lib.hid h0
  replace hA0 := Lib.hid hA0
  replace F0 := Lib.hid F0
  replace M1 := Lib.hid M1
  clear h
  go_enter Tryz.func79, Tryz.ntmps79
  go_wp2_with fail
  generalize hw : w.heap.size = R at *
  refine h0.out.mono ?_
  rintro e w1 ⟨rfl, s1, f1⟩
  have hA1 : ZnB w1 R noZn := hA0.out.fr f1 (fun e => by have : R = g := e; omega)
  have F1 := F0.out.any.trans f1
  have f2 := (Fr.refl Non w1).alloc (.cells (znC z) 56)
  have hB2 : ZnB (w1.alloc (.cells (znC z) 56)) w1.heap.size z := Blk.new _ _ _
  have hA2 : ZnB (w1.alloc (.cells (znC z) 56)) R noZn := hA1.fr f2 (fun e => e)
  have s2 := s1.fr f2 (fun e => e)
  have F2 := F1.then f2
  have hRw := hA1.lt
  have hgw := s1.1.lt
  clear hA0 F0 h0 f1 hA1 F1 f2 s1
  have K1 := ok_any g _ _ _ s2
  unfold znC at hB2 hA2 s2 F2 K1
  replace hB2 : Hid (ZnB _ _ _) := Lib.hid hB2
  replace hA2 : Hid (ZnB _ _ _) := Lib.hid hA2
  replace F2 := Lib.hid F2
  replace s2 := Lib.hid s2
  replace K1 := Lib.hid K1
  go_wp2_with fail
  refine K1.out.mono ?_
  rintro e w3 ⟨rfl, rfl⟩
  clear K1
  cases b
  · cases hm : mayZ ty z
    · replace HN2 := Lib.hid (HN2.out hm)
      rw [hm] at M1
      clear hm HN1 HY
      obtain ⟨a0, a1, a2, a3, a4, a5, a6, a7⟩ := znB_cells hB2.out
      go_wp2_with fail
      refine (M1.out _).mono ?_
      rintro e w4 ⟨rfl, f4⟩
      have hA4 : ZnB w4 R noZn := hA2.out.fr f4 (fun e => e)
      have s4 := s2.out.fr f4 (fun e => e)
      have F4 := F2.out.then f4
      have hB4 : ZnB w4 _ z := hB2.out.fr f4 (fun e => e)
      clear a0 a1 a2 a3 a4 a5 a6 a7 hA2 s2 F2 hB2 f4 M1
      replace hA4 : Hid (ZnB _ _ _) := Lib.hid hA4
      replace s4 := Lib.hid s4
      replace F4 := Lib.hid F4
      clear hB4
      go_wp2_with fail
      refine (fail_any g _ _ _ s4.out).mono ?_
      rintro e w5 ⟨rfl, s5, f5⟩
      have hA5 : ZnB w5 R noZn := hA4.out.fr f5 (fun e => by have : R = g := e; omega)
      have F5 := F4.out.trans f5
      obtain ⟨b0, b1, b2, b3, b4, b5, b6, b7⟩ := znB_cells hA5
      obtain ⟨z0, z1, z2, z3, z4, z5, z6, z7⟩ := znB_froz hA5
      have HA := Lib.hid (setZn_B hA5 noZn)
      have HS := Lib.hid (s5.fr (setZn_fr w5 R noZn) (fun e => by have : g = R := e; omega))
      have HF := Lib.hid (F5.fresh (setZn_fr w5 R noZn) (fun k e => by have : k = R := e; omega))
      clear hA5 s5 F5 f5
      go_wp2
      exact bodyPost_ret (v := znV noZn) (ret_zn (p := 4) rfl _ _ R noZn rfl HA.out) rfl ⟨by rw [HN2.out]; rfl, by rw [HN2.out]; exact HS.out, HF.out⟩
    · replace HY := Lib.hid (HY.out rfl hm)
      rw [hm] at M1
      clear hm HN1 HN2
      obtain ⟨a0, a1, a2, a3, a4, a5, a6, a7⟩ := znB_cells hB2.out
      go_wp2_with fail
      refine (M1.out _).mono ?_
      rintro e w4 ⟨rfl, f4⟩
      have hA4 : ZnB w4 R noZn := hA2.out.fr f4 (fun e => e)
      have s4 := s2.out.fr f4 (fun e => e)
      have F4 := F2.out.then f4
      have hB4 : ZnB w4 _ z := hB2.out.fr f4 (fun e => e)
      clear a0 a1 a2 a3 a4 a5 a6 a7 hA2 s2 F2 hB2 f4 M1
      obtain ⟨a0, a1, a2, a3, a4, a5, a6, a7⟩ := znB_cells hB4
      obtain ⟨b0, b1, b2, b3, b4, b5, b6, b7⟩ := znB_cells hA4
      obtain ⟨z0, z1, z2, z3, z4, z5, z6, z7⟩ := znB_froz hA4
      have HA := Lib.hid (setZn_B hA4 z)
      have HS := Lib.hid (s4.fr (setZn_fr w4 R z) (fun e => by have : g = R := e; omega))
      have HF := Lib.hid (F4.fresh (setZn_fr w4 R z) (fun k e => by have : k = R := e; omega))
      clear hA4 hB4 s4 F4
      go_wp2
      exact bodyPost_ret (v := znV z) (ret_zn (p := 4) rfl _ _ R z rfl HA.out) rfl ⟨by rw [HY.out], by rw [HY.out]; exact HS.out, HF.out⟩
  · replace HN1 := Lib.hid (HN1.out rfl)
    clear HY HN2 hB2 M1
    go_wp2_with fail
    refine (fail_any g _ _ _ s2.out).mono ?_
    rintro e w5 ⟨rfl, s5, f5⟩
    have hA5 : ZnB w5 R noZn := hA2.out.fr f5 (fun e => by have : R = g := e; omega)
    have F5 := F2.out.trans f5
    obtain ⟨b0, b1, b2, b3, b4, b5, b6, b7⟩ := znB_cells hA5
    obtain ⟨z0, z1, z2, z3, z4, z5, z6, z7⟩ := znB_froz hA5
    have HA := Lib.hid (setZn_B hA5 noZn)
    have HS := Lib.hid (s5.fr (setZn_fr w5 R noZn) (fun e => by have : g = R := e; omega))
    have HF := Lib.hid (F5.fresh (setZn_fr w5 R noZn) (fun k e => by have : k = R := e; omega))
    clear hA5 s5 F5 f5
    go_wp2
    exact bodyPost_ret (v := znV noZn) (ret_zn (p := 4) rfl _ _ R noZn rfl HA.out) rfl ⟨by rw [HN1.out]; rfl, by rw [HN1.out]; exact HS.out, HF.out⟩
end Go.Proofs.YtheefloegbkflaaGreatDoor


namespace Go.Proofs.YtheefloegbkflaaGreatDoor
set_option linter.unusedVariables false
set_option linter.unusedSimpArgs false
set_option maxRecDepth 100000
open Go.RowKit

theorem SAt.lt {w : World} {g : Nat} {S : Nat → Prop} {l : List UInt8} {bad : Bool} (h : SAt w g S l bad) : g < w.heap.size := by
  obtain ⟨v, h1, _⟩ := h; exact h1.lt
theorem SAt.non {w w' : World} {g : Nat} {S : Nat → Prop} {l : List UInt8} {bad : Bool} (h : SAt w g S l bad) (hf : Fr Non w w') : SAt w' g S l bad := h.fr hf (fun e => e) (fun _ e => e.elim)
/-- a cell stored whole in a block that was made behind the source's -/
theorem SAt.setCl {w : World} {g R : Nat} {S : Nat → Prop} {l : List UInt8} {bad : Bool} (h : SAt w g S l bad) (hn : g ≠ R) (hB : ∀ v, Blk w g 88 #[v, .bool bad] → ∀ k, v.ownBlock = some k → k ≠ R) (n : Bool) (i : Int) (t : List UInt8) : SAt (setCl w R n i t) g S l bad := by
  obtain ⟨v, h1, h2, h3, h4, h5⟩ := h
  exact ⟨v, h1.fr (setCl_fr _ _ _ _ _) (fun e => hn e), h2.fr (setCl_fr _ _ _ _ _) (fun k hk e => hB v h1 k hk e), h3, h4, h5⟩

end Go.Proofs.YtheefloegbkflaaGreatDoor


namespace Go.Proofs.YtheefloegbkflaaGreatDoor
set_option linter.unusedVariables false
set_option linter.unusedSimpArgs false
set_option maxRecDepth 100000
open Go.RowKit

theorem tkC_nil (ty : Int) : tkC ty [] = (⟨false, 0, []⟩, [], true) := by
  have h : (rdC ty []).2.2 = true := by
    have e1 : mostV [] 1 = 0 := by unfold mostV; split <;> rfl
    rw [rdC_null e1]
    unfold mostB; split <;> rfl
  exact tkC_bad h
/-- a source that failed behind the numbers: nothing is taken -/
theorem tkZ_early {ty : Int} {l : List UInt8} (h : mostB (mostR l 4096) 4096 = true) : tkZ ty l = (noZn, [], true) := by
  apply tkZ_bad
  unfold rdZ
  rw [mostB_R h, tkC_nil, tkC_nil]
  split
  · rfl
  · exact h
/-- the document's source behind a store into a block of its own -/
theorem SAt.st {w w' : World} {g G : Nat} {S : Nat → Prop} {l : List UInt8} {bad : Bool} (h : SAt w g S l bad) (hf : Fr (One G) w w') (hn : g ≠ G) (hS : S G) : SAt w' g S l bad :=
  h.fr hf (fun e => hn e) (fun k e => by rw [show k = G from e]; exact hS)
end Go.Proofs.YtheefloegbkflaaGreatDoor


namespace Go.Proofs.YtheefloegbkflaaGreatDoor
set_option linter.unusedVariables false
set_option linter.unusedSimpArgs false
set_option maxRecDepth 100000
open Go.RowKit

/-- a cell that may be is read again out of its bytes -/
theorem tkC_own {ty : Int} {c : Cl} (hc : ClOk c) (hm : mayC ty true c = true) (r : List UInt8) : tkC ty (cellB ty c ++ r) = (c, r, false) := by
  have hrd : rdC ty (cellB ty c ++ r) = (c, r, false) := by
    obtain ⟨n, i, t⟩ := c
    have ht : ty = 1 ∨ ty = 2 ∨ ty = 3 := by
      by_cases h1 : ty = 1
      · exact .inl h1
      · by_cases h2 : ty = 2
        · exact .inr (.inl h2)
        · by_cases h3 : ty = 3
          · exact .inr (.inr h3)
          · rw [mayC_no h1 h2 h3] at hm; cases hm
    cases n
    · have h1 := fun x => most_own (n := 1) (m := 1) (by omega) (by decide) x
      rw [uv_one] at h1
      have hl := hc.lo; have hh := hc.hi
      dsimp only at hl hh
      by_cases h3 : ty = 3
      · subst h3
        simp [mayC, isTy] at hm
        obtain ⟨h0, h40⟩ := hm
        rw [cellB_txt rfl, List.append_assoc]
        obtain ⟨e1, e2, e3⟩ := h1 (textB t ++ r)
        obtain ⟨x1, x2, x3⟩ := txt_own (t := t) (r := r) (m := 40) (by omega) (by unfold two64; omega)
        rw [rdC_txt (by rw [e1]; decide), e2, x1, x2, x3, h0]
      · have h12 : ty = 1 ∨ ty = 2 := by omega
        have ht0 : t = [] := by
          rcases h12 with h | h <;> subst h <;> simp [mayC, isTy] at hm
          · exact hm
          · exact hm.1
        subst ht0
        rw [cellB_num rfl h12, List.append_assoc]
        obtain ⟨e1, e2, e3⟩ := h1 (Lib.uvarint (zig i) ++ r)
        obtain ⟨x1, x2, x3, _⟩ := rest_some (rd_own (zig_lt hl hh) r)
        rw [rdC_num (by rw [e1]; decide) h12, e2, x1, x2, x3, unzig_zig]
    · have h1 := most_own (n := 0) (m := 1) (by omega) (by decide) r
      rw [uv_zero] at h1
      have hz : i = 0 ∧ t = [] := by
        rcases ht with h | h | h <;> subst h <;> simp [mayC, isTy] at hm <;> exact hm
      obtain ⟨rfl, rfl⟩ := hz
      rw [cellB_null rfl, rdC_null h1.1, h1.2.1, h1.2.2]
  unfold tkC
  rw [hrd, if_pos ⟨rfl, hm⟩]

end Go.Proofs.YtheefloegbkflaaGreatDoor


namespace Go.Proofs.YtheefloegbkflaaGreatDoor
set_option linter.unusedVariables false
set_option linter.unusedSimpArgs false
set_option maxRecDepth 100000
open Go.RowKit

/-! ### The zone of cells, as a function -/
theorem isOf_all (l : List Cl) : ∃ z, IsOf l z := by
  have H : ∀ k, k ≤ l.length → ∃ z first, JInv l.length (nulC (l.take k)) (liveC (l.take k)) z first := by
    intro k
    induction k with
    | zero => intro _; exact ⟨_, _, jinv_start _ _⟩
    | succ k ih =>
      intro hk
      obtain ⟨z, first, h⟩ := ih (by omega)
      cases hn : l[k].null with
      | true => exact ⟨_, _, jinv_yes (by omega) h hn⟩
      | false => exact ⟨_, _, jinv_no (by omega) h hn⟩
  obtain ⟨z, first, h⟩ := H l.length (Nat.le_refl _)
  rw [List.take_length] at h
  exact ⟨z, jinv_end h⟩
noncomputable def zoneF (l : List Cl) : Zn := (isOf_all l).choose
theorem zoneF_is (l : List Cl) : IsOf l (zoneF l) := (isOf_all l).choose_spec
theorem IsOf.eqF {l : List Cl} {z : Zn} (h : IsOf l z) : z = zoneF l := isOf_uniq h (zoneF_is l)
theorem zoneF_rows (l : List Cl) : (zoneF l).rows = l.length := (zoneF_is l).rows
theorem zoneF_ok {l : List Cl} (h : ∀ c ∈ l, c.txt.length ≤ 40 ∧ I64 c.num) : ClOk (zoneF l).low ∧ ClOk (zoneF l).high := by
  have q : ∀ c, (c ∈ liveC l ∨ c = noCl) → ClOk c := by
    rintro c (hc | rfl)
    · have h1 := h c (mem_liveC.1 hc).1
      exact ⟨h1.2.1, h1.2.2, by omega⟩
    · exact ⟨by unfold noCl; decide, by unfold noCl; decide, by unfold noCl; decide⟩
  rcases (zoneF_is l).bnds with ⟨_, e1, e2⟩ | ⟨e1, e2, _⟩
  · exact ⟨q _ (.inr e1), q _ (.inr e2)⟩
  · exact ⟨q _ (.inl e1), q _ (.inl e2)⟩
theorem zoneF_txt {l : List Cl} (h : ∀ c ∈ l, c.txt.length ≤ 40 ∧ I64 c.num) : (zoneF l).low.txt.length ≤ 40 ∧ (zoneF l).high.txt.length ≤ 40 ∧ I64 (zoneF l).low.num ∧ I64 (zoneF l).high.num := by
  have q : ∀ c, (c ∈ liveC l ∨ c = noCl) → c.txt.length ≤ 40 ∧ I64 c.num := by
    rintro c (hc | rfl)
    · exact h c (mem_liveC.1 hc).1
    · exact ⟨by unfold noCl; decide, by unfold noCl I64; decide⟩
  rcases (zoneF_is l).bnds with ⟨_, e1, e2⟩ | ⟨e1, e2, _⟩
  · have a := q _ (.inr e1); have b := q _ (.inr e2); exact ⟨a.1, b.1, a.2, b.2⟩
  · have a := q _ (.inl e1); have b := q _ (.inl e2); exact ⟨a.1, b.1, a.2, b.2⟩
/-- a zone that may be is read again, whatever stands behind it -/
theorem tkZ_ownR {ty : Int} {z : Zn} (hlo : ClOk z.low) (hhi : ClOk z.high) (hm : mayZ ty z = true) (r0 : List UInt8) : tkZ ty (zoneB ty z ++ r0) = (z, r0, false) := by
  obtain ⟨q1, q2, q3⟩ := mayZ_cnt hm
  have hrd : rdZ ty (zoneB ty z ++ r0) = (z, r0, false) := by
    have hm2 := hm
    rw [mayZ_is] at hm2
    obtain ⟨r, n, lo, hi⟩ := z
    dsimp only at q1 q2 q3 hlo hhi
    obtain ⟨n, rfl⟩ := Int.eq_ofNat_of_zero_le q1
    obtain ⟨r, rfl⟩ := Int.eq_ofNat_of_zero_le (show 0 ≤ r by omega)
    have h1 := fun rest => most_own (n := r) (m := 4096) (by omega) (by unfold two64; omega) rest
    have h2 := fun rest => most_own (n := n) (m := 4096) (by omega) (by unfold two64; omega) rest
    cases hb : bndZ ⟨r, n, lo, hi⟩ with
    | true =>
      rw [zoneB_some hm hb]
      rw [hb] at hm2
      dsimp only [Int.toNat_natCast] at hm2 ⊢
      have hlt : n < r := by have := of_decide_eq_true hb; dsimp only at this; omega
      simp only [if_true, Bool.and_eq_true] at hm2
      obtain ⟨_, _, m1, m2, _⟩ := hm2
      have t1 := tkC_own hlo (mayC_true m1) (cellB ty hi ++ r0)
      have t2 := tkC_own hhi (mayC_true m2) r0
      rw [show (((Lib.uvarint r ++ Lib.uvarint n) ++ cellB ty lo) ++ cellB ty hi) ++ r0 = Lib.uvarint r ++ (Lib.uvarint n ++ (cellB ty lo ++ (cellB ty hi ++ r0))) by simp]
      unfold rdZ
      rw [(h1 _).1, (h1 _).2.1, (h2 _).1, (h2 _).2.1, t1]
      dsimp only
      rw [t2, if_pos hlt]
    | false =>
      rw [zoneB_none hm hb]
      rw [hb] at hm2
      dsimp only [Int.toNat_natCast] at hm2 ⊢
      have hlt : ¬ n < r := by have := of_decide_eq_false hb; dsimp only at this; omega
      simp only [Bool.false_eq_true, if_false, Bool.and_eq_true] at hm2
      obtain ⟨_, _, m1, m2⟩ := hm2
      have e1 := ceq_is m1
      have e2 := ceq_is m2
      rw [List.append_assoc]
      unfold rdZ
      rw [(h1 _).1, (h1 _).2.1, (h2 _).1, (h2 _).2.1, (h2 _).2.2, if_neg hlt, e1, e2]
  have e : mayZ ty (rdZ ty (zoneB ty z ++ r0)).1 = true := by rw [hrd]; exact hm
  rw [tkZ_yes (by rw [hrd]) e, hrd]
theorem cellB_len {ty : Int} {c : Cl} (h : c.txt.length ≤ 40 ∧ I64 c.num) : (cellB ty c).length ≤ 60 := by
  have h1 := Lib.uvarint_length64 (zig_lt h.2.1 h.2.2)
  have h2 := Lib.uvarint_length64 (show c.txt.length < 18446744073709551616 by omega)
  unfold cellB textB
  split
  · simp
  · split
    · simp; omega
    · split
      · simp; omega
      · simp
theorem zoneB_len {ty : Int} {z : Zn} (h1 : z.low.txt.length ≤ 40 ∧ I64 z.low.num) (h2 : z.high.txt.length ≤ 40 ∧ I64 z.high.num) : (zoneB ty z).length ≤ 140 := by
  cases hm : mayZ ty z with
  | false => rw [zoneB_no hm]; simp
  | true =>
    obtain ⟨q1, q2, q3⟩ := mayZ_cnt hm
    have a := Lib.uvarint_length64 (show z.rows.toNat < 18446744073709551616 by omega)
    have b := Lib.uvarint_length64 (show z.nulls.toNat < 18446744073709551616 by omega)
    cases hb : bndZ z with
    | true => rw [zoneB_some hm hb]; have := cellB_len (ty := ty) h1; have := cellB_len (ty := ty) h2; simp only [List.length_append]; omega
    | false => rw [zoneB_none hm hb]; simp only [List.length_append]; omega

/-! ### A segment's bytes: of each column its type and its cells -/
abbrev Kl := Int × List Cl
def chunkF (p : Kl) : List UInt8 := frameB (putC p.1 p.2)
noncomputable def sayC (p : Kl) : List UInt8 := Lib.uvarint (chunkF p).length ++ zoneB p.1 (zoneF p.2)
noncomputable def saysF (n : Nat) (P : List Kl) : List UInt8 := Lib.uvarint n ++ P.flatMap sayC
noncomputable def footF (n : Nat) (P : List Kl) : List UInt8 := frameB (saysF n P)
noncomputable def segF (n : Nat) (P : List Kl) : List UInt8 := P.flatMap chunkF ++ footF n P
theorem chunk_take {P : List Kl} {k : Nat} (h : k < P.length) : (P.take (k + 1)).flatMap chunkF = (P.take k).flatMap chunkF ++ chunkF P[k] := by
  rw [List.take_succ_eq_append_getElem h, List.flatMap_append]; simp
theorem says_take {P : List Kl} {k : Nat} (n : Nat) (h : k < P.length) : saysF n (P.take (k + 1)) = (saysF n (P.take k) ++ Lib.uvarint (chunkF P[k]).length) ++ zoneB P[k].1 (zoneF P[k].2) := by
  unfold saysF
  rw [List.take_succ_eq_append_getElem h, List.flatMap_append]; simp [sayC]
/-- the column at i of rows; all columns -/
def colC (rows : List (List Cl)) (i : Nat) : List Cl := rows.map fun r => r.getD i noCl
def kls (cols : List Co) (rows : List (List Cl)) : List Kl := (List.range cols.length).map fun i => ((cols.getD i noCo).ty, colC rows i)
theorem kls_length (cols : List Co) (rows : List (List Cl)) : (kls cols rows).length = cols.length := by simp [kls]
theorem kls_at (cols : List Co) (rows : List (List Cl)) (i : Nat) (h : i < cols.length) (h2 : i < (kls cols rows).length) : (kls cols rows)[i] = (cols[i].ty, colC rows i) := by
  simp [kls, h]
theorem colC_length (rows : List (List Cl)) (i : Nat) : (colC rows i).length = rows.length := by simp [colC]
/-- why there is no segment -/
def segE (cols : List Co) (rows : List (List Cl)) : Int := if chkC cols ≠ 0 ∨ rows.length = 0 then 1 else if 200 < rows.length then 4 else if rows.all (rowB cols) = true then 0 else 10

/-- a column of so many cells that may be -/
structure KlOk (n : Nat) (p : Kl) : Prop where
  ty : isTy p.1 = true
  len : p.2.length = n
  may : ∀ c ∈ p.2, mayC p.1 true c = true ∧ I64 c.num
theorem mayC_txt {ty : Int} {nl : Bool} {c : Cl} (h : mayC ty nl c = true) : c.txt.length ≤ 40 := by
  unfold mayC at h
  simp only [Bool.and_eq_true] at h
  obtain ⟨_, h⟩ := h
  split at h
  · simp at h; rw [h.2.2]; simp
  · split at h
    · simp at h; exact h.2
    · simp at h; rw [h.1]; simp
theorem mayC_up {ty : Int} {nl : Bool} {c : Cl} (h : mayC ty nl c = true) : mayC ty true c = true := by
  unfold mayC at *
  cases hn : c.null with
  | true => rw [hn] at h; simp at h ⊢; exact ⟨h.1, h.2.2⟩
  | false => rw [hn] at h; exact h
theorem mayC_nl {ty : Int} {nl : Bool} {c : Cl} (h : mayC ty nl c = true) (hn : c.null = true) : nl = true := by
  unfold mayC at h
  rw [hn] at h
  simp at h; exact h.2.1
theorem KlOk.cells {n : Nat} {p : Kl} (h : KlOk n p) : ∀ c ∈ p.2, c.txt.length ≤ 40 ∧ I64 c.num := fun c hc => ⟨mayC_txt (h.may c hc).1, (h.may c hc).2⟩
theorem KlOk.zone {n : Nat} {p : Kl} (h : KlOk n p) (hn : n ≤ 4096) : mayZ p.1 (zoneF p.2) = true := isOf_may (zoneF_is _) h.ty (fun c hc => (h.may c hc).1) (by rw [h.len]; exact hn)
theorem KlOk.chunk {n : Nat} {p : Kl} (h : KlOk n p) (hn : n ≤ 200) : 0 < (putC p.1 p.2).length ∧ (putC p.1 p.2).length ≤ 10300 ∧ (chunkF p).length ≤ 10320 := by
  have h1 := putC_pos (l := p.2) h.ty
  have h2 := putC_len h.ty h.may
  rw [h.len] at h2
  have h3 := Lib.uvarint_length64 (show (putC p.1 p.2).length < 18446744073709551616 by omega)
  refine ⟨h1, by omega, ?_⟩
  unfold chunkF
  rw [frame_length]
  omega
theorem KlOk.say {n : Nat} {p : Kl} (h : KlOk n p) (hn : n ≤ 200) : (sayC p).length ≤ 150 := by
  have h1 := (h.chunk hn).2.2
  have h2 := Lib.uvarint_length64 (show (chunkF p).length < 18446744073709551616 by omega)
  obtain ⟨a, b, c, d⟩ := zoneF_txt h.cells
  have h3 := zoneB_len (ty := p.1) ⟨a, c⟩ ⟨b, d⟩
  unfold sayC
  rw [List.length_append]
  omega
theorem chunks_len {n : Nat} {P : List Kl} (h : ∀ p ∈ P, KlOk n p) (hn : n ≤ 200) : (P.flatMap chunkF).length ≤ 10320 * P.length := by
  induction P with
  | nil => simp
  | cons p P ih =>
    rw [List.flatMap_cons, List.length_append, List.length_cons]
    have := ((h p (by simp)).chunk hn).2.2
    have := ih fun q hq => h q (by simp [hq])
    omega
theorem sayCs_len {n : Nat} {P : List Kl} (h : ∀ p ∈ P, KlOk n p) (hn : n ≤ 200) : (P.flatMap sayC).length ≤ 150 * P.length := by
  induction P with
  | nil => simp
  | cons p P ih =>
    rw [List.flatMap_cons, List.length_append, List.length_cons]
    have := (h p (by simp)).say hn
    have := ih fun q hq => h q (by simp [hq])
    omega
theorem says_len {n : Nat} {P : List Kl} (h : ∀ p ∈ P, KlOk n p) (hn : n ≤ 200) (hP : P.length ≤ 6) : (saysF n P).length ≤ 910 := by
  have h1 := Lib.uvarint_length64 (show n < 18446744073709551616 by omega)
  have h2 := sayCs_len h hn
  unfold saysF
  rw [List.length_append]
  omega
theorem foot_len {n : Nat} {P : List Kl} (h : ∀ p ∈ P, KlOk n p) (hn : n ≤ 200) (hP : P.length ≤ 6) : (footF n P).length ≤ 930 := by
  have h1 := says_len h hn hP
  have h3 := Lib.uvarint_length64 (show (saysF n P).length < 18446744073709551616 by omega)
  unfold footF
  rw [frame_length]
  omega
theorem seg_len {n : Nat} {P : List Kl} (h : ∀ p ∈ P, KlOk n p) (hn : n ≤ 200) (hP : P.length ≤ 6) : (segF n P).length ≤ 63000 := by
  have h1 := foot_len h hn hP
  have h2 := chunks_len h hn
  unfold segF
  rw [List.length_append]
  omega
/-- the rows may be: so may each column -/
theorem kls_ok {cols : List Co} {rows : List (List Cl)} (hc : chkC cols = 0) (hr : rows.all (rowB cols) = true) (hi : ∀ r ∈ rows, ∀ c ∈ r, I64 c.num) : ∀ p ∈ kls cols rows, KlOk rows.length p := by
  intro p hp
  obtain ⟨i, hi', rfl⟩ := List.mem_map.1 hp
  have hlt : i < cols.length := by simpa using hi'
  have hg : cols.getD i noCo = cols[i] := by simp [hlt]
  have hok := chk_each hc cols[i] (List.getElem_mem hlt)
  have hty : isTy cols[i].ty = true := by have := hok.lo; have := hok.hi; unfold isTy; simp; omega
  refine ⟨by rw [hg]; exact hty, colC_length _ _, fun c hcm => ?_⟩
  obtain ⟨r, hrm, rfl⟩ := List.mem_map.1 hcm
  have hrb := List.all_eq_true.1 hr r hrm
  obtain ⟨e, hj⟩ := of_decide_eq_true hrb
  have hlt2 : i < r.length := by omega
  have hd : r.getD i noCl = r[i] := by simp [hlt2]
  have := hj i hlt hlt2
  rw [hg]
  dsimp only
  rw [hd]
  exact ⟨mayC_up this, hi r hrm _ (List.getElem_mem hlt2)⟩
theorem kls_null {cols : List Co} {rows : List (List Cl)} (hr : rows.all (rowB cols) = true) (i : Nat) (h : i < cols.length) : ∀ c ∈ colC rows i, c.null = true → cols[i].nl = true := by
  intro c hcm hn
  obtain ⟨r, hrm, rfl⟩ := List.mem_map.1 hcm
  have hrb := List.all_eq_true.1 hr r hrm
  obtain ⟨e, hj⟩ := of_decide_eq_true hrb
  have hlt2 : i < r.length := by omega
  have hd : r.getD i noCl = r[i] := by simp [hlt2]
  rw [hd] at hn
  exact mayC_nl (hj i h hlt2) hn

/-! ### What is read -/
/-- a chunk's place, and its zone -/
structure Ch where
  off : Nat
  len : Nat
  zn : Zn
  deriving DecidableEq
def rdSay (R ty : Int) (l : List UInt8) : List UInt8 × Bool :=
  if (tkZ ty (mostR l 1048576)).1.rows = R then (tkZ ty (mostR l 1048576)).2 else ([], true)
/-- of each column: where its chunk is; how many bytes there are; what is left; whether the source failed -/
def rdSays (R : Int) : List Int → Nat → List UInt8 → Bool → List Ch × Nat × List UInt8 × Bool
  | [], at_, l, bad => ([], at_, l, bad)
  | ty :: tys, at_, l, _ => (⟨at_, mostV l 1048576, (tkZ ty (mostR l 1048576)).1⟩ :: (rdSays R tys (at_ + mostV l 1048576) (rdSay R ty l).1 (rdSay R ty l).2).1, (rdSays R tys (at_ + mostV l 1048576) (rdSay R ty l).1 (rdSay R ty l).2).2)
theorem rdSays_len (R : Int) : ∀ (tys : List Int) (at_ : Nat) (l : List UInt8) (b : Bool), (rdSays R tys at_ l b).1.length = tys.length
  | [], _, _, _ => rfl
  | ty :: tys, at_, l, b => by
    unfold rdSays
    rw [List.length_cons, rdSays_len R tys, List.length_cons]
/-- behind k columns: D are read, at_ bytes are ahead, q is left -/
structure ToS (R : Int) (tys : List Int) (l : List UInt8) (b : Bool) (k : Nat) (D : List Ch) (at_ : Nat) (q : List UInt8) (bad : Bool) : Prop where
  len : D.length = k
  one : (rdSays R tys 0 l b).1 = D ++ (rdSays R (tys.drop k) at_ q bad).1
  two : (rdSays R tys 0 l b).2 = (rdSays R (tys.drop k) at_ q bad).2
  big : at_ ≤ k * 1048576
theorem toS_zero (R : Int) (tys : List Int) (l : List UInt8) (b : Bool) : ToS R tys l b 0 [] 0 l b := ⟨rfl, rfl, rfl, Nat.le_refl _⟩
theorem toS_step {R : Int} {tys : List Int} {l : List UInt8} {b : Bool} {k : Nat} {D : List Ch} {at_ : Nat} {q : List UInt8} {bad : Bool} (h : ToS R tys l b k D at_ q bad) (hk : k < tys.length) :
    ToS R tys l b (k + 1) (D ++ [⟨at_, mostV q 1048576, (tkZ tys[k] (mostR q 1048576)).1⟩]) (at_ + mostV q 1048576) (rdSay R tys[k] q).1 (rdSay R tys[k] q).2 := by
  obtain ⟨h0, h1, h2, h3⟩ := h
  rw [List.drop_eq_getElem_cons hk] at h1 h2
  have hm := mostK_le q (show (0 : Int) ≤ 1048576 by omega)
  refine ⟨by simp [h0], ?_, ?_, by omega⟩
  · rw [h1, List.append_assoc]; rfl
  · rw [h2]; rfl
theorem toS_end {R : Int} {tys : List Int} {l : List UInt8} {b : Bool} {k : Nat} {D : List Ch} {at_ : Nat} {q : List UInt8} {bad : Bool} (h : ToS R tys l b k D at_ q bad) (hk : tys.length ≤ k) : rdSays R tys 0 l b = (D, at_, q, bad) := by
  obtain ⟨h0, h1, h2, h3⟩ := h
  rw [List.drop_eq_nil_of_le hk] at h1 h2
  have e1 : (rdSays R tys 0 l b).1 = D := by rw [h1]; simp [rdSays]
  have e2 : (rdSays R tys 0 l b).2 = (at_, q, bad) := by rw [h2]; rfl
  exact Prod.ext e1 e2
/-- a source that failed stays so -/
theorem rdSay_nil (R ty : Int) : rdSay R ty [] = ([], true) := by
  unfold rdSay
  rw [(most_nil 1048576).2.1]
  have h : tkZ ty [] = (noZn, [], true) := tkZ_early (by rw [(most_nil 4096).2.1, (most_nil 4096).2.2])
  rw [h]
  split <;> rfl
theorem rdSays_bad (R : Int) : ∀ (tys : List Int) (at_ : Nat), (rdSays R tys at_ [] true).2.2.2 = true
  | [], _ => rfl
  | ty :: tys, at_ => by
    unfold rdSays
    rw [rdSay_nil]
    exact rdSays_bad R tys _
/-- all that a footer of these columns says -/
def rdF (cols : List Co) (b : List UInt8) : List Ch × Nat × List UInt8 × Bool := rdSays (mostV (gB b) 200) (cols.map Co.ty) 0 (mostR (gB b) 200) (mostB (gB b) 200)
def rowsF (b : List UInt8) : Nat := mostV (gB b) 200
def goodF (cols : List Co) (b : List UInt8) (size : Int) : Bool :=
  decide (gN b = b.length ∧ rowsF b ≠ 0 ∧ (rdF cols b).2.2.2 = false ∧ (rdF cols b).2.2.1 = [] ∧ (((rdF cols b).2.1 + b.length : Nat) : Int) = size)
/-- what Read answers: an error's number, rows, chunks -/
def readF (cols : List Co) (b : List UInt8) (size : Int) : Int × Nat × List Ch :=
  if chkC cols ≠ 0 then (1, 0, []) else if gE b ≠ 0 then (((gE b : Nat) : Int), 0, []) else if goodF cols b size = true then (0, rowsF b, (rdF cols b).1) else (2, 0, [])
theorem readF_arg {cols : List Co} (b : List UInt8) (size : Int) (h : chkC cols ≠ 0) : readF cols b size = (1, 0, []) := by unfold readF; rw [if_pos h]
theorem readF_frame {cols : List Co} {b : List UInt8} (size : Int) (h : chkC cols = 0) (h2 : gE b ≠ 0) : readF cols b size = (((gE b : Nat) : Int), 0, []) := by unfold readF; rw [if_neg (by omega), if_pos h2]
theorem readF_yes {cols : List Co} {b : List UInt8} {size : Int} (h : chkC cols = 0) (h2 : gE b = 0) (h3 : goodF cols b size = true) : readF cols b size = (0, rowsF b, (rdF cols b).1) := by unfold readF; rw [if_neg (by omega), if_neg (by omega), if_pos h3]
theorem readF_no {cols : List Co} {b : List UInt8} {size : Int} (h : chkC cols = 0) (h2 : gE b = 0) (h3 : goodF cols b size = false) : readF cols b size = (2, 0, []) := by unfold readF; rw [if_neg (by omega), if_neg (by omega), h3]; rfl
/-- chunks one behind the other, up to so many bytes -/
def Chain : List Ch → Nat → Nat → Prop
  | [], a, e => a = e
  | c :: cs, a, e => c.off = a ∧ Chain cs (a + c.len) e
theorem rdSays_chain (R : Int) : ∀ (tys : List Int) (at_ : Nat) (l : List UInt8) (b : Bool), Chain (rdSays R tys at_ l b).1 at_ (rdSays R tys at_ l b).2.1
  | [], _, _, _ => rfl
  | ty :: tys, at_, l, b => ⟨rfl, rdSays_chain R tys _ _ _⟩
theorem chain_le : ∀ (cs : List Ch) (a e : Nat), Chain cs a e → a ≤ e ∧ ∀ i (h : i < cs.length), cs[i].off + cs[i].len ≤ e
  | [], a, e, h => ⟨Nat.le_of_eq h, fun i h => by cases h⟩
  | c :: cs, a, e, ⟨h1, h2⟩ => by
    obtain ⟨h3, h4⟩ := chain_le cs _ e h2
    refine ⟨by omega, fun i hi => ?_⟩
    cases i with
    | zero => simp only [List.getElem_cons_zero]; omega
    | succ i => simp only [List.getElem_cons_succ]; exact h4 i (by simpa using hi)
/-- what a footer that is read is -/
theorem readF_is {cols : List Co} {b : List UInt8} {size : Int} (h : (readF cols b size).1 = 0) : chkC cols = 0 ∧ 1 ≤ (readF cols b size).2.1 ∧ (readF cols b size).2.1 ≤ 200 ∧ (readF cols b size).2.2.length = cols.length ∧
    ∃ e : Nat, Chain (readF cols b size).2.2 0 e ∧ ((e + b.length : Nat) : Int) = size := by
  by_cases h1 : chkC cols = 0
  · by_cases h2 : gE b = 0
    · by_cases h3 : goodF cols b size = true
      · rw [readF_yes h1 h2 h3]
        obtain ⟨g1, g2, g3, g4, g5⟩ := of_decide_eq_true h3
        have hm := mostK_le (gB b) (show (0 : Int) ≤ 200 by omega)
        unfold rowsF at g2
        refine ⟨h1, by dsimp only; unfold rowsF; omega, by dsimp only; unfold rowsF; omega, ?_, _, rdSays_chain _ _ _ _ _, g5⟩
        dsimp only
        unfold rdF
        rw [rdSays_len, List.length_map]
      · rw [readF_no h1 h2 (by simpa using h3)] at h; cases h
    · rw [readF_frame size h1 h2] at h; exact absurd (by simpa using h) h2
  · rw [readF_arg b size h1] at h; cases h
/-- what Column answers, of a column that there is -/
noncomputable def colR (c : Co) (R : Int) (z : Zn) (b : List UInt8) : Int × List Cl :=
  if gE b ≠ 0 then (((gE b : Nat) : Int), []) else
  match getC c.ty (gB b) R with
  | none => (2, [])
  | some l => if gN b = b.length ∧ zoneF l = z ∧ ¬ (0 < (zoneF l).nulls ∧ c.nl = false) then (0, l) else (2, [])
theorem colR_frame (c : Co) (R : Int) (z : Zn) {b : List UInt8} (h : gE b ≠ 0) : colR c R z b = (((gE b : Nat) : Int), []) := by unfold colR; rw [if_pos h]
theorem colR_none {c : Co} {R : Int} (z : Zn) {b : List UInt8} (h : gE b = 0) (h2 : getC c.ty (gB b) R = none) : colR c R z b = (2, []) := by unfold colR; rw [if_neg (by omega), h2]
theorem colR_yes {c : Co} {R : Int} {z : Zn} {b : List UInt8} {l : List Cl} (h : gE b = 0) (h2 : getC c.ty (gB b) R = some l) (h3 : gN b = b.length ∧ zoneF l = z ∧ ¬ (0 < (zoneF l).nulls ∧ c.nl = false)) : colR c R z b = (0, l) := by
  unfold colR; rw [if_neg (by omega), h2]; exact if_pos h3
theorem colR_no {c : Co} {R : Int} {z : Zn} {b : List UInt8} {l : List Cl} (h : gE b = 0) (h2 : getC c.ty (gB b) R = some l) (h3 : ¬ (gN b = b.length ∧ zoneF l = z ∧ ¬ (0 < (zoneF l).nulls ∧ c.nl = false))) : colR c R z b = (2, []) := by
  unfold colR; rw [if_neg (by omega), h2]; exact if_neg h3
theorem colR_is {c : Co} {R : Int} {z : Zn} {b : List UInt8} (h : (colR c R z b).1 = 0) : ((colR c R z b).2.length : Int) = R := by
  unfold colR at *
  by_cases h1 : gE b = 0
  · rw [if_neg (by omega)] at *
    cases hg : getC c.ty (gB b) R with
    | none => rw [hg] at h; cases h
    | some l =>
      rw [hg] at h
      dsimp only at h ⊢
      by_cases h3 : gN b = b.length ∧ zoneF l = z ∧ ¬ (0 < (zoneF l).nulls ∧ c.nl = false)
      · rw [if_pos h3]; exact (getC_is hg).1
      · rw [if_neg h3] at h; cases h
  · rw [if_pos h1] at h; exact absurd (by simpa using h) h1
theorem colR_short {c : Co} {R : Int} {z : Zn} {b : List UInt8} : (colR c R z b).2.length ≤ 4096 := by
  unfold colR
  split
  · simp
  · cases hg : getC c.ty (gB b) R with
    | none => simp
    | some l =>
      dsimp only
      have := getC_is hg
      split
      · dsimp only; omega
      · simp
noncomputable def colE (cols : List Co) (R : Int) (chs : List Ch) (i : Int) (b : List UInt8) : Int × List Cl :=
  if i < 0 ∨ (cols.length : Int) ≤ i ∨ (chs.length : Int) ≤ i then (1, []) else colR (cols.getD i.toNat noCo) R (chs.getD i.toNat ⟨0, 0, noZn⟩).zn b
theorem colE_arg {cols : List Co} {R : Int} {chs : List Ch} {i : Int} (b : List UInt8) (h : i < 0 ∨ (cols.length : Int) ≤ i ∨ (chs.length : Int) ≤ i) : colE cols R chs i b = (1, []) := by unfold colE; rw [if_pos h]
theorem colE_at {cols : List Co} {R : Int} {chs : List Ch} {i : Nat} (b : List UInt8) (h1 : i < cols.length) (h2 : i < chs.length) : colE cols R chs i b = colR cols[i] R chs[i].zn b := by
  unfold colE; rw [if_neg (by omega)]; simp [h1, h2]
/-- the pieces of chunks -/
def pieceF (b : List UInt8) (c : Ch) : List UInt8 := (b.drop c.off).take c.len
/-- the columns of these chunks, up to the first one that has an error -/
noncomputable def colsR (cols : List Co) (R : Int) (chs : List Ch) (b : List UInt8) : Nat → Int × List (List Cl)
  | 0 => (0, [])
  | k + 1 => if (colsR cols R chs b k).1 ≠ 0 then colsR cols R chs b k else if (colE cols R chs k (pieceF b (chs.getD k ⟨0, 0, noZn⟩))).1 ≠ 0 then ((colE cols R chs k (pieceF b (chs.getD k ⟨0, 0, noZn⟩))).1, []) else (0, (colsR cols R chs b k).2 ++ [(colE cols R chs k (pieceF b (chs.getD k ⟨0, 0, noZn⟩))).2])
theorem colsR_more {cols : List Co} {R : Int} {chs : List Ch} {b : List UInt8} {k : Nat} (h : (colsR cols R chs b k).1 = 0) (h2 : (colE cols R chs k (pieceF b (chs.getD k ⟨0, 0, noZn⟩))).1 = 0) : colsR cols R chs b (k + 1) = (0, (colsR cols R chs b k).2 ++ [(colE cols R chs k (pieceF b (chs.getD k ⟨0, 0, noZn⟩))).2]) := by
  rw [colsR, if_neg (by omega), if_neg (by omega)]
theorem colsR_stop {cols : List Co} {R : Int} {chs : List Ch} {b : List UInt8} {k : Nat} (h : (colsR cols R chs b k).1 = 0) (h2 : (colE cols R chs k (pieceF b (chs.getD k ⟨0, 0, noZn⟩))).1 ≠ 0) : colsR cols R chs b (k + 1) = ((colE cols R chs k (pieceF b (chs.getD k ⟨0, 0, noZn⟩))).1, []) := by
  rw [colsR, if_neg (by omega), if_pos h2]
theorem colsR_err {cols : List Co} {R : Int} {chs : List Ch} {b : List UInt8} {k : Nat} (h : (colsR cols R chs b k).1 ≠ 0) : ∀ n, k ≤ n → colsR cols R chs b n = colsR cols R chs b k := by
  intro n hn
  induction n with
  | zero =>
    obtain rfl : k = 0 := by omega
    rfl
  | succ n ih =>
    by_cases e : k = n + 1
    · rw [e]
    · have := ih (by omega)
      rw [colsR, this, if_pos h]
theorem colsR_len {cols : List Co} {R : Int} {chs : List Ch} {b : List UInt8} : ∀ {k : Nat}, (colsR cols R chs b k).1 = 0 → (colsR cols R chs b k).2.length = k
  | 0, _ => rfl
  | k + 1, h => by
    by_cases h1 : (colsR cols R chs b k).1 = 0
    · by_cases h2 : (colE cols R chs k (pieceF b (chs.getD k ⟨0, 0, noZn⟩))).1 = 0
      · rw [colsR_more h1 h2, List.length_append, colsR_len h1]; rfl
      · rw [colsR_stop h1 h2] at h; exact absurd h h2
    · rw [colsR_err h1 (k + 1) (by omega)] at h; exact absurd h h1
/-- so many rows of columns -/
def across (cs : List (List Cl)) (n : Nat) : List (List Cl) := (List.range n).map fun k => cs.map fun l => l.getD k noCl
theorem across_length (cs : List (List Cl)) (n : Nat) : (across cs n).length = n := by simp [across]
theorem across_at (cs : List (List Cl)) (n k : Nat) (h : k < (across cs n).length) : (across cs n)[k] = cs.map fun l => l.getD k noCl := by simp [across]
/-- what Rows answers -/
noncomputable def rowsR (cols : List Co) (b : List UInt8) (foot : Int) : Int × List (List Cl) :=
  if foot < 0 ∨ (b.length : Int) < foot then (2, []) else
  if (readF cols (b.drop (b.length - foot.toNat)) b.length).1 ≠ 0 then ((readF cols (b.drop (b.length - foot.toNat)) b.length).1, []) else
  if (colsR cols (readF cols (b.drop (b.length - foot.toNat)) b.length).2.1 (readF cols (b.drop (b.length - foot.toNat)) b.length).2.2 b cols.length).1 ≠ 0 then ((colsR cols (readF cols (b.drop (b.length - foot.toNat)) b.length).2.1 (readF cols (b.drop (b.length - foot.toNat)) b.length).2.2 b cols.length).1, []) else
  (0, across (colsR cols (readF cols (b.drop (b.length - foot.toNat)) b.length).2.1 (readF cols (b.drop (b.length - foot.toNat)) b.length).2.2 b cols.length).2 (readF cols (b.drop (b.length - foot.toNat)) b.length).2.1)
theorem rowsR_arg {cols : List Co} {b : List UInt8} {foot : Int} (h : foot < 0 ∨ (b.length : Int) < foot) : rowsR cols b foot = (2, []) := by unfold rowsR; rw [if_pos h]
theorem rowsR_read {cols : List Co} {b : List UInt8} {foot : Nat} {e : Int} {R : Nat} {chs : List Ch} (h : foot ≤ b.length) (hr : readF cols (b.drop (b.length - foot)) b.length = (e, R, chs)) (he : e ≠ 0) : rowsR cols b foot = (e, []) := by
  unfold rowsR; rw [if_neg (by omega), Int.toNat_natCast, hr, if_pos he]
theorem rowsR_cols {cols : List Co} {b : List UInt8} {foot : Nat} {R : Nat} {chs : List Ch} (h : foot ≤ b.length) (hr : readF cols (b.drop (b.length - foot)) b.length = (0, R, chs)) (hc : (colsR cols R chs b cols.length).1 ≠ 0) : rowsR cols b foot = ((colsR cols R chs b cols.length).1, []) := by
  unfold rowsR; rw [if_neg (by omega), Int.toNat_natCast, hr, if_neg (by simp)]
  dsimp only
  rw [if_pos hc]
theorem rowsR_yes {cols : List Co} {b : List UInt8} {foot : Nat} {R : Nat} {chs : List Ch} (h : foot ≤ b.length) (hr : readF cols (b.drop (b.length - foot)) b.length = (0, R, chs)) (hc : (colsR cols R chs b cols.length).1 = 0) : rowsR cols b foot = (0, across (colsR cols R chs b cols.length).2 R) := by
  unfold rowsR; rw [if_neg (by omega), Int.toNat_natCast, hr, if_neg (by simp)]
  dsimp only
  rw [if_neg (by omega)]
/-! ### What is built is read -/
noncomputable def chsF : List Kl → Nat → List Ch
  | [], _ => []
  | p :: P, a => ⟨a, (chunkF p).length, zoneF p.2⟩ :: chsF P (a + (chunkF p).length)
theorem chsF_length : ∀ (P : List Kl) (a : Nat), (chsF P a).length = P.length
  | [], _ => rfl
  | p :: P, a => by unfold chsF; rw [List.length_cons, chsF_length P, List.length_cons]
theorem chsF_at : ∀ (P : List Kl) (a i : Nat) (h : i < P.length) (h2 : i < (chsF P a).length), (chsF P a)[i] = ⟨a + ((P.take i).flatMap chunkF).length, (chunkF P[i]).length, zoneF P[i].2⟩
  | p :: P, a, 0, h, h2 => by simp [chsF]
  | p :: P, a, i + 1, h, h2 => by
    have h' : i < P.length := by simpa using h
    have := chsF_at P (a + (chunkF p).length) i h' (by rw [chsF_length]; exact h')
    simp only [chsF, List.getElem_cons_succ, this, List.take_succ_cons, List.flatMap_cons, List.length_append]
    congr 1
    omega
theorem rdSays_own {n : Nat} (hn : n ≤ 200) : ∀ (P : List Kl) (a : Nat) (r : List UInt8) (b : Bool), b = false → (∀ p ∈ P, KlOk n p) →
    rdSays n (P.map Prod.fst) a (P.flatMap sayC ++ r) b = (chsF P a, a + (P.flatMap chunkF).length, r, false)
  | [], a, r, b, hb, _ => by subst hb; rfl
  | p :: P, a, r, b, hb, h => by
    have hp := h p (by simp)
    have hc := (hp.chunk hn).2.2
    obtain ⟨m1, m2, m3⟩ := most_own (n := (chunkF p).length) (m := 1048576) (by omega) (by unfold two64; omega) (zoneB p.1 (zoneF p.2) ++ (P.flatMap sayC ++ r))
    obtain ⟨z1, z2⟩ := zoneF_ok hp.cells
    have ht := tkZ_ownR z1 z2 (hp.zone (by omega)) (P.flatMap sayC ++ r)
    have ih := rdSays_own hn P (a + (chunkF p).length) r false rfl (fun q hq => h q (by simp [hq]))
    have hsay : rdSay (n : Int) p.1 (Lib.uvarint (chunkF p).length ++ (zoneB p.1 (zoneF p.2) ++ (P.flatMap sayC ++ r))) = (P.flatMap sayC ++ r, false) := by
      unfold rdSay
      rw [m2, ht]
      dsimp only
      rw [if_pos (by rw [zoneF_rows, hp.len])]
    rw [List.map_cons, List.flatMap_cons]
    rw [show (sayC p ++ P.flatMap sayC) ++ r = Lib.uvarint (chunkF p).length ++ (zoneB p.1 (zoneF p.2) ++ (P.flatMap sayC ++ r)) by unfold sayC; simp]
    unfold rdSays
    rw [hsay, m1, m2, ht]
    dsimp only
    rw [ih]
    dsimp only
    rw [List.flatMap_cons, List.length_append, ← Nat.add_assoc]
    rfl
theorem readF_own {cols : List Co} {n : Nat} {P : List Kl} (hc : chkC cols = 0) (hP : P.map Prod.fst = cols.map Co.ty) (h : ∀ p ∈ P, KlOk n p) (hn : n ≤ 200) (hn1 : 1 ≤ n) : readF cols (footF n P) (segF n P).length = (0, n, chsF P 0) := by
  have hPl : P.length = cols.length := by have := congrArg List.length hP; simpa using this
  have hP6 : P.length ≤ 6 := by rw [hPl]; exact (chk_is hc).2.2.2
  have hsl := says_len h hn hP6
  obtain ⟨g1, g2, g3⟩ := got_own (l := saysF n P) (by omega) []
  rw [List.append_nil] at g1 g2 g3
  obtain ⟨m1, m2, m3⟩ := most_own (n := n) (m := 200) (by omega) (by unfold two64; omega) (P.flatMap sayC)
  have hrow : rowsF (footF n P) = n := by
    unfold rowsF footF; rw [g2]; exact m1
  have hrd : rdF cols (footF n P) = (chsF P 0, (P.flatMap chunkF).length, [], false) := by
    unfold rdF footF
    rw [g2]
    unfold saysF
    rw [m1, m2, m3, ← hP]
    have := rdSays_own hn P 0 [] false rfl h
    rw [List.append_nil, Nat.zero_add] at this
    exact this
  have hgood : goodF cols (footF n P) (segF n P).length = true := by
    unfold goodF
    rw [hrd, hrow]
    refine decide_eq_true ⟨g3, by omega, rfl, rfl, ?_⟩
    dsimp only
    unfold segF
    rw [List.length_append]
  have g1' : gE (footF n P) = 0 := g1
  rw [readF_yes hc g1' hgood, hrow, hrd]
/-- the piece of the column at i -/
theorem piece_own (P : List Kl) (tail : List UInt8) (i : Nat) (h : i < P.length) : ((P.flatMap chunkF ++ tail).drop ((P.take i).flatMap chunkF).length).take (chunkF P[i]).length = chunkF P[i] := by
  have e : P.flatMap chunkF = (P.take i).flatMap chunkF ++ (chunkF P[i] ++ (P.drop (i + 1)).flatMap chunkF) := by
    conv => lhs; rw [← List.take_append_drop i P, List.drop_eq_getElem_cons h]
    rw [List.flatMap_append, List.flatMap_cons]
  rw [e, List.append_assoc, List.drop_left, List.append_assoc, List.take_left]
/-- the column of built cells is read as it -/
theorem colR_own {c : Co} {n : Nat} {p : Kl} (h : KlOk n p) (hn : n ≤ 200) (hty : p.1 = c.ty) (hnl : ∀ x ∈ p.2, x.null = true → c.nl = true) : colR c n (zoneF p.2) (chunkF p) = (0, p.2) := by
  obtain ⟨h1, h2, h3⟩ := h.chunk hn
  obtain ⟨g1, g2, g3⟩ := got_own (l := putC p.1 p.2) (by omega) []
  rw [List.append_nil] at g1 g2 g3
  have hg := getC_put (l := p.2) h.ty (by rw [h.len]; omega) h.may
  rw [h.len] at hg
  refine colR_yes (l := p.2) g1 (by unfold chunkF; rw [g2, ← hty]; exact hg) ⟨g3, rfl, fun ⟨q1, q2⟩ => ?_⟩
  rw [(zoneF_is p.2).nulls] at q1
  unfold nulC at q1
  obtain ⟨x, hx⟩ := List.exists_mem_of_length_pos (show 0 < (p.2.filter fun c => c.null).length by omega)
  obtain ⟨hx1, hx2⟩ := List.mem_filter.1 hx
  rw [hnl x hx1 (by simpa using hx2)] at q2
  cases q2
theorem colsR_own {cols : List Co} {n : Nat} {P : List Kl} (hP : P.map Prod.fst = cols.map Co.ty) (h : ∀ p ∈ P, KlOk n p) (hn : n ≤ 200) (hnl : ∀ i (h1 : i < P.length) (h2 : i < cols.length), ∀ x ∈ P[i].2, x.null = true → cols[i].nl = true) (tail : List UInt8) :
    ∀ k, k ≤ cols.length → colsR cols n (chsF P 0) (P.flatMap chunkF ++ tail) k = (0, (P.take k).map Prod.snd) := by
  have hPl : P.length = cols.length := by have := congrArg List.length hP; simpa using this
  intro k
  induction k with
  | zero => intro _; simp [colsR]
  | succ k ih =>
    intro hk
    have ih := ih (by omega)
    have hkP : k < P.length := by omega
    have hkc : k < (chsF P 0).length := by rw [chsF_length]; exact hkP
    have hat := chsF_at P 0 k hkP hkc
    have hgd : (chsF P 0).getD k ⟨0, 0, noZn⟩ = (chsF P 0)[k] := by simp [hkc]
    have hty : P[k].1 = cols[k].ty := by
      have := congrArg (fun l => l[k]?) hP
      simpa [hkP, show k < cols.length by omega] using this
    have hpc : pieceF (P.flatMap chunkF ++ tail) ((chsF P 0).getD k ⟨0, 0, noZn⟩) = chunkF P[k] := by
      rw [hgd, hat]
      unfold pieceF
      dsimp only
      rw [Nat.zero_add]
      exact piece_own P tail k hkP
    have hcol : colE cols n (chsF P 0) k (pieceF (P.flatMap chunkF ++ tail) ((chsF P 0).getD k ⟨0, 0, noZn⟩)) = (0, P[k].2) := by
      rw [hpc, colE_at _ (by omega) hkc, hat]
      exact colR_own (h _ (List.getElem_mem hkP)) hn hty (hnl k hkP (by omega))
    rw [colsR_more (by rw [ih]) (by rw [hcol]), ih, hcol, List.take_succ_eq_append_getElem hkP, List.map_append]
    rfl
theorem kls_types (cols : List Co) (rows : List (List Cl)) : (kls cols rows).map Prod.fst = cols.map Co.ty := by
  refine List.ext_getElem (by simp [kls]) fun i h1 h2 => ?_
  have h3 : i < cols.length := by simpa using h2
  simp [kls, h3]
theorem kls_cells (cols : List Co) (rows : List (List Cl)) : (kls cols rows).map Prod.snd = (List.range cols.length).map (colC rows) := by
  simp [kls]
/-- across the columns of rows there are the rows -/
theorem across_own {n : Nat} {rows : List (List Cl)} (h : ∀ r ∈ rows, r.length = n) : across ((List.range n).map (colC rows)) rows.length = rows := by
  refine List.ext_getElem (by rw [across_length]) fun k h1 h2 => ?_
  rw [across_at, List.map_map]
  have hr := h rows[k] (List.getElem_mem h2)
  refine List.ext_getElem (by simp [hr]) fun i h3 h4 => ?_
  have hi : i < n := by simpa using h3
  simp only [List.getElem_map, List.getElem_range, Function.comp]
  unfold colC
  rw [List.getD_eq_getElem?_getD, List.getElem?_map, List.getElem?_eq_getElem h2]
  simp [h4]
/-- all rows are read -/
theorem rowsR_own {cols : List Co} {rows : List (List Cl)} (hc : chkC cols = 0) (hr : rows.all (rowB cols) = true) (hi : ∀ r ∈ rows, ∀ c ∈ r, I64 c.num) (hn : rows.length ≤ 200) (hn1 : 1 ≤ rows.length) :
    rowsR cols (segF rows.length (kls cols rows)) (footF rows.length (kls cols rows)).length = (0, rows) := by
  have hP := kls_types cols rows
  have hok := kls_ok hc hr hi
  have hrd := readF_own hc hP hok hn hn1
  have hle : (footF rows.length (kls cols rows)).length ≤ (segF rows.length (kls cols rows)).length := by unfold segF; rw [List.length_append]; omega
  have hdr : (segF rows.length (kls cols rows)).drop ((segF rows.length (kls cols rows)).length - (footF rows.length (kls cols rows)).length) = footF rows.length (kls cols rows) := by
    unfold segF
    rw [List.length_append, Nat.add_sub_cancel, List.drop_left]
  have hcs := colsR_own hP hok hn (fun i h1 h2 => by rw [kls_at cols rows i h2 h1]; exact kls_null hr i h2) (footF rows.length (kls cols rows)) cols.length (Nat.le_refl _)
  rw [rowsR_yes hle (by rw [hdr]; exact hrd) (by unfold segF; rw [hcs])]
  unfold segF
  rw [hcs]
  dsimp only
  rw [List.take_of_length_le (by rw [kls_length]; exact Nat.le_refl _), kls_cells, across_own (fun r hrm => (of_decide_eq_true (List.all_eq_true.1 hr r hrm)).1.symm)]
end Go.Proofs.YtheefloegbkflaaGreatDoor
