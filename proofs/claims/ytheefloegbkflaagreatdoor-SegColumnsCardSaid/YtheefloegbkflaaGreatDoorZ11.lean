/-
  Joined: Layer 11: the zone of a list's cells, the document's. · Layer 13: rows as a segment, the document's. · Layer 13: rows compared; which arguments are small; the example; the walk of the law on what is built. · Layer 3: the walks of firkinref03.Get, of the law's example, and of the law FramePuts. · Layer 13: a footer read, the document's. · Layer 10: the document's Get.
-/
import Derived.Deep.RegionHeld3
import Derived.StillTail
import Derived.Test.YtheefloegbkflaaGreatDoorZ7
import Derived.Test.YtheefloegbkflaaGreatDoorZ9
import Derived.Test.YtheefloegbkflaaGreatDoorZ8
import Derived.Test.YtheefloegbkflaaGreatDoorZ10
import Derived.Test.YtheefloegbkflaaGreatDoorZ3
import Derived.Deep.QuietTactic
import Derived.BigQuiet
import Derived.Deep.MidRow
import Derived.Test.YtheefloegbkflaaGreatDoorZ6

namespace Go.Proofs.YtheefloegbkflaaGreatDoor
set_option linter.unusedVariables false
set_option linter.unusedSimpArgs false
set_option maxRecDepth 100000
open Go.RowKit

theorem At3.frs {S : Nat → Prop} {w w' : World} {a : Addr} {c : Cl} (h : At3 w a c) (hf : Fr S w w') (hn : ¬ S a.block) : At3 w' a c :=
  h.keep (hf.block _ (World.block_lt_of_cell? w _ h.c0) hn)
theorem At3.drew {w : World} {a : Addr} {c : Cl} (h : At3 w a c) : At3 w.drew a c := ⟨h.c0, h.c1, h.c2⟩
/-- what the loop of the document's holds: the element, the zone, the result's block -/
structure ROf (w : World) (ad : Addr) (R : Nat) (x : Cl) (z : Zn) : Prop where
  el : At3 w ad x
  zn : ZnB w (R + 1) z
  out : ZnB w R noZn
theorem ROf.non {w w' : World} {ad : Addr} {R : Nat} {x : Cl} {z : Zn} (h : ROf w ad R x z) (hf : Fr Non w w') : ROf w' ad R x z := ⟨h.el.frs hf (fun e => e), h.zn.fr hf (fun e => e), h.out.fr hf (fun e => e)⟩
theorem ROf.drew {w : World} {ad : Addr} {R : Nat} {x : Cl} {z : Zn} (h : ROf w ad R x z) : ROf w.drew ad R x z := ⟨h.el.drew, h.zn, h.out⟩
theorem ROf.low {w : World} {ad : Addr} {R : Nat} {x : Cl} {z : Zn} (h : ROf w ad R x z) (hd : ad.block ≠ R + 1) (c : Cl) : ROf (setLow w (R + 1) c.null c.num c.txt) ad R x ⟨z.rows, z.nulls, c, z.high⟩ :=
  ⟨h.el.frs (setLow_fr _ _ _ _ _) hd, setLow_B h.zn c, h.out.fr (setLow_fr _ _ _ _ _) (fun e => by have : R = R + 1 := e; omega)⟩
theorem ROf.high {w : World} {ad : Addr} {R : Nat} {x : Cl} {z : Zn} (h : ROf w ad R x z) (hd : ad.block ≠ R + 1) (c : Cl) : ROf (setHigh w (R + 1) c.null c.num c.txt) ad R x ⟨z.rows, z.nulls, z.low, c⟩ :=
  ⟨h.el.frs (setHigh_fr _ _ _ _ _) hd, setHigh_B h.zn c, h.out.fr (setHigh_fr _ _ _ _ _) (fun e => by have : R = R + 1 := e; omega)⟩

set_option maxHeartbeats 4000000 in
theorem rzof_any (v : Value) (l : List Cl) (w : World) (hv : Cs w v l) (hvl : ∀ q, v.ownBlock = some q → q < w.heap.size) (hl : l.length ≤ 1000000) :
    Calls Tryz.prog 38 #[v] w fun e w' => ∃ z, e = .returned (znV z) ∧ IsOf l z ∧ Fr Non w w' := by
  obtain ⟨A, c, rfl, hlc, hn, hcell⟩ := hv
  have HC := Lib.hid hcell
  have HN := Lib.hid hn
  clear hcell hn
  have f0 : Fr Non w _ := ((Fr.refl Non w).alloc (.cells (znC noZn) 56)).alloc (.cells (znC ⟨l.length, 0, noCl, noCl⟩) 56)
  have hA : ZnB (w.alloc (.cells (znC noZn) 56)) w.heap.size noZn := Blk.new _ _ _
  have hB : ZnB ((w.alloc (.cells (znC noZn) 56)).alloc (.cells (znC ⟨l.length, 0, noCl, noCl⟩) 56)) (w.alloc (.cells (znC noZn) 56)).heap.size ⟨l.length, 0, noCl, noCl⟩ := Blk.new _ _ _
  have hsz : (w.alloc (.cells (znC noZn) 56)).heap.size = w.heap.size + 1 := by simp
  rw [hsz] at hB
  have hA2 : ZnB ((w.alloc (.cells (znC noZn) 56)).alloc (.cells (znC ⟨l.length, 0, noCl, noCl⟩) 56)) w.heap.size noZn := hA.fr ((Fr.refl Non _).alloc _) (fun e => e)
  have J0 := Lib.hid (jinv_start l.length 0)
  clear hA hsz
  unfold znC noZn noCl at *
  dsimp only at *
  replace f0 := Lib.hid f0
  replace hB := Lib.hid hB
  replace hA2 := Lib.hid hA2
  go_enter Tryz.func38, Tryz.ntmps38
  go_wp2
  generalize hw : w.heap.size = R at *
  have HW := Lib.hid (Nat.le_of_eq hw)
  have hVL := hvl
  clear hw hvl
  go_loopw [4] (fun i wr => ∃ (k : Nat) (z : Zn), k ≤ l.length ∧ i = .int .i64 k ∧ JInv l.length (nulC (l.take k)) (liveC (l.take k)) z (decide (z.nulls = k)) ∧ ZnB wr (R + 1) z ∧ ZnB wr R noZn ∧ Fr Non w wr) (fun i _ => l.length - (intOf i).toNat)
  case atStart => exact ⟨0, _, Nat.zero_le _, rfl, J0.out, hB.out, hA2.out, f0.out⟩
  case round =>
    clear hA2 hB f0 J0
    obtain ⟨k, z, hk, rfl, hJ, hZ, hO, hF⟩ := hrel
    by_cases hlt : k < l.length
    · cases A with
      | none => have := HN.out rfl; omega
      | some a =>
        have hel := hF.at3 (HC.out a rfl k hlt)
        have hbd : (a.add (k * 3)).block < R := by rw [add_block]; exact hVL a.block rfl
        have HY := Lib.hid (jinv_yes hlt hJ)
        have HX := Lib.hid (jinv_no hlt hJ)
        obtain ⟨hn0, hn1⟩ := jinv_le (Nat.le_of_lt hlt) hJ
        clear hJ
        generalize l[k] = x at *
        have hN : ROf wr (a.add (k * 3)) R x z := ⟨hel, hZ, hO⟩
        have had : (a.add (k * 3)).block ≠ R + 1 := by omega
        clear hel hZ hO
        obtain ⟨xn, xi, xt⟩ := x
        cases xn
        · replace HX := Lib.hid (HX.out rfl)
          clear HY
          have O1 := fun W => rorder_any ⟨false, xi, xt⟩ z.low W
          have O2 := fun W => rorder_any ⟨false, xi, xt⟩ z.high W
          have HZ : noteZ (decide (z.nulls = k)) z ⟨false, xi, xt⟩ = ⟨z.rows, z.nulls, if (decide (z.nulls = k) || decide (ordC ⟨false, xi, xt⟩ z.low < 0)) = true then ⟨false, xi, xt⟩ else z.low, if (decide (z.nulls = k) || decide (0 < ordC ⟨false, xi, xt⟩ z.high)) = true then ⟨false, xi, xt⟩ else z.high⟩ := rfl
          generalize ordC ⟨false, xi, xt⟩ z.low = x at *
          generalize ordC ⟨false, xi, xt⟩ z.high = y at *
          unfold clV clC at O1 O2
          dsimp only at O1 O2
          replace O1 := Lib.hid O1
          replace O2 := Lib.hid O2
          replace HZ := Lib.hid HZ
          obtain ⟨c0, c1, c2⟩ := hN.el.lit
          dsimp only at c0 c1 c2
          have z1 : wr.cell? ⟨R + 1, 1, none⟩ = some (.int .i64 z.nulls) := hN.zn.cell 1
          by_cases hfi : z.nulls = k
          · have HZ1 : Hid (noteZ (decide (z.nulls = k)) z ⟨false, xi, xt⟩ = ⟨z.rows, z.nulls, ⟨false, xi, xt⟩, ⟨false, xi, xt⟩⟩) := Lib.hid (by rw [HZ.out, decide_eq_true hfi]; rfl)
            have HE : Hid (JInv l.length (nulC (l.take (k + 1))) (liveC (l.take (k + 1))) ⟨z.rows, z.nulls, ⟨false, xi, xt⟩, ⟨false, xi, xt⟩⟩ (decide (z.nulls = (k + 1 : Nat)))) := Lib.hid (by rw [HZ1.out] at HX; have := HX.out; rwa [show decide (z.nulls = ((k + 1 : Nat) : Int)) = false from decide_eq_false (by omega)])
            have hd : (z.nulls == (k : Int)) = true := by simpa using hfi
            clear HZ HZ1 HX O1 O2 hfi
            go_wp2
            clear c0 c1 c2 z1
            go_region
            replace hN := hN.drew
            replace hF := hF.drew
            generalize wr.drew = V1 at *
            have hL : ROf (setLow V1 (R + 1) false xi xt) (a.add (k * 3)) R ⟨false, xi, xt⟩ ⟨z.rows, z.nulls, ⟨false, xi, xt⟩, z.high⟩ := hN.low had ⟨false, xi, xt⟩
            have FF : Fr Non w (setLow V1 (R + 1) false xi xt) := hF.fresh (setLow_fr V1 (R + 1) false xi xt) (fun q e => by have : q = R + 1 := e; have := HW.out; omega)
            replace hL := Lib.hid hL
            replace FF := Lib.hid FF
            obtain ⟨y0, y1, y2, y3, y4, y5, y6, y7⟩ := znB_froz hN.zn
            obtain ⟨a0, a1, a2, a3, a4, a5, a6, a7⟩ := znB_cells hN.zn
            obtain ⟨c0, c1, c2⟩ := hN.el.lit
            dsimp only at c0 c1 c2
            clear hN hF
            unfold setLow at hL FF
            go_wp2
            clear y0 y1 y2 y3 y4 y5 y6 y7 a0 a1 a2 a3 a4 a5 a6 a7 c0 c1 c2
            generalize ((V1.setCell ⟨R + 1, 2, none⟩ (.bool false)).setCell ⟨R + 1, 3, none⟩ (.int .i64 xi)).setCell ⟨R + 1, 4, none⟩ (.string ⟨xt.toArray⟩) = V at *
            have hN := hL.out
            have hF := FF.out
            clear hL FF
            go_region
            replace hN := hN.drew
            replace hF := hF.drew
            generalize V.drew = V2 at *
            have hL : ROf (setHigh V2 (R + 1) false xi xt) (a.add (k * 3)) R ⟨false, xi, xt⟩ ⟨z.rows, z.nulls, ⟨false, xi, xt⟩, ⟨false, xi, xt⟩⟩ := hN.high had ⟨false, xi, xt⟩
            have FF : Fr Non w (setHigh V2 (R + 1) false xi xt) := hF.fresh (setHigh_fr V2 (R + 1) false xi xt) (fun q e => by have : q = R + 1 := e; have := HW.out; omega)
            replace hL := Lib.hid hL
            replace FF := Lib.hid FF
            obtain ⟨y0, y1, y2, y3, y4, y5, y6, y7⟩ := znB_froz hN.zn
            obtain ⟨a0, a1, a2, a3, a4, a5, a6, a7⟩ := znB_cells hN.zn
            obtain ⟨c0, c1, c2⟩ := hN.el.lit
            dsimp only at c0 c1 c2
            clear hN hF
            unfold setHigh at hL FF
            go_wp2
            go_roundw
            case rel => exact ⟨k + 1, _, by omega, by go_num, HE.out, hL.out.zn, hL.out.out, FF.out⟩
            case measure => simp [intOf]; omega
          · have hd : (z.nulls == (k : Int)) = false := by simpa using hfi
            have HFI : Hid (¬ z.nulls = (k : Int)) := Lib.hid hfi
            clear hfi
            go_wp2
            clear c0 c1 c2 z1
            generalize wr = V at *
            replace hN := hN.drew
            replace hF := hF.drew
            obtain ⟨s0, s1, s2⟩ := At3.lit (hN).el
            have s3 : (V.drew).cell? ⟨R + 1, 2, none⟩ = some (.bool z.low.null) := (hN).zn.cell 2
            have s4 : (V.drew).cell? ⟨R + 1, 3, none⟩ = some (.int .i64 z.low.num) := (hN).zn.cell 3
            have s5 : (V.drew).cell? ⟨R + 1, 4, none⟩ = some (.string ⟨z.low.txt.toArray⟩) := (hN).zn.cell 4
            dsimp only at s0 s1 s2
            go_region_held3 (fun W => W.cell? (a.add (k * 3)) = some (.bool false) ∧ W.cell? { block := (a.add (k * 3)).block, off := (a.add (k * 3)).off + 1 } = some (.int .i64 xi) ∧ W.cell? { block := (a.add (k * 3)).block, off := (a.add (k * 3)).off + 2 } = some (.string ⟨xt.toArray⟩) ∧ W.cell? ⟨R + 1, 2, none⟩ = some (.bool z.low.null) ∧ W.cell? ⟨R + 1, 3, none⟩ = some (.int .i64 z.low.num) ∧ W.cell? ⟨R + 1, 4, none⟩ = some (.string ⟨z.low.txt.toArray⟩)) (first | exact ⟨s0, s1, s2, s3, s4, s5⟩ | exact ⟨t0, t1, t2, t3, t4, t5⟩) (first | (go_at_call 71; (with_reducible refine (O1.out _).mono ?_); rintro e w4 ⟨rfl, f4⟩; have hN4 := hN.non f4; have hF4 := hF.then f4; obtain ⟨t0, t1, t2⟩ := At3.lit (hN4).el; have t3 : (w4).cell? ⟨R + 1, 2, none⟩ = some (.bool z.low.null) := (hN4).zn.cell 2; have t4 : (w4).cell? ⟨R + 1, 3, none⟩ = some (.int .i64 z.low.num) := (hN4).zn.cell 3; have t5 : (w4).cell? ⟨R + 1, 4, none⟩ = some (.string ⟨z.low.txt.toArray⟩) := (hN4).zn.cell 4; dsimp only at t0 t1 t2))
            clear s0 s1 s2 s3 s4 s5 t0 t1 t2 t3 t4 t5 f4 hN hF
            have hN := hN4
            have hF := hF4
            clear hN4 hF4
            clear O1
            by_cases hx : x < 0
            · have HZ0 : Hid (noteZ (decide (z.nulls = k)) z ⟨false, xi, xt⟩ = ⟨z.rows, z.nulls, ⟨false, xi, xt⟩, if (false || decide (0 < y)) = true then ⟨false, xi, xt⟩ else z.high⟩) := Lib.hid (by rw [HZ.out, decide_eq_true hx, decide_eq_false HFI.out]; rfl)
              have hd1 : decide (x < 0) = true := decide_eq_true hx
              clear HZ
              generalize w4 = V1 at *
              have hL : ROf (setLow V1 (R + 1) false xi xt) (a.add (k * 3)) R ⟨false, xi, xt⟩ ⟨z.rows, z.nulls, ⟨false, xi, xt⟩, z.high⟩ := hN.low had ⟨false, xi, xt⟩
              have FF : Fr Non w (setLow V1 (R + 1) false xi xt) := hF.fresh (setLow_fr V1 (R + 1) false xi xt) (fun q e => by have : q = R + 1 := e; have := HW.out; omega)
              replace hL := Lib.hid hL
              replace FF := Lib.hid FF
              obtain ⟨y0, y1, y2, y3, y4, y5, y6, y7⟩ := znB_froz hN.zn
              obtain ⟨a0, a1, a2, a3, a4, a5, a6, a7⟩ := znB_cells hN.zn
              obtain ⟨c0, c1, c2⟩ := hN.el.lit
              dsimp only at c0 c1 c2
              clear hN hF
              unfold setLow at hL FF
              go_wp2
              clear y0 y1 y2 y3 y4 y5 y6 y7 a0 a1 a2 a3 a4 a5 a6 a7 c0 c1 c2
              generalize ((V1.setCell ⟨R + 1, 2, none⟩ (.bool false)).setCell ⟨R + 1, 3, none⟩ (.int .i64 xi)).setCell ⟨R + 1, 4, none⟩ (.string ⟨xt.toArray⟩) = V at *
              have hN := hL.out
              have hF := FF.out
              clear hL FF
              replace hN := hN.drew
              replace hF := hF.drew
              obtain ⟨s0, s1, s2⟩ := At3.lit (hN).el
              have s3 : (V.drew).cell? ⟨R + 1, 5, none⟩ = some (.bool z.high.null) := (hN).zn.cell 5
              have s4 : (V.drew).cell? ⟨R + 1, 6, none⟩ = some (.int .i64 z.high.num) := (hN).zn.cell 6
              have s5 : (V.drew).cell? ⟨R + 1, 7, none⟩ = some (.string ⟨z.high.txt.toArray⟩) := (hN).zn.cell 7
              dsimp only at s0 s1 s2
              go_region_held3 (fun W => W.cell? (a.add (k * 3)) = some (.bool false) ∧ W.cell? { block := (a.add (k * 3)).block, off := (a.add (k * 3)).off + 1 } = some (.int .i64 xi) ∧ W.cell? { block := (a.add (k * 3)).block, off := (a.add (k * 3)).off + 2 } = some (.string ⟨xt.toArray⟩) ∧ W.cell? ⟨R + 1, 5, none⟩ = some (.bool z.high.null) ∧ W.cell? ⟨R + 1, 6, none⟩ = some (.int .i64 z.high.num) ∧ W.cell? ⟨R + 1, 7, none⟩ = some (.string ⟨z.high.txt.toArray⟩)) (first | exact ⟨s0, s1, s2, s3, s4, s5⟩ | exact ⟨t0, t1, t2, t3, t4, t5⟩) (first | (go_at_call 71; (with_reducible refine (O2.out _).mono ?_); rintro e w4 ⟨rfl, f4⟩; have hN4 := hN.non f4; have hF4 := hF.then f4; obtain ⟨t0, t1, t2⟩ := At3.lit (hN4).el; have t3 : (w4).cell? ⟨R + 1, 5, none⟩ = some (.bool z.high.null) := (hN4).zn.cell 5; have t4 : (w4).cell? ⟨R + 1, 6, none⟩ = some (.int .i64 z.high.num) := (hN4).zn.cell 6; have t5 : (w4).cell? ⟨R + 1, 7, none⟩ = some (.string ⟨z.high.txt.toArray⟩) := (hN4).zn.cell 7; dsimp only at t0 t1 t2))
              clear s0 s1 s2 s3 s4 s5 t0 t1 t2 t3 t4 t5 f4 hN hF
              have hN := hN4
              have hF := hF4
              clear hN4 hF4
              by_cases hy : 0 < y
              · have HZ1 : Hid (noteZ (decide (z.nulls = k)) z ⟨false, xi, xt⟩ = ⟨z.rows, z.nulls, ⟨false, xi, xt⟩, ⟨false, xi, xt⟩⟩) := Lib.hid (by rw [HZ0.out, decide_eq_true hy]; rfl)
                have HE : Hid (JInv l.length (nulC (l.take (k + 1))) (liveC (l.take (k + 1))) ⟨z.rows, z.nulls, ⟨false, xi, xt⟩, ⟨false, xi, xt⟩⟩ (decide (z.nulls = (k + 1 : Nat)))) := Lib.hid (by rw [HZ1.out] at HX; have := HX.out; rwa [show decide (z.nulls = ((k + 1 : Nat) : Int)) = false from decide_eq_false (by omega)])
                have hd2 : decide (0 < y) = true := decide_eq_true hy
                clear HZ0 HZ1 HX O2
                generalize w4 = V1 at *
                have hL : ROf (setHigh V1 (R + 1) false xi xt) (a.add (k * 3)) R ⟨false, xi, xt⟩ ⟨z.rows, z.nulls, ⟨false, xi, xt⟩, ⟨false, xi, xt⟩⟩ := hN.high had ⟨false, xi, xt⟩
                have FF : Fr Non w (setHigh V1 (R + 1) false xi xt) := hF.fresh (setHigh_fr V1 (R + 1) false xi xt) (fun q e => by have : q = R + 1 := e; have := HW.out; omega)
                replace hL := Lib.hid hL
                replace FF := Lib.hid FF
                obtain ⟨y0, y1, y2, y3, y4, y5, y6, y7⟩ := znB_froz hN.zn
                obtain ⟨a0, a1, a2, a3, a4, a5, a6, a7⟩ := znB_cells hN.zn
                obtain ⟨c0, c1, c2⟩ := hN.el.lit
                dsimp only at c0 c1 c2
                clear hN hF
                unfold setHigh at hL FF
                go_wp2
                go_roundw
                case rel => exact ⟨k + 1, _, by omega, by go_num, HE.out, hL.out.zn, hL.out.out, FF.out⟩
                case measure => simp [intOf]; omega
              · have HZ1 : Hid (noteZ (decide (z.nulls = k)) z ⟨false, xi, xt⟩ = ⟨z.rows, z.nulls, ⟨false, xi, xt⟩, z.high⟩) := Lib.hid (by rw [HZ0.out, decide_eq_false hy]; rfl)
                have HE : Hid (JInv l.length (nulC (l.take (k + 1))) (liveC (l.take (k + 1))) ⟨z.rows, z.nulls, ⟨false, xi, xt⟩, z.high⟩ (decide (z.nulls = (k + 1 : Nat)))) := Lib.hid (by rw [HZ1.out] at HX; have := HX.out; rwa [show decide (z.nulls = ((k + 1 : Nat) : Int)) = false from decide_eq_false (by omega)])
                have hd2 : decide (0 < y) = false := decide_eq_false hy
                clear HZ0 HZ1 HX O2
                replace hN := Lib.hid hN
                replace hF := Lib.hid hF
                go_wp2
                go_roundw
                case rel => exact ⟨k + 1, _, by omega, by go_num, HE.out, hN.out.zn, hN.out.out, hF.out⟩
                case measure => simp [intOf]; omega
            · have HZ0 : Hid (noteZ (decide (z.nulls = k)) z ⟨false, xi, xt⟩ = ⟨z.rows, z.nulls, z.low, if (false || decide (0 < y)) = true then ⟨false, xi, xt⟩ else z.high⟩) := Lib.hid (by rw [HZ.out, decide_eq_false hx, decide_eq_false HFI.out]; rfl)
              have hd1 : decide (x < 0) = false := decide_eq_false hx
              clear HZ
              generalize w4 = V at *
              go_wp2
              replace hN := hN.drew
              replace hF := hF.drew
              obtain ⟨s0, s1, s2⟩ := At3.lit (hN).el
              have s3 : (V.drew).cell? ⟨R + 1, 5, none⟩ = some (.bool z.high.null) := (hN).zn.cell 5
              have s4 : (V.drew).cell? ⟨R + 1, 6, none⟩ = some (.int .i64 z.high.num) := (hN).zn.cell 6
              have s5 : (V.drew).cell? ⟨R + 1, 7, none⟩ = some (.string ⟨z.high.txt.toArray⟩) := (hN).zn.cell 7
              dsimp only at s0 s1 s2
              go_region_held3 (fun W => W.cell? (a.add (k * 3)) = some (.bool false) ∧ W.cell? { block := (a.add (k * 3)).block, off := (a.add (k * 3)).off + 1 } = some (.int .i64 xi) ∧ W.cell? { block := (a.add (k * 3)).block, off := (a.add (k * 3)).off + 2 } = some (.string ⟨xt.toArray⟩) ∧ W.cell? ⟨R + 1, 5, none⟩ = some (.bool z.high.null) ∧ W.cell? ⟨R + 1, 6, none⟩ = some (.int .i64 z.high.num) ∧ W.cell? ⟨R + 1, 7, none⟩ = some (.string ⟨z.high.txt.toArray⟩)) (first | exact ⟨s0, s1, s2, s3, s4, s5⟩ | exact ⟨t0, t1, t2, t3, t4, t5⟩) (first | (go_at_call 71; (with_reducible refine (O2.out _).mono ?_); rintro e w4 ⟨rfl, f4⟩; have hN4 := hN.non f4; have hF4 := hF.then f4; obtain ⟨t0, t1, t2⟩ := At3.lit (hN4).el; have t3 : (w4).cell? ⟨R + 1, 5, none⟩ = some (.bool z.high.null) := (hN4).zn.cell 5; have t4 : (w4).cell? ⟨R + 1, 6, none⟩ = some (.int .i64 z.high.num) := (hN4).zn.cell 6; have t5 : (w4).cell? ⟨R + 1, 7, none⟩ = some (.string ⟨z.high.txt.toArray⟩) := (hN4).zn.cell 7; dsimp only at t0 t1 t2))
              clear s0 s1 s2 s3 s4 s5 t0 t1 t2 t3 t4 t5 f4 hN hF
              have hN := hN4
              have hF := hF4
              clear hN4 hF4
              by_cases hy : 0 < y
              · have HZ1 : Hid (noteZ (decide (z.nulls = k)) z ⟨false, xi, xt⟩ = ⟨z.rows, z.nulls, z.low, ⟨false, xi, xt⟩⟩) := Lib.hid (by rw [HZ0.out, decide_eq_true hy]; rfl)
                have HE : Hid (JInv l.length (nulC (l.take (k + 1))) (liveC (l.take (k + 1))) ⟨z.rows, z.nulls, z.low, ⟨false, xi, xt⟩⟩ (decide (z.nulls = (k + 1 : Nat)))) := Lib.hid (by rw [HZ1.out] at HX; have := HX.out; rwa [show decide (z.nulls = ((k + 1 : Nat) : Int)) = false from decide_eq_false (by omega)])
                have hd2 : decide (0 < y) = true := decide_eq_true hy
                clear HZ0 HZ1 HX O2
                generalize w4 = V1 at *
                have hL : ROf (setHigh V1 (R + 1) false xi xt) (a.add (k * 3)) R ⟨false, xi, xt⟩ ⟨z.rows, z.nulls, z.low, ⟨false, xi, xt⟩⟩ := hN.high had ⟨false, xi, xt⟩
                have FF : Fr Non w (setHigh V1 (R + 1) false xi xt) := hF.fresh (setHigh_fr V1 (R + 1) false xi xt) (fun q e => by have : q = R + 1 := e; have := HW.out; omega)
                replace hL := Lib.hid hL
                replace FF := Lib.hid FF
                obtain ⟨y0, y1, y2, y3, y4, y5, y6, y7⟩ := znB_froz hN.zn
                obtain ⟨a0, a1, a2, a3, a4, a5, a6, a7⟩ := znB_cells hN.zn
                obtain ⟨c0, c1, c2⟩ := hN.el.lit
                dsimp only at c0 c1 c2
                clear hN hF
                unfold setHigh at hL FF
                go_wp2
                go_roundw
                case rel => exact ⟨k + 1, _, by omega, by go_num, HE.out, hL.out.zn, hL.out.out, FF.out⟩
                case measure => simp [intOf]; omega
              · have HZ1 : Hid (noteZ (decide (z.nulls = k)) z ⟨false, xi, xt⟩ = ⟨z.rows, z.nulls, z.low, z.high⟩) := Lib.hid (by rw [HZ0.out, decide_eq_false hy]; rfl)
                have HE : Hid (JInv l.length (nulC (l.take (k + 1))) (liveC (l.take (k + 1))) ⟨z.rows, z.nulls, z.low, z.high⟩ (decide (z.nulls = (k + 1 : Nat)))) := Lib.hid (by rw [HZ1.out] at HX; have := HX.out; rwa [show decide (z.nulls = ((k + 1 : Nat) : Int)) = false from decide_eq_false (by omega)])
                have hd2 : decide (0 < y) = false := decide_eq_false hy
                clear HZ0 HZ1 HX O2
                replace hN := Lib.hid hN
                replace hF := Lib.hid hF
                go_wp2
                go_roundw
                case rel => exact ⟨k + 1, _, by omega, by go_num, HE.out, hN.out.zn, hN.out.out, hF.out⟩
                case measure => simp [intOf]; omega
        · replace HY := Lib.hid (HY.out rfl)
          clear HX
          have HE : Hid (JInv l.length (nulC (l.take (k + 1))) (liveC (l.take (k + 1))) ⟨z.rows, z.nulls + 1, z.low, z.high⟩ (decide (z.nulls + 1 = (k + 1 : Nat)))) := Lib.hid (by have := HY.out; rwa [show decide (z.nulls + 1 = ((k + 1 : Nat) : Int)) = decide (z.nulls = (k : Int)) by simp only [decide_eq_decide]; omega])
          obtain ⟨c0, c1, c2⟩ := hN.el.lit
          dsimp only at c0 c1 c2
          have z1 : wr.cell? ⟨R + 1, 1, none⟩ = some (.int .i64 z.nulls) := hN.zn.cell 1
          have y1 := hN.zn.frozen 1
          have f2 := (Fr.refl (One (R + 1)) wr).set1 1 (.int .i64 (z.nulls + 1))
          have hZ2 : Hid (ZnB _ (R + 1) ⟨z.rows, z.nulls + 1, z.low, z.high⟩) := Lib.hid (setNul_B hN.zn (z.nulls + 1))
          have hO2 : Hid (ZnB _ R noZn) := Lib.hid (hN.out.fr f2 (fun e => by have : R = R + 1 := e; omega))
          have hF2 := Lib.hid (hF.fresh f2 (fun q e => by have : q = R + 1 := e; have := HW.out; omega))
          clear HY hN f2 hF
          go_wp2
          go_roundw
          case rel => exact ⟨k + 1, _, by omega, by go_num, HE.out, hZ2.out, hO2.out, hF2.out⟩
          case measure => simp [intOf]; omega
    · obtain rfl : k = l.length := by omega
      rw [List.take_length] at hJ
      have HE := Lib.hid (jinv_end hJ)
      obtain ⟨y0, y1, y2, y3, y4, y5, y6, y7⟩ := znB_froz hO
      obtain ⟨b0, b1, b2, b3, b4, b5, b6, b7⟩ := znB_cells hO
      obtain ⟨a0, a1, a2, a3, a4, a5, a6, a7⟩ := znB_cells hZ
      have HA := Lib.hid (setZn_B hO z)
      have HF := Lib.hid (hF.fresh (setZn_fr wr R z) (fun q e => by have : q = R := e; have := HW.out; omega))
      clear hJ hZ hO hF
      go_wp2
      exact bodyPost_ret (v := znV z) (ret_zn (p := 2) rfl _ _ R z rfl HA.out) rfl ⟨z, rfl, HE.out, HF.out⟩
end Go.Proofs.YtheefloegbkflaaGreatDoor


namespace Go.Proofs.YtheefloegbkflaaGreatDoor
set_option linter.unusedVariables false
set_option linter.unusedSimpArgs false
set_option maxRecDepth 100000
open Go.RowKit


theorem rzoneF_any (v : Value) (l : List Cl) (w : World) (hv : Cs w v l) (hvl : ∀ q, v.ownBlock = some q → q < w.heap.size) (hl : l.length ≤ 1000000) :
    Calls Tryz.prog 38 #[v] w fun e w' => e = .returned (znV (zoneF l)) ∧ Fr Non w w' :=
  (rzof_any v l w hv hvl hl).mono fun e w' ⟨z, he, hz, hf⟩ => ⟨by rw [he, hz.eqF], hf⟩

end Go.Proofs.YtheefloegbkflaaGreatDoor


namespace Go.Proofs.YtheefloegbkflaaGreatDoor
set_option linter.unusedVariables false
set_option linter.unusedSimpArgs false
set_option maxRecDepth 100000
open Go.RowKit

theorem snum13_any (z : Int) (w : World) : Calls Tryz.prog 10 #[.int .i64 z] w fun e w' => e = .returned (.int .i64 z) ∧ w = w' := by
  go_enter Tryz.func10, Tryz.ntmps10
  go_wp2
  go_ret
  exact ⟨rfl, rfl⟩

/-- what Small answers -/
def SmR (cols : List Co) (rows : List (List Cl)) (e : Ending) : Prop := ∃ s, e = .returned (.bool s) ∧ (s = true → cols.length ≤ 20 ∧ (∀ c ∈ cols, c.name.length ≤ 100) ∧ rows.length ≤ 210)
theorem smR_no {cols : List Co} {rows : List (List Cl)} : SmR cols rows (.returned (.bool false)) := ⟨false, rfl, fun h => by cases h⟩
theorem smR_yes {cols : List Co} {rows : List (List Cl)} (h : cols.length ≤ 20 ∧ (∀ c ∈ cols, c.name.length ≤ 100) ∧ rows.length ≤ 210) : SmR cols rows (.returned (.bool true)) := ⟨true, rfl, fun _ => h⟩

set_option maxHeartbeats 2000000 in
theorem small13_any (v1 v2 : Value) (cols : List Co) (rows : List (List Cl)) (w : World) (h1 : Ks w v1 cols) (h2 : Rs w v2 rows) :
    Calls Tryz.prog 6 #[v1, v2] w fun e w' => SmR cols rows e ∧ Fr Non w w' := by
  obtain ⟨A1, c1, rfl⟩ := h1.shape
  obtain ⟨A2, c2, rfl⟩ := h2.shape
  have H1 := Lib.hid h1
  have H2 := Lib.hid h2
  clear h1 h2
  go_enter Tryz.func6, Tryz.ntmps6
  go_wp2
  go_loopw [5] (fun i wr => ∃ k : Nat, k ≤ rows.length ∧ k ≤ 250 ∧ i = .int .i64 k ∧ Fr Non w wr) (fun i _ => 250 - (intOf i).toNat)
  case atStart => exact ⟨0, Nat.zero_le _, Nat.zero_le _, rfl, Fr.refl _ _⟩
  case round =>
    obtain ⟨k, hk, hk2, rfl, hF⟩ := hrel
    have HF := Lib.hid hF
    by_cases hgo : k < rows.length ∧ k < 250
    · obtain ⟨hlt, h250⟩ := hgo
      obtain ⟨a, A', c', rfl, _, q1, hc1⟩ := (H2.out.non hF).el k hlt
      have HS := Lib.hid (smallC_any _ rows[k] wr hc1)
      clear hF hc1
      generalize rows[k] = r at *
      by_cases hr : 10 < r.length
      · have d1 : decide (10 < (r.length : Int)) = true := decide_eq_true (by omega)
        clear hr HS
        go_wp2
        go_ret
        exact ⟨smR_no, HF.out⟩
      · have d1 : decide (10 < (r.length : Int)) = false := decide_eq_false (by omega)
        clear hr
        go_wp2_with fail
        refine HS.out.mono ?_
        rintro e w2 ⟨s, rfl, _, f2⟩
        have HF2 := Lib.hid (HF.out.trans f2)
        clear HS HF f2
        cases s with
        | true =>
          go_wp2
          go_roundw
          case rel => exact ⟨k + 1, by omega, by omega, by go_num, HF2.out⟩
          case measure => simp [intOf]; omega
        | false =>
          go_wp2
          go_ret
          exact ⟨smR_no, HF2.out⟩
    · have HK := Lib.hid (ksmall_any _ cols wr (H1.out.non hF))
      have HGo := Lib.hid hgo
      clear hF
      by_cases hlt : k < rows.length
      · have h250 : ¬ k < 250 := fun h => hgo ⟨hlt, h⟩
        clear hgo
        go_wp2_with fail
        refine HK.out.mono ?_
        rintro e w2 ⟨s, rfl, hs, f2⟩
        have HF2 := Lib.hid (HF.out.trans f2)
        have HSs := Lib.hid hs
        clear HK hs f2
        cases s with
        | true =>
          have d2 : decide ((rows.length : Int) ≤ 210) = false := decide_eq_false (by omega)
          go_wp2
          go_ret
          exact ⟨smR_no, HF2.out⟩
        | false =>
          go_wp2
          go_ret
          exact ⟨smR_no, HF2.out⟩
      · clear hgo
        go_wp2_with fail
        refine HK.out.mono ?_
        rintro e w2 ⟨s, rfl, hs, f2⟩
        have HF2 := Lib.hid (HF.out.trans f2)
        have HSs := Lib.hid hs
        clear HK hs f2
        cases s with
        | true =>
          by_cases h210 : rows.length ≤ 210
          · have d2 : decide ((rows.length : Int) ≤ 210) = true := decide_eq_true (by omega)
            go_wp2
            go_ret
            exact ⟨smR_yes ⟨(HSs.out (by first | rfl | trivial)).1, (HSs.out (by first | rfl | trivial)).2, h210⟩, HF2.out⟩
          · have d2 : decide ((rows.length : Int) ≤ 210) = false := decide_eq_false (by omega)
            go_wp2
            go_ret
            exact ⟨smR_no, HF2.out⟩
        | false =>
          go_wp2
          go_ret
          exact ⟨smR_no, HF2.out⟩

/-! ### What is built -/
theorem segE_zero {cols : List Co} {rows : List (List Cl)} (h : segE cols rows = 0) : chkC cols = 0 ∧ 1 ≤ rows.length ∧ rows.length ≤ 200 ∧ rows.all (rowB cols) = true := by
  unfold segE at h
  split at h
  · cases h
  · rename_i h1
    split at h
    · cases h
    · split at h
      · rename_i h2 h3
        refine ⟨?_, ?_, by omega, h3⟩
        · exact Classical.byContradiction fun e => h1 (.inl e)
        · have : ¬ rows.length = 0 := fun e => h1 (.inr e)
          omega
      · cases h
theorem seg_all {cols : List Co} {rows : List (List Cl)} (h : segE cols rows = 0) (hi : ∀ r ∈ rows, ∀ c ∈ r, I64 c.num) : (segF rows.length (kls cols rows)).length ≤ 63000 ∧ rowsR cols (segF rows.length (kls cols rows)) (footF rows.length (kls cols rows)).length = (0, rows) := by
  obtain ⟨h1, h2, h3, h4⟩ := segE_zero h
  exact ⟨seg_len (kls_ok h1 h4 hi) h3 (by rw [kls_length]; exact (chk_is h1).2.2.2), rowsR_own h1 h4 hi h3 h2⟩
theorem segE_ex : segE [⟨[97], 1, false⟩] [[⟨false, 5, []⟩]] = 0 := by
  unfold segE
  rw [if_neg (by rintro (h | h); exact h chkC_a; cases h), if_neg (by decide), if_pos (by decide +kernel)]

set_option maxHeartbeats 4000000 in
theorem slive13_any (w : World) (ht : Tab w) : Calls Tryz.prog 7 #[] w fun e w' => e = .returned (.bool true) ∧ Fr Non w w' := by
  have f1 := (Fr.refl Non w).alloc (.cells #[.string ⟨#[97]⟩, .int .i64 1, .bool false] 69)
  have f2 := f1.alloc (.cells #[.bool false, .int .i64 5, .string ⟨#[]⟩] 54)
  have f3 := f2.alloc (.cells #[.slice (some ⟨w.heap.size + 1, 0, none⟩) 1 1] 59)
  have k1 : Ks (((w.alloc (.cells #[.string ⟨#[97]⟩, .int .i64 1, .bool false] 69)).alloc (.cells #[.bool false, .int .i64 5, .string ⟨#[]⟩] 54)).alloc (.cells #[.slice (some ⟨w.heap.size + 1, 0, none⟩) 1 1] 59)) (.slice (some ⟨w.heap.size, 0, none⟩) 1 1) [⟨[97], 1, false⟩] :=
    ((((no_lit (E := 69) fd_co w 0 _ [⟨[97], 1, false⟩] #[.string ⟨#[97]⟩, .int .i64 1, .bool false] rfl rfl (Nat.zero_le _) (by decide)).alloc _).alloc _).ns fd_co)
  have c1 := (oc_lit (w.alloc (.cells #[.string ⟨#[97]⟩, .int .i64 1, .bool false] 69)) 0 (w.heap.size + 1) [⟨false, 5, []⟩] #[.bool false, .int .i64 5, .string ⟨#[]⟩] rfl (by simp) (Nat.zero_le _) (by decide)).alloc (.cells #[.slice (some ⟨w.heap.size + 1, 0, none⟩) 1 1] 59)
  have o1 := ow_lit (f := slV) (E := 59) ((w.alloc (.cells #[.string ⟨#[97]⟩, .int .i64 1, .bool false] 69)).alloc (.cells #[.bool false, .int .i64 5, .string ⟨#[]⟩] 54)) 0 (w.heap.size + 2) [⟨some ⟨w.heap.size + 1, 0, none⟩, 1, 1⟩] #[.slice (some ⟨w.heap.size + 1, 0, none⟩) 1 1] rfl (by simp) (Nat.zero_le _) (by unfold maxLen; simp)
  have r1 : Ro (((w.alloc (.cells #[.string ⟨#[97]⟩, .int .i64 1, .bool false] 69)).alloc (.cells #[.bool false, .int .i64 5, .string ⟨#[]⟩] 54)).alloc (.cells #[.slice (some ⟨w.heap.size + 1, 0, none⟩) 1 1] 59)) 0 (.slice (some ⟨w.heap.size + 2, 0, none⟩) 1 1) [[⟨false, 5, []⟩]] :=
    ⟨_, rfl, o1, fun i a b => by
      obtain rfl : i = 0 := by simpa using a
      exact c1⟩
  have hi : ∀ r ∈ ([[⟨false, 5, []⟩]] : List (List Cl)), ∀ c ∈ r, I64 c.num := by
    intro r hr c hc
    simp at hr
    subst hr
    simp at hc
    subst hc
    unfold I64; decide
  have HBu := Lib.hid (build_any _ _ [⟨[97], 1, false⟩] [[⟨false, 5, []⟩]] _ k1 r1.rs (ht.non f3) (by decide) (by intro c hc; simp at hc; subst hc; decide) (by decide) hi)
  have hs := seg_all segE_ex hi
  have HK := Lib.hid k1
  have HF3 := Lib.hid f3
  have HT := Lib.hid ht
  have HRo := Lib.hid (fun W (hf : Fr Non w W) (h1 : Ks W (.slice (some ⟨w.heap.size, 0, none⟩) 1 1) [⟨[97], 1, false⟩]) (hlt : w.heap.size < W.heap.size) (u : Value) (hu : Bs W u (segF 1 (kls [⟨[97], 1, false⟩] [[⟨false, 5, []⟩]]))) => srows_any _ u [⟨[97], 1, false⟩] _ ((footF 1 (kls [⟨[97], 1, false⟩] [[⟨false, 5, []⟩]])).length : Nat) W h1 hu (ht.non hf) (fun q hq => by have h2 : w.heap.size = q := (by simpa [Value.ownBlock] using hq); omega) (by decide) (by intro c hc; simp at hc; subst hc; decide) (Nat.le_trans (show (segF 1 (kls [⟨[97], 1, false⟩] [[⟨false, 5, []⟩]])).length ≤ 63000 from hs.1) (by decide)))
  have HRR := Lib.hid hs.2
  unfold BldR at HBu
  clear f1 f2 f3 k1 c1 o1 r1 hs
  go_enter Tryz.func7, Tryz.ntmps7
  go_wp2_with fail
  refine HBu.out.mono ?_
  rintro e w4 ⟨hB, f4⟩
  rcases hB with ⟨_, u4, rfl, ho4⟩ | ⟨hne, _⟩
  · have HF4 := Lib.hid (HF3.out.trans f4)
    have hlt4 : w.heap.size < w4.heap.size := by have h := f4.size; simp at h; omega
    have HRo4 := HRo.out w4 HF4.out (HK.out.non f4) hlt4 u4 ho4.bs
    obtain ⟨A4, n4, c4, rfl⟩ : ∃ A n c, u4 = Value.slice A n c := by obtain ⟨A, c, h⟩ := ho4.bs.shape; exact ⟨A, _, c, h⟩
    have HRR' := HRR.out
    simp only [List.length_cons, List.length_nil, Nat.zero_add] at HRR'
    rw [HRR'] at HRo4
    unfold RowR at HRo4
    dsimp only at HRo4
    have HRo5 := Lib.hid HRo4
    clear HBu f4 ho4 HRo HRo4 HRR'
    go_wp2_with fail
    refine HRo5.out.mono ?_
    rintro e w5 ⟨⟨u5, rfl, ho5⟩, f5⟩
    have HF5 := Lib.hid (HF4.out.trans f5)
    obtain ⟨A5, c5, rfl⟩ : ∃ A c, u5 = .slice A 1 c := ho5.shape
    obtain ⟨a5, A6, c6, rfl, -, q1', hc1'⟩ := ho5.rs.el 0 (by decide)
    have q1 : w5.cell? (a5.add 0) = some (.slice A6 1 c6) := q1'
    have hc1 : Cs w5 (.slice A6 1 c6) [⟨false, 5, []⟩] := hc1'
    obtain ⟨a6, rfl, -, -, hel⟩ := hc1.addr (by decide)
    obtain ⟨p0, p1, p2⟩ := (hel 0 (by decide)).lit
    simp only [List.getElem_cons_zero, Nat.zero_mul] at p0 p1 p2
    have q1b := q1
    rw [add0 a5] at q1b
    have p1b := p1
    rw [add0 a6] at p1b
    clear q1' hc1' q1 p0 p1 p2
    have HN := Lib.hid (fun z W => snum13_any z W)
    clear HRo5 f5 ho5 hc1 hel
    go_wp2_with fail
    refine (HN.out _ _).mono ?_
    rintro e w6 ⟨rfl, rfl⟩
    go_wp2_with fail
    refine (HN.out _ _).mono ?_
    rintro e w7 ⟨rfl, rfl⟩
    go_wp2
    go_ret
    exact ⟨rfl, HF5.out⟩
  · exact absurd segE_ex hne
end Go.Proofs.YtheefloegbkflaaGreatDoor


namespace Go.Proofs.YtheefloegbkflaaGreatDoor
set_option linter.unusedVariables false
set_option linter.unusedSimpArgs false
set_option maxRecDepth 100000
open Go.RowKit

theorem SAt.new {w : World} {v : Value} {l : List UInt8} (h : Bs w v l) (hl : ∀ k, v.ownBlock = some k → k < w.heap.size) :
    SAt (w.alloc (.cells #[v, .bool false] 88)) w.heap.size (One w.heap.size) l false :=
  ⟨v, Blk.new w _ _, h.non ((Fr.refl _ _).alloc _), (fun k hk e => by have := hl k hk; have e' : k = w.heap.size := e; omega), rfl, fun h => by cases h⟩

theorem Own.drewN {w : World} {B : Nat} {v : Value} {l : List UInt8} (h : Own w B v l) (n : Nat) : Own (w.drewN n) B v l := h

theorem num4_int (a b c d : UInt8) : ((num4 a b c d : Nat) : Int) = (a.toNat : Int) + 256 * b.toNat + 65536 * c.toNat + 16777216 * d.toNat := by
  unfold num4; omega

set_option maxHeartbeats 1000000 in
theorem rgetO_any (v : Value) (l : List UInt8) (w : World) (hv : Bs w v l) (hvl : ∀ k, v.ownBlock = some k → k < w.heap.size) (hl : l.length < 1000000000) :
    Calls Tryz.prog 44 #[v] w fun e w' => ∃ u, e = .returned (.tuple #[u, .int .i64 (gN l), .int .i64 (gE l)]) ∧ Own w' w.heap.size u (gB l) ∧ Fr Non w w' := by
  have HB := Lib.hid hv
  have HS0 := Lib.hid (SAt.new hv hvl)
  have HA := Lib.hid (fun (W : World) o => (Fr.refl Non W).alloc o)
  obtain ⟨A, c, rfl, hlc, _⟩ := hv
  clear hvl
  have HRB := Lib.hid (ref_bad l)
  have hml : (mostR l 1048576).length ≤ l.length := by
    unfold mostR; split
    · exact rest_le l
    · simp
  have hcl : ∀ q : List UInt8, q.length ≤ l.length → (cutR q 4).length ≤ l.length := by
    intro q hq; unfold cutR; split
    · rw [List.length_drop]; omega
    · simp
  have HM := Lib.hid (show (mostR l 1048576).length < 1000000000 by omega)
  have HC := Lib.hid (show (cutR (mostR l 1048576) 4).length < 1000000000 by have := hcl _ hml; omega)
  clear hml hcl
  go_enter Tryz.func44, Tryz.ntmps44
  go_wp2_with fail
  refine (rbelow_any w.heap.size (One w.heap.size) l false 1048577 _ HS0.out hl (by omega)).mono ?_
  rintro e w1 ⟨rfl, hs1, hf1⟩
  rw [show (1048577 : Int) - 1 = 1048576 by omega] at hs1 ⊢
  have h1s := hf1.size
  simp at h1s
  have hg1 : ∀ k, One w.heap.size k → w.heap.size ≤ k := fun k e => by have e' : k = w.heap.size := e; omega
  have hF1 : Fr Non w w1 := (HA.out _ _).fresh hf1 hg1
  clear hf1
  go_wp2_with fail
  refine (rtake_any w.heap.size (One w.heap.size) _ _ 4 w1 hs1 HM.out).mono ?_
  rintro e w2 ⟨v2, rfl, hb2, hn2, hs2, hf2⟩
  have h2s := hf2.size
  have hF2 : Fr Non w w2 := hF1.fresh hf2 hg1
  clear hf2 hs1
  go_wp2_with fail
  refine (rtakeO_any w.heap.size (One w.heap.size) _ _ _ w2 hs2 HC.out).mono ?_
  rintro e w3 ⟨v3, rfl, hb3, hs3, hf3⟩
  rw [HRB.out] at hs3
  have hb2' : Bs w3 v2 _ := hb2.fr hf3 (fun k hk e => by have := hn2 k hk; have e' : k = w.heap.size := e; omega)
  have hF3 : Fr Non w w3 := hF2.fresh hf3 hg1
  have HF3 := Lib.hid hF3
  have hb3 := hb3.mono (B' := w.heap.size) (by omega)
  clear hf3 hs2 hb2 hn2 hF1 hF2 hF3
  obtain ⟨A3, c3, k0, k1, _, _, _, _, _, _⟩ := hs3.cells
  by_cases hf : fits l = true
  · obtain ⟨r1, r2, r3, r4, r5, r6⟩ := ref_fit hf
    rw [r1] at hb2'
    rw [r4] at hb3
    rw [hf] at k1
    simp at k1
    have HGE := Lib.hid (show gE l = (if sumOk l then 0 else 13) ∧ gB l = (if sumOk l then bodyF l else []) ∧ gN l = (if sumOk l then hS l + 4 + hN l else 0) by
        unfold gE gB gN; rw [hf]; exact ⟨rfl, rfl, rfl⟩)
    have HSO : Hid (sumOk l = ((l.drop (hS l)).take 4 == sum4 (sumOf 0 (bodyF l)))) := Lib.hid rfl
    have hbd := of_decide_eq_true (show decide (hS l ≠ 0 ∧ hS l + 4 + hN l ≤ l.length) = true from hf)
    have hk0 : (cutR (cutR (mostR l 1048576) 4) (mostV l 1048576)).length = l.length - (hS l + 4 + hN l) := by rw [r5, List.length_drop]
    rw [hk0] at k0
    have HBL := Lib.hid (show (bodyF l).length ≤ 9223372036854775807 by unfold bodyF; rw [List.length_take]; have := hN_le l; omega)
    clear r1 r3 r4 r5 r6 hf hk0 HRB HM HC HS0
    generalize (l.drop (hS l)).take 4 = q at *
    match q, r2 with
    | [q0, q1, q2, q3], _ =>
      have HB3 := Lib.hid hb3
      have HB2 := Lib.hid hb2'
      obtain ⟨A2, c2, rfl, hc2, hnil, hcell⟩ := hb2'
      obtain ⟨A4, c4, rfl⟩ := hb3.bs.shape
      clear hb3
      cases A2 with
      | none => have := hnil rfl; simp at hc2; omega
      | some ad =>
        have e0 := hcell ad rfl 0 (by simp)
        have e1 := hcell ad rfl 1 (by simp)
        have e2 := hcell ad rfl 2 (by simp)
        have e3 := hcell ad rfl 3 (by simp)
        simp only [bv, Addr.add_zero', Addr.add_succ', List.getElem_cons_zero, List.getElem_cons_succ, Nat.zero_add, Nat.reduceAdd] at e0 e1 e2 e3
        have b0 : q0.toNat < 256 := q0.toNat_lt
        have b1 : q1.toNat < 256 := q1.toNat_lt
        have b2 : q2.toNat < 256 := q2.toNat_lt
        have b3 : q3.toNat < 256 := q3.toNat_lt
        have HNI := Lib.hid (num4_int q0 q1 q2 q3)
        clear hcell hnil hc2
        generalize q0.toNat = n0 at *
        generalize q1.toNat = n1 at *
        generalize q2.toNat = n2 at *
        generalize q3.toNat = n3 at *
        have v0 : IntKind.u32.wrap (n0 : Int) = n0 := IntWalk.u32_in _ ⟨by omega, by omega⟩
        have v1 : IntKind.u32.wrap (n1 : Int) = n1 := IntWalk.u32_in _ ⟨by omega, by omega⟩
        have v2 : IntKind.u32.wrap (n2 : Int) = n2 := IntWalk.u32_in _ ⟨by omega, by omega⟩
        have v3 : IntKind.u32.wrap (n3 : Int) = n3 := IntWalk.u32_in _ ⟨by omega, by omega⟩
        have w1' : IntKind.u32.wrap (256 * (n1 : Int)) = 256 * n1 := IntWalk.u32_in _ ⟨by omega, by omega⟩
        have w2' : IntKind.u32.wrap (65536 * (n2 : Int)) = 65536 * n2 := IntWalk.u32_in _ ⟨by omega, by omega⟩
        have w3' : IntKind.u32.wrap (16777216 * (n3 : Int)) = 16777216 * n3 := IntWalk.u32_in _ ⟨by omega, by omega⟩
        have w4' : IntKind.u32.wrap ((n0 : Int) + 256 * n1) = n0 + 256 * n1 := IntWalk.u32_in _ ⟨by omega, by omega⟩
        have w5' : IntKind.u32.wrap ((n0 : Int) + 256 * n1 + 65536 * n2) = n0 + 256 * n1 + 65536 * n2 := IntWalk.u32_in _ ⟨by omega, by omega⟩
        have w6' : IntKind.u32.wrap ((n0 : Int) + 256 * n1 + 65536 * n2 + 16777216 * n3) = n0 + 256 * n1 + 65536 * n2 + 16777216 * n3 := IntWalk.u32_in _ ⟨by omega, by omega⟩
        go_wp2_with fail
        go_quiet (fail)
        rw [← HNI.out]
        have HX := Lib.hid (num4_is q0 q1 q2 q3 (sumOf 0 (bodyF l)) (sumOf_lt _ (by decide)))
        clear e0 e1 e2 e3 v0 v1 v2 v3 w1' w2' w3' w4' w5' w6' HNI
        generalize num4 q0 q1 q2 q3 = p at *
        go_wp2_with fail
        refine (rof_any _ (bodyF l) _ (HB3.out.bs.drewN _) HBL.out).mono ?_
        rintro e w5 ⟨rfl, rfl⟩
        cases hq : sumOk l
        · have hpn : ¬ (p = sumOf 0 (bodyF l)) := by
            intro h
            have h2 := HX.out.1 h
            have h3 := HSO.out
            rw [hq, h2] at h3
            simp at h3
          have hne : (((p : Nat) : Int) != ((sumOf 0 (bodyF l) : Nat) : Int)) = true := by
            rw [bne_iff_ne]; omega
          clear hpn
          go_wp2_with fail
          go_ret3
          rw [HGE.out.1, HGE.out.2.1, HGE.out.2.2, hq]
          exact ⟨_, rfl, own_nil _ _, HF3.out.drewN _⟩
        · have hpn : p = sumOf 0 (bodyF l) := by
            apply HX.out.2
            have h3 := HSO.out
            rw [hq] at h3
            exact (beq_iff_eq.1 h3.symm)
          have hne : (((p : Nat) : Int) != ((sumOf 0 (bodyF l) : Nat) : Int)) = false := by
            rw [bne_eq_false_iff_eq]; omega
          have HP := Lib.hid hpn
          clear hpn
          generalize sumOf 0 (bodyF l) = sb at *
          generalize hsz : hS l + 4 + hN l = sz at *
          have HZ := Lib.hid hsz
          clear hsz
          have hsz2 : sz ≤ l.length := hbd.2
          have hsub : IntKind.i64.wrap ((l.length : Int) - ((l.length - sz : Nat) : Int)) = sz := by rw [IntWalk.i64_in _ ⟨by omega, by omega⟩]; omega
          go_wp2_with fail
          go_quiet (fail)
          go_wp2
          go_ret3
          rw [HGE.out.1, HGE.out.2.1, HGE.out.2.2, hq]
          refine ⟨.slice A4 (bodyF l).length c4, ?_, (HB3.out.drewN _).drewN _, (HF3.out.drewN _).drewN _⟩
          exact ret_three (by simp) (by simp)
  · have hf' : fits l = false := by simpa using hf
    rw [hf'] at k1
    have HF2 := Lib.hid (show gE l = 2 ∧ gB l = [] ∧ gN l = 0 by unfold gE gB gN; rw [hf']; exact ⟨rfl, rfl, rfl⟩)
    clear hf hf' HRB HM HC HS0
    simp at k1
    go_wp2_with fail
    go_ret3
    rw [HF2.out.1, HF2.out.2.1, HF2.out.2.2]
    exact ⟨_, rfl, own_nil _ _, HF3.out⟩

end Go.Proofs.YtheefloegbkflaaGreatDoor


namespace Go.Proofs.YtheefloegbkflaaGreatDoor
set_option linter.unusedVariables false
set_option linter.unusedSimpArgs false
set_option maxRecDepth 100000
open Go.RowKit

abbrev RfB (w : World) (g : Nat) (R : Int) (u : Value) : Prop := Blk w g 43 #[.int .i64 R, u]
end Go.Proofs.YtheefloegbkflaaGreatDoor


namespace Go.Proofs.YtheefloegbkflaaGreatDoor
set_option linter.unusedVariables false
set_option linter.unusedSimpArgs false
set_option maxRecDepth 100000
open Go.RowKit

theorem rread_any (k : Nat) (h1 : 1 ≤ k) (h6 : k ≤ 6) (v : Value) (b : List UInt8) (n : Nat) (w : World) (hv : Bs w v b) (hvl : ∀ q, v.ownBlock = some q → q < w.heap.size) (hl : b.length ≤ 100000) (hn : n ≤ 400) :
    Calls Tryz.prog 92 #[.int .i64 (k : Nat), v, .int .i64 n] w fun e w' => Gtc w' w.heap.size (wayG k b n) e ∧ Fr Non w w' := by
  rcases (show k = 1 ∨ k = 2 ∨ k = 3 ∨ k = 4 ∨ k = 5 ∨ k = 6 by omega) with rfl | rfl | rfl | rfl | rfl | rfl
  · exact rread1_any v b n w hv hvl hl hn
  · exact rread2_any v b n w hv hvl hl hn
  · exact rread3_any v b n w hv hvl hl hn
  · exact rread4_any v b n w hv hvl hl hn
  · exact rread5_any v b n w hv hvl hl hn
  · exact rread6_any v b n w hv hvl hl hn

theorem mayC_two {ty : Int} {c : Cl} (h : c.null = false) : mayC ty true c = mayC ty false c := by
  unfold mayC; simp [h]
/-- all may be, joined, if the others may -/
theorem joinC_may {ty : Int} {t : List Bool} {o : List Cl} (h : o.length + cnt t = t.length) (hn : ∀ c ∈ o, c.null = false) (hty : isTy ty = true) : (joinC t o).all (mayC ty true) = o.all (mayC ty false) := by
  obtain ⟨_, j2, j3⟩ := joinC_parts t o h hn
  rw [Bool.eq_iff_iff, List.all_eq_true, List.all_eq_true]
  constructor
  · intro H c hc
    rw [← mayC_two (hn c hc)]
    rw [← j2] at hc
    exact H c (List.mem_filter.1 hc).1
  · intro H c hc
    rcases j3 c hc with rfl | hc
    · exact mayC_nil hty
    · rw [mayC_two (hn c hc)]; exact H c hc
theorem getC_ty {ty : Int} (b : List UInt8) (n : Nat) (h : waysOf ty = []) : getC ty b n = none := by
  by_cases hn : n ≤ 4096
  · cases ho : openC b n with
    | none => exact getC_shut ho
    | some p => rw [getC_open hn ho, readC_no (by rw [h]; simp)]; rfl
  · exact getC_out (.inr (by omega))
theorem getC_kind {ty : Int} {b : List UInt8} {n : Nat} (h : kindB b ∉ waysOf ty) : getC ty b n = none := by
  by_cases hn : n ≤ 4096
  · cases ho : openC b n with
    | none => exact getC_shut ho
    | some p => rw [getC_open hn ho, readC_no h]; rfl
  · exact getC_out (.inr (by omega))
theorem kind0 {ty : Int} {b : List UInt8} (h : kindB b = 0) : kindB b ∉ waysOf ty := by
  intro e; have := waysOf_pos ty _ e; omega
/-- which ways are a type's -/
theorem waysOf_mem {ty : Int} {K : Nat} (h1 : 1 ≤ ty) (h3 : ty ≤ 3) (hK1 : 1 ≤ K) (hK6 : K ≤ 6) : K ∈ waysOf ty ↔ (decide (5 ≤ (K : Int)) = (ty == 3)) := by
  rcases (show ty = 1 ∨ ty = 2 ∨ ty = 3 by omega) with rfl | rfl | rfl <;> rcases (show K = 1 ∨ K = 2 ∨ K = 3 ∨ K = 4 ∨ K = 5 ∨ K = 6 by omega) with rfl | rfl | rfl | rfl | rfl | rfl <;> decide
/-- what is behind the nulls: K the way's number, which may be none -/
def restC (ty : Int) (K : Nat) (nulls : List Bool) (rest : List UInt8) (n : Nat) : Option (List Cl) :=
  if 1 ≤ K ∧ K ≤ 6 then (readC ty K rest (n - cnt nulls)).map (joinC nulls) else none
theorem getC_plain {ty : Int} {c : UInt8} {r : List UInt8} {n : Nat} (hn : n ≤ 4096) (h : ¬ 8 < c.toNat) : getC ty (c :: r) n = restC ty c.toNat (List.replicate n false) r n := by
  unfold restC
  have hb : kindB (c :: r) = kindC c := rfl
  by_cases hk : 1 ≤ c.toNat ∧ c.toNat ≤ 6
  · rw [if_pos hk]
    have hs : someN c = false := by unfold someN; rw [beq_eq_false_iff_ne]; omega
    rw [getC_open hn (openC_none r n hs)]
    have e : kindC c = c.toNat := by unfold kindC; rw [if_pos (by omega)]; omega
    rw [hb, e]
  · rw [if_neg hk]
    refine getC_kind (kind0 ?_)
    rw [hb]; unfold kindC
    rw [if_neg (by omega)]
theorem getC_some {ty : Int} {c : UInt8} {r : List UInt8} {n K : Nat} (hn : n ≤ 4096) (h : c.toNat = K + 8) (h0 : 0 < K) (hk : need n ≤ r.length) (hf : Fit (r.take (need n)) n) (hc : 0 < cnt (unp (r.take (need n)) n)) : getC ty (c :: r) n = restC ty K (unp (r.take (need n)) n) (r.drop (need n)) n := by
  unfold restC
  have hb : kindB (c :: r) = kindC c := rfl
  by_cases h1 : 1 ≤ K ∧ K ≤ 6
  · rw [if_pos h1]
    have hs : someN c = true := by unfold someN; rw [beq_iff_eq]; omega
    rw [getC_open hn (openC_yes hs hk hf hc)]
    have e : kindC c = K := by unfold kindC; rw [if_pos (by omega)]; omega
    rw [hb, e]
  · rw [if_neg h1]
    refine getC_kind (kind0 ?_)
    rw [hb]; unfold kindC
    rw [if_neg (by omega)]
theorem getC_not {ty : Int} {c : UInt8} {r : List UInt8} {n : Nat} (h : 8 < c.toNat) (hx : ¬ (need n ≤ r.length ∧ Fit (r.take (need n)) n ∧ 0 < cnt (unp (r.take (need n)) n))) : getC ty (c :: r) n = none := by
  cases hs : someN c with
  | true => exact getC_shut (openC_no hs hx)
  | false =>
    refine getC_kind (kind0 ?_)
    show kindC c = 0
    have : ¬ (c.toNat / 8 % 2 = 1) := by unfold someN at hs; simpa using hs
    have := c.toNat_lt
    unfold kindC
    rw [if_neg (by omega)]
theorem getC_nil (ty n : Int) : getC ty [] n = none := by
  by_cases hn : n < 0
  · exact getC_out (.inl hn)
  · obtain ⟨m, rfl⟩ : ∃ m : Nat, n = (m : Int) := ⟨n.toNat, by omega⟩
    exact getC_shut (openC_nil m)
theorem gec_no {w : World} {B : Nat} {o : Option (List Cl)} (h : o = none) : Gec w B o (.returned (.tuple #[.slice none 0 0, .bool false])) := .inl ⟨h, rfl⟩

set_option maxHeartbeats 4000000 in
theorem rgetc_any (ty n : Int) (v : Value) (b : List UInt8) (w : World) (hv : Bs w v b) (hvl : ∀ q, v.ownBlock = some q → q < w.heap.size) (hl : b.length ≤ 100000) (h1 : -9223372036854775808 ≤ n) (hn : n ≤ 400) :
    Calls Tryz.prog 50 #[.int .i64 ty, v, .int .i64 n] w fun e w' => Gec w' w.heap.size (getC ty b n) e ∧ Fr Non w w' := by
  have HV := Lib.hid hv
  have HVl := Lib.hid hvl
  clear hvl
  obtain ⟨A, c, rfl, hlc, hno, hcell⟩ := hv
  have d400 : decide (400 < n) = false := by simpa using hn
  cases b with
  | nil =>
    have HG := Lib.hid (getC_nil ty n)
    clear hlc hno hcell
    go_enter Tryz.func50, Tryz.ntmps50
    go_wp2
    go_ret2
    exact ⟨gec_no HG.out, Fr.refl _ _⟩
  | cons x r =>
    have hbig : ((r.length : Int) + 1 == 0) = false := by rw [beq_eq_false_iff_ne]; omega
    by_cases h0 : n < 0
    · have HG := Lib.hid (getC_out (ty := ty) (b := x :: r) (.inl h0))
      have d0 : decide (n < 0) = true := by simpa using h0
      clear hlc hno hcell h0 h1 hn
      go_enter Tryz.func50, Tryz.ntmps50
      go_wp2
      go_ret2
      exact ⟨gec_no HG.out, Fr.refl _ _⟩
    · have d0 : decide (n < 0) = false := by simpa using h0
      obtain ⟨m, rfl⟩ : ∃ m : Nat, n = (m : Int) := ⟨n.toNat, by omega⟩
      by_cases ht1 : ty < 1
      · have HG := Lib.hid (getC_ty (ty := ty) (x :: r) m (waysOf_no (by omega) (by omega) (by omega)))
        have d1 : decide (ty < 1) = true := by simpa using ht1
        clear hlc hno hcell h0 h1 hn ht1
        go_enter Tryz.func50, Tryz.ntmps50
        go_wp2
        go_ret2
        exact ⟨gec_no HG.out, Fr.refl _ _⟩
      · have d1 : decide (ty < 1) = false := by simpa using ht1
        by_cases ht3 : 3 < ty
        · have HG := Lib.hid (getC_ty (ty := ty) (x :: r) m (waysOf_no (by omega) (by omega) (by omega)))
          have d3 : decide (3 < ty) = true := by simpa using ht3
          clear hlc hno hcell h0 h1 hn ht1 ht3
          go_enter Tryz.func50, Tryz.ntmps50
          go_wp2
          go_ret2
          exact ⟨gec_no HG.out, Fr.refl _ _⟩
        · have d3 : decide (3 < ty) = false := by simpa using ht3
          cases A with
          | none => have := hno rfl; simp at hlc; omega
          | some a =>
            have g0 : w.cell? (a.add 0) = some (bv x) := hcell a rfl 0 (by simp)
            have g1 : w.cell? a = some (bv x) := by rw [add0 a] at g0; exact g0
            obtain ⟨A1, c1, hsl, hrest, hob⟩ := slice_lo (some a) (r.length + 1) c 1 .i64 1 rfl (by omega) (by simpa using hlc)
            rw [Nat.add_sub_cancel] at hsl hrest hob
            have HR : Hid (Bs w (.slice A1 r.length c1) r) := Lib.hid (hrest w (x :: r) rfl HV.out)
            have HRl : Hid (∀ q, (Value.slice A1 r.length c1).ownBlock = some q → q < w.heap.size) := Lib.hid (fun q hq => HVl.out q (by rw [hob] at hq; exact hq))
            have hrl : r.length ≤ 100000 := by simp at hl; omega
            have hm : m ≤ 400 := by omega
            have hty : isTy ty = true := by rcases (show ty = 1 ∨ ty = 2 ∨ ty = 3 by omega) with rfl | rfl | rfl <;> rfl
            have HTy := Lib.hid hty
            have HMem := Lib.hid (fun K h1 h6 => waysOf_mem (ty := ty) (K := K) (by omega) (by omega) h1 h6)
            have HP := Lib.hid (fun h => getC_plain (ty := ty) (c := x) (r := r) (n := m) (by omega) h)
            have HS := Lib.hid (fun K h h0 hk hf hc => getC_some (ty := ty) (c := x) (r := r) (n := m) (K := K) (by omega) h h0 hk hf hc)
            have HNot := Lib.hid (fun h hx => getC_not (ty := ty) (c := x) (r := r) (n := m) h hx)
            unfold bv at g0 g1
            have hq256 := x.toNat_lt
            have hlc2 : r.length + 1 ≤ c := by simpa using hlc
            have hc1 : r.length ≤ c1 := by
              obtain ⟨A0, c0, he, h, _⟩ := HR.out
              simp only [Value.slice.injEq] at he
              obtain ⟨_, _, rfl⟩ := he
              simpa using h
            clear hrest hob hno hcell hlc h0 h1 hn ht1 ht3 hl hty
            generalize getC ty (x :: r) m = G at *
            generalize x.toNat = q at *
            by_cases h8 : 8 < q
            · have d8 : decide (8 < (q : Int)) = true := by simp; omega
              have HNo := Lib.hid (fun h => HNot.out h8 h)
              obtain ⟨K, rfl⟩ : ∃ K, q = K + 8 := ⟨q - 8, by omega⟩
              have HG0 := Lib.hid (fun hk hf hc => HS.out K rfl (by omega) hk hf hc)
              have hK8 : (((K + 8 : Nat) : Int)) = (K : Int) + 8 := by push_cast; rfl
              rw [hK8] at g0 g1 d8
              clear HP HS HNot h8 hK8
              have hnd1 : ((m : Int) + 7) / 8 = ((need m : Nat) : Int) := by unfold need; omega
              have hnd2 : Int.tdiv ((m : Int) + 7) 8 = ((need m : Nat) : Int) := by rw [Int.tdiv_eq_ediv_of_nonneg (by omega)]; exact hnd1
              generalize need m = nd at *
              by_cases hk : nd ≤ r.length
              · have dk : decide (r.length < nd) = false := by simp; omega
                obtain ⟨A2, c2, hs2, ht2, ho2⟩ := slice_hi A1 r.length c1 nd .i64 (nd : Int) rfl hk hc1
                obtain ⟨A3, c3, hs3, ht3, ho3⟩ := slice_lo A1 r.length c1 nd .i64 (nd : Int) rfl hk hc1
                have HR2 := Lib.hid (ht2 w r rfl HR.out)
                have HR3 := Lib.hid (ht3 w r rfl HR.out)
                have HRl3 : Hid (∀ q, (Value.slice A3 (r.length - nd) c3).ownBlock = some q → q < w.heap.size) := Lib.hid (fun q hq => HRl.out q (by rw [ho3] at hq; exact hq))
                have htl : (r.take nd).length ≤ 100000 := by rw [List.length_take]; omega
                have hrl3 : (r.drop nd).length ≤ 100000 := by rw [List.length_drop]; omega
                have HNN := Lib.hid (fun (h : ¬ (Fit (r.take nd) m ∧ 0 < cnt (unp (r.take nd) m))) => HNo.out (fun h' => h h'.2))
                have HGG0 := Lib.hid (fun hf hc => HG0.out hk hf hc)
                clear ht2 ht3 ho2 ho3 HNo HG0 HRl HR hk
                generalize hTT : r.take nd = TT at *
                generalize hDD : r.drop nd = rs at *
                clear hTT hDD
                go_enter Tryz.func50, Tryz.ntmps50
                go_wp2
                go_quiet (fail)
                go_wp2_with (at_make; refine wpList_mkfullG el_bool false rfl rfl _ _ rfl _ _ _ _ m rfl rfl rfl rfl (by omega) ?_; intro w2 hown2 hfr2)
                have HF2 : Hid (Fr Non w w2) := Lib.hid (((Fr.refl _ _).drewN _).trans hfr2)
                clear hown2 hfr2
                refine (runpack_any (.slice A2 nd c2) TT m w2 (HR2.out.non HF2.out) htl (by omega) (by omega)).mono ?_
                rintro e w5 ⟨hU, hf5⟩
                have HF5 := Lib.hid (HF2.out.trans hf5)
                clear hf5 HF2
                rcases hU with ⟨hno, rfl⟩ | ⟨⟨_, hfit⟩, u5, rfl, ho5⟩
                · have HN := Lib.hid (HNN.out fun h => hno ⟨by omega, by simpa using h.1⟩)
                  clear hno HNN HGG0
                  go_wp2
                  go_ret2
                  exact ⟨gec_no HN.out, HF5.out⟩
                · rw [Int.toNat_natCast] at hfit ho5
                  have HGG1 := Lib.hid (fun hc => HGG0.out hfit hc)
                  have HNN1 := Lib.hid (fun (h : ¬ 0 < cnt (unp TT m)) => HNN.out fun h' => h h'.2)
                  have hul : (unp TT m).length = m := unp_length _ _
                  clear hfit HNN HGG0
                  generalize unp TT m = nulls at *
                  have HNl := Lib.hid hul
                  have HO5 := Lib.hid ho5
                  clear hul
                  obtain ⟨AT, cT, he⟩ := ho5.shape
                  rw [HNl.out] at he
                  subst he
                  clear ho5
                  have hcl := cnt_le nulls
                  rw [HNl.out] at hcl
                  go_wp2_with fail
                  refine (rplaces_any _ nulls w5 HO5.out.vs (by rw [HNl.out]; omega)).mono ?_
                  rintro e WW ⟨u6, rfl, ho6, hf6⟩
                  have HF := Lib.hid (HF5.out.trans hf6)
                  have HT := Lib.hid (HO5.out.vs.non hf6)
                  have hsh := ho6.shape
                  rw [plc_len] at hsh
                  clear ho6 HO5 HF5 hf6
                  by_cases hc : 0 < cnt nulls
                  · have HG := Lib.hid (HGG1.out hc)
                    have hc0 : ((cnt nulls : Int) == 0) = false := by rw [beq_eq_false_iff_ne]; omega
                    have HRs := Lib.hid (HR3.out.non HF.out)
                    have HRl : Hid (∀ q, (Value.slice A3 (r.length - nd) c3).ownBlock = some q → q < WW.heap.size) := Lib.hid (fun q hq => Nat.lt_of_lt_of_le (HRl3.out q hq) HF.out.size)
                    have hrl := hrl3
                    obtain ⟨A6, c6, rfl⟩ := hsh
                    clear HGG1 HNN1 hc HR3 HRl3 hrl3
                    by_cases hk1 : K < 1
                    · have dk1 : decide ((K : Int) < 1) = true := by simp; omega
                      have HN : Hid (G = none) := Lib.hid (by rw [HG.out]; unfold restC; rw [if_neg (by omega)])
                      clear hk1
                      go_wp2
                      go_ret2
                      exact ⟨gec_no HN.out, HF.out⟩
                    · have dk1 : decide ((K : Int) < 1) = false := by simp; omega
                      by_cases hk6 : 6 < K
                      · have dk6 : decide (6 < (K : Int)) = true := by simp; omega
                        have HN : Hid (G = none) := Lib.hid (by rw [HG.out]; unfold restC; rw [if_neg (by omega)])
                        clear hk1 hk6
                        go_wp2
                        go_ret2
                        exact ⟨gec_no HN.out, HF.out⟩
                      · have dk6 : decide (6 < (K : Int)) = false := by simp; omega
                        have hK1 : 1 ≤ K := by omega
                        have hK6 : K ≤ 6 := by omega
                        have HGr : Hid (G = (readC ty K rs (m - cnt nulls)).map (joinC nulls)) := Lib.hid (by rw [HG.out]; unfold restC; rw [if_pos ⟨hK1, hK6⟩])
                        have hmem := HMem.out K hK1 hK6
                        clear hk1 hk6 HMem HG
                        by_cases hm5 : K ∈ waysOf ty
                        · have he := hmem.1 hm5
                          have dne : (decide (5 ≤ (K : Int)) == (ty == 3)) = true := by rw [he]; simp
                          have HM5 := Lib.hid hm5
                          clear hmem hm5
                          skip
                          have hcl := cnt_le nulls
                          rw [HNl.out] at hcl
                          have HRd := Lib.hid (fun W (hf : Fr Non WW W) => rread_any K hK1 hK6 (.slice A3 (r.length - nd) c3) rs (m - cnt nulls) W (HRs.out.non hf) (fun q hq => Nat.lt_of_lt_of_le (HRl.out q hq) hf.size) hrl (by omega))
                          have HPl := Lib.hid (rplaces_any (.slice AT m cT) nulls WW HT.out (by rw [HNl.out]; omega))
                          have HJ0 := Lib.hid (fun l h => joi_zero nulls l h)
                          generalize hcc : cnt nulls = cc at *
                          have HCC := Lib.hid hcc
                          clear hcc he
                          go_wp2_with fail
                          refine HPl.out.mono ?_
                          rintro e w7 ⟨u7, rfl, ho7, hf7⟩
                          have hsh := ho7.shape
                          rw [plc_len, HCC.out] at hsh
                          obtain ⟨A7, c7, rfl⟩ := hsh
                          have HF7 := Lib.hid hf7
                          have HRd7 : Hid (∀ z : Int, z = (m : Int) - (cc : Nat) → Calls Tryz.prog 92 #[.int .i64 (K : Nat), (.slice A3 (r.length - nd) c3), .int .i64 z] w7 fun e w' => Gtc w' w7.heap.size (wayG K rs (m - cc)) e ∧ Fr Non w7 w') := Lib.hid (fun z hz => by
                            obtain rfl : z = ((m - cc : Nat) : Int) := by omega
                            exact HRd.out w7 hf7)
                          clear ho7 hf7 HPl HRd
                          go_wp2_with fail
                          refine (HRd7.out _ ?_).mono ?_
                          · first | rfl | (push_cast; omega)
                          rintro e w4 ⟨hG, hf4⟩
                          have HF4 := Lib.hid ((HF.out.trans HF7.out).trans hf4)
                          have HT4 := Lib.hid (HT.out.non (HF7.out.trans hf4))
                          clear HRd7 hf4
                          rcases hG with ⟨hg, u, l, rfl, _⟩ | ⟨l, u, hg, rfl, ho4⟩
                          · have HN : Hid (G = none) := Lib.hid (by rw [HGr.out, readC_none hg]; rfl)
                            clear hg
                            go_wp2
                            go_ret2
                            exact ⟨gec_no HN.out, HF4.out⟩
                          · obtain ⟨_, hll, hnn⟩ := wayG_is hg
                            have HAll := Lib.hid (joinC_may (ty := ty) (t := nulls) (o := l) (by rw [hll, HNl.out, HCC.out]; omega) (fun c hc => (hnn c hc).1) HTy.out)
                            have HGj : Hid (G = if (joinC nulls l).all (mayC ty true) = true then some (joinC nulls l) else none) := Lib.hid (by
                              rw [HGr.out, HAll.out]
                              cases hal : l.all (mayC ty false) with
                              | true => rw [readC_yes HM5.out hg hal]; simp
                              | false => rw [readC_bad hg hal]; simp)
                            have HJ1 := Lib.hid (HJ0.out l (by rw [hll, HNl.out]; omega))
                            have HL4 := Lib.hid ho4.cs
                            have hl4 : l.length ≤ 400 := by omega
                            obtain ⟨AL, cL, rfl⟩ := ho4.shape
                            clear hg hnn HAll HGr HJ0 HM5 hll ho4
                            go_wp2
                            have hO0 : Oc (w4.alloc (.cells #[] 54)) w4.heap.size (.slice (some ⟨w4.heap.size, 0, none⟩) 0 0) [] := oc_lit0 w4 w4.heap.size w4.heap.size rfl (Nat.le_refl _)
                            have hf0 : Fr Non w4 (w4.alloc (.cells #[] 54)) := (Fr.refl _ _).alloc _
                            generalize hgg : w4.heap.size = g at *
                            have HGG := Lib.hid hgg
                            clear hgg
                            go_loopw [17, 18, 19] (fun o at_ i wr => ∃ (k a : Nat) (D : List Cl), k ≤ m ∧ i = .int .i64 k ∧ at_ = .int .i64 a ∧ Hid (Joi nulls l k D (l.drop a)) ∧ a ≤ l.length ∧ Hid (D.all (mayC ty true) = true) ∧ Oc wr g o D ∧ Fr Non w4 wr) (fun _ _ i _ => m - (intOf i).toNat)
                            case atStart => exact ⟨0, 0, [], Nat.zero_le _, rfl, rfl, Lib.hid (by rw [List.drop_zero]; exact HJ1.out), Nat.zero_le _, Lib.hid rfl, hO0, hf0⟩
                            case round =>
                              clear hO0 hf0 HJ1
                              obtain ⟨k, a, D, hk, rfl, rfl, HJ, ha, HA, hO, hfr⟩ := hrel
                              have hDl := HJ.out.1
                              by_cases hlt : k < m
                              · obtain ⟨aT, hAT, hh1, hh2, hcell⟩ := HT4.out.addr (by omega)
                                clear hh1 hh2
                                subst hAT
                                have hkn : k < nulls.length := by rw [HNl.out]; exact hlt
                                have hct := hcell k hkn
                                have hfa : Fr Non w4 (wr.alloc (.cells #[.bool true, .int .i64 0, .string ⟨#[]⟩] 54)) := hfr.alloc _
                                have hct2 := (hfa.cell (World.block_lt_of_cell? w4 _ hct) (fun e => e)).trans hct
                                unfold tv at hct2
                                clear hct hcell
                                have hC0 := cl_new wr ⟨true, 0, []⟩
                                have hB := hfr.size
                                cases hx : nulls[k] with
                                | true =>
                                  rw [hx] at hct2
                                  have HJ2 := Lib.hid (joi_yes HJ.out hkn hx)
                                  have hm := fun W => rmay_any ty true ⟨true, 0, []⟩ W
                                  rw [mayC_nil HTy.out] at hm
                                  unfold clV clC at hm
                                  dsimp only at hm
                                  have HA2 : Hid ((D ++ [(⟨true, 0, []⟩ : Cl)]).all (mayC ty true) = true) := Lib.hid (by rw [List.all_append, HA.out]; simp [mayC_nil HTy.out])
                                  obtain ⟨d0, d1, d2, _, _, _⟩ := hC0.facts
                                  dsimp only at d0 d1 d2
                                  have HO := Lib.hid hO
                                  have HFr := Lib.hid hfr
                                  have HC0 := Lib.hid hC0
                                  clear hx hO hfr hC0 hfa
                                  go_wp2_with fail
                                  refine (hm _).mono ?_
                                  rintro e w5 ⟨rfl, hf5⟩
                                  have hC5 : ClB w5 wr.heap.size ⟨true, 0, []⟩ := HC0.out.fr hf5 (fun e => e)
                                  obtain ⟨e0, e1, e2, _, _, _⟩ := hC5.facts
                                  dsimp only at e0 e1 e2
                                  have hO5 := (HO.out.alloc (.cells #[.bool true, .int .i64 0, .string ⟨([] : List UInt8).toArray⟩] 54)).non hf5
                                  have hfr5 := (HFr.out.alloc (.cells #[.bool true, .int .i64 0, .string ⟨([] : List UInt8).toArray⟩] 54)).trans hf5
                                  have hB5 := hfr5.size
                                  have HFr5 := Lib.hid hfr5
                                  clear d0 d1 d2 hm hC5 hf5 hfr5 hct2
                                  go_wp2_with (at_builtin; refine wpList_pushC rfl (.tmp 130) (.tmp 132) rfl g _ _ rfl hO5 ⟨true, 0, []⟩ _ _ _ rfl rfl rfl _ rfl (by simp) (by omega) (by have := HGG.out; omega) ?_; intro v6 w6 hown6 hf6)
                                  have hfr6 := HFr5.out.fresh hf6 (fun q hq => by have := (hO5.lt q hq).1; have := HGG.out; omega)
                                  go_roundw
                                  case rel => exact ⟨k + 1, a, _, by omega, by go_num, rfl, HJ2, ha, HA2, hown6, hfr6⟩
                                  case measure => simp [intOf]; omega
                                | false =>
                                  rw [hx] at hct2
                                  obtain ⟨y, q', hdr, hJ2⟩ := joi_no HJ.out hkn hx
                                  have hal : a < l.length := by
                                    have := congrArg List.length hdr
                                    rw [List.length_drop, List.length_cons] at this; omega
                                  have hyl : l[a] = y ∧ l.drop (a + 1) = q' := by
                                    rw [List.drop_eq_getElem_cons hal, List.cons.injEq] at hdr
                                    exact hdr
                                  rw [← hyl.2] at hJ2
                                  have HJ2 := Lib.hid hJ2
                                  obtain ⟨aL, hAL, hh1, hh2, hat⟩ := HL4.out.addr (by omega)
                                  clear hh1 hh2 hJ2 hdr
                                  subst hAL
                                  obtain ⟨q0, q1, q2⟩ := (hfa.at3 (hat a hal)).lit
                                  rw [hyl.1] at q0 q1 q2
                                  clear hyl hat hx hfa
                                  have hm := fun W => rmay_any ty true y W
                                  obtain ⟨yn, yi, yt⟩ := y
                                  have hS := cl_new wr ⟨yn, yi, yt⟩
                                  obtain ⟨z0, z1, z2, _, _, _⟩ := hS.facts
                                  dsimp only at z0 z1 z2
                                  obtain ⟨d0, d1, d2, p0, p1, p2⟩ := hC0.facts
                                  dsimp only at d0 d1 d2
                                  unfold clV clC at hm
                                  dsimp only at hm
                                  have HS := Lib.hid hS
                                  have HO := Lib.hid hO
                                  have HFr := Lib.hid hfr
                                  clear hS hO hfr hC0
                                  cases hmy : mayC ty true ⟨yn, yi, yt⟩ with
                                  | true =>
                                    rw [hmy] at hm
                                    have HA2 : Hid ((D ++ [(⟨yn, yi, yt⟩ : Cl)]).all (mayC ty true) = true) := Lib.hid (by rw [List.all_append, HA.out]; simp [hmy])
                                    clear hmy
                                    go_wp2_with fail
                                    refine (hm _).mono ?_
                                    rintro e w5 ⟨rfl, hf5⟩
                                    have hC5 : ClB w5 wr.heap.size ⟨yn, yi, yt⟩ := HS.out.fr hf5 (fun e => e)
                                    clear d0 d1 d2 z0 z1 z2 p0 p1 p2
                                    obtain ⟨e0, e1, e2, _, _, _⟩ := hC5.facts
                                    dsimp only at e0 e1 e2
                                    have hO5 := (HO.out.alloc (.cells #[.bool yn, .int .i64 yi, .string ⟨yt.toArray⟩] 54)).non hf5
                                    have hfr5 := (HFr.out.alloc (.cells #[.bool yn, .int .i64 yi, .string ⟨yt.toArray⟩] 54)).trans hf5
                                    have hB5 := hfr5.size
                                    have HFr5 := Lib.hid hfr5
                                    clear hm hC5 hf5 hfr5 hct2 q0 q1 q2
                                    go_wp2_with (at_builtin; refine wpList_pushC rfl (.tmp 130) (.tmp 132) rfl g _ _ rfl hO5 ⟨yn, yi, yt⟩ _ _ _ rfl rfl rfl _ rfl (by simp) (by omega) (by have := HGG.out; omega) ?_; intro v6 w6 hown6 hf6)
                                    have hfr6 := HFr5.out.fresh hf6 (fun q hq => by have := (hO5.lt q hq).1; have := HGG.out; omega)
                                    go_roundw
                                    case rel => exact ⟨k + 1, a + 1, _, by omega, by go_num, by go_num, HJ2, by omega, HA2, hown6, hfr6⟩
                                    case measure => simp [intOf]; omega
                                  | false =>
                                    rw [hmy] at hm
                                    have HA2 : Hid ((joinC nulls l).all (mayC ty true) = false) := Lib.hid (by
                                      rw [HJ2.out.2.1]; simp [hmy])
                                    clear hmy
                                    go_wp2_with fail
                                    refine (hm _).mono ?_
                                    rintro e w5 ⟨rfl, hf5⟩
                                    have HN : Hid (G = none) := Lib.hid (by rw [HGj.out, HA2.out]; rfl)
                                    have hF5 := HF4.out.trans ((HFr.out.alloc _).trans hf5)
                                    go_wp2
                                    go_ret2
                                    exact ⟨gec_no HN.out, hF5⟩
                              · obtain rfl : k = m := by omega
                                have HE : Hid (G = some D) := Lib.hid (by
                                  have h1 := HJ.out
                                  rw [show k = nulls.length from HNl.out.symm] at h1
                                  have h2 := joi_all h1
                                  rw [HGj.out, h2, if_pos HA.out])
                                go_wp2
                                go_ret2
                                exact ⟨.inr ⟨_, _, HE.out, rfl, hO.mono (by have := HGG.out; have := HF4.out.size; omega)⟩, HF4.out.trans hfr⟩
                        · have HN : Hid (G = none) := Lib.hid (by rw [HGr.out, readC_no hm5]; rfl)
                          have dne : (decide (5 ≤ (K : Int)) == (ty == 3)) = false := by
                            rw [beq_eq_false_iff_ne]; exact fun e => hm5 (hmem.2 e)
                          clear hmem hm5
                          go_wp2
                          go_ret2
                          exact ⟨gec_no HN.out, HF.out⟩
                  · have HN := Lib.hid (HNN1.out hc)
                    have hc0 : ((cnt nulls : Int) == 0) = true := by rw [beq_iff_eq]; omega
                    obtain ⟨A6, c6, rfl⟩ := hsh
                    clear HGG1 HNN1 hc
                    go_wp2
                    go_ret2
                    exact ⟨gec_no HN.out, HF.out⟩
              · have HN := Lib.hid (HNo.out (fun h => hk h.1))
                have dk : decide (r.length < nd) = true := by simp; omega
                clear hk HG0 HNo
                go_enter Tryz.func50, Tryz.ntmps50
                go_wp2
                go_quiet (fail)
                go_wp2_with (at_make; refine wpList_mkfullG el_bool false rfl rfl _ _ rfl _ _ _ _ m rfl rfl rfl rfl (by omega) ?_; intro w2 hown2 hfr2)
                go_ret2
                exact ⟨gec_no HN.out, ((Fr.refl _ _).drewN _).trans hfr2⟩
            · have d8 : decide (8 < (q : Int)) = false := by simp; omega
              have HG := Lib.hid (HP.out h8)
              clear HP HS HNot h8
              have HNl : Hid ((List.replicate m false).length = m) := Lib.hid (List.length_replicate ..)
              generalize hnu : List.replicate m false = nulls at *
              have HNu := Lib.hid hnu
              clear hnu
              generalize q = K at *
              generalize r = rs at *
              by_cases hk1 : K < 1
              · have dk1 : decide ((K : Int) < 1) = true := by simp; omega
                have HN : Hid (G = none) := Lib.hid (by rw [HG.out]; unfold restC; rw [if_neg (by omega)])
                clear hk1
                go_enter Tryz.func50, Tryz.ntmps50
                go_wp2
                go_quiet (fail)
                rename_i nq
                go_wp2_with (at_make; refine wpList_mkfullG el_bool false rfl rfl _ _ rfl _ _ _ _ m rfl rfl rfl rfl (by omega) ?_; intro WW hown2 hfr2)
                have HF : Hid (Fr Non w WW) := Lib.hid (((Fr.refl _ _).drewN _).trans hfr2)
                go_ret2
                exact ⟨gec_no HN.out, HF.out⟩
              · have dk1 : decide ((K : Int) < 1) = false := by simp; omega
                by_cases hk6 : 6 < K
                · have dk6 : decide (6 < (K : Int)) = true := by simp; omega
                  have HN : Hid (G = none) := Lib.hid (by rw [HG.out]; unfold restC; rw [if_neg (by omega)])
                  clear hk1 hk6
                  go_enter Tryz.func50, Tryz.ntmps50
                  go_wp2
                  go_quiet (fail)
                  rename_i nq
                  go_wp2_with (at_make; refine wpList_mkfullG el_bool false rfl rfl _ _ rfl _ _ _ _ m rfl rfl rfl rfl (by omega) ?_; intro WW hown2 hfr2)
                  have HF : Hid (Fr Non w WW) := Lib.hid (((Fr.refl _ _).drewN _).trans hfr2)
                  go_ret2
                  exact ⟨gec_no HN.out, HF.out⟩
                · have dk6 : decide (6 < (K : Int)) = false := by simp; omega
                  have hK1 : 1 ≤ K := by omega
                  have hK6 : K ≤ 6 := by omega
                  have HGr : Hid (G = (readC ty K rs (m - cnt nulls)).map (joinC nulls)) := Lib.hid (by rw [HG.out]; unfold restC; rw [if_pos ⟨hK1, hK6⟩])
                  have hmem := HMem.out K hK1 hK6
                  clear hk1 hk6 HMem HG
                  by_cases hm5 : K ∈ waysOf ty
                  · have he := hmem.1 hm5
                    have dne : (decide (5 ≤ (K : Int)) == (ty == 3)) = true := by rw [he]; simp
                    have HM5 := Lib.hid hm5
                    clear hmem hm5
                    go_enter Tryz.func50, Tryz.ntmps50
                    go_wp2
                    go_quiet (fail)
                    rename_i nq
                    go_wp2_with (at_make; refine wpList_mkfullG el_bool false rfl rfl _ _ rfl _ _ _ _ m rfl rfl rfl rfl (by omega) ?_; intro WW hown2 hfr2)
                    have HF : Hid (Fr Non w WW) := Lib.hid (((Fr.refl _ _).drewN _).trans hfr2)
                    
                    rw [HNu.out] at hown2
                    have HT : Hid (Vs tv WW (.slice (some ⟨w.heap.size, 0, none⟩) m m) nulls) := Lib.hid hown2.vs
                    have HRs := Lib.hid (HR.out.non HF.out)
                    have HRl2 : Hid (∀ q, (Value.slice A1 rs.length c1).ownBlock = some q → q < WW.heap.size) := Lib.hid (fun q hq => Nat.lt_of_lt_of_le (HRl.out q hq) HF.out.size)
                    clear hown2 hfr2 HR HRl
                    have HRl := HRl2
                    clear HRl2
                    generalize (some (⟨w.heap.size, 0, none⟩ : Addr)) = AT at *
                    have hcl := cnt_le nulls
                    rw [HNl.out] at hcl
                    have HRd := Lib.hid (fun W (hf : Fr Non WW W) => rread_any K hK1 hK6 (.slice A1 rs.length c1) rs (m - cnt nulls) W (HRs.out.non hf) (fun q hq => Nat.lt_of_lt_of_le (HRl.out q hq) hf.size) hrl (by omega))
                    have HPl := Lib.hid (rplaces_any (.slice AT m m) nulls WW HT.out (by rw [HNl.out]; omega))
                    have HJ0 := Lib.hid (fun l h => joi_zero nulls l h)
                    generalize hcc : cnt nulls = cc at *
                    have HCC := Lib.hid hcc
                    clear hcc he
                    skip
                    refine HPl.out.mono ?_
                    rintro e w7 ⟨u7, rfl, ho7, hf7⟩
                    have hsh := ho7.shape
                    rw [plc_len, HCC.out] at hsh
                    obtain ⟨A7, c7, rfl⟩ := hsh
                    have HF7 := Lib.hid hf7
                    have HRd7 : Hid (∀ z : Int, z = (m : Int) - (cc : Nat) → Calls Tryz.prog 92 #[.int .i64 (K : Nat), (.slice A1 rs.length c1), .int .i64 z] w7 fun e w' => Gtc w' w7.heap.size (wayG K rs (m - cc)) e ∧ Fr Non w7 w') := Lib.hid (fun z hz => by
                      obtain rfl : z = ((m - cc : Nat) : Int) := by omega
                      exact HRd.out w7 hf7)
                    clear ho7 hf7 HPl HRd
                    go_wp2_with fail
                    refine (HRd7.out _ ?_).mono ?_
                    · first | rfl | (push_cast; omega)
                    rintro e w4 ⟨hG, hf4⟩
                    have HF4 := Lib.hid ((HF.out.trans HF7.out).trans hf4)
                    have HT4 := Lib.hid (HT.out.non (HF7.out.trans hf4))
                    clear HRd7 hf4
                    rcases hG with ⟨hg, u, l, rfl, _⟩ | ⟨l, u, hg, rfl, ho4⟩
                    · have HN : Hid (G = none) := Lib.hid (by rw [HGr.out, readC_none hg]; rfl)
                      clear hg
                      go_wp2
                      go_ret2
                      exact ⟨gec_no HN.out, HF4.out⟩
                    · obtain ⟨_, hll, hnn⟩ := wayG_is hg
                      have HAll := Lib.hid (joinC_may (ty := ty) (t := nulls) (o := l) (by rw [hll, HNl.out, HCC.out]; omega) (fun c hc => (hnn c hc).1) HTy.out)
                      have HGj : Hid (G = if (joinC nulls l).all (mayC ty true) = true then some (joinC nulls l) else none) := Lib.hid (by
                        rw [HGr.out, HAll.out]
                        cases hal : l.all (mayC ty false) with
                        | true => rw [readC_yes HM5.out hg hal]; simp
                        | false => rw [readC_bad hg hal]; simp)
                      have HJ1 := Lib.hid (HJ0.out l (by rw [hll, HNl.out]; omega))
                      have HL4 := Lib.hid ho4.cs
                      have hl4 : l.length ≤ 400 := by omega
                      obtain ⟨AL, cL, rfl⟩ := ho4.shape
                      clear hg hnn HAll HGr HJ0 HM5 hll ho4
                      go_wp2
                      have hO0 : Oc (w4.alloc (.cells #[] 54)) w4.heap.size (.slice (some ⟨w4.heap.size, 0, none⟩) 0 0) [] := oc_lit0 w4 w4.heap.size w4.heap.size rfl (Nat.le_refl _)
                      have hf0 : Fr Non w4 (w4.alloc (.cells #[] 54)) := (Fr.refl _ _).alloc _
                      generalize hgg : w4.heap.size = g at *
                      have HGG := Lib.hid hgg
                      clear hgg
                      go_loopw [17, 18, 19] (fun o at_ i wr => ∃ (k a : Nat) (D : List Cl), k ≤ m ∧ i = .int .i64 k ∧ at_ = .int .i64 a ∧ Hid (Joi nulls l k D (l.drop a)) ∧ a ≤ l.length ∧ Hid (D.all (mayC ty true) = true) ∧ Oc wr g o D ∧ Fr Non w4 wr) (fun _ _ i _ => m - (intOf i).toNat)
                      case atStart => exact ⟨0, 0, [], Nat.zero_le _, rfl, rfl, Lib.hid (by rw [List.drop_zero]; exact HJ1.out), Nat.zero_le _, Lib.hid rfl, hO0, hf0⟩
                      case round =>
                        clear hO0 hf0 HJ1
                        obtain ⟨k, a, D, hk, rfl, rfl, HJ, ha, HA, hO, hfr⟩ := hrel
                        have hDl := HJ.out.1
                        by_cases hlt : k < m
                        · obtain ⟨aT, hAT, hh1, hh2, hcell⟩ := HT4.out.addr (by omega)
                          clear hh1 hh2
                          subst hAT
                          have hkn : k < nulls.length := by rw [HNl.out]; exact hlt
                          have hct := hcell k hkn
                          have hfa : Fr Non w4 (wr.alloc (.cells #[.bool true, .int .i64 0, .string ⟨#[]⟩] 54)) := hfr.alloc _
                          have hct2 := (hfa.cell (World.block_lt_of_cell? w4 _ hct) (fun e => e)).trans hct
                          unfold tv at hct2
                          clear hct hcell
                          have hC0 := cl_new wr ⟨true, 0, []⟩
                          have hB := hfr.size
                          cases hx : nulls[k] with
                          | true =>
                            rw [hx] at hct2
                            have HJ2 := Lib.hid (joi_yes HJ.out hkn hx)
                            have hm := fun W => rmay_any ty true ⟨true, 0, []⟩ W
                            rw [mayC_nil HTy.out] at hm
                            unfold clV clC at hm
                            dsimp only at hm
                            have HA2 : Hid ((D ++ [(⟨true, 0, []⟩ : Cl)]).all (mayC ty true) = true) := Lib.hid (by rw [List.all_append, HA.out]; simp [mayC_nil HTy.out])
                            obtain ⟨d0, d1, d2, _, _, _⟩ := hC0.facts
                            dsimp only at d0 d1 d2
                            have HO := Lib.hid hO
                            have HFr := Lib.hid hfr
                            have HC0 := Lib.hid hC0
                            clear hx hO hfr hC0 hfa
                            go_wp2_with fail
                            refine (hm _).mono ?_
                            rintro e w5 ⟨rfl, hf5⟩
                            have hC5 : ClB w5 wr.heap.size ⟨true, 0, []⟩ := HC0.out.fr hf5 (fun e => e)
                            obtain ⟨e0, e1, e2, _, _, _⟩ := hC5.facts
                            dsimp only at e0 e1 e2
                            have hO5 := (HO.out.alloc (.cells #[.bool true, .int .i64 0, .string ⟨([] : List UInt8).toArray⟩] 54)).non hf5
                            have hfr5 := (HFr.out.alloc (.cells #[.bool true, .int .i64 0, .string ⟨([] : List UInt8).toArray⟩] 54)).trans hf5
                            have hB5 := hfr5.size
                            have HFr5 := Lib.hid hfr5
                            clear d0 d1 d2 hm hC5 hf5 hfr5 hct2
                            go_wp2_with (at_builtin; refine wpList_pushC rfl (.tmp 130) (.tmp 132) rfl g _ _ rfl hO5 ⟨true, 0, []⟩ _ _ _ rfl rfl rfl _ rfl (by simp) (by omega) (by have := HGG.out; omega) ?_; intro v6 w6 hown6 hf6)
                            have hfr6 := HFr5.out.fresh hf6 (fun q hq => by have := (hO5.lt q hq).1; have := HGG.out; omega)
                            go_roundw
                            case rel => exact ⟨k + 1, a, _, by omega, by go_num, rfl, HJ2, ha, HA2, hown6, hfr6⟩
                            case measure => simp [intOf]; omega
                          | false =>
                            rw [hx] at hct2
                            obtain ⟨y, q', hdr, hJ2⟩ := joi_no HJ.out hkn hx
                            have hal : a < l.length := by
                              have := congrArg List.length hdr
                              rw [List.length_drop, List.length_cons] at this; omega
                            have hyl : l[a] = y ∧ l.drop (a + 1) = q' := by
                              rw [List.drop_eq_getElem_cons hal, List.cons.injEq] at hdr
                              exact hdr
                            rw [← hyl.2] at hJ2
                            have HJ2 := Lib.hid hJ2
                            obtain ⟨aL, hAL, hh1, hh2, hat⟩ := HL4.out.addr (by omega)
                            clear hh1 hh2 hJ2 hdr
                            subst hAL
                            obtain ⟨q0, q1, q2⟩ := (hfa.at3 (hat a hal)).lit
                            rw [hyl.1] at q0 q1 q2
                            clear hyl hat hx hfa
                            have hm := fun W => rmay_any ty true y W
                            obtain ⟨yn, yi, yt⟩ := y
                            have hS := cl_new wr ⟨yn, yi, yt⟩
                            obtain ⟨z0, z1, z2, _, _, _⟩ := hS.facts
                            dsimp only at z0 z1 z2
                            obtain ⟨d0, d1, d2, p0, p1, p2⟩ := hC0.facts
                            dsimp only at d0 d1 d2
                            unfold clV clC at hm
                            dsimp only at hm
                            have HS := Lib.hid hS
                            have HO := Lib.hid hO
                            have HFr := Lib.hid hfr
                            clear hS hO hfr hC0
                            cases hmy : mayC ty true ⟨yn, yi, yt⟩ with
                            | true =>
                              rw [hmy] at hm
                              have HA2 : Hid ((D ++ [(⟨yn, yi, yt⟩ : Cl)]).all (mayC ty true) = true) := Lib.hid (by rw [List.all_append, HA.out]; simp [hmy])
                              clear hmy
                              go_wp2_with fail
                              refine (hm _).mono ?_
                              rintro e w5 ⟨rfl, hf5⟩
                              have hC5 : ClB w5 wr.heap.size ⟨yn, yi, yt⟩ := HS.out.fr hf5 (fun e => e)
                              clear d0 d1 d2 z0 z1 z2 p0 p1 p2
                              obtain ⟨e0, e1, e2, _, _, _⟩ := hC5.facts
                              dsimp only at e0 e1 e2
                              have hO5 := (HO.out.alloc (.cells #[.bool yn, .int .i64 yi, .string ⟨yt.toArray⟩] 54)).non hf5
                              have hfr5 := (HFr.out.alloc (.cells #[.bool yn, .int .i64 yi, .string ⟨yt.toArray⟩] 54)).trans hf5
                              have hB5 := hfr5.size
                              have HFr5 := Lib.hid hfr5
                              clear hm hC5 hf5 hfr5 hct2 q0 q1 q2
                              go_wp2_with (at_builtin; refine wpList_pushC rfl (.tmp 130) (.tmp 132) rfl g _ _ rfl hO5 ⟨yn, yi, yt⟩ _ _ _ rfl rfl rfl _ rfl (by simp) (by omega) (by have := HGG.out; omega) ?_; intro v6 w6 hown6 hf6)
                              have hfr6 := HFr5.out.fresh hf6 (fun q hq => by have := (hO5.lt q hq).1; have := HGG.out; omega)
                              go_roundw
                              case rel => exact ⟨k + 1, a + 1, _, by omega, by go_num, by go_num, HJ2, by omega, HA2, hown6, hfr6⟩
                              case measure => simp [intOf]; omega
                            | false =>
                              rw [hmy] at hm
                              have HA2 : Hid ((joinC nulls l).all (mayC ty true) = false) := Lib.hid (by
                                rw [HJ2.out.2.1]; simp [hmy])
                              clear hmy
                              go_wp2_with fail
                              refine (hm _).mono ?_
                              rintro e w5 ⟨rfl, hf5⟩
                              have HN : Hid (G = none) := Lib.hid (by rw [HGj.out, HA2.out]; rfl)
                              have hF5 := HF4.out.trans ((HFr.out.alloc _).trans hf5)
                              go_wp2
                              go_ret2
                              exact ⟨gec_no HN.out, hF5⟩
                        · obtain rfl : k = m := by omega
                          have HE : Hid (G = some D) := Lib.hid (by
                            have h1 := HJ.out
                            rw [show k = nulls.length from HNl.out.symm] at h1
                            have h2 := joi_all h1
                            rw [HGj.out, h2, if_pos HA.out])
                          go_wp2
                          go_ret2
                          exact ⟨.inr ⟨_, _, HE.out, rfl, hO.mono (by have := HGG.out; have := HF4.out.size; omega)⟩, HF4.out.trans hfr⟩
                  · have HN : Hid (G = none) := Lib.hid (by rw [HGr.out, readC_no hm5]; rfl)
                    have dne : (decide (5 ≤ (K : Int)) == (ty == 3)) = false := by
                      rw [beq_eq_false_iff_ne]; exact fun e => hm5 (hmem.2 e)
                    clear hmem hm5
                    go_enter Tryz.func50, Tryz.ntmps50
                    go_wp2
                    go_quiet (fail)
                    rename_i nq
                    go_wp2_with (at_make; refine wpList_mkfullG el_bool false rfl rfl _ _ rfl _ _ _ _ m rfl rfl rfl rfl (by omega) ?_; intro WW hown2 hfr2)
                    have HF : Hid (Fr Non w WW) := Lib.hid (((Fr.refl _ _).drewN _).trans hfr2)
                    go_ret2
                    exact ⟨gec_no HN.out, HF.out⟩
end Go.Proofs.YtheefloegbkflaaGreatDoor
