/-
  Joined: Layer 11: the zone of a list's cells, the document's. · Layer 15: words on runes and on a text's iterator; the walks of glob.small, glob.Fold, firkinref15.Fold. · Layer 15: the walks of firkinref15.Fold, glob.empty, glob.matches, glob.Match. · Layer 15: the walk of firkinref15.Match: the way by beginnings. · Layer 20: truths told, turned, compared; orders of two values; both programs' small functions. · Layer 12: which rows there may be, both programs'. · Layer 20: two values compared, a text matched, a row's value in a column; the document's comparison. · Layer 20: what a predicate is of a row, the program's: of every one. · Layer 20: the program's ask, Row, Rows.
-/
import Derived.Lib.Zigzag
import Derived.Deep.RegionHeld3
import Derived.Test.YtpmipdnmhffkeaaDoorZ2
import Derived.Test.YtpmipdnmhffkeaaDoorZ1
import Derived.Lib.OthersKept
import Derived.BigQuiet
import Derived.BigRegion
import Derived.Test.YtpmipdnmhffkeaaDoorZ3
import Derived.Test.YtpmipdnmhffkeaaDoorZ5

namespace Go.Proofs.YtpmipdnmhffkeaaDoor
set_option linter.unusedVariables false
set_option linter.unusedSimpArgs false
set_option maxRecDepth 100000
open Go.RowKit

theorem At3.frs {S : Nat → Prop} {w w' : World} {a : Addr} {c : Cl} (h : At3 w a c) (hf : Fr S w w') (hn : ¬ S a.block) : At3 w' a c :=
  h.keep (hf.block _ (World.block_lt_of_cell? w _ h.c0) hn)
theorem At3.drew {w : World} {a : Addr} {c : Cl} (h : At3 w a c) : At3 w.drew a c := ⟨h.c0, h.c1, h.c2⟩
/-- what the loop of the document's holds: the element, the zone, the result's block -/
structure ROf (w : World) (ad : Addr) (R : Nat) (x : Cl) (z : Zn) : Prop where
  el : At3 w ad x
  zn : ZnB w (R + 1) z
  out : ZnB w R noZn
theorem ROf.non {w w' : World} {ad : Addr} {R : Nat} {x : Cl} {z : Zn} (h : ROf w ad R x z) (hf : Fr Non w w') : ROf w' ad R x z := ⟨h.el.frs hf (fun e => e), h.zn.fr hf (fun e => e), h.out.fr hf (fun e => e)⟩
theorem ROf.drew {w : World} {ad : Addr} {R : Nat} {x : Cl} {z : Zn} (h : ROf w ad R x z) : ROf w.drew ad R x z := ⟨h.el.drew, h.zn, h.out⟩
theorem ROf.low {w : World} {ad : Addr} {R : Nat} {x : Cl} {z : Zn} (h : ROf w ad R x z) (hd : ad.block ≠ R + 1) (c : Cl) : ROf (setLow w (R + 1) c.null c.num c.txt) ad R x ⟨z.rows, z.nulls, c, z.high⟩ :=
  ⟨h.el.frs (setLow_fr _ _ _ _ _) hd, setLow_B h.zn c, h.out.fr (setLow_fr _ _ _ _ _) (fun e => by have : R = R + 1 := e; omega)⟩
theorem ROf.high {w : World} {ad : Addr} {R : Nat} {x : Cl} {z : Zn} (h : ROf w ad R x z) (hd : ad.block ≠ R + 1) (c : Cl) : ROf (setHigh w (R + 1) c.null c.num c.txt) ad R x ⟨z.rows, z.nulls, z.low, c⟩ :=
  ⟨h.el.frs (setHigh_fr _ _ _ _ _) hd, setHigh_B h.zn c, h.out.fr (setHigh_fr _ _ _ _ _) (fun e => by have : R = R + 1 := e; omega)⟩

set_option maxHeartbeats 4000000 in
theorem rzof_any (v : Value) (l : List Cl) (w : World) (hv : Cs w v l) (hvl : ∀ q, v.ownBlock = some q → q < w.heap.size) (hl : l.length ≤ 1000000) :
    Calls Tryd.prog 15 #[v] w fun e w' => ∃ z, e = .returned (znV z) ∧ IsOf l z ∧ Fr Non w w' := by
  obtain ⟨A, c, rfl, hlc, hn, hcell⟩ := hv
  have HC := Lib.hid hcell
  have HN := Lib.hid hn
  clear hcell hn
  have f0 : Fr Non w _ := ((Fr.refl Non w).alloc (.cells (znC noZn) 33)).alloc (.cells (znC ⟨l.length, 0, noCl, noCl⟩) 33)
  have hA : ZnB (w.alloc (.cells (znC noZn) 33)) w.heap.size noZn := Blk.new _ _ _
  have hB : ZnB ((w.alloc (.cells (znC noZn) 33)).alloc (.cells (znC ⟨l.length, 0, noCl, noCl⟩) 33)) (w.alloc (.cells (znC noZn) 33)).heap.size ⟨l.length, 0, noCl, noCl⟩ := Blk.new _ _ _
  have hsz : (w.alloc (.cells (znC noZn) 33)).heap.size = w.heap.size + 1 := by simp
  rw [hsz] at hB
  have hA2 : ZnB ((w.alloc (.cells (znC noZn) 33)).alloc (.cells (znC ⟨l.length, 0, noCl, noCl⟩) 33)) w.heap.size noZn := hA.fr ((Fr.refl Non _).alloc _) (fun e => e)
  have J0 := Lib.hid (jinv_start l.length 0)
  clear hA hsz
  unfold znC noZn noCl at *
  dsimp only at *
  replace f0 := Lib.hid f0
  replace hB := Lib.hid hB
  replace hA2 := Lib.hid hA2
  go_enter Tryd.func15, Tryd.ntmps15
  go_wp2
  generalize hw : w.heap.size = R at *
  have HW := Lib.hid (Nat.le_of_eq hw)
  have hVL := hvl
  clear hw hvl
  go_loopw [4] (fun i wr => ∃ (k : Nat) (z : Zn), k ≤ l.length ∧ i = .int .i64 k ∧ JInv l.length (nulC (l.take k)) (liveC (l.take k)) z (decide (z.nulls = k)) ∧ ZnB wr (R + 1) z ∧ ZnB wr R noZn ∧ Fr Non w wr) (fun i _ => l.length - (intOf i).toNat)
  case atStart => exact ⟨0, _, Nat.zero_le _, rfl, J0.out, hB.out, hA2.out, f0.out⟩
  case round =>
    clear hA2 hB f0 J0
    obtain ⟨k, z, hk, rfl, hJ, hZ, hO, hF⟩ := hrel
    by_cases hlt : k < l.length
    · cases A with
      | none => have := HN.out rfl; omega
      | some a =>
        have hel := hF.at3 (HC.out a rfl k hlt)
        have hbd : (a.add (k * 3)).block < R := by rw [add_block]; exact hVL a.block rfl
        have HY := Lib.hid (jinv_yes hlt hJ)
        have HX := Lib.hid (jinv_no hlt hJ)
        obtain ⟨hn0, hn1⟩ := jinv_le (Nat.le_of_lt hlt) hJ
        clear hJ
        generalize l[k] = x at *
        have hN : ROf wr (a.add (k * 3)) R x z := ⟨hel, hZ, hO⟩
        have had : (a.add (k * 3)).block ≠ R + 1 := by omega
        clear hel hZ hO
        obtain ⟨xn, xi, xt⟩ := x
        cases xn
        · replace HX := Lib.hid (HX.out rfl)
          clear HY
          have O1 := fun W => rorder_any ⟨false, xi, xt⟩ z.low W
          have O2 := fun W => rorder_any ⟨false, xi, xt⟩ z.high W
          have HZ : noteZ (decide (z.nulls = k)) z ⟨false, xi, xt⟩ = ⟨z.rows, z.nulls, if (decide (z.nulls = k) || decide (ordC ⟨false, xi, xt⟩ z.low < 0)) = true then ⟨false, xi, xt⟩ else z.low, if (decide (z.nulls = k) || decide (0 < ordC ⟨false, xi, xt⟩ z.high)) = true then ⟨false, xi, xt⟩ else z.high⟩ := rfl
          generalize ordC ⟨false, xi, xt⟩ z.low = x at *
          generalize ordC ⟨false, xi, xt⟩ z.high = y at *
          unfold clV clC at O1 O2
          dsimp only at O1 O2
          replace O1 := Lib.hid O1
          replace O2 := Lib.hid O2
          replace HZ := Lib.hid HZ
          obtain ⟨c0, c1, c2⟩ := hN.el.lit
          dsimp only at c0 c1 c2
          have z1 : wr.cell? ⟨R + 1, 1, none⟩ = some (.int .i64 z.nulls) := hN.zn.cell 1
          by_cases hfi : z.nulls = k
          · have HZ1 : Hid (noteZ (decide (z.nulls = k)) z ⟨false, xi, xt⟩ = ⟨z.rows, z.nulls, ⟨false, xi, xt⟩, ⟨false, xi, xt⟩⟩) := Lib.hid (by rw [HZ.out, decide_eq_true hfi]; rfl)
            have HE : Hid (JInv l.length (nulC (l.take (k + 1))) (liveC (l.take (k + 1))) ⟨z.rows, z.nulls, ⟨false, xi, xt⟩, ⟨false, xi, xt⟩⟩ (decide (z.nulls = (k + 1 : Nat)))) := Lib.hid (by rw [HZ1.out] at HX; have := HX.out; rwa [show decide (z.nulls = ((k + 1 : Nat) : Int)) = false from decide_eq_false (by omega)])
            have hd : (z.nulls == (k : Int)) = true := by simpa using hfi
            clear HZ HZ1 HX O1 O2 hfi
            go_wp2
            clear c0 c1 c2 z1
            go_region
            replace hN := hN.drew
            replace hF := hF.drew
            generalize wr.drew = V1 at *
            have hL : ROf (setLow V1 (R + 1) false xi xt) (a.add (k * 3)) R ⟨false, xi, xt⟩ ⟨z.rows, z.nulls, ⟨false, xi, xt⟩, z.high⟩ := hN.low had ⟨false, xi, xt⟩
            have FF : Fr Non w (setLow V1 (R + 1) false xi xt) := hF.fresh (setLow_fr V1 (R + 1) false xi xt) (fun q e => by have : q = R + 1 := e; have := HW.out; omega)
            replace hL := Lib.hid hL
            replace FF := Lib.hid FF
            obtain ⟨y0, y1, y2, y3, y4, y5, y6, y7⟩ := znB_froz hN.zn
            obtain ⟨a0, a1, a2, a3, a4, a5, a6, a7⟩ := znB_cells hN.zn
            obtain ⟨c0, c1, c2⟩ := hN.el.lit
            dsimp only at c0 c1 c2
            clear hN hF
            unfold setLow at hL FF
            go_wp2
            clear y0 y1 y2 y3 y4 y5 y6 y7 a0 a1 a2 a3 a4 a5 a6 a7 c0 c1 c2
            generalize ((V1.setCell ⟨R + 1, 2, none⟩ (.bool false)).setCell ⟨R + 1, 3, none⟩ (.int .i64 xi)).setCell ⟨R + 1, 4, none⟩ (.string ⟨xt.toArray⟩) = V at *
            have hN := hL.out
            have hF := FF.out
            clear hL FF
            go_region
            replace hN := hN.drew
            replace hF := hF.drew
            generalize V.drew = V2 at *
            have hL : ROf (setHigh V2 (R + 1) false xi xt) (a.add (k * 3)) R ⟨false, xi, xt⟩ ⟨z.rows, z.nulls, ⟨false, xi, xt⟩, ⟨false, xi, xt⟩⟩ := hN.high had ⟨false, xi, xt⟩
            have FF : Fr Non w (setHigh V2 (R + 1) false xi xt) := hF.fresh (setHigh_fr V2 (R + 1) false xi xt) (fun q e => by have : q = R + 1 := e; have := HW.out; omega)
            replace hL := Lib.hid hL
            replace FF := Lib.hid FF
            obtain ⟨y0, y1, y2, y3, y4, y5, y6, y7⟩ := znB_froz hN.zn
            obtain ⟨a0, a1, a2, a3, a4, a5, a6, a7⟩ := znB_cells hN.zn
            obtain ⟨c0, c1, c2⟩ := hN.el.lit
            dsimp only at c0 c1 c2
            clear hN hF
            unfold setHigh at hL FF
            go_wp2
            go_roundw
            case rel => exact ⟨k + 1, _, by omega, by go_num, HE.out, hL.out.zn, hL.out.out, FF.out⟩
            case measure => simp [intOf]; omega
          · have hd : (z.nulls == (k : Int)) = false := by simpa using hfi
            have HFI : Hid (¬ z.nulls = (k : Int)) := Lib.hid hfi
            clear hfi
            go_wp2
            clear c0 c1 c2 z1
            generalize wr = V at *
            replace hN := hN.drew
            replace hF := hF.drew
            obtain ⟨s0, s1, s2⟩ := At3.lit (hN).el
            have s3 : (V.drew).cell? ⟨R + 1, 2, none⟩ = some (.bool z.low.null) := (hN).zn.cell 2
            have s4 : (V.drew).cell? ⟨R + 1, 3, none⟩ = some (.int .i64 z.low.num) := (hN).zn.cell 3
            have s5 : (V.drew).cell? ⟨R + 1, 4, none⟩ = some (.string ⟨z.low.txt.toArray⟩) := (hN).zn.cell 4
            dsimp only at s0 s1 s2
            go_region_held3 (fun W => W.cell? (a.add (k * 3)) = some (.bool false) ∧ W.cell? { block := (a.add (k * 3)).block, off := (a.add (k * 3)).off + 1 } = some (.int .i64 xi) ∧ W.cell? { block := (a.add (k * 3)).block, off := (a.add (k * 3)).off + 2 } = some (.string ⟨xt.toArray⟩) ∧ W.cell? ⟨R + 1, 2, none⟩ = some (.bool z.low.null) ∧ W.cell? ⟨R + 1, 3, none⟩ = some (.int .i64 z.low.num) ∧ W.cell? ⟨R + 1, 4, none⟩ = some (.string ⟨z.low.txt.toArray⟩)) (first | exact ⟨s0, s1, s2, s3, s4, s5⟩ | exact ⟨t0, t1, t2, t3, t4, t5⟩) (first | (go_at_call 26; (with_reducible refine (O1.out _).mono ?_); rintro e w4 ⟨rfl, f4⟩; have hN4 := hN.non f4; have hF4 := hF.then f4; obtain ⟨t0, t1, t2⟩ := At3.lit (hN4).el; have t3 : (w4).cell? ⟨R + 1, 2, none⟩ = some (.bool z.low.null) := (hN4).zn.cell 2; have t4 : (w4).cell? ⟨R + 1, 3, none⟩ = some (.int .i64 z.low.num) := (hN4).zn.cell 3; have t5 : (w4).cell? ⟨R + 1, 4, none⟩ = some (.string ⟨z.low.txt.toArray⟩) := (hN4).zn.cell 4; dsimp only at t0 t1 t2))
            clear s0 s1 s2 s3 s4 s5 t0 t1 t2 t3 t4 t5 f4 hN hF
            have hN := hN4
            have hF := hF4
            clear hN4 hF4
            clear O1
            by_cases hx : x < 0
            · have HZ0 : Hid (noteZ (decide (z.nulls = k)) z ⟨false, xi, xt⟩ = ⟨z.rows, z.nulls, ⟨false, xi, xt⟩, if (false || decide (0 < y)) = true then ⟨false, xi, xt⟩ else z.high⟩) := Lib.hid (by rw [HZ.out, decide_eq_true hx, decide_eq_false HFI.out]; rfl)
              have hd1 : decide (x < 0) = true := decide_eq_true hx
              clear HZ
              generalize w4 = V1 at *
              have hL : ROf (setLow V1 (R + 1) false xi xt) (a.add (k * 3)) R ⟨false, xi, xt⟩ ⟨z.rows, z.nulls, ⟨false, xi, xt⟩, z.high⟩ := hN.low had ⟨false, xi, xt⟩
              have FF : Fr Non w (setLow V1 (R + 1) false xi xt) := hF.fresh (setLow_fr V1 (R + 1) false xi xt) (fun q e => by have : q = R + 1 := e; have := HW.out; omega)
              replace hL := Lib.hid hL
              replace FF := Lib.hid FF
              obtain ⟨y0, y1, y2, y3, y4, y5, y6, y7⟩ := znB_froz hN.zn
              obtain ⟨a0, a1, a2, a3, a4, a5, a6, a7⟩ := znB_cells hN.zn
              obtain ⟨c0, c1, c2⟩ := hN.el.lit
              dsimp only at c0 c1 c2
              clear hN hF
              unfold setLow at hL FF
              go_wp2
              clear y0 y1 y2 y3 y4 y5 y6 y7 a0 a1 a2 a3 a4 a5 a6 a7 c0 c1 c2
              generalize ((V1.setCell ⟨R + 1, 2, none⟩ (.bool false)).setCell ⟨R + 1, 3, none⟩ (.int .i64 xi)).setCell ⟨R + 1, 4, none⟩ (.string ⟨xt.toArray⟩) = V at *
              have hN := hL.out
              have hF := FF.out
              clear hL FF
              replace hN := hN.drew
              replace hF := hF.drew
              obtain ⟨s0, s1, s2⟩ := At3.lit (hN).el
              have s3 : (V.drew).cell? ⟨R + 1, 5, none⟩ = some (.bool z.high.null) := (hN).zn.cell 5
              have s4 : (V.drew).cell? ⟨R + 1, 6, none⟩ = some (.int .i64 z.high.num) := (hN).zn.cell 6
              have s5 : (V.drew).cell? ⟨R + 1, 7, none⟩ = some (.string ⟨z.high.txt.toArray⟩) := (hN).zn.cell 7
              dsimp only at s0 s1 s2
              go_region_held3 (fun W => W.cell? (a.add (k * 3)) = some (.bool false) ∧ W.cell? { block := (a.add (k * 3)).block, off := (a.add (k * 3)).off + 1 } = some (.int .i64 xi) ∧ W.cell? { block := (a.add (k * 3)).block, off := (a.add (k * 3)).off + 2 } = some (.string ⟨xt.toArray⟩) ∧ W.cell? ⟨R + 1, 5, none⟩ = some (.bool z.high.null) ∧ W.cell? ⟨R + 1, 6, none⟩ = some (.int .i64 z.high.num) ∧ W.cell? ⟨R + 1, 7, none⟩ = some (.string ⟨z.high.txt.toArray⟩)) (first | exact ⟨s0, s1, s2, s3, s4, s5⟩ | exact ⟨t0, t1, t2, t3, t4, t5⟩) (first | (go_at_call 26; (with_reducible refine (O2.out _).mono ?_); rintro e w4 ⟨rfl, f4⟩; have hN4 := hN.non f4; have hF4 := hF.then f4; obtain ⟨t0, t1, t2⟩ := At3.lit (hN4).el; have t3 : (w4).cell? ⟨R + 1, 5, none⟩ = some (.bool z.high.null) := (hN4).zn.cell 5; have t4 : (w4).cell? ⟨R + 1, 6, none⟩ = some (.int .i64 z.high.num) := (hN4).zn.cell 6; have t5 : (w4).cell? ⟨R + 1, 7, none⟩ = some (.string ⟨z.high.txt.toArray⟩) := (hN4).zn.cell 7; dsimp only at t0 t1 t2))
              clear s0 s1 s2 s3 s4 s5 t0 t1 t2 t3 t4 t5 f4 hN hF
              have hN := hN4
              have hF := hF4
              clear hN4 hF4
              by_cases hy : 0 < y
              · have HZ1 : Hid (noteZ (decide (z.nulls = k)) z ⟨false, xi, xt⟩ = ⟨z.rows, z.nulls, ⟨false, xi, xt⟩, ⟨false, xi, xt⟩⟩) := Lib.hid (by rw [HZ0.out, decide_eq_true hy]; rfl)
                have HE : Hid (JInv l.length (nulC (l.take (k + 1))) (liveC (l.take (k + 1))) ⟨z.rows, z.nulls, ⟨false, xi, xt⟩, ⟨false, xi, xt⟩⟩ (decide (z.nulls = (k + 1 : Nat)))) := Lib.hid (by rw [HZ1.out] at HX; have := HX.out; rwa [show decide (z.nulls = ((k + 1 : Nat) : Int)) = false from decide_eq_false (by omega)])
                have hd2 : decide (0 < y) = true := decide_eq_true hy
                clear HZ0 HZ1 HX O2
                generalize w4 = V1 at *
                have hL : ROf (setHigh V1 (R + 1) false xi xt) (a.add (k * 3)) R ⟨false, xi, xt⟩ ⟨z.rows, z.nulls, ⟨false, xi, xt⟩, ⟨false, xi, xt⟩⟩ := hN.high had ⟨false, xi, xt⟩
                have FF : Fr Non w (setHigh V1 (R + 1) false xi xt) := hF.fresh (setHigh_fr V1 (R + 1) false xi xt) (fun q e => by have : q = R + 1 := e; have := HW.out; omega)
                replace hL := Lib.hid hL
                replace FF := Lib.hid FF
                obtain ⟨y0, y1, y2, y3, y4, y5, y6, y7⟩ := znB_froz hN.zn
                obtain ⟨a0, a1, a2, a3, a4, a5, a6, a7⟩ := znB_cells hN.zn
                obtain ⟨c0, c1, c2⟩ := hN.el.lit
                dsimp only at c0 c1 c2
                clear hN hF
                unfold setHigh at hL FF
                go_wp2
                go_roundw
                case rel => exact ⟨k + 1, _, by omega, by go_num, HE.out, hL.out.zn, hL.out.out, FF.out⟩
                case measure => simp [intOf]; omega
              · have HZ1 : Hid (noteZ (decide (z.nulls = k)) z ⟨false, xi, xt⟩ = ⟨z.rows, z.nulls, ⟨false, xi, xt⟩, z.high⟩) := Lib.hid (by rw [HZ0.out, decide_eq_false hy]; rfl)
                have HE : Hid (JInv l.length (nulC (l.take (k + 1))) (liveC (l.take (k + 1))) ⟨z.rows, z.nulls, ⟨false, xi, xt⟩, z.high⟩ (decide (z.nulls = (k + 1 : Nat)))) := Lib.hid (by rw [HZ1.out] at HX; have := HX.out; rwa [show decide (z.nulls = ((k + 1 : Nat) : Int)) = false from decide_eq_false (by omega)])
                have hd2 : decide (0 < y) = false := decide_eq_false hy
                clear HZ0 HZ1 HX O2
                replace hN := Lib.hid hN
                replace hF := Lib.hid hF
                go_wp2
                go_roundw
                case rel => exact ⟨k + 1, _, by omega, by go_num, HE.out, hN.out.zn, hN.out.out, hF.out⟩
                case measure => simp [intOf]; omega
            · have HZ0 : Hid (noteZ (decide (z.nulls = k)) z ⟨false, xi, xt⟩ = ⟨z.rows, z.nulls, z.low, if (false || decide (0 < y)) = true then ⟨false, xi, xt⟩ else z.high⟩) := Lib.hid (by rw [HZ.out, decide_eq_false hx, decide_eq_false HFI.out]; rfl)
              have hd1 : decide (x < 0) = false := decide_eq_false hx
              clear HZ
              generalize w4 = V at *
              go_wp2
              replace hN := hN.drew
              replace hF := hF.drew
              obtain ⟨s0, s1, s2⟩ := At3.lit (hN).el
              have s3 : (V.drew).cell? ⟨R + 1, 5, none⟩ = some (.bool z.high.null) := (hN).zn.cell 5
              have s4 : (V.drew).cell? ⟨R + 1, 6, none⟩ = some (.int .i64 z.high.num) := (hN).zn.cell 6
              have s5 : (V.drew).cell? ⟨R + 1, 7, none⟩ = some (.string ⟨z.high.txt.toArray⟩) := (hN).zn.cell 7
              dsimp only at s0 s1 s2
              go_region_held3 (fun W => W.cell? (a.add (k * 3)) = some (.bool false) ∧ W.cell? { block := (a.add (k * 3)).block, off := (a.add (k * 3)).off + 1 } = some (.int .i64 xi) ∧ W.cell? { block := (a.add (k * 3)).block, off := (a.add (k * 3)).off + 2 } = some (.string ⟨xt.toArray⟩) ∧ W.cell? ⟨R + 1, 5, none⟩ = some (.bool z.high.null) ∧ W.cell? ⟨R + 1, 6, none⟩ = some (.int .i64 z.high.num) ∧ W.cell? ⟨R + 1, 7, none⟩ = some (.string ⟨z.high.txt.toArray⟩)) (first | exact ⟨s0, s1, s2, s3, s4, s5⟩ | exact ⟨t0, t1, t2, t3, t4, t5⟩) (first | (go_at_call 26; (with_reducible refine (O2.out _).mono ?_); rintro e w4 ⟨rfl, f4⟩; have hN4 := hN.non f4; have hF4 := hF.then f4; obtain ⟨t0, t1, t2⟩ := At3.lit (hN4).el; have t3 : (w4).cell? ⟨R + 1, 5, none⟩ = some (.bool z.high.null) := (hN4).zn.cell 5; have t4 : (w4).cell? ⟨R + 1, 6, none⟩ = some (.int .i64 z.high.num) := (hN4).zn.cell 6; have t5 : (w4).cell? ⟨R + 1, 7, none⟩ = some (.string ⟨z.high.txt.toArray⟩) := (hN4).zn.cell 7; dsimp only at t0 t1 t2))
              clear s0 s1 s2 s3 s4 s5 t0 t1 t2 t3 t4 t5 f4 hN hF
              have hN := hN4
              have hF := hF4
              clear hN4 hF4
              by_cases hy : 0 < y
              · have HZ1 : Hid (noteZ (decide (z.nulls = k)) z ⟨false, xi, xt⟩ = ⟨z.rows, z.nulls, z.low, ⟨false, xi, xt⟩⟩) := Lib.hid (by rw [HZ0.out, decide_eq_true hy]; rfl)
                have HE : Hid (JInv l.length (nulC (l.take (k + 1))) (liveC (l.take (k + 1))) ⟨z.rows, z.nulls, z.low, ⟨false, xi, xt⟩⟩ (decide (z.nulls = (k + 1 : Nat)))) := Lib.hid (by rw [HZ1.out] at HX; have := HX.out; rwa [show decide (z.nulls = ((k + 1 : Nat) : Int)) = false from decide_eq_false (by omega)])
                have hd2 : decide (0 < y) = true := decide_eq_true hy
                clear HZ0 HZ1 HX O2
                generalize w4 = V1 at *
                have hL : ROf (setHigh V1 (R + 1) false xi xt) (a.add (k * 3)) R ⟨false, xi, xt⟩ ⟨z.rows, z.nulls, z.low, ⟨false, xi, xt⟩⟩ := hN.high had ⟨false, xi, xt⟩
                have FF : Fr Non w (setHigh V1 (R + 1) false xi xt) := hF.fresh (setHigh_fr V1 (R + 1) false xi xt) (fun q e => by have : q = R + 1 := e; have := HW.out; omega)
                replace hL := Lib.hid hL
                replace FF := Lib.hid FF
                obtain ⟨y0, y1, y2, y3, y4, y5, y6, y7⟩ := znB_froz hN.zn
                obtain ⟨a0, a1, a2, a3, a4, a5, a6, a7⟩ := znB_cells hN.zn
                obtain ⟨c0, c1, c2⟩ := hN.el.lit
                dsimp only at c0 c1 c2
                clear hN hF
                unfold setHigh at hL FF
                go_wp2
                go_roundw
                case rel => exact ⟨k + 1, _, by omega, by go_num, HE.out, hL.out.zn, hL.out.out, FF.out⟩
                case measure => simp [intOf]; omega
              · have HZ1 : Hid (noteZ (decide (z.nulls = k)) z ⟨false, xi, xt⟩ = ⟨z.rows, z.nulls, z.low, z.high⟩) := Lib.hid (by rw [HZ0.out, decide_eq_false hy]; rfl)
                have HE : Hid (JInv l.length (nulC (l.take (k + 1))) (liveC (l.take (k + 1))) ⟨z.rows, z.nulls, z.low, z.high⟩ (decide (z.nulls = (k + 1 : Nat)))) := Lib.hid (by rw [HZ1.out] at HX; have := HX.out; rwa [show decide (z.nulls = ((k + 1 : Nat) : Int)) = false from decide_eq_false (by omega)])
                have hd2 : decide (0 < y) = false := decide_eq_false hy
                clear HZ0 HZ1 HX O2
                replace hN := Lib.hid hN
                replace hF := Lib.hid hF
                go_wp2
                go_roundw
                case rel => exact ⟨k + 1, _, by omega, by go_num, HE.out, hN.out.zn, hN.out.out, hF.out⟩
                case measure => simp [intOf]; omega
        · replace HY := Lib.hid (HY.out rfl)
          clear HX
          have HE : Hid (JInv l.length (nulC (l.take (k + 1))) (liveC (l.take (k + 1))) ⟨z.rows, z.nulls + 1, z.low, z.high⟩ (decide (z.nulls + 1 = (k + 1 : Nat)))) := Lib.hid (by have := HY.out; rwa [show decide (z.nulls + 1 = ((k + 1 : Nat) : Int)) = decide (z.nulls = (k : Int)) by simp only [decide_eq_decide]; omega])
          obtain ⟨c0, c1, c2⟩ := hN.el.lit
          dsimp only at c0 c1 c2
          have z1 : wr.cell? ⟨R + 1, 1, none⟩ = some (.int .i64 z.nulls) := hN.zn.cell 1
          have y1 := hN.zn.frozen 1
          have f2 := (Fr.refl (One (R + 1)) wr).set1 1 (.int .i64 (z.nulls + 1))
          have hZ2 : Hid (ZnB _ (R + 1) ⟨z.rows, z.nulls + 1, z.low, z.high⟩) := Lib.hid (setNul_B hN.zn (z.nulls + 1))
          have hO2 : Hid (ZnB _ R noZn) := Lib.hid (hN.out.fr f2 (fun e => by have : R = R + 1 := e; omega))
          have hF2 := Lib.hid (hF.fresh f2 (fun q e => by have : q = R + 1 := e; have := HW.out; omega))
          clear HY hN f2 hF
          go_wp2
          go_roundw
          case rel => exact ⟨k + 1, _, by omega, by go_num, HE.out, hZ2.out, hO2.out, hF2.out⟩
          case measure => simp [intOf]; omega
    · obtain rfl : k = l.length := by omega
      rw [List.take_length] at hJ
      have HE := Lib.hid (jinv_end hJ)
      obtain ⟨y0, y1, y2, y3, y4, y5, y6, y7⟩ := znB_froz hO
      obtain ⟨b0, b1, b2, b3, b4, b5, b6, b7⟩ := znB_cells hO
      obtain ⟨a0, a1, a2, a3, a4, a5, a6, a7⟩ := znB_cells hZ
      have HA := Lib.hid (setZn_B hO z)
      have HF := Lib.hid (hF.fresh (setZn_fr wr R z) (fun q e => by have : q = R := e; have := HW.out; omega))
      clear hJ hZ hO hF
      go_wp2
      exact bodyPost_ret (v := znV z) (ret_zn (p := 2) rfl _ _ R z rfl HA.out) rfl ⟨z, rfl, HE.out, HF.out⟩
end Go.Proofs.YtpmipdnmhffkeaaDoor


namespace Go.Proofs.YtpmipdnmhffkeaaDoor
set_option linter.unusedVariables false
set_option linter.unusedSimpArgs false
set_option maxRecDepth 100000
open Go.RowKit

/-- a rune's cell -/
def ruv (n : Nat) : Value := .int .i32 (n : Int)
theorem ruv_one (n : Nat) : (ruv n).oneCell' = true := rfl
theorem el_rune : El 86 21 (.int .i32 0) 4 := ⟨Tryd.underlying86, by kernel_rfl, rfl, by decide, by kernel_rfl, fun _ => by kernel_rfl⟩

/-- in block k lies an iterator over the text l, at place p -/
def ItU (w : World) (k : Nat) (l : List UInt8) (p : Nat) : Prop := w.heap[k]? = some (.stringIter ⟨l.toArray⟩ p)
theorem sizeU (l : List UInt8) : ByteArray.size ⟨l.toArray⟩ = l.length := by simp [ByteArray.size]
theorem ItU.new (w : World) (l : List UInt8) : ItU (w.iter ⟨l.toArray⟩ 0) w.heap.size l 0 := World.iter_heap w _ 0
theorem ItU.pos {w : World} {k p : Nat} {l : List UInt8} (h : ItU w k l p) : w.iterPos k = p := by
  unfold ItU at h; simp [World.iterPos, h]
theorem ItU.lt {w : World} {k p : Nat} {l : List UInt8} (h : ItU w k l p) : k < w.heap.size := (Array.getElem?_eq_some_iff.1 h).1
theorem ItU.fr {S : Nat → Prop} {w w' : World} {k p : Nat} {l : List UInt8} (h : ItU w k l p) (hf : Fr S w w') (hn : ¬ S k) : ItU w' k l p := (hf.block k h.lt hn).trans h
theorem fr_iterAt (w : World) (k : Nat) (s : ByteArray) (p : Nat) : Fr (One k) w (w.iterAt k s p) :=
  ⟨rfl, rfl, rfl, by rw [Lib.iterAt_size]; exact Nat.le_refl _, fun j _ hj => Lib.iterAt_other w k j s p hj⟩
/-- a step of the range -/
theorem nextU (wr : World) (k p : Nat) (l : List UInt8) (h : ItU wr k l p) (hp : p < l.length) :
    ∃ W, (∀ ty, (Instr.next (.pointer (some ⟨k, 0, none⟩)) true ty).run Tryd.prog wr = .ok (.tuple #[.bool true, .int .i64 p, .int .i32 ((dcU (l.drop p)).1 : Int)]) W) ∧
      ItU W k l (p + (dcU (l.drop p)).2) ∧ Fr (One k) wr W := by
  refine ⟨wr.iterAt k ⟨l.toArray⟩ (p + (dcU (l.drop p)).2), fun ty => ?_, Lib.iterAt_heap wr k _ p _ h, fr_iterAt _ _ _ _⟩
  rw [← dcU_at]
  exact Lib.run_next_any_at wr k _ p ty h (by rw [sizeU]; exact hp)
theorem nextU_end (wr : World) (k p : Nat) (l : List UInt8) (h : ItU wr k l p) (hp : ¬ p < l.length) (ty : TypeId) :
    (Instr.next (.pointer (some ⟨k, 0, none⟩)) true ty).run Tryd.prog wr = .ok (.tuple #[.bool false]) wr :=
  Lib.run_next_end_at wr k _ p ty h (by rw [sizeU]; exact hp)
theorem okU_le {r : Nat} (h : okU r) : r ≤ 1114111 := by unfold okU at h; omega

theorem smU_lt {r : Nat} (h1 : 65 ≤ r) (h2 : r ≤ 90) : smU r = r + 32 := by unfold smU; rw [if_pos ⟨h1, h2⟩]
theorem smU_lo {r : Nat} (h1 : r < 65) : smU r = r := by unfold smU; rw [if_neg (by omega)]
theorem smU_hi {r : Nat} (h1 : 90 < r) : smU r = r := by unfold smU; rw [if_neg (by omega)]

/-- so many runes are folded -/
def fdU (l : List UInt8) (k : Nat) (d : List Nat) : Prop := foldU l = d ++ (runesU (l.drop k)).map smU ∧ d.length ≤ k
theorem fdU_zero (l : List UInt8) : fdU l 0 [] := ⟨by simp [foldU], by simp⟩
theorem fdU_more {l : List UInt8} {k : Nat} {d : List Nat} (h : fdU l k d) (hk : k < l.length) : fdU l (k + (dcU (l.drop k)).2) (d ++ [smU (dcU (l.drop k)).1]) ∧ 1 ≤ (dcU (l.drop k)).2 ∧ k + (dcU (l.drop k)).2 ≤ l.length ∧ okU (dcU (l.drop k)).1 := by
  have hne : l.drop k ≠ [] := by intro e; have := congrArg List.length e; simp at this; omega
  have hw := dcU_w hne
  rw [List.length_drop] at hw
  refine ⟨⟨?_, ?_⟩, hw.1, by omega, dcU_ok _⟩
  · rw [h.1, runesU_drop hk]; simp
  · have := h.2; rw [List.length_append]; simp; omega
theorem fdU_end {l : List UInt8} {k : Nat} {d : List Nat} (h : fdU l k d) (hk : ¬ k < l.length) : d = foldU l := by rw [h.1, runesU_end hk]; simp

end Go.Proofs.YtpmipdnmhffkeaaDoor


namespace Go.Proofs.YtpmipdnmhffkeaaDoor
set_option linter.unusedVariables false
set_option linter.unusedSimpArgs false
set_option maxRecDepth 100000
open Go.RowKit

theorem ow_not_it {α : Type} {f : α → Value} {E : TypeId} {w : World} {B : Nat} {v : Value} {d : List α} (h : Ow f E w B v d) {k p : Nat} {l : List UInt8} (hi : ItU w k l p) : ¬ v.ownBlock = some k := by
  intro e
  obtain ⟨cur, hc⟩ := h.kind k e
  unfold ItU at hi
  rw [hi] at hc
  cases hc

set_option maxHeartbeats 1000000 in
theorem rgfold_any (l : List UInt8) (w : World) (hl : l.length ≤ 1000000000) : Calls Tryd.prog 50 #[.string ⟨l.toArray⟩] w fun e w' => ∃ u, e = .returned u ∧ Ow ruv 21 w' w.heap.size u (foldU l) ∧ Fr Non w w' := by
  go_enter Tryd.func50, Tryd.ntmps50
  go_wp2
  have hst := (ow_lit0 (f := ruv) (E := 21) w w.heap.size w.heap.size rfl (Nat.le_refl _))
  have hit0 := ItU.new (w.alloc (.cells #[] 21)) l
  have hf0 : Fr Non w ((w.alloc (.cells #[] 21)).iter ⟨l.toArray⟩ 0) := ((Fr.refl Non w).alloc _).alloc _
  rw [show (w.alloc (.cells #[] 21)).heap.size = w.heap.size + 1 by simp] at hit0
  go_loopw [3] (fun v wr => ∃ k d, k ≤ l.length ∧ ItU wr (w.heap.size + 1) l k ∧ Ow ruv 21 wr w.heap.size v d ∧ Fr Non w wr ∧ Hid (fdU l k d)) (fun _ wr => l.length - wr.iterPos (w.heap.size + 1))
  case atStart => exact ⟨0, [], by omega, hit0, hst.alloc _, hf0, Lib.hid (fdU_zero l)⟩
  case round =>
    clear hst hit0 hf0
    obtain ⟨k, d, hk, hit, hown, hfr, hd⟩ := hrel
    have hp0 := hit.pos
    by_cases hlt : k < l.length
    · obtain ⟨hm, hw1, hw2, hok⟩ := fdU_more hd.out hlt
      obtain ⟨W, hnx, hitW, hfW⟩ := nextU wr (w.heap.size + 1) k l hit hlt
      have hnot := ow_not_it hown hit
      have hownW := hown.fr hfW (fun q hq e => hnot (by rw [hq, show q = w.heap.size + 1 from e]))
      have hfrW := hfr.fresh hfW (fun q e => by have : q = w.heap.size + 1 := e; omega)
      have hdl := hd.out.2
      have HM := Lib.hid hm
      have hr := okU_le hok
      clear hd hit hown hfr hfW hok hm hnot
      generalize (dcU (l.drop k)).1 = r at *
      generalize hq : k + (dcU (l.drop k)).2 = q at *
      have hkq : k < q := by omega
      have hB := hitW.lt
      clear hq hw1
      by_cases h1 : 65 ≤ r
      · have hb1 : decide ((65 : Int) ≤ (r : Int)) = true := by simp; omega
        by_cases h2 : r ≤ 90
        · rw [smU_lt h1 h2] at HM
          have hb2 : decide ((r : Int) ≤ 90) = true := by simp; omega
          have hw1 : IntKind.i32.wrap ((r : Int) - 65) = (r : Int) - 65 := by simp [IntKind.wrap, IntKind.bits, IntKind.signed]; omega
          have hw2 : IntKind.i32.wrap ((r : Int) - 65 + 97) = ((r + 32 : Nat) : Int) := by simp [IntKind.wrap, IntKind.bits, IntKind.signed]; omega
          clear h1 h2
          go_wp2_with (at_builtin; refine wpList_pushG el_rune ruv_one rfl (.tmp 21) (.tmp 23) rfl w.heap.size _ d rfl hownW _ (r + 32) rfl rfl (by omega) (by omega) ?_; intro v5 w5 hown5 hf5)
          have hnotW := ow_not_it hownW hitW
          have hit5 := hitW.fr hf5 hnotW
          have hfr5 := hfrW.fresh hf5 (fun q hq => by have := (hownW.lt q hq).1; omega)
          go_roundw
          case rel => exact ⟨q, _, by omega, hit5, hown5, hfr5, HM⟩
          case measure => rw [hp0, hit5.pos]; omega
        · rw [smU_hi (by omega)] at HM
          have hb2 : decide ((r : Int) ≤ 90) = false := by simp; omega
          clear h1 h2
          go_wp2_with (at_builtin; refine wpList_pushG el_rune ruv_one rfl (.tmp 21) (.tmp 23) rfl w.heap.size _ d rfl hownW _ r rfl rfl (by omega) (by omega) ?_; intro v5 w5 hown5 hf5)
          have hnotW := ow_not_it hownW hitW
          have hit5 := hitW.fr hf5 hnotW
          have hfr5 := hfrW.fresh hf5 (fun q hq => by have := (hownW.lt q hq).1; omega)
          go_roundw
          case rel => exact ⟨q, _, by omega, hit5, hown5, hfr5, HM⟩
          case measure => rw [hp0, hit5.pos]; omega
      · rw [smU_lo (by omega)] at HM
        have hb1 : decide ((65 : Int) ≤ (r : Int)) = false := by simp; omega
        clear h1
        go_wp2_with (at_builtin; refine wpList_pushG el_rune ruv_one rfl (.tmp 21) (.tmp 23) rfl w.heap.size _ d rfl hownW _ r rfl rfl (by omega) (by omega) ?_; intro v5 w5 hown5 hf5)
        have hnotW := ow_not_it hownW hitW
        have hit5 := hitW.fr hf5 hnotW
        have hfr5 := hfrW.fresh hf5 (fun q hq => by have := (hownW.lt q hq).1; omega)
        go_roundw
        case rel => exact ⟨q, _, by omega, hit5, hown5, hfr5, HM⟩
        case measure => rw [hp0, hit5.pos]; omega
    · have hnx := fun ty => nextU_end wr (w.heap.size + 1) k l hit hlt ty
      have HE := Lib.hid (fdU_end hd.out hlt)
      clear hd
      go_wp2
      go_ret
      exact ⟨_, rfl, by rw [← HE.out]; exact hown, hfr⟩

end Go.Proofs.YtpmipdnmhffkeaaDoor


namespace Go.Proofs.YtpmipdnmhffkeaaDoor
set_option linter.unusedVariables false
set_option linter.unusedSimpArgs false
set_option maxRecDepth 100000
open Go.RowKit

/-- a round's cell: what is stored there, and the row behind it -/
theorem canK_many {q T : List Nat} {k : Nat} {b : Bool} (hk : k ≤ T.length) (hb : b = (mtG q (T.take k) || (decide (0 < k) && mtG (q ++ [37]) (T.take (k - 1))))) : (canK (q ++ [37]) T k).set k b = canK (q ++ [37]) T (k + 1) :=
  canK_set _ _ _ _ hk (by rw [mtG_snoc_many _ _ _ hk, hb])
theorem canK_one {q T : List Nat} {c k : Nat} {b : Bool} (hc : c ≠ 37) (hk : k ≤ T.length) (hb : b = (decide (0 < k) && mtG q (T.take (k - 1)) && (c == 95 || c == T.getD (k - 1) 0))) : (canK (q ++ [c]) T k).set k b = canK (q ++ [c]) T (k + 1) :=
  canK_set _ _ _ _ hk (by rw [mtG_snoc_one _ _ _ _ hc hk, hb])
theorem canK_cur (q T : List Nat) (k : Nat) (hk : k ≤ T.length) : (canK q T k)[k]? = some false := by
  unfold canK
  rw [List.getElem?_append_right (by rw [List.length_take, canG_len]; omega), List.length_take, canG_len, List.getElem?_replicate, if_pos (by omega)]
set_option maxHeartbeats 4000000 in
theorem rgmatch_any (p s : List UInt8) (w : World) (hp : p.length ≤ 1000000) (hs : s.length ≤ 1000000) :
    Calls Tryd.prog 30 #[.string ⟨p.toArray⟩, .string ⟨s.toArray⟩] w fun e w' => e = .returned (.bool (matchU p s)) ∧ Fr Non w w' := by
  have HP := Lib.hid (fun W => rgfold_any p W (by omega))
  have HS := Lib.hid (fun W => rgfold_any s W (by omega))
  have hpl := foldU_le p
  have hsl := foldU_le s
  unfold matchU
  generalize foldU p = P at *
  generalize foldU s = T at *
  have hpP : P.length ≤ 1000000 := by omega
  have hpT : T.length ≤ 1000000 := by omega
  clear hpl hsl
  go_enter Tryd.func30, Tryd.ntmps30
  go_wp2_with fail
  refine (HP.out _).mono ?_
  rintro e w1 ⟨u1, rfl, o1, f1⟩
  go_wp2_with fail
  refine (HS.out _).mono ?_
  rintro e w2 ⟨u2, rfl, o2, f2⟩
  have HV1 := Lib.hid (o1.vs.non f2)
  have HV2 := Lib.hid o2.vs
  have HF2 := Lib.hid (f1.trans f2)
  have hn1 := HV1.out
  have hn2 := HV2.out
  clear HP HS o1 o2 f1 f2
  obtain ⟨A1, c1, rfl, hc1, hnn1, hcell1⟩ := hn1
  obtain ⟨A2, c2, rfl, hc2, hnn2, hcell2⟩ := hn2
  have HC1 := Lib.hid hcell1
  have HC2 := Lib.hid hcell2
  have HN1 := Lib.hid hnn1
  have HN2 := Lib.hid hnn2
  clear hcell1 hcell2 hnn1 hnn2
  go_wp2_with (at_make; refine wpList_mkfullG el_bool (f := tv) false rfl rfl _ _ rfl _ _ _ _ (T.length + 1) rfl rfl rfl rfl (by omega) ?_; intro w3 hown3 hfr3; have hce : w3.cell? ⟨w2.heap.size, 0, none⟩ = some (.bool false) := hown3.cell (by simp) 0 false (by simp); have hfz := hown3.frozen (by simp) 0; have hst := hown3.store (by simp) 0 true; rw [← canG_nil] at hst; have HO3 := Lib.hid hst; have hF4 : Fr Non w2 (w3.setCell ⟨w2.heap.size, 0, none⟩ (tv true)) := hfr3.setCell (p := ⟨w2.heap.size, 0, none⟩) (fun h => absurd h (Nat.lt_irrefl _)) _; have HF4 := Lib.hid hF4; clear hst hfr3 hown3 hF4)
  go_loopw [7, 8] (fun vc vi wr => ∃ i : Nat, i ≤ P.length ∧ vi = .int .i64 i ∧ Ow tv 4 wr w2.heap.size vc (canG (P.take i) T) ∧ Fr Non w2 wr) (fun _ vi _ => P.length - (intOf vi).toNat)
  case atStart => exact ⟨0, by omega, rfl, HO3.out, HF4.out⟩
  case round =>
    clear HO3 HF4
    rename World => wo
    obtain ⟨i, hi, rfl, hown, hfr⟩ := hrel
    obtain ⟨g0, cap, rfl, hg0, hg0s, hcl, _⟩ := hown.row (by rw [canG_len]; omega)
    rw [canG_len] at hcl hown
    rw [canG_len]
    have HF := Lib.hid hfr
    have HC := Lib.hid hown
    clear hown hfr
    by_cases hlt : i < P.length
    · obtain ⟨q1, rfl⟩ : ∃ q, A1 = some q := by
        cases A1 with
        | none => have := HN1.out rfl; omega
        | some q => exact ⟨q, rfl⟩
      have HTk := Lib.hid (take_snocG hlt)
      obtain ⟨c, hc⟩ : ∃ c, P[i] = c := ⟨_, rfl⟩
      have hcP := HC1.out q1 rfl i hlt
      rw [hc] at hcP HTk
      have HcP := Lib.hid hcP
      clear hcP hc
      obtain ⟨Q, hQ⟩ : ∃ Q, P.take i = Q := ⟨_, rfl⟩
      rw [hQ] at HTk HC
      clear hQ
      go_wp2_with (at_make; refine wpList_mkfullG el_bool (f := tv) false rfl rfl _ _ rfl _ _ _ _ (T.length + 1) rfl rfl rfl rfl (by omega) ?_; intro w4 hown4 hfr4; have HO4 := Lib.hid hown4; have HF4 := Lib.hid hfr4; clear hown4 hfr4)
      clear hce hfz
      go_loopw [10] (fun vk wr => ∃ k : Nat, k ≤ T.length + 1 ∧ vk = .int .i64 k ∧ Ow tv 4 wr wo.heap.size (.slice (some ⟨wo.heap.size, 0, none⟩) (T.length + 1) (T.length + 1)) (canK (Q ++ [c]) T k) ∧ Fr Non wo wr) (fun vk _ => T.length + 1 - (intOf vk).toNat)
      case atStart => exact ⟨0, by omega, rfl, by rw [canK_zero]; exact HO4.out, HF4.out⟩
      case round =>
        clear HO4 HF4
        obtain ⟨k, hk, rfl, hown, hfr⟩ := hrel
        have HFx := Lib.hid hfr
        have HOx := Lib.hid hown
        clear hown hfr
        by_cases hlk : k < T.length + 1
        · have hkT : k ≤ T.length := by omega
          have hnK : wr.cell? ⟨wo.heap.size, k, none⟩ = some (.bool false) := HOx.out.cell (canK_len _ _ _ hk).symm k false (canK_cur _ _ _ hkT)
          have hzK := HOx.out.frozen (canK_len _ _ _ hk).symm k
          have HST := Lib.hid (fun b => HOx.out.store (canK_len _ _ _ hk).symm k b)
          have HFS : Hid (∀ b, Fr Non wo (wr.setCell ⟨wo.heap.size, k, none⟩ (tv b))) := Lib.hid (fun b => HFx.out.setCell (p := ⟨wo.heap.size, k, none⟩) (fun h => absurd h (Nat.lt_irrefl _)) _)
          have hcP := HF.out.trans HFx.out |>.cell (World.block_lt_of_cell? _ _ HcP.out) (fun e => e) |>.trans HcP.out
          have HCx := Lib.hid (HC.out.non HFx.out)
          unfold ruv at hcP
          unfold tv at HST HFS
          by_cases h37 : c = 37
          · subst h37
            have hcK := HCx.out.cell (canG_len _ _).symm k _ (canG_get Q T k hkT)
            unfold tv at hcK
            cases hm : mtG Q (T.take k) with
            | true =>
              have HS := Lib.hid (canK_many (q := Q) hkT (b := true) (by rw [hm]; rfl))
              rw [hm] at hcK
              clear hm
              go_wp2
              go_roundw
              case rel => exact ⟨k + 1, by omega, by go_num, by rw [← HS.out]; exact HST.out true, HFS.out true⟩
              case measure => simp [intOf]; omega
            | false =>
              rw [hm] at hcK
              cases k with
              | zero =>
                have HS := Lib.hid (canK_many (q := Q) hkT (b := false) (by rw [hm]; rfl))
                clear hm
                go_wp2
                go_roundw
                case rel => exact ⟨0 + 1, by omega, by go_num, by rw [← HS.out]; exact HST.out false, HFS.out false⟩
                case measure => simp [intOf]
              | succ m =>
                have hcM : wr.cell? ⟨wo.heap.size, m, none⟩ = some (.bool (mtG (Q ++ [37]) (T.take m))) := HOx.out.cell (canK_len _ _ _ hk).symm m _ (canK_at _ _ _ _ (by omega) (by omega))
                have HS := Lib.hid (canK_many (q := Q) hkT (b := mtG (Q ++ [37]) (T.take m)) (by rw [hm]; simp))
                clear hm
                generalize mtG (Q ++ [37]) (T.take m) = b at *
                go_wp2
                go_roundw
                case rel => exact ⟨m + 1 + 1, by omega, by go_num, by rw [← HS.out]; exact HST.out b, HFS.out b⟩
                case measure => simp [intOf]; omega
          · have hb : ((c : Int) == 37) = false := by rw [beq_eq_false_iff_ne]; omega
            cases k with
            | zero =>
              have HS := Lib.hid (canK_one (q := Q) h37 hkT (b := false) rfl)
              clear h37
              go_wp2
              go_region
              go_wp2
              go_roundw
              case rel => exact ⟨0 + 1, by omega, by go_num, by rw [← HS.out]; exact (HST.out false).drew, (HFS.out false).drew⟩
              case measure => simp [intOf]
            | succ m =>
              have hcM := HCx.out.cell (canG_len _ _).symm m _ (canG_get Q T m (by omega))
              unfold tv at hcM
              have hmT : m < T.length := by omega
              obtain ⟨q2, rfl⟩ : ∃ q, A2 = some q := by
                cases A2 with
                | none => have := HN2.out rfl; omega
                | some q => exact ⟨q, rfl⟩
              have hc2x := HC2.out q2 rfl m hmT
              have hcT := HF.out.trans HFx.out |>.cell (World.block_lt_of_cell? _ _ hc2x) (fun e => e) |>.trans hc2x
              unfold ruv at hcT
              clear hc2x
              have hgd : T.getD m 0 = T[m] := by simp [List.getD_eq_getElem?_getD, hmT]
              cases hm : mtG Q (T.take m) with
              | false =>
                have HS := Lib.hid (canK_one (q := Q) (T := T) (k := m + 1) h37 hkT (b := false) (by rw [Nat.add_sub_cancel, hm]; simp))
                rw [hm] at hcM
                clear hm h37 hgd
                generalize T[m] = x at *
                go_wp2
                go_region
                go_wp2
                go_roundw
                case rel => exact ⟨m + 1 + 1, by omega, by go_num, by rw [← HS.out]; exact (HST.out false).drew, (HFS.out false).drew⟩
                case measure => simp [intOf]; omega
              | true =>
                rw [hm] at hcM
                by_cases h95 : c = 95
                · have HS := Lib.hid (canK_one (q := Q) (T := T) (k := m + 1) h37 hkT (b := true) (by rw [Nat.add_sub_cancel, hm, h95]; simp))
                  have hb2 : ((c : Int) == 95) = true := by rw [beq_iff_eq]; omega
                  clear hm h37 hgd h95
                  generalize T[m] = x at *
                  go_wp2
                  go_region
                  go_wp2
                  go_roundw
                  case rel => exact ⟨m + 1 + 1, by omega, by go_num, by rw [← HS.out]; exact (HST.out true).drew, (HFS.out true).drew⟩
                  case measure => simp [intOf]; omega
                · have hb2 : ((c : Int) == 95) = false := by rw [beq_eq_false_iff_ne]; omega
                  have HS := Lib.hid (canK_one (q := Q) (T := T) (k := m + 1) h37 hkT (b := c == T[m]) (by rw [Nat.add_sub_cancel, hm, hgd, beq_eq_false_iff_ne.2 h95]; simp))
                  by_cases hx : c = T[m]
                  · rw [beq_iff_eq.2 hx] at HS
                    rw [← hx] at hcT
                    clear hm h37 hgd h95 hx
                    go_wp2
                    go_region
                    go_wp2
                    go_roundw
                    case rel => exact ⟨m + 1 + 1, by omega, by go_num, by rw [← HS.out]; exact (HST.out true).drew, (HFS.out true).drew⟩
                    case measure => simp [intOf]; omega
                  · rw [beq_eq_false_iff_ne.2 hx] at HS
                    have hb3 : ((c : Int) == ((T[m] : Nat) : Int)) = false := by rw [beq_eq_false_iff_ne]; omega
                    clear hm h37 hgd h95 hx
                    generalize T[m] = x at *
                    go_wp2
                    go_region
                    go_wp2
                    go_roundw
                    case rel => exact ⟨m + 1 + 1, by omega, by go_num, by rw [← HS.out]; exact (HST.out false).drew, (HFS.out false).drew⟩
                    case measure => simp [intOf]; omega
        · obtain rfl : k = T.length + 1 := by omega
          have HN := Lib.hid HOx.out
          rw [canK_all, ← HTk.out] at HN
          go_wp2
          go_roundw
          case rel => exact ⟨i + 1, by omega, by go_num, HN.out.mono (HF.out.size), HF.out.trans HFx.out⟩
          case measure => simp [intOf]; omega
    · obtain rfl : i = P.length := by omega
      rw [List.take_length] at HC
      have hcK := HC.out.cell (canG_len _ _).symm T.length _ (canG_last P T)
      unfold tv at hcK
      have HE := Lib.hid ((HF2.out.trans HF.out))
      clear hce hfz
      go_wp2
      go_ret
      exact ⟨rfl, HE.out⟩

end Go.Proofs.YtpmipdnmhffkeaaDoor


namespace Go.Proofs.YtpmipdnmhffkeaaDoor
set_option linter.unusedVariables false
set_option linter.unusedSimpArgs false
set_option maxRecDepth 100000
open Go.RowKit

theorem ryes_any (b : Bool) (w : World) : Calls Tryd.prog 28 #[.bool b] w fun e w' => e = .returned (.int .i64 (yesI b)) ∧ w = w' := by
  cases b
  all_goals
    go_enter Tryd.func28, Tryd.ntmps28
    go_wp2
    go_ret
    exact ⟨rfl, rfl⟩
theorem agr_6 {op : Int} (n : Int) (h1 : op ≠ 1) (h2 : op ≠ 2) (h3 : op ≠ 3) (h4 : op ≠ 4) (h5 : op ≠ 5) : agrI op n = decide (0 ≤ n) := by unfold agrI; rw [if_neg h1, if_neg h2, if_neg h3, if_neg h4, if_neg h5]
end Go.Proofs.YtpmipdnmhffkeaaDoor


namespace Go.Proofs.YtpmipdnmhffkeaaDoor
set_option linter.unusedVariables false
set_option linter.unusedSimpArgs false
set_option maxRecDepth 100000
open Go.RowKit

/-- a column in a block, a cell at an address -/
structure RowAt (w : World) (g : Nat) (a : Addr) (x : Co) (y : Cl) : Prop where
  col : CoB w g x
  row : At3 w a y
theorem RowAt.non {w w' : World} {g : Nat} {a : Addr} {x : Co} {y : Cl} (h : RowAt w g a x y) (hf : Fr Non w w') : RowAt w' g a x y := ⟨h.col.fr hf (fun e => e), hf.at3 h.row⟩

set_option maxHeartbeats 4000000 in
theorem rrow_any (v1 v2 : Value) (l : List Co) (row : List Cl) (w : World) (h1 : Ks w v1 l) (h2 : Cs w v2 row) (hl : l.length ≤ 1000000000) :
    Calls Tryd.prog 49 #[v1, v2] w fun e w' => e = .returned (.bool (rowB l row)) ∧ Fr Non w w' := by
  obtain ⟨A1, c1, rfl, hc1, hn1, hcell1⟩ := h1
  obtain ⟨A2, c2, rfl, hc2, hn2, hcell2⟩ := h2
  have HN1 := Lib.hid hn1
  have HN2 := Lib.hid hn2
  have HC1 := Lib.hid hcell1
  have HC2 := Lib.hid hcell2
  clear hn1 hn2 hcell1 hcell2
  by_cases hlen : l.length = row.length
  · have HL := Lib.hid hlen
    have hb : ((l.length : Int) != row.length) = false := by rw [hlen]; simp
    have hle : l.length ≤ row.length := by omega
    have hge : row.length ≤ l.length := by omega
    clear hlen
    go_enter Tryd.func49, Tryd.ntmps49
    go_wp2
    go_loopw [5] (fun i wr => ∃ k : Nat, k ≤ l.length ∧ i = .int .i64 k ∧ Hid (∀ j (h : j < l.length) (h2 : j < row.length), j < k → mayC l[j].ty l[j].nl row[j] = true) ∧ Fr Non w wr) (fun i _ => l.length - (intOf i).toNat)
    case atStart => exact ⟨0, Nat.zero_le _, rfl, Lib.hid (fun _ _ _ h => by omega), Fr.refl _ _⟩
    case round =>
      obtain ⟨k, hk, rfl, HT, hfr⟩ := hrel
      by_cases hlt : k < l.length
      · cases A1 with
        | none => have := HN1.out rfl; omega
        | some a1 =>
          cases A2 with
          | none => have := HN2.out rfl; omega
          | some a2 =>
            have hlt2 : k < row.length := by omega
            obtain ⟨g0, g1, g2⟩ := co_lit ((HC1.out a1 rfl k hlt).non hfr)
            have hr := hfr.at3 (HC2.out a2 rfl k hlt2)
            have HY := Lib.hid (fun h => row_more hlt hlt2 HT.out h)
            have HX := Lib.hid (fun h => row_bad hlt hlt2 h)
            clear HT
            generalize l[k] = x at *
            generalize row[k] = y at *
            obtain ⟨xn, xt, xb⟩ := x
            obtain ⟨yn, yt, yb⟩ := y
            dsimp only at g0 g1 g2 HY HX
            have FD := Lib.hid hfr.drew
            have M := fun W => rmay_any xt xb ⟨yn, yt, yb⟩ W
            unfold clV clC at M
            dsimp only at M
            replace M := Lib.hid M
            obtain ⟨t3, t4, t5⟩ := (hr.keep (w' := wr.drew) rfl).lit
            replace g1 : wr.drew.cell? _ = _ := g1
            replace g2 : wr.drew.cell? _ = _ := g2
            clear g0 hr hfr
            dsimp only at t3 t4 t5
            go_wp2
            go_region_held3 (fun W => W.cell? { block := (a1.add (k * 3)).block, off := (a1.add (k * 3)).off + 1 } = some (.int .i64 xt) ∧ W.cell? { block := (a1.add (k * 3)).block, off := (a1.add (k * 3)).off + 2 } = some (.bool xb) ∧ W.cell? (a2.add (k * 3)) = some (.bool yn) ∧ W.cell? { block := (a2.add (k * 3)).block, off := (a2.add (k * 3)).off + 1 } = some (.int .i64 yt) ∧ W.cell? { block := (a2.add (k * 3)).block, off := (a2.add (k * 3)).off + 2 } = some (.string ⟨yb.toArray⟩)) (first | exact ⟨g1, g2, t3, t4, t5⟩ | exact ⟨u1, u2, u3, u4, u5⟩ | fail) (first | (go_at_call 47; refine (M.out _).mono ?_; rintro e w4 ⟨rfl, f4⟩; have F4 := Lib.hid (FD.out.trans f4); have u1 := (f4.cell (World.block_lt_of_cell? _ _ g1) (fun e => e)).trans g1; have u2 := (f4.cell (World.block_lt_of_cell? _ _ g2) (fun e => e)).trans g2; have u3 := (f4.cell (World.block_lt_of_cell? _ _ t3) (fun e => e)).trans t3; have u4 := (f4.cell (World.block_lt_of_cell? _ _ t4) (fun e => e)).trans t4; have u5 := (f4.cell (World.block_lt_of_cell? _ _ t5) (fun e => e)).trans t5))
            clear u1 u2 u3 u4 u5 f4 g1 g2 t3 t4 t5 FD M
            cases hM : mayC xt xb ⟨yn, yt, yb⟩
            · have HE := Lib.hid (HX.out hM)
              clear HX HY hM
              go_wp2
              go_ret
              exact ⟨ret_boolE HE.out.symm, F4.out⟩
            · have HE := Lib.hid (HY.out hM)
              clear HX HY hM
              go_wp2
              go_roundw
              case rel => exact ⟨k + 1, by omega, by go_num, HE, F4.out⟩
              case measure => simp [intOf]; omega
      · have HE := Lib.hid (row_yes HL.out (fun j h h2 => HT.out j h h2 (by omega)))
        clear HT
        go_wp2
        go_ret
        exact ⟨ret_boolE HE.out.symm, hfr⟩
  · have hb : ((l.length : Int) != row.length) = true := by rw [bne_iff_ne]; omega
    have HE := Lib.hid (row_len hlen)
    clear hlen
    go_enter Tryd.func49, Tryd.ntmps49
    go_wp2
    go_ret
    exact ⟨ret_boolE HE.out.symm, Fr.refl _ _⟩
end Go.Proofs.YtpmipdnmhffkeaaDoor


namespace Go.Proofs.YtpmipdnmhffkeaaDoor
set_option linter.unusedVariables false
set_option linter.unusedSimpArgs false
set_option maxRecDepth 100000
open Go.RowKit

/-! ### A row's value -/
/-! ### The document's comparison -/
theorem rcmp_any (a b : Cl) (op : Int) (w : World) : Calls Tryd.prog 29 #[clV a, .int .i64 op, clV b] w fun e w' => e = .returned (.bool (agrI op (ordC a b))) ∧ Fr Non w w' := by
  have HO := Lib.hid (fun W => rorder_any a b W)
  have F0 : Fr Non w ((w.alloc (.cells (clC a) 24)).alloc (.cells (clC b) 24)) := ((Fr.refl _ _).alloc _).alloc _
  replace F0 := Lib.hid F0
  generalize ordC a b = n at *
  obtain ⟨an, ai, at_⟩ := a
  obtain ⟨bn, bi, bt⟩ := b
  unfold clV clC at *
  dsimp only at *
  by_cases h1 : op = 1
  · subst h1
    go_enter Tryd.func29, Tryd.ntmps29
    go_wp2_with fail
    refine (HO.out _).mono ?_
    rintro e w1 ⟨rfl, f1⟩
    have F1 := Lib.hid (F0.out.trans f1)
    clear f1
    go_wp2
    go_ret
    exact ⟨rfl, F1.out⟩
  by_cases h2 : op = 2
  · subst h2
    go_enter Tryd.func29, Tryd.ntmps29
    go_wp2_with fail
    refine (HO.out _).mono ?_
    rintro e w1 ⟨rfl, f1⟩
    have F1 := Lib.hid (F0.out.trans f1)
    clear f1
    go_wp2
    go_ret
    exact ⟨rfl, F1.out⟩
  by_cases h3 : op = 3
  · subst h3
    go_enter Tryd.func29, Tryd.ntmps29
    go_wp2_with fail
    refine (HO.out _).mono ?_
    rintro e w1 ⟨rfl, f1⟩
    have F1 := Lib.hid (F0.out.trans f1)
    clear f1
    go_wp2
    go_ret
    exact ⟨rfl, F1.out⟩
  by_cases h4 : op = 4
  · subst h4
    go_enter Tryd.func29, Tryd.ntmps29
    go_wp2_with fail
    refine (HO.out _).mono ?_
    rintro e w1 ⟨rfl, f1⟩
    have F1 := Lib.hid (F0.out.trans f1)
    clear f1
    go_wp2
    go_ret
    exact ⟨rfl, F1.out⟩
  by_cases h5 : op = 5
  · subst h5
    go_enter Tryd.func29, Tryd.ntmps29
    go_wp2_with fail
    refine (HO.out _).mono ?_
    rintro e w1 ⟨rfl, f1⟩
    have F1 := Lib.hid (F0.out.trans f1)
    clear f1
    go_wp2
    go_ret
    exact ⟨rfl, F1.out⟩
  have HE := Lib.hid (agr_6 n h1 h2 h3 h4 h5)
  have b1 : (op == 1) = false := by rw [beq_eq_false_iff_ne]; exact h1
  have b2 : (op == 2) = false := by rw [beq_eq_false_iff_ne]; exact h2
  have b3 : (op == 3) = false := by rw [beq_eq_false_iff_ne]; exact h3
  have b4 : (op == 4) = false := by rw [beq_eq_false_iff_ne]; exact h4
  have b5 : (op == 5) = false := by rw [beq_eq_false_iff_ne]; exact h5
  clear h1 h2 h3 h4 h5
  go_enter Tryd.func29, Tryd.ntmps29
  go_wp2_with fail
  refine (HO.out _).mono ?_
  rintro e w1 ⟨rfl, f1⟩
  have F1 := Lib.hid (F0.out.trans f1)
  clear f1
  go_wp2
  go_ret
  exact ⟨ret_boolE HE.out.symm, F1.out⟩
end Go.Proofs.YtpmipdnmhffkeaaDoor


namespace Go.Proofs.YtpmipdnmhffkeaaDoor
set_option linter.unusedVariables false
set_option linter.unusedSimpArgs false
set_option maxRecDepth 100000
open Go.RowKit

theorem truH_1 {cols : List Co} {row : List Cl} {h : Ph} {ts : List Int} (e : h.op = 1) : truH cols row h ts = 1 := by unfold truH; rw [e]; rfl
theorem truH_2 {cols : List Co} {row : List Cl} {h : Ph} {ts : List Int} (e : h.op = 2) : truH cols row h ts = cmpR h.cmp (cellN cols row h.col) h.val := by unfold truH; rw [if_pos e]
theorem truH_3 {cols : List Co} {row : List Cl} {h : Ph} {ts : List Int} (e : h.op = 3) : truH cols row h ts = yesI (cellN cols row h.col).null := by unfold truH; rw [if_neg (by omega), if_pos e]
theorem truH_4 {cols : List Co} {row : List Cl} {h : Ph} {ts : List Int} (e : h.op = 4) : truH cols row h ts = likR (cellN cols row h.col) h.pat := by unfold truH; rw [if_neg (by omega), if_neg (by omega), if_pos e]
theorem truH_5 {cols : List Co} {row : List Cl} {h : Ph} {ts : List Int} (e : h.op = 5) : truH cols row h ts = notI (ts.headD 0) := by unfold truH; rw [if_neg (by omega), if_neg (by omega), if_neg (by omega), if_pos e]
theorem truH_6 {cols : List Co} {row : List Cl} {h : Ph} {ts : List Int} (e : h.op = 6) : truH cols row h ts = chnI 0 1 ts := by unfold truH; rw [if_neg (by omega), if_neg (by omega), if_neg (by omega), if_neg (by omega), if_pos e]
theorem truH_7 {cols : List Co} {row : List Cl} {h : Ph} {ts : List Int} (e : h.op = 7) : truH cols row h ts = chnI 1 0 ts := by unfold truH; rw [if_neg (by omega), if_neg (by omega), if_neg (by omega), if_neg (by omega), if_neg (by omega), if_pos e]

end Go.Proofs.YtpmipdnmhffkeaaDoor


namespace Go.Proofs.YtpmipdnmhffkeaaDoor
set_option linter.unusedVariables false
set_option linter.unusedSimpArgs false
set_option maxRecDepth 100000
open Go.RowKit

/-- two numbers handed back -/
def twoV (r : Int × Int) : Value := .tuple #[.int .i64 r.1, .int .i64 r.2]
theorem ret_twoV {r : Int × Int} {a b : Int} (h : r = (a, b)) : Ending.returned (.tuple #[.int .i64 a, .int .i64 b]) = Ending.returned (twoV r) := by rw [h]; rfl
/-- places and an error handed back -/
def PlcR (w : World) (r : List Int × Int) (e : Ending) : Prop := ∃ u, e = .returned (.tuple #[u, .int .i64 r.2]) ∧ Vs iv w u r.1
theorem plcR_no {w : World} {r : List Int × Int} {z : Int} (h : r = ([], z)) : PlcR w r (.returned (.tuple #[.slice none 0 0, .int .i64 z])) := ⟨_, by rw [h], by rw [h]; exact Vs.nil_ w⟩
theorem plcR_yes {w : World} {r : List Int × Int} {l : List Int} {u : Value} (h : r = (l, 0)) (hu : Vs iv w u l) : PlcR w r (.returned (.tuple #[u, .int .i64 0])) := ⟨u, by rw [h], by rw [h]; exact hu⟩

end Go.Proofs.YtpmipdnmhffkeaaDoor
