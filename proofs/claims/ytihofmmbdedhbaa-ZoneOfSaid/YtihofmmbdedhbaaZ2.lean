/-
  Joined: Layer 11: two zones joined. · Layer 11: the zone of a list's cells, the document's. · Layer 11: the walk of the law on zones of cells. · The frame of a law's proof, for any parameters: where the call returned true and turned nothing that was there, the row's words hold. · Arguments opened: a slice of one-celled elements of any type; of truths; of whole numbers. · Arguments opened: a cell by value; a value of each type. · Arguments opened: a zone by value; a slice of cells.
-/
import Derived.Lib.Zigzag
import Derived.Test.YtihofmmbdedhbaaZ1
import Derived.Deep.RegionHeld3
import Derived.Test.YtihofmmbdedhbaaRows
import Derived.ProofKit
import Derived.OpenShut
import Derived.ShutString
import Derived.ChangeOld
import Derived.Below
import Derived.Deep.Slices
import Derived.Lib.SmallJoins

namespace Go.Proofs.Ytihofmmbdedhbaa
set_option linter.unusedVariables false
set_option linter.unusedSimpArgs false
set_option maxRecDepth 100000
open Go.RowKit

/-- two zones in a row -/
def twoZ (a b : Zn) : Array Value := #[.int .i64 a.rows, .int .i64 a.nulls, .bool a.low.null, .int .i64 a.low.num, .string ⟨a.low.txt.toArray⟩, .bool a.high.null, .int .i64 a.high.num, .string ⟨a.high.txt.toArray⟩, .int .i64 b.rows, .int .i64 b.nulls, .bool b.low.null, .int .i64 b.low.num, .string ⟨b.low.txt.toArray⟩, .bool b.high.null, .int .i64 b.high.num, .string ⟨b.high.txt.toArray⟩]
/-- what is noted when k of the two are done -/
def doneZ (a b : Zn) (k : Nat) : List Cl := if k = 0 then [] else if k = 1 then endsZ a else endsZ a ++ endsZ b
theorem endsZ_no {z : Zn} (h : bndZ z = false) : endsZ z = [] := by unfold endsZ; rw [h]; rfl
theorem endsZ_yes {z : Zn} (h : bndZ z = true) : endsZ z = [z.low, z.high] := by unfold endsZ; rw [h]; rfl
theorem jinv_two {r n : Int} {l : List Cl} {z : Zn} {first : Bool} (h : JInv r n l z first) (y : Zn) (hb : bndZ y = true) : JInv r n (l ++ endsZ y) (noteZ false (noteZ first z y.low) y.high) false := by
  rw [endsZ_yes hb, show l ++ [y.low, y.high] = (l ++ [y.low]) ++ [y.high] by simp]
  exact jinv_note (jinv_note h _) _
theorem jinv_none {r n : Int} {l : List Cl} {z : Zn} {first : Bool} (h : JInv r n l z first) (y : Zn) (hb : bndZ y = false) : JInv r n (l ++ endsZ y) z first := by
  rw [endsZ_no hb, List.append_nil]; exact h

set_option maxHeartbeats 4000000 in
theorem joinZ_any (a b : Zn) (w : World) (h1 : 0 ≤ a.rows ∧ a.rows ≤ 1000000000) (h2 : 0 ≤ b.rows ∧ b.rows ≤ 1000000000) (h3 : 0 ≤ a.nulls ∧ a.nulls ≤ 1000000000) (h4 : 0 ≤ b.nulls ∧ b.nulls ≤ 1000000000) :
    Calls Try.prog 13 #[znV a, znV b] w fun e w' => ∃ z first, e = .returned (znV z) ∧ JInv (a.rows + b.rows) (a.nulls + b.nulls) (endsZ a ++ endsZ b) z first ∧ Fr Non w w' := by
  obtain ⟨h1a, h1b⟩ := h1
  obtain ⟨h2a, h2b⟩ := h2
  obtain ⟨h3a, h3b⟩ := h3
  obtain ⟨h4a, h4b⟩ := h4
  have hw0 : ∃ W, W = ((w.alloc (.cells (znC a) 28)).alloc (.cells (znC b) 28)) := ⟨_, rfl⟩
  obtain ⟨W, hW⟩ := hw0
  have f0 : Fr Non w W := by rw [hW]; exact ((Fr.refl Non w).alloc _).alloc _
  have hs0 : W.heap.size = w.heap.size + 1 + 1 := by rw [hW]; simp
  have f1 : Fr Non W _ := ((Fr.refl Non W).alloc (.cells (znC noZn) 28)).alloc (.cells (znC ⟨a.rows + b.rows, a.nulls + b.nulls, noCl, noCl⟩) 28)
  have hA : ZnB (W.alloc (.cells (znC noZn) 28)) W.heap.size noZn := Blk.new _ _ _
  have hB : ZnB ((W.alloc (.cells (znC noZn) 28)).alloc (.cells (znC ⟨a.rows + b.rows, a.nulls + b.nulls, noCl, noCl⟩) 28)) (W.alloc (.cells (znC noZn) 28)).heap.size ⟨a.rows + b.rows, a.nulls + b.nulls, noCl, noCl⟩ := Blk.new _ _ _
  have hsz : (W.alloc (.cells (znC noZn) 28)).heap.size = W.heap.size + 1 := by simp
  rw [hsz, hs0] at hB
  rw [hs0] at hA
  have hA2 : ZnB ((W.alloc (.cells (znC noZn) 28)).alloc (.cells (znC ⟨a.rows + b.rows, a.nulls + b.nulls, noCl, noCl⟩) 28)) (w.heap.size + 1 + 1) noZn := hA.fr ((Fr.refl Non _).alloc _) (fun e => e)
  have hs2 : ((W.alloc (.cells (znC noZn) 28)).alloc (.cells (znC ⟨a.rows + b.rows, a.nulls + b.nulls, noCl, noCl⟩) 28)).heap.size = w.heap.size + 1 + 1 + 1 + 1 := by simp [hs0]
  have F := f0.trans f1
  have pa : ZnB ((W.alloc (.cells (znC noZn) 28)).alloc (.cells (znC ⟨a.rows + b.rows, a.nulls + b.nulls, noCl, noCl⟩) 28)) w.heap.size a := by
    have h : ZnB (w.alloc (.cells (znC a) 28)) w.heap.size a := Blk.new _ _ _
    have h' : ZnB W w.heap.size a := by rw [hW]; exact h.fr ((Fr.refl Non _).alloc _) (fun e => e)
    exact h'.fr f1 (fun e => e)
  have pb : ZnB ((W.alloc (.cells (znC noZn) 28)).alloc (.cells (znC ⟨a.rows + b.rows, a.nulls + b.nulls, noCl, noCl⟩) 28)) (w.heap.size + 1) b := by
    have h : ZnB ((w.alloc (.cells (znC a) 28)).alloc (.cells (znC b) 28)) (w.alloc (.cells (znC a) 28)).heap.size b := Blk.new _ _ _
    rw [show (w.alloc (.cells (znC a) 28)).heap.size = w.heap.size + 1 by simp, ← hW] at h
    exact h.fr f1 (fun e => e)
  clear hA hsz f0 f1 hs0
  subst hW
  have B1 := fun W => bnd_any a W
  have B2 := fun W => bnd_any b W
  unfold znV at B1 B2 ⊢
  unfold znC noZn noCl at *
  dsimp only at *
  replace F := Lib.hid F
  replace hB := Lib.hid hB
  replace hA2 := Lib.hid hA2
  replace B1 := Lib.hid B1
  replace pa := Lib.hid pa
  replace pb := Lib.hid pb
  replace B2 := Lib.hid B2
  go_enter Try.func13, Try.ntmps13
  go_wp2_with fail
  refine (noteIn_any (w.heap.size + 1 + 1 + 1) _).mono ?_
  rintro e w1 ⟨rfl, n1, n2, f2⟩
  rw [hs2] at n1 n2
  have hA3 := hA2.out.fr f2 (fun e => e)
  have hN3 : NoteAt w1 (w.heap.size + 1 + 1 + 1 + 1 + 1) (w.heap.size + 1 + 1 + 1 + 1) (w.heap.size + 1 + 1 + 1) true ⟨a.rows + b.rows, a.nulls + b.nulls, noCl, noCl⟩ := ⟨n1, n2, hB.out.fr f2 (fun e => e)⟩
  have hF3 := F.out.trans f2
  have pa3 := pa.out.fr f2 (fun e => e)
  have pb3 := pb.out.fr f2 (fun e => e)
  have J0 := Lib.hid (jinv_start (a.rows + b.rows) (a.nulls + b.nulls))
  rw [hs2]
  clear hs2 hB hA2 pa pb F f2 n1 n2
  generalize hw : w.heap.size = R at *
  have HW := Lib.hid (Nat.le_of_eq hw)
  clear hw
  have g1 : Blk (w1.alloc (.cells (twoZ a b) 28)) w1.heap.size 28 (twoZ a b) := Blk.new _ _ _
  have fg : Fr Non w1 (w1.alloc (.cells (twoZ a b) 28)) := (Fr.refl _ _).alloc _
  have hG0 : R + 1 + 1 + 1 + 1 + 1 < w1.heap.size := hN3.fb.lt
  have hN4 := hN3.non fg
  have hA4 : ZnB _ _ _ := hA3.fr fg (fun e => e)
  have hF4 := hF3.trans fg
  obtain ⟨p0, p1, p2, p3, p4, p5, p6, p7⟩ := znB_cells pa3
  obtain ⟨q0, q1, q2, q3, q4, q5, q6, q7⟩ := znB_cells pb3
  clear hN3 hA3 hF3 fg pa3 pb3
  unfold twoZ at g1 hN4 hA4 hF4
  replace g1 := Lib.hid g1
  replace hN4 := Lib.hid hN4
  replace hA4 := Lib.hid hA4
  replace hF4 := Lib.hid hF4
  go_wp2
  clear p0 p1 p2 p3 p4 p5 p6 p7 q0 q1 q2 q3 q4 q5 q6 q7
  generalize hG : w1.heap.size = G at *
  clear hG
  go_loopw [25] (fun i wr => ∃ (k : Nat) (z : Zn) (first : Bool), (k = 0 ∧ i = .int .i64 0 ∨ k = 1 ∧ i = .int .i64 1 ∨ k = 2 ∧ i = .int .i64 2) ∧ JInv (a.rows + b.rows) (a.nulls + b.nulls) (doneZ a b k) z first ∧ NoteAt wr (R + 1 + 1 + 1 + 1 + 1) (R + 1 + 1 + 1 + 1) (R + 1 + 1 + 1) first z ∧ ZnB wr (R + 1 + 1) noZn ∧ Blk wr G 28 (twoZ a b) ∧ Fr Non w wr) (fun i _ => 2 - (intOf i).toNat)
  case atStart => exact ⟨0, _, true, .inl ⟨rfl, rfl⟩, J0.out, hN4.out, hA4.out, g1.out, hF4.out⟩
  case round =>
    clear g1 hN4 hA4 hF4 J0
    obtain ⟨k, z, first, (⟨rfl, rfl⟩ | ⟨rfl, rfl⟩ | ⟨rfl, rfl⟩), hJ, hN, hA, hT, hF⟩ := hrel
    · have hGr : G < wr.heap.size := hT.lt
      have t0 : wr.cell? ⟨G, 0, none⟩ = some (.int .i64 a.rows) := hT.cell 0
      have t1 : wr.cell? ⟨G, 1, none⟩ = some (.int .i64 a.nulls) := hT.cell 1
      have t2 : wr.cell? ⟨G, 2, none⟩ = some (.bool a.low.null) := hT.cell 2
      have t3 : wr.cell? ⟨G, 3, none⟩ = some (.int .i64 a.low.num) := hT.cell 3
      have t4 : wr.cell? ⟨G, 4, none⟩ = some (.string ⟨a.low.txt.toArray⟩) := hT.cell 4
      have t5 : wr.cell? ⟨G, 5, none⟩ = some (.bool a.high.null) := hT.cell 5
      have t6 : wr.cell? ⟨G, 6, none⟩ = some (.int .i64 a.high.num) := hT.cell 6
      have t7 : wr.cell? ⟨G, 7, none⟩ = some (.string ⟨a.high.txt.toArray⟩) := hT.cell 7
      have f1 := (Fr.refl Non wr).alloc (.cells (znC a) 28)
      have hP : ZnB (wr.alloc (.cells (znC a) 28)) wr.heap.size a := Blk.new _ _ _
      have hN1 := hN.non f1
      have hA1 : ZnB _ _ _ := hA.fr f1 (fun e => e)
      have hT1 := hT.fr f1 (fun e => e)
      have hF1 := hF.trans f1
      have HJ0 : Hid (bndZ a = false → JInv (a.rows + b.rows) (a.nulls + b.nulls) (doneZ a b 1) z first) := Lib.hid (fun hb => by have := jinv_none hJ a hb; simpa [doneZ] using this)
      have HJ1 : Hid (bndZ a = true → JInv (a.rows + b.rows) (a.nulls + b.nulls) (doneZ a b 1) (noteZ false (noteZ first z a.low) a.high) false) := Lib.hid (fun hb => by have := jinv_two hJ a hb; simpa [doneZ] using this)
      clear f1 hN hA hT hF hJ
      unfold znC at hP hN1 hA1 hT1 hF1
      replace hP : Hid (ZnB _ wr.heap.size a) := Lib.hid hP
      replace hN1 := Lib.hid hN1
      replace hA1 := Lib.hid hA1
      replace hT1 := Lib.hid hT1
      replace hF1 := Lib.hid hF1
      go_wp2_with fail
      refine (B1.out _).mono ?_
      rintro e w4 ⟨rfl, f4⟩
      have hP4 : ZnB _ _ _ := hP.out.fr f4 (fun e => e)
      have hN4 := hN1.out.non f4
      have hA4 : ZnB _ _ _ := hA1.out.fr f4 (fun e => e)
      have hT4 := hT1.out.fr f4 (fun e => e)
      have hF4 := hF1.out.trans f4
      clear hP hN1 hA1 hT1 hF1 f4 t0 t1 t2 t3 t4 t5 t6 t7
      generalize hPr : wr.heap.size = P at *
      clear hPr
      cases hb : bndZ a
      · replace HJ0 := Lib.hid (HJ0.out hb)
        clear HJ1 hP4
        replace hN4 := Lib.hid hN4
        replace hA4 := Lib.hid hA4
        replace hT4 := Lib.hid hT4
        replace hF4 := Lib.hid hF4
        go_wp2
        go_roundw
        case rel => exact ⟨1, _, first, .inr (.inl ⟨rfl, rfl⟩), HJ0.out, hN4.out, hA4.out, hT4.out, hF4.out⟩
        case measure => simp [intOf]
      · replace HJ1 := Lib.hid (HJ1.out hb)
        obtain ⟨m0, m1, m2, m3, m4, m5, m6, m7⟩ := znB_cells hP4
        have HNt := Lib.hid (note_any (R + 1 + 1 + 1 + 1 + 1) (R + 1 + 1 + 1 + 1) (R + 1 + 1 + 1) first z a.low _ hN4 (by omega) (by omega) (by omega))
        clear HJ0 hN4
        replace hP4 : Hid (ZnB _ _ _) := Lib.hid hP4
        replace hA4 : Hid (ZnB _ _ _) := Lib.hid hA4
        replace hT4 := Lib.hid hT4
        replace hF4 := Lib.hid hF4
        go_wp2_with fail
        refine HNt.out.mono ?_
        rintro e w5 ⟨rfl, hN5, f5⟩
        have hP5 : ZnB _ _ _ := hP4.out.fr f5 (fun e => by rcases e with e | e <;> omega)
        have hA5 : ZnB _ _ _ := hA4.out.fr f5 (fun e => by rcases e with e | e <;> omega)
        have hT5 := hT4.out.fr f5 (fun e => by rcases e with e | e <;> omega)
        have hF5 := hF4.out.fresh f5 (fun q e => by have := HW.out; rcases e with e | e <;> omega)
        clear HNt hP4 hA4 hT4 hF4 f5 m0 m1 m2 m3 m4 m5 m6 m7
        obtain ⟨m0, m1, m2, m3, m4, m5, m6, m7⟩ := znB_cells hP5
        have HNt := Lib.hid (note_any (R + 1 + 1 + 1 + 1 + 1) (R + 1 + 1 + 1 + 1) (R + 1 + 1 + 1) false _ a.high _ hN5 (by omega) (by omega) (by omega))
        clear hN5 hP5
        replace hA5 : Hid (ZnB _ _ _) := Lib.hid hA5
        replace hT5 := Lib.hid hT5
        replace hF5 := Lib.hid hF5
        go_wp2_with fail
        refine HNt.out.mono ?_
        rintro e w6 ⟨rfl, hN6, f6⟩
        have hA6 := hA5.out.fr f6 (fun e => by rcases e with e | e <;> omega)
        have hT6 := hT5.out.fr f6 (fun e => by rcases e with e | e <;> omega)
        have hF6 := hF5.out.fresh f6 (fun q e => by have := HW.out; rcases e with e | e <;> omega)
        clear HNt hA5 hT5 hF5 f6 m0 m1 m2 m3 m4 m5 m6 m7
        replace hN6 := Lib.hid hN6
        replace hA6 := Lib.hid hA6
        replace hT6 := Lib.hid hT6
        replace hF6 := Lib.hid hF6
        go_wp2
        go_roundw
        case rel => exact ⟨1, _, false, .inr (.inl ⟨rfl, rfl⟩), HJ1.out, hN6.out, hA6.out, hT6.out, hF6.out⟩
        case measure => simp [intOf]
    · have hGr : G < wr.heap.size := hT.lt
      have t0 : wr.cell? ⟨G, 8, none⟩ = some (.int .i64 b.rows) := hT.cell 8
      have t1 : wr.cell? ⟨G, 9, none⟩ = some (.int .i64 b.nulls) := hT.cell 9
      have t2 : wr.cell? ⟨G, 10, none⟩ = some (.bool b.low.null) := hT.cell 10
      have t3 : wr.cell? ⟨G, 11, none⟩ = some (.int .i64 b.low.num) := hT.cell 11
      have t4 : wr.cell? ⟨G, 12, none⟩ = some (.string ⟨b.low.txt.toArray⟩) := hT.cell 12
      have t5 : wr.cell? ⟨G, 13, none⟩ = some (.bool b.high.null) := hT.cell 13
      have t6 : wr.cell? ⟨G, 14, none⟩ = some (.int .i64 b.high.num) := hT.cell 14
      have t7 : wr.cell? ⟨G, 15, none⟩ = some (.string ⟨b.high.txt.toArray⟩) := hT.cell 15
      have f1 := (Fr.refl Non wr).alloc (.cells (znC b) 28)
      have hP : ZnB (wr.alloc (.cells (znC b) 28)) wr.heap.size b := Blk.new _ _ _
      have hN1 := hN.non f1
      have hA1 : ZnB _ _ _ := hA.fr f1 (fun e => e)
      have hT1 := hT.fr f1 (fun e => e)
      have hF1 := hF.trans f1
      have HJ0 : Hid (bndZ b = false → JInv (a.rows + b.rows) (a.nulls + b.nulls) (doneZ a b 2) z first) := Lib.hid (fun hb => by have := jinv_none hJ b hb; simpa [doneZ] using this)
      have HJ1 : Hid (bndZ b = true → JInv (a.rows + b.rows) (a.nulls + b.nulls) (doneZ a b 2) (noteZ false (noteZ first z b.low) b.high) false) := Lib.hid (fun hb => by have := jinv_two hJ b hb; simpa [doneZ] using this)
      clear f1 hN hA hT hF hJ
      unfold znC at hP hN1 hA1 hT1 hF1
      replace hP : Hid (ZnB _ wr.heap.size b) := Lib.hid hP
      replace hN1 := Lib.hid hN1
      replace hA1 := Lib.hid hA1
      replace hT1 := Lib.hid hT1
      replace hF1 := Lib.hid hF1
      go_wp2_with fail
      refine (B2.out _).mono ?_
      rintro e w4 ⟨rfl, f4⟩
      have hP4 : ZnB _ _ _ := hP.out.fr f4 (fun e => e)
      have hN4 := hN1.out.non f4
      have hA4 : ZnB _ _ _ := hA1.out.fr f4 (fun e => e)
      have hT4 := hT1.out.fr f4 (fun e => e)
      have hF4 := hF1.out.trans f4
      clear hP hN1 hA1 hT1 hF1 f4 t0 t1 t2 t3 t4 t5 t6 t7
      generalize hPr : wr.heap.size = P at *
      clear hPr
      cases hb : bndZ b
      · replace HJ0 := Lib.hid (HJ0.out hb)
        clear HJ1 hP4
        replace hN4 := Lib.hid hN4
        replace hA4 := Lib.hid hA4
        replace hT4 := Lib.hid hT4
        replace hF4 := Lib.hid hF4
        go_wp2
        go_roundw
        case rel => exact ⟨2, _, first, .inr (.inr ⟨rfl, rfl⟩), HJ0.out, hN4.out, hA4.out, hT4.out, hF4.out⟩
        case measure => simp [intOf]
      · replace HJ1 := Lib.hid (HJ1.out hb)
        obtain ⟨m0, m1, m2, m3, m4, m5, m6, m7⟩ := znB_cells hP4
        have HNt := Lib.hid (note_any (R + 1 + 1 + 1 + 1 + 1) (R + 1 + 1 + 1 + 1) (R + 1 + 1 + 1) first z b.low _ hN4 (by omega) (by omega) (by omega))
        clear HJ0 hN4
        replace hP4 : Hid (ZnB _ _ _) := Lib.hid hP4
        replace hA4 : Hid (ZnB _ _ _) := Lib.hid hA4
        replace hT4 := Lib.hid hT4
        replace hF4 := Lib.hid hF4
        go_wp2_with fail
        refine HNt.out.mono ?_
        rintro e w5 ⟨rfl, hN5, f5⟩
        have hP5 : ZnB _ _ _ := hP4.out.fr f5 (fun e => by rcases e with e | e <;> omega)
        have hA5 : ZnB _ _ _ := hA4.out.fr f5 (fun e => by rcases e with e | e <;> omega)
        have hT5 := hT4.out.fr f5 (fun e => by rcases e with e | e <;> omega)
        have hF5 := hF4.out.fresh f5 (fun q e => by have := HW.out; rcases e with e | e <;> omega)
        clear HNt hP4 hA4 hT4 hF4 f5 m0 m1 m2 m3 m4 m5 m6 m7
        obtain ⟨m0, m1, m2, m3, m4, m5, m6, m7⟩ := znB_cells hP5
        have HNt := Lib.hid (note_any (R + 1 + 1 + 1 + 1 + 1) (R + 1 + 1 + 1 + 1) (R + 1 + 1 + 1) false _ b.high _ hN5 (by omega) (by omega) (by omega))
        clear hN5 hP5
        replace hA5 : Hid (ZnB _ _ _) := Lib.hid hA5
        replace hT5 := Lib.hid hT5
        replace hF5 := Lib.hid hF5
        go_wp2_with fail
        refine HNt.out.mono ?_
        rintro e w6 ⟨rfl, hN6, f6⟩
        have hA6 := hA5.out.fr f6 (fun e => by rcases e with e | e <;> omega)
        have hT6 := hT5.out.fr f6 (fun e => by rcases e with e | e <;> omega)
        have hF6 := hF5.out.fresh f6 (fun q e => by have := HW.out; rcases e with e | e <;> omega)
        clear HNt hA5 hT5 hF5 f6 m0 m1 m2 m3 m4 m5 m6 m7
        replace hN6 := Lib.hid hN6
        replace hA6 := Lib.hid hA6
        replace hT6 := Lib.hid hT6
        replace hF6 := Lib.hid hF6
        go_wp2
        go_roundw
        case rel => exact ⟨2, _, false, .inr (.inr ⟨rfl, rfl⟩), HJ1.out, hN6.out, hA6.out, hT6.out, hF6.out⟩
        case measure => simp [intOf]
    · clear B1 B2 hT
      have HJ : Hid (JInv (a.rows + b.rows) (a.nulls + b.nulls) (endsZ a ++ endsZ b) z first) := Lib.hid hJ
      obtain ⟨y0, y1, y2, y3, y4, y5, y6, y7⟩ := znB_froz hA
      obtain ⟨b0, b1, b2, b3, b4, b5, b6, b7⟩ := znB_cells hA
      obtain ⟨a0, a1, a2, a3, a4, a5, a6, a7⟩ := znB_cells hN.zb
      have HA := Lib.hid (setZn_B hA z)
      have HF := Lib.hid (hF.fresh (setZn_fr wr (R + 1 + 1) z) (fun q e => by have : q = R + 1 + 1 := e; have := HW.out; omega))
      clear hJ hN hA hF
      go_wp2
      exact bodyPost_ret (v := znV z) (ret_zn (p := 4) rfl _ _ (R + 1 + 1) z rfl HA.out) rfl ⟨z, first, rfl, HJ.out, HF.out⟩
end Go.Proofs.Ytihofmmbdedhbaa


namespace Go.Proofs.Ytihofmmbdedhbaa
set_option linter.unusedVariables false
set_option linter.unusedSimpArgs false
set_option maxRecDepth 100000
open Go.RowKit

theorem At3.frs {S : Nat → Prop} {w w' : World} {a : Addr} {c : Cl} (h : At3 w a c) (hf : Fr S w w') (hn : ¬ S a.block) : At3 w' a c :=
  h.keep (hf.block _ (World.block_lt_of_cell? w _ h.c0) hn)
theorem At3.drew {w : World} {a : Addr} {c : Cl} (h : At3 w a c) : At3 w.drew a c := ⟨h.c0, h.c1, h.c2⟩
/-- what the loop of the document's holds: the element, the zone, the result's block -/
structure ROf (w : World) (ad : Addr) (R : Nat) (x : Cl) (z : Zn) : Prop where
  el : At3 w ad x
  zn : ZnB w (R + 1) z
  out : ZnB w R noZn
theorem ROf.non {w w' : World} {ad : Addr} {R : Nat} {x : Cl} {z : Zn} (h : ROf w ad R x z) (hf : Fr Non w w') : ROf w' ad R x z := ⟨h.el.frs hf (fun e => e), h.zn.fr hf (fun e => e), h.out.fr hf (fun e => e)⟩
theorem ROf.drew {w : World} {ad : Addr} {R : Nat} {x : Cl} {z : Zn} (h : ROf w ad R x z) : ROf w.drew ad R x z := ⟨h.el.drew, h.zn, h.out⟩
theorem ROf.low {w : World} {ad : Addr} {R : Nat} {x : Cl} {z : Zn} (h : ROf w ad R x z) (hd : ad.block ≠ R + 1) (c : Cl) : ROf (setLow w (R + 1) c.null c.num c.txt) ad R x ⟨z.rows, z.nulls, c, z.high⟩ :=
  ⟨h.el.frs (setLow_fr _ _ _ _ _) hd, setLow_B h.zn c, h.out.fr (setLow_fr _ _ _ _ _) (fun e => by have : R = R + 1 := e; omega)⟩
theorem ROf.high {w : World} {ad : Addr} {R : Nat} {x : Cl} {z : Zn} (h : ROf w ad R x z) (hd : ad.block ≠ R + 1) (c : Cl) : ROf (setHigh w (R + 1) c.null c.num c.txt) ad R x ⟨z.rows, z.nulls, z.low, c⟩ :=
  ⟨h.el.frs (setHigh_fr _ _ _ _ _) hd, setHigh_B h.zn c, h.out.fr (setHigh_fr _ _ _ _ _) (fun e => by have : R = R + 1 := e; omega)⟩

set_option maxHeartbeats 4000000 in
theorem rzof_any (v : Value) (l : List Cl) (w : World) (hv : Cs w v l) (hvl : ∀ q, v.ownBlock = some q → q < w.heap.size) (hl : l.length ≤ 1000000) :
    Calls Try.prog 9 #[v] w fun e w' => ∃ z, e = .returned (znV z) ∧ IsOf l z ∧ Fr Non w w' := by
  obtain ⟨A, c, rfl, hlc, hn, hcell⟩ := hv
  have HC := Lib.hid hcell
  have HN := Lib.hid hn
  clear hcell hn
  have f0 : Fr Non w _ := ((Fr.refl Non w).alloc (.cells (znC noZn) 28)).alloc (.cells (znC ⟨l.length, 0, noCl, noCl⟩) 28)
  have hA : ZnB (w.alloc (.cells (znC noZn) 28)) w.heap.size noZn := Blk.new _ _ _
  have hB : ZnB ((w.alloc (.cells (znC noZn) 28)).alloc (.cells (znC ⟨l.length, 0, noCl, noCl⟩) 28)) (w.alloc (.cells (znC noZn) 28)).heap.size ⟨l.length, 0, noCl, noCl⟩ := Blk.new _ _ _
  have hsz : (w.alloc (.cells (znC noZn) 28)).heap.size = w.heap.size + 1 := by simp
  rw [hsz] at hB
  have hA2 : ZnB ((w.alloc (.cells (znC noZn) 28)).alloc (.cells (znC ⟨l.length, 0, noCl, noCl⟩) 28)) w.heap.size noZn := hA.fr ((Fr.refl Non _).alloc _) (fun e => e)
  have J0 := Lib.hid (jinv_start l.length 0)
  clear hA hsz
  unfold znC noZn noCl at *
  dsimp only at *
  replace f0 := Lib.hid f0
  replace hB := Lib.hid hB
  replace hA2 := Lib.hid hA2
  go_enter Try.func9, Try.ntmps9
  go_wp2
  generalize hw : w.heap.size = R at *
  have HW := Lib.hid (Nat.le_of_eq hw)
  have hVL := hvl
  clear hw hvl
  go_loopw [4] (fun i wr => ∃ (k : Nat) (z : Zn), k ≤ l.length ∧ i = .int .i64 k ∧ JInv l.length (nulC (l.take k)) (liveC (l.take k)) z (decide (z.nulls = k)) ∧ ZnB wr (R + 1) z ∧ ZnB wr R noZn ∧ Fr Non w wr) (fun i _ => l.length - (intOf i).toNat)
  case atStart => exact ⟨0, _, Nat.zero_le _, rfl, J0.out, hB.out, hA2.out, f0.out⟩
  case round =>
    clear hA2 hB f0 J0
    obtain ⟨k, z, hk, rfl, hJ, hZ, hO, hF⟩ := hrel
    by_cases hlt : k < l.length
    · cases A with
      | none => have := HN.out rfl; omega
      | some a =>
        have hel := hF.at3 (HC.out a rfl k hlt)
        have hbd : (a.add (k * 3)).block < R := by rw [add_block]; exact hVL a.block rfl
        have HY := Lib.hid (jinv_yes hlt hJ)
        have HX := Lib.hid (jinv_no hlt hJ)
        obtain ⟨hn0, hn1⟩ := jinv_le (Nat.le_of_lt hlt) hJ
        clear hJ
        generalize l[k] = x at *
        have hN : ROf wr (a.add (k * 3)) R x z := ⟨hel, hZ, hO⟩
        have had : (a.add (k * 3)).block ≠ R + 1 := by omega
        clear hel hZ hO
        obtain ⟨xn, xi, xt⟩ := x
        cases xn
        · replace HX := Lib.hid (HX.out rfl)
          clear HY
          have O1 := fun W => rorder_any ⟨false, xi, xt⟩ z.low W
          have O2 := fun W => rorder_any ⟨false, xi, xt⟩ z.high W
          have HZ : noteZ (decide (z.nulls = k)) z ⟨false, xi, xt⟩ = ⟨z.rows, z.nulls, if (decide (z.nulls = k) || decide (ordC ⟨false, xi, xt⟩ z.low < 0)) = true then ⟨false, xi, xt⟩ else z.low, if (decide (z.nulls = k) || decide (0 < ordC ⟨false, xi, xt⟩ z.high)) = true then ⟨false, xi, xt⟩ else z.high⟩ := rfl
          generalize ordC ⟨false, xi, xt⟩ z.low = x at *
          generalize ordC ⟨false, xi, xt⟩ z.high = y at *
          unfold clV clC at O1 O2
          dsimp only at O1 O2
          replace O1 := Lib.hid O1
          replace O2 := Lib.hid O2
          replace HZ := Lib.hid HZ
          obtain ⟨c0, c1, c2⟩ := hN.el.lit
          dsimp only at c0 c1 c2
          have z1 : wr.cell? ⟨R + 1, 1, none⟩ = some (.int .i64 z.nulls) := hN.zn.cell 1
          by_cases hfi : z.nulls = k
          · have HZ1 : Hid (noteZ (decide (z.nulls = k)) z ⟨false, xi, xt⟩ = ⟨z.rows, z.nulls, ⟨false, xi, xt⟩, ⟨false, xi, xt⟩⟩) := Lib.hid (by rw [HZ.out, decide_eq_true hfi]; rfl)
            have HE : Hid (JInv l.length (nulC (l.take (k + 1))) (liveC (l.take (k + 1))) ⟨z.rows, z.nulls, ⟨false, xi, xt⟩, ⟨false, xi, xt⟩⟩ (decide (z.nulls = (k + 1 : Nat)))) := Lib.hid (by rw [HZ1.out] at HX; have := HX.out; rwa [show decide (z.nulls = ((k + 1 : Nat) : Int)) = false from decide_eq_false (by omega)])
            have hd : (z.nulls == (k : Int)) = true := by simpa using hfi
            clear HZ HZ1 HX O1 O2 hfi
            go_wp2
            clear c0 c1 c2 z1
            go_region
            replace hN := hN.drew
            replace hF := hF.drew
            generalize wr.drew = V1 at *
            have hL : ROf (setLow V1 (R + 1) false xi xt) (a.add (k * 3)) R ⟨false, xi, xt⟩ ⟨z.rows, z.nulls, ⟨false, xi, xt⟩, z.high⟩ := hN.low had ⟨false, xi, xt⟩
            have FF : Fr Non w (setLow V1 (R + 1) false xi xt) := hF.fresh (setLow_fr V1 (R + 1) false xi xt) (fun q e => by have : q = R + 1 := e; have := HW.out; omega)
            replace hL := Lib.hid hL
            replace FF := Lib.hid FF
            obtain ⟨y0, y1, y2, y3, y4, y5, y6, y7⟩ := znB_froz hN.zn
            obtain ⟨a0, a1, a2, a3, a4, a5, a6, a7⟩ := znB_cells hN.zn
            obtain ⟨c0, c1, c2⟩ := hN.el.lit
            dsimp only at c0 c1 c2
            clear hN hF
            unfold setLow at hL FF
            go_wp2
            clear y0 y1 y2 y3 y4 y5 y6 y7 a0 a1 a2 a3 a4 a5 a6 a7 c0 c1 c2
            generalize ((V1.setCell ⟨R + 1, 2, none⟩ (.bool false)).setCell ⟨R + 1, 3, none⟩ (.int .i64 xi)).setCell ⟨R + 1, 4, none⟩ (.string ⟨xt.toArray⟩) = V at *
            have hN := hL.out
            have hF := FF.out
            clear hL FF
            go_region
            replace hN := hN.drew
            replace hF := hF.drew
            generalize V.drew = V2 at *
            have hL : ROf (setHigh V2 (R + 1) false xi xt) (a.add (k * 3)) R ⟨false, xi, xt⟩ ⟨z.rows, z.nulls, ⟨false, xi, xt⟩, ⟨false, xi, xt⟩⟩ := hN.high had ⟨false, xi, xt⟩
            have FF : Fr Non w (setHigh V2 (R + 1) false xi xt) := hF.fresh (setHigh_fr V2 (R + 1) false xi xt) (fun q e => by have : q = R + 1 := e; have := HW.out; omega)
            replace hL := Lib.hid hL
            replace FF := Lib.hid FF
            obtain ⟨y0, y1, y2, y3, y4, y5, y6, y7⟩ := znB_froz hN.zn
            obtain ⟨a0, a1, a2, a3, a4, a5, a6, a7⟩ := znB_cells hN.zn
            obtain ⟨c0, c1, c2⟩ := hN.el.lit
            dsimp only at c0 c1 c2
            clear hN hF
            unfold setHigh at hL FF
            go_wp2
            go_roundw
            case rel => exact ⟨k + 1, _, by omega, by go_num, HE.out, hL.out.zn, hL.out.out, FF.out⟩
            case measure => simp [intOf]; omega
          · have hd : (z.nulls == (k : Int)) = false := by simpa using hfi
            have HFI : Hid (¬ z.nulls = (k : Int)) := Lib.hid hfi
            clear hfi
            go_wp2
            clear c0 c1 c2 z1
            generalize wr = V at *
            replace hN := hN.drew
            replace hF := hF.drew
            obtain ⟨s0, s1, s2⟩ := At3.lit (hN).el
            have s3 : (V.drew).cell? ⟨R + 1, 2, none⟩ = some (.bool z.low.null) := (hN).zn.cell 2
            have s4 : (V.drew).cell? ⟨R + 1, 3, none⟩ = some (.int .i64 z.low.num) := (hN).zn.cell 3
            have s5 : (V.drew).cell? ⟨R + 1, 4, none⟩ = some (.string ⟨z.low.txt.toArray⟩) := (hN).zn.cell 4
            dsimp only at s0 s1 s2
            go_region_held3 (fun W => W.cell? (a.add (k * 3)) = some (.bool false) ∧ W.cell? { block := (a.add (k * 3)).block, off := (a.add (k * 3)).off + 1 } = some (.int .i64 xi) ∧ W.cell? { block := (a.add (k * 3)).block, off := (a.add (k * 3)).off + 2 } = some (.string ⟨xt.toArray⟩) ∧ W.cell? ⟨R + 1, 2, none⟩ = some (.bool z.low.null) ∧ W.cell? ⟨R + 1, 3, none⟩ = some (.int .i64 z.low.num) ∧ W.cell? ⟨R + 1, 4, none⟩ = some (.string ⟨z.low.txt.toArray⟩)) (first | exact ⟨s0, s1, s2, s3, s4, s5⟩ | exact ⟨t0, t1, t2, t3, t4, t5⟩) (first | (go_at_call 26; (with_reducible refine (O1.out _).mono ?_); rintro e w4 ⟨rfl, f4⟩; have hN4 := hN.non f4; have hF4 := hF.then f4; obtain ⟨t0, t1, t2⟩ := At3.lit (hN4).el; have t3 : (w4).cell? ⟨R + 1, 2, none⟩ = some (.bool z.low.null) := (hN4).zn.cell 2; have t4 : (w4).cell? ⟨R + 1, 3, none⟩ = some (.int .i64 z.low.num) := (hN4).zn.cell 3; have t5 : (w4).cell? ⟨R + 1, 4, none⟩ = some (.string ⟨z.low.txt.toArray⟩) := (hN4).zn.cell 4; dsimp only at t0 t1 t2))
            clear s0 s1 s2 s3 s4 s5 t0 t1 t2 t3 t4 t5 f4 hN hF
            have hN := hN4
            have hF := hF4
            clear hN4 hF4
            clear O1
            by_cases hx : x < 0
            · have HZ0 : Hid (noteZ (decide (z.nulls = k)) z ⟨false, xi, xt⟩ = ⟨z.rows, z.nulls, ⟨false, xi, xt⟩, if (false || decide (0 < y)) = true then ⟨false, xi, xt⟩ else z.high⟩) := Lib.hid (by rw [HZ.out, decide_eq_true hx, decide_eq_false HFI.out]; rfl)
              have hd1 : decide (x < 0) = true := decide_eq_true hx
              clear HZ
              generalize w4 = V1 at *
              have hL : ROf (setLow V1 (R + 1) false xi xt) (a.add (k * 3)) R ⟨false, xi, xt⟩ ⟨z.rows, z.nulls, ⟨false, xi, xt⟩, z.high⟩ := hN.low had ⟨false, xi, xt⟩
              have FF : Fr Non w (setLow V1 (R + 1) false xi xt) := hF.fresh (setLow_fr V1 (R + 1) false xi xt) (fun q e => by have : q = R + 1 := e; have := HW.out; omega)
              replace hL := Lib.hid hL
              replace FF := Lib.hid FF
              obtain ⟨y0, y1, y2, y3, y4, y5, y6, y7⟩ := znB_froz hN.zn
              obtain ⟨a0, a1, a2, a3, a4, a5, a6, a7⟩ := znB_cells hN.zn
              obtain ⟨c0, c1, c2⟩ := hN.el.lit
              dsimp only at c0 c1 c2
              clear hN hF
              unfold setLow at hL FF
              go_wp2
              clear y0 y1 y2 y3 y4 y5 y6 y7 a0 a1 a2 a3 a4 a5 a6 a7 c0 c1 c2
              generalize ((V1.setCell ⟨R + 1, 2, none⟩ (.bool false)).setCell ⟨R + 1, 3, none⟩ (.int .i64 xi)).setCell ⟨R + 1, 4, none⟩ (.string ⟨xt.toArray⟩) = V at *
              have hN := hL.out
              have hF := FF.out
              clear hL FF
              replace hN := hN.drew
              replace hF := hF.drew
              obtain ⟨s0, s1, s2⟩ := At3.lit (hN).el
              have s3 : (V.drew).cell? ⟨R + 1, 5, none⟩ = some (.bool z.high.null) := (hN).zn.cell 5
              have s4 : (V.drew).cell? ⟨R + 1, 6, none⟩ = some (.int .i64 z.high.num) := (hN).zn.cell 6
              have s5 : (V.drew).cell? ⟨R + 1, 7, none⟩ = some (.string ⟨z.high.txt.toArray⟩) := (hN).zn.cell 7
              dsimp only at s0 s1 s2
              go_region_held3 (fun W => W.cell? (a.add (k * 3)) = some (.bool false) ∧ W.cell? { block := (a.add (k * 3)).block, off := (a.add (k * 3)).off + 1 } = some (.int .i64 xi) ∧ W.cell? { block := (a.add (k * 3)).block, off := (a.add (k * 3)).off + 2 } = some (.string ⟨xt.toArray⟩) ∧ W.cell? ⟨R + 1, 5, none⟩ = some (.bool z.high.null) ∧ W.cell? ⟨R + 1, 6, none⟩ = some (.int .i64 z.high.num) ∧ W.cell? ⟨R + 1, 7, none⟩ = some (.string ⟨z.high.txt.toArray⟩)) (first | exact ⟨s0, s1, s2, s3, s4, s5⟩ | exact ⟨t0, t1, t2, t3, t4, t5⟩) (first | (go_at_call 26; (with_reducible refine (O2.out _).mono ?_); rintro e w4 ⟨rfl, f4⟩; have hN4 := hN.non f4; have hF4 := hF.then f4; obtain ⟨t0, t1, t2⟩ := At3.lit (hN4).el; have t3 : (w4).cell? ⟨R + 1, 5, none⟩ = some (.bool z.high.null) := (hN4).zn.cell 5; have t4 : (w4).cell? ⟨R + 1, 6, none⟩ = some (.int .i64 z.high.num) := (hN4).zn.cell 6; have t5 : (w4).cell? ⟨R + 1, 7, none⟩ = some (.string ⟨z.high.txt.toArray⟩) := (hN4).zn.cell 7; dsimp only at t0 t1 t2))
              clear s0 s1 s2 s3 s4 s5 t0 t1 t2 t3 t4 t5 f4 hN hF
              have hN := hN4
              have hF := hF4
              clear hN4 hF4
              by_cases hy : 0 < y
              · have HZ1 : Hid (noteZ (decide (z.nulls = k)) z ⟨false, xi, xt⟩ = ⟨z.rows, z.nulls, ⟨false, xi, xt⟩, ⟨false, xi, xt⟩⟩) := Lib.hid (by rw [HZ0.out, decide_eq_true hy]; rfl)
                have HE : Hid (JInv l.length (nulC (l.take (k + 1))) (liveC (l.take (k + 1))) ⟨z.rows, z.nulls, ⟨false, xi, xt⟩, ⟨false, xi, xt⟩⟩ (decide (z.nulls = (k + 1 : Nat)))) := Lib.hid (by rw [HZ1.out] at HX; have := HX.out; rwa [show decide (z.nulls = ((k + 1 : Nat) : Int)) = false from decide_eq_false (by omega)])
                have hd2 : decide (0 < y) = true := decide_eq_true hy
                clear HZ0 HZ1 HX O2
                generalize w4 = V1 at *
                have hL : ROf (setHigh V1 (R + 1) false xi xt) (a.add (k * 3)) R ⟨false, xi, xt⟩ ⟨z.rows, z.nulls, ⟨false, xi, xt⟩, ⟨false, xi, xt⟩⟩ := hN.high had ⟨false, xi, xt⟩
                have FF : Fr Non w (setHigh V1 (R + 1) false xi xt) := hF.fresh (setHigh_fr V1 (R + 1) false xi xt) (fun q e => by have : q = R + 1 := e; have := HW.out; omega)
                replace hL := Lib.hid hL
                replace FF := Lib.hid FF
                obtain ⟨y0, y1, y2, y3, y4, y5, y6, y7⟩ := znB_froz hN.zn
                obtain ⟨a0, a1, a2, a3, a4, a5, a6, a7⟩ := znB_cells hN.zn
                obtain ⟨c0, c1, c2⟩ := hN.el.lit
                dsimp only at c0 c1 c2
                clear hN hF
                unfold setHigh at hL FF
                go_wp2
                go_roundw
                case rel => exact ⟨k + 1, _, by omega, by go_num, HE.out, hL.out.zn, hL.out.out, FF.out⟩
                case measure => simp [intOf]; omega
              · have HZ1 : Hid (noteZ (decide (z.nulls = k)) z ⟨false, xi, xt⟩ = ⟨z.rows, z.nulls, ⟨false, xi, xt⟩, z.high⟩) := Lib.hid (by rw [HZ0.out, decide_eq_false hy]; rfl)
                have HE : Hid (JInv l.length (nulC (l.take (k + 1))) (liveC (l.take (k + 1))) ⟨z.rows, z.nulls, ⟨false, xi, xt⟩, z.high⟩ (decide (z.nulls = (k + 1 : Nat)))) := Lib.hid (by rw [HZ1.out] at HX; have := HX.out; rwa [show decide (z.nulls = ((k + 1 : Nat) : Int)) = false from decide_eq_false (by omega)])
                have hd2 : decide (0 < y) = false := decide_eq_false hy
                clear HZ0 HZ1 HX O2
                replace hN := Lib.hid hN
                replace hF := Lib.hid hF
                go_wp2
                go_roundw
                case rel => exact ⟨k + 1, _, by omega, by go_num, HE.out, hN.out.zn, hN.out.out, hF.out⟩
                case measure => simp [intOf]; omega
            · have HZ0 : Hid (noteZ (decide (z.nulls = k)) z ⟨false, xi, xt⟩ = ⟨z.rows, z.nulls, z.low, if (false || decide (0 < y)) = true then ⟨false, xi, xt⟩ else z.high⟩) := Lib.hid (by rw [HZ.out, decide_eq_false hx, decide_eq_false HFI.out]; rfl)
              have hd1 : decide (x < 0) = false := decide_eq_false hx
              clear HZ
              generalize w4 = V at *
              go_wp2
              replace hN := hN.drew
              replace hF := hF.drew
              obtain ⟨s0, s1, s2⟩ := At3.lit (hN).el
              have s3 : (V.drew).cell? ⟨R + 1, 5, none⟩ = some (.bool z.high.null) := (hN).zn.cell 5
              have s4 : (V.drew).cell? ⟨R + 1, 6, none⟩ = some (.int .i64 z.high.num) := (hN).zn.cell 6
              have s5 : (V.drew).cell? ⟨R + 1, 7, none⟩ = some (.string ⟨z.high.txt.toArray⟩) := (hN).zn.cell 7
              dsimp only at s0 s1 s2
              go_region_held3 (fun W => W.cell? (a.add (k * 3)) = some (.bool false) ∧ W.cell? { block := (a.add (k * 3)).block, off := (a.add (k * 3)).off + 1 } = some (.int .i64 xi) ∧ W.cell? { block := (a.add (k * 3)).block, off := (a.add (k * 3)).off + 2 } = some (.string ⟨xt.toArray⟩) ∧ W.cell? ⟨R + 1, 5, none⟩ = some (.bool z.high.null) ∧ W.cell? ⟨R + 1, 6, none⟩ = some (.int .i64 z.high.num) ∧ W.cell? ⟨R + 1, 7, none⟩ = some (.string ⟨z.high.txt.toArray⟩)) (first | exact ⟨s0, s1, s2, s3, s4, s5⟩ | exact ⟨t0, t1, t2, t3, t4, t5⟩) (first | (go_at_call 26; (with_reducible refine (O2.out _).mono ?_); rintro e w4 ⟨rfl, f4⟩; have hN4 := hN.non f4; have hF4 := hF.then f4; obtain ⟨t0, t1, t2⟩ := At3.lit (hN4).el; have t3 : (w4).cell? ⟨R + 1, 5, none⟩ = some (.bool z.high.null) := (hN4).zn.cell 5; have t4 : (w4).cell? ⟨R + 1, 6, none⟩ = some (.int .i64 z.high.num) := (hN4).zn.cell 6; have t5 : (w4).cell? ⟨R + 1, 7, none⟩ = some (.string ⟨z.high.txt.toArray⟩) := (hN4).zn.cell 7; dsimp only at t0 t1 t2))
              clear s0 s1 s2 s3 s4 s5 t0 t1 t2 t3 t4 t5 f4 hN hF
              have hN := hN4
              have hF := hF4
              clear hN4 hF4
              by_cases hy : 0 < y
              · have HZ1 : Hid (noteZ (decide (z.nulls = k)) z ⟨false, xi, xt⟩ = ⟨z.rows, z.nulls, z.low, ⟨false, xi, xt⟩⟩) := Lib.hid (by rw [HZ0.out, decide_eq_true hy]; rfl)
                have HE : Hid (JInv l.length (nulC (l.take (k + 1))) (liveC (l.take (k + 1))) ⟨z.rows, z.nulls, z.low, ⟨false, xi, xt⟩⟩ (decide (z.nulls = (k + 1 : Nat)))) := Lib.hid (by rw [HZ1.out] at HX; have := HX.out; rwa [show decide (z.nulls = ((k + 1 : Nat) : Int)) = false from decide_eq_false (by omega)])
                have hd2 : decide (0 < y) = true := decide_eq_true hy
                clear HZ0 HZ1 HX O2
                generalize w4 = V1 at *
                have hL : ROf (setHigh V1 (R + 1) false xi xt) (a.add (k * 3)) R ⟨false, xi, xt⟩ ⟨z.rows, z.nulls, z.low, ⟨false, xi, xt⟩⟩ := hN.high had ⟨false, xi, xt⟩
                have FF : Fr Non w (setHigh V1 (R + 1) false xi xt) := hF.fresh (setHigh_fr V1 (R + 1) false xi xt) (fun q e => by have : q = R + 1 := e; have := HW.out; omega)
                replace hL := Lib.hid hL
                replace FF := Lib.hid FF
                obtain ⟨y0, y1, y2, y3, y4, y5, y6, y7⟩ := znB_froz hN.zn
                obtain ⟨a0, a1, a2, a3, a4, a5, a6, a7⟩ := znB_cells hN.zn
                obtain ⟨c0, c1, c2⟩ := hN.el.lit
                dsimp only at c0 c1 c2
                clear hN hF
                unfold setHigh at hL FF
                go_wp2
                go_roundw
                case rel => exact ⟨k + 1, _, by omega, by go_num, HE.out, hL.out.zn, hL.out.out, FF.out⟩
                case measure => simp [intOf]; omega
              · have HZ1 : Hid (noteZ (decide (z.nulls = k)) z ⟨false, xi, xt⟩ = ⟨z.rows, z.nulls, z.low, z.high⟩) := Lib.hid (by rw [HZ0.out, decide_eq_false hy]; rfl)
                have HE : Hid (JInv l.length (nulC (l.take (k + 1))) (liveC (l.take (k + 1))) ⟨z.rows, z.nulls, z.low, z.high⟩ (decide (z.nulls = (k + 1 : Nat)))) := Lib.hid (by rw [HZ1.out] at HX; have := HX.out; rwa [show decide (z.nulls = ((k + 1 : Nat) : Int)) = false from decide_eq_false (by omega)])
                have hd2 : decide (0 < y) = false := decide_eq_false hy
                clear HZ0 HZ1 HX O2
                replace hN := Lib.hid hN
                replace hF := Lib.hid hF
                go_wp2
                go_roundw
                case rel => exact ⟨k + 1, _, by omega, by go_num, HE.out, hN.out.zn, hN.out.out, hF.out⟩
                case measure => simp [intOf]; omega
        · replace HY := Lib.hid (HY.out rfl)
          clear HX
          have HE : Hid (JInv l.length (nulC (l.take (k + 1))) (liveC (l.take (k + 1))) ⟨z.rows, z.nulls + 1, z.low, z.high⟩ (decide (z.nulls + 1 = (k + 1 : Nat)))) := Lib.hid (by have := HY.out; rwa [show decide (z.nulls + 1 = ((k + 1 : Nat) : Int)) = decide (z.nulls = (k : Int)) by simp only [decide_eq_decide]; omega])
          obtain ⟨c0, c1, c2⟩ := hN.el.lit
          dsimp only at c0 c1 c2
          have z1 : wr.cell? ⟨R + 1, 1, none⟩ = some (.int .i64 z.nulls) := hN.zn.cell 1
          have y1 := hN.zn.frozen 1
          have f2 := (Fr.refl (One (R + 1)) wr).set1 1 (.int .i64 (z.nulls + 1))
          have hZ2 : Hid (ZnB _ (R + 1) ⟨z.rows, z.nulls + 1, z.low, z.high⟩) := Lib.hid (setNul_B hN.zn (z.nulls + 1))
          have hO2 : Hid (ZnB _ R noZn) := Lib.hid (hN.out.fr f2 (fun e => by have : R = R + 1 := e; omega))
          have hF2 := Lib.hid (hF.fresh f2 (fun q e => by have : q = R + 1 := e; have := HW.out; omega))
          clear HY hN f2 hF
          go_wp2
          go_roundw
          case rel => exact ⟨k + 1, _, by omega, by go_num, HE.out, hZ2.out, hO2.out, hF2.out⟩
          case measure => simp [intOf]; omega
    · obtain rfl : k = l.length := by omega
      rw [List.take_length] at hJ
      have HE := Lib.hid (jinv_end hJ)
      obtain ⟨y0, y1, y2, y3, y4, y5, y6, y7⟩ := znB_froz hO
      obtain ⟨b0, b1, b2, b3, b4, b5, b6, b7⟩ := znB_cells hO
      obtain ⟨a0, a1, a2, a3, a4, a5, a6, a7⟩ := znB_cells hZ
      have HA := Lib.hid (setZn_B hO z)
      have HF := Lib.hid (hF.fresh (setZn_fr wr R z) (fun q e => by have : q = R := e; have := HW.out; omega))
      clear hJ hZ hO hF
      go_wp2
      exact bodyPost_ret (v := znV z) (ret_zn (p := 2) rfl _ _ R z rfl HA.out) rfl ⟨z, rfl, HE.out, HF.out⟩
end Go.Proofs.Ytihofmmbdedhbaa


namespace Go.Proofs.Ytihofmmbdedhbaa
set_option linter.unusedVariables false
set_option linter.unusedSimpArgs false
set_option maxRecDepth 100000
open Go.RowKit

/-- append of a slice of cells onto a row of the call's own: the operation alone -/
theorem wp_appC {w : World} {o : Oper} {a : Act} {K : Act → World → Prop} {Q : Exit → Act → World → Prop} (s x : Operand)
    (ho : o.op = .call { callee := .builtin .append, args := #[s, x], argTypes := #[22, 22] })
    (B : Nat) (v y : Value) (l m : List Cl) (hs : a.eval s = v) (hown : Oc w B v l) (hx : a.eval x = y) (hy : Cs w y m)
    (hl : l.length + m.length < 1099511627776) (hB : B ≤ w.heap.size)
    (h : ∀ v' w', Oc w' B v' (l ++ m) → Fr (fun k => v.ownBlock = some k) w w' → K (a.put o.dst v') w') : o.wp Try.prog a w K Q := by
  obtain ⟨ii, hi, hz0, hz1, hz2⟩ := info_parts info_cl
  obtain ⟨A, c, rfl, hmc, hn, hcells⟩ := hy
  cases A with
  | some ad =>
    refine wp_append_own w s x _ ho B 26 ii _ 3 32 Try.underlying22 hi hz0 hz1 hz2 rfl (by omega) v l.length (clsL l) hs hown ad m.length c (clsL m) hx (clsL_len m) ?_ (clsL_one' m) (by unfold maxLen; omega) (by omega) hB ?_
    · intro j u hu
      have hj : j < m.length * 3 := by rw [← clsL_len]; exact (List.getElem?_eq_some_iff.1 hu).1
      have hat := clsL_at m (j / 3) (j % 3) (by omega) (Nat.mod_lt _ (by omega))
      rw [show j / 3 * 3 + j % 3 = j by omega, hu] at hat
      have h3 := hcells ad rfl (j / 3) (by omega)
      have e : ad.add j = (ad.add (j / 3 * 3)).add (j % 3) := by rw [add_add, show j / 3 * 3 + j % 3 = j by omega]
      rw [e]
      have hm : j % 3 = 0 ∨ j % 3 = 1 ∨ j % 3 = 2 := by omega
      rcases hm with hm | hm | hm <;> rw [hm] at hat ⊢
      · have := h3.c0; simp [clL] at hat; rw [hat, show ∀ p : Addr, p.add 0 = p from fun p => by simp [Addr.add]]; exact this
      · have := h3.c1; simp [clL] at hat; rw [hat]; exact this
      · have := h3.c2; simp [clL] at hat; rw [hat]; exact this
    · intro v' w' h1 h2 _
      refine h v' w' ?_ (Fr.of_grown h2)
      unfold Oc
      rw [clsL_app, List.length_append]
      exact h1
  | none =>
    have hm : m = [] := List.eq_nil_of_length_eq_zero (by have := hn rfl; omega)
    subst hm
    have hc : c = 0 := hn rfl
    subst hc
    have hrun := run_append_owned_none (P := Try.prog) (w := w) B 22 o.type 26 ii 3 Try.underlying22 hi v l.length (clsL l) hown
    unfold Oper.wp
    have hx' : a.eval x = .slice none 0 0 := hx
    simp [execOp, ho, resolve, invoke, builtin, hs, hx', hrun, Result.andThen]
    exact h v w (by simpa using hown) (Fr.refl _ _)
/-- .. as a step, guarded or not -/
theorem wpList_appC {w : World} {ops : Array Oper} {rest : List Oper} {o : Oper} {a : Act} {Q : Exit → Act → World → Prop} (hw : Region.wanted o (yielded ops a.tmps) = true) (s x : Operand)
    (ho : o.op = .call { callee := .builtin .append, args := #[s, x], argTypes := #[22, 22] })
    (B : Nat) (v y : Value) (l m : List Cl) (hs : a.eval s = v) (hown : Oc w B v l) (hx : a.eval x = y) (hy : Cs w y m)
    (hl : l.length + m.length < 1099511627776) (hB : B ≤ w.heap.size)
    (h : ∀ v' w', Oc w' B v' (l ++ m) → Fr (fun k => v.ownBlock = some k) w w' → wpList Try.prog ops Q rest (a.put o.dst v') w') : wpList Try.prog ops Q (o :: rest) a w :=
  BigFrame.wpList_want hw fun _ hK => wp_appC s x ho B v y l m hs hown hx hy hl hB fun v' w' h1 h2 => hK _ _ (h v' w' h1 h2)

/-- two zones in two blocks -/
structure ZnZn (w : World) (g : Nat) (z y : Zn) : Prop where
  one : ZnB w g z
  two : ZnB w (g + 1) y
theorem ZnZn.non {w w' : World} {g : Nat} {z y : Zn} (h : ZnZn w g z y) (hf : Fr Non w w') : ZnZn w' g z y := ⟨h.one.fr hf (fun e => e), h.two.fr hf (fun e => e)⟩
theorem isTy_of {ty : Int} (h1 : ¬ ty < 1) (h2 : ¬ 3 < ty) : isTy ty = true := by simp [isTy]; omega

set_option maxHeartbeats 4000000 in
theorem zoneOf_walk (ty : Int) (v1 v2 : Value) (a b : List Cl) (w : World) (h1 : Cs w v1 a) (h2 : Cs w v2 b) (b1 : ∀ k, v1.ownBlock = some k → k < w.heap.size) (b2 : ∀ k, v2.ownBlock = some k → k < w.heap.size) :
    Calls Try.prog 3 #[.int .i64 ty, v1, v2] w fun e w' => e = .returned (.bool true) ∧ Below w.heap.size w w' := by
  obtain ⟨A1, c1, rfl⟩ := h1.shape
  obtain ⟨A2, c2, rfl⟩ := h2.shape
  have H1 := Lib.hid h1
  have H2 := Lib.hid h2
  have B1 := Lib.hid b1
  have B2 := Lib.hid b2
  clear h1 h2 b1 b2
  go_enter Try.func3, Try.ntmps3
  go_wp2_with fail
  refine (smallC_any _ a w H1.out).mono ?_
  rintro e w1 ⟨s1, rfl, hs1, f1⟩
  cases s1
  · clear hs1
    go_wp2_with fail
    refine (znlive_any _).mono ?_
    rintro e wl ⟨rfl, fl⟩
    go_wp2
    go_ret
    exact ⟨rfl, (f1.trans fl).below⟩
  · have ha := hs1 rfl
    clear hs1
    have hc2 := H2.out.non f1
    replace f1 := Lib.hid f1
    go_wp2_with fail
    refine (smallC_any _ b w1 hc2).mono ?_
    rintro e w2 ⟨s2, rfl, hs2, f2⟩
    have F2 := f1.out.trans f2
    clear f1 f2 hc2
    cases s2
    · clear hs2
      go_wp2_with fail
      refine (znlive_any _).mono ?_
      rintro e wl ⟨rfl, fl⟩
      go_wp2
      go_ret
      exact ⟨rfl, (F2.trans fl).below⟩
    · have hb := hs2 rfl
      clear hs2
      have Z1 := Lib.hid (zof_any _ a w2 (H1.out.non F2) (by omega))
      replace F2 := Lib.hid F2
      go_wp2_with fail
      refine Z1.out.mono ?_
      rintro e w3 ⟨z, rfl, hz, f3⟩
      have F3 := F2.out.trans f3
      clear F2 f3 Z1
      have Z2 := Lib.hid (zof_any _ b w3 (H2.out.non F3) (by omega))
      replace F3 := Lib.hid F3
      replace hz := Lib.hid hz
      go_wp2_with fail
      refine Z2.out.mono ?_
      rintro e w4 ⟨y, rfl, hy, f4⟩
      have F4 := F3.out.trans f4
      clear F3 f4 Z2
      replace hy := Lib.hid hy
      have g1 : ZnB (w4.alloc (.cells (znC z) 28)) w4.heap.size z := Blk.new _ _ _
      have g2 : ZnB ((w4.alloc (.cells (znC z) 28)).alloc (.cells (znC y) 28)) (w4.alloc (.cells (znC z) 28)).heap.size y := Blk.new _ _ _
      rw [show (w4.alloc (.cells (znC z) 28)).heap.size = w4.heap.size + 1 by simp] at g2
      have g3 : ZnB ((w4.alloc (.cells (znC z) 28)).alloc (.cells (znC y) 28)) w4.heap.size z := g1.fr ((Fr.refl Non _).alloc _) (fun e => e)
      have F5 := (F4.alloc (.cells (znC z) 28)).alloc (.cells (znC y) 28)
      clear g1 F4
      unfold znC at g2 g3 F5
      unfold znV znC
      replace g2 : Hid (ZnB _ _ _) := Lib.hid g2
      replace g3 : Hid (ZnB _ _ _) := Lib.hid g3
      replace F5 := Lib.hid F5
      go_wp2
      have hD := (⟨g3.out, g2.out⟩ : ZnZn _ w4.heap.size z y)
      have FD := F5.out
      clear g2 g3 F5
      generalize (w4.alloc (.cells #[.int .i64 z.rows, .int .i64 z.nulls, .bool z.low.null, .int .i64 z.low.num, .string ⟨z.low.txt.toArray⟩, .bool z.high.null, .int .i64 z.high.num, .string ⟨z.high.txt.toArray⟩] 28)).alloc (.cells #[.int .i64 y.rows, .int .i64 y.nulls, .bool y.low.null, .int .i64 y.low.num, .string ⟨y.low.txt.toArray⟩, .bool y.high.null, .int .i64 y.high.num, .string ⟨y.high.txt.toArray⟩] 28) = V at *
      generalize w4.heap.size = g at *
      replace hD : ZnZn V.drew g z y := ⟨hD.one, hD.two⟩
      replace FD := FD.drew
      have R1 := Lib.hid (rzof_any _ a V.drew (H1.out.non FD) (fun k hk => Nat.lt_of_lt_of_le (B1.out k hk) FD.size) (by omega))
      have q := fun W => run_neq_zn W z z
      rw [zeq_self] at q
      have t0 : V.drew.cell? ⟨g, 0, none⟩ = some (.int .i64 z.rows) := hD.one.cell 0
      have t1 : V.drew.cell? ⟨g, 1, none⟩ = some (.int .i64 z.nulls) := hD.one.cell 1
      have t2 : V.drew.cell? ⟨g, 2, none⟩ = some (.bool z.low.null) := hD.one.cell 2
      have t3 : V.drew.cell? ⟨g, 3, none⟩ = some (.int .i64 z.low.num) := hD.one.cell 3
      have t4 : V.drew.cell? ⟨g, 4, none⟩ = some (.string ⟨z.low.txt.toArray⟩) := hD.one.cell 4
      have t5 : V.drew.cell? ⟨g, 5, none⟩ = some (.bool z.high.null) := hD.one.cell 5
      have t6 : V.drew.cell? ⟨g, 6, none⟩ = some (.int .i64 z.high.num) := hD.one.cell 6
      have t7 : V.drew.cell? ⟨g, 7, none⟩ = some (.string ⟨z.high.txt.toArray⟩) := hD.one.cell 7
      go_region_held3 (fun W => W.cell? ⟨g, 0, none⟩ = some (.int .i64 z.rows) ∧ W.cell? ⟨g, 1, none⟩ = some (.int .i64 z.nulls) ∧ W.cell? ⟨g, 2, none⟩ = some (.bool z.low.null) ∧ W.cell? ⟨g, 3, none⟩ = some (.int .i64 z.low.num) ∧ W.cell? ⟨g, 4, none⟩ = some (.string ⟨z.low.txt.toArray⟩) ∧ W.cell? ⟨g, 5, none⟩ = some (.bool z.high.null) ∧ W.cell? ⟨g, 6, none⟩ = some (.int .i64 z.high.num) ∧ W.cell? ⟨g, 7, none⟩ = some (.string ⟨z.high.txt.toArray⟩)) (first | exact ⟨t0, t1, t2, t3, t4, t5, t6, t7⟩ | exact ⟨u0, u1, u2, u3, u4, u5, u6, u7⟩ | fail) (first | (go_at_call 9; refine R1.out.mono ?_; rintro e w5 ⟨z', rfl, hz', f5⟩; obtain rfl : z = z' := isOf_uniq hz.out hz'; have h5 := hD.non f5; have F5 := FD.trans f5; unfold znV znC; have u0 : w5.cell? ⟨g, 0, none⟩ = some (.int .i64 z.rows) := h5.one.cell 0; have u1 : w5.cell? ⟨g, 1, none⟩ = some (.int .i64 z.nulls) := h5.one.cell 1; have u2 : w5.cell? ⟨g, 2, none⟩ = some (.bool z.low.null) := h5.one.cell 2; have u3 : w5.cell? ⟨g, 3, none⟩ = some (.int .i64 z.low.num) := h5.one.cell 3; have u4 : w5.cell? ⟨g, 4, none⟩ = some (.string ⟨z.low.txt.toArray⟩) := h5.one.cell 4; have u5 : w5.cell? ⟨g, 5, none⟩ = some (.bool z.high.null) := h5.one.cell 5; have u6 : w5.cell? ⟨g, 6, none⟩ = some (.int .i64 z.high.num) := h5.one.cell 6; have u7 : w5.cell? ⟨g, 7, none⟩ = some (.string ⟨z.high.txt.toArray⟩) := h5.one.cell 7))
      clear t0 u0 t1 u1 t2 u2 t3 u3 t4 u4 t5 u5 t6 u6 t7 u7 hD FD f5 R1 hz' q
      replace h5 := Lib.hid h5
      have M1 := Lib.hid (lmay_any ty _ a w5 (H1.out.non F5) (by omega))
      replace F5 := Lib.hid F5
      go_wp2_with fail
      refine M1.out.mono ?_
      rintro e w6 ⟨rfl, f6⟩
      have h6 := h5.out.non f6
      have F6 := F5.out.trans f6
      clear h5 F5 f6 M1
      cases hA : a.all (mayC ty true)
      · skip
        go_wp2_with fail
        refine (znlive_any _).mono ?_
        rintro e wl ⟨rfl, fl⟩
        go_wp2
        go_ret
        exact ⟨rfl, (F6.trans fl).below⟩
      · replace h6 := Lib.hid h6
        have M2 := Lib.hid (lmay_any ty _ b w6 (H2.out.non F6) (by omega))
        replace F6 := Lib.hid F6
        go_wp2_with fail
        refine M2.out.mono ?_
        rintro e w7 ⟨rfl, f7⟩
        have h7 := h6.out.non f7
        have F7 := F6.out.trans f7
        clear h6 F6 f7 M2
        cases hB : b.all (mayC ty true)
        · skip
          go_wp2_with fail
          refine (znlive_any _).mono ?_
          rintro e wl ⟨rfl, fl⟩
          go_wp2
          go_ret
          exact ⟨rfl, (F7.trans fl).below⟩
        · by_cases ht1 : ty < 1
          · skip
            go_wp2_with fail
            refine (znlive_any _).mono ?_
            rintro e wl ⟨rfl, fl⟩
            go_wp2
            go_ret
            exact ⟨rfl, (F7.trans fl).below⟩
          · by_cases ht2 : 3 < ty
            · skip
              go_wp2_with fail
              refine (znlive_any _).mono ?_
              rintro e wl ⟨rfl, fl⟩
              go_wp2
              go_ret
              exact ⟨rfl, (F7.trans fl).below⟩
            · have hT := isTy_of ht1 ht2
              have hmay := Lib.hid (isOf_may hz.out hT (fun c hc => List.all_eq_true.1 hA c hc) (by omega))
              clear hT hA hB
              replace h7 := Lib.hid h7
              replace F7 := Lib.hid F7
              go_wp2
              go_loopw [9] (fun i wr => ∃ (k : Nat), k ≤ a.length ∧ i = .int .i64 k ∧ ZnZn wr g z y ∧ Fr Non w wr) (fun i _ => a.length - (intOf i).toNat)
              case atStart => exact ⟨0, Nat.zero_le _, rfl, h7.out, F7.out⟩
              case round =>
                clear h7 F7
                obtain ⟨k, hk, rfl, hZ, hF⟩ := hrel
                by_cases hlt : k < a.length
                · have hel := H1.out.non hF
                  obtain ⟨a0, rfl, _, _, hel⟩ := hel.addr (by omega)
                  have hel3 := (hel k hlt)
                  have C1 := Lib.hid (fun W => zhas_any z a[k] W)
                  rw [isOf_has hz.out (List.getElem_mem hlt)] at C1
                  clear hel
                  generalize a[k] = x at *
                  obtain ⟨xn, xi, xt⟩ := x
                  unfold znV znC clV clC at C1
                  dsimp only at C1
                  go_wp2
                  have hZD : ZnZn wr.drew g z y := ⟨hZ.one, hZ.two⟩
                  have hFD := hF.drew
                  have helD := hel3.drew
                  clear hZ hF hel3
                  obtain ⟨t8, t9, t10⟩ := helD.lit
                  dsimp only at t8 t9 t10
                  have t0 : wr.drew.cell? ⟨g, 0, none⟩ = some (.int .i64 z.rows) := hZD.one.cell 0
                  have t1 : wr.drew.cell? ⟨g, 1, none⟩ = some (.int .i64 z.nulls) := hZD.one.cell 1
                  have t2 : wr.drew.cell? ⟨g, 2, none⟩ = some (.bool z.low.null) := hZD.one.cell 2
                  have t3 : wr.drew.cell? ⟨g, 3, none⟩ = some (.int .i64 z.low.num) := hZD.one.cell 3
                  have t4 : wr.drew.cell? ⟨g, 4, none⟩ = some (.string ⟨z.low.txt.toArray⟩) := hZD.one.cell 4
                  have t5 : wr.drew.cell? ⟨g, 5, none⟩ = some (.bool z.high.null) := hZD.one.cell 5
                  have t6 : wr.drew.cell? ⟨g, 6, none⟩ = some (.int .i64 z.high.num) := hZD.one.cell 6
                  have t7 : wr.drew.cell? ⟨g, 7, none⟩ = some (.string ⟨z.high.txt.toArray⟩) := hZD.one.cell 7
                  go_region_held3 (fun W => W.cell? ⟨g, 0, none⟩ = some (.int .i64 z.rows) ∧ W.cell? ⟨g, 1, none⟩ = some (.int .i64 z.nulls) ∧ W.cell? ⟨g, 2, none⟩ = some (.bool z.low.null) ∧ W.cell? ⟨g, 3, none⟩ = some (.int .i64 z.low.num) ∧ W.cell? ⟨g, 4, none⟩ = some (.string ⟨z.low.txt.toArray⟩) ∧ W.cell? ⟨g, 5, none⟩ = some (.bool z.high.null) ∧ W.cell? ⟨g, 6, none⟩ = some (.int .i64 z.high.num) ∧ W.cell? ⟨g, 7, none⟩ = some (.string ⟨z.high.txt.toArray⟩) ∧ W.cell? (a0.add (k * 3)) = some (.bool xn) ∧ W.cell? { block := (a0.add (k * 3)).block, off := (a0.add (k * 3)).off + 1 } = some (.int .i64 xi) ∧ W.cell? { block := (a0.add (k * 3)).block, off := (a0.add (k * 3)).off + 2 } = some (.string ⟨xt.toArray⟩)) (first | exact ⟨t0, t1, t2, t3, t4, t5, t6, t7, t8, t9, t10⟩ | exact ⟨u0, u1, u2, u3, u4, u5, u6, u7, u8, u9, u10⟩ | fail) (first | (go_at_call 11; (with_reducible refine (C1.out _).mono ?_); rintro e w8 ⟨rfl, f8⟩; have h8 := hZD.non f8; have F8 := hFD.trans f8; have hel8 := helD.frs f8 (fun e => e); obtain ⟨u8, u9, u10⟩ := hel8.lit; dsimp only at u8 u9 u10; have u0 : w8.cell? ⟨g, 0, none⟩ = some (.int .i64 z.rows) := h8.one.cell 0; have u1 : w8.cell? ⟨g, 1, none⟩ = some (.int .i64 z.nulls) := h8.one.cell 1; have u2 : w8.cell? ⟨g, 2, none⟩ = some (.bool z.low.null) := h8.one.cell 2; have u3 : w8.cell? ⟨g, 3, none⟩ = some (.int .i64 z.low.num) := h8.one.cell 3; have u4 : w8.cell? ⟨g, 4, none⟩ = some (.string ⟨z.low.txt.toArray⟩) := h8.one.cell 4; have u5 : w8.cell? ⟨g, 5, none⟩ = some (.bool z.high.null) := h8.one.cell 5; have u6 : w8.cell? ⟨g, 6, none⟩ = some (.int .i64 z.high.num) := h8.one.cell 6; have u7 : w8.cell? ⟨g, 7, none⟩ = some (.string ⟨z.high.txt.toArray⟩) := h8.one.cell 7))
                  clear t0 u0 t1 u1 t2 u2 t3 u3 t4 u4 t5 u5 t6 u6 t7 u7 t8 u8 t9 u9 t10 u10 hZD hFD helD hel8 f8 C1
                  replace h8 := Lib.hid h8
                  replace F8 := Lib.hid F8
                  go_wp2
                  go_roundw
                  case rel => exact ⟨k + 1, by omega, by go_num, h8.out, F8.out⟩
                  case measure => simp [intOf]; omega
                · have C1 := Lib.hid (fun W => zmay_any ty z W)
                  rw [hmay.out] at C1
                  unfold znV at C1
                  unfold znC at C1
                  obtain ⟨a0, a1, a2, a3, a4, a5, a6, a7⟩ := znB_cells hZ.one
                  replace hZ := Lib.hid hZ
                  replace hF := Lib.hid hF
                  go_wp2_with fail
                  refine (C1.out _).mono ?_
                  rintro e w8 ⟨rfl, f8⟩
                  have h8 := hZ.out.non f8
                  have F8 := hF.out.trans f8
                  clear hZ hF f8 C1 a0 a1 a2 a3 a4 a5 a6 a7
                  obtain ⟨a0, a1, a2, a3, a4, a5, a6, a7⟩ := znB_cells h8.one
                  obtain ⟨b0, b1, b2, b3, b4, b5, b6, b7⟩ := znB_cells h8.two
                  have r1 := hz.out.rows
                  have r2 := hz.out.nulls
                  have r3 := hy.out.rows
                  have r4 := hy.out.nulls
                  have n1 := nulC_rest a
                  have n2 := nulC_rest b
                  have C2 := Lib.hid (joinZ_any z y w8 (by omega) (by omega) (by omega) (by omega))
                  clear r1 r2 r3 r4 n1 n2
                  replace h8 := Lib.hid h8
                  replace F8 := Lib.hid F8
                  go_wp2_with fail
                  refine C2.out.mono ?_
                  rintro e w9 ⟨j, fst, rfl, hj, f9⟩
                  have hJ := Lib.hid (isOf_join hz.out hy.out hj)
                  have F9 := F8.out.trans f9
                  have FW := Lib.hid F9.size
                  clear h8 F8 f9 C2 hj a0 a1 a2 a3 a4 a5 a6 a7 b0 b1 b2 b3 b4 b5 b6 b7
                  have hO := Lib.hid (oc_lit0 w9 w9.heap.size _ rfl (Nat.le_refl _))
                  have FA := Lib.hid (F9.alloc (.cells #[] 26))
                  have hc1 := Lib.hid (H1.out.non FA.out)
                  clear F9
                  go_wp2_with (at_builtin; first | (refine wpList_appC (by rfl) (.tmp 66) (.tmp 67) rfl w9.heap.size (.slice (some ⟨w9.heap.size, 0, none⟩) 0 0) (.slice A1 a.length c1) [] a rfl hO.out rfl hc1.out (by simp; omega) (by simp) ?_; intro v6 w10 own6 f6; have F10 := FA.out.fresh f6 (fun k hk => by have := (hO.out.lt k hk).1; have := FW.out; omega); have hc2' := H2.out.non F10; have hs10 : w9.heap.size ≤ w10.heap.size := Nat.le_trans (by simp) f6.size) | (refine wpList_appC (by rfl) (.tmp 68) (.tmp 69) rfl w9.heap.size v6 (.slice A2 b.length c2) ([] ++ a) b rfl own6 rfl hc2' (by simp; omega) hs10 ?_; intro v7 w11 own7 f7; have F11 := F10.fresh f7 (fun k hk => by have := (own6.lt k hk).1; have := FW.out; omega)))
                  have hs11 : w9.heap.size ≤ w11.heap.size := Nat.le_trans hs10 f7.size
                  have R2 := Lib.hid (rzof_any v7 _ w11 own7.cs (fun k hk => (own7.lt k hk).2) (by simp; omega))
                  replace F11 := Lib.hid F11
                  clear hO FA hc1 F10 hc2' hs10 own6 own7 f6 f7 hs11
                  have q := fun W => run_eql_zn W j j
                  rw [zeq_self] at q
                  unfold znV znC
                  refine R2.out.mono ?_
                  rintro e w12 ⟨j', rfl, hj', f12⟩
                  rw [List.nil_append] at hj'
                  obtain rfl : j = j' := isOf_uniq hJ.out hj'
                  have F12 := F11.out.trans f12
                  clear F11 f12 R2 hj'
                  unfold znV znC
                  go_wp2_with fail
                  refine (znlive_any w12).mono ?_
                  rintro e w13 ⟨rfl, f13⟩
                  have FE := Lib.hid (F12.trans f13)
                  clear F12 f13
                  go_wp2
                  go_ret
                  exact ⟨rfl, FE.out.below⟩
end Go.Proofs.Ytihofmmbdedhbaa


namespace Go.Proofs.Ytihofmmbdedhbaa
set_option linter.unusedVariables false
set_option linter.unusedSimpArgs false
set_option maxRecDepth 100000
open Go.ChangeShapes Go.WideShapes Go.ChangeAt Go.RowKit

theorem frame_own : ownKnob Try.prog.godebug = none := by kernel_rfl
theorem frame_laidOut : laidOutB Try.prog = true := by kernel_rfl

/-- every argument reads as it did -/
theorem trodAll_below {H : Type} {enc : TypeId × Value → H} {W W' : World} (hb : Below W.heap.size W W') :
    ∀ (ts : List TypeId) (vs : List Value) (ds : List (DataW H)) (ps : List MemPlace), (∀ t ∈ ts, Try.prog.readableRec t = true ∧ t < Try.prog.types.size) →
      DataW.TrodAll enc Try.prog W 0 (fun _ => true) true ts vs ds ps → DataW.TrodAll enc Try.prog W' 0 (fun b => decide (b < W.heap.size)) true ts vs ds ps := by
  intro ts
  induction ts with
  | nil => intro vs ds ps _ h; cases vs <;> cases ds <;> simp_all [DataW.TrodAll]
  | cons t ts ih =>
    intro vs ds ps hr h
    cases vs with
    | nil => cases ds <;> simp_all [DataW.TrodAll]
    | cons v vs =>
      cases ds with
      | nil => simp_all [DataW.TrodAll]
      | cons d ds =>
        obtain ⟨p, q, h1, h2, rfl⟩ := h
        have hlt : ∀ x ∈ p, x.block < W.heap.size := by obtain ⟨m, hm⟩ := h1; exact DataW.trod_lt m _ _ _ hm
        have ht := hr t (List.mem_cons_self ..)
        exact ⟨p, q, Below.trod frame_laidOut ht.1 ht.2 h1 hb hlt, ih vs ds q (fun u hu => hr u (List.mem_cons_of_mem _ hu)) h2, rfl⟩

noncomputable def typesOk (ts : List TypeId) : Bool := ts.all fun t => Try.prog.readableRec t && decide (t < Try.prog.types.size)
theorem types_ok (ts : List TypeId) (h : typesOk ts = true) : ∀ t ∈ ts, Try.prog.readableRec t = true ∧ t < Try.prog.types.size := by
  intro t ht
  have := List.all_eq_true.1 h t ht
  simpa using this

/-- a slice that came in: nil, or it leads into a block that is there -/
theorem slice_in {W : World} {base : Nat} {t e : TypeId} {v : Value} (ht : Try.prog.underlying t = some (.slice e)) (hv : Value.okWide Try.prog W .any base t v) :
    v = .slice none 0 0 ∨ ∃ b o n c, v = .slice (some ⟨b, o, none⟩) n c ∧ n ≤ c ∧ b < W.heap.size := by
  obtain ⟨a, n, c, rfl⟩ := okWide_slice ht hv
  simp only [Value.okWide, ht, Cell.okWide] at hv
  cases a with
  | none =>
    left
    simp only [Cell.ok, ht] at hv
    cases n <;> cases c <;> simp_all
  | some a =>
    right
    simp only [Cell.ok, ht] at hv
    obtain ⟨h1, _, _, h2, row, cells, h3, _⟩ := hv
    obtain ⟨b, o, sp⟩ := a
    simp only at h2 h3
    subst h2
    refine ⟨b, o, n, c, rfl, h1, ?_⟩
    rcases Nat.lt_or_ge b W.heap.size with h | h
    · exact h
    · unfold World.shape? at h3
      rw [Array.getElem?_eq_none h] at h3
      cases h3

theorem wf_i64_bd {n : Int} (h : (Lit.int .i64 n).wf = true) : -9223372036854775808 ≤ n ∧ n ≤ 9223372036854775807 := by
  simpa [Lit.wf, IntKind.min, IntKind.max, IntKind.signed, IntKind.bits] using h
end Go.Proofs.Ytihofmmbdedhbaa


namespace Go.Proofs.Ytihofmmbdedhbaa
set_option linter.unusedVariables false
set_option linter.unusedSimpArgs false
set_option maxRecDepth 100000
open Go.ChangeShapes Go.WideShapes Go.ChangeAt Go.RowKit

theorem choose_listG {α : Type} (P : Nat → α → Prop) : ∀ (n : Nat), (∀ i, i < n → ∃ x, P i x) → ∃ l : List α, l.length = n ∧ ∀ i (h : i < l.length), P i l[i]
  | 0, _ => ⟨[], rfl, fun i h => by simp at h⟩
  | n + 1, h => by
    obtain ⟨l, hl, hp⟩ := choose_listG P n fun i hi => h i (by omega)
    obtain ⟨x, hx⟩ := h n (by omega)
    refine ⟨l ++ [x], by simp [hl], fun i hi => ?_⟩
    by_cases hin : i < l.length
    · rw [List.getElem_append_left hin]; exact hp i hin
    · have : i = n := by simp at hi; omega
      subst this
      rw [List.getElem_append_right (by omega)]
      simpa using hx

end Go.Proofs.Ytihofmmbdedhbaa


namespace Go.Proofs.Ytihofmmbdedhbaa
set_option linter.unusedVariables false
set_option linter.unusedSimpArgs false
set_option maxRecDepth 100000
open Go.Joins Go.ChangeShapes Go.WideShapes Go.ChangeAt Go.RowKit Go.Deep

/-- a cell within its fields' ranges -/
structure ClWf (c : Cl) : Prop where
  lo : -9223372036854775808 ≤ c.num
  hi : c.num ≤ 9223372036854775807
  len : c.txt.length ≤ 9223372036854775807
end Go.Proofs.Ytihofmmbdedhbaa


namespace Go.Proofs.Ytihofmmbdedhbaa
set_option linter.unusedVariables false
set_option linter.unusedSimpArgs false
set_option maxRecDepth 100000
open Go.Joins Go.ChangeShapes Go.WideShapes Go.ChangeAt Go.RowKit Go.Deep

theorem cof_bool : Try.prog.cellsOf 4 = 1 := by kernel_rfl
theorem cof_i64 : Try.prog.cellsOf 2 = 1 := by kernel_rfl
theorem cof_str : Try.prog.cellsOf 9 = 1 := by kernel_rfl
theorem cof_cl : Try.prog.cellsOf 26 = 3 := by kernel_rfl
/-- three cells that are read as a cell -/
theorem cl_cells {H : Type} {enc : TypeId × Value → H} {W : World} {n : Nat} {x : DataW H × List MemPlace} {c2 c3 c4 : Value}
    (h : DataW.trod enc Try.prog W 0 (fun _ => true) true n 26 [c2, c3, c4] = some x) : ∃ c : Cl, c2 = .bool c.null ∧ c3 = .int .i64 c.num ∧ c4 = .string ⟨c.txt.toArray⟩ ∧ ClWf c := by
  obtain ⟨y0, y1, y2, m, rfl, _, h0, h1, h2⟩ := trod_struct3 Try.underlying26 h
  simp only [cof_bool, cof_i64, cof_str, List.drop_zero, List.drop_succ_cons, List.take_succ_cons, List.take_zero] at h0 h1 h2
  obtain ⟨b, e0, _⟩ := DataW.trod_bool Try.underlying4 h0
  obtain rfl := (List.cons.inj e0).1
  obtain ⟨i, e1, _, hi⟩ := DataW.trod_int Try.underlying2 h1
  obtain rfl := (List.cons.inj e1).1
  obtain ⟨s, e2, _, hs⟩ := DataW.trod_string Try.underlying9 h2
  obtain rfl := (List.cons.inj e2).1
  have hb := wf_i64_bd hi
  exact ⟨⟨b, i, s.data.toList⟩, rfl, rfl, by simp, ⟨hb.1, hb.2, by simpa [maxLen] using hs⟩⟩
theorem cs_in {H : Type} {enc : TypeId × Value → H} {W : World} {base : Nat} {v : Value} {d : DataW H} {p : List MemPlace} (hv : Value.okWide Try.prog W .any base 22 v)
    (h : DataW.Trod enc Try.prog W 0 (fun _ => true) true 22 v d p) : ∃ l, Cs W v l ∧ l.length ≤ 9223372036854775807 ∧ (∀ c ∈ l, ClWf c) ∧ ∀ k, v.ownBlock = some k → k < W.heap.size := by
  have hT := Try.underlying22
  have hlt : ∀ k, v.ownBlock = some k → k < W.heap.size := by
    rcases slice_in hT hv with rfl | ⟨b, o, n, c, rfl, _, hb⟩
    · intro k hk; cases hk
    · intro k hk
      obtain rfl : b = k := by simpa [Value.ownBlock] using hk
      exact hb
  obtain ⟨A, n, c, rfl⟩ := okWide_slice hT hv
  obtain ⟨fuel, hf⟩ := h
  rcases Go.Deep.open_slice hT hf with ⟨hcs, _⟩ | ⟨a, len, cap, m, k, D, Pl, hcs, _, hl, hm, hmm, _, hr⟩
  · simp [Value.cells] at hcs
    obtain ⟨rfl, rfl, rfl⟩ := hcs
    exact ⟨[], Cs.nil_ W, by simp, by simp, hlt⟩
  · simp [Value.cells] at hcs
    obtain ⟨rfl, rfl, rfl⟩ := hcs
    have hnm : n ≤ m := by rw [hmm]; simp; exact hl
    obtain ⟨l, hll, hls⟩ := choose_listG (fun i (x : Cl) => At3 W (a.add (i * 3)) x ∧ ClWf x) n (by
      intro i hi
      obtain ⟨cs', h1, h2⟩ := hr i (by omega)
      rw [cof_cl] at h1
      obtain ⟨_, hlen, hcell⟩ := World.cells?_some h1
      match cs', hlen with
      | [v0, v1, v2], _ =>
        obtain ⟨c, rfl, rfl, rfl, hw⟩ := cl_cells h2
        have e0 := hcell 0 (by omega)
        have e1 := hcell 1 (by omega)
        have e2 := hcell 2 (by omega)
        exact ⟨c, ⟨by simpa [add_add] using e0, by simpa using e1, by simpa using e2⟩, hw⟩)
    subst hll
    refine ⟨l, ⟨some a, c, rfl, hl, (fun h => by cases h), fun b hb j hj => ?_⟩, by unfold maxLen at hm; omega, fun x hx => ?_, hlt⟩
    · cases hb
      exact (hls j hj).1
    · obtain ⟨j, hj, rfl⟩ := List.mem_iff_getElem.1 hx
      exact (hls j hj).2
end Go.Proofs.Ytihofmmbdedhbaa
