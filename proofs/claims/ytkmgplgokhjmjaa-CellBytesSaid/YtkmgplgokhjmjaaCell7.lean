/-
  Layer 9: the example; the walk of the law on the order.
-/
import Derived.Test.YtkmgplgokhjmjaaCell6
import Derived.Test.YtkmgplgokhjmjaaCell2
import Derived.Deep.RegionHeld3
namespace Go.Proofs.Ytkmgplgokhjmjaa
set_option linter.unusedVariables false
set_option linter.unusedSimpArgs false
set_option maxRecDepth 100000
open Go.RowKit

theorem csmall_any (c : Cl) (w : World) : Calls Try.prog 6 #[clV c] w fun e w' => e = .returned (.bool (decide (c.txt.length ≤ 200))) ∧ Fr Non w w' := by
  obtain ⟨n, i, t⟩ := c
  have hs := slen t
  unfold clV clC
  by_cases h : t.length ≤ 200
  · go_enter Try.func6, Try.ntmps6
    go_wp2
    go_ret
    exact ⟨ret_boolE (by simp <;> omega), (Fr.refl _ _).alloc _⟩
  · go_enter Try.func6, Try.ntmps6
    go_wp2
    go_ret
    exact ⟨ret_boolE (by simp <;> omega), (Fr.refl _ _).alloc _⟩

set_option maxHeartbeats 1000000 in
theorem cellive_any (w : World) : Calls Try.prog 7 #[] w fun e w' => e = .returned (.bool true) ∧ Fr Non w w' := by
  have h1 := afrom_any (.text [97]) w
  have h2 := fun W => order_any ⟨true, 0, []⟩ ⟨false, -5, []⟩ W
  have h3 := fun W => run_eql_cl W ⟨false, 0, [97]⟩ ⟨false, 0, [97]⟩
  have h4 := fun W => may_any 2 false ⟨false, 1, []⟩ W
  rw [show ordC ⟨true, 0, []⟩ ⟨false, -5, []⟩ = -1 by rfl] at h2
  rw [show mayC 2 false ⟨false, 1, []⟩ = true by rfl] at h4
  simp only [ceq_self] at h3
  unfold clV clC anV anC at *
  dsimp only at h1 h2 h3 h4
  go_enter Try.func7, Try.ntmps7
  go_wp2_with fail
  refine h1.mono ?_
  rintro e w1 ⟨rfl, f1⟩
  have hC := cl_new w1 ⟨false, 0, [97]⟩
  have f2 := f1.alloc (.cells #[.bool false, .int .i64 0, .string ⟨([97] : List UInt8).toArray⟩] 23)
  go_wp2_with fail
  refine (h2 _).mono ?_
  rintro e w2 ⟨rfl, f3⟩
  have hC2 : ClB w2 w1.heap.size _ := hC.fr f3 (fun e => e)
  obtain ⟨c0, c1, c2, _, _, _⟩ := hC2.facts
  dsimp only at c0 c1 c2
  have HF := Lib.hid (f2.trans f3)
  clear f1 f2 f3 hC hC2
  go_wp2_with fail
  refine (h4 _).mono ?_
  rintro e w3 ⟨rfl, f4⟩
  go_wp2
  go_ret
  exact ⟨rfl, HF.out.trans f4⟩

/-- three cells in three blocks, one behind the other -/
structure Cl3 (w : World) (g : Nat) (a b c : Cl) : Prop where
  one : ClB w g a
  two : ClB w (g + 1) b
  three : ClB w (g + 1 + 1) c
theorem Cl3.non {w w' : World} {g : Nat} {a b c : Cl} (h : Cl3 w g a b c) (hf : Fr Non w w') : Cl3 w' g a b c := ⟨h.one.fr hf (fun e => e), h.two.fr hf (fun e => e), h.three.fr hf (fun e => e)⟩
/-- the cells of the three, as a region's loads ask for them -/
def Cells3 (W : World) (g : Nat) (a b c : Cl) : Prop :=
  W.cell? ⟨g, 0, none⟩ = some (.bool a.null) ∧ W.cell? ⟨g, 1, none⟩ = some (.int .i64 a.num) ∧ W.cell? ⟨g, 2, none⟩ = some (.string ⟨a.txt.toArray⟩) ∧
  W.cell? ⟨g + 1, 0, none⟩ = some (.bool b.null) ∧ W.cell? ⟨g + 1, 1, none⟩ = some (.int .i64 b.num) ∧ W.cell? ⟨g + 1, 2, none⟩ = some (.string ⟨b.txt.toArray⟩) ∧
  W.cell? ⟨g + 1 + 1, 0, none⟩ = some (.bool c.null) ∧ W.cell? ⟨g + 1 + 1, 1, none⟩ = some (.int .i64 c.num) ∧ W.cell? ⟨g + 1 + 1, 2, none⟩ = some (.string ⟨c.txt.toArray⟩)
theorem Cl3.cells {w : World} {g : Nat} {a b c : Cl} (h : Cl3 w g a b c) : Cells3 w g a b c :=
  ⟨h.one.cell 0, h.one.cell 1, h.one.cell 2, h.two.cell 0, h.two.cell 1, h.two.cell 2, h.three.cell 0, h.three.cell 1, h.three.cell 2⟩
theorem cl3_new (w : World) (a b c : Cl) : Cl3 (((w.alloc (.cells #[.bool a.null, .int .i64 a.num, .string ⟨a.txt.toArray⟩] 23)).alloc (.cells #[.bool b.null, .int .i64 b.num, .string ⟨b.txt.toArray⟩] 23)).alloc (.cells #[.bool c.null, .int .i64 c.num, .string ⟨c.txt.toArray⟩] 23)) w.heap.size a b c := by
  refine ⟨((cl_new w a).fr ((Fr.refl Non _).alloc _) (fun e => e)).fr ((Fr.refl Non _).alloc _) (fun e => e), ?_, ?_⟩
  · have h := (cl_new (w.alloc (.cells #[.bool a.null, .int .i64 a.num, .string ⟨a.txt.toArray⟩] 23)) b).fr ((Fr.refl Non _).alloc (.cells #[.bool c.null, .int .i64 c.num, .string ⟨c.txt.toArray⟩] 23)) (fun e => e)
    rw [show (w.alloc (.cells #[.bool a.null, .int .i64 a.num, .string ⟨a.txt.toArray⟩] 23)).heap.size = w.heap.size + 1 by simp] at h
    exact h
  · have h := cl_new ((w.alloc (.cells #[.bool a.null, .int .i64 a.num, .string ⟨a.txt.toArray⟩] 23)).alloc (.cells #[.bool b.null, .int .i64 b.num, .string ⟨b.txt.toArray⟩] 23)) c
    rw [show ((w.alloc (.cells #[.bool a.null, .int .i64 a.num, .string ⟨a.txt.toArray⟩] 23)).alloc (.cells #[.bool b.null, .int .i64 b.num, .string ⟨b.txt.toArray⟩] 23)).heap.size = w.heap.size + 1 + 1 by simp] at h
    exact h

set_option maxHeartbeats 4000000 in
theorem cellOrders_walk (a b c : Cl) (w : World) :
    Calls Try.prog 3 #[clV a, clV b, clV c] w fun e w' => e = .returned (.bool true) ∧ Below w.heap.size w w' := by
  have H3 := cl3_new w a b c
  have HF0 := (((Fr.refl Non w).alloc (.cells #[.bool a.null, .int .i64 a.num, .string ⟨a.txt.toArray⟩] 23)).alloc (.cells #[.bool b.null, .int .i64 b.num, .string ⟨b.txt.toArray⟩] 23)).alloc (.cells #[.bool c.null, .int .i64 c.num, .string ⟨c.txt.toArray⟩] 23)
  have s1 := fun W => csmall_any a W
  have s2 := fun W => csmall_any b W
  have s3 := fun W => csmall_any c W
  unfold clV clC at *
  by_cases hs1 : a.txt.length ≤ 200
  · rw [decide_eq_true hs1] at s1
    by_cases hs2 : b.txt.length ≤ 200
    · rw [decide_eq_true hs2] at s2
      by_cases hs3 : c.txt.length ≤ 200
      · rw [decide_eq_true hs3] at s3
        clear hs1 hs2 hs3
        have q1 := fun W => run_eql_cl W a b
        have M1 := fun ty nl W => may_any ty nl a W
        have M2 := fun ty nl W => rmay_any ty nl a W
        have M3 := fun ty nl W => rmay_any ty nl b W
        have O1 := fun W => order_any a b W
        have O2 := fun W => order_any b c W
        have O3 := fun W => rorder_any a b W
        have O4 : ∀ W, Calls Try.prog 10 #[clV b, clV a] W fun e w' => e = .returned (.int .i64 (-ordC a b)) ∧ Fr Non W w' := fun W => by rw [← ordC_neg a b]; exact order_any b a W
        have O5 := fun W => csame_any a b W
        have O6 := fun W => order_any a c W
        unfold clV clC at M1 M2 M3 O1 O2 O3 O4 O5 O6
        have m1 := Lib.hid M1
        have m2 := Lib.hid M2
        have m3 := Lib.hid M3
        have o1 := Lib.hid O1
        have o2 := Lib.hid O2
        have o3 := Lib.hid O3
        have o4 := Lib.hid O4
        have o5 := Lib.hid O5
        have o6 := Lib.hid O6
        clear M1 M2 M3 O1 O2 O3 O4 O5 O6
        have HX := Lib.hid (ordC_range a b)
        have HZ := Lib.hid (ordC_zero a b)
        have HT := Lib.hid (fun h1 h2 => ordC_trans (a := a) (b := b) (c := c) h1 h2)
        generalize ordC a b = x at *
        generalize ordC b c = y at *
        generalize ordC a c = z at *
        generalize ceq a b = q at *
        go_enter Try.func3, Try.ntmps3
        go_wp2_with fail
        generalize ((w.alloc (.cells #[.bool a.null, .int .i64 a.num, .string ⟨a.txt.toArray⟩] 23)).alloc (.cells #[.bool b.null, .int .i64 b.num, .string ⟨b.txt.toArray⟩] 23)).alloc (.cells #[.bool c.null, .int .i64 c.num, .string ⟨c.txt.toArray⟩] 23) = W0 at *
        generalize hg : w.heap.size = g at *
        obtain ⟨a0, a1, a2, b0, b1, b2, d0, d1, d2⟩ := H3.cells
        refine (s1 _).mono ?_
        rintro e w1 ⟨rfl, f1⟩
        have hw1 := H3.non f1
        clear a0 a1 a2 b0 b1 b2 d0 d1 d2
        obtain ⟨a0, a1, a2, b0, b1, b2, d0, d1, d2⟩ := hw1.cells
        go_wp2_with fail
        refine (s2 _).mono ?_
        rintro e w2 ⟨rfl, f2⟩
        have hw2 := hw1.non f2
        clear a0 a1 a2 b0 b1 b2 d0 d1 d2
        obtain ⟨a0, a1, a2, b0, b1, b2, d0, d1, d2⟩ := hw2.cells
        go_wp2_with fail
        refine (s3 _).mono ?_
        rintro e w3 ⟨rfl, f3⟩
        have hw3 := hw2.non f3
        clear a0 a1 a2 b0 b1 b2 d0 d1 d2
        obtain ⟨a0, a1, a2, b0, b1, b2, d0, d1, d2⟩ := hw3.cells
        have hF3 := ((HF0.trans f1).trans f2).trans f3
        clear f1 f2 f3 hw1 hw2 H3 HF0 s1 s2 s3 a0 a1 a2 b0 b1 b2 d0 d1 d2
        go_wp2
        go_loopw [7] (fun i wr => ∃ k : Int, -1 ≤ k ∧ k ≤ 5 ∧ i = .int .i64 k ∧ Cl3 wr g a b c ∧ Fr Non w wr) (fun i _ => (5 - intOf i).toNat)
        case atStart => exact ⟨-1, by omega, by omega, rfl, hw3, hF3⟩
        case round =>
          obtain ⟨k, hk1, hk2, rfl, hc, hf⟩ := hrel
          obtain ⟨a0, a1, a2, b0, b1, b2, d0, d1, d2⟩ := hc.cells
          by_cases hk : k < 5
          · have e1 : ∀ nl, (mayC k nl a != mayC k nl a) = false := fun nl => by simp
            have n1 := e1 true
            have n2 := e1 false
            go_wp2
            have hcD : Cl3 wr.drew g a b c := ⟨hc.one, hc.two, hc.three⟩
            have hfD : Fr Non w wr.drew := hf.drew
            clear hc hf a0 a1 a2 b0 b1 b2 d0 d1 d2
            obtain ⟨a0, a1, a2, _⟩ := hcD.cells
            go_region_held3 (fun W => W.cell? ⟨g, 0, none⟩ = some (.bool a.null) ∧ W.cell? ⟨g, 1, none⟩ = some (.int .i64 a.num) ∧ W.cell? ⟨g, 2, none⟩ = some (.string ⟨a.txt.toArray⟩)) (first | exact ⟨a0, a1, a2⟩ | exact ⟨p0, p1, p2⟩ | exact ⟨q0, q1, q2⟩) (first | (go_at_call 8; refine (m1.out k _ _).mono ?_; rintro e w4 ⟨rfl, f4⟩; have hc4 : Cl3 w4 g a b c := (by first | exact hcD.non f4 | exact hc5.non f4); have hf4 : Fr Non w w4 := (by first | exact hfD.trans f4 | exact hf5.trans f4); obtain ⟨p0, p1, p2, _⟩ := hc4.cells) | (go_at_call 9; refine (m2.out k _ _).mono ?_; rintro e w5 ⟨rfl, f5⟩; have hc5 : Cl3 w5 g a b c := hc4.non f5; have hf5 : Fr Non w w5 := hf4.trans f5; obtain ⟨q0, q1, q2, _⟩ := hc5.cells))
            go_wp2
            go_roundw
            case rel => exact ⟨k + 1, by omega, by omega, by go_num, hc5, hf5⟩
            case measure => simp [intOf]; omega
          · have q5 : k = 5 := by omega
            go_wp2
            obtain ⟨x1, x2⟩ := HX.out
            have e1 : IntKind.i64.wrap (-x) = -x := IntWalk.i64_in _ ⟨by omega, by omega⟩
            have n1 : (-x != -x) = false := by simp
            have n2 : (x != x) = false := by simp
            have n3 : (q != q) = false := by simp
            have hcD : Cl3 wr.drew g a b c := ⟨hc.one, hc.two, hc.three⟩
            have hfD : Fr Non w wr.drew := hf.drew
            clear hc hf a0 a1 a2 b0 b1 b2 d0 d1 d2 x1 x2
            obtain ⟨a0, a1, a2, a3, a4, a5, a6, a7, a8⟩ := hcD.cells
            go_region_held3 (fun W => W.cell? ⟨g, 0, none⟩ = some (.bool a.null) ∧ W.cell? ⟨g, 1, none⟩ = some (.int .i64 a.num) ∧ W.cell? ⟨g, 2, none⟩ = some (.string ⟨a.txt.toArray⟩) ∧ W.cell? ⟨g + 1, 0, none⟩ = some (.bool b.null) ∧ W.cell? ⟨g + 1, 1, none⟩ = some (.int .i64 b.num) ∧ W.cell? ⟨g + 1, 2, none⟩ = some (.string ⟨b.txt.toArray⟩) ∧ W.cell? ⟨g + 1 + 1, 0, none⟩ = some (.bool c.null) ∧ W.cell? ⟨g + 1 + 1, 1, none⟩ = some (.int .i64 c.num) ∧ W.cell? ⟨g + 1 + 1, 2, none⟩ = some (.string ⟨c.txt.toArray⟩)) (first | exact ⟨a0, a1, a2, a3, a4, a5, a6, a7, a8⟩ | exact ⟨p0, p1, p2, p3, p4, p5, p6, p7, p8⟩ | exact ⟨r0, r1, r2, r3, r4, r5, r6, r7, r8⟩) (first | (go_at_call 10; (with_reducible refine (o1.out _).mono ?_); rintro e w4 ⟨rfl, f4⟩; have hc4 := hcD.non f4; obtain ⟨p0, p1, p2, p3, p4, p5, p6, p7, p8⟩ := hc4.cells) | (go_at_call 10; (with_reducible refine (o2.out _).mono ?_); rintro e w5 ⟨rfl, f5⟩; have hc5 := hc4.non f5; obtain ⟨r0, r1, r2, r3, r4, r5, r6, r7, r8⟩ := hc5.cells))
            have hcE : Cl3 w5.drew g a b c := ⟨hc5.one, hc5.two, hc5.three⟩
            have hfE : Fr Non w w5.drew := ((hfD.trans f4).trans f5).drew
            clear hcD hfD hc4 hc5 f4 f5 a0 p0 r0 a1 p1 r1 a2 p2 r2 a3 p3 r3 a4 p4 r4 a5 p5 r5 a6 p6 r6 a7 p7 r7 a8 p8 r8
            obtain ⟨a0, a1, a2, a3, a4, a5, a6, a7, a8⟩ := hcE.cells
            go_wp2
            go_region_held3 (fun W => W.cell? ⟨g, 0, none⟩ = some (.bool a.null) ∧ W.cell? ⟨g, 1, none⟩ = some (.int .i64 a.num) ∧ W.cell? ⟨g, 2, none⟩ = some (.string ⟨a.txt.toArray⟩) ∧ W.cell? ⟨g + 1, 0, none⟩ = some (.bool b.null) ∧ W.cell? ⟨g + 1, 1, none⟩ = some (.int .i64 b.num) ∧ W.cell? ⟨g + 1, 2, none⟩ = some (.string ⟨b.txt.toArray⟩)) (first | exact ⟨a0, a1, a2, a3, a4, a5⟩ | exact ⟨p0, p1, p2, p3, p4, p5⟩ | exact ⟨r0, r1, r2, r3, r4, r5⟩ | exact ⟨s0, s1, s2, s3, s4, s5⟩) (first | (go_at_call 11; (with_reducible refine (o3.out _).mono ?_); rintro e w6 ⟨rfl, f6⟩; have hc6 := hcE.non f6; obtain ⟨p0, p1, p2, p3, p4, p5, _⟩ := hc6.cells) | (go_at_call 10; (with_reducible refine (o4.out _).mono ?_); rintro e w7 ⟨rfl, f7⟩; have hc7 := hc6.non f7; obtain ⟨r0, r1, r2, r3, r4, r5, _⟩ := hc7.cells) | (go_at_call 12; (with_reducible refine (o5.out _).mono ?_); rintro e w8 ⟨rfl, f8⟩; have hc8 := hc7.non f8; obtain ⟨s0, s1, s2, s3, s4, s5, _⟩ := hc8.cells))
            have hfG := ((hfE.trans f6).trans f7).trans f8
            clear hcE hfE hc6 hc7 f6 f7 f8 p0 r0 s0 p1 r1 s1 p2 r2 s2 p3 r3 s3 p4 r4 s4 p5 r5 s5 a0 a1 a2 a3 a4 a5 a6 a7 a8
            obtain ⟨a0, a1, a2, a3, a4, a5, a6, a7, a8⟩ := hc8.cells
            have n4 : ((x == 0) == q) = true := by rw [HZ.out]; simp
            have m2' := fun W => m2.out 1 true W
            have m3' := fun W => m3.out 1 true W
            generalize mayC 1 true a = pa at *
            generalize mayC 1 true b = pb at *
            go_wp2_with fail
            cases pa
            · refine (m2' _).mono ?_
              rintro e w1 ⟨rfl, f1⟩
              have hc1 := hc8.non f1
              have hf1 := hfG.trans f1
              clear m2' m3' a0 a1 a2 a3 a4 a5 a6 a7 a8
              obtain ⟨a0, a1, a2, a3, a4, a5, a6, a7, a8⟩ := hc1.cells
              by_cases t1 : 0 < x
              · go_wp2_with fail
                refine (cellive_any _).mono ?_
                rintro e w9 ⟨rfl, f9⟩
                go_wp2
                go_ret
                exact ⟨rfl, (hf1.trans f9).below⟩
              · by_cases t2 : 0 < y
                · go_wp2_with fail
                  refine (cellive_any _).mono ?_
                  rintro e w9 ⟨rfl, f9⟩
                  go_wp2
                  go_ret
                  exact ⟨rfl, (hf1.trans f9).below⟩
                · have t3 : z ≤ 0 := HT.out (by omega) (by omega)
                  go_wp2_with fail
                  refine (o6.out _).mono ?_
                  rintro e w8 ⟨rfl, f8⟩
                  go_wp2_with fail
                  refine (cellive_any _).mono ?_
                  rintro e w9 ⟨rfl, f9⟩
                  go_wp2
                  go_ret
                  exact ⟨rfl, ((hf1.trans f8).trans f9).below⟩
            · refine (m2' _).mono ?_
              rintro e w1 ⟨rfl, f1⟩
              have hc1 := hc8.non f1
              have hf1 := hfG.trans f1
              clear m2' a0 a1 a2 a3 a4 a5 a6 a7 a8
              obtain ⟨a0, a1, a2, a3, a4, a5, a6, a7, a8⟩ := hc1.cells
              go_wp2_with fail
              cases pb
              all_goals
                refine (m3' _).mono ?_
                rintro e w2 ⟨rfl, f2⟩
                have hc2 := hc1.non f2
                have hf2 := hf1.trans f2
                clear m3' a0 a1 a2 a3 a4 a5 a6 a7 a8
                obtain ⟨a0, a1, a2, a3, a4, a5, a6, a7, a8⟩ := hc2.cells
                by_cases t1 : 0 < x
                · go_wp2_with fail
                  refine (cellive_any _).mono ?_
                  rintro e w9 ⟨rfl, f9⟩
                  go_wp2
                  go_ret
                  exact ⟨rfl, (hf2.trans f9).below⟩
                · by_cases t2 : 0 < y
                  · go_wp2_with fail
                    refine (cellive_any _).mono ?_
                    rintro e w9 ⟨rfl, f9⟩
                    go_wp2
                    go_ret
                    exact ⟨rfl, (hf2.trans f9).below⟩
                  · have t3 : z ≤ 0 := HT.out (by omega) (by omega)
                    go_wp2_with fail
                    refine (o6.out _).mono ?_
                    rintro e w8 ⟨rfl, f8⟩
                    go_wp2_with fail
                    refine (cellive_any _).mono ?_
                    rintro e w9 ⟨rfl, f9⟩
                    go_wp2
                    go_ret
                    exact ⟨rfl, ((hf2.trans f8).trans f9).below⟩
      · rw [decide_eq_false hs3] at s3
        clear hs1 hs2 hs3
        go_enter Try.func3, Try.ntmps3
        go_wp2_with fail
        generalize ((w.alloc (.cells #[.bool a.null, .int .i64 a.num, .string ⟨a.txt.toArray⟩] 23)).alloc (.cells #[.bool b.null, .int .i64 b.num, .string ⟨b.txt.toArray⟩] 23)).alloc (.cells #[.bool c.null, .int .i64 c.num, .string ⟨c.txt.toArray⟩] 23) = W0 at *
        generalize hg : w.heap.size = g at *
        obtain ⟨a0, a1, a2, b0, b1, b2, d0, d1, d2⟩ := H3.cells
        refine (s1 _).mono ?_
        rintro e w1 ⟨rfl, f1⟩
        have hw1 := H3.non f1
        clear a0 a1 a2 b0 b1 b2 d0 d1 d2
        obtain ⟨a0, a1, a2, b0, b1, b2, d0, d1, d2⟩ := hw1.cells
        go_wp2_with fail
        refine (s2 _).mono ?_
        rintro e w2 ⟨rfl, f2⟩
        have hw2 := hw1.non f2
        clear a0 a1 a2 b0 b1 b2 d0 d1 d2
        obtain ⟨a0, a1, a2, b0, b1, b2, d0, d1, d2⟩ := hw2.cells
        go_wp2_with fail
        refine (s3 _).mono ?_
        rintro e w3 ⟨rfl, f3⟩
        have hw3 := hw2.non f3
        clear a0 a1 a2 b0 b1 b2 d0 d1 d2
        obtain ⟨a0, a1, a2, b0, b1, b2, d0, d1, d2⟩ := hw3.cells
        have hF3 := ((HF0.trans f1).trans f2).trans f3
        go_wp2_with fail
        refine (cellive_any _).mono ?_
        rintro e w9 ⟨rfl, f9⟩
        go_wp2
        go_ret
        exact ⟨rfl, (hF3.trans f9).below⟩
    · rw [decide_eq_false hs2] at s2
      clear hs1 hs2
      go_enter Try.func3, Try.ntmps3
      go_wp2_with fail
      generalize ((w.alloc (.cells #[.bool a.null, .int .i64 a.num, .string ⟨a.txt.toArray⟩] 23)).alloc (.cells #[.bool b.null, .int .i64 b.num, .string ⟨b.txt.toArray⟩] 23)).alloc (.cells #[.bool c.null, .int .i64 c.num, .string ⟨c.txt.toArray⟩] 23) = W0 at *
      generalize hg : w.heap.size = g at *
      obtain ⟨a0, a1, a2, b0, b1, b2, d0, d1, d2⟩ := H3.cells
      refine (s1 _).mono ?_
      rintro e w1 ⟨rfl, f1⟩
      have hw1 := H3.non f1
      clear a0 a1 a2 b0 b1 b2 d0 d1 d2
      obtain ⟨a0, a1, a2, b0, b1, b2, d0, d1, d2⟩ := hw1.cells
      go_wp2_with fail
      refine (s2 _).mono ?_
      rintro e w2 ⟨rfl, f2⟩
      go_wp2_with fail
      refine (cellive_any _).mono ?_
      rintro e w9 ⟨rfl, f9⟩
      go_wp2
      go_ret
      exact ⟨rfl, (((HF0.trans f1).trans f2).trans f9).below⟩
  · rw [decide_eq_false hs1] at s1
    clear hs1
    go_enter Try.func3, Try.ntmps3
    go_wp2_with fail
    generalize ((w.alloc (.cells #[.bool a.null, .int .i64 a.num, .string ⟨a.txt.toArray⟩] 23)).alloc (.cells #[.bool b.null, .int .i64 b.num, .string ⟨b.txt.toArray⟩] 23)).alloc (.cells #[.bool c.null, .int .i64 c.num, .string ⟨c.txt.toArray⟩] 23) = W0 at *
    generalize hg : w.heap.size = g at *
    obtain ⟨a0, a1, a2, b0, b1, b2, d0, d1, d2⟩ := H3.cells
    refine (s1 _).mono ?_
    rintro e w1 ⟨rfl, f1⟩
    have hw1 := H3.non f1
    clear a0 a1 a2 b0 b1 b2 d0 d1 d2
    obtain ⟨a0, a1, a2, b0, b1, b2, d0, d1, d2⟩ := hw1.cells
    go_wp2_with fail
    refine (cellive_any _).mono ?_
    rintro e w9 ⟨rfl, f9⟩
    go_wp2
    go_ret
    exact ⟨rfl, ((HF0.trans f1).trans f9).below⟩
end Go.Proofs.Ytkmgplgokhjmjaa
