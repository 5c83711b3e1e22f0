/-
  Layer 9: the walk of the law on any.
-/
import Derived.Test.YtkmgplgokhjmjaaCell7
import Derived.Deep.QuietTactic
import Derived.BigQuiet
namespace Go.Proofs.Ytkmgplgokhjmjaa
set_option linter.unusedVariables false
set_option linter.unusedSimpArgs false
set_option maxRecDepth 100000
open Go.RowKit

/-- a value of each type: what a walk asks of it -/
abbrev VaB (w : World) (g : Nat) (n : Int) (b : Bool) (s : List UInt8) : Prop := Blk w g 43 #[.int .i64 n, .bool b, .string ⟨s.toArray⟩]
theorem two_new (w : World) (c : Cl) (n : Int) (b : Bool) (s : List UInt8) (W : World) (hW : W = (w.alloc (.cells #[.bool c.null, .int .i64 c.num, .string ⟨c.txt.toArray⟩] 23)).alloc (.cells #[.int .i64 n, .bool b, .string ⟨s.toArray⟩] 43)) :
    ClB W w.heap.size c ∧ VaB W (w.heap.size + 1) n b s ∧ Fr Non w W := by
  subst hW
  refine ⟨(cl_new w c).fr ((Fr.refl Non _).alloc _) (fun e => e), ?_, ((Fr.refl _ _).alloc _).alloc _⟩
  have h := Blk.new (w.alloc (.cells #[.bool c.null, .int .i64 c.num, .string ⟨c.txt.toArray⟩] 23)) 43 #[.int .i64 n, .bool b, .string ⟨s.toArray⟩]
  rw [show (w.alloc (.cells #[.bool c.null, .int .i64 c.num, .string ⟨c.txt.toArray⟩] 23)).heap.size = w.heap.size + 1 by simp] at h
  exact h

set_option maxHeartbeats 4000000 in
theorem cellAny_walk (ty : Int) (c : Cl) (n : Int) (b : Bool) (s : List UInt8) (w : World) :
    Calls Try.prog 5 #[.int .i64 ty, clV c, .agg #[.int .i64 n, .bool b, .string ⟨s.toArray⟩]] w fun e w' => e = .returned (.bool true) ∧ Below w.heap.size w w' := by
  have H0 := two_new w c n b s
  have hl := slen s
  have s1 := fun W => csmall_any c W
  have A1 := fun W => ato_any ty c W
  have A2 := fun W => afrom_any (toA ty c) W
  have i1 := Lib.hid (fun W => cint_any n W)
  have i2 := Lib.hid (fun W => cbool_any b W)
  have i3 := Lib.hid (fun W => ctext_any s W)
  have i4' := fun v W => afrom_any (.bytes v) W
  simp only [anV, anC] at i4'
  unfold clV clC at i4'
  try dsimp only at i4'
  have i4 := Lib.hid i4'
  clear i4'
  have q1 := fun W cc => run_neq_cl W cc cc
  simp only [ceq_self] at q1
  obtain ⟨N, I, X⟩ := c
  unfold clV clC at *
  dsimp only at H0 s1
  by_cases hs1 : X.length ≤ 200
  · rw [decide_eq_true hs1] at s1
    clear hs1
    by_cases hs2 : s.length ≤ 200
    · cases N
      · by_cases h1 : ty = 1
        · subst h1
          have HA : toA 1 ⟨false, I, X⟩ = .int I := rfl
          rw [HA] at A1 A2
          simp only [anV, anC] at A1 A2
          try dsimp only at A1 A2
          go_enter Try.func5, Try.ntmps5
          go_wp2
          generalize hW0 : (w.alloc (.cells #[.bool false, .int .i64 I, .string ⟨X.toArray⟩] 23)).alloc (.cells #[.int .i64 n, .bool b, .string ⟨s.toArray⟩] 43) = W0 at *
          obtain ⟨hc0, hv0, f0⟩ := H0 W0 rfl
          generalize hg : w.heap.size = g at *
          obtain ⟨v0, v1, v2⟩ := (show W0.cell? ⟨g + 1, 0, none⟩ = some (.int .i64 n) ∧ W0.cell? ⟨g + 1, 1, none⟩ = some (.bool b) ∧ W0.cell? ⟨g + 1, 2, none⟩ = some (.string ⟨s.toArray⟩) from ⟨hv0.cell 0, hv0.cell 1, hv0.cell 2⟩)
          clear hW0 H0
          go_quiet (fail)
          have hcq : ClB (W0.drewN nq) g _ := hc0
          have fq : Fr Non w (W0.drewN nq) := f0.drewN nq
          generalize W0.drewN nq = W1 at *
          clear hc0 hv0 f0 v0 v1 v2
          obtain ⟨a0, a1, a2, _⟩ := hcq.facts
          dsimp only at a0 a1 a2
          go_wp2_with fail
          refine (s1 _).mono ?_
          rintro e w1 ⟨rfl, f1⟩
          have hc1 : ClB w1 g _ := hcq.fr f1 (fun e => e)
          have F1 := fq.trans f1
          clear a0 a1 a2 hcq fq f1
          obtain ⟨a0, a1, a2, _⟩ := hc1.facts
          dsimp only at a0 a1 a2
          go_wp2_with fail
          refine (A1 _).mono ?_
          rintro e w2 ⟨rfl, f2⟩
          go_wp2_with fail
          refine (A2 _).mono ?_
          rintro e w3 ⟨rfl, f3⟩
          have hc3 : ClB w3 g _ := (hc1.fr f2 (fun e => e)).fr f3 (fun e => e)
          have F3 := (F1.trans f2).trans f3
          clear a0 a1 a2
          have b0 : ∀ o p, ((w3.alloc o).alloc p).cell? ⟨g, 0, none⟩ = _ := fun o p => ((hc3.fr ((Fr.refl Non _).alloc o) (fun e => e)).fr ((Fr.refl Non _).alloc p) (fun e => e)).cell 0
          have b1 : ∀ o p, ((w3.alloc o).alloc p).cell? ⟨g, 1, none⟩ = _ := fun o p => ((hc3.fr ((Fr.refl Non _).alloc o) (fun e => e)).fr ((Fr.refl Non _).alloc p) (fun e => e)).cell 1
          have b2 : ∀ o p, ((w3.alloc o).alloc p).cell? ⟨g, 2, none⟩ = _ := fun o p => ((hc3.fr ((Fr.refl Non _).alloc o) (fun e => e)).fr ((Fr.refl Non _).alloc p) (fun e => e)).cell 2
          have q2 := fun W => q1 W ⟨false, I, []⟩
          dsimp only at b0 b1 b2 q2
          go_wp2_with (refine wpList_strbytes rfl _ rfl s rfl ?_; intro v5 w5 hbs5 hf5 hn5)
          refine (i4.out v5 _).mono ?_
          rintro e w6 ⟨rfl, f6⟩
          have F6 := (((F3.alloc _).alloc _).trans hf5).trans f6
          have F7 := F6.alloc (.cells #[.bool false, .int .i64 0, .string ⟨([] : List UInt8).toArray⟩] 23)
          clear b0 b1 b2 F3 F6 hf5 f6 hbs5 hn5
          go_wp2_with fail
          refine (i1.out _).mono ?_
          rintro e w7 ⟨rfl, rfl⟩
          go_wp2_with fail
          refine (i2.out _).mono ?_
          rintro e w7 ⟨rfl, rfl⟩
          go_wp2_with fail
          refine (i3.out _).mono ?_
          rintro e w7 ⟨rfl, rfl⟩
          go_wp2_with fail
          refine (cellive_any _).mono ?_
          rintro e w9 ⟨rfl, f9⟩
          go_wp2
          go_ret
          exact ⟨rfl, (F7.trans f9).below⟩
        · by_cases h2 : ty = 2
          · subst h2
            by_cases hI : I = 0
            · subst hI
              have HA : toA 2 ⟨false, 0, X⟩ = .bool false := rfl
              rw [HA] at A1 A2
              simp only [anV, anC] at A1 A2
              try dsimp only at A1 A2
              simp only [bitI, Bool.false_eq_true, if_false] at A2
              go_enter Try.func5, Try.ntmps5
              go_wp2
              generalize hW0 : (w.alloc (.cells #[.bool false, .int .i64 0, .string ⟨X.toArray⟩] 23)).alloc (.cells #[.int .i64 n, .bool b, .string ⟨s.toArray⟩] 43) = W0 at *
              obtain ⟨hc0, hv0, f0⟩ := H0 W0 rfl
              generalize hg : w.heap.size = g at *
              obtain ⟨v0, v1, v2⟩ := (show W0.cell? ⟨g + 1, 0, none⟩ = some (.int .i64 n) ∧ W0.cell? ⟨g + 1, 1, none⟩ = some (.bool b) ∧ W0.cell? ⟨g + 1, 2, none⟩ = some (.string ⟨s.toArray⟩) from ⟨hv0.cell 0, hv0.cell 1, hv0.cell 2⟩)
              clear hW0 H0
              go_quiet (fail)
              have hcq : ClB (W0.drewN nq) g _ := hc0
              have fq : Fr Non w (W0.drewN nq) := f0.drewN nq
              generalize W0.drewN nq = W1 at *
              clear hc0 hv0 f0 v0 v1 v2
              obtain ⟨a0, a1, a2, _⟩ := hcq.facts
              dsimp only at a0 a1 a2
              go_wp2_with fail
              refine (s1 _).mono ?_
              rintro e w1 ⟨rfl, f1⟩
              have hc1 : ClB w1 g _ := hcq.fr f1 (fun e => e)
              have F1 := fq.trans f1
              clear a0 a1 a2 hcq fq f1
              obtain ⟨a0, a1, a2, _⟩ := hc1.facts
              dsimp only at a0 a1 a2
              go_wp2_with fail
              refine (A1 _).mono ?_
              rintro e w2 ⟨rfl, f2⟩
              go_wp2_with fail
              refine (A2 _).mono ?_
              rintro e w3 ⟨rfl, f3⟩
              have hc3 : ClB w3 g _ := (hc1.fr f2 (fun e => e)).fr f3 (fun e => e)
              have F3 := (F1.trans f2).trans f3
              clear a0 a1 a2
              have b0 : ∀ o p, ((w3.alloc o).alloc p).cell? ⟨g, 0, none⟩ = _ := fun o p => ((hc3.fr ((Fr.refl Non _).alloc o) (fun e => e)).fr ((Fr.refl Non _).alloc p) (fun e => e)).cell 0
              have b1 : ∀ o p, ((w3.alloc o).alloc p).cell? ⟨g, 1, none⟩ = _ := fun o p => ((hc3.fr ((Fr.refl Non _).alloc o) (fun e => e)).fr ((Fr.refl Non _).alloc p) (fun e => e)).cell 1
              have b2 : ∀ o p, ((w3.alloc o).alloc p).cell? ⟨g, 2, none⟩ = _ := fun o p => ((hc3.fr ((Fr.refl Non _).alloc o) (fun e => e)).fr ((Fr.refl Non _).alloc p) (fun e => e)).cell 2
              have q2 := fun W => q1 W ⟨false, 0, []⟩
              dsimp only at b0 b1 b2 q2
              go_wp2_with (refine wpList_strbytes rfl _ rfl s rfl ?_; intro v5 w5 hbs5 hf5 hn5)
              refine (i4.out v5 _).mono ?_
              rintro e w6 ⟨rfl, f6⟩
              have F6 := (((F3.alloc _).alloc _).trans hf5).trans f6
              have F7 := F6.alloc (.cells #[.bool false, .int .i64 0, .string ⟨([] : List UInt8).toArray⟩] 23)
              clear b0 b1 b2 F3 F6 hf5 f6 hbs5 hn5
              go_wp2_with fail
              refine (i1.out _).mono ?_
              rintro e w7 ⟨rfl, rfl⟩
              go_wp2_with fail
              refine (i2.out _).mono ?_
              rintro e w7 ⟨rfl, rfl⟩
              go_wp2_with fail
              refine (i3.out _).mono ?_
              rintro e w7 ⟨rfl, rfl⟩
              go_wp2_with fail
              refine (cellive_any _).mono ?_
              rintro e w9 ⟨rfl, f9⟩
              go_wp2
              go_ret
              exact ⟨rfl, (F7.trans f9).below⟩
            · have hI1 : (I != 0) = true := by simpa using hI
              have HA : toA 2 ⟨false, I, X⟩ = .bool true := by simp [toA, hI]
              rw [HA] at A1 A2
              simp only [anV, anC] at A1 A2
              try dsimp only at A1 A2
              simp only [bitI, if_true] at A2
              go_enter Try.func5, Try.ntmps5
              go_wp2
              generalize hW0 : (w.alloc (.cells #[.bool false, .int .i64 I, .string ⟨X.toArray⟩] 23)).alloc (.cells #[.int .i64 n, .bool b, .string ⟨s.toArray⟩] 43) = W0 at *
              obtain ⟨hc0, hv0, f0⟩ := H0 W0 rfl
              generalize hg : w.heap.size = g at *
              obtain ⟨v0, v1, v2⟩ := (show W0.cell? ⟨g + 1, 0, none⟩ = some (.int .i64 n) ∧ W0.cell? ⟨g + 1, 1, none⟩ = some (.bool b) ∧ W0.cell? ⟨g + 1, 2, none⟩ = some (.string ⟨s.toArray⟩) from ⟨hv0.cell 0, hv0.cell 1, hv0.cell 2⟩)
              clear hW0 H0
              go_quiet (fail)
              have hcq : ClB (W0.drewN nq) g _ := hc0
              have fq : Fr Non w (W0.drewN nq) := f0.drewN nq
              generalize W0.drewN nq = W1 at *
              clear hc0 hv0 f0 v0 v1 v2
              obtain ⟨a0, a1, a2, _⟩ := hcq.facts
              dsimp only at a0 a1 a2
              go_wp2_with fail
              refine (s1 _).mono ?_
              rintro e w1 ⟨rfl, f1⟩
              have hc1 : ClB w1 g _ := hcq.fr f1 (fun e => e)
              have F1 := fq.trans f1
              clear a0 a1 a2 hcq fq f1
              obtain ⟨a0, a1, a2, _⟩ := hc1.facts
              dsimp only at a0 a1 a2
              go_wp2_with fail
              refine (A1 _).mono ?_
              rintro e w2 ⟨rfl, f2⟩
              go_wp2_with fail
              refine (A2 _).mono ?_
              rintro e w3 ⟨rfl, f3⟩
              have hc3 : ClB w3 g _ := (hc1.fr f2 (fun e => e)).fr f3 (fun e => e)
              have F3 := (F1.trans f2).trans f3
              clear a0 a1 a2
              have b0 : ∀ o p, ((w3.alloc o).alloc p).cell? ⟨g, 0, none⟩ = _ := fun o p => ((hc3.fr ((Fr.refl Non _).alloc o) (fun e => e)).fr ((Fr.refl Non _).alloc p) (fun e => e)).cell 0
              have b1 : ∀ o p, ((w3.alloc o).alloc p).cell? ⟨g, 1, none⟩ = _ := fun o p => ((hc3.fr ((Fr.refl Non _).alloc o) (fun e => e)).fr ((Fr.refl Non _).alloc p) (fun e => e)).cell 1
              have b2 : ∀ o p, ((w3.alloc o).alloc p).cell? ⟨g, 2, none⟩ = _ := fun o p => ((hc3.fr ((Fr.refl Non _).alloc o) (fun e => e)).fr ((Fr.refl Non _).alloc p) (fun e => e)).cell 2
              have q2 := fun W => q1 W ⟨false, 1, []⟩
              dsimp only at b0 b1 b2 q2
              go_wp2_with (refine wpList_strbytes rfl _ rfl s rfl ?_; intro v5 w5 hbs5 hf5 hn5)
              refine (i4.out v5 _).mono ?_
              rintro e w6 ⟨rfl, f6⟩
              have F6 := (((F3.alloc _).alloc _).trans hf5).trans f6
              have F7 := F6.alloc (.cells #[.bool false, .int .i64 0, .string ⟨([] : List UInt8).toArray⟩] 23)
              clear b0 b1 b2 F3 F6 hf5 f6 hbs5 hn5
              go_wp2_with fail
              refine (i1.out _).mono ?_
              rintro e w7 ⟨rfl, rfl⟩
              go_wp2_with fail
              refine (i2.out _).mono ?_
              rintro e w7 ⟨rfl, rfl⟩
              go_wp2_with fail
              refine (i3.out _).mono ?_
              rintro e w7 ⟨rfl, rfl⟩
              go_wp2_with fail
              refine (cellive_any _).mono ?_
              rintro e w9 ⟨rfl, f9⟩
              go_wp2
              go_ret
              exact ⟨rfl, (F7.trans f9).below⟩
          · by_cases h3 : ty = 3
            · subst h3
              have HA : toA 3 ⟨false, I, X⟩ = .text X := rfl
              rw [HA] at A1 A2
              simp only [anV, anC] at A1 A2
              try dsimp only at A1 A2
              go_enter Try.func5, Try.ntmps5
              go_wp2
              generalize hW0 : (w.alloc (.cells #[.bool false, .int .i64 I, .string ⟨X.toArray⟩] 23)).alloc (.cells #[.int .i64 n, .bool b, .string ⟨s.toArray⟩] 43) = W0 at *
              obtain ⟨hc0, hv0, f0⟩ := H0 W0 rfl
              generalize hg : w.heap.size = g at *
              obtain ⟨v0, v1, v2⟩ := (show W0.cell? ⟨g + 1, 0, none⟩ = some (.int .i64 n) ∧ W0.cell? ⟨g + 1, 1, none⟩ = some (.bool b) ∧ W0.cell? ⟨g + 1, 2, none⟩ = some (.string ⟨s.toArray⟩) from ⟨hv0.cell 0, hv0.cell 1, hv0.cell 2⟩)
              clear hW0 H0
              go_quiet (fail)
              have hcq : ClB (W0.drewN nq) g _ := hc0
              have fq : Fr Non w (W0.drewN nq) := f0.drewN nq
              generalize W0.drewN nq = W1 at *
              clear hc0 hv0 f0 v0 v1 v2
              obtain ⟨a0, a1, a2, _⟩ := hcq.facts
              dsimp only at a0 a1 a2
              go_wp2_with fail
              refine (s1 _).mono ?_
              rintro e w1 ⟨rfl, f1⟩
              have hc1 : ClB w1 g _ := hcq.fr f1 (fun e => e)
              have F1 := fq.trans f1
              clear a0 a1 a2 hcq fq f1
              obtain ⟨a0, a1, a2, _⟩ := hc1.facts
              dsimp only at a0 a1 a2
              go_wp2_with fail
              refine (A1 _).mono ?_
              rintro e w2 ⟨rfl, f2⟩
              go_wp2_with fail
              refine (A2 _).mono ?_
              rintro e w3 ⟨rfl, f3⟩
              have hc3 : ClB w3 g _ := (hc1.fr f2 (fun e => e)).fr f3 (fun e => e)
              have F3 := (F1.trans f2).trans f3
              clear a0 a1 a2
              have b0 : ∀ o p, ((w3.alloc o).alloc p).cell? ⟨g, 0, none⟩ = _ := fun o p => ((hc3.fr ((Fr.refl Non _).alloc o) (fun e => e)).fr ((Fr.refl Non _).alloc p) (fun e => e)).cell 0
              have b1 : ∀ o p, ((w3.alloc o).alloc p).cell? ⟨g, 1, none⟩ = _ := fun o p => ((hc3.fr ((Fr.refl Non _).alloc o) (fun e => e)).fr ((Fr.refl Non _).alloc p) (fun e => e)).cell 1
              have b2 : ∀ o p, ((w3.alloc o).alloc p).cell? ⟨g, 2, none⟩ = _ := fun o p => ((hc3.fr ((Fr.refl Non _).alloc o) (fun e => e)).fr ((Fr.refl Non _).alloc p) (fun e => e)).cell 2
              have q2 := fun W => q1 W ⟨false, 0, X⟩
              dsimp only at b0 b1 b2 q2
              go_wp2_with (refine wpList_strbytes rfl _ rfl s rfl ?_; intro v5 w5 hbs5 hf5 hn5)
              refine (i4.out v5 _).mono ?_
              rintro e w6 ⟨rfl, f6⟩
              have F6 := (((F3.alloc _).alloc _).trans hf5).trans f6
              have F7 := F6.alloc (.cells #[.bool false, .int .i64 0, .string ⟨([] : List UInt8).toArray⟩] 23)
              clear b0 b1 b2 F3 F6 hf5 f6 hbs5 hn5
              go_wp2_with fail
              refine (i1.out _).mono ?_
              rintro e w7 ⟨rfl, rfl⟩
              go_wp2_with fail
              refine (i2.out _).mono ?_
              rintro e w7 ⟨rfl, rfl⟩
              go_wp2_with fail
              refine (i3.out _).mono ?_
              rintro e w7 ⟨rfl, rfl⟩
              go_wp2_with fail
              refine (cellive_any _).mono ?_
              rintro e w9 ⟨rfl, f9⟩
              go_wp2
              go_ret
              exact ⟨rfl, (F7.trans f9).below⟩
            · by_cases h4 : ty < 1
              · have h5 : ¬ 1 ≤ ty := by omega
                have HA : toA ty ⟨false, I, X⟩ = .nil := by simp [toA, h1, h2, h3]
                rw [HA] at A1 A2
                simp only [anV, anC] at A1 A2
                try dsimp only at A1 A2
                go_enter Try.func5, Try.ntmps5
                go_wp2
                generalize hW0 : (w.alloc (.cells #[.bool false, .int .i64 I, .string ⟨X.toArray⟩] 23)).alloc (.cells #[.int .i64 n, .bool b, .string ⟨s.toArray⟩] 43) = W0 at *
                obtain ⟨hc0, hv0, f0⟩ := H0 W0 rfl
                generalize hg : w.heap.size = g at *
                obtain ⟨v0, v1, v2⟩ := (show W0.cell? ⟨g + 1, 0, none⟩ = some (.int .i64 n) ∧ W0.cell? ⟨g + 1, 1, none⟩ = some (.bool b) ∧ W0.cell? ⟨g + 1, 2, none⟩ = some (.string ⟨s.toArray⟩) from ⟨hv0.cell 0, hv0.cell 1, hv0.cell 2⟩)
                clear hW0 H0
                go_quiet (fail)
                have hcq : ClB (W0.drewN nq) g _ := hc0
                have fq : Fr Non w (W0.drewN nq) := f0.drewN nq
                generalize W0.drewN nq = W1 at *
                clear hc0 hv0 f0 v0 v1 v2
                obtain ⟨a0, a1, a2, _⟩ := hcq.facts
                dsimp only at a0 a1 a2
                go_wp2_with fail
                refine (s1 _).mono ?_
                rintro e w1 ⟨rfl, f1⟩
                have hc1 : ClB w1 g _ := hcq.fr f1 (fun e => e)
                have F1 := fq.trans f1
                clear a0 a1 a2 hcq fq f1
                obtain ⟨a0, a1, a2, _⟩ := hc1.facts
                dsimp only at a0 a1 a2
                go_wp2_with fail
                refine (A1 _).mono ?_
                rintro e w2 ⟨rfl, f2⟩
                go_wp2_with fail
                refine (A2 _).mono ?_
                rintro e w3 ⟨rfl, f3⟩
                have hc3 : ClB w3 g _ := (hc1.fr f2 (fun e => e)).fr f3 (fun e => e)
                have F3 := (F1.trans f2).trans f3
                clear a0 a1 a2
                have b0 : ∀ o p, ((w3.alloc o).alloc p).cell? ⟨g, 0, none⟩ = _ := fun o p => ((hc3.fr ((Fr.refl Non _).alloc o) (fun e => e)).fr ((Fr.refl Non _).alloc p) (fun e => e)).cell 0
                have b1 : ∀ o p, ((w3.alloc o).alloc p).cell? ⟨g, 1, none⟩ = _ := fun o p => ((hc3.fr ((Fr.refl Non _).alloc o) (fun e => e)).fr ((Fr.refl Non _).alloc p) (fun e => e)).cell 1
                have b2 : ∀ o p, ((w3.alloc o).alloc p).cell? ⟨g, 2, none⟩ = _ := fun o p => ((hc3.fr ((Fr.refl Non _).alloc o) (fun e => e)).fr ((Fr.refl Non _).alloc p) (fun e => e)).cell 2
                have q2 := fun W => q1 W ⟨true, 0, []⟩
                dsimp only at b0 b1 b2 q2
                go_wp2_with (refine wpList_strbytes rfl _ rfl s rfl ?_; intro v5 w5 hbs5 hf5 hn5)
                refine (i4.out v5 _).mono ?_
                rintro e w6 ⟨rfl, f6⟩
                have F6 := (((F3.alloc _).alloc _).trans hf5).trans f6
                have F7 := F6.alloc (.cells #[.bool false, .int .i64 0, .string ⟨([] : List UInt8).toArray⟩] 23)
                clear b0 b1 b2 F3 F6 hf5 f6 hbs5 hn5
                go_wp2_with fail
                refine (i1.out _).mono ?_
                rintro e w7 ⟨rfl, rfl⟩
                go_wp2_with fail
                refine (i2.out _).mono ?_
                rintro e w7 ⟨rfl, rfl⟩
                go_wp2_with fail
                refine (i3.out _).mono ?_
                rintro e w7 ⟨rfl, rfl⟩
                go_wp2_with fail
                refine (cellive_any _).mono ?_
                rintro e w9 ⟨rfl, f9⟩
                go_wp2
                go_ret
                exact ⟨rfl, (F7.trans f9).below⟩
              · have h5 : 3 < ty := by omega
                have HA : toA ty ⟨false, I, X⟩ = .nil := by simp [toA, h1, h2, h3]
                rw [HA] at A1 A2
                simp only [anV, anC] at A1 A2
                try dsimp only at A1 A2
                go_enter Try.func5, Try.ntmps5
                go_wp2
                generalize hW0 : (w.alloc (.cells #[.bool false, .int .i64 I, .string ⟨X.toArray⟩] 23)).alloc (.cells #[.int .i64 n, .bool b, .string ⟨s.toArray⟩] 43) = W0 at *
                obtain ⟨hc0, hv0, f0⟩ := H0 W0 rfl
                generalize hg : w.heap.size = g at *
                obtain ⟨v0, v1, v2⟩ := (show W0.cell? ⟨g + 1, 0, none⟩ = some (.int .i64 n) ∧ W0.cell? ⟨g + 1, 1, none⟩ = some (.bool b) ∧ W0.cell? ⟨g + 1, 2, none⟩ = some (.string ⟨s.toArray⟩) from ⟨hv0.cell 0, hv0.cell 1, hv0.cell 2⟩)
                clear hW0 H0
                go_quiet (fail)
                have hcq : ClB (W0.drewN nq) g _ := hc0
                have fq : Fr Non w (W0.drewN nq) := f0.drewN nq
                generalize W0.drewN nq = W1 at *
                clear hc0 hv0 f0 v0 v1 v2
                obtain ⟨a0, a1, a2, _⟩ := hcq.facts
                dsimp only at a0 a1 a2
                go_wp2_with fail
                refine (s1 _).mono ?_
                rintro e w1 ⟨rfl, f1⟩
                have hc1 : ClB w1 g _ := hcq.fr f1 (fun e => e)
                have F1 := fq.trans f1
                clear a0 a1 a2 hcq fq f1
                obtain ⟨a0, a1, a2, _⟩ := hc1.facts
                dsimp only at a0 a1 a2
                go_wp2_with fail
                refine (A1 _).mono ?_
                rintro e w2 ⟨rfl, f2⟩
                go_wp2_with fail
                refine (A2 _).mono ?_
                rintro e w3 ⟨rfl, f3⟩
                have hc3 : ClB w3 g _ := (hc1.fr f2 (fun e => e)).fr f3 (fun e => e)
                have F3 := (F1.trans f2).trans f3
                clear a0 a1 a2
                have b0 : ∀ o p, ((w3.alloc o).alloc p).cell? ⟨g, 0, none⟩ = _ := fun o p => ((hc3.fr ((Fr.refl Non _).alloc o) (fun e => e)).fr ((Fr.refl Non _).alloc p) (fun e => e)).cell 0
                have b1 : ∀ o p, ((w3.alloc o).alloc p).cell? ⟨g, 1, none⟩ = _ := fun o p => ((hc3.fr ((Fr.refl Non _).alloc o) (fun e => e)).fr ((Fr.refl Non _).alloc p) (fun e => e)).cell 1
                have b2 : ∀ o p, ((w3.alloc o).alloc p).cell? ⟨g, 2, none⟩ = _ := fun o p => ((hc3.fr ((Fr.refl Non _).alloc o) (fun e => e)).fr ((Fr.refl Non _).alloc p) (fun e => e)).cell 2
                have q2 := fun W => q1 W ⟨true, 0, []⟩
                dsimp only at b0 b1 b2 q2
                go_wp2_with (refine wpList_strbytes rfl _ rfl s rfl ?_; intro v5 w5 hbs5 hf5 hn5)
                refine (i4.out v5 _).mono ?_
                rintro e w6 ⟨rfl, f6⟩
                have F6 := (((F3.alloc _).alloc _).trans hf5).trans f6
                have F7 := F6.alloc (.cells #[.bool false, .int .i64 0, .string ⟨([] : List UInt8).toArray⟩] 23)
                clear b0 b1 b2 F3 F6 hf5 f6 hbs5 hn5
                go_wp2_with fail
                refine (i1.out _).mono ?_
                rintro e w7 ⟨rfl, rfl⟩
                go_wp2_with fail
                refine (i2.out _).mono ?_
                rintro e w7 ⟨rfl, rfl⟩
                go_wp2_with fail
                refine (i3.out _).mono ?_
                rintro e w7 ⟨rfl, rfl⟩
                go_wp2_with fail
                refine (cellive_any _).mono ?_
                rintro e w9 ⟨rfl, f9⟩
                go_wp2
                go_ret
                exact ⟨rfl, (F7.trans f9).below⟩
      · have HA : toA ty ⟨true, I, X⟩ = .nil := by simp [toA]
        rw [HA] at A1 A2
        simp only [anV, anC] at A1 A2
        try dsimp only at A1 A2
        go_enter Try.func5, Try.ntmps5
        go_wp2
        generalize hW0 : (w.alloc (.cells #[.bool true, .int .i64 I, .string ⟨X.toArray⟩] 23)).alloc (.cells #[.int .i64 n, .bool b, .string ⟨s.toArray⟩] 43) = W0 at *
        obtain ⟨hc0, hv0, f0⟩ := H0 W0 rfl
        generalize hg : w.heap.size = g at *
        obtain ⟨v0, v1, v2⟩ := (show W0.cell? ⟨g + 1, 0, none⟩ = some (.int .i64 n) ∧ W0.cell? ⟨g + 1, 1, none⟩ = some (.bool b) ∧ W0.cell? ⟨g + 1, 2, none⟩ = some (.string ⟨s.toArray⟩) from ⟨hv0.cell 0, hv0.cell 1, hv0.cell 2⟩)
        clear hW0 H0
        go_quiet (fail)
        have hcq : ClB (W0.drewN nq) g _ := hc0
        have fq : Fr Non w (W0.drewN nq) := f0.drewN nq
        generalize W0.drewN nq = W1 at *
        clear hc0 hv0 f0 v0 v1 v2
        obtain ⟨a0, a1, a2, _⟩ := hcq.facts
        dsimp only at a0 a1 a2
        go_wp2_with fail
        refine (s1 _).mono ?_
        rintro e w1 ⟨rfl, f1⟩
        have hc1 : ClB w1 g _ := hcq.fr f1 (fun e => e)
        have F1 := fq.trans f1
        clear a0 a1 a2 hcq fq f1
        obtain ⟨a0, a1, a2, _⟩ := hc1.facts
        dsimp only at a0 a1 a2
        go_wp2_with fail
        refine (A1 _).mono ?_
        rintro e w2 ⟨rfl, f2⟩
        go_wp2_with fail
        refine (A2 _).mono ?_
        rintro e w3 ⟨rfl, f3⟩
        have hc3 : ClB w3 g _ := (hc1.fr f2 (fun e => e)).fr f3 (fun e => e)
        have F3 := (F1.trans f2).trans f3
        clear a0 a1 a2
        have b0 : ∀ o p, ((w3.alloc o).alloc p).cell? ⟨g, 0, none⟩ = _ := fun o p => ((hc3.fr ((Fr.refl Non _).alloc o) (fun e => e)).fr ((Fr.refl Non _).alloc p) (fun e => e)).cell 0
        have b1 : ∀ o p, ((w3.alloc o).alloc p).cell? ⟨g, 1, none⟩ = _ := fun o p => ((hc3.fr ((Fr.refl Non _).alloc o) (fun e => e)).fr ((Fr.refl Non _).alloc p) (fun e => e)).cell 1
        have b2 : ∀ o p, ((w3.alloc o).alloc p).cell? ⟨g, 2, none⟩ = _ := fun o p => ((hc3.fr ((Fr.refl Non _).alloc o) (fun e => e)).fr ((Fr.refl Non _).alloc p) (fun e => e)).cell 2
        have q2 := fun W => q1 W ⟨true, 0, []⟩
        dsimp only at b0 b1 b2 q2
        go_wp2_with (refine wpList_strbytes rfl _ rfl s rfl ?_; intro v5 w5 hbs5 hf5 hn5)
        refine (i4.out v5 _).mono ?_
        rintro e w6 ⟨rfl, f6⟩
        have F6 := (((F3.alloc _).alloc _).trans hf5).trans f6
        have F7 := F6.alloc (.cells #[.bool false, .int .i64 0, .string ⟨([] : List UInt8).toArray⟩] 23)
        clear b0 b1 b2 F3 F6 hf5 f6 hbs5 hn5
        go_wp2_with fail
        refine (i1.out _).mono ?_
        rintro e w7 ⟨rfl, rfl⟩
        go_wp2_with fail
        refine (i2.out _).mono ?_
        rintro e w7 ⟨rfl, rfl⟩
        go_wp2_with fail
        refine (i3.out _).mono ?_
        rintro e w7 ⟨rfl, rfl⟩
        go_wp2_with fail
        refine (cellive_any _).mono ?_
        rintro e w9 ⟨rfl, f9⟩
        go_wp2
        go_ret
        exact ⟨rfl, (F7.trans f9).below⟩
    · have hs3 : ¬ (s.length : Int) ≤ 200 := by omega
      clear A1 A2
      go_enter Try.func5, Try.ntmps5
      go_wp2
      generalize hW0 : (w.alloc (.cells #[.bool N, .int .i64 I, .string ⟨X.toArray⟩] 23)).alloc (.cells #[.int .i64 n, .bool b, .string ⟨s.toArray⟩] 43) = W0 at *
      obtain ⟨hc0, hv0, f0⟩ := H0 W0 rfl
      generalize hg : w.heap.size = g at *
      obtain ⟨v0, v1, v2⟩ := (show W0.cell? ⟨g + 1, 0, none⟩ = some (.int .i64 n) ∧ W0.cell? ⟨g + 1, 1, none⟩ = some (.bool b) ∧ W0.cell? ⟨g + 1, 2, none⟩ = some (.string ⟨s.toArray⟩) from ⟨hv0.cell 0, hv0.cell 1, hv0.cell 2⟩)
      clear hW0 H0
      go_quiet (fail)
      have hcq : ClB (W0.drewN nq) g _ := hc0
      have fq : Fr Non w (W0.drewN nq) := f0.drewN nq
      generalize W0.drewN nq = W1 at *
      clear hc0 hv0 f0 v0 v1 v2
      obtain ⟨a0, a1, a2, _⟩ := hcq.facts
      dsimp only at a0 a1 a2
      go_wp2_with fail
      refine (s1 _).mono ?_
      rintro e w1 ⟨rfl, f1⟩
      have hc1 : ClB w1 g _ := hcq.fr f1 (fun e => e)
      have F1 := fq.trans f1
      clear a0 a1 a2 hcq fq f1
      obtain ⟨a0, a1, a2, _⟩ := hc1.facts
      dsimp only at a0 a1 a2
      go_wp2_with fail
      refine (cellive_any _).mono ?_
      rintro e w9 ⟨rfl, f9⟩
      go_wp2
      go_ret
      exact ⟨rfl, (F1.trans f9).below⟩
  · rw [decide_eq_false hs1] at s1
    clear hs1 A1 A2
    go_enter Try.func5, Try.ntmps5
    go_wp2
    generalize hW0 : (w.alloc (.cells #[.bool N, .int .i64 I, .string ⟨X.toArray⟩] 23)).alloc (.cells #[.int .i64 n, .bool b, .string ⟨s.toArray⟩] 43) = W0 at *
    obtain ⟨hc0, hv0, f0⟩ := H0 W0 rfl
    generalize hg : w.heap.size = g at *
    obtain ⟨v0, v1, v2⟩ := (show W0.cell? ⟨g + 1, 0, none⟩ = some (.int .i64 n) ∧ W0.cell? ⟨g + 1, 1, none⟩ = some (.bool b) ∧ W0.cell? ⟨g + 1, 2, none⟩ = some (.string ⟨s.toArray⟩) from ⟨hv0.cell 0, hv0.cell 1, hv0.cell 2⟩)
    clear hW0 H0
    go_quiet (fail)
    have hcq : ClB (W0.drewN nq) g _ := hc0
    have fq : Fr Non w (W0.drewN nq) := f0.drewN nq
    generalize W0.drewN nq = W1 at *
    clear hc0 hv0 f0 v0 v1 v2
    obtain ⟨a0, a1, a2, _⟩ := hcq.facts
    dsimp only at a0 a1 a2
    go_wp2_with fail
    refine (s1 _).mono ?_
    rintro e w1 ⟨rfl, f1⟩
    have hc1 : ClB w1 g _ := hcq.fr f1 (fun e => e)
    have F1 := fq.trans f1
    clear a0 a1 a2 hcq fq f1
    obtain ⟨a0, a1, a2, _⟩ := hc1.facts
    dsimp only at a0 a1 a2
    go_wp2_with fail
    refine (cellive_any _).mono ?_
    rintro e w9 ⟨rfl, f9⟩
    go_wp2
    go_ret
    exact ⟨rfl, (F1.trans f9).below⟩
end Go.Proofs.Ytkmgplgokhjmjaa
