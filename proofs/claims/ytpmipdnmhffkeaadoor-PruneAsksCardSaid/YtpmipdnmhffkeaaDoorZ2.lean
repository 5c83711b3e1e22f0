/-
  Joined: Layer 21: the program's small functions: is one not null, not, and, or; may a cell be as a comparison says. · Layer 11: which zones there may be, both programs'. · Layer 17: a predicate as a value; slices of them, read as trees; two compared but for what is within them, both programs'. · Slices of texts: a text's cell; what their type is. · Layer 12: letters, digits, words. · Layer 12: which texts may be names, both programs'. · Layer 17: which predicates may be but for what is within them, the program's. · Layer 17: which predicates may be, if those within them may, the program's. · Layer 17: what is asked of a predicate and of all within it: the function that calls itself, over any closure; the first of the three closures; May. · Layer 17: May, the program's.
-/
import Derived.Lib.Zigzag
import Derived.Lib.DecodeN
import Derived.Laws.RangeAny
import Derived.Laws.Cover4
import Derived.BigRegion
import Derived.BigQuiet
import Derived.Deep.RegionHeld3
import Derived.Test.YtpmipdnmhffkeaaDoorZ1
import Derived.Laws.ResultCell
import Derived.Laws.Rows

namespace Go.Proofs.YtpmipdnmhffkeaaDoor
set_option linter.unusedVariables false
set_option linter.unusedSimpArgs false
set_option maxRecDepth 100000
open Go.RowKit

theorem pzsome_any (z : Zn) (w : World) : Calls Tryd.prog 39 #[znV z] w fun e w' => e = .returned (.bool (someZ z)) ∧ Fr Non w w' := by
  unfold znV znC
  go_enter Tryd.func39, Tryd.ntmps39
  go_wp2
  go_ret
  exact ⟨rfl, (Fr.refl _ _).alloc _⟩

theorem pznot_any (t : Tr) (w : World) : Calls Tryd.prog 40 #[trV t] w fun e w' => e = .returned (trV (notT2 t)) ∧ Fr Non w w' := by
  obtain ⟨a, b, c⟩ := t
  unfold trV
  have hB := tr_newG 35 (w.alloc (.cells #[.bool a, .bool b, .bool c] 35)) ⟨b, a, c⟩ (w.heap.size + 1) (by simp)
  have hf := ((Fr.refl Non w).alloc (.cells #[.bool a, .bool b, .bool c] 35)).alloc (.cells #[.bool b, .bool a, .bool c] 35)
  replace hB := Lib.hid hB
  go_enter Tryd.func40, Tryd.ntmps40
  go_wp2
  exact bodyPost_ret (v := trV ⟨b, a, c⟩) (ret_tr (p := 2) rfl _ _ _ ⟨b, a, c⟩ (by rfl) hB.out) rfl ⟨rfl, hf⟩

/-- two truths boxed, and the answer's block -/
theorem pzand_any (s t : Tr) (w : World) : Calls Tryd.prog 42 #[trV s, trV t] w fun e w' => e = .returned (trV (andTr s t)) ∧ Fr Non w w' := by
  obtain ⟨a, b, c⟩ := s
  obtain ⟨d, e, f⟩ := t
  unfold trV
  have hB := tr_newG 35 ((w.alloc (.cells #[.bool a, .bool b, .bool c] 35)).alloc (.cells #[.bool d, .bool e, .bool f] 35)) ⟨a && d, b || e, c || f⟩ (w.heap.size + 1 + 1) (by simp)
  have hf := (((Fr.refl Non w).alloc (.cells #[.bool a, .bool b, .bool c] 35)).alloc (.cells #[.bool d, .bool e, .bool f] 35)).alloc (.cells #[.bool (a && d), .bool (b || e), .bool (c || f)] 35)
  dsimp only at hB
  replace hB := Lib.hid hB
  replace hf := Lib.hid hf
  cases a <;> cases b <;> cases c
  all_goals
    simp only [Bool.true_and, Bool.false_and, Bool.true_or, Bool.false_or] at hB hf
    go_enter Tryd.func42, Tryd.ntmps42
    go_wp2
    exact bodyPost_ret (v := trV _) (ret_tr (p := 4) rfl _ _ _ _ (by rfl) hB.out) rfl ⟨rfl, hf.out⟩
theorem pzor_any (s t : Tr) (w : World) : Calls Tryd.prog 43 #[trV s, trV t] w fun e w' => e = .returned (trV (orTr s t)) ∧ Fr Non w w' := by
  obtain ⟨a, b, c⟩ := s
  obtain ⟨d, e, f⟩ := t
  unfold trV
  have hB := tr_newG 35 ((w.alloc (.cells #[.bool a, .bool b, .bool c] 35)).alloc (.cells #[.bool d, .bool e, .bool f] 35)) ⟨a || d, b && e, c || f⟩ (w.heap.size + 1 + 1) (by simp)
  have hf := (((Fr.refl Non w).alloc (.cells #[.bool a, .bool b, .bool c] 35)).alloc (.cells #[.bool d, .bool e, .bool f] 35)).alloc (.cells #[.bool (a || d), .bool (b && e), .bool (c || f)] 35)
  dsimp only at hB
  replace hB := Lib.hid hB
  replace hf := Lib.hid hf
  cases a <;> cases b <;> cases c
  all_goals
    simp only [Bool.true_and, Bool.false_and, Bool.true_or, Bool.false_or] at hB hf
    go_enter Tryd.func43, Tryd.ntmps43
    go_wp2
    exact bodyPost_ret (v := trV _) (ret_tr (p := 4) rfl _ _ _ _ (by rfl) hB.out) rfl ⟨rfl, hf.out⟩

/-! ### A comparison, of what lies from low to high -/
theorem rng_1 (l h v : Cl) : rngI 1 l h v = (decide (ordC l v ≤ 0) && decide (0 ≤ ordC h v)) := rfl
theorem rng_2 (l h v : Cl) : rngI 2 l h v = (!ceq l v || !ceq h v) := by
  show (ordC l v != 0 || ordC h v != 0) = _
  rw [← ordC_zero l v, ← ordC_zero h v]; rfl
theorem rng_6 {op : Int} (l h v : Cl) (h1 : op ≠ 1) (h2 : op ≠ 2) (h3 : op ≠ 3) (h4 : op ≠ 4) (h5 : op ≠ 5) : rngI op l h v = decide (0 ≤ ordC h v) := by unfold rngI; rw [if_neg h1, if_neg h2, if_neg h3, if_neg h4, if_neg h5]
theorem has_rng {z : Zn} {c : Cl} (hn : c.null = false) (hb : bndZ z = true) : hasZ z c = rngI 1 z.low z.high c := by
  unfold hasZ
  rw [hn, hb, rng_1, ordC_neg z.high c]
  simp

set_option maxHeartbeats 1000000 in
theorem pzagrees_any (op : Int) (z : Zn) (c : Cl) (w : World) (hn : c.null = false) (hb : bndZ z = true) :
    Calls Tryd.prog 63 #[.int .i64 op, znV z, clV c] w fun e w' => e = .returned (.bool (rngI op z.low z.high c)) ∧ Fr Non w w' := by
  have H0 := znCl_new w w.heap.size z c rfl
  have F0 : Fr Non w _ := ((Fr.refl Non w).alloc (.cells (znC z) 33)).alloc (.cells (clC c) 24)
  have HH := Lib.hid (fun W => zhas_any z c W)
  rw [has_rng hn hb] at HH
  have HS1 := Lib.hid (fun W => csame_any z.low c W)
  have HS2 := Lib.hid (fun W => csame_any z.high c W)
  have HO1 := Lib.hid (fun W => order_any z.low c W)
  have HO2 := Lib.hid (fun W => order_any z.high c W)
  have HR2 := Lib.hid (rng_2 z.low z.high c)
  have HR6 := Lib.hid (fun a b d e f => rng_6 (op := op) z.low z.high c a b d e f)
  have HR3 : Hid (rngI 3 z.low z.high c = decide (ordC z.low c < 0)) := Lib.hid rfl
  have HR4 : Hid (rngI 4 z.low z.high c = decide (ordC z.low c ≤ 0)) := Lib.hid rfl
  have HR5 : Hid (rngI 5 z.low z.high c = decide (0 < ordC z.high c)) := Lib.hid rfl
  obtain ⟨n, i, t⟩ := c
  obtain ⟨r, u, ⟨ln, li, lt⟩, ⟨hn2, hi, ht⟩⟩ := z
  clear hn hb
  have hZ := znB_cells H0.one
  obtain ⟨c0, c1, c2, _⟩ := H0.two.facts
  unfold znV clV at *
  unfold znC clC at *
  unfold ZCells at hZ
  dsimp only at *
  obtain ⟨a0, a1, a2, a3, a4, a5, a6, a7⟩ := hZ
  replace H0 := Lib.hid H0
  replace F0 := Lib.hid F0
  by_cases h1 : op = 1
  · subst h1
    clear HS1 HS2 HO1 HO2 HR2 HR3 HR4 HR5 HR6
    generalize rngI 1 _ _ _ = y at *
    go_enter Tryd.func63, Tryd.ntmps63
    go_wp2_with fail
    refine (HH.out _).mono ?_
    rintro e w1 ⟨rfl, f1⟩
    go_wp2
    go_ret
    exact ⟨rfl, F0.out.trans f1⟩
  by_cases h2 : op = 2
  · subst h2
    clear HH HO1 HO2 HR3 HR4 HR5 HR6
    generalize rngI 2 _ _ _ = y at *
    generalize ceq ⟨ln, li, lt⟩ _ = b1 at *
    generalize ceq ⟨hn2, hi, ht⟩ _ = b2 at *
    go_enter Tryd.func63, Tryd.ntmps63
    go_wp2_with fail
    refine (HS1.out _).mono ?_
    rintro e w1 ⟨rfl, f1⟩
    have H1 := H0.out.non f1
    clear a0 a1 a2 a3 a4 a5 a6 a7 c0 c1 c2
    have hZ := znB_cells H1.one
    obtain ⟨c0, c1, c2, _⟩ := H1.two.facts
    unfold ZCells at hZ
    dsimp only at *
    obtain ⟨a0, a1, a2, a3, a4, a5, a6, a7⟩ := hZ
    have F1 := Lib.hid (F0.out.trans f1)
    clear f1 HS1 H1
    cases b1
    · go_wp2
      go_ret
      exact ⟨ret_boolE (by rw [HR2.out]; rfl), F1.out⟩
    · go_wp2_with fail
      refine (HS2.out _).mono ?_
      rintro e w2 ⟨rfl, f2⟩
      go_wp2
      go_ret
      exact ⟨ret_boolE (by rw [HR2.out]; rfl), F1.out.trans f2⟩
  clear HS1 HS2 HR2
  by_cases h3 : op = 3
  · subst h3
    clear HH HO2 HR4 HR5 HR6
    generalize rngI 3 _ _ _ = y at *
    generalize ordC ⟨ln, li, lt⟩ _ = x at *
    go_enter Tryd.func63, Tryd.ntmps63
    go_wp2_with fail
    refine (HO1.out _).mono ?_
    rintro e w1 ⟨rfl, f1⟩
    go_wp2
    go_ret
    exact ⟨ret_boolE HR3.out.symm, F0.out.trans f1⟩
  by_cases h4 : op = 4
  · subst h4
    clear HH HO2 HR3 HR5 HR6
    generalize rngI 4 _ _ _ = y at *
    generalize ordC ⟨ln, li, lt⟩ _ = x at *
    go_enter Tryd.func63, Tryd.ntmps63
    go_wp2_with fail
    refine (HO1.out _).mono ?_
    rintro e w1 ⟨rfl, f1⟩
    go_wp2
    go_ret
    exact ⟨ret_boolE HR4.out.symm, F0.out.trans f1⟩
  by_cases h5 : op = 5
  · subst h5
    clear HH HO1 HR3 HR4 HR6
    generalize rngI 5 _ _ _ = y at *
    generalize ordC ⟨hn2, hi, ht⟩ _ = x at *
    go_enter Tryd.func63, Tryd.ntmps63
    go_wp2_with fail
    refine (HO2.out _).mono ?_
    rintro e w1 ⟨rfl, f1⟩
    go_wp2
    go_ret
    exact ⟨ret_boolE HR5.out.symm, F0.out.trans f1⟩
  have HE := Lib.hid (HR6.out h1 h2 h3 h4 h5)
  have q1 : (op == 1) = false := by rw [beq_eq_false_iff_ne]; exact h1
  have q2 : (op == 2) = false := by rw [beq_eq_false_iff_ne]; exact h2
  have q3 : (op == 3) = false := by rw [beq_eq_false_iff_ne]; exact h3
  have q4 : (op == 4) = false := by rw [beq_eq_false_iff_ne]; exact h4
  have q5 : (op == 5) = false := by rw [beq_eq_false_iff_ne]; exact h5
  clear h1 h2 h3 h4 h5 HH HO1 HR3 HR4 HR5 HR6
  generalize rngI op _ _ _ = y at *
  generalize ordC ⟨hn2, hi, ht⟩ _ = x at *
  go_enter Tryd.func63, Tryd.ntmps63
  go_wp2_with fail
  refine (HO2.out _).mono ?_
  rintro e w1 ⟨rfl, f1⟩
  go_wp2
  go_ret
  exact ⟨ret_boolE HE.out.symm, F0.out.trans f1⟩
end Go.Proofs.YtpmipdnmhffkeaaDoor


namespace Go.Proofs.YtpmipdnmhffkeaaDoor
set_option linter.unusedVariables false
set_option linter.unusedSimpArgs false
set_option maxRecDepth 100000
open Go.RowKit

theorem ceq_no (c : Cl) (w : World) : Calls Tryd.prog 60 #[clV c, .agg #[.bool false, .int .i64 0, .string ⟨#[]⟩]] w fun e w' => e = .returned (.bool (ceq c noCl)) ∧ Fr Non w w' := csame_any c noCl w
/-- which zones, of a type's -/
theorem mayZ_is (ty : Int) (z : Zn) : mayZ ty z = (cntZ z && (isTy ty && (if bndZ z then mayC ty false z.low && (mayC ty false z.high && decide (ordC z.low z.high ≤ 0)) else ceq z.low noCl && ceq z.high noCl))) := by
  unfold mayZ
  cases cntZ z <;> cases isTy ty <;> cases bndZ z <;> simp [Bool.and_assoc]
set_option maxHeartbeats 1000000 in
theorem zmay_any (ty : Int) (z : Zn) (w : World) : Calls Tryd.prog 36 #[.int .i64 ty, znV z] w fun e w' => e = .returned (.bool (mayZ ty z)) ∧ Fr Non w w' := by
  have h0 : ZnB (w.alloc (.cells (znC z) 33)) w.heap.size z := Blk.new _ _ _
  have F0 : Fr Non w _ := (Fr.refl Non w).alloc (.cells (znC z) 33)
  have C1 := fun W => cnt_zn z W
  have T1 := fun W => ist_zn ty W
  have B1 := fun W => bnd_any z W
  have S1 := fun W => ceq_no z.low W
  have S2 := fun W => ceq_no z.high W
  have M1 := fun W => may_any ty false z.low W
  have M2 := fun W => may_any ty false z.high W
  have O1 := fun W => order_any z.low z.high W
  have HR := Lib.hid (mayZ_is ty z)
  unfold ZnB at h0
  unfold znV clV at *
  have h0 : Hid (ZnB _ w.heap.size z) := Lib.hid h0
  unfold znC clC at *
  have F0 := Lib.hid F0
  generalize cntZ z = c at *
  generalize isTy ty = t at *
  generalize bndZ z = b at *
  generalize ceq z.low noCl = e1 at *
  generalize ceq z.high noCl = e2 at *
  generalize mayC ty false z.low = m1 at *
  generalize mayC ty false z.high = m2 at *
  generalize ordC z.low z.high = x at *
  go_enter Tryd.func36, Tryd.ntmps36
  go_wp2_with fail
  refine (C1 _).mono ?_
  rintro e w1 ⟨rfl, f1⟩
  have h1 := h0.out.fr f1 (fun e => e)
  have F1 := Lib.hid (F0.out.trans f1)
  obtain ⟨a0, a1, a2, a3, a4, a5, a6, a7⟩ := znB_cells h1
  have h1 := Lib.hid h1
  clear f1
  clear C1
  cases c
  · clear T1 B1 S1 S2 M1 M2 O1
    go_wp2
    go_ret
    exact ⟨ret_boolE (by rw [HR.out]; rfl), F1.out⟩
  · skip
    go_wp2_with fail
    refine (T1 _).mono ?_
    rintro e w2 ⟨rfl, f2⟩
    have h2 := h1.out.fr f2 (fun e => e)
    have F2 := Lib.hid (F1.out.trans f2)
    clear a0 a1 a2 a3 a4 a5 a6 a7
    obtain ⟨a0, a1, a2, a3, a4, a5, a6, a7⟩ := znB_cells h2
    have h2 := Lib.hid h2
    clear f2
    clear T1
    cases t
    · clear B1 S1 S2 M1 M2 O1
      go_wp2
      go_ret
      exact ⟨ret_boolE (by rw [HR.out]; rfl), F2.out⟩
    · skip
      go_wp2_with fail
      refine (B1 _).mono ?_
      rintro e w3 ⟨rfl, f3⟩
      have h3 := h2.out.fr f3 (fun e => e)
      have F3 := Lib.hid (F2.out.trans f3)
      clear a0 a1 a2 a3 a4 a5 a6 a7
      obtain ⟨a0, a1, a2, a3, a4, a5, a6, a7⟩ := znB_cells h3
      have h3 := Lib.hid h3
      clear f3
      clear B1
      cases b
      · clear M1 M2 O1
        go_wp2_with fail
        refine (S1 _).mono ?_
        rintro e w4 ⟨rfl, f4⟩
        have h4 := h3.out.fr f4 (fun e => e)
        have F4 := Lib.hid (F3.out.trans f4)
        clear a0 a1 a2 a3 a4 a5 a6 a7
        obtain ⟨a0, a1, a2, a3, a4, a5, a6, a7⟩ := znB_cells h4
        have h4 := Lib.hid h4
        clear f4
        clear S1
        cases e1
        · clear S2
          go_wp2
          go_ret
          exact ⟨ret_boolE (by rw [HR.out]; rfl), F4.out⟩
        · skip
          go_wp2_with fail
          refine (S2 _).mono ?_
          rintro e w5 ⟨rfl, f5⟩
          have h5 := h4.out.fr f5 (fun e => e)
          have F5 := Lib.hid (F4.out.trans f5)
          clear a0 a1 a2 a3 a4 a5 a6 a7
          obtain ⟨a0, a1, a2, a3, a4, a5, a6, a7⟩ := znB_cells h5
          have h5 := Lib.hid h5
          clear f5
          go_wp2
          go_ret
          exact ⟨ret_boolE (by rw [HR.out]; rfl), F5.out⟩
      · clear S1 S2
        go_wp2_with fail
        refine (M1 _).mono ?_
        rintro e w4 ⟨rfl, f4⟩
        have h4 := h3.out.fr f4 (fun e => e)
        have F4 := Lib.hid (F3.out.trans f4)
        clear a0 a1 a2 a3 a4 a5 a6 a7
        obtain ⟨a0, a1, a2, a3, a4, a5, a6, a7⟩ := znB_cells h4
        have h4 := Lib.hid h4
        clear f4
        clear M1
        cases m1
        · clear M2 O1
          go_wp2
          go_ret
          exact ⟨ret_boolE (by rw [HR.out]; rfl), F4.out⟩
        · skip
          go_wp2_with fail
          refine (M2 _).mono ?_
          rintro e w5 ⟨rfl, f5⟩
          have h5 := h4.out.fr f5 (fun e => e)
          have F5 := Lib.hid (F4.out.trans f5)
          clear a0 a1 a2 a3 a4 a5 a6 a7
          obtain ⟨a0, a1, a2, a3, a4, a5, a6, a7⟩ := znB_cells h5
          have h5 := Lib.hid h5
          clear f5
          clear M2
          cases m2
          · clear O1
            go_wp2
            go_ret
            exact ⟨ret_boolE (by rw [HR.out]; rfl), F5.out⟩
          · skip
            go_wp2_with fail
            refine (O1 _).mono ?_
            rintro e w6 ⟨rfl, f6⟩
            have h6 := h5.out.fr f6 (fun e => e)
            have F6 := Lib.hid (F5.out.trans f6)
            clear a0 a1 a2 a3 a4 a5 a6 a7
            obtain ⟨a0, a1, a2, a3, a4, a5, a6, a7⟩ := znB_cells h6
            have h6 := Lib.hid h6
            clear f6
            go_wp2
            go_ret
            exact ⟨ret_boolE (by rw [HR.out]; rfl), F6.out⟩

set_option maxHeartbeats 1000000 in
theorem rzmay_any (ty : Int) (z : Zn) (w : World) : Calls Tryd.prog 22 #[.int .i64 ty, znV z] w fun e w' => e = .returned (.bool (mayZ ty z)) ∧ Fr Non w w' := by
  have h0 : ZnB (w.alloc (.cells (znC z) 33)) w.heap.size z := Blk.new _ _ _
  have F0 : Fr Non w _ := (Fr.refl Non w).alloc (.cells (znC z) 33)
  have M1 := fun W => rmay_any ty false z.low W
  have M2 := fun W => rmay_any ty false z.high W
  have O1 := fun W => rorder_any z.low z.high W
  have q1 := fun W => run_eql_cl W z.low noCl
  have q2 := fun W => run_eql_cl W z.high noCl
  have HR0 := Lib.hid (mayZ_is ty z)
  unfold ZnB at h0
  unfold znV clV at *
  have h0 : Hid (ZnB _ w.heap.size z) := Lib.hid h0
  unfold znC clC at *
  have F0 := Lib.hid F0
  unfold noCl at q1 q2
  dsimp only at q1 q2
  by_cases g : ty < 1 ∨ 3 < ty ∨ z.rows < 0 ∨ 4096 < z.rows ∨ z.nulls < 0 ∨ z.rows < z.nulls
  · have HR : Hid (mayZ ty z = false) := Lib.hid (by
      rw [HR0.out]
      rcases g with g | g | g
      · rw [show isTy ty = false by simp [isTy]; omega]; simp
      · rw [show isTy ty = false by simp [isTy]; omega]; simp
      · rw [show cntZ z = false from decide_eq_false (by omega)]; simp)
    clear HR0 M1 M2 O1 q1 q2
    by_cases g0 : ty < 1
    · clear g
      go_enter Tryd.func22, Tryd.ntmps22
      go_wp2
      go_ret
      exact ⟨ret_boolE HR.out.symm, F0.out⟩
    · skip
      by_cases g1 : 3 < ty
      · clear g
        go_enter Tryd.func22, Tryd.ntmps22
        go_wp2
        go_ret
        exact ⟨ret_boolE HR.out.symm, F0.out⟩
      · skip
        by_cases g2 : z.rows < 0
        · clear g
          go_enter Tryd.func22, Tryd.ntmps22
          go_wp2
          go_ret
          exact ⟨ret_boolE HR.out.symm, F0.out⟩
        · skip
          by_cases g3 : 4096 < z.rows
          · clear g
            go_enter Tryd.func22, Tryd.ntmps22
            go_wp2
            go_ret
            exact ⟨ret_boolE HR.out.symm, F0.out⟩
          · skip
            by_cases g4 : z.nulls < 0
            · clear g
              go_enter Tryd.func22, Tryd.ntmps22
              go_wp2
              go_ret
              exact ⟨ret_boolE HR.out.symm, F0.out⟩
            · skip
              have g5 : z.rows < z.nulls := by omega
              clear g
              go_enter Tryd.func22, Tryd.ntmps22
              go_wp2
              go_ret
              exact ⟨ret_boolE HR.out.symm, F0.out⟩
  · have d0 : isTy ty = true := by simp [isTy]; omega
    have d1 : cntZ z = true := decide_eq_true (by omega)
    have g0 : ¬ ty < 1 := by omega
    have g1 : ¬ 3 < ty := by omega
    have g2 : ¬ z.rows < 0 := by omega
    have g3 : ¬ 4096 < z.rows := by omega
    have g4 : ¬ z.nulls < 0 := by omega
    have g5 : ¬ z.rows < z.nulls := by omega
    have HR : Hid (mayZ ty z = (if bndZ z then mayC ty false z.low && (mayC ty false z.high && decide (ordC z.low z.high ≤ 0)) else ceq z.low noCl && ceq z.high noCl)) := Lib.hid (by rw [HR0.out, d0, d1]; simp)
    clear HR0 d0 d1 g
    have HN : noCl = ⟨false, 0, []⟩ := rfl
    rw [HN] at HR
    clear HN
    generalize ceq z.low ⟨false, 0, []⟩ = e1 at *
    generalize ceq z.high ⟨false, 0, []⟩ = e2 at *
    generalize mayC ty false z.low = m1 at *
    generalize mayC ty false z.high = m2 at *
    generalize ordC z.low z.high = x at *
    by_cases gb : z.nulls = z.rows
    · have HE : Hid (mayZ ty z = (e1 && e2)) := Lib.hid (by rw [HR.out, show bndZ z = false from decide_eq_false (by omega)]; rfl)
      clear HR M1 M2 O1
      have g6 : (z.nulls == z.rows) = true := by simpa using gb
      clear gb
      go_enter Tryd.func22, Tryd.ntmps22
      cases e1
      all_goals
        go_wp2
        go_ret
        exact ⟨ret_boolE (by rw [HE.out]; rfl), F0.out⟩
    · have HE : Hid (mayZ ty z = (m1 && (m2 && decide (x ≤ 0)))) := Lib.hid (by rw [HR.out, show bndZ z = true from decide_eq_true (by omega)]; rfl)
      clear HR q1 q2
      have g6 : (z.nulls == z.rows) = false := by simpa using gb
      clear gb
      go_enter Tryd.func22, Tryd.ntmps22
      go_wp2_with fail
      refine (M1 _).mono ?_
      rintro e w4 ⟨rfl, f4⟩
      have h4 := h0.out.fr f4 (fun e => e)
      have F4 := Lib.hid (F0.out.trans f4)
      obtain ⟨a0, a1, a2, a3, a4, a5, a6, a7⟩ := znB_cells h4
      have h4 := Lib.hid h4
      clear f4
      clear M1
      cases m1
      · clear M2 O1
        go_wp2
        go_ret
        exact ⟨ret_boolE (by rw [HE.out]; rfl), F4.out⟩
      · skip
        go_wp2_with fail
        refine (M2 _).mono ?_
        rintro e w5 ⟨rfl, f5⟩
        have h5 := h4.out.fr f5 (fun e => e)
        have F5 := Lib.hid (F4.out.trans f5)
        clear a0 a1 a2 a3 a4 a5 a6 a7
        obtain ⟨a0, a1, a2, a3, a4, a5, a6, a7⟩ := znB_cells h5
        have h5 := Lib.hid h5
        clear f5
        clear M2
        cases m2
        · clear O1
          go_wp2
          go_ret
          exact ⟨ret_boolE (by rw [HE.out]; rfl), F5.out⟩
        · skip
          go_wp2_with fail
          refine (O1 _).mono ?_
          rintro e w6 ⟨rfl, f6⟩
          have h6 := h5.out.fr f6 (fun e => e)
          have F6 := Lib.hid (F5.out.trans f6)
          clear a0 a1 a2 a3 a4 a5 a6 a7
          obtain ⟨a0, a1, a2, a3, a4, a5, a6, a7⟩ := znB_cells h6
          have h6 := Lib.hid h6
          clear f6
          go_wp2
          go_ret
          exact ⟨ret_boolE (by rw [HE.out]; rfl), F6.out⟩
end Go.Proofs.YtpmipdnmhffkeaaDoor


namespace Go.Proofs.YtpmipdnmhffkeaaDoor
set_option linter.unusedVariables false
set_option linter.unusedSimpArgs false
set_option maxRecDepth 100000
open Go.RowKit

/-- a slice's words -/
structure Kv where
  A : Option Addr
  n : Nat
  c : Nat
def kidV (s : Kv) : Value := .slice s.A s.n s.c
def noKv : Kv := ⟨none, 0, 0⟩
/-- a predicate's cells, and its value -/
def pdL (x : Ph × Kv) : List Value := [.int .i64 x.1.op, .string ⟨x.1.col.toArray⟩, .int .i64 x.1.cmp, .bool x.1.val.null, .int .i64 x.1.val.num, .string ⟨x.1.val.txt.toArray⟩, .int .i64 x.1.kind, .string ⟨x.1.pat.toArray⟩, kidV x.2]
def pdC (h : Ph) (s : Kv) : Array Value := #[.int .i64 h.op, .string ⟨h.col.toArray⟩, .int .i64 h.cmp, .bool h.val.null, .int .i64 h.val.num, .string ⟨h.val.txt.toArray⟩, .int .i64 h.kind, .string ⟨h.pat.toArray⟩, kidV s]
def pdV (h : Ph) (s : Kv) : Value := .agg (pdC h s)
/-- as a walk spells them -/
def PCells (w : World) (a : Addr) (h : Ph) (s : Kv) : Prop :=
  w.cell? a = some (.int .i64 h.op) ∧ w.cell? { block := a.block, off := a.off + 1 } = some (.string ⟨h.col.toArray⟩) ∧ w.cell? { block := a.block, off := a.off + 2 } = some (.int .i64 h.cmp) ∧
  w.cell? { block := a.block, off := a.off + 3 } = some (.bool h.val.null) ∧ w.cell? { block := a.block, off := a.off + 4 } = some (.int .i64 h.val.num) ∧ w.cell? { block := a.block, off := a.off + 5 } = some (.string ⟨h.val.txt.toArray⟩) ∧
  w.cell? { block := a.block, off := a.off + 6 } = some (.int .i64 h.kind) ∧ w.cell? { block := a.block, off := a.off + 7 } = some (.string ⟨h.pat.toArray⟩) ∧ w.cell? { block := a.block, off := a.off + 8 } = some (.slice s.A s.n s.c)
theorem pd_lit {w : World} {a : Addr} {h : Ph} {s : Kv} (e : AtN w a (pdL (h, s))) : PCells w a h s :=
  ⟨e 0 _ rfl, e 1 _ rfl, e 2 _ rfl, e 3 _ rfl, e 4 _ rfl, e 5 _ rfl, e 6 _ rfl, e 7 _ rfl, e 8 _ rfl⟩
/-- the predicate lies in block g -/
abbrev PdB (w : World) (g : Nat) (h : Ph) (s : Kv) : Prop := Blk w g 27 (pdC h s)
def PBlk (w : World) (g : Nat) (h : Ph) (s : Kv) : Prop :=
  w.cell? ⟨g, 0, none⟩ = some (.int .i64 h.op) ∧ w.cell? ⟨g, 1, none⟩ = some (.string ⟨h.col.toArray⟩) ∧ w.cell? ⟨g, 2, none⟩ = some (.int .i64 h.cmp) ∧
  w.cell? ⟨g, 3, none⟩ = some (.bool h.val.null) ∧ w.cell? ⟨g, 4, none⟩ = some (.int .i64 h.val.num) ∧ w.cell? ⟨g, 5, none⟩ = some (.string ⟨h.val.txt.toArray⟩) ∧
  w.cell? ⟨g, 6, none⟩ = some (.int .i64 h.kind) ∧ w.cell? ⟨g, 7, none⟩ = some (.string ⟨h.pat.toArray⟩) ∧ w.cell? ⟨g, 8, none⟩ = some (.slice s.A s.n s.c)
theorem pdB_cells {w : World} {g : Nat} {h : Ph} {s : Kv} (e : PdB w g h s) : PBlk w g h s :=
  ⟨e.cell 0, e.cell 1, e.cell 2, e.cell 3, e.cell 4, e.cell 5, e.cell 6, e.cell 7, e.cell 8⟩
theorem pd_new (w : World) (g : Nat) (h : Ph) (s : Kv) (hg : g = w.heap.size) : PdB (w.alloc (.cells (pdC h s) 27)) g h s := by subst hg; exact Blk.new _ _ _
theorem pd2_new (w : World) (g : Nat) (a b : Ph) (s t : Kv) (hg : g = w.heap.size) : PdB ((w.alloc (.cells (pdC a s) 27)).alloc (.cells (pdC b t) 27)) g a s ∧ PdB ((w.alloc (.cells (pdC a s) 27)).alloc (.cells (pdC b t) 27)) (g + 1) b t := by
  subst hg
  refine ⟨(Blk.new _ _ _).fr ((Fr.refl Non _).alloc _) (fun e => e), ?_⟩
  have h : PdB ((w.alloc (.cells (pdC a s) 27)).alloc (.cells (pdC b t) 27)) (w.alloc (.cells (pdC a s) 27)).heap.size b t := Blk.new _ _ _
  rw [show (w.alloc (.cells (pdC a s) 27)).heap.size = w.heap.size + 1 by simp] at h
  exact h

/-! ### Trees -/
/-- the slice s reads as the predicates ps, with all that is within them -/
inductive Kd (w : World) : Kv → List Pd → Prop
  | mk (s : Kv) (ns : List (Ph × Kv)) (ps : List Pd) (hl : ns.length = ps.length) (hN : Ns pdL 9 w (kidV s) ns)
    (hh : ∀ i (h1 : i < ns.length) (h2 : i < ps.length), ns[i].1 = ps[i].hd) (hb : ∀ i (h2 : i < ps.length), I64b ps[i].hd.val.num)
    (hk : ∀ i (h1 : i < ns.length) (h2 : i < ps.length), Kd w ns[i].2 ps[i].kids) : Kd w s ps
theorem Kd.non {w w' : World} {s : Kv} {ps : List Pd} (h : Kd w s ps) (hf : Fr Non w w') : Kd w' s ps := by
  induction h with
  | mk s ns ps hl hN hh hb hk ih => exact .mk s ns ps hl (hN.non hf) hh hb ih
theorem Kd.nil_ (w : World) : Kd w noKv [] := .mk _ [] [] rfl (Ns.nil_ w) (fun i h => by cases h) (fun i h => by cases h) (fun i h => by cases h)
theorem Kd.len {w : World} {s : Kv} {ps : List Pd} (h : Kd w s ps) : s.n = ps.length := by
  cases h with
  | mk s ns ps hl hN hh hb hk =>
    obtain ⟨A, c, e, _⟩ := hN
    unfold kidV at e
    simp only [Value.slice.injEq] at e
    omega
/-- the one at j -/
theorem Kd.el {w : World} {s : Kv} {ps : List Pd} (h : Kd w s ps) (j : Nat) (hj : j < ps.length) :
    ∃ a t, s.A = some a ∧ PCells w (a.add (j * 9)) ps[j].hd t ∧ Kd w t ps[j].kids ∧ I64b ps[j].hd.val.num := by
  cases h with
  | mk s ns ps hl hN hh hb hk =>
    have hj' : j < ns.length := by omega
    obtain ⟨a, ha, hc⟩ := hN.at_ j ns[j] (List.getElem?_eq_getElem hj')
    have e := hh j hj' hj
    refine ⟨a, ns[j].2, ha, ?_, hk j hj' hj, hb j hj⟩
    rw [← e]
    exact pd_lit hc

/-! ### Two compared -/
def peq (a b : Ph) : Bool := decide (a = b)
theorem ceq_unl {a b : Cl} (h : ceq a b = false) : a ≠ b := by simpa [ceq] using h
set_option maxHeartbeats 2000000 in
theorem alike_any (a b : Ph) (s t : Kv) (w : World) : Calls Tryd.prog 67 #[pdV a s, pdV b t] w fun e w' => e = .returned (.bool (peq a b)) ∧ Fr Non w w' := by
  have S1 := fun W => csame_any a.val b.val W
  have B0 := Lib.hid (pd2_new w _ a b s t rfl)
  have HN : Hid (a ≠ b → peq a b = false) := Lib.hid (fun h => decide_eq_false h)
  have HA : Hid (a = b → peq a b = true) := Lib.hid (fun h => decide_eq_true h)
  obtain ⟨ao, ac, am, ⟨an, ai, at_⟩, ak, ap⟩ := a
  obtain ⟨bo, bc, bm, ⟨bn, bi, bt⟩, bk, bp⟩ := b
  obtain ⟨sA, sn, sc⟩ := s
  obtain ⟨tA, tn, tc⟩ := t
  unfold pdV pdC kidV
  unfold PdB pdC kidV at B0
  unfold clV clC at S1
  dsimp only at *
  by_cases ho : ao = bo
  · subst ho
    by_cases hc : ac = bc
    · subst hc
      by_cases hm : am = bm
      · subst hm
        by_cases hk : ak = bk
        · subst hk
          cases hv : ceq ⟨an, ai, at_⟩ ⟨bn, bi, bt⟩
          · have HE : Hid (peq _ _ = false) := Lib.hid (HN.out (fun e => ceq_unl hv (by cases e; rfl)))
            simp only [hv] at S1
            clear HN HA hv B0
            replace S1 := Lib.hid S1
            go_enter Tryd.func67, Tryd.ntmps67
            go_wp2_with fail
            refine (S1.out _).mono ?_
            rintro e w1 ⟨rfl, f1⟩
            go_wp2
            go_ret
            exact ⟨ret_boolE HE.out.symm, (((Fr.refl _ _).alloc _).alloc _).trans f1⟩
          · simp only [hv] at S1
            have hv2 := ceq_is hv
            clear hv
            cases hv2
            have HE : Hid (peq ⟨ao, ac, am, ⟨an, ai, at_⟩, ak, ap⟩ ⟨ao, ac, am, ⟨an, ai, at_⟩, ak, bp⟩ = (ap == bp)) := Lib.hid (by
              by_cases e : ap = bp
              · subst e; rw [HA.out rfl]; simp
              · rw [HN.out (fun h => e (by cases h; rfl))]; symm; rw [beq_eq_false_iff_ne]; exact e)
            clear HN HA
            replace S1 := Lib.hid S1
            go_enter Tryd.func67, Tryd.ntmps67
            go_wp2_with fail
            refine (S1.out _).mono ?_
            rintro e w1 ⟨rfl, f1⟩
            have g1 := (B0.out.1.fr f1 (fun e => e)).cell 7
            have g2 := (B0.out.2.fr f1 (fun e => e)).cell 7
            simp at g1 g2
            clear B0
            go_wp2
            go_ret
            exact ⟨ret_boolE HE.out.symm, (((Fr.refl _ _).alloc _).alloc _).trans f1⟩
        · have ek : (ak == bk) = false := by rw [beq_eq_false_iff_ne]; exact hk
          have HE : Hid (peq _ _ = false) := Lib.hid (HN.out (fun e => hk (by cases e; rfl)))
          clear S1 hk HN HA B0
          go_enter Tryd.func67, Tryd.ntmps67
          go_wp2
          go_ret
          exact ⟨ret_boolE HE.out.symm, ((Fr.refl _ _).alloc _).alloc _⟩
      · have em : (am == bm) = false := by rw [beq_eq_false_iff_ne]; exact hm
        have HE : Hid (peq _ _ = false) := Lib.hid (HN.out (fun e => hm (by cases e; rfl)))
        clear S1 hm HN HA B0
        go_enter Tryd.func67, Tryd.ntmps67
        go_wp2
        go_ret
        exact ⟨ret_boolE HE.out.symm, ((Fr.refl _ _).alloc _).alloc _⟩
    · have ec : (ac == bc) = false := by rw [beq_eq_false_iff_ne]; exact hc
      have HE : Hid (peq _ _ = false) := Lib.hid (HN.out (fun e => hc (by cases e; rfl)))
      clear S1 hc HN HA B0
      go_enter Tryd.func67, Tryd.ntmps67
      go_wp2
      go_ret
      exact ⟨ret_boolE HE.out.symm, ((Fr.refl _ _).alloc _).alloc _⟩
  · have eo : (ao == bo) = false := by rw [beq_eq_false_iff_ne]; exact ho
    have HE : Hid (peq _ _ = false) := Lib.hid (HN.out (fun e => ho (by cases e; rfl)))
    clear S1 ho HN HA B0
    go_enter Tryd.func67, Tryd.ntmps67
    go_wp2
    go_ret
    exact ⟨ret_boolE HE.out.symm, ((Fr.refl _ _).alloc _).alloc _⟩

set_option maxHeartbeats 2000000 in
theorem flat_any (a b : Ph) (s t : Kv) (w : World) : Calls Tryd.prog 77 #[pdV a s, pdV b t] w fun e w' => e = .returned (.bool (peq a b)) ∧ Fr Non w w' := by
  have S1 := fun W => run_eql_cl W a.val b.val
  have B0 := Lib.hid (pd2_new w _ a b s t rfl)
  have HN : Hid (a ≠ b → peq a b = false) := Lib.hid (fun h => decide_eq_false h)
  have HA : Hid (a = b → peq a b = true) := Lib.hid (fun h => decide_eq_true h)
  obtain ⟨ao, ac, am, ⟨an, ai, at_⟩, ak, ap⟩ := a
  obtain ⟨bo, bc, bm, ⟨bn, bi, bt⟩, bk, bp⟩ := b
  obtain ⟨sA, sn, sc⟩ := s
  obtain ⟨tA, tn, tc⟩ := t
  unfold pdV pdC kidV
  unfold PdB pdC kidV at B0
  dsimp only at *
  by_cases ho : ao = bo
  · subst ho
    by_cases hc : ac = bc
    · subst hc
      by_cases hm : am = bm
      · subst hm
        cases hv : ceq ⟨an, ai, at_⟩ ⟨bn, bi, bt⟩
        · have HE : Hid (peq _ _ = false) := Lib.hid (HN.out (fun e => ceq_unl hv (by cases e; rfl)))
          simp only [hv] at S1
          clear HN HA hv B0
          go_enter Tryd.func77, Tryd.ntmps77
          go_wp2
          go_ret
          exact ⟨ret_boolE HE.out.symm, ((Fr.refl _ _).alloc _).alloc _⟩
        · simp only [hv] at S1
          have hv2 := ceq_is hv
          clear hv
          cases hv2
          by_cases hk : ak = bk
          · subst hk
            have HE : Hid (peq ⟨ao, ac, am, ⟨an, ai, at_⟩, ak, ap⟩ ⟨ao, ac, am, ⟨an, ai, at_⟩, ak, bp⟩ = (ap == bp)) := Lib.hid (by
              by_cases e : ap = bp
              · subst e; rw [HA.out rfl]; simp
              · rw [HN.out (fun h => e (by cases h; rfl))]; symm; rw [beq_eq_false_iff_ne]; exact e)
            clear HN HA
            clear B0
            go_enter Tryd.func77, Tryd.ntmps77
            go_wp2
            go_ret
            exact ⟨ret_boolE HE.out.symm, ((Fr.refl _ _).alloc _).alloc _⟩
          · have ek : (ak == bk) = false := by rw [beq_eq_false_iff_ne]; exact hk
            have HE : Hid (peq _ _ = false) := Lib.hid (HN.out (fun e => hk (by cases e; rfl)))
            clear S1 hk HN HA B0
            go_enter Tryd.func77, Tryd.ntmps77
            go_wp2
            go_ret
            exact ⟨ret_boolE HE.out.symm, ((Fr.refl _ _).alloc _).alloc _⟩
      · have em : (am == bm) = false := by rw [beq_eq_false_iff_ne]; exact hm
        have HE : Hid (peq _ _ = false) := Lib.hid (HN.out (fun e => hm (by cases e; rfl)))
        clear S1 hm HN HA B0
        go_enter Tryd.func77, Tryd.ntmps77
        go_wp2
        go_ret
        exact ⟨ret_boolE HE.out.symm, ((Fr.refl _ _).alloc _).alloc _⟩
    · have ec : (ac == bc) = false := by rw [beq_eq_false_iff_ne]; exact hc
      have HE : Hid (peq _ _ = false) := Lib.hid (HN.out (fun e => hc (by cases e; rfl)))
      clear S1 hc HN HA B0
      go_enter Tryd.func77, Tryd.ntmps77
      go_wp2
      go_ret
      exact ⟨ret_boolE HE.out.symm, ((Fr.refl _ _).alloc _).alloc _⟩
  · have eo : (ao == bo) = false := by rw [beq_eq_false_iff_ne]; exact ho
    have HE : Hid (peq _ _ = false) := Lib.hid (HN.out (fun e => ho (by cases e; rfl)))
    clear S1 ho HN HA B0
    go_enter Tryd.func77, Tryd.ntmps77
    go_wp2
    go_ret
    exact ⟨ret_boolE HE.out.symm, ((Fr.refl _ _).alloc _).alloc _⟩
end Go.Proofs.YtpmipdnmhffkeaaDoor


namespace Go.Proofs.YtpmipdnmhffkeaaDoor
set_option linter.unusedVariables false
set_option linter.unusedSimpArgs false
set_option maxRecDepth 100000
open Go.RowKit

/-- a text's cell -/
def sv (l : List UInt8) : Value := .string ⟨l.toArray⟩
end Go.Proofs.YtpmipdnmhffkeaaDoor


namespace Go.Proofs.YtpmipdnmhffkeaaDoor
set_option linter.unusedVariables false
set_option linter.unusedSimpArgs false
set_option maxRecDepth 100000
open Go.RowKit

theorem isletter_any (r : Int) (w : World) : Calls Tryd.prog 83 #[.int .i32 r] w fun e w' => e = .returned (.bool (ltrI r)) ∧ w = w' := by
  by_cases h1 : 97 ≤ r
  · by_cases h2 : r ≤ 122
    · have H := Lib.hid (show ltrI r = true by simp [ltrI, h1, h2])
      go_enter Tryd.func83, Tryd.ntmps83
      go_wp2
      go_ret
      exact ⟨ret_boolE H.out.symm, rfl⟩
    · have H := Lib.hid (show ltrI r = false by simp [ltrI, h1, h2])
      go_enter Tryd.func83, Tryd.ntmps83
      go_wp2
      go_ret
      exact ⟨ret_boolE H.out.symm, rfl⟩
  · have H := Lib.hid (show ltrI r = false by simp [ltrI, h1])
    go_enter Tryd.func83, Tryd.ntmps83
    go_wp2
    go_ret
    exact ⟨ret_boolE H.out.symm, rfl⟩
theorem isdigit_any (r : Int) (w : World) : Calls Tryd.prog 84 #[.int .i32 r] w fun e w' => e = .returned (.bool (dgtI r)) ∧ w = w' := by
  by_cases h1 : 48 ≤ r
  · by_cases h2 : r ≤ 57
    · have H := Lib.hid (show dgtI r = true by simp [dgtI, h1, h2])
      go_enter Tryd.func84, Tryd.ntmps84
      go_wp2
      go_ret
      exact ⟨ret_boolE H.out.symm, rfl⟩
    · have H := Lib.hid (show dgtI r = false by simp [dgtI, h1, h2])
      go_enter Tryd.func84, Tryd.ntmps84
      go_wp2
      go_ret
      exact ⟨ret_boolE H.out.symm, rfl⟩
  · have H := Lib.hid (show dgtI r = false by simp [dgtI, h1])
    go_enter Tryd.func84, Tryd.ntmps84
    go_wp2
    go_ret
    exact ⟨ret_boolE H.out.symm, rfl⟩

set_option maxHeartbeats 4000000 in
theorem isword_any (l : List UInt8) (w : World) : Calls Tryd.prog 82 #[.string ⟨l.toArray⟩] w fun e w' => e = .returned (.bool (decide (l ∈ wordsL))) ∧ w = w' := by
  go_enter Tryd.func82, Tryd.ntmps82
  go_wp2
  all_goals
    go_ret
    exact ⟨ret_boolE (by simp_all [wordsL]), rfl⟩

theorem words_any (w : World) : Calls Tryd.prog 78 #[] w fun e w' => ∃ v, e = .returned v ∧ Vs sv w' v wordsL ∧ Fr Non w w' := by
  have hv := ow_lit (f := sv) (E := 9) w 0 _ wordsL #[.string ⟨#[97, 110, 100]⟩, .string ⟨#[111, 114]⟩, .string ⟨#[110, 111, 116]⟩, .string ⟨#[105, 115]⟩, .string ⟨#[110, 117, 108, 108]⟩, .string ⟨#[108, 105, 107, 101]⟩, .string ⟨#[116, 114, 117, 101]⟩, .string ⟨#[102, 97, 108, 115, 101]⟩, .string ⟨#[115, 101, 108, 101, 99, 116]⟩, .string ⟨#[102, 114, 111, 109]⟩, .string ⟨#[119, 104, 101, 114, 101]⟩, .string ⟨#[103, 114, 111, 117, 112]⟩, .string ⟨#[98, 121]⟩, .string ⟨#[97, 108, 108]⟩, .string ⟨#[99, 111, 117, 110, 116]⟩, .string ⟨#[104, 97, 115]⟩, .string ⟨#[115, 117, 109]⟩, .string ⟨#[109, 105, 110]⟩, .string ⟨#[109, 97, 120]⟩] rfl rfl (Nat.zero_le _) (by unfold maxLen; decide)
  have HV := Lib.hid hv.vs
  clear hv
  go_enter Tryd.func78, Tryd.ntmps78
  go_wp2
  go_ret
  exact ⟨_, rfl, HV.out, (Fr.refl _ _).alloc _⟩
end Go.Proofs.YtpmipdnmhffkeaaDoor


namespace Go.Proofs.YtpmipdnmhffkeaaDoor
set_option linter.unusedVariables false
set_option linter.unusedSimpArgs false
set_option maxRecDepth 100000
open Go.RowKit

theorem slenN (l : List UInt8) : ByteArray.size ⟨l.toArray⟩ = l.length := by simp [ByteArray.size]
theorem not_word {l : List UInt8} (h : ∀ j (hj : j < wordsL.length), wordsL[j] ≠ l) : l ∉ wordsL := by
  intro hm
  obtain ⟨j, hj, e⟩ := List.mem_iff_getElem.1 hm
  exact h j hj e
theorem nmOk_more {l : List UInt8} {k : Nat} (h : ∀ j (hj : j < l.length), j < k → okI j (l[j]).toNat = true) (hk : k < l.length) (hc : okI k (l[k]).toNat = true) : ∀ j (hj : j < l.length), j < k + 1 → okI j (l[j]).toNat = true := by
  intro j hj hlt
  by_cases e : j = k
  · subst e; exact hc
  · exact h j hj (by omega)

set_option maxHeartbeats 2000000 in
theorem rname_any (l : List UInt8) (w : World) (hl : l.length ≤ 1000000000) : Calls Tryd.prog 66 #[.string ⟨l.toArray⟩] w fun e w' => e = .returned (.bool (nameB l)) ∧ Fr Non w w' := by
  have hs := slenN l
  go_enter Tryd.func66, Tryd.ntmps66
  go_wp2
  go_loop [3] (fun i => ∃ k : Nat, k ≤ l.length ∧ i = .int .i64 k ∧ Hid (∀ j (hj : j < l.length), j < k → okI j (l[j]).toNat = true)) (fun i => l.length - (intOf i).toNat)
  case atStart => exact ⟨0, by omega, rfl, Lib.hid (fun _ _ h => by omega)⟩
  case round =>
    obtain ⟨k, hk, rfl, hok⟩ := hrel
    by_cases hlt : k < l.length
    · obtain ⟨c, hc⟩ : ∃ c, l[k] = c := ⟨_, rfl⟩
      have hb := byte_at l k c hlt hc
      have HC := Lib.hid hc
      clear hc
      have HM := Lib.hid (fun (h : okI k c.toNat = true) => nmOk_more hok.out hlt (by rw [HC.out]; exact h))
      have HX := Lib.hid (fun (h : okI k c.toNat = false) => name_bad hlt (by rw [HC.out]; exact h))
      clear HC hok
      go_wp2
      all_goals first
        | (go_ret
           refine ⟨ret_boolE (HX.out ?_).symm, Fr.refl _ _⟩
           clear HX HM hb hs
           rw [Bool.eq_false_iff]
           intro hh
           simp [okI, ltrI, dgtI] at *
           done)
        | (go_ret
           refine ⟨ret_boolE (HX.out ?_).symm, Fr.refl _ _⟩
           clear HX HM hb hs
           rw [Bool.eq_false_iff]
           intro hh
           simp [okI, ltrI, dgtI] at *
           omega)
        | (go_roundw
           case rel =>
             refine ⟨k + 1, by omega, by go_num, Lib.hid (HM.out ?_)⟩
             clear HX HM hb hs
             simp [okI, ltrI, dgtI] at *
             omega
           case measure => simp [intOf]; omega)
        | (go_roundw
           case rel =>
             refine ⟨k + 1, by omega, by go_num, Lib.hid (HM.out ?_)⟩
             clear HX HM hb hs
             simp [okI, ltrI, dgtI] at *
             done
           case measure => simp [intOf]; omega)
    · have HO : Hid (nmOk l) := Lib.hid (fun j hj => hok.out j hj (by omega))
      clear hok
      go_wp2_with fail
      refine (words_any _).mono ?_
      rintro e w1 ⟨v, rfl, hv, hf1⟩
      have hw : wordsL.length = 19 := rfl
      obtain ⟨A, c, he, hc, hn, hcell⟩ := hv
      rw [hw] at he hc
      subst he
      have HN := Lib.hid hn
      have HCE := Lib.hid hcell
      have HF := Lib.hid hf1
      clear hn hcell hf1
      go_wp2
      go_loop [8] (fun i => ∃ q : Nat, q ≤ 19 ∧ i = .int .i64 q ∧ Hid (∀ j (hj : j < wordsL.length), j < q → wordsL[j] ≠ l)) (fun i => 19 - (intOf i).toNat)
      case atStart => exact ⟨0, by omega, rfl, Lib.hid (fun _ _ h => by omega)⟩
      case round =>
        obtain ⟨q, hq, rfl, hne⟩ := hrel
        by_cases hlq : q < 19
        · cases A with
          | none => have := HN.out rfl; omega
          | some a =>
            have hql : q < wordsL.length := by rw [hw]; exact hlq
            have hce := HCE.out a rfl q hql
            unfold sv at hce
            by_cases he : wordsL[q] = l
            · have HE := Lib.hid (name_word (l := l) (by rw [← he]; exact List.getElem_mem hql))
              rw [he] at hce
              clear he
              go_wp2
              go_ret
              exact ⟨ret_boolE HE.out.symm, HF.out⟩
            · have HE : Hid (∀ j (hj : j < wordsL.length), j < q + 1 → wordsL[j] ≠ l) := Lib.hid (fun j hj hlt => by
                by_cases e : j = q
                · subst e; exact he
                · exact hne.out j hj (by omega))
              have hb : (wordsL[q] == l) = false := by rw [beq_eq_false_iff_ne]; exact he
              clear he hne
              generalize wordsL[q] = x at *
              go_wp2
              go_roundw
              case rel => exact ⟨q + 1, by omega, by go_num, HE⟩
              case measure => simp [intOf]; omega
        · have HW : Hid (l ∉ wordsL) := Lib.hid (not_word fun j hj => hne.out j hj (by rw [hw] at hj; omega))
          clear hne
          by_cases h1 : 1 ≤ l.length
          · by_cases h2 : l.length ≤ 12
            · have H := Lib.hid (name_yes h1 h2 HW.out HO.out)
              go_wp2
              go_ret
              exact ⟨ret_boolE (by rw [H.out]; exact decide_eq_true (by omega)), HF.out⟩
            · have H := Lib.hid (name_long (l := l) (by omega))
              go_wp2
              go_ret
              exact ⟨ret_boolE (by rw [H.out]; exact decide_eq_false (by omega)), HF.out⟩
          · have H := Lib.hid (name_nil (l := l) (by omega))
            go_wp2
            go_ret
            exact ⟨ret_boolE H.out.symm, HF.out⟩

set_option maxHeartbeats 2000000 in
theorem sname_any (l : List UInt8) (w : World) (hl : l.length ≤ 1000000000) : Calls Tryd.prog 71 #[.string ⟨l.toArray⟩] w fun e w' => e = .returned (.bool (nameB l)) ∧ Fr Non w w' := by
  have hs := slenN l
  by_cases h0 : l = []
  · subst h0
    go_enter Tryd.func71, Tryd.ntmps71
    go_wp2
    go_ret
    exact ⟨rfl, Fr.refl _ _⟩
  · have h0b : (l == []) = false := by rw [beq_eq_false_iff_ne]; exact h0
    have HL : Hid (1 ≤ l.length) := Lib.hid (Nat.pos_of_ne_zero (fun e => h0 (List.eq_nil_of_length_eq_zero e)))
    clear h0
    by_cases h12 : 12 < l.length
    · have H := Lib.hid (name_long h12)
      go_enter Tryd.func71, Tryd.ntmps71
      go_wp2
      go_ret
      exact ⟨ret_boolE H.out.symm, Fr.refl _ _⟩
    · have HI := fun W => isword_any l W
      cases hw : decide (l ∈ wordsL)
      · simp only [hw] at HI
        have HW := Lib.hid (of_decide_eq_false hw)
        clear hw
        replace HI := Lib.hid HI
        go_enter Tryd.func71, Tryd.ntmps71
        go_wp2_with fail
        refine (HI.out _).mono ?_
        rintro e w1 ⟨rfl, rfl⟩
        clear HI
        go_wp2
        go_loopw [3, 4] (fun _ _ wr => ∃ k : Nat, k ≤ l.length ∧ wr = w.iter ⟨l.toArray⟩ k ∧ Hid (∀ j (hj : j < l.length), j < k → okI j (l[j]).toNat = true)) (fun _ _ wr => l.length - wr.iterPos w.heap.size)
        case atStart => exact ⟨0, by omega, rfl, Lib.hid (fun _ _ h => by omega)⟩
        case round =>
          obtain ⟨k, hk, rfl, hok⟩ := hrel
          by_cases hlt : k < l.length
          · obtain ⟨c, hc⟩ : ∃ c, l[k] = c := ⟨_, rfl⟩
            have hm := World.iterPos_iter w ⟨l.toArray⟩ k
            have HC := Lib.hid hc
            have hbk : (⟨l.toArray⟩ : ByteArray)[k]'(by rw [hs]; exact hlt) = c := hc
            clear hc
            have HM := Lib.hid (fun (h : okI k c.toNat = true) => nmOk_more hok.out hlt (by rw [HC.out]; exact h))
            have HX := Lib.hid (fun (h : okI k c.toNat = false) => name_bad hlt (by rw [HC.out]; exact h))
            clear HC hok
            by_cases hhi : c.toNat < 128
            · have hn := fun ty => run_next_ascii (P := Tryd.prog) w ⟨l.toArray⟩ k ty (by rw [hs]; exact hlt) (by rw [hbk]; exact hhi)
              rw [hbk] at hn
              clear hbk hhi
              have hm1 := World.iterPos_iter w ⟨l.toArray⟩ (k + 1)
              have FR1 := Lib.hid ((Fr.refl Non w).alloc (.stringIter ⟨l.toArray⟩ (k + 1)))
              replace hm1 := Lib.hid hm1
              change Hid (Fr Non w (w.iter ⟨l.toArray⟩ (k + 1))) at FR1
              have HM1 := hm1
              clear hm1
              have HL1 := fun W => isletter_any c.toNat W
              have HD1 := fun W => isdigit_any c.toNat W
              cases hL : ltrI c.toNat
              · simp only [hL] at HL1
                replace HL1 := Lib.hid HL1
                by_cases hk0 : k = 0
                · subst hk0
                  replace HX := Lib.hid (HX.out (by simp [okI, hL]))
                  clear HD1 HM hL
                  go_wp2_with fail
                  refine (HL1.out _).mono ?_
                  rintro e w1 ⟨rfl, rfl⟩
                  clear HL1
                  go_wp2
                  go_ret
                  exact ⟨ret_boolE HX.out.symm, FR1.out⟩
                · have hkb : ((k : Int) == 0) = false := by rw [beq_eq_false_iff_ne]; omega
                  have HK0 := Lib.hid hk0
                  clear hk0
                  cases hD : dgtI c.toNat
                  · simp only [hD] at HD1
                    replace HD1 := Lib.hid HD1
                    by_cases h95 : (c.toNat : Int) = 95
                    · replace HM := Lib.hid (HM.out (by simp [okI, hL, hD, h95]; exact .inr HK0.out))
                      have h95b : ((c.toNat : Int) == 95) = true := by rw [beq_iff_eq]; exact h95
                      clear HX hL hD h95
                      go_wp2_with fail
                      refine (HL1.out _).mono ?_
                      rintro e w1 ⟨rfl, rfl⟩
                      clear HL1
                      go_wp2_with fail
                      refine (HD1.out _).mono ?_
                      rintro e w1 ⟨rfl, rfl⟩
                      clear HD1
                      go_wp2
                      go_roundw
                      case rel => exact ⟨k + 1, by omega, rfl, HM⟩
                      case measure => rw [hm, HM1.out]; omega
                    · replace HX := Lib.hid (HX.out (by simp [okI, hL, hD, h95]))
                      have h95b : ((c.toNat : Int) == 95) = false := by rw [beq_eq_false_iff_ne]; exact h95
                      clear HM hL hD h95
                      go_wp2_with fail
                      refine (HL1.out _).mono ?_
                      rintro e w1 ⟨rfl, rfl⟩
                      clear HL1
                      go_wp2_with fail
                      refine (HD1.out _).mono ?_
                      rintro e w1 ⟨rfl, rfl⟩
                      clear HD1
                      go_wp2
                      go_ret
                      exact ⟨ret_boolE HX.out.symm, FR1.out⟩
                  · simp only [hD] at HD1
                    replace HD1 := Lib.hid HD1
                    replace HM := Lib.hid (HM.out (by simp [okI, hL, hD]; exact HK0.out))
                    clear HX hL hD
                    go_wp2_with fail
                    refine (HL1.out _).mono ?_
                    rintro e w1 ⟨rfl, rfl⟩
                    clear HL1
                    go_wp2_with fail
                    refine (HD1.out _).mono ?_
                    rintro e w1 ⟨rfl, rfl⟩
                    clear HD1
                    go_wp2
                    go_roundw
                    case rel => exact ⟨k + 1, by omega, rfl, HM⟩
                    case measure => rw [hm, HM1.out]; omega
              · simp only [hL] at HL1
                replace HL1 := Lib.hid HL1
                replace HM := Lib.hid (HM.out (by simp [okI, hL]))
                clear HX hL HD1
                go_wp2_with fail
                refine (HL1.out _).mono ?_
                rintro e w1 ⟨rfl, rfl⟩
                clear HL1
                go_wp2
                go_roundw
                case rel => exact ⟨k + 1, by omega, rfl, HM⟩
                case measure => rw [hm, HM1.out]; omega
            · have hn := fun ty => run_next_any (P := Tryd.prog) w ⟨l.toArray⟩ k ty (by rw [hs]; exact hlt)
              have hr := (decode_high ⟨l.toArray⟩ k (by rw [hs]; exact hlt) (by rw [hbk]; omega)).1
              replace HX := Lib.hid (HX.out (okI_high (by omega)))
              clear HM hbk
              generalize (Utf8.decode ⟨l.toArray⟩ k).1 = r at *
              generalize k + (Utf8.decode ⟨l.toArray⟩ k).2 = p at *
              have FR1 := Lib.hid ((Fr.refl Non w).alloc (.stringIter ⟨l.toArray⟩ p))
              change Hid (Fr Non w (w.iter ⟨l.toArray⟩ p)) at FR1
              have HL1 := fun W => isletter_any r W
              have HD1 := fun W => isdigit_any r W
              have e1 : ltrI r = false := by simp [ltrI]; omega
              have e2 : dgtI r = false := by simp [dgtI]; omega
              have h95b : ((r : Int) == 95) = false := by rw [beq_eq_false_iff_ne]; omega
              simp only [e1] at HL1
              simp only [e2] at HD1
              replace HL1 := Lib.hid HL1
              replace HD1 := Lib.hid HD1
              clear e1 e2 hr hhi
              by_cases hk0 : k = 0
              · subst hk0
                clear HD1
                go_wp2_with fail
                refine (HL1.out _).mono ?_
                rintro e w1 ⟨rfl, rfl⟩
                clear HL1
                go_wp2
                go_ret
                exact ⟨ret_boolE HX.out.symm, FR1.out⟩
              · have hkb : ((k : Int) == 0) = false := by rw [beq_eq_false_iff_ne]; omega
                clear hk0
                go_wp2_with fail
                refine (HL1.out _).mono ?_
                rintro e w1 ⟨rfl, rfl⟩
                clear HL1
                go_wp2_with fail
                refine (HD1.out _).mono ?_
                rintro e w1 ⟨rfl, rfl⟩
                clear HD1
                go_wp2
                go_ret
                exact ⟨ret_boolE HX.out.symm, FR1.out⟩
          · have hn := fun ty => run_next_end (P := Tryd.prog) w ⟨l.toArray⟩ k ty (by rw [hs]; exact hlt)
            have H := Lib.hid (name_yes HL.out (by omega) HW.out (fun j hj => hok.out j hj (by omega)))
            clear hok
            go_wp2
            go_ret
            exact ⟨ret_boolE H.out.symm, (Fr.refl _ _).alloc _⟩
      · simp only [hw] at HI
        have H := Lib.hid (name_word (of_decide_eq_true hw))
        clear hw
        replace HI := Lib.hid HI
        go_enter Tryd.func71, Tryd.ntmps71
        go_wp2_with fail
        refine (HI.out _).mono ?_
        rintro e w1 ⟨rfl, rfl⟩
        go_wp2
        go_ret
        exact ⟨ret_boolE H.out.symm, Fr.refl _ _⟩
end Go.Proofs.YtpmipdnmhffkeaaDoor


namespace Go.Proofs.YtpmipdnmhffkeaaDoor
set_option linter.unusedVariables false
set_option linter.unusedSimpArgs false
set_option maxRecDepth 100000
open Go.RowKit

theorem ask_no {h : Ph} (hn : nameB h.col = false) : askOk h = false := by unfold askOk; rw [hn]; rfl
theorem ask_cmp {h : Ph} (hn : nameB h.col = true) (h2 : h.op = 2) : askOk h = (decide (1 ≤ h.cmp ∧ h.cmp ≤ 6) && mayC h.kind false h.val && peq h ⟨h.op, h.col, h.cmp, h.val, h.kind, []⟩) := by
  unfold askOk; rw [hn, if_pos h2]; rfl
theorem ask_like {h : Ph} (hn : nameB h.col = true) (h2 : h.op = 4) : askOk h = (decide (h.pat.length ≤ 40) && peq h ⟨h.op, h.col, 0, zCl, 0, h.pat⟩) := by
  unfold askOk; rw [hn, if_neg (by omega), if_pos h2]; rfl
theorem ask_nul {h : Ph} (hn : nameB h.col = true) (h2 : ¬ h.op = 2) (h4 : ¬ h.op = 4) : askOk h = peq h ⟨h.op, h.col, 0, zCl, 0, []⟩ := by
  unfold askOk; rw [hn, if_neg h2, if_neg h4]; rfl

theorem iscmp_any (n : Int) (w : World) : Calls Tryd.prog 79 #[.int .i64 n] w fun e w' => e = .returned (.bool (decide (1 ≤ n ∧ n ≤ 6))) ∧ Fr Non w w' := by
  by_cases h : 1 ≤ n
  · go_enter Tryd.func79, Tryd.ntmps79
    go_wp2
    go_ret
    exact ⟨ret_boolE (by simp [h]), Fr.refl _ _⟩
  · go_enter Tryd.func79, Tryd.ntmps79
    go_wp2
    go_ret
    exact ⟨ret_boolE (by simp; omega), Fr.refl _ _⟩

set_option maxHeartbeats 2000000 in
theorem mayask_any (h : Ph) (s : Kv) (w : World) (hl : h.col.length ≤ 1000000000) : Calls Tryd.prog 68 #[pdV h s] w fun e w' => e = .returned (.bool (askOk h)) ∧ Fr Non w w' := by
  have N1 := fun W => sname_any h.col W hl
  have B0 := Lib.hid (pd_new w _ h s rfl)
  have F0 : Hid (Fr Non w _) := Lib.hid ((Fr.refl Non w).alloc (.cells (pdC h s) 27))
  have H1 := Lib.hid (fun hn => ask_no (h := h) hn)
  have H2 := Lib.hid (fun hn h2 => ask_cmp (h := h) hn h2)
  have H3 := Lib.hid (fun hn h2 => ask_like (h := h) hn h2)
  have H4 := Lib.hid (fun hn h2 h4 => ask_nul (h := h) hn h2 h4)
  have A2 := Lib.hid (fun W => alike_any h ⟨h.op, h.col, h.cmp, h.val, h.kind, []⟩ s noKv W)
  have A3 := Lib.hid (fun W => alike_any h ⟨h.op, h.col, 0, zCl, 0, h.pat⟩ s noKv W)
  have A4 := Lib.hid (fun W => alike_any h ⟨h.op, h.col, 0, zCl, 0, []⟩ s noKv W)
  have C1 := Lib.hid (fun W => iscmp_any h.cmp W)
  have C2 := Lib.hid (fun W => may_any h.kind false h.val W)
  obtain ⟨op, col, cmp, ⟨vn, vi, vt⟩, kind, pat⟩ := h
  obtain ⟨sA, sn, sc⟩ := s
  have hs := slen pat
  dsimp only at *
  unfold pdV pdC kidV at *
  unfold noKv at A2 A3 A4
  unfold zCl at A3 A4
  unfold clV clC at C2
  dsimp only at *
  cases hn : nameB col
  · have HE := Lib.hid (H1.out hn)
    simp only [hn] at N1
    replace N1 := Lib.hid N1
    clear H1 H2 H3 H4 A2 A3 A4 C1 C2 hn
    go_enter Tryd.func68, Tryd.ntmps68
    go_wp2_with fail
    refine (N1.out _).mono ?_
    rintro e w1 ⟨rfl, f1⟩
    go_wp2
    go_ret
    exact ⟨ret_boolE HE.out.symm, F0.out.trans f1⟩
  · simp only [hn] at N1
    replace N1 := Lib.hid N1
    by_cases h2 : op = 2
    · have HE := Lib.hid (H2.out hn h2)
      clear H1 H2 H3 H4 A3 A4 hn
      subst h2
      go_enter Tryd.func68, Tryd.ntmps68
      go_wp2_with fail
      refine (N1.out _).mono ?_
      rintro e w1 ⟨rfl, f1⟩
      obtain ⟨g0, g1, g2, g3, g4, g5, g6, g7, g8⟩ := pdB_cells (B0.out.fr f1 (fun e => e))
      have B1 := Lib.hid (B0.out.fr f1 (fun e => e))
      dsimp only at g0 g1 g2 g3 g4 g5 g6 g7 g8
      generalize hc : decide (1 ≤ cmp ∧ cmp ≤ 6) = b1 at *
      clear hc
      have F1 := Lib.hid (F0.out.trans f1)
      clear f1 F0 B0
      go_wp2_with fail
      refine (C1.out _).mono ?_
      rintro e w2 ⟨rfl, f2⟩
      clear g0 g1 g2 g3 g4 g5 g6 g7 g8
      obtain ⟨g0, g1, g2, g3, g4, g5, g6, g7, g8⟩ := pdB_cells (B1.out.fr f2 (fun e => e))
      have B2 := Lib.hid (B1.out.fr f2 (fun e => e))
      have F2 := Lib.hid (F1.out.trans f2)
      dsimp only at g0 g1 g2 g3 g4 g5 g6 g7 g8
      clear f2 F1 B1
      cases b1
      · go_wp2
        go_ret
        exact ⟨ret_boolE (by rw [HE.out]; rfl), F2.out⟩
      · generalize hc : mayC kind false ⟨vn, vi, vt⟩ = b2 at *
        clear hc
        go_wp2_with fail
        refine (C2.out _).mono ?_
        rintro e w3 ⟨rfl, f3⟩
        clear g0 g1 g2 g3 g4 g5 g6 g7 g8
        obtain ⟨g0, g1, g2, g3, g4, g5, g6, g7, g8⟩ := pdB_cells (B2.out.fr f3 (fun e => e))
        have F3 := Lib.hid (F2.out.trans f3)
        dsimp only at g0 g1 g2 g3 g4 g5 g6 g7 g8
        clear f3 F2 B2
        cases b2
        · go_wp2
          go_ret
          exact ⟨ret_boolE (by rw [HE.out]; rfl), F3.out⟩
        · go_wp2_with fail
          refine (A2.out _).mono ?_
          rintro e w4 ⟨rfl, f4⟩
          go_wp2
          go_ret
          exact ⟨ret_boolE (by rw [HE.out]; rfl), F3.out.trans f4⟩
    · by_cases h4 : op = 4
      · have HE := Lib.hid (H3.out hn h4)
        clear H1 H2 H3 H4 A2 A4 hn C1 C2 h2
        subst h4
        go_enter Tryd.func68, Tryd.ntmps68
        go_wp2_with fail
        refine (N1.out _).mono ?_
        rintro e w1 ⟨rfl, f1⟩
        obtain ⟨g0, g1, g2, g3, g4, g5, g6, g7, g8⟩ := pdB_cells (B0.out.fr f1 (fun e => e))
        dsimp only at g0 g1 g2 g3 g4 g5 g6 g7 g8
        have F1 := Lib.hid (F0.out.trans f1)
        clear f1 F0 B0
        by_cases h40 : pat.length ≤ 40
        · go_wp2_with fail
          refine (A3.out _).mono ?_
          rintro e w4 ⟨rfl, f4⟩
          go_wp2
          go_ret
          exact ⟨ret_boolE (by rw [HE.out, decide_eq_true h40]; rfl), F1.out.trans f4⟩
        · go_wp2
          go_ret
          exact ⟨ret_boolE (by rw [HE.out, decide_eq_false h40]; simp), F1.out⟩
      · have HE := Lib.hid (H4.out hn h2 h4)
        clear H1 H2 H3 H4 A2 A3 hn C1 C2
        go_enter Tryd.func68, Tryd.ntmps68
        go_wp2_with fail
        refine (N1.out _).mono ?_
        rintro e w1 ⟨rfl, f1⟩
        obtain ⟨g0, g1, g2, g3, g4, g5, g6, g7, g8⟩ := pdB_cells (B0.out.fr f1 (fun e => e))
        dsimp only at g0 g1 g2 g3 g4 g5 g6 g7 g8
        have F1 := Lib.hid (F0.out.trans f1)
        clear f1 F0 B0
        go_wp2_with fail
        refine (A4.out _).mono ?_
        rintro e w4 ⟨rfl, f4⟩
        go_wp2
        go_ret
        exact ⟨ret_boolE (by rw [HE.out]; rfl), F1.out.trans f4⟩

/-! ### One of those within -/
theorem haskid1_any (h : Ph) (s : Kv) (op : Int) (g : Nat) (w : World) (hg : Blk w g 3 #[.int .i64 op]) :
    Calls Tryd.prog 81 #[pdV h s, .pointer (some ⟨g, 0, none⟩)] w fun e w' => e = .returned (.bool (h.op == op)) ∧ Fr Non w w' := by
  have F0 : Hid (Fr Non w _) := Lib.hid ((Fr.refl Non w).alloc (.cells (pdC h s) 27))
  have g0 := (hg.fr (F0.out) (fun e => e)).cell 0
  simp at g0
  obtain ⟨hop, col, cmp, ⟨vn, vi, vt⟩, kind, pat⟩ := h
  obtain ⟨sA, sn, sc⟩ := s
  unfold pdV pdC kidV at *
  dsimp only at *
  go_enter Tryd.func81, Tryd.ntmps81
  go_wp2
  go_ret
  exact ⟨rfl, F0.out⟩
end Go.Proofs.YtpmipdnmhffkeaaDoor


namespace Go.Proofs.YtpmipdnmhffkeaaDoor
set_option linter.unusedVariables false
set_option linter.unusedSimpArgs false
set_option maxRecDepth 100000
open Go.RowKit

theorem kidOp_more {op : Int} {ks : List Pd} {k : Nat} (h : k < ks.length) (h1 : (ks.take k).any (fun x => x.hd.op == op) = false) (h2 : (ks[k].hd.op == op) = false) : (ks.take (k + 1)).any (fun x => x.hd.op == op) = false := by
  rw [List.take_succ_eq_append_getElem h, List.any_append, h1]; simp [h2]
set_option maxHeartbeats 2000000 in
theorem pidx_any (s : Kv) (ks : List Pd) (op : Int) (g : Nat) (w : World) (hk : Kd w s ks) (hg : Blk w g 3 #[.int .i64 op]) (hl : ks.length ≤ 1000000000) :
    Calls Tryd.prog 87 #[kidV s, .func (.func 81) #[] #[.pointer (some ⟨g, 0, none⟩)]] w fun e w' => ∃ z : Int, e = .returned (.int .i64 z) ∧ decide (0 ≤ z) = kidOp op ks ∧ Fr Non w w' := by
  have hn := hk.len
  have HK := Lib.hid hk
  have HG := Lib.hid hg
  clear hk hg
  obtain ⟨A, n, c⟩ := s
  dsimp only at hn
  subst hn
  unfold kidV
  dsimp only
  go_enter Tryd.func87, Tryd.ntmps87
  go_wp2
  go_loopw [8] (fun i wr => ∃ (k : Nat), k ≤ ks.length ∧ i = .int .i64 k ∧ Hid ((ks.take k).any (fun x => x.hd.op == op) = false) ∧ Fr Non w wr) (fun i _ => ks.length - (intOf i).toNat)
  case atStart => exact ⟨0, Nat.zero_le _, rfl, Lib.hid rfl, Fr.refl _ _⟩
  case round =>
    obtain ⟨k, hk, rfl, hne, hfr⟩ := hrel
    by_cases hlt : k < ks.length
    · obtain ⟨a, t, hA, hc, _, _⟩ := (HK.out.non hfr).el k hlt
      dsimp only at hA
      subst hA
      obtain ⟨c0, c1, c2, c3, c4, c5, c6, c7, c8⟩ := hc
      have HY := Lib.hid (fun h => kidOp_more hlt hne.out h)
      have HX : Hid ((ks[k].hd.op == op) = true → kidOp op ks = true) := Lib.hid (fun h => List.any_eq_true.2 ⟨_, List.getElem_mem hlt, h⟩)
      have M := fun W h => haskid1_any ks[k].hd t op g W h
      have HB := Lib.hid (HG.out.fr hfr (fun e => e))
      clear hne
      generalize ks[k].hd = x at *
      obtain ⟨xo, xc, xm, ⟨xn, xi, xt⟩, xk, xp⟩ := x
      obtain ⟨tA, tn, tc⟩ := t
      unfold pdV pdC kidV at M
      dsimp only at c0 c1 c2 c3 c4 c5 c6 c7 c8 HY HX M
      have HF := Lib.hid hfr
      clear hfr
      cases hx : (xo == op)
      · have HE := Lib.hid (HY.out hx)
        simp only [hx] at M
        replace M := Lib.hid M
        clear HX HY hx
        go_wp2_with fail
        refine (M.out _ HB.out).mono ?_
        rintro e w2 ⟨rfl, f2⟩
        go_wp2
        go_roundw
        case rel => exact ⟨k + 1, by omega, by go_num, HE, HF.out.trans f2⟩
        case measure => simp [intOf]; omega
      · have HE := Lib.hid (HX.out hx)
        simp only [hx] at M
        replace M := Lib.hid M
        clear HX HY hx
        go_wp2_with fail
        refine (M.out _ HB.out).mono ?_
        rintro e w2 ⟨rfl, f2⟩
        go_wp2
        go_ret
        exact ⟨_, rfl, by rw [HE.out]; exact decide_eq_true (by omega), HF.out.trans f2⟩
    · have HE : Hid (kidOp op ks = false) := Lib.hid (by have := hne.out; rwa [List.take_of_length_le (by omega)] at this)
      clear hne
      go_wp2
      go_ret
      exact ⟨_, rfl, by rw [HE.out]; rfl, hfr⟩
theorem pcont_any (s : Kv) (ks : List Pd) (op : Int) (g : Nat) (w : World) (hk : Kd w s ks) (hg : Blk w g 3 #[.int .i64 op]) (hl : ks.length ≤ 1000000000) :
    Calls Tryd.prog 80 #[kidV s, .func (.func 81) #[] #[.pointer (some ⟨g, 0, none⟩)]] w fun e w' => e = .returned (.bool (kidOp op ks)) ∧ Fr Non w w' := by
  have h0 := Lib.hid (pidx_any s ks op g w hk hg hl)
  clear hk hg
  obtain ⟨A, n, c⟩ := s
  unfold kidV at *
  dsimp only at *
  go_enter Tryd.func80, Tryd.ntmps80
  go_wp2_with fail
  refine h0.out.mono ?_
  rintro e w1 ⟨z, rfl, hz, f1⟩
  go_wp2
  go_ret
  exact ⟨rfl, f1⟩
theorem haskid_any (h : Ph) (s : Kv) (ks : List Pd) (op : Int) (w : World) (hk : Kd w s ks) (hl : ks.length ≤ 1000000000) :
    Calls Tryd.prog 69 #[pdV h s, .int .i64 op] w fun e w' => e = .returned (.bool (kidOp op ks)) ∧ Fr Non w w' := by
  have F0 : Hid (Fr Non w ((w.alloc (.cells (pdC h s) 27)).alloc (.cells #[.int .i64 op] 3))) := Lib.hid (((Fr.refl Non w).alloc _).alloc _)
  have e1 : (w.alloc (.cells (pdC h s) 27)).heap.size = w.heap.size + 1 := by simp
  have b2 := Blk.new (w.alloc (.cells (pdC h s) 27)) 3 #[.int .i64 op]
  rw [e1] at b2
  have C1 := Lib.hid (pcont_any s ks op _ _ (hk.non F0.out) b2 hl)
  have hmf : ∀ (fn : Fn) (first cap : Array Value) (w : World), (Instr.makeFunc fn first cap).run Tryd.prog w = .ok (.func fn first cap) w := fun _ _ _ _ => rfl
  clear hk b2 e1
  obtain ⟨ho, hc, hm, ⟨hn, hi, ht⟩, hk', hp⟩ := h
  obtain ⟨A, n, c⟩ := s
  unfold pdV pdC kidV at *
  dsimp only at *
  go_enter Tryd.func69, Tryd.ntmps69
  go_wp2_with fail
  refine C1.out.mono ?_
  rintro e w1 ⟨rfl, f1⟩
  go_wp2
  go_ret
  exact ⟨rfl, F0.out.trans f1⟩

/-! ### One alone -/
theorem hd_one {h : Ph} {ks : List Pd} (e : h.op = 1) : hdOk h ks = (decide (ks.length = 0) && peq h ⟨h.op, [], 0, zCl, 0, []⟩) := by unfold hdOk; rw [if_pos e]; rfl
theorem hd_ask {h : Ph} {ks : List Pd} (e : h.op = 2 ∨ h.op = 3 ∨ h.op = 4) : hdOk h ks = (decide (ks.length = 0) && askOk h) := by unfold hdOk; rw [if_neg (by omega), if_pos e]
theorem hd_not {h : Ph} {ks : List Pd} (e : h.op = 5) : hdOk h ks = (decide (ks.length = 1) && peq h ⟨h.op, [], 0, zCl, 0, []⟩) := by unfold hdOk; rw [if_neg (by omega), if_neg (by omega), if_pos e]; rfl
theorem hd_two {h : Ph} {ks : List Pd} (e : h.op = 6 ∨ h.op = 7) : hdOk h ks = (decide (1 < ks.length) && peq h ⟨h.op, [], 0, zCl, 0, []⟩ && !kidOp h.op ks) := by unfold hdOk; rw [if_neg (by omega), if_neg (by omega), if_neg (by omega), if_pos e]; rfl
theorem hd_none {h : Ph} {ks : List Pd} (h1 : ¬ h.op = 1) (h2 : ¬ (h.op = 2 ∨ h.op = 3 ∨ h.op = 4)) (h3 : ¬ h.op = 5) (h4 : ¬ (h.op = 6 ∨ h.op = 7)) : hdOk h ks = false := by unfold hdOk; rw [if_neg h1, if_neg h2, if_neg h3, if_neg h4]

set_option maxHeartbeats 4000000 in
theorem alone_any (h : Ph) (s : Kv) (ks : List Pd) (w : World) (hk : Kd w s ks) (hl : ks.length ≤ 1000000000) (hc : h.col.length ≤ 1000000000) :
    Calls Tryd.prog 52 #[pdV h s] w fun e w' => e = .returned (.bool (hdOk h ks)) ∧ Fr Non w w' := by
  have hn := hk.len
  have B0 := Lib.hid (pd_new w _ h s rfl)
  have F0 : Hid (Fr Non w _) := Lib.hid ((Fr.refl Non w).alloc (.cells (pdC h s) 27))
  have HK := Lib.hid (hk.non F0.out)
  have A1 := Lib.hid (fun W => alike_any h ⟨h.op, [], 0, zCl, 0, []⟩ s noKv W)
  have A2 := Lib.hid (fun W => mayask_any h s W hc)
  have A3 := Lib.hid (fun W hk => haskid_any h s ks h.op W hk hl)
  have H1 := Lib.hid (fun e => hd_one (h := h) (ks := ks) e)
  have H2 := Lib.hid (fun e => hd_ask (h := h) (ks := ks) e)
  have H3 := Lib.hid (fun e => hd_not (h := h) (ks := ks) e)
  have H4 := Lib.hid (fun e => hd_two (h := h) (ks := ks) e)
  have H5 := Lib.hid (fun a b c d => hd_none (h := h) (ks := ks) a b c d)
  clear hk
  obtain ⟨op, col, cmp, ⟨vn, vi, vt⟩, kind, pat⟩ := h
  obtain ⟨sA, n, sc⟩ := s
  dsimp only at hn
  have HL := Lib.hid hn
  clear hn
  unfold pdV pdC kidV at *
  unfold noKv at A1
  unfold zCl at A1 H1 H3 H4
  dsimp only at *
  by_cases h1 : op = 1
  · subst h1
    have HE := Lib.hid (H1.out rfl)
    clear H1 H2 H3 H4 H5 A2 A3 HK
    by_cases h0 : n = 0
    · subst h0
      have HE2 := Lib.hid (decide_eq_true HL.out.symm)
      go_enter Tryd.func52, Tryd.ntmps52
      go_wp2_with fail
      refine (A1.out _).mono ?_
      rintro e w1 ⟨rfl, f1⟩
      go_wp2
      go_ret
      exact ⟨ret_boolE (by rw [HE.out, HE2.out]; rfl), F0.out.trans f1⟩
    · have hb : ((n : Int) == 0) = false := by rw [beq_eq_false_iff_ne]; omega
      have HE2 : Hid (decide (ks.length = 0) = false) := Lib.hid (decide_eq_false (fun e => h0 (HL.out.trans e)))
      clear h0
      go_enter Tryd.func52, Tryd.ntmps52
      go_wp2
      go_ret
      exact ⟨ret_boolE (by rw [HE.out, HE2.out]; rfl), F0.out⟩
  · by_cases h2 : op = 2
    · subst h2
      have HE := Lib.hid (H2.out (by omega))
      clear H1 H2 H3 H4 H5 A1 A3 HK
      by_cases h0 : n = 0
      · subst h0
        have HE2 := Lib.hid (decide_eq_true HL.out.symm)
        go_enter Tryd.func52, Tryd.ntmps52
        go_wp2_with fail
        refine (A2.out _).mono ?_
        rintro e w1 ⟨rfl, f1⟩
        go_wp2
        go_ret
        exact ⟨ret_boolE (by rw [HE.out, HE2.out]; rfl), F0.out.trans f1⟩
      · have hb : ((n : Int) == 0) = false := by rw [beq_eq_false_iff_ne]; omega
        have HE2 : Hid (decide (ks.length = 0) = false) := Lib.hid (decide_eq_false (fun e => h0 (HL.out.trans e)))
        clear h0
        go_enter Tryd.func52, Tryd.ntmps52
        go_wp2
        go_ret
        exact ⟨ret_boolE (by rw [HE.out, HE2.out]; rfl), F0.out⟩
    · by_cases h3 : op = 3
      · subst h3
        have HE := Lib.hid (H2.out (by omega))
        clear H1 H2 H3 H4 H5 A1 A3 HK
        by_cases h0 : n = 0
        · subst h0
          have HE2 := Lib.hid (decide_eq_true HL.out.symm)
          go_enter Tryd.func52, Tryd.ntmps52
          go_wp2_with fail
          refine (A2.out _).mono ?_
          rintro e w1 ⟨rfl, f1⟩
          go_wp2
          go_ret
          exact ⟨ret_boolE (by rw [HE.out, HE2.out]; rfl), F0.out.trans f1⟩
        · have hb : ((n : Int) == 0) = false := by rw [beq_eq_false_iff_ne]; omega
          have HE2 : Hid (decide (ks.length = 0) = false) := Lib.hid (decide_eq_false (fun e => h0 (HL.out.trans e)))
          clear h0
          go_enter Tryd.func52, Tryd.ntmps52
          go_wp2
          go_ret
          exact ⟨ret_boolE (by rw [HE.out, HE2.out]; rfl), F0.out⟩
      · by_cases h4 : op = 4
        · subst h4
          have HE := Lib.hid (H2.out (by omega))
          clear H1 H2 H3 H4 H5 A1 A3 HK
          by_cases h0 : n = 0
          · subst h0
            have HE2 := Lib.hid (decide_eq_true HL.out.symm)
            go_enter Tryd.func52, Tryd.ntmps52
            go_wp2_with fail
            refine (A2.out _).mono ?_
            rintro e w1 ⟨rfl, f1⟩
            go_wp2
            go_ret
            exact ⟨ret_boolE (by rw [HE.out, HE2.out]; rfl), F0.out.trans f1⟩
          · have hb : ((n : Int) == 0) = false := by rw [beq_eq_false_iff_ne]; omega
            have HE2 : Hid (decide (ks.length = 0) = false) := Lib.hid (decide_eq_false (fun e => h0 (HL.out.trans e)))
            clear h0
            go_enter Tryd.func52, Tryd.ntmps52
            go_wp2
            go_ret
            exact ⟨ret_boolE (by rw [HE.out, HE2.out]; rfl), F0.out⟩
        · by_cases h5 : op = 5
          · subst h5
            have HE := Lib.hid (H3.out rfl)
            clear H1 H2 H3 H4 H5 A2 A3 HK
            by_cases h0 : n = 1
            · subst h0
              have HE2 := Lib.hid (decide_eq_true HL.out.symm)
              go_enter Tryd.func52, Tryd.ntmps52
              go_wp2_with fail
              refine (A1.out _).mono ?_
              rintro e w1 ⟨rfl, f1⟩
              go_wp2
              go_ret
              exact ⟨ret_boolE (by rw [HE.out, HE2.out]; rfl), F0.out.trans f1⟩
            · have hb : ((n : Int) == 1) = false := by rw [beq_eq_false_iff_ne]; omega
              have HE2 : Hid (decide (ks.length = 1) = false) := Lib.hid (decide_eq_false (fun e => h0 (HL.out.trans e)))
              clear h0
              go_enter Tryd.func52, Tryd.ntmps52
              go_wp2
              go_ret
              exact ⟨ret_boolE (by rw [HE.out, HE2.out]; rfl), F0.out⟩
          · by_cases h6 : op = 6
            · subst h6
              have HE := Lib.hid (H4.out (by omega))
              clear H1 H2 H3 H4 H5 A2
              by_cases h0 : 1 < n
              · have HE2 : Hid (decide (1 < ks.length) = true) := Lib.hid (decide_eq_true (by have := HL.out; omega))
                generalize hq : peq ⟨6, col, cmp, ⟨vn, vi, vt⟩, kind, pat⟩ _ = q at *
                clear hq
                go_enter Tryd.func52, Tryd.ntmps52
                go_wp2_with fail
                refine (A1.out _).mono ?_
                rintro e w1 ⟨rfl, f1⟩
                obtain ⟨g0, g1, g2, g3, g4, g5, g6, g7, g8⟩ := pdB_cells (B0.out.fr f1 (fun e => e))
                dsimp only at g0 g1 g2 g3 g4 g5 g6 g7 g8
                have HK1 := Lib.hid (HK.out.non f1)
                have F1 := Lib.hid (F0.out.trans f1)
                clear f1 F0 B0
                cases q
                · go_wp2
                  go_ret
                  exact ⟨ret_boolE (by rw [HE.out, HE2.out]; rfl), F1.out⟩
                · go_wp2_with fail
                  refine (A3.out _ HK1.out).mono ?_
                  rintro e w2 ⟨rfl, f2⟩
                  go_wp2
                  go_ret
                  exact ⟨ret_boolE (by rw [HE.out, HE2.out]; rfl), F1.out.trans f2⟩
              · have HE2 : Hid (decide (1 < ks.length) = false) := Lib.hid (decide_eq_false (by have := HL.out; omega))
                clear A1 A3
                go_enter Tryd.func52, Tryd.ntmps52
                go_wp2
                go_ret
                exact ⟨ret_boolE (by rw [HE.out, HE2.out]; rfl), F0.out⟩
            · by_cases h7 : op = 7
              · subst h7
                have HE := Lib.hid (H4.out (by omega))
                clear H1 H2 H3 H4 H5 A2
                by_cases h0 : 1 < n
                · have HE2 : Hid (decide (1 < ks.length) = true) := Lib.hid (decide_eq_true (by have := HL.out; omega))
                  generalize hq : peq ⟨7, col, cmp, ⟨vn, vi, vt⟩, kind, pat⟩ _ = q at *
                  clear hq
                  go_enter Tryd.func52, Tryd.ntmps52
                  go_wp2_with fail
                  refine (A1.out _).mono ?_
                  rintro e w1 ⟨rfl, f1⟩
                  obtain ⟨g0, g1, g2, g3, g4, g5, g6, g7, g8⟩ := pdB_cells (B0.out.fr f1 (fun e => e))
                  dsimp only at g0 g1 g2 g3 g4 g5 g6 g7 g8
                  have HK1 := Lib.hid (HK.out.non f1)
                  have F1 := Lib.hid (F0.out.trans f1)
                  clear f1 F0 B0
                  cases q
                  · go_wp2
                    go_ret
                    exact ⟨ret_boolE (by rw [HE.out, HE2.out]; rfl), F1.out⟩
                  · go_wp2_with fail
                    refine (A3.out _ HK1.out).mono ?_
                    rintro e w2 ⟨rfl, f2⟩
                    go_wp2
                    go_ret
                    exact ⟨ret_boolE (by rw [HE.out, HE2.out]; rfl), F1.out.trans f2⟩
                · have HE2 : Hid (decide (1 < ks.length) = false) := Lib.hid (decide_eq_false (by have := HL.out; omega))
                  clear A1 A3
                  go_enter Tryd.func52, Tryd.ntmps52
                  go_wp2
                  go_ret
                  exact ⟨ret_boolE (by rw [HE.out, HE2.out]; rfl), F0.out⟩
              · have HE := Lib.hid (H5.out h1 (by omega) h5 (by omega))
                clear H1 H2 H3 H4 H5 A1 A2 A3 HK B0
                go_enter Tryd.func52, Tryd.ntmps52
                go_wp2
                go_ret
                exact ⟨ret_boolE HE.out.symm, F0.out⟩
end Go.Proofs.YtpmipdnmhffkeaaDoor


namespace Go.Proofs.YtpmipdnmhffkeaaDoor
set_option linter.unusedVariables false
set_option linter.unusedSimpArgs false
set_option maxRecDepth 100000
open Go.RowKit

theorem lenP_mk {h : Ph} {ks : List Pd} (e : lenP (.mk h ks) = true) : ks.length ≤ 20 ∧ h.col.length ≤ 100 ∧ h.pat.length ≤ 100 ∧ h.val.txt.length ≤ 100 ∧ ∀ k ∈ ks, lenP k = true := by
  rw [lenP, Bool.and_eq_true, lenL_all] at e
  unfold lenH at e
  have e1 := of_decide_eq_true e.1
  exact ⟨e1.1, e1.2.1, e1.2.2.1, e1.2.2.2, List.all_eq_true.1 e.2⟩
theorem allL_at {σ : Type} {f : σ → Pd → Nat → Option σ} {ks : List Pd} {k : Nat} (h : k < ks.length) (s : σ) (d : Nat) : allL f (ks.drop k) s d = (allP f ks[k] s d).bind fun s' => allL f (ks.drop (k + 1)) s' d := by
  rw [List.drop_eq_getElem_cons h, allL]
theorem allL_end {σ : Type} {f : σ → Pd → Nat → Option σ} {ks : List Pd} {k : Nat} (h : ks.length ≤ k) (s : σ) (d : Nat) : allL f (ks.drop k) s d = some s := by
  rw [List.drop_eq_nil_of_le h, allL]

/-- how an asking ends: by what f says; of the old blocks those of X may have changed -/
def AskEnd {σ : Type} (R : World → σ → (Nat → Prop) → Prop) (r : Option σ) (X : Nat → Prop) (W : World) (e : Ending) (w' : World) : Prop :=
  e = .returned (.bool r.isSome) ∧ Fr X W w' ∧ ∀ s', r = some s' → ∃ X', R w' s' X' ∧ ∀ q, X' q → X q ∨ W.heap.size ≤ q
/-- what the function asked does -/
def Asks {σ : Type} (R : World → σ → (Nat → Prop) → Prop) (f : σ → Pd → Nat → Option σ) (F g : Nat) (w0 : World) : Prop :=
  ∀ (W : World) (s : σ) (X : Nat → Prop) (p : Pd) (t : Kv) (d : Nat) (dz : Int), dz = d → Fr Non w0 W → R W s X → Kd w0 t p.kids → I64b p.hd.val.num → bigP p = true → d + depP p ≤ 1000 →
    Calls Tryd.prog F #[pdV p.hd t, .int .i64 dz, .pointer (some ⟨g, 0, none⟩)] W (AskEnd R (f s p d) X W)
set_option maxHeartbeats 4000000 in
theorem all_any {σ : Type} (R : World → σ → (Nat → Prop) → Prop) (f : σ → Pd → Nat → Option σ) (F g : Nat) (w0 : World)
    (hlt : ∀ W s X, R W s X → ∀ q, X q → w0.heap.size ≤ q ∧ q < W.heap.size) (hR : ∀ W W' s X, R W s X → Fr Non W W' → R W' s X) (hcf : ∀ args W, (callFunc F args).run Tryd.prog W = .ok (.enter F args) W) (hask : Asks R f F g w0) (p : Pd) :
    ∀ (W : World) (s : σ) (X : Nat → Prop) (t : Kv) (d : Nat) (dz : Int), dz = d → Fr Non w0 W → R W s X → Kd w0 t p.kids → I64b p.hd.val.num → bigP p = true → d + depP p ≤ 1000 →
    Calls Tryd.prog 33 #[pdV p.hd t, .int .i64 dz, .func (.func F) #[] #[.pointer (some ⟨g, 0, none⟩)]] W (AskEnd R (allP f p s d) X W) := by
  induction p using Pd.ind with
  | h hd ks ih =>
    intro W s X t d dz hdz hF hr hk hb hlen hdep
    subst hdz
    have hn : t.n = ks.length := hk.len
    have hls := (bigP_mk hlen).1
    have hdd : d ≤ 999 := by have := dep_pos (.mk hd ks); omega
    have F1 : Fr Non W (W.alloc (.cells (pdC hd t) 27)) := (Fr.refl Non W).alloc _
    have hr1 := hR _ _ _ _ hr F1
    have A1 := hask _ s X (.mk hd ks) t d (d : Int) rfl (hF.trans F1) hr1 hk hb hlen hdep
    have hXb : ¬ X W.heap.size := fun h => by have := (hlt _ _ _ hr _ h).2; omega
    have B0 := Lib.hid (pd_new W _ hd t rfl)
    have HS : Hid (allP f (.mk hd ks) s d = (f s (.mk hd ks) d).bind fun s' => allL f ks s' (d + 1)) := Lib.hid (by rw [allP])
    generalize f s (.mk hd ks) d = r at *
    generalize allP f (.mk hd ks) s d = r0 at *
    have IH : Hid (∀ k (h : k < ks.length) (W' : World) (s' : σ) (X' : Nat → Prop) (t' : Kv), Fr Non w0 W' → R W' s' X' → Kd w0 t' ks[k].kids → I64b ks[k].hd.val.num →
        Calls Tryd.prog 33 #[pdV ks[k].hd t', .int .i64 ((d : Int) + 1), .func (.func F) #[] #[.pointer (some ⟨g, 0, none⟩)]] W' (AskEnd R (allP f ks[k] s' (d + 1)) X' W')) :=
      Lib.hid (fun k h W' s' X' t' a b c e => ih _ (List.getElem_mem h) W' s' X' t' (d + 1) _ (by simp) a b c e ((bigP_mk hlen).2.2.2.2 _ (List.getElem_mem h)) (by
        rw [depP] at hdep
        have := depL_mem (List.getElem_mem h)
        omega))
    have HKd : Hid (Kd w0 t ks) := Lib.hid hk
    have HF := Lib.hid hF
    have HLT := Lib.hid hlt
    have HR := Lib.hid hR
    have HR0 := Lib.hid hr
    have HF1 := Lib.hid F1
    clear ih hk hb hlen hdep hask hlt hR hr hr1 hF F1
    obtain ⟨ho, hc, hm, ⟨vn, vi, vt⟩, hkd, hp⟩ := hd
    obtain ⟨A, n, c⟩ := t
    dsimp only at hn
    subst hn
    unfold pdV pdC kidV at A1 ⊢
    dsimp only [Pd.hd, Pd.kids] at A1 ⊢
    have A1 := Lib.hid A1
    go_enter Tryd.func33, Tryd.ntmps33
    go_wp2_with fail
    refine A1.out.mono ?_
    rintro e w1 ⟨rfl, f1, hs1⟩
    have HS1 := Lib.hid hs1
    have g8 := (B0.out.fr f1 hXb).cell 8
    simp [pdC, kidV] at g8
    have FX : Hid (Fr X W w1) := Lib.hid (HF1.out.any.trans f1)
    have hsz : W.heap.size ≤ w1.heap.size := FX.out.size
    clear hs1 f1 A1 hXb
    cases r with
    | none =>
      have HE : Hid (r0 = none) := Lib.hid (by rw [HS.out]; rfl)
      go_wp2
      go_ret
      exact ⟨by rw [HE.out]; rfl, FX.out, fun s' h => by rw [HE.out] at h; cases h⟩
    | some s1 =>
      have HE : Hid (r0 = allL f ks s1 (d + 1)) := Lib.hid (by rw [HS.out]; rfl)
      clear HS
      obtain ⟨X1, hr1, hx1⟩ := HS1.out s1 rfl
      have hx2 : ∀ q, X1 q → X q ∨ W.heap.size ≤ q := fun q hq => (hx1 q hq).imp id (fun h => Nat.le_trans HF1.out.size h)
      clear hx1 HS1
      have HR1 := Lib.hid hr1
      have HX2 := Lib.hid hx2
      clear hr1 hx2
      go_wp2
      go_loopw [17] (fun i wr => ∃ (k : Nat) (sk : σ) (Xk : Nat → Prop), k ≤ ks.length ∧ i = .int .i64 k ∧ Hid (r0 = allL f (ks.drop k) sk (d + 1)) ∧ Hid (R wr sk Xk) ∧ Hid (Fr X W wr) ∧ Hid (∀ q, Xk q → X q ∨ W.heap.size ≤ q)) (fun i _ => ks.length - (intOf i).toNat)
      case atStart => exact ⟨0, s1, X1, Nat.zero_le _, rfl, HE, HR1, FX, HX2⟩
      case round =>
        clear HE HR1 FX HX2 g8 hsz
        obtain ⟨k, sk, Xk, hk, rfl, HE, HR1, FX, HX2⟩ := hrel
        have hFw : Hid (Fr Non w0 wr) := Lib.hid (HF.out.join FX.out (fun q hq h => absurd (HLT.out _ _ _ HR0.out q h).1 (by omega)))
        by_cases hlt : k < ks.length
        · obtain ⟨a, t, hA, hc2, hkk, hbb⟩ := HKd.out.el k hlt
          have hc3 : PCells wr (a.add (k * 9)) ks[k].hd t := by
            obtain ⟨a', t', hA', hc', _, _⟩ := (HKd.out.non hFw.out).el k hlt
            dsimp only at hA hA'
            obtain rfl := Option.some.inj (hA.symm.trans hA')
            have e : t' = t := by
              have x1 := hc'.2.2.2.2.2.2.2.2
              have x2 := hc2.2.2.2.2.2.2.2.2
              have hbl : (a.add (k * 9)).block < w0.heap.size := World.block_lt_of_cell? w0 _ hc2.1
              have x3 := hFw.out.cell (p := { block := (a.add (k * 9)).block, off := (a.add (k * 9)).off + 8 }) hbl (fun e => e)
              rw [x3, x2] at x1
              simp only [Option.some.injEq, Value.slice.injEq] at x1
              obtain ⟨y1, y2, y3⟩ := x1
              cases t; cases t'; simp_all
            rw [e] at hc'; exact hc'
          clear hc2
          dsimp only at hA
          subst hA
          obtain ⟨c0, c1, c2, c3, c4, c5, c6, c7, c8⟩ := hc3
          have HC := Lib.hid (fun W' s' X' a b => IH.out k hlt W' s' X' t a b hkk hbb)
          have HY := Lib.hid (HE.out.trans (allL_at hlt sk (d + 1)))
          clear hkk hbb HE
          generalize allP f ks[k] = ff at *
          generalize ks[k].hd = x at *
          obtain ⟨xo, xc, xm, ⟨xn, xi, xt⟩, xk, xp⟩ := x
          obtain ⟨tA, tn, tc⟩ := t
          dsimp only at c0 c1 c2 c3 c4 c5 c6 c7 c8
          have G1 := Lib.hid ((Fr.refl Non wr).alloc (.cells #[.int .i64 xo, .string ⟨xc.toArray⟩, .int .i64 xm, .bool xn, .int .i64 xi, .string ⟨xt.toArray⟩, .int .i64 xk, .string ⟨xp.toArray⟩, .slice tA tn tc] 27))
          have HC2 := Lib.hid (HC.out _ sk Xk (hFw.out.trans G1.out) (HR.out _ _ _ _ HR1.out G1.out))
          have hXl := HLT.out _ _ _ HR1.out
          have HXl := Lib.hid hXl
          clear HC hXl
          unfold pdV pdC kidV at HC2
          dsimp only at HC2
          generalize ff sk (d + 1) = rr at *
          go_wp2_with fail
          refine HC2.out.mono ?_
          rintro e w2 ⟨rfl, f2, hs2⟩
          have HS2 := Lib.hid hs2
          have FX2 : Hid (Fr X W w2) := Lib.hid (FX.out.join (G1.out.any.trans f2) (fun q hq h => by
            rcases HX2.out q h with h | h
            · exact h
            · omega))
          have hsz2 : W.heap.size ≤ wr.heap.size := FX.out.size
          clear hs2 f2 HC2
          cases rr with
          | none =>
            have HE : Hid (r0 = none) := Lib.hid HY.out
            clear HY HS2
            go_wp2
            go_ret
            exact ⟨by rw [HE.out]; rfl, FX2.out, fun s' h => by rw [HE.out] at h; cases h⟩
          | some s2 =>
            obtain ⟨X2, hr2, hx2⟩ := HS2.out s2 rfl
            have HE : Hid (r0 = allL f (ks.drop (k + 1)) s2 (d + 1)) := Lib.hid HY.out
            have HR2 := Lib.hid hr2
            have HX3 : Hid (∀ q, X2 q → X q ∨ W.heap.size ≤ q) := Lib.hid (fun q hq => by
              rcases hx2 q hq with h | h
              · exact HX2.out q h
              · refine .inr (Nat.le_trans hsz2 (Nat.le_trans G1.out.size h)))
            clear HY HS2 hr2 hx2
            go_wp2
            go_roundw
            case rel => exact ⟨k + 1, s2, X2, by omega, by go_num, HE, HR2, FX2, HX3⟩
            case measure => simp [intOf]; omega
        · have HE2 : Hid (r0 = some sk) := Lib.hid (HE.out.trans (allL_end (by omega) sk (d + 1)))
          clear HE
          go_wp2
          go_ret
          exact ⟨by rw [HE2.out]; rfl, FX.out, fun s' h => by
            rw [HE2.out] at h
            obtain rfl := Option.some.inj h
            exact ⟨Xk, HR1.out, HX2.out⟩⟩
end Go.Proofs.YtpmipdnmhffkeaaDoor


namespace Go.Proofs.YtpmipdnmhffkeaaDoor
set_option linter.unusedVariables false
set_option linter.unusedSimpArgs false
set_option maxRecDepth 100000
open Go.RowKit

/-- the count lies in block g -/
def RcM (w0 : World) (g : Nat) (W : World) (n : Nat) (X : Nat → Prop) : Prop := Blk W g 3 #[.int .i64 n] ∧ n ≤ 16 ∧ X = One g ∧ w0.heap.size ≤ g
theorem stepM_no {n : Nat} {p : Pd} {d : Nat} (h : ¬ (n + 1 ≤ 16 ∧ d ≤ 6)) : stepM n p d = none := by unfold stepM; rw [if_neg (fun e => h ⟨e.1, e.2.1⟩)]
theorem stepM_by {n : Nat} {p : Pd} {d : Nat} (h : n + 1 ≤ 16 ∧ d ≤ 6) : stepM n p d = bif hdOk p.hd p.kids then some (n + 1) else none := by
  unfold stepM
  cases hd : hdOk p.hd p.kids
  · rw [if_neg (by simp)]; rfl
  · rw [if_pos ⟨h.1, h.2, rfl⟩]; rfl
set_option maxHeartbeats 2000000 in
theorem may1_any (w0 : World) (g : Nat) : Asks (RcM w0 g) stepM 51 g w0 := by
  intro W n X p t d dz hdz hF hr hk hb hlen hdep
  subst hdz
  obtain ⟨h, ks⟩ := p
  obtain ⟨hB, hn16, rfl, hg0⟩ := hr
  dsimp only [Pd.hd, Pd.kids] at hk hb ⊢
  have hls := bigP_mk hlen
  have F0 : Fr Non W (W.alloc (.cells (pdC h t) 27)) := (Fr.refl Non W).alloc _
  have hB1 := hB.fr F0 (fun e => e)
  have hf0 := hB1.frozen 0
  have hc0 := hB1.cell 0
  have hB2 := (hB.set 0 (.int .i64 ((n : Int) + 1))).fr ((Fr.refl Non _).alloc (.cells (pdC h t) 27)) (fun e => e)
  have hc2 := hB2.cell 0
  have hgl := hB.lt
  have G2 : Fr (One g) W ((W.setCell ⟨g, 0, none⟩ (.int .i64 ((n : Int) + 1))).alloc (.cells (pdC h t) 27)) := ((Fr.refl (One g) W).set1 0 _).alloc _
  have P2 : PdB ((W.setCell ⟨g, 0, none⟩ (.int .i64 ((n : Int) + 1))).alloc (.cells (pdC h t) 27)) W.heap.size h t :=
    pd_new _ _ h t (by simp [World.setCell])
  obtain ⟨g0, g1, g2, g3, g4, g5, g6, g7, g8⟩ := pdB_cells P2
  have hkw : Kd ((W.setCell ⟨g, 0, none⟩ (.int .i64 ((n : Int) + 1))).alloc (.cells (pdC h t) 27)) t ks := hk.non (hF.join G2 (fun q hq e => by have : q = g := e; omega))
  have M := Lib.hid (alone_any h t ks _ hkw (by omega) (by omega))
  have HG := Lib.hid G2
  have HB2 := Lib.hid hB2
  have HN := Lib.hid (fun e => stepM_no (n := n) (p := .mk h ks) (d := d) e)
  have HY := Lib.hid (fun e => stepM_by (n := n) (p := .mk h ks) (d := d) e)
  simp at hc0 hc2
  clear hk hB hB1 hB2 P2 hkw F0 G2 hlen hdep hls hF
  obtain ⟨ho, hc, hm, ⟨vn, vi, vt⟩, hkd, hp⟩ := h
  obtain ⟨A, nn, c⟩ := t
  unfold pdV pdC kidV at *
  dsimp only at *
  by_cases h1 : n + 1 ≤ 16
  · by_cases h6 : d ≤ 6
    · have HE := Lib.hid (HY.out ⟨h1, h6⟩)
      clear HY HN
      generalize stepM n _ d = r at *
      dsimp only [Pd.hd, Pd.kids] at HE
      generalize hdOk _ ks = b at *
      go_enter Tryd.func51, Tryd.ntmps51
      go_wp2_with fail
      refine M.out.mono ?_
      rintro e w1 ⟨rfl, f1⟩
      go_wp2
      go_ret
      refine ⟨by rw [HE.out]; cases b <;> rfl, HG.out.then f1, fun s' hs => ?_⟩
      rw [HE.out] at hs
      cases b
      · cases hs
      · obtain rfl := Option.some.inj hs
        exact ⟨One g, ⟨HB2.out.fr f1 (fun e => e), h1, rfl, hg0⟩, fun q hq => .inl hq⟩
    · have HE := Lib.hid (HN.out (by omega))
      have hd1 : decide ((n : Int) + 1 ≤ 16) = true := decide_eq_true (by omega)
      have hd2 : decide ((d : Int) ≤ 6) = false := decide_eq_false (by omega)
      clear HY HN M
      generalize stepM n _ d = r at *
      go_enter Tryd.func51, Tryd.ntmps51
      go_wp2
      go_ret
      exact ⟨by rw [HE.out]; rfl, HG.out, fun s' hs => by rw [HE.out] at hs; cases hs⟩
  · have HE := Lib.hid (HN.out (by omega))
    have hd1 : decide ((n : Int) + 1 ≤ 16) = false := decide_eq_false (by omega)
    clear HY HN M
    generalize stepM n _ d = r at *
    go_enter Tryd.func51, Tryd.ntmps51
    go_wp2
    go_ret
    exact ⟨by rw [HE.out]; rfl, HG.out, fun s' hs => by rw [HE.out] at hs; cases hs⟩

set_option maxHeartbeats 2000000 in
theorem pmay_big (h : Ph) (t : Kv) (ks : List Pd) (w : World) (hk : Kd w t ks) (hb : I64b h.val.num) (hlen : bigP (.mk h ks) = true) (hdep : depP (.mk h ks) ≤ 100) :
    Calls Tryd.prog 31 #[pdV h t] w fun e w' => e = .returned (.bool (mayP (.mk h ks))) ∧ Fr Non w w' := by
  have F0 : Fr Non w (w.alloc (.cells (pdC h t) 27)) := (Fr.refl Non w).alloc _
  have F1 : Fr Non w ((w.alloc (.cells (pdC h t) 27)).alloc (.cells #[.int .i64 0] 3)) := F0.alloc _
  have e1 : (w.alloc (.cells (pdC h t) 27)).heap.size = w.heap.size + 1 := by simp
  have b2 := Blk.new (w.alloc (.cells (pdC h t) 27)) 3 #[.int .i64 0]
  rw [e1] at b2
  have hR0 : RcM w (w.heap.size + 1) ((w.alloc (.cells (pdC h t) 27)).alloc (.cells #[.int .i64 0] 3)) 0 (One (w.heap.size + 1)) := ⟨b2, by omega, rfl, by omega⟩
  have A1 := all_any (RcM w (w.heap.size + 1)) stepM 51 (w.heap.size + 1) w
    (fun W s X hr q hq => by
      obtain ⟨a, b, rfl, c⟩ := hr
      obtain rfl : q = w.heap.size + 1 := hq
      exact ⟨c, a.lt⟩)
    (fun W W' s X hr hf => ⟨hr.1.fr hf (fun e => e), hr.2⟩) Tryd.call51 (may1_any w (w.heap.size + 1)) (.mk h ks)
    _ 0 _ t 1 1 rfl F1 hR0 hk hb hlen (by omega)
  have HM : Hid ((allP stepM (.mk h ks) 0 1).isSome = mayP (.mk h ks)) := Lib.hid (may_all _)
  generalize allP stepM (.mk h ks) 0 1 = r at *
  dsimp only [Pd.hd, Pd.kids] at A1
  have A1 := Lib.hid A1
  have F1 := Lib.hid F1
  have P0 : PdB ((w.alloc (.cells (pdC h t) 27)).alloc (.cells #[.int .i64 0] 3)) w.heap.size h t := (pd_new w _ h t rfl).fr ((Fr.refl Non _).alloc _) (fun e => e)
  obtain ⟨g0, g1, g2, g3, g4, g5, g6, g7, g8⟩ := pdB_cells P0
  have hmf : ∀ (fn : Fn) (first cap : Array Value) (w : World), (Instr.makeFunc fn first cap).run Tryd.prog w = .ok (.func fn first cap) w := fun _ _ _ _ => rfl
  clear hk F0 hR0 b2 e1 P0 hlen hdep
  obtain ⟨ho, hc, hm, ⟨vn, vi, vt⟩, hkd, hp⟩ := h
  obtain ⟨A, nn, c⟩ := t
  unfold pdV pdC kidV at *
  dsimp only at *
  go_enter Tryd.func31, Tryd.ntmps31
  go_wp2_with fail
  refine A1.out.mono ?_
  rintro e w1 ⟨rfl, f1, _⟩
  go_wp2
  go_ret
  exact ⟨ret_boolE HM.out, F1.out.join f1 (fun q hq e => by have : q = w.heap.size + 1 := e; omega)⟩
end Go.Proofs.YtpmipdnmhffkeaaDoor
