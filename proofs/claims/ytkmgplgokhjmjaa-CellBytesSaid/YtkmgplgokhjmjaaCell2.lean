/-
  Layer 9: the order of cells, both programs'.
-/
import Derived.Test.YtkmgplgokhjmjaaCell1
import Derived.Laws.Cover1
namespace Go.Proofs.Ytkmgplgokhjmjaa
set_option linter.unusedVariables false
set_option linter.unusedSimpArgs false
set_option maxRecDepth 100000
open Go.RowKit

theorem nani_any (x : Int) (w : World) : Calls Try.prog 44 #[.int .i64 x] w fun e w' => e = .returned (.bool false) ∧ w = w' := by
  have h : (x != x) = false := by simp
  go_enter Try.func44, Try.ntmps44
  go_wp2
  go_ret
  exact ⟨ret_boolE (by simp), rfl⟩
theorem nant_any (x : Tx) (w : World) : Calls Try.prog 45 #[.string ⟨x.toArray⟩] w fun e w' => e = .returned (.bool false) ∧ w = w' := by
  go_enter Try.func45, Try.ntmps45
  go_wp2
  go_ret
  exact ⟨ret_boolE (by simp), rfl⟩

theorem cmpi_any (x y : Int) (w : World) : Calls Try.prog 28 #[.int .i64 x, .int .i64 y] w fun e w' => e = .returned (.int .i64 (cmpI x y)) ∧ w = w' := by
  go_enter Try.func28, Try.ntmps28
  go_wp2_with fail
  refine (nani_any x w).mono ?_
  rintro e w1 ⟨rfl, rfl⟩
  go_wp2_with fail
  refine (nani_any y w).mono ?_
  rintro e w1 ⟨rfl, rfl⟩
  go_wp2
  all_goals
    go_ret
    exact ⟨ret_int (by unfold cmpI; first | (rw [if_pos (by omega)]; done) | (rw [if_neg (by omega), if_pos (by omega)]; done) | (rw [if_neg (by omega), if_neg (by omega)]; done)), rfl⟩

/-- Go's '<' both ways, decided -/
theorem less_lt {x y : Tx} (h : x < y) : Op.bytesLess x y = true := by rw [bless]; simpa using h
theorem less_gt {x y : Tx} (h : y < x) : Op.bytesLess x y = false ∧ (x == y) = false := by
  refine ⟨by rw [bless]; simpa using fun e => List.lt_irrefl x (List.lt_trans e h), beq_eq_false_iff_ne.2 fun e => ?_⟩
  subst e; exact List.lt_irrefl x h
theorem less_self (x : Tx) : Op.bytesLess x x = false := by rw [bless]; simp

theorem cmpt_any (x y : Tx) (w : World) : Calls Try.prog 29 #[.string ⟨x.toArray⟩, .string ⟨y.toArray⟩] w fun e w' => e = .returned (.int .i64 (cmpT x y)) ∧ w = w' := by
  rcases tx_tri x y with hl | hl | hl
  · have h1 := less_lt hl
    have H := Lib.hid (cmpT_lt hl)
    clear hl
    go_enter Try.func29, Try.ntmps29
    go_wp2_with fail
    refine (nant_any x w).mono ?_
    rintro e w1 ⟨rfl, rfl⟩
    go_wp2_with fail
    refine (nant_any y w).mono ?_
    rintro e w1 ⟨rfl, rfl⟩
    go_wp2
    go_ret
    exact ⟨ret_int (by rw [H.out]), rfl⟩
  · subst hl
    have h1 := less_self x
    have H := Lib.hid (cmpT_self x)
    go_enter Try.func29, Try.ntmps29
    go_wp2_with fail
    refine (nant_any x w).mono ?_
    rintro e w1 ⟨rfl, rfl⟩
    go_wp2_with fail
    refine (nant_any x w).mono ?_
    rintro e w1 ⟨rfl, rfl⟩
    go_wp2
    go_ret
    exact ⟨ret_int (by rw [H.out]), rfl⟩
  · obtain ⟨h1, h2⟩ := less_gt hl
    have H := Lib.hid (cmpT_gt hl)
    clear hl
    go_enter Try.func29, Try.ntmps29
    go_wp2_with fail
    refine (nant_any x w).mono ?_
    rintro e w1 ⟨rfl, rfl⟩
    go_wp2_with fail
    refine (nant_any y w).mono ?_
    rintro e w1 ⟨rfl, rfl⟩
    go_wp2
    go_ret
    exact ⟨ret_int (by rw [H.out]), rfl⟩

/-! ### The order -/
def ordC (a b : Cl) : Int := if a.null && !b.null then -1 else if b.null && !a.null then 1 else if a.num = b.num then cmpT a.txt b.txt else cmpI a.num b.num
theorem cmpI_lt {x y : Int} (h : x < y) : cmpI x y = -1 := by unfold cmpI; rw [if_pos h]
theorem cmpI_gt {x y : Int} (h : y < x) : cmpI x y = 1 := by unfold cmpI; rw [if_neg (by omega), if_pos h]
theorem ordC_null {a b : Cl} (h : a.null = b.null) : ordC a b = if a.num = b.num then cmpT a.txt b.txt else cmpI a.num b.num := by
  unfold ordC
  cases ha : a.null <;> rw [ha] at h <;> simp [← h]
theorem ordC_mk (n : Bool) (i j : Int) (s t : Tx) : ordC ⟨n, i, s⟩ ⟨n, j, t⟩ = if i = j then cmpT s t else cmpI i j := ordC_null (a := ⟨n, i, s⟩) (b := ⟨n, j, t⟩) rfl
theorem ordC_tf {a b : Cl} (h : a.null = true) (h' : b.null = false) : ordC a b = -1 := by unfold ordC; rw [h, h']; rfl
theorem ordC_ft {a b : Cl} (h : a.null = false) (h' : b.null = true) : ordC a b = 1 := by unfold ordC; rw [h, h']; rfl
theorem ordC_neg (a b : Cl) : ordC b a = -ordC a b := by
  cases ha : a.null <;> cases hb : b.null
  · rw [ordC_null (ha.trans hb.symm), ordC_null (hb.trans ha.symm)]
    by_cases h : a.num = b.num
    · rw [if_pos h, if_pos h.symm, cmpT_neg]
    · rw [if_neg h, if_neg (fun e => h e.symm)]
      unfold cmpI
      split <;> split <;> first | rfl | omega | (split <;> first | rfl | omega)
  · rw [ordC_ft ha hb, ordC_tf hb ha]
  · rw [ordC_tf ha hb, ordC_ft hb ha]; rfl
  · rw [ordC_null (ha.trans hb.symm), ordC_null (hb.trans ha.symm)]
    by_cases h : a.num = b.num
    · rw [if_pos h, if_pos h.symm, cmpT_neg]
    · rw [if_neg h, if_neg (fun e => h e.symm)]
      unfold cmpI
      split <;> split <;> first | rfl | omega | (split <;> first | rfl | omega)
theorem cmpI_zero {x y : Int} (h : cmpI x y = 0) : x = y := by
  unfold cmpI at h
  split at h
  · omega
  · split at h <;> omega
theorem ordC_zero (a b : Cl) : (ordC a b == 0) = ceq a b := by
  rw [Bool.eq_iff_iff, beq_iff_eq]
  obtain ⟨an, ai, at_⟩ := a
  obtain ⟨bn, bi, bt⟩ := b
  simp only [ceq, decide_eq_true_eq, Cl.mk.injEq]
  cases an <;> cases bn
  · rw [ordC_mk]
    by_cases h : ai = bi
    · simp only [h, if_true]; rw [cmpT_zero]; simp
    · simp only [h, if_false]
      exact ⟨fun e => absurd (cmpI_zero e) h, fun e => absurd e.2.1 (by simp)⟩
  · rw [ordC_ft rfl rfl]; simp
  · rw [ordC_tf rfl rfl]; simp
  · rw [ordC_mk]
    by_cases h : ai = bi
    · simp only [h, if_true]; rw [cmpT_zero]; simp
    · simp only [h, if_false]
      exact ⟨fun e => absurd (cmpI_zero e) h, fun e => absurd e.2.1 (by simp)⟩
theorem cmpI_le {x y : Int} : cmpI x y ≤ 0 ↔ x ≤ y := by
  unfold cmpI
  split
  · omega
  · split <;> omega
theorem ordC_trans {a b c : Cl} (h1 : ordC a b ≤ 0) (h2 : ordC b c ≤ 0) : ordC a c ≤ 0 := by
  have step : ∀ {a b c : Cl}, a.null = b.null → b.null = c.null → ordC a b ≤ 0 → ordC b c ≤ 0 → ordC a c ≤ 0 := by
    intro a b c hab hbc h1 h2
    rw [ordC_null hab] at h1
    rw [ordC_null hbc] at h2
    rw [ordC_null (hab.trans hbc)]
    by_cases e1 : a.num = b.num <;> by_cases e2 : b.num = c.num
    · rw [if_pos e1] at h1; rw [if_pos e2] at h2; rw [if_pos (e1.trans e2)]; exact cmpT_trans h1 h2
    · rw [if_neg e2] at h2
      rw [if_neg (fun e => e2 (e1 ▸ e)), e1]; exact h2
    · rw [if_neg e1] at h1
      rw [if_neg (fun e => e1 (e.trans e2.symm)), ← e2]; exact h1
    · rw [if_neg e1, cmpI_le] at h1
      rw [if_neg e2, cmpI_le] at h2
      rw [if_neg (by omega), cmpI_le]; omega
  cases ha : a.null <;> cases hb : b.null <;> cases hc : c.null
  · exact step (ha.trans hb.symm) (hb.trans hc.symm) h1 h2
  · rw [ordC_ft hb hc] at h2; omega
  · rw [ordC_ft ha hb] at h1; omega
  · rw [ordC_ft ha hb] at h1; omega
  · rw [ordC_tf ha hc]; omega
  · rw [ordC_ft hb hc] at h2; omega
  · rw [ordC_tf ha hc]; omega
  · exact step (ha.trans hb.symm) (hb.trans hc.symm) h1 h2
theorem ordC_range (a b : Cl) : -1 ≤ ordC a b ∧ ordC a b ≤ 1 := by
  unfold ordC cmpT cmpI
  repeat' split
  all_goals omega

set_option maxHeartbeats 1000000 in
theorem order_any (a b : Cl) (w : World) : Calls Try.prog 10 #[clV a, clV b] w fun e w' => e = .returned (.int .i64 (ordC a b)) ∧ Fr Non w w' := by
  obtain ⟨an, ai, at_⟩ := a
  obtain ⟨bn, bi, bt⟩ := b
  unfold clV clC
  cases an <;> cases bn
  case false.true =>
    go_enter Try.func10, Try.ntmps10
    go_wp2
    go_ret
    exact ⟨rfl, ((Fr.refl _ _).alloc _).alloc _⟩
  case true.false =>
    go_enter Try.func10, Try.ntmps10
    go_wp2
    go_ret
    exact ⟨rfl, ((Fr.refl _ _).alloc _).alloc _⟩
  all_goals
    by_cases h : ai = bi
    · have HI := Lib.hid h
      have hb : (ai != bi) = false := by rw [h]; simp
      clear h
      go_enter Try.func10, Try.ntmps10
      go_wp2_with fail
      refine (cmpt_any at_ bt _).mono ?_
      rintro e w1 ⟨rfl, rfl⟩
      go_wp2
      go_ret
      exact ⟨ret_int (by rw [ordC_mk]; exact (if_pos HI.out).symm), ((Fr.refl _ _).alloc _).alloc _⟩
    · have HI := Lib.hid h
      have hb : (ai != bi) = true := by simpa using h
      clear h
      go_enter Try.func10, Try.ntmps10
      go_wp2_with fail
      refine (cmpi_any ai bi _).mono ?_
      rintro e w1 ⟨rfl, rfl⟩
      go_wp2
      go_ret
      exact ⟨ret_int (by rw [ordC_mk]; exact (if_neg HI.out).symm), ((Fr.refl _ _).alloc _).alloc _⟩

theorem ordC_of_lt {n : Bool} {i j : Int} {s t : Tx} (h : i < j) : ordC ⟨n, i, s⟩ ⟨n, j, t⟩ = -1 := by
  rw [ordC_mk]; simp only [show ¬ i = j by omega, if_false]; exact cmpI_lt h
theorem ordC_of_gt {n : Bool} {i j : Int} {s t : Tx} (h : j < i) : ordC ⟨n, i, s⟩ ⟨n, j, t⟩ = 1 := by
  rw [ordC_mk]; simp only [show ¬ i = j by omega, if_false]; exact cmpI_gt h
theorem ordC_of_eq {n : Bool} {i : Int} {s t : Tx} : ordC ⟨n, i, s⟩ ⟨n, i, t⟩ = cmpT s t := by rw [ordC_mk]; simp

set_option maxHeartbeats 1000000 in
theorem rorder_any (a b : Cl) (w : World) : Calls Try.prog 11 #[clV a, clV b] w fun e w' => e = .returned (.int .i64 (ordC a b)) ∧ Fr Non w w' := by
  obtain ⟨an, ai, at_⟩ := a
  obtain ⟨bn, bi, bt⟩ := b
  unfold clV clC
  cases an <;> cases bn
  case false.true =>
    go_enter Try.func11, Try.ntmps11
    go_wp2
    go_ret
    exact ⟨rfl, ((Fr.refl _ _).alloc _).alloc _⟩
  case true.false =>
    go_enter Try.func11, Try.ntmps11
    go_wp2
    go_ret
    exact ⟨rfl, ((Fr.refl _ _).alloc _).alloc _⟩
  all_goals
    rcases Int.lt_trichotomy ai bi with h | h | h
    · go_enter Try.func11, Try.ntmps11
      go_wp2
      go_ret
      exact ⟨ret_int (ordC_of_lt h).symm, ((Fr.refl _ _).alloc _).alloc _⟩
    · subst h
      rcases tx_tri at_ bt with hl | hl | hl
      · have h1 := less_lt hl
        have H := Lib.hid (cmpT_lt hl)
        clear hl
        go_enter Try.func11, Try.ntmps11
        go_wp2
        go_ret
        exact ⟨ret_int (by rw [ordC_of_eq, H.out]), ((Fr.refl _ _).alloc _).alloc _⟩
      · subst hl
        have h1 := less_self at_
        have H := Lib.hid (cmpT_self at_)
        go_enter Try.func11, Try.ntmps11
        go_wp2
        go_ret
        exact ⟨ret_int (by rw [ordC_of_eq, H.out]), ((Fr.refl _ _).alloc _).alloc _⟩
      · obtain ⟨h1, h2⟩ := less_gt hl
        have H := Lib.hid (cmpT_gt hl)
        clear hl
        go_enter Try.func11, Try.ntmps11
        go_wp2
        go_ret
        exact ⟨ret_int (by rw [ordC_of_eq, H.out]), ((Fr.refl _ _).alloc _).alloc _⟩
    · go_enter Try.func11, Try.ntmps11
      go_wp2
      go_ret
      exact ⟨ret_int (ordC_of_gt h).symm, ((Fr.refl _ _).alloc _).alloc _⟩
end Go.Proofs.Ytkmgplgokhjmjaa
