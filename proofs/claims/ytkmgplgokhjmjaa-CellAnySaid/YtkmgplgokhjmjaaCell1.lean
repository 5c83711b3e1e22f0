/-
  Layer 9: a cell as a value; which cells there may be, both programs'.
-/
import Derived.Test.YtkmgplgokhjmjaaVint2
import Derived.Test.YtkmgplgokhjmjaaMathTx
import Derived.Laws.StructEq
namespace Go.Proofs.Ytkmgplgokhjmjaa
set_option linter.unusedVariables false
set_option linter.unusedSimpArgs false
set_option maxRecDepth 100000
open Go.RowKit

/-- a cell: null or not, its number, its text -/
structure Cl where
  null : Bool
  num : Int
  txt : List UInt8
  deriving DecidableEq
/-- its cells, and its value -/
def clC (c : Cl) : Array Value := #[.bool c.null, .int .i64 c.num, .string ⟨c.txt.toArray⟩]
def clV (c : Cl) : Value := .agg (clC c)
/-- are two the same? -/
def ceq (a b : Cl) : Bool := decide (a = b)
theorem ceq_self (a : Cl) : ceq a a = true := by simp [ceq]
theorem ceq_is {a b : Cl} (h : ceq a b = true) : a = b := by simpa [ceq] using h
theorem eq_parts (a b : Cl) : ceq a b = (a.null == b.null && (a.num == b.num && a.txt == b.txt)) := by
  obtain ⟨an, ai, at_⟩ := a
  obtain ⟨bn, bi, bt⟩ := b
  unfold ceq
  rw [Bool.eq_iff_iff]
  simp

theorem run_eql_cl (W : World) (a b : Cl) : (binOp .eql 23 (.agg #[.bool a.null, .int .i64 a.num, .string ⟨a.txt.toArray⟩]) (.agg #[.bool b.null, .int .i64 b.num, .string ⟨b.txt.toArray⟩])).run Try.prog W = .ok (.bool (ceq a b)) W := by
  rw [eq_parts]
  obtain ⟨an, ai, at_⟩ := a
  obtain ⟨bn, bi, bt⟩ := b
  go_simp
  by_cases h1 : an = bn <;> by_cases h2 : ai = bi <;> by_cases h3 : at_ = bt <;> simp [h1, h2, h3]
theorem run_neq_cl (W : World) (a b : Cl) : (binOp .neq 23 (.agg #[.bool a.null, .int .i64 a.num, .string ⟨a.txt.toArray⟩]) (.agg #[.bool b.null, .int .i64 b.num, .string ⟨b.txt.toArray⟩])).run Try.prog W = .ok (.bool (!ceq a b)) W := by
  rw [eq_parts]
  obtain ⟨an, ai, at_⟩ := a
  obtain ⟨bn, bi, bt⟩ := b
  go_simp
  by_cases h1 : an = bn <;> by_cases h2 : ai = bi <;> by_cases h3 : at_ = bt <;> simp [h1, h2, h3]

theorem csame_any (a b : Cl) (w : World) : Calls Try.prog 12 #[clV a, clV b] w fun e w' => e = .returned (.bool (ceq a b)) ∧ Fr Non w w' := by
  have h := fun W => run_eql_cl W a b
  unfold clV clC
  go_enter Try.func12, Try.ntmps12
  go_wp2
  go_ret
  exact ⟨rfl, ((Fr.refl _ _).alloc _).alloc _⟩

/-- is there such a type? -/
def isTy (ty : Int) : Bool := ty == 1 || ty == 2 || ty == 3
/-- which cells there may be -/
def mayC (ty : Int) (nl : Bool) (c : Cl) : Bool :=
  isTy ty && (if c.null then nl && (c.num == 0 && c.txt.isEmpty) else if ty = 3 then c.num == 0 && decide (c.txt.length ≤ 40) else c.txt.isEmpty && (ty == 1 || (c.num == 0 || c.num == 1)))

theorem istype_any (ty : Int) (w : World) : Calls Try.prog 27 #[.int .i64 ty] w fun e w' => e = .returned (.bool (isTy ty)) ∧ w = w' := by
  go_enter Try.func27, Try.ntmps27
  go_wp2
  all_goals
    go_ret
    exact ⟨ret_boolE (by simp_all [isTy]), rfl⟩

theorem slen (l : List UInt8) : ByteArray.size ⟨l.toArray⟩ = l.length := by simp [ByteArray.size]
theorem mayC_no {ty : Int} (h1 : ¬ ty = 1) (h2 : ¬ ty = 2) (h3 : ¬ ty = 3) (nl : Bool) (c : Cl) : mayC ty nl c = false := by
  simp [mayC, isTy, h1, h2, h3]
theorem mayC_null (ty : Int) (nl : Bool) (i : Int) (t : Tx) : mayC ty nl ⟨true, i, t⟩ = (nl && (isTy ty && ceq ⟨true, i, t⟩ ⟨true, 0, []⟩)) := by
  rw [eq_parts]
  unfold mayC
  cases isTy ty <;> cases nl <;> cases t <;> simp

set_option maxHeartbeats 1000000 in
theorem may_any (ty : Int) (nl : Bool) (c : Cl) (w : World) : Calls Try.prog 8 #[.int .i64 ty, .bool nl, clV c] w fun e w' => e = .returned (.bool (mayC ty nl c)) ∧ Fr Non w w' := by
  obtain ⟨n, i, t⟩ := c
  unfold clV clC
  cases n
  · have hs := slen t
    by_cases h1 : ty = 1
    · subst h1
      go_enter Try.func8, Try.ntmps8
      go_wp2
      all_goals
        go_ret
        exact ⟨ret_boolE (by first | rfl | (simp [mayC, isTy]; done) | (simp_all [mayC, isTy]; done) | (simp_all [mayC, isTy] <;> omega)), (Fr.refl _ _).alloc _⟩
    · by_cases h2 : ty = 2
      · subst h2
        go_enter Try.func8, Try.ntmps8
        go_wp2
        all_goals
          go_ret
          exact ⟨ret_boolE (by first | rfl | (simp [mayC, isTy]; done) | (simp_all [mayC, isTy]; done) | (simp_all [mayC, isTy] <;> omega)), (Fr.refl _ _).alloc _⟩
      · by_cases h3 : ty = 3
        · subst h3
          go_enter Try.func8, Try.ntmps8
          go_wp2
          all_goals
            go_ret
            exact ⟨ret_boolE (by first | rfl | (simp [mayC, isTy]; done) | (simp_all [mayC, isTy]; done) | (simp_all [mayC, isTy] <;> omega)), (Fr.refl _ _).alloc _⟩
        · have H := Lib.hid (mayC_no h1 h2 h3 nl ⟨false, i, t⟩)
          go_enter Try.func8, Try.ntmps8
          go_wp2
          go_ret
          exact ⟨ret_boolE H.out.symm, (Fr.refl _ _).alloc _⟩
  · have H := Lib.hid (mayC_null ty nl i t)
    cases nl
    · go_enter Try.func8, Try.ntmps8
      go_wp2
      go_ret
      exact ⟨ret_boolE (by rw [H.out]; rfl), (Fr.refl _ _).alloc _⟩
    · cases hT : isTy ty with
      | false =>
        have h0 := fun W => istype_any ty W
        simp only [hT] at h0
        have HT := Lib.hid hT
        clear hT
        go_enter Try.func8, Try.ntmps8
        go_wp2_with fail
        refine (h0 _).mono ?_
        rintro e w1 ⟨rfl, rfl⟩
        go_wp2
        go_ret
        exact ⟨ret_boolE (by rw [H.out, HT.out]; rfl), (Fr.refl _ _).alloc _⟩
      | true =>
        have h0 := fun W => istype_any ty W
        simp only [hT] at h0
        have HT := Lib.hid hT
        clear hT
        go_enter Try.func8, Try.ntmps8
        go_wp2_with fail
        refine (h0 _).mono ?_
        rintro e w1 ⟨rfl, rfl⟩
        go_wp2_with fail
        refine (csame_any ⟨true, i, t⟩ ⟨true, 0, []⟩ _).mono ?_
        rintro e w1 ⟨rfl, hf1⟩
        go_wp2
        go_ret
        exact ⟨ret_boolE (by rw [H.out, HT.out]; rfl), ((Fr.refl _ _).alloc _).trans hf1⟩

set_option maxHeartbeats 1000000 in
theorem rmay_any (ty : Int) (nl : Bool) (c : Cl) (w : World) : Calls Try.prog 9 #[.int .i64 ty, .bool nl, clV c] w fun e w' => e = .returned (.bool (mayC ty nl c)) ∧ Fr Non w w' := by
  obtain ⟨n, i, t⟩ := c
  unfold clV clC
  by_cases h0 : ty < 1
  · have H := Lib.hid (mayC_no (ty := ty) (by omega) (by omega) (by omega) nl ⟨n, i, t⟩)
    go_enter Try.func9, Try.ntmps9
    go_wp2
    go_ret
    exact ⟨ret_boolE H.out.symm, (Fr.refl _ _).alloc _⟩
  · by_cases h4 : 3 < ty
    · have H := Lib.hid (mayC_no (ty := ty) (by omega) (by omega) (by omega) nl ⟨n, i, t⟩)
      go_enter Try.func9, Try.ntmps9
      go_wp2
      go_ret
      exact ⟨ret_boolE H.out.symm, (Fr.refl _ _).alloc _⟩
    · have hs := slen t
      have h3 : ty = 1 ∨ ty = 2 ∨ ty = 3 := by omega
      clear h0 h4
      cases n
      · rcases h3 with h | h | h
        · subst h
          go_enter Try.func9, Try.ntmps9
          go_wp2
          all_goals
            go_ret
            exact ⟨ret_boolE (by first | rfl | (simp [mayC, isTy]; done) | (simp_all [mayC, isTy]; done) | (simp_all [mayC, isTy] <;> omega)), (Fr.refl _ _).alloc _⟩
        · subst h
          go_enter Try.func9, Try.ntmps9
          go_wp2
          all_goals
            go_ret
            exact ⟨ret_boolE (by first | rfl | (simp [mayC, isTy]; done) | (simp_all [mayC, isTy]; done) | (simp_all [mayC, isTy] <;> omega)), (Fr.refl _ _).alloc _⟩
        · subst h
          go_enter Try.func9, Try.ntmps9
          go_wp2
          all_goals
            go_ret
            exact ⟨ret_boolE (by first | rfl | (simp [mayC, isTy]; done) | (simp_all [mayC, isTy]; done) | (simp_all [mayC, isTy] <;> omega)), (Fr.refl _ _).alloc _⟩
      · have hT : isTy ty = true := by rcases h3 with rfl | rfl | rfl <;> rfl
        have hl : ¬ ty < 1 := by omega
        have hg : ¬ 3 < ty := by omega
        clear h3
        cases nl
        · go_enter Try.func9, Try.ntmps9
          go_wp2
          all_goals
            go_ret
            exact ⟨ret_boolE (by first | (simp [mayC, hT]; done) | (simp_all [mayC]; done)), (Fr.refl _ _).alloc _⟩
        · go_enter Try.func9, Try.ntmps9
          go_wp2
          all_goals
            go_ret
            exact ⟨ret_boolE (by first | (simp [mayC, hT]; done) | (simp_all [mayC]; done)), (Fr.refl _ _).alloc _⟩
end Go.Proofs.Ytkmgplgokhjmjaa
