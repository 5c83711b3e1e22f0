/-
  Texts as plain lists of bytes: Go's '<' on them, and an order in three ways. Nothing of the program.
-/
import Derived.Test.YtkmgplgokhjmjaaBase
namespace Go.Proofs.Ytkmgplgokhjmjaa
set_option linter.unusedVariables false
set_option linter.unusedSimpArgs false
set_option maxRecDepth 100000

abbrev Tx := List UInt8

theorem bless : ∀ (x y : Tx), Op.bytesLess x y = decide (x < y)
  | x, [] => by cases x <;> simp [Op.bytesLess]
  | [], b :: y => by simp [Op.bytesLess]
  | a :: x, b :: y => by
    rw [Op.bytesLess, bless x y, Bool.eq_iff_iff]
    simp [List.cons_lt_cons_iff]

/-- ahead, the same, behind: of texts, and of numbers -/
def cmpT (x y : Tx) : Int := if x < y then -1 else if y < x then 1 else 0
def cmpI (x y : Int) : Int := if x < y then -1 else if y < x then 1 else 0
theorem tx_tri (x y : Tx) : x < y ∨ x = y ∨ y < x := by
  by_cases h1 : x < y
  · exact .inl h1
  · by_cases h2 : y < x
    · exact .inr (.inr h2)
    · exact .inr (.inl (List.le_antisymm (List.not_lt.1 h2) (List.not_lt.1 h1)))
theorem cmpT_lt {x y : Tx} (h : x < y) : cmpT x y = -1 := by unfold cmpT; rw [if_pos h]
theorem cmpT_gt {x y : Tx} (h : y < x) : cmpT x y = 1 := by
  unfold cmpT; rw [if_neg (fun e => List.lt_irrefl x (List.lt_trans e h)), if_pos h]
theorem cmpT_self (x : Tx) : cmpT x x = 0 := by unfold cmpT; rw [if_neg (List.lt_irrefl x), if_neg (List.lt_irrefl x)]
theorem cmpT_neg (x y : Tx) : cmpT y x = -cmpT x y := by
  rcases tx_tri x y with h | h | h
  · rw [cmpT_lt h, cmpT_gt h]; rfl
  · subst h; rw [cmpT_self]; rfl
  · rw [cmpT_lt h, cmpT_gt h]
theorem cmpT_zero {x y : Tx} : cmpT x y = 0 ↔ x = y := by
  rcases tx_tri x y with h | h | h
  · rw [cmpT_lt h]; exact ⟨fun e => by omega, fun e => absurd (e ▸ h) (List.lt_irrefl _)⟩
  · subst h; simp [cmpT_self]
  · rw [cmpT_gt h]; exact ⟨fun e => by omega, fun e => absurd (e ▸ h) (List.lt_irrefl _)⟩
theorem cmpT_le {x y : Tx} : cmpT x y ≤ 0 ↔ ¬ y < x := by
  rcases tx_tri x y with h | h | h
  · rw [cmpT_lt h]; exact ⟨fun _ e => List.lt_irrefl x (List.lt_trans h e), fun _ => by omega⟩
  · subst h; simp [cmpT_self, List.lt_irrefl]
  · rw [cmpT_gt h]; simp [h]
theorem cmpT_trans {x y z : Tx} (h1 : cmpT x y ≤ 0) (h2 : cmpT y z ≤ 0) : cmpT x z ≤ 0 := by
  rw [cmpT_le] at *
  exact fun h => h2 (by
    rcases tx_tri x y with h3 | h3 | h3
    · exact List.lt_trans h h3
    · subst h3; exact h
    · exact absurd h3 h1)
end Go.Proofs.Ytkmgplgokhjmjaa
