/-
  Layer 5: the walk of runs.Get.
-/
import Derived.Test.YtdniififoahlaaaRuns2
import Derived.Test.YtdniififoahlaaaMathRuns2
import Derived.WalkMore
namespace Go.Proofs.Ytdniififoahlaaa
set_option linter.unusedVariables false
set_option linter.unusedSimpArgs false
open Go.RowKit

/-- what Get answers: nothing and false, or the numbers and true -/
def Gtn (w : World) (B : Nat) (o : Option (List Int)) (e : Ending) : Prop :=
  (o = none ∧ e = .returned (.tuple #[.slice none 0 0, .bool false])) ∨ (∃ l u, o = some l ∧ e = .returned (.tuple #[u, .bool true]) ∧ Ow iv 2 w B u l)
theorem gtn_no {w : World} {B : Nat} {o : Option (List Int)} (h : o = none) : Gtn w B o (.returned (.tuple #[.slice none 0 0, .bool false])) := .inl ⟨h, rfl⟩
theorem gtn_yes {w : World} {B : Nat} {o : Option (List Int)} {l : List Int} {u : Value} (h : o = some l) (hu : Ow iv 2 w B u l) : Gtn w B o (.returned (.tuple #[u, .bool true])) := .inr ⟨l, u, h, rfl, hu⟩

end Go.Proofs.Ytdniififoahlaaa
