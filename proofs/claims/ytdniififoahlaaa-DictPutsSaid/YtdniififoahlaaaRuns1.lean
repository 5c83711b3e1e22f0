/-
  Layer 5: the walks of runs.run, runs.Put, firkinref05.Put, firkinref05.Same.
-/
import Derived.Test.YtdniififoahlaaaSlc
import Derived.Test.YtdniififoahlaaaMathRuns
import Derived.Test.YtdniififoahlaaaVint2
import Derived.Deep.QuietTactic
import Derived.BigQuiet
import Derived.Deep.RegionHeld3
import Derived.Deep.DrawnRows
namespace Go.Proofs.Ytdniififoahlaaa
set_option linter.unusedVariables false
set_option linter.unusedSimpArgs false
open Go.RowKit

theorem el_i64 : El 38 2 (.int .i64 0) 8 := ⟨Try.underlying38, by kernel_rfl, rfl, by decide, by kernel_rfl, fun _ => by kernel_rfl⟩
theorem ret_boolE {a b : Bool} (h : a = b) : Ending.returned (.bool a) = .returned (.bool b) := by rw [h]

theorem drop_cons {α : Type} (l : List α) (k : Nat) (h : k < l.length) : l.drop k = l[k] :: l.drop (k + 1) := List.drop_eq_getElem_cons h

end Go.Proofs.Ytdniififoahlaaa
