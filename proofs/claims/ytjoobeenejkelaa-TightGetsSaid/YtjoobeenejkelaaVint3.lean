/-
  Layer 1, what is written, texts: contracts of join and Text, the program's own and the document's.
-/
import Derived.Test.YtjoobeenejkelaaVint2
namespace Go.Proofs.Ytjoobeenejkelaa
set_option linter.unusedVariables false
set_option linter.unusedSimpArgs false
open Go.RowKit

/-- a row of slices, from the head of block g on, that read as the lists ls -/
def Parts (w : World) (g : Nat) (xs : List Value) (ls : List (List UInt8)) : Prop :=
  xs.length = ls.length ∧ ∀ j x l, xs[j]? = some x → ls[j]? = some l → w.cell? ⟨g, j, none⟩ = some x ∧ Bs w x l
theorem Parts.non {w w' : World} {g : Nat} {xs : List Value} {ls : List (List UInt8)} (h : Parts w g xs ls) (hf : Fr Non w w') : Parts w' g xs ls :=
  ⟨h.1, fun j x l hx hl => by
    obtain ⟨h1, h2⟩ := h.2 j x l hx hl
    exact ⟨(hf.cell (p := ⟨g, j, none⟩) (World.block_lt_of_cell? w _ h1) (fun e => e)).trans h1, h2.non hf⟩⟩
theorem Parts.two {w : World} {t : TypeId} {x y : Value} {l m : List UInt8} (hx : Bs w x l) (hy : Bs w y m) : Parts (w.alloc (.cells #[x, y] t)) w.heap.size [x, y] [l, m] := by
  refine ⟨rfl, fun j u k hu hk => ?_⟩
  have hb := Blk.new w t #[x, y]
  have hf : Fr Non w (w.alloc (.cells #[x, y] t)) := (Fr.refl _ _).alloc _
  match j with
  | 0 =>
    obtain rfl : x = u := by simpa using hu
    obtain rfl : l = k := by simpa using hk
    exact ⟨hb.cell 0, hx.non hf⟩
  | 1 =>
    obtain rfl : y = u := by simpa using hu
    obtain rfl : m = k := by simpa using hk
    exact ⟨hb.cell 1, hy.non hf⟩
  | j + 2 => simp at hu

theorem flat_snoc (ls : List (List UInt8)) (k : Nat) (h : k < ls.length) : (ls.take (k + 1)).flatten = (ls.take k).flatten ++ ls[k] := by
  rw [List.take_succ_eq_append_getElem h, List.flatten_append]; simp only [List.flatten_cons, List.flatten_nil, List.append_nil]
theorem flat_le (ls : List (List UInt8)) (k : Nat) : (ls.take k).flatten.length ≤ ls.flatten.length := by
  conv => rhs; rw [← List.take_append_drop k ls, List.flatten_append, List.length_append]
  omega

/-- a text's bytes -/
def textB (l : List UInt8) : List UInt8 := Lib.uvarint l.length ++ l

theorem Own.shape {w : World} {B : Nat} {v : Value} {l : List UInt8} (h : Own w B v l) : ∃ A c, v = .slice A l.length c := h.bs.shape

end Go.Proofs.Ytjoobeenejkelaa
