/-
  Layer 8: the walks of dict.Plain and of the document's Plain.
-/
import Derived.Test.YtdniififoahlaaaMathDict
import Derived.Test.YtdniififoahlaaaStr
import Derived.Test.YtdniififoahlaaaVint9
import Derived.Test.YtdniififoahlaaaLib1
namespace Go.Proofs.Ytdniififoahlaaa
set_option linter.unusedVariables false
set_option linter.unusedSimpArgs false
set_option maxRecDepth 100000
open Go.RowKit

theorem Bs.len_bs {w : World} {v : Value} {l : List UInt8} (h : Bs w v l) : ∃ A c, v = .slice A l.length c := h.shape

set_option maxHeartbeats 1000000 in
theorem plain_any (v : Value) (l : List Tx) (w : World) (hv : Vs sv w v l) (hl : l.length ≤ 1000000) (hx : ∀ x ∈ l, x.length < 1048576) (hb : (plainB l).length < 137438953472) :
    Calls Try.prog 8 #[v] w fun e w' => ∃ u, e = .returned u ∧ Own w' w.heap.size u (plainB l) ∧ Fr Non w w' := by
  have HX := Lib.hid hx
  have HB := Lib.hid hb
  clear hx hb
  obtain ⟨A, c, rfl, hlc, hn, hcell⟩ := hv
  have HN := Lib.hid hn
  have HC := Lib.hid hcell
  clear hn hcell
  go_enter Try.func8, Try.ntmps8
  go_wp2
  go_loopw [3, 8] (fun b i wr => ∃ k : Nat, k ≤ l.length ∧ i = .int .i64 k ∧ Own wr w.heap.size b (plainB (l.take k)) ∧ Fr Non w wr) (fun _ i _ => l.length - (intOf i).toNat)
  case atStart => exact ⟨0, Nat.zero_le _, rfl, own_nil _ _, Fr.refl _ _⟩
  case round =>
    obtain ⟨k, hk, rfl, hown, hfr⟩ := hrel
    by_cases hlt : k < l.length
    · cases A with
      | none => have := HN.out rfl; omega
      | some a =>
        have g0 : w.cell? (a.add k) = some (sv l[k]) := HC.out a rfl k hlt
        have g1 : wr.cell? (a.add k) = some (sv l[k]) := (hfr.cell (World.block_lt_of_cell? w _ g0) (fun e => e)).trans g0
        unfold sv at g1
        have hx1 := HX.out l[k] (by simp)
        have hle := plainB_le l (k + 1)
        have HS := Lib.hid (plainB_take l k hlt)
        have hle2 : (plainB (l.take k)).length + (textB l[k]).length < 140737488355328 := by
          rw [HS.out, List.length_append] at hle
          have := HB.out
          omega
        have hB := hfr.size
        clear g0 hle
        generalize l[k] = x at *
        generalize plainB (l.take k) = F at *
        go_wp2_with fail
        refine (vtext_any x wr hx1).mono ?_
        rintro e w1 ⟨v1, rfl, hown1, hf1⟩
        have hown' := hown.non hf1
        go_wp2_with (at_builtin; refine wpList_app rfl (.tmp 12) (.tmp 14) rfl w.heap.size u3 v1 F (textB x) rfl hown' rfl hown1.bs hle2 (Nat.le_trans hB hf1.size) ?_; intro v' w' hown2 hfr2)
        go_roundw
        case rel => exact ⟨k + 1, by omega, by go_num, by rw [HS.out]; exact hown2, (hfr.trans hf1).fresh hfr2 fun q hq => (hown.lt q hq).1⟩
        case measure => simp [intOf]; omega
    · have hT : l.take k = l := List.take_of_length_le (by omega)
      rw [hT] at hown
      clear hT
      go_wp2
      go_ret
      exact ⟨_, rfl, hown, hfr⟩

set_option maxHeartbeats 1000000 in
theorem rplain_any (v : Value) (l : List Tx) (w : World) (hv : Vs sv w v l) (hl : l.length ≤ 1000000) (hx : ∀ x ∈ l, x.length < 1048576) (hb : (plainB l).length < 137438953472) :
    Calls Try.prog 13 #[v] w fun e w' => ∃ u, e = .returned u ∧ Own w' w.heap.size u (plainB l) ∧ Fr Non w w' := by
  have HX := Lib.hid hx
  have HB := Lib.hid hb
  clear hx hb
  obtain ⟨A, c, rfl, hlc, hn, hcell⟩ := hv
  have HN := Lib.hid hn
  have HC := Lib.hid hcell
  clear hn hcell
  go_enter Try.func13, Try.ntmps13
  go_wp2
  have hown0 := own_lit0 w w.heap.size w.heap.size rfl (Nat.le_refl _)
  have hf0 : Fr Non w (w.alloc (.cells #[] 5)) := (Fr.refl _ _).alloc _
  go_loopw [3, 4] (fun b i wr => ∃ k : Nat, k ≤ l.length ∧ i = .int .i64 k ∧ Own wr w.heap.size b (plainB (l.take k)) ∧ Fr Non w wr) (fun _ i _ => l.length - (intOf i).toNat)
  case atStart => exact ⟨0, Nat.zero_le _, rfl, hown0, hf0⟩
  case round =>
    clear hown0 hf0
    obtain ⟨k, hk, rfl, hown, hfr⟩ := hrel
    by_cases hlt : k < l.length
    · cases A with
      | none => have := HN.out rfl; omega
      | some a =>
        have g0 : w.cell? (a.add k) = some (sv l[k]) := HC.out a rfl k hlt
        have g1 : wr.cell? (a.add k) = some (sv l[k]) := (hfr.cell (World.block_lt_of_cell? w _ g0) (fun e => e)).trans g0
        unfold sv at g1
        have hx1 := HX.out l[k] (by simp)
        have hle := plainB_le l (k + 1)
        have HS := Lib.hid (plainB_take l k hlt)
        have hle2 : (plainB (l.take k)).length + (textB l[k]).length < 140737488355328 := by
          rw [HS.out, List.length_append] at hle
          have := HB.out
          omega
        have hB := hfr.size
        clear g0 hle
        generalize l[k] = x at *
        generalize plainB (l.take k) = F at *
        go_wp2_with fail
        refine (rtext_any x wr hx1).mono ?_
        rintro e w1 ⟨v1, rfl, hown1, hf1⟩
        have hown' := hown.non hf1
        go_wp2_with (at_builtin; refine wpList_app rfl (.tmp 12) (.tmp 17) rfl w.heap.size u3 v1 F (textB x) rfl hown' rfl hown1.bs hle2 (Nat.le_trans hB hf1.size) ?_; intro v' w' hown2 hfr2)
        go_roundw
        case rel => exact ⟨k + 1, by omega, by go_num, by rw [HS.out]; exact hown2, (hfr.trans hf1).fresh hfr2 fun q hq => (hown.lt q hq).1⟩
        case measure => simp [intOf]; omega
    · have hT : l.take k = l := List.take_of_length_le (by omega)
      rw [hT] at hown
      clear hT
      go_wp2
      go_ret
      exact ⟨_, rfl, hown, hfr⟩
end Go.Proofs.Ytdniififoahlaaa
