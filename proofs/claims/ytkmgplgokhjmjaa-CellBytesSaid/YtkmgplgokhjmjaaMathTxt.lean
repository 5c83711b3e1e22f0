/-
  One text's bytes, read again.
-/
import Derived.Test.YtkmgplgokhjmjaaVint6
import Derived.Test.YtkmgplgokhjmjaaMathTx
namespace Go.Proofs.Ytkmgplgokhjmjaa
set_option linter.unusedVariables false
set_option linter.unusedSimpArgs false
set_option maxRecDepth 100000

/-! ### One text read -/
theorem textB_len {t : Tx} (h : t.length < two64) : (textB t).length ≤ t.length + 10 := by
  have := Lib.uvarint_length64 h
  unfold textB; rw [List.length_append]; omega
theorem txt_own {t r : List UInt8} {m : Int} (h : (t.length : Int) ≤ m) (h2 : t.length < two64) : txtT (textB t ++ r) m = t ∧ txtR (textB t ++ r) m = r ∧ txtB (textB t ++ r) m = false := by
  have hr : rd 0 0 (textB t ++ r) = some (t.length, t ++ r) := by
    unfold textB; rw [List.append_assoc]; exact rd_own h2 _
  obtain ⟨h1, h3, h4, _⟩ := rest_some hr
  have hm : mostOk (textB t ++ r) m = true := decide_eq_true ⟨by omega, by rw [h4]; exact h⟩
  have hc : cutOk (t ++ r) (t.length : Int) = true := decide_eq_true ⟨by omega, by rw [List.length_append]; omega⟩
  unfold txtT txtR txtB mostV mostR mostB
  rw [hm]
  simp only [if_true, h1, h3, h4]
  unfold cutT cutR cutB
  rw [hc]
  simp
theorem txt_is {l : List UInt8} {m : Int} (h : txtB l m = false) : l = textB (txtT l m) ++ txtR l m ∧ ((txtT l m).length : Int) ≤ m ∧ (txtT l m).length < two64 := by
  unfold txtB mostB mostR mostV at h
  unfold txtT txtR mostV mostR
  by_cases hm : mostOk l m = true
  · rw [hm] at h ⊢
    simp only [if_true] at h ⊢
    cases hr : rd 0 0 l with
    | none =>
      rw [(rest_none hr).2.1, (rest_none hr).1, (rest_none hr).2.2.1] at h
      exact absurd h (by simp [cutB])
    | some p =>
      obtain ⟨n, q⟩ := p
      obtain ⟨h1, h2, h3, _⟩ := rest_some hr
      rw [h1, h2, h3] at h
      rw [h1, h3]
      have hok := of_decide_eq_true hm
      rw [h3] at hok
      by_cases hc : cutOk q (n : Int) = true
      · have hc2 := of_decide_eq_true hc
        unfold cutT cutR
        rw [hc]
        simp only [if_true]
        have hl : (q.take (n : Int).toNat).length = n := by rw [List.length_take]; omega
        refine ⟨?_, by rw [hl]; exact hok.2, by rw [hl]; exact rd_lt hr⟩
        unfold textB
        rw [hl, List.append_assoc, List.take_append_drop]
        exact rd_is hr
      · unfold cutB at h
        rw [if_neg hc] at h
        cases h
  · rw [if_neg hm, if_neg hm, if_neg hm] at h
    exfalso
    revert h
    unfold cutB
    split <;> simp
end Go.Proofs.Ytkmgplgokhjmjaa
