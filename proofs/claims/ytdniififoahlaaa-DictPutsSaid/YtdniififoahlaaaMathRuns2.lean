/-
  Layer 5 as plain functions on lists: which numbers bytes are, by a count that may be any whole number (gtz, gtM), and one step of reading (nxR) by the words of a source. Nothing of the program but those words.
-/
import Derived.Test.YtdniififoahlaaaMathRuns
import Derived.Test.YtdniififoahlaaaVint6
namespace Go.Proofs.Ytdniififoahlaaa
set_option linter.unusedVariables false
set_option linter.unusedSimpArgs false

def gtz (b : List UInt8) (n : Int) (last : Option Int) : Option (List Int) := if n < 0 then none else gt b n.toNat last
/-- the numbers that Get answers -/
def gtM (b : List UInt8) (n : Int) : Option (List Int) := if n ≤ 4096 then gtz b n none else none

theorem nxR_nil (m : Nat) : nxR [] m = none := rfl
theorem gtz_end {b : List UInt8} {last : Option Int} (h : b ≠ []) : gtz b 0 last = none := by unfold gtz; rw [if_neg (by omega)]; exact gt_end h
theorem gtz_nil (last : Option Int) : gtz [] 0 last = some [] := by unfold gtz; rw [if_neg (by omega)]; exact gt_nil _
theorem gtz_none {p : Int} {last : Option Int} (h : p ≠ 0) : gtz [] p last = none := by
  unfold gtz
  split
  · rfl
  · exact gt_none (by omega) (nxR_nil _)
theorem gtz_bad {b : List UInt8} {p : Int} {m : Nat} {last : Option Int} (hb : b ≠ []) (hp : p ≤ (m : Int) + 1) (h : nxR b m = none) : gtz b p last = none := by
  unfold gtz
  split
  · rfl
  · by_cases h0 : p = 0
    · subst h0; exact gt_end hb
    · refine gt_none (by omega) ?_
      cases hx : nxR b (p.toNat - 1) with
      | none => rfl
      | some y =>
        obtain ⟨k, x, q⟩ := y
        obtain ⟨_, _, _, _, _, hk, _⟩ := nxR_some hx
        rw [nxR_bound hx (m' := m) (by omega)] at h
        cases h
theorem gtz_big {b : List UInt8} {p : Int} {m k : Nat} {x : Int} {q : List UInt8} {last : Option Int} (h : nxR b m = some (k, x, q)) (hp : p < (k : Int) + 1) : gtz b p last = none := by
  have hb : b ≠ [] := by intro e; subst e; rw [nxR_nil] at h; cases h
  unfold gtz
  split
  · rfl
  · by_cases h0 : p = 0
    · subst h0; exact gt_end hb
    · refine gt_none (by omega) ?_
      cases hx : nxR b (p.toNat - 1) with
      | none => rfl
      | some y =>
        obtain ⟨k', x', q'⟩ := y
        obtain ⟨_, _, _, _, _, hk, _⟩ := nxR_some hx
        obtain ⟨r, z, h1, _⟩ := nxR_some h
        obtain ⟨r', z', h2, _⟩ := nxR_some hx
        rw [h1] at h2
        simp only [Option.some.injEq, Prod.mk.injEq] at h2
        omega
theorem gtz_same {b : List UInt8} {p : Int} {m k : Nat} {x : Int} {q : List UInt8} {last : Option Int} (h : nxR b m = some (k, x, q)) (hp : (k : Int) + 1 ≤ p) (hl : last = some x) : gtz b p last = none := by
  unfold gtz
  rw [if_neg (by omega)]
  exact gt_same (by omega) (nxR_bound h (m' := p.toNat - 1) (by omega)) hl
theorem gtz_more {b : List UInt8} {p : Int} {m k : Nat} {x : Int} {q : List UInt8} {last : Option Int} (h : nxR b m = some (k, x, q)) (hp : (k : Int) + 1 ≤ p) (hl : last ≠ some x) :
    gtz b p last = (gtz q (p - ((k : Int) + 1)) (some x)).map (List.replicate (k + 1) x ++ ·) := by
  unfold gtz
  rw [if_neg (by omega), if_neg (by omega), gt_more (by omega) (nxR_bound h (m' := p.toNat - 1) (by omega)) hl]
  congr 2
  omega

theorem gtM_put {l : List Int} (hl : l.length ≤ 4096) (hx : ∀ x ∈ l, I64 x) : gtM (putR l) l.length = some l := by
  unfold gtM gtz
  rw [if_pos (by omega), if_neg (by omega)]
  exact gt_putR _ l none rfl (by omega) hx (by cases l <;> simp)
theorem gtM_is {b : List UInt8} {n : Int} {l : List Int} (h : gtM b n = some l) : putR l = b ∧ (l.length : Int) = n ∧ (∀ x ∈ l, I64 x) ∧ 0 ≤ n ∧ n ≤ 4096 := by
  unfold gtM gtz at h
  split at h
  · split at h
    · cases h
    · obtain ⟨h1, h2, h3, _⟩ := gt_is _ _ _ _ h
      exact ⟨h1, by omega, h3, by omega, by omega⟩
  · cases h
theorem gtM_count {b : List UInt8} {n m : Int} {l l' : List Int} (h : gtM b n = some l) (h' : gtM b m = some l') : n = m := by
  have hb := gtM_is h
  have hb' := gtM_is h'
  unfold gtM gtz at h h'
  rw [if_pos (by omega), if_neg (by omega)] at h h'
  have := gt_count _ _ _ _ _ _ h h'
  omega

/-- one step's words: at most m behind the first one -/
theorem step_none {b : List UInt8} {m : Nat} {z : Int} (h : nxR b m = none) (hz : z = (m : Int)) : fell (mostR b z) = true := by
  subst hz
  unfold nxR at h
  unfold mostR mostOk
  cases h1 : rd 0 0 b with
  | none =>
    rw [(rest_none h1).2.2.1, (rest_none h1).1]
    split <;> rfl
  | some y =>
    obtain ⟨k, r⟩ := y
    rw [h1] at h
    dsimp only at h
    rw [(rest_some h1).2.2.1, (rest_some h1).1]
    split at h
    · cases h2 : rd 0 0 r with
      | none => split; exact (rest_none h2).2.1; rfl
      | some y => rw [h2] at h; cases h
    · rename_i hk
      rw [decide_eq_false (by omega)]; rfl
theorem step_some {b : List UInt8} {m k : Nat} {x : Int} {q : List UInt8} {z : Int} (h : nxR b m = some (k, x, q)) (hz : z = (m : Int)) :
    mostV b z = k ∧ unzig (fstN (mostR b z)) = x ∧ rest (mostR b z) = q ∧ fell (mostR b z) = false ∧ k ≤ m ∧ I64 x := by
  subst hz
  obtain ⟨r, y, h1, h2, rfl, hk, _, hx⟩ := nxR_some h
  have hok : mostOk b m = true := by unfold mostOk; rw [(rest_some h1).2.2.1]; exact decide_eq_true (by omega)
  have hR : mostR b m = r := by unfold mostR; rw [hok, if_pos rfl]; exact (rest_some h1).1
  refine ⟨?_, ?_, ?_, ?_, hk, hx⟩
  · unfold mostV; rw [hok, if_pos rfl]; exact (rest_some h1).2.2.1
  · rw [hR, (rest_some h2).2.2.1]
  · rw [hR]; exact (rest_some h2).1
  · rw [hR]; exact (rest_some h2).2.1

/-- the last one of a list, by its place -/
theorem last_at {l : List Int} {y : Int} (h : l.getLast? = some y) : ∃ t, l.length = t + 1 ∧ l[t]? = some y := by
  rw [List.getLast?_eq_getElem?] at h
  cases l with
  | nil => simp at h
  | cons a l => exact ⟨l.length, rfl, by simpa using h⟩
theorem last_more (o : List Int) (k : Nat) (x : Int) : (o ++ List.replicate (k + 1) x).getLast? = some x := by
  rw [List.replicate_succ', ← List.append_assoc]; simp
/-- what a round leaves of what is answered -/
theorem more_app {o : List Int} {k : Nat} {x : Int} (g : Option (List Int)) : (g.map (List.replicate (k + 1) x ++ ·)).map (o ++ ·) = g.map (o ++ List.replicate (k + 1) x ++ ·) := by
  cases g <;> simp

end Go.Proofs.Ytdniififoahlaaa
