/-
  Layer 3 in plain lists: frames one behind the other, cut anywhere.
-/
import Derived.Test.YtfgbhnchchdlcaaDoorMathFrm
namespace Go.Proofs.YtfgbhnchchdlcaaDoor
set_option linter.unusedVariables false
set_option linter.unusedSimpArgs false

/-- the first k frames, one behind the other -/
def catB (ls : List (List UInt8)) (k : Nat) : List UInt8 := ((ls.take k).map frameB).flatten
theorem catB_zero (ls : List (List UInt8)) : catB ls 0 = [] := by simp [catB]
theorem catB_succ (ls : List (List UInt8)) (k : Nat) (h : k < ls.length) : catB ls (k + 1) = catB ls k ++ frameB ls[k] := by
  unfold catB
  rw [List.take_succ_eq_append_getElem h, List.map_append, List.flatten_append]
  simp
theorem catB_all (ls : List (List UInt8)) (k : Nat) : catB ls ls.length = catB ls k ++ ((ls.drop k).map frameB).flatten := by
  unfold catB
  rw [List.take_length, ← List.flatten_append, ← List.map_append, List.take_append_drop]
theorem catB_le (ls : List (List UInt8)) (k : Nat) : (catB ls k).length ≤ (catB ls ls.length).length := by
  rw [catB_all ls k, List.length_append]; omega
theorem catB_drop (ls : List (List UInt8)) (k : Nat) : (catB ls ls.length).drop (catB ls k).length = ((ls.drop k).map frameB).flatten := by
  rw [catB_all ls k]; simp
theorem cut_drop (ls : List (List UInt8)) (k cut : Nat) : ((catB ls ls.length).take cut).drop (catB ls k).length = (((ls.drop k).map frameB).flatten).take (cut - (catB ls k).length) := by
  rw [List.drop_take, catB_drop]

theorem rd_more_behind {p : List UInt8} {n : Nat} {r : List UInt8} (h : rd 0 0 p = some (n, r)) (s : List UInt8) : rd 0 0 (p ++ s) = some (n, r ++ s) := by
  rw [rd_is h, List.append_assoc]
  exact rd_own (rd_lt h) _
/-- a frame that is cut is none -/
theorem cut_none (b : List UInt8) (hb : b.length ≤ 1048576) (m : Nat) (hm : m < (frameB b).length) : gE ((frameB b).take m) ≠ 0 := by
  intro h
  have hz := gE_zero h
  have hf : fits ((frameB b).take m) = true := by
    unfold gE at h
    cases hf : fits ((frameB b).take m)
    · rw [hf] at h; simp at h
    · rfl
  have hd := of_decide_eq_true (show decide (hS ((frameB b).take m) ≠ 0 ∧ hS ((frameB b).take m) + 4 + hN ((frameB b).take m) ≤ ((frameB b).take m).length) = true from hf)
  have hl : ((frameB b).take m).length = m := by rw [List.length_take]; omega
  cases hr : rd 0 0 ((frameB b).take m) with
  | none => exact hd.1 (head_none hr).2
  | some q =>
    obtain ⟨n, r⟩ := q
    have h1 := rd_more_behind hr ((frameB b).drop m)
    rw [List.take_append_drop] at h1
    have h2 : rd 0 0 (frameB b) = some (b.length, sum4 (sumOf 0 b) ++ b) := rd_own (by unfold two64; omega) _
    rw [h1] at h2
    simp only [Option.some.injEq, Prod.mk.injEq] at h2
    obtain ⟨hn, h3⟩ := h2
    subst hn
    have h4 := head_some hr (by omega)
    have h5 := congrArg List.length h3
    rw [List.length_append, List.length_append, sum4_length, List.length_drop] at h5
    have h6 := rd_len (by decide) hr
    rw [hl] at hd h6
    omega

/-- frames one behind the other are all told, up to one that is cut -/
theorem cut_all (ls : List (List UInt8)) (hls : ∀ b ∈ ls, b.length ≤ 1048576) (cut k : Nat) (hk : k ≤ ls.length) (hc : cut ≤ (catB ls ls.length).length) (h1 : (catB ls k).length ≤ cut) (h2 : k = ls.length ∨ cut < (catB ls (k + 1)).length) :
    allB ((catB ls ls.length).take cut).length ((catB ls ls.length).take cut) = ls.take k ∧ allN ((catB ls ls.length).take cut).length ((catB ls ls.length).take cut) = (catB ls k).length := by
  have step : ∀ j, j ≤ k → Sofar ((catB ls ls.length).take cut) (ls.take j) (catB ls j).length := by
    intro j
    induction j with
    | zero => intro _; rw [List.take_zero, catB_zero]; exact Sofar.start _
    | succ j ih =>
      intro hj
      have hjl : j < ls.length := by omega
      have hs := catB_succ ls j hjl
      have hmono : (catB ls (j + 1)).length ≤ cut := by
        have : (catB ls (j + 1)).length ≤ (catB ls k).length := by
          unfold catB
          have e : ls.take k = ls.take (j + 1) ++ (ls.take k).drop (j + 1) := by
            conv => lhs; rw [← List.take_append_drop (j + 1) (ls.take k)]
            rw [List.take_take, Nat.min_eq_left hj]
          rw [e, List.map_append, List.flatten_append, List.length_append]; omega
        omega
      have hd : ((catB ls ls.length).take cut).drop (catB ls j).length = frameB ls[j] ++ (((ls.drop (j + 1)).map frameB).flatten).take (cut - (catB ls j).length - (frameB ls[j]).length) := by
        rw [cut_drop, List.drop_eq_getElem_cons hjl, List.map_cons, List.flatten_cons, List.take_append, List.take_of_length_le]
        rw [hs, List.length_append] at hmono
        omega
      obtain ⟨g1, g2, g3⟩ := got_own (hls ls[j] (List.getElem_mem _)) ((((ls.drop (j + 1)).map frameB).flatten).take (cut - (catB ls j).length - (frameB ls[j]).length))
      have hst := (ih (by omega)).step (by rw [hd]; exact g1)
      rw [hd, g2, g3] at hst
      rw [List.take_succ_eq_append_getElem hjl, hs, List.length_append]
      exact hst
  refine (step k (Nat.le_refl _)).stop ?_
  rw [cut_drop]
  rcases h2 with rfl | h2
  · rw [List.drop_length]
    simp [gE_nil]
  · by_cases hkl : k < ls.length
    · rw [List.drop_eq_getElem_cons hkl, List.map_cons, List.flatten_cons, List.take_append_of_le_length]
      · apply cut_none _ (hls _ (List.getElem_mem _))
        rw [catB_succ ls k hkl, List.length_append] at h2
        omega
      · rw [catB_succ ls k hkl, List.length_append] at h2
        omega
    · have : k = ls.length := by omega
      subst this
      rw [List.drop_length]
      simp [gE_nil]

/-- where the first k frames end -/
def endsL (ls : List (List UInt8)) (k : Nat) : List Int := (List.range (k + 1)).map fun j => ((catB ls j).length : Int)
theorem endsL_zero (ls : List (List UInt8)) : endsL ls 0 = [0] := by simp [endsL, catB_zero]
theorem endsL_succ (ls : List (List UInt8)) (k : Nat) : endsL ls (k + 1) = endsL ls k ++ [((catB ls (k + 1)).length : Int)] := by
  unfold endsL; rw [List.range_succ, List.map_append]; simp
theorem endsL_length (ls : List (List UInt8)) (k : Nat) : (endsL ls k).length = k + 1 := by simp [endsL]
theorem endsL_at (ls : List (List UInt8)) (k j : Nat) (h : j < (endsL ls k).length) : (endsL ls k)[j] = ((catB ls j).length : Int) := by simp [endsL]
end Go.Proofs.YtfgbhnchchdlcaaDoor
