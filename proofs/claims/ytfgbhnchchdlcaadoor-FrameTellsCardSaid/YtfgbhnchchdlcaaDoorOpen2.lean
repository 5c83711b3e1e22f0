/-
  Arguments of layer 2's laws, opened: a number of 32 bits, four bytes by value, a slice of slices of bytes; and the table that the program lays.
-/
import Derived.Test.YtfgbhnchchdlcaaDoorFrame
import Derived.Test.YtfgbhnchchdlcaaDoorCrc1
import Derived.Deep.Matrix
import Derived.LaidMore
import Derived.Lib.LaidTab
import Derived.Laws.IdiomArrays
import Derived.Lib.SmallJoins
namespace Go.Proofs.YtfgbhnchchdlcaaDoor
set_option linter.unusedVariables false
set_option linter.unusedSimpArgs false
open Go.ChangeShapes Go.WideShapes Go.ChangeAt Go.RowKit

theorem wf_u32_bd {n : Int} (h : (Lit.int .u32 n).wf = true) : 0 ≤ n ∧ n ≤ 4294967295 := by
  simpa [Lit.wf, IntKind.min, IntKind.max, IntKind.signed, IntKind.bits] using h
theorem wf_u8_bd {n : Int} (h : (Lit.int .u8 n).wf = true) : 0 ≤ n ∧ n ≤ 255 := by
  simpa [Lit.wf, IntKind.min, IntKind.max, IntKind.signed, IntKind.bits] using h
theorem u8_of {n : Int} (h : (Lit.int .u8 n).wf = true) : ∃ b : UInt8, n = (b.toNat : Int) := by
  have := wf_u8_bd h
  exact ⟨UInt8.ofNat n.toNat, by rw [UInt8.toNat_ofNat']; omega⟩

/-- a row of numbers of eight bits reads as bytes -/
theorem bs_of_ints {W : World} {A : Option Addr} {n c : Nat} {zs : List Int} (hl : n ≤ c) (hz : zs.length = c) (hw : ∀ x ∈ zs, (Lit.int .u8 x).wf = true) (hn : A = none → c = 0)
    (hc : ∀ a, A = some a → ∀ j, j < c → W.cell? (a.add j) = some (.int .u8 (zs.getD j 0))) : ∃ l : List UInt8, l.length = n ∧ Bs W (.slice A n c) l := by
  have hlen : ((zs.take n).map fun n => UInt8.ofNat n.toNat).length = n := by simp; omega
  refine ⟨(zs.take n).map fun n => UInt8.ofNat n.toNat, hlen, A, c, by rw [hlen], by rw [hlen]; exact hl, hn, fun a ha j hj => ?_⟩
  rw [hlen] at hj
  rw [hc a ha j (by omega)]
  have hb := wf_u8_bd (hw (zs.getD j 0) (by rw [← List.getElem_eq_getD (h := by omega) 0]; exact List.getElem_mem _))
  have he : ((zs.take n).map fun n => UInt8.ofNat n.toNat)[j]'(by rw [hlen]; exact hj) = UInt8.ofNat (zs.getD j 0).toNat := by
    rw [List.getElem_map, List.getElem_take, ← List.getElem_eq_getD (h := by omega) 0]
  rw [he]
  unfold bv
  rw [show ((UInt8.ofNat (zs.getD j 0).toNat).toNat : Int) = zs.getD j 0 by rw [UInt8.toNat_ofNat']; omega]

theorem choose_list {α : Type} (P : Nat → α → Prop) : ∀ (n : Nat), (∀ i, i < n → ∃ x, P i x) → ∃ l : List α, l.length = n ∧ ∀ i (h : i < l.length), P i l[i]
  | 0, _ => ⟨[], rfl, fun i h => by simp at h⟩
  | n + 1, h => by
    obtain ⟨l, hl, hp⟩ := choose_list P n fun i hi => h i (by omega)
    obtain ⟨x, hx⟩ := h n (by omega)
    refine ⟨l ++ [x], by simp [hl], fun i hi => ?_⟩
    by_cases hin : i < l.length
    · rw [List.getElem_append_left hin]; exact hp i hin
    · have : i = n := by simp at hi; omega
      subst this
      rw [List.getElem_append_right (by omega)]
      simpa using hx

theorem bss_in {H : Type} {enc : TypeId × Value → H} {W : World} {base : Nat} {v : Value} {d : DataW H} {p : List MemPlace} (hv : Value.okWide Tryd.prog W .any base 32 v)
    (h : DataW.Trod enc Tryd.prog W 0 (fun _ => true) true 32 v d p) : ∃ ls, Bss W v ls ∧ ls.length ≤ 9223372036854775807 ∧ ∀ l ∈ ls, l.length ≤ 9223372036854775807 := by
  obtain ⟨A, n, c, rfl⟩ := okWide_slice Tryd.underlying32 hv
  obtain ⟨fuel, hf⟩ := h
  rcases Go.Deep.open_int_rows Tryd.underlying32 Tryd.underlying22 Tryd.underlying5 (by kernel_rfl) (by kernel_rfl) hf with ⟨hcs, _⟩ | ⟨a, len, cap, A', L, C, Z, hcs, _, hl, hm, _, hr⟩
  · simp [Value.cells] at hcs
    obtain ⟨rfl, rfl, rfl⟩ := hcs
    exact ⟨[], ⟨none, 0, rfl, Nat.le_refl _, fun _ => rfl, fun _ h => by cases h⟩, by simp, by simp⟩
  · simp [Value.cells] at hcs
    obtain ⟨rfl, rfl, rfl⟩ := hcs
    obtain ⟨ls, hll, hls⟩ := choose_list (fun r (l : List UInt8) => ∃ u, W.cell? (a.add r) = some u ∧ Bs W u l ∧ l.length ≤ 9223372036854775807) n (by
      intro r hrn
      obtain ⟨h1, h2, h3, h4, h5, h6, h7⟩ := hr r (by omega)
      obtain ⟨l, e, hb⟩ := bs_of_ints h2 h4 h5 h6 (fun a' ha' => (h7 a' ha').2)
      exact ⟨l, _, h1, hb, by unfold maxLen at h3; omega⟩)
    refine ⟨ls, ⟨some a, c, by rw [hll], by omega, (fun h => by cases h), fun b hb j hj => ?_⟩, by unfold maxLen at hm; omega, fun l hl => ?_⟩
    · cases hb
      obtain ⟨u, h1, h2, _⟩ := hls j hj
      exact ⟨u, h1, h2⟩
    · obtain ⟨j, hj, rfl⟩ := List.mem_iff_getElem.1 hl
      obtain ⟨u, _, _, h3⟩ := hls j hj
      exact h3

theorem four_in {H : Type} {enc : TypeId × Value → H} {W : World} {base : Nat} {v : Value} {d : DataW H} {p : List MemPlace} (hv : Value.okWide Tryd.prog W .any base 37 v)
    (h : DataW.Trod enc Tryd.prog W 0 (fun _ => true) true 37 v d p) : ∃ x0 x1 x2 x3 : UInt8, v = .agg #[.int .u8 x0.toNat, .int .u8 x1.toNat, .int .u8 x2.toNat, .int .u8 x3.toNat] := by
  unfold Value.okWide at hv
  rw [Tryd.underlying37] at hv
  obtain ⟨cs, rfl, hsz, _⟩ := hv
  obtain ⟨c0, c1, c2, c3, rfl⟩ := Joins.array4 (hsz.trans (show Tryd.prog.cellsOf 37 = 4 by kernel_rfl))
  obtain ⟨fuel, hf⟩ := h
  obtain ⟨y0, y1, y2, y3, n, _, h0, h1, h2, h3⟩ := trod_array4 Tryd.underlying37 (show Tryd.prog.cellsOf 5 = 1 by kernel_rfl) hf
  have each : ∀ c y, DataW.trod enc Tryd.prog W 0 (fun _ => true) true n 5 [c] = some y → ∃ x : UInt8, c = .int .u8 x.toNat := by
    intro c y h
    obtain ⟨z, e, _, w⟩ := DataW.trod_int Tryd.underlying5 h
    simp at e
    obtain ⟨b, rfl⟩ := u8_of w
    exact ⟨b, e⟩
  obtain ⟨x0, rfl⟩ := each _ _ h0
  obtain ⟨x1, rfl⟩ := each _ _ h1
  obtain ⟨x2, rfl⟩ := each _ _ h2
  obtain ⟨x3, rfl⟩ := each _ _ h3
  exact ⟨x0, x1, x2, x3, rfl⟩

/-- the table lies as the text lays it -/
theorem tab_in {W : World} {rest : List (String × DataW Unit)} (h : laidMet Tryd.prog (("firkin/crc.halves", Rows.laid_firkin_crc_halves) :: rest) W) : Tab W := by
  have hT : Lib.TabIs Tryd.prog W "firkin/crc.halves" .u32 halfTab := Lib.tabIs_of_head (n := 16) (show Tryd.prog.globalNamed "firkin/crc.halves" = some 0 by kernel_rfl)
    (show (Tryd.prog.globals[0]?).map (·.type) = some 68 by kernel_rfl) Tryd.underlying68 Tryd.underlying44 (by kernel_rfl) (by kernel_rfl) (h : laidMet Tryd.prog (("firkin/crc.halves", Lib.tabData .u32 halfTab) :: rest) W)
  intro i hi
  have := hT.cell (show Tryd.prog.globalNamed "firkin/crc.halves" = some 0 by kernel_rfl) i (by simpa [halfTab] using hi)
  rw [this]
  have hp : 0 ≤ halfTab.getD i 0 := by
    have all : ∀ j : Fin 16, 0 ≤ halfTab.getD j.1 0 := by decide
    exact all ⟨i, hi⟩
  unfold half
  rw [Int.toNat_of_nonneg hp]

theorem tab_inH {W : World} (h : laidMetH Tryd.prog [("firkin/crc.halves", Rows.laid_firkin_crc_halves)] W) : Tab W := by
  rw [MakeChecks.laidMetH_plain _ _ _ (by kernel_rfl)] at h
  exact tab_in h

end Go.Proofs.YtfgbhnchchdlcaaDoor
