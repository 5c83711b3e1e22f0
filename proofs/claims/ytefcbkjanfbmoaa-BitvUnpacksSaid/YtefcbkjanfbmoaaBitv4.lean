/-
  Layer 4: the walks of bitv.Or, the document's Or, the example.
-/
import Derived.Test.YtefcbkjanfbmoaaBitv3
namespace Go.Proofs.Ytefcbkjanfbmoaa
set_option linter.unusedVariables false
set_option linter.unusedSimpArgs false
open Go.RowKit

set_option maxHeartbeats 2000000 in
theorem or_walk (A1 A2 : Option Addr) (c1 c2 na nb m : Nat) (a b : List Bool) (w : World) (ha : a.length = na) (hb : b.length = nb) (h1 : Vs tv w (.slice A1 na c1) a) (h2 : Vs tv w (.slice A2 nb c2) b) (hl1 : na ≤ 1000000) (hl2 : nb ≤ 1000000)
    (hcs : m = na ∧ nb ≤ na ∨ m = nb ∧ na < nb) :
    Calls Try.prog 14 #[.slice A1 na c1, .slice A2 nb c2] w fun e w' => ∃ u, e = .returned u ∧ Ow tv 4 w' w.heap.size u (orB a b) ∧ Fr Non w w' := by
  have HV1 := Lib.hid h1
  have HV2 := Lib.hid h2
  have HM := Lib.hid (show max a.length b.length = m by omega)
  have HA := Lib.hid ha
  have HB := Lib.hid hb
  have hb1 : b.length ≤ nb := by omega
  have hb2 : nb ≤ b.length := by omega
  have hcA : na ≤ c1 := by
    obtain ⟨A, c, he, h, _⟩ := h1
    simp only [Value.slice.injEq] at he
    omega
  have hcB : nb ≤ c2 := by
    obtain ⟨A, c, he, h, _⟩ := h2
    simp only [Value.slice.injEq] at he
    omega
  have hm1 : m ≤ 1000000 := by omega
  have hnm : nb ≤ m := by omega
  clear h1 h2 ha hb
  rcases hcs with ⟨rfl, hle⟩ | ⟨rfl, hle⟩
  all_goals
    go_enter Try.func14, Try.ntmps14
    go_wp2_with (first | (at_make; refine wpList_mkfullG el_bool (f := tv) false rfl rfl _ _ rfl _ _ _ _ m rfl rfl rfl rfl (by omega) ?_; intro w1 hown1 hfr1) | (refine wpList_copyG el_bool tv_one rfl (.tmp 14) (.tmp 15) rfl w.heap.size _ _ (List.replicate m false) a rfl hown1 rfl (HV1.out.non hfr1) ?_; intro w2 hown2 hfr2))
    rw [List.length_replicate] at hown2
    have hz : a.take m ++ (List.replicate m false).drop a.length = orTo a b 0 := by
      rw [orTo_zero, HM.out, List.drop_replicate, List.take_of_length_le (by have := HM.out; omega)]
    rw [hz] at hown2
    have hfr := (hfr1.fresh hfr2 (fun k hk => (hown1.lt k hk).1))
    have hml : m = (orTo a b 0).length := by rw [orTo_length]; exact HM.out.symm
    clear hz hown1 hfr1 hfr2 hml
    go_loopw [19] (fun i wr => ∃ k : Nat, k ≤ b.length ∧ i = .int .i64 k ∧ Ow tv 4 wr w.heap.size (.slice (some ⟨w.heap.size, 0, none⟩) m m) (orTo a b k) ∧ Fr Non w wr) (fun i _ => b.length - (intOf i).toNat)
    case atStart => exact ⟨0, Nat.zero_le _, rfl, hown2, hfr⟩
    case round =>
      obtain ⟨k, hk, rfl, hown, hfr⟩ := hrel
      have HO := Lib.hid hown
      have HF := Lib.hid hfr
      have hlen : m = (orTo a b k).length := by rw [orTo_length]; exact HM.out.symm
      have HL := Lib.hid hlen
      by_cases hlt : k < b.length
      · obtain ⟨a2, rfl, _, _, hcell⟩ := HV2.out.addr (by omega)
        have hc0 := hcell k hlt
        have g1 : wr.cell? (a2.add k) = some (tv b[k]) := (hfr.cell (World.block_lt_of_cell? w _ hc0) (fun e => e)).trans hc0
        obtain ⟨y, hy⟩ : ∃ y, (orTo a b k)[k]? = some y := ⟨_, List.getElem?_eq_getElem (by omega)⟩
        have hq := hown.cell hlen k y hy
        have hfz := hown.frozen hlen k
        have HY := Lib.hid (orTo_yes a b hlt)
        have HN := Lib.hid (orTo_no a b hlt)
        unfold tv at g1 hq
        clear hc0 hcell hown2 hfr hlen hown hy
        cases hb : b[k] with
        | false =>
          rw [hb] at g1
          have Hb := Lib.hid (HN.out hb)
          clear hb
          go_wp2
          go_roundw
          case rel => exact ⟨k + 1, by omega, by go_num, by rw [Hb.out]; exact HO.out, HF.out⟩
          case measure => simp [intOf]; omega
        | true =>
          rw [hb] at g1
          have Hb := Lib.hid (HY.out hb)
          clear hb
          go_wp2
          go_roundw
          case rel =>
            refine ⟨k + 1, by omega, by go_num, ?_, HF.out.setCell (fun h => by simp at h) _⟩
            rw [Hb.out]
            exact HO.out.store HL.out k true
          case measure => simp [intOf]; omega
      · have hke := orTo_all a b (show b.length ≤ k by omega)
        rw [hke] at hown
        clear hke hlen
        go_wp2
        go_ret
        exact ⟨_, rfl, hown, hfr⟩
theorem or_any (v1 v2 : Value) (a b : List Bool) (w : World) (h1 : Vs tv w v1 a) (h2 : Vs tv w v2 b) (hl1 : a.length ≤ 1000000) (hl2 : b.length ≤ 1000000) :
    Calls Try.prog 14 #[v1, v2] w fun e w' => ∃ u, e = .returned u ∧ Ow tv 4 w' w.heap.size u (orB a b) ∧ Fr Non w w' := by
  obtain ⟨A1, c1, rfl⟩ := h1.shape
  obtain ⟨A2, c2, rfl⟩ := h2.shape
  exact or_walk A1 A2 c1 c2 _ _ (max a.length b.length) a b w rfl rfl h1 h2 hl1 hl2 (by omega)

set_option maxHeartbeats 1000000 in
theorem ror_any (v1 v2 : Value) (a b : List Bool) (w : World) (h1 : Vs tv w v1 a) (h2 : Vs tv w v2 b) (hl1 : a.length ≤ 1000000) (hl2 : b.length ≤ 1000000) :
    Calls Try.prog 18 #[v1, v2] w fun e w' => ∃ u, e = .returned u ∧ Ow tv 4 w' w.heap.size u (orB a b) ∧ Fr Non w w' := by
  obtain ⟨A1, c1, rfl, hc1, hn1, hcell1⟩ := h1
  obtain ⟨A2, c2, rfl, hc2, hn2, hcell2⟩ := h2
  have HN1 := Lib.hid hn1
  have HC1 := Lib.hid hcell1
  have HN2 := Lib.hid hn2
  have HC2 := Lib.hid hcell2
  clear hn1 hcell1 hn2 hcell2
  go_enter Try.func18, Try.ntmps18
  go_wp2
  go_loopw [5, 6] (fun x i wr => ∃ k : Nat, k ≤ max a.length b.length ∧ i = .int .i64 k ∧ Ow tv 4 wr w.heap.size x (orRun a b k) ∧ Fr Non w wr) (fun _ i _ => max a.length b.length - (intOf i).toNat)
  case atStart => exact ⟨0, Nat.zero_le _, rfl, ow_lit0 _ _ _ rfl (Nat.le_refl _), (Fr.refl _ _).alloc _⟩
  case round =>
    obtain ⟨k, hk, rfl, hown, hfr⟩ := hrel
    have hB := hfr.size
    have HS := Lib.hid (orRun_succ a b k)
    have hlen : (orRun a b k).length < 1099511627776 := by simp [orRun]; omega
    have hea : ∀ h : k < a.length, a.getD k false = a[k] := fun h => by simp [List.getD_eq_getElem?_getD, h]
    have hna : ¬ k < a.length → a.getD k false = false := fun h => by simp [List.getD_eq_getElem?_getD, h]
    have heb : ∀ h : k < b.length, b.getD k false = b[k] := fun h => by simp [List.getD_eq_getElem?_getD, h]
    have hnb : ¬ k < b.length → b.getD k false = false := fun h => by simp [List.getD_eq_getElem?_getD, h]
    have gA : ∀ h : k < a.length, ∃ a1, A1 = some a1 ∧ wr.cell? (a1.add k) = some (.bool a[k]) := by
      intro h
      cases A1 with
      | none => have := HN1.out rfl; omega
      | some a1 =>
        have hc0 := HC1.out a1 rfl k h
        exact ⟨a1, rfl, (hfr.cell (World.block_lt_of_cell? w _ hc0) (fun e => e)).trans hc0⟩
    have gB : ∀ h : k < b.length, ∃ a2, A2 = some a2 ∧ wr.cell? (a2.add k) = some (.bool b[k]) := by
      intro h
      cases A2 with
      | none => have := HN2.out rfl; omega
      | some a2 =>
        have hc0 := HC2.out a2 rfl k h
        exact ⟨a2, rfl, (hfr.cell (World.block_lt_of_cell? w _ hc0) (fun e => e)).trans hc0⟩
    have KA := Lib.hid gA
    have KB := Lib.hid gB
    have EA := Lib.hid hea
    have EB := Lib.hid heb
    have ZA := Lib.hid hna
    have ZB := Lib.hid hnb
    clear gA gB hea heb hna hnb
    by_cases ha : k < a.length
    · obtain ⟨a1, rfl, g1⟩ := KA.out ha
      have e1 := EA.out ha
      cases hx : a[k] with
      | true =>
        rw [hx] at g1 e1
        have HE := Lib.hid (show (a.getD k false || b.getD k false) = true by rw [e1]; rfl)
        clear hx e1
        go_wp2_with (at_builtin; refine wpList_pushG el_bool tv_one rfl (.tmp 20) (.tmp 43) rfl w.heap.size _ (orRun a b k) rfl hown _ (a.getD k false || b.getD k false) (by rw [HE.out]; rfl) rfl hlen hB ?_; intro v2 w2 hown2 hfr2)
        go_roundw
        case rel => exact ⟨k + 1, by omega, by go_num, by rw [HS.out]; exact hown2, hfr.fresh hfr2 fun q hq => (hown.lt q hq).1⟩
        case measure => simp [intOf]; omega
      | false =>
        rw [hx] at g1 e1
        by_cases hb : k < b.length
        · obtain ⟨a2, rfl, g2⟩ := KB.out hb
          have HE := Lib.hid (show (a.getD k false || b.getD k false) = b[k] by rw [e1, EB.out hb]; rfl)
          clear hx e1
          generalize b[k] = y at *
          go_wp2_with (at_builtin; refine wpList_pushG el_bool tv_one rfl (.tmp 20) (.tmp 43) rfl w.heap.size _ (orRun a b k) rfl hown _ (a.getD k false || b.getD k false) (by rw [HE.out]; rfl) rfl hlen hB ?_; intro v2 w2 hown2 hfr2)
          go_roundw
          case rel => exact ⟨k + 1, by omega, by go_num, by rw [HS.out]; exact hown2, hfr.fresh hfr2 fun q hq => (hown.lt q hq).1⟩
          case measure => simp [intOf]; omega
        · have HE := Lib.hid (show (a.getD k false || b.getD k false) = false by rw [e1, ZB.out hb]; rfl)
          clear hx e1
          go_wp2_with (at_builtin; refine wpList_pushG el_bool tv_one rfl (.tmp 20) (.tmp 43) rfl w.heap.size _ (orRun a b k) rfl hown _ (a.getD k false || b.getD k false) (by rw [HE.out]; rfl) rfl hlen hB ?_; intro v2 w2 hown2 hfr2)
          go_roundw
          case rel => exact ⟨k + 1, by omega, by go_num, by rw [HS.out]; exact hown2, hfr.fresh hfr2 fun q hq => (hown.lt q hq).1⟩
          case measure => simp [intOf]; omega
    · by_cases hb : k < b.length
      · obtain ⟨a2, rfl, g2⟩ := KB.out hb
        have HE := Lib.hid (show (a.getD k false || b.getD k false) = b[k] by rw [ZA.out ha, EB.out hb]; rfl)
        generalize b[k] = y at *
        go_wp2_with (at_builtin; refine wpList_pushG el_bool tv_one rfl (.tmp 20) (.tmp 43) rfl w.heap.size _ (orRun a b k) rfl hown _ (a.getD k false || b.getD k false) (by rw [HE.out]; rfl) rfl hlen hB ?_; intro v2 w2 hown2 hfr2)
        go_roundw
        case rel => exact ⟨k + 1, by omega, by go_num, by rw [HS.out]; exact hown2, hfr.fresh hfr2 fun q hq => (hown.lt q hq).1⟩
        case measure => simp [intOf]; omega
      · obtain rfl : k = max a.length b.length := by omega
        rw [orRun_all] at hown
        clear HS hlen
        go_wp2
        go_ret
        exact ⟨_, rfl, hown, hfr⟩
end Go.Proofs.Ytefcbkjanfbmoaa
