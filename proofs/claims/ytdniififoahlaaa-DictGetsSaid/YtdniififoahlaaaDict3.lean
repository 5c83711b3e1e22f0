/-
  Layer 8: the walk of the document's Put.
-/
import Derived.Test.YtdniififoahlaaaDict2
import Derived.Test.YtdniififoahlaaaTight8
namespace Go.Proofs.Ytdniififoahlaaa
set_option linter.unusedVariables false
set_option linter.unusedSimpArgs false
set_option maxRecDepth 100000
open Go.RowKit

/-- the places of x among the first j of u -/
def plcW (u : List Tx) (x : Tx) (j : Nat) : List Int := if u.idxOf x < j then [(u.idxOf x : Int)] else []
theorem plcW_zero (u : List Tx) (x : Tx) : plcW u x 0 = [] := by unfold plcW; rw [if_neg (by omega)]
theorem plcW_hit {u : List Tx} {x : Tx} {j : Nat} (hj : j < u.length) (hn : u.Nodup) (h : u[j] = x) : plcW u x (j + 1) = plcW u x j ++ [(j : Int)] := by
  have hi : u.idxOf x = j := by rw [← h]; exact hn.idxOf_getElem j hj
  unfold plcW
  rw [hi, if_pos (by omega), if_neg (by omega)]; rfl
theorem plcW_miss {u : List Tx} {x : Tx} {j : Nat} (hj : j < u.length) (h : u[j] ≠ x) : plcW u x (j + 1) = plcW u x j := by
  have hi : u.idxOf x ≠ j := fun e => h (by subst e; exact List.getElem_idxOf hj)
  unfold plcW
  by_cases hlt : u.idxOf x < j
  · rw [if_pos hlt, if_pos (by omega)]
  · rw [if_neg hlt, if_neg (by omega)]
theorem plcW_all {u : List Tx} {x : Tx} (h : x ∈ u) : plcW u x u.length = [(u.idxOf x : Int)] := by
  unfold plcW; rw [if_pos (List.idxOf_lt_length_of_mem h)]
theorem placesD_take (l : List Tx) (k : Nat) (h : k < l.length) : (placesD l).take (k + 1) = (placesD l).take k ++ [((uniq l).idxOf l[k] : Int)] := by
  unfold placesD
  rw [← List.map_take, ← List.map_take, List.take_succ_eq_append_getElem h, List.map_append]
  rfl

set_option maxHeartbeats 4000000 in
theorem rxput_any (v : Value) (l : List Tx) (w : World) (hv : Vs sv w v l) (hl : l.length ≤ 10000) (hx : ∀ x ∈ l, x.length < 1048576) (hb : (plainB (uniq l)).length < 137438953472) :
    Calls Try.prog 14 #[v] w fun e w' => ∃ u, e = .returned u ∧ Own w' w.heap.size u (dictB l) ∧ Fr Non w w' := by
  have HV := Lib.hid hv
  have HX := Lib.hid (show ∀ x ∈ uniq l, x.length < 1048576 from fun x h => hx x ((uniq_mem l x).1 h))
  have HB := Lib.hid hb
  have HUl := uniq_length l
  have HND := Lib.hid (rising_nodup (uniq_rising l))
  have HME := Lib.hid (fun x => (uniq_mem l x).2)
  have HPT := Lib.hid (placesD_take l)
  have HPI := Lib.hid (placesD_i64 (l := l) (by omega))
  have HPL := Lib.hid (placesD_length l)
  have HD := Lib.hid (show dictB l = Lib.uvarint (uniq l).length ++ (plainB (uniq l) ++ putT (placesD l)) from rfl)
  clear hx hb
  obtain ⟨A, c, rfl, hlc, hn, hcell⟩ := hv
  have HN := Lib.hid hn
  have HC := Lib.hid hcell
  clear hn hcell
  go_enter Try.func14, Try.ntmps14
  go_wp2_with fail
  refine (rwords_any _ l w HV.out (by omega)).mono ?_
  rintro e w1 ⟨v1, rfl, hown1, hf1⟩
  generalize hU : uniq l = u at *
  clear hU
  have HW1 := Lib.hid hown1
  have HF1 := Lib.hid hf1
  obtain ⟨A1, c1, rfl⟩ := hown1.shape
  have h1le := hf1.size
  clear hown1 hf1
  go_wp2
  have hown0 := ow_lit0 (f := iv) (E := 2) w1 w1.heap.size w1.heap.size rfl (Nat.le_refl _)
  have hf0 : Fr Non w1 (w1.alloc (.cells #[] 2)) := (Fr.refl _ _).alloc _
  go_loopw [4, 5] (fun b i wr => ∃ k : Nat, k ≤ l.length ∧ i = .int .i64 k ∧ Ow iv 2 wr w1.heap.size b ((placesD l).take k) ∧ Fr Non w1 wr) (fun _ i _ => l.length - (intOf i).toNat)
  case atStart => exact ⟨0, Nat.zero_le _, rfl, hown0, hf0⟩
  case round =>
    clear hown0 hf0
    obtain ⟨k, hk, rfl, hown, hfr⟩ := hrel
    by_cases hlt : k < l.length
    · cases A with
      | none => have := HN.out rfl; omega
      | some a =>
        have g0 : w.cell? (a.add k) = some (sv l[k]) := HC.out a rfl k hlt
        have g1 : wr.cell? (a.add k) = some (sv l[k]) := ((HF1.out.trans hfr).cell (World.block_lt_of_cell? w _ g0) (fun e => e)).trans g0
        have HG0 := Lib.hid g0
        unfold sv at g1
        have HP1 := Lib.hid (HPT.out k hlt)
        have HMx := Lib.hid (HME.out l[k] (List.getElem_mem hlt))
        have hFl : ((placesD l).take k).length ≤ k := List.length_take_le _ _
        clear g0
        unfold sv at HG0
        generalize l[k] = x at *
        generalize (placesD l).take k = F at *
        go_wp2
        go_loopw [4, 6] (fun b i wx => ∃ j : Nat, j ≤ u.length ∧ i = .int .i64 j ∧ Ow iv 2 wx w1.heap.size b (F ++ plcW u x j) ∧ Fr Non w1 wx) (fun _ i _ => u.length - (intOf i).toNat)
        case atStart => exact ⟨0, Nat.zero_le _, rfl, by rw [plcW_zero, List.append_nil]; exact hown, hfr⟩
        case round =>
          clear hown hfr g1
          obtain ⟨j, hj, rfl, hown, hfr⟩ := hrel
          by_cases hju : j < u.length
          · obtain ⟨b, rfl, _, _, hcb⟩ := (HW1.out.vs.non hfr).addr (by omega : 0 < u.length)
            have g2 : wr.cell? (b.add j) = some (sv u[j]) := hcb j hju
            have g1 : wr.cell? (a.add k) = some (.string ⟨x.toArray⟩) := ((HF1.out.trans hfr).cell (World.block_lt_of_cell? w _ HG0.out) (fun e => e)).trans HG0.out
            unfold sv at g2
            clear hcb
            have hpl : (F ++ plcW u x j).length < 1099511627776 := by
              rw [List.length_append]
              unfold plcW
              split <;> simp <;> omega
            by_cases he : u[j] = x
            · have hbe : (u[j] == x) = true := by rw [he]; simp
              have HE := Lib.hid (plcW_hit hju HND.out he)
              have HO := Lib.hid hown
              have HFr := Lib.hid hfr
              clear he hown hfr
              generalize u[j] = y at *
              go_wp2
              go_quiet (fail)
              go_wp2_with (refine wpList_pushG el_i64 iv_oneC rfl (.tmp 31) (.tmp 33) rfl w1.heap.size u4 (F ++ plcW u x j) rfl (HO.out.drewN _) _ (j : Int) rfl rfl hpl (HFr.out.drewN _).size ?_; intro v' w' hown' hfr')
              go_roundw
              case rel => exact ⟨j + 1, by omega, by go_num, by rw [HE.out, ← List.append_assoc]; exact hown', (HFr.out.drewN _).fresh hfr' fun q hq => (HO.out.lt q hq).1⟩
              case measure => simp [intOf]; omega
            · have hbe : (u[j] == x) = false := by rw [beq_eq_false_iff_ne]; exact he
              have HE := Lib.hid (plcW_miss hju he)
              clear he
              generalize u[j] = y at *
              go_wp2
              go_quiet (fail)
              go_wp2
              go_roundw
              case rel => exact ⟨j + 1, by omega, by go_num, by rw [HE.out]; exact hown, hfr.drewN _⟩
              case measure => simp [intOf]; omega
          · obtain rfl : j = u.length := by omega
            rw [plcW_all (HMx.out), ← HP1.out] at hown
            go_wp2
            go_roundw
            case rel => exact ⟨k + 1, by omega, by go_num, hown, hfr⟩
            case measure => simp [intOf]; omega
    · have hT : (placesD l).take k = placesD l := List.take_of_length_le (by rw [HPL.out]; omega)
      rw [hT] at hown
      clear hT
      have HO := Lib.hid hown
      have HFr := Lib.hid hfr
      clear hown hfr
      have hu64 : u.length < two64 := by unfold two64; omega
      have HU := Lib.hid hu64
      have huw : IntKind.u64.wrap (u.length : Int) = u.length := IntWalk.u64_in _ ⟨by omega, by omega⟩
      clear hu64
      go_wp2_with fail
      refine (rnum_any u.length wr HU.out).mono ?_
      rintro e w2 ⟨v2, rfl, hown2, hf2⟩
      go_wp2_with fail
      refine (rplain_any _ u w2 ((HW1.out.vs.non HFr.out).non hf2) (by omega) HX.out HB.out).mono ?_
      rintro e w3 ⟨v3, rfl, hown3, hf3⟩
      have hown2' := hown2.non hf3
      have hl10 : (Lib.uvarint u.length).length ≤ 10 := Lib.uvarint_length64 HU.out
      have hs1 : (Lib.uvarint u.length).length + (plainB u).length < 140737488355328 := by have := HB.out; omega
      have hB3 : wr.heap.size ≤ w3.heap.size := Nat.le_trans hf2.size hf3.size
      go_wp2_with (at_builtin; refine wpList_app rfl (.tmp 38) (.tmp 40) rfl wr.heap.size v2 v3 _ _ rfl hown2' rfl hown3.bs hs1 hB3 ?_; intro v4 w4 hown4 hf4)
      have hfr4 : Fr Non wr w4 := (hf2.trans hf3).fresh hf4 (fun q hq => (hown2.lt q hq).1)
      refine (rtput_any _ _ w4 (HO.out.vs.non hfr4) HPI.out (by rw [HPL.out]; omega)).mono ?_
      rintro e w5 ⟨v5, rfl, hown5, hf5⟩
      have hown4' := hown4.non hf5
      have hs2 : (Lib.uvarint u.length ++ plainB u).length + (putT (placesD l)).length < 140737488355328 := by
        have h1 := putT_len HPI.out
        have h2 := HPL.out
        have h3 := HB.out
        rw [List.length_append]; omega
      go_wp2_with (at_builtin; refine wpList_app rfl (.tmp 41) (.tmp 43) rfl wr.heap.size v4 v5 _ _ rfl hown4' rfl hown5.bs hs2 (Nat.le_trans hfr4.size hf5.size) ?_; intro v6 w6 hown6 hf6)
      go_ret
      have hfin : Fr Non w wr := HF1.out.trans HFr.out
      refine ⟨_, rfl, ?_, (hfin.trans (hfr4.trans hf5)).fresh hf6 (fun q hq => Nat.le_trans hfin.size (hown4'.lt q hq).1)⟩
      rw [HD.out, ← List.append_assoc]
      exact hown6.mono hfin.size
end Go.Proofs.Ytdniififoahlaaa
