/-
  Joined: Layer 8: the walk of the document's words. · Layer 7: firkinref07.Same; the example; the laws TightPuts, TightGets, TightOne, walked. · Layer 8: the walk of the document's Put. · Layer 8: the walk of dict.Put. · Layer 8: the walks of dict.take, dict.pick, dict.Texts. · Layer 8: the walk of dict.Get. · Layer 10: the closures that put and get cells by their numbers. · Layer 10: the closures that put and get cells by their texts. · Layer 10: the ways: chunk.ofNumbers, ofTexts, ways. · Layer 10: chunk.shortest, read. · Layer 4: the walks of bitv.need, bitv.Pack, firkinref04.Pack.
-/
import Derived.Deep.RegionHeld3
import Derived.StillTail
import Derived.Test.YtheefloegbkflaaGreatDoorZ4
import Derived.Test.YtheefloegbkflaaGreatDoorZ3
import Derived.Laws.EntriesVeiled
import Derived.Test.YtheefloegbkflaaGreatDoorZ1
import Derived.Test.YtheefloegbkflaaGreatDoorZ2
import Derived.Deep.RegionWith

namespace Go.Proofs.YtheefloegbkflaaGreatDoor
set_option linter.unusedVariables false
set_option linter.unusedSimpArgs false
set_option maxRecDepth 100000
open Go.RowKit

set_option maxHeartbeats 4000000 in
theorem rwords_any (v : Value) (l : List Tx) (w : World) (hv : Vs sv w v l) (hl : l.length ≤ 1000000) :
    Calls Tryz.prog 169 #[v] w fun e w' => ∃ u, e = .returned u ∧ Ow sv 9 w' w.heap.size u (uniq l) ∧ Fr Non w w' := by
  obtain ⟨A, c, rfl, hlc, hn, hcell⟩ := hv
  have HN := Lib.hid hn
  have HC := Lib.hid hcell
  clear hn hcell
  go_enter Tryz.func169, Tryz.ntmps169
  go_wp2
  have hown0 := ow_lit0 (f := sv) (E := 9) w w.heap.size w.heap.size rfl (Nat.le_refl _)
  have hf0 : Fr Non w (w.alloc (.cells #[] 9)) := (Fr.refl _ _).alloc _
  go_loopw [3, 4] (fun b i wr => ∃ k : Nat, k ≤ l.length ∧ i = .int .i64 k ∧ Ow sv 9 wr w.heap.size b (uniq (l.take k)) ∧ Fr Non w wr) (fun _ i _ => l.length - (intOf i).toNat)
  case atStart => exact ⟨0, Nat.zero_le _, rfl, hown0, hf0⟩
  case round =>
    clear hown0 hf0
    obtain ⟨k, hk, rfl, hown, hfr⟩ := hrel
    by_cases hlt : k < l.length
    · cases A with
      | none => have := HN.out rfl; omega
      | some a =>
        have g0 : w.cell? (a.add k) = some (sv l[k]) := HC.out a rfl k hlt
        have g1 : wr.cell? (a.add k) = some (sv l[k]) := (hfr.cell (World.block_lt_of_cell? w _ g0) (fun e => e)).trans g0
        unfold sv at g1 g0
        have HS := Lib.hid (uniq_take l k hlt)
        have HU := Lib.hid (uniq_length (l.take k))
        generalize l[k] = x at *
        generalize uniq (l.take k) = o at *
        have hol : o.length ≤ k := by have := HU.out; rw [List.length_take] at this; omega
        obtain ⟨A1, c1, hu3⟩ := hown.shape
        subst hu3
        have HW := Lib.hid (lowW_le o x)
        have HLt := Lib.hid (fun (i : Nat) (h1 : i < lowW o x) (h2 : i < o.length) => lowW_lt (o := o) (x := x) h1 h2)
        have HEn := Lib.hid (fun (h : lowW o x < o.length) => lowW_end h)
        go_wp2
        go_loopw [5] (fun i wx => ∃ j : Nat, j ≤ lowW o x ∧ i = .int .i64 j ∧ ∃ n, wx = wr.drewN n) (fun i _ => o.length - (intOf i).toNat)
        case atStart => exact ⟨0, Nat.zero_le _, rfl, 0, rfl⟩
        case round =>
          obtain ⟨j, hj, rfl, n, rfl⟩ := hrel
          have hjo : j ≤ o.length := Nat.le_trans hj HW.out
          by_cases hjl : j < lowW o x
          · have hjo2 : j < o.length := Nat.lt_of_lt_of_le hjl HW.out
            obtain ⟨b, rfl, _, _, hcb⟩ := hown.vs.addr (by omega : 0 < o.length)
            have g2 : wr.cell? (b.add j) = some (sv o[j]) := hcb j hjo2
            unfold sv at g2
            have h3 := HLt.out j hjl hjo2
            have HJ := Lib.hid hjl
            have h4 : Op.bytesLess o[j] x = true := by rw [bless]; simpa using h3
            clear hcb hjl h3
            generalize o[j] = y at *
            go_wp2
            go_quiet (fail)
            go_wp2
            go_roundw
            case rel => exact ⟨j + 1, by have := HJ.out; omega, by go_num, _, rfl⟩
            case measure => simp [intOf]; omega
          · have hj2 : j = lowW o x := by omega
            have hEn := HEn.out
            rw [← hj2] at hEn
            have HJ := Lib.hid hj2
            clear hjl hj2
            have hs1 := slice_hiG el_str A1 o.length c1 j .i64 (j : Int) rfl hjo (by obtain ⟨_, _, he, h, _⟩ := hown.vs; simp only [Value.slice.injEq] at he; omega)
            have hs2 := slice_loG el_str A1 o.length c1 j .i64 (j : Int) rfl hjo (by obtain ⟨_, _, he, h, _⟩ := hown.vs; simp only [Value.slice.injEq] at he; omega)
            obtain ⟨A2, c2, hr1, hv1, ho1⟩ := hs1
            obtain ⟨A3, c3, hr2, hv2, ho2⟩ := hs2
            by_cases hin : ∃ h : j < o.length, o[j] = x
            · obtain ⟨h1, h2⟩ := hin
              have HI := Lib.hid (show insW o x = o by
                unfold insW
                rw [← HJ.out, if_pos]
                rw [List.getElem?_eq_getElem h1, h2])
              obtain ⟨b, rfl, _, _, hcb⟩ := hown.vs.addr (by omega : 0 < o.length)
              have g2 : wr.cell? (b.add j) = some (sv o[j]) := hcb j h1
              unfold sv at g2
              rw [h2] at g2
              have h4 : Op.bytesLess x x = false := by rw [bless]; simp
              have h5 : (x == x) = true := by simp
              have HOw := Lib.hid hown
              have HFw := Lib.hid hfr
              clear hcb h2 hEn hr1 hr2 hv1 hv2 ho1 ho2 hown hfr
              go_wp2
              go_quiet (fail)
              go_wp2
              go_quiet (fail)
              go_wp2
              go_roundw
              case rel => exact ⟨k + 1, by omega, by go_num, by rw [HS.out, HI.out]; exact HOw.out, HFw.out.drewN _⟩
              case measure => simp [intOf]; omega
            · have hor : (∃ h : j < o.length, ¬ o[j] < x ∧ o[j] ≠ x) ∨ j = o.length := by
                rcases Nat.lt_or_ge j o.length with h | h
                · exact .inl ⟨h, hEn h, fun e => hin ⟨h, e⟩⟩
                · exact .inr (by omega)
              have HI := Lib.hid (show insW o x = o.take j ++ x :: o.drop j by
                unfold insW
                rw [← HJ.out, if_neg]
                intro e
                exact hin ⟨(List.getElem?_eq_some_iff.1 e).1, (List.getElem?_eq_some_iff.1 e).2⟩)
              have HR1 := Lib.hid hr1
              have HR2 := Lib.hid hr2
              have HV1 := Lib.hid (fun W h => hv1 sv W o rfl h)
              have HV2 := Lib.hid (fun W h => hv2 sv W o rfl h)
              have HO1 := Lib.hid ho1
              have HO2 := Lib.hid ho2
              clear hEn hin hr1 hr2 hv1 hv2 ho1 ho2
              have HOw := Lib.hid (fun n1 n2 n3 => (show Ow sv 9 (((wr.drewN n1).drewN n2).drewN n3).drew w.heap.size (.slice A1 o.length c1) o from hown))
              have HFw := Lib.hid (fun n1 n2 n3 => (((hfr.drewN n1).drewN n2).drewN n3).drew)
              have HCw := Lib.hid (fun n1 n2 n3 => (show (((wr.drewN n1).drewN n2).drewN n3).drew.cell? (a.add k) = some (.string ⟨x.toArray⟩) from g1))
              rcases hor with ⟨h1, h2, h3⟩ | hor
              focus
                obtain ⟨b, rfl, _, _, hcb⟩ := hown.vs.addr (by omega : 0 < o.length)
                have g2 : wr.cell? (b.add j) = some (sv o[j]) := hcb j h1
                unfold sv at g2
                have h4 : Op.bytesLess o[j] x = false := by rw [bless]; simpa using h2
                have h5 : (o[j] == x) = false := by rw [beq_eq_false_iff_ne]; exact h3
                clear h2 h3 hcb
                generalize o[j] = y at *
                go_wp2
                go_quiet (fail)
                go_wp2
                go_quiet (fail)
                go_wp2
              rotate_left
              focus
                have hd : decide (j < o.length) = false := by rw [hor]; simp
                have hd2 : decide ((j : Int) < o.length) = false := by rw [hor]; simp
                have HOR := Lib.hid hor
                clear hor
                go_wp2
                go_quiet (fail)
                go_wp2
                go_quiet (fail)
                go_wp2
              all_goals
                rename_i nq1
                obtain ⟨W, hW⟩ : ∃ W, ((wr.drewN n).drewN nq1).drewN nq = W := ⟨_, rfl⟩
                have hOw := HOw.out n nq1 nq
                have hFw := HFw.out n nq1 nq
                have cW := HCw.out n nq1 nq
                have hr1 := HR1.out
                have hr2 := HR2.out
                rw [hW] at hOw hFw cW ⊢
                replace cW := (show W.cell? (a.add k) = some (.string ⟨x.toArray⟩) from cW)
                have HOW := Lib.hid (show Ow sv 9 W w.heap.size _ o from hOw)
                clear hown hfr g1 g0 hW hOw
                have hWs : w.heap.size ≤ W.heap.size := hFw.size
                have fa : Fr Non W (W.alloc (.cells #[] 9)) := (Fr.refl _ _).alloc _
                have fx : Fr Non W (W.alloc (.cells #[.string ⟨x.toArray⟩] 9)) := (Fr.refl _ _).alloc _
                have fc : Fr Non W ((W.alloc (.cells #[] 9)).alloc (.cells #[.string ⟨x.toArray⟩] 9)) := ((Fr.refl _ _).alloc _).alloc _
                have fb : Fr Non W ((W.alloc (.cells #[.string ⟨x.toArray⟩] 9)).alloc (.cells #[] 9)) := ((Fr.refl _ _).alloc _).alloc _
                have oa : Ow sv 9 (W.alloc (.cells #[] 9)) W.heap.size (.slice (some ⟨W.heap.size, 0, none⟩) 0 0) [] := ow_lit0 W _ _ rfl (Nat.le_refl _)
                have oc : Ow sv 9 ((W.alloc (.cells #[] 9)).alloc (.cells #[.string ⟨x.toArray⟩] 9)) W.heap.size (.slice (some ⟨W.heap.size, 0, none⟩) 0 0) [] := oa.alloc _
                have ob : Ow sv 9 ((W.alloc (.cells #[.string ⟨x.toArray⟩] 9)).alloc (.cells #[] 9)) W.heap.size (.slice (some ⟨W.heap.size + 1, 0, none⟩) 0 0) [] := ow_lit0 (W.alloc (.cells #[.string ⟨x.toArray⟩] 9)) _ _ (by simp) (by omega)
                have xc : Vs sv ((W.alloc (.cells #[] 9)).alloc (.cells #[.string ⟨x.toArray⟩] 9)) (.slice (some ⟨W.heap.size + 1, 0, none⟩) 1 1) [x] := by
                  have := vs_row (f := sv) (W.alloc (.cells #[] 9)) [x] 9 (0, 0)
                  rwa [show (W.alloc (.cells #[] 9)).heap.size = W.heap.size + 1 by simp] at this
                have xb : Vs sv ((W.alloc (.cells #[.string ⟨x.toArray⟩] 9)).alloc (.cells #[] 9)) (.slice (some ⟨W.heap.size, 0, none⟩) 1 1) [x] := (vs_row (f := sv) W [x] 9 (0, 0)).non ((Fr.refl _ _).alloc _)
                have HZ1 : Hid (([] : List Tx).length + (o.take j).length < 1099511627776) := Lib.hid (by rw [List.length_take]; simp only [List.length_nil]; omega)
                have HZ2 : Hid (([] ++ o.take j).length + ([x] : List Tx).length < 1099511627776) := Lib.hid (by rw [List.length_append, List.length_take]; simp only [List.length_nil, List.length_cons]; omega)
                have HZ3 : Hid (([] ++ o.take j ++ [x]).length + (o.drop j).length < 1099511627776) := Lib.hid (by rw [List.length_append, List.length_append, List.length_take, List.length_drop]; simp only [List.length_nil, List.length_cons]; omega)
                have HOA := Lib.hid oa
                have HOB := Lib.hid ob
                have HOC := Lib.hid oc
                have HXB := Lib.hid xb.drew
                have HXC := Lib.hid xc.drew
                have HFW := Lib.hid hFw
                have HFA := Lib.hid fa.drew
                have HFB := Lib.hid fb.drew
                have HFC := Lib.hid fc.drew
                clear oa ob oc xb xc fa fb fc fx hFw
                go_region_held3 (fun W => W.cell? (a.add k) = some (.string ⟨x.toArray⟩)) (first | exact cW | exact cell_al (w := W) cW | exact cell_al (w := W.alloc (.cells #[] 9)) (cell_al (w := W) cW) | exact cell_al (w := W.alloc (.cells #[.string ⟨x.toArray⟩] 9)) (cell_al (w := W) cW) | exact q1 | exact cell_al q1 | exact q2 | exact q3 | fail) (first
                  | (refine step_appG el_str sv_one rfl (.tmp 45) (.tmp 48) rfl W.heap.size (.slice (some ⟨W.heap.size, 0, none⟩) 0 0) (.slice A2 j c2) [] (o.take j) rfl HOA.out rfl (HV1.out _ (HOW.out.vs.non HFA.out)) HZ1.out HFA.out.size ?_; intro v1 w1 own1 f1; have fW1 := HFA.out.fresh f1 (fun q hq => (HOA.out.lt q hq).1); have q1 := (fW1.cell (World.block_lt_of_cell? W _ cW) (fun e => e)).trans cW)
                  | (refine step_appG el_str sv_one rfl (.tmp 45) (.tmp 48) rfl W.heap.size (.slice (some ⟨W.heap.size + 1, 0, none⟩) 0 0) (.slice A2 j c2) [] (o.take j) rfl HOB.out rfl (HV1.out _ (HOW.out.vs.non HFB.out)) HZ1.out HFB.out.size ?_; intro v1 w1 own1 f1; have fW1 := HFB.out.fresh f1 (fun q hq => (HOB.out.lt q hq).1); have q1 := (fW1.cell (World.block_lt_of_cell? W _ cW) (fun e => e)).trans cW; have x1 := HXB.out.fr f1 (fun q hq e => by simp [Value.ownBlock] at hq e; omega))
                  | (refine step_appG el_str sv_one rfl (.tmp 45) (.tmp 48) rfl W.heap.size (.slice (some ⟨W.heap.size, 0, none⟩) 0 0) (.slice A2 j c2) [] (o.take j) rfl HOC.out rfl (HV1.out _ (HOW.out.vs.non HFC.out)) HZ1.out HFC.out.size ?_; intro v1 w1 own1 f1; have fW1 := HFC.out.fresh f1 (fun q hq => (HOC.out.lt q hq).1); have q1 := (fW1.cell (World.block_lt_of_cell? W _ cW) (fun e => e)).trans cW; have x1 := HXC.out.fr f1 (fun q hq e => by simp [Value.ownBlock] at hq e; omega))
                  | (refine step_appG el_str sv_one rfl (.tmp 49) (.tmp 54) rfl W.heap.size v1 _ ([] ++ o.take j) [x] rfl own1 rfl x1 HZ2.out fW1.size ?_; intro v2 w2 own2 f2; have fW2 := fW1.fresh f2 (fun q hq => (own1.lt q hq).1); have q2 := (fW2.cell (World.block_lt_of_cell? W _ cW) (fun e => e)).trans cW)
                  | (refine step_appG el_str sv_one rfl (.tmp 49) (.tmp 54) rfl W.heap.size v1 (.slice (some ⟨w1.heap.size, 0, none⟩) 1 1) ([] ++ o.take j) [x] rfl (own1.alloc _) rfl (vs_row (f := sv) w1 [x] 9 (0, 0)) HZ2.out (fW1.alloc (.cells #[.string ⟨x.toArray⟩] 9)).size ?_; intro v2 w2 own2 f2; have fW2 := (fW1.alloc (.cells #[.string ⟨x.toArray⟩] 9)).fresh f2 (fun q hq => (own1.lt q hq).1); have q2 := (fW2.cell (World.block_lt_of_cell? W _ cW) (fun e => e)).trans cW)
                  | (refine step_appG el_str sv_one rfl (.tmp 55) (.tmp 58) rfl W.heap.size v2 (.slice A3 (o.length - j) c3) ([] ++ o.take j ++ [x]) (o.drop j) rfl own2 rfl (HV2.out _ (HOW.out.vs.non fW2)) HZ3.out fW2.size ?_; intro v3 w3 own3 f3; have fW3 := fW2.fresh f3 (fun q hq => (own2.lt q hq).1); have q3 := (fW3.cell (World.block_lt_of_cell? W _ cW) (fun e => e)).trans cW))
                all_goals
                  go_wp2
                  go_roundw
                  case rel =>
                    have hfin : Ow sv 9 w3 w.heap.size v3 (o.take j ++ x :: o.drop j) := by
                      have := own3.mono (B' := w.heap.size) hWs
                      simpa using this
                    exact ⟨k + 1, by omega, by go_num, by rw [HS.out, HI.out]; exact hfin, Fr.trans (show Fr Non w W from ⟨HFW.out.os, HFW.out.tape, HFW.out.output, HFW.out.size, HFW.out.block⟩) fW3⟩
                  case measure => simp [intOf]; omega
    · have hT : l.take k = l := List.take_of_length_le (by omega)
      rw [hT] at hown
      clear hT
      go_wp2
      go_ret
      exact ⟨_, rfl, hown, hfr⟩
end Go.Proofs.YtheefloegbkflaaGreatDoor


namespace Go.Proofs.YtheefloegbkflaaGreatDoor
set_option linter.unusedVariables false
set_option linter.unusedSimpArgs false
set_option maxRecDepth 100000
open Go.RowKit

theorem putT_len {l : List Int} (hx : ∀ x ∈ l, I64 x) : (putT l).length ≤ 20 + 8 * l.length := by
  by_cases h : l = []
  · subst h; simp [putT]
  · have hz := least_i64 hx
    have h1 := Lib.uvarint_length64 (zig_lt hz.1 hz.2)
    have h2 := Nat.mul_le_mul_left l.length (width_le hx)
    rw [putT_some h, List.length_append, List.length_cons, packB_length, allB_length]
    unfold need
    omega
theorem getM_small {b : List UInt8} {n : Int} (h : n ≤ 400) : getM b n = getZ b n := by unfold getM; rw [if_pos (by omega)]

end Go.Proofs.YtheefloegbkflaaGreatDoor


namespace Go.Proofs.YtheefloegbkflaaGreatDoor
set_option linter.unusedVariables false
set_option linter.unusedSimpArgs false
set_option maxRecDepth 100000
open Go.RowKit

/-- the places of x among the first j of u -/
def plcW (u : List Tx) (x : Tx) (j : Nat) : List Int := if u.idxOf x < j then [(u.idxOf x : Int)] else []
theorem plcW_zero (u : List Tx) (x : Tx) : plcW u x 0 = [] := by unfold plcW; rw [if_neg (by omega)]
theorem plcW_hit {u : List Tx} {x : Tx} {j : Nat} (hj : j < u.length) (hn : u.Nodup) (h : u[j] = x) : plcW u x (j + 1) = plcW u x j ++ [(j : Int)] := by
  have hi : u.idxOf x = j := by rw [← h]; exact hn.idxOf_getElem j hj
  unfold plcW
  rw [hi, if_pos (by omega), if_neg (by omega)]; rfl
theorem plcW_miss {u : List Tx} {x : Tx} {j : Nat} (hj : j < u.length) (h : u[j] ≠ x) : plcW u x (j + 1) = plcW u x j := by
  have hi : u.idxOf x ≠ j := fun e => h (by subst e; exact List.getElem_idxOf hj)
  unfold plcW
  by_cases hlt : u.idxOf x < j
  · rw [if_pos hlt, if_pos (by omega)]
  · rw [if_neg hlt, if_neg (by omega)]
theorem plcW_all {u : List Tx} {x : Tx} (h : x ∈ u) : plcW u x u.length = [(u.idxOf x : Int)] := by
  unfold plcW; rw [if_pos (List.idxOf_lt_length_of_mem h)]
theorem placesD_take (l : List Tx) (k : Nat) (h : k < l.length) : (placesD l).take (k + 1) = (placesD l).take k ++ [((uniq l).idxOf l[k] : Int)] := by
  unfold placesD
  rw [← List.map_take, ← List.map_take, List.take_succ_eq_append_getElem h, List.map_append]
  rfl

set_option maxHeartbeats 4000000 in
theorem rxput_any (v : Value) (l : List Tx) (w : World) (hv : Vs sv w v l) (hl : l.length ≤ 10000) (hx : ∀ x ∈ l, x.length < 1048576) (hb : (plainB (uniq l)).length < 137438953472) :
    Calls Tryz.prog 125 #[v] w fun e w' => ∃ u, e = .returned u ∧ Own w' w.heap.size u (dictB l) ∧ Fr Non w w' := by
  have HV := Lib.hid hv
  have HX := Lib.hid (show ∀ x ∈ uniq l, x.length < 1048576 from fun x h => hx x ((uniq_mem l x).1 h))
  have HB := Lib.hid hb
  have HUl := uniq_length l
  have HND := Lib.hid (rising_nodup (uniq_rising l))
  have HME := Lib.hid (fun x => (uniq_mem l x).2)
  have HPT := Lib.hid (placesD_take l)
  have HPI := Lib.hid (placesD_i64 (l := l) (by omega))
  have HPL := Lib.hid (placesD_length l)
  have HD := Lib.hid (show dictB l = Lib.uvarint (uniq l).length ++ (plainB (uniq l) ++ putT (placesD l)) from rfl)
  clear hx hb
  obtain ⟨A, c, rfl, hlc, hn, hcell⟩ := hv
  have HN := Lib.hid hn
  have HC := Lib.hid hcell
  clear hn hcell
  go_enter Tryz.func125, Tryz.ntmps125
  go_wp2_with fail
  refine (rwords_any _ l w HV.out (by omega)).mono ?_
  rintro e w1 ⟨v1, rfl, hown1, hf1⟩
  generalize hU : uniq l = u at *
  clear hU
  have HW1 := Lib.hid hown1
  have HF1 := Lib.hid hf1
  obtain ⟨A1, c1, rfl⟩ := hown1.shape
  have h1le := hf1.size
  clear hown1 hf1
  go_wp2
  have hown0 := ow_lit0 (f := iv) (E := 2) w1 w1.heap.size w1.heap.size rfl (Nat.le_refl _)
  have hf0 : Fr Non w1 (w1.alloc (.cells #[] 2)) := (Fr.refl _ _).alloc _
  go_loopw [4, 5] (fun b i wr => ∃ k : Nat, k ≤ l.length ∧ i = .int .i64 k ∧ Ow iv 2 wr w1.heap.size b ((placesD l).take k) ∧ Fr Non w1 wr) (fun _ i _ => l.length - (intOf i).toNat)
  case atStart => exact ⟨0, Nat.zero_le _, rfl, hown0, hf0⟩
  case round =>
    clear hown0 hf0
    obtain ⟨k, hk, rfl, hown, hfr⟩ := hrel
    by_cases hlt : k < l.length
    · cases A with
      | none => have := HN.out rfl; omega
      | some a =>
        have g0 : w.cell? (a.add k) = some (sv l[k]) := HC.out a rfl k hlt
        have g1 : wr.cell? (a.add k) = some (sv l[k]) := ((HF1.out.trans hfr).cell (World.block_lt_of_cell? w _ g0) (fun e => e)).trans g0
        have HG0 := Lib.hid g0
        unfold sv at g1
        have HP1 := Lib.hid (HPT.out k hlt)
        have HMx := Lib.hid (HME.out l[k] (List.getElem_mem hlt))
        have hFl : ((placesD l).take k).length ≤ k := List.length_take_le _ _
        clear g0
        unfold sv at HG0
        generalize l[k] = x at *
        generalize (placesD l).take k = F at *
        go_wp2
        go_loopw [4, 6] (fun b i wx => ∃ j : Nat, j ≤ u.length ∧ i = .int .i64 j ∧ Ow iv 2 wx w1.heap.size b (F ++ plcW u x j) ∧ Fr Non w1 wx) (fun _ i _ => u.length - (intOf i).toNat)
        case atStart => exact ⟨0, Nat.zero_le _, rfl, by rw [plcW_zero, List.append_nil]; exact hown, hfr⟩
        case round =>
          clear hown hfr g1
          obtain ⟨j, hj, rfl, hown, hfr⟩ := hrel
          by_cases hju : j < u.length
          · obtain ⟨b, rfl, _, _, hcb⟩ := (HW1.out.vs.non hfr).addr (by omega : 0 < u.length)
            have g2 : wr.cell? (b.add j) = some (sv u[j]) := hcb j hju
            have g1 : wr.cell? (a.add k) = some (.string ⟨x.toArray⟩) := ((HF1.out.trans hfr).cell (World.block_lt_of_cell? w _ HG0.out) (fun e => e)).trans HG0.out
            unfold sv at g2
            clear hcb
            have hpl : (F ++ plcW u x j).length < 1099511627776 := by
              rw [List.length_append]
              unfold plcW
              split <;> simp <;> omega
            by_cases he : u[j] = x
            · have hbe : (u[j] == x) = true := by rw [he]; simp
              have HE := Lib.hid (plcW_hit hju HND.out he)
              have HO := Lib.hid hown
              have HFr := Lib.hid hfr
              clear he hown hfr
              generalize u[j] = y at *
              go_wp2
              go_quiet (fail)
              go_wp2_with (refine wpList_pushG el_i64 iv_oneC rfl (.tmp 31) (.tmp 33) rfl w1.heap.size u4 (F ++ plcW u x j) rfl (HO.out.drewN _) _ (j : Int) rfl rfl hpl (HFr.out.drewN _).size ?_; intro v' w' hown' hfr')
              go_roundw
              case rel => exact ⟨j + 1, by omega, by go_num, by rw [HE.out, ← List.append_assoc]; exact hown', (HFr.out.drewN _).fresh hfr' fun q hq => (HO.out.lt q hq).1⟩
              case measure => simp [intOf]; omega
            · have hbe : (u[j] == x) = false := by rw [beq_eq_false_iff_ne]; exact he
              have HE := Lib.hid (plcW_miss hju he)
              clear he
              generalize u[j] = y at *
              go_wp2
              go_quiet (fail)
              go_wp2
              go_roundw
              case rel => exact ⟨j + 1, by omega, by go_num, by rw [HE.out]; exact hown, hfr.drewN _⟩
              case measure => simp [intOf]; omega
          · obtain rfl : j = u.length := by omega
            rw [plcW_all (HMx.out), ← HP1.out] at hown
            go_wp2
            go_roundw
            case rel => exact ⟨k + 1, by omega, by go_num, hown, hfr⟩
            case measure => simp [intOf]; omega
    · have hT : (placesD l).take k = placesD l := List.take_of_length_le (by rw [HPL.out]; omega)
      rw [hT] at hown
      clear hT
      have HO := Lib.hid hown
      have HFr := Lib.hid hfr
      clear hown hfr
      have hu64 : u.length < two64 := by unfold two64; omega
      have HU := Lib.hid hu64
      have huw : IntKind.u64.wrap (u.length : Int) = u.length := IntWalk.u64_in _ ⟨by omega, by omega⟩
      clear hu64
      go_wp2_with fail
      refine (rnum_any u.length wr HU.out).mono ?_
      rintro e w2 ⟨v2, rfl, hown2, hf2⟩
      go_wp2_with fail
      refine (rplain_any _ u w2 ((HW1.out.vs.non HFr.out).non hf2) (by omega) HX.out HB.out).mono ?_
      rintro e w3 ⟨v3, rfl, hown3, hf3⟩
      have hown2' := hown2.non hf3
      have hl10 : (Lib.uvarint u.length).length ≤ 10 := Lib.uvarint_length64 HU.out
      have hs1 : (Lib.uvarint u.length).length + (plainB u).length < 140737488355328 := by have := HB.out; omega
      have hB3 : wr.heap.size ≤ w3.heap.size := Nat.le_trans hf2.size hf3.size
      go_wp2_with (at_builtin; refine wpList_app rfl (.tmp 38) (.tmp 40) rfl wr.heap.size v2 v3 _ _ rfl hown2' rfl hown3.bs hs1 hB3 ?_; intro v4 w4 hown4 hf4)
      have hfr4 : Fr Non wr w4 := (hf2.trans hf3).fresh hf4 (fun q hq => (hown2.lt q hq).1)
      refine (rtput_any _ _ w4 (HO.out.vs.non hfr4) HPI.out (by rw [HPL.out]; omega)).mono ?_
      rintro e w5 ⟨v5, rfl, hown5, hf5⟩
      have hown4' := hown4.non hf5
      have hs2 : (Lib.uvarint u.length ++ plainB u).length + (putT (placesD l)).length < 140737488355328 := by
        have h1 := putT_len HPI.out
        have h2 := HPL.out
        have h3 := HB.out
        rw [List.length_append]; omega
      go_wp2_with (at_builtin; refine wpList_app rfl (.tmp 41) (.tmp 43) rfl wr.heap.size v4 v5 _ _ rfl hown4' rfl hown5.bs hs2 (Nat.le_trans hfr4.size hf5.size) ?_; intro v6 w6 hown6 hf6)
      go_ret
      have hfin : Fr Non w wr := HF1.out.trans HFr.out
      refine ⟨_, rfl, ?_, (hfin.trans (hfr4.trans hf5)).fresh hf6 (fun q hq => Nat.le_trans hfin.size (hown4'.lt q hq).1)⟩
      rw [HD.out, ← List.append_assoc]
      exact hown6.mono hfin.size
end Go.Proofs.YtheefloegbkflaaGreatDoor


namespace Go.Proofs.YtheefloegbkflaaGreatDoor
set_option linter.unusedVariables false
set_option linter.unusedSimpArgs false
set_option maxRecDepth 100000
open Go.RowKit Go.Maps Go.Sort

theorem sort_rising {ss : List Tx} (hn : ss.Nodup) : Rising (ss.mergeSort leB) := by
  have tr : ∀ a b c : Tx, leB a b = true → leB b c = true → leB a c = true := fun a b c h1 h2 => by simp only [leB, decide_eq_true_eq] at *; exact List.le_trans h1 h2
  have to : ∀ a b : Tx, (leB a b || leB b a) = true := fun a b => by simp only [leB, Bool.or_eq_true, decide_eq_true_eq]; exact List.le_total a b
  have h1 := List.pairwise_mergeSort tr to ss
  have h2 : (ss.mergeSort leB).Nodup := (List.mergeSort_perm ss leB).nodup_iff.2 hn
  refine (h1.and h2).imp ?_
  intro a b ⟨h3, h4⟩
  simp only [leB, decide_eq_true_eq] at h3
  rcases List.le_iff_lt_or_eq.1 h3 with h | h
  · exact h
  · exact absurd h h4
theorem sort_uniq {ss l : List Tx} (hn : ss.Nodup) (hm : ∀ x, x ∈ ss ↔ x ∈ l) : ss.mergeSort leB = uniq l :=
  rising_one (sort_rising hn) (uniq_rising l) fun x => by rw [(List.mergeSort_perm ss leB).mem_iff, hm, uniq_mem]

/-- what the map says when k of u's texts have their places -/
def gW (u : List Tx) (k : Nat) (x : Tx) : Int := if u.idxOf x < k then (u.idxOf x : Int) else 0
theorem gW_zero (u : List Tx) (x : Tx) : gW u 0 x = 0 := by unfold gW; rw [if_neg (by omega)]
theorem gW_step {u : List Tx} {k : Nat} (hk : k < u.length) (hn : u.Nodup) (x : Tx) : gW u (k + 1) x = if x = u[k] then (k : Int) else gW u k x := by
  have hi : u.idxOf u[k] = k := hn.idxOf_getElem k hk
  unfold gW
  by_cases he : x = u[k]
  · rw [if_pos he, he, hi, if_pos (by omega)]
  · rw [if_neg he]
    have hne : u.idxOf x ≠ k := fun e => he (by subst e; exact (List.getElem_idxOf hk).symm)
    by_cases hlt : u.idxOf x < k
    · rw [if_pos hlt, if_pos (by omega)]
    · rw [if_neg hlt, if_neg (by omega)]
theorem gW_all {u : List Tx} {x : Tx} (h : x ∈ u) : gW u u.length x = (u.idxOf x : Int) := by
  unfold gW; rw [if_pos (List.idxOf_lt_length_of_mem h)]
/-- the places, the first k of them laid -/
def laidD (l : List Tx) (k : Nat) : List Int := (placesD l).take k ++ List.replicate (l.length - k) 0
theorem laidD_zero (l : List Tx) : laidD l 0 = List.replicate l.length 0 := by simp [laidD]
theorem laidD_all (l : List Tx) : laidD l l.length = placesD l := by
  unfold laidD; rw [List.take_of_length_le (by rw [placesD_length]; exact Nat.le_refl _)]; simp
theorem laidD_length (l : List Tx) (k : Nat) (hk : k ≤ l.length) : (laidD l k).length = l.length := by
  unfold laidD; rw [List.length_append, List.length_take, placesD_length, List.length_replicate]; omega
theorem laidD_step (l : List Tx) (k : Nat) (hk : k < l.length) : laidD l (k + 1) = (laidD l k).set k ((uniq l).idxOf l[k] : Int) := by
  have hl : ((placesD l).take k).length = k := by rw [List.length_take, placesD_length]; omega
  unfold laidD
  rw [placesD_take l k hk, show l.length - k = (l.length - (k + 1)) + 1 by omega, List.replicate_succ, List.set_append_right _ _ (by omega), hl, Nat.sub_self]
  simp

theorem mem_take_succ {l : List Tx} {k : Nat} (h : k < l.length) (x : Tx) : x ∈ l.take (k + 1) ↔ x ∈ l[k] :: l.take k := by
  rw [List.take_succ_eq_append_getElem h, List.mem_append, List.mem_cons]; simp [or_comm]

set_option maxHeartbeats 4000000 in
theorem xput_any (v : Value) (l : List Tx) (w : World) (hv : Vs sv w v l) (hl : l.length ≤ 10000) (hx : ∀ x ∈ l, x.length < 1048576) (hb : (plainB (uniq l)).length < 137438953472) :
    Calls Tryz.prog 108 #[v] w fun e w' => ∃ u, e = .returned u ∧ Own w' w.heap.size u (dictB l) ∧ Fr Non w w' := by
  have HXL := Lib.hid hx
  have HX := Lib.hid (show ∀ x ∈ uniq l, x.length < 1048576 from fun x h => hx x ((uniq_mem l x).1 h))
  have HB := Lib.hid hb
  have HUl := Lib.hid (uniq_length l)
  have HND := Lib.hid (rising_nodup (uniq_rising l))
  have HME := Lib.hid (fun x => uniq_mem l x)
  have HPI := Lib.hid (placesD_i64 (l := l) (by omega))
  have HPL := Lib.hid (placesD_length l)
  have HSU := Lib.hid (fun (ss : List Tx) h1 h2 => sort_uniq (ss := ss) (l := l) h1 h2)
  have HMT := Lib.hid (fun k h => mem_take_succ (l := l) (k := k) h)
  have HLL := Lib.hid (laidD_length l)
  have HLS := Lib.hid (laidD_step l)
  have HL0 := Lib.hid (laidD_zero l)
  have HLA := Lib.hid (laidD_all l)
  have HD := Lib.hid (show dictB l = Lib.uvarint (uniq l).length ++ (plainB (uniq l) ++ putT (placesD l)) from rfl)
  clear hx hb
  obtain ⟨A, c, rfl, hlc, hn, hcell⟩ := hv
  have HN := Lib.hid hn
  have HC := Lib.hid hcell
  clear hn hcell
  have hmm := @run_makeMap Tryz.prog
  go_enter Tryz.func108, Tryz.ntmps108
  go_wp2
  have hm0 := MapW.made w (fun _ => 0)
  have hf0 : Fr Non w (w.alloc (.map #[] 0)) := (Fr.refl _ _).alloc _
  go_loopw [15] (fun i wr => ∃ k : Nat, k ≤ l.length ∧ i = .int .i64 k ∧ MapW wr w.heap.size k (l.take k) (fun _ => 0) ∧ Fr Non w wr) (fun i _ => l.length - (intOf i).toNat)
  case atStart => exact ⟨0, Nat.zero_le _, rfl, hm0, hf0⟩
  case round =>
    clear hm0 hf0
    obtain ⟨k, hk, rfl, hm, hfr⟩ := hrel
    by_cases hlt : k < l.length
    · cases A with
      | none => have := HN.out rfl; omega
      | some a =>
        have g0 : w.cell? (a.add k) = some (sv l[k]) := HC.out a rfl k hlt
        have g1 : wr.cell? (a.add k) = some (sv l[k]) := (hfr.cell (World.block_lt_of_cell? w _ g0) (fun e => e)).trans g0
        unfold sv at g1
        have hxl := HXL.out l[k] (List.getElem_mem hlt)
        have HM := Lib.hid (HMT.out k hlt)
        have HFr := Lib.hid hfr
        clear g0 hfr
        generalize l[k] = x at *
        go_wp2_with (at_mapUpdate; refine wpList_putM _ rfl _ _ _ rfl w.heap.size k (l.take k) (fun _ => 0) rfl hm (by omega) x 0 rfl rfl (by omega) (by omega) (by omega) ?_; intro w1 hm1 hf1)
        go_roundw
        case rel => exact ⟨k + 1, by omega, by go_num, hm1.congr HM.out (fun y _ => by simp), HFr.out.fresh hf1 (fun q hq => by have : q = w.heap.size := hq; omega)⟩
        case measure => simp [intOf]; omega
    · rename World => W1
      have hT : l.take k = l := List.take_of_length_le (by omega)
      rw [hT] at hm
      obtain rfl : k = l.length := by omega
      clear hT
      have HFr := Lib.hid hfr
      have hbl := hm.lt
      obtain ⟨D, h1, h2, h3⟩ := hm
      have hsz : Maps.size D ≤ l.length := h1.size_le
      have HM := Lib.hid (show MapW W1 w.heap.size l.length l (fun _ => 0) from ⟨D, h1, h2, h3⟩)
      have HK := Lib.hid (fun (ss : List Tx) (hp : ss.Perm (strKeys D)) => MapW.keys (g := fun _ => 0) h1 h2 hp)
      have hkeys := callsIn_wide.1 (mkeys_int64 (some w.heap.size) W1)
      have hsort := callsIn_wide.1 (msorted_int64 w.heap.size l.length D _ W1 h1 (by unfold maxLen; omega) (by omega))
      have HSo := Lib.hid hsort
      clear h1 h2 h3 hfr hsort
      go_wp2_with fail
      refine hkeys.mono ?_
      rintro e w1 ⟨rfl, hw1⟩
      subst hw1
      clear hkeys
      go_wp2_with fail
      refine HSo.out.mono ?_
      rintro e w2 ⟨v2, ss, rfl, hperm, hrow, hnil, hb2⟩
      obtain ⟨hnd, hmem⟩ := HK.out ss hperm
      have hU := HSU.out ss hnd hmem
      have hf1 : Fr Non W1 (W1.alloc (.cells #[.map (some w.heap.size)] 179)) := (Fr.refl _ _).alloc _
      have hf2 := hf1.trans (Fr.of_below hb2)
      have hul : ss.length = (uniq l).length := by rw [← hU, List.length_mergeSort]
      have how : Ow sv 9 w2 W1.heap.size v2 (uniq l) := by
        have h := row_mono hrow hf1.size
        unfold Ow
        rw [← hul, ← hU]
        exact h
      clear hrow hnil hb2 hperm hnd hmem hU hul hf1 hsz
      have hm2 := (HM.out.non hf2).congr (g' := gW (uniq l) 0) (ks' := l) (fun x => Iff.rfl) (fun x _ => gW_zero _ x)
      have hfw2 := HFr.out.trans hf2
      generalize hUU : uniq l = u at *
      clear hUU
      have HU := Lib.hid HUl.out
      have hul := HUl.out
      have HGS := Lib.hid (fun k (hk : k < u.length) => gW_step hk HND.out)
      obtain ⟨A2, c2, rfl⟩ := how.shape
      have HOw2 := Lib.hid how
      have HM2 := Lib.hid hm2
      have HF2 := Lib.hid hfw2
      have hle2 := hf2.size
      clear how hm2 hfw2 hf2 HFr HM
      go_wp2
      go_loopw [27] (fun i wx => ∃ j : Nat, j ≤ u.length ∧ i = .int .i64 j ∧ MapW wx w.heap.size (l.length + j) l (gW u j) ∧ Ow sv 9 wx W1.heap.size (.slice A2 u.length c2) u ∧ Fr Non w wx) (fun i _ => u.length - (intOf i).toNat)
      case atStart => exact ⟨0, Nat.zero_le _, rfl, HM2.out, HOw2.out, HF2.out⟩
      case round =>
        obtain ⟨j, hj, rfl, hm, how, hfr⟩ := hrel
        by_cases hju : j < u.length
        · obtain ⟨b, rfl, _, _, hcb⟩ := how.vs.addr (by omega : 0 < u.length)
          have g2 : wr.cell? (b.add j) = some (sv u[j]) := hcb j hju
          unfold sv at g2
          have hxl := HX.out u[j] (List.getElem_mem hju)
          have HG := Lib.hid (HGS.out j hju)
          have HMm := Lib.hid ((HME.out u[j]).1 (List.getElem_mem hju))
          have HO := Lib.hid how
          have HFr := Lib.hid hfr
          clear hcb how hfr
          generalize u[j] = x at *
          go_wp2_with (at_mapUpdate; refine wpList_putM _ rfl _ _ _ rfl w.heap.size (l.length + j) l (gW u j) rfl hm (by omega) x (j : Int) rfl rfl (by omega) (by omega) (by omega) ?_; intro w5 hm5 hf5)
          go_roundw
          case rel => exact ⟨j + 1, by omega, by go_num, hm5.congr (fun y => by rw [List.mem_cons]; exact ⟨.inr, fun h => h.elim (fun e => by rw [e]; exact HMm.out) id⟩) (fun y _ => HG.out y), HO.out.fr hf5 (fun q hq e => by have h1 := (HO.out.lt q hq).1; have h2 : q = w.heap.size := e; omega), HFr.out.fresh hf5 (fun q hq => by have : q = w.heap.size := hq; omega)⟩
          case measure => simp [intOf]; omega
        · rename World => W2
          obtain rfl : j = u.length := by omega
          have HM := Lib.hid hm
          have HO := Lib.hid how
          have HFr := Lib.hid hfr
          have HGA := Lib.hid (fun (x : Tx) (h : x ∈ l) => gW_all ((HME.out x).2 h))
          have hbW := hm.lt
          clear hm how hfr
          go_wp2_with (at_make; refine wpList_mkfullG el_i64 (f := iv) (0 : Int) rfl rfl _ _ rfl _ _ _ _ l.length rfl rfl rfl rfl (by omega) ?_; intro W3 hown3 hf3; have HO3 := Lib.hid hown3; have HF3 := Lib.hid hf3; clear hown3 hf3)
          rw [← HL0.out] at HO3
          have HM3 := Lib.hid (HM.out.non HF3.out)
          have HS3 := Lib.hid (HO.out.non HF3.out)
          have HFw3 := Lib.hid (HFr.out.trans HF3.out)
          have hle3 := HFw3.out.size
          have hle23 := HF3.out.size
          go_loopw [41] (fun i wx => ∃ q : Nat, q ≤ l.length ∧ i = .int .i64 q ∧ MapW wx w.heap.size (l.length + u.length) l (gW u u.length) ∧ Ow sv 9 wx W1.heap.size (.slice A2 u.length c2) u ∧ Ow iv 2 wx W2.heap.size (.slice (some ⟨W2.heap.size, 0, none⟩) l.length l.length) (laidD l q) ∧ Fr Non w wx) (fun i _ => l.length - (intOf i).toNat)
          case atStart => exact ⟨0, Nat.zero_le _, rfl, HM3.out, HS3.out, HO3.out, HFw3.out⟩
          case round =>
            obtain ⟨q, hq, rfl, hm, how, hat, hfr⟩ := hrel
            by_cases hlt : q < l.length
            · cases A with
              | none => have := HN.out rfl; omega
              | some a =>
                have g0 : w.cell? (a.add q) = some (sv l[q]) := HC.out a rfl q hlt
                have g1 : wr.cell? (a.add q) = some (sv l[q]) := (hfr.cell (World.block_lt_of_cell? w _ g0) (fun e => e)).trans g0
                unfold sv at g1
                have hxl := HXL.out l[q] (List.getElem_mem hlt)
                have hlook := hm.look (y := l[q]) (List.getElem_mem hlt) (by omega)
                rw [HGA.out _ (List.getElem_mem hlt)] at hlook
                have HLs := Lib.hid (HLS.out q hlt)
                have hll := HLL.out q hq
                have cq : wr.cell? ⟨W2.heap.size, q, none⟩ = some (iv (laidD l q)[q]) := hat.cell hll.symm q _ (List.getElem?_eq_getElem (by omega))
                have fq := hat.frozen hll.symm q
                have HAt := Lib.hid hat
                have HMm := Lib.hid hm
                have HOo := Lib.hid how
                have HFf := Lib.hid hfr
                have HLl := Lib.hid hll
                clear g0 hm how hat hfr
                unfold iv at cq
                generalize (laidD l q)[q] = old at *
                clear hll
                generalize u.idxOf l[q] = ix at *
                generalize l[q] = x at *
                go_wp2
                go_roundw
                case rel =>
                  have hst := HAt.out.store HLl.out.symm q (ix : Int)
                  have hf : Fr (One W2.heap.size) wr (wr.setCell ⟨W2.heap.size, q, none⟩ (.int .i64 ix)) := (Fr.refl (One W2.heap.size) wr).set1 q _
                  exact ⟨q + 1, by omega, by go_num, HMm.out.fr hf (fun e => by have h : w.heap.size = W2.heap.size := e; omega), HOo.out.fr hf (fun k hk e => by have h1 := (HO.out.lt k hk).2; have h2 : k = W2.heap.size := e; omega), by rw [HLs.out]; exact hst, HFf.out.fresh hf (fun k hk => by have h2 : k = W2.heap.size := hk; omega)⟩
                case measure => simp [intOf]; omega
            · rename World => W4
              obtain rfl : q = l.length := by omega
              rw [HLA.out] at hat
              have HAt := Lib.hid hat
              have HOo := Lib.hid how
              have HFf := Lib.hid hfr
              have hu64 : u.length < two64 := by unfold two64; omega
              have HU64 := Lib.hid hu64
              have huw : IntKind.u64.wrap (u.length : Int) = u.length := IntWalk.u64_in _ ⟨by omega, by omega⟩
              clear hu64 hat how hfr hm
              go_wp2_with fail
              refine (vnum_any u.length W4 HU64.out).mono ?_
              rintro e w5 ⟨v5, rfl, hown5, hf5⟩
              obtain ⟨A5, c5, rfl⟩ := hown5.shape
              go_wp2_with fail
              refine (plain_any _ u w5 (HOo.out.vs.non hf5) (by omega) HX.out HB.out).mono ?_
              rintro e w6 ⟨v6, rfl, hown6, hf6⟩
              obtain ⟨A6, c6, rfl⟩ := hown6.shape
              go_wp2_with fail
              refine (tput_any _ (placesD l) w6 ((HAt.out.vs.non hf5).non hf6) HPI.out (by rw [HPL.out]; omega)).mono ?_
              rintro e w7 ⟨v7, rfl, hown7, hf7⟩
              obtain ⟨A7, c7, rfl⟩ := hown7.shape
              have HP3 := Lib.hid (Parts.three (t := 26) ((hown5.bs.non hf6).non hf7) (hown6.bs.non hf7) hown7.bs)
              have hfl : [Lib.uvarint u.length, plainB u, putT (placesD l)].flatten.length < 1099511627776 := by
                have h1 := putT_len HPI.out
                have h2 := HPL.out
                have h3 := HB.out
                have h4 : (Lib.uvarint u.length).length ≤ 10 := Lib.uvarint_length64 HU64.out
                simp only [List.flatten_cons, List.flatten_nil, List.length_append, List.length_nil]
                omega
              have HFl := Lib.hid hfl
              clear hfl
              go_wp2_with fail
              refine (concat_any w7.heap.size 3 3 _ [Lib.uvarint u.length, plainB u, putT (placesD l)] _ rfl (by omega) HP3.out HFl.out).mono ?_
              rintro e w8 ⟨v8, rfl, hown8, hf8⟩
              go_wp2
              go_ret
              have hfin := ((HFf.out.trans hf5).trans hf6).trans hf7
              refine ⟨v8, rfl, ?_, hfin.trans (((Fr.refl Non w7).alloc _).trans hf8)⟩
              rw [HD.out]
              have hle := hfin.size
              have := hown8.mono (B' := w.heap.size) (by simp; omega)
              simpa using this
end Go.Proofs.YtheefloegbkflaaGreatDoor


namespace Go.Proofs.YtheefloegbkflaaGreatDoor
set_option linter.unusedVariables false
set_option linter.unusedSimpArgs false
set_option maxRecDepth 100000
open Go.RowKit

/-- what Get and Texts answer: nothing and false, or the texts and true -/
def Gtx (w : World) (B : Nat) (o : Option (List Tx)) (e : Ending) : Prop :=
  (o = none ∧ e = .returned (.tuple #[.slice none 0 0, .bool false])) ∨ (∃ l u, o = some l ∧ e = .returned (.tuple #[u, .bool true]) ∧ Ow sv 9 w B u l)
theorem gtx_no {w : World} {B : Nat} {o : Option (List Tx)} (h : o = none) : Gtx w B o (.returned (.tuple #[.slice none 0 0, .bool false])) := .inl ⟨h, rfl⟩
theorem gtx_yes {w : World} {B : Nat} {o : Option (List Tx)} {l : List Tx} {u : Value} (h : o = some l) (hu : Ow sv 9 w B u l) : Gtx w B o (.returned (.tuple #[u, .bool true])) := .inr ⟨l, u, h, rfl, hu⟩

/-- the first k of n texts laid -/
def partX (l : List Tx) (n k : Nat) : List Tx := l.take k ++ List.replicate (n - k) []
theorem partX_zero (l : List Tx) (n : Nat) : partX l n 0 = List.replicate n [] := by simp [partX]
theorem partX_length {l : List Tx} {n k : Nat} (hk : k ≤ n) (hl : k ≤ l.length) : (partX l n k).length = n := by
  unfold partX; rw [List.length_append, List.length_take, List.length_replicate]; omega
theorem partX_all {l : List Tx} {n : Nat} (hl : l.length = n) : partX l n n = l := by
  unfold partX; rw [List.take_of_length_le (by omega)]; simp
theorem partX_step {l : List Tx} {n k : Nat} (hk : k < n) (hl : k < l.length) : partX l n (k + 1) = (partX l n k).set k l[k] := by
  have h1 : (l.take k).length = k := by rw [List.length_take]; omega
  unfold partX
  rw [show n - k = (n - (k + 1)) + 1 by omega, List.replicate_succ, List.set_append_right _ _ (by omega), h1, Nat.sub_self, List.take_succ_eq_append_getElem hl]
  simp only [List.set_cons_zero, List.append_assoc, List.singleton_append]
theorem tks_take (m : Int) (b : List UInt8) (k : Nat) : ∀ j, (tks m b (k + j)).take k = tks m b k
  | 0 => List.take_of_length_le (by rw [tks_length]; exact Nat.le_refl _)
  | j + 1 => by
    show (tks m b (k + j) ++ [_]).take k = _
    rw [List.take_append_of_le_length (by rw [tks_length]; omega), tks_take m b k j]
theorem tks_at (m : Int) (b : List UInt8) {n k : Nat} (hk : k < n) (h : k < (tks m b n).length) : (tks m b n)[k] = txtT (tkR m b k) m := by
  obtain ⟨j, rfl⟩ : ∃ j, n = k + 1 + j := ⟨n - (k + 1), by omega⟩
  have h1 := tks_take m b (k + 1) j
  have h2 : (tks m b (k + 1 + j))[k] = ((tks m b (k + 1 + j)).take (k + 1))[k]'(by rw [List.length_take]; omega) := by rw [List.getElem_take]
  rw [h2]
  simp only [h1, tks]
  rw [List.getElem_append_right (by rw [tks_length]; exact Nat.le_refl _)]
  simp

set_option maxHeartbeats 4000000 in
theorem dtake_any (g : Nat) (b : List UInt8) (bad : Bool) (n : Nat) (m : Int) (w : World) (h : Src w g b bad) (hn : n ≤ 1000000) (hm : m ≤ 9223372036854775807) :
    Calls Tryz.prog 161 #[ptr g, .int .i64 n, .int .i64 m] w fun e w' => e = .returned (.slice (some ⟨w.heap.size, 0, none⟩) n n) ∧ Ow sv 9 w' w.heap.size (.slice (some ⟨w.heap.size, 0, none⟩) n n) (tks m b n) ∧ Src w' g (tkR m b n) (tkB m b bad n) ∧ Fr (One g) w w' := by
  have HH := Lib.hid h
  have hgw := h.1.lt
  have HST := Lib.hid (fun k (hk : k < n) => partX_step (l := tks m b n) hk (by rw [tks_length]; exact hk))
  have HPL := Lib.hid (fun k (hk : k ≤ n) => partX_length (l := tks m b n) hk (by rw [tks_length]; exact hk))
  have HAT := Lib.hid (fun k (hk : k < n) => tks_at m b hk (by rw [tks_length]; exact hk))
  have HZ := Lib.hid (partX_zero (tks m b n) n)
  have HA := Lib.hid (partX_all (tks_length m b n))
  have HTL := Lib.hid (tks_length m b n)
  clear h
  go_enter Tryz.func161, Tryz.ntmps161
  go_wp2_with (at_make; refine wpList_mkfullG el_str (f := sv) ([] : Tx) rfl rfl _ _ rfl _ _ _ _ n rfl rfl rfl rfl (by omega) ?_; intro w1 hown1 hf1; have HO1 := Lib.hid hown1; have HF1 := Lib.hid hf1; clear hown1 hf1)
  rw [← HZ.out] at HO1
  have HS1 := Lib.hid (HH.out.fr HF1.out (fun e => e))
  have hle1 := HF1.out.size
  go_loopw [13] (fun i wx => ∃ k : Nat, k ≤ n ∧ i = .int .i64 k ∧ Ow sv 9 wx w.heap.size (.slice (some ⟨w.heap.size, 0, none⟩) n n) (partX (tks m b n) n k) ∧ Src wx g (tkR m b k) (tkB m b bad k) ∧ Fr (One g) w wx) (fun i _ => n - (intOf i).toNat)
  case atStart => exact ⟨0, Nat.zero_le _, rfl, HO1.out, HS1.out, HF1.out.mono (fun _ _ e => e.elim)⟩
  case round =>
    obtain ⟨k, hk, rfl, hown, hs, hfr⟩ := hrel
    by_cases hlt : k < n
    · have htx := stext_any g _ _ m wr hs hm
      have HL := Lib.hid (HPL.out k hk)
      have HO := Lib.hid hown
      have HFr := Lib.hid hfr
      have HS2 := Lib.hid (HST.out k hlt)
      have HA2 := Lib.hid (HAT.out k hlt)
      have hx0 : k < (partX (tks m b n) n k).length := by rw [HL.out]; exact hlt
      have hex : ∃ y, (partX (tks m b n) n k)[k]? = some y := ⟨_, List.getElem?_eq_getElem hx0⟩
      obtain ⟨old, hold⟩ := hex
      have HX0 := Lib.hid hold
      clear hold
      have hsz := hfr.size
      clear hown hs hfr hx0
      go_wp2_with fail
      refine htx.mono ?_
      rintro e w2 ⟨rfl, hs2, hf2⟩
      have ho2 := HO.out.fr hf2 (fun q hq e => by have h1 := (HO.out.lt q hq).1; have h2 : q = g := e; omega)
      have cq := ho2.cell HL.out.symm k _ HX0.out
      have fq := ho2.frozen HL.out.symm k
      unfold sv at cq
      have HO2 := Lib.hid ho2
      have HS3 := Lib.hid hs2
      clear ho2 hs2 htx
      go_wp2
      go_roundw
      case rel =>
        have hst := HO2.out.store HL.out.symm k (txtT (tkR m b k) m)
        have hf : Fr (One w.heap.size) w2 (w2.setCell ⟨w.heap.size, k, none⟩ (sv (txtT (tkR m b k) m))) := (Fr.refl (One w.heap.size) w2).set1 k _
        refine ⟨k + 1, by omega, by go_num, ?_, HS3.out.fr hf (fun e => by have h : g = w.heap.size := e; omega), (HFr.out.trans hf2).fresh hf (fun q hq => by have h2 : q = w.heap.size := hq; omega)⟩
        rw [HS2.out, HA2.out]; exact hst
      case measure => simp [intOf]; omega
    · obtain rfl : k = n := by omega
      rw [HA.out] at hown
      go_wp2
      go_ret
      exact ⟨rfl, hown, hs, hfr⟩

theorem pickD_none {u : List Tx} {l : List Int} {a : Int} (h : a ∈ l) (hn : a < 0 ∨ (u.length : Int) ≤ a) : pickD u l = none := by
  unfold pickD
  rw [if_neg]
  intro hc
  have := hc a h
  omega
theorem pickD_some {u : List Tx} {l : List Int} (h : ∀ a ∈ l, 0 ≤ a ∧ a < (u.length : Int)) : pickD u l = some (l.map fun a => u.getD a.toNat []) := by
  unfold pickD
  rw [if_pos h]

set_option maxHeartbeats 4000000 in
theorem pick_any (v1 v2 : Value) (u : List Tx) (l : List Int) (w : World) (h1 : Vs sv w v1 u) (h2 : Vs iv w v2 l) (hl : l.length ≤ 1000000) (hu : u.length ≤ 1000000) :
    Calls Tryz.prog 164 #[v1, v2] w fun e w' => Gtx w' w.heap.size (pickD u l) e ∧ Fr Non w w' := by
  have HV1 := Lib.hid h1
  have HV2 := Lib.hid h2
  obtain ⟨A1, c1, rfl⟩ := h1.shape
  obtain ⟨A2, c2, rfl⟩ := h2.shape
  have HST := Lib.hid (fun k (hk : k < l.length) => partX_step (l := l.map fun a => u.getD a.toNat []) (n := l.length) hk (by rw [List.length_map]; exact hk))
  have HPL := Lib.hid (fun k (hk : k ≤ l.length) => partX_length (l := l.map fun a => u.getD a.toNat []) (n := l.length) hk (by rw [List.length_map]; exact hk))
  have HZ := Lib.hid (partX_zero (l.map fun a => u.getD a.toNat []) l.length)
  have HA := Lib.hid (partX_all (l := l.map fun a => u.getD a.toNat []) (n := l.length) (by rw [List.length_map]))
  clear h1 h2
  go_enter Tryz.func164, Tryz.ntmps164
  go_wp2_with (at_make; refine wpList_mkfullG el_str (f := sv) ([] : Tx) rfl rfl _ _ rfl _ _ _ _ l.length rfl rfl rfl rfl (by omega) ?_; intro w1 hown1 hf1; have HO1 := Lib.hid hown1; have HF1 := Lib.hid hf1; clear hown1 hf1)
  rw [← HZ.out] at HO1
  have hle1 := HF1.out.size
  go_loopw [14] (fun i wx => ∃ k : Nat, k ≤ l.length ∧ i = .int .i64 k ∧ Hid (∀ a ∈ l.take k, 0 ≤ a ∧ a < (u.length : Int)) ∧ Ow sv 9 wx w.heap.size (.slice (some ⟨w.heap.size, 0, none⟩) l.length l.length) (partX (l.map fun a => u.getD a.toNat []) l.length k) ∧ Fr Non w wx) (fun i _ => l.length - (intOf i).toNat)
  case atStart => exact ⟨0, Nat.zero_le _, rfl, Lib.hid (fun a h => by simp at h), HO1.out, HF1.out⟩
  case round =>
    obtain ⟨k, hk, rfl, HIn, hown, hfr⟩ := hrel
    by_cases hlt : k < l.length
    · obtain ⟨b, rfl, _, _, hcb⟩ := (HV2.out.non hfr).addr (by omega : 0 < l.length)
      have g2 : wr.cell? (b.add k) = some (iv l[k]) := hcb k hlt
      unfold iv at g2
      have HMm := Lib.hid (List.getElem_mem hlt)
      clear hcb
      by_cases hneg : l[k] < 0
      · have hd : decide (l[k] < 0) = true := by simpa using hneg
        have HNo := Lib.hid (pickD_none (u := u) HMm.out (.inl hneg))
        clear hneg
        generalize l[k] = z at *
        go_wp2
        go_ret2
        exact ⟨gtx_no HNo.out, hfr⟩
      · by_cases hbig : (u.length : Int) ≤ l[k]
        · have hd : decide (l[k] < 0) = false := by simpa using hneg
          have hd2 : decide ((u.length : Int) ≤ l[k]) = true := by simpa using hbig
          have hd3 : decide (l[k] ≥ (u.length : Int)) = true := by simpa using hbig
          have HNo := Lib.hid (pickD_none (u := u) HMm.out (.inr hbig))
          clear hbig hneg
          generalize l[k] = z at *
          go_wp2
          go_ret2
          exact ⟨gtx_no HNo.out, hfr⟩
        · have HIn2 : Hid (∀ a ∈ l.take (k + 1), 0 ≤ a ∧ a < (u.length : Int)) := Lib.hid (by
            intro a ha
            rw [List.take_succ_eq_append_getElem hlt, List.mem_append] at ha
            rcases ha with ha | ha
            · exact HIn.out a ha
            · obtain rfl : a = l[k] := by simpa using ha
              omega)
          obtain ⟨p, hp⟩ := Int.eq_ofNat_of_zero_le (show 0 ≤ l[k] by omega)
          have HS2 := Lib.hid (HST.out k hlt)
          have HE : Hid ((l.map fun a => u.getD a.toNat [])[k]'(by rw [List.length_map]; exact hlt) = u.getD p []) := Lib.hid (by rw [List.getElem_map, hp]; rfl)
          have HL := Lib.hid (HPL.out k hk)
          rw [hp] at g2 hbig hneg
          clear hp HMm
          have hpu : p < u.length := by omega
          obtain ⟨d, rfl, _, _, hcd⟩ := (HV1.out.non hfr).addr (by omega : 0 < u.length)
          have g3 : wr.cell? (d.add p) = some (sv u[p]) := hcd p hpu
          have HU : Hid (u.getD p [] = u[p]) := Lib.hid (List.getElem_eq_getD (h := hpu) []).symm
          unfold sv at g3
          clear hcd hbig hneg
          have hx0 : k < (partX (l.map fun a => u.getD a.toNat []) l.length k).length := by rw [HL.out]; exact hlt
          have hex : ∃ y, (partX (l.map fun a => u.getD a.toNat []) l.length k)[k]? = some y := ⟨_, List.getElem?_eq_getElem hx0⟩
          obtain ⟨old, hold⟩ := hex
          have cq := hown.cell HL.out.symm k _ hold
          have fq := hown.frozen HL.out.symm k
          unfold sv at cq
          have HO := Lib.hid hown
          have HFr := Lib.hid hfr
          clear hown hfr hold hx0
          generalize u[p] = x at *
          go_wp2
          go_roundw
          case rel =>
            have hst := HO.out.store HL.out.symm k x
            have hf : Fr (One w.heap.size) wr (wr.setCell ⟨w.heap.size, k, none⟩ (.string ⟨x.toArray⟩)) := (Fr.refl (One w.heap.size) wr).set1 k _
            refine ⟨k + 1, by omega, by go_num, HIn2, ?_, HFr.out.fresh hf (fun q hq => by have h2 : q = w.heap.size := hq; omega)⟩
            rw [HS2.out, HE.out, HU.out]; exact hst
          case measure => simp [intOf]; omega
    · obtain rfl : k = l.length := by omega
      rw [HA.out] at hown
      have HYes := Lib.hid (pickD_some (u := u) (l := l) (by have := HIn.out; rwa [List.take_length] at this))
      go_wp2
      go_ret2
      exact ⟨gtx_yes HYes.out hown, hfr⟩

set_option maxHeartbeats 2000000 in
theorem texts_any (v : Value) (b : List UInt8) (n m : Int) (w : World) (hv : Bs w v b) (h1 : -9223372036854775808 ≤ n) (h2 : n ≤ 9223372036854775807) (hm : m ≤ 9223372036854775807) :
    Calls Tryz.prog 107 #[v, .int .i64 n, .int .i64 m] w fun e w' => Gtx w' w.heap.size (textsM b n m) e ∧ Fr Non w w' := by
  have HV := Lib.hid hv
  by_cases hn0 : n < 0
  · have hd : decide (n < 0) = true := by simpa using hn0
    have HNo : Hid (textsM b n m = none) := Lib.hid (by unfold textsM; rw [if_neg (by omega)])
    clear hn0 hv
    go_enter Tryz.func107, Tryz.ntmps107
    go_wp2
    go_ret2
    exact ⟨gtx_no HNo.out, Fr.refl _ _⟩
  · by_cases hn4 : 4096 < n
    · have hd : decide (n < 0) = false := by simpa using hn0
      have hd4 : decide (4096 < n) = true := by simpa using hn4
      have HNo : Hid (textsM b n m = none) := Lib.hid (by unfold textsM; rw [if_neg (by omega)])
      clear hn0 hv hn4
      go_enter Tryz.func107, Tryz.ntmps107
      go_wp2
      go_ret2
      exact ⟨gtx_no HNo.out, Fr.refl _ _⟩
    · obtain ⟨k, rfl⟩ := Int.eq_ofNat_of_zero_le (show 0 ≤ n by omega)
      have hk4 : k ≤ 4096 := by omega
      have hd : decide ((k : Int) < 0) = false := by simp
      have hd4 : decide (4096 < (k : Int)) = false := by simp; omega
      have HT : Hid (textsM b k m = if tkB m b false k = false ∧ tkR m b k = [] then some (tks m b k) else none) := Lib.hid (by
        unfold textsM
        simp only [Int.toNat_natCast]
        by_cases hc : tkB m b false k = false ∧ tkR m b k = []
        · rw [if_pos hc, if_pos ⟨by omega, by omega, hc.1, hc.2⟩]
        · rw [if_neg hc, if_neg (fun h => hc ⟨h.2.2.1, h.2.2.2⟩)])
      clear hn0 hv hn4 h1 h2
      go_enter Tryz.func107, Tryz.ntmps107
      go_wp2_with fail
      refine (from_any v b w HV.out).mono ?_
      rintro e w1 ⟨rfl, hs1, hf1⟩
      go_wp2_with fail
      refine (dtake_any w.heap.size b false k m w1 hs1 (by omega) hm).mono ?_
      rintro e w2 ⟨rfl, hown2, hs2, hf2⟩
      have hfr2 : Fr Non w w2 := hf1.fresh hf2 (fun q hq => by have h2 : q = w.heap.size := hq; omega)
      have hend := end_any _ _ _ w2 hs2
      by_cases hc : tkB m b false k = false ∧ tkR m b k = []
      · have HY := Lib.hid (HT.out.trans (if_pos hc))
        rw [hc.1, hc.2] at hend
        clear hc
        go_wp2_with fail
        refine hend.mono ?_
        rintro e w3 ⟨rfl, rfl⟩
        go_wp2
        go_ret2
        exact ⟨gtx_yes HY.out (hown2.mono hf1.size), hfr2⟩
      · have HNo := Lib.hid (HT.out.trans (if_neg hc))
        have hb : (!tkB m b false k && (tkR m b k).isEmpty) = false := by
          rw [Bool.eq_false_iff]
          intro e
          simp at e
          exact hc e
        rw [hb] at hend
        clear hc hb
        go_wp2_with fail
        refine hend.mono ?_
        rintro e w3 ⟨rfl, rfl⟩
        go_wp2
        go_ret2
        exact ⟨gtx_no HNo.out, hfr2⟩
end Go.Proofs.YtheefloegbkflaaGreatDoor


namespace Go.Proofs.YtheefloegbkflaaGreatDoor
set_option linter.unusedVariables false
set_option linter.unusedSimpArgs false
set_option maxRecDepth 100000
open Go.RowKit

theorem mostV_le {b : List UInt8} {K : Int} (h : 0 ≤ K) : (mostV b K : Int) ≤ K := by
  unfold mostV
  by_cases hm : mostOk b K = true
  · rw [if_pos hm]; exact (of_decide_eq_true hm).2
  · rw [if_neg hm]; exact h
theorem mostRx_len (b : List UInt8) (K : Int) : (mostR b K).length ≤ b.length := by
  unfold mostR
  split
  · exact rest_le b
  · simp
theorem pickD_len {u : List Tx} {at_ : List Int} {l : List Tx} (h : pickD u at_ = some l) : l.length = at_.length := by
  unfold pickD at h
  split at h
  · obtain rfl := Option.some.inj h
    rw [List.length_map]
  · cases h
theorem pickD_mem {u : List Tx} {at_ : List Int} {l : List Tx} (h : pickD u at_ = some l) : ∀ x ∈ l, x ∈ u := by
  unfold pickD at h
  split at h
  · rename_i hc
    obtain rfl := Option.some.inj h
    intro x hx
    obtain ⟨a, ha, rfl⟩ := List.mem_map.1 hx
    have h1 := hc a ha
    rw [← List.getElem_eq_getD (h := by omega)]
    exact List.getElem_mem _
  · cases h
theorem getM_len {b : List UInt8} {n : Int} {l : List Int} (h : getM b n = some l) : (l.length : Int) = n ∧ n ≤ 4096 := by
  unfold getM at h
  split at h
  · exact ⟨(getZ_is h).2.1, by omega⟩
  · cases h
theorem plainB_uniq {l : List Tx} {B : Nat} (hl : l.length ≤ 10000) (hx : ∀ x ∈ l, x.length ≤ B) (hB : B ≤ 1000000) : (plainB (uniq l)).length < 137438953472 := by
  have h1 := plainB_bound (l := uniq l) (B := B) (fun x h => hx x ((uniq_mem l x).1 h)) (by unfold two64; omega)
  have h2 := uniq_length l
  have h3 := Nat.mul_le_mul (show (uniq l).length ≤ 10000 by omega) (show B + 10 ≤ 1000010 by omega)
  omega

set_option maxHeartbeats 4000000 in
theorem xget_any (v : Value) (b : List UInt8) (n m : Int) (w : World) (hv : Bs w v b) (hvl : ∀ k, v.ownBlock = some k → k < w.heap.size) (hl : b.length ≤ 1000000) (h1 : -9223372036854775808 ≤ n) (h2 : n ≤ 9223372036854775807) (hm : m ≤ 9223372036854775807) :
    Calls Tryz.prog 109 #[v, .int .i64 n, .int .i64 m] w fun e w' => Gtx w' w.heap.size (dgetM b n m) e ∧ Fr Non w w' := by
  have HV := Lib.hid hv
  by_cases hn0 : n < 0
  · have hd : decide (n < 0) = true := by simpa using hn0
    have HNo : Hid (dgetM b n m = none) := Lib.hid (by unfold dgetM; rw [if_pos (.inl hn0)])
    clear hn0 hv
    go_enter Tryz.func109, Tryz.ntmps109
    go_wp2
    go_ret2
    exact ⟨gtx_no HNo.out, Fr.refl _ _⟩
  · by_cases hn4 : 4096 < n
    · have hd : decide (n < 0) = false := by simpa using hn0
      have hd4 : decide (4096 < n) = true := by simpa using hn4
      have HNo : Hid (dgetM b n m = none) := Lib.hid (by unfold dgetM; rw [if_pos (.inr hn4)])
      clear hn0 hv hn4
      go_enter Tryz.func109, Tryz.ntmps109
      go_wp2
      go_ret2
      exact ⟨gtx_no HNo.out, Fr.refl _ _⟩
    · obtain ⟨k, rfl⟩ := Int.eq_ofNat_of_zero_le (show 0 ≤ n by omega)
      have hk4 : k ≤ 4096 := by omega
      have hd : decide ((k : Int) < 0) = false := by simp
      have hd4 : decide (4096 < (k : Int)) = false := by simp; omega
      have HT : Hid (dgetM b k m = dgetK k b k m) := Lib.hid (by unfold dgetM; rw [if_neg (by omega)])
      obtain ⟨A, c, rfl⟩ := hv.shape
      have hkm : ((k : Int) + 1) - 1 = k := by omega
      have HKM := Lib.hid hkm
      have hcv := mostV_le (b := b) (K := (k : Int)) (by omega)
      have HRl := Lib.hid (mostRx_len b k)
      clear hn0 hv hn4 h1 h2 hkm
      go_enter Tryz.func109, Tryz.ntmps109
      go_wp2_with fail
      refine (from_any _ b w HV.out).mono ?_
      rintro e w1 ⟨rfl, hs1, hf1⟩
      have hbel := below_any w.heap.size b false ((k : Int) + 1) w1 hs1 (by omega)
      rw [HKM.out] at hbel
      go_wp2_with fail
      refine hbel.mono ?_
      rintro e w2 ⟨rfl, hs2, hf2⟩
      clear hbel
      have hCC : dgetK k b k m = (match getM (tkR m (mostR b k) (mostV b k)) k with
        | none => none
        | some at_ => match pickD (tks m (mostR b k) (mostV b k)) at_ with
          | none => none
          | some l => if dictB l = b then some l else none) := rfl
      rw [hCC] at HT
      clear hCC
      have HRl2 := HRl.out
      generalize mostV b k = q at *
      generalize mostR b k = r at *
      generalize mostB b k = bad at *
      go_wp2_with fail
      refine (dtake_any _ r bad q m w2 hs2 (by omega) hm).mono ?_
      rintro e w3 ⟨rfl, hown3, hs3, hf3⟩
      have hRt := tkR_len m r q
      have HKl := Lib.hid (tks_len m r q)
      have HKn := Lib.hid (tks_length m r q)
      generalize tks m r q = u at *
      generalize tkR m r q = t at *
      generalize tkB m r bad q = bad2 at *
      have hlft := left_any _ _ _ w3 hs3
      go_wp2_with fail
      refine hlft.mono ?_
      rintro e w4 ⟨rfl, rfl⟩
      have htk := take_any _ _ _ (t.length : Int) w3 hs3
      rw [(cut_all t).1] at htk
      clear hlft
      go_wp2_with fail
      refine htk.mono ?_
      rintro e w4 ⟨v4, rfl, hbs4, hnew4, hs4, hf4⟩
      clear htk
      have hu4 := hown3.vs.fr hf4 (fun y hy e => by have h1 := (hown3.lt y hy).1; have h2 : y = w.heap.size := e; have := hf1.size; have := hf2.size; have := hs1.1.lt; omega)
      have hfr4 : Fr Non w w4 := ((hf1.fresh hf2 (fun y hy => by have h2 : y = w.heap.size := hy; omega)).fresh hf3 (fun y hy => by have h2 : y = w.heap.size := hy; omega)).fresh hf4 (fun y hy => by have h2 : y = w.heap.size := hy; omega)
      have HU4 := Lib.hid hu4
      have HF4 := Lib.hid hfr4
      clear hu4 hs4 hf4 hnew4 hown3 hs3 hf3 hs2 hf2 hs1 hf1 hfr4
      have htg := tget_any v4 t (k : Int) w4 hbs4 (by omega) (by omega) (by omega)
      cases hg : getM t (k : Int) with
      | none =>
        rw [hg] at htg HT
        clear hg
        go_wp2_with fail
        refine htg.mono ?_
        rintro e w5 ⟨hgt, hf5⟩
        rcases hgt with ⟨_, rfl⟩ | ⟨_, _, h, _⟩
        · go_wp2
          go_ret2
          exact ⟨gtx_no HT.out, HF4.out.trans hf5⟩
        · cases h
      | some at_ =>
        rw [hg] at htg HT
        have hal := getM_len hg
        clear hg
        go_wp2_with fail
        refine htg.mono ?_
        rintro e w5 ⟨hgt, hf5⟩
        rcases hgt with ⟨h, _⟩ | ⟨at2, v5, he, rfl, hown5⟩
        · cases h
        · obtain rfl : at_ = at2 := by simpa using he
          clear he htg
          obtain ⟨A5, c5, rfl⟩ := hown5.shape
          have hpk := pick_any _ _ u at_ w5 (HU4.out.non hf5) hown5.vs (by omega) (by rw [HKn.out]; omega)
          have HF5 := Lib.hid (HF4.out.trans hf5)
          clear hown5 hf5
          cases hp : pickD u at_ with
          | none =>
            simp only [hp] at HT
            rw [hp] at hpk
            clear hp
            go_wp2_with fail
            refine hpk.mono ?_
            rintro e w6 ⟨hgt, hf6⟩
            rcases hgt with ⟨_, rfl⟩ | ⟨_, _, h, _⟩
            · go_wp2
              go_ret2
              exact ⟨gtx_no HT.out, HF5.out.trans hf6⟩
            · cases h
          | some lx =>
            simp only [hp] at HT
            rw [hp] at hpk
            have hxl : lx.length ≤ 4096 := by have := pickD_len hp; omega
            have HXm := Lib.hid (pickD_mem hp)
            clear hp
            have HXl : Hid (∀ x ∈ lx, x.length ≤ b.length) := Lib.hid (fun x hx => Nat.le_trans (HKl.out x (HXm.out x hx)) HRl2)
            go_wp2_with fail
            refine hpk.mono ?_
            rintro e w6 ⟨hgt, hf6⟩
            rcases hgt with ⟨h, _⟩ | ⟨lx2, v6, he, rfl, hown6⟩
            · cases h
            · obtain rfl : lx = lx2 := by simpa using he
              clear he hpk
              obtain ⟨A6, c6, rfl⟩ := hown6.shape
              have HF6 := Lib.hid (HF5.out.trans hf6)
              have HO6 := Lib.hid hown6
              have hdp := xput_any _ lx w6 hown6.vs (by omega) (fun x hx => by have := HXl.out x hx; omega) (plainB_uniq (by omega) HXl.out (by omega))
              have HB6 := Lib.hid ((HF6.out.size))
              have hB56 := hf6.size
              have HB5 := Lib.hid (HF5.out.size)
              clear hown6 hf6
              go_wp2_with fail
              refine hdp.mono ?_
              rintro e w7 ⟨v7, rfl, hown7, hf7⟩
              clear hdp
              have heq := equal_any v7 _ (dictB lx) b w7 hown7.bs (HV.out.non (HF6.out.trans hf7))
              have hO7 := (HO6.out.non hf7).mono (B' := w.heap.size) HB5.out
              have HO7 := Lib.hid hO7
              have HF7 := Lib.hid (HF6.out.trans hf7)
              clear hown7 hf7 hO7
              by_cases hd : dictB lx = b
              · rw [if_pos hd] at HT
                have hbb : (dictB lx == b) = true := by rw [hd]; simp
                rw [hbb] at heq
                clear hd hbb
                go_wp2_with fail
                refine heq.mono ?_
                rintro e w8 ⟨rfl, rfl⟩
                go_wp2
                go_ret2
                exact ⟨gtx_yes HT.out HO7.out, HF7.out⟩
              · rw [if_neg hd] at HT
                have hbb : (dictB lx == b) = false := by rw [beq_eq_false_iff_ne]; exact hd
                rw [hbb] at heq
                clear hd hbb
                go_wp2_with fail
                refine heq.mono ?_
                rintro e w8 ⟨rfl, rfl⟩
                go_wp2
                go_ret2
                exact ⟨gtx_no HT.out, HF7.out⟩
end Go.Proofs.YtheefloegbkflaaGreatDoor


namespace Go.Proofs.YtheefloegbkflaaGreatDoor
set_option linter.unusedVariables false
set_option linter.unusedSimpArgs false
set_option maxRecDepth 100000
open Go.RowKit

/-- what a way's get hands back -/
def Gtc (w : World) (B : Nat) (o : Option (List Cl)) (e : Ending) : Prop :=
  (o = none ∧ ∃ u l, e = .returned (.tuple #[u, .bool false]) ∧ Oc w B u l) ∨ (∃ l u, o = some l ∧ e = .returned (.tuple #[u, .bool true]) ∧ Oc w B u l)
def OkNum (l : List Int) : Prop := ∀ x ∈ l, I64 x
/-- F puts numbers in way k -/
def PutNum (k F : Nat) : Prop := (∀ args W, (callFunc F args).run Tryz.prog W = .ok (.enter F args) W) ∧ ∀ (v : Value) (l : List Int) (w : World), Vs iv w v l → l.length ≤ 4096 → OkNum l →
    Calls Tryz.prog F #[v] w fun e w' => ∃ u, e = .returned u ∧ Own w' w.heap.size u (numW k l) ∧ Fr Non w w'
def GetNum (k F : Nat) : Prop := (∀ args W, (callFunc F args).run Tryz.prog W = .ok (.enter F args) W) ∧ ∀ (v : Value) (b : List UInt8) (n : Nat) (w : World), Bs w v b → (∀ q, v.ownBlock = some q → q < w.heap.size) → b.length ≤ 100000 → n ≤ 4096 →
    Calls Tryz.prog F #[v, .int .i64 n] w fun e w' => Gtn w' w.heap.size (numG k b n) e ∧ Fr Non w w'
theorem putNum1 : PutNum 1 97 := ⟨Tryz.call97, fun v l w hv hl hx => each_any v l w hv (by omega) hx⟩
theorem putNum2 : PutNum 2 99 := ⟨Tryz.call99, fun v l w hv hl hx => rnput_any v l w hv (by omega) hx⟩
theorem putNum3 : PutNum 3 101 := ⟨Tryz.call101, fun v l w hv hl hx => dput_any v l w hv (by omega)⟩
theorem putNum4 : PutNum 4 103 := ⟨Tryz.call103, fun v l w hv hl hx => tput_any v l w hv hx (by omega)⟩
theorem getNum1 : GetNum 1 98 := ⟨Tryz.call98, fun v b n w hv _ hl hn => geach_any v b n w hv (by omega)⟩
theorem getNum2 : GetNum 2 100 := ⟨Tryz.call100, fun v b n w hv _ hl hn => rnget_any v b n w hv (by omega) (by omega) (by omega)⟩
theorem getNum3 : GetNum 3 102 := ⟨Tryz.call102, fun v b n w hv _ hl hn => dget_any v b n w hv (by omega) (by omega) (by omega)⟩
theorem getNum4 : GetNum 4 104 := ⟨Tryz.call104, fun v b n w hv _ hl hn => tget_any v b n w hv (by omega) (by omega) (by omega)⟩

theorem map_take_num (l : List Cl) (k : Nat) (h : k < l.length) : (l.take (k + 1)).map Cl.num = (l.take k).map Cl.num ++ [l[k].num] := by
  rw [List.take_succ_eq_append_getElem h, List.map_append]; rfl

set_option maxHeartbeats 4000000 in
/-- the put of a way: F puts them -/
theorem cput_num (k : Nat) (F : Nat) (hF : PutNum k F) (g : Nat) (v : Value) (l : List Cl) (w : World) (hb : Blk w g 144 #[.func (.func F) #[] #[]]) (hv : Cs w v l) (hl : l.length ≤ 4096) (hx : OkNum (l.map Cl.num)) :
    Calls Tryz.prog 146 #[v, ptr g] w fun e w' => ∃ u, e = .returned u ∧ Own w' w.heap.size u (numW k (l.map Cl.num)) ∧ Fr Non w w' := by
  obtain ⟨A, c, rfl, hlc, hn, hcell⟩ := hv
  have HC := Lib.hid hcell
  have HN := Lib.hid hn
  have HB := Lib.hid hb
  have HX := Lib.hid hx
  have HF := Lib.hid hF
  clear hcell hn hb hx hF
  go_enter Tryz.func146, Tryz.ntmps146
  go_wp2_with (at_make; refine wpList_mkfullG el_i64 (f := iv) (0 : Int) rfl rfl _ _ rfl _ _ _ _ l.length rfl rfl rfl rfl (by omega) ?_; intro w2 hown2 hfr2)
  have hbl := HB.out.lt
  generalize hg : w.heap.size = r at *
  have hgl := Nat.le_of_eq hg
  have hgl2 := Nat.le_of_eq hg.symm
  clear hg
  have HS := Lib.hid hgl
  go_loopw [12] (fun i wr => ∃ (k : Nat), k ≤ l.length ∧ i = .int .i64 k ∧ Ow iv 2 wr r (.slice (some ⟨r, 0, none⟩) l.length l.length) ((l.take k).map Cl.num ++ List.replicate (l.length - k) (0 : Int)) ∧ Fr Non w wr) (fun i _ => l.length - (intOf i).toNat)
  case atStart => exact ⟨0, Nat.zero_le _, rfl, hown2, hfr2⟩
  case round =>
    clear hown2 hfr2
    obtain ⟨j, hj, rfl, hN, hfr⟩ := hrel
    by_cases hlt : j < l.length
    · cases A with
      | none => have := HN.out rfl; omega
      | some a =>
        obtain ⟨hc0, hc1, hc2⟩ := (hfr.at3 (HC.out a rfl j hlt)).lit
        have hlj : ((l.take j).map Cl.num).length = j := by rw [List.length_map, List.length_take]; omega
        have HL := Lib.hid (show l.length = ((l.take j).map Cl.num ++ List.replicate (l.length - j) (0 : Int)).length by rw [List.length_append, hlj, List.length_replicate]; omega)
        have hat := rep_at ((l.take j).map Cl.num) (l.length - j) (0 : Int) (by omega)
        have hset := rep_set ((l.take j).map Cl.num) (l.length - j) (0 : Int) l[j].num (by omega)
        rw [hlj] at hat hset
        rw [show l.length - j - 1 = l.length - (j + 1) by omega, ← map_take_num l j hlt] at hset
        have hcb := hN.cell HL.out j _ hat
        have hfb := hN.frozen HL.out j
        unfold iv at hcb
        have hbk : r < wr.heap.size := (hN.lt r rfl).2
        have K1 := Lib.hid (show ∀ X : Obj, Ow iv 2 ((wr.setCell ⟨r, j, none⟩ (iv l[j].num)).alloc X) r (.slice (some ⟨r, 0, none⟩) l.length l.length) ((l.take (j + 1)).map Cl.num ++ List.replicate (l.length - (j + 1)) (0 : Int)) ∧ Fr Non w ((wr.setCell ⟨r, j, none⟩ (iv l[j].num)).alloc X) from fun X => by
          refine ⟨?_, ?_⟩
          · rw [← hset]; exact (hN.store HL.out j l[j].num).alloc X
          · exact (hfr.fresh ((Fr.refl (One r) _).set1 j _) (fun q e => by have h1 : q = r := e; have := HS.out; omega)).alloc X)
        clear hN hat hset hlj
        generalize l[j] = x at *
        obtain ⟨xn, xi, xt⟩ := x
        obtain ⟨k1, k2⟩ := K1.out (.cells #[.bool xn, .int .i64 xi, .string ⟨xt.toArray⟩] 54)
        have k1 := Lib.hid k1
        have k2 := Lib.hid k2
        clear K1
        go_wp2_with fail
        go_roundw
        case rel => exact ⟨j + 1, by omega, by go_num, k1.out, k2.out⟩
        case measure => simp [intOf]; omega
    · obtain rfl : j = l.length := by omega
      rw [Nat.sub_self, List.replicate_zero, List.append_nil, List.take_length] at hN
      have hb1 := HB.out.fr hfr (fun e => e)
      have hc1 := hb1.cell 0
      simp at hc1
      have HO := Lib.hid hN
      have hcf := HF.out.1
      have H0 := Lib.hid (HF.out.2 (.slice (some ⟨r, 0, none⟩) l.length l.length) (l.map Cl.num) wr hN.vs (by rw [List.length_map]; exact hl) HX.out)
      clear hN hb1
      go_wp2_with fail
      refine H0.out.mono ?_
      rintro e w5 ⟨u, rfl, hown5, hf5⟩
      have hfr5 := hfr.trans hf5
      go_wp2
      go_ret
      exact ⟨_, rfl, hown5.mono (by have := HS.out; have := hfr.size; omega), hfr5⟩

set_option maxHeartbeats 4000000 in
/-- the get of a way: F gets them -/
theorem cget_num (k : Nat) (F : Nat) (hF : GetNum k F) (g : Nat) (v : Value) (b : List UInt8) (n : Nat) (w : World) (hb : Blk w g 145 #[.func (.func F) #[] #[]]) (hv : Bs w v b) (hvl : ∀ q, v.ownBlock = some q → q < w.heap.size) (hl : b.length ≤ 100000) (hn : n ≤ 4096) :
    Calls Tryz.prog 147 #[v, .int .i64 n, ptr g] w fun e w' => Gtc w' w.heap.size ((numG k b n).map (List.map numC)) e ∧ Fr Non w w' := by
  have hcf := hF.1
  have H0 := Lib.hid (hF.2 v b n w hv hvl hl hn)
  have HG := Lib.hid (fun l (h : numG k b n = some l) => (numG_is h).2.1)
  have hc1 := hb.cell 0
  simp at hc1
  clear hb hF hv hvl
  go_enter Tryz.func147, Tryz.ntmps147
  go_wp2_with fail
  refine H0.out.mono ?_
  rintro e w1 ⟨hG, hf1⟩
  obtain ⟨u, l, ok, rfl, hu, hlen, ho⟩ : ∃ u l ok, e = .returned (.tuple #[u, .bool ok]) ∧ Vs iv w1 u l ∧ l.length ≤ 4096 ∧ numG k b n = (if ok = true then some l else none) := by
    rcases hG with ⟨h1, rfl⟩ | ⟨l, u, h1, rfl, hown⟩
    · exact ⟨_, [], false, rfl, Vs.nil_ _, by simp, h1⟩
    · exact ⟨u, l, true, rfl, hown.vs, by rw [HG.out l h1]; exact hn, h1⟩
  obtain ⟨A, c, rfl, hlc, hnn, hcell⟩ := hu
  have HC := Lib.hid hcell
  have HN := Lib.hid hnn
  have HO := Lib.hid ho
  clear hcell hnn ho H0 HG hG hc1
  go_wp2_with (at_make; refine wpList_mkC rfl _ _ rfl _ _ _ _ l.length rfl rfl rfl rfl (by omega) ?_; intro w2 hown2 hfr2)
  have hs1 := hf1.size
  have hfr3 := hf1.trans hfr2
  have HF2 := Lib.hid hfr2
  generalize hg : w1.heap.size = r at *
  have hgl := Nat.le_of_eq hg
  clear hg hfr2
  have HS := Lib.hid hs1
  go_loopw [24] (fun i wr => ∃ (j : Nat), j ≤ l.length ∧ i = .int .i64 j ∧ Oc wr r (.slice (some ⟨r, 0, none⟩) l.length l.length) ((l.take j).map numC ++ List.replicate (l.length - j) ⟨false, 0, []⟩) ∧ Fr Non w wr ∧ Fr Non w1 wr) (fun i _ => l.length - (intOf i).toNat)
  case atStart => exact ⟨0, Nat.zero_le _, rfl, hown2, hfr3, HF2.out⟩
  case round =>
    clear hown2 hfr3 HF2
    obtain ⟨j, hj, rfl, hN, hfr, hfr1⟩ := hrel
    by_cases hlt : j < l.length
    · cases A with
      | none => have := HN.out rfl; omega
      | some a =>
        have hct := (hfr1.cell (World.block_lt_of_cell? w1 _ (HC.out a rfl j hlt)) (fun e => e)).trans (HC.out a rfl j hlt)
        unfold iv at hct
        have hlj : ((l.take j).map numC).length = j := by rw [List.length_map, List.length_take]; omega
        have HL := Lib.hid (show l.length = ((l.take j).map numC ++ List.replicate (l.length - j) (⟨false, 0, []⟩ : Cl)).length by rw [List.length_append, hlj, List.length_replicate]; omega)
        have hat := rep_at ((l.take j).map numC) (l.length - j) (⟨false, 0, []⟩ : Cl) (by omega)
        have hset := rep_set ((l.take j).map numC) (l.length - j) (⟨false, 0, []⟩ : Cl) (numC l[j]) (by omega)
        rw [hlj] at hat hset
        have hmt : (l.take j).map numC ++ [numC l[j]] = (l.take (j + 1)).map numC := by rw [List.take_succ_eq_append_getElem hlt, List.map_append]; rfl
        rw [show l.length - j - 1 = l.length - (j + 1) by omega, hmt] at hset
        obtain ⟨e0, e1, e2⟩ := hN.el HL.out j _ hat
        have f0 := hN.frozen HL.out (j * 3 + 1)
        have hbk : r < wr.heap.size := (hN.lt r rfl).2
        have hO2 := hN.put1 HL.out j _ hat l[j]
        have hO2' : Oc (wr.setCell ⟨r, j * 3 + 1, none⟩ (iv l[j])) r (.slice (some ⟨r, 0, none⟩) l.length l.length) ((l.take (j + 1)).map numC ++ List.replicate (l.length - (j + 1)) ⟨false, 0, []⟩) := by
          rw [← hset]; exact hO2
        have HO2 := Lib.hid hO2'
        have hfr2 := Lib.hid (hfr.fresh ((Fr.refl (One r) wr).set1 (j * 3 + 1) (iv l[j])) (fun q e => by have h1 : q = r := e; have := HS.out; omega))
        have hfr12 := Lib.hid (hfr1.fresh ((Fr.refl (One r) wr).set1 (j * 3 + 1) (iv l[j])) (fun q e => by have h1 : q = r := e; omega))
        clear hN hat hset hlj hmt hO2 hO2'
        generalize l[j] = x at *
        go_wp2_with fail
        go_roundw
        case rel => exact ⟨j + 1, by omega, by go_num, HO2.out, hfr2.out, hfr12.out⟩
        case measure => simp [intOf]; omega
    · obtain rfl : j = l.length := by omega
      rw [Nat.sub_self, List.replicate_zero, List.append_nil, List.take_length] at hN
      go_wp2
      go_ret2
      refine ⟨?_, hfr⟩
      cases ok with
      | true => exact .inr ⟨l.map numC, _, by rw [HO.out]; rfl, rfl, hN.mono HS.out⟩
      | false => exact .inl ⟨by rw [HO.out]; rfl, _, _, rfl, hN.mono HS.out⟩
end Go.Proofs.YtheefloegbkflaaGreatDoor


namespace Go.Proofs.YtheefloegbkflaaGreatDoor
set_option linter.unusedVariables false
set_option linter.unusedSimpArgs false
set_option maxRecDepth 100000
open Go.RowKit

def OkTxt (l : List Tx) : Prop := ∀ x ∈ l, x.length ≤ 1000
theorem txt_small {l : List Tx} (h : OkTxt l) (hl : l.length ≤ 4096) : (plainB l).length < 137438953472 := by
  have h1 := plainB_bound h (by unfold two64; omega)
  have h2 := Nat.mul_le_mul hl (Nat.le_refl (1000 + 10))
  omega
/-- F puts texts in way k -/
def PutTxt (k F : Nat) : Prop := (∀ args W, (callFunc F args).run Tryz.prog W = .ok (.enter F args) W) ∧ ∀ (v : Value) (l : List Tx) (w : World), Vs sv w v l → l.length ≤ 4096 → OkTxt l →
    Calls Tryz.prog F #[v] w fun e w' => ∃ u, e = .returned u ∧ Own w' w.heap.size u (txtW k l) ∧ Fr Non w w'
def GetTxt (k F : Nat) : Prop := (∀ args W, (callFunc F args).run Tryz.prog W = .ok (.enter F args) W) ∧ ∀ (v : Value) (b : List UInt8) (n : Nat) (w : World), Bs w v b → (∀ q, v.ownBlock = some q → q < w.heap.size) → b.length ≤ 100000 → n ≤ 4096 →
    Calls Tryz.prog F #[v, .int .i64 n, .int .i64 40] w fun e w' => Gtx w' w.heap.size (txtG k b n) e ∧ Fr Non w w'
theorem putTxt5 : PutTxt 5 106 := ⟨Tryz.call106, fun v l w hv hl hx => plain_any v l w hv (by omega) (fun x h => by have := hx x h; omega) (txt_small hx hl)⟩
theorem putTxt6 : PutTxt 6 108 := ⟨Tryz.call108, fun v l w hv hl hx => xput_any v l w hv (by omega) (fun x h => by have := hx x h; omega)
  (txt_small (fun x h => hx x ((uniq_mem l x).1 h)) (by have := uniq_length l; omega))⟩
theorem getTxt5 : GetTxt 5 107 := ⟨Tryz.call107, fun v b n w hv _ hl hn => texts_any v b n 40 w hv (by omega) (by omega) (by omega)⟩
theorem getTxt6 : GetTxt 6 109 := ⟨Tryz.call109, fun v b n w hv hvl hl hn => xget_any v b n 40 w hv hvl (by omega) (by omega) (by omega) (by omega)⟩
theorem txtG_len {k : Nat} {b : List UInt8} {n : Nat} {l : List Tx} (h : txtG k b n = some l) : True ∧ l.length = n ∧ True := ⟨trivial, (txtG_is h).2, trivial⟩

theorem map_take_txt (l : List Cl) (k : Nat) (h : k < l.length) : (l.take (k + 1)).map Cl.txt = (l.take k).map Cl.txt ++ [l[k].txt] := by
  rw [List.take_succ_eq_append_getElem h, List.map_append]; rfl

set_option maxHeartbeats 4000000 in
/-- the put of a way: F puts them -/
theorem cput_txt (k : Nat) (F : Nat) (hF : PutTxt k F) (g : Nat) (v : Value) (l : List Cl) (w : World) (hb : Blk w g 147 #[.func (.func F) #[] #[]]) (hv : Cs w v l) (hl : l.length ≤ 4096) (hx : OkTxt (l.map Cl.txt)) :
    Calls Tryz.prog 159 #[v, ptr g] w fun e w' => ∃ u, e = .returned u ∧ Own w' w.heap.size u (txtW k (l.map Cl.txt)) ∧ Fr Non w w' := by
  obtain ⟨A, c, rfl, hlc, hn, hcell⟩ := hv
  have HC := Lib.hid hcell
  have HN := Lib.hid hn
  have HB := Lib.hid hb
  have HX := Lib.hid hx
  have HF := Lib.hid hF
  clear hcell hn hb hx hF
  go_enter Tryz.func159, Tryz.ntmps159
  go_wp2_with (at_make; refine wpList_mkfullG el_str (f := sv) ([] : Tx) rfl rfl _ _ rfl _ _ _ _ l.length rfl rfl rfl rfl (by omega) ?_; intro w2 hown2 hfr2)
  have hbl := HB.out.lt
  generalize hg : w.heap.size = r at *
  have hgl := Nat.le_of_eq hg
  have hgl2 := Nat.le_of_eq hg.symm
  clear hg
  have HS := Lib.hid hgl
  go_loopw [12] (fun i wr => ∃ (k : Nat), k ≤ l.length ∧ i = .int .i64 k ∧ Ow sv 9 wr r (.slice (some ⟨r, 0, none⟩) l.length l.length) ((l.take k).map Cl.txt ++ List.replicate (l.length - k) ([] : Tx)) ∧ Fr Non w wr) (fun i _ => l.length - (intOf i).toNat)
  case atStart => exact ⟨0, Nat.zero_le _, rfl, hown2, hfr2⟩
  case round =>
    clear hown2 hfr2
    obtain ⟨j, hj, rfl, hN, hfr⟩ := hrel
    by_cases hlt : j < l.length
    · cases A with
      | none => have := HN.out rfl; omega
      | some a =>
        obtain ⟨hc0, hc1, hc2⟩ := (hfr.at3 (HC.out a rfl j hlt)).lit
        have hlj : ((l.take j).map Cl.txt).length = j := by rw [List.length_map, List.length_take]; omega
        have HL := Lib.hid (show l.length = ((l.take j).map Cl.txt ++ List.replicate (l.length - j) ([] : Tx)).length by rw [List.length_append, hlj, List.length_replicate]; omega)
        have hat := rep_at ((l.take j).map Cl.txt) (l.length - j) ([] : Tx) (by omega)
        have hset := rep_set ((l.take j).map Cl.txt) (l.length - j) ([] : Tx) l[j].txt (by omega)
        rw [hlj] at hat hset
        rw [show l.length - j - 1 = l.length - (j + 1) by omega, ← map_take_txt l j hlt] at hset
        have hcb := hN.cell HL.out j _ hat
        have hfb := hN.frozen HL.out j
        unfold sv at hcb
        have hbk : r < wr.heap.size := (hN.lt r rfl).2
        have K1 := Lib.hid (show ∀ X : Obj, Ow sv 9 ((wr.setCell ⟨r, j, none⟩ (sv l[j].txt)).alloc X) r (.slice (some ⟨r, 0, none⟩) l.length l.length) ((l.take (j + 1)).map Cl.txt ++ List.replicate (l.length - (j + 1)) ([] : Tx)) ∧ Fr Non w ((wr.setCell ⟨r, j, none⟩ (sv l[j].txt)).alloc X) from fun X => by
          refine ⟨?_, ?_⟩
          · rw [← hset]; exact (hN.store HL.out j l[j].txt).alloc X
          · exact (hfr.fresh ((Fr.refl (One r) _).set1 j _) (fun q e => by have h1 : q = r := e; have := HS.out; omega)).alloc X)
        clear hN hat hset hlj
        generalize l[j] = x at *
        obtain ⟨xn, xi, xt⟩ := x
        obtain ⟨k1, k2⟩ := K1.out (.cells #[.bool xn, .int .i64 xi, .string ⟨xt.toArray⟩] 54)
        have k1 := Lib.hid k1
        have k2 := Lib.hid k2
        clear K1
        go_wp2_with fail
        go_roundw
        case rel => exact ⟨j + 1, by omega, by go_num, k1.out, k2.out⟩
        case measure => simp [intOf]; omega
    · obtain rfl : j = l.length := by omega
      rw [Nat.sub_self, List.replicate_zero, List.append_nil, List.take_length] at hN
      have hb1 := HB.out.fr hfr (fun e => e)
      have hc1 := hb1.cell 0
      simp at hc1
      have HO := Lib.hid hN
      have hcf := HF.out.1
      have H0 := Lib.hid (HF.out.2 (.slice (some ⟨r, 0, none⟩) l.length l.length) (l.map Cl.txt) wr hN.vs (by rw [List.length_map]; exact hl) HX.out)
      clear hN hb1
      go_wp2_with fail
      refine H0.out.mono ?_
      rintro e w5 ⟨u, rfl, hown5, hf5⟩
      have hfr5 := hfr.trans hf5
      go_wp2
      go_ret
      exact ⟨_, rfl, hown5.mono (by have := HS.out; have := hfr.size; omega), hfr5⟩

set_option maxHeartbeats 4000000 in
/-- the get of a way: F gets them -/
theorem cget_txt (k : Nat) (F : Nat) (hF : GetTxt k F) (g : Nat) (v : Value) (b : List UInt8) (n : Nat) (w : World) (hb : Blk w g 148 #[.func (.func F) #[] #[]]) (hv : Bs w v b) (hvl : ∀ q, v.ownBlock = some q → q < w.heap.size) (hl : b.length ≤ 100000) (hn : n ≤ 4096) :
    Calls Tryz.prog 160 #[v, .int .i64 n, ptr g] w fun e w' => Gtc w' w.heap.size ((txtG k b n).map (List.map txtC)) e ∧ Fr Non w w' := by
  have hcf := hF.1
  have H0 := Lib.hid (hF.2 v b n w hv hvl hl hn)
  have HG := Lib.hid (fun l (h : txtG k b n = some l) => (txtG_len h).2.1)
  have hc1 := hb.cell 0
  simp at hc1
  clear hb hF hv hvl
  go_enter Tryz.func160, Tryz.ntmps160
  go_wp2_with fail
  refine H0.out.mono ?_
  rintro e w1 ⟨hG, hf1⟩
  obtain ⟨u, l, ok, rfl, hu, hlen, ho⟩ : ∃ u l ok, e = .returned (.tuple #[u, .bool ok]) ∧ Vs sv w1 u l ∧ l.length ≤ 4096 ∧ txtG k b n = (if ok = true then some l else none) := by
    rcases hG with ⟨h1, rfl⟩ | ⟨l, u, h1, rfl, hown⟩
    · exact ⟨_, [], false, rfl, Vs.nil_ _, by simp, h1⟩
    · exact ⟨u, l, true, rfl, hown.vs, by rw [HG.out l h1]; exact hn, h1⟩
  obtain ⟨A, c, rfl, hlc, hnn, hcell⟩ := hu
  have HC := Lib.hid hcell
  have HN := Lib.hid hnn
  have HO := Lib.hid ho
  clear hcell hnn ho H0 HG hG hc1
  go_wp2_with (at_make; refine wpList_mkC rfl _ _ rfl _ _ _ _ l.length rfl rfl rfl rfl (by omega) ?_; intro w2 hown2 hfr2)
  have hs1 := hf1.size
  have hfr3 := hf1.trans hfr2
  have HF2 := Lib.hid hfr2
  generalize hg : w1.heap.size = r at *
  have hgl := Nat.le_of_eq hg
  clear hg hfr2
  have HS := Lib.hid hs1
  go_loopw [24] (fun i wr => ∃ (j : Nat), j ≤ l.length ∧ i = .int .i64 j ∧ Oc wr r (.slice (some ⟨r, 0, none⟩) l.length l.length) ((l.take j).map txtC ++ List.replicate (l.length - j) ⟨false, 0, []⟩) ∧ Fr Non w wr ∧ Fr Non w1 wr) (fun i _ => l.length - (intOf i).toNat)
  case atStart => exact ⟨0, Nat.zero_le _, rfl, hown2, hfr3, HF2.out⟩
  case round =>
    clear hown2 hfr3 HF2
    obtain ⟨j, hj, rfl, hN, hfr, hfr1⟩ := hrel
    by_cases hlt : j < l.length
    · cases A with
      | none => have := HN.out rfl; omega
      | some a =>
        have hct := (hfr1.cell (World.block_lt_of_cell? w1 _ (HC.out a rfl j hlt)) (fun e => e)).trans (HC.out a rfl j hlt)
        unfold sv at hct
        have hlj : ((l.take j).map txtC).length = j := by rw [List.length_map, List.length_take]; omega
        have HL := Lib.hid (show l.length = ((l.take j).map txtC ++ List.replicate (l.length - j) (⟨false, 0, []⟩ : Cl)).length by rw [List.length_append, hlj, List.length_replicate]; omega)
        have hat := rep_at ((l.take j).map txtC) (l.length - j) (⟨false, 0, []⟩ : Cl) (by omega)
        have hset := rep_set ((l.take j).map txtC) (l.length - j) (⟨false, 0, []⟩ : Cl) (txtC l[j]) (by omega)
        rw [hlj] at hat hset
        have hmt : (l.take j).map txtC ++ [txtC l[j]] = (l.take (j + 1)).map txtC := by rw [List.take_succ_eq_append_getElem hlt, List.map_append]; rfl
        rw [show l.length - j - 1 = l.length - (j + 1) by omega, hmt] at hset
        obtain ⟨e0, e1, e2⟩ := hN.el HL.out j _ hat
        have f0 := hN.frozen HL.out (j * 3 + 2)
        have hbk : r < wr.heap.size := (hN.lt r rfl).2
        have hO2 := hN.put2 HL.out j _ hat l[j]
        have hO2' : Oc (wr.setCell ⟨r, j * 3 + 2, none⟩ (sv l[j])) r (.slice (some ⟨r, 0, none⟩) l.length l.length) ((l.take (j + 1)).map txtC ++ List.replicate (l.length - (j + 1)) ⟨false, 0, []⟩) := by
          rw [← hset]; exact hO2
        have HO2 := Lib.hid hO2'
        have hfr2 := Lib.hid (hfr.fresh ((Fr.refl (One r) wr).set1 (j * 3 + 2) (sv l[j])) (fun q e => by have h1 : q = r := e; have := HS.out; omega))
        have hfr12 := Lib.hid (hfr1.fresh ((Fr.refl (One r) wr).set1 (j * 3 + 2) (sv l[j])) (fun q e => by have h1 : q = r := e; omega))
        clear hN hat hset hlj hmt hO2 hO2'
        generalize l[j] = x at *
        go_wp2_with fail
        go_roundw
        case rel => exact ⟨j + 1, by omega, by go_num, HO2.out, hfr2.out, hfr12.out⟩
        case measure => simp [intOf]; omega
    · obtain rfl : j = l.length := by omega
      rw [Nat.sub_self, List.replicate_zero, List.append_nil, List.take_length] at hN
      go_wp2
      go_ret2
      refine ⟨?_, hfr⟩
      cases ok with
      | true => exact .inr ⟨l.map txtC, _, by rw [HO.out]; rfl, rfl, hN.mono HS.out⟩
      | false => exact .inl ⟨by rw [HO.out]; rfl, _, _, rfl, hN.mono HS.out⟩
end Go.Proofs.YtheefloegbkflaaGreatDoor


namespace Go.Proofs.YtheefloegbkflaaGreatDoor
set_option linter.unusedVariables false
set_option linter.unusedSimpArgs false
set_option maxRecDepth 100000
open Go.RowKit

/-- cells that may be put -/
def OkL (l : List Cl) : Prop := ∀ c ∈ l, I64 c.num ∧ c.txt.length ≤ 1000
/-- a way: what it puts and gets, in every world that has kept what stood -/
def Way (w : World) (k : Nat) (vp vg : Value) : Prop :=
  ∃ Fp Fg gp gg, vp = .func (.func Fp) #[] #[ptr gp] ∧ vg = .func (.func Fg) #[] #[ptr gg] ∧
    (∀ args W, (callFunc Fp args).run Tryz.prog W = .ok (.enter Fp args) W) ∧ (∀ args W, (callFunc Fg args).run Tryz.prog W = .ok (.enter Fg args) W) ∧
    (∀ W v l, Fr Non w W → Cs W v l → l.length ≤ 4096 → OkL l → Calls Tryz.prog Fp #[v, ptr gp] W fun e w' => ∃ u, e = .returned u ∧ Own w' W.heap.size u (wayB k l) ∧ Fr Non W w') ∧
    (∀ W v b (n : Nat), Fr Non w W → Bs W v b → (∀ q, v.ownBlock = some q → q < W.heap.size) → b.length ≤ 100000 → n ≤ 4096 → Calls Tryz.prog Fg #[v, .int .i64 n, ptr gg] W fun e w' => Gtc w' W.heap.size (wayG k b n) e ∧ Fr Non W w')
theorem Way.fr {w w' : World} {k : Nat} {vp vg : Value} (h : Way w k vp vg) (hf : Fr Non w w') : Way w' k vp vg := by
  obtain ⟨Fp, Fg, gp, gg, h1, h2, h3, h4, h5, h6⟩ := h
  exact ⟨Fp, Fg, gp, gg, h1, h2, h3, h4, fun W v l hW => h5 W v l (hf.trans hW), fun W v b n hW => h6 W v b n (hf.trans hW)⟩
theorem way_num {w : World} {k F G gp gg : Nat} (hk : k ≤ 4) (hF : PutNum k F) (hG : GetNum k G) (hp : Blk w gp 144 #[.func (.func F) #[] #[]]) (hg : Blk w gg 145 #[.func (.func G) #[] #[]]) :
    Way w k (.func (.func 146) #[] #[ptr gp]) (.func (.func 147) #[] #[ptr gg]) := by
  refine ⟨_, _, gp, gg, rfl, rfl, Tryz.call146, Tryz.call147, fun W v l hW hv hl hx => ?_, fun W v b n hW hv hvl hl hn => ?_⟩
  · have := cput_num k F hF gp v l W (hp.fr hW (fun e => e)) hv hl (fun x hx' => by obtain ⟨c, hc, rfl⟩ := List.mem_map.1 hx'; exact (hx c hc).1)
    unfold wayB; rw [if_pos hk]; exact this
  · have := cget_num k G hG gg v b n W (hg.fr hW (fun e => e)) hv hvl hl hn
    unfold wayG; rw [if_pos hk]; exact this
theorem way_txt {w : World} {k F G gp gg : Nat} (hk : ¬ k ≤ 4) (hF : PutTxt k F) (hG : GetTxt k G) (hp : Blk w gp 147 #[.func (.func F) #[] #[]]) (hg : Blk w gg 148 #[.func (.func G) #[] #[]]) :
    Way w k (.func (.func 159) #[] #[ptr gp]) (.func (.func 160) #[] #[ptr gg]) := by
  refine ⟨_, _, gp, gg, rfl, rfl, Tryz.call159, Tryz.call160, fun W v l hW hv hl hx => ?_, fun W v b n hW hv hvl hl hn => ?_⟩
  · have := cput_txt k F hF gp v l W (hp.fr hW (fun e => e)) hv hl (fun x hx' => by obtain ⟨c, hc, rfl⟩ := List.mem_map.1 hx'; exact (hx c hc).2)
    unfold wayB; rw [if_neg hk]; exact this
  · have := cget_txt k G hG gg v b n W (hg.fr hW (fun e => e)) hv hvl hl hn
    unfold wayG; rw [if_neg hk]; exact this

/-- a call's end where its one result is a way in a block -/
theorem ret_way {fn : Func} {p : Tmp} (h : fn.results = #[.cell p 142]) (tmps : Array Value) (w : World) (g : Nat) (a b c : Value)
    (hp : tmps.getD p undef = .pointer (some ⟨g, 0, none⟩)) (hg : Blk w g 142 #[a, b, c]) : (results fn tmps).run Tryz.prog w = .ok (.agg #[a, b, c]) w :=
  results_cell_row h tmps w g 142 _ (0, 0) _ hp hg Tryz.underlying142 rfl (by kernel_rfl)

set_option maxHeartbeats 1000000 in
theorem ofNum_any (k F G : Nat) (hk : k ≤ 4) (hF : PutNum k F) (hG : GetNum k G) (w : World) :
    Calls Tryz.prog 96 #[.int .i64 k, .func (.func F) #[] #[], .func (.func G) #[] #[]] w fun e w' => ∃ vp vg, e = .returned (.agg #[.int .i64 k, vp, vg]) ∧ Way w' k vp vg ∧ Fr Non w w' := by
  have hmf : ∀ (fn : Fn) (first cap : Array Value) (w : World), (Instr.makeFunc fn first cap).run Tryz.prog w = .ok (.func fn first cap) w := fun _ _ _ _ => rfl
  have HK := Lib.hid hk
  clear hk
  have e1 : (w.alloc (.cells #[.func (.func F) #[] #[]] 144)).heap.size = w.heap.size + 1 := by simp
  have e2 : ((w.alloc (.cells #[.func (.func F) #[] #[]] 144)).alloc (.cells #[.func (.func G) #[] #[]] 145)).heap.size = w.heap.size + 1 + 1 := by simp
  have b1 := ((Blk.new w 144 #[.func (.func F) #[] #[]]).fr (((Fr.refl Non _).alloc (.cells #[.func (.func G) #[] #[]] 145)).alloc (.cells #[.int .i64 k, .func (.func 146) #[] #[ptr w.heap.size], .func (.func 147) #[] #[ptr (w.heap.size + 1)]] 142)) (fun e => e))
  have b2 := ((Blk.new (w.alloc (.cells #[.func (.func F) #[] #[]] 144)) 145 #[.func (.func G) #[] #[]]).fr ((Fr.refl Non _).alloc (.cells #[.int .i64 k, .func (.func 146) #[] #[ptr w.heap.size], .func (.func 147) #[] #[ptr (w.heap.size + 1)]] 142)) (fun e => e))
  have b3 := Blk.new ((w.alloc (.cells #[.func (.func F) #[] #[]] 144)).alloc (.cells #[.func (.func G) #[] #[]] 145)) 142 #[.int .i64 k, .func (.func 146) #[] #[ptr w.heap.size], .func (.func 147) #[] #[ptr (w.heap.size + 1)]]
  rw [e1] at b2
  rw [e2] at b3
  have W0 := way_num HK.out hF hG b1 b2
  have HW := Lib.hid W0
  have HB := Lib.hid b3
  clear b1 b2 b3 W0 e1 e2 hF hG
  go_enter Tryz.func96, Tryz.ntmps96
  go_wp2
  exact bodyPost_ret (v := .agg #[.int .i64 k, .func (.func 146) #[] #[ptr w.heap.size], .func (.func 147) #[] #[ptr (w.heap.size + 1)]]) (ret_way (p := 6) rfl _ _ (w.heap.size + 1 + 1) _ _ _ rfl HB.out) rfl ⟨_, _, rfl, HW.out, (((Fr.refl _ _).alloc _).alloc _).alloc _⟩
set_option maxHeartbeats 1000000 in
theorem ofTxt_any (k F G : Nat) (hk : ¬ k ≤ 4) (hF : PutTxt k F) (hG : GetTxt k G) (w : World) :
    Calls Tryz.prog 105 #[.int .i64 k, .func (.func F) #[] #[], .func (.func G) #[] #[]] w fun e w' => ∃ vp vg, e = .returned (.agg #[.int .i64 k, vp, vg]) ∧ Way w' k vp vg ∧ Fr Non w w' := by
  have hmf : ∀ (fn : Fn) (first cap : Array Value) (w : World), (Instr.makeFunc fn first cap).run Tryz.prog w = .ok (.func fn first cap) w := fun _ _ _ _ => rfl
  have HK := Lib.hid hk
  clear hk
  have e1 : (w.alloc (.cells #[.func (.func F) #[] #[]] 147)).heap.size = w.heap.size + 1 := by simp
  have e2 : ((w.alloc (.cells #[.func (.func F) #[] #[]] 147)).alloc (.cells #[.func (.func G) #[] #[]] 148)).heap.size = w.heap.size + 1 + 1 := by simp
  have b1 := ((Blk.new w 147 #[.func (.func F) #[] #[]]).fr (((Fr.refl Non _).alloc (.cells #[.func (.func G) #[] #[]] 148)).alloc (.cells #[.int .i64 k, .func (.func 159) #[] #[ptr w.heap.size], .func (.func 160) #[] #[ptr (w.heap.size + 1)]] 142)) (fun e => e))
  have b2 := ((Blk.new (w.alloc (.cells #[.func (.func F) #[] #[]] 147)) 148 #[.func (.func G) #[] #[]]).fr ((Fr.refl Non _).alloc (.cells #[.int .i64 k, .func (.func 159) #[] #[ptr w.heap.size], .func (.func 160) #[] #[ptr (w.heap.size + 1)]] 142)) (fun e => e))
  have b3 := Blk.new ((w.alloc (.cells #[.func (.func F) #[] #[]] 147)).alloc (.cells #[.func (.func G) #[] #[]] 148)) 142 #[.int .i64 k, .func (.func 159) #[] #[ptr w.heap.size], .func (.func 160) #[] #[ptr (w.heap.size + 1)]]
  rw [e1] at b2
  rw [e2] at b3
  have W0 := way_txt HK.out hF hG b1 b2
  have HW := Lib.hid W0
  have HB := Lib.hid b3
  clear b1 b2 b3 W0 e1 e2 hF hG
  go_enter Tryz.func105, Tryz.ntmps105
  go_wp2
  exact bodyPost_ret (v := .agg #[.int .i64 k, .func (.func 159) #[] #[ptr w.heap.size], .func (.func 160) #[] #[ptr (w.heap.size + 1)]]) (ret_way (p := 6) rfl _ _ (w.heap.size + 1 + 1) _ _ _ rfl HB.out) rfl ⟨_, _, rfl, HW.out, (((Fr.refl _ _).alloc _).alloc _).alloc _⟩

/-- a slice of ways -/
def Ws (w : World) (v : Value) (ks : List Nat) : Prop :=
  (v = .slice none 0 0 ∧ ks = []) ∨ ∃ g, v = .slice (some ⟨g, 0, none⟩) ks.length ks.length ∧ ∀ j (h : j < ks.length), ∃ vp vg,
    w.cell? ⟨g, j * 3, none⟩ = some (.int .i64 (ks[j] : Nat)) ∧ w.cell? ⟨g, j * 3 + 1, none⟩ = some vp ∧ w.cell? ⟨g, j * 3 + 2, none⟩ = some vg ∧ Way w ks[j] vp vg
theorem Ws.fr {w w' : World} {v : Value} {ks : List Nat} (h : Ws w v ks) (hf : Fr Non w w') : Ws w' v ks := by
  rcases h with h | ⟨g, h1, h2⟩
  · exact .inl h
  · refine .inr ⟨g, h1, fun j hj => ?_⟩
    obtain ⟨vp, vg, c0, c1, c2, c3⟩ := h2 j hj
    exact ⟨vp, vg, (hf.cell (World.block_lt_of_cell? w _ c0) (fun e => e)).trans c0, (hf.cell (World.block_lt_of_cell? w _ c1) (fun e => e)).trans c1, (hf.cell (World.block_lt_of_cell? w _ c2) (fun e => e)).trans c2, c3.fr hf⟩

set_option maxHeartbeats 4000000 in
theorem ways_any (ty : Int) (w : World) : Calls Tryz.prog 57 #[.int .i64 ty] w fun e w' => ∃ v, e = .returned v ∧ Ws w' v (waysOf ty) ∧ Fr Non w w' := by
  have n1 := Lib.hid (show ∀ W, Calls Tryz.prog 96 #[.int .i64 1, .func (.func 97) #[] #[], .func (.func 98) #[] #[]] W fun e w' => ∃ vp vg, e = .returned (.agg #[.int .i64 1, vp, vg]) ∧ Way w' 1 vp vg ∧ Fr Non W w' from fun W => ofNum_any 1 _ _ (by omega) putNum1 getNum1 W)
  have n2 := Lib.hid (show ∀ W, Calls Tryz.prog 96 #[.int .i64 2, .func (.func 99) #[] #[], .func (.func 100) #[] #[]] W fun e w' => ∃ vp vg, e = .returned (.agg #[.int .i64 2, vp, vg]) ∧ Way w' 2 vp vg ∧ Fr Non W w' from fun W => ofNum_any 2 _ _ (by omega) putNum2 getNum2 W)
  have n3 := Lib.hid (show ∀ W, Calls Tryz.prog 96 #[.int .i64 3, .func (.func 101) #[] #[], .func (.func 102) #[] #[]] W fun e w' => ∃ vp vg, e = .returned (.agg #[.int .i64 3, vp, vg]) ∧ Way w' 3 vp vg ∧ Fr Non W w' from fun W => ofNum_any 3 _ _ (by omega) putNum3 getNum3 W)
  have n4 := Lib.hid (show ∀ W, Calls Tryz.prog 96 #[.int .i64 4, .func (.func 103) #[] #[], .func (.func 104) #[] #[]] W fun e w' => ∃ vp vg, e = .returned (.agg #[.int .i64 4, vp, vg]) ∧ Way w' 4 vp vg ∧ Fr Non W w' from fun W => ofNum_any 4 _ _ (by omega) putNum4 getNum4 W)
  have n5 := Lib.hid (show ∀ W, Calls Tryz.prog 105 #[.int .i64 5, .func (.func 106) #[] #[], .func (.func 107) #[] #[]] W fun e w' => ∃ vp vg, e = .returned (.agg #[.int .i64 5, vp, vg]) ∧ Way w' 5 vp vg ∧ Fr Non W w' from fun W => ofTxt_any 5 _ _ (by omega) putTxt5 getTxt5 W)
  have n6 := Lib.hid (show ∀ W, Calls Tryz.prog 105 #[.int .i64 6, .func (.func 108) #[] #[], .func (.func 109) #[] #[]] W fun e w' => ∃ vp vg, e = .returned (.agg #[.int .i64 6, vp, vg]) ∧ Way w' 6 vp vg ∧ Fr Non W w' from fun W => ofTxt_any 6 _ _ (by omega) putTxt6 getTxt6 W)
  by_cases h12 : ty = 1 ∨ ty = 2
  · rcases h12 with rfl | rfl
    · go_enter Tryz.func57, Tryz.ntmps57
      go_wp2_with fail
      refine (n1.out _).mono ?_
      rintro e w1 ⟨p1, g1, rfl, W1, f1⟩
      have H1 := Lib.hid W1
      have F1 := Lib.hid f1
      clear W1 f1
      go_wp2_with fail
      refine (n2.out _).mono ?_
      rintro e w2 ⟨p2, g2, rfl, W2, f2⟩
      have H2 := Lib.hid W2
      have F2 := Lib.hid f2
      clear W2 f2
      go_wp2_with fail
      refine (n3.out _).mono ?_
      rintro e w3 ⟨p3, g3, rfl, W3, f3⟩
      have H3 := Lib.hid W3
      have F3 := Lib.hid f3
      clear W3 f3
      go_wp2_with fail
      refine (n4.out _).mono ?_
      rintro e w4 ⟨p4, g4, rfl, W4, f4⟩
      have H4 := Lib.hid W4
      have F4 := Lib.hid f4
      clear W4 f4
      go_wp2_with fail
      go_ret
      have B := Blk.new w4 142 #[.int .i64 1, p1, g1, .int .i64 2, p2, g2, .int .i64 3, p3, g3, .int .i64 4, p4, g4]
      have A1 := (Fr.refl Non w4).alloc (.cells #[.int .i64 1, p1, g1, .int .i64 2, p2, g2, .int .i64 3, p3, g3, .int .i64 4, p4, g4] 142)
      refine ⟨_, rfl, .inr ⟨w4.heap.size, rfl, fun j hj => ?_⟩, ((((F1.out).trans F2.out).trans F3.out).trans F4.out).alloc _⟩
      match j, hj with
      | 0, _ => exact ⟨p1, g1, B.cell 0, B.cell 1, B.cell 2, ((((H1.out).fr F2.out).fr F3.out).fr F4.out).fr A1⟩
      | 1, _ => exact ⟨p2, g2, B.cell 3, B.cell 4, B.cell 5, (((H2.out).fr F3.out).fr F4.out).fr A1⟩
      | 2, _ => exact ⟨p3, g3, B.cell 6, B.cell 7, B.cell 8, ((H3.out).fr F4.out).fr A1⟩
      | 3, _ => exact ⟨p4, g4, B.cell 9, B.cell 10, B.cell 11, (H4.out).fr A1⟩
      | j + 4, hj => simp [waysOf] at hj; omega
    · go_enter Tryz.func57, Tryz.ntmps57
      go_wp2_with fail
      refine (n1.out _).mono ?_
      rintro e w1 ⟨p1, g1, rfl, W1, f1⟩
      have H1 := Lib.hid W1
      have F1 := Lib.hid f1
      clear W1 f1
      go_wp2_with fail
      refine (n2.out _).mono ?_
      rintro e w2 ⟨p2, g2, rfl, W2, f2⟩
      have H2 := Lib.hid W2
      have F2 := Lib.hid f2
      clear W2 f2
      go_wp2_with fail
      refine (n3.out _).mono ?_
      rintro e w3 ⟨p3, g3, rfl, W3, f3⟩
      have H3 := Lib.hid W3
      have F3 := Lib.hid f3
      clear W3 f3
      go_wp2_with fail
      refine (n4.out _).mono ?_
      rintro e w4 ⟨p4, g4, rfl, W4, f4⟩
      have H4 := Lib.hid W4
      have F4 := Lib.hid f4
      clear W4 f4
      go_wp2_with fail
      go_ret
      have B := Blk.new w4 142 #[.int .i64 1, p1, g1, .int .i64 2, p2, g2, .int .i64 3, p3, g3, .int .i64 4, p4, g4]
      have A1 := (Fr.refl Non w4).alloc (.cells #[.int .i64 1, p1, g1, .int .i64 2, p2, g2, .int .i64 3, p3, g3, .int .i64 4, p4, g4] 142)
      refine ⟨_, rfl, .inr ⟨w4.heap.size, rfl, fun j hj => ?_⟩, ((((F1.out).trans F2.out).trans F3.out).trans F4.out).alloc _⟩
      match j, hj with
      | 0, _ => exact ⟨p1, g1, B.cell 0, B.cell 1, B.cell 2, ((((H1.out).fr F2.out).fr F3.out).fr F4.out).fr A1⟩
      | 1, _ => exact ⟨p2, g2, B.cell 3, B.cell 4, B.cell 5, (((H2.out).fr F3.out).fr F4.out).fr A1⟩
      | 2, _ => exact ⟨p3, g3, B.cell 6, B.cell 7, B.cell 8, ((H3.out).fr F4.out).fr A1⟩
      | 3, _ => exact ⟨p4, g4, B.cell 9, B.cell 10, B.cell 11, (H4.out).fr A1⟩
      | j + 4, hj => simp [waysOf] at hj; omega
  · by_cases h3 : ty = 3
    · subst h3
      go_enter Tryz.func57, Tryz.ntmps57
      go_wp2_with fail
      refine (n5.out _).mono ?_
      rintro e w5 ⟨p5, g5, rfl, W5, f5⟩
      have H5 := Lib.hid W5
      have F5 := Lib.hid f5
      clear W5 f5
      go_wp2_with fail
      refine (n6.out _).mono ?_
      rintro e w6 ⟨p6, g6, rfl, W6, f6⟩
      have H6 := Lib.hid W6
      have F6 := Lib.hid f6
      clear W6 f6
      go_wp2_with fail
      go_ret
      have B := Blk.new w6 142 #[.int .i64 5, p5, g5, .int .i64 6, p6, g6]
      have A1 := (Fr.refl Non w6).alloc (.cells #[.int .i64 5, p5, g5, .int .i64 6, p6, g6] 142)
      refine ⟨_, rfl, .inr ⟨w6.heap.size, rfl, fun j hj => ?_⟩, ((F5.out).trans F6.out).alloc _⟩
      match j, hj with
      | 0, _ => exact ⟨p5, g5, B.cell 0, B.cell 1, B.cell 2, ((H5.out).fr F6.out).fr A1⟩
      | 1, _ => exact ⟨p6, g6, B.cell 3, B.cell 4, B.cell 5, (H6.out).fr A1⟩
      | j + 2, hj => simp [waysOf] at hj; omega
    · have HW := Lib.hid (waysOf_no (ty := ty) (by omega) (by omega) h3)
      have hd : (ty == 1) = false := by simp; omega
      have hd2 : (ty == 2) = false := by simp; omega
      have hd3 : (ty == 3) = false := by simp; omega
      clear h12 h3
      go_enter Tryz.func57, Tryz.ntmps57
      go_wp2_with fail
      go_ret
      exact ⟨_, rfl, by rw [HW.out]; exact .inl ⟨rfl, rfl⟩, Fr.refl _ _⟩
end Go.Proofs.YtheefloegbkflaaGreatDoor


namespace Go.Proofs.YtheefloegbkflaaGreatDoor
set_option linter.unusedVariables false
set_option linter.unusedSimpArgs false
set_option maxRecDepth 100000
open Go.RowKit

theorem shortC_drop (l : List Cl) (ks : List Nat) (j : Nat) (h : j < ks.length) (n : Nat) (b : List UInt8) :
    shortC l (ks.drop j) (n, b) = shortC l (ks.drop (j + 1)) (if n = 0 ∨ (wayB ks[j] l).length < b.length then (ks[j], wayB ks[j] l) else (n, b)) := by
  rw [List.drop_eq_getElem_cons h, shortC]

set_option maxHeartbeats 4000000 in
theorem shortest_any (v v2 : Value) (ks : List Nat) (l : List Cl) (w : World) (hv : Ws w v ks) (h2 : Cs w v2 l) (hks : ks.length ≤ 100) (hk1 : ∀ k ∈ ks, k ≤ 100) (hl : l.length ≤ 4096) (hx : OkL l) :
    Calls Tryz.prog 56 #[v, v2] w fun e w' => ∃ u, e = .returned (.tuple #[.int .i64 ((shortC l ks (0, [])).1 : Nat), u]) ∧ Own w' w.heap.size u (shortC l ks (0, [])).2 ∧ Fr Non w w' := by
  have HV := Lib.hid hv
  have H2 := Lib.hid h2
  have HX := Lib.hid hx
  have HK := Lib.hid hk1
  obtain ⟨A, hA⟩ : ∃ A, v = .slice A ks.length ks.length := by
    rcases hv with ⟨rfl, rfl⟩ | ⟨g, rfl, _⟩
    · exact ⟨none, rfl⟩
    · exact ⟨_, rfl⟩
  subst hA
  clear hv h2 hx hk1
  go_enter Tryz.func56, Tryz.ntmps56
  go_wp2
  go_loopw [6, 7, 13] (fun m b i wr => ∃ (j N : Nat) (Bt : List UInt8), j ≤ ks.length ∧ i = .int .i64 j ∧ m = .int .i64 N ∧ N ≤ 100 ∧ shortC l ks (0, []) = shortC l (ks.drop j) (N, Bt) ∧ Own wr w.heap.size b Bt ∧ Fr Non w wr) (fun _ _ i _ => ks.length - (intOf i).toNat)
  case atStart => exact ⟨0, 0, [], Nat.zero_le _, rfl, rfl, by omega, rfl, own_nil _ _, Fr.refl _ _⟩
  case round =>
    obtain ⟨j, N, Bt, hj, rfl, rfl, hN, hS, hown, hfr⟩ := hrel
    have HS := Lib.hid hS
    have HO := Lib.hid hown
    obtain ⟨Ab, cb, hub⟩ := hown.bs.shape
    subst hub
    clear hS hown
    by_cases hlt : j < ks.length
    · rcases HV.out with ⟨_, h0⟩ | ⟨g, he, hway⟩
      · rw [h0] at hlt; exact absurd hlt (by simp)
      · simp only [Value.slice.injEq] at he
        obtain ⟨rfl, _⟩ := he
        obtain ⟨vp, vg, c0, c1, c2, hw⟩ := hway j hlt
        have b0 := World.block_lt_of_cell? w _ c0
        have d0 := (hfr.cell b0 (fun e => e)).trans c0
        have d1 := (hfr.cell (World.block_lt_of_cell? w _ c1) (fun e => e)).trans c1
        have d2 := (hfr.cell (World.block_lt_of_cell? w _ c2) (fun e => e)).trans c2
        clear c0 c1 c2 b0 hway
        have HD := Lib.hid (shortC_drop l ks j hlt N Bt)
        have hkk := HK.out ks[j] (List.getElem_mem hlt)
        have hwr := hw.fr hfr
        clear hw
        generalize ks[j] = k at *
        obtain ⟨Fp, Fg, gp, gg, rfl, rfl, hcf, hcg, hput, hget⟩ := hwr
        have HP := Lib.hid hput
        clear hput hget hcg
        go_wp2_with fail
        have hW := (Fr.refl Non wr).alloc (.cells #[.int .i64 k, .func (.func Fp) #[] #[ptr gp], .func (.func Fg) #[] #[ptr gg]] 142)
        refine (HP.out _ v2 l hW (H2.out.non (hfr.trans hW)) hl HX.out).mono ?_
        rintro e w5 ⟨v5, rfl, hown5, hf5⟩
        have hb5 := (Blk.new wr 142 #[.int .i64 k, .func (.func Fp) #[] #[ptr gp], .func (.func Fg) #[] #[ptr gg]]).fr hf5 (fun e => e)
        have d3 := hb5.cell 0
        simp at d3
        have hfr5 := (hfr.trans hW).trans hf5
        have HF5 := Lib.hid hfr5
        have HO1 := Lib.hid (HO.out.non (hW.trans hf5))
        obtain ⟨A5, c5, rfl⟩ := hown5.bs.shape
        have HO5 := Lib.hid (hown5.mono (hfr.trans hW).size)
        clear hown5 hf5 hb5 hfr5 hW HO HP hcf d0 d1 d2 hfr
        generalize wayB k l = y at *
        by_cases h0 : N = 0
        · subst h0
          have hD := HD.out
          rw [if_pos (.inl rfl)] at hD
          have HD2 := Lib.hid (HS.out.trans hD)
          clear hD HD HS
          go_wp2_with fail
          go_roundw
          case rel => exact ⟨j + 1, k, y, by omega, by go_num, rfl, hkk, HD2.out, HO5.out, HF5.out⟩
          case measure => simp [intOf]; omega
        · have e0 : ((N : Int) == 0) = false := by simpa using h0
          by_cases hc : y.length < Bt.length
          · have hD := HD.out
            rw [if_pos (.inr hc)] at hD
            have HD2 := Lib.hid (HS.out.trans hD)
            have e1 : decide (y.length < Bt.length) = true := by simpa using hc
            clear hD HD HS hc h0
            go_wp2_with fail
            go_roundw
            case rel => exact ⟨j + 1, k, y, by omega, by go_num, rfl, hkk, HD2.out, HO5.out, HF5.out⟩
            case measure => simp [intOf]; omega
          · have hD := HD.out
            rw [if_neg (by omega)] at hD
            have HD2 := Lib.hid (HS.out.trans hD)
            have e1 : decide (y.length < Bt.length) = false := by simpa using hc
            clear hD HD HS hc h0
            go_wp2_with fail
            go_roundw
            case rel => exact ⟨j + 1, N, Bt, by omega, by go_num, rfl, hN, HD2.out, HO1.out, HF5.out⟩
            case measure => simp [intOf]; omega
    · obtain rfl : j = ks.length := by omega
      have hS := HS.out
      rw [List.drop_length] at hS
      have HS2 := Lib.hid hS
      clear hS
      go_wp2
      go_ret2
      exact ⟨.slice Ab Bt.length cb, by rw [HS2.out]; rfl, by rw [HS2.out]; exact HO.out, hfr⟩

theorem Gtc.mono {w : World} {B B' : Nat} {o : Option (List Cl)} {e : Ending} (h : Gtc w B o e) (hB : B' ≤ B) : Gtc w B' o e := by
  rcases h with ⟨h1, u, l, h2, h3⟩ | ⟨l, u, h1, h2, h3⟩
  · exact .inl ⟨h1, u, l, h2, h3.mono hB⟩
  · exact .inr ⟨l, u, h1, h2, h3.mono hB⟩
theorem waysOf_len (ty : Int) : (waysOf ty).length ≤ 4 := by
  unfold waysOf
  split
  · simp
  · split <;> simp
theorem notin_take_succ {l : List Nat} {j k : Nat} (h : j < l.length) (hn : k ∉ l.take j) (hk : l[j] ≠ k) : k ∉ l.take (j + 1) := by
  rw [List.take_succ_eq_append_getElem h]
  intro hm
  rcases List.mem_append.1 hm with h | h
  · exact hn h
  · simp at h; exact hk h.symm

set_option maxHeartbeats 4000000 in
theorem read_any (ty : Int) (k : Nat) (v : Value) (b : List UInt8) (n : Nat) (w : World) (hv : Bs w v b) (hvl : ∀ q, v.ownBlock = some q → q < w.heap.size) (hl : b.length ≤ 100000) (hn : n ≤ 4096) :
    Calls Tryz.prog 86 #[.int .i64 ty, .int .i64 k, v, .int .i64 n] w fun e w' => Gtc w' w.heap.size (readC ty k b n) e ∧ Fr Non w w' := by
  have HB := Lib.hid hv
  have HL := Lib.hid hvl
  have H0 := Lib.hid (ways_any ty w)
  clear hv hvl
  go_enter Tryz.func86, Tryz.ntmps86
  go_wp2_with fail
  refine H0.out.mono ?_
  rintro e w1 ⟨vs, rfl, hw1, hf1⟩
  have hlen := waysOf_len ty
  have HR := Lib.hid (fun h => readC_no (ty := ty) (k := k) (n := n) (b := b) h)
  have HY := Lib.hid (fun (h1 : k ∈ waysOf ty) (l : List Cl) h2 h3 => readC_yes (ty := ty) (k := k) (n := n) (b := b) (l := l) h1 h2 h3)
  generalize hks : waysOf ty = ks at *
  have HV := Lib.hid hw1
  have HF1 := Lib.hid hf1
  obtain ⟨A, hA⟩ : ∃ A, vs = .slice A ks.length ks.length := by
    rcases hw1 with ⟨rfl, rfl⟩ | ⟨g, rfl, _⟩
    · exact ⟨none, rfl⟩
    · exact ⟨_, rfl⟩
  subst hA
  clear hw1 hf1 hks H0
  go_wp2
  go_loopw [17] (fun i wr => ∃ (j : Nat), j ≤ ks.length ∧ i = .int .i64 j ∧ k ∉ ks.take j ∧ Fr Non w1 wr) (fun i _ => ks.length - (intOf i).toNat)
  case atStart => exact ⟨0, Nat.zero_le _, rfl, by simp, Fr.refl _ _⟩
  case round =>
    obtain ⟨j, hj, rfl, hnot, hfr⟩ := hrel
    have HN := Lib.hid hnot
    clear hnot
    by_cases hlt : j < ks.length
    · rcases HV.out with ⟨_, h0⟩ | ⟨g, he, hway⟩
      · rw [h0] at hlt; exact absurd hlt (by simp)
      · simp only [Value.slice.injEq] at he
        obtain ⟨rfl, _⟩ := he
        obtain ⟨vp, vg, c0, c1, c2, hw⟩ := hway j hlt
        have b0 := World.block_lt_of_cell? w1 _ c0
        have d0 := (hfr.cell b0 (fun e => e)).trans c0
        have d1 := (hfr.cell (World.block_lt_of_cell? w1 _ c1) (fun e => e)).trans c1
        have d2 := (hfr.cell (World.block_lt_of_cell? w1 _ c2) (fun e => e)).trans c2
        clear c0 c1 c2 b0 hway
        have HM := Lib.hid (List.getElem_mem hlt)
        have HT := Lib.hid (fun h => notin_take_succ hlt HN.out h)
        have hwr := hw.fr hfr
        clear hw
        generalize ks[j] = m at *
        obtain ⟨Fp, Fg, gp, gg, rfl, rfl, hcf, hcg, hput, hget⟩ := hwr
        have HG := Lib.hid hget
        clear hput hget hcf
        have hW := (Fr.refl Non wr).alloc (.cells #[.int .i64 m, .func (.func Fp) #[] #[ptr gp], .func (.func Fg) #[] #[ptr gg]] 142)
        have HW := Lib.hid hW
        clear hW
        by_cases hm : m = k
        · subst hm
          clear HT HN
          go_wp2_with fail
          refine (HG.out _ v b n HW.out (HB.out.non ((HF1.out.trans hfr).trans HW.out)) (fun q hq => Nat.lt_of_lt_of_le (HL.out q hq) ((HF1.out.trans hfr).trans HW.out).size) hl hn).mono ?_
          rintro e w5 ⟨hG, hf5⟩
          have HF5 := Lib.hid (((HF1.out.trans hfr).trans HW.out).trans hf5)
          rcases (hG.mono (((HF1.out.trans hfr).trans HW.out).size)) with ⟨h1, u, l, rfl, h2⟩ | ⟨l, u, h1, rfl, h2⟩
          · have HE := Lib.hid (readC_none (ty := ty) h1)
            have HU := Lib.hid h2
            clear h1 h2 hG hf5
            go_wp2_with fail
            go_ret2
            exact ⟨.inl ⟨HE.out, _, _, rfl, HU.out⟩, HF5.out⟩
          · have hll := (wayG_is h1).2.1
            have HU := Lib.hid h2
            have HE := Lib.hid (HY.out HM.out l h1)
            have HE2 := Lib.hid (readC_bad (ty := ty) h1)
            have HC := Lib.hid (mayL_any ty false u l w5 h2.cs (by omega))
            clear h1 h2 hG hf5
            go_wp2_with fail
            refine HC.out.mono ?_
            rintro e w6 ⟨rfl, hf6⟩
            have HF6 := Lib.hid (HF5.out.trans hf6)
            have HU6 := Lib.hid (HU.out.non hf6)
            clear hf6
            cases ha : l.all (mayC ty false)
            · have HE3 := Lib.hid (HE2.out ha)
              go_wp2_with fail
              go_ret2
              exact ⟨.inl ⟨HE3.out, _, _, rfl, HU6.out⟩, HF6.out⟩
            · have HE3 := Lib.hid (HE.out ha)
              go_wp2_with fail
              go_ret2
              exact ⟨.inr ⟨_, _, HE3.out, rfl, HU6.out⟩, HF6.out⟩
        · have e0 : ((m : Int) == (k : Int)) = false := by simp; omega
          have HT2 := Lib.hid (HT.out hm)
          clear hm HT HN HM
          have HF := Lib.hid (hfr.trans HW.out)
          go_wp2_with fail
          go_roundw
          case rel => exact ⟨j + 1, by omega, by go_num, HT2.out, HF.out⟩
          case measure => simp [intOf]; omega
    · obtain rfl : j = ks.length := by omega
      have hN := HN.out
      rw [List.take_length] at hN
      have HE := Lib.hid (HR.out hN)
      clear hN HR HN
      go_wp2
      go_ret2
      exact ⟨.inl ⟨HE.out, _, [], rfl, oc_nil _ _⟩, HF1.out.trans hfr⟩
end Go.Proofs.YtheefloegbkflaaGreatDoor


namespace Go.Proofs.YtheefloegbkflaaGreatDoor
set_option linter.unusedVariables false
set_option linter.unusedSimpArgs false
set_option maxRecDepth 100000
open Go.RowKit

theorem need_any (n : Nat) (w : World) (hn : n ≤ 9223372036854775807) :
    Calls Tryz.prog 110 #[.int .i64 n] w fun e w' => e = .returned (.int .i64 (need n : Nat)) ∧ w = w' := by
  by_cases h : n % 8 = 0
  · have HN := Lib.hid (show need n = n / 8 by unfold need; omega)
    have h' : decide (0 < (n : Int) % 8) = false := by simp; omega
    clear h
    go_enter Tryz.func110, Tryz.ntmps110
    go_wp2
    go_ret
    exact ⟨ret_int (by rw [HN.out]; omega), rfl⟩
  · have HN := Lib.hid (show need n = n / 8 + 1 by unfold need; omega)
    have h' : decide (0 < (n : Int) % 8) = true := by simp; omega
    clear h
    go_enter Tryz.func110, Tryz.ntmps110
    go_wp2
    go_ret
    exact ⟨ret_int (by rw [HN.out]; omega), rfl⟩

theorem or_low (q t : Nat) (ht : t < 8) (hq : q < 2 ^ t) : bits .or .u8 (q : Int) (2 ^ t % 256) = ((q + 2 ^ t : Nat) : Int) := by
  have all : ∀ t : Fin 8, ∀ q : Fin 128, q.1 < 2 ^ t.1 → bits .or .u8 (q.1 : Int) (2 ^ t.1 % 256) = ((q.1 + 2 ^ t.1 : Nat) : Int) := by decide +kernel
  have := pow8 ht
  exact all ⟨t, ht⟩ ⟨q, by omega⟩ hq
theorem or_lt8 (q t : Nat) (ht : t < 8) (hq : q < 2 ^ t) : q + 2 ^ t < 256 := by have := pow8 ht; omega

set_option maxHeartbeats 1000000 in
theorem pack_any (v : Value) (l : List Bool) (w : World) (hv : Vs tv w v l) (hl : l.length ≤ 1000000) :
    Calls Tryz.prog 58 #[v] w fun e w' => ∃ u, e = .returned u ∧ Own w' w.heap.size u (packB l) ∧ Fr Non w w' := by
  have HV := Lib.hid hv
  obtain ⟨A, c, rfl, hlc, hn, hcell⟩ := hv
  have HC := Lib.hid hcell
  have HN := Lib.hid hn
  have hnb : need l.length ≤ l.length := by unfold need; omega
  clear hcell hn
  go_enter Tryz.func58, Tryz.ntmps58
  go_wp2_with fail
  refine (need_any l.length w (by omega)).mono ?_
  rintro e w' ⟨rfl, rfl⟩
  go_wp2_with (at_make; refine wpList_mkfullG el_u8 (f := bv) (0 : UInt8) rfl rfl _ _ rfl _ _ _ _ (need l.length) rfl rfl rfl rfl (by omega) ?_; intro w1 hown1 hfr1)
  go_loopw [13] (fun i wr => ∃ j : Nat, j ≤ need l.length ∧ i = .int .i64 j ∧ Ow bv 5 wr w.heap.size (.slice (some ⟨w.heap.size, 0, none⟩) (need l.length) (need l.length)) (pk l (8 * j)) ∧ Fr Non w wr) (fun i _ => need l.length - (intOf i).toNat)
  case atStart => exact ⟨0, Nat.zero_le _, rfl, by rw [Nat.mul_zero, pk_zero]; exact hown1, hfr1⟩
  case round =>
    obtain ⟨j, hj, rfl, hown, hfr⟩ := hrel
    by_cases hlt : j < need l.length
    · have h8 : 8 * j < l.length := by unfold need at hlt; omega
      obtain ⟨A', c', hrun, hbs, hob⟩ := slice_loG el_bool A l.length c (8 * j) .i64 ((j : Int) * 8) (by push_cast; omega) (by omega) hlc
      have HV' := Lib.hid (hbs tv w l rfl HV.out)
      clear hbs
      have HF := Lib.hid hfr
      have key : ∀ t, t < 8 → t < l.length - 8 * j → ∃ a, A' = some a ∧ w.cell? (a.add t) = some (tv (l.getD (8 * j + t) false)) := by
        intro t _ ht
        obtain ⟨a, rfl, _, _, hc⟩ := HV'.out.addr (by omega)
        refine ⟨a, rfl, ?_⟩
        rw [hc t (by simp; omega)]
        simp [List.getD_eq_getElem?_getD, show 8 * j + t < l.length by omega]
      have HK := Lib.hid key
      clear key
      obtain ⟨m, hm8, hml, hm1, hm⟩ : ∃ m, m ≤ 8 ∧ m ≤ l.length - 8 * j ∧ 0 < m ∧ (m = 8 ∨ m = l.length - 8 * j) := by
        by_cases h7 : 8 ≤ l.length - 8 * j
        · exact ⟨8, by omega, by omega, by omega, .inl rfl⟩
        · exact ⟨l.length - 8 * j, by omega, by omega, by omega, .inr rfl⟩
      have hnext : pk l (8 * j + m) = pk l (8 * (j + 1)) := by
        rcases hm with rfl | rfl
        · rw [show 8 * (j + 1) = 8 * j + 8 by omega]
        · by_cases h : l.length = 8 * (j + 1)
          · congr 1; omega
          · rw [pk_all l (show l.length ≤ 8 * j + (l.length - 8 * j) by omega)]
            by_cases h2 : l.length ≤ 8 * (j + 1)
            · rw [pk_all l h2]
            · omega
      have HX := Lib.hid hnext
      clear hnext
      have hmi : min 8 (l.length - 8 * j) ≤ m := by omega
      have hme := Lib.hid hm
      clear hm
      by_cases h7 : 8 ≤ l.length - 8 * j
      all_goals
        go_wp2
        go_loopw [23] (fun i wr => ∃ t : Nat, t ≤ m ∧ i = .int .i64 t ∧ Ow bv 5 wr w.heap.size (.slice (some ⟨w.heap.size, 0, none⟩) (need l.length) (need l.length)) (pk l (8 * j + t)) ∧ Fr Non w wr) (fun i _ => 8 - (intOf i).toNat)
        case atStart => exact ⟨0, Nat.zero_le _, rfl, hown, hfr⟩
        case round =>
          obtain ⟨t, ht, rfl, hown, hfr⟩ := hrel
          have hmf := hme.out
          by_cases hlt : t < m
          · have h8 : 8 * j + t < l.length := by omega
            obtain ⟨a, rfl, hc0⟩ := HK.out t (by omega) (by omega)
            have hq := hown.cell (pk_length _ _).symm j _ (by have := pk_at l h8; rwa [show (8 * j + t) / 8 = j by omega] at this)
            have hfz := hown.frozen (pk_length _ _).symm j
            have hql := pkn_lt l h8
            rw [show (8 * j + t) / 8 = j by omega, show (8 * j + t) % 8 = t by omega] at hql
            have hor := or_low _ t (by omega) hql
            have hys := pk_yes l h8
            have hno := pk_no l h8
            rw [show (8 * j + t) / 8 = j by omega, show (8 * j + t) % 8 = t by omega] at hys
            unfold bv at hq
            rw [small8 (pkn_lt8 _ _ _)] at hq
            have hc1 : wr.cell? (a.add t) = some (tv (l.getD (8 * j + t) false)) := (hfr.cell (World.block_lt_of_cell? w _ hc0) (fun e => e)).trans hc0
            have hge : l.getD (8 * j + t) false = l[8 * j + t] := by simp [List.getD_eq_getElem?_getD, h8]
            rw [hge] at hc1
            have HO := Lib.hid hown
            have HFr := Lib.hid hfr
            have hq9 := pkn_lt8 l (8 * j + t) j
            clear hown hfr hmf hown1 hfr1 HF hge hc0
            cases hb : l[8 * j + t] with
            | false =>
              rw [hb] at hc1
              unfold tv at hc1
              have HB := Lib.hid (hno hb)
              clear hb hno hys hor
              go_wp2
              go_roundw
              case rel => exact ⟨t + 1, by omega, by go_num, by rw [show 8 * j + (t + 1) = 8 * j + t + 1 by omega, HB.out]; exact HO.out, HFr.out⟩
              case measure => simp [intOf]; omega
            | true =>
              rw [hb] at hc1
              unfold tv at hc1
              have HB := Lib.hid (hys hb)
              have HR := Lib.hid hor
              clear hb hno hys hor
              generalize hQ : pkn l (8 * j + t) j = q at *
              have HQ := Lib.hid hQ
              clear hQ
              go_wp2
              go_region
              go_wp2
              go_roundw
              case rel =>
                refine ⟨t + 1, by omega, by go_num, ?_, (HFr.out.setCell (fun h => by simp at h) _).drew⟩
                rw [show 8 * j + (t + 1) = 8 * j + t + 1 by omega, HB.out, HR.out]
                have hs := (HO.out.store (pk_length _ _).symm j (q + 2 ^ t).toUInt8).drew
                unfold bv at hs
                rwa [small8 (or_lt8 q t (by omega) hql)] at hs
              case measure => simp [intOf]; omega
          · obtain rfl : t = m := by omega
            rw [HX.out] at hown
            clear hmf
            go_wp2
            go_roundw
            case rel => exact ⟨j + 1, by omega, by go_num, hown, hfr⟩
            case measure => simp [intOf]; omega
    · obtain rfl : j = need l.length := by omega
      rw [pk_all l (by unfold need; omega)] at hown
      go_wp2
      go_ret
      exact ⟨_, rfl, hown.own, hfr⟩

end Go.Proofs.YtheefloegbkflaaGreatDoor
