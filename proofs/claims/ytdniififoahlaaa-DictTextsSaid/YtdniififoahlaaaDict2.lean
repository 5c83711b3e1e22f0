/-
  Layer 8: the walk of the document's words.
-/
import Derived.Test.YtdniififoahlaaaDict1
import Derived.Test.YtdniififoahlaaaTight7
namespace Go.Proofs.Ytdniififoahlaaa
set_option linter.unusedVariables false
set_option linter.unusedSimpArgs false
set_option maxRecDepth 100000
open Go.RowKit

set_option maxHeartbeats 4000000 in
theorem rwords_any (v : Value) (l : List Tx) (w : World) (hv : Vs sv w v l) (hl : l.length ≤ 1000000) :
    Calls Try.prog 34 #[v] w fun e w' => ∃ u, e = .returned u ∧ Ow sv 9 w' w.heap.size u (uniq l) ∧ Fr Non w w' := by
  obtain ⟨A, c, rfl, hlc, hn, hcell⟩ := hv
  have HN := Lib.hid hn
  have HC := Lib.hid hcell
  clear hn hcell
  go_enter Try.func34, Try.ntmps34
  go_wp2
  have hown0 := ow_lit0 (f := sv) (E := 9) w w.heap.size w.heap.size rfl (Nat.le_refl _)
  have hf0 : Fr Non w (w.alloc (.cells #[] 9)) := (Fr.refl _ _).alloc _
  go_loopw [3, 4] (fun b i wr => ∃ k : Nat, k ≤ l.length ∧ i = .int .i64 k ∧ Ow sv 9 wr w.heap.size b (uniq (l.take k)) ∧ Fr Non w wr) (fun _ i _ => l.length - (intOf i).toNat)
  case atStart => exact ⟨0, Nat.zero_le _, rfl, hown0, hf0⟩
  case round =>
    clear hown0 hf0
    obtain ⟨k, hk, rfl, hown, hfr⟩ := hrel
    by_cases hlt : k < l.length
    · cases A with
      | none => have := HN.out rfl; omega
      | some a =>
        have g0 : w.cell? (a.add k) = some (sv l[k]) := HC.out a rfl k hlt
        have g1 : wr.cell? (a.add k) = some (sv l[k]) := (hfr.cell (World.block_lt_of_cell? w _ g0) (fun e => e)).trans g0
        unfold sv at g1 g0
        have HS := Lib.hid (uniq_take l k hlt)
        have HU := Lib.hid (uniq_length (l.take k))
        generalize l[k] = x at *
        generalize uniq (l.take k) = o at *
        have hol : o.length ≤ k := by have := HU.out; rw [List.length_take] at this; omega
        obtain ⟨A1, c1, hu3⟩ := hown.shape
        subst hu3
        have HW := Lib.hid (lowW_le o x)
        have HLt := Lib.hid (fun (i : Nat) (h1 : i < lowW o x) (h2 : i < o.length) => lowW_lt (o := o) (x := x) h1 h2)
        have HEn := Lib.hid (fun (h : lowW o x < o.length) => lowW_end h)
        go_wp2
        go_loopw [5] (fun i wx => ∃ j : Nat, j ≤ lowW o x ∧ i = .int .i64 j ∧ ∃ n, wx = wr.drewN n) (fun i _ => o.length - (intOf i).toNat)
        case atStart => exact ⟨0, Nat.zero_le _, rfl, 0, rfl⟩
        case round =>
          obtain ⟨j, hj, rfl, n, rfl⟩ := hrel
          have hjo : j ≤ o.length := Nat.le_trans hj HW.out
          by_cases hjl : j < lowW o x
          · have hjo2 : j < o.length := Nat.lt_of_lt_of_le hjl HW.out
            obtain ⟨b, rfl, _, _, hcb⟩ := hown.vs.addr (by omega : 0 < o.length)
            have g2 : wr.cell? (b.add j) = some (sv o[j]) := hcb j hjo2
            unfold sv at g2
            have h3 := HLt.out j hjl hjo2
            have HJ := Lib.hid hjl
            have h4 : Op.bytesLess o[j] x = true := by rw [bless]; simpa using h3
            clear hcb hjl h3
            generalize o[j] = y at *
            go_wp2
            go_quiet (fail)
            go_wp2
            go_roundw
            case rel => exact ⟨j + 1, by have := HJ.out; omega, by go_num, _, rfl⟩
            case measure => simp [intOf]; omega
          · have hj2 : j = lowW o x := by omega
            have hEn := HEn.out
            rw [← hj2] at hEn
            have HJ := Lib.hid hj2
            clear hjl hj2
            have hs1 := slice_hiG el_str A1 o.length c1 j .i64 (j : Int) rfl hjo (by obtain ⟨_, _, he, h, _⟩ := hown.vs; simp only [Value.slice.injEq] at he; omega)
            have hs2 := slice_loG el_str A1 o.length c1 j .i64 (j : Int) rfl hjo (by obtain ⟨_, _, he, h, _⟩ := hown.vs; simp only [Value.slice.injEq] at he; omega)
            obtain ⟨A2, c2, hr1, hv1, ho1⟩ := hs1
            obtain ⟨A3, c3, hr2, hv2, ho2⟩ := hs2
            by_cases hin : ∃ h : j < o.length, o[j] = x
            · obtain ⟨h1, h2⟩ := hin
              have HI := Lib.hid (show insW o x = o by
                unfold insW
                rw [← HJ.out, if_pos]
                rw [List.getElem?_eq_getElem h1, h2])
              obtain ⟨b, rfl, _, _, hcb⟩ := hown.vs.addr (by omega : 0 < o.length)
              have g2 : wr.cell? (b.add j) = some (sv o[j]) := hcb j h1
              unfold sv at g2
              rw [h2] at g2
              have h4 : Op.bytesLess x x = false := by rw [bless]; simp
              have h5 : (x == x) = true := by simp
              have HOw := Lib.hid hown
              have HFw := Lib.hid hfr
              clear hcb h2 hEn hr1 hr2 hv1 hv2 ho1 ho2 hown hfr
              go_wp2
              go_quiet (fail)
              go_wp2
              go_quiet (fail)
              go_wp2
              go_roundw
              case rel => exact ⟨k + 1, by omega, by go_num, by rw [HS.out, HI.out]; exact HOw.out, HFw.out.drewN _⟩
              case measure => simp [intOf]; omega
            · have hor : (∃ h : j < o.length, ¬ o[j] < x ∧ o[j] ≠ x) ∨ j = o.length := by
                rcases Nat.lt_or_ge j o.length with h | h
                · exact .inl ⟨h, hEn h, fun e => hin ⟨h, e⟩⟩
                · exact .inr (by omega)
              have HI := Lib.hid (show insW o x = o.take j ++ x :: o.drop j by
                unfold insW
                rw [← HJ.out, if_neg]
                intro e
                exact hin ⟨(List.getElem?_eq_some_iff.1 e).1, (List.getElem?_eq_some_iff.1 e).2⟩)
              have HR1 := Lib.hid hr1
              have HR2 := Lib.hid hr2
              have HV1 := Lib.hid (fun W h => hv1 sv W o rfl h)
              have HV2 := Lib.hid (fun W h => hv2 sv W o rfl h)
              have HO1 := Lib.hid ho1
              have HO2 := Lib.hid ho2
              clear hEn hin hr1 hr2 hv1 hv2 ho1 ho2
              have HOw := Lib.hid (fun n1 n2 n3 => (show Ow sv 9 (((wr.drewN n1).drewN n2).drewN n3).drew w.heap.size (.slice A1 o.length c1) o from hown))
              have HFw := Lib.hid (fun n1 n2 n3 => (((hfr.drewN n1).drewN n2).drewN n3).drew)
              have HCw := Lib.hid (fun n1 n2 n3 => (show (((wr.drewN n1).drewN n2).drewN n3).drew.cell? (a.add k) = some (.string ⟨x.toArray⟩) from g1))
              rcases hor with ⟨h1, h2, h3⟩ | hor
              focus
                obtain ⟨b, rfl, _, _, hcb⟩ := hown.vs.addr (by omega : 0 < o.length)
                have g2 : wr.cell? (b.add j) = some (sv o[j]) := hcb j h1
                unfold sv at g2
                have h4 : Op.bytesLess o[j] x = false := by rw [bless]; simpa using h2
                have h5 : (o[j] == x) = false := by rw [beq_eq_false_iff_ne]; exact h3
                clear h2 h3 hcb
                generalize o[j] = y at *
                go_wp2
                go_quiet (fail)
                go_wp2
                go_quiet (fail)
                go_wp2
              rotate_left
              focus
                have hd : decide (j < o.length) = false := by rw [hor]; simp
                have hd2 : decide ((j : Int) < o.length) = false := by rw [hor]; simp
                have HOR := Lib.hid hor
                clear hor
                go_wp2
                go_quiet (fail)
                go_wp2
                go_quiet (fail)
                go_wp2
              all_goals
                rename_i nq1
                obtain ⟨W, hW⟩ : ∃ W, ((wr.drewN n).drewN nq1).drewN nq = W := ⟨_, rfl⟩
                have hOw := HOw.out n nq1 nq
                have hFw := HFw.out n nq1 nq
                have cW := HCw.out n nq1 nq
                have hr1 := HR1.out
                have hr2 := HR2.out
                rw [hW] at hOw hFw cW ⊢
                replace cW := (show W.cell? (a.add k) = some (.string ⟨x.toArray⟩) from cW)
                have HOW := Lib.hid (show Ow sv 9 W w.heap.size _ o from hOw)
                clear hown hfr g1 g0 hW hOw
                have hWs : w.heap.size ≤ W.heap.size := hFw.size
                have fa : Fr Non W (W.alloc (.cells #[] 9)) := (Fr.refl _ _).alloc _
                have fx : Fr Non W (W.alloc (.cells #[.string ⟨x.toArray⟩] 9)) := (Fr.refl _ _).alloc _
                have fc : Fr Non W ((W.alloc (.cells #[] 9)).alloc (.cells #[.string ⟨x.toArray⟩] 9)) := ((Fr.refl _ _).alloc _).alloc _
                have fb : Fr Non W ((W.alloc (.cells #[.string ⟨x.toArray⟩] 9)).alloc (.cells #[] 9)) := ((Fr.refl _ _).alloc _).alloc _
                have oa : Ow sv 9 (W.alloc (.cells #[] 9)) W.heap.size (.slice (some ⟨W.heap.size, 0, none⟩) 0 0) [] := ow_lit0 W _ _ rfl (Nat.le_refl _)
                have oc : Ow sv 9 ((W.alloc (.cells #[] 9)).alloc (.cells #[.string ⟨x.toArray⟩] 9)) W.heap.size (.slice (some ⟨W.heap.size, 0, none⟩) 0 0) [] := oa.alloc _
                have ob : Ow sv 9 ((W.alloc (.cells #[.string ⟨x.toArray⟩] 9)).alloc (.cells #[] 9)) W.heap.size (.slice (some ⟨W.heap.size + 1, 0, none⟩) 0 0) [] := ow_lit0 (W.alloc (.cells #[.string ⟨x.toArray⟩] 9)) _ _ (by simp) (by omega)
                have xc : Vs sv ((W.alloc (.cells #[] 9)).alloc (.cells #[.string ⟨x.toArray⟩] 9)) (.slice (some ⟨W.heap.size + 1, 0, none⟩) 1 1) [x] := by
                  have := vs_row (f := sv) (W.alloc (.cells #[] 9)) [x] 9 (0, 0)
                  rwa [show (W.alloc (.cells #[] 9)).heap.size = W.heap.size + 1 by simp] at this
                have xb : Vs sv ((W.alloc (.cells #[.string ⟨x.toArray⟩] 9)).alloc (.cells #[] 9)) (.slice (some ⟨W.heap.size, 0, none⟩) 1 1) [x] := (vs_row (f := sv) W [x] 9 (0, 0)).non ((Fr.refl _ _).alloc _)
                have HZ1 : Hid (([] : List Tx).length + (o.take j).length < 1099511627776) := Lib.hid (by rw [List.length_take]; simp only [List.length_nil]; omega)
                have HZ2 : Hid (([] ++ o.take j).length + ([x] : List Tx).length < 1099511627776) := Lib.hid (by rw [List.length_append, List.length_take]; simp only [List.length_nil, List.length_cons]; omega)
                have HZ3 : Hid (([] ++ o.take j ++ [x]).length + (o.drop j).length < 1099511627776) := Lib.hid (by rw [List.length_append, List.length_append, List.length_take, List.length_drop]; simp only [List.length_nil, List.length_cons]; omega)
                have HOA := Lib.hid oa
                have HOB := Lib.hid ob
                have HOC := Lib.hid oc
                have HXB := Lib.hid xb.drew
                have HXC := Lib.hid xc.drew
                have HFW := Lib.hid hFw
                have HFA := Lib.hid fa.drew
                have HFB := Lib.hid fb.drew
                have HFC := Lib.hid fc.drew
                clear oa ob oc xb xc fa fb fc fx hFw
                go_region_held3 (fun W => W.cell? (a.add k) = some (.string ⟨x.toArray⟩)) (first | exact cW | exact cell_al (w := W) cW | exact cell_al (w := W.alloc (.cells #[] 9)) (cell_al (w := W) cW) | exact cell_al (w := W.alloc (.cells #[.string ⟨x.toArray⟩] 9)) (cell_al (w := W) cW) | exact q1 | exact cell_al q1 | exact q2 | exact q3 | fail) (first
                  | (refine step_appG el_str sv_one rfl (.tmp 45) (.tmp 48) rfl W.heap.size (.slice (some ⟨W.heap.size, 0, none⟩) 0 0) (.slice A2 j c2) [] (o.take j) rfl HOA.out rfl (HV1.out _ (HOW.out.vs.non HFA.out)) HZ1.out HFA.out.size ?_; intro v1 w1 own1 f1; have fW1 := HFA.out.fresh f1 (fun q hq => (HOA.out.lt q hq).1); have q1 := (fW1.cell (World.block_lt_of_cell? W _ cW) (fun e => e)).trans cW)
                  | (refine step_appG el_str sv_one rfl (.tmp 45) (.tmp 48) rfl W.heap.size (.slice (some ⟨W.heap.size + 1, 0, none⟩) 0 0) (.slice A2 j c2) [] (o.take j) rfl HOB.out rfl (HV1.out _ (HOW.out.vs.non HFB.out)) HZ1.out HFB.out.size ?_; intro v1 w1 own1 f1; have fW1 := HFB.out.fresh f1 (fun q hq => (HOB.out.lt q hq).1); have q1 := (fW1.cell (World.block_lt_of_cell? W _ cW) (fun e => e)).trans cW; have x1 := HXB.out.fr f1 (fun q hq e => by simp [Value.ownBlock] at hq e; omega))
                  | (refine step_appG el_str sv_one rfl (.tmp 45) (.tmp 48) rfl W.heap.size (.slice (some ⟨W.heap.size, 0, none⟩) 0 0) (.slice A2 j c2) [] (o.take j) rfl HOC.out rfl (HV1.out _ (HOW.out.vs.non HFC.out)) HZ1.out HFC.out.size ?_; intro v1 w1 own1 f1; have fW1 := HFC.out.fresh f1 (fun q hq => (HOC.out.lt q hq).1); have q1 := (fW1.cell (World.block_lt_of_cell? W _ cW) (fun e => e)).trans cW; have x1 := HXC.out.fr f1 (fun q hq e => by simp [Value.ownBlock] at hq e; omega))
                  | (refine step_appG el_str sv_one rfl (.tmp 49) (.tmp 54) rfl W.heap.size v1 _ ([] ++ o.take j) [x] rfl own1 rfl x1 HZ2.out fW1.size ?_; intro v2 w2 own2 f2; have fW2 := fW1.fresh f2 (fun q hq => (own1.lt q hq).1); have q2 := (fW2.cell (World.block_lt_of_cell? W _ cW) (fun e => e)).trans cW)
                  | (refine step_appG el_str sv_one rfl (.tmp 49) (.tmp 54) rfl W.heap.size v1 (.slice (some ⟨w1.heap.size, 0, none⟩) 1 1) ([] ++ o.take j) [x] rfl (own1.alloc _) rfl (vs_row (f := sv) w1 [x] 9 (0, 0)) HZ2.out (fW1.alloc (.cells #[.string ⟨x.toArray⟩] 9)).size ?_; intro v2 w2 own2 f2; have fW2 := (fW1.alloc (.cells #[.string ⟨x.toArray⟩] 9)).fresh f2 (fun q hq => (own1.lt q hq).1); have q2 := (fW2.cell (World.block_lt_of_cell? W _ cW) (fun e => e)).trans cW)
                  | (refine step_appG el_str sv_one rfl (.tmp 55) (.tmp 58) rfl W.heap.size v2 (.slice A3 (o.length - j) c3) ([] ++ o.take j ++ [x]) (o.drop j) rfl own2 rfl (HV2.out _ (HOW.out.vs.non fW2)) HZ3.out fW2.size ?_; intro v3 w3 own3 f3; have fW3 := fW2.fresh f3 (fun q hq => (own2.lt q hq).1); have q3 := (fW3.cell (World.block_lt_of_cell? W _ cW) (fun e => e)).trans cW))
                all_goals
                  go_wp2
                  go_roundw
                  case rel =>
                    have hfin : Ow sv 9 w3 w.heap.size v3 (o.take j ++ x :: o.drop j) := by
                      have := own3.mono (B' := w.heap.size) hWs
                      simpa using this
                    exact ⟨k + 1, by omega, by go_num, by rw [HS.out, HI.out]; exact hfin, Fr.trans (show Fr Non w W from ⟨HFW.out.os, HFW.out.tape, HFW.out.output, HFW.out.size, HFW.out.block⟩) fW3⟩
                  case measure => simp [intOf]; omega
    · have hT : l.take k = l := List.take_of_length_le (by omega)
      rw [hT] at hown
      clear hT
      go_wp2
      go_ret
      exact ⟨_, rfl, hown, hfr⟩
end Go.Proofs.Ytdniififoahlaaa
