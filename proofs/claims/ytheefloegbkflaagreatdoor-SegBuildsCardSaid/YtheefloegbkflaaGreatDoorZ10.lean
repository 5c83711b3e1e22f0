/-
  Joined: Layer 10: the document's Put. · Layer 11: the zone of a list's cells, the document's. · Layer 13: rows as a segment, the document's. · Layer 13: rows compared; which arguments are small; the example; the walk of the law on what is built. · Layer 13: the walk of the law on what is built. · Arguments of layer 2's laws, opened: a number of 32 bits, four bytes by value, a slice of slices of bytes; and the table that the program lays. · Arguments opened: a cell by value; a value of each type. · Arguments opened: a slice of cells. · Arguments opened: a slice of columns. · Arguments opened: a slice of slices of cells.
-/
import Derived.Deep.RegionHeld3
import Derived.Test.YtheefloegbkflaaGreatDoorZ6
import Derived.Test.YtheefloegbkflaaGreatDoorZ9
import Derived.Test.YtheefloegbkflaaGreatDoorZ4
import Derived.Test.YtheefloegbkflaaGreatDoorZ7
import Derived.Test.YtheefloegbkflaaGreatDoorZ8
import Derived.Test.YtheefloegbkflaaGreatDoorZ3
import Derived.Deep.Matrix
import Derived.LaidMore
import Derived.Lib.LaidTab
import Derived.Laws.IdiomArrays
import Derived.Lib.SmallJoins
import Derived.Test.YtheefloegbkflaaGreatDoorZ1

namespace Go.Proofs.YtheefloegbkflaaGreatDoor
set_option linter.unusedVariables false
set_option linter.unusedSimpArgs false
set_option maxRecDepth 100000
open Go.RowKit

set_option maxHeartbeats 2000000 in
theorem rints_cl (v : Value) (l : List Int) (w : World) (hv : Vs iv w v l) (hl : l.length ≤ 1000000) (hx : ∀ x ∈ l, I64 x) :
    Calls Tryz.prog 120 #[v] w fun e w' => ∃ u, e = .returned u ∧ Own w' w.heap.size u (onesN l) ∧ Fr Non w w' := by
  obtain ⟨A, c, rfl, hlc, hn, hcell⟩ := hv
  have HC := Lib.hid hcell
  have HN := Lib.hid hn
  have HX := Lib.hid hx
  clear hcell hn hx
  go_enter Tryz.func120, Tryz.ntmps120
  go_wp2
  have hO0 : Own (w.alloc (.cells #[] 5)) w.heap.size (.slice (some ⟨w.heap.size, 0, none⟩) 0 0) [] := own_lit0 w _ _ rfl (Nat.le_refl _)
  have hf0 := (Fr.refl Non w).alloc (.cells #[] 5)
  go_loopw [3, 4] (fun b i wr => ∃ (k : Nat), k ≤ l.length ∧ i = .int .i64 k ∧ Own wr w.heap.size b (onesN (l.take k)) ∧ Fr Non w wr) (fun _ i _ => l.length - (intOf i).toNat)
  case atStart => exact ⟨0, Nat.zero_le _, rfl, hO0, hf0⟩
  case round =>
    clear hO0 hf0
    obtain ⟨k, hk, rfl, hown, hfr⟩ := hrel
    by_cases hlt : k < l.length
    · cases A with
      | none => have := HN.out rfl; omega
      | some a =>
        have hc0 := (hfr.cell (World.block_lt_of_cell? w _ (HC.out a rfl k hlt)) (fun e => e)).trans (HC.out a rfl k hlt)
        unfold iv at hc0
        have HT := Lib.hid (onesN_take l k hlt)
        have hpl := onesN_len (l.take k) fun x hx => HX.out x (List.mem_of_mem_take hx)
        have hlk : (l.take k).length = k := by rw [List.length_take]; omega
        have hx64 := HX.out l[k] (List.getElem_mem hlt)
        rw [hlk] at hpl
        clear hlk
        generalize l[k] = x at *
        generalize onesN (l.take k) = bs at *
        have HO := Lib.hid hown
        clear hown
        have H64 := Lib.hid hx64
        clear hx64
        go_wp2_with fail
        refine (rint_any x wr H64.out.1 H64.out.2).mono ?_
        rintro e w5 ⟨v5, rfl, hown5, hf5⟩
        have hz10 := uvarint_zig10 H64.out
        have hfr5 := hfr.trans hf5
        have hB5 := hfr5.size
        have hown5' := HO.out.non hf5
        generalize Lib.uvarint (zig x) = y at *
        go_wp2_with (at_builtin; refine wpList_app rfl (.tmp 12) (.tmp 17) rfl w.heap.size _ v5 bs y rfl hown5' rfl hown5.bs (by omega) hB5 ?_; intro v6 w6_ hown6 hf6)
        have hfr6 := hfr5.fresh hf6 (fun k hk => (hown5'.lt k hk).1)
        go_roundw
        case rel => exact ⟨k + 1, by omega, by go_num, by rw [HT.out]; exact hown6, hfr6⟩
        case measure => simp [intOf]; omega
    · obtain rfl : k = l.length := by omega
      rw [List.take_length] at hown
      go_wp2
      go_ret
      exact ⟨_, rfl, hown, hfr⟩

theorem i64_ne_str : 2 ≠ 9 := by decide
theorem ow_kinds {α β : Type} {f : α → Value} {h : β → Value} {E E' : TypeId} {w : World} {B B' : Nat} {v u : Value} {l : List α} {m : List β} (h1 : Ow f E w B v l) (h2 : Ow h E' w B' u m) (hne : E ≠ E') : ∀ k, v.ownBlock = some k → u.ownBlock ≠ some k := by
  intro k hk hk'
  obtain ⟨c1, e1⟩ := h1.kind k hk
  obtain ⟨c2, e2⟩ := h2.kind k hk'
  rw [e1] at e2
  simp at e2
  exact hne e2.2
theorem map_take_snoc {α β : Type} (f : α → β) (l : List α) (k : Nat) (h : k < l.length) : (l.take (k + 1)).map f = (l.take k).map f ++ [f l[k]] := by
  rw [List.take_succ_eq_append_getElem h, List.map_append]; rfl

set_option maxHeartbeats 4000000 in
theorem rway_cl (n : Nat) (v : Value) (l : List Cl) (w : World) (hv : Cs w v l) (hn1 : 1 ≤ n) (hn6 : n ≤ 6) (hl : l.length ≤ 4096) (hx : OkL l) :
    Calls Tryz.prog 67 #[.int .i64 n, v] w fun e w' => ∃ u, e = .returned u ∧ Own w' w.heap.size u (wayB n l) ∧ Fr Non w w' := by
  obtain ⟨A, c, rfl, hlc, hn, hcell⟩ := hv
  have HC := Lib.hid hcell
  have HN := Lib.hid hn
  have HX := Lib.hid hx
  clear hcell hn hx
  go_enter Tryz.func67, Tryz.ntmps67
  go_wp2
  have hO1 : Ow iv 2 ((w.alloc (.cells #[] 2)).alloc (.cells #[] 9)) w.heap.size (.slice (some ⟨w.heap.size, 0, none⟩) 0 0) ((l.take 0).map Cl.num) := (ow_lit0 (f := iv) (E := 2) w _ _ rfl (Nat.le_refl _)).alloc _
  have hO2 : Ow sv 9 ((w.alloc (.cells #[] 2)).alloc (.cells #[] 9)) w.heap.size (.slice (some ⟨w.heap.size + 1, 0, none⟩) 0 0) ((l.take 0).map Cl.txt) := ow_lit0 (f := sv) (E := 9) _ _ _ (by simp) (by omega)
  have hf0 := ((Fr.refl Non w).alloc (.cells #[] 2)).alloc (.cells #[] 9)
  go_loopw [5, 6, 7] (fun x s i wr => ∃ (k : Nat), k ≤ l.length ∧ i = .int .i64 k ∧ Ow iv 2 wr w.heap.size x ((l.take k).map Cl.num) ∧ Ow sv 9 wr w.heap.size s ((l.take k).map Cl.txt) ∧ Fr Non w wr) (fun _ _ i _ => l.length - (intOf i).toNat)
  case atStart => exact ⟨0, Nat.zero_le _, rfl, hO1, hO2, hf0⟩
  case round =>
    clear hO1 hO2 hf0
    obtain ⟨k, hk, rfl, hO1, hO2, hfr⟩ := hrel
    by_cases hlt : k < l.length
    · cases A with
      | none => have := HN.out rfl; omega
      | some a =>
        obtain ⟨hc0, hc1, hc2⟩ := (hfr.at3 (HC.out a rfl k hlt)).lit
        have H1 := Lib.hid (map_take_snoc Cl.num l k hlt)
        have H2 := Lib.hid (map_take_snoc Cl.txt l k hlt)
        have hl1 : ((l.take k).map Cl.num).length = k := by rw [List.length_map, List.length_take]; omega
        have hl2 : ((l.take k).map Cl.txt).length = k := by rw [List.length_map, List.length_take]; omega
        have HL1 := Lib.hid hl1
        have HL2 := Lib.hid hl2
        clear hl1 hl2
        generalize (l.take k).map Cl.num = m1 at *
        generalize (l.take k).map Cl.txt = m2 at *
        have hsz := hfr.size
        have hat := hfr.at3 (HC.out a rfl k hlt)
        have hblk : (a.add (k * 3)).block < wr.heap.size := World.block_lt_of_cell? wr _ hat.c0
        have hbw : (a.add (k * 3)).block < w.heap.size := World.block_lt_of_cell? w _ (HC.out a rfl k hlt).c0
        have HAt := Lib.hid hat
        have HO1 := Lib.hid hO1
        have HO2 := Lib.hid hO2
        have HF := Lib.hid hfr
        clear hat hO1 hO2 hfr
        generalize l[k] = y at *
        go_wp2_with (first | (at_builtin; refine wpList_pushG el_i64 iv_oneC rfl (.tmp 16) (.tmp 22) rfl w.heap.size _ m1 rfl HO1.out _ y.num rfl rfl (by have := HL1.out; omega) hsz ?_; intro v6 w6 hown6 hf6; have hO2' := HO2.out.fr hf6 (fun q hq e => ow_kinds HO1.out HO2.out i64_ne_str q e hq); have hat6 : At3 w6 (a.add (k * 3)) y := HAt.out.keep (hf6.block _ hblk (fun e => by have := (HO1.out.lt _ e).1; omega)); have HF6 := Lib.hid (HF.out.fresh hf6 (fun q hq => (HO1.out.lt q hq).1)); obtain ⟨hd0, hd1, hd2⟩ := hat6.lit; have hsz6 := HF6.out.size; have HO1' := Lib.hid hown6; have HO2' := Lib.hid hO2'; clear hat6 hown6 hO2' hf6) | (at_builtin; refine wpList_pushG el_str sv_one rfl (.tmp 24) (.tmp 30) rfl w.heap.size _ m2 rfl HO2'.out _ y.txt rfl rfl (by have := HL2.out; omega) hsz6 ?_; intro v7 w7 hown7 hf7))
        have hO1'' := HO1'.out.fr hf7 (fun q hq e => ow_kinds HO1'.out HO2'.out i64_ne_str q hq e)
        have hf8 := HF6.out.fresh hf7 (fun q hq => (HO2'.out.lt q hq).1)
        go_roundw
        case rel => exact ⟨k + 1, by omega, by go_num, by rw [H1.out]; exact hO1'', by rw [H2.out]; exact hown7, hf8⟩
        case measure => simp [intOf]; omega
    · obtain rfl : k = l.length := by omega
      rw [List.take_length] at hO1 hO2
      have HO1 := Lib.hid hO1.vs
      have HO2 := Lib.hid hO2.vs
      have HF := Lib.hid hfr
      have hsz := hfr.size
      clear hO1 hO2 hfr HC HN
      have hi64 : Hid (∀ x ∈ l.map Cl.num, I64 x) := Lib.hid fun x hx => by
        obtain ⟨c, hc, rfl⟩ := List.mem_map.1 hx
        exact (HX.out c hc).1
      have htx : Hid (∀ x ∈ l.map Cl.txt, x.length ≤ 1000) := Lib.hid fun x hx => by
        obtain ⟨c, hc, rfl⟩ := List.mem_map.1 hx
        exact (HX.out c hc).2
      rcases (show n = 1 ∨ n = 2 ∨ n = 3 ∨ n = 4 ∨ n = 5 ∨ n = 6 by omega) with rfl | rfl | rfl | rfl | rfl | rfl
      · have HW : Hid (wayB 1 l = onesN (l.map Cl.num)) := Lib.hid rfl
        have HP := Lib.hid (rints_cl _ _ wr HO1.out (by rw [List.length_map]; omega) hi64.out)
        go_wp2_with fail
        refine HP.out.mono ?_
        rintro e w2 ⟨u, rfl, hu, f2⟩
        go_wp2
        go_ret
        rw [HW.out]
        exact ⟨_, rfl, hu.mono hsz, HF.out.trans f2⟩
      · have HW : Hid (wayB 2 l = putR (l.map Cl.num)) := Lib.hid rfl
        have HP := Lib.hid (rrnput_any _ _ wr HO1.out (by rw [List.length_map]; omega) hi64.out)
        go_wp2_with fail
        refine HP.out.mono ?_
        rintro e w2 ⟨u, rfl, hu, f2⟩
        go_wp2
        go_ret
        rw [HW.out]
        exact ⟨_, rfl, hu.mono hsz, HF.out.trans f2⟩
      · have HW : Hid (wayB 3 l = putD 0 (l.map Cl.num)) := Lib.hid rfl
        have HP := Lib.hid (rdput_any _ _ wr HO1.out (by rw [List.length_map]; omega))
        go_wp2_with fail
        refine HP.out.mono ?_
        rintro e w2 ⟨u, rfl, hu, f2⟩
        go_wp2
        go_ret
        rw [HW.out]
        exact ⟨_, rfl, hu.mono hsz, HF.out.trans f2⟩
      · have HW : Hid (wayB 4 l = putT (l.map Cl.num)) := Lib.hid rfl
        have HP := Lib.hid (rtput_any _ _ wr HO1.out hi64.out (by rw [List.length_map]; omega))
        go_wp2_with fail
        refine HP.out.mono ?_
        rintro e w2 ⟨u, rfl, hu, f2⟩
        go_wp2
        go_ret
        rw [HW.out]
        exact ⟨_, rfl, hu.mono hsz, HF.out.trans f2⟩
      · have HW : Hid (wayB 5 l = plainB (l.map Cl.txt)) := Lib.hid rfl
        have hpb := plainB_bound (l := l.map Cl.txt) (B := 1000) htx.out (by unfold two64; omega)
        rw [List.length_map] at hpb
        have HP := Lib.hid (rplain_any _ _ wr HO2.out (by rw [List.length_map]; omega) (fun x hx => by have := htx.out x hx; omega) (by omega))
        clear hpb
        go_wp2_with fail
        refine HP.out.mono ?_
        rintro e w2 ⟨u, rfl, hu, f2⟩
        go_wp2
        go_ret
        rw [HW.out]
        exact ⟨_, rfl, hu.mono hsz, HF.out.trans f2⟩
      · have HW : Hid (wayB 6 l = dictB (l.map Cl.txt)) := Lib.hid rfl
        have hpb := plainB_bound (l := uniq (l.map Cl.txt)) (B := 1000) (fun x hx => htx.out x ((uniq_mem _ _).1 hx)) (by unfold two64; omega)
        have hul := uniq_length (l.map Cl.txt)
        rw [List.length_map] at hul
        have HP := Lib.hid (rxput_any _ _ wr HO2.out (by rw [List.length_map]; omega) (fun x hx => by have := htx.out x hx; omega) (by omega))
        clear hpb hul
        go_wp2_with fail
        refine HP.out.mono ?_
        rintro e w2 ⟨u, rfl, hu, f2⟩
        go_wp2
        go_ret
        rw [HW.out]
        exact ⟨_, rfl, hu.mono hsz, HF.out.trans f2⟩

/-! ### split, Put -/

set_option maxHeartbeats 4000000 in
theorem rsplit_cl (ty : Int) (v : Value) (l : List Cl) (w : World) (hv : Cs w v l) (hm : l.all (mayC ty true) = true) (hl : l.length ≤ 4096) :
    Calls Tryz.prog 66 #[.int .i64 ty, v] w fun e w' => ∃ u o, e = .returned (.tuple #[u, o, .bool true]) ∧ Ow tv 4 w' w.heap.size u (nullsC l) ∧ Oc w' w.heap.size o (othersC l) ∧ Fr Non w w' := by
  obtain ⟨A, c, rfl, hlc, hn, hcell⟩ := hv
  have HC := Lib.hid hcell
  have HN := Lib.hid hn
  have HM := Lib.hid (List.all_eq_true.1 hm)
  clear hcell hn hm
  go_enter Tryz.func66, Tryz.ntmps66
  go_wp2
  generalize hg : w.heap.size = g at *
  have hO1 : Ow tv 4 ((w.alloc (.cells #[] 4)).alloc (.cells #[] 54)) g (.slice (some ⟨g, 0, none⟩) 0 0) (nullsC (l.take 0)) := (ow_lit0 (f := tv) (E := 4) w g g hg.symm (Nat.le_refl _)).alloc _
  have hO2 : Oc ((w.alloc (.cells #[] 4)).alloc (.cells #[] 54)) g (.slice (some ⟨g + 1, 0, none⟩) 0 0) (othersC (l.take 0)) := oc_lit0 _ g (g + 1) (by simp [hg]) (by omega)
  have hf0 := ((Fr.refl Non w).alloc (.cells #[] 4)).alloc (.cells #[] 54)
  have HG := Lib.hid hg
  clear hg
  go_loopw [7, 8, 9] (fun x o i wr => ∃ (k : Nat), k ≤ l.length ∧ i = .int .i64 k ∧ Ow tv 4 wr g x (nullsC (l.take k)) ∧ Oc wr g o (othersC (l.take k)) ∧ Fr Non w wr) (fun _ _ i _ => l.length - (intOf i).toNat)
  case atStart => exact ⟨0, Nat.zero_le _, rfl, hO1, hO2, hf0⟩
  case round =>
    clear hO1 hO2 hf0
    obtain ⟨k, hk, rfl, hO1, hO2, hfr⟩ := hrel
    by_cases hlt : k < l.length
    · cases A with
      | none => have := HN.out rfl; omega
      | some a =>
        obtain ⟨hc0, hc1, hc2⟩ := (hfr.at3 (HC.out a rfl k hlt)).lit
        have hat0 := HC.out a rfl k hlt
        have H1 := Lib.hid (nullsC_take l k hlt)
        have HY := Lib.hid (othersC_yes l hlt)
        have HX := Lib.hid (othersC_no l hlt)
        have hl1 : (nullsC (l.take k)).length = k := nullsC_len l (by omega)
        have hl2 := othersC_le (l.take k)
        rw [List.length_take, Nat.min_eq_left hk] at hl2
        have hmk := HM.out l[k] (List.getElem_mem hlt)
        have HL1 := Lib.hid hl1
        have HL2 := Lib.hid hl2
        have HAt := Lib.hid hat0
        have HO1 := Lib.hid hO1
        have HO2 := Lib.hid hO2
        have HF := Lib.hid hfr
        clear hl1 hl2 hat0 hO1 hO2 hfr
        generalize nullsC (l.take k) = m1 at *
        generalize othersC (l.take k) = m2 at *
        generalize l[k] = y at *
        have HMay := Lib.hid (rmay_any ty true y wr)
        rw [hmk] at HMay
        unfold clV clC at HMay
        clear hmk
        obtain ⟨yn, yi, yt⟩ := y
        dsimp only at hc0 hc1 hc2 HMay HY HX H1
        go_wp2_with fail
        refine HMay.out.mono ?_
        rintro e w4 ⟨rfl, hf4⟩
        have HF4 := Lib.hid (HF.out.trans hf4)
        have HO14 := Lib.hid (HO1.out.non hf4)
        have HO24 := Lib.hid (HO2.out.non hf4)
        have hat4 := HF4.out.at3 HAt.out
        have hblk : (a.add (k * 3)).block < w4.heap.size := World.block_lt_of_cell? w4 _ hat4.c0
        have hbw : (a.add (k * 3)).block < w.heap.size := World.block_lt_of_cell? w _ HAt.out.c0
        obtain ⟨hd0, hd1, hd2⟩ := hat4.lit
        have HAt4 := Lib.hid hat4
        have hsz := HF4.out.size
        have hgs : g ≤ w4.heap.size := by have := HG.out; omega
        clear hc0 hc1 hc2 hf4 hat4 HO1 HO2 HF HMay
        dsimp only at hd0 hd1 hd2
        cases yn with
        | true =>
          have HX2 := Lib.hid (HX.out rfl)
          clear HX HY
          go_wp2_with (at_builtin; refine wpList_pushG el_bool tv_one rfl (.tmp 25) (.tmp 31) rfl g _ m1 rfl HO14.out _ true rfl rfl (by have := HL1.out; omega) hgs ?_; intro v6 w6 hown6 hf6; have hO26 := HO24.out.fr hf6 (fun q hq e => oc_other HO24.out HO14.out cell_ne_bool q hq e); have hat6 : At3 w6 (a.add (k * 3)) ⟨true, yi, yt⟩ := HAt4.out.keep (hf6.block _ hblk (fun e => by have := (HO14.out.lt _ e).1; have := HG.out; omega)); have HF6 := Lib.hid (HF4.out.fresh hf6 (fun q hq => by have := (HO14.out.lt q hq).1; have := HG.out; omega)); have HO16 := Lib.hid hown6; have HO26 := Lib.hid hO26; obtain ⟨he0, he1, he2⟩ := hat6.lit; have hsz6 := HF6.out.size; have hgs6 : g ≤ w6.heap.size := (by have := HG.out; omega); dsimp only at he0 he1 he2; clear hat6 hO26 hown6 hf6)
          go_roundw
          case rel => exact ⟨k + 1, by omega, by go_num, by rw [H1.out]; exact HO16.out, by rw [HX2.out]; exact HO26.out, HF6.out⟩
          case measure => simp [intOf]; omega
        | false =>
          have HY2 := Lib.hid (HY.out rfl)
          clear HX HY
          go_wp2_with (first | (at_builtin; refine wpList_pushG el_bool tv_one rfl (.tmp 25) (.tmp 31) rfl g _ m1 rfl HO14.out _ false rfl rfl (by have := HL1.out; omega) hgs ?_; intro v6 w6 hown6 hf6; have hO26 := HO24.out.fr hf6 (fun q hq e => oc_other HO24.out HO14.out cell_ne_bool q hq e); have hat6 : At3 w6 (a.add (k * 3)) ⟨false, yi, yt⟩ := HAt4.out.keep (hf6.block _ hblk (fun e => by have := (HO14.out.lt _ e).1; have := HG.out; omega)); have HF6 := Lib.hid (HF4.out.fresh hf6 (fun q hq => by have := (HO14.out.lt q hq).1; have := HG.out; omega)); have HO16 := Lib.hid hown6; have HO26 := Lib.hid hO26; obtain ⟨he0, he1, he2⟩ := hat6.lit; have hsz6 := HF6.out.size; have hgs6 : g ≤ w6.heap.size := (by have := HG.out; omega); dsimp only at he0 he1 he2; clear hat6 hO26 hown6 hf6) | (at_builtin; refine wpList_pushC rfl (.tmp 39) (.tmp 44) rfl g _ m2 rfl HO26.out ⟨false, yi, yt⟩ _ _ _ rfl rfl rfl _ rfl rfl (by have := HL2.out; omega) hgs6 ?_; intro v7 w7 hown7 hf7))
          have hO17 := HO16.out.fr hf7 (fun q hq e => oc_other HO26.out HO16.out cell_ne_bool q e hq)
          have hf8 := HF6.out.fresh hf7 (fun q hq => by have := (HO26.out.lt q hq).1; have := HG.out; omega)
          go_roundw
          case rel => exact ⟨k + 1, by omega, by go_num, by rw [H1.out]; exact hO17, by rw [HY2.out]; exact hown7, hf8⟩
          case measure => simp [intOf]; omega
    · obtain rfl : k = l.length := by omega
      rw [List.take_length] at hO1 hO2
      go_wp2
      go_ret3
      exact ⟨_, _, rfl, hO1.mono (by have := HG.out; omega), hO2.mono (by have := HG.out; omega), hfr⟩

/-- the first of the shortest ways, as the document goes -/
def bstF (l : List Cl) (ks : List Nat) (b : Nat) : Nat := ks.foldl (fun b k => if (wayB k l).length < (wayB b l).length then k else b) b
theorem bstF_short (l : List Cl) : ∀ (ks : List Nat) (b : Nat), b ≠ 0 → (∀ k ∈ ks, k ≠ 0) → shortC l ks (b, wayB b l) = (bstF l ks b, wayB (bstF l ks b) l)
  | [], b, _, _ => rfl
  | k :: ks, b, hb, h => by
    rw [shortC]
    by_cases hlt : (wayB k l).length < (wayB b l).length
    · rw [if_pos (.inr hlt), bstF_short l ks k (h k (by simp)) (fun j hj => h j (by simp [hj]))]
      unfold bstF
      rw [List.foldl_cons, if_pos hlt]
    · rw [if_neg (by rintro (e | e); exact hb e; exact hlt e), bstF_short l ks b hb (fun j hj => h j (by simp [hj]))]
      unfold bstF
      rw [List.foldl_cons, if_neg hlt]
theorem bstF_all (l : List Cl) (f : Nat) (ks : List Nat) (h0 : f ≠ 0) (h : ∀ k ∈ ks, k ≠ 0) : shortC l (f :: ks) (0, []) = (bstF l (f :: ks) f, wayB (bstF l (f :: ks) f) l) := by
  rw [shortC, if_pos (.inl rfl), bstF_short l ks f h0 h]
  have : bstF l (f :: ks) f = bstF l ks f := by
    unfold bstF
    rw [List.foldl_cons, if_neg (by omega)]
  rw [this]
theorem bstF_take (l : List Cl) (ks : List Nat) (b j : Nat) (h : j < ks.length) : bstF l (ks.take (j + 1)) b = if (wayB ks[j] l).length < (wayB (bstF l (ks.take j) b) l).length then ks[j] else bstF l (ks.take j) b := by
  unfold bstF
  rw [List.take_succ_eq_append_getElem h, List.foldl_append]
  rfl
theorem bstF_in (l : List Cl) : ∀ (ks : List Nat) (b : Nat), bstF l ks b ∈ b :: ks
  | [], b => by simp [bstF]
  | k :: ks, b => by
    have e : bstF l (k :: ks) b = bstF l ks (if (wayB k l).length < (wayB b l).length then k else b) := rfl
    rw [e]
    split
    · have := bstF_in l ks k
      rcases List.mem_cons.1 this with h | h
      · rw [h]; simp
      · simp [h]
    · have := bstF_in l ks b
      rcases List.mem_cons.1 this with h | h
      · rw [h]; simp
      · simp [h]
theorem ow_byte (w2 : World) {k : Nat} (hk : k ≤ 64) {z : Int} (hz : z = (k : Int)) : Own (w2.alloc (.cells #[.int .u8 z] 5)) w2.heap.size (.slice (some ⟨w2.heap.size, 0, none⟩) 1 1) [k.toUInt8] :=
  (ow_lit (f := bv) (E := 5) w2 _ _ [k.toUInt8] _ (by simp only [List.map_cons, List.map_nil, bv, small64 hk]; rw [hz]) rfl (Nat.le_refl _) (by unfold maxLen; simp)).own

set_option maxHeartbeats 8000000 in
theorem rputc_cl (ty : Int) (v : Value) (l : List Cl) (w : World) (hv : Cs w v l) (ht : isTy ty = true) (hm : ∀ c ∈ l, mayC ty true c = true ∧ I64 c.num) (hl : l.length ≤ 4096) :
    Calls Tryz.prog 36 #[.int .i64 ty, v] w fun e w' => ∃ u, e = .returned u ∧ Own w' w.heap.size u (putC ty l) ∧ Fr Non w w' := by
  obtain ⟨A, c, rfl⟩ := hv.shape
  have HSp := Lib.hid (rsplit_cl ty _ l w hv (List.all_eq_true.2 fun c hc => (hm c hc).1) hl)
  have HO := Lib.hid (okL_may hm)
  have hplen := putC_len ht hm
  have hol : (othersC l).length ≤ l.length := List.length_filter_le _ _
  have hnl : (nullsC l).length ≤ 1000000 := by unfold nullsC; rw [List.length_map]; omega
  have d4 : decide (4096 < (l.length : Int)) = false := by simp; omega
  have HWy := Lib.hid (fun (n : Nat) W (u : Value) (h1 : 1 ≤ n) (h6 : n ≤ 6) (hu : Cs W u (othersC l)) => rway_cl n u (othersC l) W hu h1 h6 (by omega) HO.out)
  have HE : Hid (∀ f ks, waysOf ty = f :: ks → f ≠ 0 → (∀ k ∈ ks, k ≠ 0) → putC ty l = if (othersC l).length = l.length then (bstF (othersC l) (f :: ks) f).toUInt8 :: wayB (bstF (othersC l) (f :: ks) f) (othersC l) else (bstF (othersC l) (f :: ks) f + 8).toUInt8 :: (packB (nullsC l) ++ wayB (bstF (othersC l) (f :: ks) f) (othersC l))) := Lib.hid (by
    intro f ks h1 h0 hk
    unfold putC
    rw [h1, bstF_all _ _ _ h0 hk]
    dsimp only
    have hb : bstF (othersC l) (f :: ks) f ≠ 0 := by
      have := bstF_in (othersC l) (f :: ks) f
      rcases List.mem_cons.1 this with h | h
      · rw [h]; exact h0
      · rcases List.mem_cons.1 h with h | h
        · rw [h]; exact h0
        · exact hk _ h
    rw [if_neg hb])
  have HLen : Hid ((putC ty l).length ≤ 1000000) := Lib.hid (by omega)
  have HT : Hid (isTy ty = true) := Lib.hid ht
  clear hv hm hplen ht
  generalize putC ty l = P at *
  generalize othersC l = os at *
  generalize nullsC l = nl at *
  go_enter Tryz.func36, Tryz.ntmps36
  go_wp2_with fail
  refine HSp.out.mono ?_
  rintro e w2 ⟨t2, o2, rfl, ht2, ho2, f2⟩
  have HT2 := Lib.hid ht2
  have HOo := Lib.hid ho2
  have HF2 := Lib.hid f2
  obtain ⟨Ao, co, rfl⟩ := ho2.shape
  clear ht2 ho2 f2 HSp
  by_cases h3 : ty = 3
  · have HE2 := HE.out 5 [6] (by rw [h3]; rfl) (by omega) (by simp)
    replace HE2 := Lib.hid HE2
    clear HE HT
    subst h3
    go_wp2
    go_loopw [10, 11] (fun x i wr => ∃ (j b : Nat), j ≤ 2 ∧ x = .int .i64 b ∧ i = .int .i64 (5 + j : Nat) ∧ 5 ≤ b ∧ b ≤ 6 ∧ Hid (b = bstF os ([5, 6].take j) 5) ∧ Fr Non w2 wr) (fun _ i _ => 6 + 1 - (intOf i).toNat)
    case atStart => exact ⟨0, 5, by omega, rfl, rfl, by omega, by omega, Lib.hid rfl, Fr.refl _ _⟩
    case round =>
      obtain ⟨j, b, hj, rfl, rfl, hb1, hb2, HB, hF⟩ := hrel
      have HF := Lib.hid hF
      clear hF
      by_cases hlt : j < 2
      · have hbt := bstF_take os [5, 6] 5 j (by simp; omega)
        have hks : [5, 6][j]'(by simp; omega) = 5 + j := by
          rcases (show j = 0 ∨ j = 1 by omega) with rfl | rfl <;> rfl
        rw [hks, ← HB.out] at hbt
        have HBt := Lib.hid hbt
        have hd1 : decide ((5 : Int) + (j : Int) ≤ 6) = true := decide_eq_true (by omega)
        have HW1 := Lib.hid (HWy.out (5 + j) wr (.slice Ao os.length co) (by omega) (by omega) (HOo.out.cs.non HF.out))
        clear hbt hks
        go_wp2_with fail
        refine HW1.out.mono ?_
        rintro e w3 ⟨u3, rfl, ho3, f3⟩
        obtain ⟨A3, c3, rfl⟩ := ho3.bs.shape
        have HF3 := Lib.hid (HF.out.trans f3)
        have HW2 := Lib.hid (HWy.out b w3 (.slice Ao os.length co) (by omega) (by omega) (HOo.out.cs.non HF3.out))
        clear HW1 f3 ho3 HF
        go_wp2_with fail
        refine HW2.out.mono ?_
        rintro e w4 ⟨u4, rfl, ho4, f4⟩
        obtain ⟨A4, c4, rfl⟩ := ho4.bs.shape
        have HF4 := Lib.hid (HF3.out.trans f4)
        clear HW2 f4 ho4 HF3
        by_cases hc : (wayB (5 + j) os).length < (wayB b os).length
        · have hdc : decide ((wayB (5 + j) os).length < (wayB b os).length) = true := decide_eq_true (by omega)
          have HB2 : Hid (5 + j = bstF os ([5, 6].take (j + 1)) 5) := Lib.hid (by rw [HBt.out, if_pos hc])
          clear HB HBt hc
          go_wp2
          go_roundw
          case rel => exact ⟨j + 1, 5 + j, by omega, rfl, by go_num, by omega, by omega, HB2, HF4.out⟩
          case measure => simp [intOf]; omega
        · have hdc : decide ((wayB (5 + j) os).length < (wayB b os).length) = false := decide_eq_false (by omega)
          have HB2 : Hid (b = bstF os ([5, 6].take (j + 1)) 5) := Lib.hid (by rw [HBt.out, if_neg hc])
          clear HB HBt hc
          go_wp2
          go_roundw
          case rel => exact ⟨j + 1, b, by omega, rfl, by go_num, by omega, by omega, HB2, HF4.out⟩
          case measure => simp [intOf]; omega
      · have hd1 : decide ((5 : Int) + (j : Int) ≤ 6) = false := decide_eq_false (by omega)
        have hbe : b = bstF os [5, 6] 5 := by rw [HB.out, List.take_of_length_le (by simp; omega)]
        rw [← hbe] at HE2
        have HW5 := Lib.hid (fun W (hf : Fr Non w2 W) => HWy.out b W (.slice Ao os.length co) (by omega) (by omega) (HOo.out.cs.non hf))
        have hb64 : b ≤ 64 := by omega
        have hsz := (HF2.out.trans HF.out).size
        clear HB hbe HWy
        by_cases hs : os.length = l.length
        · have es : decide (os.length < l.length) = false := decide_eq_false (by omega)
          have HE3 : Hid (P = b.toUInt8 :: wayB b os) := Lib.hid (by rw [HE2.out, if_pos hs])
          have hwl : (wayB b os).length ≤ 1000000 := by have := HLen.out; rw [HE3.out, List.length_cons] at this; omega
          clear HE2 hs
          go_wp2_with fail
          have hfa := (Fr.refl Non wr).alloc (.cells #[.int .u8 (b : Int)] 5)
          refine (HW5.out _ (HF.out.trans hfa)).mono ?_
          rintro e w5 ⟨u5, rfl, ho5, f5⟩
          have hob := Lib.hid ((ow_byte wr hb64 (z := (b : Int)) rfl).non f5)
          have HF5 := Lib.hid (((HF2.out.trans HF.out).trans hfa).trans f5)
          have hsz5 := f5.size
          rw [show (wr.alloc (.cells #[.int .u8 (b : Int)] 5)).heap.size = wr.heap.size + 1 by simp] at hsz5
          have HO5 := Lib.hid ho5.bs
          clear f5 ho5 hfa
          go_wp2_with (at_builtin; refine wpList_app rfl (.tmp 69) (.tmp 72) rfl wr.heap.size _ u5 [b.toUInt8] (wayB b os) rfl hob.out rfl HO5.out (by simp; omega) (by omega) ?_; intro v6 w6 hown6 hf6)
          go_wp2
          go_ret
          refine ⟨_, rfl, ?_, HF5.out.fresh hf6 (fun q hq => by have := (hob.out.lt q hq).1; omega)⟩
          rw [HE3.out]
          exact hown6.mono hsz
        · have es : decide (os.length < l.length) = true := decide_eq_true (by omega)
          have HE3 : Hid (P = (b + 8).toUInt8 :: (packB nl ++ wayB b os)) := Lib.hid (by rw [HE2.out, if_neg hs])
          have hwl : (wayB b os).length + (packB nl).length ≤ 1000000 := by have := HLen.out; rw [HE3.out, List.length_cons, List.length_append] at this; omega
          clear HE2 hs
          go_wp2_with fail
          have hfa := ((Fr.refl Non wr).alloc (.cells #[.int .u8 (b : Int)] 5)).alloc (.cells #[.int .u8 ((b : Int) + 8)] 5)
          refine (rpack_any _ nl _ (HT2.out.vs.non (HF.out.trans hfa)) hnl).mono ?_
          rintro e w5 ⟨u5, rfl, ho5, f5⟩
          have hob0 := ow_byte (wr.alloc (.cells #[.int .u8 (b : Int)] 5)) (k := b + 8) (by omega) (z := (b : Int) + 8) (by push_cast; rfl)
          rw [show (wr.alloc (.cells #[.int .u8 (b : Int)] 5)).heap.size = wr.heap.size + 1 by simp] at hob0
          have hob := Lib.hid (hob0.non f5)
          clear hob0
          have HF5 := Lib.hid ((HF.out.trans hfa).trans f5)
          have hsz5 := f5.size
          simp at hsz5
          have HO5 := Lib.hid ho5.bs
          clear f5 ho5 hfa
          go_wp2_with (at_builtin; refine wpList_app rfl (.tmp 65) (.tmp 67) rfl (wr.heap.size + 1) _ u5 [(b + 8).toUInt8] (packB nl) rfl hob.out rfl HO5.out (by simp; omega) (by omega) ?_; intro v6 w6 hown6 hf6)
          have HF6 := Lib.hid (HF5.out.fresh hf6 (fun q hq => by have h := (hob.out.lt q hq).1; have := HF.out.size; omega))
          have HO6 := Lib.hid hown6
          have hsz6 := hf6.size
          clear hf6 hown6 HO5 hob HF5
          go_wp2_with fail
          refine (HW5.out _ HF6.out).mono ?_
          rintro e w7 ⟨u7, rfl, ho7, f7⟩
          have HF7 := Lib.hid ((HF2.out.trans HF6.out).trans f7)
          have HO67 := Lib.hid (HO6.out.non f7)
          have HO7 := Lib.hid ho7.bs
          have hsz7 := f7.size
          clear f7 ho7 HO6 HF6
          go_wp2_with (at_builtin; refine wpList_app rfl (.tmp 69) (.tmp 72) rfl (wr.heap.size + 1) _ u7 _ (wayB b os) rfl HO67.out rfl HO7.out (by simp; omega) (by omega) ?_; intro v8 w8 hown8 hf8)
          go_wp2
          go_ret
          refine ⟨_, rfl, ?_, HF7.out.fresh hf8 (fun q hq => by have h := (HO67.out.lt q hq).1; omega)⟩
          rw [HE3.out]
          have h9 := hown8.mono (show w.heap.size ≤ wr.heap.size + 1 by omega)
          simpa using h9
  · have h12 : ty = 1 ∨ ty = 2 := by have := HT.out; simp [isTy] at this; omega
    have HE2 := HE.out 1 [2, 3, 4] (waysOf_num h12) (by omega) (by simp)
    replace HE2 := Lib.hid HE2
    have e1 : decide (ty < 1) = false := decide_eq_false (by omega)
    have e2 : decide (3 < ty) = false := decide_eq_false (by omega)
    have e3 : (ty == 3) = false := by rw [beq_eq_false_iff_ne]; exact h3
    clear HE HT h3 h12
    go_wp2
    go_loopw [10, 11] (fun x i wr => ∃ (j b : Nat), j ≤ 4 ∧ x = .int .i64 b ∧ i = .int .i64 (1 + j : Nat) ∧ 1 ≤ b ∧ b ≤ 4 ∧ Hid (b = bstF os ([1, 2, 3, 4].take j) 1) ∧ Fr Non w2 wr) (fun _ i _ => 4 + 1 - (intOf i).toNat)
    case atStart => exact ⟨0, 1, by omega, rfl, rfl, by omega, by omega, Lib.hid rfl, Fr.refl _ _⟩
    case round =>
      obtain ⟨j, b, hj, rfl, rfl, hb1, hb2, HB, hF⟩ := hrel
      have HF := Lib.hid hF
      clear hF
      by_cases hlt : j < 4
      · have hbt := bstF_take os [1, 2, 3, 4] 1 j (by simp; omega)
        have hks : [1, 2, 3, 4][j]'(by simp; omega) = 1 + j := by
          rcases (show j = 0 ∨ j = 1 ∨ j = 2 ∨ j = 3 by omega) with rfl | rfl | rfl | rfl <;> rfl
        rw [hks, ← HB.out] at hbt
        have HBt := Lib.hid hbt
        have hd1 : decide ((1 : Int) + (j : Int) ≤ 4) = true := decide_eq_true (by omega)
        have HW1 := Lib.hid (HWy.out (1 + j) wr (.slice Ao os.length co) (by omega) (by omega) (HOo.out.cs.non HF.out))
        clear hbt hks
        go_wp2_with fail
        refine HW1.out.mono ?_
        rintro e w3 ⟨u3, rfl, ho3, f3⟩
        obtain ⟨A3, c3, rfl⟩ := ho3.bs.shape
        have HF3 := Lib.hid (HF.out.trans f3)
        have HW2 := Lib.hid (HWy.out b w3 (.slice Ao os.length co) (by omega) (by omega) (HOo.out.cs.non HF3.out))
        clear HW1 f3 ho3 HF
        go_wp2_with fail
        refine HW2.out.mono ?_
        rintro e w4 ⟨u4, rfl, ho4, f4⟩
        obtain ⟨A4, c4, rfl⟩ := ho4.bs.shape
        have HF4 := Lib.hid (HF3.out.trans f4)
        clear HW2 f4 ho4 HF3
        by_cases hc : (wayB (1 + j) os).length < (wayB b os).length
        · have hdc : decide ((wayB (1 + j) os).length < (wayB b os).length) = true := decide_eq_true (by omega)
          have HB2 : Hid (1 + j = bstF os ([1, 2, 3, 4].take (j + 1)) 1) := Lib.hid (by rw [HBt.out, if_pos hc])
          clear HB HBt hc
          go_wp2
          go_roundw
          case rel => exact ⟨j + 1, 1 + j, by omega, rfl, by go_num, by omega, by omega, HB2, HF4.out⟩
          case measure => simp [intOf]; omega
        · have hdc : decide ((wayB (1 + j) os).length < (wayB b os).length) = false := decide_eq_false (by omega)
          have HB2 : Hid (b = bstF os ([1, 2, 3, 4].take (j + 1)) 1) := Lib.hid (by rw [HBt.out, if_neg hc])
          clear HB HBt hc
          go_wp2
          go_roundw
          case rel => exact ⟨j + 1, b, by omega, rfl, by go_num, by omega, by omega, HB2, HF4.out⟩
          case measure => simp [intOf]; omega
      · have hd1 : decide ((1 : Int) + (j : Int) ≤ 4) = false := decide_eq_false (by omega)
        have hbe : b = bstF os [1, 2, 3, 4] 1 := by rw [HB.out, List.take_of_length_le (by simp; omega)]
        rw [← hbe] at HE2
        have HW5 := Lib.hid (fun W (hf : Fr Non w2 W) => HWy.out b W (.slice Ao os.length co) (by omega) (by omega) (HOo.out.cs.non hf))
        have hb64 : b ≤ 64 := by omega
        have hsz := (HF2.out.trans HF.out).size
        clear HB hbe HWy
        by_cases hs : os.length = l.length
        · have es : decide (os.length < l.length) = false := decide_eq_false (by omega)
          have HE3 : Hid (P = b.toUInt8 :: wayB b os) := Lib.hid (by rw [HE2.out, if_pos hs])
          have hwl : (wayB b os).length ≤ 1000000 := by have := HLen.out; rw [HE3.out, List.length_cons] at this; omega
          clear HE2 hs
          go_wp2_with fail
          have hfa := (Fr.refl Non wr).alloc (.cells #[.int .u8 (b : Int)] 5)
          refine (HW5.out _ (HF.out.trans hfa)).mono ?_
          rintro e w5 ⟨u5, rfl, ho5, f5⟩
          have hob := Lib.hid ((ow_byte wr hb64 (z := (b : Int)) rfl).non f5)
          have HF5 := Lib.hid (((HF2.out.trans HF.out).trans hfa).trans f5)
          have hsz5 := f5.size
          rw [show (wr.alloc (.cells #[.int .u8 (b : Int)] 5)).heap.size = wr.heap.size + 1 by simp] at hsz5
          have HO5 := Lib.hid ho5.bs
          clear f5 ho5 hfa
          go_wp2_with (at_builtin; refine wpList_app rfl (.tmp 69) (.tmp 72) rfl wr.heap.size _ u5 [b.toUInt8] (wayB b os) rfl hob.out rfl HO5.out (by simp; omega) (by omega) ?_; intro v6 w6 hown6 hf6)
          go_wp2
          go_ret
          refine ⟨_, rfl, ?_, HF5.out.fresh hf6 (fun q hq => by have := (hob.out.lt q hq).1; omega)⟩
          rw [HE3.out]
          exact hown6.mono hsz
        · have es : decide (os.length < l.length) = true := decide_eq_true (by omega)
          have HE3 : Hid (P = (b + 8).toUInt8 :: (packB nl ++ wayB b os)) := Lib.hid (by rw [HE2.out, if_neg hs])
          have hwl : (wayB b os).length + (packB nl).length ≤ 1000000 := by have := HLen.out; rw [HE3.out, List.length_cons, List.length_append] at this; omega
          clear HE2 hs
          go_wp2_with fail
          have hfa := ((Fr.refl Non wr).alloc (.cells #[.int .u8 (b : Int)] 5)).alloc (.cells #[.int .u8 ((b : Int) + 8)] 5)
          refine (rpack_any _ nl _ (HT2.out.vs.non (HF.out.trans hfa)) hnl).mono ?_
          rintro e w5 ⟨u5, rfl, ho5, f5⟩
          have hob0 := ow_byte (wr.alloc (.cells #[.int .u8 (b : Int)] 5)) (k := b + 8) (by omega) (z := (b : Int) + 8) (by push_cast; rfl)
          rw [show (wr.alloc (.cells #[.int .u8 (b : Int)] 5)).heap.size = wr.heap.size + 1 by simp] at hob0
          have hob := Lib.hid (hob0.non f5)
          clear hob0
          have HF5 := Lib.hid ((HF.out.trans hfa).trans f5)
          have hsz5 := f5.size
          simp at hsz5
          have HO5 := Lib.hid ho5.bs
          clear f5 ho5 hfa
          go_wp2_with (at_builtin; refine wpList_app rfl (.tmp 65) (.tmp 67) rfl (wr.heap.size + 1) _ u5 [(b + 8).toUInt8] (packB nl) rfl hob.out rfl HO5.out (by simp; omega) (by omega) ?_; intro v6 w6 hown6 hf6)
          have HF6 := Lib.hid (HF5.out.fresh hf6 (fun q hq => by have h := (hob.out.lt q hq).1; have := HF.out.size; omega))
          have HO6 := Lib.hid hown6
          have hsz6 := hf6.size
          clear hf6 hown6 HO5 hob HF5
          go_wp2_with fail
          refine (HW5.out _ HF6.out).mono ?_
          rintro e w7 ⟨u7, rfl, ho7, f7⟩
          have HF7 := Lib.hid ((HF2.out.trans HF6.out).trans f7)
          have HO67 := Lib.hid (HO6.out.non f7)
          have HO7 := Lib.hid ho7.bs
          have hsz7 := f7.size
          clear f7 ho7 HO6 HF6
          go_wp2_with (at_builtin; refine wpList_app rfl (.tmp 69) (.tmp 72) rfl (wr.heap.size + 1) _ u7 _ (wayB b os) rfl HO67.out rfl HO7.out (by simp; omega) (by omega) ?_; intro v8 w8 hown8 hf8)
          go_wp2
          go_ret
          refine ⟨_, rfl, ?_, HF7.out.fresh hf8 (fun q hq => by have h := (HO67.out.lt q hq).1; omega)⟩
          rw [HE3.out]
          have h9 := hown8.mono (show w.heap.size ≤ wr.heap.size + 1 by omega)
          simpa using h9
end Go.Proofs.YtheefloegbkflaaGreatDoor


namespace Go.Proofs.YtheefloegbkflaaGreatDoor
set_option linter.unusedVariables false
set_option linter.unusedSimpArgs false
set_option maxRecDepth 100000
open Go.RowKit

theorem At3.frs {S : Nat → Prop} {w w' : World} {a : Addr} {c : Cl} (h : At3 w a c) (hf : Fr S w w') (hn : ¬ S a.block) : At3 w' a c :=
  h.keep (hf.block _ (World.block_lt_of_cell? w _ h.c0) hn)
theorem At3.drew {w : World} {a : Addr} {c : Cl} (h : At3 w a c) : At3 w.drew a c := ⟨h.c0, h.c1, h.c2⟩
/-- what the loop of the document's holds: the element, the zone, the result's block -/
structure ROf (w : World) (ad : Addr) (R : Nat) (x : Cl) (z : Zn) : Prop where
  el : At3 w ad x
  zn : ZnB w (R + 1) z
  out : ZnB w R noZn
theorem ROf.non {w w' : World} {ad : Addr} {R : Nat} {x : Cl} {z : Zn} (h : ROf w ad R x z) (hf : Fr Non w w') : ROf w' ad R x z := ⟨h.el.frs hf (fun e => e), h.zn.fr hf (fun e => e), h.out.fr hf (fun e => e)⟩
theorem ROf.drew {w : World} {ad : Addr} {R : Nat} {x : Cl} {z : Zn} (h : ROf w ad R x z) : ROf w.drew ad R x z := ⟨h.el.drew, h.zn, h.out⟩
theorem ROf.low {w : World} {ad : Addr} {R : Nat} {x : Cl} {z : Zn} (h : ROf w ad R x z) (hd : ad.block ≠ R + 1) (c : Cl) : ROf (setLow w (R + 1) c.null c.num c.txt) ad R x ⟨z.rows, z.nulls, c, z.high⟩ :=
  ⟨h.el.frs (setLow_fr _ _ _ _ _) hd, setLow_B h.zn c, h.out.fr (setLow_fr _ _ _ _ _) (fun e => by have : R = R + 1 := e; omega)⟩
theorem ROf.high {w : World} {ad : Addr} {R : Nat} {x : Cl} {z : Zn} (h : ROf w ad R x z) (hd : ad.block ≠ R + 1) (c : Cl) : ROf (setHigh w (R + 1) c.null c.num c.txt) ad R x ⟨z.rows, z.nulls, z.low, c⟩ :=
  ⟨h.el.frs (setHigh_fr _ _ _ _ _) hd, setHigh_B h.zn c, h.out.fr (setHigh_fr _ _ _ _ _) (fun e => by have : R = R + 1 := e; omega)⟩

set_option maxHeartbeats 4000000 in
theorem rzof_any (v : Value) (l : List Cl) (w : World) (hv : Cs w v l) (hvl : ∀ q, v.ownBlock = some q → q < w.heap.size) (hl : l.length ≤ 1000000) :
    Calls Tryz.prog 38 #[v] w fun e w' => ∃ z, e = .returned (znV z) ∧ IsOf l z ∧ Fr Non w w' := by
  obtain ⟨A, c, rfl, hlc, hn, hcell⟩ := hv
  have HC := Lib.hid hcell
  have HN := Lib.hid hn
  clear hcell hn
  have f0 : Fr Non w _ := ((Fr.refl Non w).alloc (.cells (znC noZn) 56)).alloc (.cells (znC ⟨l.length, 0, noCl, noCl⟩) 56)
  have hA : ZnB (w.alloc (.cells (znC noZn) 56)) w.heap.size noZn := Blk.new _ _ _
  have hB : ZnB ((w.alloc (.cells (znC noZn) 56)).alloc (.cells (znC ⟨l.length, 0, noCl, noCl⟩) 56)) (w.alloc (.cells (znC noZn) 56)).heap.size ⟨l.length, 0, noCl, noCl⟩ := Blk.new _ _ _
  have hsz : (w.alloc (.cells (znC noZn) 56)).heap.size = w.heap.size + 1 := by simp
  rw [hsz] at hB
  have hA2 : ZnB ((w.alloc (.cells (znC noZn) 56)).alloc (.cells (znC ⟨l.length, 0, noCl, noCl⟩) 56)) w.heap.size noZn := hA.fr ((Fr.refl Non _).alloc _) (fun e => e)
  have J0 := Lib.hid (jinv_start l.length 0)
  clear hA hsz
  unfold znC noZn noCl at *
  dsimp only at *
  replace f0 := Lib.hid f0
  replace hB := Lib.hid hB
  replace hA2 := Lib.hid hA2
  go_enter Tryz.func38, Tryz.ntmps38
  go_wp2
  generalize hw : w.heap.size = R at *
  have HW := Lib.hid (Nat.le_of_eq hw)
  have hVL := hvl
  clear hw hvl
  go_loopw [4] (fun i wr => ∃ (k : Nat) (z : Zn), k ≤ l.length ∧ i = .int .i64 k ∧ JInv l.length (nulC (l.take k)) (liveC (l.take k)) z (decide (z.nulls = k)) ∧ ZnB wr (R + 1) z ∧ ZnB wr R noZn ∧ Fr Non w wr) (fun i _ => l.length - (intOf i).toNat)
  case atStart => exact ⟨0, _, Nat.zero_le _, rfl, J0.out, hB.out, hA2.out, f0.out⟩
  case round =>
    clear hA2 hB f0 J0
    obtain ⟨k, z, hk, rfl, hJ, hZ, hO, hF⟩ := hrel
    by_cases hlt : k < l.length
    · cases A with
      | none => have := HN.out rfl; omega
      | some a =>
        have hel := hF.at3 (HC.out a rfl k hlt)
        have hbd : (a.add (k * 3)).block < R := by rw [add_block]; exact hVL a.block rfl
        have HY := Lib.hid (jinv_yes hlt hJ)
        have HX := Lib.hid (jinv_no hlt hJ)
        obtain ⟨hn0, hn1⟩ := jinv_le (Nat.le_of_lt hlt) hJ
        clear hJ
        generalize l[k] = x at *
        have hN : ROf wr (a.add (k * 3)) R x z := ⟨hel, hZ, hO⟩
        have had : (a.add (k * 3)).block ≠ R + 1 := by omega
        clear hel hZ hO
        obtain ⟨xn, xi, xt⟩ := x
        cases xn
        · replace HX := Lib.hid (HX.out rfl)
          clear HY
          have O1 := fun W => rorder_any ⟨false, xi, xt⟩ z.low W
          have O2 := fun W => rorder_any ⟨false, xi, xt⟩ z.high W
          have HZ : noteZ (decide (z.nulls = k)) z ⟨false, xi, xt⟩ = ⟨z.rows, z.nulls, if (decide (z.nulls = k) || decide (ordC ⟨false, xi, xt⟩ z.low < 0)) = true then ⟨false, xi, xt⟩ else z.low, if (decide (z.nulls = k) || decide (0 < ordC ⟨false, xi, xt⟩ z.high)) = true then ⟨false, xi, xt⟩ else z.high⟩ := rfl
          generalize ordC ⟨false, xi, xt⟩ z.low = x at *
          generalize ordC ⟨false, xi, xt⟩ z.high = y at *
          unfold clV clC at O1 O2
          dsimp only at O1 O2
          replace O1 := Lib.hid O1
          replace O2 := Lib.hid O2
          replace HZ := Lib.hid HZ
          obtain ⟨c0, c1, c2⟩ := hN.el.lit
          dsimp only at c0 c1 c2
          have z1 : wr.cell? ⟨R + 1, 1, none⟩ = some (.int .i64 z.nulls) := hN.zn.cell 1
          by_cases hfi : z.nulls = k
          · have HZ1 : Hid (noteZ (decide (z.nulls = k)) z ⟨false, xi, xt⟩ = ⟨z.rows, z.nulls, ⟨false, xi, xt⟩, ⟨false, xi, xt⟩⟩) := Lib.hid (by rw [HZ.out, decide_eq_true hfi]; rfl)
            have HE : Hid (JInv l.length (nulC (l.take (k + 1))) (liveC (l.take (k + 1))) ⟨z.rows, z.nulls, ⟨false, xi, xt⟩, ⟨false, xi, xt⟩⟩ (decide (z.nulls = (k + 1 : Nat)))) := Lib.hid (by rw [HZ1.out] at HX; have := HX.out; rwa [show decide (z.nulls = ((k + 1 : Nat) : Int)) = false from decide_eq_false (by omega)])
            have hd : (z.nulls == (k : Int)) = true := by simpa using hfi
            clear HZ HZ1 HX O1 O2 hfi
            go_wp2
            clear c0 c1 c2 z1
            go_region
            replace hN := hN.drew
            replace hF := hF.drew
            generalize wr.drew = V1 at *
            have hL : ROf (setLow V1 (R + 1) false xi xt) (a.add (k * 3)) R ⟨false, xi, xt⟩ ⟨z.rows, z.nulls, ⟨false, xi, xt⟩, z.high⟩ := hN.low had ⟨false, xi, xt⟩
            have FF : Fr Non w (setLow V1 (R + 1) false xi xt) := hF.fresh (setLow_fr V1 (R + 1) false xi xt) (fun q e => by have : q = R + 1 := e; have := HW.out; omega)
            replace hL := Lib.hid hL
            replace FF := Lib.hid FF
            obtain ⟨y0, y1, y2, y3, y4, y5, y6, y7⟩ := znB_froz hN.zn
            obtain ⟨a0, a1, a2, a3, a4, a5, a6, a7⟩ := znB_cells hN.zn
            obtain ⟨c0, c1, c2⟩ := hN.el.lit
            dsimp only at c0 c1 c2
            clear hN hF
            unfold setLow at hL FF
            go_wp2
            clear y0 y1 y2 y3 y4 y5 y6 y7 a0 a1 a2 a3 a4 a5 a6 a7 c0 c1 c2
            generalize ((V1.setCell ⟨R + 1, 2, none⟩ (.bool false)).setCell ⟨R + 1, 3, none⟩ (.int .i64 xi)).setCell ⟨R + 1, 4, none⟩ (.string ⟨xt.toArray⟩) = V at *
            have hN := hL.out
            have hF := FF.out
            clear hL FF
            go_region
            replace hN := hN.drew
            replace hF := hF.drew
            generalize V.drew = V2 at *
            have hL : ROf (setHigh V2 (R + 1) false xi xt) (a.add (k * 3)) R ⟨false, xi, xt⟩ ⟨z.rows, z.nulls, ⟨false, xi, xt⟩, ⟨false, xi, xt⟩⟩ := hN.high had ⟨false, xi, xt⟩
            have FF : Fr Non w (setHigh V2 (R + 1) false xi xt) := hF.fresh (setHigh_fr V2 (R + 1) false xi xt) (fun q e => by have : q = R + 1 := e; have := HW.out; omega)
            replace hL := Lib.hid hL
            replace FF := Lib.hid FF
            obtain ⟨y0, y1, y2, y3, y4, y5, y6, y7⟩ := znB_froz hN.zn
            obtain ⟨a0, a1, a2, a3, a4, a5, a6, a7⟩ := znB_cells hN.zn
            obtain ⟨c0, c1, c2⟩ := hN.el.lit
            dsimp only at c0 c1 c2
            clear hN hF
            unfold setHigh at hL FF
            go_wp2
            go_roundw
            case rel => exact ⟨k + 1, _, by omega, by go_num, HE.out, hL.out.zn, hL.out.out, FF.out⟩
            case measure => simp [intOf]; omega
          · have hd : (z.nulls == (k : Int)) = false := by simpa using hfi
            have HFI : Hid (¬ z.nulls = (k : Int)) := Lib.hid hfi
            clear hfi
            go_wp2
            clear c0 c1 c2 z1
            generalize wr = V at *
            replace hN := hN.drew
            replace hF := hF.drew
            obtain ⟨s0, s1, s2⟩ := At3.lit (hN).el
            have s3 : (V.drew).cell? ⟨R + 1, 2, none⟩ = some (.bool z.low.null) := (hN).zn.cell 2
            have s4 : (V.drew).cell? ⟨R + 1, 3, none⟩ = some (.int .i64 z.low.num) := (hN).zn.cell 3
            have s5 : (V.drew).cell? ⟨R + 1, 4, none⟩ = some (.string ⟨z.low.txt.toArray⟩) := (hN).zn.cell 4
            dsimp only at s0 s1 s2
            go_region_held3 (fun W => W.cell? (a.add (k * 3)) = some (.bool false) ∧ W.cell? { block := (a.add (k * 3)).block, off := (a.add (k * 3)).off + 1 } = some (.int .i64 xi) ∧ W.cell? { block := (a.add (k * 3)).block, off := (a.add (k * 3)).off + 2 } = some (.string ⟨xt.toArray⟩) ∧ W.cell? ⟨R + 1, 2, none⟩ = some (.bool z.low.null) ∧ W.cell? ⟨R + 1, 3, none⟩ = some (.int .i64 z.low.num) ∧ W.cell? ⟨R + 1, 4, none⟩ = some (.string ⟨z.low.txt.toArray⟩)) (first | exact ⟨s0, s1, s2, s3, s4, s5⟩ | exact ⟨t0, t1, t2, t3, t4, t5⟩) (first | (go_at_call 71; (with_reducible refine (O1.out _).mono ?_); rintro e w4 ⟨rfl, f4⟩; have hN4 := hN.non f4; have hF4 := hF.then f4; obtain ⟨t0, t1, t2⟩ := At3.lit (hN4).el; have t3 : (w4).cell? ⟨R + 1, 2, none⟩ = some (.bool z.low.null) := (hN4).zn.cell 2; have t4 : (w4).cell? ⟨R + 1, 3, none⟩ = some (.int .i64 z.low.num) := (hN4).zn.cell 3; have t5 : (w4).cell? ⟨R + 1, 4, none⟩ = some (.string ⟨z.low.txt.toArray⟩) := (hN4).zn.cell 4; dsimp only at t0 t1 t2))
            clear s0 s1 s2 s3 s4 s5 t0 t1 t2 t3 t4 t5 f4 hN hF
            have hN := hN4
            have hF := hF4
            clear hN4 hF4
            clear O1
            by_cases hx : x < 0
            · have HZ0 : Hid (noteZ (decide (z.nulls = k)) z ⟨false, xi, xt⟩ = ⟨z.rows, z.nulls, ⟨false, xi, xt⟩, if (false || decide (0 < y)) = true then ⟨false, xi, xt⟩ else z.high⟩) := Lib.hid (by rw [HZ.out, decide_eq_true hx, decide_eq_false HFI.out]; rfl)
              have hd1 : decide (x < 0) = true := decide_eq_true hx
              clear HZ
              generalize w4 = V1 at *
              have hL : ROf (setLow V1 (R + 1) false xi xt) (a.add (k * 3)) R ⟨false, xi, xt⟩ ⟨z.rows, z.nulls, ⟨false, xi, xt⟩, z.high⟩ := hN.low had ⟨false, xi, xt⟩
              have FF : Fr Non w (setLow V1 (R + 1) false xi xt) := hF.fresh (setLow_fr V1 (R + 1) false xi xt) (fun q e => by have : q = R + 1 := e; have := HW.out; omega)
              replace hL := Lib.hid hL
              replace FF := Lib.hid FF
              obtain ⟨y0, y1, y2, y3, y4, y5, y6, y7⟩ := znB_froz hN.zn
              obtain ⟨a0, a1, a2, a3, a4, a5, a6, a7⟩ := znB_cells hN.zn
              obtain ⟨c0, c1, c2⟩ := hN.el.lit
              dsimp only at c0 c1 c2
              clear hN hF
              unfold setLow at hL FF
              go_wp2
              clear y0 y1 y2 y3 y4 y5 y6 y7 a0 a1 a2 a3 a4 a5 a6 a7 c0 c1 c2
              generalize ((V1.setCell ⟨R + 1, 2, none⟩ (.bool false)).setCell ⟨R + 1, 3, none⟩ (.int .i64 xi)).setCell ⟨R + 1, 4, none⟩ (.string ⟨xt.toArray⟩) = V at *
              have hN := hL.out
              have hF := FF.out
              clear hL FF
              replace hN := hN.drew
              replace hF := hF.drew
              obtain ⟨s0, s1, s2⟩ := At3.lit (hN).el
              have s3 : (V.drew).cell? ⟨R + 1, 5, none⟩ = some (.bool z.high.null) := (hN).zn.cell 5
              have s4 : (V.drew).cell? ⟨R + 1, 6, none⟩ = some (.int .i64 z.high.num) := (hN).zn.cell 6
              have s5 : (V.drew).cell? ⟨R + 1, 7, none⟩ = some (.string ⟨z.high.txt.toArray⟩) := (hN).zn.cell 7
              dsimp only at s0 s1 s2
              go_region_held3 (fun W => W.cell? (a.add (k * 3)) = some (.bool false) ∧ W.cell? { block := (a.add (k * 3)).block, off := (a.add (k * 3)).off + 1 } = some (.int .i64 xi) ∧ W.cell? { block := (a.add (k * 3)).block, off := (a.add (k * 3)).off + 2 } = some (.string ⟨xt.toArray⟩) ∧ W.cell? ⟨R + 1, 5, none⟩ = some (.bool z.high.null) ∧ W.cell? ⟨R + 1, 6, none⟩ = some (.int .i64 z.high.num) ∧ W.cell? ⟨R + 1, 7, none⟩ = some (.string ⟨z.high.txt.toArray⟩)) (first | exact ⟨s0, s1, s2, s3, s4, s5⟩ | exact ⟨t0, t1, t2, t3, t4, t5⟩) (first | (go_at_call 71; (with_reducible refine (O2.out _).mono ?_); rintro e w4 ⟨rfl, f4⟩; have hN4 := hN.non f4; have hF4 := hF.then f4; obtain ⟨t0, t1, t2⟩ := At3.lit (hN4).el; have t3 : (w4).cell? ⟨R + 1, 5, none⟩ = some (.bool z.high.null) := (hN4).zn.cell 5; have t4 : (w4).cell? ⟨R + 1, 6, none⟩ = some (.int .i64 z.high.num) := (hN4).zn.cell 6; have t5 : (w4).cell? ⟨R + 1, 7, none⟩ = some (.string ⟨z.high.txt.toArray⟩) := (hN4).zn.cell 7; dsimp only at t0 t1 t2))
              clear s0 s1 s2 s3 s4 s5 t0 t1 t2 t3 t4 t5 f4 hN hF
              have hN := hN4
              have hF := hF4
              clear hN4 hF4
              by_cases hy : 0 < y
              · have HZ1 : Hid (noteZ (decide (z.nulls = k)) z ⟨false, xi, xt⟩ = ⟨z.rows, z.nulls, ⟨false, xi, xt⟩, ⟨false, xi, xt⟩⟩) := Lib.hid (by rw [HZ0.out, decide_eq_true hy]; rfl)
                have HE : Hid (JInv l.length (nulC (l.take (k + 1))) (liveC (l.take (k + 1))) ⟨z.rows, z.nulls, ⟨false, xi, xt⟩, ⟨false, xi, xt⟩⟩ (decide (z.nulls = (k + 1 : Nat)))) := Lib.hid (by rw [HZ1.out] at HX; have := HX.out; rwa [show decide (z.nulls = ((k + 1 : Nat) : Int)) = false from decide_eq_false (by omega)])
                have hd2 : decide (0 < y) = true := decide_eq_true hy
                clear HZ0 HZ1 HX O2
                generalize w4 = V1 at *
                have hL : ROf (setHigh V1 (R + 1) false xi xt) (a.add (k * 3)) R ⟨false, xi, xt⟩ ⟨z.rows, z.nulls, ⟨false, xi, xt⟩, ⟨false, xi, xt⟩⟩ := hN.high had ⟨false, xi, xt⟩
                have FF : Fr Non w (setHigh V1 (R + 1) false xi xt) := hF.fresh (setHigh_fr V1 (R + 1) false xi xt) (fun q e => by have : q = R + 1 := e; have := HW.out; omega)
                replace hL := Lib.hid hL
                replace FF := Lib.hid FF
                obtain ⟨y0, y1, y2, y3, y4, y5, y6, y7⟩ := znB_froz hN.zn
                obtain ⟨a0, a1, a2, a3, a4, a5, a6, a7⟩ := znB_cells hN.zn
                obtain ⟨c0, c1, c2⟩ := hN.el.lit
                dsimp only at c0 c1 c2
                clear hN hF
                unfold setHigh at hL FF
                go_wp2
                go_roundw
                case rel => exact ⟨k + 1, _, by omega, by go_num, HE.out, hL.out.zn, hL.out.out, FF.out⟩
                case measure => simp [intOf]; omega
              · have HZ1 : Hid (noteZ (decide (z.nulls = k)) z ⟨false, xi, xt⟩ = ⟨z.rows, z.nulls, ⟨false, xi, xt⟩, z.high⟩) := Lib.hid (by rw [HZ0.out, decide_eq_false hy]; rfl)
                have HE : Hid (JInv l.length (nulC (l.take (k + 1))) (liveC (l.take (k + 1))) ⟨z.rows, z.nulls, ⟨false, xi, xt⟩, z.high⟩ (decide (z.nulls = (k + 1 : Nat)))) := Lib.hid (by rw [HZ1.out] at HX; have := HX.out; rwa [show decide (z.nulls = ((k + 1 : Nat) : Int)) = false from decide_eq_false (by omega)])
                have hd2 : decide (0 < y) = false := decide_eq_false hy
                clear HZ0 HZ1 HX O2
                replace hN := Lib.hid hN
                replace hF := Lib.hid hF
                go_wp2
                go_roundw
                case rel => exact ⟨k + 1, _, by omega, by go_num, HE.out, hN.out.zn, hN.out.out, hF.out⟩
                case measure => simp [intOf]; omega
            · have HZ0 : Hid (noteZ (decide (z.nulls = k)) z ⟨false, xi, xt⟩ = ⟨z.rows, z.nulls, z.low, if (false || decide (0 < y)) = true then ⟨false, xi, xt⟩ else z.high⟩) := Lib.hid (by rw [HZ.out, decide_eq_false hx, decide_eq_false HFI.out]; rfl)
              have hd1 : decide (x < 0) = false := decide_eq_false hx
              clear HZ
              generalize w4 = V at *
              go_wp2
              replace hN := hN.drew
              replace hF := hF.drew
              obtain ⟨s0, s1, s2⟩ := At3.lit (hN).el
              have s3 : (V.drew).cell? ⟨R + 1, 5, none⟩ = some (.bool z.high.null) := (hN).zn.cell 5
              have s4 : (V.drew).cell? ⟨R + 1, 6, none⟩ = some (.int .i64 z.high.num) := (hN).zn.cell 6
              have s5 : (V.drew).cell? ⟨R + 1, 7, none⟩ = some (.string ⟨z.high.txt.toArray⟩) := (hN).zn.cell 7
              dsimp only at s0 s1 s2
              go_region_held3 (fun W => W.cell? (a.add (k * 3)) = some (.bool false) ∧ W.cell? { block := (a.add (k * 3)).block, off := (a.add (k * 3)).off + 1 } = some (.int .i64 xi) ∧ W.cell? { block := (a.add (k * 3)).block, off := (a.add (k * 3)).off + 2 } = some (.string ⟨xt.toArray⟩) ∧ W.cell? ⟨R + 1, 5, none⟩ = some (.bool z.high.null) ∧ W.cell? ⟨R + 1, 6, none⟩ = some (.int .i64 z.high.num) ∧ W.cell? ⟨R + 1, 7, none⟩ = some (.string ⟨z.high.txt.toArray⟩)) (first | exact ⟨s0, s1, s2, s3, s4, s5⟩ | exact ⟨t0, t1, t2, t3, t4, t5⟩) (first | (go_at_call 71; (with_reducible refine (O2.out _).mono ?_); rintro e w4 ⟨rfl, f4⟩; have hN4 := hN.non f4; have hF4 := hF.then f4; obtain ⟨t0, t1, t2⟩ := At3.lit (hN4).el; have t3 : (w4).cell? ⟨R + 1, 5, none⟩ = some (.bool z.high.null) := (hN4).zn.cell 5; have t4 : (w4).cell? ⟨R + 1, 6, none⟩ = some (.int .i64 z.high.num) := (hN4).zn.cell 6; have t5 : (w4).cell? ⟨R + 1, 7, none⟩ = some (.string ⟨z.high.txt.toArray⟩) := (hN4).zn.cell 7; dsimp only at t0 t1 t2))
              clear s0 s1 s2 s3 s4 s5 t0 t1 t2 t3 t4 t5 f4 hN hF
              have hN := hN4
              have hF := hF4
              clear hN4 hF4
              by_cases hy : 0 < y
              · have HZ1 : Hid (noteZ (decide (z.nulls = k)) z ⟨false, xi, xt⟩ = ⟨z.rows, z.nulls, z.low, ⟨false, xi, xt⟩⟩) := Lib.hid (by rw [HZ0.out, decide_eq_true hy]; rfl)
                have HE : Hid (JInv l.length (nulC (l.take (k + 1))) (liveC (l.take (k + 1))) ⟨z.rows, z.nulls, z.low, ⟨false, xi, xt⟩⟩ (decide (z.nulls = (k + 1 : Nat)))) := Lib.hid (by rw [HZ1.out] at HX; have := HX.out; rwa [show decide (z.nulls = ((k + 1 : Nat) : Int)) = false from decide_eq_false (by omega)])
                have hd2 : decide (0 < y) = true := decide_eq_true hy
                clear HZ0 HZ1 HX O2
                generalize w4 = V1 at *
                have hL : ROf (setHigh V1 (R + 1) false xi xt) (a.add (k * 3)) R ⟨false, xi, xt⟩ ⟨z.rows, z.nulls, z.low, ⟨false, xi, xt⟩⟩ := hN.high had ⟨false, xi, xt⟩
                have FF : Fr Non w (setHigh V1 (R + 1) false xi xt) := hF.fresh (setHigh_fr V1 (R + 1) false xi xt) (fun q e => by have : q = R + 1 := e; have := HW.out; omega)
                replace hL := Lib.hid hL
                replace FF := Lib.hid FF
                obtain ⟨y0, y1, y2, y3, y4, y5, y6, y7⟩ := znB_froz hN.zn
                obtain ⟨a0, a1, a2, a3, a4, a5, a6, a7⟩ := znB_cells hN.zn
                obtain ⟨c0, c1, c2⟩ := hN.el.lit
                dsimp only at c0 c1 c2
                clear hN hF
                unfold setHigh at hL FF
                go_wp2
                go_roundw
                case rel => exact ⟨k + 1, _, by omega, by go_num, HE.out, hL.out.zn, hL.out.out, FF.out⟩
                case measure => simp [intOf]; omega
              · have HZ1 : Hid (noteZ (decide (z.nulls = k)) z ⟨false, xi, xt⟩ = ⟨z.rows, z.nulls, z.low, z.high⟩) := Lib.hid (by rw [HZ0.out, decide_eq_false hy]; rfl)
                have HE : Hid (JInv l.length (nulC (l.take (k + 1))) (liveC (l.take (k + 1))) ⟨z.rows, z.nulls, z.low, z.high⟩ (decide (z.nulls = (k + 1 : Nat)))) := Lib.hid (by rw [HZ1.out] at HX; have := HX.out; rwa [show decide (z.nulls = ((k + 1 : Nat) : Int)) = false from decide_eq_false (by omega)])
                have hd2 : decide (0 < y) = false := decide_eq_false hy
                clear HZ0 HZ1 HX O2
                replace hN := Lib.hid hN
                replace hF := Lib.hid hF
                go_wp2
                go_roundw
                case rel => exact ⟨k + 1, _, by omega, by go_num, HE.out, hN.out.zn, hN.out.out, hF.out⟩
                case measure => simp [intOf]; omega
        · replace HY := Lib.hid (HY.out rfl)
          clear HX
          have HE : Hid (JInv l.length (nulC (l.take (k + 1))) (liveC (l.take (k + 1))) ⟨z.rows, z.nulls + 1, z.low, z.high⟩ (decide (z.nulls + 1 = (k + 1 : Nat)))) := Lib.hid (by have := HY.out; rwa [show decide (z.nulls + 1 = ((k + 1 : Nat) : Int)) = decide (z.nulls = (k : Int)) by simp only [decide_eq_decide]; omega])
          obtain ⟨c0, c1, c2⟩ := hN.el.lit
          dsimp only at c0 c1 c2
          have z1 : wr.cell? ⟨R + 1, 1, none⟩ = some (.int .i64 z.nulls) := hN.zn.cell 1
          have y1 := hN.zn.frozen 1
          have f2 := (Fr.refl (One (R + 1)) wr).set1 1 (.int .i64 (z.nulls + 1))
          have hZ2 : Hid (ZnB _ (R + 1) ⟨z.rows, z.nulls + 1, z.low, z.high⟩) := Lib.hid (setNul_B hN.zn (z.nulls + 1))
          have hO2 : Hid (ZnB _ R noZn) := Lib.hid (hN.out.fr f2 (fun e => by have : R = R + 1 := e; omega))
          have hF2 := Lib.hid (hF.fresh f2 (fun q e => by have : q = R + 1 := e; have := HW.out; omega))
          clear HY hN f2 hF
          go_wp2
          go_roundw
          case rel => exact ⟨k + 1, _, by omega, by go_num, HE.out, hZ2.out, hO2.out, hF2.out⟩
          case measure => simp [intOf]; omega
    · obtain rfl : k = l.length := by omega
      rw [List.take_length] at hJ
      have HE := Lib.hid (jinv_end hJ)
      obtain ⟨y0, y1, y2, y3, y4, y5, y6, y7⟩ := znB_froz hO
      obtain ⟨b0, b1, b2, b3, b4, b5, b6, b7⟩ := znB_cells hO
      obtain ⟨a0, a1, a2, a3, a4, a5, a6, a7⟩ := znB_cells hZ
      have HA := Lib.hid (setZn_B hO z)
      have HF := Lib.hid (hF.fresh (setZn_fr wr R z) (fun q e => by have : q = R := e; have := HW.out; omega))
      clear hJ hZ hO hF
      go_wp2
      exact bodyPost_ret (v := znV z) (ret_zn (p := 2) rfl _ _ R z rfl HA.out) rfl ⟨z, rfl, HE.out, HF.out⟩
end Go.Proofs.YtheefloegbkflaaGreatDoor


namespace Go.Proofs.YtheefloegbkflaaGreatDoor
set_option linter.unusedVariables false
set_option linter.unusedSimpArgs false
set_option maxRecDepth 100000
open Go.RowKit


theorem rzoneF_any (v : Value) (l : List Cl) (w : World) (hv : Cs w v l) (hvl : ∀ q, v.ownBlock = some q → q < w.heap.size) (hl : l.length ≤ 1000000) :
    Calls Tryz.prog 38 #[v] w fun e w' => e = .returned (znV (zoneF l)) ∧ Fr Non w w' :=
  (rzof_any v l w hv hvl hl).mono fun e w' ⟨z, he, hz, hf⟩ => ⟨by rw [he, hz.eqF], hf⟩

set_option maxHeartbeats 8000000 in
theorem rbuild_any (v1 v2 : Value) (cols : List Co) (rows : List (List Cl)) (w : World) (h1 : Ks w v1 cols) (h2 : Rs w v2 rows) (hl : cols.length ≤ 1000000000) (hb : ∀ c ∈ cols, c.name.length ≤ 1000000000) (hr : rows.length ≤ 1000000000) (hi : ∀ r ∈ rows, ∀ c ∈ r, I64 c.num) :
    Calls Tryz.prog 9 #[v1, v2] w fun e w' => BldR w' w.heap.size cols rows e ∧ Fr Non w w' := by
  obtain ⟨A, c, rfl⟩ := h2.shape
  obtain ⟨A1, c1, rfl⟩ := h1.shape
  have H1 := Lib.hid h1
  have H2 := Lib.hid h2
  have HCk := Lib.hid (rcheck_any _ cols w h1 hl hb)
  have HE : Hid (segE cols rows = if chkC cols ≠ 0 ∨ rows.length = 0 then 1 else if 200 < rows.length then 4 else if rows.all (rowB cols) = true then 0 else 10) := Lib.hid rfl
  have HAll := Lib.hid (fun (hc : chkC cols = 0) (hrb : rows.all (rowB cols) = true) => kls_ok hc hrb hi)
  have hPl := kls_length cols rows
  have HAt := Lib.hid (kls_at cols rows)
  have HCh := Lib.hid (fun k h => chunk_take (P := kls cols rows) (k := k) h)
  have HSy := Lib.hid (fun k h => says_take (P := kls cols rows) (k := k) rows.length h)
  have HS0 : Hid (saysF rows.length ((kls cols rows).take 0) = Lib.uvarint rows.length) := Lib.hid (by simp [saysF])
  clear h1 h2 hb
  generalize hKs : kls cols rows = P at *
  have HKs := Lib.hid hKs
  clear hKs
  generalize hEs : segE cols rows = E at *
  have HEs := Lib.hid hEs
  clear hEs
  go_enter Tryz.func9, Tryz.ntmps9
  go_wp2_with fail
  refine HCk.out.mono ?_
  rintro e w1 ⟨rfl, f1⟩
  have F1 := Lib.hid f1
  clear f1 HCk
  by_cases hc : chkC cols = 0
  · have hcb : ((chkC cols) != 0) = false := by rw [hc]; rfl
    by_cases h0 : rows.length = 0
    · have hz : ((rows.length : Int) == 0) = true := by rw [h0]; rfl
      have HE1 : Hid (E = 1) := Lib.hid (by rw [HE.out, if_pos (.inr h0)])
      clear HE h0 hc
      go_wp2
      go_ret3
      exact ⟨bldR_err (HEs.out.trans HE1.out) (by decide) rfl, F1.out⟩
    · have hz : ((rows.length : Int) == 0) = false := by rw [beq_eq_false_iff_ne]; omega
      by_cases h200 : 200 < rows.length
      · have hd : decide (200 < (rows.length : Int)) = true := by simp; omega
        have HE1 : Hid (E = 4) := Lib.hid (by rw [HE.out, if_neg (by omega), if_pos h200])
        clear HE h0 hc h200
        go_wp2
        go_ret3
        exact ⟨bldR_err (HEs.out.trans HE1.out) (by decide) rfl, F1.out⟩
      · have hd : decide (200 < (rows.length : Int)) = false := by simp; omega
        have HE1 : Hid (E = if rows.all (rowB cols) = true then 0 else 10) := Lib.hid (by rw [HE.out, if_neg (by omega), if_neg h200])
        have HC0 := Lib.hid hc
        clear HE
        go_wp2
        go_loopw [7] (fun i wr => ∃ k : Nat, k ≤ rows.length ∧ i = .int .i64 k ∧ Hid ((rows.take k).all (rowB cols) = true) ∧ Fr Non w wr) (fun i _ => rows.length - (intOf i).toNat)
        case atStart => exact ⟨0, Nat.zero_le _, rfl, Lib.hid rfl, F1.out⟩
        case round =>
          clear F1
          obtain ⟨k, hk, rfl, HA, hF⟩ := hrel
          by_cases hlt : k < rows.length
          · obtain ⟨a, A', c', rfl, _, hc1, hc2⟩ := (H2.out.non hF).el k hlt
            have HR := Lib.hid (rrow_any _ _ cols rows[k] wr (H1.out.non hF) hc2 hl)
            have HF := Lib.hid hF
            have HM : Hid (rowB cols rows[k] = true → (rows.take (k + 1)).all (rowB cols) = true) := Lib.hid (fun h => by rw [List.take_succ_eq_append_getElem hlt, List.all_append, HA.out]; simp [h])
            have HX : Hid (rowB cols rows[k] = false → rows.all (rowB cols) = false) := Lib.hid (fun h => List.all_eq_false.2 ⟨rows[k], List.getElem_mem hlt, by simp [h]⟩)
            generalize rows[k] = r at *
            clear hc2 hF HA hc
            cases hb : rowB cols r with
            | true =>
              have HM2 := Lib.hid (HM.out hb)
              rw [hb] at HR
              clear hb HM HX
              go_wp2_with fail
              refine HR.out.mono ?_
              rintro e w2 ⟨rfl, f2⟩
              have HF2 := Lib.hid (HF.out.trans f2)
              clear HR f2 HF
              go_wp2
              go_roundw
              case rel => exact ⟨k + 1, by omega, by go_num, HM2, HF2.out⟩
              case measure => simp [intOf]; omega
            | false =>
              have HE2 : Hid (E = 10) := Lib.hid (by rw [HE1.out, HX.out hb]; rfl)
              rw [hb] at HR
              clear hb HM HX HE1
              go_wp2_with fail
              refine HR.out.mono ?_
              rintro e w2 ⟨rfl, f2⟩
              have HF2 := Lib.hid (HF.out.trans f2)
              clear HR f2 HF
              go_wp2
              go_ret3
              exact ⟨bldR_err (HEs.out.trans HE2.out) (by decide) rfl, HF2.out⟩
          · have hrb := HA.out
            rw [List.take_of_length_le (by omega)] at hrb
            have HE2 : Hid (E = 0) := Lib.hid (by rw [HE1.out, if_pos hrb])
            have HOk := Lib.hid (HAll.out hc hrb)
            have hn : rows.length ≤ 200 := by omega
            have hc6 := (chk_is hc).2.2.2
            have HPos : Hid (∀ r ∈ rows, r.length = cols.length) := Lib.hid (fun r hrm => (of_decide_eq_true (List.all_eq_true.1 hrb r hrm)).1.symm)
            have HCl := Lib.hid (fun k => chunks_len (P := P.take k) (fun p hp => HOk.out p (List.mem_of_mem_take hp)) hn)
            have HSl := Lib.hid (fun k => says_len (P := P.take k) (fun p hp => HOk.out p (List.mem_of_mem_take hp)) hn (by rw [List.length_take]; omega))
            have F1 := Lib.hid hF
            have hkr : k = rows.length := by omega
            have HKr := Lib.hid hkr
            have hdk : decide ((k : Int) < rows.length) = false := by simp; omega
            clear HA hrb hc HE1 HAll hF hkr
            go_wp2_with fail
            refine (rnum_any rows.length _ (by unfold two64; omega)).mono ?_
            rintro e w2 ⟨v2, rfl, ho2, f2⟩
            have hfa := (Fr.refl Non wr).alloc (.cells #[] 5)
            have ho1 := (own_lit0 wr w.heap.size wr.heap.size rfl F1.out.size).non f2
            have F2 := (F1.out.trans hfa).trans f2
            rw [← HS0.out] at ho2
            have ho2' := ho2.mono (F1.out.trans hfa).size
            have far2 : Far (.slice (some ⟨wr.heap.size, 0, none⟩) 0 0) v2 := by
              intro q h1 h2
              obtain rfl : wr.heap.size = q := by simpa [Value.ownBlock] using h1
              have := (ho2.lt _ h2).1
              simp at this
              omega
            clear ho2 f2 F1 hfa
            go_wp2
            go_loopw [8, 9, 10] (fun b s i wr => ∃ k : Nat, k ≤ cols.length ∧ i = .int .i64 k ∧ Own wr w.heap.size b ((P.take k).flatMap chunkF) ∧ Own wr w.heap.size s (saysF rows.length (P.take k)) ∧ Far b s ∧ Fr Non w wr) (fun _ _ i _ => cols.length - (intOf i).toNat)
            case atStart => exact ⟨0, Nat.zero_le _, rfl, ho1, ho2', far2, F2⟩
            case round =>
              clear ho1 ho2' F2 far2
              obtain ⟨k, hk, rfl, hO1, hO2, hfar, hF⟩ := hrel
              by_cases hlt : k < cols.length
              · obtain ⟨a, rfl, _⟩ := (H1.out.non hF).at_ k cols[k] (List.getElem?_eq_getElem hlt)
                have hkP : k < P.length := by omega
                have hok := HOk.out P[k] (List.getElem_mem hkP)
                have hPk := HAt.out k hlt hkP
                have hch := hok.chunk hn
                have hcl := HCl.out k
                have hsl := HSl.out k
                have HCh2 := Lib.hid (HCh.out k hkP)
                have HSy2 := Lib.hid (HSy.out k hkP)
                rw [List.length_take, Nat.min_eq_left (by omega)] at hcl
                rw [hPk] at hok hch HCh2 HSy2
                have hzz := zoneF_ok hok.cells
                have hmay := hok.may
                have hln := hok.len
                have hty := hok.ty
                have hzt := zoneF_txt hok.cells
                have hzl := zoneB_len (ty := cols[k].ty) (z := zoneF (colC rows k)) ⟨hzt.1, hzt.2.2.1⟩ ⟨hzt.2.1, hzt.2.2.2⟩
                have AC := Lib.hid (rcells_any _ rows k wr (H2.out.non hF) (by omega) (fun r hr => by rw [HPos.out r hr]; exact hlt))
                have HTy := Lib.hid (fun W (hf : Fr Non w W) => (ks_lit (H1.out.non hf) k cols[k] (List.getElem?_eq_getElem hlt)).2.1)
                dsimp only at hch hmay hln hzz hty
                have hcf : chunkF (cols[k].ty, colC rows k) = frameB (putC cols[k].ty (colC rows k)) := rfl
                rw [hcf] at hch HCh2 HSy2
                clear hcf hPk hok hzt
                generalize cols[k] = cc at *
                generalize colC rows k = l at *
                generalize (P.take k).flatMap chunkF = bB at *
                generalize saysF rows.length (P.take k) = sB at *
                obtain ⟨nm, ty, nl⟩ := cc
                dsimp only at hch hmay hzz hzl HCh2 HSy2 hty HTy
                have PC := Lib.hid (fun W v (hv : Cs W v l) => rputc_cl ty v l W hv hty hmay (by omega))
                have HF3 := Lib.hid hF
                have HO13 := Lib.hid hO1
                have HO23 := Lib.hid hO2
                have HFar := Lib.hid hfar
                have HZ := Lib.hid hzz
                obtain ⟨hch1, hch2, hch3⟩ := hch
                clear hF hO1 hO2 hfar hmay hzz hty HCh HSy HCl HSl HAt HOk
                go_wp2_with fail
                refine AC.out.mono ?_
                rintro e w4 ⟨u4, rfl, ho4, f4⟩
                have HF4 := Lib.hid (HF3.out.trans f4)
                have c4 := HTy.out w4 HF4.out
                have HO14 := Lib.hid (HO13.out.non f4)
                have HO24 := Lib.hid (HO23.out.non f4)
                have PC4 := Lib.hid (PC.out w4 u4 ho4.cs)
                have HC4 := Lib.hid ho4
                clear AC PC HF3 HO13 HO23 ho4 f4
                go_wp2_with fail
                refine PC4.out.mono ?_
                rintro e w5 ⟨u5, rfl, ho5, f5⟩
                have FP := Lib.hid (rput_any u5 _ w5 ho5.bs (by omega))
                have f5' := Lib.hid f5
                clear PC4 c4 f5 ho5
                go_wp2_with fail
                refine FP.out.mono ?_
                rintro e w6 ⟨u6, rfl, ho6, f6⟩
                have f46 := f5'.out.trans f6
                have HF6 := Lib.hid (HF4.out.trans f46)
                have HO16 := Lib.hid (HO14.out.non f46)
                have HO26 := Lib.hid (HO24.out.non f46)
                have HC6 := Lib.hid (HC4.out.non f46)
                have HLb6 := Lib.hid ho6.bs
                obtain ⟨A6, c6, rfl⟩ := ho6.bs.shape
                have hsz6 := HF6.out.size
                clear FP f46 f5' HF4 HO14 HO24 HC4 f6 ho6
                generalize frameB (putC ty l) = fB at *
                go_wp2_with (at_builtin; refine wpList_app2 rfl (.tmp 60) (.tmp 61) rfl w.heap.size _ _ bB fB rfl HO16.out rfl HLb6.out (by omega) hsz6 ?_; intro v7 w7 ho7 f7 wh7)
                have F7 : Fr Non w w7.drew := HF6.out.fresh f7.drew (fun q hq => (HO16.out.lt q hq).1)
                have HO27 := Lib.hid (HO26.out.fr f7.drew (fun q hq e => HFar.out q e hq))
                have HC7 := Lib.hid (HC6.out.fr f7.drew (fun q hq e => oc_other HC6.out HO16.out.ow cell_ne_u8 q hq e))
                have Far7 := Lib.hid (HFar.out.wh wh7 (fun q hq => (HO26.out.lt q hq).2))
                have ho7' : Own w7.drew w.heap.size v7 (bB ++ fB) := ho7
                have HO17 := Lib.hid ho7'
                have NM := Lib.hid (rnum_any fB.length w7.drew (by unfold two64; omega))
                have c7 := HTy.out _ F7
                have HF7 := Lib.hid F7
                have ZP := Lib.hid (fun W => rzput_any ty (zoneF l) W HZ.out.1 HZ.out.2)
                have hul := Lib.uvarint_length64 (show fB.length < 18446744073709551616 by omega)
                have e1 : IntKind.u64.wrap (fB.length : Int) = fB.length := IntWalk.u64_in _ ⟨by omega, by omega⟩
                clear HF6 HO16 HO26 HC6 HFar ho7 ho7' f7 wh7 HLb6 F7
                generalize zoneB ty (zoneF l) = zB at *
                generalize Lib.uvarint fB.length = nB at *
                go_region_held3 (fun W => W.cell? { block := (a.add (k * 3)).block, off := (a.add (k * 3)).off + 1 } = some (.int .i64 ty)) (first | exact c7 | exact c8 | exact c9 | exact c10 | exact c11 | exact c12 | fail) (first | (go_at_call 34; (with_reducible refine NM.out.mono ?_); rintro e w8 ⟨v8, rfl, ho8, f8⟩; have F8 := HF7.out.trans f8; have c8 := HTy.out _ F8; have HO18 := HO17.out.non f8; have HO28 := HO27.out.non f8; have HC8 := HC7.out.non f8; have hob8 := ho8.bs; have hsz8 := F8.size) | (refine step_app2 rfl (.tmp 63) (.tmp 67) (by rfl) w.heap.size _ v8 sB nB (by rfl) HO28 (by rfl) hob8 (by omega) hsz8 ?_; intro v9 w9 ho9 f9 wh9; have F9 := F8.fresh f9 (fun q hq => (HO28.lt q hq).1); have c9 := HTy.out _ F9; have HO19 := HO18.fr f9 (fun q hq e => Far7.out q hq e); have HC9 := HC8.fr f9 (fun q hq e => oc_other HC8 HO28.ow cell_ne_u8 q hq e); have Far9 := Far7.out.symm.wh wh9 (fun q hq => (HO18.lt q hq).2); have ZO := rzoneF_any u4 l w9 HC9.cs (fun q hq => (HC9.lt q hq).2) (by omega)) | (go_at_call 38; (with_reducible refine ZO.mono ?_); rintro e wa ⟨rfl, fa⟩; have Fa := F9.trans fa; have c10 := HTy.out _ Fa) | (go_at_call 37; (with_reducible refine (ZP.out _).mono ?_); rintro e wb ⟨vb, rfl, hob, fb⟩; have fab := fa.trans fb; have Fb := F9.trans fab; have c11 := HTy.out _ Fb; have HO2b := ho9.non fab; have hszb := Fb.size; have hobs := hob.bs; have hln2 : (sB ++ nB).length ≤ 1000 := (by rw [List.length_append]; omega)) | (refine step_app2 rfl (.tmp 68) (.tmp 76) (by rfl) w.heap.size v9 vb (sB ++ nB) zB (by rfl) HO2b (by rfl) hobs (by omega) hszb ?_; intro vc wc hoc fc whc; have Fc := Fb.fresh fc (fun q hq => (HO2b.lt q hq).1); have c12 := HTy.out _ Fc))
                have HO1b := HO19.non fab
                have HO1c := HO1b.fr fc (fun q hq e => Far9 q e hq)
                have farc : Far v7 vc := (Far9.wh whc (fun q hq => (HO1b.lt q hq).2)).symm
                have HRel := Lib.hid (And.intro HO1c (And.intro hoc (And.intro farc Fc)))
                clear HO1b HO1c Fc farc hoc HO2b Fb c7 c8 c9 c10 c11 c12 fab fa fb fc whc hob hobs ZO ZP HO19 HO17 HO27 HC7
                go_wp2
                go_roundw
                case rel => exact ⟨k + 1, by omega, by go_num, by rw [HCh2.out]; exact HRel.out.1, by rw [HSy2.out]; exact HRel.out.2.1, HRel.out.2.2.1, HRel.out.2.2.2⟩
                case measure => simp [intOf]; omega
              · have hkc : k = cols.length := by omega
                have htk : P.take k = P := List.take_of_length_le (by omega)
                have hsl := HSl.out k
                have hcl := HCl.out k
                rw [htk] at hO1 hO2 hsl hcl
                have HSeg : Hid (segF rows.length P = P.flatMap chunkF ++ frameB (saysF rows.length P)) := Lib.hid rfl
                have HFt : Hid (footF rows.length P = frameB (saysF rows.length P)) := Lib.hid rfl
                have hfl := Lib.uvarint_length64 (show (saysF rows.length P).length < 18446744073709551616 by omega)
                have hfb : (frameB (saysF rows.length P)).length ≤ 1000000 := by rw [frame_length]; omega
                have FP := Lib.hid (rput_any _ _ wr hO2.bs (by omega))
                have HO1 := Lib.hid hO1
                have HF := Lib.hid hF
                have hPl6 : (P.flatMap chunkF).length ≤ 1000000 := by omega
                clear hO1 hO2 hfar hF HCh HSy HCl HSl HAt HOk hfl htk hkc hsl hcl
                generalize frameB (saysF rows.length P) = fB at *
                generalize P.flatMap chunkF = bB at *
                go_wp2_with fail
                refine FP.out.mono ?_
                rintro e w3 ⟨v3, rfl, ho3, f3⟩
                have HF3 := Lib.hid (HF.out.trans f3)
                have HO3 := Lib.hid (HO1.out.non f3)
                have hsz3 := HF3.out.size
                have HB3 := Lib.hid ho3.bs
                obtain ⟨A3, c3, rfl⟩ := ho3.bs.shape
                clear FP HF HO1 f3 ho3
                go_wp2_with (at_builtin; refine wpList_app2 rfl (.tmp 80) (.tmp 81) rfl w.heap.size _ _ bB fB rfl HO3.out rfl HB3.out (by omega) hsz3 ?_; intro v4 w4 ho4 f4 wh4)
                go_ret3
                exact ⟨bldR_ok (HEs.out.trans HE2.out) HKs.out HSeg.out HFt.out ho4, HF3.out.fresh f4 (fun q hq => (HO3.out.lt q hq).1)⟩
  · have hcb : ((chkC cols) != 0) = true := by rw [bne_iff_ne]; exact hc
    have HE1 : Hid (E = 1) := Lib.hid (by rw [HE.out, if_pos (.inl hc)])
    clear HE hc
    go_wp2
    go_ret3
    exact ⟨bldR_err (HEs.out.trans HE1.out) (by decide) rfl, F1.out⟩
end Go.Proofs.YtheefloegbkflaaGreatDoor


namespace Go.Proofs.YtheefloegbkflaaGreatDoor
set_option linter.unusedVariables false
set_option linter.unusedSimpArgs false
set_option maxRecDepth 100000
open Go.RowKit

theorem snum13_any (z : Int) (w : World) : Calls Tryz.prog 10 #[.int .i64 z] w fun e w' => e = .returned (.int .i64 z) ∧ w = w' := by
  go_enter Tryz.func10, Tryz.ntmps10
  go_wp2
  go_ret
  exact ⟨rfl, rfl⟩

set_option maxHeartbeats 2000000 in
theorem rrows9_any (v1 v2 : Value) (a b : List (List Cl)) (w : World) (h1 : Rs w v1 a) (h2 : Rs w v2 b) (hl1 : a.length ≤ 1000000000) (hl2 : b.length ≤ 1000000000) (ha : ∀ r ∈ a, r.length ≤ 9223372036854775807) (hb : ∀ r ∈ b, r.length ≤ 9223372036854775807) :
    Calls Tryz.prog 13 #[v1, v2] w fun e w' => e = .returned (.bool (decide (a = b))) ∧ Fr Non w w' := by
  obtain ⟨A1, c1, rfl⟩ := h1.shape
  obtain ⟨A2, c2, rfl⟩ := h2.shape
  have H1 := Lib.hid h1
  have H2 := Lib.hid h2
  have HA := Lib.hid ha
  have HB := Lib.hid hb
  clear h1 h2 ha hb
  by_cases hlen : a.length = b.length
  · have hb : ((a.length : Int) != b.length) = false := by rw [hlen]; simp
    have hle : a.length ≤ b.length := by omega
    have hge : b.length ≤ a.length := by omega
    clear hlen
    go_enter Tryz.func13, Tryz.ntmps13
    go_wp2
    go_loopw [5] (fun i wr => ∃ k : Nat, k ≤ a.length ∧ i = .int .i64 k ∧ Hid (a.take k = b.take k) ∧ Fr Non w wr) (fun i _ => a.length - (intOf i).toNat)
    case atStart => exact ⟨0, Nat.zero_le _, rfl, Lib.hid rfl, Fr.refl _ _⟩
    case round =>
      clear hb
      obtain ⟨k, hk, rfl, HT, hF⟩ := hrel
      by_cases hlt : k < a.length
      · have hlt2 : k < b.length := by omega
        have hFd : Fr Non w wr.drew := hF.drew
        obtain ⟨a1, A1', c1', rfl, _, q1, hc1⟩ := (H1.out.non hFd).el k hlt
        obtain ⟨a2, A2', c2', rfl, _, q2, hc2⟩ := (H2.out.non hFd).el k hlt2
        have CA := call_any _ _ a[k] b[k] wr.drew hc1 hc2 (HA.out _ (List.getElem_mem hlt)) (HB.out _ (List.getElem_mem hlt2))
        have HFd := Lib.hid hFd
        by_cases he : a[k] = b[k]
        · have HE2 := Lib.hid (take_eq_succ hlt hlt2 HT.out he)
          rw [decide_eq_true he] at CA
          replace CA := Lib.hid CA
          clear hc1 hc2 hFd hF HT he
          generalize a[k] = x at *
          generalize b[k] = y at *
          go_wp2
          go_region_held3 (fun W => W.cell? (a1.add k) = some (.slice A1' x.length c1') ∧ W.cell? (a2.add k) = some (.slice A2' y.length c2')) (first | exact ⟨q1, q2⟩ | exact ⟨q3, q4⟩ | fail) (first | (go_at_call 21; (with_reducible refine CA.out.mono ?_); rintro e w3 ⟨rfl, f3⟩; have q3 := (f3.cell (World.block_lt_of_cell? _ _ q1) (fun e => e)).trans q1; have q4 := (f3.cell (World.block_lt_of_cell? _ _ q2) (fun e => e)).trans q2))
          have F3 := HFd.out.trans f3
          go_wp2
          go_roundw
          case rel => exact ⟨k + 1, by omega, by go_num, HE2, F3⟩
          case measure => simp [intOf]; omega
        · have HN2 : Hid (decide (a = b) = false) := Lib.hid (decide_eq_false (fun h => take_ne hlt hlt2 he (by rw [h])))
          rw [decide_eq_false he] at CA
          replace CA := Lib.hid CA
          clear hc1 hc2 hFd hF HT he
          generalize a[k] = x at *
          generalize b[k] = y at *
          go_wp2
          go_region_held3 (fun W => W.cell? (a1.add k) = some (.slice A1' x.length c1') ∧ W.cell? (a2.add k) = some (.slice A2' y.length c2')) (first | exact ⟨q1, q2⟩ | exact ⟨q3, q4⟩ | fail) (first | (go_at_call 21; (with_reducible refine CA.out.mono ?_); rintro e w3 ⟨rfl, f3⟩; have q3 := (f3.cell (World.block_lt_of_cell? _ _ q1) (fun e => e)).trans q1; have q4 := (f3.cell (World.block_lt_of_cell? _ _ q2) (fun e => e)).trans q2))
          have F3 := HFd.out.trans f3
          go_wp2
          go_ret
          rw [HN2.out]
          exact ⟨rfl, F3⟩
      · have hab : a = b := by
          have h := HT.out
          rwa [List.take_of_length_le (by omega), List.take_of_length_le (by omega)] at h
        have HD : Hid (decide (a = b) = true) := Lib.hid (decide_eq_true hab)
        clear HT hab
        go_wp2
        go_ret
        rw [HD.out]
        exact ⟨rfl, hF⟩
  · have hb : ((a.length : Int) != b.length) = true := by rw [bne_iff_ne]; omega
    have HD : Hid (decide (a = b) = false) := Lib.hid (decide_eq_false (fun h => hlen (by rw [h])))
    clear hlen
    go_enter Tryz.func13, Tryz.ntmps13
    go_wp2
    go_ret
    rw [HD.out]
    exact ⟨rfl, Fr.refl _ _⟩

/-- what Small answers -/
def SmR (cols : List Co) (rows : List (List Cl)) (e : Ending) : Prop := ∃ s, e = .returned (.bool s) ∧ (s = true → cols.length ≤ 20 ∧ (∀ c ∈ cols, c.name.length ≤ 100) ∧ rows.length ≤ 210)
theorem smR_no {cols : List Co} {rows : List (List Cl)} : SmR cols rows (.returned (.bool false)) := ⟨false, rfl, fun h => by cases h⟩
theorem smR_yes {cols : List Co} {rows : List (List Cl)} (h : cols.length ≤ 20 ∧ (∀ c ∈ cols, c.name.length ≤ 100) ∧ rows.length ≤ 210) : SmR cols rows (.returned (.bool true)) := ⟨true, rfl, fun _ => h⟩

set_option maxHeartbeats 2000000 in
theorem small13_any (v1 v2 : Value) (cols : List Co) (rows : List (List Cl)) (w : World) (h1 : Ks w v1 cols) (h2 : Rs w v2 rows) :
    Calls Tryz.prog 6 #[v1, v2] w fun e w' => SmR cols rows e ∧ Fr Non w w' := by
  obtain ⟨A1, c1, rfl⟩ := h1.shape
  obtain ⟨A2, c2, rfl⟩ := h2.shape
  have H1 := Lib.hid h1
  have H2 := Lib.hid h2
  clear h1 h2
  go_enter Tryz.func6, Tryz.ntmps6
  go_wp2
  go_loopw [5] (fun i wr => ∃ k : Nat, k ≤ rows.length ∧ k ≤ 250 ∧ i = .int .i64 k ∧ Fr Non w wr) (fun i _ => 250 - (intOf i).toNat)
  case atStart => exact ⟨0, Nat.zero_le _, Nat.zero_le _, rfl, Fr.refl _ _⟩
  case round =>
    obtain ⟨k, hk, hk2, rfl, hF⟩ := hrel
    have HF := Lib.hid hF
    by_cases hgo : k < rows.length ∧ k < 250
    · obtain ⟨hlt, h250⟩ := hgo
      obtain ⟨a, A', c', rfl, _, q1, hc1⟩ := (H2.out.non hF).el k hlt
      have HS := Lib.hid (smallC_any _ rows[k] wr hc1)
      clear hF hc1
      generalize rows[k] = r at *
      by_cases hr : 10 < r.length
      · have d1 : decide (10 < (r.length : Int)) = true := decide_eq_true (by omega)
        clear hr HS
        go_wp2
        go_ret
        exact ⟨smR_no, HF.out⟩
      · have d1 : decide (10 < (r.length : Int)) = false := decide_eq_false (by omega)
        clear hr
        go_wp2_with fail
        refine HS.out.mono ?_
        rintro e w2 ⟨s, rfl, _, f2⟩
        have HF2 := Lib.hid (HF.out.trans f2)
        clear HS HF f2
        cases s with
        | true =>
          go_wp2
          go_roundw
          case rel => exact ⟨k + 1, by omega, by omega, by go_num, HF2.out⟩
          case measure => simp [intOf]; omega
        | false =>
          go_wp2
          go_ret
          exact ⟨smR_no, HF2.out⟩
    · have HK := Lib.hid (ksmall_any _ cols wr (H1.out.non hF))
      have HGo := Lib.hid hgo
      clear hF
      by_cases hlt : k < rows.length
      · have h250 : ¬ k < 250 := fun h => hgo ⟨hlt, h⟩
        clear hgo
        go_wp2_with fail
        refine HK.out.mono ?_
        rintro e w2 ⟨s, rfl, hs, f2⟩
        have HF2 := Lib.hid (HF.out.trans f2)
        have HSs := Lib.hid hs
        clear HK hs f2
        cases s with
        | true =>
          have d2 : decide ((rows.length : Int) ≤ 210) = false := decide_eq_false (by omega)
          go_wp2
          go_ret
          exact ⟨smR_no, HF2.out⟩
        | false =>
          go_wp2
          go_ret
          exact ⟨smR_no, HF2.out⟩
      · clear hgo
        go_wp2_with fail
        refine HK.out.mono ?_
        rintro e w2 ⟨s, rfl, hs, f2⟩
        have HF2 := Lib.hid (HF.out.trans f2)
        have HSs := Lib.hid hs
        clear HK hs f2
        cases s with
        | true =>
          by_cases h210 : rows.length ≤ 210
          · have d2 : decide ((rows.length : Int) ≤ 210) = true := decide_eq_true (by omega)
            go_wp2
            go_ret
            exact ⟨smR_yes ⟨(HSs.out (by first | rfl | trivial)).1, (HSs.out (by first | rfl | trivial)).2, h210⟩, HF2.out⟩
          · have d2 : decide ((rows.length : Int) ≤ 210) = false := decide_eq_false (by omega)
            go_wp2
            go_ret
            exact ⟨smR_no, HF2.out⟩
        | false =>
          go_wp2
          go_ret
          exact ⟨smR_no, HF2.out⟩

/-! ### What is built -/
theorem segE_zero {cols : List Co} {rows : List (List Cl)} (h : segE cols rows = 0) : chkC cols = 0 ∧ 1 ≤ rows.length ∧ rows.length ≤ 200 ∧ rows.all (rowB cols) = true := by
  unfold segE at h
  split at h
  · cases h
  · rename_i h1
    split at h
    · cases h
    · split at h
      · rename_i h2 h3
        refine ⟨?_, ?_, by omega, h3⟩
        · exact Classical.byContradiction fun e => h1 (.inl e)
        · have : ¬ rows.length = 0 := fun e => h1 (.inr e)
          omega
      · cases h
theorem seg_all {cols : List Co} {rows : List (List Cl)} (h : segE cols rows = 0) (hi : ∀ r ∈ rows, ∀ c ∈ r, I64 c.num) : (segF rows.length (kls cols rows)).length ≤ 63000 ∧ rowsR cols (segF rows.length (kls cols rows)) (footF rows.length (kls cols rows)).length = (0, rows) := by
  obtain ⟨h1, h2, h3, h4⟩ := segE_zero h
  exact ⟨seg_len (kls_ok h1 h4 hi) h3 (by rw [kls_length]; exact (chk_is h1).2.2.2), rowsR_own h1 h4 hi h3 h2⟩
theorem segE_ex : segE [⟨[97], 1, false⟩] [[⟨false, 5, []⟩]] = 0 := by
  unfold segE
  rw [if_neg (by rintro (h | h); exact h chkC_a; cases h), if_neg (by decide), if_pos (by decide +kernel)]

set_option maxHeartbeats 4000000 in
theorem slive13_any (w : World) (ht : Tab w) : Calls Tryz.prog 7 #[] w fun e w' => e = .returned (.bool true) ∧ Fr Non w w' := by
  have f1 := (Fr.refl Non w).alloc (.cells #[.string ⟨#[97]⟩, .int .i64 1, .bool false] 69)
  have f2 := f1.alloc (.cells #[.bool false, .int .i64 5, .string ⟨#[]⟩] 54)
  have f3 := f2.alloc (.cells #[.slice (some ⟨w.heap.size + 1, 0, none⟩) 1 1] 59)
  have k1 : Ks (((w.alloc (.cells #[.string ⟨#[97]⟩, .int .i64 1, .bool false] 69)).alloc (.cells #[.bool false, .int .i64 5, .string ⟨#[]⟩] 54)).alloc (.cells #[.slice (some ⟨w.heap.size + 1, 0, none⟩) 1 1] 59)) (.slice (some ⟨w.heap.size, 0, none⟩) 1 1) [⟨[97], 1, false⟩] :=
    ((((no_lit (E := 69) fd_co w 0 _ [⟨[97], 1, false⟩] #[.string ⟨#[97]⟩, .int .i64 1, .bool false] rfl rfl (Nat.zero_le _) (by decide)).alloc _).alloc _).ns fd_co)
  have c1 := (oc_lit (w.alloc (.cells #[.string ⟨#[97]⟩, .int .i64 1, .bool false] 69)) 0 (w.heap.size + 1) [⟨false, 5, []⟩] #[.bool false, .int .i64 5, .string ⟨#[]⟩] rfl (by simp) (Nat.zero_le _) (by decide)).alloc (.cells #[.slice (some ⟨w.heap.size + 1, 0, none⟩) 1 1] 59)
  have o1 := ow_lit (f := slV) (E := 59) ((w.alloc (.cells #[.string ⟨#[97]⟩, .int .i64 1, .bool false] 69)).alloc (.cells #[.bool false, .int .i64 5, .string ⟨#[]⟩] 54)) 0 (w.heap.size + 2) [⟨some ⟨w.heap.size + 1, 0, none⟩, 1, 1⟩] #[.slice (some ⟨w.heap.size + 1, 0, none⟩) 1 1] rfl (by simp) (Nat.zero_le _) (by unfold maxLen; simp)
  have r1 : Ro (((w.alloc (.cells #[.string ⟨#[97]⟩, .int .i64 1, .bool false] 69)).alloc (.cells #[.bool false, .int .i64 5, .string ⟨#[]⟩] 54)).alloc (.cells #[.slice (some ⟨w.heap.size + 1, 0, none⟩) 1 1] 59)) 0 (.slice (some ⟨w.heap.size + 2, 0, none⟩) 1 1) [[⟨false, 5, []⟩]] :=
    ⟨_, rfl, o1, fun i a b => by
      obtain rfl : i = 0 := by simpa using a
      exact c1⟩
  have hi : ∀ r ∈ ([[⟨false, 5, []⟩]] : List (List Cl)), ∀ c ∈ r, I64 c.num := by
    intro r hr c hc
    simp at hr
    subst hr
    simp at hc
    subst hc
    unfold I64; decide
  have HBu := Lib.hid (build_any _ _ [⟨[97], 1, false⟩] [[⟨false, 5, []⟩]] _ k1 r1.rs (ht.non f3) (by decide) (by intro c hc; simp at hc; subst hc; decide) (by decide) hi)
  have hs := seg_all segE_ex hi
  have HK := Lib.hid k1
  have HF3 := Lib.hid f3
  have HT := Lib.hid ht
  have HRo := Lib.hid (fun W (hf : Fr Non w W) (h1 : Ks W (.slice (some ⟨w.heap.size, 0, none⟩) 1 1) [⟨[97], 1, false⟩]) (hlt : w.heap.size < W.heap.size) (u : Value) (hu : Bs W u (segF 1 (kls [⟨[97], 1, false⟩] [[⟨false, 5, []⟩]]))) => srows_any _ u [⟨[97], 1, false⟩] _ ((footF 1 (kls [⟨[97], 1, false⟩] [[⟨false, 5, []⟩]])).length : Nat) W h1 hu (ht.non hf) (fun q hq => by have h2 : w.heap.size = q := (by simpa [Value.ownBlock] using hq); omega) (by decide) (by intro c hc; simp at hc; subst hc; decide) (Nat.le_trans (show (segF 1 (kls [⟨[97], 1, false⟩] [[⟨false, 5, []⟩]])).length ≤ 63000 from hs.1) (by decide)))
  have HRR := Lib.hid hs.2
  unfold BldR at HBu
  clear f1 f2 f3 k1 c1 o1 r1 hs
  go_enter Tryz.func7, Tryz.ntmps7
  go_wp2_with fail
  refine HBu.out.mono ?_
  rintro e w4 ⟨hB, f4⟩
  rcases hB with ⟨_, u4, rfl, ho4⟩ | ⟨hne, _⟩
  · have HF4 := Lib.hid (HF3.out.trans f4)
    have hlt4 : w.heap.size < w4.heap.size := by have h := f4.size; simp at h; omega
    have HRo4 := HRo.out w4 HF4.out (HK.out.non f4) hlt4 u4 ho4.bs
    obtain ⟨A4, n4, c4, rfl⟩ : ∃ A n c, u4 = Value.slice A n c := by obtain ⟨A, c, h⟩ := ho4.bs.shape; exact ⟨A, _, c, h⟩
    have HRR' := HRR.out
    simp only [List.length_cons, List.length_nil, Nat.zero_add] at HRR'
    rw [HRR'] at HRo4
    unfold RowR at HRo4
    dsimp only at HRo4
    have HRo5 := Lib.hid HRo4
    clear HBu f4 ho4 HRo HRo4 HRR'
    go_wp2_with fail
    refine HRo5.out.mono ?_
    rintro e w5 ⟨⟨u5, rfl, ho5⟩, f5⟩
    have HF5 := Lib.hid (HF4.out.trans f5)
    obtain ⟨A5, c5, rfl⟩ : ∃ A c, u5 = .slice A 1 c := ho5.shape
    obtain ⟨a5, A6, c6, rfl, -, q1', hc1'⟩ := ho5.rs.el 0 (by decide)
    have q1 : w5.cell? (a5.add 0) = some (.slice A6 1 c6) := q1'
    have hc1 : Cs w5 (.slice A6 1 c6) [⟨false, 5, []⟩] := hc1'
    obtain ⟨a6, rfl, -, -, hel⟩ := hc1.addr (by decide)
    obtain ⟨p0, p1, p2⟩ := (hel 0 (by decide)).lit
    simp only [List.getElem_cons_zero, Nat.zero_mul] at p0 p1 p2
    have q1b := q1
    rw [add0 a5] at q1b
    have p1b := p1
    rw [add0 a6] at p1b
    clear q1' hc1' q1 p0 p1 p2
    have HN := Lib.hid (fun z W => snum13_any z W)
    clear HRo5 f5 ho5 hc1 hel
    go_wp2_with fail
    refine (HN.out _ _).mono ?_
    rintro e w6 ⟨rfl, rfl⟩
    go_wp2_with fail
    refine (HN.out _ _).mono ?_
    rintro e w7 ⟨rfl, rfl⟩
    go_wp2
    go_ret
    exact ⟨rfl, HF5.out⟩
  · exact absurd segE_ex hne
end Go.Proofs.YtheefloegbkflaaGreatDoor


namespace Go.Proofs.YtheefloegbkflaaGreatDoor
set_option linter.unusedVariables false
set_option linter.unusedSimpArgs false
set_option maxRecDepth 100000
open Go.RowKit

set_option maxHeartbeats 4000000 in
theorem segBuilds_walk (v1 v2 : Value) (cols : List Co) (rows : List (List Cl)) (w : World) (h1 : Ks w v1 cols) (h2 : Rs w v2 rows) (ht : Tab w) (hvl : ∀ q, v1.ownBlock = some q → q < w.heap.size) (hi : ∀ r ∈ rows, ∀ c ∈ r, I64 c.num) (hn : ∀ r ∈ rows, r.length ≤ 9223372036854775807) :
    Calls Tryz.prog 3 #[v1, v2] w fun e w' => e = .returned (.bool true) ∧ Below w.heap.size w w' := by
  obtain ⟨A1, c1, rfl⟩ := h1.shape
  obtain ⟨A2, c2, rfl⟩ := h2.shape
  have H1 := Lib.hid h1
  have H2 := Lib.hid h2
  have HT := Lib.hid ht
  have HVL := Lib.hid hvl
  have HI := Lib.hid hi
  have HN := Lib.hid hn
  have HSm := Lib.hid (small13_any _ _ cols rows w h1 h2)
  have HLv := Lib.hid (fun W (hf : Fr Non w W) => slive13_any W (ht.non hf))
  unfold SmR at HSm
  clear h1 h2 ht hvl hi hn
  go_enter Tryz.func3, Tryz.ntmps3
  go_wp2_with fail
  refine HSm.out.mono ?_
  rintro e w1 ⟨⟨s1, rfl, hs1⟩, f1⟩
  have HF1 := Lib.hid f1
  cases s1
  · clear hs1 HSm f1
    go_wp2_with fail
    refine (HLv.out _ HF1.out).mono ?_
    rintro e wl ⟨rfl, fl⟩
    go_wp2
    go_ret
    exact ⟨rfl, (HF1.out.trans fl).below⟩
  · obtain ⟨ha, hb, hr⟩ := hs1 rfl
    have ha9 : cols.length ≤ 1000000000 := by omega
    have hr9 : rows.length ≤ 1000000000 := by omega
    have hb9 : ∀ c ∈ cols, c.name.length ≤ 1000000000 := fun c hc => Nat.le_trans (hb c hc) (by decide)
    have HB := Lib.hid (fun W (hf : Fr Non w W) => build_any _ _ cols rows W (H1.out.non hf) (H2.out.non hf) (HT.out.non hf) ha9 hb9 hr9 HI.out)
    have HR := Lib.hid (fun W (hf : Fr Non w W) => rbuild_any _ _ cols rows W (H1.out.non hf) (H2.out.non hf) ha9 hb9 hr9 HI.out)
    have HRw := Lib.hid (fun W (hf : Fr Non w W) u b n (hu : Bs W u b) (hb : b.length ≤ 100000) => srows_any _ u cols b n W (H1.out.non hf) hu (HT.out.non hf) (fun q hq => Nat.lt_of_lt_of_le (HVL.out q hq) hf.size) ha9 hb9 hb)
    have HCw := Lib.hid (fun W (hf : Fr Non w W) u (hu : Rs W u rows) => rrows9_any u _ rows rows W hu (H2.out.non hf) hr9 hr9 HN.out HN.out)
    have HNum := Lib.hid (fun z W => snum13_any z W)
    unfold BldR at HB HR
    unfold RowR at HRw
    have HAll := Lib.hid (fun h => seg_all (cols := cols) h HI.out)
    have HB1 := Lib.hid (HB.out w1 f1)
    have he : decide (rows = rows) = true := decide_eq_true rfl
    rw [he] at HCw
    clear hs1 HSm f1 hb hb9 HB ha hr ha9 hr9 he
    generalize hE : segE cols rows = E at *
    generalize segF rows.length (kls cols rows) = sg at *
    generalize (footF rows.length (kls cols rows)).length = fl at *
    clear hE
    go_wp2_with fail
    refine HB1.out.mono ?_
    rintro e w2 ⟨hB, f2⟩
    rcases hB with ⟨hE0, u2, rfl, ho2⟩ | ⟨hE0, rfl⟩
    · subst hE0
      obtain ⟨hlen, hrr⟩ := HAll.out rfl
      have hlen2 : sg.length ≤ 100000 := by omega
      have HF2 := Lib.hid (HF1.out.trans f2)
      have HO2 := Lib.hid ho2.bs
      have HR2 := Lib.hid (HR.out w2 HF2.out)
      have HRR := Lib.hid hrr
      clear HB1 HF1 f2 ho2 hrr HR
      obtain ⟨A3, c3, rfl⟩ : ∃ A c, u2 = .slice A sg.length c := HO2.out.shape
      go_wp2_with fail
      refine HR2.out.mono ?_
      rintro e w3 ⟨hB, f3⟩
      rcases hB with ⟨_, u3, rfl, ho3⟩ | ⟨hne, _⟩
      · have HF3 := Lib.hid (HF2.out.trans f3)
        have HO23 := Lib.hid (HO2.out.non f3)
        have HO33 := Lib.hid ho3.bs
        have HRw3 := HRw.out w3 HF3.out _ sg fl HO23.out hlen2
        rw [HRR.out] at HRw3
        have HRw4 := Lib.hid HRw3
        obtain ⟨A4, c4, rfl⟩ : ∃ A c, u3 = .slice A sg.length c := HO33.out.shape
        have HSame := Lib.hid (same_any _ _ sg sg w3 HO23.out HO33.out)
        rw [beq_self_eq_true] at HSame
        have HSame2 := Lib.hid HSame.out
        clear HR2 HF2 f3 ho3 HO2 HRw HRw3 HSame
        go_wp2_with fail
        refine (HNum.out _ _).mono ?_
        rintro e w4 ⟨rfl, rfl⟩
        go_wp2_with fail
        refine HSame2.out.mono ?_
        rintro e w4 ⟨rfl, rfl⟩
        go_wp2_with fail
        refine HRw4.out.mono ?_
        rintro e w5 ⟨⟨u5, rfl, ho5⟩, f5⟩
        have HF5 := Lib.hid (HF3.out.trans f5)
        have HC5 := Lib.hid (HCw.out w5 HF5.out u5 ho5.rs)
        have HL5 := HLv.out
        clear HRw4 HF3 f5 ho5 HCw HSame2
        go_wp2_with fail
        refine (HNum.out _ _).mono ?_
        rintro e w6 ⟨rfl, rfl⟩
        go_wp2_with fail
        refine HC5.out.mono ?_
        rintro e w6 ⟨rfl, f6⟩
        have HF6 := Lib.hid (HF5.out.trans f6)
        clear HC5 HF5 f6 HL5
        go_wp2_with fail
        refine (HLv.out _ HF6.out).mono ?_
        rintro e wl ⟨rfl, fl⟩
        go_wp2
        go_ret
        exact ⟨rfl, (HF6.out.trans fl).below⟩
      · exact absurd rfl hne
    · have HF2 := Lib.hid (HF1.out.trans f2)
      have HR2 := Lib.hid (HR.out w2 HF2.out)
      have hEb : (E != 0) = true := by rw [bne_iff_ne]; exact hE0
      have HE0 := Lib.hid hE0
      clear HB1 HF1 f2 HR HRw HCw HAll hE0
      go_wp2_with fail
      refine HR2.out.mono ?_
      rintro e w3 ⟨hB, f3⟩
      rcases hB with ⟨h0, _⟩ | ⟨_, rfl⟩
      · exact absurd h0 HE0.out
      · have HF3 := Lib.hid (HF2.out.trans f3)
        have HSame := Lib.hid (same_any _ _ [] [] w3 (Bs.nil_ w3) (Bs.nil_ w3))
        rw [show (([] : List UInt8) == []) = true from rfl] at HSame
        have HSame2 := Lib.hid HSame.out
        clear HR2 HF2 f3 HSame
        go_wp2_with fail
        refine (HNum.out _ _).mono ?_
        rintro e w4 ⟨rfl, rfl⟩
        go_wp2_with fail
        refine HSame2.out.mono ?_
        rintro e w4 ⟨rfl, rfl⟩
        go_wp2_with fail
        refine (HLv.out _ HF3.out).mono ?_
        rintro e wl ⟨rfl, fl⟩
        go_wp2
        go_ret
        exact ⟨rfl, (HF3.out.trans fl).below⟩
end Go.Proofs.YtheefloegbkflaaGreatDoor


namespace Go.Proofs.YtheefloegbkflaaGreatDoor
set_option linter.unusedVariables false
set_option linter.unusedSimpArgs false
set_option maxRecDepth 100000
open Go.ChangeShapes Go.WideShapes Go.ChangeAt Go.RowKit

/-- the table lies as the text lays it -/
theorem tab_in {W : World} {rest : List (String × DataW Unit)} (h : laidMet Tryz.prog (("firkin/crc.halves", Rows.laid_firkin_crc_halves) :: rest) W) : Tab W := by
  have hT : Lib.TabIs Tryz.prog W "firkin/crc.halves" .u32 halfTab := Lib.tabIs_of_head (n := 16) (show Tryz.prog.globalNamed "firkin/crc.halves" = some 0 by kernel_rfl)
    (show (Tryz.prog.globals[0]?).map (·.type) = some 198 by kernel_rfl) Tryz.underlying198 Tryz.underlying112 (by kernel_rfl) (by kernel_rfl) (h : laidMet Tryz.prog (("firkin/crc.halves", Lib.tabData .u32 halfTab) :: rest) W)
  intro i hi
  have := hT.cell (show Tryz.prog.globalNamed "firkin/crc.halves" = some 0 by kernel_rfl) i (by simpa [halfTab] using hi)
  rw [this]
  have hp : 0 ≤ halfTab.getD i 0 := by
    have all : ∀ j : Fin 16, 0 ≤ halfTab.getD j.1 0 := by decide
    exact all ⟨i, hi⟩
  unfold half
  rw [Int.toNat_of_nonneg hp]

theorem tab_inH {W : World} (h : laidMetH Tryz.prog [("firkin/crc.halves", Rows.laid_firkin_crc_halves)] W) : Tab W := by
  rw [MakeChecks.laidMetH_plain _ _ _ (by kernel_rfl)] at h
  exact tab_in h

end Go.Proofs.YtheefloegbkflaaGreatDoor


namespace Go.Proofs.YtheefloegbkflaaGreatDoor
set_option linter.unusedVariables false
set_option linter.unusedSimpArgs false
set_option maxRecDepth 100000
open Go.Joins Go.ChangeShapes Go.WideShapes Go.ChangeAt Go.RowKit Go.Deep

/-- a cell within its fields' ranges -/
structure ClWf (c : Cl) : Prop where
  lo : -9223372036854775808 ≤ c.num
  hi : c.num ≤ 9223372036854775807
  len : c.txt.length ≤ 9223372036854775807
end Go.Proofs.YtheefloegbkflaaGreatDoor


namespace Go.Proofs.YtheefloegbkflaaGreatDoor
set_option linter.unusedVariables false
set_option linter.unusedSimpArgs false
set_option maxRecDepth 100000
open Go.Joins Go.ChangeShapes Go.WideShapes Go.ChangeAt Go.RowKit Go.Deep

theorem cof_bool : Tryz.prog.cellsOf 4 = 1 := by kernel_rfl
theorem cof_i64 : Tryz.prog.cellsOf 2 = 1 := by kernel_rfl
theorem cof_int : Tryz.prog.cellsOf 3 = 1 := by kernel_rfl
theorem cof_str : Tryz.prog.cellsOf 9 = 1 := by kernel_rfl
theorem cof_cl : Tryz.prog.cellsOf 54 = 3 := by kernel_rfl
/-- three cells that are read as a cell -/
theorem cl_cells {H : Type} {enc : TypeId × Value → H} {W : World} {n : Nat} {x : DataW H × List MemPlace} {c2 c3 c4 : Value}
    (h : DataW.trod enc Tryz.prog W 0 (fun _ => true) true n 54 [c2, c3, c4] = some x) : ∃ c : Cl, c2 = .bool c.null ∧ c3 = .int .i64 c.num ∧ c4 = .string ⟨c.txt.toArray⟩ ∧ ClWf c := by
  obtain ⟨y0, y1, y2, m, rfl, _, h0, h1, h2⟩ := trod_struct3 Tryz.underlying54 h
  simp only [cof_bool, cof_i64, cof_str, List.drop_zero, List.drop_succ_cons, List.take_succ_cons, List.take_zero] at h0 h1 h2
  obtain ⟨b, e0, _⟩ := DataW.trod_bool Tryz.underlying4 h0
  obtain rfl := (List.cons.inj e0).1
  obtain ⟨i, e1, _, hi⟩ := DataW.trod_int Tryz.underlying2 h1
  obtain rfl := (List.cons.inj e1).1
  obtain ⟨s, e2, _, hs⟩ := DataW.trod_string Tryz.underlying9 h2
  obtain rfl := (List.cons.inj e2).1
  have hb := wf_i64_bd hi
  exact ⟨⟨b, i, s.data.toList⟩, rfl, rfl, by simp, ⟨hb.1, hb.2, by simpa [maxLen] using hs⟩⟩
end Go.Proofs.YtheefloegbkflaaGreatDoor


namespace Go.Proofs.YtheefloegbkflaaGreatDoor
set_option linter.unusedVariables false
set_option linter.unusedSimpArgs false
set_option maxRecDepth 100000
open Go.Joins Go.ChangeShapes Go.WideShapes Go.ChangeAt Go.RowKit Go.Deep

theorem cof_co : Tryz.prog.cellsOf 69 = 3 := by kernel_rfl
/-- a column within its fields' ranges -/
structure CoWf (c : Co) : Prop where
  lo : -9223372036854775808 ≤ c.ty
  hi : c.ty ≤ 9223372036854775807
  len : c.name.length ≤ 9223372036854775807
/-- three cells that are read as a column -/
theorem co_cells {H : Type} {enc : TypeId × Value → H} {W : World} {n : Nat} {x : DataW H × List MemPlace} {c2 c3 c4 : Value}
    (h : DataW.trod enc Tryz.prog W 0 (fun _ => true) true n 69 [c2, c3, c4] = some x) : ∃ c : Co, c2 = .string ⟨c.name.toArray⟩ ∧ c3 = .int .i64 c.ty ∧ c4 = .bool c.nl ∧ CoWf c := by
  obtain ⟨y0, y1, y2, m, rfl, _, h0, h1, h2⟩ := trod_struct3 Tryz.underlying69 h
  simp only [cof_bool, cof_int, cof_str, List.drop_zero, List.drop_succ_cons, List.take_succ_cons, List.take_zero] at h0 h1 h2
  obtain ⟨s, e0, _, hs⟩ := DataW.trod_string Tryz.underlying9 h0
  obtain rfl := (List.cons.inj e0).1
  obtain ⟨i, e1, _, hi⟩ := DataW.trod_int Tryz.underlying3 h1
  obtain rfl := (List.cons.inj e1).1
  obtain ⟨b, e2, _⟩ := DataW.trod_bool Tryz.underlying4 h2
  obtain rfl := (List.cons.inj e2).1
  have hb := wf_i64_bd hi
  exact ⟨⟨s.data.toList, i, b⟩, by simp, rfl, rfl, ⟨hb.1, hb.2, by simpa [maxLen] using hs⟩⟩
theorem ks_in {H : Type} {enc : TypeId × Value → H} {W : World} {base : Nat} {v : Value} {d : DataW H} {p : List MemPlace} (hv : Value.okWide Tryz.prog W .any base 22 v)
    (h : DataW.Trod enc Tryz.prog W 0 (fun _ => true) true 22 v d p) : ∃ l, Ks W v l ∧ l.length ≤ 9223372036854775807 ∧ (∀ c ∈ l, CoWf c) ∧ ∀ k, v.ownBlock = some k → k < W.heap.size :=
  ns_in fd_co Tryz.underlying22 cof_co CoWf (fun n cs y hl hy => by
    match cs, hl with
    | [v0, v1, v2], _ =>
      obtain ⟨c, rfl, rfl, rfl, hw⟩ := co_cells hy
      exact ⟨c, rfl, hw⟩) hv h
end Go.Proofs.YtheefloegbkflaaGreatDoor


namespace Go.Proofs.YtheefloegbkflaaGreatDoor
set_option linter.unusedVariables false
set_option linter.unusedSimpArgs false
set_option maxRecDepth 100000
open Go.Joins Go.ChangeShapes Go.WideShapes Go.ChangeAt Go.RowKit Go.Deep

theorem cof_row : Tryz.prog.cellsOf 59 = 1 := by kernel_rfl
/-- a slice of cells in a cell of another one -/
theorem cs_trod {H : Type} {enc : TypeId × Value → H} {W : World} {n : Nat} {x : DataW H × List MemPlace} {v : Value}
    (h : DataW.trod enc Tryz.prog W 0 (fun _ => true) true n 59 [v] = some x) : ∃ (s : Sl) (l : List Cl), v = slV s ∧ s.n = l.length ∧ Cs W (slV s) l ∧ l.length ≤ 9223372036854775807 ∧ ∀ c ∈ l, ClWf c := by
  rcases Go.Deep.open_slice Tryz.underlying59 h with ⟨hcs, _⟩ | ⟨a, len, cap, m, k, D, Pl, hcs, _, hl, hm, hmm, _, hr⟩
  · obtain rfl := (List.cons.inj hcs).1
    exact ⟨noSl, [], rfl, rfl, Cs.nil_ W, by simp, by simp⟩
  · obtain rfl := (List.cons.inj hcs).1
    have hnm : len ≤ m := by rw [hmm]; simp; exact hl
    obtain ⟨l, hll, hls⟩ := choose_listG (fun i (x : Cl) => At3 W (a.add (i * 3)) x ∧ ClWf x) len (by
      intro i hi
      obtain ⟨cs', h1, h2⟩ := hr i (by omega)
      rw [cof_cl] at h1
      obtain ⟨_, hlen, hcell⟩ := World.cells?_some h1
      match cs', hlen with
      | [v0, v1, v2], _ =>
        obtain ⟨c, rfl, rfl, rfl, hw⟩ := cl_cells h2
        have e0 := hcell 0 (by omega)
        have e1 := hcell 1 (by omega)
        have e2 := hcell 2 (by omega)
        exact ⟨c, ⟨by simpa [add_add] using e0, by simpa using e1, by simpa using e2⟩, hw⟩)
    subst hll
    refine ⟨⟨some a, l.length, cap⟩, l, rfl, rfl, ⟨some a, cap, rfl, hl, (fun h => by cases h), fun b hb j hj => ?_⟩, by unfold maxLen at hm; omega, fun x hx => ?_⟩
    · cases hb
      exact (hls j hj).1
    · obtain ⟨j, hj, rfl⟩ := List.mem_iff_getElem.1 hx
      exact (hls j hj).2
theorem rs_in {H : Type} {enc : TypeId × Value → H} {W : World} {base : Nat} {v : Value} {d : DataW H} {p : List MemPlace} (hv : Value.okWide Tryz.prog W .any base 23 v)
    (h : DataW.Trod enc Tryz.prog W 0 (fun _ => true) true 23 v d p) : ∃ rs, Rs W v rs ∧ rs.length ≤ 9223372036854775807 ∧ (∀ r ∈ rs, r.length ≤ 9223372036854775807 ∧ ∀ c ∈ r, ClWf c) ∧ ∀ k, v.ownBlock = some k → k < W.heap.size := by
  have hT := Tryz.underlying23
  have hlt : ∀ k, v.ownBlock = some k → k < W.heap.size := by
    rcases slice_in hT hv with rfl | ⟨b, o, n, c, rfl, _, hb⟩
    · intro k hk; cases hk
    · intro k hk
      obtain rfl : b = k := by simpa [Value.ownBlock] using hk
      exact hb
  obtain ⟨A, n, c, rfl⟩ := okWide_slice hT hv
  obtain ⟨fuel, hf⟩ := h
  rcases Go.Deep.open_slice hT hf with ⟨hcs, _⟩ | ⟨a, len, cap, m, k, D, Pl, hcs, _, hl, hm, hmm, _, hr⟩
  · simp [Value.cells] at hcs
    obtain ⟨rfl, rfl, rfl⟩ := hcs
    exact ⟨[], Rs.nil_ W, by simp, by simp, hlt⟩
  · simp [Value.cells] at hcs
    obtain ⟨rfl, rfl, rfl⟩ := hcs
    have hnm : n ≤ m := by rw [hmm]; simp; exact hl
    obtain ⟨l, hll, hls⟩ := choose_listG (fun i (x : Sl × List Cl) => W.cell? (a.add i) = some (slV x.1) ∧ Cs W (slV x.1) x.2 ∧ x.2.length ≤ 9223372036854775807 ∧ ∀ c ∈ x.2, ClWf c) n (by
      intro i hi
      obtain ⟨cs', h1, h2⟩ := hr i (by omega)
      rw [cof_row] at h1
      obtain ⟨_, hlen, hcell⟩ := World.cells?_some h1
      match cs', hlen with
      | [v0], _ =>
        obtain ⟨s, l, rfl, _, hc, h3, h4⟩ := cs_trod h2
        have e0 := hcell 0 (by omega)
        exact ⟨(s, l), by simpa [add_add] using e0, hc, h3, h4⟩)
    subst hll
    refine ⟨l.map Prod.snd, ⟨l.map Prod.fst, by simp, ⟨some a, c, by simp, by simpa using hl, (fun h => by cases h), fun b hb j hj => ?_⟩, fun i a b => ?_⟩, by unfold maxLen at hm; simp; omega, fun x hx => ?_, hlt⟩
    · cases hb
      have hj' : j < l.length := by simpa using hj
      simpa using (hls j hj').1
    · have hj' : i < l.length := by simpa using a
      simpa using (hls i hj').2.1
    · obtain ⟨y, hy, rfl⟩ := List.mem_map.1 hx
      obtain ⟨j, hj, rfl⟩ := List.mem_iff_getElem.1 hy
      exact (hls j hj).2.2
end Go.Proofs.YtheefloegbkflaaGreatDoor
