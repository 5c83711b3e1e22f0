/-
  Joined: Layer 12: which rows there may be, both programs'. · Layer 12: letters, digits, words. · Layer 12: which texts may be names, both programs'. · A map of texts to whole numbers of the call's own: which texts it has, and how many; made, written, counted. · Layer 12: which columns a table may have, the program's. · Layer 12: which columns a table may have, the document's; the law's words; the example. · Layer 13: a column of rows, both programs'; why there is no segment. · Layer 12: columns read, the program's. · Layer 11: the example; which lists are small, and may be; two zones compared. · Layer 13: chunks as values; a footer's words in a block. · Layer 13: what a footer says, the program's reading of it. · Layer 2: the walks of crc.shift, crc.More, crc.Of, firkinref02.More, firkinref02.Of. · Layer 2: the walks of crc.Of, of the law's example, and of the law CrcOf.
-/
import Derived.Deep.RegionHeld3
import Derived.Test.YtheefloegbkflaaGreatDoorZ6
import Derived.Test.YtheefloegbkflaaGreatDoorZ1
import Derived.Test.YtheefloegbkflaaGreatDoorZ3
import Derived.Test.YtheefloegbkflaaGreatDoorZ2
import Derived.Laws.RangeAny
import Derived.BigQuiet
import Derived.Maps.OwnSet
import Derived.Maps.OwnOps
import Derived.Test.YtheefloegbkflaaGreatDoorZ7
import Derived.Laws.StructEq
import Derived.Test.YtheefloegbkflaaGreatDoorZ4
import Derived.Laws.BitsAllLaws
import Derived.LoopTactic
import Derived.IntWalk
import Derived.Deep.DeepCutAuto
import Derived.Deep.QuietTactic
import Derived.Lib.SlBytesConst

namespace Go.Proofs.YtheefloegbkflaaGreatDoor
set_option linter.unusedVariables false
set_option linter.unusedSimpArgs false
set_option maxRecDepth 100000
open Go.RowKit

/-- a column in a block, a cell at an address -/
structure RowAt (w : World) (g : Nat) (a : Addr) (x : Co) (y : Cl) : Prop where
  col : CoB w g x
  row : At3 w a y
theorem RowAt.non {w w' : World} {g : Nat} {a : Addr} {x : Co} {y : Cl} (h : RowAt w g a x y) (hf : Fr Non w w') : RowAt w' g a x y := ⟨h.col.fr hf (fun e => e), hf.at3 h.row⟩

set_option maxHeartbeats 4000000 in
theorem srow_any (v1 v2 : Value) (l : List Co) (row : List Cl) (w : World) (h1 : Ks w v1 l) (h2 : Cs w v2 row) (hl : l.length ≤ 1000000000) :
    Calls Tryz.prog 51 #[v1, v2] w fun e w' => e = .returned (.bool (rowB l row)) ∧ Fr Non w w' := by
  obtain ⟨A1, c1, rfl, hc1, hn1, hcell1⟩ := h1
  obtain ⟨A2, c2, rfl, hc2, hn2, hcell2⟩ := h2
  have HN1 := Lib.hid hn1
  have HN2 := Lib.hid hn2
  have HC1 := Lib.hid hcell1
  have HC2 := Lib.hid hcell2
  clear hn1 hn2 hcell1 hcell2
  by_cases hlen : l.length = row.length
  · have HL := Lib.hid hlen
    have hb : ((row.length : Int) != l.length) = false := by rw [hlen]; simp
    have hle : l.length ≤ row.length := by omega
    have hge : row.length ≤ l.length := by omega
    clear hlen
    go_enter Tryz.func51, Tryz.ntmps51
    go_wp2
    go_loopw [14] (fun i wr => ∃ k : Nat, k ≤ l.length ∧ i = .int .i64 k ∧ Hid (∀ j (h : j < l.length) (h2 : j < row.length), j < k → mayC l[j].ty l[j].nl row[j] = true) ∧ Fr Non w wr) (fun i _ => l.length - (intOf i).toNat)
    case atStart => exact ⟨0, Nat.zero_le _, rfl, Lib.hid (fun _ _ _ h => by omega), Fr.refl _ _⟩
    case round =>
      obtain ⟨k, hk, rfl, HT, hfr⟩ := hrel
      by_cases hlt : k < l.length
      · cases A1 with
        | none => have := HN1.out rfl; omega
        | some a1 =>
          cases A2 with
          | none => have := HN2.out rfl; omega
          | some a2 =>
            have hlt2 : k < row.length := by omega
            obtain ⟨g0, g1, g2⟩ := co_lit ((HC1.out a1 rfl k hlt).non hfr)
            have hr := hfr.at3 (HC2.out a2 rfl k hlt2)
            have HY := Lib.hid (fun h => row_more hlt hlt2 HT.out h)
            have HX := Lib.hid (fun h => row_bad hlt hlt2 h)
            clear HT
            generalize l[k] = x at *
            generalize row[k] = y at *
            obtain ⟨xn, xt, xb⟩ := x
            obtain ⟨yn, yt, yb⟩ := y
            dsimp only at g0 g1 g2 HY HX
            have f1 := (Fr.refl Non wr).alloc (.cells #[.string ⟨xn.toArray⟩, .int .i64 xt, .bool xb] 69)
            have hD : RowAt _ wr.heap.size _ _ _ := ⟨co_new wr ⟨xn, xt, xb⟩, f1.at3 hr⟩
            have FD := Lib.hid (hfr.trans f1)
            replace hD := Lib.hid hD
            clear hr f1 hfr
            go_wp2
            obtain ⟨V, hV⟩ : ∃ V, wr.alloc (.cells #[.string ⟨xn.toArray⟩, .int .i64 xt, .bool xb] 69) = V := ⟨_, rfl⟩
            rw [hV] at hD FD ⊢
            clear hV
            have hD := hD.out
            have FD := FD.out
            generalize wr.heap.size = g at *
            replace hD : RowAt V.drew g _ _ _ := ⟨hD.col, hD.row.keep rfl⟩
            replace FD := FD.drew
            have M := fun W => may_any xt xb ⟨yn, yt, yb⟩ W
            unfold clV clC at M
            dsimp only at M
            replace M := Lib.hid M
            have t1 : V.drew.cell? ⟨g, 1, none⟩ = some (.int .i64 xt) := hD.col.cell 1
            have t2 : V.drew.cell? ⟨g, 2, none⟩ = some (.bool xb) := hD.col.cell 2
            obtain ⟨t3, t4, t5⟩ := hD.row.lit
            dsimp only at t3 t4 t5
            replace hD := Lib.hid hD
            replace FD := Lib.hid FD
            go_region_held3 (fun W => W.cell? ⟨g, 1, none⟩ = some (.int .i64 xt) ∧ W.cell? ⟨g, 2, none⟩ = some (.bool xb) ∧ W.cell? (a2.add (k * 3)) = some (.bool yn) ∧ W.cell? { block := (a2.add (k * 3)).block, off := (a2.add (k * 3)).off + 1 } = some (.int .i64 yt) ∧ W.cell? { block := (a2.add (k * 3)).block, off := (a2.add (k * 3)).off + 2 } = some (.string ⟨yb.toArray⟩)) (first | exact ⟨t1, t2, t3, t4, t5⟩ | exact ⟨u1, u2, u3, u4, u5⟩ | fail) (first | (go_at_call 93; refine (M.out _).mono ?_; rintro e w4 ⟨rfl, f4⟩; have F4 := Lib.hid (FD.out.trans f4); have h4 := hD.out.non f4; have u1 : w4.cell? ⟨g, 1, none⟩ = some (.int .i64 xt) := h4.col.cell 1; have u2 : w4.cell? ⟨g, 2, none⟩ = some (.bool xb) := h4.col.cell 2; obtain ⟨u3, u4, u5⟩ := h4.row.lit))
            clear u1 u2 u3 u4 u5 h4 f4 t1 t2 t3 t4 t5 hD FD M
            cases hM : mayC xt xb ⟨yn, yt, yb⟩
            · have HE := Lib.hid (HX.out hM)
              clear HX HY hM
              go_wp2
              go_ret
              exact ⟨ret_boolE HE.out.symm, F4.out⟩
            · have HE := Lib.hid (HY.out hM)
              clear HX HY hM
              go_wp2
              go_roundw
              case rel => exact ⟨k + 1, by omega, by go_num, HE, F4.out⟩
              case measure => simp [intOf]; omega
      · have HE := Lib.hid (row_yes HL.out (fun j h h2 => HT.out j h h2 (by omega)))
        clear HT
        go_wp2
        go_ret
        exact ⟨ret_boolE HE.out.symm, hfr⟩
  · have hb : ((row.length : Int) != l.length) = true := by rw [bne_iff_ne]; omega
    have HE := Lib.hid (row_len hlen)
    clear hlen
    go_enter Tryz.func51, Tryz.ntmps51
    go_wp2
    go_ret
    exact ⟨ret_boolE HE.out.symm, Fr.refl _ _⟩

set_option maxHeartbeats 4000000 in
theorem rrow_any (v1 v2 : Value) (l : List Co) (row : List Cl) (w : World) (h1 : Ks w v1 l) (h2 : Cs w v2 row) (hl : l.length ≤ 1000000000) :
    Calls Tryz.prog 33 #[v1, v2] w fun e w' => e = .returned (.bool (rowB l row)) ∧ Fr Non w w' := by
  obtain ⟨A1, c1, rfl, hc1, hn1, hcell1⟩ := h1
  obtain ⟨A2, c2, rfl, hc2, hn2, hcell2⟩ := h2
  have HN1 := Lib.hid hn1
  have HN2 := Lib.hid hn2
  have HC1 := Lib.hid hcell1
  have HC2 := Lib.hid hcell2
  clear hn1 hn2 hcell1 hcell2
  by_cases hlen : l.length = row.length
  · have HL := Lib.hid hlen
    have hb : ((l.length : Int) != row.length) = false := by rw [hlen]; simp
    have hle : l.length ≤ row.length := by omega
    have hge : row.length ≤ l.length := by omega
    clear hlen
    go_enter Tryz.func33, Tryz.ntmps33
    go_wp2
    go_loopw [5] (fun i wr => ∃ k : Nat, k ≤ l.length ∧ i = .int .i64 k ∧ Hid (∀ j (h : j < l.length) (h2 : j < row.length), j < k → mayC l[j].ty l[j].nl row[j] = true) ∧ Fr Non w wr) (fun i _ => l.length - (intOf i).toNat)
    case atStart => exact ⟨0, Nat.zero_le _, rfl, Lib.hid (fun _ _ _ h => by omega), Fr.refl _ _⟩
    case round =>
      obtain ⟨k, hk, rfl, HT, hfr⟩ := hrel
      by_cases hlt : k < l.length
      · cases A1 with
        | none => have := HN1.out rfl; omega
        | some a1 =>
          cases A2 with
          | none => have := HN2.out rfl; omega
          | some a2 =>
            have hlt2 : k < row.length := by omega
            obtain ⟨g0, g1, g2⟩ := co_lit ((HC1.out a1 rfl k hlt).non hfr)
            have hr := hfr.at3 (HC2.out a2 rfl k hlt2)
            have HY := Lib.hid (fun h => row_more hlt hlt2 HT.out h)
            have HX := Lib.hid (fun h => row_bad hlt hlt2 h)
            clear HT
            generalize l[k] = x at *
            generalize row[k] = y at *
            obtain ⟨xn, xt, xb⟩ := x
            obtain ⟨yn, yt, yb⟩ := y
            dsimp only at g0 g1 g2 HY HX
            have FD := Lib.hid hfr.drew
            have M := fun W => rmay_any xt xb ⟨yn, yt, yb⟩ W
            unfold clV clC at M
            dsimp only at M
            replace M := Lib.hid M
            obtain ⟨t3, t4, t5⟩ := (hr.keep (w' := wr.drew) rfl).lit
            replace g1 : wr.drew.cell? _ = _ := g1
            replace g2 : wr.drew.cell? _ = _ := g2
            clear g0 hr hfr
            dsimp only at t3 t4 t5
            go_wp2
            go_region_held3 (fun W => W.cell? { block := (a1.add (k * 3)).block, off := (a1.add (k * 3)).off + 1 } = some (.int .i64 xt) ∧ W.cell? { block := (a1.add (k * 3)).block, off := (a1.add (k * 3)).off + 2 } = some (.bool xb) ∧ W.cell? (a2.add (k * 3)) = some (.bool yn) ∧ W.cell? { block := (a2.add (k * 3)).block, off := (a2.add (k * 3)).off + 1 } = some (.int .i64 yt) ∧ W.cell? { block := (a2.add (k * 3)).block, off := (a2.add (k * 3)).off + 2 } = some (.string ⟨yb.toArray⟩)) (first | exact ⟨g1, g2, t3, t4, t5⟩ | exact ⟨u1, u2, u3, u4, u5⟩ | fail) (first | (go_at_call 64; refine (M.out _).mono ?_; rintro e w4 ⟨rfl, f4⟩; have F4 := Lib.hid (FD.out.trans f4); have u1 := (f4.cell (World.block_lt_of_cell? _ _ g1) (fun e => e)).trans g1; have u2 := (f4.cell (World.block_lt_of_cell? _ _ g2) (fun e => e)).trans g2; have u3 := (f4.cell (World.block_lt_of_cell? _ _ t3) (fun e => e)).trans t3; have u4 := (f4.cell (World.block_lt_of_cell? _ _ t4) (fun e => e)).trans t4; have u5 := (f4.cell (World.block_lt_of_cell? _ _ t5) (fun e => e)).trans t5))
            clear u1 u2 u3 u4 u5 f4 g1 g2 t3 t4 t5 FD M
            cases hM : mayC xt xb ⟨yn, yt, yb⟩
            · have HE := Lib.hid (HX.out hM)
              clear HX HY hM
              go_wp2
              go_ret
              exact ⟨ret_boolE HE.out.symm, F4.out⟩
            · have HE := Lib.hid (HY.out hM)
              clear HX HY hM
              go_wp2
              go_roundw
              case rel => exact ⟨k + 1, by omega, by go_num, HE, F4.out⟩
              case measure => simp [intOf]; omega
      · have HE := Lib.hid (row_yes HL.out (fun j h h2 => HT.out j h h2 (by omega)))
        clear HT
        go_wp2
        go_ret
        exact ⟨ret_boolE HE.out.symm, hfr⟩
  · have hb : ((l.length : Int) != row.length) = true := by rw [bne_iff_ne]; omega
    have HE := Lib.hid (row_len hlen)
    clear hlen
    go_enter Tryz.func33, Tryz.ntmps33
    go_wp2
    go_ret
    exact ⟨ret_boolE HE.out.symm, Fr.refl _ _⟩
end Go.Proofs.YtheefloegbkflaaGreatDoor


namespace Go.Proofs.YtheefloegbkflaaGreatDoor
set_option linter.unusedVariables false
set_option linter.unusedSimpArgs false
set_option maxRecDepth 100000
open Go.RowKit

theorem isletter_any (r : Int) (w : World) : Calls Tryz.prog 171 #[.int .i32 r] w fun e w' => e = .returned (.bool (ltrI r)) ∧ w = w' := by
  by_cases h1 : 97 ≤ r
  · by_cases h2 : r ≤ 122
    · have H := Lib.hid (show ltrI r = true by simp [ltrI, h1, h2])
      go_enter Tryz.func171, Tryz.ntmps171
      go_wp2
      go_ret
      exact ⟨ret_boolE H.out.symm, rfl⟩
    · have H := Lib.hid (show ltrI r = false by simp [ltrI, h1, h2])
      go_enter Tryz.func171, Tryz.ntmps171
      go_wp2
      go_ret
      exact ⟨ret_boolE H.out.symm, rfl⟩
  · have H := Lib.hid (show ltrI r = false by simp [ltrI, h1])
    go_enter Tryz.func171, Tryz.ntmps171
    go_wp2
    go_ret
    exact ⟨ret_boolE H.out.symm, rfl⟩
theorem isdigit_any (r : Int) (w : World) : Calls Tryz.prog 172 #[.int .i32 r] w fun e w' => e = .returned (.bool (dgtI r)) ∧ w = w' := by
  by_cases h1 : 48 ≤ r
  · by_cases h2 : r ≤ 57
    · have H := Lib.hid (show dgtI r = true by simp [dgtI, h1, h2])
      go_enter Tryz.func172, Tryz.ntmps172
      go_wp2
      go_ret
      exact ⟨ret_boolE H.out.symm, rfl⟩
    · have H := Lib.hid (show dgtI r = false by simp [dgtI, h1, h2])
      go_enter Tryz.func172, Tryz.ntmps172
      go_wp2
      go_ret
      exact ⟨ret_boolE H.out.symm, rfl⟩
  · have H := Lib.hid (show dgtI r = false by simp [dgtI, h1])
    go_enter Tryz.func172, Tryz.ntmps172
    go_wp2
    go_ret
    exact ⟨ret_boolE H.out.symm, rfl⟩

set_option maxHeartbeats 4000000 in
theorem isword_any (l : List UInt8) (w : World) : Calls Tryz.prog 170 #[.string ⟨l.toArray⟩] w fun e w' => e = .returned (.bool (decide (l ∈ wordsL))) ∧ w = w' := by
  go_enter Tryz.func170, Tryz.ntmps170
  go_wp2
  all_goals
    go_ret
    exact ⟨ret_boolE (by simp_all [wordsL]), rfl⟩

theorem words_any (w : World) : Calls Tryz.prog 118 #[] w fun e w' => ∃ v, e = .returned v ∧ Vs sv w' v wordsL ∧ Fr Non w w' := by
  have hv := ow_lit (f := sv) (E := 9) w 0 _ wordsL #[.string ⟨#[97, 110, 100]⟩, .string ⟨#[111, 114]⟩, .string ⟨#[110, 111, 116]⟩, .string ⟨#[105, 115]⟩, .string ⟨#[110, 117, 108, 108]⟩, .string ⟨#[108, 105, 107, 101]⟩, .string ⟨#[116, 114, 117, 101]⟩, .string ⟨#[102, 97, 108, 115, 101]⟩, .string ⟨#[115, 101, 108, 101, 99, 116]⟩, .string ⟨#[102, 114, 111, 109]⟩, .string ⟨#[119, 104, 101, 114, 101]⟩, .string ⟨#[103, 114, 111, 117, 112]⟩, .string ⟨#[98, 121]⟩, .string ⟨#[97, 108, 108]⟩, .string ⟨#[99, 111, 117, 110, 116]⟩, .string ⟨#[104, 97, 115]⟩, .string ⟨#[115, 117, 109]⟩, .string ⟨#[109, 105, 110]⟩, .string ⟨#[109, 97, 120]⟩] rfl rfl (Nat.zero_le _) (by unfold maxLen; decide)
  have HV := Lib.hid hv.vs
  clear hv
  go_enter Tryz.func118, Tryz.ntmps118
  go_wp2
  go_ret
  exact ⟨_, rfl, HV.out, (Fr.refl _ _).alloc _⟩
end Go.Proofs.YtheefloegbkflaaGreatDoor


namespace Go.Proofs.YtheefloegbkflaaGreatDoor
set_option linter.unusedVariables false
set_option linter.unusedSimpArgs false
set_option maxRecDepth 100000
open Go.RowKit

theorem slenN (l : List UInt8) : ByteArray.size ⟨l.toArray⟩ = l.length := by simp [ByteArray.size]
theorem not_word {l : List UInt8} (h : ∀ j (hj : j < wordsL.length), wordsL[j] ≠ l) : l ∉ wordsL := by
  intro hm
  obtain ⟨j, hj, e⟩ := List.mem_iff_getElem.1 hm
  exact h j hj e
theorem nmOk_more {l : List UInt8} {k : Nat} (h : ∀ j (hj : j < l.length), j < k → okI j (l[j]).toNat = true) (hk : k < l.length) (hc : okI k (l[k]).toNat = true) : ∀ j (hj : j < l.length), j < k + 1 → okI j (l[j]).toNat = true := by
  intro j hj hlt
  by_cases e : j = k
  · subst e; exact hc
  · exact h j hj (by omega)

set_option maxHeartbeats 2000000 in
theorem rname_any (l : List UInt8) (w : World) (hl : l.length ≤ 1000000000) : Calls Tryz.prog 63 #[.string ⟨l.toArray⟩] w fun e w' => e = .returned (.bool (nameB l)) ∧ Fr Non w w' := by
  have hs := slenN l
  go_enter Tryz.func63, Tryz.ntmps63
  go_wp2
  go_loop [3] (fun i => ∃ k : Nat, k ≤ l.length ∧ i = .int .i64 k ∧ Hid (∀ j (hj : j < l.length), j < k → okI j (l[j]).toNat = true)) (fun i => l.length - (intOf i).toNat)
  case atStart => exact ⟨0, by omega, rfl, Lib.hid (fun _ _ h => by omega)⟩
  case round =>
    obtain ⟨k, hk, rfl, hok⟩ := hrel
    by_cases hlt : k < l.length
    · obtain ⟨c, hc⟩ : ∃ c, l[k] = c := ⟨_, rfl⟩
      have hb := byte_at l k c hlt hc
      have HC := Lib.hid hc
      clear hc
      have HM := Lib.hid (fun (h : okI k c.toNat = true) => nmOk_more hok.out hlt (by rw [HC.out]; exact h))
      have HX := Lib.hid (fun (h : okI k c.toNat = false) => name_bad hlt (by rw [HC.out]; exact h))
      clear HC hok
      go_wp2
      all_goals first
        | (go_ret
           refine ⟨ret_boolE (HX.out ?_).symm, Fr.refl _ _⟩
           clear HX HM hb hs
           rw [Bool.eq_false_iff]
           intro hh
           simp [okI, ltrI, dgtI] at *
           done)
        | (go_ret
           refine ⟨ret_boolE (HX.out ?_).symm, Fr.refl _ _⟩
           clear HX HM hb hs
           rw [Bool.eq_false_iff]
           intro hh
           simp [okI, ltrI, dgtI] at *
           omega)
        | (go_roundw
           case rel =>
             refine ⟨k + 1, by omega, by go_num, Lib.hid (HM.out ?_)⟩
             clear HX HM hb hs
             simp [okI, ltrI, dgtI] at *
             omega
           case measure => simp [intOf]; omega)
        | (go_roundw
           case rel =>
             refine ⟨k + 1, by omega, by go_num, Lib.hid (HM.out ?_)⟩
             clear HX HM hb hs
             simp [okI, ltrI, dgtI] at *
             done
           case measure => simp [intOf]; omega)
    · have HO : Hid (nmOk l) := Lib.hid (fun j hj => hok.out j hj (by omega))
      clear hok
      go_wp2_with fail
      refine (words_any _).mono ?_
      rintro e w1 ⟨v, rfl, hv, hf1⟩
      have hw : wordsL.length = 19 := rfl
      obtain ⟨A, c, he, hc, hn, hcell⟩ := hv
      rw [hw] at he hc
      subst he
      have HN := Lib.hid hn
      have HCE := Lib.hid hcell
      have HF := Lib.hid hf1
      clear hn hcell hf1
      go_wp2
      go_loop [8] (fun i => ∃ q : Nat, q ≤ 19 ∧ i = .int .i64 q ∧ Hid (∀ j (hj : j < wordsL.length), j < q → wordsL[j] ≠ l)) (fun i => 19 - (intOf i).toNat)
      case atStart => exact ⟨0, by omega, rfl, Lib.hid (fun _ _ h => by omega)⟩
      case round =>
        obtain ⟨q, hq, rfl, hne⟩ := hrel
        by_cases hlq : q < 19
        · cases A with
          | none => have := HN.out rfl; omega
          | some a =>
            have hql : q < wordsL.length := by rw [hw]; exact hlq
            have hce := HCE.out a rfl q hql
            unfold sv at hce
            by_cases he : wordsL[q] = l
            · have HE := Lib.hid (name_word (l := l) (by rw [← he]; exact List.getElem_mem hql))
              rw [he] at hce
              clear he
              go_wp2
              go_ret
              exact ⟨ret_boolE HE.out.symm, HF.out⟩
            · have HE : Hid (∀ j (hj : j < wordsL.length), j < q + 1 → wordsL[j] ≠ l) := Lib.hid (fun j hj hlt => by
                by_cases e : j = q
                · subst e; exact he
                · exact hne.out j hj (by omega))
              have hb : (wordsL[q] == l) = false := by rw [beq_eq_false_iff_ne]; exact he
              clear he hne
              generalize wordsL[q] = x at *
              go_wp2
              go_roundw
              case rel => exact ⟨q + 1, by omega, by go_num, HE⟩
              case measure => simp [intOf]; omega
        · have HW : Hid (l ∉ wordsL) := Lib.hid (not_word fun j hj => hne.out j hj (by rw [hw] at hj; omega))
          clear hne
          by_cases h1 : 1 ≤ l.length
          · by_cases h2 : l.length ≤ 12
            · have H := Lib.hid (name_yes h1 h2 HW.out HO.out)
              go_wp2
              go_ret
              exact ⟨ret_boolE (by rw [H.out]; exact decide_eq_true (by omega)), HF.out⟩
            · have H := Lib.hid (name_long (l := l) (by omega))
              go_wp2
              go_ret
              exact ⟨ret_boolE (by rw [H.out]; exact decide_eq_false (by omega)), HF.out⟩
          · have H := Lib.hid (name_nil (l := l) (by omega))
            go_wp2
            go_ret
            exact ⟨ret_boolE H.out.symm, HF.out⟩

set_option maxHeartbeats 2000000 in
theorem sname_any (l : List UInt8) (w : World) (hl : l.length ≤ 1000000000) : Calls Tryz.prog 129 #[.string ⟨l.toArray⟩] w fun e w' => e = .returned (.bool (nameB l)) ∧ Fr Non w w' := by
  have hs := slenN l
  by_cases h0 : l = []
  · subst h0
    go_enter Tryz.func129, Tryz.ntmps129
    go_wp2
    go_ret
    exact ⟨rfl, Fr.refl _ _⟩
  · have h0b : (l == []) = false := by rw [beq_eq_false_iff_ne]; exact h0
    have HL : Hid (1 ≤ l.length) := Lib.hid (Nat.pos_of_ne_zero (fun e => h0 (List.eq_nil_of_length_eq_zero e)))
    clear h0
    by_cases h12 : 12 < l.length
    · have H := Lib.hid (name_long h12)
      go_enter Tryz.func129, Tryz.ntmps129
      go_wp2
      go_ret
      exact ⟨ret_boolE H.out.symm, Fr.refl _ _⟩
    · have HI := fun W => isword_any l W
      cases hw : decide (l ∈ wordsL)
      · simp only [hw] at HI
        have HW := Lib.hid (of_decide_eq_false hw)
        clear hw
        replace HI := Lib.hid HI
        go_enter Tryz.func129, Tryz.ntmps129
        go_wp2_with fail
        refine (HI.out _).mono ?_
        rintro e w1 ⟨rfl, rfl⟩
        clear HI
        go_wp2
        go_loopw [3, 4] (fun _ _ wr => ∃ k : Nat, k ≤ l.length ∧ wr = w.iter ⟨l.toArray⟩ k ∧ Hid (∀ j (hj : j < l.length), j < k → okI j (l[j]).toNat = true)) (fun _ _ wr => l.length - wr.iterPos w.heap.size)
        case atStart => exact ⟨0, by omega, rfl, Lib.hid (fun _ _ h => by omega)⟩
        case round =>
          obtain ⟨k, hk, rfl, hok⟩ := hrel
          by_cases hlt : k < l.length
          · obtain ⟨c, hc⟩ : ∃ c, l[k] = c := ⟨_, rfl⟩
            have hm := World.iterPos_iter w ⟨l.toArray⟩ k
            have HC := Lib.hid hc
            have hbk : (⟨l.toArray⟩ : ByteArray)[k]'(by rw [hs]; exact hlt) = c := hc
            clear hc
            have HM := Lib.hid (fun (h : okI k c.toNat = true) => nmOk_more hok.out hlt (by rw [HC.out]; exact h))
            have HX := Lib.hid (fun (h : okI k c.toNat = false) => name_bad hlt (by rw [HC.out]; exact h))
            clear HC hok
            by_cases hhi : c.toNat < 128
            · have hn := fun ty => run_next_ascii (P := Tryz.prog) w ⟨l.toArray⟩ k ty (by rw [hs]; exact hlt) (by rw [hbk]; exact hhi)
              rw [hbk] at hn
              clear hbk hhi
              have hm1 := World.iterPos_iter w ⟨l.toArray⟩ (k + 1)
              have FR1 := Lib.hid ((Fr.refl Non w).alloc (.stringIter ⟨l.toArray⟩ (k + 1)))
              replace hm1 := Lib.hid hm1
              change Hid (Fr Non w (w.iter ⟨l.toArray⟩ (k + 1))) at FR1
              have HM1 := hm1
              clear hm1
              have HL1 := fun W => isletter_any c.toNat W
              have HD1 := fun W => isdigit_any c.toNat W
              cases hL : ltrI c.toNat
              · simp only [hL] at HL1
                replace HL1 := Lib.hid HL1
                by_cases hk0 : k = 0
                · subst hk0
                  replace HX := Lib.hid (HX.out (by simp [okI, hL]))
                  clear HD1 HM hL
                  go_wp2_with fail
                  refine (HL1.out _).mono ?_
                  rintro e w1 ⟨rfl, rfl⟩
                  clear HL1
                  go_wp2
                  go_ret
                  exact ⟨ret_boolE HX.out.symm, FR1.out⟩
                · have hkb : ((k : Int) == 0) = false := by rw [beq_eq_false_iff_ne]; omega
                  have HK0 := Lib.hid hk0
                  clear hk0
                  cases hD : dgtI c.toNat
                  · simp only [hD] at HD1
                    replace HD1 := Lib.hid HD1
                    by_cases h95 : (c.toNat : Int) = 95
                    · replace HM := Lib.hid (HM.out (by simp [okI, hL, hD, h95]; exact .inr HK0.out))
                      have h95b : ((c.toNat : Int) == 95) = true := by rw [beq_iff_eq]; exact h95
                      clear HX hL hD h95
                      go_wp2_with fail
                      refine (HL1.out _).mono ?_
                      rintro e w1 ⟨rfl, rfl⟩
                      clear HL1
                      go_wp2_with fail
                      refine (HD1.out _).mono ?_
                      rintro e w1 ⟨rfl, rfl⟩
                      clear HD1
                      go_wp2
                      go_roundw
                      case rel => exact ⟨k + 1, by omega, rfl, HM⟩
                      case measure => rw [hm, HM1.out]; omega
                    · replace HX := Lib.hid (HX.out (by simp [okI, hL, hD, h95]))
                      have h95b : ((c.toNat : Int) == 95) = false := by rw [beq_eq_false_iff_ne]; exact h95
                      clear HM hL hD h95
                      go_wp2_with fail
                      refine (HL1.out _).mono ?_
                      rintro e w1 ⟨rfl, rfl⟩
                      clear HL1
                      go_wp2_with fail
                      refine (HD1.out _).mono ?_
                      rintro e w1 ⟨rfl, rfl⟩
                      clear HD1
                      go_wp2
                      go_ret
                      exact ⟨ret_boolE HX.out.symm, FR1.out⟩
                  · simp only [hD] at HD1
                    replace HD1 := Lib.hid HD1
                    replace HM := Lib.hid (HM.out (by simp [okI, hL, hD]; exact HK0.out))
                    clear HX hL hD
                    go_wp2_with fail
                    refine (HL1.out _).mono ?_
                    rintro e w1 ⟨rfl, rfl⟩
                    clear HL1
                    go_wp2_with fail
                    refine (HD1.out _).mono ?_
                    rintro e w1 ⟨rfl, rfl⟩
                    clear HD1
                    go_wp2
                    go_roundw
                    case rel => exact ⟨k + 1, by omega, rfl, HM⟩
                    case measure => rw [hm, HM1.out]; omega
              · simp only [hL] at HL1
                replace HL1 := Lib.hid HL1
                replace HM := Lib.hid (HM.out (by simp [okI, hL]))
                clear HX hL HD1
                go_wp2_with fail
                refine (HL1.out _).mono ?_
                rintro e w1 ⟨rfl, rfl⟩
                clear HL1
                go_wp2
                go_roundw
                case rel => exact ⟨k + 1, by omega, rfl, HM⟩
                case measure => rw [hm, HM1.out]; omega
            · have hn := fun ty => run_next_any (P := Tryz.prog) w ⟨l.toArray⟩ k ty (by rw [hs]; exact hlt)
              have hr := (decode_high ⟨l.toArray⟩ k (by rw [hs]; exact hlt) (by rw [hbk]; omega)).1
              replace HX := Lib.hid (HX.out (okI_high (by omega)))
              clear HM hbk
              generalize (Utf8.decode ⟨l.toArray⟩ k).1 = r at *
              generalize k + (Utf8.decode ⟨l.toArray⟩ k).2 = p at *
              have FR1 := Lib.hid ((Fr.refl Non w).alloc (.stringIter ⟨l.toArray⟩ p))
              change Hid (Fr Non w (w.iter ⟨l.toArray⟩ p)) at FR1
              have HL1 := fun W => isletter_any r W
              have HD1 := fun W => isdigit_any r W
              have e1 : ltrI r = false := by simp [ltrI]; omega
              have e2 : dgtI r = false := by simp [dgtI]; omega
              have h95b : ((r : Int) == 95) = false := by rw [beq_eq_false_iff_ne]; omega
              simp only [e1] at HL1
              simp only [e2] at HD1
              replace HL1 := Lib.hid HL1
              replace HD1 := Lib.hid HD1
              clear e1 e2 hr hhi
              by_cases hk0 : k = 0
              · subst hk0
                clear HD1
                go_wp2_with fail
                refine (HL1.out _).mono ?_
                rintro e w1 ⟨rfl, rfl⟩
                clear HL1
                go_wp2
                go_ret
                exact ⟨ret_boolE HX.out.symm, FR1.out⟩
              · have hkb : ((k : Int) == 0) = false := by rw [beq_eq_false_iff_ne]; omega
                clear hk0
                go_wp2_with fail
                refine (HL1.out _).mono ?_
                rintro e w1 ⟨rfl, rfl⟩
                clear HL1
                go_wp2_with fail
                refine (HD1.out _).mono ?_
                rintro e w1 ⟨rfl, rfl⟩
                clear HD1
                go_wp2
                go_ret
                exact ⟨ret_boolE HX.out.symm, FR1.out⟩
          · have hn := fun ty => run_next_end (P := Tryz.prog) w ⟨l.toArray⟩ k ty (by rw [hs]; exact hlt)
            have H := Lib.hid (name_yes HL.out (by omega) HW.out (fun j hj => hok.out j hj (by omega)))
            clear hok
            go_wp2
            go_ret
            exact ⟨ret_boolE H.out.symm, (Fr.refl _ _).alloc _⟩
      · simp only [hw] at HI
        have H := Lib.hid (name_word (of_decide_eq_true hw))
        clear hw
        replace HI := Lib.hid HI
        go_enter Tryz.func129, Tryz.ntmps129
        go_wp2_with fail
        refine (HI.out _).mono ?_
        rintro e w1 ⟨rfl, rfl⟩
        go_wp2
        go_ret
        exact ⟨ret_boolE H.out.symm, Fr.refl _ _⟩
end Go.Proofs.YtheefloegbkflaaGreatDoor


namespace Go.Proofs.YtheefloegbkflaaGreatDoor
set_option linter.unusedVariables false
set_option linter.unusedSimpArgs false
set_option maxRecDepth 100000
open Go.RowKit Go.Maps

/-- how many unlike ones -/
def cntU : List Tx → Nat
  | [] => 0
  | y :: r => if y ∈ r then cntU r else cntU r + 1
theorem cntU_le (l : List Tx) : cntU l ≤ l.length := by
  induction l with
  | nil => exact Nat.le_refl _
  | cons y r ih =>
    unfold cntU
    rw [List.length_cons]
    split <;> omega
theorem cntU_all (l : List Tx) : cntU l = l.length ↔ l.Nodup := by
  induction l with
  | nil => simp [cntU]
  | cons y r ih =>
    have := cntU_le r
    unfold cntU
    rw [List.length_cons, List.nodup_cons]
    split
    · rename_i h
      constructor
      · intro e; omega
      · intro e; exact absurd h e.1
    · rename_i h
      rw [← ih]
      constructor
      · intro e; exact ⟨h, by omega⟩
      · intro e; omega

/-- block b is a map of at most n texts: those of ks -/
def MapS (w : World) (b n : Nat) (ks : List Tx) : Prop :=
  ∃ D : DataW Unit, w.ownsMap Tryz.prog 9 (plainElem Tryz.prog 3) b n D ∧ (∀ x, has D (.string x) = decide (x ∈ ks)) ∧ Maps.size D = cntU ks
theorem MapS.lt {w : World} {b n : Nat} {ks : List Tx} (h : MapS w b n ks) : b < w.heap.size := by
  obtain ⟨D, h1, _⟩ := h; exact h1.lt
theorem MapS.fr {S : Nat → Prop} {w w' : World} {b n : Nat} {ks : List Tx} (h : MapS w b n ks) (hf : Fr S w w') (hn : ¬ S b) : MapS w' b n ks := by
  obtain ⟨D, h1, h2, h3⟩ := h
  have hlt := h1.lt
  obtain ⟨es, clock, hb, F, hs, hD⟩ := h1
  exact ⟨D, ⟨es, clock, (hf.block b hlt hn).trans hb, F, hs, hD⟩, h2, h3⟩
theorem MapS.made (w : World) : MapS (w.alloc (.map #[] 0)) w.heap.size 0 [] :=
  ⟨.map [], World.ownsMap_made w _ _ _, fun x => by simp [has], rfl⟩

theorem keyLitS (x : Tx) : WideAt.IsKeyLit (.string x) := trivial
theorem keyStrS {x : Tx} (hx : x.length ≤ maxLen) : keyOf Tryz.prog 9 (.string ⟨x.toArray⟩) = some (.string x) := by
  have := Go.WideMaps.keyOf_string_mk (P := Tryz.prog) Tryz.underlying9 (s := ⟨x.toArray⟩) (by simpa [ByteArray.size] using hx)
  simpa using this
theorem MapS.put {w w' : World} {b n : Nat} {ks : List Tx} {D : DataW Unit} (h1 : w.ownsMap Tryz.prog 9 (plainElem Tryz.prog 3) b n D) (h2 : ∀ x, has D (.string x) = decide (x ∈ ks)) (h3 : Maps.size D = cntU ks)
    (y : Tx) (v : Int) (h : w'.ownsMap Tryz.prog 9 (plainElem Tryz.prog 3) b (n + 1) (D.put (.string y) (.lit (.int .i64 v)))) : MapS w' b (n + 1) (y :: ks) := by
  have hm := h1.isMap
  refine ⟨_, h, fun x => ?_, ?_⟩
  · by_cases he : x = y
    · subst he; rw [has_put_same hm (keyLitS x)]; simp
    · rw [has_put_other (by simpa using he), h2]; simp [he]
  · rw [Maps.size_put (h1.tidy (string_keyed Tryz.underlying9)), h2, h3]
    rw [show cntU (y :: ks) = if y ∈ ks then cntU ks else cntU ks + 1 from rfl]
    by_cases hy : y ∈ ks <;> simp [hy]

/-- 'm[y] = v' -/
theorem wpList_putS (w : World) {ops : Array Oper} {rest : List Oper} {o : Oper} {a : Act} {Q : Exit → Act → World → Prop} (hg : o.guard = none) (m x v : Operand) (hop : o.op = Op.mapUpdate 158 m x v)
    (b n : Nat) (ks : List Tx) (hm : a.eval m = .map (some b)) (hown : MapS w b n ks) (hn : n ≤ 1000000000) (y : Tx) (z : Int) (hx : a.eval x = .string ⟨y.toArray⟩) (hv : a.eval v = .int .i64 z)
    (hy : y.length ≤ 9223372036854775807) (hz1 : -9223372036854775808 ≤ z) (hz2 : z ≤ 9223372036854775807)
    (hK : ∀ w', MapS w' b (n + 1) (y :: ks) → Fr (One b) w w' → wpList Tryz.prog ops Q rest (a.put o.dst undef) w') : wpList Tryz.prog ops Q (o :: rest) a w := by
  obtain ⟨D, h1, h2, h3⟩ := hown
  refine wpList_mapUpdate_own w hg m x v 158 hop 9 3 (string_keyed Tryz.underlying9) Tryz.underlying158 _ b n D hm h1 (by unfold maxLen; omega) _ _ (.string y) hx hv (keyStrS (by simpa [maxLen] using hy)) (.lit (.int .i64 z)) [] (plainElem_int Tryz.underlying3 (WalkArith.wf_i64 ⟨hz1, hz2⟩)) ?_
  intro w' hw' hg'
  exact hK w' (MapS.put h1 h2 h3 y z hw') ((Fr.of_grown hg').mono fun k _ e => by simpa [One, eq_comm] using e)
/-- 'len(m)' -/
theorem MapS.len {w : World} {b n : Nat} {ks : List Tx} (h : MapS w b n ks) (ty : TypeId) : (Builtin.len_ #[158] ty #[.map (some b)]).run Tryz.prog w = .ok (.int .i64 (cntU ks)) w := by
  obtain ⟨D, h1, h2, h3⟩ := h
  rw [← h3]
  exact h1.len Tryz.underlying158 ty
end Go.Proofs.YtheefloegbkflaaGreatDoor


namespace Go.Proofs.YtheefloegbkflaaGreatDoor
set_option linter.unusedVariables false
set_option linter.unusedSimpArgs false
set_option maxRecDepth 100000
open Go.RowKit

theorem mayC_nullT (ty : Int) : mayC ty true ⟨true, 0, []⟩ = isTy ty := by rw [mayC_null]; simp [ceq]
theorem ktype_any (ty : Int) (w : World) : Calls Tryz.prog 130 #[.int .i64 ty] w fun e w' => e = .returned (.bool (isTy ty)) ∧ Fr Non w w' := by
  have M := fun W => may_any ty true ⟨true, 0, []⟩ W
  rw [mayC_nullT] at M
  unfold clV clC at M
  dsimp only at M
  go_enter Tryz.func130, Tryz.ntmps130
  go_wp2_with fail
  refine (M _).mono ?_
  rintro e w1 ⟨rfl, f1⟩
  go_wp2
  go_ret
  exact ⟨rfl, f1⟩

theorem maynot_any (c : Co) (w : World) (hc : c.name.length ≤ 1000000000) : Calls Tryz.prog 73 #[coV c] w fun e w' => e = .returned (.bool (badC c)) ∧ Fr Non w w' := by
  obtain ⟨n, ty, nl⟩ := c
  have M := fun W => sname_any n W hc
  have T := fun W => ktype_any ty W
  have b0 := co_new w ⟨n, ty, nl⟩
  have g0 : _ = _ := b0.cell 0
  simp at g0
  unfold badC coV coC
  dsimp only
  cases hn : nameB n
  · simp only [hn] at M
    replace M := Lib.hid M
    clear T
    go_enter Tryz.func73, Tryz.ntmps73
    go_wp2_with fail
    refine (M.out _).mono ?_
    rintro e w1 ⟨rfl, f1⟩
    go_wp2
    go_ret
    exact ⟨rfl, ((Fr.refl _ _).alloc _).trans f1⟩
  · simp only [hn] at M
    replace M := Lib.hid M
    replace T := Lib.hid T
    replace b0 : Hid (CoB _ _ _) := Lib.hid b0
    go_enter Tryz.func73, Tryz.ntmps73
    go_wp2_with fail
    refine (M.out _).mono ?_
    rintro e w1 ⟨rfl, f1⟩
    have g1 := (b0.out.fr f1 (fun e => e)).cell 1
    simp at g1
    go_wp2_with fail
    refine (T.out _).mono ?_
    rintro e w2 ⟨rfl, f2⟩
    go_wp2
    go_ret
    exact ⟨ret_boolE (by simp), (((Fr.refl _ _).alloc _).trans f1).trans f2⟩

theorem idx_any (v : Value) (l : List Co) (w : World) (hv : Ks w v l) (hl : l.length ≤ 1000000000) (hb : ∀ c ∈ l, c.name.length ≤ 1000000000) :
    Calls Tryz.prog 128 #[v, .func (.func 73) #[] #[]] w fun e w' => ∃ z : Int, e = .returned (.int .i64 z) ∧ decide (0 ≤ z) = l.any badC ∧ Fr Non w w' := by
  obtain ⟨A, c, rfl, hlc, hn, hcell⟩ := hv
  have HC := Lib.hid hcell
  have HN := Lib.hid hn
  have HB := Lib.hid hb
  clear hcell hn hb
  go_enter Tryz.func128, Tryz.ntmps128
  go_wp2
  go_loopw [8] (fun i wr => ∃ (k : Nat), k ≤ l.length ∧ i = .int .i64 k ∧ Hid ((l.take k).any badC = false) ∧ Fr Non w wr) (fun i _ => l.length - (intOf i).toNat)
  case atStart => exact ⟨0, Nat.zero_le _, rfl, Lib.hid rfl, Fr.refl _ _⟩
  case round =>
    obtain ⟨k, hk, rfl, hne, hfr⟩ := hrel
    by_cases hlt : k < l.length
    · cases A with
      | none => have := HN.out rfl; omega
      | some a =>
        obtain ⟨hc0, hc1, hc2⟩ := co_lit ((HC.out a rfl k hlt).non hfr)
        have HY := Lib.hid (fun h => any_more hlt hne.out h)
        have HX : Hid (badC l[k] = true → l.any badC = true) := Lib.hid (fun h => List.any_eq_true.2 ⟨_, List.getElem_mem hlt, h⟩)
        have M := fun W => maynot_any l[k] W (HB.out _ (List.getElem_mem hlt))
        clear hne
        generalize l[k] = x at *
        obtain ⟨xn, xt, xb⟩ := x
        unfold coV coC at M
        dsimp only at hc0 hc1 hc2 HY HX M
        have HF := Lib.hid hfr
        clear hfr
        cases hx : badC ⟨xn, xt, xb⟩
        · have HE := Lib.hid (HY.out hx)
          simp only [hx] at M
          replace M := Lib.hid M
          clear HX HY hx
          go_wp2_with fail
          refine (M.out _).mono ?_
          rintro e w2 ⟨rfl, f2⟩
          go_wp2
          go_roundw
          case rel => exact ⟨k + 1, by omega, by go_num, HE, HF.out.trans f2⟩
          case measure => simp [intOf]; omega
        · have HE := Lib.hid (HX.out hx)
          simp only [hx] at M
          replace M := Lib.hid M
          clear HX HY hx
          go_wp2_with fail
          refine (M.out _).mono ?_
          rintro e w2 ⟨rfl, f2⟩
          go_wp2
          go_ret
          exact ⟨_, rfl, by rw [HE.out]; exact decide_eq_true (by omega), HF.out.trans f2⟩
    · have HE : Hid (l.any badC = false) := Lib.hid (by have := hne.out; rwa [List.take_of_length_le (by omega)] at this)
      clear hne
      go_wp2
      go_ret
      exact ⟨_, rfl, by rw [HE.out]; rfl, hfr⟩
theorem contains_any (v : Value) (l : List Co) (w : World) (hv : Ks w v l) (hl : l.length ≤ 1000000000) (hb : ∀ c ∈ l, c.name.length ≤ 1000000000) :
    Calls Tryz.prog 72 #[v, .func (.func 73) #[] #[]] w fun e w' => e = .returned (.bool (l.any badC)) ∧ Fr Non w w' := by
  have h0 := Lib.hid (idx_any v l w hv hl hb)
  clear hv hb
  go_enter Tryz.func72, Tryz.ntmps72
  go_wp2_with fail
  refine h0.out.mono ?_
  rintro e w1 ⟨z, rfl, hz, f1⟩
  go_wp2
  go_ret
  exact ⟨rfl, f1⟩

/-- the names up to k, the last one first -/
def nmsR (l : List Co) (k : Nat) : List Tx := (namesC (l.take k)).reverse
theorem nmsR_more {l : List Co} {k : Nat} (h : k < l.length) : nmsR l (k + 1) = l[k].name :: nmsR l k := by
  unfold nmsR namesC
  rw [List.take_succ_eq_append_getElem h, List.map_append, List.reverse_append]; rfl
theorem nmsR_all {l : List Co} {k : Nat} (h : k = l.length) : decide ((cntU (nmsR l k) : Int) = l.length) = decide ((namesC l).Nodup) := by
  subst h
  unfold nmsR
  rw [List.take_length]
  have h1 := cntU_all (namesC l).reverse
  rw [List.length_reverse, (List.reverse_perm (namesC l)).nodup_iff] at h1
  have h2 : (namesC l).length = l.length := by unfold namesC; rw [List.length_map]
  rw [h2] at h1
  rw [decide_eq_decide, ← h1]
  omega

set_option maxHeartbeats 1000000 in
theorem unlike_any (v : Value) (l : List Co) (w : World) (hv : Ks w v l) (hl : l.length ≤ 1000000000) (hb : ∀ c ∈ l, c.name.length ≤ 1000000000) :
    Calls Tryz.prog 74 #[v] w fun e w' => e = .returned (.bool (decide ((namesC l).Nodup))) ∧ Fr Non w w' := by
  obtain ⟨A, c, rfl, hlc, hn, hcell⟩ := hv
  have HC := Lib.hid hcell
  have HN := Lib.hid hn
  have HB := Lib.hid hb
  clear hcell hn hb
  have hmm := @run_makeMap Tryz.prog
  go_enter Tryz.func74, Tryz.ntmps74
  go_wp2
  have hm0 := MapS.made w
  have hf0 : Fr Non w (w.alloc (.map #[] 0)) := (Fr.refl _ _).alloc _
  go_loopw [9] (fun i wr => ∃ (k : Nat), k ≤ l.length ∧ i = .int .i64 k ∧ MapS wr w.heap.size k (nmsR l k) ∧ Fr Non w wr) (fun i _ => l.length - (intOf i).toNat)
  case atStart => exact ⟨0, Nat.zero_le _, rfl, hm0, hf0⟩
  case round =>
    clear hm0 hf0
    obtain ⟨k, hk, rfl, hm, hfr⟩ := hrel
    by_cases hlt : k < l.length
    · cases A with
      | none => have := HN.out rfl; omega
      | some a =>
        obtain ⟨hc0, hc1, hc2⟩ := co_lit ((HC.out a rfl k hlt).non hfr)
        have HM := Lib.hid (nmsR_more hlt)
        have hxl := HB.out _ (List.getElem_mem hlt)
        generalize l[k] = x at *
        obtain ⟨xn, xt, xb⟩ := x
        dsimp only at hc0 hc1 hc2 HM hxl
        have f1 := (Fr.refl Non wr).alloc (.cells #[.string ⟨xn.toArray⟩, .int .i64 xt, .bool xb] 69)
        have hm1 := Lib.hid (hm.fr f1 (fun e => e))
        have HF := Lib.hid (hfr.trans f1)
        have g0 := (co_new wr ⟨xn, xt, xb⟩).cell 0
        simp at g0
        clear hm hfr f1
        go_wp2_with (at_mapUpdate; refine wpList_putS _ rfl _ _ _ rfl w.heap.size k (nmsR l k) rfl hm1.out (by omega) xn (k : Int) rfl rfl (by omega) (by omega) (by omega) ?_; intro w1 hm2 hf2)
        go_roundw
        case rel => exact ⟨k + 1, by omega, by go_num, by rw [HM.out]; exact hm2, HF.out.fresh hf2 (fun q hq => by have : q = w.heap.size := hq; omega)⟩
        case measure => simp [intOf]; omega
    · have HE := Lib.hid (nmsR_all (l := l) (k := k) (by omega))
      have hlen := fun ty => hm.len ty
      clear hm
      go_wp2
      go_ret
      exact ⟨ret_boolE HE.out, hfr⟩

set_option maxHeartbeats 1000000 in
theorem scheck_any (v : Value) (l : List Co) (w : World) (hv : Ks w v l) (hl : l.length ≤ 1000000000) (hb : ∀ c ∈ l, c.name.length ≤ 1000000000) :
    Calls Tryz.prog 39 #[v] w fun e w' => e = .returned (.int .i64 (chkC l)) ∧ Fr Non w w' := by
  obtain ⟨A, c, rfl⟩ := hv.shape
  have HV := Lib.hid hv
  have C1 := Lib.hid (contains_any _ l w hv hl hb)
  have U1 := fun W h => unlike_any (.slice A l.length c) l W h hl hb
  replace U1 := Lib.hid U1
  clear hv hb
  by_cases h0 : l.length = 0
  · have H := Lib.hid (chk_none h0)
    go_enter Tryz.func39, Tryz.ntmps39
    go_wp2
    go_ret
    exact ⟨ret_int H.out.symm, Fr.refl _ _⟩
  · have h0b : ((l.length : Int) == 0) = false := by rw [beq_eq_false_iff_ne]; omega
    have H0 := Lib.hid h0
    clear h0
    cases ha : l.any badC
    · have HA := Lib.hid ha
      rw [ha] at C1
      clear ha
      by_cases hd : (namesC l).Nodup
      · have HD := Lib.hid hd
        rw [decide_eq_true hd] at U1
        clear hd
        by_cases h6 : 6 < l.length
        · have H := Lib.hid (chk_many H0.out HA.out HD.out h6)
          go_enter Tryz.func39, Tryz.ntmps39
          go_wp2_with fail
          refine C1.out.mono ?_
          rintro e w1 ⟨rfl, f1⟩
          go_wp2_with fail
          refine (U1.out _ (HV.out.non f1)).mono ?_
          rintro e w2 ⟨rfl, f2⟩
          go_wp2
          go_ret
          exact ⟨ret_int H.out.symm, f1.trans f2⟩
        · have H := Lib.hid (chk_ok H0.out HA.out HD.out h6)
          go_enter Tryz.func39, Tryz.ntmps39
          go_wp2_with fail
          refine C1.out.mono ?_
          rintro e w1 ⟨rfl, f1⟩
          go_wp2_with fail
          refine (U1.out _ (HV.out.non f1)).mono ?_
          rintro e w2 ⟨rfl, f2⟩
          go_wp2
          go_ret
          exact ⟨ret_int H.out.symm, f1.trans f2⟩
      · have H := Lib.hid (chk_dup hd)
        rw [decide_eq_false hd] at U1
        clear hd
        go_enter Tryz.func39, Tryz.ntmps39
        go_wp2_with fail
        refine C1.out.mono ?_
        rintro e w1 ⟨rfl, f1⟩
        go_wp2_with fail
        refine (U1.out _ (HV.out.non f1)).mono ?_
        rintro e w2 ⟨rfl, f2⟩
        go_wp2
        go_ret
        exact ⟨ret_int H.out.symm, f1.trans f2⟩
    · have H := Lib.hid (chk_any ha)
      rw [ha] at C1
      clear ha
      go_enter Tryz.func39, Tryz.ntmps39
      go_wp2_with fail
      refine C1.out.mono ?_
      rintro e w1 ⟨rfl, f1⟩
      go_wp2
      go_ret
      exact ⟨ret_int H.out.symm, f1⟩
end Go.Proofs.YtheefloegbkflaaGreatDoor


namespace Go.Proofs.YtheefloegbkflaaGreatDoor
set_option linter.unusedVariables false
set_option linter.unusedSimpArgs false
set_option maxRecDepth 100000
open Go.RowKit

theorem badC_no {n : Tx} {ty : Int} {nl : Bool} (h : nameB n = true) (h1 : ¬ ty < 1) (h2 : ¬ 3 < ty) : badC ⟨n, ty, nl⟩ = false := by
  unfold badC; dsimp only; rw [h]
  have : isTy ty = true := by simp [isTy]; omega
  rw [this]; rfl
theorem badC_name {n : Tx} {ty : Int} {nl : Bool} (h : nameB n = false) : badC ⟨n, ty, nl⟩ = true := by
  unfold badC; dsimp only; rw [h]; rfl
theorem badC_ty {n : Tx} {ty : Int} {nl : Bool} (h : ty < 1 ∨ 3 < ty) : badC ⟨n, ty, nl⟩ = true := by
  unfold badC; dsimp only
  have : isTy ty = false := by simp [isTy]; omega
  rw [this]; simp

set_option maxHeartbeats 2000000 in
theorem rcheck_any (v : Value) (l : List Co) (w : World) (hv : Ks w v l) (hl : l.length ≤ 1000000000) (hb : ∀ c ∈ l, c.name.length ≤ 1000000000) :
    Calls Tryz.prog 32 #[v] w fun e w' => e = .returned (.int .i64 (chkC l)) ∧ Fr Non w w' := by
  obtain ⟨A, c, rfl, hlc, hn, hcell⟩ := hv
  have HC := Lib.hid hcell
  have HN := Lib.hid hn
  have HB := Lib.hid hb
  clear hcell hn hb
  go_enter Tryz.func32, Tryz.ntmps32
  go_wp2
  go_loopw [3] (fun i wr => ∃ (k : Nat), k ≤ l.length ∧ i = .int .i64 k ∧ Hid ((l.take k).any badC = false) ∧ Hid ((namesC (l.take k)).Nodup) ∧ Fr Non w wr) (fun i _ => l.length - (intOf i).toNat)
  case atStart => exact ⟨0, Nat.zero_le _, rfl, Lib.hid rfl, Lib.hid (by simp [namesC]), Fr.refl _ _⟩
  case round =>
    obtain ⟨k, hk, rfl, hany, hnd, hfr⟩ := hrel
    by_cases hlt : k < l.length
    · cases A with
      | none => have := HN.out rfl; omega
      | some a =>
        have HF := Lib.hid hfr
        obtain ⟨hc0, hc1, hc2⟩ := co_lit ((HC.out a rfl k hlt).non hfr)
        have HX : Hid (badC l[k] = true → chkC l = 1) := Lib.hid (fun h => chk_bad hlt h)
        have HY : Hid (badC l[k] = false → (l.take (k + 1)).any badC = false) := Lib.hid (fun h => any_more hlt hany.out h)
        have HD : Hid (∀ j (hj : j < l.length), j < k → l[j].name = l[k].name → chkC l = 1) := Lib.hid (fun j hj hjk h => chk_dup (nodup_not hlt hjk h))
        have HU : Hid ((∀ j (hj : j < l.length), j < k → l[j].name ≠ l[k].name) → (namesC (l.take (k + 1))).Nodup) := Lib.hid (fun h => nodup_more hlt hnd.out h)
        have M := fun W => rname_any l[k].name W (HB.out _ (List.getElem_mem hlt))
        have HK := Lib.hid (HC.out a rfl k hlt)
        clear hany hnd hfr
        generalize l[k] = x at *
        obtain ⟨xn, xt, xb⟩ := x
        dsimp only at hc0 hc1 hc2 HX HY HD HU M
        cases hm : nameB xn
        · have HE := Lib.hid (HX.out (badC_name hm))
          simp only [hm] at M
          replace M := Lib.hid M
          clear HX HY HD HU hm
          go_wp2_with fail
          refine (M.out _).mono ?_
          rintro e w1 ⟨rfl, f1⟩
          go_wp2
          go_ret
          exact ⟨ret_int HE.out.symm, HF.out.trans f1⟩
        · have HM := Lib.hid hm
          simp only [hm] at M
          replace M := Lib.hid M
          clear hm
          go_wp2_with fail
          refine (M.out _).mono ?_
          rintro e w1 ⟨rfl, f1⟩
          have hF1 := HF.out.trans f1
          clear hc0 hc1 hc2
          obtain ⟨hc0, hc1, hc2⟩ := co_lit (HK.out.non hF1)
          dsimp only at hc0 hc1 hc2
          replace hF1 := Lib.hid hF1
          clear HF f1 M
          by_cases t1 : xt < 1
          · have HE := Lib.hid (HX.out (badC_ty (.inl t1)))
            clear HX HY HD HU
            go_wp2
            go_ret
            exact ⟨ret_int HE.out.symm, hF1.out⟩
          · by_cases t3 : 3 < xt
            · have HE := Lib.hid (HX.out (badC_ty (.inr t3)))
              clear HX HY HD HU
              go_wp2
              go_ret
              exact ⟨ret_int HE.out.symm, hF1.out⟩
            · have HE := Lib.hid (HY.out (badC_no HM.out t1 t3))
              clear HX HY
              go_wp2
              go_loopw [4] (fun i wx => ∃ q : Nat, q ≤ k ∧ i = .int .i64 q ∧ Hid (∀ j (hj : j < l.length), j < q → l[j].name ≠ xn) ∧ ∃ n, wx = w1.drewN n) (fun i _ => k - (intOf i).toNat)
              case atStart => exact ⟨0, Nat.zero_le _, rfl, Lib.hid (fun _ _ h => by omega), 0, rfl⟩
              case round =>
                obtain ⟨q, hq, rfl, hne, n, rfl⟩ := hrel
                by_cases hqk : q < k
                · have hql : q < l.length := by omega
                  have HZ : Hid (l[q].name = xn → chkC l = 1) := Lib.hid (HD.out q hql hqk)
                  have HW := Lib.hid (fun h => ne_more hql hne.out h)
                  obtain ⟨y0, y1, y2⟩ := co_lit ((HC.out a rfl q hql).non hF1.out)
                  clear hne
                  generalize l[q] = y at *
                  obtain ⟨yn, yt, yb⟩ := y
                  dsimp only at y0 y1 y2 HZ HW
                  by_cases he : yn = xn
                  · have H := Lib.hid (HZ.out he)
                    have hbe : (yn == xn) = true := by rw [beq_iff_eq]; exact he
                    clear HZ HW he
                    go_wp2
                    go_quiet (fail)
                    go_wp2
                    go_ret
                    exact ⟨ret_int H.out.symm, (hF1.out.drewN n).drewN _⟩
                  · have H := Lib.hid (HW.out he)
                    have hbe : (yn == xn) = false := by rw [beq_eq_false_iff_ne]; exact he
                    clear HZ HW he
                    go_wp2
                    go_quiet (fail)
                    go_wp2
                    go_roundw
                    case rel => exact ⟨q + 1, by omega, by go_num, H, _, rfl⟩
                    case measure => simp [intOf]; omega
                · have H := Lib.hid (HU.out (fun j hj hjk => hne.out j hj (by omega)))
                  clear HU HD hne
                  go_wp2
                  go_roundw
                  case rel => exact ⟨k + 1, by omega, by go_num, HE, H, hF1.out.drewN n⟩
                  case measure => simp [intOf]; omega
    · have HA : Hid (l.any badC = false) := Lib.hid (by have := hany.out; rwa [List.take_of_length_le (by omega)] at this)
      have HD : Hid ((namesC l).Nodup) := Lib.hid (by have := hnd.out; rwa [List.take_of_length_le (by omega)] at this)
      clear hany hnd
      by_cases h0 : l.length = 0
      · have H := Lib.hid (chk_none h0)
        go_wp2
        go_ret
        exact ⟨ret_int H.out.symm, hfr⟩
      · have h0b : ((l.length : Int) == 0) = false := by rw [beq_eq_false_iff_ne]; omega
        have H0 := Lib.hid h0
        clear h0
        by_cases h6 : 6 < l.length
        · have H := Lib.hid (chk_many H0.out HA.out HD.out h6)
          go_wp2
          go_ret
          exact ⟨ret_int H.out.symm, hfr⟩
        · have H := Lib.hid (chk_ok H0.out HA.out HD.out h6)
          go_wp2
          go_ret
          exact ⟨ret_int H.out.symm, hfr⟩

set_option maxHeartbeats 1000000 in
theorem ksmall_any (v : Value) (l : List Co) (w : World) (hv : Ks w v l) :
    Calls Tryz.prog 14 #[v] w fun e w' => ∃ b, e = .returned (.bool b) ∧ (b = true → l.length ≤ 20 ∧ ∀ c ∈ l, c.name.length ≤ 100) ∧ Fr Non w w' := by
  obtain ⟨A, c, rfl, hlc, hn, hcell⟩ := hv
  have HC := Lib.hid hcell
  have HN := Lib.hid hn
  clear hcell hn
  go_enter Tryz.func14, Tryz.ntmps14
  go_wp2
  go_loopw [3] (fun i wr => ∃ (k : Nat), k ≤ l.length ∧ k ≤ 30 ∧ i = .int .i64 k ∧ Hid (∀ j (h : j < l.length), j < k → l[j].name.length ≤ 100) ∧ Fr Non w wr) (fun i _ => 30 - (intOf i).toNat)
  case atStart => exact ⟨0, Nat.zero_le _, Nat.zero_le _, rfl, Lib.hid (fun _ _ h => by omega), Fr.refl _ _⟩
  case round =>
    obtain ⟨k, hk, hk2, rfl, HS, hfr⟩ := hrel
    by_cases hlt : k < l.length
    · by_cases h30 : k < 30
      · cases A with
        | none => have := HN.out rfl; omega
        | some a =>
          obtain ⟨hc0, hc1, hc2⟩ := co_lit ((HC.out a rfl k hlt).non hfr)
          have HY : Hid (l[k].name.length ≤ 100 → ∀ j (h : j < l.length), j < k + 1 → l[j].name.length ≤ 100) := Lib.hid (fun h j hj hjk => by
            by_cases e : j = k
            · subst e; exact h
            · exact HS.out j hj (by omega))
          clear HS
          generalize l[k] = x at *
          obtain ⟨xn, xi, xt⟩ := x
          dsimp only at hc0 hc1 hc2 HY
          have hs := slenN xn
          by_cases hx : 100 < xn.length
          · go_wp2
            go_ret
            exact ⟨false, rfl, (fun h => by cases h), hfr⟩
          · have H := Lib.hid (HY.out (by omega))
            clear HY
            go_wp2
            go_roundw
            case rel => exact ⟨k + 1, by omega, by omega, by go_num, H, hfr⟩
            case measure => simp [intOf]; omega
      · go_wp2
        go_ret
        exact ⟨_, rfl, (fun h => by have := of_decide_eq_true h; omega), hfr⟩
    · have H : Hid (∀ c ∈ l, c.name.length ≤ 100) := Lib.hid (fun c hc => by
        obtain ⟨j, hj, rfl⟩ := List.mem_iff_getElem.1 hc
        exact HS.out j hj (by omega))
      clear HS
      go_wp2
      go_ret
      exact ⟨_, rfl, (fun h => ⟨by have := of_decide_eq_true h; omega, H.out⟩), hfr⟩

theorem chkC_a : chkC [⟨[97], 1, false⟩] = 0 := by decide +kernel

end Go.Proofs.YtheefloegbkflaaGreatDoor


namespace Go.Proofs.YtheefloegbkflaaGreatDoor
set_option linter.unusedVariables false
set_option linter.unusedSimpArgs false
set_option maxRecDepth 100000
open Go.RowKit

theorem colC_at (rs : List (List Cl)) (p k : Nat) (h : k < rs.length) (hp : p < rs[k].length) : (colC rs p)[k]? = some rs[k][p] := by
  unfold colC
  rw [List.getElem?_map, List.getElem?_eq_getElem h]
  simp [hp]
theorem colC_take (rs : List (List Cl)) (p k : Nat) (h : k < rs.length) (hp : p < rs[k].length) : (colC rs p).take (k + 1) = (colC rs p).take k ++ [rs[k][p]] := by
  have hl : k < (colC rs p).length := by rw [colC_length]; exact h
  rw [List.take_succ_eq_append_getElem hl]
  have := colC_at rs p k h hp
  rw [List.getElem?_eq_getElem hl] at this
  rw [Option.some.inj this]

set_option maxHeartbeats 4000000 in
theorem across_any (v : Value) (rs : List (List Cl)) (p : Nat) (w : World) (hv : Rs w v rs) (hl : rs.length ≤ 1000000) (hp : ∀ r ∈ rs, p < r.length) :
    Calls Tryz.prog 27 #[v, .int .i64 p] w fun e w' => ∃ u, e = .returned u ∧ Oc w' w.heap.size u (colC rs p) ∧ Fr Non w w' := by
  obtain ⟨A, c, rfl⟩ := hv.shape
  have HV := Lib.hid hv
  have HP := Lib.hid hp
  clear hv hp
  go_enter Tryz.func27, Tryz.ntmps27
  go_wp2_with (at_make; refine wpList_mkC rfl _ _ rfl _ _ _ _ rs.length rfl rfl rfl rfl (by omega) ?_; intro w2 hown2 hfr2)
  generalize hg : w.heap.size = g at *
  have hgl := Nat.le_of_eq hg
  clear hg
  have HS := Lib.hid hgl
  go_loopw [13] (fun i wr => ∃ (k : Nat) (D : List Cl), k ≤ rs.length ∧ i = .int .i64 k ∧ Hid (D = (colC rs p).take k) ∧ Oc wr g (.slice (some ⟨g, 0, none⟩) rs.length rs.length) (D ++ List.replicate (rs.length - k) noCl) ∧ Fr Non w wr) (fun i _ => rs.length - (intOf i).toNat)
  case atStart => exact ⟨0, [], Nat.zero_le _, rfl, Lib.hid rfl, hown2, hfr2⟩
  case round =>
    clear hown2 hfr2
    obtain ⟨k, D, hk, rfl, HT, hO, hfr⟩ := hrel
    by_cases hlt : k < rs.length
    · have hpk := HP.out rs[k] (List.getElem_mem hlt)
      obtain ⟨a, A', c', rfl, _, hc1, hc2⟩ := (HV.out.non hfr).el k hlt
      have HT2 : Hid (D ++ [rs[k][p]] = (colC rs p).take (k + 1)) := Lib.hid (by rw [colC_take rs p k hlt hpk, HT.out])
      have hD : D.length = k := by rw [HT.out, List.length_take, colC_length]; omega
      have hlen : rs.length = (D ++ List.replicate (rs.length - k) noCl).length := by simp; omega
      have hat : (D ++ List.replicate (rs.length - k) noCl)[k]? = some noCl := by
        have := rep_at D (rs.length - k) noCl (by omega)
        rw [hD] at this; exact this
      have hset : ∀ x : Cl, (D ++ List.replicate (rs.length - k) noCl).set k x = (D ++ [x]) ++ List.replicate (rs.length - (k + 1)) noCl := fun x => by
        have := rep_set D (rs.length - k) noCl x (by omega)
        rw [hD, show rs.length - k - 1 = rs.length - (k + 1) by omega] at this; exact this
      generalize rs[k] = r at *
      have hr0 : 0 < r.length := by omega
      obtain ⟨a', rfl, _, _, hel⟩ := hc2.addr hr0
      obtain ⟨q0, q1, q2⟩ := (hel p hpk).lit
      obtain ⟨e0, e1, e2⟩ := hO.el hlen k _ hat
      have f0 := hO.frozen hlen (k * 3)
      have f1 := hO.frozen hlen (k * 3 + 1)
      have f2 := hO.frozen hlen (k * 3 + 2)
      have hgw : g < wr.heap.size := (hO.lt g rfl).2
      have hO2 := hO.put3 hlen k (by omega) r[p]
      rw [hset] at hO2
      have HO2 := Lib.hid hO2
      generalize r[p] = x at *
      have hfr2 := Lib.hid (hfr.fresh ((((Fr.refl (One g) wr).set1 (k * 3) (.bool x.null)).set1 (k * 3 + 1) (.int .i64 x.num)).set1 (k * 3 + 2) (.string ⟨x.txt.toArray⟩)) (fun q e => by have : q = g := e; have := HS.out; omega))
      obtain ⟨xn, xi, xt⟩ := x
      clear hO2 hO HT hel hset hc2 hlen hat hD hfr
      go_wp2
      go_roundw
      case rel => exact ⟨k + 1, _, by omega, by go_num, HT2, HO2.out, hfr2.out⟩
      case measure => simp [intOf]; omega
    · obtain rfl : k = rs.length := by omega
      have hE : D = colC rs p := by rw [HT.out, List.take_of_length_le (by rw [colC_length]; exact Nat.le_refl _)]
      rw [Nat.sub_self, List.replicate_zero, List.append_nil, hE] at hO
      clear HT
      go_wp2
      go_ret
      exact ⟨_, rfl, hO.mono HS.out, hfr⟩

set_option maxHeartbeats 4000000 in
theorem rcells_any (v : Value) (rs : List (List Cl)) (p : Nat) (w : World) (hv : Rs w v rs) (hl : rs.length ≤ 1000000) (hp : ∀ r ∈ rs, p < r.length) :
    Calls Tryz.prog 22 #[v, .int .i64 p] w fun e w' => ∃ u, e = .returned u ∧ Oc w' w.heap.size u (colC rs p) ∧ Fr Non w w' := by
  obtain ⟨A, c, rfl⟩ := hv.shape
  have HV := Lib.hid hv
  have HP := Lib.hid hp
  clear hv hp
  go_enter Tryz.func22, Tryz.ntmps22
  go_wp2
  generalize hg : w.heap.size = g at *
  have hO0 : Oc (w.alloc (.cells #[] 54)) g (.slice (some ⟨g, 0, none⟩) 0 0) [] := oc_lit0 w g g hg.symm (Nat.le_refl _)
  have hf0 := (Fr.refl Non w).alloc (.cells #[] 54)
  have HS := Lib.hid (Nat.le_of_eq hg)
  have HS2 := Lib.hid (Nat.le_of_eq hg.symm)
  clear hg
  go_loopw [5, 6] (fun x i wr => ∃ (k : Nat), k ≤ rs.length ∧ i = .int .i64 k ∧ Oc wr g x ((colC rs p).take k) ∧ Fr Non w wr) (fun _ i _ => rs.length - (intOf i).toNat)
  case atStart => exact ⟨0, Nat.zero_le _, rfl, hO0, hf0⟩
  case round =>
    clear hO0 hf0
    obtain ⟨k, hk, rfl, hO, hfr⟩ := hrel
    by_cases hlt : k < rs.length
    · have hpk := HP.out rs[k] (List.getElem_mem hlt)
      obtain ⟨a, A', c', rfl, _, hc1, hc2⟩ := (HV.out.non hfr).el k hlt
      have HT2 := Lib.hid (colC_take rs p k hlt hpk)
      have hdl : ((colC rs p).take k).length = k := by rw [List.length_take, colC_length]; omega
      have HDl := Lib.hid hdl
      generalize (colC rs p).take k = D at *
      generalize rs[k] = r at *
      have hr0 : 0 < r.length := by omega
      obtain ⟨a', rfl, _, _, hel⟩ := hc2.addr hr0
      obtain ⟨q0, q1, q2⟩ := (hel p hpk).lit
      generalize r[p] = x at *
      have hsz := hfr.size
      have hgw : g ≤ wr.heap.size := by have := HS2.out; omega
      have HO := Lib.hid hO
      have HF := Lib.hid hfr
      obtain ⟨xn, xi, xt⟩ := x
      clear hO hel hc2 hfr hdl
      go_wp2_with (at_builtin; refine wpList_pushC rfl (.tmp 14) (.tmp 22) rfl g _ D rfl HO.out ⟨xn, xi, xt⟩ _ _ _ rfl rfl rfl _ rfl rfl (by have := HDl.out; omega) hgw ?_; intro v6 w6 hown6 hf6)
      have hfr6 := HF.out.fresh hf6 (fun q hq => by have := (HO.out.lt q hq).1; have := HS.out; omega)
      go_roundw
      case rel => exact ⟨k + 1, by omega, by go_num, by rw [HT2.out]; exact hown6, hfr6⟩
      case measure => simp [intOf]; omega
    · obtain rfl : k = rs.length := by omega
      rw [List.take_of_length_le (by rw [colC_length]; exact Nat.le_refl _)] at hO
      go_wp2
      go_ret
      exact ⟨_, rfl, hO.mono HS.out, hfr⟩

set_option maxHeartbeats 1000000 in
theorem fault_any (v1 v2 : Value) (cols : List Co) (rows : List (List Cl)) (w : World) (h1 : Ks w v1 cols) (h2 : Rs w v2 rows) (hl : cols.length ≤ 1000000000) (hb : ∀ c ∈ cols, c.name.length ≤ 1000000000) (hr : rows.length ≤ 1000000000) :
    Calls Tryz.prog 25 #[v1, v2] w fun e w' => e = .returned (.int .i64 (segE cols rows)) ∧ Fr Non w w' := by
  obtain ⟨A, c, rfl⟩ := h2.shape
  have H1 := Lib.hid h1
  have H2 := Lib.hid h2
  have HCk := Lib.hid (scheck_any v1 cols w h1 hl hb)
  have HE : Hid (segE cols rows = if chkC cols ≠ 0 ∨ rows.length = 0 then 1 else if 200 < rows.length then 4 else if rows.all (rowB cols) = true then 0 else 10) := Lib.hid rfl
  clear h1 h2 hb
  generalize segE cols rows = E at *
  go_enter Tryz.func25, Tryz.ntmps25
  go_wp2_with fail
  refine HCk.out.mono ?_
  rintro e w1 ⟨rfl, f1⟩
  have F1 := Lib.hid f1
  clear f1 HCk
  by_cases hc : chkC cols = 0
  · have hcb : ((chkC cols) != 0) = false := by rw [hc]; rfl
    by_cases h0 : rows.length = 0
    · have hz : ((rows.length : Int) == 0) = true := by rw [h0]; rfl
      have HE1 : Hid (E = 1) := Lib.hid (by rw [HE.out, if_pos (.inr h0)])
      clear HE h0 hc
      go_wp2
      go_ret
      rw [HE1.out]
      exact ⟨rfl, F1.out⟩
    · have hz : ((rows.length : Int) == 0) = false := by rw [beq_eq_false_iff_ne]; omega
      by_cases h200 : 200 < rows.length
      · have hd : decide (200 < (rows.length : Int)) = true := by simp; omega
        have HE1 : Hid (E = 4) := Lib.hid (by rw [HE.out, if_neg (by omega), if_pos h200])
        clear HE h0 hc h200
        go_wp2
        go_ret
        rw [HE1.out]
        exact ⟨rfl, F1.out⟩
      · have hd : decide (200 < (rows.length : Int)) = false := by simp; omega
        have HE1 : Hid (E = if rows.all (rowB cols) = true then 0 else 10) := Lib.hid (by rw [HE.out, if_neg (by omega), if_neg h200])
        clear HE h0 hc h200
        go_wp2
        go_loopw [20] (fun i wr => ∃ k : Nat, k ≤ rows.length ∧ i = .int .i64 k ∧ Hid ((rows.take k).all (rowB cols) = true) ∧ Fr Non w wr) (fun i _ => rows.length - (intOf i).toNat)
        case atStart => exact ⟨0, Nat.zero_le _, rfl, Lib.hid rfl, F1.out⟩
        case round =>
          clear F1
          obtain ⟨k, hk, rfl, HA, hF⟩ := hrel
          by_cases hlt : k < rows.length
          · obtain ⟨a, A', c', rfl, _, hc1, hc2⟩ := (H2.out.non hF).el k hlt
            have HR := Lib.hid (srow_any v1 _ cols rows[k] wr (H1.out.non hF) hc2 hl)
            have HF := Lib.hid hF
            have HM : Hid (rowB cols rows[k] = true → (rows.take (k + 1)).all (rowB cols) = true) := Lib.hid (fun h => by rw [List.take_succ_eq_append_getElem hlt, List.all_append, HA.out]; simp [h])
            have HX : Hid (rowB cols rows[k] = false → rows.all (rowB cols) = false) := Lib.hid (fun h => List.all_eq_false.2 ⟨rows[k], List.getElem_mem hlt, by simp [h]⟩)
            generalize rows[k] = r at *
            clear hc2 hF HA
            cases hb : rowB cols r with
            | true =>
              have HM2 := Lib.hid (HM.out hb)
              rw [hb] at HR
              clear hb HM HX
              go_wp2_with fail
              refine HR.out.mono ?_
              rintro e w2 ⟨rfl, f2⟩
              have HF2 := Lib.hid (HF.out.trans f2)
              clear HR f2 HF
              go_wp2
              go_roundw
              case rel => exact ⟨k + 1, by omega, by go_num, HM2, HF2.out⟩
              case measure => simp [intOf]; omega
            | false =>
              have HE2 : Hid (E = 10) := Lib.hid (by rw [HE1.out, HX.out hb]; rfl)
              rw [hb] at HR
              clear hb HM HX HE1
              go_wp2_with fail
              refine HR.out.mono ?_
              rintro e w2 ⟨rfl, f2⟩
              have HF2 := Lib.hid (HF.out.trans f2)
              clear HR f2 HF
              go_wp2
              go_ret
              rw [HE2.out]
              exact ⟨rfl, HF2.out⟩
          · have HE2 : Hid (E = 0) := Lib.hid (by
              have h := HA.out
              rw [List.take_of_length_le (by omega)] at h
              rw [HE1.out, if_pos h])
            have HF := Lib.hid hF
            clear HE1 HA hF
            go_wp2
            go_ret
            rw [HE2.out]
            exact ⟨rfl, HF.out⟩
  · have hcb : ((chkC cols) != 0) = true := by rw [bne_iff_ne]; exact hc
    have HE1 : Hid (E = 1) := Lib.hid (by rw [HE.out, if_pos (.inl hc)])
    clear HE hc
    go_wp2
    go_ret
    rw [HE1.out]
    exact ⟨rfl, F1.out⟩
end Go.Proofs.YtheefloegbkflaaGreatDoor


namespace Go.Proofs.YtheefloegbkflaaGreatDoor
set_option linter.unusedVariables false
set_option linter.unusedSimpArgs false
set_option maxRecDepth 100000
open Go.RowKit

theorem no_other {α : Type} {f : α → List Value} {k : Nat} {E t : TypeId} {w : World} {B g : Nat} {v : Value} {l : List α} {cs : Array Value} (h : No f k E w B v l) (hb : Blk w g t cs) (hne : E ≠ t) : ∀ b, v.ownBlock = some b → b ≠ g := by
  rintro b hk rfl
  obtain ⟨cur, h1⟩ := h.kind b hk
  unfold Blk at hb
  rw [hb] at h1
  simp at h1
  exact hne h1.2.symm
end Go.Proofs.YtheefloegbkflaaGreatDoor


namespace Go.Proofs.YtheefloegbkflaaGreatDoor
set_option linter.unusedVariables false
set_option linter.unusedSimpArgs false
set_option maxRecDepth 100000
open Go.RowKit

theorem zeq_dec (a b : Zn) : zeq a b = (decide (a.rows = b.rows) && (decide (a.nulls = b.nulls) && (decide (a.low.null = b.low.null) && (decide (a.low.num = b.low.num) && (decide (a.low.txt = b.low.txt) && (decide (a.high.null = b.high.null) && (decide (a.high.num = b.high.num) && decide (a.high.txt = b.high.txt)))))))) := by
  rw [zeq_parts, Bool.eq_iff_iff]
  simp
theorem ite_andn (W : World) (p : Prop) [Decidable p] (x : Bool) : (if p then Result.ok (Value.bool x) W else Result.ok (Value.bool true) W) = Result.ok (Value.bool (!(decide p && !x))) W := by
  by_cases hp : p <;> simp [hp]
set_option maxHeartbeats 1000000 in
theorem run_neq_zn (W : World) (a b : Zn) : (binOp .neq 56 (.agg #[.int .i64 a.rows, .int .i64 a.nulls, .bool a.low.null, .int .i64 a.low.num, .string ⟨a.low.txt.toArray⟩, .bool a.high.null, .int .i64 a.high.num, .string ⟨a.high.txt.toArray⟩]) (.agg #[.int .i64 b.rows, .int .i64 b.nulls, .bool b.low.null, .int .i64 b.low.num, .string ⟨b.low.txt.toArray⟩, .bool b.high.null, .int .i64 b.high.num, .string ⟨b.high.txt.toArray⟩])).run Tryz.prog W = .ok (.bool (!zeq a b)) W := by
  rw [zeq_dec]
  obtain ⟨ar, an, ⟨aln, ali, alt⟩, ⟨ahn, ahi, aht⟩⟩ := a
  obtain ⟨br, bn, ⟨bln, bli, blt⟩, ⟨bhn, bhi, bht⟩⟩ := b
  dsimp only
  go_simp
  simp only [ite_andn, Bool.and_true, Bool.not_not, Bool.not_false, Bool.not_true, Bool.not_and]

set_option maxHeartbeats 1000000 in
theorem smallC_any (v : Value) (l : List Cl) (w : World) (hv : Cs w v l) :
    Calls Tryz.prog 24 #[v] w fun e w' => ∃ b, e = .returned (.bool b) ∧ (b = true → l.length ≤ 100) ∧ Fr Non w w' := by
  obtain ⟨A, c, rfl, hlc, hn, hcell⟩ := hv
  have HC := Lib.hid hcell
  have HN := Lib.hid hn
  clear hcell hn
  go_enter Tryz.func24, Tryz.ntmps24
  go_wp2
  go_loopw [3] (fun i wr => ∃ (k : Nat), k ≤ l.length ∧ k ≤ 200 ∧ i = .int .i64 k ∧ Fr Non w wr) (fun i _ => 200 - (intOf i).toNat)
  case atStart => exact ⟨0, Nat.zero_le _, Nat.zero_le _, rfl, Fr.refl _ _⟩
  case round =>
    obtain ⟨k, hk, hk2, rfl, hfr⟩ := hrel
    by_cases hlt : k < l.length
    · by_cases h200 : k < 200
      · cases A with
        | none => have := HN.out rfl; omega
        | some a =>
          obtain ⟨hc0, hc1, hc2⟩ := (hfr.at3 (HC.out a rfl k hlt)).lit
          generalize l[k] = x at *
          obtain ⟨xn, xi, xt⟩ := x
          dsimp only at hc0 hc1 hc2
          have hs := slen xt
          by_cases hx : 60 < xt.length
          · go_wp2
            go_ret
            exact ⟨false, rfl, (fun h => by cases h), hfr⟩
          · go_wp2
            go_roundw
            case rel => exact ⟨k + 1, by omega, by omega, by go_num, hfr⟩
            case measure => simp [intOf]; omega
      · go_wp2
        go_ret
        exact ⟨_, rfl, (fun h => by have := of_decide_eq_true h; omega), hfr⟩
    · go_wp2
      go_ret
      exact ⟨_, rfl, (fun h => by have := of_decide_eq_true h; omega), hfr⟩

end Go.Proofs.YtheefloegbkflaaGreatDoor


namespace Go.Proofs.YtheefloegbkflaaGreatDoor
set_option linter.unusedVariables false
set_option linter.unusedSimpArgs false
set_option maxRecDepth 100000
open Go.RowKit

def chL (c : Ch) : List Value := [.int .i64 c.off, .int .i64 c.len, .int .i64 c.zn.rows, .int .i64 c.zn.nulls, .bool c.zn.low.null, .int .i64 c.zn.low.num, .string ⟨c.zn.low.txt.toArray⟩, .bool c.zn.high.null, .int .i64 c.zn.high.num, .string ⟨c.zn.high.txt.toArray⟩]
theorem fd_ch : Fd chL 10 := ⟨fun _ => rfl, fun x u hu => by simp [chL] at hu; rcases hu with rfl | rfl | rfl | rfl | rfl | rfl | rfl | rfl | rfl | rfl <;> rfl, by omega, by omega⟩
theorem eln_ch : Eln 38 58 (.agg #[.int .i64 0, .int .i64 0, .int .i64 0, .int .i64 0, .bool false, .int .i64 0, .string ⟨#[]⟩, .bool false, .int .i64 0, .string ⟨#[]⟩]) 10 96 := ⟨Tryz.underlying38, by kernel_rfl, rfl, by decide⟩
abbrev Hs (w : World) (v : Value) (l : List Ch) : Prop := Ns chL 10 w v l
abbrev Ho (w : World) (B : Nat) (v : Value) (l : List Ch) : Prop := No chL 10 58 w B v l
/-- a footer's words in a block -/
abbrev FtB (w : World) (g : Nat) (R : Int) (u : Value) : Prop := Blk w g 40 #[.int .i64 R, u]
theorem load_foot {w : World} {g : Nat} {cs : Array Value} (hg : Blk w g 40 cs) (h2 : cs.size = 2) : (loadVar 40 ⟨g, 0, none⟩).run Tryz.prog w = .ok (.agg cs) w :=
  run_loadVar_row w g 40 40 cs (0, 0) _ hg Tryz.underlying40 rfl (by rw [h2]; kernel_rfl)
theorem ch_ne_src : 58 ≠ 120 := by decide
theorem ch_ne_foot : 58 ≠ 40 := by decide
theorem ks_lit {w : World} {a : Addr} {n c : Nat} {l : List Co} (h : Ks w (.slice (some a) n c) l) (k : Nat) (x : Co) (hx : l[k]? = some x) :
    w.cell? (a.add (k * 3)) = some (.string ⟨x.name.toArray⟩) ∧ w.cell? { block := (a.add (k * 3)).block, off := (a.add (k * 3)).off + 1 } = some (.int .i64 x.ty) ∧ w.cell? { block := (a.add (k * 3)).block, off := (a.add (k * 3)).off + 2 } = some (.bool x.nl) := by
  obtain ⟨a', e, hat⟩ := h.at_ k x hx
  cases e
  exact co_lit hat
end Go.Proofs.YtheefloegbkflaaGreatDoor


namespace Go.Proofs.YtheefloegbkflaaGreatDoor
set_option linter.unusedVariables false
set_option linter.unusedSimpArgs false
set_option maxRecDepth 100000
open Go.RowKit

set_option maxHeartbeats 8000000 in
theorem stake_any (g : Nat) (says : List UInt8) (bad : Bool) (v : Value) (cols : List Co) (w : World) (h : Src w g says bad) (hv : Ks w v cols) (hne : ∀ q, v.ownBlock = some q → q ≠ g) (hl : cols.length ≤ 6) :
    Calls Tryz.prog 42 #[ptr g, v] w fun e w' => ∃ u l0 b0, ((mostV says 200 = 0 ∧ l0 = [] ∧ b0 = true) ∨ (mostV says 200 ≠ 0 ∧ l0 = mostR says 200 ∧ b0 = mostB says 200)) ∧
      e = .returned (.tuple #[.agg #[.int .i64 (mostV says 200 : Nat), u], .int .i64 ((rdSays (mostV says 200) (cols.map Co.ty) 0 l0 b0).2.1 : Nat)]) ∧
      Ho w' w.heap.size u (rdSays (mostV says 200) (cols.map Co.ty) 0 l0 b0).1 ∧ Src w' g (rdSays (mostV says 200) (cols.map Co.ty) 0 l0 b0).2.2.1 (rdSays (mostV says 200) (cols.map Co.ty) 0 l0 b0).2.2.2 ∧ Fr (One g) w w' := by
  obtain ⟨A, c, rfl⟩ := hv.shape
  have HV := Lib.hid hv
  have HNe := Lib.hid hne
  have hg := h.1.lt
  have hB4 : FtB (w.alloc (.cells #[.int .i64 0, .slice none 0 0] 40)) w.heap.size 0 (.slice none 0 0) := Blk.new _ _ _
  have f0 := (Fr.refl (One g) w).alloc (.cells #[.int .i64 0, .slice none 0 0] 40)
  have hs0 := h.fr ((Fr.refl Non w).alloc (.cells #[.int .i64 0, .slice none 0 0] 40)) (fun e => e)
  have hz : (w.alloc (.cells #[.int .i64 0, .slice none 0 0] 40)).heap.size = w.heap.size + 1 := by simp
  have h0 := below_any g says bad 201 _ hs0 (by omega)
  rw [show (201 : Int) - 1 = 200 by rfl] at h0
  have hm := mostK_le says (show (0 : Int) ≤ 200 by omega)
  have hgt := hB4.lt
  clear h hv hne hs0
  generalize mostV says 200 = R at *
  generalize mostR says 200 = l1 at *
  generalize mostB says 200 = b1 at *
  go_enter Tryz.func42, Tryz.ntmps42
  go_wp2_with fail
  generalize w.alloc (.cells #[.int .i64 0, .slice none 0 0] 40) = W0 at *
  refine h0.mono ?_
  rintro e w1 ⟨rfl, s1, f1⟩
  clear h0
  have hwg : w.heap.size ≠ g := by omega
  have hB41 := hB4.fr f1 (fun e => hwg e)
  have F1 := f0.trans f1
  have fa := (Fr.refl Non w1).alloc (.cells #[.int .i64 (R : Int), .slice none 0 0] 40)
  have hB6 : FtB (w1.alloc (.cells #[.int .i64 (R : Int), .slice none 0 0] 40)) w1.heap.size (R : Int) (.slice none 0 0) := Blk.new _ _ _
  have hB42 := hB41.fr fa (fun e => e)
  have s2 := s1.fr fa (fun e => e)
  have F2 := F1.then fa
  have hw1 := F1.size
  have hgt1 := hB41.lt
  have hg1 := s1.1.lt
  have hc60 : (w1.alloc (.cells #[.int .i64 (R : Int), .slice none 0 0] 40)).cell? ⟨w1.heap.size, 0, none⟩ = some (.int .i64 R) := hB6.cell 0
  clear hB4 f0 f1 hB41 F1 fa s1 hz hgt
  have hg6 : w1.heap.size ≠ w.heap.size := by omega
  have hg6' : w1.heap.size ≠ g := by omega
  clear hgt1
  by_cases hR : R = 0
  · have hRb : ((R : Int) == 0) = true := by rw [hR]; rfl
    have HF := Lib.hid (fail_any g l1 b1 _ s2)
    have hR0 := Lib.hid hR
    clear s2 hR
    go_wp2_with fail
    refine HF.out.mono ?_
    rintro e w3 ⟨rfl, s3, f3⟩
    have hB43 := hB42.fr f3 (fun e => hwg e)
    have hB63 := hB6.fr f3 (fun e => hg6' e)
    have F3 := F2.trans f3
    clear HF hB42 hB6 F2 f3 hc60 hRb
    have HE : Hid (rdSays (R : Int) (cols.map Co.ty) 0 [] true = rdSays (R : Int) (cols.map Co.ty) 0 [] true) := Lib.hid rfl
    generalize hX : rdSays (R : Int) (cols.map Co.ty) 0 [] true = X at *
    have HX := Lib.hid hX
    clear HE hX
    have hlm : (cols.map Co.ty).length = cols.length := by simp
    have HM : Hid (∀ k (h : k < cols.length), (cols.map Co.ty)[k]'(by rw [hlm]; exact h) = cols[k].ty) := Lib.hid (fun k h => by simp)
    go_wp2
    generalize w1.heap.size = g6 at *
    go_loopw [7, 22] (fun x i wr => ∃ (k at_ : Nat) (D : List Ch) (q : List UInt8) (bad' : Bool) (u : Value), k ≤ cols.length ∧ i = .int .i64 k ∧ x = .int .i64 at_ ∧ Hid (ToS R (cols.map Co.ty) [] true k D at_ q bad') ∧ Src wr g q bad' ∧ FtB wr w.heap.size 0 (.slice none 0 0) ∧ FtB wr g6 R u ∧ Ho wr w.heap.size u D ∧ Fr (One g) w wr) (fun _ i _ => cols.length - (intOf i).toNat)
    case atStart => exact ⟨0, 0, [], [], true, .slice none 0 0, Nat.zero_le _, rfl, rfl, Lib.hid (toS_zero _ _ _ _), s3, hB43, hB63, no_nil _ _, F3⟩
    case round =>
      clear s3 hB43 hB63 F3
      obtain ⟨k, at_, D, q, bad', u, hk, rfl, rfl, HT, hs, hB4, hB6, hO, hF⟩ := hrel
      have hD6 : D.length ≤ 6 := by have := HT.out.len; omega
      have hbig := HT.out.big
      obtain ⟨Au, cu, rfl⟩ := (hO.ns fd_ch).shape
      have hg6lt := hB6.lt
      have hw0lt := hB4.lt
      have hglt := hs.1.lt
      by_cases hlt : k < cols.length
      · have HVr := HV.out.fr hF (fun b hb e => HNe.out b hb e)
        obtain ⟨a, rfl, _⟩ := HVr.at_ k cols[k] (List.getElem?_eq_getElem hlt)
        obtain ⟨c0, c1, c2⟩ := ks_lit HVr k cols[k] (List.getElem?_eq_getElem hlt)
        have HT2 := Lib.hid (toS_step HT.out (by rw [hlm]; exact hlt))
        rw [HM.out k hlt] at HT2
        have hm2 := mostK_le q (show (0 : Int) ≤ 1048576 by omega)
        have T1 := Lib.hid (fun W (s : Src W g q bad') => below_any g q bad' 1048577 W s (by omega))
        rw [show (1048577 : Int) - 1 = 1048576 by rfl] at T1
        have T2 := Lib.hid (fun W s => ztake_any g (mostR q 1048576) (mostB q 1048576) cols[k].ty W s)
        have HSay : Hid (rdSay (R : Int) cols[k].ty q = if (tkZ cols[k].ty (mostR q 1048576)).1.rows = (R : Int) then (tkZ cols[k].ty (mostR q 1048576)).2 else ([], true)) := Lib.hid rfl
        generalize rdSay (R : Int) cols[k].ty q = sy at *
        generalize tkZ cols[k].ty (mostR q 1048576) = tz at *
        generalize mostV q 1048576 = m at *
        generalize mostR q 1048576 = q1 at *
        generalize mostB q 1048576 = bq at *
        generalize cols[k] = cc at *
        obtain ⟨nm, ty, nl⟩ := cc
        obtain ⟨z, q2, bad2⟩ := tz
        dsimp only at c0 c1 c2 HT2 T2 HSay
        unfold znV znC at T2
        have fa := (Fr.refl Non wr).alloc (.cells #[.string ⟨nm.toArray⟩, .int .i64 ty, .bool nl] 69)
        have b3 := co_new wr ⟨nm, ty, nl⟩
        have hs3 := hs.fr fa (fun e => e)
        have hB43 := hB4.fr fa (fun e => e)
        have hB63 := hB6.fr fa (fun e => e)
        have hO3 := hO.non fa
        have hF3 := hF.then fa
        have hz3 : (wr.alloc (.cells #[.string ⟨nm.toArray⟩, .int .i64 ty, .bool nl] 69)).heap.size = wr.heap.size + 1 := by simp
        replace T1 := Lib.hid (T1.out _ hs3)
        replace b3 : Hid (CoB _ _ _) := Lib.hid b3
        replace hB43 : Hid (FtB _ _ _ _) := Lib.hid hB43
        replace hB63 : Hid (FtB _ _ _ _) := Lib.hid hB63
        replace hO3 := Lib.hid hO3
        replace hF3 := Lib.hid hF3
        have hwr := hF.size
        clear hs hB4 hB6 hO hF fa HVr HT hs3
        go_wp2_with fail
        refine T1.out.mono ?_
        rintro e w4 ⟨rfl, s4, f4⟩
        generalize hgc : wr.heap.size = gc at *
        have hcg : gc ≠ g := by omega
        have b4 : CoB w4 gc ⟨nm, ty, nl⟩ := b3.out.fr f4 (fun e => hcg e)
        have hB44 := hB43.out.fr f4 (fun e => hwg e)
        have hB64 := hB63.out.fr f4 (fun e => hg6' e)
        have hO4 := hO3.out.fr f4 (fun b hb e => by have h1 : b = g := e; have := (hO3.out.lt b hb).1; omega)
        have hF4 := hF3.out.trans f4
        have d1 : w4.cell? ⟨gc, 1, none⟩ = some (.int .i64 ty) := b4.cell 1
        replace T2 := Lib.hid (T2.out _ s4)
        have hF4' := Lib.hid hF4
        have hsz4 := hF4.size
        have hgc4 := b4.lt
        have hB44 : Hid (FtB _ _ _ _) := Lib.hid hB44
        have hB64 : Hid (FtB _ _ _ _) := Lib.hid hB64
        have hO4 := Lib.hid hO4
        clear T1 b3 hB43 hB63 hO3 hF3 b4 hF4 f4 s4 c0 c1 c2
        go_wp2_with fail
        refine T2.out.mono ?_
        rintro e w5 ⟨rfl, s5, f5⟩
        have hB45 := hB44.out.fr f5 (fun e => hwg e)
        have hB65 := hB64.out.fr f5 (fun e => hg6' e)
        have hO5 := hO4.out.fr f5 (fun b hb e => by have h1 : b = g := e; have := (hO4.out.lt b hb).1; omega)
        have hF5 := hF4'.out.trans f5
        have hf5s := f5.size
        have ga := (Fr.refl Non w5).alloc (.cells (znC z) 56)
        have zb : ZnB (w5.alloc (.cells (znC z) 56)) w5.heap.size z := Blk.new _ _ _
        have s6 := s5.fr ga (fun e => e)
        have hB46 := hB45.fr ga (fun e => e)
        have hB66 := hB65.fr ga (fun e => e)
        have hO6 := hO5.non ga
        have hF6 := hF5.then ga
        have hgz5 : g6 < w5.heap.size := by omega
        unfold znC at zb ga s6 hB46 hB66 hO6 hF6
        have z0 : (w5.alloc (.cells #[.int .i64 z.rows, .int .i64 z.nulls, .bool z.low.null, .int .i64 z.low.num, .string ⟨z.low.txt.toArray⟩, .bool z.high.null, .int .i64 z.high.num, .string ⟨z.high.txt.toArray⟩] 56)).cell? ⟨w5.heap.size, 0, none⟩ = some (.int .i64 z.rows) := zb.cell 0
        have z60 : (w5.alloc (.cells #[.int .i64 z.rows, .int .i64 z.nulls, .bool z.low.null, .int .i64 z.low.num, .string ⟨z.low.txt.toArray⟩, .bool z.high.null, .int .i64 z.high.num, .string ⟨z.high.txt.toArray⟩] 56)).cell? ⟨g6, 0, none⟩ = some (.int .i64 R) := hB66.cell 0
        clear T2 hB44 hB64 hO4 hF4' hB45 hB65 hO5 hF5 ga s5 d1 hgc f5
        have hzg : w5.heap.size ≠ g := by omega
        have hmm : IntKind.i64.wrap ((at_ : Int) + m) = (at_ + m : Nat) := by rw [IntWalk.i64_in _ ⟨by omega, by omega⟩]; push_cast; rfl
        by_cases hzr : z.rows = (R : Int)
        · have hzb : (z.rows != (R : Int)) = false := by rw [hzr]; simp
          have HSy2 : Hid (sy = (q2, bad2)) := Lib.hid (by rw [HSay.out, if_pos hzr])
          clear hzr
          have hsW := s6
          have y0 : (w5.alloc (.cells #[.int .i64 z.rows, .int .i64 z.nulls, .bool z.low.null, .int .i64 z.low.num, .string ⟨z.low.txt.toArray⟩, .bool z.high.null, .int .i64 z.high.num, .string ⟨z.high.txt.toArray⟩] 56)).cell? ⟨w5.heap.size, 0, none⟩ = some (.int .i64 z.rows) := zb.cell 0
          have y1 : (w5.alloc (.cells #[.int .i64 z.rows, .int .i64 z.nulls, .bool z.low.null, .int .i64 z.low.num, .string ⟨z.low.txt.toArray⟩, .bool z.high.null, .int .i64 z.high.num, .string ⟨z.high.txt.toArray⟩] 56)).cell? ⟨w5.heap.size, 1, none⟩ = some (.int .i64 z.nulls) := zb.cell 1
          have y2 : (w5.alloc (.cells #[.int .i64 z.rows, .int .i64 z.nulls, .bool z.low.null, .int .i64 z.low.num, .string ⟨z.low.txt.toArray⟩, .bool z.high.null, .int .i64 z.high.num, .string ⟨z.high.txt.toArray⟩] 56)).cell? ⟨w5.heap.size, 2, none⟩ = some (.bool z.low.null) := zb.cell 2
          have y3 : (w5.alloc (.cells #[.int .i64 z.rows, .int .i64 z.nulls, .bool z.low.null, .int .i64 z.low.num, .string ⟨z.low.txt.toArray⟩, .bool z.high.null, .int .i64 z.high.num, .string ⟨z.high.txt.toArray⟩] 56)).cell? ⟨w5.heap.size, 3, none⟩ = some (.int .i64 z.low.num) := zb.cell 3
          have y4 : (w5.alloc (.cells #[.int .i64 z.rows, .int .i64 z.nulls, .bool z.low.null, .int .i64 z.low.num, .string ⟨z.low.txt.toArray⟩, .bool z.high.null, .int .i64 z.high.num, .string ⟨z.high.txt.toArray⟩] 56)).cell? ⟨w5.heap.size, 4, none⟩ = some (.string ⟨z.low.txt.toArray⟩) := zb.cell 4
          have y5 : (w5.alloc (.cells #[.int .i64 z.rows, .int .i64 z.nulls, .bool z.low.null, .int .i64 z.low.num, .string ⟨z.low.txt.toArray⟩, .bool z.high.null, .int .i64 z.high.num, .string ⟨z.high.txt.toArray⟩] 56)).cell? ⟨w5.heap.size, 5, none⟩ = some (.bool z.high.null) := zb.cell 5
          have y6 : (w5.alloc (.cells #[.int .i64 z.rows, .int .i64 z.nulls, .bool z.low.null, .int .i64 z.low.num, .string ⟨z.low.txt.toArray⟩, .bool z.high.null, .int .i64 z.high.num, .string ⟨z.high.txt.toArray⟩] 56)).cell? ⟨w5.heap.size, 6, none⟩ = some (.int .i64 z.high.num) := zb.cell 6
          have y7 : (w5.alloc (.cells #[.int .i64 z.rows, .int .i64 z.nulls, .bool z.low.null, .int .i64 z.low.num, .string ⟨z.low.txt.toArray⟩, .bool z.high.null, .int .i64 z.high.num, .string ⟨z.high.txt.toArray⟩] 56)).cell? ⟨w5.heap.size, 7, none⟩ = some (.string ⟨z.high.txt.toArray⟩) := zb.cell 7
          have k1 : (w5.alloc (.cells #[.int .i64 z.rows, .int .i64 z.nulls, .bool z.low.null, .int .i64 z.low.num, .string ⟨z.low.txt.toArray⟩, .bool z.high.null, .int .i64 z.high.num, .string ⟨z.high.txt.toArray⟩] 56)).cell? ⟨g6, 1, none⟩ = some (.slice Au D.length cu) := hB66.cell 1
          have hsz := hF6.size
          have HB4 : Hid (FtB _ _ _ _) := Lib.hid hB46
          have HB6 : Hid (FtB _ _ _ _) := Lib.hid hB66
          have HO := Lib.hid hO6
          have HF := Lib.hid hF6
          have HS := Lib.hid hsW
          clear hB46 hB66 hO6 hF6 hsW zb
          go_wp2_with (at_builtin; refine wpList_pushN fd_ch eln_ch rfl (.tmp 40) (.tmp 45) rfl w.heap.size _ D rfl HO.out ⟨at_, m, z⟩ #[.int .i64 (at_ : Int), .int .i64 (m : Int), .int .i64 z.rows, .int .i64 z.nulls, .bool z.low.null, .int .i64 z.low.num, .string ⟨z.low.txt.toArray⟩, .bool z.high.null, .int .i64 z.high.num, .string ⟨z.high.txt.toArray⟩] rfl _ rfl (by simp) (by omega) hsz ?_; intro v8 w8 hO8 f8; obtain ⟨A8, n8, c8, rfl⟩ : ∃ A n c, v8 = Value.slice A n c := (by obtain ⟨A, c, h⟩ := (hO8.ns fd_ch).shape; exact ⟨A, _, c, h⟩); have hB68 : FtB w8 g6 R (.slice Au D.length cu) := HB6.out.fr f8 (fun e => no_other HO.out HB6.out ch_ne_foot _ e rfl); have x1 : w8.cell? ⟨g6, 1, none⟩ = some (.slice Au D.length cu) := hB68.cell 1; have x1f := hB68.frozen 1)
          have f8t := f8
          have hB48 := HB4.out.fr f8 (fun e => no_other HO.out HB4.out ch_ne_foot _ e rfl)
          have hS8 := HS.out.fr f8 (fun e => no_other HO.out HS.out.1 ch_ne_src _ e rfl)
          have hF8 := HF.out.fresh f8 (fun b hb => (HO.out.lt b hb).1)
          have fs := (Fr.refl (One g6) w8).set1 1 (.slice A8 n8 c8)
          have hB69 : FtB (w8.setCell ⟨g6, 1, none⟩ (.slice A8 n8 c8)) g6 R (.slice A8 n8 c8) := hB68.set 1 _
          have hO9 := hO8.fr fs (fun b hb e => no_other hO8 hB68 ch_ne_foot b hb e)
          have hB49 := hB48.fr fs (fun e => hg6 e.symm)
          have hS9 := hS8.fr fs (fun e => hg6' e.symm)
          have hF9 := hF8.fresh fs (fun b e => by have h1 : b = g6 := e; omega)
          rw [HSy2.out] at HT2
          go_roundw
          case rel => exact ⟨k + 1, at_ + m, _, _, _, .slice A8 n8 c8, by omega, by go_num, (by first | rfl | (push_cast; rfl) | (rw [← hmm])), HT2, hS9, hB49, hB69, hO9, hF9⟩
          case measure => simp [intOf]; omega
        · have hzb : (z.rows != (R : Int)) = true := by rw [bne_iff_ne]; exact hzr
          have HSy2 : Hid (sy = ([], true)) := Lib.hid (by rw [HSay.out, if_neg hzr])
          clear hzr
          have HFl := Lib.hid (fail_any g q2 bad2 _ s6)
          have zb' : Hid (Blk _ _ _ _) := Lib.hid zb
          have hB46' : Hid (FtB _ _ _ _) := Lib.hid hB46
          have hB66' : Hid (FtB _ _ _ _) := Lib.hid hB66
          have hO6' := Lib.hid hO6
          have hF6' := Lib.hid hF6
          clear s6 zb hB46 hB66 hO6 hF6
          go_wp2_with fail
          refine HFl.out.mono ?_
          rintro e w7 ⟨rfl, hsW, f7⟩
          have zb := zb'.out.fr f7 (fun e => hzg e)
          have hB46 := hB46'.out.fr f7 (fun e => hwg e)
          have hB66 := hB66'.out.fr f7 (fun e => hg6' e)
          have hO6 := hO6'.out.fr f7 (fun b hb e => by have h1 : b = g := e; have := (hO6'.out.lt b hb).1; omega)
          have hF6 := hF6'.out.trans f7
          clear HFl zb' hB46' hB66' hO6' hF6' f7 z0 z60
          have y0 : w7.cell? ⟨w5.heap.size, 0, none⟩ = some (.int .i64 z.rows) := zb.cell 0
          have y1 : w7.cell? ⟨w5.heap.size, 1, none⟩ = some (.int .i64 z.nulls) := zb.cell 1
          have y2 : w7.cell? ⟨w5.heap.size, 2, none⟩ = some (.bool z.low.null) := zb.cell 2
          have y3 : w7.cell? ⟨w5.heap.size, 3, none⟩ = some (.int .i64 z.low.num) := zb.cell 3
          have y4 : w7.cell? ⟨w5.heap.size, 4, none⟩ = some (.string ⟨z.low.txt.toArray⟩) := zb.cell 4
          have y5 : w7.cell? ⟨w5.heap.size, 5, none⟩ = some (.bool z.high.null) := zb.cell 5
          have y6 : w7.cell? ⟨w5.heap.size, 6, none⟩ = some (.int .i64 z.high.num) := zb.cell 6
          have y7 : w7.cell? ⟨w5.heap.size, 7, none⟩ = some (.string ⟨z.high.txt.toArray⟩) := zb.cell 7
          have k1 : w7.cell? ⟨g6, 1, none⟩ = some (.slice Au D.length cu) := hB66.cell 1
          have hsz := hF6.size
          have HB4 : Hid (FtB _ _ _ _) := Lib.hid hB46
          have HB6 : Hid (FtB _ _ _ _) := Lib.hid hB66
          have HO := Lib.hid hO6
          have HF := Lib.hid hF6
          have HS := Lib.hid hsW
          clear hB46 hB66 hO6 hF6 hsW zb
          go_wp2_with (at_builtin; refine wpList_pushN fd_ch eln_ch rfl (.tmp 40) (.tmp 45) rfl w.heap.size _ D rfl HO.out ⟨at_, m, z⟩ #[.int .i64 (at_ : Int), .int .i64 (m : Int), .int .i64 z.rows, .int .i64 z.nulls, .bool z.low.null, .int .i64 z.low.num, .string ⟨z.low.txt.toArray⟩, .bool z.high.null, .int .i64 z.high.num, .string ⟨z.high.txt.toArray⟩] rfl _ rfl (by simp) (by omega) hsz ?_; intro v8 w8 hO8 f8; obtain ⟨A8, n8, c8, rfl⟩ : ∃ A n c, v8 = Value.slice A n c := (by obtain ⟨A, c, h⟩ := (hO8.ns fd_ch).shape; exact ⟨A, _, c, h⟩); have hB68 : FtB w8 g6 R (.slice Au D.length cu) := HB6.out.fr f8 (fun e => no_other HO.out HB6.out ch_ne_foot _ e rfl); have x1 : w8.cell? ⟨g6, 1, none⟩ = some (.slice Au D.length cu) := hB68.cell 1; have x1f := hB68.frozen 1)
          have f8t := f8
          have hB48 := HB4.out.fr f8 (fun e => no_other HO.out HB4.out ch_ne_foot _ e rfl)
          have hS8 := HS.out.fr f8 (fun e => no_other HO.out HS.out.1 ch_ne_src _ e rfl)
          have hF8 := HF.out.fresh f8 (fun b hb => (HO.out.lt b hb).1)
          have fs := (Fr.refl (One g6) w8).set1 1 (.slice A8 n8 c8)
          have hB69 : FtB (w8.setCell ⟨g6, 1, none⟩ (.slice A8 n8 c8)) g6 R (.slice A8 n8 c8) := hB68.set 1 _
          have hO9 := hO8.fr fs (fun b hb e => no_other hO8 hB68 ch_ne_foot b hb e)
          have hB49 := hB48.fr fs (fun e => hg6 e.symm)
          have hS9 := hS8.fr fs (fun e => hg6' e.symm)
          have hF9 := hF8.fresh fs (fun b e => by have h1 : b = g6 := e; omega)
          rw [HSy2.out] at HT2
          go_roundw
          case rel => exact ⟨k + 1, at_ + m, _, _, _, .slice A8 n8 c8, by omega, by go_num, (by first | rfl | (push_cast; rfl) | (rw [← hmm])), HT2, hS9, hB49, hB69, hO9, hF9⟩
          case measure => simp [intOf]; omega
      · have hE := toS_end HT.out (show (cols.map Co.ty).length ≤ k by rw [hlm]; omega)
        rw [HX.out] at hE
        have HE2 := Lib.hid hE
        clear hE HT
        have HB4 : Hid (FtB _ _ _ _) := Lib.hid hB4
        have HO := Lib.hid hO
        have HF := Lib.hid hF
        have HS := Lib.hid hs
        have k0 : wr.cell? ⟨g6, 0, none⟩ = some (.int .i64 R) := hB6.cell 0
        have k1 : wr.cell? ⟨g6, 1, none⟩ = some (.slice Au D.length cu) := hB6.cell 1
        have e0 : wr.cell? ⟨w.heap.size, 0, none⟩ = some (.int .i64 0) := hB4.cell 0
        have e1 : wr.cell? ⟨w.heap.size, 1, none⟩ = some (.slice none 0 0) := hB4.cell 1
        have fz0 := hB4.frozen 0
        have fz1 := hB4.frozen 1
        clear hB4 hB6 hO hF hs
        go_wp2
        (try simp only [Exit.inBlock, Exit.then])
        have hBe : Blk ((wr.setCell ⟨w.heap.size, 0, none⟩ (.int .i64 R)).setCell ⟨w.heap.size, 1, none⟩ (.slice Au D.length cu)) w.heap.size 40 #[.int .i64 R, .slice Au D.length cu] := (HB4.out.set 0 _).set 1 _
        have fs := ((Fr.refl (One w.heap.size) wr).set1 0 (.int .i64 (R : Int))).set1 1 (.slice Au D.length cu)
        refine bodyPost_ret (v := .tuple #[.agg #[.int .i64 R, .slice Au D.length cu], .int .i64 at_]) (ret_cell (p := 4) (u := 5) (ty := 40) rfl _ _ w.heap.size _ _ rfl hBe (load_foot hBe rfl)) rfl ?_
        refine ⟨.slice Au D.length cu, [], true, .inl ⟨hR0.out, rfl, rfl⟩, ?_, ?_, ?_, HF.out.fresh fs (fun b e => Nat.le_of_eq (show w.heap.size = b from e.symm))⟩
        · rw [HX.out, HE2.out]
        · rw [HX.out, HE2.out]; exact HO.out.fr fs (fun b hb e => no_other HO.out HB4.out ch_ne_foot b hb e)
        · rw [HX.out, HE2.out]; exact HS.out.fr fs (fun e => hwg e.symm)
  · have hRb : ((R : Int) == 0) = false := by rw [beq_eq_false_iff_ne]; omega
    have hR0 := Lib.hid hR
    have hB43 := hB42
    have hB63 := hB6
    have s3 := s2
    have F3 := F2
    clear hB42 hB6 F2 s2 hR
    have HE : Hid (rdSays (R : Int) (cols.map Co.ty) 0 l1 b1 = rdSays (R : Int) (cols.map Co.ty) 0 l1 b1) := Lib.hid rfl
    generalize hX : rdSays (R : Int) (cols.map Co.ty) 0 l1 b1 = X at *
    have HX := Lib.hid hX
    clear HE hX
    have hlm : (cols.map Co.ty).length = cols.length := by simp
    have HM : Hid (∀ k (h : k < cols.length), (cols.map Co.ty)[k]'(by rw [hlm]; exact h) = cols[k].ty) := Lib.hid (fun k h => by simp)
    go_wp2
    generalize w1.heap.size = g6 at *
    go_loopw [7, 22] (fun x i wr => ∃ (k at_ : Nat) (D : List Ch) (q : List UInt8) (bad' : Bool) (u : Value), k ≤ cols.length ∧ i = .int .i64 k ∧ x = .int .i64 at_ ∧ Hid (ToS R (cols.map Co.ty) l1 b1 k D at_ q bad') ∧ Src wr g q bad' ∧ FtB wr w.heap.size 0 (.slice none 0 0) ∧ FtB wr g6 R u ∧ Ho wr w.heap.size u D ∧ Fr (One g) w wr) (fun _ i _ => cols.length - (intOf i).toNat)
    case atStart => exact ⟨0, 0, [], l1, b1, .slice none 0 0, Nat.zero_le _, rfl, rfl, Lib.hid (toS_zero _ _ _ _), s3, hB43, hB63, no_nil _ _, F3⟩
    case round =>
      clear s3 hB43 hB63 F3
      obtain ⟨k, at_, D, q, bad', u, hk, rfl, rfl, HT, hs, hB4, hB6, hO, hF⟩ := hrel
      have hD6 : D.length ≤ 6 := by have := HT.out.len; omega
      have hbig := HT.out.big
      obtain ⟨Au, cu, rfl⟩ := (hO.ns fd_ch).shape
      have hg6lt := hB6.lt
      have hw0lt := hB4.lt
      have hglt := hs.1.lt
      by_cases hlt : k < cols.length
      · have HVr := HV.out.fr hF (fun b hb e => HNe.out b hb e)
        obtain ⟨a, rfl, _⟩ := HVr.at_ k cols[k] (List.getElem?_eq_getElem hlt)
        obtain ⟨c0, c1, c2⟩ := ks_lit HVr k cols[k] (List.getElem?_eq_getElem hlt)
        have HT2 := Lib.hid (toS_step HT.out (by rw [hlm]; exact hlt))
        rw [HM.out k hlt] at HT2
        have hm2 := mostK_le q (show (0 : Int) ≤ 1048576 by omega)
        have T1 := Lib.hid (fun W (s : Src W g q bad') => below_any g q bad' 1048577 W s (by omega))
        rw [show (1048577 : Int) - 1 = 1048576 by rfl] at T1
        have T2 := Lib.hid (fun W s => ztake_any g (mostR q 1048576) (mostB q 1048576) cols[k].ty W s)
        have HSay : Hid (rdSay (R : Int) cols[k].ty q = if (tkZ cols[k].ty (mostR q 1048576)).1.rows = (R : Int) then (tkZ cols[k].ty (mostR q 1048576)).2 else ([], true)) := Lib.hid rfl
        generalize rdSay (R : Int) cols[k].ty q = sy at *
        generalize tkZ cols[k].ty (mostR q 1048576) = tz at *
        generalize mostV q 1048576 = m at *
        generalize mostR q 1048576 = q1 at *
        generalize mostB q 1048576 = bq at *
        generalize cols[k] = cc at *
        obtain ⟨nm, ty, nl⟩ := cc
        obtain ⟨z, q2, bad2⟩ := tz
        dsimp only at c0 c1 c2 HT2 T2 HSay
        unfold znV znC at T2
        have fa := (Fr.refl Non wr).alloc (.cells #[.string ⟨nm.toArray⟩, .int .i64 ty, .bool nl] 69)
        have b3 := co_new wr ⟨nm, ty, nl⟩
        have hs3 := hs.fr fa (fun e => e)
        have hB43 := hB4.fr fa (fun e => e)
        have hB63 := hB6.fr fa (fun e => e)
        have hO3 := hO.non fa
        have hF3 := hF.then fa
        have hz3 : (wr.alloc (.cells #[.string ⟨nm.toArray⟩, .int .i64 ty, .bool nl] 69)).heap.size = wr.heap.size + 1 := by simp
        replace T1 := Lib.hid (T1.out _ hs3)
        replace b3 : Hid (CoB _ _ _) := Lib.hid b3
        replace hB43 : Hid (FtB _ _ _ _) := Lib.hid hB43
        replace hB63 : Hid (FtB _ _ _ _) := Lib.hid hB63
        replace hO3 := Lib.hid hO3
        replace hF3 := Lib.hid hF3
        have hwr := hF.size
        clear hs hB4 hB6 hO hF fa HVr HT hs3
        go_wp2_with fail
        refine T1.out.mono ?_
        rintro e w4 ⟨rfl, s4, f4⟩
        generalize hgc : wr.heap.size = gc at *
        have hcg : gc ≠ g := by omega
        have b4 : CoB w4 gc ⟨nm, ty, nl⟩ := b3.out.fr f4 (fun e => hcg e)
        have hB44 := hB43.out.fr f4 (fun e => hwg e)
        have hB64 := hB63.out.fr f4 (fun e => hg6' e)
        have hO4 := hO3.out.fr f4 (fun b hb e => by have h1 : b = g := e; have := (hO3.out.lt b hb).1; omega)
        have hF4 := hF3.out.trans f4
        have d1 : w4.cell? ⟨gc, 1, none⟩ = some (.int .i64 ty) := b4.cell 1
        replace T2 := Lib.hid (T2.out _ s4)
        have hF4' := Lib.hid hF4
        have hsz4 := hF4.size
        have hgc4 := b4.lt
        have hB44 : Hid (FtB _ _ _ _) := Lib.hid hB44
        have hB64 : Hid (FtB _ _ _ _) := Lib.hid hB64
        have hO4 := Lib.hid hO4
        clear T1 b3 hB43 hB63 hO3 hF3 b4 hF4 f4 s4 c0 c1 c2
        go_wp2_with fail
        refine T2.out.mono ?_
        rintro e w5 ⟨rfl, s5, f5⟩
        have hB45 := hB44.out.fr f5 (fun e => hwg e)
        have hB65 := hB64.out.fr f5 (fun e => hg6' e)
        have hO5 := hO4.out.fr f5 (fun b hb e => by have h1 : b = g := e; have := (hO4.out.lt b hb).1; omega)
        have hF5 := hF4'.out.trans f5
        have hf5s := f5.size
        have ga := (Fr.refl Non w5).alloc (.cells (znC z) 56)
        have zb : ZnB (w5.alloc (.cells (znC z) 56)) w5.heap.size z := Blk.new _ _ _
        have s6 := s5.fr ga (fun e => e)
        have hB46 := hB45.fr ga (fun e => e)
        have hB66 := hB65.fr ga (fun e => e)
        have hO6 := hO5.non ga
        have hF6 := hF5.then ga
        have hgz5 : g6 < w5.heap.size := by omega
        unfold znC at zb ga s6 hB46 hB66 hO6 hF6
        have z0 : (w5.alloc (.cells #[.int .i64 z.rows, .int .i64 z.nulls, .bool z.low.null, .int .i64 z.low.num, .string ⟨z.low.txt.toArray⟩, .bool z.high.null, .int .i64 z.high.num, .string ⟨z.high.txt.toArray⟩] 56)).cell? ⟨w5.heap.size, 0, none⟩ = some (.int .i64 z.rows) := zb.cell 0
        have z60 : (w5.alloc (.cells #[.int .i64 z.rows, .int .i64 z.nulls, .bool z.low.null, .int .i64 z.low.num, .string ⟨z.low.txt.toArray⟩, .bool z.high.null, .int .i64 z.high.num, .string ⟨z.high.txt.toArray⟩] 56)).cell? ⟨g6, 0, none⟩ = some (.int .i64 R) := hB66.cell 0
        clear T2 hB44 hB64 hO4 hF4' hB45 hB65 hO5 hF5 ga s5 d1 hgc f5
        have hzg : w5.heap.size ≠ g := by omega
        have hmm : IntKind.i64.wrap ((at_ : Int) + m) = (at_ + m : Nat) := by rw [IntWalk.i64_in _ ⟨by omega, by omega⟩]; push_cast; rfl
        by_cases hzr : z.rows = (R : Int)
        · have hzb : (z.rows != (R : Int)) = false := by rw [hzr]; simp
          have HSy2 : Hid (sy = (q2, bad2)) := Lib.hid (by rw [HSay.out, if_pos hzr])
          clear hzr
          have hsW := s6
          have y0 : (w5.alloc (.cells #[.int .i64 z.rows, .int .i64 z.nulls, .bool z.low.null, .int .i64 z.low.num, .string ⟨z.low.txt.toArray⟩, .bool z.high.null, .int .i64 z.high.num, .string ⟨z.high.txt.toArray⟩] 56)).cell? ⟨w5.heap.size, 0, none⟩ = some (.int .i64 z.rows) := zb.cell 0
          have y1 : (w5.alloc (.cells #[.int .i64 z.rows, .int .i64 z.nulls, .bool z.low.null, .int .i64 z.low.num, .string ⟨z.low.txt.toArray⟩, .bool z.high.null, .int .i64 z.high.num, .string ⟨z.high.txt.toArray⟩] 56)).cell? ⟨w5.heap.size, 1, none⟩ = some (.int .i64 z.nulls) := zb.cell 1
          have y2 : (w5.alloc (.cells #[.int .i64 z.rows, .int .i64 z.nulls, .bool z.low.null, .int .i64 z.low.num, .string ⟨z.low.txt.toArray⟩, .bool z.high.null, .int .i64 z.high.num, .string ⟨z.high.txt.toArray⟩] 56)).cell? ⟨w5.heap.size, 2, none⟩ = some (.bool z.low.null) := zb.cell 2
          have y3 : (w5.alloc (.cells #[.int .i64 z.rows, .int .i64 z.nulls, .bool z.low.null, .int .i64 z.low.num, .string ⟨z.low.txt.toArray⟩, .bool z.high.null, .int .i64 z.high.num, .string ⟨z.high.txt.toArray⟩] 56)).cell? ⟨w5.heap.size, 3, none⟩ = some (.int .i64 z.low.num) := zb.cell 3
          have y4 : (w5.alloc (.cells #[.int .i64 z.rows, .int .i64 z.nulls, .bool z.low.null, .int .i64 z.low.num, .string ⟨z.low.txt.toArray⟩, .bool z.high.null, .int .i64 z.high.num, .string ⟨z.high.txt.toArray⟩] 56)).cell? ⟨w5.heap.size, 4, none⟩ = some (.string ⟨z.low.txt.toArray⟩) := zb.cell 4
          have y5 : (w5.alloc (.cells #[.int .i64 z.rows, .int .i64 z.nulls, .bool z.low.null, .int .i64 z.low.num, .string ⟨z.low.txt.toArray⟩, .bool z.high.null, .int .i64 z.high.num, .string ⟨z.high.txt.toArray⟩] 56)).cell? ⟨w5.heap.size, 5, none⟩ = some (.bool z.high.null) := zb.cell 5
          have y6 : (w5.alloc (.cells #[.int .i64 z.rows, .int .i64 z.nulls, .bool z.low.null, .int .i64 z.low.num, .string ⟨z.low.txt.toArray⟩, .bool z.high.null, .int .i64 z.high.num, .string ⟨z.high.txt.toArray⟩] 56)).cell? ⟨w5.heap.size, 6, none⟩ = some (.int .i64 z.high.num) := zb.cell 6
          have y7 : (w5.alloc (.cells #[.int .i64 z.rows, .int .i64 z.nulls, .bool z.low.null, .int .i64 z.low.num, .string ⟨z.low.txt.toArray⟩, .bool z.high.null, .int .i64 z.high.num, .string ⟨z.high.txt.toArray⟩] 56)).cell? ⟨w5.heap.size, 7, none⟩ = some (.string ⟨z.high.txt.toArray⟩) := zb.cell 7
          have k1 : (w5.alloc (.cells #[.int .i64 z.rows, .int .i64 z.nulls, .bool z.low.null, .int .i64 z.low.num, .string ⟨z.low.txt.toArray⟩, .bool z.high.null, .int .i64 z.high.num, .string ⟨z.high.txt.toArray⟩] 56)).cell? ⟨g6, 1, none⟩ = some (.slice Au D.length cu) := hB66.cell 1
          have hsz := hF6.size
          have HB4 : Hid (FtB _ _ _ _) := Lib.hid hB46
          have HB6 : Hid (FtB _ _ _ _) := Lib.hid hB66
          have HO := Lib.hid hO6
          have HF := Lib.hid hF6
          have HS := Lib.hid hsW
          clear hB46 hB66 hO6 hF6 hsW zb
          go_wp2_with (at_builtin; refine wpList_pushN fd_ch eln_ch rfl (.tmp 40) (.tmp 45) rfl w.heap.size _ D rfl HO.out ⟨at_, m, z⟩ #[.int .i64 (at_ : Int), .int .i64 (m : Int), .int .i64 z.rows, .int .i64 z.nulls, .bool z.low.null, .int .i64 z.low.num, .string ⟨z.low.txt.toArray⟩, .bool z.high.null, .int .i64 z.high.num, .string ⟨z.high.txt.toArray⟩] rfl _ rfl (by simp) (by omega) hsz ?_; intro v8 w8 hO8 f8; obtain ⟨A8, n8, c8, rfl⟩ : ∃ A n c, v8 = Value.slice A n c := (by obtain ⟨A, c, h⟩ := (hO8.ns fd_ch).shape; exact ⟨A, _, c, h⟩); have hB68 : FtB w8 g6 R (.slice Au D.length cu) := HB6.out.fr f8 (fun e => no_other HO.out HB6.out ch_ne_foot _ e rfl); have x1 : w8.cell? ⟨g6, 1, none⟩ = some (.slice Au D.length cu) := hB68.cell 1; have x1f := hB68.frozen 1)
          have f8t := f8
          have hB48 := HB4.out.fr f8 (fun e => no_other HO.out HB4.out ch_ne_foot _ e rfl)
          have hS8 := HS.out.fr f8 (fun e => no_other HO.out HS.out.1 ch_ne_src _ e rfl)
          have hF8 := HF.out.fresh f8 (fun b hb => (HO.out.lt b hb).1)
          have fs := (Fr.refl (One g6) w8).set1 1 (.slice A8 n8 c8)
          have hB69 : FtB (w8.setCell ⟨g6, 1, none⟩ (.slice A8 n8 c8)) g6 R (.slice A8 n8 c8) := hB68.set 1 _
          have hO9 := hO8.fr fs (fun b hb e => no_other hO8 hB68 ch_ne_foot b hb e)
          have hB49 := hB48.fr fs (fun e => hg6 e.symm)
          have hS9 := hS8.fr fs (fun e => hg6' e.symm)
          have hF9 := hF8.fresh fs (fun b e => by have h1 : b = g6 := e; omega)
          rw [HSy2.out] at HT2
          go_roundw
          case rel => exact ⟨k + 1, at_ + m, _, _, _, .slice A8 n8 c8, by omega, by go_num, (by first | rfl | (push_cast; rfl) | (rw [← hmm])), HT2, hS9, hB49, hB69, hO9, hF9⟩
          case measure => simp [intOf]; omega
        · have hzb : (z.rows != (R : Int)) = true := by rw [bne_iff_ne]; exact hzr
          have HSy2 : Hid (sy = ([], true)) := Lib.hid (by rw [HSay.out, if_neg hzr])
          clear hzr
          have HFl := Lib.hid (fail_any g q2 bad2 _ s6)
          have zb' : Hid (Blk _ _ _ _) := Lib.hid zb
          have hB46' : Hid (FtB _ _ _ _) := Lib.hid hB46
          have hB66' : Hid (FtB _ _ _ _) := Lib.hid hB66
          have hO6' := Lib.hid hO6
          have hF6' := Lib.hid hF6
          clear s6 zb hB46 hB66 hO6 hF6
          go_wp2_with fail
          refine HFl.out.mono ?_
          rintro e w7 ⟨rfl, hsW, f7⟩
          have zb := zb'.out.fr f7 (fun e => hzg e)
          have hB46 := hB46'.out.fr f7 (fun e => hwg e)
          have hB66 := hB66'.out.fr f7 (fun e => hg6' e)
          have hO6 := hO6'.out.fr f7 (fun b hb e => by have h1 : b = g := e; have := (hO6'.out.lt b hb).1; omega)
          have hF6 := hF6'.out.trans f7
          clear HFl zb' hB46' hB66' hO6' hF6' f7 z0 z60
          have y0 : w7.cell? ⟨w5.heap.size, 0, none⟩ = some (.int .i64 z.rows) := zb.cell 0
          have y1 : w7.cell? ⟨w5.heap.size, 1, none⟩ = some (.int .i64 z.nulls) := zb.cell 1
          have y2 : w7.cell? ⟨w5.heap.size, 2, none⟩ = some (.bool z.low.null) := zb.cell 2
          have y3 : w7.cell? ⟨w5.heap.size, 3, none⟩ = some (.int .i64 z.low.num) := zb.cell 3
          have y4 : w7.cell? ⟨w5.heap.size, 4, none⟩ = some (.string ⟨z.low.txt.toArray⟩) := zb.cell 4
          have y5 : w7.cell? ⟨w5.heap.size, 5, none⟩ = some (.bool z.high.null) := zb.cell 5
          have y6 : w7.cell? ⟨w5.heap.size, 6, none⟩ = some (.int .i64 z.high.num) := zb.cell 6
          have y7 : w7.cell? ⟨w5.heap.size, 7, none⟩ = some (.string ⟨z.high.txt.toArray⟩) := zb.cell 7
          have k1 : w7.cell? ⟨g6, 1, none⟩ = some (.slice Au D.length cu) := hB66.cell 1
          have hsz := hF6.size
          have HB4 : Hid (FtB _ _ _ _) := Lib.hid hB46
          have HB6 : Hid (FtB _ _ _ _) := Lib.hid hB66
          have HO := Lib.hid hO6
          have HF := Lib.hid hF6
          have HS := Lib.hid hsW
          clear hB46 hB66 hO6 hF6 hsW zb
          go_wp2_with (at_builtin; refine wpList_pushN fd_ch eln_ch rfl (.tmp 40) (.tmp 45) rfl w.heap.size _ D rfl HO.out ⟨at_, m, z⟩ #[.int .i64 (at_ : Int), .int .i64 (m : Int), .int .i64 z.rows, .int .i64 z.nulls, .bool z.low.null, .int .i64 z.low.num, .string ⟨z.low.txt.toArray⟩, .bool z.high.null, .int .i64 z.high.num, .string ⟨z.high.txt.toArray⟩] rfl _ rfl (by simp) (by omega) hsz ?_; intro v8 w8 hO8 f8; obtain ⟨A8, n8, c8, rfl⟩ : ∃ A n c, v8 = Value.slice A n c := (by obtain ⟨A, c, h⟩ := (hO8.ns fd_ch).shape; exact ⟨A, _, c, h⟩); have hB68 : FtB w8 g6 R (.slice Au D.length cu) := HB6.out.fr f8 (fun e => no_other HO.out HB6.out ch_ne_foot _ e rfl); have x1 : w8.cell? ⟨g6, 1, none⟩ = some (.slice Au D.length cu) := hB68.cell 1; have x1f := hB68.frozen 1)
          have f8t := f8
          have hB48 := HB4.out.fr f8 (fun e => no_other HO.out HB4.out ch_ne_foot _ e rfl)
          have hS8 := HS.out.fr f8 (fun e => no_other HO.out HS.out.1 ch_ne_src _ e rfl)
          have hF8 := HF.out.fresh f8 (fun b hb => (HO.out.lt b hb).1)
          have fs := (Fr.refl (One g6) w8).set1 1 (.slice A8 n8 c8)
          have hB69 : FtB (w8.setCell ⟨g6, 1, none⟩ (.slice A8 n8 c8)) g6 R (.slice A8 n8 c8) := hB68.set 1 _
          have hO9 := hO8.fr fs (fun b hb e => no_other hO8 hB68 ch_ne_foot b hb e)
          have hB49 := hB48.fr fs (fun e => hg6 e.symm)
          have hS9 := hS8.fr fs (fun e => hg6' e.symm)
          have hF9 := hF8.fresh fs (fun b e => by have h1 : b = g6 := e; omega)
          rw [HSy2.out] at HT2
          go_roundw
          case rel => exact ⟨k + 1, at_ + m, _, _, _, .slice A8 n8 c8, by omega, by go_num, (by first | rfl | (push_cast; rfl) | (rw [← hmm])), HT2, hS9, hB49, hB69, hO9, hF9⟩
          case measure => simp [intOf]; omega
      · have hE := toS_end HT.out (show (cols.map Co.ty).length ≤ k by rw [hlm]; omega)
        rw [HX.out] at hE
        have HE2 := Lib.hid hE
        clear hE HT
        have HB4 : Hid (FtB _ _ _ _) := Lib.hid hB4
        have HO := Lib.hid hO
        have HF := Lib.hid hF
        have HS := Lib.hid hs
        have k0 : wr.cell? ⟨g6, 0, none⟩ = some (.int .i64 R) := hB6.cell 0
        have k1 : wr.cell? ⟨g6, 1, none⟩ = some (.slice Au D.length cu) := hB6.cell 1
        have e0 : wr.cell? ⟨w.heap.size, 0, none⟩ = some (.int .i64 0) := hB4.cell 0
        have e1 : wr.cell? ⟨w.heap.size, 1, none⟩ = some (.slice none 0 0) := hB4.cell 1
        have fz0 := hB4.frozen 0
        have fz1 := hB4.frozen 1
        clear hB4 hB6 hO hF hs
        go_wp2
        (try simp only [Exit.inBlock, Exit.then])
        have hBe : Blk ((wr.setCell ⟨w.heap.size, 0, none⟩ (.int .i64 R)).setCell ⟨w.heap.size, 1, none⟩ (.slice Au D.length cu)) w.heap.size 40 #[.int .i64 R, .slice Au D.length cu] := (HB4.out.set 0 _).set 1 _
        have fs := ((Fr.refl (One w.heap.size) wr).set1 0 (.int .i64 (R : Int))).set1 1 (.slice Au D.length cu)
        refine bodyPost_ret (v := .tuple #[.agg #[.int .i64 R, .slice Au D.length cu], .int .i64 at_]) (ret_cell (p := 4) (u := 5) (ty := 40) rfl _ _ w.heap.size _ _ rfl hBe (load_foot hBe rfl)) rfl ?_
        refine ⟨.slice Au D.length cu, l1, b1, .inr ⟨hR0.out, rfl, rfl⟩, ?_, ?_, ?_, HF.out.fresh fs (fun b e => Nat.le_of_eq (show w.heap.size = b from e.symm))⟩
        · rw [HX.out, HE2.out]
        · rw [HX.out, HE2.out]; exact HO.out.fr fs (fun b hb e => no_other HO.out HB4.out ch_ne_foot b hb e)
        · rw [HX.out, HE2.out]; exact HS.out.fr fs (fun e => hwg e.symm)
end Go.Proofs.YtheefloegbkflaaGreatDoor


namespace Go.Proofs.YtheefloegbkflaaGreatDoor
set_option linter.unusedVariables false
set_option linter.unusedSimpArgs false
set_option maxRecDepth 100000
open Go.RowKit

/-- the table of the program's lies where it was laid -/
def Tab (w : World) : Prop := ∀ i, i < 16 → w.cell? ⟨0, i, none⟩ = some (.int .u32 (half i))
theorem Tab.fr {S : Nat → Prop} {w w' : World} (h : Tab w) (hf : Fr S w w') (hn : ¬ S 0) : Tab w' := fun i hi => by
  have := h i hi
  rw [← this]
  exact hf.cell (p := ⟨_, i, none⟩) (World.block_lt_of_cell? w _ this) hn
theorem Tab.non {w w' : World} (h : Tab w) (hf : Fr Non w w') : Tab w' := h.fr hf fun e => e
theorem Tab.lt {w : World} (h : Tab w) : 0 < w.heap.size := World.block_lt_of_cell? w _ (h 0 (by decide))

theorem shift_any (s : Nat) (w : World) (hs : s < 4294967296) (ht : Tab w) :
    Calls Tryz.prog 176 #[.int .u32 s] w fun e w' => e = .returned (.int .u32 (st (st (st (st s))) : Nat)) ∧ w = w' := by
  have h1 := ht (s % 16) (Nat.mod_lt _ (by decide))
  have HX := Lib.hid (show bits .xor .u32 ((s / 16 : Nat) : Int) ((half (s % 16) : Nat) : Int) = ((st (st (st (st s))) : Nat) : Int) by rw [u32_xor_nat _ _ (by omega) (half_st _ (Nat.mod_lt _ (by decide))).2, st4_half])
  clear ht
  go_enter Tryz.func176, Tryz.ntmps176
  go_wp2
  go_ret
  exact ⟨ret_int HX.out, rfl⟩

theorem turn_l (s : Nat) (h : s < 4294967296) : bits .xor .u32 IntKind.u32.max (s : Int) = ((s ^^^ 4294967295 : Nat) : Int) := by
  have := u32_xor_nat 4294967295 s (by omega) h
  rw [Nat.xor_comm] at this
  exact this
theorem turn_r (s : Nat) (h : s < 4294967296) : bits .xor .u32 (s : Int) 4294967295 = ((s ^^^ 4294967295 : Nat) : Int) := u32_xor_nat s 4294967295 h (by omega)
theorem byte_in (s : Nat) (b : UInt8) (h : s < 4294967296) : bits .xor .u32 (s : Int) ((b.toNat : Int) % 4294967296) = ((s ^^^ b.toNat : Nat) : Int) := by
  have hb := u8_lt b
  rw [Int.emod_eq_of_lt (by omega) (by omega)]
  exact u32_xor_nat s b.toNat h (by omega)

set_option maxHeartbeats 400000 in
theorem more_any (s : Nat) (v : Value) (l : List UInt8) (w : World) (hs : s < 4294967296) (hv : Bs w v l) (ht : Tab w) (hl : l.length ≤ 9223372036854775807) :
    Calls Tryz.prog 145 #[.int .u32 s, v] w fun e w' => e = .returned (.int .u32 (sumOf s l : Nat)) ∧ w = w' := by
  have HB := Lib.hid hv
  obtain ⟨A, c, rfl, hlc, hn, hcell⟩ := hv
  have HC := Lib.hid hcell
  have HN := Lib.hid hn
  have HT := Lib.hid ht
  have HS := Lib.hid (turn_l s hs)
  have HL := Lib.hid (turn_lt hs)
  clear hcell hn ht hs
  go_enter Tryz.func145, Tryz.ntmps145
  go_wp2
  go_loop [5, 12] (fun x i => ∃ k : Nat, k ≤ l.length ∧ i = .int .i64 k ∧ x = .int .u32 (run (s ^^^ 4294967295) (l.take k) : Nat)) (fun _ i => l.length - (intOf i).toNat)
  case atStart => exact ⟨0, Nat.zero_le _, rfl, by rw [HS.out]; rfl⟩
  case round =>
    obtain ⟨k, hk, rfl, rfl⟩ := hrel
    by_cases hlt : k < l.length
    · cases A with
      | none => have := HN.out rfl; omega
      | some ad =>
        have hc1 : w.cell? (ad.add k) = some (.int .u8 (l[k].toNat : Int)) := HC.out ad rfl k hlt
        have hr := run_lt (l.take k) HL.out
        have HX := Lib.hid (byte_in _ l[k] hr)
        have HR := Lib.hid (show run (s ^^^ 4294967295) (l.take (k + 1)) = by1 (run (s ^^^ 4294967295) (l.take k)) l[k] by
          rw [List.take_succ_eq_append_getElem hlt, run_snoc])
        have HY := Lib.hid (xor8_lt hr l[k])
        clear hr
        go_wp2_with fail
        rw [HX.out]
        refine (shift_any _ w HY.out HT.out).mono ?_
        rintro e w1 ⟨rfl, rfl⟩
        go_wp2_with fail
        refine (shift_any _ w (st_lt (st_lt (st_lt (st_lt HY.out)))) HT.out).mono ?_
        rintro e w1 ⟨rfl, rfl⟩
        go_wp2_with fail
        go_round
        case rel => exact ⟨k + 1, by omega, by go_num, by rw [HR.out]; rfl⟩
        case measure => simp [intOf]; omega
    · have HE := Lib.hid (show l.take k = l by rw [List.take_of_length_le (by omega)])
      have HX := Lib.hid (turn_l _ (run_lt (l.take k) HL.out))
      go_wp2
      go_ret
      exact ⟨ret_int (by rw [HX.out, HE.out]; rfl), rfl⟩

def stI : Nat → Nat → Nat
  | 0, s => s
  | n + 1, s => st (stI n s)
theorem stI_lt {s : Nat} (h : s < 4294967296) : ∀ n, stI n s < 4294967296
  | 0 => h
  | n + 1 => st_lt (stI_lt h n)
theorem st_odd {q : Nat} (h : q < 4294967296) (ho : q % 2 = 1) : bits .xor .u32 ((q : Int) / 2) 2197175160 = ((st q : Nat) : Int) := by
  have e : (q : Int) / 2 = ((q / 2 : Nat) : Int) := by omega
  rw [e]
  unfold st; rw [if_pos ho]
  exact u32_xor_nat (q / 2) 2197175160 (by omega) (by omega)
theorem st_even {q : Nat} (ho : ¬ q % 2 = 1) : (q : Int) / 2 = ((st q : Nat) : Int) := by
  unfold st; rw [if_neg ho]; omega

set_option maxHeartbeats 1000000 in
theorem rmore_any (s : Nat) (v : Value) (l : List UInt8) (w : World) (hs : s < 4294967296) (hv : Bs w v l) (hl : l.length ≤ 9223372036854775807) :
    Calls Tryz.prog 119 #[.int .u32 s, v] w fun e w' => e = .returned (.int .u32 (sumOf s l : Nat)) ∧ w = w' := by
  have HB := Lib.hid hv
  obtain ⟨A, c, rfl, hlc, hn, hcell⟩ := hv
  have HC := Lib.hid hcell
  have HN := Lib.hid hn
  have HS := Lib.hid (turn_r s hs)
  have HL := Lib.hid (turn_lt hs)
  clear hcell hn hs
  go_enter Tryz.func119, Tryz.ntmps119
  go_wp2
  go_loop [5, 6] (fun x i => ∃ k : Nat, k ≤ l.length ∧ i = .int .i64 k ∧ x = .int .u32 (run (s ^^^ 4294967295) (l.take k) : Nat)) (fun _ i => l.length - (intOf i).toNat)
  case atStart => exact ⟨0, Nat.zero_le _, rfl, by rw [HS.out]; rfl⟩
  case round =>
    obtain ⟨k, hk, rfl, rfl⟩ := hrel
    by_cases hlt : k < l.length
    · cases A with
      | none => have := HN.out rfl; omega
      | some ad =>
        have hc1 : w.cell? (ad.add k) = some (.int .u8 (l[k].toNat : Int)) := HC.out ad rfl k hlt
        have hr := run_lt (l.take k) HL.out
        have HX := Lib.hid (byte_in _ l[k] hr)
        have HR := Lib.hid (show run (s ^^^ 4294967295) (l.take (k + 1)) = by1 (run (s ^^^ 4294967295) (l.take k)) l[k] by
          rw [List.take_succ_eq_append_getElem hlt, run_snoc])
        have HY := Lib.hid (xor8_lt hr l[k])
        clear hr
        go_wp2
        go_loop [5, 7] (fun x i => ∃ j : Nat, j ≤ 8 ∧ i = .int .i64 j ∧ x = .int .u32 (stI j (run (s ^^^ 4294967295) (l.take k) ^^^ l[k].toNat) : Nat)) (fun _ i => 8 - (intOf i).toNat)
        case atStart => exact ⟨0, Nat.zero_le _, rfl, by rw [HX.out]; rfl⟩
        case round =>
          obtain ⟨j, hj, rfl, rfl⟩ := hrel
          by_cases hjl : j < 8
          · have hq := stI_lt HY.out j
            generalize hQ : stI j (run (s ^^^ 4294967295) (l.take k) ^^^ l[k].toNat) = q at hq ⊢
            have HQ := Lib.hid hQ
            clear hQ
            by_cases ho : q % 2 = 1
            · have HO := Lib.hid (st_odd hq ho)
              have ht : (((q : Int) % 2) == 1) = true := by rw [beq_iff_eq]; omega
              clear ho
              go_wp2
              go_round
              case rel => exact ⟨j + 1, by omega, by go_num, by rw [HO.out, ← HQ.out]; rfl⟩
              case measure => simp [intOf]; omega
            · have HO := Lib.hid (st_even ho)
              have ht : (((q : Int) % 2) == 1) = false := by rw [beq_eq_false_iff_ne]; omega
              clear ho
              go_wp2
              go_round
              case rel => exact ⟨j + 1, by omega, by go_num, by rw [HO.out, ← HQ.out]; rfl⟩
              case measure => simp [intOf]; omega
          · obtain rfl : j = 8 := by omega
            go_wp2
            go_round
            case rel => exact ⟨k + 1, by omega, by go_num, by rw [HR.out]; rfl⟩
            case measure => simp [intOf]; omega
    · have HE := Lib.hid (show l.take k = l by rw [List.take_of_length_le (by omega)])
      have HX := Lib.hid (turn_r _ (run_lt (l.take k) HL.out))
      go_wp2
      go_ret
      exact ⟨ret_int (by rw [HX.out, HE.out]; rfl), rfl⟩

theorem rof_any (v : Value) (l : List UInt8) (w : World) (hv : Bs w v l) (hl : l.length ≤ 9223372036854775807) :
    Calls Tryz.prog 65 #[v] w fun e w' => e = .returned (.int .u32 (sumOf 0 l : Nat)) ∧ w = w' := by
  have HB := Lib.hid hv
  clear hv
  go_enter Tryz.func65, Tryz.ntmps65
  go_wp2_with fail
  refine (rmore_any 0 v l w (by decide) HB.out hl).mono ?_
  rintro e w1 ⟨rfl, rfl⟩
  go_wp2
  go_ret
  exact ⟨rfl, rfl⟩
end Go.Proofs.YtheefloegbkflaaGreatDoor


namespace Go.Proofs.YtheefloegbkflaaGreatDoor
set_option linter.unusedVariables false
set_option linter.unusedSimpArgs false
set_option maxRecDepth 100000
open Go.RowKit

set_option maxHeartbeats 400000 in
theorem of_any (v : Value) (ls : List (List UInt8)) (w : World) (hv : Bss w v ls) (ht : Tab w) (hn : ls.length ≤ 9223372036854775807) (hl : ∀ l ∈ ls, l.length ≤ 9223372036854775807) :
    Calls Tryz.prog 95 #[v] w fun e w' => e = .returned (.int .u32 (sumOf 0 ls.flatten : Nat)) ∧ w = w' := by
  obtain ⟨A, c, rfl, hlc, hnn, hcell⟩ := hv
  have HC := Lib.hid hcell
  have HN := Lib.hid hnn
  have HT := Lib.hid ht
  have HL := Lib.hid hl
  clear hcell hnn ht hl
  go_enter Tryz.func95, Tryz.ntmps95
  go_wp2
  go_loop [3, 8] (fun x i => ∃ k : Nat, k ≤ ls.length ∧ i = .int .i64 k ∧ x = .int .u32 (sumOf 0 (ls.take k).flatten : Nat)) (fun _ i => ls.length - (intOf i).toNat)
  case atStart => exact ⟨0, Nat.zero_le _, rfl, by rw [List.take_zero, List.flatten_nil, sumOf_nil]; rfl⟩
  case round =>
    obtain ⟨k, hk, rfl, rfl⟩ := hrel
    by_cases hlt : k < ls.length
    · cases A with
      | none => have := HN.out rfl; omega
      | some ad =>
        obtain ⟨u, hu, hb⟩ := HC.out ad rfl k hlt
        have HB := Lib.hid hb
        have HR := Lib.hid (show sumOf 0 (ls.take (k + 1)).flatten = sumOf (sumOf 0 (ls.take k).flatten) ls[k] by
          rw [List.take_succ_eq_append_getElem hlt, List.flatten_append, sumOf_app]; simp)
        clear hb
        go_wp2_with fail
        refine (more_any _ u _ w (sumOf_lt _ (by decide)) HB.out HT.out (HL.out _ (List.getElem_mem _))).mono ?_
        rintro e w1 ⟨rfl, rfl⟩
        go_wp2_with fail
        go_round
        case rel => exact ⟨k + 1, by omega, by go_num, by rw [HR.out]⟩
        case measure => simp [intOf]; omega
    · have HE := Lib.hid (show ls.take k = ls by rw [List.take_of_length_le (by omega)])
      go_wp2
      go_ret
      exact ⟨ret_int (by rw [HE.out]), rfl⟩

theorem of_one (g : Nat) (v : Value) (l : List UInt8) (w : World) (hg : g = w.heap.size) (hv : Bs w v l) (ht : Tab w) (hl : l.length ≤ 9223372036854775807) :
    Calls Tryz.prog 95 #[.slice (some ⟨g, 0, none⟩) 1 1] (w.alloc (.cells #[v] 26)) fun e w' => e = .returned (.int .u32 (sumOf 0 l : Nat)) ∧ (w.alloc (.cells #[v] 26)) = w' := by
  subst hg
  refine (of_any _ [l] _ (bss_one w v l _ hv) (ht.non ((Fr.refl _ _).alloc _)) (by simp) (by simpa using hl)).mono ?_
  rintro e w1 ⟨rfl, rfl⟩
  exact ⟨ret_int (by simp), rfl⟩

end Go.Proofs.YtheefloegbkflaaGreatDoor
