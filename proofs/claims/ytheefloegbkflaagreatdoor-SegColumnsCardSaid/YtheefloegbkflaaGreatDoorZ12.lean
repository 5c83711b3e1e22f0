/-
  Joined: Layer 13: a column read, the document's. · Layer 13: all rows read, the document's. · Layer 13: footers' words compared; the walk of the law on what is read. · Layer 13: the walk of the law on columns. · Arguments opened: a cell by value; a value of each type. · Arguments opened: a slice of cells. · Arguments opened: a slice of slices of cells. · Arguments opened: a column's number, and bytes, in a struct. · Arguments of layer 2's laws, opened: a number of 32 bits, four bytes by value, a slice of slices of bytes; and the table that the program lays. · Arguments opened: a slice of columns.
-/
import Derived.Deep.RegionHeld3
import Derived.StillTail
import Derived.Test.YtheefloegbkflaaGreatDoorZ10
import Derived.Test.YtheefloegbkflaaGreatDoorZ11
import Derived.Test.YtheefloegbkflaaGreatDoorZ9
import Derived.Laws.StructEq
import Derived.Test.YtheefloegbkflaaGreatDoorZ3
import Derived.Test.YtheefloegbkflaaGreatDoorZ1
import Derived.Lib.SmallJoins
import Derived.Deep.Matrix
import Derived.LaidMore
import Derived.Lib.LaidTab
import Derived.Laws.IdiomArrays
import Derived.Test.YtheefloegbkflaaGreatDoorZ7

namespace Go.Proofs.YtheefloegbkflaaGreatDoor
set_option linter.unusedVariables false
set_option linter.unusedSimpArgs false
set_option maxRecDepth 100000
open Go.RowKit

set_option maxHeartbeats 8000000 in
theorem rcolumn_any (v1 u vb : Value) (cols : List Co) (chs : List Ch) (R : Nat) (i : Int) (b : List UInt8) (w : World) (h1 : Ks w v1 cols) (hu : Hs w u chs) (hv : Bs w vb b) (hbl : ∀ q, vb.ownBlock = some q → q < w.heap.size) (hR4 : R ≤ 400) (hl : cols.length ≤ 1000000000) (hl2 : chs.length ≤ 1000000000) (hb : b.length ≤ 100000) :
    Calls Tryz.prog 23 #[v1, .agg #[.int .i64 (R : Int), u], .int .i64 i, vb] w fun e w' => ColR w' w.heap.size (colE cols R chs i b) e ∧ Fr Non w w' := by
  obtain ⟨A1, c1, rfl⟩ := h1.shape
  obtain ⟨A2, c2, rfl⟩ := hu.shape
  obtain ⟨A, c, rfl⟩ := hv.shape
  have H1 := Lib.hid h1
  have HU := Lib.hid hu
  have hB0 : RfB (w.alloc (.cells #[.int .i64 (R : Int), .slice A2 chs.length c2] 43)) w.heap.size R (.slice A2 chs.length c2) := Blk.new _ _ _
  have f0 := (Fr.refl Non w).alloc (.cells #[.int .i64 (R : Int), .slice A2 chs.length c2] 43)
  have k0 : (w.alloc (.cells #[.int .i64 (R : Int), .slice A2 chs.length c2] 43)).cell? ⟨w.heap.size, 1, none⟩ = some (.slice A2 chs.length c2) := hB0.cell 1
  by_cases hi0 : i < 0
  · have d0 : decide (i < 0) = true := by simpa using hi0
    have HE := Lib.hid (colE_arg (R := R) b (show i < 0 ∨ (cols.length : Int) ≤ i ∨ (chs.length : Int) ≤ i from .inl hi0))
    have HF0 := Lib.hid f0
    clear hi0 h1 hu hv hbl hB0 f0
    go_enter Tryz.func23, Tryz.ntmps23
    go_wp2
    go_ret2
    exact ⟨ans_no HE.out, HF0.out⟩
  · have d0 : decide (i < 0) = false := by simpa using hi0
    by_cases hi1 : (cols.length : Int) ≤ i
    · have d1 : decide ((cols.length : Int) ≤ i) = true := by simpa using hi1
      have HE := Lib.hid (colE_arg (R := R) b (show i < 0 ∨ (cols.length : Int) ≤ i ∨ (chs.length : Int) ≤ i from .inr (.inl hi1)))
      have HF0 := Lib.hid f0
      clear hi0 hi1 h1 hu hv hbl hB0 f0
      go_enter Tryz.func23, Tryz.ntmps23
      go_wp2
      go_ret2
      exact ⟨ans_no HE.out, HF0.out⟩
    · have d1 : decide ((cols.length : Int) ≤ i) = false := by simpa using hi1
      by_cases hi2 : (chs.length : Int) ≤ i
      · have d2 : decide ((chs.length : Int) ≤ i) = true := by simpa using hi2
        have HE := Lib.hid (colE_arg (R := R) b (show i < 0 ∨ (cols.length : Int) ≤ i ∨ (chs.length : Int) ≤ i from .inr (.inr hi2)))
        have HF0 := Lib.hid f0
        clear hi0 hi1 hi2 h1 hu hv hbl hB0 f0
        go_enter Tryz.func23, Tryz.ntmps23
        go_wp2
        go_ret2
        exact ⟨ans_no HE.out, HF0.out⟩
      · have d2 : decide ((chs.length : Int) ≤ i) = false := by simpa using hi2
        obtain ⟨k, rfl⟩ : ∃ k : Nat, i = (k : Int) := ⟨i.toNat, by omega⟩
        have hk1 : k < cols.length := by omega
        have hk2 : k < chs.length := by omega
        have d3 : decide (cols.length ≤ k) = false := decide_eq_false (by omega)
        have d4 : decide (chs.length ≤ k) = false := decide_eq_false (by omega)
        have d5 : decide ((k : Int) < 0) = false := decide_eq_false (by omega)
        have HCe := Lib.hid (colE_at (R := R) b hk1 hk2)
        obtain ⟨a1, rfl, _⟩ := h1.at_ k cols[k] (List.getElem?_eq_getElem hk1)
        obtain ⟨a2, rfl, _⟩ := hu.at_ k chs[k] (List.getElem?_eq_getElem hk2)
        have HTy := Lib.hid (fun W (hf : Fr Non w W) => (ks_lit (H1.out.non hf) k cols[k] (List.getElem?_eq_getElem hk1)).2.1)
        have HNl := Lib.hid (fun W (hf : Fr Non w W) => (ks_lit (H1.out.non hf) k cols[k] (List.getElem?_eq_getElem hk1)).2.2)
        have HCh := Lib.hid (fun W (hf : Fr Non w W) => hs_lit (HU.out.non hf) k chs[k] (List.getElem?_eq_getElem hk2))
        have HGet := Lib.hid (rgetO_any _ b _ (hv.non f0) (fun q hq => Nat.lt_of_lt_of_le (hbl q hq) f0.size) (by omega))
        have HCN := Lib.hid (fun (z : Zn) (l : List Cl) => (colR_none (c := cols[k]) (R := R) z (b := b)))
        have hgl : (gB b).length ≤ b.length := by
          unfold gB bodyF
          split
          · rw [List.length_take, List.length_drop]; omega
          · simp
        have HF0 := Lib.hid f0
        have HB0 : Hid (RfB _ _ _ _) := Lib.hid hB0
        have HR : Hid (colE cols R chs k b = colR cols[k] R chs[k].zn b) := HCe
        clear hi0 hi1 hi2 h1 hu hv hbl hB0 f0 d0 d1 d2 HCe
        generalize cols[k] = cc at *
        generalize chs[k] = ch at *
        go_enter Tryz.func23, Tryz.ntmps23
        go_wp2_with fail
        refine HGet.out.mono ?_
        rintro e w1 ⟨u1, rfl, ho1, f1⟩
        have hB1 := HB0.out.fr f1 (fun e => e)
        have F1 := HF0.out.trans f1
        have hbs1 := ho1.bs
        have HLt1 := Lib.hid ho1.lt
        obtain ⟨A3, c3, rfl⟩ := hbs1.shape
        have hsz1 := F1.size
        clear HGet HF0 HB0 f1 ho1 k0
        by_cases hg : gE b = 0
        · have hgb : (((gE b : Nat) : Int) != 0) = false := by rw [hg]; rfl
          have HG := Lib.hid hg
          have b1d : RfB w1.drew w.heap.size R _ := hB1
          have F1d : Fr Non w w1.drew := F1.drew
          have t1 := HTy.out w1.drew F1d
          have r1 : w1.drew.cell? ⟨w.heap.size, 0, none⟩ = some (.int .i64 R) := b1d.cell 0
          have HGc := Lib.hid (rgetc_any cc.ty R _ (gB b) w1.drew hbs1.drew (fun q hq => (HLt1.out q hq).2) (by omega) (by omega) (by omega))
          have HFd := Lib.hid F1d
          have HBd : Hid (RfB _ _ _ _) := Lib.hid b1d
          clear hg hB1 F1 hbs1 b1d F1d
          obtain ⟨nm, ty, nl⟩ := cc
          dsimp only at t1 HGc
          go_wp2
          go_region_held3 (fun W => W.cell? { block := (a1.add (k * 3)).block, off := (a1.add (k * 3)).off + 1 } = some (.int .i64 ty) ∧ W.cell? ⟨w.heap.size, 0, none⟩ = some (.int .i64 R)) (first | exact ⟨t1, r1⟩ | exact ⟨t2, r2⟩ | fail) (first | (go_at_call 50; (with_reducible refine HGc.out.mono ?_); rintro e w2 ⟨hG, f2⟩; obtain ⟨u2, l, ok, rfl, ho2, hok⟩ := gec_own hG; have F2 := HFd.out.trans f2; have t2 := HTy.out w2 F2; have b2 := HBd.out.fr f2 (fun e => e); have r2 : w2.cell? ⟨w.heap.size, 0, none⟩ = some (.int .i64 R) := b2.cell 0))
          have HF2 := Lib.hid F2
          have HB2 : Hid (RfB _ _ _ _) := Lib.hid b2
          have HO2 := Lib.hid (ho2.mono (show w.heap.size ≤ _ from hsz1))
          have HOk := Lib.hid hok
          clear HGc HFd HBd t1 r1 t2 r2 hG f2 F2 b2 ho2 hok
          cases ok with
          | false =>
            have HE : Hid (colE cols R chs k b = (2, [])) := Lib.hid (by
              rcases HOk.out with ⟨h, _⟩ | ⟨_, h, _⟩
              · cases h
              · rw [HR.out]; exact colR_none _ HG.out h)
            clear HOk
            go_wp2
            go_quiet (fail)
            go_wp2
            go_ret2
            exact ⟨ans_no HE.out, HF2.out.drewN _⟩
          | true =>
            have HSome : Hid (getC ty (gB b) R = some l) := Lib.hid (by
              rcases HOk.out with ⟨_, h⟩ | ⟨h, _⟩
              · exact h
              · cases h)
            have hlen : l.length ≤ 4096 := by have := getC_is HSome.out; omega
            clear HOk
            by_cases hN : gN b = b.length
            · have hNb : (((gN b : Nat) : Int) != b.length) = false := by rw [hN]; simp
              obtain ⟨Au, cu, rfl⟩ := HO2.out.shape
              have HNN := Lib.hid hN
              have HY := Lib.hid (fun h => colR_yes (c := ⟨nm, ty, nl⟩) (R := R) (z := ch.zn) (b := b) (l := l) HG.out HSome.out h)
              have HX := Lib.hid (fun h => colR_no (c := ⟨nm, ty, nl⟩) (R := R) (z := ch.zn) (b := b) (l := l) HG.out HSome.out h)
              have HZo := Lib.hid (fun W (hf : Fr Non w2.drew W) => rzoneF_any (.slice Au l.length cu) l W ((HO2.out.drew.non hf).cs) (fun q hq => ((HO2.out.drew.non hf).lt q hq).2) (by omega))
              generalize zoneF l = zz at *
              unfold znV znC at HZo
              have F2d := HF2.out.drew
              have B2d : RfB w2.drew _ _ _ := HB2.out
              have x1 : w2.drew.cell? ⟨w.heap.size, 1, none⟩ = some (.slice (some a2) chs.length c2) := B2d.cell 1
              have n1 := HNl.out _ F2d
              obtain ⟨g0, g1, g2, g3, g4, g5, g6, g7, g8, g9⟩ := HCh.out _ F2d
              have hx := fun W => run_neq_zn W zz ch.zn
              have HF2d := Lib.hid F2d
              have HB2d : Hid (RfB _ _ _ _) := Lib.hid B2d
              have ZO1 := Lib.hid (HZo.out _ (Fr.refl _ _))
              clear hN HF2 HB2 F2d B2d
              obtain ⟨off, len, zc⟩ := ch
              dsimp only at g0 g1 g2 g3 g4 g5 g6 g7 g8 g9 hx HY HX HR n1 HCh HNl
              have hsall := And.intro x1 (And.intro g2 (And.intro g3 (And.intro g4 (And.intro g5 (And.intro g6 (And.intro g7 (And.intro g8 (And.intro g9 n1))))))))
              by_cases hz : zz = zc
              · subst hz
                rw [zeq_self] at hx
                cases nl with
                | true =>
                  have HE : Hid (colE cols R chs k b = (0, l)) := Lib.hid (by rw [HR.out]; exact HY.out ⟨HNN.out, rfl, by simp⟩)
                  clear HY HX
                  go_wp2
                  refine wp_region_held_drew (S := (fun W => W.cell? ⟨w.heap.size, 1, none⟩ = some (.slice (some a2) chs.length c2) ∧ W.cell? { block := (a2.add (k * 10)).block, off := (a2.add (k * 10)).off + 2 } = some (.int .i64 zz.rows) ∧ W.cell? { block := (a2.add (k * 10)).block, off := (a2.add (k * 10)).off + 3 } = some (.int .i64 zz.nulls) ∧ W.cell? { block := (a2.add (k * 10)).block, off := (a2.add (k * 10)).off + 4 } = some (.bool zz.low.null) ∧ W.cell? { block := (a2.add (k * 10)).block, off := (a2.add (k * 10)).off + 5 } = some (.int .i64 zz.low.num) ∧ W.cell? { block := (a2.add (k * 10)).block, off := (a2.add (k * 10)).off + 6 } = some (.string ⟨zz.low.txt.toArray⟩) ∧ W.cell? { block := (a2.add (k * 10)).block, off := (a2.add (k * 10)).off + 7 } = some (.bool zz.high.null) ∧ W.cell? { block := (a2.add (k * 10)).block, off := (a2.add (k * 10)).off + 8 } = some (.int .i64 zz.high.num) ∧ W.cell? { block := (a2.add (k * 10)).block, off := (a2.add (k * 10)).off + 9 } = some (.string ⟨zz.high.txt.toArray⟩) ∧ W.cell? { block := (a1.add (k * 3)).block, off := (a1.add (k * 3)).off + 2 } = some (.bool true))) (by kernel_rfl) hsall (fun hHeld => ?_)
                  refine wpAnyH_take (i := 0) (oi := ⟨some 51, _, _, _, _, none⟩) (v := ?v1) rfl (by kernel_rfl) (by kernel_rfl) (by kernel_rfl) (fun _ _ _ h => h) (Or.inl ⟨by rfl, ?hy1⟩) (by assumption) ?rest1
                  case hy1 => (intro wS hSw; (try dsimp only at hSw); go_simp; (try with_reducible rfl))
                  (try simp only [Act.put, List.setIfInBounds_toArray, List.set_cons_zero, List.set_cons_succ])
                  refine wpAnyH_take (i := 1) (oi := ⟨some 52, _, _, _, _, none⟩) (v := ?v2) rfl (by kernel_rfl) (by kernel_rfl) (by kernel_rfl) (fun _ _ _ h => h) (Or.inl ⟨by rfl, ?hy2⟩) (by assumption) ?rest2
                  case hy2 => (intro wS hSw; (try dsimp only at hSw); go_simp; (try with_reducible rfl))
                  (try simp only [Act.put, List.setIfInBounds_toArray, List.set_cons_zero, List.set_cons_succ])
                  refine wpAnyH_take (i := 2) (oi := ⟨some 53, _, _, _, _, none⟩) (v := ?v3) rfl (by kernel_rfl) (by kernel_rfl) (by kernel_rfl) (fun _ _ _ h => h) (Or.inl ⟨by rfl, ?hy3⟩) (by assumption) ?rest3
                  case hy3 => (intro wS hSw; (try dsimp only at hSw); go_simp; (try with_reducible rfl))
                  (try simp only [Act.put, List.setIfInBounds_toArray, List.set_cons_zero, List.set_cons_succ])
                  refine wpAnyH_take (i := 3) (oi := ⟨some 54, _, _, _, _, some (2, false)⟩) (v := ?v4) rfl (by kernel_rfl) (by kernel_rfl) (by kernel_rfl) (fun _ _ _ h => h) (Or.inl ⟨by rfl, ?hy4⟩) (by assumption) ?rest4
                  case hy4 => (intro wS hSw; (try dsimp only at hSw); go_simp; (try with_reducible rfl))
                  (try simp only [Act.put, List.setIfInBounds_toArray, List.set_cons_zero, List.set_cons_succ])
                  refine wpAnyH_take (i := 4) (oi := ⟨some 55, _, _, _, _, some (2, false)⟩) (v := ?v5) rfl (by kernel_rfl) (by kernel_rfl) (by kernel_rfl) (fun _ _ _ h => h) (Or.inl ⟨by rfl, ?hy5⟩) (by assumption) ?rest5
                  case hy5 => (intro wS hSw; (try dsimp only at hSw); go_simp; (try with_reducible rfl))
                  (try simp only [Act.put, List.setIfInBounds_toArray, List.set_cons_zero, List.set_cons_succ])
                  refine wpAnyH_take (i := 5) (oi := ⟨some 56, _, _, _, _, some (2, false)⟩) (v := ?v6) rfl (by kernel_rfl) (by kernel_rfl) (by kernel_rfl) (fun _ _ _ h => h) (Or.inl ⟨by rfl, ?hy6⟩) (by assumption) ?rest6
                  case hy6 => (intro wS hSw; (try dsimp only at hSw); go_simp; (try with_reducible rfl))
                  (try simp only [Act.put, List.setIfInBounds_toArray, List.set_cons_zero, List.set_cons_succ])
                  refine wpAnyH_take (i := 6) (oi := ⟨some 57, _, _, _, _, some (2, false)⟩) (v := ?v7) rfl (by kernel_rfl) (by kernel_rfl) (by kernel_rfl) (fun _ _ _ h => h) (Or.inl ⟨by rfl, ?hy7⟩) (by assumption) ?rest7
                  case hy7 => (intro wS hSw; (try dsimp only at hSw); go_simp; (try with_reducible rfl))
                  (try simp only [Act.put, List.setIfInBounds_toArray, List.set_cons_zero, List.set_cons_succ])
                  refine wpAnyH_take (i := 7) (oi := ⟨some 58, _, _, _, _, none⟩) (v := ?v8) rfl (by kernel_rfl) (by kernel_rfl) (by kernel_rfl) (fun _ _ _ h => h) (Or.inl ⟨by rfl, ?hy8⟩) (by assumption) ?rest8
                  case hy8 => (intro wS hSw; (try dsimp only at hSw); go_simp; (try with_reducible rfl))
                  (try simp only [Act.put, List.setIfInBounds_toArray, List.set_cons_zero, List.set_cons_succ])
                  refine wpAnyH_take (i := 8) (oi := ⟨some 59, _, _, _, _, none⟩) (v := ?v9) rfl (by kernel_rfl) (by kernel_rfl) (by kernel_rfl) (fun _ _ _ h => h) (Or.inl ⟨by rfl, ?hy9⟩) (by assumption) ?rest9
                  case hy9 => (intro wS hSw; (try dsimp only at hSw); go_simp; (try with_reducible rfl))
                  (try simp only [Act.put, List.setIfInBounds_toArray, List.set_cons_zero, List.set_cons_succ])
                  refine wpAnyH_take (i := 9) (oi := ⟨some 60, _, _, _, _, some (8, false)⟩) (v := ?v10) rfl (by kernel_rfl) (by kernel_rfl) (by kernel_rfl) (fun _ _ _ h => h) (Or.inl ⟨by rfl, ?hy10⟩) (by assumption) ?rest10
                  case hy10 => (intro wS hSw; (try dsimp only at hSw); go_simp; (try with_reducible rfl))
                  (try simp only [Act.put, List.setIfInBounds_toArray, List.set_cons_zero, List.set_cons_succ])
                  refine wpAnyH_take (i := 11) (oi := ⟨some 62, _, _, _, _, some (8, false)⟩) (v := ?v11) rfl (by kernel_rfl) (by kernel_rfl) (by kernel_rfl) (fun _ _ _ h => h) (Or.inl ⟨by rfl, ?hy11⟩) (by assumption) ?rest11
                  case hy11 => (intro wS hSw; (try dsimp only at hSw); go_simp; (try with_reducible rfl))
                  (try simp only [Act.put, List.setIfInBounds_toArray, List.set_cons_zero, List.set_cons_succ])
                  refine wpAnyH_take (i := 12) (oi := ⟨some 63, _, _, _, _, some (8, false)⟩) (v := ?v12) rfl (by kernel_rfl) (by kernel_rfl) (by kernel_rfl) (fun _ _ _ h => h) (Or.inl ⟨by rfl, ?hy12⟩) (by assumption) ?rest12
                  case hy12 => (intro wS hSw; (try dsimp only at hSw); go_simp; (try with_reducible rfl))
                  (try simp only [Act.put, List.setIfInBounds_toArray, List.set_cons_zero, List.set_cons_succ])
                  refine wpAnyH_take (i := 13) (oi := ⟨some 64, _, _, _, _, some (8, false)⟩) (v := ?v13) rfl (by kernel_rfl) (by kernel_rfl) (by kernel_rfl) (fun _ _ _ h => h) (Or.inl ⟨by rfl, ?hy13⟩) (by assumption) ?rest13
                  case hy13 => (intro wS hSw; (try dsimp only at hSw); go_simp; (try with_reducible rfl))
                  (try simp only [Act.put, List.setIfInBounds_toArray, List.set_cons_zero, List.set_cons_succ])
                  refine wpAnyH_take (i := 14) (oi := ⟨some 65, _, _, _, _, some (8, false)⟩) (v := ?v14) rfl (by kernel_rfl) (by kernel_rfl) (by kernel_rfl) (fun _ _ _ h => h) (Or.inl ⟨by rfl, ?hy14⟩) (by assumption) ?rest14
                  case hy14 => (intro wS hSw; (try dsimp only at hSw); go_simp; (try with_reducible rfl))
                  (try simp only [Act.put, List.setIfInBounds_toArray, List.set_cons_zero, List.set_cons_succ])
                  refine wpAnyH_take (i := 15) (oi := ⟨some 66, _, _, _, _, some (8, false)⟩) (v := ?v15) rfl (by kernel_rfl) (by kernel_rfl) (by kernel_rfl) (fun _ _ _ h => h) (Or.inl ⟨by rfl, ?hy15⟩) (by assumption) ?rest15
                  case hy15 => (intro wS hSw; (try dsimp only at hSw); go_simp; (try with_reducible rfl))
                  (try simp only [Act.put, List.setIfInBounds_toArray, List.set_cons_zero, List.set_cons_succ])
                  refine wpAnyH_take (i := 16) (oi := ⟨some 67, _, _, _, _, some (8, false)⟩) (v := ?v16) rfl (by kernel_rfl) (by kernel_rfl) (by kernel_rfl) (fun _ _ _ h => h) (Or.inl ⟨by rfl, ?hy16⟩) (by assumption) ?rest16
                  case hy16 => (intro wS hSw; (try dsimp only at hSw); go_simp; (try with_reducible rfl))
                  (try simp only [Act.put, List.setIfInBounds_toArray, List.set_cons_zero, List.set_cons_succ])
                  refine wpAnyH_ready (rs := [10]) (by kernel_rfl) (by simp) ?_
                  refine AllReadyH.cons (o := ⟨some 61, _, _, _, _, some (8, false)⟩) rfl (fun K hK => ?_) AllReadyH.nil
                  go_simp
                  go_at_call 38
                  refine ZO1.out.mono ?_
                  rintro e w3 ⟨he3, f3⟩
                  subst he3
                  have B3 := HB2d.out.fr f3 (fun e => e)
                  have F3w := HF2d.out.trans f3
                  have x13 : w3.cell? ⟨w.heap.size, 1, none⟩ = some (.slice (some a2) chs.length c2) := B3.cell 1
                  have n13 := HNl.out _ F3w
                  obtain ⟨_, _, m23, m33, m43, m53, m63, m73, m83, m93⟩ := HCh.out _ F3w
                  have hsall3 := And.intro x13 (And.intro m23 (And.intro m33 (And.intro m43 (And.intro m53 (And.intro m63 (And.intro m73 (And.intro m83 (And.intro m93 n13))))))))
                  have ZO2 := HZo.out w3 f3
                  go_wp2_with fail
                  refine hK.out _ _ hsall3 (fun hHeld => ?_)
                  clear hK K
                  (try simp only [Act.put, List.setIfInBounds_toArray, List.set_cons_zero, List.set_cons_succ])
                  refine wpAnyH_take (i := 17) (oi := ⟨some 68, _, _, _, _, some (8, false)⟩) (v := ?v17) rfl (by kernel_rfl) (by kernel_rfl) (by kernel_rfl) (fun _ _ _ h => h) (Or.inl ⟨by rfl, ?hy17⟩) (by assumption) ?rest17
                  case hy17 => (intro wS hSw; (try dsimp only at hSw); go_simp; (try with_reducible rfl))
                  (try simp only [Act.put, List.setIfInBounds_toArray, List.set_cons_zero, List.set_cons_succ])
                  refine wpAnyH_take (i := 18) (oi := ⟨some 69, _, _, _, _, none⟩) (v := ?v18) rfl (by kernel_rfl) (by kernel_rfl) (by kernel_rfl) (fun _ _ _ h => h) (Or.inl ⟨by rfl, ?hy18⟩) (by assumption) ?rest18
                  case hy18 => (intro wS hSw; (try dsimp only at hSw); go_simp; (try with_reducible rfl))
                  (try simp only [Act.put, List.setIfInBounds_toArray, List.set_cons_zero, List.set_cons_succ])
                  refine wpAnyH_take (i := 19) (oi := ⟨some 70, _, _, _, _, none⟩) (v := ?v19) rfl (by kernel_rfl) (by kernel_rfl) (by kernel_rfl) (fun _ _ _ h => h) (Or.inl ⟨by rfl, ?hy19⟩) (by assumption) ?rest19
                  case hy19 => (intro wS hSw; (try dsimp only at hSw); go_simp; (try with_reducible rfl))
                  (try simp only [Act.put, List.setIfInBounds_toArray, List.set_cons_zero, List.set_cons_succ])
                  refine wpAnyH_take (i := 20) (oi := ⟨some 71, _, _, _, _, some (19, false)⟩) (v := ?v20) rfl (by kernel_rfl) (by kernel_rfl) (by kernel_rfl) (fun _ _ _ h => h) (Or.inl ⟨by rfl, ?hy20⟩) (by assumption) ?rest20
                  case hy20 => (intro wS hSw; (try dsimp only at hSw); go_simp; (try with_reducible rfl))
                  (try simp only [Act.put, List.setIfInBounds_toArray, List.set_cons_zero, List.set_cons_succ])
                  refine wpAnyH_take (i := 21) (oi := ⟨some 72, _, _, _, _, some (19, false)⟩) (v := ?v21) rfl (by kernel_rfl) (by kernel_rfl) (by kernel_rfl) (fun _ _ _ h => h) (Or.inl ⟨by rfl, ?hy21⟩) (by assumption) ?rest21
                  case hy21 => (intro wS hSw; (try dsimp only at hSw); go_simp; (try with_reducible rfl))
                  (try simp only [Act.put, List.setIfInBounds_toArray, List.set_cons_zero, List.set_cons_succ])
                  refine wpAnyH_take (i := 22) (oi := ⟨some 73, _, _, _, _, some (19, false)⟩) (v := ?v22) rfl (by kernel_rfl) (by kernel_rfl) (by kernel_rfl) (fun _ _ _ h => h) (Or.inl ⟨by rfl, ?hy22⟩) (by assumption) ?rest22
                  case hy22 => (intro wS hSw; (try dsimp only at hSw); go_simp; (try with_reducible rfl))
                  (try simp only [Act.put, List.setIfInBounds_toArray, List.set_cons_zero, List.set_cons_succ])
                  refine wpAnyH_take (i := 23) (oi := ⟨some 74, _, _, _, _, some (19, false)⟩) (v := ?v23) rfl (by kernel_rfl) (by kernel_rfl) (by kernel_rfl) (fun _ _ _ h => h) (Or.inl ⟨by rfl, ?hy23⟩) (by assumption) ?rest23
                  case hy23 => (intro wS hSw; (try dsimp only at hSw); go_simp; (try with_reducible rfl))
                  (try simp only [Act.put, List.setIfInBounds_toArray, List.set_cons_zero, List.set_cons_succ])
                  refine wpAnyH_take (i := 24) (oi := ⟨some 75, _, _, _, _, some (19, false)⟩) (v := ?v24) rfl (by kernel_rfl) (by kernel_rfl) (by kernel_rfl) (fun _ _ _ h => h) (Or.inl ⟨by rfl, ?hy24⟩) (by assumption) ?rest24
                  case hy24 => (intro wS hSw; (try dsimp only at hSw); go_simp; (try with_reducible rfl))
                  (try simp only [Act.put, List.setIfInBounds_toArray, List.set_cons_zero, List.set_cons_succ])
                  refine wpAnyH_take (i := 25) (oi := ⟨some 76, _, _, _, _, some (19, false)⟩) (v := ?v25) rfl (by kernel_rfl) (by kernel_rfl) (by kernel_rfl) (fun _ _ _ h => h) (Or.inl ⟨by rfl, ?hy25⟩) (by assumption) ?rest25
                  case hy25 => (intro wS hSw; (try dsimp only at hSw); go_simp; (try with_reducible rfl))
                  (try simp only [Act.put, List.setIfInBounds_toArray, List.set_cons_zero, List.set_cons_succ])
                  refine wpAnyH_take (i := 26) (oi := ⟨some 77, _, _, _, _, some (19, false)⟩) (v := ?v26) rfl (by kernel_rfl) (by kernel_rfl) (by kernel_rfl) (fun _ _ _ h => h) (Or.inl ⟨by rfl, ?hy26⟩) (by assumption) ?rest26
                  case hy26 => (intro wS hSw; (try dsimp only at hSw); go_simp; (try with_reducible rfl))
                  (try simp only [Act.put, List.setIfInBounds_toArray, List.set_cons_zero, List.set_cons_succ])
                  refine wpAnyH_take (i := 27) (oi := ⟨some 78, _, _, _, _, some (26, true)⟩) (v := undef) rfl (by kernel_rfl) (by kernel_rfl) (by kernel_rfl) (fun _ _ _ h => h) (Or.inr ⟨by rfl, rfl⟩) (by assumption) ?_
                  (try simp only [Act.put, List.setIfInBounds_toArray, List.set_cons_zero, List.set_cons_succ])
                  refine wpAnyH_take (i := 28) (oi := ⟨some 79, _, _, _, _, some (26, true)⟩) (v := undef) rfl (by kernel_rfl) (by kernel_rfl) (by kernel_rfl) (fun _ _ _ h => h) (Or.inr ⟨by rfl, rfl⟩) (by assumption) ?_
                  (try simp only [Act.put, List.setIfInBounds_toArray, List.set_cons_zero, List.set_cons_succ])
                  refine wpAnyH_take (i := 29) (oi := ⟨some 80, _, _, _, _, some (26, true)⟩) (v := undef) rfl (by kernel_rfl) (by kernel_rfl) (by kernel_rfl) (fun _ _ _ h => h) (Or.inr ⟨by rfl, rfl⟩) (by assumption) ?_
                  (try simp only [Act.put, List.setIfInBounds_toArray, List.set_cons_zero, List.set_cons_succ])
                  refine wpAnyH_take (i := 30) (oi := ⟨some 81, _, _, _, _, some (26, true)⟩) (v := undef) rfl (by kernel_rfl) (by kernel_rfl) (by kernel_rfl) (fun _ _ _ h => h) (Or.inr ⟨by rfl, rfl⟩) (by assumption) ?_
                  (try simp only [Act.put, List.setIfInBounds_toArray, List.set_cons_zero, List.set_cons_succ])
                  refine wpAnyH_take (i := 31) (oi := ⟨some 82, _, _, _, _, some (19, false)⟩) (v := ?v27) rfl (by kernel_rfl) (by kernel_rfl) (by kernel_rfl) (fun _ _ _ h => h) (Or.inl ⟨by rfl, ?hy27⟩) (by assumption) ?rest27
                  case hy27 => (intro wS hSw; (try dsimp only at hSw); go_simp; (try with_reducible rfl))
                  (try simp only [Act.put, List.setIfInBounds_toArray, List.set_cons_zero, List.set_cons_succ])
                  refine wpAnyH_take (i := 32) (oi := ⟨some 83, _, _, _, _, none⟩) (v := ?v28) rfl (by kernel_rfl) (by kernel_rfl) (by kernel_rfl) (fun _ _ _ h => h) (Or.inl ⟨by rfl, ?hy28⟩) (by assumption) ?rest28
                  case hy28 => (intro wS hSw; (try dsimp only at hSw); go_simp; (try with_reducible rfl))
                  (try simp only [Act.put, List.setIfInBounds_toArray, List.set_cons_zero, List.set_cons_succ])
                  refine wpAnyH_done (by kernel_rfl) ?_ _
                  have hO3 := HO2.out.drew.non f3
                  have hF3 := HF2d.out.trans f3
                  go_wp2
                  go_ret2
                  exact ⟨ans_ok HE.out hO3, hF3⟩
                | false =>
                  have hfd : ∀ W : World, (Instr.field 56 (.agg #[.int .i64 zz.rows, .int .i64 zz.nulls, .bool zz.low.null, .int .i64 zz.low.num, .string ⟨zz.low.txt.toArray⟩, .bool zz.high.null, .int .i64 zz.high.num, .string ⟨zz.high.txt.toArray⟩]) 1).run Tryz.prog W = .ok (.int .i64 zz.nulls) W := fun _ => by kernel_rfl
                  by_cases hnu : 0 < zz.nulls
                  · have dn : decide (0 < zz.nulls) = true := decide_eq_true hnu
                    have HE : Hid (colE cols R chs k b = (2, [])) := Lib.hid (by rw [HR.out]; exact HX.out (by rintro ⟨_, _, h⟩; exact h ⟨hnu, rfl⟩))
                    clear HY HX hnu
                    go_wp2
                    refine wp_region_held_drew (S := (fun W => W.cell? ⟨w.heap.size, 1, none⟩ = some (.slice (some a2) chs.length c2) ∧ W.cell? { block := (a2.add (k * 10)).block, off := (a2.add (k * 10)).off + 2 } = some (.int .i64 zz.rows) ∧ W.cell? { block := (a2.add (k * 10)).block, off := (a2.add (k * 10)).off + 3 } = some (.int .i64 zz.nulls) ∧ W.cell? { block := (a2.add (k * 10)).block, off := (a2.add (k * 10)).off + 4 } = some (.bool zz.low.null) ∧ W.cell? { block := (a2.add (k * 10)).block, off := (a2.add (k * 10)).off + 5 } = some (.int .i64 zz.low.num) ∧ W.cell? { block := (a2.add (k * 10)).block, off := (a2.add (k * 10)).off + 6 } = some (.string ⟨zz.low.txt.toArray⟩) ∧ W.cell? { block := (a2.add (k * 10)).block, off := (a2.add (k * 10)).off + 7 } = some (.bool zz.high.null) ∧ W.cell? { block := (a2.add (k * 10)).block, off := (a2.add (k * 10)).off + 8 } = some (.int .i64 zz.high.num) ∧ W.cell? { block := (a2.add (k * 10)).block, off := (a2.add (k * 10)).off + 9 } = some (.string ⟨zz.high.txt.toArray⟩) ∧ W.cell? { block := (a1.add (k * 3)).block, off := (a1.add (k * 3)).off + 2 } = some (.bool false))) (by kernel_rfl) hsall (fun hHeld => ?_)
                    refine wpAnyH_take (i := 0) (oi := ⟨some 51, _, _, _, _, none⟩) (v := ?v49) rfl (by kernel_rfl) (by kernel_rfl) (by kernel_rfl) (fun _ _ _ h => h) (Or.inl ⟨by rfl, ?hy49⟩) (by assumption) ?rest49
                    case hy49 => (intro wS hSw; (try dsimp only at hSw); go_simp; (try with_reducible rfl))
                    (try simp only [Act.put, List.setIfInBounds_toArray, List.set_cons_zero, List.set_cons_succ])
                    refine wpAnyH_take (i := 1) (oi := ⟨some 52, _, _, _, _, none⟩) (v := ?v50) rfl (by kernel_rfl) (by kernel_rfl) (by kernel_rfl) (fun _ _ _ h => h) (Or.inl ⟨by rfl, ?hy50⟩) (by assumption) ?rest50
                    case hy50 => (intro wS hSw; (try dsimp only at hSw); go_simp; (try with_reducible rfl))
                    (try simp only [Act.put, List.setIfInBounds_toArray, List.set_cons_zero, List.set_cons_succ])
                    refine wpAnyH_take (i := 2) (oi := ⟨some 53, _, _, _, _, none⟩) (v := ?v51) rfl (by kernel_rfl) (by kernel_rfl) (by kernel_rfl) (fun _ _ _ h => h) (Or.inl ⟨by rfl, ?hy51⟩) (by assumption) ?rest51
                    case hy51 => (intro wS hSw; (try dsimp only at hSw); go_simp; (try with_reducible rfl))
                    (try simp only [Act.put, List.setIfInBounds_toArray, List.set_cons_zero, List.set_cons_succ])
                    refine wpAnyH_take (i := 3) (oi := ⟨some 54, _, _, _, _, some (2, false)⟩) (v := ?v52) rfl (by kernel_rfl) (by kernel_rfl) (by kernel_rfl) (fun _ _ _ h => h) (Or.inl ⟨by rfl, ?hy52⟩) (by assumption) ?rest52
                    case hy52 => (intro wS hSw; (try dsimp only at hSw); go_simp; (try with_reducible rfl))
                    (try simp only [Act.put, List.setIfInBounds_toArray, List.set_cons_zero, List.set_cons_succ])
                    refine wpAnyH_take (i := 4) (oi := ⟨some 55, _, _, _, _, some (2, false)⟩) (v := ?v53) rfl (by kernel_rfl) (by kernel_rfl) (by kernel_rfl) (fun _ _ _ h => h) (Or.inl ⟨by rfl, ?hy53⟩) (by assumption) ?rest53
                    case hy53 => (intro wS hSw; (try dsimp only at hSw); go_simp; (try with_reducible rfl))
                    (try simp only [Act.put, List.setIfInBounds_toArray, List.set_cons_zero, List.set_cons_succ])
                    refine wpAnyH_take (i := 5) (oi := ⟨some 56, _, _, _, _, some (2, false)⟩) (v := ?v54) rfl (by kernel_rfl) (by kernel_rfl) (by kernel_rfl) (fun _ _ _ h => h) (Or.inl ⟨by rfl, ?hy54⟩) (by assumption) ?rest54
                    case hy54 => (intro wS hSw; (try dsimp only at hSw); go_simp; (try with_reducible rfl))
                    (try simp only [Act.put, List.setIfInBounds_toArray, List.set_cons_zero, List.set_cons_succ])
                    refine wpAnyH_take (i := 6) (oi := ⟨some 57, _, _, _, _, some (2, false)⟩) (v := ?v55) rfl (by kernel_rfl) (by kernel_rfl) (by kernel_rfl) (fun _ _ _ h => h) (Or.inl ⟨by rfl, ?hy55⟩) (by assumption) ?rest55
                    case hy55 => (intro wS hSw; (try dsimp only at hSw); go_simp; (try with_reducible rfl))
                    (try simp only [Act.put, List.setIfInBounds_toArray, List.set_cons_zero, List.set_cons_succ])
                    refine wpAnyH_take (i := 7) (oi := ⟨some 58, _, _, _, _, none⟩) (v := ?v56) rfl (by kernel_rfl) (by kernel_rfl) (by kernel_rfl) (fun _ _ _ h => h) (Or.inl ⟨by rfl, ?hy56⟩) (by assumption) ?rest56
                    case hy56 => (intro wS hSw; (try dsimp only at hSw); go_simp; (try with_reducible rfl))
                    (try simp only [Act.put, List.setIfInBounds_toArray, List.set_cons_zero, List.set_cons_succ])
                    refine wpAnyH_take (i := 8) (oi := ⟨some 59, _, _, _, _, none⟩) (v := ?v57) rfl (by kernel_rfl) (by kernel_rfl) (by kernel_rfl) (fun _ _ _ h => h) (Or.inl ⟨by rfl, ?hy57⟩) (by assumption) ?rest57
                    case hy57 => (intro wS hSw; (try dsimp only at hSw); go_simp; (try with_reducible rfl))
                    (try simp only [Act.put, List.setIfInBounds_toArray, List.set_cons_zero, List.set_cons_succ])
                    refine wpAnyH_take (i := 9) (oi := ⟨some 60, _, _, _, _, some (8, false)⟩) (v := ?v58) rfl (by kernel_rfl) (by kernel_rfl) (by kernel_rfl) (fun _ _ _ h => h) (Or.inl ⟨by rfl, ?hy58⟩) (by assumption) ?rest58
                    case hy58 => (intro wS hSw; (try dsimp only at hSw); go_simp; (try with_reducible rfl))
                    (try simp only [Act.put, List.setIfInBounds_toArray, List.set_cons_zero, List.set_cons_succ])
                    refine wpAnyH_take (i := 11) (oi := ⟨some 62, _, _, _, _, some (8, false)⟩) (v := ?v59) rfl (by kernel_rfl) (by kernel_rfl) (by kernel_rfl) (fun _ _ _ h => h) (Or.inl ⟨by rfl, ?hy59⟩) (by assumption) ?rest59
                    case hy59 => (intro wS hSw; (try dsimp only at hSw); go_simp; (try with_reducible rfl))
                    (try simp only [Act.put, List.setIfInBounds_toArray, List.set_cons_zero, List.set_cons_succ])
                    refine wpAnyH_take (i := 12) (oi := ⟨some 63, _, _, _, _, some (8, false)⟩) (v := ?v60) rfl (by kernel_rfl) (by kernel_rfl) (by kernel_rfl) (fun _ _ _ h => h) (Or.inl ⟨by rfl, ?hy60⟩) (by assumption) ?rest60
                    case hy60 => (intro wS hSw; (try dsimp only at hSw); go_simp; (try with_reducible rfl))
                    (try simp only [Act.put, List.setIfInBounds_toArray, List.set_cons_zero, List.set_cons_succ])
                    refine wpAnyH_take (i := 13) (oi := ⟨some 64, _, _, _, _, some (8, false)⟩) (v := ?v61) rfl (by kernel_rfl) (by kernel_rfl) (by kernel_rfl) (fun _ _ _ h => h) (Or.inl ⟨by rfl, ?hy61⟩) (by assumption) ?rest61
                    case hy61 => (intro wS hSw; (try dsimp only at hSw); go_simp; (try with_reducible rfl))
                    (try simp only [Act.put, List.setIfInBounds_toArray, List.set_cons_zero, List.set_cons_succ])
                    refine wpAnyH_take (i := 14) (oi := ⟨some 65, _, _, _, _, some (8, false)⟩) (v := ?v62) rfl (by kernel_rfl) (by kernel_rfl) (by kernel_rfl) (fun _ _ _ h => h) (Or.inl ⟨by rfl, ?hy62⟩) (by assumption) ?rest62
                    case hy62 => (intro wS hSw; (try dsimp only at hSw); go_simp; (try with_reducible rfl))
                    (try simp only [Act.put, List.setIfInBounds_toArray, List.set_cons_zero, List.set_cons_succ])
                    refine wpAnyH_take (i := 15) (oi := ⟨some 66, _, _, _, _, some (8, false)⟩) (v := ?v63) rfl (by kernel_rfl) (by kernel_rfl) (by kernel_rfl) (fun _ _ _ h => h) (Or.inl ⟨by rfl, ?hy63⟩) (by assumption) ?rest63
                    case hy63 => (intro wS hSw; (try dsimp only at hSw); go_simp; (try with_reducible rfl))
                    (try simp only [Act.put, List.setIfInBounds_toArray, List.set_cons_zero, List.set_cons_succ])
                    refine wpAnyH_take (i := 16) (oi := ⟨some 67, _, _, _, _, some (8, false)⟩) (v := ?v64) rfl (by kernel_rfl) (by kernel_rfl) (by kernel_rfl) (fun _ _ _ h => h) (Or.inl ⟨by rfl, ?hy64⟩) (by assumption) ?rest64
                    case hy64 => (intro wS hSw; (try dsimp only at hSw); go_simp; (try with_reducible rfl))
                    (try simp only [Act.put, List.setIfInBounds_toArray, List.set_cons_zero, List.set_cons_succ])
                    refine wpAnyH_ready (rs := [10]) (by kernel_rfl) (by simp) ?_
                    refine AllReadyH.cons (o := ⟨some 61, _, _, _, _, some (8, false)⟩) rfl (fun K hK => ?_) AllReadyH.nil
                    go_simp
                    go_at_call 38
                    refine ZO1.out.mono ?_
                    rintro e w3 ⟨he3, f3⟩
                    subst he3
                    have B3 := HB2d.out.fr f3 (fun e => e)
                    have F3w := HF2d.out.trans f3
                    have x13 : w3.cell? ⟨w.heap.size, 1, none⟩ = some (.slice (some a2) chs.length c2) := B3.cell 1
                    have n13 := HNl.out _ F3w
                    obtain ⟨_, _, m23, m33, m43, m53, m63, m73, m83, m93⟩ := HCh.out _ F3w
                    have hsall3 := And.intro x13 (And.intro m23 (And.intro m33 (And.intro m43 (And.intro m53 (And.intro m63 (And.intro m73 (And.intro m83 (And.intro m93 n13))))))))
                    have ZO2 := HZo.out w3 f3
                    go_wp2_with fail
                    refine hK.out _ _ hsall3 (fun hHeld => ?_)
                    clear hK K
                    (try simp only [Act.put, List.setIfInBounds_toArray, List.set_cons_zero, List.set_cons_succ])
                    refine wpAnyH_take (i := 17) (oi := ⟨some 68, _, _, _, _, some (8, false)⟩) (v := ?v65) rfl (by kernel_rfl) (by kernel_rfl) (by kernel_rfl) (fun _ _ _ h => h) (Or.inl ⟨by rfl, ?hy65⟩) (by assumption) ?rest65
                    case hy65 => (intro wS hSw; (try dsimp only at hSw); go_simp; (try with_reducible rfl))
                    (try simp only [Act.put, List.setIfInBounds_toArray, List.set_cons_zero, List.set_cons_succ])
                    refine wpAnyH_take (i := 18) (oi := ⟨some 69, _, _, _, _, none⟩) (v := ?v66) rfl (by kernel_rfl) (by kernel_rfl) (by kernel_rfl) (fun _ _ _ h => h) (Or.inl ⟨by rfl, ?hy66⟩) (by assumption) ?rest66
                    case hy66 => (intro wS hSw; (try dsimp only at hSw); go_simp; (try with_reducible rfl))
                    (try simp only [Act.put, List.setIfInBounds_toArray, List.set_cons_zero, List.set_cons_succ])
                    refine wpAnyH_take (i := 19) (oi := ⟨some 70, _, _, _, _, none⟩) (v := ?v67) rfl (by kernel_rfl) (by kernel_rfl) (by kernel_rfl) (fun _ _ _ h => h) (Or.inl ⟨by rfl, ?hy67⟩) (by assumption) ?rest67
                    case hy67 => (intro wS hSw; (try dsimp only at hSw); go_simp; (try with_reducible rfl))
                    (try simp only [Act.put, List.setIfInBounds_toArray, List.set_cons_zero, List.set_cons_succ])
                    refine wpAnyH_take (i := 20) (oi := ⟨some 71, _, _, _, _, some (19, false)⟩) (v := ?v68) rfl (by kernel_rfl) (by kernel_rfl) (by kernel_rfl) (fun _ _ _ h => h) (Or.inl ⟨by rfl, ?hy68⟩) (by assumption) ?rest68
                    case hy68 => (intro wS hSw; (try dsimp only at hSw); go_simp; (try with_reducible rfl))
                    (try simp only [Act.put, List.setIfInBounds_toArray, List.set_cons_zero, List.set_cons_succ])
                    refine wpAnyH_take (i := 21) (oi := ⟨some 72, _, _, _, _, some (19, false)⟩) (v := ?v69) rfl (by kernel_rfl) (by kernel_rfl) (by kernel_rfl) (fun _ _ _ h => h) (Or.inl ⟨by rfl, ?hy69⟩) (by assumption) ?rest69
                    case hy69 => (intro wS hSw; (try dsimp only at hSw); go_simp; (try with_reducible rfl))
                    (try simp only [Act.put, List.setIfInBounds_toArray, List.set_cons_zero, List.set_cons_succ])
                    refine wpAnyH_take (i := 22) (oi := ⟨some 73, _, _, _, _, some (19, false)⟩) (v := ?v70) rfl (by kernel_rfl) (by kernel_rfl) (by kernel_rfl) (fun _ _ _ h => h) (Or.inl ⟨by rfl, ?hy70⟩) (by assumption) ?rest70
                    case hy70 => (intro wS hSw; (try dsimp only at hSw); go_simp; (try with_reducible rfl))
                    (try simp only [Act.put, List.setIfInBounds_toArray, List.set_cons_zero, List.set_cons_succ])
                    refine wpAnyH_take (i := 23) (oi := ⟨some 74, _, _, _, _, some (19, false)⟩) (v := ?v71) rfl (by kernel_rfl) (by kernel_rfl) (by kernel_rfl) (fun _ _ _ h => h) (Or.inl ⟨by rfl, ?hy71⟩) (by assumption) ?rest71
                    case hy71 => (intro wS hSw; (try dsimp only at hSw); go_simp; (try with_reducible rfl))
                    (try simp only [Act.put, List.setIfInBounds_toArray, List.set_cons_zero, List.set_cons_succ])
                    refine wpAnyH_take (i := 24) (oi := ⟨some 75, _, _, _, _, some (19, false)⟩) (v := ?v72) rfl (by kernel_rfl) (by kernel_rfl) (by kernel_rfl) (fun _ _ _ h => h) (Or.inl ⟨by rfl, ?hy72⟩) (by assumption) ?rest72
                    case hy72 => (intro wS hSw; (try dsimp only at hSw); go_simp; (try with_reducible rfl))
                    (try simp only [Act.put, List.setIfInBounds_toArray, List.set_cons_zero, List.set_cons_succ])
                    refine wpAnyH_take (i := 25) (oi := ⟨some 76, _, _, _, _, some (19, false)⟩) (v := ?v73) rfl (by kernel_rfl) (by kernel_rfl) (by kernel_rfl) (fun _ _ _ h => h) (Or.inl ⟨by rfl, ?hy73⟩) (by assumption) ?rest73
                    case hy73 => (intro wS hSw; (try dsimp only at hSw); go_simp; (try with_reducible rfl))
                    (try simp only [Act.put, List.setIfInBounds_toArray, List.set_cons_zero, List.set_cons_succ])
                    refine wpAnyH_take (i := 26) (oi := ⟨some 77, _, _, _, _, some (19, false)⟩) (v := ?v74) rfl (by kernel_rfl) (by kernel_rfl) (by kernel_rfl) (fun _ _ _ h => h) (Or.inl ⟨by rfl, ?hy74⟩) (by assumption) ?rest74
                    case hy74 => (intro wS hSw; (try dsimp only at hSw); go_simp; (try with_reducible rfl))
                    (try simp only [Act.put, List.setIfInBounds_toArray, List.set_cons_zero, List.set_cons_succ])
                    refine wpAnyH_take (i := 27) (oi := ⟨some 78, _, _, _, _, some (26, true)⟩) (v := ?v75) rfl (by kernel_rfl) (by kernel_rfl) (by kernel_rfl) (fun _ _ _ h => h) (Or.inl ⟨by rfl, ?hy75⟩) (by assumption) ?rest75
                    case hy75 => (intro wS hSw; (try dsimp only at hSw); go_simp; (try with_reducible rfl))
                    (try simp only [Act.put, List.setIfInBounds_toArray, List.set_cons_zero, List.set_cons_succ])
                    refine wpAnyH_ready (rs := [28]) (by kernel_rfl) (by simp) ?_
                    refine AllReadyH.cons (o := ⟨some 79, _, _, _, _, some (26, true)⟩) rfl (fun K hK => ?_) AllReadyH.nil
                    go_simp
                    go_at_call 38
                    refine ZO2.mono ?_
                    rintro e w4 ⟨he4, f4⟩
                    subst he4
                    have f34 := f3.trans f4
                    have B4 := HB2d.out.fr f34 (fun e => e)
                    have F4w := HF2d.out.trans f34
                    have x14 : w4.cell? ⟨w.heap.size, 1, none⟩ = some (.slice (some a2) chs.length c2) := B4.cell 1
                    have n14 := HNl.out _ F4w
                    obtain ⟨_, _, m24, m34, m44, m54, m64, m74, m84, m94⟩ := HCh.out _ F4w
                    have hsall4 := And.intro x14 (And.intro m24 (And.intro m34 (And.intro m44 (And.intro m54 (And.intro m64 (And.intro m74 (And.intro m84 (And.intro m94 n14))))))))
                    go_wp2_with fail
                    refine hK.out _ _ hsall4 (fun hHeld => ?_)
                    clear hK K
                    (try simp only [Act.put, List.setIfInBounds_toArray, List.set_cons_zero, List.set_cons_succ])
                    refine wpAnyH_take (i := 29) (oi := ⟨some 80, _, _, _, _, some (26, true)⟩) (v := ?v76) rfl (by kernel_rfl) (by kernel_rfl) (by kernel_rfl) (fun _ _ _ h => h) (Or.inl ⟨by rfl, ?hy76⟩) (by assumption) ?rest76
                    case hy76 => (intro wS hSw; (try dsimp only at hSw); go_simp; (try with_reducible rfl))
                    (try simp only [Act.put, List.setIfInBounds_toArray, List.set_cons_zero, List.set_cons_succ])
                    refine wpAnyH_take (i := 30) (oi := ⟨some 81, _, _, _, _, some (26, true)⟩) (v := ?v77) rfl (by kernel_rfl) (by kernel_rfl) (by kernel_rfl) (fun _ _ _ h => h) (Or.inl ⟨by rfl, ?hy77⟩) (by assumption) ?rest77
                    case hy77 => (intro wS hSw; (try dsimp only at hSw); go_simp; (try with_reducible rfl))
                    (try simp only [Act.put, List.setIfInBounds_toArray, List.set_cons_zero, List.set_cons_succ])
                    refine wpAnyH_take (i := 31) (oi := ⟨some 82, _, _, _, _, some (19, false)⟩) (v := ?v78) rfl (by kernel_rfl) (by kernel_rfl) (by kernel_rfl) (fun _ _ _ h => h) (Or.inl ⟨by rfl, ?hy78⟩) (by assumption) ?rest78
                    case hy78 => (intro wS hSw; (try dsimp only at hSw); go_simp; (try with_reducible rfl))
                    (try simp only [Act.put, List.setIfInBounds_toArray, List.set_cons_zero, List.set_cons_succ])
                    refine wpAnyH_take (i := 32) (oi := ⟨some 83, _, _, _, _, none⟩) (v := ?v79) rfl (by kernel_rfl) (by kernel_rfl) (by kernel_rfl) (fun _ _ _ h => h) (Or.inl ⟨by rfl, ?hy79⟩) (by assumption) ?rest79
                    case hy79 => (intro wS hSw; (try dsimp only at hSw); go_simp; (try with_reducible rfl))
                    (try simp only [Act.put, List.setIfInBounds_toArray, List.set_cons_zero, List.set_cons_succ])
                    refine wpAnyH_done (by kernel_rfl) ?_ _
                    have hF4 := HF2d.out.trans f34
                    go_wp2
                    go_ret2
                    exact ⟨ans_no HE.out, hF4⟩
                  · have dn : decide (0 < zz.nulls) = false := decide_eq_false hnu
                    have HE : Hid (colE cols R chs k b = (0, l)) := Lib.hid (by rw [HR.out]; exact HY.out ⟨HNN.out, rfl, fun h => hnu h.1⟩)
                    clear HY HX hnu
                    go_wp2
                    refine wp_region_held_drew (S := (fun W => W.cell? ⟨w.heap.size, 1, none⟩ = some (.slice (some a2) chs.length c2) ∧ W.cell? { block := (a2.add (k * 10)).block, off := (a2.add (k * 10)).off + 2 } = some (.int .i64 zz.rows) ∧ W.cell? { block := (a2.add (k * 10)).block, off := (a2.add (k * 10)).off + 3 } = some (.int .i64 zz.nulls) ∧ W.cell? { block := (a2.add (k * 10)).block, off := (a2.add (k * 10)).off + 4 } = some (.bool zz.low.null) ∧ W.cell? { block := (a2.add (k * 10)).block, off := (a2.add (k * 10)).off + 5 } = some (.int .i64 zz.low.num) ∧ W.cell? { block := (a2.add (k * 10)).block, off := (a2.add (k * 10)).off + 6 } = some (.string ⟨zz.low.txt.toArray⟩) ∧ W.cell? { block := (a2.add (k * 10)).block, off := (a2.add (k * 10)).off + 7 } = some (.bool zz.high.null) ∧ W.cell? { block := (a2.add (k * 10)).block, off := (a2.add (k * 10)).off + 8 } = some (.int .i64 zz.high.num) ∧ W.cell? { block := (a2.add (k * 10)).block, off := (a2.add (k * 10)).off + 9 } = some (.string ⟨zz.high.txt.toArray⟩) ∧ W.cell? { block := (a1.add (k * 3)).block, off := (a1.add (k * 3)).off + 2 } = some (.bool false))) (by kernel_rfl) hsall (fun hHeld => ?_)
                    refine wpAnyH_take (i := 0) (oi := ⟨some 51, _, _, _, _, none⟩) (v := ?v80) rfl (by kernel_rfl) (by kernel_rfl) (by kernel_rfl) (fun _ _ _ h => h) (Or.inl ⟨by rfl, ?hy80⟩) (by assumption) ?rest80
                    case hy80 => (intro wS hSw; (try dsimp only at hSw); go_simp; (try with_reducible rfl))
                    (try simp only [Act.put, List.setIfInBounds_toArray, List.set_cons_zero, List.set_cons_succ])
                    refine wpAnyH_take (i := 1) (oi := ⟨some 52, _, _, _, _, none⟩) (v := ?v81) rfl (by kernel_rfl) (by kernel_rfl) (by kernel_rfl) (fun _ _ _ h => h) (Or.inl ⟨by rfl, ?hy81⟩) (by assumption) ?rest81
                    case hy81 => (intro wS hSw; (try dsimp only at hSw); go_simp; (try with_reducible rfl))
                    (try simp only [Act.put, List.setIfInBounds_toArray, List.set_cons_zero, List.set_cons_succ])
                    refine wpAnyH_take (i := 2) (oi := ⟨some 53, _, _, _, _, none⟩) (v := ?v82) rfl (by kernel_rfl) (by kernel_rfl) (by kernel_rfl) (fun _ _ _ h => h) (Or.inl ⟨by rfl, ?hy82⟩) (by assumption) ?rest82
                    case hy82 => (intro wS hSw; (try dsimp only at hSw); go_simp; (try with_reducible rfl))
                    (try simp only [Act.put, List.setIfInBounds_toArray, List.set_cons_zero, List.set_cons_succ])
                    refine wpAnyH_take (i := 3) (oi := ⟨some 54, _, _, _, _, some (2, false)⟩) (v := ?v83) rfl (by kernel_rfl) (by kernel_rfl) (by kernel_rfl) (fun _ _ _ h => h) (Or.inl ⟨by rfl, ?hy83⟩) (by assumption) ?rest83
                    case hy83 => (intro wS hSw; (try dsimp only at hSw); go_simp; (try with_reducible rfl))
                    (try simp only [Act.put, List.setIfInBounds_toArray, List.set_cons_zero, List.set_cons_succ])
                    refine wpAnyH_take (i := 4) (oi := ⟨some 55, _, _, _, _, some (2, false)⟩) (v := ?v84) rfl (by kernel_rfl) (by kernel_rfl) (by kernel_rfl) (fun _ _ _ h => h) (Or.inl ⟨by rfl, ?hy84⟩) (by assumption) ?rest84
                    case hy84 => (intro wS hSw; (try dsimp only at hSw); go_simp; (try with_reducible rfl))
                    (try simp only [Act.put, List.setIfInBounds_toArray, List.set_cons_zero, List.set_cons_succ])
                    refine wpAnyH_take (i := 5) (oi := ⟨some 56, _, _, _, _, some (2, false)⟩) (v := ?v85) rfl (by kernel_rfl) (by kernel_rfl) (by kernel_rfl) (fun _ _ _ h => h) (Or.inl ⟨by rfl, ?hy85⟩) (by assumption) ?rest85
                    case hy85 => (intro wS hSw; (try dsimp only at hSw); go_simp; (try with_reducible rfl))
                    (try simp only [Act.put, List.setIfInBounds_toArray, List.set_cons_zero, List.set_cons_succ])
                    refine wpAnyH_take (i := 6) (oi := ⟨some 57, _, _, _, _, some (2, false)⟩) (v := ?v86) rfl (by kernel_rfl) (by kernel_rfl) (by kernel_rfl) (fun _ _ _ h => h) (Or.inl ⟨by rfl, ?hy86⟩) (by assumption) ?rest86
                    case hy86 => (intro wS hSw; (try dsimp only at hSw); go_simp; (try with_reducible rfl))
                    (try simp only [Act.put, List.setIfInBounds_toArray, List.set_cons_zero, List.set_cons_succ])
                    refine wpAnyH_take (i := 7) (oi := ⟨some 58, _, _, _, _, none⟩) (v := ?v87) rfl (by kernel_rfl) (by kernel_rfl) (by kernel_rfl) (fun _ _ _ h => h) (Or.inl ⟨by rfl, ?hy87⟩) (by assumption) ?rest87
                    case hy87 => (intro wS hSw; (try dsimp only at hSw); go_simp; (try with_reducible rfl))
                    (try simp only [Act.put, List.setIfInBounds_toArray, List.set_cons_zero, List.set_cons_succ])
                    refine wpAnyH_take (i := 8) (oi := ⟨some 59, _, _, _, _, none⟩) (v := ?v88) rfl (by kernel_rfl) (by kernel_rfl) (by kernel_rfl) (fun _ _ _ h => h) (Or.inl ⟨by rfl, ?hy88⟩) (by assumption) ?rest88
                    case hy88 => (intro wS hSw; (try dsimp only at hSw); go_simp; (try with_reducible rfl))
                    (try simp only [Act.put, List.setIfInBounds_toArray, List.set_cons_zero, List.set_cons_succ])
                    refine wpAnyH_take (i := 9) (oi := ⟨some 60, _, _, _, _, some (8, false)⟩) (v := ?v89) rfl (by kernel_rfl) (by kernel_rfl) (by kernel_rfl) (fun _ _ _ h => h) (Or.inl ⟨by rfl, ?hy89⟩) (by assumption) ?rest89
                    case hy89 => (intro wS hSw; (try dsimp only at hSw); go_simp; (try with_reducible rfl))
                    (try simp only [Act.put, List.setIfInBounds_toArray, List.set_cons_zero, List.set_cons_succ])
                    refine wpAnyH_take (i := 11) (oi := ⟨some 62, _, _, _, _, some (8, false)⟩) (v := ?v90) rfl (by kernel_rfl) (by kernel_rfl) (by kernel_rfl) (fun _ _ _ h => h) (Or.inl ⟨by rfl, ?hy90⟩) (by assumption) ?rest90
                    case hy90 => (intro wS hSw; (try dsimp only at hSw); go_simp; (try with_reducible rfl))
                    (try simp only [Act.put, List.setIfInBounds_toArray, List.set_cons_zero, List.set_cons_succ])
                    refine wpAnyH_take (i := 12) (oi := ⟨some 63, _, _, _, _, some (8, false)⟩) (v := ?v91) rfl (by kernel_rfl) (by kernel_rfl) (by kernel_rfl) (fun _ _ _ h => h) (Or.inl ⟨by rfl, ?hy91⟩) (by assumption) ?rest91
                    case hy91 => (intro wS hSw; (try dsimp only at hSw); go_simp; (try with_reducible rfl))
                    (try simp only [Act.put, List.setIfInBounds_toArray, List.set_cons_zero, List.set_cons_succ])
                    refine wpAnyH_take (i := 13) (oi := ⟨some 64, _, _, _, _, some (8, false)⟩) (v := ?v92) rfl (by kernel_rfl) (by kernel_rfl) (by kernel_rfl) (fun _ _ _ h => h) (Or.inl ⟨by rfl, ?hy92⟩) (by assumption) ?rest92
                    case hy92 => (intro wS hSw; (try dsimp only at hSw); go_simp; (try with_reducible rfl))
                    (try simp only [Act.put, List.setIfInBounds_toArray, List.set_cons_zero, List.set_cons_succ])
                    refine wpAnyH_take (i := 14) (oi := ⟨some 65, _, _, _, _, some (8, false)⟩) (v := ?v93) rfl (by kernel_rfl) (by kernel_rfl) (by kernel_rfl) (fun _ _ _ h => h) (Or.inl ⟨by rfl, ?hy93⟩) (by assumption) ?rest93
                    case hy93 => (intro wS hSw; (try dsimp only at hSw); go_simp; (try with_reducible rfl))
                    (try simp only [Act.put, List.setIfInBounds_toArray, List.set_cons_zero, List.set_cons_succ])
                    refine wpAnyH_take (i := 15) (oi := ⟨some 66, _, _, _, _, some (8, false)⟩) (v := ?v94) rfl (by kernel_rfl) (by kernel_rfl) (by kernel_rfl) (fun _ _ _ h => h) (Or.inl ⟨by rfl, ?hy94⟩) (by assumption) ?rest94
                    case hy94 => (intro wS hSw; (try dsimp only at hSw); go_simp; (try with_reducible rfl))
                    (try simp only [Act.put, List.setIfInBounds_toArray, List.set_cons_zero, List.set_cons_succ])
                    refine wpAnyH_take (i := 16) (oi := ⟨some 67, _, _, _, _, some (8, false)⟩) (v := ?v95) rfl (by kernel_rfl) (by kernel_rfl) (by kernel_rfl) (fun _ _ _ h => h) (Or.inl ⟨by rfl, ?hy95⟩) (by assumption) ?rest95
                    case hy95 => (intro wS hSw; (try dsimp only at hSw); go_simp; (try with_reducible rfl))
                    (try simp only [Act.put, List.setIfInBounds_toArray, List.set_cons_zero, List.set_cons_succ])
                    refine wpAnyH_ready (rs := [10]) (by kernel_rfl) (by simp) ?_
                    refine AllReadyH.cons (o := ⟨some 61, _, _, _, _, some (8, false)⟩) rfl (fun K hK => ?_) AllReadyH.nil
                    go_simp
                    go_at_call 38
                    refine ZO1.out.mono ?_
                    rintro e w3 ⟨he3, f3⟩
                    subst he3
                    have B3 := HB2d.out.fr f3 (fun e => e)
                    have F3w := HF2d.out.trans f3
                    have x13 : w3.cell? ⟨w.heap.size, 1, none⟩ = some (.slice (some a2) chs.length c2) := B3.cell 1
                    have n13 := HNl.out _ F3w
                    obtain ⟨_, _, m23, m33, m43, m53, m63, m73, m83, m93⟩ := HCh.out _ F3w
                    have hsall3 := And.intro x13 (And.intro m23 (And.intro m33 (And.intro m43 (And.intro m53 (And.intro m63 (And.intro m73 (And.intro m83 (And.intro m93 n13))))))))
                    have ZO2 := HZo.out w3 f3
                    go_wp2_with fail
                    refine hK.out _ _ hsall3 (fun hHeld => ?_)
                    clear hK K
                    (try simp only [Act.put, List.setIfInBounds_toArray, List.set_cons_zero, List.set_cons_succ])
                    refine wpAnyH_take (i := 17) (oi := ⟨some 68, _, _, _, _, some (8, false)⟩) (v := ?v96) rfl (by kernel_rfl) (by kernel_rfl) (by kernel_rfl) (fun _ _ _ h => h) (Or.inl ⟨by rfl, ?hy96⟩) (by assumption) ?rest96
                    case hy96 => (intro wS hSw; (try dsimp only at hSw); go_simp; (try with_reducible rfl))
                    (try simp only [Act.put, List.setIfInBounds_toArray, List.set_cons_zero, List.set_cons_succ])
                    refine wpAnyH_take (i := 18) (oi := ⟨some 69, _, _, _, _, none⟩) (v := ?v97) rfl (by kernel_rfl) (by kernel_rfl) (by kernel_rfl) (fun _ _ _ h => h) (Or.inl ⟨by rfl, ?hy97⟩) (by assumption) ?rest97
                    case hy97 => (intro wS hSw; (try dsimp only at hSw); go_simp; (try with_reducible rfl))
                    (try simp only [Act.put, List.setIfInBounds_toArray, List.set_cons_zero, List.set_cons_succ])
                    refine wpAnyH_take (i := 19) (oi := ⟨some 70, _, _, _, _, none⟩) (v := ?v98) rfl (by kernel_rfl) (by kernel_rfl) (by kernel_rfl) (fun _ _ _ h => h) (Or.inl ⟨by rfl, ?hy98⟩) (by assumption) ?rest98
                    case hy98 => (intro wS hSw; (try dsimp only at hSw); go_simp; (try with_reducible rfl))
                    (try simp only [Act.put, List.setIfInBounds_toArray, List.set_cons_zero, List.set_cons_succ])
                    refine wpAnyH_take (i := 20) (oi := ⟨some 71, _, _, _, _, some (19, false)⟩) (v := ?v99) rfl (by kernel_rfl) (by kernel_rfl) (by kernel_rfl) (fun _ _ _ h => h) (Or.inl ⟨by rfl, ?hy99⟩) (by assumption) ?rest99
                    case hy99 => (intro wS hSw; (try dsimp only at hSw); go_simp; (try with_reducible rfl))
                    (try simp only [Act.put, List.setIfInBounds_toArray, List.set_cons_zero, List.set_cons_succ])
                    refine wpAnyH_take (i := 21) (oi := ⟨some 72, _, _, _, _, some (19, false)⟩) (v := ?v100) rfl (by kernel_rfl) (by kernel_rfl) (by kernel_rfl) (fun _ _ _ h => h) (Or.inl ⟨by rfl, ?hy100⟩) (by assumption) ?rest100
                    case hy100 => (intro wS hSw; (try dsimp only at hSw); go_simp; (try with_reducible rfl))
                    (try simp only [Act.put, List.setIfInBounds_toArray, List.set_cons_zero, List.set_cons_succ])
                    refine wpAnyH_take (i := 22) (oi := ⟨some 73, _, _, _, _, some (19, false)⟩) (v := ?v101) rfl (by kernel_rfl) (by kernel_rfl) (by kernel_rfl) (fun _ _ _ h => h) (Or.inl ⟨by rfl, ?hy101⟩) (by assumption) ?rest101
                    case hy101 => (intro wS hSw; (try dsimp only at hSw); go_simp; (try with_reducible rfl))
                    (try simp only [Act.put, List.setIfInBounds_toArray, List.set_cons_zero, List.set_cons_succ])
                    refine wpAnyH_take (i := 23) (oi := ⟨some 74, _, _, _, _, some (19, false)⟩) (v := ?v102) rfl (by kernel_rfl) (by kernel_rfl) (by kernel_rfl) (fun _ _ _ h => h) (Or.inl ⟨by rfl, ?hy102⟩) (by assumption) ?rest102
                    case hy102 => (intro wS hSw; (try dsimp only at hSw); go_simp; (try with_reducible rfl))
                    (try simp only [Act.put, List.setIfInBounds_toArray, List.set_cons_zero, List.set_cons_succ])
                    refine wpAnyH_take (i := 24) (oi := ⟨some 75, _, _, _, _, some (19, false)⟩) (v := ?v103) rfl (by kernel_rfl) (by kernel_rfl) (by kernel_rfl) (fun _ _ _ h => h) (Or.inl ⟨by rfl, ?hy103⟩) (by assumption) ?rest103
                    case hy103 => (intro wS hSw; (try dsimp only at hSw); go_simp; (try with_reducible rfl))
                    (try simp only [Act.put, List.setIfInBounds_toArray, List.set_cons_zero, List.set_cons_succ])
                    refine wpAnyH_take (i := 25) (oi := ⟨some 76, _, _, _, _, some (19, false)⟩) (v := ?v104) rfl (by kernel_rfl) (by kernel_rfl) (by kernel_rfl) (fun _ _ _ h => h) (Or.inl ⟨by rfl, ?hy104⟩) (by assumption) ?rest104
                    case hy104 => (intro wS hSw; (try dsimp only at hSw); go_simp; (try with_reducible rfl))
                    (try simp only [Act.put, List.setIfInBounds_toArray, List.set_cons_zero, List.set_cons_succ])
                    refine wpAnyH_take (i := 26) (oi := ⟨some 77, _, _, _, _, some (19, false)⟩) (v := ?v105) rfl (by kernel_rfl) (by kernel_rfl) (by kernel_rfl) (fun _ _ _ h => h) (Or.inl ⟨by rfl, ?hy105⟩) (by assumption) ?rest105
                    case hy105 => (intro wS hSw; (try dsimp only at hSw); go_simp; (try with_reducible rfl))
                    (try simp only [Act.put, List.setIfInBounds_toArray, List.set_cons_zero, List.set_cons_succ])
                    refine wpAnyH_take (i := 27) (oi := ⟨some 78, _, _, _, _, some (26, true)⟩) (v := ?v106) rfl (by kernel_rfl) (by kernel_rfl) (by kernel_rfl) (fun _ _ _ h => h) (Or.inl ⟨by rfl, ?hy106⟩) (by assumption) ?rest106
                    case hy106 => (intro wS hSw; (try dsimp only at hSw); go_simp; (try with_reducible rfl))
                    (try simp only [Act.put, List.setIfInBounds_toArray, List.set_cons_zero, List.set_cons_succ])
                    refine wpAnyH_ready (rs := [28]) (by kernel_rfl) (by simp) ?_
                    refine AllReadyH.cons (o := ⟨some 79, _, _, _, _, some (26, true)⟩) rfl (fun K hK => ?_) AllReadyH.nil
                    go_simp
                    go_at_call 38
                    refine ZO2.mono ?_
                    rintro e w4 ⟨he4, f4⟩
                    subst he4
                    have f34 := f3.trans f4
                    have B4 := HB2d.out.fr f34 (fun e => e)
                    have F4w := HF2d.out.trans f34
                    have x14 : w4.cell? ⟨w.heap.size, 1, none⟩ = some (.slice (some a2) chs.length c2) := B4.cell 1
                    have n14 := HNl.out _ F4w
                    obtain ⟨_, _, m24, m34, m44, m54, m64, m74, m84, m94⟩ := HCh.out _ F4w
                    have hsall4 := And.intro x14 (And.intro m24 (And.intro m34 (And.intro m44 (And.intro m54 (And.intro m64 (And.intro m74 (And.intro m84 (And.intro m94 n14))))))))
                    go_wp2_with fail
                    refine hK.out _ _ hsall4 (fun hHeld => ?_)
                    clear hK K
                    (try simp only [Act.put, List.setIfInBounds_toArray, List.set_cons_zero, List.set_cons_succ])
                    refine wpAnyH_take (i := 29) (oi := ⟨some 80, _, _, _, _, some (26, true)⟩) (v := ?v107) rfl (by kernel_rfl) (by kernel_rfl) (by kernel_rfl) (fun _ _ _ h => h) (Or.inl ⟨by rfl, ?hy107⟩) (by assumption) ?rest107
                    case hy107 => (intro wS hSw; (try dsimp only at hSw); go_simp; (try with_reducible rfl))
                    (try simp only [Act.put, List.setIfInBounds_toArray, List.set_cons_zero, List.set_cons_succ])
                    refine wpAnyH_take (i := 30) (oi := ⟨some 81, _, _, _, _, some (26, true)⟩) (v := ?v108) rfl (by kernel_rfl) (by kernel_rfl) (by kernel_rfl) (fun _ _ _ h => h) (Or.inl ⟨by rfl, ?hy108⟩) (by assumption) ?rest108
                    case hy108 => (intro wS hSw; (try dsimp only at hSw); go_simp; (try with_reducible rfl))
                    (try simp only [Act.put, List.setIfInBounds_toArray, List.set_cons_zero, List.set_cons_succ])
                    refine wpAnyH_take (i := 31) (oi := ⟨some 82, _, _, _, _, some (19, false)⟩) (v := ?v109) rfl (by kernel_rfl) (by kernel_rfl) (by kernel_rfl) (fun _ _ _ h => h) (Or.inl ⟨by rfl, ?hy109⟩) (by assumption) ?rest109
                    case hy109 => (intro wS hSw; (try dsimp only at hSw); go_simp; (try with_reducible rfl))
                    (try simp only [Act.put, List.setIfInBounds_toArray, List.set_cons_zero, List.set_cons_succ])
                    refine wpAnyH_take (i := 32) (oi := ⟨some 83, _, _, _, _, none⟩) (v := ?v110) rfl (by kernel_rfl) (by kernel_rfl) (by kernel_rfl) (fun _ _ _ h => h) (Or.inl ⟨by rfl, ?hy110⟩) (by assumption) ?rest110
                    case hy110 => (intro wS hSw; (try dsimp only at hSw); go_simp; (try with_reducible rfl))
                    (try simp only [Act.put, List.setIfInBounds_toArray, List.set_cons_zero, List.set_cons_succ])
                    refine wpAnyH_done (by kernel_rfl) ?_ _
                    have hO4 := HO2.out.drew.non f34
                    have hF4 := HF2d.out.trans f34
                    go_wp2
                    go_ret2
                    exact ⟨ans_ok HE.out hO4, hF4⟩
              · have hzq : zeq zz zc = false := decide_eq_false hz
                rw [hzq] at hx
                have HE : Hid (colE cols R chs k b = (2, [])) := Lib.hid (by rw [HR.out]; exact HX.out (fun h => hz h.2.1))
                clear HY HX hz hzq
                go_wp2
                refine wp_region_held_drew (S := (fun W => W.cell? ⟨w.heap.size, 1, none⟩ = some (.slice (some a2) chs.length c2) ∧ W.cell? { block := (a2.add (k * 10)).block, off := (a2.add (k * 10)).off + 2 } = some (.int .i64 zc.rows) ∧ W.cell? { block := (a2.add (k * 10)).block, off := (a2.add (k * 10)).off + 3 } = some (.int .i64 zc.nulls) ∧ W.cell? { block := (a2.add (k * 10)).block, off := (a2.add (k * 10)).off + 4 } = some (.bool zc.low.null) ∧ W.cell? { block := (a2.add (k * 10)).block, off := (a2.add (k * 10)).off + 5 } = some (.int .i64 zc.low.num) ∧ W.cell? { block := (a2.add (k * 10)).block, off := (a2.add (k * 10)).off + 6 } = some (.string ⟨zc.low.txt.toArray⟩) ∧ W.cell? { block := (a2.add (k * 10)).block, off := (a2.add (k * 10)).off + 7 } = some (.bool zc.high.null) ∧ W.cell? { block := (a2.add (k * 10)).block, off := (a2.add (k * 10)).off + 8 } = some (.int .i64 zc.high.num) ∧ W.cell? { block := (a2.add (k * 10)).block, off := (a2.add (k * 10)).off + 9 } = some (.string ⟨zc.high.txt.toArray⟩) ∧ W.cell? { block := (a1.add (k * 3)).block, off := (a1.add (k * 3)).off + 2 } = some (.bool nl))) (by kernel_rfl) hsall (fun hHeld => ?_)
                refine wpAnyH_take (i := 0) (oi := ⟨some 51, _, _, _, _, none⟩) (v := ?v29) rfl (by kernel_rfl) (by kernel_rfl) (by kernel_rfl) (fun _ _ _ h => h) (Or.inl ⟨by rfl, ?hy29⟩) (by assumption) ?rest29
                case hy29 => (intro wS hSw; (try dsimp only at hSw); go_simp; (try with_reducible rfl))
                (try simp only [Act.put, List.setIfInBounds_toArray, List.set_cons_zero, List.set_cons_succ])
                refine wpAnyH_take (i := 1) (oi := ⟨some 52, _, _, _, _, none⟩) (v := ?v30) rfl (by kernel_rfl) (by kernel_rfl) (by kernel_rfl) (fun _ _ _ h => h) (Or.inl ⟨by rfl, ?hy30⟩) (by assumption) ?rest30
                case hy30 => (intro wS hSw; (try dsimp only at hSw); go_simp; (try with_reducible rfl))
                (try simp only [Act.put, List.setIfInBounds_toArray, List.set_cons_zero, List.set_cons_succ])
                refine wpAnyH_take (i := 2) (oi := ⟨some 53, _, _, _, _, none⟩) (v := ?v31) rfl (by kernel_rfl) (by kernel_rfl) (by kernel_rfl) (fun _ _ _ h => h) (Or.inl ⟨by rfl, ?hy31⟩) (by assumption) ?rest31
                case hy31 => (intro wS hSw; (try dsimp only at hSw); go_simp; (try with_reducible rfl))
                (try simp only [Act.put, List.setIfInBounds_toArray, List.set_cons_zero, List.set_cons_succ])
                refine wpAnyH_take (i := 3) (oi := ⟨some 54, _, _, _, _, some (2, false)⟩) (v := ?v32) rfl (by kernel_rfl) (by kernel_rfl) (by kernel_rfl) (fun _ _ _ h => h) (Or.inl ⟨by rfl, ?hy32⟩) (by assumption) ?rest32
                case hy32 => (intro wS hSw; (try dsimp only at hSw); go_simp; (try with_reducible rfl))
                (try simp only [Act.put, List.setIfInBounds_toArray, List.set_cons_zero, List.set_cons_succ])
                refine wpAnyH_take (i := 4) (oi := ⟨some 55, _, _, _, _, some (2, false)⟩) (v := ?v33) rfl (by kernel_rfl) (by kernel_rfl) (by kernel_rfl) (fun _ _ _ h => h) (Or.inl ⟨by rfl, ?hy33⟩) (by assumption) ?rest33
                case hy33 => (intro wS hSw; (try dsimp only at hSw); go_simp; (try with_reducible rfl))
                (try simp only [Act.put, List.setIfInBounds_toArray, List.set_cons_zero, List.set_cons_succ])
                refine wpAnyH_take (i := 5) (oi := ⟨some 56, _, _, _, _, some (2, false)⟩) (v := ?v34) rfl (by kernel_rfl) (by kernel_rfl) (by kernel_rfl) (fun _ _ _ h => h) (Or.inl ⟨by rfl, ?hy34⟩) (by assumption) ?rest34
                case hy34 => (intro wS hSw; (try dsimp only at hSw); go_simp; (try with_reducible rfl))
                (try simp only [Act.put, List.setIfInBounds_toArray, List.set_cons_zero, List.set_cons_succ])
                refine wpAnyH_take (i := 6) (oi := ⟨some 57, _, _, _, _, some (2, false)⟩) (v := ?v35) rfl (by kernel_rfl) (by kernel_rfl) (by kernel_rfl) (fun _ _ _ h => h) (Or.inl ⟨by rfl, ?hy35⟩) (by assumption) ?rest35
                case hy35 => (intro wS hSw; (try dsimp only at hSw); go_simp; (try with_reducible rfl))
                (try simp only [Act.put, List.setIfInBounds_toArray, List.set_cons_zero, List.set_cons_succ])
                refine wpAnyH_take (i := 7) (oi := ⟨some 58, _, _, _, _, none⟩) (v := ?v36) rfl (by kernel_rfl) (by kernel_rfl) (by kernel_rfl) (fun _ _ _ h => h) (Or.inl ⟨by rfl, ?hy36⟩) (by assumption) ?rest36
                case hy36 => (intro wS hSw; (try dsimp only at hSw); go_simp; (try with_reducible rfl))
                (try simp only [Act.put, List.setIfInBounds_toArray, List.set_cons_zero, List.set_cons_succ])
                refine wpAnyH_take (i := 8) (oi := ⟨some 59, _, _, _, _, none⟩) (v := ?v37) rfl (by kernel_rfl) (by kernel_rfl) (by kernel_rfl) (fun _ _ _ h => h) (Or.inl ⟨by rfl, ?hy37⟩) (by assumption) ?rest37
                case hy37 => (intro wS hSw; (try dsimp only at hSw); go_simp; (try with_reducible rfl))
                (try simp only [Act.put, List.setIfInBounds_toArray, List.set_cons_zero, List.set_cons_succ])
                refine wpAnyH_take (i := 9) (oi := ⟨some 60, _, _, _, _, some (8, false)⟩) (v := ?v38) rfl (by kernel_rfl) (by kernel_rfl) (by kernel_rfl) (fun _ _ _ h => h) (Or.inl ⟨by rfl, ?hy38⟩) (by assumption) ?rest38
                case hy38 => (intro wS hSw; (try dsimp only at hSw); go_simp; (try with_reducible rfl))
                (try simp only [Act.put, List.setIfInBounds_toArray, List.set_cons_zero, List.set_cons_succ])
                refine wpAnyH_take (i := 11) (oi := ⟨some 62, _, _, _, _, some (8, false)⟩) (v := ?v39) rfl (by kernel_rfl) (by kernel_rfl) (by kernel_rfl) (fun _ _ _ h => h) (Or.inl ⟨by rfl, ?hy39⟩) (by assumption) ?rest39
                case hy39 => (intro wS hSw; (try dsimp only at hSw); go_simp; (try with_reducible rfl))
                (try simp only [Act.put, List.setIfInBounds_toArray, List.set_cons_zero, List.set_cons_succ])
                refine wpAnyH_take (i := 12) (oi := ⟨some 63, _, _, _, _, some (8, false)⟩) (v := ?v40) rfl (by kernel_rfl) (by kernel_rfl) (by kernel_rfl) (fun _ _ _ h => h) (Or.inl ⟨by rfl, ?hy40⟩) (by assumption) ?rest40
                case hy40 => (intro wS hSw; (try dsimp only at hSw); go_simp; (try with_reducible rfl))
                (try simp only [Act.put, List.setIfInBounds_toArray, List.set_cons_zero, List.set_cons_succ])
                refine wpAnyH_take (i := 13) (oi := ⟨some 64, _, _, _, _, some (8, false)⟩) (v := ?v41) rfl (by kernel_rfl) (by kernel_rfl) (by kernel_rfl) (fun _ _ _ h => h) (Or.inl ⟨by rfl, ?hy41⟩) (by assumption) ?rest41
                case hy41 => (intro wS hSw; (try dsimp only at hSw); go_simp; (try with_reducible rfl))
                (try simp only [Act.put, List.setIfInBounds_toArray, List.set_cons_zero, List.set_cons_succ])
                refine wpAnyH_take (i := 14) (oi := ⟨some 65, _, _, _, _, some (8, false)⟩) (v := ?v42) rfl (by kernel_rfl) (by kernel_rfl) (by kernel_rfl) (fun _ _ _ h => h) (Or.inl ⟨by rfl, ?hy42⟩) (by assumption) ?rest42
                case hy42 => (intro wS hSw; (try dsimp only at hSw); go_simp; (try with_reducible rfl))
                (try simp only [Act.put, List.setIfInBounds_toArray, List.set_cons_zero, List.set_cons_succ])
                refine wpAnyH_take (i := 15) (oi := ⟨some 66, _, _, _, _, some (8, false)⟩) (v := ?v43) rfl (by kernel_rfl) (by kernel_rfl) (by kernel_rfl) (fun _ _ _ h => h) (Or.inl ⟨by rfl, ?hy43⟩) (by assumption) ?rest43
                case hy43 => (intro wS hSw; (try dsimp only at hSw); go_simp; (try with_reducible rfl))
                (try simp only [Act.put, List.setIfInBounds_toArray, List.set_cons_zero, List.set_cons_succ])
                refine wpAnyH_take (i := 16) (oi := ⟨some 67, _, _, _, _, some (8, false)⟩) (v := ?v44) rfl (by kernel_rfl) (by kernel_rfl) (by kernel_rfl) (fun _ _ _ h => h) (Or.inl ⟨by rfl, ?hy44⟩) (by assumption) ?rest44
                case hy44 => (intro wS hSw; (try dsimp only at hSw); go_simp; (try with_reducible rfl))
                (try simp only [Act.put, List.setIfInBounds_toArray, List.set_cons_zero, List.set_cons_succ])
                refine wpAnyH_ready (rs := [10]) (by kernel_rfl) (by simp) ?_
                refine AllReadyH.cons (o := ⟨some 61, _, _, _, _, some (8, false)⟩) rfl (fun K hK => ?_) AllReadyH.nil
                go_simp
                go_at_call 38
                refine ZO1.out.mono ?_
                rintro e w3 ⟨he3, f3⟩
                subst he3
                have B3 := HB2d.out.fr f3 (fun e => e)
                have F3w := HF2d.out.trans f3
                have x13 : w3.cell? ⟨w.heap.size, 1, none⟩ = some (.slice (some a2) chs.length c2) := B3.cell 1
                have n13 := HNl.out _ F3w
                obtain ⟨_, _, m23, m33, m43, m53, m63, m73, m83, m93⟩ := HCh.out _ F3w
                have hsall3 := And.intro x13 (And.intro m23 (And.intro m33 (And.intro m43 (And.intro m53 (And.intro m63 (And.intro m73 (And.intro m83 (And.intro m93 n13))))))))
                have ZO2 := HZo.out w3 f3
                go_wp2_with fail
                refine hK.out _ _ hsall3 (fun hHeld => ?_)
                clear hK K
                (try simp only [Act.put, List.setIfInBounds_toArray, List.set_cons_zero, List.set_cons_succ])
                refine wpAnyH_take (i := 17) (oi := ⟨some 68, _, _, _, _, some (8, false)⟩) (v := ?v45) rfl (by kernel_rfl) (by kernel_rfl) (by kernel_rfl) (fun _ _ _ h => h) (Or.inl ⟨by rfl, ?hy45⟩) (by assumption) ?rest45
                case hy45 => (intro wS hSw; (try dsimp only at hSw); go_simp; (try with_reducible rfl))
                (try simp only [Act.put, List.setIfInBounds_toArray, List.set_cons_zero, List.set_cons_succ])
                refine wpAnyH_take (i := 18) (oi := ⟨some 69, _, _, _, _, none⟩) (v := ?v46) rfl (by kernel_rfl) (by kernel_rfl) (by kernel_rfl) (fun _ _ _ h => h) (Or.inl ⟨by rfl, ?hy46⟩) (by assumption) ?rest46
                case hy46 => (intro wS hSw; (try dsimp only at hSw); go_simp; (try with_reducible rfl))
                (try simp only [Act.put, List.setIfInBounds_toArray, List.set_cons_zero, List.set_cons_succ])
                refine wpAnyH_take (i := 19) (oi := ⟨some 70, _, _, _, _, none⟩) (v := ?v47) rfl (by kernel_rfl) (by kernel_rfl) (by kernel_rfl) (fun _ _ _ h => h) (Or.inl ⟨by rfl, ?hy47⟩) (by assumption) ?rest47
                case hy47 => (intro wS hSw; (try dsimp only at hSw); go_simp; (try with_reducible rfl))
                (try simp only [Act.put, List.setIfInBounds_toArray, List.set_cons_zero, List.set_cons_succ])
                refine wpAnyH_take (i := 20) (oi := ⟨some 71, _, _, _, _, some (19, false)⟩) (v := undef) rfl (by kernel_rfl) (by kernel_rfl) (by kernel_rfl) (fun _ _ _ h => h) (Or.inr ⟨by rfl, rfl⟩) (by assumption) ?_
                (try simp only [Act.put, List.setIfInBounds_toArray, List.set_cons_zero, List.set_cons_succ])
                refine wpAnyH_take (i := 21) (oi := ⟨some 72, _, _, _, _, some (19, false)⟩) (v := undef) rfl (by kernel_rfl) (by kernel_rfl) (by kernel_rfl) (fun _ _ _ h => h) (Or.inr ⟨by rfl, rfl⟩) (by assumption) ?_
                (try simp only [Act.put, List.setIfInBounds_toArray, List.set_cons_zero, List.set_cons_succ])
                refine wpAnyH_take (i := 22) (oi := ⟨some 73, _, _, _, _, some (19, false)⟩) (v := undef) rfl (by kernel_rfl) (by kernel_rfl) (by kernel_rfl) (fun _ _ _ h => h) (Or.inr ⟨by rfl, rfl⟩) (by assumption) ?_
                (try simp only [Act.put, List.setIfInBounds_toArray, List.set_cons_zero, List.set_cons_succ])
                refine wpAnyH_take (i := 23) (oi := ⟨some 74, _, _, _, _, some (19, false)⟩) (v := undef) rfl (by kernel_rfl) (by kernel_rfl) (by kernel_rfl) (fun _ _ _ h => h) (Or.inr ⟨by rfl, rfl⟩) (by assumption) ?_
                (try simp only [Act.put, List.setIfInBounds_toArray, List.set_cons_zero, List.set_cons_succ])
                refine wpAnyH_take (i := 24) (oi := ⟨some 75, _, _, _, _, some (19, false)⟩) (v := undef) rfl (by kernel_rfl) (by kernel_rfl) (by kernel_rfl) (fun _ _ _ h => h) (Or.inr ⟨by rfl, rfl⟩) (by assumption) ?_
                (try simp only [Act.put, List.setIfInBounds_toArray, List.set_cons_zero, List.set_cons_succ])
                refine wpAnyH_take (i := 25) (oi := ⟨some 76, _, _, _, _, some (19, false)⟩) (v := undef) rfl (by kernel_rfl) (by kernel_rfl) (by kernel_rfl) (fun _ _ _ h => h) (Or.inr ⟨by rfl, rfl⟩) (by assumption) ?_
                (try simp only [Act.put, List.setIfInBounds_toArray, List.set_cons_zero, List.set_cons_succ])
                refine wpAnyH_take (i := 26) (oi := ⟨some 77, _, _, _, _, some (19, false)⟩) (v := undef) rfl (by kernel_rfl) (by kernel_rfl) (by kernel_rfl) (fun _ _ _ h => h) (Or.inr ⟨by rfl, rfl⟩) (by assumption) ?_
                (try simp only [Act.put, List.setIfInBounds_toArray, List.set_cons_zero, List.set_cons_succ])
                refine wpAnyH_take (i := 27) (oi := ⟨some 78, _, _, _, _, some (26, true)⟩) (v := undef) rfl (by kernel_rfl) (by kernel_rfl) (by kernel_rfl) (fun _ _ _ h => h) (Or.inr ⟨by rfl, rfl⟩) (by assumption) ?_
                (try simp only [Act.put, List.setIfInBounds_toArray, List.set_cons_zero, List.set_cons_succ])
                refine wpAnyH_take (i := 28) (oi := ⟨some 79, _, _, _, _, some (26, true)⟩) (v := undef) rfl (by kernel_rfl) (by kernel_rfl) (by kernel_rfl) (fun _ _ _ h => h) (Or.inr ⟨by rfl, rfl⟩) (by assumption) ?_
                (try simp only [Act.put, List.setIfInBounds_toArray, List.set_cons_zero, List.set_cons_succ])
                refine wpAnyH_take (i := 29) (oi := ⟨some 80, _, _, _, _, some (26, true)⟩) (v := undef) rfl (by kernel_rfl) (by kernel_rfl) (by kernel_rfl) (fun _ _ _ h => h) (Or.inr ⟨by rfl, rfl⟩) (by assumption) ?_
                (try simp only [Act.put, List.setIfInBounds_toArray, List.set_cons_zero, List.set_cons_succ])
                refine wpAnyH_take (i := 30) (oi := ⟨some 81, _, _, _, _, some (26, true)⟩) (v := undef) rfl (by kernel_rfl) (by kernel_rfl) (by kernel_rfl) (fun _ _ _ h => h) (Or.inr ⟨by rfl, rfl⟩) (by assumption) ?_
                (try simp only [Act.put, List.setIfInBounds_toArray, List.set_cons_zero, List.set_cons_succ])
                refine wpAnyH_take (i := 31) (oi := ⟨some 82, _, _, _, _, some (19, false)⟩) (v := undef) rfl (by kernel_rfl) (by kernel_rfl) (by kernel_rfl) (fun _ _ _ h => h) (Or.inr ⟨by rfl, rfl⟩) (by assumption) ?_
                (try simp only [Act.put, List.setIfInBounds_toArray, List.set_cons_zero, List.set_cons_succ])
                refine wpAnyH_take (i := 32) (oi := ⟨some 83, _, _, _, _, none⟩) (v := ?v48) rfl (by kernel_rfl) (by kernel_rfl) (by kernel_rfl) (fun _ _ _ h => h) (Or.inl ⟨by rfl, ?hy48⟩) (by assumption) ?rest48
                case hy48 => (intro wS hSw; (try dsimp only at hSw); go_simp; (try with_reducible rfl))
                (try simp only [Act.put, List.setIfInBounds_toArray, List.set_cons_zero, List.set_cons_succ])
                refine wpAnyH_done (by kernel_rfl) ?_ _
                have hF3 := HF2d.out.trans f3
                go_wp2
                go_ret2
                exact ⟨ans_no HE.out, hF3⟩
            · have hNb : (((gN b : Nat) : Int) != b.length) = true := by rw [bne_iff_ne]; omega
              have HE : Hid (colE cols R chs k b = (2, [])) := Lib.hid (by rw [HR.out]; exact colR_no HG.out HSome.out (fun h => hN h.1))
              clear hN
              go_wp2
              go_quiet (fail)
              go_wp2
              go_ret2
              exact ⟨ans_no HE.out, HF2.out.drewN _⟩
        · have hgb : (((gE b : Nat) : Int) != 0) = true := by rw [bne_iff_ne]; omega
          have HE : Hid (colE cols R chs k b = (((gE b : Nat) : Int), [])) := Lib.hid (by rw [HR.out]; exact colR_frame _ _ _ hg)
          have HF1 := Lib.hid F1
          clear hg hB1 F1 hbs1
          go_wp2
          go_ret2
          exact ⟨ans_no HE.out, HF1.out⟩
end Go.Proofs.YtheefloegbkflaaGreatDoor


namespace Go.Proofs.YtheefloegbkflaaGreatDoor
set_option linter.unusedVariables false
set_option linter.unusedSimpArgs false
set_option maxRecDepth 100000
open Go.RowKit

/-! ### Rows, apart from each other and from some blocks, to be appended to in their places -/
def Rz (w : World) (B : Nat) (v : Value) (rs : List (List Cl)) (X : Nat → Prop) : Prop := ∃ hs : List Sl, hs.length = rs.length ∧ Ow slV 59 w B v hs ∧ (∀ i (h : i < hs.length) (h2 : i < rs.length), Oc w B (slV hs[i]) rs[i]) ∧ Apart hs ∧ ∀ i (h : i < hs.length) k, (slV hs[i]).ownBlock = some k → ¬ X k
theorem Rz.el {w : World} {B g n cap : Nat} {rs : List (List Cl)} {X : Nat → Prop} (h : Rz w B (.slice (some ⟨g, 0, none⟩) n cap) rs X) (hX : ∀ k, X k → k < w.heap.size) (hn : n = rs.length) (j : Nat) (hj : j < rs.length) :
    ∃ A' c', w.cell? ⟨g, j, none⟩ = some (.slice A' rs[j].length c') ∧ Oc w B (.slice A' rs[j].length c') rs[j] ∧ (∀ k, (Value.slice A' rs[j].length c').ownBlock = some k → ¬ X k ∧ k ≠ g) ∧
      ∀ (w1 w2 : World) (u : Value) (l : List Cl), Fr Non w w1 → Fr (fun k => (Value.slice A' rs[j].length c').ownBlock = some k) w1 w2 → Oc w2 B u l → (u.ownBlock = (Value.slice A' rs[j].length c').ownBlock ∨ ∀ k, u.ownBlock = some k → w1.heap.size ≤ k) →
        w2.frozen? ⟨g, j, none⟩ = false ∧ g < w2.heap.size ∧ Rz (w2.setCell ⟨g, j, none⟩ u) B (.slice (some ⟨g, 0, none⟩) n cap) (rs.set j l) X := by
  obtain ⟨hs, h1, h2, h3, h4, hx⟩ := h
  have hj' : j < hs.length := by omega
  have h5 := h3 j hj' hj
  obtain ⟨A', c', e⟩ := h5.shape
  have h6 := h2.cell (by omega) j hs[j] (List.getElem?_eq_getElem hj')
  have hown : (slV hs[j]).ownBlock = (Value.slice A' rs[j].length c').ownBlock := by rw [e]
  obtain ⟨cur0, hg0⟩ := h2.kind g rfl
  have hng : ∀ k, (Value.slice A' rs[j].length c').ownBlock = some k → k ≠ g := by rw [← e]; exact oc_kind_ne h5 hg0 cell_ne_cells
  refine ⟨A', c', by rw [h6, e], by rw [← e]; exact h5, fun k hk => ⟨hx j hj' k (by rw [hown]; exact hk), hng k hk⟩, fun w1 w2 u l f1 f2 hu hblk => ?_⟩
  have o1 := h2.non f1
  have o2 : Ow slV 59 w2 B (.slice (some ⟨g, 0, none⟩) n cap) hs := o1.fr f2 (fun k hk e2 => hng k e2 (by simpa [Value.ownBlock] using hk.symm))
  obtain ⟨cur, hg⟩ := o2.kind g rfl
  obtain ⟨A, c, rfl⟩ := hu.shape
  have hf : Fr (One g) w2 (w2.setCell ⟨g, j, none⟩ (.slice A l.length c)) := (Fr.refl _ _).set1 j _
  refine ⟨o2.frozen (by omega) j, (o2.lt g rfl).2, hs.set j ⟨A, l.length, c⟩, by simp [h1], o2.store (by omega) j ⟨A, l.length, c⟩, fun i a b => ?_, fun i i' hi hi' hne k hk hk' => ?_, fun i a k hk hxk => ?_⟩
  · simp only [List.getElem_set]
    split
    · exact hu.fr hf (oc_kind_ne hu hg cell_ne_cells)
    · rename_i hne
      have a' : i < hs.length := by simpa using a
      have h7 := (h3 i a' (by simpa using b)).non f1
      have h8 := h7.fr f2 (fun k hk e2 => h4 i j a' hj' (fun e => hne e.symm) k hk (by rw [hown]; exact e2))
      exact h8.fr hf (oc_kind_ne h8 hg cell_ne_cells)
  · simp only [List.length_set] at hi hi'
    simp only [List.getElem_set] at hk hk'
    have old : ∀ i (hi : i < hs.length), i ≠ j → ∀ k, (slV hs[i]).ownBlock = some k → (slV (⟨A, l.length, c⟩ : Sl)).ownBlock ≠ some k := by
      intro i hi hne k hk hk'
      have hk2 : (Value.slice A l.length c).ownBlock = some k := hk'
      rcases hblk with hb | hb
      · rw [hb] at hk2
        exact h4 i j hi hj' hne k hk (by rw [hown]; exact hk2)
      · have h9 := hb k hk2
        have h10 := ((h3 i hi (by omega)).lt k hk).2
        have := f1.size
        omega
    by_cases e1 : j = i
    · rw [if_pos e1] at hk
      rw [if_neg (fun e2 => hne (by omega))] at hk'
      exact old i' hi' (by omega) k hk' hk
    · rw [if_neg e1] at hk
      by_cases e2 : j = i'
      · rw [if_pos e2] at hk'
        exact old i hi (by omega) k hk hk'
      · rw [if_neg e2] at hk'
        exact h4 i i' hi hi' hne k hk hk'
  · simp only [List.length_set] at a
    simp only [List.getElem_set] at hk
    split at hk
    · have hk2 : (Value.slice A l.length c).ownBlock = some k := hk
      rcases hblk with hb | hb
      · rw [hb] at hk2
        exact hx j hj' k (by rw [hown]; exact hk2) hxk
      · have h9 := hb k hk2
        have h10 := hX k hxk
        have := f1.size
        omega
    · exact hx i a k hk hxk

theorem Rz.other {w : World} {B B' g n cap : Nat} {rs : List (List Cl)} {X : Nat → Prop} {u : Value} {l : List Cl} (h : Rz w B (.slice (some ⟨g, 0, none⟩) n cap) rs X) (hc : Oc w B' u l) : ∀ k, u.ownBlock = some k → k ≠ g := by
  obtain ⟨hs, h1, h2, _⟩ := h
  obtain ⟨cur, hg⟩ := h2.kind g rfl
  exact oc_kind_ne hc hg cell_ne_cells

/-! ### What has been gathered: of the first k rows one cell more -/
end Go.Proofs.YtheefloegbkflaaGreatDoor


namespace Go.Proofs.YtheefloegbkflaaGreatDoor
set_option linter.unusedVariables false
set_option linter.unusedSimpArgs false
set_option maxRecDepth 100000
open Go.RowKit

theorem s22_of {w : World} {g g' : Nat} {T T' : TypeId} {x u x' u' : Value} (hB : Blk w g T #[x, u]) (hB' : Blk w g' T' #[x', u']) : w.cell? ⟨g, 0, none⟩ = some x ∧ w.cell? ⟨g, 1, none⟩ = some u ∧ w.cell? ⟨g', 0, none⟩ = some x' ∧ w.cell? ⟨g', 1, none⟩ = some u' := ⟨hB.cell 0, hB.cell 1, hB'.cell 0, hB'.cell 1⟩

theorem ret_foot1 {fn : Func} {p : Tmp} (h : fn.results = #[.cell p 43]) (tmps : Array Value) (w : World) (g : Nat) (cs : Array Value) (h2 : cs.size = 2)
    (hp : tmps.getD p undef = .pointer (some ⟨g, 0, none⟩)) (hg : Blk w g 43 cs) : (results fn tmps).run Tryz.prog w = .ok (.agg cs) w :=
  results_cell_row h tmps w g 43 _ (0, 0) _ hp hg Tryz.underlying43 rfl (by rw [h2]; kernel_rfl)
theorem foot13_any (R : Int) (A : Option Addr) (n c : Nat) (w : World) : Calls Tryz.prog 18 #[.agg #[.int .i64 R, .slice A n c]] w fun e w' => e = .returned (.agg #[.int .i64 R, .slice A n c]) ∧ Fr Non w w' := by
  go_enter Tryz.func18, Tryz.ntmps18
  go_wp2
  have hB : Blk ((w.alloc (.cells #[.int .i64 R, .slice A n c] 40)).alloc (.cells #[.int .i64 R, .slice A n c] 43)) (w.heap.size + 1) 43 #[.int .i64 R, .slice A n c] := by
    have h := Blk.new (w.alloc (.cells #[.int .i64 R, .slice A n c] 40)) 43 #[.int .i64 R, .slice A n c]
    simpa using h
  exact bodyPost_ret (v := .agg #[.int .i64 R, .slice A n c]) (ret_foot1 (p := 2) rfl _ _ (w.heap.size + 1) _ rfl rfl hB) rfl ⟨rfl, ((Fr.refl Non w).alloc _).alloc _⟩

end Go.Proofs.YtheefloegbkflaaGreatDoor


namespace Go.Proofs.YtheefloegbkflaaGreatDoor
set_option linter.unusedVariables false
set_option linter.unusedSimpArgs false
set_option maxRecDepth 100000
open Go.RowKit

theorem col_own {cols : List Co} {n : Nat} {P : List Kl} (hP : P.map Prod.fst = cols.map Co.ty) (h : ∀ p ∈ P, KlOk n p) (hn : n ≤ 200) (hnl : ∀ i (h1 : i < P.length) (h2 : i < cols.length), ∀ x ∈ P[i].2, x.null = true → cols[i].nl = true) (tail : List UInt8)
    (k : Nat) (hk : k < cols.length) (hkP : k < P.length) (hkc : k < (chsF P 0).length) : colE cols n (chsF P 0) k (((P.flatMap chunkF ++ tail).drop (chsF P 0)[k].off).take (chsF P 0)[k].len) = (0, P[k].2) := by
  have hat := chsF_at P 0 k hkP hkc
  have hty : P[k].1 = cols[k].ty := by
    have := congrArg (fun l => l[k]?) hP
    simpa [hkP, hk] using this
  have hpc : ((P.flatMap chunkF ++ tail).drop (chsF P 0)[k].off).take (chsF P 0)[k].len = chunkF P[k] := by
    rw [hat]
    dsimp only
    rw [Nat.zero_add]
    exact piece_own P tail k hkP
  rw [hpc, colE_at _ hk hkc, hat]
  exact colR_own (h _ (List.getElem_mem hkP)) hn hty (hnl k hkP hk)
/-- what a law's walk wants of a segment that was built -/
structure SegIs (cols : List Co) (rows : List (List Cl)) (sg : List UInt8) (fl : Nat) (chs : List Ch) : Prop where
  fle : fl ≤ sg.length
  len : sg.length ≤ 63000
  rd : readF cols (sg.drop (sg.length - fl)) sg.length = (0, rows.length, chs)
  cl : chs.length = cols.length
  col : ∀ k (h : k < cols.length) (h2 : k < chs.length), chs[k].off + chs[k].len ≤ sg.length ∧ colE cols rows.length chs k ((sg.drop chs[k].off).take chs[k].len) = (0, colC rows k)
  row : ∀ r ∈ rows, r.length = cols.length
  c6 : cols.length ≤ 6
  r200 : rows.length ≤ 200
theorem seg_is {cols : List Co} {rows : List (List Cl)} (h : segE cols rows = 0) (hi : ∀ r ∈ rows, ∀ c ∈ r, I64 c.num) : SegIs cols rows (segF rows.length (kls cols rows)) (footF rows.length (kls cols rows)).length (chsF (kls cols rows) 0) := by
  obtain ⟨hc, hn1, hn, hr⟩ := segE_zero h
  have hP := kls_types cols rows
  have hok := kls_ok hc hr hi
  have hrd := readF_own hc hP hok hn hn1
  have hle : (footF rows.length (kls cols rows)).length ≤ (segF rows.length (kls cols rows)).length := by unfold segF; rw [List.length_append]; omega
  have hdr : (segF rows.length (kls cols rows)).drop ((segF rows.length (kls cols rows)).length - (footF rows.length (kls cols rows)).length) = footF rows.length (kls cols rows) := by
    unfold segF
    rw [List.length_append, Nat.add_sub_cancel, List.drop_left]
  have hcl : (chsF (kls cols rows) 0).length = cols.length := by rw [chsF_length, kls_length]
  refine ⟨hle, (seg_all h hi).1, by rw [hdr]; exact hrd, hcl, fun k hk hk2 => ⟨?_, ?_⟩, fun r hrm => (of_decide_eq_true (List.all_eq_true.1 hr r hrm)).1.symm, (chk_is hc).2.2.2, hn⟩
  · have h0 : (readF cols (footF rows.length (kls cols rows)) (segF rows.length (kls cols rows)).length).1 = 0 := by rw [hrd]
    obtain ⟨_, _, _, _, e0, hch, hsz⟩ := readF_is h0
    rw [hrd] at hch
    dsimp only at hch
    have := (chain_le _ _ _ hch).2 k hk2
    omega
  · have hkP : k < (kls cols rows).length := by rw [kls_length]; exact hk
    have := col_own hP hok hn (fun i h1 h2 => by rw [kls_at cols rows i h2 h1]; exact kls_null hr i h2) (footF rows.length (kls cols rows)) k hk hkP hk2
    rw [kls_at cols rows k hk hkP] at this
    exact this

set_option maxHeartbeats 8000000 in
theorem segColumns_walk (v1 v2 ub : Value) (cols : List Co) (rows : List (List Cl)) (n : Int) (bb : List UInt8) (w : World) (h1 : Ks w v1 cols) (h2 : Rs w v2 rows) (hub : Bs w ub bb) (ht : Tab w) (hvl : ∀ q, v1.ownBlock = some q → q < w.heap.size) (hul : ∀ q, ub.ownBlock = some q → q < w.heap.size) (hi : ∀ r ∈ rows, ∀ c ∈ r, I64 c.num) :
    Calls Tryz.prog 5 #[v1, v2, .agg #[.int .i64 n, ub]] w fun e w' => e = .returned (.bool true) ∧ Below w.heap.size w w' := by
  obtain ⟨A1, c1, rfl⟩ := h1.shape
  obtain ⟨A2, c2, rfl⟩ := h2.shape
  obtain ⟨A3, c3, rfl⟩ := hub.shape
  have H1 := Lib.hid h1
  have H2 := Lib.hid h2
  have H3 := Lib.hid hub
  have HT := Lib.hid ht
  have HVL := Lib.hid hvl
  have HUL := Lib.hid hul
  have HI := Lib.hid hi
  have f0 := (Fr.refl Non w).alloc (.cells #[.int .i64 n, .slice A3 bb.length c3] 52)
  have b0 : Blk (w.alloc (.cells #[.int .i64 n, .slice A3 bb.length c3] 52)) w.heap.size 52 #[.int .i64 n, .slice A3 bb.length c3] := Blk.new _ _ _
  have HSm := Lib.hid (small13_any _ _ cols rows _ (h1.non f0) (h2.non f0))
  have HLv := Lib.hid (fun W (hf : Fr Non w W) => slive13_any W (ht.non hf))
  have HF0 := Lib.hid f0
  have HB0 : Hid (Blk _ _ _ _) := Lib.hid b0
  unfold SmR at HSm
  clear h1 h2 hub ht hvl hul hi f0 b0
  go_enter Tryz.func5, Tryz.ntmps5
  go_wp2_with fail
  refine HSm.out.mono ?_
  rintro e w1 ⟨⟨s1, rfl, hs1⟩, f1⟩
  have HF1 := Lib.hid (HF0.out.trans f1)
  have b1 := HB0.out.fr f1 (fun e => e)
  have HB1 : Hid (Blk _ _ _ _) := Lib.hid b1
  have k1 := b1.cell 1
  clear HB0 HF0 b1
  cases s1
  · clear hs1 HSm f1
    go_wp2_with fail
    refine (HLv.out _ HF1.out).mono ?_
    rintro e wl ⟨rfl, fl⟩
    go_wp2
    go_ret
    exact ⟨rfl, (HF1.out.trans fl).below⟩
  · obtain ⟨ha, hb, hr⟩ := hs1 rfl
    by_cases h300 : 300 < bb.length
    · have d0 : decide (300 < (bb.length : Int)) = true := decide_eq_true (by omega)
      clear hs1 HSm f1 hb h300
      go_wp2_with fail
      refine (HLv.out _ HF1.out).mono ?_
      rintro e wl ⟨rfl, fl⟩
      go_wp2
      go_ret
      exact ⟨rfl, (HF1.out.trans fl).below⟩
    · have d0 : decide (300 < (bb.length : Int)) = false := decide_eq_false (by omega)
      have hbb : bb.length ≤ 300 := by omega
      have ha9 : cols.length ≤ 1000000000 := by omega
      have hr9 : rows.length ≤ 1000000000 := by omega
      have hr6 : rows.length ≤ 1000000 := by omega
      have hb9 : ∀ c ∈ cols, c.name.length ≤ 1000000000 := fun c hc => Nat.le_trans (hb c hc) (by decide)
      have HB := Lib.hid (build_any _ _ cols rows w1 (H1.out.non HF1.out) (H2.out.non HF1.out) (HT.out.non HF1.out) ha9 hb9 hr9 HI.out)
      have HRd := Lib.hid (fun W (hf : Fr Non w W) u b z (hu : Bs W u b) (hb : b.length ≤ 1000000000) => sread_any _ u cols b z W (H1.out.non hf) hu (HT.out.non hf) (fun q hq => Nat.lt_of_lt_of_le (HVL.out q hq) hf.size) ha9 hb9 hb)
      have HNum := Lib.hid (fun z W => snum13_any z W)
      have HIs := Lib.hid (fun h => seg_is (cols := cols) h HI.out)
      unfold BldR at HB
      unfold RdR at HRd
      clear hs1 HSm f1 hb hb9 ha h300
      generalize hE : segE cols rows = E at *
      generalize segF rows.length (kls cols rows) = sg at *
      generalize (footF rows.length (kls cols rows)).length = fl at *
      generalize chsF (kls cols rows) 0 = chs at *
      clear hE
      go_wp2_with fail
      refine HB.out.mono ?_
      rintro e w2 ⟨hB, f2⟩
      have HF2 := Lib.hid (HF1.out.trans f2)
      have HB2 : Hid (Blk _ _ _ _) := Lib.hid (HB1.out.fr f2 (fun e => e))
      clear HF1 HB1 HB k1
      rcases hB with ⟨hE0, u2, rfl, ho2⟩ | ⟨hE0, rfl⟩
      · subst hE0
        obtain ⟨hfle, hlen, hrd, hcl, hcol, hrow, hc6, hr200⟩ := HIs.out rfl
        obtain ⟨A4, c4, rfl, hlc, _⟩ := ho2.bs
        have hv2 : Bs w2 (.slice A4 sg.length c4) sg := ⟨A4, c4, rfl, hlc, by assumption⟩
        have HO2 := Lib.hid hv2
        have d1 : decide ((fl : Int) < 0) = false := decide_eq_false (by omega)
        have d2 : decide (sg.length < fl) = false := decide_eq_false (by omega)
        have d3 : decide ((sg.length : Int) < (fl : Int)) = false := decide_eq_false (by omega)
        obtain ⟨As, cs, hrun, hbs, _⟩ := slice_lo A4 sg.length c4 (sg.length - fl) .i64 ((sg.length : Int) - fl) (by omega) (by omega) hlc
        rw [show sg.length - (sg.length - fl) = fl by omega] at hrun hbs
        have HR2 := HRd.out w2 HF2.out _ _ sg.length (hbs w2 sg rfl hv2) (by rw [List.length_drop]; omega)
        rw [hrd] at HR2
        dsimp only at HR2
        have HR3 := Lib.hid HR2
        have HCol := Lib.hid hcol
        have HRow := Lib.hid hrow
        have hcl1 : chs.length ≤ cols.length := by omega
        have hcl2 : cols.length ≤ chs.length := by omega
        have HSl := Lib.hid (fun (off len : Nat) (h : off + len ≤ sg.length) => slice_lh A4 sg.length c4 off (off + len) .i64 .i64 (off : Int) ((off : Int) + len) rfl (by push_cast; rfl) (by omega) h hlc)
        clear hrd hcl hcol hrow HR2 f2 ho2 hbs HRd HIs hv2
        go_wp2_with fail
        refine (HNum.out _ _).mono ?_
        rintro e w3 ⟨rfl, rfl⟩
        go_wp2_with fail
        refine HR3.out.mono ?_
        rintro e w3 ⟨⟨u3, rfl, ho3⟩, f3⟩
        obtain ⟨Au, cu, rfl⟩ := (ho3.ns fd_ch).shape
        have fa := (Fr.refl Non w3).alloc (.cells #[.int .i64 (rows.length : Int), .slice Au chs.length cu] 40)
        have hB : FtB (w3.alloc (.cells #[.int .i64 (rows.length : Int), .slice Au chs.length cu] 40)) w3.heap.size rows.length (.slice Au chs.length cu) := Blk.new _ _ _
        have f3a := f3.trans fa
        have HF4 := Lib.hid (HF2.out.trans f3a)
        have HO4 := Lib.hid (HO2.out.non f3a)
        have HB4 : Hid (Blk _ _ _ _) := Lib.hid (HB2.out.fr f3a (fun e => e))
        have HFt : Hid (FtB _ _ _ _) := Lib.hid hB
        have HC4 := Lib.hid ((ho3.alloc (.cells #[.int .i64 (rows.length : Int), .slice Au chs.length cu] 40)).ns fd_ch)
        clear f3 fa f3a hB HR3 HF2 HO2 HB2 ho3
        go_wp2_with fail
        refine (HNum.out _ _).mono ?_
        rintro e w5 ⟨rfl, rfl⟩
        go_wp2
        have hR1M : rows.length ≤ 1000000 := by omega
        generalize hg3 : w3.heap.size = g at *
        clear hg3
        generalize w3.alloc (.cells #[.int .i64 (rows.length : Int), .slice Au chs.length cu] 40) = w4 at *
        go_loopw [12] (fun i wr => ∃ k : Nat, k ≤ cols.length ∧ i = .int .i64 k ∧ FtB wr g rows.length (.slice Au chs.length cu) ∧ Blk wr w.heap.size 52 #[.int .i64 n, .slice A3 bb.length c3] ∧ Bs wr (.slice A4 sg.length c4) sg ∧ Hs wr (.slice Au chs.length cu) chs ∧ Fr Non w wr) (fun i _ => cols.length - (intOf i).toNat)
        case atStart => exact ⟨0, Nat.zero_le _, rfl, HFt.out, HB4.out, HO4.out, HC4.out, HF4.out⟩
        case round =>
          clear HFt HB4 HO4 HC4 HF4 d1 d2 d3 hrun
          obtain ⟨k, hk, rfl, hB, hBd, hO, hC, hF⟩ := hrel
          have k1 := hB.cell 1
          have HBd : Hid (Blk _ _ _ _) := Lib.hid hBd
          have HB : Hid (FtB _ _ _ _) := Lib.hid hB
          have HO := Lib.hid hO
          have HC := Lib.hid hC
          have HF := Lib.hid hF
          by_cases hlt : k < cols.length
          · have hltc : k < chs.length := by omega
            obtain ⟨a2, rfl, _⟩ := hC.at_ k chs[k] (List.getElem?_eq_getElem hltc)
            obtain ⟨g0, g1, g2, g3, g4, g5, g6, g7, g8', g9⟩ := hs_lit hC k chs[k] (List.getElem?_eq_getElem hltc)
            obtain ⟨hpl, hcol⟩ := HCol.out k hlt hltc
            generalize chs[k] = ch at *
            obtain ⟨off, len, zc⟩ := ch
            dsimp only at g0 g1 g2 g3 g4 g5 g6 g7 g8' g9 hpl hcol
            obtain ⟨A5, c5, hrun5, hbs5, _⟩ := HSl.out off len hpl
            rw [show off + len - off = len by omega] at hrun5 hbs5
            have hww : IntKind.i64.wrap ((off : Int) + len) = (off : Int) + len := IntWalk.i64_in _ ⟨by omega, by omega⟩
            have e1 : decide ((off : Int) < 0) = false := decide_eq_false (by omega)
            have e2 : decide ((len : Int) < 0) = false := decide_eq_false (by omega)
            have e3 : decide (sg.length < off) = false := decide_eq_false (by omega)
            have e4 : decide ((sg.length : Int) - off < len) = false := decide_eq_false (by omega)
            have fa := (Fr.refl Non wr).alloc (.cells #[.int .i64 (off : Int), .int .i64 (len : Int), .int .i64 zc.rows, .int .i64 zc.nulls, .bool zc.low.null, .int .i64 zc.low.num, .string ⟨zc.low.txt.toArray⟩, .bool zc.high.null, .int .i64 zc.high.num, .string ⟨zc.high.txt.toArray⟩] 58)
            have cb0 : Blk (wr.alloc (.cells #[.int .i64 (off : Int), .int .i64 (len : Int), .int .i64 zc.rows, .int .i64 zc.nulls, .bool zc.low.null, .int .i64 zc.low.num, .string ⟨zc.low.txt.toArray⟩, .bool zc.high.null, .int .i64 zc.high.num, .string ⟨zc.high.txt.toArray⟩] 58)) wr.heap.size 58 #[.int .i64 (off : Int), .int .i64 (len : Int), .int .i64 zc.rows, .int .i64 zc.nulls, .bool zc.low.null, .int .i64 zc.low.num, .string ⟨zc.low.txt.toArray⟩, .bool zc.high.null, .int .i64 zc.high.num, .string ⟨zc.high.txt.toArray⟩] := Blk.new _ _ _
            have q0 := cb0.cell 0
            have q1 := cb0.cell 1
            have fd : Fr Non wr (wr.alloc (.cells #[.int .i64 (off : Int), .int .i64 (len : Int), .int .i64 zc.rows, .int .i64 zc.nulls, .bool zc.low.null, .int .i64 zc.low.num, .string ⟨zc.low.txt.toArray⟩, .bool zc.high.null, .int .i64 zc.high.num, .string ⟨zc.high.txt.toArray⟩] 58)).drew := fa.drew
            have cb : Blk (wr.alloc (.cells #[.int .i64 (off : Int), .int .i64 (len : Int), .int .i64 zc.rows, .int .i64 zc.nulls, .bool zc.low.null, .int .i64 zc.low.num, .string ⟨zc.low.txt.toArray⟩, .bool zc.high.null, .int .i64 zc.high.num, .string ⟨zc.high.txt.toArray⟩] 58)).drew wr.heap.size 58 #[.int .i64 (off : Int), .int .i64 (len : Int), .int .i64 zc.rows, .int .i64 zc.nulls, .bool zc.low.null, .int .i64 zc.low.num, .string ⟨zc.low.txt.toArray⟩, .bool zc.high.null, .int .i64 zc.high.num, .string ⟨zc.high.txt.toArray⟩] := cb0
            have hB1 := hB.fr fd (fun e => e)
            have hBd1 := hBd.fr fd (fun e => e)
            have hF1 := hF.trans fd
            have CC := scolumn_any _ _ _ cols chs rows.length k _ _ (H1.out.non hF1) (hC.non fd) (hbs5 _ sg rfl (hO.non fd)) (HT.out.non hF1) ha9 (by omega) (by rw [List.length_take, List.length_drop]; omega)
            rw [hcol] at CC
            unfold ColR at CC
            dsimp only at CC
            have CC2 := Lib.hid CC
            have s1 := s4_of hB1 cb
            have HB1 : Hid (FtB _ _ _ _) := Lib.hid hB1
            have HBd1 : Hid (Blk _ _ _ _) := Lib.hid hBd1
            have HCb : Hid (Blk _ _ _ _) := Lib.hid cb
            have HO1 := Lib.hid (hO.non fd)
            have HC1 := Lib.hid (hC.non fd)
            have HF1 := Lib.hid hF1
            have HRc := Lib.hid (fun W (hf : Fr Non w W) => rcells_any _ rows k W (H2.out.non hf) hR1M (fun r hr => by rw [HRow.out r hr]; exact hlt))
            have hcl0 : (colC rows k).length ≤ 9223372036854775807 := by rw [colC_length]; omega
            generalize colC rows k = lc at *
            have HAl := Lib.hid (fun W v1 v2 (hv1 : Cs W v1 lc) (hv2 : Cs W v2 lc) => call_any v1 v2 lc lc W hv1 hv2 hcl0 hcl0)
            rw [decide_eq_true (rfl : lc = lc)] at HAl
            clear hB hBd hO hC hF fa cb0 fd cb hB1 hBd1 hF1 CC hbs5 hcol HB HBd HO HC HF
            go_wp2
            go_region_held3 (fun W => W.cell? ⟨g, 0, none⟩ = some (.int .i64 rows.length) ∧ W.cell? ⟨g, 1, none⟩ = some (.slice (some a2) chs.length cu) ∧ W.cell? ⟨wr.heap.size, 0, none⟩ = some (.int .i64 off) ∧ W.cell? ⟨wr.heap.size, 1, none⟩ = some (.int .i64 len)) (first | exact s1 | exact s2 | fail) (first | (go_at_call 20; (with_reducible refine CC2.out.mono ?_); rintro e w5 ⟨⟨u5, rfl, ho5⟩, f5⟩; obtain ⟨A6, c6, rfl⟩ := ho5.shape; have b5 := HB1.out.fr f5 (fun e => e); have cb5 := HCb.out.fr f5 (fun e => e); have s2 := s4_of b5 cb5))
            have HB5 : Hid (FtB _ _ _ _) := Lib.hid b5
            have HBd5 : Hid (Blk _ _ _ _) := Lib.hid (HBd1.out.fr f5 (fun e => e))
            have HO5 := Lib.hid (HO1.out.non f5)
            have HC5 := Lib.hid (HC1.out.non f5)
            have HF5 := Lib.hid (HF1.out.trans f5)
            have HL5 := Lib.hid ho5.cs
            clear HB1 HBd1 HCb HO1 HC1 HF1 CC2 b5 cb5 s1 s2 f5 ho5
            go_wp2_with fail
            refine (HNum.out _ _).mono ?_
            rintro e w6 ⟨rfl, rfl⟩
            go_wp2_with fail
            refine (HRc.out _ HF5.out).mono ?_
            rintro e w6 ⟨u6, rfl, ho6, f6⟩
            have HA6 := Lib.hid (HAl.out w6 _ _ (HL5.out.non f6) ho6.cs)
            have f6' := Lib.hid f6
            clear ho6 f6 HRc HAl
            go_wp2_with fail
            refine HA6.out.mono ?_
            rintro e w7 ⟨rfl, f7⟩
            have f57 := f6'.out.trans f7
            have HRel := Lib.hid (And.intro (show FtB w7 g rows.length (.slice (some a2) chs.length cu) from HB5.out.fr f57 (fun e => e)) (And.intro (HBd5.out.fr f57 (fun e => e)) (And.intro (HO5.out.non f57) (And.intro (HC5.out.non f57) (HF5.out.trans f57)))))
            clear HB5 HBd5 HO5 HC5 HF5 f57 f7 f6' HA6 HL5
            go_wp2
            go_roundw
            case rel => exact ⟨k + 1, by omega, by go_num, HRel.out⟩
            case measure => simp [intOf]; omega
          · have hclb : ((chs.length : Int) == cols.length) = true := by rw [beq_iff_eq]; omega
            have k0 := hB.cell 0
            have j0 := hBd.cell 0
            have j1 := hBd.cell 1
            have CE := scolumn_any _ _ _ cols chs rows.length n bb wr (H1.out.non hF) hC (H3.out.non hF) (HT.out.non hF) ha9 (by omega) (by omega)
            have HCR := Lib.hid (fun W (hf : Fr Non w W) (hc : Hs W (.slice Au chs.length cu) chs) => rcolumn_any _ _ _ cols chs rows.length n bb W (H1.out.non hf) hc (H3.out.non hf) (fun q hq => Nat.lt_of_lt_of_le (HUL.out q hq) hf.size) (by omega) ha9 (by omega) (by omega))
            have hsh := colE_short (cols := cols) (R := rows.length) (chs := chs) (i := n) (b := bb)
            unfold ColR at CE HCR
            generalize colE cols rows.length chs n bb = col at *
            obtain ⟨ec, lc⟩ := col
            dsimp only at CE HCR hsh
            have HAl := Lib.hid (fun W v1 v2 (hv1 : Cs W v1 lc) (hv2 : Cs W v2 lc) => call_any v1 v2 lc lc W hv1 hv2 (by omega) (by omega))
            rw [decide_eq_true (rfl : lc = lc)] at HAl
            have hee : (ec == ec) = true := by simp
            have CE2 := Lib.hid CE
            clear hB hBd hO hC hF CE HO
            go_wp2_with fail
            refine CE2.out.mono ?_
            rintro e w5 ⟨⟨u5, rfl, ho5⟩, f5⟩
            have f5d := f5.drew
            have b5 := HB.out.fr f5d (fun e => e)
            have d5 := HBd.out.fr f5d (fun e => e)
            have s1 := s22_of b5 d5
            have HB5 : Hid (FtB _ _ _ _) := Lib.hid b5
            have HD5 : Hid (Blk _ _ _ _) := Lib.hid d5
            have HC5 := Lib.hid (HC.out.non f5d)
            have HF5 := Lib.hid (HF.out.trans f5d)
            have HL5 := Lib.hid (show Cs w5.drew u5 lc from ho5.cs.drew)
            have HFo := Lib.hid (fun W => foot13_any rows.length Au chs.length cu W)
            clear f5 f5d b5 d5 CE2 HB HBd HC HF ho5 k0 k1 j0 j1
            go_wp2
            go_region_held3 (fun W => W.cell? ⟨g, 0, none⟩ = some (.int .i64 rows.length) ∧ W.cell? ⟨g, 1, none⟩ = some (.slice Au chs.length cu) ∧ W.cell? ⟨w.heap.size, 0, none⟩ = some (.int .i64 n) ∧ W.cell? ⟨w.heap.size, 1, none⟩ = some (.slice A3 bb.length c3)) (first | exact s1 | exact s2 | exact s3 | fail) (first | (go_at_call 18; (with_reducible refine (HFo.out _).mono ?_); rintro e w6 ⟨rfl, f6⟩; have b6 := HB5.out.fr f6 (fun e => e); have d6 := HD5.out.fr f6 (fun e => e); have s2 := s22_of b6 d6; have F6 := HF5.out.trans f6; have CR := HCR.out w6 F6 (HC5.out.non f6)) | (go_at_call 23; (with_reducible refine CR.mono ?_); rintro e w7 ⟨⟨u7, rfl, ho7⟩, f7⟩; have b7 := b6.fr f7 (fun e => e); have d7 := d6.fr f7 (fun e => e); have s3 := s22_of b7 d7))
            have HB7 : Hid (FtB _ _ _ _) := Lib.hid b7
            have HF7 := Lib.hid (F6.trans f7)
            have HA7 := Lib.hid (HAl.out w7 _ _ (HL5.out.non (f6.trans f7)) ho7.cs)
            clear HB5 HD5 HC5 HF5 HL5 b6 d6 s1 s2 s3 F6 CR b7 d7 f6 f7 ho7 HAl HCR HFo
            go_wp2_with fail
            refine (HNum.out _ _).mono ?_
            rintro e w8 ⟨rfl, rfl⟩
            go_wp2_with fail
            refine HA7.out.mono ?_
            rintro e w8 ⟨rfl, f8⟩
            have b8 := HB7.out.fr f8 (fun e => e)
            have k8 := b8.cell 1
            have HF8 := Lib.hid (HF7.out.trans f8)
            clear HB7 HF7 HA7 f8 b8
            go_wp2_with fail
            refine (HLv.out _ HF8.out).mono ?_
            rintro e wl ⟨rfl, fl⟩
            go_wp2
            go_ret
            exact ⟨rfl, (HF8.out.trans fl).below⟩
      · have hEb : (E != 0) = true := by rw [bne_iff_ne]; exact hE0
        clear hE0 HIs HRd f2 HB2
        go_wp2_with fail
        refine (HNum.out _ _).mono ?_
        rintro e w3 ⟨rfl, rfl⟩
        go_wp2_with fail
        refine (HLv.out _ HF2.out).mono ?_
        rintro e wl ⟨rfl, fl⟩
        go_wp2
        go_ret
        exact ⟨rfl, (HF2.out.trans fl).below⟩
end Go.Proofs.YtheefloegbkflaaGreatDoor


namespace Go.Proofs.YtheefloegbkflaaGreatDoor
set_option linter.unusedVariables false
set_option linter.unusedSimpArgs false
set_option maxRecDepth 100000
open Go.Joins Go.ChangeShapes Go.WideShapes Go.ChangeAt Go.RowKit Go.Deep

/-- a cell within its fields' ranges -/
structure ClWf (c : Cl) : Prop where
  lo : -9223372036854775808 ≤ c.num
  hi : c.num ≤ 9223372036854775807
  len : c.txt.length ≤ 9223372036854775807
end Go.Proofs.YtheefloegbkflaaGreatDoor


namespace Go.Proofs.YtheefloegbkflaaGreatDoor
set_option linter.unusedVariables false
set_option linter.unusedSimpArgs false
set_option maxRecDepth 100000
open Go.Joins Go.ChangeShapes Go.WideShapes Go.ChangeAt Go.RowKit Go.Deep

theorem cof_bool : Tryz.prog.cellsOf 4 = 1 := by kernel_rfl
theorem cof_i64 : Tryz.prog.cellsOf 2 = 1 := by kernel_rfl
theorem cof_int : Tryz.prog.cellsOf 3 = 1 := by kernel_rfl
theorem cof_str : Tryz.prog.cellsOf 9 = 1 := by kernel_rfl
theorem cof_cl : Tryz.prog.cellsOf 54 = 3 := by kernel_rfl
/-- three cells that are read as a cell -/
theorem cl_cells {H : Type} {enc : TypeId × Value → H} {W : World} {n : Nat} {x : DataW H × List MemPlace} {c2 c3 c4 : Value}
    (h : DataW.trod enc Tryz.prog W 0 (fun _ => true) true n 54 [c2, c3, c4] = some x) : ∃ c : Cl, c2 = .bool c.null ∧ c3 = .int .i64 c.num ∧ c4 = .string ⟨c.txt.toArray⟩ ∧ ClWf c := by
  obtain ⟨y0, y1, y2, m, rfl, _, h0, h1, h2⟩ := trod_struct3 Tryz.underlying54 h
  simp only [cof_bool, cof_i64, cof_str, List.drop_zero, List.drop_succ_cons, List.take_succ_cons, List.take_zero] at h0 h1 h2
  obtain ⟨b, e0, _⟩ := DataW.trod_bool Tryz.underlying4 h0
  obtain rfl := (List.cons.inj e0).1
  obtain ⟨i, e1, _, hi⟩ := DataW.trod_int Tryz.underlying2 h1
  obtain rfl := (List.cons.inj e1).1
  obtain ⟨s, e2, _, hs⟩ := DataW.trod_string Tryz.underlying9 h2
  obtain rfl := (List.cons.inj e2).1
  have hb := wf_i64_bd hi
  exact ⟨⟨b, i, s.data.toList⟩, rfl, rfl, by simp, ⟨hb.1, hb.2, by simpa [maxLen] using hs⟩⟩
end Go.Proofs.YtheefloegbkflaaGreatDoor


namespace Go.Proofs.YtheefloegbkflaaGreatDoor
set_option linter.unusedVariables false
set_option linter.unusedSimpArgs false
set_option maxRecDepth 100000
open Go.Joins Go.ChangeShapes Go.WideShapes Go.ChangeAt Go.RowKit Go.Deep

theorem cof_row : Tryz.prog.cellsOf 59 = 1 := by kernel_rfl
/-- a slice of cells in a cell of another one -/
theorem cs_trod {H : Type} {enc : TypeId × Value → H} {W : World} {n : Nat} {x : DataW H × List MemPlace} {v : Value}
    (h : DataW.trod enc Tryz.prog W 0 (fun _ => true) true n 59 [v] = some x) : ∃ (s : Sl) (l : List Cl), v = slV s ∧ s.n = l.length ∧ Cs W (slV s) l ∧ l.length ≤ 9223372036854775807 ∧ ∀ c ∈ l, ClWf c := by
  rcases Go.Deep.open_slice Tryz.underlying59 h with ⟨hcs, _⟩ | ⟨a, len, cap, m, k, D, Pl, hcs, _, hl, hm, hmm, _, hr⟩
  · obtain rfl := (List.cons.inj hcs).1
    exact ⟨noSl, [], rfl, rfl, Cs.nil_ W, by simp, by simp⟩
  · obtain rfl := (List.cons.inj hcs).1
    have hnm : len ≤ m := by rw [hmm]; simp; exact hl
    obtain ⟨l, hll, hls⟩ := choose_listG (fun i (x : Cl) => At3 W (a.add (i * 3)) x ∧ ClWf x) len (by
      intro i hi
      obtain ⟨cs', h1, h2⟩ := hr i (by omega)
      rw [cof_cl] at h1
      obtain ⟨_, hlen, hcell⟩ := World.cells?_some h1
      match cs', hlen with
      | [v0, v1, v2], _ =>
        obtain ⟨c, rfl, rfl, rfl, hw⟩ := cl_cells h2
        have e0 := hcell 0 (by omega)
        have e1 := hcell 1 (by omega)
        have e2 := hcell 2 (by omega)
        exact ⟨c, ⟨by simpa [add_add] using e0, by simpa using e1, by simpa using e2⟩, hw⟩)
    subst hll
    refine ⟨⟨some a, l.length, cap⟩, l, rfl, rfl, ⟨some a, cap, rfl, hl, (fun h => by cases h), fun b hb j hj => ?_⟩, by unfold maxLen at hm; omega, fun x hx => ?_⟩
    · cases hb
      exact (hls j hj).1
    · obtain ⟨j, hj, rfl⟩ := List.mem_iff_getElem.1 hx
      exact (hls j hj).2
theorem rs_in {H : Type} {enc : TypeId × Value → H} {W : World} {base : Nat} {v : Value} {d : DataW H} {p : List MemPlace} (hv : Value.okWide Tryz.prog W .any base 23 v)
    (h : DataW.Trod enc Tryz.prog W 0 (fun _ => true) true 23 v d p) : ∃ rs, Rs W v rs ∧ rs.length ≤ 9223372036854775807 ∧ (∀ r ∈ rs, r.length ≤ 9223372036854775807 ∧ ∀ c ∈ r, ClWf c) ∧ ∀ k, v.ownBlock = some k → k < W.heap.size := by
  have hT := Tryz.underlying23
  have hlt : ∀ k, v.ownBlock = some k → k < W.heap.size := by
    rcases slice_in hT hv with rfl | ⟨b, o, n, c, rfl, _, hb⟩
    · intro k hk; cases hk
    · intro k hk
      obtain rfl : b = k := by simpa [Value.ownBlock] using hk
      exact hb
  obtain ⟨A, n, c, rfl⟩ := okWide_slice hT hv
  obtain ⟨fuel, hf⟩ := h
  rcases Go.Deep.open_slice hT hf with ⟨hcs, _⟩ | ⟨a, len, cap, m, k, D, Pl, hcs, _, hl, hm, hmm, _, hr⟩
  · simp [Value.cells] at hcs
    obtain ⟨rfl, rfl, rfl⟩ := hcs
    exact ⟨[], Rs.nil_ W, by simp, by simp, hlt⟩
  · simp [Value.cells] at hcs
    obtain ⟨rfl, rfl, rfl⟩ := hcs
    have hnm : n ≤ m := by rw [hmm]; simp; exact hl
    obtain ⟨l, hll, hls⟩ := choose_listG (fun i (x : Sl × List Cl) => W.cell? (a.add i) = some (slV x.1) ∧ Cs W (slV x.1) x.2 ∧ x.2.length ≤ 9223372036854775807 ∧ ∀ c ∈ x.2, ClWf c) n (by
      intro i hi
      obtain ⟨cs', h1, h2⟩ := hr i (by omega)
      rw [cof_row] at h1
      obtain ⟨_, hlen, hcell⟩ := World.cells?_some h1
      match cs', hlen with
      | [v0], _ =>
        obtain ⟨s, l, rfl, _, hc, h3, h4⟩ := cs_trod h2
        have e0 := hcell 0 (by omega)
        exact ⟨(s, l), by simpa [add_add] using e0, hc, h3, h4⟩)
    subst hll
    refine ⟨l.map Prod.snd, ⟨l.map Prod.fst, by simp, ⟨some a, c, by simp, by simpa using hl, (fun h => by cases h), fun b hb j hj => ?_⟩, fun i a b => ?_⟩, by unfold maxLen at hm; simp; omega, fun x hx => ?_, hlt⟩
    · cases hb
      have hj' : j < l.length := by simpa using hj
      simpa using (hls j hj').1
    · have hj' : i < l.length := by simpa using a
      simpa using (hls i hj').2.1
    · obtain ⟨y, hy, rfl⟩ := List.mem_map.1 hx
      obtain ⟨j, hj, rfl⟩ := List.mem_iff_getElem.1 hy
      exact (hls j hj).2.2
end Go.Proofs.YtheefloegbkflaaGreatDoor


namespace Go.Proofs.YtheefloegbkflaaGreatDoor
set_option linter.unusedVariables false
set_option linter.unusedSimpArgs false
set_option maxRecDepth 100000
open Go.Joins Go.ChangeShapes Go.WideShapes Go.ChangeAt Go.RowKit Go.Deep

theorem cof_bad : Tryz.prog.cellsOf 52 = 2 := by kernel_rfl
theorem cof_bs : Tryz.prog.cellsOf 26 = 1 := by kernel_rfl
theorem ct_bad : Tryz.prog.cellTypes Tryz.prog.depth 52 = some [3, 26] := by kernel_rfl
theorem array2b {α : Type} {cs : Array α} (h : cs.size = 2) : ∃ c0 c1, cs = #[c0, c1] := by
  obtain ⟨l⟩ := cs
  match l, h with
  | [c0, c1], _ => exact ⟨c0, c1, rfl⟩
theorem bad_in {H : Type} {enc : TypeId × Value → H} {W : World} {base : Nat} {v : Value} {d : DataW H} {p : List MemPlace} (hv : Value.okWide Tryz.prog W .any base 52 v)
    (h : DataW.Trod enc Tryz.prog W 0 (fun _ => true) true 52 v d p) : ∃ (n : Int) (u : Value) (l : List UInt8), v = .agg #[.int .i64 n, u] ∧ -9223372036854775808 ≤ n ∧ n ≤ 9223372036854775807 ∧ Bs W u l ∧ l.length ≤ maxLen ∧ ∀ k, u.ownBlock = some k → k < W.heap.size := by
  have hv0 := hv
  unfold Value.okWide at hv0
  rw [Tryz.underlying52] at hv0
  obtain ⟨cs, rfl, hsz, ts, hts, _, hrow⟩ := hv0
  rw [ct_bad] at hts
  obtain rfl := Option.some.inj hts
  obtain ⟨c0, c1, rfl⟩ := array2b (hsz.trans cof_bad)
  obtain ⟨fuel, hf⟩ := h
  obtain ⟨y0, y1, n, _, _, h0, h1⟩ := trod_struct2 Tryz.underlying52 hf
  simp only [Value.cells, cof_int, cof_bs, List.drop_zero, List.drop_succ_cons, List.take_succ_cons, List.take_zero] at h0 h1
  obtain ⟨i, e1, _, hi⟩ := DataW.trod_int Tryz.underlying3 h0
  obtain rfl := (List.cons.inj e1).1
  have hb := wf_i64_bd hi
  obtain ⟨u, hu, hok⟩ := hrow 1 c1 rfl
  obtain rfl : 26 = u := by simpa using hu
  have hok2 : Value.okWide Tryz.prog W .any base 26 c1 := by
    unfold Value.okWide
    rw [Tryz.underlying26]
    exact hok
  have hc : ∃ A m c, c1 = Value.slice A m c := okWide_slice Tryz.underlying26 hok2
  obtain ⟨A, m, c, rfl⟩ := hc
  obtain ⟨l, g1, g2, g3⟩ := bs_in hok2 ⟨n, h1⟩
  exact ⟨i, _, l, rfl, hb.1, hb.2, g1, g2, g3⟩
end Go.Proofs.YtheefloegbkflaaGreatDoor


namespace Go.Proofs.YtheefloegbkflaaGreatDoor
set_option linter.unusedVariables false
set_option linter.unusedSimpArgs false
set_option maxRecDepth 100000
open Go.ChangeShapes Go.WideShapes Go.ChangeAt Go.RowKit

/-- the table lies as the text lays it -/
theorem tab_in {W : World} {rest : List (String × DataW Unit)} (h : laidMet Tryz.prog (("firkin/crc.halves", Rows.laid_firkin_crc_halves) :: rest) W) : Tab W := by
  have hT : Lib.TabIs Tryz.prog W "firkin/crc.halves" .u32 halfTab := Lib.tabIs_of_head (n := 16) (show Tryz.prog.globalNamed "firkin/crc.halves" = some 0 by kernel_rfl)
    (show (Tryz.prog.globals[0]?).map (·.type) = some 198 by kernel_rfl) Tryz.underlying198 Tryz.underlying112 (by kernel_rfl) (by kernel_rfl) (h : laidMet Tryz.prog (("firkin/crc.halves", Lib.tabData .u32 halfTab) :: rest) W)
  intro i hi
  have := hT.cell (show Tryz.prog.globalNamed "firkin/crc.halves" = some 0 by kernel_rfl) i (by simpa [halfTab] using hi)
  rw [this]
  have hp : 0 ≤ halfTab.getD i 0 := by
    have all : ∀ j : Fin 16, 0 ≤ halfTab.getD j.1 0 := by decide
    exact all ⟨i, hi⟩
  unfold half
  rw [Int.toNat_of_nonneg hp]

theorem tab_inH {W : World} (h : laidMetH Tryz.prog [("firkin/crc.halves", Rows.laid_firkin_crc_halves)] W) : Tab W := by
  rw [MakeChecks.laidMetH_plain _ _ _ (by kernel_rfl)] at h
  exact tab_in h

end Go.Proofs.YtheefloegbkflaaGreatDoor


namespace Go.Proofs.YtheefloegbkflaaGreatDoor
set_option linter.unusedVariables false
set_option linter.unusedSimpArgs false
set_option maxRecDepth 100000
open Go.Joins Go.ChangeShapes Go.WideShapes Go.ChangeAt Go.RowKit Go.Deep

theorem cof_co : Tryz.prog.cellsOf 69 = 3 := by kernel_rfl
/-- a column within its fields' ranges -/
structure CoWf (c : Co) : Prop where
  lo : -9223372036854775808 ≤ c.ty
  hi : c.ty ≤ 9223372036854775807
  len : c.name.length ≤ 9223372036854775807
/-- three cells that are read as a column -/
theorem co_cells {H : Type} {enc : TypeId × Value → H} {W : World} {n : Nat} {x : DataW H × List MemPlace} {c2 c3 c4 : Value}
    (h : DataW.trod enc Tryz.prog W 0 (fun _ => true) true n 69 [c2, c3, c4] = some x) : ∃ c : Co, c2 = .string ⟨c.name.toArray⟩ ∧ c3 = .int .i64 c.ty ∧ c4 = .bool c.nl ∧ CoWf c := by
  obtain ⟨y0, y1, y2, m, rfl, _, h0, h1, h2⟩ := trod_struct3 Tryz.underlying69 h
  simp only [cof_bool, cof_int, cof_str, List.drop_zero, List.drop_succ_cons, List.take_succ_cons, List.take_zero] at h0 h1 h2
  obtain ⟨s, e0, _, hs⟩ := DataW.trod_string Tryz.underlying9 h0
  obtain rfl := (List.cons.inj e0).1
  obtain ⟨i, e1, _, hi⟩ := DataW.trod_int Tryz.underlying3 h1
  obtain rfl := (List.cons.inj e1).1
  obtain ⟨b, e2, _⟩ := DataW.trod_bool Tryz.underlying4 h2
  obtain rfl := (List.cons.inj e2).1
  have hb := wf_i64_bd hi
  exact ⟨⟨s.data.toList, i, b⟩, by simp, rfl, rfl, ⟨hb.1, hb.2, by simpa [maxLen] using hs⟩⟩
theorem ks_in {H : Type} {enc : TypeId × Value → H} {W : World} {base : Nat} {v : Value} {d : DataW H} {p : List MemPlace} (hv : Value.okWide Tryz.prog W .any base 22 v)
    (h : DataW.Trod enc Tryz.prog W 0 (fun _ => true) true 22 v d p) : ∃ l, Ks W v l ∧ l.length ≤ 9223372036854775807 ∧ (∀ c ∈ l, CoWf c) ∧ ∀ k, v.ownBlock = some k → k < W.heap.size :=
  ns_in fd_co Tryz.underlying22 cof_co CoWf (fun n cs y hl hy => by
    match cs, hl with
    | [v0, v1, v2], _ =>
      obtain ⟨c, rfl, rfl, rfl, hw⟩ := co_cells hy
      exact ⟨c, rfl, hw⟩) hv h
end Go.Proofs.YtheefloegbkflaaGreatDoor
