/-
  Joined: Layer 13: a column read, the program's. · Layer 13: all rows read, the program's. · Layer 5: the walk of firkinref05.Get. · Layer 8: the walk of the document's Texts. · Layer 8: the walk of the document's Get. · Layer 10: are lists of cells the same?; the document's read.
-/
import Derived.Deep.RegionHeld3
import Derived.StillTail
import Derived.Test.YtheefloegbkflaaGreatDoorZ8
import Derived.Test.YtheefloegbkflaaGreatDoorZ9
import Derived.Test.YtheefloegbkflaaGreatDoorZ6
import Derived.Deep.QuietTactic
import Derived.Test.YtheefloegbkflaaGreatDoorZ3
import Derived.Test.YtheefloegbkflaaGreatDoorZ5
import Derived.Test.YtheefloegbkflaaGreatDoorZ4

namespace Go.Proofs.YtheefloegbkflaaGreatDoor
set_option linter.unusedVariables false
set_option linter.unusedSimpArgs false
set_option maxRecDepth 100000
open Go.RowKit

/-- what Column answers -/
def ColR (w : World) (B : Nat) (r : Int × List Cl) (e : Ending) : Prop := ∃ u, e = .returned (.tuple #[u, .int .i64 r.1]) ∧ Oc w B u r.2
theorem ans_no {w : World} {B : Nat} {r : Int × List Cl} {e0 : Int} (h : r = (e0, [])) : ColR w B r (.returned (.tuple #[.slice none 0 0, .int .i64 e0])) := ⟨_, by rw [h], by rw [h]; exact oc_nil _ _⟩
theorem ans_ok {w : World} {B : Nat} {r : Int × List Cl} {l : List Cl} {u : Value} (h : r = (0, l)) (hu : Oc w B u l) : ColR w B r (.returned (.tuple #[u, .int .i64 0])) := ⟨u, by rw [h], by rw [h]; exact hu⟩
theorem gec_own {w : World} {B : Nat} {o : Option (List Cl)} {e : Ending} (h : Gec w B o e) : ∃ u l ok, e = .returned (.tuple #[u, .bool ok]) ∧ Oc w B u l ∧ ((ok = true ∧ o = some l) ∨ (ok = false ∧ o = none ∧ l = [])) := by
  rcases h with ⟨rfl, rfl⟩ | ⟨l, u, rfl, rfl, h⟩
  · exact ⟨_, [], _, rfl, oc_nil _ _, .inr ⟨rfl, rfl, rfl⟩⟩
  · exact ⟨_, l, _, rfl, h, .inl ⟨rfl, rfl⟩⟩
/-- as a walk spells a chunk's cells -/
theorem hs_lit {w : World} {a : Addr} {n c : Nat} {l : List Ch} (h : Hs w (.slice (some a) n c) l) (k : Nat) (x : Ch) (hx : l[k]? = some x) :
    w.cell? (a.add (k * 10)) = some (.int .i64 x.off) ∧ w.cell? { block := (a.add (k * 10)).block, off := (a.add (k * 10)).off + 1 } = some (.int .i64 x.len) ∧
    w.cell? { block := (a.add (k * 10)).block, off := (a.add (k * 10)).off + 2 } = some (.int .i64 x.zn.rows) ∧ w.cell? { block := (a.add (k * 10)).block, off := (a.add (k * 10)).off + 3 } = some (.int .i64 x.zn.nulls) ∧
    w.cell? { block := (a.add (k * 10)).block, off := (a.add (k * 10)).off + 4 } = some (.bool x.zn.low.null) ∧ w.cell? { block := (a.add (k * 10)).block, off := (a.add (k * 10)).off + 5 } = some (.int .i64 x.zn.low.num) ∧ w.cell? { block := (a.add (k * 10)).block, off := (a.add (k * 10)).off + 6 } = some (.string ⟨x.zn.low.txt.toArray⟩) ∧
    w.cell? { block := (a.add (k * 10)).block, off := (a.add (k * 10)).off + 7 } = some (.bool x.zn.high.null) ∧ w.cell? { block := (a.add (k * 10)).block, off := (a.add (k * 10)).off + 8 } = some (.int .i64 x.zn.high.num) ∧ w.cell? { block := (a.add (k * 10)).block, off := (a.add (k * 10)).off + 9 } = some (.string ⟨x.zn.high.txt.toArray⟩) := by
  obtain ⟨a', e, hat⟩ := h.at_ k x hx
  cases e
  exact ⟨hat 0 _ rfl, hat 1 _ rfl, hat 2 _ rfl, hat 3 _ rfl, hat 4 _ rfl, hat 5 _ rfl, hat 6 _ rfl, hat 7 _ rfl, hat 8 _ rfl, hat 9 _ rfl⟩

theorem Oc.drewC {w : World} {B : Nat} {v : Value} {l : List Cl} (h : Oc w B v l) (n : Nat) : Oc (w.drewN n) B v l := h

set_option maxHeartbeats 8000000 in
theorem scolumn_any (v1 u vb : Value) (cols : List Co) (chs : List Ch) (R : Nat) (i : Int) (b : List UInt8) (w : World) (h1 : Ks w v1 cols) (hu : Hs w u chs) (hv : Bs w vb b) (ht : Tab w) (hl : cols.length ≤ 1000000000) (hl2 : chs.length ≤ 1000000000) (hb : b.length ≤ 100000) :
    Calls Tryz.prog 20 #[v1, .agg #[.int .i64 (R : Int), u], .int .i64 i, vb] w fun e w' => ColR w' w.heap.size (colE cols R chs i b) e ∧ Fr Non w w' := by
  obtain ⟨A1, c1, rfl⟩ := h1.shape
  obtain ⟨A2, c2, rfl⟩ := hu.shape
  obtain ⟨A, c, rfl⟩ := hv.shape
  have H1 := Lib.hid h1
  have HU := Lib.hid hu
  have hB0 : FtB (w.alloc (.cells #[.int .i64 (R : Int), .slice A2 chs.length c2] 40)) w.heap.size R (.slice A2 chs.length c2) := Blk.new _ _ _
  have f0 := (Fr.refl Non w).alloc (.cells #[.int .i64 (R : Int), .slice A2 chs.length c2] 40)
  have k0 : (w.alloc (.cells #[.int .i64 (R : Int), .slice A2 chs.length c2] 40)).cell? ⟨w.heap.size, 1, none⟩ = some (.slice A2 chs.length c2) := hB0.cell 1
  by_cases hi0 : i < 0
  · have d0 : decide (i < 0) = true := by simpa using hi0
    have HE := Lib.hid (colE_arg (R := R) b (show i < 0 ∨ (cols.length : Int) ≤ i ∨ (chs.length : Int) ≤ i from .inl hi0))
    have HF0 := Lib.hid f0
    clear hi0 h1 hu hv ht hB0 f0
    go_enter Tryz.func20, Tryz.ntmps20
    go_wp2
    go_ret2
    exact ⟨ans_no HE.out, HF0.out⟩
  · have d0 : decide (i < 0) = false := by simpa using hi0
    by_cases hi1 : (cols.length : Int) ≤ i
    · have d1 : decide ((cols.length : Int) ≤ i) = true := by simpa using hi1
      have HE := Lib.hid (colE_arg (R := R) b (show i < 0 ∨ (cols.length : Int) ≤ i ∨ (chs.length : Int) ≤ i from .inr (.inl hi1)))
      have HF0 := Lib.hid f0
      clear hi0 hi1 h1 hu hv ht hB0 f0
      go_enter Tryz.func20, Tryz.ntmps20
      go_wp2
      go_ret2
      exact ⟨ans_no HE.out, HF0.out⟩
    · have d1 : decide ((cols.length : Int) ≤ i) = false := by simpa using hi1
      by_cases hi2 : (chs.length : Int) ≤ i
      · have d2 : decide ((chs.length : Int) ≤ i) = true := by simpa using hi2
        have HE := Lib.hid (colE_arg (R := R) b (show i < 0 ∨ (cols.length : Int) ≤ i ∨ (chs.length : Int) ≤ i from .inr (.inr hi2)))
        have HF0 := Lib.hid f0
        clear hi0 hi1 hi2 h1 hu hv ht hB0 f0
        go_enter Tryz.func20, Tryz.ntmps20
        go_wp2
        go_ret2
        exact ⟨ans_no HE.out, HF0.out⟩
      · have d2 : decide ((chs.length : Int) ≤ i) = false := by simpa using hi2
        obtain ⟨k, rfl⟩ : ∃ k : Nat, i = (k : Int) := ⟨i.toNat, by omega⟩
        have hk1 : k < cols.length := by omega
        have hk2 : k < chs.length := by omega
        have d3 : decide (cols.length ≤ k) = false := decide_eq_false (by omega)
        have d4 : decide (chs.length ≤ k) = false := decide_eq_false (by omega)
        have d5 : decide ((k : Int) < 0) = false := decide_eq_false (by omega)
        have HCe := Lib.hid (colE_at (R := R) b hk1 hk2)
        obtain ⟨a1, rfl, _⟩ := h1.at_ k cols[k] (List.getElem?_eq_getElem hk1)
        obtain ⟨a2, rfl, _⟩ := hu.at_ k chs[k] (List.getElem?_eq_getElem hk2)
        have HTy := Lib.hid (fun W (hf : Fr Non w W) => (ks_lit (H1.out.non hf) k cols[k] (List.getElem?_eq_getElem hk1)).2.1)
        have HNl := Lib.hid (fun W (hf : Fr Non w W) => (ks_lit (H1.out.non hf) k cols[k] (List.getElem?_eq_getElem hk1)).2.2)
        have HCh := Lib.hid (fun W (hf : Fr Non w W) => hs_lit (HU.out.non hf) k chs[k] (List.getElem?_eq_getElem hk2))
        have HGet := Lib.hid (fget_any _ b _ (hv.non f0) (ht.non f0) (by omega))
        have HCN := Lib.hid (fun (z : Zn) (l : List Cl) => (colR_none (c := cols[k]) (R := R) z (b := b)))
        have hgl : (gB b).length ≤ b.length := by
          unfold gB bodyF
          split
          · rw [List.length_take, List.length_drop]; omega
          · simp
        have HF0 := Lib.hid f0
        have HB0 : Hid (FtB _ _ _ _) := Lib.hid hB0
        have HR : Hid (colE cols R chs k b = colR cols[k] R chs[k].zn b) := HCe
        clear hi0 hi1 hi2 h1 hu hv ht hB0 f0 d0 d1 d2 HCe
        generalize cols[k] = cc at *
        generalize chs[k] = ch at *
        go_enter Tryz.func20, Tryz.ntmps20
        go_wp2_with fail
        refine HGet.out.mono ?_
        rintro e w1 ⟨u1, rfl, ho1, f1⟩
        have hB1 := HB0.out.fr f1 (fun e => e)
        have F1 := HF0.out.trans f1
        have hbs1 := ho1.bs
        obtain ⟨A3, c3, rfl⟩ := hbs1.shape
        have hsz1 := F1.size
        clear HGet HF0 HB0 f1 ho1 k0
        by_cases hg : gE b = 0
        · have hgb : (((gE b : Nat) : Int) != 0) = false := by rw [hg]; rfl
          have HG := Lib.hid hg
          have b1d : FtB w1.drew w.heap.size R _ := hB1
          have F1d : Fr Non w w1.drew := F1.drew
          have t1 := HTy.out w1.drew F1d
          have r1 : w1.drew.cell? ⟨w.heap.size, 0, none⟩ = some (.int .i64 R) := b1d.cell 0
          have HGc := Lib.hid (get_cl cc.ty R _ (gB b) w1.drew hbs1.drew (by omega))
          have HFd := Lib.hid F1d
          have HBd : Hid (FtB _ _ _ _) := Lib.hid b1d
          clear hg hB1 F1 hbs1 b1d F1d
          obtain ⟨nm, ty, nl⟩ := cc
          dsimp only at t1 HGc
          go_wp2
          go_region_held3 (fun W => W.cell? { block := (a1.add (k * 3)).block, off := (a1.add (k * 3)).off + 1 } = some (.int .i64 ty) ∧ W.cell? ⟨w.heap.size, 0, none⟩ = some (.int .i64 R)) (first | exact ⟨t1, r1⟩ | exact ⟨t2, r2⟩ | fail) (first | (go_at_call 49; (with_reducible refine HGc.out.mono ?_); rintro e w2 ⟨hG, f2⟩; obtain ⟨u2, l, ok, rfl, ho2, hok⟩ := gec_own hG; have F2 := HFd.out.trans f2; have t2 := HTy.out w2 F2; have b2 := HBd.out.fr f2 (fun e => e); have r2 : w2.cell? ⟨w.heap.size, 0, none⟩ = some (.int .i64 R) := b2.cell 0))
          have HF2 := Lib.hid F2
          have HB2 : Hid (FtB _ _ _ _) := Lib.hid b2
          have HO2 := Lib.hid (ho2.mono (show w.heap.size ≤ _ from hsz1))
          have HOk := Lib.hid hok
          clear HGc HFd HBd t1 r1 t2 r2 hG f2 F2 b2 ho2 hok
          cases ok with
          | false =>
            have HE : Hid (colE cols R chs k b = (2, [])) := Lib.hid (by
              rcases HOk.out with ⟨h, _⟩ | ⟨_, h, _⟩
              · cases h
              · rw [HR.out]; exact colR_none _ HG.out h)
            clear HOk
            go_wp2
            go_ret2
            exact ⟨ans_no HE.out, HF2.out⟩
          | true =>
            have HSome : Hid (getC ty (gB b) R = some l) := Lib.hid (by
              rcases HOk.out with ⟨_, h⟩ | ⟨h, _⟩
              · exact h
              · cases h)
            have hlen : l.length ≤ 4096 := by have := getC_is HSome.out; omega
            clear HOk
            by_cases hN : gN b = b.length
            · have hNb : (((gN b : Nat) : Int) != b.length) = false := by rw [hN]; simp
              have HZo := Lib.hid (zoneF_any u2 l w2 HO2.out.cs (by omega))
              obtain ⟨Au, cu, rfl⟩ := HO2.out.shape
              have HNN := Lib.hid hN
              clear hN
              go_wp2_with fail
              refine HZo.out.mono ?_
              rintro e w3 ⟨he3, f3⟩
              have HF3 := HF2.out.trans f3
              have HB3 := HB2.out.fr f3 (fun e => e)
              have HO3 := HO2.out.non f3
              have HY := Lib.hid (fun h => colR_yes (c := ⟨nm, ty, nl⟩) (R := R) (z := ch.zn) (b := b) (l := l) HG.out HSome.out h)
              have HX := Lib.hid (fun h => colR_no (c := ⟨nm, ty, nl⟩) (R := R) (z := ch.zn) (b := b) (l := l) HG.out HSome.out h)
              generalize zoneF l = zz at *
              unfold znV znC at he3
              subst he3
              have fa := (Fr.refl Non w3).alloc (.cells (znC zz) 56)
              have zb : ZnB (w3.alloc (.cells (znC zz) 56)) w3.heap.size zz := Blk.new _ _ _
              have F4 := HF3.trans fa
              have B4 := HB3.fr fa (fun e => e)
              have O4 := Lib.hid (HO3.non fa)
              unfold znC at zb fa F4 B4 O4
              have n1 := HNl.out _ F4
              have y1 : (w3.alloc (.cells #[.int .i64 zz.rows, .int .i64 zz.nulls, .bool zz.low.null, .int .i64 zz.low.num, .string ⟨zz.low.txt.toArray⟩, .bool zz.high.null, .int .i64 zz.high.num, .string ⟨zz.high.txt.toArray⟩] 56)).cell? ⟨w.heap.size, 1, none⟩ = some (.slice (some a2) chs.length c2) := B4.cell 1
              obtain ⟨g0, g1, g2, g3, g4, g5, g6, g7, g8, g9⟩ := HCh.out _ F4
              have z0 : (w3.alloc (.cells #[.int .i64 zz.rows, .int .i64 zz.nulls, .bool zz.low.null, .int .i64 zz.low.num, .string ⟨zz.low.txt.toArray⟩, .bool zz.high.null, .int .i64 zz.high.num, .string ⟨zz.high.txt.toArray⟩] 56)).cell? ⟨w3.heap.size, 0, none⟩ = some (.int .i64 zz.rows) := zb.cell 0
              have z1 : (w3.alloc (.cells #[.int .i64 zz.rows, .int .i64 zz.nulls, .bool zz.low.null, .int .i64 zz.low.num, .string ⟨zz.low.txt.toArray⟩, .bool zz.high.null, .int .i64 zz.high.num, .string ⟨zz.high.txt.toArray⟩] 56)).cell? ⟨w3.heap.size, 1, none⟩ = some (.int .i64 zz.nulls) := zb.cell 1
              have z2 : (w3.alloc (.cells #[.int .i64 zz.rows, .int .i64 zz.nulls, .bool zz.low.null, .int .i64 zz.low.num, .string ⟨zz.low.txt.toArray⟩, .bool zz.high.null, .int .i64 zz.high.num, .string ⟨zz.high.txt.toArray⟩] 56)).cell? ⟨w3.heap.size, 2, none⟩ = some (.bool zz.low.null) := zb.cell 2
              have z3 : (w3.alloc (.cells #[.int .i64 zz.rows, .int .i64 zz.nulls, .bool zz.low.null, .int .i64 zz.low.num, .string ⟨zz.low.txt.toArray⟩, .bool zz.high.null, .int .i64 zz.high.num, .string ⟨zz.high.txt.toArray⟩] 56)).cell? ⟨w3.heap.size, 3, none⟩ = some (.int .i64 zz.low.num) := zb.cell 3
              have z4 : (w3.alloc (.cells #[.int .i64 zz.rows, .int .i64 zz.nulls, .bool zz.low.null, .int .i64 zz.low.num, .string ⟨zz.low.txt.toArray⟩, .bool zz.high.null, .int .i64 zz.high.num, .string ⟨zz.high.txt.toArray⟩] 56)).cell? ⟨w3.heap.size, 4, none⟩ = some (.string ⟨zz.low.txt.toArray⟩) := zb.cell 4
              have z5 : (w3.alloc (.cells #[.int .i64 zz.rows, .int .i64 zz.nulls, .bool zz.low.null, .int .i64 zz.low.num, .string ⟨zz.low.txt.toArray⟩, .bool zz.high.null, .int .i64 zz.high.num, .string ⟨zz.high.txt.toArray⟩] 56)).cell? ⟨w3.heap.size, 5, none⟩ = some (.bool zz.high.null) := zb.cell 5
              have z6 : (w3.alloc (.cells #[.int .i64 zz.rows, .int .i64 zz.nulls, .bool zz.low.null, .int .i64 zz.low.num, .string ⟨zz.low.txt.toArray⟩, .bool zz.high.null, .int .i64 zz.high.num, .string ⟨zz.high.txt.toArray⟩] 56)).cell? ⟨w3.heap.size, 6, none⟩ = some (.int .i64 zz.high.num) := zb.cell 6
              have z7 : (w3.alloc (.cells #[.int .i64 zz.rows, .int .i64 zz.nulls, .bool zz.low.null, .int .i64 zz.low.num, .string ⟨zz.low.txt.toArray⟩, .bool zz.high.null, .int .i64 zz.high.num, .string ⟨zz.high.txt.toArray⟩] 56)).cell? ⟨w3.heap.size, 7, none⟩ = some (.string ⟨zz.high.txt.toArray⟩) := zb.cell 7
              have hx := fun W => run_neq_zn W zz ch.zn
              have HF4 := Lib.hid F4
              clear HZo HF2 HB2 HO2 HF3 HB3 HO3 fa B4 f3 zb F4 hNb
              obtain ⟨off, len, zc⟩ := ch
              dsimp only at g0 g1 g2 g3 g4 g5 g6 g7 g8 g9 hx HY HX HR n1
              by_cases hz : zz = zc
              · subst hz
                rw [zeq_self] at hx
                by_cases hnu : 0 < zz.nulls
                · have dn : decide (0 < zz.nulls) = true := decide_eq_true hnu
                  cases nl with
                  | true =>
                    have HE : Hid (colE cols R chs k b = (0, l)) := Lib.hid (by rw [HR.out]; exact HY.out ⟨HNN.out, rfl, by simp⟩)
                    clear HY HX hnu
                    go_wp2
                    go_quiet (fail)
                    go_wp2
                    go_ret2
                    exact ⟨ans_ok HE.out (O4.out.drewC _), HF4.out.drewN _⟩
                  | false =>
                    have HE : Hid (colE cols R chs k b = (2, [])) := Lib.hid (by rw [HR.out]; exact HX.out (by rintro ⟨_, _, h⟩; exact h ⟨hnu, rfl⟩))
                    clear HY HX hnu
                    go_wp2
                    go_quiet (fail)
                    go_wp2
                    go_ret2
                    exact ⟨ans_no HE.out, HF4.out.drewN _⟩
                · have dn : decide (0 < zz.nulls) = false := decide_eq_false hnu
                  have HE : Hid (colE cols R chs k b = (0, l)) := Lib.hid (by rw [HR.out]; exact HY.out ⟨HNN.out, rfl, fun h => hnu h.1⟩)
                  clear HY HX hnu
                  go_wp2
                  go_quiet (fail)
                  go_wp2
                  go_ret2
                  exact ⟨ans_ok HE.out (O4.out.drewC _), HF4.out.drewN _⟩
              · have hzq : zeq zz zc = false := decide_eq_false hz
                rw [hzq] at hx
                have HE : Hid (colE cols R chs k b = (2, [])) := Lib.hid (by rw [HR.out]; exact HX.out (fun h => hz h.2.1))
                clear HY HX hz hzq
                go_wp2
                go_quiet (fail)
                go_wp2
                go_ret2
                exact ⟨ans_no HE.out, HF4.out.drewN _⟩
            · have hNb : (((gN b : Nat) : Int) != b.length) = true := by rw [bne_iff_ne]; omega
              have HE : Hid (colE cols R chs k b = (2, [])) := Lib.hid (by rw [HR.out]; exact colR_no HG.out HSome.out (fun h => hN h.1))
              clear hN
              go_wp2
              go_ret2
              exact ⟨ans_no HE.out, HF2.out⟩
        · have hgb : (((gE b : Nat) : Int) != 0) = true := by rw [bne_iff_ne]; omega
          have HE : Hid (colE cols R chs k b = (((gE b : Nat) : Int), [])) := Lib.hid (by rw [HR.out]; exact colR_frame _ _ _ hg)
          have HF1 := Lib.hid F1
          clear hg hB1 F1 hbs1
          go_wp2
          go_ret2
          exact ⟨ans_no HE.out, HF1.out⟩
end Go.Proofs.YtheefloegbkflaaGreatDoor


namespace Go.Proofs.YtheefloegbkflaaGreatDoor
set_option linter.unusedVariables false
set_option linter.unusedSimpArgs false
set_option maxRecDepth 100000
open Go.RowKit

/-- what Rows answers -/
def RowR (w : World) (B : Nat) (r : Int × List (List Cl)) (e : Ending) : Prop := ∃ u, e = .returned (.tuple #[u, .int .i64 r.1]) ∧ Ro w B u r.2
theorem rowR_no {w : World} {B : Nat} {r : Int × List (List Cl)} {e0 : Int} (h : r = (e0, [])) : RowR w B r (.returned (.tuple #[.slice none 0 0, .int .i64 e0])) := ⟨_, by rw [h], by rw [h]; exact ro_nil _ _⟩
theorem rowR_ok {w : World} {B : Nat} {r : Int × List (List Cl)} {l : List (List Cl)} {u : Value} (h : r = (0, l)) (hu : Ro w B u l) : RowR w B r (.returned (.tuple #[u, .int .i64 0])) := ⟨u, by rw [h], by rw [h]; exact hu⟩
theorem colE_short {cols : List Co} {R : Int} {chs : List Ch} {i : Int} {b : List UInt8} : (colE cols R chs i b).2.length ≤ 4096 := by
  unfold colE
  split
  · simp
  · exact colR_short
theorem colsR_lens {cols : List Co} {R : Int} {chs : List Ch} {b : List UInt8} : ∀ {k : Nat}, k ≤ cols.length → k ≤ chs.length → (colsR cols R chs b k).1 = 0 → ∀ l ∈ (colsR cols R chs b k).2, (l.length : Int) = R
  | 0, _, _, _ => by intro l hl; simp [colsR] at hl
  | k + 1, hk, hk2, h => by
    by_cases h1 : (colsR cols R chs b k).1 = 0
    · by_cases h2 : (colE cols R chs k (pieceF b (chs.getD k ⟨0, 0, noZn⟩))).1 = 0
      · rw [colsR_more h1 h2]
        intro l hl
        rcases List.mem_append.1 hl with hl | hl
        · exact colsR_lens (by omega) (by omega) h1 l hl
        · obtain rfl : l = _ := List.mem_singleton.1 hl
          rw [colE_at _ (by omega) (by omega)] at h2 ⊢
          exact colR_is h2
      · rw [colsR_stop h1 h2] at h; exact absurd h h2
    · rw [colsR_err h1 (k + 1) (by omega)] at h; exact absurd h h1
theorem piece_at {b : List UInt8} {chs : List Ch} {k : Nat} (h : k < chs.length) : pieceF b (chs.getD k ⟨0, 0, noZn⟩) = (b.drop chs[k].off).take chs[k].len := by
  have : chs.getD k ⟨0, 0, noZn⟩ = chs[k] := by simp [h]
  rw [this]; rfl

/-- chunks and rows lie in other blocks -/
theorem ho_ne {w : World} {B B' g n cap : Nat} {u : Value} {l : List Ch} {rs : List (List Cl)} (h : Ho w B u l) (hr : Ro w B' (.slice (some ⟨g, 0, none⟩) n cap) rs) : ∀ q, u.ownBlock = some q → q ≠ g := by
  rintro q hq rfl
  obtain ⟨hs, _, h2, _⟩ := hr
  obtain ⟨c1, e1⟩ := h.kind q hq
  obtain ⟨c2, e2⟩ := h2.kind q rfl
  rw [e1] at e2
  simp at e2
/-- rows of the call's own stand, if a cell of other rows' own block turns -/
theorem Ro.fr1 {w w1 : World} {g0 n0 cap0 g n cap B B' : Nat} {rs rs' : List (List Cl)} (h : Ro w B (.slice (some ⟨g0, 0, none⟩) n0 cap0) rs) (hr : Ro w B' (.slice (some ⟨g, 0, none⟩) n cap) rs') (hne : g0 ≠ g) (hf : Fr (One g) w w1) : Ro w1 B (.slice (some ⟨g0, 0, none⟩) n0 cap0) rs := by
  obtain ⟨hs, e1, e2, e3⟩ := h
  obtain ⟨hs', _, e2', _⟩ := hr
  obtain ⟨cur, hg⟩ := e2'.kind g rfl
  refine ⟨hs, e1, e2.fr hf (fun k hk e => hne ?_), fun i a b => (e3 i a b).fr hf (oc_kind_ne (e3 i a b) hg cell_ne_cells)⟩
  have h1 : g0 = k := by simpa [Value.ownBlock] using hk
  exact h1.trans e

/-- what a walk asks of a footer's words and of a chunk's place -/
theorem s4_of {w : World} {g8 gc : Nat} {T t : TypeId} {R off len : Int} {u a2 a3 a4 a5 a6 a7 a8 a9 : Value} (hB : Blk w g8 T #[.int .i64 R, u]) (cb : Blk w gc t #[.int .i64 off, .int .i64 len, a2, a3, a4, a5, a6, a7, a8, a9]) :
    w.cell? ⟨g8, 0, none⟩ = some (.int .i64 R) ∧ w.cell? ⟨g8, 1, none⟩ = some u ∧ w.cell? ⟨gc, 0, none⟩ = some (.int .i64 off) ∧ w.cell? ⟨gc, 1, none⟩ = some (.int .i64 len) :=
  ⟨hB.cell 0, hB.cell 1, cb.cell 0, cb.cell 1⟩

set_option maxHeartbeats 8000000 in
theorem srows_any (v1 vb : Value) (cols : List Co) (b : List UInt8) (foot : Int) (w : World) (h1 : Ks w v1 cols) (hv : Bs w vb b) (ht : Tab w) (hvl : ∀ q, v1.ownBlock = some q → q < w.heap.size) (hl : cols.length ≤ 1000000000) (hn : ∀ c ∈ cols, c.name.length ≤ 1000000000) (hb : b.length ≤ 100000) :
    Calls Tryz.prog 12 #[v1, vb, .int .i64 foot] w fun e w' => RowR w' w.heap.size (rowsR cols b foot) e ∧ Fr Non w w' := by
  obtain ⟨A1, c1, rfl⟩ := h1.shape
  obtain ⟨A, c, rfl, hlc, _⟩ := hv
  have hv : Bs w (.slice A b.length c) b := ⟨A, c, rfl, hlc, by assumption⟩
  by_cases hf0 : foot < 0
  · have d0 : decide (foot < 0) = true := by simpa using hf0
    have HE := Lib.hid (rowsR_arg (cols := cols) (b := b) (.inl hf0))
    clear hf0 h1 hv ht hvl hn
    go_enter Tryz.func12, Tryz.ntmps12
    go_wp2
    go_ret2
    exact ⟨rowR_no HE.out, Fr.refl _ _⟩
  · have d0 : decide (foot < 0) = false := by simpa using hf0
    by_cases hf1 : (b.length : Int) < foot
    · have d1 : decide ((b.length : Int) < foot) = true := by simpa using hf1
      have HE := Lib.hid (rowsR_arg (cols := cols) (b := b) (.inr hf1))
      clear hf0 hf1 h1 hv ht hvl hn
      go_enter Tryz.func12, Tryz.ntmps12
      go_wp2
      go_ret2
      exact ⟨rowR_no HE.out, Fr.refl _ _⟩
    · obtain ⟨n, rfl⟩ : ∃ n : Nat, foot = (n : Int) := ⟨foot.toNat, by omega⟩
      have hnb : n ≤ b.length := by omega
      have d1 : decide ((b.length : Int) < (n : Int)) = false := decide_eq_false (by omega)
      have d2 : decide (b.length < n) = false := decide_eq_false (by omega)
      have d3 : decide ((n : Int) < 0) = false := decide_eq_false (by omega)
      obtain ⟨As, cs, hrun, hbs, _⟩ := slice_lo A b.length c (b.length - n) .i64 ((b.length : Int) - n) (by omega) (by omega) hlc
      rw [show b.length - (b.length - n) = n by omega] at hrun hbs
      have HV := Lib.hid hv
      have HT := Lib.hid ht
      have H1 := Lib.hid h1
      have hfl : (b.drop (b.length - n)).length = n := by rw [List.length_drop]; omega
      have HRd := Lib.hid (sread_any _ _ cols (b.drop (b.length - n)) b.length w h1 (hbs w b rfl hv) ht hvl hl hn (by omega))
      have HIs := Lib.hid (fun h => readF_is (cols := cols) (b := b.drop (b.length - n)) (size := b.length) h)
      have HR1 := Lib.hid (fun e R chs h he => rowsR_read (cols := cols) (b := b) (foot := n) (e := e) (R := R) (chs := chs) hnb h he)
      have HR2 := Lib.hid (fun R chs h hc => rowsR_cols (cols := cols) (b := b) (foot := n) (R := R) (chs := chs) hnb h hc)
      have HR3 := Lib.hid (fun R chs h hc => rowsR_yes (cols := cols) (b := b) (foot := n) (R := R) (chs := chs) hnb h hc)
      have HFl := Lib.hid hfl
      clear h1 hv ht hvl hn hbs hf0 hf1 d0 hfl
      unfold RdR at HRd
      generalize hX : readF cols (b.drop (b.length - n)) b.length = X at *
      obtain ⟨E, R, chs⟩ := X
      dsimp only at HIs HRd
      have HIs2 := Lib.hid HIs.out
      clear hX
      go_enter Tryz.func12, Tryz.ntmps12
      go_wp2_with fail
      refine HRd.out.mono ?_
      rintro e w1 ⟨⟨u1, rfl, ho1⟩, f1⟩
      obtain ⟨Au, cu, rfl⟩ := (ho1.ns fd_ch).shape
      have fa := (Fr.refl Non w1).alloc (.cells #[.int .i64 (R : Int), .slice Au chs.length cu] 40)
      have hB : FtB (w1.alloc (.cells #[.int .i64 (R : Int), .slice Au chs.length cu] 40)) w1.heap.size R (.slice Au chs.length cu) := Blk.new _ _ _
      have F2 := f1.trans fa
      have hO2 := ho1.alloc (.cells #[.int .i64 (R : Int), .slice Au chs.length cu] 40)
      by_cases hE : E = 0
      · obtain rfl : E = 0 := hE
        obtain ⟨hc, hR1, hR2, hcl, e0, hch, hsz⟩ := HIs.out rfl
        rw [HFl.out] at hsz
        have HPl := Lib.hid (chain_le chs 0 e0 hch).2
        have he0 : e0 ≤ b.length := by omega
        have hc6 := (chk_is hc).2.2.2
        have hcl1 : chs.length ≤ cols.length := by omega
        have hcl2 : cols.length ≤ chs.length := by omega
        have HQ2 := Lib.hid (HR2.out R chs (by first | rfl | trivial))
        have HQ3 := Lib.hid (HR3.out R chs (by first | rfl | trivial))
        have HB2 : Hid (FtB _ _ _ _) := Lib.hid hB
        have HF2 := Lib.hid F2
        have HO2 := Lib.hid hO2
        have hz2 : (w1.alloc (.cells #[.int .i64 (R : Int), .slice Au chs.length cu] 40)).heap.size = w1.heap.size + 1 := by simp
        have HWs := Lib.hid f1.size
        clear hc hB F2 hO2 fa f1 ho1 HRd hch hsz hcl HIs HIs2 HR1 HR2 HR3
        go_wp2_with (at_make; refine wpList_mkfullG (f := slV) el_rows noSl rfl rfl _ _ rfl _ _ _ _ cols.length rfl rfl rfl rfl (by omega) ?_; intro w3 hown3 hf3; (try rw [hz2] at hown3); (try rw [hz2]); have b3 := HB2.out.fr hf3 (fun e => e); have y1 : w3.cell? ⟨w1.heap.size, 1, none⟩ = some (.slice Au chs.length cu) := b3.cell 1)
        have ho3 := ro_made hown3
        have hO3 := HO2.out.non hf3
        have F3 := HF2.out.trans hf3
        clear HB2 HO2 HF2 hf3 hown3 hz2 y1
        generalize hg8 : w1.heap.size = g8 at *
        have hg8w : w.heap.size ≤ g8 := by have := HWs.out; omega
        clear hg8 HWs
        go_loopw [45] (fun i wr => ∃ k : Nat, k ≤ chs.length ∧ i = .int .i64 k ∧ Hid ((colsR cols R chs b k).1 = 0) ∧ FtB wr g8 R (.slice Au chs.length cu) ∧ Ho wr w.heap.size (.slice Au chs.length cu) chs ∧ Ro wr (g8 + 1) (.slice (some ⟨g8 + 1, 0, none⟩) cols.length cols.length) ((colsR cols R chs b k).2 ++ List.replicate (cols.length - k) []) ∧ Fr Non w wr) (fun i _ => chs.length - (intOf i).toNat)
        case atStart => exact ⟨0, Nat.zero_le _, rfl, Lib.hid rfl, b3, hO3, ho3, F3⟩
        case round =>
          clear b3 hO3 ho3 F3
          obtain ⟨k, hk, rfl, HK, hB, hO, hRo, hF⟩ := hrel
          have hg8lt := hB.lt
          have hgcl := (hRo.lt _ rfl).2
          have HGl : Hid (g8 + 1 < wr.heap.size) := Lib.hid hgcl
          by_cases hlt : k < chs.length
          · have hD := colsR_len HK.out
            have hOn := hO.ns fd_ch
            obtain ⟨a2, rfl, _⟩ := hOn.at_ k chs[k] (List.getElem?_eq_getElem hlt)
            obtain ⟨g0, g1, g2, g3, g4, g5, g6, g7, g8', g9⟩ := hs_lit hOn k chs[k] (List.getElem?_eq_getElem hlt)
            have hpl := HPl.out k hlt
            have HPc := Lib.hid (piece_at (b := b) hlt)
            have HMore := Lib.hid (fun h2 => colsR_more (b := b) HK.out h2)
            have HStop := Lib.hid (fun h2 => colsR_stop (b := b) HK.out h2)
            have hsh := colE_short (cols := cols) (R := R) (chs := chs) (i := k) (b := pieceF b (chs.getD k ⟨0, 0, noZn⟩))
            generalize hcol : colE cols R chs k (pieceF b (chs.getD k ⟨0, 0, noZn⟩)) = col at *
            generalize (colsR cols R chs b k).2 = D at *
            generalize chs[k] = ch at *
            have hkc : k < cols.length := by omega
            obtain ⟨off, len, zc⟩ := ch
            dsimp only at g0 g1 g2 g3 g4 g5 g6 g7 g8' g9 hpl HPc
            obtain ⟨A5, c5, hrun5, hbs5, _⟩ := slice_lh A b.length c off (off + len) .i64 .i64 (off : Int) ((off : Int) + len) rfl (by push_cast; rfl) (by omega) (by omega) hlc
            rw [show off + len - off = len by omega] at hrun5 hbs5
            have hww : IntKind.i64.wrap ((off : Int) + len) = (off : Int) + len := IntWalk.i64_in _ ⟨by omega, by omega⟩
            have fa := (Fr.refl Non wr).alloc (.cells #[.int .i64 (off : Int), .int .i64 (len : Int), .int .i64 zc.rows, .int .i64 zc.nulls, .bool zc.low.null, .int .i64 zc.low.num, .string ⟨zc.low.txt.toArray⟩, .bool zc.high.null, .int .i64 zc.high.num, .string ⟨zc.high.txt.toArray⟩] 58)
            have cb : Blk (wr.alloc (.cells #[.int .i64 (off : Int), .int .i64 (len : Int), .int .i64 zc.rows, .int .i64 zc.nulls, .bool zc.low.null, .int .i64 zc.low.num, .string ⟨zc.low.txt.toArray⟩, .bool zc.high.null, .int .i64 zc.high.num, .string ⟨zc.high.txt.toArray⟩] 58)).drew wr.heap.size 58 #[.int .i64 (off : Int), .int .i64 (len : Int), .int .i64 zc.rows, .int .i64 zc.nulls, .bool zc.low.null, .int .i64 zc.low.num, .string ⟨zc.low.txt.toArray⟩, .bool zc.high.null, .int .i64 zc.high.num, .string ⟨zc.high.txt.toArray⟩] := Blk.new _ _ _
            have fd : Fr Non wr (wr.alloc (.cells #[.int .i64 (off : Int), .int .i64 (len : Int), .int .i64 zc.rows, .int .i64 zc.nulls, .bool zc.low.null, .int .i64 zc.low.num, .string ⟨zc.low.txt.toArray⟩, .bool zc.high.null, .int .i64 zc.high.num, .string ⟨zc.high.txt.toArray⟩] 58)).drew := fa.drew
            have hBd := hB.fr fd (fun e => e)
            have hOd := hO.non fd
            have hRd := hRo.non fd
            have hFd := hF.trans fd
            have CC := Lib.hid (scolumn_any _ _ _ cols chs R k _ _ (H1.out.non hFd) (hOd.ns fd_ch) (hbs5 _ b rfl (HV.out.non hFd)) (HT.out.non hFd) hl (by omega) (by rw [List.length_take, List.length_drop]; omega))
            rw [← HPc.out, hcol] at CC
            have s1 := s4_of hBd cb
            have HFd := Lib.hid hFd
            have HBd : Hid (FtB _ _ _ _) := Lib.hid hBd
            have HOd := Lib.hid hOd
            have HRd := Lib.hid hRd
            have HCb : Hid (Blk _ _ _ _) := Lib.hid cb
            have HGn : Hid (∀ q, (Value.slice (some a2) chs.length cu).ownBlock = some q → q ≠ g8 + 1) := Lib.hid (ho_ne hO hRo)
            have hszd := Lib.hid hFd.size
            have hzz : (wr.alloc (.cells #[.int .i64 (off : Int), .int .i64 (len : Int), .int .i64 zc.rows, .int .i64 zc.nulls, .bool zc.low.null, .int .i64 zc.low.num, .string ⟨zc.low.txt.toArray⟩, .bool zc.high.null, .int .i64 zc.high.num, .string ⟨zc.high.txt.toArray⟩] 58)).drew.heap.size = wr.heap.size + 1 := by simp [World.drew]
            obtain ⟨E2, l2⟩ := col
            unfold ColR at CC
            dsimp only at CC hsh HMore HStop
            have hlenR : cols.length = (D ++ List.replicate (cols.length - k) ([] : List Cl)).length := by simp; omega
            have HLR := Lib.hid hlenR
            have hjR : k < (D ++ List.replicate (cols.length - k) ([] : List Cl)).length := by simp; omega
            have HSet : Hid ((D ++ List.replicate (cols.length - k) ([] : List Cl)).set k l2 = (D ++ [l2]) ++ List.replicate (cols.length - (k + 1)) []) := Lib.hid (by
              have := rep_set D (cols.length - k) ([] : List Cl) l2 (by omega)
              rw [hD, show cols.length - k - 1 = cols.length - (k + 1) by omega] at this; exact this)
            clear hB hO hRo hF fd hBd hOd hRd hFd cb fa hD hcol HK hlenR hOn
            go_wp2
            go_region_held3 (fun W => W.cell? ⟨g8, 0, none⟩ = some (.int .i64 R) ∧ W.cell? ⟨g8, 1, none⟩ = some (.slice (some a2) chs.length cu) ∧ W.cell? ⟨wr.heap.size, 0, none⟩ = some (.int .i64 off) ∧ W.cell? ⟨wr.heap.size, 1, none⟩ = some (.int .i64 len)) (first | exact s1 | exact s2 | exact s3 | fail) (first | (go_at_call 20; (with_reducible refine CC.out.mono ?_); rintro e w4 ⟨⟨u4, rfl, ho4⟩, f4⟩; obtain ⟨A4, c4, rfl⟩ := ho4.shape; have b4 := HBd.out.fr f4 (fun e => e); have cb4 := HCb.out.fr f4 (fun e => e); have r4 := HRd.out.non f4; have o4 := HOd.out.non f4; have F4 := HFd.out.trans f4; have s2 := s4_of b4 cb4; obtain ⟨At, ct, tcell, _⟩ := r4.el HLR.out k hjR; have tfz := r4.frozen HLR.out k; have fs := (Fr.refl (One (g8 + 1)) w4).set1 k (.slice A4 l2.length c4); have b5 := b4.fr fs (fun e => by have h1 : g8 = g8 + 1 := e; omega); have hgc := (r4.lt _ rfl).2; have cb5 := cb4.fr fs (fun e => by have h1 : wr.heap.size = g8 + 1 := e; exact absurd h1 (by have := HGl.out; omega)); have s3 := s4_of b5 cb5))
            have R4 : Ro (w4.setCell ⟨g8 + 1, k, none⟩ (.slice A4 l2.length c4)) (g8 + 1) (.slice (some ⟨g8 + 1, 0, none⟩) cols.length cols.length) ((D ++ List.replicate (cols.length - k) []).set k l2) := r4.put HLR.out k (ho4.mono (by have := HGl.out; omega))
            rw [HSet.out] at R4
            have O5 := o4.fr fs (fun q hq e => by have h1 : q = g8 + 1 := e; exact HGn.out q hq h1)
            have F5 := F4.fresh fs (fun q e => by have h1 : q = g8 + 1 := e; omega)
            have HR4 := Lib.hid R4
            have HO5 := Lib.hid O5
            have HB5 : Hid (FtB _ _ _ _) := Lib.hid b5
            have HF5 := Lib.hid F5
            clear R4 O5 F5 fs b4 b5 cb4 cb5 r4 o4 F4 s1 s2 s3 tcell tfz CC HFd HBd HOd HRd HCb f4 ho4 hgc
            by_cases hE2 : E2 = 0
            · have hEb : (E2 != 0) = false := by rw [hE2]; rfl
              have HM := Lib.hid (HMore.out hE2)
              clear HMore HStop hE2
              go_wp2
              go_roundw
              case rel => exact ⟨k + 1, by omega, by go_num, Lib.hid (by rw [HM.out]), HB5.out, HO5.out, by rw [HM.out]; exact HR4.out, HF5.out⟩
              case measure => simp [intOf]; omega
            · have hEb : (E2 != 0) = true := by rw [bne_iff_ne]; exact hE2
              have hst := HStop.out hE2
              have hall : colsR cols R chs b cols.length = (E2, []) := by rw [colsR_err (k := k + 1) (by rw [hst]; exact hE2) cols.length (by omega), hst]
              have HRow := Lib.hid (HQ2.out (by rw [hall]; exact hE2))
              rw [hall] at HRow
              clear HMore HStop hE2 hst hall
              go_wp2
              go_ret2
              exact ⟨rowR_no HRow.out, HF5.out⟩
          · have hkn : k = cols.length := by omega
            have HKn := Lib.hid hkn
            have hcs := HK.out
            have hlens := colsR_lens (cols := cols) (R := R) (chs := chs) (b := b) (k := k) (by omega) (by omega) hcs
            rw [hkn] at hcs hlens
            have HRow := Lib.hid (HQ3.out hcs)
            rw [show cols.length - k = 0 by omega, List.replicate_zero, List.append_nil, hkn] at hRo
            have hcl := colsR_len hcs
            generalize (colsR cols R chs b cols.length).2 = L at *
            have hLl : cols.length = L.length := hcl.symm
            have HLl := Lib.hid hLl
            have k0 : wr.cell? ⟨g8, 0, none⟩ = some (.int .i64 R) := hB.cell 0
            have HRo := Lib.hid hRo
            have HF := Lib.hid hF
            have hszr := hF.size
            have HAc := Lib.hid (across_length L R)
            have HAt := Lib.hid (fun j h => across_at L R j h)
            clear hB hO hRo hF HK hcs hcl hLl hkn HGl
            go_wp2_with (at_make; refine wpList_mkfullG (f := slV) el_rows noSl rfl rfl _ _ rfl _ _ _ _ R rfl rfl rfl rfl (by omega) ?_; intro w5 hown5 hf5)
            have ho5 := ro_made hown5
            have hL5 := HRo.out.non hf5
            have F5 := HF.out.trans hf5
            clear hown5 hf5 k0
            generalize hgr : wr.heap.size = gr at *
            have HGr := Lib.hid (Nat.le_of_eq hgr)
            have hgne : g8 + 1 ≠ gr := by omega
            clear hgr
            rename World => wold
            go_loopw [78] (fun i wr => ∃ j : Nat, j ≤ R ∧ i = .int .i64 j ∧ Ro wr gr (.slice (some ⟨gr, 0, none⟩) R R) ((across L R).take j ++ List.replicate (R - j) []) ∧ Ro wr (g8 + 1) (.slice (some ⟨g8 + 1, 0, none⟩) cols.length cols.length) L ∧ Fr Non w wr) (fun i _ => R - (intOf i).toNat)
            case atStart => exact ⟨0, Nat.zero_le _, rfl, by simpa using ho5, hL5, F5⟩
            case round =>
              clear ho5 hL5 F5
              obtain ⟨j, hj, rfl, hRo, hL, hF⟩ := hrel
              by_cases hltj : j < R
              · have AC := Lib.hid (across_any _ L j wr hL.rs (by have := HLl.out; omega) (fun r hr => by have := hlens r hr; omega))
                have HSet2 : Hid (((across L R).take j ++ List.replicate (R - j) ([] : List Cl)).set j (colC L j) = (across L R).take (j + 1) ++ List.replicate (R - (j + 1)) []) := Lib.hid (by
                  have hl := HAc.out
                  have htl : ((across L R).take j).length = j := by rw [List.length_take]; omega
                  have := rep_set ((across L R).take j) (R - j) ([] : List Cl) (colC L j) (by omega)
                  rw [htl, show R - j - 1 = R - (j + 1) by omega] at this
                  rw [this, List.take_succ_eq_append_getElem (by omega : j < (across L R).length), HAt.out j (by omega)]
                  rfl)
                have hlR : R = ((across L R).take j ++ List.replicate (R - j) ([] : List Cl)).length := by have := HAc.out; simp; omega
                have HLR2 := Lib.hid hlR
                have HRo2 := Lib.hid hRo
                have HL2 := Lib.hid hL
                have HF2 := Lib.hid hF
                have hjl : j < ((across L R).take j ++ List.replicate (R - j) ([] : List Cl)).length := by omega
                have HJl := Lib.hid hjl
                clear hRo hL hF hlR hjl
                go_wp2_with fail
                refine AC.out.mono ?_
                rintro e w6 ⟨u6, rfl, ho6, f6⟩
                obtain ⟨A6, c6, rfl⟩ := ho6.shape
                have r6 := HRo2.out.non f6
                obtain ⟨At, ct, tcell, _⟩ := r6.el HLR2.out j HJl.out
                have tfz := r6.frozen HLR2.out j
                have hgrl := (r6.lt _ rfl).2
                have hszq := HF2.out.size
                have r7 := r6.put HLR2.out j (ho6.mono (show gr ≤ wr.heap.size from by have h9 : gr < wr.heap.size := (HRo2.out.lt _ rfl).2; omega))
                rw [HSet2.out] at r7
                have fs := (Fr.refl (One gr) w6).set1 j (.slice A6 (colC L j).length c6)
                have hL7 := (HL2.out.non f6).fr1 r6 hgne fs
                have hF7 := (HF2.out.trans f6).fresh fs (fun q e => by have h1 : q = gr := e; omega)
                have HRel := Lib.hid (And.intro r7 (And.intro hL7 hF7))
                clear r6 r7 fs hL7 hF7 ho6 f6 AC HRo2 HL2 HF2
                go_wp2
                go_roundw
                case rel => exact ⟨j + 1, by omega, by go_num, HRel.out.1, HRel.out.2.1, HRel.out.2.2⟩
                case measure => simp [intOf]; omega
              · obtain rfl : j = R := by omega
                rw [Nat.sub_self, List.replicate_zero, List.append_nil, List.take_of_length_le (by rw [HAc.out]; exact Nat.le_refl _)] at hRo
                have HF := Lib.hid hF
                have HRo2 := Lib.hid (hRo.mono (show w.heap.size ≤ gr by have := HGr.out; omega))
                clear hF hRo hL
                go_wp2
                go_ret2
                exact ⟨rowR_ok HRow.out HRo2.out, HF.out⟩
      · have hEb : (E != 0) = true := by rw [bne_iff_ne]; exact hE
        have HRow := Lib.hid (HR1.out E R chs (by first | rfl | trivial) hE)
        have HF2 := Lib.hid F2
        clear hE hB F2 hO2 fa f1 ho1 HRd
        go_wp2
        go_ret2
        exact ⟨rowR_no HRow.out, HF2.out⟩
end Go.Proofs.YtheefloegbkflaaGreatDoor


namespace Go.Proofs.YtheefloegbkflaaGreatDoor
set_option linter.unusedVariables false
set_option linter.unusedSimpArgs false
set_option maxRecDepth 100000
open Go.RowKit

def GeN (B : Nat) : Nat → Prop := fun k => B ≤ k
theorem mostR_len (l : List UInt8) (m : Int) : (mostR l m).length ≤ l.length := by
  unfold mostR
  split
  · exact rest_le l
  · simp

set_option maxHeartbeats 4000000 in
theorem rrnget_any (v : Value) (b : List UInt8) (n : Int) (w : World) (hv : Bs w v b) (hvl : ∀ k, v.ownBlock = some k → k < w.heap.size) (hl : b.length ≤ 100000000) (h1 : -9223372036854775808 ≤ n) (h2 : n ≤ 400) :
    Calls Tryz.prog 141 #[v, .int .i64 n] w fun e w' => Gtn w' w.heap.size (gtM b n) e ∧ Fr Non w w' := by
  have hsz := hvl
  have S0 : ∀ W, W = w.alloc (.cells #[v, .bool false] 88) → SAt W w.heap.size (GeN w.heap.size) b false := by
    rintro W rfl
    exact ⟨v, Blk.new _ _ _, hv.non ((Fr.refl _ _).alloc _), (fun k hk e => by have := hsz k hk; unfold GeN at e; omega), by unfold GeN; omega, fun h => by cases h⟩
  have HS0 := Lib.hid S0
  clear S0 hsz
  obtain ⟨A, c, rfl, _⟩ := hv
  have HG := Lib.hid (show gtM b n = gtz b n none by unfold gtM; rw [if_pos (by omega)])
  clear hvl
  go_enter Tryz.func141, Tryz.ntmps141
  go_wp2
  have s1 := HS0.out _ rfl
  have hg1 := s1.cells
  have hown1 : Ow iv 2 ((w.alloc (.cells #[.slice A b.length c, .bool false] 88)).alloc (.cells #[] 2)) (w.heap.size + 1) (.slice (some ⟨w.heap.size + 1, 0, none⟩) 0 0) [] := ow_lit0 _ _ _ (by simp) (Nat.le_refl _)
  have f1 : Fr Non w ((w.alloc (.cells #[.slice A b.length c, .bool false] 88)).alloc (.cells #[] 2)) := ((Fr.refl _ _).alloc _).alloc _
  have s2 := s1.fr (S' := Non) ((Fr.refl _ _).alloc (.cells #[] 2)) (fun e => e) (fun _ e => e.elim)
  have hBB : w.heap.size + 1 ≤ ((w.alloc (.cells #[.slice A b.length c, .bool false] 88)).alloc (.cells #[] 2)).heap.size := by simp
  clear s1 hg1
  generalize hgg : w.heap.size = g at *
  have HW := Lib.hid hgg
  clear hgg
  go_loopw [7] (fun x wr => ∃ (r : List UInt8) (o : List Int), Ow iv 2 wr (g + 1) x o ∧ ((o.length : Int) ≤ n ∨ o.length = 0) ∧ r.length ≤ b.length ∧ SAt wr g (GeN g) r false ∧ Hid (gtz b n none = (gtz r (n - o.length) o.getLast?).map (o ++ ·)) ∧ g + 1 ≤ wr.heap.size ∧ Fr Non w wr) (fun x _ => 401 - slLen x)
  case atStart => exact ⟨b, [], hown1, .inr rfl, Nat.le_refl _, s2, Lib.hid (by simp), hBB, f1⟩
  case round =>
    obtain ⟨r, o, hown, hom, hrb, hs, HI, hBr, hfr⟩ := hrel
    have HO := Lib.hid hown
    have HF := Lib.hid hfr
    obtain ⟨A1, c1, rfl⟩ := hown.shape
    clear hown hfr hown1 s2 f1 hBB
    have HIo := HI.out
    generalize hol : o.length = ol at *
    have HL := Lib.hid hol
    clear hol HI
    have ho4 : ol ≤ 400 := by omega
    obtain ⟨Ar, cr, cc0, cc1, ff0, _⟩ := hs.cells
    cases r with
    | nil =>
      simp only [List.length_nil] at cc0
      by_cases hz : n - ol = 0
      · have HR : Hid (gtz b n none = some o) := Lib.hid (by rw [HIo, hz, gtz_nil]; simp)
        have hb : ((ol : Int) != n) = false := by rw [bne_eq_false_iff_eq]; omega
        have HZ := Lib.hid hz
        clear HIo hz
        go_wp2
        go_ret2
        exact ⟨gtn_yes (HG.out.trans HR.out) (HO.out.mono (by have := HW.out; omega)), HF.out⟩
      · have HR : Hid (gtz b n none = none) := Lib.hid (by rw [HIo, gtz_none hz]; rfl)
        have hb : ((ol : Int) != n) = true := by rw [bne_iff_ne]; omega
        clear HIo hz
        go_wp2
        go_ret2
        exact ⟨gtn_no (HG.out.trans HR.out), HF.out⟩
    | cons r0 r1 =>
      have hrl : (0 : Int) < ((r0 :: r1).length : Int) := by simp
      have hne : r0 :: r1 ≠ [] := by simp
      generalize r0 :: r1 = r at *
      have hrl9 : r.length < 1000000000 := by omega
      cases hx : nxR r 400 with
      | none =>
        have HR : Hid (gtz b n none = none) := Lib.hid (by rw [HIo, gtz_bad hne (by omega) hx]; rfl)
        have hfe := step_none (z := 401 - 1) hx rfl
        have hml := mostR_len r (401 - 1)
        clear hx hne HIo
        go_wp2_with fail
        refine (rbelow_any g (GeN g) r false 401 wr hs hrl9 (by omega)).mono ?_
        rintro e w3 ⟨rfl, s3, f3⟩
        generalize mostV r (401 - 1) = mv at *
        go_wp2_with fail
        refine (rsint_any g (GeN g) _ _ w3 s3 (by omega)).mono ?_
        rintro e w4 ⟨rfl, s4, f4⟩
        rw [hfe] at s4
        generalize unzig (fstN (mostR r (401 - 1))) = mz at *
        clear hfe s3 hml cc0 cc1 ff0
        obtain ⟨Ar, cr, cc0, cc1, ff0, _⟩ := s4.cells
        have hf4 := (HF.out.fresh (f3.trans f4) (fun k e => by have : k = g := e; have := HW.out; omega))
        clear f3 f4
        go_wp2
        go_ret2
        exact ⟨gtn_no (HG.out.trans HR.out), hf4⟩
      | some y =>
        obtain ⟨k, x, q⟩ := y
        obtain ⟨e1, e2, e3, e4, hkm, hxx⟩ := step_some (z := 401 - 1) hx rfl
        have hql := nxR_le hx
        have hb0 := rbelow_any g (GeN g) r false 401 wr hs hrl9 (by omega)
        rw [e1] at hb0
        have hi0 : ∀ w3, SAt w3 g (GeN g) (mostR r (401 - 1)) (mostB r (401 - 1)) →
            Calls Tryz.prog 136 #[ptr g] w3 fun e w' => e = .returned (.int .i64 x) ∧ SAt w' g (GeN g) q false ∧ Fr (One g) w3 w' := by
          intro w3 s3
          have := rsint_any g (GeN g) _ _ w3 s3 (by have := mostR_len r (401 - 1); omega)
          rwa [e2, e3, e4] at this
        have HI0 := Lib.hid hi0
        have HX := Lib.hid hx
        clear e1 e2 e3 e4 hi0 hne hx
        have hw1 := HW.out
        by_cases hbig : n - ol < (k : Int) + 1
        · have HR : Hid (gtz b n none = none) := Lib.hid (by rw [HIo, gtz_big HX.out hbig]; rfl)
          clear HIo
          go_wp2_with fail
          refine hb0.mono ?_
          rintro e w3 ⟨rfl, s3, f3⟩
          go_wp2_with fail
          refine (HI0.out w3 s3).mono ?_
          rintro e w4 ⟨rfl, s4, f4⟩
          have hf4 := (HF.out.fresh (f3.trans f4) (fun k e => by have : k = g := e; omega))
          clear f3 f4 cc0 cc1 ff0
          obtain ⟨Ar, cr, cc0, cc1, ff0, _⟩ := s4.cells
          go_wp2
          go_ret2
          exact ⟨gtn_no (HG.out.trans HR.out), hf4⟩
        · have hfit : (k : Int) + 1 ≤ n - ol := by omega
          have hd : decide (n - ol < (k : Int) + 1) = false := by simpa using hfit
          cases hla : o.getLast? with
          | none =>
            have hol : o = [] := by simpa using hla
            have h0 : ol = 0 := by rw [← HL.out, hol]; rfl
            have HIN : Hid (gtz b n none = (gtz q (n - ol - ((k : Int) + 1)) (some x)).map (o ++ List.replicate (k + 1) x ++ ·)) := Lib.hid (by
              rw [HIo, gtz_more HX.out hfit (by rw [hla]; simp), more_app])
            subst h0
            clear hol
            clear HIo hla
            go_wp2_with fail
            refine hb0.mono ?_
            rintro e w3 ⟨rfl, s3, f3⟩
            go_wp2_with fail
            refine (HI0.out w3 s3).mono ?_
            rintro e w4 ⟨rfl, s4, f4⟩
            have f34 := f3.trans f4
            have hB4 := Nat.le_trans hBr f34.size
            have hf4 := (HF.out.fresh f34 (fun k e => by have : k = g := e; omega))
            have hown4 := HO.out.fr f34 (fun k hk e => by have h1 := (HO.out.lt k hk).1; have : k = g := e; omega)
            clear f3 f4 s3 f34 cc0 cc1 ff0
            obtain ⟨Ar, cr, cc0, cc1, ff0, _⟩ := s4.cells
            go_wp2
            go_loopw [7, 10] (fun u i wx => ∃ j : Nat, j ≤ k + 1 ∧ i = .int .i64 j ∧ Ow iv 2 wx (g + 1) u (o ++ List.replicate j x) ∧ SAt wx g (GeN g) q false ∧ g + 1 ≤ wx.heap.size ∧ Fr Non w wx) (fun _ i _ => k + 1 - (intOf i).toNat)
            case atStart => exact ⟨0, Nat.zero_le _, rfl, by simpa using hown4, s4, hB4, hf4⟩
            case round =>
              clear hown4 s4 hf4 hB4 cc0 cc1 ff0
              obtain ⟨j, hj, rfl, hown, hs, hBx, hfr⟩ := hrel
              by_cases hlj : j < k + 1
              · have HLen : Hid ((o ++ List.replicate j x).length < 1099511627776) := Lib.hid (by rw [List.length_append, HL.out, List.length_replicate]; omega)
                have HS := Lib.hid (show o ++ List.replicate j x ++ [x] = o ++ List.replicate (j + 1) x by rw [List.replicate_succ', List.append_assoc])
                go_wp2_with (at_builtin; refine wpList_pushG el_i64 iv_oneC rfl (.tmp 58) (.tmp 60) rfl (g + 1) _ (o ++ List.replicate j x) rfl hown _ x rfl rfl HLen.out hBx ?_; intro v5 w5 hown5 hf5)
                have hf5n := hfr.fresh hf5 (fun q hq => by have := (hown.lt q hq).1; have := HW.out; omega)
                go_roundw
                case rel => exact ⟨j + 1, by omega, by go_num, by rw [← HS.out]; exact hown5, hs.fr hf5 (fun e => by have := (hown.lt _ e).1; omega) (fun q hq => by have := (hown.lt _ hq).1; unfold GeN; omega), Nat.le_trans hBx hf5.size, hf5n⟩
                case measure => simp [intOf]; omega
              · obtain rfl : j = k + 1 := by omega
                have hsl := slLen_vs hown.vs
                rw [List.length_append, HL.out, List.length_replicate] at hsl
                go_wp2
                go_roundw
                case rel => exact ⟨q, o ++ List.replicate (k + 1) x, hown, .inl (by rw [List.length_append, HL.out, List.length_replicate]; omega), by omega, hs, Lib.hid (by rw [HIN.out, last_more, List.length_append, HL.out, List.length_replicate]; congr 2; push_cast; omega), hBx, hfr⟩
                case measure => rw [hsl]; simp [slLen]; omega
          | some y =>
            obtain ⟨t, ht, hyt⟩ := last_at hla
            have hot : ol = t + 1 := by rw [← HL.out]; exact ht
            have hcl : ∃ g2, A1 = some ⟨g2, 0, none⟩ ∧ g + 1 ≤ g2 ∧ g2 < wr.heap.size ∧ wr.cell? ⟨g2, t, none⟩ = some (.int .i64 y) := by
              obtain ⟨g2, cap, he, h1, h2, _⟩ := HO.out.row (by omega)
              simp only [Value.slice.injEq] at he
              obtain ⟨rfl, _, _⟩ := he
              exact ⟨g2, rfl, h1, h2, HO.out.cell HL.out.symm t y hyt⟩
            obtain ⟨g2, rfl, hg2, hg2s, hc2⟩ := hcl
            subst hot
            clear ht hyt
            by_cases hyx : y = x
            · have HR : Hid (gtz b n none = none) := Lib.hid (by
                rw [HIo, gtz_same HX.out hfit (by rw [hla, hyx])]; rfl)
              have hb : (y == x) = true := by simp [hyx]
              clear HIo hla hyx
              go_wp2_with fail
              refine hb0.mono ?_
              rintro e w3 ⟨rfl, s3, f3⟩
              go_wp2_with fail
              refine (HI0.out w3 s3).mono ?_
              rintro e w4 ⟨rfl, s4, f4⟩
              have f34 := f3.trans f4
              have hc4 := (f34.cell (p := ⟨g2, t, none⟩) hg2s (fun e => by have : g2 = g := e; omega)).trans hc2
              have hf4 := (HF.out.fresh f34 (fun k e => by have : k = g := e; omega))
              clear f3 f4 s3 hc2 cc0 cc1 ff0
              obtain ⟨Ar, cr, cc0, cc1, ff0, _⟩ := s4.cells
              go_wp2
              go_ret2
              exact ⟨gtn_no (HG.out.trans HR.out), hf4⟩
            · have HIN : Hid (gtz b n none = (gtz q (n - (t + 1 : Nat) - ((k : Int) + 1)) (some x)).map (o ++ List.replicate (k + 1) x ++ ·)) := Lib.hid (by
                rw [HIo, gtz_more HX.out hfit (by rw [hla]; simpa using hyx), more_app])
              have hb : (y == x) = false := by simpa using hyx
              clear HIo hla hyx
              go_wp2_with fail
              refine hb0.mono ?_
              rintro e w3 ⟨rfl, s3, f3⟩
              go_wp2_with fail
              refine (HI0.out w3 s3).mono ?_
              rintro e w4 ⟨rfl, s4, f4⟩
              have f34 := f3.trans f4
              have hc4 := (f34.cell (p := ⟨g2, t, none⟩) hg2s (fun e => by have : g2 = g := e; omega)).trans hc2
              clear hc2
              have hB4 := Nat.le_trans hBr f34.size
              have hf4 := (HF.out.fresh f34 (fun k e => by have : k = g := e; omega))
              have hown4 := HO.out.fr f34 (fun k hk e => by have h1 := (HO.out.lt k hk).1; have : k = g := e; omega)
              clear f3 f4 s3 f34 cc0 cc1 ff0
              obtain ⟨Ar, cr, cc0, cc1, ff0, _⟩ := s4.cells
              go_wp2
              go_loopw [7, 10] (fun u i wx => ∃ j : Nat, j ≤ k + 1 ∧ i = .int .i64 j ∧ Ow iv 2 wx (g + 1) u (o ++ List.replicate j x) ∧ SAt wx g (GeN g) q false ∧ g + 1 ≤ wx.heap.size ∧ Fr Non w wx) (fun _ i _ => k + 1 - (intOf i).toNat)
              case atStart => exact ⟨0, Nat.zero_le _, rfl, by simpa using hown4, s4, hB4, hf4⟩
              case round =>
                clear hown4 s4 hf4 hB4 cc0 cc1 ff0
                obtain ⟨j, hj, rfl, hown, hs, hBx, hfr⟩ := hrel
                by_cases hlj : j < k + 1
                · have HLen : Hid ((o ++ List.replicate j x).length < 1099511627776) := Lib.hid (by rw [List.length_append, HL.out, List.length_replicate]; omega)
                  have HS := Lib.hid (show o ++ List.replicate j x ++ [x] = o ++ List.replicate (j + 1) x by rw [List.replicate_succ', List.append_assoc])
                  go_wp2_with (at_builtin; refine wpList_pushG el_i64 iv_oneC rfl (.tmp 58) (.tmp 60) rfl (g + 1) _ (o ++ List.replicate j x) rfl hown _ x rfl rfl HLen.out hBx ?_; intro v5 w5 hown5 hf5)
                  have hf5n := hfr.fresh hf5 (fun q hq => by have := (hown.lt q hq).1; have := HW.out; omega)
                  go_roundw
                  case rel => exact ⟨j + 1, by omega, by go_num, by rw [← HS.out]; exact hown5, hs.fr hf5 (fun e => by have := (hown.lt _ e).1; omega) (fun q hq => by have := (hown.lt _ hq).1; unfold GeN; omega), Nat.le_trans hBx hf5.size, hf5n⟩
                  case measure => simp [intOf]; omega
                · obtain rfl : j = k + 1 := by omega
                  have hsl := slLen_vs hown.vs
                  rw [List.length_append, HL.out, List.length_replicate] at hsl
                  go_wp2
                  go_roundw
                  case rel => exact ⟨q, o ++ List.replicate (k + 1) x, hown, .inl (by rw [List.length_append, HL.out, List.length_replicate]; omega), by omega, hs, Lib.hid (by rw [HIN.out, last_more, List.length_append, HL.out, List.length_replicate]; congr 2; push_cast; omega), hBx, hfr⟩
                  case measure => rw [hsl]; simp [slLen]; omega
end Go.Proofs.YtheefloegbkflaaGreatDoor


namespace Go.Proofs.YtheefloegbkflaaGreatDoor
set_option linter.unusedVariables false
set_option linter.unusedSimpArgs false
set_option maxRecDepth 100000
open Go.RowKit

theorem textsM_bad {b : List UInt8} {n : Int} {m : Int} {k : Nat} (hk : (k : Int) ≤ n) (h : tkB m b false k = true) : textsM b n m = none := by
  unfold textsM
  rw [if_neg]
  rintro ⟨h0, _, h2, _⟩
  have := tkB_more (l := b) (fun e => by cases e) h (n.toNat - k)
  rw [show k + (n.toNat - k) = n.toNat by omega, h2] at this
  cases this
theorem textsM_neg {b : List UInt8} {n : Int} {m : Int} (h : n < 0) : textsM b n m = none := by
  unfold textsM; rw [if_neg (by omega)]
theorem textsM_at {b : List UInt8} {m : Int} {k : Nat} (hk : k ≤ 4096) : textsM b k m = if tkB m b false k = false ∧ tkR m b k = [] then some (tks m b k) else none := by
  unfold textsM
  simp only [Int.toNat_natCast]
  by_cases hc : tkB m b false k = false ∧ tkR m b k = []
  · rw [if_pos hc, if_pos ⟨by omega, by omega, hc.1, hc.2⟩]
  · rw [if_neg hc, if_neg (fun h => hc ⟨h.2.2.1, h.2.2.2⟩)]

set_option maxHeartbeats 4000000 in
theorem rtexts_any (v : Value) (b : List UInt8) (n m : Int) (w : World) (hv : Bs w v b) (hvl : ∀ k, v.ownBlock = some k → k < w.heap.size) (hl : b.length ≤ 1000000) (h1 : -9223372036854775808 ≤ n) (h2 : n ≤ 400) (hm : m ≤ 9223372036854775807) :
    Calls Tryz.prog 139 #[v, .int .i64 n, .int .i64 m] w fun e w' => Gtx w' w.heap.size (textsM b n m) e ∧ Fr Non w w' := by
  have S0 : ∀ W, W = w.alloc (.cells #[v, .bool false] 88) → SAt W w.heap.size (GeT w.heap.size) b false := by
    rintro W rfl
    exact ⟨v, Blk.new _ _ _, hv.non ((Fr.refl _ _).alloc _), (fun k hk e => by have := hvl k hk; unfold GeT at e; omega), by unfold GeT; omega, fun h => by cases h⟩
  have HS0 := Lib.hid S0
  obtain ⟨A, c, rfl, _⟩ := hv
  clear S0 hvl
  have f0 : Fr Non w (w.alloc (.cells #[.slice A b.length c, .bool false] 88)) := (Fr.refl _ _).alloc _
  have hz0 : (w.alloc (.cells #[.slice A b.length c, .bool false] 88)).heap.size = w.heap.size + 1 := by simp
  have s0 := HS0.out _ rfl
  go_enter Tryz.func139, Tryz.ntmps139
  go_wp2
  generalize w.alloc (.cells #[.slice A b.length c, .bool false] 88) = W0 at *
  have HF0 := Lib.hid f0
  have o0 : Ow sv 9 (W0.alloc (.cells #[] 9)) (w.heap.size + 1) (.slice (some ⟨w.heap.size + 1, 0, none⟩) 0 0) [] := ow_lit0 W0 _ _ hz0.symm (Nat.le_refl _)
  have s1 := s0.fr ((Fr.refl Non W0).alloc (.cells #[] 9)) (fun e => e) (fun k e => e.elim)
  have f1 := f0.alloc (.cells #[] 9)
  go_loopw [9, 10] (fun o i wx => ∃ k : Nat, k ≤ 400 ∧ ((k : Int) ≤ n ∨ k = 0) ∧ i = .int .i64 k ∧ Ow sv 9 wx (w.heap.size + 1) o (tks m b k) ∧ SAt wx w.heap.size (GeT w.heap.size) (tkR m b k) (tkB m b false k) ∧ Fr Non w wx) (fun _ i _ => 500 - (intOf i).toNat)
  case atStart => exact ⟨0, by omega, .inr rfl, rfl, o0, s1, f1⟩
  case round =>
    clear o0 s1 f1 s0
    obtain ⟨k, hk4, hkn, rfl, hown, hs, hfr⟩ := hrel
    have hRl := tkR_len m b k
    obtain ⟨A1, c1, hsh⟩ := hown.shape
    rw [tks_length] at hsh
    subst hsh
    have HTL := Lib.hid (tks_length m b k)
    have h500 : (k : Int) < 500 := by omega
    by_cases hlt : (k : Int) < n
    · cases hbad : tkB m b false k with
      | false =>
        rw [hbad] at hs
        obtain ⟨A2, c2, cc0, cc1, ff0, _⟩ := hs.cells
        have htx := rstext_any w.heap.size (GeT w.heap.size) _ _ m wr hs (by omega) hm
        have HO := Lib.hid hown
        have HFr := Lib.hid hfr
        have hsz := hfr.size
        have hpl : (tks m b k).length < 1099511627776 := by rw [HTL.out]; omega
        have HPl := Lib.hid hpl
        have HK1 : Hid (tks m b (k + 1) = tks m b k ++ [txtT (tkR m b k) m]) := Lib.hid rfl
        have HK2 : Hid (tkR m b (k + 1) = txtR (tkR m b k) m) := Lib.hid rfl
        have HK3 : Hid (tkB m b false (k + 1) = txtB (tkR m b k) m) := Lib.hid rfl
        clear hs hown hfr hpl hbad
        generalize hT : tks m b k = T at *
        have HTT := Lib.hid hT
        clear hT
        go_wp2_with fail
        refine htx.mono ?_
        rintro e w2 ⟨rfl, hs2, hf2⟩
        have ho2 := HO.out.fr hf2 (fun q hq e => by have h1 := (HO.out.lt q hq).1; have h2 : q = w.heap.size := e; omega)
        have hfr2 : Fr Non w w2 := HFr.out.fresh hf2 (fun q hq => by have h2 : q = w.heap.size := hq; omega)
        have hgl : w.heap.size + 1 ≤ w2.heap.size := by obtain ⟨_, hb, _⟩ := hs2; exact hb.lt
        have HS2 := Lib.hid hs2
        clear hs2 htx
        go_wp2_with (refine wpList_pushG el_str sv_one rfl (.tmp 31) (.tmp 35) rfl (w.heap.size + 1) (.slice A1 k c1) T rfl ho2 _ (txtT (tkR m b k) m) rfl rfl HPl.out hgl ?_; intro v' w' hown' hfr')
        go_roundw
        case rel =>
          refine ⟨k + 1, by omega, .inl (by omega), by go_num, by rw [HK1.out, ← HTT.out]; rw [← HTT.out] at hown'; exact hown', ?_, hfr2.fresh hfr' (fun q hq => by have h1 := (ho2.lt q hq).1; omega)⟩
          rw [HK2.out, HK3.out]
          exact HS2.out.fr hfr' (fun e => by have h1 := (ho2.lt _ e).1; omega) (fun q e => by have h1 := (ho2.lt q e).1; unfold GeT; omega)
        case measure => simp [intOf]; omega
      | true =>
        rw [hbad] at hs
        obtain ⟨A2, c2, cc0, cc1, ff0, _⟩ := hs.cells
        have HNo := Lib.hid (textsM_bad (n := n) (by omega) hbad)
        have hend := rend_any w.heap.size (GeT w.heap.size) _ _ wr hs
        rw [show (!true && (tkR m b k).isEmpty) = false from rfl] at hend
        clear hbad hs
        go_wp2_with fail
        refine hend.mono ?_
        rintro e w2 ⟨rfl, rfl⟩
        go_wp2
        go_ret2
        exact ⟨gtx_no HNo.out, hfr⟩
    · have hend := rend_any w.heap.size (GeT w.heap.size) _ _ wr hs
      have hd : decide ((k : Int) < n) = false := by simpa using hlt
      by_cases hneg : n < 0
      · have HNo := Lib.hid (textsM_neg (b := b) (m := m) hneg)
        obtain rfl : k = 0 := by omega
        have hne : (n != ((0 : Nat) : Int)) = true := by rw [bne_iff_ne]; omega
        have hne2 : (n != 0) = true := by rw [bne_iff_ne]; omega
        have hlt0 : ¬ (0 : Int) < n := by omega
        have hd0 : decide ((0 : Int) < n) = false := by simpa using hlt0
        clear hlt hkn
        cases hB : (!tkB m b false 0 && (tkR m b 0).isEmpty) with
        | false =>
          rw [hB] at hend
          go_wp2_with fail
          refine hend.mono ?_
          rintro e w2 ⟨rfl, rfl⟩
          go_wp2
          go_ret2
          exact ⟨gtx_no HNo.out, hfr⟩
        | true =>
          rw [hB] at hend
          go_wp2_with fail
          refine hend.mono ?_
          rintro e w2 ⟨rfl, rfl⟩
          go_wp2
          go_ret2
          exact ⟨gtx_no HNo.out, hfr⟩
      · obtain rfl : (k : Int) = n := by omega
        have HT := Lib.hid (textsM_at (b := b) (m := m) (show k ≤ 4096 by omega))
        have hdk : decide (k < k) = false := by simp
        by_cases hc : tkB m b false k = false ∧ tkR m b k = []
        · have HY := Lib.hid (HT.out.trans (if_pos hc))
          rw [hc.1, hc.2] at hend
          have hne : ((k : Int) != (k : Int)) = false := by simp
          clear hc hlt hkn
          go_wp2_with fail
          refine hend.mono ?_
          rintro e w2 ⟨rfl, rfl⟩
          go_wp2
          go_ret2
          exact ⟨gtx_yes HY.out (hown.mono (by omega)), hfr⟩
        · have HNo := Lib.hid (HT.out.trans (if_neg hc))
          have hb : (!tkB m b false k && (tkR m b k).isEmpty) = false := by
            rw [Bool.eq_false_iff]
            intro e
            simp at e
            exact hc e
          rw [hb] at hend
          clear hc hb hlt hkn
          go_wp2_with fail
          refine hend.mono ?_
          rintro e w2 ⟨rfl, rfl⟩
          go_wp2
          go_ret2
          exact ⟨gtx_no HNo.out, hfr⟩
end Go.Proofs.YtheefloegbkflaaGreatDoor


namespace Go.Proofs.YtheefloegbkflaaGreatDoor
set_option linter.unusedVariables false
set_option linter.unusedSimpArgs false
set_option maxRecDepth 100000
open Go.RowKit

/-- what the document's Get answers -/
def rgetM (b : List UInt8) (n m : Int) : Option (List Tx) :=
  if tkB m (mostR b 400) (mostB b 400) (mostV b 400) = true then none else dgetK 400 b n m
theorem getM_nil_is {n : Int} {at_ : List Int} (h : getM [] n = some at_) : n = 0 ∧ at_ = [] := by
  have h2 := h
  unfold getM at h
  split at h
  · obtain ⟨h3, h4, _⟩ := getZ_is h
    have h0 : at_ = [] := by
      by_cases hn : at_ = []
      · exact hn
      · rw [putT_some hn] at h3
        have := congrArg List.length h3
        simp at this
    subst h0
    exact ⟨by simpa using h4.symm, rfl⟩
  · cases h
theorem dgetK_good {K : Int} {b : List UInt8} {n m : Int} {l : List Tx} (hn : n ≤ K) (h : dgetK K b n m = some l) : tkB m (mostR b K) (mostB b K) (mostV b K) = false := by
  obtain ⟨hd, hl, h4, at_, hg, hp⟩ := dgetK_is h
  have hu := uniq_length l
  subst hd
  have h1 := dict_most (l := l) (K := K) (by omega) (by omega)
  rw [h1.1, h1.2.1] at hg hp
  rw [h1.1, h1.2.1, h1.2.2]
  cases hb : tkB m (plainB (uniq l) ++ putT (placesD l)) false (uniq l).length with
  | false => rfl
  | true =>
    exfalso
    rw [tkB_left (fun e => by cases e) hb] at hg
    obtain ⟨rfl, rfl⟩ := getM_nil_is hg
    have : l = [] := List.eq_nil_of_length_eq_zero (by omega)
    subst this
    cases hb
theorem rgetM_is {b : List UInt8} {n m : Int} (hn : n ≤ 400) : rgetM b n m = dgetM b n m := by
  by_cases h0 : n < 0
  · have h1 : dgetM b n m = none := by unfold dgetM; exact if_pos (.inl h0)
    have h2 : dgetK 400 b n m = none := by
      unfold dgetK
      rw [getM_low h0]
    unfold rgetM
    rw [h1, h2]; simp
  · have hd : dgetM b n m = dgetK n b n m := by unfold dgetM; exact if_neg (by omega)
    rw [hd]
    unfold rgetM
    cases h : dgetK n b n m with
    | some l =>
      obtain ⟨h1, h2⟩ := dgetK_any (K' := 400) (Int.le_refl n) hn h
      have h3 := dgetK_good (Int.le_refl n) h
      rw [← h2, h3, h1]; simp
    | none =>
      split
      · rfl
      · cases h2 : dgetK 400 b n m with
        | none => rfl
        | some l =>
          have := (dgetK_any (K' := n) hn (Int.le_refl n) h2).1
          rw [this] at h; cases h

def pkL (u : List Tx) (l : List Int) : List Tx := l.map fun a => u.getD a.toNat []
theorem pkL_length (u : List Tx) (l : List Int) : (pkL u l).length = l.length := by simp [pkL]
theorem pkL_take {u : List Tx} {l : List Int} (k : Nat) (h : k < l.length) : pkL u (l.take (k + 1)) = pkL u (l.take k) ++ [u.getD l[k].toNat []] := by
  unfold pkL
  rw [List.take_succ_eq_append_getElem h, List.map_append]; rfl
theorem pkL_some {u : List Tx} {l : List Int} (h : ∀ a ∈ l, 0 ≤ a ∧ a < (u.length : Int)) : pickD u l = some (pkL u l) := pickD_some h

set_option maxHeartbeats 4000000 in
theorem rxget_any (v : Value) (b : List UInt8) (n m : Int) (w : World) (hv : Bs w v b) (hvl : ∀ k, v.ownBlock = some k → k < w.heap.size) (hl : b.length ≤ 1000000) (h1 : -9223372036854775808 ≤ n) (h2 : n ≤ 400) (hm : m ≤ 9223372036854775807) :
    Calls Tryz.prog 140 #[v, .int .i64 n, .int .i64 m] w fun e w' => Gtx w' w.heap.size (rgetM b n m) e ∧ Fr Non w w' := by
  have S0 : ∀ W, W = w.alloc (.cells #[v, .bool false] 88) → SAt W w.heap.size (GeT w.heap.size) b false := by
    rintro W rfl
    exact ⟨v, Blk.new _ _ _, hv.non ((Fr.refl _ _).alloc _), (fun k hk e => by have := hvl k hk; unfold GeT at e; omega), by unfold GeT; omega, fun h => by cases h⟩
  have HS0 := Lib.hid S0
  have HV := Lib.hid hv
  obtain ⟨A, c, rfl, _⟩ := hv
  clear S0 hvl
  have f0 : Fr Non w (w.alloc (.cells #[.slice A b.length c, .bool false] 88)) := (Fr.refl _ _).alloc _
  have hz0 : (w.alloc (.cells #[.slice A b.length c, .bool false] 88)).heap.size = w.heap.size + 1 := by simp
  have s0 := HS0.out _ rfl
  have HRG : Hid (rgetM b n m = if tkB m (mostR b 400) (mostB b 400) (mostV b 400) = true then none else
      match getM (tkR m (mostR b 400) (mostV b 400)) n with
        | none => none
        | some at_ => match pickD (tks m (mostR b 400) (mostV b 400)) at_ with
          | none => none
          | some l => if dictB l = b then some l else none) := Lib.hid rfl
  have hq := mostV_le (b := b) (K := 400) (by omega)
  have hrl := mostRx_len b 400
  have hbel := rbelow_any w.heap.size (GeT w.heap.size) b false 401 _ s0 (by omega) (by omega)
  rw [show (401 : Int) - 1 = 400 from rfl] at hbel
  have HSz := Lib.hid (getM_small (b := tkR m (mostR b 400) (mostV b 400)) h2)
  rw [HSz.out] at HRG
  clear HSz s0
  have HBo : Hid (mostB b 400 = true → mostR b 400 = []) := Lib.hid (by
    unfold mostB mostR
    split
    · intro h; exact (fell_zero h).2
    · intro _; rfl)
  generalize mostV b 400 = q at *
  generalize mostR b 400 = r at *
  generalize mostB b 400 = bad at *
  go_enter Tryz.func140, Tryz.ntmps140
  go_wp2_with fail
  refine hbel.mono ?_
  rintro e w1 ⟨rfl, hs1, hf1⟩
  have hfr1 := f0.fresh hf1 (fun k hk => by have h2 : k = w.heap.size := hk; omega)
  have hsz1 : w.heap.size + 1 ≤ w1.heap.size := by have := hf1.size; omega
  clear hbel f0 hz0 hf1
  go_wp2
  have hf2 : Fr Non w1 (w1.alloc (.cells #[] 9)) := (Fr.refl _ _).alloc _
  have o0 : Ow sv 9 (w1.alloc (.cells #[] 9)) (w.heap.size + 1) (.slice (some ⟨w1.heap.size, 0, none⟩) 0 0) [] := ow_lit0 w1 _ _ rfl hsz1
  have s1 := hs1.fr hf2 (fun e => e) (fun k e => e.elim)
  have f1 := hfr1.trans hf2
  go_loopw [10, 11] (fun o i wx => ∃ k : Nat, k ≤ q ∧ i = .int .i64 k ∧ Ow sv 9 wx (w.heap.size + 1) o (tks m r k) ∧ SAt wx w.heap.size (GeT w.heap.size) (tkR m r k) (tkB m r bad k) ∧ Fr Non w wx) (fun _ i _ => q - (intOf i).toNat)
  case atStart => exact ⟨0, by omega, rfl, o0, s1, f1⟩
  case round =>
    clear o0 s1 f1 hs1 hf2 hfr1
    obtain ⟨k, hkq, rfl, hown, hs, hfr⟩ := hrel
    have hRl := tkR_len m r k
    obtain ⟨A1, c1, hsh⟩ := hown.shape
    rw [tks_length] at hsh
    subst hsh
    have HTL := Lib.hid (tks_length m r k)
    obtain ⟨A2, c2, cc0, cc1, ff0, _, _, hbs2, hbl2, _⟩ := hs.cells
    have HB2 := Lib.hid hbs2
    have HBl2 := Lib.hid hbl2
    clear hbs2 hbl2
    cases hbad : tkB m r bad k with
    | true =>
      have hall : tkB m r bad q = true := by
        have := tkB_more HBo.out hbad (q - k)
        rwa [show k + (q - k) = q by omega] at this
      rw [if_pos hall] at HRG
      rw [hbad] at cc1
      clear hbad hs hall
      by_cases hlt : k < q
      · go_wp2
        go_ret2
        exact ⟨gtx_no HRG.out, hfr⟩
      · have hd : decide (k < q) = false := by simpa using hlt
        go_wp2
        go_ret2
        exact ⟨gtx_no HRG.out, hfr⟩
    | false =>
      rw [hbad] at hs cc1
      by_cases hlt : k < q
      · have htx := rstext_any w.heap.size (GeT w.heap.size) _ _ m wr hs (by omega) hm
        have HO := Lib.hid hown
        have HFr := Lib.hid hfr
        have hpl : (tks m r k).length < 1099511627776 := by rw [HTL.out]; omega
        have HPl := Lib.hid hpl
        have HK1 : Hid (tks m r (k + 1) = tks m r k ++ [txtT (tkR m r k) m]) := Lib.hid rfl
        have HK2 : Hid (tkR m r (k + 1) = txtR (tkR m r k) m) := Lib.hid rfl
        have HK3 : Hid (tkB m r bad (k + 1) = txtB (tkR m r k) m) := Lib.hid rfl
        clear hs hown hfr hpl hbad
        generalize hT : tks m r k = T at *
        have HTT := Lib.hid hT
        clear hT
        go_wp2_with fail
        refine htx.mono ?_
        rintro e w2 ⟨rfl, hs2, hf2⟩
        have ho2 := HO.out.fr hf2 (fun q hq e => by have h1 := (HO.out.lt q hq).1; have h2 : q = w.heap.size := e; omega)
        have hfr2 : Fr Non w w2 := HFr.out.fresh hf2 (fun q hq => by have h2 : q = w.heap.size := hq; omega)
        have hgl : w.heap.size + 1 ≤ w2.heap.size := by obtain ⟨_, hb, _⟩ := hs2; exact hb.lt
        have HS2 := Lib.hid hs2
        clear hs2 htx
        go_wp2_with (refine wpList_pushG el_str sv_one rfl (.tmp 34) (.tmp 38) rfl (w.heap.size + 1) (.slice A1 k c1) T rfl ho2 _ (txtT (tkR m r k) m) rfl rfl HPl.out hgl ?_; intro v' w' hown' hfr')
        go_roundw
        case rel =>
          refine ⟨k + 1, by omega, by go_num, by rw [HK1.out, ← HTT.out]; rw [← HTT.out] at hown'; exact hown', ?_, hfr2.fresh hfr' (fun q hq => by have h1 := (ho2.lt q hq).1; omega)⟩
          rw [HK2.out, HK3.out]
          exact HS2.out.fr hfr' (fun e => by have h1 := (ho2.lt _ e).1; omega) (fun q e => by have h1 := (ho2.lt q e).1; unfold GeT; omega)
        case measure => simp [intOf]; omega
      · obtain rfl : k = q := by omega
        rename World => W1
        rw [if_neg (by rw [hbad]; simp)] at HRG
        have hdk : decide (k < k) = false := by simp
        have HO := Lib.hid hown
        have HFr := Lib.hid hfr
        have HKl := Lib.hid (tks_len m r k)
        have HKn := Lib.hid HTL.out
        clear hs hbad hown hfr hlt
        have hblt : ∀ y, (Value.slice A2 (tkR m r k).length c2).ownBlock = some y → y < W1.heap.size := fun y hy => by
          have h1 := HBl2.out y hy
          have h2 := HFr.out.size
          unfold GeT at h1
          omega
        have htg := rtget_any _ (tkR m r k) n W1 HB2.out hblt (by omega) h1 h2
        clear hblt
        generalize tks m r k = u at *
        generalize tkR m r k = t at *
        cases hg : getZ t n with
        | none =>
          rw [hg] at HRG
          rw [hg] at htg
          clear hg
          go_wp2_with fail
          refine htg.mono ?_
          rintro e w5 ⟨hgt, hf5⟩
          rcases hgt with ⟨_, rfl⟩ | ⟨_, _, h, _⟩
          · go_wp2
            go_ret2
            exact ⟨gtx_no HRG.out, HFr.out.trans hf5⟩
          · cases h
        | some at_ =>
          rw [hg] at HRG
          rw [hg] at htg
          have hal := (getZ_is hg).2.1
          clear hg
          have hal2 : at_.length ≤ 400 := by omega
          clear hal
          go_wp2_with fail
          refine htg.mono ?_
          rintro e w5 ⟨hgt, hf5⟩
          rcases hgt with ⟨h, _⟩ | ⟨at2, v5, he, rfl, hown5⟩
          · cases h
          · obtain rfl : at_ = at2 := by simpa using he
            clear he htg
            obtain ⟨A5, c5, rfl⟩ := hown5.shape
            have HO5 := Lib.hid hown5
            have HF5 := Lib.hid (HFr.out.trans hf5)
            have HU5 := Lib.hid (HO.out.non hf5)
            have hsz5 := HF5.out.size
            clear hown5 hf5
            go_wp2
            have o0 : Ow sv 9 (w5.alloc (.cells #[] 9)) w5.heap.size (.slice (some ⟨w5.heap.size, 0, none⟩) 0 0) [] := ow_lit0 w5 _ _ rfl (Nat.le_refl _)
            have f5 : Fr Non w5 (w5.alloc (.cells #[] 9)) := (Fr.refl _ _).alloc _
            go_loopw [14, 15] (fun o i wx => ∃ j : Nat, j ≤ at_.length ∧ i = .int .i64 j ∧ Hid (∀ a ∈ at_.take j, 0 ≤ a ∧ a < (u.length : Int)) ∧ Ow sv 9 wx w5.heap.size o (pkL u (at_.take j)) ∧ Fr Non w5 wx) (fun _ i _ => at_.length - (intOf i).toNat)
            case atStart => exact ⟨0, Nat.zero_le _, rfl, Lib.hid (fun a h => by simp at h), o0, f5⟩
            case round =>
              clear o0 f5
              obtain ⟨j, hj, rfl, HIn, hown, hfr⟩ := hrel
              have hul : u.length = k := HKn.out
              by_cases hlt : j < at_.length
              · obtain ⟨d, rfl, _, _, hcd⟩ := (HO5.out.vs.non hfr).addr (by omega : 0 < at_.length)
                have g2 : wr.cell? (d.add j) = some (iv at_[j]) := hcd j hlt
                unfold iv at g2
                have HMm := Lib.hid (List.getElem_mem hlt)
                clear hcd
                by_cases hneg : at_[j] < 0
                · have hd : decide (at_[j] < 0) = true := by simpa using hneg
                  have HNo := Lib.hid (pickD_none (u := u) HMm.out (.inl hneg))
                  simp only [HNo.out] at HRG
                  clear hneg hul
                  generalize at_[j] = z at *
                  go_wp2
                  go_ret2
                  exact ⟨gtx_no HRG.out, HF5.out.trans hfr⟩
                · by_cases hbig : (u.length : Int) ≤ at_[j]
                  · have HNo := Lib.hid (pickD_none (u := u) HMm.out (.inr hbig))
                    simp only [HNo.out] at HRG
                    rw [hul] at hbig
                    have hd : decide (at_[j] < 0) = false := by simpa using hneg
                    have hd2 : decide ((k : Int) ≤ at_[j]) = true := by simpa using hbig
                    clear hbig hneg hul
                    generalize at_[j] = z at *
                    go_wp2
                    go_ret2
                    exact ⟨gtx_no HRG.out, HF5.out.trans hfr⟩
                  · have HIn2 : Hid (∀ a ∈ at_.take (j + 1), 0 ≤ a ∧ a < (u.length : Int)) := Lib.hid (by
                      intro a ha
                      rw [List.take_succ_eq_append_getElem hlt, List.mem_append] at ha
                      rcases ha with ha | ha
                      · exact HIn.out a ha
                      · obtain rfl : a = at_[j] := by simpa using ha
                        omega)
                    obtain ⟨p, hp⟩ := Int.eq_ofNat_of_zero_le (show 0 ≤ at_[j] by omega)
                    have HTk := Lib.hid (pkL_take (u := u) j hlt)
                    rw [hp] at g2 hbig hneg HTk
                    clear hp HMm
                    have hpu : p < u.length := by omega
                    have hpk : p < k := by omega
                    obtain ⟨d2, rfl, _, _, hcd2⟩ := (HU5.out.vs.non hfr).addr (by omega : 0 < k)
                    have g3 : wr.cell? (d2.add p) = some (sv u[p]) := hcd2 p hpu
                    have HU : Hid (u.getD p [] = u[p]) := Lib.hid (List.getElem_eq_getD (h := hpu) []).symm
                    unfold sv at g3
                    have hol : (pkL u (at_.take j)).length < 1099511627776 := by rw [pkL_length, List.length_take]; omega
                    clear hcd2 hbig hneg hul
                    generalize u[p] = x at *
                    generalize hT : pkL u (at_.take j) = T at *
                    have HTT := Lib.hid hT
                    clear hT
                    go_wp2_with (refine wpList_pushG el_str sv_one rfl (.tmp 76) (.tmp 84) rfl w5.heap.size u14 T rfl hown _ x rfl rfl hol hfr.size ?_; intro v' w' hown' hfr')
                    go_roundw
                    case rel =>
                      have hfin : Ow sv 9 w' w5.heap.size v' (pkL u (at_.take (j + 1))) := by
                        rw [HTk.out, Int.toNat_natCast, HU.out]; exact hown'
                      exact ⟨_, _, _, _, ⟨j + 1, by omega, by go_num, HIn2, hfin, hfr.fresh hfr' fun y hy => (hown.lt y hy).1⟩, rfl, rfl, rfl, rfl⟩
                    case measure => simp [intOf]; omega
              · obtain rfl : j = at_.length := by omega
                have hps := pkL_some (u := u) (l := at_) (by have := HIn.out; rwa [List.take_length] at this)
                have hxl := pickD_len hps
                have HXm := Lib.hid (pickD_mem hps)
                have hT : at_.take at_.length = at_ := List.take_length
                rw [hT] at hown
                simp only [hps] at HRG
                clear hps hT
                generalize pkL u at_ = lx at *
                have hx4 : lx.length ≤ 400 := by omega
                have HXl : Hid (∀ x ∈ lx, x.length ≤ b.length) := Lib.hid (fun x hx => Nat.le_trans (HKl.out x (HXm.out x hx)) hrl)
                obtain ⟨A6, c6, rfl⟩ := hown.shape
                have HO6 := Lib.hid hown
                have HF6 := Lib.hid (HF5.out.trans hfr)
                have HP := Lib.hid (fun W hW => rxput_any _ lx W ((HO6.out.vs).non hW) (by omega) (fun x hx => by have := HXl.out x hx; omega) (plainB_uniq (by omega) HXl.out (by omega)))
                have hVb := HV.out.non HF6.out
                have cB := run_conv_Bs hVb.drew 26 9 5 Tryz.underlying26 Tryz.underlying5 Tryz.underlying9
                have HVb := Lib.hid hVb
                have HCv := Lib.hid (fun (W : World) (u : Value) (l : List UInt8) (h : Bs W u l) => run_conv_Bs h 26 9 5 Tryz.underlying26 Tryz.underlying5 Tryz.underlying9)
                have HPw := Lib.hid (HP.out wr.drew ((Fr.refl Non wr).drew))
                have hB6 := hfr.size
                clear hVb hxl hul hown hfr
                by_cases he : dictB lx = b
                · rw [if_pos he] at HRG
                  have hbb : (dictB lx == b) = true := by simp [he]
                  clear he
                  go_wp2_with fail
                  go_region_with (first | (go_at_call 125; refine HPw.out.mono ?_; rintro e w7 ⟨u7, rfl, hown7, hf7⟩; have c7 := HCv.out w7 u7 _ hown7.bs; have c8 := HCv.out w7 _ b (HVb.out.drew.non hf7)))
                  all_goals
                    go_wp2
                    go_ret2
                    exact ⟨gtx_yes HRG.out ((HO6.out.drew.non hf7).mono (by omega)), (HF6.out.drew).trans hf7⟩
                · rw [if_neg he] at HRG
                  have hbb : (dictB lx == b) = false := by simp [he]
                  clear he
                  go_wp2_with fail
                  go_region_with (first | (go_at_call 125; refine HPw.out.mono ?_; rintro e w7 ⟨u7, rfl, hown7, hf7⟩; have c7 := HCv.out w7 u7 _ hown7.bs; have c8 := HCv.out w7 _ b (HVb.out.drew.non hf7)))
                  all_goals
                    go_wp2
                    go_ret2
                    exact ⟨gtx_no HRG.out, (HF6.out.drew).trans hf7⟩
end Go.Proofs.YtheefloegbkflaaGreatDoor


namespace Go.Proofs.YtheefloegbkflaaGreatDoor
set_option linter.unusedVariables false
set_option linter.unusedSimpArgs false
set_option maxRecDepth 100000
open Go.RowKit

set_option maxHeartbeats 1000000 in
theorem call_any (v1 v2 : Value) (l1 l2 : List Cl) (w : World) (h1 : Cs w v1 l1) (h2 : Cs w v2 l2) (hl1 : l1.length ≤ 9223372036854775807) (hl2 : l2.length ≤ 9223372036854775807) :
    Calls Tryz.prog 21 #[v1, v2] w fun e w' => e = .returned (.bool (decide (l1 = l2))) ∧ Fr Non w w' := by
  obtain ⟨A1, c1, rfl, hc1, hn1, hcell1⟩ := h1
  obtain ⟨A2, c2, rfl, hc2, hn2, hcell2⟩ := h2
  have HN1 := Lib.hid hn1
  have HN2 := Lib.hid hn2
  have HC1 := Lib.hid hcell1
  have HC2 := Lib.hid hcell2
  clear hn1 hn2 hcell1 hcell2
  by_cases hlen : l1.length = l2.length
  · have HL := Lib.hid hlen
    have hb : ((l1.length : Int) != l2.length) = false := by rw [hlen]; simp
    have hle : l1.length ≤ l2.length := by omega
    have hge : l2.length ≤ l1.length := by omega
    clear hlen
    go_enter Tryz.func21, Tryz.ntmps21
    go_wp2
    go_loopw [5] (fun i wr => ∃ k : Nat, k ≤ l1.length ∧ i = .int .i64 k ∧ Hid (l1.take k = l2.take k) ∧ ∃ n, wr = w.drewN n) (fun i _ => l1.length - (intOf i).toNat)
    case atStart => exact ⟨0, Nat.zero_le _, rfl, Lib.hid rfl, 0, rfl⟩
    case round =>
      obtain ⟨k, hk, rfl, HT, n, rfl⟩ := hrel
      by_cases hlt : k < l1.length
      · cases A1 with
        | none => have := HN1.out rfl; omega
        | some a1 =>
          cases A2 with
          | none => have := HN2.out rfl; omega
          | some a2 =>
            obtain ⟨g0, g1, g2⟩ := (HC1.out a1 rfl k hlt).lit
            obtain ⟨d0, d1, d2⟩ := (HC2.out a2 rfl k (by omega)).lit
            by_cases he : l1[k] = l2[k]'(by omega)
            · have HE := Lib.hid (take_eq_succ hlt (by omega) HT.out he)
              rw [← he] at d0 d1 d2
              clear he
              generalize l1[k] = x at *
              have hx := fun W => run_neq_cl W x x
              rw [ceq_self] at hx
              obtain ⟨xn, xi, xt⟩ := x
              go_wp2
              go_quiet (fail)
              go_wp2
              go_roundw
              case rel => exact ⟨k + 1, by omega, by go_num, HE, _, rfl⟩
              case measure => simp [intOf]; omega
            · have HE := Lib.hid (take_ne hlt (by omega) he)
              have hc : ceq l1[k] (l2[k]'(by omega)) = false := by unfold ceq; exact decide_eq_false he
              clear he
              generalize l1[k] = x at *
              generalize l2[k]'(by omega) = y at *
              have hx := fun W => run_neq_cl W x y
              rw [hc] at hx
              clear hc
              obtain ⟨xn, xi, xt⟩ := x
              obtain ⟨yn, yi, yt⟩ := y
              go_wp2
              go_quiet (fail)
              go_wp2
              go_ret
              exact ⟨ret_bool (decide_eq_false HE.out).symm, ((Fr.refl _ _).drewN _).drewN _⟩
      · have HE : Hid (l1 = l2) := Lib.hid (by
          have := HT.out
          rwa [List.take_of_length_le (by omega), List.take_of_length_le (by omega)] at this)
        go_wp2
        go_ret
        exact ⟨ret_bool (decide_eq_true HE.out).symm, (Fr.refl _ _).drewN _⟩
  · have hb : ((l1.length : Int) != l2.length) = true := by rw [bne_iff_ne]; omega
    have HE : Hid (l1 ≠ l2) := Lib.hid (fun e => hlen (by rw [e]))
    clear hlen
    go_enter Tryz.func21, Tryz.ntmps21
    go_wp2
    go_ret
    exact ⟨ret_bool (decide_eq_false HE.out).symm, Fr.refl _ _⟩

theorem ow_nilG {α : Type} (f : α → Value) (E : TypeId) (w : World) (B : Nat) : Ow f E w B (.slice none 0 0) [] := ⟨by simp, .inl ⟨rfl, rfl⟩⟩
theorem mapN_take (l : List Int) (k : Nat) (h : k < l.length) : (l.take (k + 1)).map numC = (l.take k).map numC ++ [numC l[k]] := by
  rw [List.take_succ_eq_append_getElem h, List.map_append]; rfl
theorem mapX_take (l : List Tx) (k : Nat) (h : k < l.length) : (l.take (k + 1)).map txtC = (l.take k).map txtC ++ [txtC l[k]] := by
  rw [List.take_succ_eq_append_getElem h, List.map_append]; rfl
theorem i64_ne_s : 2 ≠ 88 := by decide
theorem cell_ne_i64 : 54 ≠ 2 := by decide
theorem cell_ne_str : 54 ≠ 9 := by decide
/-- 'a list, and whether it is one' -/
def TwoL {α : Type} (f : α → Value) (E : TypeId) (w : World) (B : Nat) (o : Option (List α)) (e : Ending) : Prop :=
  ∃ u l ok, e = .returned (.tuple #[u, .bool ok]) ∧ Ow f E w B u l ∧ l.length ≤ 400 ∧ o = (if ok = true then some l else none)
theorem two_n {w : World} {B : Nat} {o : Option (List Int)} {e : Ending} (h : Gtn w B o e) (hl : ∀ l, o = some l → l.length ≤ 400) : TwoL iv 2 w B o e := by
  rcases h with ⟨h1, rfl⟩ | ⟨l, u, h1, rfl, hown⟩
  · exact ⟨_, [], false, rfl, ow_nilG _ _ _ _, by simp, h1⟩
  · exact ⟨u, l, true, rfl, hown, hl l h1, h1⟩
theorem two_x {w : World} {B : Nat} {o : Option (List Tx)} {e : Ending} (h : Gtx w B o e) (hl : ∀ l, o = some l → l.length ≤ 400) : TwoL sv 9 w B o e := by
  rcases h with ⟨h1, rfl⟩ | ⟨l, u, h1, rfl, hown⟩
  · exact ⟨_, [], false, rfl, ow_nilG _ _ _ _, by simp, h1⟩
  · exact ⟨u, l, true, rfl, hown, hl l h1, h1⟩

set_option maxHeartbeats 4000000 in
theorem rread1_any (v : Value) (b : List UInt8) (n : Nat) (w : World) (hv : Bs w v b) (hvl : ∀ q, v.ownBlock = some q → q < w.heap.size) (hl : b.length ≤ 100000) (hn : n ≤ 400) :
    Calls Tryz.prog 92 #[.int .i64 1, v, .int .i64 n] w fun e w' => Gtc w' w.heap.size (wayG 1 b n) e ∧ Fr Non w w' := by
  have HV := Lib.hid hv
  have HVl := Lib.hid hvl
  clear hv hvl
  have HW := Lib.hid (show wayG 1 b n = (numG 1 b n).map (List.map numC) from rfl)
  have HLn := Lib.hid (fun l (h : numG 1 b n = some l) => show l.length ≤ 400 by have := (numG_is h).2.1; omega)
  obtain ⟨Av, cv, rfl⟩ := HV.out.shape
  go_enter Tryz.func92, Tryz.ntmps92
  have hO0 : Oc (w.alloc (.cells #[] 54)) w.heap.size (.slice (some ⟨w.heap.size, 0, none⟩) 0 0) [] := oc_lit0 w w.heap.size w.heap.size rfl (Nat.le_refl _)
  have HO0 := Lib.hid hO0
  clear hO0
  have hO1 := HO0.out.alloc (.cells #[] 2)
  have HO1 := Lib.hid hO1
  have HF0 := Lib.hid (((Fr.refl Non w).alloc (.cells #[] 54)).alloc (.cells #[] 2))
  clear hO1 HO0
  have S0 : ∀ W v (g : Nat), Bs W v b → (∀ q, v.ownBlock = some q → q < g) → g ≤ W.heap.size → SAt (W.alloc (.cells #[v, .bool false] 88)) W.heap.size (GeN g) b false := fun W v g hv hvl hg => ⟨v, Blk.new _ _ _, hv.non ((Fr.refl _ _).alloc _), fun q hq e => by have := hvl q hq; unfold GeN at e; omega, hg, fun h => by cases h⟩
  have HS := Lib.hid S0
  clear S0
  go_wp2
  have s1 := HS.out _ _ w.heap.size (HV.out.non HF0.out) (fun q hq => HVl.out q hq) HF0.out.size
  have hI1 : Ow iv 2 ((w.alloc (.cells #[] 54)).alloc (.cells #[] 2)) w.heap.size (.slice (some ⟨w.heap.size + 1, 0, none⟩) 0 0) [] := ow_lit0 _ _ _ (by simp) (by omega)
  have hI2 := hI1.non ((Fr.refl _ _).alloc (.cells #[.slice Av b.length cv, .bool false] 88))
  have hO2 := HO1.out.alloc (.cells #[.slice Av b.length cv, .bool false] 88)
  have f2 := HF0.out.alloc (.cells #[.slice Av b.length cv, .bool false] 88)
  rw [show ((w.alloc (.cells #[] 54)).alloc (.cells #[] 2)).heap.size = w.heap.size + 2 by simp] at s1
  clear hI1 HO1 HF0 HS HV HVl
  generalize hgg : w.heap.size = g at *
  have HG := Lib.hid hgg
  clear hgg
  go_loopw [12, 15] (fun x i wr => ∃ (k : Nat) (L : List Int) (q : List UInt8) (bad : Bool), k ≤ n ∧ i = .int .i64 k ∧ Hid (ToO n b k L q bad) ∧ SAt wr (g + 2) (GeN g) q bad ∧ q.length ≤ b.length ∧ Ow iv 2 wr g x L ∧ Oc wr g (.slice (some ⟨g, 0, none⟩) 0 0) [] ∧ Fr Non w wr) (fun _ i _ => n - (intOf i).toNat)
  case atStart => exact ⟨0, [], b, false, Nat.zero_le _, rfl, Lib.hid (toO_zero n b), s1, Nat.le_refl _, hI2, hO2, f2⟩
  case round =>
    clear s1 hI2 hO2 f2
    obtain ⟨k, L, q, bad, hk, rfl, HT, hs, hq, hI, hO, hfr⟩ := hrel
    have hL := HT.out.1
    by_cases hlt : k < n
    · have HT2 := Lib.hid (fun h => toO_step HT.out h hlt)
      have hbq : bad = true → q = [] := by obtain ⟨_, _, _, _, _, h⟩ := hs; exact h
      have HT3 := Lib.hid (HT2.out hbq)
      have hql := rest_le q
      obtain ⟨_, _, _, _, _, _, hblk, _⟩ := hs.cells
      have HBl := Lib.hid hblk
      clear HT HT2 hbq hblk
      go_wp2_with fail
      refine (rsint_any (g + 2) (GeN g) q bad wr hs (by omega)).mono ?_
      rintro e w4 ⟨rfl, s4, f4⟩
      have hI4 := hI.fr f4 (fun p hp e => by have h1 : p = g + 2 := e; exact ow_other hI HBl.out i64_ne_s p hp h1)
      have hO4 := hO.fr f4 (fun p hp e => by have h1 : p = g + 2 := e; have h2 : g = p := (by simpa [Value.ownBlock] using hp); omega)
      have hfr4 := hfr.fresh f4 (fun p e => by have h1 : p = g + 2 := e; have := HG.out; omega)
      have HO4 := Lib.hid hO4
      have hgz := (hO4.lt g rfl).2
      obtain ⟨_, _, _, _, _, _, hblk, _⟩ := s4.cells
      have HBl := Lib.hid hblk
      have HS4 := Lib.hid s4
      clear hI hO hfr hs f4 hO4 hblk s4
      generalize unzig (fstN q) = z at *
      go_wp2_with (at_builtin; refine wpList_pushG el_i64 iv_oneC rfl (.tmp 62) (.tmp 65) rfl g _ L rfl hI4 _ z rfl rfl (by omega) (by omega) ?_; intro v5 w5 hI5 f5)
      have hO5 := HO4.out.fr f5 (fun p hp e => oc_other HO4.out hI4 cell_ne_i64 p hp e)
      have s5 := HS4.out.fr f5 (fun e => ow_other hI4 HBl.out i64_ne_s _ e rfl) (fun p hp => (hI4.lt p hp).1)
      have hfr5 := hfr4.fresh f5 (fun p hp => by have := (hI4.lt p hp).1; have := HG.out; omega)
      go_roundw
      case rel => exact ⟨k + 1, _, _, _, by omega, by go_num, HT3, s5, by omega, hI5, hO5, hfr5⟩
      case measure => simp [intOf]; omega
    · obtain rfl : k = n := by omega
      have HO := Lib.hid (toO_end HT.out)
      have hlen : L.length ≤ 400 := by omega
      obtain ⟨A, c, rfl⟩ := hI.shape
      have HI := Lib.hid hI
      clear HT hI hL
      go_wp2_with fail
      refine (rend_any (g + 2) (GeN g) q bad wr hs).mono ?_
      rintro e w5 ⟨rfl, rfl⟩
      have HU := HI
      have HOo := Lib.hid hO
      have HFr := Lib.hid hfr
      clear hs hO hfr HI
      have HW2 := HW.out
      rw [show numG 1 b k = gOnes k b from rfl] at HW2
      have HW := Lib.hid HW2
      clear HW2
      generalize (!bad && q.isEmpty) = ok at *
      go_wp2
      go_loopw [8, 16] (fun o i wr => ∃ (k : Nat), k ≤ L.length ∧ i = .int .i64 k ∧ Oc wr g o ((L.take k).map numC) ∧ Ow iv 2 wr g (.slice A L.length c) L ∧ Fr Non w wr) (fun _ i _ => L.length - (intOf i).toNat)
      case atStart => exact ⟨0, Nat.zero_le _, rfl, HOo.out, HU.out, HFr.out⟩
      case round =>
        clear HOo HU HFr
        obtain ⟨j, hj, rfl, hO, hU, hfr⟩ := hrel
        by_cases hlt : j < L.length
        · obtain ⟨ad, hA, _, _, hcell⟩ := hU.vs.addr (by omega)
          subst hA
          have hc0 := hcell j hlt
          unfold iv at hc0
          have HT := Lib.hid (mapN_take L j hlt)
          have hlk : ((L.take j).map numC).length ≤ 400 := by rw [List.length_map, List.length_take]; omega
          have hB := hfr.size
          clear hcell
          generalize L[j] = x at *
          go_wp2_with (at_builtin; refine wpList_pushC rfl (.tmp 99) (.tmp 105) rfl g _ _ rfl hO (numC x) _ _ _ rfl rfl rfl _ rfl (by simp) (by omega) (by have := HG.out; omega) ?_; intro v6 w6 hown6 hf6)
          have hU6 := hU.fr hf6 (fun q hq e => oc_other hO hU cell_ne_i64 q e hq)
          have hfr6 := hfr.fresh hf6 (fun q hq => by have := (hO.lt q hq).1; have := HG.out; omega)
          go_roundw
          case rel => exact ⟨j + 1, by omega, by go_num, by rw [HT.out]; exact hown6, hU6, hfr6⟩
          case measure => simp [intOf]; omega
        · obtain rfl : j = L.length := by omega
          rw [List.take_length] at hO
          go_wp2
          go_ret2
          refine ⟨?_, hfr⟩
          rw [HW.out, HO.out]
          cases ok with
          | true => exact .inr ⟨L.map numC, _, rfl, rfl, hO.mono (by have := HG.out; omega)⟩
          | false => exact .inl ⟨rfl, _, _, rfl, hO.mono (by have := HG.out; omega)⟩

set_option maxHeartbeats 4000000 in
theorem rread2_any (v : Value) (b : List UInt8) (n : Nat) (w : World) (hv : Bs w v b) (hvl : ∀ q, v.ownBlock = some q → q < w.heap.size) (hl : b.length ≤ 100000) (hn : n ≤ 400) :
    Calls Tryz.prog 92 #[.int .i64 2, v, .int .i64 n] w fun e w' => Gtc w' w.heap.size (wayG 2 b n) e ∧ Fr Non w w' := by
  have HV := Lib.hid hv
  have HVl := Lib.hid hvl
  clear hv hvl
  have HW := Lib.hid (show wayG 2 b n = (numG 2 b n).map (List.map numC) from rfl)
  have HLn := Lib.hid (fun l (h : numG 2 b n = some l) => show l.length ≤ 400 by have := (numG_is h).2.1; omega)
  obtain ⟨Av, cv, rfl⟩ := HV.out.shape
  go_enter Tryz.func92, Tryz.ntmps92
  have hO0 : Oc (w.alloc (.cells #[] 54)) w.heap.size (.slice (some ⟨w.heap.size, 0, none⟩) 0 0) [] := oc_lit0 w w.heap.size w.heap.size rfl (Nat.le_refl _)
  have HO0 := Lib.hid hO0
  clear hO0
  have hO1 := HO0.out.alloc (.cells #[] 2)
  have HO1 := Lib.hid hO1
  have HF0 := Lib.hid (((Fr.refl Non w).alloc (.cells #[] 54)).alloc (.cells #[] 2))
  clear hO1 HO0
  go_wp2_with fail
  refine (rrnget_any _ b n _ (HV.out.non HF0.out) (fun q hq => Nat.lt_of_lt_of_le (HVl.out q hq) HF0.out.size) (by omega) (by omega) (by omega)).mono ?_
  rintro e w1 ⟨hG, hf1⟩
  obtain ⟨u, l, ok, rfl, hu, hlen, ho⟩ := two_n hG (HLn.out)
  have HFr := Lib.hid (HF0.out.trans hf1)
  have HOo := Lib.hid (HO1.out.non hf1)
  have hmn := HF0.out.size
  clear HO1 hf1
  have HU := Lib.hid (hu.mono hmn)
  have HO : Hid (numG 2 b n = if ok = true then some l else none) := Lib.hid ho
  obtain ⟨A, c, rfl⟩ := hu.shape
  clear hu ho hG HLn hmn HV HVl
  generalize hgg : w.heap.size = g at *
  have HG := Lib.hid hgg
  clear hgg
  go_wp2
  go_loopw [8, 16] (fun o i wr => ∃ (k : Nat), k ≤ l.length ∧ i = .int .i64 k ∧ Oc wr g o ((l.take k).map numC) ∧ Ow iv 2 wr g (.slice A l.length c) l ∧ Fr Non w wr) (fun _ i _ => l.length - (intOf i).toNat)
  case atStart => exact ⟨0, Nat.zero_le _, rfl, HOo.out, HU.out, HFr.out⟩
  case round =>
    clear HOo HU HFr
    obtain ⟨j, hj, rfl, hO, hU, hfr⟩ := hrel
    by_cases hlt : j < l.length
    · obtain ⟨ad, hA, _, _, hcell⟩ := hU.vs.addr (by omega)
      subst hA
      have hc0 := hcell j hlt
      unfold iv at hc0
      have HT := Lib.hid (mapN_take l j hlt)
      have hlk : ((l.take j).map numC).length ≤ 400 := by rw [List.length_map, List.length_take]; omega
      have hB := hfr.size
      clear hcell
      generalize l[j] = x at *
      go_wp2_with (at_builtin; refine wpList_pushC rfl (.tmp 99) (.tmp 105) rfl g _ _ rfl hO (numC x) _ _ _ rfl rfl rfl _ rfl (by simp) (by omega) (by have := HG.out; omega) ?_; intro v6 w6 hown6 hf6)
      have hU6 := hU.fr hf6 (fun q hq e => oc_other hO hU cell_ne_i64 q e hq)
      have hfr6 := hfr.fresh hf6 (fun q hq => by have := (hO.lt q hq).1; have := HG.out; omega)
      go_roundw
      case rel => exact ⟨j + 1, by omega, by go_num, by rw [HT.out]; exact hown6, hU6, hfr6⟩
      case measure => simp [intOf]; omega
    · obtain rfl : j = l.length := by omega
      rw [List.take_length] at hO
      go_wp2
      go_ret2
      refine ⟨?_, hfr⟩
      rw [HW.out, HO.out]
      cases ok with
      | true => exact .inr ⟨l.map numC, _, rfl, rfl, hO.mono (by have := HG.out; omega)⟩
      | false => exact .inl ⟨rfl, _, _, rfl, hO.mono (by have := HG.out; omega)⟩

set_option maxHeartbeats 4000000 in
theorem rread3_any (v : Value) (b : List UInt8) (n : Nat) (w : World) (hv : Bs w v b) (hvl : ∀ q, v.ownBlock = some q → q < w.heap.size) (hl : b.length ≤ 100000) (hn : n ≤ 400) :
    Calls Tryz.prog 92 #[.int .i64 3, v, .int .i64 n] w fun e w' => Gtc w' w.heap.size (wayG 3 b n) e ∧ Fr Non w w' := by
  have HV := Lib.hid hv
  have HVl := Lib.hid hvl
  clear hv hvl
  have HW := Lib.hid (show wayG 3 b n = (numG 3 b n).map (List.map numC) from rfl)
  have HLn := Lib.hid (fun l (h : numG 3 b n = some l) => show l.length ≤ 400 by have := (numG_is h).2.1; omega)
  obtain ⟨Av, cv, rfl⟩ := HV.out.shape
  go_enter Tryz.func92, Tryz.ntmps92
  have hO0 : Oc (w.alloc (.cells #[] 54)) w.heap.size (.slice (some ⟨w.heap.size, 0, none⟩) 0 0) [] := oc_lit0 w w.heap.size w.heap.size rfl (Nat.le_refl _)
  have HO0 := Lib.hid hO0
  clear hO0
  have hO1 := HO0.out.alloc (.cells #[] 2)
  have HO1 := Lib.hid hO1
  have HF0 := Lib.hid (((Fr.refl Non w).alloc (.cells #[] 54)).alloc (.cells #[] 2))
  clear hO1 HO0
  go_wp2_with fail
  refine (rdget_any _ b n _ (HV.out.non HF0.out) (fun q hq => Nat.lt_of_lt_of_le (HVl.out q hq) HF0.out.size) (by omega) (by omega) (by omega)).mono ?_
  rintro e w1 ⟨hG, hf1⟩
  obtain ⟨u, l, ok, rfl, hu, hlen, ho⟩ := two_n hG (HLn.out)
  have HFr := Lib.hid (HF0.out.trans hf1)
  have HOo := Lib.hid (HO1.out.non hf1)
  have hmn := HF0.out.size
  clear HO1 hf1
  have HU := Lib.hid (hu.mono hmn)
  have HO : Hid (numG 3 b n = if ok = true then some l else none) := Lib.hid ho
  obtain ⟨A, c, rfl⟩ := hu.shape
  clear hu ho hG HLn hmn HV HVl
  generalize hgg : w.heap.size = g at *
  have HG := Lib.hid hgg
  clear hgg
  go_wp2
  go_loopw [8, 16] (fun o i wr => ∃ (k : Nat), k ≤ l.length ∧ i = .int .i64 k ∧ Oc wr g o ((l.take k).map numC) ∧ Ow iv 2 wr g (.slice A l.length c) l ∧ Fr Non w wr) (fun _ i _ => l.length - (intOf i).toNat)
  case atStart => exact ⟨0, Nat.zero_le _, rfl, HOo.out, HU.out, HFr.out⟩
  case round =>
    clear HOo HU HFr
    obtain ⟨j, hj, rfl, hO, hU, hfr⟩ := hrel
    by_cases hlt : j < l.length
    · obtain ⟨ad, hA, _, _, hcell⟩ := hU.vs.addr (by omega)
      subst hA
      have hc0 := hcell j hlt
      unfold iv at hc0
      have HT := Lib.hid (mapN_take l j hlt)
      have hlk : ((l.take j).map numC).length ≤ 400 := by rw [List.length_map, List.length_take]; omega
      have hB := hfr.size
      clear hcell
      generalize l[j] = x at *
      go_wp2_with (at_builtin; refine wpList_pushC rfl (.tmp 99) (.tmp 105) rfl g _ _ rfl hO (numC x) _ _ _ rfl rfl rfl _ rfl (by simp) (by omega) (by have := HG.out; omega) ?_; intro v6 w6 hown6 hf6)
      have hU6 := hU.fr hf6 (fun q hq e => oc_other hO hU cell_ne_i64 q e hq)
      have hfr6 := hfr.fresh hf6 (fun q hq => by have := (hO.lt q hq).1; have := HG.out; omega)
      go_roundw
      case rel => exact ⟨j + 1, by omega, by go_num, by rw [HT.out]; exact hown6, hU6, hfr6⟩
      case measure => simp [intOf]; omega
    · obtain rfl : j = l.length := by omega
      rw [List.take_length] at hO
      go_wp2
      go_ret2
      refine ⟨?_, hfr⟩
      rw [HW.out, HO.out]
      cases ok with
      | true => exact .inr ⟨l.map numC, _, rfl, rfl, hO.mono (by have := HG.out; omega)⟩
      | false => exact .inl ⟨rfl, _, _, rfl, hO.mono (by have := HG.out; omega)⟩

set_option maxHeartbeats 4000000 in
theorem rread4_any (v : Value) (b : List UInt8) (n : Nat) (w : World) (hv : Bs w v b) (hvl : ∀ q, v.ownBlock = some q → q < w.heap.size) (hl : b.length ≤ 100000) (hn : n ≤ 400) :
    Calls Tryz.prog 92 #[.int .i64 4, v, .int .i64 n] w fun e w' => Gtc w' w.heap.size (wayG 4 b n) e ∧ Fr Non w w' := by
  have HV := Lib.hid hv
  have HVl := Lib.hid hvl
  clear hv hvl
  have HW := Lib.hid (show wayG 4 b n = (numG 4 b n).map (List.map numC) from rfl)
  have HLn := Lib.hid (fun l (h : numG 4 b n = some l) => show l.length ≤ 400 by have := (numG_is h).2.1; omega)
  obtain ⟨Av, cv, rfl⟩ := HV.out.shape
  go_enter Tryz.func92, Tryz.ntmps92
  have hO0 : Oc (w.alloc (.cells #[] 54)) w.heap.size (.slice (some ⟨w.heap.size, 0, none⟩) 0 0) [] := oc_lit0 w w.heap.size w.heap.size rfl (Nat.le_refl _)
  have HO0 := Lib.hid hO0
  clear hO0
  have hO1 := HO0.out.alloc (.cells #[] 2)
  have HO1 := Lib.hid hO1
  have HF0 := Lib.hid (((Fr.refl Non w).alloc (.cells #[] 54)).alloc (.cells #[] 2))
  clear hO1 HO0
  go_wp2_with fail
  refine (rtget_any _ b n _ (HV.out.non HF0.out) (fun q hq => Nat.lt_of_lt_of_le (HVl.out q hq) HF0.out.size) (by omega) (by omega) (by omega)).mono ?_
  rintro e w1 ⟨hG, hf1⟩
  rw [← getM_small (by omega)] at hG
  obtain ⟨u, l, ok, rfl, hu, hlen, ho⟩ := two_n hG (HLn.out)
  have HFr := Lib.hid (HF0.out.trans hf1)
  have HOo := Lib.hid (HO1.out.non hf1)
  have hmn := HF0.out.size
  clear HO1 hf1
  have HU := Lib.hid (hu.mono hmn)
  have HO : Hid (numG 4 b n = if ok = true then some l else none) := Lib.hid ho
  obtain ⟨A, c, rfl⟩ := hu.shape
  clear hu ho hG HLn hmn HV HVl
  generalize hgg : w.heap.size = g at *
  have HG := Lib.hid hgg
  clear hgg
  go_wp2
  go_loopw [8, 16] (fun o i wr => ∃ (k : Nat), k ≤ l.length ∧ i = .int .i64 k ∧ Oc wr g o ((l.take k).map numC) ∧ Ow iv 2 wr g (.slice A l.length c) l ∧ Fr Non w wr) (fun _ i _ => l.length - (intOf i).toNat)
  case atStart => exact ⟨0, Nat.zero_le _, rfl, HOo.out, HU.out, HFr.out⟩
  case round =>
    clear HOo HU HFr
    obtain ⟨j, hj, rfl, hO, hU, hfr⟩ := hrel
    by_cases hlt : j < l.length
    · obtain ⟨ad, hA, _, _, hcell⟩ := hU.vs.addr (by omega)
      subst hA
      have hc0 := hcell j hlt
      unfold iv at hc0
      have HT := Lib.hid (mapN_take l j hlt)
      have hlk : ((l.take j).map numC).length ≤ 400 := by rw [List.length_map, List.length_take]; omega
      have hB := hfr.size
      clear hcell
      generalize l[j] = x at *
      go_wp2_with (at_builtin; refine wpList_pushC rfl (.tmp 99) (.tmp 105) rfl g _ _ rfl hO (numC x) _ _ _ rfl rfl rfl _ rfl (by simp) (by omega) (by have := HG.out; omega) ?_; intro v6 w6 hown6 hf6)
      have hU6 := hU.fr hf6 (fun q hq e => oc_other hO hU cell_ne_i64 q e hq)
      have hfr6 := hfr.fresh hf6 (fun q hq => by have := (hO.lt q hq).1; have := HG.out; omega)
      go_roundw
      case rel => exact ⟨j + 1, by omega, by go_num, by rw [HT.out]; exact hown6, hU6, hfr6⟩
      case measure => simp [intOf]; omega
    · obtain rfl : j = l.length := by omega
      rw [List.take_length] at hO
      go_wp2
      go_ret2
      refine ⟨?_, hfr⟩
      rw [HW.out, HO.out]
      cases ok with
      | true => exact .inr ⟨l.map numC, _, rfl, rfl, hO.mono (by have := HG.out; omega)⟩
      | false => exact .inl ⟨rfl, _, _, rfl, hO.mono (by have := HG.out; omega)⟩

set_option maxHeartbeats 4000000 in
theorem rread5_any (v : Value) (b : List UInt8) (n : Nat) (w : World) (hv : Bs w v b) (hvl : ∀ q, v.ownBlock = some q → q < w.heap.size) (hl : b.length ≤ 100000) (hn : n ≤ 400) :
    Calls Tryz.prog 92 #[.int .i64 5, v, .int .i64 n] w fun e w' => Gtc w' w.heap.size (wayG 5 b n) e ∧ Fr Non w w' := by
  have HV := Lib.hid hv
  have HVl := Lib.hid hvl
  clear hv hvl
  have HW := Lib.hid (show wayG 5 b n = (txtG 5 b n).map (List.map txtC) from rfl)
  have HLn := Lib.hid (fun l (h : txtG 5 b n = some l) => show l.length ≤ 400 by have := (txtG_is h).2; omega)
  obtain ⟨Av, cv, rfl⟩ := HV.out.shape
  go_enter Tryz.func92, Tryz.ntmps92
  have hO0 : Oc (w.alloc (.cells #[] 54)) w.heap.size (.slice (some ⟨w.heap.size, 0, none⟩) 0 0) [] := oc_lit0 w w.heap.size w.heap.size rfl (Nat.le_refl _)
  have HO0 := Lib.hid hO0
  clear hO0
  have HO1 := HO0
  have HF0 := Lib.hid ((Fr.refl Non w).alloc (.cells #[] 54))
  clear HO0
  go_wp2_with fail
  refine (rtexts_any _ b n 40 _ (HV.out.non HF0.out) (fun q hq => Nat.lt_of_lt_of_le (HVl.out q hq) HF0.out.size) (by omega) (by omega) (by omega) (by omega)).mono ?_
  rintro e w1 ⟨hG, hf1⟩
  obtain ⟨u, l, ok, rfl, hu, hlen, ho⟩ := two_x hG (HLn.out)
  have HFr := Lib.hid (HF0.out.trans hf1)
  have HOo := Lib.hid (HO1.out.non hf1)
  have hmn := HF0.out.size
  clear HO1 hf1
  have HU := Lib.hid (hu.mono hmn)
  have HO : Hid (txtG 5 b n = if ok = true then some l else none) := Lib.hid ho
  obtain ⟨A, c, rfl⟩ := hu.shape
  clear hu ho hG HLn hmn HV HVl
  generalize hgg : w.heap.size = g at *
  have HG := Lib.hid hgg
  clear hgg
  go_wp2
  go_loopw [8, 11] (fun o i wr => ∃ (k : Nat), k ≤ l.length ∧ i = .int .i64 k ∧ Oc wr g o ((l.take k).map txtC) ∧ Ow sv 9 wr g (.slice A l.length c) l ∧ Fr Non w wr) (fun _ i _ => l.length - (intOf i).toNat)
  case atStart => exact ⟨0, Nat.zero_le _, rfl, HOo.out, HU.out, HFr.out⟩
  case round =>
    clear HOo HU HFr
    obtain ⟨j, hj, rfl, hO, hU, hfr⟩ := hrel
    by_cases hlt : j < l.length
    · obtain ⟨ad, hA, _, _, hcell⟩ := hU.vs.addr (by omega)
      subst hA
      have hc0 := hcell j hlt
      unfold sv at hc0
      have HT := Lib.hid (mapX_take l j hlt)
      have hlk : ((l.take j).map txtC).length ≤ 400 := by rw [List.length_map, List.length_take]; omega
      have hB := hfr.size
      clear hcell
      generalize l[j] = x at *
      go_wp2_with (at_builtin; refine wpList_pushC rfl (.tmp 40) (.tmp 46) rfl g _ _ rfl hO (txtC x) _ _ _ rfl rfl rfl _ rfl (by simp) (by omega) (by have := HG.out; omega) ?_; intro v6 w6 hown6 hf6)
      have hU6 := hU.fr hf6 (fun q hq e => oc_other hO hU cell_ne_str q e hq)
      have hfr6 := hfr.fresh hf6 (fun q hq => by have := (hO.lt q hq).1; have := HG.out; omega)
      go_roundw
      case rel => exact ⟨j + 1, by omega, by go_num, by rw [HT.out]; exact hown6, hU6, hfr6⟩
      case measure => simp [intOf]; omega
    · obtain rfl : j = l.length := by omega
      rw [List.take_length] at hO
      go_wp2
      go_ret2
      refine ⟨?_, hfr⟩
      rw [HW.out, HO.out]
      cases ok with
      | true => exact .inr ⟨l.map txtC, _, rfl, rfl, hO.mono (by have := HG.out; omega)⟩
      | false => exact .inl ⟨rfl, _, _, rfl, hO.mono (by have := HG.out; omega)⟩

set_option maxHeartbeats 4000000 in
theorem rread6_any (v : Value) (b : List UInt8) (n : Nat) (w : World) (hv : Bs w v b) (hvl : ∀ q, v.ownBlock = some q → q < w.heap.size) (hl : b.length ≤ 100000) (hn : n ≤ 400) :
    Calls Tryz.prog 92 #[.int .i64 6, v, .int .i64 n] w fun e w' => Gtc w' w.heap.size (wayG 6 b n) e ∧ Fr Non w w' := by
  have HV := Lib.hid hv
  have HVl := Lib.hid hvl
  clear hv hvl
  have HW := Lib.hid (show wayG 6 b n = (txtG 6 b n).map (List.map txtC) from rfl)
  have HLn := Lib.hid (fun l (h : txtG 6 b n = some l) => show l.length ≤ 400 by have := (txtG_is h).2; omega)
  obtain ⟨Av, cv, rfl⟩ := HV.out.shape
  go_enter Tryz.func92, Tryz.ntmps92
  have hO0 : Oc (w.alloc (.cells #[] 54)) w.heap.size (.slice (some ⟨w.heap.size, 0, none⟩) 0 0) [] := oc_lit0 w w.heap.size w.heap.size rfl (Nat.le_refl _)
  have HO0 := Lib.hid hO0
  clear hO0
  have HO1 := HO0
  have HF0 := Lib.hid ((Fr.refl Non w).alloc (.cells #[] 54))
  clear HO0
  go_wp2_with fail
  refine (rtexts_any _ b n 40 _ (HV.out.non HF0.out) (fun q hq => Nat.lt_of_lt_of_le (HVl.out q hq) HF0.out.size) (by omega) (by omega) (by omega) (by omega)).mono ?_
  rintro e w1 ⟨hG, hf1⟩
  have HF1 := Lib.hid (HF0.out.trans hf1)
  have HO1b := Lib.hid (HO1.out.non hf1)
  clear HO1
  obtain ⟨u0, l0, ok0, rfl, hu0, _, _⟩ := two_x hG (fun l h => show l.length ≤ 400 by have := (textsM_is h).2.1; omega)
  clear hG hu0
  go_wp2_with fail
  refine (rxget_any _ b n 40 _ (HV.out.non HF1.out) (fun q hq => Nat.lt_of_lt_of_le (HVl.out q hq) HF1.out.size) (by omega) (by omega) (by omega) (by omega)).mono ?_
  rintro e w2 ⟨hG, hf2⟩
  rw [rgetM_is (by omega)] at hG
  obtain ⟨u, l, ok, rfl, hu, hlen, ho⟩ := two_x hG (HLn.out)
  have HFr := Lib.hid (HF1.out.trans hf2)
  have HOo := Lib.hid (HO1b.out.non hf2)
  have hmn := HF1.out.size
  clear HO1b hf1 hf2
  have HU := Lib.hid (hu.mono hmn)
  have HO : Hid (txtG 6 b n = if ok = true then some l else none) := Lib.hid ho
  obtain ⟨A, c, rfl⟩ := hu.shape
  clear hu ho hG HLn hmn HV HVl
  generalize hgg : w.heap.size = g at *
  have HG := Lib.hid hgg
  clear hgg
  go_wp2
  go_loopw [8, 11] (fun o i wr => ∃ (k : Nat), k ≤ l.length ∧ i = .int .i64 k ∧ Oc wr g o ((l.take k).map txtC) ∧ Ow sv 9 wr g (.slice A l.length c) l ∧ Fr Non w wr) (fun _ i _ => l.length - (intOf i).toNat)
  case atStart => exact ⟨0, Nat.zero_le _, rfl, HOo.out, HU.out, HFr.out⟩
  case round =>
    clear HOo HU HFr
    obtain ⟨j, hj, rfl, hO, hU, hfr⟩ := hrel
    by_cases hlt : j < l.length
    · obtain ⟨ad, hA, _, _, hcell⟩ := hU.vs.addr (by omega)
      subst hA
      have hc0 := hcell j hlt
      unfold sv at hc0
      have HT := Lib.hid (mapX_take l j hlt)
      have hlk : ((l.take j).map txtC).length ≤ 400 := by rw [List.length_map, List.length_take]; omega
      have hB := hfr.size
      clear hcell
      generalize l[j] = x at *
      go_wp2_with (at_builtin; refine wpList_pushC rfl (.tmp 40) (.tmp 46) rfl g _ _ rfl hO (txtC x) _ _ _ rfl rfl rfl _ rfl (by simp) (by omega) (by have := HG.out; omega) ?_; intro v6 w6 hown6 hf6)
      have hU6 := hU.fr hf6 (fun q hq e => oc_other hO hU cell_ne_str q e hq)
      have hfr6 := hfr.fresh hf6 (fun q hq => by have := (hO.lt q hq).1; have := HG.out; omega)
      go_roundw
      case rel => exact ⟨j + 1, by omega, by go_num, by rw [HT.out]; exact hown6, hU6, hfr6⟩
      case measure => simp [intOf]; omega
    · obtain rfl : j = l.length := by omega
      rw [List.take_length] at hO
      go_wp2
      go_ret2
      refine ⟨?_, hfr⟩
      rw [HW.out, HO.out]
      cases ok with
      | true => exact .inr ⟨l.map txtC, _, rfl, rfl, hO.mono (by have := HG.out; omega)⟩
      | false => exact .inl ⟨rfl, _, _, rfl, hO.mono (by have := HG.out; omega)⟩
end Go.Proofs.YtheefloegbkflaaGreatDoor
