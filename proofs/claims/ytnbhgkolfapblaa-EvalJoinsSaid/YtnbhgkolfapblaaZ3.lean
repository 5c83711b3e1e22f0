/-
  Joined: Layer 20: two values compared, a text matched, a row's value in a column; the document's comparison. · Layer 17: which predicates may be, the document's. · Layer 20: what a predicate is of a row, the program's. · Layer 20: what a predicate is of a row, the program's: of every one. · Rows: slices of slices of cells: what one reads as (Rs), one of the call's own (Ro), and the steps over them; a cell appended, the new row in the old block or in a new one. · Layer 20: the program's ask, Row, Rows. · Layer 17: slices of predicates laid by a literal. · Layer 20: the page's examples. · Layer 20: two predicates in an array; not of an and, or of an or; what is equal of them. · Layer 10: which lists of cells are small. · Layer 12: which columns a table may have, the document's; the law's words; the example. · Layer 13: which columns and rows are small. · Layer 17: the document's May, Small, typed, Fits.
-/
import Derived.Lib.Zigzag
import Derived.Laws.Rows
import Derived.Laws.ResultCell
import Derived.BigRegion
import Derived.Test.YtnbhgkolfapblaaZ2
import Derived.Deep.QuietTactic
import Derived.Deep.RegionWith
import Derived.Deep.RegionHeld3
import Derived.ArgAppend
import Derived.Deep.DeepAppendRoom
import Derived.BigQuiet

namespace Go.Proofs.Ytnbhgkolfapblaa
set_option linter.unusedVariables false
set_option linter.unusedSimpArgs false
set_option maxRecDepth 100000
open Go.RowKit

theorem ecompared_any (ty : Int) (nl : Bool) (op : Int) (c v : Cl) (w : World) (hc : mayC ty nl c = true) (hv : mayC ty false v = true) :
    Calls Try.prog 44 #[anV (toA ty c), anV (toA ty v), .int .i64 op] w fun e w' => e = .returned (.int .i64 (cmpR op c v)) ∧ Fr Non w w' := by
  cases hn : c.null
  · obtain ⟨hT, hO⟩ := an_two hc hv hn (may_null hv)
    have HC := Lib.hid (fun W => eorder_any _ _ hT W)
    rw [hO] at HC
    have HA := Lib.hid (fun n W => eagrees_any op n W)
    have HY := Lib.hid (fun b W => etold_any b W)
    have HE : Hid (cmpR op c v = yesI (agrI op (ordC c v))) := Lib.hid (by unfold cmpR; rw [hn]; rfl)
    have hN := fun W u x => not_nil W u x
    have hsh : ∃ u x, anV (toA ty c) = .iface u x := by
      generalize toA ty c = a at hT
      generalize toA ty v = b at hT
      cases hT <;> exact ⟨_, _, rfl⟩
    obtain ⟨u, x, hux⟩ := hsh
    rw [hux] at HC ⊢
    generalize anV (toA ty v) = y at *
    generalize ordC c v = n at *
    clear hO hT hux hn hc hv
    go_enter Try.func44, Try.ntmps44
    go_wp2_with fail
    refine (HC.out _).mono ?_
    rintro e w1 ⟨rfl, f1⟩
    go_wp2_with fail
    refine (HA.out _ _).mono ?_
    rintro e w2 ⟨rfl, rfl⟩
    go_wp2_with fail
    refine (HY.out _ _).mono ?_
    rintro e w3 ⟨rfl, rfl⟩
    go_wp2
    go_ret
    exact ⟨ret_int HE.out.symm, f1⟩
  · have HE : Hid (cmpR op c v = 2) := Lib.hid (by unfold cmpR; rw [hn]; rfl)
    rw [toA_null hn]
    generalize anV (toA ty v) = y at *
    unfold anV
    have hN := fun W => nil_nil W
    clear hn hc hv
    go_enter Try.func44, Try.ntmps44
    go_wp2
    go_ret
    exact ⟨ret_int HE.out.symm, Fr.refl _ _⟩

/-- no value: no text -/
theorem as_nil_str (W : World) : (Instr.typeAssert .nilIface 20 9 true).run Try.prog W = .ok (.tuple #[.string ⟨#[]⟩, .bool false]) W := by kernel_rfl
theorem eliked_any (nl : Bool) (c : Cl) (p : Tx) (w : World) (hc : mayC 3 nl c = true) (hp : p.length ≤ 1000) :
    Calls Try.prog 48 #[anV (toA 3 c), .string ⟨p.toArray⟩] w fun e w' => e = .returned (.int .i64 (likR c p)) ∧ Fr Non w w' := by
  cases hn : c.null
  · have ht := mayC_text hc
    have HG := Lib.hid (fun W => gmatch_any p c.txt W (by omega) (by omega))
    have HY := Lib.hid (fun b W => etold_any b W)
    have HE : Hid (likR c p = yesI (matchU p c.txt)) := Lib.hid (by unfold likR; rw [hn]; rfl)
    have hA := fun W v => as_str_str W v
    have ht3 : toA 3 c = .text c.txt := by unfold toA; rw [hn]; rfl
    rw [ht3]
    unfold anV
    generalize c.txt = t at *
    generalize matchU p t = b at *
    clear hn hc ht ht3
    go_enter Try.func48, Try.ntmps48
    go_wp2_with fail
    refine (HG.out _).mono ?_
    rintro e w1 ⟨rfl, f1⟩
    go_wp2_with fail
    refine (HY.out _ _).mono ?_
    rintro e w2 ⟨rfl, rfl⟩
    go_wp2
    go_ret
    exact ⟨ret_int HE.out.symm, f1⟩
  · have HE : Hid (likR c p = 2) := Lib.hid (by unfold likR; rw [hn]; rfl)
    rw [toA_null hn]
    unfold anV
    have hA := fun W => as_nil_str W
    clear hn hc
    go_enter Try.func48, Try.ntmps48
    go_wp2
    go_ret
    exact ⟨ret_int HE.out.symm, Fr.refl _ _⟩

/-! ### A row's value -/
/-- a record's value, and its block -/
def recV (v1 v2 : Value) : Value := .agg #[v1, v2]
set_option maxHeartbeats 2000000 in
theorem evalue_any (v1 v2 : Value) (cols : List Co) (row : List Cl) (n : Tx) (k : Nat) (w : World) (h1 : Ks w v1 cols) (h2 : Cs w v2 row) (hcl : cols.length ≤ 1000) (hk : k < cols.length) (hk2 : k < row.length) (hf : findC cols n = some k) :
    Calls Try.prog 45 #[recV v1 v2, .string ⟨n.toArray⟩] w fun e w' => e = .returned (anV (toA cols[k].ty row[k])) ∧ Fr Non w w' := by
  obtain ⟨A1, c1, rfl⟩ := h1.shape
  obtain ⟨A2, c2, rfl⟩ := h2.shape
  have F0 : Fr Non w (w.alloc (.cells #[.slice A1 cols.length c1, .slice A2 row.length c2] 61)) := (Fr.refl Non w).alloc _
  have RB : Blk (w.alloc (.cells #[.slice A1 cols.length c1, .slice A2 row.length c2] 61)) w.heap.size 61 #[.slice A1 cols.length c1, .slice A2 row.length c2] := Blk.new _ _ _
  have FC := Lib.hid (fun W h => sfind_any (.slice A1 cols.length c1) cols n W h (by omega))
  rw [hf] at FC
  have HK1 : Hid (Ks _ (.slice A1 cols.length c1) cols) := Lib.hid (h1.non F0)
  have HC2 := Lib.hid (h2.non F0)
  replace F0 := Lib.hid F0
  replace RB := Lib.hid RB
  have HX := fun W => ato_any cols[k].ty row[k] W
  generalize anV (toA cols[k].ty row[k]) = r at *
  replace HX := Lib.hid HX
  unfold recV
  have g0 := RB.out.cell 0
  simp at g0
  clear h1 h2 hf
  go_enter Try.func45, Try.ntmps45
  go_wp2_with fail
  refine (FC.out _ HK1.out).mono ?_
  rintro e w1 ⟨rfl, f1⟩
  have RB1 := Lib.hid (RB.out.fr f1 (fun e => e))
  have HK2 : Hid (Ks w1 (.slice A1 cols.length c1) cols) := Lib.hid (HK1.out.non f1)
  have HC3 := Lib.hid (HC2.out.non f1)
  have F1 := Lib.hid (F0.out.trans f1).drew
  clear f1 HK1 HC2 RB F0 FC g0
  obtain ⟨a1, rfl, -, t1⟩ := Ks.findS HK2.out k (by omega)
  obtain ⟨a2, rfl, -, -, hel⟩ := HC3.out.addr (show 0 < row.length by omega)
  obtain ⟨t3, t4, t5⟩ := (hel k (by omega)).lit
  have t6 := RB1.out.cell 0
  have t7 := RB1.out.cell 1
  simp at t6 t7
  generalize cols[k].ty = ty at *
  generalize row[k] = c at *
  obtain ⟨yn, yt, yb⟩ := c
  unfold clV clC at HX
  dsimp only at t3 t4 t5 HX
  unfold findV
  replace t1 : w1.drew.cell? _ = _ := t1
  replace t3 : w1.drew.cell? _ = _ := t3
  replace t4 : w1.drew.cell? _ = _ := t4
  replace t5 : w1.drew.cell? _ = _ := t5
  replace t6 : w1.drew.cell? _ = _ := t6
  replace t7 : w1.drew.cell? _ = _ := t7
  clear hel HK2 HC3 RB1
  generalize w.heap.size = g at *
  go_wp2
  go_region_held3 (fun W => W.cell? ⟨g, 0, none⟩ = some (.slice (some a1) cols.length c1) ∧ W.cell? ⟨g, 1, none⟩ = some (.slice (some a2) row.length c2) ∧ W.cell? { block := (a1.add (k * 3)).block, off := (a1.add (k * 3)).off + 1 } = some (.int .i64 ty) ∧ W.cell? (a2.add (k * 3)) = some (.bool yn) ∧ W.cell? { block := (a2.add (k * 3)).block, off := (a2.add (k * 3)).off + 1 } = some (.int .i64 yt) ∧ W.cell? { block := (a2.add (k * 3)).block, off := (a2.add (k * 3)).off + 2 } = some (.string ⟨yb.toArray⟩)) (first | exact ⟨t6, t7, t1, t3, t4, t5⟩ | exact ⟨u6, u7, u1, u3, u4, u5⟩ | fail) (first | (go_at_call 46; refine (HX.out _).mono ?_; rintro e w4 ⟨rfl, f4⟩; have F4 := Lib.hid (F1.out.trans f4); have u1 := (f4.cell (World.block_lt_of_cell? _ _ t1) (fun e => e)).trans t1; have u3 := (f4.cell (World.block_lt_of_cell? _ _ t3) (fun e => e)).trans t3; have u4 := (f4.cell (World.block_lt_of_cell? _ _ t4) (fun e => e)).trans t4; have u5 := (f4.cell (World.block_lt_of_cell? _ _ t5) (fun e => e)).trans t5; have u6 := (f4.cell (World.block_lt_of_cell? _ _ t6) (fun e => e)).trans t6; have u7 := (f4.cell (World.block_lt_of_cell? _ _ t7) (fun e => e)).trans t7))
  clear u1 u3 u4 u5 u6 u7 f4 t1 t3 t4 t5 t6 t7 HX F1
  go_wp2
  go_ret
  exact ⟨rfl, F4.out⟩

/-! ### The document's comparison -/
end Go.Proofs.Ytnbhgkolfapblaa


namespace Go.Proofs.Ytnbhgkolfapblaa
set_option linter.unusedVariables false
set_option linter.unusedSimpArgs false
set_option maxRecDepth 100000
open Go.RowKit

/-- an element's slice is what it was -/
theorem Kd.elN {w w' : World} {s : Kv} {ps : List Pd} (h : Kd w s ps) (hf : Fr Non w w') (j : Nat) (hj : j < ps.length) :
    ∃ a t, s.A = some a ∧ PCells w' (a.add (j * 9)) ps[j].hd t ∧ Kd w t ps[j].kids ∧ I64b ps[j].hd.val.num := by
  obtain ⟨a, t, hA, hc, hk, hb⟩ := h.el j hj
  refine ⟨a, t, hA, ?_, hk, hb⟩
  obtain ⟨c0, c1, c2, c3, c4, c5, c6, c7, c8⟩ := hc
  have q : ∀ (p : Addr) (v : Value), w.cell? p = some v → w'.cell? p = some v := fun p v e => (hf.cell (World.block_lt_of_cell? w _ e) (fun e => e)).trans e
  exact ⟨q _ _ c0, q _ _ c1, q _ _ c2, q _ _ c3, q _ _ c4, q _ _ c5, q _ _ c6, q _ _ c7, q _ _ c8⟩

/-! ### How many -/
/-! ### One -/
end Go.Proofs.Ytnbhgkolfapblaa


namespace Go.Proofs.Ytnbhgkolfapblaa
set_option linter.unusedVariables false
set_option linter.unusedSimpArgs false
set_option maxRecDepth 100000
open Go.RowKit

set_option maxHeartbeats 4000000 in
theorem echain_of (v1 v2 : Value) (cols : List Co) (row : List Cl) (ks : List Pd) (s k0 : Int) (t : Kv) (w : World) (h1 : Ks w v1 cols) (h2 : Cs w v2 row) (hk : Kd w t ks) (hl : ks.length ≤ 1000)
    (IH : Hid (∀ j (h : j < ks.length) (W : World) (t' : Kv), Ks W v1 cols → Cs W v2 row → Kd W t' ks[j].kids → Calls Try.prog 28 #[recV v1 v2, pdV ks[j].hd t'] W fun e w' => e = .returned (.int .i64 (truP cols row ks[j])) ∧ Fr Non W w')) :
    Calls Try.prog 50 #[recV v1 v2, kidV t, .int .i64 s, .int .i64 k0] w fun e w' => e = .returned (.int .i64 (chnI s k0 (ks.map (truP cols row)))) ∧ Fr Non w w' := by
  have hn := hk.len
  obtain ⟨A1, c1, rfl⟩ := h1.shape
  obtain ⟨A2, c2, rfl⟩ := h2.shape
  have HV : Hid (Ks w (.slice A1 cols.length c1) cols) := Lib.hid h1
  have HC := Lib.hid h2
  have HK := Lib.hid hk
  have F0 : Fr Non w (w.alloc (.cells #[.slice A1 cols.length c1, .slice A2 row.length c2] 61)) := (Fr.refl Non w).alloc _
  have RB : Blk (w.alloc (.cells #[.slice A1 cols.length c1, .slice A2 row.length c2] 61)) w.heap.size 61 #[.slice A1 cols.length c1, .slice A2 row.length c2] := Blk.new _ _ _
  replace F0 := Lib.hid F0
  replace RB := Lib.hid RB
  unfold recV at *
  clear h1 h2 hk
  obtain ⟨A, n, c⟩ := t
  dsimp only at hn
  have hn9 : n ≤ 1000 := by omega
  have HL := Lib.hid hn
  clear hn hl
  unfold kidV
  dsimp only
  have HE0 : Hid (∀ j is, ChnTo s k0 (ks.map (truP cols row)) j is → n ≤ j → chnI s k0 (ks.map (truP cols row)) = is) := Lib.hid (fun j is h hj => chn_end h (by rw [List.length_map]; have := HL.out; omega))
  have HE1 : Hid (∀ j (h : j < ks.length), truP cols row ks[j] = s → chnI s k0 (ks.map (truP cols row)) = s) := Lib.hid (fun j h e => chn_at (j := j) (by rw [List.length_map]; exact h) (by rw [List.getElem_map]; exact e))
  have HE2 : Hid (∀ j is (h : j < ks.length), ChnTo s k0 (ks.map (truP cols row)) j is → truP cols row ks[j] ≠ s → ChnTo s k0 (ks.map (truP cols row)) (j + 1) (if truP cols row ks[j] = 2 then 2 else is)) := Lib.hid (fun j is h e h1 => by
    have := chn_more (j := j) e (by rw [List.length_map]; exact h) (by rw [List.getElem_map]; exact h1)
    rw [List.getElem_map] at this; exact this)
  have HS0 : Hid (ChnTo s k0 (ks.map (truP cols row)) 0 k0) := Lib.hid (chn_start _ _ _)
  generalize chnI s k0 (ks.map (truP cols row)) = r at *
  generalize ks.map (truP cols row) = L at *
  go_enter Try.func50, Try.ntmps50
  go_wp2
  go_loopw [9, 15] (fun u i wr => ∃ (k : Nat) (is : Int), k ≤ n ∧ i = .int .i64 k ∧ u = .int .i64 is ∧ Hid (ChnTo s k0 L k is) ∧ Hid (Fr Non (w.alloc (.cells #[.slice A1 cols.length c1, .slice A2 row.length c2] 61)) wr)) (fun _ i _ => n - (intOf i).toNat)
  case atStart => exact ⟨0, k0, Nat.zero_le _, rfl, rfl, HS0, Lib.hid (Fr.refl _ _)⟩
  case round =>
    clear HS0
    obtain ⟨k, is, hk, rfl, rfl, HT, FR⟩ := hrel
    have HFw := Lib.hid (F0.out.trans FR.out)
    by_cases hlt : k < n
    · have hlt2 : k < ks.length := by have := HL.out; omega
      obtain ⟨a, t, hA, hc2, hkk, _⟩ := HK.out.elN HFw.out k hlt2
      have HCa : Hid (∀ W, Fr Non wr W → Calls Try.prog 28 #[.agg #[.slice A1 cols.length c1, .slice A2 row.length c2], pdV ks[k].hd t] W fun e w' => e = .returned (.int .i64 (truP cols row ks[k])) ∧ Fr Non W w') :=
        Lib.hid (fun W hf => IH.out k hlt2 W t (HV.out.non (HFw.out.trans hf)) (HC.out.non (HFw.out.trans hf)) (hkk.non (HFw.out.trans hf)))
      have HY := Lib.hid (fun e => HE1.out k hlt2 e)
      have HX := Lib.hid (fun e => HE2.out k is hlt2 HT.out e)
      dsimp only at hA
      subst hA
      obtain ⟨c0, c1_, c2_, c3, c4, c5, c6, c7, c8⟩ := hc2
      clear hkk HT HE0 HE1 HE2
      generalize truP cols row ks[k] = y at *
      generalize ks[k].hd = x at *
      have F1 : Fr Non wr (wr.alloc (.cells (pdC x t) 27)) := (Fr.refl Non wr).alloc _
      replace HCa := Lib.hid (HCa.out _ F1)
      have HB := Lib.hid (pd_new wr _ x t rfl)
      have RB1 := Lib.hid (RB.out.fr (FR.out.trans F1) (fun e => e))
      replace F1 := Lib.hid F1
      obtain ⟨xo, xc, xm, ⟨xn, xi, xt⟩, xk, xp⟩ := x
      obtain ⟨tA, tn, tc⟩ := t
      unfold pdV pdC kidV at *
      dsimp only at *
      have r0 := RB1.out.cell 0
      have r1 := RB1.out.cell 1
      simp at r0 r1
      obtain ⟨b0, b1, b2, b3, b4, b5, b6, b7, b8⟩ := pdB_cells HB.out
      dsimp only at b0 b1 b2 b3 b4 b5 b6 b7 b8
      by_cases hs : y = s
      · have HE := Lib.hid (HY.out hs)
        have hb : (y == s) = true := by rw [beq_iff_eq]; exact hs
        clear HX HY
        go_wp2_with fail
        refine HCa.out.mono ?_
        rintro e w2 ⟨rfl, f2⟩
        clear HCa
        go_wp2
        go_ret
        exact ⟨ret_int HE.out.symm, HFw.out.trans (F1.out.trans f2)⟩
      · have hb : (y == s) = false := by rw [beq_eq_false_iff_ne]; exact hs
        have HE := Lib.hid (HX.out hs)
        clear HX HY hs
        by_cases h2 : y = 2
        · subst h2
          rw [if_pos rfl] at HE
          go_wp2_with fail
          refine HCa.out.mono ?_
          rintro e w2 ⟨rfl, f2⟩
          clear HCa
          go_wp2
          go_roundw
          case rel => exact ⟨k + 1, 2, by omega, by go_num, rfl, HE, Lib.hid (FR.out.trans (F1.out.trans f2))⟩
          case measure => simp [intOf]; omega
        · rw [if_neg h2] at HE
          have hb2 : (y == 2) = false := by rw [beq_eq_false_iff_ne]; exact h2
          clear h2
          go_wp2_with fail
          refine HCa.out.mono ?_
          rintro e w2 ⟨rfl, f2⟩
          clear HCa
          go_wp2
          go_roundw
          case rel => exact ⟨k + 1, is, by omega, by go_num, rfl, HE, Lib.hid (FR.out.trans (F1.out.trans f2))⟩
          case measure => simp [intOf]; omega
    · have HE := Lib.hid (HE0.out k is HT.out (by omega))
      clear HT HE0 HE1 HE2
      go_wp2
      go_ret
      exact ⟨ret_int HE.out.symm, HFw.out⟩

end Go.Proofs.Ytnbhgkolfapblaa


namespace Go.Proofs.Ytnbhgkolfapblaa
set_option linter.unusedVariables false
set_option linter.unusedSimpArgs false
set_option maxRecDepth 100000
open Go.RowKit

/-- a record and a predicate, boxed one behind the other -/
def recW (w : World) (v1 v2 : Value) (h : Ph) (t : Kv) : World := (w.alloc (.cells #[v1, v2] 61)).alloc (.cells (pdC h t) 27)
theorem recW_fr (w : World) (v1 v2 : Value) (h : Ph) (t : Kv) : Fr Non w (recW w v1 v2 h t) := ((Fr.refl Non w).alloc _).alloc _
theorem recW_rec (w : World) (v1 v2 : Value) (h : Ph) (t : Kv) : Blk (recW w v1 v2 h t) w.heap.size 61 #[v1, v2] := (Blk.new _ _ _).fr ((Fr.refl Non _).alloc _) (fun e => e)
theorem recW_pd (w : World) (v1 v2 : Value) (h : Ph) (t : Kv) : PdB (recW w v1 v2 h t) (w.heap.size + 1) h t := by
  have e := pd_new (w.alloc (.cells #[v1, v2] 61)) _ h t rfl
  rw [show (w.alloc (.cells #[v1, v2] 61)).heap.size = w.heap.size + 1 by simp] at e
  exact e
theorem truH_1 {cols : List Co} {row : List Cl} {h : Ph} {ts : List Int} (e : h.op = 1) : truH cols row h ts = 1 := by unfold truH; rw [e]; rfl
theorem truH_2 {cols : List Co} {row : List Cl} {h : Ph} {ts : List Int} (e : h.op = 2) : truH cols row h ts = cmpR h.cmp (cellN cols row h.col) h.val := by unfold truH; rw [if_pos e]
theorem truH_3 {cols : List Co} {row : List Cl} {h : Ph} {ts : List Int} (e : h.op = 3) : truH cols row h ts = yesI (cellN cols row h.col).null := by unfold truH; rw [if_neg (by omega), if_pos e]
theorem truH_4 {cols : List Co} {row : List Cl} {h : Ph} {ts : List Int} (e : h.op = 4) : truH cols row h ts = likR (cellN cols row h.col) h.pat := by unfold truH; rw [if_neg (by omega), if_neg (by omega), if_pos e]
theorem truH_5 {cols : List Co} {row : List Cl} {h : Ph} {ts : List Int} (e : h.op = 5) : truH cols row h ts = notI (ts.headD 0) := by unfold truH; rw [if_neg (by omega), if_neg (by omega), if_neg (by omega), if_pos e]
theorem truH_6 {cols : List Co} {row : List Cl} {h : Ph} {ts : List Int} (e : h.op = 6) : truH cols row h ts = chnI 0 1 ts := by unfold truH; rw [if_neg (by omega), if_neg (by omega), if_neg (by omega), if_neg (by omega), if_pos e]
theorem truH_7 {cols : List Co} {row : List Cl} {h : Ph} {ts : List Int} (e : h.op = 7) : truH cols row h ts = chnI 1 0 ts := by unfold truH; rw [if_neg (by omega), if_neg (by omega), if_neg (by omega), if_neg (by omega), if_neg (by omega), if_pos e]

theorem an_iface {ty : Int} {nl : Bool} {c : Cl} (h : mayC ty nl c = true) (hn : c.null = false) : ∃ u x, anV (toA ty c) = .iface u x := by
  have h1 := (an_two h h hn hn).1
  revert h1
  generalize toA ty c = a
  intro h1
  cases h1 <;> exact ⟨_, _, rfl⟩

set_option maxHeartbeats 8000000 in
theorem etruth_any (v1 v2 : Value) (cols : List Co) (row : List Cl) (hcl : cols.length ≤ 1000) (hr : rowB cols row = true) (p : Pd) : ∀ (t : Kv) (w : World), Ks w v1 cols → Cs w v2 row → Kd w t p.kids → bigP p = true → oneP p = true → typP cols p = true →
    Calls Try.prog 28 #[recV v1 v2, pdV p.hd t] w fun e w' => e = .returned (.int .i64 (truP cols row p)) ∧ Fr Non w w' := by
  induction p using Pd.ind with
  | h hd ks ih =>
    intro t w h1 h2 hk hbig hone htyp
    dsimp only [Pd.hd, Pd.kids] at hk ⊢
    have hn : t.n = ks.length := hk.len
    obtain ⟨hl, _, hpl, _, hbk⟩ := bigP_mk hbig
    obtain ⟨hok, hok1⟩ := one_kids hone
    obtain ⟨hty, hty1⟩ := typ_kids htyp
    obtain ⟨A1, c1, rfl⟩ := h1.shape
    obtain ⟨A2, c2, rfl⟩ := h2.shape
    have F0 := Lib.hid (recW_fr w (.slice A1 cols.length c1) (.slice A2 row.length c2) hd t)
    have RB := Lib.hid (recW_rec w (.slice A1 cols.length c1) (.slice A2 row.length c2) hd t)
    have PB := Lib.hid (recW_pd w (.slice A1 cols.length c1) (.slice A2 row.length c2) hd t)
    have IH : Hid (∀ j (h : j < ks.length) (W : World) (t' : Kv), Ks W (.slice A1 cols.length c1) cols → Cs W (.slice A2 row.length c2) row → Kd W t' ks[j].kids → Calls Try.prog 28 #[recV (.slice A1 cols.length c1) (.slice A2 row.length c2), pdV ks[j].hd t'] W fun e w' => e = .returned (.int .i64 (truP cols row ks[j])) ∧ Fr Non W w') :=
      Lib.hid (fun j h W t' a b c => ih _ (List.getElem_mem h) t' W a b c (hbk _ (List.getElem_mem h)) (hok1 _ (List.getElem_mem h)) (hty1 _ (List.getElem_mem h)))
    have HV : Hid (Ks w (.slice A1 cols.length c1) cols) := Lib.hid h1
    have HC := Lib.hid h2
    have HK : Hid (Kd w t ks) := Lib.hid hk
    have HE0 := Lib.hid (tru_is cols row hd ks)
    clear ih hk h1 h2 hbig hone htyp hok1 hty1 hbk
    generalize truP cols row (.mk hd ks) = r at *
    rcases hd_ways hok with ⟨ho, h0, -⟩ | ⟨ho, h0, ha⟩ | ⟨ho, h0, -⟩ | ⟨ho, h0, -⟩
    · have HE : Hid (r = 1) := Lib.hid (by rw [HE0.out, truH_1 ho])
      clear HE0 IH HV HC HK hok hty h0 hpl hr
      obtain ⟨ho_, hc, hm, ⟨vn, vi, vt⟩, hkd, hp⟩ := hd
      obtain ⟨A, n, c⟩ := t
      dsimp only at ho hn
      clear hn
      subst ho
      unfold recW at F0 RB PB
      unfold recV pdV
      unfold pdC kidV at *
      dsimp only at *
      replace F0 := F0.out
      generalize hg : w.heap.size = g at *
      have r0 := RB.out.cell 0
      have r1 := RB.out.cell 1
      simp at r0 r1
      obtain ⟨b0, b1, b2, b3, b4, b5, b6, b7, b8⟩ := pdB_cells PB.out
      dsimp only at b0 b1 b2 b3 b4 b5 b6 b7 b8
      go_enter Try.func28, Try.ntmps28
      go_wp2
      go_ret
      exact ⟨ret_int HE.out.symm, F0⟩
    · obtain ⟨hne, k, hk1, hk2, hf, hcell, hmay, hq2, hq4⟩ := ask_col ho ha hty hr
      have HVa : Hid (∀ W, Fr Non w W → Calls Try.prog 45 #[recV (.slice A1 cols.length c1) (.slice A2 row.length c2), .string ⟨hd.col.toArray⟩] W fun e w' => e = .returned (anV (toA cols[k].ty row[k])) ∧ Fr Non W w') := Lib.hid (fun W hf2 => evalue_any _ _ cols row hd.col k W (HV.out.non hf2) (HC.out.non hf2) hcl hk1 hk2 hf)
      rcases ho with ho | ho | ho
      · obtain ⟨hkt, hmv⟩ := hq2 ho
        have HE : Hid (r = cmpR hd.cmp row[k] hd.val) := Lib.hid (by rw [HE0.out, truH_2 ho, hcell])
        rw [hkt] at hmay
        have HTo := Lib.hid (fun W => ato_any hd.kind hd.val W)
        have HCo := Lib.hid (fun W => ecompared_any hd.kind cols[k].nl hd.cmp row[k] hd.val W hmay hmv)
        rw [hkt] at HVa
        clear HE0 IH HV HC HK hok hty h0 hpl hr hcell hmay hq2 hq4 hkt hmv hf hne ha
        generalize cmpR hd.cmp row[k] hd.val = z at *
        generalize anV (toA hd.kind row[k]) = x1 at *
        generalize anV (toA hd.kind hd.val) = x2 at *
        obtain ⟨ho_, hc, hm, ⟨vn, vi, vt⟩, hkd, hp⟩ := hd
        obtain ⟨A, n, c⟩ := t
        dsimp only at ho hn HTo HCo HVa
        clear hn
        subst ho
        unfold recW at F0 RB PB
        unfold recV pdV at *
        unfold clV clC at HTo
        unfold pdC kidV at *
        dsimp only at *
        generalize hg : w.heap.size = g at *
        have r0 := RB.out.cell 0
        have r1 := RB.out.cell 1
        simp at r0 r1
        obtain ⟨b0, b1, b2, b3, b4, b5, b6, b7, b8⟩ := pdB_cells PB.out
        dsimp only at b0 b1 b2 b3 b4 b5 b6 b7 b8
        go_enter Try.func28, Try.ntmps28
        go_wp2
        have RBd := Lib.hid RB.out.drew
        have PBd := Lib.hid PB.out.drew
        have Fd := Lib.hid F0.out.drew
        refine wp_region_held_drew (S := (fun W' => W'.cell? ⟨g, 0, none⟩ = some (.slice A1 cols.length c1) ∧ W'.cell? ⟨g, 1, none⟩ = some (.slice A2 row.length c2) ∧ W'.cell? ⟨g + 1, 0, none⟩ = some (.int .i64 2) ∧ W'.cell? ⟨g + 1, 1, none⟩ = some (.string ⟨hc.toArray⟩) ∧ W'.cell? ⟨g + 1, 2, none⟩ = some (.int .i64 hm) ∧ W'.cell? ⟨g + 1, 3, none⟩ = some (.bool vn) ∧ W'.cell? ⟨g + 1, 4, none⟩ = some (.int .i64 vi) ∧ W'.cell? ⟨g + 1, 5, none⟩ = some (.string ⟨vt.toArray⟩) ∧ W'.cell? ⟨g + 1, 6, none⟩ = some (.int .i64 hkd) ∧ W'.cell? ⟨g + 1, 7, none⟩ = some (.string ⟨hp.toArray⟩) ∧ W'.cell? ⟨g + 1, 8, none⟩ = some (.slice A n c))) (by kernel_rfl) (by exact ⟨r0, r1, b0, b1, b2, b3, b4, b5, b6, b7, b8⟩) (fun hHeld => ?_)
        refine wpAnyH_take (i := 0) (oi := ⟨some 9, _, _, _, _, none⟩) (v := ?v1) rfl (by kernel_rfl) (by kernel_rfl) (by kernel_rfl) (fun _ _ _ h => h) (Or.inl ⟨by rfl, ?hy1⟩) (by assumption) ?rest1
        case hy1 => (intro wS hSw; (try dsimp only at hSw); go_simp; (try with_reducible rfl))
        (try simp only [Act.put, List.setIfInBounds_toArray, List.set_cons_zero, List.set_cons_succ])
        refine wpAnyH_take (i := 1) (oi := ⟨some 10, _, _, _, _, none⟩) (v := ?v2) rfl (by kernel_rfl) (by kernel_rfl) (by kernel_rfl) (fun _ _ _ h => h) (Or.inl ⟨by rfl, ?hy2⟩) (by assumption) ?rest2
        case hy2 => (intro wS hSw; (try dsimp only at hSw); go_simp; (try with_reducible rfl))
        (try simp only [Act.put, List.setIfInBounds_toArray, List.set_cons_zero, List.set_cons_succ])
        refine wpAnyH_take (i := 2) (oi := ⟨some 11, _, _, _, _, none⟩) (v := ?v3) rfl (by kernel_rfl) (by kernel_rfl) (by kernel_rfl) (fun _ _ _ h => h) (Or.inl ⟨by rfl, ?hy3⟩) (by assumption) ?rest3
        case hy3 => (intro wS hSw; (try dsimp only at hSw); go_simp; (try with_reducible rfl))
        (try simp only [Act.put, List.setIfInBounds_toArray, List.set_cons_zero, List.set_cons_succ])
        refine wpAnyH_take (i := 4) (oi := ⟨some 13, _, _, _, _, none⟩) (v := ?v4) rfl (by kernel_rfl) (by kernel_rfl) (by kernel_rfl) (fun _ _ _ h => h) (Or.inl ⟨by rfl, ?hy4⟩) (by assumption) ?rest4
        case hy4 => (intro wS hSw; (try dsimp only at hSw); go_simp; (try with_reducible rfl))
        (try simp only [Act.put, List.setIfInBounds_toArray, List.set_cons_zero, List.set_cons_succ])
        refine wpAnyH_take (i := 5) (oi := ⟨some 14, _, _, _, _, none⟩) (v := ?v5) rfl (by kernel_rfl) (by kernel_rfl) (by kernel_rfl) (fun _ _ _ h => h) (Or.inl ⟨by rfl, ?hy5⟩) (by assumption) ?rest5
        case hy5 => (intro wS hSw; (try dsimp only at hSw); go_simp; (try with_reducible rfl))
        (try simp only [Act.put, List.setIfInBounds_toArray, List.set_cons_zero, List.set_cons_succ])
        refine wpAnyH_take (i := 6) (oi := ⟨some 15, _, _, _, _, none⟩) (v := ?v6) rfl (by kernel_rfl) (by kernel_rfl) (by kernel_rfl) (fun _ _ _ h => h) (Or.inl ⟨by rfl, ?hy6⟩) (by assumption) ?rest6
        case hy6 => (intro wS hSw; (try dsimp only at hSw); go_simp; (try with_reducible rfl))
        (try simp only [Act.put, List.setIfInBounds_toArray, List.set_cons_zero, List.set_cons_succ])
        refine wpAnyH_take (i := 7) (oi := ⟨some 16, _, _, _, _, none⟩) (v := ?v7) rfl (by kernel_rfl) (by kernel_rfl) (by kernel_rfl) (fun _ _ _ h => h) (Or.inl ⟨by rfl, ?hy7⟩) (by assumption) ?rest7
        case hy7 => (intro wS hSw; (try dsimp only at hSw); go_simp; (try with_reducible rfl))
        (try simp only [Act.put, List.setIfInBounds_toArray, List.set_cons_zero, List.set_cons_succ])
        refine wpAnyH_take (i := 9) (oi := ⟨some 18, _, _, _, _, none⟩) (v := ?v8) rfl (by kernel_rfl) (by kernel_rfl) (by kernel_rfl) (fun _ _ _ h => h) (Or.inl ⟨by rfl, ?hy8⟩) (by assumption) ?rest8
        case hy8 => (intro wS hSw; (try dsimp only at hSw); go_simp; (try with_reducible rfl))
        (try simp only [Act.put, List.setIfInBounds_toArray, List.set_cons_zero, List.set_cons_succ])
        refine wpAnyH_take (i := 10) (oi := ⟨some 19, _, _, _, _, none⟩) (v := ?v9) rfl (by kernel_rfl) (by kernel_rfl) (by kernel_rfl) (fun _ _ _ h => h) (Or.inl ⟨by rfl, ?hy9⟩) (by assumption) ?rest9
        case hy9 => (intro wS hSw; (try dsimp only at hSw); go_simp; (try with_reducible rfl))
        (try simp only [Act.put, List.setIfInBounds_toArray, List.set_cons_zero, List.set_cons_succ])
        refine wpAnyH_ready (rs := [3]) (by kernel_rfl) (by simp) ?_
        refine AllReadyH.cons (o := ⟨some 12, _, _, _, _, none⟩) rfl (fun K hK => ?_) AllReadyH.nil
        go_simp
        go_at_call 45
        refine (HVa.out _ Fd.out).mono ?_
        rintro e w4 ⟨rfl, f4⟩
        have RB4 := Lib.hid (RBd.out.fr f4 (fun e => e))
        have PB4 := Lib.hid (PBd.out.fr f4 (fun e => e))
        have F4 := Lib.hid (Fd.out.trans f4)
        clear r0 r1 b0 b1 b2 b3 b4 b5 b6 b7 b8 f4
        have r0 := RB4.out.cell 0
        have r1 := RB4.out.cell 1
        simp at r0 r1
        obtain ⟨b0, b1, b2, b3, b4, b5, b6, b7, b8⟩ := pdB_cells PB4.out
        dsimp only at b0 b1 b2 b3 b4 b5 b6 b7 b8

        go_wp2_with fail
        refine hK.out _ _ (by exact ⟨r0, r1, b0, b1, b2, b3, b4, b5, b6, b7, b8⟩) (fun hHeld => ?_)
        clear hK K
        (try simp only [Act.put, List.setIfInBounds_toArray, List.set_cons_zero, List.set_cons_succ])
        refine wpAnyH_ready (rs := [8]) (by kernel_rfl) (by simp) ?_
        refine AllReadyH.cons (o := ⟨some 17, _, _, _, _, none⟩) rfl (fun K hK => ?_) AllReadyH.nil
        go_simp
        go_at_call 46
        refine (HTo.out _).mono ?_
        rintro e w5 ⟨rfl, f5⟩
        have RB5 := Lib.hid (RB4.out.fr f5 (fun e => e))
        have PB5 := Lib.hid (PB4.out.fr f5 (fun e => e))
        have F5 := Lib.hid (F4.out.trans f5)
        clear r0 r1 b0 b1 b2 b3 b4 b5 b6 b7 b8 f5
        have r0 := RB5.out.cell 0
        have r1 := RB5.out.cell 1
        simp at r0 r1
        obtain ⟨b0, b1, b2, b3, b4, b5, b6, b7, b8⟩ := pdB_cells PB5.out
        dsimp only at b0 b1 b2 b3 b4 b5 b6 b7 b8

        go_wp2_with fail
        refine hK.out _ _ (by exact ⟨r0, r1, b0, b1, b2, b3, b4, b5, b6, b7, b8⟩) (fun hHeld => ?_)
        clear hK K
        (try simp only [Act.put, List.setIfInBounds_toArray, List.set_cons_zero, List.set_cons_succ])
        refine wpAnyH_ready (rs := [11]) (by kernel_rfl) (by simp) ?_
        refine AllReadyH.cons (o := ⟨some 20, _, _, _, _, none⟩) rfl (fun K hK => ?_) AllReadyH.nil
        go_simp
        go_at_call 44
        refine (HCo.out _).mono ?_
        rintro e w6 ⟨rfl, f6⟩
        have RB6 := Lib.hid (RB5.out.fr f6 (fun e => e))
        have PB6 := Lib.hid (PB5.out.fr f6 (fun e => e))
        have F6 := Lib.hid (F5.out.trans f6)
        clear r0 r1 b0 b1 b2 b3 b4 b5 b6 b7 b8 f6
        have r0 := RB6.out.cell 0
        have r1 := RB6.out.cell 1
        simp at r0 r1
        obtain ⟨b0, b1, b2, b3, b4, b5, b6, b7, b8⟩ := pdB_cells PB6.out
        dsimp only at b0 b1 b2 b3 b4 b5 b6 b7 b8

        go_wp2_with fail
        refine hK.out _ _ (by exact ⟨r0, r1, b0, b1, b2, b3, b4, b5, b6, b7, b8⟩) (fun hHeld => ?_)
        clear hK K
        (try simp only [Act.put, List.setIfInBounds_toArray, List.set_cons_zero, List.set_cons_succ])
        refine wpAnyH_take (i := 12) (oi := ⟨some 4, _, _, _, _, none⟩) (v := ?v10) rfl (by kernel_rfl) (by kernel_rfl) (by kernel_rfl) (fun _ _ _ h => h) (Or.inl ⟨by rfl, ?hy10⟩) (by assumption) ?rest10
        case hy10 => (intro wS hSw; (try dsimp only at hSw); go_simp; (try with_reducible rfl))
        (try simp only [Act.put, List.setIfInBounds_toArray, List.set_cons_zero, List.set_cons_succ])
        refine wpAnyH_done (by kernel_rfl) ?_ _
        go_wp2
        go_ret
        exact ⟨ret_int HE.out.symm, F6.out⟩
      · have HE : Hid (r = yesI row[k].null) := Lib.hid (by rw [HE0.out, truH_3 ho, hcell])
        have HTo := Lib.hid (fun b W => etold_any b W)
        clear HE0 IH HV HC HK hok hty h0 hpl hr hcell hq2 hq4 hf hne ha
        cases hnu : row[k].null
        · rw [hnu] at HE
          have q1 := fun W u x => not_nil W u x
          obtain ⟨u, x, hux⟩ := an_iface hmay hnu
          rw [hux] at HVa
          clear hmay hnu
          obtain ⟨ho_, hc, hm, ⟨vn, vi, vt⟩, hkd, hp⟩ := hd
          obtain ⟨A, n, c⟩ := t
          dsimp only at ho hn HVa
          clear hn
          subst ho
          unfold recW at F0 RB PB
          unfold recV pdV at *
          unfold pdC kidV at *
          dsimp only at *
          generalize hg : w.heap.size = g at *
          have r0 := RB.out.cell 0
          have r1 := RB.out.cell 1
          simp at r0 r1
          obtain ⟨b0, b1, b2, b3, b4, b5, b6, b7, b8⟩ := pdB_cells PB.out
          dsimp only at b0 b1 b2 b3 b4 b5 b6 b7 b8
          go_enter Try.func28, Try.ntmps28
          go_wp2_with fail
          refine (HVa.out _ F0.out).mono ?_
          rintro e w4 ⟨rfl, f4⟩
          have F4 := Lib.hid (F0.out.trans f4)
          clear r0 r1 b0 b1 b2 b3 b4 b5 b6 b7 b8 f4
          go_wp2_with fail
          refine (HTo.out _ _).mono ?_
          rintro e w5 ⟨rfl, rfl⟩
          go_wp2
          go_ret
          exact ⟨ret_int HE.out.symm, F4.out⟩
        · rw [hnu] at HE
          have q1 := fun W => nil_nil W
          rw [toA_null hnu] at HVa
          simp only [anV] at HVa
          clear hmay hnu
          obtain ⟨ho_, hc, hm, ⟨vn, vi, vt⟩, hkd, hp⟩ := hd
          obtain ⟨A, n, c⟩ := t
          dsimp only at ho hn HVa
          clear hn
          subst ho
          unfold recW at F0 RB PB
          unfold recV pdV at *
          unfold pdC kidV at *
          dsimp only at *
          generalize hg : w.heap.size = g at *
          have r0 := RB.out.cell 0
          have r1 := RB.out.cell 1
          simp at r0 r1
          obtain ⟨b0, b1, b2, b3, b4, b5, b6, b7, b8⟩ := pdB_cells PB.out
          dsimp only at b0 b1 b2 b3 b4 b5 b6 b7 b8
          go_enter Try.func28, Try.ntmps28
          go_wp2_with fail
          refine (HVa.out _ F0.out).mono ?_
          rintro e w4 ⟨rfl, f4⟩
          have F4 := Lib.hid (F0.out.trans f4)
          clear r0 r1 b0 b1 b2 b3 b4 b5 b6 b7 b8 f4
          go_wp2_with fail
          refine (HTo.out _ _).mono ?_
          rintro e w5 ⟨rfl, rfl⟩
          go_wp2
          go_ret
          exact ⟨ret_int HE.out.symm, F4.out⟩
      · have hkt := hq4 ho
        have HE : Hid (r = likR row[k] hd.pat) := Lib.hid (by rw [HE0.out, truH_4 ho, hcell])
        rw [hkt] at hmay HVa
        have HLi := Lib.hid (fun W => eliked_any cols[k].nl row[k] hd.pat W hmay (by omega))
        clear HE0 IH HV HC HK hok hty h0 hpl hr hcell hmay hq2 hq4 hkt hf hne ha
        generalize likR row[k] hd.pat = z at *
        generalize anV (toA 3 row[k]) = x1 at *
        obtain ⟨ho_, hc, hm, ⟨vn, vi, vt⟩, hkd, hp⟩ := hd
        obtain ⟨A, n, c⟩ := t
        dsimp only at ho hn HLi HVa
        clear hn
        subst ho
        unfold recW at F0 RB PB
        unfold recV pdV at *
        unfold pdC kidV at *
        dsimp only at *
        generalize hg : w.heap.size = g at *
        have r0 := RB.out.cell 0
        have r1 := RB.out.cell 1
        simp at r0 r1
        obtain ⟨b0, b1, b2, b3, b4, b5, b6, b7, b8⟩ := pdB_cells PB.out
        dsimp only at b0 b1 b2 b3 b4 b5 b6 b7 b8
        go_enter Try.func28, Try.ntmps28
        go_wp2
        have RBd := Lib.hid RB.out.drew
        have PBd := Lib.hid PB.out.drew
        have Fd := Lib.hid F0.out.drew
        refine wp_region_held_drew (S := (fun W' => W'.cell? ⟨g, 0, none⟩ = some (.slice A1 cols.length c1) ∧ W'.cell? ⟨g, 1, none⟩ = some (.slice A2 row.length c2) ∧ W'.cell? ⟨g + 1, 0, none⟩ = some (.int .i64 4) ∧ W'.cell? ⟨g + 1, 1, none⟩ = some (.string ⟨hc.toArray⟩) ∧ W'.cell? ⟨g + 1, 2, none⟩ = some (.int .i64 hm) ∧ W'.cell? ⟨g + 1, 3, none⟩ = some (.bool vn) ∧ W'.cell? ⟨g + 1, 4, none⟩ = some (.int .i64 vi) ∧ W'.cell? ⟨g + 1, 5, none⟩ = some (.string ⟨vt.toArray⟩) ∧ W'.cell? ⟨g + 1, 6, none⟩ = some (.int .i64 hkd) ∧ W'.cell? ⟨g + 1, 7, none⟩ = some (.string ⟨hp.toArray⟩) ∧ W'.cell? ⟨g + 1, 8, none⟩ = some (.slice A n c))) (by kernel_rfl) (by exact ⟨r0, r1, b0, b1, b2, b3, b4, b5, b6, b7, b8⟩) (fun hHeld => ?_)
        refine wpAnyH_take (i := 0) (oi := ⟨some 31, _, _, _, _, none⟩) (v := ?v11) rfl (by kernel_rfl) (by kernel_rfl) (by kernel_rfl) (fun _ _ _ h => h) (Or.inl ⟨by rfl, ?hy11⟩) (by assumption) ?rest11
        case hy11 => (intro wS hSw; (try dsimp only at hSw); go_simp; (try with_reducible rfl))
        (try simp only [Act.put, List.setIfInBounds_toArray, List.set_cons_zero, List.set_cons_succ])
        refine wpAnyH_take (i := 1) (oi := ⟨some 32, _, _, _, _, none⟩) (v := ?v12) rfl (by kernel_rfl) (by kernel_rfl) (by kernel_rfl) (fun _ _ _ h => h) (Or.inl ⟨by rfl, ?hy12⟩) (by assumption) ?rest12
        case hy12 => (intro wS hSw; (try dsimp only at hSw); go_simp; (try with_reducible rfl))
        (try simp only [Act.put, List.setIfInBounds_toArray, List.set_cons_zero, List.set_cons_succ])
        refine wpAnyH_take (i := 2) (oi := ⟨some 33, _, _, _, _, none⟩) (v := ?v13) rfl (by kernel_rfl) (by kernel_rfl) (by kernel_rfl) (fun _ _ _ h => h) (Or.inl ⟨by rfl, ?hy13⟩) (by assumption) ?rest13
        case hy13 => (intro wS hSw; (try dsimp only at hSw); go_simp; (try with_reducible rfl))
        (try simp only [Act.put, List.setIfInBounds_toArray, List.set_cons_zero, List.set_cons_succ])
        refine wpAnyH_take (i := 4) (oi := ⟨some 35, _, _, _, _, none⟩) (v := ?v14) rfl (by kernel_rfl) (by kernel_rfl) (by kernel_rfl) (fun _ _ _ h => h) (Or.inl ⟨by rfl, ?hy14⟩) (by assumption) ?rest14
        case hy14 => (intro wS hSw; (try dsimp only at hSw); go_simp; (try with_reducible rfl))
        (try simp only [Act.put, List.setIfInBounds_toArray, List.set_cons_zero, List.set_cons_succ])
        refine wpAnyH_take (i := 5) (oi := ⟨some 36, _, _, _, _, none⟩) (v := ?v15) rfl (by kernel_rfl) (by kernel_rfl) (by kernel_rfl) (fun _ _ _ h => h) (Or.inl ⟨by rfl, ?hy15⟩) (by assumption) ?rest15
        case hy15 => (intro wS hSw; (try dsimp only at hSw); go_simp; (try with_reducible rfl))
        (try simp only [Act.put, List.setIfInBounds_toArray, List.set_cons_zero, List.set_cons_succ])
        refine wpAnyH_ready (rs := [3]) (by kernel_rfl) (by simp) ?_
        refine AllReadyH.cons (o := ⟨some 34, _, _, _, _, none⟩) rfl (fun K hK => ?_) AllReadyH.nil
        go_simp
        go_at_call 45
        refine (HVa.out _ Fd.out).mono ?_
        rintro e w4 ⟨rfl, f4⟩
        have RB4 := Lib.hid (RBd.out.fr f4 (fun e => e))
        have PB4 := Lib.hid (PBd.out.fr f4 (fun e => e))
        have F4 := Lib.hid (Fd.out.trans f4)
        clear r0 r1 b0 b1 b2 b3 b4 b5 b6 b7 b8 f4
        have r0 := RB4.out.cell 0
        have r1 := RB4.out.cell 1
        simp at r0 r1
        obtain ⟨b0, b1, b2, b3, b4, b5, b6, b7, b8⟩ := pdB_cells PB4.out
        dsimp only at b0 b1 b2 b3 b4 b5 b6 b7 b8

        go_wp2_with fail
        refine hK.out _ _ (by exact ⟨r0, r1, b0, b1, b2, b3, b4, b5, b6, b7, b8⟩) (fun hHeld => ?_)
        clear hK K
        (try simp only [Act.put, List.setIfInBounds_toArray, List.set_cons_zero, List.set_cons_succ])
        refine wpAnyH_ready (rs := [6]) (by kernel_rfl) (by simp) ?_
        refine AllReadyH.cons (o := ⟨some 37, _, _, _, _, none⟩) rfl (fun K hK => ?_) AllReadyH.nil
        go_simp
        go_at_call 48
        refine (HLi.out _).mono ?_
        rintro e w5 ⟨rfl, f5⟩
        have RB5 := Lib.hid (RB4.out.fr f5 (fun e => e))
        have PB5 := Lib.hid (PB4.out.fr f5 (fun e => e))
        have F5 := Lib.hid (F4.out.trans f5)
        clear r0 r1 b0 b1 b2 b3 b4 b5 b6 b7 b8 f5
        have r0 := RB5.out.cell 0
        have r1 := RB5.out.cell 1
        simp at r0 r1
        obtain ⟨b0, b1, b2, b3, b4, b5, b6, b7, b8⟩ := pdB_cells PB5.out
        dsimp only at b0 b1 b2 b3 b4 b5 b6 b7 b8

        go_wp2_with fail
        refine hK.out _ _ (by exact ⟨r0, r1, b0, b1, b2, b3, b4, b5, b6, b7, b8⟩) (fun hHeld => ?_)
        clear hK K
        (try simp only [Act.put, List.setIfInBounds_toArray, List.set_cons_zero, List.set_cons_succ])
        refine wpAnyH_take (i := 7) (oi := ⟨some 4, _, _, _, _, none⟩) (v := ?v16) rfl (by kernel_rfl) (by kernel_rfl) (by kernel_rfl) (fun _ _ _ h => h) (Or.inl ⟨by rfl, ?hy16⟩) (by assumption) ?rest16
        case hy16 => (intro wS hSw; (try dsimp only at hSw); go_simp; (try with_reducible rfl))
        (try simp only [Act.put, List.setIfInBounds_toArray, List.set_cons_zero, List.set_cons_succ])
        refine wpAnyH_done (by kernel_rfl) ?_ _
        go_wp2
        go_ret
        exact ⟨ret_int HE.out.symm, F5.out⟩
    · have hk1 : 0 < ks.length := by omega
      obtain ⟨a, t', hA, hc2, hkk, _⟩ := HK.out.elN F0.out.drew 0 hk1
      have HT : Hid (∀ W, Fr Non w W → Calls Try.prog 28 #[recV (.slice A1 cols.length c1) (.slice A2 row.length c2), pdV ks[0].hd t'] W fun e w' => e = .returned (.int .i64 (truP cols row ks[0])) ∧ Fr Non W w') :=
        Lib.hid (fun W hf => IH.out 0 hk1 W t' (HV.out.non hf) (HC.out.non hf) (hkk.non hf))
      have HNo := Lib.hid (fun z W => enot_any z W)
      have HE : Hid (r = notI (truP cols row ks[0])) := Lib.hid (by
        rw [HE0.out, truH_5 ho]
        cases ks with
        | nil => simp at hk1
        | cons x l => rfl)
      clear HE0 IH HV HC HK hok hty hpl hr hkk
      generalize truP cols row ks[0] = z at *
      generalize ks[0].hd = x at *
      obtain ⟨ho_, hc, hm, ⟨vn, vi, vt⟩, hkd, hp⟩ := hd
      obtain ⟨A, n, c⟩ := t
      obtain ⟨xo, xc, xm, ⟨xn, xi, xt⟩, xk, xp⟩ := x
      obtain ⟨tA, tn, tc⟩ := t'
      dsimp only at ho hn hA
      subst hA
      subst ho
      obtain ⟨k0, k1, k2, k3, k4, k5, k6, k7, k8⟩ := hc2
      simp only [Nat.zero_mul] at k0 k1 k2 k3 k4 k5 k6 k7 k8
      have hn1 : 0 < n := by omega
      clear hn h0 hk1
      unfold recW at F0 RB PB k0 k1 k2 k3 k4 k5 k6 k7 k8
      unfold recV pdV at *
      unfold pdC kidV at *
      dsimp only at *
      generalize hg : w.heap.size = g at *
      have r0 := RB.out.cell 0
      have r1 := RB.out.cell 1
      simp at r0 r1
      obtain ⟨b0, b1, b2, b3, b4, b5, b6, b7, b8⟩ := pdB_cells PB.out
      dsimp only at b0 b1 b2 b3 b4 b5 b6 b7 b8
      go_enter Try.func28, Try.ntmps28
      go_wp2
      have RBd := Lib.hid RB.out.drew
      have PBd := Lib.hid PB.out.drew
      have Fd := Lib.hid F0.out.drew
      refine wp_region_held_drew (S := (fun W' => W'.cell? ⟨g, 0, none⟩ = some (.slice A1 cols.length c1) ∧ W'.cell? ⟨g, 1, none⟩ = some (.slice A2 row.length c2) ∧ W'.cell? ⟨g + 1, 0, none⟩ = some (.int .i64 5) ∧ W'.cell? ⟨g + 1, 1, none⟩ = some (.string ⟨hc.toArray⟩) ∧ W'.cell? ⟨g + 1, 2, none⟩ = some (.int .i64 hm) ∧ W'.cell? ⟨g + 1, 3, none⟩ = some (.bool vn) ∧ W'.cell? ⟨g + 1, 4, none⟩ = some (.int .i64 vi) ∧ W'.cell? ⟨g + 1, 5, none⟩ = some (.string ⟨vt.toArray⟩) ∧ W'.cell? ⟨g + 1, 6, none⟩ = some (.int .i64 hkd) ∧ W'.cell? ⟨g + 1, 7, none⟩ = some (.string ⟨hp.toArray⟩) ∧ W'.cell? ⟨g + 1, 8, none⟩ = some (.slice (some a) n c) ∧ W'.cell? a = some (.int .i64 xo) ∧ W'.cell? { block := a.block, off := a.off + 1 } = some (.string ⟨xc.toArray⟩) ∧ W'.cell? { block := a.block, off := a.off + 2 } = some (.int .i64 xm) ∧ W'.cell? { block := a.block, off := a.off + 3 } = some (.bool xn) ∧ W'.cell? { block := a.block, off := a.off + 4 } = some (.int .i64 xi) ∧ W'.cell? { block := a.block, off := a.off + 5 } = some (.string ⟨xt.toArray⟩) ∧ W'.cell? { block := a.block, off := a.off + 6 } = some (.int .i64 xk) ∧ W'.cell? { block := a.block, off := a.off + 7 } = some (.string ⟨xp.toArray⟩) ∧ W'.cell? { block := a.block, off := a.off + 8 } = some (.slice tA tn tc))) (by kernel_rfl) (by exact ⟨r0, r1, b0, b1, b2, b3, b4, b5, b6, b7, b8, k0, k1, k2, k3, k4, k5, k6, k7, k8⟩) (fun hHeld => ?_)
      refine wpAnyH_take (i := 0) (oi := ⟨some 40, _, _, _, _, none⟩) (v := ?v17) rfl (by kernel_rfl) (by kernel_rfl) (by kernel_rfl) (fun _ _ _ h => h) (Or.inl ⟨by rfl, ?hy17⟩) (by assumption) ?rest17
      case hy17 => (intro wS hSw; (try dsimp only at hSw); go_simp; (try with_reducible rfl))
      (try simp only [Act.put, List.setIfInBounds_toArray, List.set_cons_zero, List.set_cons_succ])
      refine wpAnyH_take (i := 1) (oi := ⟨some 41, _, _, _, _, none⟩) (v := ?v18) rfl (by kernel_rfl) (by kernel_rfl) (by kernel_rfl) (fun _ _ _ h => h) (Or.inl ⟨by rfl, ?hy18⟩) (by assumption) ?rest18
      case hy18 => (intro wS hSw; (try dsimp only at hSw); go_simp; (try with_reducible rfl))
      (try simp only [Act.put, List.setIfInBounds_toArray, List.set_cons_zero, List.set_cons_succ])
      refine wpAnyH_take (i := 2) (oi := ⟨some 42, _, _, _, _, none⟩) (v := ?v19) rfl (by kernel_rfl) (by kernel_rfl) (by kernel_rfl) (fun _ _ _ h => h) (Or.inl ⟨by rfl, ?hy19⟩) (by assumption) ?rest19
      case hy19 => (intro wS hSw; (try dsimp only at hSw); go_simp; (try with_reducible rfl))
      (try simp only [Act.put, List.setIfInBounds_toArray, List.set_cons_zero, List.set_cons_succ])
      refine wpAnyH_take (i := 3) (oi := ⟨some 43, _, _, _, _, none⟩) (v := ?v20) rfl (by kernel_rfl) (by kernel_rfl) (by kernel_rfl) (fun _ _ _ h => h) (Or.inl ⟨by rfl, ?hy20⟩) (by assumption) ?rest20
      case hy20 => (intro wS hSw; (try dsimp only at hSw); go_simp; (try with_reducible rfl))
      (try simp only [Act.put, List.setIfInBounds_toArray, List.set_cons_zero, List.set_cons_succ])
      refine wpAnyH_take (i := 4) (oi := ⟨some 44, _, _, _, _, none⟩) (v := ?v21) rfl (by kernel_rfl) (by kernel_rfl) (by kernel_rfl) (fun _ _ _ h => h) (Or.inl ⟨by rfl, ?hy21⟩) (by assumption) ?rest21
      case hy21 => (intro wS hSw; (try dsimp only at hSw); go_simp; (try with_reducible rfl))
      (try simp only [Act.put, List.setIfInBounds_toArray, List.set_cons_zero, List.set_cons_succ])
      refine wpAnyH_ready (rs := [5]) (by kernel_rfl) (by simp) ?_
      refine AllReadyH.cons (o := ⟨some 45, _, _, _, _, none⟩) rfl (fun K hK => ?_) AllReadyH.nil
      go_simp
      go_at_call 28
      refine (HT.out _ Fd.out).mono ?_
      rintro e w4 ⟨rfl, f4⟩
      have RB4 := Lib.hid (RBd.out.fr f4 (fun e => e))
      have PB4 := Lib.hid (PBd.out.fr f4 (fun e => e))
      have F4 := Lib.hid (Fd.out.trans f4)
      clear r0 r1 b0 b1 b2 b3 b4 b5 b6 b7 b8
      have r0 := RB4.out.cell 0
      have r1 := RB4.out.cell 1
      simp at r0 r1
      obtain ⟨b0, b1, b2, b3, b4, b5, b6, b7, b8⟩ := pdB_cells PB4.out
      dsimp only at b0 b1 b2 b3 b4 b5 b6 b7 b8
      replace k0 := (f4.cell (World.block_lt_of_cell? _ _ k0) (fun e => e)).trans k0
      replace k1 := (f4.cell (World.block_lt_of_cell? _ _ k1) (fun e => e)).trans k1
      replace k2 := (f4.cell (World.block_lt_of_cell? _ _ k2) (fun e => e)).trans k2
      replace k3 := (f4.cell (World.block_lt_of_cell? _ _ k3) (fun e => e)).trans k3
      replace k4 := (f4.cell (World.block_lt_of_cell? _ _ k4) (fun e => e)).trans k4
      replace k5 := (f4.cell (World.block_lt_of_cell? _ _ k5) (fun e => e)).trans k5
      replace k6 := (f4.cell (World.block_lt_of_cell? _ _ k6) (fun e => e)).trans k6
      replace k7 := (f4.cell (World.block_lt_of_cell? _ _ k7) (fun e => e)).trans k7
      replace k8 := (f4.cell (World.block_lt_of_cell? _ _ k8) (fun e => e)).trans k8
      clear f4

      go_wp2_with fail
      refine hK.out _ _ (by exact ⟨r0, r1, b0, b1, b2, b3, b4, b5, b6, b7, b8, k0, k1, k2, k3, k4, k5, k6, k7, k8⟩) (fun hHeld => ?_)
      clear hK K
      (try simp only [Act.put, List.setIfInBounds_toArray, List.set_cons_zero, List.set_cons_succ])
      refine wpAnyH_ready (rs := [6]) (by kernel_rfl) (by simp) ?_
      refine AllReadyH.cons (o := ⟨some 46, _, _, _, _, none⟩) rfl (fun K hK => ?_) AllReadyH.nil
      go_simp
      go_at_call 49
      refine (HNo.out _ _).mono ?_
      rintro e w5 ⟨rfl, rfl⟩

      go_wp2_with fail
      refine hK.out _ _ (by exact ⟨r0, r1, b0, b1, b2, b3, b4, b5, b6, b7, b8, k0, k1, k2, k3, k4, k5, k6, k7, k8⟩) (fun hHeld => ?_)
      clear hK K
      (try simp only [Act.put, List.setIfInBounds_toArray, List.set_cons_zero, List.set_cons_succ])
      refine wpAnyH_take (i := 7) (oi := ⟨some 4, _, _, _, _, none⟩) (v := ?v22) rfl (by kernel_rfl) (by kernel_rfl) (by kernel_rfl) (fun _ _ _ h => h) (Or.inl ⟨by rfl, ?hy22⟩) (by assumption) ?rest22
      case hy22 => (intro wS hSw; (try dsimp only at hSw); go_simp; (try with_reducible rfl))
      (try simp only [Act.put, List.setIfInBounds_toArray, List.set_cons_zero, List.set_cons_succ])
      refine wpAnyH_done (by kernel_rfl) ?_ _
      go_wp2
      go_ret
      exact ⟨ret_int HE.out.symm, F4.out⟩
    · rcases ho with ho | ho
      · have HE : Hid (r = chnI 0 1 (ks.map (truP cols row))) := Lib.hid (by rw [HE0.out, truH_6 ho])
        have HCh : Hid (∀ W, Fr Non w W → Calls Try.prog 50 #[recV (.slice A1 cols.length c1) (.slice A2 row.length c2), kidV t, .int .i64 0, .int .i64 1] W fun e w' => e = .returned (.int .i64 (chnI 0 1 (ks.map (truP cols row)))) ∧ Fr Non W w') :=
          Lib.hid (fun W hf => echain_of _ _ cols row ks 0 1 t W (HV.out.non hf) (HC.out.non hf) (HK.out.non hf) hl IH)
        clear HE0 IH HV HC HK hok hty hpl hr h0 hl
        generalize chnI 0 1 (ks.map (truP cols row)) = z at *
        obtain ⟨ho_, hc, hm, ⟨vn, vi, vt⟩, hkd, hp⟩ := hd
        obtain ⟨A, n, c⟩ := t
        dsimp only at ho hn
        clear hn
        subst ho
        unfold recW at F0 RB PB
        unfold recV pdV at *
        unfold pdC kidV at *
        dsimp only at *
        generalize hg : w.heap.size = g at *
        have r0 := RB.out.cell 0
        have r1 := RB.out.cell 1
        simp at r0 r1
        obtain ⟨b0, b1, b2, b3, b4, b5, b6, b7, b8⟩ := pdB_cells PB.out
        dsimp only at b0 b1 b2 b3 b4 b5 b6 b7 b8
        go_enter Try.func28, Try.ntmps28
        go_wp2_with fail
        refine (HCh.out _ F0.out).mono ?_
        rintro e w4 ⟨rfl, f4⟩
        have F4 := Lib.hid (F0.out.trans f4)
        clear r0 r1 b0 b1 b2 b3 b4 b5 b6 b7 b8 f4
        go_wp2
        go_ret
        exact ⟨ret_int HE.out.symm, F4.out⟩
      · have HE : Hid (r = chnI 1 0 (ks.map (truP cols row))) := Lib.hid (by rw [HE0.out, truH_7 ho])
        have HCh : Hid (∀ W, Fr Non w W → Calls Try.prog 50 #[recV (.slice A1 cols.length c1) (.slice A2 row.length c2), kidV t, .int .i64 1, .int .i64 0] W fun e w' => e = .returned (.int .i64 (chnI 1 0 (ks.map (truP cols row)))) ∧ Fr Non W w') :=
          Lib.hid (fun W hf => echain_of _ _ cols row ks 1 0 t W (HV.out.non hf) (HC.out.non hf) (HK.out.non hf) hl IH)
        clear HE0 IH HV HC HK hok hty hpl hr h0 hl
        generalize chnI 1 0 (ks.map (truP cols row)) = z at *
        obtain ⟨ho_, hc, hm, ⟨vn, vi, vt⟩, hkd, hp⟩ := hd
        obtain ⟨A, n, c⟩ := t
        dsimp only at ho hn
        clear hn
        subst ho
        unfold recW at F0 RB PB
        unfold recV pdV at *
        unfold pdC kidV at *
        dsimp only at *
        generalize hg : w.heap.size = g at *
        have r0 := RB.out.cell 0
        have r1 := RB.out.cell 1
        simp at r0 r1
        obtain ⟨b0, b1, b2, b3, b4, b5, b6, b7, b8⟩ := pdB_cells PB.out
        dsimp only at b0 b1 b2 b3 b4 b5 b6 b7 b8
        go_enter Try.func28, Try.ntmps28
        go_wp2_with fail
        refine (HCh.out _ F0.out).mono ?_
        rintro e w4 ⟨rfl, f4⟩
        have F4 := Lib.hid (F0.out.trans f4)
        clear r0 r1 b0 b1 b2 b3 b4 b5 b6 b7 b8 f4
        go_wp2
        go_ret
        exact ⟨ret_int HE.out.symm, F4.out⟩
end Go.Proofs.Ytnbhgkolfapblaa


namespace Go.Proofs.Ytnbhgkolfapblaa
set_option linter.unusedVariables false
set_option linter.unusedSimpArgs false
set_option maxRecDepth 100000
open Go.RowKit

/-- a slice's words -/
structure Sl where
  A : Option Addr
  n : Nat
  c : Nat
def slV (s : Sl) : Value := .slice s.A s.n s.c
def noSl : Sl := ⟨none, 0, 0⟩
/-- the slice v reads as the rows rs -/
def Rs (w : World) (v : Value) (rs : List (List Cl)) : Prop := ∃ hs : List Sl, hs.length = rs.length ∧ Vs slV w v hs ∧ ∀ i (h : i < hs.length) (h2 : i < rs.length), Cs w (slV hs[i]) rs[i]
theorem Rs.non {w w' : World} {v : Value} {rs : List (List Cl)} (h : Rs w v rs) (hf : Fr Non w w') : Rs w' v rs := by
  obtain ⟨hs, h1, h2, h3⟩ := h
  exact ⟨hs, h1, h2.non hf, fun i a b => (h3 i a b).non hf⟩
theorem Rs.shape {w : World} {v : Value} {rs : List (List Cl)} (h : Rs w v rs) : ∃ A c, v = .slice A rs.length c := by
  obtain ⟨hs, h1, h2, _⟩ := h
  obtain ⟨A, c, e⟩ := h2.shape
  exact ⟨A, c, by rw [e, h1]⟩
theorem Rs.nil_ (w : World) : Rs w (.slice none 0 0) [] := ⟨[], rfl, Vs.nil_ w, fun i h => by cases h⟩
/-- the row at j -/
theorem Rs.el {w : World} {A : Option Addr} {n c : Nat} {rs : List (List Cl)} (h : Rs w (.slice A n c) rs) (j : Nat) (hj : j < rs.length) :
    ∃ a A' c', A = some a ∧ n = rs.length ∧ w.cell? (a.add j) = some (.slice A' rs[j].length c') ∧ Cs w (.slice A' rs[j].length c') rs[j] := by
  obtain ⟨hs, h1, h2, h3⟩ := h
  obtain ⟨A0, c0, he, _⟩ := h2
  have h2' : Vs slV w (.slice A n c) hs := ⟨A0, c0, he, by assumption⟩
  simp only [Value.slice.injEq] at he
  obtain ⟨rfl, rfl, rfl⟩ := he
  obtain ⟨a, rfl, _, _, hc⟩ := h2'.addr (by omega)
  have h4 := h3 j (by omega) hj
  obtain ⟨A', c', e⟩ := h4.shape
  have h5 := hc j (by omega)
  rw [e] at h4 h5
  exact ⟨a, A', c', rfl, h1, h5, h4⟩

/-- rows of the call's own, from block B on -/
def Ro (w : World) (B : Nat) (v : Value) (rs : List (List Cl)) : Prop := ∃ hs : List Sl, hs.length = rs.length ∧ Ow slV 42 w B v hs ∧ ∀ i (h : i < hs.length) (h2 : i < rs.length), Oc w B (slV hs[i]) rs[i]
theorem Ro.rs {w : World} {B : Nat} {v : Value} {rs : List (List Cl)} (h : Ro w B v rs) : Rs w v rs := by
  obtain ⟨hs, h1, h2, h3⟩ := h
  exact ⟨hs, h1, h2.vs, fun i a b => (h3 i a b).cs⟩
theorem Ro.non {w w' : World} {B : Nat} {v : Value} {rs : List (List Cl)} (h : Ro w B v rs) (hf : Fr Non w w') : Ro w' B v rs := by
  obtain ⟨hs, h1, h2, h3⟩ := h
  exact ⟨hs, h1, h2.non hf, fun i a b => (h3 i a b).non hf⟩
theorem Ro.mono {w : World} {B B' : Nat} {v : Value} {rs : List (List Cl)} (h : Ro w B v rs) (hB : B' ≤ B) : Ro w B' v rs := by
  obtain ⟨hs, h1, h2, h3⟩ := h
  exact ⟨hs, h1, h2.mono hB, fun i a b => (h3 i a b).mono hB⟩
theorem Ro.shape {w : World} {B : Nat} {v : Value} {rs : List (List Cl)} (h : Ro w B v rs) : ∃ A c, v = .slice A rs.length c := h.rs.shape
theorem Ro.frozen {w : World} {B g n cap : Nat} {rs : List (List Cl)} (h : Ro w B (.slice (some ⟨g, 0, none⟩) n cap) rs) (hn : n = rs.length) (j : Nat) : w.frozen? ⟨g, j, none⟩ = false := by
  obtain ⟨hs, h1, h2, h3⟩ := h
  exact h2.frozen (by omega) j
theorem Ro.lt {w : World} {B : Nat} {v : Value} {rs : List (List Cl)} (h : Ro w B v rs) : ∀ k, v.ownBlock = some k → B ≤ k ∧ k < w.heap.size := by
  obtain ⟨hs, h1, h2, h3⟩ := h
  exact h2.lt
theorem oc_kind_ne {w : World} {B g : Nat} {v : Value} {l : List Cl} {cur : Array Value} {E : TypeId} (h : Oc w B v l) (hg : w.heap[g]? = some (.cells cur E (0, 0))) (hE : 24 ≠ E) : ∀ k, v.ownBlock = some k → k ≠ g := by
  rintro k hk rfl
  obtain ⟨c, h1⟩ := h.kind k hk
  rw [hg] at h1
  simp at h1
  exact hE h1.2.symm
theorem cell_ne_cells : 24 ≠ 42 := by decide
/-- a row stored -/
theorem Ro.put {w : World} {B g n cap : Nat} {rs : List (List Cl)} (h : Ro w B (.slice (some ⟨g, 0, none⟩) n cap) rs) (hn : n = rs.length) (j : Nat) {u : Value} {l : List Cl} (hu : Oc w B u l) :
    Ro (w.setCell ⟨g, j, none⟩ u) B (.slice (some ⟨g, 0, none⟩) n cap) (rs.set j l) := by
  obtain ⟨hs, h1, h2, h3⟩ := h
  obtain ⟨A, c, rfl⟩ := hu.shape
  obtain ⟨cur, hg⟩ := h2.kind g rfl
  have hf : Fr (One g) w (w.setCell ⟨g, j, none⟩ (.slice A l.length c)) := (Fr.refl _ _).set1 j _
  refine ⟨hs.set j ⟨A, l.length, c⟩, by simp [h1], h2.store (by omega) j ⟨A, l.length, c⟩, fun i a b => ?_⟩
  simp only [List.getElem_set]
  split
  · exact hu.fr hf (oc_kind_ne hu hg cell_ne_cells)
  · have h4 := h3 i (by simpa using a) (by simpa using b)
    exact h4.fr hf (oc_kind_ne h4 hg cell_ne_cells)
/-- the row at j, of the call's own -/
theorem Ro.el {w : World} {B g n cap : Nat} {rs : List (List Cl)} (h : Ro w B (.slice (some ⟨g, 0, none⟩) n cap) rs) (hn : n = rs.length) (j : Nat) (hj : j < rs.length) :
    ∃ A' c', w.cell? ⟨g, j, none⟩ = some (.slice A' rs[j].length c') ∧ Cs w (.slice A' rs[j].length c') rs[j] := by
  obtain ⟨hs, h1, h2, h3⟩ := h
  have h4 := (h3 j (by omega) hj).cs
  obtain ⟨A', c', e⟩ := h4.shape
  have h5 := h2.cell (by omega) j hs[j] (List.getElem?_eq_getElem (by omega))
  rw [e] at h4 h5
  exact ⟨A', c', h5, h4⟩

/-! ### Rows whose blocks are apart, to be appended to in their places -/
/-- the slices' blocks are apart -/
def Apart (hs : List Sl) : Prop := ∀ i j (hi : i < hs.length) (hj : j < hs.length), i ≠ j → ∀ k, (slV hs[i]).ownBlock = some k → (slV hs[j]).ownBlock ≠ some k
def Rq (w : World) (B : Nat) (v : Value) (rs : List (List Cl)) : Prop := ∃ hs : List Sl, hs.length = rs.length ∧ Ow slV 42 w B v hs ∧ (∀ i (h : i < hs.length) (h2 : i < rs.length), Oc w B (slV hs[i]) rs[i]) ∧ Apart hs
theorem Rq.non {w w' : World} {B : Nat} {v : Value} {rs : List (List Cl)} (h : Rq w B v rs) (hf : Fr Non w w') : Rq w' B v rs := by
  obtain ⟨hs, h1, h2, h3, h4⟩ := h
  exact ⟨hs, h1, h2.non hf, fun i a b => (h3 i a b).non hf, h4⟩
/-- the row at j, and what is left when another one, in the same block or in a new one, is stored in its place -/
theorem Rq.el {w : World} {B g n cap : Nat} {rs : List (List Cl)} (h : Rq w B (.slice (some ⟨g, 0, none⟩) n cap) rs) (hn : n = rs.length) (j : Nat) (hj : j < rs.length) :
    ∃ A' c', w.cell? ⟨g, j, none⟩ = some (.slice A' rs[j].length c') ∧ Oc w B (.slice A' rs[j].length c') rs[j] ∧
      ∀ (w1 w2 : World) (u : Value) (l : List Cl), Fr Non w w1 → Fr (fun k => (Value.slice A' rs[j].length c').ownBlock = some k) w1 w2 → Oc w2 B u l → (u.ownBlock = (Value.slice A' rs[j].length c').ownBlock ∨ ∀ k, u.ownBlock = some k → w1.heap.size ≤ k) →
        w2.frozen? ⟨g, j, none⟩ = false ∧ g < w2.heap.size ∧ Rq (w2.setCell ⟨g, j, none⟩ u) B (.slice (some ⟨g, 0, none⟩) n cap) (rs.set j l) := by
  obtain ⟨hs, h1, h2, h3, h4⟩ := h
  have hj' : j < hs.length := by omega
  have h5 := h3 j hj' hj
  obtain ⟨A', c', e⟩ := h5.shape
  have h6 := h2.cell (by omega) j hs[j] (List.getElem?_eq_getElem hj')
  have hown : (slV hs[j]).ownBlock = (Value.slice A' rs[j].length c').ownBlock := by rw [e]
  refine ⟨A', c', by rw [h6, e], by rw [← e]; exact h5, fun w1 w2 u l f1 f2 hu hblk => ?_⟩
  obtain ⟨cur0, hg0⟩ := h2.kind g rfl
  have hng : ∀ k, (Value.slice A' rs[j].length c').ownBlock = some k → k ≠ g := by rw [← e]; exact oc_kind_ne h5 hg0 cell_ne_cells
  have o1 := h2.non f1
  have o2 : Ow slV 42 w2 B (.slice (some ⟨g, 0, none⟩) n cap) hs := o1.fr f2 (fun k hk e2 => hng k e2 (by simpa [Value.ownBlock] using hk.symm))
  obtain ⟨cur, hg⟩ := o2.kind g rfl
  obtain ⟨A, c, rfl⟩ := hu.shape
  have hf : Fr (One g) w2 (w2.setCell ⟨g, j, none⟩ (.slice A l.length c)) := (Fr.refl _ _).set1 j _
  refine ⟨o2.frozen (by omega) j, (o2.lt g rfl).2, hs.set j ⟨A, l.length, c⟩, by simp [h1], o2.store (by omega) j ⟨A, l.length, c⟩, fun i a b => ?_, fun i i' hi hi' hne k hk hk' => ?_⟩
  · simp only [List.getElem_set]
    split
    · exact hu.fr hf (oc_kind_ne hu hg cell_ne_cells)
    · rename_i hne
      have a' : i < hs.length := by simpa using a
      have h7 := (h3 i a' (by simpa using b)).non f1
      have h8 := h7.fr f2 (fun k hk e2 => h4 i j a' hj' (fun e => hne e.symm) k hk (by rw [hown]; exact e2))
      exact h8.fr hf (oc_kind_ne h8 hg cell_ne_cells)
  · simp only [List.length_set] at hi hi'
    simp only [List.getElem_set] at hk hk'
    have old : ∀ i (hi : i < hs.length), i ≠ j → ∀ k, (slV hs[i]).ownBlock = some k → (slV (⟨A, l.length, c⟩ : Sl)).ownBlock ≠ some k := by
      intro i hi hne k hk hk'
      have hk2 : (Value.slice A l.length c).ownBlock = some k := hk'
      rcases hblk with hb | hb
      · rw [hb] at hk2
        exact h4 i j hi hj' hne k hk (by rw [hown]; exact hk2)
      · have h9 := hb k hk2
        have h10 := ((h3 i hi (by omega)).lt k hk).2
        have := f1.size
        omega
    by_cases e1 : j = i
    · rw [if_pos e1] at hk
      rw [if_neg (fun e2 => hne (by omega))] at hk'
      exact old i' hi' (by omega) k hk' hk
    · rw [if_neg e1] at hk
      by_cases e2 : j = i'
      · rw [if_pos e2] at hk'
        exact old i hi (by omega) k hk hk'
      · rw [if_neg e2] at hk'
        exact h4 i i' hi hi' hne k hk hk'

end Go.Proofs.Ytnbhgkolfapblaa


namespace Go.Proofs.Ytnbhgkolfapblaa
set_option linter.unusedVariables false
set_option linter.unusedSimpArgs false
set_option maxRecDepth 100000
open Go.RowKit

/-- two numbers handed back -/
def twoV (r : Int × Int) : Value := .tuple #[.int .i64 r.1, .int .i64 r.2]
theorem ret_twoV {r : Int × Int} {a b : Int} (h : r = (a, b)) : Ending.returned (.tuple #[.int .i64 a, .int .i64 b]) = Ending.returned (twoV r) := by rw [h]; rfl
def askE (cols : List Co) (p : Pd) (row : List Cl) : Int × Int := if rowB cols row = true then (truP cols row p, 0) else (0, 10)
theorem askE_yes {cols : List Co} {p : Pd} {row : List Cl} (h : rowB cols row = true) : askE cols p row = (truP cols row p, 0) := by unfold askE; rw [if_pos h]
theorem askE_no {cols : List Co} {p : Pd} {row : List Cl} (h : rowB cols row = false) : askE cols p row = (0, 10) := by unfold askE; rw [if_neg (by rw [h]; simp)]
theorem rowE_ask {cols : List Co} {p : Pd} {row : List Cl} (h : fitP cols p = 0) : rowE cols p row = askE cols p row := by unfold rowE askE; rw [if_pos h]

set_option maxHeartbeats 2000000 in
theorem eask_any (v1 v2 : Value) (cols : List Co) (row : List Cl) (hcl : cols.length ≤ 1000) (h : Ph) (ks : List Pd) (t : Kv) (w : World) (h1 : Ks w v1 cols) (h2 : Cs w v2 row) (hk : Kd w t ks) (hbig : bigP (.mk h ks) = true) (hf : fitP cols (.mk h ks) = 0) :
    Calls Try.prog 18 #[v1, pdV h t, v2] w fun e w' => e = .returned (twoV (askE cols (.mk h ks) row)) ∧ Fr Non w w' := by
  obtain ⟨_, hone, htyp⟩ := fit_zero hf
  have F0 : Fr Non w (w.alloc (.cells (pdC h t) 27)) := (Fr.refl Non w).alloc _
  have PB := Lib.hid (pd_new w _ h t rfl)
  have HR := Lib.hid (fun W (hf2 : Fr Non w W) => srow_any v1 v2 cols row W (h1.non hf2) (h2.non hf2) (by omega))
  have HT : Hid (rowB cols row = true → ∀ W, Fr Non w W → Calls Try.prog 28 #[recV v1 v2, pdV h t] W fun e w' => e = .returned (.int .i64 (truP cols row (.mk h ks))) ∧ Fr Non W w') :=
    Lib.hid (fun hr W hf2 => etruth_any v1 v2 cols row hcl hr (.mk h ks) t W (h1.non hf2) (h2.non hf2) (hk.non hf2) hbig hone htyp)
  have HY := Lib.hid (fun e => askE_yes (cols := cols) (p := .mk h ks) (row := row) e)
  have HX := Lib.hid (fun e => askE_no (cols := cols) (p := .mk h ks) (row := row) e)
  obtain ⟨A1, c1, rfl⟩ := h1.shape
  obtain ⟨A2, c2, rfl⟩ := h2.shape
  generalize truP cols row (.mk h ks) = z at *
  generalize askE cols (.mk h ks) row = r at *
  clear hone htyp hk hbig hf h1 h2
  replace F0 := Lib.hid F0
  obtain ⟨ho, hc, hm, ⟨vn, vi, vt⟩, hkd, hp⟩ := h
  obtain ⟨A, n, c⟩ := t
  unfold recV pdV at *
  unfold pdC kidV at *
  dsimp only at *
  cases hb : rowB cols row
  · have HE := Lib.hid (HX.out hb)
    simp only [hb] at HR
    clear HX HY HT hb
    go_enter Try.func18, Try.ntmps18
    go_wp2_with fail
    refine (HR.out _ F0.out).mono ?_
    rintro e w1 ⟨rfl, f1⟩
    go_wp2
    go_ret2
    exact ⟨ret_twoV HE.out, F0.out.trans f1⟩
  · have HE := Lib.hid (HY.out hb)
    replace HT := Lib.hid (HT.out hb)
    simp only [hb] at HR
    clear HX HY hb
    go_enter Try.func18, Try.ntmps18
    go_wp2_with fail
    refine (HR.out _ F0.out).mono ?_
    rintro e w1 ⟨rfl, f1⟩
    obtain ⟨b0, b1, b2, b3, b4, b5, b6, b7, b8⟩ := pdB_cells (PB.out.fr f1 (fun e => e))
    dsimp only at b0 b1 b2 b3 b4 b5 b6 b7 b8
    have F1 := Lib.hid (F0.out.trans f1)
    clear f1
    go_wp2_with fail
    refine (HT.out _ F1.out).mono ?_
    rintro e w2 ⟨rfl, f2⟩
    go_wp2
    go_ret2
    exact ⟨ret_twoV HE.out, F1.out.trans f2⟩

set_option maxHeartbeats 2000000 in
theorem erow_any (v1 v2 : Value) (cols : List Co) (row : List Cl) (hcl : cols.length ≤ 1000) (hcb : ∀ c ∈ cols, c.name.length ≤ 1000) (h : Ph) (ks : List Pd) (t : Kv) (w : World) (h1 : Ks w v1 cols) (h2 : Cs w v2 row) (hk : Kd w t ks) (hb : I64b h.val.num) (hbig : bigP (.mk h ks) = true) (hdep : depP (.mk h ks) ≤ 100) :
    Calls Try.prog 13 #[v1, pdV h t, v2] w fun e w' => e = .returned (twoV (rowE cols (.mk h ks) row)) ∧ Fr Non w w' := by
  have F0 : Fr Non w (w.alloc (.cells (pdC h t) 27)) := (Fr.refl Non w).alloc _
  have PB := Lib.hid (pd_new w _ h t rfl)
  have HF := Lib.hid (fun W (hf2 : Fr Non w W) => pfits_big cols hcl hcb v1 h t ks W (h1.non hf2) (hk.non hf2) hb hbig hdep)
  have HA : Hid (fitP cols (.mk h ks) = 0 → ∀ W, Fr Non w W → Calls Try.prog 18 #[v1, pdV h t, v2] W fun e w' => e = .returned (twoV (askE cols (.mk h ks) row)) ∧ Fr Non W w') :=
    Lib.hid (fun hf W hf2 => eask_any v1 v2 cols row hcl h ks t W (h1.non hf2) (h2.non hf2) (hk.non hf2) hbig hf)
  have HY := Lib.hid (fun e => rowE_ask (cols := cols) (p := .mk h ks) (row := row) e)
  have HX := Lib.hid (fun e => rowE_bad (cols := cols) (p := .mk h ks) (row := row) e)
  obtain ⟨A1, c1, rfl⟩ := h1.shape
  obtain ⟨A2, c2, rfl⟩ := h2.shape
  generalize fitP cols (.mk h ks) = z at *
  generalize askE cols (.mk h ks) row = s at *
  generalize rowE cols (.mk h ks) row = r at *
  clear hk hbig hdep hb h1 h2
  replace F0 := Lib.hid F0
  obtain ⟨ho, hc, hm, ⟨vn, vi, vt⟩, hkd, hp⟩ := h
  obtain ⟨A, n, c⟩ := t
  unfold pdV at *
  unfold pdC kidV at *
  dsimp only at *
  by_cases hz : z = 0
  · subst hz
    have HE := Lib.hid (HY.out rfl)
    replace HA := Lib.hid (HA.out rfl)
    clear HX HY
    obtain ⟨s1, s2⟩ := s
    unfold twoV at HA
    dsimp only at HA
    go_enter Try.func13, Try.ntmps13
    go_wp2_with fail
    refine (HF.out _ F0.out).mono ?_
    rintro e w1 ⟨rfl, f1⟩
    obtain ⟨b0, b1, b2, b3, b4, b5, b6, b7, b8⟩ := pdB_cells (PB.out.fr f1 (fun e => e))
    dsimp only at b0 b1 b2 b3 b4 b5 b6 b7 b8
    have F1 := Lib.hid (F0.out.trans f1)
    clear f1
    go_wp2_with fail
    refine (HA.out _ F1.out).mono ?_
    rintro e w2 ⟨rfl, f2⟩
    go_wp2
    go_ret2
    exact ⟨ret_twoV HE.out, F1.out.trans f2⟩
  · have HE := Lib.hid (HX.out hz)
    have hb : (z != 0) = true := by rw [bne_iff_ne]; exact hz
    clear HX HY HA hz
    go_enter Try.func13, Try.ntmps13
    go_wp2_with fail
    refine (HF.out _ F0.out).mono ?_
    rintro e w1 ⟨rfl, f1⟩
    go_wp2
    go_ret2
    exact ⟨ret_twoV HE.out, F0.out.trans f1⟩

end Go.Proofs.Ytnbhgkolfapblaa


namespace Go.Proofs.Ytnbhgkolfapblaa
set_option linter.unusedVariables false
set_option linter.unusedSimpArgs false
set_option maxRecDepth 100000
open Go.RowKit

theorem kd_lit (w : World) (g : Nat) (hg : g = w.heap.size) (ns : List (Ph × Kv)) (ps : List Pd) (cs : Array Value) (hcs : cs.toList = ns.flatMap pdL) (hl : ns.length = ps.length) (hm : ns.length ≤ 1000)
    (hh : ∀ i (h1 : i < ns.length) (h2 : i < ps.length), ns[i].1 = ps[i].hd) (hb : ∀ i (h2 : i < ps.length), I64b ps[i].hd.val.num) (hk : ∀ i (h1 : i < ns.length) (h2 : i < ps.length), Kd w ns[i].2 ps[i].kids) :
    Kd (w.alloc (.cells cs 27)) ⟨some ⟨g, 0, none⟩, ns.length, ns.length⟩ ps :=
  .mk _ ns ps hl ((no_lit (E := 27) fd_pd w 0 g ns cs hcs hg (Nat.zero_le _) (by omega)).ns fd_pd) hh hb (fun i h1 h2 => (hk i h1 h2).non ((Fr.refl _ _).alloc _))
theorem kd_one (w : World) (g : Nat) (hg : g = w.heap.size) (h : Ph) (t : Kv) (ks : List Pd) (hb : I64b h.val.num) (hk : Kd w t ks) :
    Kd (w.alloc (.cells (pdC h t) 27)) ⟨some ⟨g, 0, none⟩, 1, 1⟩ [.mk h ks] :=
  kd_lit w g hg [(h, t)] [.mk h ks] (pdC h t) rfl rfl (by simp) (fun i h1 h2 => by
      match i, h1 with
      | 0, _ => rfl) (fun i h2 => by
      match i, h2 with
      | 0, _ => exact hb) (fun i h1 h2 => by
      match i, h1 with
      | 0, _ => exact hk)
theorem kd_two (w : World) (g : Nat) (hg : g = w.heap.size) (h h' : Ph) (t t' : Kv) (ks ks' : List Pd) (hb : I64b h.val.num) (hb' : I64b h'.val.num) (hk : Kd w t ks) (hk' : Kd w t' ks') (cs : Array Value) (hcs : cs.toList = (pdC h t).toList ++ (pdC h' t').toList) :
    Kd (w.alloc (.cells cs 27)) ⟨some ⟨g, 0, none⟩, 2, 2⟩ [.mk h ks, .mk h' ks'] :=
  kd_lit w g hg [(h, t), (h', t')] [.mk h ks, .mk h' ks'] cs (by rw [hcs]; rfl) rfl (by simp) (fun i h1 h2 => by
      match i, h1 with
      | 0, _ => rfl
      | 1, _ => rfl) (fun i h2 => by
      match i, h2 with
      | 0, _ => exact hb
      | 1, _ => exact hb') (fun i h1 h2 => by
      match i, h1 with
      | 0, _ => exact hk
      | 1, _ => exact hk')
/-- the first, and the others, of a slice -/
theorem Kd.fst {w : World} {a : Addr} {n c : Nat} {p : Pd} {l : List Pd} (h : Kd w ⟨some a, n, c⟩ (p :: l)) : Kd w ⟨some a, 1, c⟩ [p] := by
  cases h with
  | mk s ns ps hl hN hh hb hk =>
    obtain ⟨A, c', he, h1, h2, h3⟩ := hN
    unfold kidV at he
    simp only [Value.slice.injEq] at he
    obtain ⟨rfl, hn, rfl⟩ := he
    cases ns with
    | nil => cases hl
    | cons x r =>
      refine .mk _ [x] [p] rfl ⟨some a, c, rfl, by simp at h1 ⊢; omega, fun e => (by cases e), fun b hb' j hj => ?_⟩ (fun i h1 h2 => ?_) (fun i h2 => ?_) (fun i h1 h2 => ?_)
      · have hj0 : j = 0 := by simpa using hj
        subst hj0
        exact h3 b hb' 0 (by simp)
      · have hi : i = 0 := by simpa using h1
        subst hi; exact hh 0 (by simp) (by simp)
      · have hi : i = 0 := by simpa using h2
        subst hi; exact hb 0 (by simp)
      · have hi : i = 0 := by simpa using h1
        subst hi; exact hk 0 (by simp) (by simp)
theorem Kd.rst {w : World} {a : Addr} {n c : Nat} {p : Pd} {l : List Pd} (h : Kd w ⟨some a, n + 1, c + 1⟩ (p :: l)) : Kd w ⟨some (a.add 9), n, c⟩ l := by
  cases h with
  | mk s ns ps hl hN hh hb hk =>
    obtain ⟨A, c', he, h1, h2, h3⟩ := hN
    unfold kidV at he
    simp only [Value.slice.injEq] at he
    obtain ⟨rfl, hn, rfl⟩ := he
    cases ns with
    | nil => cases hl
    | cons x r =>
      refine .mk _ r l (by simpa using hl) ⟨some (a.add 9), c, by unfold kidV; dsimp only; congr 1; simpa using hn, by simp at h1; omega, fun e => (by cases e), fun b hb' j hj => ?_⟩ (fun i h1 h2 => ?_) (fun i h2 => ?_) (fun i h1 h2 => ?_)
      · obtain rfl : a.add 9 = b := by simpa using hb'
        have h4 := h3 a rfl (j + 1) (by simpa using hj)
        rw [add_add, show 9 + j * 9 = (j + 1) * 9 by omega]
        exact h4
      · exact hh (i + 1) (by simpa using h1) (by simpa using h2)
      · exact hb (i + 1) (by simpa using h2)
      · exact hk (i + 1) (by simpa using h1) (by simpa using h2)
end Go.Proofs.Ytnbhgkolfapblaa


namespace Go.Proofs.Ytnbhgkolfapblaa
set_option linter.unusedVariables false
set_option linter.unusedSimpArgs false
set_option maxRecDepth 100000
open Go.RowKit

theorem num20_any (z : Int) (w : World) : Calls Try.prog 11 #[.int .i64 z] w fun e w' => e = .returned (.int .i64 z) ∧ w = w' := by
  go_enter Try.func11, Try.ntmps11
  go_wp2
  go_ret
  exact ⟨rfl, rfl⟩

def x20A : Ph := ⟨2, [97], 1, ⟨false, 5, []⟩, 1, []⟩
def x20N : Ph := ⟨5, [], 0, zCl, 0, []⟩
def x20Z : Ph := ⟨3, [97], 0, zCl, 0, []⟩
def x20C : List Co := [⟨[97], 1, true⟩]
def x20R : List Cl := [⟨true, 0, []⟩]
theorem x20_1 : rowE x20C (.mk x20A []) x20R = (2, 0) := by decide +kernel
theorem x20_2 : rowE x20C (.mk x20N [.mk x20A []]) x20R = (2, 0) := by decide +kernel
theorem x20_3 : rowE x20C (.mk x20Z []) x20R = (1, 0) := by decide +kernel

set_option maxHeartbeats 4000000 in
theorem live20_any (w : World) : Calls Try.prog 8 #[] w fun e w' => e = .returned (.bool true) ∧ Fr Non w w' := by
  have f1 := (Fr.refl Non w).alloc (.cells #[.string ⟨#[97]⟩, .int .i64 1, .bool true] 51)
  have f2 := f1.alloc (.cells #[.bool true, .int .i64 0, .string ⟨#[]⟩] 24)
  have f3 := f2.alloc (.cells (pdC x20A noKv) 27)
  have k1 : Ks (((w.alloc (.cells #[.string ⟨#[97]⟩, .int .i64 1, .bool true] 51)).alloc (.cells #[.bool true, .int .i64 0, .string ⟨#[]⟩] 24)).alloc (.cells (pdC x20A noKv) 27)) (.slice (some ⟨w.heap.size, 0, none⟩) 1 1) x20C :=
    ((((no_lit (E := 51) fd_co w 0 _ [⟨[97], 1, true⟩] #[.string ⟨#[97]⟩, .int .i64 1, .bool true] rfl rfl (Nat.zero_le _) (by decide)).alloc _).alloc _).ns fd_co)
  have c1 := ((oc_lit (w.alloc (.cells #[.string ⟨#[97]⟩, .int .i64 1, .bool true] 51)) 0 (w.heap.size + 1) [⟨true, 0, []⟩] #[.bool true, .int .i64 0, .string ⟨#[]⟩] rfl (by simp) (Nat.zero_le _) (by decide)).alloc (.cells (pdC x20A noKv) 27)).cs
  have e2 : ((w.alloc (.cells #[.string ⟨#[97]⟩, .int .i64 1, .bool true] 51)).alloc (.cells #[.bool true, .int .i64 0, .string ⟨#[]⟩] 24)).heap.size = w.heap.size + 1 + 1 := by simp
  have PB := pd_new ((w.alloc (.cells #[.string ⟨#[97]⟩, .int .i64 1, .bool true] 51)).alloc (.cells #[.bool true, .int .i64 0, .string ⟨#[]⟩] 24)) _ x20A noKv rfl
  rw [e2] at PB
  have hcb : ∀ c ∈ x20C, c.name.length ≤ 1000 := by decide
  have R1 := Lib.hid (fun W (h1 : Ks W (.slice (some ⟨w.heap.size, 0, none⟩) 1 1) x20C) (h2 : Cs W (.slice (some ⟨w.heap.size + 1, 0, none⟩) 1 1) x20R) => erow_any _ _ x20C x20R (by decide) hcb x20A [] noKv W h1 h2 (Kd.nil_ W) (show I64b 5 by unfold I64b; omega) (by decide +kernel) (by decide +kernel))
  have R2 := Lib.hid (fun W s (h1 : Ks W (.slice (some ⟨w.heap.size, 0, none⟩) 1 1) x20C) (h2 : Cs W (.slice (some ⟨w.heap.size + 1, 0, none⟩) 1 1) x20R) (hk : Kd W s [.mk x20A []]) => erow_any _ _ x20C x20R (by decide) hcb x20N [.mk x20A []] s W h1 h2 hk (show I64b 0 by unfold I64b; omega) (by decide +kernel) (by decide +kernel))
  have R3 := Lib.hid (fun W (h1 : Ks W (.slice (some ⟨w.heap.size, 0, none⟩) 1 1) x20C) (h2 : Cs W (.slice (some ⟨w.heap.size + 1, 0, none⟩) 1 1) x20R) => erow_any _ _ x20C x20R (by decide) hcb x20Z [] noKv W h1 h2 (Kd.nil_ W) (show I64b 0 by unfold I64b; omega) (by decide +kernel) (by decide +kernel))
  have KO := Lib.hid (fun W g (hg : g = W.heap.size) => kd_one W g hg x20A noKv [] (show I64b 5 by unfold I64b; omega) (Kd.nil_ W))
  rw [x20_1] at R1
  rw [x20_2] at R2
  rw [x20_3] at R3
  replace k1 := Lib.hid k1
  replace c1 := Lib.hid c1
  replace f3 := Lib.hid f3
  replace PB := Lib.hid PB
  have HN := Lib.hid (fun z W => num20_any z W)
  clear f1 f2 e2 hcb
  unfold x20A x20N x20Z pdV twoV at *
  unfold pdC kidV noKv zCl at *
  dsimp only at *
  go_enter Try.func8, Try.ntmps8
  go_wp2_with fail
  refine (R1.out _ k1.out c1.out).mono ?_
  rintro e w1 ⟨rfl, g1⟩
  have k2 := Lib.hid (k1.out.non g1)
  have c2 := Lib.hid (c1.out.non g1)
  have F1 := Lib.hid (f3.out.trans g1)
  obtain ⟨b0, b1, b2, b3, b4, b5, b6, b7, b8⟩ := pdB_cells (PB.out.fr g1 (fun e => e))
  dsimp only at b0 b1 b2 b3 b4 b5 b6 b7 b8
  clear g1 R1
  go_wp2_with fail
  have k3 : Ks _ _ x20C := k2.out.non ((Fr.refl Non w1).alloc (.cells #[.int .i64 2, .string ⟨#[97]⟩, .int .i64 1, .bool false, .int .i64 5, .string ⟨#[]⟩, .int .i64 1, .string ⟨#[]⟩, .slice none 0 0] 27))
  have c3 := c2.out.non ((Fr.refl Non w1).alloc (.cells #[.int .i64 2, .string ⟨#[97]⟩, .int .i64 1, .bool false, .int .i64 5, .string ⟨#[]⟩, .int .i64 1, .string ⟨#[]⟩, .slice none 0 0] 27))
  have F2 := Lib.hid (F1.out.alloc (.cells #[.int .i64 2, .string ⟨#[97]⟩, .int .i64 1, .bool false, .int .i64 5, .string ⟨#[]⟩, .int .i64 1, .string ⟨#[]⟩, .slice none 0 0] 27))
  refine (R2.out _ ⟨some ⟨w1.heap.size, 0, none⟩, 1, 1⟩ k3 c3 (KO.out w1 _ rfl)).mono ?_
  rintro e w2 ⟨rfl, g2⟩
  have k4 : Hid (Ks w2 _ x20C) := Lib.hid (k3.non g2)
  have c4 := Lib.hid (c3.non g2)
  have F3 := Lib.hid (F2.out.trans g2)
  clear g2 R2 KO k3 c3 b0 b1 b2 b3 b4 b5 b6 b7 b8
  go_wp2_with fail
  refine (R3.out _ k4.out c4.out).mono ?_
  rintro e w3 ⟨rfl, g3⟩
  have F4 := Lib.hid (F3.out.trans g3)
  clear g3 R3
  go_wp2_with fail
  refine (HN.out _ _).mono ?_
  rintro e w4 ⟨rfl, rfl⟩
  go_wp2_with fail
  refine (HN.out _ _).mono ?_
  rintro e w5 ⟨rfl, rfl⟩
  go_wp2_with fail
  refine (HN.out _ _).mono ?_
  rintro e w6 ⟨rfl, rfl⟩
  go_wp2
  go_ret
  exact ⟨rfl, F4.out⟩
end Go.Proofs.Ytnbhgkolfapblaa


namespace Go.Proofs.Ytnbhgkolfapblaa
set_option linter.unusedVariables false
set_option linter.unusedSimpArgs false
set_option maxRecDepth 100000
open Go.RowKit

/-- two predicates' cells, one behind the other -/
def p2C (h : Ph) (s : Kv) (h' : Ph) (s' : Kv) : Array Value := #[.int .i64 h.op, .string ⟨h.col.toArray⟩, .int .i64 h.cmp, .bool h.val.null, .int .i64 h.val.num, .string ⟨h.val.txt.toArray⟩, .int .i64 h.kind, .string ⟨h.pat.toArray⟩, kidV s, .int .i64 h'.op, .string ⟨h'.col.toArray⟩, .int .i64 h'.cmp, .bool h'.val.null, .int .i64 h'.val.num, .string ⟨h'.val.txt.toArray⟩, .int .i64 h'.kind, .string ⟨h'.pat.toArray⟩, kidV s']
def p2V (h : Ph) (s : Kv) (h' : Ph) (s' : Kv) : Value := .agg (p2C h s h' s')
/-- the block of both -/
def P2Blk (w : World) (g : Nat) (h : Ph) (s : Kv) (h' : Ph) (s' : Kv) : Prop := PBlk w g h s ∧
  w.cell? ⟨g, 9, none⟩ = some (.int .i64 h'.op) ∧ w.cell? ⟨g, 10, none⟩ = some (.string ⟨h'.col.toArray⟩) ∧ w.cell? ⟨g, 11, none⟩ = some (.int .i64 h'.cmp) ∧
  w.cell? ⟨g, 12, none⟩ = some (.bool h'.val.null) ∧ w.cell? ⟨g, 13, none⟩ = some (.int .i64 h'.val.num) ∧ w.cell? ⟨g, 14, none⟩ = some (.string ⟨h'.val.txt.toArray⟩) ∧
  w.cell? ⟨g, 15, none⟩ = some (.int .i64 h'.kind) ∧ w.cell? ⟨g, 16, none⟩ = some (.string ⟨h'.pat.toArray⟩) ∧ w.cell? ⟨g, 17, none⟩ = some (.slice s'.A s'.n s'.c)
theorem p2_cells {w : World} {g : Nat} {T : TypeId} {h h' : Ph} {s s' : Kv} (e : Blk w g T (p2C h s h' s')) : P2Blk w g h s h' s' :=
  ⟨⟨e.cell 0, e.cell 1, e.cell 2, e.cell 3, e.cell 4, e.cell 5, e.cell 6, e.cell 7, e.cell 8⟩, e.cell 9, e.cell 10, e.cell 11, e.cell 12, e.cell 13, e.cell 14, e.cell 15, e.cell 16, e.cell 17⟩

def hOp (o : Int) : Ph := ⟨o, [], 0, zCl, 0, []⟩
theorem hOp_num (o : Int) : I64b (hOp o).val.num := show I64b 0 by unfold I64b; omega
theorem big_one (o : Int) {p : Pd} (h : bigP p = true) : bigP (.mk (hOp o) [p]) = true := by
  rw [bigP_is]; simp [h, bigH, hOp, zCl]
theorem big_two (o : Int) {p q : Pd} (h : bigP p = true) (h' : bigP q = true) : bigP (.mk (hOp o) [p, q]) = true := by
  rw [bigP_is]; simp [h, h', bigH, hOp, zCl]
theorem dep_one (h : Ph) (p : Pd) : depP (.mk h [p]) = 1 + depP p := by rw [depP, depL, depL]; omega
theorem dep_two (h : Ph) (p q : Pd) : depP (.mk h [p, q]) = 1 + max (depP p) (depP q) := by rw [depP, depL, depL, depL]; omega
/-- not of an and, or of an or, of two -/
def jA (o : Int) (p q : Pd) : Pd := .mk (hOp 5) [.mk (hOp o) [p, q]]
def jB (o : Int) (p q : Pd) : Pd := .mk (hOp o) [.mk (hOp 5) [p], .mk (hOp 5) [q]]
theorem join_67 (cols : List Co) (row : List Cl) (p q : Pd) : truP cols row (jA 6 p q) = truP cols row (jB 7 p q) := by
  unfold jA jB
  rw [tru_is, truH_5 rfl, tru_is, truH_7 rfl]
  simp only [List.map_cons, List.map_nil, List.headD_cons]
  rw [tru_is, truH_6 rfl, tru_is, truH_5 rfl, tru_is, truH_5 rfl]
  simp only [List.map_cons, List.map_nil, List.headD_cons]
  exact not_and (tru_one ..) (tru_one ..)
theorem join_76 (cols : List Co) (row : List Cl) (p q : Pd) : truP cols row (jA 7 p q) = truP cols row (jB 6 p q) := by
  unfold jA jB
  rw [tru_is, truH_5 rfl, tru_is, truH_6 rfl]
  simp only [List.map_cons, List.map_nil, List.headD_cons]
  rw [tru_is, truH_7 rfl, tru_is, truH_5 rfl, tru_is, truH_5 rfl]
  simp only [List.map_cons, List.map_nil, List.headD_cons]
  exact not_or (tru_one ..) (tru_one ..)
theorem joins_eq {cols : List Co} {row : List Cl} {p q : Pd} (h : truP cols row p = truP cols row q) : (rowE cols p row).2 = 0 → (rowE cols q row).2 = 0 → (rowE cols p row).1 = (rowE cols q row).1 := by
  intro e f
  rw [rowE_zero e, rowE_zero f, h]
/-- a round's three blocks -/
def jW (w : World) (o o' : Int) (g4 g5 : Nat) : World := ((w.alloc (.cells (pdC (hOp o) ⟨some ⟨g4, 0, none⟩, 2, 2⟩) 27)).alloc (.cells (pdC (hOp 5) ⟨some ⟨w.heap.size, 0, none⟩, 1, 1⟩) 27)).alloc (.cells (pdC (hOp o') ⟨some ⟨g5, 0, none⟩, 2, 2⟩) 27)
theorem jW_fr (w : World) (o o' : Int) (g4 g5 : Nat) : Fr Non w (jW w o o' g4 g5) := (((Fr.refl Non w).alloc _).alloc _).alloc _
theorem jW_a (w : World) (o o' : Int) (g4 g5 : Nat) : PdB (jW w o o' g4 g5) (w.heap.size + 1) (hOp 5) ⟨some ⟨w.heap.size, 0, none⟩, 1, 1⟩ :=
  (pd_new (w.alloc (.cells (pdC (hOp o) ⟨some ⟨g4, 0, none⟩, 2, 2⟩) 27)) (w.heap.size + 1) _ _ (by simp)).fr ((Fr.refl Non _).alloc _) (fun e => e)
theorem jW_b (w : World) (o o' : Int) (g4 g5 : Nat) : PdB (jW w o o' g4 g5) (w.heap.size + 1 + 1) (hOp o') ⟨some ⟨g5, 0, none⟩, 2, 2⟩ := pd_new _ _ _ _ (by simp)
theorem jW_k {w : World} {g4 : Nat} {p q : Pd} (h : Kd w ⟨some ⟨g4, 0, none⟩, 2, 2⟩ [p, q]) (o o' : Int) (g5 : Nat) : Kd (jW w o o' g4 g5) ⟨some ⟨w.heap.size, 0, none⟩, 1, 1⟩ [.mk (hOp o) [p, q]] :=
  (kd_one w _ rfl (hOp o) _ [p, q] (hOp_num _) h).non (((Fr.refl Non _).alloc _).alloc _)
/-- the two nots, by the parts of the slice of both -/
theorem kd_nots {w : World} {g4 : Nat} {p q : Pd} (h : Kd w ⟨some ⟨g4, 0, none⟩, 2, 2⟩ [p, q]) :
    Kd (w.alloc (.cells (p2C (hOp 5) ⟨some ⟨g4, 0, none⟩, 1, 2⟩ (hOp 5) ⟨some ⟨g4, 9, none⟩, 1, 1⟩) 27)) ⟨some ⟨w.heap.size, 0, none⟩, 2, 2⟩ [.mk (hOp 5) [p], .mk (hOp 5) [q]] :=
  kd_two w _ rfl (hOp 5) (hOp 5) _ _ [p] [q] (hOp_num _) (hOp_num _) h.fst (Kd.rst (n := 1) (c := 1) h) _ rfl
end Go.Proofs.Ytnbhgkolfapblaa


namespace Go.Proofs.Ytnbhgkolfapblaa
set_option linter.unusedVariables false
set_option linter.unusedSimpArgs false
set_option maxRecDepth 100000
open Go.RowKit

set_option maxHeartbeats 1000000 in
theorem smallC_any (v : Value) (l : List Cl) (w : World) (hv : Cs w v l) :
    Calls Try.prog 15 #[v] w fun e w' => ∃ b, e = .returned (.bool b) ∧ (b = true → l.length ≤ 100) ∧ Fr Non w w' := by
  obtain ⟨A, c, rfl, hlc, hn, hcell⟩ := hv
  have HC := Lib.hid hcell
  have HN := Lib.hid hn
  clear hcell hn
  go_enter Try.func15, Try.ntmps15
  go_wp2
  go_loopw [3] (fun i wr => ∃ (k : Nat), k ≤ l.length ∧ k ≤ 200 ∧ i = .int .i64 k ∧ Fr Non w wr) (fun i _ => 200 - (intOf i).toNat)
  case atStart => exact ⟨0, Nat.zero_le _, Nat.zero_le _, rfl, Fr.refl _ _⟩
  case round =>
    obtain ⟨k, hk, hk2, rfl, hfr⟩ := hrel
    by_cases hlt : k < l.length
    · by_cases h200 : k < 200
      · cases A with
        | none => have := HN.out rfl; omega
        | some a =>
          obtain ⟨hc0, hc1, hc2⟩ := (hfr.at3 (HC.out a rfl k hlt)).lit
          generalize l[k] = x at *
          obtain ⟨xn, xi, xt⟩ := x
          dsimp only at hc0 hc1 hc2
          have hs := slen xt
          by_cases hx : 60 < xt.length
          · go_wp2
            go_ret
            exact ⟨false, rfl, (fun h => by cases h), hfr⟩
          · go_wp2
            go_roundw
            case rel => exact ⟨k + 1, by omega, by omega, by go_num, hfr⟩
            case measure => simp [intOf]; omega
      · go_wp2
        go_ret
        exact ⟨_, rfl, (fun h => by have := of_decide_eq_true h; omega), hfr⟩
    · go_wp2
      go_ret
      exact ⟨_, rfl, (fun h => by have := of_decide_eq_true h; omega), hfr⟩
end Go.Proofs.Ytnbhgkolfapblaa


namespace Go.Proofs.Ytnbhgkolfapblaa
set_option linter.unusedVariables false
set_option linter.unusedSimpArgs false
set_option maxRecDepth 100000
open Go.RowKit

set_option maxHeartbeats 1000000 in
theorem ksmall_any (v : Value) (l : List Co) (w : World) (hv : Ks w v l) :
    Calls Try.prog 16 #[v] w fun e w' => ∃ b, e = .returned (.bool b) ∧ (b = true → l.length ≤ 20 ∧ ∀ c ∈ l, c.name.length ≤ 100) ∧ Fr Non w w' := by
  obtain ⟨A, c, rfl, hlc, hn, hcell⟩ := hv
  have HC := Lib.hid hcell
  have HN := Lib.hid hn
  clear hcell hn
  go_enter Try.func16, Try.ntmps16
  go_wp2
  go_loopw [3] (fun i wr => ∃ (k : Nat), k ≤ l.length ∧ k ≤ 30 ∧ i = .int .i64 k ∧ Hid (∀ j (h : j < l.length), j < k → l[j].name.length ≤ 100) ∧ Fr Non w wr) (fun i _ => 30 - (intOf i).toNat)
  case atStart => exact ⟨0, Nat.zero_le _, Nat.zero_le _, rfl, Lib.hid (fun _ _ h => by omega), Fr.refl _ _⟩
  case round =>
    obtain ⟨k, hk, hk2, rfl, HS, hfr⟩ := hrel
    by_cases hlt : k < l.length
    · by_cases h30 : k < 30
      · cases A with
        | none => have := HN.out rfl; omega
        | some a =>
          obtain ⟨hc0, hc1, hc2⟩ := co_lit ((HC.out a rfl k hlt).non hfr)
          have HY : Hid (l[k].name.length ≤ 100 → ∀ j (h : j < l.length), j < k + 1 → l[j].name.length ≤ 100) := Lib.hid (fun h j hj hjk => by
            by_cases e : j = k
            · subst e; exact h
            · exact HS.out j hj (by omega))
          clear HS
          generalize l[k] = x at *
          obtain ⟨xn, xi, xt⟩ := x
          dsimp only at hc0 hc1 hc2 HY
          have hs := slenN xn
          by_cases hx : 100 < xn.length
          · go_wp2
            go_ret
            exact ⟨false, rfl, (fun h => by cases h), hfr⟩
          · have H := Lib.hid (HY.out (by omega))
            clear HY
            go_wp2
            go_roundw
            case rel => exact ⟨k + 1, by omega, by omega, by go_num, H, hfr⟩
            case measure => simp [intOf]; omega
      · go_wp2
        go_ret
        exact ⟨_, rfl, (fun h => by have := of_decide_eq_true h; omega), hfr⟩
    · have H : Hid (∀ c ∈ l, c.name.length ≤ 100) := Lib.hid (fun c hc => by
        obtain ⟨j, hj, rfl⟩ := List.mem_iff_getElem.1 hc
        exact HS.out j hj (by omega))
      clear HS
      go_wp2
      go_ret
      exact ⟨_, rfl, (fun h => ⟨by have := of_decide_eq_true h; omega, H.out⟩), hfr⟩

end Go.Proofs.Ytnbhgkolfapblaa


namespace Go.Proofs.Ytnbhgkolfapblaa
set_option linter.unusedVariables false
set_option linter.unusedSimpArgs false
set_option maxRecDepth 100000
open Go.RowKit

/-- what Small answers -/
def SmR (cols : List Co) (rows : List (List Cl)) (e : Ending) : Prop := ∃ s, e = .returned (.bool s) ∧ (s = true → cols.length ≤ 20 ∧ (∀ c ∈ cols, c.name.length ≤ 100) ∧ rows.length ≤ 210)
theorem smR_no {cols : List Co} {rows : List (List Cl)} : SmR cols rows (.returned (.bool false)) := ⟨false, rfl, fun h => by cases h⟩
theorem smR_yes {cols : List Co} {rows : List (List Cl)} (h : cols.length ≤ 20 ∧ (∀ c ∈ cols, c.name.length ≤ 100) ∧ rows.length ≤ 210) : SmR cols rows (.returned (.bool true)) := ⟨true, rfl, fun _ => h⟩

set_option maxHeartbeats 2000000 in
theorem small13_any (v1 v2 : Value) (cols : List Co) (rows : List (List Cl)) (w : World) (h1 : Ks w v1 cols) (h2 : Rs w v2 rows) :
    Calls Try.prog 6 #[v1, v2] w fun e w' => SmR cols rows e ∧ Fr Non w w' := by
  obtain ⟨A1, c1, rfl⟩ := h1.shape
  obtain ⟨A2, c2, rfl⟩ := h2.shape
  have H1 := Lib.hid h1
  have H2 := Lib.hid h2
  clear h1 h2
  go_enter Try.func6, Try.ntmps6
  go_wp2
  go_loopw [5] (fun i wr => ∃ k : Nat, k ≤ rows.length ∧ k ≤ 250 ∧ i = .int .i64 k ∧ Fr Non w wr) (fun i _ => 250 - (intOf i).toNat)
  case atStart => exact ⟨0, Nat.zero_le _, Nat.zero_le _, rfl, Fr.refl _ _⟩
  case round =>
    obtain ⟨k, hk, hk2, rfl, hF⟩ := hrel
    have HF := Lib.hid hF
    by_cases hgo : k < rows.length ∧ k < 250
    · obtain ⟨hlt, h250⟩ := hgo
      obtain ⟨a, A', c', rfl, _, q1, hc1⟩ := (H2.out.non hF).el k hlt
      have HS := Lib.hid (smallC_any _ rows[k] wr hc1)
      clear hF hc1
      generalize rows[k] = r at *
      by_cases hr : 10 < r.length
      · have d1 : decide (10 < (r.length : Int)) = true := decide_eq_true (by omega)
        clear hr HS
        go_wp2
        go_ret
        exact ⟨smR_no, HF.out⟩
      · have d1 : decide (10 < (r.length : Int)) = false := decide_eq_false (by omega)
        clear hr
        go_wp2_with fail
        refine HS.out.mono ?_
        rintro e w2 ⟨s, rfl, _, f2⟩
        have HF2 := Lib.hid (HF.out.trans f2)
        clear HS HF f2
        cases s with
        | true =>
          go_wp2
          go_roundw
          case rel => exact ⟨k + 1, by omega, by omega, by go_num, HF2.out⟩
          case measure => simp [intOf]; omega
        | false =>
          go_wp2
          go_ret
          exact ⟨smR_no, HF2.out⟩
    · have HK := Lib.hid (ksmall_any _ cols wr (H1.out.non hF))
      have HGo := Lib.hid hgo
      clear hF
      by_cases hlt : k < rows.length
      · have h250 : ¬ k < 250 := fun h => hgo ⟨hlt, h⟩
        clear hgo
        go_wp2_with fail
        refine HK.out.mono ?_
        rintro e w2 ⟨s, rfl, hs, f2⟩
        have HF2 := Lib.hid (HF.out.trans f2)
        have HSs := Lib.hid hs
        clear HK hs f2
        cases s with
        | true =>
          have d2 : decide ((rows.length : Int) ≤ 210) = false := decide_eq_false (by omega)
          go_wp2
          go_ret
          exact ⟨smR_no, HF2.out⟩
        | false =>
          go_wp2
          go_ret
          exact ⟨smR_no, HF2.out⟩
      · clear hgo
        go_wp2_with fail
        refine HK.out.mono ?_
        rintro e w2 ⟨s, rfl, hs, f2⟩
        have HF2 := Lib.hid (HF.out.trans f2)
        have HSs := Lib.hid hs
        clear HK hs f2
        cases s with
        | true =>
          by_cases h210 : rows.length ≤ 210
          · have d2 : decide ((rows.length : Int) ≤ 210) = true := decide_eq_true (by omega)
            go_wp2
            go_ret
            exact ⟨smR_yes ⟨(HSs.out (by first | rfl | trivial)).1, (HSs.out (by first | rfl | trivial)).2, h210⟩, HF2.out⟩
          · have d2 : decide ((rows.length : Int) ≤ 210) = false := decide_eq_false (by omega)
            go_wp2
            go_ret
            exact ⟨smR_no, HF2.out⟩
        | false =>
          go_wp2
          go_ret
          exact ⟨smR_no, HF2.out⟩
end Go.Proofs.Ytnbhgkolfapblaa


namespace Go.Proofs.Ytnbhgkolfapblaa
set_option linter.unusedVariables false
set_option linter.unusedSimpArgs false
set_option maxRecDepth 100000
open Go.RowKit

/-! ### Small -/
theorem lenP_is (h : Ph) (ks : List Pd) : lenP (.mk h ks) = (lenH h ks.length && ks.all lenP) := by rw [lenP, lenL_all]
theorem depL_is {ks : List Pd} {m : Nat} (h : ∀ x ∈ ks, depP x ≤ m) : depL ks ≤ m := by
  induction ks with
  | nil => rw [depL]; omega
  | cons x r ih => rw [depL]; have := h x (List.mem_cons_self ..); have := ih (fun y hy => h y (List.mem_cons_of_mem _ hy)); omega
/-- yes only if P -/
def SmEnd (P : Prop) (e : Ending) : Prop := ∃ b, e = .returned (.bool b) ∧ (b = true → P)
set_option maxHeartbeats 4000000 in
theorem rpsmall_any (p : Pd) : ∀ (t : Kv) (m : Nat) (mz : Int) (w : World), mz = m → m ≤ 1000 → Kd w t p.kids →
    Calls Try.prog 7 #[pdV p.hd t, .int .i64 mz] w fun e w' => SmEnd (lenP p = true ∧ depP p ≤ m) e ∧ Fr Non w w' := by
  induction p using Pd.ind with
  | h hd ks ih =>
    intro t m mz w hmz hm1 hk
    subst hmz
    have hn : t.n = ks.length := hk.len
    have F0 : Fr Non w (w.alloc (.cells (pdC hd t) 27)) := (Fr.refl Non w).alloc _
    have HB := Lib.hid (pd_new w _ hd t rfl)
    have HE : Hid (lenH hd ks.length = true → 1 ≤ m → (∀ j (h : j < ks.length), lenP ks[j] = true ∧ depP ks[j] ≤ m - 1) → lenP (.mk hd ks) = true ∧ depP (.mk hd ks) ≤ m) := Lib.hid (fun a b c => by
      refine ⟨?_, ?_⟩
      · rw [lenP_is, a, Bool.true_and, List.all_eq_true]
        intro x hx
        obtain ⟨j, hj, rfl⟩ := List.mem_iff_getElem.1 hx
        exact (c j hj).1
      · have : depL ks ≤ m - 1 := depL_is (fun x hx => by obtain ⟨j, hj, rfl⟩ := List.mem_iff_getElem.1 hx; exact (c j hj).2)
        rw [depP]; omega)
    have IH : Hid (1 ≤ m → ∀ k (h : k < ks.length) (W : World) (t' : Kv), Kd W t' ks[k].kids →
        Calls Try.prog 7 #[pdV ks[k].hd t', .int .i64 ((m : Int) - 1)] W fun e w' => SmEnd (lenP ks[k] = true ∧ depP ks[k] ≤ m - 1) e ∧ Fr Non W w') :=
      Lib.hid (fun h1 k h W t' a => ih _ (List.getElem_mem h) t' (m - 1) _ W (by omega) (by omega) a)
    have HK : Hid (Kd w t ks) := Lib.hid hk
    have HF := Lib.hid F0
    have HLH : Hid (∀ a b c d, a = hd.col.length → b = hd.pat.length → c = hd.val.txt.length → d = ks.length → d ≤ 20 → a ≤ 100 → b ≤ 100 → c ≤ 100 → lenH hd ks.length = true) := Lib.hid (fun a b c d e1 e2 e3 e4 h1 h2 h3 h4 => by unfold lenH; exact decide_eq_true ⟨by omega, by omega, by omega, by omega⟩)
    generalize lenH hd ks.length = lh at *
    generalize lenP (.mk hd ks) = r at *
    generalize depP (.mk hd ks) = dd at *
    clear ih hk F0
    obtain ⟨ho, hc, hm, ⟨vn, vi, vt⟩, hkd, hp⟩ := hd
    obtain ⟨A, n, c⟩ := t
    dsimp only at hn
    have HL := Lib.hid hn
    have s1 := slen hc
    have s2 := slen hp
    have s3 := slen vt
    dsimp only at HLH
    unfold pdV pdC kidV
    dsimp only [Pd.hd, Pd.kids]
    clear hn
    by_cases h1 : m < 1
    · clear HE IH HLH
      go_enter Try.func7, Try.ntmps7
      go_wp2
      go_ret
      exact ⟨⟨_, rfl, fun h => by cases h⟩, HF.out⟩
    · have IH := Lib.hid (IH.out (by omega))
      by_cases h2 : 20 < n
      · clear HE IH HLH
        go_enter Try.func7, Try.ntmps7
        go_wp2
        go_ret
        exact ⟨⟨_, rfl, fun h => by cases h⟩, HF.out⟩
      · by_cases h3 : 100 < hc.length
        · clear HE IH HLH
          go_enter Try.func7, Try.ntmps7
          go_wp2
          go_ret
          exact ⟨⟨_, rfl, fun h => by cases h⟩, HF.out⟩
        · by_cases h4 : 100 < hp.length
          · clear HE IH HLH
            go_enter Try.func7, Try.ntmps7
            go_wp2
            go_ret
            exact ⟨⟨_, rfl, fun h => by cases h⟩, HF.out⟩
          · by_cases h5 : 100 < vt.length
            · clear HE IH HLH
              go_enter Try.func7, Try.ntmps7
              go_wp2
              go_ret
              exact ⟨⟨_, rfl, fun h => by cases h⟩, HF.out⟩
            · have HE1 := Lib.hid (HE.out (HLH.out _ _ _ n rfl rfl rfl HL.out (by omega) (by omega) (by omega) (by omega)) (by omega))
              clear HE HLH
              go_enter Try.func7, Try.ntmps7
              go_wp2
              go_loopw [5] (fun i wr => ∃ k : Nat, k ≤ n ∧ i = .int .i64 k ∧ Hid (∀ j (h : j < ks.length), j < k → lenP ks[j] = true ∧ depP ks[j] ≤ m - 1) ∧ Hid (Fr Non (w.alloc (.cells (pdC ⟨ho, hc, hm, ⟨vn, vi, vt⟩, hkd, hp⟩ ⟨A, n, c⟩) 27)) wr)) (fun i _ => n - (intOf i).toNat)
              case atStart => exact ⟨0, Nat.zero_le _, rfl, Lib.hid (fun _ _ h => by omega), Lib.hid (Fr.refl _ _)⟩
              case round =>
                obtain ⟨k, hk, rfl, HT, FR⟩ := hrel
                have b8 := (HB.out.fr FR.out (fun e => e)).cell 8
                simp [pdC, kidV] at b8
                have HFw := Lib.hid (HF.out.trans FR.out)
                by_cases hlt : k < n
                · have hlt2 : k < ks.length := by have := HL.out; omega
                  obtain ⟨a, t, hA, hc2, hkk, _⟩ := HK.out.elN HFw.out k hlt2
                  have HC := Lib.hid (IH.out k hlt2 wr t (hkk.non HFw.out))
                  have HY : Hid (lenP ks[k] = true ∧ depP ks[k] ≤ m - 1 → ∀ j (h : j < ks.length), j < k + 1 → lenP ks[j] = true ∧ depP ks[j] ≤ m - 1) := Lib.hid (fun e j hj hjk => by
                    by_cases ee : j = k
                    · subst ee; exact e
                    · exact HT.out j hj (by omega))
                  dsimp only at hA
                  subst hA
                  obtain ⟨c0, c1, c2, c3, c4, c5, c6, c7, c8⟩ := hc2
                  clear hkk HT
                  generalize lenP ks[k] = y1 at *
                  generalize depP ks[k] = y2 at *
                  generalize ks[k].hd = x at *
                  obtain ⟨xo, xc, xm, ⟨xn, xi, xt⟩, xk, xp⟩ := x
                  obtain ⟨tA, tn, tc⟩ := t
                  unfold pdV pdC kidV at HC
                  dsimp only at HC c0 c1 c2 c3 c4 c5 c6 c7 c8
                  go_wp2_with fail
                  refine HC.out.mono ?_
                  rintro e w2 ⟨⟨b, rfl, hb⟩, f2⟩
                  have HB2 := Lib.hid hb
                  clear hb
                  cases b
                  · go_wp2
                    go_ret
                    exact ⟨⟨_, rfl, fun h => by cases h⟩, HFw.out.trans f2⟩
                  · have HT := Lib.hid (HY.out (HB2.out rfl))
                    clear HB2 HY
                    go_wp2
                    go_roundw
                    case rel => exact ⟨k + 1, by omega, by go_num, HT, Lib.hid (FR.out.trans f2)⟩
                    case measure => simp [intOf]; omega
                · have HE2 := Lib.hid (HE1.out (fun j hj => HT.out j hj (by have := HL.out; omega)))
                  clear HE1 HT
                  go_wp2
                  go_ret
                  exact ⟨⟨_, rfl, fun _ => HE2.out⟩, HFw.out⟩
end Go.Proofs.Ytnbhgkolfapblaa
