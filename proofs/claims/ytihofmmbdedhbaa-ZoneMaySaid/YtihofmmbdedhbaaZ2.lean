/-
  Joined: Layer 11: the walk of the law on which zones there may be. · The frame of a law's proof, for any parameters: where the call returned true and turned nothing that was there, the row's words hold. · Arguments opened: a cell by value; a value of each type. · Arguments opened: a zone by value; a slice of cells.
-/
import Derived.Lib.Varint
import Derived.Lib.Zigzag
import Derived.Deep.Slices
import Derived.Test.YtihofmmbdedhbaaZ1
import Derived.Deep.RegionHeld3
import Derived.Test.YtihofmmbdedhbaaRows
import Derived.ProofKit
import Derived.OpenShut
import Derived.ShutString
import Derived.ChangeOld
import Derived.Below
import Derived.Lib.SmallJoins

namespace Go.Proofs.Ytihofmmbdedhbaa
set_option linter.unusedVariables false
set_option linter.unusedSimpArgs false
set_option maxRecDepth 100000
open Go.RowKit

set_option maxHeartbeats 4000000 in
theorem zoneMay_walk (ty : Int) (z : Zn) (c : Cl) (w : World) :
    Calls Try.prog 4 #[.int .i64 ty, znV z, clV c] w fun e w' => e = .returned (.bool true) ∧ Below w.heap.size w w' := by
  have H0 := znCl_new w w.heap.size z c rfl
  have F0 : Fr Non w _ := ((Fr.refl Non w).alloc (.cells (znC z) 28)).alloc (.cells (clC c) 26)
  have C1 := fun W => zmay_any ty z W
  have C2 := fun W => rzmay_any ty z W
  have C3 := fun W => zhas_any z c W
  have C4 := fun W => rzhas_any z c W
  have C5 := Lib.hid znlive_any
  have hs1 := slen z.low.txt
  have hs2 := slen z.high.txt
  have hs3 := slen c.txt
  unfold znV clV at *
  unfold znC clC at *
  generalize mayZ ty z = m at *
  generalize hasZ z c = q at *
  replace C1 := Lib.hid C1
  replace C2 := Lib.hid C2
  replace C3 := Lib.hid C3
  replace C4 := Lib.hid C4
  replace H0 := Lib.hid H0
  replace F0 := Lib.hid F0
  by_cases l0 : 100 < z.low.txt.length
  · have d0 : decide (100 < (z.low.txt.length : Int)) = true := decide_eq_true (by omega)
    clear l0
    clear C1 C2 C3 C4 H0
    go_enter Try.func4, Try.ntmps4
    go_wp2_with fail
    refine (C5.out _).mono ?_
    rintro e w1 ⟨rfl, f1⟩
    go_wp2
    go_ret
    exact ⟨rfl, (F0.out.trans f1).below⟩
  · have d0 : decide (100 < (z.low.txt.length : Int)) = false := decide_eq_false (by omega)
    clear l0
    by_cases l1 : 100 < z.high.txt.length
    · have d1 : decide (100 < (z.high.txt.length : Int)) = true := decide_eq_true (by omega)
      clear l1
      clear C1 C2 C3 C4 H0
      go_enter Try.func4, Try.ntmps4
      go_wp2_with fail
      refine (C5.out _).mono ?_
      rintro e w1 ⟨rfl, f1⟩
      go_wp2
      go_ret
      exact ⟨rfl, (F0.out.trans f1).below⟩
    · have d1 : decide (100 < (z.high.txt.length : Int)) = false := decide_eq_false (by omega)
      clear l1
      by_cases l2 : 100 < c.txt.length
      · have d2 : decide (100 < (c.txt.length : Int)) = true := decide_eq_true (by omega)
        clear l2
        clear C1 C2 C3 C4 H0
        go_enter Try.func4, Try.ntmps4
        go_wp2_with fail
        refine (C5.out _).mono ?_
        rintro e w1 ⟨rfl, f1⟩
        go_wp2
        go_ret
        exact ⟨rfl, (F0.out.trans f1).below⟩
      · have d2 : decide (100 < (c.txt.length : Int)) = false := decide_eq_false (by omega)
        clear l2
        have e1 : (m == m) = true := by simp
        have e2 : (q == q) = true := by simp
        go_enter Try.func4, Try.ntmps4
        go_wp2
        have hD := H0.out
        have hF := F0.out
        clear H0 F0 hs1 hs2 hs3 d0 d1 d2
        generalize (w.alloc (.cells #[.int .i64 z.rows, .int .i64 z.nulls, .bool z.low.null, .int .i64 z.low.num, .string ⟨z.low.txt.toArray⟩, .bool z.high.null, .int .i64 z.high.num, .string ⟨z.high.txt.toArray⟩] 28)).alloc (.cells #[.bool c.null, .int .i64 c.num, .string ⟨c.txt.toArray⟩] 26) = V at *
        generalize hg : w.heap.size = g at *
        clear hg
        replace hD : ZnCl V.drew g z c := ⟨hD.one, hD.two⟩
        replace hF := hF.drew
        have a0 : V.drew.cell? ⟨g, 0, none⟩ = some (.int .i64 z.rows) := hD.one.cell 0
        have a1 : V.drew.cell? ⟨g, 1, none⟩ = some (.int .i64 z.nulls) := hD.one.cell 1
        have a2 : V.drew.cell? ⟨g, 2, none⟩ = some (.bool z.low.null) := hD.one.cell 2
        have a3 : V.drew.cell? ⟨g, 3, none⟩ = some (.int .i64 z.low.num) := hD.one.cell 3
        have a4 : V.drew.cell? ⟨g, 4, none⟩ = some (.string ⟨z.low.txt.toArray⟩) := hD.one.cell 4
        have a5 : V.drew.cell? ⟨g, 5, none⟩ = some (.bool z.high.null) := hD.one.cell 5
        have a6 : V.drew.cell? ⟨g, 6, none⟩ = some (.int .i64 z.high.num) := hD.one.cell 6
        have a7 : V.drew.cell? ⟨g, 7, none⟩ = some (.string ⟨z.high.txt.toArray⟩) := hD.one.cell 7
        have a8 : V.drew.cell? ⟨g + 1, 0, none⟩ = some (.bool c.null) := hD.two.cell 0
        have a9 : V.drew.cell? ⟨g + 1, 1, none⟩ = some (.int .i64 c.num) := hD.two.cell 1
        have a10 : V.drew.cell? ⟨g + 1, 2, none⟩ = some (.string ⟨c.txt.toArray⟩) := hD.two.cell 2
        go_region_held3 (fun W => W.cell? ⟨g, 0, none⟩ = some (.int .i64 z.rows) ∧ W.cell? ⟨g, 1, none⟩ = some (.int .i64 z.nulls) ∧ W.cell? ⟨g, 2, none⟩ = some (.bool z.low.null) ∧ W.cell? ⟨g, 3, none⟩ = some (.int .i64 z.low.num) ∧ W.cell? ⟨g, 4, none⟩ = some (.string ⟨z.low.txt.toArray⟩) ∧ W.cell? ⟨g, 5, none⟩ = some (.bool z.high.null) ∧ W.cell? ⟨g, 6, none⟩ = some (.int .i64 z.high.num) ∧ W.cell? ⟨g, 7, none⟩ = some (.string ⟨z.high.txt.toArray⟩) ∧ W.cell? ⟨g + 1, 0, none⟩ = some (.bool c.null) ∧ W.cell? ⟨g + 1, 1, none⟩ = some (.int .i64 c.num) ∧ W.cell? ⟨g + 1, 2, none⟩ = some (.string ⟨c.txt.toArray⟩)) (first | exact ⟨a0, a1, a2, a3, a4, a5, a6, a7, a8, a9, a10⟩ | exact ⟨b0, b1, b2, b3, b4, b5, b6, b7, b8, b9, b10⟩ | exact ⟨c0, c1, c2, c3, c4, c5, c6, c7, c8, c9, c10⟩ | exact ⟨d0, d1, d2, d3, d4, d5, d6, d7, d8, d9, d10⟩ | exact ⟨e0, e1, e2, e3, e4, e5, e6, e7, e8, e9, e10⟩ | exact ⟨s0, s1, s2, s3, s4, s5, s6, s7, s8, s9, s10⟩ | fail) (first | (go_at_call 12; (with_reducible refine (C1.out _).mono ?_); rintro e w1 ⟨rfl, f1⟩; have h1 := hD.non f1; have F1 := hF.trans f1; have b0 : w1.cell? ⟨g, 0, none⟩ = some (.int .i64 z.rows) := h1.one.cell 0; have b1 : w1.cell? ⟨g, 1, none⟩ = some (.int .i64 z.nulls) := h1.one.cell 1; have b2 : w1.cell? ⟨g, 2, none⟩ = some (.bool z.low.null) := h1.one.cell 2; have b3 : w1.cell? ⟨g, 3, none⟩ = some (.int .i64 z.low.num) := h1.one.cell 3; have b4 : w1.cell? ⟨g, 4, none⟩ = some (.string ⟨z.low.txt.toArray⟩) := h1.one.cell 4; have b5 : w1.cell? ⟨g, 5, none⟩ = some (.bool z.high.null) := h1.one.cell 5; have b6 : w1.cell? ⟨g, 6, none⟩ = some (.int .i64 z.high.num) := h1.one.cell 6; have b7 : w1.cell? ⟨g, 7, none⟩ = some (.string ⟨z.high.txt.toArray⟩) := h1.one.cell 7; have b8 : w1.cell? ⟨g + 1, 0, none⟩ = some (.bool c.null) := h1.two.cell 0; have b9 : w1.cell? ⟨g + 1, 1, none⟩ = some (.int .i64 c.num) := h1.two.cell 1; have b10 : w1.cell? ⟨g + 1, 2, none⟩ = some (.string ⟨c.txt.toArray⟩) := h1.two.cell 2) | (go_at_call 14; (with_reducible refine (C2.out _).mono ?_); rintro e w2 ⟨rfl, f2⟩; have h2 := h1.non f2; have F2 := F1.trans f2; have c0 : w2.cell? ⟨g, 0, none⟩ = some (.int .i64 z.rows) := h2.one.cell 0; have c1 : w2.cell? ⟨g, 1, none⟩ = some (.int .i64 z.nulls) := h2.one.cell 1; have c2 : w2.cell? ⟨g, 2, none⟩ = some (.bool z.low.null) := h2.one.cell 2; have c3 : w2.cell? ⟨g, 3, none⟩ = some (.int .i64 z.low.num) := h2.one.cell 3; have c4 : w2.cell? ⟨g, 4, none⟩ = some (.string ⟨z.low.txt.toArray⟩) := h2.one.cell 4; have c5 : w2.cell? ⟨g, 5, none⟩ = some (.bool z.high.null) := h2.one.cell 5; have c6 : w2.cell? ⟨g, 6, none⟩ = some (.int .i64 z.high.num) := h2.one.cell 6; have c7 : w2.cell? ⟨g, 7, none⟩ = some (.string ⟨z.high.txt.toArray⟩) := h2.one.cell 7; have c8 : w2.cell? ⟨g + 1, 0, none⟩ = some (.bool c.null) := h2.two.cell 0; have c9 : w2.cell? ⟨g + 1, 1, none⟩ = some (.int .i64 c.num) := h2.two.cell 1; have c10 : w2.cell? ⟨g + 1, 2, none⟩ = some (.string ⟨c.txt.toArray⟩) := h2.two.cell 2) | (go_at_call 11; (with_reducible refine (C3.out _).mono ?_); rintro e w3 ⟨rfl, f3⟩; have h3 := h2.non f3; have F3 := F2.trans f3; have d0 : w3.cell? ⟨g, 0, none⟩ = some (.int .i64 z.rows) := h3.one.cell 0; have d1 : w3.cell? ⟨g, 1, none⟩ = some (.int .i64 z.nulls) := h3.one.cell 1; have d2 : w3.cell? ⟨g, 2, none⟩ = some (.bool z.low.null) := h3.one.cell 2; have d3 : w3.cell? ⟨g, 3, none⟩ = some (.int .i64 z.low.num) := h3.one.cell 3; have d4 : w3.cell? ⟨g, 4, none⟩ = some (.string ⟨z.low.txt.toArray⟩) := h3.one.cell 4; have d5 : w3.cell? ⟨g, 5, none⟩ = some (.bool z.high.null) := h3.one.cell 5; have d6 : w3.cell? ⟨g, 6, none⟩ = some (.int .i64 z.high.num) := h3.one.cell 6; have d7 : w3.cell? ⟨g, 7, none⟩ = some (.string ⟨z.high.txt.toArray⟩) := h3.one.cell 7; have d8 : w3.cell? ⟨g + 1, 0, none⟩ = some (.bool c.null) := h3.two.cell 0; have d9 : w3.cell? ⟨g + 1, 1, none⟩ = some (.int .i64 c.num) := h3.two.cell 1; have d10 : w3.cell? ⟨g + 1, 2, none⟩ = some (.string ⟨c.txt.toArray⟩) := h3.two.cell 2) | (go_at_call 15; (with_reducible refine (C4.out _).mono ?_); rintro e w4 ⟨rfl, f4⟩; have h4 := h3.non f4; have F4 := F3.trans f4; have e0 : w4.cell? ⟨g, 0, none⟩ = some (.int .i64 z.rows) := h4.one.cell 0; have e1 : w4.cell? ⟨g, 1, none⟩ = some (.int .i64 z.nulls) := h4.one.cell 1; have e2 : w4.cell? ⟨g, 2, none⟩ = some (.bool z.low.null) := h4.one.cell 2; have e3 : w4.cell? ⟨g, 3, none⟩ = some (.int .i64 z.low.num) := h4.one.cell 3; have e4 : w4.cell? ⟨g, 4, none⟩ = some (.string ⟨z.low.txt.toArray⟩) := h4.one.cell 4; have e5 : w4.cell? ⟨g, 5, none⟩ = some (.bool z.high.null) := h4.one.cell 5; have e6 : w4.cell? ⟨g, 6, none⟩ = some (.int .i64 z.high.num) := h4.one.cell 6; have e7 : w4.cell? ⟨g, 7, none⟩ = some (.string ⟨z.high.txt.toArray⟩) := h4.one.cell 7; have e8 : w4.cell? ⟨g + 1, 0, none⟩ = some (.bool c.null) := h4.two.cell 0; have e9 : w4.cell? ⟨g + 1, 1, none⟩ = some (.int .i64 c.num) := h4.two.cell 1; have e10 : w4.cell? ⟨g + 1, 2, none⟩ = some (.string ⟨c.txt.toArray⟩) := h4.two.cell 2) | (go_at_call 7; (with_reducible refine (C5.out _).mono ?_); rintro e w5 ⟨rfl, f5⟩; have h5 := h4.non f5; have F5 := F4.trans f5; have s0 : w5.cell? ⟨g, 0, none⟩ = some (.int .i64 z.rows) := h5.one.cell 0; have s1 : w5.cell? ⟨g, 1, none⟩ = some (.int .i64 z.nulls) := h5.one.cell 1; have s2 : w5.cell? ⟨g, 2, none⟩ = some (.bool z.low.null) := h5.one.cell 2; have s3 : w5.cell? ⟨g, 3, none⟩ = some (.int .i64 z.low.num) := h5.one.cell 3; have s4 : w5.cell? ⟨g, 4, none⟩ = some (.string ⟨z.low.txt.toArray⟩) := h5.one.cell 4; have s5 : w5.cell? ⟨g, 5, none⟩ = some (.bool z.high.null) := h5.one.cell 5; have s6 : w5.cell? ⟨g, 6, none⟩ = some (.int .i64 z.high.num) := h5.one.cell 6; have s7 : w5.cell? ⟨g, 7, none⟩ = some (.string ⟨z.high.txt.toArray⟩) := h5.one.cell 7; have s8 : w5.cell? ⟨g + 1, 0, none⟩ = some (.bool c.null) := h5.two.cell 0; have s9 : w5.cell? ⟨g + 1, 1, none⟩ = some (.int .i64 c.num) := h5.two.cell 1; have s10 : w5.cell? ⟨g + 1, 2, none⟩ = some (.string ⟨c.txt.toArray⟩) := h5.two.cell 2))
        clear a0 a1 a2 a3 a4 a5 a6 a7 a8 a9 a10 b0 b1 b2 b3 b4 b5 b6 b7 b8 b9 b10 c0 c1 c2 c3 c4 c5 c6 c7 c8 c9 c10 d0 d1 d2 d3 d4 d5 d6 d7 d8 d9 d10 e0 e1 e2 e3 e4 e5 e6 e7 e8 e9 e10 s0 s1 s2 s3 s4 s5 s6 s7 s8 s9 s10
        have FE := Lib.hid F5
        go_wp2
        go_ret
        exact ⟨rfl, FE.out.below⟩
end Go.Proofs.Ytihofmmbdedhbaa


namespace Go.Proofs.Ytihofmmbdedhbaa
set_option linter.unusedVariables false
set_option linter.unusedSimpArgs false
set_option maxRecDepth 100000
open Go.ChangeShapes Go.WideShapes Go.ChangeAt Go.RowKit

theorem frame_own : ownKnob Try.prog.godebug = none := by kernel_rfl
theorem frame_laidOut : laidOutB Try.prog = true := by kernel_rfl

/-- every argument reads as it did -/
theorem trodAll_below {H : Type} {enc : TypeId × Value → H} {W W' : World} (hb : Below W.heap.size W W') :
    ∀ (ts : List TypeId) (vs : List Value) (ds : List (DataW H)) (ps : List MemPlace), (∀ t ∈ ts, Try.prog.readableRec t = true ∧ t < Try.prog.types.size) →
      DataW.TrodAll enc Try.prog W 0 (fun _ => true) true ts vs ds ps → DataW.TrodAll enc Try.prog W' 0 (fun b => decide (b < W.heap.size)) true ts vs ds ps := by
  intro ts
  induction ts with
  | nil => intro vs ds ps _ h; cases vs <;> cases ds <;> simp_all [DataW.TrodAll]
  | cons t ts ih =>
    intro vs ds ps hr h
    cases vs with
    | nil => cases ds <;> simp_all [DataW.TrodAll]
    | cons v vs =>
      cases ds with
      | nil => simp_all [DataW.TrodAll]
      | cons d ds =>
        obtain ⟨p, q, h1, h2, rfl⟩ := h
        have hlt : ∀ x ∈ p, x.block < W.heap.size := by obtain ⟨m, hm⟩ := h1; exact DataW.trod_lt m _ _ _ hm
        have ht := hr t (List.mem_cons_self ..)
        exact ⟨p, q, Below.trod frame_laidOut ht.1 ht.2 h1 hb hlt, ih vs ds q (fun u hu => hr u (List.mem_cons_of_mem _ hu)) h2, rfl⟩

noncomputable def typesOk (ts : List TypeId) : Bool := ts.all fun t => Try.prog.readableRec t && decide (t < Try.prog.types.size)
theorem types_ok (ts : List TypeId) (h : typesOk ts = true) : ∀ t ∈ ts, Try.prog.readableRec t = true ∧ t < Try.prog.types.size := by
  intro t ht
  have := List.all_eq_true.1 h t ht
  simpa using this

theorem wf_i64_bd {n : Int} (h : (Lit.int .i64 n).wf = true) : -9223372036854775808 ≤ n ∧ n ≤ 9223372036854775807 := by
  simpa [Lit.wf, IntKind.min, IntKind.max, IntKind.signed, IntKind.bits] using h
end Go.Proofs.Ytihofmmbdedhbaa


namespace Go.Proofs.Ytihofmmbdedhbaa
set_option linter.unusedVariables false
set_option linter.unusedSimpArgs false
set_option maxRecDepth 100000
open Go.Joins Go.ChangeShapes Go.WideShapes Go.ChangeAt Go.RowKit Go.Deep

/-- a cell within its fields' ranges -/
structure ClWf (c : Cl) : Prop where
  lo : -9223372036854775808 ≤ c.num
  hi : c.num ≤ 9223372036854775807
  len : c.txt.length ≤ 9223372036854775807
theorem cl_in {H : Type} {enc : TypeId × Value → H} {W : World} {base : Nat} {v : Value} {d : DataW H} {p : List MemPlace} (hv : Value.okWide Try.prog W .any base 26 v)
    (h : DataW.Trod enc Try.prog W 0 (fun _ => true) true 26 v d p) : ∃ c, v = clV c ∧ ClWf c := by
  obtain ⟨v0, v1, v2, y0, y1, y2, n, rfl, _, _, h0, h1, h2⟩ := open_agg3 Try.underlying26 (by kernel_rfl) (by kernel_rfl) hv h
  obtain ⟨b, e0, _⟩ := DataW.trod_bool Try.underlying4 h0
  obtain rfl := (List.cons.inj e0).1
  obtain ⟨i, e1, _, hi⟩ := DataW.trod_int Try.underlying2 h1
  obtain rfl := (List.cons.inj e1).1
  obtain ⟨s, e2, _, hs⟩ := DataW.trod_string Try.underlying9 h2
  obtain rfl := (List.cons.inj e2).1
  have hb := wf_i64_bd hi
  exact ⟨⟨b, i, s.data.toList⟩, by simp [clV, clC], ⟨hb.1, hb.2, by simpa [maxLen] using hs⟩⟩
end Go.Proofs.Ytihofmmbdedhbaa


namespace Go.Proofs.Ytihofmmbdedhbaa
set_option linter.unusedVariables false
set_option linter.unusedSimpArgs false
set_option maxRecDepth 100000
open Go.Joins Go.ChangeShapes Go.WideShapes Go.ChangeAt Go.RowKit Go.Deep

theorem cof_bool : Try.prog.cellsOf 4 = 1 := by kernel_rfl
theorem cof_i64 : Try.prog.cellsOf 2 = 1 := by kernel_rfl
theorem cof_int : Try.prog.cellsOf 3 = 1 := by kernel_rfl
theorem cof_str : Try.prog.cellsOf 9 = 1 := by kernel_rfl
theorem cof_cl : Try.prog.cellsOf 26 = 3 := by kernel_rfl
theorem cof_zn : Try.prog.cellsOf 28 = 8 := by kernel_rfl
theorem array8 {α : Type} {cs : Array α} (h : cs.size = 8) : ∃ c0 c1 c2 c3 c4 c5 c6 c7, cs = #[c0, c1, c2, c3, c4, c5, c6, c7] := by
  obtain ⟨l⟩ := cs
  match l, h with
  | [c0, c1, c2, c3, c4, c5, c6, c7], _ => exact ⟨c0, c1, c2, c3, c4, c5, c6, c7, rfl⟩
/-- three cells that are read as a cell -/
theorem cl_cells {H : Type} {enc : TypeId × Value → H} {W : World} {n : Nat} {x : DataW H × List MemPlace} {c2 c3 c4 : Value}
    (h : DataW.trod enc Try.prog W 0 (fun _ => true) true n 26 [c2, c3, c4] = some x) : ∃ c : Cl, c2 = .bool c.null ∧ c3 = .int .i64 c.num ∧ c4 = .string ⟨c.txt.toArray⟩ ∧ ClWf c := by
  obtain ⟨y0, y1, y2, m, rfl, _, h0, h1, h2⟩ := trod_struct3 Try.underlying26 h
  simp only [cof_bool, cof_i64, cof_str, List.drop_zero, List.drop_succ_cons, List.take_succ_cons, List.take_zero] at h0 h1 h2
  obtain ⟨b, e0, _⟩ := DataW.trod_bool Try.underlying4 h0
  obtain rfl := (List.cons.inj e0).1
  obtain ⟨i, e1, _, hi⟩ := DataW.trod_int Try.underlying2 h1
  obtain rfl := (List.cons.inj e1).1
  obtain ⟨s, e2, _, hs⟩ := DataW.trod_string Try.underlying9 h2
  obtain rfl := (List.cons.inj e2).1
  have hb := wf_i64_bd hi
  exact ⟨⟨b, i, s.data.toList⟩, rfl, rfl, by simp, ⟨hb.1, hb.2, by simpa [maxLen] using hs⟩⟩
/-- a zone within its fields' ranges -/
structure ZnWf (z : Zn) : Prop where
  rows : -9223372036854775808 ≤ z.rows ∧ z.rows ≤ 9223372036854775807
  nulls : -9223372036854775808 ≤ z.nulls ∧ z.nulls ≤ 9223372036854775807
  low : ClWf z.low
  high : ClWf z.high
theorem zn_in {H : Type} {enc : TypeId × Value → H} {W : World} {base : Nat} {v : Value} {d : DataW H} {p : List MemPlace} (hv : Value.okWide Try.prog W .any base 28 v)
    (h : DataW.Trod enc Try.prog W 0 (fun _ => true) true 28 v d p) : ∃ z, v = znV z ∧ ZnWf z := by
  obtain ⟨cs, rfl, hsz⟩ := okWide_struct Try.underlying28 hv
  obtain ⟨c0, c1, c2, c3, c4, c5, c6, c7, rfl⟩ := array8 (hsz.trans cof_zn)
  obtain ⟨fuel, hf⟩ := h
  obtain ⟨y0, y1, y2, y3, n, _, _, h0, h1, h2, h3⟩ := trod_struct4 Try.underlying28 hf
  simp only [Value.cells, cof_int, cof_cl, List.drop_zero, List.drop_succ_cons, List.take_succ_cons, List.take_zero] at h0 h1 h2 h3
  obtain ⟨i0, e0, _, w0⟩ := DataW.trod_int Try.underlying3 h0
  obtain rfl := (List.cons.inj e0).1
  obtain ⟨i1, e1, _, w1⟩ := DataW.trod_int Try.underlying3 h1
  obtain rfl := (List.cons.inj e1).1
  obtain ⟨lo, rfl, rfl, rfl, k1⟩ := cl_cells h2
  obtain ⟨hi, rfl, rfl, rfl, k2⟩ := cl_cells h3
  have q0 := wf_i64_bd w0
  have q1 := wf_i64_bd w1
  exact ⟨⟨i0, i1, lo, hi⟩, rfl, ⟨q0.1, q0.2⟩, ⟨q1.1, q1.2⟩, k1, k2⟩

end Go.Proofs.Ytihofmmbdedhbaa
