/-
  Joined: Layer 17: an argument opened: a predicate. · Layer 18: an argument opened: a query. · A row's frame that hands the world's shape on. · Layer 16: the variables that a row lists, opened; a row's frame that hands the world's shape on.
-/
import Derived.Laws.StructEq
import Derived.Laws.Rows
import Derived.Laws.ResultCell
import Derived.Lib.Zigzag
import Derived.Laws.Cover1
import Derived.Deep.QuietTactic
import Derived.BigQuiet
import Derived.Deep.RegionHeld3
import Derived.Deep.DrawnRows
import Derived.Deep.Cut
import Derived.StillTail
import Derived.Deep.RegionWith
import Derived.Test.YtipgaafgnefmdaaGreatDoorZ3
import Derived.Test.YtipgaafgnefmdaaGreatDoorZ1
import Derived.Test.YtipgaafgnefmdaaGreatDoorZ10
import Derived.OpenShut
import Derived.Stop.Joined
import Derived.ProofKit
import Derived.Test.YtipgaafgnefmdaaGreatDoorZ4
import Derived.Test.YtipgaafgnefmdaaGreatDoorRows
import Derived.LaidMore
import Derived.Lay
import Derived.Handed
import Derived.Shelf.Vars
import Derived.Test.YtipgaafgnefmdaaGreatDoorZ5
import Derived.Stop.LaidErr
import Derived.Lib.LaidTab

namespace Go.Proofs.YtipgaafgnefmdaaGreatDoor
set_option linter.unusedVariables false
set_option linter.unusedSimpArgs false
set_option maxRecDepth 100000
open Go.Joins Go.ChangeShapes Go.WideShapes Go.ChangeAt Go.RowKit Go.Deep

/-! ### A predicate opened -/
theorem cof_pd : Tryz.prog.cellsOf 28 = 9 := by kernel_rfl
theorem cof_pds : Tryz.prog.cellsOf 26 = 1 := by kernel_rfl
theorem pd_trod {H : Type} {enc : TypeId × Value → H} {W : World} : ∀ (N fuel : Nat) (cs : List Value) (x : DataW H × List MemPlace), SizeOf.sizeOf x.1 ≤ N →
    DataW.trod enc Tryz.prog W 0 (fun _ => true) true fuel 28 cs = some x → ∃ (h : Ph) (s : Kv) (ks : List Pd), cs = pdL (h, s) ∧ Kd W s ks ∧ I64b h.val.num := by
  intro N
  induction N with
  | zero =>
    intro fuel cs x hx h
    obtain ⟨xs, n, rfl, hxe, _⟩ := DataW.trod_struct Tryz.underlying28 h
    rw [hxe] at hx
    simp only [DataW.agg.sizeOf_spec] at hx
    omega
  | succ N ih =>
    intro fuel cs x hx h
    obtain ⟨xs, n, rfl, hxe, hlen, hxl, hall⟩ := DataW.trod_struct Tryz.underlying28 h
    rw [cof_pd] at hlen
    have hxl7 : xs.length = 7 := hxl
    rw [hxe] at hx
    simp only [DataW.agg.sizeOf_spec] at hx
    match cs, hlen with
    | [v0, v1, v2, v3, v4, v5, v6, v7, v8], _ =>
      have f0 : DataW.trod enc Tryz.prog W 0 (fun _ => true) true n 3 (List.take (Tryz.prog.cellsOf 3) (List.drop 0 [v0, v1, v2, v3, v4, v5, v6, v7, v8])) = xs[0]? := hall 0 _ rfl
      have f1 : DataW.trod enc Tryz.prog W 0 (fun _ => true) true n 9 (List.take (Tryz.prog.cellsOf 9) (List.drop 1 [v0, v1, v2, v3, v4, v5, v6, v7, v8])) = xs[1]? := hall 1 _ rfl
      have f2 : DataW.trod enc Tryz.prog W 0 (fun _ => true) true n 3 (List.take (Tryz.prog.cellsOf 3) (List.drop 2 [v0, v1, v2, v3, v4, v5, v6, v7, v8])) = xs[2]? := hall 2 _ rfl
      have f3 : DataW.trod enc Tryz.prog W 0 (fun _ => true) true n 25 (List.take (Tryz.prog.cellsOf 25) (List.drop 3 [v0, v1, v2, v3, v4, v5, v6, v7, v8])) = xs[3]? := hall 3 _ rfl
      have f4 : DataW.trod enc Tryz.prog W 0 (fun _ => true) true n 3 (List.take (Tryz.prog.cellsOf 3) (List.drop 6 [v0, v1, v2, v3, v4, v5, v6, v7, v8])) = xs[4]? := hall 4 _ rfl
      have f5 : DataW.trod enc Tryz.prog W 0 (fun _ => true) true n 9 (List.take (Tryz.prog.cellsOf 9) (List.drop 7 [v0, v1, v2, v3, v4, v5, v6, v7, v8])) = xs[5]? := hall 5 _ rfl
      have f6 : DataW.trod enc Tryz.prog W 0 (fun _ => true) true n 26 (List.take (Tryz.prog.cellsOf 26) (List.drop 8 [v0, v1, v2, v3, v4, v5, v6, v7, v8])) = xs[6]? := hall 6 _ rfl
      rw [List.getElem?_eq_getElem (by omega)] at f0 f1 f2 f3 f4 f5 f6
      simp only [cof_int, cof_str, cof_cl, cof_pds, List.drop_zero, List.drop_succ_cons, List.take_succ_cons, List.take_zero] at f0 f1 f2 f3 f4 f5 f6
      obtain ⟨i0, e0, _, w0⟩ := DataW.trod_int Tryz.underlying3 f0
      obtain rfl := (List.cons.inj e0).1
      obtain ⟨s1, e1, _, _⟩ := DataW.trod_string Tryz.underlying9 f1
      obtain rfl := (List.cons.inj e1).1
      obtain ⟨i2, e2, _, _⟩ := DataW.trod_int Tryz.underlying3 f2
      obtain rfl := (List.cons.inj e2).1
      obtain ⟨c, rfl, rfl, rfl, hc⟩ := cl_cells f3
      obtain ⟨i4, e4, _, _⟩ := DataW.trod_int Tryz.underlying3 f4
      obtain rfl := (List.cons.inj e4).1
      obtain ⟨s5, e5, _, _⟩ := DataW.trod_string Tryz.underlying9 f5
      obtain rfl := (List.cons.inj e5).1
      have hy : SizeOf.sizeOf xs[6].1 < SizeOf.sizeOf (xs.map fun x => x.fst) := List.sizeOf_lt_of_mem (List.mem_map.2 ⟨xs[6], List.getElem_mem _, rfl⟩)
      refine (?_ : ∃ (s : Kv) (ks : List Pd), v8 = kidV s ∧ Kd W s ks).elim fun s hs => ?_
      · rcases Go.Deep.open_slice Tryz.underlying26 f6 with ⟨hcs, _⟩ | ⟨a, len, cap, m, q, D, Pl, hcs, _, hl, hm, hmm, hye, hr⟩
        · obtain rfl := (List.cons.inj hcs).1
          exact ⟨noKv, [], rfl, Kd.nil_ W⟩
        · obtain rfl := (List.cons.inj hcs).1
          have hnm : len ≤ m := by rw [hmm]; simp; exact hl
          have hyx : xs[6].1 = DataW.slice ((List.range len).map D) ((List.range (m - len)).map fun j => D (len + j)) := (Prod.mk.inj (show (xs[6].1, xs[6].2) = _ from hye)).1
          rw [hyx] at hy
          simp only [DataW.slice.sizeOf_spec] at hy
          obtain ⟨l, hll, hls⟩ := choose_listG (fun i (z : (Ph × Kv) × List Pd) => AtN W (a.add (i * 9)) (pdL z.1) ∧ Kd W z.1.2 z.2 ∧ I64b z.1.1.val.num) len (by
            intro i hi
            obtain ⟨cs', h1, h2⟩ := hr i (by omega)
            rw [cof_pd] at h1
            obtain ⟨_, hlen', hcell⟩ := World.cells?_some h1
            have hd : SizeOf.sizeOf (D i) < SizeOf.sizeOf ((List.range len).map D) := List.sizeOf_lt_of_mem (List.mem_map.2 ⟨i, List.mem_range.2 hi, rfl⟩)
            obtain ⟨h', s', ks', rfl, hk', hb'⟩ := ih _ _ _ (show SizeOf.sizeOf (D i, Pl i).1 ≤ N by show SizeOf.sizeOf (D i) ≤ N; omega) h2
            refine ⟨((h', s'), ks'), fun j u hu => ?_, hk', hb'⟩
            rw [hcell j (by have := (List.getElem?_eq_some_iff.1 hu).1; simpa [pdL] using this)]
            exact hu)
          subst hll
          refine ⟨⟨some a, l.length, cap⟩, l.map fun z => .mk z.1.1 z.2, rfl, .mk _ (l.map Prod.fst) _ (by simp) ⟨some a, cap, by simp [kidV], by simpa using hl, (fun h => by cases h), fun b hb j hj => ?_⟩ (fun i h1 h2 => by simp [Pd.hd]) (fun i h2 => ?_) (fun i h1 h2 => ?_)⟩
          · cases hb
            have hj' : j < l.length := by simpa using hj
            simpa using (hls j hj').1
          · have hj' : i < l.length := by simpa using h2
            simpa [Pd.hd] using (hls i hj').2.2
          · have hj' : i < l.length := by simpa using h1
            simpa [Pd.kids] using (hls i hj').2.1
      · obtain ⟨ks, rfl, hk⟩ := hs
        exact ⟨⟨i0, s1.data.toList, i2, c, i4, s5.data.toList⟩, s, ks, by simp [pdL], hk, ⟨hc.lo, hc.hi⟩⟩
end Go.Proofs.YtipgaafgnefmdaaGreatDoor


namespace Go.Proofs.YtipgaafgnefmdaaGreatDoor
set_option linter.unusedVariables false
set_option linter.unusedSimpArgs false
set_option maxRecDepth 100000
open Go.Joins Go.ChangeShapes Go.WideShapes Go.ChangeAt Go.RowKit Go.Deep

/-! ### A query opened -/
theorem vs_trod {α : Type} {f : α → Value} {T E : TypeId} (hT : Tryz.prog.underlying T = some (.slice E)) (hc : Tryz.prog.cellsOf E = 1) {H : Type} {enc : TypeId × Value → H} {W : World} {fuel : Nat} {cs : List Value} {x : DataW H × List MemPlace}
    (each : ∀ n V y, DataW.trod enc Tryz.prog W 0 (fun _ => true) true n E [V] = some y → ∃ x, V = f x)
    (hf : DataW.trod enc Tryz.prog W 0 (fun _ => true) true fuel T cs = some x) : ∃ v l, cs = [v] ∧ Vs f W v l := by
  rcases Go.Deep.open_slice1 hT hc hf with ⟨hcs, _⟩ | ⟨a, len, cap, m, k, V, D, Pl, hcs, _, hl, hm, hmm, _, hr⟩
  · exact ⟨_, [], hcs, Vs.nil_ W⟩
  · have hnm : len ≤ m := by rw [hmm]; simp; exact hl
    obtain ⟨l, hll, hls⟩ := choose_listG (fun i x => W.cell? (a.add i) = some (f x)) len (by
      intro i hi
      obtain ⟨h1, h2⟩ := hr i (by omega)
      obtain ⟨x, hx⟩ := each _ _ _ h2
      exact ⟨x, by rw [h1, hx]⟩)
    subst hll
    refine ⟨_, l, hcs, ⟨some a, cap, rfl, hl, (fun h => by cases h), fun b hb j hj => ?_⟩⟩
    cases hb
    exact hls j hj
theorem ns_trod {α : Type} {f : α → List Value} {k : Nat} (hF : Fd f k) {T E : TypeId} (hT : Tryz.prog.underlying T = some (.slice E)) (hc : Tryz.prog.cellsOf E = k) {H : Type} {enc : TypeId × Value → H} {W : World} {fuel : Nat} {cs : List Value} {x : DataW H × List MemPlace}
    (each : ∀ n cs y, cs.length = k → DataW.trod enc Tryz.prog W 0 (fun _ => true) true n E cs = some y → ∃ x, cs = f x)
    (hf : DataW.trod enc Tryz.prog W 0 (fun _ => true) true fuel T cs = some x) : ∃ v l, cs = [v] ∧ Ns f k W v l := by
  rcases Go.Deep.open_slice hT hf with ⟨hcs, _⟩ | ⟨a, len, cap, m, q, D, Pl, hcs, _, hl, hm, hmm, _, hr⟩
  · exact ⟨_, [], hcs, Ns.nil_ W⟩
  · have hnm : len ≤ m := by rw [hmm]; simp; exact hl
    obtain ⟨l, hll, hls⟩ := choose_listG (fun i (x : α) => AtN W (a.add (i * k)) (f x)) len (by
      intro i hi
      obtain ⟨cs', h1, h2⟩ := hr i (by omega)
      rw [hc] at h1
      obtain ⟨_, hlen, hcell⟩ := World.cells?_some h1
      obtain ⟨x, rfl⟩ := each _ _ _ hlen h2
      refine ⟨x, fun j u hu => ?_⟩
      rw [hcell j (by rw [← hF.len x]; exact (List.getElem?_eq_some_iff.1 hu).1)]
      exact hu)
    subst hll
    refine ⟨_, l, hcs, ⟨some a, cap, rfl, hl, (fun h => by cases h), fun b hb j hj => ?_⟩⟩
    cases hb
    exact hls j hj
theorem cof_ag : Tryz.prog.cellsOf 69 = 2 := by kernel_rfl
theorem cof_qy : Tryz.prog.cellsOf 31 = 13 := by kernel_rfl
theorem cof_strs : Tryz.prog.cellsOf 23 = 1 := by kernel_rfl
theorem cof_ags : Tryz.prog.cellsOf 29 = 1 := by kernel_rfl
theorem ag_trod {H : Type} {enc : TypeId × Value → H} {W : World} {n : Nat} {cs : List Value} {y : DataW H × List MemPlace} (hl : cs.length = 2) (h : DataW.trod enc Tryz.prog W 0 (fun _ => true) true n 69 cs = some y) : ∃ x : Ag, cs = agL x := by
  obtain ⟨xs, n, rfl, hxe, hlen, hxl, hall⟩ := DataW.trod_struct Tryz.underlying69 h
  have hxl2 : xs.length = 2 := hxl
  match cs, hl with
  | [v0, v1], _ =>
    have f0 : DataW.trod enc Tryz.prog W 0 (fun _ => true) true n 3 (List.take (Tryz.prog.cellsOf 3) (List.drop 0 [v0, v1])) = xs[0]? := hall 0 _ rfl
    have f1 : DataW.trod enc Tryz.prog W 0 (fun _ => true) true n 9 (List.take (Tryz.prog.cellsOf 9) (List.drop 1 [v0, v1])) = xs[1]? := hall 1 _ rfl
    rw [List.getElem?_eq_getElem (by omega)] at f0 f1
    simp only [cof_int, cof_str, List.drop_zero, List.drop_succ_cons, List.take_succ_cons, List.take_zero] at f0 f1
    obtain ⟨i0, e0, _, w0⟩ := DataW.trod_int Tryz.underlying3 f0
    obtain rfl := (List.cons.inj e0).1
    obtain ⟨s1, e1, _, _⟩ := DataW.trod_string Tryz.underlying9 f1
    obtain rfl := (List.cons.inj e1).1
    exact ⟨⟨i0, s1.data.toList⟩, by simp [agL]⟩
set_option maxHeartbeats 1000000 in
theorem qy_in {H : Type} {enc : TypeId × Value → H} {W : World} {base : Nat} {v : Value} {d : DataW H} {p : List MemPlace} (hv : Value.okWide Tryz.prog W .any base 31 v)
    (h : DataW.Trod enc Tryz.prog W 0 (fun _ => true) true 31 v d p) : ∃ (q : Qy) (c : Value) (s : Kv) (g : Value), v = qyV q c s g ∧ QyS W q c s g := by
  obtain ⟨cs, rfl, hsz⟩ := okWide_struct Tryz.underlying31 hv
  obtain ⟨fuel, hf⟩ := h
  obtain ⟨xs, n, rfl, hxe, hlen, hxl, hall⟩ := DataW.trod_struct Tryz.underlying31 hf
  obtain ⟨cl⟩ := cs
  have hcl : cl.length = 13 := by
    have : (Array.mk cl).size = 13 := hsz.trans cof_qy
    simpa using this
  have hxl5 : xs.length = 5 := hxl
  clear hxe hlen hxl hv hf hsz
  match cl, hcl with
  | [v0, v1, v2, v3, v4, v5, v6, v7, v8, v9, v10, v11, v12], _ =>
    have f0 : DataW.trod enc Tryz.prog W 0 (fun _ => true) true n 9 (List.take (Tryz.prog.cellsOf 9) (List.drop 0 [v0, v1, v2, v3, v4, v5, v6, v7, v8, v9, v10, v11, v12])) = xs[0]? := hall 0 _ rfl
    have f1 : DataW.trod enc Tryz.prog W 0 (fun _ => true) true n 23 (List.take (Tryz.prog.cellsOf 23) (List.drop 1 [v0, v1, v2, v3, v4, v5, v6, v7, v8, v9, v10, v11, v12])) = xs[1]? := hall 1 _ rfl
    have f2 : DataW.trod enc Tryz.prog W 0 (fun _ => true) true n 28 (List.take (Tryz.prog.cellsOf 28) (List.drop 2 [v0, v1, v2, v3, v4, v5, v6, v7, v8, v9, v10, v11, v12])) = xs[2]? := hall 2 _ rfl
    have f3 : DataW.trod enc Tryz.prog W 0 (fun _ => true) true n 29 (List.take (Tryz.prog.cellsOf 29) (List.drop 11 [v0, v1, v2, v3, v4, v5, v6, v7, v8, v9, v10, v11, v12])) = xs[3]? := hall 3 _ rfl
    have f4 : DataW.trod enc Tryz.prog W 0 (fun _ => true) true n 9 (List.take (Tryz.prog.cellsOf 9) (List.drop 12 [v0, v1, v2, v3, v4, v5, v6, v7, v8, v9, v10, v11, v12])) = xs[4]? := hall 4 _ rfl
    rw [List.getElem?_eq_getElem (by omega)] at f0 f1 f2 f3 f4
    simp only [cof_str, cof_strs, cof_pd, cof_ags, List.drop_zero, List.drop_succ_cons, List.take_succ_cons, List.take_zero] at f0 f1 f2 f3 f4
    obtain ⟨s0, e0, _, _⟩ := DataW.trod_string Tryz.underlying9 f0
    obtain rfl := (List.cons.inj e0).1
    obtain ⟨c, l, e1, hc⟩ := vs_trod (f := sv) Tryz.underlying23 (by kernel_rfl) (fun n V y hy => by
      obtain ⟨b, e, _, hw⟩ := DataW.trod_string Tryz.underlying9 hy
      exact ⟨b.data.toList, by simpa [sv] using e⟩) f1
    obtain rfl := (List.cons.inj e1).1
    obtain ⟨hd, ks, ps, e2, hk, hb⟩ := pd_trod _ _ _ _ (Nat.le_refl _) f2
    obtain ⟨g, gl, e3, hg⟩ := ns_trod fd_ag Tryz.underlying29 cof_ag (fun n cs y hl hy => ag_trod hl hy) f3
    obtain rfl := (List.cons.inj e3).1
    obtain ⟨s4, e4, _, _⟩ := DataW.trod_string Tryz.underlying9 f4
    obtain rfl := (List.cons.inj e4).1
    unfold pdL at e2
    simp only [List.cons.injEq, and_true] at e2
    obtain ⟨rfl, rfl, rfl, rfl, rfl, rfl, rfl, rfl, rfl⟩ := e2
    exact ⟨⟨s0.data.toList, l, .mk hd ps, gl, s4.data.toList⟩, v1, ks, v11, by simp [qyV, qyC, Pd.hd], ⟨hc, hk, hg, hb⟩⟩
end Go.Proofs.YtipgaafgnefmdaaGreatDoor


namespace Go.Proofs.YtipgaafgnefmdaaGreatDoor
set_option linter.unusedVariables false
set_option linter.unusedSimpArgs false
set_option maxRecDepth 100000
open Go.ChangeShapes Go.WideShapes Go.ChangeAt Go.RowKit

/-- a call's contract, by what the row says and by what the world's shape says -/
theorem handed_shaped {H : Type} {enc : TypeId × Value → H} {a : Assume} {C : Checked} {os : Os} {f : FuncId} {fn : Func} {s : ChangeSpec} {conds : List PathCond} {apart fresh handsOn again : Bool} {X : World → Array Value → Prop}
    (hX : ∀ (w w' : World) (args : Array Value), w.heap = w'.heap → X w args → X w' args)
    (own : ownKnob C.prog.godebug = none) (started : os.Started) (noInit : C.prog.inits.idxOf? f = none) (hfn : C.prog.funcs[f]? = some fn)
    (witness : ∃ (w : World) (tape : Tape) (i : Input), w.os = os ∧ (w.forCall tape i).Shaped C.prog ∧ i.vars = [] ∧ Input.okWide C.prog (w.forCall tape i) .any w.heap.size f i ∧
      ((s.pre enc C.prog fn conds apart (w.forCall tape i).memory i.args ∧ X (w.forCall tape i).memory i.args) ∧ sizedMet enc C.prog fn (OpenSpec.ofChange s) apart (w.forCall tape i).memory i.args) ∧ a.holds C.prog (lone (Frame.enter C.prog f i.args .normal) [] (w.forCall tape i)))
    (contract : ∀ (W : World) (base : Nat) (args : Array Value) (ds gs : List (DataW H)) (before : List MemPlace),
      (∀ (j : Nat) t v, fn.params[j]? = some t → args[j]? = some v → Value.okWide C.prog W .any base t v) →
      DataW.Whole enc C.prog fn.params.toList s.vars apart W args.toList ds gs before → W.ShapedOpen C.prog → X W args →
      Calls C.prog f args W fun e W' => ∃ v, e = .returned v ∧ s.post enc C.prog fn apart fresh handsOn again W args v W') :
    ReturnsInHanded a C os f .any (fun w args => (s.pre enc C.prog fn conds apart w args ∧ X w args) ∧ sizedMet enc C.prog fn (OpenSpec.ofChange s) apart w args) (s.post enc C.prog fn apart fresh handsOn again) := by
  refine returnsInHanded_of_calls own started noInit witness ?_
  intro w tape i _ hsh _ hok hpre hholds
  obtain ⟨_, _, _, fn', hfn', _, _, _, _, hval⟩ := hok
  obtain rfl : fn' = fn := Option.some.inj (hfn'.symm.trans hfn)
  obtain ⟨⟨⟨ds, gs, before, hw, _⟩, hx⟩, _⟩ := hpre
  refine (contract (w.forCall tape i) w.heap.size i.args ds gs before hval (DataW.Whole.of_heap (w' := w.forCall tape i) (by rfl) hw) hsh (hX _ _ _ (by rfl) hx)).mono fun e W' ⟨v, he, hp⟩ => ?_
  subst he
  exact ChangeSpec.post_blind hp

end Go.Proofs.YtipgaafgnefmdaaGreatDoor


namespace Go.Proofs.YtipgaafgnefmdaaGreatDoor
set_option linter.unusedVariables false
set_option linter.unusedSimpArgs false
set_option maxRecDepth 100000
open Go.ChangeShapes Go.WideShapes Go.ChangeAt Go.RowKit

/-- the list of the rows of this layer -/
abbrev laid16 : List (String × DataW Unit) := [("math/bits.deBruijn32tab", Rows.laid_math_bits_deBruijn32tab), ("math/bits.deBruijn64tab", Rows.laid_math_bits_deBruijn64tab), ("internal/strconv.uint64pow10", Rows.laid_internal_strconv_uint64pow10), ("unicode/utf8.acceptRanges", Rows.laid_unicode_utf8_acceptRanges), ("strconv.ErrRange", Rows.laid_strconv_ErrRange), ("strconv.ErrSyntax", Rows.laid_strconv_ErrSyntax), ("firkin/word.marks", Rows.laid_firkin_word_marks), ("unicode/utf8.first", Rows.laid_unicode_utf8_first)]
theorem err_row (u : TypeId) (h : Tryz.prog.typeName? 3 u = some "*errors.errorString") : u = 170 :=
  typeName_ptr_named (nm := "errors.errorString") (by rw [show "*" ++ "errors.errorString" = "*errors.errorString" by decide]; kernel_rfl) (by kernel_rfl) (by decide) u (by rw [show "*" ++ "errors.errorString" = "*errors.errorString" by decide]; exact h)
theorem pow_data : (Rows.laid_internal_strconv_uint64pow10 : DataW Unit) = Lib.tabData .u64 Lib.pow10Tab := by kernel_rfl
def marksD : List (DataW Unit) := marksL.map fun l => .lit (.string l)
theorem marks_data : (Rows.laid_firkin_word_marks : DataW Unit) = .agg marksD := by kernel_rfl
theorem marks_in {W : World} {r : List (String × DataW Unit)} (h : laidMet Tryz.prog (("firkin/word.marks", Rows.laid_firkin_word_marks) :: r) W) : ∀ j (h : j < marksL.length), W.cell? ⟨0, j, none⟩ = some (.string ⟨marksL[j].toArray⟩) := by
  intro j hj
  rw [marks_data] at h
  obtain ⟨ps, ⟨g, t, cs, fuel, p, q, hg, ht, hv, hd, _, _⟩, _, _⟩ := h
  obtain rfl := Option.some.inj ((show Tryz.prog.globalNamed "firkin/word.marks" = some 0 by kernel_rfl).symm.trans hg)
  obtain rfl := Option.some.inj ((show (Tryz.prog.globals[0]?).map (·.type) = some 130 by kernel_rfl).symm.trans ht)
  obtain ⟨xs, m, _, ex, _, hl, hel⟩ := DataW.trod_array Tryz.underlying130 hd
  have c9 : Tryz.prog.cellsOf 9 = 1 := by kernel_rfl
  have hj10 : j < 10 := hj
  have hE := hel j hj10
  rw [c9, Nat.mul_one, List.getElem?_eq_getElem (by omega)] at hE
  obtain ⟨s, e1, e2, _⟩ := DataW.trod_string Tryz.underlying9 hE
  have e3 : (xs.map (·.1)) = marksD := (DataW.agg.inj (Prod.mk.inj ex).1).symm
  have e4 : (xs.map (·.1))[j]? = marksD[j]? := by rw [e3]
  unfold marksD at e4
  obtain ⟨m', hm⟩ : ∃ m', marksL[j]? = some m' := ⟨_, List.getElem?_eq_getElem hj⟩
  rw [List.getElem?_map, List.getElem?_map, List.getElem?_eq_getElem (by omega : j < xs.length), hm, e2] at e4
  have hs : s.data.toList = m' := by simpa using e4
  rw [World.var?_cell hg hv j, (List.getElem?_eq_some_iff.1 hm).2, ← hs]
  have : cs.toList[j]? = some (.string s) := by
    have h0 : ((cs.toList.drop j).take 1)[0]? = some (.string s) := by rw [e1]; rfl
    simpa using h0
  simpa using this
theorem lw_in {W : World} (h : laidMetH Tryz.prog laid16 W) (hs : W.ShapedOpen Tryz.prog) : Lw W := by
  rw [MakeChecks.laidMetH_plain _ _ _ (by kernel_rfl)] at h
  have h2 := h.tail.tail
  have h5 := h2.tail.tail
  have h7 := h5.tail.tail
  refine ⟨marks_in h7, cell_of_shapedOpen_int hs (by decide +kernel) (t := 3) (zero := #[.int .i64 0]) (by kernel_rfl) rfl (by kernel_rfl) (by kernel_rfl) Tryz.underlying3, ?_, ?_, ?_⟩
  · exact Lib.tabIs_of_head (n := 20) (show Tryz.prog.globalNamed "internal/strconv.uint64pow10" = some 3 by kernel_rfl)
      (show (Tryz.prog.globals[3]?).map (·.type) = some 175 by kernel_rfl) Tryz.underlying175 Tryz.underlying120 (by kernel_rfl) (by kernel_rfl) (by rw [pow_data] at h2; exact h2)
  · obtain ⟨a, s, hv, _⟩ := laid_sentinel h5.tail (show Tryz.prog.globalNamed "strconv.ErrSyntax" = some 1 by kernel_rfl) (show (Tryz.prog.globals[1]?).map (·.type) = some 126 by kernel_rfl) Tryz.underlying126 err_row Tryz.underlying170 Tryz.underlying172 rfl rfl Tryz.underlying9 (by kernel_rfl) (by kernel_rfl)
    exact ⟨_, _, hv⟩
  · obtain ⟨a, s, hv, _⟩ := laid_sentinel h5 (show Tryz.prog.globalNamed "strconv.ErrRange" = some 2 by kernel_rfl) (show (Tryz.prog.globals[2]?).map (·.type) = some 126 by kernel_rfl) Tryz.underlying126 err_row Tryz.underlying170 Tryz.underlying172 rfl rfl Tryz.underlying9 (by kernel_rfl) (by kernel_rfl)
    exact ⟨_, _, hv⟩

/-! ### A world in which they lie so -/
theorem laid16_shaped (os : Os) : (World.laidAll Tryz.prog os laid16).Shaped Tryz.prog := World.shaped_of_ZipB (by kernel_rfl) (by kernel_rfl)
theorem laid16_met (os : Os) (args : Array Value) : laidMetH Tryz.prog laid16 ((World.laidAll Tryz.prog os laid16).forCall (fun _ _ => 0) ⟨#[], args, []⟩).memory := by
  rw [MakeChecks.laidMetH_plain _ _ _ (by kernel_rfl)]
  exact laidMet_laidAll _ (by kernel_rfl) (by kernel_rfl)
end Go.Proofs.YtipgaafgnefmdaaGreatDoor
