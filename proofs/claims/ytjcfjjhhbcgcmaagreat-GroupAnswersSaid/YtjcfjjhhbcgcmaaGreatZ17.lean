/-
  Joined: OpenQy, OpenR
-/
import Derived.Lib.Zigzag
import Derived.Deep.QuietTactic
import Derived.BigQuiet
import Derived.Deep.RegionHeld3
import Derived.Deep.DrawnRows
import Derived.Shelf.Strings.Replace
import Derived.Shelf.Strconv.Itoa4
import Derived.Shelf.Strings.OnBuilder
import Derived.Test.YtjcfjjhhbcgcmaaGreatProg
import Derived.Lib.SmallJoins
import Derived.Lib.AppendIntMem
import Derived.Laws.StructEq
import Derived.Laws.Rows
import Derived.Laws.ResultCell
import Derived.Deep.RegionWith
import Derived.Test.YtjcfjjhhbcgcmaaGreatZ16
import Derived.Test.YtjcfjjhhbcgcmaaGreatZ4
import Derived.Test.YtjcfjjhhbcgcmaaGreatZ1
set_option linter.unusedVariables false
set_option linter.unusedSimpArgs false
set_option maxRecDepth 100000
namespace Go.Proofs.YtjcfjjhhbcgcmaaGreat
open Go.Joins Go.ChangeShapes Go.WideShapes Go.ChangeAt Go.RowKit Go.Deep
theorem vs_trod {α : Type} {f : α → Value} {T E : TypeId} (hT : Tryz.prog.underlying T = some (.slice E)) (hc : Tryz.prog.cellsOf E = 1) {H : Type} {enc : TypeId × Value → H} {W : World} {fuel : Nat} {cs : List Value} {x : DataW H × List MemPlace}
    (each : ∀ n V y, DataW.trod enc Tryz.prog W 0 (fun _ => true) true n E [V] = some y → ∃ x, V = f x)
    (hf : DataW.trod enc Tryz.prog W 0 (fun _ => true) true fuel T cs = some x) : ∃ v l, cs = [v] ∧ Vs f W v l := by
  rcases Go.Deep.open_slice1 hT hc hf with ⟨hcs, _⟩ | ⟨a, len, cap, m, k, V, D, Pl, hcs, _, hl, hm, hmm, _, hr⟩
  · exact ⟨_, [], hcs, Vs.nil_ W⟩
  · have hnm : len ≤ m := by rw [hmm]; simp; exact hl
    obtain ⟨l, hll, hls⟩ := choose_listG (fun i x => W.cell? (a.add i) = some (f x)) len (by
      intro i hi
      obtain ⟨h1, h2⟩ := hr i (by omega)
      obtain ⟨x, hx⟩ := each _ _ _ h2
      exact ⟨x, by rw [h1, hx]⟩)
    subst hll
    refine ⟨_, l, hcs, ⟨some a, cap, rfl, hl, (fun h => by cases h), fun b hb j hj => ?_⟩⟩
    cases hb
    exact hls j hj
theorem ns_trod {α : Type} {f : α → List Value} {k : Nat} (hF : Fd f k) {T E : TypeId} (hT : Tryz.prog.underlying T = some (.slice E)) (hc : Tryz.prog.cellsOf E = k) {H : Type} {enc : TypeId × Value → H} {W : World} {fuel : Nat} {cs : List Value} {x : DataW H × List MemPlace}
    (each : ∀ n cs y, cs.length = k → DataW.trod enc Tryz.prog W 0 (fun _ => true) true n E cs = some y → ∃ x, cs = f x)
    (hf : DataW.trod enc Tryz.prog W 0 (fun _ => true) true fuel T cs = some x) : ∃ v l, cs = [v] ∧ Ns f k W v l := by
  rcases Go.Deep.open_slice hT hf with ⟨hcs, _⟩ | ⟨a, len, cap, m, q, D, Pl, hcs, _, hl, hm, hmm, _, hr⟩
  · exact ⟨_, [], hcs, Ns.nil_ W⟩
  · have hnm : len ≤ m := by rw [hmm]; simp; exact hl
    obtain ⟨l, hll, hls⟩ := choose_listG (fun i (x : α) => AtN W (a.add (i * k)) (f x)) len (by
      intro i hi
      obtain ⟨cs', h1, h2⟩ := hr i (by omega)
      rw [hc] at h1
      obtain ⟨_, hlen, hcell⟩ := World.cells?_some h1
      obtain ⟨x, rfl⟩ := each _ _ _ hlen h2
      refine ⟨x, fun j u hu => ?_⟩
      rw [hcell j (by rw [← hF.len x]; exact (List.getElem?_eq_some_iff.1 hu).1)]
      exact hu)
    subst hll
    refine ⟨_, l, hcs, ⟨some a, cap, rfl, hl, (fun h => by cases h), fun b hb j hj => ?_⟩⟩
    cases hb
    exact hls j hj
theorem cof_ag : Tryz.prog.cellsOf 50 = 2 := by kernel_rfl
theorem cof_qy : Tryz.prog.cellsOf 31 = 13 := by kernel_rfl
theorem cof_strs : Tryz.prog.cellsOf 23 = 1 := by kernel_rfl
theorem cof_ags : Tryz.prog.cellsOf 29 = 1 := by kernel_rfl
theorem ag_trod {H : Type} {enc : TypeId × Value → H} {W : World} {n : Nat} {cs : List Value} {y : DataW H × List MemPlace} (hl : cs.length = 2) (h : DataW.trod enc Tryz.prog W 0 (fun _ => true) true n 50 cs = some y) : ∃ x : Ag, cs = agL x := by
  obtain ⟨xs, n, rfl, hxe, hlen, hxl, hall⟩ := DataW.trod_struct Tryz.underlying50 h
  have hxl2 : xs.length = 2 := hxl
  match cs, hl with
  | [v0, v1], _ =>
    have f0 : DataW.trod enc Tryz.prog W 0 (fun _ => true) true n 3 (List.take (Tryz.prog.cellsOf 3) (List.drop 0 [v0, v1])) = xs[0]? := hall 0 _ rfl
    have f1 : DataW.trod enc Tryz.prog W 0 (fun _ => true) true n 9 (List.take (Tryz.prog.cellsOf 9) (List.drop 1 [v0, v1])) = xs[1]? := hall 1 _ rfl
    rw [List.getElem?_eq_getElem (by omega)] at f0 f1
    simp only [cof_int, cof_str, List.drop_zero, List.drop_succ_cons, List.take_succ_cons, List.take_zero] at f0 f1
    obtain ⟨i0, e0, _, w0⟩ := DataW.trod_int Tryz.underlying3 f0
    obtain rfl := (List.cons.inj e0).1
    obtain ⟨s1, e1, _, _⟩ := DataW.trod_string Tryz.underlying9 f1
    obtain rfl := (List.cons.inj e1).1
    exact ⟨⟨i0, s1.data.toList⟩, by simp [agL]⟩
set_option maxHeartbeats 1000000 in
theorem qy_in {H : Type} {enc : TypeId × Value → H} {W : World} {base : Nat} {v : Value} {d : DataW H} {p : List MemPlace} (hv : Value.okWide Tryz.prog W .any base 31 v)
    (h : DataW.Trod enc Tryz.prog W 0 (fun _ => true) true 31 v d p) : ∃ (q : Qy) (c : Value) (s : Kv) (g : Value), v = qyV q c s g ∧ QyS W q c s g := by
  obtain ⟨cs, rfl, hsz⟩ := okWide_struct Tryz.underlying31 hv
  obtain ⟨fuel, hf⟩ := h
  obtain ⟨xs, n, rfl, hxe, hlen, hxl, hall⟩ := DataW.trod_struct Tryz.underlying31 hf
  obtain ⟨cl⟩ := cs
  have hcl : cl.length = 13 := by
    have : (Array.mk cl).size = 13 := hsz.trans cof_qy
    simpa using this
  have hxl5 : xs.length = 5 := hxl
  clear hxe hlen hxl hv hf hsz
  match cl, hcl with
  | [v0, v1, v2, v3, v4, v5, v6, v7, v8, v9, v10, v11, v12], _ =>
    have f0 : DataW.trod enc Tryz.prog W 0 (fun _ => true) true n 9 (List.take (Tryz.prog.cellsOf 9) (List.drop 0 [v0, v1, v2, v3, v4, v5, v6, v7, v8, v9, v10, v11, v12])) = xs[0]? := hall 0 _ rfl
    have f1 : DataW.trod enc Tryz.prog W 0 (fun _ => true) true n 23 (List.take (Tryz.prog.cellsOf 23) (List.drop 1 [v0, v1, v2, v3, v4, v5, v6, v7, v8, v9, v10, v11, v12])) = xs[1]? := hall 1 _ rfl
    have f2 : DataW.trod enc Tryz.prog W 0 (fun _ => true) true n 28 (List.take (Tryz.prog.cellsOf 28) (List.drop 2 [v0, v1, v2, v3, v4, v5, v6, v7, v8, v9, v10, v11, v12])) = xs[2]? := hall 2 _ rfl
    have f3 : DataW.trod enc Tryz.prog W 0 (fun _ => true) true n 29 (List.take (Tryz.prog.cellsOf 29) (List.drop 11 [v0, v1, v2, v3, v4, v5, v6, v7, v8, v9, v10, v11, v12])) = xs[3]? := hall 3 _ rfl
    have f4 : DataW.trod enc Tryz.prog W 0 (fun _ => true) true n 9 (List.take (Tryz.prog.cellsOf 9) (List.drop 12 [v0, v1, v2, v3, v4, v5, v6, v7, v8, v9, v10, v11, v12])) = xs[4]? := hall 4 _ rfl
    rw [List.getElem?_eq_getElem (by omega)] at f0 f1 f2 f3 f4
    simp only [cof_str, cof_strs, cof_pd, cof_ags, List.drop_zero, List.drop_succ_cons, List.take_succ_cons, List.take_zero] at f0 f1 f2 f3 f4
    obtain ⟨s0, e0, _, _⟩ := DataW.trod_string Tryz.underlying9 f0
    obtain rfl := (List.cons.inj e0).1
    obtain ⟨c, l, e1, hc⟩ := vs_trod (f := sv) Tryz.underlying23 (by kernel_rfl) (fun n V y hy => by
      obtain ⟨b, e, _, hw⟩ := DataW.trod_string Tryz.underlying9 hy
      exact ⟨b.data.toList, by simpa [sv] using e⟩) f1
    obtain rfl := (List.cons.inj e1).1
    obtain ⟨hd, ks, ps, e2, hk, hb⟩ := pd_trod _ _ _ _ (Nat.le_refl _) f2
    obtain ⟨g, gl, e3, hg⟩ := ns_trod fd_ag Tryz.underlying29 cof_ag (fun n cs y hl hy => ag_trod hl hy) f3
    obtain rfl := (List.cons.inj e3).1
    obtain ⟨s4, e4, _, _⟩ := DataW.trod_string Tryz.underlying9 f4
    obtain rfl := (List.cons.inj e4).1
    unfold pdL at e2
    simp only [List.cons.injEq, and_true] at e2
    obtain ⟨rfl, rfl, rfl, rfl, rfl, rfl, rfl, rfl, rfl⟩ := e2
    exact ⟨⟨s0.data.toList, l, .mk hd ps, gl, s4.data.toList⟩, v1, ks, v11, by simp [qyV, qyC, Pd.hd], ⟨hc, hk, hg, hb⟩⟩
end Go.Proofs.YtjcfjjhhbcgcmaaGreat

namespace Go.Proofs.YtjcfjjhhbcgcmaaGreat
open Go.Joins Go.ChangeShapes Go.WideShapes Go.ChangeAt Go.RowKit Go.Deep
theorem cof_row : Tryz.prog.cellsOf 47 = 1 := by kernel_rfl
theorem bytes_cl : Tryz.prog.bytesOf 25 = 32 := by kernel_rfl
theorem weights_elem {H : Type} {P : Program} {t e : TypeId} (hu : P.underlying t = some (.slice e)) : ∀ {elems spare : List (DataW H)} {d : DataW H} {n : Nat}, d ∈ elems → n ∈ d.weights P e → n ∈ (DataW.slice elems spare).weights P t := by
  intro elems spare d n hd hn
  have all : ∀ {l : List (DataW H)}, d ∈ l → n ∈ DataW.weightsAll P e l := by
    intro l hl
    induction l with
    | nil => cases hl
    | cons x r ih =>
      simp only [DataW.weightsAll, List.mem_append]
      rcases List.mem_cons.1 hl with rfl | hl
      · exact .inl hn
      · exact .inr (ih hl)
  simp only [DataW.weights, hu, List.mem_cons, List.mem_append]
  exact .inr (.inl (all hd))
theorem cs_trod {H : Type} {enc : TypeId × Value → H} {W : World} {n : Nat} {x : DataW H × List MemPlace} {v : Value}
    (h : DataW.trod enc Tryz.prog W 0 (fun _ => true) true n 47 [v] = some x) : ∃ (s : Sl) (l : List Cl), v = slV s ∧ s.n = l.length ∧ Cs W (slV s) l ∧ l.length ≤ 9223372036854775807 ∧ (∀ c ∈ l, ClWf c) ∧ ((∀ n ∈ x.1.weights Tryz.prog 47, n ≤ reachBytes) → l.length ≤ 4398046511103) := by
  rcases Go.Deep.open_slice Tryz.underlying47 h with ⟨hcs, _⟩ | ⟨a, len, cap, m, k, D, Pl, hcs, _, hl, hm, hmm, hx, hr⟩
  · obtain rfl := (List.cons.inj hcs).1
    exact ⟨noSl, [], rfl, rfl, Cs.nil_ W, by simp, by simp, fun _ => by simp⟩
  · obtain rfl := (List.cons.inj hcs).1
    have hnm : len ≤ m := by rw [hmm]; simp; exact hl
    obtain ⟨l, hll, hls⟩ := choose_listG (fun i (x : Cl) => At3 W (a.add (i * 3)) x ∧ ClWf x) len (by
      intro i hi
      obtain ⟨cs', h1, h2⟩ := hr i (by omega)
      rw [cof_cl] at h1
      obtain ⟨_, hlen, hcell⟩ := World.cells?_some h1
      match cs', hlen with
      | [v0, v1, v2], _ =>
        obtain ⟨c, rfl, rfl, rfl, hw⟩ := cl_cells h2
        have e0 := hcell 0 (by omega)
        have e1 := hcell 1 (by omega)
        have e2 := hcell 2 (by omega)
        exact ⟨c, ⟨by simpa [add_add] using e0, by simpa using e1, by simpa using e2⟩, hw⟩)
    subst hll
    refine ⟨⟨some a, l.length, cap⟩, l, rfl, rfl, ⟨some a, cap, rfl, hl, (fun h => by cases h), fun b hb j hj => ?_⟩, by unfold maxLen at hm; omega, fun x hx => ?_, fun hz => ?_⟩
    · cases hb
      exact (hls j hj).1
    · obtain ⟨j, hj, rfl⟩ := List.mem_iff_getElem.1 hx
      exact (hls j hj).2
    · have := hz ((((List.range l.length).map D).length + ((List.range (m - l.length)).map fun j => D (l.length + j)).length) * Tryz.prog.bytesOf 25) (by rw [hx]; simp [DataW.weights, Tryz.underlying47])
      rw [bytes_cl] at this
      simp only [List.length_map, List.length_range, reachBytes] at this
      omega
theorem rs_inS {H : Type} {enc : TypeId × Value → H} {W : World} {base : Nat} {v : Value} {d : DataW H} {p : List MemPlace} (hv : Value.okWide Tryz.prog W .any base 32 v)
    (h : DataW.Trod enc Tryz.prog W 0 (fun _ => true) true 32 v d p) : ∃ rs, Rs W v rs ∧ rs.length ≤ 9223372036854775807 ∧ (∀ r ∈ rs, r.length ≤ 9223372036854775807 ∧ ∀ c ∈ r, ClWf c) ∧ (∀ k, v.ownBlock = some k → k < W.heap.size) ∧ ((∀ n ∈ d.weights Tryz.prog 32, n ≤ reachBytes) → ∀ r ∈ rs, r.length ≤ 4398046511103) := by
  have hT := Tryz.underlying32
  have hlt : ∀ k, v.ownBlock = some k → k < W.heap.size := by
    rcases slice_in hT hv with rfl | ⟨b, o, n, c, rfl, _, hb⟩
    · intro k hk; cases hk
    · intro k hk
      obtain rfl : b = k := by simpa [Value.ownBlock] using hk
      exact hb
  obtain ⟨A, n, c, rfl⟩ := okWide_slice hT hv
  obtain ⟨fuel, hf⟩ := h
  rcases Go.Deep.open_slice hT hf with ⟨hcs, _⟩ | ⟨a, len, cap, m, k, D, Pl, hcs, _, hl, hm, hmm, hx, hr⟩
  · simp [Value.cells] at hcs
    obtain ⟨rfl, rfl, rfl⟩ := hcs
    exact ⟨[], Rs.nil_ W, by simp, by simp, hlt, fun _ => by simp⟩
  · simp [Value.cells] at hcs
    obtain ⟨rfl, rfl, rfl⟩ := hcs
    have hnm : n ≤ m := by rw [hmm]; simp; exact hl
    obtain ⟨l, hll, hls⟩ := choose_listG (fun i (x : Sl × List Cl) => W.cell? (a.add i) = some (slV x.1) ∧ Cs W (slV x.1) x.2 ∧ x.2.length ≤ 9223372036854775807 ∧ (∀ c ∈ x.2, ClWf c) ∧ ((∀ n ∈ d.weights Tryz.prog 32, n ≤ reachBytes) → x.2.length ≤ 4398046511103)) n (by
      intro i hi
      obtain ⟨cs', h1, h2⟩ := hr i (by omega)
      rw [cof_row] at h1
      obtain ⟨_, hlen, hcell⟩ := World.cells?_some h1
      match cs', hlen with
      | [v0], _ =>
        obtain ⟨s, l, rfl, _, hc, h3, h4, h5⟩ := cs_trod h2
        have e0 := hcell 0 (by omega)
        exact ⟨(s, l), by simpa [add_add] using e0, hc, h3, h4, fun hz => h5 fun q hq => hz q (by rw [(Prod.mk.inj hx).1]; exact weights_elem Tryz.underlying32 (List.mem_map.2 ⟨i, List.mem_range.2 hi, rfl⟩) hq)⟩)
    subst hll
    refine ⟨l.map Prod.snd, ⟨l.map Prod.fst, by simp, ⟨some a, c, by simp, by simpa using hl, (fun h => by cases h), fun b hb j hj => ?_⟩, fun i a b => ?_⟩, by unfold maxLen at hm; simp; omega, fun x hx => ?_, hlt, fun hz x hx => ?_⟩
    · cases hb
      have hj' : j < l.length := by simpa using hj
      simpa using (hls j hj').1
    · have hj' : i < l.length := by simpa using a
      simpa using (hls i hj').2.1
    · obtain ⟨y, hy, rfl⟩ := List.mem_map.1 hx
      obtain ⟨j, hj, rfl⟩ := List.mem_iff_getElem.1 hy
      exact ⟨(hls j hj).2.2.1, (hls j hj).2.2.2.1⟩
    · obtain ⟨y, hy, rfl⟩ := List.mem_map.1 hx
      obtain ⟨j, hj, rfl⟩ := List.mem_iff_getElem.1 hy
      exact (hls j hj).2.2.2.2 hz
theorem rs_in {H : Type} {enc : TypeId × Value → H} {W : World} {base : Nat} {v : Value} {d : DataW H} {p : List MemPlace} (hv : Value.okWide Tryz.prog W .any base 32 v)
    (h : DataW.Trod enc Tryz.prog W 0 (fun _ => true) true 32 v d p) : ∃ rs, Rs W v rs ∧ rs.length ≤ 9223372036854775807 ∧ (∀ r ∈ rs, r.length ≤ 9223372036854775807 ∧ ∀ c ∈ r, ClWf c) ∧ ∀ k, v.ownBlock = some k → k < W.heap.size := by
  obtain ⟨rs, h1, h2, h3, h4, _⟩ := rs_inS hv h
  exact ⟨rs, h1, h2, h3, h4⟩
end Go.Proofs.YtjcfjjhhbcgcmaaGreat
