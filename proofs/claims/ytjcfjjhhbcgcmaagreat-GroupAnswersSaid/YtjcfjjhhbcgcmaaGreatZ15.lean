/-
  Joined: GrpU, MapG, KeyC, GrpM, ItC, ItC2, ShelfF, ItC3, GrpG, GrpS
-/
import Derived.Lib.Zigzag
import Derived.Deep.QuietTactic
import Derived.BigQuiet
import Derived.Deep.RegionHeld3
import Derived.Deep.DrawnRows
import Derived.Shelf.Strings.Replace
import Derived.Shelf.Strconv.Itoa4
import Derived.Shelf.Strings.OnBuilder
import Derived.Test.YtjcfjjhhbcgcmaaGreatProg
import Derived.Lib.SmallJoins
import Derived.Lib.AppendIntMem
import Derived.Laws.StructEq
import Derived.Laws.Rows
import Derived.Laws.ResultCell
import Derived.Deep.RegionWith
import Derived.Test.YtjcfjjhhbcgcmaaGreatZ14
import Derived.Test.YtjcfjjhhbcgcmaaGreatZ2
import Derived.Test.YtjcfjjhhbcgcmaaGreatZ3
import Derived.Test.YtjcfjjhhbcgcmaaGreatZ1
import Derived.Maps.OwnSet
import Derived.Maps.OwnOps
import Derived.Maps.Views
import Derived.Maps.Range
import Derived.WideKeyEntry
import Derived.DeepKeys4
import Derived.RangeFuncNested
import Derived.RangeFuncBound
import Derived.RangeFuncCalls
import Derived.RangeFuncLeaves
import Derived.RangeFuncBox
import Derived.Maps.RangeWalk
import Derived.Sort.MapsRangeIn
import Derived.Shelf.Abstract
import Derived.Shelf.RegionOpen
import Derived.Shelf.AbstractIn
import Derived.WalkKit
import Derived.OwnWalkIn
import Derived.TacticsInMore
import Derived.LoopNIn
import Derived.LoopIn
import Derived.Shelf.SlSortCmp.WholeK
import Derived.Test.YtjcfjjhhbcgcmaaGreatZ4
import Derived.Test.YtjcfjjhhbcgcmaaGreatZ13
set_option linter.unusedVariables false
set_option linter.unusedSimpArgs false
set_option maxRecDepth 100000
namespace Go.Proofs.YtjcfjjhhbcgcmaaGreat
open Go.RowKit
def plN (cols : List Co) (n : Tx) : Nat := (findC cols n).getD 0
theorem plN_lt {cols : List Co} (n : Tx) (h : 0 < cols.length) : plN cols n < cols.length := find_dlt n h
def agP (cols : List Co) (rows : List (List Cl)) (a : Ag) : Cl := valF a.op (foC (colC rows (plN cols a.col)))
set_option maxHeartbeats 8000000 in
theorem gvalues_any (v0 gv v2 : Value) (cols : List Co) (aggs : List Ag) (rows : List (List Cl)) (w : World) (h0 : Ks w v0 cols) (hg : Gs w gv aggs) (h2 : Rs w v2 rows) (hcl : cols.length ≤ 1000) (hal : aggs.length ≤ 1000) (hrl : rows.length ≤ 100000) (hc0 : 0 < cols.length) (hr : ∀ r ∈ rows, r.length = cols.length) :
    Calls Tryz.prog 42 #[v0, gv, v2] w fun e w' => ∃ u, e = .returned u ∧ Oc w' w.heap.size u (aggs.map (agP cols rows)) ∧ Fr Non w w' := by
  obtain ⟨Ag_, cg, rfl⟩ := hg.shape
  have HPL0 : Hid (∀ n W, Fr Non w W → Calls Tryz.prog 35 #[v0, .string ⟨n.toArray⟩] W fun e w' => e = .returned (.int .i64 (plN cols n : Int)) ∧ Fr Non W w') := Lib.hid (fun n W hf => gplace_any v0 cols n W (h0.non hf) (by omega))
  have HVA0 : Hid (∀ op n W, Fr Non w W → Calls Tryz.prog 68 #[.int .i64 op, v2, .int .i64 (plN cols n : Int)] W fun e w' => e = .returned (clV (valF op (foC (colC rows (plN cols n))))) ∧ Fr Non W w') := Lib.hid (fun op n W hf => gvalue_any op v2 rows (plN cols n) W (h2.non hf) hrl (fun r h => by rw [hr r h]; exact plN_lt n hc0))
  have HG := Lib.hid hg
  obtain ⟨A0, c0, rfl⟩ := h0.shape
  obtain ⟨A2, c2, rfl⟩ := h2.shape
  clear h0 hg h2 hr
  go_enter Tryz.func42, Tryz.ntmps42
  go_wp2
  go_loopw [7, 12] (fun x i wr => ∃ (k : Nat), k ≤ aggs.length ∧ i = .int .i64 k ∧ Hid (Oc wr w.heap.size x ((aggs.take k).map (agP cols rows))) ∧ Hid (Fr Non w wr)) (fun _ i _ => aggs.length - (intOf i).toNat)
  case atStart => exact ⟨0, Nat.zero_le _, rfl, Lib.hid (oc_nil _ _), Lib.hid (Fr.refl _ _)⟩
  case round =>
    obtain ⟨k, hk, rfl, HO, F0⟩ := hrel
    by_cases hlt : k < aggs.length
    · obtain ⟨ga, hga, -, g1, g2⟩ := (HG.out.non F0.out).gat k hlt
      subst hga
      have HM : Hid ((aggs.take (k + 1)).map (agP cols rows) = (aggs.take k).map (agP cols rows) ++ [agP cols rows aggs[k]]) := Lib.hid (by rw [List.take_succ_eq_append_getElem hlt, List.map_append, List.map_cons, List.map_nil])
      have HLl : Hid (((aggs.take k).map (agP cols rows)).length ≤ 100000) := Lib.hid (by rw [List.length_map, List.length_take]; omega)
      have HPl := Lib.hid (HPL0.out aggs[k].col)
      have HVa0 := Lib.hid (HVA0.out aggs[k].op aggs[k].col)
      have HE : Hid (agP cols rows aggs[k] = valF aggs[k].op (foC (colC rows (plN cols aggs[k].col)))) := Lib.hid rfl
      rw [← HE.out] at HVa0
      clear HE
      obtain ⟨D, hD⟩ : ∃ D, wr.heap.size = D := ⟨_, rfl⟩
      have HAB0 := ag_new wr D aggs[k] hD.symm
      generalize (aggs.take k).map (agP cols rows) = L at *
      generalize agP cols rows aggs[k] = y at *
      generalize plN cols aggs[k].col = pn at *
      generalize aggs[k] = ag at *
      obtain ⟨op, cn⟩ := ag
      obtain ⟨yn, yi, yt⟩ := y
      unfold clV clC at HVa0
      dsimp only at g1 g2 HPl HVa0 HAB0
      have HVa := HVa0
      clear HVa0
      obtain ⟨Ax, cx, hx⟩ := HO.out.shape
      subst hx
      obtain ⟨w1, hw1⟩ : ∃ W, W = wr.alloc (.cells #[.int .i64 op, .string ⟨cn.toArray⟩] 50) := ⟨_, rfl⟩
      rw [← hw1] at HAB0
      have HAB : Hid (Blk w1 D 50 #[.int .i64 op, .string ⟨cn.toArray⟩]) := Lib.hid HAB0
      have f1 : Fr Non wr w1 := by rw [hw1]; exact (Fr.refl Non wr).alloc _
      have HO1 := Lib.hid (HO.out.non f1)
      obtain ⟨s0, s1⟩ := agB_cells HAB0
      have F1r := Lib.hid f1
      have FA := Lib.hid (F0.out.trans f1)
      go_wp2
      rw [← hw1]
      clear hw1 f1 HAB0 g1 g2 hD
      have F0' := F0
      clear F0 F1r
      have F0 : Hid (Fr Non w w1) := FA
      have F1 : Hid (Fr Non w1 w1) := Lib.hid (Fr.refl _ _)
      replace HPl : Hid (∀ W, Fr Non w1 W → _) := Lib.hid (fun W hf => HPl.out W (F0.out.trans hf))
      replace HVa : Hid (∀ W, Fr Non w1 W → _) := Lib.hid (fun W hf => HVa.out W (F0.out.trans hf))
      obtain ⟨V, hV⟩ : ∃ V, V = w1.drew := ⟨_, rfl⟩
      refine wp_region_held_drew (S := (fun W' => W'.cell? ⟨D, 0, none⟩ = some (.int .i64 op) ∧ W'.cell? ⟨D, 1, none⟩ = some (.string ⟨cn.toArray⟩))) (by kernel_rfl) (by exact ⟨s0, s1⟩) (fun hHeld => ?_)
      rw [← hV]
      rw [← hV] at hHeld
      have FV : Fr Non w1 V := by rw [hV]; exact (Fr.refl Non w1).drew
      clear hV
      replace s0 := FV.at0 s0
      replace s1 := FV.at0 s1
      refine wpAnyH_take (i := 0) (oi := ⟨some 16, _, _, _, _, none⟩) (v := ?v1) rfl (by kernel_rfl) (by kernel_rfl) (by kernel_rfl) (fun _ _ _ h => h) (Or.inl ⟨by rfl, ?hy1⟩) (by assumption) ?rest1
      case hy1 => (intro wS hSw; (try dsimp only at hSw); go_simp; (try with_reducible rfl))
      (try simp only [Act.put, zA, zB, zC])
      refine wpAnyH_take (i := 1) (oi := ⟨some 17, _, _, _, _, none⟩) (v := ?v2) rfl (by kernel_rfl) (by kernel_rfl) (by kernel_rfl) (fun _ _ _ h => h) (Or.inl ⟨by rfl, ?hy2⟩) (by assumption) ?rest2
      case hy2 => (intro wS hSw; (try dsimp only at hSw); go_simp; (try with_reducible rfl))
      (try simp only [Act.put, zA, zB, zC])
      refine wpAnyH_take (i := 2) (oi := ⟨some 18, _, _, _, _, none⟩) (v := ?v3) rfl (by kernel_rfl) (by kernel_rfl) (by kernel_rfl) (fun _ _ _ h => h) (Or.inl ⟨by rfl, ?hy3⟩) (by assumption) ?rest3
      case hy3 => (intro wS hSw; (try dsimp only at hSw); go_simp; (try with_reducible rfl))
      (try simp only [Act.put, zA, zB, zC])
      refine wpAnyH_take (i := 3) (oi := ⟨some 19, _, _, _, _, none⟩) (v := ?v4) rfl (by kernel_rfl) (by kernel_rfl) (by kernel_rfl) (fun _ _ _ h => h) (Or.inl ⟨by rfl, ?hy4⟩) (by assumption) ?rest4
      case hy4 => (intro wS hSw; (try dsimp only at hSw); go_simp; (try with_reducible rfl))
      (try simp only [Act.put, zA, zB, zC])
      refine wpAnyH_take (i := 4) (oi := ⟨some 20, _, _, _, _, none⟩) (v := ?v5) rfl (by kernel_rfl) (by kernel_rfl) (by kernel_rfl) (fun _ _ _ h => h) (Or.inl ⟨by rfl, ?hy5⟩) (by assumption) ?rest5
      case hy5 => (intro wS hSw; (try dsimp only at hSw); go_simp; (try with_reducible rfl))
      (try simp only [Act.put, zA, zB, zC])
      refine wpAnyH_take (i := 5) (oi := ⟨some 21, _, _, _, _, none⟩) (v := ?v6) rfl (by kernel_rfl) (by kernel_rfl) (by kernel_rfl) (fun _ _ _ h => h) (Or.inl ⟨by rfl, ?hy6⟩) (by assumption) ?rest6
      case hy6 => (intro wS hSw; (try dsimp only at hSw); go_simp; (try with_reducible rfl))
      (try simp only [Act.put, zA, zB, zC])
      refine wpAnyH_take (i := 6) (oi := ⟨some 22, _, _, _, _, none⟩) (v := ?v7) rfl (by kernel_rfl) (by kernel_rfl) (by kernel_rfl) (fun _ _ _ h => h) (Or.inl ⟨by rfl, ?hy7⟩) (by assumption) ?rest7
      case hy7 => (intro wS hSw; (try dsimp only at hSw); go_simp; (try with_reducible rfl))
      (try simp only [Act.put, zA, zB, zC])
      refine wpAnyH_ready (rs := [7]) (by kernel_rfl) (by simp) ?_
      refine AllReadyH.cons (o := ⟨some 23, _, _, _, _, none⟩) rfl (fun K hK => ?_) AllReadyH.nil
      go_simp
      go_at_call 35
      refine (HPl.out _ (F1.out.trans FV)).mono ?_
      rintro e w2 ⟨rfl, f2⟩
      go_wp2_with fail
      refine hK.out _ _ (by exact ⟨f2.at0 s0, f2.at0 s1⟩) (fun hHeld => ?_)
      clear hK K
      (try simp only [Act.put, zA, zB, zC])
      replace s0 := f2.at0 s0
      replace s1 := f2.at0 s1
      have F2 := FV.trans f2
      clear FV f2
      refine wpAnyH_ready (rs := [8]) (by kernel_rfl) (by simp) ?_
      refine AllReadyH.cons (o := ⟨some 24, _, _, _, _, none⟩) rfl (fun K hK => ?_) AllReadyH.nil
      go_simp
      go_at_call 68
      refine (HVa.out _ (F1.out.trans F2)).mono ?_
      rintro e w3 ⟨rfl, f3⟩
      go_wp2_with fail
      refine hK.out _ _ (by exact ⟨f3.at0 s0, f3.at0 s1⟩) (fun hHeld => ?_)
      clear hK K
      (try simp only [Act.put, zA, zB, zC])
      replace s0 := f3.at0 s0
      replace s1 := f3.at0 s1
      have F3 := F2.trans f3
      have HO3 := HO1.out.non F3
      clear F2 f3
      refine wpAnyH_ready (rs := [9]) (by kernel_rfl) (by simp) ?_
      refine AllReadyH.cons (o := ⟨some 25, _, _, _, _, none⟩) rfl (fun K hK => ?_) AllReadyH.nil
      obtain ⟨H, hH⟩ : ∃ H, w3.heap.size = H := ⟨_, rfl⟩
      obtain ⟨w5, hw5⟩ : ∃ W, W = w3.alloc (.cells #[.bool yn, .int .i64 yi, .string ⟨yt.toArray⟩] 25) := ⟨_, rfl⟩
      have HB1 : ClB w5 H ⟨yn, yi, yt⟩ := by rw [hw5, ← hH]; exact cl_new _ ⟨yn, yi, yt⟩
      have f5 : Fr Non w3 w5 := by rw [hw5]; exact (Fr.refl Non w3).alloc _
      have F5 : Fr Non w1 w5 := F3.trans f5
      have HO5 := HO3.non f5
      go_simp
      rw [← hw5]
      clear hw5
      refine hK.out _ _ (by exact ⟨f5.at0 s0, f5.at0 s1⟩) (fun hHeld => ?_)
      clear hK K
      (try simp only [Act.put, zA, zB, zC])
      replace s0 := f5.at0 s0
      replace s1 := f5.at0 s1
      clear HO3 F3 f5 hH
      refine wpAnyH_ready (rs := [10]) (by kernel_rfl) (by simp) ?_
      refine AllReadyH.cons (o := ⟨some 26, _, _, _, _, none⟩) rfl (fun K hK => ?_) AllReadyH.nil
      refine wp_appC (.tmp 16) (.tmp 25) rfl w.heap.size _ (.slice (some ⟨H, 0, none⟩) 1 1) L [⟨yn, yi, yt⟩] rfl HO5 rfl (cs_lit1 HB1) (by have := HLl.out; simp; omega) (F0.out.trans (F1.out.trans F5)).size ?_
      intro y6 w6 HO6 f6
      have hDne : ∀ k, Value.ownBlock (.slice Ax L.length cx) = some k → k ≠ D := oc_kind_ne HO5 (show w5.heap[D]? = some (.cells #[.int .i64 op, .string ⟨cn.toArray⟩] 50 (0, 0)) from HAB.out.fr F5 (fun e => e)) (by decide)
      have keep6 : ∀ {o : Nat} {u : Value}, w5.cell? ⟨D, o, none⟩ = some u → w6.cell? ⟨D, o, none⟩ = some u := fun {o u} e => (f6.cell (World.block_lt_of_cell? _ _ e) (fun e2 => hDne _ e2 rfl)).trans e
      have F6 := (F0.out.trans (F1.out.trans F5)).fresh f6 (fun z e => (HO5.lt z e).1)
      refine hK.out _ _ (by exact ⟨keep6 s0, keep6 s1⟩) (fun hHeld => ?_)
      clear hK K
      (try simp only [Act.put, zA, zB, zC])
      refine wpAnyH_take (i := 11) (oi := ⟨some 7, _, _, _, _, none⟩) (v := ?v8) rfl (by kernel_rfl) (by kernel_rfl) (by kernel_rfl) (fun _ _ _ h => h) (Or.inl ⟨by rfl, ?hy8⟩) (by assumption) ?rest8
      case hy8 => (intro wS hSw; (try dsimp only at hSw); go_simp; (try with_reducible rfl))
      (try simp only [Act.put, zA, zB, zC])
      refine wpAnyH_done (by kernel_rfl) ?_ _
      have F6h := Lib.hid F6
      have HO6h := Lib.hid HO6
      clear hHeld F6 HO6 HO5 F5 HB1 keep6 hDne s0 s1 f6
      obtain ⟨A6, c6, hv6⟩ := HO6h.out.shape
      go_wp2
      go_roundw
      case rel => exact ⟨k + 1, by omega, by go_num, by rw [HM.out]; exact HO6h, F6h⟩
      case measure => simp [intOf]; omega
    · have hke : k = aggs.length := by omega
      rw [hke, List.take_length] at HO
      go_wp2
      go_ret
      exact ⟨_, rfl, HO.out, F0.out⟩
end Go.Proofs.YtjcfjjhhbcgcmaaGreat

namespace Go.Proofs.YtjcfjjhhbcgcmaaGreat
open Go.RowKit Go.Maps
def rawR (v : Value) : Option (DataW Value × List MemPlace) := some (.held v, [])
theorem rawR_inv {v : Value} {d : DataW Value} {ps : List MemPlace} (h : rawR v = some (d, ps)) : d = .held v := by
  unfold rawR at h; simp at h; exact h.1.symm
section
variable {α : Type} {k : TypeId} {f : α → Value} {lit : α → Lit} {ok : α → Prop} {z : Value}
structure KeyG {α : Type} (k : TypeId) (f : α → Value) (lit : α → Lit) (ok : α → Prop) : Prop where
  law : Keyed Tryz.prog k
  of : ∀ x, ok x → keyOf Tryz.prog k (f x) = some (lit x)
  inj : ∀ x y, f x = f y → x = y
theorem KeyG.lits (h : KeyG k f lit ok) {x y : α} (hx : ok x) (hy : ok y) (e : lit x = lit y) : x = y :=
  h.inj _ _ (h.law.inj (h.of x hx) (by rw [e]; exact h.of y hy))
theorem KeyG.isLit (h : KeyG k f lit ok) {x : α} (hx : ok x) : WideAt.IsKeyLit (lit x) := h.law.key (h.of x hx)
def MapG (k : TypeId) (lit : α → Lit) (ok : α → Prop) (z : Value) (w : World) (b n : Nat) (ks : List α) (g : α → Value) : Prop :=
  ∃ D : DataW Value, w.ownsMap Tryz.prog k rawR b n D ∧ (∀ l, has D l = true ↔ ∃ x ∈ ks, l = lit x) ∧ (∀ x ∈ ks, ok x) ∧ ∀ x, ok x → D.atKey (lit x) (.held z) = .held (g x)
theorem MapG.lt {w : World} {b n : Nat} {ks : List α} {g : α → Value} (h : MapG k lit ok z w b n ks g) : b < w.heap.size := by
  obtain ⟨D, h1, _⟩ := h; exact h1.lt
theorem MapG.fr {S : Nat → Prop} {w w' : World} {b n : Nat} {ks : List α} {g : α → Value} (h : MapG k lit ok z w b n ks g) (hf : Fr S w w') (hn : ¬ S b) : MapG k lit ok z w' b n ks g := by
  obtain ⟨D, h1, h2⟩ := h
  have hlt := h1.lt
  obtain ⟨es, clock, hb, F, hs, hD⟩ := h1
  exact ⟨D, ⟨es, clock, (hf.block b hlt hn).trans hb, F, hs, hD⟩, h2⟩
theorem MapG.non {w w' : World} {b n : Nat} {ks : List α} {g : α → Value} (h : MapG k lit ok z w b n ks g) (hf : Fr Non w w') : MapG k lit ok z w' b n ks g := h.fr hf fun e => e
theorem MapG.congr {w : World} {b n : Nat} {ks ks' : List α} {g g' : α → Value} (h : MapG k lit ok z w b n ks g) (hk : ∀ x, x ∈ ks' ↔ x ∈ ks) (hg : ∀ x, ok x → g' x = g x) : MapG k lit ok z w b n ks' g' := by
  obtain ⟨D, h1, h2, h3, h4⟩ := h
  refine ⟨D, h1, fun l => ?_, fun x hx => h3 x ((hk x).1 hx), fun x hx => by rw [hg x hx]; exact h4 x hx⟩
  rw [h2 l]
  exact ⟨fun ⟨x, hx, e⟩ => ⟨x, (hk x).2 hx, e⟩, fun ⟨x, hx, e⟩ => ⟨x, (hk x).1 hx, e⟩⟩
theorem MapG.made (k : TypeId) (lit : α → Lit) (ok : α → Prop) (z : Value) (w : World) : MapG k lit ok z (w.alloc (.map #[] 0)) w.heap.size 0 [] (fun _ => z) :=
  ⟨.map [], World.ownsMap_made w _ _ _, fun l => by simp [has], fun x hx => by simp at hx, fun x _ => by simp [DataW.atKey]⟩
theorem MapG.frozen {w : World} {b n : Nat} {ks : List α} {g : α → Value} (h : MapG k lit ok z w b n ks g) : ∃ es clock, w.heap[b]? = some (.map es clock) := by
  obtain ⟨D, ⟨es, clock, hb, _⟩, _⟩ := h; exact ⟨es, clock, hb⟩
structure MapT (t k e : TypeId) (z : Value) : Prop where
  un : Tryz.prog.underlying t = some (.map k e)
  zero : ∀ w, (zeroValue e).run Tryz.prog w = .ok z w
theorem MapG.look {t e : TypeId} (T : MapT t k e z) (K : KeyG k f lit ok) {w : World} {b n : Nat} {ks : List α} {g : α → Value} (h : MapG k lit ok z w b n ks g) {y : α} (hy : ok y) : (Instr.lookup t (.map (some b)) (f y) false).run Tryz.prog w = .ok (g y) w := by
  obtain ⟨D, h1, h2, h3, h4⟩ := h
  obtain ⟨v, ps, hr, hv⟩ := h1.lookup K.law T.un (T.zero w) (zd := .held z) (zp := []) rfl (K.of y hy)
  have := rawR_inv hv
  rw [h4 y hy] at this
  injection this with e
  rw [e]; exact hr
theorem MapG.put [DecidableEq α] (K : KeyG k f lit ok) {w w' : World} {b n : Nat} {ks : List α} {g : α → Value} {D : DataW Value} (h1 : w.ownsMap Tryz.prog k rawR b n D) (h2 : ∀ l, has D l = true ↔ ∃ x ∈ ks, l = lit x) (h3 : ∀ x ∈ ks, ok x) (h4 : ∀ x, ok x → D.atKey (lit x) (.held z) = .held (g x))
    {y : α} (hy : ok y) {u : Value} (h : w'.ownsMap Tryz.prog k rawR b (n + 1) (D.put (lit y) (.held u))) : MapG k lit ok z w' b (n + 1) (y :: ks) (fun x => if x = y then u else g x) := by
  have hm := h1.isMap
  refine ⟨_, h, fun l => ?_, fun x hx => ?_, fun x hx => ?_⟩
  · by_cases he : l = lit y
    · subst he
      rw [has_put_same hm (K.isLit hy)]
      exact ⟨fun _ => ⟨y, List.mem_cons_self .., rfl⟩, fun _ => rfl⟩
    · rw [has_put_other he, h2]
      constructor
      · rintro ⟨x, hx, e⟩; exact ⟨x, List.mem_cons_of_mem _ hx, e⟩
      · rintro ⟨x, hx, e⟩
        rcases List.mem_cons.1 hx with rfl | hx
        · exact absurd e he
        · exact ⟨x, hx, e⟩
  · rcases List.mem_cons.1 hx with rfl | hx
    · exact hy
    · exact h3 x hx
  · by_cases he : x = y
    · subst he
      rw [atKey_put_same hm (K.isLit hy)]; dsimp only; rw [if_pos rfl]
    · rw [atKey_put_other (fun e => he (K.lits hx hy e))]; dsimp only; rw [if_neg he]
      exact h4 x hx
theorem owns_of_heap {H : Type} {R : Value → Option (DataW H × List MemPlace)} {w w' : World} {b n : Nat} {D : DataW H} (h : w.ownsMap Tryz.prog k R b n D) (e : w'.heap[b]? = w.heap[b]?) : w'.ownsMap Tryz.prog k R b n D := by
  obtain ⟨es, clock, hb, F, hs, hD⟩ := h
  exact ⟨es, clock, e.trans hb, F, hs, hD⟩
theorem MapG.entry [DecidableEq α] {t e : TypeId} (T : MapT t k e z) (K : KeyG k f lit ok) (KL : WideMaps.KeyLaw Tryz.prog k) {w : World} {b n : Nat} {ks : List α} {g : α → Value} (h : MapG k lit ok z w b n ks g) (hn : n < 1000000000) {y : α} (hy : ok y) :
    ∃ (st : Nat) (w1 : World), (Instr.mapEntry t (.map (some b)) (f y)).run Tryz.prog w = .ok (.tuple #[g y, goInt st]) w1 ∧ Fr (One b) w w1 ∧
      ∀ (w2 : World) (u : Value), w2.heap[b]? = w1.heap[b]? → ∃ w3, (Instr.entryStore t (.map (some b)) (goInt st) u).run Tryz.prog w2 = .ok () w3 ∧ MapG k lit ok z w3 b (n + 1) (y :: ks) (fun c => if c = y then u else g c) ∧ Fr (One b) w2 w3 := by
  obtain ⟨D, hown, h2, h3, h4⟩ := h
  have hown0 := hown
  obtain ⟨es, clock, hb, F, hs, hD⟩ := hown
  obtain ⟨v0, st, es1, clock1, hrun, hv0, hst⟩ := WideElems.entry_then_store KL T.un T.zero hb F (K.of y hy)
  have hg : v0 = g y := by
    have h4y := h4 y hy
    rcases Maps.fit_look false K.law T.un (T.zero w) hb F (K.of y hy) with ⟨_, hne, hat⟩ | ⟨e0, z0, hm, hk, _, hR, hat, _⟩
    · rw [hD, hat] at h4y
      injection h4y with e1
      rcases hv0 with ⟨e2, hm2, hk2, _⟩ | ⟨_, e2⟩
      · exact absurd hk2 (hne e2 hm2)
      · rw [e2, e1]
    · rw [hD, hat] at h4y
      have hz0 : z0.1 = .held e0.val := by unfold rawR at hR; simp at hR; rw [← hR]
      rw [hz0] at h4y
      injection h4y with e1
      rcases hv0 with ⟨e2, hm2, hk2, e3⟩ | ⟨hne, _⟩
      · have := entry_eq_of_key ((MapKept.stamped_iff es clock).1 F.stamped).2.2 hm hm2 (hk.trans hk2.symm)
        rw [e3, ← this, e1]
      · exact absurd hk (hne e0 hm)
  have hblt : b < w.heap.size := (Array.getElem?_eq_some_iff.1 hb).1
  have frS : ∀ (W : World) (o : Obj), Fr (One b) W (ChangeMaps.setBlock W b o) := fun W o => ⟨rfl, rfl, rfl, by simp [ChangeMaps.setBlock], fun i _ hi => by show (W.heap.setIfInBounds b o)[i]? = _; rw [Array.getElem?_setIfInBounds_ne (fun e => hi e.symm)]⟩
  subst hg
  refine ⟨st, _, hrun, frS _ _, fun w2 u hw2 => ?_⟩
  obtain ⟨es', clock', hr2, hmu⟩ := hst w2 u (by rw [hw2]; exact ChangeMaps.heap_setBlock_same hb _)
  obtain ⟨w', hrun', hw', _⟩ := hown0.update K.law T.un (by unfold maxLen; omega) (K.of y hy) (val := u) (d := .held u) (ps := []) rfl
  rw [hmu] at hrun'
  injection hrun' with _ e2
  subst e2
  have hw2b : w2.heap[b]? = some (.map es1 clock1) := by rw [hw2]; exact ChangeMaps.heap_setBlock_same hb _
  refine ⟨_, hr2, MapG.put K hown0 h2 h3 h4 hy (owns_of_heap hw' ?_), frS _ _⟩
  rw [ChangeMaps.heap_setBlock_same hw2b, ChangeMaps.heap_setBlock_same hb]
end
end Go.Proofs.YtjcfjjhhbcgcmaaGreat

namespace Go.Proofs.YtjcfjjhhbcgcmaaGreat
open Go.RowKit Go.Maps
def okC (c : Cl) : Prop := -9223372036854775808 ≤ c.num ∧ c.num ≤ 9223372036854775807 ∧ c.txt.length ≤ 9223372036854775807
def litC (c : Cl) : Lit := .string (keyBytes [.bool c.null, .int .i64 c.num, .string c.txt])
theorem laid_out : laidOutB Tryz.prog = true := by kernel_rfl
theorem row_cl : (25 : TypeId) < Tryz.prog.types.size := of_decide_eq_true (by kernel_rfl)
theorem wide_cl : (match Tryz.prog.underlying 25 with | some (.array _ _) | some (.struct _) => true | _ => false) = true := by kernel_rfl
theorem law_cl : WideMaps.KeyLaw Tryz.prog 25 := deep_law_laid laid_out (m := 2) (by omega) row_cl (by kernel_rfl) wide_cl
theorem key_cl : Tryz.prog.keyType 25 = true := by kernel_rfl
theorem cells_cl : Tryz.prog.cellsOf 25 = 3 := by kernel_rfl
theorem keyOf_cl (c : Cl) (h : okC c) : keyOf Tryz.prog 25 (clV c) = some (litC c) := by
  obtain ⟨n, i, t⟩ := c
  obtain ⟨h1, h2, h3⟩ := h
  have hw : (Lit.int .i64 i).wf = true := WalkArith.wf_i64 ⟨h1, h2⟩
  have ht : ByteArray.size ⟨t.toArray⟩ ≤ maxLen := by rw [slen]; exact h3
  have e1 : Tryz.prog.cellsOf 4 = 1 := by kernel_rfl
  have e2 : Tryz.prog.cellsOf 2 = 1 := by kernel_rfl
  have e3 : Tryz.prog.cellsOf 9 = 1 := by kernel_rfl
  have hn : 2 ≤ Tryz.prog.types.size := of_decide_eq_true (by kernel_rfl)
  obtain ⟨m, hm⟩ : ∃ m, Tryz.prog.types.size + 1 = m + 2 := ⟨Tryz.prog.types.size - 1, by omega⟩
  unfold keyOf
  simp only [Tryz.underlying25, key_cl, clV, clC, Value.formed, cells_cl, hm]
  simp [Program.keyLits, Value.cells, Tryz.underlying25, Tryz.underlying4, Tryz.underlying2, Tryz.underlying9, cells_cl, e1, e2, e3, hw, ht, litC]
theorem clV_inj (x y : Cl) (h : clV x = clV y) : x = y := by
  obtain ⟨a, b, c⟩ := x
  obtain ⟨a2, b2, c2⟩ := y
  simpa [clV, clC] using h
theorem keyC : KeyG 25 clV litC okC := ⟨Keyed.of_law law_cl, keyOf_cl, clV_inj⟩
end Go.Proofs.YtjcfjjhhbcgcmaaGreat

namespace Go.Proofs.YtjcfjjhhbcgcmaaGreat
open Go.RowKit
section
variable {α : Type} {f : α → Value} {E : TypeId} {T : TypeId} {z : Value} {by_ : Nat}
theorem wpList_appG2 (hE : El T E z by_) (hf1 : ∀ x, (f x).oneCell' = true) {w : World} {ops : Array Oper} {rest : List Oper} {o : Oper} {a : Act} {Q : Exit → Act → World → Prop} (hgd : o.guard = none) (s x : Operand)
    (ho : o.op = .call { callee := .builtin .append, args := #[s, x], argTypes := #[T, T] })
    (B : Nat) (v : Value) (l : List α) (hs : a.eval s = v) (hown : Ow f E w B v l) (y : α) (ad : Addr) (c : Nat) (hx : a.eval x = .slice (some ad) 1 c) (hy : w.cell? ad = some (f y))
    (hl : l.length < 1099511627776) (hB : B ≤ w.heap.size)
    (h : ∀ v' w', Ow f E w' B v' (l ++ [y]) → Fr (fun k => v.ownBlock = some k) w w' → (v'.ownBlock = v.ownBlock ∨ ∀ k, v'.ownBlock = some k → w.heap.size ≤ k) → wpList Tryz.prog ops Q rest (a.put o.dst v') w') : wpList Tryz.prog ops Q (o :: rest) a w := by
  obtain ⟨i, hi, hz0, hz1, hz2⟩ := info_parts hE.info
  have hs' := hE.small
  have hzc : z.cells.size = 1 := by rw [hE.cells]; rfl
  have hbl : (l.length + 1) * by_ ≤ 140737488355328 := by
    have := Nat.mul_le_mul (show l.length + 1 ≤ 1099511627776 by omega) hs'
    omega
  have hnews : ∀ (j : Nat) (u : Value), [f y][j]? = some u → w.cell? (ad.add j) = some u := by
    intro j u hu
    match j with
    | 0 => obtain rfl : f y = u := by simpa using hu
           have e0 : ad.add 0 = ad := by unfold Addr.add; simp
           rw [e0]; exact hy
    | j + 1 => simp at hu
  have hone : ∀ u ∈ [f y], u.oneCell' = true := fun u hu => by obtain rfl := List.mem_singleton.1 hu; exact hf1 y
  have fin : ∀ v' w', World.ownsRow w' B E 1 v' (l.length + 1) (l.map f ++ [f y]) → Ow f E w' B v' (l ++ [y]) := by
    intro v' w' h1
    unfold Ow
    simpa [List.map_append] using h1
  have grow : ∀ (ao : Option Addr) (cap : Nat), v = .slice ao l.length cap → (ao = none → l.length = 0 ∧ cap = 0) → (∀ b, ao = some b → ∀ j u, (l.map f)[j]? = some u → w.cell? (b.add j) = some u) → cap < l.length + 1 →
      wpList Tryz.prog ops Q (o :: rest) a w := by
    intro ao cap hv hnone holds hfull
    refine wpList_append_grows _ hgd s x _ ho E i z 1 by_ hE.under hi hz0 hz1 hz2 hzc (by omega) ao l.length cap (l.map f) (hs.trans hv) hnone (by simp) holds ad 1 c [f y] hx rfl hnews hone hfull (by unfold maxLen; omega) hbl ?_
    intro v' w' h1 h2
    refine h v' w' (fin v' w' ⟨h1.1, ?_⟩) ((Fr.of_grown h2).mono fun k _ e => by cases e) (.inr fun k hk => (World.ownsRow.lt h1 k hk).1)
    rcases h1.2 with h3 | ⟨g, cap, cur, hv, hb, r⟩
    · exact .inl h3
    · exact .inr ⟨g, cap, cur, hv, by omega, r⟩
  have hown' : w.ownsRow B E 1 v l.length (l.map f) := hown
  rcases hown'.2 with ⟨hv, h0⟩ | ⟨g, cap, cur, hv, hbg, hg, hnc, hcm, hcs, htk⟩
  · exact grow none 0 (by rw [hv, h0]) (fun _ => ⟨h0, rfl⟩) (fun b e => by cases e) (by omega)
  · by_cases hroom : l.length + 1 ≤ cap
    · subst hv
      refine wpList_append_own_spare _ hgd s x _ ho B E i 1 hE.under hi hz1 g l.length cap (l.map f) hs hown' ad 1 c [f y] hx rfl hnews hone hroom ?_
      intro w' h1 h2
      exact h _ w' (fin _ w' h1) (Fr.of_grown h2) (.inl rfl)
    · exact grow (some ⟨g, 0, none⟩) cap hv (fun e => by cases e) (fun b e j u hu => by
        cases e
        exact World.ownsRow.cells hown' (by rw [hv]; rfl) j u hu) (by omega)
end
def nilS : Value := .slice none 0 0
theorem mapT_rows : MapT 98 25 32 nilS := ⟨Tryz.underlying98, fun w => Tryz.zeroValue32 w⟩
structure GrI (ps : List (Sl × List Cl)) (p b i : Nat) (w : World) (n : Nat) (ks : List Cl) (g : Cl → Value) : Prop where
  map : MapG 25 litC okC nilS w b n ks g
  num : n ≤ i
  keys : ∀ c, c ∈ ks ↔ c ∈ (ps.take i).map fun q => atC q.2 p
  rows : ∀ c, Ow slV 47 w (b + 1) (g c) ((psF (fun r => ceq (atC r p) c) ps i).map Prod.fst)
  apart : ∀ c d, c ≠ d → ∀ k, (g c).ownBlock = some k → (g d).ownBlock ≠ some k
theorem GrI.start (ps : List (Sl × List Cl)) (p : Nat) (w : World) : GrI ps p w.heap.size 0 (w.alloc (.map #[] 0)) 0 [] (fun _ => nilS) :=
  ⟨MapG.made _ _ _ _ _, Nat.le_refl _, fun c => by simp, fun c => by unfold psF; exact ow_nil _ _, fun c d _ k hk => by cases hk⟩
theorem GrI.next {ps : List (Sl × List Cl)} {p b i : Nat} {w w1 w2 w3 : World} {n : Nat} {ks : List Cl} {g : Cl → Value} {v' : Value} (h : GrI ps p b i w n ks g) (hi : i < ps.length)
    (f1 : Fr (One b) w w1) (f2 : Fr (fun k => (g (atC ps[i].2 p)).ownBlock = some k) w1 w2)
    (ho2 : Ow slV 47 w2 (b + 1) v' ((psF (fun r => ceq (atC r p) (atC ps[i].2 p)) ps i).map Prod.fst ++ [ps[i].1])) (how : v'.ownBlock = (g (atC ps[i].2 p)).ownBlock ∨ ∀ k, v'.ownBlock = some k → w1.heap.size ≤ k)
    (hM : MapG 25 litC okC nilS w3 b (n + 1) (atC ps[i].2 p :: ks) (fun c => if c = atC ps[i].2 p then v' else g c)) (f3 : Fr (One b) w2 w3) :
    GrI ps p b (i + 1) w3 (n + 1) (atC ps[i].2 p :: ks) (fun c => if c = atC ps[i].2 p then v' else g c) := by
  have hbw1 : ∀ c k, (g c).ownBlock = some k → k < w.heap.size := fun c k hk => ((h.rows c).lt k hk).2
  refine ⟨hM, by have := h.num; omega, fun c => ?_, fun c => ?_, fun c d hcd k hk => ?_⟩
  · rw [List.take_succ_eq_append_getElem hi, List.map_append, List.mem_append, List.map_cons, List.map_nil, List.mem_singleton, List.mem_cons, h.keys c]
    exact Or.comm
  · rw [psF_more hi]
    by_cases e : c = atC ps[i].2 p
    · subst e
      rw [if_pos rfl, if_pos (ceq_self _), List.map_append, List.map_cons, List.map_nil]
      exact ho2.fr f3 (fun k hk e => by have h1 := (ho2.lt k hk).1; have h2 : k = b := e; omega)
    · have hne : ¬ ceq (atC ps[i].2 p) c = true := fun e2 => e (ceq_is e2).symm
      rw [if_neg e, if_neg hne, List.append_nil]
      have a1 := (h.rows c).fr f1 (fun k hk e => by have h1 := ((h.rows c).lt k hk).1; have h2 : k = b := e; omega)
      have a2 := a1.fr f2 (fun k hk e2 => h.apart c _ e k hk e2)
      exact a2.fr f3 (fun k hk e => by have h1 := (a2.lt k hk).1; have h2 : k = b := e; omega)
  · have old : ∀ d, d ≠ atC ps[i].2 p → ∀ k, v'.ownBlock = some k → (g d).ownBlock ≠ some k := fun d hd k hk e => by
      rcases how with h1 | h1
      · rw [h1] at hk
        exact h.apart _ d (fun e2 => hd e2.symm) k hk e
      · have h2 := h1 k hk
        have h3 := hbw1 d k e
        have := f1.size
        omega
    by_cases e1 : c = atC ps[i].2 p
    · rw [if_pos e1] at hk
      by_cases e2 : d = atC ps[i].2 p
      · exact absurd (e1.trans e2.symm) hcd
      · rw [if_neg e2]; exact old d e2 k hk
    · rw [if_neg e1] at hk
      by_cases e2 : d = atC ps[i].2 p
      · rw [if_pos e2]; exact fun e3 => old c e1 k e3 hk
      · rw [if_neg e2]; exact h.apart c d hcd k hk
set_option maxHeartbeats 4000000 in
theorem ggroups_any (v : Value) (rows : List (List Cl)) (p : Nat) (w : World) (hv : Rs w v rows) (hl : rows.length ≤ 100000) (hp : ∀ r ∈ rows, p < r.length) (hok : ∀ r ∈ rows, okC (atC r p)) :
    Calls Tryz.prog 69 #[v, .int .i64 p] w fun e w' => ∃ b n ks g, e = .returned (.map (some b)) ∧ MapG 25 litC okC nilS w' b n ks g ∧ n ≤ rows.length ∧ (∀ c, c ∈ ks ↔ c ∈ rows.map fun r => atC r p) ∧ (∀ c, Rs w' (g c) (rows.filter fun r => ceq (atC r p) c)) ∧ Fr Non w w' := by
  obtain ⟨ps, hps, hpv, hpc⟩ := rs_pairs hv
  subst hps
  rw [List.length_map] at hl
  obtain ⟨A, c, hvv⟩ := hpv.shape
  rw [List.length_map] at hvv
  subst hvv
  have HPP : Hid (∀ k (h : k < ps.length), p < ps[k].2.length ∧ okC (atC ps[k].2 p)) := Lib.hid (fun k h => ⟨hp _ (List.mem_map.2 ⟨_, List.getElem_mem h, rfl⟩), hok _ (List.mem_map.2 ⟨_, List.getElem_mem h, rfl⟩)⟩)
  have HV := Lib.hid hpv
  have HPC := Lib.hid hpc
  have HI0 := Lib.hid (GrI.start ps p w)
  have F0 := Lib.hid ((Fr.refl Non w).alloc (.map #[] 0))
  obtain ⟨b, hb⟩ : ∃ b, w.heap.size = b := ⟨_, rfl⟩
  rw [hb] at HI0
  have HB := Lib.hid hb
  have HE : Hid (∀ wr n ks g, GrI ps p b ps.length wr n ks g → Fr Non w wr → ∃ n ks g, MapG 25 litC okC nilS wr b n ks g ∧ n ≤ (ps.map Prod.snd).length ∧ (∀ c, c ∈ ks ↔ c ∈ (ps.map Prod.snd).map fun r => atC r p) ∧ (∀ c, Rs wr (g c) ((ps.map Prod.snd).filter fun r => ceq (atC r p) c))) := Lib.hid (fun wr n ks g h hf => by
    refine ⟨n, ks, g, h.map, by rw [List.length_map]; exact h.num, fun c => ?_, fun c => ?_⟩
    · rw [h.keys c, List.take_length, List.map_map]; rfl
    · rw [← psF_end]
      exact rs_ofp (h.rows c).vs (fun q hq => (HPC.out q (psF_mem hq).1).non hf))
  clear hv hpv hpc hp hok
  have hmk : ∀ W, (Instr.makeMap 98 none).run Tryz.prog W = .ok (.map (some W.heap.size)) (W.alloc (.map #[] 0)) := fun W => run_makeMap _ W
  go_enter Tryz.func69, Tryz.ntmps69
  go_wp2
  clear hmk
  go_loopw [11] (fun x wr => ∃ (i : Nat), i ≤ ps.length ∧ x = .int .i64 i ∧ Hid (∃ n ks g, GrI ps p b i wr n ks g) ∧ Hid (Fr Non w wr)) (fun x _ => ps.length - (intOf x).toNat)
  case atStart => exact ⟨0, Nat.zero_le _, rfl, Lib.hid ⟨0, [], _, HI0.out⟩, F0⟩
  case round =>
    clear HI0 F0
    obtain ⟨i, hi, rfl, HI, FR⟩ := hrel
    by_cases hlt : i < ps.length
    · obtain ⟨a2, rfl, -, -, hel⟩ := (HV.out.non FR.out).addr (show 0 < ps.length by omega)
      have g0 := hel i (by rw [List.length_map]; exact hlt)
      rw [List.getElem_map] at g0
      clear hel
      obtain ⟨n, ks, g, hI⟩ := HI.out
      have hn := hI.num
      have HIi := Lib.hid hI
      clear hI HI
      obtain ⟨hpi, hoki⟩ := HPP.out i hlt
      have HCi : Hid (Cs wr (slV ps[i].1) ps[i].2) := Lib.hid ((HPC.out _ (List.getElem_mem hlt)).non FR.out)
      have HAt : Hid (ps[i].2[p]'hpi = atC ps[i].2 p) := Lib.hid (atC_at hpi).symm
      -- the entry, ahead of what is put there
      obtain ⟨W1, hW1⟩ : ∃ W, W = wr.alloc (.cells #[slV ps[i].1] 47) := ⟨_, rfl⟩
      have fa : Fr Non wr W1 := by rw [hW1]; exact (Fr.refl Non wr).alloc _
      obtain ⟨st, w1, hrun, f1, hback⟩ := (HIi.out.map.non fa).entry mapT_rows keyC law_cl (by omega) hoki
      have HBk := Lib.hid hback
      have F1 : Hid (Fr (One b) wr w1) := Lib.hid ((fa.any (S := One b)).trans f1)
      have hsz1 : W1.heap.size = wr.heap.size + 1 := by rw [hW1]; simp
      have hbl : b < wr.heap.size := HIi.out.map.lt
      have HY : Hid (w1.cell? ⟨wr.heap.size, 0, none⟩ = some (slV ps[i].1)) := Lib.hid (by
        rw [f1.cell (p := ⟨wr.heap.size, 0, none⟩) (by show wr.heap.size < _; omega) (fun e => by have e2 : wr.heap.size = b := e; omega), hW1]
        exact cell_new1 wr (slV ps[i].1) _)
      have HOw : Hid (Ow slV 47 w1 (b + 1) (g (atC ps[i].2 p)) ((psF (fun r => ceq (atC r p) (atC ps[i].2 p)) ps i).map Prod.fst)) := Lib.hid ((HIi.out.rows _).fr F1.out (fun k hk e => by have h1 := ((HIi.out.rows (atC ps[i].2 p)).lt k hk).1; have h2 : k = b := e; omega))
      have HLl : Hid (((psF (fun r => ceq (atC r p) (atC ps[i].2 p)) ps i).map Prod.fst).length ≤ 100000) := Lib.hid (by rw [List.length_map]; have := psF_len (fun r => ceq (atC r p) (atC ps[i].2 p)) ps i; omega)
      have HNx : Hid (∀ v' w2 w3, Fr (fun k => (g (atC ps[i].2 p)).ownBlock = some k) w1 w2 → Ow slV 47 w2 (b + 1) v' ((psF (fun r => ceq (atC r p) (atC ps[i].2 p)) ps i).map Prod.fst ++ [ps[i].1]) → (v'.ownBlock = (g (atC ps[i].2 p)).ownBlock ∨ ∀ k, v'.ownBlock = some k → w1.heap.size ≤ k) →
          MapG 25 litC okC nilS w3 b (n + 1) (atC ps[i].2 p :: ks) (fun c => if c = atC ps[i].2 p then v' else g c) → Fr (One b) w2 w3 → (∃ n ks g, GrI ps p b (i + 1) w3 n ks g) ∧ Fr Non w w3) := Lib.hid (fun v' w2 w3 f2 ho2 how hM f3 =>
        ⟨⟨_, _, _, HIi.out.next hlt F1.out f2 ho2 how hM f3⟩, by
          have e1 := FR.out.fresh F1.out (fun k e => by have : k = b := e; omega)
          have e2 := e1.fresh f2 (fun k e => by have := (HOw.out.lt k e).1; omega)
          exact e2.fresh f3 (fun k e => by have : k = b := e; omega)⟩)
      have HOb : Hid (∀ k, (g (atC ps[i].2 p)).ownBlock = some k → k ≠ b) := Lib.hid (fun k hk e => by have := (HOw.out.lt k hk).1; omega)
      clear hback f1 fa hoki
      generalize (psF (fun r => ceq (atC r p) (atC ps[i].2 p)) ps i).map Prod.fst = D at *
      generalize atC ps[i].2 p = key at *
      generalize g key = gv at *
      obtain ⟨pS, hpS⟩ : ∃ x, ps[i].1 = x := ⟨_, rfl⟩
      rw [hpS] at g0 HCi hW1 HY HNx
      generalize ps[i].2 = row at *
      clear hpS HIi
      obtain ⟨yA, yl, yc⟩ := pS
      unfold slV at g0 HCi hW1 HY
      dsimp only at g0 HCi hW1 HY
      obtain ⟨A9, c9, e9⟩ := HCi.out.shape
      simp only [Value.slice.injEq] at e9
      obtain ⟨e91, e92, e93⟩ := e9
      subst e91 e92 e93
      obtain ⟨a, rfl, -, -, hel⟩ := HCi.out.addr (show 0 < row.length by omega)
      obtain ⟨t0, t1, t2⟩ := (hel p hpi).lit
      rw [HAt.out] at t0 t1 t2
      clear hel HAt
      obtain ⟨kn, ki, kt⟩ := key
      unfold clV clC at hrun
      dsimp only at t0 t1 t2 hrun
      obtain ⟨Ag, cg, hgv⟩ := HOw.out.shape
      subst hgv
      have hbs : b + 1 ≤ w1.heap.size := by have := F1.out.size; omega
      rw [hW1] at hrun
      clear hW1
      go_wp2_with (at_builtin; refine wpList_appG2 el_rows slV_one rfl (.tmp 20) (.tmp 22) rfl (b + 1) _ D rfl HOw.out ⟨some a, row.length, yc⟩ ⟨wr.heap.size, 0, none⟩ 1 rfl HY.out (by have := HLl.out; omega) hbs ?_; intro v6 w2 ho2 hf2 how2; obtain ⟨A6, c6, hv6⟩ := ho2.shape; subst hv6; obtain ⟨w3, hst3, hM3, f3⟩ := HBk.out w2 (.slice A6 (D ++ [(⟨some a, row.length, yc⟩ : Sl)]).length c6) (hf2.block b (by omega) (fun e => HOb.out b e rfl)); have HN6 := Lib.hid (HNx.out _ w2 w3 hf2 ho2 how2 hM3 f3); unfold goInt at hst3; simp only [List.length_append, List.length_cons, List.length_nil, Nat.zero_add] at hst3)
      go_roundw
      case rel => exact ⟨i + 1, by omega, by go_num, Lib.hid HN6.out.1, Lib.hid HN6.out.2⟩
      case measure => simp [intOf]; omega
    · have hie : i = ps.length := by omega
      subst hie
      obtain ⟨n, ks, g, hI⟩ := HI.out
      obtain ⟨n', ks', g', e2⟩ := HE.out wr n ks g hI FR.out
      have HI2 := Lib.hid e2
      have HFR := FR
      clear hI e2 HI HE HPP HPC HV
      go_wp2
      go_ret
      exact ⟨b, n', ks', g', rfl, HI2.out.1, HI2.out.2.1, HI2.out.2.2.1, HI2.out.2.2.2, HFR.out⟩
end Go.Proofs.YtjcfjjhhbcgcmaaGreat

namespace Go.Proofs.YtjcfjjhhbcgcmaaGreat
open Go.RowKit Go.Shelf Go.Maps
attribute [local go_sem] Oper.semAt_some
def ColG (ks : List Cl) (left : Lit → Bool) (ss : List Cl) : Prop := ss.Nodup ∧ ∀ x, x ∈ ss ↔ (x ∈ ks ∧ left (litC x) = false)
theorem litC_inj {x y : Cl} (hx : okC x) (hy : okC y) (e : litC x = litC y) : x = y := keyC.lits hx hy e
theorem ColG.step {ks ss : List Cl} {left : Lit → Bool} (h : ColG ks left ss) (hk : ∀ x ∈ ks, okC x) {x : Cl} (hx : x ∈ ks) (hl : left (litC x) = true) : ColG ks (fun z => left z && !z.sameKey (litC x)) (ss ++ [x]) := by
  have hnew : x ∉ ss := fun hm => by have := ((h.2 x).1 hm).2; rw [hl] at this; cases this
  refine ⟨List.nodup_append.2 ⟨h.1, by simp, fun a ha b hb => by simp at hb; subst hb; exact fun e => hnew (e ▸ ha)⟩, fun y => ?_⟩
  by_cases hy : y = x
  · subst hy
    have hs : (litC y).sameKey (litC y) = true := WideAt.sameKey_self (keyC.isLit (hk y hx))
    simp [hx, hs]
  · rw [List.mem_append, h.2 y]
    constructor
    · rintro (⟨h1, h2⟩ | h1)
      · exact ⟨h1, by show (left (litC y) && _) = false; rw [h2]; rfl⟩
      · simp at h1; exact absurd h1 hy
    · rintro ⟨h1, h2⟩
      refine .inl ⟨h1, ?_⟩
      have hne : (litC y).sameKey (litC x) = false := sameKey_ne (fun e => hy (litC_inj (hk y h1) (hk x hx) e))
      have h3 : (left (litC y) && !(litC y).sameKey (litC x)) = false := h2
      rw [hne] at h3
      simpa using h3
theorem mkeys_any (mb : Option Nat) (w : World) : Calls Tryz.prog 71 #[.map mb] w fun e w' => e = .returned (.func (.func 104) #[] #[.pointer (some ⟨w.heap.size, 0, none⟩)]) ∧ w' = w.alloc (.cells #[.map mb] 98) := by
  go_enter Tryz.func71, Tryz.ntmps71
  go_wp2
  go_ret
  exact ⟨rfl, rfl⟩
set_option maxHeartbeats 2000000 in
theorem mkeys_stops (n : Nat) (hn : 1 ≤ n) (z : Value) (Bm b nn : Nat) (ks : List Cl) (g : Cl → Value) (w : World) (hBm : w.cell? ⟨Bm, 0, none⟩ = some (.map (some b))) (hm : MapG 25 litC okC z w b nn ks g) :
    SeqStopsK Fence.wide n Tryz.prog 104 #[.pointer (some ⟨Bm, 0, none⟩)] (fun x : Cl => #[clV x]) KeepsWalks
      (fun xs => xs.Nodup ∧ (∀ x, x ∈ xs ↔ x ∈ ks) ∧ xs.length ≤ nn) (fun _ => True) nn w := fun r J Jx W hW hJ hJx hY h0 => by
  obtain ⟨D, hown, h2, h3, _⟩ := hm
  have hownW : W.ownsMap Tryz.prog 25 rawR b nn D := owns_of_heap hown (hW.block b hown.lt)
  have hsz : Maps.size D ≤ nn := hownW.size_le
  have HH : Hid (∀ l, has D l = true ↔ ∃ x ∈ ks, l = litC x) := Lib.hid h2
  have HK : Hid (∀ x ∈ ks, okC x) := Lib.hid h3
  have HJ := Lib.hid hJ
  have HY := Lib.hid hY
  have hbx : W.cell? ⟨Bm, 0, none⟩ = some (.map (some b)) := (hW.cell (p := ⟨Bm, 0, none⟩) (World.block_lt_of_cell? w _ hBm)).trans hBm
  clear hown h2 h3 hJ hJx hY hW hBm
  refine callsIn_of_wp Tryz.func104 rfl trivial ?_ rfl
  rw [Tryz.ntmps104]
  simp only [List.append_toArray, List.cons_append, List.nil_append]
  simp only [List.size_toArray, List.length_cons, List.length_nil, Nat.reduceAdd, Nat.reduceSub]
  simp only [Array.replicate_succ, Array.replicate_zero]
  simp only [List.push_toArray, List.append_toArray, List.nil_append, List.cons_append]
  gi_wp2_with (first
    | (gi_at_range; refine wpListIn_range_own _ rfl _ 98 rfl 25 32 keyC.law Tryz.underlying98 _ b nn _ rfl hownW ?_; intro w0 hrg0 hg0 hs0)
    | gi_in)
  (try go_frame)
  gi_loopw [3] (fun _ wr => ∃ (left : Lit → Bool) (cnt : Nat) (ss : List Cl), wr.ranges Tryz.prog 25 rawR b W.heap.size nn D left cnt ∧ ss.length + cnt ≤ Maps.size D ∧ Hid (ColG ks left ss) ∧ J ss wr)
    (fun _ wr => wr.rangeLeft b W.heap.size)
  case atStart =>
    exact ⟨_, _, [], hrg0, by simp, Lib.hid ⟨List.nodup_nil, fun x => by
      constructor
      · intro h; cases h
      · rintro ⟨h1, h2⟩
        rw [(HH.out (litC x)).2 ⟨x, h1, rfl⟩] at h2; cases h2⟩, HJ.out [] W w0 none h0 hg0 (fun r e => by cases e)⟩
  case round =>
    clear hrg0 hg0 hs0 h0 hbx
    obtain ⟨left, cnt, ss, hrg, hcs, HC, hJs⟩ := hrel
    gi_wp2_with (first
      | (gi_at_next; refine wpListIn_next_ranges _ rfl _ rfl 25 keyC.law rawR (fun v : Value => v) (fun v : Value => v) (fun key kl hk => ⟨key, rfl⟩) (fun v _ _ => ⟨v, rfl⟩) b W.heap.size nn _ _ _ rfl hrg ?_ ?_)
      | gi_in)
    · intro hc0 hl0
      gi_wp2
      go_end0
      exact ⟨⟨_, rfl⟩, .inl ⟨ss, ⟨HC.out.1, fun x => (by rw [HC.out.2 x, hl0]; simp), by omega⟩, hJs⟩⟩
    · intro key c kl y yp w2 cnt2 hkey hlk hv hat hrg2 hlt hg2 hs2 hen
      obtain ⟨x, hx, e⟩ := (HH.out kl).1 (has_true_of_atKey hat)
      subst e
      obtain rfl : key = clV x := keyC.law.inj hkey (keyC.of x (HK.out x hx))
      have HC2 := Lib.hid (HC.out.step HK.out hx hlk)
      have hJ2 : J ss w2 := HJ.out ss wr w2 (some W.heap.size) hJs hg2 (fun r e => by cases e; exact ⟨Nat.le_refl _, hrg.iter_walk⟩)
      have hle : W.heap.size ≤ w2.heap.size := by have := hrg2.lt; omega
      have hlts := hrg2.lt
      obtain ⟨xn, xi, xt⟩ := x
      unfold clV clC at hen
      dsimp only at hen
      clear hs2 hkey hat hv hg2
      obtain ⟨w3, hw3⟩ : ∃ w3, w2.alloc (.cells #[.bool xn, .int .i64 xi, .string ⟨xt.toArray⟩] 25) = w3 := ⟨_, rfl⟩
      have hg3 : w2.grownBy w3 none := by rw [← hw3]; exact World.grownBy_alloc _ _ _
      have hrg3 := hrg2.kept hg3 (by simp) (by simp)
      have hJ3 : J ss w3 := HJ.out ss w2 w3 none hJ2 hg3 (fun r e => by cases e)
      obtain ⟨fn, tmps, assign, body, hy, hR⟩ := HY.out ss ⟨xn, xi, xt⟩ w3 hJ3 (by omega)
      unfold clV clC at hy
      dsimp only at hy
      unfold clV clC
      dsimp only
      have hB3 : ClB w3 w2.heap.size ⟨xn, xi, xt⟩ := by rw [← hw3]; exact cl_new _ ⟨xn, xi, xt⟩
      obtain ⟨k0, k1, k2, k3, k4, k5⟩ := hB3.facts
      gi_wp2
      refine hR.mono ?_
      rintro e W3 (⟨rfl, hJ3, hk3⟩ | ⟨rfl, hJx3⟩)
      · gi_wp2
        have hrg4 := hrg3.of_walks hk3
        go_roundw
        case rel => exact ⟨_, cnt2, ss ++ [⟨xn, xi, xt⟩], hrg4, by simp; omega, HC2, hJ3⟩
        case measure => rw [hrg4.left_eq, hrg.left_eq]; exact hlt
      · gi_wp2
        refine bodyPost_ret (results_none rfl _ _ _) rfl ?_
        exact ⟨⟨_, rfl⟩, .inr ⟨ss ++ [⟨xn, xi, xt⟩], trivial, hJx3⟩⟩
end Go.Proofs.YtjcfjjhhbcgcmaaGreat

namespace Go.Proofs.YtjcfjjhhbcgcmaaGreat
open Go.RowKit Go.Shelf Go.Maps
attribute [local go_sem] Oper.semAt_some
theorem keepsO_fr {S : Nat → Prop} {W W' : World} (hf : Fr S W W') (hS : ∀ k, S k → k < W.heap.size → ∃ cs t fz, W.heap[k]? = some (.cells cs t fz)) : KeepsOthers W W' :=
  ⟨hf.size, fun k o hk ho => by
    have hlt := (Array.getElem?_eq_some_iff.1 hk).1
    by_cases hs : S k
    · obtain ⟨cs, t, fz, e⟩ := hS k hs hlt
      rw [e] at hk; cases hk; cases ho
    · rw [hf.block k hlt hs]; exact hk⟩
theorem KeepsOthers.walks {W W' : World} (h : KeepsOthers W W') : KeepsWalks W W' := ⟨h.size, fun k o hk ho => h.same k o hk (Obj.not_cells_of_walk ho)⟩
theorem oc_boxed {W : World} {B n0 : Nat} {u v : Value} {t : TypeId} {l : List Cl} (h4 : Boxed W n0 t v) (ho : Oc W B u l) (ht : t ≠ 25) : u.ownBlock ≠ some n0 := by
  intro e
  obtain ⟨cur, hc⟩ := ho.kind n0 e
  rw [show W.heap[n0]? = _ from h4] at hc
  simp only [Option.some.injEq, Obj.cells.injEq] at hc
  exact ht hc.2.1
theorem boxed_fr2 {t : TypeId} {B : Nat} {v : Value} {W W' : World} {S : Nat → Prop} (h : Boxed W B t v) (hf : Fr S W W') (hn : ¬ S B) : Boxed W' B t v := (hf.block B h.lt hn).trans h
theorem boxed_own2 {t : TypeId} {B : Nat} {v : Value} {W W' : World} {row : Option Nat} (h : Boxed W B t v) (hg : W.grownBy W' row) (hr : ∀ r, row = some r → ∃ o : Obj, W.heap[r]? = some o ∧ o.isCells = false) : Boxed W' B t v :=
  h.kept hg (fun e => by
    obtain ⟨o, ho, hc⟩ := hr B e.symm
    rw [show W.heap[B]? = _ from h] at ho; cases ho; cases hc)
theorem oc_own2 {B : Nat} {v : Value} {l : List Cl} {W W' : World} {row : Option Nat} (h : Oc W B v l) (hg : W.grownBy W' row) (hr : ∀ r, row = some r → ∃ o : Obj, W.heap[r]? = some o ∧ o.isCells = false) : Oc W' B v l :=
  h.keep fun k hk => hg.block k (h.lt k hk).2 fun e => by
    obtain ⟨o, ho, hcc⟩ := hr k e.symm
    obtain ⟨cur, hc⟩ := h.kind k hk
    rw [hc] at ho; cases ho; cases hcc
theorem clB_own2 {g : Nat} {c : Cl} {W W' : World} {row : Option Nat} (h : ClB W g c) (hg : W.grownBy W' row) (hr : ∀ r, row = some r → ∃ o : Obj, W.heap[r]? = some o ∧ o.isCells = false) : ClB W' g c :=
  (hg.block g h.lt fun e => by
    obtain ⟨o, ho, hcc⟩ := hr g e.symm
    rw [show W.heap[g]? = _ from h] at ho; cases ho; cases hcc).trans h
theorem seq_end {WL W w2 : World} {B n0 : Nat} {u v2 : Value} {xs : List Cl} {x : Cl} (h4 : Boxed W n0 47 u) (ho : Oc W n0 u xs) (hb : Below n0 WL W) (hn : n0 ≤ WL.heap.size)
    (hf : Fr (fun k => u.ownBlock = some k) W w2) (ho2 : Oc w2 n0 v2 (xs ++ [x])) :
    KeepsFrom B W (w2.setCell ⟨n0, 0, none⟩ v2) ∧ KeepsWalks W (w2.setCell ⟨n0, 0, none⟩ v2) ∧
      ((∃ u, Boxed (w2.setCell ⟨n0, 0, none⟩ v2) n0 47 u ∧ Oc (w2.setCell ⟨n0, 0, none⟩ v2) n0 u (xs ++ [x])) ∧ Below n0 WL (w2.setCell ⟨n0, 0, none⟩ v2)) := by
  have hs := hb.size
  have hne := oc_boxed h4 ho (by decide)
  have b42 : Boxed w2 n0 47 u := boxed_fr2 h4 hf hne
  have f3 : Fr (One n0) w2 (w2.setCell ⟨n0, 0, none⟩ v2) := (Fr.refl _ _).set1 0 v2
  have b43 : Boxed (w2.setCell ⟨n0, 0, none⟩ v2) n0 47 v2 := b42.set v2
  have o3 : Oc (w2.setCell ⟨n0, 0, none⟩ v2) n0 v2 (xs ++ [x]) := ho2.fr f3 (fun k hk e => by
    obtain rfl : k = n0 := e
    exact oc_boxed b42 ho2 (by decide) hk)
  have fall : Fr (fun k => k = n0 ∨ u.ownBlock = some k) W (w2.setCell ⟨n0, 0, none⟩ v2) := (hf.mono (fun k _ e => .inr e)).join f3 (fun k _ e => .inl e)
  have hko : KeepsOthers W (w2.setCell ⟨n0, 0, none⟩ v2) := keepsO_fr fall (fun k e hlt => by
    rcases e with rfl | e
    · exact ⟨_, _, _, h4⟩
    · obtain ⟨cur, hc⟩ := ho.kind k e
      exact ⟨_, _, _, hc⟩)
  refine ⟨hko.from _, hko.walks, ⟨v2, b43, o3⟩, hb.trans ⟨fall.os, fall.tape, fall.output, fall.size, fun k hk => fall.block k (by omega) (fun e => ?_)⟩⟩
  rcases e with rfl | e
  · omega
  · have := (ho.lt k e).1; omega
set_option maxHeartbeats 4000000 in
theorem appseq_any (gf : Nat) (lb : Array Value) (S : List Cl → Prop) (N : Nat) (hN : N ≤ 1000000000) (w : World) (hseq : SeqStopsK Fence.wide 6 Tryz.prog gf lb (fun x : Cl => #[clV x]) KeepsWalks S (fun _ => True) N w)
    (eg : ∀ args w, (callFunc gf args).run Tryz.prog w = .ok (.enter gf args) w) :
    Calls Tryz.prog 122 #[.slice none 0 0, .func (.func gf) #[] lb] w fun e w' => ∃ u ss, e = .returned u ∧ S ss ∧ Oc w' w.heap.size u ss ∧ Below w.heap.size w w' := by
  refine (callsIn_wide (n := 7)).1 ?_
  refine callsIn_of_wp_marks Tryz.func122 rfl trivial ?_ rfl
  simp only [Tryz.ntmps122, List.size_toArray, List.length_cons, List.length_nil, Nat.reduceAdd, Nat.reduceSub, Array.replicate_succ, Array.replicate_zero, List.push_toArray, List.append_toArray, List.nil_append, List.cons_append]
  have HS := Lib.hid hseq
  clear hseq
  gi_wp2
  obtain ⟨WL, hWL⟩ : ∃ WL, w.alloc (.cells #[.slice none 0 0] 47) = WL := ⟨_, rfl⟩
  have hfL : Fr Non w WL := by rw [← hWL]; exact (Fr.refl _ w).alloc _
  have hsz : WL.heap.size = w.heap.size + 1 := by rw [← hWL]; simp
  have hx4 : Boxed WL w.heap.size 47 (.slice none 0 0) := by rw [← hWL]; exact Boxed.new w _ _
  have hbL : Below w.heap.size w WL := ⟨hfL.os, hfL.tape, hfL.output, hfL.size, fun k hk => hfL.block k hk fun e => e⟩
  rw [hWL]
  clear hWL
  refine wpIn_rangeFunc_ownH rfl (by decide) (gf := gf) (lb := lb) rfl trivial eg HS.out walksK_t walksK_b hbL (fun _ => rfl)
    (fun xs W => (∃ u, Boxed W w.heap.size 47 u ∧ Oc W w.heap.size u xs) ∧ Below w.heap.size w W)
    (fun _ _ _ => False)
    ?hI (fun _ _ _ _ _ h _ _ => h.elim)
    ⟨⟨_, hx4, oc_nil _ _⟩, hbL⟩
    (fun x a' W => ∃ g, ClB W g x ∧ a' = { tmps := #[.slice none 0 0, .func (.func gf) #[] lb, .pointer (some ⟨w.heap.size, 0, none⟩), undef, .slice none 0 0, .pointer (some ⟨g, 0, none⟩), .func (.func gf) #[] lb, clV x, undef, undef, undef, undef, undef], defers := [] }) ?hAx ?assign ?body ?done ?stop
  case hI =>
    intro xs X Y row ⟨⟨u, h1, h2⟩, h4⟩ hg hr
    exact ⟨⟨u, boxed_own2 h1 hg fun r e => (hr r e).2, oc_own2 h2 hg fun r e => (hr r e).2⟩, h4.grown hg (by have := h4.size; omega) fun r e => by have := (hr r e).1; omega⟩
  case hAx =>
    intro x a' _ X Y row ⟨g, h1, h2⟩ hg hr
    exact ⟨g, clB_own2 h1 hg fun r e => (hr r e).2, h2⟩
  case assign =>
    intro r pre x W K ⟨⟨u, h1, h2⟩, h4⟩ hK
    obtain ⟨xn, xi, xt⟩ := x
    unfold clV clC at hK ⊢
    dsimp only at hK ⊢
    gi_wp2
    obtain ⟨W2, hW2⟩ : ∃ W2, W.alloc (.cells #[.bool xn, .int .i64 xi, .string ⟨xt.toArray⟩] 25) = W2 := ⟨_, rfl⟩
    have hf : Fr Non W W2 := by rw [← hW2]; exact (Fr.refl _ W).alloc _
    have hko : KeepsOthers W W2 := keepsO_fr hf (fun k e => e.elim)
    have hcl : ClB W2 W.heap.size ⟨xn, xi, xt⟩ := by rw [← hW2]; exact cl_new _ ⟨xn, xi, xt⟩
    rw [hW2]
    exact hK _ _ (hko.from _) hko.walks ⟨⟨u, boxed_fr2 h1 hf (fun e => e), h2.non hf⟩, h4.trans ⟨hf.os, hf.tape, hf.output, hf.size, fun k hk => hf.block k (by have := h4.size; omega) fun e => e⟩⟩ ⟨_, hcl, rfl⟩
  case stop =>
    rintro D cc xs W _ _ h _
    exact h.elim
  case body =>
    rintro r xs x a' W hl hrec ⟨⟨u, h4, ho⟩, hb⟩ ⟨g, hcl, rfl⟩ hlen
    have HH4 := Lib.hid h4
    have HO := Lib.hid ho
    have HB := Lib.hid hb
    have hws := hb.size
    have c4 := h4.cell
    have f4 := h4.frozen
    obtain ⟨xn, xi, xt⟩ := x
    obtain ⟨k0, k1, k2, k3, k4, k5⟩ := hcl.facts
    unfold clV clC
    dsimp only at k0 k1 k2 ⊢
    obtain ⟨ii, hi, hz0, hz1, hz2⟩ := info_parts info_cl
    obtain ⟨Au, cu, huv⟩ := ho.shape
    subst huv
    have hnews : ∀ (j : Nat) (u : Value), (clL ⟨xn, xi, xt⟩)[j]? = some u → (W.alloc (.cells #[.bool xn, .int .i64 xi, .string ⟨xt.toArray⟩] 25)).cell? ((⟨W.heap.size, 0, none⟩ : Addr).add j) = some u := by
      have hbl := (cl_new W ⟨xn, xi, xt⟩).facts
      intro j u hu
      rw [Addr.add_lit, Nat.zero_add]
      match j with
      | 0 => obtain rfl : _ = u := by simpa [clL] using hu
             exact hbl.1
      | 1 => obtain rfl : _ = u := by simpa [clL] using hu
             exact hbl.2.1
      | 2 => obtain rfl : _ = u := by simpa [clL] using hu
             exact hbl.2.2.1
      | j + 3 => simp [clL] at hu
    have HN := Lib.hid hnews
    have HOA : Hid (Oc (W.alloc (.cells #[.bool xn, .int .i64 xi, .string ⟨xt.toArray⟩] 25)) w.heap.size (.slice Au xs.length cu) xs) := Lib.hid (ho.alloc _)
    clear h4 ho hb hnews
    gi_wp2_with (gi_at_builtin; refine wpListIn_append_own _ rfl (.tmp 8) (.tmp 10) 47 rfl w.heap.size 25 ii _ 3 32 Tryz.underlying47 hi hz0 hz1 hz2 rfl (by decide) _ xs.length (clsL xs) rfl HOA.out ⟨W.heap.size, 0, none⟩ 1 1 (clL ⟨xn, xi, xt⟩) rfl rfl HN.out (fun u hu => clsL_one' [⟨xn, xi, xt⟩] u (by rw [clsL_one]; exact hu)) (by unfold maxLen; omega) (by omega) (by rw [World.size_alloc]; omega) ?_; intro v2 w2 hr2 hg2 _; have ho2 : Oc w2 w.heap.size v2 (xs ++ [⟨xn, xi, xt⟩]) := (by unfold Oc; rw [clsL_app, clsL_one, List.length_append]; exact hr2); obtain ⟨A2, c2, hv2⟩ := ho2.shape; subst hv2; have hf2 : Fr (fun k => (Value.slice Au xs.length cu).ownBlock = some k) W w2 := ((Fr.refl _ _).alloc _).join (Fr.of_grown hg2) fun k hk e => e; have b42 : Boxed w2 w.heap.size 47 (.slice Au xs.length cu) := boxed_fr2 HH4.out hf2 (oc_boxed HH4.out HO.out (by decide)); have c42 := b42.cell; have f42 := b42.frozen; have HEND := Lib.hid (seq_end (B := WL.heap.size) HH4.out HO.out HB.out (Nat.le_refl _) hf2 ho2); clear hr2 hg2 ho2 hf2 b42)
    simp only [ownPostG]
    have h9 := HEND.out
    rw [List.length_append] at h9
    exact h9
  case done =>
    rintro D xs W hD hp1 ⟨⟨u, h4, ho⟩, hb⟩ hK
    have c4 := h4.cell
    gi_wp2
    refine ⟨by simp, .inl ⟨_, _, rfl, run_takeDeferred (w := W) hK, ?_⟩⟩
    refine ⟨_, results_tmp rfl _ _ _, u, xs, rfl, hp1, ?_, ?_⟩
    · exact oc_own2 ho (grownBy_putObj' W D (.deferred none)) (fun r e => by cases e; exact ⟨_, hK, rfl⟩)
    · exact hb.trans (belowK_b (w := w) (Nat.le_refl _) W D _ _ (by omega) hK rfl rfl)
end Go.Proofs.YtjcfjjhhbcgcmaaGreat

namespace Go.Proofs.YtjcfjjhhbcgcmaaGreat
def lay_srf_ren : Go.Shelf.Ren := ⟨fun | 6 => 103 | 15 => 124 | 14 => 123 | 28 => 151 | 29 => 152 | 20 => 143 | 21 => 144 | 22 => 145 | 23 => 146 | 24 => 147 | 25 => 148 | 26 => 149 | 27 => 150 | 46 => 158 | 47 => 159 | 48 => 160 | 49 => 161 | 50 => 162 | 57 => 163 | n => n, fun | 22 => 47 | 24 => 25 | 25 => 51 | 3 => 3 | 39 => 145 | 0 => 0 | 53 => 162 | 55 => 164 | 4 => 4 | 46 => 156 | 45 => 155 | 50 => 82 | 5 => 5 | 9 => 9 | 66 => 169 | 70 => 173 | 76 => 175 | 77 => 176 | n => n, fun | n => n⟩
theorem lay_srf : Go.Proofs.SlLaysF0.n6 Tryz.prog lay_srf_ren := {
  mixed := by kernel_rfl
  f6 := ⟨Tryz.f103.name, by decide, Tryz.func103.trans (congrArg some (by kernel_rfl))⟩
  f14 := ⟨Tryz.f123.name, by decide, Tryz.func123.trans (congrArg some (by kernel_rfl))⟩
  f15 := Tryz.func124.trans (congrArg some (by kernel_rfl))
  f20 := ⟨Tryz.f143.name, by decide, Tryz.func143.trans (congrArg some (by kernel_rfl))⟩
  f21 := ⟨Tryz.f144.name, by decide, Tryz.func144.trans (congrArg some (by kernel_rfl))⟩
  f22 := ⟨Tryz.f145.name, by decide, Tryz.func145.trans (congrArg some (by kernel_rfl))⟩
  f23 := ⟨Tryz.f146.name, by decide, Tryz.func146.trans (congrArg some (by kernel_rfl))⟩
  f24 := ⟨Tryz.f147.name, by decide, Tryz.func147.trans (congrArg some (by kernel_rfl))⟩
  f25 := ⟨Tryz.f148.name, by decide, Tryz.func148.trans (congrArg some (by kernel_rfl))⟩
  f26 := ⟨Tryz.f149.name, by decide, Tryz.func149.trans (congrArg some (by kernel_rfl))⟩
  f27 := ⟨Tryz.f150.name, by decide, Tryz.func150.trans (congrArg some (by kernel_rfl))⟩
  f28 := Tryz.func151.trans (congrArg some (by kernel_rfl))
  f29 := Tryz.func152.trans (congrArg some (by kernel_rfl))
  f46 := ⟨Tryz.f158.name, by decide, Tryz.func158.trans (congrArg some (by kernel_rfl))⟩
  f47 := Tryz.func159.trans (congrArg some (by kernel_rfl))
  f48 := Tryz.func160.trans (congrArg some (by kernel_rfl))
  f49 := ⟨Tryz.f161.name, by decide, Tryz.func161.trans (congrArg some (by kernel_rfl))⟩
  f50 := ⟨Tryz.f162.name, by decide, Tryz.func162.trans (congrArg some (by kernel_rfl))⟩
  f57 := ⟨Tryz.f163.name, by decide, Tryz.func163.trans (congrArg some (by kernel_rfl))⟩
  t0 := Tryz.underlying0
  a0 := Tryz.isAgg0
  z0 := Tryz.sizeOf0
  v0 := Tryz.zeroValue0
  t3 := Tryz.underlying3
  a3 := Tryz.isAgg3
  z3 := Tryz.sizeOf3
  v3 := Tryz.zeroValue3
  t4 := Tryz.underlying4
  a4 := Tryz.isAgg4
  z4 := Tryz.sizeOf4
  v4 := Tryz.zeroValue4
  t5 := Tryz.underlying5
  a5 := Tryz.isAgg5
  z5 := Tryz.sizeOf5
  v5 := Tryz.zeroValue5
  t9 := Tryz.underlying9
  a9 := Tryz.isAgg9
  z9 := Tryz.sizeOf9
  v9 := Tryz.zeroValue9
  t22 := Tryz.underlying47
  a22 := Tryz.isAgg47
  z22 := Tryz.sizeOf47
  v22 := Tryz.zeroValue47
  t25 := Tryz.underlying51
  a25 := Tryz.isAgg51
  z25 := Tryz.sizeOf51
  v25 := Tryz.zeroValue51
  t39 := Tryz.underlying145
  a39 := Tryz.isAgg145
  z39 := Tryz.sizeOf145
  v39 := Tryz.zeroValue145
  t45 := Tryz.underlying155
  a45 := Tryz.isAgg155
  z45 := Tryz.sizeOf155
  v45 := Tryz.zeroValue155
  t46 := Tryz.underlying156
  a46 := Tryz.isAgg156
  z46 := Tryz.sizeOf156
  v46 := Tryz.zeroValue156
  t50 := Tryz.underlying82
  a50 := Tryz.isAgg82
  z50 := Tryz.sizeOf82
  v50 := Tryz.zeroValue82
  t53 := Tryz.underlying162
  a53 := Tryz.isAgg162
  z53 := Tryz.sizeOf162
  v53 := Tryz.zeroValue162
  t55 := Tryz.underlying164
  a55 := Tryz.isAgg164
  z55 := Tryz.sizeOf164
  v55 := Tryz.zeroValue164
  t66 := Tryz.underlying169
  a66 := Tryz.isAgg169
  z66 := Tryz.sizeOf169
  v66 := Tryz.zeroValue169
  t70 := Tryz.underlying173
  a70 := Tryz.isAgg173
  z70 := Tryz.sizeOf173
  v70 := Tryz.zeroValue173
  t76 := Tryz.underlying175
  a76 := Tryz.isAgg175
  z76 := Tryz.sizeOf175
  v76 := Tryz.zeroValue175
  t77 := Tryz.underlying176
  a77 := Tryz.isAgg176
  z77 := Tryz.sizeOf176
  v77 := Tryz.zeroValue176 }
end Go.Proofs.YtjcfjjhhbcgcmaaGreat

namespace Go.Proofs.YtjcfjjhhbcgcmaaGreat
open Go.RowKit Go.Shelf Go.Maps
open Go.Sort (HoldsK Holds flatK putRow putRowK putCells mapBlock onCells SWO PermIn SortedIn grow size_flatK get_flatK)
instance inh_cl : Inhabited Cl := ⟨⟨false, 0, []⟩⟩
theorem grow_two (w : World) (A B : Obj) : ∃ q os', (w.alloc A).alloc B = grow (w.drewN q) os' :=
  ⟨0, #[A, B], by rw [Go.Sort.alloc_eq_grow, Go.Sort.alloc_eq_grow, Go.Sort.grow_grow]; rfl⟩
theorem order_grows (a b : Cl) (w : World) : Calls Tryz.prog 72 #[clV a, clV b] w fun e w' => e = .returned (.int .i64 (ordC a b)) ∧ ∃ q os', w' = grow (w.drewN q) os' := by
  obtain ⟨an, ai, at_⟩ := a
  obtain ⟨bn, bi, bt⟩ := b
  unfold clV clC
  have HG := Lib.hid (grow_two w)
  cases an <;> cases bn
  case false.true =>
    go_enter Tryz.func72, Tryz.ntmps72
    go_wp2
    go_ret
    exact ⟨rfl, HG.out _ _⟩
  case true.false =>
    go_enter Tryz.func72, Tryz.ntmps72
    go_wp2
    go_ret
    exact ⟨rfl, HG.out _ _⟩
  all_goals
    by_cases h : ai = bi
    · have HI := Lib.hid h
      have hb : (ai != bi) = false := by rw [h]; simp
      clear h
      go_enter Tryz.func72, Tryz.ntmps72
      go_wp2_with fail
      refine (cmpt_any at_ bt _).mono ?_
      rintro e w1 ⟨rfl, rfl⟩
      go_wp2
      go_ret
      exact ⟨ret_int (by rw [ordC_mk]; exact (if_pos HI.out).symm), HG.out _ _⟩
    · have HI := Lib.hid h
      have hb : (ai != bi) = true := by simpa using h
      clear h
      go_enter Tryz.func72, Tryz.ntmps72
      go_wp2_with fail
      refine (cmpi_any ai bi _).mono ?_
      rintro e w1 ⟨rfl, rfl⟩
      go_wp2
      go_ret
      exact ⟨ret_int (by rw [ordC_mk]; exact (if_neg HI.out).symm), HG.out _ _⟩
theorem ltC_is (a b : Cl) : ltOf ordC a b = decide (ordC a b < 0) := rfl
theorem order_swo : SWO (ltOf ordC) where
  irrefl x := by rw [ltC_is]; simpa using ordC_irr x
  trans x y z h1 h2 := by rw [ltC_is] at *; simp only [decide_eq_true_eq] at *; exact ordC_lt h1 h2
  ntrans x y z h1 h2 := by
    rw [ltC_is] at *
    simp only [decide_eq_false_iff_not] at *
    have n1 := ordC_neg x y
    have n2 := ordC_neg y z
    have n3 := ordC_neg x z
    have := ordC_trans (a := z) (b := y) (c := x) (by omega) (by omega)
    omega
theorem flat_cl (l : List Cl) : flatK clL 3 l.toArray = (clsL l).toArray := by
  refine Array.ext (by rw [size_flatK]; simp [clsL_len]) fun t h1 h2 => ?_
  have ht : t < l.length * 3 := by rw [size_flatK] at h1; simpa using h1
  have hq : t / 3 < l.length := by omega
  have e1 := get_flatK clL 3 l.toArray t (by simpa using ht)
  rw [getElem!_pos _ t h1] at e1
  rw [e1]
  have e2 := clsL_at l (t / 3) (t % 3) hq (by omega)
  rw [show t / 3 * 3 + t % 3 = t by omega] at e2
  have e3 : (clsL l).toArray[t] = (clsL l)[t]'(by simpa using h2) := rfl
  rw [e3]
  have hl : (clL l[t / 3]).length = 3 := rfl
  have e4 : (l.toArray)[t / 3]! = l[t / 3] := by rw [getElem!_pos _ _ (by simpa using hq)]; rfl
  rw [e4, getElem!_pos _ _ (by rw [hl]; omega)]
  rw [List.getElem?_eq_getElem (by simpa using h2), List.getElem?_eq_getElem (by rw [hl]; omega)] at e2
  exact (Option.some.inj e2).symm
theorem oc_holds {w : World} {B g cap : Nat} {l : List Cl} (h : Oc w B (.slice (some ⟨g, 0, none⟩) l.length cap) l) : HoldsK clL 3 w g 0 l.toArray := by
  unfold HoldsK
  rw [flat_cl]
  intro j hj
  have hj' : j < (clsL l).length := by simpa using hj
  refine ⟨?_, by rw [Nat.zero_add]; exact h.frozen rfl j⟩
  rw [Nat.zero_add, World.ownsRow.cellAt h j (by rw [clsL_len] at hj'; omega), List.getElem?_eq_getElem hj']
  show some (clsL l)[j] = some ((clsL l).toArray[j]!)
  rw [getElem!_pos (clsL l).toArray j hj]; rfl
theorem sorted_oc {w : World} {B g cap n : Nat} {os : Array Obj} {l m : List Cl} (hl : m.length = l.length) (h : Oc w B (.slice (some ⟨g, 0, none⟩) l.length cap) l) :
    Oc (sortWorldK clL 3 w g 0 n m.toArray os) B (.slice (some ⟨g, 0, none⟩) l.length cap) m ∧ Fr (One g) w (sortWorldK clL 3 w g 0 n m.toArray os) := by
  rcases h.2 with ⟨hv, _⟩ | ⟨g', cap', cur, hv, hbase, hb, h1, h2, h3, h4⟩
  · cases hv
  · obtain ⟨rfl, rfl⟩ : g = g' ∧ cap = cap' := by simpa using hv
    have hg : g < w.heap.size := (Array.getElem?_eq_some_iff.1 hb).1
    unfold sortWorldK putRowK
    rw [flat_cl]
    have hheap : (grow (putRow id (Go.Sort.ahead w n) g 0 (clsL m).toArray) os).heap[g]? = some (.cells (putCells id 0 (clsL m).toArray cur) 25 (0, 0)) := by
      rw [Go.Sort.heap_grow_old _ _ (by simpa using hg)]
      simp [putRow, mapBlock, Go.Sort.ahead, Array.getElem?_modify, hb, onCells]
    have htake : (putCells id 0 (clsL m).toArray cur).toList.take (m.length * 3) = clsL m := by
      have hlen : (clsL m).length = m.length * 3 := clsL_len m
      rw [← hlen]
      apply List.ext_getElem?
      intro j
      by_cases hj : j < (clsL m).length
      · rw [List.getElem?_take_of_lt hj, Array.getElem?_toList]
        simp [putCells, hj, show j < cur.size by rw [h3]; omega]
      · rw [List.getElem?_take_eq_none (by omega), List.getElem?_eq_none (by omega)]
    refine ⟨⟨by rw [clsL_len], .inr ⟨g, cap, _, by rw [hl], hbase, hheap, by omega, h2, by simp [putCells, h3], htake⟩⟩, ⟨rfl, rfl, rfl, by simp, fun k hk hne => ?_⟩⟩
    rw [Go.Sort.heap_grow_old _ _ (by simpa using hk)]
    have : g ≠ k := fun e => hne e.symm
    simp [putRow, mapBlock, Go.Sort.ahead, Array.getElem?_modify, this]
def Asc (l : List Cl) : Prop := ∀ i j (hi : i < l.length) (hj : j < l.length), i < j → ¬ ordC l[j] l[i] < 0
theorem asc_rise {l : List Cl} (h : Asc l) (hn : l.Nodup) : Rise l := by
  induction l with
  | nil => trivial
  | cons a l ih =>
    refine ⟨fun b hb => ?_, ih (fun i j hi hj hij => h (i + 1) (j + 1) (by simpa using hi) (by simpa using hj) (by omega)) (List.nodup_cons.1 hn).2⟩
    obtain ⟨j, hj, rfl⟩ := List.mem_iff_getElem.1 hb
    have h1 := h 0 (j + 1) (by simp) (by simpa using hj) (by omega)
    simp only [List.getElem_cons_succ, List.getElem_cons_zero] at h1
    have h2 := ordC_neg a l[j]
    have h3 : ordC a l[j] ≠ 0 := fun e => (List.nodup_cons.1 hn).1 (by
      have := ordC_zero a l[j]
      rw [e] at this
      rw [ceq_is this.symm]; exact hb)
    omega
theorem collect_any (gf : Nat) (lb : Array Value) (S : List Cl → Prop) (N : Nat) (hN : N ≤ 1000000000) (w : World) (hseq : SeqStopsK Fence.wide 6 Tryz.prog gf lb (fun x : Cl => #[clV x]) KeepsWalks S (fun _ => True) N w)
    (eg : ∀ args w, (callFunc gf args).run Tryz.prog w = .ok (.enter gf args) w) :
    Calls Tryz.prog 102 #[.func (.func gf) #[] lb] w fun e w' => ∃ u ss, e = .returned u ∧ S ss ∧ Oc w' w.heap.size u ss ∧ Below w.heap.size w w' := by
  have H := Lib.hid (appseq_any gf lb S N hN w hseq eg)
  clear hseq eg
  go_enter Tryz.func102, Tryz.ntmps102
  go_wp2_with fail
  refine H.out.mono ?_
  rintro e w1 ⟨u, ss, rfl, h1, h2, h3⟩
  go_wp2
  go_ret
  exact ⟨u, ss, rfl, h1, h2, h3⟩
theorem sort_rows_nil (p : Option Addr) (cap : Nat) (fv : Value) (w : World) : Calls Tryz.prog 143 #[.slice p 0 cap, .int .i64 0, .int .i64 0, fv] w fun e w' => e = .returned (.tuple #[]) ∧ w = w' := by
  go_enter Tryz.func143, Tryz.ntmps143
  go_wp2
  refine wp_loop_rounds 1 ?_
  rw [rounds_succ]
  go_wp2
  go_end0
  exact ⟨rfl, rfl⟩
theorem sort_pdq_nil (p : Option Addr) (cap : Nat) (lim : Int) (fv : Value) (w : World) : Calls Tryz.prog 123 #[.slice p 0 cap, .int .i64 0, .int .i64 0, .int .i64 lim, fv] w fun e w' => e = .returned (.tuple #[]) ∧ w = w' := by
  have hi := fun W => sort_rows_nil p cap fv W
  go_enter Tryz.func123, Tryz.ntmps123
  go_wp2
  refine wp_loop_rounds 1 ?_
  rw [rounds_succ]
  go_wp2_with (go_at_call 143; refine (hi _).mono ?_; rintro e w' ⟨rfl, rfl⟩)
  (try simp only [Exit.inBlock, Exit.then]); refine bodyPost_ret (results_none rfl _ _ _) rfl ?_
  exact ⟨rfl, rfl⟩
theorem sort_nil (p : Option Addr) (cap : Nat) (fv : Value) (w : World) : Calls Tryz.prog 103 #[.slice p 0 cap, fv] w fun e w' => e = .returned (.tuple #[]) ∧ w = w' := by
  have hp := fun lim W => sort_pdq_nil p cap lim fv W
  have hl : ∀ W, Calls Tryz.prog 124 #[.int .u64 0] W fun e w' => e = .returned (.int .i64 (Lib.bitLen 0 : Nat)) ∧ w' = W := fun W => by
    have h := Any.bits_Len (SlLaysF0.n15.bits (P := Tryz.prog) (ρ := lay_srf_ren) { lay_srf with }) 0 W (by omega) (by omega)
    exact h
  go_enter Tryz.func103, Tryz.ntmps103
  go_wp2_with (first | (go_at_call 124; refine (hl _).mono ?_; rintro e w' ⟨rfl, rfl⟩) | (go_at_call 123; refine (hp _ _).mono ?_; rintro e w' ⟨rfl, rfl⟩))
  go_end0
  exact ⟨rfl, rfl⟩
theorem sort_any (B : Nat) (v : Value) (l : List Cl) (w : World) (hv : Oc w B v l) (hl : l.length ≤ 1000000000) :
    Calls Tryz.prog 103 #[v, .func (.func 72) #[] #[]] w fun e w' => ∃ m, e = .returned (.tuple #[]) ∧ m.Perm l ∧ Asc m ∧ Oc w' B v m ∧ Fr (fun k => v.ownBlock = some k) w w' := by
  by_cases h0 : l.length = 0
  · have hl0 : l = [] := List.eq_nil_of_length_eq_zero h0
    subst hl0
    obtain ⟨A, c, rfl⟩ := hv.shape
    refine (sort_nil A c _ w).mono ?_
    rintro e w' ⟨rfl, rfl⟩
    exact ⟨[], rfl, List.Perm.refl _, (fun i j hi => by cases hi), hv, Fr.refl _ _⟩
  · obtain ⟨g, cap, rfl, hBg, hgw, h1, h2⟩ := hv.row (by omega)
    have hcon := AnyQ.slices_SortFunc (α := Cl) lay_srf 3 Tryz.isAgg25 Tryz.sizeOf25 clL (fun _ => rfl) (fun x u hu => clsL_one' [x] u (by rw [clsL_one]; exact hu)) ordC order_swo 72 #[] g 0 cap l.toArray w
      (enters_of Tryz.func72 (by kernel_rfl) rfl) (fun m os dk hs x y => order_grows x y _) (oc_holds hv) hgw (by simp; omega)
    change Calls Tryz.prog 103 _ _ _ at hcon
    refine hcon.mono ?_
    rintro e w' ⟨rfl, d', n, os, hp, hs, rfl⟩
    have hsz : d'.size = l.length := by simpa using hp.1
    have hlen : d'.toList.length = l.length := by simpa using hsz
    obtain ⟨h3, h4⟩ := sorted_oc (n := n) (os := os) (m := d'.toList) hlen hv
    refine ⟨d'.toList, rfl, ?_, fun i j hi hj hij => ?_, h3, h4.mono (fun k _ e => by rw [show k = g from e]; rfl)⟩
    · have h5 := hp.2.2
      rw [show l.toArray.size = d'.size by simp [hsz]] at h5
      have e1 : d'.extract 0 d'.size = d' := by simp
      have e2 : (l.toArray).extract 0 d'.size = l.toArray := by rw [hsz]; simp
      rw [e1, e2] at h5
      simpa using h5
    · have hj' : j < d'.size := by simpa using hj
      have h5 := hs i j (Nat.zero_le _) hij (by simpa [hsz] using hj')
      rw [getElem!_pos d' j hj', getElem!_pos d' i (by omega), ltC_is] at h5
      simpa using h5
theorem sortedf_any (gf : Nat) (lb : Array Value) (S : List Cl → Prop) (N : Nat) (hN : N ≤ 1000000000) (hSN : ∀ ss, S ss → ss.length ≤ 1000000000) (w : World) (hseq : SeqStopsK Fence.wide 6 Tryz.prog gf lb (fun x : Cl => #[clV x]) KeepsWalks S (fun _ => True) N w)
    (eg : ∀ args w, (callFunc gf args).run Tryz.prog w = .ok (.enter gf args) w) :
    Calls Tryz.prog 70 #[.func (.func gf) #[] lb, .func (.func 72) #[] #[]] w fun e w' => ∃ u ss m, e = .returned u ∧ S ss ∧ m.Perm ss ∧ Asc m ∧ Oc w' w.heap.size u m ∧ Fr Non w w' := by
  have H := Lib.hid (collect_any gf lb S N hN w hseq eg)
  have HS := Lib.hid hSN
  clear hseq eg hSN
  go_enter Tryz.func70, Tryz.ntmps70
  go_wp2_with fail
  refine H.out.mono ?_
  rintro e w1 ⟨u, ss, rfl, h1, h2, h3⟩
  have H1 := Lib.hid h1
  have H2 := Lib.hid h2
  have HF : Hid (Fr Non w w1) := Lib.hid (Fr.of_below h3)
  clear h1 h2 h3
  go_wp2_with fail
  refine (sort_any w.heap.size u ss w1 H2.out (HS.out ss H1.out)).mono ?_
  rintro e w2 ⟨m, rfl, h4, h5, h6, h7⟩
  have HF2 : Hid (Fr Non w w2) := Lib.hid (HF.out.fresh h7 (fun k e => (H2.out.lt k e).1))
  have H4 := Lib.hid h4
  have H6 := Lib.hid h6
  have H5 := Lib.hid h5
  clear h4 h5 h6 h7
  go_wp2
  go_ret
  exact ⟨u, ss, m, rfl, H1.out, H4.out, H5.out, H6.out, HF2.out⟩
theorem skeys_any (z : Value) (Bm b nn : Nat) (ks L : List Cl) (g : Cl → Value) (w : World) (hBm : w.cell? ⟨Bm, 0, none⟩ = some (.map (some b))) (hm : MapG 25 litC okC z w b nn ks g) (hnn : nn ≤ 1000000000) (hks : ∀ x, x ∈ ks ↔ x ∈ L) :
    Calls Tryz.prog 70 #[.func (.func 104) #[] #[.pointer (some ⟨Bm, 0, none⟩)], .func (.func 72) #[] #[]] w fun e w' => ∃ u, e = .returned u ∧ Oc w' w.heap.size u (keysC L) ∧ Fr Non w w' := by
  refine (sortedf_any _ _ _ nn hnn (fun ss h => ?_) w (mkeys_stops 6 (by decide) z Bm b nn ks g w hBm hm) (enters_of Tryz.func104 (by kernel_rfl) rfl)).mono ?_
  · have := h.2.2; omega
  · rintro e w' ⟨u, ss, m, rfl, ⟨h1, h2, _⟩, h3, h4, h5, h6⟩
    refine ⟨u, rfl, ?_, h6⟩
    have : m = keysC L := keys_uniq (asc_rise h4 (h3.nodup_iff.2 h1)) (fun c => by rw [h3.mem_iff, h2 c, hks c])
    rw [← this]; exact h5
end Go.Proofs.YtjcfjjhhbcgcmaaGreat

namespace Go.Proofs.YtjcfjjhhbcgcmaaGreat
open Go.RowKit
set_option maxHeartbeats 16000000 in
theorem ggrouped_any (v0 v2 : Value) (cols : List Co) (q : Qy) (c : Value) (s : Kv) (g : Value) (rows : List (List Cl)) (w : World) (h0 : Ks w v0 cols) (hq : QyS w q c s g) (h2 : Rs w v2 rows) (hcl : cols.length ≤ 1000) (hal : q.aggs.length ≤ 1000) (hrl : rows.length ≤ 100000) (hc0 : 0 < cols.length) (hr : ∀ r ∈ rows, r.length = cols.length) (hok : ∀ r ∈ rows, okC (atC r (plN cols q.by_))) :
    Calls Tryz.prog 43 #[v0, qyV q c s g, v2] w fun e w' => ∃ u, e = .returned u ∧ Ro w' w.heap.size u ((keysC (rows.map fun r => atC r (plN cols q.by_))).map fun c => c :: q.aggs.map (agP cols (rows.filter fun r => ceq (atC r (plN cols q.by_)) c))) ∧ Fr Non w w' := by
  have HPl : Hid (∀ n W, Fr Non w W → Calls Tryz.prog 35 #[v0, .string ⟨n.toArray⟩] W fun e w' => e = .returned (.int .i64 (plN cols n : Int)) ∧ Fr Non W w') := Lib.hid (fun n W hf => gplace_any v0 cols n W (h0.non hf) (by omega))
  have hP : plN cols q.by_ < cols.length := plN_lt _ hc0
  have HGr : Hid (∀ W, Fr Non w W → Calls Tryz.prog 69 #[v2, .int .i64 (plN cols q.by_ : Int)] W fun e w' => ∃ b n ks g, e = .returned (.map (some b)) ∧ MapG 25 litC okC nilS w' b n ks g ∧ n ≤ rows.length ∧ (∀ c, c ∈ ks ↔ c ∈ rows.map fun r => atC r (plN cols q.by_)) ∧ (∀ c, Rs w' (g c) (rows.filter fun r => ceq (atC r (plN cols q.by_)) c)) ∧ Fr Non W w') := Lib.hid (fun W hf => ggroups_any v2 rows (plN cols q.by_) W (h2.non hf) hrl (fun r h => by rw [hr r h]; exact hP) hok)
  have HVl : Hid (∀ gv c W, Fr Non w W → Rs W gv (rows.filter fun r => ceq (atC r (plN cols q.by_)) c) → Calls Tryz.prog 42 #[v0, g, gv] W fun e w' => ∃ u, e = .returned u ∧ Oc w' W.heap.size u (q.aggs.map (agP cols (rows.filter fun r => ceq (atC r (plN cols q.by_)) c))) ∧ Fr Non W w') := Lib.hid (fun gv c W hf hR => gvalues_any v0 g gv cols q.aggs _ W (h0.non hf) (hq.aggs.non hf) hR hcl hal (Nat.le_trans (List.length_filter_le _ _) hrl) hc0 (fun r h => hr r (List.mem_filter.1 h).1))
  have HOK : Hid (∀ c ∈ keysC (rows.map fun r => atC r (plN cols q.by_)), okC c) := Lib.hid (fun c h => by
    obtain ⟨r, hr1, rfl⟩ := List.mem_map.1 ((keys_mem _ _).1 h)
    exact hok r hr1)
  have HKLl : Hid ((keysC (rows.map fun r => atC r (plN cols q.by_))).length ≤ 100000) := Lib.hid (Nat.le_trans (keys_len _) (by rw [List.length_map]; exact hrl))
  obtain ⟨A0, c0, rfl⟩ := h0.shape
  obtain ⟨A2, c2, rfl⟩ := h2.shape
  obtain ⟨cA, cc, hce⟩ := hq.cols.shape
  obtain ⟨gA, gc, hge⟩ := hq.aggs.shape
  have F0 : Fr Non w (w.alloc (.cells (qyC q c s g) 31)) := (Fr.refl Non w).alloc _
  have QB0 : Hid (QB _ w.heap.size q c s g) := Lib.hid (qy_new w _ q c s g rfl)
  clear hq h0 h2 hok hr
  obtain ⟨tab, qc, ⟨⟨wo, wc, wm, ⟨wn, wi, wt⟩, wk, wp⟩, wks⟩, aggs, by_⟩ := q
  obtain ⟨sA, sn, sc⟩ := s
  dsimp only at hce hge hal HGr HVl HOK HKLl hP ⊢
  subst hce hge
  have HPy := Lib.hid (HPl.out by_)
  obtain ⟨P, hPe⟩ : ∃ P, plN cols by_ = P := ⟨_, rfl⟩
  rw [hPe] at HPy HGr HVl HOK HKLl hP ⊢
  clear hPe HPl
  unfold qyC kidV at F0 QB0
  unfold qyV qyC kidV
  dsimp only [Pd.hd, Pd.kids] at F0 QB0 ⊢
  obtain ⟨b, hb⟩ : ∃ b, w.heap.size = b := ⟨_, rfl⟩
  have HB := Lib.hid hb
  rw [hb] at QB0
  replace QB0 : Hid (QB _ b ⟨tab, qc, ⟨⟨wo, wc, wm, ⟨wn, wi, wt⟩, wk, wp⟩, wks⟩, aggs, by_⟩ (.slice cA qc.length cc) ⟨sA, sn, sc⟩ (.slice gA aggs.length gc)) := QB0
  obtain ⟨b0, b1, b2, b3, b4, b5, b6, b7, b8, b9, b10, b11, b12⟩ := qB_cells QB0.out
  dsimp only [Pd.hd, Pd.kids] at b0 b1 b2 b3 b4 b5 b6 b7 b8 b9 b10 b11 b12
  replace F0 := Lib.hid F0
  go_enter Tryz.func43, Tryz.ntmps43
  clear b0 b1 b2 b3 b4 b5 b6 b7 b8 b9 b10 b11
  go_wp2_with fail
  refine (HPy.out _ F0.out).mono ?_
  rintro e w1 ⟨rfl, f1⟩
  replace QB0 : Hid (QB w1 b ⟨tab, qc, ⟨⟨wo, wc, wm, ⟨wn, wi, wt⟩, wk, wp⟩, wks⟩, aggs, by_⟩ (.slice cA qc.length cc) ⟨sA, sn, sc⟩ (.slice gA aggs.length gc)) := Lib.hid (QB0.out.fr f1 (fun e => e))
  replace F0 := Lib.hid (F0.out.trans f1)
  clear f1 b12
  go_wp2_with fail
  refine (HGr.out _ F0.out).mono ?_
  rintro e w2 ⟨mb, nn, ks, gg, rfl, hmap, hnn, hks, hrs, f2⟩
  have HMap0 := Lib.hid hmap
  have HKs := Lib.hid hks
  have HRS0 := Lib.hid hrs
  have HNN := Lib.hid (show nn ≤ 1000000000 by omega)
  replace QB0 : Hid (QB w2 b ⟨tab, qc, ⟨⟨wo, wc, wm, ⟨wn, wi, wt⟩, wk, wp⟩, wks⟩, aggs, by_⟩ (.slice cA qc.length cc) ⟨sA, sn, sc⟩ (.slice gA aggs.length gc)) := Lib.hid (QB0.out.fr f2 (fun e => e))
  replace F0 := Lib.hid (F0.out.trans f2)
  clear f2 hmap hks hrs hnn HGr HPy
  go_wp2_with fail
  refine (mkeys_any (some mb) w2).mono ?_
  rintro e w4 ⟨rfl, hw4⟩
  have f4 : Fr Non w2 w4 := by rw [hw4]; exact (Fr.refl Non w2).alloc _
  have hbox : w4.cell? ⟨w2.heap.size, 0, none⟩ = some (.map (some mb)) := by rw [hw4]; exact cell_new1 _ _ _
  have HSk := Lib.hid (skeys_any nilS w2.heap.size mb nn ks (rows.map fun r => atC r P) gg w4 hbox (HMap0.out.non f4) HNN.out HKs.out)
  have F4 := Lib.hid f4
  clear hw4 f4 hbox
  go_wp2_with fail
  refine HSk.out.mono ?_
  rintro e w3 ⟨u, rfl, hu, f3⟩
  have F23 := Lib.hid (F4.out.trans f3)
  have HMap := Lib.hid (HMap0.out.non F23.out)
  have HQ3 : Hid (w3.cell? ⟨b, 11, none⟩ = some (.slice gA aggs.length gc)) := Lib.hid (by
    obtain ⟨b0, b1, b2, b3, b4, b5, b6, b7, b8, b9, b10, b11, b12⟩ := qB_cells QB0.out
    exact F23.out.at0 b11)
  have HbM : Hid (b < w3.heap.size) := Lib.hid (by have := QB0.out.lt; have := F23.out.size; omega)
  have HmM : Hid (mb < w3.heap.size) := Lib.hid HMap.out.lt
  have F3 := Lib.hid (F0.out.trans F23.out)
  have HRS : Hid (∀ c, Rs w3 (gg c) (rows.filter fun r => ceq (atC r P) c)) := Lib.hid (fun c => (HRS0.out c).non F23.out)
  have HVA : Hid (∀ c W, Fr Non w3 W → Calls Tryz.prog 42 #[.slice A0 cols.length c0, .slice gA aggs.length gc, gg c] W fun e w' => ∃ u, e = .returned u ∧ Oc w' W.heap.size u (aggs.map (agP cols (rows.filter fun r => ceq (atC r P) c))) ∧ Fr Non W w') := Lib.hid (fun c W hf => HVl.out (gg c) c W (F3.out.trans hf) ((HRS.out c).non hf))
  have HKL0 := Lib.hid hu.cs
  obtain ⟨KL, hKL⟩ : ∃ l, keysC (rows.map fun r => atC r P) = l := ⟨_, rfl⟩
  rw [hKL] at HKL0 HOK HKLl
  have HKe := Lib.hid hKL
  obtain ⟨uA, uc, hue⟩ := HKL0.out.shape
  subst hue
  have HKL : Hid (Cs w3 (.slice uA KL.length uc) KL) := HKL0
  obtain ⟨M, hM⟩ : ∃ M, w3.heap.size = M := ⟨_, rfl⟩
  have HMe := Lib.hid hM
  rw [hM] at HbM HmM
  clear hM hKL hu f3 HKL0 HMap0 HRS0 HVl HSk F4 F23 F0 HKs HNN
  go_wp2
  go_loopw [8, 21] (fun x i wr => ∃ (k : Nat), k ≤ KL.length ∧ i = .int .i64 k ∧ Hid (Ro wr M x ((KL.take k).map (fun c => c :: aggs.map (agP cols (rows.filter fun r => ceq (atC r P) c))))) ∧ Hid (Fr Non w3 wr)) (fun _ i _ => KL.length - (intOf i).toNat)
  case atStart => exact ⟨0, Nat.zero_le _, rfl, Lib.hid (ro_nil _ _), Lib.hid (Fr.refl _ _)⟩
  case round =>
    obtain ⟨k, hk, rfl, HO, FR⟩ := hrel
    by_cases hlt : k < KL.length
    · obtain ⟨ak, rfl, -, -, hel⟩ := (HKL.out.non FR.out).addr (show 0 < KL.length by omega)
      obtain ⟨t0, t1, t2⟩ := (hel k hlt).lit
      clear hel
      have HOk := Lib.hid (HOK.out _ (List.getElem_mem hlt))
      have HVa := Lib.hid (HVA.out KL[k])
      obtain ⟨VV, hVV⟩ : ∃ l, aggs.map (agP cols (rows.filter fun r => ceq (atC r P) KL[k])) = l := ⟨_, rfl⟩
      have HMo : Hid ((KL.take (k + 1)).map (fun c => c :: aggs.map (agP cols (rows.filter fun r => ceq (atC r P) c))) = (KL.take k).map (fun c => c :: aggs.map (agP cols (rows.filter fun r => ceq (atC r P) c))) ++ [[KL[k]] ++ VV]) := Lib.hid (by rw [List.take_succ_eq_append_getElem hlt, List.map_append, List.map_cons, List.map_nil, hVV]; rfl)
      have HVVl : Hid (VV.length ≤ 1000) := Lib.hid (by rw [← hVV, List.length_map]; exact hal)
      have HLl : Hid (((KL.take k).map (fun c => c :: aggs.map (agP cols (rows.filter fun r => ceq (atC r P) c)))).length ≤ 100000) := Lib.hid (by rw [List.length_map, List.length_take]; have := HKLl.out; omega)
      rw [hVV] at HVa
      clear hVV
      obtain ⟨Gv, hGv⟩ : ∃ x, gg KL[k] = x := ⟨_, rfl⟩
      have HRc := Lib.hid (HRS.out KL[k])
      rw [hGv] at HVa HRc
      have HGv := Lib.hid hGv
      clear hGv
      obtain ⟨gvA, gvc, hgve⟩ := HRc.out.shape
      generalize (rows.filter fun r => ceq (atC r P) KL[k]).length = gvn at *
      subst hgve
      clear HRc
      generalize (KL.take k).map (fun c => c :: aggs.map (agP cols (rows.filter fun r => ceq (atC r P) c))) = L at *
      generalize KL[k] = key at *
      obtain ⟨cn, ci, ct⟩ := key
      dsimp only at t0 t1 t2
      obtain ⟨Ax, cx, hx⟩ := HO.out.shape
      subst hx
      obtain ⟨D, hD⟩ : ∃ D, wr.heap.size = D := ⟨_, rfl⟩
      obtain ⟨w1, hw1⟩ : ∃ W, W = wr.alloc (.cells #[.bool cn, .int .i64 ci, .string ⟨ct.toArray⟩] 25) := ⟨_, rfl⟩
      have HCB : Hid (ClB w1 D ⟨cn, ci, ct⟩) := Lib.hid (by rw [hw1, ← hD]; exact cl_new _ ⟨cn, ci, ct⟩)
      have f1 : Fr Non wr w1 := by rw [hw1]; exact (Fr.refl Non wr).alloc _
      have F31 := Lib.hid (FR.out.trans f1)
      have HO1 := Lib.hid (HO.out.non f1)
      have HM1 : Hid (M ≤ w1.heap.size) := Lib.hid (by have := F31.out.size; have := HMe.out; omega)
      have s3 := F31.out.at0 HQ3.out
      have sM := HMap.out.non F31.out
      obtain ⟨s0, s1, s2, z0, z1, z2⟩ := ClB.facts HCB.out
      dsimp only at s0 s1 s2
      go_wp2
      rw [← hw1]
      clear hw1 f1 hD z0 z1 z2 t0 t1 t2
      obtain ⟨V, hV⟩ : ∃ V, V = w1.drew := ⟨_, rfl⟩
      refine wp_region_held_drew (S := (fun W' => W'.cell? ⟨D, 0, none⟩ = some (.bool cn) ∧ W'.cell? ⟨D, 1, none⟩ = some (.int .i64 ci) ∧ W'.cell? ⟨D, 2, none⟩ = some (.string ⟨ct.toArray⟩) ∧ W'.cell? ⟨b, 11, none⟩ = some (.slice gA aggs.length gc) ∧ MapG 25 litC okC nilS W' mb nn ks gg)) (by kernel_rfl) (by exact ⟨s0, s1, s2, s3, sM⟩) (fun hHeld => ?_)
      rw [← hV]
      rw [← hV] at hHeld
      have FV : Fr Non w1 V := by rw [hV]; exact (Fr.refl Non w1).drew
      clear hV
      replace s0 := FV.at0 s0
      replace s1 := FV.at0 s1
      replace s2 := FV.at0 s2
      replace s3 := FV.at0 s3
      replace sM := sM.non FV
      have HVV := Lib.hid (fun W (hf : Fr Non V W) => HVa.out W ((F31.out.trans FV).trans hf))
      obtain ⟨BV, hBV⟩ : ∃ B, V.heap.size = B := ⟨_, rfl⟩
      have HBV := Lib.hid hBV
      clear hBV HVa
      refine wpAnyH_take (i := 0) (oi := ⟨some 25, _, _, _, _, none⟩) (v := ?v4) rfl (by kernel_rfl) (by kernel_rfl) (by kernel_rfl) (fun _ _ _ h => h) (Or.inl ⟨by rfl, ?hy4⟩) (by assumption) ?rest4
      case hy4 => (intro wS hSw; (try dsimp only at hSw); go_simp; (try with_reducible rfl))
      (try simp only [Act.put, zA, zB, zC])
      refine wpAnyH_take (i := 1) (oi := ⟨some 26, _, _, _, _, none⟩) (v := ?v5) rfl (by kernel_rfl) (by kernel_rfl) (by kernel_rfl) (fun _ _ _ h => h) (Or.inl ⟨by rfl, ?hy5⟩) (by assumption) ?rest5
      case hy5 => (intro wS hSw; (try dsimp only at hSw); go_simp; (try with_reducible rfl))
      (try simp only [Act.put, zA, zB, zC])
      refine wpAnyH_take (i := 3) (oi := ⟨some 28, _, _, _, _, none⟩) (v := ?v6) rfl (by kernel_rfl) (by kernel_rfl) (by kernel_rfl) (fun _ _ _ h => h) (Or.inl ⟨by rfl, ?hy6⟩) (by assumption) ?rest6
      case hy6 => (intro wS hSw; (try dsimp only at hSw); go_simp; (try with_reducible rfl))
      (try simp only [Act.put, zA, zB, zC])
      refine wpAnyH_take (i := 4) (oi := ⟨some 29, _, _, _, _, none⟩) (v := ?v7) rfl (by kernel_rfl) (by kernel_rfl) (by kernel_rfl) (fun _ _ _ h => h) (Or.inl ⟨by rfl, ?hy7⟩) (by assumption) ?rest7
      case hy7 => (intro wS hSw; (try dsimp only at hSw); go_simp; (try with_reducible rfl))
      (try simp only [Act.put, zA, zB, zC])
      refine wpAnyH_take (i := 5) (oi := ⟨some 30, _, _, _, _, none⟩) (v := ?v8) rfl (by kernel_rfl) (by kernel_rfl) (by kernel_rfl) (fun _ _ _ h => h) (Or.inl ⟨by rfl, ?hy8⟩) (by assumption) ?rest8
      case hy8 => (intro wS hSw; (try dsimp only at hSw); go_simp; (try with_reducible rfl))
      (try simp only [Act.put, zA, zB, zC])
      refine wpAnyH_take (i := 6) (oi := ⟨some 31, _, _, _, _, none⟩) (v := ?v9) rfl (by kernel_rfl) (by kernel_rfl) (by kernel_rfl) (fun _ _ _ h => h) (Or.inl ⟨by rfl, ?hy9⟩) (by assumption) ?rest9
      case hy9 => (intro wS hSw; (try dsimp only at hSw); go_simp; (try with_reducible rfl))
      (try simp only [Act.put, zA, zB, zC])
      refine wpAnyH_take (i := 7) (oi := ⟨some 32, _, _, _, _, none⟩) (v := ?v10) rfl (by kernel_rfl) (by kernel_rfl) (by kernel_rfl) (fun _ _ _ h => h) (Or.inl ⟨by rfl, ?hy10⟩) (by assumption) ?rest10
      case hy10 => (intro wS hSw; (try dsimp only at hSw); go_simp; (try with_reducible rfl))
      (try simp only [Act.put, zA, zB, zC])
      refine wpAnyH_take (i := 8) (oi := ⟨some 33, _, _, _, _, none⟩) (v := ?v1) rfl (by kernel_rfl) (by kernel_rfl) (by kernel_rfl) (fun _ _ _ h => h) (Or.inl ⟨by rfl, ?hy1⟩) (by assumption) ?rest1
      case hy1 => (intro wS hSw; (try dsimp only at hSw); have hlk := hSw.2.2.2.2.look mapT_rows keyC HOk.out; unfold clV clC at hlk; dsimp only at hlk; rw [HGv.out] at hlk; go_simp; (try with_reducible rfl))
      (try simp only [Act.put, zA, zB, zC])
      refine wpAnyH_ready (rs := [2, 9]) (by kernel_rfl) (by simp) ?_
      refine AllReadyH.cons (o := ⟨some 27, _, _, _, _, none⟩) rfl (fun K hK => ?_) ?_
      · have FV0 : Fr Non V V := Fr.refl _ _
        obtain ⟨H, hH⟩ : ∃ H, V.heap.size = H := ⟨_, rfl⟩
        obtain ⟨X5, hX5⟩ : ∃ W, W = V.alloc (.cells #[.bool cn, .int .i64 ci, .string ⟨ct.toArray⟩] 25) := ⟨_, rfl⟩
        have HL : Oc X5 BV (.slice (some ⟨H, 0, none⟩) 1 1) [⟨cn, ci, ct⟩] := by rw [hX5]; exact oc_lit V BV H [⟨cn, ci, ct⟩] _ rfl hH.symm (by have := HBV.out; have := FV0.size; omega) (by simp)
        have fs : Fr Non V X5 := by rw [hX5]; exact (Fr.refl Non _).alloc _
        have G5 : Fr Non V X5 := FV0.trans fs
        go_simp
        rw [← hX5]
        clear hX5
        refine hK.out _ _ (by exact ⟨G5.at0 s0, G5.at0 s1, G5.at0 s2, G5.at0 s3, sM.non G5⟩) (fun hHeld => ?_)
        clear hK K fs
        (try simp only [Act.put, zA, zB, zC])
        refine wpAnyH_ready (rs := [9]) (by kernel_rfl) (by simp) ?_
        refine AllReadyH.cons (o := ⟨some 34, _, _, _, _, none⟩) rfl (fun K hK => ?_) AllReadyH.nil
        go_simp
        go_at_call 42
        refine (HVV.out _ G5).mono ?_
        rintro e X9 ⟨u, rfl, hu, fs⟩
        obtain ⟨uA, uc, hue⟩ := hu.shape
        subst hue
        have G9 : Fr Non V X9 := G5.trans fs
        have HL9 := HL.non fs
        go_wp2_with fail
        refine hK.out _ _ (by exact ⟨G9.at0 s0, G9.at0 s1, G9.at0 s2, G9.at0 s3, sM.non G9⟩) (fun hHeld => ?_)
        clear hK K
        (try simp only [Act.put, zA, zB, zC])
        replace hu := hu.mono (B' := BV) (by have := G5.size; have := HBV.out; omega)
        have HV0 : Oc X9 BV (.slice (some ⟨H, 0, none⟩) 1 1) [⟨cn, ci, ct⟩] := HL9
        refine wpAnyH_ready (rs := [10]) (by kernel_rfl) (by simp) ?_
        refine AllReadyH.cons (o := ⟨some 35, _, _, _, _, none⟩) rfl (fun K hK => ?_) AllReadyH.nil
        refine wp_appC (.tmp 27) (.tmp 34) rfl BV _ (.slice uA VV.length uc) [⟨cn, ci, ct⟩] VV rfl HV0 rfl hu.cs (by have := HVVl.out; simp; omega) (by have := G9.size; have := HBV.out; omega) ?_
        intro v10 X10 HV10 f10
        have G10 : Fr Non V X10 := G9.fresh f10 (fun z e => by have := (HV0.lt z e).1; have := HBV.out; omega)
        obtain ⟨vA, vc, hve⟩ := HV10.shape
        subst hve
        refine hK.out _ _ (by exact ⟨G10.at0 s0, G10.at0 s1, G10.at0 s2, G10.at0 s3, sM.non G10⟩) (fun hHeld => ?_)
        clear hK K HV0
        (try simp only [Act.put, zA, zB, zC])
        refine wpAnyH_ready (rs := [11]) (by kernel_rfl) (by simp) ?_
        refine AllReadyH.cons (o := ⟨some 36, _, _, _, _, none⟩) rfl (fun K hK => ?_) AllReadyH.nil
        have G11 : Fr Non V (X10.alloc (.cells #[.slice vA ([(⟨cn, ci, ct⟩ : Cl)] ++ VV).length vc] 47)) := G10.alloc _
        go_simp
        refine hK.out _ _ (by exact ⟨G11.at0 s0, G11.at0 s1, G11.at0 s2, G11.at0 s3, sM.non G11⟩) (fun hHeld => ?_)
        clear hK K
        (try simp only [Act.put, zA, zB, zC])
        refine wpAnyH_ready (rs := [12]) (by kernel_rfl) (by simp) ?_
        refine AllReadyH.cons (o := ⟨some 37, _, _, _, _, none⟩) rfl (fun K hK => ?_) AllReadyH.nil
        have HOX : Ro X10 M _ L := HO1.out.non (FV.trans G10)
        refine wp_pushRo (.tmp 25) (.tmp 36) rfl M _ L rfl HOX (.slice vA ([(⟨cn, ci, ct⟩ : Cl)] ++ VV).length vc) ([(⟨cn, ci, ct⟩ : Cl)] ++ VV) (HV10.mono (by have := HBV.out; have := FV.size; have := HM1.out; omega)) rfl (by have := HLl.out; omega) (by have := G10.size; have := FV.size; have := HM1.out; omega) ?_
        intro x12 X12 HX12 f12
        have FX10 : Fr Non w3 X10 := F31.out.trans (FV.trans G10)
        have F12 := Lib.hid (FX10.fresh f12 (fun z e => by have := (HOX.lt z e).1; have := HMe.out; omega))
        have hDne : ∀ k, Value.ownBlock (.slice Ax L.length cx) = some k → k ≠ D := fun k hk e => by
          subst e
          obtain ⟨hh, _, h9, _⟩ := HOX
          obtain ⟨cur, h9⟩ := h9.kind k hk
          have h8 : X10.heap[k]? = some (.cells #[.bool cn, .int .i64 ci, .string ⟨ct.toArray⟩] 25 (0, 0)) := HCB.out.fr (FV.trans G10) (fun e => e)
          rw [h9] at h8
          simp only [Option.some.injEq, Obj.cells.injEq] at h8
          exact absurd h8.2.1 (by decide)
        have keepD : ∀ {o : Nat} {u : Value}, X10.cell? ⟨D, o, none⟩ = some u → X12.cell? ⟨D, o, none⟩ = some u := fun {o u} e => (f12.cell (World.block_lt_of_cell? _ _ e) (fun e2 => hDne _ e2 rfl)).trans e
        have keepb : X12.cell? ⟨b, 11, none⟩ = some (.slice gA aggs.length gc) := (f12.cell (World.block_lt_of_cell? _ _ (G10.at0 s3)) (fun e2 => by have h9 := (HOX.lt _ e2).1; dsimp only at h9; have := HbM.out; omega)).trans (G10.at0 s3)
        have keepM : MapG 25 litC okC nilS X12 mb nn ks gg := (sM.non G10).fr f12 (fun e2 => by have h9 := (HOX.lt _ e2).1; have := HmM.out; omega)
        refine hK.out _ _ (by exact ⟨keepD (G10.at0 s0), keepD (G10.at0 s1), keepD (G10.at0 s2), keepb, keepM⟩) (fun hHeld => ?_)
        clear hK K
        (try simp only [Act.put, zA, zB, zC])
        refine wpAnyH_take (i := 13) (oi := ⟨some 8, _, _, _, _, none⟩) (v := ?v2) rfl (by kernel_rfl) (by kernel_rfl) (by kernel_rfl) (fun _ _ _ h => h) (Or.inl ⟨by rfl, ?hy2⟩) (by assumption) ?rest2
        case hy2 => (intro wS hSw; (try dsimp only at hSw); go_simp; (try with_reducible rfl))
        (try simp only [Act.put, zA, zB, zC])
        refine wpAnyH_done (by kernel_rfl) ?_ _
        have HX12h := Lib.hid HX12
        clear hHeld HX12 f12 keepD keepb keepM hDne G10 G11 HOX HV10 FX10 s0 s1 s2 s3 sM
        obtain ⟨A12, c12, hv12⟩ := HX12h.out.shape
        subst hv12
        have hkl := HKLl.out
        go_wp2
        go_roundw
        case rel => exact ⟨k + 1, by omega, by go_num, by rw [HMo.out]; exact HX12h, F12⟩
        case measure => simp [intOf]; omega
      · refine AllReadyH.cons (o := ⟨some 34, _, _, _, _, none⟩) rfl (fun K hK => ?_) AllReadyH.nil
        have FV0 : Fr Non V V := Fr.refl _ _
        go_simp
        go_at_call 42
        refine (HVV.out _ FV0).mono ?_
        rintro e X9 ⟨u, rfl, hu, fs⟩
        obtain ⟨uA, uc, hue⟩ := hu.shape
        subst hue
        have G9 : Fr Non V X9 := FV0.trans fs
        go_wp2_with fail
        refine hK.out _ _ (by exact ⟨G9.at0 s0, G9.at0 s1, G9.at0 s2, G9.at0 s3, sM.non G9⟩) (fun hHeld => ?_)
        clear hK K
        (try simp only [Act.put, zA, zB, zC])
        clear fs
        refine wpAnyH_ready (rs := [2]) (by kernel_rfl) (by simp) ?_
        refine AllReadyH.cons (o := ⟨some 27, _, _, _, _, none⟩) rfl (fun K hK => ?_) AllReadyH.nil
        obtain ⟨H, hH⟩ : ∃ H, X9.heap.size = H := ⟨_, rfl⟩
        obtain ⟨X5, hX5⟩ : ∃ W, W = X9.alloc (.cells #[.bool cn, .int .i64 ci, .string ⟨ct.toArray⟩] 25) := ⟨_, rfl⟩
        have HL : Oc X5 BV (.slice (some ⟨H, 0, none⟩) 1 1) [⟨cn, ci, ct⟩] := by rw [hX5]; exact oc_lit X9 BV H [⟨cn, ci, ct⟩] _ rfl hH.symm (by have := HBV.out; have := G9.size; omega) (by simp)
        have fs : Fr Non X9 X5 := by rw [hX5]; exact (Fr.refl Non _).alloc _
        have G5 : Fr Non V X5 := G9.trans fs
        have hu5 := hu.non fs
        go_simp
        rw [← hX5]
        clear hX5
        refine hK.out _ _ (by exact ⟨G5.at0 s0, G5.at0 s1, G5.at0 s2, G5.at0 s3, sM.non G5⟩) (fun hHeld => ?_)
        clear hK K fs
        (try simp only [Act.put, zA, zB, zC])
        have HV0 : Oc X5 BV (.slice (some ⟨H, 0, none⟩) 1 1) [⟨cn, ci, ct⟩] := HL
        refine wpAnyH_ready (rs := [10]) (by kernel_rfl) (by simp) ?_
        refine AllReadyH.cons (o := ⟨some 35, _, _, _, _, none⟩) rfl (fun K hK => ?_) AllReadyH.nil
        refine wp_appC (.tmp 27) (.tmp 34) rfl BV _ (.slice uA VV.length uc) [⟨cn, ci, ct⟩] VV rfl HV0 rfl hu5.cs (by have := HVVl.out; simp; omega) (by have := G5.size; have := HBV.out; omega) ?_
        intro v10 X10 HV10 f10
        have G10 : Fr Non V X10 := G5.fresh f10 (fun z e => by have := (HV0.lt z e).1; have := HBV.out; omega)
        obtain ⟨vA, vc, hve⟩ := HV10.shape
        subst hve
        refine hK.out _ _ (by exact ⟨G10.at0 s0, G10.at0 s1, G10.at0 s2, G10.at0 s3, sM.non G10⟩) (fun hHeld => ?_)
        clear hK K HV0
        (try simp only [Act.put, zA, zB, zC])
        refine wpAnyH_ready (rs := [11]) (by kernel_rfl) (by simp) ?_
        refine AllReadyH.cons (o := ⟨some 36, _, _, _, _, none⟩) rfl (fun K hK => ?_) AllReadyH.nil
        have G11 : Fr Non V (X10.alloc (.cells #[.slice vA ([(⟨cn, ci, ct⟩ : Cl)] ++ VV).length vc] 47)) := G10.alloc _
        go_simp
        refine hK.out _ _ (by exact ⟨G11.at0 s0, G11.at0 s1, G11.at0 s2, G11.at0 s3, sM.non G11⟩) (fun hHeld => ?_)
        clear hK K
        (try simp only [Act.put, zA, zB, zC])
        refine wpAnyH_ready (rs := [12]) (by kernel_rfl) (by simp) ?_
        refine AllReadyH.cons (o := ⟨some 37, _, _, _, _, none⟩) rfl (fun K hK => ?_) AllReadyH.nil
        have HOX : Ro X10 M _ L := HO1.out.non (FV.trans G10)
        refine wp_pushRo (.tmp 25) (.tmp 36) rfl M _ L rfl HOX (.slice vA ([(⟨cn, ci, ct⟩ : Cl)] ++ VV).length vc) ([(⟨cn, ci, ct⟩ : Cl)] ++ VV) (HV10.mono (by have := HBV.out; have := FV.size; have := HM1.out; omega)) rfl (by have := HLl.out; omega) (by have := G10.size; have := FV.size; have := HM1.out; omega) ?_
        intro x12 X12 HX12 f12
        have FX10 : Fr Non w3 X10 := F31.out.trans (FV.trans G10)
        have F12 := Lib.hid (FX10.fresh f12 (fun z e => by have := (HOX.lt z e).1; have := HMe.out; omega))
        have hDne : ∀ k, Value.ownBlock (.slice Ax L.length cx) = some k → k ≠ D := fun k hk e => by
          subst e
          obtain ⟨hh, _, h9, _⟩ := HOX
          obtain ⟨cur, h9⟩ := h9.kind k hk
          have h8 : X10.heap[k]? = some (.cells #[.bool cn, .int .i64 ci, .string ⟨ct.toArray⟩] 25 (0, 0)) := HCB.out.fr (FV.trans G10) (fun e => e)
          rw [h9] at h8
          simp only [Option.some.injEq, Obj.cells.injEq] at h8
          exact absurd h8.2.1 (by decide)
        have keepD : ∀ {o : Nat} {u : Value}, X10.cell? ⟨D, o, none⟩ = some u → X12.cell? ⟨D, o, none⟩ = some u := fun {o u} e => (f12.cell (World.block_lt_of_cell? _ _ e) (fun e2 => hDne _ e2 rfl)).trans e
        have keepb : X12.cell? ⟨b, 11, none⟩ = some (.slice gA aggs.length gc) := (f12.cell (World.block_lt_of_cell? _ _ (G10.at0 s3)) (fun e2 => by have h9 := (HOX.lt _ e2).1; dsimp only at h9; have := HbM.out; omega)).trans (G10.at0 s3)
        have keepM : MapG 25 litC okC nilS X12 mb nn ks gg := (sM.non G10).fr f12 (fun e2 => by have h9 := (HOX.lt _ e2).1; have := HmM.out; omega)
        refine hK.out _ _ (by exact ⟨keepD (G10.at0 s0), keepD (G10.at0 s1), keepD (G10.at0 s2), keepb, keepM⟩) (fun hHeld => ?_)
        clear hK K
        (try simp only [Act.put, zA, zB, zC])
        refine wpAnyH_take (i := 13) (oi := ⟨some 8, _, _, _, _, none⟩) (v := ?v3) rfl (by kernel_rfl) (by kernel_rfl) (by kernel_rfl) (fun _ _ _ h => h) (Or.inl ⟨by rfl, ?hy3⟩) (by assumption) ?rest3
        case hy3 => (intro wS hSw; (try dsimp only at hSw); go_simp; (try with_reducible rfl))
        (try simp only [Act.put, zA, zB, zC])
        refine wpAnyH_done (by kernel_rfl) ?_ _
        have HX12h := Lib.hid HX12
        clear hHeld HX12 f12 keepD keepb keepM hDne G10 G11 HOX HV10 FX10 s0 s1 s2 s3 sM
        obtain ⟨A12, c12, hv12⟩ := HX12h.out.shape
        subst hv12
        have hkl := HKLl.out
        go_wp2
        go_roundw
        case rel => exact ⟨k + 1, by omega, by go_num, by rw [HMo.out]; exact HX12h, F12⟩
        case measure => simp [intOf]; omega
    · have hke : k = KL.length := by omega
      rw [hke, List.take_length] at HO
      have HE := Lib.hid (HO.out.mono (show w.heap.size ≤ M by have := F3.out.size; have := HMe.out; omega))
      have FE := Lib.hid (F3.out.trans FR.out)
      clear HO FR hke
      go_wp2
      go_ret
      exact ⟨_, rfl, by rw [HKe.out]; exact HE.out, FE.out⟩
end Go.Proofs.YtjcfjjhhbcgcmaaGreat

namespace Go.Proofs.YtjcfjjhhbcgcmaaGreat
open Go.RowKit
def shnG (cols : List Co) (q : Qy) : List Nat :=
  if q.by_ = [] then (if q.cols.length = 0 ∧ q.aggs.length = 0 then List.range cols.length else []) ++ q.cols.map (plN cols) else [plN cols q.by_]
set_option maxHeartbeats 8000000 in
theorem gshown_any (v0 : Value) (cols : List Co) (q : Qy) (c : Value) (s : Kv) (g : Value) (w : World) (h0 : Ks w v0 cols) (hq : QyS w q c s g) (hcl : cols.length ≤ 1000) (hql : q.cols.length ≤ 1000) :
    Calls Tryz.prog 33 #[v0, qyV q c s g] w fun e w' => ∃ u, e = .returned u ∧ Vs iv w' u (plI (shnG cols q)) ∧ Fr Non w w' := by
  have HPl : Hid (∀ n W, Fr Non w W → Calls Tryz.prog 35 #[v0, .string ⟨n.toArray⟩] W fun e w' => e = .returned (.int .i64 (plN cols n : Int)) ∧ Fr Non W w') := Lib.hid (fun n W hf => gplace_any v0 cols n W (h0.non hf) (by omega))
  obtain ⟨A0, c0, rfl⟩ := h0.shape
  obtain ⟨cA, cc, hce⟩ := hq.cols.shape
  obtain ⟨gA, gc, hge⟩ := hq.aggs.shape
  have HSh0 : Hid (shnG cols q = if q.by_ = [] then (if q.cols.length = 0 ∧ q.aggs.length = 0 then List.range cols.length else []) ++ q.cols.map (plN cols) else [plN cols q.by_]) := Lib.hid rfl
  have F0 : Fr Non w (w.alloc (.cells (qyC q c s g) 31)) := (Fr.refl Non w).alloc _
  have QB0 : Hid (QB _ w.heap.size q c s g) := Lib.hid (qy_new w _ q c s g rfl)
  have HCs0 := Lib.hid hq.cols
  clear hq h0
  obtain ⟨tab, qc, ⟨⟨wo, wc, wm, ⟨wn, wi, wt⟩, wk, wp⟩, wks⟩, aggs, by_⟩ := q
  obtain ⟨sA, sn, sc⟩ := s
  dsimp only at hce hge hql HSh0 HCs0
  subst hce hge
  have HCs : Hid (Vs sv w (.slice cA qc.length cc) qc) := HCs0
  clear HCs0
  generalize shnG cols _ = R at *
  unfold qyC kidV at F0 QB0
  unfold qyV qyC kidV
  dsimp only [Pd.hd, Pd.kids] at F0 QB0 ⊢
  obtain ⟨b, hb⟩ : ∃ b, w.heap.size = b := ⟨_, rfl⟩
  have HB := Lib.hid hb
  rw [hb] at QB0
  replace QB0 : Hid (QB _ b ⟨tab, qc, ⟨⟨wo, wc, wm, ⟨wn, wi, wt⟩, wk, wp⟩, wks⟩, aggs, by_⟩ (.slice cA qc.length cc) ⟨sA, sn, sc⟩ (.slice gA aggs.length gc)) := QB0
  obtain ⟨b0, b1, b2, b3, b4, b5, b6, b7, b8, b9, b10, b11, b12⟩ := qB_cells QB0.out
  dsimp only [Pd.hd, Pd.kids] at b0 b1 b2 b3 b4 b5 b6 b7 b8 b9 b10 b11 b12
  replace F0 := Lib.hid F0
  by_cases hby : by_ = []
  · have HSh1 : Hid (R = (if qc.length = 0 ∧ aggs.length = 0 then List.range cols.length else []) ++ qc.map (plN cols)) := Lib.hid (by rw [HSh0.out, if_pos hby])
    subst hby
    clear HSh0
    by_cases hz : qc.length = 0 ∧ aggs.length = 0
    · have HSh : Hid (R = List.range cols.length ++ qc.map (plN cols)) := Lib.hid (by rw [HSh1.out, if_pos hz])
      have hd1 : ((qc.length : Int) == 0) = true := by rw [hz.1]; rfl
      have hd2 : ((aggs.length : Int) == 0) = true := by rw [hz.2]; rfl
      have HBl : Hid ((List.range cols.length).length ≤ 1000) := Lib.hid (by rw [List.length_range]; exact hcl)
      clear HSh1 hz
      go_enter Tryz.func33, Tryz.ntmps33
      go_wp2
      clear hd1 hd2
      go_loopw [5, 29] (fun x i wr => ∃ (k : Nat), k ≤ cols.length ∧ i = .int .i64 k ∧ Hid (Ow iv 3 wr (b + 1) x (plI (List.range k))) ∧ Hid (QB wr b ⟨tab, qc, ⟨⟨wo, wc, wm, ⟨wn, wi, wt⟩, wk, wp⟩, wks⟩, aggs, []⟩ (.slice cA qc.length cc) ⟨sA, sn, sc⟩ (.slice gA aggs.length gc)) ∧ Hid (Fr Non w wr)) (fun _ i _ => cols.length - (intOf i).toNat)
      case atStart => exact ⟨0, Nat.zero_le _, rfl, Lib.hid (ow_nil _ _), QB0, F0⟩
      case round =>
        clear QB0 F0 b0 b1 b2 b3 b4 b5 b6 b7 b8 b9 b10 b11 b12
        obtain ⟨k, hk, rfl, HO, QB1, FR⟩ := hrel
        rename World => w1
        by_cases hlt : k < cols.length
        · have HM : Hid (plI (List.range (k + 1)) = plI (List.range k) ++ [(k : Int)]) := Lib.hid (by unfold plI; rw [List.range_succ, List.map_append, List.map_cons, List.map_nil])
          have HDl : Hid ((plI (List.range k)).length ≤ 1000) := Lib.hid (by rw [plI_len, List.length_range]; omega)
          generalize plI (List.range k) = D at *
          obtain ⟨Ax, cx, hx⟩ := HO.out.shape
          subst hx
          have hb4 : b + 1 ≤ w1.heap.size := by have := QB1.out.lt; omega
          go_wp2_with (at_builtin; refine wpList_pushG el_int iv_oneC rfl (.tmp 32) (.tmp 34) rfl (b + 1) _ D rfl HO.out _ (k : Int) rfl (by rfl) (by have := HDl.out; omega) hb4 ?_; intro x6 w6 HX6 f6)
          have F6 := Lib.hid (FR.out.fresh f6 (fun z e => by have := (HO.out.lt z e).1; have := HB.out; omega))
          have QB6 := Lib.hid (QB1.out.fr f6 (fun e => by have := (HO.out.lt _ e).1; omega))
          go_roundw
          case rel => exact ⟨k + 1, by omega, by go_num, by rw [HM.out]; exact Lib.hid HX6, QB6, F6⟩
          case measure => simp [intOf]; omega
        · have hke : k = cols.length := by omega
          rw [hke] at HO
          have BO := HO
          have QBx := QB1
          have FX := FR
          clear HO QB1 FR hke
          obtain ⟨b0, b1, b2, b3, b4, b5, b6, b7, b8, b9, b10, b11, b12⟩ := qB_cells QBx.out
          dsimp only [Pd.hd, Pd.kids] at b0 b1 b2 b3 b4 b5 b6 b7 b8 b9 b10 b11 b12
          go_wp2
          go_loopw [5, 40] (fun x i wr => ∃ (m : Nat), m ≤ qc.length ∧ i = .int .i64 m ∧ Hid (Ow iv 3 wr (b + 1) x (plI (List.range cols.length ++ (qc.take m).map (plN cols)))) ∧ Hid (QB wr b ⟨tab, qc, ⟨⟨wo, wc, wm, ⟨wn, wi, wt⟩, wk, wp⟩, wks⟩, aggs, []⟩ (.slice cA qc.length cc) ⟨sA, sn, sc⟩ (.slice gA aggs.length gc)) ∧ Hid (Fr Non w wr)) (fun _ i _ => qc.length - (intOf i).toNat)
          case atStart => exact ⟨0, Nat.zero_le _, rfl, by rw [List.take_zero, List.map_nil, List.append_nil]; exact BO, QBx, FX⟩
          case round =>
            clear BO QBx FX b0 b1 b2 b3 b4 b5 b6 b7 b8 b9 b10 b11 b12
            obtain ⟨m, hm, rfl, HO, QB1, FR⟩ := hrel
            rename World => w2
            by_cases hlt : m < qc.length
            · obtain ⟨ac, e3, -, -, hel0⟩ := (HCs.out.non FR.out).addr (show 0 < qc.length by omega)
              subst e3
              have g0 := hel0 m hlt
              clear hel0
              have HM : Hid (plI (List.range cols.length ++ (qc.take (m + 1)).map (plN cols)) = plI (List.range cols.length ++ (qc.take m).map (plN cols)) ++ [(plN cols qc[m] : Int)]) := Lib.hid (by
                rw [List.take_succ_eq_append_getElem hlt, List.map_append, List.map_cons, List.map_nil, ← List.append_assoc]
                unfold plI
                rw [List.map_append, List.map_cons, List.map_nil])
              have HDl : Hid ((plI (List.range cols.length ++ (qc.take m).map (plN cols))).length ≤ 2000) := Lib.hid (by rw [plI_len, List.length_append, List.length_map, List.length_take]; have := HBl.out; omega)
              have HFk := Lib.hid (HPl.out qc[m])
              generalize plI (List.range cols.length ++ (qc.take m).map (plN cols)) = D at *
              generalize plN cols qc[m] = y at *
              generalize qc[m] = n at *
              unfold sv at g0
              obtain ⟨Ax, cx, hx⟩ := HO.out.shape
              subst hx
              go_wp2_with fail
              refine (HFk.out _ FR.out).mono ?_
              rintro e w4 ⟨rfl, f4⟩
              have FR4 := Lib.hid (FR.out.trans f4)
              have QB4 := Lib.hid (QB1.out.fr f4 (fun e => e))
              have HO4 := Lib.hid (HO.out.non f4)
              have hb4 : b + 1 ≤ w4.heap.size := by have := QB4.out.lt; omega
              clear f4 g0 QB1 FR HO
              go_wp2_with (at_builtin; refine wpList_pushG el_int iv_oneC rfl (.tmp 44) (.tmp 48) rfl (b + 1) _ D rfl HO4.out _ (y : Int) rfl (by rfl) (by have := HDl.out; omega) hb4 ?_; intro x6 w6 HX6 f6)
              have F6 := Lib.hid (FR4.out.fresh f6 (fun z e => by have := (HO4.out.lt z e).1; have := HB.out; omega))
              have QB6 := Lib.hid (QB4.out.fr f6 (fun e => by have := (HO4.out.lt _ e).1; omega))
              go_roundw
              case rel => exact ⟨m + 1, by omega, by go_num, by rw [HM.out]; exact Lib.hid HX6, QB6, F6⟩
              case measure => simp [intOf]; omega
            · have hme : m = qc.length := by omega
              rw [hme, List.take_length] at HO
              go_wp2
              go_ret
              exact ⟨_, rfl, by rw [HSh.out]; exact HO.out.vs, FR.out⟩
    · have HSh : Hid (R = [] ++ qc.map (plN cols)) := Lib.hid (by rw [HSh1.out, if_neg hz])
      have HBl : Hid (([] : List Nat).length ≤ 1000) := Lib.hid (by simp)
      have BO : Hid (Ow iv 3 (w.alloc (.cells #[.string ⟨tab.toArray⟩, .slice cA qc.length cc, .int .i64 wo, .string ⟨wc.toArray⟩, .int .i64 wm, .bool wn, .int .i64 wi, .string ⟨wt.toArray⟩, .int .i64 wk, .string ⟨wp.toArray⟩, .slice sA sn sc, .slice gA aggs.length gc, .string ⟨([] : List UInt8).toArray⟩] 31)) (b + 1) (.slice none 0 0) (plI [])) := Lib.hid (ow_nil _ _)
      have QBx := QB0
      have FX := F0
      clear HSh1 QB0 F0
      have HD : Hid (((qc.length : Int) == 0) = false ∨ (((qc.length : Int) == 0) = true ∧ ((aggs.length : Int) == 0) = false)) := Lib.hid (by
        by_cases h1 : qc.length = 0
        · refine .inr ⟨by rw [h1]; rfl, ?_⟩
          rw [beq_eq_false_iff_ne]
          intro h2
          exact hz ⟨h1, by omega⟩
        · refine .inl ?_
          rw [beq_eq_false_iff_ne]
          omega)
      clear hz
      rcases HD.out with hd1 | ⟨hd1, hd2⟩
      · clear HD
        go_enter Tryz.func33, Tryz.ntmps33
        clear b0 b2 b3 b4 b5 b6 b7 b8 b9 b10
        go_wp2
        clear hd1 b1 b11 b12
        obtain ⟨b0, b1, b2, b3, b4, b5, b6, b7, b8, b9, b10, b11, b12⟩ := qB_cells QBx.out
        dsimp only [Pd.hd, Pd.kids] at b0 b1 b2 b3 b4 b5 b6 b7 b8 b9 b10 b11 b12
        go_wp2
        go_loopw [5, 40] (fun x i wr => ∃ (m : Nat), m ≤ qc.length ∧ i = .int .i64 m ∧ Hid (Ow iv 3 wr (b + 1) x (plI ([] ++ (qc.take m).map (plN cols)))) ∧ Hid (QB wr b ⟨tab, qc, ⟨⟨wo, wc, wm, ⟨wn, wi, wt⟩, wk, wp⟩, wks⟩, aggs, []⟩ (.slice cA qc.length cc) ⟨sA, sn, sc⟩ (.slice gA aggs.length gc)) ∧ Hid (Fr Non w wr)) (fun _ i _ => qc.length - (intOf i).toNat)
        case atStart => exact ⟨0, Nat.zero_le _, rfl, by rw [List.take_zero, List.map_nil, List.append_nil]; exact BO, QBx, FX⟩
        case round =>
          clear BO QBx FX b0 b1 b2 b3 b4 b5 b6 b7 b8 b9 b10 b11 b12
          obtain ⟨m, hm, rfl, HO, QB1, FR⟩ := hrel
          rename World => w2
          by_cases hlt : m < qc.length
          · obtain ⟨ac, e3, -, -, hel0⟩ := (HCs.out.non FR.out).addr (show 0 < qc.length by omega)
            subst e3
            have g0 := hel0 m hlt
            clear hel0
            have HM : Hid (plI ([] ++ (qc.take (m + 1)).map (plN cols)) = plI ([] ++ (qc.take m).map (plN cols)) ++ [(plN cols qc[m] : Int)]) := Lib.hid (by
              rw [List.take_succ_eq_append_getElem hlt, List.map_append, List.map_cons, List.map_nil, ← List.append_assoc]
              unfold plI
              rw [List.map_append, List.map_cons, List.map_nil])
            have HDl : Hid ((plI ([] ++ (qc.take m).map (plN cols))).length ≤ 2000) := Lib.hid (by rw [plI_len, List.length_append, List.length_map, List.length_take]; have := HBl.out; omega)
            have HFk := Lib.hid (HPl.out qc[m])
            generalize plI ([] ++ (qc.take m).map (plN cols)) = D at *
            generalize plN cols qc[m] = y at *
            generalize qc[m] = n at *
            unfold sv at g0
            obtain ⟨Ax, cx, hx⟩ := HO.out.shape
            subst hx
            go_wp2_with fail
            refine (HFk.out _ FR.out).mono ?_
            rintro e w4 ⟨rfl, f4⟩
            have FR4 := Lib.hid (FR.out.trans f4)
            have QB4 := Lib.hid (QB1.out.fr f4 (fun e => e))
            have HO4 := Lib.hid (HO.out.non f4)
            have hb4 : b + 1 ≤ w4.heap.size := by have := QB4.out.lt; omega
            clear f4 g0 QB1 FR HO
            go_wp2_with (at_builtin; refine wpList_pushG el_int iv_oneC rfl (.tmp 44) (.tmp 48) rfl (b + 1) _ D rfl HO4.out _ (y : Int) rfl (by rfl) (by have := HDl.out; omega) hb4 ?_; intro x6 w6 HX6 f6)
            have F6 := Lib.hid (FR4.out.fresh f6 (fun z e => by have := (HO4.out.lt z e).1; have := HB.out; omega))
            have QB6 := Lib.hid (QB4.out.fr f6 (fun e => by have := (HO4.out.lt _ e).1; omega))
            go_roundw
            case rel => exact ⟨m + 1, by omega, by go_num, by rw [HM.out]; exact Lib.hid HX6, QB6, F6⟩
            case measure => simp [intOf]; omega
          · have hme : m = qc.length := by omega
            rw [hme, List.take_length] at HO
            go_wp2
            go_ret
            exact ⟨_, rfl, by rw [HSh.out]; exact HO.out.vs, FR.out⟩
      · clear HD
        go_enter Tryz.func33, Tryz.ntmps33
        clear b0 b2 b3 b4 b5 b6 b7 b8 b9 b10
        go_wp2
        clear hd1 hd2 b1 b11 b12
        obtain ⟨b0, b1, b2, b3, b4, b5, b6, b7, b8, b9, b10, b11, b12⟩ := qB_cells QBx.out
        dsimp only [Pd.hd, Pd.kids] at b0 b1 b2 b3 b4 b5 b6 b7 b8 b9 b10 b11 b12
        go_wp2
        go_loopw [5, 40] (fun x i wr => ∃ (m : Nat), m ≤ qc.length ∧ i = .int .i64 m ∧ Hid (Ow iv 3 wr (b + 1) x (plI ([] ++ (qc.take m).map (plN cols)))) ∧ Hid (QB wr b ⟨tab, qc, ⟨⟨wo, wc, wm, ⟨wn, wi, wt⟩, wk, wp⟩, wks⟩, aggs, []⟩ (.slice cA qc.length cc) ⟨sA, sn, sc⟩ (.slice gA aggs.length gc)) ∧ Hid (Fr Non w wr)) (fun _ i _ => qc.length - (intOf i).toNat)
        case atStart => exact ⟨0, Nat.zero_le _, rfl, by rw [List.take_zero, List.map_nil, List.append_nil]; exact BO, QBx, FX⟩
        case round =>
          clear BO QBx FX b0 b1 b2 b3 b4 b5 b6 b7 b8 b9 b10 b11 b12
          obtain ⟨m, hm, rfl, HO, QB1, FR⟩ := hrel
          rename World => w2
          by_cases hlt : m < qc.length
          · obtain ⟨ac, e3, -, -, hel0⟩ := (HCs.out.non FR.out).addr (show 0 < qc.length by omega)
            subst e3
            have g0 := hel0 m hlt
            clear hel0
            have HM : Hid (plI ([] ++ (qc.take (m + 1)).map (plN cols)) = plI ([] ++ (qc.take m).map (plN cols)) ++ [(plN cols qc[m] : Int)]) := Lib.hid (by
              rw [List.take_succ_eq_append_getElem hlt, List.map_append, List.map_cons, List.map_nil, ← List.append_assoc]
              unfold plI
              rw [List.map_append, List.map_cons, List.map_nil])
            have HDl : Hid ((plI ([] ++ (qc.take m).map (plN cols))).length ≤ 2000) := Lib.hid (by rw [plI_len, List.length_append, List.length_map, List.length_take]; have := HBl.out; omega)
            have HFk := Lib.hid (HPl.out qc[m])
            generalize plI ([] ++ (qc.take m).map (plN cols)) = D at *
            generalize plN cols qc[m] = y at *
            generalize qc[m] = n at *
            unfold sv at g0
            obtain ⟨Ax, cx, hx⟩ := HO.out.shape
            subst hx
            go_wp2_with fail
            refine (HFk.out _ FR.out).mono ?_
            rintro e w4 ⟨rfl, f4⟩
            have FR4 := Lib.hid (FR.out.trans f4)
            have QB4 := Lib.hid (QB1.out.fr f4 (fun e => e))
            have HO4 := Lib.hid (HO.out.non f4)
            have hb4 : b + 1 ≤ w4.heap.size := by have := QB4.out.lt; omega
            clear f4 g0 QB1 FR HO
            go_wp2_with (at_builtin; refine wpList_pushG el_int iv_oneC rfl (.tmp 44) (.tmp 48) rfl (b + 1) _ D rfl HO4.out _ (y : Int) rfl (by rfl) (by have := HDl.out; omega) hb4 ?_; intro x6 w6 HX6 f6)
            have F6 := Lib.hid (FR4.out.fresh f6 (fun z e => by have := (HO4.out.lt z e).1; have := HB.out; omega))
            have QB6 := Lib.hid (QB4.out.fr f6 (fun e => by have := (HO4.out.lt _ e).1; omega))
            go_roundw
            case rel => exact ⟨m + 1, by omega, by go_num, by rw [HM.out]; exact Lib.hid HX6, QB6, F6⟩
            case measure => simp [intOf]; omega
          · have hme : m = qc.length := by omega
            rw [hme, List.take_length] at HO
            go_wp2
            go_ret
            exact ⟨_, rfl, by rw [HSh.out]; exact HO.out.vs, FR.out⟩
  · have HSh : Hid (R = [plN cols by_]) := Lib.hid (by rw [HSh0.out, if_neg hby])
    have hd1 : (by_ == []) = false := by rw [beq_eq_false_iff_ne]; exact hby
    have hd2 : (by_ != []) = true := by rw [bne_iff_ne]; exact hby
    have HPy := Lib.hid (HPl.out by_)
    generalize plN cols by_ = y at *
    clear hby HSh0
    go_enter Tryz.func33, Tryz.ntmps33
    go_wp2_with fail
    refine (HPy.out _ F0.out).mono ?_
    rintro e w2 ⟨rfl, f2⟩
    have F2 := Lib.hid (F0.out.trans f2)
    clear f2
    go_wp2
    go_ret
    exact ⟨_, rfl, by rw [HSh.out]; exact vs_row (f := iv) w2 [(y : Int)] _ _, F2.out.alloc _⟩
end Go.Proofs.YtjcfjjhhbcgcmaaGreat
