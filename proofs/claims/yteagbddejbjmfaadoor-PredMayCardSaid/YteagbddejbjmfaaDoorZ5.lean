/-
  Joined: A map of texts to whole numbers of the call's own: which texts it has, and how many; made, written, counted. · Layer 12: which columns a table may have, the program's. · Layer 12: which columns a table may have, the document's; the law's words; the example. · Layer 17: the document's May, Small, typed, Fits.
-/
import Derived.Lib.Zigzag
import Derived.Lib.DecodeN
import Derived.Laws.RangeAny
import Derived.Laws.Cover4
import Derived.Laws.Cover1
import Derived.Lib.SmallJoins
import Derived.Lib.AppendIntMem
import Derived.Laws.StructEq
import Derived.Laws.Rows
import Derived.Laws.ResultCell
import Derived.BigQuiet
import Derived.Deep.RegionHeld3
import Derived.Test.YteagbddejbjmfaaDoorZ1
import Derived.Maps.OwnSet
import Derived.Maps.OwnOps
import Derived.Test.YteagbddejbjmfaaDoorZ2
import Derived.Test.YteagbddejbjmfaaDoorZ4

namespace Go.Proofs.YteagbddejbjmfaaDoor
set_option linter.unusedVariables false
set_option linter.unusedSimpArgs false
set_option maxRecDepth 100000
open Go.RowKit Go.Maps

/-- how many unlike ones -/
def cntU : List Tx → Nat
  | [] => 0
  | y :: r => if y ∈ r then cntU r else cntU r + 1
theorem cntU_le (l : List Tx) : cntU l ≤ l.length := by
  induction l with
  | nil => exact Nat.le_refl _
  | cons y r ih =>
    unfold cntU
    rw [List.length_cons]
    split <;> omega
theorem cntU_all (l : List Tx) : cntU l = l.length ↔ l.Nodup := by
  induction l with
  | nil => simp [cntU]
  | cons y r ih =>
    have := cntU_le r
    unfold cntU
    rw [List.length_cons, List.nodup_cons]
    split
    · rename_i h
      constructor
      · intro e; omega
      · intro e; exact absurd h e.1
    · rename_i h
      rw [← ih]
      constructor
      · intro e; exact ⟨h, by omega⟩
      · intro e; omega

/-- block b is a map of at most n texts: those of ks -/
def MapS (w : World) (b n : Nat) (ks : List Tx) : Prop :=
  ∃ D : DataW Unit, w.ownsMap Tryd.prog 9 (plainElem Tryd.prog 3) b n D ∧ (∀ x, has D (.string x) = decide (x ∈ ks)) ∧ Maps.size D = cntU ks
theorem MapS.lt {w : World} {b n : Nat} {ks : List Tx} (h : MapS w b n ks) : b < w.heap.size := by
  obtain ⟨D, h1, _⟩ := h; exact h1.lt
theorem MapS.fr {S : Nat → Prop} {w w' : World} {b n : Nat} {ks : List Tx} (h : MapS w b n ks) (hf : Fr S w w') (hn : ¬ S b) : MapS w' b n ks := by
  obtain ⟨D, h1, h2, h3⟩ := h
  have hlt := h1.lt
  obtain ⟨es, clock, hb, F, hs, hD⟩ := h1
  exact ⟨D, ⟨es, clock, (hf.block b hlt hn).trans hb, F, hs, hD⟩, h2, h3⟩
theorem MapS.made (w : World) : MapS (w.alloc (.map #[] 0)) w.heap.size 0 [] :=
  ⟨.map [], World.ownsMap_made w _ _ _, fun x => by simp [has], rfl⟩

theorem keyLitS (x : Tx) : WideAt.IsKeyLit (.string x) := trivial
theorem keyStrS {x : Tx} (hx : x.length ≤ maxLen) : keyOf Tryd.prog 9 (.string ⟨x.toArray⟩) = some (.string x) := by
  have := Go.WideMaps.keyOf_string_mk (P := Tryd.prog) Tryd.underlying9 (s := ⟨x.toArray⟩) (by simpa [ByteArray.size] using hx)
  simpa using this
theorem MapS.put {w w' : World} {b n : Nat} {ks : List Tx} {D : DataW Unit} (h1 : w.ownsMap Tryd.prog 9 (plainElem Tryd.prog 3) b n D) (h2 : ∀ x, has D (.string x) = decide (x ∈ ks)) (h3 : Maps.size D = cntU ks)
    (y : Tx) (v : Int) (h : w'.ownsMap Tryd.prog 9 (plainElem Tryd.prog 3) b (n + 1) (D.put (.string y) (.lit (.int .i64 v)))) : MapS w' b (n + 1) (y :: ks) := by
  have hm := h1.isMap
  refine ⟨_, h, fun x => ?_, ?_⟩
  · by_cases he : x = y
    · subst he; rw [has_put_same hm (keyLitS x)]; simp
    · rw [has_put_other (by simpa using he), h2]; simp [he]
  · rw [Maps.size_put (h1.tidy (string_keyed Tryd.underlying9)), h2, h3]
    rw [show cntU (y :: ks) = if y ∈ ks then cntU ks else cntU ks + 1 from rfl]
    by_cases hy : y ∈ ks <;> simp [hy]

/-- 'm[y] = v' -/
theorem wpList_putS (w : World) {ops : Array Oper} {rest : List Oper} {o : Oper} {a : Act} {Q : Exit → Act → World → Prop} (hg : o.guard = none) (m x v : Operand) (hop : o.op = Op.mapUpdate 76 m x v)
    (b n : Nat) (ks : List Tx) (hm : a.eval m = .map (some b)) (hown : MapS w b n ks) (hn : n ≤ 1000000000) (y : Tx) (z : Int) (hx : a.eval x = .string ⟨y.toArray⟩) (hv : a.eval v = .int .i64 z)
    (hy : y.length ≤ 9223372036854775807) (hz1 : -9223372036854775808 ≤ z) (hz2 : z ≤ 9223372036854775807)
    (hK : ∀ w', MapS w' b (n + 1) (y :: ks) → Fr (One b) w w' → wpList Tryd.prog ops Q rest (a.put o.dst undef) w') : wpList Tryd.prog ops Q (o :: rest) a w := by
  obtain ⟨D, h1, h2, h3⟩ := hown
  refine wpList_mapUpdate_own w hg m x v 76 hop 9 3 (string_keyed Tryd.underlying9) Tryd.underlying76 _ b n D hm h1 (by unfold maxLen; omega) _ _ (.string y) hx hv (keyStrS (by simpa [maxLen] using hy)) (.lit (.int .i64 z)) [] (plainElem_int Tryd.underlying3 (WalkArith.wf_i64 ⟨hz1, hz2⟩)) ?_
  intro w' hw' hg'
  exact hK w' (MapS.put h1 h2 h3 y z hw') ((Fr.of_grown hg').mono fun k _ e => by simpa [One, eq_comm] using e)
/-- 'len(m)' -/
theorem MapS.len {w : World} {b n : Nat} {ks : List Tx} (h : MapS w b n ks) (ty : TypeId) : (Builtin.len_ #[76] ty #[.map (some b)]).run Tryd.prog w = .ok (.int .i64 (cntU ks)) w := by
  obtain ⟨D, h1, h2, h3⟩ := h
  rw [← h3]
  exact h1.len Tryd.underlying76 ty
end Go.Proofs.YteagbddejbjmfaaDoor


namespace Go.Proofs.YteagbddejbjmfaaDoor
set_option linter.unusedVariables false
set_option linter.unusedSimpArgs false
set_option maxRecDepth 100000
open Go.RowKit

theorem mayC_nullT (ty : Int) : mayC ty true ⟨true, 0, []⟩ = isTy ty := by rw [mayC_null]; simp [ceq]
theorem ktype_any (ty : Int) (w : World) : Calls Tryd.prog 67 #[.int .i64 ty] w fun e w' => e = .returned (.bool (isTy ty)) ∧ Fr Non w w' := by
  have M := fun W => may_any ty true ⟨true, 0, []⟩ W
  rw [mayC_nullT] at M
  unfold clV clC at M
  dsimp only at M
  go_enter Tryd.func67, Tryd.ntmps67
  go_wp2_with fail
  refine (M _).mono ?_
  rintro e w1 ⟨rfl, f1⟩
  go_wp2
  go_ret
  exact ⟨rfl, f1⟩

theorem maynot_any (c : Co) (w : World) (hc : c.name.length ≤ 1000000000) : Calls Tryd.prog 50 #[coV c] w fun e w' => e = .returned (.bool (badC c)) ∧ Fr Non w w' := by
  obtain ⟨n, ty, nl⟩ := c
  have M := fun W => sname_any n W hc
  have T := fun W => ktype_any ty W
  have b0 := co_new w ⟨n, ty, nl⟩
  have g0 : _ = _ := b0.cell 0
  simp at g0
  unfold badC coV coC
  dsimp only
  cases hn : nameB n
  · simp only [hn] at M
    replace M := Lib.hid M
    clear T
    go_enter Tryd.func50, Tryd.ntmps50
    go_wp2_with fail
    refine (M.out _).mono ?_
    rintro e w1 ⟨rfl, f1⟩
    go_wp2
    go_ret
    exact ⟨rfl, ((Fr.refl _ _).alloc _).trans f1⟩
  · simp only [hn] at M
    replace M := Lib.hid M
    replace T := Lib.hid T
    replace b0 : Hid (CoB _ _ _) := Lib.hid b0
    go_enter Tryd.func50, Tryd.ntmps50
    go_wp2_with fail
    refine (M.out _).mono ?_
    rintro e w1 ⟨rfl, f1⟩
    have g1 := (b0.out.fr f1 (fun e => e)).cell 1
    simp at g1
    go_wp2_with fail
    refine (T.out _).mono ?_
    rintro e w2 ⟨rfl, f2⟩
    go_wp2
    go_ret
    exact ⟨ret_boolE (by simp), (((Fr.refl _ _).alloc _).trans f1).trans f2⟩

theorem idx_any (v : Value) (l : List Co) (w : World) (hv : Ks w v l) (hl : l.length ≤ 1000000000) (hb : ∀ c ∈ l, c.name.length ≤ 1000000000) :
    Calls Tryd.prog 66 #[v, .func (.func 50) #[] #[]] w fun e w' => ∃ z : Int, e = .returned (.int .i64 z) ∧ decide (0 ≤ z) = l.any badC ∧ Fr Non w w' := by
  obtain ⟨A, c, rfl, hlc, hn, hcell⟩ := hv
  have HC := Lib.hid hcell
  have HN := Lib.hid hn
  have HB := Lib.hid hb
  clear hcell hn hb
  go_enter Tryd.func66, Tryd.ntmps66
  go_wp2
  go_loopw [8] (fun i wr => ∃ (k : Nat), k ≤ l.length ∧ i = .int .i64 k ∧ Hid ((l.take k).any badC = false) ∧ Fr Non w wr) (fun i _ => l.length - (intOf i).toNat)
  case atStart => exact ⟨0, Nat.zero_le _, rfl, Lib.hid rfl, Fr.refl _ _⟩
  case round =>
    obtain ⟨k, hk, rfl, hne, hfr⟩ := hrel
    by_cases hlt : k < l.length
    · cases A with
      | none => have := HN.out rfl; omega
      | some a =>
        obtain ⟨hc0, hc1, hc2⟩ := co_lit ((HC.out a rfl k hlt).non hfr)
        have HY := Lib.hid (fun h => any_more hlt hne.out h)
        have HX : Hid (badC l[k] = true → l.any badC = true) := Lib.hid (fun h => List.any_eq_true.2 ⟨_, List.getElem_mem hlt, h⟩)
        have M := fun W => maynot_any l[k] W (HB.out _ (List.getElem_mem hlt))
        clear hne
        generalize l[k] = x at *
        obtain ⟨xn, xt, xb⟩ := x
        unfold coV coC at M
        dsimp only at hc0 hc1 hc2 HY HX M
        have HF := Lib.hid hfr
        clear hfr
        cases hx : badC ⟨xn, xt, xb⟩
        · have HE := Lib.hid (HY.out hx)
          simp only [hx] at M
          replace M := Lib.hid M
          clear HX HY hx
          go_wp2_with fail
          refine (M.out _).mono ?_
          rintro e w2 ⟨rfl, f2⟩
          go_wp2
          go_roundw
          case rel => exact ⟨k + 1, by omega, by go_num, HE, HF.out.trans f2⟩
          case measure => simp [intOf]; omega
        · have HE := Lib.hid (HX.out hx)
          simp only [hx] at M
          replace M := Lib.hid M
          clear HX HY hx
          go_wp2_with fail
          refine (M.out _).mono ?_
          rintro e w2 ⟨rfl, f2⟩
          go_wp2
          go_ret
          exact ⟨_, rfl, by rw [HE.out]; exact decide_eq_true (by omega), HF.out.trans f2⟩
    · have HE : Hid (l.any badC = false) := Lib.hid (by have := hne.out; rwa [List.take_of_length_le (by omega)] at this)
      clear hne
      go_wp2
      go_ret
      exact ⟨_, rfl, by rw [HE.out]; rfl, hfr⟩
theorem contains_any (v : Value) (l : List Co) (w : World) (hv : Ks w v l) (hl : l.length ≤ 1000000000) (hb : ∀ c ∈ l, c.name.length ≤ 1000000000) :
    Calls Tryd.prog 49 #[v, .func (.func 50) #[] #[]] w fun e w' => e = .returned (.bool (l.any badC)) ∧ Fr Non w w' := by
  have h0 := Lib.hid (idx_any v l w hv hl hb)
  clear hv hb
  go_enter Tryd.func49, Tryd.ntmps49
  go_wp2_with fail
  refine h0.out.mono ?_
  rintro e w1 ⟨z, rfl, hz, f1⟩
  go_wp2
  go_ret
  exact ⟨rfl, f1⟩

/-- the names up to k, the last one first -/
def nmsR (l : List Co) (k : Nat) : List Tx := (namesC (l.take k)).reverse
theorem nmsR_more {l : List Co} {k : Nat} (h : k < l.length) : nmsR l (k + 1) = l[k].name :: nmsR l k := by
  unfold nmsR namesC
  rw [List.take_succ_eq_append_getElem h, List.map_append, List.reverse_append]; rfl
theorem nmsR_all {l : List Co} {k : Nat} (h : k = l.length) : decide ((cntU (nmsR l k) : Int) = l.length) = decide ((namesC l).Nodup) := by
  subst h
  unfold nmsR
  rw [List.take_length]
  have h1 := cntU_all (namesC l).reverse
  rw [List.length_reverse, (List.reverse_perm (namesC l)).nodup_iff] at h1
  have h2 : (namesC l).length = l.length := by unfold namesC; rw [List.length_map]
  rw [h2] at h1
  rw [decide_eq_decide, ← h1]
  omega

set_option maxHeartbeats 1000000 in
theorem unlike_any (v : Value) (l : List Co) (w : World) (hv : Ks w v l) (hl : l.length ≤ 1000000000) (hb : ∀ c ∈ l, c.name.length ≤ 1000000000) :
    Calls Tryd.prog 51 #[v] w fun e w' => e = .returned (.bool (decide ((namesC l).Nodup))) ∧ Fr Non w w' := by
  obtain ⟨A, c, rfl, hlc, hn, hcell⟩ := hv
  have HC := Lib.hid hcell
  have HN := Lib.hid hn
  have HB := Lib.hid hb
  clear hcell hn hb
  have hmm := @run_makeMap Tryd.prog
  go_enter Tryd.func51, Tryd.ntmps51
  go_wp2
  have hm0 := MapS.made w
  have hf0 : Fr Non w (w.alloc (.map #[] 0)) := (Fr.refl _ _).alloc _
  go_loopw [9] (fun i wr => ∃ (k : Nat), k ≤ l.length ∧ i = .int .i64 k ∧ MapS wr w.heap.size k (nmsR l k) ∧ Fr Non w wr) (fun i _ => l.length - (intOf i).toNat)
  case atStart => exact ⟨0, Nat.zero_le _, rfl, hm0, hf0⟩
  case round =>
    clear hm0 hf0
    obtain ⟨k, hk, rfl, hm, hfr⟩ := hrel
    by_cases hlt : k < l.length
    · cases A with
      | none => have := HN.out rfl; omega
      | some a =>
        obtain ⟨hc0, hc1, hc2⟩ := co_lit ((HC.out a rfl k hlt).non hfr)
        have HM := Lib.hid (nmsR_more hlt)
        have hxl := HB.out _ (List.getElem_mem hlt)
        generalize l[k] = x at *
        obtain ⟨xn, xt, xb⟩ := x
        dsimp only at hc0 hc1 hc2 HM hxl
        have f1 := (Fr.refl Non wr).alloc (.cells #[.string ⟨xn.toArray⟩, .int .i64 xt, .bool xb] 46)
        have hm1 := Lib.hid (hm.fr f1 (fun e => e))
        have HF := Lib.hid (hfr.trans f1)
        have g0 := (co_new wr ⟨xn, xt, xb⟩).cell 0
        simp at g0
        clear hm hfr f1
        go_wp2_with (at_mapUpdate; refine wpList_putS _ rfl _ _ _ rfl w.heap.size k (nmsR l k) rfl hm1.out (by omega) xn (k : Int) rfl rfl (by omega) (by omega) (by omega) ?_; intro w1 hm2 hf2)
        go_roundw
        case rel => exact ⟨k + 1, by omega, by go_num, by rw [HM.out]; exact hm2, HF.out.fresh hf2 (fun q hq => by have : q = w.heap.size := hq; omega)⟩
        case measure => simp [intOf]; omega
    · have HE := Lib.hid (nmsR_all (l := l) (k := k) (by omega))
      have hlen := fun ty => hm.len ty
      clear hm
      go_wp2
      go_ret
      exact ⟨ret_boolE HE.out, hfr⟩

set_option maxHeartbeats 1000000 in
theorem scheck_any (v : Value) (l : List Co) (w : World) (hv : Ks w v l) (hl : l.length ≤ 1000000000) (hb : ∀ c ∈ l, c.name.length ≤ 1000000000) :
    Calls Tryd.prog 28 #[v] w fun e w' => e = .returned (.int .i64 (chkC l)) ∧ Fr Non w w' := by
  obtain ⟨A, c, rfl⟩ := hv.shape
  have HV := Lib.hid hv
  have C1 := Lib.hid (contains_any _ l w hv hl hb)
  have U1 := fun W h => unlike_any (.slice A l.length c) l W h hl hb
  replace U1 := Lib.hid U1
  clear hv hb
  by_cases h0 : l.length = 0
  · have H := Lib.hid (chk_none h0)
    go_enter Tryd.func28, Tryd.ntmps28
    go_wp2
    go_ret
    exact ⟨ret_int H.out.symm, Fr.refl _ _⟩
  · have h0b : ((l.length : Int) == 0) = false := by rw [beq_eq_false_iff_ne]; omega
    have H0 := Lib.hid h0
    clear h0
    cases ha : l.any badC
    · have HA := Lib.hid ha
      rw [ha] at C1
      clear ha
      by_cases hd : (namesC l).Nodup
      · have HD := Lib.hid hd
        rw [decide_eq_true hd] at U1
        clear hd
        by_cases h6 : 6 < l.length
        · have H := Lib.hid (chk_many H0.out HA.out HD.out h6)
          go_enter Tryd.func28, Tryd.ntmps28
          go_wp2_with fail
          refine C1.out.mono ?_
          rintro e w1 ⟨rfl, f1⟩
          go_wp2_with fail
          refine (U1.out _ (HV.out.non f1)).mono ?_
          rintro e w2 ⟨rfl, f2⟩
          go_wp2
          go_ret
          exact ⟨ret_int H.out.symm, f1.trans f2⟩
        · have H := Lib.hid (chk_ok H0.out HA.out HD.out h6)
          go_enter Tryd.func28, Tryd.ntmps28
          go_wp2_with fail
          refine C1.out.mono ?_
          rintro e w1 ⟨rfl, f1⟩
          go_wp2_with fail
          refine (U1.out _ (HV.out.non f1)).mono ?_
          rintro e w2 ⟨rfl, f2⟩
          go_wp2
          go_ret
          exact ⟨ret_int H.out.symm, f1.trans f2⟩
      · have H := Lib.hid (chk_dup hd)
        rw [decide_eq_false hd] at U1
        clear hd
        go_enter Tryd.func28, Tryd.ntmps28
        go_wp2_with fail
        refine C1.out.mono ?_
        rintro e w1 ⟨rfl, f1⟩
        go_wp2_with fail
        refine (U1.out _ (HV.out.non f1)).mono ?_
        rintro e w2 ⟨rfl, f2⟩
        go_wp2
        go_ret
        exact ⟨ret_int H.out.symm, f1.trans f2⟩
    · have H := Lib.hid (chk_any ha)
      rw [ha] at C1
      clear ha
      go_enter Tryd.func28, Tryd.ntmps28
      go_wp2_with fail
      refine C1.out.mono ?_
      rintro e w1 ⟨rfl, f1⟩
      go_wp2
      go_ret
      exact ⟨ret_int H.out.symm, f1⟩
end Go.Proofs.YteagbddejbjmfaaDoor


namespace Go.Proofs.YteagbddejbjmfaaDoor
set_option linter.unusedVariables false
set_option linter.unusedSimpArgs false
set_option maxRecDepth 100000
open Go.RowKit

theorem badC_no {n : Tx} {ty : Int} {nl : Bool} (h : nameB n = true) (h1 : ¬ ty < 1) (h2 : ¬ 3 < ty) : badC ⟨n, ty, nl⟩ = false := by
  unfold badC; dsimp only; rw [h]
  have : isTy ty = true := by simp [isTy]; omega
  rw [this]; rfl
theorem badC_name {n : Tx} {ty : Int} {nl : Bool} (h : nameB n = false) : badC ⟨n, ty, nl⟩ = true := by
  unfold badC; dsimp only; rw [h]; rfl
theorem badC_ty {n : Tx} {ty : Int} {nl : Bool} (h : ty < 1 ∨ 3 < ty) : badC ⟨n, ty, nl⟩ = true := by
  unfold badC; dsimp only
  have : isTy ty = false := by simp [isTy]; omega
  rw [this]; simp

set_option maxHeartbeats 2000000 in
theorem rcheck_any (v : Value) (l : List Co) (w : World) (hv : Ks w v l) (hl : l.length ≤ 1000000000) (hb : ∀ c ∈ l, c.name.length ≤ 1000000000) :
    Calls Tryd.prog 31 #[v] w fun e w' => e = .returned (.int .i64 (chkC l)) ∧ Fr Non w w' := by
  obtain ⟨A, c, rfl, hlc, hn, hcell⟩ := hv
  have HC := Lib.hid hcell
  have HN := Lib.hid hn
  have HB := Lib.hid hb
  clear hcell hn hb
  go_enter Tryd.func31, Tryd.ntmps31
  go_wp2
  go_loopw [3] (fun i wr => ∃ (k : Nat), k ≤ l.length ∧ i = .int .i64 k ∧ Hid ((l.take k).any badC = false) ∧ Hid ((namesC (l.take k)).Nodup) ∧ Fr Non w wr) (fun i _ => l.length - (intOf i).toNat)
  case atStart => exact ⟨0, Nat.zero_le _, rfl, Lib.hid rfl, Lib.hid (by simp [namesC]), Fr.refl _ _⟩
  case round =>
    obtain ⟨k, hk, rfl, hany, hnd, hfr⟩ := hrel
    by_cases hlt : k < l.length
    · cases A with
      | none => have := HN.out rfl; omega
      | some a =>
        have HF := Lib.hid hfr
        obtain ⟨hc0, hc1, hc2⟩ := co_lit ((HC.out a rfl k hlt).non hfr)
        have HX : Hid (badC l[k] = true → chkC l = 1) := Lib.hid (fun h => chk_bad hlt h)
        have HY : Hid (badC l[k] = false → (l.take (k + 1)).any badC = false) := Lib.hid (fun h => any_more hlt hany.out h)
        have HD : Hid (∀ j (hj : j < l.length), j < k → l[j].name = l[k].name → chkC l = 1) := Lib.hid (fun j hj hjk h => chk_dup (nodup_not hlt hjk h))
        have HU : Hid ((∀ j (hj : j < l.length), j < k → l[j].name ≠ l[k].name) → (namesC (l.take (k + 1))).Nodup) := Lib.hid (fun h => nodup_more hlt hnd.out h)
        have M := fun W => rname_any l[k].name W (HB.out _ (List.getElem_mem hlt))
        have HK := Lib.hid (HC.out a rfl k hlt)
        clear hany hnd hfr
        generalize l[k] = x at *
        obtain ⟨xn, xt, xb⟩ := x
        dsimp only at hc0 hc1 hc2 HX HY HD HU M
        cases hm : nameB xn
        · have HE := Lib.hid (HX.out (badC_name hm))
          simp only [hm] at M
          replace M := Lib.hid M
          clear HX HY HD HU hm
          go_wp2_with fail
          refine (M.out _).mono ?_
          rintro e w1 ⟨rfl, f1⟩
          go_wp2
          go_ret
          exact ⟨ret_int HE.out.symm, HF.out.trans f1⟩
        · have HM := Lib.hid hm
          simp only [hm] at M
          replace M := Lib.hid M
          clear hm
          go_wp2_with fail
          refine (M.out _).mono ?_
          rintro e w1 ⟨rfl, f1⟩
          have hF1 := HF.out.trans f1
          clear hc0 hc1 hc2
          obtain ⟨hc0, hc1, hc2⟩ := co_lit (HK.out.non hF1)
          dsimp only at hc0 hc1 hc2
          replace hF1 := Lib.hid hF1
          clear HF f1 M
          by_cases t1 : xt < 1
          · have HE := Lib.hid (HX.out (badC_ty (.inl t1)))
            clear HX HY HD HU
            go_wp2
            go_ret
            exact ⟨ret_int HE.out.symm, hF1.out⟩
          · by_cases t3 : 3 < xt
            · have HE := Lib.hid (HX.out (badC_ty (.inr t3)))
              clear HX HY HD HU
              go_wp2
              go_ret
              exact ⟨ret_int HE.out.symm, hF1.out⟩
            · have HE := Lib.hid (HY.out (badC_no HM.out t1 t3))
              clear HX HY
              go_wp2
              go_loopw [4] (fun i wx => ∃ q : Nat, q ≤ k ∧ i = .int .i64 q ∧ Hid (∀ j (hj : j < l.length), j < q → l[j].name ≠ xn) ∧ ∃ n, wx = w1.drewN n) (fun i _ => k - (intOf i).toNat)
              case atStart => exact ⟨0, Nat.zero_le _, rfl, Lib.hid (fun _ _ h => by omega), 0, rfl⟩
              case round =>
                obtain ⟨q, hq, rfl, hne, n, rfl⟩ := hrel
                by_cases hqk : q < k
                · have hql : q < l.length := by omega
                  have HZ : Hid (l[q].name = xn → chkC l = 1) := Lib.hid (HD.out q hql hqk)
                  have HW := Lib.hid (fun h => ne_more hql hne.out h)
                  obtain ⟨y0, y1, y2⟩ := co_lit ((HC.out a rfl q hql).non hF1.out)
                  clear hne
                  generalize l[q] = y at *
                  obtain ⟨yn, yt, yb⟩ := y
                  dsimp only at y0 y1 y2 HZ HW
                  by_cases he : yn = xn
                  · have H := Lib.hid (HZ.out he)
                    have hbe : (yn == xn) = true := by rw [beq_iff_eq]; exact he
                    clear HZ HW he
                    go_wp2
                    go_quiet (fail)
                    go_wp2
                    go_ret
                    exact ⟨ret_int H.out.symm, (hF1.out.drewN n).drewN _⟩
                  · have H := Lib.hid (HW.out he)
                    have hbe : (yn == xn) = false := by rw [beq_eq_false_iff_ne]; exact he
                    clear HZ HW he
                    go_wp2
                    go_quiet (fail)
                    go_wp2
                    go_roundw
                    case rel => exact ⟨q + 1, by omega, by go_num, H, _, rfl⟩
                    case measure => simp [intOf]; omega
                · have H := Lib.hid (HU.out (fun j hj hjk => hne.out j hj (by omega)))
                  clear HU HD hne
                  go_wp2
                  go_roundw
                  case rel => exact ⟨k + 1, by omega, by go_num, HE, H, hF1.out.drewN n⟩
                  case measure => simp [intOf]; omega
    · have HA : Hid (l.any badC = false) := Lib.hid (by have := hany.out; rwa [List.take_of_length_le (by omega)] at this)
      have HD : Hid ((namesC l).Nodup) := Lib.hid (by have := hnd.out; rwa [List.take_of_length_le (by omega)] at this)
      clear hany hnd
      by_cases h0 : l.length = 0
      · have H := Lib.hid (chk_none h0)
        go_wp2
        go_ret
        exact ⟨ret_int H.out.symm, hfr⟩
      · have h0b : ((l.length : Int) == 0) = false := by rw [beq_eq_false_iff_ne]; omega
        have H0 := Lib.hid h0
        clear h0
        by_cases h6 : 6 < l.length
        · have H := Lib.hid (chk_many H0.out HA.out HD.out h6)
          go_wp2
          go_ret
          exact ⟨ret_int H.out.symm, hfr⟩
        · have H := Lib.hid (chk_ok H0.out HA.out HD.out h6)
          go_wp2
          go_ret
          exact ⟨ret_int H.out.symm, hfr⟩

set_option maxHeartbeats 1000000 in
theorem ksmall_any (v : Value) (l : List Co) (w : World) (hv : Ks w v l) :
    Calls Tryd.prog 6 #[v] w fun e w' => ∃ b, e = .returned (.bool b) ∧ (b = true → l.length ≤ 20 ∧ ∀ c ∈ l, c.name.length ≤ 100) ∧ Fr Non w w' := by
  obtain ⟨A, c, rfl, hlc, hn, hcell⟩ := hv
  have HC := Lib.hid hcell
  have HN := Lib.hid hn
  clear hcell hn
  go_enter Tryd.func6, Tryd.ntmps6
  go_wp2
  go_loopw [3] (fun i wr => ∃ (k : Nat), k ≤ l.length ∧ k ≤ 30 ∧ i = .int .i64 k ∧ Hid (∀ j (h : j < l.length), j < k → l[j].name.length ≤ 100) ∧ Fr Non w wr) (fun i _ => 30 - (intOf i).toNat)
  case atStart => exact ⟨0, Nat.zero_le _, Nat.zero_le _, rfl, Lib.hid (fun _ _ h => by omega), Fr.refl _ _⟩
  case round =>
    obtain ⟨k, hk, hk2, rfl, HS, hfr⟩ := hrel
    by_cases hlt : k < l.length
    · by_cases h30 : k < 30
      · cases A with
        | none => have := HN.out rfl; omega
        | some a =>
          obtain ⟨hc0, hc1, hc2⟩ := co_lit ((HC.out a rfl k hlt).non hfr)
          have HY : Hid (l[k].name.length ≤ 100 → ∀ j (h : j < l.length), j < k + 1 → l[j].name.length ≤ 100) := Lib.hid (fun h j hj hjk => by
            by_cases e : j = k
            · subst e; exact h
            · exact HS.out j hj (by omega))
          clear HS
          generalize l[k] = x at *
          obtain ⟨xn, xi, xt⟩ := x
          dsimp only at hc0 hc1 hc2 HY
          have hs := slenN xn
          by_cases hx : 100 < xn.length
          · go_wp2
            go_ret
            exact ⟨false, rfl, (fun h => by cases h), hfr⟩
          · have H := Lib.hid (HY.out (by omega))
            clear HY
            go_wp2
            go_roundw
            case rel => exact ⟨k + 1, by omega, by omega, by go_num, H, hfr⟩
            case measure => simp [intOf]; omega
      · go_wp2
        go_ret
        exact ⟨_, rfl, (fun h => by have := of_decide_eq_true h; omega), hfr⟩
    · have H : Hid (∀ c ∈ l, c.name.length ≤ 100) := Lib.hid (fun c hc => by
        obtain ⟨j, hj, rfl⟩ := List.mem_iff_getElem.1 hc
        exact HS.out j hj (by omega))
      clear HS
      go_wp2
      go_ret
      exact ⟨_, rfl, (fun h => ⟨by have := of_decide_eq_true h; omega, H.out⟩), hfr⟩

end Go.Proofs.YteagbddejbjmfaaDoor


namespace Go.Proofs.YteagbddejbjmfaaDoor
set_option linter.unusedVariables false
set_option linter.unusedSimpArgs false
set_option maxRecDepth 100000
open Go.RowKit

set_option maxHeartbeats 2000000 in
theorem rpmay_any (h : Ph) (t : Kv) (ks : List Pd) (w : World) (hk : Kd w t ks) (hlen : lenP (.mk h ks) = true) :
    Calls Tryd.prog 10 #[pdV h t] w fun e w' => e = .returned (.bool (mayP (.mk h ks))) ∧ Fr Non w w' := by
  have F0 : Fr Non w (w.alloc (.cells (pdC h t) 27)) := (Fr.refl Non w).alloc _
  have HM := Lib.hid (may_size (.mk h ks))
  have C1 := rsize_any (.mk h ks) t 16 6 6 _ rfl (hk.non F0) hlen (by omega) (by omega) (by omega)
  have C2 := Lib.hid (fun W hk => ronep_any (.mk h ks) t W hk hlen)
  have PB := Lib.hid (pd_new w _ h t rfl)
  have hs := (size_is (.mk h ks) 16 6 (by omega)).2.2
  generalize sizeP (.mk h ks) 16 6 = z at *
  generalize mayP (.mk h ks) = r at *
  generalize oneP (.mk h ks) = b at *
  dsimp only [Pd.hd, Pd.kids] at C1 C2
  have C1 := Lib.hid C1
  have HK := Lib.hid (hk.non F0)
  have F0 := Lib.hid F0
  clear hk hlen
  obtain ⟨ho, hc, hm, ⟨vn, vi, vt⟩, hkd, hp⟩ := h
  obtain ⟨A, nn, c⟩ := t
  unfold pdV pdC kidV at *
  dsimp only at *
  by_cases h16 : z ≤ 16
  · have HE : Hid (r = b) := Lib.hid (by rw [← HM.out, decide_eq_true h16]; rfl)
    clear HM
    go_enter Tryd.func10, Tryd.ntmps10
    go_wp2_with fail
    refine C1.out.mono ?_
    rintro e w1 ⟨rfl, f1⟩
    obtain ⟨g0, g1, g2, g3, g4, g5, g6, g7, g8⟩ := pdB_cells (PB.out.fr f1 (fun e => e))
    dsimp only at g0 g1 g2 g3 g4 g5 g6 g7 g8
    have HK1 := Lib.hid (HK.out.non f1)
    have F1 := Lib.hid (F0.out.trans f1)
    clear f1
    go_wp2_with fail
    refine (C2.out _ HK1.out).mono ?_
    rintro e w2 ⟨rfl, f2⟩
    go_wp2
    go_ret
    exact ⟨ret_boolE HE.out.symm, F1.out.trans f2⟩
  · have HE : Hid (r = false) := Lib.hid (by rw [← HM.out, decide_eq_false h16]; rfl)
    clear HM
    go_enter Tryd.func10, Tryd.ntmps10
    go_wp2_with fail
    refine C1.out.mono ?_
    rintro e w1 ⟨rfl, f1⟩
    go_wp2
    go_ret
    exact ⟨ret_boolE HE.out.symm, F0.out.trans f1⟩

/-! ### Small -/
theorem lenP_is (h : Ph) (ks : List Pd) : lenP (.mk h ks) = (lenH h ks.length && ks.all lenP) := by rw [lenP, lenL_all]
theorem depL_is {ks : List Pd} {m : Nat} (h : ∀ x ∈ ks, depP x ≤ m) : depL ks ≤ m := by
  induction ks with
  | nil => rw [depL]; omega
  | cons x r ih => rw [depL]; have := h x (List.mem_cons_self ..); have := ih (fun y hy => h y (List.mem_cons_of_mem _ hy)); omega
/-- yes only if P -/
def SmEnd (P : Prop) (e : Ending) : Prop := ∃ b, e = .returned (.bool b) ∧ (b = true → P)
set_option maxHeartbeats 4000000 in
theorem rpsmall_any (p : Pd) : ∀ (t : Kv) (m : Nat) (mz : Int) (w : World), mz = m → m ≤ 1000 → Kd w t p.kids →
    Calls Tryd.prog 7 #[pdV p.hd t, .int .i64 mz] w fun e w' => SmEnd (lenP p = true ∧ depP p ≤ m) e ∧ Fr Non w w' := by
  induction p using Pd.ind with
  | h hd ks ih =>
    intro t m mz w hmz hm1 hk
    subst hmz
    have hn : t.n = ks.length := hk.len
    have F0 : Fr Non w (w.alloc (.cells (pdC hd t) 27)) := (Fr.refl Non w).alloc _
    have HB := Lib.hid (pd_new w _ hd t rfl)
    have HE : Hid (lenH hd ks.length = true → 1 ≤ m → (∀ j (h : j < ks.length), lenP ks[j] = true ∧ depP ks[j] ≤ m - 1) → lenP (.mk hd ks) = true ∧ depP (.mk hd ks) ≤ m) := Lib.hid (fun a b c => by
      refine ⟨?_, ?_⟩
      · rw [lenP_is, a, Bool.true_and, List.all_eq_true]
        intro x hx
        obtain ⟨j, hj, rfl⟩ := List.mem_iff_getElem.1 hx
        exact (c j hj).1
      · have : depL ks ≤ m - 1 := depL_is (fun x hx => by obtain ⟨j, hj, rfl⟩ := List.mem_iff_getElem.1 hx; exact (c j hj).2)
        rw [depP]; omega)
    have IH : Hid (1 ≤ m → ∀ k (h : k < ks.length) (W : World) (t' : Kv), Kd W t' ks[k].kids →
        Calls Tryd.prog 7 #[pdV ks[k].hd t', .int .i64 ((m : Int) - 1)] W fun e w' => SmEnd (lenP ks[k] = true ∧ depP ks[k] ≤ m - 1) e ∧ Fr Non W w') :=
      Lib.hid (fun h1 k h W t' a => ih _ (List.getElem_mem h) t' (m - 1) _ W (by omega) (by omega) a)
    have HK : Hid (Kd w t ks) := Lib.hid hk
    have HF := Lib.hid F0
    have HLH : Hid (∀ a b c d, a = hd.col.length → b = hd.pat.length → c = hd.val.txt.length → d = ks.length → d ≤ 20 → a ≤ 100 → b ≤ 100 → c ≤ 100 → lenH hd ks.length = true) := Lib.hid (fun a b c d e1 e2 e3 e4 h1 h2 h3 h4 => by unfold lenH; exact decide_eq_true ⟨by omega, by omega, by omega, by omega⟩)
    generalize lenH hd ks.length = lh at *
    generalize lenP (.mk hd ks) = r at *
    generalize depP (.mk hd ks) = dd at *
    clear ih hk F0
    obtain ⟨ho, hc, hm, ⟨vn, vi, vt⟩, hkd, hp⟩ := hd
    obtain ⟨A, n, c⟩ := t
    dsimp only at hn
    have HL := Lib.hid hn
    have s1 := slen hc
    have s2 := slen hp
    have s3 := slen vt
    dsimp only at HLH
    unfold pdV pdC kidV
    dsimp only [Pd.hd, Pd.kids]
    clear hn
    by_cases h1 : m < 1
    · clear HE IH HLH
      go_enter Tryd.func7, Tryd.ntmps7
      go_wp2
      go_ret
      exact ⟨⟨_, rfl, fun h => by cases h⟩, HF.out⟩
    · have IH := Lib.hid (IH.out (by omega))
      by_cases h2 : 20 < n
      · clear HE IH HLH
        go_enter Tryd.func7, Tryd.ntmps7
        go_wp2
        go_ret
        exact ⟨⟨_, rfl, fun h => by cases h⟩, HF.out⟩
      · by_cases h3 : 100 < hc.length
        · clear HE IH HLH
          go_enter Tryd.func7, Tryd.ntmps7
          go_wp2
          go_ret
          exact ⟨⟨_, rfl, fun h => by cases h⟩, HF.out⟩
        · by_cases h4 : 100 < hp.length
          · clear HE IH HLH
            go_enter Tryd.func7, Tryd.ntmps7
            go_wp2
            go_ret
            exact ⟨⟨_, rfl, fun h => by cases h⟩, HF.out⟩
          · by_cases h5 : 100 < vt.length
            · clear HE IH HLH
              go_enter Tryd.func7, Tryd.ntmps7
              go_wp2
              go_ret
              exact ⟨⟨_, rfl, fun h => by cases h⟩, HF.out⟩
            · have HE1 := Lib.hid (HE.out (HLH.out _ _ _ n rfl rfl rfl HL.out (by omega) (by omega) (by omega) (by omega)) (by omega))
              clear HE HLH
              go_enter Tryd.func7, Tryd.ntmps7
              go_wp2
              go_loopw [5] (fun i wr => ∃ k : Nat, k ≤ n ∧ i = .int .i64 k ∧ Hid (∀ j (h : j < ks.length), j < k → lenP ks[j] = true ∧ depP ks[j] ≤ m - 1) ∧ Hid (Fr Non (w.alloc (.cells (pdC ⟨ho, hc, hm, ⟨vn, vi, vt⟩, hkd, hp⟩ ⟨A, n, c⟩) 27)) wr)) (fun i _ => n - (intOf i).toNat)
              case atStart => exact ⟨0, Nat.zero_le _, rfl, Lib.hid (fun _ _ h => by omega), Lib.hid (Fr.refl _ _)⟩
              case round =>
                obtain ⟨k, hk, rfl, HT, FR⟩ := hrel
                have b8 := (HB.out.fr FR.out (fun e => e)).cell 8
                simp [pdC, kidV] at b8
                have HFw := Lib.hid (HF.out.trans FR.out)
                by_cases hlt : k < n
                · have hlt2 : k < ks.length := by have := HL.out; omega
                  obtain ⟨a, t, hA, hc2, hkk, _⟩ := HK.out.elN HFw.out k hlt2
                  have HC := Lib.hid (IH.out k hlt2 wr t (hkk.non HFw.out))
                  have HY : Hid (lenP ks[k] = true ∧ depP ks[k] ≤ m - 1 → ∀ j (h : j < ks.length), j < k + 1 → lenP ks[j] = true ∧ depP ks[j] ≤ m - 1) := Lib.hid (fun e j hj hjk => by
                    by_cases ee : j = k
                    · subst ee; exact e
                    · exact HT.out j hj (by omega))
                  dsimp only at hA
                  subst hA
                  obtain ⟨c0, c1, c2, c3, c4, c5, c6, c7, c8⟩ := hc2
                  clear hkk HT
                  generalize lenP ks[k] = y1 at *
                  generalize depP ks[k] = y2 at *
                  generalize ks[k].hd = x at *
                  obtain ⟨xo, xc, xm, ⟨xn, xi, xt⟩, xk, xp⟩ := x
                  obtain ⟨tA, tn, tc⟩ := t
                  unfold pdV pdC kidV at HC
                  dsimp only at HC c0 c1 c2 c3 c4 c5 c6 c7 c8
                  go_wp2_with fail
                  refine HC.out.mono ?_
                  rintro e w2 ⟨⟨b, rfl, hb⟩, f2⟩
                  have HB2 := Lib.hid hb
                  clear hb
                  cases b
                  · go_wp2
                    go_ret
                    exact ⟨⟨_, rfl, fun h => by cases h⟩, HFw.out.trans f2⟩
                  · have HT := Lib.hid (HY.out (HB2.out rfl))
                    clear HB2 HY
                    go_wp2
                    go_roundw
                    case rel => exact ⟨k + 1, by omega, by go_num, HT, Lib.hid (FR.out.trans f2)⟩
                    case measure => simp [intOf]; omega
                · have HE2 := Lib.hid (HE1.out (fun j hj => HT.out j hj (by have := HL.out; omega)))
                  clear HE1 HT
                  go_wp2
                  go_ret
                  exact ⟨⟨_, rfl, fun _ => HE2.out⟩, HFw.out⟩
end Go.Proofs.YteagbddejbjmfaaDoor
