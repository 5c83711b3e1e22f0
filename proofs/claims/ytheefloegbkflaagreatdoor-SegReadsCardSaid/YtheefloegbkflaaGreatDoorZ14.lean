/-
  Joined: Layer 13: all rows read, the document's. · Layer 13: footers' words compared; the walk of the law on what is read. · Arguments of layer 2's laws, opened: a number of 32 bits, four bytes by value, a slice of slices of bytes; and the table that the program lays. · Arguments opened: a slice of cells. · Arguments opened: a slice of columns.
-/
import Derived.Deep.RegionHeld3
import Derived.Lib.SmallJoins
import Derived.Test.YtheefloegbkflaaGreatDoorZ10
import Derived.Test.YtheefloegbkflaaGreatDoorZ13
import Derived.Test.YtheefloegbkflaaGreatDoorZ9
import Derived.Test.YtheefloegbkflaaGreatDoorZ11
import Derived.Laws.StructEq
import Derived.Test.YtheefloegbkflaaGreatDoorZ3
import Derived.Deep.Matrix
import Derived.LaidMore
import Derived.Lib.LaidTab
import Derived.Laws.IdiomArrays
import Derived.Test.YtheefloegbkflaaGreatDoorZ1
import Derived.Test.YtheefloegbkflaaGreatDoorZ7

namespace Go.Proofs.YtheefloegbkflaaGreatDoor
set_option linter.unusedVariables false
set_option linter.unusedSimpArgs false
set_option maxRecDepth 100000
open Go.RowKit

/-! ### Rows, apart from each other and from some blocks, to be appended to in their places -/
def Rz (w : World) (B : Nat) (v : Value) (rs : List (List Cl)) (X : Nat → Prop) : Prop := ∃ hs : List Sl, hs.length = rs.length ∧ Ow slV 59 w B v hs ∧ (∀ i (h : i < hs.length) (h2 : i < rs.length), Oc w B (slV hs[i]) rs[i]) ∧ Apart hs ∧ ∀ i (h : i < hs.length) k, (slV hs[i]).ownBlock = some k → ¬ X k
theorem Rz.rq {w : World} {B : Nat} {v : Value} {rs : List (List Cl)} {X : Nat → Prop} (h : Rz w B v rs X) : Rq w B v rs := by
  obtain ⟨hs, h1, h2, h3, h4, _⟩ := h
  exact ⟨hs, h1, h2, h3, h4⟩
theorem Rq.rz {w w' : World} {B : Nat} {v : Value} {rs : List (List Cl)} {X : Nat → Prop} (h : Rq w B v rs) (hf : Fr Non w w') (hX : ∀ k, X k → w.heap.size ≤ k) : Rz w' B v rs X := by
  obtain ⟨hs, h1, h2, h3, h4⟩ := h
  exact ⟨hs, h1, h2.non hf, fun i a b => (h3 i a b).non hf, h4, fun i a k hk hx => by
    have := ((h3 i a (by omega)).lt k hk).2
    have := hX k hx
    omega⟩
theorem Rz.el {w : World} {B g n cap : Nat} {rs : List (List Cl)} {X : Nat → Prop} (h : Rz w B (.slice (some ⟨g, 0, none⟩) n cap) rs X) (hX : ∀ k, X k → k < w.heap.size) (hn : n = rs.length) (j : Nat) (hj : j < rs.length) :
    ∃ A' c', w.cell? ⟨g, j, none⟩ = some (.slice A' rs[j].length c') ∧ Oc w B (.slice A' rs[j].length c') rs[j] ∧ (∀ k, (Value.slice A' rs[j].length c').ownBlock = some k → ¬ X k ∧ k ≠ g) ∧
      ∀ (w1 w2 : World) (u : Value) (l : List Cl), Fr Non w w1 → Fr (fun k => (Value.slice A' rs[j].length c').ownBlock = some k) w1 w2 → Oc w2 B u l → (u.ownBlock = (Value.slice A' rs[j].length c').ownBlock ∨ ∀ k, u.ownBlock = some k → w1.heap.size ≤ k) →
        w2.frozen? ⟨g, j, none⟩ = false ∧ g < w2.heap.size ∧ Rz (w2.setCell ⟨g, j, none⟩ u) B (.slice (some ⟨g, 0, none⟩) n cap) (rs.set j l) X := by
  obtain ⟨hs, h1, h2, h3, h4, hx⟩ := h
  have hj' : j < hs.length := by omega
  have h5 := h3 j hj' hj
  obtain ⟨A', c', e⟩ := h5.shape
  have h6 := h2.cell (by omega) j hs[j] (List.getElem?_eq_getElem hj')
  have hown : (slV hs[j]).ownBlock = (Value.slice A' rs[j].length c').ownBlock := by rw [e]
  obtain ⟨cur0, hg0⟩ := h2.kind g rfl
  have hng : ∀ k, (Value.slice A' rs[j].length c').ownBlock = some k → k ≠ g := by rw [← e]; exact oc_kind_ne h5 hg0 cell_ne_cells
  refine ⟨A', c', by rw [h6, e], by rw [← e]; exact h5, fun k hk => ⟨hx j hj' k (by rw [hown]; exact hk), hng k hk⟩, fun w1 w2 u l f1 f2 hu hblk => ?_⟩
  have o1 := h2.non f1
  have o2 : Ow slV 59 w2 B (.slice (some ⟨g, 0, none⟩) n cap) hs := o1.fr f2 (fun k hk e2 => hng k e2 (by simpa [Value.ownBlock] using hk.symm))
  obtain ⟨cur, hg⟩ := o2.kind g rfl
  obtain ⟨A, c, rfl⟩ := hu.shape
  have hf : Fr (One g) w2 (w2.setCell ⟨g, j, none⟩ (.slice A l.length c)) := (Fr.refl _ _).set1 j _
  refine ⟨o2.frozen (by omega) j, (o2.lt g rfl).2, hs.set j ⟨A, l.length, c⟩, by simp [h1], o2.store (by omega) j ⟨A, l.length, c⟩, fun i a b => ?_, fun i i' hi hi' hne k hk hk' => ?_, fun i a k hk hxk => ?_⟩
  · simp only [List.getElem_set]
    split
    · exact hu.fr hf (oc_kind_ne hu hg cell_ne_cells)
    · rename_i hne
      have a' : i < hs.length := by simpa using a
      have h7 := (h3 i a' (by simpa using b)).non f1
      have h8 := h7.fr f2 (fun k hk e2 => h4 i j a' hj' (fun e => hne e.symm) k hk (by rw [hown]; exact e2))
      exact h8.fr hf (oc_kind_ne h8 hg cell_ne_cells)
  · simp only [List.length_set] at hi hi'
    simp only [List.getElem_set] at hk hk'
    have old : ∀ i (hi : i < hs.length), i ≠ j → ∀ k, (slV hs[i]).ownBlock = some k → (slV (⟨A, l.length, c⟩ : Sl)).ownBlock ≠ some k := by
      intro i hi hne k hk hk'
      have hk2 : (Value.slice A l.length c).ownBlock = some k := hk'
      rcases hblk with hb | hb
      · rw [hb] at hk2
        exact h4 i j hi hj' hne k hk (by rw [hown]; exact hk2)
      · have h9 := hb k hk2
        have h10 := ((h3 i hi (by omega)).lt k hk).2
        have := f1.size
        omega
    by_cases e1 : j = i
    · rw [if_pos e1] at hk
      rw [if_neg (fun e2 => hne (by omega))] at hk'
      exact old i' hi' (by omega) k hk' hk
    · rw [if_neg e1] at hk
      by_cases e2 : j = i'
      · rw [if_pos e2] at hk'
        exact old i hi (by omega) k hk hk'
      · rw [if_neg e2] at hk'
        exact h4 i i' hi hi' hne k hk hk'
  · simp only [List.length_set] at a
    simp only [List.getElem_set] at hk
    split at hk
    · have hk2 : (Value.slice A l.length c).ownBlock = some k := hk
      rcases hblk with hb | hb
      · rw [hb] at hk2
        exact hx j hj' k (by rw [hown]; exact hk2) hxk
      · have h9 := hb k hk2
        have h10 := hX k hxk
        have := f1.size
        omega
    · exact hx i a k hk hxk

theorem Rz.other {w : World} {B B' g n cap : Nat} {rs : List (List Cl)} {X : Nat → Prop} {u : Value} {l : List Cl} (h : Rz w B (.slice (some ⟨g, 0, none⟩) n cap) rs X) (hc : Oc w B' u l) : ∀ k, u.ownBlock = some k → k ≠ g := by
  obtain ⟨hs, h1, h2, _⟩ := h
  obtain ⟨cur, hg⟩ := h2.kind g rfl
  exact oc_kind_ne hc hg cell_ne_cells

theorem ho_ne_c {w : World} {B B' : Nat} {u v : Value} {l : List Ch} {m : List Cl} (h : Ho w B u l) (h2 : Oc w B' v m) : ∀ q, u.ownBlock = some q → v.ownBlock ≠ some q := by
  intro q hq hv
  obtain ⟨c1, e1⟩ := h.kind q hq
  obtain ⟨c2, e2⟩ := h2.kind q hv
  rw [e1] at e2
  simp at e2

/-- append of one cell, which was stored in a new block first, as one step of a region that draws -/
theorem step_pushC2 {w0 : World} {ops : Array Oper} {o : Oper} {a : Act} {K : Act → World → Prop} {Q : Exit → Act → World → Prop} {E : Prop} (hgd : o.guard = none) (s x : Operand)
    (ho : o.op = .call { callee := .builtin .append, args := #[s, x], argTypes := #[59, 59] })
    (B : Nat) (v : Value) (l : List Cl) (hs : a.eval s = v) (hown : Oc w0 B v l) (y : Cl) (b : Bool) (i : Int) (t : ByteArray) (hb : b = y.null) (hi : i = y.num) (ht : t = ⟨y.txt.toArray⟩) (g : Nat) (hx : a.eval x = .slice (some ⟨g, 0, none⟩) 1 1) (hg : g = w0.heap.size)
    (hl : l.length < 1099511627776) (hB : B ≤ w0.heap.size)
    (h : ∀ v' w', Oc w' B v' (l ++ [y]) → Fr (fun k => v.ownBlock = some k) w0 w' → (v'.ownBlock = v.ownBlock ∨ ∀ k, v'.ownBlock = some k → w0.heap.size ≤ k) → K (a.put o.dst v') w') :
    if Region.wanted o (yielded ops a.tmps) = true then Oper.wp Tryz.prog o a (w0.alloc (.cells #[.bool b, .int .i64 i, .string t] 54)) K Q else E := by
  have hw : Region.wanted o (yielded ops a.tmps) = true := by simp [Region.wanted, hgd]
  rw [if_pos hw]
  subst hb hi ht hg
  obtain ⟨ii, hi, hz0, hz1, hz2⟩ := info_parts info_cl
  have hbl := ((cl_new w0 y).facts)
  have hnews : ∀ (j : Nat) (u : Value), (clL y)[j]? = some u → (w0.alloc (.cells #[.bool y.null, .int .i64 y.num, .string ⟨y.txt.toArray⟩] 54)).cell? ((⟨w0.heap.size, 0, none⟩ : Addr).add j) = some u := by
    intro j u hu
    rw [Addr.add_lit, Nat.zero_add]
    match j with
    | 0 => obtain rfl : _ = u := by simpa [clL] using hu
           exact hbl.1
    | 1 => obtain rfl : _ = u := by simpa [clL] using hu
           exact hbl.2.1
    | 2 => obtain rfl : _ = u := by simpa [clL] using hu
           exact hbl.2.2.1
    | j + 3 => simp [clL] at hu
  have hone : ∀ u ∈ clL y, u.oneCell' = true := fun u hu => clsL_one' [y] u (by rw [clsL_one]; exact hu)
  have hownA := hown.alloc (.cells #[.bool y.null, .int .i64 y.num, .string ⟨y.txt.toArray⟩] 54)
  obtain ⟨v', w', hr, h1, h2, h3⟩ := run_append_wh (P := Tryz.prog) (w0.alloc (.cells #[.bool y.null, .int .i64 y.num, .string ⟨y.txt.toArray⟩] 54)) B 59 o.type 54 ii _ 3 32 Tryz.underlying59 hi hz0 hz1 hz2 rfl (by omega) v l.length (clsL l) hownA ⟨w0.heap.size, 0, none⟩ 1 1 (clL y) rfl hnews hone (by unfold maxLen; omega) (by omega) (by simp; omega)
  unfold Oper.wp
  simp only [execOp, ho, resolve, invoke, builtin, Sem.run_bind, Sem.run_pure, Result.andThen_ok, List.map_toArray, List.map_cons, List.map_nil, hs, hx, hr]
  refine h v' w' ?_ (((Fr.refl _ _).alloc _).join (Fr.of_grown h2) fun k hk e => e) (h3.imp id fun h4 k hk => by
    have := h4 k hk
    simp at this
    omega)
  unfold Oc
  rw [clsL_app, clsL_one, List.length_append]
  exact h1

/-! ### What has been gathered: of the first k rows one cell more -/
def mixR (a b : List (List Cl)) (k : Nat) : List (List Cl) := a.take k ++ b.drop k
theorem mix_zero (a b : List (List Cl)) : mixR a b 0 = b := by simp [mixR]
theorem mix_end {a b : List (List Cl)} {k : Nat} (h : a.length ≤ k) (h2 : b.length ≤ k) : mixR a b k = a := by
  unfold mixR
  rw [List.take_of_length_le h, List.drop_of_length_le h2, List.append_nil]
theorem mix_len {a b : List (List Cl)} {k : Nat} (h : a.length = b.length) (hk : k ≤ b.length) : (mixR a b k).length = b.length := by
  simp [mixR]; omega
theorem mix_at {a b : List (List Cl)} {k : Nat} (h : a.length = b.length) (hk : k < b.length) (hk2 : k < (mixR a b k).length) : (mixR a b k)[k] = b[k] := by
  have h1 : (a.take k).length = k := by simp; omega
  have e : (mixR a b k)[k]? = some b[k] := by
    unfold mixR
    rw [List.getElem?_append_right (by omega), h1, Nat.sub_self, List.getElem?_drop, Nat.add_zero, List.getElem?_eq_getElem hk]
  exact Option.some.inj ((List.getElem?_eq_getElem hk2).symm.trans e)
theorem mix_set {a b : List (List Cl)} {k : Nat} (h : a.length = b.length) (hk : k < b.length) (x : List Cl) (hx : a[k]? = some x) : (mixR a b k).set k x = mixR a b (k + 1) := by
  have h1 : (a.take k).length = k := by simp; omega
  have hka : k < a.length := by omega
  have e : a[k] = x := by rw [List.getElem?_eq_getElem hka] at hx; exact Option.some.inj hx
  unfold mixR
  rw [List.set_append_right _ _ (by omega), h1, Nat.sub_self, List.drop_eq_getElem_cons hk, List.set_cons_zero, List.take_succ_eq_append_getElem hka, e, List.append_assoc]
  rfl
theorem across_nil (R : Nat) : across [] R = List.replicate R [] := by
  apply List.ext_getElem
  · simp [across_length]
  · intro i h1 h2
    rw [across_at]; simp
theorem across_snoc (D : List (List Cl)) (l : List Cl) (R k : Nat) (h : k < R) (h2 : k < l.length) (h3 : k < (across D R).length) : (across (D ++ [l]) R)[k]? = some ((across D R)[k] ++ [l[k]]) := by
  rw [List.getElem?_eq_getElem (by rw [across_length]; exact h), across_at, across_at, List.map_append]
  simp [h2]
theorem across_row {D : List (List Cl)} {R k : Nat} (h3 : k < (across D R).length) : (across D R)[k].length = D.length := by rw [across_at]; simp

set_option maxHeartbeats 8000000 in
theorem rrows13_any (v1 vb : Value) (cols : List Co) (b : List UInt8) (foot : Int) (w : World) (h1 : Ks w v1 cols) (hv : Bs w vb b) (hvl : ∀ q, v1.ownBlock = some q → q < w.heap.size) (hbl : ∀ q, vb.ownBlock = some q → q < w.heap.size) (hl : cols.length ≤ 1000000000) (hn : ∀ c ∈ cols, c.name.length ≤ 1000000000) (hb : b.length ≤ 100000) :
    Calls Tryz.prog 19 #[v1, vb, .int .i64 foot] w fun e w' => RowR w' w.heap.size (rowsR cols b foot) e ∧ Fr Non w w' := by
  obtain ⟨A1, c1, rfl⟩ := h1.shape
  obtain ⟨A, c, rfl, hlc, _⟩ := hv
  have hv : Bs w (.slice A b.length c) b := ⟨A, c, rfl, hlc, by assumption⟩
  by_cases hf0 : foot < 0
  · have d0 : decide (foot < 0) = true := by simpa using hf0
    have HE := Lib.hid (rowsR_arg (cols := cols) (b := b) (.inl hf0))
    clear hf0 h1 hv hvl hbl hn
    go_enter Tryz.func19, Tryz.ntmps19
    go_wp2
    go_ret2
    exact ⟨rowR_no HE.out, Fr.refl _ _⟩
  · have d0 : decide (foot < 0) = false := by simpa using hf0
    by_cases hf1 : (b.length : Int) < foot
    · have d1 : decide ((b.length : Int) < foot) = true := by simpa using hf1
      have HE := Lib.hid (rowsR_arg (cols := cols) (b := b) (.inr hf1))
      clear hf0 hf1 h1 hv hvl hbl hn
      go_enter Tryz.func19, Tryz.ntmps19
      go_wp2
      go_ret2
      exact ⟨rowR_no HE.out, Fr.refl _ _⟩
    · obtain ⟨n, rfl⟩ : ∃ n : Nat, foot = (n : Int) := ⟨foot.toNat, by omega⟩
      have hnb : n ≤ b.length := by omega
      have d1 : decide ((b.length : Int) < (n : Int)) = false := decide_eq_false (by omega)
      have d2 : decide (b.length < n) = false := decide_eq_false (by omega)
      have d3 : decide ((n : Int) < 0) = false := decide_eq_false (by omega)
      obtain ⟨As, cs, hrun, hbs, hblk⟩ := slice_lo A b.length c (b.length - n) .i64 ((b.length : Int) - n) (by omega) (by omega) hlc
      rw [show b.length - (b.length - n) = n by omega] at hrun hbs hblk
      have HV := Lib.hid hv
      have H1 := Lib.hid h1
      have HBl := Lib.hid hbl
      have hfl : (b.drop (b.length - n)).length = n := by rw [List.length_drop]; omega
      have HRd := Lib.hid (rread13_any _ _ cols (b.drop (b.length - n)) b.length w h1 (hbs w b rfl hv) hvl (by rw [hblk]; exact hbl) hl hn (by omega))
      have HIs := Lib.hid (fun h => readF_is (cols := cols) (b := b.drop (b.length - n)) (size := b.length) h)
      have HR1 := Lib.hid (fun e R chs h he => rowsR_read (cols := cols) (b := b) (foot := n) (e := e) (R := R) (chs := chs) hnb h he)
      have HR2 := Lib.hid (fun R chs h hc => rowsR_cols (cols := cols) (b := b) (foot := n) (R := R) (chs := chs) hnb h hc)
      have HR3 := Lib.hid (fun R chs h hc => rowsR_yes (cols := cols) (b := b) (foot := n) (R := R) (chs := chs) hnb h hc)
      have HFl := Lib.hid hfl
      clear h1 hv hvl hbl hn hbs hblk hf0 hf1 d0 hfl
      unfold RdR at HRd
      generalize hX : readF cols (b.drop (b.length - n)) b.length = X at *
      obtain ⟨E, R, chs⟩ := X
      dsimp only at HIs HRd
      have HIs2 := Lib.hid HIs.out
      clear hX
      go_enter Tryz.func19, Tryz.ntmps19
      go_wp2_with fail
      refine HRd.out.mono ?_
      rintro e w1 ⟨⟨u1, rfl, ho1⟩, f1⟩
      obtain ⟨Au, cu, rfl⟩ := (ho1.ns fd_ch).shape
      have fa := (Fr.refl Non w1).alloc (.cells #[.int .i64 (R : Int), .slice Au chs.length cu] 43)
      have hB : RfB (w1.alloc (.cells #[.int .i64 (R : Int), .slice Au chs.length cu] 43)) w1.heap.size R (.slice Au chs.length cu) := Blk.new _ _ _
      have F2 := f1.trans fa
      have hO2 := ho1.alloc (.cells #[.int .i64 (R : Int), .slice Au chs.length cu] 43)
      by_cases hE : E = 0
      · obtain rfl : E = 0 := hE
        obtain ⟨hc, hR1, hR2, hcl, e0, hch, hsz⟩ := HIs.out rfl
        rw [HFl.out] at hsz
        have HPl := Lib.hid (chain_le chs 0 e0 hch).2
        have he0 : e0 ≤ b.length := by omega
        have hc6 := (chk_is hc).2.2.2
        have hcl1 : chs.length ≤ cols.length := by omega
        have hcl2 : cols.length ≤ chs.length := by omega
        have HQ2 := Lib.hid (HR2.out R chs (by first | rfl | trivial))
        have HQ3 := Lib.hid (HR3.out R chs (by first | rfl | trivial))
        have HB2 : Hid (RfB _ _ _ _) := Lib.hid hB
        have HF2 := Lib.hid F2
        have HO2 := Lib.hid hO2
        have hz2 : (w1.alloc (.cells #[.int .i64 (R : Int), .slice Au chs.length cu] 43)).heap.size = w1.heap.size + 1 := by simp
        have y0 := hB.cell 0
        have HWs := Lib.hid f1.size
        clear hc hB F2 hO2 fa f1 ho1 HRd hch hsz hcl HIs HIs2 HR1 HR2 HR3
        go_wp2_with (at_make; refine wpList_mkfullG (f := slV) el_rows noSl rfl rfl _ _ rfl _ _ _ _ R rfl rfl rfl rfl (by omega) ?_; intro w3 hown3 hf3; (try rw [hz2] at hown3); (try rw [hz2]); have b3 := HB2.out.fr hf3 (fun e => e); have y1 : w3.cell? ⟨w1.heap.size, 1, none⟩ = some (.slice Au chs.length cu) := b3.cell 1)
        have ho3 := rq_made hown3
        rw [← across_nil] at ho3
        have hO3 := HO2.out.non hf3
        have F3 := HF2.out.trans hf3
        clear HB2 HO2 HF2 hf3 hown3 hz2 y1 y0
        generalize hg8 : w1.heap.size = g8 at *
        have hg8w : w.heap.size ≤ g8 := by have := HWs.out; omega
        clear hg8 HWs
        go_loopw [11] (fun i wr => ∃ k : Nat, k ≤ cols.length ∧ i = .int .i64 k ∧ Hid ((colsR cols R chs b k).1 = 0) ∧ RfB wr g8 R (.slice Au chs.length cu) ∧ Ho wr w.heap.size (.slice Au chs.length cu) chs ∧ Rq wr (g8 + 1) (.slice (some ⟨g8 + 1, 0, none⟩) R R) (across (colsR cols R chs b k).2 R) ∧ Fr Non w wr) (fun i _ => cols.length - (intOf i).toNat)
        case atStart => exact ⟨0, Nat.zero_le _, rfl, Lib.hid rfl, b3, hO3, ho3, F3⟩
        case round =>
          clear b3 hO3 ho3 F3
          obtain ⟨k, hk, rfl, HK, hB, hO, hRq, hF⟩ := hrel
          have hgcl := (hRq.ro.lt _ rfl).2
          have HGl : Hid (g8 + 1 < wr.heap.size) := Lib.hid hgcl
          by_cases hlt : k < cols.length
          · have hltc : k < chs.length := by omega
            have hD := colsR_len HK.out
            have k1 := hB.cell 1
            have hOn := hO.ns fd_ch
            obtain ⟨a2, rfl, _⟩ := hOn.at_ k chs[k] (List.getElem?_eq_getElem hltc)
            obtain ⟨g0, g1, g2, g3, g4, g5, g6, g7, g8', g9⟩ := hs_lit hOn k chs[k] (List.getElem?_eq_getElem hltc)
            have hpl := HPl.out k hltc
            have HPc := Lib.hid (piece_at (b := b) hltc)
            have HMore := Lib.hid (fun h2 => colsR_more (b := b) HK.out h2)
            have HStop := Lib.hid (fun h2 => colsR_stop (b := b) HK.out h2)
            have HLn := Lib.hid (fun h2 : (colE cols R chs k (pieceF b (chs.getD k ⟨0, 0, noZn⟩))).1 = 0 => colR_is (by rw [colE_at _ hlt hltc] at h2; exact h2))
            rw [← colE_at _ hlt hltc] at HLn
            have hsh := colE_short (cols := cols) (R := R) (chs := chs) (i := k) (b := pieceF b (chs.getD k ⟨0, 0, noZn⟩))
            generalize hcol : colE cols R chs k (pieceF b (chs.getD k ⟨0, 0, noZn⟩)) = col at *
            generalize (colsR cols R chs b k).2 = D at *
            generalize chs[k] = ch at *
            obtain ⟨off, len, zc⟩ := ch
            dsimp only at g0 g1 g2 g3 g4 g5 g6 g7 g8' g9 hpl HPc
            obtain ⟨A5, c5, hrun5, hbs5, hblk5⟩ := slice_lh A b.length c off (off + len) .i64 .i64 (off : Int) ((off : Int) + len) rfl (by push_cast; rfl) (by omega) (by omega) hlc
            rw [show off + len - off = len by omega] at hrun5 hbs5 hblk5
            have hww : IntKind.i64.wrap ((off : Int) + len) = (off : Int) + len := IntWalk.i64_in _ ⟨by omega, by omega⟩
            have fa := (Fr.refl Non wr).alloc (.cells #[.int .i64 (off : Int), .int .i64 (len : Int), .int .i64 zc.rows, .int .i64 zc.nulls, .bool zc.low.null, .int .i64 zc.low.num, .string ⟨zc.low.txt.toArray⟩, .bool zc.high.null, .int .i64 zc.high.num, .string ⟨zc.high.txt.toArray⟩] 58)
            have cb : Blk (wr.alloc (.cells #[.int .i64 (off : Int), .int .i64 (len : Int), .int .i64 zc.rows, .int .i64 zc.nulls, .bool zc.low.null, .int .i64 zc.low.num, .string ⟨zc.low.txt.toArray⟩, .bool zc.high.null, .int .i64 zc.high.num, .string ⟨zc.high.txt.toArray⟩] 58)).drew wr.heap.size 58 #[.int .i64 (off : Int), .int .i64 (len : Int), .int .i64 zc.rows, .int .i64 zc.nulls, .bool zc.low.null, .int .i64 zc.low.num, .string ⟨zc.low.txt.toArray⟩, .bool zc.high.null, .int .i64 zc.high.num, .string ⟨zc.high.txt.toArray⟩] := Blk.new _ _ _
            have fd : Fr Non wr (wr.alloc (.cells #[.int .i64 (off : Int), .int .i64 (len : Int), .int .i64 zc.rows, .int .i64 zc.nulls, .bool zc.low.null, .int .i64 zc.low.num, .string ⟨zc.low.txt.toArray⟩, .bool zc.high.null, .int .i64 zc.high.num, .string ⟨zc.high.txt.toArray⟩] 58)).drew := fa.drew
            have hBd := hB.fr fd (fun e => e)
            have hOd := hO.non fd
            have hRd := hRq.non fd
            have hFd := hF.trans fd
            have CC := Lib.hid (rcolumn_any _ _ _ cols chs R k _ _ (H1.out.non hFd) (hOd.ns fd_ch) (hbs5 _ b rfl (HV.out.non hFd)) (by rw [hblk5]; exact fun q hq => Nat.lt_of_lt_of_le (HBl.out q hq) hFd.size) (by omega) hl (by omega) (by rw [List.length_take, List.length_drop]; omega))
            rw [← HPc.out, hcol] at CC
            have s1 := s4_of hBd cb
            have HFd := Lib.hid hFd
            have HBd : Hid (RfB _ _ _ _) := Lib.hid hBd
            have HOd := Lib.hid hOd
            have HRd := Lib.hid hRd
            have HCb : Hid (Blk _ _ _ _) := Lib.hid cb
            have hszd := Lib.hid hFd.size
            obtain ⟨E2, l2⟩ := col
            unfold ColR at CC
            dsimp only at CC hsh HMore HStop HLn
            clear hB hO hRq hF fd hBd hOd hRd hFd cb fa hcol HK hOn
            go_wp2
            go_region_held3 (fun W => W.cell? ⟨g8, 0, none⟩ = some (.int .i64 R) ∧ W.cell? ⟨g8, 1, none⟩ = some (.slice (some a2) chs.length cu) ∧ W.cell? ⟨wr.heap.size, 0, none⟩ = some (.int .i64 off) ∧ W.cell? ⟨wr.heap.size, 1, none⟩ = some (.int .i64 len)) (first | exact s1 | exact s2 | fail) (first | (go_at_call 23; (with_reducible refine CC.out.mono ?_); rintro e w4 ⟨⟨u4, rfl, ho4⟩, f4⟩; obtain ⟨A4, c4, rfl⟩ := ho4.shape; have b4 := HBd.out.fr f4 (fun e => e); have cb4 := HCb.out.fr f4 (fun e => e); have F4 := HFd.out.trans f4; have s2 := s4_of b4 cb4))
            have hzG := (Fr.refl Non wr).alloc
            have HRz := Lib.hid (HRd.out.rz (X := fun q => (Value.slice A4 l2.length c4).ownBlock = some q) f4 (fun q hq => (ho4.lt q hq).1))
            have HO4 := Lib.hid (HOd.out.non f4)
            have HB4 : Hid (RfB _ _ _ _) := Lib.hid b4
            have HF4 := Lib.hid F4
            have HC4 := Lib.hid ho4
            clear k1 b4 cb4 F4 s1 s2 CC HFd HBd HOd HRd HCb f4 ho4 hgcl hzG
            by_cases hE2 : E2 = 0
            · have hEb : (E2 != 0) = false := by rw [hE2]; rfl
              have HM := Lib.hid (HMore.out hE2)
              have hlr := HLn.out hE2
              have hlr1 : l2.length ≤ R := by omega
              have hlr2 : R ≤ l2.length := by omega
              have HAl := Lib.hid (across_length D R)
              have HAm := Lib.hid (across_length (D ++ [l2]) R)
              have HAs := Lib.hid (fun j h h2 h3 => across_snoc D l2 R j h h2 h3)
              have HAr := Lib.hid (fun (j : Nat) h => across_row (D := D) (R := R) (k := j) h)
              clear HMore HStop hE2 hlr HLn
              generalize hX1 : across D R = X1 at *
              generalize hX2 : across (D ++ [l2]) R = X2 at *
              have hD6 : D.length ≤ 6 := by omega
              clear hX1 hD
              go_wp2
              rename World => wold
              go_loopw [15] (fun i wr => ∃ j : Nat, j ≤ R ∧ i = .int .i64 j ∧ RfB wr g8 R (.slice (some a2) chs.length cu) ∧ Ho wr w.heap.size (.slice (some a2) chs.length cu) chs ∧ Oc wr w.heap.size (.slice A4 l2.length c4) l2 ∧ Rz wr (g8 + 1) (.slice (some ⟨g8 + 1, 0, none⟩) R R) (mixR X2 X1 j) (fun q => (Value.slice A4 l2.length c4).ownBlock = some q) ∧ Fr Non w wr) (fun i _ => R - (intOf i).toNat)
              case atStart =>
                refine ⟨0, Nat.zero_le _, rfl, HB4.out, HO4.out, HC4.out.mono hszd.out, ?_, HF4.out⟩
                rw [mix_zero]
                exact HRz.out
              case round =>
                clear HB4 HO4 HC4 HRz HF4 hszd
                obtain ⟨j, hj, rfl, hB, hO, hC, hRz, hF⟩ := hrel
                by_cases hltj : j < R
                · have hX1l := HAl.out
                  have hX2l := HAm.out
                  have hjm : j < (mixR X2 X1 j).length := by rw [mix_len (by omega) (by omega)]; omega
                  have HE0 := hRz.el (fun q hq => (hC.lt q hq).2) (by rw [mix_len (by omega) (by omega)]; omega) j hjm
                  have hat := mix_at (a := X2) (b := X1) (k := j) (by omega) (by omega) hjm
                  have hrl := HAr.out j (by omega)
                  have hsn := HAs.out j hltj (by omega) (by omega)
                  have hng : ∀ q, (Value.slice A4 l2.length c4).ownBlock = some q → q ≠ g8 + 1 := hRz.other hC
                  rw [← hat] at hrl hsn
                  have hset := mix_set (a := X2) (b := X1) (k := j) (by omega) (by omega) _ hsn
                  have HSet := Lib.hid hset
                  obtain ⟨a4, rfl, _, _, hel⟩ := hC.cs.addr (by omega)
                  have At := hel j (by omega)
                  generalize (mixR X2 X1 j)[j] = L at *
                  generalize l2[j] = y at *
                  obtain ⟨A', c', tc, hor, hne, hEl⟩ := HE0
                  have HEl := Lib.hid hEl
                  have fdr : Fr Non wr wr.drew := (Fr.refl Non wr).drew
                  have hlt4 : (a4.add (j * 3)).block < wr.heap.size := by rw [add_block]; exact (hC.lt _ rfl).2
                  have hgl := (hRz.rq.ro.lt _ rfl).2
                  have hsz := hF.drew.size
                  have hgl2 : g8 + 1 ≤ wr.drew.heap.size := Nat.le_of_lt (Nat.lt_of_lt_of_le hgl fdr.size)
                  have At1 := fdr.at3 At
                  have fal := fdr.alloc (.cells #[.bool y.null, .int .i64 y.num, .string ⟨y.txt.toArray⟩] 54)
                  have At2 := fal.at3 At
                  have tc1 := (fdr.cell (p := ⟨g8 + 1, j, none⟩) hgl (fun e => e)).trans tc
                  have tc2 := (fal.cell (p := ⟨g8 + 1, j, none⟩) hgl (fun e => e)).trans tc
                  have s1 := At1.lit
                  have s2 := At2.lit
                  have hor1 := hor.non fdr
                  have hLl : L.length < 1099511627776 := by omega
                  have HAt1 := Lib.hid At1
                  have HNe := Lib.hid hne
                  have HNg := Lib.hid hng
                  have HGo : Hid (∀ q, (Value.slice (some a2) chs.length cu).ownBlock = some q → q ≠ g8 + 1) := Lib.hid (ho_ne hO hRz.rq.ro)
                  have Hor := Lib.hid hor
                  have Hor1 := Lib.hid hor1
                  have HB := Lib.hid hB
                  have HO := Lib.hid hO
                  have HC := Lib.hid hC
                  have HF := Lib.hid hF
                  have Hdr := Lib.hid fdr
                  clear hB hO hC hRz hF hX1l hX2l hjm hat hrl hsn hng hset hel At At1 At2 fal hor hne hEl tc hsz hor1 fdr
                  go_wp2
                  refine wp_region_K (fun (W : World) => W.cell? ⟨g8 + 1, j, none⟩ = some (.slice A' L.length c') ∧ W.cell? (a4.add (j * 3)) = some (.bool y.null) ∧ W.cell? { block := (a4.add (j * 3)).block, off := (a4.add (j * 3)).off + 1 } = some (.int .i64 y.num) ∧ W.cell? { block := (a4.add (j * 3)).block, off := (a4.add (j * 3)).off + 2 } = some (.string ⟨y.txt.toArray⟩)) 13 (by kernel_rfl) ?_
                  have hHeld : (fun (W : World) => W.cell? ⟨g8 + 1, j, none⟩ = some (.slice A' L.length c') ∧ W.cell? (a4.add (j * 3)) = some (.bool y.null) ∧ W.cell? { block := (a4.add (j * 3)).block, off := (a4.add (j * 3)).off + 1 } = some (.int .i64 y.num) ∧ W.cell? { block := (a4.add (j * 3)).block, off := (a4.add (j * 3)).off + 2 } = some (.string ⟨y.txt.toArray⟩)) (wr.drew) := ⟨tc1, s1⟩
                  refine wpAnyK_take (i := 0) (oi := ⟨some 85, _, _, _, _, none⟩) (v := ?v1) rfl (by kernel_rfl) (by kernel_rfl) (by kernel_rfl) (fun _ _ _ h => h) (by kernel_rfl) (by decide) (Or.inl ⟨by rfl, ?hy1⟩) (by assumption) ?rest1
                  case hy1 => (intro wS hSw; (try dsimp only at hSw); go_simp; (try with_reducible rfl))
                  (try simp only [Act.put, List.setIfInBounds_toArray, List.set_cons_zero, List.set_cons_succ])
                  refine wpAnyK_take (i := 1) (oi := ⟨some 86, _, _, _, _, none⟩) (v := ?v2) rfl (by kernel_rfl) (by kernel_rfl) (by kernel_rfl) (fun _ _ _ h => h) (by kernel_rfl) (by decide) (Or.inl ⟨by rfl, ?hy2⟩) (by assumption) ?rest2
                  case hy2 => (intro wS hSw; (try dsimp only at hSw); go_simp; (try with_reducible rfl))
                  (try simp only [Act.put, List.setIfInBounds_toArray, List.set_cons_zero, List.set_cons_succ])
                  refine wpAnyK_take (i := 2) (oi := ⟨some 87, _, _, _, _, none⟩) (v := ?v3) rfl (by kernel_rfl) (by kernel_rfl) (by kernel_rfl) (fun _ _ _ h => h) (by kernel_rfl) (by decide) (Or.inl ⟨by rfl, ?hy3⟩) (by assumption) ?rest3
                  case hy3 => (intro wS hSw; (try dsimp only at hSw); go_simp; (try with_reducible rfl))
                  (try simp only [Act.put, List.setIfInBounds_toArray, List.set_cons_zero, List.set_cons_succ])
                  refine wpAnyK_take (i := 3) (oi := ⟨some 88, _, _, _, _, none⟩) (v := ?v4) rfl (by kernel_rfl) (by kernel_rfl) (by kernel_rfl) (fun _ _ _ h => h) (by kernel_rfl) (by decide) (Or.inl ⟨by rfl, ?hy4⟩) (by assumption) ?rest4
                  case hy4 => (intro wS hSw; (try dsimp only at hSw); go_simp; (try with_reducible rfl))
                  (try simp only [Act.put, List.setIfInBounds_toArray, List.set_cons_zero, List.set_cons_succ])
                  refine wpAnyK_take (i := 4) (oi := ⟨some 89, _, _, _, _, none⟩) (v := ?v5) rfl (by kernel_rfl) (by kernel_rfl) (by kernel_rfl) (fun _ _ _ h => h) (by kernel_rfl) (by decide) (Or.inl ⟨by rfl, ?hy5⟩) (by assumption) ?rest5
                  case hy5 => (intro wS hSw; (try dsimp only at hSw); go_simp; (try with_reducible rfl))
                  (try simp only [Act.put, List.setIfInBounds_toArray, List.set_cons_zero, List.set_cons_succ])
                  refine wpAnyK_take (i := 5) (oi := ⟨some 90, _, _, _, _, none⟩) (v := ?v6) rfl (by kernel_rfl) (by kernel_rfl) (by kernel_rfl) (fun _ _ _ h => h) (by kernel_rfl) (by decide) (Or.inl ⟨by rfl, ?hy6⟩) (by assumption) ?rest6
                  case hy6 => (intro wS hSw; (try dsimp only at hSw); go_simp; (try with_reducible rfl))
                  (try simp only [Act.put, List.setIfInBounds_toArray, List.set_cons_zero, List.set_cons_succ])
                  refine wpAnyK_take (i := 6) (oi := ⟨some 91, _, _, _, _, none⟩) (v := ?v7) rfl (by kernel_rfl) (by kernel_rfl) (by kernel_rfl) (fun _ _ _ h => h) (by kernel_rfl) (by decide) (Or.inl ⟨by rfl, ?hy7⟩) (by assumption) ?rest7
                  case hy7 => (intro wS hSw; (try dsimp only at hSw); go_simp; (try with_reducible rfl))
                  (try simp only [Act.put, List.setIfInBounds_toArray, List.set_cons_zero, List.set_cons_succ])
                  refine wpAnyK_take (i := 7) (oi := ⟨some 92, _, _, _, _, none⟩) (v := ?v8) rfl (by kernel_rfl) (by kernel_rfl) (by kernel_rfl) (fun _ _ _ h => h) (by kernel_rfl) (by decide) (Or.inl ⟨by rfl, ?hy8⟩) (by assumption) ?rest8
                  case hy8 => (intro wS hSw; (try dsimp only at hSw); go_simp; (try with_reducible rfl))
                  (try simp only [Act.put, List.setIfInBounds_toArray, List.set_cons_zero, List.set_cons_succ])
                  refine wpAnyK_take (i := 8) (oi := ⟨some 93, _, _, _, _, none⟩) (v := ?v9) rfl (by kernel_rfl) (by kernel_rfl) (by kernel_rfl) (fun _ _ _ h => h) (by kernel_rfl) (by decide) (Or.inl ⟨by rfl, ?hy9⟩) (by assumption) ?rest9
                  case hy9 => (intro wS hSw; (try dsimp only at hSw); go_simp; (try with_reducible rfl))
                  (try simp only [Act.put, List.setIfInBounds_toArray, List.set_cons_zero, List.set_cons_succ])
                  refine wpAnyK_take (i := 9) (oi := ⟨some 94, _, _, _, _, none⟩) (v := ?v10) rfl (by kernel_rfl) (by kernel_rfl) (by kernel_rfl) (fun _ _ _ h => h) (by kernel_rfl) (by decide) (Or.inl ⟨by rfl, ?hy10⟩) (by assumption) ?rest10
                  case hy10 => (intro wS hSw; (try dsimp only at hSw); go_simp; (try with_reducible rfl))
                  (try simp only [Act.put, List.setIfInBounds_toArray, List.set_cons_zero, List.set_cons_succ])
                  refine wpAnyK_one (i := 10) (o := ⟨some 95, _, _, _, _, none⟩) (by kernel_rfl) rfl (fun K hK => ?_)
                  go_simp
                  refine hK.out _ _ (fun _ => ⟨tc2, s2⟩) ?_
                  clear hK K
                  (try simp only [Act.put, List.setIfInBounds_toArray, List.set_cons_zero, List.set_cons_succ])
                  have hHeld2 := hHeld
                  refine wpAnyK_one (i := 11) (o := ⟨some 96, _, _, _, _, none⟩) (by kernel_rfl) rfl (fun K hK => ?_)
                  refine step_pushC2 rfl (.tmp 90) (.tmp 95) rfl (g8 + 1) (.slice A' L.length c') L rfl Hor1.out y _ _ _ rfl rfl rfl wr.drew.heap.size rfl rfl hLl hgl2 ?_
                  intro v5 w5 ho5 f5 wh5
                  have E5 := HEl.out wr.drew w5 v5 (L ++ [y]) Hdr.out f5 ho5 wh5
                  obtain ⟨A5, n5, c5, rfl⟩ : ∃ A n c, v5 = .slice A n c := (by obtain ⟨A, c, h⟩ := ho5.shape; exact ⟨A, _, c, h⟩)
                  have tc5 := (f5.cell (p := ⟨g8 + 1, j, none⟩) (Nat.lt_of_lt_of_le hgl Hdr.out.size) (fun e => (HNe.out _ e).2 rfl)).trans tc1
                  have fz5 := E5.1
                  have At5 := HAt1.out.keep (f5.block _ (Nat.lt_of_lt_of_le hlt4 Hdr.out.size) (fun e => (HNe.out _ e).1 (by rw [add_block]; rfl)))
                  have s3 := At5.lit
                  refine hK.out _ _ (fun _ => ⟨tc5, s3⟩) ?_
                  clear hK K
                  (try simp only [Act.put, List.setIfInBounds_toArray, List.set_cons_zero, List.set_cons_succ])
                  have HE5 := Lib.hid E5.2
                  have Hf5 := Lib.hid f5
                  clear f5 ho5 wh5 E5 At5
                  have hHeld5 : (fun (W : World) => W.cell? ⟨g8 + 1, j, none⟩ = some (.slice A' L.length c') ∧ W.cell? (a4.add (j * 3)) = some (.bool y.null) ∧ W.cell? { block := (a4.add (j * 3)).block, off := (a4.add (j * 3)).off + 1 } = some (.int .i64 y.num) ∧ W.cell? { block := (a4.add (j * 3)).block, off := (a4.add (j * 3)).off + 2 } = some (.string ⟨y.txt.toArray⟩)) w5 := ⟨tc5, s3⟩
                  refine wpAnyK_take (i := 12) (oi := ⟨some 97, _, _, _, _, none⟩) (v := ?v11) rfl (by kernel_rfl) (by kernel_rfl) (by kernel_rfl) (fun _ _ _ h => h) (by kernel_rfl) (by decide) (Or.inl ⟨by rfl, ?hy11⟩) (by assumption) ?rest11
                  case hy11 => (intro wS hSw; (try dsimp only at hSw); go_simp; (try with_reducible rfl))
                  (try simp only [Act.put, List.setIfInBounds_toArray, List.set_cons_zero, List.set_cons_succ])
                  refine wpAnyK_one (i := 13) (o := ⟨none, _, _, _, _, none⟩) (by kernel_rfl) rfl (fun K hK => ?_)
                  go_simp
                  refine hK.out _ _ (fun h => absurd rfl h) ?_
                  clear hK K
                  (try simp only [Act.put, List.setIfInBounds_toArray, List.set_cons_zero, List.set_cons_succ])
                  refine wpAnyK_done (by kernel_rfl) ?_ _
                  have fs := (Fr.refl (One (g8 + 1)) w5).set1 j (.slice A5 n5 c5)
                  have R5 := HE5.out.2
                  rw [HSet.out] at R5
                  have B5 : RfB (w5.setCell ⟨g8 + 1, j, none⟩ (.slice A5 n5 c5)) g8 R (.slice (some a2) chs.length cu) := ((HB.out.fr Hdr.out (fun e => e)).fr Hf5.out (fun e => by have := (Hor1.out.lt _ e).1; omega)).fr fs (fun e => by have h1 : g8 = g8 + 1 := e; omega)
                  have C5 := ((HC.out.non Hdr.out).fr Hf5.out (fun q hq e => (HNe.out q e).1 hq)).fr fs (fun q hq e => HNg.out q hq e)
                  have O5 := ((HO.out.non Hdr.out).fr Hf5.out (fun q hq e => ho_ne_c (HO.out.non Hdr.out) Hor1.out q hq e)).fr fs (fun q hq e => HGo.out q hq e)
                  have F5 := ((HF.out.trans Hdr.out).fresh Hf5.out (fun q e => by have := (Hor1.out.lt q e).1; omega)).fresh fs (fun q e => by have h1 : q = g8 + 1 := e; omega)
                  have HRel := Lib.hid (And.intro B5 (And.intro O5 (And.intro C5 (And.intro R5 F5))))
                  clear fs R5 B5 C5 O5 F5 HE5 Hf5 tc1 tc2 tc5 fz5 s1 s2 s3 hHeld hHeld2 hHeld5 HB HC HO HF Hdr Hor Hor1
                  go_wp2
                  go_roundw
                  case rel => exact ⟨j + 1, by omega, by go_num, HRel.out⟩
                  case measure => simp [intOf]; omega
                · have hjR : j = R := by omega
                  rw [mix_end (by rw [HAm.out]; omega) (by rw [HAl.out]; omega)] at hRz
                  have HRz := Lib.hid hRz.rq
                  have HB := Lib.hid hB
                  have HO := Lib.hid hO
                  have HF := Lib.hid hF
                  clear hB hO hC hRz hF hjR
                  go_wp2
                  go_roundw
                  case rel => exact ⟨k + 1, by omega, by go_num, Lib.hid (by rw [HM.out]), HB.out, HO.out, by rw [HM.out, hX2]; exact HRz.out, HF.out⟩
                  case measure => simp [intOf]; omega
            · have hEb : (E2 != 0) = true := by rw [bne_iff_ne]; exact hE2
              have hst := HStop.out hE2
              have hall : colsR cols R chs b cols.length = (E2, []) := by rw [colsR_err (k := k + 1) (by rw [hst]; exact hE2) cols.length (by omega), hst]
              have HRow := Lib.hid (HQ2.out (by rw [hall]; exact hE2))
              rw [hall] at HRow
              clear HMore HStop hE2 hst hall
              go_wp2
              go_ret2
              exact ⟨rowR_no HRow.out, HF4.out⟩
          · have hkn : k = cols.length := by omega
            have HRow := Lib.hid (HQ3.out (hkn ▸ HK.out))
            rw [hkn] at hRq
            have HRo2 := Lib.hid (hRq.ro.mono (show w.heap.size ≤ g8 + 1 by omega))
            have HF := Lib.hid hF
            clear hB hO hRq hF HK hkn HGl
            go_wp2
            go_ret2
            exact ⟨rowR_ok HRow.out HRo2.out, HF.out⟩
      · have hEb : (E != 0) = true := by rw [bne_iff_ne]; exact hE
        have HRow := Lib.hid (HR1.out E R chs (by first | rfl | trivial) hE)
        have HF2 := Lib.hid F2
        clear hE hB F2 hO2 fa f1 ho1 HRd
        go_wp2
        go_ret2
        exact ⟨rowR_no HRow.out, HF2.out⟩
end Go.Proofs.YtheefloegbkflaaGreatDoor


namespace Go.Proofs.YtheefloegbkflaaGreatDoor
set_option linter.unusedVariables false
set_option linter.unusedSimpArgs false
set_option maxRecDepth 100000
open Go.RowKit

theorem s22_of {w : World} {g g' : Nat} {T T' : TypeId} {x u x' u' : Value} (hB : Blk w g T #[x, u]) (hB' : Blk w g' T' #[x', u']) : w.cell? ⟨g, 0, none⟩ = some x ∧ w.cell? ⟨g, 1, none⟩ = some u ∧ w.cell? ⟨g', 0, none⟩ = some x' ∧ w.cell? ⟨g', 1, none⟩ = some u' := ⟨hB.cell 0, hB.cell 1, hB'.cell 0, hB'.cell 1⟩

set_option maxHeartbeats 1000000 in
theorem run_neq_ch (W : World) (c : Ch) : (binOp .neq 58 (.agg #[.int .i64 c.off, .int .i64 c.len, .int .i64 c.zn.rows, .int .i64 c.zn.nulls, .bool c.zn.low.null, .int .i64 c.zn.low.num, .string ⟨c.zn.low.txt.toArray⟩, .bool c.zn.high.null, .int .i64 c.zn.high.num, .string ⟨c.zn.high.txt.toArray⟩]) (.agg #[.int .i64 c.off, .int .i64 c.len, .int .i64 c.zn.rows, .int .i64 c.zn.nulls, .bool c.zn.low.null, .int .i64 c.zn.low.num, .string ⟨c.zn.low.txt.toArray⟩, .bool c.zn.high.null, .int .i64 c.zn.high.num, .string ⟨c.zn.high.txt.toArray⟩])).run Tryz.prog W = .ok (.bool false) W := by
  obtain ⟨o, l, zr, zn, ⟨n1, i1, t1⟩, ⟨n2, i2, t2⟩⟩ := c
  dsimp only
  go_simp

theorem ret_foot1 {fn : Func} {p : Tmp} (h : fn.results = #[.cell p 43]) (tmps : Array Value) (w : World) (g : Nat) (cs : Array Value) (h2 : cs.size = 2)
    (hp : tmps.getD p undef = .pointer (some ⟨g, 0, none⟩)) (hg : Blk w g 43 cs) : (results fn tmps).run Tryz.prog w = .ok (.agg cs) w :=
  results_cell_row h tmps w g 43 _ (0, 0) _ hp hg Tryz.underlying43 rfl (by rw [h2]; kernel_rfl)
theorem foot13_any (R : Int) (A : Option Addr) (n c : Nat) (w : World) : Calls Tryz.prog 18 #[.agg #[.int .i64 R, .slice A n c]] w fun e w' => e = .returned (.agg #[.int .i64 R, .slice A n c]) ∧ Fr Non w w' := by
  go_enter Tryz.func18, Tryz.ntmps18
  go_wp2
  have hB : Blk ((w.alloc (.cells #[.int .i64 R, .slice A n c] 40)).alloc (.cells #[.int .i64 R, .slice A n c] 43)) (w.heap.size + 1) 43 #[.int .i64 R, .slice A n c] := by
    have h := Blk.new (w.alloc (.cells #[.int .i64 R, .slice A n c] 40)) 43 #[.int .i64 R, .slice A n c]
    simpa using h
  exact bodyPost_ret (v := .agg #[.int .i64 R, .slice A n c]) (ret_foot1 (p := 2) rfl _ _ (w.heap.size + 1) _ rfl rfl hB) rfl ⟨rfl, ((Fr.refl Non w).alloc _).alloc _⟩

set_option maxHeartbeats 2000000 in
theorem feet_same (R : Nat) (v1 v2 : Value) (l : List Ch) (w : World) (h1 : Hs w v1 l) (h2 : Hs w v2 l) (hl : l.length ≤ 1000000000) :
    Calls Tryz.prog 17 #[.agg #[.int .i64 (R : Int), v1], .agg #[.int .i64 (R : Int), v2]] w fun e w' => e = .returned (.bool true) ∧ Fr Non w w' := by
  obtain ⟨A1, c1, rfl⟩ := h1.shape
  obtain ⟨A2, c2, rfl⟩ := h2.shape
  have f1 := (Fr.refl Non w).alloc (.cells #[.int .i64 (R : Int), .slice A1 l.length c1] 43)
  have b1 : RfB (w.alloc (.cells #[.int .i64 (R : Int), .slice A1 l.length c1] 43)) w.heap.size R (.slice A1 l.length c1) := Blk.new _ _ _
  have f2 := (Fr.refl Non (w.alloc (.cells #[.int .i64 (R : Int), .slice A1 l.length c1] 43))).alloc (.cells #[.int .i64 (R : Int), .slice A2 l.length c2] 43)
  have b2 : RfB ((w.alloc (.cells #[.int .i64 (R : Int), .slice A1 l.length c1] 43)).alloc (.cells #[.int .i64 (R : Int), .slice A2 l.length c2] 43)) (w.heap.size + 1) R (.slice A2 l.length c2) := by
    have h := Blk.new (w.alloc (.cells #[.int .i64 (R : Int), .slice A1 l.length c1] 43)) 43 #[.int .i64 (R : Int), .slice A2 l.length c2]
    simpa using h
  have b1' := b1.fr f2 (fun e => e)
  have k0 := b1'.cell 0
  have k1 := b1'.cell 1
  have k2 := b2.cell 0
  have k3 := b2.cell 1
  have HB1 : Hid (RfB _ _ _ _) := Lib.hid b1'
  have HB2 : Hid (RfB _ _ _ _) := Lib.hid b2
  have HF := Lib.hid (f1.trans f2)
  have H1 := Lib.hid h1
  have H2 := Lib.hid h2
  clear f1 f2 b1 b2 b1' h1 h2
  go_enter Tryz.func17, Tryz.ntmps17
  go_wp2
  clear k0 k1 k2 k3
  go_loopw [5] (fun i wr => ∃ k : Nat, k ≤ l.length ∧ i = .int .i64 k ∧ RfB wr w.heap.size R (.slice A1 l.length c1) ∧ RfB wr (w.heap.size + 1) R (.slice A2 l.length c2) ∧ Fr Non w wr) (fun i _ => l.length - (intOf i).toNat)
  case atStart => exact ⟨0, Nat.zero_le _, rfl, HB1.out, HB2.out, HF.out⟩
  case round =>
    clear HB1 HB2 HF
    obtain ⟨k, hk, rfl, b1, b2, hF⟩ := hrel
    have k1 := b1.cell 1
    have k3 := b2.cell 1
    have HB1 : Hid (RfB _ _ _ _) := Lib.hid b1
    have HB2 : Hid (RfB _ _ _ _) := Lib.hid b2
    have HF := Lib.hid hF
    by_cases hlt : k < l.length
    · obtain ⟨a1, rfl, _⟩ := (H1.out.non hF).at_ k l[k] (List.getElem?_eq_getElem hlt)
      obtain ⟨a2, rfl, _⟩ := (H2.out.non hF).at_ k l[k] (List.getElem?_eq_getElem hlt)
      obtain ⟨g0, g1, g2, g3, g4, g5, g6, g7, g8, g9⟩ := hs_lit (H1.out.non hF) k l[k] (List.getElem?_eq_getElem hlt)
      obtain ⟨d0, d1, d2, d3, d4, d5, d6, d7, d8, d9⟩ := hs_lit (H2.out.non hF) k l[k] (List.getElem?_eq_getElem hlt)
      clear hF b1 b2
      generalize l[k] = x at *
      have hx := fun W => run_neq_ch W x
      obtain ⟨xo, xl, xr, xn, ⟨x1, x2, x3⟩, ⟨x4, x5, x6⟩⟩ := x
      dsimp only at g0 g1 g2 g3 g4 g5 g6 g7 g8 g9 d0 d1 d2 d3 d4 d5 d6 d7 d8 d9 hx
      go_wp2
      go_quiet (fail)
      go_wp2
      go_roundw
      case rel => exact ⟨k + 1, by omega, by go_num, HB1.out.fr ((Fr.refl Non wr).drewN _) (fun e => e), HB2.out.fr ((Fr.refl Non wr).drewN _) (fun e => e), HF.out.drewN _⟩
      case measure => simp [intOf]; omega
    · clear hF b1 b2
      go_wp2
      go_ret
      exact ⟨rfl, HF.out⟩

set_option maxHeartbeats 4000000 in
theorem segReads_walk (v1 v2 : Value) (cols : List Co) (b : List UInt8) (n : Int) (w : World) (h1 : Ks w v1 cols) (h2 : Bs w v2 b) (ht : Tab w) (hvl : ∀ q, v1.ownBlock = some q → q < w.heap.size) (hbl : ∀ q, v2.ownBlock = some q → q < w.heap.size) :
    Calls Tryz.prog 4 #[v1, v2, .int .i64 n] w fun e w' => e = .returned (.bool true) ∧ Below w.heap.size w w' := by
  obtain ⟨A1, c1, rfl⟩ := h1.shape
  obtain ⟨A2, c2, rfl⟩ := h2.shape
  have H1 := Lib.hid h1
  have H2 := Lib.hid h2
  have HT := Lib.hid ht
  have HVL := Lib.hid hvl
  have HBL := Lib.hid hbl
  have HSm := Lib.hid (ksmall_any _ cols w h1)
  have HLv := Lib.hid (fun W (hf : Fr Non w W) => slive13_any W (ht.non hf))
  clear h1 h2 ht hvl hbl
  go_enter Tryz.func4, Tryz.ntmps4
  go_wp2_with fail
  refine HSm.out.mono ?_
  rintro e w1 ⟨s1, rfl, hs1, f1⟩
  have HF1 := Lib.hid f1
  cases s1
  · clear hs1 HSm f1
    go_wp2_with fail
    refine (HLv.out _ HF1.out).mono ?_
    rintro e wl ⟨rfl, fl⟩
    go_wp2
    go_ret
    exact ⟨rfl, (HF1.out.trans fl).below⟩
  · obtain ⟨ha, hb⟩ := hs1 rfl
    by_cases h600 : 600 < b.length
    · have d0 : decide (600 < (b.length : Int)) = true := decide_eq_true (by omega)
      clear hs1 HSm f1 hb h600
      go_wp2_with fail
      refine (HLv.out _ HF1.out).mono ?_
      rintro e wl ⟨rfl, fl⟩
      go_wp2
      go_ret
      exact ⟨rfl, (HF1.out.trans fl).below⟩
    · have d0 : decide (600 < (b.length : Int)) = false := decide_eq_false (by omega)
      have hb6 : b.length ≤ 600 := by omega
      have ha9 : cols.length ≤ 1000000000 := by omega
      have hb9 : ∀ c ∈ cols, c.name.length ≤ 1000000000 := fun c hc => Nat.le_trans (hb c hc) (by decide)
      have HV := Lib.hid (fun W (hf : Fr Non w W) (q : Nat) (hq : (Value.slice A1 cols.length c1).ownBlock = some q) => Nat.lt_of_lt_of_le (HVL.out q hq) hf.size)
      have HBv := Lib.hid (fun W (hf : Fr Non w W) (q : Nat) (hq : (Value.slice A2 b.length c2).ownBlock = some q) => Nat.lt_of_lt_of_le (HBL.out q hq) hf.size)
      have HRd := Lib.hid (fun W (hf : Fr Non w W) => sread_any _ _ cols b n W (H1.out.non hf) (H2.out.non hf) (HT.out.non hf) (HV.out W hf) ha9 hb9 (by omega))
      have HRr := Lib.hid (fun W (hf : Fr Non w W) => rread13_any _ _ cols b n W (H1.out.non hf) (H2.out.non hf) (HV.out W hf) (HBv.out W hf) ha9 hb9 (by omega))
      have HSr := Lib.hid (fun W (hf : Fr Non w W) => srows_any _ _ cols b n W (H1.out.non hf) (H2.out.non hf) (HT.out.non hf) (HV.out W hf) ha9 hb9 (by omega))
      have HSd := Lib.hid (fun W (hf : Fr Non w W) => rrows13_any _ _ cols b n W (H1.out.non hf) (H2.out.non hf) (HV.out W hf) (HBv.out W hf) ha9 hb9 (by omega))
      have HNum := Lib.hid (fun z W => snum13_any z W)
      have hchl : (readF cols b n).2.2.length ≤ 1000000000 := by
        by_cases h0 : (readF cols b n).1 = 0
        · have := (readF_is h0).2.2.2.1
          omega
        · rw [readF_none h0]; simp
      have hrl := rowsR_len (cols := cols) (b := b) (foot := n)
      unfold RdR at HRd HRr
      unfold RowR at HSr HSd
      have HRd1 := Lib.hid (HRd.out w1 f1)
      clear hs1 HSm f1 hb hb9 ha h600 HRd HV HBv
      generalize readF cols b n = X at *
      obtain ⟨E, R, chs⟩ := X
      generalize rowsR cols b n = Y at *
      obtain ⟨ec, rs⟩ := Y
      dsimp only at HRd1 HRr HSr HSd hchl hrl
      have hee : (E != E) = false := by simp
      have hec : (ec == ec) = true := by simp
      have hr1 : rs.length ≤ 1000000000 := by omega
      have HRl := Lib.hid (show ∀ r ∈ rs, r.length ≤ 9223372036854775807 from fun r hr => Nat.le_trans (hrl.2 r hr) (by decide))
      have HFt := Lib.hid (fun W u1 u2 (g1 : Hs W u1 chs) (g2 : Hs W u2 chs) => feet_same R u1 u2 chs W g1 g2 hchl)
      have HRw := Lib.hid (fun W u1 u2 (g1 : Rs W u1 rs) (g2 : Rs W u2 rs) => rrows9_any u1 u2 rs rs W g1 g2 hr1 hr1 HRl.out HRl.out)
      rw [decide_eq_true (rfl : rs = rs)] at HRw
      clear hrl
      go_wp2_with fail
      refine HRd1.out.mono ?_
      rintro e w2 ⟨⟨u2, rfl, ho2⟩, f2⟩
      obtain ⟨A3, c3, rfl⟩ := (ho2.ns fd_ch).shape
      have fa := (Fr.refl Non w2).alloc (.cells #[.int .i64 (R : Int), .slice A3 chs.length c3] 40)
      have bF : FtB (w2.alloc (.cells #[.int .i64 (R : Int), .slice A3 chs.length c3] 40)) w2.heap.size R (.slice A3 chs.length c3) := Blk.new _ _ _
      have f2a := f2.trans fa
      have HF2 := Lib.hid (HF1.out.trans f2a)
      have HB2 : Hid (FtB _ _ _ _) := Lib.hid bF
      have HC2 := Lib.hid ((ho2.alloc (.cells #[.int .i64 (R : Int), .slice A3 chs.length c3] 40)).ns fd_ch)
      have HRr2 := Lib.hid (HRr.out _ HF2.out)
      clear HRd1 HF1 HRr f2 fa bF f2a ho2
      go_wp2_with fail
      refine HRr2.out.mono ?_
      rintro e w3 ⟨⟨u3, rfl, ho3⟩, f3⟩
      obtain ⟨A4, c4, rfl⟩ := (ho3.ns fd_ch).shape
      have fa := (Fr.refl Non w3).alloc (.cells #[.int .i64 (R : Int), .slice A4 chs.length c4] 43)
      have bR : RfB (w3.alloc (.cells #[.int .i64 (R : Int), .slice A4 chs.length c4] 43)) w3.heap.size R (.slice A4 chs.length c4) := Blk.new _ _ _
      have f3a := (f3.trans fa).drew
      have bR' := bR.fr ((Fr.refl Non (w3.alloc (.cells #[.int .i64 (R : Int), .slice A4 chs.length c4] 43))).drew) (fun e => e)
      have bF' := HB2.out.fr f3a (fun e => e)
      have s1 := s22_of bF' bR'
      have HF3 := Lib.hid (HF2.out.trans f3a)
      have HBF3 : Hid (FtB _ _ _ _) := Lib.hid bF'
      have HBR3 : Hid (RfB _ _ _ _) := Lib.hid bR'
      have HC3 := Lib.hid (HC2.out.non f3a)
      have HD3 := Lib.hid (((ho3.alloc (.cells #[.int .i64 (R : Int), .slice A4 chs.length c4] 43)).ns fd_ch).non ((Fr.refl Non (w3.alloc (.cells #[.int .i64 (R : Int), .slice A4 chs.length c4] 43))).drew))
      have HFo := Lib.hid (fun W => foot13_any R A3 chs.length c3 W)
      clear HRr2 HF2 HB2 HC2 f3 fa bR f3a bR' bF' ho3
      go_wp2
      go_region_held3 (fun W => W.cell? ⟨w2.heap.size, 0, none⟩ = some (.int .i64 R) ∧ W.cell? ⟨w2.heap.size, 1, none⟩ = some (.slice A3 chs.length c3) ∧ W.cell? ⟨w3.heap.size, 0, none⟩ = some (.int .i64 R) ∧ W.cell? ⟨w3.heap.size, 1, none⟩ = some (.slice A4 chs.length c4)) (first | exact s1 | exact s2 | exact s3 | fail) (first | (go_at_call 10; (with_reducible refine (HNum.out _ _).mono ?_); rintro e w4 ⟨rfl, rfl⟩) | (go_at_call 18; (with_reducible refine (HFo.out _).mono ?_); rintro e w4 ⟨rfl, f4⟩; have b4 := HBF3.out.fr f4 (fun e => e); have d4 := HBR3.out.fr f4 (fun e => e); have s2 := s22_of b4 d4; have F4 := HF3.out.trans f4; have CF := HFt.out w4 _ _ (HC3.out.non f4) (HD3.out.non f4)) | (go_at_call 17; (with_reducible refine CF.mono ?_); rintro e w5 ⟨rfl, f5⟩; have b5 := b4.fr f5 (fun e => e); have d5 := d4.fr f5 (fun e => e); have s3 := s22_of b5 d5))
      have HF5 := Lib.hid (F4.trans f5)
      have HSr2 := Lib.hid (HSr.out _ HF5.out)
      clear HF3 HBF3 HBR3 HC3 HD3 HFo s1 s2 s3 b4 d4 b5 d5 F4 f4 f5 CF HSr HFt
      go_wp2_with fail
      refine HSr2.out.mono ?_
      rintro e w6 ⟨⟨u6, rfl, ho6⟩, f6⟩
      have HF6 := Lib.hid (HF5.out.trans f6)
      have HO6 := Lib.hid ho6.rs
      have HSd2 := Lib.hid (HSd.out _ HF6.out)
      clear HSr2 HF5 f6 ho6 HSd
      go_wp2_with fail
      refine HSd2.out.mono ?_
      rintro e w7 ⟨⟨u7, rfl, ho7⟩, f7⟩
      have HF7 := Lib.hid (HF6.out.trans f7)
      have HRw2 := Lib.hid (HRw.out w7 _ _ (HO6.out.non f7) ho7.rs)
      clear HSd2 HF6 f7 ho7 HO6 HRw
      go_wp2_with fail
      refine (HNum.out _ _).mono ?_
      rintro e w8 ⟨rfl, rfl⟩
      go_wp2_with fail
      refine HRw2.out.mono ?_
      rintro e w8 ⟨rfl, f8⟩
      have HF8 := Lib.hid (HF7.out.trans f8)
      clear HRw2 HF7 f8
      go_wp2_with fail
      refine (HLv.out _ HF8.out).mono ?_
      rintro e wl ⟨rfl, fl⟩
      go_wp2
      go_ret
      exact ⟨rfl, (HF8.out.trans fl).below⟩
end Go.Proofs.YtheefloegbkflaaGreatDoor


namespace Go.Proofs.YtheefloegbkflaaGreatDoor
set_option linter.unusedVariables false
set_option linter.unusedSimpArgs false
set_option maxRecDepth 100000
open Go.ChangeShapes Go.WideShapes Go.ChangeAt Go.RowKit

/-- the table lies as the text lays it -/
theorem tab_in {W : World} {rest : List (String × DataW Unit)} (h : laidMet Tryz.prog (("firkin/crc.halves", Rows.laid_firkin_crc_halves) :: rest) W) : Tab W := by
  have hT : Lib.TabIs Tryz.prog W "firkin/crc.halves" .u32 halfTab := Lib.tabIs_of_head (n := 16) (show Tryz.prog.globalNamed "firkin/crc.halves" = some 0 by kernel_rfl)
    (show (Tryz.prog.globals[0]?).map (·.type) = some 198 by kernel_rfl) Tryz.underlying198 Tryz.underlying112 (by kernel_rfl) (by kernel_rfl) (h : laidMet Tryz.prog (("firkin/crc.halves", Lib.tabData .u32 halfTab) :: rest) W)
  intro i hi
  have := hT.cell (show Tryz.prog.globalNamed "firkin/crc.halves" = some 0 by kernel_rfl) i (by simpa [halfTab] using hi)
  rw [this]
  have hp : 0 ≤ halfTab.getD i 0 := by
    have all : ∀ j : Fin 16, 0 ≤ halfTab.getD j.1 0 := by decide
    exact all ⟨i, hi⟩
  unfold half
  rw [Int.toNat_of_nonneg hp]

theorem tab_inH {W : World} (h : laidMetH Tryz.prog [("firkin/crc.halves", Rows.laid_firkin_crc_halves)] W) : Tab W := by
  rw [MakeChecks.laidMetH_plain _ _ _ (by kernel_rfl)] at h
  exact tab_in h

end Go.Proofs.YtheefloegbkflaaGreatDoor


namespace Go.Proofs.YtheefloegbkflaaGreatDoor
set_option linter.unusedVariables false
set_option linter.unusedSimpArgs false
set_option maxRecDepth 100000
open Go.Joins Go.ChangeShapes Go.WideShapes Go.ChangeAt Go.RowKit Go.Deep

theorem cof_bool : Tryz.prog.cellsOf 4 = 1 := by kernel_rfl
theorem cof_int : Tryz.prog.cellsOf 3 = 1 := by kernel_rfl
theorem cof_str : Tryz.prog.cellsOf 9 = 1 := by kernel_rfl
end Go.Proofs.YtheefloegbkflaaGreatDoor


namespace Go.Proofs.YtheefloegbkflaaGreatDoor
set_option linter.unusedVariables false
set_option linter.unusedSimpArgs false
set_option maxRecDepth 100000
open Go.Joins Go.ChangeShapes Go.WideShapes Go.ChangeAt Go.RowKit Go.Deep

theorem cof_co : Tryz.prog.cellsOf 69 = 3 := by kernel_rfl
/-- a column within its fields' ranges -/
structure CoWf (c : Co) : Prop where
  lo : -9223372036854775808 ≤ c.ty
  hi : c.ty ≤ 9223372036854775807
  len : c.name.length ≤ 9223372036854775807
/-- three cells that are read as a column -/
theorem co_cells {H : Type} {enc : TypeId × Value → H} {W : World} {n : Nat} {x : DataW H × List MemPlace} {c2 c3 c4 : Value}
    (h : DataW.trod enc Tryz.prog W 0 (fun _ => true) true n 69 [c2, c3, c4] = some x) : ∃ c : Co, c2 = .string ⟨c.name.toArray⟩ ∧ c3 = .int .i64 c.ty ∧ c4 = .bool c.nl ∧ CoWf c := by
  obtain ⟨y0, y1, y2, m, rfl, _, h0, h1, h2⟩ := trod_struct3 Tryz.underlying69 h
  simp only [cof_bool, cof_int, cof_str, List.drop_zero, List.drop_succ_cons, List.take_succ_cons, List.take_zero] at h0 h1 h2
  obtain ⟨s, e0, _, hs⟩ := DataW.trod_string Tryz.underlying9 h0
  obtain rfl := (List.cons.inj e0).1
  obtain ⟨i, e1, _, hi⟩ := DataW.trod_int Tryz.underlying3 h1
  obtain rfl := (List.cons.inj e1).1
  obtain ⟨b, e2, _⟩ := DataW.trod_bool Tryz.underlying4 h2
  obtain rfl := (List.cons.inj e2).1
  have hb := wf_i64_bd hi
  exact ⟨⟨s.data.toList, i, b⟩, by simp, rfl, rfl, ⟨hb.1, hb.2, by simpa [maxLen] using hs⟩⟩
theorem ks_in {H : Type} {enc : TypeId × Value → H} {W : World} {base : Nat} {v : Value} {d : DataW H} {p : List MemPlace} (hv : Value.okWide Tryz.prog W .any base 22 v)
    (h : DataW.Trod enc Tryz.prog W 0 (fun _ => true) true 22 v d p) : ∃ l, Ks W v l ∧ l.length ≤ 9223372036854775807 ∧ (∀ c ∈ l, CoWf c) ∧ ∀ k, v.ownBlock = some k → k < W.heap.size :=
  ns_in fd_co Tryz.underlying22 cof_co CoWf (fun n cs y hl hy => by
    match cs, hl with
    | [v0, v1, v2], _ =>
      obtain ⟨c, rfl, rfl, rfl, hw⟩ := co_cells hy
      exact ⟨c, rfl, hw⟩) hv h
end Go.Proofs.YtheefloegbkflaaGreatDoor
