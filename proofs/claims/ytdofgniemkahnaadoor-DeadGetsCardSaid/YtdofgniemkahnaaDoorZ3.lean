/-
  Joined: Rows: slices of slices of cells: what one reads as (Rs), one of the call's own (Ro), and the steps over them; a cell appended, the new row in the old block or in a new one. · Layer 14: the rows that are left: the document's; the example. · Layer 14: the example; the walks of the laws. · Layer 14: the walks of the laws on what is put, and on what is got. · The frame of a law's proof, for any parameters: where the call returned true and turned nothing that was there, the row's words hold. · Arguments of layer 2's laws, opened: a number of 32 bits, four bytes by value, a slice of slices of bytes; and the table that the program lays.
-/
import Derived.Lib.Zigzag
import Derived.Laws.Rows
import Derived.Laws.ResultCell
import Derived.BigFrame
import Derived.Deep.RegionWith
import Derived.Deep.RegionHeld3
import Derived.Deep.QuietTactic
import Derived.Deep.Slices
import Derived.Test.YtdofgniemkahnaaDoorZ2
import Derived.ArgAppend
import Derived.Deep.DeepAppendRoom
import Derived.Test.YtdofgniemkahnaaDoorRows
import Derived.Test.YtdofgniemkahnaaDoorZ1
import Derived.ProofKit
import Derived.OpenShut
import Derived.ShutString
import Derived.ChangeOld
import Derived.Below
import Derived.Deep.Matrix
import Derived.LaidMore
import Derived.Lib.LaidTab
import Derived.Laws.IdiomArrays
import Derived.Lib.SmallJoins

namespace Go.Proofs.YtdofgniemkahnaaDoor
set_option linter.unusedVariables false
set_option linter.unusedSimpArgs false
set_option maxRecDepth 100000
open Go.RowKit

/-- a slice's words -/
structure Sl where
  A : Option Addr
  n : Nat
  c : Nat
def slV (s : Sl) : Value := .slice s.A s.n s.c
/-- the slice v reads as the rows rs -/
def Rs (w : World) (v : Value) (rs : List (List Cl)) : Prop := ∃ hs : List Sl, hs.length = rs.length ∧ Vs slV w v hs ∧ ∀ i (h : i < hs.length) (h2 : i < rs.length), Cs w (slV hs[i]) rs[i]
theorem Rs.non {w w' : World} {v : Value} {rs : List (List Cl)} (h : Rs w v rs) (hf : Fr Non w w') : Rs w' v rs := by
  obtain ⟨hs, h1, h2, h3⟩ := h
  exact ⟨hs, h1, h2.non hf, fun i a b => (h3 i a b).non hf⟩
theorem Rs.shape {w : World} {v : Value} {rs : List (List Cl)} (h : Rs w v rs) : ∃ A c, v = .slice A rs.length c := by
  obtain ⟨hs, h1, h2, _⟩ := h
  obtain ⟨A, c, e⟩ := h2.shape
  exact ⟨A, c, by rw [e, h1]⟩
theorem Rs.nil_ (w : World) : Rs w (.slice none 0 0) [] := ⟨[], rfl, Vs.nil_ w, fun i h => by cases h⟩
/-- the row at j -/
theorem Rs.el {w : World} {A : Option Addr} {n c : Nat} {rs : List (List Cl)} (h : Rs w (.slice A n c) rs) (j : Nat) (hj : j < rs.length) :
    ∃ a A' c', A = some a ∧ n = rs.length ∧ w.cell? (a.add j) = some (.slice A' rs[j].length c') ∧ Cs w (.slice A' rs[j].length c') rs[j] := by
  obtain ⟨hs, h1, h2, h3⟩ := h
  obtain ⟨A0, c0, he, _⟩ := h2
  have h2' : Vs slV w (.slice A n c) hs := ⟨A0, c0, he, by assumption⟩
  simp only [Value.slice.injEq] at he
  obtain ⟨rfl, rfl, rfl⟩ := he
  obtain ⟨a, rfl, _, _, hc⟩ := h2'.addr (by omega)
  have h4 := h3 j (by omega) hj
  obtain ⟨A', c', e⟩ := h4.shape
  have h5 := hc j (by omega)
  rw [e] at h4 h5
  exact ⟨a, A', c', rfl, h1, h5, h4⟩

/-- rows of the call's own, from block B on -/
def Ro (w : World) (B : Nat) (v : Value) (rs : List (List Cl)) : Prop := ∃ hs : List Sl, hs.length = rs.length ∧ Ow slV 59 w B v hs ∧ ∀ i (h : i < hs.length) (h2 : i < rs.length), Oc w B (slV hs[i]) rs[i]
theorem Ro.rs {w : World} {B : Nat} {v : Value} {rs : List (List Cl)} (h : Ro w B v rs) : Rs w v rs := by
  obtain ⟨hs, h1, h2, h3⟩ := h
  exact ⟨hs, h1, h2.vs, fun i a b => (h3 i a b).cs⟩
theorem Ro.non {w w' : World} {B : Nat} {v : Value} {rs : List (List Cl)} (h : Ro w B v rs) (hf : Fr Non w w') : Ro w' B v rs := by
  obtain ⟨hs, h1, h2, h3⟩ := h
  exact ⟨hs, h1, h2.non hf, fun i a b => (h3 i a b).non hf⟩
theorem Ro.mono {w : World} {B B' : Nat} {v : Value} {rs : List (List Cl)} (h : Ro w B v rs) (hB : B' ≤ B) : Ro w B' v rs := by
  obtain ⟨hs, h1, h2, h3⟩ := h
  exact ⟨hs, h1, h2.mono hB, fun i a b => (h3 i a b).mono hB⟩
theorem Ro.shape {w : World} {B : Nat} {v : Value} {rs : List (List Cl)} (h : Ro w B v rs) : ∃ A c, v = .slice A rs.length c := h.rs.shape
theorem Ro.frozen {w : World} {B g n cap : Nat} {rs : List (List Cl)} (h : Ro w B (.slice (some ⟨g, 0, none⟩) n cap) rs) (hn : n = rs.length) (j : Nat) : w.frozen? ⟨g, j, none⟩ = false := by
  obtain ⟨hs, h1, h2, h3⟩ := h
  exact h2.frozen (by omega) j
theorem Ro.lt {w : World} {B : Nat} {v : Value} {rs : List (List Cl)} (h : Ro w B v rs) : ∀ k, v.ownBlock = some k → B ≤ k ∧ k < w.heap.size := by
  obtain ⟨hs, h1, h2, h3⟩ := h
  exact h2.lt
theorem oc_kind_ne {w : World} {B g : Nat} {v : Value} {l : List Cl} {cur : Array Value} {E : TypeId} (h : Oc w B v l) (hg : w.heap[g]? = some (.cells cur E (0, 0))) (hE : 62 ≠ E) : ∀ k, v.ownBlock = some k → k ≠ g := by
  rintro k hk rfl
  obtain ⟨c, h1⟩ := h.kind k hk
  rw [hg] at h1
  simp at h1
  exact hE h1.2.symm
theorem cell_ne_cells : 62 ≠ 59 := by decide
/-- a row stored -/
theorem Ro.put {w : World} {B g n cap : Nat} {rs : List (List Cl)} (h : Ro w B (.slice (some ⟨g, 0, none⟩) n cap) rs) (hn : n = rs.length) (j : Nat) {u : Value} {l : List Cl} (hu : Oc w B u l) :
    Ro (w.setCell ⟨g, j, none⟩ u) B (.slice (some ⟨g, 0, none⟩) n cap) (rs.set j l) := by
  obtain ⟨hs, h1, h2, h3⟩ := h
  obtain ⟨A, c, rfl⟩ := hu.shape
  obtain ⟨cur, hg⟩ := h2.kind g rfl
  have hf : Fr (One g) w (w.setCell ⟨g, j, none⟩ (.slice A l.length c)) := (Fr.refl _ _).set1 j _
  refine ⟨hs.set j ⟨A, l.length, c⟩, by simp [h1], h2.store (by omega) j ⟨A, l.length, c⟩, fun i a b => ?_⟩
  simp only [List.getElem_set]
  split
  · exact hu.fr hf (oc_kind_ne hu hg cell_ne_cells)
  · have h4 := h3 i (by simpa using a) (by simpa using b)
    exact h4.fr hf (oc_kind_ne h4 hg cell_ne_cells)
/-- the row at j, of the call's own -/
theorem Ro.el {w : World} {B g n cap : Nat} {rs : List (List Cl)} (h : Ro w B (.slice (some ⟨g, 0, none⟩) n cap) rs) (hn : n = rs.length) (j : Nat) (hj : j < rs.length) :
    ∃ A' c', w.cell? ⟨g, j, none⟩ = some (.slice A' rs[j].length c') ∧ Cs w (.slice A' rs[j].length c') rs[j] := by
  obtain ⟨hs, h1, h2, h3⟩ := h
  have h4 := (h3 j (by omega) hj).cs
  obtain ⟨A', c', e⟩ := h4.shape
  have h5 := h2.cell (by omega) j hs[j] (List.getElem?_eq_getElem (by omega))
  rw [e] at h4 h5
  exact ⟨A', c', h5, h4⟩

/-! ### Rows whose blocks are apart, to be appended to in their places -/
/-- the slices' blocks are apart -/
def Apart (hs : List Sl) : Prop := ∀ i j (hi : i < hs.length) (hj : j < hs.length), i ≠ j → ∀ k, (slV hs[i]).ownBlock = some k → (slV hs[j]).ownBlock ≠ some k
def Rq (w : World) (B : Nat) (v : Value) (rs : List (List Cl)) : Prop := ∃ hs : List Sl, hs.length = rs.length ∧ Ow slV 59 w B v hs ∧ (∀ i (h : i < hs.length) (h2 : i < rs.length), Oc w B (slV hs[i]) rs[i]) ∧ Apart hs
theorem Rq.non {w w' : World} {B : Nat} {v : Value} {rs : List (List Cl)} (h : Rq w B v rs) (hf : Fr Non w w') : Rq w' B v rs := by
  obtain ⟨hs, h1, h2, h3, h4⟩ := h
  exact ⟨hs, h1, h2.non hf, fun i a b => (h3 i a b).non hf, h4⟩
/-- the row at j, and what is left when another one, in the same block or in a new one, is stored in its place -/
theorem Rq.el {w : World} {B g n cap : Nat} {rs : List (List Cl)} (h : Rq w B (.slice (some ⟨g, 0, none⟩) n cap) rs) (hn : n = rs.length) (j : Nat) (hj : j < rs.length) :
    ∃ A' c', w.cell? ⟨g, j, none⟩ = some (.slice A' rs[j].length c') ∧ Oc w B (.slice A' rs[j].length c') rs[j] ∧
      ∀ (w1 w2 : World) (u : Value) (l : List Cl), Fr Non w w1 → Fr (fun k => (Value.slice A' rs[j].length c').ownBlock = some k) w1 w2 → Oc w2 B u l → (u.ownBlock = (Value.slice A' rs[j].length c').ownBlock ∨ ∀ k, u.ownBlock = some k → w1.heap.size ≤ k) →
        w2.frozen? ⟨g, j, none⟩ = false ∧ g < w2.heap.size ∧ Rq (w2.setCell ⟨g, j, none⟩ u) B (.slice (some ⟨g, 0, none⟩) n cap) (rs.set j l) := by
  obtain ⟨hs, h1, h2, h3, h4⟩ := h
  have hj' : j < hs.length := by omega
  have h5 := h3 j hj' hj
  obtain ⟨A', c', e⟩ := h5.shape
  have h6 := h2.cell (by omega) j hs[j] (List.getElem?_eq_getElem hj')
  have hown : (slV hs[j]).ownBlock = (Value.slice A' rs[j].length c').ownBlock := by rw [e]
  refine ⟨A', c', by rw [h6, e], by rw [← e]; exact h5, fun w1 w2 u l f1 f2 hu hblk => ?_⟩
  obtain ⟨cur0, hg0⟩ := h2.kind g rfl
  have hng : ∀ k, (Value.slice A' rs[j].length c').ownBlock = some k → k ≠ g := by rw [← e]; exact oc_kind_ne h5 hg0 cell_ne_cells
  have o1 := h2.non f1
  have o2 : Ow slV 59 w2 B (.slice (some ⟨g, 0, none⟩) n cap) hs := o1.fr f2 (fun k hk e2 => hng k e2 (by simpa [Value.ownBlock] using hk.symm))
  obtain ⟨cur, hg⟩ := o2.kind g rfl
  obtain ⟨A, c, rfl⟩ := hu.shape
  have hf : Fr (One g) w2 (w2.setCell ⟨g, j, none⟩ (.slice A l.length c)) := (Fr.refl _ _).set1 j _
  refine ⟨o2.frozen (by omega) j, (o2.lt g rfl).2, hs.set j ⟨A, l.length, c⟩, by simp [h1], o2.store (by omega) j ⟨A, l.length, c⟩, fun i a b => ?_, fun i i' hi hi' hne k hk hk' => ?_⟩
  · simp only [List.getElem_set]
    split
    · exact hu.fr hf (oc_kind_ne hu hg cell_ne_cells)
    · rename_i hne
      have a' : i < hs.length := by simpa using a
      have h7 := (h3 i a' (by simpa using b)).non f1
      have h8 := h7.fr f2 (fun k hk e2 => h4 i j a' hj' (fun e => hne e.symm) k hk (by rw [hown]; exact e2))
      exact h8.fr hf (oc_kind_ne h8 hg cell_ne_cells)
  · simp only [List.length_set] at hi hi'
    simp only [List.getElem_set] at hk hk'
    have old : ∀ i (hi : i < hs.length), i ≠ j → ∀ k, (slV hs[i]).ownBlock = some k → (slV (⟨A, l.length, c⟩ : Sl)).ownBlock ≠ some k := by
      intro i hi hne k hk hk'
      have hk2 : (Value.slice A l.length c).ownBlock = some k := hk'
      rcases hblk with hb | hb
      · rw [hb] at hk2
        exact h4 i j hi hj' hne k hk (by rw [hown]; exact hk2)
      · have h9 := hb k hk2
        have h10 := ((h3 i hi (by omega)).lt k hk).2
        have := f1.size
        omega
    by_cases e1 : j = i
    · rw [if_pos e1] at hk
      rw [if_neg (fun e2 => hne (by omega))] at hk'
      exact old i' hi' (by omega) k hk' hk
    · rw [if_neg e1] at hk
      by_cases e2 : j = i'
      · rw [if_pos e2] at hk'
        exact old i hi (by omega) k hk hk'
      · rw [if_neg e2] at hk'
        exact h4 i i' hi hi' hne k hk hk'

end Go.Proofs.YtdofgniemkahnaaDoor


namespace Go.Proofs.YtdofgniemkahnaaDoor
set_option linter.unusedVariables false
set_option linter.unusedSimpArgs false
set_option maxRecDepth 100000
open Go.RowKit

theorem num14_any (n : Int) (w : World) : Calls Tryd.prog 9 #[.int .i64 n] w fun e w' => e = .returned (.int .i64 n) ∧ w = w' := by
  go_enter Tryd.func9, Tryd.ntmps9
  go_wp2
  go_ret
  exact ⟨rfl, rfl⟩
end Go.Proofs.YtdofgniemkahnaaDoor


namespace Go.Proofs.YtdofgniemkahnaaDoor
set_option linter.unusedVariables false
set_option linter.unusedSimpArgs false
set_option maxRecDepth 100000
open Go.RowKit

theorem dead3 : ∃ a b c d, deadB [false, false, false] = [2, a, b, c, d, 3, 0] := by
  have h : sayD [false, false, false] = [3, 0] := by
    unfold sayD
    rw [Lib.uvarint_small (by decide)]
    decide
  unfold deadB
  rw [if_pos (by decide), h]
  unfold frameB sum4
  rw [Lib.uvarint_small (by decide)]
  exact ⟨_, _, _, _, rfl⟩

set_option maxHeartbeats 1000000 in
theorem live14_any (w : World) (ht : Tab w) :
    Calls Tryd.prog 6 #[] w fun e w' => e = .returned (.bool true) ∧ Fr Non w w' := by
  obtain ⟨a, b, c, d, hd⟩ := dead3
  have HT := Lib.hid ht
  have HG : Hid (getD14 (deadB [false, false, false]) 3 = ([false, false, false], 0)) := Lib.hid (getD_put (l := [false, false, false]) (by decide))
  rw [hd] at HG
  clear ht
  go_enter Tryd.func6, Tryd.ntmps6
  go_wp2_with (at_make; refine wpList_mkfullG el_bool (f := tv) false rfl rfl _ _ rfl _ _ _ _ 3 rfl rfl rfl rfl (by omega) ?_; intro w1 own1 f1)
  have HF1 := Lib.hid f1
  have HP := Lib.hid (deput_any _ [false, false, false] w1 own1.vs (HT.out.non f1) (by decide))
  rw [hd] at HP
  clear own1 f1
  refine HP.out.mono ?_
  rintro e w2 ⟨u2, rfl, o2, f2⟩
  obtain ⟨g, cap, rfl, -, -, hcap, -⟩ := o2.row (by simp)
  have HF2 := Lib.hid (HF1.out.trans f2)
  have HO2 := Lib.hid o2
  have HGt := Lib.hid (deget_any _ _ 3 w2 o2.bs (HT.out.non HF2.out) (by simp) (by omega) (by omega))
  unfold GtD14 at HGt
  rw [HG.out] at HGt
  clear o2 f2 HP
  simp only [List.length_cons, List.length_nil, Nat.zero_add, Nat.reduceAdd] at hcap HGt HO2
  go_wp2_with fail
  refine HGt.out.mono ?_
  rintro e w3 ⟨⟨u3, rfl, o3⟩, f3⟩
  have hl7 : 7 = [(2 : UInt8), a, b, c, d, 3, 0].length := rfl
  have e0 := HO2.out.cell hl7 0 2 rfl
  have e5 := HO2.out.cell hl7 5 3 rfl
  have e6 := HO2.out.cell hl7 6 0 rfl
  have hlt := World.block_lt_of_cell? _ _ e0
  replace e0 := (f3.cell hlt (fun e => e)).trans e0
  replace e5 := (f3.cell (p := ⟨g, 5, none⟩) hlt (fun e => e)).trans e5
  replace e6 := (f3.cell (p := ⟨g, 6, none⟩) hlt (fun e => e)).trans e6
  have HF3 := Lib.hid (HF2.out.trans f3)
  obtain ⟨A4, c4, rfl⟩ := o3.shape
  simp only [show (2 : UInt8).toNat = 2 from rfl, show (3 : UInt8).toNat = 3 from rfl, show (0 : UInt8).toNat = 0 from rfl] at e0 e5 e6
  clear HGt o3 f3 hl7
  go_wp2_with fail
  refine (num14_any _ _).mono ?_
  rintro e w5 ⟨rfl, rfl⟩
  go_wp2
  go_ret
  exact ⟨rfl, HF3.out⟩
end Go.Proofs.YtdofgniemkahnaaDoor


namespace Go.Proofs.YtdofgniemkahnaaDoor
set_option linter.unusedVariables false
set_option linter.unusedSimpArgs false
set_option maxRecDepth 100000
open Go.RowKit

set_option maxHeartbeats 2000000 in
theorem deadGets_walk (v : Value) (b : List UInt8) (n : Int) (w : World) (hv : Bs w v b) (ht : Tab w) (hvl : ∀ k, v.ownBlock = some k → k < w.heap.size) (hl : b.length ≤ 9223372036854775807) (h1 : -9223372036854775808 ≤ n) (h2 : n ≤ 9223372036854775807) :
    Calls Tryd.prog 4 #[v, .int .i64 n] w fun e w' => e = .returned (.bool true) ∧ Below w.heap.size w w' := by
  obtain ⟨A, c, rfl⟩ := hv.shape
  have HV := Lib.hid hv
  have HT := Lib.hid ht
  have HVL := Lib.hid hvl
  have HLv := Lib.hid (fun W (hf : Fr Non w W) => live14_any W (ht.non hf))
  clear hv ht hvl
  by_cases h3 : 200 < b.length
  · have hb : decide ((200 : Int) < b.length) = true := by simp; omega
    clear h3
    go_enter Tryd.func4, Tryd.ntmps4
    go_wp2_with fail
    refine (HLv.out w (Fr.refl _ _)).mono ?_
    rintro e w1 ⟨rfl, f1⟩
    go_wp2
    go_ret
    exact ⟨rfl, f1.below⟩
  · have hb : decide ((200 : Int) < b.length) = false := by simp; omega
    have hl3 : b.length ≤ 200 := by omega
    have HG := Lib.hid (deget_any _ b n w HV.out HT.out (by omega) h1 h2)
    have HR := Lib.hid (fun W (hf : Fr Non w W) => rdeget_any _ b n W (HV.out.non hf) (fun k hk => Nat.lt_of_lt_of_le (HVL.out k hk) hf.size) (by omega) h1 h2)
    have hlen := getD_len b n
    unfold GtD14 at HG HR
    clear h3
    generalize getD14 b n = r at *
    obtain ⟨x, k⟩ := r
    dsimp only at HG HR hlen
    go_enter Tryd.func4, Tryd.ntmps4
    go_wp2_with fail
    refine HG.out.mono ?_
    rintro e w1 ⟨⟨u1, rfl, o1⟩, f1⟩
    have HF1 := Lib.hid f1
    have HO1 := Lib.hid o1.vs
    have HR1 := Lib.hid (HR.out w1 f1)
    obtain ⟨A1, c1, rfl⟩ := o1.vs.shape
    clear HG HR o1 f1
    go_wp2_with fail
    refine HR1.out.mono ?_
    rintro e w2 ⟨⟨u2, rfl, o2⟩, f2⟩
    have HF2 := Lib.hid (HF1.out.trans f2)
    have HB := Lib.hid (bools_any _ _ x x w2 (HO1.out.non f2) o2.vs (by omega) (by omega))
    rw [beq_self_eq_true] at HB
    obtain ⟨A2, c2, rfl⟩ := o2.vs.shape
    clear HR1 HF1 o2 f2 HO1
    go_wp2_with fail
    refine (num14_any _ _).mono ?_
    rintro e w5 ⟨rfl, rfl⟩
    go_wp2_with fail
    refine HB.out.mono ?_
    rintro e w6 ⟨rfl, f6⟩
    have HF6 := Lib.hid (HF2.out.trans f6)
    clear f6
    go_wp2_with fail
    refine (HLv.out _ HF6.out).mono ?_
    rintro e w7 ⟨rfl, f7⟩
    go_wp2
    go_ret
    exact ⟨rfl, (HF6.out.trans f7).below⟩
end Go.Proofs.YtdofgniemkahnaaDoor


namespace Go.Proofs.YtdofgniemkahnaaDoor
set_option linter.unusedVariables false
set_option linter.unusedSimpArgs false
set_option maxRecDepth 100000
open Go.ChangeShapes Go.WideShapes Go.ChangeAt Go.RowKit

theorem frame_own : ownKnob Tryd.prog.godebug = none := by kernel_rfl
theorem frame_laidOut : laidOutB Tryd.prog = true := by kernel_rfl

/-- every argument reads as it did -/
theorem trodAll_below {H : Type} {enc : TypeId × Value → H} {W W' : World} (hb : Below W.heap.size W W') :
    ∀ (ts : List TypeId) (vs : List Value) (ds : List (DataW H)) (ps : List MemPlace), (∀ t ∈ ts, Tryd.prog.readableRec t = true ∧ t < Tryd.prog.types.size) →
      DataW.TrodAll enc Tryd.prog W 0 (fun _ => true) true ts vs ds ps → DataW.TrodAll enc Tryd.prog W' 0 (fun b => decide (b < W.heap.size)) true ts vs ds ps := by
  intro ts
  induction ts with
  | nil => intro vs ds ps _ h; cases vs <;> cases ds <;> simp_all [DataW.TrodAll]
  | cons t ts ih =>
    intro vs ds ps hr h
    cases vs with
    | nil => cases ds <;> simp_all [DataW.TrodAll]
    | cons v vs =>
      cases ds with
      | nil => simp_all [DataW.TrodAll]
      | cons d ds =>
        obtain ⟨p, q, h1, h2, rfl⟩ := h
        have hlt : ∀ x ∈ p, x.block < W.heap.size := by obtain ⟨m, hm⟩ := h1; exact DataW.trod_lt m _ _ _ hm
        have ht := hr t (List.mem_cons_self ..)
        exact ⟨p, q, Below.trod frame_laidOut ht.1 ht.2 h1 hb hlt, ih vs ds q (fun u hu => hr u (List.mem_cons_of_mem _ hu)) h2, rfl⟩

noncomputable def typesOk (ts : List TypeId) : Bool := ts.all fun t => Tryd.prog.readableRec t && decide (t < Tryd.prog.types.size)
theorem types_ok (ts : List TypeId) (h : typesOk ts = true) : ∀ t ∈ ts, Tryd.prog.readableRec t = true ∧ t < Tryd.prog.types.size := by
  intro t ht
  have := List.all_eq_true.1 h t ht
  simpa using this

/-- a slice that came in: nil, or it leads into a block that is there -/
theorem slice_in {W : World} {base : Nat} {t e : TypeId} {v : Value} (ht : Tryd.prog.underlying t = some (.slice e)) (hv : Value.okWide Tryd.prog W .any base t v) :
    v = .slice none 0 0 ∨ ∃ b o n c, v = .slice (some ⟨b, o, none⟩) n c ∧ n ≤ c ∧ b < W.heap.size := by
  obtain ⟨a, n, c, rfl⟩ := okWide_slice ht hv
  simp only [Value.okWide, ht, Cell.okWide] at hv
  cases a with
  | none =>
    left
    simp only [Cell.ok, ht] at hv
    cases n <;> cases c <;> simp_all
  | some a =>
    right
    simp only [Cell.ok, ht] at hv
    obtain ⟨h1, _, _, h2, row, cells, h3, _⟩ := hv
    obtain ⟨b, o, sp⟩ := a
    simp only at h2 h3
    subst h2
    refine ⟨b, o, n, c, rfl, h1, ?_⟩
    rcases Nat.lt_or_ge b W.heap.size with h | h
    · exact h
    · unfold World.shape? at h3
      rw [Array.getElem?_eq_none h] at h3
      cases h3

/-- bytes that came in -/
theorem bs_in {H : Type} {enc : TypeId × Value → H} {W : World} {base : Nat} {v : Value} {d : DataW H} {p : List MemPlace} (hv : Value.okWide Tryd.prog W .any base 24 v)
    (h : DataW.Trod enc Tryd.prog W 0 (fun _ => true) true 24 v d p) : ∃ l, Bs W v l ∧ l.length ≤ maxLen ∧ ∀ k, v.ownBlock = some k → k < W.heap.size := by
  rcases slice_in Tryd.underlying24 hv with rfl | ⟨b, o, len0, cap0, rfl, _, hblt⟩
  · exact ⟨[], Bs.nil_ W, Nat.zero_le _, fun _ h => by cases h⟩
  obtain ⟨fuel, hf⟩ := h
  rcases open_ints Tryd.underlying24 Tryd.underlying5 (by kernel_rfl) hf with ⟨hcs, _⟩ | ⟨x, l, c, zs, hcs, _, hl, hm, hz, _, hcell, hwz⟩
  · simp [Value.cells] at hcs
  · simp [Value.cells] at hcs
    obtain ⟨rfl, rfl, rfl⟩ := hcs
    have hzl : zs.length = cap0 := by simpa using hz
    have hlen : ((zs.take len0).map fun n => UInt8.ofNat n.toNat).length = len0 := by simp; omega
    refine ⟨(zs.take len0).map fun n => UInt8.ofNat n.toNat, ⟨_, cap0, by rw [hlen], by rw [hlen]; exact hl, (fun h => by cases h), fun a ha j hj => ?_⟩, by rw [hlen]; omega, fun k hk => ?_⟩
    · cases ha
      rw [hlen] at hj
      rw [hcell j (by omega)]
      have hw := hwz (zs.getD j 0) (by rw [← List.getElem_eq_getD (h := by omega) 0]; exact List.getElem_mem _)
      have hb : 0 ≤ zs.getD j 0 ∧ zs.getD j 0 ≤ 255 := by simpa [Lit.wf, IntKind.min, IntKind.max, IntKind.signed, IntKind.bits] using hw
      have he : ((zs.take len0).map fun n => UInt8.ofNat n.toNat)[j]'(by rw [hlen]; exact hj) = UInt8.ofNat (zs.getD j 0).toNat := by
        rw [List.getElem_map, List.getElem_take, ← List.getElem_eq_getD (h := by omega) 0]
      rw [he]
      unfold bv
      rw [show ((UInt8.ofNat (zs.getD j 0).toNat).toNat : Int) = zs.getD j 0 by rw [UInt8.toNat_ofNat']; omega]
    · simp [Value.ownBlock] at hk
      omega

theorem wf_i64_bd {n : Int} (h : (Lit.int .i64 n).wf = true) : -9223372036854775808 ≤ n ∧ n ≤ 9223372036854775807 := by
  simpa [Lit.wf, IntKind.min, IntKind.max, IntKind.signed, IntKind.bits] using h
end Go.Proofs.YtdofgniemkahnaaDoor


namespace Go.Proofs.YtdofgniemkahnaaDoor
set_option linter.unusedVariables false
set_option linter.unusedSimpArgs false
set_option maxRecDepth 100000
open Go.ChangeShapes Go.WideShapes Go.ChangeAt Go.RowKit

/-- the table lies as the text lays it -/
theorem tab_in {W : World} {rest : List (String × DataW Unit)} (h : laidMet Tryd.prog (("firkin/crc.halves", Rows.laid_firkin_crc_halves) :: rest) W) : Tab W := by
  have hT : Lib.TabIs Tryd.prog W "firkin/crc.halves" .u32 halfTab := Lib.tabIs_of_head (n := 16) (show Tryd.prog.globalNamed "firkin/crc.halves" = some 0 by kernel_rfl)
    (show (Tryd.prog.globals[0]?).map (·.type) = some 85 by kernel_rfl) Tryd.underlying85 Tryd.underlying71 (by kernel_rfl) (by kernel_rfl) (h : laidMet Tryd.prog (("firkin/crc.halves", Lib.tabData .u32 halfTab) :: rest) W)
  intro i hi
  have := hT.cell (show Tryd.prog.globalNamed "firkin/crc.halves" = some 0 by kernel_rfl) i (by simpa [halfTab] using hi)
  rw [this]
  have hp : 0 ≤ halfTab.getD i 0 := by
    have all : ∀ j : Fin 16, 0 ≤ halfTab.getD j.1 0 := by decide
    exact all ⟨i, hi⟩
  unfold half
  rw [Int.toNat_of_nonneg hp]

theorem tab_inH {W : World} (h : laidMetH Tryd.prog [("firkin/crc.halves", Rows.laid_firkin_crc_halves)] W) : Tab W := by
  rw [MakeChecks.laidMetH_plain _ _ _ (by kernel_rfl)] at h
  exact tab_in h

end Go.Proofs.YtdofgniemkahnaaDoor
