/-
  Joined: Layer 19: the document's reader: its state in a block; the next token. · Layer 19: the document's reader: a token taken; a word that must be; a name. · Layer 19: the document's reader: names. · Layer 19: the document's reader: values. · Layer 19: the document's reader behind a predicate stored whole. · Layer 19: the document's reader: what is asked of a column, where nothing right goes on. · Layer 19: the document's reader: what is asked of a column: is null. · Layer 19: the document's reader: what is asked of a column: like. · Layer 19: the document's reader: its steps in one form, whether it had failed before or not. · Layer 19: the document's reader: what is asked of a column: a sign and a value, or nothing right. · Layer 19: the document's reader: what is asked of a column, whichever way; predicates joined. · Layer 19: the document's reader: a single, by the levels left; predicates.
-/
import Derived.Deep.Slices
import Derived.Laws.StructEq
import Derived.Laws.Rows
import Derived.Laws.ResultCell
import Derived.Lib.Zigzag
import Derived.Laws.Cover1
import Derived.Deep.QuietTactic
import Derived.BigQuiet
import Derived.Deep.RegionHeld3
import Derived.Deep.DrawnRows
import Derived.Test.YtipgaafgnefmdaaGreatDoorZ2
import Derived.Test.YtipgaafgnefmdaaGreatDoorZ3
import Derived.Deep.Cut
import Derived.Test.YtipgaafgnefmdaaGreatDoorZ6

namespace Go.Proofs.YtipgaafgnefmdaaGreatDoor
set_option linter.unusedVariables false
set_option linter.unusedSimpArgs false
set_option maxRecDepth 100000
open Go.RowKit

/-- the reader in block g -/
structure TR (w : World) (B g : Nat) (A : Option Addr) (c : Nat) (l : List Tk) (bad : Bool) (z : Int) : Prop where
  blk : Blk w g 57 #[.slice A l.length c, .bool bad, .int .i64 z]
  tks : Tks w (.slice A l.length c) l
  fin : EndL l
  ap : ∀ a, A = some a → a.block ≠ g ∧ a.block < B
  lt : g < B
  le : B ≤ w.heap.size
def TS (w : World) (B g : Nat) (l : List Tk) (bad : Bool) (z : Int) : Prop := ∃ A c, TR w B g A c l bad z
theorem TR.cells {w : World} {B g : Nat} {A : Option Addr} {c : Nat} {l : List Tk} {bad : Bool} {z : Int} (h : TR w B g A c l bad z) :
    w.cell? ⟨g, 0, none⟩ = some (.slice A l.length c) ∧ w.cell? ⟨g, 1, none⟩ = some (.bool bad) ∧ w.cell? ⟨g, 2, none⟩ = some (.int .i64 z) ∧ w.frozen? ⟨g, 0, none⟩ = false ∧ w.frozen? ⟨g, 1, none⟩ = false ∧ w.frozen? ⟨g, 2, none⟩ = false :=
  ⟨h.blk.cell 0, h.blk.cell 1, h.blk.cell 2, h.blk.frozen 0, h.blk.frozen 1, h.blk.frozen 2⟩
/-- the next token's cells -/
def HdC (w : World) (a : Addr) (t : Tk) : Prop := w.cell? a = some (.int .i64 t.kind) ∧ w.cell? { block := a.block, off := a.off + 1 } = some (.string ⟨t.txt.toArray⟩) ∧ w.cell? { block := a.block, off := a.off + 2 } = some (.int .i64 t.num) ∧ w.cell? { block := a.block, off := a.off + 3 } = some (.int .i64 t.at_)
theorem TR.tok {w : World} {B g : Nat} {A : Option Addr} {c : Nat} {l : List Tk} {bad : Bool} {z : Int} (h : TR w B g A c l bad z) : ∃ a, A = some a ∧ HdC w a (hdT l) := by
  obtain ⟨t, r, rfl, he⟩ := h.fin.hd
  obtain ⟨A', c', e, hl, hn, hcell⟩ := h.tks
  simp only [Value.slice.injEq] at e
  obtain ⟨rfl, _, rfl⟩ := e
  cases A with
  | none => have := hn rfl; simp at hl; omega
  | some a =>
    have h0 := hcell a rfl 0 (by simp)
    rw [Nat.zero_mul] at h0
    have ea : a.add 0 = a := by cases a; rfl
    rw [ea] at h0
    rw [he]
    exact ⟨a, rfl, h0 0 _ rfl, h0 1 _ rfl, h0 2 _ rfl, h0 3 _ rfl⟩
theorem TR.tks_fr {w w' : World} {B g : Nat} {A : Option Addr} {c : Nat} {l : List Tk} {bad : Bool} {z : Int} (h : TR w B g A c l bad z) (hf : Fr (One g) w w') : Tks w' (.slice A l.length c) l :=
  h.tks.fr hf (fun b hb e => by
    cases A with
    | none => simp [Value.ownBlock] at hb
    | some a =>
      have e1 : a.block = b := by simpa [Value.ownBlock] using hb
      have e2 : b = g := e
      exact (h.ap a rfl).1 (e1.trans e2))
theorem TS.non {w w' : World} {B g : Nat} {l : List Tk} {bad : Bool} {z : Int} (h : TS w B g l bad z) (hf : Fr Non w w') : TS w' B g l bad z := by
  obtain ⟨A, c, hR⟩ := h
  exact ⟨A, c, hR.blk.fr hf (fun e => e), hR.tks.non hf, hR.fin, hR.ap, hR.lt, Nat.le_trans hR.le hf.size⟩
theorem TS.fresh {S : Nat → Prop} {w w' : World} {B g : Nat} {l : List Tk} {bad : Bool} {z : Int} (h : TS w B g l bad z) (hf : Fr S w w') (hs : ∀ k, S k → B ≤ k) : TS w' B g l bad z := by
  obtain ⟨A, c, hR⟩ := h
  refine ⟨A, c, hR.blk.fr hf (fun e => ?_), hR.tks.fr hf (fun b hb e => ?_), hR.fin, hR.ap, hR.lt, Nat.le_trans hR.le hf.size⟩
  · have := hs g e; have := hR.lt; omega
  · cases A with
    | none => simp [Value.ownBlock] at hb
    | some a =>
      have e1 : a.block = b := by simpa [Value.ownBlock] using hb
      have := hs b e
      have := (hR.ap a rfl).2
      omega
theorem TS.le {w : World} {B g : Nat} {l : List Tk} {bad : Bool} {z : Int} (h : TS w B g l bad z) : B ≤ w.heap.size := by
  obtain ⟨A, c, hR⟩ := h
  exact hR.le
theorem TS.lt {w : World} {B g : Nat} {l : List Tk} {bad : Bool} {z : Int} (h : TS w B g l bad z) : g < B := by
  obtain ⟨A, c, hR⟩ := h
  exact hR.lt
theorem TS.fin {w : World} {B g : Nat} {l : List Tk} {bad : Bool} {z : Int} (h : TS w B g l bad z) : EndL l := by
  obtain ⟨A, c, hR⟩ := h
  exact hR.fin
theorem tfail_any (B g : Nat) (l : List Tk) (bad : Bool) (z : Int) (w : World) (h : TS w B g l bad z) :
    Calls Tryz.prog 54 #[.pointer (some ⟨g, 0, none⟩)] w fun e w' => e = .returned (.tuple #[]) ∧ TS w' B g l true (if bad = true then z else (hdT l).at_) ∧ Fr (One g) w w' := by
  obtain ⟨A, c, hR⟩ := h
  obtain ⟨a, rfl, t0, t1, t2, t3⟩ := hR.tok
  obtain ⟨c0, c1, c2, z0, z1, z2⟩ := hR.cells
  have hln := hR.fin.ne
  have hne := (hR.ap a rfl).1
  have HR := Lib.hid hR
  clear hR
  cases bad
  · generalize hdT l = t at *
    have F2 : Fr (One g) w ((w.setCell ⟨g, 1, none⟩ (.bool true)).setCell ⟨g, 2, none⟩ (.int .i64 t.at_)) := ((Fr.refl (One g) w).set1 1 _).set1 2 _
    have T2 : Hid (TS ((w.setCell ⟨g, 1, none⟩ (.bool true)).setCell ⟨g, 2, none⟩ (.int .i64 t.at_)) B g l true t.at_) := Lib.hid ⟨some a, c, (HR.out.blk.set 1 _).set 2 _, HR.out.tks_fr F2, HR.out.fin, HR.out.ap, HR.out.lt, Nat.le_trans HR.out.le F2.size⟩
    replace F2 : Hid (Fr (One g) w _) := Lib.hid F2
    go_enter Tryz.func54, Tryz.ntmps54
    go_wp2
    go_end0
    exact ⟨rfl, T2.out, F2.out⟩
  · go_enter Tryz.func54, Tryz.ntmps54
    go_wp2
    go_end0
    exact ⟨rfl, ⟨_, _, HR.out⟩, Fr.refl _ _⟩
theorem tis_any (B g : Nat) (k : Int) (s : Tx) (l : List Tk) (bad : Bool) (z : Int) (w : World) (h : TS w B g l bad z) :
    Calls Tryz.prog 25 #[.pointer (some ⟨g, 0, none⟩), .int .i64 k, .string ⟨s.toArray⟩] w fun e w' => e = .returned (.bool (!bad && isK k s l)) ∧ w = w' := by
  obtain ⟨A, c, hR⟩ := h
  obtain ⟨a, rfl, t0, t1, t2, t3⟩ := hR.tok
  obtain ⟨c0, c1, c2, z0, z1, z2⟩ := hR.cells
  have hln := hR.fin.ne
  have HE0 : Hid (isK k s l = (decide ((hdT l).kind = k) && decide ((hdT l).txt = s))) := Lib.hid rfl
  clear hR
  generalize isK k s l = r at *
  generalize hdT l = t at *
  obtain ⟨tk, tt, tn, ta⟩ := t
  dsimp only at *
  cases bad
  · by_cases h1 : tk = k
    · have h1b : (tk == k) = true := by rw [beq_iff_eq]; exact h1
      by_cases h2 : tt = s
      · have HE : Hid (r = true) := Lib.hid (by rw [HE0.out, decide_eq_true h1, decide_eq_true h2]; rfl)
        clear HE0
        subst h1
        subst h2
        go_enter Tryz.func25, Tryz.ntmps25
        go_wp2
        go_ret
        exact ⟨ret_boolE (by rw [HE.out]; rfl), rfl⟩
      · have h2b : (tt == s) = false := by rw [beq_eq_false_iff_ne]; exact h2
        have HE : Hid (r = false) := Lib.hid (by rw [HE0.out, decide_eq_false h2, Bool.and_false])
        clear HE0 h2
        subst h1
        go_enter Tryz.func25, Tryz.ntmps25
        go_wp2
        go_ret
        exact ⟨ret_boolE (by rw [HE.out]; rfl), rfl⟩
    · have h1b : (tk == k) = false := by rw [beq_eq_false_iff_ne]; exact h1
      have HE : Hid (r = false) := Lib.hid (by rw [HE0.out, decide_eq_false h1, Bool.false_and])
      clear HE0 h1
      go_enter Tryz.func25, Tryz.ntmps25
      go_wp2
      go_ret
      exact ⟨ret_boolE (by rw [HE.out]; rfl), rfl⟩
  · clear HE0
    go_enter Tryz.func25, Tryz.ntmps25
    go_wp2
    go_ret
    exact ⟨rfl, rfl⟩
end Go.Proofs.YtipgaafgnefmdaaGreatDoor


namespace Go.Proofs.YtipgaafgnefmdaaGreatDoor
set_option linter.unusedVariables false
set_option linter.unusedSimpArgs false
set_option maxRecDepth 100000
open Go.RowKit

theorem sz_tkR (w : World) : (sizeOf (Tryz.prog.elem 52)).run Tryz.prog w = .ok 4 w := by kernel_rfl
theorem ret_tk1 {fn : Func} {p : Tmp} (h : fn.results = #[.cell p 64]) (tmps : Array Value) (w : World) (g : Nat) (c : Tk)
    (hp : tmps.getD p undef = .pointer (some ⟨g, 0, none⟩)) (hg : TkBR w g c) : (results fn tmps).run Tryz.prog w = .ok (tkV c) w :=
  results_cell_row h tmps w g 64 _ (0, 0) _ hp hg Tryz.underlying64 rfl (by kernel_rfl)
set_option maxHeartbeats 1000000 in
theorem ttake_any (B g : Nat) (l : List Tk) (bad : Bool) (z : Int) (w : World) (h : TS w B g l bad z) :
    Calls Tryz.prog 26 #[.pointer (some ⟨g, 0, none⟩)] w fun e w' => e = .returned (tkV (hdT l)) ∧ TS w' B g (tlK l) bad z ∧ Fr (One g) w w' := by
  obtain ⟨A, c, hR⟩ := h
  obtain ⟨a, rfl, t0, t1, t2, t3⟩ := hR.tok
  obtain ⟨c0, c1, c2, z0, z1, z2⟩ := hR.cells
  have hln := hR.fin.ne
  have hgl := hR.blk.lt
  have hal := World.block_lt_of_cell? _ _ t0
  have hne := (hR.ap a rfl).1
  have HR := Lib.hid hR
  have hcn : l.length ≤ c := by
    obtain ⟨A0, c0, he, h1, _⟩ := hR.tks
    simp only [Value.slice.injEq] at he
    omega
  obtain ⟨A', c', hrun, hns, hbl⟩ := slice_tlN (f := tkL) Tryz.underlying52 sz_tkR (some a) l.length c 1 .i64 1 rfl (by omega) hcn
  have HNS := Lib.hid hns
  have HBL := Lib.hid hbl
  clear hR hns hbl
  have HTL : Hid (tlK l = if (hdT l).kind = 0 then l else l.tail) := Lib.hid rfl
  have HFN : Hid (EndL (tlK l)) := Lib.hid HR.out.fin.tl
  generalize hdT l = t at *
  generalize tlK l = l' at *
  obtain ⟨tk, tt, tn, ta⟩ := t
  dsimp only at *
  by_cases hk : tk = 0
  · have HL : Hid (l' = l) := Lib.hid (by rw [HTL.out, if_pos hk])
    have T2 : Hid (∀ W, Fr Non w W → TS W B g l' bad z) := Lib.hid (fun W hf => by
      rw [HL.out]
      exact TS.non ⟨_, _, HR.out⟩ hf)
    clear HTL hrun HL
    subst hk
    go_enter Tryz.func26, Tryz.ntmps26
    go_wp2
    have F2 : Fr Non w ((w.alloc (.cells #[.int .i64 0, .string ⟨tt.toArray⟩, .int .i64 tn, .int .i64 ta] 64)).alloc (.cells #[.int .i64 0, .string ⟨tt.toArray⟩, .int .i64 tn, .int .i64 ta] 64)) := ((Fr.refl Non w).alloc _).alloc _
    exact bodyPost_ret (ret_tk1 (p := 2) rfl _ _ w.heap.size ⟨0, tt, tn, ta⟩ rfl ((tkR_new w ⟨0, tt, tn, ta⟩).fr ((Fr.refl Non _).alloc _) (fun e => e))) rfl ⟨rfl, T2.out _ F2, F2.mono fun k _ e => e.elim⟩
  · have hkb : (tk != 0) = true := by rw [bne_iff_ne]; exact hk
    have HL : Hid (l' = l.tail) := Lib.hid (by rw [HTL.out, if_neg hk])
    have HN1 : Hid (l'.length = l.length - 1) := Lib.hid (by rw [HL.out, List.length_tail])
    have HN2 := Lib.hid hln
    clear HTL hk
    go_enter Tryz.func26, Tryz.ntmps26
    go_wp2
    have F1 : Fr (One g) w (w.setCell ⟨g, 0, none⟩ (.slice A' (l.length - 1) c')) := (Fr.refl (One g) w).set1 0 _
    have K1 := tkR_new (w.setCell ⟨g, 0, none⟩ (.slice A' (l.length - 1) c')) ⟨tk, tt, tn, ta⟩
    have F2 : Fr Non (w.setCell ⟨g, 0, none⟩ (.slice A' (l.length - 1) c')) (((w.setCell ⟨g, 0, none⟩ (.slice A' (l.length - 1) c')).alloc (.cells #[.int .i64 tk, .string ⟨tt.toArray⟩, .int .i64 tn, .int .i64 ta] 64)).alloc (.cells #[.int .i64 tk, .string ⟨tt.toArray⟩, .int .i64 tn, .int .i64 ta] 64)) := ((Fr.refl Non _).alloc _).alloc _
    have F3 := F1.trans (F2.mono fun k _ e => e.elim)
    have T3 : TS (((w.setCell ⟨g, 0, none⟩ (.slice A' (l.length - 1) c')).alloc (.cells #[.int .i64 tk, .string ⟨tt.toArray⟩, .int .i64 tn, .int .i64 ta] 64)).alloc (.cells #[.int .i64 tk, .string ⟨tt.toArray⟩, .int .i64 tn, .int .i64 ta] 64)) B g l' bad z := by
      refine ⟨A', c', ?_, ?_, HFN.out, fun a' ha' => ?_, HR.out.lt, Nat.le_trans HR.out.le F3.size⟩
      · rw [HN1.out]; exact (HR.out.blk.set 0 _).fr F2 (fun e => e)
      · rw [HN1.out, HL.out, ← List.drop_one]
        exact HNS.out _ l rfl (HR.out.tks_fr F3)
      · obtain ⟨a0, h0, hb⟩ := HBL.out a' ha'
        rw [hb]
        exact HR.out.ap a0 h0
    have hsz : (w.setCell ⟨g, 0, none⟩ (.slice A' (l.length - 1) c')).heap.size = w.heap.size := by simp
    rw [hsz] at K1
    exact bodyPost_ret (ret_tk1 (p := 2) rfl _ _ w.heap.size ⟨tk, tt, tn, ta⟩ rfl (K1.fr ((Fr.refl Non _).alloc _) (fun e => e))) rfl ⟨rfl, T3, F3⟩
/-- how a step ends: where it was right, with the tokens left; else it has failed there -/
def StepK {α : Type} (w : World) (B g : Nat) (z : Int) (x : Except Int α) (f : α → List Tk) : Prop := match x with
  | .ok a => TS w B g (f a) false z
  | .error e => ∃ l, TS w B g l true e
theorem tmust_any (B g : Nat) (k : Int) (s : Tx) (l : List Tk) (z : Int) (w : World) (h : TS w B g l false z) :
    Calls Tryz.prog 22 #[.pointer (some ⟨g, 0, none⟩), .int .i64 k, .string ⟨s.toArray⟩] w fun e w' => e = .returned (.tuple #[]) ∧ StepK w' B g z (mustK k s l) (fun r => r) ∧ Fr (One g) w w' := by
  have I := tis_any B g k s l false z w h
  have F := Lib.hid (tfail_any B g l false z w h)
  have T := Lib.hid (ttake_any B g l false z w h)
  have HE0 : Hid (mustK k s l = if isK k s l = true then .ok (tlK l) else errK l) := Lib.hid rfl
  generalize mustK k s l = r at *
  generalize isK k s l = b at *
  clear h
  cases b
  · have HE : Hid (r = errK l) := Lib.hid (by rw [HE0.out, if_neg (by simp)])
    replace I := Lib.hid I
    clear HE0 T
    go_enter Tryz.func22, Tryz.ntmps22
    go_wp2_with fail
    refine I.out.mono ?_
    rintro e w1 ⟨rfl, rfl⟩
    go_wp2_with fail
    refine F.out.mono ?_
    rintro e w2 ⟨rfl, hT, hF⟩
    have HT2 := Lib.hid hT
    have HF2 := Lib.hid hF
    clear hT hF
    go_wp2
    refine bodyPost_ret (results_none rfl _ _ _) rfl ⟨rfl, ?_, HF2.out⟩
    rw [HE.out]
    exact ⟨l, HT2.out⟩
  · have HE : Hid (r = .ok (tlK l)) := Lib.hid (by rw [HE0.out, if_pos rfl])
    replace I := Lib.hid I
    clear HE0 F
    go_enter Tryz.func22, Tryz.ntmps22
    go_wp2_with fail
    refine I.out.mono ?_
    rintro e w1 ⟨rfl, rfl⟩
    go_wp2_with fail
    refine T.out.mono ?_
    rintro e w2 ⟨rfl, hT, hF⟩
    have HT2 := Lib.hid hT
    have HF2 := Lib.hid hF
    clear hT hF
    go_wp2
    go_end0
    refine ⟨rfl, ?_, HF2.out⟩
    rw [HE.out]
    exact HT2.out
/-- .. where it had failed before: it stays so -/
theorem tmust_bad (B g : Nat) (k : Int) (s : Tx) (l : List Tk) (z : Int) (w : World) (h : TS w B g l true z) :
    Calls Tryz.prog 22 #[.pointer (some ⟨g, 0, none⟩), .int .i64 k, .string ⟨s.toArray⟩] w fun e w' => e = .returned (.tuple #[]) ∧ TS w' B g l true z ∧ Fr (One g) w w' := by
  have I := Lib.hid (tis_any B g k s l true z w h)
  have F := Lib.hid (tfail_any B g l true z w h)
  clear h
  go_enter Tryz.func22, Tryz.ntmps22
  go_wp2_with fail
  refine I.out.mono ?_
  rintro e w1 ⟨rfl, rfl⟩
  go_wp2_with fail
  refine F.out.mono ?_
  rintro e w2 ⟨rfl, hT, hF⟩
  have HT2 := Lib.hid hT
  have HF2 := Lib.hid hF
  clear hT hF
  go_wp2
  exact bodyPost_ret (results_none rfl _ _ _) rfl ⟨rfl, HT2.out, HF2.out⟩
end Go.Proofs.YtipgaafgnefmdaaGreatDoor


namespace Go.Proofs.YtipgaafgnefmdaaGreatDoor
set_option linter.unusedVariables false
set_option linter.unusedSimpArgs false
set_option maxRecDepth 100000
open Go.RowKit

/-- how a step ends that gives something: as read, with the tokens left; else it has failed there, and gives something of that form -/
def StepE {α : Type} (w : World) (B g : Nat) (z : Int) (x : Rd α) (e : Ending) (F : α → World → Value → Prop) : Prop :=
  ∃ a v, e = .returned v ∧ F a w v ∧ match x with
    | .ok (b, r) => a = b ∧ TS w B g r false z
    | .error k => ∃ l, TS w B g l true k
/-- .. and where it had failed before -/
def BadE {α : Type} (w : World) (B g : Nat) (l : List Tk) (z : Int) (e : Ending) (F : α → World → Value → Prop) : Prop :=
  ∃ a v, e = .returned v ∧ F a w v ∧ TS w B g l true z
theorem StepE.good {α : Type} {w : World} {B g : Nat} {z : Int} {x : Rd α} {F : α → World → Value → Prop} (a : α) (r : List Tk) (hx : x = .ok (a, r)) (v : Value) (hv : F a w v) (hT : TS w B g r false z) : StepE w B g z x (.returned v) F := by
  subst hx; exact ⟨a, v, rfl, hv, rfl, hT⟩
theorem StepE.fail {α : Type} {w : World} {B g : Nat} {z : Int} {x : Rd α} {F : α → World → Value → Prop} (k : Int) (hx : x = .error k) (a : α) (v : Value) (hv : F a w v) (l : List Tk) (hT : TS w B g l true k) : StepE w B g z x (.returned v) F := by
  subst hx; exact ⟨a, v, rfl, hv, l, hT⟩
theorem tkf_txt (a : Int) (b : Tx) (c d : Int) (W : World) : (Instr.field 64 (.agg #[.int .i64 a, .string ⟨b.toArray⟩, .int .i64 c, .int .i64 d]) 1).run Tryz.prog W = .ok (.string ⟨b.toArray⟩) W := by kernel_rfl
theorem tkf_num (a : Int) (b : Tx) (c d : Int) (W : World) : (Instr.field 64 (.agg #[.int .i64 a, .string ⟨b.toArray⟩, .int .i64 c, .int .i64 d]) 2).run Tryz.prog W = .ok (.int .i64 c) W := by kernel_rfl
theorem tnamed_any (B g : Nat) (l : List Tk) (bad : Bool) (z : Int) (w : World) (h : TS w B g l bad z) :
    Calls Tryz.prog 55 #[.pointer (some ⟨g, 0, none⟩)] w fun e w' => e = .returned (.bool (!bad && namedK l)) ∧ TS w' B g l bad z ∧ Fr Non w w' := by
  have HT := Lib.hid h
  obtain ⟨A, c, hR⟩ := h
  obtain ⟨a, rfl, t0, t1, t2, t3⟩ := hR.tok
  obtain ⟨c0, c1, c2, z0, z1, z2⟩ := hR.cells
  have hln := hR.fin.ne
  have HLn := Lib.hid hR.fin.len
  have HE0 : Hid (namedK l = (decide ((hdT l).kind = 1) && nameB (hdT l).txt)) := Lib.hid rfl
  clear hR
  generalize namedK l = r at *
  generalize hdT l = t at *
  obtain ⟨tk, tt, tn, ta⟩ := t
  dsimp only at *
  cases bad
  · by_cases h1 : tk = 1
    · have N := Lib.hid (rname_any tt w HLn.out)
      have HE : Hid (r = nameB tt) := Lib.hid (by rw [HE0.out, decide_eq_true h1, Bool.true_and])
      clear HE0
      subst h1
      go_enter Tryz.func55, Tryz.ntmps55
      go_wp2_with fail
      refine N.out.mono ?_
      rintro e w1 ⟨rfl, hF⟩
      have HF := Lib.hid hF
      clear hF
      go_wp2
      go_ret
      exact ⟨ret_boolE (by rw [HE.out]; rfl), HT.out.non HF.out, HF.out⟩
    · have h1b : (tk == 1) = false := by rw [beq_eq_false_iff_ne]; exact h1
      have HE : Hid (r = false) := Lib.hid (by rw [HE0.out, decide_eq_false h1, Bool.false_and])
      clear HE0 h1
      go_enter Tryz.func55, Tryz.ntmps55
      go_wp2
      go_ret
      exact ⟨ret_boolE (by rw [HE.out]; rfl), HT.out, Fr.refl _ _⟩
  · clear HE0
    go_enter Tryz.func55, Tryz.ntmps55
    go_wp2
    go_ret
    exact ⟨rfl, HT.out, Fr.refl _ _⟩
set_option maxHeartbeats 1000000 in
theorem tname_any (B g : Nat) (l : List Tk) (z : Int) (w : World) (h : TS w B g l false z) :
    Calls Tryz.prog 24 #[.pointer (some ⟨g, 0, none⟩)] w fun e w' => StepE w' B g z (nameK l) e NmF ∧ Fr (One g) w w' := by
  have HT := Lib.hid h
  have FL : Hid (∀ W, Fr Non w W → _) := Lib.hid fun W hf => tfail_any B g l false z W (h.non hf)
  have TK : Hid (∀ W, Fr Non w W → _) := Lib.hid fun W hf => ttake_any B g l false z W (h.non hf)
  obtain ⟨A, c, hR⟩ := h
  obtain ⟨a, rfl, t0, t1, t2, t3⟩ := hR.tok
  obtain ⟨c0, c1, c2, z0, z1, z2⟩ := hR.cells
  have hln := hR.fin.ne
  have HLn := Lib.hid hR.fin.len
  have HE0 : Hid (nameK l = if (decide ((hdT l).kind = 1) && nameB (hdT l).txt) = true then .ok ((hdT l).txt, tlK l) else .error (hdT l).at_) := Lib.hid rfl
  clear hR
  generalize nameK l = r at *
  generalize tlK l = l' at *
  generalize hdT l = t at *
  obtain ⟨tk, tt, tn, ta⟩ := t
  dsimp only at *
  by_cases h1 : tk = 1
  · have N := Lib.hid (rname_any tt w HLn.out)
    have HE : Hid (r = if nameB tt = true then .ok (tt, l') else .error ta) := Lib.hid (by rw [HE0.out, decide_eq_true h1, Bool.true_and])
    clear HE0
    subst h1
    generalize nameB tt = b at *
    cases b
    · have HX : Hid (r = .error ta) := Lib.hid (by rw [HE.out, if_neg (by simp)])
      clear HE TK
      go_enter Tryz.func24, Tryz.ntmps24
      go_wp2_with fail
      refine N.out.mono ?_
      rintro e w1 ⟨rfl, hF⟩
      have HF := Lib.hid hF
      have F1 := Lib.hid (FL.out w1 hF)
      clear hF FL
      go_wp2_with fail
      refine F1.out.mono ?_
      rintro e w2 ⟨rfl, hT, hG⟩
      have HT2 := Lib.hid hT
      have HG := Lib.hid hG
      clear hT hG
      go_wp2
      go_ret
      exact ⟨StepE.fail ta HX.out [] _ rfl l HT2.out, (HF.out.mono fun k _ e => e.elim).trans HG.out⟩
    · have HX : Hid (r = .ok (tt, l')) := Lib.hid (by rw [HE.out, if_pos rfl])
      clear HE FL
      go_enter Tryz.func24, Tryz.ntmps24
      go_wp2_with fail
      refine N.out.mono ?_
      rintro e w1 ⟨rfl, hF⟩
      have HF := Lib.hid hF
      have F1 := Lib.hid (TK.out w1 hF)
      clear hF TK
      go_wp2_with fail
      refine F1.out.mono ?_
      rintro e w2 ⟨rfl, hT, hG⟩
      have HT2 := Lib.hid hT
      have HG := Lib.hid hG
      clear hT hG
      unfold tkV tkA
      have hfd := fun W => tkf_txt 1 tt tn ta W
      go_wp2
      go_ret
      exact ⟨StepE.good tt l' HX.out _ rfl HT2.out, (HF.out.mono fun k _ e => e.elim).trans HG.out⟩
  · have h1b : (tk != 1) = true := by rw [bne_iff_ne]; exact h1
    have HX : Hid (r = .error ta) := Lib.hid (by rw [HE0.out, decide_eq_false h1, Bool.false_and, if_neg (by simp)])
    have F1 := Lib.hid (FL.out w (Fr.refl _ _))
    clear HE0 TK FL h1
    go_enter Tryz.func24, Tryz.ntmps24
    go_wp2_with fail
    refine F1.out.mono ?_
    rintro e w2 ⟨rfl, hT, hG⟩
    have HT2 := Lib.hid hT
    have HG := Lib.hid hG
    clear hT hG
    go_wp2
    go_ret
    exact ⟨StepE.fail ta HX.out [] _ rfl l HT2.out, HG.out⟩
theorem tname_bad (B g : Nat) (l : List Tk) (z : Int) (w : World) (h : TS w B g l true z) :
    Calls Tryz.prog 24 #[.pointer (some ⟨g, 0, none⟩)] w fun e w' => BadE w' B g l z e NmF ∧ Fr (One g) w w' := by
  have F1 := Lib.hid (tfail_any B g l true z w h)
  obtain ⟨A, c, hR⟩ := h
  obtain ⟨c0, c1, c2, z0, z1, z2⟩ := hR.cells
  clear hR
  go_enter Tryz.func24, Tryz.ntmps24
  go_wp2_with fail
  refine F1.out.mono ?_
  rintro e w2 ⟨rfl, hT, hG⟩
  have HT2 := Lib.hid hT
  have HG := Lib.hid hG
  clear hT hG
  go_wp2
  go_ret
  exact ⟨⟨[], _, rfl, rfl, HT2.out⟩, HG.out⟩
end Go.Proofs.YtipgaafgnefmdaaGreatDoor


namespace Go.Proofs.YtipgaafgnefmdaaGreatDoor
set_option linter.unusedVariables false
set_option linter.unusedSimpArgs false
set_option maxRecDepth 100000
open Go.RowKit

def VlF (x : Cl × Int) (w : World) (v : Value) : Prop := v = .tuple #[clV x.1, .int .i64 x.2] ∧ I64b x.1.num
/-- the empty cell in the block made first, behind what was done since to the reader -/
theorem cl_after {w w1 : World} {g : Nat} (hf : Fr (One g) (w.alloc (.cells #[.bool false, .int .i64 0, .string ⟨#[]⟩] 25)) w1) (hg : g < w.heap.size) : ClB w1 w.heap.size zCl ∧ Fr (One g) w w1 :=
  ⟨(cl_new w zCl).fr hf (fun e => by have : w.heap.size = g := e; omega), ((Fr.refl (One g) w).alloc _).trans hf⟩
theorem setCl_end {S : Nat → Prop} {w w1 : World} (hf : Fr S w w1) (n : Bool) (i : Int) (t : Tx) : Fr S w (setCl w1 w.heap.size n i t) := hf.fresh (setCl_fr _ _ _ _ _) (fun k e => by have : k = w.heap.size := e; omega)
theorem TS.setCl {w : World} {B g R : Nat} {l : List Tk} {bad : Bool} {z : Int} (h : TS w B g l bad z) (hR : B ≤ R) (n : Bool) (i : Int) (t : Tx) : TS (setCl w R n i t) B g l bad z :=
  h.fresh (setCl_fr _ _ _ _ _) (fun k e => by have : k = R := e; omega)
set_option maxHeartbeats 2000000 in
theorem tvalue_any (B g : Nat) (l : List Tk) (z : Int) (w : World) (h : TS w B g l false z) :
    Calls Tryz.prog 117 #[.pointer (some ⟨g, 0, none⟩)] w fun e w' => StepE w' B g z (valK l) e VlF ∧ Fr (One g) w w' := by
  have HB := Lib.hid h.le
  have HG0 : Hid (g < w.heap.size) := Lib.hid (by have := h.lt; have := h.le; omega)
  have FL : Hid (∀ W, Fr Non w W → _) := Lib.hid fun W hf => tfail_any B g l false z W (h.non hf)
  have TK : Hid (∀ W, Fr Non w W → _) := Lib.hid fun W hf => ttake_any B g l false z W (h.non hf)
  have I1 : Hid (∀ W, Fr Non w W → _) := Lib.hid fun W hf => tis_any B g 1 trueW l false z W (h.non hf)
  have I2 : Hid (∀ W, Fr Non w W → _) := Lib.hid fun W hf => tis_any B g 1 falseW l false z W (h.non hf)
  obtain ⟨A, c, hR⟩ := h
  obtain ⟨a, rfl, t0, t1, t2, t3⟩ := hR.tok
  obtain ⟨c0, c1, c2, z0, z1, z2⟩ := hR.cells
  have hln := hR.fin.ne
  have hgl := hR.blk.lt
  have hal := World.block_lt_of_cell? _ _ t0
  have hne := (hR.ap a rfl).1
  have HIN := Lib.hid hR.fin.tkw.num
  have HE0 : Hid (valK l = if (hdT l).kind = 2 then .ok ((⟨false, (hdT l).num, []⟩, 1), tlK l)
      else if (hdT l).kind = 3 then .ok ((⟨false, 0, (hdT l).txt⟩, 3), tlK l)
      else if isK 1 trueW l = true then .ok ((⟨false, 1, []⟩, 2), tlK l)
      else if isK 1 falseW l = true then .ok ((⟨false, 0, []⟩, 2), tlK l)
      else .error (hdT l).at_) := Lib.hid rfl
  clear hR
  generalize valK l = r at *
  generalize isK 1 trueW l = b1 at *
  generalize isK 1 falseW l = b2 at *
  generalize tlK l = l' at *
  generalize hdT l = t at *
  obtain ⟨tk, tt, tn, ta⟩ := t
  dsimp only at *
  by_cases h2 : tk = 2
  · have HX : Hid (r = .ok ((⟨false, tn, []⟩, 1), l')) := Lib.hid (by rw [HE0.out, if_pos h2])
    clear HE0 FL I1 I2
    subst h2
    go_enter Tryz.func117, Tryz.ntmps117
    go_wp2_with fail
    refine (TK.out _ ((Fr.refl Non w).alloc _)).mono ?_
    rintro e w1 ⟨rfl, hT, hG⟩
    obtain ⟨eb, ef⟩ := cl_after hG HG0.out
    have HT := Lib.hid hT
    have HF := Lib.hid ef
    have HC := Lib.hid eb
    obtain ⟨e0, e1, e2, f0, f1, f2⟩ := eb.facts
    clear hT hG ef eb TK c0 c1 c2 z0 z1 z2 t0 t1 t2 t3
    have hfd := fun W => tkf_num 2 tt tn ta W
    unfold tkV tkA
    go_wp2
    exact bodyPost_ret (ret_cl2 (p := 2) (u := 3) rfl _ _ w.heap.size ⟨false, tn, []⟩ (.int .i64 1) rfl rfl (setCl_B HC.out false tn [])) rfl
      ⟨StepE.good ((⟨false, tn, []⟩ : Cl), (1 : Int)) l' HX.out _ ⟨rfl, HIN.out⟩ (HT.out.setCl HB.out _ _ _), setCl_end HF.out _ _ _⟩
  · have h2b : (tk == 2) = false := by rw [beq_eq_false_iff_ne]; exact h2
    by_cases h3 : tk = 3
    · have HX : Hid (r = .ok ((⟨false, 0, tt⟩, 3), l')) := Lib.hid (by rw [HE0.out, if_neg h2, if_pos h3])
      clear h2 h2b
      clear HE0 FL I1 I2
      subst h3
      go_enter Tryz.func117, Tryz.ntmps117
      go_wp2_with fail
      refine (TK.out _ ((Fr.refl Non w).alloc _)).mono ?_
      rintro e w1 ⟨rfl, hT, hG⟩
      obtain ⟨eb, ef⟩ := cl_after hG HG0.out
      have HT := Lib.hid hT
      have HF := Lib.hid ef
      have HC := Lib.hid eb
      obtain ⟨e0, e1, e2, f0, f1, f2⟩ := eb.facts
      clear hT hG ef eb TK c0 c1 c2 z0 z1 z2 t0 t1 t2 t3
      have hfd := fun W => tkf_txt 3 tt tn ta W
      unfold tkV tkA
      go_wp2
      exact bodyPost_ret (ret_cl2 (p := 2) (u := 3) rfl _ _ w.heap.size ⟨false, 0, tt⟩ (.int .i64 3) rfl rfl (setCl_B HC.out false 0 tt)) rfl
        ⟨StepE.good ((⟨false, 0, tt⟩ : Cl), (3 : Int)) l' HX.out _ ⟨rfl, i64b_0⟩ (HT.out.setCl HB.out _ _ _), setCl_end HF.out _ _ _⟩
    · have h3b : (tk == 3) = false := by rw [beq_eq_false_iff_ne]; exact h3
      cases b1
      · cases b2
        · have HX : Hid (r = .error ta) := Lib.hid (by rw [HE0.out, if_neg h2, if_neg h3, if_neg (by simp), if_neg (by simp)])
          clear HE0 TK h2 h3
          go_enter Tryz.func117, Tryz.ntmps117
          go_wp2_with fail
          refine (I1.out _ ((Fr.refl Non w).alloc _)).mono ?_
          rintro e w5 ⟨rfl, rfl⟩
          go_wp2_with fail
          refine (I2.out _ ((Fr.refl Non w).alloc _)).mono ?_
          rintro e w6 ⟨rfl, rfl⟩
          go_wp2_with fail
          refine (FL.out _ ((Fr.refl Non w).alloc _)).mono ?_
          rintro e w1 ⟨rfl, hT, hG⟩
          obtain ⟨eb, ef⟩ := cl_after hG HG0.out
          have HT := Lib.hid hT
          have HF := Lib.hid ef
          have HC := Lib.hid eb
          obtain ⟨e0, e1, e2, f0, f1, f2⟩ := eb.facts
          clear hT hG ef eb FL I1 I2 c0 c1 c2 z0 z1 z2 t0 t1 t2 t3
          go_wp2
          exact bodyPost_ret (ret_cl2 (p := 2) (u := 3) rfl _ _ w.heap.size ⟨false, 0, []⟩ (.int .i64 0) rfl rfl (setCl_B HC.out false 0 [])) rfl
            ⟨StepE.fail ta HX.out (⟨false, 0, []⟩, 0) _ ⟨rfl, i64b_0⟩ l (HT.out.setCl HB.out _ _ _), setCl_end HF.out _ _ _⟩
        · have HX : Hid (r = .ok ((⟨false, 0, []⟩, 2), l')) := Lib.hid (by rw [HE0.out, if_neg h2, if_neg h3, if_neg (by simp), if_pos rfl])
          clear h2 h3
          clear HE0 FL
          go_enter Tryz.func117, Tryz.ntmps117
          go_wp2_with fail
          refine (I1.out _ ((Fr.refl Non w).alloc _)).mono ?_
          rintro e w5 ⟨rfl, rfl⟩
          go_wp2_with fail
          refine (I2.out _ ((Fr.refl Non w).alloc _)).mono ?_
          rintro e w6 ⟨rfl, rfl⟩
          go_wp2_with fail
          refine (TK.out _ ((Fr.refl Non w).alloc _)).mono ?_
          rintro e w1 ⟨rfl, hT, hG⟩
          obtain ⟨eb, ef⟩ := cl_after hG HG0.out
          have HT := Lib.hid hT
          have HF := Lib.hid ef
          have HC := Lib.hid eb
          obtain ⟨e0, e1, e2, f0, f1, f2⟩ := eb.facts
          clear hT hG ef eb TK c0 c1 c2 z0 z1 z2 t0 t1 t2 t3
          unfold tkV tkA
          go_wp2
          exact bodyPost_ret (ret_cl2 (p := 2) (u := 3) rfl _ _ w.heap.size ⟨false, 0, []⟩ (.int .i64 2) rfl rfl (setCl_B HC.out false 0 [])) rfl
            ⟨StepE.good ((⟨false, 0, []⟩ : Cl), (2 : Int)) l' HX.out _ ⟨rfl, i64b_0⟩ (HT.out.setCl HB.out _ _ _), setCl_end HF.out _ _ _⟩
      · have HX : Hid (r = .ok ((⟨false, 1, []⟩, 2), l')) := Lib.hid (by rw [HE0.out, if_neg h2, if_neg h3, if_pos rfl])
        clear h2 h3
        clear HE0 FL I2
        go_enter Tryz.func117, Tryz.ntmps117
        go_wp2_with fail
        refine (I1.out _ ((Fr.refl Non w).alloc _)).mono ?_
        rintro e w5 ⟨rfl, rfl⟩
        go_wp2_with fail
        refine (TK.out _ ((Fr.refl Non w).alloc _)).mono ?_
        rintro e w1 ⟨rfl, hT, hG⟩
        obtain ⟨eb, ef⟩ := cl_after hG HG0.out
        have HT := Lib.hid hT
        have HF := Lib.hid ef
        have HC := Lib.hid eb
        obtain ⟨e0, e1, e2, f0, f1, f2⟩ := eb.facts
        clear hT hG ef eb TK c0 c1 c2 z0 z1 z2 t0 t1 t2 t3
        unfold tkV tkA
        go_wp2
        exact bodyPost_ret (ret_cl2 (p := 2) (u := 3) rfl _ _ w.heap.size ⟨false, 1, []⟩ (.int .i64 2) rfl rfl (setCl_B HC.out false 1 [])) rfl
          ⟨StepE.good ((⟨false, 1, []⟩ : Cl), (2 : Int)) l' HX.out _ ⟨rfl, i64b_1⟩ (HT.out.setCl HB.out _ _ _), setCl_end HF.out _ _ _⟩
end Go.Proofs.YtipgaafgnefmdaaGreatDoor


namespace Go.Proofs.YtipgaafgnefmdaaGreatDoor
set_option linter.unusedVariables false
set_option linter.unusedSimpArgs false
set_option maxRecDepth 100000
open Go.RowKit

theorem TS.setPd {w : World} {B g R : Nat} {l : List Tk} {bad : Bool} {z : Int} (h : TS w B g l bad z) (hR : B ≤ R) (x : Ph) (s : Kv) : TS (setPd w R x s) B g l bad z :=
  h.fresh (setPd_fr _ _ _ _) (fun k e => by have : k = R := e; omega)
end Go.Proofs.YtipgaafgnefmdaaGreatDoor


namespace Go.Proofs.YtipgaafgnefmdaaGreatDoor
set_option linter.unusedVariables false
set_option linter.unusedSimpArgs false
set_option maxRecDepth 100000
open Go.RowKit

set_option maxHeartbeats 2000000 in
theorem tasked_lost (B g : Nat) (k : Int) (w : World) (hB : B ≤ w.heap.size) (hg : g < B)
    (HN : Hid (∀ W, Fr Non w W → Calls Tryz.prog 24 #[.pointer (some ⟨g, 0, none⟩)] W fun e w' => ∃ (s : Tx) (l : List Tk), e = .returned (.string ⟨s.toArray⟩) ∧ TS w' B g l true k ∧ Fr (One g) W w')) :
    Calls Tryz.prog 101 #[.pointer (some ⟨g, 0, none⟩)] w fun e w' => ∃ s l, e = .returned (pdV ⟨0, s, 0, zCl, 0, []⟩ noKv) ∧ TS w' B g l true k ∧ Fr (One g) w w' := by
  have HB := Lib.hid hB
  have HG := Lib.hid hg
  clear hB hg
  go_enter Tryz.func101, Tryz.ntmps101
  go_wp2_with fail
  refine (HN.out _ ((Fr.refl Non w).alloc _)).mono ?_
  rintro e w1 ⟨s, l, rfl, hT, hF⟩
  have HT := Lib.hid hT
  have HF := Lib.hid hF
  clear hT hF
  have IS : Hid (∀ (y : Int) (x : Tx) W, Fr Non w1 W → Calls Tryz.prog 25 #[.pointer (some ⟨g, 0, none⟩), .int .i64 y, .string ⟨x.toArray⟩] W fun e w' => e = .returned (.bool false) ∧ W = w') := Lib.hid fun y x W hf => tis_any B g y x l true k W (HT.out.non hf)
  go_wp2_with fail
  refine (IS.out 1 isW _ ((Fr.refl Non w1).alloc _)).mono ?_
  rintro e w2 ⟨rfl, rfl⟩
  go_wp2_with fail
  refine (IS.out 1 likeW _ ((Fr.refl Non w1).alloc _)).mono ?_
  rintro e w2 ⟨rfl, rfl⟩
  go_wp2
  have HP : Hid (PdB ((w1.alloc (.cells (pdC ⟨0, s, 0, zCl, 0, []⟩ noKv) 28)).alloc (.cells sgA 9)) w1.heap.size ⟨0, s, 0, zCl, 0, []⟩ noKv) := Lib.hid ((pd_new w1 _ _ _ rfl).fr ((Fr.refl Non _).alloc _) (fun e => e))
  have HS : Hid (Blk ((w1.alloc (.cells (pdC ⟨0, s, 0, zCl, 0, []⟩ noKv) 28)).alloc (.cells sgA 9)) (w1.heap.size + 1) 9 sgA) := Lib.hid (by
    have h := Blk.new (w1.alloc (.cells (pdC ⟨0, s, 0, zCl, 0, []⟩ noKv) 28)) 9 sgA
    rw [show (w1.alloc (.cells (pdC ⟨0, s, 0, zCl, 0, []⟩ noKv) 28)).heap.size = w1.heap.size + 1 by simp] at h
    exact h)
  have F3 : Hid (Fr Non w1 ((w1.alloc (.cells (pdC ⟨0, s, 0, zCl, 0, []⟩ noKv) 28)).alloc (.cells sgA 9))) := Lib.hid (((Fr.refl Non w1).alloc _).alloc _)
  unfold pdC sgA noKv kidV zCl at HP HS F3
  dsimp only at HP HS F3
  generalize hW : ((w1.alloc _).alloc _) = W3 at *
  clear hW
  have HP2 := pdB_cells HP.out
  obtain ⟨p0, p1, p2, p3, p4, p5, p6, p7, p8⟩ := HP2
  have s0 := HS.out.cell 0
  have s1 := HS.out.cell 1
  have s2 := HS.out.cell 2
  have s3 := HS.out.cell 3
  have s4 := HS.out.cell 4
  have s5 := HS.out.cell 5
  simp at s0 s1 s2 s3 s4 s5
  dsimp only at p0 p1 p2 p3 p4 p5 p6 p7 p8
  go_loop [5] (fun i => ∃ n : Nat, n ≤ 6 ∧ i = .int .i64 n) (fun i => 6 - (intOf i).toNat)
  case atStart => exact ⟨0, by omega, rfl⟩
  case round =>
    obtain ⟨n, hk, rfl⟩ := hrel
    rcases (show n = 0 ∨ n = 1 ∨ n = 2 ∨ n = 3 ∨ n = 4 ∨ n = 5 ∨ n = 6 by omega) with rfl | rfl | rfl | rfl | rfl | rfl | rfl
    · go_wp2_with fail
      refine (IS.out 4 [61] W3 F3.out).mono ?_
      rintro e w2 ⟨rfl, rfl⟩
      go_wp2
      go_round
      case rel => exact ⟨1, by omega, by go_num⟩
      case measure => simp [intOf] <;> omega
    · go_wp2_with fail
      refine (IS.out 4 [60, 62] W3 F3.out).mono ?_
      rintro e w2 ⟨rfl, rfl⟩
      go_wp2
      go_round
      case rel => exact ⟨2, by omega, by go_num⟩
      case measure => simp [intOf] <;> omega
    · go_wp2_with fail
      refine (IS.out 4 [60] W3 F3.out).mono ?_
      rintro e w2 ⟨rfl, rfl⟩
      go_wp2
      go_round
      case rel => exact ⟨3, by omega, by go_num⟩
      case measure => simp [intOf] <;> omega
    · go_wp2_with fail
      refine (IS.out 4 [60, 61] W3 F3.out).mono ?_
      rintro e w2 ⟨rfl, rfl⟩
      go_wp2
      go_round
      case rel => exact ⟨4, by omega, by go_num⟩
      case measure => simp [intOf] <;> omega
    · go_wp2_with fail
      refine (IS.out 4 [62] W3 F3.out).mono ?_
      rintro e w2 ⟨rfl, rfl⟩
      go_wp2
      go_round
      case rel => exact ⟨5, by omega, by go_num⟩
      case measure => simp [intOf] <;> omega
    · go_wp2_with fail
      refine (IS.out 4 [62, 61] W3 F3.out).mono ?_
      rintro e w2 ⟨rfl, rfl⟩
      go_wp2
      go_round
      case rel => exact ⟨6, by omega, by go_num⟩
      case measure => simp [intOf] <;> omega
    · go_wp2_with fail
      have FL := Lib.hid (tfail_any B g l true k W3 (HT.out.non F3.out))
      refine FL.out.mono ?_
      rintro e w4 ⟨rfl, hT, hG⟩
      have HZ : Hid (PdB w4 w.heap.size ⟨0, [], 0, zCl, 0, []⟩ noKv) := Lib.hid (((pd_new w _ ⟨0, [], 0, zCl, 0, []⟩ noKv rfl).fr HF.out (fun e => by have : w.heap.size = g := e; have := HB.out; have := HG.out; omega)).fr (F3.out.any.trans hG) (fun e => by have : w.heap.size = g := e; have := HB.out; have := HG.out; omega))
      have HP4 : Hid (PdB w4 w1.heap.size ⟨0, s, 0, zCl, 0, []⟩ noKv) := Lib.hid (HP.out.fr hG (fun e => by have : w1.heap.size = g := e; have := HT.out.le; have := HG.out; omega))
      have HF4 : Hid (Fr (One g) w w4) := Lib.hid ((((Fr.refl (One g) w).alloc _).trans HF.out).trans (F3.out.any.trans hG))
      have HT4 := Lib.hid hT
      clear hT hG p0 p1 p2 p3 p4 p5 p6 p7 p8 s0 s1 s2 s3 s4 s5
      obtain ⟨p0, p1, p2, p3, p4, p5, p6, p7, p8⟩ := pdB_cells HP4.out
      obtain ⟨r0, r1, r2, r3, r4, r5, r6, r7, r8⟩ := pdB_cells HZ.out
      obtain ⟨f0, f1, f2, f3, f4, f5, f6, f7, f8⟩ := pdB_frozen HZ.out
      dsimp only [noKv, zCl] at p0 p1 p2 p3 p4 p5 p6 p7 p8 r0 r1 r2 r3 r4 r5 r6 r7 r8
      have E5 := setPd_B HZ.out ⟨0, s, 0, zCl, 0, []⟩ noKv
      have T5 := HT4.out.setPd HB.out ⟨0, s, 0, zCl, 0, []⟩ noKv
      have G5 := setPd_end HF4.out ⟨0, s, 0, zCl, 0, []⟩ noKv
      unfold setPd kidV noKv zCl at E5 T5 G5
      dsimp only at E5 T5 G5
      replace E5 := Lib.hid E5
      replace T5 := Lib.hid T5
      replace G5 := Lib.hid G5
      clear HZ HT4 HF4 HP4 HP HS IS FL HT HF F3 HN
      go_wp2
      exact bodyPost_ret (v := pdV ⟨0, s, 0, ⟨false, 0, []⟩, 0, []⟩ ⟨none, 0, 0⟩) (ret_pd (p := 2) rfl _ _ w.heap.size ⟨0, s, 0, ⟨false, 0, []⟩, 0, []⟩ ⟨none, 0, 0⟩ rfl E5.out) rfl ⟨s, l, rfl, T5.out, G5.out⟩
end Go.Proofs.YtipgaafgnefmdaaGreatDoor


namespace Go.Proofs.YtipgaafgnefmdaaGreatDoor
set_option linter.unusedVariables false
set_option linter.unusedSimpArgs false
set_option maxRecDepth 100000
open Go.RowKit

/-- a predicate with nothing within -/
def LfF (p : Pd) (w : World) (v : Value) : Prop := v = pdV p.hd noKv ∧ p.kids = [] ∧ I64b p.hd.val.num
set_option maxHeartbeats 2000000 in
theorem tasked_is (B g : Nat) (l : List Tk) (z : Int) (w : World) (h : TS w B g l false z) (c : Tx) (r : List Tk) (hn : nameK l = .ok (c, r)) (hi : isK 1 isW r = true) :
    Calls Tryz.prog 101 #[.pointer (some ⟨g, 0, none⟩)] w fun e w' => StepE w' B g z (askedK l) e LfF ∧ Fr (One g) w w' := by
  have HB := Lib.hid h.le
  have HG := Lib.hid h.lt
  have HN : Hid (∀ W, Fr Non w W → Calls Tryz.prog 24 #[.pointer (some ⟨g, 0, none⟩)] W fun e w' => e = .returned (.string ⟨c.toArray⟩) ∧ TS w' B g r false z ∧ Fr (One g) W w') := Lib.hid fun W hf => (tname_any B g l z W (h.non hf)).mono fun e w' he => by
    obtain ⟨⟨a, v, e1, e2, e3⟩, e4⟩ := he
    rw [hn] at e3
    obtain ⟨rfl, e5⟩ := e3
    exact ⟨by rw [e1, e2], e5, e4⟩
  have HE0 : Hid (askedK l = (match mustK 1 nullW (tlK r) with | .error e => .error e | .ok r2 => .ok (.mk ⟨3, c, 0, zCl, 0, []⟩ [], r2))) := Lib.hid (by unfold askedK; rw [hn]; dsimp only; rw [if_pos hi]; cases mustK 1 nullW (tlK r) <;> rfl)
  generalize askedK l = q at *
  clear h hn
  go_enter Tryz.func101, Tryz.ntmps101
  go_wp2_with fail
  refine (HN.out _ ((Fr.refl Non w).alloc _)).mono ?_
  rintro e w1 ⟨rfl, hT, hF⟩
  have HT := Lib.hid hT
  have HF := Lib.hid hF
  have IS : Hid (∀ W, Fr Non w1 W → Calls Tryz.prog 25 #[.pointer (some ⟨g, 0, none⟩), .int .i64 1, .string ⟨isW.toArray⟩] W fun e w' => e = .returned (.bool true) ∧ W = w') := Lib.hid fun W hf => (tis_any B g 1 isW r false z W (HT.out.non hf)).mono fun e w' he => by rw [hi] at he; exact he
  clear hT hF
  go_wp2_with fail
  have HP : Hid (PdB (w1.alloc (.cells (pdC ⟨0, c, 0, zCl, 0, []⟩ noKv) 28)) w1.heap.size ⟨0, c, 0, zCl, 0, []⟩ noKv) := Lib.hid (pd_new w1 _ _ _ rfl)
  have F3 : Hid (Fr Non w1 (w1.alloc (.cells (pdC ⟨0, c, 0, zCl, 0, []⟩ noKv) 28))) := Lib.hid ((Fr.refl Non w1).alloc _)
  unfold pdC noKv kidV zCl at HP F3
  dsimp only at HP F3
  generalize hW : w1.alloc _ = W3 at *
  clear hW
  refine (IS.out W3 F3.out).mono ?_
  rintro e w2 ⟨rfl, rfl⟩
  go_wp2_with fail
  refine (ttake_any B g r false z W3 (HT.out.non F3.out)).mono ?_
  rintro e w4 ⟨rfl, hT, hG⟩
  have HT4 := Lib.hid hT
  have HG4 := Lib.hid hG
  clear hT hG
  go_wp2_with fail
  refine (tmust_any B g 1 nullW (tlK r) z w4 HT4.out).mono ?_
  rintro e w5 ⟨rfl, hS, hG⟩
  have HS := Lib.hid hS
  have HZ : Hid (PdB w5 w.heap.size ⟨0, [], 0, zCl, 0, []⟩ noKv) := Lib.hid ((((pd_new w _ ⟨0, [], 0, zCl, 0, []⟩ noKv rfl).fr HF.out (fun e => by have : w.heap.size = g := e; have := HB.out; have := HG.out; omega)).fr (F3.out.any.trans HG4.out) (fun e => by have : w.heap.size = g := e; have := HB.out; have := HG.out; omega)).fr hG (fun e => by have : w.heap.size = g := e; have := HB.out; have := HG.out; omega))
  have HP4 : Hid (PdB w5 w1.heap.size ⟨0, c, 0, zCl, 0, []⟩ noKv) := Lib.hid (HP.out.fr (HG4.out.trans hG) (fun e => by have : w1.heap.size = g := e; have := HT.out.le; have := HG.out; omega))
  have HF4 : Hid (Fr (One g) w w5) := Lib.hid (((((Fr.refl (One g) w).alloc _).trans HF.out).trans (F3.out.any.trans HG4.out)).trans hG)
  clear hS hG
  have E6 : Hid (Fr Non w w) := Lib.hid (Fr.refl _ _)
  have hsz : w.heap.size < w1.heap.size := Nat.lt_of_lt_of_le (by simp) HF.out.size
  have hne2 : w.heap.size ≠ w1.heap.size := by omega
  have hne3 : w1.heap.size ≠ w.heap.size := by omega
  obtain ⟨p0, p1, p2, p3, p4, p5, p6, p7, p8⟩ := pdB_cells HP4.out
  obtain ⟨q0, q1, q2, q3, q4, q5, q6, q7, q8⟩ := pdB_frozen HP4.out
  obtain ⟨r0, r1, r2, r3, r4, r5, r6, r7, r8⟩ := pdB_cells HZ.out
  obtain ⟨f0, f1, f2, f3, f4, f5, f6, f7, f8⟩ := pdB_frozen HZ.out
  dsimp only [noKv, zCl] at p0 p1 p2 p3 p4 p5 p6 p7 p8 r0 r1 r2 r3 r4 r5 r6 r7 r8
  have FS : Fr (One g) w (w5.setCell ⟨w1.heap.size, 0, none⟩ (.int .i64 3)) := HF4.out.fresh ((Fr.refl (One w1.heap.size) w5).set1 0 _) (fun k e => by have : k = w1.heap.size := e; omega)
  have E5 := setPd_B (HZ.out.fr ((Fr.refl (One w1.heap.size) w5).set1 0 (.int .i64 3)) (fun e => hne2 e)) ⟨3, c, 0, zCl, 0, []⟩ noKv
  have G5 := setPd_end FS ⟨3, c, 0, zCl, 0, []⟩ noKv
  have T5 : ∀ l' bad z', TS w5 B g l' bad z' → TS (setPd (w5.setCell ⟨w1.heap.size, 0, none⟩ (.int .i64 3)) w.heap.size ⟨3, c, 0, zCl, 0, []⟩ noKv) B g l' bad z' := fun l' bad z' ht =>
    (ht.fresh ((Fr.refl (One w1.heap.size) w5).set1 0 (.int .i64 3)) (fun k e => by have : k = w1.heap.size := e; have := HB.out; omega)).setPd HB.out _ _
  unfold setPd kidV noKv zCl at E5 T5 G5
  dsimp only at E5 T5 G5
  replace E5 := Lib.hid E5
  replace T5 := Lib.hid T5
  replace G5 := Lib.hid G5
  clear HZ HT4 HF4 HP4 HP IS HT HF F3 HN FS
  go_wp2
  refine bodyPost_ret (v := pdV ⟨3, c, 0, ⟨false, 0, []⟩, 0, []⟩ ⟨none, 0, 0⟩) (ret_pd (p := 2) rfl _ _ w.heap.size ⟨3, c, 0, ⟨false, 0, []⟩, 0, []⟩ ⟨none, 0, 0⟩ rfl E5.out) rfl ⟨?_, G5.out⟩
  have hs := HS.out
  cases hm : mustK 1 nullW (tlK r) with
  | error k =>
    rw [hm] at hs
    obtain ⟨l2, hl2⟩ := hs
    exact StepE.fail k (by rw [HE0.out, hm]) (.mk ⟨3, c, 0, zCl, 0, []⟩ []) _ (by exact ⟨rfl, rfl, i64b_0⟩) l2 (T5.out _ _ _ hl2)
  | ok r2 =>
    rw [hm] at hs
    exact StepE.good (.mk ⟨3, c, 0, zCl, 0, []⟩ []) r2 (by rw [HE0.out, hm]) _ (by exact ⟨rfl, rfl, i64b_0⟩) (T5.out _ _ _ hs)
end Go.Proofs.YtipgaafgnefmdaaGreatDoor


namespace Go.Proofs.YtipgaafgnefmdaaGreatDoor
set_option linter.unusedVariables false
set_option linter.unusedSimpArgs false
set_option maxRecDepth 100000
open Go.RowKit

set_option maxHeartbeats 2000000 in
theorem tasked_like (B g : Nat) (l : List Tk) (z : Int) (w : World) (h : TS w B g l false z) (c : Tx) (r : List Tk) (hn : nameK l = .ok (c, r)) (h0 : isK 1 isW r = false) (hi : isK 1 likeW r = true) :
    Calls Tryz.prog 101 #[.pointer (some ⟨g, 0, none⟩)] w fun e w' => StepE w' B g z (askedK l) e LfF ∧ Fr (One g) w w' := by
  have HB := Lib.hid h.le
  have HG := Lib.hid h.lt
  have HN : Hid (∀ W, Fr Non w W → Calls Tryz.prog 24 #[.pointer (some ⟨g, 0, none⟩)] W fun e w' => e = .returned (.string ⟨c.toArray⟩) ∧ TS w' B g r false z ∧ Fr (One g) W w') := Lib.hid fun W hf => (tname_any B g l z W (h.non hf)).mono fun e w' he => by
    obtain ⟨⟨a, v, e1, e2, e3⟩, e4⟩ := he
    rw [hn] at e3
    obtain ⟨rfl, e5⟩ := e3
    exact ⟨by rw [e1, e2], e5, e4⟩
  have HE0 : Hid (askedK l = if (hdT (tlK r)).kind = 3 then .ok (.mk ⟨4, c, 0, zCl, 0, (hdT (tlK r)).txt⟩ [], tlK (tlK r)) else .error (hdT (tlK r)).at_) := Lib.hid (by unfold askedK; rw [hn]; dsimp only; rw [if_neg (by rw [h0]; simp), if_pos hi]; rfl)
  generalize askedK l = q at *
  clear h hn
  go_enter Tryz.func101, Tryz.ntmps101
  go_wp2_with fail
  refine (HN.out _ ((Fr.refl Non w).alloc _)).mono ?_
  rintro e w1 ⟨rfl, hT, hF⟩
  have HT := Lib.hid hT
  have HF := Lib.hid hF
  have IS : Hid (∀ W, Fr Non w1 W → Calls Tryz.prog 25 #[.pointer (some ⟨g, 0, none⟩), .int .i64 1, .string ⟨isW.toArray⟩] W fun e w' => e = .returned (.bool false) ∧ W = w') := Lib.hid fun W hf => (tis_any B g 1 isW r false z W (HT.out.non hf)).mono fun e w' he => by rw [h0] at he; exact he
  have IL : Hid (∀ W, Fr Non w1 W → Calls Tryz.prog 25 #[.pointer (some ⟨g, 0, none⟩), .int .i64 1, .string ⟨likeW.toArray⟩] W fun e w' => e = .returned (.bool true) ∧ W = w') := Lib.hid fun W hf => (tis_any B g 1 likeW r false z W (HT.out.non hf)).mono fun e w' he => by rw [hi] at he; exact he
  clear hT hF h0 hi
  go_wp2_with fail
  have HP : Hid (PdB (w1.alloc (.cells (pdC ⟨0, c, 0, zCl, 0, []⟩ noKv) 28)) w1.heap.size ⟨0, c, 0, zCl, 0, []⟩ noKv) := Lib.hid (pd_new w1 _ _ _ rfl)
  have F3 : Hid (Fr Non w1 (w1.alloc (.cells (pdC ⟨0, c, 0, zCl, 0, []⟩ noKv) 28))) := Lib.hid ((Fr.refl Non w1).alloc _)
  unfold pdC noKv kidV zCl at HP F3
  dsimp only at HP F3
  generalize hW : w1.alloc _ = W3 at *
  clear hW
  refine (IS.out W3 F3.out).mono ?_
  rintro e w2 ⟨rfl, rfl⟩
  go_wp2_with fail
  refine (IL.out W3 F3.out).mono ?_
  rintro e w2 ⟨rfl, rfl⟩
  go_wp2_with fail
  refine (ttake_any B g r false z W3 (HT.out.non F3.out)).mono ?_
  rintro e w4 ⟨rfl, hT, hG⟩
  have HG4 := Lib.hid hG
  have HT4 := Lib.hid hT
  have HB1 := Lib.hid HT.out.le
  have hsz : w.heap.size < w1.heap.size := Nat.lt_of_lt_of_le (by simp) HF.out.size
  have hne2 : w.heap.size ≠ w1.heap.size := by omega
  have hne3 : w1.heap.size ≠ w.heap.size := by omega
  have HZ4 : Hid (PdB w4 w.heap.size ⟨0, [], 0, zCl, 0, []⟩ noKv) := Lib.hid (((pd_new w _ ⟨0, [], 0, zCl, 0, []⟩ noKv rfl).fr HF.out (fun e => by have : w.heap.size = g := e; have := HB.out; have := HG.out; omega)).fr (F3.out.any.trans hG) (fun e => by have : w.heap.size = g := e; have := HB.out; have := HG.out; omega))
  have HP4 : Hid (PdB w4 w1.heap.size ⟨0, c, 0, zCl, 0, []⟩ noKv) := Lib.hid (HP.out.fr hG (fun e => by have : w1.heap.size = g := e; have := HB1.out; have := HG.out; omega))
  have HF4 : Hid (Fr (One g) w w4) := Lib.hid ((((Fr.refl (One g) w).alloc _).trans HF.out).trans (F3.out.any.trans hG))
  clear hG IS IL HT HF F3 HP HN
  obtain ⟨A, c', hR⟩ := hT
  obtain ⟨a, rfl, t0, t1, t2, t3⟩ := hR.tok
  obtain ⟨c0, c1, c2, z0, z1, z2⟩ := hR.cells
  have hln := hR.fin.ne
  clear hR
  have FL : Hid (∀ W, Fr Non w4 W → _) := Lib.hid fun W hf => tfail_any B g (tlK r) false z W (HT4.out.non hf)
  have TK : Hid (∀ W, TS W B g (tlK r) false z → _) := Lib.hid fun W hf => ttake_any B g (tlK r) false z W hf
  generalize tlK r = r1 at *
  generalize tlK r1 = r2 at *
  generalize hdT r1 = t at *
  obtain ⟨tk, tt, tn, ta⟩ := t
  dsimp only at *
  by_cases h3 : tk = 3
  · have HX : Hid (q = .ok (.mk ⟨4, c, 0, zCl, 0, tt⟩ [], r2)) := Lib.hid (by rw [HE0.out, if_pos h3])
    clear HE0 FL
    subst h3
    have HP5 : Hid (PdB (w4.setCell ⟨w1.heap.size, 0, none⟩ (.int .i64 4)) w1.heap.size ⟨4, c, 0, zCl, 0, []⟩ noKv) := Lib.hid (by
      have e := HP4.out.set 0 (.int .i64 4)
      simp [pdC] at e ⊢
      exact e)
    have FS : Hid (Fr (One w1.heap.size) w4 (w4.setCell ⟨w1.heap.size, 0, none⟩ (.int .i64 4))) := Lib.hid ((Fr.refl (One w1.heap.size) w4).set1 0 _)
    have q0 := HP4.out.frozen 0
    have p0 := (pdB_cells HP4.out).1
    dsimp only at p0
    go_wp2_with fail
    refine (TK.out _ (HT4.out.fresh FS.out (fun k e => by have : k = w1.heap.size := e; have := HB1.out; omega))).mono ?_
    rintro e w5 ⟨rfl, hT, hG⟩
    have HT5 := Lib.hid hT
    have HG5 := Lib.hid hG
    clear hT hG TK t0 t1 t2 t3 c0 c1 c2 z0 z1 z2 q0 p0
    have HP6 : Hid (PdB w5 w1.heap.size ⟨4, c, 0, zCl, 0, []⟩ noKv) := Lib.hid (HP5.out.fr HG5.out (fun e => by have : w1.heap.size = g := e; have := HB1.out; have := HG.out; omega))
    have HZ6 : Hid (PdB w5 w.heap.size ⟨0, [], 0, zCl, 0, []⟩ noKv) := Lib.hid ((HZ4.out.fr FS.out (fun e => hne2 e)).fr HG5.out (fun e => by have : w.heap.size = g := e; have := HB.out; have := HG.out; omega))
    have F6 : Fr (One g) w w5 := (HF4.out.fresh FS.out (fun k e => by have : k = w1.heap.size := e; omega)).trans HG5.out
    have FS7 : Fr (One g) w (w5.setCell ⟨w1.heap.size, 7, none⟩ (.string ⟨tt.toArray⟩)) := F6.fresh ((Fr.refl (One w1.heap.size) w5).set1 7 _) (fun k e => by have : k = w1.heap.size := e; omega)
    have E5 := setPd_B (HZ6.out.fr ((Fr.refl (One w1.heap.size) w5).set1 7 (.string ⟨tt.toArray⟩)) (fun e => hne2 e)) ⟨4, c, 0, zCl, 0, tt⟩ noKv
    have G5 := setPd_end FS7 ⟨4, c, 0, zCl, 0, tt⟩ noKv
    have T5 : TS (setPd (w5.setCell ⟨w1.heap.size, 7, none⟩ (.string ⟨tt.toArray⟩)) w.heap.size ⟨4, c, 0, zCl, 0, tt⟩ noKv) B g r2 false z :=
      (HT5.out.fresh ((Fr.refl (One w1.heap.size) w5).set1 7 (.string ⟨tt.toArray⟩)) (fun k e => by have : k = w1.heap.size := e; have := HB1.out; omega)).setPd HB.out _ _
    unfold setPd kidV noKv zCl at E5 T5 G5
    dsimp only at E5 T5 G5
    obtain ⟨p0, p1, p2, p3, p4, p5, p6, p7, p8⟩ := pdB_cells HP6.out
    obtain ⟨q0, q1, q2, q3, q4, q5, q6, q7, q8⟩ := pdB_frozen HP6.out
    obtain ⟨r0, r1, r2', r3, r4, r5, r6, r7, r8⟩ := pdB_cells HZ6.out
    obtain ⟨f0, f1, f2, f3, f4, f5, f6, f7, f8⟩ := pdB_frozen HZ6.out
    dsimp only [noKv, zCl] at p0 p1 p2 p3 p4 p5 p6 p7 p8 r0 r1 r2' r3 r4 r5 r6 r7 r8
    replace E5 := Lib.hid E5
    replace T5 := Lib.hid T5
    replace G5 := Lib.hid G5
    clear HP4 HP5 HP6 HZ4 HZ6 HF4 HT4 HT5 HG4 HG5 FS FS7 F6
    have hfd := fun W => tkf_txt 3 tt tn ta W
    unfold tkV tkA
    go_wp2
    exact bodyPost_ret (v := pdV ⟨4, c, 0, ⟨false, 0, []⟩, 0, tt⟩ ⟨none, 0, 0⟩) (ret_pd (p := 2) rfl _ _ w.heap.size ⟨4, c, 0, ⟨false, 0, []⟩, 0, tt⟩ ⟨none, 0, 0⟩ rfl E5.out) rfl
      ⟨StepE.good (.mk ⟨4, c, 0, zCl, 0, tt⟩ []) r2 HX.out _ (by exact ⟨rfl, rfl, i64b_0⟩) T5.out, G5.out⟩
  · have h3b : (tk != 3) = true := by rw [bne_iff_ne]; exact h3
    have HX : Hid (q = .error ta) := Lib.hid (by rw [HE0.out, if_neg h3])
    clear HE0 TK h3
    go_wp2_with fail
    refine (FL.out w4 (Fr.refl _ _)).mono ?_
    rintro e w5 ⟨rfl, hT, hG⟩
    have HP6 : Hid (PdB w5 w1.heap.size ⟨0, c, 0, zCl, 0, []⟩ noKv) := Lib.hid (HP4.out.fr hG (fun e => by have : w1.heap.size = g := e; have := HB1.out; have := HG.out; omega))
    have HZ6 : Hid (PdB w5 w.heap.size ⟨0, [], 0, zCl, 0, []⟩ noKv) := Lib.hid (HZ4.out.fr hG (fun e => by have : w.heap.size = g := e; have := HB.out; have := HG.out; omega))
    have E5 := setPd_B HZ6.out ⟨0, c, 0, zCl, 0, []⟩ noKv
    have G5 := setPd_end (HF4.out.trans hG) ⟨0, c, 0, zCl, 0, []⟩ noKv
    have T5 := hT.setPd HB.out ⟨0, c, 0, zCl, 0, []⟩ noKv
    unfold setPd kidV noKv zCl at E5 T5 G5
    dsimp only at E5 T5 G5
    obtain ⟨p0, p1, p2, p3, p4, p5, p6, p7, p8⟩ := pdB_cells HP6.out
    obtain ⟨r0, r1, r2', r3, r4, r5, r6, r7, r8⟩ := pdB_cells HZ6.out
    obtain ⟨f0, f1, f2, f3, f4, f5, f6, f7, f8⟩ := pdB_frozen HZ6.out
    dsimp only [noKv, zCl] at p0 p1 p2 p3 p4 p5 p6 p7 p8 r0 r1 r2' r3 r4 r5 r6 r7 r8
    replace E5 := Lib.hid E5
    replace T5 := Lib.hid T5
    replace G5 := Lib.hid G5
    clear HP4 HP6 HZ4 HZ6 HF4 HT4 HG4 FL hT hG t0 t1 t2 t3 c0 c1 c2 z0 z1 z2
    go_wp2
    exact bodyPost_ret (v := pdV ⟨0, c, 0, ⟨false, 0, []⟩, 0, []⟩ ⟨none, 0, 0⟩) (ret_pd (p := 2) rfl _ _ w.heap.size ⟨0, c, 0, ⟨false, 0, []⟩, 0, []⟩ ⟨none, 0, 0⟩ rfl E5.out) rfl
      ⟨StepE.fail ta HX.out (.mk ⟨0, c, 0, zCl, 0, []⟩ []) _ (by exact ⟨rfl, rfl, i64b_0⟩) _ T5.out, G5.out⟩
end Go.Proofs.YtipgaafgnefmdaaGreatDoor


namespace Go.Proofs.YtipgaafgnefmdaaGreatDoor
set_option linter.unusedVariables false
set_option linter.unusedSimpArgs false
set_option maxRecDepth 100000
open Go.RowKit

/-- the document's reader in block g stands so -/
def TX (B g : Nat) (w : World) (σ : Sg) : Prop := match σ with | .ok l => TS w B g l false 0 | .error k => ∃ l, TS w B g l true k
theorem TX.fresh {B g : Nat} {σ : Sg} {S : Nat → Prop} {w w' : World} (h : TX B g w σ) (hf : Fr S w w') (hs : ∀ k, S k → B ≤ k) : TX B g w' σ := by
  cases σ with
  | ok l => exact TS.fresh h hf hs
  | error k => obtain ⟨l, hl⟩ := h; exact ⟨l, hl.fresh hf hs⟩
theorem TX.non {B g : Nat} {σ : Sg} {w w' : World} (h : TX B g w σ) (hf : Fr Non w w') : TX B g w' σ := h.fresh hf fun _ e => e.elim
theorem TX.lt {B g : Nat} {σ : Sg} {w : World} (h : TX B g w σ) : g < B ∧ B ≤ w.heap.size := by
  cases σ with
  | ok l => exact ⟨TS.lt h, TS.le h⟩
  | error k => obtain ⟨l, hl⟩ := h; exact ⟨hl.lt, hl.le⟩
theorem TX.fin {B g : Nat} {w : World} {l : List Tk} (h : TX B g w (.ok l)) : EndL l := TS.fin h
theorem StepE.x {α : Type} {w : World} {B g : Nat} {x : Rd α} {e : Ending} {F : α → World → Value → Prop} (h : StepE w B g 0 x e F) : EndX (TX B g) x F e w := by
  obtain ⟨a, v, e1, e2, e3⟩ := h
  cases x with
  | ok p => obtain ⟨b, r⟩ := p; obtain ⟨rfl, ht⟩ := e3; exact ⟨a, v, e1, e2, ht, fun b r e => by cases e; rfl⟩
  | error k => exact ⟨a, v, e1, e2, e3, fun b r e => by cases e⟩
theorem BadE.x {α : Type} {w : World} {B g : Nat} {l : List Tk} {k : Int} {e : Ending} {F : α → World → Value → Prop} (h : BadE w B g l k e F) : EndX (TX B g) (.error k : Rd α) F e w := by
  obtain ⟨a, v, e1, e2, e3⟩ := h
  exact ⟨a, v, e1, e2, ⟨l, e3⟩, fun b r e => by cases e⟩
theorem xis_any (B g : Nat) (k : Int) (s : Tx) (σ : Sg) (w : World) (h : TX B g w σ) :
    Calls Tryz.prog 25 #[.pointer (some ⟨g, 0, none⟩), .int .i64 k, .string ⟨s.toArray⟩] w fun e w' => e = .returned (.bool (isX k s σ)) ∧ w = w' := by
  cases σ with
  | ok l => exact (tis_any B g k s l false 0 w h).mono fun e w' he => he
  | error z => obtain ⟨l, hl⟩ := h; exact (tis_any B g k s l true z w hl).mono fun e w' he => he
theorem xmust_any (B g : Nat) (k : Int) (s : Tx) (σ : Sg) (w : World) (h : TX B g w σ) :
    Calls Tryz.prog 22 #[.pointer (some ⟨g, 0, none⟩), .int .i64 k, .string ⟨s.toArray⟩] w fun e w' => e = .returned (.tuple #[]) ∧ TX B g w' (onM σ (mustK k s)) ∧ Fr (One g) w w' := by
  cases σ with
  | ok l => exact (tmust_any B g k s l 0 w h).mono fun e w' he => ⟨he.1, by
      have h2 := he.2.1
      unfold onM StepK at *
      dsimp only at *
      cases hm : mustK k s l with
      | ok r => rw [hm] at h2; exact h2
      | error z => rw [hm] at h2; exact h2, he.2.2⟩
  | error z => obtain ⟨l, hl⟩ := h; exact (tmust_bad B g k s l z w hl).mono fun e w' he => ⟨he.1, ⟨l, he.2.1⟩, he.2.2⟩
theorem xname_any (B g : Nat) (σ : Sg) (w : World) (h : TX B g w σ) :
    Calls Tryz.prog 24 #[.pointer (some ⟨g, 0, none⟩)] w fun e w' => EndX (TX B g) (onS σ nameK) NmF e w' ∧ Fr (One g) w w' := by
  cases σ with
  | ok l => exact (tname_any B g l 0 w h).mono fun e w' he => ⟨he.1.x, he.2⟩
  | error z => obtain ⟨l, hl⟩ := h; exact (tname_bad B g l z w hl).mono fun e w' he => ⟨he.1.x, he.2⟩
theorem xnamed_any (B g : Nat) (σ : Sg) (w : World) (h : TX B g w σ) :
    Calls Tryz.prog 55 #[.pointer (some ⟨g, 0, none⟩)] w fun e w' => e = .returned (.bool (namedX σ)) ∧ TX B g w' σ ∧ Fr Non w w' := by
  cases σ with
  | ok l => exact (tnamed_any B g l false 0 w h).mono fun e w' he => he
  | error z => obtain ⟨l, hl⟩ := h; exact (tnamed_any B g l true z w hl).mono fun e w' he => ⟨he.1, ⟨l, he.2.1⟩, he.2.2⟩
/-- the next token taken, where one may be -/
theorem xtake_any (B g : Nat) (l : List Tk) (w : World) (h : TX B g w (.ok l)) :
    Calls Tryz.prog 26 #[.pointer (some ⟨g, 0, none⟩)] w fun e w' => (∃ v, e = .returned v) ∧ TX B g w' (.ok (tlK l)) ∧ Fr (One g) w w' :=
  (ttake_any B g l false 0 w h).mono fun e w' he => ⟨⟨_, he.1⟩, he.2.1, he.2.2⟩
theorem xfail_any (B g : Nat) (σ : Sg) (w : World) (h : TX B g w σ) :
    Calls Tryz.prog 54 #[.pointer (some ⟨g, 0, none⟩)] w fun e w' => e = .returned (.tuple #[]) ∧ TX B g w' (onM σ errK) ∧ Fr (One g) w w' := by
  cases σ with
  | ok l => exact (tfail_any B g l false 0 w h).mono fun e w' he => ⟨he.1, ⟨l, he.2.1⟩, he.2.2⟩
  | error z => obtain ⟨l, hl⟩ := h; exact (tfail_any B g l true z w hl).mono fun e w' he => ⟨he.1, ⟨l, he.2.1⟩, he.2.2⟩
theorem LfF.pd {p : Pd} {w : World} {v : Value} (B : Nat) (h : LfF p w v) : PdF B p w v := by
  obtain ⟨e, hk, hb⟩ := h
  exact ⟨noKv, e, by rw [hk]; exact KdS.nil_ _ _, hb⟩
end Go.Proofs.YtipgaafgnefmdaaGreatDoor


namespace Go.Proofs.YtipgaafgnefmdaaGreatDoor
set_option linter.unusedVariables false
set_option linter.unusedSimpArgs false
set_option maxRecDepth 100000
open Go.RowKit

def sgnL : List Tx := [[61], [60, 62], [60], [60, 61], [62], [62, 61]]
/-- which sign is next -/
def sgJ (r : List Tk) : Nat := if (hdT r).kind = 4 then (signK (hdT r).txt).toNat else 0
theorem sgJ_at (r : List Tk) (n : Nat) (h : n < sgnL.length) : isK 4 sgnL[n] r = decide (sgJ r = n + 1) := by
  have h6 : n < 6 := h
  unfold isK sgJ
  by_cases hk : (hdT r).kind = 4
  · simp only [hk, decide_true, Bool.true_and, if_true]
    generalize (hdT r).txt = t
    have : n = 0 ∨ n = 1 ∨ n = 2 ∨ n = 3 ∨ n = 4 ∨ n = 5 := by omega
    unfold signK
    by_cases t1 : t = [61]
    · subst t1; rcases this with rfl | rfl | rfl | rfl | rfl | rfl <;> rfl
    · by_cases t2 : t = [60, 62]
      · subst t2; rcases this with rfl | rfl | rfl | rfl | rfl | rfl <;> rfl
      · by_cases t3 : t = [60]
        · subst t3; rcases this with rfl | rfl | rfl | rfl | rfl | rfl <;> rfl
        · by_cases t4 : t = [60, 61]
          · subst t4; rcases this with rfl | rfl | rfl | rfl | rfl | rfl <;> rfl
          · by_cases t5 : t = [62]
            · subst t5; rcases this with rfl | rfl | rfl | rfl | rfl | rfl <;> rfl
            · by_cases t6 : t = [62, 61]
              · subst t6; rcases this with rfl | rfl | rfl | rfl | rfl | rfl <;> rfl
              · rcases this with rfl | rfl | rfl | rfl | rfl | rfl <;> simp [sgnL, t1, t2, t3, t4, t5, t6]
  · simp [hk]
theorem sgJ_le (r : List Tk) : sgJ r ≤ 6 := by
  unfold sgJ signK
  repeat' split
  all_goals decide
theorem asked_no {l r : List Tk} {c : Tx} (hn : nameK l = .ok (c, r)) (h0 : isK 1 isW r = false) (h1 : isK 1 likeW r = false) (hj : sgJ r = 0) : askedK l = errK r := by
  unfold askedK
  rw [hn]
  dsimp only
  rw [if_neg (by simp [h0]), if_neg (by simp [h1]), if_neg]
  rintro ⟨hk, hs⟩
  unfold sgJ at hj
  rw [if_pos hk] at hj
  revert hs hj
  unfold signK
  repeat' split
  all_goals simp
theorem asked_sg {l r : List Tk} {c : Tx} (hn : nameK l = .ok (c, r)) (h0 : isK 1 isW r = false) (h1 : isK 1 likeW r = false) (hj : sgJ r ≠ 0) : askedK l = mapR (fun (x : Cl × Int) => Pd.mk ⟨2, c, (sgJ r : Int), x.1, x.2, []⟩ []) (valK (tlK r)) := by
  unfold askedK
  rw [hn]
  dsimp only
  rw [if_neg (by simp [h0]), if_neg (by simp [h1])]
  have hk : (hdT r).kind = 4 := by
    unfold sgJ at hj
    by_cases h : (hdT r).kind = 4
    · exact h
    · rw [if_neg h] at hj; exact absurd rfl hj
  have hs : 0 ≤ signK (hdT r).txt := by unfold signK; repeat' split
                                        all_goals decide
  have he : (sgJ r : Int) = signK (hdT r).txt := by unfold sgJ; rw [if_pos hk]; omega
  rw [if_pos ⟨hk, by omega⟩, he]
  cases valK (tlK r) with
  | error z => rfl
  | ok y => rfl
theorem pd_put {w : World} {g : Nat} {h : Ph} {s : Kv} (e : PdB w g h s) (x y : Int) : PdB ((w.setCell ⟨g, 0, none⟩ (.int .i64 x)).setCell ⟨g, 2, none⟩ (.int .i64 y)) g { h with op := x, cmp := y } s := by
  have a := (e.set 0 (.int .i64 x)).set 2 (.int .i64 y)
  simp [pdC] at a ⊢
  exact a
/-- how the loop over the signs stands -/
def SgI (r : List Tk) (n : Nat) (r' : List Tk) (op cmp : Int) : Prop := ((sgJ r = 0 ∨ n < sgJ r) ∧ r' = r ∧ op = 0 ∧ cmp = 0) ∨ ((1 ≤ sgJ r ∧ sgJ r ≤ n) ∧ r' = tlK r ∧ op = 2 ∧ cmp = (sgJ r : Int))
set_option maxHeartbeats 4000000 in
theorem tasked_sign (B g : Nat) (l : List Tk) (w : World) (h : TS w B g l false 0) (c : Tx) (r : List Tk) (hn : nameK l = .ok (c, r)) (h0 : isK 1 isW r = false) (h1 : isK 1 likeW r = false) :
    Calls Tryz.prog 101 #[.pointer (some ⟨g, 0, none⟩)] w fun e w' => StepE w' B g 0 (askedK l) e LfF ∧ Fr (One g) w w' := by
  have HB := Lib.hid h.le
  have HG := Lib.hid h.lt
  have HN : Hid (∀ W, Fr Non w W → Calls Tryz.prog 24 #[.pointer (some ⟨g, 0, none⟩)] W fun e w' => e = .returned (.string ⟨c.toArray⟩) ∧ TS w' B g r false 0 ∧ Fr (One g) W w') := Lib.hid fun W hf => (tname_any B g l 0 W (h.non hf)).mono fun e w' he => by
    obtain ⟨⟨a, v, e1, e2, e3⟩, e4⟩ := he
    rw [hn] at e3
    obtain ⟨rfl, e5⟩ := e3
    exact ⟨by rw [e1, e2], e5, e4⟩
  have HE1 := Lib.hid (fun e => asked_no hn h0 h1 e)
  have HE2 := Lib.hid (fun e => asked_sg hn h0 h1 e)
  generalize askedK l = q at *
  clear h hn
  go_enter Tryz.func101, Tryz.ntmps101
  go_wp2_with fail
  refine (HN.out _ ((Fr.refl Non w).alloc _)).mono ?_
  rintro e w1 ⟨rfl, hT, hF⟩
  have HT := Lib.hid hT
  have HF := Lib.hid hF
  have IS : Hid (∀ W, Fr Non w1 W → Calls Tryz.prog 25 #[.pointer (some ⟨g, 0, none⟩), .int .i64 1, .string ⟨isW.toArray⟩] W fun e w' => e = .returned (.bool false) ∧ W = w') := Lib.hid fun W hf => (tis_any B g 1 isW r false 0 W (HT.out.non hf)).mono fun e w' he => by rw [h0] at he; exact he
  have IL : Hid (∀ W, Fr Non w1 W → Calls Tryz.prog 25 #[.pointer (some ⟨g, 0, none⟩), .int .i64 1, .string ⟨likeW.toArray⟩] W fun e w' => e = .returned (.bool false) ∧ W = w') := Lib.hid fun W hf => (tis_any B g 1 likeW r false 0 W (HT.out.non hf)).mono fun e w' he => by rw [h1] at he; exact he
  clear hT hF h0 h1
  go_wp2_with fail
  have HP : Hid (PdB (w1.alloc (.cells (pdC ⟨0, c, 0, zCl, 0, []⟩ noKv) 28)) w1.heap.size ⟨0, c, 0, zCl, 0, []⟩ noKv) := Lib.hid (pd_new w1 _ _ _ rfl)
  have F3 : Hid (Fr Non w1 (w1.alloc (.cells (pdC ⟨0, c, 0, zCl, 0, []⟩ noKv) 28))) := Lib.hid ((Fr.refl Non w1).alloc _)
  unfold pdC noKv kidV zCl at HP F3
  dsimp only at HP F3
  generalize hW : w1.alloc _ = W3 at *
  clear hW
  refine (IS.out W3 F3.out).mono ?_
  rintro e w2 ⟨rfl, rfl⟩
  go_wp2_with fail
  refine (IL.out W3 F3.out).mono ?_
  rintro e w2 ⟨rfl, rfl⟩
  go_upto_region 16 with fail
  have FS4 : Fr Non W3 (W3.alloc (.cells sgA 9)) := (Fr.refl Non W3).alloc _
  have VS4 : Hid (Vs sv (W3.alloc (.cells sgA 9)) (.slice (some ⟨W3.heap.size, 0, none⟩) 6 6) sgnL) := Lib.hid (vs_row W3 sgnL 9 (0, 0))
  have HS3 : Hid (w1.heap.size + 1 ≤ W3.heap.size) := Lib.hid HP.out.lt
  have HS1 : Hid (w.heap.size + 1 ≤ w1.heap.size) := Lib.hid (by have := HF.out.size; simpa using this)
  have HG1 := Lib.hid HT.out.le
  have HT4 := Lib.hid (HT.out.non (F3.out.trans FS4))
  have HF4 : Hid (Fr (One g) w (W3.alloc (.cells sgA 9))) := Lib.hid ((((Fr.refl (One g) w).alloc _).trans HF.out).trans (F3.out.trans FS4).any)
  have HZ4 : Hid (PdB (W3.alloc (.cells sgA 9)) w.heap.size ⟨0, [], 0, zCl, 0, []⟩ noKv) := Lib.hid (((pd_new w _ ⟨0, [], 0, zCl, 0, []⟩ noKv rfl).fr HF.out (fun e => by have : w.heap.size = g := e; have := HB.out; have := HG.out; omega)).fr (F3.out.trans FS4) (fun e => e))
  have HP4 := Lib.hid (HP.out.fr FS4 (fun e => e))
  have HSG : Hid (SgI r 0 r 0 0) := Lib.hid (.inl ⟨by omega, rfl, rfl, rfl⟩)
  unfold sgA at VS4 HT4 HF4 HZ4 HP4
  clear FS4 HT HF HP F3 HN IS IL
  generalize hsz3 : W3.heap.size = b4 at *
  generalize hW : W3.alloc _ = W4 at *
  clear hW hsz3
  go_wp2
  go_loopw [5] (fun i wr => ∃ (n : Nat) (r' : List Tk) (op cmp : Int), n ≤ 6 ∧ i = .int .i64 n ∧ Hid (TS wr B g r' false 0) ∧ Hid (PdB wr w1.heap.size ⟨op, c, cmp, zCl, 0, []⟩ noKv) ∧ Hid (SgI r n r' op cmp) ∧ Hid (Vs sv wr (.slice (some ⟨b4, 0, none⟩) 6 6) sgnL) ∧ Hid (PdB wr w.heap.size ⟨0, [], 0, zCl, 0, []⟩ noKv) ∧ Hid (Fr (One g) w wr)) (fun i _ => 6 - (intOf i).toNat)
  case atStart => exact ⟨0, r, 0, 0, by omega, rfl, HT4, HP4, HSG, VS4, HZ4, HF4⟩
  case round =>
    obtain ⟨n, r', op, cmp, hn6, rfl, HT, HP, HI, HV, HZ, HF⟩ := hrel
    clear HT4 HP4 HSG VS4 HZ4 HF4
    by_cases hlt : n < 6
    · obtain ⟨a, ha, -, -, hcell⟩ := HV.out.addr (by omega)
      obtain rfl := Option.some.inj ha
      have e0 := hcell n hlt
      rw [show (⟨b4, 0, none⟩ : Addr).add n = ⟨b4, n, none⟩ by simp [Addr.add]; exact fun e => e.symm] at e0
      have IX := Lib.hid (tis_any B g 4 (sgnL[n]'hlt) r' false 0 wr HT.out)
      have HJ : Hid (isK 4 (sgnL[n]'hlt) r = decide (sgJ r = n + 1)) := Lib.hid (sgJ_at r n hlt)
      clear hcell
      generalize (sgnL[n]'hlt) = s at *
      unfold sv at e0
      have p2 := (pdB_cells HP.out).2.2.1
      dsimp only at p2
      rcases HI.out with ⟨h1, rfl, rfl, rfl⟩ | ⟨h1, rfl, rfl, rfl⟩
      · rw [HJ.out] at IX
        by_cases hj : sgJ r' = n + 1
        · rw [decide_eq_true hj] at IX
          have TK := Lib.hid (ttake_any B g r' false 0 wr HT.out)
          have HI2 : Hid (SgI r' (n + 1) (tlK r') 2 ((n : Int) + 1)) := Lib.hid (.inr ⟨⟨by omega, by omega⟩, rfl, rfl, by omega⟩)
          clear hj h1 HI HJ
          go_wp2_with fail
          refine IX.out.mono ?_
          rintro e w2 ⟨rfl, rfl⟩
          go_wp2_with fail
          refine TK.out.mono ?_
          rintro e w5 ⟨rfl, hT, hF⟩
          have HP5 := Lib.hid (HP.out.fr hF (fun e => by have : w1.heap.size = g := e; have := HG1.out; have := HG.out; omega))
          have FS := (((Fr.refl (One w1.heap.size) w5).set1 0 (.int .i64 2)).set1 2 (.int .i64 ((n : Int) + 1)))
          have T6 := Lib.hid (hT.fresh FS (fun k e => by have : k = w1.heap.size := e; have := HG1.out; omega))
          have P6 := Lib.hid (pd_put HP5.out 2 ((n : Int) + 1))
          have V6 := Lib.hid ((HV.out.fr hF (fun b hb e => by have e1 : b4 = b := by simpa [Value.ownBlock] using hb
                                                              have : b = g := e; have := HS3.out; have := HG1.out; have := HG.out; omega)).fr FS (fun b hb e => by
            have e1 : b4 = b := by simpa [Value.ownBlock] using hb
            have : b = w1.heap.size := e; have := HS3.out; omega))
          have Z6 := Lib.hid ((HZ.out.fr hF (fun e => by have : w.heap.size = g := e; have := HB.out; have := HG.out; omega)).fr FS (fun e => by have : w.heap.size = w1.heap.size := e; have := HS1.out; omega))
          have F6 := Lib.hid ((HF.out.trans hF).fresh FS (fun k e => by have : k = w1.heap.size := e; have := HS1.out; omega))
          have q0 := HP5.out.frozen 0
          have q2 := HP5.out.frozen 2
          have p0 := (pdB_cells HP5.out).1
          clear p2 e0
          have p2 := (pdB_cells HP5.out).2.2.1
          dsimp only at p0 p2
          clear hT hF FS IX TK HT HP HV HZ HF HP5
          go_wp2
          go_roundw
          case rel => exact ⟨n + 1, _, 2, (n : Int) + 1, by omega, by go_num, T6, P6, HI2, V6, Z6, F6⟩
          case measure => simp [intOf]; omega
        · rw [decide_eq_false hj] at IX
          have HI2 : Hid (SgI r' (n + 1) r' 0 0) := Lib.hid (.inl ⟨by omega, rfl, rfl, rfl⟩)
          clear hj h1 HI HJ
          go_wp2_with fail
          refine IX.out.mono ?_
          rintro e w2 ⟨rfl, rfl⟩
          clear IX
          go_wp2
          go_roundw
          case rel => exact ⟨n + 1, _, 0, 0, by omega, by go_num, HT, HP, HI2, HV, HZ, HF⟩
          case measure => simp [intOf]; omega
      · have HI2 : Hid (SgI r (n + 1) (tlK r) 2 (sgJ r : Int)) := Lib.hid (.inr ⟨⟨by omega, by omega⟩, rfl, rfl, rfl⟩)
        have hjb : ((sgJ r : Int) == 0) = false := by rw [beq_eq_false_iff_ne]; omega
        clear h1 HI HJ
        generalize sgJ r = jj at *
        generalize isK 4 s (tlK r) = bb at *
        go_wp2_with fail
        refine IX.out.mono ?_
        rintro e w2 ⟨rfl, rfl⟩
        clear IX
        cases bb
        · go_wp2
          go_roundw
          case rel => exact ⟨n + 1, _, 2, _, by omega, by go_num, HT, HP, HI2, HV, HZ, HF⟩
          case measure => simp [intOf]; omega
        · go_wp2
          go_roundw
          case rel => exact ⟨n + 1, _, 2, _, by omega, by go_num, HT, HP, HI2, HV, HZ, HF⟩
          case measure => simp [intOf]; omega
    · have hn : n = 6 := by omega
      subst hn
      clear hlt hn6 HV
      obtain ⟨p0, p1, p2, p3, p4, p5, p6, p7, p8⟩ := pdB_cells HP.out
      dsimp only [noKv, zCl] at p0 p1 p2 p3 p4 p5 p6 p7 p8
      have HJL := Lib.hid (sgJ_le r)
      rcases HI.out with ⟨h1, rfl, rfl, rfl⟩ | ⟨h1, rfl, rfl, rfl⟩
      · have HX := Lib.hid (HE1.out (by have := HJL.out; omega))
        have FL := Lib.hid (tfail_any B g r' false 0 wr HT.out)
        clear HE1 HE2 HI h1 HJL
        go_wp2_with fail
        refine FL.out.mono ?_
        rintro e w5 ⟨rfl, hT, hF⟩
        have HP6 := Lib.hid (HP.out.fr hF (fun e => by have : w1.heap.size = g := e; have := HG1.out; have := HG.out; omega))
        have HZ6 := Lib.hid (HZ.out.fr hF (fun e => by have : w.heap.size = g := e; have := HB.out; have := HG.out; omega))
        have E5 := setPd_B HZ6.out ⟨0, c, 0, zCl, 0, []⟩ noKv
        have G5 := setPd_end (HF.out.trans hF) ⟨0, c, 0, zCl, 0, []⟩ noKv
        have T5 := hT.setPd HB.out ⟨0, c, 0, zCl, 0, []⟩ noKv
        unfold setPd kidV noKv zCl at E5 T5 G5
        dsimp only at E5 T5 G5
        clear p0 p1 p2 p3 p4 p5 p6 p7 p8
        obtain ⟨p0, p1, p2, p3, p4, p5, p6, p7, p8⟩ := pdB_cells HP6.out
        obtain ⟨r0, r1, r2', r3, r4, r5, r6, r7, r8⟩ := pdB_cells HZ6.out
        obtain ⟨f0, f1, f2, f3, f4, f5, f6, f7, f8⟩ := pdB_frozen HZ6.out
        dsimp only [noKv, zCl] at p0 p1 p2 p3 p4 p5 p6 p7 p8 r0 r1 r2' r3 r4 r5 r6 r7 r8
        replace E5 := Lib.hid E5
        replace T5 := Lib.hid T5
        replace G5 := Lib.hid G5
        clear HP HP6 HZ HZ6 HF HT FL hT hF
        go_wp2
        exact bodyPost_ret (v := pdV ⟨0, c, 0, ⟨false, 0, []⟩, 0, []⟩ ⟨none, 0, 0⟩) (ret_pd (p := 2) rfl _ _ w.heap.size ⟨0, c, 0, ⟨false, 0, []⟩, 0, []⟩ ⟨none, 0, 0⟩ rfl E5.out) rfl
          ⟨StepE.fail (hdT r').at_ HX.out (.mk ⟨0, c, 0, zCl, 0, []⟩ []) _ (by exact ⟨rfl, rfl, i64b_0⟩) _ T5.out, G5.out⟩
      · have HX := Lib.hid (HE2.out (by omega))
        have VL := Lib.hid (tvalue_any B g (tlK r) 0 wr HT.out)
        have hjb : ((sgJ r : Int) == 0) = false := by rw [beq_eq_false_iff_ne]; omega
        clear HE1 HE2 HI h1 HJL
        generalize sgJ r = jj at *
        generalize valK (tlK r) = x at *
        go_wp2_with fail
        refine VL.out.mono ?_
        rintro e w5 ⟨⟨⟨⟨vn, vi, vt⟩, vk⟩, v, rfl, ⟨rfl, hi⟩, hS⟩, hF⟩
        have HVI := Lib.hid hi
        have HS5 := Lib.hid hS
        have HP5 := Lib.hid (HP.out.fr hF (fun e => by have : w1.heap.size = g := e; have := HG1.out; have := HG.out; omega))
        have HZ5 := Lib.hid (HZ.out.fr hF (fun e => by have : w.heap.size = g := e; have := HB.out; have := HG.out; omega))
        have HF5 := Lib.hid (HF.out.trans hF)
        clear hS hi hF VL HT HP HZ HF p0 p1 p2 p3 p4 p5 p6 p7 p8
        have FS : Hid (Fr (One w1.heap.size) w5 ((((w5.setCell ⟨w1.heap.size, 3, none⟩ (.bool vn)).setCell ⟨w1.heap.size, 4, none⟩ (.int .i64 vi)).setCell ⟨w1.heap.size, 5, none⟩ (.string ⟨vt.toArray⟩)).setCell ⟨w1.heap.size, 6, none⟩ (.int .i64 vk))) := Lib.hid ((((((Fr.refl (One w1.heap.size) w5).set1 3 (.bool vn)).set1 4 (.int .i64 vi)).set1 5 (.string ⟨vt.toArray⟩)).set1 6 (.int .i64 vk)))
        have HP6 : Hid (PdB ((((w5.setCell ⟨w1.heap.size, 3, none⟩ (.bool vn)).setCell ⟨w1.heap.size, 4, none⟩ (.int .i64 vi)).setCell ⟨w1.heap.size, 5, none⟩ (.string ⟨vt.toArray⟩)).setCell ⟨w1.heap.size, 6, none⟩ (.int .i64 vk)) w1.heap.size ⟨2, c, (jj : Int), ⟨vn, vi, vt⟩, vk, []⟩ noKv) := Lib.hid (by
          have a := (((HP5.out.set 3 (.bool vn)).set 4 (.int .i64 vi)).set 5 (.string ⟨vt.toArray⟩)).set 6 (.int .i64 vk)
          simp [pdC] at a ⊢
          exact a)
        have HZ6 := Lib.hid (HZ5.out.fr FS.out (fun e => by have : w.heap.size = w1.heap.size := e; have := HS1.out; omega))
        have HF6 := Lib.hid (HF5.out.fresh FS.out (fun k e => by have : k = w1.heap.size := e; have := HS1.out; omega))
        have HT6 : Hid (∀ l' bad z', TS w5 B g l' bad z' → TS ((((w5.setCell ⟨w1.heap.size, 3, none⟩ (.bool vn)).setCell ⟨w1.heap.size, 4, none⟩ (.int .i64 vi)).setCell ⟨w1.heap.size, 5, none⟩ (.string ⟨vt.toArray⟩)).setCell ⟨w1.heap.size, 6, none⟩ (.int .i64 vk)) B g l' bad z') := Lib.hid (fun l' bad z' ht => ht.fresh FS.out (fun k e => by have : k = w1.heap.size := e; have := HG1.out; omega))
        obtain ⟨p0, p1, p2, p3, p4, p5, p6, p7, p8⟩ := pdB_cells HP5.out
        obtain ⟨q0, q1, q2, q3, q4, q5, q6, q7, q8⟩ := pdB_frozen HP5.out
        dsimp only [noKv, zCl] at p0 p1 p2 p3 p4 p5 p6 p7 p8
        clear FS HF5 HZ5 HP5
        unfold clV clC
        dsimp only
        go_upto_region 26 with fail
        clear q0 q1 q2 q3 q4 q5 q6 q7 q8 p0 p1 p2 p3 p4 p5 p6 p7 p8
        generalize (((w5.setCell ⟨w1.heap.size, 3, none⟩ (.bool vn)).setCell ⟨w1.heap.size, 4, none⟩ (.int .i64 vi)).setCell ⟨w1.heap.size, 5, none⟩ (.string ⟨vt.toArray⟩)).setCell ⟨w1.heap.size, 6, none⟩ (.int .i64 vk) = W6 at *
        have E5 := setPd_B HZ6.out ⟨2, c, (jj : Int), ⟨vn, vi, vt⟩, vk, []⟩ noKv
        have G5 := setPd_end HF6.out ⟨2, c, (jj : Int), ⟨vn, vi, vt⟩, vk, []⟩ noKv
        have T5 : ∀ l' bad z', TS w5 B g l' bad z' → TS (setPd W6 w.heap.size ⟨2, c, (jj : Int), ⟨vn, vi, vt⟩, vk, []⟩ noKv) B g l' bad z' := fun l' bad z' ht => (HT6.out l' bad z' ht).setPd HB.out _ _
        obtain ⟨p0, p1, p2, p3, p4, p5, p6, p7, p8⟩ := pdB_cells HP6.out
        obtain ⟨r0, r1, r2', r3, r4, r5, r6, r7, r8⟩ := pdB_cells HZ6.out
        obtain ⟨f0, f1, f2, f3, f4, f5, f6, f7, f8⟩ := pdB_frozen HZ6.out
        dsimp only [noKv, zCl] at p0 p1 p2 p3 p4 p5 p6 p7 p8 r0 r1 r2' r3 r4 r5 r6 r7 r8
        unfold setPd kidV noKv at E5 T5 G5
        dsimp only at E5 T5 G5
        replace E5 := Lib.hid E5
        replace T5 := Lib.hid T5
        replace G5 := Lib.hid G5
        clear HZ6 HP6 HT6 HF6
        go_wp2
        refine bodyPost_ret (ret_pd (p := 2) rfl _ _ w.heap.size ⟨2, c, (jj : Int), ⟨vn, vi, vt⟩, vk, []⟩ ⟨none, 0, 0⟩ rfl E5.out) rfl ⟨?_, G5.out⟩
        have hs := HS5.out
        cases x with
        | error k =>
          obtain ⟨l2, hl2⟩ := hs
          exact StepE.fail k (by rw [HX.out]; rfl) (.mk ⟨2, c, (jj : Int), ⟨vn, vi, vt⟩, vk, []⟩ []) _ (by exact ⟨rfl, rfl, HVI.out⟩) l2 (T5.out _ _ _ hl2)
        | ok y =>
          obtain ⟨y1, r2⟩ := y
          obtain ⟨rfl, ht⟩ := hs
          exact StepE.good (.mk ⟨2, c, (jj : Int), ⟨vn, vi, vt⟩, vk, []⟩ []) r2 (by rw [HX.out]; rfl) _ (by exact ⟨rfl, rfl, HVI.out⟩) (T5.out _ _ _ ht)
end Go.Proofs.YtipgaafgnefmdaaGreatDoor


namespace Go.Proofs.YtipgaafgnefmdaaGreatDoor
set_option linter.unusedVariables false
set_option linter.unusedSimpArgs false
set_option maxRecDepth 100000
open Go.RowKit

theorem xasked_any (B g : Nat) (σ : Sg) (w : World) (h : TX B g w σ) :
    Calls Tryz.prog 101 #[.pointer (some ⟨g, 0, none⟩)] w fun e w' => EndX (TX B g) (onS σ askedK) (PdF w.heap.size) e w' ∧ Fr (One g) w w' := by
  have lost : ∀ k, onS σ askedK = .error k → Hid (∀ W, Fr Non w W → Calls Tryz.prog 24 #[.pointer (some ⟨g, 0, none⟩)] W fun e w' => ∃ (s : Tx) (l : List Tk), e = .returned (.string ⟨s.toArray⟩) ∧ TS w' B g l true k ∧ Fr (One g) W w') →
      Calls Tryz.prog 101 #[.pointer (some ⟨g, 0, none⟩)] w fun e w' => EndX (TX B g) (onS σ askedK) (PdF w.heap.size) e w' ∧ Fr (One g) w w' := fun k hk hN =>
    (tasked_lost B g k w h.lt.2 h.lt.1 hN).mono fun e w' he => by
      obtain ⟨s, l, e1, e2, e3⟩ := he
      rw [hk]
      exact ⟨⟨.mk ⟨0, s, 0, zCl, 0, []⟩ [], _, e1, ⟨noKv, rfl, KdS.nil_ _ _, i64b_0⟩, ⟨l, e2⟩, fun b r e => by cases e⟩, e3⟩
  have good : ∀ l, σ = .ok l → (Calls Tryz.prog 101 #[.pointer (some ⟨g, 0, none⟩)] w fun e w' => StepE w' B g 0 (askedK l) e LfF ∧ Fr (One g) w w') →
      Calls Tryz.prog 101 #[.pointer (some ⟨g, 0, none⟩)] w fun e w' => EndX (TX B g) (onS σ askedK) (PdF w.heap.size) e w' ∧ Fr (One g) w w' := fun l hl hc =>
    hc.mono fun e w' he => by
      subst hl
      exact ⟨he.1.x.imp (fun _ e => e) (fun a v e => e.pd _), he.2⟩
  cases hs : σ with
  | error z =>
    rw [← hs]
    subst hs
    obtain ⟨l, hl⟩ := h
    exact lost z rfl (Lib.hid fun W hf => (tname_bad B g l z W (hl.non hf)).mono fun e w' he => by
      obtain ⟨⟨a, v, e1, e2, e3⟩, e4⟩ := he
      exact ⟨a, l, by rw [e1, e2], e3, e4⟩)
  | ok l =>
    rw [← hs]
    have ht : TS w B g l false 0 := by rw [hs] at h; exact h
    cases hn : nameK l with
    | error k =>
      exact lost k (by rw [hs]; unfold onS askedK; dsimp only; rw [hn]) (Lib.hid fun W hf => (tname_any B g l 0 W (ht.non hf)).mono fun e w' he => by
        obtain ⟨⟨a, v, e1, e2, e3⟩, e4⟩ := he
        rw [hn] at e3
        obtain ⟨l2, e5⟩ := e3
        exact ⟨a, l2, by rw [e1, e2], e5, e4⟩)
    | ok y =>
      obtain ⟨c, r⟩ := y
      cases h0 : isK 1 isW r with
      | true => exact good l hs (tasked_is B g l 0 w ht c r hn h0)
      | false =>
        cases h1 : isK 1 likeW r with
        | true => exact good l hs (tasked_like B g l 0 w ht c r hn h0 h1)
        | false => exact good l hs (tasked_sign B g l w ht c r hn h0 h1)
/-- a step of the document's reader, by a function of the reader and of how deep it stands -/
def StepT (B g : Nat) (d : Int) (F : Nat) (step : List Tk → Rd Pd) : Prop :=
  ∀ W σ, TX B g W σ → Calls Tryz.prog F #[.pointer (some ⟨g, 0, none⟩), .int .i64 d] W fun e w' => EndX (TX B g) (onS σ step) (PdF W.heap.size) e w' ∧ Fr (One g) W w'
def SgFin (σ : Sg) : Prop := ∀ l, σ = .ok l → EndL l
theorem TX.finX {B g : Nat} {w : World} {σ : Sg} (h : TX B g w σ) : SgFin σ := fun l e => by subst e; exact h.fin
theorem drop_mapT {α β : Type} (f : α → β) (x : Rd α) : dropV (mapR f x) = dropV x := by cases x <;> rfl
theorem map_okT {α β : Type} {f : α → β} {x : Rd α} {a : α} (h : ∀ b r, x = .ok (b, r) → a = b) : ∀ b r, mapR f x = .ok (b, r) → f a = b := by
  intro b r e
  cases x with
  | error z => cases e
  | ok y => obtain ⟨y1, y2⟩ := y; obtain rfl := h y1 y2 rfl; cases e; rfl
theorem level_onT (op : Int) (s : Tx) (step : List Tk → Rd Pd) (σ : Sg) : onS σ (levelK op s step) = mapR (foldL op) (onS σ (someK 1 s step)) := by
  cases σ with
  | ok l => exact level_some op s step l
  | error z => rfl
set_option maxHeartbeats 4000000 in
theorem tboth_of (B g : Nat) (d : Int) (step : List Tk → Rd Pd) (G : Pd → Prop) (hr : Reads step G) (hstep : StepT B g d 84 step) : StepT B g d 57 (levelK 6 andW step) := by
  intro w σ h
  have HST := Lib.hid hstep
  have HL := Lib.hid h.lt
  have HRD := Lib.hid hr
  have F0 : Fr Non w (w.alloc (.cells #[.int .i64 0, .string ⟨#[]⟩, .int .i64 0, .bool false, .int .i64 0, .string ⟨#[]⟩, .int .i64 0, .string ⟨#[]⟩, .slice none 0 0] 28)) := (Fr.refl Non w).alloc _
  have A1 := Lib.hid (hstep _ σ (h.non F0))
  have HLV := Lib.hid (fun a ha => lv_start (a := a) (k := 1) (s := andW) hr h.finX ha)
  have HLE := Lib.hid (level_onT 6 andW step σ)
  clear hstep h hr F0
  generalize onS σ (levelK 6 andW step) = Y at *
  generalize onS σ (someK 1 andW step) = X at *
  generalize onS σ step = x0 at *
  have HDX := Lib.hid (drop_mapT (foldL 6) X)
  go_enter Tryz.func57, Tryz.ntmps57
  go_wp2_with fail
  refine A1.out.mono ?_
  rintro e w1 ⟨⟨p, v, rfl, ⟨ks, rfl, hkd, hb⟩, hT, hA⟩, hF⟩
  have LV1 := Lib.hid (HLV.out p hA)
  have HS1 : w.heap.size + 1 ≤ w1.heap.size := by have := hF.size; simpa using this
  have R1 := Lib.hid (PRow.lit w1 (w.heap.size + 1) w1.heap.size p ks (pdC p.hd ks) rfl rfl HS1 hb (hkd.imp fun b hb _ => by simpa using hb))
  have F2 : Fr Non w1 (w1.alloc (.cells (pdC p.hd ks) 28)) := (Fr.refl Non w1).alloc _
  have T2 := Lib.hid (hT.non F2)
  have G2 := Lib.hid ((((Fr.refl (One g) w).alloc _).trans hF).trans F2.any)
  have Z2 : Hid (PdB (w1.alloc (.cells (pdC p.hd ks) 28)) w.heap.size ⟨0, [], 0, zCl, 0, []⟩ noKv) := Lib.hid (((pd_new w _ ⟨0, [], 0, zCl, 0, []⟩ noKv rfl).fr hF (fun e => by have : w.heap.size = g := e; have := HL.out; omega)).fr F2 (fun e => e))
  clear hkd hb hT hA hF F2 A1 HLV HS1
  generalize p.hd = x at *
  obtain ⟨xo, xc, xm, ⟨xn, xi, xt⟩, xk, xp⟩ := x
  obtain ⟨kA, kn, kc⟩ := ks
  unfold pdV pdC kidV
  unfold pdC kidV at R1 T2 G2 Z2
  dsimp only at R1 T2 G2 Z2 ⊢
  go_wp2
  generalize hW : w1.alloc _ = W2 at *
  clear hW
  go_loopw [5] (fun v wr => ∃ (ps : List Pd) (σ' : Sg) (vr : Value), vr = v ∧ Hid (PRow wr (w.heap.size + 1) vr ps ∧ 1 ≤ ps.length) ∧ Hid (Lv 1 andW step X ps σ') ∧ Hid (TX B g wr σ') ∧ Hid (Fr (One g) w wr) ∧ Hid (PdB wr w.heap.size ⟨0, [], 0, zCl, 0, []⟩ noKv)) (fun v _ => 403 - slLen v)
  case atStart => exact ⟨[p], dropV x0, _, rfl, Lib.hid ⟨R1.out, by simp⟩, LV1, T2, G2, Z2⟩
  case round =>
    obtain ⟨ps, σ', vr, rfl, HR, HV, HT, HG, HZ⟩ := hrel
    clear R1 LV1 T2 G2 Z2
    have I := Lib.hid (xis_any B g 1 andW σ' wr HT.out)
    have HXI : Hid (isX 1 andW σ' = isX 1 andW σ') := Lib.hid rfl
    generalize hbx : isX 1 andW σ' = b at I
    have HBX := Lib.hid hbx
    clear hbx HXI
    go_wp2_with fail
    refine I.out.mono ?_
    rintro e w2 ⟨rfl, rfl⟩
    clear I
    cases b
    · obtain ⟨e1, e2⟩ := lv_end HV.out HBX.out
      have E1 := Lib.hid e1
      have HM := Lib.hid (map_okT (f := foldL 6) e2)
      have HRW := Lib.hid HR.out.1
      have hp1 := HR.out.2
      clear e1 e2 HBX HR HV HST HRD
      obtain ⟨A, c, rfl⟩ := HRW.out.shape
      have HKB := Lib.hid HRW.out.kds
      obtain ⟨f0, f1, f2, f3, f4, f5, f6, f7, f8⟩ := pdB_frozen HZ.out
      obtain ⟨r0, r1, r2, r3, r4, r5, r6, r7, r8⟩ := pdB_cells HZ.out
      dsimp only [noKv, zCl] at r0 r1 r2 r3 r4 r5 r6 r7 r8
      cases ps with
      | nil => simp at hp1
      | cons p r =>
        cases r with
        | nil =>
          obtain ⟨g1, s1, rfl, _, hc, hkd, hb, hg1⟩ := HRW.out.el0
          have HPF := Lib.hid hkd
          have HB := Lib.hid hb
          obtain ⟨⟨xo, xc, xm, ⟨xn, xi, xt⟩, xk, xp⟩, xks⟩ := p
          obtain ⟨sA, sn, sc⟩ := s1
          dsimp only [Pd.hd, Pd.kids] at *
          obtain ⟨p0, p1, p2, p3, p4, p5, p6, p7, p8⟩ := hc
          dsimp only at p0 p1 p2 p3 p4 p5 p6 p7 p8
          have E5 := Lib.hid (setPd_B HZ.out ⟨xo, xc, xm, ⟨xn, xi, xt⟩, xk, xp⟩ ⟨sA, sn, sc⟩)
          have T5 := Lib.hid (HT.out.fresh (setPd_fr wr w.heap.size ⟨xo, xc, xm, ⟨xn, xi, xt⟩, xk, xp⟩ ⟨sA, sn, sc⟩) (fun k e => by have : k = w.heap.size := e; have := HL.out; omega))
          have G5 := Lib.hid (setPd_end HG.out ⟨xo, xc, xm, ⟨xn, xi, xt⟩, xk, xp⟩ ⟨sA, sn, sc⟩)
          have K5 : Hid (KdS (fun b => w.heap.size ≤ b) (setPd wr w.heap.size ⟨xo, xc, xm, ⟨xn, xi, xt⟩, xk, xp⟩ ⟨sA, sn, sc⟩) ⟨sA, sn, sc⟩ xks) := Lib.hid ((HPF.out.fr (setPd_fr wr w.heap.size ⟨xo, xc, xm, ⟨xn, xi, xt⟩, xk, xp⟩ ⟨sA, sn, sc⟩) (fun b hb _ e => by have : b = w.heap.size := e; omega)).imp fun b hb _ => by omega)
          clear hkd hb hg1 HKB HPF HRW
          unfold setPd kidV at E5 T5 G5 K5
          dsimp only at E5 T5 G5 K5
          go_wp2
          exact bodyPost_ret (ret_pd (p := 4) rfl _ _ w.heap.size ⟨xo, xc, xm, ⟨xn, xi, xt⟩, xk, xp⟩ ⟨sA, sn, sc⟩ rfl E5.out) rfl ⟨⟨.mk ⟨xo, xc, xm, ⟨xn, xi, xt⟩, xk, xp⟩ xks, _, rfl, ⟨⟨sA, sn, sc⟩, rfl, K5.out, HB.out⟩, by rw [HLE.out, HDX.out, E1.out]; exact T5.out, fun b r e => HM.out b r (by rw [← HLE.out]; exact e)⟩, G5.out⟩
        | cons p2 r =>
          have hlb : (((p :: p2 :: r).length : Int) == 1) = false := by rw [beq_eq_false_iff_ne]; simp; omega
          have E5 := Lib.hid (setPd_B HZ.out ⟨6, [], 0, zCl, 0, []⟩ ⟨A, (p :: p2 :: r).length, c⟩)
          have T5 := Lib.hid (HT.out.fresh (setPd_fr wr w.heap.size ⟨6, [], 0, zCl, 0, []⟩ ⟨A, (p :: p2 :: r).length, c⟩) (fun k e => by have : k = w.heap.size := e; have := HL.out; omega))
          have G5 := Lib.hid (setPd_end HG.out ⟨6, [], 0, zCl, 0, []⟩ ⟨A, (p :: p2 :: r).length, c⟩)
          have K5 : Hid (KdS (fun b => w.heap.size ≤ b) (setPd wr w.heap.size ⟨6, [], 0, zCl, 0, []⟩ ⟨A, (p :: p2 :: r).length, c⟩) ⟨A, (p :: p2 :: r).length, c⟩ (p :: p2 :: r)) := Lib.hid ((HKB.out.fr (setPd_fr wr w.heap.size ⟨6, [], 0, zCl, 0, []⟩ ⟨A, (p :: p2 :: r).length, c⟩) (fun b hb _ e => by have : b = w.heap.size := e; omega)).imp fun b hb _ => by omega)
          have HFO : Hid (foldL 6 (p :: p2 :: r) = .mk ⟨6, [], 0, zCl, 0, []⟩ (p :: p2 :: r)) := Lib.hid rfl
          clear HKB HRW hp1
          generalize (p :: p2 :: r) = L at *
          generalize L.length = n at *
          unfold setPd kidV zCl at E5 T5 G5 K5
          dsimp only at E5 T5 G5 K5
          go_wp2
          refine bodyPost_ret (ret_pd (p := 4) rfl _ _ w.heap.size ⟨6, [], 0, zCl, 0, []⟩ ⟨A, n, c⟩ rfl E5.out) rfl ⟨⟨.mk ⟨6, [], 0, zCl, 0, []⟩ L, _, rfl, ⟨⟨A, n, c⟩, rfl, K5.out, i64b_0⟩, by rw [HLE.out, HDX.out, E1.out]; exact T5.out, fun b r e => ?_⟩, G5.out⟩
          rw [← HM.out b r (by rw [← HLE.out]; exact e), HFO.out]
    · obtain ⟨r, rfl, hi⟩ := isX_ok HBX.out
      have TK := Lib.hid (xtake_any B g r wr HT.out)
      have LV2 := Lib.hid (fun a ha => lv_more (k := 1) (by decide) HRD.out HV.out hi (a := a) ha)
      have HPL := Lib.hid HV.out.1
      clear hi HBX HT
      go_wp2_with fail
      refine TK.out.mono ?_
      rintro e w1 ⟨⟨tv, rfl⟩, hT, hF⟩
      have A2 := Lib.hid (HST.out w1 (.ok (tlK r)) hT)
      have HG1 := Lib.hid (HG.out.trans hF)
      have HR1 : Hid (PRow w1 (w.heap.size + 1) vr ps) := Lib.hid (HR.out.1.fr hF (fun b h1 _ e => by have : b = g := e; have := HL.out; omega))
      have HZ1 := Lib.hid (HZ.out.fr hF (fun e => by have : w.heap.size = g := e; have := HL.out; omega))
      clear hT hF TK HG HZ
      go_wp2_with fail
      refine A2.out.mono ?_
      rintro e w2 ⟨⟨p2, v2, rfl, ⟨ks2, rfl, hkd, hb⟩, hT, hA⟩, hF⟩
      have LV3 := Lib.hid (LV2.out p2 hA)
      have HT3 := Lib.hid hT
      have HG3 := Lib.hid (HG1.out.trans hF)
      have HR3 : Hid (PRow w2 (w.heap.size + 1) vr ps) := Lib.hid (HR1.out.fr hF (fun b h1 _ e => by have : b = g := e; have := HL.out; omega))
      have HZ3 := Lib.hid (HZ1.out.fr hF (fun e => by have : w.heap.size = g := e; have := HL.out; omega))
      have HSZ1 : w.heap.size + 1 ≤ w1.heap.size := HZ1.out.lt
      have HKD : Hid (KdS (fun b => w.heap.size + 1 ≤ b ∧ vr.ownBlock ≠ some b) w2 ks2 p2.kids) := Lib.hid (hkd.imp fun b hb _ => ⟨by omega, fun e => by
        have := (HR1.out.lt b e).2
        omega⟩)
      have HB := Lib.hid hb
      have HSZ2 : w.heap.size + 1 ≤ w2.heap.size := HZ3.out.lt
      have HSZ := Lib.hid HSZ2
      clear hkd hb hT hA hF A2 LV2 HR1 HZ1 HG1 HSZ1 HSZ2
      obtain ⟨⟨yo, yc, ym, ⟨yn, yi, yt⟩, yk, yp⟩, yks⟩ := p2
      obtain ⟨zA, zn, zc⟩ := ks2
      unfold pdV pdC kidV
      dsimp only [Pd.hd, Pd.kids] at *
      have hle := HPL.out
      have hsz := HSZ.out
      go_wp2_with (at_builtin; refine wpList_pushP rfl (.tmp 14) (.tmp 18) rfl (w.heap.size + 1) vr ps rfl HR3.out (.mk ⟨yo, yc, ym, ⟨yn, yi, yt⟩, yk, yp⟩ yks) ⟨zA, zn, zc⟩ HB.out HKD.out #[.int .i64 yo, .string ⟨yc.toArray⟩, .int .i64 ym, .bool yn, .int .i64 yi, .string ⟨yt.toArray⟩, .int .i64 yk, .string ⟨yp.toArray⟩, .slice zA zn zc] rfl _ rfl rfl (by omega) hsz ?_; intro v3 w3 hown3 hfr3)
      have HLT := Lib.hid HR3.out.lt
      have T4 := Lib.hid (HT3.out.fresh hfr3 (fun b e => by have := (HLT.out b e).1; have := HL.out; omega))
      have G4 := Lib.hid (HG3.out.fresh hfr3 (fun b e => by have := (HLT.out b e).1; omega))
      have Z4 := Lib.hid (HZ3.out.fr hfr3 (fun e => by have := (HLT.out _ e).1; omega))
      have O4 := Lib.hid hown3
      have SL4 := hown3.sl
      have SL0 := HR3.out.sl
      clear hown3 hfr3
      go_roundw
      case rel => exact ⟨_, _, v3, rfl, Lib.hid ⟨O4.out, by simp⟩, LV3, T4, G4, Z4⟩
      case measure => rw [SL4, SL0]; simp; omega
set_option maxHeartbeats 4000000 in
theorem tpred_of (B g : Nat) (d : Int) (step : List Tk → Rd Pd) (G : Pd → Prop) (hr : Reads step G) (hstep : StepT B g d 57 step) : StepT B g d 27 (levelK 7 orW step) := by
  intro w σ h
  have HST := Lib.hid hstep
  have HL := Lib.hid h.lt
  have HRD := Lib.hid hr
  have F0 : Fr Non w (w.alloc (.cells #[.int .i64 0, .string ⟨#[]⟩, .int .i64 0, .bool false, .int .i64 0, .string ⟨#[]⟩, .int .i64 0, .string ⟨#[]⟩, .slice none 0 0] 28)) := (Fr.refl Non w).alloc _
  have A1 := Lib.hid (hstep _ σ (h.non F0))
  have HLV := Lib.hid (fun a ha => lv_start (a := a) (k := 1) (s := orW) hr h.finX ha)
  have HLE := Lib.hid (level_onT 7 orW step σ)
  clear hstep h hr F0
  generalize onS σ (levelK 7 orW step) = Y at *
  generalize onS σ (someK 1 orW step) = X at *
  generalize onS σ step = x0 at *
  have HDX := Lib.hid (drop_mapT (foldL 7) X)
  go_enter Tryz.func27, Tryz.ntmps27
  go_wp2_with fail
  refine A1.out.mono ?_
  rintro e w1 ⟨⟨p, v, rfl, ⟨ks, rfl, hkd, hb⟩, hT, hA⟩, hF⟩
  have LV1 := Lib.hid (HLV.out p hA)
  have HS1 : w.heap.size + 1 ≤ w1.heap.size := by have := hF.size; simpa using this
  have R1 := Lib.hid (PRow.lit w1 (w.heap.size + 1) w1.heap.size p ks (pdC p.hd ks) rfl rfl HS1 hb (hkd.imp fun b hb _ => by simpa using hb))
  have F2 : Fr Non w1 (w1.alloc (.cells (pdC p.hd ks) 28)) := (Fr.refl Non w1).alloc _
  have T2 := Lib.hid (hT.non F2)
  have G2 := Lib.hid ((((Fr.refl (One g) w).alloc _).trans hF).trans F2.any)
  have Z2 : Hid (PdB (w1.alloc (.cells (pdC p.hd ks) 28)) w.heap.size ⟨0, [], 0, zCl, 0, []⟩ noKv) := Lib.hid (((pd_new w _ ⟨0, [], 0, zCl, 0, []⟩ noKv rfl).fr hF (fun e => by have : w.heap.size = g := e; have := HL.out; omega)).fr F2 (fun e => e))
  clear hkd hb hT hA hF F2 A1 HLV HS1
  generalize p.hd = x at *
  obtain ⟨xo, xc, xm, ⟨xn, xi, xt⟩, xk, xp⟩ := x
  obtain ⟨kA, kn, kc⟩ := ks
  unfold pdV pdC kidV
  unfold pdC kidV at R1 T2 G2 Z2
  dsimp only at R1 T2 G2 Z2 ⊢
  go_wp2
  generalize hW : w1.alloc _ = W2 at *
  clear hW
  go_loopw [5] (fun v wr => ∃ (ps : List Pd) (σ' : Sg) (vr : Value), vr = v ∧ Hid (PRow wr (w.heap.size + 1) vr ps ∧ 1 ≤ ps.length) ∧ Hid (Lv 1 orW step X ps σ') ∧ Hid (TX B g wr σ') ∧ Hid (Fr (One g) w wr) ∧ Hid (PdB wr w.heap.size ⟨0, [], 0, zCl, 0, []⟩ noKv)) (fun v _ => 403 - slLen v)
  case atStart => exact ⟨[p], dropV x0, _, rfl, Lib.hid ⟨R1.out, by simp⟩, LV1, T2, G2, Z2⟩
  case round =>
    obtain ⟨ps, σ', vr, rfl, HR, HV, HT, HG, HZ⟩ := hrel
    clear R1 LV1 T2 G2 Z2
    have I := Lib.hid (xis_any B g 1 orW σ' wr HT.out)
    have HXI : Hid (isX 1 orW σ' = isX 1 orW σ') := Lib.hid rfl
    generalize hbx : isX 1 orW σ' = b at I
    have HBX := Lib.hid hbx
    clear hbx HXI
    go_wp2_with fail
    refine I.out.mono ?_
    rintro e w2 ⟨rfl, rfl⟩
    clear I
    cases b
    · obtain ⟨e1, e2⟩ := lv_end HV.out HBX.out
      have E1 := Lib.hid e1
      have HM := Lib.hid (map_okT (f := foldL 7) e2)
      have HRW := Lib.hid HR.out.1
      have hp1 := HR.out.2
      clear e1 e2 HBX HR HV HST HRD
      obtain ⟨A, c, rfl⟩ := HRW.out.shape
      have HKB := Lib.hid HRW.out.kds
      obtain ⟨f0, f1, f2, f3, f4, f5, f6, f7, f8⟩ := pdB_frozen HZ.out
      obtain ⟨r0, r1, r2, r3, r4, r5, r6, r7, r8⟩ := pdB_cells HZ.out
      dsimp only [noKv, zCl] at r0 r1 r2 r3 r4 r5 r6 r7 r8
      cases ps with
      | nil => simp at hp1
      | cons p r =>
        cases r with
        | nil =>
          obtain ⟨g1, s1, rfl, _, hc, hkd, hb, hg1⟩ := HRW.out.el0
          have HPF := Lib.hid hkd
          have HB := Lib.hid hb
          obtain ⟨⟨xo, xc, xm, ⟨xn, xi, xt⟩, xk, xp⟩, xks⟩ := p
          obtain ⟨sA, sn, sc⟩ := s1
          dsimp only [Pd.hd, Pd.kids] at *
          obtain ⟨p0, p1, p2, p3, p4, p5, p6, p7, p8⟩ := hc
          dsimp only at p0 p1 p2 p3 p4 p5 p6 p7 p8
          have E5 := Lib.hid (setPd_B HZ.out ⟨xo, xc, xm, ⟨xn, xi, xt⟩, xk, xp⟩ ⟨sA, sn, sc⟩)
          have T5 := Lib.hid (HT.out.fresh (setPd_fr wr w.heap.size ⟨xo, xc, xm, ⟨xn, xi, xt⟩, xk, xp⟩ ⟨sA, sn, sc⟩) (fun k e => by have : k = w.heap.size := e; have := HL.out; omega))
          have G5 := Lib.hid (setPd_end HG.out ⟨xo, xc, xm, ⟨xn, xi, xt⟩, xk, xp⟩ ⟨sA, sn, sc⟩)
          have K5 : Hid (KdS (fun b => w.heap.size ≤ b) (setPd wr w.heap.size ⟨xo, xc, xm, ⟨xn, xi, xt⟩, xk, xp⟩ ⟨sA, sn, sc⟩) ⟨sA, sn, sc⟩ xks) := Lib.hid ((HPF.out.fr (setPd_fr wr w.heap.size ⟨xo, xc, xm, ⟨xn, xi, xt⟩, xk, xp⟩ ⟨sA, sn, sc⟩) (fun b hb _ e => by have : b = w.heap.size := e; omega)).imp fun b hb _ => by omega)
          clear hkd hb hg1 HKB HPF HRW
          unfold setPd kidV at E5 T5 G5 K5
          dsimp only at E5 T5 G5 K5
          go_wp2
          exact bodyPost_ret (ret_pd (p := 4) rfl _ _ w.heap.size ⟨xo, xc, xm, ⟨xn, xi, xt⟩, xk, xp⟩ ⟨sA, sn, sc⟩ rfl E5.out) rfl ⟨⟨.mk ⟨xo, xc, xm, ⟨xn, xi, xt⟩, xk, xp⟩ xks, _, rfl, ⟨⟨sA, sn, sc⟩, rfl, K5.out, HB.out⟩, by rw [HLE.out, HDX.out, E1.out]; exact T5.out, fun b r e => HM.out b r (by rw [← HLE.out]; exact e)⟩, G5.out⟩
        | cons p2 r =>
          have hlb : (((p :: p2 :: r).length : Int) == 1) = false := by rw [beq_eq_false_iff_ne]; simp; omega
          have E5 := Lib.hid (setPd_B HZ.out ⟨7, [], 0, zCl, 0, []⟩ ⟨A, (p :: p2 :: r).length, c⟩)
          have T5 := Lib.hid (HT.out.fresh (setPd_fr wr w.heap.size ⟨7, [], 0, zCl, 0, []⟩ ⟨A, (p :: p2 :: r).length, c⟩) (fun k e => by have : k = w.heap.size := e; have := HL.out; omega))
          have G5 := Lib.hid (setPd_end HG.out ⟨7, [], 0, zCl, 0, []⟩ ⟨A, (p :: p2 :: r).length, c⟩)
          have K5 : Hid (KdS (fun b => w.heap.size ≤ b) (setPd wr w.heap.size ⟨7, [], 0, zCl, 0, []⟩ ⟨A, (p :: p2 :: r).length, c⟩) ⟨A, (p :: p2 :: r).length, c⟩ (p :: p2 :: r)) := Lib.hid ((HKB.out.fr (setPd_fr wr w.heap.size ⟨7, [], 0, zCl, 0, []⟩ ⟨A, (p :: p2 :: r).length, c⟩) (fun b hb _ e => by have : b = w.heap.size := e; omega)).imp fun b hb _ => by omega)
          have HFO : Hid (foldL 7 (p :: p2 :: r) = .mk ⟨7, [], 0, zCl, 0, []⟩ (p :: p2 :: r)) := Lib.hid rfl
          clear HKB HRW hp1
          generalize (p :: p2 :: r) = L at *
          generalize L.length = n at *
          unfold setPd kidV zCl at E5 T5 G5 K5
          dsimp only at E5 T5 G5 K5
          go_wp2
          refine bodyPost_ret (ret_pd (p := 4) rfl _ _ w.heap.size ⟨7, [], 0, zCl, 0, []⟩ ⟨A, n, c⟩ rfl E5.out) rfl ⟨⟨.mk ⟨7, [], 0, zCl, 0, []⟩ L, _, rfl, ⟨⟨A, n, c⟩, rfl, K5.out, i64b_0⟩, by rw [HLE.out, HDX.out, E1.out]; exact T5.out, fun b r e => ?_⟩, G5.out⟩
          rw [← HM.out b r (by rw [← HLE.out]; exact e), HFO.out]
    · obtain ⟨r, rfl, hi⟩ := isX_ok HBX.out
      have TK := Lib.hid (xtake_any B g r wr HT.out)
      have LV2 := Lib.hid (fun a ha => lv_more (k := 1) (by decide) HRD.out HV.out hi (a := a) ha)
      have HPL := Lib.hid HV.out.1
      clear hi HBX HT
      go_wp2_with fail
      refine TK.out.mono ?_
      rintro e w1 ⟨⟨tv, rfl⟩, hT, hF⟩
      have A2 := Lib.hid (HST.out w1 (.ok (tlK r)) hT)
      have HG1 := Lib.hid (HG.out.trans hF)
      have HR1 : Hid (PRow w1 (w.heap.size + 1) vr ps) := Lib.hid (HR.out.1.fr hF (fun b h1 _ e => by have : b = g := e; have := HL.out; omega))
      have HZ1 := Lib.hid (HZ.out.fr hF (fun e => by have : w.heap.size = g := e; have := HL.out; omega))
      clear hT hF TK HG HZ
      go_wp2_with fail
      refine A2.out.mono ?_
      rintro e w2 ⟨⟨p2, v2, rfl, ⟨ks2, rfl, hkd, hb⟩, hT, hA⟩, hF⟩
      have LV3 := Lib.hid (LV2.out p2 hA)
      have HT3 := Lib.hid hT
      have HG3 := Lib.hid (HG1.out.trans hF)
      have HR3 : Hid (PRow w2 (w.heap.size + 1) vr ps) := Lib.hid (HR1.out.fr hF (fun b h1 _ e => by have : b = g := e; have := HL.out; omega))
      have HZ3 := Lib.hid (HZ1.out.fr hF (fun e => by have : w.heap.size = g := e; have := HL.out; omega))
      have HSZ1 : w.heap.size + 1 ≤ w1.heap.size := HZ1.out.lt
      have HKD : Hid (KdS (fun b => w.heap.size + 1 ≤ b ∧ vr.ownBlock ≠ some b) w2 ks2 p2.kids) := Lib.hid (hkd.imp fun b hb _ => ⟨by omega, fun e => by
        have := (HR1.out.lt b e).2
        omega⟩)
      have HB := Lib.hid hb
      have HSZ2 : w.heap.size + 1 ≤ w2.heap.size := HZ3.out.lt
      have HSZ := Lib.hid HSZ2
      clear hkd hb hT hA hF A2 LV2 HR1 HZ1 HG1 HSZ1 HSZ2
      obtain ⟨⟨yo, yc, ym, ⟨yn, yi, yt⟩, yk, yp⟩, yks⟩ := p2
      obtain ⟨zA, zn, zc⟩ := ks2
      unfold pdV pdC kidV
      dsimp only [Pd.hd, Pd.kids] at *
      have hle := HPL.out
      have hsz := HSZ.out
      go_wp2_with (at_builtin; refine wpList_pushP rfl (.tmp 14) (.tmp 18) rfl (w.heap.size + 1) vr ps rfl HR3.out (.mk ⟨yo, yc, ym, ⟨yn, yi, yt⟩, yk, yp⟩ yks) ⟨zA, zn, zc⟩ HB.out HKD.out #[.int .i64 yo, .string ⟨yc.toArray⟩, .int .i64 ym, .bool yn, .int .i64 yi, .string ⟨yt.toArray⟩, .int .i64 yk, .string ⟨yp.toArray⟩, .slice zA zn zc] rfl _ rfl rfl (by omega) hsz ?_; intro v3 w3 hown3 hfr3)
      have HLT := Lib.hid HR3.out.lt
      have T4 := Lib.hid (HT3.out.fresh hfr3 (fun b e => by have := (HLT.out b e).1; have := HL.out; omega))
      have G4 := Lib.hid (HG3.out.fresh hfr3 (fun b e => by have := (HLT.out b e).1; omega))
      have Z4 := Lib.hid (HZ3.out.fr hfr3 (fun e => by have := (HLT.out _ e).1; omega))
      have O4 := Lib.hid hown3
      have SL4 := hown3.sl
      have SL0 := HR3.out.sl
      clear hown3 hfr3
      go_roundw
      case rel => exact ⟨_, _, v3, rfl, Lib.hid ⟨O4.out, by simp⟩, LV3, T4, G4, Z4⟩
      case measure => rw [SL4, SL0]; simp; omega
end Go.Proofs.YtipgaafgnefmdaaGreatDoor


namespace Go.Proofs.YtipgaafgnefmdaaGreatDoor
set_option linter.unusedVariables false
set_option linter.unusedSimpArgs false
set_option maxRecDepth 100000
open Go.RowKit

theorem kd_setT {w1 : World} {n : Nat} (h : Ph) (t : Kv) (s : Kv) (ks : List Pd) (hk : KdS (fun b => n + 1 ≤ b) w1 s ks) : KdS (fun b => n ≤ b) (setPd w1 n h t) s ks :=
  (hk.fr (setPd_fr w1 n h t) (fun b hb _ e => by have : b = n := e; omega)).imp fun b hb _ => by omega
theorem TX.bad {B g : Nat} {w : World} {k : Int} (h : TX B g w (.error k)) : w.cell? ⟨g, 1, none⟩ = some (.bool true) ∧ g < w.heap.size := by
  obtain ⟨l, A, c, hR⟩ := h
  exact ⟨hR.cells.2.1, hR.blk.lt⟩
theorem TX.good {B g : Nat} {w : World} {l : List Tk} (h : TX B g w (.ok l)) : w.cell? ⟨g, 1, none⟩ = some (.bool false) ∧ g < w.heap.size := by
  obtain ⟨A, c, hR⟩ := h
  exact ⟨hR.cells.2.1, hR.blk.lt⟩
set_option maxHeartbeats 2000000 in
theorem tsingle_0 (B g : Nat) : StepT B g 7 84 (singleK 0) := by
  intro w σ h
  have F0 : Fr Non w (w.alloc (.cells #[.int .i64 0, .string ⟨#[]⟩, .int .i64 0, .bool false, .int .i64 0, .string ⟨#[]⟩, .int .i64 0, .string ⟨#[]⟩, .slice none 0 0] 28)) := (Fr.refl Non w).alloc _
  have FL := Lib.hid (xfail_any B g σ _ (h.non F0))
  have HL := Lib.hid h.lt
  have HE : Hid (dropV (onS σ (singleK 0)) = onM σ errK ∧ (∃ k, onM σ errK = .error k) ∧ ∀ b r, onS σ (singleK 0) = .ok (b, r) → (Pd.mk ⟨0, [], 0, zCl, 0, []⟩ []) = b) := Lib.hid (by
    clear h FL
    cases σ with
    | ok l => exact ⟨rfl, ⟨_, rfl⟩, fun b r e => by cases e⟩
    | error z => exact ⟨rfl, ⟨_, rfl⟩, fun b r e => by cases e⟩)
  clear h F0
  generalize onS σ (singleK 0) = X at *
  go_enter Tryz.func84, Tryz.ntmps84
  go_wp2_with fail
  refine FL.out.mono ?_
  rintro e w1 ⟨rfl, hT, hF⟩
  have HT1 := Lib.hid hT
  have HF1 := Lib.hid (((Fr.refl (One g) w).alloc _).trans hF)
  have HZ1 : Hid (PdB w1 w.heap.size ⟨0, [], 0, zCl, 0, []⟩ noKv) := Lib.hid ((pd_new w _ ⟨0, [], 0, zCl, 0, []⟩ noKv rfl).fr hF (fun e => by have : w.heap.size = g := e; have := HL.out; omega))
  clear hF FL
  obtain ⟨e1, ⟨k, e2⟩, e3⟩ := HE.out
  rw [e2] at hT
  obtain ⟨cb, _⟩ := hT.bad
  clear hT e1 e2 e3
  obtain ⟨f0, f1, f2, f3, f4, f5, f6, f7, f8⟩ := pdB_frozen HZ1.out
  obtain ⟨r0, r1, r2, r3, r4, r5, r6, r7, r8⟩ := pdB_cells HZ1.out
  dsimp only [noKv, zCl] at r0 r1 r2 r3 r4 r5 r6 r7 r8
  have E5 := Lib.hid (setPd_B HZ1.out ⟨0, [], 0, zCl, 0, []⟩ noKv)
  have T5 := Lib.hid (HT1.out.fresh (setPd_fr w1 w.heap.size ⟨0, [], 0, zCl, 0, []⟩ noKv) (fun k e => by have : k = w.heap.size := e; have := HL.out; omega))
  have G5 := Lib.hid (setPd_end HF1.out ⟨0, [], 0, zCl, 0, []⟩ noKv)
  clear HF1 HT1 HZ1
  unfold setPd kidV noKv zCl at E5 T5 G5
  dsimp only at E5 T5 G5
  go_wp2
  exact bodyPost_ret (ret_pd (p := 4) rfl _ _ w.heap.size ⟨0, [], 0, zCl, 0, []⟩ noKv rfl E5.out) rfl ⟨⟨.mk ⟨0, [], 0, zCl, 0, []⟩ [], _, rfl, ⟨noKv, rfl, KdS.nil_ _ _, i64b_0⟩, by rw [HE.out.1]; exact T5.out, HE.out.2.2⟩, G5.out⟩
set_option maxHeartbeats 4000000 in
theorem tsingle_of (B g : Nat) (d : Int) (hd1 : 1 ≤ d) (hd6 : d ≤ 6) (n : Nat) (hs : StepT B g (d + 1) 84 (singleK n)) (hp : StepT B g (d + 1) 27 (predK n)) : StepT B g d 84 (singleK (n + 1)) := by
  intro w σ h
  have F0 : Fr Non w (w.alloc (.cells #[.int .i64 0, .string ⟨#[]⟩, .int .i64 0, .bool false, .int .i64 0, .string ⟨#[]⟩, .int .i64 0, .string ⟨#[]⟩, .slice none 0 0] 28)) := (Fr.refl Non w).alloc _
  have h0 := h.non F0
  have HL := Lib.hid h.lt
  have HP := Lib.hid hp
  have HSg := Lib.hid hs
  have HF0 : Hid (Fr (One g) w (w.alloc (.cells #[.int .i64 0, .string ⟨#[]⟩, .int .i64 0, .bool false, .int .i64 0, .string ⟨#[]⟩, .int .i64 0, .string ⟨#[]⟩, .slice none 0 0] 28))) := Lib.hid F0.any
  have HZ0 : Hid (PdB (w.alloc (.cells #[.int .i64 0, .string ⟨#[]⟩, .int .i64 0, .bool false, .int .i64 0, .string ⟨#[]⟩, .int .i64 0, .string ⟨#[]⟩, .slice none 0 0] 28)) w.heap.size ⟨0, [], 0, zCl, 0, []⟩ noKv) := Lib.hid (pd_new w _ ⟨0, [], 0, zCl, 0, []⟩ noKv rfl)
  have hd7 : decide ((6 : Int) < d) = false := decide_eq_false (by omega)
  have hw1 : IntKind.i64.wrap (d + 1) = d + 1 := IntWalk.i64_in _ ⟨by omega, by omega⟩
  have HS0 : Hid (w.heap.size + 1 = (w.alloc (.cells #[.int .i64 0, .string ⟨#[]⟩, .int .i64 0, .bool false, .int .i64 0, .string ⟨#[]⟩, .int .i64 0, .string ⟨#[]⟩, .slice none 0 0] 28)).heap.size) := Lib.hid (by simp)
  clear hs hp F0
  cases σ with
  | error z =>
    have HT0 := Lib.hid h0
    obtain ⟨cb, _⟩ := h0.bad
    clear h h0 HP HSg
    go_enter Tryz.func84, Tryz.ntmps84
    go_upto_region 3 with fail
    generalize hW : w.alloc (.cells #[.int .i64 0, .string ⟨#[]⟩, .int .i64 0, .bool false, .int .i64 0, .string ⟨#[]⟩, .int .i64 0, .string ⟨#[]⟩, .slice none 0 0] 28) = w1 at *
    clear hW
    go_upto_region 4 with fail
    clear cb
    obtain ⟨f0, f1, f2, f3, f4, f5, f6, f7, f8⟩ := pdB_frozen HZ0.out
    obtain ⟨r0, r1, r2, r3, r4, r5, r6, r7, r8⟩ := pdB_cells HZ0.out
    dsimp only [noKv, zCl] at r0 r1 r2 r3 r4 r5 r6 r7 r8
    have E5 := Lib.hid (setPd_B HZ0.out ⟨0, [], 0, zCl, 0, []⟩ noKv)
    have T5 := Lib.hid (HT0.out.fresh (setPd_fr w1 w.heap.size ⟨0, [], 0, zCl, 0, []⟩ noKv) (fun k e => by have : k = w.heap.size := e; have := HL.out; omega))
    have G5 := Lib.hid (setPd_end HF0.out ⟨0, [], 0, zCl, 0, []⟩ noKv)
    clear HF0 HT0 HZ0
    unfold setPd kidV noKv zCl at E5 T5 G5
    dsimp only at E5 T5 G5
    go_wp2
    exact bodyPost_ret (ret_pd (p := 4) rfl _ _ w.heap.size ⟨0, [], 0, zCl, 0, []⟩ noKv rfl E5.out) rfl ⟨⟨.mk ⟨0, [], 0, zCl, 0, []⟩ [], _, rfl, ⟨noKv, rfl, KdS.nil_ _ _, i64b_0⟩, T5.out, fun b r e => by cases e⟩, G5.out⟩
  | ok l =>
    have HT0 := Lib.hid h0
    obtain ⟨cb, _⟩ := h0.good
    have I1 := Lib.hid (xis_any B g 1 notW (.ok l) _ h0)
    have I2 := Lib.hid (xis_any B g 4 [40] (.ok l) _ h0)
    have I3 := Lib.hid (xis_any B g 1 allW (.ok l) _ h0)
    have TK := Lib.hid (xtake_any B g l _ h0)
    have AK := Lib.hid (xasked_any B g (.ok l) _ h0)
    have HE : Hid (onS (.ok l) (singleK (n + 1)) = singleK (n + 1) l) := Lib.hid rfl
    have C1 := Lib.hid (fun e => single_not (d := n) (l := l) e)
    have C2 := Lib.hid (fun e e2 => single_open (d := n) (l := l) e e2)
    have C3 := Lib.hid (fun e e2 e3 => single_all (d := n) (l := l) e e2 e3)
    have C4 := Lib.hid (fun e e2 e3 => single_asked (d := n) (l := l) e e2 e3)
    have J1 : Hid (isX 1 notW (.ok l) = isK 1 notW l) := Lib.hid rfl
    have J2 : Hid (isX 4 [40] (.ok l) = isK 4 [40] l) := Lib.hid rfl
    have J3 : Hid (isX 1 allW (.ok l) = isK 1 allW l) := Lib.hid rfl
    rw [J1.out] at I1
    rw [J2.out] at I2
    rw [J3.out] at I3
    clear J1 J2 J3 h h0
    rw [HE.out]
    clear HE
    generalize singleK (n + 1) l = X at *
    generalize isK 1 notW l = b1 at *
    generalize isK 4 [40] l = b2 at *
    generalize isK 1 allW l = b3 at *
    have HXA : Hid (onS (.ok l) askedK = askedK l) := Lib.hid rfl
    rw [HXA.out] at AK
    clear HXA
    generalize askedK l = XA at *
    go_enter Tryz.func84, Tryz.ntmps84
    go_upto_region 3 with fail
    generalize hW : w.alloc (.cells #[.int .i64 0, .string ⟨#[]⟩, .int .i64 0, .bool false, .int .i64 0, .string ⟨#[]⟩, .int .i64 0, .string ⟨#[]⟩, .slice none 0 0] 28) = w1 at *
    clear hW
    go_wp2_with fail
    refine I1.out.mono ?_
    rintro e wx ⟨rfl, rfl⟩
    clear I1 cb
    cases b1
    · go_wp2_with fail
      refine I2.out.mono ?_
      rintro e wx ⟨rfl, rfl⟩
      clear I2 C1
      cases b2
      · go_wp2_with fail
        refine I3.out.mono ?_
        rintro e wx ⟨rfl, rfl⟩
        clear I3 C2
        cases b3
        · have A41 := Lib.hid (C4.out (by first | rfl | trivial) (by first | rfl | trivial) (by first | rfl | trivial))
          clear C3 C4 TK HP HSg
          go_wp2_with fail
          refine AK.out.mono ?_
          rintro e w4 ⟨⟨p, v, rfl, ⟨s, rfl, hk, hb⟩, hT, hA⟩, hF⟩
          have HT4 := Lib.hid hT
          have HF4 := Lib.hid (HF0.out.trans hF)
          have HZ4 := Lib.hid (HZ0.out.fr hF (fun e => by have : w.heap.size = g := e; have := HL.out; omega))
          have HK4 : Hid (KdS (fun b => w.heap.size + 1 ≤ b) w4 s p.kids) := Lib.hid (hk.imp fun b hb _ => by have := HS0.out; omega)
          have HB := Lib.hid hb
          have HA := Lib.hid hA
          clear hT hF hA hk hb AK HT0 HF0 HZ0
          obtain ⟨⟨xo, xc, xm, ⟨xn, xi, xt⟩, xk, xp⟩, xks⟩ := p
          obtain ⟨sA, sn, sc⟩ := s
          unfold pdV pdC kidV
          dsimp only [Pd.hd, Pd.kids] at *
          obtain ⟨f0, f1, f2, f3, f4, f5, f6, f7, f8⟩ := pdB_frozen HZ4.out
          obtain ⟨r0, r1, r2, r3, r4, r5, r6, r7, r8⟩ := pdB_cells HZ4.out
          dsimp only [noKv, zCl] at r0 r1 r2 r3 r4 r5 r6 r7 r8
          have E5 := Lib.hid (setPd_B HZ4.out ⟨xo, xc, xm, ⟨xn, xi, xt⟩, xk, xp⟩ ⟨sA, sn, sc⟩)
          have T5 := Lib.hid (HT4.out.fresh (setPd_fr w4 w.heap.size ⟨xo, xc, xm, ⟨xn, xi, xt⟩, xk, xp⟩ ⟨sA, sn, sc⟩) (fun k e => by have : k = w.heap.size := e; have := HL.out; omega))
          have G5 := Lib.hid (setPd_end HF4.out ⟨xo, xc, xm, ⟨xn, xi, xt⟩, xk, xp⟩ ⟨sA, sn, sc⟩)
          have K5 := Lib.hid (kd_setT ⟨xo, xc, xm, ⟨xn, xi, xt⟩, xk, xp⟩ ⟨sA, sn, sc⟩ _ _ HK4.out)
          clear HK4 HF4 HT4 HZ4
          unfold setPd kidV at E5 T5 G5 K5
          dsimp only at E5 T5 G5 K5
          go_wp2
          exact bodyPost_ret (ret_pd (p := 4) rfl _ _ w.heap.size ⟨xo, xc, xm, ⟨xn, xi, xt⟩, xk, xp⟩ ⟨sA, sn, sc⟩ rfl E5.out) rfl ⟨⟨.mk ⟨xo, xc, xm, ⟨xn, xi, xt⟩, xk, xp⟩ xks, _, rfl, ⟨⟨sA, sn, sc⟩, rfl, K5.out, HB.out⟩, by rw [A41.out]; exact T5.out, fun b r e => HA.out b r (by rw [← A41.out]; exact e)⟩, G5.out⟩
        · have A31 := Lib.hid (C3.out (by first | rfl | trivial) (by first | rfl | trivial) (by first | rfl | trivial))
          clear C3 C4 AK HP HSg
          go_wp2_with fail
          refine TK.out.mono ?_
          rintro e w3 ⟨⟨tv, rfl⟩, hT, hF⟩
          have HT3 := Lib.hid hT
          have HF3 := Lib.hid (HF0.out.trans hF)
          have HZ3 := Lib.hid (HZ0.out.fr hF (fun e => by have : w.heap.size = g := e; have := HL.out; omega))
          clear hT hF TK HT0 HF0 HZ0
          obtain ⟨f0, f1, f2, f3, f4, f5, f6, f7, f8⟩ := pdB_frozen HZ3.out
          obtain ⟨r0, r1, r2, r3, r4, r5, r6, r7, r8⟩ := pdB_cells HZ3.out
          dsimp only [noKv, zCl] at r0 r1 r2 r3 r4 r5 r6 r7 r8
          have E5 := Lib.hid (setPd_B HZ3.out ⟨1, [], 0, zCl, 0, []⟩ noKv)
          have T5 := Lib.hid (HT3.out.fresh (setPd_fr w3 w.heap.size ⟨1, [], 0, zCl, 0, []⟩ noKv) (fun k e => by have : k = w.heap.size := e; have := HL.out; omega))
          have G5 := Lib.hid (setPd_end HF3.out ⟨1, [], 0, zCl, 0, []⟩ noKv)
          clear HF3 HT3 HZ3
          unfold setPd kidV noKv zCl at E5 T5 G5
          dsimp only at E5 T5 G5
          go_wp2
          exact bodyPost_ret (ret_pd (p := 4) rfl _ _ w.heap.size ⟨1, [], 0, zCl, 0, []⟩ noKv rfl E5.out) rfl ⟨⟨.mk ⟨1, [], 0, zCl, 0, []⟩ [], _, rfl, ⟨noKv, rfl, KdS.nil_ _ _, i64b_0⟩, by rw [A31.out]; exact T5.out, fun b r e => by rw [A31.out] at e; cases e; rfl⟩, G5.out⟩
      · have A21 := Lib.hid (C2.out (by first | rfl | trivial) (by first | rfl | trivial))
        clear C2 C3 C4 I3 AK HSg
        go_wp2_with fail
        refine TK.out.mono ?_
        rintro e w2 ⟨⟨tv, rfl⟩, hT, hF⟩
        have HT2 := Lib.hid hT
        have HF2 := Lib.hid (HF0.out.trans hF)
        have HZ2 := Lib.hid (HZ0.out.fr hF (fun e => by have : w.heap.size = g := e; have := HL.out; omega))
        have HS2 : Hid (w.heap.size + 1 ≤ w2.heap.size) := Lib.hid (by have := hF.size; have := HS0.out; omega)
        clear hT hF TK HT0 HF0 HZ0
        have PC := Lib.hid (HP.out w2 _ HT2.out)
        have HON : Hid (onS (.ok (tlK l)) (predK n) = predK n (tlK l)) := Lib.hid rfl
        rw [HON.out] at PC
        clear HON
        generalize predK n (tlK l) = y at *
        go_wp2_with fail
        refine PC.out.mono ?_
        rintro e w3 ⟨⟨p, v, rfl, ⟨s, rfl, hk, hb⟩, hT, hA⟩, hF⟩
        have HT3 := Lib.hid hT
        have HF3 := Lib.hid (HF2.out.trans hF)
        have HZ3 := Lib.hid (HZ2.out.fr hF (fun e => by have : w.heap.size = g := e; have := HL.out; omega))
        have HK3 : Hid (KdS (fun b => w.heap.size + 1 ≤ b) w3 s p.kids) := Lib.hid (hk.imp fun b hb _ => by have := HS2.out; omega)
        have HS3 : Hid (w.heap.size + 1 ≤ w3.heap.size) := Lib.hid (Nat.le_trans HS2.out hF.size)
        have HB := Lib.hid hb
        have HA : Hid (dropV X = onM (dropV y) (mustK 4 [41]) ∧ ∀ b r, X = .ok (b, r) → p = b) := Lib.hid (by
          rw [A21.out]
          cases y with
          | error z => exact ⟨rfl, fun b r e => by cases e⟩
          | ok y =>
            obtain ⟨y1, y2⟩ := y
            obtain rfl := hA y1 y2 rfl
            unfold onM dropV
            dsimp only
            cases mustK 4 [41] y2 with
            | error z => exact ⟨rfl, fun b r e => by cases e⟩
            | ok r2 => exact ⟨rfl, fun b r e => by cases e; rfl⟩)
        clear hT hF hA hk hb PC HT2 HF2 HZ2 A21
        obtain ⟨⟨xo, xc, xm, ⟨xn, xi, xt⟩, xk, xp⟩, xks⟩ := p
        obtain ⟨sA, sn, sc⟩ := s
        unfold pdV pdC kidV
        dsimp only [Pd.hd, Pd.kids] at *
        have FA : Fr Non w3 (w3.alloc (.cells #[.int .i64 xo, .string ⟨xc.toArray⟩, .int .i64 xm, .bool xn, .int .i64 xi, .string ⟨xt.toArray⟩, .int .i64 xk, .string ⟨xp.toArray⟩, .slice sA sn sc] 28)) := (Fr.refl Non w3).alloc _
        have HV3 : Hid (PdB (w3.alloc (.cells #[.int .i64 xo, .string ⟨xc.toArray⟩, .int .i64 xm, .bool xn, .int .i64 xi, .string ⟨xt.toArray⟩, .int .i64 xk, .string ⟨xp.toArray⟩, .slice sA sn sc] 28)) w3.heap.size ⟨xo, xc, xm, ⟨xn, xi, xt⟩, xk, xp⟩ ⟨sA, sn, sc⟩) := Lib.hid (pd_new w3 _ ⟨xo, xc, xm, ⟨xn, xi, xt⟩, xk, xp⟩ ⟨sA, sn, sc⟩ rfl)
        have ND := Lib.hid (xmust_any B g 4 [41] _ _ (HT3.out.non FA))
        have HFA := Lib.hid FA
        clear FA HT3
        go_wp2_with fail
        refine ND.out.mono ?_
        rintro e w4 ⟨rfl, hT, hF⟩
        have HT4 := Lib.hid hT
        have HF4 := Lib.hid ((HF3.out.trans HFA.out.any).trans hF)
        have HZ4 := Lib.hid ((HZ3.out.fr HFA.out (fun e => e)).fr hF (fun e => by have : w.heap.size = g := e; have := HL.out; omega))
        have HV4 := Lib.hid (HV3.out.fr hF (fun e => by have : w3.heap.size = g := e; have := HL.out; have := HS3.out; omega))
        have HK4 := Lib.hid ((HK3.out.non HFA.out).fr hF (fun b hb _ e => by have : b = g := e; have := HL.out; omega))
        clear hT hF ND HFA HF3 HZ3 HV3 HK3
        obtain ⟨f0, f1, f2, f3, f4, f5, f6, f7, f8⟩ := pdB_frozen HZ4.out
        obtain ⟨r0, r1, r2, r3, r4, r5, r6, r7, r8⟩ := pdB_cells HZ4.out
        obtain ⟨p0, p1, p2, p3, p4, p5, p6, p7, p8⟩ := pdB_cells HV4.out
        dsimp only [noKv, zCl] at r0 r1 r2 r3 r4 r5 r6 r7 r8 p0 p1 p2 p3 p4 p5 p6 p7 p8
        have E5 := Lib.hid (setPd_B HZ4.out ⟨xo, xc, xm, ⟨xn, xi, xt⟩, xk, xp⟩ ⟨sA, sn, sc⟩)
        have T5 := Lib.hid (HT4.out.fresh (setPd_fr w4 w.heap.size ⟨xo, xc, xm, ⟨xn, xi, xt⟩, xk, xp⟩ ⟨sA, sn, sc⟩) (fun k e => by have : k = w.heap.size := e; have := HL.out; omega))
        have G5 := Lib.hid (setPd_end HF4.out ⟨xo, xc, xm, ⟨xn, xi, xt⟩, xk, xp⟩ ⟨sA, sn, sc⟩)
        have K5 := Lib.hid (kd_setT ⟨xo, xc, xm, ⟨xn, xi, xt⟩, xk, xp⟩ ⟨sA, sn, sc⟩ _ _ HK4.out)
        clear HK4 HF4 HT4 HZ4 HV4
        unfold setPd kidV at E5 T5 G5 K5
        dsimp only at E5 T5 G5 K5
        go_wp2
        exact bodyPost_ret (ret_pd (p := 4) rfl _ _ w.heap.size ⟨xo, xc, xm, ⟨xn, xi, xt⟩, xk, xp⟩ ⟨sA, sn, sc⟩ rfl E5.out) rfl ⟨⟨.mk ⟨xo, xc, xm, ⟨xn, xi, xt⟩, xk, xp⟩ xks, _, rfl, ⟨⟨sA, sn, sc⟩, rfl, K5.out, HB.out⟩, by rw [HA.out.1]; exact T5.out, HA.out.2⟩, G5.out⟩
    · have A11 := Lib.hid (C1.out (by first | rfl | trivial))
      clear C1 C2 C3 C4 I2 I3 AK HP
      go_wp2_with fail
      refine TK.out.mono ?_
      rintro e w2 ⟨⟨tv, rfl⟩, hT, hF⟩
      have HT2 := Lib.hid hT
      have HF2 := Lib.hid (HF0.out.trans hF)
      have HZ2 := Lib.hid (HZ0.out.fr hF (fun e => by have : w.heap.size = g := e; have := HL.out; omega))
      have HS2 : Hid (w.heap.size + 1 ≤ w2.heap.size) := Lib.hid (by have := hF.size; have := HS0.out; omega)
      clear hT hF TK HT0 HF0 HZ0
      have PC := Lib.hid (HSg.out w2 _ HT2.out)
      have HON : Hid (onS (.ok (tlK l)) (singleK n) = singleK n (tlK l)) := Lib.hid rfl
      rw [HON.out] at PC
      clear HON
      generalize singleK n (tlK l) = y at *
      go_wp2_with fail
      refine PC.out.mono ?_
      rintro e w3 ⟨⟨p, v, rfl, ⟨s, rfl, hk, hb⟩, hT, hA⟩, hF⟩
      have HT3 := Lib.hid hT
      have HF3 := Lib.hid (HF2.out.trans hF)
      have HZ3 := Lib.hid (HZ2.out.fr hF (fun e => by have : w.heap.size = g := e; have := HL.out; omega))
      have HS3 : w.heap.size + 1 ≤ w3.heap.size := Nat.le_trans HS2.out hF.size
      have HA : Hid (dropV X = dropV y ∧ ∀ b r, X = .ok (b, r) → Pd.mk ⟨5, [], 0, zCl, 0, []⟩ [p] = b) := Lib.hid (by
        rw [A11.out]
        cases y with
        | error z => exact ⟨rfl, fun b r e => by cases e⟩
        | ok y => obtain ⟨y1, y2⟩ := y; obtain rfl := hA y1 y2 rfl; exact ⟨rfl, fun b r e => by cases e; rfl⟩)
      have R1 := Lib.hid (PRow.lit w3 (w.heap.size + 1) w3.heap.size p s (pdC p.hd s) rfl rfl HS3 hb (hk.imp fun b hb _ => by have := HS2.out; omega))
      clear hT hF hA hk hb PC HT2 HF2 HZ2 A11 HS3
      obtain ⟨⟨xo, xc, xm, ⟨xn, xi, xt⟩, xk, xp⟩, xks⟩ := p
      obtain ⟨sA, sn, sc⟩ := s
      unfold pdV pdC kidV
      unfold pdC kidV at R1
      dsimp only [Pd.hd, Pd.kids] at *
      have FA : Fr Non w3 (w3.alloc (.cells #[.int .i64 xo, .string ⟨xc.toArray⟩, .int .i64 xm, .bool xn, .int .i64 xi, .string ⟨xt.toArray⟩, .int .i64 xk, .string ⟨xp.toArray⟩, .slice sA sn sc] 28)) := (Fr.refl Non w3).alloc _
      have HT4 := Lib.hid (HT3.out.non FA)
      have HF4 := Lib.hid (HF3.out.trans FA.any)
      have HZ4 := Lib.hid (HZ3.out.fr FA (fun e => e))
      clear FA HT3 HF3 HZ3
      have K4 := Lib.hid R1.out.kds
      clear R1
      obtain ⟨f0, f1, f2, f3, f4, f5, f6, f7, f8⟩ := pdB_frozen HZ4.out
      obtain ⟨r0, r1, r2, r3, r4, r5, r6, r7, r8⟩ := pdB_cells HZ4.out
      dsimp only [noKv, zCl] at r0 r1 r2 r3 r4 r5 r6 r7 r8
      generalize hW : w3.alloc (.cells #[.int .i64 xo, .string ⟨xc.toArray⟩, .int .i64 xm, .bool xn, .int .i64 xi, .string ⟨xt.toArray⟩, .int .i64 xk, .string ⟨xp.toArray⟩, .slice sA sn sc] 28) = W4 at *
      have E5 := Lib.hid (setPd_B HZ4.out ⟨5, [], 0, zCl, 0, []⟩ ⟨some ⟨w3.heap.size, 0, none⟩, 1, 1⟩)
      have T5 := Lib.hid (HT4.out.fresh (setPd_fr W4 w.heap.size ⟨5, [], 0, zCl, 0, []⟩ ⟨some ⟨w3.heap.size, 0, none⟩, 1, 1⟩) (fun k e => by have : k = w.heap.size := e; have := HL.out; omega))
      have G5 := Lib.hid (setPd_end HF4.out ⟨5, [], 0, zCl, 0, []⟩ ⟨some ⟨w3.heap.size, 0, none⟩, 1, 1⟩)
      have K5 := Lib.hid (kd_setT ⟨5, [], 0, zCl, 0, []⟩ ⟨some ⟨w3.heap.size, 0, none⟩, 1, 1⟩ _ _ K4.out)
      clear K4 HF4 HT4 HZ4
      unfold setPd kidV zCl at E5 T5 G5 K5
      dsimp only at E5 T5 G5 K5
      subst hW
      go_wp2
      exact bodyPost_ret (ret_pd (p := 4) rfl _ _ w.heap.size ⟨5, [], 0, zCl, 0, []⟩ ⟨some ⟨w3.heap.size, 0, none⟩, 1, 1⟩ rfl E5.out) rfl ⟨⟨.mk ⟨5, [], 0, zCl, 0, []⟩ [.mk ⟨xo, xc, xm, ⟨xn, xi, xt⟩, xk, xp⟩ xks], _, rfl, ⟨⟨some ⟨w3.heap.size, 0, none⟩, 1, 1⟩, rfl, K5.out, i64b_0⟩, by rw [HA.out.1]; exact T5.out, HA.out.2⟩, G5.out⟩
theorem tsingle_any (B g : Nat) : ∀ n : Nat, n ≤ 6 → StepT B g (7 - (n : Int)) 84 (singleK n)
  | 0, _ => tsingle_0 B g
  | n + 1, h => by
    have hs := tsingle_any B g n (by omega)
    have hp := tpred_of B g _ (bothK n) _ (reads_both n) (tboth_of B g _ (singleK n) _ (reads_single n) hs)
    have e : (7 : Int) - ((n + 1 : Nat) : Int) + 1 = 7 - (n : Int) := by omega
    exact tsingle_of B g _ (by omega) (by omega) n (by rw [e]; exact hs) (by rw [e]; exact hp)
/-- a predicate, from the outermost -/
theorem tpred_any (B g : Nat) : StepT B g 1 27 (predK 6) := tpred_of B g 1 (bothK 6) _ (reads_both 6) (tboth_of B g 1 (singleK 6) _ (reads_single 6) (tsingle_any B g 6 (Nat.le_refl _)))
end Go.Proofs.YtipgaafgnefmdaaGreatDoor
