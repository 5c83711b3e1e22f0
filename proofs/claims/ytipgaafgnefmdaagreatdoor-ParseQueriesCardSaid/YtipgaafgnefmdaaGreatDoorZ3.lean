/-
  Joined: Layer 19: the program's reader: its state in a block; what the next token is; that it fails. · How a reader's step ends. · Layer 19: the program's reader: a token read; a word that must be, or may be; a name, a text, a number. · Words on a cell in a block: read, stored whole, handed back. · Layer 19: the program's reader: one of some words; a name, a text, a number; a value. · Layer 19: the program's reader: a value. · Layer 17: a predicate as a value; slices of them, read as trees; two compared but for what is within them, both programs'. · A predicate in a block: stored whole, handed back. · Append of bytes onto bytes of the call's own: the row stays in its block, or moves to a new one (so two rows that grow stay apart). · Predicates that lie in memory of the call's own: where they lie; a row of them that grows. · Layer 19: the program's reader: what is asked of a column. · Layer 19: the program's reader: predicates one behind the other. · Layer 19: the program's reader: predicates joined by a word.
-/
import Derived.Deep.Slices
import Derived.Laws.StructEq
import Derived.Laws.Rows
import Derived.Laws.ResultCell
import Derived.Lib.Zigzag
import Derived.Laws.Cover1
import Derived.Deep.QuietTactic
import Derived.BigQuiet
import Derived.Deep.RegionHeld3
import Derived.Deep.DrawnRows
import Derived.Test.YtipgaafgnefmdaaGreatDoorZ2
import Derived.Test.YtipgaafgnefmdaaGreatDoorZ1
import Derived.Deep.Cut
import Derived.ArgAppend
import Derived.Deep.DeepAppendRoom

namespace Go.Proofs.YtipgaafgnefmdaaGreatDoor
set_option linter.unusedVariables false
set_option linter.unusedSimpArgs false
set_option maxRecDepth 100000
open Go.RowKit

/-- the next token's cells -/
def HdP (w : World) (a : Addr) (t : Tk) : Prop := w.cell? a = some (.int .i64 t.kind) ∧ w.cell? { block := a.block, off := a.off + 1 } = some (.string ⟨t.txt.toArray⟩) ∧ w.cell? { block := a.block, off := a.off + 2 } = some (.int .i64 t.num) ∧ w.cell? { block := a.block, off := a.off + 3 } = some (.int .i64 t.at_)
/-- the reader in block g, made before B, within so many singles -/
structure PR (w : World) (B g : Nat) (A : Option Addr) (c : Nat) (l : List Tk) (bad : Bool) (d : Int) : Prop where
  blk : Blk w g 83 #[.slice A l.length c, .bool bad, .int .i64 d]
  tks : Tks w (.slice A l.length c) l
  fin : EndL l
  ap : ∀ a, A = some a → a.block ≠ g ∧ a.block < B
  lt : g < B
  le : B ≤ w.heap.size
def PS (w : World) (B g : Nat) (l : List Tk) (bad : Bool) (d : Int) : Prop := ∃ A c, PR w B g A c l bad d
theorem PR.cells {w : World} {B g : Nat} {A : Option Addr} {c : Nat} {l : List Tk} {bad : Bool} {d : Int} (h : PR w B g A c l bad d) :
    w.cell? ⟨g, 0, none⟩ = some (.slice A l.length c) ∧ w.cell? ⟨g, 1, none⟩ = some (.bool bad) ∧ w.cell? ⟨g, 2, none⟩ = some (.int .i64 d) ∧ w.frozen? ⟨g, 0, none⟩ = false ∧ w.frozen? ⟨g, 1, none⟩ = false ∧ w.frozen? ⟨g, 2, none⟩ = false :=
  ⟨h.blk.cell 0, h.blk.cell 1, h.blk.cell 2, h.blk.frozen 0, h.blk.frozen 1, h.blk.frozen 2⟩
theorem PR.tok {w : World} {B g : Nat} {A : Option Addr} {c : Nat} {l : List Tk} {bad : Bool} {d : Int} (h : PR w B g A c l bad d) : ∃ a, A = some a ∧ HdP w a (hdT l) := by
  obtain ⟨t, r, rfl, he⟩ := h.fin.hd
  obtain ⟨A', c', e, hl, hn, hcell⟩ := h.tks
  simp only [Value.slice.injEq] at e
  obtain ⟨rfl, _, rfl⟩ := e
  cases A with
  | none => have := hn rfl; simp at hl; omega
  | some a =>
    have h0 := hcell a rfl 0 (by simp)
    rw [Nat.zero_mul] at h0
    have ea : a.add 0 = a := by cases a; rfl
    rw [ea] at h0
    rw [he]
    exact ⟨a, rfl, h0 0 _ rfl, h0 1 _ rfl, h0 2 _ rfl, h0 3 _ rfl⟩
theorem PR.tks_fr {w w' : World} {B g : Nat} {A : Option Addr} {c : Nat} {l : List Tk} {bad : Bool} {d : Int} (h : PR w B g A c l bad d) (hf : Fr (One g) w w') : Tks w' (.slice A l.length c) l :=
  h.tks.fr hf (fun b hb e => by
    cases A with
    | none => simp [Value.ownBlock] at hb
    | some a =>
      have e1 : a.block = b := by simpa [Value.ownBlock] using hb
      have e2 : b = g := e
      exact (h.ap a rfl).1 (e1.trans e2))
theorem PS.fresh {S : Nat → Prop} {w w' : World} {B g : Nat} {l : List Tk} {bad : Bool} {d : Int} (h : PS w B g l bad d) (hf : Fr S w w') (hs : ∀ k, S k → B ≤ k) : PS w' B g l bad d := by
  obtain ⟨A, c, hR⟩ := h
  refine ⟨A, c, hR.blk.fr hf (fun e => ?_), hR.tks.fr hf (fun b hb e => ?_), hR.fin, hR.ap, hR.lt, Nat.le_trans hR.le hf.size⟩
  · have := hs g e; have := hR.lt; omega
  · cases A with
    | none => simp [Value.ownBlock] at hb
    | some a =>
      have e1 : a.block = b := by simpa [Value.ownBlock] using hb
      have := hs b e
      have := (hR.ap a rfl).2
      omega
theorem PS.non {w w' : World} {B g : Nat} {l : List Tk} {bad : Bool} {d : Int} (h : PS w B g l bad d) (hf : Fr Non w w') : PS w' B g l bad d := h.fresh hf fun _ e => e.elim
theorem PS.le {w : World} {B g : Nat} {l : List Tk} {bad : Bool} {d : Int} (h : PS w B g l bad d) : g < B ∧ B ≤ w.heap.size := by
  obtain ⟨A, c, hR⟩ := h
  exact ⟨hR.lt, hR.le⟩
theorem PS.fin {w : World} {B g : Nat} {l : List Tk} {bad : Bool} {d : Int} (h : PS w B g l bad d) : EndL l := by
  obtain ⟨A, c, hR⟩ := h
  exact hR.fin
/-- the program's reader in block g stands so -/
def PX (B g : Nat) (d : Int) (w : World) (σ : Sg) : Prop := match σ with | .ok l => PS w B g l false d | .error k => ∃ l, PS w B g l true d ∧ (hdT l).at_ = k
theorem PX.fresh {B g : Nat} {d : Int} {σ : Sg} {S : Nat → Prop} {w w' : World} (h : PX B g d w σ) (hf : Fr S w w') (hs : ∀ k, S k → B ≤ k) : PX B g d w' σ := by
  cases σ with
  | ok l => exact PS.fresh h hf hs
  | error k => obtain ⟨l, hl, hk⟩ := h; exact ⟨l, hl.fresh hf hs, hk⟩
theorem PX.non {B g : Nat} {d : Int} {σ : Sg} {w w' : World} (h : PX B g d w σ) (hf : Fr Non w w') : PX B g d w' σ := h.fresh hf fun _ e => e.elim
theorem PX.lt {B g : Nat} {d : Int} {σ : Sg} {w : World} (h : PX B g d w σ) : g < B ∧ B ≤ w.heap.size := by
  cases σ with
  | ok l => exact PS.le h
  | error k => obtain ⟨l, hl, _⟩ := h; exact hl.le
theorem PX.fin {B g : Nat} {d : Int} {w : World} {l : List Tk} (h : PX B g d w (.ok l)) : EndL l := PS.fin h
def sayX (s : Tx) (σ : Sg) : Bool := match σ with | .ok l => sayK s l | .error _ => false
theorem pis_any (B g : Nat) (d k : Int) (σ : Sg) (w : World) (h : PX B g d w σ) :
    Calls Tryz.prog 41 #[.pointer (some ⟨g, 0, none⟩), .int .i64 k] w fun e w' => e = .returned (.bool (kindX k σ)) ∧ w = w' := by
  cases σ with
  | ok l =>
    obtain ⟨A, c, hR⟩ := h
    obtain ⟨a, rfl, t0, t1, t2, t3⟩ := hR.tok
    obtain ⟨c0, c1, c2, z0, z1, z2⟩ := hR.cells
    have hln := hR.fin.ne
    have HE0 : Hid (kindX k (.ok l) = decide ((hdT l).kind = k)) := Lib.hid rfl
    clear hR
    generalize kindX k (.ok l) = r at *
    generalize hdT l = t at *
    obtain ⟨tk, tt, tn, ta⟩ := t
    dsimp only at *
    by_cases h1 : tk = k
    · have h1b : (tk == k) = true := by rw [beq_iff_eq]; exact h1
      have HE : Hid (r = true) := Lib.hid (by rw [HE0.out, decide_eq_true h1])
      clear HE0
      subst h1
      go_enter Tryz.func41, Tryz.ntmps41
      go_wp2
      go_ret
      exact ⟨ret_boolE (by rw [HE.out] <;> rfl), rfl⟩
    · have h1b : (tk == k) = false := by rw [beq_eq_false_iff_ne]; exact h1
      have HE : Hid (r = false) := Lib.hid (by rw [HE0.out, decide_eq_false h1])
      clear HE0 h1
      go_enter Tryz.func41, Tryz.ntmps41
      go_wp2
      go_ret
      exact ⟨ret_boolE (by rw [HE.out] <;> rfl), rfl⟩
  | error z =>
    obtain ⟨l, ⟨A, c, hR⟩, hz⟩ := h
    obtain ⟨c0, c1, c2, z0, z1, z2⟩ := hR.cells
    clear hR hz
    go_enter Tryz.func41, Tryz.ntmps41
    go_wp2
    go_ret
    exact ⟨rfl, rfl⟩
theorem pat_any (B g : Nat) (d : Int) (l : List Tk) (bad : Bool) (w : World) (h : PS w B g l bad d) :
    Calls Tryz.prog 42 #[.pointer (some ⟨g, 0, none⟩)] w fun e w' => e = .returned (.int .i64 (hdT l).at_) ∧ w = w' := by
  obtain ⟨A, c, hR⟩ := h
  obtain ⟨a, rfl, t0, t1, t2, t3⟩ := hR.tok
  obtain ⟨c0, c1, c2, z0, z1, z2⟩ := hR.cells
  have hln := hR.fin.ne
  clear hR
  generalize hdT l = t at *
  obtain ⟨tk, tt, tn, ta⟩ := t
  dsimp only at *
  go_enter Tryz.func42, Tryz.ntmps42
  go_wp2
  go_ret
  exact ⟨rfl, rfl⟩
theorem pfail_any (B g : Nat) (d : Int) (σ : Sg) (w : World) (h : PX B g d w σ) :
    Calls Tryz.prog 98 #[.pointer (some ⟨g, 0, none⟩)] w fun e w' => e = .returned (.tuple #[]) ∧ PX B g d w' (onM σ errK) ∧ Fr (One g) w w' := by
  have main : ∀ l bad, PS w B g l bad d → Calls Tryz.prog 98 #[.pointer (some ⟨g, 0, none⟩)] w fun e w' => e = .returned (.tuple #[]) ∧ PS w' B g l true d ∧ Fr (One g) w w' := by
    intro l bad h
    obtain ⟨A, c, hR⟩ := h
    obtain ⟨c0, c1, c2, z0, z1, z2⟩ := hR.cells
    have F2 : Fr (One g) w (w.setCell ⟨g, 1, none⟩ (.bool true)) := (Fr.refl (One g) w).set1 1 _
    have T2 : Hid (PS (w.setCell ⟨g, 1, none⟩ (.bool true)) B g l true d) := Lib.hid ⟨A, c, hR.blk.set 1 _, hR.tks_fr F2, hR.fin, hR.ap, hR.lt, Nat.le_trans hR.le F2.size⟩
    replace F2 : Hid (Fr (One g) w _) := Lib.hid F2
    clear hR
    go_enter Tryz.func98, Tryz.ntmps98
    go_wp2
    go_end0
    exact ⟨rfl, T2.out, F2.out⟩
  cases σ with
  | ok l => exact (main l false h).mono fun e w' he => ⟨he.1, ⟨l, he.2.1, rfl⟩, he.2.2⟩
  | error z => obtain ⟨l, hl, hz⟩ := h; exact (main l true hl).mono fun e w' he => ⟨he.1, ⟨l, he.2.1, hz⟩, he.2.2⟩
set_option maxHeartbeats 1000000 in
theorem psay_any (B g : Nat) (d : Int) (s : Tx) (σ : Sg) (w : World) (h : PX B g d w σ) :
    Calls Tryz.prog 71 #[.pointer (some ⟨g, 0, none⟩), .string ⟨s.toArray⟩] w fun e w' => e = .returned (.bool (sayX s σ)) ∧ w = w' := by
  have I1 := Lib.hid (pis_any B g d 1 σ w h)
  have I4 := Lib.hid (pis_any B g d 4 σ w h)
  cases σ with
  | ok l =>
    obtain ⟨A, c, hR⟩ := h
    obtain ⟨a, rfl, t0, t1, t2, t3⟩ := hR.tok
    obtain ⟨c0, c1, c2, z0, z1, z2⟩ := hR.cells
    have hln := hR.fin.ne
    have HE0 : Hid (sayX s (.ok l) = ((kindX 1 (.ok l) || kindX 4 (.ok l)) && decide ((hdT l).txt = s))) := Lib.hid rfl
    clear hR
    generalize sayX s (.ok l) = r at *
    generalize kindX 1 (.ok l) = b1 at *
    generalize kindX 4 (.ok l) = b4 at *
    generalize hdT l = t at *
    obtain ⟨tk, tt, tn, ta⟩ := t
    dsimp only at *
    by_cases h2 : tt = s
    · have h2b : (tt == s) = true := by rw [beq_iff_eq]; exact h2
      have HE : Hid (r = (b1 || b4)) := Lib.hid (by rw [HE0.out, decide_eq_true h2, Bool.and_true])
      clear HE0
      subst h2
      go_enter Tryz.func71, Tryz.ntmps71
      go_wp2_with fail
      refine I1.out.mono ?_
      rintro e w1 ⟨rfl, rfl⟩
      cases b1
      · go_wp2_with fail
        refine I4.out.mono ?_
        rintro e w1 ⟨rfl, rfl⟩
        cases b4
        · go_wp2
          go_ret
          exact ⟨ret_boolE (by rw [HE.out] <;> rfl), rfl⟩
        · go_wp2
          go_ret
          exact ⟨ret_boolE (by rw [HE.out] <;> rfl), rfl⟩
      · go_wp2
        go_ret
        exact ⟨ret_boolE (by rw [HE.out] <;> rfl), rfl⟩
    · have h2b : (tt == s) = false := by rw [beq_eq_false_iff_ne]; exact h2
      have HE : Hid (r = false) := Lib.hid (by rw [HE0.out, decide_eq_false h2, Bool.and_false])
      clear HE0 h2
      go_enter Tryz.func71, Tryz.ntmps71
      go_wp2_with fail
      refine I1.out.mono ?_
      rintro e w1 ⟨rfl, rfl⟩
      cases b1
      · go_wp2_with fail
        refine I4.out.mono ?_
        rintro e w1 ⟨rfl, rfl⟩
        cases b4
        · go_wp2
          go_ret
          exact ⟨ret_boolE (by rw [HE.out] <;> rfl), rfl⟩
        · go_wp2
          go_ret
          exact ⟨ret_boolE (by rw [HE.out] <;> rfl), rfl⟩
      · go_wp2
        go_ret
        exact ⟨ret_boolE (by rw [HE.out] <;> rfl), rfl⟩
  | error z =>
    clear h
    go_enter Tryz.func71, Tryz.ntmps71
    go_wp2_with fail
    refine I1.out.mono ?_
    rintro e w1 ⟨rfl, rfl⟩
    unfold kindX
    go_wp2_with fail
    refine I4.out.mono ?_
    rintro e w1 ⟨rfl, rfl⟩
    unfold kindX
    go_wp2
    go_ret
    exact ⟨rfl, rfl⟩
set_option maxHeartbeats 1000000 in
theorem pnamed_any (B g : Nat) (d : Int) (σ : Sg) (w : World) (h : PX B g d w σ) :
    Calls Tryz.prog 45 #[.pointer (some ⟨g, 0, none⟩)] w fun e w' => e = .returned (.bool (namedX σ)) ∧ Fr Non w w' := by
  have I1 := Lib.hid (pis_any B g d 1 σ w h)
  cases σ with
  | ok l =>
    obtain ⟨A, c, hR⟩ := h
    obtain ⟨a, rfl, t0, t1, t2, t3⟩ := hR.tok
    obtain ⟨c0, c1, c2, z0, z1, z2⟩ := hR.cells
    have hln := hR.fin.ne
    have HLn := Lib.hid hR.fin.len
    have HE0 : Hid (namedX (.ok l) = (kindX 1 (.ok l) && nameB (hdT l).txt)) := Lib.hid rfl
    clear hR
    generalize namedX (.ok l) = r at *
    generalize kindX 1 (.ok l) = b1 at *
    generalize hdT l = t at *
    obtain ⟨tk, tt, tn, ta⟩ := t
    dsimp only at *
    have N := Lib.hid (sname_any tt w HLn.out)
    cases b1
    · have HE : Hid (r = false) := Lib.hid (by rw [HE0.out, Bool.false_and])
      clear HE0 N
      go_enter Tryz.func45, Tryz.ntmps45
      go_wp2_with fail
      refine I1.out.mono ?_
      rintro e w1 ⟨rfl, rfl⟩
      go_wp2
      go_ret
      exact ⟨ret_boolE (by rw [HE.out] <;> rfl), Fr.refl _ _⟩
    · have HE : Hid (r = nameB tt) := Lib.hid (by rw [HE0.out, Bool.true_and])
      clear HE0
      go_enter Tryz.func45, Tryz.ntmps45
      go_wp2_with fail
      refine I1.out.mono ?_
      rintro e w1 ⟨rfl, rfl⟩
      go_wp2_with fail
      refine N.out.mono ?_
      rintro e w1 ⟨rfl, hF⟩
      have HF := Lib.hid hF
      clear hF
      go_wp2
      go_ret
      exact ⟨ret_boolE (by rw [HE.out] <;> rfl), HF.out⟩
  | error z =>
    clear h
    go_enter Tryz.func45, Tryz.ntmps45
    go_wp2_with fail
    refine I1.out.mono ?_
    rintro e w1 ⟨rfl, rfl⟩
    unfold kindX
    go_wp2
    go_ret
    exact ⟨rfl, Fr.refl _ _⟩
end Go.Proofs.YtipgaafgnefmdaaGreatDoor


namespace Go.Proofs.YtipgaafgnefmdaaGreatDoor
set_option linter.unusedVariables false
set_option linter.unusedSimpArgs false
set_option maxRecDepth 100000
open Go.RowKit

/-- how a step ends, whichever reader -/
def EndX {α : Type} (T : World → Sg → Prop) (x : Rd α) (F : α → World → Value → Prop) (e : Ending) (w : World) : Prop :=
  ∃ a v, e = .returned v ∧ F a w v ∧ T w (dropV x) ∧ ∀ b r, x = .ok (b, r) → a = b
def NmF (s : Tx) (w : World) (v : Value) : Prop := v = .string ⟨s.toArray⟩
theorem EndX.imp {α : Type} {T T' : World → Sg → Prop} {x : Rd α} {F F' : α → World → Value → Prop} {e : Ending} {w : World} (h : EndX T x F e w) (hT : ∀ σ, T w σ → T' w σ) (hF : ∀ a v, F a w v → F' a w v) : EndX T' x F' e w := by
  obtain ⟨a, v, e1, e2, e3, e4⟩ := h
  exact ⟨a, v, e1, hF a v e2, hT _ e3, e4⟩
end Go.Proofs.YtipgaafgnefmdaaGreatDoor


namespace Go.Proofs.YtipgaafgnefmdaaGreatDoor
set_option linter.unusedVariables false
set_option linter.unusedSimpArgs false
set_option maxRecDepth 100000
open Go.RowKit

theorem sz_tkW (w : World) : (sizeOf (Tryz.prog.elem 77)).run Tryz.prog w = .ok 4 w := by kernel_rfl
theorem ret_tk1W {fn : Func} {p : Tmp} (h : fn.results = #[.cell p 99]) (tmps : Array Value) (w : World) (g : Nat) (c : Tk)
    (hp : tmps.getD p undef = .pointer (some ⟨g, 0, none⟩)) (hg : TkBW w g c) : (results fn tmps).run Tryz.prog w = .ok (tkV c) w :=
  results_cell_row h tmps w g 99 _ (0, 0) _ hp hg Tryz.underlying99 rfl (by kernel_rfl)
theorem tkfW_txt (a : Int) (b : Tx) (c d : Int) (W : World) : (Instr.field 99 (.agg #[.int .i64 a, .string ⟨b.toArray⟩, .int .i64 c, .int .i64 d]) 1).run Tryz.prog W = .ok (.string ⟨b.toArray⟩) W := by kernel_rfl
theorem tkfW_num (a : Int) (b : Tx) (c d : Int) (W : World) : (Instr.field 99 (.agg #[.int .i64 a, .string ⟨b.toArray⟩, .int .i64 c, .int .i64 d]) 2).run Tryz.prog W = .ok (.int .i64 c) W := by kernel_rfl
set_option maxHeartbeats 1000000 in
theorem pread_no (B g : Nat) (d : Int) (σ : Sg) (w : World) (h : PX B g d w σ) :
    Calls Tryz.prog 70 #[.pointer (some ⟨g, 0, none⟩), .bool false] w fun e w' => e = .returned (tkV noTk) ∧ PX B g d w' (onM σ errK) ∧ Fr (One g) w w' := by
  have F0 : Fr Non w (w.alloc (.cells #[.int .i64 0, .string ⟨#[]⟩, .int .i64 0, .int .i64 0] 99)) := (Fr.refl Non w).alloc _
  have FL := Lib.hid (pfail_any B g d σ _ (h.non F0))
  have HL := Lib.hid h.lt
  clear h
  go_enter Tryz.func70, Tryz.ntmps70
  go_wp2_with fail
  refine FL.out.mono ?_
  rintro e w1 ⟨rfl, hT, hG⟩
  have HT := Lib.hid hT
  have HG := Lib.hid (((Fr.refl (One g) w).alloc _).trans hG)
  have HC : Hid (TkBW w1 w.heap.size noTk) := Lib.hid ((tkW_new w noTk).fr hG (fun e => by have : w.heap.size = g := e; have := HL.out; omega))
  obtain ⟨e0, e1, e2, e3, f0, f1, f2, f3⟩ := HC.out.facts
  unfold noTk at e0 e1 e2 e3
  dsimp only at e0 e1 e2 e3
  clear hT hG FL
  have T2 : Hid (PX B g d (setTk w1 w.heap.size noTk) (onM σ errK)) := Lib.hid (HT.out.fresh (setTk_fr _ _ _) (fun k e => by have : k = w.heap.size := e; have := HL.out; omega))
  have G2 : Hid (Fr (One g) w (setTk w1 w.heap.size noTk)) := Lib.hid (HG.out.fresh (setTk_fr _ _ _) (fun k e => by have : k = w.heap.size := e; omega))
  have C2 : Hid (TkBW (setTk w1 w.heap.size noTk) w.heap.size noTk) := Lib.hid (setTk_W HC.out noTk)
  go_wp2
  exact bodyPost_ret (ret_tk1W (p := 4) rfl _ _ w.heap.size noTk rfl C2.out) rfl ⟨rfl, T2.out, G2.out⟩
set_option maxHeartbeats 2000000 in
theorem pread_yes (B g : Nat) (d : Int) (l : List Tk) (w : World) (h : PX B g d w (.ok l)) (hk : ¬ (hdT l).kind = 0) :
    Calls Tryz.prog 70 #[.pointer (some ⟨g, 0, none⟩), .bool true] w fun e w' => e = .returned (tkV (hdT l)) ∧ PX B g d w' (.ok (tlK l)) ∧ Fr (One g) w w' := by
  obtain ⟨A, c, hR⟩ := h
  obtain ⟨a, rfl, t0, t1, t2, t3⟩ := hR.tok
  obtain ⟨c0, c1, c2, z0, z1, z2⟩ := hR.cells
  have hln := hR.fin.ne
  have hgl := hR.blk.lt
  have hal := World.block_lt_of_cell? _ _ t0
  have hne := (hR.ap a rfl).1
  have HR := Lib.hid hR
  have hcn : l.length ≤ c := by
    obtain ⟨A0, c0, he, h1, _⟩ := hR.tks
    simp only [Value.slice.injEq] at he
    omega
  obtain ⟨A', c', hrun, hns, hbl⟩ := slice_tlN (f := tkL) Tryz.underlying77 sz_tkW (some a) l.length c 1 .i64 1 rfl (by omega) hcn
  have HNS := Lib.hid hns
  have HBL := Lib.hid hbl
  clear hR hns hbl
  have HL : Hid (tlK l = l.tail) := Lib.hid (by unfold tlK; rw [if_neg hk])
  have HFN : Hid (EndL (tlK l)) := Lib.hid HR.out.fin.tl
  generalize hdT l = t at *
  generalize tlK l = l' at *
  obtain ⟨tk, tt, tn, ta⟩ := t
  dsimp only at *
  have HN1 : Hid (l'.length = l.length - 1) := Lib.hid (by rw [HL.out, List.length_tail])
  clear hk
  have FA : Fr Non w ((w.alloc (.cells #[.int .i64 0, .string ⟨#[]⟩, .int .i64 0, .int .i64 0] 99)).alloc (.cells #[.int .i64 tk, .string ⟨tt.toArray⟩, .int .i64 tn, .int .i64 ta] 99)) := ((Fr.refl Non w).alloc _).alloc _
  have B0 : Hid (TkBW ((w.alloc (.cells #[.int .i64 0, .string ⟨#[]⟩, .int .i64 0, .int .i64 0] 99)).alloc (.cells #[.int .i64 tk, .string ⟨tt.toArray⟩, .int .i64 tn, .int .i64 ta] 99)) w.heap.size noTk) := Lib.hid ((tkW_new w noTk).fr ((Fr.refl Non _).alloc _) (fun e => e))
  have hne1 : w.heap.size ≠ g := by omega
  have FZ : Fr Non w (w.alloc (.cells #[.int .i64 0, .string ⟨#[]⟩, .int .i64 0, .int .i64 0] 99)) := (Fr.refl Non w).alloc _
  have q0 := (HR.out.blk.fr FZ (fun e => e)).cell 0
  have R1 := Lib.hid (HR.out.blk.fr FA (fun e => e))
  have K1 : Hid (TkBW ((w.alloc (.cells #[.int .i64 0, .string ⟨#[]⟩, .int .i64 0, .int .i64 0] 99)).alloc (.cells #[.int .i64 tk, .string ⟨tt.toArray⟩, .int .i64 tn, .int .i64 ta] 99)) (w.heap.size + 1) ⟨tk, tt, tn, ta⟩) := Lib.hid (by
    have := tkW_new (w.alloc (.cells #[.int .i64 0, .string ⟨#[]⟩, .int .i64 0, .int .i64 0] 99)) ⟨tk, tt, tn, ta⟩
    rwa [show (w.alloc (.cells #[.int .i64 0, .string ⟨#[]⟩, .int .i64 0, .int .i64 0] 99)).heap.size = w.heap.size + 1 by simp] at this)
  have y0 := (FZ.cell (p := a) hal (fun e => e)).trans t0
  have y1 := (FZ.cell (p := { block := a.block, off := a.off + 1 }) hal (fun e => e)).trans t1
  have y2 := (FZ.cell (p := { block := a.block, off := a.off + 2 }) hal (fun e => e)).trans t2
  have y3 := (FZ.cell (p := { block := a.block, off := a.off + 3 }) hal (fun e => e)).trans t3
  have HFA := Lib.hid FA
  have HNE := Lib.hid hne1
  simp at q0
  clear FA FZ t0 t1 t2 t3 c0 c1 c2 z0 z1 z2 hal hgl hne hne1 hcn
  go_enter Tryz.func70, Tryz.ntmps70
  go_upto_region 5 with fail
  clear q0 y0 y1 y2 y3
  generalize hW : ((w.alloc (.cells #[.int .i64 0, .string ⟨#[]⟩, .int .i64 0, .int .i64 0] 99)).alloc (.cells #[.int .i64 tk, .string ⟨tt.toArray⟩, .int .i64 tn, .int .i64 ta] 99)) = W at *
  clear hW
  have F1 : Hid (Fr (One g) W (W.setCell ⟨g, 0, none⟩ (.slice A' (l.length - 1) c'))) := Lib.hid ((Fr.refl (One g) W).set1 0 _)
  have F3 : Hid (Fr (One g) w (W.setCell ⟨g, 0, none⟩ (.slice A' (l.length - 1) c'))) := Lib.hid (HFA.out.any.trans F1.out)
  have T3 : Hid (PX B g d (W.setCell ⟨g, 0, none⟩ (.slice A' (l.length - 1) c')) (.ok l')) := Lib.hid (by
    refine ⟨A', c', ?_, ?_, HFN.out, fun a' ha' => ?_, HR.out.lt, Nat.le_trans HR.out.le F3.out.size⟩
    · rw [HN1.out]; exact R1.out.set 0 _
    · rw [HN1.out, HL.out, ← List.drop_one]
      exact HNS.out _ l rfl (HR.out.tks_fr F3.out)
    · obtain ⟨a0, h0, hb⟩ := HBL.out a' ha'
      rw [hb]
      exact HR.out.ap a0 h0)
  have C3 : Hid (TkBW (W.setCell ⟨g, 0, none⟩ (.slice A' (l.length - 1) c')) w.heap.size noTk) := Lib.hid (B0.out.fr F1.out (fun e => HNE.out e))
  have D3 : Hid (TkBW (W.setCell ⟨g, 0, none⟩ (.slice A' (l.length - 1) c')) (w.heap.size + 1) ⟨tk, tt, tn, ta⟩) := Lib.hid (K1.out.fr F1.out (fun e => by have : w.heap.size + 1 = g := e; have := HR.out.lt; have := HR.out.le; omega))
  have r0 := R1.out.cell 0
  have r1 := R1.out.frozen 0
  simp at r0
  clear HNS HBL B0 K1 HFA F1
  go_upto_region 6 with fail
  clear r0 r1 hrun R1
  generalize W.setCell ⟨g, 0, none⟩ (.slice A' (l.length - 1) c') = V at *
  obtain ⟨k0, k1, k2, k3, _⟩ := D3.out.facts
  obtain ⟨j0, j1, j2, j3, j4, j5, j6, j7⟩ := C3.out.facts
  dsimp only [noTk] at *
  go_wp2
  have E1 : PX B g d (setTk V w.heap.size ⟨tk, tt, tn, ta⟩) (.ok l') := T3.out.fresh (setTk_fr V w.heap.size ⟨tk, tt, tn, ta⟩) (fun k e => by have : k = w.heap.size := e; have := HR.out.le; omega)
  have E2 : Fr (One g) w (setTk V w.heap.size ⟨tk, tt, tn, ta⟩) := F3.out.fresh (setTk_fr V w.heap.size ⟨tk, tt, tn, ta⟩) (fun k e => by have : k = w.heap.size := e; omega)
  exact bodyPost_ret (ret_tk1W (p := 4) rfl _ _ w.heap.size ⟨tk, tt, tn, ta⟩ rfl (setTk_W C3.out ⟨tk, tt, tn, ta⟩)) rfl ⟨rfl, E1, E2⟩
/-- a word, or a mark, that must be -/
def needK (s : Tx) (l : List Tk) : Except Int (List Tk) := if sayK s l = true then .ok (tlK l) else errK l
theorem say_kind {s : Tx} {l : List Tk} (h : sayK s l = true) : ¬ (hdT l).kind = 0 := by
  unfold sayK at h
  intro e
  rw [e] at h
  simp at h
theorem pneed_any (B g : Nat) (d : Int) (s : Tx) (σ : Sg) (w : World) (h : PX B g d w σ) :
    Calls Tryz.prog 43 #[.pointer (some ⟨g, 0, none⟩), .string ⟨s.toArray⟩] w fun e w' => e = .returned (.tuple #[]) ∧ PX B g d w' (onM σ (needK s)) ∧ Fr (One g) w w' := by
  have I := Lib.hid (psay_any B g d s σ w h)
  have RN := Lib.hid (pread_no B g d σ w h)
  have RY : Hid (∀ l, σ = .ok l → ¬ (hdT l).kind = 0 → Calls Tryz.prog 70 #[.pointer (some ⟨g, 0, none⟩), .bool true] w fun e w' => e = .returned (tkV (hdT l)) ∧ PX B g d w' (.ok (tlK l)) ∧ Fr (One g) w w') := Lib.hid fun l e hk => pread_yes B g d l w (e ▸ h) hk
  clear h
  have HS : Hid (sayX s σ = true → ∃ l, σ = .ok l ∧ sayK s l = true) := Lib.hid fun e => by
    cases σ with
    | ok l => exact ⟨l, rfl, e⟩
    | error z => cases e
  have HN : Hid (sayX s σ = false → onM σ (needK s) = onM σ errK) := Lib.hid fun e => by
    cases σ with
    | ok l => unfold onM needK; dsimp only; rw [if_neg (by have : sayK s l = false := e; simp [this])]
    | error z => rfl
  generalize sayX s σ = b at *
  cases b
  · have HE := Lib.hid (HN.out rfl)
    clear HN HS RY
    go_enter Tryz.func43, Tryz.ntmps43
    go_wp2_with fail
    refine I.out.mono ?_
    rintro e w1 ⟨rfl, rfl⟩
    go_wp2_with fail
    refine RN.out.mono ?_
    rintro e w2 ⟨rfl, hT, hG⟩
    have HT := Lib.hid hT
    have HG := Lib.hid hG
    clear hT hG
    go_wp2
    go_end0
    exact ⟨rfl, by rw [HE.out]; exact HT.out, HG.out⟩
  · obtain ⟨l, rfl, hs⟩ := HS.out rfl
    have RY2 := Lib.hid (RY.out l rfl (say_kind hs))
    have HE : Hid (onM (.ok l) (needK s) = .ok (tlK l)) := Lib.hid (by unfold onM needK; dsimp only; rw [if_pos hs])
    clear HN HS RY RN hs
    go_enter Tryz.func43, Tryz.ntmps43
    go_wp2_with fail
    refine I.out.mono ?_
    rintro e w1 ⟨rfl, rfl⟩
    go_wp2_with fail
    refine RY2.out.mono ?_
    rintro e w2 ⟨rfl, hT, hG⟩
    have HT := Lib.hid hT
    have HG := Lib.hid hG
    clear hT hG
    go_wp2
    go_end0
    exact ⟨rfl, by rw [HE.out]; exact HT.out, HG.out⟩
/-- .. that may be -/
def skipX (s : Tx) (σ : Sg) : Sg := match σ with | .ok l => if sayK s l = true then .ok (tlK l) else .ok l | .error k => .error k
theorem pskip_any (B g : Nat) (d : Int) (s : Tx) (σ : Sg) (w : World) (h : PX B g d w σ) :
    Calls Tryz.prog 44 #[.pointer (some ⟨g, 0, none⟩), .string ⟨s.toArray⟩] w fun e w' => e = .returned (.bool (sayX s σ)) ∧ PX B g d w' (skipX s σ) ∧ Fr (One g) w w' := by
  have I := Lib.hid (psay_any B g d s σ w h)
  have N := Lib.hid (pneed_any B g d s σ w h)
  have HS : Hid (sayX s σ = true → skipX s σ = onM σ (needK s)) := Lib.hid fun e => by
    cases σ with
    | ok l => have e2 : sayK s l = true := e; unfold skipX onM needK; dsimp only; rw [if_pos e2, if_pos e2]
    | error z => cases e
  have HN : Hid (sayX s σ = false → skipX s σ = σ) := Lib.hid fun e => by
    cases σ with
    | ok l => have e2 : sayK s l = false := e; unfold skipX; dsimp only; rw [if_neg (by simp [e2])]
    | error z => rfl
  have HT0 := Lib.hid h
  clear h
  generalize sayX s σ = b at *
  cases b
  · have HE := Lib.hid (HN.out rfl)
    clear HN HS N
    go_enter Tryz.func44, Tryz.ntmps44
    go_wp2_with fail
    refine I.out.mono ?_
    rintro e w1 ⟨rfl, rfl⟩
    go_wp2
    go_ret
    exact ⟨rfl, by rw [HE.out]; exact HT0.out, Fr.refl _ _⟩
  · have HE := Lib.hid (HS.out rfl)
    clear HN HS
    go_enter Tryz.func44, Tryz.ntmps44
    go_wp2_with fail
    refine I.out.mono ?_
    rintro e w1 ⟨rfl, rfl⟩
    go_wp2_with fail
    refine N.out.mono ?_
    rintro e w2 ⟨rfl, hT, hG⟩
    have HT := Lib.hid hT
    have HG := Lib.hid hG
    clear hT hG
    go_wp2
    go_ret
    exact ⟨rfl, by rw [HE.out]; exact HT.out, HG.out⟩
end Go.Proofs.YtipgaafgnefmdaaGreatDoor


namespace Go.Proofs.YtipgaafgnefmdaaGreatDoor
set_option linter.unusedVariables false
set_option linter.unusedSimpArgs false
set_option maxRecDepth 100000
open Go.RowKit

/-- the cell c lies in block g -/
abbrev ClB (w : World) (g : Nat) (c : Cl) : Prop := Blk w g 25 #[.bool c.null, .int .i64 c.num, .string ⟨c.txt.toArray⟩]
/-- what a walk asks of it -/
theorem ClB.facts {w : World} {g : Nat} {c : Cl} (h : ClB w g c) :
    w.cell? ⟨g, 0, none⟩ = some (.bool c.null) ∧ w.cell? ⟨g, 1, none⟩ = some (.int .i64 c.num) ∧ w.cell? ⟨g, 2, none⟩ = some (.string ⟨c.txt.toArray⟩) ∧
    w.frozen? ⟨g, 0, none⟩ = false ∧ w.frozen? ⟨g, 1, none⟩ = false ∧ w.frozen? ⟨g, 2, none⟩ = false :=
  ⟨h.cell 0, h.cell 1, h.cell 2, h.frozen 0, h.frozen 1, h.frozen 2⟩
/-- a cell stored whole, as a walk spells it -/
def setCl (w : World) (g : Nat) (n : Bool) (i : Int) (t : List UInt8) : World := ((w.setCell ⟨g, 0, none⟩ (.bool n)).setCell ⟨g, 1, none⟩ (.int .i64 i)).setCell ⟨g, 2, none⟩ (.string ⟨t.toArray⟩)
theorem setCl_B {w : World} {g : Nat} {c : Cl} (h : ClB w g c) (n : Bool) (i : Int) (t : List UInt8) : ClB (setCl w g n i t) g ⟨n, i, t⟩ := ((h.set 0 _).set 1 _).set 2 _
theorem setCl_fr (w : World) (g : Nat) (n : Bool) (i : Int) (t : List UInt8) : Fr (One g) w (setCl w g n i t) := (((Fr.refl (One g) w).set1 0 _).set1 1 _).set1 2 _
/-- .. where a second result lies in a slot -/
theorem ret_cl2 {fn : Func} {p u : Tmp} (h : fn.results = #[.cell p 25, .tmp u]) (tmps : Array Value) (w : World) (g : Nat) (c : Cl) (v : Value)
    (hp : tmps.getD p undef = .pointer (some ⟨g, 0, none⟩)) (hv : tmps.getD u undef = v) (hg : ClB w g c) : (results fn tmps).run Tryz.prog w = .ok (.tuple #[clV c, v]) w := by
  have hl : (loadVar 25 ⟨g, 0, none⟩).run Tryz.prog w = .ok (clV c) w :=
    run_loadVar_row w g 25 25 _ (0, 0) _ hg Tryz.underlying25 rfl (by kernel_rfl)
  rw [results_cell_tmp h, hp, hv]
  simp [asAddr, hl, Result.andThen]
theorem cl_new (w : World) (c : Cl) : ClB (w.alloc (.cells #[.bool c.null, .int .i64 c.num, .string ⟨c.txt.toArray⟩] 25)) w.heap.size c := Blk.new _ _ _
end Go.Proofs.YtipgaafgnefmdaaGreatDoor


namespace Go.Proofs.YtipgaafgnefmdaaGreatDoor
set_option linter.unusedVariables false
set_option linter.unusedSimpArgs false
set_option maxRecDepth 100000
open Go.RowKit

/-- which of these words is next -/
def whichK : List Tx → List Tk → Rd Int
  | [], l => errK l
  | s :: ws, l => if sayK s l = true then .ok (0, tlK l) else match whichK ws l with | .ok (i, r) => .ok (i + 1, r) | .error e => .error e
def WhF (i : Int) (w : World) (v : Value) : Prop := v = .int .i64 i ∧ 0 ≤ i ∧ i ≤ 1000
theorem which_at : ∀ {ws : List Tx} {l : List Tk} {k : Nat} (h : k < ws.length), (∀ j (hj : j < ws.length), j < k → sayK ws[j] l = false) → sayK ws[k] l = true → whichK ws l = .ok ((k : Int), tlK l)
  | s :: ws, l, 0, h, hb, hk => by rw [whichK, if_pos (by simpa using hk)]; rfl
  | s :: ws, l, k + 1, h, hb, hk => by
    have h0 := hb 0 (by simp) (by omega)
    rw [whichK, if_neg (by simp at h0; simp [h0]), which_at (k := k) (by simpa using h) (fun j hj hjk => hb (j + 1) (by simpa using hj) (by omega)) (by simpa using hk)]
    simp
theorem which_no : ∀ {ws : List Tx} {l : List Tk}, (∀ j (hj : j < ws.length), sayK ws[j] l = false) → whichK ws l = errK l
  | [], l, _ => rfl
  | s :: ws, l, hb => by
    have h0 := hb 0 (by simp)
    rw [whichK, if_neg (by simp at h0; simp [h0]), which_no (ws := ws) (fun j hj => hb (j + 1) (by simpa using hj))]
    rfl
set_option maxHeartbeats 1000000 in
theorem pwhich_any (B g : Nat) (d : Int) (ws : List Tx) (v : Value) (σ : Sg) (w : World) (h : PX B g d w σ) (hv : Vs sv w v ws) (hb : ∀ b, v.ownBlock = some b → b ≠ g) (hl : ws.length ≤ 1000) :
    Calls Tryz.prog 72 #[.pointer (some ⟨g, 0, none⟩), v] w fun e w' => EndX (PX B g d) (onS σ (whichK ws)) WhF e w' ∧ Fr (One g) w w' := by
  obtain ⟨A, c, rfl⟩ := hv.shape
  have HT0 := Lib.hid h
  have HV := Lib.hid hv
  have HB := Lib.hid hb
  have HX1 : Hid (∀ k (h : k < ws.length), (∀ j (hj : j < ws.length), j < k → sayX ws[j] σ = false) → sayX ws[k] σ = true → onS σ (whichK ws) = .ok ((k : Int), tailX σ) ∧ skipX ws[k] σ = .ok (tailX σ)) := Lib.hid (fun k hk h1 h2 => by
    clear h HT0
    cases σ with
    | ok l =>
      have h3 : sayK ws[k] l = true := h2
      exact ⟨which_at hk h1 h3, by unfold skipX tailX; dsimp only; rw [if_pos h3]⟩
    | error z => cases h2)
  have HX2 : Hid ((∀ j (hj : j < ws.length), sayX ws[j] σ = false) → dropV (onS σ (whichK ws)) = onM σ errK ∧ ∀ b r, onS σ (whichK ws) = .ok (b, r) → (0 : Int) = b) := Lib.hid (fun h1 => by
    clear h HT0 HX1
    cases σ with
    | ok l =>
      have e : whichK ws l = errK l := which_no h1
      unfold onS onM
      dsimp only
      rw [e]
      exact ⟨rfl, fun b r e => by cases e⟩
    | error z => exact ⟨rfl, fun b r e => by cases e⟩)
  have HS : Hid (∀ s, sayX s σ = false → skipX s σ = σ) := Lib.hid (fun s e => by
    clear h HT0 HX1 HX2
    cases σ with
    | ok l => have e2 : sayK s l = false := e; unfold skipX; dsimp only; rw [if_neg (by simp [e2])]
    | error z => rfl)
  clear h hv hb
  generalize onS σ (whichK ws) = X at *
  go_enter Tryz.func72, Tryz.ntmps72
  go_wp2
  go_loopw [9] (fun i wr => ∃ k : Nat, k ≤ ws.length ∧ i = .int .i64 k ∧ Hid (PX B g d wr σ) ∧ Hid (Fr (One g) w wr) ∧ Hid (∀ j (h : j < ws.length), j < k → sayX ws[j] σ = false)) (fun i _ => ws.length - (intOf i).toNat)
  case atStart => exact ⟨0, Nat.zero_le _, rfl, HT0, Lib.hid (Fr.refl _ _), Lib.hid (fun j hj h => by omega)⟩
  case round =>
    obtain ⟨k, hk, rfl, HT, HF, HN⟩ := hrel
    clear HT0
    by_cases hlt : k < ws.length
    · obtain ⟨a, rfl, _, _, hcell⟩ := (HV.out.fr HF.out (fun b hb e => HB.out b hb e)).addr (by omega)
      have e0 := hcell k hlt
      have I := Lib.hid (pskip_any B g d ws[k] σ wr HT.out)
      have HK1 := Lib.hid (HX1.out k hlt HN.out)
      have HK2 := Lib.hid (HS.out ws[k])
      have HK3 : Hid (sayX ws[k] σ = false → ∀ j (h : j < ws.length), j < k + 1 → sayX ws[j] σ = false) := Lib.hid (fun e j hj hjk => by
        by_cases hjk2 : j < k
        · exact HN.out j hj hjk2
        · obtain rfl : j = k := by omega
          exact e)
      clear hcell HX1 HX2 HN
      generalize ws[k] = s at *
      unfold sv at e0
      generalize sayX s σ = b at *
      go_wp2_with fail
      refine I.out.mono ?_
      rintro e w1 ⟨rfl, hT, hF⟩
      have HT1 := Lib.hid hT
      have HF1 := Lib.hid (HF.out.trans hF)
      clear hT hF e0
      cases b
      · have HE := Lib.hid (HK2.out rfl)
        have HN2 := Lib.hid (HK3.out rfl)
        clear HK1 HK2 HK3 I
        go_wp2
        go_roundw
        case rel => exact ⟨k + 1, by omega, by go_num, Lib.hid (by rw [← HE.out]; exact HT1.out), HF1, HN2⟩
        case measure => simp [intOf]; omega
      · obtain ⟨x1, x2⟩ := HK1.out rfl
        have X1 := Lib.hid x1
        have X2 := Lib.hid x2
        clear x1 x2 HK1 HK2 HK3 I
        go_wp2
        go_ret
        refine ⟨⟨(k : Int), _, rfl, ⟨rfl, by omega, by omega⟩, ?_, fun b r e => ?_⟩, HF1.out⟩
        · rw [X1.out]
          have := HT1.out
          rw [X2.out] at this
          exact this
        · rw [X1.out] at e
          cases e
          rfl
    · have FL := Lib.hid (pfail_any B g d σ wr HT.out)
      obtain ⟨x1, x2⟩ := HX2.out (fun j hj => HN.out j hj (by omega))
      have X1 := Lib.hid x1
      have X2 := Lib.hid x2
      clear x1 x2 HX1 HX2 HN HS
      go_wp2_with fail
      refine FL.out.mono ?_
      rintro e w1 ⟨rfl, hT, hF⟩
      have HT1 := Lib.hid hT
      have HF1 := Lib.hid (HF.out.trans hF)
      clear hT hF
      go_wp2
      go_ret
      exact ⟨⟨0, _, rfl, ⟨rfl, by omega, by omega⟩, by rw [X1.out]; exact HT1.out, X2.out⟩, HF1.out⟩
/-- one token read, if it is of that kind -/
def kindK {α : Type} (k : Int) (f : Tk → α) (l : List Tk) : Rd α := if (hdT l).kind = k then .ok (f (hdT l), tlK l) else errK l
def NumF (n : Int) (w : World) (v : Value) : Prop := v = .int .i64 n ∧ I64b n
theorem ptext_ask (B g : Nat) (d : Int) (σ : Sg) (w : World) (h : PX B g d w σ) :
    Calls Tryz.prog 127 #[.pointer (some ⟨g, 0, none⟩)] w fun e w' => EndX (PX B g d) (onS σ (kindK 3 Tk.txt)) NmF e w' ∧ Fr (One g) w w' := by
  have I := Lib.hid (pis_any B g d 3 σ w h)
  have RN := Lib.hid (pread_no B g d σ w h)
  have RY : Hid (∀ l, σ = .ok l → (hdT l).kind = 3 → Calls Tryz.prog 70 #[.pointer (some ⟨g, 0, none⟩), .bool true] w fun e w' => e = .returned (tkV (hdT l)) ∧ PX B g d w' (.ok (tlK l)) ∧ Fr (One g) w w') := Lib.hid fun l e hk => pread_yes B g d l w (e ▸ h) (by rw [hk]; decide)
  clear h
  have HS : Hid (kindX 3 σ = true → ∃ l, σ = .ok l ∧ (hdT l).kind = 3) := Lib.hid fun e => by
    cases σ with
    | ok l => exact ⟨l, rfl, of_decide_eq_true e⟩
    | error z => cases e
  have HN : Hid (kindX 3 σ = false → dropV (onS σ (kindK 3 Tk.txt)) = onM σ errK ∧ ∀ b r, onS σ (kindK 3 Tk.txt) = .ok (b, r) → ([] : Tx) = b) := Lib.hid fun e => by
    cases σ with
    | ok l => have e2 := of_decide_eq_false e; unfold onS onM kindK; dsimp only; rw [if_neg e2]; exact ⟨rfl, fun b r e => by cases e⟩
    | error z => exact ⟨rfl, fun b r e => by cases e⟩
  generalize kindX 3 σ = b at *
  cases b
  · obtain ⟨x1, x2⟩ := HN.out rfl
    have X1 := Lib.hid x1
    have X2 := Lib.hid x2
    clear HN HS RY x1 x2
    have hfd := fun W => tkfW_txt 0 [] 0 0 W
    go_enter Tryz.func127, Tryz.ntmps127
    go_wp2_with fail
    refine I.out.mono ?_
    rintro e w1 ⟨rfl, rfl⟩
    go_wp2_with fail
    refine RN.out.mono ?_
    rintro e w2 ⟨rfl, hT, hG⟩
    have HT := Lib.hid hT
    have HG := Lib.hid hG
    clear hT hG
    unfold tkV tkA noTk
    dsimp only
    go_wp2
    go_ret
    exact ⟨⟨[], _, rfl, rfl, by rw [X1.out]; exact HT.out, X2.out⟩, HG.out⟩
  · obtain ⟨l, rfl, hs⟩ := HS.out rfl
    have RY2 := Lib.hid (RY.out l rfl hs)
    have HE : Hid (onS (.ok l) (kindK 3 Tk.txt) = .ok ((hdT l).txt, tlK l)) := Lib.hid (by unfold onS kindK; dsimp only; rw [if_pos hs])
    clear HN HS RY RN hs
    generalize onS (.ok l) (kindK 3 Tk.txt) = X at *
    generalize hdT l = t at *
    obtain ⟨tk, tt, tn, ta⟩ := t
    have hfd := fun W => tkfW_txt tk tt tn ta W
    go_enter Tryz.func127, Tryz.ntmps127
    go_wp2_with fail
    refine I.out.mono ?_
    rintro e w1 ⟨rfl, rfl⟩
    go_wp2_with fail
    refine RY2.out.mono ?_
    rintro e w2 ⟨rfl, hT, hG⟩
    have HT := Lib.hid hT
    have HG := Lib.hid hG
    clear hT hG
    unfold tkV tkA
    go_wp2
    go_ret
    exact ⟨⟨tt, _, rfl, rfl, by rw [HE.out]; exact HT.out, fun b r e => by rw [HE.out] at e; cases e; rfl⟩, HG.out⟩
theorem pnum_ask (B g : Nat) (d : Int) (σ : Sg) (w : World) (h : PX B g d w σ) :
    Calls Tryz.prog 141 #[.pointer (some ⟨g, 0, none⟩)] w fun e w' => EndX (PX B g d) (onS σ (kindK 2 Tk.num)) NumF e w' ∧ Fr (One g) w w' := by
  have I := Lib.hid (pis_any B g d 2 σ w h)
  have RN := Lib.hid (pread_no B g d σ w h)
  have RY : Hid (∀ l, σ = .ok l → (hdT l).kind = 2 → Calls Tryz.prog 70 #[.pointer (some ⟨g, 0, none⟩), .bool true] w fun e w' => e = .returned (tkV (hdT l)) ∧ PX B g d w' (.ok (tlK l)) ∧ Fr (One g) w w') := Lib.hid fun l e hk => pread_yes B g d l w (e ▸ h) (by rw [hk]; decide)
  have HIN0 : Hid (∀ l, σ = .ok l → I64b (hdT l).num) := Lib.hid fun l e => by subst e; exact h.fin.tkw.num
  clear h
  have HS : Hid (kindX 2 σ = true → ∃ l, σ = .ok l ∧ (hdT l).kind = 2) := Lib.hid fun e => by
    cases σ with
    | ok l => exact ⟨l, rfl, of_decide_eq_true e⟩
    | error z => cases e
  have HN : Hid (kindX 2 σ = false → dropV (onS σ (kindK 2 Tk.num)) = onM σ errK ∧ ∀ b r, onS σ (kindK 2 Tk.num) = .ok (b, r) → (0 : Int) = b) := Lib.hid fun e => by
    cases σ with
    | ok l => have e2 := of_decide_eq_false e; unfold onS onM kindK; dsimp only; rw [if_neg e2]; exact ⟨rfl, fun b r e => by cases e⟩
    | error z => exact ⟨rfl, fun b r e => by cases e⟩
  generalize kindX 2 σ = b at *
  cases b
  · obtain ⟨x1, x2⟩ := HN.out rfl
    have X1 := Lib.hid x1
    have X2 := Lib.hid x2
    clear HN HS RY x1 x2
    have hfd := fun W => tkfW_num 0 [] 0 0 W
    go_enter Tryz.func141, Tryz.ntmps141
    go_wp2_with fail
    refine I.out.mono ?_
    rintro e w1 ⟨rfl, rfl⟩
    go_wp2_with fail
    refine RN.out.mono ?_
    rintro e w2 ⟨rfl, hT, hG⟩
    have HT := Lib.hid hT
    have HG := Lib.hid hG
    clear hT hG
    unfold tkV tkA noTk
    dsimp only
    go_wp2
    go_ret
    exact ⟨⟨0, _, rfl, ⟨rfl, i64b_0⟩, by rw [X1.out]; exact HT.out, X2.out⟩, HG.out⟩
  · obtain ⟨l, rfl, hs⟩ := HS.out rfl
    have HIN := Lib.hid (HIN0.out l rfl)
    have RY2 := Lib.hid (RY.out l rfl hs)
    have HE : Hid (onS (.ok l) (kindK 2 Tk.num) = .ok ((hdT l).num, tlK l)) := Lib.hid (by unfold onS kindK; dsimp only; rw [if_pos hs])
    clear HN HS RY RN hs
    generalize onS (.ok l) (kindK 2 Tk.num) = X at *
    generalize hdT l = t at *
    obtain ⟨tk, tt, tn, ta⟩ := t
    have hfd := fun W => tkfW_num tk tt tn ta W
    go_enter Tryz.func141, Tryz.ntmps141
    go_wp2_with fail
    refine I.out.mono ?_
    rintro e w1 ⟨rfl, rfl⟩
    go_wp2_with fail
    refine RY2.out.mono ?_
    rintro e w2 ⟨rfl, hT, hG⟩
    have HT := Lib.hid hT
    have HG := Lib.hid hG
    clear hT hG
    unfold tkV tkA
    go_wp2
    go_ret
    exact ⟨⟨tn, _, rfl, ⟨rfl, HIN.out⟩, by rw [HE.out]; exact HT.out, fun b r e => by rw [HE.out] at e; cases e; rfl⟩, HG.out⟩
theorem pname_ask (B g : Nat) (d : Int) (σ : Sg) (w : World) (h : PX B g d w σ) :
    Calls Tryz.prog 47 #[.pointer (some ⟨g, 0, none⟩)] w fun e w' => EndX (PX B g d) (onS σ nameK) NmF e w' ∧ Fr (One g) w w' := by
  have I := Lib.hid (pnamed_any B g d σ w h)
  have RN := Lib.hid (fun W hf => pread_no B g d σ W (h.non hf))
  have RY : Hid (∀ W, Fr Non w W → ∀ l, σ = .ok l → (hdT l).kind = 1 → Calls Tryz.prog 70 #[.pointer (some ⟨g, 0, none⟩), .bool true] W fun e w' => e = .returned (tkV (hdT l)) ∧ PX B g d w' (.ok (tlK l)) ∧ Fr (One g) W w') := Lib.hid fun W hf l e hk => pread_yes B g d l W (e ▸ h.non hf) (by rw [hk]; decide)
  clear h
  have HS : Hid (namedX σ = true → ∃ l, σ = .ok l ∧ namedK l = true) := Lib.hid fun e => by
    cases σ with
    | ok l => exact ⟨l, rfl, e⟩
    | error z => cases e
  have HN : Hid (namedX σ = false → dropV (onS σ nameK) = onM σ errK ∧ ∀ b r, onS σ nameK = .ok (b, r) → ([] : Tx) = b) := Lib.hid fun e => by
    cases σ with
    | ok l => have e2 : namedK l = false := e; unfold onS onM nameK; dsimp only; rw [if_neg (by simp [e2])]; exact ⟨rfl, fun b r e => by cases e⟩
    | error z => exact ⟨rfl, fun b r e => by cases e⟩
  generalize namedX σ = b at *
  cases b
  · obtain ⟨x1, x2⟩ := HN.out rfl
    have X1 := Lib.hid x1
    have X2 := Lib.hid x2
    clear HN HS RY x1 x2
    have hfd := fun W => tkfW_txt 0 [] 0 0 W
    go_enter Tryz.func47, Tryz.ntmps47
    go_wp2_with fail
    refine I.out.mono ?_
    rintro e w1 ⟨rfl, hF⟩
    have HF := Lib.hid hF
    have RN1 := Lib.hid (RN.out w1 hF)
    clear hF RN
    go_wp2_with fail
    refine RN1.out.mono ?_
    rintro e w2 ⟨rfl, hT, hG⟩
    have HT := Lib.hid hT
    have HG := Lib.hid (HF.out.any.trans hG)
    clear hT hG
    unfold tkV tkA noTk
    dsimp only
    go_wp2
    go_ret
    exact ⟨⟨[], _, rfl, rfl, by rw [X1.out]; exact HT.out, X2.out⟩, HG.out⟩
  · obtain ⟨l, rfl, hs⟩ := HS.out rfl
    have hk1 : (hdT l).kind = 1 := by unfold namedK at hs; rw [Bool.and_eq_true] at hs; exact of_decide_eq_true hs.1
    have RY2 := Lib.hid (fun W hf => RY.out W hf l rfl hk1)
    have HE : Hid (onS (.ok l) nameK = .ok ((hdT l).txt, tlK l)) := Lib.hid (by unfold onS nameK; dsimp only; rw [if_pos hs])
    clear HN HS RY RN hs hk1
    generalize onS (.ok l) nameK = X at *
    generalize hdT l = t at *
    obtain ⟨tk, tt, tn, ta⟩ := t
    have hfd := fun W => tkfW_txt tk tt tn ta W
    go_enter Tryz.func47, Tryz.ntmps47
    go_wp2_with fail
    refine I.out.mono ?_
    rintro e w1 ⟨rfl, hF⟩
    have HF := Lib.hid hF
    have RY1 := Lib.hid (RY2.out w1 hF)
    clear hF RY2
    go_wp2_with fail
    refine RY1.out.mono ?_
    rintro e w2 ⟨rfl, hT, hG⟩
    have HT := Lib.hid hT
    have HG := Lib.hid (HF.out.any.trans hG)
    clear hT hG
    unfold tkV tkA
    go_wp2
    go_ret
    exact ⟨⟨tt, _, rfl, rfl, by rw [HE.out]; exact HT.out, fun b r e => by rw [HE.out] at e; cases e; rfl⟩, HG.out⟩
end Go.Proofs.YtipgaafgnefmdaaGreatDoor


namespace Go.Proofs.YtipgaafgnefmdaaGreatDoor
set_option linter.unusedVariables false
set_option linter.unusedSimpArgs false
set_option maxRecDepth 100000
open Go.RowKit

/-! ### What comes of a word that is next -/
def FinX (σ : Sg) : Prop := ∀ l, σ = .ok l → EndL l
theorem PX.finX {B g : Nat} {d : Int} {w : World} {σ : Sg} (h : PX B g d w σ) : FinX σ := fun l e => by subst e; exact h.fin
theorem skip_yes {s : Tx} {σ : Sg} (h : sayX s σ = true) : skipX s σ = .ok (tailX σ) := by
  cases σ with
  | ok l => have e : sayK s l = true := h; unfold skipX tailX; dsimp only; rw [if_pos e]
  | error z => cases h
theorem skip_no {s : Tx} {σ : Sg} (h : sayX s σ = false) : skipX s σ = σ := by
  cases σ with
  | ok l => have e : sayK s l = false := h; unfold skipX; dsimp only; rw [if_neg (by simp [e])]
  | error z => rfl
theorem say_isW {s : Tx} (hs : ¬ s ∈ marksL) {σ : Sg} (h : FinX σ) : sayX s σ = isX 1 s σ := by
  cases σ with
  | ok l => exact say_word hs (h l rfl)
  | error z => rfl
theorem say_isM {s : Tx} (hs : s ∈ marksL) {σ : Sg} (h : FinX σ) : sayX s σ = isX 4 s σ := by
  cases σ with
  | ok l => exact say_mark hs (h l rfl)
  | error z => rfl
theorem need_isW {s : Tx} (hs : ¬ s ∈ marksL) {σ : Sg} (h : FinX σ) : onM σ (needK s) = onM σ (mustK 1 s) := by
  cases σ with
  | ok l => unfold onM needK mustK; dsimp only; rw [say_word hs (h l rfl)]
  | error z => rfl
theorem need_isM {s : Tx} (hs : s ∈ marksL) {σ : Sg} (h : FinX σ) : onM σ (needK s) = onM σ (mustK 4 s) := by
  cases σ with
  | ok l => unfold onM needK mustK; dsimp only; rw [say_mark hs (h l rfl)]
  | error z => rfl
theorem val_true {σ : Sg} (hf : FinX σ) (h : sayX trueW σ = true) : onS σ valK = .ok ((⟨false, 1, []⟩, 2), tailX σ) := by
  rw [say_isW (by decide) hf] at h
  obtain ⟨l, rfl, h2⟩ := isX_ok h
  have hk := isK_kind h2
  unfold onS valK tailX
  dsimp only
  rw [if_neg (by omega), if_neg (by omega), if_pos h2]
theorem val_false {σ : Sg} (hf : FinX σ) (h1 : sayX trueW σ = false) (h : sayX falseW σ = true) : onS σ valK = .ok ((⟨false, 0, []⟩, 2), tailX σ) := by
  rw [say_isW (by decide) hf] at h h1
  obtain ⟨l, rfl, h2⟩ := isX_ok h
  have hk := isK_kind h2
  have h3 : isK 1 trueW l = false := h1
  unfold onS valK tailX
  dsimp only
  rw [if_neg (by omega), if_neg (by omega), if_neg (by simp [h3]), if_pos h2]
theorem val_num {σ : Sg} (h : kindX 2 σ = true) : onS σ valK = mapR (fun n => ((⟨false, n, []⟩ : Cl), (1 : Int))) (onS σ (kindK 2 Tk.num)) := by
  cases σ with
  | ok l =>
    have e : (hdT l).kind = 2 := of_decide_eq_true h
    unfold onS valK kindK
    dsimp only
    rw [if_pos e, if_pos e]; rfl
  | error z => cases h
theorem val_text {σ : Sg} (hf : FinX σ) (h1 : sayX trueW σ = false) (h2 : sayX falseW σ = false) (h : kindX 2 σ = false) : onS σ valK = mapR (fun t => ((⟨false, 0, t⟩ : Cl), (3 : Int))) (onS σ (kindK 3 Tk.txt)) := by
  rw [say_isW (by decide) hf] at h1 h2
  cases σ with
  | ok l =>
    have e : ¬ (hdT l).kind = 2 := of_decide_eq_false h
    have e1 : isK 1 trueW l = false := h1
    have e2 : isK 1 falseW l = false := h2
    unfold onS valK kindK
    dsimp only
    rw [if_neg e]
    by_cases e3 : (hdT l).kind = 3
    · rw [if_pos e3, if_pos e3]; rfl
    · rw [if_neg e3, if_neg (by simp [e1]), if_neg (by simp [e2]), if_neg e3]; rfl
  | error z => rfl
theorem results_tmp_cell {fn : Func} {p u : Tmp} {ty : TypeId} (h : fn.results = #[.tmp u, .cell p ty]) (tmps : Array Value) (P : Program) (w : World) :
    (results fn tmps).run P w =
      ((asAddr (tmps.getD p undef)).run P w).andThen fun a w₁ => ((loadVar ty a).run P w₁).andThen fun v w₂ => .ok (.tuple #[tmps.getD u undef, v]) w₂ := by
  simp only [results, h]
  simp [Sem.run_bind, Result.andThen]
theorem ret_cl3 {fn : Func} {p u : Tmp} (h : fn.results = #[.tmp u, .cell p 25]) (tmps : Array Value) (w : World) (g : Nat) (c : Cl) (v : Value)
    (hp : tmps.getD p undef = .pointer (some ⟨g, 0, none⟩)) (hv : tmps.getD u undef = v) (hg : ClB w g c) : (results fn tmps).run Tryz.prog w = .ok (.tuple #[v, clV c]) w := by
  have hl : (loadVar 25 ⟨g, 0, none⟩).run Tryz.prog w = .ok (clV c) w :=
    run_loadVar_row w g 25 25 _ (0, 0) _ hg Tryz.underlying25 rfl (by kernel_rfl)
  rw [results_tmp_cell h, hp, hv]
  simp [asAddr, hl, Result.andThen]
/-- the empty cell in the block made first, behind what was done since to the reader -/
theorem clP_after {w w1 : World} {g : Nat} (hf : Fr (One g) (w.alloc (.cells #[.bool false, .int .i64 0, .string ⟨#[]⟩] 25)) w1) (hg : g < w.heap.size) : ClB w1 w.heap.size zCl ∧ Fr (One g) w w1 :=
  ⟨(cl_new w zCl).fr hf (fun e => by have : w.heap.size = g := e; omega), ((Fr.refl (One g) w).alloc _).trans hf⟩
/-- a value, its kind ahead of it -/
def VkF (x : Cl × Int) (w : World) (v : Value) : Prop := v = .tuple #[.int .i64 x.2, clV x.1] ∧ I64b x.1.num
set_option maxHeartbeats 2000000 in
theorem pvalue_ask (B g : Nat) (d : Int) (σ : Sg) (w : World) (h : PX B g d w σ) :
    Calls Tryz.prog 128 #[.pointer (some ⟨g, 0, none⟩)] w fun e w' => EndX (PX B g d) (onS σ valK) VkF e w' ∧ Fr (One g) w w' := by
  have HB := Lib.hid h.lt
  have HG0 : Hid (g < w.heap.size) := Lib.hid (by have := h.lt; omega)
  have F0 : Fr Non w (w.alloc (.cells #[.bool false, .int .i64 0, .string ⟨#[]⟩] 25)) := (Fr.refl Non w).alloc _
  have HFX := Lib.hid h.finX
  have S1 := Lib.hid (pskip_any B g d trueW σ _ (h.non F0))
  have V1 := Lib.hid (val_true h.finX)
  have V2 := Lib.hid (val_false h.finX)
  have V3 := Lib.hid (val_num (σ := σ))
  have V4 := Lib.hid (val_text h.finX)
  have HS1 := Lib.hid (fun e => skip_yes (s := trueW) (σ := σ) e)
  have HN1 := Lib.hid (fun e => skip_no (s := trueW) (σ := σ) e)
  have HS2 := Lib.hid (fun e => skip_yes (s := falseW) (σ := σ) e)
  have HN2 := Lib.hid (fun e => skip_no (s := falseW) (σ := σ) e)
  clear h F0
  generalize onS σ valK = X at *
  generalize sayX trueW σ = b1 at *
  go_enter Tryz.func128, Tryz.ntmps128
  go_wp2_with fail
  refine S1.out.mono ?_
  rintro e w1 ⟨rfl, hT, hF⟩
  obtain ⟨eb, ef⟩ := clP_after hF HG0.out
  have HT1 := Lib.hid hT
  have HF1 := Lib.hid ef
  have HC1 := Lib.hid eb
  clear hT hF eb ef S1
  cases b1
  · have HT1 : Hid (PX B g d w1 σ) := Lib.hid (by rw [← HN1.out (by first | rfl | trivial)]; exact HT1.out)
    have S2 := Lib.hid (pskip_any B g d falseW σ w1 HT1.out)
    clear HS1 HN1 V1
    generalize sayX falseW σ = b2 at *
    go_wp2_with fail
    refine S2.out.mono ?_
    rintro e w2 ⟨rfl, hT, hF⟩
    have HT2 := Lib.hid hT
    have HF2 := Lib.hid (HF1.out.trans hF)
    have HC2 : Hid (ClB w2 w.heap.size zCl) := Lib.hid (HC1.out.fr hF (fun e => by have : w.heap.size = g := e; have := HG0.out; omega))
    clear hT hF S2 HT1 HF1 HC1
    cases b2
    · have HT2 : Hid (PX B g d w2 σ) := Lib.hid (by rw [← HN2.out (by first | rfl | trivial)]; exact HT2.out)
      have S3 := Lib.hid (pis_any B g d 2 σ w2 HT2.out)
      clear HS2 HN2 V2
      generalize kindX 2 σ = b3 at *
      go_wp2_with fail
      refine S3.out.mono ?_
      rintro e w3 ⟨rfl, rfl⟩
      clear S3
      cases b3
      · have S4 := Lib.hid (ptext_ask B g d σ w2 HT2.out)
        have VE := Lib.hid (V4.out (by first | rfl | trivial) (by first | rfl | trivial) (by first | rfl | trivial))
        clear V3 V4
        go_wp2_with fail
        refine S4.out.mono ?_
        rintro e w4 ⟨⟨t, v, rfl, rfl, hT, hA⟩, hF⟩
        have HT3 := Lib.hid hT
        have HA := Lib.hid hA
        have HF3 := Lib.hid (HF2.out.trans hF)
        have HC3 : Hid (ClB w4 w.heap.size zCl) := Lib.hid (HC2.out.fr hF (fun e => by have : w.heap.size = g := e; have := HG0.out; omega))
        clear hT hF hA S4 HT2 HF2 HC2
        obtain ⟨e0, e1, e2, f0, f1, f2⟩ := HC3.out.facts
        dsimp only [zCl] at e0 e1 e2
        have T9 := Lib.hid (HT3.out.fresh (setCl_fr w4 w.heap.size false 0 t) (fun k e => by have : k = w.heap.size := e; have := HB.out; omega))
        have F9 := Lib.hid (HF3.out.fresh (setCl_fr w4 w.heap.size false 0 t) (fun k e => by have : k = w.heap.size := e; omega))
        go_wp2
        refine bodyPost_ret (ret_cl3 (p := 3) (u := 2) rfl _ _ w.heap.size ⟨false, 0, t⟩ (.int .i64 3) rfl rfl (setCl_B HC3.out false 0 t)) rfl ⟨⟨(⟨false, 0, t⟩, 3), _, rfl, ⟨rfl, i64b_0⟩, ?_, fun b r e => ?_⟩, F9.out⟩
        · rw [VE.out]
          have := T9.out
          cases hx : onS σ (kindK 3 Tk.txt) with
          | ok y => rw [hx] at this; exact this
          | error z => rw [hx] at this; exact this
        · rw [VE.out] at e
          cases hx : onS σ (kindK 3 Tk.txt) with
          | ok y =>
            obtain ⟨y1, y2⟩ := y
            rw [hx] at e
            obtain rfl := HA.out _ _ hx
            cases e; rfl
          | error z => rw [hx] at e; cases e
      · have S4 := Lib.hid (pnum_ask B g d σ w2 HT2.out)
        have VE := Lib.hid (V3.out (by first | rfl | trivial))
        clear V3 V4
        go_wp2_with fail
        refine S4.out.mono ?_
        rintro e w4 ⟨⟨t, v, rfl, ⟨rfl, hI⟩, hT, hA⟩, hF⟩
        have HI := Lib.hid hI
        have HT3 := Lib.hid hT
        have HA := Lib.hid hA
        have HF3 := Lib.hid (HF2.out.trans hF)
        have HC3 : Hid (ClB w4 w.heap.size zCl) := Lib.hid (HC2.out.fr hF (fun e => by have : w.heap.size = g := e; have := HG0.out; omega))
        clear hT hF hA hI S4 HT2 HF2 HC2
        obtain ⟨e0, e1, e2, f0, f1, f2⟩ := HC3.out.facts
        dsimp only [zCl] at e0 e1 e2
        have T9 := Lib.hid (HT3.out.fresh (setCl_fr w4 w.heap.size false t []) (fun k e => by have : k = w.heap.size := e; have := HB.out; omega))
        have F9 := Lib.hid (HF3.out.fresh (setCl_fr w4 w.heap.size false t []) (fun k e => by have : k = w.heap.size := e; omega))
        go_wp2
        refine bodyPost_ret (ret_cl3 (p := 3) (u := 2) rfl _ _ w.heap.size ⟨false, t, []⟩ (.int .i64 1) rfl rfl (setCl_B HC3.out false t [])) rfl ⟨⟨(⟨false, t, []⟩, 1), _, rfl, ⟨rfl, HI.out⟩, ?_, fun b r e => ?_⟩, F9.out⟩
        · rw [VE.out]
          have := T9.out
          cases hx : onS σ (kindK 2 Tk.num) with
          | ok y => rw [hx] at this; exact this
          | error z => rw [hx] at this; exact this
        · rw [VE.out] at e
          cases hx : onS σ (kindK 2 Tk.num) with
          | ok y =>
            obtain ⟨y1, y2⟩ := y
            rw [hx] at e
            obtain rfl := HA.out _ _ hx
            cases e; rfl
          | error z => rw [hx] at e; cases e
    · have VE := Lib.hid (V2.out (by first | rfl | trivial) (by first | rfl | trivial))
      have HT2 : Hid (PX B g d w2 (.ok (tailX σ))) := Lib.hid (by rw [← HS2.out (by first | rfl | trivial)]; exact HT2.out)
      clear V2 V3 V4 HS2 HN2
      obtain ⟨e0, e1, e2, f0, f1, f2⟩ := HC2.out.facts
      dsimp only [zCl] at e0 e1 e2
      have T9 := Lib.hid (HT2.out.fresh (setCl_fr w2 w.heap.size false 0 []) (fun k e => by have : k = w.heap.size := e; have := HB.out; omega))
      have F9 := Lib.hid (HF2.out.fresh (setCl_fr w2 w.heap.size false 0 []) (fun k e => by have : k = w.heap.size := e; omega))
      go_wp2
      exact bodyPost_ret (ret_cl3 (p := 3) (u := 2) rfl _ _ w.heap.size ⟨false, 0, []⟩ (.int .i64 2) rfl rfl (setCl_B HC2.out false 0 [])) rfl ⟨⟨(⟨false, 0, []⟩, 2), _, rfl, ⟨rfl, i64b_0⟩, by rw [VE.out]; exact T9.out, fun b r e => by rw [VE.out] at e; cases e; rfl⟩, F9.out⟩
  · have VE := Lib.hid (V1.out (by first | rfl | trivial))
    have HT1 : Hid (PX B g d w1 (.ok (tailX σ))) := Lib.hid (by rw [← HS1.out (by first | rfl | trivial)]; exact HT1.out)
    clear V1 V2 V3 V4 HS1 HN1 HS2 HN2
    obtain ⟨e0, e1, e2, f0, f1, f2⟩ := HC1.out.facts
    dsimp only [zCl] at e0 e1 e2
    have T9 := Lib.hid (HT1.out.fresh (setCl_fr w1 w.heap.size false 1 []) (fun k e => by have : k = w.heap.size := e; have := HB.out; omega))
    have F9 := Lib.hid (HF1.out.fresh (setCl_fr w1 w.heap.size false 1 []) (fun k e => by have : k = w.heap.size := e; omega))
    go_wp2
    exact bodyPost_ret (ret_cl3 (p := 3) (u := 2) rfl _ _ w.heap.size ⟨false, 1, []⟩ (.int .i64 2) rfl rfl (setCl_B HC1.out false 1 [])) rfl ⟨⟨(⟨false, 1, []⟩, 2), _, rfl, ⟨rfl, i64b_1⟩, by rw [VE.out]; exact T9.out, fun b r e => by rw [VE.out] at e; cases e; rfl⟩, F9.out⟩
end Go.Proofs.YtipgaafgnefmdaaGreatDoor


namespace Go.Proofs.YtipgaafgnefmdaaGreatDoor
set_option linter.unusedVariables false
set_option linter.unusedSimpArgs false
set_option maxRecDepth 100000
open Go.RowKit

/-- a slice's words -/
structure Kv where
  A : Option Addr
  n : Nat
  c : Nat
def kidV (s : Kv) : Value := .slice s.A s.n s.c
def noKv : Kv := ⟨none, 0, 0⟩
/-- a predicate's cells, and its value -/
def pdL (x : Ph × Kv) : List Value := [.int .i64 x.1.op, .string ⟨x.1.col.toArray⟩, .int .i64 x.1.cmp, .bool x.1.val.null, .int .i64 x.1.val.num, .string ⟨x.1.val.txt.toArray⟩, .int .i64 x.1.kind, .string ⟨x.1.pat.toArray⟩, kidV x.2]
def pdC (h : Ph) (s : Kv) : Array Value := #[.int .i64 h.op, .string ⟨h.col.toArray⟩, .int .i64 h.cmp, .bool h.val.null, .int .i64 h.val.num, .string ⟨h.val.txt.toArray⟩, .int .i64 h.kind, .string ⟨h.pat.toArray⟩, kidV s]
def pdV (h : Ph) (s : Kv) : Value := .agg (pdC h s)
theorem fd_pd : Fd pdL 9 := ⟨fun _ => rfl, fun x u hu => by simp [pdL] at hu; rcases hu with rfl | rfl | rfl | rfl | rfl | rfl | rfl | rfl | rfl <;> rfl, by omega, by omega⟩
theorem eln_pd : Eln 26 28 (.agg #[.int .i64 0, .string ⟨#[]⟩, .int .i64 0, .bool false, .int .i64 0, .string ⟨#[]⟩, .int .i64 0, .string ⟨#[]⟩, .slice none 0 0]) 9 112 := ⟨Tryz.underlying26, by kernel_rfl, rfl, by decide⟩
/-- as a walk spells them -/
def PCells (w : World) (a : Addr) (h : Ph) (s : Kv) : Prop :=
  w.cell? a = some (.int .i64 h.op) ∧ w.cell? { block := a.block, off := a.off + 1 } = some (.string ⟨h.col.toArray⟩) ∧ w.cell? { block := a.block, off := a.off + 2 } = some (.int .i64 h.cmp) ∧
  w.cell? { block := a.block, off := a.off + 3 } = some (.bool h.val.null) ∧ w.cell? { block := a.block, off := a.off + 4 } = some (.int .i64 h.val.num) ∧ w.cell? { block := a.block, off := a.off + 5 } = some (.string ⟨h.val.txt.toArray⟩) ∧
  w.cell? { block := a.block, off := a.off + 6 } = some (.int .i64 h.kind) ∧ w.cell? { block := a.block, off := a.off + 7 } = some (.string ⟨h.pat.toArray⟩) ∧ w.cell? { block := a.block, off := a.off + 8 } = some (.slice s.A s.n s.c)
theorem pd_lit {w : World} {a : Addr} {h : Ph} {s : Kv} (e : AtN w a (pdL (h, s))) : PCells w a h s :=
  ⟨e 0 _ rfl, e 1 _ rfl, e 2 _ rfl, e 3 _ rfl, e 4 _ rfl, e 5 _ rfl, e 6 _ rfl, e 7 _ rfl, e 8 _ rfl⟩
/-- the predicate lies in block g -/
abbrev PdB (w : World) (g : Nat) (h : Ph) (s : Kv) : Prop := Blk w g 28 (pdC h s)
def PBlk (w : World) (g : Nat) (h : Ph) (s : Kv) : Prop :=
  w.cell? ⟨g, 0, none⟩ = some (.int .i64 h.op) ∧ w.cell? ⟨g, 1, none⟩ = some (.string ⟨h.col.toArray⟩) ∧ w.cell? ⟨g, 2, none⟩ = some (.int .i64 h.cmp) ∧
  w.cell? ⟨g, 3, none⟩ = some (.bool h.val.null) ∧ w.cell? ⟨g, 4, none⟩ = some (.int .i64 h.val.num) ∧ w.cell? ⟨g, 5, none⟩ = some (.string ⟨h.val.txt.toArray⟩) ∧
  w.cell? ⟨g, 6, none⟩ = some (.int .i64 h.kind) ∧ w.cell? ⟨g, 7, none⟩ = some (.string ⟨h.pat.toArray⟩) ∧ w.cell? ⟨g, 8, none⟩ = some (.slice s.A s.n s.c)
theorem pdB_cells {w : World} {g : Nat} {h : Ph} {s : Kv} (e : PdB w g h s) : PBlk w g h s :=
  ⟨e.cell 0, e.cell 1, e.cell 2, e.cell 3, e.cell 4, e.cell 5, e.cell 6, e.cell 7, e.cell 8⟩
theorem pd_new (w : World) (g : Nat) (h : Ph) (s : Kv) (hg : g = w.heap.size) : PdB (w.alloc (.cells (pdC h s) 28)) g h s := by subst hg; exact Blk.new _ _ _
theorem pd2_new (w : World) (g : Nat) (a b : Ph) (s t : Kv) (hg : g = w.heap.size) : PdB ((w.alloc (.cells (pdC a s) 28)).alloc (.cells (pdC b t) 28)) g a s ∧ PdB ((w.alloc (.cells (pdC a s) 28)).alloc (.cells (pdC b t) 28)) (g + 1) b t := by
  subst hg
  refine ⟨(Blk.new _ _ _).fr ((Fr.refl Non _).alloc _) (fun e => e), ?_⟩
  have h : PdB ((w.alloc (.cells (pdC a s) 28)).alloc (.cells (pdC b t) 28)) (w.alloc (.cells (pdC a s) 28)).heap.size b t := Blk.new _ _ _
  rw [show (w.alloc (.cells (pdC a s) 28)).heap.size = w.heap.size + 1 by simp] at h
  exact h

/-! ### Trees -/
/-- the slice s reads as the predicates ps, with all that is within them -/
inductive Kd (w : World) : Kv → List Pd → Prop
  | mk (s : Kv) (ns : List (Ph × Kv)) (ps : List Pd) (hl : ns.length = ps.length) (hN : Ns pdL 9 w (kidV s) ns)
    (hh : ∀ i (h1 : i < ns.length) (h2 : i < ps.length), ns[i].1 = ps[i].hd) (hb : ∀ i (h2 : i < ps.length), I64b ps[i].hd.val.num)
    (hk : ∀ i (h1 : i < ns.length) (h2 : i < ps.length), Kd w ns[i].2 ps[i].kids) : Kd w s ps
theorem Kd.non {w w' : World} {s : Kv} {ps : List Pd} (h : Kd w s ps) (hf : Fr Non w w') : Kd w' s ps := by
  induction h with
  | mk s ns ps hl hN hh hb hk ih => exact .mk s ns ps hl (hN.non hf) hh hb ih
theorem Kd.nil_ (w : World) : Kd w noKv [] := .mk _ [] [] rfl (Ns.nil_ w) (fun i h => by cases h) (fun i h => by cases h) (fun i h => by cases h)
theorem Kd.len {w : World} {s : Kv} {ps : List Pd} (h : Kd w s ps) : s.n = ps.length := by
  cases h with
  | mk s ns ps hl hN hh hb hk =>
    obtain ⟨A, c, e, _⟩ := hN
    unfold kidV at e
    simp only [Value.slice.injEq] at e
    omega
/-- the one at j -/
theorem Kd.el {w : World} {s : Kv} {ps : List Pd} (h : Kd w s ps) (j : Nat) (hj : j < ps.length) :
    ∃ a t, s.A = some a ∧ PCells w (a.add (j * 9)) ps[j].hd t ∧ Kd w t ps[j].kids ∧ I64b ps[j].hd.val.num := by
  cases h with
  | mk s ns ps hl hN hh hb hk =>
    have hj' : j < ns.length := by omega
    obtain ⟨a, ha, hc⟩ := hN.at_ j ns[j] (List.getElem?_eq_getElem hj')
    have e := hh j hj' hj
    refine ⟨a, ns[j].2, ha, ?_, hk j hj' hj, hb j hj⟩
    rw [← e]
    exact pd_lit hc

/-! ### Two compared -/
def peq (a b : Ph) : Bool := decide (a = b)
theorem ceq_unl {a b : Cl} (h : ceq a b = false) : a ≠ b := by simpa [ceq] using h
set_option maxHeartbeats 2000000 in
theorem alike_any (a b : Ph) (s t : Kv) (w : World) : Calls Tryz.prog 87 #[pdV a s, pdV b t] w fun e w' => e = .returned (.bool (peq a b)) ∧ Fr Non w w' := by
  have S1 := fun W => csame_any a.val b.val W
  have B0 := Lib.hid (pd2_new w _ a b s t rfl)
  have HN : Hid (a ≠ b → peq a b = false) := Lib.hid (fun h => decide_eq_false h)
  have HA : Hid (a = b → peq a b = true) := Lib.hid (fun h => decide_eq_true h)
  obtain ⟨ao, ac, am, ⟨an, ai, at_⟩, ak, ap⟩ := a
  obtain ⟨bo, bc, bm, ⟨bn, bi, bt⟩, bk, bp⟩ := b
  obtain ⟨sA, sn, sc⟩ := s
  obtain ⟨tA, tn, tc⟩ := t
  unfold pdV pdC kidV
  unfold PdB pdC kidV at B0
  unfold clV clC at S1
  dsimp only at *
  by_cases ho : ao = bo
  · subst ho
    by_cases hc : ac = bc
    · subst hc
      by_cases hm : am = bm
      · subst hm
        by_cases hk : ak = bk
        · subst hk
          cases hv : ceq ⟨an, ai, at_⟩ ⟨bn, bi, bt⟩
          · have HE : Hid (peq _ _ = false) := Lib.hid (HN.out (fun e => ceq_unl hv (by cases e; rfl)))
            simp only [hv] at S1
            clear HN HA hv B0
            replace S1 := Lib.hid S1
            go_enter Tryz.func87, Tryz.ntmps87
            go_wp2_with fail
            refine (S1.out _).mono ?_
            rintro e w1 ⟨rfl, f1⟩
            go_wp2
            go_ret
            exact ⟨ret_boolE HE.out.symm, (((Fr.refl _ _).alloc _).alloc _).trans f1⟩
          · simp only [hv] at S1
            have hv2 := ceq_is hv
            clear hv
            cases hv2
            have HE : Hid (peq ⟨ao, ac, am, ⟨an, ai, at_⟩, ak, ap⟩ ⟨ao, ac, am, ⟨an, ai, at_⟩, ak, bp⟩ = (ap == bp)) := Lib.hid (by
              by_cases e : ap = bp
              · subst e; rw [HA.out rfl]; simp
              · rw [HN.out (fun h => e (by cases h; rfl))]; symm; rw [beq_eq_false_iff_ne]; exact e)
            clear HN HA
            replace S1 := Lib.hid S1
            go_enter Tryz.func87, Tryz.ntmps87
            go_wp2_with fail
            refine (S1.out _).mono ?_
            rintro e w1 ⟨rfl, f1⟩
            have g1 := (B0.out.1.fr f1 (fun e => e)).cell 7
            have g2 := (B0.out.2.fr f1 (fun e => e)).cell 7
            simp at g1 g2
            clear B0
            go_wp2
            go_ret
            exact ⟨ret_boolE HE.out.symm, (((Fr.refl _ _).alloc _).alloc _).trans f1⟩
        · have ek : (ak == bk) = false := by rw [beq_eq_false_iff_ne]; exact hk
          have HE : Hid (peq _ _ = false) := Lib.hid (HN.out (fun e => hk (by cases e; rfl)))
          clear S1 hk HN HA B0
          go_enter Tryz.func87, Tryz.ntmps87
          go_wp2
          go_ret
          exact ⟨ret_boolE HE.out.symm, ((Fr.refl _ _).alloc _).alloc _⟩
      · have em : (am == bm) = false := by rw [beq_eq_false_iff_ne]; exact hm
        have HE : Hid (peq _ _ = false) := Lib.hid (HN.out (fun e => hm (by cases e; rfl)))
        clear S1 hm HN HA B0
        go_enter Tryz.func87, Tryz.ntmps87
        go_wp2
        go_ret
        exact ⟨ret_boolE HE.out.symm, ((Fr.refl _ _).alloc _).alloc _⟩
    · have ec : (ac == bc) = false := by rw [beq_eq_false_iff_ne]; exact hc
      have HE : Hid (peq _ _ = false) := Lib.hid (HN.out (fun e => hc (by cases e; rfl)))
      clear S1 hc HN HA B0
      go_enter Tryz.func87, Tryz.ntmps87
      go_wp2
      go_ret
      exact ⟨ret_boolE HE.out.symm, ((Fr.refl _ _).alloc _).alloc _⟩
  · have eo : (ao == bo) = false := by rw [beq_eq_false_iff_ne]; exact ho
    have HE : Hid (peq _ _ = false) := Lib.hid (HN.out (fun e => ho (by cases e; rfl)))
    clear S1 ho HN HA B0
    go_enter Tryz.func87, Tryz.ntmps87
    go_wp2
    go_ret
    exact ⟨ret_boolE HE.out.symm, ((Fr.refl _ _).alloc _).alloc _⟩

set_option maxHeartbeats 2000000 in
theorem flat_any (a b : Ph) (s t : Kv) (w : World) : Calls Tryz.prog 34 #[pdV a s, pdV b t] w fun e w' => e = .returned (.bool (peq a b)) ∧ Fr Non w w' := by
  have S1 := fun W => run_eql_cl W a.val b.val
  have B0 := Lib.hid (pd2_new w _ a b s t rfl)
  have HN : Hid (a ≠ b → peq a b = false) := Lib.hid (fun h => decide_eq_false h)
  have HA : Hid (a = b → peq a b = true) := Lib.hid (fun h => decide_eq_true h)
  obtain ⟨ao, ac, am, ⟨an, ai, at_⟩, ak, ap⟩ := a
  obtain ⟨bo, bc, bm, ⟨bn, bi, bt⟩, bk, bp⟩ := b
  obtain ⟨sA, sn, sc⟩ := s
  obtain ⟨tA, tn, tc⟩ := t
  unfold pdV pdC kidV
  unfold PdB pdC kidV at B0
  dsimp only at *
  by_cases ho : ao = bo
  · subst ho
    by_cases hc : ac = bc
    · subst hc
      by_cases hm : am = bm
      · subst hm
        cases hv : ceq ⟨an, ai, at_⟩ ⟨bn, bi, bt⟩
        · have HE : Hid (peq _ _ = false) := Lib.hid (HN.out (fun e => ceq_unl hv (by cases e; rfl)))
          simp only [hv] at S1
          clear HN HA hv B0
          go_enter Tryz.func34, Tryz.ntmps34
          go_wp2
          go_ret
          exact ⟨ret_boolE HE.out.symm, ((Fr.refl _ _).alloc _).alloc _⟩
        · simp only [hv] at S1
          have hv2 := ceq_is hv
          clear hv
          cases hv2
          by_cases hk : ak = bk
          · subst hk
            have HE : Hid (peq ⟨ao, ac, am, ⟨an, ai, at_⟩, ak, ap⟩ ⟨ao, ac, am, ⟨an, ai, at_⟩, ak, bp⟩ = (ap == bp)) := Lib.hid (by
              by_cases e : ap = bp
              · subst e; rw [HA.out rfl]; simp
              · rw [HN.out (fun h => e (by cases h; rfl))]; symm; rw [beq_eq_false_iff_ne]; exact e)
            clear HN HA
            clear B0
            go_enter Tryz.func34, Tryz.ntmps34
            go_wp2
            go_ret
            exact ⟨ret_boolE HE.out.symm, ((Fr.refl _ _).alloc _).alloc _⟩
          · have ek : (ak == bk) = false := by rw [beq_eq_false_iff_ne]; exact hk
            have HE : Hid (peq _ _ = false) := Lib.hid (HN.out (fun e => hk (by cases e; rfl)))
            clear S1 hk HN HA B0
            go_enter Tryz.func34, Tryz.ntmps34
            go_wp2
            go_ret
            exact ⟨ret_boolE HE.out.symm, ((Fr.refl _ _).alloc _).alloc _⟩
      · have em : (am == bm) = false := by rw [beq_eq_false_iff_ne]; exact hm
        have HE : Hid (peq _ _ = false) := Lib.hid (HN.out (fun e => hm (by cases e; rfl)))
        clear S1 hm HN HA B0
        go_enter Tryz.func34, Tryz.ntmps34
        go_wp2
        go_ret
        exact ⟨ret_boolE HE.out.symm, ((Fr.refl _ _).alloc _).alloc _⟩
    · have ec : (ac == bc) = false := by rw [beq_eq_false_iff_ne]; exact hc
      have HE : Hid (peq _ _ = false) := Lib.hid (HN.out (fun e => hc (by cases e; rfl)))
      clear S1 hc HN HA B0
      go_enter Tryz.func34, Tryz.ntmps34
      go_wp2
      go_ret
      exact ⟨ret_boolE HE.out.symm, ((Fr.refl _ _).alloc _).alloc _⟩
  · have eo : (ao == bo) = false := by rw [beq_eq_false_iff_ne]; exact ho
    have HE : Hid (peq _ _ = false) := Lib.hid (HN.out (fun e => ho (by cases e; rfl)))
    clear S1 ho HN HA B0
    go_enter Tryz.func34, Tryz.ntmps34
    go_wp2
    go_ret
    exact ⟨ret_boolE HE.out.symm, ((Fr.refl _ _).alloc _).alloc _⟩
end Go.Proofs.YtipgaafgnefmdaaGreatDoor


namespace Go.Proofs.YtipgaafgnefmdaaGreatDoor
set_option linter.unusedVariables false
set_option linter.unusedSimpArgs false
set_option maxRecDepth 100000
open Go.RowKit

theorem ret_pd {fn : Func} {p : Tmp} (h : fn.results = #[.cell p 28]) (tmps : Array Value) (w : World) (g : Nat) (x : Ph) (s : Kv)
    (hp : tmps.getD p undef = .pointer (some ⟨g, 0, none⟩)) (hg : PdB w g x s) : (results fn tmps).run Tryz.prog w = .ok (pdV x s) w :=
  results_cell_row h tmps w g 28 _ (0, 0) _ hp hg Tryz.underlying28 rfl (by kernel_rfl)
/-- a predicate stored whole, as a walk spells it -/
def setPd (w : World) (g : Nat) (h : Ph) (s : Kv) : World := ((((((((w.setCell ⟨g, 0, none⟩ (.int .i64 h.op)).setCell ⟨g, 1, none⟩ (.string ⟨h.col.toArray⟩)).setCell ⟨g, 2, none⟩ (.int .i64 h.cmp)).setCell ⟨g, 3, none⟩ (.bool h.val.null)).setCell ⟨g, 4, none⟩ (.int .i64 h.val.num)).setCell ⟨g, 5, none⟩ (.string ⟨h.val.txt.toArray⟩)).setCell ⟨g, 6, none⟩ (.int .i64 h.kind)).setCell ⟨g, 7, none⟩ (.string ⟨h.pat.toArray⟩)).setCell ⟨g, 8, none⟩ (kidV s)
theorem setPd_fr (w : World) (g : Nat) (h : Ph) (s : Kv) : Fr (One g) w (setPd w g h s) := (((((((((Fr.refl (One g) w).set1 0 _).set1 1 _).set1 2 _).set1 3 _).set1 4 _).set1 5 _).set1 6 _).set1 7 _).set1 8 _
theorem set9 {w : World} {g : Nat} {t : TypeId} {a0 a1 a2 a3 a4 a5 a6 a7 a8 : Value} (e : Blk w g t #[a0, a1, a2, a3, a4, a5, a6, a7, a8]) (b0 b1 b2 b3 b4 b5 b6 b7 b8 : Value) : Blk ((((((((((w).setCell ⟨g, 0, none⟩ b0).setCell ⟨g, 1, none⟩ b1).setCell ⟨g, 2, none⟩ b2).setCell ⟨g, 3, none⟩ b3).setCell ⟨g, 4, none⟩ b4).setCell ⟨g, 5, none⟩ b5).setCell ⟨g, 6, none⟩ b6).setCell ⟨g, 7, none⟩ b7).setCell ⟨g, 8, none⟩ b8) g t #[b0, b1, b2, b3, b4, b5, b6, b7, b8] := by
  have h := (((((((((e).set 0 b0).set 1 b1).set 2 b2).set 3 b3).set 4 b4).set 5 b5).set 6 b6).set 7 b7).set 8 b8
  simp at h
  exact h
theorem setPd_B {w : World} {g : Nat} {x : Ph} {t : Kv} (e : PdB w g x t) (h : Ph) (s : Kv) : PdB (setPd w g h s) g h s := set9 e _ _ _ _ _ _ _ _ _
theorem setPd_end {S : Nat → Prop} {w w1 : World} (hf : Fr S w w1) (h : Ph) (s : Kv) : Fr S w (setPd w1 w.heap.size h s) := hf.fresh (setPd_fr _ _ _ _) (fun k e => by have : k = w.heap.size := e; omega)
def PFz (w : World) (g : Nat) : Prop := w.frozen? ⟨g, 0, none⟩ = false ∧ w.frozen? ⟨g, 1, none⟩ = false ∧ w.frozen? ⟨g, 2, none⟩ = false ∧ w.frozen? ⟨g, 3, none⟩ = false ∧ w.frozen? ⟨g, 4, none⟩ = false ∧ w.frozen? ⟨g, 5, none⟩ = false ∧ w.frozen? ⟨g, 6, none⟩ = false ∧ w.frozen? ⟨g, 7, none⟩ = false ∧ w.frozen? ⟨g, 8, none⟩ = false
theorem pdB_frozen {w : World} {g : Nat} {h : Ph} {s : Kv} (e : PdB w g h s) : PFz w g :=
  ⟨e.frozen 0, e.frozen 1, e.frozen 2, e.frozen 3, e.frozen 4, e.frozen 5, e.frozen 6, e.frozen 7, e.frozen 8⟩
def sgA : Array Value := #[.string ⟨#[61]⟩, .string ⟨#[60, 62]⟩, .string ⟨#[60]⟩, .string ⟨#[60, 61]⟩, .string ⟨#[62]⟩, .string ⟨#[62, 61]⟩]
end Go.Proofs.YtipgaafgnefmdaaGreatDoor


namespace Go.Proofs.YtipgaafgnefmdaaGreatDoor
set_option linter.unusedVariables false
set_option linter.unusedSimpArgs false
set_option maxRecDepth 100000
open Go.RowKit

/-- where a row lies behind an append: in its old block, or in a new one -/
def Wh (w : World) (v v' : Value) : Prop := v'.ownBlock = v.ownBlock ∨ ∀ k, v'.ownBlock = some k → w.heap.size ≤ k
theorem run_append_wh {P : Program} (w : World) (base : Nat) (t ty e : TypeId) (i : TypeInfo) (z : Value) (size bytes : Nat) (ht : P.underlying t = some (.slice e)) (hi : P.info? e = some i) (hz : i.zero = some z)
    (hsize : i.size = size) (hby : i.bytes = bytes) (hzs : z.cells.size = size) (hsz : 0 < size)
    (v : Value) (n : Nat) (xs : List Value) (hown : w.ownsRow base e size v n xs)
    (a : Addr) (m c : Nat) (news : List Value) (hl : news.length = m * size) (hnews : ∀ j u, news[j]? = some u → w.cell? (a.add j) = some u) (h1 : ∀ u ∈ news, u.oneCell' = true)
    (h63 : n + m ≤ maxLen) (hbytes : (n + m) * bytes ≤ 140737488355328) (hbase : base ≤ w.heap.size) :
    ∃ v' w', (Builtin.append_ #[t, t] ty #[v, .slice (some a) m c]).run P w = .ok v' w' ∧ w'.ownsRow base e size v' (n + m) (xs ++ news) ∧ w.grownBy w' v.ownBlock ∧ Wh w v v' := by
  have up : ∀ v' w' ys, World.ownsRow w' w.heap.size e size v' (n + m) ys → World.ownsRow w' base e size v' (n + m) ys := by
    intro v' w' ys h
    refine ⟨h.1, ?_⟩
    rcases h.2 with h2 | ⟨g, cap, cur, hv, hb, r⟩
    · exact .inl h2
    · exact .inr ⟨g, cap, cur, hv, by omega, r⟩
  rcases hown.2 with ⟨rfl, h0⟩ | ⟨g, cap, cur, rfl, hbg, hg, hnc, hcm, hcs, htk⟩
  · have hown2 : w.ownsRow w.heap.size e size (.slice none 0 0) n xs := ⟨hown.1, .inl ⟨rfl, h0⟩⟩
    obtain ⟨v', w', hr, r1, r2, _⟩ := run_append_own (P := P) w w.heap.size t ty e i z size bytes ht hi hz hsize hby hzs hsz _ n xs hown2 a m c news hl hnews h1 h63 hbytes (Nat.le_refl _)
    exact ⟨v', w', hr, up v' w' _ r1, r2, .inr fun k hk => (World.ownsRow.lt r1 k hk).1⟩
  · by_cases hroom : n + m ≤ cap
    · obtain ⟨w', hr, r1, r2⟩ := run_append_own_spare (P := P) w base t ty e i size ht hi hsize g n cap xs hown a m c news hl hnews h1 hroom
      exact ⟨_, w', hr, r1, r2, .inl rfl⟩
    · obtain ⟨v', w', hr, r1, r2⟩ := run_append_arg_grows (P := P) w t ty e i z size bytes ht hi hz hsize hby hzs hsz ⟨g, 0, none⟩ n cap xs hown.1 (fun j u hj => World.ownsRow.cells hown rfl j u hj) a m c news hl hnews (by omega) h63 hbytes
      refine ⟨v', w', hr, up v' w' _ r1, ⟨r2.os, r2.tape, r2.output, r2.size, fun k hk _ => r2.block k hk (fun e => by cases e)⟩, .inr fun k hk => (World.ownsRow.lt r1 k hk).1⟩

/-- two rows are apart -/
def Far (v u : Value) : Prop := ∀ k, v.ownBlock = some k → u.ownBlock ≠ some k
theorem Far.symm {v u : Value} (h : Far v u) : Far u v := fun k h1 h2 => h k h2 h1
end Go.Proofs.YtipgaafgnefmdaaGreatDoor


namespace Go.Proofs.YtipgaafgnefmdaaGreatDoor
set_option linter.unusedVariables false
set_option linter.unusedSimpArgs false
set_option maxRecDepth 100000
open Go.RowKit

/-- the slice s reads as the predicates ps, and all of it lies in blocks of S -/
inductive KdS (S : Nat → Prop) (w : World) : Kv → List Pd → Prop
  | mk (s : Kv) (ns : List (Ph × Kv)) (ps : List Pd) (hl : ns.length = ps.length) (hN : Ns pdL 9 w (kidV s) ns)
    (hh : ∀ i (h1 : i < ns.length) (h2 : i < ps.length), ns[i].1 = ps[i].hd) (hb : ∀ i (h2 : i < ps.length), I64b ps[i].hd.val.num)
    (hs : ∀ b, (kidV s).ownBlock = some b → S b ∧ b < w.heap.size)
    (hk : ∀ i (h1 : i < ns.length) (h2 : i < ps.length), KdS S w ns[i].2 ps[i].kids) : KdS S w s ps
theorem KdS.kd {S : Nat → Prop} {w : World} {s : Kv} {ps : List Pd} (h : KdS S w s ps) : Kd w s ps := by
  induction h with
  | mk s ns ps hl hN hh hb hs hk ih => exact .mk s ns ps hl hN hh hb ih
theorem KdS.fr {S R : Nat → Prop} {w w' : World} {s : Kv} {ps : List Pd} (h : KdS S w s ps) (hf : Fr R w w') (hn : ∀ b, S b → b < w.heap.size → ¬ R b) : KdS S w' s ps := by
  induction h with
  | mk s ns ps hl hN hh hb hs hk ih => exact .mk s ns ps hl (hN.fr hf (fun b hb => hn b (hs b hb).1 (hs b hb).2)) hh hb (fun b hb => ⟨(hs b hb).1, Nat.lt_of_lt_of_le (hs b hb).2 hf.size⟩) ih
theorem KdS.imp {S S' : Nat → Prop} {w : World} {s : Kv} {ps : List Pd} (h : KdS S w s ps) (hi : ∀ b, S b → b < w.heap.size → S' b) : KdS S' w s ps := by
  induction h with
  | mk s ns ps hl hN hh hb hs hk ih => exact .mk s ns ps hl hN hh hb (fun b hb => ⟨hi b (hs b hb).1 (hs b hb).2, (hs b hb).2⟩) ih
theorem KdS.non {S : Nat → Prop} {w w' : World} {s : Kv} {ps : List Pd} (h : KdS S w s ps) (hf : Fr Non w w') : KdS S w' s ps := h.fr hf fun _ _ _ e => e
theorem KdS.nil_ (S : Nat → Prop) (w : World) : KdS S w noKv [] := .mk _ [] [] rfl (Ns.nil_ w) (fun i h => by cases h) (fun i h => by cases h) (fun b hb => by simp [kidV, noKv, Value.ownBlock] at hb) (fun i h => by cases h)
/-- a predicate, all of what is within it in blocks from B on -/
def PdF (B : Nat) (p : Pd) (w : World) (v : Value) : Prop := ∃ s, v = pdV p.hd s ∧ KdS (fun b => B ≤ b) w s p.kids ∧ I64b p.hd.val.num
theorem PdF.fr {B : Nat} {p : Pd} {R : Nat → Prop} {w w' : World} {v : Value} (h : PdF B p w v) (hf : Fr R w w') (hn : ∀ b, B ≤ b → b < w.heap.size → ¬ R b) : PdF B p w' v := by
  obtain ⟨s, e, hk, hb⟩ := h
  exact ⟨s, e, hk.fr hf hn, hb⟩
theorem PdF.mono {B B' : Nat} {p : Pd} {w : World} {v : Value} (h : PdF B p w v) (hB : B' ≤ B) : PdF B' p w v := by
  obtain ⟨s, e, hk, hb⟩ := h
  exact ⟨s, e, hk.imp fun b hb _ => by omega, hb⟩
/-- a row of predicates of the call's own, with what is within them, each of it elsewhere -/
def PRow (w : World) (B : Nat) (v : Value) (ps : List Pd) : Prop := ∃ ns : List (Ph × Kv), ns.length = ps.length ∧ No pdL 9 28 w B v ns ∧
  ∀ i (h1 : i < ns.length) (h2 : i < ps.length), ns[i].1 = ps[i].hd ∧ I64b ps[i].hd.val.num ∧ KdS (fun b => B ≤ b ∧ v.ownBlock ≠ some b) w ns[i].2 ps[i].kids
theorem PRow.shape {w : World} {B : Nat} {v : Value} {ps : List Pd} (h : PRow w B v ps) : ∃ A c, v = .slice A ps.length c := by
  obtain ⟨ns, hl, hN, _⟩ := h
  obtain ⟨A, c, e⟩ := (hN.ns fd_pd).shape
  exact ⟨A, c, by rw [e, hl]⟩
theorem PRow.lt {w : World} {B : Nat} {v : Value} {ps : List Pd} (h : PRow w B v ps) : ∀ b, v.ownBlock = some b → B ≤ b ∧ b < w.heap.size := by
  obtain ⟨ns, hl, hN, _⟩ := h
  exact hN.lt
theorem PRow.sl {w : World} {B : Nat} {v : Value} {ps : List Pd} (h : PRow w B v ps) : slLen v = ps.length := by
  obtain ⟨A, c, rfl⟩ := h.shape
  rfl
theorem PRow.kds {w : World} {B n c : Nat} {A : Option Addr} {ps : List Pd} (h : PRow w B (.slice A n c) ps) : KdS (fun b => B ≤ b) w ⟨A, n, c⟩ ps := by
  obtain ⟨ns, hl, hN, hi⟩ := h
  exact .mk _ ns ps hl (hN.ns fd_pd) (fun i h1 h2 => (hi i h1 h2).1) (fun i h2 => (hi i (by omega) h2).2.1) (fun b hb => hN.lt b hb) (fun i h1 h2 => (hi i h1 h2).2.2.imp fun b hb _ => hb.1)
theorem PRow.fr {R : Nat → Prop} {w w' : World} {B : Nat} {v : Value} {ps : List Pd} (h : PRow w B v ps) (hf : Fr R w w') (hn : ∀ b, B ≤ b → b < w.heap.size → ¬ R b) : PRow w' B v ps := by
  obtain ⟨ns, hl, hN, hi⟩ := h
  exact ⟨ns, hl, hN.fr hf (fun b hb => hn b (hN.lt b hb).1 (hN.lt b hb).2), fun i h1 h2 => ⟨(hi i h1 h2).1, (hi i h1 h2).2.1, (hi i h1 h2).2.2.fr hf fun b hb hl => hn b hb.1 hl⟩⟩
theorem PRow.lit (w : World) (B g : Nat) (p : Pd) (s : Kv) (cs : Array Value) (hcs : cs.toList = pdL (p.hd, s)) (hg : g = w.heap.size) (hB : B ≤ g) (hb : I64b p.hd.val.num) (hk : KdS (fun b => B ≤ b) w s p.kids) :
    PRow (w.alloc (.cells cs 28)) B (.slice (some ⟨g, 0, none⟩) 1 1) [p] := by
  subst hg
  refine ⟨[(p.hd, s)], rfl, no_lit fd_pd w B _ [(p.hd, s)] cs (by simpa using hcs) rfl hB (by simp), fun i h1 h2 => ?_⟩
  obtain rfl : i = 0 := by simp at h1; omega
  refine ⟨rfl, hb, ?_⟩
  exact (hk.imp (S' := fun b => B ≤ b ∧ (Value.slice (some ⟨w.heap.size, 0, none⟩) 1 1).ownBlock ≠ some b) fun b hb hlt => ⟨hb, by simp [Value.ownBlock]; omega⟩).non ((Fr.refl Non w).alloc _)
/-- the first one's cells -/
theorem PRow.el0 {w : World} {B n c : Nat} {A : Option Addr} {p : Pd} {r : List Pd} (h : PRow w B (.slice A n c) (p :: r)) : ∃ g s, A = some ⟨g, 0, none⟩ ∧ n = r.length + 1 ∧ PBlk w g p.hd s ∧ KdS (fun b => B ≤ b) w s p.kids ∧ I64b p.hd.val.num ∧ g < w.heap.size := by
  obtain ⟨ns, hl, hN, hi⟩ := h
  obtain ⟨g, cap, e, h1, h2, h3, h4⟩ := hN.row (by rw [hl]; simp)
  simp only [Value.slice.injEq] at e
  obtain ⟨rfl, rfl, rfl⟩ := e
  obtain ⟨e1, e2, e3⟩ := hi 0 (by rw [hl]; simp) (by simp)
  have h0 : 0 < ns.length := by rw [hl]; simp
  have el : ∀ i u, (pdL (ns[0]'h0))[i]? = some u → _ := fun i u hu => hN.el fd_pd rfl 0 i (ns[0]'h0) u (List.getElem?_eq_getElem h0) hu
  refine ⟨g, (ns[0]'h0).2, rfl, by rw [hl]; simp, ?_, e3.imp fun b hb _ => hb.1, e2, h2⟩
  simp only [List.getElem_cons_zero] at e1
  rw [← e1]
  have el2 : ∀ i u, (pdL (ns[0]'h0))[i]? = some u → w.cell? ⟨g, i, none⟩ = some u := fun i u hu => by have := el i u hu; rwa [Nat.zero_mul, Nat.zero_add] at this
  exact ⟨el2 0 _ rfl, el2 1 _ rfl, el2 2 _ rfl, el2 3 _ rfl, el2 4 _ rfl, el2 5 _ rfl, el2 6 _ rfl, el2 7 _ rfl, el2 8 _ rfl⟩
theorem run_pushP {w : World} {B : Nat} {v : Value} {ps : List Pd} (h : PRow w B v ps) (p : Pd) (s : Kv) (hb : I64b p.hd.val.num) (hk : KdS (fun b => B ≤ b ∧ v.ownBlock ≠ some b) w s p.kids) (cs : Array Value) (hcs : cs.toList = pdL (p.hd, s)) (hl : ps.length < 1000000) (hB : B ≤ w.heap.size) (ty : TypeId) :
    ∃ v' w', (Builtin.append_ #[26, 26] ty #[v, .slice (some ⟨w.heap.size, 0, none⟩) 1 1]).run Tryz.prog (w.alloc (.cells cs 28)) = .ok v' w' ∧ PRow w' B v' (ps ++ [p]) ∧ Fr (fun b => v.ownBlock = some b) w w' := by
  obtain ⟨ns, hn, hN, hi⟩ := h
  obtain ⟨ii, hii, hz0, hz1, hz2⟩ := info_parts eln_pd.info
  have FA : Fr Non w (w.alloc (.cells cs 28)) := (Fr.refl Non w).alloc _
  obtain ⟨v', w', hr, h1, h2, h3⟩ := run_append_wh (P := Tryz.prog) (w.alloc (.cells cs 28)) B 26 ty 28 ii _ 9 112 eln_pd.under hii hz0 hz1 hz2 eln_pd.cells (by omega) v ns.length (ns.flatMap pdL) (hN.alloc _)
    ⟨w.heap.size, 0, none⟩ 1 1 (pdL (p.hd, s)) rfl (by
      intro j u hu
      rw [show (⟨w.heap.size, 0, none⟩ : Addr).add j = ⟨w.heap.size, j, none⟩ by simp [Addr.add]; exact fun e => e.symm]
      rw [(Blk.new w 28 cs).cell j, ← hu, ← hcs]
      simp) (fun u hu => fd_pd.one (p.hd, s) u hu) (by unfold maxLen; omega) (by omega) (by simp; omega)
  have F2 : Fr (fun b => v.ownBlock = some b) w w' := ((Fr.refl _ w).alloc _).trans (Fr.of_grown h2)
  refine ⟨v', w', hr, ⟨ns ++ [(p.hd, s)], by simp [hn], ?_, ?_⟩, F2⟩
  · unfold No
    rw [List.flatMap_append, List.length_append]
    simpa using h1
  · have up : ∀ s' ks, KdS (fun b => B ≤ b ∧ v.ownBlock ≠ some b) w s' ks → KdS (fun b => B ≤ b ∧ v'.ownBlock ≠ some b) w' s' ks := fun s' ks e =>
      ((e.imp (S' := fun b => B ≤ b ∧ v.ownBlock ≠ some b ∧ v'.ownBlock ≠ some b) (fun b hb hlt => ⟨hb.1, hb.2, by
        rcases h3 with h3 | h3
        · rw [h3]; exact hb.2
        · intro e; have := h3 b e; simp at this; omega⟩)).fr F2 (fun b hb _ => hb.2.1)).imp fun b hb _ => ⟨hb.1, hb.2.2⟩
    intro i j1 j2
    by_cases hlt : i < ps.length
    · have hlt2 : i < ns.length := by omega
      rw [List.getElem_append_left hlt2, List.getElem_append_left hlt]
      obtain ⟨e1, e2, e3⟩ := hi i hlt2 hlt
      exact ⟨e1, e2, up _ _ e3⟩
    · have e0 : i = ps.length := by simp at j2; omega
      subst e0
      rw [List.getElem_append_right (by omega), List.getElem_append_right (by omega)]
      simp only [hn, Nat.sub_self, List.getElem_cons_zero, true_and]
      exact ⟨hb, up _ _ hk⟩
/-- append of one predicate, which was stored in a new block first, as a step -/
theorem wpList_pushP {w0 : World} {ops : Array Oper} {rest : List Oper} {o : Oper} {a : Act} {Q : Exit → Act → World → Prop} (hgd : o.guard = none) (s x : Operand)
    (ho : o.op = .call { callee := .builtin .append, args := #[s, x], argTypes := #[26, 26] })
    (B : Nat) (v : Value) (ps : List Pd) (hs : a.eval s = v) (h : PRow w0 B v ps) (p : Pd) (k : Kv) (hb : I64b p.hd.val.num) (hk : KdS (fun b => B ≤ b ∧ v.ownBlock ≠ some b) w0 k p.kids) (cs : Array Value) (hcs : cs.toList = pdL (p.hd, k)) (g : Nat) (hx : a.eval x = .slice (some ⟨g, 0, none⟩) 1 1) (hg : g = w0.heap.size)
    (hl : ps.length < 1000000) (hB : B ≤ w0.heap.size)
    (hK : ∀ v' w', PRow w' B v' (ps ++ [p]) → Fr (fun b => v.ownBlock = some b) w0 w' → wpList Tryz.prog ops Q rest (a.put o.dst v') w') :
    wpList Tryz.prog ops Q (o :: rest) a (w0.alloc (.cells cs 28)) := by
  subst hg
  refine wpList_plain hgd fun _ hK' => ?_
  obtain ⟨v', w', hr, h1, h2⟩ := run_pushP h p k hb hk cs hcs hl hB o.type
  unfold Oper.wp
  simp only [execOp, ho, resolve, invoke, builtin, Sem.run_bind, Sem.run_pure, Result.andThen_ok, List.map_toArray, List.map_cons, List.map_nil, hs, hx, hr]
  exact hK' _ _ (hK v' w' h1 h2)
end Go.Proofs.YtipgaafgnefmdaaGreatDoor


namespace Go.Proofs.YtipgaafgnefmdaaGreatDoor
set_option linter.unusedVariables false
set_option linter.unusedSimpArgs false
set_option maxRecDepth 100000
open Go.RowKit

/-- what is asked of a column, behind its name -/
def askK2 (c : Tx) (r : List Tk) : Rd Pd :=
    if isK 1 isW r = true then (match mustK 1 nullW (tlK r) with | .error e => .error e | .ok r2 => .ok (.mk ⟨3, c, 0, zCl, 0, []⟩ [], r2))
    else if isK 1 likeW r = true then (if (hdT (tlK r)).kind = 3 then .ok (.mk ⟨4, c, 0, zCl, 0, (hdT (tlK r)).txt⟩ [], tlK (tlK r)) else errK (tlK r))
    else if (hdT r).kind = 4 ∧ signK (hdT r).txt ≠ 0 then (match valK (tlK r) with | .error e => .error e | .ok ((v, k), r2) => .ok (.mk ⟨2, c, signK (hdT r).txt, v, k, []⟩ [], r2))
    else errK r
theorem ask_parts (σ : Sg) (a : Tx) (hA : ∀ b r, onS σ nameK = .ok (b, r) → a = b) : onS σ askedK = onS (dropV (onS σ nameK)) (askK2 a) := by
  cases σ with
  | error z => rfl
  | ok l =>
    unfold onS at *
    dsimp only at *
    have e : askedK l = (match nameK l with | .error e => .error e | .ok (c, r) => askK2 c r) := rfl
    rw [e]
    cases hx : nameK l with
    | error z => rfl
    | ok y =>
      obtain ⟨c, r⟩ := y
      obtain rfl := hA c r hx
      rfl
theorem drop_map {α β : Type} (f : α → β) (x : Rd α) : dropV (mapR f x) = dropV x := by cases x <;> rfl
theorem map_ok {α β : Type} {f : α → β} {x : Rd α} {a : α} (h : ∀ b r, x = .ok (b, r) → a = b) : ∀ b r, mapR f x = .ok (b, r) → f a = b := by
  intro b r e
  cases x with
  | error z => cases e
  | ok y => obtain ⟨y1, y2⟩ := y; obtain rfl := h y1 y2 rfl; cases e; rfl
theorem askS_is {σ : Sg} (hf : FinX σ) (c : Tx) (h : sayX isW σ = true) : dropV (onS σ (askK2 c)) = onM (.ok (tailX σ)) (mustK 1 nullW) ∧ ∀ b r, onS σ (askK2 c) = .ok (b, r) → Pd.mk ⟨3, c, 0, zCl, 0, []⟩ [] = b := by
  rw [say_isW (by decide) hf] at h
  obtain ⟨l, rfl, h2⟩ := isX_ok h
  unfold onS onM askK2 tailX
  dsimp only
  rw [if_pos h2]
  cases mustK 1 nullW (tlK l) with
  | error z => exact ⟨rfl, fun b r e => by cases e⟩
  | ok y => exact ⟨rfl, fun b r e => by cases e; rfl⟩
theorem askS_like {σ : Sg} (hf : FinX σ) (c : Tx) (h1 : sayX isW σ = false) (h : sayX likeW σ = true) : onS σ (askK2 c) = mapR (fun t => Pd.mk ⟨4, c, 0, zCl, 0, t⟩ []) (onS (.ok (tailX σ)) (kindK 3 Tk.txt)) := by
  rw [say_isW (by decide) hf] at h h1
  obtain ⟨l, rfl, h2⟩ := isX_ok h
  have h3 : isK 1 isW l = false := h1
  unfold onS askK2 tailX kindK
  dsimp only
  rw [if_neg (by simp [h3]), if_pos h2]
  split <;> rfl
def signsL : List Tx := [[61], [60, 62], [60], [60, 61], [62], [62, 61]]
theorem which_sign {r : List Tk} (hf : EndL r) : whichK signsL r = if (hdT r).kind = 4 ∧ signK (hdT r).txt ≠ 0 then .ok (signK (hdT r).txt - 1, tlK r) else errK r := by
  have e1 : ∀ s, s ∈ marksL → sayK s r = isK 4 s r := fun s hs => say_mark hs hf
  unfold signsL
  simp only [whichK]
  rw [e1 _ (by decide), e1 _ (by decide), e1 _ (by decide), e1 _ (by decide), e1 _ (by decide), e1 _ (by decide)]
  unfold isK
  by_cases hk : (hdT r).kind = 4
  · simp only [hk, decide_true, Bool.true_and, true_and, decide_eq_true_eq]
    unfold signK errK
    generalize (hdT r).txt = t
    by_cases t1 : t = [61]
    · subst t1; rfl
    · by_cases t2 : t = [60, 62]
      · subst t2; rfl
      · by_cases t3 : t = [60]
        · subst t3; rfl
        · by_cases t4 : t = [60, 61]
          · subst t4; rfl
          · by_cases t5 : t = [62]
            · subst t5; rfl
            · by_cases t6 : t = [62, 61]
              · subst t6; rfl
              · simp [t1, t2, t3, t4, t5, t6]
  · simp only [hk, decide_false, Bool.false_and, false_and, if_false, Bool.false_eq_true]
    rfl
theorem askS_sign {σ : Sg} (hf : FinX σ) (c : Tx) (h1 : sayX isW σ = false) (h2 : sayX likeW σ = false) (i : Int) (hi : ∀ b r, onS σ (whichK signsL) = .ok (b, r) → i = b) :
    onS σ (askK2 c) = mapR (fun (x : Cl × Int) => Pd.mk ⟨2, c, 1 + i, x.1, x.2, []⟩ []) (onS (dropV (onS σ (whichK signsL))) valK) := by
  rw [say_isW (by decide) hf] at h1 h2
  cases σ with
  | error z => rfl
  | ok l =>
    have e1 : isK 1 isW l = false := h1
    have e2 : isK 1 likeW l = false := h2
    unfold onS at *
    unfold askK2
    dsimp only at *
    rw [which_sign (hf l rfl)] at hi ⊢
    rw [if_neg (by simp [e1]), if_neg (by simp [e2])]
    split
    · rename_i hs
      rw [if_pos hs] at hi
      have ei := hi _ _ rfl
      have ei : 1 + i = signK (hdT l).txt := by omega
      unfold dropV
      dsimp only
      rw [ei]
      cases valK (tlK l) with
      | error z => rfl
      | ok y => rfl
    · rfl
theorem leaf_pd (B : Nat) (w : World) (h : Ph) (hb : I64b h.val.num) : PdF B (.mk h []) w (pdV h noKv) := ⟨noKv, rfl, KdS.nil_ _ _, hb⟩
/-- .. as it lies in a block -/
theorem pd_set {w : World} {g : Nat} {h : Ph} {s : Kv} (e : PdB w g h s) :
    (∀ x, PdB (w.setCell ⟨g, 0, none⟩ (.int .i64 x)) g { h with op := x } s) ∧ (∀ x, PdB (w.setCell ⟨g, 2, none⟩ (.int .i64 x)) g { h with cmp := x } s) ∧ (∀ x : Tx, PdB (w.setCell ⟨g, 7, none⟩ (.string ⟨x.toArray⟩)) g { h with pat := x } s) :=
  ⟨fun x => by have a := e.set 0 (.int .i64 x); simp [pdC] at a ⊢; exact a, fun x => by have a := e.set 2 (.int .i64 x); simp [pdC] at a ⊢; exact a, fun x => by have a := e.set 7 (.string ⟨x.toArray⟩); simp [pdC] at a ⊢; exact a⟩
set_option maxHeartbeats 4000000 in
theorem pask_any (B g : Nat) (d : Int) (σ : Sg) (w : World) (h : PX B g d w σ) :
    Calls Tryz.prog 118 #[.pointer (some ⟨g, 0, none⟩)] w fun e w' => EndX (PX B g d) (onS σ askedK) (PdF w.heap.size) e w' ∧ Fr (One g) w w' := by
  have HB := Lib.hid h.lt
  have F0 : Fr Non w (w.alloc (.cells #[.int .i64 0, .string ⟨#[]⟩, .int .i64 0, .bool false, .int .i64 0, .string ⟨#[]⟩, .int .i64 0, .string ⟨#[]⟩, .slice none 0 0] 28)) := (Fr.refl Non w).alloc _
  have N := Lib.hid (pname_ask B g d σ _ (h.non F0))
  have HPA := Lib.hid (fun a => ask_parts σ a)
  clear h F0
  generalize onS σ nameK = x0 at *
  generalize onS σ askedK = X at *
  go_enter Tryz.func118, Tryz.ntmps118
  go_wp2_with fail
  refine N.out.mono ?_
  rintro e w1 ⟨⟨c, v, rfl, rfl, hT, hA⟩, hF⟩
  have HE0 := Lib.hid (HPA.out c hA)
  have hsz : w.heap.size < w1.heap.size := Nat.lt_of_lt_of_le (by simp) hF.size
  have HNE : Hid (w.heap.size ≠ w1.heap.size) := Lib.hid (by omega)
  have HSZ := Lib.hid hsz
  have HT1 := Lib.hid hT
  have HF1 : Hid (Fr (One g) w w1) := Lib.hid (((Fr.refl (One g) w).alloc _).trans hF)
  have HZ1 : Hid (PdB w1 w.heap.size ⟨0, [], 0, zCl, 0, []⟩ noKv) := Lib.hid ((pd_new w _ ⟨0, [], 0, zCl, 0, []⟩ noKv rfl).fr hF (fun e => by have : w.heap.size = g := e; have := HB.out; omega))
  clear hT hF hA hsz N HPA
  generalize dropV x0 = σ1 at *
  clear x0
  have HFX := Lib.hid HT1.out.finX
  have HP2 : Hid (PdB (w1.alloc (.cells (pdC ⟨0, c, 0, zCl, 0, []⟩ noKv) 28)) w1.heap.size ⟨0, c, 0, zCl, 0, []⟩ noKv) := Lib.hid (pd_new w1 _ _ _ rfl)
  have F2 : Hid (Fr Non w1 (w1.alloc (.cells (pdC ⟨0, c, 0, zCl, 0, []⟩ noKv) 28))) := Lib.hid ((Fr.refl Non w1).alloc _)
  unfold pdC noKv kidV zCl at HP2 F2
  dsimp only at HP2 F2
  go_wp2_with fail
  generalize hW : w1.alloc _ = W2 at *
  clear hW
  have HT2 := Lib.hid (HT1.out.non F2.out)
  have HF2 := Lib.hid (HF1.out.trans F2.out.any)
  have HZ2 := Lib.hid (HZ1.out.fr F2.out (fun e => e))
  have HG1 := Lib.hid HT1.out.lt
  clear HT1 HF1 HZ1 F2
  have S1 := Lib.hid (pskip_any B g d isW σ1 W2 HT2.out)
  have A1 := Lib.hid (askS_is HFX.out c)
  have A2 := Lib.hid (askS_like HFX.out c)
  have A3 := Lib.hid (askS_sign HFX.out c)
  have Y1 := Lib.hid (fun e => skip_yes (s := isW) (σ := σ1) e)
  have Z1 := Lib.hid (fun e => skip_no (s := isW) (σ := σ1) e)
  have Y2 := Lib.hid (fun e => skip_yes (s := likeW) (σ := σ1) e)
  have Z2 := Lib.hid (fun e => skip_no (s := likeW) (σ := σ1) e)
  generalize sayX isW σ1 = b1 at *
  refine S1.out.mono ?_
  rintro e w4 ⟨rfl, hT, hF⟩
  have HT4 := Lib.hid hT
  have HF4 := Lib.hid (HF2.out.trans hF)
  have HZ4 := Lib.hid (HZ2.out.fr hF (fun e => by have : w.heap.size = g := e; have := HB.out; omega))
  have HP4 := Lib.hid (HP2.out.fr hF (fun e => by have : w1.heap.size = g := e; have := HG1.out; omega))
  clear hT hF S1 HT2 HF2 HZ2 HP2
  cases b1
  · have HT4 : Hid (PX B g d w4 σ1) := Lib.hid (by rw [← Z1.out (by first | rfl | trivial)]; exact HT4.out)
    have S2 := Lib.hid (pskip_any B g d likeW σ1 w4 HT4.out)
    clear A1 Y1 Z1
    generalize sayX likeW σ1 = b2 at *
    go_wp2_with fail
    refine S2.out.mono ?_
    rintro e w5 ⟨rfl, hT, hF⟩
    have HT5 := Lib.hid hT
    have HF5 := Lib.hid (HF4.out.trans hF)
    have HZ5 := Lib.hid (HZ4.out.fr hF (fun e => by have : w.heap.size = g := e; have := HB.out; omega))
    have HP5 := Lib.hid (HP4.out.fr hF (fun e => by have : w1.heap.size = g := e; have := HG1.out; omega))
    clear hT hF S2 HT4 HF4 HZ4 HP4
    cases b2
    · have HT5 : Hid (PX B g d w5 σ1) := Lib.hid (by rw [← Z2.out (by first | rfl | trivial)]; exact HT5.out)
      clear A2 Y2 Z2
      have FS := Lib.hid ((Fr.refl (One w1.heap.size) w5).set1 0 (.int .i64 2))
      have HP6 := Lib.hid ((pd_set HP5.out).1 2)
      have HZ6 := Lib.hid (HZ5.out.fr FS.out (fun e => HNE.out e))
      have q0 := HP5.out.frozen 0
      have p0 := (pdB_cells HP5.out).1
      dsimp only at p0
      have HT6 := Lib.hid (HT5.out.fresh FS.out (fun k e => by have : k = w1.heap.size := e; have := HG1.out; omega))
      have HF6 := Lib.hid (HF5.out.fresh FS.out (fun k e => by have : k = w1.heap.size := e; have := HSZ.out; omega))
      clear FS HT5 HF5 HZ5 HP5
      dsimp only at HP6
      go_upto_region 3 with fail
      clear q0 p0
      generalize w5.setCell ⟨w1.heap.size, 0, none⟩ (.int .i64 2) = W6 at *
      have HW1 : Hid (w1.heap.size < W6.heap.size) := Lib.hid HP6.out.lt
      have FA : Hid (Fr Non W6 (W6.alloc (.cells sgA 9))) := Lib.hid ((Fr.refl Non W6).alloc _)
      have VA : Hid (Vs sv (W6.alloc (.cells sgA 9)) (.slice (some ⟨W6.heap.size, 0, none⟩) 6 6) signsL) := Lib.hid (vs_row W6 signsL 9 (0, 0))
      have HP7 := Lib.hid (HP6.out.fr FA.out (fun e => e))
      have HZ7 := Lib.hid (HZ6.out.fr FA.out (fun e => e))
      have WH := Lib.hid (pwhich_any B g d signsL _ σ1 _ (HT6.out.non FA.out) VA.out (fun b hb => by
        have : W6.heap.size = b := by simpa [Value.ownBlock] using hb
        have := HT6.out.lt
        omega) (by decide))
      have HF7 := Lib.hid (HF6.out.trans FA.out.any)
      unfold sgA at WH HP7 HZ7 HF7
      clear FA VA HT6 HF6 HZ6 HP6
      go_wp2_with fail
      refine WH.out.mono ?_
      rintro e w8 ⟨⟨i, v, rfl, ⟨rfl, hw0, hw1⟩, hT, hA⟩, hF⟩
      have HIB : IntKind.i64.wrap (1 + i) = 1 + i ∧ 0 ≤ i ∧ i ≤ 1000 := ⟨IntWalk.i64_in _ ⟨by omega, by omega⟩, hw0, hw1⟩
      have A31 := Lib.hid (A3.out (by first | rfl | trivial) (by first | rfl | trivial) i hA)
      have HT8 := Lib.hid hT
      have HF8 := Lib.hid (HF7.out.trans hF)
      have HZ8 := Lib.hid (HZ7.out.fr hF (fun e => by have : w.heap.size = g := e; have := HB.out; omega))
      have HP8 := Lib.hid (HP7.out.fr hF (fun e => by have : w1.heap.size = g := e; have := HG1.out; omega))
      clear hT hF hA WH A3 HF7 HZ7 HP7
      have FS := Lib.hid ((Fr.refl (One w1.heap.size) w8).set1 2 (.int .i64 (1 + i)))
      have HI : Hid (IntKind.i64.wrap (1 + i) = 1 + i ∧ 0 ≤ i ∧ i ≤ 1000) := Lib.hid HIB
      clear HIB hw0 hw1
      have HP6 := Lib.hid ((pd_set HP8.out).2.1 (1 + i))
      have HZ6 := Lib.hid (HZ8.out.fr FS.out (fun e => HNE.out e))
      have q2 := HP8.out.frozen 2
      have p2 := (pdB_cells HP8.out).2.2.1
      dsimp only at p2
      have HT6 := Lib.hid (HT8.out.fresh FS.out (fun k e => by have : k = w1.heap.size := e; have := HG1.out; omega))
      have HF6 := Lib.hid (HF8.out.fresh FS.out (fun k e => by have : k = w1.heap.size := e; have := HSZ.out; omega))
      clear FS HT8 HF8 HZ8 HP8
      dsimp only at HP6
      have hi0 := HI.out.2.1
      have hi5 := HI.out.2.2
      go_upto_region 4 with fail
      clear q2 p2 hi0 hi5
      generalize w8.setCell ⟨w1.heap.size, 2, none⟩ (.int .i64 (1 + i)) = W9 at *
      generalize dropV (onS σ1 (whichK signsL)) = σ2 at *
      have VL := Lib.hid (pvalue_ask B g d σ2 W9 HT6.out)
      go_wp2_with fail
      refine VL.out.mono ?_
      rintro e w8 ⟨⟨⟨⟨vn, vi, vt⟩, vk⟩, v, rfl, ⟨rfl, hI⟩, hT, hA⟩, hF⟩
      have HA := Lib.hid hA
      have HVI := Lib.hid hI
      have HT8 := Lib.hid hT
      have HF8 := Lib.hid (HF6.out.trans hF)
      have HZ8 := Lib.hid (HZ6.out.fr hF (fun e => by have : w.heap.size = g := e; have := HB.out; omega))
      have HP8 := Lib.hid (HP6.out.fr hF (fun e => by have : w1.heap.size = g := e; have := HG1.out; omega))
      clear hT hF hA hI VL HT6 HF6 HZ6 HP6
      have FS : Hid (Fr (One w1.heap.size) w8 ((((w8.setCell ⟨w1.heap.size, 6, none⟩ (.int .i64 vk)).setCell ⟨w1.heap.size, 3, none⟩ (.bool vn)).setCell ⟨w1.heap.size, 4, none⟩ (.int .i64 vi)).setCell ⟨w1.heap.size, 5, none⟩ (.string ⟨vt.toArray⟩))) := Lib.hid ((((((Fr.refl (One w1.heap.size) w8).set1 6 (.int .i64 vk)).set1 3 (.bool vn)).set1 4 (.int .i64 vi)).set1 5 (.string ⟨vt.toArray⟩)))
      have HP6 : Hid (PdB ((((w8.setCell ⟨w1.heap.size, 6, none⟩ (.int .i64 vk)).setCell ⟨w1.heap.size, 3, none⟩ (.bool vn)).setCell ⟨w1.heap.size, 4, none⟩ (.int .i64 vi)).setCell ⟨w1.heap.size, 5, none⟩ (.string ⟨vt.toArray⟩)) w1.heap.size ⟨2, c, 1 + i, ⟨vn, vi, vt⟩, vk, []⟩ noKv) := Lib.hid (by
        have a := (((HP8.out.set 6 (.int .i64 vk)).set 3 (.bool vn)).set 4 (.int .i64 vi)).set 5 (.string ⟨vt.toArray⟩)
        simp [pdC] at a ⊢
        exact a)
      have HZ6 := Lib.hid (HZ8.out.fr FS.out (fun e => HNE.out e))
      obtain ⟨p0, p1, p2, p3, p4, p5, p6, p7, p8⟩ := pdB_cells HP8.out
      obtain ⟨q0, q1, q2, q3, q4, q5, q6, q7, q8⟩ := pdB_frozen HP8.out
      dsimp only [noKv, zCl] at p0 p1 p2 p3 p4 p5 p6 p7 p8
      have HT6 := Lib.hid (HT8.out.fresh FS.out (fun k e => by have : k = w1.heap.size := e; have := HG1.out; omega))
      have HF6 := Lib.hid (HF8.out.fresh FS.out (fun k e => by have : k = w1.heap.size := e; have := HSZ.out; omega))
      clear FS HT8 HF8 HZ8 HP8
      unfold clV clC
      dsimp only
      go_upto_region 11 with fail
      clear q0 q1 q2 q3 q4 q5 q6 q7 q8 p0 p1 p2 p3 p4 p5 p6 p7 p8
      generalize (((w8.setCell ⟨w1.heap.size, 6, none⟩ (.int .i64 vk)).setCell ⟨w1.heap.size, 3, none⟩ (.bool vn)).setCell ⟨w1.heap.size, 4, none⟩ (.int .i64 vi)).setCell ⟨w1.heap.size, 5, none⟩ (.string ⟨vt.toArray⟩) = W6 at *
      have E5 := setPd_B HZ6.out ⟨2, c, 1 + i, ⟨vn, vi, vt⟩, vk, []⟩ noKv
      have T5 := HT6.out.fresh (setPd_fr W6 w.heap.size ⟨2, c, 1 + i, ⟨vn, vi, vt⟩, vk, []⟩ noKv) (fun k e => by have : k = w.heap.size := e; have := HB.out; omega)
      have G5 := setPd_end HF6.out ⟨2, c, 1 + i, ⟨vn, vi, vt⟩, vk, []⟩ noKv
      obtain ⟨p0, p1, p2, p3, p4, p5, p6, p7, p8⟩ := pdB_cells HP6.out
      obtain ⟨r0, r1, r2, r3, r4, r5, r6, r7, r8⟩ := pdB_cells HZ6.out
      obtain ⟨f0, f1, f2, f3, f4, f5, f6, f7, f8⟩ := pdB_frozen HZ6.out
      dsimp only [noKv, zCl] at p0 p1 p2 p3 p4 p5 p6 p7 p8 r0 r1 r2 r3 r4 r5 r6 r7 r8
      unfold setPd kidV noKv at E5 T5 G5
      dsimp only at E5 T5 G5
      replace E5 := Lib.hid E5
      replace T5 := Lib.hid T5
      replace G5 := Lib.hid G5
      clear HZ6 HP6 HT6 HF6
      go_wp2
      exact bodyPost_ret (ret_pd (p := 2) rfl _ _ w.heap.size ⟨2, c, 1 + i, ⟨vn, vi, vt⟩, vk, []⟩ noKv rfl E5.out) rfl ⟨⟨.mk ⟨2, c, 1 + i, ⟨vn, vi, vt⟩, vk, []⟩ [], _, rfl, leaf_pd _ _ _ HVI.out, by rw [HE0.out, A31.out, drop_map]; exact T5.out, fun b r e => map_ok (f := fun (x : Cl × Int) => Pd.mk ⟨2, c, 1 + i, x.1, x.2, []⟩ []) HA.out b r (by rw [← A31.out, ← HE0.out]; exact e)⟩, G5.out⟩
    · have HT5 : Hid (PX B g d w5 (.ok (tailX σ1))) := Lib.hid (by rw [← Y2.out (by first | rfl | trivial)]; exact HT5.out)
      have A21 := Lib.hid (A2.out (by first | rfl | trivial) (by first | rfl | trivial))
      clear A2 A3 Y2 Z2
      have FS := Lib.hid ((Fr.refl (One w1.heap.size) w5).set1 0 (.int .i64 4))
      have HP6 := Lib.hid ((pd_set HP5.out).1 4)
      have HZ6 := Lib.hid (HZ5.out.fr FS.out (fun e => HNE.out e))
      have q0 := HP5.out.frozen 0
      have p0 := (pdB_cells HP5.out).1
      dsimp only at p0
      have HT6 := Lib.hid (HT5.out.fresh FS.out (fun k e => by have : k = w1.heap.size := e; have := HG1.out; omega))
      have HF6 := Lib.hid (HF5.out.fresh FS.out (fun k e => by have : k = w1.heap.size := e; have := HSZ.out; omega))
      clear FS HT5 HF5 HZ5 HP5
      dsimp only at HP6
      go_upto_region 10 with fail
      clear q0 p0
      generalize w5.setCell ⟨w1.heap.size, 0, none⟩ (.int .i64 4) = W6 at *
      have TX1 := Lib.hid (ptext_ask B g d _ W6 HT6.out)
      go_wp2_with fail
      refine TX1.out.mono ?_
      rintro e w8 ⟨⟨t, v, rfl, rfl, hT, hA⟩, hF⟩
      have HA := Lib.hid hA
      have HT8 := Lib.hid hT
      have HF8 := Lib.hid (HF6.out.trans hF)
      have HZ8 := Lib.hid (HZ6.out.fr hF (fun e => by have : w.heap.size = g := e; have := HB.out; omega))
      have HP8 := Lib.hid (HP6.out.fr hF (fun e => by have : w1.heap.size = g := e; have := HG1.out; omega))
      clear hT hF hA TX1 HT6 HF6 HZ6 HP6
      have FS := Lib.hid ((Fr.refl (One w1.heap.size) w8).set1 7 (.string ⟨t.toArray⟩))
      have HP6 := Lib.hid ((pd_set HP8.out).2.2 t)
      have HZ6 := Lib.hid (HZ8.out.fr FS.out (fun e => HNE.out e))
      have q7 := HP8.out.frozen 7
      have p7 := (pdB_cells HP8.out).2.2.2.2.2.2.2.1
      dsimp only at p7
      have HT6 := Lib.hid (HT8.out.fresh FS.out (fun k e => by have : k = w1.heap.size := e; have := HG1.out; omega))
      have HF6 := Lib.hid (HF8.out.fresh FS.out (fun k e => by have : k = w1.heap.size := e; have := HSZ.out; omega))
      clear FS HT8 HF8 HZ8 HP8
      dsimp only at HP6
      go_upto_region 11 with fail
      clear q7 p7
      generalize w8.setCell ⟨w1.heap.size, 7, none⟩ (.string ⟨t.toArray⟩) = W6 at *
      have E5 := setPd_B HZ6.out ⟨4, c, 0, zCl, 0, t⟩ noKv
      have T5 := HT6.out.fresh (setPd_fr W6 w.heap.size ⟨4, c, 0, zCl, 0, t⟩ noKv) (fun k e => by have : k = w.heap.size := e; have := HB.out; omega)
      have G5 := setPd_end HF6.out ⟨4, c, 0, zCl, 0, t⟩ noKv
      obtain ⟨p0, p1, p2, p3, p4, p5, p6, p7, p8⟩ := pdB_cells HP6.out
      obtain ⟨r0, r1, r2, r3, r4, r5, r6, r7, r8⟩ := pdB_cells HZ6.out
      obtain ⟨f0, f1, f2, f3, f4, f5, f6, f7, f8⟩ := pdB_frozen HZ6.out
      dsimp only [noKv, zCl] at p0 p1 p2 p3 p4 p5 p6 p7 p8 r0 r1 r2 r3 r4 r5 r6 r7 r8
      unfold setPd kidV noKv zCl at E5 T5 G5
      dsimp only at E5 T5 G5
      replace E5 := Lib.hid E5
      replace T5 := Lib.hid T5
      replace G5 := Lib.hid G5
      clear HZ6 HP6 HT6 HF6
      go_wp2
      exact bodyPost_ret (ret_pd (p := 2) rfl _ _ w.heap.size ⟨4, c, 0, zCl, 0, t⟩ noKv rfl E5.out) rfl ⟨⟨.mk ⟨4, c, 0, zCl, 0, t⟩ [], _, rfl, leaf_pd _ _ _ i64b_0, by rw [HE0.out, A21.out, drop_map]; exact T5.out, fun b r e => map_ok (f := fun t => Pd.mk ⟨4, c, 0, zCl, 0, t⟩ []) HA.out b r (by rw [← A21.out, ← HE0.out]; exact e)⟩, G5.out⟩
  · have HT4 : Hid (PX B g d w4 (.ok (tailX σ1))) := Lib.hid (by rw [← Y1.out (by first | rfl | trivial)]; exact HT4.out)
    obtain ⟨a1, a2⟩ := A1.out (by first | rfl | trivial)
    have A11 := Lib.hid a1
    have A12 := Lib.hid a2
    clear a1 a2 A1 A2 A3 Y1 Y2 Z1 Z2
    have M := Lib.hid (pneed_any B g d nullW _ w4 HT4.out)
    rw [need_isW (by decide) HT4.out.finX] at M
    go_wp2_with fail
    refine M.out.mono ?_
    rintro e w5 ⟨rfl, hT, hF⟩
    have HT5 := Lib.hid hT
    have HF5 := Lib.hid (HF4.out.trans hF)
    have HZ5 := Lib.hid (HZ4.out.fr hF (fun e => by have : w.heap.size = g := e; have := HB.out; omega))
    have HP5 := Lib.hid (HP4.out.fr hF (fun e => by have : w1.heap.size = g := e; have := HG1.out; omega))
    clear hT hF M HT4 HF4 HZ4 HP4
    have FS := Lib.hid ((Fr.refl (One w1.heap.size) w5).set1 0 (.int .i64 3))
    have HP6 := Lib.hid ((pd_set HP5.out).1 3)
    have HZ6 := Lib.hid (HZ5.out.fr FS.out (fun e => HNE.out e))
    have q0 := HP5.out.frozen 0
    have p0 := (pdB_cells HP5.out).1
    dsimp only at p0
    have HT6 := Lib.hid (HT5.out.fresh FS.out (fun k e => by have : k = w1.heap.size := e; have := HG1.out; omega))
    have HF6 := Lib.hid (HF5.out.fresh FS.out (fun k e => by have : k = w1.heap.size := e; have := HSZ.out; omega))
    clear FS HT5 HF5 HZ5 HP5
    dsimp only at HP6
    go_upto_region 11 with fail
    clear q0 p0
    generalize w5.setCell ⟨w1.heap.size, 0, none⟩ (.int .i64 3) = W6 at *
    have E5 := setPd_B HZ6.out ⟨3, c, 0, zCl, 0, []⟩ noKv
    have T5 := HT6.out.fresh (setPd_fr W6 w.heap.size ⟨3, c, 0, zCl, 0, []⟩ noKv) (fun k e => by have : k = w.heap.size := e; have := HB.out; omega)
    have G5 := setPd_end HF6.out ⟨3, c, 0, zCl, 0, []⟩ noKv
    obtain ⟨p0, p1, p2, p3, p4, p5, p6, p7, p8⟩ := pdB_cells HP6.out
    obtain ⟨r0, r1, r2, r3, r4, r5, r6, r7, r8⟩ := pdB_cells HZ6.out
    obtain ⟨f0, f1, f2, f3, f4, f5, f6, f7, f8⟩ := pdB_frozen HZ6.out
    dsimp only [noKv, zCl] at p0 p1 p2 p3 p4 p5 p6 p7 p8 r0 r1 r2 r3 r4 r5 r6 r7 r8
    unfold setPd kidV noKv zCl at E5 T5 G5
    dsimp only at E5 T5 G5
    replace E5 := Lib.hid E5
    replace T5 := Lib.hid T5
    replace G5 := Lib.hid G5
    clear HZ6 HP6 HT6 HF6
    go_wp2
    exact bodyPost_ret (ret_pd (p := 2) rfl _ _ w.heap.size ⟨3, c, 0, zCl, 0, []⟩ noKv rfl E5.out) rfl ⟨⟨.mk ⟨3, c, 0, zCl, 0, []⟩ [], _, rfl, leaf_pd _ _ _ i64b_0, by rw [HE0.out, A11.out]; exact T5.out, fun b r e => A12.out b r (by rw [← HE0.out]; exact e)⟩, G5.out⟩
end Go.Proofs.YtipgaafgnefmdaaGreatDoor


namespace Go.Proofs.YtipgaafgnefmdaaGreatDoor
set_option linter.unusedVariables false
set_option linter.unusedSimpArgs false
set_option maxRecDepth 100000
open Go.RowKit

/-- a row of predicates, of the call's own -/
def RowF (B : Nat) (ps : List Pd) (w : World) (v : Value) : Prop := PRow w B v ps ∧ 1 ≤ ps.length
/-- a step of the program's reader, by a function of the reader alone -/
def StepP {α : Type} (B g : Nat) (d : Int) (F : Nat) (step : List Tk → Rd α) (Q : Nat → α → World → Value → Prop) : Prop :=
  ∀ W σ, PX B g d W σ → Calls Tryz.prog F #[.pointer (some ⟨g, 0, none⟩)] W fun e w' => EndX (PX B g d) (onS σ step) (Q W.heap.size) e w' ∧ Fr (One g) W w'
set_option maxHeartbeats 2000000 in
theorem plistP_any (B g : Nat) (d k : Int) (s : Tx) (F : Nat) (step : List Tk → Rd Pd) (G : Pd → Prop) (hr : Reads step G) (hk : k ≠ 0) (hsay : ∀ σ, FinX σ → sayX s σ = isX k s σ)
    (hcf : ∀ args W, (callFunc F args).run Tryz.prog W = .ok (.enter F args) W) (hstep : StepP B g d F step PdF) (σ : Sg) (w : World) (h : PX B g d w σ) :
    Calls Tryz.prog 85 #[.pointer (some ⟨g, 0, none⟩), .string ⟨s.toArray⟩, .func (.func F) #[.pointer (some ⟨g, 0, none⟩)] #[]] w
      fun e w' => EndX (PX B g d) (onS σ (someK k s step)) (RowF w.heap.size) e w' ∧ Fr (One g) w w' := by
  have HST := Lib.hid hstep
  have HL := Lib.hid h.lt
  have A1 := Lib.hid (hstep w σ h)
  have HLV := Lib.hid (fun a ha => lv_start (a := a) (k := k) (s := s) hr h.finX ha)
  have HRD := Lib.hid hr
  have HK0 := Lib.hid hk
  have HSY := Lib.hid hsay
  clear hstep h hr hk hsay
  generalize onS σ (someK k s step) = X at *
  generalize onS σ step = x0 at *
  go_enter Tryz.func85, Tryz.ntmps85
  go_wp2_with fail
  refine A1.out.mono ?_
  rintro e w1 ⟨⟨p, v, rfl, ⟨ks, rfl, hkd, hb⟩, hT, hA⟩, hF⟩
  have LV1 := Lib.hid (HLV.out p hA)
  have R1 := Lib.hid (PRow.lit w1 w.heap.size w1.heap.size p ks (pdC p.hd ks) rfl rfl hF.size hb hkd)
  have F2 : Fr Non w1 (w1.alloc (.cells (pdC p.hd ks) 28)) := (Fr.refl Non w1).alloc _
  have T2 := Lib.hid (hT.non F2)
  have G2 := Lib.hid (hF.trans F2.any)
  clear hkd hb hT hA hF F2 A1 HLV
  generalize p.hd = x at *
  obtain ⟨xo, xc, xm, ⟨xn, xi, xt⟩, xk, xp⟩ := x
  obtain ⟨kA, kn, kc⟩ := ks
  unfold pdV pdC kidV at *
  dsimp only at *
  go_wp2
  generalize w1.alloc _ = W2 at *
  go_loopw [7] (fun v wr => ∃ (ps : List Pd) (σ' : Sg) (vr : Value), vr = v ∧ Hid (PRow wr w.heap.size vr ps ∧ 1 ≤ ps.length) ∧ Hid (Lv k s step X ps σ') ∧ Hid (PX B g d wr σ') ∧ Hid (Fr (One g) w wr)) (fun v _ => 403 - slLen v)
  case atStart => exact ⟨[p], dropV x0, _, rfl, Lib.hid ⟨R1.out, by simp⟩, LV1, T2, G2⟩
  case round =>
    obtain ⟨ps, σ', vr, rfl, HR, HV, HT, HG⟩ := hrel
    clear R1 LV1 T2 G2
    have I := Lib.hid (pskip_any B g d s σ' wr HT.out)
    have HSI := Lib.hid (HSY.out σ' HT.out.finX)
    have Y1 := Lib.hid (fun e => skip_yes (s := s) (σ := σ') e)
    have Z1 := Lib.hid (fun e => skip_no (s := s) (σ := σ') e)
    generalize sayX s σ' = b at *
    go_wp2_with fail
    refine I.out.mono ?_
    rintro e w1 ⟨rfl, hT, hF⟩
    have HT1 := Lib.hid hT
    have HG1 := Lib.hid (HG.out.trans hF)
    have HR1 : Hid (PRow w1 w.heap.size vr ps) := Lib.hid (HR.out.1.fr hF (fun b h1 _ e => by have : b = g := e; have := HL.out; omega))
    have HS1 := Lib.hid hF.size
    clear hT hF I
    cases b
    · have HT2 : Hid (PX B g d w1 σ') := Lib.hid (by rw [← Z1.out (by first | rfl | trivial)]; exact HT1.out)
      obtain ⟨e1, e2⟩ := lv_end HV.out HSI.out.symm
      have E1 := Lib.hid e1
      have E2 := Lib.hid e2
      clear e1 e2
      go_wp2
      go_ret
      exact ⟨⟨ps, _, rfl, ⟨HR1.out, HR.out.2⟩, by rw [E1.out]; exact HT2.out, E2.out⟩, HG1.out⟩
    · obtain ⟨r, rfl, hi⟩ := isX_ok HSI.out.symm
      have HT2 : Hid (PX B g d w1 (.ok (tlK r))) := Lib.hid (by have := HT1.out; rw [Y1.out (by first | rfl | trivial)] at this; exact this)
      have A2 := Lib.hid (HST.out w1 (.ok (tlK r)) HT2.out)
      have LV2 := Lib.hid (fun a ha => lv_more HK0.out HRD.out HV.out hi (a := a) ha)
      have HPL := Lib.hid HV.out.1
      clear hi HT1 HT Y1 Z1
      go_wp2_with fail
      refine A2.out.mono ?_
      rintro e w2 ⟨⟨p2, v2, rfl, ⟨ks2, rfl, hkd, hb⟩, hT, hA⟩, hF⟩
      have LV3 := Lib.hid (LV2.out p2 hA)
      have HT3 := Lib.hid hT
      have HG3 := Lib.hid (HG1.out.trans hF)
      have HR3 : Hid (PRow w2 w.heap.size vr ps) := Lib.hid (HR1.out.fr hF (fun b h1 _ e => by have : b = g := e; have := HL.out; omega))
      have HKD : Hid (KdS (fun b => w.heap.size ≤ b ∧ vr.ownBlock ≠ some b) w2 ks2 p2.kids) := Lib.hid (hkd.imp fun b hb _ => ⟨Nat.le_trans HG1.out.size hb, fun e => by
        have := (HR1.out.lt b e).2
        omega⟩)
      have HB := Lib.hid hb
      clear hkd hb hT hA hF A2 LV2 HR1 HT2
      obtain ⟨⟨yo, yc, ym, ⟨yn, yi, yt⟩, yk, yp⟩, yks⟩ := p2
      obtain ⟨zA, zn, zc⟩ := ks2
      unfold pdV pdC kidV
      dsimp only [Pd.hd, Pd.kids] at *
      have hle := HPL.out
      have hsz := HG3.out.size
      go_wp2_with (at_builtin; refine wpList_pushP rfl (.tmp 16) (.tmp 19) rfl w.heap.size vr ps rfl HR3.out (.mk ⟨yo, yc, ym, ⟨yn, yi, yt⟩, yk, yp⟩ yks) ⟨zA, zn, zc⟩ HB.out HKD.out #[.int .i64 yo, .string ⟨yc.toArray⟩, .int .i64 ym, .bool yn, .int .i64 yi, .string ⟨yt.toArray⟩, .int .i64 yk, .string ⟨yp.toArray⟩, .slice zA zn zc] rfl _ rfl rfl (by omega) hsz ?_; intro v3 w3 hown3 hfr3)
      have HLT := Lib.hid HR3.out.lt
      have T4 := Lib.hid (HT3.out.fresh hfr3 (fun b e => by have := (HLT.out b e).1; have := HL.out; omega))
      have G4 := Lib.hid (HG3.out.fresh hfr3 (fun b e => (HLT.out b e).1))
      have O4 := Lib.hid hown3
      have SL4 := hown3.sl
      have SL0 := HR3.out.sl
      clear hown3 hfr3
      go_roundw
      case rel => exact ⟨_, _, v3, rfl, Lib.hid ⟨O4.out, by simp⟩, LV3, T4, G4⟩
      case measure => rw [SL4, SL0]; simp; omega
end Go.Proofs.YtipgaafgnefmdaaGreatDoor


namespace Go.Proofs.YtipgaafgnefmdaaGreatDoor
set_option linter.unusedVariables false
set_option linter.unusedSimpArgs false
set_option maxRecDepth 100000
open Go.RowKit

set_option maxHeartbeats 2000000 in
theorem preadj_any (B g : Nat) (d k op : Int) (s : Tx) (F : Nat) (step : List Tk → Rd Pd) (G : Pd → Prop) (hr : Reads step G) (hk : k ≠ 0) (hsay : ∀ σ, FinX σ → sayX s σ = isX k s σ)
    (hcf : ∀ args W, (callFunc F args).run Tryz.prog W = .ok (.enter F args) W) (hstep : StepP B g d F step PdF) (σ : Sg) (w : World) (h : PX B g d w σ) :
    Calls Tryz.prog 58 #[.pointer (some ⟨g, 0, none⟩), .string ⟨s.toArray⟩, .int .i64 op, .func (.func F) #[.pointer (some ⟨g, 0, none⟩)] #[]] w
      fun e w' => EndX (PX B g d) (mapR (foldL op) (onS σ (someK k s step))) (PdF w.heap.size) e w' ∧ Fr (One g) w w' := by
  have F0 : Fr Non w (w.alloc (.cells #[.int .i64 0, .string ⟨#[]⟩, .int .i64 0, .bool false, .int .i64 0, .string ⟨#[]⟩, .int .i64 0, .string ⟨#[]⟩, .slice none 0 0] 28)) := (Fr.refl Non w).alloc _
  have A1 := Lib.hid (plistP_any B g d k s F step G hr hk hsay hcf hstep σ _ (h.non F0))
  have HL := Lib.hid h.lt
  clear h F0 hr hk hsay hcf hstep
  generalize onS σ (someK k s step) = X at *
  have HDX := Lib.hid (drop_map (foldL op) X)
  go_enter Tryz.func58, Tryz.ntmps58
  go_wp2_with fail
  refine A1.out.mono ?_
  rintro e w1 ⟨⟨ps, v, rfl, ⟨hR, hp1⟩, hT, hA⟩, hF⟩
  have HT1 := Lib.hid hT
  have HF1 := Lib.hid (((Fr.refl (One g) w).alloc _).trans hF)
  have HM := Lib.hid (map_ok (f := foldL op) hA)
  have HZ1 : Hid (PdB w1 w.heap.size ⟨0, [], 0, zCl, 0, []⟩ noKv) := Lib.hid ((pd_new w _ ⟨0, [], 0, zCl, 0, []⟩ noKv rfl).fr hF (fun e => by have : w.heap.size = g := e; have := HL.out; omega))
  have HR : Hid (PRow w1 (w.heap.size + 1) v ps) := Lib.hid (by
    rw [show (w.alloc (.cells #[.int .i64 0, .string ⟨#[]⟩, .int .i64 0, .bool false, .int .i64 0, .string ⟨#[]⟩, .int .i64 0, .string ⟨#[]⟩, .slice none 0 0] 28)).heap.size = w.heap.size + 1 by simp] at hR
    exact hR)
  clear hT hF hA hR A1
  obtain ⟨A, c, rfl⟩ := HR.out.shape
  have HKB := Lib.hid HR.out.kds
  obtain ⟨f0, f1, f2, f3, f4, f5, f6, f7, f8⟩ := pdB_frozen HZ1.out
  obtain ⟨r0, r1, r2, r3, r4, r5, r6, r7, r8⟩ := pdB_cells HZ1.out
  dsimp only [noKv, zCl] at r0 r1 r2 r3 r4 r5 r6 r7 r8
  cases ps with
  | nil => simp at hp1
  | cons p r =>
    cases r with
    | nil =>
      obtain ⟨g1, s1, rfl, _, hc, hkd, hb, hg1⟩ := HR.out.el0
      have HPF := Lib.hid hkd
      have HB := Lib.hid hb
      obtain ⟨⟨xo, xc, xm, ⟨xn, xi, xt⟩, xk, xp⟩, xks⟩ := p
      obtain ⟨sA, sn, sc⟩ := s1
      dsimp only [Pd.hd, Pd.kids] at *
      obtain ⟨p0, p1, p2, p3, p4, p5, p6, p7, p8⟩ := hc
      dsimp only at p0 p1 p2 p3 p4 p5 p6 p7 p8
      have E5 := Lib.hid (setPd_B HZ1.out ⟨xo, xc, xm, ⟨xn, xi, xt⟩, xk, xp⟩ ⟨sA, sn, sc⟩)
      have T5 := Lib.hid (HT1.out.fresh (setPd_fr w1 w.heap.size ⟨xo, xc, xm, ⟨xn, xi, xt⟩, xk, xp⟩ ⟨sA, sn, sc⟩) (fun k e => by have : k = w.heap.size := e; have := HL.out; omega))
      have G5 := Lib.hid (setPd_end HF1.out ⟨xo, xc, xm, ⟨xn, xi, xt⟩, xk, xp⟩ ⟨sA, sn, sc⟩)
      have K5 : Hid (KdS (fun b => w.heap.size ≤ b) (setPd w1 w.heap.size ⟨xo, xc, xm, ⟨xn, xi, xt⟩, xk, xp⟩ ⟨sA, sn, sc⟩) ⟨sA, sn, sc⟩ xks) := Lib.hid ((HPF.out.fr (setPd_fr w1 w.heap.size ⟨xo, xc, xm, ⟨xn, xi, xt⟩, xk, xp⟩ ⟨sA, sn, sc⟩) (fun b hb _ e => by have : b = w.heap.size := e; omega)).imp fun b hb _ => by omega)
      clear hkd hb hg1 HKB HPF HR
      unfold setPd kidV at E5 T5 G5 K5
      dsimp only at E5 T5 G5 K5
      go_wp2
      exact bodyPost_ret (ret_pd (p := 8) rfl _ _ w.heap.size ⟨xo, xc, xm, ⟨xn, xi, xt⟩, xk, xp⟩ ⟨sA, sn, sc⟩ rfl E5.out) rfl ⟨⟨.mk ⟨xo, xc, xm, ⟨xn, xi, xt⟩, xk, xp⟩ xks, _, rfl, ⟨⟨sA, sn, sc⟩, rfl, K5.out, HB.out⟩, by rw [HDX.out]; exact T5.out, fun b r e => HM.out b r e⟩, G5.out⟩
    | cons p2 r =>
      have hlb : (((p :: p2 :: r).length : Int) == 1) = false := by rw [beq_eq_false_iff_ne]; simp; omega
      have E5 := Lib.hid (setPd_B HZ1.out ⟨op, [], 0, zCl, 0, []⟩ ⟨A, (p :: p2 :: r).length, c⟩)
      have T5 := Lib.hid (HT1.out.fresh (setPd_fr w1 w.heap.size ⟨op, [], 0, zCl, 0, []⟩ ⟨A, (p :: p2 :: r).length, c⟩) (fun k e => by have : k = w.heap.size := e; have := HL.out; omega))
      have G5 := Lib.hid (setPd_end HF1.out ⟨op, [], 0, zCl, 0, []⟩ ⟨A, (p :: p2 :: r).length, c⟩)
      have K5 : Hid (KdS (fun b => w.heap.size ≤ b) (setPd w1 w.heap.size ⟨op, [], 0, zCl, 0, []⟩ ⟨A, (p :: p2 :: r).length, c⟩) ⟨A, (p :: p2 :: r).length, c⟩ (p :: p2 :: r)) := Lib.hid ((HKB.out.fr (setPd_fr w1 w.heap.size ⟨op, [], 0, zCl, 0, []⟩ ⟨A, (p :: p2 :: r).length, c⟩) (fun b hb _ e => by have : b = w.heap.size := e; omega)).imp fun b hb _ => by omega)
      have HFO : Hid (foldL op (p :: p2 :: r) = .mk ⟨op, [], 0, zCl, 0, []⟩ (p :: p2 :: r)) := Lib.hid rfl
      clear HKB HR hp1
      generalize (p :: p2 :: r) = L at *
      generalize L.length = n at *
      unfold setPd kidV zCl at E5 T5 G5 K5
      dsimp only at E5 T5 G5 K5
      go_wp2
      refine bodyPost_ret (ret_pd (p := 8) rfl _ _ w.heap.size ⟨op, [], 0, zCl, 0, []⟩ ⟨A, n, c⟩ rfl E5.out) rfl ⟨⟨.mk ⟨op, [], 0, zCl, 0, []⟩ L, _, rfl, ⟨⟨A, n, c⟩, rfl, K5.out, i64b_0⟩, by rw [HDX.out]; exact T5.out, fun b r e => ?_⟩, G5.out⟩
      rw [← HM.out b r e, HFO.out]
end Go.Proofs.YtipgaafgnefmdaaGreatDoor
