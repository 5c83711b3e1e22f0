/-
  Layer 1: the walk of the law VintReads: what is read, one thing behind the other, is what the document's own source reads.
-/
import Derived.Test.YtaamohkmfhoikaaVint9
import Derived.Deep.RegionHeld3
import Derived.Deep.QuietTactic
import Derived.BigQuiet
import Derived.Deep.DeepCutAuto
import Derived.KernelRfl
namespace Go.Proofs.Ytaamohkmfhoikaa
set_option linter.unusedVariables false
set_option linter.unusedSimpArgs false
open Go.RowKit

/-- a row of things to do that came in -/
def Acts (w : World) (b o : Nat) (acts : List (Int × Int)) : Prop :=
  ∀ j x, acts[j]? = some x → w.cell? ⟨b, o + j * 2, none⟩ = some (.int .i64 x.1) ∧ w.cell? ⟨b, o + j * 2 + 1, none⟩ = some (.int .i64 x.2) ∧ x.2 ≤ 9223372036854775807

theorem quietly {P : Program} {f : FuncId} {args : Array Value} {w : World} {n : Nat} {v : Value}
    (h : Calls P f args (w.drewN n) fun e w' => e = .returned v ∧ w.drewN n = w') : Calls P f args (w.drewN n) fun e w'' => e = .returned v ∧ ∃ m, w'' = w.drewN m := h.mono fun _ _ ⟨he, hm⟩ => ⟨he, n, hm.symm⟩
theorem Src.drew {w : World} {g : Nat} {l : List UInt8} {bad : Bool} (h : Src w g l bad) : Src w.drew g l bad := h
theorem SAt.drew {w : World} {g : Nat} {S : Nat → Prop} {l : List UInt8} {bad : Bool} (h : SAt w g S l bad) : SAt w.drew g S l bad := h
theorem Src.drewN {w : World} {g : Nat} {l : List UInt8} {bad : Bool} (h : Src w g l bad) (n : Nat) : Src (w.drewN n) g l bad := h
theorem SAt.drewN {w : World} {g : Nat} {S : Nat → Prop} {l : List UInt8} {bad : Bool} (h : SAt w g S l bad) (n : Nat) : SAt (w.drewN n) g S l bad := h

theorem mostR_le (l : List UInt8) (m : Int) : (mostR l m).length ≤ l.length := by
  unfold mostR
  split
  · exact rest_le l
  · simp
theorem cutR_le (l : List UInt8) (m : Int) : (cutR l m).length ≤ l.length := by unfold cutR; split <;> simp
theorem txtR_le (l : List UInt8) (m : Int) : (txtR l m).length ≤ l.length := Nat.le_trans (cutR_le _ _) (mostR_le _ _)

theorem nil_ok (w : World) : Calls Try.prog 28 #[.pointer none] w fun e w' => e = .returned (.bool false) ∧ w = w' := by
  go_enter Try.func28, Try.ntmps28
  go_wp2
  go_ret
  exact ⟨rfl, rfl⟩
theorem nil_left (w : World) : Calls Try.prog 29 #[.pointer none] w fun e w' => e = .returned (.int .i64 0) ∧ w = w' := by
  go_enter Try.func29, Try.ntmps29
  go_wp2
  go_ret
  exact ⟨rfl, rfl⟩
theorem nil_end (w : World) : Calls Try.prog 30 #[.pointer none] w fun e w' => e = .returned (.bool false) ∧ w = w' := by
  go_enter Try.func30, Try.ntmps30
  go_wp2_with (go_at_call 28; refine (nil_ok _).mono ?_; rintro e w' ⟨rfl, rfl⟩)
  go_ret
  exact ⟨rfl, rfl⟩
theorem nil_num (w : World) : Calls Try.prog 16 #[.pointer none] w fun e w' => e = .returned (.int .u64 0) ∧ w = w' := by
  go_enter Try.func16, Try.ntmps16
  go_wp2_with (go_at_call 28; refine (nil_ok _).mono ?_; rintro e w' ⟨rfl, rfl⟩)
  go_ret
  exact ⟨rfl, rfl⟩
theorem nil_int (w : World) : Calls Try.prog 18 #[.pointer none] w fun e w' => e = .returned (.int .i64 0) ∧ w = w' := by
  have e0 : bits BinOp.xor IntKind.i64 0 (wrap64 (-wrap64 (bits BinOp.and IntKind.u64 0 1))) = 0 := by kernel_rfl
  have E := Lib.hid e0
  clear e0
  go_enter Try.func18, Try.ntmps18
  go_wp2_with (go_at_call 16; refine (nil_num _).mono ?_; rintro e w' ⟨rfl, rfl⟩)
  go_ret
  exact ⟨congrArg (fun z => Ending.returned (.int .i64 z)) E.out, rfl⟩
theorem nil_most (m : Int) (w : World) (h0 : 0 ≤ m) (h1 : m ≤ 1000) : Calls Try.prog 34 #[.pointer none, .int .i64 m] w fun e w' => e = .returned (.int .i64 0) ∧ w = w' := by
  go_enter Try.func34, Try.ntmps34
  go_wp2_with (go_at_call 16; refine (nil_num _).mono ?_; rintro e w' ⟨rfl, rfl⟩)
  go_ret
  exact ⟨rfl, rfl⟩
theorem nil_below (w : World) : Calls Try.prog 20 #[.pointer none, .int .i64 5] w fun e w' => e = .returned (.int .i64 0) ∧ w = w' := by
  go_enter Try.func20, Try.ntmps20
  go_wp2_with (go_at_call 34; refine (nil_most 4 _ (by omega) (by omega)).mono ?_; rintro e w' ⟨rfl, rfl⟩)
  go_ret
  exact ⟨rfl, rfl⟩
theorem nil_cut (w : World) : Calls Try.prog 35 #[.pointer none, .int .i64 0] w fun e w' => e = .returned (.string ⟨#[]⟩) ∧ w = w' := by
  go_enter Try.func35, Try.ntmps35
  go_wp2_with (first | (go_at_call 29; refine (nil_left _).mono ?_; rintro e w' ⟨rfl, rfl⟩) | (go_at_call 28; refine (nil_ok _).mono ?_; rintro e w' ⟨rfl, rfl⟩))
  go_ret
  exact ⟨rfl, rfl⟩
theorem nil_text (w : World) : Calls Try.prog 22 #[.pointer none, .int .i64 5] w fun e w' => e = .returned (.string ⟨#[]⟩) ∧ w = w' := by
  go_enter Try.func22, Try.ntmps22
  go_wp2_with (first | (go_at_call 34; refine (nil_most 5 _ (by omega) (by omega)).mono ?_; rintro e w' ⟨rfl, rfl⟩) | (go_at_call 35; refine (nil_cut _).mono ?_; rintro e w' ⟨rfl, rfl⟩))
  go_ret
  exact ⟨rfl, rfl⟩
theorem nil_take (w : World) : Calls Try.prog 24 #[.pointer none, .int .i64 0] w fun e w' => ∃ v, e = .returned v ∧ Bs w' v [] ∧ Fr Non w w' := by
  go_enter Try.func24, Try.ntmps24
  go_wp2_with fail
  refine (nil_cut _).mono ?_
  rintro e w' ⟨rfl, rfl⟩
  go_wp2_with (refine wpList_strbytes rfl _ rfl [] rfl ?_; intro v2 w2 hbs2 hfr2 hnew2)
  go_ret
  exact ⟨v2, rfl, hbs2, hfr2⟩

def From0 (B : Nat) : Nat → Prop := fun k => B ≤ k

set_option maxHeartbeats 1000000 in
set_option maxRecDepth 100000 in
theorem reads_long (v : Value) (l0 : List UInt8) (A : Option Addr) (n c : Nat) (w : World) (hbs : Bs w v l0) (hl : 400 < l0.length ∨ 40 < n) (hl1 : l0.length ≤ 9223372036854775807) (hn1 : n ≤ 9223372036854775807) :
    Calls Try.prog 4 #[v, .slice A n c] w fun e w' => e = .returned (.bool true) ∧ Below w.heap.size w w' := by
  obtain ⟨A0, c0, rfl, hc, _, _⟩ := hbs
  clear hl1 hn1
  by_cases h1 : 400 < l0.length
  · clear hl
    go_enter Try.func4, Try.ntmps4
    go_wp2_with fail
    refine (live_any w).mono ?_
    rintro e w1 ⟨rfl, hf1⟩
    go_wp2
    go_ret
    exact ⟨rfl, hf1.below⟩
  · have h2 : 40 < n := by omega
    clear hl
    go_enter Try.func4, Try.ntmps4
    go_wp2_with fail
    refine (live_any w).mono ?_
    rintro e w1 ⟨rfl, hf1⟩
    go_wp2
    go_ret
    exact ⟨rfl, hf1.below⟩

set_option maxHeartbeats 2000000 in
set_option maxRecDepth 100000 in
theorem reads_round (v : Value) (l0 : List UInt8) (b o n c : Nat) (A' : Option Addr) (acts : List (Int × Int)) (w : World) (hbs : Bs w v l0) (hv : ∀ k, v.ownBlock = some k → k < w.heap.size) (hl : l0.length ≤ 400) (hn : acts.length = n) (hn40 : n ≤ 40)
    (hA : 0 < n → A' = some ⟨b, o, none⟩ ∧ b < w.heap.size) (hacts : Acts w b o acts) :
    Calls Try.prog 4 #[v, .slice A' n c] w fun e w' => e = .returned (.bool true) ∧ Below w.heap.size w w' := by
  have HB := Lib.hid hbs
  have HV := Lib.hid hv
  have HA := Lib.hid hacts
  have HN := Lib.hid hn
  obtain ⟨A, c0, rfl, hc, _, _⟩ := hbs
  clear hv hacts hn
  go_enter Try.func4, Try.ntmps4
  go_wp2_with fail
  refine (from_any _ l0 w HB.out).mono ?_
  rintro e w1 ⟨rfl, s1, f1⟩
  have hlt : w.heap.size < w1.heap.size := s1.1.lt
  go_wp2_with fail
  have S1 : SAt (w1.alloc (.cells #[.slice A l0.length c0, .bool false] 35)) w1.heap.size (From0 w.heap.size) l0 false :=
    ⟨_, Blk.new _ _ _, (HB.out.non f1).non ((Fr.refl _ _).alloc _), (fun k hk e => by have := HV.out k hk; unfold From0 at e; omega), by unfold From0; omega, fun h => by cases h⟩
  have s1' := s1.fr ((Fr.refl Non w1).alloc (.cells #[.slice A l0.length c0, .bool false] 35)) (fun e => e)
  have f1' := f1.alloc (.cells #[.slice A l0.length c0, .bool false] 35)
  generalize hgw : w1.heap.size = gw at *
  generalize hgs : w.heap.size = gs at *
  go_loopw [7] (fun i wr => ∃ (k : Nat) (l : List UInt8) (bad : Bool), k ≤ n ∧ i = .int .i64 k ∧ l.length ≤ 400 ∧ Src wr gs l bad ∧ SAt wr gw (From0 gs) l bad ∧ Fr Non w wr) (fun i _ => n - (intOf i).toNat)
  case atStart => exact ⟨0, l0, false, Nat.zero_le _, rfl, hl, s1', S1, f1'⟩
  case round =>
    obtain ⟨k, l, bad, hk, rfl, hl', hs, hw, hf⟩ := hrel
    by_cases hlt : k < n
    · obtain ⟨rfl, hb⟩ := hA (by omega)
      obtain ⟨⟨d, m⟩, hx⟩ : ∃ x, acts[k]? = some x := ⟨_, List.getElem?_eq_getElem (by rw [HN.out]; exact hlt)⟩
      obtain ⟨hc0, hc1, hm⟩ := HA.out k _ hx
      have hc0' := (hf.cell (p := ⟨b, o + k * 2, none⟩) (by simp; omega) (fun e => e)).trans hc0
      have hc1' := (hf.cell (p := ⟨b, o + k * 2 + 1, none⟩) (by simp; omega) (fun e => e)).trans hc1
      simp only at hc0' hc1' hm
      clear hx hc0 hc1 HA HN HB HV s1 s1' S1 f1 f1'
      by_cases d0 : d = 0
      · subst d0
        go_wp2_with fail
        refine (num_any _ _ _ _ hs).mono ?_
        rintro e w2 ⟨rfl, hs2, f2⟩
        have hw2 := hw.fr f2 (fun e => by have : gw = gs := e; omega) (fun q e => by have : q = gs := e; unfold From0; omega)
        go_wp2_with fail
        refine (rsnum_any _ _ _ _ _ hw2 (by omega)).mono ?_
        rintro e w3 ⟨rfl, hw3, f3⟩
        have hs3 := hs2.fr f3 (fun e => by have : gs = gw := e; omega)
        have hlr : (rest l).length ≤ 400 := Nat.le_trans (rest_le l) hl'
        have hf3 := (hf.fresh f2 (fun q e => by have : q = gs := e; omega)).fresh f3 (fun q e => by have : q = gw := e; omega)
        generalize hr : rest l = r at *
        generalize hb : fell l = bd at *
        have e1 : ((fstN l : Int) == fstN l) = true := by simp
        clear hr hb hs hw hs2 hw2 hf f2 f3
        obtain ⟨A3, c3, k0, k1, _, _⟩ := hw3.cells
        cases bd
        all_goals
          go_wp2_with fail
          go_quiet ((first | (go_at_call 28; exact quietly (ok_any _ _ _ _ (hs3.drewN _))) | (go_at_call 29; exact quietly (left_any _ _ _ _ (hs3.drewN _))) | (go_at_call 30; exact quietly (end_any _ _ _ _ (hs3.drewN _))) | (go_at_call 31; exact quietly (rend_any _ _ _ _ _ (hw3.drewN _)))))
          go_wp2
          exact ⟨⟨k + 1, r, _, by omega, by go_num, hlr, hs3.drewN _, hw3.drewN _, hf3.drewN _⟩, by simp [intOf]; omega⟩
      by_cases d1 : d = 1
      · subst d1
        go_wp2_with fail
        refine (sint_any _ _ _ _ hs).mono ?_
        rintro e w2 ⟨rfl, hs2, f2⟩
        have hw2 := hw.fr f2 (fun e => by have : gw = gs := e; omega) (fun q e => by have : q = gs := e; unfold From0; omega)
        go_wp2_with fail
        refine (rsint_any _ _ _ _ _ hw2 (by omega)).mono ?_
        rintro e w3 ⟨rfl, hw3, f3⟩
        have hs3 := hs2.fr f3 (fun e => by have : gs = gw := e; omega)
        have hlr : (rest l).length ≤ 400 := Nat.le_trans (rest_le l) hl'
        have hf3 := (hf.fresh f2 (fun q e => by have : q = gs := e; omega)).fresh f3 (fun q e => by have : q = gw := e; omega)
        generalize hr : rest l = r at *
        generalize hb : fell l = bd at *
        have e1 : (unzig (fstN l) == unzig (fstN l)) = true := by simp
        clear hr hb hs hw hs2 hw2 hf f2 f3
        obtain ⟨A3, c3, k0, k1, _, _⟩ := hw3.cells
        cases bd
        all_goals
          go_wp2_with fail
          go_quiet ((first | (go_at_call 28; exact quietly (ok_any _ _ _ _ (hs3.drewN _))) | (go_at_call 29; exact quietly (left_any _ _ _ _ (hs3.drewN _))) | (go_at_call 30; exact quietly (end_any _ _ _ _ (hs3.drewN _))) | (go_at_call 31; exact quietly (rend_any _ _ _ _ _ (hw3.drewN _)))))
          go_wp2
          exact ⟨⟨k + 1, r, _, by omega, by go_num, hlr, hs3.drewN _, hw3.drewN _, hf3.drewN _⟩, by simp [intOf]; omega⟩
      by_cases d2 : d = 2
      · subst d2
        go_wp2_with fail
        go_region_held3 (fun W => W.cell? ⟨b, o + k * 2 + 1, none⟩ = some (.int .i64 m)) (first | exact hc1' | exact c2 | exact c3) (first | (go_at_call 20; refine (below_any _ _ _ _ _ hs.drew hm).mono ?_; rintro e w2 ⟨rfl, hs2, f2⟩; have hw2 := hw.drew.fr f2 (fun e => by have : gw = gs := e; omega) (fun q e => by have : q = gs := e; unfold From0; omega); have c2 := (f2.cell (p := ⟨b, o + k * 2 + 1, none⟩) (by have := hf.size; simp; omega) (fun e => by have : b = gs := e; omega)).trans hc1') | (go_at_call 21; refine (rbelow_any _ _ _ _ _ _ hw2 (by omega) hm).mono ?_; rintro e w3 ⟨rfl, hw3, f3⟩; have hs3 := hs2.fr f3 (fun e => by have : gs = gw := e; omega); have c3 := (f3.cell (p := ⟨b, o + k * 2 + 1, none⟩) (by have := hf.size; have := f2.size; simp at this ⊢; omega) (fun e => by have : b = gw := e; omega)).trans c2))
        have hlr : (mostR l (m - 1)).length ≤ 400 := Nat.le_trans (mostR_le l _) hl'
        have hf3 := ((hf.drew).fresh f2 (fun q e => by have : q = gs := e; omega)).fresh f3 (fun q e => by have : q = gw := e; omega)
        generalize hr : mostR l (m - 1) = r at *
        generalize hb : mostB l (m - 1) = bd at *
        clear hr hb hs hw hs2 hw2 hf f2 f3 c2 c3
        obtain ⟨A3, c3, k0, k1, _, _⟩ := hw3.cells
        cases bd
        all_goals
          go_wp2_with fail
          go_quiet ((first | (go_at_call 28; exact quietly (ok_any _ _ _ _ (hs3.drewN _))) | (go_at_call 29; exact quietly (left_any _ _ _ _ (hs3.drewN _))) | (go_at_call 30; exact quietly (end_any _ _ _ _ (hs3.drewN _))) | (go_at_call 31; exact quietly (rend_any _ _ _ _ _ (hw3.drewN _)))))
          go_wp2
          exact ⟨⟨k + 1, r, _, by omega, by go_num, hlr, hs3.drewN _, hw3.drewN _, hf3.drewN _⟩, by simp [intOf]; omega⟩
      by_cases d3 : d = 3
      · subst d3
        go_wp2_with fail
        go_region_held3 (fun W => W.cell? ⟨b, o + k * 2 + 1, none⟩ = some (.int .i64 m)) (first | exact hc1' | exact c2 | exact c3) (first | (go_at_call 22; refine (stext_any _ _ _ _ _ hs.drew hm).mono ?_; rintro e w2 ⟨rfl, hs2, f2⟩; have hw2 := hw.drew.fr f2 (fun e => by have : gw = gs := e; omega) (fun q e => by have : q = gs := e; unfold From0; omega); have c2 := (f2.cell (p := ⟨b, o + k * 2 + 1, none⟩) (by have := hf.size; simp; omega) (fun e => by have : b = gs := e; omega)).trans hc1') | (go_at_call 23; refine (rstext_any _ _ _ _ _ _ hw2 (by omega) hm).mono ?_; rintro e w3 ⟨rfl, hw3, f3⟩; have hs3 := hs2.fr f3 (fun e => by have : gs = gw := e; omega); have c3 := (f3.cell (p := ⟨b, o + k * 2 + 1, none⟩) (by have := hf.size; have := f2.size; simp at this ⊢; omega) (fun e => by have : b = gw := e; omega)).trans c2))
        have hlr : (txtR l m).length ≤ 400 := Nat.le_trans (txtR_le l _) hl'
        have hf3 := ((hf.drew).fresh f2 (fun q e => by have : q = gs := e; omega)).fresh f3 (fun q e => by have : q = gw := e; omega)
        generalize hr : txtR l m = r at *
        generalize hb : txtB l m = bd at *
        clear hr hb hs hw hs2 hw2 hf f2 f3 c2 c3
        obtain ⟨A3, c3, k0, k1, _, _⟩ := hw3.cells
        cases bd
        all_goals
          go_wp2_with fail
          go_quiet ((first | (go_at_call 28; exact quietly (ok_any _ _ _ _ (hs3.drewN _))) | (go_at_call 29; exact quietly (left_any _ _ _ _ (hs3.drewN _))) | (go_at_call 30; exact quietly (end_any _ _ _ _ (hs3.drewN _))) | (go_at_call 31; exact quietly (rend_any _ _ _ _ _ (hw3.drewN _)))))
          go_wp2
          exact ⟨⟨k + 1, r, _, by omega, by go_num, hlr, hs3.drewN _, hw3.drewN _, hf3.drewN _⟩, by simp [intOf]; omega⟩
      have hgwlt : gw < wr.heap.size := by obtain ⟨_, hB, _⟩ := hw; exact hB.lt
      by_cases d4 : d = 4
      · subst d4
        go_wp2_with fail
        go_region_held3 (fun W => W.cell? ⟨b, o + k * 2 + 1, none⟩ = some (.int .i64 m)) (first | exact hc1' | exact c2 | exact c3) (first | (go_at_call 24; refine (take_any _ _ _ _ _ hs.drew).mono ?_; rintro e w2 ⟨v2, rfl, hbs2, hnew2, hs2, f2⟩; have hw2 := hw.drew.fr f2 (fun e => by have : gw = gs := e; omega) (fun q e => by have : q = gs := e; unfold From0; omega); have c2 := (f2.cell (p := ⟨b, o + k * 2 + 1, none⟩) (by have := hf.size; simp; omega) (fun e => by have : b = gs := e; omega)).trans hc1') | (go_at_call 25; refine (rtake_any _ _ _ _ _ _ hw2 (by omega)).mono ?_; rintro e w3 ⟨v3, rfl, hbs3, hnew3, hw3, f3⟩; have hs3 := hs2.fr f3 (fun e => by have : gs = gw := e; omega); have c3 := (f3.cell (p := ⟨b, o + k * 2 + 1, none⟩) (by have := hf.size; have := f2.size; simp at this ⊢; omega) (fun e => by have : b = gw := e; omega)).trans c2; have hbs2' := hbs2.fr f3 (fun q hq e => by have h1 := hnew2 q hq; have h2 : q = gw := e; simp at h1; omega)) | (go_at_call 8; refine (same_any _ _ _ _ _ hbs2' hbs3).mono ?_; rintro e w4 ⟨rfl, rfl⟩))
        have hlr : (cutR l m).length ≤ 400 := Nat.le_trans (cutR_le l _) hl'
        have hf3 := ((hf.drew).fresh f2 (fun q e => by have : q = gs := e; omega)).fresh f3 (fun q e => by have : q = gw := e; omega)
        generalize hr : cutR l m = r at *
        generalize hb : cutB l bad m = bd at *
        clear hr hb hs hw hs2 hw2 hf f2 f3 c2 c3 hbs2 hbs2' hbs3 hnew2 hnew3
        obtain ⟨A3, c3, k0, k1, _, _⟩ := hw3.cells
        cases bd
        all_goals
          go_wp2_with fail
          go_quiet ((first | (go_at_call 28; exact quietly (ok_any _ _ _ _ (hs3.drewN _))) | (go_at_call 29; exact quietly (left_any _ _ _ _ (hs3.drewN _))) | (go_at_call 30; exact quietly (end_any _ _ _ _ (hs3.drewN _))) | (go_at_call 31; exact quietly (rend_any _ _ _ _ _ (hw3.drewN _)))))
          go_wp2
          exact ⟨⟨k + 1, r, _, by omega, by go_num, hlr, hs3.drewN _, hw3.drewN _, hf3.drewN _⟩, by simp [intOf]; omega⟩
      by_cases d5 : d = 5
      · subst d5
        go_wp2_with fail
        refine (fail_any _ _ _ _ hs).mono ?_
        rintro e w2 ⟨rfl, hs2, f2⟩
        have hw2 := hw.fr f2 (fun e => by have : gw = gs := e; omega) (fun q e => by have : q = gs := e; unfold From0; omega)
        go_wp2_with fail
        refine (rfail_any _ _ _ _ _ hw2).mono ?_
        rintro e w3 ⟨rfl, hw3, f3⟩
        have hs3 := hs2.fr f3 (fun e => by have : gs = gw := e; omega)
        have hlr : (([] : List UInt8)).length ≤ 400 := Nat.zero_le _
        have hf3 := (hf.fresh f2 (fun q e => by have : q = gs := e; omega)).fresh f3 (fun q e => by have : q = gw := e; omega)
        clear hs hw hs2 hw2 hf f2 f3
        obtain ⟨A3, c3, k0, k1, _, _⟩ := hw3.cells
        skip
        all_goals
          go_wp2_with fail
          go_quiet ((first | (go_at_call 28; exact quietly (ok_any _ _ _ _ (hs3.drewN _))) | (go_at_call 29; exact quietly (left_any _ _ _ _ (hs3.drewN _))) | (go_at_call 30; exact quietly (end_any _ _ _ _ (hs3.drewN _))) | (go_at_call 31; exact quietly (rend_any _ _ _ _ _ (hw3.drewN _)))))
          go_wp2
          exact ⟨⟨k + 1, [], _, by omega, by go_num, hlr, hs3.drewN _, hw3.drewN _, hf3.drewN _⟩, by simp [intOf]; omega⟩
      have e0 : (d == 0) = false := by rw [beq_eq_false_iff_ne]; exact d0
      have e1 : (d == 1) = false := by rw [beq_eq_false_iff_ne]; exact d1
      have e2 : (d == 2) = false := by rw [beq_eq_false_iff_ne]; exact d2
      have e3 : (d == 3) = false := by rw [beq_eq_false_iff_ne]; exact d3
      have e4 : (d == 4) = false := by rw [beq_eq_false_iff_ne]; exact d4
      have e5 : (d == 5) = false := by rw [beq_eq_false_iff_ne]; exact d5
      clear d0 d1 d2 d3 d4 d5 hc1'
      have hs3 := hs
      have hw3 := hw
      have hlr : (l).length ≤ 400 := hl'
      have hf3 := hf
      clear hs hw hf
      obtain ⟨A3, c3, k0, k1, _, _⟩ := hw3.cells
      cases bad
      all_goals
        go_wp2_with fail
        go_quiet ((first | (go_at_call 28; exact quietly (ok_any _ _ _ _ (hs3.drewN _))) | (go_at_call 29; exact quietly (left_any _ _ _ _ (hs3.drewN _))) | (go_at_call 30; exact quietly (end_any _ _ _ _ (hs3.drewN _))) | (go_at_call 31; exact quietly (rend_any _ _ _ _ _ (hw3.drewN _)))))
        go_wp2
        exact ⟨⟨k + 1, l, _, by omega, by go_num, hlr, hs3.drewN _, hw3.drewN _, hf3.drewN _⟩, by simp [intOf]; omega⟩
    · have hf' := hf
      clear hs hw hf HA HB HV HN s1 s1' S1 f1 f1'
      go_wp2_with fail
      refine (failnil _).mono ?_
      rintro e w2 ⟨rfl, rfl⟩
      go_wp2_with fail
      refine (nil_num _).mono ?_
      rintro e w2 ⟨rfl, rfl⟩
      go_wp2_with fail
      refine (nil_int _).mono ?_
      rintro e w2 ⟨rfl, rfl⟩
      go_wp2_with fail
      refine (nil_below _).mono ?_
      rintro e w2 ⟨rfl, rfl⟩
      go_wp2_with fail
      refine (nil_text _).mono ?_
      rintro e w2 ⟨rfl, rfl⟩
      go_wp2_with fail
      refine (nil_take _).mono ?_
      rintro e w2 ⟨v2, rfl, hb2, f2⟩
      obtain ⟨A2, c2, rfl⟩ := hb2.shape
      go_wp2_with fail
      refine (nil_left _).mono ?_
      rintro e w3 ⟨rfl, rfl⟩
      go_wp2_with fail
      refine (nil_ok _).mono ?_
      rintro e w3 ⟨rfl, rfl⟩
      go_wp2_with fail
      refine (nil_end _).mono ?_
      rintro e w3 ⟨rfl, rfl⟩
      go_wp2_with fail
      refine (live_any _).mono ?_
      rintro e w3 ⟨rfl, f3⟩
      go_wp2
      go_ret
      exact ⟨rfl, ((hf'.trans f2).trans f3).below⟩

end Go.Proofs.Ytaamohkmfhoikaa
