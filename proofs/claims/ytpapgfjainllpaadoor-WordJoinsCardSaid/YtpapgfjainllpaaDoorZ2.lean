/-
  Joined: Layer 16: marks; the first word (the program's). · Layer 16: all the words of a text (the program's). · Layer 16: all the words of a text (the document's). · Layer 16: tokens compared; the page's example. · Layer 16: the walks of WordAll, WordBack. · The tokens of two texts with a blank between. Nothing of the program. · Layer 16: the walk of WordJoins. · Layer 16: the variables that a row lists, opened; a row's frame that hands the world's shape on.
-/
import Derived.Deep.Slices
import Derived.Test.YtpapgfjainllpaaDoorZ1
import Derived.Test.YtpapgfjainllpaaDoorRows
import Derived.LaidMore
import Derived.Lay
import Derived.Handed
import Derived.Stop.LaidErr
import Derived.Lib.LaidTab
import Derived.Shelf.Vars
import Derived.OpenShut
import Derived.Stop.Joined
import Derived.ProofKit

namespace Go.Proofs.YtpapgfjainllpaaDoor
set_option linter.unusedVariables false
set_option linter.unusedSimpArgs false
set_option maxRecDepth 100000
open Go.RowKit

theorem mk_next {l m : List UInt8} {i : Nat} (hi : marksL[i]? = some m) (h : mkT l = (marksL.drop i).find? fun m => m.isPrefixOf l) (hp : m.isPrefixOf l = false) : mkT l = (marksL.drop (i + 1)).find? fun m => m.isPrefixOf l := by
  obtain ⟨hlt, rfl⟩ := List.getElem?_eq_some_iff.1 hi
  rw [h, List.drop_eq_getElem_cons hlt, List.find?_cons_of_neg (by simp [hp])]
theorem mk_hit {l m : List UInt8} {i : Nat} (hi : marksL[i]? = some m) (h : mkT l = (marksL.drop i).find? fun m => m.isPrefixOf l) (hp : m.isPrefixOf l = true) : mkT l = some m := by
  obtain ⟨hlt, rfl⟩ := List.getElem?_eq_some_iff.1 hi
  rw [h, List.drop_eq_getElem_cons hlt, List.find?_cons_of_pos (by simp [hp])]
theorem mk_none {l : List UInt8} (h : mkT l = (marksL.drop 10).find? fun m => m.isPrefixOf l) : mkT l = none := h

/-- an element of the table -/
theorem idx_marks : (∀ W : World, (Instr.index 63 (.agg #[.string ⟨#[60, 62]⟩, .string ⟨#[60, 61]⟩, .string ⟨#[62, 61]⟩, .string ⟨#[60]⟩, .string ⟨#[62]⟩, .string ⟨#[61]⟩, .string ⟨#[44]⟩, .string ⟨#[40]⟩, .string ⟨#[41]⟩, .string ⟨#[42]⟩]) (.int .i64 0)).run Tryd.prog W = .ok (.string ⟨#[60, 62]⟩) W) ∧
    (∀ W : World, (Instr.index 63 (.agg #[.string ⟨#[60, 62]⟩, .string ⟨#[60, 61]⟩, .string ⟨#[62, 61]⟩, .string ⟨#[60]⟩, .string ⟨#[62]⟩, .string ⟨#[61]⟩, .string ⟨#[44]⟩, .string ⟨#[40]⟩, .string ⟨#[41]⟩, .string ⟨#[42]⟩]) (.int .i64 1)).run Tryd.prog W = .ok (.string ⟨#[60, 61]⟩) W) ∧
    (∀ W : World, (Instr.index 63 (.agg #[.string ⟨#[60, 62]⟩, .string ⟨#[60, 61]⟩, .string ⟨#[62, 61]⟩, .string ⟨#[60]⟩, .string ⟨#[62]⟩, .string ⟨#[61]⟩, .string ⟨#[44]⟩, .string ⟨#[40]⟩, .string ⟨#[41]⟩, .string ⟨#[42]⟩]) (.int .i64 2)).run Tryd.prog W = .ok (.string ⟨#[62, 61]⟩) W) ∧
    (∀ W : World, (Instr.index 63 (.agg #[.string ⟨#[60, 62]⟩, .string ⟨#[60, 61]⟩, .string ⟨#[62, 61]⟩, .string ⟨#[60]⟩, .string ⟨#[62]⟩, .string ⟨#[61]⟩, .string ⟨#[44]⟩, .string ⟨#[40]⟩, .string ⟨#[41]⟩, .string ⟨#[42]⟩]) (.int .i64 3)).run Tryd.prog W = .ok (.string ⟨#[60]⟩) W) ∧
    (∀ W : World, (Instr.index 63 (.agg #[.string ⟨#[60, 62]⟩, .string ⟨#[60, 61]⟩, .string ⟨#[62, 61]⟩, .string ⟨#[60]⟩, .string ⟨#[62]⟩, .string ⟨#[61]⟩, .string ⟨#[44]⟩, .string ⟨#[40]⟩, .string ⟨#[41]⟩, .string ⟨#[42]⟩]) (.int .i64 4)).run Tryd.prog W = .ok (.string ⟨#[62]⟩) W) ∧
    (∀ W : World, (Instr.index 63 (.agg #[.string ⟨#[60, 62]⟩, .string ⟨#[60, 61]⟩, .string ⟨#[62, 61]⟩, .string ⟨#[60]⟩, .string ⟨#[62]⟩, .string ⟨#[61]⟩, .string ⟨#[44]⟩, .string ⟨#[40]⟩, .string ⟨#[41]⟩, .string ⟨#[42]⟩]) (.int .i64 5)).run Tryd.prog W = .ok (.string ⟨#[61]⟩) W) ∧
    (∀ W : World, (Instr.index 63 (.agg #[.string ⟨#[60, 62]⟩, .string ⟨#[60, 61]⟩, .string ⟨#[62, 61]⟩, .string ⟨#[60]⟩, .string ⟨#[62]⟩, .string ⟨#[61]⟩, .string ⟨#[44]⟩, .string ⟨#[40]⟩, .string ⟨#[41]⟩, .string ⟨#[42]⟩]) (.int .i64 6)).run Tryd.prog W = .ok (.string ⟨#[44]⟩) W) ∧
    (∀ W : World, (Instr.index 63 (.agg #[.string ⟨#[60, 62]⟩, .string ⟨#[60, 61]⟩, .string ⟨#[62, 61]⟩, .string ⟨#[60]⟩, .string ⟨#[62]⟩, .string ⟨#[61]⟩, .string ⟨#[44]⟩, .string ⟨#[40]⟩, .string ⟨#[41]⟩, .string ⟨#[42]⟩]) (.int .i64 7)).run Tryd.prog W = .ok (.string ⟨#[40]⟩) W) ∧
    (∀ W : World, (Instr.index 63 (.agg #[.string ⟨#[60, 62]⟩, .string ⟨#[60, 61]⟩, .string ⟨#[62, 61]⟩, .string ⟨#[60]⟩, .string ⟨#[62]⟩, .string ⟨#[61]⟩, .string ⟨#[44]⟩, .string ⟨#[40]⟩, .string ⟨#[41]⟩, .string ⟨#[42]⟩]) (.int .i64 8)).run Tryd.prog W = .ok (.string ⟨#[41]⟩) W) ∧
    (∀ W : World, (Instr.index 63 (.agg #[.string ⟨#[60, 62]⟩, .string ⟨#[60, 61]⟩, .string ⟨#[62, 61]⟩, .string ⟨#[60]⟩, .string ⟨#[62]⟩, .string ⟨#[61]⟩, .string ⟨#[44]⟩, .string ⟨#[40]⟩, .string ⟨#[41]⟩, .string ⟨#[42]⟩]) (.int .i64 9)).run Tryd.prog W = .ok (.string ⟨#[42]⟩) W) :=
  ⟨fun _ => by kernel_rfl, fun _ => by kernel_rfl, fun _ => by kernel_rfl, fun _ => by kernel_rfl, fun _ => by kernel_rfl, fun _ => by kernel_rfl, fun _ => by kernel_rfl, fun _ => by kernel_rfl, fun _ => by kernel_rfl, fun _ => by kernel_rfl⟩

set_option maxHeartbeats 1000000 in
theorem wmark_any (l : List UInt8) (w : World) (hW : Lw w) (hl : l.length ≤ 1000000) : Calls Tryd.prog 25 #[.string ⟨l.toArray⟩] w fun e w' => TkEnd ((mkT l).map fun t => (⟨4, t, 0, 0⟩, t.length)) e ∧ Fr Non w w' := by
  have hM := (hW.alloc (.cells #[.int .i64 0, .string ⟨#[]⟩, .int .i64 0, .int .i64 0] 36)).marks
  have m0 := hM 0 (by decide)
  have m1 := hM 1 (by decide)
  have m2 := hM 2 (by decide)
  have m3 := hM 3 (by decide)
  have m4 := hM 4 (by decide)
  have m5 := hM 5 (by decide)
  have m6 := hM 6 (by decide)
  have m7 := hM 7 (by decide)
  have m8 := hM 8 (by decide)
  have m9 := hM 9 (by decide)
  simp only [marksL, List.getElem_cons_succ, List.getElem_cons_zero] at m0 m1 m2 m3 m4 m5 m6 m7 m8 m9
  clear hM
  go_enter Tryd.func25, Tryd.ntmps25
  go_wp2
  have HF := Lib.hid (tkW_after (w := w) (Fr.refl Non _))
  obtain ⟨x0, x1, x2, x3, x4, x5, x6, x7, x8, x9⟩ := idx_marks
  go_loopw [7] (fun v wr => ∃ i : Nat, i ≤ 10 ∧ v = .int .i64 (i : Int) ∧ wr = w.alloc (.cells #[.int .i64 0, .string ⟨#[]⟩, .int .i64 0, .int .i64 0] 36) ∧ Hid (mkT l = (marksL.drop i).find? fun m => m.isPrefixOf l)) (fun v _ => 10 - (intOf v).toNat)
  case atStart => exact ⟨0, by omega, rfl, rfl, Lib.hid rfl⟩
  case round =>
    obtain ⟨i, hi, rfl, rfl, hd⟩ := hrel
    obtain ⟨hB, hf⟩ := HF.out
    obtain ⟨c0, c1, c2, c3, z0, z1, z2, z3⟩ := hB.facts
    dsimp only [noTk] at c0 c1 c2 c3
    clear hB hf m0 m1 m2 m3 m4 m5 m6 m7 m8 m9
    generalize w.alloc (.cells #[.int .i64 0, .string ⟨#[]⟩, .int .i64 0, .int .i64 0] 36) = W at *
    by_cases h10 : i = 10
    · subst h10
      have HE := Lib.hid (mk_none hd.out)
      clear hd
      go_wp2
      rw [HE.out]
      exact bodyPost_ret (ret_tkW (p := 2) (u := 3) rfl _ _ w.heap.size noTk (.int .i64 0) rfl rfl (setTk_W HF.out.1 noTk)) rfl ⟨⟨noTk, rfl⟩, setTk_end HF.out.2 noTk⟩
    · obtain ⟨m, hm⟩ : ∃ m, marksL[i]? = some m := ⟨marksL[i]'(by show i < 10; omega), List.getElem?_eq_getElem _⟩
      have HP := Lib.hid (fun V => shas_any l m V)
      cases hp : m.isPrefixOf l with
      | true =>
        have HE := Lib.hid (mk_hit hm hd.out hp)
        rw [hp] at HP
        clear hd hp
        rcases (by omega : i = 0 ∨ i = 1 ∨ i = 2 ∨ i = 3 ∨ i = 4 ∨ i = 5 ∨ i = 6 ∨ i = 7 ∨ i = 8 ∨ i = 9) with rfl | rfl | rfl | rfl | rfl | rfl | rfl | rfl | rfl | rfl
        all_goals
          simp only [marksL, List.getElem?_cons_succ, List.getElem?_cons_zero, Option.some.injEq] at hm
          subst hm
          go_wp2_with fail
          refine (HP.out _).mono ?_
          rintro e w1 ⟨rfl, rfl⟩
          clear HP
          go_wp2
          rw [HE.out]
          exact bodyPost_ret (ret_tkW (p := 2) (u := 3) rfl _ _ w.heap.size ⟨4, _, 0, 0⟩ _ rfl rfl (setTk_W HF.out.1 ⟨4, _, 0, 0⟩)) rfl ⟨rfl, setTk_end HF.out.2 ⟨4, _, 0, 0⟩⟩
      | false =>
        have HE := Lib.hid (mk_next hm hd.out hp)
        rw [hp] at HP
        clear hd hp
        rcases (by omega : i = 0 ∨ i = 1 ∨ i = 2 ∨ i = 3 ∨ i = 4 ∨ i = 5 ∨ i = 6 ∨ i = 7 ∨ i = 8 ∨ i = 9) with rfl | rfl | rfl | rfl | rfl | rfl | rfl | rfl | rfl | rfl
        all_goals
          simp only [marksL, List.getElem?_cons_succ, List.getElem?_cons_zero, Option.some.injEq] at hm
          subst hm
          go_wp2_with fail
          refine (HP.out _).mono ?_
          rintro e w1 ⟨rfl, rfl⟩
          clear HP
          go_wp2
          go_roundw
          case rel => refine ⟨_, ?_, ?_, ?_, HE⟩ <;> first | trivial | rfl | omega
          case measure => simp [intOf]

/-! ### The first word -/
theorem TkEnd.is_ {x : Option (Tk × Nat)} {e : Ending} (h : TkEnd x e) : ∃ (t : Tk) (n : Nat), e = .returned (.tuple #[.agg #[.int .i64 t.kind, .string ⟨t.txt.toArray⟩, .int .i64 t.num, .int .i64 t.at_], .int .i64 (n : Int)]) ∧ Hid (TkEnd x (.returned (.tuple #[tkV t, .int .i64 (n : Int)]))) := by
  cases x with
  | none => obtain ⟨t, rfl⟩ := h; exact ⟨t, 0, rfl, Lib.hid ⟨t, rfl⟩⟩
  | some x => obtain ⟨t, n⟩ := x; exact ⟨t, n, h, Lib.hid rfl⟩

set_option maxHeartbeats 1000000 in
theorem wfirst_any (c : UInt8) (r : List UInt8) (l : List UInt8) (hcr : l = c :: r) (w : World) (hW : Lw w) (hl : l.length ≤ 1000000) : Calls Tryd.prog 16 #[.int .i32 ((dcU l).1 : Nat), .string ⟨l.toArray⟩] w fun e w' => TkEnd (oneB l) e ∧ Fr Non w w' := by
  have h1 : 1 ≤ l.length := by rw [hcr]; simp
  have HL := Lib.hid (fun V => wletter_any (dcU l).1 V)
  have HD := Lib.hid (fun V => wdigit_any (dcU l).1 V)
  have e1 : letR (dcU l).1 = letB c := by rw [hcr]; exact let_rune c r
  have e2 : digR (dcU l).1 = digB c := by rw [hcr]; exact dig_rune c r
  have e3 : ((dcU l).1 = 45) ↔ c = 45 := by rw [hcr]; exact is_rune 45 (by omega) c r
  have e4 : ((dcU l).1 = 39) ↔ c = 39 := by rw [hcr]; exact is_rune 39 (by omega) c r
  have HN := Lib.hid (fun V => wname_any l V hl)
  have HU := Lib.hid (fun V h => wnumber_any l V h hl)
  have HT := Lib.hid (fun V h => wtext_any l V h h1 hl)
  have HM := Lib.hid (fun V h => wmark_any l V h hl)
  have hO : oneB l = if letB c then some (⟨1, l.take (spanN innB l), 0, 0⟩, spanN innB l) else if digB c || decide (c = 45) then (valB (l.take (nszN l))).map fun v => (⟨2, [], v, 0⟩, nszN l)
      else if c = 39 then (qtB (l.drop 1)).map fun x => (⟨3, x.1, 0, 0⟩, x.2 + 1) else (mkT l).map fun t => (⟨4, t, 0, 0⟩, t.length) := by
    rw [hcr]
    by_cases hd : (digB c || decide (c = 45)) = true
    · rw [nsz_is hd]; rfl
    · simp only [oneB, if_neg hd]; rfl
  rw [e1] at HL
  rw [e2] at HD
  have HW := Lib.hid (hW.alloc (.cells #[.int .i64 0, .string ⟨#[]⟩, .int .i64 0, .int .i64 0] 36))
  have HO := Lib.hid hO
  clear e1 e2 hO hcr h1
  generalize (dcU l).1 = x at *
  have HF0 := Lib.hid (tkW_after (w := w) (Fr.refl Non _))
  cases hl1 : letB c with
  | true =>
    rw [hl1] at HL
    replace HO := Lib.hid (HO.out.trans (if_pos hl1))
    replace HN := Lib.hid (HN.out (w.alloc (.cells #[.int .i64 0, .string ⟨#[]⟩, .int .i64 0, .int .i64 0] 36)))
    clear HU HT HM HD
    go_enter Tryd.func16, Tryd.ntmps16
    go_wp2_with fail
    refine (HL.out _).mono ?_
    rintro e w1 ⟨rfl, rfl⟩
    go_wp2_with fail
    refine HN.out.mono ?_
    rintro e w2 ⟨hE, hf2⟩
    obtain ⟨t, n, rfl, HE⟩ := hE.is_
    obtain ⟨hB, hf⟩ := tkW_after hf2
    obtain ⟨c0, c1, c2, c3, z0, z1, z2, z3⟩ := hB.facts
    dsimp only [noTk] at c0 c1 c2 c3
    have HB := Lib.hid hB
    have HF := Lib.hid hf
    clear hE hf2 hB hf
    go_wp2
    rw [HO.out]
    exact bodyPost_ret (ret_tkW (p := 4) (u := 5) rfl _ _ w.heap.size t (.int .i64 (n : Int)) rfl rfl (setTk_W HB.out t)) rfl ⟨HE.out, setTk_end HF.out t⟩
  | false =>
    rw [hl1] at HL
    replace HO := Lib.hid (HO.out.trans (if_neg (by rw [hl1]; simp)))
    clear HN
    by_cases hd : (digB c || decide (c = 45)) = true
    · replace HO := Lib.hid (HO.out.trans (if_pos hd))
      replace HU := Lib.hid (HU.out (w.alloc (.cells #[.int .i64 0, .string ⟨#[]⟩, .int .i64 0, .int .i64 0] 36)) HW.out)
      clear HT HM
      cases hd1 : digB c with
      | true =>
        rw [hd1] at HD
        clear hd
        go_enter Tryd.func16, Tryd.ntmps16
        go_wp2_with fail
        refine (HL.out _).mono ?_
        rintro e w1 ⟨rfl, rfl⟩
        go_wp2_with fail
        refine (HD.out _).mono ?_
        rintro e w1 ⟨rfl, rfl⟩
        go_wp2_with fail
        refine HU.out.mono ?_
        rintro e w2 ⟨hE, hf2⟩
        obtain ⟨t, n, rfl, HE⟩ := hE.is_
        obtain ⟨hB, hf⟩ := tkW_after hf2
        obtain ⟨c0, c1, c2, c3, z0, z1, z2, z3⟩ := hB.facts
        dsimp only [noTk] at c0 c1 c2 c3
        have HB := Lib.hid hB
        have HF := Lib.hid hf
        clear hE hf2 hB hf
        go_wp2
        rw [HO.out]
        exact bodyPost_ret (ret_tkW (p := 4) (u := 5) rfl _ _ w.heap.size t (.int .i64 (n : Int)) rfl rfl (setTk_W HB.out t)) rfl ⟨HE.out, setTk_end HF.out t⟩
      | false =>
        rw [hd1] at HD
        have hx : x = 45 := e3.2 (by simpa [hd1] using hd)
        subst hx
        clear hd e3 e4
        go_enter Tryd.func16, Tryd.ntmps16
        go_wp2_with fail
        refine (HL.out _).mono ?_
        rintro e w1 ⟨rfl, rfl⟩
        go_wp2_with fail
        refine (HD.out _).mono ?_
        rintro e w1 ⟨rfl, rfl⟩
        go_wp2_with fail
        refine HU.out.mono ?_
        rintro e w2 ⟨hE, hf2⟩
        obtain ⟨t, n, rfl, HE⟩ := hE.is_
        obtain ⟨hB, hf⟩ := tkW_after hf2
        obtain ⟨c0, c1, c2, c3, z0, z1, z2, z3⟩ := hB.facts
        dsimp only [noTk] at c0 c1 c2 c3
        have HB := Lib.hid hB
        have HF := Lib.hid hf
        clear hE hf2 hB hf
        go_wp2
        rw [HO.out]
        exact bodyPost_ret (ret_tkW (p := 4) (u := 5) rfl _ _ w.heap.size t (.int .i64 (n : Int)) rfl rfl (setTk_W HB.out t)) rfl ⟨HE.out, setTk_end HF.out t⟩
    · replace HO := Lib.hid (HO.out.trans (if_neg hd))
      simp only [Bool.or_eq_true, not_or, Bool.not_eq_true, decide_eq_true_eq] at hd
      obtain ⟨hd1, hd2⟩ := hd
      rw [hd1] at HD
      have hx1 : ((x : Int) == 45) = false := by rw [beq_eq_false_iff_ne]; intro e; exact hd2 (e3.1 (by omega))
      clear HU hd1 hd2 e3
      by_cases hq : c = 39
      · replace HO := Lib.hid (HO.out.trans (if_pos hq))
        replace HT := Lib.hid (HT.out (w.alloc (.cells #[.int .i64 0, .string ⟨#[]⟩, .int .i64 0, .int .i64 0] 36)) HW.out)
        have hx : x = 39 := e4.2 hq
        subst hx
        clear HM e4 hq
        go_enter Tryd.func16, Tryd.ntmps16
        go_wp2_with fail
        refine (HL.out _).mono ?_
        rintro e w1 ⟨rfl, rfl⟩
        go_wp2_with fail
        refine (HD.out _).mono ?_
        rintro e w1 ⟨rfl, rfl⟩
        go_wp2_with fail
        refine HT.out.mono ?_
        rintro e w2 ⟨hE, hf2⟩
        obtain ⟨t, n, rfl, HE⟩ := hE.is_
        obtain ⟨hB, hf⟩ := tkW_after hf2
        obtain ⟨c0, c1, c2, c3, z0, z1, z2, z3⟩ := hB.facts
        dsimp only [noTk] at c0 c1 c2 c3
        have HB := Lib.hid hB
        have HF := Lib.hid hf
        clear hE hf2 hB hf
        go_wp2
        rw [HO.out]
        exact bodyPost_ret (ret_tkW (p := 4) (u := 5) rfl _ _ w.heap.size t (.int .i64 (n : Int)) rfl rfl (setTk_W HB.out t)) rfl ⟨HE.out, setTk_end HF.out t⟩
      · replace HO := Lib.hid (HO.out.trans (if_neg hq))
        replace HM := Lib.hid (HM.out (w.alloc (.cells #[.int .i64 0, .string ⟨#[]⟩, .int .i64 0, .int .i64 0] 36)) HW.out)
        have hx2 : ((x : Int) == 39) = false := by rw [beq_eq_false_iff_ne]; intro e; exact hq (e4.1 (by omega))
        clear HT e4 hq
        go_enter Tryd.func16, Tryd.ntmps16
        go_wp2_with fail
        refine (HL.out _).mono ?_
        rintro e w1 ⟨rfl, rfl⟩
        go_wp2_with fail
        refine (HD.out _).mono ?_
        rintro e w1 ⟨rfl, rfl⟩
        go_wp2_with fail
        refine HM.out.mono ?_
        rintro e w2 ⟨hE, hf2⟩
        obtain ⟨t, n, rfl, HE⟩ := hE.is_
        obtain ⟨hB, hf⟩ := tkW_after hf2
        obtain ⟨c0, c1, c2, c3, z0, z1, z2, z3⟩ := hB.facts
        dsimp only [noTk] at c0 c1 c2 c3
        have HB := Lib.hid hB
        have HF := Lib.hid hf
        clear hE hf2 hB hf
        go_wp2
        rw [HO.out]
        exact bodyPost_ret (ret_tkW (p := 4) (u := 5) rfl _ _ w.heap.size t (.int .i64 (n : Int)) rfl rfl (setTk_W HB.out t)) rfl ⟨HE.out, setTk_end HF.out t⟩
end Go.Proofs.YtpapgfjainllpaaDoor


namespace Go.Proofs.YtpapgfjainllpaaDoor
set_option linter.unusedVariables false
set_option linter.unusedSimpArgs false
set_option maxRecDepth 100000
open Go.RowKit

/-- so far: the range stands at p, the last word ended at b -/
structure WI (l : List UInt8) (p b : Nat) (D : List Tk) : Prop where
  rest : tokB 0 l = preT D (tokB (max p b) (l.drop (max p b)))
  low : p < b → ∃ d, l[b - 1]? = some d ∧ d.toNat < 128
  few : D.length ≤ max p b
  le : b ≤ l.length
theorem wi_zero (l : List UInt8) : WI l 0 0 [] := ⟨by simp [preT_nil], fun h => absurd h (by omega), by simp, by omega⟩
theorem wi_wide {l : List UInt8} {p b : Nat} (hp : p < l.length) (h : p < b) (hl : ∃ d, l[b - 1]? = some d ∧ d.toNat < 128) : p + (dcU (l.drop p)).2 ≤ b := by
  obtain ⟨c, r, hd, hc, hr⟩ := drop_is hp
  rcases lo_or_hi c with h1 | h1
  · rw [hd, dcU_low r h1]; exact h
  · obtain ⟨d, hd1, hd2⟩ := hl
    by_cases hw : p + (dcU (l.drop p)).2 ≤ b
    · exact hw
    · exfalso
      have hh := (dcU_hi (c := c) (r := r) h1).2 (b - 1 - p) (by rw [← hd]; omega)
      rw [← hd, List.getD_eq_getElem?_getD, List.getElem?_drop, show p + (b - 1 - p) = b - 1 by omega, hd1] at hh
      simp at hh; omega
theorem WI.skip {l : List UInt8} {p b : Nat} {D : List Tk} (h : WI l p b D) (hp : p < l.length) (hb : p < b) : WI l (p + (dcU (l.drop p)).2) b D := by
  have hw := wi_wide hp hb (h.low hb)
  have e : max (p + (dcU (l.drop p)).2) b = max p b := by omega
  exact ⟨by rw [e]; exact h.rest, fun _ => h.low hb, by rw [e]; exact h.few, h.le⟩
theorem WI.blank {l : List UInt8} {p b : Nat} {D : List Tk} (h : WI l p b D) (hp : p < l.length) (hb : ¬ p < b) (hk : blkR (dcU (l.drop p)).1 = true) : WI l (p + (dcU (l.drop p)).2) b D := by
  obtain ⟨c, r, hd, hc, hr⟩ := drop_is hp
  rw [hd, blk_rune] at hk
  have hw : (dcU (l.drop p)).2 = 1 := by rw [hd, dcU_low r (blkB_lo hk)]
  have hrest := h.rest
  have hfew := h.few
  rw [show max p b = p by omega] at hrest hfew
  rw [hd, tok_blank p hk, hr] at hrest
  rw [hw]
  have e : max (p + 1) b = p + 1 := by omega
  exact ⟨by rw [e]; exact hrest, fun h => absurd h (by omega), by rw [e]; omega, h.le⟩
theorem WI.bad {l : List UInt8} {p b : Nat} {D : List Tk} (h : WI l p b D) (hp : p < l.length) (hb : ¬ p < b) (hk : blkR (dcU (l.drop p)).1 = false) (ho : oneB (l.drop p) = none) : tokB 0 l = .error p := by
  obtain ⟨c, r, hd, hc, hr⟩ := drop_is hp
  rw [hd, blk_rune] at hk
  rw [hd] at ho
  have hrest := h.rest
  rw [show max p b = p by omega, hd, tok_bad p hk ho] at hrest
  exact hrest
theorem WI.word {l : List UInt8} {p b : Nat} {D : List Tk} {t : Tk} {n : Nat} (h : WI l p b D) (hp : p < l.length) (hb : ¬ p < b) (ho : oneB (l.drop p) = some (t, n)) : WI l (p + (dcU (l.drop p)).2) (p + n) (D ++ [putAt t p]) ∧ 1 ≤ n := by
  obtain ⟨c, r, hd, hc, hr⟩ := drop_is hp
  have hrest := h.rest
  have hfew := h.few
  rw [show max p b = p by omega] at hrest hfew
  rw [hd] at ho
  obtain ⟨h1, h2, h3, ⟨d, h4, h5⟩, _⟩ := one_is ho
  have hw : (dcU (l.drop p)).2 = 1 := by rw [hd, dcU_low r h3]
  rw [hd, tok_one p ho, preT_app, ← hd, List.drop_drop] at hrest
  rw [← hd, List.length_drop] at h2
  rw [hw]
  have e : max (p + 1) (p + n) = p + n := by omega
  refine ⟨⟨by rw [e]; exact hrest, fun _ => ⟨d, ?_, h5⟩, by rw [e]; simp; omega, by omega⟩, h1⟩
  rw [← hd, List.getElem?_drop] at h4
  rw [← h4]; congr 1; omega
theorem WI.end_ {l : List UInt8} {p b : Nat} {D : List Tk} (h : WI l p b D) (hp : ¬ p < l.length) (hp2 : p ≤ l.length) : tokB 0 l = .ok (D ++ [⟨0, [], 0, l.length⟩]) := by
  have hrest := h.rest
  have := h.le
  rw [show max p b = l.length by omega, List.drop_length, tok_nil] at hrest
  exact hrest

set_option maxHeartbeats 4000000 in
theorem wall_any (l : List UInt8) (w : World) (hW : Lw w) : Calls Tryd.prog 6 #[.string ⟨l.toArray⟩] w fun e w' => ∃ v, e = .returned (.tuple #[v, .int .i64 ((wsB l).2.1 : Nat), .int .i64 ((wsB l).2.2 : Nat)]) ∧ Tks w' v (wsB l).1 ∧ Fr Non w w' := by
  by_cases hlong : 400 < l.length
  · have HE := Lib.hid (all_long hlong)
    have hb : decide ((400 : Int) < (l.length : Int)) = true := by simp; omega
    clear hlong
    go_enter Tryd.func6, Tryd.ntmps6
    go_wp2
    go_ret3
    rw [HE.out]
    exact ⟨_, rfl, Ns.nil_ w, Fr.refl _ _⟩
  · have hb : decide ((400 : Int) < (l.length : Int)) = false := by simp; omega
    have HLW := Lib.hid hW
    have HS := Lib.hid hlong
    have hl4 : l.length ≤ 400 := by omega
    clear hlong
    go_enter Tryd.func6, Tryd.ntmps6
    go_wp2
    clear hb
    go_loopw [5, 6] (fun v bv wr => ∃ p b D, p ≤ l.length ∧ bv = .int .i64 (b : Nat) ∧ b ≤ 400 ∧ D.length ≤ 400 ∧ ItU wr w.heap.size l p ∧ TkoW wr (w.heap.size + 1) v D ∧ Fr Non w wr ∧ Hid (WI l p b D)) (fun _ _ wr => l.length - wr.iterPos w.heap.size)
    case atStart => exact ⟨0, 0, [], by omega, rfl, by omega, by simp, ItU.new w l, no_nil _ _, (Fr.refl _ _).alloc _, Lib.hid (wi_zero l)⟩
    case round =>
      obtain ⟨p, b, D, hp, rfl, hb4, hD4, hit, hown, hfr, hd⟩ := hrel
      have hp0 := hit.pos
      by_cases hlt : p < l.length
      · obtain ⟨W, hnx, hitW, hfW⟩ := nextU wr w.heap.size p l hit hlt
        have hfrW := hfr.fresh hfW (fun q e => by have : q = w.heap.size := e; omega)
        have hownW := hown.fr hfW (fun q hq e => by have := (hown.lt q hq).1; have : q = w.heap.size := e; omega)
        have hw := dcU_w (l := l.drop p) (by intro e; have := congrArg List.length e; simp at this; omega)
        rw [List.length_drop] at hw
        clear hit hown hfr hfW
        by_cases hpb : p < b
        · have hpi : decide (p < b) = true := by simp; omega
          have HM := Lib.hid (hd.out.skip hlt hpb)
          clear hd hpb
          generalize (dcU (l.drop p)).1 = x at *
          generalize hq : p + (dcU (l.drop p)).2 = q at *
          have hkq : p < q := by omega
          have hql : q ≤ l.length := by omega
          clear hq hw
          have HO := Lib.hid hownW
          have HF := Lib.hid hfrW
          clear hownW hfrW
          go_wp2
          go_roundw
          case rel => exact ⟨q, b, D, hql, rfl, hb4, hD4, hitW, HO.out, HF.out, HM⟩
          case measure => rw [hp0, hitW.pos]; omega
        · have hpi : decide (p < b) = false := by simp; omega
          have HB := Lib.hid (fun V => wblank_any (dcU (l.drop p)).1 V)
          cases hk : blkR (dcU (l.drop p)).1 with
          | true =>
            have HM := Lib.hid (hd.out.blank hlt hpb hk)
            rw [hk] at HB
            clear hd hpb hk
            generalize (dcU (l.drop p)).1 = x at *
            generalize hq : p + (dcU (l.drop p)).2 = q at *
            have hkq : p < q := by omega
            have hql : q ≤ l.length := by omega
            clear hq hw
            have HO := Lib.hid hownW
            have HF := Lib.hid hfrW
            clear hownW hfrW
            go_wp2_with fail
            refine (HB.out _).mono ?_
            rintro e w1 ⟨rfl, rfl⟩
            clear HB
            go_wp2
            go_roundw
            case rel => exact ⟨q, b, D, hql, rfl, hb4, hD4, hitW, HO.out, HF.out, HM⟩
            case measure => rw [hp0, hitW.pos]; omega
          | false =>
            obtain ⟨c, r, hdr, _, _⟩ := drop_is hlt
            have HFst := Lib.hid (wfirst_any c r (l.drop p) hdr W (HLW.out.non hfrW) (by rw [List.length_drop]; omega))
            have hx := ext_from l p hp
            have HWI := Lib.hid (hd.out.word (t := noTk) (n := 0) hlt hpb)
            have HWB := Lib.hid (hd.out.bad hlt hpb hk)
            have HWW := Lib.hid (fun t n => hd.out.word (t := t) (n := n) hlt hpb)
            rw [hk] at HB
            clear hd hpb hk hdr HWI
            generalize (dcU (l.drop p)).1 = x at *
            generalize hq : p + (dcU (l.drop p)).2 = q at *
            have hkq : p < q := by omega
            have hql : q ≤ l.length := by omega
            clear hq hw
            generalize l.drop p = m at *
            have HO := Lib.hid hownW
            have HF := Lib.hid hfrW
            have hHB := hitW.lt
            have HI := Lib.hid hitW
            clear hownW hfrW hitW
            go_wp2_with fail
            refine (HB.out _).mono ?_
            rintro e w1 ⟨rfl, rfl⟩
            clear HB
            go_wp2_with fail
            refine HFst.out.mono ?_
            rintro e w2 ⟨hE, hf2⟩
            clear HFst
            have HO2 := Lib.hid (HO.out.non hf2)
            have HF2 := Lib.hid (HF.out.then hf2)
            have HI2 := Lib.hid (HI.out.fr hf2 (fun e => e))
            clear hf2 HO HF HI
            cases ho : oneB m with
            | none =>
              rw [ho] at hE
              obtain ⟨t, rfl⟩ := hE
              have HE := Lib.hid (all_bad HS.out (HWB.out ho))
              clear ho HWB HWW
              dsimp only [tkV, tkA]
              go_wp2
              go_ret3
              rw [HE.out]
              exact ⟨_, rfl, Ns.nil_ _, HF2.out.alloc _⟩
            | some y =>
              obtain ⟨t, n⟩ := y
              rw [ho] at hE
              obtain rfl : e = .returned (.tuple #[tkV t, .int .i64 (n : Nat)]) := hE
              obtain ⟨hM, hn1⟩ := HWW.out t n ho
              have hpn := hM.le
              have hDn := hM.few
              rw [List.length_append] at hDn
              have hn0 : ((n : Int) == 0) = false := by rw [beq_eq_false_iff_ne]; omega
              have HM := Lib.hid hM
              clear ho hM HWB HWW
              have hO4 := HO2.out.alloc (.cells #[.int .i64 t.kind, .string ⟨t.txt.toArray⟩, .int .i64 t.num, .int .i64 (p : Int)] 36)
              have hF4 := HF2.out.alloc (.cells #[.int .i64 t.kind, .string ⟨t.txt.toArray⟩, .int .i64 t.num, .int .i64 (p : Int)] 36)
              have hI4 := HI2.out.fr ((Fr.refl Non w2).alloc (.cells #[.int .i64 t.kind, .string ⟨t.txt.toArray⟩, .int .i64 t.num, .int .i64 (p : Int)] 36)) (fun e => e)
              have hsz := hI4.lt
              have HO4 := Lib.hid hO4
              have HF4 := Lib.hid hF4
              have HI4 := Lib.hid hI4
              clear hO4 hF4 hI4 HO2 HF2 HI2
              dsimp only [tkV, tkA]
              go_wp2_with (at_builtin; refine wpList_pushN fd_tk eln_tkW rfl (.tmp 40) (.tmp 42) rfl (w.heap.size + 1) _ D rfl HO4.out (putAt t p) #[.int .i64 t.kind, .string ⟨t.txt.toArray⟩, .int .i64 t.num, .int .i64 p] rfl _ rfl (by simp) (by omega) (by omega) ?_; intro v5 w5 hO5 f5)
              have hF5 := HF4.out.fresh f5 (fun q hq => by have := (HO4.out.lt q hq).1; omega)
              have hI5 := HI4.out.fr f5 (fun e => by have := (HO4.out.lt _ e).1; omega)
              go_roundw
              case rel => exact ⟨q, p + n, _, hql, by push_cast; rfl, by omega, by rw [List.length_append]; omega, hI5, hO5, hF5, HM⟩
              case measure => rw [hp0, hI5.pos]; omega
      · have hnx := fun ty => nextU_end wr w.heap.size p l hit hlt ty
        have HE := Lib.hid (all_ok HS.out (hd.out.end_ hlt hp))
        have HO := Lib.hid hown
        have HF := Lib.hid hfr
        have hsz := hit.lt
        clear hd hown hfr hit
        go_wp2_with (at_builtin; refine wpList_pushN fd_tk eln_tkW rfl (.tmp 47) (.tmp 51) rfl (w.heap.size + 1) _ D rfl HO.out ⟨0, [], 0, l.length⟩ #[.int .i64 0, .string ⟨#[]⟩, .int .i64 0, .int .i64 l.length] rfl _ rfl rfl (by omega) (by omega) ?_; intro v5 w5 hO5 f5)
        have hF5 := HF.out.fresh f5 (fun q hq => by have := (HO.out.lt q hq).1; omega)
        go_ret3
        rw [HE.out]
        exact ⟨_, rfl, hO5.ns fd_tk, hF5⟩
end Go.Proofs.YtpapgfjainllpaaDoor


namespace Go.Proofs.YtpapgfjainllpaaDoor
set_option linter.unusedVariables false
set_option linter.unusedSimpArgs false
set_option maxRecDepth 100000
open Go.RowKit

/-- so far: the words' bytes ended at i -/
structure RI (l : List UInt8) (i : Nat) (D : List Tk) : Prop where
  rest : tokB 0 l = preT D (tokB i (l.drop i))
  few : D.length ≤ i
theorem RI.blank {l : List UInt8} {i : Nat} {D : List Tk} {c : UInt8} (h : RI l i D) (hc : l[i]? = some c) (hk : blkB c = true) : RI l (i + 1) D := by
  obtain ⟨hi, rfl⟩ := List.getElem?_eq_some_iff.1 hc
  have hr := h.rest
  rw [List.drop_eq_getElem_cons hi, tok_blank i hk] at hr
  exact ⟨hr, by have := h.few; omega⟩
theorem RI.bad {l : List UInt8} {i : Nat} {D : List Tk} {c : UInt8} (h : RI l i D) (hc : l[i]? = some c) (hk : blkB c = false) (ho : oneB (l.drop i) = none) : tokB 0 l = .error i := by
  obtain ⟨hi, rfl⟩ := List.getElem?_eq_some_iff.1 hc
  have hr := h.rest
  rw [List.drop_eq_getElem_cons hi] at hr ho
  rw [tok_bad i hk ho] at hr
  exact hr
theorem RI.word {l : List UInt8} {i : Nat} {D : List Tk} {t : Tk} {n : Nat} (h : RI l i D) (hi : i < l.length) (ho : oneB (l.drop i) = some (t, n)) : RI l (i + n) (D ++ [putAt t i]) ∧ 1 ≤ n ∧ i + n ≤ l.length := by
  have hr := h.rest
  have hf := h.few
  rw [List.drop_eq_getElem_cons hi] at ho
  obtain ⟨h1, h2, _⟩ := one_is ho
  rw [← List.drop_eq_getElem_cons hi, List.length_drop] at h2
  rw [List.drop_eq_getElem_cons hi, tok_one i ho, preT_app, ← List.drop_eq_getElem_cons hi, List.drop_drop] at hr
  exact ⟨⟨hr, by simp; omega⟩, h1, by omega⟩
theorem RI.end_ {l : List UInt8} {i : Nat} {D : List Tk} (h : RI l i D) (hi : ¬ i < l.length) (hi2 : i ≤ l.length) : tokB 0 l = .ok (D ++ [⟨0, [], 0, l.length⟩]) := by
  have hr := h.rest
  rw [show i = l.length by omega, List.drop_length, tok_nil] at hr
  exact hr

end Go.Proofs.YtpapgfjainllpaaDoor


namespace Go.Proofs.YtpapgfjainllpaaDoor
set_option linter.unusedVariables false
set_option linter.unusedSimpArgs false
set_option maxRecDepth 100000
open Go.RowKit

theorem lnum_any (n : Int) (w : World) : Calls Tryd.prog 7 #[.int .i64 n] w fun e w' => e = .returned (.int .i64 n) ∧ w = w' := by
  go_enter Tryd.func7, Tryd.ntmps7
  go_wp2
  go_ret
  exact ⟨rfl, rfl⟩
theorem tk_lit {w : World} {a : Addr} {t : Tk} (h : AtN w a (tkL t)) : w.cell? a = some (.int .i64 t.kind) ∧ w.cell? { block := a.block, off := a.off + 1 } = some (.string ⟨t.txt.toArray⟩) ∧ w.cell? { block := a.block, off := a.off + 2 } = some (.int .i64 t.num) ∧ w.cell? { block := a.block, off := a.off + 3 } = some (.int .i64 t.at_) :=
  ⟨h 0 _ rfl, h 1 _ rfl, h 2 _ rfl, h 3 _ rfl⟩

/-! ### The page's example -/
def exW : List Tk := [⟨1, [97], 0, 0⟩, ⟨4, [60, 61], 0, 1⟩, ⟨2, [], -5, 3⟩, ⟨0, [], 0, 5⟩]
theorem val_m5 : valB [45, 53] = some (-5) := by
  have e : Lib.itoa (-5) = [45, 53] := by
    rw [show (-5 : Int) = -((5 : Nat) : Int) by rfl, itoa_down 5 (by omega), Lib.decDigits_one (by omega)]; rfl
  rw [← e]; exact valB_itoa (by unfold I64b; omega)
theorem ex_ws : wsB [97, 60, 61, 45, 53] = (exW, 5, 0) := by
  refine all_ok (by decide) ?_
  rw [tok_one (t := ⟨1, [97], 0, 0⟩) (n := 1) 0 (by rfl)]
  show preT _ (tokB 1 [60, 61, 45, 53]) = _
  rw [tok_one (t := ⟨4, [60, 61], 0, 0⟩) (n := 2) 1 (by rfl)]
  show preT _ (preT _ (tokB 3 [45, 53])) = _
  rw [tok_one (t := ⟨2, [], -5, 0⟩) (n := 2) 3 (by
    simp only [oneB]
    rw [if_neg (by decide), if_pos (by decide)]
    show (valB [45, 53]).map _ = _
    rw [val_m5]; rfl)]
  rfl

set_option maxHeartbeats 2000000 in
theorem live16_any (w : World) (hW : Lw w) : Calls Tryd.prog 8 #[] w fun e w' => e = .returned (.bool true) ∧ Fr Non w w' := by
  have HA := Lib.hid (wall_any [97, 60, 61, 45, 53] w hW)
  rw [ex_ws] at HA
  have HN := Lib.hid (fun n V => lnum_any n V)
  go_enter Tryd.func8, Tryd.ntmps8
  go_wp2_with fail
  refine HA.out.mono ?_
  rintro e w1 ⟨v, rfl, hv, hf⟩
  obtain ⟨A, c, rfl⟩ := hv.shape
  obtain ⟨a, rfl, e1⟩ := hv.at_ 1 ⟨4, [60, 61], 0, 1⟩ rfl
  obtain ⟨a', ha', e2⟩ := hv.at_ 2 ⟨2, [], -5, 3⟩ rfl
  obtain rfl := Option.some.inj ha'
  obtain ⟨a', ha', e3⟩ := hv.at_ 3 ⟨0, [], 0, 5⟩ rfl
  obtain rfl := Option.some.inj ha'
  have p1 : w1.cell? { block := a.block, off := a.off + 4 + 1 } = some (.string ⟨#[60, 61]⟩) := (tk_lit e1).2.1
  have p2 : w1.cell? { block := a.block, off := a.off + 8 + 2 } = some (.int .i64 (-5)) := (tk_lit e2).2.2.1
  have p3 : w1.cell? { block := a.block, off := a.off + 12 + 3 } = some (.int .i64 5) := (tk_lit e3).2.2.2
  have HF := Lib.hid hf
  clear HA hv hf e1 e2 e3 ha'
  rw [show exW.length = 4 by rfl]
  go_wp2_with (refine (HN.out _ _).mono ?_; rintro e w2 ⟨rfl, rfl⟩)
  go_ret
  exact ⟨rfl, HF.out⟩
end Go.Proofs.YtpapgfjainllpaaDoor


namespace Go.Proofs.YtpapgfjainllpaaDoor
set_option linter.unusedVariables false
set_option linter.unusedSimpArgs false
set_option maxRecDepth 100000
open Go.RowKit

theorem ws_few (l : List UInt8) : (wsB l).1.length ≤ 1000000 := by
  unfold wsB
  by_cases h : 400 < l.length
  · rw [if_pos h]; simp
  · rw [if_neg h]
    have key : ∀ (n a : Nat) (l : List UInt8), l.length ≤ n → ∀ ts, tokB a l = .ok ts → ts.length ≤ l.length + 1 := by
      intro n
      induction n with
      | zero =>
        intro a l hl ts ht
        obtain rfl : l = [] := List.eq_nil_of_length_eq_zero (by omega)
        rw [tok_nil] at ht; cases ht; simp
      | succ n ih =>
        intro a l hl ts ht
        cases l with
        | nil => rw [tok_nil] at ht; cases ht; simp
        | cons c r =>
          simp only [List.length_cons] at hl
          cases hb : blkB c with
          | true => rw [tok_blank a hb] at ht; have := ih (a + 1) r (by omega) ts ht; simp; omega
          | false =>
            cases ho : oneB (c :: r) with
            | none => rw [tok_bad a hb ho] at ht; cases ht
            | some x =>
              obtain ⟨t, k⟩ := x
              rw [tok_one a ho] at ht
              have hi := one_is ho
              cases hr : tokB (a + k) ((c :: r).drop k) with
              | error e => rw [hr] at ht; cases ht
              | ok us =>
                rw [hr] at ht
                obtain rfl : [putAt t a] ++ us = ts := by simpa [preT] using ht
                have := ih (a + k) _ (by rw [List.length_drop, List.length_cons]; omega) us hr
                rw [List.length_drop] at this
                simp at this ⊢; omega
    cases ht : tokB 0 l with
    | error p => simp
    | ok ts => have := key l.length 0 l (Nat.le_refl _) ts ht; simp; omega

end Go.Proofs.YtpapgfjainllpaaDoor


namespace Go.Proofs.YtpapgfjainllpaaDoor
set_option linter.unusedVariables false
set_option linter.unusedSimpArgs false
set_option maxRecDepth 100000

theorem mkT_app {l t : List UInt8} (b : List UInt8) (h : mkT l = some t) : mkT (l ++ 10 :: b) = some t := by
  rw [← h]
  cases l with
  | nil => cases h
  | cons c l =>
    cases l with
    | nil => simp [mkT, marksL, List.isPrefixOf, List.find?_cons]
    | cons d l => simp [mkT, marksL, List.isPrefixOf, List.find?_cons]
theorem one_app {c : UInt8} {r : List UInt8} {t : Tk} {n : Nat} (b : List UInt8) (h : oneB (c :: r) = some (t, n)) : oneB (c :: (r ++ 10 :: b)) = some (t, n) := by
  simp only [oneB] at h ⊢
  split at h
  · rename_i hl
    rw [if_pos hl]
    have e := span_app (p := innB) (c := 10) (by decide) (c :: r) b
    rw [List.cons_append] at e
    have hs := span_le innB (c :: r)
    rw [e, ← List.cons_append, List.take_append_of_le_length hs]
    exact h
  split at h
  · rename_i hl hd
    rw [if_neg hl, if_pos hd]
    have hs := span_le digB r
    rw [span_app (p := digB) (c := 10) (by decide) r b, ← List.cons_append, List.take_append_of_le_length (by simp; omega)]
    exact h
  split at h
  · rename_i hl hd hq
    rw [if_neg hl, if_neg hd, if_pos hq]
    obtain ⟨x, hx, he⟩ := Option.map_eq_some_iff.1 h
    rw [qt_app (by decide) r b x hx]
    exact congrArg some he
  · rename_i hl hd hq
    rw [if_neg hl, if_neg hd, if_neg hq]
    obtain ⟨x, hx, he⟩ := Option.map_eq_some_iff.1 h
    rw [← List.cons_append, mkT_app b hx]
    exact congrArg some he
/-- what is read of the first text stands; then the second's -/
theorem tok_app (b : List UInt8) : ∀ (n p : Nat) (r : List UInt8), r.length ≤ n → ∀ ts, tokB p r = .ok ts → ∃ D, ts = D ++ [⟨0, [], 0, ((p + r.length : Nat) : Int)⟩] ∧ tokB p (r ++ 10 :: b) = preT D (tokB (p + r.length + 1) b) := by
  intro n
  induction n with
  | zero =>
    intro p r hr ts ht
    obtain rfl : r = [] := List.eq_nil_of_length_eq_zero (by omega)
    rw [tok_nil] at ht
    cases ht
    exact ⟨[], rfl, by rw [List.nil_append, tok_blank p (by decide), preT_nil]; rfl⟩
  | succ n ih =>
    intro p r hr ts ht
    cases r with
    | nil =>
      rw [tok_nil] at ht
      cases ht
      exact ⟨[], rfl, by rw [List.nil_append, tok_blank p (by decide), preT_nil]; rfl⟩
    | cons c r =>
      simp only [List.length_cons] at hr
      cases hb : blkB c with
      | true =>
        rw [tok_blank p hb] at ht
        obtain ⟨D, e1, e2⟩ := ih (p + 1) r (by omega) ts ht
        refine ⟨D, ?_, ?_⟩
        · rw [e1, List.length_cons, show p + 1 + r.length = p + (r.length + 1) by omega]
        · rw [List.cons_append, tok_blank p hb, e2, List.length_cons, show p + 1 + r.length + 1 = p + (r.length + 1) + 1 by omega]
      | false =>
        cases ho : oneB (c :: r) with
        | none => rw [tok_bad p hb ho] at ht; cases ht
        | some x =>
          obtain ⟨t, k⟩ := x
          have hi := one_is ho
          have hk2 := hi.2.1
          rw [tok_one p ho] at ht
          cases hr2 : tokB (p + k) ((c :: r).drop k) with
          | error e => rw [hr2] at ht; cases ht
          | ok us =>
            rw [hr2] at ht
            obtain rfl : [putAt t p] ++ us = ts := by simpa [preT] using ht
            obtain ⟨D, e1, e2⟩ := ih (p + k) _ (by rw [List.length_drop, List.length_cons]; omega) us hr2
            rw [List.length_drop] at e1 e2
            refine ⟨[putAt t p] ++ D, ?_, ?_⟩
            · rw [e1, List.append_assoc, show p + k + ((c :: r).length - k) = p + (c :: r).length by omega]
            · rw [List.cons_append, tok_one p (one_app b ho), ← List.cons_append, List.drop_append_of_le_length hk2, e2, preT_app]
              rw [show p + k + ((c :: r).length - k) + 1 = p + (c :: r).length + 1 by omega]
/-- k bytes further on -/
def shT (k : Nat) (t : Tk) : Tk := ⟨t.kind, t.txt, t.num, t.at_ + k⟩
theorem tok_shift (k : Nat) : ∀ (n p : Nat) (r : List UInt8), r.length ≤ n → ∀ ts, tokB p r = .ok ts → tokB (p + k) r = .ok (ts.map (shT k)) := by
  intro n
  induction n with
  | zero =>
    intro p r hr ts ht
    obtain rfl : r = [] := List.eq_nil_of_length_eq_zero (by omega)
    rw [tok_nil] at ht ⊢
    cases ht
    simp [shT]
  | succ n ih =>
    intro p r hr ts ht
    cases r with
    | nil =>
      rw [tok_nil] at ht ⊢
      cases ht
      simp [shT]
    | cons c r =>
      simp only [List.length_cons] at hr
      cases hb : blkB c with
      | true =>
        rw [tok_blank p hb] at ht
        rw [tok_blank _ hb, show p + k + 1 = p + 1 + k by omega]
        exact ih (p + 1) r (by omega) ts ht
      | false =>
        cases ho : oneB (c :: r) with
        | none => rw [tok_bad p hb ho] at ht; cases ht
        | some x =>
          obtain ⟨t, m⟩ := x
          have hi := one_is ho
          have hk2 := hi.2.1
          rw [tok_one p ho] at ht
          cases hr2 : tokB (p + m) ((c :: r).drop m) with
          | error e => rw [hr2] at ht; cases ht
          | ok us =>
            rw [hr2] at ht
            obtain rfl : [putAt t p] ++ us = ts := by simpa [preT] using ht
            have := ih (p + m) _ (by rw [List.length_drop, List.length_cons]; omega) us hr2
            rw [tok_one _ ho, show p + k + m = p + m + k by omega, this]
            simp [preT, shT, putAt]
/-- where tokens begin -/
theorem tok_at : ∀ (n p : Nat) (r : List UInt8), r.length ≤ n → ∀ ts, tokB p r = .ok ts → ∀ t ∈ ts, 0 ≤ t.at_ ∧ t.at_ ≤ ((p + r.length : Nat) : Int) := by
  intro n
  induction n with
  | zero =>
    intro p r hr ts ht t hm
    obtain rfl : r = [] := List.eq_nil_of_length_eq_zero (by omega)
    rw [tok_nil] at ht
    cases ht
    obtain rfl : t = _ := by simpa using hm
    exact ⟨by simp, by simp⟩
  | succ n ih =>
    intro p r hr ts ht t hm
    cases r with
    | nil =>
      rw [tok_nil] at ht
      cases ht
      obtain rfl : t = _ := by simpa using hm
      exact ⟨by simp, by simp⟩
    | cons c r =>
      simp only [List.length_cons] at hr ⊢
      cases hb : blkB c with
      | true =>
        rw [tok_blank p hb] at ht
        have := ih (p + 1) r (by omega) ts ht t hm
        omega
      | false =>
        cases ho : oneB (c :: r) with
        | none => rw [tok_bad p hb ho] at ht; cases ht
        | some x =>
          obtain ⟨u, k⟩ := x
          have hi := one_is ho
          have hk2 := hi.2.1
          rw [List.length_cons] at hk2
          rw [tok_one p ho] at ht
          cases hr2 : tokB (p + k) ((c :: r).drop k) with
          | error e => rw [hr2] at ht; cases ht
          | ok us =>
            rw [hr2] at ht
            obtain rfl : [putAt u p] ++ us = ts := by simpa [preT] using ht
            rcases List.mem_append.1 hm with hm | hm
            · obtain rfl : t = putAt u p := by simpa using hm
              simp only [putAt]; omega
            · have := ih (p + k) _ (by rw [List.length_drop, List.length_cons]; omega) us hr2 t hm
              rw [List.length_drop, List.length_cons] at this
              omega
/-- both texts' tokens -/
theorem join_ws {a b : List UInt8} {X Y : List Tk} (ha : a.length ≤ 150) (hb : b.length ≤ 150) (hx : tokB 0 a = .ok X) (hy : tokB 0 b = .ok Y) :
    ∃ D, X = D ++ [⟨0, [], 0, (a.length : Nat)⟩] ∧ wsB (a ++ 10 :: b) = (D ++ Y.map (shT (a.length + 1)), (a ++ 10 :: b).length, 0) := by
  obtain ⟨D, e1, e2⟩ := tok_app b a.length 0 a (Nat.le_refl _) X hx
  have e3 := tok_shift (a.length + 1) b.length 0 b (Nat.le_refl _) Y hy
  rw [show 0 + a.length + 1 = 0 + (a.length + 1) by omega, e3] at e2
  refine ⟨D, by rw [e1, Nat.zero_add], all_ok (by rw [List.length_append, List.length_cons]; omega) ?_⟩
  rw [e2]; rfl
/-- how a short text's words end -/
theorem ws_ways {l : List UInt8} (h : l.length ≤ 150) : (∃ p, wsB l = ([], p, 2)) ∨ ∃ X, tokB 0 l = .ok X ∧ wsB l = (X, l.length, 0) := by
  cases ht : tokB 0 l with
  | error p => exact .inl ⟨p, all_bad (by omega) ht⟩
  | ok X => exact .inr ⟨X, rfl, all_ok (by omega) ht⟩
end Go.Proofs.YtpapgfjainllpaaDoor


namespace Go.Proofs.YtpapgfjainllpaaDoor
set_option linter.unusedVariables false
set_option linter.unusedSimpArgs false
set_option maxRecDepth 100000
open Go.RowKit

theorem run_neq_tk (W : World) (t : Tk) : (binOp .neq 36 (.agg #[.int .i64 t.kind, .string ⟨t.txt.toArray⟩, .int .i64 t.num, .int .i64 t.at_]) (.agg #[.int .i64 t.kind, .string ⟨t.txt.toArray⟩, .int .i64 t.num, .int .i64 t.at_])).run Tryd.prog W = .ok (.bool false) W := by
  go_simp

set_option maxHeartbeats 4000000 in
theorem wordJoins_walk (a b : List UInt8) (w : World) (hW : Lw w) :
    Calls Tryd.prog 5 #[.string ⟨a.toArray⟩, .string ⟨b.toArray⟩] w fun e w' => e = .returned (.bool true) ∧ Below w.heap.size w w' := by
  have HV := Lib.hid (fun V h => live16_any V h)
  have HL := Lib.hid hW
  by_cases h1 : 150 < a.length
  · have hb1 : decide ((150 : Int) < (a.length : Int)) = true := by simp; omega
    clear h1
    go_enter Tryd.func5, Tryd.ntmps5
    go_wp2_with fail
    refine (HV.out _ HL.out).mono ?_
    rintro e w2 ⟨rfl, hf2⟩
    have HF2 := Lib.hid hf2
    clear hf2
    go_wp2
    go_ret
    exact ⟨rfl, HF2.out.below⟩
  have hb1 : decide ((150 : Int) < (a.length : Int)) = false := by simp; omega
  by_cases h2 : 150 < b.length
  · have hb2 : decide ((150 : Int) < (b.length : Int)) = true := by simp; omega
    clear h1 h2
    go_enter Tryd.func5, Tryd.ntmps5
    go_wp2_with fail
    refine (HV.out _ HL.out).mono ?_
    rintro e w2 ⟨rfl, hf2⟩
    have HF2 := Lib.hid hf2
    clear hf2
    go_wp2
    go_ret
    exact ⟨rfl, HF2.out.below⟩
  have hb2 : decide ((150 : Int) < (b.length : Int)) = false := by simp; omega
  have HA := Lib.hid (fun V h => wall_any a V h)
  have HB := Lib.hid (fun V h => wall_any b V h)
  have HN := Lib.hid (fun n V => lnum_any n V)
  rcases ws_ways (l := a) (by omega) with ⟨p, ea⟩ | ⟨X, ex, ea⟩
  · rw [ea] at HA
    clear h1 h2 ea
    generalize wsB b = y at *
    obtain ⟨ys, ny, fy⟩ := y
    go_enter Tryd.func5, Tryd.ntmps5
    go_wp2_with fail
    refine (HA.out _ HL.out).mono ?_
    rintro e w1 ⟨v1, rfl, hv1, hf1⟩
    have HF1 := Lib.hid hf1
    clear hv1 hf1 HA
    dsimp only
    go_wp2_with fail
    refine (HB.out _ (HL.out.non HF1.out)).mono ?_
    rintro e w2 ⟨v2, rfl, hv2, hf2⟩
    have HF2 := Lib.hid (HF1.out.trans hf2)
    clear hv2 hf2 HB HF1
    dsimp only
    go_wp2_with fail
    refine (HN.out _ _).mono ?_
    rintro e w3 ⟨rfl, rfl⟩
    go_wp2_with fail
    refine (HV.out _ (HL.out.non HF2.out)).mono ?_
    rintro e w4 ⟨rfl, hf4⟩
    have HF4 := Lib.hid (HF2.out.trans hf4)
    clear hf4
    go_wp2_with fail
    refine (HN.out _ _).mono ?_
    rintro e w5 ⟨rfl, rfl⟩
    go_wp2
    go_ret
    exact ⟨rfl, HF4.out.below⟩
  rcases ws_ways (l := b) (by omega) with ⟨p, eb⟩ | ⟨Y, ey, eb⟩
  · rw [ea] at HA
    rw [eb] at HB
    obtain ⟨D, hD⟩ : ∃ D, X.length = D + 1 := by
      obtain ⟨D, e1, _⟩ := tok_app [] a.length 0 a (Nat.le_refl _) X ex
      exact ⟨D.length, by rw [e1]; simp⟩
    clear h1 h2 ea eb ex
    go_enter Tryd.func5, Tryd.ntmps5
    go_wp2_with fail
    refine (HA.out _ HL.out).mono ?_
    rintro e w1 ⟨v1, rfl, hv1, hf1⟩
    have HF1 := Lib.hid hf1
    obtain ⟨A1, c1, rfl⟩ := hv1.shape
    dsimp only
    rw [hD]
    clear hv1 hf1 HA hD
    go_wp2_with fail
    refine (HB.out _ (HL.out.non HF1.out)).mono ?_
    rintro e w2 ⟨v2, rfl, hv2, hf2⟩
    have HF2 := Lib.hid (HF1.out.trans hf2)
    clear hv2 hf2 HB HF1
    dsimp only
    go_wp2_with (first
      | (go_at_call 7; refine (HN.out _ _).mono ?_; rintro e w3 ⟨rfl, rfl⟩)
      | fail)
    refine (HV.out _ (HL.out.non HF2.out)).mono ?_
    rintro e w4 ⟨rfl, hf4⟩
    have HF4 := Lib.hid (HF2.out.trans hf4)
    clear hf4
    go_wp2_with (first
      | (go_at_call 7; refine (HN.out _ _).mono ?_; rintro e w3 ⟨rfl, rfl⟩)
      | fail)
    go_ret
    exact ⟨rfl, HF4.out.below⟩
  · obtain ⟨D, eX, eZ⟩ := join_ws (by omega) (by omega) ex ey
    have HC := Lib.hid (fun V h => wall_any (a ++ 10 :: b) V h)
    have hm : (a ++ 10 :: b).length = a.length + b.length + 1 := by rw [List.length_append, List.length_cons]; omega
    rw [ea] at HA
    rw [eb] at HB
    rw [eZ, hm] at HC
    obtain ⟨Z, hZ⟩ : ∃ Z, Z = D ++ Y.map (shT (a.length + 1)) := ⟨_, rfl⟩
    have hX1 : X.length = D.length + 1 := by rw [eX]; simp
    have hZ1 : Z.length = D.length + Y.length := by rw [hZ]; simp
    have HX : Hid (∀ i, i < D.length → ∃ t, X[i]? = some t ∧ Z[i]? = some t) := Lib.hid (fun i hi => ⟨D[i], by rw [eX, List.getElem?_append_left hi]; exact List.getElem?_eq_getElem hi, by rw [hZ, List.getElem?_append_left hi]; exact List.getElem?_eq_getElem hi⟩)
    have HY : Hid (∀ j, j < Y.length → ∃ t, Y[j]? = some t ∧ Z[D.length + j]? = some (shT (a.length + 1) t)) := Lib.hid (fun j hj => ⟨Y[j], List.getElem?_eq_getElem hj, by
      rw [hZ, List.getElem?_append_right (by omega), Nat.add_sub_cancel_left, List.getElem?_map, List.getElem?_eq_getElem hj]; rfl⟩)
    rw [← hZ] at HC
    have hDl : D.length ≤ 1000000 := by have := ws_few a; rw [ea] at this; dsimp only at this; omega
    have hYl : Y.length ≤ 1000000 := by have := ws_few b; rw [eb] at this; exact this
    have q1 := fun W => run_string_add_sum (P := Tryd.prog) W ⟨a.toArray⟩ ⟨#[10]⟩ (by simp [ByteArray.size]; omega)
    have q2 := fun W => run_string_add_sum (P := Tryd.prog) W (⟨a.toArray⟩ ++ ⟨#[10]⟩) ⟨b.toArray⟩ (by simp [ByteArray.size]; omega)
    have hsum : (⟨a.toArray⟩ ++ ⟨#[10]⟩ ++ ⟨b.toArray⟩ : ByteArray) = ⟨(a ++ 10 :: b).toArray⟩ := by
      apply ByteArray.ext; simp
    have hla : a.length ≤ 150 := by omega
    have hlb : b.length ≤ 150 := by omega
    have HT : Hid (∀ t ∈ Y, 0 ≤ t.at_ ∧ t.at_ ≤ (150 : Int)) := Lib.hid (fun t ht => by have := tok_at b.length 0 b (Nat.le_refl _) Y ey t ht; omega)
    clear h1 h2 ea eb ex ey eX eZ hm hZ
    generalize a ++ 10 :: b = m at *
    generalize D.length = dx at *
    clear D
    go_enter Tryd.func5, Tryd.ntmps5
    go_wp2_with fail
    refine (HA.out _ HL.out).mono ?_
    rintro e w1 ⟨v1, rfl, hv1, hf1⟩
    have HF1 := Lib.hid hf1
    have HV1 := Lib.hid hv1
    obtain ⟨A1, c1, rfl⟩ := hv1.shape
    dsimp only
    rw [hX1]
    clear hv1 hf1 HA
    go_wp2_with fail
    refine (HB.out _ (HL.out.non HF1.out)).mono ?_
    rintro e w2 ⟨v2, rfl, hv2, hf2⟩
    have HF2 := Lib.hid (HF1.out.trans hf2)
    have HV2 := Lib.hid hv2
    have HV1' := Lib.hid (HV1.out.non hf2)
    obtain ⟨A2, c2, rfl⟩ := hv2.shape
    clear hv2 hf2 HB HF1 HV1
    dsimp only
    go_wp2_with (first
      | (go_at_call 7; refine (HN.out _ _).mono ?_; rintro e w3 ⟨rfl, rfl⟩)
      | fail)
    refine (HC.out _ (HL.out.non HF2.out)).mono ?_
    rintro e w3 ⟨v3, rfl, hv3, hf3⟩
    have HF3 := Lib.hid (HF2.out.trans hf3)
    have HZ3 := Lib.hid hv3
    have HX3 := Lib.hid (HV1'.out.non hf3)
    have HY3 := Lib.hid (HV2.out.non hf3)
    obtain ⟨A3, c3, rfl⟩ := hv3.shape
    dsimp only
    rw [hZ1]
    rw [hX1] at HX3
    rw [hZ1] at HZ3
    clear hv3 hf3 HC HF2 HV2 HV1' q1 q2 hsum hX1 hZ1
    go_wp2_with (first
      | (go_at_call 7; refine (HN.out _ _).mono ?_; rintro e w4 ⟨rfl, rfl⟩)
      | fail)
    go_loopw [14] (fun bv wr => ∃ i : Nat, bv = .int .i64 (i : Int) ∧ i ≤ dx + Y.length ∧ Fr Non w3 wr) (fun bv _ => dx + Y.length - (intOf bv).toNat)
    case atStart => exact ⟨0, rfl, by omega, Fr.refl _ _⟩
    case round =>
      obtain ⟨i, rfl, hi, hF⟩ := hrel
      have HF := Lib.hid hF
      by_cases hlt : i < dx + Y.length
      · have hltb : decide (i < dx + Y.length) = true := by simp; omega
        have f0 : Fr Non w3 (wr.alloc (.cells #[.int .i64 0, .string ⟨#[]⟩, .int .i64 0, .int .i64 0] 36)) := hF.alloc _
        by_cases hid : i < dx
        · have hib : decide (i < dx) = true := by simp; omega
          obtain ⟨t, e1, e2⟩ := HX.out i hid
          obtain ⟨a1, rfl, x1⟩ := (HX3.out.non f0).at_ i t e1
          obtain ⟨a3, rfl, z1⟩ := (HZ3.out.non (hF.alloc (.cells #[.int .i64 t.kind, .string ⟨t.txt.toArray⟩, .int .i64 t.num, .int .i64 t.at_] 36))).at_ i t e2
          obtain ⟨p0, p1, p2, p3⟩ := tk_lit x1
          obtain ⟨r0, r1, r2, r3⟩ := tk_lit z1
          obtain ⟨g0, g1, g2, g3, k0, k1, k2, k3⟩ := (tkW_new wr t).facts
          have hneq := fun W => run_neq_tk W t
          have hi1 : i < dx + 1 := by omega
          have hi2 : (i : Int) < (dx : Int) + 1 := by omega
          clear e1 e2 x1 z1 f0 hF hid
          go_wp2_with fail
          go_quiet (fail)
          go_wp2
          go_roundw
          case rel => exact ⟨i + 1, by push_cast; rfl, by omega, (HF.out.alloc _).drewN _⟩
          case measure => simp [intOf]; omega
        · have hib : decide (i < dx) = false := by simp; omega
          obtain ⟨j, rfl⟩ : ∃ j, i = dx + j := ⟨i - dx, by omega⟩
          obtain ⟨t, e1, e2⟩ := HY.out j (by omega)
          obtain ⟨ta1, ta2⟩ := HT.out t (List.mem_of_getElem? e1)
          obtain ⟨a2, rfl, x1⟩ := (HY3.out.non f0).at_ j t e1
          obtain ⟨a3, rfl, z1⟩ := (HZ3.out.non (hF.alloc (.cells #[.int .i64 t.kind, .string ⟨t.txt.toArray⟩, .int .i64 t.num, .int .i64 (t.at_ + (a.length : Int) + 1)] 36))).at_ (dx + j) _ e2
          obtain ⟨p0, p1, p2, p3⟩ := tk_lit x1
          obtain ⟨r0, r1, r2, r3⟩ := tk_lit z1
          dsimp only [shT] at r0 r1 r2 r3
          rw [show t.at_ + ((a.length + 1 : Nat) : Int) = t.at_ + (a.length : Int) + 1 by omega] at r3
          obtain ⟨g0, g1, g2, g3, k0, k1, k2, k3⟩ := (tkW_new wr t).facts
          obtain ⟨m0, m1, m2, m3, l0, l1, l2, l3⟩ := (tkW_new wr ⟨t.kind, t.txt, t.num, t.at_ + (a.length : Int) + 1⟩).facts
          have hneq := fun W => run_neq_tk W ⟨t.kind, t.txt, t.num, t.at_ + (a.length : Int) + 1⟩
          dsimp only at m0 m1 m2 m3 hneq
          have hj : j < Y.length := by omega
          clear e1 e2 x1 z1 f0 hF hid
          have hidx : (dx : Int) + (j : Int) - ((dx : Int) + 1) + 1 = (j : Int) := by omega
          go_wp2_with fail
          go_quiet (fail)
          go_wp2
          go_roundw
          case rel => exact ⟨dx + j + 1, by push_cast; rfl, by omega, (HF.out.alloc _).drewN _⟩
          case measure => simp [intOf]; omega
      · have hltb : decide (i < dx + Y.length) = false := by simp; omega
        clear hF
        go_wp2_with fail
        refine (HV.out _ (HL.out.non (HF3.out.trans HF.out))).mono ?_
        rintro e w9 ⟨rfl, hf9⟩
        have HF9 := Lib.hid ((HF3.out.trans HF.out).trans hf9)
        clear hf9
        go_wp2
        go_ret
        exact ⟨rfl, HF9.out.below⟩
end Go.Proofs.YtpapgfjainllpaaDoor


namespace Go.Proofs.YtpapgfjainllpaaDoor
set_option linter.unusedVariables false
set_option linter.unusedSimpArgs false
set_option maxRecDepth 100000
open Go.ChangeShapes Go.WideShapes Go.ChangeAt Go.RowKit

/-- a call's contract, by what the row says and by what the world's shape says -/
theorem handed_shaped {H : Type} {enc : TypeId × Value → H} {a : Assume} {C : Checked} {os : Os} {f : FuncId} {fn : Func} {s : ChangeSpec} {conds : List PathCond} {apart fresh handsOn again : Bool} {X : World → Array Value → Prop}
    (hX : ∀ (w w' : World) (args : Array Value), w.heap = w'.heap → X w args → X w' args)
    (own : ownKnob C.prog.godebug = none) (started : os.Started) (noInit : C.prog.inits.idxOf? f = none) (hfn : C.prog.funcs[f]? = some fn)
    (witness : ∃ (w : World) (tape : Tape) (i : Input), w.os = os ∧ (w.forCall tape i).Shaped C.prog ∧ i.vars = [] ∧ Input.okWide C.prog (w.forCall tape i) .any w.heap.size f i ∧
      ((s.pre enc C.prog fn conds apart (w.forCall tape i).memory i.args ∧ X (w.forCall tape i).memory i.args) ∧ sizedMet enc C.prog fn (OpenSpec.ofChange s) apart (w.forCall tape i).memory i.args) ∧ a.holds C.prog (lone (Frame.enter C.prog f i.args .normal) [] (w.forCall tape i)))
    (contract : ∀ (W : World) (base : Nat) (args : Array Value) (ds gs : List (DataW H)) (before : List MemPlace),
      (∀ (j : Nat) t v, fn.params[j]? = some t → args[j]? = some v → Value.okWide C.prog W .any base t v) →
      DataW.Whole enc C.prog fn.params.toList s.vars apart W args.toList ds gs before → W.ShapedOpen C.prog → X W args →
      Calls C.prog f args W fun e W' => ∃ v, e = .returned v ∧ s.post enc C.prog fn apart fresh handsOn again W args v W') :
    ReturnsInHanded a C os f .any (fun w args => (s.pre enc C.prog fn conds apart w args ∧ X w args) ∧ sizedMet enc C.prog fn (OpenSpec.ofChange s) apart w args) (s.post enc C.prog fn apart fresh handsOn again) := by
  refine returnsInHanded_of_calls own started noInit witness ?_
  intro w tape i _ hsh _ hok hpre hholds
  obtain ⟨_, _, _, fn', hfn', _, _, _, _, hval⟩ := hok
  obtain rfl : fn' = fn := Option.some.inj (hfn'.symm.trans hfn)
  obtain ⟨⟨⟨ds, gs, before, hw, _⟩, hx⟩, _⟩ := hpre
  refine (contract (w.forCall tape i) w.heap.size i.args ds gs before hval (DataW.Whole.of_heap (w' := w.forCall tape i) (by rfl) hw) hsh (hX _ _ _ (by rfl) hx)).mono fun e W' ⟨v, he, hp⟩ => ?_
  subst he
  exact ChangeSpec.post_blind hp

/-- the list of the rows of this layer -/
abbrev laid16 : List (String × DataW Unit) := [("math/bits.deBruijn32tab", Rows.laid_math_bits_deBruijn32tab), ("math/bits.deBruijn64tab", Rows.laid_math_bits_deBruijn64tab), ("internal/strconv.uint64pow10", Rows.laid_internal_strconv_uint64pow10), ("unicode/utf8.acceptRanges", Rows.laid_unicode_utf8_acceptRanges), ("strconv.ErrRange", Rows.laid_strconv_ErrRange), ("strconv.ErrSyntax", Rows.laid_strconv_ErrSyntax), ("firkin/word.marks", Rows.laid_firkin_word_marks), ("unicode/utf8.first", Rows.laid_unicode_utf8_first)]
theorem err_row (u : TypeId) (h : Tryd.prog.typeName? 3 u = some "*errors.errorString") : u = 114 :=
  typeName_ptr_named (nm := "errors.errorString") (by rw [show "*" ++ "errors.errorString" = "*errors.errorString" by decide]; kernel_rfl) (by kernel_rfl) (by decide) u (by rw [show "*" ++ "errors.errorString" = "*errors.errorString" by decide]; exact h)
theorem pow_data : (Rows.laid_internal_strconv_uint64pow10 : DataW Unit) = Lib.tabData .u64 Lib.pow10Tab := by kernel_rfl
def marksD : List (DataW Unit) := marksL.map fun l => .lit (.string l)
theorem marks_data : (Rows.laid_firkin_word_marks : DataW Unit) = .agg marksD := by kernel_rfl
theorem marks_in {W : World} {r : List (String × DataW Unit)} (h : laidMet Tryd.prog (("firkin/word.marks", Rows.laid_firkin_word_marks) :: r) W) : ∀ j (h : j < marksL.length), W.cell? ⟨0, j, none⟩ = some (.string ⟨marksL[j].toArray⟩) := by
  intro j hj
  rw [marks_data] at h
  obtain ⟨ps, ⟨g, t, cs, fuel, p, q, hg, ht, hv, hd, _, _⟩, _, _⟩ := h
  obtain rfl := Option.some.inj ((show Tryd.prog.globalNamed "firkin/word.marks" = some 0 by kernel_rfl).symm.trans hg)
  obtain rfl := Option.some.inj ((show (Tryd.prog.globals[0]?).map (·.type) = some 63 by kernel_rfl).symm.trans ht)
  obtain ⟨xs, m, _, ex, _, hl, hel⟩ := DataW.trod_array Tryd.underlying63 hd
  have c9 : Tryd.prog.cellsOf 9 = 1 := by kernel_rfl
  have hj10 : j < 10 := hj
  have hE := hel j hj10
  rw [c9, Nat.mul_one, List.getElem?_eq_getElem (by omega)] at hE
  obtain ⟨s, e1, e2, _⟩ := DataW.trod_string Tryd.underlying9 hE
  have e3 : (xs.map (·.1)) = marksD := (DataW.agg.inj (Prod.mk.inj ex).1).symm
  have e4 : (xs.map (·.1))[j]? = marksD[j]? := by rw [e3]
  unfold marksD at e4
  obtain ⟨m', hm⟩ : ∃ m', marksL[j]? = some m' := ⟨_, List.getElem?_eq_getElem hj⟩
  rw [List.getElem?_map, List.getElem?_map, List.getElem?_eq_getElem (by omega : j < xs.length), hm, e2] at e4
  have hs : s.data.toList = m' := by simpa using e4
  rw [World.var?_cell hg hv j, (List.getElem?_eq_some_iff.1 hm).2, ← hs]
  have : cs.toList[j]? = some (.string s) := by
    have h0 : ((cs.toList.drop j).take 1)[0]? = some (.string s) := by rw [e1]; rfl
    simpa using h0
  simpa using this
theorem lw_in {W : World} (h : laidMetH Tryd.prog laid16 W) (hs : W.ShapedOpen Tryd.prog) : Lw W := by
  rw [MakeChecks.laidMetH_plain _ _ _ (by kernel_rfl)] at h
  have h2 := h.tail.tail
  have h5 := h2.tail.tail
  have h7 := h5.tail.tail
  refine ⟨marks_in h7, cell_of_shapedOpen_int hs (by decide +kernel) (t := 3) (zero := #[.int .i64 0]) (by kernel_rfl) rfl (by kernel_rfl) (by kernel_rfl) Tryd.underlying3, ?_, ?_, ?_⟩
  · exact Lib.tabIs_of_head (n := 20) (show Tryd.prog.globalNamed "internal/strconv.uint64pow10" = some 1 by kernel_rfl)
      (show (Tryd.prog.globals[1]?).map (·.type) = some 86 by kernel_rfl) Tryd.underlying86 Tryd.underlying48 (by kernel_rfl) (by kernel_rfl) (by rw [pow_data] at h2; exact h2)
  · obtain ⟨a, s, hv, _⟩ := laid_sentinel h5.tail (show Tryd.prog.globalNamed "strconv.ErrSyntax" = some 5 by kernel_rfl) (show (Tryd.prog.globals[5]?).map (·.type) = some 60 by kernel_rfl) Tryd.underlying60 err_row Tryd.underlying114 Tryd.underlying116 rfl rfl Tryd.underlying9 (by kernel_rfl) (by kernel_rfl)
    exact ⟨_, _, hv⟩
  · obtain ⟨a, s, hv, _⟩ := laid_sentinel h5 (show Tryd.prog.globalNamed "strconv.ErrRange" = some 6 by kernel_rfl) (show (Tryd.prog.globals[6]?).map (·.type) = some 60 by kernel_rfl) Tryd.underlying60 err_row Tryd.underlying114 Tryd.underlying116 rfl rfl Tryd.underlying9 (by kernel_rfl) (by kernel_rfl)
    exact ⟨_, _, hv⟩

/-! ### A world in which they lie so -/
theorem laid16_shaped (os : Os) : (World.laidAll Tryd.prog os laid16).Shaped Tryd.prog := World.shaped_of_ZipB (by kernel_rfl) (by kernel_rfl)
theorem laid16_met (os : Os) (args : Array Value) : laidMetH Tryd.prog laid16 ((World.laidAll Tryd.prog os laid16).forCall (fun _ _ => 0) ⟨#[], args, []⟩).memory := by
  rw [MakeChecks.laidMetH_plain _ _ _ (by kernel_rfl)]
  exact laidMet_laidAll _ (by kernel_rfl) (by kernel_rfl)
end Go.Proofs.YtpapgfjainllpaaDoor
