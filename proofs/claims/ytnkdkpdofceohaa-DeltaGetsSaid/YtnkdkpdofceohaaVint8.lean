/-
  Layer 1, what is read: contracts of the document's own source: Int, Below, Take, Text, End.
-/
import Derived.Test.YtnkdkpdofceohaaVint7
namespace Go.Proofs.Ytnkdkpdofceohaa
set_option linter.unusedVariables false
set_option linter.unusedSimpArgs false
open Go.RowKit

theorem fell_zero {l : List UInt8} (h : fell l = true) : fstN l = 0 ∧ rest l = [] := by
  cases hr : rd 0 0 l with
  | none => exact ⟨(rest_none hr).2.2.1, (rest_none hr).1⟩
  | some p => obtain ⟨n, r⟩ := p; rw [(rest_some hr).2.1] at h; cases h

theorem rest_le (l : List UInt8) : (rest l).length ≤ l.length := by
  cases hr : rd 0 0 l with
  | none => rw [(rest_none hr).1]; simp
  | some p => obtain ⟨n, r⟩ := p; rw [(rest_some hr).1]; exact Nat.le_of_lt (rd_len (by omega) hr)

theorem runzig_odd {n : Nat} (hn : n < two64) (h : n % 2 = 1) : wrap64 (wrap64 (-wrap64 ((n : Int) / 2)) - 1) = unzig n := by
  unfold two64 at hn
  rw [IntWalk.wrap64_in ((n : Int) / 2) ⟨by omega, by omega⟩, IntWalk.wrap64_in (-((n : Int) / 2)) ⟨by omega, by omega⟩, IntWalk.wrap64_in _ ⟨by omega, by omega⟩]
  unfold unzig; rw [if_pos h]; omega
theorem runzig_even {n : Nat} (hn : n < two64) (h : ¬ n % 2 = 1) : wrap64 ((n : Int) / 2) = unzig n := by
  unfold two64 at hn
  rw [IntWalk.wrap64_in ((n : Int) / 2) ⟨by omega, by omega⟩]
  unfold unzig; rw [if_neg h]; omega

theorem u64_div2 {m : Nat} (h : m < two64) : IntKind.u64.wrap ((m : Int) / 2) = (m : Int) / 2 := by
  unfold two64 at h
  exact IntWalk.u64_in _ ⟨by omega, by omega⟩

theorem rsint_any (g : Nat) (S : Nat → Prop) (l : List UInt8) (bad : Bool) (w : World) (h : SAt w g S l bad) (hl : l.length < 1000000000) :
    Calls Try.prog 20 #[ptr g] w fun e w' => e = .returned (.int .i64 (unzig (fstN l))) ∧ SAt w' g S (rest l) (fell l) ∧ Fr (One g) w w' := by
  have h0 := rsnum_any g S l bad w h hl
  have Hl := Lib.hid (fstN_lt l)
  have e0 := u64_div2 Hl.out
  clear h
  by_cases hp : fstN l % 2 = 1
  · have E1 := Lib.hid (runzig_odd Hl.out hp)
    have hp' : ((fstN l : Int) % 2 == 1) = true := by rw [beq_iff_eq]; omega
    clear hp
    go_enter Try.func20, Try.ntmps20
    go_wp2_with fail
    refine h0.mono ?_
    rintro e w' ⟨rfl, hs, hf⟩
    go_wp2
    go_ret
    exact ⟨congrArg (fun z => Ending.returned (.int .i64 z)) E1.out, hs, hf⟩
  · have E1 := Lib.hid (runzig_even Hl.out hp)
    have hp' : ((fstN l : Int) % 2 == 1) = false := by rw [beq_eq_false_iff_ne]; omega
    clear hp
    go_enter Try.func20, Try.ntmps20
    go_wp2_with fail
    refine h0.mono ?_
    rintro e w' ⟨rfl, hs, hf⟩
    go_wp2
    go_ret
    exact ⟨congrArg (fun z => Ending.returned (.int .i64 z)) E1.out, hs, hf⟩

theorem SAt.cells {w : World} {g : Nat} {S : Nat → Prop} {l : List UInt8} {bad : Bool} (h : SAt w g S l bad) :
    ∃ A c, w.cell? ⟨g, 0, none⟩ = some (.slice A l.length c) ∧ w.cell? ⟨g, 1, none⟩ = some (.bool bad) ∧ w.frozen? ⟨g, 0, none⟩ = false ∧ l.length ≤ c ∧
      Blk w g 41 #[.slice A l.length c, .bool bad] ∧ Bs w (.slice A l.length c) l ∧ (∀ k, (Value.slice A l.length c).ownBlock = some k → ¬ S k) ∧ S g := by
  obtain ⟨v, h1, h2, h3, h4, h5⟩ := h
  have hh := h2
  obtain ⟨A, c, rfl, hc, _, _⟩ := h2
  exact ⟨A, c, h1.cell 0, h1.cell 1, h1.frozen 0, hc, h1, hh, h3, h4⟩

end Go.Proofs.Ytnkdkpdofceohaa
