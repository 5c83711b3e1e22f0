/-
  Layer 1, what is read: the contract of the document's own source's Text; what the page's examples come to.
-/
import Derived.Test.YtkmgplgokhjmjaaVint8
namespace Go.Proofs.Ytkmgplgokhjmjaa
set_option linter.unusedVariables false
set_option linter.unusedSimpArgs false
set_option maxRecDepth 100000
open Go.RowKit

set_option maxHeartbeats 1000000 in
theorem rstext_any (g : Nat) (S : Nat → Prop) (l : List UInt8) (bad : Bool) (m : Int) (w : World) (h : SAt w g S l bad) (hl : l.length < 1000000000) (hm : m ≤ 9223372036854775807) :
    Calls Try.prog 37 #[ptr g, .int .i64 m] w fun e w' => e = .returned (.string ⟨(txtT l m).toArray⟩) ∧ SAt w' g S (txtR l m) (txtB l m) ∧ Fr (One g) w w' := by
  have hfail := rfail_any g S l bad w h
  have h0 := rsnum_any g S l bad w h hl
  have Hl := Lib.hid (fstN_lt l)
  clear h
  by_cases hneg : m < 0
  · have HV : Hid (txtT l m = [] ∧ txtR l m = [] ∧ txtB l m = true) := by
      have hk : mostOk l m = false := decide_eq_false (by omega)
      unfold txtT txtR txtB mostV mostR mostB
      rw [hk]; exact ⟨rfl, rfl, rfl⟩
    clear hm
    go_enter Try.func37, Try.ntmps37
    go_wp2_with fail
    refine hfail.mono ?_
    rintro e w2 ⟨rfl, hs2, hf2⟩
    go_wp2
    go_ret
    rw [HV.out.1, HV.out.2.1, HV.out.2.2]
    exact ⟨rfl, hs2, hf2⟩
  · have hwr : IntKind.u64.wrap m = m := IntWalk.u64_in _ ⟨by omega, by omega⟩
    cases hf : fell l with
    | true =>
      have HV : Hid (txtT l m = [] ∧ txtR l m = [] ∧ txtB l m = true) := by
        have hz := fell_zero hf
        have hk : mostOk l m = true := decide_eq_true (by rw [hz.1]; omega)
        unfold txtT txtR txtB mostV mostR mostB
        rw [hk]; simp only [if_true, hz.1, hz.2, hf]; exact ⟨rfl, rfl, rfl⟩
      rw [hf] at h0
      clear hm hf
      go_enter Try.func37, Try.ntmps37
      go_wp2_with fail
      refine h0.mono ?_
      rintro e w1 ⟨rfl, hs1, hf1⟩
      obtain ⟨A, c, c0, c1, f0, _⟩ := hs1.cells
      go_wp2_with fail
      refine (rfail_any g S _ _ _ hs1).mono ?_
      rintro e w2 ⟨rfl, hs2, hf2⟩
      go_wp2
      go_ret
      rw [HV.out.1, HV.out.2.1, HV.out.2.2]
      exact ⟨rfl, hs2, hf1.trans hf2⟩
    | false =>
      rw [hf] at h0
      by_cases hle : (fstN l : Int) ≤ m
      · have hk : mostOk l m = true := decide_eq_true ⟨by omega, hle⟩
        have hw2 : IntKind.u64.wrap ((rest l).length : Int) = (rest l).length := IntWalk.u64_in _ ⟨by omega, by have := rest_le l; omega⟩
        by_cases hfit : fstN l ≤ (rest l).length
        · have hwi : IntKind.i64.wrap (fstN l) = fstN l := IntWalk.i64_in _ ⟨by omega, by omega⟩
          have HV : Hid (txtT l m = cutT (rest l) (fstN l) ∧ txtR l m = cutR (rest l) (fstN l) ∧ txtB l m = cutB (rest l) false (fstN l)) := by
            unfold txtT txtR txtB mostV mostR mostB
            rw [hk]; simp only [if_true, hf]; exact ⟨trivial, trivial, trivial⟩
          have hrl := rest_le l
          clear hm hf hk
          go_enter Try.func37, Try.ntmps37
          go_wp2_with fail
          refine h0.mono ?_
          rintro e w1 ⟨rfl, hs1, hf1⟩
          obtain ⟨A, c, c0, c1, f0, _⟩ := hs1.cells
          go_wp2_with fail
          refine (rtake_any g S _ _ _ _ hs1 (by omega)).mono ?_
          rintro e w2 ⟨v, rfl, hbs2, hnew2, hs2, hf2⟩
          have cv := run_conv_Bs hbs2 30 9 5 Try.underlying30 Try.underlying5 Try.underlying9
          go_wp2
          go_ret
          rw [HV.out.1, HV.out.2.1, HV.out.2.2]
          exact ⟨rfl, hs2, hf1.trans hf2⟩
        · have HV : Hid (txtT l m = [] ∧ txtR l m = [] ∧ txtB l m = true) := by
            have hc : cutOk (rest l) (fstN l) = false := decide_eq_false (by omega)
            unfold txtT txtR txtB mostV mostR mostB
            rw [hk]; simp only [if_true]
            unfold cutT cutR cutB
            rw [hc]; exact ⟨rfl, rfl, rfl⟩
          clear hm hf hk
          go_enter Try.func37, Try.ntmps37
          go_wp2_with fail
          refine h0.mono ?_
          rintro e w1 ⟨rfl, hs1, hf1⟩
          obtain ⟨A, c, c0, c1, f0, _⟩ := hs1.cells
          go_wp2_with fail
          refine (rfail_any g S _ _ _ hs1).mono ?_
          rintro e w2 ⟨rfl, hs2, hf2⟩
          go_wp2
          go_ret
          rw [HV.out.1, HV.out.2.1, HV.out.2.2]
          exact ⟨rfl, hs2, hf1.trans hf2⟩
      · have HV : Hid (txtT l m = [] ∧ txtR l m = [] ∧ txtB l m = true) := by
          have hk : mostOk l m = false := decide_eq_false (by omega)
          unfold txtT txtR txtB mostV mostR mostB
          rw [hk]; exact ⟨rfl, rfl, rfl⟩
        clear hm hf
        go_enter Try.func37, Try.ntmps37
        go_wp2_with fail
        refine h0.mono ?_
        rintro e w1 ⟨rfl, hs1, hf1⟩
        obtain ⟨A, c, c0, c1, f0, _⟩ := hs1.cells
        go_wp2_with fail
        refine (rfail_any g S _ _ _ hs1).mono ?_
        rintro e w2 ⟨rfl, hs2, hf2⟩
        go_wp2
        go_ret
        rw [HV.out.1, HV.out.2.1, HV.out.2.2]
        exact ⟨rfl, hs2, hf1.trans hf2⟩

theorem uv300 : Lib.uvarint 300 = [172, 2] := by
  rw [Lib.uvarint_big (by omega), Lib.uvarint_small (by omega)]; rfl
theorem uv1 : Lib.uvarint (zig (-1)) = [1] := by
  rw [show zig (-1) = 1 by rfl, Lib.uvarint_small (by omega)]; rfl
theorem rd800 : rd 0 0 [128, 0] = none := by decide

end Go.Proofs.Ytkmgplgokhjmjaa
