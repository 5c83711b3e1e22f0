/-
  Layer 1, what is read: the contract of the document's own source's Text; what the page's examples come to.
-/
import Derived.Test.YtaamohkmfhoikaaVint8
namespace Go.Proofs.Ytaamohkmfhoikaa
set_option linter.unusedVariables false
set_option linter.unusedSimpArgs false
open Go.RowKit

set_option maxHeartbeats 1000000 in
theorem rstext_any (g : Nat) (S : Nat → Prop) (l : List UInt8) (bad : Bool) (m : Int) (w : World) (h : SAt w g S l bad) (hl : l.length < 1000000000) (hm : m ≤ 9223372036854775807) :
    Calls Try.prog 23 #[ptr g, .int .i64 m] w fun e w' => e = .returned (.string ⟨(txtT l m).toArray⟩) ∧ SAt w' g S (txtR l m) (txtB l m) ∧ Fr (One g) w w' := by
  have hfail := rfail_any g S l bad w h
  have h0 := rsnum_any g S l bad w h hl
  have Hl := Lib.hid (fstN_lt l)
  clear h
  by_cases hneg : m < 0
  · have HV : Hid (txtT l m = [] ∧ txtR l m = [] ∧ txtB l m = true) := by
      have hk : mostOk l m = false := decide_eq_false (by omega)
      unfold txtT txtR txtB mostV mostR mostB
      rw [hk]; exact ⟨rfl, rfl, rfl⟩
    clear hm
    go_enter Try.func23, Try.ntmps23
    go_wp2_with fail
    refine hfail.mono ?_
    rintro e w2 ⟨rfl, hs2, hf2⟩
    go_wp2
    go_ret
    rw [HV.out.1, HV.out.2.1, HV.out.2.2]
    exact ⟨rfl, hs2, hf2⟩
  · have hwr : IntKind.u64.wrap m = m := IntWalk.u64_in _ ⟨by omega, by omega⟩
    cases hf : fell l with
    | true =>
      have HV : Hid (txtT l m = [] ∧ txtR l m = [] ∧ txtB l m = true) := by
        have hz := fell_zero hf
        have hk : mostOk l m = true := decide_eq_true (by rw [hz.1]; omega)
        unfold txtT txtR txtB mostV mostR mostB
        rw [hk]; simp only [if_true, hz.1, hz.2, hf]; exact ⟨rfl, rfl, rfl⟩
      rw [hf] at h0
      clear hm hf
      go_enter Try.func23, Try.ntmps23
      go_wp2_with fail
      refine h0.mono ?_
      rintro e w1 ⟨rfl, hs1, hf1⟩
      obtain ⟨A, c, c0, c1, f0, _⟩ := hs1.cells
      go_wp2_with fail
      refine (rfail_any g S _ _ _ hs1).mono ?_
      rintro e w2 ⟨rfl, hs2, hf2⟩
      go_wp2
      go_ret
      rw [HV.out.1, HV.out.2.1, HV.out.2.2]
      exact ⟨rfl, hs2, hf1.trans hf2⟩
    | false =>
      rw [hf] at h0
      by_cases hle : (fstN l : Int) ≤ m
      · have hk : mostOk l m = true := decide_eq_true ⟨by omega, hle⟩
        have hw2 : IntKind.u64.wrap ((rest l).length : Int) = (rest l).length := IntWalk.u64_in _ ⟨by omega, by have := rest_le l; omega⟩
        by_cases hfit : fstN l ≤ (rest l).length
        · have hwi : IntKind.i64.wrap (fstN l) = fstN l := IntWalk.i64_in _ ⟨by omega, by omega⟩
          have HV : Hid (txtT l m = cutT (rest l) (fstN l) ∧ txtR l m = cutR (rest l) (fstN l) ∧ txtB l m = cutB (rest l) false (fstN l)) := by
            unfold txtT txtR txtB mostV mostR mostB
            rw [hk]; simp only [if_true, hf]; exact ⟨trivial, trivial, trivial⟩
          have hrl := rest_le l
          clear hm hf hk
          go_enter Try.func23, Try.ntmps23
          go_wp2_with fail
          refine h0.mono ?_
          rintro e w1 ⟨rfl, hs1, hf1⟩
          obtain ⟨A, c, c0, c1, f0, _⟩ := hs1.cells
          go_wp2_with fail
          refine (rtake_any g S _ _ _ _ hs1 (by omega)).mono ?_
          rintro e w2 ⟨v, rfl, hbs2, hnew2, hs2, hf2⟩
          have cv := run_conv_Bs hbs2 25 9 5 Try.underlying25 Try.underlying5 Try.underlying9
          go_wp2
          go_ret
          rw [HV.out.1, HV.out.2.1, HV.out.2.2]
          exact ⟨rfl, hs2, hf1.trans hf2⟩
        · have HV : Hid (txtT l m = [] ∧ txtR l m = [] ∧ txtB l m = true) := by
            have hc : cutOk (rest l) (fstN l) = false := decide_eq_false (by omega)
            unfold txtT txtR txtB mostV mostR mostB
            rw [hk]; simp only [if_true]
            unfold cutT cutR cutB
            rw [hc]; exact ⟨rfl, rfl, rfl⟩
          clear hm hf hk
          go_enter Try.func23, Try.ntmps23
          go_wp2_with fail
          refine h0.mono ?_
          rintro e w1 ⟨rfl, hs1, hf1⟩
          obtain ⟨A, c, c0, c1, f0, _⟩ := hs1.cells
          go_wp2_with fail
          refine (rfail_any g S _ _ _ hs1).mono ?_
          rintro e w2 ⟨rfl, hs2, hf2⟩
          go_wp2
          go_ret
          rw [HV.out.1, HV.out.2.1, HV.out.2.2]
          exact ⟨rfl, hs2, hf1.trans hf2⟩
      · have HV : Hid (txtT l m = [] ∧ txtR l m = [] ∧ txtB l m = true) := by
          have hk : mostOk l m = false := decide_eq_false (by omega)
          unfold txtT txtR txtB mostV mostR mostB
          rw [hk]; exact ⟨rfl, rfl, rfl⟩
        clear hm hf
        go_enter Try.func23, Try.ntmps23
        go_wp2_with fail
        refine h0.mono ?_
        rintro e w1 ⟨rfl, hs1, hf1⟩
        obtain ⟨A, c, c0, c1, f0, _⟩ := hs1.cells
        go_wp2_with fail
        refine (rfail_any g S _ _ _ hs1).mono ?_
        rintro e w2 ⟨rfl, hs2, hf2⟩
        go_wp2
        go_ret
        rw [HV.out.1, HV.out.2.1, HV.out.2.2]
        exact ⟨rfl, hs2, hf1.trans hf2⟩

theorem uv300 : Lib.uvarint 300 = [172, 2] := by
  rw [Lib.uvarint_big (by omega), Lib.uvarint_small (by omega)]; rfl
theorem uv1 : Lib.uvarint (zig (-1)) = [1] := by
  rw [show zig (-1) = 1 by rfl, Lib.uvarint_small (by omega)]; rfl
theorem rd800 : rd 0 0 [128, 0] = none := by decide

theorem bs_row (w : World) (l : List UInt8) : Bs (w.alloc (.cells (l.map bv).toArray 5)) (.slice (some ⟨w.heap.size, 0, none⟩) l.length l.length) l := by
  refine ⟨_, _, rfl, Nat.le_refl _, (fun h => by cases h), fun a ha j hj => ?_⟩
  cases ha
  rw [Addr.add_lit, Nat.zero_add, (Blk.new w 5 (l.map bv).toArray).cell j]
  simp [hj]

set_option maxHeartbeats 1000000 in
theorem live_any (w : World) :
    Calls Try.prog 7 #[] w fun e w' => e = .returned (.bool true) ∧ Fr Non w w' := by
  have b1 := fun w => bs_row w [128, 0]
  have b2 := fun w => bs_row w [172, 2]
  have b3 := fun w => bs_row w [1]
  simp only [List.map_cons, List.map_nil, List.length_cons, List.length_nil, bv] at b1 b2 b3
  have B1 := Lib.hid b1
  have B2 := Lib.hid b2
  have B3 := Lib.hid b3
  clear b1 b2 b3
  go_enter Try.func7, Try.ntmps7
  go_wp2_with fail
  refine (from_any _ _ _ (B1.out w)).mono ?_
  rintro e w1 ⟨rfl, hs1, hf1⟩
  go_wp2_with fail
  refine (vnum_any 300 w1 (by decide)).mono ?_
  rintro e w2 ⟨v2, rfl, hown2, hf2⟩
  go_wp2_with fail
  refine (same_any _ _ _ _ _ (hown2.bs.non ((Fr.refl _ _).alloc _)) (B2.out w2)).mono ?_
  rintro e w3 ⟨rfl, rfl⟩
  have s1 : (Lib.uvarint 300 == [172, 2]) = true := by rw [uv300]; rfl
  have f2 := (hf2.alloc (Obj.cells #[Value.int IntKind.u8 172, Value.int IntKind.u8 2] 5))
  go_wp2_with fail
  refine (vint_any (-1) _ (by omega) (by omega)).mono ?_
  rintro e w4 ⟨v4, rfl, hown4, hf4⟩
  go_wp2_with fail
  refine (same_any _ _ _ _ _ (hown4.bs.non ((Fr.refl _ _).alloc _)) (B3.out w4)).mono ?_
  rintro e w5 ⟨rfl, rfl⟩
  have s2 : (Lib.uvarint (zig (-1)) == [1]) = true := by rw [uv1]; rfl
  have f4 := (hf4.alloc (Obj.cells #[Value.int IntKind.u8 1] 5))
  have fa := f2.trans f4
  have hsz : (w.alloc (Obj.cells #[Value.int IntKind.u8 ((128 : UInt8).toNat : Int), Value.int IntKind.u8 ((0 : UInt8).toNat : Int)] 5)).heap.size = w.heap.size + 1 := by simp
  have hsa := hs1.fr fa (fun e => e)
  have hsb := hsa
  rw [hsz] at hsb
  have HSZ := Lib.hid hsz; clear hsz
  go_wp2_with fail
  refine (num_any _ _ _ _ hsb).mono ?_
  rintro e w6 ⟨rfl, hs6, hf6⟩
  have s3 : fstN [128, 0] = 0 := (rest_none rd800).2.2.1
  go_wp2_with fail
  refine (ok_any _ _ _ _ hs6).mono ?_
  rintro e w7 ⟨rfl, rfl⟩
  have s4 : fell [128, 0] = true := (rest_none rd800).2.1
  go_wp2
  go_ret
  refine ⟨rfl, ?_⟩
  exact ((((Fr.refl Non w).alloc _).then hf1).trans fa).fresh hf6 (fun k hk => by rw [show k = _ from hk]; omega)

end Go.Proofs.Ytaamohkmfhoikaa
