/-
  Layer 1, what is read: contracts of Source's Int, Below, Text, Take.
-/
import Derived.Test.YtkmgplgokhjmjaaVint5
namespace Go.Proofs.Ytkmgplgokhjmjaa
set_option linter.unusedVariables false
set_option linter.unusedSimpArgs false
set_option maxRecDepth 100000
open Go.RowKit

theorem fstN_lt (l : List UInt8) : fstN l < two64 := by
  cases hr : rd 0 0 l with
  | none => rw [(rest_none hr).2.2.1]; decide
  | some p => obtain ⟨n, r⟩ := p; rw [(rest_some hr).2.2.1]; exact rd_lt hr

/-- 'most' of a bound: the number, what is left, whether it failed -/
def mostOk (l : List UInt8) (m : Int) : Bool := decide (0 ≤ m ∧ (fstN l : Int) ≤ m)
def mostV (l : List UInt8) (m : Int) : Nat := if mostOk l m then fstN l else 0
def mostR (l : List UInt8) (m : Int) : List UInt8 := if mostOk l m then rest l else []
def mostB (l : List UInt8) (m : Int) : Bool := if mostOk l m then fell l else true
/-- 'cut' at a length -/
def cutOk (l : List UInt8) (n : Int) : Bool := decide (0 ≤ n ∧ n ≤ l.length)
def cutT (l : List UInt8) (n : Int) : List UInt8 := if cutOk l n then l.take n.toNat else []
def cutR (l : List UInt8) (n : Int) : List UInt8 := if cutOk l n then l.drop n.toNat else []
def cutB (l : List UInt8) (bad : Bool) (n : Int) : Bool := if cutOk l n then bad else true

theorem xor_swap (k : IntKind) (a b : Int) : bits .xor k a b = bits .xor k b a := by simp only [bits, BitVec.xor_comm]
theorem xor_none (x : Nat) (hx : x < 9223372036854775808) : bits .xor .i64 (x : Int) 0 = x := by
  show IntKind.i64.wrap ((BitVec.ofInt 64 (x : Int) ^^^ BitVec.ofInt 64 0).toNat : Int) = _
  have h2 : (BitVec.ofInt 64 (x : Int)).toNat = x := by
    rw [BitVec.ofInt_natCast, BitVec.toNat_ofNat]; exact Nat.mod_eq_of_lt (by omega)
  have h1 : (BitVec.ofInt 64 0).toNat = 0 := by decide
  rw [BitVec.toNat_xor, h1, h2, Nat.xor_zero]
  exact IntWalk.i64_in _ ⟨by omega, by omega⟩
theorem vunzig {n : Nat} (hn : n < two64) : bits BinOp.xor IntKind.i64 (wrap64 ((n : Int) / 2)) (wrap64 (-wrap64 (bits BinOp.and IntKind.u64 (n : Int) 1))) = unzig n := by
  unfold two64 at hn
  rw [Lib.u64_and1 _ (by omega) (by omega), IntWalk.wrap64_in _ ⟨by omega, by omega⟩, IntWalk.wrap64_in ((n : Int) % 2) ⟨by omega, by omega⟩, IntWalk.wrap64_in _ ⟨by omega, by omega⟩]
  unfold unzig
  by_cases h : n % 2 = 1
  · rw [if_pos h, show -((n : Int) % 2) = -1 by omega, xor_swap, show ((n : Int) / 2) = ((n / 2 : Nat) : Int) by omega, Lib.i64_not _ (by omega)]
  · rw [if_neg h, show -((n : Int) % 2) = 0 by omega, show ((n : Int) / 2) = ((n / 2 : Nat) : Int) by omega, xor_none _ (by omega)]

theorem sint_any (g : Nat) (l : List UInt8) (bad : Bool) (w : World) (h : Src w g l bad) :
    Calls Try.prog 50 #[ptr g] w fun e w' => e = .returned (.int .i64 (unzig (fstN l))) ∧ Src w' g (rest l) (fell l) ∧ Fr (One g) w w' := by
  have h0 := num_any g l bad w h
  have Hl := Lib.hid (fstN_lt l)
  clear h
  go_enter Try.func50, Try.ntmps50
  go_wp2_with fail
  refine h0.mono ?_
  rintro e w' ⟨rfl, hs, hf⟩
  have e1 := vunzig Hl.out
  go_wp2
  go_ret
  exact ⟨rfl, hs, hf⟩

set_option maxHeartbeats 400000 in
theorem most_any (g : Nat) (l : List UInt8) (bad : Bool) (m : Int) (w : World) (h : Src w g l bad) (hm : m ≤ 9223372036854775807) :
    Calls Try.prog 55 #[ptr g, .int .i64 m] w fun e w' => e = .returned (.int .i64 (mostV l m)) ∧ Src w' g (mostR l m) (mostB l m) ∧ Fr (One g) w w' := by
  have h0 := num_any g l bad w h
  have Hl := Lib.hid (fstN_lt l)
  clear h
  by_cases hneg : m < 0
  · have HV : Hid (mostV l m = 0 ∧ mostR l m = [] ∧ mostB l m = true) := by
      unfold mostV mostR mostB mostOk
      rw [decide_eq_false (by omega)]; exact ⟨rfl, rfl, rfl⟩
    go_enter Try.func55, Try.ntmps55
    go_wp2_with fail
    refine h0.mono ?_
    rintro e w' ⟨rfl, hs, hf⟩
    generalize fstN l = n at *
    go_wp2_with fail
    refine (fail_any g _ _ _ hs).mono ?_
    rintro e w2 ⟨rfl, hs2, hf2⟩
    go_wp2
    go_ret
    rw [HV.out.1, HV.out.2.1, HV.out.2.2]
    exact ⟨rfl, hs2, hf.trans hf2⟩
  · have hwr : IntKind.u64.wrap m = m := IntWalk.u64_in _ ⟨by omega, by omega⟩
    by_cases hle : (fstN l : Int) ≤ m
    · have HV : Hid (mostV l m = fstN l ∧ mostR l m = rest l ∧ mostB l m = fell l) := by
        unfold mostV mostR mostB mostOk
        rw [decide_eq_true ⟨by omega, hle⟩]; exact ⟨rfl, rfl, rfl⟩
      have hwi : IntKind.i64.wrap (fstN l) = fstN l := IntWalk.i64_in _ ⟨by omega, by omega⟩
      clear hm
      generalize fstN l = n at *
      go_enter Try.func55, Try.ntmps55
      go_wp2_with fail
      refine h0.mono ?_
      rintro e w' ⟨rfl, hs, hf⟩
      go_wp2
      go_ret
      rw [HV.out.1, HV.out.2.1, HV.out.2.2]
      exact ⟨rfl, hs, hf⟩
    · have HV : Hid (mostV l m = 0 ∧ mostR l m = [] ∧ mostB l m = true) := by
        unfold mostV mostR mostB mostOk
        rw [decide_eq_false (by omega)]; exact ⟨rfl, rfl, rfl⟩
      clear hm
      generalize fstN l = n at *
      go_enter Try.func55, Try.ntmps55
      go_wp2_with fail
      refine h0.mono ?_
      rintro e w' ⟨rfl, hs, hf⟩
      go_wp2_with fail
      refine (fail_any g _ _ _ hs).mono ?_
      rintro e w2 ⟨rfl, hs2, hf2⟩
      go_wp2
      go_ret
      rw [HV.out.1, HV.out.2.1, HV.out.2.2]
      exact ⟨rfl, hs2, hf.trans hf2⟩

theorem below_any (g : Nat) (l : List UInt8) (bad : Bool) (n : Int) (w : World) (h : Src w g l bad) (hn : n ≤ 9223372036854775807) :
    Calls Try.prog 49 #[ptr g, .int .i64 n] w fun e w' => e = .returned (.int .i64 (mostV l (n - 1))) ∧ Src w' g (mostR l (n - 1)) (mostB l (n - 1)) ∧ Fr (One g) w w' := by
  by_cases hneg : n ≤ 0
  · have HV : Hid (mostV l (n - 1) = 0 ∧ mostR l (n - 1) = [] ∧ mostB l (n - 1) = true) := by
      unfold mostV mostR mostB mostOk
      rw [decide_eq_false (by omega)]; exact ⟨rfl, rfl, rfl⟩
    have h0 := fail_any g l bad w h
    clear hn
    go_enter Try.func49, Try.ntmps49
    go_wp2_with fail
    refine h0.mono ?_
    rintro e w2 ⟨rfl, hs2, hf2⟩
    go_wp2
    go_ret
    rw [HV.out.1, HV.out.2.1, HV.out.2.2]
    exact ⟨rfl, hs2, hf2⟩
  · have h0 := most_any g l bad (n - 1) w h (by omega)
    have hw : IntKind.i64.wrap (n - 1) = n - 1 := IntWalk.i64_in _ ⟨by omega, by omega⟩
    go_enter Try.func49, Try.ntmps49
    go_wp2_with fail
    refine h0.mono ?_
    rintro e w2 ⟨rfl, hs2, hf2⟩
    go_wp2
    go_ret
    exact ⟨rfl, hs2, hf2⟩

set_option maxHeartbeats 400000 in
theorem cut_any (g : Nat) (l : List UInt8) (bad : Bool) (n : Int) (w : World) (h : Src w g l bad) :
    Calls Try.prog 57 #[ptr g, .int .i64 n] w fun e w' => e = .returned (.string ⟨(cutT l n).toArray⟩) ∧ Src w' g (cutR l n) (cutB l bad n) ∧ Fr (One g) w w' := by
  have h1 := left_any g l bad w h
  have h2 := fail_any g l bad w h
  by_cases hneg : n < 0
  · have HV : Hid (cutT l n = [] ∧ cutR l n = [] ∧ cutB l bad n = true) := by
      unfold cutT cutR cutB cutOk
      rw [decide_eq_false (by omega)]; exact ⟨rfl, rfl, rfl⟩
    go_enter Try.func57, Try.ntmps57
    go_wp2_with fail
    refine h2.mono ?_
    rintro e w2 ⟨rfl, hs2, hf2⟩
    go_wp2_with fail
    refine (ok_any g [] true w2 hs2).mono ?_
    rintro e w3 ⟨rfl, rfl⟩
    go_wp2
    go_ret
    rw [HV.out.1, HV.out.2.1, HV.out.2.2]
    exact ⟨rfl, hs2, hf2⟩
  · by_cases hbig : (l.length : Int) < n
    · have HV : Hid (cutT l n = [] ∧ cutR l n = [] ∧ cutB l bad n = true) := by
        unfold cutT cutR cutB cutOk
        rw [decide_eq_false (by omega)]; exact ⟨rfl, rfl, rfl⟩
      go_enter Try.func57, Try.ntmps57
      go_wp2_with fail
      refine h1.mono ?_
      rintro e w1 ⟨rfl, rfl⟩
      go_wp2_with fail
      refine h2.mono ?_
      rintro e w2 ⟨rfl, hs2, hf2⟩
      go_wp2_with fail
      refine (ok_any g [] true w2 hs2).mono ?_
      rintro e w3 ⟨rfl, rfl⟩
      go_wp2
      go_ret
      rw [HV.out.1, HV.out.2.1, HV.out.2.2]
      exact ⟨rfl, hs2, hf2⟩
    · obtain ⟨k, rfl⟩ := Int.eq_ofNat_of_zero_le (show 0 ≤ n by omega)
      have hk : k ≤ l.length := by omega
      have HV : Hid (cutT l k = l.take k ∧ cutR l k = l.drop k ∧ cutB l bad k = bad) := by
        unfold cutT cutR cutB cutOk
        rw [decide_eq_true (by omega)]; exact ⟨rfl, rfl, rfl⟩
      have h0 := ok_any g l bad w h
      have hc0 := h.1.cell 0
      have hf0 := h.1.frozen 0
      simp at hc0
      have HB := Lib.hid h
      have hs : ByteArray.size ⟨l.toArray⟩ = l.length := by simp [ByteArray.size]
      have hsl := slice_from l k hk
      have hst := slice_to l k
      clear h h2
      cases bad
      · go_enter Try.func57, Try.ntmps57
        go_wp2_with fail
        refine h1.mono ?_
        rintro e w1 ⟨rfl, rfl⟩
        go_wp2_with fail
        refine h0.mono ?_
        rintro e w1 ⟨rfl, rfl⟩
        go_wp2
        go_ret
        rw [HV.out.1, HV.out.2.1, HV.out.2.2]
        exact ⟨rfl, ⟨HB.out.1.set 0 _, fun h => by cases h⟩, (Fr.refl _ _).set1 _ _⟩
      · go_enter Try.func57, Try.ntmps57
        go_wp2_with fail
        refine h1.mono ?_
        rintro e w1 ⟨rfl, rfl⟩
        go_wp2_with fail
        refine h0.mono ?_
        rintro e w1 ⟨rfl, rfl⟩
        go_wp2
        go_ret
        rw [HV.out.1, HV.out.2.1, HV.out.2.2]
        obtain rfl : l = [] := HB.out.2 rfl
        simp only [List.take_nil, List.drop_nil]
        exact ⟨rfl, HB.out, Fr.refl _ _⟩

/-- 'Text' up to a length -/
def txtT (l : List UInt8) (m : Int) : List UInt8 := cutT (mostR l m) (mostV l m)
def txtR (l : List UInt8) (m : Int) : List UInt8 := cutR (mostR l m) (mostV l m)
def txtB (l : List UInt8) (m : Int) : Bool := cutB (mostR l m) (mostB l m) (mostV l m)

theorem stext_any (g : Nat) (l : List UInt8) (bad : Bool) (m : Int) (w : World) (h : Src w g l bad) (hm : m ≤ 9223372036854775807) :
    Calls Try.prog 51 #[ptr g, .int .i64 m] w fun e w' => e = .returned (.string ⟨(txtT l m).toArray⟩) ∧ Src w' g (txtR l m) (txtB l m) ∧ Fr (One g) w w' := by
  have h0 := most_any g l bad m w h hm
  clear h hm
  go_enter Try.func51, Try.ntmps51
  go_wp2_with fail
  refine h0.mono ?_
  rintro e w1 ⟨rfl, hs1, hf1⟩
  go_wp2_with fail
  refine (cut_any g _ _ _ _ hs1).mono ?_
  rintro e w2 ⟨rfl, hs2, hf2⟩
  go_wp2
  go_ret
  exact ⟨rfl, hs2, hf1.trans hf2⟩

end Go.Proofs.Ytkmgplgokhjmjaa
