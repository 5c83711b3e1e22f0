/-
  Layer 7: the walks of tight.size, slices.Min and slices.Max of int64s, bits.Len64, firkinref07.need.
-/
import Derived.Test.YtdniififoahlaaaSlc
import Derived.Test.YtdniififoahlaaaMathTight
import Derived.Test.YtdniififoahlaaaRuns1
import Derived.Lib.MinMax
namespace Go.Proofs.Ytdniififoahlaaa
set_option linter.unusedVariables false
set_option linter.unusedSimpArgs false
open Go.RowKit

theorem tsize_any (n k : Nat) (w : World) (hn : n ≤ 1000000) (hk : k ≤ 1000) :
    Calls Try.prog 49 #[.int .i64 n, .int .i64 k] w fun e w' => e = .returned (.int .i64 (need (n * k) : Nat)) ∧ w = w' := by
  have hm : n * k ≤ 1000000000 := by have := Nat.mul_le_mul hn hk; omega
  have hc : (n : Int) * k = ((n * k : Nat) : Int) := by push_cast; rfl
  have HN := Lib.hid (show need (n * k) = (n * k + 7) / 8 by rfl)
  generalize n * k = q at *
  have h1 : IntKind.i64.wrap ((n : Int) * k) = (q : Int) := by rw [hc]; exact IntWalk.i64_in _ ⟨by omega, by omega⟩
  go_enter Try.func49, Try.ntmps49
  go_wp2
  go_ret
  exact ⟨ret_int (by rw [HN.out]; omega), rfl⟩

set_option maxHeartbeats 1000000 in
theorem tmin_any (v : Value) (l : List Int) (w : World) (hv : Vs iv w v l) (h0 : 0 < l.length) (hl : l.length ≤ 9223372036854775807) :
    Calls Try.prog 46 #[v] w fun e w' => e = .returned (.int .i64 (leastOf l)) ∧ w = w' := by
  obtain ⟨A, c, rfl, hlc, hn, hcell⟩ := hv
  cases A with
  | none => have := hn rfl; omega
  | some a =>
    have HC := Lib.hid (hcell a rfl)
    have g0 : w.cell? a = some (.int .i64 l[0]) := by
      have := hcell a rfl 0 h0
      simpa [Addr.add, iv] using this
    have H1 := Lib.hid (loT_one l h0)
    have HS := Lib.hid (loT_succ l)
    have HA := Lib.hid (loT_all (l := l) (Nat.le_refl _))
    clear hcell hn
    go_enter Try.func46, Try.ntmps46
    go_wp2
    go_loopw [3, 4] (fun m i wr => ∃ k : Nat, 1 ≤ k ∧ k ≤ l.length ∧ i = .int .i64 k ∧ m = .int .i64 (loT l k) ∧ wr = w) (fun _ i _ => l.length - (intOf i).toNat)
    case atStart => exact ⟨1, Nat.le_refl _, h0, rfl, by rw [H1.out], rfl⟩
    case round =>
      obtain ⟨k, hk1, hk, rfl, rfl, rfl⟩ := hrel
      by_cases hlt : k < l.length
      · have g1 : wr.cell? (a.add k) = some (iv l[k]) := HC.out k hlt
        have hs := Lib.hid (HS.out k hlt)
        unfold iv at g1
        clear g0 H1
        generalize l[k] = x at *
        go_wp2
        go_roundw
        case rel => exact ⟨k + 1, by omega, by omega, by go_num, by rw [hs.out], trivial⟩
        case measure => simp [intOf]; omega
      · obtain rfl : k = l.length := by omega
        go_wp2
        go_ret
        exact ⟨ret_int HA.out, rfl⟩

set_option maxHeartbeats 1000000 in
theorem tmax_any (v : Value) (l : List Int) (w : World) (hv : Vs iv w v l) (h0 : 0 < l.length) (hl : l.length ≤ 9223372036854775807) :
    Calls Try.prog 48 #[v] w fun e w' => e = .returned (.int .i64 (greatOf l)) ∧ w = w' := by
  obtain ⟨A, c, rfl, hlc, hn, hcell⟩ := hv
  cases A with
  | none => have := hn rfl; omega
  | some a =>
    have HC := Lib.hid (hcell a rfl)
    have g0 : w.cell? a = some (.int .i64 l[0]) := by
      have := hcell a rfl 0 h0
      simpa [Addr.add, iv] using this
    have H1 := Lib.hid (hiT_one l h0)
    have HS := Lib.hid (hiT_succ l)
    have HA := Lib.hid (hiT_all (l := l) (Nat.le_refl _))
    clear hcell hn
    go_enter Try.func48, Try.ntmps48
    go_wp2
    go_loopw [3, 4] (fun m i wr => ∃ k : Nat, 1 ≤ k ∧ k ≤ l.length ∧ i = .int .i64 k ∧ m = .int .i64 (hiT l k) ∧ wr = w) (fun _ i _ => l.length - (intOf i).toNat)
    case atStart => exact ⟨1, Nat.le_refl _, h0, rfl, by rw [H1.out], rfl⟩
    case round =>
      obtain ⟨k, hk1, hk, rfl, rfl, rfl⟩ := hrel
      by_cases hlt : k < l.length
      · have g1 : wr.cell? (a.add k) = some (iv l[k]) := HC.out k hlt
        have hs := Lib.hid (HS.out k hlt)
        unfold iv at g1
        clear g0 H1
        generalize l[k] = x at *
        go_wp2
        go_roundw
        case rel => exact ⟨k + 1, by omega, by omega, by go_num, by rw [hs.out], trivial⟩
        case measure => simp [intOf]; omega
      · obtain rfl : k = l.length := by omega
        go_wp2
        go_ret
        exact ⟨ret_int HA.out, rfl⟩

set_option maxHeartbeats 1000000 in
theorem tneed_any (u : Nat) (w : World) (hu : u < 18446744073709551616) :
    Calls Try.prog 59 #[.int .u64 u] w fun e w' => e = .returned (.int .i64 (Lib.bitLen u : Nat)) ∧ w = w' := by
  have HB := Lib.hid (bitLen_le64 u hu)
  have HH := Lib.hid (fun x (h0 : x ≠ 0) (h : x < 18446744073709551616) => Lib.bitLen_half x h0 (by omega))
  go_enter Try.func59, Try.ntmps59
  go_wp2
  go_loopw [0, 3] (fun x i wr => ∃ y k : Nat, y < 18446744073709551616 ∧ x = .int .u64 y ∧ i = .int .i64 k ∧ Hid (k + Lib.bitLen y = Lib.bitLen u) ∧ k ≤ 64 ∧ wr = w) (fun x _ _ => (intOf x).toNat)
  case atStart => exact ⟨u, 0, hu, rfl, rfl, Lib.hid (by omega), by omega, rfl⟩
  case round =>
    obtain ⟨y, k, hy, rfl, rfl, HK, hk, rfl⟩ := hrel
    by_cases h0 : 0 < y
    · have HX := Lib.hid (HH.out y (by omega) hy)
      go_wp2
      go_roundw
      case rel => exact ⟨y / 2, k + 1, by omega, by go_num, by go_num, Lib.hid (by have := HK.out; have := HX.out; omega), by have := HK.out; have := HX.out; have := HB.out; omega, trivial⟩
      case measure => simp [intOf]; omega
    · obtain rfl : y = 0 := by omega
      go_wp2
      go_ret
      exact ⟨ret_int (by have := HK.out; rw [bitLen_zero] at this; omega), rfl⟩
end Go.Proofs.Ytdniififoahlaaa
