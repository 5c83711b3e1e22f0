/-
  Layer 2: the walks of crc.shift, crc.More, crc.Of, firkinref02.More, firkinref02.Of.
-/
import Derived.Test.YtfgbhnchchdlcaaDoorMathCrc
import Derived.Laws.BitsAllLaws
import Derived.LoopTactic
import Derived.IntWalk
namespace Go.Proofs.YtfgbhnchchdlcaaDoor
set_option linter.unusedVariables false
set_option linter.unusedSimpArgs false
open Go.RowKit

/-- the table of the program's lies where it was laid -/
def Tab (w : World) : Prop := ∀ i, i < 16 → w.cell? ⟨0, i, none⟩ = some (.int .u32 (half i))
theorem Tab.fr {S : Nat → Prop} {w w' : World} (h : Tab w) (hf : Fr S w w') (hn : ¬ S 0) : Tab w' := fun i hi => by
  have := h i hi
  rw [← this]
  exact hf.cell (p := ⟨_, i, none⟩) (World.block_lt_of_cell? w _ this) hn
theorem Tab.non {w w' : World} (h : Tab w) (hf : Fr Non w w') : Tab w' := h.fr hf fun e => e
theorem Tab.lt {w : World} (h : Tab w) : 0 < w.heap.size := World.block_lt_of_cell? w _ (h 0 (by decide))

theorem shift_any (s : Nat) (w : World) (hs : s < 4294967296) (ht : Tab w) :
    Calls Tryd.prog 40 #[.int .u32 s] w fun e w' => e = .returned (.int .u32 (st (st (st (st s))) : Nat)) ∧ w = w' := by
  have h1 := ht (s % 16) (Nat.mod_lt _ (by decide))
  have HX := Lib.hid (show bits .xor .u32 ((s / 16 : Nat) : Int) ((half (s % 16) : Nat) : Int) = ((st (st (st (st s))) : Nat) : Int) by rw [u32_xor_nat _ _ (by omega) (half_st _ (Nat.mod_lt _ (by decide))).2, st4_half])
  clear ht
  go_enter Tryd.func40, Tryd.ntmps40
  go_wp2
  go_ret
  exact ⟨ret_int HX.out, rfl⟩

theorem turn_l (s : Nat) (h : s < 4294967296) : bits .xor .u32 IntKind.u32.max (s : Int) = ((s ^^^ 4294967295 : Nat) : Int) := by
  have := u32_xor_nat 4294967295 s (by omega) h
  rw [Nat.xor_comm] at this
  exact this
theorem turn_r (s : Nat) (h : s < 4294967296) : bits .xor .u32 (s : Int) 4294967295 = ((s ^^^ 4294967295 : Nat) : Int) := u32_xor_nat s 4294967295 h (by omega)
theorem byte_in (s : Nat) (b : UInt8) (h : s < 4294967296) : bits .xor .u32 (s : Int) ((b.toNat : Int) % 4294967296) = ((s ^^^ b.toNat : Nat) : Int) := by
  have hb := u8_lt b
  rw [Int.emod_eq_of_lt (by omega) (by omega)]
  exact u32_xor_nat s b.toNat h (by omega)

set_option maxHeartbeats 400000 in
theorem more_any (s : Nat) (v : Value) (l : List UInt8) (w : World) (hs : s < 4294967296) (hv : Bs w v l) (ht : Tab w) (hl : l.length ≤ 9223372036854775807) :
    Calls Tryd.prog 35 #[.int .u32 s, v] w fun e w' => e = .returned (.int .u32 (sumOf s l : Nat)) ∧ w = w' := by
  have HB := Lib.hid hv
  obtain ⟨A, c, rfl, hlc, hn, hcell⟩ := hv
  have HC := Lib.hid hcell
  have HN := Lib.hid hn
  have HT := Lib.hid ht
  have HS := Lib.hid (turn_l s hs)
  have HL := Lib.hid (turn_lt hs)
  clear hcell hn ht hs
  go_enter Tryd.func35, Tryd.ntmps35
  go_wp2
  go_loop [5, 12] (fun x i => ∃ k : Nat, k ≤ l.length ∧ i = .int .i64 k ∧ x = .int .u32 (run (s ^^^ 4294967295) (l.take k) : Nat)) (fun _ i => l.length - (intOf i).toNat)
  case atStart => exact ⟨0, Nat.zero_le _, rfl, by rw [HS.out]; rfl⟩
  case round =>
    obtain ⟨k, hk, rfl, rfl⟩ := hrel
    by_cases hlt : k < l.length
    · cases A with
      | none => have := HN.out rfl; omega
      | some ad =>
        have hc1 : w.cell? (ad.add k) = some (.int .u8 (l[k].toNat : Int)) := HC.out ad rfl k hlt
        have hr := run_lt (l.take k) HL.out
        have HX := Lib.hid (byte_in _ l[k] hr)
        have HR := Lib.hid (show run (s ^^^ 4294967295) (l.take (k + 1)) = by1 (run (s ^^^ 4294967295) (l.take k)) l[k] by
          rw [List.take_succ_eq_append_getElem hlt, run_snoc])
        have HY := Lib.hid (xor8_lt hr l[k])
        clear hr
        go_wp2_with fail
        rw [HX.out]
        refine (shift_any _ w HY.out HT.out).mono ?_
        rintro e w1 ⟨rfl, rfl⟩
        go_wp2_with fail
        refine (shift_any _ w (st_lt (st_lt (st_lt (st_lt HY.out)))) HT.out).mono ?_
        rintro e w1 ⟨rfl, rfl⟩
        go_wp2_with fail
        go_round
        case rel => exact ⟨k + 1, by omega, by go_num, by rw [HR.out]; rfl⟩
        case measure => simp [intOf]; omega
    · have HE := Lib.hid (show l.take k = l by rw [List.take_of_length_le (by omega)])
      have HX := Lib.hid (turn_l _ (run_lt (l.take k) HL.out))
      go_wp2
      go_ret
      exact ⟨ret_int (by rw [HX.out, HE.out]; rfl), rfl⟩

def stI : Nat → Nat → Nat
  | 0, s => s
  | n + 1, s => st (stI n s)
theorem stI_lt {s : Nat} (h : s < 4294967296) : ∀ n, stI n s < 4294967296
  | 0 => h
  | n + 1 => st_lt (stI_lt h n)
theorem st_odd {q : Nat} (h : q < 4294967296) (ho : q % 2 = 1) : bits .xor .u32 ((q : Int) / 2) 2197175160 = ((st q : Nat) : Int) := by
  have e : (q : Int) / 2 = ((q / 2 : Nat) : Int) := by omega
  rw [e]
  unfold st; rw [if_pos ho]
  exact u32_xor_nat (q / 2) 2197175160 (by omega) (by omega)
theorem st_even {q : Nat} (ho : ¬ q % 2 = 1) : (q : Int) / 2 = ((st q : Nat) : Int) := by
  unfold st; rw [if_neg ho]; omega

set_option maxHeartbeats 1000000 in
theorem rmore_any (s : Nat) (v : Value) (l : List UInt8) (w : World) (hs : s < 4294967296) (hv : Bs w v l) (hl : l.length ≤ 9223372036854775807) :
    Calls Tryd.prog 31 #[.int .u32 s, v] w fun e w' => e = .returned (.int .u32 (sumOf s l : Nat)) ∧ w = w' := by
  have HB := Lib.hid hv
  obtain ⟨A, c, rfl, hlc, hn, hcell⟩ := hv
  have HC := Lib.hid hcell
  have HN := Lib.hid hn
  have HS := Lib.hid (turn_r s hs)
  have HL := Lib.hid (turn_lt hs)
  clear hcell hn hs
  go_enter Tryd.func31, Tryd.ntmps31
  go_wp2
  go_loop [5, 6] (fun x i => ∃ k : Nat, k ≤ l.length ∧ i = .int .i64 k ∧ x = .int .u32 (run (s ^^^ 4294967295) (l.take k) : Nat)) (fun _ i => l.length - (intOf i).toNat)
  case atStart => exact ⟨0, Nat.zero_le _, rfl, by rw [HS.out]; rfl⟩
  case round =>
    obtain ⟨k, hk, rfl, rfl⟩ := hrel
    by_cases hlt : k < l.length
    · cases A with
      | none => have := HN.out rfl; omega
      | some ad =>
        have hc1 : w.cell? (ad.add k) = some (.int .u8 (l[k].toNat : Int)) := HC.out ad rfl k hlt
        have hr := run_lt (l.take k) HL.out
        have HX := Lib.hid (byte_in _ l[k] hr)
        have HR := Lib.hid (show run (s ^^^ 4294967295) (l.take (k + 1)) = by1 (run (s ^^^ 4294967295) (l.take k)) l[k] by
          rw [List.take_succ_eq_append_getElem hlt, run_snoc])
        have HY := Lib.hid (xor8_lt hr l[k])
        clear hr
        go_wp2
        go_loop [5, 7] (fun x i => ∃ j : Nat, j ≤ 8 ∧ i = .int .i64 j ∧ x = .int .u32 (stI j (run (s ^^^ 4294967295) (l.take k) ^^^ l[k].toNat) : Nat)) (fun _ i => 8 - (intOf i).toNat)
        case atStart => exact ⟨0, Nat.zero_le _, rfl, by rw [HX.out]; rfl⟩
        case round =>
          obtain ⟨j, hj, rfl, rfl⟩ := hrel
          by_cases hjl : j < 8
          · have hq := stI_lt HY.out j
            generalize hQ : stI j (run (s ^^^ 4294967295) (l.take k) ^^^ l[k].toNat) = q at hq ⊢
            have HQ := Lib.hid hQ
            clear hQ
            by_cases ho : q % 2 = 1
            · have HO := Lib.hid (st_odd hq ho)
              have ht : (((q : Int) % 2) == 1) = true := by rw [beq_iff_eq]; omega
              clear ho
              go_wp2
              go_round
              case rel => exact ⟨j + 1, by omega, by go_num, by rw [HO.out, ← HQ.out]; rfl⟩
              case measure => simp [intOf]; omega
            · have HO := Lib.hid (st_even ho)
              have ht : (((q : Int) % 2) == 1) = false := by rw [beq_eq_false_iff_ne]; omega
              clear ho
              go_wp2
              go_round
              case rel => exact ⟨j + 1, by omega, by go_num, by rw [HO.out, ← HQ.out]; rfl⟩
              case measure => simp [intOf]; omega
          · obtain rfl : j = 8 := by omega
            go_wp2
            go_round
            case rel => exact ⟨k + 1, by omega, by go_num, by rw [HR.out]; rfl⟩
            case measure => simp [intOf]; omega
    · have HE := Lib.hid (show l.take k = l by rw [List.take_of_length_le (by omega)])
      have HX := Lib.hid (turn_r _ (run_lt (l.take k) HL.out))
      go_wp2
      go_ret
      exact ⟨ret_int (by rw [HX.out, HE.out]; rfl), rfl⟩

theorem rof_any (v : Value) (l : List UInt8) (w : World) (hv : Bs w v l) (hl : l.length ≤ 9223372036854775807) :
    Calls Tryd.prog 22 #[v] w fun e w' => e = .returned (.int .u32 (sumOf 0 l : Nat)) ∧ w = w' := by
  have HB := Lib.hid hv
  clear hv
  go_enter Tryd.func22, Tryd.ntmps22
  go_wp2_with fail
  refine (rmore_any 0 v l w (by decide) HB.out hl).mono ?_
  rintro e w1 ⟨rfl, rfl⟩
  go_wp2
  go_ret
  exact ⟨rfl, rfl⟩
end Go.Proofs.YtfgbhnchchdlcaaDoor
