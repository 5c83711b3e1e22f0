/-
  Layer 2: the walks of crc.Of, of the law's example, and of the law CrcOf.
-/
import Derived.Test.YtfgbhnchchdlcaaDoorCrc1
import Derived.Deep.DeepCutAuto
import Derived.Deep.QuietTactic
import Derived.BigQuiet
import Derived.Lib.SlBytesConst
namespace Go.Proofs.YtfgbhnchchdlcaaDoor
set_option linter.unusedVariables false
set_option linter.unusedSimpArgs false
open Go.RowKit

set_option maxHeartbeats 400000 in
theorem of_any (v : Value) (ls : List (List UInt8)) (w : World) (hv : Bss w v ls) (ht : Tab w) (hn : ls.length ≤ 9223372036854775807) (hl : ∀ l ∈ ls, l.length ≤ 9223372036854775807) :
    Calls Tryd.prog 28 #[v] w fun e w' => e = .returned (.int .u32 (sumOf 0 ls.flatten : Nat)) ∧ w = w' := by
  obtain ⟨A, c, rfl, hlc, hnn, hcell⟩ := hv
  have HC := Lib.hid hcell
  have HN := Lib.hid hnn
  have HT := Lib.hid ht
  have HL := Lib.hid hl
  clear hcell hnn ht hl
  go_enter Tryd.func28, Tryd.ntmps28
  go_wp2
  go_loop [3, 8] (fun x i => ∃ k : Nat, k ≤ ls.length ∧ i = .int .i64 k ∧ x = .int .u32 (sumOf 0 (ls.take k).flatten : Nat)) (fun _ i => ls.length - (intOf i).toNat)
  case atStart => exact ⟨0, Nat.zero_le _, rfl, by rw [List.take_zero, List.flatten_nil, sumOf_nil]; rfl⟩
  case round =>
    obtain ⟨k, hk, rfl, rfl⟩ := hrel
    by_cases hlt : k < ls.length
    · cases A with
      | none => have := HN.out rfl; omega
      | some ad =>
        obtain ⟨u, hu, hb⟩ := HC.out ad rfl k hlt
        have HB := Lib.hid hb
        have HR := Lib.hid (show sumOf 0 (ls.take (k + 1)).flatten = sumOf (sumOf 0 (ls.take k).flatten) ls[k] by
          rw [List.take_succ_eq_append_getElem hlt, List.flatten_append, sumOf_app]; simp)
        clear hb
        go_wp2_with fail
        refine (more_any _ u _ w (sumOf_lt _ (by decide)) HB.out HT.out (HL.out _ (List.getElem_mem _))).mono ?_
        rintro e w1 ⟨rfl, rfl⟩
        go_wp2_with fail
        go_round
        case rel => exact ⟨k + 1, by omega, by go_num, by rw [HR.out]⟩
        case measure => simp [intOf]; omega
    · have HE := Lib.hid (show ls.take k = ls by rw [List.take_of_length_le (by omega)])
      go_wp2
      go_ret
      exact ⟨ret_int (by rw [HE.out]), rfl⟩

theorem of_one (g : Nat) (v : Value) (l : List UInt8) (w : World) (hg : g = w.heap.size) (hv : Bs w v l) (ht : Tab w) (hl : l.length ≤ 9223372036854775807) :
    Calls Tryd.prog 28 #[.slice (some ⟨g, 0, none⟩) 1 1] (w.alloc (.cells #[v] 22)) fun e w' => e = .returned (.int .u32 (sumOf 0 l : Nat)) ∧ (w.alloc (.cells #[v] 22)) = w' := by
  subst hg
  refine (of_any _ [l] _ (bss_one w v l _ hv) (ht.non ((Fr.refl _ _).alloc _)) (by simp) (by simpa using hl)).mono ?_
  rintro e w1 ⟨rfl, rfl⟩
  exact ⟨ret_int (by simp), rfl⟩

theorem crc_example : sumOf 0 [49, 50, 51, 52, 53, 54, 55, 56, 57] = 3808858755 := by decide +kernel

end Go.Proofs.YtfgbhnchchdlcaaDoor
