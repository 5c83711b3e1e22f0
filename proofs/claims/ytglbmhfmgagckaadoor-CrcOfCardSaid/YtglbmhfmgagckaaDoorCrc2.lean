/-
  Layer 2: the walks of crc.Of, of the law's example, and of the law CrcOf.
-/
import Derived.Test.YtglbmhfmgagckaaDoorCrc1
import Derived.Deep.DeepCutAuto
import Derived.Deep.QuietTactic
import Derived.BigQuiet
import Derived.Lib.SlBytesConst
namespace Go.Proofs.YtglbmhfmgagckaaDoor
set_option linter.unusedVariables false
set_option linter.unusedSimpArgs false
open Go.RowKit

set_option maxHeartbeats 400000 in
theorem of_any (v : Value) (ls : List (List UInt8)) (w : World) (hv : Bss w v ls) (ht : Tab w) (hn : ls.length ≤ 9223372036854775807) (hl : ∀ l ∈ ls, l.length ≤ 9223372036854775807) :
    Calls Tryd.prog 7 #[v] w fun e w' => e = .returned (.int .u32 (sumOf 0 ls.flatten : Nat)) ∧ w = w' := by
  obtain ⟨A, c, rfl, hlc, hnn, hcell⟩ := hv
  have HC := Lib.hid hcell
  have HN := Lib.hid hnn
  have HT := Lib.hid ht
  have HL := Lib.hid hl
  clear hcell hnn ht hl
  go_enter Tryd.func7, Tryd.ntmps7
  go_wp2
  go_loop [3, 8] (fun x i => ∃ k : Nat, k ≤ ls.length ∧ i = .int .i64 k ∧ x = .int .u32 (sumOf 0 (ls.take k).flatten : Nat)) (fun _ i => ls.length - (intOf i).toNat)
  case atStart => exact ⟨0, Nat.zero_le _, rfl, by rw [List.take_zero, List.flatten_nil, sumOf_nil]; rfl⟩
  case round =>
    obtain ⟨k, hk, rfl, rfl⟩ := hrel
    by_cases hlt : k < ls.length
    · cases A with
      | none => have := HN.out rfl; omega
      | some ad =>
        obtain ⟨u, hu, hb⟩ := HC.out ad rfl k hlt
        have HB := Lib.hid hb
        have HR := Lib.hid (show sumOf 0 (ls.take (k + 1)).flatten = sumOf (sumOf 0 (ls.take k).flatten) ls[k] by
          rw [List.take_succ_eq_append_getElem hlt, List.flatten_append, sumOf_app]; simp)
        clear hb
        go_wp2_with fail
        refine (more_any _ u _ w (sumOf_lt _ (by decide)) HB.out HT.out (HL.out _ (List.getElem_mem _))).mono ?_
        rintro e w1 ⟨rfl, rfl⟩
        go_wp2_with fail
        go_round
        case rel => exact ⟨k + 1, by omega, by go_num, by rw [HR.out]⟩
        case measure => simp [intOf]; omega
    · have HE := Lib.hid (show ls.take k = ls by rw [List.take_of_length_le (by omega)])
      go_wp2
      go_ret
      exact ⟨ret_int (by rw [HE.out]), rfl⟩

theorem of_one (g : Nat) (v : Value) (l : List UInt8) (w : World) (hg : g = w.heap.size) (hv : Bs w v l) (ht : Tab w) (hl : l.length ≤ 9223372036854775807) :
    Calls Tryd.prog 7 #[.slice (some ⟨g, 0, none⟩) 1 1] (w.alloc (.cells #[v] 22)) fun e w' => e = .returned (.int .u32 (sumOf 0 l : Nat)) ∧ (w.alloc (.cells #[v] 22)) = w' := by
  subst hg
  refine (of_any _ [l] _ (bss_one w v l _ hv) (ht.non ((Fr.refl _ _).alloc _)) (by simp) (by simpa using hl)).mono ?_
  rintro e w1 ⟨rfl, rfl⟩
  exact ⟨ret_int (by simp), rfl⟩

theorem crc_example : sumOf 0 [49, 50, 51, 52, 53, 54, 55, 56, 57] = 3808858755 := by decide +kernel

theorem clive_any (w : World) (ht : Tab w) :
    Calls Tryd.prog 6 #[] w fun e w' => e = .returned (.bool true) ∧ Fr Non w w' := by
  have B1 := Lib.hid (show Bs (w.alloc (.cells #[.int .u8 49, .int .u8 50, .int .u8 51, .int .u8 52, .int .u8 53, .int .u8 54, .int .u8 55, .int .u8 56, .int .u8 57] 5 (9, 10)))
    (.slice (some ⟨w.heap.size, 0, none⟩) 9 9) [49, 50, 51, 52, 53, 54, 55, 56, 57] from bs_rowF w [49, 50, 51, 52, 53, 54, 55, 56, 57] (9, 10))
  have HT := Lib.hid (fun o => ht.non ((Fr.refl _ w).alloc o))
  have HX := Lib.hid crc_example
  clear ht
  have kc := fun (w : World) (C : Array Value) (n c : Nat) => Lib.run_convert_bytes_const (P := Tryd.prog) w 22 5 C n c Tryd.underlying22 Tryd.underlying5
  go_enter Tryd.func6, Tryd.ntmps6
  go_wp2_with fail
  refine (of_one _ _ _ _ (by simp) B1.out (HT.out _) (by decide)).mono ?_
  rintro e w1 ⟨rfl, rfl⟩
  rw [HX.out]
  go_wp2
  go_ret
  exact ⟨rfl, ((Fr.refl _ _).alloc _).alloc _⟩

set_option maxHeartbeats 1000000 in
theorem crcOf_walk (v : Value) (l : List UInt8) (s : Nat) (w : World) (hv : Bs w v l) (hs : s < 4294967296) (ht : Tab w) (hl : l.length ≤ 9223372036854775807) :
    Calls Tryd.prog 3 #[v, .int .u32 s] w fun e w' => e = .returned (.bool true) ∧ Below w.heap.size w w' := by
  have HB := Lib.hid hv
  have HT := Lib.hid ht
  have HS := Lib.hid hs
  obtain ⟨A, c, rfl, hc, _, _⟩ := hv
  clear ht hs
  by_cases hbig : 1000 < l.length
  · go_enter Tryd.func3, Tryd.ntmps3
    go_wp2_with fail
    refine (clive_any w HT.out).mono ?_
    rintro e w1 ⟨rfl, hf1⟩
    go_wp2
    go_ret
    exact ⟨rfl, hf1.below⟩
  · have HF := Lib.hid (fun o => (Fr.refl Non w).alloc o)
    go_enter Tryd.func3, Tryd.ntmps3
    go_wp2_with fail
    refine (of_one _ _ _ _ rfl HB.out HT.out hl).mono ?_
    rintro e w1 ⟨rfl, rfl⟩
    have HB1 := Lib.hid (HB.out.non (HF.out (.cells #[.slice A l.length c] 22)))
    have HT1 := Lib.hid (HT.out.non (HF.out (.cells #[.slice A l.length c] 22)))
    go_wp2_with fail
    refine (rof_any _ _ _ HB1.out hl).mono ?_
    rintro e w2 ⟨rfl, rfl⟩
    go_wp2_with fail
    refine (more_any _ _ _ _ HS.out HB1.out HT1.out hl).mono ?_
    rintro e w2 ⟨rfl, rfl⟩
    go_wp2_with fail
    refine (rmore_any _ _ _ _ HS.out HB1.out hl).mono ?_
    rintro e w2 ⟨rfl, rfl⟩
    go_wp2_with fail
    refine (clive_any _ HT1.out).mono ?_
    rintro e w2 ⟨rfl, hf⟩
    go_wp2
    go_ret
    exact ⟨rfl, ((HF.out _).trans hf).below⟩
end Go.Proofs.YtglbmhfmgagckaaDoor
