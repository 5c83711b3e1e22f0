/-
  Functions of Go's library at bytes: bytes.Clone, bytes.Equal, slices.Grow of nil, slices.Concat.
-/
import Derived.Test.YtdniififoahlaaaVint3
import Derived.Lib.AppendZeros
import Derived.Lib.SliceRun
namespace Go.Proofs.Ytdniififoahlaaa
set_option linter.unusedVariables false
set_option linter.unusedSimpArgs false
set_option maxRecDepth 100000
open Go.RowKit

theorem equal_any (v1 v2 : Value) (l1 l2 : List UInt8) (w : World) (h1 : Bs w v1 l1) (h2 : Bs w v2 l2) :
    Calls Try.prog 32 #[v1, v2] w fun e w' => e = .returned (.bool (l1 == l2)) ∧ w = w' := by
  have c1 := run_conv_Bs h1 25 9 5 Try.underlying25 Try.underlying5 Try.underlying9
  have c2 := run_conv_Bs h2 25 9 5 Try.underlying25 Try.underlying5 Try.underlying9
  clear h1 h2
  go_enter Try.func32, Try.ntmps32
  go_wp2
  go_ret
  exact ⟨rfl, rfl⟩

set_option maxHeartbeats 400000 in
theorem grow0_any (n : Nat) (w : World) (hn : n < 140737488355328) :
    Calls Try.prog 45 #[.slice none 0 0, .int .i64 n] w fun e w' => ∃ v, e = .returned v ∧ Own w' w.heap.size v [] ∧ Fr Non w w' := by
  by_cases h0 : n = 0
  · subst h0
    go_enter Try.func45, Try.ntmps45
    go_wp2
    go_ret
    exact ⟨_, rfl, own_nil _ _, Fr.refl _ _⟩
  · obtain ⟨i, hi, hz0, hz1, hz2⟩ := info_parts info_u8
    have hpos : (0 : Int) < n := by omega
    have hr := fun ty => Lib.run_append_nil_zeros (P := Try.prog) w 25 3 ty 5 i (.int .u8 0) .i64 .i64 Try.underlying25 Try.underlying3 hi hz0 n (by omega) (by rw [hz1]; omega) (by omega) (by rw [hz2]; omega)
    have hG := grownCap_ge w n 0 5
    have hM := grownCap_le_maxLen w n 0 5 (by unfold maxLen; omega)
    have hf : Fr Non w (w.drew.alloc (.cells (Builtin.zeroCells #[Value.int .u8 0] n ++ Builtin.zeroCells #[Value.int .u8 0] (grownCap w n 0 5 - n)) 5)) := ((Fr.refl _ w).drew).alloc _
    have hown : Own (w.drew.alloc (.cells (Builtin.zeroCells #[Value.int .u8 0] n ++ Builtin.zeroCells #[Value.int .u8 0] (grownCap w n 0 5 - n)) 5)) w.heap.size (.slice (some ⟨w.heap.size, 0, none⟩) 0 (grownCap w n 0 5)) [] :=
      World.ownsRow_made w.drew _ _ (Nat.le_refl _) hM (by simp only [Array.size_append, size_zeroCells, List.size_toArray, List.length_cons, List.length_nil]; omega)
    generalize grownCap w n 0 5 = G at *
    have HO := Lib.hid hown
    have HF := Lib.hid hf
    have HR := Lib.hid hr
    have hM' : G ≤ 9223372036854775807 := hM
    clear hown hf hr
    go_enter Try.func45, Try.ntmps45
    go_wp2_with (at_builtin; refine Lib.wpList_append_run _ rfl _ _ _ _ rfl _ _ rfl rfl _ _ (HR.out _) ?_)
    go_ret
    exact ⟨_, rfl, HO.out, HF.out⟩

set_option maxHeartbeats 1000000 in
theorem concat_any (g n c : Nat) (xs : List Value) (ls : List (List UInt8)) (w : World) (hn : ls.length = n) (hn2 : n < 1000) (hp : Parts w g xs ls) (hb : ls.flatten.length < 1099511627776) :
    Calls Try.prog 21 #[.slice (some ⟨g, 0, none⟩) n c] w fun e w' => ∃ v, e = .returned v ∧ Own w' w.heap.size v ls.flatten ∧ Fr Non w w' := by
  have Hb := Lib.hid hb; clear hb
  go_enter Try.func21, Try.ntmps21
  go_wp2
  go_loop [3, 11] (fun s i => ∃ k : Nat, k ≤ n ∧ i = .int .i64 k ∧ s = .int .i64 (ls.take k).flatten.length) (fun _ i => n - (intOf i).toNat)
  case atStart => exact ⟨0, Nat.zero_le _, rfl, rfl⟩
  case round =>
    obtain ⟨k, hk, rfl, rfl⟩ := hrel
    have hle := flat_le ls k
    have hb1 : (ls.take k).flatten.length < 1099511627776 := by have := Hb.out; omega
    by_cases hlt : k < n
    · have hkl : k < ls.length := by omega
      have hkx : k < xs.length := by rw [hp.1]; omega
      obtain ⟨hcell, hbs⟩ := hp.2 k xs[k] ls[k] (by simp [hkx]) (by simp [hkl])
      have hsn := flat_snoc ls k hkl
      have hle2 := flat_le ls (k + 1)
      have hb2 : (ls.take k).flatten.length + ls[k].length < 1099511627776 := by rw [hsn, List.length_append] at hle2; have := Hb.out; omega
      have HS := Lib.hid hsn
      clear hsn hle hle2
      generalize ls[k] = l at *
      generalize hx : xs[k] = x at *
      clear hx
      obtain ⟨A, d, rfl⟩ := hbs.shape
      generalize (ls.take k).flatten = F at *
      have hge : ¬ ((F.length : Int) + l.length < 0) := by omega
      clear hbs
      go_wp2
      go_round
      case rel => exact ⟨k + 1, by omega, by go_num, by rw [HS.out, List.length_append]; go_num⟩
      case measure => simp [intOf]; omega
    · have hkn : k = n := by omega
      have hT : ls.take k = ls := List.take_of_length_le (by omega)
      rw [hT] at hb1 ⊢
      have HL := Lib.hid hn
      clear hle hT hkn hn
      generalize hF : ls.flatten.length = F at *
      have HF := Lib.hid hF; clear hF
      go_wp2_with fail
      refine (grow0_any F w (by omega)).mono ?_
      rintro e w1 ⟨v1, rfl, hown1, hfr1⟩
      have hp1 := hp.non hfr1
      go_wp2_with fail
      go_loopw [6, 27] (fun v i wr => ∃ k : Nat, k ≤ n ∧ i = .int .i64 k ∧ Own wr w.heap.size v (ls.take k).flatten ∧ Fr Non w wr) (fun _ i _ => n - (intOf i).toNat)
      case atStart => exact ⟨0, Nat.zero_le _, rfl, hown1, hfr1⟩
      case round =>
        obtain ⟨j, hj, rfl, hown, hfr⟩ := hrel
        have hB := hfr.size
        have hle := flat_le ls j
        by_cases hlt : j < n
        · have hkl : j < ls.length := by rw [HL.out]; exact hlt
          have hkx : j < xs.length := by rw [hp.1]; exact hkl
          obtain ⟨hcell, hbs⟩ := (hp.non hfr).2 j xs[j] ls[j] (by simp [hkx]) (by simp [hkl])
          have hsn := flat_snoc ls j hkl
          have hle2 := flat_le ls (j + 1)
          have hb2 : (ls.take j).flatten.length + ls[j].length < 140737488355328 := by rw [hsn, List.length_append] at hle2; have := HF.out; omega
          have HS := Lib.hid hsn
          clear hsn hle hle2 hp1 hp
          generalize ls[j] = l at *
          generalize hx : xs[j] = x at *
          clear hx
          generalize (ls.take j).flatten = G at *
          go_wp2_with (at_builtin; refine wpList_app rfl (.tmp 31) (.tmp 32) rfl w.heap.size u6 x G l rfl hown rfl hbs hb2 hB ?_; intro v' w' hown' hfr')
          go_roundw
          case rel => exact ⟨j + 1, by omega, by go_num, by rw [HS.out]; exact hown', hfr.fresh hfr' fun k hk => (hown.lt k hk).1⟩
          case measure => simp [intOf]; omega
        · have hT : ls.take j = ls := List.take_of_length_le (by rw [HL.out]; omega)
          rw [hT] at hown
          clear hT hle hp1 hp
          go_wp2
          go_ret
          exact ⟨_, rfl, hown, hfr⟩

theorem Parts.three {w : World} {t : TypeId} {x y z : Value} {l m n : List UInt8} (hx : Bs w x l) (hy : Bs w y m) (hz : Bs w z n) : Parts (w.alloc (.cells #[x, y, z] t)) w.heap.size [x, y, z] [l, m, n] := by
  refine ⟨rfl, fun j u k hu hk => ?_⟩
  have hb := Blk.new w t #[x, y, z]
  have hf : Fr Non w (w.alloc (.cells #[x, y, z] t)) := (Fr.refl _ _).alloc _
  match j with
  | 0 =>
    obtain rfl : x = u := by simpa using hu
    obtain rfl : l = k := by simpa using hk
    exact ⟨hb.cell 0, hx.non hf⟩
  | 1 =>
    obtain rfl : y = u := by simpa using hu
    obtain rfl : m = k := by simpa using hk
    exact ⟨hb.cell 1, hy.non hf⟩
  | 2 =>
    obtain rfl : z = u := by simpa using hu
    obtain rfl : n = k := by simpa using hk
    exact ⟨hb.cell 2, hz.non hf⟩
  | j + 3 => simp at hu
end Go.Proofs.Ytdniififoahlaaa
