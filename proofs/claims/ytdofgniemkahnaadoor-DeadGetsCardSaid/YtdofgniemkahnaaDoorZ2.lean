/-
  Joined: Functions of Go's library at bytes: bytes.Clone, bytes.Equal, slices.Grow of nil, slices.Concat. · Layer 2: the walks of crc.shift, crc.More, crc.Of, firkinref02.More, firkinref02.Of. · Layer 2: the walks of crc.Of, of the law's example, and of the law CrcOf. · Layer 3: the walks of frame.sum, frame.Put, firkinref03.Put, frame.length, firkinlaw03.num. · Layer 3: the walks of frame.length, frame.first, frame.Get. · Layer 3: the walks of firkinref03.Get, of the law's example, and of the law FramePuts. · Slices of slices of bytes that the call owns (Owns), and the steps that append one slice, or one value of one cell, to a row of the call's own. · Slices of one-celled elements of any type: what one reads as (Vs), a row of the call's own (Ow), and the steps over them: append of one, append of many, make, copy, cuts. · Layer 4: the walks of bitv.need, bitv.Pack, firkinref04.Pack. · Layer 4: the walks of bitv.Unpack, firkinref04.Unpack. · Layer 4: the walks of bitv.Count, Places, Or, the document's Places, Or, Same, Ints. · Layer 14: which rows are gone as bytes, and read again: both programs. · Layer 14: the document's Put and Get. · Slices of cells: what one reads as (Cs), a row of the call's own (Oc), and the steps over them. · Slices that are the call's own, or full (none of their room is left): s[:k:k], and what is appended behind them, which never lies over what was there.
-/
import Derived.Lib.Zigzag
import Derived.Laws.Rows
import Derived.Laws.ResultCell
import Derived.BigFrame
import Derived.Deep.RegionWith
import Derived.Deep.RegionHeld3
import Derived.Deep.QuietTactic
import Derived.Deep.Slices
import Derived.Test.YtdofgniemkahnaaDoorZ1
import Derived.Lib.AppendZeros
import Derived.Lib.SliceRun
import Derived.Laws.BitsAllLaws
import Derived.LoopTactic
import Derived.IntWalk
import Derived.Deep.DeepCutAuto
import Derived.BigQuiet
import Derived.Lib.SlBytesConst
import Derived.Laws.CopyOwn
import Derived.Laws.OwnMore
import Derived.ArgAppend
import Derived.Deep.Upon

namespace Go.Proofs.YtdofgniemkahnaaDoor
set_option linter.unusedVariables false
set_option linter.unusedSimpArgs false
set_option maxRecDepth 100000
open Go.RowKit

theorem equal_any (v1 v2 : Value) (l1 l2 : List UInt8) (w : World) (h1 : Bs w v1 l1) (h2 : Bs w v2 l2) :
    Calls Tryd.prog 53 #[v1, v2] w fun e w' => e = .returned (.bool (l1 == l2)) ∧ w = w' := by
  have c1 := run_conv_Bs h1 24 9 5 Tryd.underlying24 Tryd.underlying5 Tryd.underlying9
  have c2 := run_conv_Bs h2 24 9 5 Tryd.underlying24 Tryd.underlying5 Tryd.underlying9
  clear h1 h2
  go_enter Tryd.func53, Tryd.ntmps53
  go_wp2
  go_ret
  exact ⟨rfl, rfl⟩

set_option maxHeartbeats 400000 in
theorem clone_any (v : Value) (l : List UInt8) (w : World) (h : Bs w v l) (hl : l.length < 140737488355328) :
    Calls Tryd.prog 39 #[v] w fun e w' => ∃ u, e = .returned u ∧ Own w' w.heap.size u l ∧ Fr Non w w' := by
  have HB := Lib.hid h
  have hq := fun (W : World) (a : Option Addr) (n c : Nat) => Lib.run_eql_slice_nil (P := Tryd.prog) W 24 5 a n c 0 0 Tryd.underlying24
  obtain ⟨A, c, rfl, hlc, hn, _⟩ := h
  cases A with
  | none =>
    have hc : c = 0 := hn rfl
    subst hc
    have hl0 : l = [] := List.eq_nil_of_length_eq_zero (by omega)
    subst hl0
    go_enter Tryd.func39, Tryd.ntmps39
    go_wp2
    go_ret
    exact ⟨_, rfl, own_nil _ _, Fr.refl _ _⟩
  | some a =>
    clear hn
    go_enter Tryd.func39, Tryd.ntmps39
    go_wp2_with (at_builtin; refine wpList_app rfl (.tmp 5) (.tmp 6) rfl w.heap.size (.slice (some ⟨w.heap.size, 0, none⟩) 0 0) (.slice (some a) l.length c) [] l rfl (own_lit0 _ _ _ rfl (Nat.le_refl _)) rfl (HB.out.non ((Fr.refl _ _).alloc _)) (by simpa using hl) (by simp) ?_; intro v3 w3 hown hf3)
    go_ret
    refine ⟨_, rfl, by simpa using hown, ((Fr.refl Non w).alloc _).fresh hf3 (fun k hk => by simp [Value.ownBlock] at hk; omega)⟩

set_option maxHeartbeats 400000 in
theorem grow0_any (n : Nat) (w : World) (hn : n < 140737488355328) :
    Calls Tryd.prog 36 #[.slice none 0 0, .int .i64 n] w fun e w' => ∃ v, e = .returned v ∧ Own w' w.heap.size v [] ∧ Fr Non w w' := by
  by_cases h0 : n = 0
  · subst h0
    go_enter Tryd.func36, Tryd.ntmps36
    go_wp2
    go_ret
    exact ⟨_, rfl, own_nil _ _, Fr.refl _ _⟩
  · obtain ⟨i, hi, hz0, hz1, hz2⟩ := info_parts info_u8
    have hpos : (0 : Int) < n := by omega
    have hr := fun ty => Lib.run_append_nil_zeros (P := Tryd.prog) w 24 3 ty 5 i (.int .u8 0) .i64 .i64 Tryd.underlying24 Tryd.underlying3 hi hz0 n (by omega) (by rw [hz1]; omega) (by omega) (by rw [hz2]; omega)
    have hG := grownCap_ge w n 0 5
    have hM := grownCap_le_maxLen w n 0 5 (by unfold maxLen; omega)
    have hf : Fr Non w (w.drew.alloc (.cells (Builtin.zeroCells #[Value.int .u8 0] n ++ Builtin.zeroCells #[Value.int .u8 0] (grownCap w n 0 5 - n)) 5)) := ((Fr.refl _ w).drew).alloc _
    have hown : Own (w.drew.alloc (.cells (Builtin.zeroCells #[Value.int .u8 0] n ++ Builtin.zeroCells #[Value.int .u8 0] (grownCap w n 0 5 - n)) 5)) w.heap.size (.slice (some ⟨w.heap.size, 0, none⟩) 0 (grownCap w n 0 5)) [] :=
      World.ownsRow_made w.drew _ _ (Nat.le_refl _) hM (by simp only [Array.size_append, size_zeroCells, List.size_toArray, List.length_cons, List.length_nil]; omega)
    generalize grownCap w n 0 5 = G at *
    have HO := Lib.hid hown
    have HF := Lib.hid hf
    have HR := Lib.hid hr
    have hM' : G ≤ 9223372036854775807 := hM
    clear hown hf hr
    go_enter Tryd.func36, Tryd.ntmps36
    go_wp2_with (at_builtin; refine Lib.wpList_append_run _ rfl _ _ _ _ rfl _ _ rfl rfl _ _ (HR.out _) ?_)
    go_ret
    exact ⟨_, rfl, HO.out, HF.out⟩

set_option maxHeartbeats 1000000 in
theorem concat_any (g n c : Nat) (xs : List Value) (ls : List (List UInt8)) (w : World) (hn : ls.length = n) (hn2 : n < 1000) (hp : Parts w g xs ls) (hb : ls.flatten.length < 1099511627776) :
    Calls Tryd.prog 20 #[.slice (some ⟨g, 0, none⟩) n c] w fun e w' => ∃ v, e = .returned v ∧ Own w' w.heap.size v ls.flatten ∧ Fr Non w w' := by
  have Hb := Lib.hid hb; clear hb
  go_enter Tryd.func20, Tryd.ntmps20
  go_wp2
  go_loop [3, 11] (fun s i => ∃ k : Nat, k ≤ n ∧ i = .int .i64 k ∧ s = .int .i64 (ls.take k).flatten.length) (fun _ i => n - (intOf i).toNat)
  case atStart => exact ⟨0, Nat.zero_le _, rfl, rfl⟩
  case round =>
    obtain ⟨k, hk, rfl, rfl⟩ := hrel
    have hle := flat_le ls k
    have hb1 : (ls.take k).flatten.length < 1099511627776 := by have := Hb.out; omega
    by_cases hlt : k < n
    · have hkl : k < ls.length := by omega
      have hkx : k < xs.length := by rw [hp.1]; omega
      obtain ⟨hcell, hbs⟩ := hp.2 k xs[k] ls[k] (by simp [hkx]) (by simp [hkl])
      have hsn := flat_snoc ls k hkl
      have hle2 := flat_le ls (k + 1)
      have hb2 : (ls.take k).flatten.length + ls[k].length < 1099511627776 := by rw [hsn, List.length_append] at hle2; have := Hb.out; omega
      have HS := Lib.hid hsn
      clear hsn hle hle2
      generalize ls[k] = l at *
      generalize hx : xs[k] = x at *
      clear hx
      obtain ⟨A, d, rfl⟩ := hbs.shape
      generalize (ls.take k).flatten = F at *
      have hge : ¬ ((F.length : Int) + l.length < 0) := by omega
      clear hbs
      go_wp2
      go_round
      case rel => exact ⟨k + 1, by omega, by go_num, by rw [HS.out, List.length_append]; go_num⟩
      case measure => simp [intOf]; omega
    · have hkn : k = n := by omega
      have hT : ls.take k = ls := List.take_of_length_le (by omega)
      rw [hT] at hb1 ⊢
      have HL := Lib.hid hn
      clear hle hT hkn hn
      generalize hF : ls.flatten.length = F at *
      have HF := Lib.hid hF; clear hF
      go_wp2_with fail
      refine (grow0_any F w (by omega)).mono ?_
      rintro e w1 ⟨v1, rfl, hown1, hfr1⟩
      have hp1 := hp.non hfr1
      go_wp2_with fail
      go_loopw [6, 27] (fun v i wr => ∃ k : Nat, k ≤ n ∧ i = .int .i64 k ∧ Own wr w.heap.size v (ls.take k).flatten ∧ Fr Non w wr) (fun _ i _ => n - (intOf i).toNat)
      case atStart => exact ⟨0, Nat.zero_le _, rfl, hown1, hfr1⟩
      case round =>
        obtain ⟨j, hj, rfl, hown, hfr⟩ := hrel
        have hB := hfr.size
        have hle := flat_le ls j
        by_cases hlt : j < n
        · have hkl : j < ls.length := by rw [HL.out]; exact hlt
          have hkx : j < xs.length := by rw [hp.1]; exact hkl
          obtain ⟨hcell, hbs⟩ := (hp.non hfr).2 j xs[j] ls[j] (by simp [hkx]) (by simp [hkl])
          have hsn := flat_snoc ls j hkl
          have hle2 := flat_le ls (j + 1)
          have hb2 : (ls.take j).flatten.length + ls[j].length < 140737488355328 := by rw [hsn, List.length_append] at hle2; have := HF.out; omega
          have HS := Lib.hid hsn
          clear hsn hle hle2 hp1 hp
          generalize ls[j] = l at *
          generalize hx : xs[j] = x at *
          clear hx
          generalize (ls.take j).flatten = G at *
          go_wp2_with (at_builtin; refine wpList_app rfl (.tmp 31) (.tmp 32) rfl w.heap.size u6 x G l rfl hown rfl hbs hb2 hB ?_; intro v' w' hown' hfr')
          go_roundw
          case rel => exact ⟨j + 1, by omega, by go_num, by rw [HS.out]; exact hown', hfr.fresh hfr' fun k hk => (hown.lt k hk).1⟩
          case measure => simp [intOf]; omega
        · have hT : ls.take j = ls := List.take_of_length_le (by rw [HL.out]; omega)
          rw [hT] at hown
          clear hT hle hp1 hp
          go_wp2
          go_ret
          exact ⟨_, rfl, hown, hfr⟩

theorem Parts.three {w : World} {t : TypeId} {x y z : Value} {l m n : List UInt8} (hx : Bs w x l) (hy : Bs w y m) (hz : Bs w z n) : Parts (w.alloc (.cells #[x, y, z] t)) w.heap.size [x, y, z] [l, m, n] := by
  refine ⟨rfl, fun j u k hu hk => ?_⟩
  have hb := Blk.new w t #[x, y, z]
  have hf : Fr Non w (w.alloc (.cells #[x, y, z] t)) := (Fr.refl _ _).alloc _
  match j with
  | 0 =>
    obtain rfl : x = u := by simpa using hu
    obtain rfl : l = k := by simpa using hk
    exact ⟨hb.cell 0, hx.non hf⟩
  | 1 =>
    obtain rfl : y = u := by simpa using hu
    obtain rfl : m = k := by simpa using hk
    exact ⟨hb.cell 1, hy.non hf⟩
  | 2 =>
    obtain rfl : z = u := by simpa using hu
    obtain rfl : n = k := by simpa using hk
    exact ⟨hb.cell 2, hz.non hf⟩
  | j + 3 => simp at hu
end Go.Proofs.YtdofgniemkahnaaDoor


namespace Go.Proofs.YtdofgniemkahnaaDoor
set_option linter.unusedVariables false
set_option linter.unusedSimpArgs false
set_option maxRecDepth 100000
open Go.RowKit

/-- the table of the program's lies where it was laid -/
def Tab (w : World) : Prop := ∀ i, i < 16 → w.cell? ⟨0, i, none⟩ = some (.int .u32 (half i))
theorem Tab.fr {S : Nat → Prop} {w w' : World} (h : Tab w) (hf : Fr S w w') (hn : ¬ S 0) : Tab w' := fun i hi => by
  have := h i hi
  rw [← this]
  exact hf.cell (p := ⟨_, i, none⟩) (World.block_lt_of_cell? w _ this) hn
theorem Tab.non {w w' : World} (h : Tab w) (hf : Fr Non w w') : Tab w' := h.fr hf fun e => e
theorem Tab.lt {w : World} (h : Tab w) : 0 < w.heap.size := World.block_lt_of_cell? w _ (h 0 (by decide))

theorem shift_any (s : Nat) (w : World) (hs : s < 4294967296) (ht : Tab w) :
    Calls Tryd.prog 60 #[.int .u32 s] w fun e w' => e = .returned (.int .u32 (st (st (st (st s))) : Nat)) ∧ w = w' := by
  have h1 := ht (s % 16) (Nat.mod_lt _ (by decide))
  have HX := Lib.hid (show bits .xor .u32 ((s / 16 : Nat) : Int) ((half (s % 16) : Nat) : Int) = ((st (st (st (st s))) : Nat) : Int) by rw [u32_xor_nat _ _ (by omega) (half_st _ (Nat.mod_lt _ (by decide))).2, st4_half])
  clear ht
  go_enter Tryd.func60, Tryd.ntmps60
  go_wp2
  go_ret
  exact ⟨ret_int HX.out, rfl⟩

theorem turn_l (s : Nat) (h : s < 4294967296) : bits .xor .u32 IntKind.u32.max (s : Int) = ((s ^^^ 4294967295 : Nat) : Int) := by
  have := u32_xor_nat 4294967295 s (by omega) h
  rw [Nat.xor_comm] at this
  exact this
theorem turn_r (s : Nat) (h : s < 4294967296) : bits .xor .u32 (s : Int) 4294967295 = ((s ^^^ 4294967295 : Nat) : Int) := u32_xor_nat s 4294967295 h (by omega)
theorem byte_in (s : Nat) (b : UInt8) (h : s < 4294967296) : bits .xor .u32 (s : Int) ((b.toNat : Int) % 4294967296) = ((s ^^^ b.toNat : Nat) : Int) := by
  have hb := u8_lt b
  rw [Int.emod_eq_of_lt (by omega) (by omega)]
  exact u32_xor_nat s b.toNat h (by omega)

set_option maxHeartbeats 400000 in
theorem more_any (s : Nat) (v : Value) (l : List UInt8) (w : World) (hs : s < 4294967296) (hv : Bs w v l) (ht : Tab w) (hl : l.length ≤ 9223372036854775807) :
    Calls Tryd.prog 58 #[.int .u32 s, v] w fun e w' => e = .returned (.int .u32 (sumOf s l : Nat)) ∧ w = w' := by
  have HB := Lib.hid hv
  obtain ⟨A, c, rfl, hlc, hn, hcell⟩ := hv
  have HC := Lib.hid hcell
  have HN := Lib.hid hn
  have HT := Lib.hid ht
  have HS := Lib.hid (turn_l s hs)
  have HL := Lib.hid (turn_lt hs)
  clear hcell hn ht hs
  go_enter Tryd.func58, Tryd.ntmps58
  go_wp2
  go_loop [5, 12] (fun x i => ∃ k : Nat, k ≤ l.length ∧ i = .int .i64 k ∧ x = .int .u32 (run (s ^^^ 4294967295) (l.take k) : Nat)) (fun _ i => l.length - (intOf i).toNat)
  case atStart => exact ⟨0, Nat.zero_le _, rfl, by rw [HS.out]; rfl⟩
  case round =>
    obtain ⟨k, hk, rfl, rfl⟩ := hrel
    by_cases hlt : k < l.length
    · cases A with
      | none => have := HN.out rfl; omega
      | some ad =>
        have hc1 : w.cell? (ad.add k) = some (.int .u8 (l[k].toNat : Int)) := HC.out ad rfl k hlt
        have hr := run_lt (l.take k) HL.out
        have HX := Lib.hid (byte_in _ l[k] hr)
        have HR := Lib.hid (show run (s ^^^ 4294967295) (l.take (k + 1)) = by1 (run (s ^^^ 4294967295) (l.take k)) l[k] by
          rw [List.take_succ_eq_append_getElem hlt, run_snoc])
        have HY := Lib.hid (xor8_lt hr l[k])
        clear hr
        go_wp2_with fail
        rw [HX.out]
        refine (shift_any _ w HY.out HT.out).mono ?_
        rintro e w1 ⟨rfl, rfl⟩
        go_wp2_with fail
        refine (shift_any _ w (st_lt (st_lt (st_lt (st_lt HY.out)))) HT.out).mono ?_
        rintro e w1 ⟨rfl, rfl⟩
        go_wp2_with fail
        go_round
        case rel => exact ⟨k + 1, by omega, by go_num, by rw [HR.out]; rfl⟩
        case measure => simp [intOf]; omega
    · have HE := Lib.hid (show l.take k = l by rw [List.take_of_length_le (by omega)])
      have HX := Lib.hid (turn_l _ (run_lt (l.take k) HL.out))
      go_wp2
      go_ret
      exact ⟨ret_int (by rw [HX.out, HE.out]; rfl), rfl⟩

def stI : Nat → Nat → Nat
  | 0, s => s
  | n + 1, s => st (stI n s)
theorem stI_lt {s : Nat} (h : s < 4294967296) : ∀ n, stI n s < 4294967296
  | 0 => h
  | n + 1 => st_lt (stI_lt h n)
theorem st_odd {q : Nat} (h : q < 4294967296) (ho : q % 2 = 1) : bits .xor .u32 ((q : Int) / 2) 2197175160 = ((st q : Nat) : Int) := by
  have e : (q : Int) / 2 = ((q / 2 : Nat) : Int) := by omega
  rw [e]
  unfold st; rw [if_pos ho]
  exact u32_xor_nat (q / 2) 2197175160 (by omega) (by omega)
theorem st_even {q : Nat} (ho : ¬ q % 2 = 1) : (q : Int) / 2 = ((st q : Nat) : Int) := by
  unfold st; rw [if_neg ho]; omega

set_option maxHeartbeats 1000000 in
theorem rmore_any (s : Nat) (v : Value) (l : List UInt8) (w : World) (hs : s < 4294967296) (hv : Bs w v l) (hl : l.length ≤ 9223372036854775807) :
    Calls Tryd.prog 57 #[.int .u32 s, v] w fun e w' => e = .returned (.int .u32 (sumOf s l : Nat)) ∧ w = w' := by
  have HB := Lib.hid hv
  obtain ⟨A, c, rfl, hlc, hn, hcell⟩ := hv
  have HC := Lib.hid hcell
  have HN := Lib.hid hn
  have HS := Lib.hid (turn_r s hs)
  have HL := Lib.hid (turn_lt hs)
  clear hcell hn hs
  go_enter Tryd.func57, Tryd.ntmps57
  go_wp2
  go_loop [5, 6] (fun x i => ∃ k : Nat, k ≤ l.length ∧ i = .int .i64 k ∧ x = .int .u32 (run (s ^^^ 4294967295) (l.take k) : Nat)) (fun _ i => l.length - (intOf i).toNat)
  case atStart => exact ⟨0, Nat.zero_le _, rfl, by rw [HS.out]; rfl⟩
  case round =>
    obtain ⟨k, hk, rfl, rfl⟩ := hrel
    by_cases hlt : k < l.length
    · cases A with
      | none => have := HN.out rfl; omega
      | some ad =>
        have hc1 : w.cell? (ad.add k) = some (.int .u8 (l[k].toNat : Int)) := HC.out ad rfl k hlt
        have hr := run_lt (l.take k) HL.out
        have HX := Lib.hid (byte_in _ l[k] hr)
        have HR := Lib.hid (show run (s ^^^ 4294967295) (l.take (k + 1)) = by1 (run (s ^^^ 4294967295) (l.take k)) l[k] by
          rw [List.take_succ_eq_append_getElem hlt, run_snoc])
        have HY := Lib.hid (xor8_lt hr l[k])
        clear hr
        go_wp2
        go_loop [5, 7] (fun x i => ∃ j : Nat, j ≤ 8 ∧ i = .int .i64 j ∧ x = .int .u32 (stI j (run (s ^^^ 4294967295) (l.take k) ^^^ l[k].toNat) : Nat)) (fun _ i => 8 - (intOf i).toNat)
        case atStart => exact ⟨0, Nat.zero_le _, rfl, by rw [HX.out]; rfl⟩
        case round =>
          obtain ⟨j, hj, rfl, rfl⟩ := hrel
          by_cases hjl : j < 8
          · have hq := stI_lt HY.out j
            generalize hQ : stI j (run (s ^^^ 4294967295) (l.take k) ^^^ l[k].toNat) = q at hq ⊢
            have HQ := Lib.hid hQ
            clear hQ
            by_cases ho : q % 2 = 1
            · have HO := Lib.hid (st_odd hq ho)
              have ht : (((q : Int) % 2) == 1) = true := by rw [beq_iff_eq]; omega
              clear ho
              go_wp2
              go_round
              case rel => exact ⟨j + 1, by omega, by go_num, by rw [HO.out, ← HQ.out]; rfl⟩
              case measure => simp [intOf]; omega
            · have HO := Lib.hid (st_even ho)
              have ht : (((q : Int) % 2) == 1) = false := by rw [beq_eq_false_iff_ne]; omega
              clear ho
              go_wp2
              go_round
              case rel => exact ⟨j + 1, by omega, by go_num, by rw [HO.out, ← HQ.out]; rfl⟩
              case measure => simp [intOf]; omega
          · obtain rfl : j = 8 := by omega
            go_wp2
            go_round
            case rel => exact ⟨k + 1, by omega, by go_num, by rw [HR.out]; rfl⟩
            case measure => simp [intOf]; omega
    · have HE := Lib.hid (show l.take k = l by rw [List.take_of_length_le (by omega)])
      have HX := Lib.hid (turn_r _ (run_lt (l.take k) HL.out))
      go_wp2
      go_ret
      exact ⟨ret_int (by rw [HX.out, HE.out]; rfl), rfl⟩

theorem rof_any (v : Value) (l : List UInt8) (w : World) (hv : Bs w v l) (hl : l.length ≤ 9223372036854775807) :
    Calls Tryd.prog 46 #[v] w fun e w' => e = .returned (.int .u32 (sumOf 0 l : Nat)) ∧ w = w' := by
  have HB := Lib.hid hv
  clear hv
  go_enter Tryd.func46, Tryd.ntmps46
  go_wp2_with fail
  refine (rmore_any 0 v l w (by decide) HB.out hl).mono ?_
  rintro e w1 ⟨rfl, rfl⟩
  go_wp2
  go_ret
  exact ⟨rfl, rfl⟩
end Go.Proofs.YtdofgniemkahnaaDoor


namespace Go.Proofs.YtdofgniemkahnaaDoor
set_option linter.unusedVariables false
set_option linter.unusedSimpArgs false
set_option maxRecDepth 100000
open Go.RowKit

set_option maxHeartbeats 400000 in
theorem of_any (v : Value) (ls : List (List UInt8)) (w : World) (hv : Bss w v ls) (ht : Tab w) (hn : ls.length ≤ 9223372036854775807) (hl : ∀ l ∈ ls, l.length ≤ 9223372036854775807) :
    Calls Tryd.prog 51 #[v] w fun e w' => e = .returned (.int .u32 (sumOf 0 ls.flatten : Nat)) ∧ w = w' := by
  obtain ⟨A, c, rfl, hlc, hnn, hcell⟩ := hv
  have HC := Lib.hid hcell
  have HN := Lib.hid hnn
  have HT := Lib.hid ht
  have HL := Lib.hid hl
  clear hcell hnn ht hl
  go_enter Tryd.func51, Tryd.ntmps51
  go_wp2
  go_loop [3, 8] (fun x i => ∃ k : Nat, k ≤ ls.length ∧ i = .int .i64 k ∧ x = .int .u32 (sumOf 0 (ls.take k).flatten : Nat)) (fun _ i => ls.length - (intOf i).toNat)
  case atStart => exact ⟨0, Nat.zero_le _, rfl, by rw [List.take_zero, List.flatten_nil, sumOf_nil]; rfl⟩
  case round =>
    obtain ⟨k, hk, rfl, rfl⟩ := hrel
    by_cases hlt : k < ls.length
    · cases A with
      | none => have := HN.out rfl; omega
      | some ad =>
        obtain ⟨u, hu, hb⟩ := HC.out ad rfl k hlt
        have HB := Lib.hid hb
        have HR := Lib.hid (show sumOf 0 (ls.take (k + 1)).flatten = sumOf (sumOf 0 (ls.take k).flatten) ls[k] by
          rw [List.take_succ_eq_append_getElem hlt, List.flatten_append, sumOf_app]; simp)
        clear hb
        go_wp2_with fail
        refine (more_any _ u _ w (sumOf_lt _ (by decide)) HB.out HT.out (HL.out _ (List.getElem_mem _))).mono ?_
        rintro e w1 ⟨rfl, rfl⟩
        go_wp2_with fail
        go_round
        case rel => exact ⟨k + 1, by omega, by go_num, by rw [HR.out]⟩
        case measure => simp [intOf]; omega
    · have HE := Lib.hid (show ls.take k = ls by rw [List.take_of_length_le (by omega)])
      go_wp2
      go_ret
      exact ⟨ret_int (by rw [HE.out]), rfl⟩

theorem of_one (g : Nat) (v : Value) (l : List UInt8) (w : World) (hg : g = w.heap.size) (hv : Bs w v l) (ht : Tab w) (hl : l.length ≤ 9223372036854775807) :
    Calls Tryd.prog 51 #[.slice (some ⟨g, 0, none⟩) 1 1] (w.alloc (.cells #[v] 24)) fun e w' => e = .returned (.int .u32 (sumOf 0 l : Nat)) ∧ (w.alloc (.cells #[v] 24)) = w' := by
  subst hg
  refine (of_any _ [l] _ (bss_one w v l _ hv) (ht.non ((Fr.refl _ _).alloc _)) (by simp) (by simpa using hl)).mono ?_
  rintro e w1 ⟨rfl, rfl⟩
  exact ⟨ret_int (by simp), rfl⟩

end Go.Proofs.YtdofgniemkahnaaDoor


namespace Go.Proofs.YtdofgniemkahnaaDoor
set_option linter.unusedVariables false
set_option linter.unusedSimpArgs false
set_option maxRecDepth 100000
open Go.RowKit

/-- bytes laid as a literal -/
theorem own_lit (w : World) (B g : Nat) (l : List UInt8) (cs : Array Value) (hcs : cs.toList = l.map bv) (hg : g = w.heap.size) (hB : B ≤ g) (hm : l.length ≤ maxLen) : Own (w.alloc (.cells cs 5)) B (.slice (some ⟨g, 0, none⟩) l.length l.length) l := by
  subst hg
  unfold Own
  rw [← hcs]
  exact World.ownsRow_lit w cs l.length hB hm (by have := congrArg List.length hcs; simpa using this)

theorem sum4_cells (n : Nat) (z0 z1 z2 z3 : Int) (h0 : z0 = ((n % 256 : Nat) : Int)) (h1 : z1 = ((n / 256 % 256 : Nat) : Int)) (h2 : z2 = ((n / 65536 % 256 : Nat) : Int)) (h3 : z3 = ((n / 16777216 % 256 : Nat) : Int)) :
    (#[.int .u8 z0, .int .u8 z1, .int .u8 z2, .int .u8 z3] : Array Value).toList = (sum4 n).map bv := by
  subst h0 h1 h2 h3
  have a0 : n % 256 < 256 := Nat.mod_lt _ (by decide)
  have a1 : n / 256 % 256 < 256 := Nat.mod_lt _ (by decide)
  have a2 : n / 65536 % 256 < 256 := Nat.mod_lt _ (by decide)
  have a3 : n / 16777216 % 256 < 256 := Nat.mod_lt _ (by decide)
  simp only [sum4, List.map_cons, List.map_nil, bv, toNat_small a0, toNat_small a1, toNat_small a2, toNat_small a3]

set_option maxHeartbeats 400000 in
theorem fsum_any (v : Value) (l : List UInt8) (w : World) (hv : Bs w v l) (ht : Tab w) (hl : l.length ≤ 9223372036854775807) :
    Calls Tryd.prog 35 #[v] w fun e w' => ∃ u, e = .returned u ∧ Own w' w.heap.size u (sum4 (sumOf 0 l)) ∧ Fr Non w w' := by
  have HB := Lib.hid hv
  have HT := Lib.hid ht
  have Hs := Lib.hid (sumOf_lt l (s := 0) (by decide))
  obtain ⟨A, c, rfl, _⟩ := hv
  clear ht
  go_enter Tryd.func35, Tryd.ntmps35
  go_wp2_with fail
  refine (of_one _ _ _ _ rfl HB.out HT.out hl).mono ?_
  rintro e w1 ⟨rfl, rfl⟩
  have hn := Hs.out
  generalize hS : sumOf 0 l = n at *
  have HS := Lib.hid hS
  clear hS
  go_wp2
  go_ret
  refine ⟨.slice (some ⟨w.heap.size + 1, 0, none⟩) 4 4, rfl, ?_, ((Fr.refl _ _).alloc _).alloc _⟩
  rw [HS.out]
  refine own_lit (w.alloc (.cells #[.slice A l.length c] 24)) w.heap.size (w.heap.size + 1) (sum4 n) _ (sum4_cells n _ _ _ _ ?_ ?_ ?_ ?_) (by simp) (by simp) (by rw [sum4_length]; unfold maxLen; omega) <;> omega

set_option maxHeartbeats 1000000 in
theorem fput_any (v : Value) (l : List UInt8) (w : World) (hv : Bs w v l) (ht : Tab w) (hl : l.length < 549755813888) :
    Calls Tryd.prog 19 #[v] w fun e w' => ∃ u, e = .returned u ∧ Own w' w.heap.size u (frameB l) ∧ Fr Non w w' := by
  have HB := Lib.hid hv
  have HT := Lib.hid ht
  have Hn := Lib.hid (show l.length < two64 by unfold two64; omega)
  obtain ⟨A, c, rfl, _⟩ := hv
  clear ht
  go_enter Tryd.func19, Tryd.ntmps19
  go_wp2_with fail
  refine (vnum_any l.length w Hn.out).mono ?_
  rintro e w1 ⟨v1, rfl, hown1, hfr1⟩
  obtain ⟨A1, c1, rfl⟩ := hown1.bs.shape
  go_wp2_with fail
  refine (fsum_any _ l w1 (HB.out.non hfr1) (HT.out.non hfr1) (by omega)).mono ?_
  rintro e w2 ⟨v2, rfl, hown2, hfr2⟩
  obtain ⟨A2, c2, rfl⟩ := hown2.bs.shape
  go_wp2_with fail
  refine (concat_any w2.heap.size 3 3 [.slice A1 (Lib.uvarint l.length).length c1, .slice A2 (sum4 (sumOf 0 l)).length c2, .slice A l.length c] [Lib.uvarint l.length, sum4 (sumOf 0 l), l] _ rfl (by omega) (Parts.three (hown1.bs.non hfr2) hown2.bs (HB.out.non (hfr1.trans hfr2))) ?_).mono ?_
  · have := Lib.uvarint_length64 Hn.out
    simp [sum4_length]; omega
  · rintro e w3 ⟨v3, rfl, hown3, hfr3⟩
    go_wp2
    go_ret
    refine ⟨v3, rfl, ?_, ((hfr1.then hfr2).alloc _).then hfr3⟩
    have h := hown3.mono (B' := w.heap.size) (by have := hfr1.size; have := hfr2.size; simp; omega)
    simpa [frameB] using h

/-- the head: how many bytes are to come, and how many bytes that number has -/
theorem min3 (l : List UInt8) : (l.take 3).length = min l.length 3 := by rw [List.length_take]; omega

end Go.Proofs.YtdofgniemkahnaaDoor


namespace Go.Proofs.YtdofgniemkahnaaDoor
set_option linter.unusedVariables false
set_option linter.unusedSimpArgs false
set_option maxRecDepth 100000
open Go.RowKit

theorem ret_two {v : Value} {k : IntKind} {a b : Int} (h : a = b) : Ending.returned (.tuple #[v, .int k a]) = .returned (.tuple #[v, .int k b]) := by rw [h]
theorem Bs.drewN {w : World} {v : Value} {l : List UInt8} (h : Bs w v l) (n : Nat) : Bs (w.drewN n) v l := h
theorem Tab.drewN {w : World} (h : Tab w) (n : Nat) : Tab (w.drewN n) := h
theorem ret_three {v : Value} {k j : IntKind} {a b c d : Int} (h : a = b) (h2 : c = d) : Ending.returned (.tuple #[v, .int k a, .int j c]) = .returned (.tuple #[v, .int k b, .int j d]) := by rw [h, h2]
/-- a slice's beginning -/
theorem Bs.pre {w : World} {A : Option Addr} {n c k : Nat} {l : List UInt8} (h : Bs w (.slice A n c) l) (hk : k ≤ n) : Bs w (.slice A k c) (l.take k) := by
  obtain ⟨A0, c0, he, h1, h2, h3⟩ := h
  simp only [Value.slice.injEq] at he
  obtain ⟨rfl, rfl, rfl⟩ := he
  have hl : (l.take k).length = k := by rw [List.length_take]; omega
  refine ⟨A, c, by rw [hl], by rw [hl]; omega, h2, fun a ha j hj => ?_⟩
  rw [h3 a ha j (by rw [hl] at hj; omega)]
  simp

set_option maxHeartbeats 1000000 in
theorem flength_any (v : Value) (l : List UInt8) (w : World) (hv : Bs w v l) (hl : l.length ≤ 9223372036854775807) :
    Calls Tryd.prog 52 #[v] w fun e w' => e = .returned (.tuple #[.int .i64 (hN l), .int .i64 (hS l)]) ∧ Fr Non w w' := by
  have HB := Lib.hid hv
  obtain ⟨A, c, rfl, hlc, _⟩ := hv
  have h0 : Calls Tryd.prog 21 #[.int .u64 1048576] w _ := vnum_any 1048576 w (by unfold two64; omega)
  have H3 := Lib.hid (head3 l)
  have HL := Lib.hid (min3 l)
  have key : ∀ (w1 : World) (n : Nat), n = (l.take 3).length → Fr Non w w1 → Bs w1 (.slice A n c) (l.take 3) := by
    intro w1 n hn hf
    subst hn
    rw [HL.out]
    have := (HB.out.non hf).pre (k := min l.length 3) (by omega)
    rwa [List.take_eq_take_iff.2 (show min (min l.length 3) l.length = min 3 l.length by omega)] at this
  have HK := Lib.hid key
  clear key
  have HA := Lib.hid (fun (W : World) o => (Fr.refl Non W).alloc o)
  have goal2 : ∀ n : Nat, n = (l.take 3).length → (n = 3 ∧ 3 < l.length ∨ n = l.length ∧ ¬ 3 < l.length) → Calls Tryd.prog 52 #[.slice A l.length c] w fun e w' => e = .returned (.tuple #[.int .i64 (hN l), .int .i64 (hS l)]) ∧ Fr Non w w' := by
    intro n hn hc
    have HN := Lib.hid hn
    clear hn
    rcases hc with ⟨rfl, h3⟩ | ⟨rfl, h3⟩
    all_goals
      go_enter Tryd.func52, Tryd.ntmps52
      go_wp2_with fail
      refine h0.mono ?_
      rintro e w1 ⟨v1, rfl, hown1, hfr1⟩
      obtain ⟨A1, c1, rfl⟩ := hown1.bs.shape
      rw [uv_big20]
      have HF1 := Lib.hid hfr1
      clear hown1 hfr1 h0
      have h3' : (3 : Int) < l.length ∨ ¬ (3 : Int) < l.length := by omega
      go_wp2_with fail
      refine (from_any _ (l.take 3) w1 (HK.out _ _ (by first | exact HN.out | (rw [List.length_take]; omega)) HF1.out)).mono ?_
      rintro e w2 ⟨rfl, hs2, hf2⟩
      go_wp2_with fail
      refine (below_any w1.heap.size (l.take 3) false 1048577 w2 hs2 (by omega)).mono ?_
      rintro e w3 ⟨rfl, hs3, hf3⟩
      have hf : Fr Non w w3 := (HF1.out.trans hf2).fresh hf3 (fun k hk => by have e : k = w1.heap.size := hk; have := HF1.out.size; omega)
      have HF := Lib.hid hf
      clear hf hf2 hf3 hs2
      rw [show (1048577 : Int) - 1 = 1048576 by omega] at hs3 ⊢
      have HS := Lib.hid hs3
      go_wp2_with fail
      refine (ok_any _ _ _ w3 HS.out).mono ?_
      rintro e w4 ⟨rfl, rfl⟩
      rcases H3.out with ⟨e1, e2, e3⟩ | ⟨e1, e2, e3, e4⟩
      · rw [e1]
        have HE := Lib.hid (And.intro e2 e3)
        clear e2 e3 e1
        go_wp2_with fail
        go_ret2
        rw [HE.out.1, HE.out.2]
        exact ⟨rfl, HF.out⟩
      · rw [e1, e2]
        have HE := Lib.hid (And.intro e3 HN.out)
        clear e2 e3 e4 e1
        generalize hs2 : hS l = s at *
        generalize hm2 : hN l = m at *
        have HS2 := Lib.hid hs2
        have HM2 := Lib.hid hm2
        clear hs2 hm2
        go_wp2_with fail
        refine (left_any _ _ _ w3 HS.out).mono ?_
        rintro e w5 ⟨rfl, rfl⟩
        have HQ : Hid (_ = s + (mostR (l.take 3) 1048576).length) := Lib.hid (HE.out.2.trans HE.out.1)
        clear HE HS hs3
        generalize (mostR (l.take 3) 1048576).length = r at *
        have hb : r ≤ l.length := by have := HQ.out; have := min3 l; omega
        go_wp2_with fail
        go_ret2
        refine ⟨?_, HF.out⟩
        rw [HM2.out, HS2.out]
        refine ret_two ?_
        have := HQ.out; omega
  by_cases h3 : 3 < l.length
  · exact goal2 3 (by rw [HL.out]; omega) (.inl ⟨rfl, h3⟩)
  · exact goal2 l.length (by rw [HL.out]; omega) (.inr ⟨rfl, h3⟩)
theorem slice_lh (A : Option Addr) (n c k m : Nat) (kl kh : IntKind) (z y : Int) (hz : z = (k : Int)) (hy : y = (m : Int)) (hk : k ≤ m) (hm : m ≤ n) (hn : n ≤ c) :
    ∃ A' c', (∀ W, (Instr.slice 24 (.slice A n c) (some (.int kl z)) (some (.int kh y)) none).run Tryd.prog W = .ok (.slice A' (m - k) c') W) ∧
      (∀ W l, l.length = n → Bs W (.slice A n c) l → Bs W (.slice A' (m - k) c') ((l.drop k).take (m - k))) ∧ (Value.slice A' (m - k) c').ownBlock = (Value.slice A n c).ownBlock := by
  subst hz hy
  refine ⟨if c = k then A else A.map (·.add k), c - k, fun W => ?_, ?_, ?_⟩
  · rw [run_slice_any W 24 A n c Tryd.underlying24]
    have hb : (Instr.sliceBounds true n c (some (.int kl (k : Int))) (some (.int kh (m : Int))) none).run Tryd.prog W = .ok (k, m, c) W := by
      simp [Instr.sliceBounds, run_sliceBound, hk, show m ≤ c by omega]
    rw [hb]
    simp only [Result.andThen_ok, sz_u8]
    simp [sliced]
  · rintro W l hl ⟨A0, c0, he, h1, h2, h3⟩
    simp only [Value.slice.injEq] at he
    obtain ⟨rfl, hl', rfl⟩ := he
    have hlen : ((l.drop k).take (m - k)).length = m - k := by rw [List.length_take, List.length_drop]; omega
    refine ⟨if c = k then A else A.map (·.add k), c - k, by rw [hlen], by rw [hlen]; omega, fun e => ?_, fun a ha j hj => ?_⟩
    · split at e
      · have := h2 e; omega
      · have := h2 (by simpa using e); omega
    · rw [hlen] at hj
      rw [if_neg (by omega)] at ha
      cases A with
      | none => cases ha
      | some b =>
        obtain rfl : b.add k = a := by simpa using ha
        rw [add_add, h3 b rfl (k + j) (by omega)]
        simp
  · split
    · cases A <;> rfl
    · cases A <;> simp [Value.ownBlock, add_block]

set_option maxHeartbeats 1000000 in
theorem ffirst_any (v : Value) (l : List UInt8) (w : World) (hv : Bs w v l) (ht : Tab w) (hl : l.length < 1099511627776) :
    Calls Tryd.prog 38 #[v] w fun e w' => ∃ u, e = .returned (.tuple #[u, .int .i64 (gN l), .int .i64 (gE l)]) ∧ Bs w' u (gB l) ∧ Fr Non w w' ∧ ∀ k, u.ownBlock = some k → v.ownBlock = some k := by
  have HB := Lib.hid hv
  have HT := Lib.hid ht
  obtain ⟨A, c, rfl, hlc, _⟩ := hv
  clear ht
  have h0 := flength_any _ l w HB.out (by omega)
  have hs0 := hS_le l
  have hn0 := hN_le l
  by_cases hf : fits l = true
  · have hb := of_decide_eq_true (show decide (hS l ≠ 0 ∧ hS l + 4 + hN l ≤ l.length) = true from hf)
    have HF := Lib.hid hf
    have HGB : Hid (bodyF l = (l.drop (hS l + 4)).take (hN l)) := Lib.hid rfl
    have HGS : Hid (sumOk l = ((l.drop (hS l)).take 4 == sum4 (sumOf 0 (bodyF l)))) := Lib.hid rfl
    clear hf
    generalize hs2 : hS l = s at *
    generalize hm2 : hN l = m at *
    have HS2 := Lib.hid hs2
    have HM2 := Lib.hid hm2
    clear hs2 hm2
    obtain ⟨A1, c1, hrun1, hbs1, how1⟩ := slice_lh A l.length c (s + 4) (s + 4 + m) .i64 .i64 ((s : Int) + 4) ((s : Int) + 4 + m) (by omega) (by omega) (by omega) (by omega) hlc
    obtain ⟨ad, rfl⟩ : ∃ ad, A = some ad := by
      cases A with
      | some ad => exact ⟨ad, rfl⟩
      | none =>
        obtain ⟨_, _, he, h1, h2, _⟩ := HB.out
        simp only [Value.slice.injEq] at he
        obtain ⟨rfl, _, rfl⟩ := he
        have := h2 rfl
        omega
    have hbs2 : ∀ W, Bs W (.slice (some ad) l.length c) l → Bs W (.slice (some (ad.add s)) 4 (c - s)) ((l.drop s).take 4) := by
      rintro W ⟨A0, c0, he, h1, h2, h3⟩
      simp only [Value.slice.injEq] at he
      obtain ⟨rfl, hl', rfl⟩ := he
      have hlen : ((l.drop s).take 4).length = 4 := by rw [List.length_take, List.length_drop]; omega
      refine ⟨some (ad.add s), c - s, by rw [hlen], by rw [hlen]; omega, (fun h => by cases h), fun a ha j hj => ?_⟩
      cases ha
      rw [hlen] at hj
      rw [add_add, h3 ad rfl (s + j) (by omega)]
      simp
    rw [show s + 4 + m - (s + 4) = m by omega] at hrun1 hbs1 how1
    have H1 := Lib.hid (fun W h => hbs1 W l rfl h)
    have H2 := Lib.hid hbs2
    have HO := Lib.hid how1
    clear hbs1 hbs2 how1
    have hz : ((s : Int) == 0) = false := by rw [beq_eq_false_iff_ne]; omega
    go_enter Tryd.func38, Tryd.ntmps38
    go_wp2_with fail
    refine h0.mono ?_
    rintro e w1 ⟨rfl, hfr⟩
    have HB1 := Lib.hid (HB.out.non hfr)
    have HT1 := Lib.hid (HT.out.non hfr)
    have HFR := Lib.hid hfr
    clear hfr h0
    go_wp2_with fail
    have Hb := Lib.hid (H1.out _ HB1.out)
    have HbL := Lib.hid (show ((l.drop (s + 4)).take m).length ≤ 9223372036854775807 by rw [List.length_take]; omega)
    have t1 : (0 : Int) ≤ s + 4 := by omega
    have t6 : IntKind.i64.wrap ((s : Int) + 4) = s + 4 := IntWalk.i64_in _ ⟨by omega, by omega⟩
    have t2 : ((s : Int) + 4).toNat = s + 4 := by omega
    have t3 : ¬ (c = s) := by omega
    have t4 : s + 4 ≤ c := by omega
    have t5 : (s : Int) + 4 ≤ c := by omega
    clear hrun1
    go_region_with (first | (go_at_call 35; refine (fsum_any _ _ _ (Hb.out.drewN _) (HT1.out.drewN _) HbL.out).mono ?_; rintro e w3 ⟨v3, rfl, hown3, hfr3⟩) | (go_at_call 53; refine (equal_any _ _ _ _ _ (H2.out _ ((HB1.out.drewN _).non hfr3)) hown3.bs).mono ?_; rintro e w4 ⟨rfl, rfl⟩))
    all_goals
      have hfr : Fr Non w w3 := HFR.out.trans (w1 := w1) ⟨hfr3.os, hfr3.tape, hfr3.output, hfr3.size, hfr3.block⟩
      have HR := Lib.hid hfr
      have HBb := Lib.hid (Hb.out.non (w' := w3) ⟨hfr3.os, hfr3.tape, hfr3.output, hfr3.size, hfr3.block⟩)
      clear hfr hown3 hfr3
      rw [← HGB.out]
      rw [← HGB.out] at HBb
      rw [← HGS.out]
      have HF2 := Lib.hid (show gE l = (if sumOk l then 0 else 13) ∧ gB l = (if sumOk l then bodyF l else []) ∧ gN l = (if sumOk l then hS l + 4 + hN l else 0) by
        unfold gE gB gN; rw [HF.out]; exact ⟨rfl, rfl, rfl⟩)
      cases hq : sumOk l
      · go_wp2
        go_ret3
        rw [HF2.out.1, HF2.out.2.1, HF2.out.2.2, hq]
        exact ⟨_, rfl, Bs.nil_ _, HR.out, fun k hk => by cases hk⟩
      · go_wp2
        go_ret3
        rw [HF2.out.1, HF2.out.2.1, HF2.out.2.2, hq, HS2.out, HM2.out]
        refine ⟨.slice A1 m c1, ?_, HBb.out, HR.out, fun k hk => by rw [← HO.out]; exact hk⟩
        exact ret_three (by simp) (by simp)
  · have hf' : fits l = false := by simpa using hf
    have HF2 := Lib.hid (show gE l = 2 ∧ gB l = [] ∧ gN l = 0 by unfold gE gB gN; rw [hf']; exact ⟨rfl, rfl, rfl⟩)
    have hb : ¬ (hS l ≠ 0 ∧ hS l + 4 + hN l ≤ l.length) := of_decide_eq_false hf'
    clear hf hf'
    have fin : ∀ w', Fr Non w w' → ∃ u, Ending.returned (.tuple #[.slice none 0 0, .int .i64 0, .int .i64 2]) = Ending.returned (.tuple #[u, .int .i64 (gN l), .int .i64 (gE l)]) ∧ Bs w' u (gB l) ∧ Fr Non w w' ∧ ∀ k, u.ownBlock = some k → (Value.slice A l.length c).ownBlock = some k := by
      intro w' h
      rw [HF2.out.1, HF2.out.2.1, HF2.out.2.2]
      exact ⟨_, rfl, Bs.nil_ _, h, fun k hk => by cases hk⟩
    have FIN := Lib.hid fin
    clear fin HF2
    generalize hS l = s at *
    generalize hN l = m at *
    by_cases h0s : s = 0
    · subst h0s
      go_enter Tryd.func38, Tryd.ntmps38
      go_wp2_with fail
      refine h0.mono ?_
      rintro e w1 ⟨rfl, hfr⟩
      go_wp2
      go_ret3
      exact FIN.out _ hfr
    · have hz : ((s : Int) == 0) = false := by rw [beq_eq_false_iff_ne]; omega
      have hlt : (l.length : Int) < s + 4 + m := by omega
      go_enter Tryd.func38, Tryd.ntmps38
      go_wp2_with fail
      refine h0.mono ?_
      rintro e w1 ⟨rfl, hfr⟩
      go_wp2
      go_ret3
      exact FIN.out _ hfr

theorem fget_any (v : Value) (l : List UInt8) (w : World) (hv : Bs w v l) (ht : Tab w) (hl : l.length < 1099511627776) :
    Calls Tryd.prog 23 #[v] w fun e w' => ∃ u, e = .returned (.tuple #[u, .int .i64 (gN l), .int .i64 (gE l)]) ∧ Own w' w.heap.size u (gB l) ∧ Fr Non w w' := by
  have h0 := ffirst_any v l w hv ht hl
  have hb : Hid ((gB l).length < 140737488355328) := Lib.hid (by
    unfold gB; split
    · unfold bodyF; rw [List.length_take]; have := hN_le l; omega
    · simp)
  clear hv ht
  go_enter Tryd.func23, Tryd.ntmps23
  go_wp2_with fail
  refine h0.mono ?_
  rintro e w1 ⟨u, rfl, hu, hf, _⟩
  go_wp2_with fail
  refine (clone_any u _ w1 hu hb.out).mono ?_
  rintro e w2 ⟨u2, rfl, hown, hf2⟩
  go_wp2
  go_ret3
  exact ⟨u2, rfl, hown.mono hf.size, hf.trans hf2⟩
end Go.Proofs.YtdofgniemkahnaaDoor


namespace Go.Proofs.YtdofgniemkahnaaDoor
set_option linter.unusedVariables false
set_option linter.unusedSimpArgs false
set_option maxRecDepth 100000
open Go.RowKit

theorem SAt.new {w : World} {v : Value} {l : List UInt8} (h : Bs w v l) (hl : ∀ k, v.ownBlock = some k → k < w.heap.size) :
    SAt (w.alloc (.cells #[v, .bool false] 55)) w.heap.size (One w.heap.size) l false :=
  ⟨v, Blk.new w _ _, h.non ((Fr.refl _ _).alloc _), (fun k hk e => by have := hl k hk; have e' : k = w.heap.size := e; omega), rfl, fun h => by cases h⟩

theorem Own.drewN {w : World} {B : Nat} {v : Value} {l : List UInt8} (h : Own w B v l) (n : Nat) : Own (w.drewN n) B v l := h

theorem num4_int (a b c d : UInt8) : ((num4 a b c d : Nat) : Int) = (a.toNat : Int) + 256 * b.toNat + 65536 * c.toNat + 16777216 * d.toNat := by
  unfold num4; omega

set_option maxHeartbeats 1000000 in
theorem rgetO_any (v : Value) (l : List UInt8) (w : World) (hv : Bs w v l) (hvl : ∀ k, v.ownBlock = some k → k < w.heap.size) (hl : l.length < 1000000000) :
    Calls Tryd.prog 28 #[v] w fun e w' => ∃ u, e = .returned (.tuple #[u, .int .i64 (gN l), .int .i64 (gE l)]) ∧ Own w' w.heap.size u (gB l) ∧ Fr Non w w' := by
  have HB := Lib.hid hv
  have HS0 := Lib.hid (SAt.new hv hvl)
  have HA := Lib.hid (fun (W : World) o => (Fr.refl Non W).alloc o)
  obtain ⟨A, c, rfl, hlc, _⟩ := hv
  clear hvl
  have HRB := Lib.hid (ref_bad l)
  have hml : (mostR l 1048576).length ≤ l.length := by
    unfold mostR; split
    · exact rest_le l
    · simp
  have hcl : ∀ q : List UInt8, q.length ≤ l.length → (cutR q 4).length ≤ l.length := by
    intro q hq; unfold cutR; split
    · rw [List.length_drop]; omega
    · simp
  have HM := Lib.hid (show (mostR l 1048576).length < 1000000000 by omega)
  have HC := Lib.hid (show (cutR (mostR l 1048576) 4).length < 1000000000 by have := hcl _ hml; omega)
  clear hml hcl
  go_enter Tryd.func28, Tryd.ntmps28
  go_wp2_with fail
  refine (rbelow_any w.heap.size (One w.heap.size) l false 1048577 _ HS0.out hl (by omega)).mono ?_
  rintro e w1 ⟨rfl, hs1, hf1⟩
  rw [show (1048577 : Int) - 1 = 1048576 by omega] at hs1 ⊢
  have h1s := hf1.size
  simp at h1s
  have hg1 : ∀ k, One w.heap.size k → w.heap.size ≤ k := fun k e => by have e' : k = w.heap.size := e; omega
  have hF1 : Fr Non w w1 := (HA.out _ _).fresh hf1 hg1
  clear hf1
  go_wp2_with fail
  refine (rtake_any w.heap.size (One w.heap.size) _ _ 4 w1 hs1 HM.out).mono ?_
  rintro e w2 ⟨v2, rfl, hb2, hn2, hs2, hf2⟩
  have h2s := hf2.size
  have hF2 : Fr Non w w2 := hF1.fresh hf2 hg1
  clear hf2 hs1
  go_wp2_with fail
  refine (rtakeO_any w.heap.size (One w.heap.size) _ _ _ w2 hs2 HC.out).mono ?_
  rintro e w3 ⟨v3, rfl, hb3, hs3, hf3⟩
  rw [HRB.out] at hs3
  have hb2' : Bs w3 v2 _ := hb2.fr hf3 (fun k hk e => by have := hn2 k hk; have e' : k = w.heap.size := e; omega)
  have hF3 : Fr Non w w3 := hF2.fresh hf3 hg1
  have HF3 := Lib.hid hF3
  have hb3 := hb3.mono (B' := w.heap.size) (by omega)
  clear hf3 hs2 hb2 hn2 hF1 hF2 hF3
  obtain ⟨A3, c3, k0, k1, _, _, _, _, _, _⟩ := hs3.cells
  by_cases hf : fits l = true
  · obtain ⟨r1, r2, r3, r4, r5, r6⟩ := ref_fit hf
    rw [r1] at hb2'
    rw [r4] at hb3
    rw [hf] at k1
    simp at k1
    have HGE := Lib.hid (show gE l = (if sumOk l then 0 else 13) ∧ gB l = (if sumOk l then bodyF l else []) ∧ gN l = (if sumOk l then hS l + 4 + hN l else 0) by
        unfold gE gB gN; rw [hf]; exact ⟨rfl, rfl, rfl⟩)
    have HSO : Hid (sumOk l = ((l.drop (hS l)).take 4 == sum4 (sumOf 0 (bodyF l)))) := Lib.hid rfl
    have hbd := of_decide_eq_true (show decide (hS l ≠ 0 ∧ hS l + 4 + hN l ≤ l.length) = true from hf)
    have hk0 : (cutR (cutR (mostR l 1048576) 4) (mostV l 1048576)).length = l.length - (hS l + 4 + hN l) := by rw [r5, List.length_drop]
    rw [hk0] at k0
    have HBL := Lib.hid (show (bodyF l).length ≤ 9223372036854775807 by unfold bodyF; rw [List.length_take]; have := hN_le l; omega)
    clear r1 r3 r4 r5 r6 hf hk0 HRB HM HC HS0
    generalize (l.drop (hS l)).take 4 = q at *
    match q, r2 with
    | [q0, q1, q2, q3], _ =>
      have HB3 := Lib.hid hb3
      have HB2 := Lib.hid hb2'
      obtain ⟨A2, c2, rfl, hc2, hnil, hcell⟩ := hb2'
      obtain ⟨A4, c4, rfl⟩ := hb3.bs.shape
      clear hb3
      cases A2 with
      | none => have := hnil rfl; simp at hc2; omega
      | some ad =>
        have e0 := hcell ad rfl 0 (by simp)
        have e1 := hcell ad rfl 1 (by simp)
        have e2 := hcell ad rfl 2 (by simp)
        have e3 := hcell ad rfl 3 (by simp)
        simp only [bv, Addr.add_zero', Addr.add_succ', List.getElem_cons_zero, List.getElem_cons_succ, Nat.zero_add, Nat.reduceAdd] at e0 e1 e2 e3
        have b0 : q0.toNat < 256 := q0.toNat_lt
        have b1 : q1.toNat < 256 := q1.toNat_lt
        have b2 : q2.toNat < 256 := q2.toNat_lt
        have b3 : q3.toNat < 256 := q3.toNat_lt
        have HNI := Lib.hid (num4_int q0 q1 q2 q3)
        clear hcell hnil hc2
        generalize q0.toNat = n0 at *
        generalize q1.toNat = n1 at *
        generalize q2.toNat = n2 at *
        generalize q3.toNat = n3 at *
        have v0 : IntKind.u32.wrap (n0 : Int) = n0 := IntWalk.u32_in _ ⟨by omega, by omega⟩
        have v1 : IntKind.u32.wrap (n1 : Int) = n1 := IntWalk.u32_in _ ⟨by omega, by omega⟩
        have v2 : IntKind.u32.wrap (n2 : Int) = n2 := IntWalk.u32_in _ ⟨by omega, by omega⟩
        have v3 : IntKind.u32.wrap (n3 : Int) = n3 := IntWalk.u32_in _ ⟨by omega, by omega⟩
        have w1' : IntKind.u32.wrap (256 * (n1 : Int)) = 256 * n1 := IntWalk.u32_in _ ⟨by omega, by omega⟩
        have w2' : IntKind.u32.wrap (65536 * (n2 : Int)) = 65536 * n2 := IntWalk.u32_in _ ⟨by omega, by omega⟩
        have w3' : IntKind.u32.wrap (16777216 * (n3 : Int)) = 16777216 * n3 := IntWalk.u32_in _ ⟨by omega, by omega⟩
        have w4' : IntKind.u32.wrap ((n0 : Int) + 256 * n1) = n0 + 256 * n1 := IntWalk.u32_in _ ⟨by omega, by omega⟩
        have w5' : IntKind.u32.wrap ((n0 : Int) + 256 * n1 + 65536 * n2) = n0 + 256 * n1 + 65536 * n2 := IntWalk.u32_in _ ⟨by omega, by omega⟩
        have w6' : IntKind.u32.wrap ((n0 : Int) + 256 * n1 + 65536 * n2 + 16777216 * n3) = n0 + 256 * n1 + 65536 * n2 + 16777216 * n3 := IntWalk.u32_in _ ⟨by omega, by omega⟩
        go_wp2_with fail
        go_quiet (fail)
        rw [← HNI.out]
        have HX := Lib.hid (num4_is q0 q1 q2 q3 (sumOf 0 (bodyF l)) (sumOf_lt _ (by decide)))
        clear e0 e1 e2 e3 v0 v1 v2 v3 w1' w2' w3' w4' w5' w6' HNI
        generalize num4 q0 q1 q2 q3 = p at *
        go_wp2_with fail
        refine (rof_any _ (bodyF l) _ (HB3.out.bs.drewN _) HBL.out).mono ?_
        rintro e w5 ⟨rfl, rfl⟩
        cases hq : sumOk l
        · have hpn : ¬ (p = sumOf 0 (bodyF l)) := by
            intro h
            have h2 := HX.out.1 h
            have h3 := HSO.out
            rw [hq, h2] at h3
            simp at h3
          have hne : (((p : Nat) : Int) != ((sumOf 0 (bodyF l) : Nat) : Int)) = true := by
            rw [bne_iff_ne]; omega
          clear hpn
          go_wp2_with fail
          go_ret3
          rw [HGE.out.1, HGE.out.2.1, HGE.out.2.2, hq]
          exact ⟨_, rfl, own_nil _ _, HF3.out.drewN _⟩
        · have hpn : p = sumOf 0 (bodyF l) := by
            apply HX.out.2
            have h3 := HSO.out
            rw [hq] at h3
            exact (beq_iff_eq.1 h3.symm)
          have hne : (((p : Nat) : Int) != ((sumOf 0 (bodyF l) : Nat) : Int)) = false := by
            rw [bne_eq_false_iff_eq]; omega
          have HP := Lib.hid hpn
          clear hpn
          generalize sumOf 0 (bodyF l) = sb at *
          generalize hsz : hS l + 4 + hN l = sz at *
          have HZ := Lib.hid hsz
          clear hsz
          have hsz2 : sz ≤ l.length := hbd.2
          have hsub : IntKind.i64.wrap ((l.length : Int) - ((l.length - sz : Nat) : Int)) = sz := by rw [IntWalk.i64_in _ ⟨by omega, by omega⟩]; omega
          go_wp2_with fail
          go_quiet (fail)
          go_wp2
          go_ret3
          rw [HGE.out.1, HGE.out.2.1, HGE.out.2.2, hq]
          refine ⟨.slice A4 (bodyF l).length c4, ?_, (HB3.out.drewN _).drewN _, (HF3.out.drewN _).drewN _⟩
          exact ret_three (by simp) (by simp)
  · have hf' : fits l = false := by simpa using hf
    rw [hf'] at k1
    have HF2 := Lib.hid (show gE l = 2 ∧ gB l = [] ∧ gN l = 0 by unfold gE gB gN; rw [hf']; exact ⟨rfl, rfl, rfl⟩)
    clear hf hf' HRB HM HC HS0
    simp at k1
    go_wp2_with fail
    go_ret3
    rw [HF2.out.1, HF2.out.2.1, HF2.out.2.2]
    exact ⟨_, rfl, own_nil _ _, HF3.out⟩

end Go.Proofs.YtdofgniemkahnaaDoor


namespace Go.Proofs.YtdofgniemkahnaaDoor
set_option linter.unusedVariables false
set_option linter.unusedSimpArgs false
set_option maxRecDepth 100000
open Go.RowKit

/-- append of one value of one cell, which was stored in a new block first -/
theorem run_pushv (T E ty : TypeId) (z : Value) (by_ : Nat) (hT : Tryd.prog.underlying T = some (.slice E)) (hinfo : (Tryd.prog.info? E).map (fun i => (i.zero, i.size, i.bytes)) = some (some z, 1, by_)) (hz : z.cells.size = 1)
    (w0 : World) (B : Nat) (v u : Value) (xs : List Value) (hown : w0.ownsRow B E 1 v xs.length xs) (h1 : u.oneCell' = true) (hl : (xs.length + 1) * by_ ≤ 140737488355328) (hm : xs.length + 1 ≤ maxLen) (hB : B ≤ w0.heap.size) (g : Nat) (hg : g = w0.heap.size) :
    ∃ v' w', (Builtin.append_ #[T, T] ty #[v, .slice (some ⟨g, 0, none⟩) 1 1]).run Tryd.prog (w0.alloc (.cells #[u] E)) = .ok v' w' ∧ w'.ownsRow B E 1 v' (xs ++ [u]).length (xs ++ [u]) ∧ Fr (fun k => v.ownBlock = some k) w0 w' := by
  subst hg
  obtain ⟨i, hi, hz0, hz1, hz2⟩ := info_parts hinfo
  have ho : (w0.alloc (.cells #[u] E)).ownsRow B E 1 v xs.length xs := by
    refine ⟨hown.1, ?_⟩
    rcases hown.2 with h2 | ⟨g, cap, cur, hv, hb, hg, r⟩
    · exact .inl h2
    · exact .inr ⟨g, cap, cur, hv, hb, by rw [Below.heap_alloc _ _ _ (Array.getElem?_eq_some_iff.1 hg).1]; exact hg, r⟩
  obtain ⟨v', w', hr, h2, h3, h4⟩ := run_append_own (P := Tryd.prog) (w0.alloc (.cells #[u] E)) B T ty E i z 1 by_ hT hi hz0 hz1 hz2 hz (by omega) v xs.length xs ho ⟨w0.heap.size, 0, none⟩ 1 1 [u] rfl
    (fun j x hj => by
      cases j with
      | zero =>
        obtain rfl : u = x := by simpa using hj
        exact cell_new1 _ _ _
      | succ j => simp at hj)
    (fun x hx => by obtain rfl : x = u := by simpa using hx
                    exact h1) hm hl (by simp; omega)
  refine ⟨v', w', hr, by simpa using h2, ?_⟩
  exact ((Fr.refl _ _).alloc _).join (Fr.of_grown h3) fun k hk e => e.symm ▸ rfl

/-- a slice of slices of bytes that the call owns, row and all -/
def Owns (w : World) (B : Nat) (v : Value) (ls : List (List UInt8)) : Prop :=
  ∃ vs : List Value, w.ownsRow B 24 1 v vs.length vs ∧ vs.length = ls.length ∧ ∀ (i : Nat) (u : Value) (l : List UInt8), vs[i]? = some u → ls[i]? = some l → Own w B u l

theorem Own.kind {w : World} {B : Nat} {u : Value} {l : List UInt8} (h : Own w B u l) : ∀ k, u.ownBlock = some k → ∃ cur, w.heap[k]? = some (.cells cur 5 (0, 0)) := by
  intro k hk
  rcases h.2 with ⟨rfl, _⟩ | ⟨g, cap, cur, rfl, _, hg, _⟩
  · cases hk
  · obtain rfl : g = k := by simpa [Value.ownBlock] using hk
    exact ⟨cur, hg⟩
theorem row_kind {w : World} {B : Nat} {E : TypeId} {n : Nat} {v : Value} {xs : List Value} (h : w.ownsRow B E 1 v n xs) : ∀ k, v.ownBlock = some k → ∃ cur, w.heap[k]? = some (.cells cur E (0, 0)) := by
  intro k hk
  rcases h.2 with ⟨rfl, _⟩ | ⟨g, cap, cur, rfl, _, hg, _⟩
  · cases hk
  · obtain rfl : g = k := by simpa [Value.ownBlock] using hk
    exact ⟨cur, hg⟩
theorem row_keep {w w' : World} {B : Nat} {E : TypeId} {n : Nat} {v : Value} {xs : List Value} (h : w.ownsRow B E 1 v n xs) (hk : ∀ k, v.ownBlock = some k → w'.heap[k]? = w.heap[k]?) : w'.ownsRow B E 1 v n xs := by
  refine ⟨h.1, ?_⟩
  rcases h.2 with h2 | ⟨g, cap, cur, hv, hb, hg, r⟩
  · exact .inl h2
  · exact .inr ⟨g, cap, cur, hv, hb, by rw [hk g (by rw [hv]; rfl)]; exact hg, r⟩
theorem row_lt {w : World} {B : Nat} {E : TypeId} {n : Nat} {v : Value} {xs : List Value} (h : w.ownsRow B E 1 v n xs) : ∀ k, v.ownBlock = some k → B ≤ k ∧ k < w.heap.size := World.ownsRow.lt h
theorem row_mono {w : World} {B B' : Nat} {E : TypeId} {n : Nat} {v : Value} {xs : List Value} (h : w.ownsRow B E 1 v n xs) (hB : B' ≤ B) : w.ownsRow B' E 1 v n xs := by
  refine ⟨h.1, ?_⟩
  rcases h.2 with h2 | ⟨g, cap, cur, hv, hb, r⟩
  · exact .inl h2
  · exact .inr ⟨g, cap, cur, hv, by omega, r⟩

theorem Owns.lt {w : World} {B : Nat} {v : Value} {ls : List (List UInt8)} (h : Owns w B v ls) : ∀ k, v.ownBlock = some k → B ≤ k ∧ k < w.heap.size := by
  obtain ⟨vs, h1, _⟩ := h; exact row_lt h1
/-- it stays where the blocks that turn are no rows of slices and no bytes -/
theorem Owns.keep {w w' : World} {B : Nat} {v : Value} {ls : List (List UInt8)} (h : Owns w B v ls)
    (hk : ∀ k cur, (w.heap[k]? = some (.cells cur 24 (0, 0)) ∨ w.heap[k]? = some (.cells cur 5 (0, 0))) → B ≤ k → w'.heap[k]? = w.heap[k]?) : Owns w' B v ls := by
  obtain ⟨vs, h1, h2, h3⟩ := h
  refine ⟨vs, row_keep h1 fun k e => ?_, h2, fun i u l hu hl => (h3 i u l hu hl).keep fun k e => ?_⟩
  · obtain ⟨cur, hc⟩ := row_kind h1 k e
    exact hk k cur (.inl hc) (row_lt h1 k e).1
  · obtain ⟨cur, hc⟩ := (h3 i u l hu hl).kind k e
    exact hk k cur (.inr hc) ((h3 i u l hu hl).lt k e).1
theorem Owns.fr {S : Nat → Prop} {w w' : World} {B : Nat} {v : Value} {ls : List (List UInt8)} (h : Owns w B v ls) (hf : Fr S w w')
    (hS : ∀ k cur, S k → w.heap[k]? ≠ some (.cells cur 24 (0, 0)) ∧ w.heap[k]? ≠ some (.cells cur 5 (0, 0))) : Owns w' B v ls :=
  h.keep fun k cur hc _ => hf.block k (by rcases hc with e | e <;> exact (Array.getElem?_eq_some_iff.1 e).1) fun e => by
    rcases hc with h1 | h1
    · exact (hS k cur e).1 h1
    · exact (hS k cur e).2 h1
theorem Owns.non {w w' : World} {B : Nat} {v : Value} {ls : List (List UInt8)} (h : Owns w B v ls) (hf : Fr Non w w') : Owns w' B v ls := h.fr hf fun k cur e => e.elim
theorem Owns.mono {w : World} {B B' : Nat} {v : Value} {ls : List (List UInt8)} (h : Owns w B v ls) (hB : B' ≤ B) : Owns w B' v ls := by
  obtain ⟨vs, h1, h2, h3⟩ := h
  exact ⟨vs, row_mono h1 hB, h2, fun i u l hu hl => (h3 i u l hu hl).mono hB⟩
theorem Owns.bss {w : World} {B : Nat} {v : Value} {ls : List (List UInt8)} (h : Owns w B v ls) : Bss w v ls := by
  obtain ⟨vs, h1, h2, h3⟩ := h
  rcases h1.2 with ⟨rfl, h0⟩ | ⟨g, cap, cur, rfl, _, _, hle, _, _, _⟩
  · have hl : ls = [] := List.eq_nil_of_length_eq_zero (by omega)
    subst hl
    exact ⟨none, 0, rfl, Nat.le_refl _, fun _ => rfl, fun _ h => by cases h⟩
  · refine ⟨_, cap, by rw [h2], by omega, (fun h => by cases h), fun a ha j hj => ?_⟩
    cases ha
    have hj' : j < vs.length := by omega
    exact ⟨vs[j], World.ownsRow.cells h1 (g := g) rfl j _ (by simp [hj']), (h3 j vs[j] ls[j] (by simp [hj']) (by simp [hj])).bs⟩
theorem Owns.shape {w : World} {B : Nat} {v : Value} {ls : List (List UInt8)} (h : Owns w B v ls) : ∃ A c, v = .slice A ls.length c := by
  obtain ⟨A, c, rfl, _⟩ := h.bss; exact ⟨A, c, rfl⟩
/-! ### Whole numbers in a row of the call's own -/
def iv (n : Int) : Value := .int .i64 n
def OwnI (w : World) (B : Nat) (v : Value) (l : List Int) : Prop := w.ownsRow B 3 1 v (l.map iv).length (l.map iv)
theorem OwnI.non {w w' : World} {B : Nat} {v : Value} {l : List Int} (h : OwnI w B v l) (hf : Fr Non w w') : OwnI w' B v l := row_keep h fun k hk => hf.block k (row_lt h k hk).2 fun e => e
theorem OwnI.fr {S : Nat → Prop} {w w' : World} {B : Nat} {v : Value} {l : List Int} (h : OwnI w B v l) (hf : Fr S w w') (hn : ∀ k, v.ownBlock = some k → ¬ S k) : OwnI w' B v l := row_keep h fun k hk => hf.block k (row_lt h k hk).2 (hn k hk)
theorem OwnI.cell {w : World} {B : Nat} {v : Value} {l : List Int} (h : OwnI w B v l) {g n c : Nat} (hv : v = .slice (some ⟨g, 0, none⟩) n c) (j : Nat) (hj : j < l.length) : w.cell? ⟨g, j, none⟩ = some (.int .i64 l[j]) := by
  subst hv
  have := World.ownsRow.cells h (g := g) rfl j (iv l[j]) (by simp [hj])
  rwa [Addr.add_lit, Nat.zero_add] at this
end Go.Proofs.YtdofgniemkahnaaDoor


namespace Go.Proofs.YtdofgniemkahnaaDoor
set_option linter.unusedVariables false
set_option linter.unusedSimpArgs false
set_option maxRecDepth 100000
open Go.RowKit

/-- the slice v reads as the list l, each element's cell being f of it -/
def Vs {α : Type} (f : α → Value) (w : World) (v : Value) (l : List α) : Prop :=
  ∃ A c, v = .slice A l.length c ∧ l.length ≤ c ∧ (A = none → c = 0) ∧ ∀ a, A = some a → ∀ j (h : j < l.length), w.cell? (a.add j) = some (f l[j])
/-- a row of the call's own, from block B on, of elements of type E -/
def Ow {α : Type} (f : α → Value) (E : TypeId) (w : World) (B : Nat) (v : Value) (l : List α) : Prop := w.ownsRow B E 1 v l.length (l.map f)

/-- T: slices of E, whose elements have one cell -/
structure El (T E : TypeId) (z : Value) (by_ : Nat) : Prop where
  under : Tryd.prog.underlying T = some (.slice E)
  info : (Tryd.prog.info? E).map (fun i => (i.zero, i.size, i.bytes)) = some (some z, 1, by_)
  cells : z.cells = #[z]
  small : by_ ≤ 64
  elem : Tryd.prog.elem T = E
  sz : ∀ w, (sizeOf (Tryd.prog.elem T)).run Tryd.prog w = .ok 1 w

section
variable {α : Type} {f : α → Value}

theorem Vs.nil_ (w : World) : Vs f w (.slice none 0 0) [] := ⟨none, 0, rfl, Nat.le_refl _, fun _ => rfl, fun _ h => by cases h⟩
theorem Vs.keep {w w' : World} {v : Value} {l : List α} (h : Vs f w v l) (hk : ∀ k, v.ownBlock = some k → k < w.heap.size → w'.heap[k]? = w.heap[k]?) : Vs f w' v l := by
  obtain ⟨A, c, rfl, h1, h2, h3⟩ := h
  refine ⟨A, c, rfl, h1, h2, fun a ha j hj => ?_⟩
  have := h3 a ha j hj
  subst ha
  have hb := World.block_lt_of_cell? w _ this
  rw [add_block] at hb
  rw [← this]
  exact World.cell?_of_block (by rw [add_block]; exact hk _ rfl hb)
theorem Vs.fr {S : Nat → Prop} {w w' : World} {v : Value} {l : List α} (h : Vs f w v l) (hf : Fr S w w') (hn : ∀ k, v.ownBlock = some k → ¬ S k) : Vs f w' v l :=
  h.keep fun k hk hlt => hf.block k hlt (hn k hk)
theorem Vs.non {w w' : World} {v : Value} {l : List α} (h : Vs f w v l) (hf : Fr Non w w') : Vs f w' v l := h.fr hf fun _ _ e => e
theorem Vs.drew {w : World} {v : Value} {l : List α} (h : Vs f w v l) : Vs f w.drew v l := h
theorem Vs.drewN {w : World} {v : Value} {l : List α} (h : Vs f w v l) (n : Nat) : Vs f (w.drewN n) v l := h
theorem Vs.shape {w : World} {v : Value} {l : List α} (h : Vs f w v l) : ∃ A c, v = .slice A l.length c := by
  obtain ⟨A, c, rfl, _⟩ := h; exact ⟨A, c, rfl⟩
/-- its address, where it has an element -/
theorem Vs.addr {w : World} {A : Option Addr} {n c : Nat} {l : List α} (h : Vs f w (.slice A n c) l) (hl : 0 < n) : ∃ a, A = some a ∧ n = l.length ∧ n ≤ c ∧ ∀ j (h : j < l.length), w.cell? (a.add j) = some (f l[j]) := by
  obtain ⟨A0, c0, he, h1, h2, h3⟩ := h
  simp only [Value.slice.injEq] at he
  obtain ⟨rfl, rfl, rfl⟩ := he
  cases A with
  | none => have := h2 rfl; omega
  | some a => exact ⟨a, rfl, rfl, h1, h3 a rfl⟩
theorem Vs.pre {w : World} {A : Option Addr} {n c k : Nat} {l : List α} (h : Vs f w (.slice A n c) l) (hk : k ≤ n) : Vs f w (.slice A k c) (l.take k) := by
  obtain ⟨A0, c0, he, h1, h2, h3⟩ := h
  simp only [Value.slice.injEq] at he
  obtain ⟨rfl, rfl, rfl⟩ := he
  have hl : (l.take k).length = k := by rw [List.length_take]; omega
  refine ⟨A, c, by rw [hl], by rw [hl]; omega, h2, fun a ha j hj => ?_⟩
  rw [h3 a ha j (by rw [hl] at hj; omega)]
  simp

variable {E : TypeId}
theorem ow_nil (w : World) (B : Nat) : Ow f E w B (.slice none 0 0) [] := ⟨by simp, .inl ⟨rfl, rfl⟩⟩
theorem Ow.lt {w : World} {B : Nat} {v : Value} {l : List α} (h : Ow f E w B v l) : ∀ k, v.ownBlock = some k → B ≤ k ∧ k < w.heap.size := World.ownsRow.lt h
theorem Ow.vs {w : World} {B : Nat} {v : Value} {l : List α} (h : Ow f E w B v l) : Vs f w v l := by
  rcases h.2 with ⟨rfl, h0⟩ | ⟨g, cap, cur, rfl, _, _, hle, _, _, _⟩
  · have hl : l = [] := List.eq_nil_of_length_eq_zero h0
    subst hl; exact Vs.nil_ w
  · refine ⟨_, cap, rfl, hle, (fun h => by cases h), fun a ha j hj => ?_⟩
    cases ha
    exact World.ownsRow.cells h (g := g) rfl j _ (by simp [hj])
theorem Ow.shape {w : World} {B : Nat} {v : Value} {l : List α} (h : Ow f E w B v l) : ∃ A c, v = .slice A l.length c := h.vs.shape
theorem Ow.keep {w w' : World} {B : Nat} {v : Value} {l : List α} (h : Ow f E w B v l) (hk : ∀ k, v.ownBlock = some k → w'.heap[k]? = w.heap[k]?) : Ow f E w' B v l := row_keep h hk
theorem Ow.fr {S : Nat → Prop} {w w' : World} {B : Nat} {v : Value} {l : List α} (h : Ow f E w B v l) (hf : Fr S w w') (hn : ∀ k, v.ownBlock = some k → ¬ S k) : Ow f E w' B v l :=
  h.keep fun k hk => hf.block k (h.lt k hk).2 (hn k hk)
theorem Ow.non {w w' : World} {B : Nat} {v : Value} {l : List α} (h : Ow f E w B v l) (hf : Fr Non w w') : Ow f E w' B v l := h.fr hf fun _ _ e => e
theorem Ow.alloc {w : World} {B : Nat} {v : Value} {l : List α} (h : Ow f E w B v l) (o : Obj) : Ow f E (w.alloc o) B v l := h.non ((Fr.refl _ _).alloc o)
theorem Ow.drew {w : World} {B : Nat} {v : Value} {l : List α} (h : Ow f E w B v l) : Ow f E w.drew B v l := h
theorem Ow.drewN {w : World} {B : Nat} {v : Value} {l : List α} (h : Ow f E w B v l) (n : Nat) : Ow f E (w.drewN n) B v l := h
theorem Ow.mono {w : World} {B B' : Nat} {v : Value} {l : List α} (h : Ow f E w B v l) (hB : B' ≤ B) : Ow f E w B' v l := row_mono h hB
theorem Ow.kind {w : World} {B : Nat} {v : Value} {l : List α} (h : Ow f E w B v l) : ∀ k, v.ownBlock = some k → ∃ cur, w.heap[k]? = some (.cells cur E (0, 0)) := row_kind h
/-- where it has an element, it stands at a row's head -/
theorem Ow.row {w : World} {B : Nat} {v : Value} {l : List α} (h : Ow f E w B v l) (hn : 0 < l.length) : ∃ g cap, v = .slice (some ⟨g, 0, none⟩) l.length cap ∧ B ≤ g ∧ g < w.heap.size ∧ l.length ≤ cap ∧ cap ≤ maxLen := by
  rcases h.2 with ⟨rfl, h0⟩ | ⟨g, cap, cur, rfl, hb, hg, hle, hm, _⟩
  · omega
  · exact ⟨g, cap, rfl, hb, (Array.getElem?_eq_some_iff.1 hg).1, hle, hm⟩
theorem Ow.cell {w : World} {B g n cap : Nat} {l : List α} (h : Ow f E w B (.slice (some ⟨g, 0, none⟩) n cap) l) (hn : n = l.length) (j : Nat) (x : α) (hb : l[j]? = some x) : w.cell? ⟨g, j, none⟩ = some (f x) := by
  subst hn
  have hj : j < l.length := (List.getElem?_eq_some_iff.1 hb).1
  rw [World.ownsRow.cellAt h j (by omega), List.getElem?_map, hb]; rfl
theorem Ow.frozen {w : World} {B g n cap : Nat} {l : List α} (h : Ow f E w B (.slice (some ⟨g, 0, none⟩) n cap) l) (hn : n = l.length) (j : Nat) : w.frozen? ⟨g, j, none⟩ = false := by
  subst hn; exact World.ownsRow.frozenAt h j
theorem Ow.store {w : World} {B g n cap : Nat} {l : List α} (h : Ow f E w B (.slice (some ⟨g, 0, none⟩) n cap) l) (hn : n = l.length) (j : Nat) (x : α) : Ow f E (w.setCell ⟨g, j, none⟩ (f x)) B (.slice (some ⟨g, 0, none⟩) n cap) (l.set j x) := by
  subst hn
  have := (World.ownsRow.stored h j (f x)).1
  unfold Ow
  rw [List.length_set, List.map_set]
  exact this
/-! ### Steps -/
variable {T : TypeId} {z : Value} {by_ : Nat}
/-- append of one element, which was stored in a new block first -/
theorem wpList_pushG (hE : El T E z by_) (hf1 : ∀ x, (f x).oneCell' = true) {w0 : World} {ops : Array Oper} {rest : List Oper} {o : Oper} {a : Act} {Q : Exit → Act → World → Prop} (hgd : o.guard = none) (s x : Operand)
    (ho : o.op = .call { callee := .builtin .append, args := #[s, x], argTypes := #[T, T] })
    (B : Nat) (v : Value) (l : List α) (hs : a.eval s = v) (hown : Ow f E w0 B v l) (u : Value) (y : α) (hu : u = f y) (hx : a.eval x = .slice (some ⟨w0.heap.size, 0, none⟩) 1 1)
    (hl : l.length < 1099511627776) (hB : B ≤ w0.heap.size)
    (h : ∀ v' w', Ow f E w' B v' (l ++ [y]) → Fr (fun k => v.ownBlock = some k) w0 w' → wpList Tryd.prog ops Q rest (a.put o.dst v') w') :
    wpList Tryd.prog ops Q (o :: rest) a (w0.alloc (.cells #[u] E)) := by
  subst hu
  have hown' : w0.ownsRow B E 1 v (l.map f).length (l.map f) := by rw [List.length_map]; exact hown
  have hs' := hE.small
  have hbl : ((l.map f).length + 1) * by_ ≤ 140737488355328 := by
    rw [List.length_map]
    have := Nat.mul_le_mul (show l.length + 1 ≤ 1099511627776 by omega) hs'
    omega
  obtain ⟨v', w', hr, h1, h2⟩ := run_pushv T E o.type z by_ hE.under hE.info (by rw [hE.cells]; rfl) w0 B v (f y) (l.map f) hown' (hf1 y) hbl (by rw [List.length_map]; unfold maxLen; omega) hB w0.heap.size rfl
  refine wpList_plain hgd fun K hK => ?_
  unfold Oper.wp execOp
  simp only [ho, resolve, invoke, builtin, Sem.run_bind, Sem.run_pure, Result.andThen_ok, List.map_toArray, List.map_cons, List.map_nil, hs, hx, hr]
  refine hK _ _ (h v' w' ?_ h2)
  unfold Ow
  simpa [List.map_append] using h1

/-- 'make([]E, 0, n)' -/
theorem wpList_mkG (f : α → Value) (hE : El T E z by_) {w : World} {ops : Array Oper} {rest : List Oper} {o : Oper} {a : Act} {Q : Exit → Act → World → Prop} (hgd : o.guard = none) (x c : Operand)
    (ho : o.op = .makeSlice T x c) (kl kc : IntKind) (C : Int) (n : Nat) (hx : a.eval x = .int kl 0) (hc : a.eval c = .int kc C) (hC : C = (n : Int)) (hn : n ≤ 1099511627776)
    (h : ∀ v' w', Ow f E w' w.heap.size v' [] → Fr Non w w' → wpList Tryd.prog ops Q rest (a.put o.dst v') w') : wpList Tryd.prog ops Q (o :: rest) a w := by
  obtain ⟨i, hi, hz0, hz1, hz2⟩ := info_parts hE.info
  have hs' := hE.small
  have hbl : by_ * n ≤ 70368744177664 := by
    have := Nat.mul_le_mul hs' hn
    omega
  refine wpList_make_own w hgd x c T ho w.heap.size E i _ 1 hE.under hi hz0 hz1 kl kc C n hx hc hC (by rw [hz2]; omega) (by unfold maxLen; omega) (Nat.le_refl _) ?_
  intro w' h1 h2
  exact h _ _ h1 ((Fr.of_grown h2).mono fun k _ e => by cases e)

/-- 'make([]E, n)' -/
theorem wpList_mkfullG (hE : El T E z by_) (y : α) (hy : f y = z) {w : World} {ops : Array Oper} {rest : List Oper} {o : Oper} {a : Act} {Q : Exit → Act → World → Prop} (hgd : o.guard = none) (x c : Operand)
    (ho : o.op = .makeSlice T x c) (kl kc : IntKind) (C L : Int) (n : Nat) (hx : a.eval x = .int kl L) (hc : a.eval c = .int kc C) (hL : L = (n : Int)) (hC : C = (n : Int)) (hn : n ≤ 1099511627776)
    (h : ∀ w', Ow f E w' w.heap.size (.slice (some ⟨w.heap.size, 0, none⟩) n n) (List.replicate n y) → Fr Non w w' → wpList Tryd.prog ops Q rest (a.put o.dst (.slice (some ⟨w.heap.size, 0, none⟩) n n)) w') : wpList Tryd.prog ops Q (o :: rest) a w := by
  obtain ⟨i, hi, hz0, hz1, hz2⟩ := info_parts hE.info
  have hs' := hE.small
  have hbl : by_ * n ≤ 70368744177664 := by
    have := Nat.mul_le_mul hs' hn
    omega
  refine wpList_make_full w hgd x c T ho w.heap.size E i z 1 hE.under hi hz0 hz1 kl kc L C n hx hc hL hC (by rw [hz2]; omega) (by unfold maxLen; omega) (Nat.le_refl _) ?_
  intro w' h1 h2
  refine h _ ?_ ((Fr.of_grown h2).mono fun k _ e => by cases e)
  unfold Ow
  rw [hE.cells, Nat.mul_one, toList_madeCells_one] at h1
  rw [List.length_replicate, List.map_replicate, hy]
  exact h1

/-! ### Pieces -/
theorem slice_loG (hE : El T E z by_) (A : Option Addr) (n c k : Nat) (kl : IntKind) (y : Int) (hy : y = (k : Int)) (hk : k ≤ n) (hn : n ≤ c) :
    ∃ A' c', (∀ W, (Instr.slice T (.slice A n c) (some (.int kl y)) none none).run Tryd.prog W = .ok (.slice A' (n - k) c') W) ∧
      (∀ {α : Type} (f : α → Value) W (l : List α), l.length = n → Vs f W (.slice A n c) l → Vs f W (.slice A' (n - k) c') (l.drop k)) ∧ (Value.slice A' (n - k) c').ownBlock = (Value.slice A n c).ownBlock := by
  subst hy
  refine ⟨if c = k then A else A.map (·.add k), c - k, fun W => ?_, ?_, ?_⟩
  · rw [run_slice_any W T A n c (by rw [hE.elem]; exact hE.under)]
    have hb : (Instr.sliceBounds true n c (some (.int kl (k : Int))) none none).run Tryd.prog W = .ok (k, n, c) W := by
      simp [Instr.sliceBounds, run_sliceBound, hk, hn]
    rw [hb]
    simp only [Result.andThen_ok, hE.sz]
    simp [sliced]
  · rintro α f W l hl ⟨A0, c0, he, h1, h2, h3⟩
    simp only [Value.slice.injEq] at he
    obtain ⟨rfl, hl', rfl⟩ := he
    refine ⟨if c = k then A else A.map (·.add k), c - k, by rw [List.length_drop, hl], by rw [List.length_drop]; omega, fun e => ?_, fun a ha j hj => ?_⟩
    · split at e
      · have := h2 e; omega
      · have := h2 (by simpa using e); omega
    · rw [List.length_drop] at hj
      rw [if_neg (by omega)] at ha
      cases A with
      | none => cases ha
      | some b =>
        obtain rfl : b.add k = a := by simpa using ha
        rw [add_add, h3 b rfl (k + j) (by omega)]
        simp
  · split
    · cases A <;> rfl
    · cases A <;> simp [Value.ownBlock, add_block]

end

/-! ### Truths, whole numbers, bytes -/
def tv (b : Bool) : Value := .bool b
theorem tv_one (b : Bool) : (tv b).oneCell' = true := rfl
theorem el_bool : El 22 4 (.bool false) 1 := ⟨Tryd.underlying22, by kernel_rfl, rfl, by decide, by kernel_rfl, fun _ => by kernel_rfl⟩
theorem el_u8 : El 24 5 (.int .u8 0) 1 := ⟨Tryd.underlying24, by kernel_rfl, rfl, by decide, by kernel_rfl, fun _ => by kernel_rfl⟩
theorem Bs.vs {w : World} {v : Value} {l : List UInt8} (h : Bs w v l) : Vs bv w v l := h
theorem Vs.bs {w : World} {v : Value} {l : List UInt8} (h : Vs bv w v l) : Bs w v l := h
theorem Ow.own {w : World} {B : Nat} {v : Value} {l : List UInt8} (h : Ow bv 5 w B v l) : Own w B v l := h

end Go.Proofs.YtdofgniemkahnaaDoor


namespace Go.Proofs.YtdofgniemkahnaaDoor
set_option linter.unusedVariables false
set_option linter.unusedSimpArgs false
set_option maxRecDepth 100000
open Go.RowKit

theorem need_any (n : Nat) (w : World) (hn : n ≤ 9223372036854775807) :
    Calls Tryd.prog 37 #[.int .i64 n] w fun e w' => e = .returned (.int .i64 (need n : Nat)) ∧ w = w' := by
  by_cases h : n % 8 = 0
  · have HN := Lib.hid (show need n = n / 8 by unfold need; omega)
    have h' : decide (0 < (n : Int) % 8) = false := by simp; omega
    clear h
    go_enter Tryd.func37, Tryd.ntmps37
    go_wp2
    go_ret
    exact ⟨ret_int (by rw [HN.out]; omega), rfl⟩
  · have HN := Lib.hid (show need n = n / 8 + 1 by unfold need; omega)
    have h' : decide (0 < (n : Int) % 8) = true := by simp; omega
    clear h
    go_enter Tryd.func37, Tryd.ntmps37
    go_wp2
    go_ret
    exact ⟨ret_int (by rw [HN.out]; omega), rfl⟩

theorem or_low (q t : Nat) (ht : t < 8) (hq : q < 2 ^ t) : bits .or .u8 (q : Int) (2 ^ t % 256) = ((q + 2 ^ t : Nat) : Int) := by
  have all : ∀ t : Fin 8, ∀ q : Fin 128, q.1 < 2 ^ t.1 → bits .or .u8 (q.1 : Int) (2 ^ t.1 % 256) = ((q.1 + 2 ^ t.1 : Nat) : Int) := by decide +kernel
  have := pow8 ht
  exact all ⟨t, ht⟩ ⟨q, by omega⟩ hq
theorem or_lt8 (q t : Nat) (ht : t < 8) (hq : q < 2 ^ t) : q + 2 ^ t < 256 := by have := pow8 ht; omega

set_option maxHeartbeats 1000000 in
theorem pack_any (v : Value) (l : List Bool) (w : World) (hv : Vs tv w v l) (hl : l.length ≤ 1000000) :
    Calls Tryd.prog 22 #[v] w fun e w' => ∃ u, e = .returned u ∧ Own w' w.heap.size u (packB l) ∧ Fr Non w w' := by
  have HV := Lib.hid hv
  obtain ⟨A, c, rfl, hlc, hn, hcell⟩ := hv
  have HC := Lib.hid hcell
  have HN := Lib.hid hn
  have hnb : need l.length ≤ l.length := by unfold need; omega
  clear hcell hn
  go_enter Tryd.func22, Tryd.ntmps22
  go_wp2_with fail
  refine (need_any l.length w (by omega)).mono ?_
  rintro e w' ⟨rfl, rfl⟩
  go_wp2_with (at_make; refine wpList_mkfullG el_u8 (f := bv) (0 : UInt8) rfl rfl _ _ rfl _ _ _ _ (need l.length) rfl rfl rfl rfl (by omega) ?_; intro w1 hown1 hfr1)
  go_loopw [13] (fun i wr => ∃ j : Nat, j ≤ need l.length ∧ i = .int .i64 j ∧ Ow bv 5 wr w.heap.size (.slice (some ⟨w.heap.size, 0, none⟩) (need l.length) (need l.length)) (pk l (8 * j)) ∧ Fr Non w wr) (fun i _ => need l.length - (intOf i).toNat)
  case atStart => exact ⟨0, Nat.zero_le _, rfl, by rw [Nat.mul_zero, pk_zero]; exact hown1, hfr1⟩
  case round =>
    obtain ⟨j, hj, rfl, hown, hfr⟩ := hrel
    by_cases hlt : j < need l.length
    · have h8 : 8 * j < l.length := by unfold need at hlt; omega
      obtain ⟨A', c', hrun, hbs, hob⟩ := slice_loG el_bool A l.length c (8 * j) .i64 ((j : Int) * 8) (by push_cast; omega) (by omega) hlc
      have HV' := Lib.hid (hbs tv w l rfl HV.out)
      clear hbs
      have HF := Lib.hid hfr
      have key : ∀ t, t < 8 → t < l.length - 8 * j → ∃ a, A' = some a ∧ w.cell? (a.add t) = some (tv (l.getD (8 * j + t) false)) := by
        intro t _ ht
        obtain ⟨a, rfl, _, _, hc⟩ := HV'.out.addr (by omega)
        refine ⟨a, rfl, ?_⟩
        rw [hc t (by simp; omega)]
        simp [List.getD_eq_getElem?_getD, show 8 * j + t < l.length by omega]
      have HK := Lib.hid key
      clear key
      obtain ⟨m, hm8, hml, hm1, hm⟩ : ∃ m, m ≤ 8 ∧ m ≤ l.length - 8 * j ∧ 0 < m ∧ (m = 8 ∨ m = l.length - 8 * j) := by
        by_cases h7 : 8 ≤ l.length - 8 * j
        · exact ⟨8, by omega, by omega, by omega, .inl rfl⟩
        · exact ⟨l.length - 8 * j, by omega, by omega, by omega, .inr rfl⟩
      have hnext : pk l (8 * j + m) = pk l (8 * (j + 1)) := by
        rcases hm with rfl | rfl
        · rw [show 8 * (j + 1) = 8 * j + 8 by omega]
        · by_cases h : l.length = 8 * (j + 1)
          · congr 1; omega
          · rw [pk_all l (show l.length ≤ 8 * j + (l.length - 8 * j) by omega)]
            by_cases h2 : l.length ≤ 8 * (j + 1)
            · rw [pk_all l h2]
            · omega
      have HX := Lib.hid hnext
      clear hnext
      have hmi : min 8 (l.length - 8 * j) ≤ m := by omega
      have hme := Lib.hid hm
      clear hm
      by_cases h7 : 8 ≤ l.length - 8 * j
      all_goals
        go_wp2
        go_loopw [23] (fun i wr => ∃ t : Nat, t ≤ m ∧ i = .int .i64 t ∧ Ow bv 5 wr w.heap.size (.slice (some ⟨w.heap.size, 0, none⟩) (need l.length) (need l.length)) (pk l (8 * j + t)) ∧ Fr Non w wr) (fun i _ => 8 - (intOf i).toNat)
        case atStart => exact ⟨0, Nat.zero_le _, rfl, hown, hfr⟩
        case round =>
          obtain ⟨t, ht, rfl, hown, hfr⟩ := hrel
          have hmf := hme.out
          by_cases hlt : t < m
          · have h8 : 8 * j + t < l.length := by omega
            obtain ⟨a, rfl, hc0⟩ := HK.out t (by omega) (by omega)
            have hq := hown.cell (pk_length _ _).symm j _ (by have := pk_at l h8; rwa [show (8 * j + t) / 8 = j by omega] at this)
            have hfz := hown.frozen (pk_length _ _).symm j
            have hql := pkn_lt l h8
            rw [show (8 * j + t) / 8 = j by omega, show (8 * j + t) % 8 = t by omega] at hql
            have hor := or_low _ t (by omega) hql
            have hys := pk_yes l h8
            have hno := pk_no l h8
            rw [show (8 * j + t) / 8 = j by omega, show (8 * j + t) % 8 = t by omega] at hys
            unfold bv at hq
            rw [small8 (pkn_lt8 _ _ _)] at hq
            have hc1 : wr.cell? (a.add t) = some (tv (l.getD (8 * j + t) false)) := (hfr.cell (World.block_lt_of_cell? w _ hc0) (fun e => e)).trans hc0
            have hge : l.getD (8 * j + t) false = l[8 * j + t] := by simp [List.getD_eq_getElem?_getD, h8]
            rw [hge] at hc1
            have HO := Lib.hid hown
            have HFr := Lib.hid hfr
            have hq9 := pkn_lt8 l (8 * j + t) j
            clear hown hfr hmf hown1 hfr1 HF hge hc0
            cases hb : l[8 * j + t] with
            | false =>
              rw [hb] at hc1
              unfold tv at hc1
              have HB := Lib.hid (hno hb)
              clear hb hno hys hor
              go_wp2
              go_roundw
              case rel => exact ⟨t + 1, by omega, by go_num, by rw [show 8 * j + (t + 1) = 8 * j + t + 1 by omega, HB.out]; exact HO.out, HFr.out⟩
              case measure => simp [intOf]; omega
            | true =>
              rw [hb] at hc1
              unfold tv at hc1
              have HB := Lib.hid (hys hb)
              have HR := Lib.hid hor
              clear hb hno hys hor
              generalize hQ : pkn l (8 * j + t) j = q at *
              have HQ := Lib.hid hQ
              clear hQ
              go_wp2
              go_region
              go_wp2
              go_roundw
              case rel =>
                refine ⟨t + 1, by omega, by go_num, ?_, (HFr.out.setCell (fun h => by simp at h) _).drew⟩
                rw [show 8 * j + (t + 1) = 8 * j + t + 1 by omega, HB.out, HR.out]
                have hs := (HO.out.store (pk_length _ _).symm j (q + 2 ^ t).toUInt8).drew
                unfold bv at hs
                rwa [small8 (or_lt8 q t (by omega) hql)] at hs
              case measure => simp [intOf]; omega
          · obtain rfl : t = m := by omega
            rw [HX.out] at hown
            clear hmf
            go_wp2
            go_roundw
            case rel => exact ⟨j + 1, by omega, by go_num, hown, hfr⟩
            case measure => simp [intOf]; omega
    · obtain rfl : j = need l.length := by omega
      rw [pk_all l (by unfold need; omega)] at hown
      go_wp2
      go_ret
      exact ⟨_, rfl, hown.own, hfr⟩

end Go.Proofs.YtdofgniemkahnaaDoor


namespace Go.Proofs.YtdofgniemkahnaaDoor
set_option linter.unusedVariables false
set_option linter.unusedSimpArgs false
set_option maxRecDepth 100000
open Go.RowKit

/-- what unpacking answers: nothing and false, or the truths and true -/
def Unp (w : World) (B : Nat) (b : List UInt8) (n : Int) (e : Ending) (w' : World) : Prop :=
  (¬ (0 ≤ n ∧ Fit b n.toNat) ∧ e = .returned (.tuple #[.slice none 0 0, .bool false])) ∨
  ((0 ≤ n ∧ Fit b n.toNat) ∧ ∃ u, e = .returned (.tuple #[u, .bool true]) ∧ Ow tv 4 w' B u (unp b n.toNat))

theorem testBit_divI (x t : Nat) : (((x / 2 ^ t % 2 : Nat) : Int) == 1) = x.testBit t := by
  rw [← testBit_div]
  generalize x / 2 ^ t % 2 = r
  rw [Bool.eq_iff_iff, beq_iff_eq, beq_iff_eq]
  omega
theorem testBit_tmod (x t : Nat) : (((x : Int) / 2 ^ t).tmod 2 == 1) = x.testBit t := by
  rw [← testBit_divI, show ((x : Int) / 2 ^ t) = ((x / 2 ^ t : Nat) : Int) by push_cast; rfl]
  generalize x / 2 ^ t = q
  rw [Int.tmod_eq_emod_of_nonneg (by omega)]
  rfl
theorem and_one (q : Nat) (h : q < 256) : bits .and .u8 (q : Int) 1 = ((q % 2 : Nat) : Int) := by
  have all : ∀ q : Fin 256, bits .and .u8 (q.1 : Int) 1 = ((q.1 % 2 : Nat) : Int) := by decide +kernel
  exact all ⟨q, h⟩

set_option maxHeartbeats 2000000 in
theorem unpack_any (v : Value) (b : List UInt8) (n : Int) (w : World) (hv : Bs w v b) (hl : b.length ≤ 100000) (h1 : -9223372036854775808 ≤ n) (h2 : n ≤ 9223372036854775807) :
    Calls Tryd.prog 43 #[v, .int .i64 n] w fun e w' => Unp w w.heap.size b n e w' ∧ Fr Non w w' := by
  have HV := Lib.hid hv.vs
  obtain ⟨A, c, rfl, hlc, hn, hcell⟩ := hv
  have HC := Lib.hid hcell
  have HN := Lib.hid hn
  clear hcell hn
  by_cases hn0 : n < 0
  · have hb : decide (n < 0) = true := by simpa using hn0
    go_enter Tryd.func43, Tryd.ntmps43
    go_wp2
    go_ret2
    exact ⟨.inl ⟨by omega, rfl⟩, Fr.refl _ _⟩
  · obtain ⟨m, rfl⟩ := Int.eq_ofNat_of_zero_le (show 0 ≤ n by omega)
    have hb : decide ((m : Int) < 0) = false := by simp
    by_cases hlen : b.length = need m
    · have HB := Lib.hid hlen
      have hne : ((b.length : Int) != (need m : Nat)) = false := by rw [hlen]; simp
      have hm8 : m ≤ 8 * b.length ∧ 8 * b.length < m + 8 := by rw [hlen]; unfold need; omega
      clear hlen hn0
      go_enter Tryd.func43, Tryd.ntmps43
      go_wp2_with fail
      refine (need_any m w (by omega)).mono ?_
      rintro e w' ⟨rfl, rfl⟩
      go_wp2_with (at_make; refine wpList_mkG tv el_bool rfl _ _ rfl _ _ _ m rfl rfl rfl (by omega) ?_; intro v1 w1 hown1 hfr1)
      clear hne
      go_loopw [6, 22] (fun x i wr => ∃ j : Nat, j ≤ b.length ∧ i = .int .i64 j ∧ Ow tv 4 wr w.heap.size x (unp b (min m (8 * j))) ∧ Hid (∀ i, i < 8 * j → m ≤ i → bitOf b i = false) ∧ Fr Non w wr) (fun _ i _ => b.length - (intOf i).toNat)
      case atStart => exact ⟨0, Nat.zero_le _, rfl, by rw [Nat.mul_zero, Nat.min_eq_right (Nat.zero_le _)]; exact hown1, Lib.hid (fun i hi => by omega), hfr1⟩
      case round =>
        obtain ⟨j, hj, rfl, hown, HG, hfr⟩ := hrel
        by_cases hlt : j < b.length
        · have h8 : 8 * j < m := by omega
          rw [show min m (8 * j) = 8 * j by omega] at hown
          obtain ⟨A1, c1, rfl⟩ := hown.shape
          rw [unp_length] at hown ⊢
          cases A with
          | none => have := HN.out rfl; omega
          | some a =>
            have hc0 := HC.out a rfl j hlt
            have hc1 : wr.cell? (a.add j) = some (bv b[j]) := (hfr.cell (World.block_lt_of_cell? w _ hc0) (fun e => e)).trans hc0
            have HX := Lib.hid (fun t ht => bit_byte b j t hlt ht)
            have hx := b[j].toNat_lt
            unfold bv at hc1
            clear hc0 hown1 hfr1
            generalize b[j] = xb at *
            have hex : ∃ r, r ≤ 8 ∧ r ≤ m - 8 * j ∧ 0 < r ∧ min 8 (m - 8 * j) ≤ r := ⟨min 8 (m - 8 * j), by omega, by omega, by omega, by omega⟩
            obtain ⟨r, hr8, hrm, hr1, hr⟩ := hex
            by_cases h7 : 8 ≤ m - 8 * j
            all_goals
              go_wp2
              go_loopw [6, 8, 34] (fun x q i wr => ∃ t : Nat, t ≤ r ∧ i = .int .i64 t ∧ q = .int .u8 (xb.toNat / 2 ^ t : Nat) ∧ Ow tv 4 wr w.heap.size x (unp b (8 * j + t)) ∧ Fr Non w wr) (fun _ _ i _ => 8 - (intOf i).toNat)
              case atStart => exact ⟨0, Nat.zero_le _, rfl, by simp, hown, hfr⟩
              case round =>
                obtain ⟨t, ht, rfl, rfl, hown, hfr⟩ := hrel
                have hB := hfr.size
                by_cases htr : t < r
                · obtain ⟨A2, c2, rfl⟩ := hown.shape
                  rw [unp_length] at hown ⊢
                  have hlq : xb.toNat / 2 ^ t < 256 := Nat.lt_of_le_of_lt (Nat.div_le_self _ _) hx
                  have HT := Lib.hid (show (bits .and .u8 ((xb.toNat / 2 ^ t : Nat) : Int) 1 == 1) = bitOf b (8 * j + t) by rw [HX.out t (by omega), and_one _ hlq]; exact testBit_divI _ _)
                  have HQ := Lib.hid (show xb.toNat / 2 ^ (t + 1) = xb.toNat / 2 ^ t / 2 by rw [Nat.pow_succ, Nat.div_div_eq_div_mul])
                  generalize hq : xb.toNat / 2 ^ t = q at *
                  clear hq
                  go_wp2_with (at_builtin; refine wpList_pushG el_bool tv_one rfl (.tmp 36) (.tmp 40) rfl w.heap.size _ (unp b (8 * j + t)) rfl hown _ (bitOf b (8 * j + t)) (congrArg Value.bool HT.out) rfl (by rw [unp_length]; omega) hB ?_; intro v2 w2 hown2 hfr2)
                  go_roundw
                  case rel => exact ⟨t + 1, by omega, by go_num, by rw [HQ.out]; go_num, by rw [show 8 * j + (t + 1) = 8 * j + t + 1 by omega, unp_succ]; exact hown2, hfr.fresh hfr2 fun q hq => (hown.lt q hq).1⟩
                  case measure => simp [intOf]; omega
                · obtain rfl : t = r := by omega
                  have HL : Hid (∀ i, xb.toNat / 2 ^ t = 0 → t ≤ i → xb.toNat.testBit i = false) := Lib.hid (fun i h hi => left_zero _ _ _ h hi)
                  have HS := Lib.hid (left_some xb.toNat t)
                  have hq0 : t = 8 → xb.toNat / 2 ^ t = 0 := fun e => by subst e; simp; omega
                  have hlq : xb.toNat / 2 ^ t < 256 := Nat.lt_of_le_of_lt (Nat.div_le_self _ _) hx
                  generalize xb.toNat / 2 ^ t = q at *
                  by_cases hz : q = 0
                  · have hzz := Lib.hid hz
                    have ht0 : ((q : Int) != 0) = false := by rw [hz]; rfl
                    clear hz hq0
                    go_wp2
                    go_roundw
                    case rel =>
                      refine ⟨j + 1, by omega, by go_num, ?_, Lib.hid ?_, hfr⟩
                      · rw [show min m (8 * (j + 1)) = 8 * j + t by omega]; exact hown
                      · intro i hi hmi
                        by_cases hij : i < 8 * j
                        · exact HG.out i hij hmi
                        · have := HX.out (i - 8 * j) (by omega)
                          rw [show 8 * j + (i - 8 * j) = i by omega] at this
                          rw [this]
                          exact HL.out _ hzz.out (by omega)
                    case measure => simp [intOf]; omega
                  · have ht0 : ((q : Int) != 0) = true := by
                      rw [bne_iff_ne]; exact fun e => hz (by exact_mod_cast e)
                    have Hz := Lib.hid hz
                    have Hq0 := Lib.hid hq0
                    clear hz hq0
                    go_wp2
                    go_ret2
                    refine ⟨.inl ⟨fun h => ?_, rfl⟩, hfr⟩
                    obtain ⟨i, hi, hbi⟩ := HS.out Hz.out
                    have hi8 : i < 8 := by
                      rcases Nat.lt_or_ge i 8 with h | h
                      · exact h
                      · rw [u8_testBit xb h] at hbi; cases hbi
                    have ht8 : t ≠ 8 := fun e => Hz.out (Hq0.out e)
                    have h1 := HX.out i hi8
                    have h2 := h.2.2 (8 * j + i) (by simp; omega)
                    rw [h1, hbi] at h2
                    cases h2
        · obtain rfl : j = b.length := by omega
          rw [show min m (8 * b.length) = m by omega] at hown
          go_wp2
          go_ret2
          refine ⟨.inr ⟨⟨by omega, fit_of (by simpa using HB.out) (by simpa using HG.out)⟩, _, rfl, ?_⟩, hfr⟩
          simpa using hown
    · have hne : ((b.length : Int) != (need m : Nat)) = true := by simp; omega
      go_enter Tryd.func43, Tryd.ntmps43
      go_wp2_with fail
      refine (need_any m w (by omega)).mono ?_
      rintro e w' ⟨rfl, rfl⟩
      go_wp2
      go_ret2
      exact ⟨.inl ⟨fun h => hlen h.2.1, rfl⟩, Fr.refl _ _⟩
set_option maxHeartbeats 2000000 in
theorem runpack_any (v : Value) (b : List UInt8) (n : Int) (w : World) (hv : Bs w v b) (hl : b.length ≤ 100000) (h1 : -9223372036854775808 ≤ n) (h2 : n ≤ 9223372036854775807) :
    Calls Tryd.prog 30 #[v, .int .i64 n] w fun e w' => Unp w w.heap.size b n e w' ∧ Fr Non w w' := by
  have HV := Lib.hid hv.vs
  obtain ⟨A, c, rfl, hlc, hn, hcell⟩ := hv
  have HC := Lib.hid hcell
  have HN := Lib.hid hn
  clear hcell hn
  have hneed : ∀ m : Nat, b.length = need m ↔ m ≤ 8 * b.length ∧ 8 * b.length < m + 8 := by intro m; unfold need; omega
  have HD := Lib.hid hneed
  clear hneed
  by_cases hn0 : n < 0
  · have hb : decide (n < 0) = true := by simpa using hn0
    go_enter Tryd.func30, Tryd.ntmps30
    go_wp2
    go_ret2
    exact ⟨.inl ⟨by omega, rfl⟩, Fr.refl _ _⟩
  · obtain ⟨m, rfl⟩ := Int.eq_ofNat_of_zero_le (show 0 ≤ n by omega)
    have hb : decide ((m : Int) < 0) = false := by simp
    by_cases hlen : m ≤ 8 * b.length ∧ 8 * b.length < m + 8
    · have HB := Lib.hid ((HD.out m).2 hlen)
      obtain ⟨hm8, hm7⟩ := hlen
      clear hn0
      go_enter Tryd.func30, Tryd.ntmps30
      go_wp2_with (at_make; refine wpList_mkfullG el_bool (f := tv) false rfl rfl _ _ rfl _ _ _ _ m rfl rfl rfl rfl (by omega) ?_; intro w1 hown1 hfr1)
      go_loopw [7] (fun i wr => ∃ p : Nat, p ≤ 8 * b.length ∧ i = .int .i64 p ∧ Ow tv 4 wr w.heap.size (.slice (some ⟨w.heap.size, 0, none⟩) m m) (unpTo b m p) ∧ Hid (∀ i, i < p → m ≤ i → bitOf b i = false) ∧ Fr Non w wr) (fun i _ => 8 * b.length - (intOf i).toNat)
      case atStart => exact ⟨0, Nat.zero_le _, rfl, by rw [unpTo_zero]; exact hown1, Lib.hid (fun i hi => by omega), hfr1⟩
      case round =>
        obtain ⟨p, hp, rfl, hown, HG, hfr⟩ := hrel
        by_cases hlt : p < 8 * b.length
        · cases A with
          | none => have := HN.out rfl; omega
          | some a =>
            have hj : p / 8 < b.length := by omega
            have hc0 := HC.out a rfl (p / 8) hj
            have hc1 : wr.cell? (a.add (p / 8)) = some (bv b[p / 8]) := (hfr.cell (World.block_lt_of_cell? w _ hc0) (fun e => e)).trans hc0
            have hx := b[p / 8].toNat_lt
            have hbit := bit_byte b (p / 8) (p % 8) hj (by omega)
            rw [show 8 * (p / 8) + p % 8 = p by omega] at hbit
            have HX := Lib.hid hbit
            have hfz := hown.frozen (unpTo_length _ _ _).symm p
            have HO := Lib.hid hown
            have HFr := Lib.hid hfr
            unfold bv at hc1
            clear hc0 hown1 hfr1 hbit hown hfr
            generalize b[p / 8] = xb at *
            have hlq : xb.toNat / 2 ^ (p % 8) < 256 := Nat.lt_of_le_of_lt (Nat.div_le_self _ _) hx
            have HT := Lib.hid (show (((xb.toNat : Int) / 2 ^ (p % 8)).tmod 2 == 1) = bitOf b p by rw [HX.out]; exact testBit_tmod _ _)
            by_cases hpm : p < m
            · have hq := HO.out.cell (unpTo_length _ _ _).symm p ((unpTo b m p)[p]'(by rw [unpTo_length]; exact hpm)) (by simp [unpTo_length, hpm])
              unfold tv at hq
              cases hbit : bitOf b p with
              | true =>
                have ht := HT.out
                rw [hbit] at ht
                have HS := Lib.hid (unpTo_step b hpm)
                have Hb := Lib.hid hbit
                clear hbit
                go_wp2
                go_roundw
                case rel =>
                  refine ⟨p + 1, by omega, by go_num, ?_, Lib.hid fun i hi hmi => ?_, HFr.out.setCell (fun h => by simp at h) _⟩
                  · rw [HS.out, Hb.out]
                    exact HO.out.store (unpTo_length _ _ _).symm p true
                  · exact HG.out i (by omega) hmi
                case measure => simp [intOf]; omega
              | false =>
                have ht := HT.out
                rw [hbit] at ht
                have HS := Lib.hid (unpTo_step b hpm)
                have Hb := Lib.hid hbit
                clear hbit
                go_wp2
                go_roundw
                case rel =>
                  refine ⟨p + 1, by omega, by go_num, ?_, Lib.hid fun i hi hmi => ?_, HFr.out.setCell (fun h => by simp at h) _⟩
                  · rw [HS.out, Hb.out]
                    exact HO.out.store (unpTo_length _ _ _).symm p false
                  · exact HG.out i (by omega) hmi
                case measure => simp [intOf]; omega
            · cases hbit : bitOf b p with
              | true =>
                have ht := HT.out
                rw [hbit] at ht
                have Hb := Lib.hid hbit
                clear hbit
                go_wp2
                go_ret2
                refine ⟨.inl ⟨fun h => ?_, rfl⟩, HFr.out⟩
                have := h.2.2 p (by simp; omega)
                rw [Hb.out] at this
                cases this
              | false =>
                have ht := HT.out
                rw [hbit] at ht
                have Hb := Lib.hid hbit
                clear hbit
                go_wp2
                go_roundw
                case rel =>
                  refine ⟨p + 1, by omega, by go_num, ?_, Lib.hid fun i hi hmi => ?_, HFr.out⟩
                  · rw [unpTo_all b (show m ≤ p + 1 by omega), ← unpTo_all b (show m ≤ p by omega)]
                    exact HO.out
                  · rcases Nat.lt_or_ge i p with h | h
                    · exact HG.out i h hmi
                    · rw [show i = p by omega]; exact Hb.out
                case measure => simp [intOf]; omega
        · rw [unpTo_all b (show m ≤ p by omega)] at hown
          have hpe : p = 8 * b.length := by omega
          have HP := Lib.hid hpe
          clear hpe
          go_wp2
          go_ret2
          refine ⟨.inr ⟨⟨by omega, fit_of (by simpa using HB.out) ?_⟩, _, rfl, ?_⟩, hfr⟩
          · intro i hi hmi
            exact HG.out i (by rw [HP.out]; exact hi) (by simpa using hmi)
          · simpa using hown
    · have hcases : (b.length : Int) < (m : Int) / 8 ∨ (¬ (b.length : Int) < (m : Int) / 8 ∧ 8 * (b.length : Int) < m) ∨ (¬ (b.length : Int) < (m : Int) / 8 ∧ ¬ 8 * (b.length : Int) < m ∧ 7 < 8 * (b.length : Int) - m) := by omega
      have HB := Lib.hid (fun h => hlen ((HD.out m).1 h))
      clear hlen
      rcases hcases with h1 | ⟨h1, h2⟩ | ⟨h1, h2, h3⟩
      all_goals
        go_enter Tryd.func30, Tryd.ntmps30
        go_wp2
        go_ret2
        exact ⟨.inl ⟨fun h => HB.out h.2.1, rfl⟩, Fr.refl _ _⟩
end Go.Proofs.YtdofgniemkahnaaDoor


namespace Go.Proofs.YtdofgniemkahnaaDoor
set_option linter.unusedVariables false
set_option linter.unusedSimpArgs false
set_option maxRecDepth 100000
open Go.RowKit

theorem ret_bool {a b : Bool} (h : a = b) : Ending.returned (.bool a) = .returned (.bool b) := by rw [h]
theorem take_ne {α : Type} [DecidableEq α] {a b : List α} {k : Nat} (hk : k < a.length) (hk2 : k < b.length) (h : a[k] ≠ b[k]) : a ≠ b := by
  intro e; subst e; exact h rfl
theorem take_eq_succ {α : Type} {a b : List α} {k : Nat} (hk : k < a.length) (hk2 : k < b.length) (h : a.take k = b.take k) (he : a[k] = b[k]) : a.take (k + 1) = b.take (k + 1) := by
  rw [List.take_succ_eq_append_getElem hk, List.take_succ_eq_append_getElem hk2, h, he]

set_option maxHeartbeats 1000000 in
theorem bools_any (v1 v2 : Value) (l1 l2 : List Bool) (w : World) (h1 : Vs tv w v1 l1) (h2 : Vs tv w v2 l2) (hl1 : l1.length ≤ 9223372036854775807) (hl2 : l2.length ≤ 9223372036854775807) :
    Calls Tryd.prog 12 #[v1, v2] w fun e w' => e = .returned (.bool (l1 == l2)) ∧ Fr Non w w' := by
  obtain ⟨A1, c1, rfl, hc1, hn1, hcell1⟩ := h1
  obtain ⟨A2, c2, rfl, hc2, hn2, hcell2⟩ := h2
  have HN1 := Lib.hid hn1
  have HN2 := Lib.hid hn2
  have HC1 := Lib.hid hcell1
  have HC2 := Lib.hid hcell2
  clear hn1 hn2 hcell1 hcell2
  by_cases hlen : l1.length = l2.length
  · have HL := Lib.hid hlen
    have hb : ((l1.length : Int) != l2.length) = false := by rw [hlen]; simp
    have hle : l1.length ≤ l2.length := by omega
    have hge : l2.length ≤ l1.length := by omega
    clear hlen
    go_enter Tryd.func12, Tryd.ntmps12
    go_wp2
    go_loopw [5] (fun i wr => ∃ k : Nat, k ≤ l1.length ∧ i = .int .i64 k ∧ Hid (l1.take k = l2.take k) ∧ ∃ n, wr = w.drewN n) (fun i _ => l1.length - (intOf i).toNat)
    case atStart => exact ⟨0, Nat.zero_le _, rfl, Lib.hid rfl, 0, rfl⟩
    case round =>
      obtain ⟨k, hk, rfl, HT, n, rfl⟩ := hrel
      by_cases hlt : k < l1.length
      · cases A1 with
        | none => have := HN1.out rfl; omega
        | some a1 =>
          cases A2 with
          | none => have := HN2.out rfl; omega
          | some a2 =>
            have g1 : w.cell? (a1.add k) = some (tv l1[k]) := HC1.out a1 rfl k hlt
            have g2 : w.cell? (a2.add k) = some (tv (l2[k]'(by omega))) := HC2.out a2 rfl k (by omega)
            unfold tv at g1 g2
            by_cases he : l1[k] = l2[k]'(by omega)
            · have HE := Lib.hid (take_eq_succ hlt (by omega) HT.out he)
              rw [← he] at g2
              clear he
              generalize l1[k] = x at *
              cases x
              all_goals
                go_wp2
                go_quiet (fail)
                go_wp2
                go_roundw
                case rel => exact ⟨k + 1, by omega, by go_num, HE, _, rfl⟩
                case measure => simp [intOf]; omega
            · have HE := Lib.hid (take_ne hlt (by omega) he)
              have hx : (l1[k] != l2[k]'(by omega)) = true := by rw [bne_iff_ne]; exact he
              clear he
              generalize l1[k] = x at *
              generalize l2[k]'(by omega) = y at *
              cases x <;> cases y <;> simp at hx
              all_goals
                go_wp2
                go_quiet (fail)
                go_wp2
                go_ret
                exact ⟨ret_bool (beq_eq_false_iff_ne.2 HE.out).symm, ((Fr.refl _ _).drewN _).drewN _⟩
      · have HE : Hid (l1 = l2) := Lib.hid (by
          have := HT.out
          rwa [List.take_of_length_le (by omega), List.take_of_length_le (by omega)] at this)
        go_wp2
        go_ret
        exact ⟨ret_bool (beq_iff_eq.2 HE.out).symm, (Fr.refl _ _).drewN _⟩
  · have hb : ((l1.length : Int) != l2.length) = true := by rw [bne_iff_ne]; omega
    have HE : Hid (l1 ≠ l2) := Lib.hid (fun e => hlen (by rw [e]))
    clear hlen
    go_enter Tryd.func12, Tryd.ntmps12
    go_wp2
    go_ret
    exact ⟨ret_bool (beq_eq_false_iff_ne.2 HE.out).symm, Fr.refl _ _⟩
end Go.Proofs.YtdofgniemkahnaaDoor


namespace Go.Proofs.YtdofgniemkahnaaDoor
set_option linter.unusedVariables false
set_option linter.unusedSimpArgs false
set_option maxRecDepth 100000
open Go.RowKit

set_option maxHeartbeats 1000000 in
theorem deput_any (v : Value) (l : List Bool) (w : World) (hv : Vs tv w v l) (ht : Tab w) (hl : l.length ≤ 1000000) :
    Calls Tryd.prog 7 #[v] w fun e w' => ∃ u, e = .returned u ∧ Own w' w.heap.size u (deadB l) ∧ Fr Non w w' := by
  have HV := Lib.hid hv
  have HT := Lib.hid ht
  obtain ⟨A, c, rfl⟩ := hv.shape
  have hu64 : IntKind.u64.wrap (l.length : Int) = l.length := IntWalk.u64_in _ ⟨by omega, by omega⟩
  clear hv ht
  by_cases h : l.length ≤ 200
  · have HD : Hid (deadB l = frameB (sayD l)) := Lib.hid (by unfold deadB; rw [if_pos h])
    have HL := Lib.hid (sayD_len (l := l) (by omega))
    go_enter Tryd.func7, Tryd.ntmps7
    go_wp2_with fail
    refine (vnum_any l.length w (by unfold two64; omega)).mono ?_
    rintro e w1 ⟨v1, rfl, o1, f1⟩
    have HV1 := Lib.hid (HV.out.non f1)
    go_wp2_with fail
    refine (pack_any _ l w1 HV1.out hl).mono ?_
    rintro e w2 ⟨v2, rfl, o2, f2⟩
    have p1 := o1.bs.non f2
    have p2 := o2.bs
    have F2 := f1.trans f2
    obtain ⟨A1, c1, rfl⟩ := p1.shape
    obtain ⟨A2, c2, rfl⟩ := p2.shape
    have HP := Lib.hid (Parts.two (t := 24) p1 p2)
    have HF2 := Lib.hid F2
    clear o1 o2 f1 f2 p1 p2 F2 HV1
    go_wp2_with fail
    refine (concat_any _ 2 2 _ [Lib.uvarint l.length, packB l] _ rfl (by omega) HP.out (by have := HL.out; unfold sayD at this; simp at this ⊢; omega)).mono ?_
    rintro e w3 ⟨v3, rfl, o3, f3⟩
    have F3 := HF2.out.alloc (.cells #[.slice A1 (Lib.uvarint l.length).length c1, .slice A2 (packB l).length c2] 24) |>.trans f3
    have o3' := o3
    rw [show [Lib.uvarint l.length, packB l].flatten = sayD l by simp [sayD]] at o3'
    have hs3 := F3.size
    have HP3 := Lib.hid (fput_any v3 (sayD l) w3 o3'.bs (HT.out.non F3) (by have := HL.out; omega))
    have HF3 := Lib.hid F3
    obtain ⟨A3, c3, rfl⟩ := o3'.bs.shape
    clear o3 f3 F3 HP HF2 o3'
    go_wp2_with fail
    refine HP3.out.mono ?_
    rintro e w4 ⟨v4, rfl, o4, f4⟩
    go_wp2
    go_ret
    exact ⟨v4, rfl, by rw [HD.out]; exact o4.mono hs3, HF3.out.trans f4⟩
  · have HD : Hid (deadB l = []) := Lib.hid (by unfold deadB; rw [if_neg h])
    have hb : decide ((200 : Int) < l.length) = true := by simp; omega
    go_enter Tryd.func7, Tryd.ntmps7
    go_wp2
    go_ret
    exact ⟨_, rfl, by rw [HD.out]; exact own_nil _ _, Fr.refl _ _⟩

/-- what take answers -/
def TkD (w : World) (B : Nat) (x : List UInt8) (e : Ending) : Prop :=
  (¬ TellD x ∧ e = .returned (.tuple #[.slice none 0 0, .bool false])) ∨ (TellD x ∧ ∃ u, e = .returned (.tuple #[u, .bool true]) ∧ Ow tv 4 w B u (tellD x))

set_option maxHeartbeats 1000000 in
theorem detake_any (v : Value) (x : List UInt8) (w : World) (hv : Bs w v x) (hl : x.length ≤ 100000) :
    Calls Tryd.prog 24 #[v] w fun e w' => TkD w' w.heap.size x e ∧ Fr Non w w' := by
  have HV := Lib.hid hv
  obtain ⟨A, c, rfl⟩ := hv.shape
  have HS := Lib.hid (mostR_sm x 200)
  have hm := mostV_leD x (show (0 : Int) ≤ 200 by omega)
  clear hv
  go_enter Tryd.func24, Tryd.ntmps24
  go_wp2_with fail
  refine (from_any _ x w HV.out).mono ?_
  rintro e w1 ⟨rfl, s1, f1⟩
  generalize hg : w.heap.size = g at *
  have HF1 := Lib.hid f1
  have HB := Lib.hid (below_any g x false 201 w1 s1 (by omega))
  clear s1 f1
  go_wp2_with fail
  refine HB.out.mono ?_
  rintro e w2 ⟨rfl, s2, f2⟩
  rw [show (201 : Int) - 1 = 200 by rfl] at s2
  have HF2 := Lib.hid (HF1.out.fresh f2 (fun k hk => by unfold One at hk; omega))
  have HO := Lib.hid (ok_any g _ _ w2 s2)
  have HL := Lib.hid (left_any g _ _ w2 s2)
  have HT := Lib.hid (take_any g _ _ (mostR x 200).length w2 s2)
  clear s2 f2 HF1 HB
  cases hb : mostB x 200 with
  | true =>
    rw [hb] at HO
    have HN : Hid (¬ TellD x) := Lib.hid (fun h => by have := h.1; rw [hb] at this; cases this)
    clear hb
    go_wp2_with fail
    refine HO.out.mono ?_
    rintro e w3 ⟨rfl, rfl⟩
    go_wp2
    go_ret2
    exact ⟨.inl ⟨HN.out, rfl⟩, HF2.out⟩
  | false =>
    rw [hb] at HO
    have HN := Lib.hid hb
    clear hb
    go_wp2_with fail
    refine HO.out.mono ?_
    rintro e w3 ⟨rfl, rfl⟩
    go_wp2_with fail
    refine HL.out.mono ?_
    rintro e w3 ⟨rfl, rfl⟩
    go_wp2_with fail
    refine HT.out.mono ?_
    rintro e w4 ⟨v4, rfl, b4, n4, s4, f4⟩
    have hcut : cutT (mostR x 200) (mostR x 200).length = mostR x 200 := by
      unfold cutT cutOk
      rw [if_pos (decide_eq_true ⟨by omega, Int.le_refl _⟩)]
      simp
    rw [hcut] at b4
    have HF4 := Lib.hid (HF2.out.fresh f4 (fun k hk => by unfold One at hk; omega))
    have hs4 := HF4.out.size
    have HU := Lib.hid (unpack_any _ _ (mostV x 200) w4 b4 (by have := HS.out; omega) (by omega) (by omega))
    obtain ⟨A4, c4, rfl⟩ := b4.shape
    clear b4 n4 s4 f4 hcut HO HL HT
    go_wp2_with fail
    refine HU.out.mono ?_
    rintro e w5 ⟨h5, f5⟩
    have F5 := Lib.hid (HF4.out.trans f5)
    rcases h5 with ⟨hn, rfl⟩ | ⟨hy, u, rfl, ou⟩
    · have HN2 : Hid (¬ TellD x) := Lib.hid (fun h => hn ⟨by omega, by rw [Int.toNat_natCast]; exact h.2⟩)
      clear hn
      go_wp2
      go_ret2
      exact ⟨.inl ⟨HN2.out, rfl⟩, F5.out⟩
    · rw [Int.toNat_natCast] at ou
      have HY : Hid (TellD x) := Lib.hid ⟨HN.out, by have := hy.2; rwa [Int.toNat_natCast] at this⟩
      have HOu := Lib.hid ou
      clear hy ou
      go_wp2
      go_ret2
      exact ⟨.inr ⟨HY.out, u, rfl, HOu.out.mono (by omega)⟩, F5.out⟩

/-- what Get answers -/
def GtD14 (w : World) (B : Nat) (b : List UInt8) (n : Int) (e : Ending) : Prop := ∃ u, e = .returned (.tuple #[u, .int .i64 ((getD14 b n).2 : Nat)]) ∧ Ow tv 4 w B u (getD14 b n).1
theorem gtD_is {w : World} {B : Nat} {b : List UInt8} {n : Int} {l : List Bool} {k : Nat} {u : Value} {z : Int} (h : getD14 b n = (l, k)) (hz : z = (k : Int)) (hu : Ow tv 4 w B u l) : GtD14 w B b n (.returned (.tuple #[u, .int .i64 z])) := by
  subst hz
  exact ⟨u, by rw [h], by rw [h]; exact hu⟩

set_option maxHeartbeats 2000000 in
theorem deget_any (v : Value) (b : List UInt8) (n : Int) (w : World) (hv : Bs w v b) (ht : Tab w) (hl : b.length ≤ 100000) (h1 : -9223372036854775808 ≤ n) (h2 : n ≤ 9223372036854775807) :
    Calls Tryd.prog 8 #[v, .int .i64 n] w fun e w' => GtD14 w' w.heap.size b n e ∧ Fr Non w w' := by
  have hG := fget_any v b w hv ht (by omega)
  obtain ⟨A, c, rfl⟩ := hv.shape
  clear hv ht
  go_enter Tryd.func8, Tryd.ntmps8
  go_wp2_with fail
  refine hG.mono ?_
  rintro e w1 ⟨u1, rfl, o1, f1⟩
  have hs1 := f1.size
  have hgb : (gB b).length ≤ b.length := by
    unfold gB; split
    · unfold bodyF; rw [List.length_take, List.length_drop]; omega
    · simp
  have HT := Lib.hid (detake_any u1 (gB b) w1 o1.bs (by omega))
  obtain ⟨A1, c1, rfl⟩ := o1.bs.shape
  have HF1 := Lib.hid f1
  clear hG o1 f1 hgb
  by_cases he : gE b = 0
  · have hb : (((gE b : Nat) : Int) != 0) = false := by rw [he]; rfl
    have HE := Lib.hid he
    clear he
    go_wp2_with fail
    refine HT.out.mono ?_
    rintro e w2 ⟨h2, f2⟩
    have HF2 := Lib.hid (HF1.out.trans f2)
    have hs2 := f2.size
    rcases h2 with ⟨hn, rfl⟩ | ⟨hy, u, rfl, ou⟩
    · have HN := Lib.hid (getD_no (n := n) HE.out (fun h => hn h.1))
      clear hn
      go_wp2
      go_ret2
      exact ⟨gtD_is HN.out rfl (ow_nil _ _), HF2.out⟩
    · have hlen := tellD_len (gB b)
      have HO := Lib.hid (ou.mono hs1)
      obtain ⟨A2, c2, rfl⟩ := ou.shape
      clear ou
      by_cases hg : (mostV (gB b) 200 : Int) = n ∧ gN b = b.length
      · have HN := Lib.hid (getD_yes HE.out ⟨hy, hg⟩)
        obtain ⟨hg1, hg2⟩ := hg
        have b1 : (((tellD (gB b)).length : Int) != n) = false := by rw [hlen, hg1]; simp
        have b2 : (((gN b : Nat) : Int) != (b.length : Int)) = false := by rw [hg2]; simp
        clear hy hg1 hg2 hlen
        go_wp2
        go_ret2
        exact ⟨gtD_is HN.out rfl HO.out, HF2.out⟩
      · have HN := Lib.hid (getD_no (n := n) HE.out (fun h => hg h.2))
        by_cases hg1 : (mostV (gB b) 200 : Int) = n
        · have b1 : (((tellD (gB b)).length : Int) != n) = false := by rw [hlen, hg1]; simp
          have b2 : (((gN b : Nat) : Int) != (b.length : Int)) = true := by
            rw [bne_iff_ne]; intro e; exact hg ⟨hg1, by omega⟩
          clear hy hg hg1 hlen
          go_wp2
          go_ret2
          exact ⟨gtD_is HN.out rfl (ow_nil _ _), HF2.out⟩
        · have b1 : (((tellD (gB b)).length : Int) != n) = true := by
            rw [bne_iff_ne, hlen]; exact hg1
          clear hy hg hg1 hlen
          go_wp2
          go_ret2
          exact ⟨gtD_is HN.out rfl (ow_nil _ _), HF2.out⟩
  · have hb : (((gE b : Nat) : Int) != 0) = true := by rw [bne_iff_ne]; omega
    have HN := Lib.hid (getD_err (n := n) he)
    clear he
    go_wp2
    go_ret2
    exact ⟨gtD_is HN.out rfl (ow_nil _ _), HF1.out⟩
end Go.Proofs.YtdofgniemkahnaaDoor


namespace Go.Proofs.YtdofgniemkahnaaDoor
set_option linter.unusedVariables false
set_option linter.unusedSimpArgs false
set_option maxRecDepth 100000
open Go.RowKit

set_option maxHeartbeats 2000000 in
theorem rdeget_any (v : Value) (b : List UInt8) (n : Int) (w : World) (hv : Bs w v b) (hvl : ∀ k, v.ownBlock = some k → k < w.heap.size) (hl : b.length ≤ 100000) (h1 : -9223372036854775808 ≤ n) (h2 : n ≤ 9223372036854775807) :
    Calls Tryd.prog 13 #[v, .int .i64 n] w fun e w' => GtD14 w' w.heap.size b n e ∧ Fr Non w w' := by
  have hG := rgetO_any v b w hv hvl (by omega)
  obtain ⟨A, c, rfl⟩ := hv.shape
  clear hv hvl
  go_enter Tryd.func13, Tryd.ntmps13
  go_wp2_with fail
  refine hG.mono ?_
  rintro e w1 ⟨u1, rfl, o1, f1⟩
  have hs1 := f1.size
  have hgb : (gB b).length ≤ b.length := by
    unfold gB; split
    · unfold bodyF; rw [List.length_take, List.length_drop]; omega
    · simp
  have HS := Lib.hid (SAt.new o1.bs (fun k hk => (o1.lt k hk).2))
  obtain ⟨A1, c1, rfl⟩ := o1.bs.shape
  have HF1 := Lib.hid f1
  clear hG o1 f1
  by_cases he : gE b = 0
  · have hb : (((gE b : Nat) : Int) != 0) = false := by rw [he]; rfl
    have HE := Lib.hid he
    have HF1a := Lib.hid (HF1.out.alloc (.cells #[.slice A1 (gB b).length c1, .bool false] 55))
    have HB := Lib.hid (rbelow_any w1.heap.size _ (gB b) false 201 _ HS.out (by omega) (by omega))
    have HR := Lib.hid (mostR_sm (gB b) 200)
    have hm := mostV_leD (gB b) (show (0 : Int) ≤ 200 by omega)
    clear he HS
    go_wp2_with fail
    refine HB.out.mono ?_
    rintro e w2 ⟨rfl, s2, f2⟩
    rw [show (201 : Int) - 1 = 200 by rfl] at s2
    have HF2 := Lib.hid (HF1a.out.fresh f2 (fun k hk => by unfold One at hk; omega))
    obtain ⟨A2, c2, q0, q1, _, _, _, b2, n2, _⟩ := s2.cells
    have hs2 := HF2.out.size
    have HU := Lib.hid (runpack_any _ _ (mostV (gB b) 200) w2 b2 (by have := HR.out; omega) (by omega) (by omega))
    have hlt2 := World.block_lt_of_cell? _ _ q1
    clear s2 f2 b2 n2 HB HF1a
    go_wp2_with fail
    refine HU.out.mono ?_
    rintro e w3 ⟨h3, f3⟩
    have q3 := (f3.cell hlt2 (fun e => e)).trans q1
    have HF3 := Lib.hid (HF2.out.trans f3)
    clear f3 HF2 HU q0 q1
    have hs3 := HF3.out.size
    by_cases hg : TellD (gB b) ∧ (mostV (gB b) 200 : Int) = n ∧ gN b = b.length
    · have HN := Lib.hid (getD_yes HE.out hg)
      obtain ⟨⟨t1, t2⟩, t3, t4⟩ := hg
      rw [t1] at q3
      have b1 : (((gN b : Nat) : Int) != (b.length : Int)) = false := by rw [t4]; simp
      have b2 : (((mostV (gB b) 200 : Nat) : Int) != n) = false := by rw [t3]; simp
      rcases h3 with ⟨hn, rfl⟩ | ⟨hy, u, rfl, ou⟩
      · exact absurd ⟨by omega, by rw [Int.toNat_natCast]; exact t2⟩ hn
      · rw [Int.toNat_natCast] at ou
        have HO := Lib.hid (ou.mono (B' := w.heap.size) (by omega))
        clear t1 t2 t3 t4 hy ou
        go_wp2
        go_ret2
        exact ⟨gtD_is HN.out rfl HO.out, HF3.out⟩
    · have HN := Lib.hid (getD_no (n := n) HE.out hg)
      rcases h3 with ⟨hn, rfl⟩ | ⟨hy, u, rfl, ou⟩
      · clear hg hn
        cases hb2 : mostB (gB b) 200 <;> (rw [hb2] at q3; clear hb2; go_wp2 <;> (go_ret2; exact ⟨gtD_is HN.out rfl (ow_nil _ _), HF3.out⟩))
      · rw [Int.toNat_natCast] at hy
        by_cases t4 : gN b = b.length
        · have b1 : (((gN b : Nat) : Int) != (b.length : Int)) = false := by rw [t4]; simp
          cases hb2 : mostB (gB b) 200 with
          | true =>
            rw [hb2] at q3
            clear hb2 hg hy ou t4
            go_wp2
            go_ret2
            exact ⟨gtD_is HN.out rfl (ow_nil _ _), HF3.out⟩
          | false =>
            have b2 : (((mostV (gB b) 200 : Nat) : Int) != n) = true := by
              rw [bne_iff_ne]; intro e; exact hg ⟨⟨hb2, hy.2⟩, e, t4⟩
            rw [hb2] at q3
            clear hb2 hg hy ou t4
            go_wp2
            go_ret2
            exact ⟨gtD_is HN.out rfl (ow_nil _ _), HF3.out⟩
        · have b1 : (((gN b : Nat) : Int) != (b.length : Int)) = true := by rw [bne_iff_ne]; omega
          clear hg hy ou t4
          go_wp2
          go_ret2
          exact ⟨gtD_is HN.out rfl (ow_nil _ _), HF3.out⟩
  · have hb : (((gE b : Nat) : Int) != 0) = true := by rw [bne_iff_ne]; omega
    have HN := Lib.hid (getD_err (n := n) he)
    clear he HS
    go_wp2
    go_ret2
    exact ⟨gtD_is HN.out rfl (ow_nil _ _), HF1.out⟩
end Go.Proofs.YtdofgniemkahnaaDoor


namespace Go.Proofs.YtdofgniemkahnaaDoor
set_option linter.unusedVariables false
set_option linter.unusedSimpArgs false
set_option maxRecDepth 100000
open Go.RowKit

/-- a cell's three values, and those of many -/
def clL (c : Cl) : List Value := [.bool c.null, .int .i64 c.num, .string ⟨c.txt.toArray⟩]
def clsL (l : List Cl) : List Value := l.flatMap clL
theorem clsL_cons (c : Cl) (l : List Cl) : clsL (c :: l) = clL c ++ clsL l := by simp [clsL]
theorem clsL_at (l : List Cl) (j : Nat) (i : Nat) (hj : j < l.length) (hi : i < 3) : (clsL l)[j * 3 + i]? = (clL l[j])[i]? := by
  induction l generalizing j with
  | nil => cases hj
  | cons c l ih =>
    rw [clsL_cons]
    cases j with
    | zero => rw [List.getElem?_append_left (by simp [clL]; omega)]; simp
    | succ j =>
      rw [List.getElem?_append_right (by simp [clL]; omega)]
      rw [show (j + 1) * 3 + i - (clL c).length = j * 3 + i by simp [clL]; omega]
      exact ih j (by simpa using hj)
/-- three cells, one behind the other, that hold c -/
structure At3 (w : World) (a : Addr) (c : Cl) : Prop where
  c0 : w.cell? a = some (.bool c.null)
  c1 : w.cell? (a.add 1) = some (.int .i64 c.num)
  c2 : w.cell? (a.add 2) = some (.string ⟨c.txt.toArray⟩)

/-- the slice v reads as the cells l -/
def Cs (w : World) (v : Value) (l : List Cl) : Prop :=
  ∃ A c, v = .slice A l.length c ∧ l.length ≤ c ∧ (A = none → c = 0) ∧ ∀ a, A = some a → ∀ j (h : j < l.length), At3 w (a.add (j * 3)) l[j]
/-- a row of the call's own, from block B on -/
def Oc (w : World) (B : Nat) (v : Value) (l : List Cl) : Prop := w.ownsRow B 62 3 v l.length (clsL l)

theorem At3.keep {w w' : World} {a : Addr} {c : Cl} (h : At3 w a c) (hk : w'.heap[a.block]? = w.heap[a.block]?) : At3 w' a c := by
  obtain ⟨h0, h1, h2⟩ := h
  exact ⟨by rw [← h0]; exact World.cell?_of_block hk, by rw [← h1]; exact World.cell?_of_block (by rw [add_block]; exact hk), by rw [← h2]; exact World.cell?_of_block (by rw [add_block]; exact hk)⟩

theorem Cs.nil_ (w : World) : Cs w (.slice none 0 0) [] := ⟨none, 0, rfl, Nat.le_refl _, fun _ => rfl, fun _ h => by cases h⟩
theorem Cs.keep {w w' : World} {v : Value} {l : List Cl} (h : Cs w v l) (hk : ∀ k, v.ownBlock = some k → k < w.heap.size → w'.heap[k]? = w.heap[k]?) : Cs w' v l := by
  obtain ⟨A, c, rfl, h1, h2, h3⟩ := h
  refine ⟨A, c, rfl, h1, h2, fun a ha j hj => ?_⟩
  have := h3 a ha j hj
  subst ha
  have hb := World.block_lt_of_cell? w _ this.c0
  refine this.keep ?_
  rw [add_block] at hb ⊢
  exact hk _ rfl hb
theorem Cs.fr {S : Nat → Prop} {w w' : World} {v : Value} {l : List Cl} (h : Cs w v l) (hf : Fr S w w') (hn : ∀ k, v.ownBlock = some k → ¬ S k) : Cs w' v l :=
  h.keep fun k hk hlt => hf.block k hlt (hn k hk)
theorem Cs.non {w w' : World} {v : Value} {l : List Cl} (h : Cs w v l) (hf : Fr Non w w') : Cs w' v l := h.fr hf fun _ _ e => e
theorem Cs.drew {w : World} {v : Value} {l : List Cl} (h : Cs w v l) : Cs w.drew v l := h.keep fun _ _ _ => rfl
theorem Cs.shape {w : World} {v : Value} {l : List Cl} (h : Cs w v l) : ∃ A c, v = .slice A l.length c := by
  obtain ⟨A, c, rfl, _⟩ := h; exact ⟨A, c, rfl⟩
theorem Cs.addr {w : World} {A : Option Addr} {n c : Nat} {l : List Cl} (h : Cs w (.slice A n c) l) (hl : 0 < n) : ∃ a, A = some a ∧ n = l.length ∧ n ≤ c ∧ ∀ j (h : j < l.length), At3 w (a.add (j * 3)) l[j] := by
  obtain ⟨A0, c0, he, h1, h2, h3⟩ := h
  simp only [Value.slice.injEq] at he
  obtain ⟨rfl, rfl, rfl⟩ := he
  cases A with
  | none => have := h2 rfl; omega
  | some a => exact ⟨a, rfl, rfl, h1, h3 a rfl⟩
/-- what a walk asks of the element at j -/
theorem Cs.el {w : World} {a : Addr} {n c : Nat} {l : List Cl} (h : Cs w (.slice (some a) n c) l) (j : Nat) (x : Cl) (hx : l[j]? = some x) :
    w.cell? (a.add (j * 3)) = some (.bool x.null) ∧ w.cell? ((a.add (j * 3)).add 1) = some (.int .i64 x.num) ∧ w.cell? ((a.add (j * 3)).add 2) = some (.string ⟨x.txt.toArray⟩) := by
  obtain ⟨A0, c0, he, h1, h2, h3⟩ := h
  simp only [Value.slice.injEq] at he
  obtain ⟨rfl, rfl, rfl⟩ := he
  obtain ⟨hj, rfl⟩ := List.getElem?_eq_some_iff.1 hx
  have := h3 a rfl j hj
  exact ⟨this.c0, this.c1, this.c2⟩

theorem Oc.lt {w : World} {B : Nat} {v : Value} {l : List Cl} (h : Oc w B v l) : ∀ k, v.ownBlock = some k → B ≤ k ∧ k < w.heap.size := World.ownsRow.lt h
theorem Oc.cs {w : World} {B : Nat} {v : Value} {l : List Cl} (h : Oc w B v l) : Cs w v l := by
  rcases h.2 with ⟨rfl, h0⟩ | ⟨g, cap, cur, rfl, _, _, hle, _, _, _⟩
  · have hl : l = [] := List.eq_nil_of_length_eq_zero h0
    subst hl; exact Cs.nil_ w
  · refine ⟨_, cap, rfl, hle, (fun h => by cases h), fun a ha j hj => ?_⟩
    cases ha
    have H := fun i hi => World.ownsRow.cells h (g := g) rfl (j * 3 + i) _ ((clsL_at l j i hj hi).trans (List.getElem?_eq_getElem (by simp [clL]; omega)))
    refine ⟨?_, ?_, ?_⟩
    · have := H 0 (by omega); simpa [clL] using this
    · rw [add_add]; have := H 1 (by omega); simpa [clL] using this
    · rw [add_add]; have := H 2 (by omega); simpa [clL] using this
theorem Oc.shape {w : World} {B : Nat} {v : Value} {l : List Cl} (h : Oc w B v l) : ∃ A c, v = .slice A l.length c := h.cs.shape
theorem Oc.keep {w w' : World} {B : Nat} {v : Value} {l : List Cl} (h : Oc w B v l) (hk : ∀ k, v.ownBlock = some k → w'.heap[k]? = w.heap[k]?) : Oc w' B v l := by
  refine ⟨h.1, ?_⟩
  rcases h.2 with h2 | ⟨g, cap, cur, hv, hb, hg, r⟩
  · exact .inl h2
  · exact .inr ⟨g, cap, cur, hv, hb, by rw [hk g (by rw [hv]; rfl)]; exact hg, r⟩
theorem Oc.fr {S : Nat → Prop} {w w' : World} {B : Nat} {v : Value} {l : List Cl} (h : Oc w B v l) (hf : Fr S w w') (hn : ∀ k, v.ownBlock = some k → ¬ S k) : Oc w' B v l :=
  h.keep fun k hk => hf.block k (h.lt k hk).2 (hn k hk)
theorem Oc.non {w w' : World} {B : Nat} {v : Value} {l : List Cl} (h : Oc w B v l) (hf : Fr Non w w') : Oc w' B v l := h.fr hf fun _ _ e => e
theorem Oc.alloc {w : World} {B : Nat} {v : Value} {l : List Cl} (h : Oc w B v l) (o : Obj) : Oc (w.alloc o) B v l := h.non ((Fr.refl _ _).alloc o)
theorem Oc.drew {w : World} {B : Nat} {v : Value} {l : List Cl} (h : Oc w B v l) : Oc w.drew B v l := h
theorem Oc.mono {w : World} {B B' : Nat} {v : Value} {l : List Cl} (h : Oc w B v l) (hB : B' ≤ B) : Oc w B' v l := by
  refine ⟨h.1, ?_⟩
  rcases h.2 with h2 | ⟨g, cap, cur, hv, hb, r⟩
  · exact .inl h2
  · exact .inr ⟨g, cap, cur, hv, by omega, r⟩
theorem Oc.kind {w : World} {B : Nat} {v : Value} {l : List Cl} (h : Oc w B v l) : ∀ k, v.ownBlock = some k → ∃ cur, w.heap[k]? = some (.cells cur 62 (0, 0)) := by
  intro k hk
  rcases h.2 with ⟨rfl, _⟩ | ⟨g, cap, cur, rfl, _, hg, _⟩
  · cases hk
  · obtain rfl : g = k := by simpa [Value.ownBlock] using hk
    exact ⟨cur, hg⟩
theorem Oc.row {w : World} {B : Nat} {v : Value} {l : List Cl} (h : Oc w B v l) (hn : 0 < l.length) : ∃ g cap, v = .slice (some ⟨g, 0, none⟩) l.length cap ∧ B ≤ g ∧ g < w.heap.size ∧ l.length ≤ cap ∧ cap ≤ maxLen := by
  rcases h.2 with ⟨rfl, h0⟩ | ⟨g, cap, cur, rfl, hb, hg, hle, hm, _⟩
  · omega
  · exact ⟨g, cap, rfl, hb, (Array.getElem?_eq_some_iff.1 hg).1, hle, hm⟩
/-- what a walk asks of a row's element at j -/
theorem Oc.el {w : World} {B g n cap : Nat} {l : List Cl} (h : Oc w B (.slice (some ⟨g, 0, none⟩) n cap) l) (hn : n = l.length) (j : Nat) (x : Cl) (hx : l[j]? = some x) :
    w.cell? ⟨g, j * 3, none⟩ = some (.bool x.null) ∧ w.cell? ⟨g, j * 3 + 1, none⟩ = some (.int .i64 x.num) ∧ w.cell? ⟨g, j * 3 + 2, none⟩ = some (.string ⟨x.txt.toArray⟩) := by
  subst hn
  obtain ⟨hj, rfl⟩ := List.getElem?_eq_some_iff.1 hx
  refine ⟨?_, ?_, ?_⟩
  · rw [World.ownsRow.cellAt h (j * 3) (by omega)]; have := clsL_at l j 0 hj (by omega); simpa [clL] using this
  · rw [World.ownsRow.cellAt h (j * 3 + 1) (by omega)]; have := clsL_at l j 1 hj (by omega); simpa [clL] using this
  · rw [World.ownsRow.cellAt h (j * 3 + 2) (by omega)]; have := clsL_at l j 2 hj (by omega); simpa [clL] using this
theorem Oc.frozen {w : World} {B g n cap : Nat} {l : List Cl} (h : Oc w B (.slice (some ⟨g, 0, none⟩) n cap) l) (hn : n = l.length) (j : Nat) : w.frozen? ⟨g, j, none⟩ = false := by
  subst hn; exact World.ownsRow.frozenAt h j
/-! ### Steps -/
end Go.Proofs.YtdofgniemkahnaaDoor


namespace Go.Proofs.YtdofgniemkahnaaDoor
set_option linter.unusedVariables false
set_option linter.unusedSimpArgs false
set_option maxRecDepth 100000
open Go.RowKit

/-- v reads as l; it is a row of the call's own, or has no room -/
def Fu {α : Type} (f : α → Value) (E : TypeId) (w : World) (B : Nat) (v : Value) (l : List α) : Prop :=
  Vs f w v l ∧ (Ow f E w B v l ∨ ∃ A, v = .slice A l.length l.length)
section
variable {α : Type} {f : α → Value} {T E : TypeId} {z : Value} {by_ : Nat}
theorem Fu.non {w w' : World} {B : Nat} {v : Value} {l : List α} (h : Fu f E w B v l) (hf : Fr Non w w') : Fu f E w' B v l :=
  ⟨h.1.non hf, h.2.imp (fun a => a.non hf) id⟩
theorem Fu.shape {w : World} {B : Nat} {v : Value} {l : List α} (h : Fu f E w B v l) : ∃ A c, v = .slice A l.length c := h.1.shape

end
end Go.Proofs.YtdofgniemkahnaaDoor
