/-
  Joined: Functions of Go's library at bytes: bytes.Clone, bytes.Equal, slices.Grow of nil, slices.Concat. · Layer 8: the walks of dict.Plain and of the document's Plain. · Layer 7: the walks of tight.size, slices.Min and slices.Max of int64s, bits.Len64, firkinref07.need. · Layer 7: the walks of the strip's put and get, the pack's add and tell. · Layer 7: the walk of tight.Put. · Layer 7: the walk of tight.open. · Layer 7: the walk of tight.Get. · Layer 7: the walk of firkinref07.Put. · Layer 7: the walk of firkinref07.Get.
-/
import Derived.Deep.RegionHeld3
import Derived.StillTail
import Derived.Test.YtheefloegbkflaaGreatDoorZ1
import Derived.Lib.AppendZeros
import Derived.Lib.SliceRun
import Derived.Test.YtheefloegbkflaaGreatDoorZ2
import Derived.Test.YtheefloegbkflaaGreatDoorZ3
import Derived.Lib.MinMax
import Derived.Deep.RegionWith
import Derived.BigRegion
import Derived.Test.YtheefloegbkflaaGreatDoorLen64
import Derived.WalkMore
import Derived.Laws.ResultCell

namespace Go.Proofs.YtheefloegbkflaaGreatDoor
set_option linter.unusedVariables false
set_option linter.unusedSimpArgs false
set_option maxRecDepth 100000
open Go.RowKit

theorem equal_any (v1 v2 : Value) (l1 l2 : List UInt8) (w : World) (h1 : Bs w v1 l1) (h2 : Bs w v2 l2) :
    Calls Tryz.prog 132 #[v1, v2] w fun e w' => e = .returned (.bool (l1 == l2)) ∧ w = w' := by
  have c1 := run_conv_Bs h1 26 9 5 Tryz.underlying26 Tryz.underlying5 Tryz.underlying9
  have c2 := run_conv_Bs h2 26 9 5 Tryz.underlying26 Tryz.underlying5 Tryz.underlying9
  clear h1 h2
  go_enter Tryz.func132, Tryz.ntmps132
  go_wp2
  go_ret
  exact ⟨rfl, rfl⟩

set_option maxHeartbeats 400000 in
theorem clone_any (v : Value) (l : List UInt8) (w : World) (h : Bs w v l) (hl : l.length < 140737488355328) :
    Calls Tryz.prog 76 #[v] w fun e w' => ∃ u, e = .returned u ∧ Own w' w.heap.size u l ∧ Fr Non w w' := by
  have HB := Lib.hid h
  have hq := fun (W : World) (a : Option Addr) (n c : Nat) => Lib.run_eql_slice_nil (P := Tryz.prog) W 26 5 a n c 0 0 Tryz.underlying26
  obtain ⟨A, c, rfl, hlc, hn, _⟩ := h
  cases A with
  | none =>
    have hc : c = 0 := hn rfl
    subst hc
    have hl0 : l = [] := List.eq_nil_of_length_eq_zero (by omega)
    subst hl0
    go_enter Tryz.func76, Tryz.ntmps76
    go_wp2
    go_ret
    exact ⟨_, rfl, own_nil _ _, Fr.refl _ _⟩
  | some a =>
    clear hn
    go_enter Tryz.func76, Tryz.ntmps76
    go_wp2_with (at_builtin; refine wpList_app rfl (.tmp 5) (.tmp 6) rfl w.heap.size (.slice (some ⟨w.heap.size, 0, none⟩) 0 0) (.slice (some a) l.length c) [] l rfl (own_lit0 _ _ _ rfl (Nat.le_refl _)) rfl (HB.out.non ((Fr.refl _ _).alloc _)) (by simpa using hl) (by simp) ?_; intro v3 w3 hown hf3)
    go_ret
    refine ⟨_, rfl, by simpa using hown, ((Fr.refl Non w).alloc _).fresh hf3 (fun k hk => by simp [Value.ownBlock] at hk; omega)⟩

set_option maxHeartbeats 400000 in
theorem grow0_any (n : Nat) (w : World) (hn : n < 140737488355328) :
    Calls Tryz.prog 94 #[.slice none 0 0, .int .i64 n] w fun e w' => ∃ v, e = .returned v ∧ Own w' w.heap.size v [] ∧ Fr Non w w' := by
  by_cases h0 : n = 0
  · subst h0
    go_enter Tryz.func94, Tryz.ntmps94
    go_wp2
    go_ret
    exact ⟨_, rfl, own_nil _ _, Fr.refl _ _⟩
  · obtain ⟨i, hi, hz0, hz1, hz2⟩ := info_parts info_u8
    have hpos : (0 : Int) < n := by omega
    have hr := fun ty => Lib.run_append_nil_zeros (P := Tryz.prog) w 26 3 ty 5 i (.int .u8 0) .i64 .i64 Tryz.underlying26 Tryz.underlying3 hi hz0 n (by omega) (by rw [hz1]; omega) (by omega) (by rw [hz2]; omega)
    have hG := grownCap_ge w n 0 5
    have hM := grownCap_le_maxLen w n 0 5 (by unfold maxLen; omega)
    have hf : Fr Non w (w.drew.alloc (.cells (Builtin.zeroCells #[Value.int .u8 0] n ++ Builtin.zeroCells #[Value.int .u8 0] (grownCap w n 0 5 - n)) 5)) := ((Fr.refl _ w).drew).alloc _
    have hown : Own (w.drew.alloc (.cells (Builtin.zeroCells #[Value.int .u8 0] n ++ Builtin.zeroCells #[Value.int .u8 0] (grownCap w n 0 5 - n)) 5)) w.heap.size (.slice (some ⟨w.heap.size, 0, none⟩) 0 (grownCap w n 0 5)) [] :=
      World.ownsRow_made w.drew _ _ (Nat.le_refl _) hM (by simp only [Array.size_append, size_zeroCells, List.size_toArray, List.length_cons, List.length_nil]; omega)
    generalize grownCap w n 0 5 = G at *
    have HO := Lib.hid hown
    have HF := Lib.hid hf
    have HR := Lib.hid hr
    have hM' : G ≤ 9223372036854775807 := hM
    clear hown hf hr
    go_enter Tryz.func94, Tryz.ntmps94
    go_wp2_with (at_builtin; refine Lib.wpList_append_run _ rfl _ _ _ _ rfl _ _ rfl rfl _ _ (HR.out _) ?_)
    go_ret
    exact ⟨_, rfl, HO.out, HF.out⟩

set_option maxHeartbeats 1000000 in
theorem concat_any (g n c : Nat) (xs : List Value) (ls : List (List UInt8)) (w : World) (hn : ls.length = n) (hn2 : n < 1000) (hp : Parts w g xs ls) (hb : ls.flatten.length < 1099511627776) :
    Calls Tryz.prog 52 #[.slice (some ⟨g, 0, none⟩) n c] w fun e w' => ∃ v, e = .returned v ∧ Own w' w.heap.size v ls.flatten ∧ Fr Non w w' := by
  have Hb := Lib.hid hb; clear hb
  go_enter Tryz.func52, Tryz.ntmps52
  go_wp2
  go_loop [3, 11] (fun s i => ∃ k : Nat, k ≤ n ∧ i = .int .i64 k ∧ s = .int .i64 (ls.take k).flatten.length) (fun _ i => n - (intOf i).toNat)
  case atStart => exact ⟨0, Nat.zero_le _, rfl, rfl⟩
  case round =>
    obtain ⟨k, hk, rfl, rfl⟩ := hrel
    have hle := flat_le ls k
    have hb1 : (ls.take k).flatten.length < 1099511627776 := by have := Hb.out; omega
    by_cases hlt : k < n
    · have hkl : k < ls.length := by omega
      have hkx : k < xs.length := by rw [hp.1]; omega
      obtain ⟨hcell, hbs⟩ := hp.2 k xs[k] ls[k] (by simp [hkx]) (by simp [hkl])
      have hsn := flat_snoc ls k hkl
      have hle2 := flat_le ls (k + 1)
      have hb2 : (ls.take k).flatten.length + ls[k].length < 1099511627776 := by rw [hsn, List.length_append] at hle2; have := Hb.out; omega
      have HS := Lib.hid hsn
      clear hsn hle hle2
      generalize ls[k] = l at *
      generalize hx : xs[k] = x at *
      clear hx
      obtain ⟨A, d, rfl⟩ := hbs.shape
      generalize (ls.take k).flatten = F at *
      have hge : ¬ ((F.length : Int) + l.length < 0) := by omega
      clear hbs
      go_wp2
      go_round
      case rel => exact ⟨k + 1, by omega, by go_num, by rw [HS.out, List.length_append]; go_num⟩
      case measure => simp [intOf]; omega
    · have hkn : k = n := by omega
      have hT : ls.take k = ls := List.take_of_length_le (by omega)
      rw [hT] at hb1 ⊢
      have HL := Lib.hid hn
      clear hle hT hkn hn
      generalize hF : ls.flatten.length = F at *
      have HF := Lib.hid hF; clear hF
      go_wp2_with fail
      refine (grow0_any F w (by omega)).mono ?_
      rintro e w1 ⟨v1, rfl, hown1, hfr1⟩
      have hp1 := hp.non hfr1
      go_wp2_with fail
      go_loopw [6, 27] (fun v i wr => ∃ k : Nat, k ≤ n ∧ i = .int .i64 k ∧ Own wr w.heap.size v (ls.take k).flatten ∧ Fr Non w wr) (fun _ i _ => n - (intOf i).toNat)
      case atStart => exact ⟨0, Nat.zero_le _, rfl, hown1, hfr1⟩
      case round =>
        obtain ⟨j, hj, rfl, hown, hfr⟩ := hrel
        have hB := hfr.size
        have hle := flat_le ls j
        by_cases hlt : j < n
        · have hkl : j < ls.length := by rw [HL.out]; exact hlt
          have hkx : j < xs.length := by rw [hp.1]; exact hkl
          obtain ⟨hcell, hbs⟩ := (hp.non hfr).2 j xs[j] ls[j] (by simp [hkx]) (by simp [hkl])
          have hsn := flat_snoc ls j hkl
          have hle2 := flat_le ls (j + 1)
          have hb2 : (ls.take j).flatten.length + ls[j].length < 140737488355328 := by rw [hsn, List.length_append] at hle2; have := HF.out; omega
          have HS := Lib.hid hsn
          clear hsn hle hle2 hp1 hp
          generalize ls[j] = l at *
          generalize hx : xs[j] = x at *
          clear hx
          generalize (ls.take j).flatten = G at *
          go_wp2_with (at_builtin; refine wpList_app rfl (.tmp 31) (.tmp 32) rfl w.heap.size u6 x G l rfl hown rfl hbs hb2 hB ?_; intro v' w' hown' hfr')
          go_roundw
          case rel => exact ⟨j + 1, by omega, by go_num, by rw [HS.out]; exact hown', hfr.fresh hfr' fun k hk => (hown.lt k hk).1⟩
          case measure => simp [intOf]; omega
        · have hT : ls.take j = ls := List.take_of_length_le (by rw [HL.out]; omega)
          rw [hT] at hown
          clear hT hle hp1 hp
          go_wp2
          go_ret
          exact ⟨_, rfl, hown, hfr⟩

theorem Parts.three {w : World} {t : TypeId} {x y z : Value} {l m n : List UInt8} (hx : Bs w x l) (hy : Bs w y m) (hz : Bs w z n) : Parts (w.alloc (.cells #[x, y, z] t)) w.heap.size [x, y, z] [l, m, n] := by
  refine ⟨rfl, fun j u k hu hk => ?_⟩
  have hb := Blk.new w t #[x, y, z]
  have hf : Fr Non w (w.alloc (.cells #[x, y, z] t)) := (Fr.refl _ _).alloc _
  match j with
  | 0 =>
    obtain rfl : x = u := by simpa using hu
    obtain rfl : l = k := by simpa using hk
    exact ⟨hb.cell 0, hx.non hf⟩
  | 1 =>
    obtain rfl : y = u := by simpa using hu
    obtain rfl : m = k := by simpa using hk
    exact ⟨hb.cell 1, hy.non hf⟩
  | 2 =>
    obtain rfl : z = u := by simpa using hu
    obtain rfl : n = k := by simpa using hk
    exact ⟨hb.cell 2, hz.non hf⟩
  | j + 3 => simp at hu
end Go.Proofs.YtheefloegbkflaaGreatDoor


namespace Go.Proofs.YtheefloegbkflaaGreatDoor
set_option linter.unusedVariables false
set_option linter.unusedSimpArgs false
set_option maxRecDepth 100000
open Go.RowKit

set_option maxHeartbeats 1000000 in
theorem plain_any (v : Value) (l : List Tx) (w : World) (hv : Vs sv w v l) (hl : l.length ≤ 1000000) (hx : ∀ x ∈ l, x.length < 1048576) (hb : (plainB l).length < 137438953472) :
    Calls Tryz.prog 106 #[v] w fun e w' => ∃ u, e = .returned u ∧ Own w' w.heap.size u (plainB l) ∧ Fr Non w w' := by
  have HX := Lib.hid hx
  have HB := Lib.hid hb
  clear hx hb
  obtain ⟨A, c, rfl, hlc, hn, hcell⟩ := hv
  have HN := Lib.hid hn
  have HC := Lib.hid hcell
  clear hn hcell
  go_enter Tryz.func106, Tryz.ntmps106
  go_wp2
  go_loopw [3, 8] (fun b i wr => ∃ k : Nat, k ≤ l.length ∧ i = .int .i64 k ∧ Own wr w.heap.size b (plainB (l.take k)) ∧ Fr Non w wr) (fun _ i _ => l.length - (intOf i).toNat)
  case atStart => exact ⟨0, Nat.zero_le _, rfl, own_nil _ _, Fr.refl _ _⟩
  case round =>
    obtain ⟨k, hk, rfl, hown, hfr⟩ := hrel
    by_cases hlt : k < l.length
    · cases A with
      | none => have := HN.out rfl; omega
      | some a =>
        have g0 : w.cell? (a.add k) = some (sv l[k]) := HC.out a rfl k hlt
        have g1 : wr.cell? (a.add k) = some (sv l[k]) := (hfr.cell (World.block_lt_of_cell? w _ g0) (fun e => e)).trans g0
        unfold sv at g1
        have hx1 := HX.out l[k] (by simp)
        have hle := plainB_le l (k + 1)
        have HS := Lib.hid (plainB_take l k hlt)
        have hle2 : (plainB (l.take k)).length + (textB l[k]).length < 140737488355328 := by
          rw [HS.out, List.length_append] at hle
          have := HB.out
          omega
        have hB := hfr.size
        clear g0 hle
        generalize l[k] = x at *
        generalize plainB (l.take k) = F at *
        go_wp2_with fail
        refine (vtext_any x wr hx1).mono ?_
        rintro e w1 ⟨v1, rfl, hown1, hf1⟩
        have hown' := hown.non hf1
        go_wp2_with (at_builtin; refine wpList_app rfl (.tmp 12) (.tmp 14) rfl w.heap.size u3 v1 F (textB x) rfl hown' rfl hown1.bs hle2 (Nat.le_trans hB hf1.size) ?_; intro v' w' hown2 hfr2)
        go_roundw
        case rel => exact ⟨k + 1, by omega, by go_num, by rw [HS.out]; exact hown2, (hfr.trans hf1).fresh hfr2 fun q hq => (hown.lt q hq).1⟩
        case measure => simp [intOf]; omega
    · have hT : l.take k = l := List.take_of_length_le (by omega)
      rw [hT] at hown
      clear hT
      go_wp2
      go_ret
      exact ⟨_, rfl, hown, hfr⟩

set_option maxHeartbeats 1000000 in
theorem rplain_any (v : Value) (l : List Tx) (w : World) (hv : Vs sv w v l) (hl : l.length ≤ 1000000) (hx : ∀ x ∈ l, x.length < 1048576) (hb : (plainB l).length < 137438953472) :
    Calls Tryz.prog 124 #[v] w fun e w' => ∃ u, e = .returned u ∧ Own w' w.heap.size u (plainB l) ∧ Fr Non w w' := by
  have HX := Lib.hid hx
  have HB := Lib.hid hb
  clear hx hb
  obtain ⟨A, c, rfl, hlc, hn, hcell⟩ := hv
  have HN := Lib.hid hn
  have HC := Lib.hid hcell
  clear hn hcell
  go_enter Tryz.func124, Tryz.ntmps124
  go_wp2
  have hown0 := own_lit0 w w.heap.size w.heap.size rfl (Nat.le_refl _)
  have hf0 : Fr Non w (w.alloc (.cells #[] 5)) := (Fr.refl _ _).alloc _
  go_loopw [3, 4] (fun b i wr => ∃ k : Nat, k ≤ l.length ∧ i = .int .i64 k ∧ Own wr w.heap.size b (plainB (l.take k)) ∧ Fr Non w wr) (fun _ i _ => l.length - (intOf i).toNat)
  case atStart => exact ⟨0, Nat.zero_le _, rfl, hown0, hf0⟩
  case round =>
    clear hown0 hf0
    obtain ⟨k, hk, rfl, hown, hfr⟩ := hrel
    by_cases hlt : k < l.length
    · cases A with
      | none => have := HN.out rfl; omega
      | some a =>
        have g0 : w.cell? (a.add k) = some (sv l[k]) := HC.out a rfl k hlt
        have g1 : wr.cell? (a.add k) = some (sv l[k]) := (hfr.cell (World.block_lt_of_cell? w _ g0) (fun e => e)).trans g0
        unfold sv at g1
        have hx1 := HX.out l[k] (by simp)
        have hle := plainB_le l (k + 1)
        have HS := Lib.hid (plainB_take l k hlt)
        have hle2 : (plainB (l.take k)).length + (textB l[k]).length < 140737488355328 := by
          rw [HS.out, List.length_append] at hle
          have := HB.out
          omega
        have hB := hfr.size
        clear g0 hle
        generalize l[k] = x at *
        generalize plainB (l.take k) = F at *
        go_wp2_with fail
        refine (rtext_any x wr hx1).mono ?_
        rintro e w1 ⟨v1, rfl, hown1, hf1⟩
        have hown' := hown.non hf1
        go_wp2_with (at_builtin; refine wpList_app rfl (.tmp 12) (.tmp 17) rfl w.heap.size u3 v1 F (textB x) rfl hown' rfl hown1.bs hle2 (Nat.le_trans hB hf1.size) ?_; intro v' w' hown2 hfr2)
        go_roundw
        case rel => exact ⟨k + 1, by omega, by go_num, by rw [HS.out]; exact hown2, (hfr.trans hf1).fresh hfr2 fun q hq => (hown.lt q hq).1⟩
        case measure => simp [intOf]; omega
    · have hT : l.take k = l := List.take_of_length_le (by omega)
      rw [hT] at hown
      clear hT
      go_wp2
      go_ret
      exact ⟨_, rfl, hown, hfr⟩
end Go.Proofs.YtheefloegbkflaaGreatDoor


namespace Go.Proofs.YtheefloegbkflaaGreatDoor
set_option linter.unusedVariables false
set_option linter.unusedSimpArgs false
set_option maxRecDepth 100000
open Go.RowKit

theorem tsize_any (n k : Nat) (w : World) (hn : n ≤ 1000000) (hk : k ≤ 1000) :
    Calls Tryz.prog 155 #[.int .i64 n, .int .i64 k] w fun e w' => e = .returned (.int .i64 (need (n * k) : Nat)) ∧ w = w' := by
  have hm : n * k ≤ 1000000000 := by have := Nat.mul_le_mul hn hk; omega
  have hc : (n : Int) * k = ((n * k : Nat) : Int) := by push_cast; rfl
  have HN := Lib.hid (show need (n * k) = (n * k + 7) / 8 by rfl)
  generalize n * k = q at *
  have h1 : IntKind.i64.wrap ((n : Int) * k) = (q : Int) := by rw [hc]; exact IntWalk.i64_in _ ⟨by omega, by omega⟩
  go_enter Tryz.func155, Tryz.ntmps155
  go_wp2
  go_ret
  exact ⟨ret_int (by rw [HN.out]; omega), rfl⟩

set_option maxHeartbeats 1000000 in
theorem tmin_any (v : Value) (l : List Int) (w : World) (hv : Vs iv w v l) (h0 : 0 < l.length) (hl : l.length ≤ 9223372036854775807) :
    Calls Tryz.prog 152 #[v] w fun e w' => e = .returned (.int .i64 (leastOf l)) ∧ w = w' := by
  obtain ⟨A, c, rfl, hlc, hn, hcell⟩ := hv
  cases A with
  | none => have := hn rfl; omega
  | some a =>
    have HC := Lib.hid (hcell a rfl)
    have g0 : w.cell? a = some (.int .i64 l[0]) := by
      have := hcell a rfl 0 h0
      simpa [Addr.add, iv] using this
    have H1 := Lib.hid (loT_one l h0)
    have HS := Lib.hid (loT_succ l)
    have HA := Lib.hid (loT_all (l := l) (Nat.le_refl _))
    clear hcell hn
    go_enter Tryz.func152, Tryz.ntmps152
    go_wp2
    go_loopw [3, 4] (fun m i wr => ∃ k : Nat, 1 ≤ k ∧ k ≤ l.length ∧ i = .int .i64 k ∧ m = .int .i64 (loT l k) ∧ wr = w) (fun _ i _ => l.length - (intOf i).toNat)
    case atStart => exact ⟨1, Nat.le_refl _, h0, rfl, by rw [H1.out], rfl⟩
    case round =>
      obtain ⟨k, hk1, hk, rfl, rfl, rfl⟩ := hrel
      by_cases hlt : k < l.length
      · have g1 : wr.cell? (a.add k) = some (iv l[k]) := HC.out k hlt
        have hs := Lib.hid (HS.out k hlt)
        unfold iv at g1
        clear g0 H1
        generalize l[k] = x at *
        go_wp2
        go_roundw
        case rel => exact ⟨k + 1, by omega, by omega, by go_num, by rw [hs.out], trivial⟩
        case measure => simp [intOf]; omega
      · obtain rfl : k = l.length := by omega
        go_wp2
        go_ret
        exact ⟨ret_int HA.out, rfl⟩

set_option maxHeartbeats 1000000 in
theorem tmax_any (v : Value) (l : List Int) (w : World) (hv : Vs iv w v l) (h0 : 0 < l.length) (hl : l.length ≤ 9223372036854775807) :
    Calls Tryz.prog 154 #[v] w fun e w' => e = .returned (.int .i64 (greatOf l)) ∧ w = w' := by
  obtain ⟨A, c, rfl, hlc, hn, hcell⟩ := hv
  cases A with
  | none => have := hn rfl; omega
  | some a =>
    have HC := Lib.hid (hcell a rfl)
    have g0 : w.cell? a = some (.int .i64 l[0]) := by
      have := hcell a rfl 0 h0
      simpa [Addr.add, iv] using this
    have H1 := Lib.hid (hiT_one l h0)
    have HS := Lib.hid (hiT_succ l)
    have HA := Lib.hid (hiT_all (l := l) (Nat.le_refl _))
    clear hcell hn
    go_enter Tryz.func154, Tryz.ntmps154
    go_wp2
    go_loopw [3, 4] (fun m i wr => ∃ k : Nat, 1 ≤ k ∧ k ≤ l.length ∧ i = .int .i64 k ∧ m = .int .i64 (hiT l k) ∧ wr = w) (fun _ i _ => l.length - (intOf i).toNat)
    case atStart => exact ⟨1, Nat.le_refl _, h0, rfl, by rw [H1.out], rfl⟩
    case round =>
      obtain ⟨k, hk1, hk, rfl, rfl, rfl⟩ := hrel
      by_cases hlt : k < l.length
      · have g1 : wr.cell? (a.add k) = some (iv l[k]) := HC.out k hlt
        have hs := Lib.hid (HS.out k hlt)
        unfold iv at g1
        clear g0 H1
        generalize l[k] = x at *
        go_wp2
        go_roundw
        case rel => exact ⟨k + 1, by omega, by omega, by go_num, by rw [hs.out], trivial⟩
        case measure => simp [intOf]; omega
      · obtain rfl : k = l.length := by omega
        go_wp2
        go_ret
        exact ⟨ret_int HA.out, rfl⟩

set_option maxHeartbeats 1000000 in
theorem tneed_any (u : Nat) (w : World) (hu : u < 18446744073709551616) :
    Calls Tryz.prog 168 #[.int .u64 u] w fun e w' => e = .returned (.int .i64 (Lib.bitLen u : Nat)) ∧ w = w' := by
  have HB := Lib.hid (bitLen_le64 u hu)
  have HH := Lib.hid (fun x (h0 : x ≠ 0) (h : x < 18446744073709551616) => Lib.bitLen_half x h0 (by omega))
  go_enter Tryz.func168, Tryz.ntmps168
  go_wp2
  go_loopw [0, 3] (fun x i wr => ∃ y k : Nat, y < 18446744073709551616 ∧ x = .int .u64 y ∧ i = .int .i64 k ∧ Hid (k + Lib.bitLen y = Lib.bitLen u) ∧ k ≤ 64 ∧ wr = w) (fun x _ _ => (intOf x).toNat)
  case atStart => exact ⟨u, 0, hu, rfl, rfl, Lib.hid (by omega), by omega, rfl⟩
  case round =>
    obtain ⟨y, k, hy, rfl, rfl, HK, hk, rfl⟩ := hrel
    by_cases h0 : 0 < y
    · have HX := Lib.hid (HH.out y (by omega) hy)
      go_wp2
      go_roundw
      case rel => exact ⟨y / 2, k + 1, by omega, by go_num, by go_num, Lib.hid (by have := HK.out; have := HX.out; omega), by have := HK.out; have := HX.out; have := HB.out; omega, trivial⟩
      case measure => simp [intOf]; omega
    · obtain rfl : y = 0 := by omega
      go_wp2
      go_ret
      exact ⟨ret_int (by have := HK.out; rw [bitLen_zero] at this; omega), rfl⟩
end Go.Proofs.YtheefloegbkflaaGreatDoor


namespace Go.Proofs.YtheefloegbkflaaGreatDoor
set_option linter.unusedVariables false
set_option linter.unusedSimpArgs false
set_option maxRecDepth 100000
open Go.RowKit

/-- two blocks -/
def Two (g r : Nat) : Nat → Prop := fun q => q = g ∨ q = r

theorem bit_lt8 (q t : Nat) (ht : t < 8) (hq : q < 2 ^ t) (b : Bool) : q + b.toNat * 2 ^ t < 256 := by
  have := pow8 ht
  cases b <;> simp <;> omega
theorem or_bit (x j q t : Nat) (hx : x < 18446744073709551616) (ht : t < 8) (hq : q < 2 ^ t) :
    bits BinOp.or IntKind.u8 (q : Int) (bits BinOp.and IntKind.u64 ((x : Int) / 2 ^ j) 1 % 256 * 2 ^ t % 256) = ((q + (x.testBit j).toNat * 2 ^ t : Nat) : Int) := by
  have hd : (x : Int) / 2 ^ j = ((x / 2 ^ j : Nat) : Int) := by push_cast; rfl
  have hl : x / 2 ^ j < 18446744073709551616 := Nat.lt_of_le_of_lt (Nat.div_le_self _ _) hx
  have hb : (x.testBit j).toNat = x / 2 ^ j % 2 := Nat.toNat_testBit x j
  rw [hb, hd]
  generalize x / 2 ^ j = y at *
  rw [Lib.u64_and1 _ (by omega) (by omega)]
  have h2 : (y : Int) % 2 = ((y % 2 : Nat) : Int) := by push_cast; rfl
  have h3 : y % 2 < 2 := Nat.mod_lt _ (by decide)
  rw [h2]
  generalize y % 2 = b at *
  have all : ∀ b : Fin 2, ∀ t : Fin 8, ∀ q : Fin 128, q.1 < 2 ^ t.1 → bits .or .u8 (q.1 : Int) ((b.1 : Int) % 256 * 2 ^ t.1 % 256) = ((q.1 + b.1 * 2 ^ t.1 : Nat) : Int) := by decide +kernel
  have := pow8 ht
  exact all ⟨b, h3⟩ ⟨t, ht⟩ ⟨q, by omega⟩ hq

set_option maxHeartbeats 4000000 in
theorem sput_any (g r B N : Nat) (L : List Bool) (p k x : Nat) (lo wd : Value) (w : World)
    (hB : Blk w g 172 #[.slice (some ⟨r, 0, none⟩) N N, .int .i64 p, lo, wd])
    (hown : Ow bv 5 w B (.slice (some ⟨r, 0, none⟩) N N) (pk L p)) (hN : N = need L.length) (hgr : g ≠ r) (hL : L.length ≤ 100000000)
    (hx : x < 18446744073709551616) (hk : p + k ≤ L.length) (hbits : ∀ i, i < k → L[p + i]? = some (x.testBit i)) (hk64 : k ≤ 64) :
    Calls Tryz.prog 179 #[ptr g, .int .u64 x, .int .i64 k] w fun e w' => e = .returned (.tuple #[]) ∧
      Blk w' g 172 #[.slice (some ⟨r, 0, none⟩) N N, .int .i64 (p + k : Nat), lo, wd] ∧ Ow bv 5 w' B (.slice (some ⟨r, 0, none⟩) N N) (pk L (p + k)) ∧ Fr (Two g r) w w' := by
  have HN := Lib.hid hN
  have HB := Lib.hid hbits
  have hnl : L.length ≤ 8 * N := by rw [hN]; unfold need; omega
  clear hN hbits
  go_enter Tryz.func179, Tryz.ntmps179
  go_wp2
  go_loopw [8] (fun i wr => ∃ j : Nat, j ≤ k ∧ i = .int .i64 j ∧ Blk wr g 172 #[.slice (some ⟨r, 0, none⟩) N N, .int .i64 (p + j : Nat), lo, wd] ∧ Ow bv 5 wr B (.slice (some ⟨r, 0, none⟩) N N) (pk L (p + j)) ∧ Fr (Two g r) w wr) (fun i _ => k - (intOf i).toNat)
  case atStart => exact ⟨0, Nat.zero_le _, rfl, hB, hown, Fr.refl _ _⟩
  case round =>
    obtain ⟨j, hj, rfl, hB, hown, hfr⟩ := hrel
    by_cases hlt : j < k
    · have hpl : p + j < L.length := by omega
      have c0 : wr.cell? ⟨g, 0, none⟩ = some (.slice (some ⟨r, 0, none⟩) N N) := hB.cell 0
      have c1 : wr.cell? ⟨g, 1, none⟩ = some (.int .i64 (p + j : Nat)) := hB.cell 1
      have f1 := hB.frozen 1
      have hq := hown.cell (by rw [pk_length, HN.out]) ((p + j) / 8) _ (pk_at L hpl)
      have hfz := hown.frozen (by rw [pk_length, HN.out]) ((p + j) / 8)
      have hidx : (p + j) / 8 < N := by omega
      have hql := pkn_lt L hpl
      have HS := Lib.hid (show pk L (p + j + 1) = (pk L (p + j)).set ((p + j) / 8) (pkn L (p + j) ((p + j) / 8) + (x.testBit j).toNat * 2 ^ ((p + j) % 8)).toUInt8 by
        rw [pk_step L hpl]
        have h1 := HB.out j hlt
        rw [List.getElem?_eq_getElem hpl] at h1
        rw [show L[p + j] = x.testBit j by simpa using h1])
      unfold bv at hq
      rw [small8 (pkn_lt8 _ _ _)] at hq
      have HBk := Lib.hid hB
      have HO := Lib.hid hown
      have HF := Lib.hid hfr
      clear hB hown hfr
      generalize hQ : pkn L (p + j) ((p + j) / 8) = q at *
      have HQ := Lib.hid hQ
      clear hQ
      generalize hP : p + j = P at *
      have HP := Lib.hid hP
      clear hP
      go_wp2
      go_region
      have e1 : bits BinOp.or IntKind.u8 (q : Int) (bits BinOp.and IntKind.u64 ((x : Int) / 2 ^ j) 1 % 256 * 2 ^ (P % 8) % 256) = ((q + (x.testBit j).toNat * 2 ^ (P % 8) : Nat) : Int) := or_bit x j q (P % 8) (by omega) (by omega) hql
      have hs := (HO.out.store (by rw [pk_length, HN.out]) (P / 8) (q + (x.testBit j).toNat * 2 ^ (P % 8)).toUInt8).drew
      unfold bv at hs
      rw [small8 (bit_lt8 q (P % 8) (by omega) hql _), ← e1, ← HS.out] at hs
      have hfs : Fr (One r) wr (wr.setCell ⟨r, P / 8, none⟩ (.int .u8 (bits BinOp.or IntKind.u8 (q : Int) (bits BinOp.and IntKind.u64 ((x : Int) / 2 ^ j) 1 % 256 * 2 ^ (P % 8) % 256)))).drew := ((Fr.refl _ _).set1 _ _).drew
      have hB2 := HBk.out.fr hfs (fun e => hgr e)
      generalize (wr.setCell ⟨r, P / 8, none⟩ (.int .u8 (bits BinOp.or IntKind.u8 (q : Int) (bits BinOp.and IntKind.u64 ((x : Int) / 2 ^ j) 1 % 256 * 2 ^ (P % 8) % 256)))).drew = W at *
      have c1' : W.cell? ⟨g, 1, none⟩ = some (.int .i64 (P : Nat)) := hB2.cell 1
      have f1' := hB2.frozen 1
      have HB2 := Lib.hid hB2
      have HS2 := Lib.hid hs
      have HF2 := Lib.hid ((HF.out.mono (fun q _ h => h)).trans (hfs.mono (fun q _ h => .inr h)))
      clear hs hfs hB2 e1 c0 c1 f1 hq hfz
      go_wp2
      go_roundw
      case rel =>
        refine ⟨j + 1, by omega, by go_num, ?_, ?_, HF2.out.setCell (fun _ => .inl rfl) _⟩
        · have := HB2.out.set 1 (.int .i64 ((P : Int) + 1))
          rw [show p + (j + 1) = P + 1 by rw [← HP.out]; omega]
          exact this
        · have := HS2.out.fr ((Fr.refl (One g) W).set1 1 (.int .i64 ((P : Int) + 1))) (fun q hq e => hgr (by simp [Value.ownBlock] at hq; rw [hq]; exact e.symm))
          rw [show p + (j + 1) = P + 1 by rw [← HP.out]; omega]
          exact this
      case measure => simp [intOf]; omega
    · obtain rfl : j = k := by omega
      go_wp2
      go_end0
      exact ⟨rfl, hB, hown, hfr⟩

theorem u64_diff {x lo : Int} (hx : I64 x) (hlo : I64 lo) (h : lo ≤ x) : IntKind.u64.wrap (IntKind.u64.wrap x - IntKind.u64.wrap lo) = (((x - lo).toNat : Nat) : Int) := by
  unfold I64 at hx hlo
  simp only [IntKind.wrap_u64]
  omega

set_option maxHeartbeats 4000000 in
theorem sadd_any (g r B N : Nat) (L : List Bool) (p k : Nat) (x lo : Int) (w : World)
    (hB : Blk w g 172 #[.slice (some ⟨r, 0, none⟩) N N, .int .i64 p, .int .i64 lo, .int .i64 k])
    (hown : Ow bv 5 w B (.slice (some ⟨r, 0, none⟩) N N) (pk L p)) (hN : N = need L.length) (hgr : g ≠ r) (hL : L.length ≤ 100000000)
    (hx : I64 x) (hlo : I64 lo) (hle : lo ≤ x) (hk : p + k ≤ L.length) (hbits : ∀ i, i < k → L[p + i]? = some ((x - lo).toNat.testBit i)) (hk64 : k ≤ 64) :
    Calls Tryz.prog 156 #[ptr g, .int .i64 x] w fun e w' => e = .returned (.tuple #[]) ∧
      Blk w' g 172 #[.slice (some ⟨r, 0, none⟩) N N, .int .i64 (p + k : Nat), .int .i64 lo, .int .i64 k] ∧ Ow bv 5 w' B (.slice (some ⟨r, 0, none⟩) N N) (pk L (p + k)) ∧ Fr (Two g r) w w' := by
  have hu : (x - lo).toNat < 18446744073709551616 := by unfold I64 at hx hlo; omega
  have hsp := sput_any g r B N L p k (x - lo).toNat (.int .i64 lo) (.int .i64 k) w.drew hB.drew hown.drew hN hgr hL hu hk hbits hk64
  have e1 := u64_diff hx hlo hle
  have c2 : w.drew.cell? ⟨g, 2, none⟩ = some (.int .i64 lo) := hB.cell 2
  have c3 : w.drew.cell? ⟨g, 3, none⟩ = some (.int .i64 (k : Nat)) := hB.cell 3
  have HP := Lib.hid hsp
  clear hsp hbits hB hown hx hlo hle hN hL
  generalize (x - lo).toNat = u at *
  go_enter Tryz.func156, Tryz.ntmps156
  go_wp2
  go_region_held3 (fun W => W.cell? ⟨g, 2, none⟩ = some (.int .i64 lo) ∧ W.cell? ⟨g, 3, none⟩ = some (.int .i64 (k : Nat))) (first | exact ⟨c2, c3⟩ | exact ⟨d2, d3⟩) (first | (go_at_call 179; refine HP.out.mono ?_; rintro e w2 ⟨rfl, hB2, hown2, hf2⟩; have d2 : w2.cell? ⟨g, 2, none⟩ = some (.int .i64 lo) := hB2.cell 2; have d3 : w2.cell? ⟨g, 3, none⟩ = some (.int .i64 (k : Nat)) := hB2.cell 3))
  go_wp2
  go_end0
  exact ⟨rfl, hB2, hown2, ((Fr.refl _ _).drew).trans hf2⟩

theorem or_low64 (a b i : Nat) (ha : a < 2 ^ i) (hb : b < 2) (hi : i < 64) : a ||| (b * 2 ^ i) = a + b * 2 ^ i := by
  rw [Nat.add_comm, Nat.mul_comm b, Nat.or_comm]
  exact (Nat.two_pow_add_eq_or_of_lt ha b).symm
theorem and_one8 (q : Nat) (h : q < 256) : bits .and .u8 (q : Int) 1 = ((q % 2 : Nat) : Int) := by
  have all : ∀ q : Fin 256, bits .and .u8 (q.1 : Int) 1 = ((q.1 % 2 : Nat) : Int) := by decide +kernel
  exact all ⟨q, h⟩
theorem bit_cell (held : List UInt8) (p : Nat) (c : UInt8) (hc : held[p / 8]? = some c) : bits .and .u8 ((c.toNat : Int) / 2 ^ (p % 8)) 1 = (((bitOf held p).toNat : Nat) : Int) := by
  have hd : (c.toNat : Int) / 2 ^ (p % 8) = ((c.toNat / 2 ^ (p % 8) : Nat) : Int) := by push_cast; rfl
  rw [hd, and_one8 _ (Nat.lt_of_le_of_lt (Nat.div_le_self _ _) c.toNat_lt), ← Nat.toNat_testBit]
  unfold bitOf
  rw [List.getD_eq_getElem?_getD, hc]
  rfl
theorem num_mod (X b i : Nat) (hX : X < 2 ^ i) (hb : b < 2) :
    bits .or .u64 ((X % 18446744073709551616 : Nat) : Int) (IntKind.u64.wrap (IntKind.u64.wrap (b : Int) * 2 ^ min i 64)) = (((X + b * 2 ^ i) % 18446744073709551616 : Nat) : Int) := by
  rw [IntWalk.u64_in (b : Int) ⟨by omega, by omega⟩]
  have hc : (b : Int) * 2 ^ min i 64 = ((b * 2 ^ min i 64 : Nat) : Int) := by push_cast; rfl
  have hm : ∀ y : Nat, IntKind.u64.wrap (y : Int) = ((y % 18446744073709551616 : Nat) : Int) := by intro y; rw [IntKind.wrap_u64]; omega
  rw [hc, hm]
  rw [bits_or_u64_nat _ _ (Nat.mod_lt _ (by decide)) (Nat.mod_lt _ (by decide))]
  congr 1
  by_cases h : i < 64
  · rw [show min i 64 = i by omega]
    have h1 : 2 ^ i ≤ 2 ^ 63 := Nat.pow_le_pow_right (by decide) (by omega)
    have h2 : b * 2 ^ i ≤ 2 ^ i := by
      have := Nat.mul_le_mul_right (2 ^ i) (show b ≤ 1 by omega)
      omega
    have e := or_low64 X b i hX hb h
    generalize 2 ^ i = Y at *
    rw [Nat.mod_eq_of_lt (show X < 18446744073709551616 by omega), Nat.mod_eq_of_lt (show b * Y < 18446744073709551616 by omega), e, Nat.mod_eq_of_lt (by omega)]
  · obtain ⟨q, rfl⟩ : ∃ q, i = 64 + q := ⟨i - 64, by omega⟩
    rw [show min (64 + q) 64 = 64 by omega, Nat.pow_add, show (2 : Nat) ^ 64 = 18446744073709551616 by decide, Nat.mul_mod_left, Nat.or_zero, Nat.mul_comm 18446744073709551616, ← Nat.mul_assoc, Nat.add_mul_mod_self_right]
theorem num_step (held : List UInt8) (p i : Nat) (c : UInt8) (hc : held[(p + i) / 8]? = some c) :
    bits .or .u64 ((numT held p i % 18446744073709551616 : Nat) : Int) (IntKind.u64.wrap (IntKind.u64.wrap (bits .and .u8 ((c.toNat : Int) / 2 ^ ((p + i) % 8)) 1) * 2 ^ min i 64)) = ((numT held p (i + 1) % 18446744073709551616 : Nat) : Int) := by
  rw [bit_cell held (p + i) c hc, num_mod _ _ _ (numT_lt held p i) (by cases bitOf held (p + i) <;> decide), numT_succ]

set_option maxHeartbeats 4000000 in
theorem sget_any (g p k : Nat) (v : Value) (held : List UInt8) (lo wd : Value) (w : World)
    (hB : Blk w g 172 #[v, .int .i64 p, lo, wd]) (hv : Vs bv w v held) (hvg : 0 < held.length → ∀ q, v.ownBlock = some q → q ≠ g)
    (hk : p + k ≤ 8 * held.length) (hl : held.length ≤ 100000000) (hk8 : k ≤ 255) :
    Calls Tryz.prog 180 #[ptr g, .int .i64 k] w fun e w' => e = .returned (.int .u64 (numT held p k % 18446744073709551616 : Nat)) ∧
      Blk w' g 172 #[v, .int .i64 (p + k : Nat), lo, wd] ∧ Fr (One g) w w' := by
  obtain ⟨A, c, rfl, hlc, hn, hcell⟩ := hv
  have HC := Lib.hid hcell
  have HN := Lib.hid hn
  have HG := Lib.hid hvg
  have HV := Lib.hid (show Vs bv w (.slice A held.length c) held from ⟨A, c, rfl, hlc, hn, hcell⟩)
  clear hcell hn hvg
  go_enter Tryz.func180, Tryz.ntmps180
  go_wp2
  go_loopw [5, 8] (fun x i wr => ∃ j : Nat, j ≤ k ∧ i = .int .i64 j ∧ x = .int .u64 (numT held p j % 18446744073709551616 : Nat) ∧ Blk wr g 172 #[.slice A held.length c, .int .i64 (p + j : Nat), lo, wd] ∧ Fr (One g) w wr) (fun _ i _ => k - (intOf i).toNat)
  case atStart => exact ⟨0, Nat.zero_le _, rfl, rfl, hB, Fr.refl _ _⟩
  case round =>
    obtain ⟨j, hj, rfl, rfl, hB, hfr⟩ := hrel
    by_cases hlt : j < k
    · have hpl : (p + j) / 8 < held.length := by omega
      cases A with
      | none => have := HN.out rfl; omega
      | some a =>
        have c0 : wr.cell? ⟨g, 0, none⟩ = some (.slice (some a) held.length c) := hB.cell 0
        have c1 : wr.cell? ⟨g, 1, none⟩ = some (.int .i64 (p + j : Nat)) := hB.cell 1
        have f1 := hB.frozen 1
        have hq : wr.cell? (a.add ((p + j) / 8)) = some (bv (held[(p + j) / 8]'hpl)) := by
          obtain ⟨a', ha', _, _, hq⟩ := (HV.out.fr hfr (fun q hq e => HG.out (by omega) q hq e)).addr (by omega)
          obtain rfl : a = a' := by simpa using ha'
          exact hq ((p + j) / 8) hpl
        have hst := num_step held p j (held[(p + j) / 8]'hpl) (List.getElem?_eq_getElem hpl)
        have HS := Lib.hid hst
        clear hst
        unfold bv at hq
        have hx8 := held[(p + j) / 8].toNat_lt
        have HBk := Lib.hid hB
        have HF := Lib.hid hfr
        clear hB hfr
        generalize held[(p + j) / 8] = cb at *
        generalize hX : numT held p j % 18446744073709551616 = X at *
        have HX := Lib.hid hX
        clear hX
        generalize hP : p + j = P at *
        have HP := Lib.hid hP
        clear hP
        go_wp2
        go_region
        have c1' : wr.drew.cell? ⟨g, 1, none⟩ = some (.int .i64 (P : Nat)) := c1
        have f1' : wr.drew.frozen? ⟨g, 1, none⟩ = false := f1
        generalize hW : wr.drew = W at *
        have hBW : Blk W g 172 #[.slice (some a) held.length c, .int .i64 (P : Nat), lo, wd] := by rw [← hW]; exact HBk.out
        have hFW : Fr (One g) w W := by rw [← hW]; exact HF.out.drew
        have HBW := Lib.hid hBW
        have HFW := Lib.hid hFW
        clear hBW hFW hW
        go_wp2
        go_roundw
        case rel =>
          refine ⟨j + 1, by omega, by go_num, ?_, ?_, HFW.out.set1 _ _⟩
          · rw [HS.out]
          · have := HBW.out.set 1 (.int .i64 ((P : Int) + 1))
            rw [show p + (j + 1) = P + 1 by rw [← HP.out]; omega]
            exact this
        case measure => simp [intOf]; omega
    · obtain rfl : j = k := by omega
      go_wp2
      go_ret
      exact ⟨rfl, hB, hfr⟩

theorem tell_eq (lo : Int) (n : Nat) : IntKind.i64.wrap (IntKind.u64.wrap (IntKind.u64.wrap lo + ((n % 18446744073709551616 : Nat) : Int))) = w6 (lo + (n : Int)) := by
  unfold w6
  simp only [IntKind.wrap_u64, IntKind.wrap_i64]
  omega

set_option maxHeartbeats 4000000 in
theorem stell_any (g p k : Nat) (v : Value) (held : List UInt8) (lo : Int) (w : World)
    (hB : Blk w g 172 #[v, .int .i64 p, .int .i64 lo, .int .i64 k]) (hv : Vs bv w v held) (hvg : 0 < held.length → ∀ q, v.ownBlock = some q → q ≠ g)
    (hk : p + k ≤ 8 * held.length) (hl : held.length ≤ 100000000) (hk8 : k ≤ 255) :
    Calls Tryz.prog 158 #[ptr g] w fun e w' => e = .returned (.int .i64 (w6 (lo + (numT held p k : Nat)))) ∧
      Blk w' g 172 #[v, .int .i64 (p + k : Nat), .int .i64 lo, .int .i64 k] ∧ Fr (One g) w w' := by
  have HP := Lib.hid (sget_any g p k v held (.int .i64 lo) (.int .i64 k) w.drew hB.drew hv.drew hvg hk hl hk8)
  have HT := Lib.hid (tell_eq lo (numT held p k))
  have c2 : w.drew.cell? ⟨g, 2, none⟩ = some (.int .i64 lo) := hB.cell 2
  have c3 : w.drew.cell? ⟨g, 3, none⟩ = some (.int .i64 (k : Nat)) := hB.cell 3
  clear hB hv hvg hl
  generalize hM : numT held p k % 18446744073709551616 = m at *
  have HM := Lib.hid hM
  clear hM
  go_enter Tryz.func158, Tryz.ntmps158
  go_wp2
  go_region_held3 (fun W => W.cell? ⟨g, 2, none⟩ = some (.int .i64 lo) ∧ W.cell? ⟨g, 3, none⟩ = some (.int .i64 (k : Nat))) (first | exact ⟨c2, c3⟩ | exact ⟨d2, d3⟩) (first | (go_at_call 180; refine HP.out.mono ?_; rintro e w2 ⟨rfl, hB2, hf2⟩; have d2 : w2.cell? ⟨g, 2, none⟩ = some (.int .i64 lo) := hB2.cell 2; have d3 : w2.cell? ⟨g, 3, none⟩ = some (.int .i64 (k : Nat)) := hB2.cell 3))
  go_wp2
  go_ret
  exact ⟨ret_int HT.out, hB2, ((Fr.refl _ _).drew).trans hf2⟩
end Go.Proofs.YtheefloegbkflaaGreatDoor


namespace Go.Proofs.YtheefloegbkflaaGreatDoor
set_option linter.unusedVariables false
set_option linter.unusedSimpArgs false
set_option maxRecDepth 100000
open Go.RowKit

theorem cell_al {w : World} {p : Addr} {u : Value} {o : Obj} (h : w.cell? p = some u) : (w.alloc o).cell? p = some u :=
  (((Fr.refl Non w).alloc o).cell (World.block_lt_of_cell? w _ h) (fun e => e)).trans h

theorem bs_byte (w2 : World) {k : Nat} (hk : k ≤ 64) : Bs (w2.alloc (.cells #[.int .u8 ((k : Int) % 256)] 5)) (.slice (some ⟨w2.heap.size, 0, none⟩) 1 1) [k.toUInt8] := by
  have := bs_row w2 [k.toUInt8]
  simp only [List.map_cons, List.map_nil, bv, small64 hk] at this
  rw [show (k : Int) % 256 = (k : Int) by omega]
  exact this
/-- the three parts of what Put answers, as they lie ahead of the call of Concat -/
theorem parts_put {w2 : World} {B : Nat} {x z : Value} {t : TypeId} {l n : List UInt8} {k : Nat} (hk : k ≤ 64) (hx : Own w2 B x l) (hz : Bs w2 z n) :
    Parts ((w2.alloc (.cells #[.int .u8 ((k : Int) % 256)] 5)).alloc (.cells #[x, .slice (some ⟨w2.heap.size, 0, none⟩) 1 1, z] t)) (w2.heap.size + 1) [x, .slice (some ⟨w2.heap.size, 0, none⟩) 1 1, z] [l, [k.toUInt8], n] := by
  have hf : Fr Non w2 (w2.alloc (.cells #[.int .u8 ((k : Int) % 256)] 5)) := (Fr.refl _ _).alloc _
  have hy := bs_byte w2 hk
  have h := Parts.three (t := t) (hx.bs.non hf) hy (hz.non hf)
  rwa [show (w2.alloc (.cells #[.int .u8 ((k : Int) % 256)] 5)).heap.size = w2.heap.size + 1 by simp] at h

set_option maxHeartbeats 4000000 in
theorem tput_any (v : Value) (l : List Int) (w : World) (hv : Vs iv w v l) (hx : ∀ x ∈ l, I64 x) (hl : l.length ≤ 1000000) :
    Calls Tryz.prog 103 #[v] w fun e w' => ∃ u, e = .returned u ∧ Own w' w.heap.size u (putT l) ∧ Fr Non w w' := by
  have HV := Lib.hid hv
  have HX := Lib.hid hx
  clear hx
  obtain ⟨A, c, rfl, hlc, hn, hcell⟩ := hv
  have HN := Lib.hid hn
  have HC := Lib.hid hcell
  clear hn hcell
  by_cases h0 : l.length = 0
  · have hl0 : l = [] := List.eq_nil_of_length_eq_zero h0
    subst hl0
    go_enter Tryz.func103, Tryz.ntmps103
    go_wp2
    go_ret
    exact ⟨_, rfl, own_nil _ _, Fr.refl _ _⟩
  · have hpos : 0 < l.length := by omega
    have h64 := least_i64 HX.out
    have HLo := Lib.hid h64
    have HHi := Lib.hid (great_i64 HX.out)
    go_enter Tryz.func103, Tryz.ntmps103
    go_wp2_with fail
    refine (tmin_any _ l w HV.out hpos (by omega)).mono ?_
    rintro e w1 ⟨rfl, rfl⟩
    go_wp2_with fail
    have hB1 : Blk (w.alloc (.cells #[.slice none 0 0, .int .i64 0, .int .i64 (leastOf l), .int .i64 0] 172)) w.heap.size 172 #[.slice none 0 0, .int .i64 0, .int .i64 (leastOf l), .int .i64 0] := Blk.new _ _ _
    have hf1 : Fr Non w (w.alloc (.cells #[.slice none 0 0, .int .i64 0, .int .i64 (leastOf l), .int .i64 0] 172)) := (Fr.refl _ _).alloc _
    have hz1 : (w.alloc (.cells #[.slice none 0 0, .int .i64 0, .int .i64 (leastOf l), .int .i64 0] 172)).heap.size = w.heap.size + 1 := by simp
    generalize w.alloc (.cells #[.slice none 0 0, .int .i64 0, .int .i64 (leastOf l), .int .i64 0] 172) = W1 at *
    generalize hg : w.heap.size = g at *
    have hv1 := (HV.out.non hf1).drew
    have c2 : W1.drew.cell? ⟨g, 2, none⟩ = some (.int .i64 (leastOf l)) := hB1.cell 2
    have c3 : W1.drew.cell? ⟨g, 3, none⟩ = some (.int .i64 0) := hB1.cell 3
    have f3 : W1.drew.frozen? ⟨g, 3, none⟩ = false := hB1.frozen 3
    have hle : leastOf l ≤ greatOf l := Int.le_trans (least_le l 0 hpos) (great_ge l 0 hpos)
    have e1 := u64_diff HHi.out HLo.out hle
    have hd := diff_lt HX.out
    have HLen := Lib.hid (fun W => len64_any (greatOf l - leastOf l).toNat W hd)
    have HMax := Lib.hid (tmax_any _ l _ hv1 hpos (by omega))
    have hB2 := (hB1.set 3 (.int .i64 (Lib.bitLen (greatOf l - leastOf l).toNat : Nat))).drew
    have d2 : (W1.setCell ⟨g, 3, none⟩ (.int .i64 (Lib.bitLen (greatOf l - leastOf l).toNat : Nat))).drew.cell? ⟨g, 2, none⟩ = some (.int .i64 (leastOf l)) := hB2.cell 2
    have HB1 := Lib.hid hB1
    have HB2 := Lib.hid hB2
    have HF1 := Lib.hid hf1
    clear hd hle hB1 hB2 hf1 hv1
    generalize hD : (greatOf l - leastOf l).toNat = d at *
    have HD := Lib.hid hD
    clear hD
    go_region_held3 (fun W => W.cell? ⟨g, 2, none⟩ = some (.int .i64 (leastOf l))) (first | exact c2 | exact d2) (first | (go_at_call 154; refine HMax.out.mono ?_; rintro e w2 ⟨rfl, rfl⟩) | (go_at_call 153; refine (HLen.out _).mono ?_; rintro e w2 ⟨rfl, rfl⟩))
    have hB2 := HB2.out
    have hf2 : Fr Non w (W1.setCell ⟨g, 3, none⟩ (.int .i64 (Lib.bitLen d : Nat))).drew := (HF1.out.setCell (p := ⟨g, 3, none⟩) (fun h => by have h : g < w.heap.size := h; omega) _).drew
    have hz2 : (W1.setCell ⟨g, 3, none⟩ (.int .i64 (Lib.bitLen d : Nat))).drew.heap.size = g + 1 := by simpa using hz1
    clear c2 c3 f3 d2 e1
    generalize (W1.setCell ⟨g, 3, none⟩ (.int .i64 (Lib.bitLen d : Nat))).drew = W2 at *
    have hk64 := width_le HX.out
    have HW := Lib.hid (show width l = Lib.bitLen d by unfold width; rw [HD.out])
    rw [HW.out] at hk64
    generalize Lib.bitLen d = k at *
    have c3 : W2.cell? ⟨g, 3, none⟩ = some (.int .i64 (k : Nat)) := hB2.cell 3
    have c0 : W2.cell? ⟨g, 0, none⟩ = some (.slice none 0 0) := hB2.cell 0
    have f0 := hB2.frozen 0
    have HB3 := Lib.hid hB2
    have HF3 := Lib.hid hf2
    clear hB2 hf2
    go_wp2_with fail
    refine (tsize_any l.length k W2 hl (by omega)).mono ?_
    rintro e w2 ⟨rfl, rfl⟩
    generalize hNN : need (l.length * k) = N at *
    have hN9 : N ≤ 100000000 := by rw [← hNN]; have := Nat.mul_le_mul hl hk64; unfold need; omega
    have HNN := Lib.hid hNN
    clear hNN
    go_wp2_with (at_make; refine wpList_mkfullG el_u8 (f := bv) (0 : UInt8) rfl rfl _ _ rfl _ _ _ _ N rfl rfl rfl rfl (by omega) ?_; intro w3 hown3 hf3; rw [hz2] at hown3 ⊢; have b3 := HB3.out.fr hf3 (fun e => e); have c3 : w3.cell? ⟨g, 3, none⟩ = some (.int .i64 (k : Nat)) := b3.cell 3; have c0 : w3.cell? ⟨g, 0, none⟩ = some (.slice none 0 0) := b3.cell 0; have f0 := b3.frozen 0; have HB4 := Lib.hid b3; clear b3; have HO3 := Lib.hid hown3; clear hown3)
    have HL := Lib.hid (show N = need (allB k (leastOf l) l).length by rw [allB_length, HNN.out])
    have HLn := Lib.hid (allB_length k (leastOf l) l)
    have HLk : Hid (l.length * k ≤ 100000000) := Lib.hid (by have := Nat.mul_le_mul hl hk64; omega)
    have hgw : ¬ g < w.heap.size := by omega
    have hBs := HB4.out.set 0 (.slice (some ⟨g + 1, 0, none⟩) N N)
    have hos := HO3.out.fr ((Fr.refl (One g) w3).set1 0 (.slice (some ⟨g + 1, 0, none⟩) N N)) (fun q hq e => by simp [Value.ownBlock] at hq; have : q = g := e; omega)
    have hfs : Fr Non w (w3.setCell ⟨g, 0, none⟩ (.slice (some ⟨g + 1, 0, none⟩) N N)) := (HF3.out.trans hf3).setCell (p := ⟨g, 0, none⟩) (fun h => hgw h) _
    have hp0 : pk (allB k (leastOf l) l) (0 * k) = List.replicate N 0 := by rw [Nat.zero_mul, pk_zero, ← HL.out]
    rw [← hp0] at hos
    clear hf3 hp0 c0 c3 f0
    go_loopw [31] (fun i wr => ∃ j : Nat, j ≤ l.length ∧ i = .int .i64 j ∧ Blk wr g 172 #[.slice (some ⟨g + 1, 0, none⟩) N N, .int .i64 (j * k : Nat), .int .i64 (leastOf l), .int .i64 k] ∧ Ow bv 5 wr (g + 1) (.slice (some ⟨g + 1, 0, none⟩) N N) (pk (allB k (leastOf l) l) (j * k)) ∧ Fr Non w wr) (fun i _ => l.length - (intOf i).toNat)
    case atStart => exact ⟨0, Nat.zero_le _, rfl, by rw [Nat.zero_mul]; exact hBs, hos, hfs⟩
    case round =>
      clear hBs hos hfs
      obtain ⟨j, hj, rfl, hB, hown, hfr⟩ := hrel
      by_cases hlt : j < l.length
      · cases A with
        | none => have := HN.out rfl; omega
        | some a =>
          have hc0 := HC.out a rfl j hlt
          have hc1 : wr.cell? (a.add j) = some (iv l[j]) := (hfr.cell (World.block_lt_of_cell? w _ hc0) (fun e => e)).trans hc0
          unfold iv at hc1
          have hadd := sadd_any g (g + 1) (g + 1) N (allB k (leastOf l) l) (j * k) k l[j] (leastOf l) wr hB hown HL.out (by omega) (by rw [HLn.out]; exact HLk.out) (HX.out _ (by simp)) HLo.out (least_le l j hlt)
            (by rw [HLn.out]; have := Nat.mul_le_mul_right k (show j + 1 ≤ l.length by omega); rw [Nat.add_mul, Nat.one_mul] at this; exact this)
            (fun i hi => by
              have hp : j * k + i < (allB k (leastOf l) l).length := by rw [HLn.out]; exact place_lt hi hlt
              rw [List.getElem?_eq_getElem hp, allB_at (leastOf l) l hi hlt hp])
            hk64
          have HA := Lib.hid hadd
          have HFr := Lib.hid hfr
          clear hadd hc0 hB hown hfr
          generalize l[j] = x at *
          go_wp2_with fail
          refine HA.out.mono ?_
          rintro e w5 ⟨rfl, hB5, hown5, hf5⟩
          go_wp2
          go_roundw
          case rel =>
            have e : j * k + k = (j + 1) * k := by rw [Nat.add_mul, Nat.one_mul]
            rw [e] at hB5 hown5
            exact ⟨j + 1, by omega, by go_num, hB5, hown5, HFr.out.fresh hf5 (fun q hq => by rcases hq with h | h <;> omega)⟩
          case measure => simp [intOf]; omega
      · obtain rfl : j = l.length := by omega
        rw [pk_all _ (by rw [HLn.out]; exact Nat.le_refl _)] at hown
        have d0 : wr.drew.cell? ⟨g, 0, none⟩ = some (.slice (some ⟨g + 1, 0, none⟩) N N) := hB.cell 0
        have d2 : wr.drew.cell? ⟨g, 2, none⟩ = some (.int .i64 (leastOf l)) := hB.cell 2
        have d3 : wr.drew.cell? ⟨g, 3, none⟩ = some (.int .i64 (k : Nat)) := hB.cell 3
        have HO := Lib.hid hown
        have HF := Lib.hid hfr.drew
        have HF0 := Lib.hid hfr
        have HBk := Lib.hid hB
        have hgr := hB.lt
        have ek : IntKind.u8.wrap (k : Int) = ((k.toUInt8.toNat : Nat) : Int) := by rw [small64 hk64, IntKind.wrap_u8]; omega
        have HLt : Hid ([Lib.uvarint (zig (leastOf l)), [k.toUInt8], packB (allB k (leastOf l) l)].flatten.length < 1099511627776) := Lib.hid (by
          have := Lib.uvarint_length64 (zig_lt h64.1 h64.2)
          simp only [List.flatten_cons, List.flatten_nil, List.length_append, List.length_nil, packB_length, ← HL.out, List.length_cons]
          omega)
        have HPt : Hid ([Lib.uvarint (zig (leastOf l)), [k.toUInt8], packB (allB k (leastOf l) l)].flatten = putT l) := Lib.hid (by
          rw [putT_some (by intro e; rw [e] at hpos; simp at hpos), HW.out]
          simp)
        have hgr2 : g < (wr.alloc (.cells #[.int .u8 ((k : Int) % 256)] 5)).drew.heap.size := by show g < (wr.alloc (.cells #[.int .u8 ((k : Int) % 256)] 5)).heap.size; simp; omega
        have HY := Lib.hid (bs_byte wr hk64)
        clear hown hfr hB
        go_wp2_with fail
        go_region_held3 (fun W => W.cell? ⟨g, 0, none⟩ = some (.slice (some ⟨g + 1, 0, none⟩) N N) ∧ W.cell? ⟨g, 2, none⟩ = some (.int .i64 (leastOf l)) ∧ W.cell? ⟨g, 3, none⟩ = some (.int .i64 (k : Nat))) (first | exact ⟨d0, d2, d3⟩ | exact ⟨cell_al (w := wr) d0, cell_al (w := wr) d2, cell_al (w := wr) d3⟩ | exact ⟨q0, q2, q3⟩ | exact ⟨cell_al q0, cell_al q2, cell_al q3⟩ | exact ⟨cell_al (cell_al q0), cell_al (cell_al q2), cell_al (cell_al q3)⟩ | exact ⟨z0, z2, z3⟩) (first | (go_at_call 115; refine (vint_any (leastOf l) _ h64.1 h64.2).mono ?_; rintro e w2 ⟨v1, rfl, hown1, hf1⟩; obtain ⟨A1, c1, rfl⟩ := hown1.bs.shape; have q0 := (hf1.cell (p := ⟨g, 0, none⟩) hgr (fun e => e)).trans d0; have q2 := (hf1.cell (p := ⟨g, 2, none⟩) hgr (fun e => e)).trans d2; have q3 := (hf1.cell (p := ⟨g, 3, none⟩) hgr (fun e => e)).trans d3) | (go_at_call 115; refine (vint_any (leastOf l) _ h64.1 h64.2).mono ?_; rintro e w2 ⟨v1, rfl, hown1, hfb⟩; obtain ⟨A1, c1, rfl⟩ := hown1.bs.shape; have q0 := (hfb.cell (p := ⟨g, 0, none⟩) hgr2 (fun e => e)).trans (cell_al (w := wr) d0); have q2 := (hfb.cell (p := ⟨g, 2, none⟩) hgr2 (fun e => e)).trans (cell_al (w := wr) d2); have q3 := (hfb.cell (p := ⟨g, 3, none⟩) hgr2 (fun e => e)).trans (cell_al (w := wr) d3)) | (go_at_call 52; refine (concat_any (w2.heap.size + 1) 3 3 _ [Lib.uvarint (zig (leastOf l)), [k.toUInt8], packB (allB k (leastOf l) l)] _ rfl (by omega) (parts_put hk64 hown1 (HO.out.vs.bs.drew.non hf1)) HLt.out).mono ?_; rintro e w4 ⟨v4, rfl, hown4, hf4⟩; have z0 := (hf4.cell (p := ⟨g, 0, none⟩) (World.block_lt_of_cell? _ _ (cell_al (cell_al q0))) (fun e => e)).trans (cell_al (cell_al q0)); have z2 := (hf4.cell (p := ⟨g, 2, none⟩) (World.block_lt_of_cell? _ _ (cell_al (cell_al q2))) (fun e => e)).trans (cell_al (cell_al q2)); have z3 := (hf4.cell (p := ⟨g, 3, none⟩) (World.block_lt_of_cell? _ _ (cell_al (cell_al q3))) (fun e => e)).trans (cell_al (cell_al q3))) | (go_at_call 52; refine (concat_any w2.heap.size 3 3 _ [Lib.uvarint (zig (leastOf l)), [k.toUInt8], packB (allB k (leastOf l) l)] _ rfl (by omega) (Parts.three hown1.bs (HY.out.drew.non hfb) ((HO.out.vs.bs.non ((Fr.refl Non _).alloc _)).drew.non hfb)) HLt.out).mono ?_; rintro e w4 ⟨v4, rfl, hown4, hf4⟩; have z0 := (hf4.cell (p := ⟨g, 0, none⟩) (World.block_lt_of_cell? _ _ (cell_al q0)) (fun e => e)).trans (cell_al q0); have z2 := (hf4.cell (p := ⟨g, 2, none⟩) (World.block_lt_of_cell? _ _ (cell_al q2)) (fun e => e)).trans (cell_al q2); have z3 := (hf4.cell (p := ⟨g, 3, none⟩) (World.block_lt_of_cell? _ _ (cell_al q3)) (fun e => e)).trans (cell_al q3)))
        · go_wp2
          go_ret
          rw [HPt.out] at hown4
          have hfin := (((HF.out.trans hf1).alloc (.cells #[.int .u8 ((k : Int) % 256)] 5)).alloc (.cells #[.slice A1 (Lib.uvarint (zig (leastOf l))).length c1, .slice (some ⟨w2.heap.size, 0, none⟩) 1 1, .slice (some ⟨g + 1, 0, none⟩) N N] 26))
          refine ⟨v4, rfl, ?_, hfin.trans hf4⟩
          have := hown4.mono (B' := w.heap.size) hfin.size
          rwa [hg] at this ⊢
        · go_wp2
          go_ret
          rw [HPt.out] at hown4
          have hfin := ((((HF0.out.alloc (.cells #[.int .u8 ((k : Int) % 256)] 5)).drew).trans hfb).alloc (.cells #[.slice A1 (Lib.uvarint (zig (leastOf l))).length c1, .slice (some ⟨wr.heap.size, 0, none⟩) 1 1, .slice (some ⟨g + 1, 0, none⟩) N N] 26))
          refine ⟨v4, rfl, ?_, hfin.trans hf4⟩
          have := hown4.mono (B' := w.heap.size) hfin.size
          rwa [hg] at this ⊢
end Go.Proofs.YtheefloegbkflaaGreatDoor


namespace Go.Proofs.YtheefloegbkflaaGreatDoor
set_option linter.unusedVariables false
set_option linter.unusedSimpArgs false
set_option maxRecDepth 100000
open Go.RowKit

theorem cut_none : cutT [] 1 = [] ∧ cutR [] 1 = [] ∧ cutB [] true 1 = true ∧ cutB [] false 1 = true := by decide
theorem cut_one (c : UInt8) (r : List UInt8) : cutT (c :: r) 1 = [c] ∧ cutR (c :: r) 1 = r ∧ cutB (c :: r) false 1 = false := by
  unfold cutT cutR cutB cutOk
  rw [decide_eq_true (by simp; omega)]
  exact ⟨rfl, rfl, rfl⟩
theorem cut_all (r : List UInt8) : cutT r (r.length : Nat) = r ∧ cutR r (r.length : Nat) = [] ∧ cutB r false (r.length : Nat) = false := by
  unfold cutT cutR cutB cutOk
  rw [decide_eq_true (by simp)]
  simp

/-- a call's end where its first result lies in a cell: a struct in a block of its own -/
theorem ret_cell {fn : Func} {p u : Tmp} {ty : TypeId} (h : fn.results = #[.cell p ty, .tmp u]) (tmps : Array Value) (w : World) (g : Nat) (t : TypeId) (cs : Array Value)
    (hp : tmps.getD p undef = .pointer (some ⟨g, 0, none⟩)) (hg : Blk w g t cs)
    (hl : (loadVar ty ⟨g, 0, none⟩).run Tryz.prog w = .ok (.agg cs) w) :
    (results fn tmps).run Tryz.prog w = .ok (.tuple #[.agg cs, tmps.getD u undef]) w := by
  rw [results_cell_tmp h, hp]
  simp [asAddr, hl, Result.andThen]
theorem load_pack {w : World} {g : Nat} {cs : Array Value} (hg : Blk w g 172 cs) (h4 : cs.size = 4) : (loadVar 172 ⟨g, 0, none⟩).run Tryz.prog w = .ok (.agg cs) w :=
  run_loadVar_row w g 172 172 cs (0, 0) _ hg Tryz.underlying172 rfl (by rw [h4]; kernel_rfl)

/-- what open answers where it fails -/
def noPack : Value := .agg #[.slice none 0 0, .int .i64 0, .int .i64 0, .int .i64 0]

set_option maxHeartbeats 4000000 in
theorem topen_none (v : Value) (b : List UInt8) (n : Nat) (w : World) (hv : Bs w v b) (hn : n ≤ 4096) (hp : parse b = none) :
    Calls Tryz.prog 157 #[v, .int .i64 n] w fun e w' => e = .returned (.tuple #[noPack, .bool false]) ∧ Fr Non w w' := by
  have HV := Lib.hid hv
  obtain ⟨A, c, rfl, _⟩ := hv
  have hcase : Hid (rest b = [] ∧ cutB (rest b) (fell b) 1 = true) := Lib.hid (by
    unfold parse at hp
    cases hr : rd 0 0 b with
    | none => obtain ⟨h1, h2, _⟩ := rest_none hr; rw [h1, h2]; exact ⟨rfl, cut_none.2.2.1⟩
    | some y =>
      obtain ⟨z, r⟩ := y
      rw [hr] at hp
      cases r with
      | nil => obtain ⟨h1, h2, _⟩ := rest_some hr; rw [h1, h2]; exact ⟨rfl, cut_none.2.2.2⟩
      | cons c r => cases hp)
  clear hp
  go_enter Tryz.func157, Tryz.ntmps157
  go_wp2_with fail
  have hB0 : Blk (w.alloc (.cells #[.slice none 0 0, .int .i64 0, .int .i64 0, .int .i64 0] 172)) w.heap.size 172 #[.slice none 0 0, .int .i64 0, .int .i64 0, .int .i64 0] := Blk.new _ _ _
  have f0 : Fr Non w (w.alloc (.cells #[.slice none 0 0, .int .i64 0, .int .i64 0, .int .i64 0] 172)) := (Fr.refl _ _).alloc _
  have hz : (w.alloc (.cells #[.slice none 0 0, .int .i64 0, .int .i64 0, .int .i64 0] 172)).heap.size = w.heap.size + 1 := by simp
  generalize w.alloc (.cells #[.slice none 0 0, .int .i64 0, .int .i64 0, .int .i64 0] 172) = W0 at *
  have h1 := from_any _ b W0 (HV.out.non f0)
  rw [hz] at h1
  generalize hR : w.heap.size = R at *
  refine h1.mono ?_
  rintro e w1 ⟨rfl, s1, f1⟩
  have hB1 := hB0.fr f1 (fun e => e)
  have f01 := f0.trans f1
  clear h1 hB0 f0 f1
  go_wp2_with fail
  refine (sint_any (R + 1) b false w1 s1).mono ?_
  rintro e w2 ⟨rfl, s2, f2⟩
  have hB2 := hB1.fr f2 (fun e => by have : R = R + 1 := e; omega)
  have f02 := f01.fresh f2 (fun q hq => by have : q = R + 1 := hq; omega)
  have hz2 := s2.1.lt
  have hF2 := (Fr.refl Non w2).alloc (.cells #[.slice none 0 0, .int .i64 0, .int .i64 (unzig (fstN b)), .int .i64 0] 172)
  have f03 := f02.trans hF2
  have s3 := s2.fr hF2 (fun e => e)
  have hB3 := hB2.fr hF2 (fun e => e)
  clear hB1 f01 f2 hB2 f02 hF2 s2 s1
  go_wp2_with fail
  refine (take_any (R + 1) (rest b) (fell b) 1 _ s3).mono ?_
  rintro e w4 ⟨v4, rfl, hb4, hn4, s4, f4⟩
  rw [hcase.out.2] at s4
  have hB4 := hB3.fr f4 (fun e => by have : R = R + 1 := e; omega)
  have f04 := f03.fresh f4 (fun q hq => by have : q = R + 1 := hq; omega)
  clear hB3 s3 f4 f03
  go_wp2_with fail
  refine (ok_any (R + 1) _ _ w4 s4).mono ?_
  rintro e w5 ⟨rfl, rfl⟩
  have HB4 := Lib.hid hB4
  have HF4 := Lib.hid f04
  have hfz := hB4.frozen
  have hc0 : w4.cell? ⟨R, 0, none⟩ = some (.slice none 0 0) := hB4.cell 0
  have hc1 : w4.cell? ⟨R, 1, none⟩ = some (.int .i64 0) := hB4.cell 1
  have hc2 : w4.cell? ⟨R, 2, none⟩ = some (.int .i64 0) := hB4.cell 2
  have hc3 : w4.cell? ⟨R, 3, none⟩ = some (.int .i64 0) := hB4.cell 3
  have fz0 := hfz 0
  have fz1 := hfz 1
  have fz2 := hfz 2
  have fz3 := hfz 3
  clear hfz hB4 f04 hn4 hb4
  go_wp2
  (try simp only [Exit.inBlock, Exit.then])
  have hBe : Blk ((((w4.setCell ⟨R, 0, none⟩ (.slice none 0 0)).setCell ⟨R, 1, none⟩ (.int .i64 0)).setCell ⟨R, 2, none⟩ (.int .i64 0)).setCell ⟨R, 3, none⟩ (.int .i64 0)) R 172 #[.slice none 0 0, .int .i64 0, .int .i64 0, .int .i64 0] :=
    (((HB4.out.set 0 _).set 1 _).set 2 _).set 3 _
  have hn : ∀ i : Nat, ¬ (⟨R, i, none⟩ : Addr).block < w.heap.size := fun i h => by have h : R < w.heap.size := h; omega
  refine bodyPost_ret (v := .tuple #[noPack, .bool false]) (ret_cell (p := 4) (u := 5) (ty := 172) rfl _ _ R _ _ rfl hBe (load_pack hBe rfl)) rfl ⟨rfl, ?_⟩
  exact (((HF4.out.setCell (fun h => absurd h (hn 0)) _).setCell (fun h => absurd h (hn 1)) _).setCell (fun h => absurd h (hn 2)) _).setCell (fun h => absurd h (hn 3)) _

set_option maxHeartbeats 4000000 in
theorem topen_some (v : Value) (b : List UInt8) (n : Nat) (lo : Int) (k : Nat) (r : List UInt8) (w : World) (hv : Bs w v b) (hn : n ≤ 4096) (hbl : b.length ≤ 100000000) (hp : parse b = some (lo, k, r)) :
    Calls Tryz.prog 157 #[v, .int .i64 n] w fun e w' => ∃ u, e = .returned (.tuple #[.agg #[u, .int .i64 0, .int .i64 lo, .int .i64 k], .bool (decide (r.length = need (n * k)))]) ∧ Bs w' u r ∧ (∀ q, u.ownBlock = some q → w.heap.size ≤ q) ∧ k ≤ 255 ∧ r.length ≤ b.length ∧ Fr Non w w' := by
  have HV := Lib.hid hv
  obtain ⟨A, c, rfl, _⟩ := hv
  obtain ⟨ch, hch⟩ : ∃ ch : UInt8, rest b = ch :: r ∧ fell b = false ∧ unzig (fstN b) = lo ∧ ch.toNat = k ∧ r.length ≤ b.length := by
    unfold parse at hp
    cases hr : rd 0 0 b with
    | none => rw [hr] at hp; cases hp
    | some y =>
      obtain ⟨z, q⟩ := y
      obtain ⟨h1, h2, h3, _⟩ := rest_some hr
      have h4 := rd_len (by omega) hr
      rw [hr] at hp
      cases q with
      | nil => cases hp
      | cons ch q =>
        simp only [Option.some.injEq, Prod.mk.injEq] at hp
        obtain ⟨e1, e2, e3⟩ := hp
        subst e1 e2 e3
        exact ⟨ch, h1, h2, by rw [h3], rfl, by simp at h4; omega⟩
  obtain ⟨hr1, hr2, hr3, hr4, hr5⟩ := hch
  have hk8 : k ≤ 255 := by rw [← hr4]; have := ch.toNat_lt; omega
  have HR := Lib.hid hr1
  have HL := Lib.hid hr3
  have HK := Lib.hid hr4
  clear hp hr1 hr3 hr4
  go_enter Tryz.func157, Tryz.ntmps157
  go_wp2_with fail
  have hB0 : Blk (w.alloc (.cells #[.slice none 0 0, .int .i64 0, .int .i64 0, .int .i64 0] 172)) w.heap.size 172 #[.slice none 0 0, .int .i64 0, .int .i64 0, .int .i64 0] := Blk.new _ _ _
  have f0 : Fr Non w (w.alloc (.cells #[.slice none 0 0, .int .i64 0, .int .i64 0, .int .i64 0] 172)) := (Fr.refl _ _).alloc _
  have hz : (w.alloc (.cells #[.slice none 0 0, .int .i64 0, .int .i64 0, .int .i64 0] 172)).heap.size = w.heap.size + 1 := by simp
  generalize w.alloc (.cells #[.slice none 0 0, .int .i64 0, .int .i64 0, .int .i64 0] 172) = W0 at *
  have h1 := from_any _ b W0 (HV.out.non f0)
  rw [hz] at h1
  generalize hR : w.heap.size = R at *
  refine h1.mono ?_
  rintro e w1 ⟨rfl, s1, f1⟩
  have hB1 := hB0.fr f1 (fun e => e)
  have f01 := f0.trans f1
  clear h1 hB0 f0 f1
  go_wp2_with fail
  have h2 := sint_any (R + 1) b false w1 s1
  rw [HL.out, HR.out, hr2] at h2
  refine h2.mono ?_
  rintro e w2 ⟨rfl, s2, f2⟩
  clear h2
  have hB2 := hB1.fr f2 (fun e => by have : R = R + 1 := e; omega)
  have f02 := f01.fresh f2 (fun q hq => by have : q = R + 1 := hq; omega)
  have hz2 := s2.1.lt
  have hF2 := (Fr.refl Non w2).alloc (.cells #[.slice none 0 0, .int .i64 0, .int .i64 (lo), .int .i64 0] 172)
  have f03 := f02.trans hF2
  have s3 := s2.fr hF2 (fun e => e)
  have hB3 := hB2.fr hF2 (fun e => e)
  clear hB1 f01 f2 hB2 f02 hF2 s2 s1
  have hP2 : Blk (w2.alloc (.cells #[.slice none 0 0, .int .i64 0, .int .i64 lo, .int .i64 0] 172)) w2.heap.size 172 #[.slice none 0 0, .int .i64 0, .int .i64 lo, .int .i64 0] := Blk.new _ _ _
  go_wp2_with fail
  have h3 := take_any (R + 1) (ch :: r) false 1 _ s3
  rw [(cut_one ch r).1, (cut_one ch r).2.1, (cut_one ch r).2.2] at h3
  refine h3.mono ?_
  rintro e w4 ⟨v4, rfl, hb4, hn4, s4, f4⟩
  clear h3
  have hB4 := hB3.fr f4 (fun e => by have : R = R + 1 := e; omega)
  have hP4 := hP2.fr f4 (fun e => by have : w2.heap.size = R + 1 := e; omega)
  have f04 := f03.fresh f4 (fun q hq => by have : q = R + 1 := hq; omega)
  clear hB3 s3 f4 f03 hP2
  generalize hG : w2.heap.size = G at *
  go_wp2_with fail
  refine (ok_any (R + 1) _ _ w4 s4).mono ?_
  rintro e w5 ⟨rfl, rfl⟩
  have hcw : ∃ a c4, v4 = .slice (some a) 1 c4 ∧ w4.cell? a = some (.int .u8 (k : Nat)) := by
    obtain ⟨A4, c4, rfl, _⟩ := hb4.shape
    obtain ⟨a, rfl, _, _, h⟩ := hb4.vs.addr (by simp)
    refine ⟨a, c4, rfl, ?_⟩
    have := h 0 (by simp)
    simpa [bv, HK.out, Addr.add] using this
  obtain ⟨a, c4, rfl, hca⟩ := hcw
  have p3 : w4.cell? ⟨G, 3, none⟩ = some (.int .i64 0) := hP4.cell 3
  have fp3 := hP4.frozen 3
  have hGw : ¬ G < w.heap.size := by omega
  have hRw : ¬ R < w.heap.size := by omega
  have hP5 := hP4.set 3 (.int .i64 (k : Nat))
  have s5 := s4.fr ((Fr.refl (One G) w4).set1 3 (.int .i64 (k : Nat))) (fun e => by have : R + 1 = G := e; omega)
  have hB5 := hB4.fr ((Fr.refl (One G) w4).set1 3 (.int .i64 (k : Nat))) (fun e => by have : R = G := e; omega)
  have f05 : Fr Non w (w4.setCell ⟨G, 3, none⟩ (.int .i64 (k : Nat))) := f04.setCell (p := ⟨G, 3, none⟩) (fun h => hGw h) _
  clear hb4 hn4 hP4 s4 hB4 f04
  go_wp2_with fail
  clear p3 fp3 hca
  generalize w4.setCell ⟨G, 3, none⟩ (.int .i64 (k : Nat)) = w5 at *
  refine (left_any (R + 1) _ _ w5 s5).mono ?_
  rintro e w6 ⟨rfl, rfl⟩
  go_wp2_with fail
  have h6 := take_any (R + 1) r false (r.length : Nat) w5 s5
  rw [(cut_all r).1, (cut_all r).2.1, (cut_all r).2.2] at h6
  refine h6.mono ?_
  rintro e w6 ⟨v6, rfl, hb6, hn6, s6, f6⟩
  obtain ⟨A6, c6, rfl⟩ := hb6.shape
  have hB6 := hB5.fr f6 (fun e => by have : R = R + 1 := e; omega)
  have hP6 := hP5.fr f6 (fun e => by have : G = R + 1 := e; omega)
  have f06 := f05.fresh f6 (fun q hq => by have : q = R + 1 := hq; omega)
  have hn7 : ∀ q, (Value.slice A6 r.length c6).ownBlock = some q → q ≠ G ∧ q ≠ R ∧ w.heap.size ≤ q := fun q hq => by
    have h1 := hn6 q hq
    have h2 := hP5.lt
    have h3 := hB5.lt
    exact ⟨by omega, by omega, by omega⟩
  have p0 : w6.cell? ⟨G, 0, none⟩ = some (.slice none 0 0) := hP6.cell 0
  have fp0 := hP6.frozen 0
  have hP7 := hP6.set 0 (.slice A6 r.length c6)
  have hF7 := (Fr.refl (One G) w6).set1 0 (.slice A6 r.length c6)
  have hB7 := hB6.fr hF7 (fun e => by have : R = G := e; omega)
  have hb7 := hb6.fr hF7 (fun q hq e => (hn7 q hq).1 e)
  have f07 : Fr Non w (w6.setCell ⟨G, 0, none⟩ (.slice A6 r.length c6)) := f06.setCell (p := ⟨G, 0, none⟩) (fun h => hGw h) _
  have HN7 := Lib.hid hn7
  clear h6 hb6 hn6 s6 f6 hB6 hP6 f06 hn7 hF7 hP5 hB5 f05 s5
  go_wp2_with fail
  clear p0 fp0
  generalize w6.setCell ⟨G, 0, none⟩ (.slice A6 r.length c6) = w7 at *
  have hP8 : Blk w7 G 172 #[.slice A6 r.length c6, .int .i64 0, .int .i64 lo, .int .i64 (k : Nat)] := hP7
  have c0 : w7.drew.cell? ⟨G, 0, none⟩ = some (.slice A6 r.length c6) := hP8.cell 0
  have c1 : w7.drew.cell? ⟨G, 1, none⟩ = some (.int .i64 0) := hP8.cell 1
  have c2 : w7.drew.cell? ⟨G, 2, none⟩ = some (.int .i64 lo) := hP8.cell 2
  have c3 : w7.drew.cell? ⟨G, 3, none⟩ = some (.int .i64 (k : Nat)) := hP8.cell 3
  have s0 : w7.cell? ⟨R, 0, none⟩ = some (.slice none 0 0) := hB7.cell 0
  have fs0 : w7.frozen? ⟨R, 0, none⟩ = false := hB7.frozen 0
  have s1 : w7.cell? ⟨R, 1, none⟩ = some (.int .i64 0) := hB7.cell 1
  have fs1 : w7.frozen? ⟨R, 1, none⟩ = false := hB7.frozen 1
  have s2 : w7.cell? ⟨R, 2, none⟩ = some (.int .i64 0) := hB7.cell 2
  have fs2 : w7.frozen? ⟨R, 2, none⟩ = false := hB7.frozen 2
  have s3 : w7.cell? ⟨R, 3, none⟩ = some (.int .i64 0) := hB7.cell 3
  have fs3 : w7.frozen? ⟨R, 3, none⟩ = false := hB7.frozen 3
  have hB9 : Blk ((((w7.setCell ⟨R, 0, none⟩ (.slice A6 r.length c6)).setCell ⟨R, 1, none⟩ (.int .i64 0)).setCell ⟨R, 2, none⟩ (.int .i64 lo)).setCell ⟨R, 3, none⟩ (.int .i64 (k : Nat))).drew R 172 #[.slice A6 r.length c6, .int .i64 0, .int .i64 lo, .int .i64 (k : Nat)] :=
    ((((hB7.set 0 _).set 1 _).set 2 _).set 3 _).drew
  have hF9 : Fr (One R) w7 ((((w7.setCell ⟨R, 0, none⟩ (.slice A6 r.length c6)).setCell ⟨R, 1, none⟩ (.int .i64 0)).setCell ⟨R, 2, none⟩ (.int .i64 lo)).setCell ⟨R, 3, none⟩ (.int .i64 (k : Nat))).drew := (((((Fr.refl (One R) w7).set1 0 _).set1 1 _).set1 2 _).set1 3 _).drew
  have hP9 := hP8.fr hF9 (fun e => by have : G = R := e; omega)
  have k0 : (((((w7.setCell ⟨R, 0, none⟩ (.slice A6 r.length c6)).setCell ⟨R, 1, none⟩ (.int .i64 0)).setCell ⟨R, 2, none⟩ (.int .i64 lo)).setCell ⟨R, 3, none⟩ (.int .i64 (k : Nat))).drew).cell? ⟨G, 0, none⟩ = some (.slice A6 r.length c6) := hP9.cell 0
  have k1 : (((((w7.setCell ⟨R, 0, none⟩ (.slice A6 r.length c6)).setCell ⟨R, 1, none⟩ (.int .i64 0)).setCell ⟨R, 2, none⟩ (.int .i64 lo)).setCell ⟨R, 3, none⟩ (.int .i64 (k : Nat))).drew).cell? ⟨G, 1, none⟩ = some (.int .i64 0) := hP9.cell 1
  have k2 : (((((w7.setCell ⟨R, 0, none⟩ (.slice A6 r.length c6)).setCell ⟨R, 1, none⟩ (.int .i64 0)).setCell ⟨R, 2, none⟩ (.int .i64 lo)).setCell ⟨R, 3, none⟩ (.int .i64 (k : Nat))).drew).cell? ⟨G, 2, none⟩ = some (.int .i64 lo) := hP9.cell 2
  have k3 : (((((w7.setCell ⟨R, 0, none⟩ (.slice A6 r.length c6)).setCell ⟨R, 1, none⟩ (.int .i64 0)).setCell ⟨R, 2, none⟩ (.int .i64 lo)).setCell ⟨R, 3, none⟩ (.int .i64 (k : Nat))).drew).cell? ⟨G, 3, none⟩ = some (.int .i64 (k : Nat)) := hP9.cell 3
  have HB9 := Lib.hid hB9
  have HF9 := Lib.hid (f07.fresh hF9 (fun q hq => by have : q = R := hq; omega))
  have Hb9 := Lib.hid (hb7.fr hF9 (fun q hq e => (HN7.out q hq).2.1 e))
  clear hB9 hF9 hP9
  have HSz := Lib.hid (fun W => tsize_any n k W (by omega) (by omega))
  clear hP7 hP8 hB7 hb7 f07
  go_region_held3 (fun W => W.cell? ⟨G, 0, none⟩ = some (.slice A6 r.length c6) ∧ W.cell? ⟨G, 1, none⟩ = some (.int .i64 0) ∧ W.cell? ⟨G, 2, none⟩ = some (.int .i64 lo) ∧ W.cell? ⟨G, 3, none⟩ = some (.int .i64 (k : Nat))) (first | exact ⟨c0, c1, c2, c3⟩ | exact ⟨k0, k1, k2, k3⟩) (first | (go_at_call 155; refine (HSz.out _).mono ?_; rintro e w8 ⟨rfl, rfl⟩))
  go_wp2
  (try simp only [Exit.inBlock, Exit.then])
  have hbe : ((r.length : Int) == (need (n * k) : Nat)) = decide (r.length = need (n * k)) := by
    rw [Bool.eq_iff_iff, beq_iff_eq, decide_eq_true_iff]; omega
  rw [hbe]
  refine bodyPost_ret (v := .tuple #[.agg #[.slice A6 r.length c6, .int .i64 0, .int .i64 lo, .int .i64 (k : Nat)], .bool (decide (r.length = need (n * k)))]) (ret_cell (p := 4) (u := 5) (ty := 172) rfl _ _ R _ _ rfl HB9.out (load_pack HB9.out rfl)) rfl ?_
  exact ⟨_, rfl, Hb9.out, fun q hq => (HN7.out q hq).2.2, hk8, hr5, HF9.out⟩
end Go.Proofs.YtheefloegbkflaaGreatDoor


namespace Go.Proofs.YtheefloegbkflaaGreatDoor
set_option linter.unusedVariables false
set_option linter.unusedSimpArgs false
set_option maxRecDepth 100000
open Go.RowKit

theorem getM_low {b : List UInt8} {n : Int} (h : n < 0) : getM b n = none := by unfold getM; rw [if_pos (by omega), getZ_neg h]
theorem getM_big {b : List UInt8} {n : Int} (h : 4096 < n) : getM b n = none := by unfold getM; rw [if_neg (by omega)]
theorem getM_pos {b : List UInt8} {n : Nat} (h : 0 < n) (h2 : n ≤ 4096) : getM b n = getT b n := by unfold getM; rw [if_pos (by omega), getZ_pos h]

/-- a slice that has an element lies in a block that is there -/
theorem vs_lt {α : Type} {f : α → Value} {w : World} {v : Value} {l : List α} (h : Vs f w v l) (h0 : 0 < l.length) : ∀ q, v.ownBlock = some q → q < w.heap.size := by
  obtain ⟨A, c, rfl⟩ := h.shape
  obtain ⟨a, rfl, _, _, hc⟩ := h.addr h0
  intro q hq
  have := World.block_lt_of_cell? w _ (hc 0 h0)
  rw [add_block] at this
  simp [Value.ownBlock] at hq
  omega
/-- one that has none reads the same in every world -/
theorem vs_keep0 {α : Type} {f : α → Value} {w w' : World} {v : Value} {l : List α} (h : Vs f w v l) (hk : 0 < l.length → ∀ k, v.ownBlock = some k → k < w.heap.size → w'.heap[k]? = w.heap[k]?) : Vs f w' v l := by
  by_cases h0 : 0 < l.length
  · exact h.keep (hk h0)
  · obtain ⟨A, c, rfl, h1, h2, h3⟩ := h
    exact ⟨A, c, rfl, h1, h2, fun a ha j hj => absurd hj (by omega)⟩

set_option maxHeartbeats 4000000 in
theorem tget_any (v : Value) (b : List UInt8) (n : Int) (w : World) (hv : Bs w v b) (hl : b.length ≤ 100000000) (h1 : -9223372036854775808 ≤ n) (h2 : n ≤ 9223372036854775807) :
    Calls Tryz.prog 104 #[v, .int .i64 n] w fun e w' => Gtn w' w.heap.size (getM b n) e ∧ Fr Non w w' := by
  have HV := Lib.hid hv
  obtain ⟨A, c, rfl, _⟩ := hv
  by_cases hn0 : n < 0
  · have hd : decide (n ≤ 0) = true := by simp; omega
    have hz : (n == 0) = false := by rw [beq_eq_false_iff_ne]; omega
    have HG := Lib.hid (getM_low (b := b) hn0)
    clear hn0
    go_enter Tryz.func104, Tryz.ntmps104
    go_wp2
    go_ret2
    exact ⟨gtn_no HG.out, Fr.refl _ _⟩
  · by_cases hn4 : 4096 < n
    · have hd : decide (n ≤ 0) = false := by simp; omega
      have hd4 : decide (4096 < n) = true := by simpa using hn4
      have hz : (n == 0) = false := by rw [beq_eq_false_iff_ne]; omega
      have HG := Lib.hid (getM_big (b := b) hn4)
      clear hn0 hn4
      go_enter Tryz.func104, Tryz.ntmps104
      go_wp2
      go_ret2
      exact ⟨gtn_no HG.out, Fr.refl _ _⟩
    · obtain ⟨m, rfl⟩ := Int.eq_ofNat_of_zero_le (show 0 ≤ n by omega)
      have hm4 : m ≤ 4096 := by omega
      clear h1 h2 hn0 hn4
      by_cases hm0 : m = 0
      · subst hm0
        cases b with
        | nil =>
          have HG : Hid (getM [] ((0 : Nat) : Int) = some []) := Lib.hid rfl
          go_enter Tryz.func104, Tryz.ntmps104
          go_wp2
          go_ret2
          exact ⟨gtn_yes HG.out (ow_nil _ _), Fr.refl _ _⟩
        | cons b0 b1 =>
          have HG : Hid (getM (b0 :: b1) ((0 : Nat) : Int) = none) := Lib.hid rfl
          have hb : ((((b0 :: b1).length : Nat) : Int) == 0) = false := by rw [beq_eq_false_iff_ne]; simp; omega
          generalize b0 :: b1 = b at *
          go_enter Tryz.func104, Tryz.ntmps104
          go_wp2
          go_ret2
          exact ⟨gtn_no HG.out, Fr.refl _ _⟩
      · have hpos : 0 < m := by omega
        have hd : decide ((m : Int) ≤ 0) = false := by simp; omega
        have hd4 : decide (4096 < (m : Int)) = false := by simp; omega
        have HG := Lib.hid (getM_pos (b := b) hpos hm4)
        clear hm0
        cases hp : parse b with
        | none =>
          have HR := Lib.hid (HG.out.trans (getT_none hp))
          have ho := topen_none _ b m w HV.out hm4 hp
          clear hp
          go_enter Tryz.func104, Tryz.ntmps104
          go_wp2_with fail
          refine ho.mono ?_
          rintro e w1 ⟨rfl, f1⟩
          unfold noPack
          go_wp2
          go_ret2
          exact ⟨gtn_no HR.out, f1.alloc _⟩
        | some y =>
          obtain ⟨lo, k, r⟩ := y
          have ho := topen_some _ b m lo k r w HV.out hm4 hl hp
          by_cases hlen : r.length = need (m * k)
          · rw [decide_eq_true hlen] at ho
            have HP := Lib.hid hp
            have HL := Lib.hid hlen
            clear hp hlen
            go_enter Tryz.func104, Tryz.ntmps104
            go_wp2_with fail
            refine ho.mono ?_
            rintro e w1 ⟨u, rfl, hb1, hn1, hk8, hrb, f1⟩
            obtain ⟨A1, c1, rfl⟩ := hb1.shape
            have hP2 : Blk (w1.alloc (.cells #[.slice A1 r.length c1, .int .i64 0, .int .i64 lo, .int .i64 (k : Nat)] 172)) w1.heap.size 172 #[.slice A1 r.length c1, .int .i64 0, .int .i64 lo, .int .i64 (k : Nat)] := Blk.new _ _ _
            have f2 : Fr Non w (w1.alloc (.cells #[.slice A1 r.length c1, .int .i64 0, .int .i64 lo, .int .i64 (k : Nat)] 172)) := f1.alloc _
            have hb2 := hb1.non ((Fr.refl Non w1).alloc (.cells #[.slice A1 r.length c1, .int .i64 0, .int .i64 lo, .int .i64 (k : Nat)] 172))
            have hz2 : (w1.alloc (.cells #[.slice A1 r.length c1, .int .i64 0, .int .i64 lo, .int .i64 (k : Nat)] 172)).heap.size = w1.heap.size + 1 := by simp
            have hu1 : 0 < r.length → ∀ q, (Value.slice A1 r.length c1).ownBlock = some q → q < w1.heap.size := fun hr0 => vs_lt hb1.vs hr0
            have hw1 := f1.size
            clear hb1 f1
            go_wp2_with (at_make; refine wpList_mkfullG el_i64 (f := iv) (0 : Int) rfl rfl _ _ rfl _ _ _ _ m rfl rfl rfl rfl (by omega) ?_; intro w3 hown3 hf3; rw [hz2] at hown3 ⊢)
            have hP3 := hP2.fr hf3 (fun e => e)
            have hb3 := hb2.vs.non hf3
            have f3 := f2.trans hf3
            have hs3 := hf3.size
            have hN9 : r.length ≤ 100000000 := by omega
            have hN8 : m * k ≤ 8 * r.length := by rw [HL.out]; unfold need; omega
            generalize hPP : w1.heap.size = P at *
            rw [← partT_zero r lo k m] at hown3
            rw [hz2] at hs3
            have hPw : w.heap.size ≤ P := hw1
            clear hP2 hb2 f2 hz2 hf3
            go_loopw [35] (fun i wr => ∃ j : Nat, j ≤ m ∧ i = .int .i64 j ∧ Blk wr P 172 #[.slice A1 r.length c1, .int .i64 (j * k : Nat), .int .i64 lo, .int .i64 (k : Nat)] ∧ Ow iv 2 wr (P + 1) (.slice (some ⟨P + 1, 0, none⟩) m m) (partT r lo k m j) ∧ Vs bv wr (.slice A1 r.length c1) r ∧ Fr Non w wr) (fun i _ => m - (intOf i).toNat)
            case atStart => exact ⟨0, Nat.zero_le _, rfl, by rw [Nat.zero_mul]; exact hP3, hown3, hb3, f3⟩
            case round =>
              clear hP3 hown3 hb3 f3
              obtain ⟨j, hj, rfl, hP, hown, hb, hfr⟩ := hrel
              by_cases hlt : j < m
              · have hpl : j * k + k ≤ 8 * r.length := by
                  have h1 := Nat.mul_le_mul_right k (show j + 1 ≤ m by omega)
                  rw [Nat.add_mul, Nat.one_mul] at h1
                  omega
                have hT := stell_any P (j * k) k _ r lo wr hP hb (fun h0 q hq e => by have := hu1 h0 q hq; omega) hpl hN9 hk8
                have HST := Lib.hid (partT_step r lo k m j hlt)
                have hx0 := hown.cell (partT_length _ _ _ _ _).symm j ((partT r lo k m j)[j]'(by rw [partT_length]; exact hlt)) (by simp [partT_length, hlt])
                have hz0 := hown.frozen (partT_length _ _ _ _ _).symm j
                have hgr := hP.lt
                have hql := (hown.lt (P + 1) rfl).2
                have HO := Lib.hid hown
                have HB := Lib.hid hb
                have HF := Lib.hid hfr
                unfold iv at hx0
                generalize (partT r lo k m j)[j]'(by rw [partT_length]; exact hlt) = x0 at *
                generalize w6 (lo + (numT r (j * k) k : Nat)) = x at *
                clear hP hown hb hfr
                go_wp2_with fail
                refine hT.mono ?_
                rintro e w5 ⟨rfl, hP5, hf5⟩
                have hx5 := (hf5.cell (p := ⟨P + 1, j, none⟩) hql (fun e => by have : P + 1 = P := e; omega)).trans hx0
                have hown5 := HO.out.fr hf5 (fun q hq e => by simp [Value.ownBlock] at hq; have : q = P := e; omega)
                have hz5 := hown5.frozen (partT_length _ _ _ _ _).symm j
                have hs5 := hf5.size
                have hb5 := vs_keep0 HB.out (w' := w5) (fun h0 q hq hqs => hf5.block q hqs (fun e => by have := hu1 h0 q hq; have : q = P := e; omega))
                have hf5n := HF.out.fresh hf5 (fun q hq => by have : q = P := hq; omega)
                have HP5 := Lib.hid hP5
                have HO5 := Lib.hid hown5
                have HB5 := Lib.hid hb5
                have HF5 := Lib.hid hf5n
                clear hT hP5 hown5 hb5 hf5n hf5 hx0 hz0
                go_wp2
                go_roundw
                case rel =>
                  have hFs := (Fr.refl (One (P + 1)) w5).set1 j (.int .i64 x)
                  refine ⟨j + 1, by omega, by go_num, ?_, ?_, ?_, ?_⟩
                  · have := HP5.out.fr hFs (fun e => by have : P = P + 1 := e; omega)
                    rwa [show j * k + k = (j + 1) * k by rw [Nat.add_mul, Nat.one_mul]] at this
                  · rw [HST.out]
                    exact HO5.out.store (partT_length _ _ _ _ _).symm j x
                  · exact vs_keep0 HB5.out (fun h0 q hq hqs => hFs.block q hqs (fun e => by have := hu1 h0 q hq; have : q = P + 1 := e; omega))
                  · exact HF5.out.fresh hFs (fun q hq => by have : q = P + 1 := hq; omega)
                case measure => simp [intOf]; omega
              · obtain rfl : j = m := by omega
                rw [partT_all] at hown
                have HRl := Lib.hid (readT_length r lo k j)
                have HP0 := Lib.hid (tput_any _ (readT r lo k j) wr hown.vs (readT_i64 _ _ _ _) (by rw [HRl.out]; omega))
                have HO := Lib.hid (hown.mono (B' := w.heap.size) (by omega))
                have HF := Lib.hid hfr
                clear hP hown hb hfr
                by_cases he : putT (readT r lo k j) = b
                · have HR := Lib.hid (HG.out.trans (getT_yes HP.out HL.out he))
                  have hbb : (putT (readT r lo k j) == b) = true := by simp [he]
                  clear he
                  go_wp2_with fail
                  refine HP0.out.mono ?_
                  rintro e w6 ⟨u6, rfl, hown6, hf6⟩
                  go_wp2_with fail
                  refine (equal_any _ _ _ b w6 hown6.bs (HV.out.non (HF.out.trans hf6))).mono ?_
                  rintro e w7 ⟨rfl, rfl⟩
                  go_wp2
                  go_ret2
                  exact ⟨gtn_yes HR.out (HO.out.non hf6), HF.out.trans hf6⟩
                · have HR := Lib.hid (HG.out.trans (getT_ne HP.out he))
                  have hbb : (putT (readT r lo k j) == b) = false := by simp [he]
                  clear he
                  go_wp2_with fail
                  refine HP0.out.mono ?_
                  rintro e w6 ⟨u6, rfl, hown6, hf6⟩
                  go_wp2_with fail
                  refine (equal_any _ _ _ b w6 hown6.bs (HV.out.non (HF.out.trans hf6))).mono ?_
                  rintro e w7 ⟨rfl, rfl⟩
                  go_wp2
                  go_ret2
                  exact ⟨gtn_no HR.out, HF.out.trans hf6⟩
          · rw [decide_eq_false hlen] at ho
            have HR := Lib.hid (HG.out.trans (getT_len hp hlen))
            clear hp hlen
            go_enter Tryz.func104, Tryz.ntmps104
            go_wp2_with fail
            refine ho.mono ?_
            rintro e w1 ⟨u, rfl, hb1, hn1, hk8, hrb, f1⟩
            obtain ⟨A1, c1, rfl⟩ := hb1.shape
            clear hb1 hn1
            go_wp2
            go_ret2
            exact ⟨gtn_no HR.out, f1.alloc _⟩
end Go.Proofs.YtheefloegbkflaaGreatDoor


namespace Go.Proofs.YtheefloegbkflaaGreatDoor
set_option linter.unusedVariables false
set_option linter.unusedSimpArgs false
set_option maxRecDepth 100000
open Go.RowKit

theorem set_app {α : Type} (H Z : List α) (i : Nat) (x : α) : (H ++ Z).set (H.length + i) x = H ++ Z.set i x := by
  rw [List.set_append_right _ _ (by omega), Nat.add_sub_cancel_left]
theorem add_bit (q y t : Nat) (ht : t < 8) (hq : q < 2 ^ t) : ((q : Int) + (y : Int) % 2 * 2 ^ t) % 256 = ((q + y % 2 * 2 ^ t : Nat) : Int) := by
  have h2 : (y : Int) % 2 = ((y % 2 : Nat) : Int) := by push_cast; rfl
  have h3 : y % 2 < 2 := Nat.mod_lt _ (by decide)
  rw [h2]
  generalize y % 2 = b at *
  have all : ∀ b : Fin 2, ∀ t : Fin 8, ∀ q : Fin 128, q.1 < 2 ^ t.1 → ((q.1 : Int) + (b.1 : Int) * 2 ^ t.1) % 256 = ((q.1 + b.1 * 2 ^ t.1 : Nat) : Int) := by decide +kernel
  have := pow8 ht
  exact all ⟨b, h3⟩ ⟨t, ht⟩ ⟨q, by omega⟩ hq

set_option maxHeartbeats 4000000 in
theorem rtput_any (v : Value) (l : List Int) (w : World) (hv : Vs iv w v l) (hx : ∀ x ∈ l, I64 x) (hl : l.length ≤ 1000000) :
    Calls Tryz.prog 123 #[v] w fun e w' => ∃ u, e = .returned u ∧ Own w' w.heap.size u (putT l) ∧ Fr Non w w' := by
  have HV := Lib.hid hv
  have HX := Lib.hid hx
  clear hx
  obtain ⟨A, c, rfl, hlc, hn, hcell⟩ := hv
  have HN := Lib.hid hn
  have HC := Lib.hid hcell
  clear hn hcell
  by_cases h0 : l.length = 0
  · have hl0 : l = [] := List.eq_nil_of_length_eq_zero h0
    subst hl0
    go_enter Tryz.func123, Tryz.ntmps123
    go_wp2
    go_ret
    exact ⟨_, rfl, own_nil _ _, Fr.refl _ _⟩
  · have hpos : 0 < l.length := by omega
    cases A with
    | none => have := HN.out rfl; omega
    | some a =>
      have g0 : w.cell? a = some (.int .i64 l[0]) := by
        have := HC.out a rfl 0 hpos
        simpa [Addr.add, iv] using this
      have HS1 := Lib.hid (loT_succ l)
      have HS2 := Lib.hid (hiT_succ l)
      have H01 : Hid (loT l 0 = l[0]) := Lib.hid (by
        rw [loT_zero]
        cases l with
        | nil => simp at hpos
        | cons x l => rfl)
      have H02 : Hid (hiT l 0 = l[0]) := Lib.hid (by
        rw [hiT_zero]
        cases l with
        | nil => simp at hpos
        | cons x l => rfl)
      go_enter Tryz.func123, Tryz.ntmps123
      go_wp2
      go_quiet (fail)
      go_wp2
      go_loopw [3, 4, 5] (fun x y i wr => ∃ j : Nat, j ≤ l.length ∧ i = .int .i64 j ∧ x = .int .i64 (loT l j) ∧ y = .int .i64 (hiT l j) ∧ ∃ n, wr = w.drewN n) (fun _ _ i _ => l.length - (intOf i).toNat)
      case atStart => exact ⟨0, Nat.zero_le _, rfl, by rw [H01.out], by rw [H02.out], _, rfl⟩
      case round =>
        obtain ⟨j, hj, rfl, rfl, rfl, n, rfl⟩ := hrel
        by_cases hlt : j < l.length
        · have g1 : w.cell? (a.add j) = some (iv l[j]) := HC.out a rfl j hlt
          have hs1 := Lib.hid (HS1.out j hlt)
          have hs2 := Lib.hid (HS2.out j hlt)
          unfold iv at g1
          clear g0
          generalize l[j] = x at *
          by_cases c1 : x < loT l j
          all_goals
            by_cases c2 : hiT l j < x
            all_goals
              go_wp2
              go_roundw
              case rel => exact ⟨j + 1, by omega, by go_num, by rw [hs1.out]; congr 1; omega, by rw [hs2.out]; congr 1; omega, _, rfl⟩
              case measure => simp [intOf]; omega
        · have hjl : j = l.length := by omega
          subst hjl
          have hHi : Hid (hiT l l.length = greatOf l) := Lib.hid rfl
          have hLo : Hid (loT l l.length = leastOf l) := Lib.hid rfl
          rw [hHi.out, hLo.out]
          have f1 : Fr Non w (w.drewN n) := (Fr.refl _ _).drewN n
          generalize w.drewN n = W1 at *
          have hle : leastOf l ≤ greatOf l := Int.le_trans (least_le l 0 hpos) (great_ge l 0 hpos)
          have hi64 := great_i64 HX.out
          have h64 := least_i64 HX.out
          have e1 := u64_diff hi64 h64 hle
          have hd := diff_lt HX.out
          have hk64 := width_le HX.out
          have HW := Lib.hid (show width l = Lib.bitLen (greatOf l - leastOf l).toNat from rfl)
          rw [HW.out] at hk64
          clear hle hi64 H01 H02 HS1 HS2 hHi hLo g0 hj hlt
          generalize (greatOf l - leastOf l).toNat = d at *
          go_wp2_with fail
          refine (tneed_any d W1 hd).mono ?_
          rintro e w2 ⟨rfl, rfl⟩
          generalize Lib.bitLen d = k at *
          clear hd e1
          go_wp2_with fail
          refine (rint_any (leastOf l) W1 h64.1 h64.2).mono ?_
          rintro e w2 ⟨v2, rfl, hown2, f2⟩
          obtain ⟨A2, c2, rfl⟩ := hown2.bs.shape
          have hul := Lib.uvarint_length64 (zig_lt h64.1 h64.2)
          have hB2 := Nat.le_trans f1.size f2.size
          have hown2 := hown2.mono (B' := w.heap.size) f1.size
          have f02 := f1.trans f2
          go_wp2_with (at_builtin; refine wpList_pushG el_u8 bv_oneC rfl (.tmp 54) (.tmp 57) rfl w.heap.size _ (Lib.uvarint (zig (leastOf l))) rfl hown2.ow _ k.toUInt8 (by unfold bv; rw [small64 hk64]) rfl (by omega) hB2 ?_; intro v3 w3 hown3 f3)
          have f03 := f02.fresh f3 (fun q hq => (hown2.lt q hq).1)
          have HPt : Hid (putT l = (Lib.uvarint (zig (leastOf l)) ++ [k.toUInt8]) ++ packB (allB k (leastOf l) l)) := Lib.hid (by
            rw [putT_some (by intro e; rw [e] at hpos; simp at hpos), HW.out]
            simp)
          have hHl : (Lib.uvarint (zig (leastOf l)) ++ [k.toUInt8]).length ≤ 11 := by rw [List.length_append, List.length_singleton]; omega
          have HLn := Lib.hid (allB_length k (leastOf l) l)
          have hLk : l.length * k ≤ 100000000 := by have := Nat.mul_le_mul hl hk64; omega
          have HLat : Hid (∀ (i t : Nat) (hi : i < l.length), t < k → (allB k (leastOf l) l)[i * k + t]? = some ((l[i] - leastOf l).toNat.testBit t)) := Lib.hid (fun i t hi ht => by
            have hp : i * k + t < (allB k (leastOf l) l).length := by rw [HLn.out]; exact place_lt ht hi
            rw [List.getElem?_eq_getElem hp, allB_at (leastOf l) l ht hi hp])
          have HLo := Lib.hid h64
          have HLe := Lib.hid (least_le l)
          have HWk : Hid (∀ i, i < l.length → i * k + k ≤ l.length * k) := Lib.hid (fun i hi => by
            have h1 := Nat.mul_le_mul_right k (show i + 1 ≤ l.length by omega)
            rwa [Nat.add_mul, Nat.one_mul] at h1)
          clear hown2 f2 f3 f02 f1 h64 hul hB2
          generalize Lib.uvarint (zig (leastOf l)) ++ [k.toUInt8] = H at *
          generalize allB k (leastOf l) l = L at *
          generalize leastOf l = lo at *
          go_loopw [7, 8, 9] (fun x y i wr => ∃ j : Nat, j ≤ l.length ∧ i = .int .i64 j ∧ y = .int .i64 (j * k : Nat) ∧ Ow bv 5 wr w.heap.size x (H ++ packB (L.take (j * k))) ∧ Fr Non w wr) (fun _ _ i _ => l.length - (intOf i).toNat)
          case atStart => exact ⟨0, Nat.zero_le _, rfl, by rw [Nat.zero_mul]; rfl, by rw [Nat.zero_mul, List.take_zero, show packB [] = [] from rfl, List.append_nil]; exact hown3, f03⟩
          case round =>
            clear hown3 f03
            obtain ⟨j, hj, rfl, rfl, hown, hfr⟩ := hrel
            by_cases hlt : j < l.length
            · have hc0 := HC.out a rfl j hlt
              have hc1 : wr.cell? (a.add j) = some (iv l[j]) := (hfr.cell (World.block_lt_of_cell? w _ hc0) (fun e => e)).trans hc0
              unfold iv at hc1
              have hxx := HX.out l[j] (by simp)
              have hle := HLe.out j hlt
              have hlo := HLo.out
              have e1 := u64_diff hxx hlo hle
              have HB := Lib.hid (fun t ht => HLat.out j t hlt ht)
              have hu64 : (l[j] - lo).toNat < 18446744073709551616 := by unfold I64 at hxx hlo; omega
              have hjk := HWk.out j hlt
              obtain ⟨A4, c4, rfl⟩ := hown.shape
              clear hxx hle hlo hc0
              generalize l[j] = x at *
              generalize (x - lo).toNat = u at *
              generalize hJ : j * k = J at *
              have HJ := Lib.hid hJ
              clear hJ
              go_wp2
              go_loopw [7, 8, 10, 11] (fun x y z i wr => ∃ t : Nat, t ≤ k ∧ i = .int .i64 t ∧ y = .int .i64 (J + t : Nat) ∧ z = .int .u64 (u / 2 ^ t : Nat) ∧ Ow bv 5 wr w.heap.size x (H ++ packB (L.take (J + t))) ∧ Fr Non w wr) (fun _ _ _ i _ => k - (intOf i).toNat)
              case atStart => exact ⟨0, Nat.zero_le _, rfl, rfl, by simp, hown, hfr⟩
              case round =>
                clear hown hfr
                obtain ⟨t, ht, rfl, rfl, rfl, hown, hfr⟩ := hrel
                by_cases htk : t < k
                · generalize hP : J + t = P at *
                  have hpl : P < L.length := by rw [HLn.out]; omega
                  have hbit : L[P] = u.testBit t := (by
                    have h1 := HB.out t htk
                    rw [hP, List.getElem?_eq_getElem hpl] at h1
                    simpa using h1)
                  have HP := Lib.hid hP
                  have HLl := Lib.hid hpl
                  have hm := Lib.hid (pk_more L hpl)
                  have hst := packB_step L hpl
                  rw [hbit] at hst
                  have HST := Lib.hid hst
                  have HSet := Lib.hid (fun x => set_app H (pk (L.take (P + 1)) P) (P / 8) x)
                  have hlen : Hid ((H ++ pk (L.take (P + 1)) P).length = H.length + P / 8 + 1) := Lib.hid (by rw [List.length_append, pk_length, take_len L hpl]; unfold need; omega)
                  have hat : Hid ((H ++ pk (L.take (P + 1)) P)[H.length + P / 8]? = some (pkn (L.take (P + 1)) P (P / 8)).toUInt8) := Lib.hid (by
                    rw [List.getElem?_append_right (by omega), Nat.add_sub_cancel_left]
                    exact pk_at _ (by rw [take_len L hpl]; omega))
                  have hql0 := Lib.hid (pkn_lt (L.take (P + 1)) (p := P) (by rw [take_len L hpl]; omega))
                  have hPb : P ≤ 100000000 := by rw [HLn.out] at hpl; omega
                  have hu2 : u / 2 ^ t < 18446744073709551616 := Nat.lt_of_le_of_lt (Nat.div_le_self _ _) hu64
                  have hbn : Hid ((u.testBit t).toNat = u / 2 ^ t % 2) := Lib.hid (Nat.toNat_testBit u t)
                  have hun : Hid (u / 2 ^ (t + 1) = u / 2 ^ t / 2) := Lib.hid (by rw [Nat.pow_succ, Nat.div_div_eq_div_mul])
                  generalize u / 2 ^ t = y at *
                  clear hP hst hbit hpl
                  by_cases h8 : P % 8 = 0
                  · have hb8 : ((P : Int) % 8 == 0) = true := by rw [beq_iff_eq]; omega
                    have hme := hm.out
                    rw [if_pos h8] at hme
                    have HME := Lib.hid hme
                    have hB := hfr.size
                    have hsm : (H ++ packB (L.take P)).length < 1099511627776 := by
                      have h1 := hlen.out
                      rw [HME.out] at h1
                      simp only [List.length_append, List.length_cons, List.length_nil] at h1 ⊢
                      omega
                    obtain ⟨A5, c5, rfl⟩ := hown.shape
                    clear hme h8
                    go_wp2_with (at_builtin; refine wpList_pushG el_u8 bv_oneC rfl (.tmp 81) (.tmp 82) rfl w.heap.size _ (H ++ packB (L.take P)) rfl hown _ (0 : UInt8) rfl rfl hsm hB ?_; intro v5 w5 hown5 hf5)
                    all_goals
                      have hZ : Ow bv 5 w5 w.heap.size v5 (H ++ pk (L.take (P + 1)) P) := by rw [HME.out, ← List.append_assoc]; exact hown5
                      have hfZ := hfr.fresh hf5 (fun q hq => (hown.lt q hq).1)
                      clear hown5 hf5 hown hfr
                      obtain ⟨g2, cap, rfl, hg2, hg2s, _, _⟩ := hZ.row (by rw [hlen.out]; omega)
                      rw [hlen.out] at hZ ⊢
                      have hq := hZ.cell hlen.out.symm (H.length + P / 8) _ hat.out
                      have hfz := hZ.frozen hlen.out.symm (H.length + P / 8)
                      unfold bv at hq
                      rw [small8 (pkn_lt8 _ _ _)] at hq
                      have hql := hql0.out
                      have HZ := Lib.hid hZ
                      have HF := Lib.hid hfZ
                      have hMb : H.length + P / 8 ≤ 1000000000 := by omega
                      clear hZ hfZ
                      generalize hQ : pkn (L.take (P + 1)) P (P / 8) = q at *
                      have HQ := Lib.hid hQ
                      clear hQ
                      generalize hM : H.length + P / 8 = M at *
                      have HM := Lib.hid hM
                      clear hM
                      have e2 : IntKind.i64.wrap (M : Int) = M := IntWalk.i64_in _ ⟨by omega, by omega⟩
                      go_wp2
                      go_region
                      have hs := (HZ.out.store hlen.out.symm M (q + (u.testBit t).toNat * 2 ^ (P % 8)).toUInt8).drew
                      rw [HSet.out, ← HST.out] at hs
                      unfold bv at hs
                      rw [small8 (bit_lt8 q (P % 8) (by omega) hql _), hbn.out, ← add_bit q y (P % 8) (by omega) hql] at hs
                      have hFs : Fr Non w (w5.setCell ⟨g2, M, none⟩ (.int .u8 (((q : Int) + (y : Int) % 2 * 2 ^ (P % 8)) % 256))).drew := (HF.out.setCell (p := ⟨g2, M, none⟩) (fun h => by have h : g2 < w.heap.size := h; omega) _).drew
                      have HS := Lib.hid hs
                      have HFS := Lib.hid hFs
                      clear hs hFs hq hfz
                      generalize (w5.setCell ⟨g2, M, none⟩ (.int .u8 (((q : Int) + (y : Int) % 2 * 2 ^ (P % 8)) % 256))).drew = W7 at *
                      go_wp2
                      go_roundw
                      case rel =>
                        refine ⟨t + 1, by omega, by go_num, by rw [← HP.out]; go_num, by rw [hun.out]; go_num, ?_, HFS.out⟩
                        rw [show J + (t + 1) = P + 1 by rw [← HP.out]; omega]
                        exact HS.out
                      case measure => simp [intOf]; omega
                  · have hb8 : ((P : Int) % 8 == 0) = false := by rw [beq_eq_false_iff_ne]; omega
                    have hme := hm.out
                    rw [if_neg h8] at hme
                    rw [← hme] at hown
                    have hZ := hown
                    have hfZ := hfr
                    clear hown hfr hme h8
                    obtain ⟨g2, cap, rfl, hg2, hg2s, _, _⟩ := hZ.row (by rw [hlen.out]; omega)
                    rw [hlen.out] at hZ ⊢
                    have hq := hZ.cell hlen.out.symm (H.length + P / 8) _ hat.out
                    have hfz := hZ.frozen hlen.out.symm (H.length + P / 8)
                    unfold bv at hq
                    rw [small8 (pkn_lt8 _ _ _)] at hq
                    have hql := hql0.out
                    have HZ := Lib.hid hZ
                    have HF := Lib.hid hfZ
                    have hMb : H.length + P / 8 ≤ 1000000000 := by omega
                    clear hZ hfZ
                    generalize hQ : pkn (L.take (P + 1)) P (P / 8) = q at *
                    have HQ := Lib.hid hQ
                    clear hQ
                    generalize hM : H.length + P / 8 = M at *
                    have HM := Lib.hid hM
                    clear hM
                    have e2 : IntKind.i64.wrap (M : Int) = M := IntWalk.i64_in _ ⟨by omega, by omega⟩
                    go_wp2
                    go_region
                    have hs := (HZ.out.store hlen.out.symm M (q + (u.testBit t).toNat * 2 ^ (P % 8)).toUInt8).drew
                    rw [HSet.out, ← HST.out] at hs
                    unfold bv at hs
                    rw [small8 (bit_lt8 q (P % 8) (by omega) hql _), hbn.out, ← add_bit q y (P % 8) (by omega) hql] at hs
                    have hFs : Fr Non w (wr.setCell ⟨g2, M, none⟩ (.int .u8 (((q : Int) + (y : Int) % 2 * 2 ^ (P % 8)) % 256))).drew := (HF.out.setCell (p := ⟨g2, M, none⟩) (fun h => by have h : g2 < w.heap.size := h; omega) _).drew
                    have HS := Lib.hid hs
                    have HFS := Lib.hid hFs
                    clear hs hFs hq hfz
                    generalize (wr.setCell ⟨g2, M, none⟩ (.int .u8 (((q : Int) + (y : Int) % 2 * 2 ^ (P % 8)) % 256))).drew = W7 at *
                    go_wp2
                    go_roundw
                    case rel =>
                      refine ⟨t + 1, by omega, by go_num, by rw [← HP.out]; go_num, by rw [hun.out]; go_num, ?_, HFS.out⟩
                      rw [show J + (t + 1) = P + 1 by rw [← HP.out]; omega]
                      exact HS.out
                    case measure => simp [intOf]; omega
                · obtain rfl : t = k := by omega
                  obtain ⟨A5, c5, rfl⟩ := hown.shape
                  go_wp2
                  go_roundw
                  case rel =>
                    have e : J + t = (j + 1) * t := by rw [← HJ.out, Nat.add_mul, Nat.one_mul]
                    exact ⟨j + 1, by omega, by go_num, by rw [← e], by rw [← e]; exact hown, hfr⟩
                  case measure => simp [intOf]; omega
            · obtain rfl : j = l.length := by omega
              rw [List.take_of_length_le (by rw [HLn.out]; exact Nat.le_refl _), ← HPt.out] at hown
              obtain ⟨A5, c5, rfl⟩ := hown.shape
              go_wp2
              go_ret
              exact ⟨_, rfl, hown.own, hfr⟩
end Go.Proofs.YtheefloegbkflaaGreatDoor


namespace Go.Proofs.YtheefloegbkflaaGreatDoor
set_option linter.unusedVariables false
set_option linter.unusedSimpArgs false
set_option maxRecDepth 100000
open Go.RowKit

/-- the blocks from B on -/
def GeT (B : Nat) : Nat → Prop := fun k => B ≤ k

theorem bit_num (r : List UInt8) (p t : Nat) (c : UInt8) (hc : r[(p + t) / 8]? = some c) : numT r p (t + 1) = numT r p t + c.toNat / 2 ^ ((p + t) % 8) % 2 * 2 ^ t := by
  rw [numT_succ]
  unfold bitOf
  rw [List.getD_eq_getElem?_getD, hc, Option.getD_some, Nat.toNat_testBit]

theorem sum_bit (U c s t : Nat) (hU : U < 2 ^ t) (ht : t < 64) (hc : c < 256) :
    IntKind.u64.wrap ((U : Int) + IntKind.u64.wrap (IntKind.u64.wrap (((c : Int) / 2 ^ s).tmod 2) * 2 ^ t)) = ((U + c / 2 ^ s % 2 * 2 ^ t : Nat) : Int) := by
  have hd : (c : Int) / 2 ^ s = ((c / 2 ^ s : Nat) : Int) := by push_cast; rfl
  rw [hd]
  generalize c / 2 ^ s = y at *
  have hm : ((y : Int)).tmod 2 = ((y % 2 : Nat) : Int) := by rw [Int.tmod_eq_emod_of_nonneg (by omega)]; push_cast; rfl
  rw [hm]
  have h2 : y % 2 < 2 := Nat.mod_lt _ (by decide)
  generalize y % 2 = b at *
  rw [IntWalk.u64_in (b : Int) ⟨by omega, by omega⟩]
  have h1 : 2 ^ t ≤ 2 ^ 63 := Nat.pow_le_pow_right (by decide) (by omega)
  have h3 : b * 2 ^ t ≤ 2 ^ t := by
    have := Nat.mul_le_mul_right (2 ^ t) (show b ≤ 1 by omega)
    omega
  have hcast : (b : Int) * 2 ^ t = ((b * 2 ^ t : Nat) : Int) := by push_cast; rfl
  rw [hcast]
  generalize b * 2 ^ t = z at *
  generalize 2 ^ t = Y at *
  simp only [IntKind.wrap_u64]
  omega
theorem tell_eq2 (lo : Int) (n : Nat) : wrap64 (IntKind.u64.wrap (IntKind.u64.wrap lo + (n : Int))) = w6 (lo + (n : Int)) := by
  unfold w6 wrap64
  simp only [IntKind.wrap_u64]
  omega

set_option maxHeartbeats 4000000 in
theorem rtget_any (v : Value) (b : List UInt8) (n : Int) (w : World) (hv : Bs w v b) (hvl : ∀ k, v.ownBlock = some k → k < w.heap.size) (hl : b.length ≤ 100000000) (h1 : -9223372036854775808 ≤ n) (h2 : n ≤ 400) :
    Calls Tryz.prog 143 #[v, .int .i64 n] w fun e w' => Gtn w' w.heap.size (getZ b n) e ∧ Fr Non w w' := by
  have hsz := hvl
  have S0 : ∀ W, W = w.alloc (.cells #[v, .bool false] 88) → SAt W w.heap.size (GeT w.heap.size) b false := by
    rintro W rfl
    exact ⟨v, Blk.new _ _ _, hv.non ((Fr.refl _ _).alloc _), (fun k hk e => by have := hsz k hk; unfold GeT at e; omega), by unfold GeT; omega, fun h => by cases h⟩
  have HS0 := Lib.hid S0
  have HV := Lib.hid hv
  clear S0 hsz
  obtain ⟨A, c, rfl, _⟩ := hv
  clear hvl
  by_cases hn0 : n = 0
  · subst hn0
    cases b with
    | nil =>
      have HG : Hid (getZ [] 0 = some []) := Lib.hid rfl
      go_enter Tryz.func143, Tryz.ntmps143
      go_wp2
      go_ret2
      exact ⟨gtn_yes HG.out (ow_nil _ _), Fr.refl _ _⟩
    | cons b0 b1 =>
      have HG : Hid (getZ (b0 :: b1) 0 = none) := Lib.hid rfl
      have hb : ((((b0 :: b1).length : Nat) : Int) == 0) = false := by rw [beq_eq_false_iff_ne]; simp; omega
      generalize b0 :: b1 = b at *
      go_enter Tryz.func143, Tryz.ntmps143
      go_wp2
      go_ret2
      exact ⟨gtn_no HG.out, Fr.refl _ _⟩
  · have hz : (n == 0) = false := by rw [beq_eq_false_iff_ne]; exact hn0
    have f0 : Fr Non w (w.alloc (.cells #[.slice A b.length c, .bool false] 88)) := (Fr.refl _ _).alloc _
    have hz0 : (w.alloc (.cells #[.slice A b.length c, .bool false] 88)).heap.size = w.heap.size + 1 := by simp
    have s0 := HS0.out _ rfl
    have HF0 := Lib.hid f0
    have HZ0 := Lib.hid hz0
    have HSx := Lib.hid s0
    clear f0 hz0 s0
    cases hp : parse b with
    | none =>
      have hcase : Hid (rest b = [] ∧ cutB (rest b) (fell b) 1 = true) := Lib.hid (by
        unfold parse at hp
        cases hr : rd 0 0 b with
        | none => obtain ⟨h1, h2, _⟩ := rest_none hr; rw [h1, h2]; exact ⟨rfl, cut_none.2.2.1⟩
        | some y =>
          obtain ⟨z, r⟩ := y
          rw [hr] at hp
          cases r with
          | nil => obtain ⟨h1, h2, _⟩ := rest_some hr; rw [h1, h2]; exact ⟨rfl, cut_none.2.2.2⟩
          | cons c r => cases hp)
      have HG : Hid (getZ b n = none) := Lib.hid (by
        unfold getZ
        rw [if_neg hn0, getT_none hp]
        split <;> rfl)
      clear hp hn0
      go_enter Tryz.func143, Tryz.ntmps143
      go_wp2_with fail
      refine (rsint_any w.heap.size (GeT w.heap.size) b false _ HSx.out (by omega)).mono ?_
      rintro e w2 ⟨rfl, s2, f2⟩
      have f02 := HF0.out.fresh f2 (fun q hq => by have : q = w.heap.size := hq; omega)
      rw [hcase.out.1] at s2
      go_wp2_with fail
      refine (rtake_any w.heap.size (GeT w.heap.size) [] (fell b) 1 w2 s2 (by simp)).mono ?_
      rintro e w3 ⟨v3, rfl, hb3, hn3, s3, f3⟩
      have hbad := hcase.out.2
      rw [hcase.out.1] at hbad
      rw [hbad] at s3
      have f03 := f02.fresh f3 (fun q hq => by have : q = w.heap.size := hq; omega)
      obtain ⟨Ar, cr, cc0, cc1, ff0, _⟩ := s3.cells
      have HF3 := Lib.hid f03
      clear s2 s3 f2 f3 f02 f03 hbad hb3 hn3
      go_wp2
      go_quiet (fail)
      go_wp2
      go_ret2
      exact ⟨gtn_no HG.out, HF3.out.drewN _⟩
    | some y =>
      obtain ⟨lo, k, r⟩ := y
      obtain ⟨ch, hch⟩ : ∃ ch : UInt8, rest b = ch :: r ∧ fell b = false ∧ unzig (fstN b) = lo ∧ ch.toNat = k ∧ r.length ≤ b.length := by
        unfold parse at hp
        cases hr : rd 0 0 b with
        | none => rw [hr] at hp; cases hp
        | some y =>
          obtain ⟨z, q⟩ := y
          obtain ⟨h1, h2, h3, _⟩ := rest_some hr
          have h4 := rd_len (by omega) hr
          rw [hr] at hp
          cases q with
          | nil => cases hp
          | cons ch q =>
            simp only [Option.some.injEq, Prod.mk.injEq] at hp
            obtain ⟨e1, e2, e3⟩ := hp
            subst e1 e2 e3
            exact ⟨ch, h1, h2, by rw [h3], rfl, by simp at h4; omega⟩
      obtain ⟨hr1, hr2, hr3, hr4, hr5⟩ := hch
      have hk8 : k ≤ 255 := by rw [← hr4]; have := ch.toNat_lt; omega
      have HP := Lib.hid hp
      have hi0 := rsint_any w.heap.size (GeT w.heap.size) b false _ HSx.out (by omega)
      rw [hr1, hr2, hr3] at hi0
      have HT : Hid (∀ W, SAt W w.heap.size (GeT w.heap.size) (ch :: r) false → Calls Tryz.prog 82 #[ptr w.heap.size, .int .i64 1] W fun e w' => ∃ a cv, e = .returned (.slice (some a) 1 cv) ∧ w'.cell? a = some (.int .u8 (k : Nat)) ∧ W.heap.size ≤ a.block ∧ SAt w' w.heap.size (GeT w.heap.size) r false ∧ Fr (One w.heap.size) W w') := Lib.hid (by
        intro W hs
        have h3 := rtake_any w.heap.size (GeT w.heap.size) (ch :: r) false 1 W hs (by simp; omega)
        rw [(cut_one ch r).1, (cut_one ch r).2.1, (cut_one ch r).2.2] at h3
        refine h3.mono ?_
        rintro e w4 ⟨v4, rfl, hb4, hn4, s4, f4⟩
        obtain ⟨A4, c4, rfl⟩ := hb4.shape
        obtain ⟨a, rfl, _, _, h⟩ := hb4.vs.addr (by simp)
        have h0 := h 0 (by simp)
        refine ⟨a, c4, rfl, ?_, hn4 _ rfl, s4, f4⟩
        simpa [bv, hr4, Addr.add] using h0)
      clear hp hr1 hr2 hr3 hr4
      by_cases hneg : n < 0
      · have HG : Hid (getZ b n = none) := Lib.hid (getZ_neg hneg)
        have hd1 : decide (n < 0) = true := by simpa using hneg
        clear hn0 hneg
        go_enter Tryz.func143, Tryz.ntmps143
        go_wp2_with fail
        refine hi0.mono ?_
        rintro e w2 ⟨rfl, s2, f2⟩
        have f02 := HF0.out.fresh f2 (fun q hq => by have : q = w.heap.size := hq; omega)
        go_wp2_with fail
        refine (HT.out w2 s2).mono ?_
        rintro e w3 ⟨a, cv, rfl, ca, ha, s3, f3⟩
        have f03 := f02.fresh f3 (fun q hq => by have : q = w.heap.size := hq; omega)
        obtain ⟨Ar, cr, cc0, cc1, ff0, _⟩ := s3.cells
        have HF3 := Lib.hid f03
        clear s2 s3 f2 f3 f02 f03 hi0
        go_wp2
        go_quiet (fail)
        go_wp2
        go_ret2
        exact ⟨gtn_no HG.out, HF3.out.drewN _⟩
      · obtain ⟨m, rfl⟩ := Int.eq_ofNat_of_zero_le (show 0 ≤ n by omega)
        have hpos : 0 < m := by omega
        have hd1 : decide ((m : Int) < 0) = false := by simp
        have hd2 : decide (400 < (m : Int)) = false := by simp; omega
        have HZ := Lib.hid (getZ_pos (b := b) hpos)
        have hm4 : m ≤ 400 := by omega
        clear hn0 hneg h1 h2
        by_cases hk64 : 64 < k
        · have HG : Hid (getZ b m = none) := Lib.hid (HZ.out.trans (getT_wide HP.out hk64 hpos))
          have hd3 : decide (64 < (k : Int)) = true := by simp; omega
          clear hk64
          go_enter Tryz.func143, Tryz.ntmps143
          go_wp2_with fail
          refine hi0.mono ?_
          rintro e w2 ⟨rfl, s2, f2⟩
          have f02 := HF0.out.fresh f2 (fun q hq => by have : q = w.heap.size := hq; omega)
          go_wp2_with fail
          refine (HT.out w2 s2).mono ?_
          rintro e w3 ⟨a, cv, rfl, ca, ha, s3, f3⟩
          have f03 := f02.fresh f3 (fun q hq => by have : q = w.heap.size := hq; omega)
          obtain ⟨Ar, cr, cc0, cc1, ff0, _⟩ := s3.cells
          have HF3 := Lib.hid f03
          clear s2 s3 f2 f3 f02 f03 hi0
          go_wp2
          go_quiet (fail)
          go_wp2
          go_ret2
          exact ⟨gtn_no HG.out, HF3.out.drewN _⟩
        · have hd3 : decide (64 < (k : Int)) = false := by simp; omega
          have hmk : m * k ≤ 100000 := by have := Nat.mul_le_mul hm4 (show k ≤ 64 by omega); omega
          have HMK := Lib.hid (show ((m : Int) * k) = ((m * k : Nat) : Int) by push_cast; rfl)
          have HND := Lib.hid (show need (m * k) = (m * k + 7) / 8 from rfl)
          by_cases hlen : r.length = need (m * k)
          · have hN8 : m * k ≤ 8 * r.length := by rw [hlen]; unfold need; omega
            have HLn := Lib.hid hlen
            have HWk : Hid (∀ i, i < m → i * k + k ≤ m * k) := Lib.hid (fun i hi => by
              have h1 := Nat.mul_le_mul_right k (show i + 1 ≤ m by omega)
              rwa [Nat.add_mul, Nat.one_mul] at h1)
            have hne : ((r.length : Int) != (((m * k : Nat) : Int) + 7) / 8) = false := by rw [bne_eq_false_iff_eq]; have := HND.out; omega
            generalize m * k = mk at *
            have e1 : IntKind.i64.wrap ((m : Int) * k) = (mk : Int) := by rw [HMK.out]; exact IntWalk.i64_in _ ⟨by omega, by omega⟩
            have e2 : IntKind.i64.wrap ((mk : Int) + 7) = (mk : Int) + 7 := IntWalk.i64_in _ ⟨by omega, by omega⟩
            clear hlen
            go_enter Tryz.func143, Tryz.ntmps143
            go_wp2_with fail
            refine hi0.mono ?_
            rintro e w2 ⟨rfl, s2, f2⟩
            have f02 := HF0.out.fresh f2 (fun q hq => by have : q = w.heap.size := hq; omega)
            go_wp2_with fail
            refine (HT.out w2 s2).mono ?_
            rintro e w3 ⟨a, cv, rfl, ca, ha, s3, f3⟩
            have f03 := f02.fresh f3 (fun q hq => by have : q = w.heap.size := hq; omega)
            obtain ⟨Ar, cr, cc0, cc1, ff0, _, _, hbs3, _⟩ := s3.cells
            have HF3 := Lib.hid f03
            have hs3 := f3.size
            have hs2 := f2.size
            have hab := World.block_lt_of_cell? w3 _ ca
            have HB3 := Lib.hid hbs3
            clear s2 s3 f2 f3 f02 f03 hi0 hbs3
            go_wp2
            go_quiet (fail)
            go_wp2
            have hown0 : Ow iv 2 ((w3.drewN nq).alloc (.cells #[] 2)) w3.heap.size (.slice (some ⟨w3.heap.size, 0, none⟩) 0 0) [] := ow_lit0 (w3.drewN nq) _ _ rfl (Nat.le_refl _)
            have f34 : Fr Non w3 ((w3.drewN nq).alloc (.cells #[] 2)) := ((Fr.refl _ _).drewN nq).alloc _
            have hsB : w3.heap.size ≤ ((w3.drewN nq).alloc (.cells #[] 2)).heap.size := f34.size
            have HA := Lib.hid ca
            have HC0 := Lib.hid cc0
            clear ca cc0 cc1 ff0 hd1 hd2 hd3 hne e1 e2
            generalize (w3.drewN nq).alloc (.cells #[] 2) = W4 at *
            go_loopw [9, 10, 11] (fun x y i wr => ∃ j : Nat, j ≤ m ∧ i = .int .i64 j ∧ y = .int .i64 (j * k : Nat) ∧ Ow iv 2 wr w3.heap.size x (readT r lo k j) ∧ Fr Non w3 wr) (fun _ _ i _ => m - (intOf i).toNat)
            case atStart => exact ⟨0, Nat.zero_le _, rfl, by rw [Nat.zero_mul]; rfl, hown0, f34⟩
            case round =>
              clear hown0 f34 hsB
              obtain ⟨j, hj, rfl, rfl, hown, hfr⟩ := hrel
              have ca := (hfr.cell hab (fun e => e)).trans HA.out
              have cc0 := (hfr.cell (World.block_lt_of_cell? w3 _ HC0.out) (fun e => e)).trans HC0.out
              have hbr := HB3.out.non hfr
              have HBr := Lib.hid hbr
              have HO := Lib.hid hown
              have HFr := Lib.hid hfr
              obtain ⟨A5, c5, rfl⟩ := hown.shape
              rw [readT_length] at HO ⊢
              clear hbr hown hfr
              by_cases hlt : j < m
              · have hjk := HWk.out j hlt
                generalize hJ : j * k = J at *
                have HJ := Lib.hid hJ
                clear hJ
                go_wp2
                go_loop [10, 12, 13] (fun y u i => ∃ t : Nat, t ≤ k ∧ i = .int .i64 t ∧ y = .int .i64 (J + t : Nat) ∧ u = .int .u64 (numT r J t : Nat)) (fun _ _ i => k - (intOf i).toNat)
                case atStart => exact ⟨0, Nat.zero_le _, rfl, rfl, rfl⟩
                case round =>
                  obtain ⟨t, ht, rfl, rfl, rfl⟩ := hrel
                  by_cases htk : t < k
                  · have hpl : (J + t) / 8 < r.length := by omega
                    cases Ar with
                    | none =>
                      obtain ⟨a', ha', _⟩ := HBr.out.vs.addr (by omega)
                      cases ha'
                    | some ar =>
                      have hq : wr.cell? (ar.add ((J + t) / 8)) = some (bv (r[(J + t) / 8]'hpl)) := by
                        obtain ⟨a', ha', _, _, hq⟩ := HBr.out.vs.addr (by omega)
                        obtain rfl : ar = a' := by simpa using ha'
                        exact hq ((J + t) / 8) hpl
                      have hst := bit_num r J t (r[(J + t) / 8]'hpl) (List.getElem?_eq_getElem hpl)
                      have HST := Lib.hid hst
                      unfold bv at hq
                      have hx8 := (r[(J + t) / 8]'hpl).toNat_lt
                      have hnl := numT_lt r J t
                      have HSB := Lib.hid (sum_bit (numT r J t) (r[(J + t) / 8]'hpl).toNat ((J + t) % 8) t hnl (by omega) hx8)
                      clear hst hnl
                      generalize r[(J + t) / 8]'hpl = cb at *
                      generalize hU : numT r J t = U at *
                      have HU := Lib.hid hU
                      clear hU
                      generalize hP : J + t = P at *
                      have HP2 := Lib.hid hP
                      have hPb : P ≤ 100000 := by omega
                      clear hP
                      go_wp2
                      exact ⟨⟨t + 1, by omega, by go_num, by rw [show J + (t + 1) = P + 1 by rw [← HP2.out]; omega]; go_num, by rw [HST.out, ← HSB.out]⟩, by simp [intOf]; omega⟩
                  · obtain rfl : t = k := by omega
                    have HTe := Lib.hid (tell_eq2 lo (numT r J t))
                    have HRs : Hid (readT r lo t j ++ [w6 (lo + (numT r J t : Nat))] = readT r lo t (j + 1)) := Lib.hid (by rw [readT_succ, HJ.out])
                    have hB := HFr.out.size
                    have hRl : (readT r lo t j).length < 1099511627776 := by rw [readT_length]; omega
                    go_wp2_with (at_builtin; refine wpList_pushG el_i64 iv_oneC rfl (.tmp 93) (.tmp 99) rfl w3.heap.size _ (readT r lo t j) rfl HO.out _ (w6 (lo + (numT r J t : Nat))) (by unfold iv; rw [← HTe.out]) rfl hRl hB ?_; intro v6 w6' hown6 hf6)
                    refine ⟨⟨j + 1, by omega, by go_num, ?_, by rw [← HRs.out]; exact hown6, HFr.out.fresh hf6 (fun q hq => (HO.out.lt q hq).1)⟩, by simp [intOf]; omega⟩
                    rw [show (j + 1) * t = J + t by rw [← HJ.out, Nat.add_mul, Nat.one_mul]]
                    go_num
              · obtain rfl : j = m := by omega
                have hB := HFr.out.size
                have f0r := HF3.out.trans HFr.out
                have HRl := Lib.hid (readT_length r lo k j)
                have HW3 := Lib.hid HF3.out.size
                have hput := rtput_any _ (readT r lo k j) wr.drew HO.out.vs.drew (readT_i64 _ _ _ _) (by rw [HRl.out]; omega)
                have HPu := Lib.hid hput
                have HR := Lib.hid f0r
                have hVb := HV.out.non f0r
                have cB := run_conv_Bs hVb.drew 26 9 5 Tryz.underlying26 Tryz.underlying5 Tryz.underlying9
                have HVb := Lib.hid hVb
                have HCv := Lib.hid (fun (W : World) (u : Value) (l : List UInt8) (h : Bs W u l) => run_conv_Bs h 26 9 5 Tryz.underlying26 Tryz.underlying5 Tryz.underlying9)
                clear hput f0r hVb ca cc0
                by_cases he : putT (readT r lo k j) = b
                · have HG : Hid (getZ b j = some (readT r lo k j)) := Lib.hid (HZ.out.trans (getT_yes HP.out (by rw [HLn.out]; congr 1; have h := HMK.out; exact_mod_cast h.symm) he))
                  have hbb : (putT (readT r lo k j) == b) = true := by simp [he]
                  clear he
                  go_wp2_with fail
                  go_region_with (first | (go_at_call 123; refine HPu.out.mono ?_; rintro e w7 ⟨u7, rfl, hown7, hf7⟩; have c7 := HCv.out w7 u7 _ hown7.bs; have c8 := HCv.out w7 _ b (HVb.out.drew.non hf7)))
                  all_goals
                    go_wp2
                    go_ret2
                    exact ⟨gtn_yes HG.out ((HO.out.drew.non hf7).mono (by have := HW3.out; omega)), (HR.out.drew).trans hf7⟩
                · have HG : Hid (getZ b j = none) := Lib.hid (HZ.out.trans (getT_ne HP.out he))
                  have hbb : (putT (readT r lo k j) == b) = false := by simp [he]
                  clear he
                  go_wp2_with fail
                  go_region_with (first | (go_at_call 123; refine HPu.out.mono ?_; rintro e w7 ⟨u7, rfl, hown7, hf7⟩; have c7 := HCv.out w7 u7 _ hown7.bs; have c8 := HCv.out w7 _ b (HVb.out.drew.non hf7)))
                  all_goals
                    go_wp2
                    go_ret2
                    exact ⟨gtn_no HG.out, (HR.out.drew).trans hf7⟩
          · have HG : Hid (getZ b m = none) := Lib.hid (HZ.out.trans (getT_len HP.out hlen))
            have hne : ((r.length : Int) != (((m * k : Nat) : Int) + 7) / 8) = true := by rw [bne_iff_ne]; have := HND.out; omega
            generalize m * k = mk at *
            have e1 : IntKind.i64.wrap ((m : Int) * k) = (mk : Int) := by rw [HMK.out]; exact IntWalk.i64_in _ ⟨by omega, by omega⟩
            have e2 : IntKind.i64.wrap ((mk : Int) + 7) = (mk : Int) + 7 := IntWalk.i64_in _ ⟨by omega, by omega⟩
            clear hlen hk64
            go_enter Tryz.func143, Tryz.ntmps143
            go_wp2_with fail
            refine hi0.mono ?_
            rintro e w2 ⟨rfl, s2, f2⟩
            have f02 := HF0.out.fresh f2 (fun q hq => by have : q = w.heap.size := hq; omega)
            go_wp2_with fail
            refine (HT.out w2 s2).mono ?_
            rintro e w3 ⟨a, cv, rfl, ca, ha, s3, f3⟩
            have f03 := f02.fresh f3 (fun q hq => by have : q = w.heap.size := hq; omega)
            obtain ⟨Ar, cr, cc0, cc1, ff0, _⟩ := s3.cells
            have HF3 := Lib.hid f03
            clear s2 s3 f2 f3 f02 f03 hi0
            go_wp2
            go_quiet (fail)
            go_wp2
            go_ret2
            exact ⟨gtn_no HG.out, HF3.out.drewN _⟩
end Go.Proofs.YtheefloegbkflaaGreatDoor
