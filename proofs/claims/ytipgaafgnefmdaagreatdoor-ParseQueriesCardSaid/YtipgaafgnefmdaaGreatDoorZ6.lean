/-
  Joined: Layer 16: the document's digits. · Layer 16: the number of digits (the document's). · Layer 17: which predicates may be, the document's. · Layer 17: the text of a predicate, the program's. · Layer 17: the columns of a predicate, both programs'. · Layer 18: which queries there may be, the program's. · Layer 18: which queries there may be, the program's: a plain one, one of aggregates. · Layer 19: the program's Query. · Layer 19: what may be is small; so is all that the readers tell. Nothing of the program. · Layer 19: the page's examples, asked of the program.
-/
import Derived.Deep.Slices
import Derived.Laws.StructEq
import Derived.Laws.Rows
import Derived.Laws.ResultCell
import Derived.Lib.Zigzag
import Derived.Laws.Cover1
import Derived.Deep.QuietTactic
import Derived.BigQuiet
import Derived.Deep.RegionHeld3
import Derived.Deep.DrawnRows
import Derived.Test.YtipgaafgnefmdaaGreatDoorZ5
import Derived.Deep.RegionWith
import Derived.Test.YtipgaafgnefmdaaGreatDoorZ4
import Derived.Test.YtipgaafgnefmdaaGreatDoorZ2
import Derived.Deep.Cut
import Derived.Test.YtipgaafgnefmdaaGreatDoorZ1
import Derived.ProofKit

namespace Go.Proofs.YtipgaafgnefmdaaGreatDoor
set_option linter.unusedVariables false
set_option linter.unusedSimpArgs false
set_option maxRecDepth 100000
open Go.RowKit
theorem rlet_any (c : UInt8) (w : World) : Calls Tryz.prog 79 #[.int .u8 c.toNat] w fun e w' => e = .returned (.bool (letB c)) ∧ w = w' := by
  go_enter Tryz.func79, Tryz.ntmps79
  go_wp2
  all_goals
    go_ret
    refine ⟨?_, rfl⟩
    unfold letB
    refine congrArg (fun b => Ending.returned (Value.bool b)) ?_
    rw [Bool.eq_iff_iff]
    simp at *
    try omega
theorem rdig_any (c : UInt8) (w : World) : Calls Tryz.prog 80 #[.int .u8 c.toNat] w fun e w' => e = .returned (.bool (digB c)) ∧ w = w' := by
  go_enter Tryz.func80, Tryz.ntmps80
  go_wp2
  all_goals
    go_ret
    refine ⟨?_, rfl⟩
    unfold digB
    refine congrArg (fun b => Ending.returned (Value.bool b)) ?_
    rw [Bool.eq_iff_iff]
    simp at *
    try omega


/-- a byte alone, as a text -/
theorem conv_one (W : World) (z : Int) (c : UInt8) (h : z = (c.toNat : Int)) : (convert 116 9 (.slice (some ⟨W.heap.size, 0, none⟩) 1 1)).run Tryz.prog (W.alloc (.cells #[.int .u8 z] 5)) = .ok (.string ⟨[c].toArray⟩) (W.alloc (.cells #[.int .u8 z] 5)) := by
  subst h
  exact run_conv_Bs (bs_row W [c]) 116 9 5 Tryz.underlying116 Tryz.underlying5 Tryz.underlying9
theorem dg_big {x : Nat} (h : 9 < x) : Lib.decDigits x = Lib.decDigits (x / 10) ++ [UInt8.ofNat (48 + x % 10)] := by rw [Lib.decDigits, dif_neg (by omega)]
theorem dg_small {x : Nat} (h : ¬ 9 < x) : Lib.decDigits x = [UInt8.ofNat (48 + x)] := by rw [Lib.decDigits, dif_pos (by omega)]

set_option maxHeartbeats 1000000 in
theorem rdigits_up (u : Nat) (w : World) (hu : u ≤ 9223372036854775807) : Calls Tryz.prog 91 #[.int .i64 u] w fun e w' => e = .returned (.string ⟨(Lib.decDigits u).toArray⟩) ∧ Fr Non w w' := by
  have hneg : decide ((u : Int) < 0) = false := by simp
  have hdl : (Lib.decDigits u).length ≤ 19 := dec_le (k := 18) (by omega)
  go_enter Tryz.func91, Tryz.ntmps91
  go_wp2
  go_loopw [3, 4] (fun a b wr => ∃ (x : Nat) (s : List UInt8), a = .int .u64 (x : Int) ∧ b = .string ⟨s.toArray⟩ ∧ x ≤ 18446744073709551615 ∧ Fr Non w wr ∧ Hid (Lib.decDigits u = Lib.decDigits x ++ s)) (fun a _ _ => (intOf a).toNat)
  case atStart => exact ⟨u, [], rfl, rfl, by omega, Fr.refl _ _, Lib.hid (by simp)⟩
  case round =>
    obtain ⟨x, s, rfl, rfl, hx, hfr, hd⟩ := hrel
    have hsl : s.length ≤ 19 := by have := congrArg List.length hd.out; rw [List.length_append] at this; omega
    by_cases h9 : 9 < x
    · have hb : decide ((9 : Int) < (x : Int)) = true := by simp; omega
      have hc := conv_one wr (48 + (x : Int) % 10) (UInt8.ofNat (48 + x % 10)) (by rw [UInt8.toNat_ofNat']; omega)
      have HM := Lib.hid (hd.out.trans (by rw [dg_big h9, List.append_assoc] : _ = Lib.decDigits (x / 10) ++ ([UInt8.ofNat (48 + x % 10)] ++ s)))
      have ha := fun W => run_string_add_sum (P := Tryz.prog) W ⟨[UInt8.ofNat (48 + x % 10)].toArray⟩ ⟨s.toArray⟩ (by simp [ByteArray.size]; omega)
      have HF := Lib.hid hfr
      have hx10 : x / 10 < x := by omega
      clear hd hfr h9
      generalize UInt8.ofNat (48 + x % 10) = c at *
      go_wp2
      go_roundw
      case rel => exact ⟨x / 10, [c] ++ s, by push_cast; rfl, rfl, by omega, HF.out.alloc _, HM⟩
      case measure => simp [intOf]; omega
    · have hb : decide ((9 : Int) < (x : Int)) = false := by simp; omega
      have hx9 : (x : Int) ≤ 9 := by omega
      have hc := conv_one wr (48 + (x : Int)) (UInt8.ofNat (48 + x)) (by rw [UInt8.toNat_ofNat']; omega)
      have HM := Lib.hid (hd.out.trans (by rw [dg_small h9] : _ = [UInt8.ofNat (48 + x)] ++ s))
      have ha := fun W => run_string_add_sum (P := Tryz.prog) W ⟨[UInt8.ofNat (48 + x)].toArray⟩ ⟨s.toArray⟩ (by simp [ByteArray.size]; omega)
      have HF := Lib.hid hfr
      clear hd hfr h9
      generalize UInt8.ofNat (48 + x) = c at *
      go_wp2
      go_ret
      exact ⟨by rw [HM.out]; rfl, HF.out.alloc _⟩

set_option maxHeartbeats 1000000 in
theorem rdigits_dn (u : Nat) (w : World) (h1 : 1 ≤ u) (hu : u ≤ 9223372036854775808) : Calls Tryz.prog 91 #[.int .i64 (-(u : Int))] w fun e w' => e = .returned (.string ⟨(45 :: Lib.decDigits u).toArray⟩) ∧ Fr Non w w' := by
  have hneg : decide (-(u : Int) < 0) = true := by simp; omega
  have hpos : decide (0 < u) = true := by simp; omega
  have hwr : IntKind.u64.wrap (-IntKind.u64.wrap (-(u : Int))) = (u : Int) := by simp [IntKind.wrap, IntKind.bits, IntKind.signed]; omega
  have hdl : (Lib.decDigits u).length ≤ 19 := dec_le (k := 18) (by omega)
  go_enter Tryz.func91, Tryz.ntmps91
  go_wp2
  go_loopw [3, 4] (fun a b wr => ∃ (x : Nat) (s : List UInt8), a = .int .u64 (x : Int) ∧ b = .string ⟨s.toArray⟩ ∧ x ≤ 18446744073709551615 ∧ Fr Non w wr ∧ Hid (Lib.decDigits u = Lib.decDigits x ++ s)) (fun a _ _ => (intOf a).toNat)
  case atStart => exact ⟨u, [], rfl, rfl, by omega, Fr.refl _ _, Lib.hid (by simp)⟩
  case round =>
    obtain ⟨x, s, rfl, rfl, hx, hfr, hd⟩ := hrel
    have hsl : s.length ≤ 19 := by have := congrArg List.length hd.out; rw [List.length_append] at this; omega
    by_cases h9 : 9 < x
    · have hb : decide ((9 : Int) < (x : Int)) = true := by simp; omega
      have hc := conv_one wr (48 + (x : Int) % 10) (UInt8.ofNat (48 + x % 10)) (by rw [UInt8.toNat_ofNat']; omega)
      have HM := Lib.hid (hd.out.trans (by rw [dg_big h9, List.append_assoc] : _ = Lib.decDigits (x / 10) ++ ([UInt8.ofNat (48 + x % 10)] ++ s)))
      have ha := fun W => run_string_add_sum (P := Tryz.prog) W ⟨[UInt8.ofNat (48 + x % 10)].toArray⟩ ⟨s.toArray⟩ (by simp [ByteArray.size]; omega)
      have HF := Lib.hid hfr
      have hx10 : x / 10 < x := by omega
      clear hd hfr h9
      generalize UInt8.ofNat (48 + x % 10) = c at *
      go_wp2
      go_roundw
      case rel => exact ⟨x / 10, [c] ++ s, by push_cast; rfl, rfl, by omega, HF.out.alloc _, HM⟩
      case measure => simp [intOf]; omega
    · have hb : decide ((9 : Int) < (x : Int)) = false := by simp; omega
      have hx9 : (x : Int) ≤ 9 := by omega
      have hc := conv_one wr (48 + (x : Int)) (UInt8.ofNat (48 + x)) (by rw [UInt8.toNat_ofNat']; omega)
      have HM := Lib.hid (hd.out.trans (by rw [dg_small h9] : _ = [UInt8.ofNat (48 + x)] ++ s))
      have ha := fun W => run_string_add_sum (P := Tryz.prog) W ⟨[UInt8.ofNat (48 + x)].toArray⟩ ⟨s.toArray⟩ (by simp [ByteArray.size]; omega)
      have HF := Lib.hid hfr
      clear hd hfr h9
      generalize UInt8.ofNat (48 + x) = c at *
      have ha2 := fun W => run_string_add_sum (P := Tryz.prog) W ⟨#[45]⟩ (⟨[c].toArray⟩ ++ ⟨s.toArray⟩) (by simp [ByteArray.size]; omega)
      go_wp2
      go_ret
      exact ⟨by rw [HM.out]; rfl, HF.out.alloc _⟩

theorem rdigits_any (n : Int) (w : World) (hn : I64b n) : Calls Tryz.prog 91 #[.int .i64 n] w fun e w' => e = .returned (.string ⟨(Lib.itoa n).toArray⟩) ∧ Fr Non w w' := by
  unfold I64b at hn
  rcases int_ways n with ⟨u, rfl⟩ | ⟨u, hu, rfl⟩
  · rw [itoa_up]; exact rdigits_up u w (by omega)
  · rw [itoa_down u hu]; exact rdigits_dn u w hu (by omega)
end Go.Proofs.YtipgaafgnefmdaaGreatDoor


namespace Go.Proofs.YtipgaafgnefmdaaGreatDoor
set_option linter.unusedVariables false
set_option linter.unusedSimpArgs false
set_option maxRecDepth 100000
open Go.RowKit

theorem byteW {l : List UInt8} {k : Nat} {c : UInt8} (h : l[k]? = some c) : ∀ h : k < ByteArray.size ⟨l.toArray⟩, (⟨l.toArray⟩ : ByteArray)[k] = c := by
  intro hh
  obtain ⟨hk, rfl⟩ := List.getElem?_eq_some_iff.1 h
  simp [ByteArray.getElem_eq_getElem_data]
/-- so far -/
def NmI (d : List UInt8) (i n : Nat) : Prop := numD (d.take i) = n ∧ (d.take i).all digB = true
theorem nm_zero (d : List UInt8) : NmI d 0 0 := ⟨by rw [List.take_zero]; rfl, by rw [List.take_zero]; rfl⟩
theorem nm_more {d : List UInt8} {i n : Nat} {c : UInt8} (h : NmI d i n) (hc : d[i]? = some c) (hd : digB c = true) : NmI d (i + 1) (10 * n + (c.toNat - 48)) := by
  obtain ⟨hi, rfl⟩ := List.getElem?_eq_some_iff.1 hc
  unfold NmI
  rw [List.take_add_one, List.getElem?_eq_getElem hi]
  refine ⟨?_, by rw [List.all_append, h.2]; simpa using hd⟩
  unfold numD
  rw [numF_app]
  show 10 * numD (d.take i) + _ = _
  rw [h.1]
theorem nm_lt {d : List UInt8} {i n : Nat} (h : NmI d i n) (hi : i ≤ d.length) : n < 10 ^ i := by
  have := numF_lt (d.take i) 0 0 h.2 (by decide)
  have e : numF 0 (d.take i) = n := h.1
  rw [e, List.length_take, Nat.zero_add, Nat.min_eq_left hi] at this
  exact this
theorem wrapI (z : Int) : I64b (wrap64 z) := by
  unfold I64b wrap64
  omega
theorem val_up {l : List UInt8} {n : Nat} (h : NmI l l.length n) (h0 : l.head? ≠ some 45) : valB l = if Lib.itoa (wrap64 n) = l then some (wrap64 n) else none := by
  have hn : numD l = n := by have := h.1; rwa [List.take_length] at this
  refine valB_by (wrapI _) fun v hv he => ?_
  rcases itoa_shape hv he with ⟨e, _⟩ | ⟨d, e, _⟩
  · rw [hn] at e
    subst e
    unfold I64b at hv
    unfold wrap64; omega
  · rw [e] at h0; simp at h0
theorem val_dn {d : List UInt8} {n : Nat} (h : NmI d d.length n) : valB (45 :: d) = if Lib.itoa (wrap64 (IntKind.u64.wrap (-(n : Int)))) = 45 :: d then some (wrap64 (IntKind.u64.wrap (-(n : Int)))) else none := by
  have hn : numD d = n := by have := h.1; rwa [List.take_length] at this
  refine valB_by (wrapI _) fun v hv he => ?_
  rcases itoa_shape hv he with ⟨_, e, _⟩ | ⟨d', e, e2, _⟩
  · simp [digB] at e
  · obtain rfl : d = d' := by simpa using e
    rw [hn] at e2
    subst e2
    unfold I64b at hv
    simp [wrap64, IntKind.wrap, IntKind.bits, IntKind.signed]; omega
/-- no number: too short, too long, no digits -/
theorem val_not {l : List UInt8} {d : List UInt8} (h : l = d ∧ l.head? ≠ some 45 ∨ l = 45 :: d) (hb : ¬ (1 ≤ d.length ∧ d.length ≤ 19 ∧ d.all digB = true)) : valB l = none := by
  cases hv : valB l with
  | none => rfl
  | some v =>
    exfalso
    obtain ⟨h1, h2⟩ := valB_is hv
    rcases itoa_shape h1 h2 with ⟨_, e1, e2, e3⟩ | ⟨d', e0, _, e1, e2, e3⟩
    · rcases h with ⟨rfl, _⟩ | rfl
      · exact hb ⟨e2, e3, e1⟩
      · simp [digB] at e1
    · rcases h with ⟨rfl, h⟩ | rfl
      · rw [e0] at h; simp at h
      · obtain rfl : d = d' := by simpa using e0
        exact hb ⟨e2, e3, e1⟩

set_option maxHeartbeats 1000000 in
theorem rval_up (l : List UInt8) (w : World) (h0 : l.head? ≠ some 45) (h1 : 1 ≤ l.length) (h2 : l.length ≤ 19) : Calls Tryz.prog 81 #[.string ⟨l.toArray⟩] w fun e w' => ∃ x : Int, e = .returned (.tuple #[.int .i64 x, .bool (valB l).isSome]) ∧ (∀ v, valB l = some v → x = v) ∧ Fr Non w w' := by
  obtain ⟨c0, r, hd, hc0, _⟩ := drop_is (l := l) (k := 0) (by omega)
  have hg0 := byteW hc0
  have hb : decide (0 < l.length) = true := by simp; omega
  have hc45 : ((c0.toNat : Int) == 45) = false := by
    rw [beq_eq_false_iff_ne]; intro e
    rw [List.drop_zero] at hd
    rw [hd] at h0; simp at h0
    exact h0 ((byt_is c0 45 (by omega)).2 (by omega))
  have HL := Lib.hid h0
  clear h0 hd
  have hb1 : decide ((l.length : Int) < 1) = false := by simp; omega
  have hb2 : decide ((19 : Int) < (l.length : Int)) = false := by simp; omega
  go_enter Tryz.func81, Tryz.ntmps81
  go_wp2
  clear hb hb1 hb2 hg0
  go_loopw [6, 7] (fun a b wr => ∃ n i : Nat, a = .int .u64 (n : Int) ∧ b = .int .i64 (i : Int) ∧ i ≤ l.length ∧ Fr Non w wr ∧ Hid (NmI l i n)) (fun _ b _ => l.length - (intOf b).toNat)
  case atStart => exact ⟨0, 0, rfl, rfl, by omega, Fr.refl _ _, Lib.hid (nm_zero _)⟩
  case round =>
    obtain ⟨n, i, rfl, rfl, hi, hfr, hn⟩ := hrel
    by_cases hlt : i < l.length
    · obtain ⟨c, r, _, hc, _⟩ := drop_is hlt
      have hg := byteW hc
      have HD := Lib.hid (fun V => rdig_any c V)
      have hnl := nm_lt hn.out hi
      have hn18 : n < 1000000000000000000 := Nat.lt_of_lt_of_le hnl (Nat.le_trans (Nat.pow_le_pow_right (by decide) (show i ≤ 18 by omega)) (by decide))
      cases hd : digB c with
      | true =>
        have HM := Lib.hid (nm_more hn.out hc hd)
        rw [hd] at HD
        simp only [digB, decide_eq_true_eq] at hd
        clear hnl hn
        go_wp2_with fail
        refine (HD.out _).mono ?_
        rintro e w1 ⟨rfl, rfl⟩
        clear HD
        go_wp2
        go_roundw
        case rel => exact ⟨_, i + 1, congrArg (Value.int .u64) (by omega), by push_cast; rfl, by omega, hfr, HM⟩
        case measure => simp [intOf]; omega
      | false =>
        have HN := Lib.hid (val_not (.inl ⟨rfl, HL.out⟩) (fun h => by
          have := List.all_eq_true.1 h.2.2 c (List.mem_of_getElem? hc)
          rw [hd] at this; cases this))
        rw [hd] at HD
        clear hnl hn hd
        go_wp2_with fail
        refine (HD.out _).mono ?_
        rintro e w1 ⟨rfl, rfl⟩
        clear HD
        have HF := Lib.hid hfr
        clear hfr
        go_wp2
        go_ret2
        exact ⟨0, by rw [HN.out]; rfl, (fun v hv => by rw [HN.out] at hv; cases hv), HF.out⟩
    · obtain rfl : i = l.length := by omega
      have HV := Lib.hid (val_up hn.out HL.out)
      have HI := Lib.hid (fun V => rdigits_any (wrap64 n) V (wrapI _))
      have HF := Lib.hid hfr
      clear hn hfr
      go_wp2_with fail
      refine (HI.out _).mono ?_
      rintro e w1 ⟨rfl, f1⟩
      generalize wrap64 n = x at *
      have HF1 := Lib.hid (HF.out.then f1)
      clear HI HF f1
      cases hb : (Lib.itoa x == l) with
      | true =>
        replace HV := Lib.hid (HV.out.trans (if_pos (by simpa using hb)))
        go_wp2
        go_ret2
        exact ⟨x, by rw [HV.out]; rfl, (fun v hv => by rw [HV.out] at hv; exact Option.some.inj hv), HF1.out⟩
      | false =>
        replace HV := Lib.hid (HV.out.trans (if_neg (by simpa using hb)))
        go_wp2
        go_ret2
        exact ⟨x, by rw [HV.out]; rfl, (fun v hv => by rw [HV.out] at hv; cases hv), HF1.out⟩

set_option maxHeartbeats 1000000 in
theorem rval_dn (l d : List UInt8) (w : World) (h0 : l = 45 :: d) (h1 : 1 ≤ d.length) (h2 : d.length ≤ 19) : Calls Tryz.prog 81 #[.string ⟨l.toArray⟩] w fun e w' => ∃ x : Int, e = .returned (.tuple #[.int .i64 x, .bool (valB l).isSome]) ∧ (∀ v, valB l = some v → x = v) ∧ Fr Non w w' := by
  have hg0 := byteW (l := l) (k := 0) (c := 45) (by rw [h0]; rfl)
  have hb : decide (0 < l.length) = true := by rw [h0]; simp
  have hx := ext_from l 1 (by rw [h0]; simp)
  have hxd : l.drop 1 = d := by rw [h0]; rfl
  rw [hxd] at hx
  have hll : l.length = d.length + 1 := by rw [h0]; simp
  rw [hll] at hx
  have HL := Lib.hid h0
  clear h0 hxd
  have hb1 : decide ((d.length : Int) < 1) = false := by simp; omega
  have hb2 : decide ((19 : Int) < (d.length : Int)) = false := by simp; omega
  go_enter Tryz.func81, Tryz.ntmps81
  go_wp2
  clear hb hb1 hb2 hg0 hx
  go_loopw [6, 7] (fun a b wr => ∃ n i : Nat, a = .int .u64 (n : Int) ∧ b = .int .i64 (i : Int) ∧ i ≤ d.length ∧ Fr Non w wr ∧ Hid (NmI d i n)) (fun _ b _ => d.length - (intOf b).toNat)
  case atStart => exact ⟨0, 0, rfl, rfl, by omega, Fr.refl _ _, Lib.hid (nm_zero _)⟩
  case round =>
    obtain ⟨n, i, rfl, rfl, hi, hfr, hn⟩ := hrel
    by_cases hlt : i < d.length
    · obtain ⟨c, r, _, hc, _⟩ := drop_is hlt
      have hg := byteW hc
      have HD := Lib.hid (fun V => rdig_any c V)
      have hnl := nm_lt hn.out hi
      have hn18 : n < 1000000000000000000 := Nat.lt_of_lt_of_le hnl (Nat.le_trans (Nat.pow_le_pow_right (by decide) (show i ≤ 18 by omega)) (by decide))
      cases hd : digB c with
      | true =>
        have HM := Lib.hid (nm_more hn.out hc hd)
        rw [hd] at HD
        simp only [digB, decide_eq_true_eq] at hd
        clear hnl hn
        go_wp2_with fail
        refine (HD.out _).mono ?_
        rintro e w1 ⟨rfl, rfl⟩
        clear HD
        go_wp2
        go_roundw
        case rel => exact ⟨_, i + 1, congrArg (Value.int .u64) (by omega), by push_cast; rfl, by omega, hfr, HM⟩
        case measure => simp [intOf]; omega
      | false =>
        have HN := Lib.hid (val_not (.inr HL.out) (fun h => by
          have := List.all_eq_true.1 h.2.2 c (List.mem_of_getElem? hc)
          rw [hd] at this; cases this))
        rw [hd] at HD
        clear hnl hn hd
        go_wp2_with fail
        refine (HD.out _).mono ?_
        rintro e w1 ⟨rfl, rfl⟩
        clear HD
        have HF := Lib.hid hfr
        clear hfr
        go_wp2
        go_ret2
        exact ⟨0, by rw [HN.out]; rfl, (fun v hv => by rw [HN.out] at hv; cases hv), HF.out⟩
    · obtain rfl : i = d.length := by omega
      have HV := Lib.hid (HL.out ▸ val_dn hn.out)
      have HI := Lib.hid (fun V => rdigits_any (wrap64 (IntKind.u64.wrap (-(n : Int)))) V (wrapI _))
      have HF := Lib.hid hfr
      clear hn hfr
      go_wp2_with fail
      refine (HI.out _).mono ?_
      rintro e w1 ⟨rfl, f1⟩
      generalize wrap64 (IntKind.u64.wrap (-(n : Int))) = x at *
      have HF1 := Lib.hid (HF.out.then f1)
      clear HI HF f1
      cases hb : (Lib.itoa x == l) with
      | true =>
        replace HV := Lib.hid (HV.out.trans (if_pos (by simpa using hb)))
        go_wp2
        go_ret2
        exact ⟨x, by rw [HV.out]; rfl, (fun v hv => by rw [HV.out] at hv; exact Option.some.inj hv), HF1.out⟩
      | false =>
        replace HV := Lib.hid (HV.out.trans (if_neg (by simpa using hb)))
        go_wp2
        go_ret2
        exact ⟨x, by rw [HV.out]; rfl, (fun v hv => by rw [HV.out] at hv; cases hv), HF1.out⟩

theorem rval_ulong (l : List UInt8) (w : World) (h0 : l.head? ≠ some 45) (h1 : 19 < l.length) (hl : l.length ≤ 1000000) : Calls Tryz.prog 81 #[.string ⟨l.toArray⟩] w fun e w' => ∃ x : Int, e = .returned (.tuple #[.int .i64 x, .bool (valB l).isSome]) ∧ (∀ v, valB l = some v → x = v) ∧ Fr Non w w' := by
  have HN := Lib.hid (val_not (.inl ⟨rfl, h0⟩) (fun h => by omega))
  obtain ⟨c0, r, hd, hc0, _⟩ := drop_is (l := l) (k := 0) (by omega)
  have hg0 := byteW hc0
  have hb : decide (0 < l.length) = true := by simp; omega
  have hc45 : ((c0.toNat : Int) == 45) = false := by
    rw [beq_eq_false_iff_ne]; intro e
    rw [List.drop_zero] at hd
    rw [hd] at h0; simp at h0
    exact h0 ((byt_is c0 45 (by omega)).2 (by omega))
  clear h0 hd
  have hb1 : decide ((l.length : Int) < 1) = false := by simp; omega
  have hb2 : decide ((19 : Int) < (l.length : Int)) = true := by simp; omega
  go_enter Tryz.func81, Tryz.ntmps81
  go_wp2
  go_ret2
  exact ⟨0, by rw [HN.out]; rfl, (fun v hv => by rw [HN.out] at hv; cases hv), Fr.refl _ _⟩

theorem rval_dnone (l d : List UInt8) (w : World) (h0 : l = 45 :: d) (h1 : d.length < 1) (hl : l.length ≤ 1000000) : Calls Tryz.prog 81 #[.string ⟨l.toArray⟩] w fun e w' => ∃ x : Int, e = .returned (.tuple #[.int .i64 x, .bool (valB l).isSome]) ∧ (∀ v, valB l = some v → x = v) ∧ Fr Non w w' := by
  have HN := Lib.hid (val_not (.inr h0) (fun h => by omega))
  have hg0 := byteW (l := l) (k := 0) (c := 45) (by rw [h0]; rfl)
  have hb : decide (0 < l.length) = true := by rw [h0]; simp
  have hx := ext_from l 1 (by rw [h0]; simp)
  have hxd : l.drop 1 = d := by rw [h0]; rfl
  rw [hxd] at hx
  have hll : l.length = d.length + 1 := by rw [h0]; simp
  rw [hll] at hx
  have HL := Lib.hid h0
  clear h0 hxd
  have hb1 : decide ((d.length : Int) < 1) = true := by simp; omega
  go_enter Tryz.func81, Tryz.ntmps81
  go_wp2
  go_ret2
  exact ⟨0, by rw [HN.out]; rfl, (fun v hv => by rw [HN.out] at hv; cases hv), Fr.refl _ _⟩

theorem rval_dlong (l d : List UInt8) (w : World) (h0 : l = 45 :: d) (h1 : 19 < d.length) (hl : l.length ≤ 1000000) : Calls Tryz.prog 81 #[.string ⟨l.toArray⟩] w fun e w' => ∃ x : Int, e = .returned (.tuple #[.int .i64 x, .bool (valB l).isSome]) ∧ (∀ v, valB l = some v → x = v) ∧ Fr Non w w' := by
  have HN := Lib.hid (val_not (.inr h0) (fun h => by omega))
  have hg0 := byteW (l := l) (k := 0) (c := 45) (by rw [h0]; rfl)
  have hb : decide (0 < l.length) = true := by rw [h0]; simp
  have hx := ext_from l 1 (by rw [h0]; simp)
  have hxd : l.drop 1 = d := by rw [h0]; rfl
  rw [hxd] at hx
  have hll : l.length = d.length + 1 := by rw [h0]; simp
  rw [hll] at hx
  have HL := Lib.hid h0
  clear h0 hxd
  have hb1 : decide ((d.length : Int) < 1) = false := by simp; omega
  have hb2 : decide ((19 : Int) < (d.length : Int)) = true := by simp; omega
  go_enter Tryz.func81, Tryz.ntmps81
  go_wp2
  go_ret2
  exact ⟨0, by rw [HN.out]; rfl, (fun v hv => by rw [HN.out] at hv; cases hv), Fr.refl _ _⟩

theorem rval_nil (w : World) : Calls Tryz.prog 81 #[.string ⟨([] : List UInt8).toArray⟩] w fun e w' => ∃ x : Int, e = .returned (.tuple #[.int .i64 x, .bool (valB []).isSome]) ∧ (∀ v, valB [] = some v → x = v) ∧ Fr Non w w' := by
  have HN := Lib.hid (val_not (l := []) (d := []) (.inl ⟨rfl, by simp⟩) (fun h => by simp at h))
  go_enter Tryz.func81, Tryz.ntmps81
  go_wp2
  go_ret2
  exact ⟨0, by rw [HN.out]; rfl, (fun v hv => by rw [HN.out] at hv; cases hv), Fr.refl _ _⟩

theorem rvalue_any (l : List UInt8) (w : World) (hl : l.length ≤ 1000000) : Calls Tryz.prog 81 #[.string ⟨l.toArray⟩] w fun e w' => ∃ x : Int, e = .returned (.tuple #[.int .i64 x, .bool (valB l).isSome]) ∧ (∀ v, valB l = some v → x = v) ∧ Fr Non w w' := by
  by_cases hn : l = []
  · subst hn; exact rval_nil w
  by_cases h0 : l.head? = some 45
  · obtain ⟨d, hd⟩ : ∃ d, l = 45 :: d := by
      cases l with
      | nil => simp at h0
      | cons c r => simp at h0; exact ⟨r, by rw [h0]⟩
    by_cases h1 : d.length < 1
    · exact rval_dnone l d w hd h1 hl
    by_cases h2 : 19 < d.length
    · exact rval_dlong l d w hd h2 hl
    · exact rval_dn l d w hd (by omega) (by omega)
  · have hp := List.length_pos_iff.2 hn
    by_cases h2 : 19 < l.length
    · exact rval_ulong l w h0 h2 hl
    · exact rval_up l w h0 hp (by omega)
end Go.Proofs.YtipgaafgnefmdaaGreatDoor


namespace Go.Proofs.YtipgaafgnefmdaaGreatDoor
set_option linter.unusedVariables false
set_option linter.unusedSimpArgs false
set_option maxRecDepth 100000
open Go.RowKit

/-- an element's slice is what it was -/
theorem Kd.elN {w w' : World} {s : Kv} {ps : List Pd} (h : Kd w s ps) (hf : Fr Non w w') (j : Nat) (hj : j < ps.length) :
    ∃ a t, s.A = some a ∧ PCells w' (a.add (j * 9)) ps[j].hd t ∧ Kd w t ps[j].kids ∧ I64b ps[j].hd.val.num := by
  obtain ⟨a, t, hA, hc, hk, hb⟩ := h.el j hj
  refine ⟨a, t, hA, ?_, hk, hb⟩
  obtain ⟨c0, c1, c2, c3, c4, c5, c6, c7, c8⟩ := hc
  have q : ∀ (p : Addr) (v : Value), w.cell? p = some v → w'.cell? p = some v := fun p v e => (hf.cell (World.block_lt_of_cell? w _ e) (fun e => e)).trans e
  exact ⟨q _ _ c0, q _ _ c1, q _ _ c2, q _ _ c3, q _ _ c4, q _ _ c5, q _ _ c6, q _ _ c7, q _ _ c8⟩

/-! ### How many -/
theorem sizeL_at {ks : List Pd} {k : Nat} (h : k < ks.length) (m : Int) (d : Nat) (n : Int) (hn : ¬ 16 < n) : sizeL (ks.drop k) m d n = sizeL (ks.drop (k + 1)) m d (n + sizeP ks[k] (m - n) d) := by
  rw [List.drop_eq_getElem_cons h, sizeL, if_neg hn]
theorem sizeL_end {ks : List Pd} {k : Nat} (h : ks.length ≤ k) (m : Int) (d : Nat) (n : Int) : sizeL (ks.drop k) m d n = n := by rw [List.drop_eq_nil_of_le h, sizeL]
set_option maxHeartbeats 2000000 in
theorem rsize_any (p : Pd) : ∀ (t : Kv) (m : Int) (d : Nat) (dz : Int) (w : World), dz = d → Kd w t p.kids → bigP p = true → -100 ≤ m → m ≤ 16 → d ≤ 100 →
    Calls Tryz.prog 63 #[pdV p.hd t, .int .i64 m, .int .i64 dz] w fun e w' => e = .returned (.int .i64 (sizeP p m d)) ∧ Fr Non w w' := by
  induction p using Pd.ind with
  | h hd ks ih =>
    intro t m d dz w hdz hk hlen hm1 hm2 hd1
    subst hdz
    have hn : t.n = ks.length := hk.len
    have hls := (bigP_mk hlen).1
    have F0 : Fr Non w (w.alloc (.cells (pdC hd t) 28)) := (Fr.refl Non w).alloc _
    have HB := Lib.hid (pd_new w _ hd t rfl)
    have HS : Hid (¬ (d < 1 ∨ m < 1) → sizeP (.mk hd ks) m d = sizeL ks m (d - 1) 1) := Lib.hid (fun h => by rw [sizeP, if_neg h])
    have HS0 : Hid ((d < 1 ∨ m < 1) → sizeP (.mk hd ks) m d = 17) := Lib.hid (fun h => by rw [sizeP, if_pos h])
    have HBd : Hid (∀ (k : Nat) (h : k < ks.length) (m' : Int), m' ≤ 16 → 1 ≤ sizeP ks[k] m' (d - 1) ∧ sizeP ks[k] m' (d - 1) ≤ 17 + 17 * (d - 1 : Nat)) := Lib.hid (fun k h m' hm' => (size_is ks[k] m' (d - 1) hm').2.2)
    have IH : Hid (1 ≤ d → ∀ k (h : k < ks.length) (W : World) (t' : Kv) (m' : Int), Kd W t' ks[k].kids → -100 ≤ m' → m' ≤ 16 →
        Calls Tryz.prog 63 #[pdV ks[k].hd t', .int .i64 m', .int .i64 ((d : Int) - 1)] W fun e w' => e = .returned (.int .i64 (sizeP ks[k] m' (d - 1))) ∧ Fr Non W w') :=
      Lib.hid (fun h1 k h W t' m' a b c => ih _ (List.getElem_mem h) t' m' (d - 1) _ W (by omega) a ((bigP_mk hlen).2.2.2.2 _ (List.getElem_mem h)) b c (by omega))
    generalize sizeP (.mk hd ks) m d = r at *
    have HK : Hid (Kd w t ks) := Lib.hid hk
    have HF := Lib.hid F0
    clear ih hk hlen F0
    obtain ⟨ho, hc, hm, ⟨vn, vi, vt⟩, hkd, hp⟩ := hd
    obtain ⟨A, n, c⟩ := t
    dsimp only at hn
    unfold pdV pdC kidV
    dsimp only [Pd.hd, Pd.kids]
    have HL := Lib.hid hn
    have hn20 : n ≤ 1000 := by omega
    clear hn hls
    by_cases h1 : d < 1
    · have HE := Lib.hid (HS0.out (.inl h1))
      clear HS HS0
      go_enter Tryz.func63, Tryz.ntmps63
      go_wp2
      go_ret
      exact ⟨ret_int HE.out.symm, HF.out⟩
    · by_cases h2 : m < 1
      · have HE := Lib.hid (HS0.out (.inr h2))
        clear HS HS0
        go_enter Tryz.func63, Tryz.ntmps63
        go_wp2
        go_ret
        exact ⟨ret_int HE.out.symm, HF.out⟩
      · have HE := Lib.hid (HS.out (by omega))
        have IH := Lib.hid (IH.out (by omega))
        clear HS HS0
        go_enter Tryz.func63, Tryz.ntmps63
        go_wp2
        go_loopw [7, 8] (fun v i wr => ∃ (k : Nat) (q : Int), k ≤ n ∧ i = .int .i64 k ∧ v = .int .i64 q ∧ 1 ≤ q ∧ q ≤ 4000 ∧ Hid (r = sizeL (ks.drop k) m (d - 1) q) ∧ Hid (Fr Non (w.alloc (.cells (pdC ⟨ho, hc, hm, ⟨vn, vi, vt⟩, hkd, hp⟩ ⟨A, n, c⟩) 28)) wr)) (fun _ i _ => n - (intOf i).toNat)
        case atStart => exact ⟨0, 1, Nat.zero_le _, rfl, rfl, by omega, by omega, HE, Lib.hid (Fr.refl _ _)⟩
        case round =>
          clear HE
          obtain ⟨k, q, hk, rfl, rfl, hq1, hq2, HE, FR⟩ := hrel
          have b8 := (HB.out.fr FR.out (fun e => e)).cell 8
          simp [pdC, kidV] at b8
          have HFw := Lib.hid (HF.out.trans FR.out)
          by_cases hlt : k < n
          · by_cases hq : q ≤ 16
            · have hlt2 : k < ks.length := by have := HL.out; omega
              obtain ⟨a, t, hA, hc2, hkk, _⟩ := HK.out.elN HFw.out k hlt2
              have HC := Lib.hid (IH.out k hlt2 wr t (m - q) (hkk.non HFw.out) (by omega) (by omega))
              have HY := Lib.hid (HE.out.trans (sizeL_at hlt2 m (d - 1) q (by omega)))
              have hbd := HBd.out k hlt2 (m - q) (by omega)
              have hs1 : 1 ≤ sizeP ks[k] (m - q) (d - 1) := hbd.1
              have hs2 : sizeP ks[k] (m - q) (d - 1) ≤ 3000 := by omega
              dsimp only at hA
              subst hA
              obtain ⟨c0, c1, c2, c3, c4, c5, c6, c7, c8⟩ := hc2
              clear hkk HE hbd
              generalize sizeP ks[k] (m - q) (d - 1) = z at *
              generalize ks[k].hd = x at *
              obtain ⟨xo, xc, xm, ⟨xn, xi, xt⟩, xk, xp⟩ := x
              obtain ⟨tA, tn, tc⟩ := t
              unfold pdV pdC kidV at HC
              dsimp only at HC c0 c1 c2 c3 c4 c5 c6 c7 c8
              go_wp2_with fail
              refine HC.out.mono ?_
              rintro e w2 ⟨rfl, f2⟩
              go_wp2
              go_roundw
              case rel => exact ⟨k + 1, q + z, by omega, by go_num, by go_num, by omega, by omega, HY, Lib.hid (FR.out.trans f2)⟩
              case measure => simp [intOf]; omega
            · have HE2 : Hid (r = q) := Lib.hid (HE.out.trans (sizeL_big _ m (d - 1) q (by omega)))
              clear HE
              go_wp2
              go_ret
              exact ⟨ret_int HE2.out.symm, HFw.out⟩
          · have HE2 : Hid (r = q) := Lib.hid (HE.out.trans (sizeL_end (by have := HL.out; omega) m (d - 1) q))
            clear HE
            go_wp2
            go_ret
            exact ⟨ret_int HE2.out.symm, HFw.out⟩

/-! ### One -/
/-- but for those within -/
def baseOk (h : Ph) (n : Nat) : Bool :=
  if h.op = 1 then decide (n = 0) && peq h ⟨h.op, [], 0, zCl, 0, []⟩
  else if h.op = 2 then nameB h.col && decide (1 ≤ h.cmp ∧ h.cmp ≤ 6) && mayC h.kind false h.val && decide (n = 0) && peq h ⟨h.op, h.col, h.cmp, h.val, h.kind, []⟩
  else if h.op = 3 then nameB h.col && decide (n = 0) && peq h ⟨h.op, h.col, 0, zCl, 0, []⟩
  else if h.op = 4 then nameB h.col && decide (h.pat.length ≤ 40) && decide (n = 0) && peq h ⟨h.op, h.col, 0, zCl, 0, h.pat⟩
  else if h.op = 5 then decide (n = 1) && peq h ⟨h.op, [], 0, zCl, 0, []⟩
  else if h.op = 6 ∨ h.op = 7 then decide (1 < n) && peq h ⟨h.op, [], 0, zCl, 0, []⟩
  else false
def okk (op : Int) (x : Pd) : Bool := oneP x && !(decide (6 ≤ op) && x.hd.op == op)
theorem all_okk (op : Int) (l : List Pd) : l.all (okk op) = (l.all oneP && !(decide (6 ≤ op) && kidOp op l)) := by
  unfold kidOp
  induction l with
  | nil => simp
  | cons x l ih =>
    rw [List.all_cons, List.all_cons, List.any_cons, ih]
    unfold okk
    cases oneP x <;> cases decide (6 ≤ op) <;> cases (x.hd.op == op) <;> cases l.all oneP <;> cases l.any (fun k => k.hd.op == op) <;> rfl
theorem one_base (h : Ph) (ks : List Pd) (n : Nat) (hn : n = ks.length) : oneP (.mk h ks) = (baseOk h n && ks.all (okk h.op)) := by
  subst hn
  rw [oneP, oneL_all, all_okk]
  unfold hdOk baseOk bareH askOk peq
  by_cases h1 : h.op = 1
  · rw [if_pos h1, if_pos h1, decide_eq_false (show ¬ 6 ≤ h.op by omega)]; simp
  · rw [if_neg h1, if_neg h1]
    by_cases h2 : h.op = 2
    · rw [if_pos (.inl h2), if_pos h2, if_pos h2, decide_eq_false (show ¬ 6 ≤ h.op by omega)]
      simp only [Bool.false_and, Bool.not_false, Bool.and_true]
      congr 1
      cases nameB h.col <;> cases decide (1 ≤ h.cmp ∧ h.cmp ≤ 6) <;> cases mayC h.kind false h.val <;> cases decide (ks.length = 0) <;> simp
    · rw [if_neg h2, if_neg h2]
      by_cases h3 : h.op = 3
      · rw [if_pos (.inr (.inl h3)), if_pos h3, if_neg (show ¬ h.op = 4 by omega), decide_eq_false (show ¬ 6 ≤ h.op by omega)]
        simp only [Bool.false_and, Bool.not_false, Bool.and_true]
        congr 1
        cases nameB h.col <;> cases decide (ks.length = 0) <;> simp
      · rw [if_neg h3]
        by_cases h4 : h.op = 4
        · rw [if_pos (.inr (.inr h4)), if_pos h4, if_pos h4, decide_eq_false (show ¬ 6 ≤ h.op by omega)]
          simp only [Bool.false_and, Bool.not_false, Bool.and_true]
          congr 1
          cases nameB h.col <;> cases decide (h.pat.length ≤ 40) <;> cases decide (ks.length = 0) <;> simp
        · rw [if_neg (by omega), if_neg h4]
          by_cases h5 : h.op = 5
          · rw [if_pos h5, if_pos h5, decide_eq_false (show ¬ 6 ≤ h.op by omega)]; simp
          · rw [if_neg h5, if_neg h5]
            by_cases h6 : h.op = 6 ∨ h.op = 7
            · rw [if_pos h6, if_pos h6, decide_eq_true (show 6 ≤ h.op by omega)]
              simp only [Bool.true_and]
              cases kidOp h.op ks <;> cases ks.all oneP <;> simp
            · rw [if_neg h6, if_neg h6]; rfl
theorem all_no {op : Int} {ks : List Pd} {k : Nat} (h : k < ks.length) (hb : okk op ks[k] = false) : ks.all (okk op) = false := by
  rw [List.all_eq_false]; exact ⟨_, List.getElem_mem h, by rw [hb]; simp⟩
theorem all_yes {op : Int} {ks : List Pd} {k : Nat} (h : ks.length ≤ k) (hb : ∀ j (h : j < ks.length), j < k → okk op ks[j] = true) : ks.all (okk op) = true := by
  rw [List.all_eq_true]
  intro x hx
  obtain ⟨j, hj, rfl⟩ := List.mem_iff_getElem.1 hx
  exact hb j hj (by omega)
theorem okk_more {op : Int} {ks : List Pd} {k : Nat} (hb : ∀ j (h : j < ks.length), j < k → okk op ks[j] = true) (h : k < ks.length) (hk : okk op ks[k] = true) : ∀ j (h : j < ks.length), j < k + 1 → okk op ks[j] = true := by
  intro j hj hlt
  by_cases e : j = k
  · subst e; exact hk
  · exact hb j hj (by omega)

theorem three_new (w : World) (g : Nat) (a b d : Ph) (s t u : Kv) (hg : w.heap.size = g) :
    PdB (((w.alloc (.cells (pdC a s) 28)).alloc (.cells (pdC b t) 28)).alloc (.cells (pdC d u) 28)) g a s ∧
    PdB (((w.alloc (.cells (pdC a s) 28)).alloc (.cells (pdC b t) 28)).alloc (.cells (pdC d u) 28)) (g + 1) b t ∧
    PdB (((w.alloc (.cells (pdC a s) 28)).alloc (.cells (pdC b t) 28)).alloc (.cells (pdC d u) 28)) (g + 1 + 1) d u := by
  have h := pd2_new w g a b s t hg.symm
  refine ⟨h.1.fr ((Fr.refl Non _).alloc _) (fun e => e), h.2.fr ((Fr.refl Non _).alloc _) (fun e => e), pd_new _ _ d u (by simp; omega)⟩

set_option maxHeartbeats 8000000 in
theorem rone1_any (h0_ : Ph) (ks : List Pd) (t : Kv) (w : World) (hop : h0_.op = 1) (hk : Kd w t ks) (hl : ks.length ≤ 1000) (hcl : h0_.col.length ≤ 1000)
    (IH : Hid (∀ k (h : k < ks.length) (W : World) (t' : Kv), Kd W t' ks[k].kids → Calls Tryz.prog 64 #[pdV ks[k].hd t'] W fun e w' => e = .returned (.bool (oneP ks[k])) ∧ Fr Non W w')) :
    Calls Tryz.prog 64 #[pdV h0_ t] w fun e w' => e = .returned (.bool (oneP (.mk h0_ ks))) ∧ Fr Non w w' := by
  have hn : t.n = ks.length := hk.len
  have N1 := Lib.hid (fun W => rname_any h0_.col W (by omega))
  have M1 := Lib.hid (fun W => rmay_any h0_.kind false h0_.val W)
  have HE := Lib.hid (one_base h0_ ks t.n hn)
  generalize oneP (.mk h0_ ks) = r at *
  have HK : Hid (Kd w t ks) := Lib.hid hk
  have PB0 : Hid (∀ b d, PdB (((w.alloc (.cells (pdC h0_ t) 28)).alloc b).alloc d) w.heap.size h0_ t) := Lib.hid (fun b d => (pd_new w _ h0_ t rfl).fr (((Fr.refl Non _).alloc b).alloc d) (fun e => e))
  obtain ⟨op, col, cmp, ⟨vn, vi, vt⟩, kind, pat⟩ := h0_
  obtain ⟨A, n, c⟩ := t
  dsimp only at hn hop hcl HE
  have HL := Lib.hid hn
  have hn20 : n ≤ 1000 := by omega
  have hs := slen pat
  clear hn hk hl
  unfold pdV pdC kidV
  unfold clV clC at M1
  dsimp only at *
  subst hop
  have FL := Lib.hid (fun W => flat_any ⟨1, col, cmp, ⟨vn, vi, vt⟩, kind, pat⟩ ⟨1, [], 0, zCl, 0, []⟩ noKv noKv W)
  have HE0 : Hid (r = (baseOk ⟨1, col, cmp, ⟨vn, vi, vt⟩, kind, pat⟩ n && ks.all (okk 1))) := HE
  clear HE
  unfold pdV pdC kidV noKv at FL
  replace HE0 : Hid (r = (decide (n = 0) && peq ⟨1, col, cmp, ⟨vn, vi, vt⟩, kind, pat⟩ ⟨1, [], 0, zCl, 0, []⟩ && ks.all (okk 1))) := HE0
  generalize peq ⟨1, col, cmp, ⟨vn, vi, vt⟩, kind, pat⟩ ⟨1, [], 0, zCl, 0, []⟩ = q at *
  unfold zCl at FL
  dsimp only at FL
  clear N1 M1
  by_cases h0 : n = 0
  · subst h0
    have HE1 : Hid (r = (q && ks.all (okk 1))) := Lib.hid (by rw [HE0.out]; simp)
    clear HE0
    have HE0 := HE1
    clear HE1
    go_enter Tryz.func64, Tryz.ntmps64
    go_wp2_with fail
    refine (FL.out _).mono ?_
    rintro e w1 ⟨rfl, f1⟩
    have F1 := Lib.hid ((((((Fr.refl Non w).alloc _).alloc _).alloc _)).trans f1)
    have PB := Lib.hid (((PB0.out _ _)).fr f1 (fun e => e))
    have HK1 := HK
    obtain ⟨g0, g1, g2, g3, g4, g5, g6, g7, g8⟩ := pdB_cells PB.out
    dsimp only at g0 g1 g2 g3 g4 g5 g6 g7 g8
    clear f1 HK1
    cases q
    · go_wp2
      go_ret
      exact ⟨ret_boolE (by rw [HE0.out]; simp), F1.out⟩
    · have HE : Hid (r = ks.all (okk 1)) := Lib.hid (by rw [HE0.out]; simp)
      clear HE0
      go_wp2
      go_loopw [5] (fun i wr => ∃ k : Nat, k ≤ 0 ∧ i = .int .i64 k ∧ Hid (∀ j (h : j < ks.length), j < k → okk 1 ks[j] = true) ∧ Hid (Fr Non w1 wr)) (fun i _ => 0 - (intOf i).toNat)
      case atStart => exact ⟨0, Nat.zero_le _, rfl, Lib.hid (fun _ _ h => by omega), Lib.hid (Fr.refl _ _)⟩
      case round =>
        clear g0 g1 g2 g3 g4 g5 g6 g7 g8
        obtain ⟨k, hk, rfl, HT, FR⟩ := hrel
        have FW := Lib.hid (F1.out.trans FR.out)
        by_cases hlt : k < 0
        · exact absurd hlt (by omega)
        · have b8 := (PB.out.fr FR.out (fun e => e)).cell 8
          simp [pdC, kidV] at b8
          have HE2 := Lib.hid (all_yes (op := 1) (by have := HL.out; omega) HT.out)
          clear HT
          go_wp2
          go_ret
          exact ⟨ret_boolE (by rw [HE.out, HE2.out]), FW.out⟩
  · have HE1 : Hid (r = false) := Lib.hid (by rw [HE0.out, decide_eq_false h0]; simp)
    have hb : 0 < n := by omega
    clear HE0 h0
    go_enter Tryz.func64, Tryz.ntmps64
    go_wp2
    go_ret
    exact ⟨ret_boolE HE1.out.symm, (((Fr.refl Non w).alloc _).alloc _).alloc _⟩

set_option maxHeartbeats 8000000 in
theorem rone2_any (h0_ : Ph) (ks : List Pd) (t : Kv) (w : World) (hop : h0_.op = 2) (hk : Kd w t ks) (hl : ks.length ≤ 1000) (hcl : h0_.col.length ≤ 1000)
    (IH : Hid (∀ k (h : k < ks.length) (W : World) (t' : Kv), Kd W t' ks[k].kids → Calls Tryz.prog 64 #[pdV ks[k].hd t'] W fun e w' => e = .returned (.bool (oneP ks[k])) ∧ Fr Non W w')) :
    Calls Tryz.prog 64 #[pdV h0_ t] w fun e w' => e = .returned (.bool (oneP (.mk h0_ ks))) ∧ Fr Non w w' := by
  have hn : t.n = ks.length := hk.len
  have N1 := Lib.hid (fun W => rname_any h0_.col W (by omega))
  have M1 := Lib.hid (fun W => rmay_any h0_.kind false h0_.val W)
  have HE := Lib.hid (one_base h0_ ks t.n hn)
  generalize oneP (.mk h0_ ks) = r at *
  have HK : Hid (Kd w t ks) := Lib.hid hk
  have PB0 : Hid (∀ b d, PdB (((w.alloc (.cells (pdC h0_ t) 28)).alloc b).alloc d) w.heap.size h0_ t) := Lib.hid (fun b d => (pd_new w _ h0_ t rfl).fr (((Fr.refl Non _).alloc b).alloc d) (fun e => e))
  obtain ⟨op, col, cmp, ⟨vn, vi, vt⟩, kind, pat⟩ := h0_
  obtain ⟨A, n, c⟩ := t
  dsimp only at hn hop hcl HE
  have HL := Lib.hid hn
  have hn20 : n ≤ 1000 := by omega
  have hs := slen pat
  clear hn hk hl
  unfold pdV pdC kidV
  unfold clV clC at M1
  dsimp only at *
  subst hop
  have FL := Lib.hid (fun W => flat_any ⟨2, col, cmp, ⟨vn, vi, vt⟩, kind, pat⟩ ⟨2, col, cmp, ⟨vn, vi, vt⟩, kind, []⟩ noKv noKv W)
  have HE0 : Hid (r = (baseOk ⟨2, col, cmp, ⟨vn, vi, vt⟩, kind, pat⟩ n && ks.all (okk 2))) := HE
  clear HE
  unfold pdV pdC kidV noKv at FL
  replace HE0 : Hid (r = (nameB col && decide (1 ≤ cmp ∧ cmp ≤ 6) && mayC kind false ⟨vn, vi, vt⟩ && decide (n = 0) && peq ⟨2, col, cmp, ⟨vn, vi, vt⟩, kind, pat⟩ ⟨2, col, cmp, ⟨vn, vi, vt⟩, kind, []⟩ && ks.all (okk 2))) := HE0
  generalize peq ⟨2, col, cmp, ⟨vn, vi, vt⟩, kind, pat⟩ ⟨2, col, cmp, ⟨vn, vi, vt⟩, kind, []⟩ = q at *
  dsimp only at FL
  generalize nameB col = b1 at *
  generalize mayC kind false ⟨vn, vi, vt⟩ = b2 at *
  cases b1
  · have HE1 : Hid (r = false) := Lib.hid (by rw [HE0.out]; simp)
    clear HE0
    go_enter Tryz.func64, Tryz.ntmps64
    go_wp2_with fail
    refine (N1.out _).mono ?_
    rintro e wn ⟨rfl, fn⟩
    go_wp2
    go_ret
    exact ⟨ret_boolE HE1.out.symm, ((((Fr.refl Non w).alloc _).alloc _).alloc _).trans fn⟩
  · by_cases h1 : 1 ≤ cmp
    · by_cases h6 : cmp ≤ 6
      · cases b2
        · have HE1 : Hid (r = false) := Lib.hid (by rw [HE0.out]; simp)
          clear HE0
          go_enter Tryz.func64, Tryz.ntmps64
          go_wp2_with fail
          refine (N1.out _).mono ?_
          rintro e wn ⟨rfl, fn⟩
          have FN : Hid (Fr Non w wn) := Lib.hid (((((Fr.refl Non w).alloc _).alloc _).alloc _).trans fn)
          have Q := three_new w w.heap.size ⟨2, col, cmp, ⟨vn, vi, vt⟩, kind, pat⟩ ⟨2, col, cmp, ⟨vn, vi, vt⟩, kind, pat⟩ ⟨2, col, cmp, ⟨vn, vi, vt⟩, kind, []⟩ ⟨A, n, c⟩ noKv noKv rfl
          have PBn : Hid (PdB wn w.heap.size ⟨2, col, cmp, ⟨vn, vi, vt⟩, kind, pat⟩ ⟨A, n, c⟩) := Lib.hid (Q.1.fr fn (fun e => e))
          have PB3 : Hid (PdB wn (w.heap.size + 1) ⟨2, col, cmp, ⟨vn, vi, vt⟩, kind, pat⟩ noKv) := Lib.hid (Q.2.1.fr fn (fun e => e))
          have PB4 : Hid (PdB wn (w.heap.size + 1 + 1) ⟨2, col, cmp, ⟨vn, vi, vt⟩, kind, []⟩ noKv) := Lib.hid (Q.2.2.fr fn (fun e => e))
          clear Q fn
          obtain ⟨g0, g1, g2, g3, g4, g5, g6, g7, g8⟩ := pdB_cells PBn.out
          dsimp only at g0 g1 g2 g3 g4 g5 g6 g7 g8
          obtain ⟨d0, d1, d2, d3, d4, d5, d6, d7, d8⟩ := pdB_cells PB3.out
          obtain ⟨e0, e1, e2, e3, e4, e5, e6, e7, e8⟩ := pdB_cells PB4.out
          dsimp only at d0 d1 d2 d3 d4 d5 d6 d7 d8 e0 e1 e2 e3 e4 e5 e6 e7 e8
          go_wp2_with fail
          refine (M1.out _).mono ?_
          rintro e wm ⟨rfl, fm⟩
          go_wp2
          go_ret
          exact ⟨ret_boolE HE1.out.symm, FN.out.trans fm⟩
        · have HE9 : Hid (r = (decide (n = 0) && q && ks.all (okk 2))) := Lib.hid (by rw [HE0.out, decide_eq_true (show 1 ≤ cmp ∧ cmp ≤ 6 from ⟨h1, h6⟩)]; simp)
          clear HE0
          have HE0 := HE9
          clear HE9
          by_cases h0 : n = 0
          · subst h0
            have HE1 : Hid (r = (q && ks.all (okk 2))) := Lib.hid (by rw [HE0.out]; simp)
            clear HE0
            have HE0 := HE1
            clear HE1
            go_enter Tryz.func64, Tryz.ntmps64
            go_wp2_with fail
            refine (N1.out _).mono ?_
            rintro e wn ⟨rfl, fn⟩
            have FN : Hid (Fr Non w wn) := Lib.hid (((((Fr.refl Non w).alloc _).alloc _).alloc _).trans fn)
            have Q := three_new w w.heap.size ⟨2, col, cmp, ⟨vn, vi, vt⟩, kind, pat⟩ ⟨2, col, cmp, ⟨vn, vi, vt⟩, kind, pat⟩ ⟨2, col, cmp, ⟨vn, vi, vt⟩, kind, []⟩ ⟨A, 0, c⟩ noKv noKv rfl
            have PBn : Hid (PdB wn w.heap.size ⟨2, col, cmp, ⟨vn, vi, vt⟩, kind, pat⟩ ⟨A, 0, c⟩) := Lib.hid (Q.1.fr fn (fun e => e))
            have PB3 : Hid (PdB wn (w.heap.size + 1) ⟨2, col, cmp, ⟨vn, vi, vt⟩, kind, pat⟩ noKv) := Lib.hid (Q.2.1.fr fn (fun e => e))
            have PB4 : Hid (PdB wn (w.heap.size + 1 + 1) ⟨2, col, cmp, ⟨vn, vi, vt⟩, kind, []⟩ noKv) := Lib.hid (Q.2.2.fr fn (fun e => e))
            clear Q fn
            obtain ⟨g0, g1, g2, g3, g4, g5, g6, g7, g8⟩ := pdB_cells PBn.out
            dsimp only at g0 g1 g2 g3 g4 g5 g6 g7 g8
            obtain ⟨d0, d1, d2, d3, d4, d5, d6, d7, d8⟩ := pdB_cells PB3.out
            obtain ⟨e0, e1, e2, e3, e4, e5, e6, e7, e8⟩ := pdB_cells PB4.out
            dsimp only at d0 d1 d2 d3 d4 d5 d6 d7 d8 e0 e1 e2 e3 e4 e5 e6 e7 e8
            go_wp2_with fail
            refine (M1.out _).mono ?_
            rintro e wm ⟨rfl, fm⟩
            have FM := Lib.hid (FN.out.trans fm)
            have PBm := Lib.hid (PBn.out.fr fm (fun e => e))
            have PB5 := Lib.hid (PB3.out.fr fm (fun e => e))
            have PB6 := Lib.hid (PB4.out.fr fm (fun e => e))
            clear g0 g1 g2 g3 g4 g5 g6 g7 g8 d0 d1 d2 d3 d4 d5 d6 d7 d8 e0 e1 e2 e3 e4 e5 e6 e7 e8 fm
            obtain ⟨g0, g1, g2, g3, g4, g5, g6, g7, g8⟩ := pdB_cells PBm.out
            obtain ⟨d0, d1, d2, d3, d4, d5, d6, d7, d8⟩ := pdB_cells PB5.out
            obtain ⟨e0, e1, e2, e3, e4, e5, e6, e7, e8⟩ := pdB_cells PB6.out
            dsimp only at g0 g1 g2 g3 g4 g5 g6 g7 g8 d0 d1 d2 d3 d4 d5 d6 d7 d8 e0 e1 e2 e3 e4 e5 e6 e7 e8
            go_wp2_with fail
            refine (FL.out _).mono ?_
            rintro e w1 ⟨rfl, f1⟩
            have F1 := Lib.hid ((FM.out).trans f1)
            have PB := Lib.hid ((PBm.out).fr f1 (fun e => e))
            have HK1 := HK
            obtain ⟨g0, g1, g2, g3, g4, g5, g6, g7, g8⟩ := pdB_cells PB.out
            dsimp only at g0 g1 g2 g3 g4 g5 g6 g7 g8
            clear f1 HK1
            cases q
            · go_wp2
              go_ret
              exact ⟨ret_boolE (by rw [HE0.out]; simp), F1.out⟩
            · have HE : Hid (r = ks.all (okk 2)) := Lib.hid (by rw [HE0.out]; simp)
              clear HE0
              go_wp2
              go_loopw [5] (fun i wr => ∃ k : Nat, k ≤ 0 ∧ i = .int .i64 k ∧ Hid (∀ j (h : j < ks.length), j < k → okk 2 ks[j] = true) ∧ Hid (Fr Non w1 wr)) (fun i _ => 0 - (intOf i).toNat)
              case atStart => exact ⟨0, Nat.zero_le _, rfl, Lib.hid (fun _ _ h => by omega), Lib.hid (Fr.refl _ _)⟩
              case round =>
                clear g0 g1 g2 g3 g4 g5 g6 g7 g8
                obtain ⟨k, hk, rfl, HT, FR⟩ := hrel
                have FW := Lib.hid (F1.out.trans FR.out)
                by_cases hlt : k < 0
                · exact absurd hlt (by omega)
                · have b8 := (PB.out.fr FR.out (fun e => e)).cell 8
                  simp [pdC, kidV] at b8
                  have HE2 := Lib.hid (all_yes (op := 2) (by have := HL.out; omega) HT.out)
                  clear HT
                  go_wp2
                  go_ret
                  exact ⟨ret_boolE (by rw [HE.out, HE2.out]), FW.out⟩
          · have HE1 : Hid (r = false) := Lib.hid (by rw [HE0.out, decide_eq_false h0]; simp)
            have hb : 0 < n := by omega
            clear HE0 h0
            go_enter Tryz.func64, Tryz.ntmps64
            go_wp2_with fail
            refine (N1.out _).mono ?_
            rintro e wn ⟨rfl, fn⟩
            have FN : Hid (Fr Non w wn) := Lib.hid (((((Fr.refl Non w).alloc _).alloc _).alloc _).trans fn)
            have Q := three_new w w.heap.size ⟨2, col, cmp, ⟨vn, vi, vt⟩, kind, pat⟩ ⟨2, col, cmp, ⟨vn, vi, vt⟩, kind, pat⟩ ⟨2, col, cmp, ⟨vn, vi, vt⟩, kind, []⟩ ⟨A, n, c⟩ noKv noKv rfl
            have PBn : Hid (PdB wn w.heap.size ⟨2, col, cmp, ⟨vn, vi, vt⟩, kind, pat⟩ ⟨A, n, c⟩) := Lib.hid (Q.1.fr fn (fun e => e))
            have PB3 : Hid (PdB wn (w.heap.size + 1) ⟨2, col, cmp, ⟨vn, vi, vt⟩, kind, pat⟩ noKv) := Lib.hid (Q.2.1.fr fn (fun e => e))
            have PB4 : Hid (PdB wn (w.heap.size + 1 + 1) ⟨2, col, cmp, ⟨vn, vi, vt⟩, kind, []⟩ noKv) := Lib.hid (Q.2.2.fr fn (fun e => e))
            clear Q fn
            obtain ⟨g0, g1, g2, g3, g4, g5, g6, g7, g8⟩ := pdB_cells PBn.out
            dsimp only at g0 g1 g2 g3 g4 g5 g6 g7 g8
            obtain ⟨d0, d1, d2, d3, d4, d5, d6, d7, d8⟩ := pdB_cells PB3.out
            obtain ⟨e0, e1, e2, e3, e4, e5, e6, e7, e8⟩ := pdB_cells PB4.out
            dsimp only at d0 d1 d2 d3 d4 d5 d6 d7 d8 e0 e1 e2 e3 e4 e5 e6 e7 e8
            go_wp2_with fail
            refine (M1.out _).mono ?_
            rintro e wm ⟨rfl, fm⟩
            have FM := Lib.hid (FN.out.trans fm)
            have PBm := Lib.hid (PBn.out.fr fm (fun e => e))
            have PB5 := Lib.hid (PB3.out.fr fm (fun e => e))
            have PB6 := Lib.hid (PB4.out.fr fm (fun e => e))
            clear g0 g1 g2 g3 g4 g5 g6 g7 g8 d0 d1 d2 d3 d4 d5 d6 d7 d8 e0 e1 e2 e3 e4 e5 e6 e7 e8 fm
            obtain ⟨g0, g1, g2, g3, g4, g5, g6, g7, g8⟩ := pdB_cells PBm.out
            obtain ⟨d0, d1, d2, d3, d4, d5, d6, d7, d8⟩ := pdB_cells PB5.out
            obtain ⟨e0, e1, e2, e3, e4, e5, e6, e7, e8⟩ := pdB_cells PB6.out
            dsimp only at g0 g1 g2 g3 g4 g5 g6 g7 g8 d0 d1 d2 d3 d4 d5 d6 d7 d8 e0 e1 e2 e3 e4 e5 e6 e7 e8
            go_wp2
            go_ret
            exact ⟨ret_boolE HE1.out.symm, FM.out⟩
      · have HE1 : Hid (r = false) := Lib.hid (by rw [HE0.out, decide_eq_false (show ¬ (1 ≤ cmp ∧ cmp ≤ 6) from fun e => h6 e.2)]; simp)
        clear HE0
        go_enter Tryz.func64, Tryz.ntmps64
        go_wp2_with fail
        refine (N1.out _).mono ?_
        rintro e wn ⟨rfl, fn⟩
        have FN : Hid (Fr Non w wn) := Lib.hid (((((Fr.refl Non w).alloc _).alloc _).alloc _).trans fn)
        have Q := three_new w w.heap.size ⟨2, col, cmp, ⟨vn, vi, vt⟩, kind, pat⟩ ⟨2, col, cmp, ⟨vn, vi, vt⟩, kind, pat⟩ ⟨2, col, cmp, ⟨vn, vi, vt⟩, kind, []⟩ ⟨A, n, c⟩ noKv noKv rfl
        have PBn : Hid (PdB wn w.heap.size ⟨2, col, cmp, ⟨vn, vi, vt⟩, kind, pat⟩ ⟨A, n, c⟩) := Lib.hid (Q.1.fr fn (fun e => e))
        have PB3 : Hid (PdB wn (w.heap.size + 1) ⟨2, col, cmp, ⟨vn, vi, vt⟩, kind, pat⟩ noKv) := Lib.hid (Q.2.1.fr fn (fun e => e))
        have PB4 : Hid (PdB wn (w.heap.size + 1 + 1) ⟨2, col, cmp, ⟨vn, vi, vt⟩, kind, []⟩ noKv) := Lib.hid (Q.2.2.fr fn (fun e => e))
        clear Q fn
        obtain ⟨g0, g1, g2, g3, g4, g5, g6, g7, g8⟩ := pdB_cells PBn.out
        dsimp only at g0 g1 g2 g3 g4 g5 g6 g7 g8
        obtain ⟨d0, d1, d2, d3, d4, d5, d6, d7, d8⟩ := pdB_cells PB3.out
        obtain ⟨e0, e1, e2, e3, e4, e5, e6, e7, e8⟩ := pdB_cells PB4.out
        dsimp only at d0 d1 d2 d3 d4 d5 d6 d7 d8 e0 e1 e2 e3 e4 e5 e6 e7 e8
        go_wp2
        go_ret
        exact ⟨ret_boolE HE1.out.symm, FN.out⟩
    · have HE1 : Hid (r = false) := Lib.hid (by rw [HE0.out, decide_eq_false (show ¬ (1 ≤ cmp ∧ cmp ≤ 6) from fun e => h1 e.1)]; simp)
      clear HE0
      go_enter Tryz.func64, Tryz.ntmps64
      go_wp2_with fail
      refine (N1.out _).mono ?_
      rintro e wn ⟨rfl, fn⟩
      have FN : Hid (Fr Non w wn) := Lib.hid (((((Fr.refl Non w).alloc _).alloc _).alloc _).trans fn)
      have Q := three_new w w.heap.size ⟨2, col, cmp, ⟨vn, vi, vt⟩, kind, pat⟩ ⟨2, col, cmp, ⟨vn, vi, vt⟩, kind, pat⟩ ⟨2, col, cmp, ⟨vn, vi, vt⟩, kind, []⟩ ⟨A, n, c⟩ noKv noKv rfl
      have PBn : Hid (PdB wn w.heap.size ⟨2, col, cmp, ⟨vn, vi, vt⟩, kind, pat⟩ ⟨A, n, c⟩) := Lib.hid (Q.1.fr fn (fun e => e))
      have PB3 : Hid (PdB wn (w.heap.size + 1) ⟨2, col, cmp, ⟨vn, vi, vt⟩, kind, pat⟩ noKv) := Lib.hid (Q.2.1.fr fn (fun e => e))
      have PB4 : Hid (PdB wn (w.heap.size + 1 + 1) ⟨2, col, cmp, ⟨vn, vi, vt⟩, kind, []⟩ noKv) := Lib.hid (Q.2.2.fr fn (fun e => e))
      clear Q fn
      obtain ⟨g0, g1, g2, g3, g4, g5, g6, g7, g8⟩ := pdB_cells PBn.out
      dsimp only at g0 g1 g2 g3 g4 g5 g6 g7 g8
      obtain ⟨d0, d1, d2, d3, d4, d5, d6, d7, d8⟩ := pdB_cells PB3.out
      obtain ⟨e0, e1, e2, e3, e4, e5, e6, e7, e8⟩ := pdB_cells PB4.out
      dsimp only at d0 d1 d2 d3 d4 d5 d6 d7 d8 e0 e1 e2 e3 e4 e5 e6 e7 e8
      go_wp2
      go_ret
      exact ⟨ret_boolE HE1.out.symm, FN.out⟩

set_option maxHeartbeats 8000000 in
theorem rone3_any (h0_ : Ph) (ks : List Pd) (t : Kv) (w : World) (hop : h0_.op = 3) (hk : Kd w t ks) (hl : ks.length ≤ 1000) (hcl : h0_.col.length ≤ 1000)
    (IH : Hid (∀ k (h : k < ks.length) (W : World) (t' : Kv), Kd W t' ks[k].kids → Calls Tryz.prog 64 #[pdV ks[k].hd t'] W fun e w' => e = .returned (.bool (oneP ks[k])) ∧ Fr Non W w')) :
    Calls Tryz.prog 64 #[pdV h0_ t] w fun e w' => e = .returned (.bool (oneP (.mk h0_ ks))) ∧ Fr Non w w' := by
  have hn : t.n = ks.length := hk.len
  have N1 := Lib.hid (fun W => rname_any h0_.col W (by omega))
  have M1 := Lib.hid (fun W => rmay_any h0_.kind false h0_.val W)
  have HE := Lib.hid (one_base h0_ ks t.n hn)
  generalize oneP (.mk h0_ ks) = r at *
  have HK : Hid (Kd w t ks) := Lib.hid hk
  have PB0 : Hid (∀ b d, PdB (((w.alloc (.cells (pdC h0_ t) 28)).alloc b).alloc d) w.heap.size h0_ t) := Lib.hid (fun b d => (pd_new w _ h0_ t rfl).fr (((Fr.refl Non _).alloc b).alloc d) (fun e => e))
  obtain ⟨op, col, cmp, ⟨vn, vi, vt⟩, kind, pat⟩ := h0_
  obtain ⟨A, n, c⟩ := t
  dsimp only at hn hop hcl HE
  have HL := Lib.hid hn
  have hn20 : n ≤ 1000 := by omega
  have hs := slen pat
  clear hn hk hl
  unfold pdV pdC kidV
  unfold clV clC at M1
  dsimp only at *
  subst hop
  have FL := Lib.hid (fun W => flat_any ⟨3, col, cmp, ⟨vn, vi, vt⟩, kind, pat⟩ ⟨3, col, 0, zCl, 0, []⟩ noKv noKv W)
  have HE0 : Hid (r = (baseOk ⟨3, col, cmp, ⟨vn, vi, vt⟩, kind, pat⟩ n && ks.all (okk 3))) := HE
  clear HE
  unfold pdV pdC kidV noKv at FL
  replace HE0 : Hid (r = (nameB col && decide (n = 0) && peq ⟨3, col, cmp, ⟨vn, vi, vt⟩, kind, pat⟩ ⟨3, col, 0, zCl, 0, []⟩ && ks.all (okk 3))) := HE0
  generalize peq ⟨3, col, cmp, ⟨vn, vi, vt⟩, kind, pat⟩ ⟨3, col, 0, zCl, 0, []⟩ = q at *
  unfold zCl at FL
  dsimp only at FL
  clear M1
  generalize nameB col = b1 at *
  cases b1
  · have HE1 : Hid (r = false) := Lib.hid (by rw [HE0.out]; simp)
    clear HE0
    go_enter Tryz.func64, Tryz.ntmps64
    go_wp2_with fail
    refine (N1.out _).mono ?_
    rintro e wn ⟨rfl, fn⟩
    go_wp2
    go_ret
    exact ⟨ret_boolE HE1.out.symm, ((((Fr.refl Non w).alloc _).alloc _).alloc _).trans fn⟩
  · have HE9 : Hid (r = (decide (n = 0) && q && ks.all (okk 3))) := Lib.hid (by rw [HE0.out]; simp)
    clear HE0
    have HE0 := HE9
    clear HE9
    by_cases h0 : n = 0
    · subst h0
      have HE1 : Hid (r = (q && ks.all (okk 3))) := Lib.hid (by rw [HE0.out]; simp)
      clear HE0
      have HE0 := HE1
      clear HE1
      go_enter Tryz.func64, Tryz.ntmps64
      go_wp2_with fail
      refine (N1.out _).mono ?_
      rintro e wn ⟨rfl, fn⟩
      have FN : Hid (Fr Non w wn) := Lib.hid (((((Fr.refl Non w).alloc _).alloc _).alloc _).trans fn)
      have Q := three_new w w.heap.size ⟨3, col, cmp, ⟨vn, vi, vt⟩, kind, pat⟩ ⟨3, col, cmp, ⟨vn, vi, vt⟩, kind, pat⟩ ⟨3, col, 0, ⟨false, 0, []⟩, 0, []⟩ ⟨A, 0, c⟩ noKv noKv rfl
      have PBn : Hid (PdB wn w.heap.size ⟨3, col, cmp, ⟨vn, vi, vt⟩, kind, pat⟩ ⟨A, 0, c⟩) := Lib.hid (Q.1.fr fn (fun e => e))
      have PB3 : Hid (PdB wn (w.heap.size + 1) ⟨3, col, cmp, ⟨vn, vi, vt⟩, kind, pat⟩ noKv) := Lib.hid (Q.2.1.fr fn (fun e => e))
      have PB4 : Hid (PdB wn (w.heap.size + 1 + 1) ⟨3, col, 0, ⟨false, 0, []⟩, 0, []⟩ noKv) := Lib.hid (Q.2.2.fr fn (fun e => e))
      clear Q fn
      obtain ⟨g0, g1, g2, g3, g4, g5, g6, g7, g8⟩ := pdB_cells PBn.out
      dsimp only at g0 g1 g2 g3 g4 g5 g6 g7 g8
      obtain ⟨d0, d1, d2, d3, d4, d5, d6, d7, d8⟩ := pdB_cells PB3.out
      obtain ⟨e0, e1, e2, e3, e4, e5, e6, e7, e8⟩ := pdB_cells PB4.out
      dsimp only at d0 d1 d2 d3 d4 d5 d6 d7 d8 e0 e1 e2 e3 e4 e5 e6 e7 e8
      go_wp2_with fail
      refine (FL.out _).mono ?_
      rintro e w1 ⟨rfl, f1⟩
      have F1 := Lib.hid ((FN.out).trans f1)
      have PB := Lib.hid ((PBn.out).fr f1 (fun e => e))
      have HK1 := HK
      obtain ⟨g0, g1, g2, g3, g4, g5, g6, g7, g8⟩ := pdB_cells PB.out
      dsimp only at g0 g1 g2 g3 g4 g5 g6 g7 g8
      clear f1 HK1
      cases q
      · go_wp2
        go_ret
        exact ⟨ret_boolE (by rw [HE0.out]; simp), F1.out⟩
      · have HE : Hid (r = ks.all (okk 3)) := Lib.hid (by rw [HE0.out]; simp)
        clear HE0
        go_wp2
        go_loopw [5] (fun i wr => ∃ k : Nat, k ≤ 0 ∧ i = .int .i64 k ∧ Hid (∀ j (h : j < ks.length), j < k → okk 3 ks[j] = true) ∧ Hid (Fr Non w1 wr)) (fun i _ => 0 - (intOf i).toNat)
        case atStart => exact ⟨0, Nat.zero_le _, rfl, Lib.hid (fun _ _ h => by omega), Lib.hid (Fr.refl _ _)⟩
        case round =>
          clear g0 g1 g2 g3 g4 g5 g6 g7 g8
          obtain ⟨k, hk, rfl, HT, FR⟩ := hrel
          have FW := Lib.hid (F1.out.trans FR.out)
          by_cases hlt : k < 0
          · exact absurd hlt (by omega)
          · have b8 := (PB.out.fr FR.out (fun e => e)).cell 8
            simp [pdC, kidV] at b8
            have HE2 := Lib.hid (all_yes (op := 3) (by have := HL.out; omega) HT.out)
            clear HT
            go_wp2
            go_ret
            exact ⟨ret_boolE (by rw [HE.out, HE2.out]), FW.out⟩
    · have HE1 : Hid (r = false) := Lib.hid (by rw [HE0.out, decide_eq_false h0]; simp)
      have hb : 0 < n := by omega
      clear HE0 h0
      go_enter Tryz.func64, Tryz.ntmps64
      go_wp2_with fail
      refine (N1.out _).mono ?_
      rintro e wn ⟨rfl, fn⟩
      have FN : Hid (Fr Non w wn) := Lib.hid (((((Fr.refl Non w).alloc _).alloc _).alloc _).trans fn)
      have Q := three_new w w.heap.size ⟨3, col, cmp, ⟨vn, vi, vt⟩, kind, pat⟩ ⟨3, col, cmp, ⟨vn, vi, vt⟩, kind, pat⟩ ⟨3, col, 0, ⟨false, 0, []⟩, 0, []⟩ ⟨A, n, c⟩ noKv noKv rfl
      have PBn : Hid (PdB wn w.heap.size ⟨3, col, cmp, ⟨vn, vi, vt⟩, kind, pat⟩ ⟨A, n, c⟩) := Lib.hid (Q.1.fr fn (fun e => e))
      have PB3 : Hid (PdB wn (w.heap.size + 1) ⟨3, col, cmp, ⟨vn, vi, vt⟩, kind, pat⟩ noKv) := Lib.hid (Q.2.1.fr fn (fun e => e))
      have PB4 : Hid (PdB wn (w.heap.size + 1 + 1) ⟨3, col, 0, ⟨false, 0, []⟩, 0, []⟩ noKv) := Lib.hid (Q.2.2.fr fn (fun e => e))
      clear Q fn
      obtain ⟨g0, g1, g2, g3, g4, g5, g6, g7, g8⟩ := pdB_cells PBn.out
      dsimp only at g0 g1 g2 g3 g4 g5 g6 g7 g8
      obtain ⟨d0, d1, d2, d3, d4, d5, d6, d7, d8⟩ := pdB_cells PB3.out
      obtain ⟨e0, e1, e2, e3, e4, e5, e6, e7, e8⟩ := pdB_cells PB4.out
      dsimp only at d0 d1 d2 d3 d4 d5 d6 d7 d8 e0 e1 e2 e3 e4 e5 e6 e7 e8
      go_wp2
      go_ret
      exact ⟨ret_boolE HE1.out.symm, FN.out⟩

set_option maxHeartbeats 8000000 in
theorem rone4_any (h0_ : Ph) (ks : List Pd) (t : Kv) (w : World) (hop : h0_.op = 4) (hk : Kd w t ks) (hl : ks.length ≤ 1000) (hcl : h0_.col.length ≤ 1000)
    (IH : Hid (∀ k (h : k < ks.length) (W : World) (t' : Kv), Kd W t' ks[k].kids → Calls Tryz.prog 64 #[pdV ks[k].hd t'] W fun e w' => e = .returned (.bool (oneP ks[k])) ∧ Fr Non W w')) :
    Calls Tryz.prog 64 #[pdV h0_ t] w fun e w' => e = .returned (.bool (oneP (.mk h0_ ks))) ∧ Fr Non w w' := by
  have hn : t.n = ks.length := hk.len
  have N1 := Lib.hid (fun W => rname_any h0_.col W (by omega))
  have M1 := Lib.hid (fun W => rmay_any h0_.kind false h0_.val W)
  have HE := Lib.hid (one_base h0_ ks t.n hn)
  generalize oneP (.mk h0_ ks) = r at *
  have HK : Hid (Kd w t ks) := Lib.hid hk
  have PB0 : Hid (∀ b d, PdB (((w.alloc (.cells (pdC h0_ t) 28)).alloc b).alloc d) w.heap.size h0_ t) := Lib.hid (fun b d => (pd_new w _ h0_ t rfl).fr (((Fr.refl Non _).alloc b).alloc d) (fun e => e))
  obtain ⟨op, col, cmp, ⟨vn, vi, vt⟩, kind, pat⟩ := h0_
  obtain ⟨A, n, c⟩ := t
  dsimp only at hn hop hcl HE
  have HL := Lib.hid hn
  have hn20 : n ≤ 1000 := by omega
  have hs := slen pat
  clear hn hk hl
  unfold pdV pdC kidV
  unfold clV clC at M1
  dsimp only at *
  subst hop
  have FL := Lib.hid (fun W => flat_any ⟨4, col, cmp, ⟨vn, vi, vt⟩, kind, pat⟩ ⟨4, col, 0, zCl, 0, pat⟩ noKv noKv W)
  have HE0 : Hid (r = (baseOk ⟨4, col, cmp, ⟨vn, vi, vt⟩, kind, pat⟩ n && ks.all (okk 4))) := HE
  clear HE
  unfold pdV pdC kidV noKv at FL
  replace HE0 : Hid (r = (nameB col && decide (pat.length ≤ 40) && decide (n = 0) && peq ⟨4, col, cmp, ⟨vn, vi, vt⟩, kind, pat⟩ ⟨4, col, 0, zCl, 0, pat⟩ && ks.all (okk 4))) := HE0
  generalize peq ⟨4, col, cmp, ⟨vn, vi, vt⟩, kind, pat⟩ ⟨4, col, 0, zCl, 0, pat⟩ = q at *
  unfold zCl at FL
  dsimp only at FL
  clear M1
  generalize nameB col = b1 at *
  cases b1
  · have HE1 : Hid (r = false) := Lib.hid (by rw [HE0.out]; simp)
    clear HE0
    go_enter Tryz.func64, Tryz.ntmps64
    go_wp2_with fail
    refine (N1.out _).mono ?_
    rintro e wn ⟨rfl, fn⟩
    go_wp2
    go_ret
    exact ⟨ret_boolE HE1.out.symm, ((((Fr.refl Non w).alloc _).alloc _).alloc _).trans fn⟩
  · by_cases h40 : pat.length ≤ 40
    · have hpl : ¬ 40 < pat.length := by omega
      have HE9 : Hid (r = (decide (n = 0) && q && ks.all (okk 4))) := Lib.hid (by rw [HE0.out, decide_eq_true h40]; simp)
      clear HE0
      have HE0 := HE9
      clear HE9
      by_cases h0 : n = 0
      · subst h0
        have HE1 : Hid (r = (q && ks.all (okk 4))) := Lib.hid (by rw [HE0.out]; simp)
        clear HE0
        have HE0 := HE1
        clear HE1
        go_enter Tryz.func64, Tryz.ntmps64
        go_wp2_with fail
        refine (N1.out _).mono ?_
        rintro e wn ⟨rfl, fn⟩
        have FN : Hid (Fr Non w wn) := Lib.hid (((((Fr.refl Non w).alloc _).alloc _).alloc _).trans fn)
        have Q := three_new w w.heap.size ⟨4, col, cmp, ⟨vn, vi, vt⟩, kind, pat⟩ ⟨4, col, cmp, ⟨vn, vi, vt⟩, kind, pat⟩ ⟨4, col, 0, ⟨false, 0, []⟩, 0, pat⟩ ⟨A, 0, c⟩ noKv noKv rfl
        have PBn : Hid (PdB wn w.heap.size ⟨4, col, cmp, ⟨vn, vi, vt⟩, kind, pat⟩ ⟨A, 0, c⟩) := Lib.hid (Q.1.fr fn (fun e => e))
        have PB3 : Hid (PdB wn (w.heap.size + 1) ⟨4, col, cmp, ⟨vn, vi, vt⟩, kind, pat⟩ noKv) := Lib.hid (Q.2.1.fr fn (fun e => e))
        have PB4 : Hid (PdB wn (w.heap.size + 1 + 1) ⟨4, col, 0, ⟨false, 0, []⟩, 0, pat⟩ noKv) := Lib.hid (Q.2.2.fr fn (fun e => e))
        clear Q fn
        obtain ⟨g0, g1, g2, g3, g4, g5, g6, g7, g8⟩ := pdB_cells PBn.out
        dsimp only at g0 g1 g2 g3 g4 g5 g6 g7 g8
        obtain ⟨d0, d1, d2, d3, d4, d5, d6, d7, d8⟩ := pdB_cells PB3.out
        obtain ⟨e0, e1, e2, e3, e4, e5, e6, e7, e8⟩ := pdB_cells PB4.out
        dsimp only at d0 d1 d2 d3 d4 d5 d6 d7 d8 e0 e1 e2 e3 e4 e5 e6 e7 e8
        go_wp2_with fail
        refine (FL.out _).mono ?_
        rintro e w1 ⟨rfl, f1⟩
        have F1 := Lib.hid ((FN.out).trans f1)
        have PB := Lib.hid ((PBn.out).fr f1 (fun e => e))
        have HK1 := HK
        obtain ⟨g0, g1, g2, g3, g4, g5, g6, g7, g8⟩ := pdB_cells PB.out
        dsimp only at g0 g1 g2 g3 g4 g5 g6 g7 g8
        clear f1 HK1
        cases q
        · go_wp2
          go_ret
          exact ⟨ret_boolE (by rw [HE0.out]; simp), F1.out⟩
        · have HE : Hid (r = ks.all (okk 4)) := Lib.hid (by rw [HE0.out]; simp)
          clear HE0
          go_wp2
          go_loopw [5] (fun i wr => ∃ k : Nat, k ≤ 0 ∧ i = .int .i64 k ∧ Hid (∀ j (h : j < ks.length), j < k → okk 4 ks[j] = true) ∧ Hid (Fr Non w1 wr)) (fun i _ => 0 - (intOf i).toNat)
          case atStart => exact ⟨0, Nat.zero_le _, rfl, Lib.hid (fun _ _ h => by omega), Lib.hid (Fr.refl _ _)⟩
          case round =>
            clear g0 g1 g2 g3 g4 g5 g6 g7 g8
            obtain ⟨k, hk, rfl, HT, FR⟩ := hrel
            have FW := Lib.hid (F1.out.trans FR.out)
            by_cases hlt : k < 0
            · exact absurd hlt (by omega)
            · have b8 := (PB.out.fr FR.out (fun e => e)).cell 8
              simp [pdC, kidV] at b8
              have HE2 := Lib.hid (all_yes (op := 4) (by have := HL.out; omega) HT.out)
              clear HT
              go_wp2
              go_ret
              exact ⟨ret_boolE (by rw [HE.out, HE2.out]), FW.out⟩
      · have HE1 : Hid (r = false) := Lib.hid (by rw [HE0.out, decide_eq_false h0]; simp)
        have hb : 0 < n := by omega
        clear HE0 h0
        go_enter Tryz.func64, Tryz.ntmps64
        go_wp2_with fail
        refine (N1.out _).mono ?_
        rintro e wn ⟨rfl, fn⟩
        have FN : Hid (Fr Non w wn) := Lib.hid (((((Fr.refl Non w).alloc _).alloc _).alloc _).trans fn)
        have Q := three_new w w.heap.size ⟨4, col, cmp, ⟨vn, vi, vt⟩, kind, pat⟩ ⟨4, col, cmp, ⟨vn, vi, vt⟩, kind, pat⟩ ⟨4, col, 0, ⟨false, 0, []⟩, 0, pat⟩ ⟨A, n, c⟩ noKv noKv rfl
        have PBn : Hid (PdB wn w.heap.size ⟨4, col, cmp, ⟨vn, vi, vt⟩, kind, pat⟩ ⟨A, n, c⟩) := Lib.hid (Q.1.fr fn (fun e => e))
        have PB3 : Hid (PdB wn (w.heap.size + 1) ⟨4, col, cmp, ⟨vn, vi, vt⟩, kind, pat⟩ noKv) := Lib.hid (Q.2.1.fr fn (fun e => e))
        have PB4 : Hid (PdB wn (w.heap.size + 1 + 1) ⟨4, col, 0, ⟨false, 0, []⟩, 0, pat⟩ noKv) := Lib.hid (Q.2.2.fr fn (fun e => e))
        clear Q fn
        obtain ⟨g0, g1, g2, g3, g4, g5, g6, g7, g8⟩ := pdB_cells PBn.out
        dsimp only at g0 g1 g2 g3 g4 g5 g6 g7 g8
        obtain ⟨d0, d1, d2, d3, d4, d5, d6, d7, d8⟩ := pdB_cells PB3.out
        obtain ⟨e0, e1, e2, e3, e4, e5, e6, e7, e8⟩ := pdB_cells PB4.out
        dsimp only at d0 d1 d2 d3 d4 d5 d6 d7 d8 e0 e1 e2 e3 e4 e5 e6 e7 e8
        go_wp2
        go_ret
        exact ⟨ret_boolE HE1.out.symm, FN.out⟩
    · have hpl : 40 < pat.length := by omega
      have HE1 : Hid (r = false) := Lib.hid (by rw [HE0.out, decide_eq_false h40]; simp)
      clear HE0
      go_enter Tryz.func64, Tryz.ntmps64
      go_wp2_with fail
      refine (N1.out _).mono ?_
      rintro e wn ⟨rfl, fn⟩
      have FN : Hid (Fr Non w wn) := Lib.hid (((((Fr.refl Non w).alloc _).alloc _).alloc _).trans fn)
      have Q := three_new w w.heap.size ⟨4, col, cmp, ⟨vn, vi, vt⟩, kind, pat⟩ ⟨4, col, cmp, ⟨vn, vi, vt⟩, kind, pat⟩ ⟨4, col, 0, ⟨false, 0, []⟩, 0, pat⟩ ⟨A, n, c⟩ noKv noKv rfl
      have PBn : Hid (PdB wn w.heap.size ⟨4, col, cmp, ⟨vn, vi, vt⟩, kind, pat⟩ ⟨A, n, c⟩) := Lib.hid (Q.1.fr fn (fun e => e))
      have PB3 : Hid (PdB wn (w.heap.size + 1) ⟨4, col, cmp, ⟨vn, vi, vt⟩, kind, pat⟩ noKv) := Lib.hid (Q.2.1.fr fn (fun e => e))
      have PB4 : Hid (PdB wn (w.heap.size + 1 + 1) ⟨4, col, 0, ⟨false, 0, []⟩, 0, pat⟩ noKv) := Lib.hid (Q.2.2.fr fn (fun e => e))
      clear Q fn
      obtain ⟨g0, g1, g2, g3, g4, g5, g6, g7, g8⟩ := pdB_cells PBn.out
      dsimp only at g0 g1 g2 g3 g4 g5 g6 g7 g8
      obtain ⟨d0, d1, d2, d3, d4, d5, d6, d7, d8⟩ := pdB_cells PB3.out
      obtain ⟨e0, e1, e2, e3, e4, e5, e6, e7, e8⟩ := pdB_cells PB4.out
      dsimp only at d0 d1 d2 d3 d4 d5 d6 d7 d8 e0 e1 e2 e3 e4 e5 e6 e7 e8
      go_wp2
      go_ret
      exact ⟨ret_boolE HE1.out.symm, FN.out⟩
end Go.Proofs.YtipgaafgnefmdaaGreatDoor


namespace Go.Proofs.YtipgaafgnefmdaaGreatDoor
set_option linter.unusedVariables false
set_option linter.unusedSimpArgs false
set_option maxRecDepth 100000
open Go.RowKit

/-! ### The text -/
theorem tx_is (h : Ph) (ks : List Pd) : textP (.mk h ks) = textH h (textL ks) := by rw [textP]
theorem tx_2 {h : Ph} {ks : List Pd} (e : h.op = 2) : textP (.mk h ks) = h.col ++ [32] ++ markB h.cmp ++ [32] ++ valT h.kind h.val := by rw [tx_is]; unfold textH; rw [if_pos e]
theorem tx_3 {h : Ph} {ks : List Pd} (e : h.op = 3) : textP (.mk h ks) = h.col ++ [32, 105, 115, 32, 110, 117, 108, 108] := by rw [tx_is]; unfold textH; rw [if_neg (by omega), if_pos e]
theorem tx_5 {h : Ph} {k : Pd} {ks : List Pd} (e : h.op = 5) : textP (.mk h (k :: ks)) = [110, 111, 116, 32] ++ brkP [6, 7] k := by rw [tx_is]; unfold textH; rw [if_neg (by omega), if_neg (by omega), if_neg (by omega), if_pos e, textL]; rfl
theorem tx_7 {h : Ph} {ks : List Pd} (e : h.op = 7) : textP (.mk h ks) = Lib.join (ks.map (brkP [])) orT := by rw [tx_is]; unfold textH; rw [if_neg (by omega), if_neg (by omega), if_neg (by omega), if_neg (by omega), if_neg (by omega), if_pos e, textL_brk]
theorem Kd.num {w : World} {s : Kv} {ps : List Pd} (h : Kd w s ps) : numL ps := by
  induction h with
  | mk s ns ps hl hN hh hb hk ih =>
    rw [numL_all]
    intro p hp
    obtain ⟨j, hj, rfl⟩ := List.mem_iff_getElem.1 hp
    have e := ih j (by omega) hj
    have b := hb j hj
    generalize ps[j] = p at *
    obtain ⟨h, ks⟩ := p
    exact ⟨b, e⟩
end Go.Proofs.YtipgaafgnefmdaaGreatDoor


namespace Go.Proofs.YtipgaafgnefmdaaGreatDoor
set_option linter.unusedVariables false
set_option linter.unusedSimpArgs false
set_option maxRecDepth 100000
open Go.RowKit

/-! ### Asked of all: what is handed on may lie anew each time; of the predicates a condition -/
/-! ### Which names there are -/
/-! ### Where a text is -/
set_option maxHeartbeats 2000000 in
theorem pidxs_any (v : Value) (l : List Tx) (x : Tx) (w : World) (hv : Vs sv w v l) (hl : l.length ≤ 1000) :
    Calls Tryz.prog 116 #[v, .string ⟨x.toArray⟩] w fun e w' => ∃ z : Int, e = .returned (.int .i64 z) ∧ decide (0 ≤ z) = decide (x ∈ l) ∧ Fr Non w w' := by
  obtain ⟨A, c, rfl, hlc, hn, hcell⟩ := hv
  have HC := Lib.hid hcell
  have HN := Lib.hid hn
  clear hcell hn
  go_enter Tryz.func116, Tryz.ntmps116
  go_wp2
  go_loopw [8] (fun i wr => ∃ (k : Nat), k ≤ l.length ∧ i = .int .i64 k ∧ Hid (∀ j (h : j < l.length), j < k → l[j] ≠ x) ∧ Hid (Fr Non w wr)) (fun i _ => l.length - (intOf i).toNat)
  case atStart => exact ⟨0, Nat.zero_le _, rfl, Lib.hid (fun _ _ h => by omega), Lib.hid (Fr.refl _ _)⟩
  case round =>
    obtain ⟨k, hk, rfl, HT, FR⟩ := hrel
    by_cases hlt : k < l.length
    · cases A with
      | none => have := HN.out rfl; omega
      | some a =>
        have c0 := (FR.out.cell (World.block_lt_of_cell? _ _ (HC.out a rfl k hlt)) (fun e => e)).trans (HC.out a rfl k hlt)
        unfold sv at c0
        have HX : Hid (l[k] = x → x ∈ l) := Lib.hid (fun e => by rw [← e]; exact List.getElem_mem hlt)
        have HY : Hid (l[k] ≠ x → ∀ j (h : j < l.length), j < k + 1 → l[j] ≠ x) := Lib.hid (fun e j hj hjk => by
          by_cases ee : j = k
          · subst ee; exact e
          · exact HT.out j hj (by omega))
        clear HT
        generalize l[k] = y at *
        by_cases he : y = x
        · have HE := Lib.hid (HX.out he)
          subst he
          clear HX HY
          go_wp2
          go_ret
          exact ⟨_, rfl, by rw [decide_eq_true HE.out]; exact decide_eq_true (by omega), FR.out⟩
        · have hb : (x == y) = false := by rw [beq_eq_false_iff_ne]; exact fun e => he e.symm
          have HE := Lib.hid (HY.out he)
          clear HX HY he
          go_wp2
          go_roundw
          case rel => exact ⟨k + 1, by omega, by go_num, HE, FR⟩
          case measure => simp [intOf]; omega
    · have HE : Hid (¬ x ∈ l) := Lib.hid (fun hx => by
        obtain ⟨j, hj, e⟩ := List.mem_iff_getElem.1 hx
        exact HT.out j hj (by omega) e)
      clear HT
      go_wp2
      go_ret
      exact ⟨_, rfl, by rw [decide_eq_false HE.out]; rfl, FR.out⟩
theorem pconts_any (v : Value) (l : List Tx) (x : Tx) (w : World) (hv : Vs sv w v l) (hl : l.length ≤ 1000) :
    Calls Tryz.prog 99 #[v, .string ⟨x.toArray⟩] w fun e w' => e = .returned (.bool (decide (x ∈ l))) ∧ Fr Non w w' := by
  have h0 := Lib.hid (pidxs_any v l x w hv hl)
  obtain ⟨A, c, rfl⟩ := hv.shape
  clear hv
  go_enter Tryz.func99, Tryz.ntmps99
  go_wp2_with fail
  refine h0.out.mono ?_
  rintro e w1 ⟨z, rfl, hz, f1⟩
  go_wp2
  go_ret
  exact ⟨rfl, f1⟩

/-! ### The program's -/
end Go.Proofs.YtipgaafgnefmdaaGreatDoor


namespace Go.Proofs.YtipgaafgnefmdaaGreatDoor
set_option linter.unusedVariables false
set_option linter.unusedSimpArgs false
set_option maxRecDepth 100000
open Go.RowKit

theorem mynot_any (a : Ag) (w : World) (hl : a.col.length ≤ 1000000000) :
    Calls Tryz.prog 78 #[agV a] w fun e w' => e = .returned (.bool (!agB a)) ∧ Fr Non w w' := by
  have N := fun W => sname_any a.col W hl
  have HF : Hid (Fr Non w (w.alloc (.cells #[.int .i64 a.op, .string ⟨a.col.toArray⟩] 69))) := Lib.hid ((Fr.refl Non w).alloc _)
  have HE0 : Hid (agB a = if a.op = 1 then decide (a.col = []) else decide (2 ≤ a.op ∧ a.op ≤ 5) && nameB a.col) := Lib.hid rfl
  obtain ⟨o, c⟩ := a
  unfold agV
  dsimp only at *
  generalize agB _ = r at *
  by_cases h1 : o = 1
  · subst h1
    clear N
    by_cases h0 : c = []
    · subst h0
      have HE : Hid (r = true) := Lib.hid (by rw [HE0.out]; rfl)
      clear HE0
      go_enter Tryz.func78, Tryz.ntmps78
      go_wp2
      go_ret
      exact ⟨ret_boolE (by rw [HE.out]; rfl), HF.out⟩
    · have hb : (c == []) = false := by rw [beq_eq_false_iff_ne]; exact h0
      have HE : Hid (r = false) := Lib.hid (by rw [HE0.out, if_pos rfl]; exact decide_eq_false h0)
      clear HE0 h0
      go_enter Tryz.func78, Tryz.ntmps78
      go_wp2
      go_ret
      exact ⟨ret_boolE (by rw [HE.out]; rfl), HF.out⟩
  · have hb1 : (o == 1) = false := by rw [beq_eq_false_iff_ne]; exact h1
    by_cases h2 : o < 2
    · have HE : Hid (r = false) := Lib.hid (by rw [HE0.out, if_neg h1, decide_eq_false (by omega)]; rfl)
      clear HE0 N
      go_enter Tryz.func78, Tryz.ntmps78
      go_wp2
      go_ret
      exact ⟨ret_boolE (by rw [HE.out]; rfl), HF.out⟩
    · by_cases h5 : 5 < o
      · have HE : Hid (r = false) := Lib.hid (by rw [HE0.out, if_neg h1, decide_eq_false (by omega)]; rfl)
        clear HE0 N
        go_enter Tryz.func78, Tryz.ntmps78
        go_wp2
        go_ret
        exact ⟨ret_boolE (by rw [HE.out]; rfl), HF.out⟩
      · have HE : Hid (r = nameB c) := Lib.hid (by rw [HE0.out, if_neg h1, decide_eq_true (by omega)]; rfl)
        generalize nameB c = b at *
        clear HE0
        replace N := Lib.hid N
        go_enter Tryz.func78, Tryz.ntmps78
        go_wp2_with fail
        refine (N.out _).mono ?_
        rintro e w1 ⟨rfl, f1⟩
        go_wp2
        go_ret
        exact ⟨ret_boolE (by rw [HE.out]), HF.out.trans f1⟩

def badA (a : Ag) : Bool := !agB a
theorem any_moreG {α : Type} {p : α → Bool} {l : List α} {k : Nat} (h : k < l.length) (h1 : (l.take k).any p = false) (h2 : p l[k] = false) : (l.take (k + 1)).any p = false := by
  rw [List.take_succ_eq_append_getElem h, List.any_append, h1]; simp [h2]
theorem any_allG {α : Type} {p : α → Bool} {l : List α} : (l.any fun a => !p a) = !(l.all p) := by
  induction l with
  | nil => rfl
  | cons x l ih => rw [List.any_cons, List.all_cons, ih]; cases p x <;> rfl
theorem gidx_any (v : Value) (l : List Ag) (w : World) (hv : Gs w v l) (hl : l.length ≤ 1000000000) (hb : ∀ c ∈ l, c.col.length ≤ 1000000000) :
    Calls Tryz.prog 100 #[v, .func (.func 78) #[] #[]] w fun e w' => ∃ z : Int, e = .returned (.int .i64 z) ∧ decide (0 ≤ z) = l.any badA ∧ Fr Non w w' := by
  obtain ⟨A, c, rfl, hlc, hn, hcell⟩ := hv
  have HC := Lib.hid hcell
  have HN := Lib.hid hn
  have HB := Lib.hid hb
  clear hcell hn hb
  go_enter Tryz.func100, Tryz.ntmps100
  go_wp2
  go_loopw [8] (fun i wr => ∃ (k : Nat), k ≤ l.length ∧ i = .int .i64 k ∧ Hid ((l.take k).any badA = false) ∧ Fr Non w wr) (fun i _ => l.length - (intOf i).toNat)
  case atStart => exact ⟨0, Nat.zero_le _, rfl, Lib.hid rfl, Fr.refl _ _⟩
  case round =>
    obtain ⟨k, hk, rfl, hne, hfr⟩ := hrel
    by_cases hlt : k < l.length
    · cases A with
      | none => have := HN.out rfl; omega
      | some a =>
        obtain ⟨hc0, hc1⟩ := ag_lit ((HC.out a rfl k hlt).non hfr)
        have HY := Lib.hid (fun h => any_moreG hlt hne.out h)
        have HX : Hid (badA l[k] = true → l.any badA = true) := Lib.hid (fun h => List.any_eq_true.2 ⟨_, List.getElem_mem hlt, h⟩)
        have M := fun W => mynot_any l[k] W (HB.out _ (List.getElem_mem hlt))
        clear hne
        change ∀ W, Calls _ _ _ W (fun e w' => e = .returned (.bool (badA l[k])) ∧ Fr Non W w') at M
        generalize l[k] = x at *
        obtain ⟨xo, xn⟩ := x
        unfold agV at M
        dsimp only at hc0 hc1 HY HX M
        have HF := Lib.hid hfr
        clear hfr
        cases hx : badA ⟨xo, xn⟩
        · have HE := Lib.hid (HY.out hx)
          simp only [hx] at M
          replace M := Lib.hid M
          clear HX HY hx
          go_wp2_with fail
          refine (M.out _).mono ?_
          rintro e w2 ⟨rfl, f2⟩
          go_wp2
          go_roundw
          case rel => exact ⟨k + 1, by omega, by go_num, HE, HF.out.trans f2⟩
          case measure => simp [intOf]; omega
        · have HE := Lib.hid (HX.out hx)
          simp only [hx] at M
          replace M := Lib.hid M
          clear HX HY hx
          go_wp2_with fail
          refine (M.out _).mono ?_
          rintro e w2 ⟨rfl, f2⟩
          go_wp2
          go_ret
          exact ⟨_, rfl, by rw [HE.out]; exact decide_eq_true (by omega), HF.out.trans f2⟩
    · have HE : Hid (l.any badA = false) := Lib.hid (by have := hne.out; rwa [List.take_of_length_le (by omega)] at this)
      clear hne
      go_wp2
      go_ret
      exact ⟨_, rfl, by rw [HE.out]; rfl, hfr⟩
theorem gconts_any (v : Value) (l : List Ag) (w : World) (hv : Gs w v l) (hl : l.length ≤ 1000000000) (hb : ∀ c ∈ l, c.col.length ≤ 1000000000) :
    Calls Tryz.prog 77 #[v, .func (.func 78) #[] #[]] w fun e w' => e = .returned (.bool (!(l.all agB))) ∧ Fr Non w w' := by
  have h0 := Lib.hid (gidx_any v l w hv hl hb)
  obtain ⟨A, c, rfl⟩ := hv.shape
  clear hv hb
  go_enter Tryz.func77, Tryz.ntmps77
  go_wp2_with fail
  refine h0.out.mono ?_
  rintro e w1 ⟨z, rfl, hz, f1⟩
  go_wp2
  go_ret
  exact ⟨ret_boolE any_allG, f1⟩

/-! ### Names, each once -/
def unlK (l : List Tx) (k : Nat) : Prop := (l.take k).all nameB = true ∧ (l.take k).Nodup
theorem unlK_zero (l : List Tx) : unlK l 0 := ⟨rfl, List.nodup_nil⟩
theorem unlK_more {l : List Tx} {k : Nat} (h : k < l.length) (hu : unlK l k) (h1 : nameB l[k] = true) (h2 : ¬ l[k] ∈ l.take k) : unlK l (k + 1) := by
  unfold unlK
  rw [List.take_succ_eq_append_getElem h, List.all_append, List.nodup_append, hu.1]
  refine ⟨by simp [h1], hu.2, by simp, fun a ha b hb e => ?_⟩
  obtain rfl := List.mem_singleton.1 hb
  exact h2 (e ▸ ha)
theorem unlK_all {l : List Tx} {k : Nat} (h : l.length ≤ k) (hu : unlK l k) : unlB l = true := by
  unfold unlK at hu
  rw [List.take_of_length_le h] at hu
  unfold unlB
  rw [hu.1, decide_eq_true hu.2]; rfl
theorem unl_bad {l : List Tx} {k : Nat} (h : k < l.length) (h1 : nameB l[k] = false) : unlB l = false := by
  unfold unlB
  have : l.all nameB = false := by
    rw [List.all_eq_false]
    exact ⟨_, List.getElem_mem h, by rw [h1]; simp⟩
  rw [this]; rfl
theorem unl_dup {l : List Tx} {k : Nat} (h : k < l.length) (h1 : l[k] ∈ l.take k) : unlB l = false := by
  unfold unlB
  have : ¬ l.Nodup := by
    intro hn
    obtain ⟨j, hj, e⟩ := List.mem_iff_getElem.1 h1
    rw [List.length_take] at hj
    rw [List.getElem_take] at e
    have := (List.getElem_inj hn).1 e
    omega
  rw [decide_eq_false this, Bool.and_false]
set_option maxHeartbeats 1000000 in
theorem unln_any (v : Value) (l : List Tx) (w : World) (hv : Vs sv w v l) (hl : l.length ≤ 1000) (hb : ∀ x ∈ l, x.length ≤ 1000000000) :
    Calls Tryz.prog 76 #[v] w fun e w' => e = .returned (.bool (unlB l)) ∧ Fr Non w w' := by
  have HV := Lib.hid hv
  obtain ⟨A, c, rfl, hlc, hn, hcell⟩ := hv
  have HC := Lib.hid hcell
  have HN := Lib.hid hn
  have HB := Lib.hid hb
  have HLC := Lib.hid hlc
  clear hcell hn hb hlc
  go_enter Tryz.func76, Tryz.ntmps76
  go_wp2
  go_loopw [7] (fun i wr => ∃ (k : Nat), k ≤ l.length ∧ i = .int .i64 k ∧ Hid (unlK l k) ∧ Hid (Fr Non w wr)) (fun i _ => l.length - (intOf i).toNat)
  case atStart => exact ⟨0, Nat.zero_le _, rfl, Lib.hid (unlK_zero l), Lib.hid (Fr.refl _ _)⟩
  case round =>
    obtain ⟨k, hk, rfl, HT, FR⟩ := hrel
    by_cases hlt : k < l.length
    · cases A with
      | none => have := HN.out rfl; have := HLC.out; omega
      | some a =>
        have c0 := (FR.out.cell (World.block_lt_of_cell? _ _ (HC.out a rfl k hlt)) (fun e => e)).trans (HC.out a rfl k hlt)
        unfold sv at c0
        have HX := Lib.hid (fun e => unl_bad hlt e)
        have HX2 := Lib.hid (fun e => unl_dup hlt e)
        have HY := Lib.hid (fun e e2 => unlK_more hlt HT.out e e2)
        have N := Lib.hid (fun W => sname_any l[k] W (HB.out _ (List.getElem_mem hlt)))
        obtain ⟨A', c', hrun, hvs, -⟩ := slice_hiG el_str (some a) l.length c k .i64 (k : Int) rfl (by omega) HLC.out
        have HP := Lib.hid (fun W (hf : Fr Non w W) => pconts_any _ (l.take k) l[k] W (hvs sv W l rfl (HV.out.non hf)) (by rw [List.length_take]; omega))
        clear HT hvs
        generalize l[k] = y at *
        generalize l.take k = m at *
        cases hy : nameB y
        · have HE := Lib.hid (HX.out hy)
          rw [hy] at N
          clear HX HX2 HY HP hy hrun
          go_wp2_with fail
          refine (N.out _).mono ?_
          rintro e w1 ⟨rfl, f1⟩
          go_wp2
          go_ret
          exact ⟨ret_boolE HE.out.symm, FR.out.trans f1⟩
        · by_cases hin : y ∈ m
          · have HE := Lib.hid (HX2.out hin)
            rw [hy] at N
            rw [decide_eq_true hin] at HP
            clear HX HX2 HY hy hin
            go_wp2_with fail
            refine (N.out _).mono ?_
            rintro e w1 ⟨rfl, f1⟩
            have F1 := Lib.hid (FR.out.trans f1)
            clear f1
            go_wp2_with fail
            refine (HP.out _ F1.out).mono ?_
            rintro e w2 ⟨rfl, f2⟩
            go_wp2
            go_ret
            exact ⟨ret_boolE HE.out.symm, F1.out.trans f2⟩
          · have HE := Lib.hid (HY.out hy hin)
            rw [hy] at N
            rw [decide_eq_false hin] at HP
            clear HX HX2 HY hy hin
            go_wp2_with fail
            refine (N.out _).mono ?_
            rintro e w1 ⟨rfl, f1⟩
            have F1 := Lib.hid (FR.out.trans f1)
            clear f1
            go_wp2_with fail
            refine (HP.out _ F1.out).mono ?_
            rintro e w2 ⟨rfl, f2⟩
            go_wp2
            go_roundw
            case rel => exact ⟨k + 1, by omega, by go_num, HE, Lib.hid (F1.out.trans f2)⟩
            case measure => simp [intOf]; omega
    · have HE := Lib.hid (unlK_all (by omega) HT.out)
      clear HT
      go_wp2
      go_ret
      exact ⟨ret_boolE HE.out.symm, FR.out⟩
end Go.Proofs.YtipgaafgnefmdaaGreatDoor


namespace Go.Proofs.YtipgaafgnefmdaaGreatDoor
set_option linter.unusedVariables false
set_option linter.unusedSimpArgs false
set_option maxRecDepth 100000
open Go.RowKit

set_option maxHeartbeats 1000000 in
theorem mplain_any (q : Qy) (c : Value) (s : Kv) (g : Value) (w : World) (hq : QyS w q c s g) (hs : BgQ q) :
    Calls Tryz.prog 51 #[qyV q c s g] w fun e w' => e = .returned (.bool (plainQ q)) ∧ Fr Non w w' := by
  have Q0 := Lib.hid (Qin.new hq)
  have U := Lib.hid (fun W (h : QyS W q c s g) => unln_any c q.cols W h.cols (by have := hs.cols; omega) (fun x hx => by have := hs.names x hx; omega))
  have HE0 : Hid (plainQ q = (decide (q.aggs.length = 0) && (decide (q.by_ = []) && (decide (q.cols.length ≤ 6) && unlB q.cols)))) := Lib.hid rfl
  have hlc := hs.cols
  have hlg := hs.aggs
  generalize plainQ q = r at *
  generalize unlB q.cols = bu at *
  obtain ⟨cA, cc, hce⟩ := hq.cols.shape
  obtain ⟨gA, gc, hge⟩ := hq.aggs.shape
  clear hq hs
  obtain ⟨tab, cols, ⟨⟨wo, wc, wm, ⟨wn, wi, wt⟩, wk, wp⟩, wks⟩, aggs, by_⟩ := q
  obtain ⟨sA, sn, sc⟩ := s
  dsimp only at hce hge
  subst hce
  subst hge
  unfold qyV qyC kidV at *
  dsimp only [Pd.hd, Pd.kids] at *
  by_cases ha : aggs.length = 0
  · have hab : ((aggs.length : Int) == 0) = true := by rw [beq_iff_eq]; omega
    by_cases hb : by_ = []
    · subst hb
      by_cases h6 : cols.length ≤ 6
      · have HE : Hid (r = bu) := Lib.hid (by rw [HE0.out, decide_eq_true ha, decide_eq_true h6]; rfl)
        clear HE0 ha
        go_enter Tryz.func51, Tryz.ntmps51
        go_wp2_with fail
        refine (U.out _ Q0.out.sls).mono ?_
        rintro e w1 ⟨rfl, f1⟩
        go_wp2
        go_ret
        exact ⟨ret_boolE HE.out.symm, Q0.out.fr.trans f1⟩
      · have HE : Hid (r = false) := Lib.hid (by rw [HE0.out, decide_eq_false h6]; simp)
        clear HE0 ha U
        go_enter Tryz.func51, Tryz.ntmps51
        go_wp2
        go_ret
        exact ⟨ret_boolE HE.out.symm, Q0.out.fr⟩
    · have hbb : (by_ == []) = false := by rw [beq_eq_false_iff_ne]; exact hb
      have HE : Hid (r = false) := Lib.hid (by rw [HE0.out, decide_eq_false hb]; simp)
      clear HE0 ha U hb
      go_enter Tryz.func51, Tryz.ntmps51
      go_wp2
      go_ret
      exact ⟨ret_boolE HE.out.symm, Q0.out.fr⟩
  · have hab : ((aggs.length : Int) == 0) = false := by rw [beq_eq_false_iff_ne]; omega
    have HE : Hid (r = false) := Lib.hid (by rw [HE0.out, decide_eq_false ha]; rfl)
    clear HE0 U
    go_enter Tryz.func51, Tryz.ntmps51
    go_wp2
    go_ret
    exact ⟨ret_boolE HE.out.symm, Q0.out.fr⟩

set_option maxHeartbeats 1000000 in
theorem mfold_any (q : Qy) (c : Value) (s : Kv) (g : Value) (w : World) (hq : QyS w q c s g) (hs : BgQ q) :
    Calls Tryz.prog 52 #[qyV q c s g] w fun e w' => e = .returned (.bool (foldQ q)) ∧ Fr Non w w' := by
  have Q0 := Lib.hid (Qin.new hq)
  have G := Lib.hid (fun W (h : QyS W q c s g) => gconts_any g q.aggs W h.aggs (by have := hs.aggs; omega) (fun x hx => by have := hs.acol x hx; omega))
  have N := Lib.hid (fun W => sname_any q.by_ W (by have := hs.by_; omega))
  have HE0 : Hid (foldQ q = (decide (0 < q.aggs.length) && (decide (q.aggs.length ≤ 4) && (q.aggs.all agB && (decide (q.cols.length = 0) && (decide (q.by_ = []) || nameB q.by_)))))) := Lib.hid rfl
  have hlc := hs.cols
  have hlg := hs.aggs
  generalize foldQ q = r at *
  generalize q.aggs.all agB = ba at *
  generalize nameB q.by_ = bn at *
  obtain ⟨cA, cc, hce⟩ := hq.cols.shape
  obtain ⟨gA, gc, hge⟩ := hq.aggs.shape
  clear hq hs
  obtain ⟨tab, cols, ⟨⟨wo, wc, wm, ⟨wn, wi, wt⟩, wk, wp⟩, wks⟩, aggs, by_⟩ := q
  obtain ⟨sA, sn, sc⟩ := s
  dsimp only at hce hge
  subst hce
  subst hge
  unfold qyV qyC kidV at *
  dsimp only [Pd.hd, Pd.kids] at *
  by_cases ha : aggs.length = 0
  · have HE : Hid (r = false) := Lib.hid (by rw [HE0.out, decide_eq_false (by omega)]; rfl)
    have ha0 : (aggs.length : Int) ≤ 0 := by omega
    clear HE0 G N ha
    go_enter Tryz.func52, Tryz.ntmps52
    go_wp2
    go_ret
    exact ⟨ret_boolE HE.out.symm, Q0.out.fr⟩
  · by_cases h4 : aggs.length ≤ 4
    · cases ba
      · have HE : Hid (r = false) := Lib.hid (by rw [HE0.out]; simp)
        clear HE0 N
        go_enter Tryz.func52, Tryz.ntmps52
        go_wp2_with fail
        refine (G.out _ Q0.out.sls).mono ?_
        rintro e w1 ⟨rfl, f1⟩
        have Q1 := Lib.hid (Q0.out.non f1)
        clear f1
        go_wp2
        go_ret
        exact ⟨ret_boolE HE.out.symm, Q1.out.fr⟩
      · by_cases hc : cols.length = 0
        · have hcb : ((cols.length : Int) == 0) = true := by rw [beq_iff_eq]; omega
          by_cases hb : by_ = []
          · have HE : Hid (r = true) := Lib.hid (by rw [HE0.out, decide_eq_true (show 0 < aggs.length by omega), decide_eq_true h4, decide_eq_true hc, decide_eq_true hb]; rfl)
            clear HE0 N hc
            subst hb
            go_enter Tryz.func52, Tryz.ntmps52
            go_wp2_with fail
            refine (G.out _ Q0.out.sls).mono ?_
            rintro e w1 ⟨rfl, f1⟩
            have Q1 := Lib.hid (Q0.out.non f1)
            clear f1
            obtain ⟨g0, g1, g2, g3, g4, g5, g6, g7, g8, g9, g10, g11, g12⟩ := Q1.out.cells
            dsimp only [Pd.hd, Pd.kids] at g0 g1 g2 g3 g4 g5 g6 g7 g8 g9 g10 g11 g12
            go_wp2
            go_ret
            exact ⟨ret_boolE HE.out.symm, Q1.out.fr⟩
          · have hbb : (by_ == []) = false := by rw [beq_eq_false_iff_ne]; exact hb
            have HE : Hid (r = bn) := Lib.hid (by rw [HE0.out, decide_eq_true (show 0 < aggs.length by omega), decide_eq_true h4, decide_eq_true hc, decide_eq_false hb]; rfl)
            clear HE0 hb hc
            go_enter Tryz.func52, Tryz.ntmps52
            go_wp2_with fail
            refine (G.out _ Q0.out.sls).mono ?_
            rintro e w1 ⟨rfl, f1⟩
            have Q1 := Lib.hid (Q0.out.non f1)
            clear f1
            obtain ⟨g0, g1, g2, g3, g4, g5, g6, g7, g8, g9, g10, g11, g12⟩ := Q1.out.cells
            dsimp only [Pd.hd, Pd.kids] at g0 g1 g2 g3 g4 g5 g6 g7 g8 g9 g10 g11 g12
            go_wp2_with fail
            refine (N.out _).mono ?_
            rintro e w2 ⟨rfl, f2⟩
            go_wp2
            go_ret
            exact ⟨ret_boolE HE.out.symm, Q1.out.fr.trans f2⟩
        · have hcb : ((cols.length : Int) == 0) = false := by rw [beq_eq_false_iff_ne]; omega
          have HE : Hid (r = false) := Lib.hid (by rw [HE0.out, decide_eq_false hc]; simp)
          clear HE0 N hc
          go_enter Tryz.func52, Tryz.ntmps52
          go_wp2_with fail
          refine (G.out _ Q0.out.sls).mono ?_
          rintro e w1 ⟨rfl, f1⟩
          have Q1 := Lib.hid (Q0.out.non f1)
          clear f1
          obtain ⟨g0, g1, g2, g3, g4, g5, g6, g7, g8, g9, g10, g11, g12⟩ := Q1.out.cells
          dsimp only [Pd.hd, Pd.kids] at g0 g1 g2 g3 g4 g5 g6 g7 g8 g9 g10 g11 g12
          go_wp2
          go_ret
          exact ⟨ret_boolE HE.out.symm, Q1.out.fr⟩
    · have HE : Hid (r = false) := Lib.hid (by rw [HE0.out, decide_eq_false h4]; simp)
      clear HE0 G N
      go_enter Tryz.func52, Tryz.ntmps52
      go_wp2
      go_ret
      exact ⟨ret_boolE HE.out.symm, Q0.out.fr⟩

set_option maxHeartbeats 2000000 in
theorem qmay_big (q : Qy) (c : Value) (s : Kv) (g : Value) (w : World) (hq : QyS w q c s g) (hs : BgQ q) :
    Calls Tryz.prog 20 #[qyV q c s g] w fun e w' => e = .returned (.bool (mayQ q)) ∧ Fr Non w w' := by
  have Q0 := Lib.hid (Qin.new hq)
  have N := Lib.hid (fun W => sname_any q.tab W (by have := hs.tab; omega))
  have P := Lib.hid (fun W (h : QyS W q c s g) => pmay_big q.whr.hd s q.whr.kids W h.kids h.num (by rw [← Pd.eta]; exact hs.lens) (by rw [← Pd.eta]; exact hs.deep))
  rw [← Pd.eta] at P
  have A1 := Lib.hid (fun W (h : QyS W q c s g) => mplain_any q c s g W h hs)
  have A2 := Lib.hid (fun W (h : QyS W q c s g) => mfold_any q c s g W h hs)
  have HE : Hid (mayQ q = (nameB q.tab && (mayP q.whr && (plainQ q || foldQ q)))) := Lib.hid rfl
  generalize mayQ q = r at *
  generalize nameB q.tab = b1 at *
  generalize mayP q.whr = b2 at *
  generalize plainQ q = b3 at *
  generalize foldQ q = b4 at *
  unfold pdV pdC at P
  obtain ⟨cA, cc, hce⟩ := hq.cols.shape
  obtain ⟨gA, gc, hge⟩ := hq.aggs.shape
  clear hq hs
  obtain ⟨tab, cols, ⟨⟨wo, wc, wm, ⟨wn, wi, wt⟩, wk, wp⟩, wks⟩, aggs, by_⟩ := q
  obtain ⟨sA, sn, sc⟩ := s
  dsimp only at hce hge
  subst hce
  subst hge
  unfold qyV qyC kidV at *
  dsimp only [Pd.hd, Pd.kids] at *
  go_enter Tryz.func20, Tryz.ntmps20
  go_wp2_with fail
  refine (N.out _).mono ?_
  rintro e w1 ⟨rfl, f1⟩
  have Q1 := Lib.hid (Q0.out.non f1)
  clear f1
  obtain ⟨g0, g1, g2, g3, g4, g5, g6, g7, g8, g9, g10, g11, g12⟩ := Q1.out.cells
  dsimp only [Pd.hd, Pd.kids] at g0 g1 g2 g3 g4 g5 g6 g7 g8 g9 g10 g11 g12
  cases b1
  · go_wp2
    go_ret
    exact ⟨ret_boolE HE.out.symm, Q1.out.fr⟩
  · go_wp2_with fail
    refine (P.out _ Q1.out.sls).mono ?_
    rintro e w2 ⟨rfl, f2⟩
    have Q2 := Lib.hid (Q1.out.non f2)
    clear f2
    clear g0 g1 g2 g3 g4 g5 g6 g7 g8 g9 g10 g11 g12
    obtain ⟨g0, g1, g2, g3, g4, g5, g6, g7, g8, g9, g10, g11, g12⟩ := Q2.out.cells
    dsimp only [Pd.hd, Pd.kids] at g0 g1 g2 g3 g4 g5 g6 g7 g8 g9 g10 g11 g12
    cases b2
    · go_wp2
      go_ret
      exact ⟨ret_boolE HE.out.symm, Q2.out.fr⟩
    · go_wp2_with fail
      refine (A1.out _ Q2.out.sls).mono ?_
      rintro e w3 ⟨rfl, f3⟩
      have Q3 := Lib.hid (Q2.out.non f3)
      clear f3
      clear g0 g1 g2 g3 g4 g5 g6 g7 g8 g9 g10 g11 g12
      obtain ⟨g0, g1, g2, g3, g4, g5, g6, g7, g8, g9, g10, g11, g12⟩ := Q3.out.cells
      dsimp only [Pd.hd, Pd.kids] at g0 g1 g2 g3 g4 g5 g6 g7 g8 g9 g10 g11 g12
      cases b3
      · go_wp2_with fail
        refine (A2.out _ Q3.out.sls).mono ?_
        rintro e w4 ⟨rfl, f4⟩
        have Q4 := Lib.hid (Q3.out.non f4)
        clear f4
        go_wp2
        go_ret
        exact ⟨ret_boolE HE.out.symm, Q4.out.fr⟩
      · go_wp2
        go_ret
        exact ⟨ret_boolE HE.out.symm, Q3.out.fr⟩
end Go.Proofs.YtipgaafgnefmdaaGreatDoor


namespace Go.Proofs.YtipgaafgnefmdaaGreatDoor
set_option linter.unusedVariables false
set_option linter.unusedSimpArgs false
set_option maxRecDepth 100000
open Go.RowKit

theorem PX.place {B g : Nat} {d : Int} {w : World} {σ : Sg} (h : PX B g d w σ) : ∃ l bad, PS w B g l bad d ∧ (hdT l).at_ = placeX σ := by
  cases σ with
  | ok l => exact ⟨l, false, h, rfl⟩
  | error z => obtain ⟨l, hl, hz⟩ := h; exact ⟨l, true, hl, hz⟩
set_option maxHeartbeats 4000000 in
theorem pwholeQ_any (s : Tx) (w : World) (hW : Lw w) :
    Calls Tryz.prog 18 #[.string ⟨s.toArray⟩, .func (.func 19) #[] #[], .func (.func 20) #[] #[]] w (TelQ s w) := by
  have FA : Fr Non w ((w.alloc (.cells #[.string ⟨#[]⟩, .slice none 0 0, .int .i64 0, .string ⟨#[]⟩, .int .i64 0, .bool false, .int .i64 0, .string ⟨#[]⟩, .int .i64 0, .string ⟨#[]⟩, .slice none 0 0, .slice none 0 0, .string ⟨#[]⟩] 31)).alloc (.cells #[.string ⟨#[]⟩, .slice none 0 0, .int .i64 0, .string ⟨#[]⟩, .int .i64 0, .bool false, .int .i64 0, .string ⟨#[]⟩, .int .i64 0, .string ⟨#[]⟩, .slice none 0 0, .slice none 0 0, .string ⟨#[]⟩] 31)) := ((Fr.refl Non w).alloc _).alloc _
  have A1 := Lib.hid (wall_any s _ (hW.non FA))
  have HZ0 : Hid (QB ((w.alloc (.cells #[.string ⟨#[]⟩, .slice none 0 0, .int .i64 0, .string ⟨#[]⟩, .int .i64 0, .bool false, .int .i64 0, .string ⟨#[]⟩, .int .i64 0, .string ⟨#[]⟩, .slice none 0 0, .slice none 0 0, .string ⟨#[]⟩] 31)).alloc (.cells #[.string ⟨#[]⟩, .slice none 0 0, .int .i64 0, .string ⟨#[]⟩, .int .i64 0, .bool false, .int .i64 0, .string ⟨#[]⟩, .int .i64 0, .string ⟨#[]⟩, .slice none 0 0, .slice none 0 0, .string ⟨#[]⟩] 31)) w.heap.size noQy nilV noKv nilV) := Lib.hid ((qy_new w _ noQy nilV noKv nilV rfl).fr ((Fr.refl Non _).alloc _) (fun e => e))
  have HN0 : Hid (QB ((w.alloc (.cells #[.string ⟨#[]⟩, .slice none 0 0, .int .i64 0, .string ⟨#[]⟩, .int .i64 0, .bool false, .int .i64 0, .string ⟨#[]⟩, .int .i64 0, .string ⟨#[]⟩, .slice none 0 0, .slice none 0 0, .string ⟨#[]⟩] 31)).alloc (.cells #[.string ⟨#[]⟩, .slice none 0 0, .int .i64 0, .string ⟨#[]⟩, .int .i64 0, .bool false, .int .i64 0, .string ⟨#[]⟩, .int .i64 0, .string ⟨#[]⟩, .slice none 0 0, .slice none 0 0, .string ⟨#[]⟩] 31)) (w.heap.size + 1) noQy nilV noKv nilV) := Lib.hid (by
    have := qy_new (w.alloc (.cells #[.string ⟨#[]⟩, .slice none 0 0, .int .i64 0, .string ⟨#[]⟩, .int .i64 0, .bool false, .int .i64 0, .string ⟨#[]⟩, .int .i64 0, .string ⟨#[]⟩, .slice none 0 0, .slice none 0 0, .string ⟨#[]⟩] 31)) _ noQy nilV noKv nilV rfl
    rw [show (w.alloc (.cells #[.string ⟨#[]⟩, .slice none 0 0, .int .i64 0, .string ⟨#[]⟩, .int .i64 0, .bool false, .int .i64 0, .string ⟨#[]⟩, .int .i64 0, .string ⟨#[]⟩, .slice none 0 0, .slice none 0 0, .string ⟨#[]⟩] 31)).heap.size = w.heap.size + 1 by simp] at this
    exact this)
  have HFA := Lib.hid FA
  have T1 := Lib.hid (fun e => tq_err (s := s) e)
  have T2 := Lib.hid (fun e e2 => tq_no (s := s) e e2)
  have T3 := Lib.hid (fun e e2 => tq_yes (s := s) e e2)
  have HEN := Lib.hid (fun e => ws_end (s := s) e)
  have hc1 := Tryz.call19
  have hc2 := Tryz.call20
  clear FA hW
  generalize (wsB s).1 = l at *
  generalize (wsB s).2.1 = n1 at *
  generalize (wsB s).2.2 = n2 at *
  go_enter Tryz.func18, Tryz.ntmps18
  go_wp2_with fail
  refine A1.out.mono ?_
  rintro e w1 ⟨v, rfl, hTk, hF⟩
  have HZ1 := Lib.hid (HZ0.out.fr hF (fun e => e))
  have HN1 := Lib.hid (HN0.out.fr hF (fun e => e))
  have HF1 := Lib.hid (HFA.out.trans hF)
  have HS1 : Hid (w.heap.size + 2 ≤ w1.heap.size) := Lib.hid (by have := hF.size; simpa using this)
  have HTK := Lib.hid hTk
  clear hTk hF A1 HZ0 HN0 HFA
  by_cases he : n2 = 0
  · have HEND := Lib.hid (HEN.out he)
    have hb : ((n2 : Int) != 0) = false := by rw [bne_eq_false_iff_eq]; omega
    have T21 := Lib.hid (fun e2 => T2.out he e2)
    have T31 := Lib.hid (fun e2 => T3.out he e2)
    clear T1 T2 T3 HEN he
    obtain ⟨tA, tc, hv⟩ := HTK.out.shape
    subst hv
    have FB : Fr Non w1 (w1.alloc (.cells #[.slice tA l.length tc, .bool false, .int .i64 0] 83)) := (Fr.refl Non w1).alloc _
    have HPX : Hid (PX (w1.heap.size + 1) w1.heap.size 0 (w1.alloc (.cells #[.slice tA l.length tc, .bool false, .int .i64 0] 83)) (.ok l)) := Lib.hid ⟨tA, tc, Blk.new w1 _ _, HTK.out.non FB, HEND.out, fun a ha => by
      subst ha
      obtain ⟨a', e1, _, _, hat⟩ := HTK.out.addr HEND.out.ne
      obtain rfl := Option.some.inj e1
      have hlt := World.block_lt_of_cell? _ _ (hat 0 HEND.out.ne 0 _ rfl)
      rw [show (a.add (0 * 4)).add 0 = a by cases a; rfl] at hlt
      exact ⟨by omega, by omega⟩, by omega, by simp⟩
    have HZ2 := Lib.hid (HZ1.out.fr FB (fun e => e))
    have HN2 := Lib.hid (HN1.out.fr FB (fun e => e))
    have HF2 := Lib.hid (HF1.out.trans FB)
    clear FB HZ1 HN1 HTK HEND
    have RD := Lib.hid (pquery_any (w1.heap.size + 1) w1.heap.size _ (.ok l) HPX.out)
    have HON : Hid (onS (.ok l) queryR = queryR l) := Lib.hid rfl
    rw [HON.out] at RD
    go_wp2_with fail
    refine RD.out.mono ?_
    rintro e w3 ⟨⟨q, v, rfl, ⟨c, k, g, rfl, hQG⟩, hT, hA⟩, hF⟩
    have HQG := Lib.hid (hQG.mono (M := w.heap.size + 1) (by have := HS1.out; simp; omega))
    clear hQG
    have HZ3 := Lib.hid (HZ2.out.fr hF (fun e => by have : w.heap.size = w1.heap.size := e; have := HS1.out; omega))
    have HN3 := Lib.hid (HN2.out.fr hF (fun e => by have : w.heap.size + 1 = w1.heap.size := e; have := HS1.out; omega))
    have HF3 := Lib.hid ((HF1.out.then ((Fr.refl Non w1).alloc (.cells #[.slice tA l.length tc, .bool false, .int .i64 0] 83))).fresh hF (fun k e => by have : k = w1.heap.size := e; have := HS1.out; omega))
    have HS3 : Hid (w1.heap.size + 1 ≤ w3.heap.size) := Lib.hid (by have := hF.size; simpa using this)
    have HT3 := Lib.hid hT
    have HA := Lib.hid hA
    clear hT hA hF RD HZ2 HN2 HF2 HF1 HPX HON
    obtain ⟨t, cl, ⟨⟨xo, xc, xm, ⟨xn, xi, xt⟩, xk, xp⟩, xks⟩, ag, y⟩ := q
    obtain ⟨cA, cc, hcv⟩ := HQG.out.cols.shape
    obtain ⟨gA, gc, hgv⟩ := HQG.out.aggs.shape
    dsimp only at hcv hgv
    subst hcv hgv
    obtain ⟨kA, kn, kc⟩ := k
    have FB : Fr Non w3 (w3.alloc (.cells #[.string ⟨t.toArray⟩, .slice cA cl.length cc, .int .i64 xo, .string ⟨xc.toArray⟩, .int .i64 xm, .bool xn, .int .i64 xi, .string ⟨xt.toArray⟩, .int .i64 xk, .string ⟨xp.toArray⟩, .slice kA kn kc, .slice gA ag.length gc, .string ⟨y.toArray⟩] 31)) := (Fr.refl Non w3).alloc _
    have HP4 : Hid (QB (w3.alloc (.cells #[.string ⟨t.toArray⟩, .slice cA cl.length cc, .int .i64 xo, .string ⟨xc.toArray⟩, .int .i64 xm, .bool xn, .int .i64 xi, .string ⟨xt.toArray⟩, .int .i64 xk, .string ⟨xp.toArray⟩, .slice kA kn kc, .slice gA ag.length gc, .string ⟨y.toArray⟩] 31)) w3.heap.size ⟨t, cl, .mk ⟨xo, xc, xm, ⟨xn, xi, xt⟩, xk, xp⟩ xks, ag, y⟩ (.slice cA cl.length cc) ⟨kA, kn, kc⟩ (.slice gA ag.length gc)) := Lib.hid (qy_new w3 _ ⟨t, cl, .mk ⟨xo, xc, xm, ⟨xn, xi, xt⟩, xk, xp⟩ xks, ag, y⟩ (.slice cA cl.length cc) ⟨kA, kn, kc⟩ (.slice gA ag.length gc) rfl)
    have HQ4 : Hid (QG (w.heap.size + 1) (w3.alloc (.cells #[.string ⟨t.toArray⟩, .slice cA cl.length cc, .int .i64 xo, .string ⟨xc.toArray⟩, .int .i64 xm, .bool xn, .int .i64 xi, .string ⟨xt.toArray⟩, .int .i64 xk, .string ⟨xp.toArray⟩, .slice kA kn kc, .slice gA ag.length gc, .string ⟨y.toArray⟩] 31)) ⟨t, cl, .mk ⟨xo, xc, xm, ⟨xn, xi, xt⟩, xk, xp⟩ xks, ag, y⟩ (.slice cA cl.length cc) ⟨kA, kn, kc⟩ (.slice gA ag.length gc)) := Lib.hid (HQG.out.fr FB (fun _ _ e => e))
    clear HQG
    unfold qyV qyC kidV
    dsimp only [Pd.hd, Pd.kids]
    have HZ4 := Lib.hid (HZ3.out.fr FB (fun e => e))
    have HN4 := Lib.hid (HN3.out.fr FB (fun e => e))
    have HF4 := Lib.hid (HF3.out.trans FB)
    have HT4 := Lib.hid (HT3.out.non FB)
    clear FB HZ3 HN3 HF3 HT3
    have IS := Lib.hid (pis_any (w1.heap.size + 1) w1.heap.size 0 0 _ _ HT4.out)
    generalize kindX 0 (dropV (queryR l)) = b at *
    go_wp2_with fail
    refine IS.out.mono ?_
    rintro e w5 ⟨rfl, rfl⟩
    clear IS
    generalize w3.alloc (.cells #[.string ⟨t.toArray⟩, .slice cA cl.length cc, .int .i64 xo, .string ⟨xc.toArray⟩, .int .i64 xm, .bool xn, .int .i64 xi, .string ⟨xt.toArray⟩, .int .i64 xk, .string ⟨xp.toArray⟩, .slice kA kn kc, .slice gA ag.length gc, .string ⟨y.toArray⟩] 31) = W4 at *
    cases b
    · have TE := Lib.hid (T21.out (by first | rfl | trivial))
      clear T21 T31
      obtain ⟨lb, bad, hps, hpl⟩ := HT4.out.place
      have AT := Lib.hid (fun W hf => pat_any (w1.heap.size + 1) w1.heap.size 0 lb bad W (hps.non hf))
      have HPL := Lib.hid hpl
      have TE2 : Hid (telQ s = (noQy, (hdT lb).at_, 2)) := Lib.hid (by rw [HPL.out]; exact TE.out)
      clear hps hpl HT4 HP4 HQ4 HA
      obtain ⟨f0, f1, f2, f3, f4, f5, f6, f7, f8, f9, f10, f11, f12⟩ := qB_frozen HZ4.out
      obtain ⟨r0, r1, r2, r3, r4, r5, r6, r7, r8, r9, r10, r11, r12⟩ := qB_cells HZ4.out
      obtain ⟨p0, p1, p2, p3, p4, p5, p6, p7, p8, p9, p10, p11, p12⟩ := qB_cells HN4.out
      dsimp only [noKv, noQy, noPd, zCl, Pd.hd, nilV] at r0 r1 r2 r3 r4 r5 r6 r7 r8 r9 r10 r11 r12 p0 p1 p2 p3 p4 p5 p6 p7 p8 p9 p10 p11 p12
      have E5 := Lib.hid (setQy_B HZ4.out noQy nilV noKv nilV)
      have G5 := Lib.hid (HF4.out.fresh (setQy_fr W4 w.heap.size noQy nilV noKv nilV) (fun k e => by have : k = w.heap.size := e; omega))
      unfold setQy kidV nilV noKv noQy noPd zCl at E5 G5
      dsimp only [Pd.hd] at E5 G5
      clear HZ4 HN4
      go_upto_region 8 with fail
      go_region_with (first | (go_at_call 42; refine (AT.out _ (by first | exact (Fr.refl Non _) | exact (Fr.refl Non _).drew | exact (Fr.refl Non _).drewN _)).mono ?_; rintro e wz ⟨rfl, rfl⟩))
      all_goals (go_wp2; exact bodyPost_ret (ret_qy3 (p := 6) (u := 7) (v := 8) rfl _ _ w.heap.size noQy nilV noKv nilV _ _ rfl rfl rfl E5.out.drew) rfl (TelQ.none TE2.out G5.out.drew))

    · obtain ⟨q0, r0, hx, hbg, hy1, hy2⟩ := T31.out (by first | rfl | trivial)
      obtain rfl := HA.out q0 r0 hx
      have HY1 := Lib.hid hy1
      have HY2 := Lib.hid hy2
      have MY := Lib.hid (qmay_big ⟨t, cl, .mk ⟨xo, xc, xm, ⟨xn, xi, xt⟩, xk, xp⟩ xks, ag, y⟩ (.slice cA cl.length cc) ⟨kA, kn, kc⟩ (.slice gA ag.length gc) W4 HQ4.out.s hbg)
      clear hx hy1 hy2 hbg T21 T31 HA HT4
      generalize mayQ ⟨t, cl, .mk ⟨xo, xc, xm, ⟨xn, xi, xt⟩, xk, xp⟩ xks, ag, y⟩ = m at *
      obtain ⟨p0, p1, p2, p3, p4, p5, p6, p7, p8, p9, p10, p11, p12⟩ := qB_cells HP4.out
      dsimp only [Pd.hd] at p0 p1 p2 p3 p4 p5 p6 p7 p8 p9 p10 p11 p12
      unfold qyV qyC kidV at MY
      dsimp only [Pd.hd] at MY
      go_wp2_with fail
      refine MY.out.mono ?_
      rintro e w6 ⟨rfl, hF⟩
      have HZ6 := Lib.hid (HZ4.out.fr hF (fun e => e))
      have HN6 := Lib.hid (HN4.out.fr hF (fun e => e))
      have HP6 := Lib.hid (HP4.out.fr hF (fun e => e))
      have HF6 := Lib.hid (HF4.out.trans hF)
      have HQ6 := Lib.hid (HQ4.out.fr hF (fun _ _ e => e))
      clear hF MY HZ4 HN4 HP4 HF4 HQ4 p0 p1 p2 p3 p4 p5 p6 p7 p8 p9 p10 p11 p12
      cases m
      · have TE := Lib.hid (HY2.out (by first | rfl | trivial))
        clear HY1 HY2 HP6 HQ6
        obtain ⟨f0, f1, f2, f3, f4, f5, f6, f7, f8, f9, f10, f11, f12⟩ := qB_frozen HZ6.out
        obtain ⟨r0, r1, r2, r3, r4, r5, r6, r7, r8, r9, r10, r11, r12⟩ := qB_cells HZ6.out
        obtain ⟨p0, p1, p2, p3, p4, p5, p6, p7, p8, p9, p10, p11, p12⟩ := qB_cells HN6.out
        dsimp only [noKv, noQy, noPd, zCl, Pd.hd, nilV] at r0 r1 r2 r3 r4 r5 r6 r7 r8 r9 r10 r11 r12 p0 p1 p2 p3 p4 p5 p6 p7 p8 p9 p10 p11 p12
        have E5 := Lib.hid (setQy_B HZ6.out noQy nilV noKv nilV)
        have G5 := Lib.hid (HF6.out.fresh (setQy_fr w6 w.heap.size noQy nilV noKv nilV) (fun k e => by have : k = w.heap.size := e; omega))
        unfold setQy kidV nilV noKv noQy noPd zCl at E5 G5
        dsimp only [Pd.hd] at E5 G5
        clear HZ6 HN6
        go_wp2
        exact bodyPost_ret (ret_qy3 (p := 6) (u := 7) (v := 8) rfl _ _ w.heap.size noQy nilV noKv nilV _ _ rfl rfl rfl E5.out) rfl (TelQ.none TE.out G5.out)
      · have TE := Lib.hid (HY1.out (by first | rfl | trivial))
        clear HY1 HY2 HN6
        obtain ⟨f0, f1, f2, f3, f4, f5, f6, f7, f8, f9, f10, f11, f12⟩ := qB_frozen HZ6.out
        obtain ⟨r0, r1, r2, r3, r4, r5, r6, r7, r8, r9, r10, r11, r12⟩ := qB_cells HZ6.out
        obtain ⟨p0, p1, p2, p3, p4, p5, p6, p7, p8, p9, p10, p11, p12⟩ := qB_cells HP6.out
        dsimp only [noKv, noQy, noPd, zCl, Pd.hd, nilV] at r0 r1 r2 r3 r4 r5 r6 r7 r8 r9 r10 r11 r12 p0 p1 p2 p3 p4 p5 p6 p7 p8 p9 p10 p11 p12
        have E5 := Lib.hid (setQy_B HZ6.out ⟨t, cl, .mk ⟨xo, xc, xm, ⟨xn, xi, xt⟩, xk, xp⟩ xks, ag, y⟩ (.slice cA cl.length cc) ⟨kA, kn, kc⟩ (.slice gA ag.length gc))
        have G5 := Lib.hid (HF6.out.fresh (setQy_fr w6 w.heap.size ⟨t, cl, .mk ⟨xo, xc, xm, ⟨xn, xi, xt⟩, xk, xp⟩ xks, ag, y⟩ (.slice cA cl.length cc) ⟨kA, kn, kc⟩ (.slice gA ag.length gc)) (fun k e => by have : k = w.heap.size := e; omega))
        have K5 := Lib.hid ((HQ6.out.fr (setQy_fr w6 w.heap.size ⟨t, cl, .mk ⟨xo, xc, xm, ⟨xn, xi, xt⟩, xk, xp⟩ xks, ag, y⟩ (.slice cA cl.length cc) ⟨kA, kn, kc⟩ (.slice gA ag.length gc)) (fun b hb e => by have : b = w.heap.size := e; omega)).mono (M := w.heap.size) (by omega))
        clear HZ6 HP6
        unfold setQy kidV at E5 G5 K5
        dsimp only [Pd.hd] at E5 G5 K5
        go_wp2
        exact bodyPost_ret (ret_qy3 (p := 6) (u := 7) (v := 8) rfl _ _ w.heap.size ⟨t, cl, .mk ⟨xo, xc, xm, ⟨xn, xi, xt⟩, xk, xp⟩ xks, ag, y⟩ (.slice cA cl.length cc) ⟨kA, kn, kc⟩ (.slice gA ag.length gc) _ _ rfl rfl rfl E5.out) rfl (TelQ.some TE.out K5.out G5.out)

  · have TE := Lib.hid (T1.out he)
    have hb : ((n2 : Int) != 0) = true := by rw [bne_iff_ne]; omega
    clear T1 T2 T3 HEN he HTK
    obtain ⟨f0, f1, f2, f3, f4, f5, f6, f7, f8, f9, f10, f11, f12⟩ := qB_frozen HZ1.out
    obtain ⟨r0, r1, r2, r3, r4, r5, r6, r7, r8, r9, r10, r11, r12⟩ := qB_cells HZ1.out
    obtain ⟨p0, p1, p2, p3, p4, p5, p6, p7, p8, p9, p10, p11, p12⟩ := qB_cells HN1.out
    dsimp only [noKv, noQy, noPd, zCl, Pd.hd, nilV] at r0 r1 r2 r3 r4 r5 r6 r7 r8 r9 r10 r11 r12 p0 p1 p2 p3 p4 p5 p6 p7 p8 p9 p10 p11 p12
    have E5 := Lib.hid (setQy_B HZ1.out noQy nilV noKv nilV)
    have G5 := Lib.hid (HF1.out.fresh (setQy_fr w1 w.heap.size noQy nilV noKv nilV) (fun k e => by have : k = w.heap.size := e; omega))
    unfold setQy kidV nilV noKv noQy noPd zCl at E5 G5
    dsimp only [Pd.hd] at E5 G5
    clear HZ1 HN1
    go_wp2
    exact bodyPost_ret (ret_qy3 (p := 6) (u := 7) (v := 8) rfl _ _ w.heap.size noQy nilV noKv nilV _ _ rfl rfl rfl E5.out) rfl (TelQ.none TE.out G5.out)
theorem pQuery_any (s : Tx) (w : World) (hW : Lw w) : Calls Tryz.prog 7 #[.string ⟨s.toArray⟩] w (TelQ s w) := by
  have FA : Fr Non w (w.alloc (.cells #[.string ⟨#[]⟩, .slice none 0 0, .int .i64 0, .string ⟨#[]⟩, .int .i64 0, .bool false, .int .i64 0, .string ⟨#[]⟩, .int .i64 0, .string ⟨#[]⟩, .slice none 0 0, .slice none 0 0, .string ⟨#[]⟩] 31)) := (Fr.refl Non w).alloc _
  have A1 := Lib.hid (pwholeQ_any s _ (hW.non FA))
  have HZ0 : Hid (QB (w.alloc (.cells #[.string ⟨#[]⟩, .slice none 0 0, .int .i64 0, .string ⟨#[]⟩, .int .i64 0, .bool false, .int .i64 0, .string ⟨#[]⟩, .int .i64 0, .string ⟨#[]⟩, .slice none 0 0, .slice none 0 0, .string ⟨#[]⟩] 31)) w.heap.size noQy nilV noKv nilV) := Lib.hid (qy_new w _ noQy nilV noKv nilV rfl)
  have HFA := Lib.hid FA
  clear FA hW
  go_enter Tryz.func7, Tryz.ntmps7
  go_wp2_with fail
  refine A1.out.mono ?_
  rintro e w1 ⟨c, k, g, rfl, hG, hF⟩
  have HZ1 := Lib.hid (HZ0.out.fr hF (fun e => e))
  have HF1 := Lib.hid (HFA.out.trans hF)
  have HG := Lib.hid (hG.mono (M := w.heap.size + 1) (by simp))
  have HTQ : Hid (telQ s = ((telQ s).1, (telQ s).2.1, (telQ s).2.2)) := Lib.hid rfl
  clear hG hF A1 HZ0 HFA
  generalize (telQ s).1 = q at *
  generalize (telQ s).2.1 = n at *
  generalize (telQ s).2.2 = er at *
  obtain ⟨t, cl, ⟨⟨xo, xc, xm, ⟨xn, xi, xt⟩, xk, xp⟩, xks⟩, ag, y⟩ := q
  obtain ⟨cA, cc, hcv⟩ := HG.out.cols.shape
  obtain ⟨gA, gc, hgv⟩ := HG.out.aggs.shape
  dsimp only at hcv hgv
  subst hcv hgv
  obtain ⟨kA, kn, kc⟩ := k
  obtain ⟨r0, r1, r2, r3, r4, r5, r6, r7, r8, r9, r10, r11, r12⟩ := qB_cells HZ1.out
  obtain ⟨f0, f1, f2, f3, f4, f5, f6, f7, f8, f9, f10, f11, f12⟩ := qB_frozen HZ1.out
  dsimp only [noKv, noQy, noPd, zCl, Pd.hd, nilV] at r0 r1 r2 r3 r4 r5 r6 r7 r8 r9 r10 r11 r12
  have E5 := Lib.hid (setQy_B HZ1.out ⟨t, cl, .mk ⟨xo, xc, xm, ⟨xn, xi, xt⟩, xk, xp⟩ xks, ag, y⟩ (.slice cA cl.length cc) ⟨kA, kn, kc⟩ (.slice gA ag.length gc))
  have G5 := Lib.hid (HF1.out.fresh (setQy_fr w1 w.heap.size ⟨t, cl, .mk ⟨xo, xc, xm, ⟨xn, xi, xt⟩, xk, xp⟩ xks, ag, y⟩ (.slice cA cl.length cc) ⟨kA, kn, kc⟩ (.slice gA ag.length gc)) (fun k e => by have : k = w.heap.size := e; omega))
  have K5 := Lib.hid ((HG.out.fr (setQy_fr w1 w.heap.size ⟨t, cl, .mk ⟨xo, xc, xm, ⟨xn, xi, xt⟩, xk, xp⟩ xks, ag, y⟩ (.slice cA cl.length cc) ⟨kA, kn, kc⟩ (.slice gA ag.length gc)) (fun b hb e => by have : b = w.heap.size := e; omega)).mono (M := w.heap.size) (by omega))
  clear HZ1 HG HF1
  unfold setQy kidV at E5 G5 K5
  unfold qyV qyC kidV
  dsimp only [Pd.hd] at *
  go_wp2
  exact bodyPost_ret (ret_qy3 (p := 2) (u := 3) (v := 4) rfl _ _ w.heap.size ⟨t, cl, .mk ⟨xo, xc, xm, ⟨xn, xi, xt⟩, xk, xp⟩ xks, ag, y⟩ (.slice cA cl.length cc) ⟨kA, kn, kc⟩ (.slice gA ag.length gc) _ _ rfl rfl rfl E5.out) rfl (TelQ.some HTQ.out K5.out G5.out)
end Go.Proofs.YtipgaafgnefmdaaGreatDoor


namespace Go.Proofs.YtipgaafgnefmdaaGreatDoor
set_option linter.unusedVariables false
set_option linter.unusedSimpArgs false
set_option maxRecDepth 100000
open Go.RowKit

theorem name_le {l : Tx} (h : nameB l = true) : l.length ≤ 12 := (of_decide_eq_true h).2.1
theorem mayC_le {k : Int} {c : Cl} (h : mayC k false c = true) : c.txt.length ≤ 40 := by
  unfold mayC at h
  rw [Bool.and_eq_true] at h
  obtain ⟨_, h⟩ := h
  split at h
  · simp at h
  · split at h
    · rw [Bool.and_eq_true] at h; exact of_decide_eq_true h.2
    · rw [Bool.and_eq_true] at h
      rw [List.isEmpty_iff.1 h.1]
      exact Nat.zero_le _
theorem bare_le {h : Ph} (e : bareH h = true) : h.col.length ≤ 100 ∧ h.pat.length ≤ 100 ∧ h.val.txt.length ≤ 100 := by
  have he := of_decide_eq_true e
  rw [congrArg Ph.col he, congrArg Ph.pat he, congrArg Ph.val he]
  exact ⟨Nat.zero_le _, Nat.zero_le _, Nat.zero_le _⟩
theorem ask_le {h : Ph} (e : askOk h = true) : h.col.length ≤ 100 ∧ h.pat.length ≤ 100 ∧ h.val.txt.length ≤ 100 := by
  unfold askOk at e
  rw [Bool.and_eq_true] at e
  obtain ⟨e1, e2⟩ := e
  refine ⟨by have := name_le e1; omega, ?_⟩
  split at e2
  · rw [Bool.and_eq_true, Bool.and_eq_true] at e2
    have he := congrArg Ph.pat (of_decide_eq_true e2.2)
    dsimp only at he
    refine ⟨by rw [he]; exact Nat.zero_le _, ?_⟩
    have := mayC_le e2.1.2
    omega
  · split at e2
    · rw [Bool.and_eq_true] at e2
      have he := congrArg Ph.val (of_decide_eq_true e2.2)
      dsimp only at he
      refine ⟨by have := of_decide_eq_true e2.1; omega, ?_⟩
      rw [he]
      exact Nat.zero_le _
    · have h1 := congrArg Ph.pat (of_decide_eq_true e2)
      have h2 := congrArg Ph.val (of_decide_eq_true e2)
      dsimp only at h1 h2
      rw [h1, h2]
      exact ⟨Nat.zero_le _, Nat.zero_le _⟩
theorem hd_le {h : Ph} {ks : List Pd} (e : hdOk h ks = true) : h.col.length ≤ 100 ∧ h.pat.length ≤ 100 ∧ h.val.txt.length ≤ 100 := by
  unfold hdOk at e
  split at e
  · rw [Bool.and_eq_true] at e; exact bare_le e.2
  · split at e
    · rw [Bool.and_eq_true] at e; exact ask_le e.2
    · split at e
      · rw [Bool.and_eq_true] at e; exact bare_le e.2
      · split at e
        · rw [Bool.and_eq_true, Bool.and_eq_true] at e; exact bare_le e.1.2
        · simp at e
theorem len_one (p : Pd) : oneP p = true → cntP p ≤ 16 → lenP p = true := by
  induction p using Pd.ind with
  | h hd ks ih =>
    intro e hc
    rw [oneP, Bool.and_eq_true, oneL_all, List.all_eq_true] at e
    rw [cntP] at hc
    rw [lenP, Bool.and_eq_true, lenL_all, List.all_eq_true]
    refine ⟨decide_eq_true ⟨by have := cntL_len ks; omega, hd_le e.1⟩, fun k hk => ih k hk (e.2 k hk) ?_⟩
    have := cntL_mem hk
    omega
theorem may_len {p : Pd} (h : mayP p = true) : lenP p = true := by
  unfold mayP at h
  rw [Bool.and_eq_true] at h
  exact len_one p h.2 (of_decide_eq_true h.1).1
theorem may_dep {p : Pd} (h : mayP p = true) : depP p ≤ 9 := by
  unfold mayP at h
  rw [Bool.and_eq_true] at h
  have := (of_decide_eq_true h.1).2
  omega
theorem may_small {q : Qy} (h : mayQ q = true) : SmQ q := by
  obtain ⟨ht, hp⟩ := may_parts h
  have h1 := name_le ht
  rcases may_kinds h with ⟨ha, hb, hc, hn⟩ | ⟨ha, hl, hg, hc, hb⟩
  · unfold unlB at hn
    rw [Bool.and_eq_true, List.all_eq_true] at hn
    refine ⟨by omega, fun x hx => (by have := name_le (hn.1 x hx); omega), by rw [ha]; exact Nat.zero_le _, fun a hx => (by rw [ha] at hx; cases hx), by omega, by rw [hb]; exact Nat.zero_le _, may_len hp, may_dep hp⟩
  · refine ⟨by rw [hc]; exact Nat.zero_le _, fun x hx => (by rw [hc] at hx; cases hx), by omega, fun a hx => ?_, by omega, ?_, may_len hp, may_dep hp⟩
    · rcases ag_is (hg a hx) with ⟨_, e⟩ | ⟨_, _, _, e⟩
      · rw [e]; exact Nat.zero_le _
      · have := name_le e; omega
    · rcases hb with e | e
      · rw [e]; exact Nat.zero_le _
      · have := name_le e; omega
theorem noQy_sm : SmQ noQy := ⟨by decide, by decide, by decide, by decide, by decide, by decide, by decide +kernel, by decide +kernel⟩
theorem telQ_sm (s : Tx) : SmQ (telQ s).1 := by
  unfold telQ
  split
  · exact noQy_sm
  · split
    · exact noQy_sm
    · split
      · rename_i h; exact may_small h
      · exact noQy_sm
/-! ### The page's examples -/
def exT : Tx := [115, 101, 108, 101, 99, 116, 32, 42, 32, 102, 114, 111, 109, 32, 116, 32, 119, 104, 101, 114, 101, 32, 110, 111, 116, 32, 40, 97, 32, 61, 32, 49, 32, 111, 114, 32, 98, 32, 105, 115, 32, 110, 117, 108, 108, 41]
def exPa : Pd := .mk ⟨2, [97], 1, ⟨false, 1, []⟩, 1, []⟩ []
def exPb : Pd := .mk ⟨3, [98], 0, zCl, 0, []⟩ []
def exPo : Pd := .mk ⟨7, [], 0, zCl, 0, []⟩ [exPa, exPb]
def exPn : Pd := .mk ⟨5, [], 0, zCl, 0, []⟩ [exPo]
def exQn : Qy := ⟨[116], [], exPn, [], []⟩
theorem itoa_1 : Lib.itoa 1 = [49] := by
  rw [show (1 : Int) = ((1 : Nat) : Int) from rfl, itoa_up, Lib.decDigits, dif_pos (by decide)]; rfl
theorem exQn_may : mayQ exQn = true := by decide +kernel
theorem exPa_text : textP exPa = [97, 32, 61, 32, 49] := by
  unfold exPa
  rw [tx_2 rfl]
  show [97] ++ [32] ++ markB 1 ++ [32] ++ Lib.itoa 1 = _
  rw [itoa_1]
  rfl
theorem exPb_text : textP exPb = [98, 32, 105, 115, 32, 110, 117, 108, 108] := by
  unfold exPb
  rw [tx_3 rfl]
  rfl
theorem exPn_text : textP exPn = [110, 111, 116, 32, 40, 97, 32, 61, 32, 49, 32, 111, 114, 32, 98, 32, 105, 115, 32, 110, 117, 108, 108, 41] := by
  unfold exPn
  rw [tx_5 rfl]
  show [110, 111, 116, 32] ++ (40 :: textP exPo ++ [41]) = _
  unfold exPo
  rw [tx_7 rfl]
  show [110, 111, 116, 32] ++ (40 :: Lib.join [textP exPa, textP exPb] orT ++ [41]) = _
  rw [exPa_text, exPb_text]
  decide +kernel
theorem exQn_text : textQ exQn = exT := by
  unfold textQ whrT
  rw [show exQn.whr = exPn from rfl, if_neg (by decide), exPn_text]
  decide +kernel
theorem exQn_num : numP exQn.whr := by
  show numP exPn
  simp only [exPn, exPo, exPa, exPb, numP, numL, zCl, and_true]
  exact ⟨i64b_0, i64b_0, i64b_1, i64b_0⟩
theorem tel_exT : telQ exT = (exQn, 46, 0) := by
  have h := back_qy exQn_may exQn_num (by rw [exQn_text]; decide)
  rw [exQn_text] at h
  exact h
def exU : Tx := [115, 101, 108, 101, 99, 116, 32, 102, 114, 111, 109]
theorem ws_exU : wsB exU = ([⟨1, [115, 101, 108, 101, 99, 116], 0, 0⟩, ⟨1, [102, 114, 111, 109], 0, 7⟩, ⟨0, [], 0, 11⟩], 11, 0) := by
  refine all_ok (by decide) ?_
  unfold exU
  rw [tok_one (t := ⟨1, [115, 101, 108, 101, 99, 116], 0, 0⟩) (n := 6) 0 (by rfl)]
  show preT _ (tokB 6 [32, 102, 114, 111, 109]) = _
  rw [tok_blank 6 (by decide)]
  show preT _ (tokB 7 [102, 114, 111, 109]) = _
  rw [tok_one (t := ⟨1, [102, 114, 111, 109], 0, 0⟩) (n := 4) 7 (by rfl)]
  rfl
theorem tel_exU : telQ exU = (noQy, 7, 2) := by
  unfold telQ
  rw [ws_exU]
  rfl
end Go.Proofs.YtipgaafgnefmdaaGreatDoor


namespace Go.Proofs.YtipgaafgnefmdaaGreatDoor
set_option linter.unusedVariables false
set_option linter.unusedSimpArgs false
set_option maxRecDepth 100000
open Go.RowKit

theorem lnum19_any (n : Int) (w : World) : Calls Tryz.prog 10 #[.int .i64 n] w fun e w' => e = .returned (.int .i64 n) ∧ w = w' := by
  go_enter Tryz.func10, Tryz.ntmps10
  go_wp2
  go_ret
  exact ⟨rfl, rfl⟩
/-- a query put in a block of its own -/
theorem qy_put {w W : World} {q : Qy} {c : Value} {s : Kv} {g : Value} (hf : Fr Non w W) (h : QyS W q c s g) :
    Qin w W.heap.size q c s g (W.alloc (.cells (qyC q c s g) 31)) :=
  have hF : Fr Non W (W.alloc (.cells (qyC q c s g) 31)) := (Fr.refl Non W).alloc _
  ⟨hf.trans hF, qy_new W _ q c s g rfl, h.non hF⟩

set_option maxHeartbeats 2000000 in
theorem live19_any (w : World) (hW : Lw w) : Calls Tryz.prog 6 #[] w fun e w' => e = .returned (.bool true) ∧ Fr Non w w' := by
  have A1 := Lib.hid (pQuery_any exT w hW)
  have A2 := Lib.hid (fun W (h : Fr Non w W) => pQuery_any exU W (hW.non h))
  have HN := Lib.hid (fun n V => lnum19_any n V)
  clear hW
  unfold TelQ at A1 A2
  rw [tel_exT] at A1
  simp only [tel_exU] at A2
  unfold exT at A1
  unfold exU at A2
  go_enter Tryz.func6, Tryz.ntmps6
  go_wp2_with fail
  refine A1.out.mono ?_
  rintro e w1 ⟨c, k, g, rfl, hG, hF⟩
  obtain ⟨cA, cc, rfl⟩ := hG.cols.shape
  obtain ⟨gA, gc, rfl⟩ := hG.aggs.shape
  obtain ⟨kA, kn, kc⟩ := k
  have Q1 := Lib.hid (qy_put hF hG.s)
  clear hG hF A1
  unfold qyC kidV exQn exPn zCl at Q1
  unfold qyV qyC kidV exQn exPn zCl
  dsimp only [Pd.hd, Pd.kids, List.length] at Q1
  dsimp only [Pd.hd, Pd.kids, List.length]
  go_upto_region 2 with fail
  generalize w1.alloc (.cells #[.string ⟨#[116]⟩, .slice cA 0 cc, .int .i64 5, .string ⟨#[]⟩, .int .i64 0, .bool false, .int .i64 0, .string ⟨#[]⟩, .int .i64 0, .string ⟨#[]⟩, .slice kA kn kc, .slice gA 0 gc, .string ⟨#[]⟩] 31) = W2 at *
  generalize w1.heap.size = b1 at *
  go_wp2_with fail
  refine (A2.out _ Q1.out.fr).mono ?_
  rintro e w2 ⟨c2, k2, g2, rfl, hG, hF⟩
  obtain ⟨cA2, cc2, rfl⟩ := hG.cols.shape
  obtain ⟨gA2, gc2, rfl⟩ := hG.aggs.shape
  obtain ⟨kA2, kn2, kc2⟩ := k2
  have Q2 := Lib.hid (qy_put hF hG.s).fr
  have R2 := Lib.hid ((Q1.out.non hF).non ((Fr.refl Non w2).alloc (.cells (qyC noQy (.slice cA2 noQy.cols.length cc2) ⟨kA2, kn2, kc2⟩ (.slice gA2 noQy.aggs.length gc2)) 31)))
  clear hG hF A2 Q1
  unfold qyC kidV noQy noPd zCl at Q2 R2
  unfold qyV qyC kidV noQy noPd zCl
  dsimp only [Pd.hd, Pd.kids, List.length] at Q2 R2
  dsimp only [Pd.hd, Pd.kids, List.length]
  go_upto_region 3 with fail
  generalize w2.alloc (.cells #[.string ⟨#[]⟩, .slice cA2 0 cc2, .int .i64 0, .string ⟨#[]⟩, .int .i64 0, .bool false, .int .i64 0, .string ⟨#[]⟩, .int .i64 0, .string ⟨#[]⟩, .slice kA2 kn2 kc2, .slice gA2 0 gc2, .string ⟨#[]⟩] 31) = W4 at *
  clear Q2
  have r0 : W4.cell? ⟨b1, 0, none⟩ = some (.string ⟨#[116]⟩) := R2.out.cells.1
  have r2 : W4.cell? ⟨b1, 2, none⟩ = some (.int .i64 5) := R2.out.cells.2.2.1
  have HF := Lib.hid R2.out.fr
  clear R2
  go_wp2_with (refine (HN.out _ _).mono ?_; rintro e w2 ⟨rfl, rfl⟩)
  go_ret
  exact ⟨rfl, HF.out⟩
end Go.Proofs.YtipgaafgnefmdaaGreatDoor
