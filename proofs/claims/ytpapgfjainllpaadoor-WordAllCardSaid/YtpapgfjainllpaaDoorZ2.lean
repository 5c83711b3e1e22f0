/-
  Joined: Layer 16: names, numbers, marks; the first word (the program's). · Layer 16: the document's digits. · Layer 16: the number of digits (the document's). · Layer 16: marks; the first word (the program's). · Layer 16: the document's quoted, mark. · Layer 16: the first word (the document's). · Layer 16: all the words of a text (the program's). · Layer 16: all the words of a text (the document's). · Layer 16: tokens compared; the page's example. · Layer 16: the walks of WordAll, WordBack. · Layer 16: the variables that a row lists, opened; a row's frame that hands the world's shape on.
-/
import Derived.Deep.Slices
import Derived.Test.YtpapgfjainllpaaDoorZ1
import Derived.BigQuiet
import Derived.Deep.RegionHeld3
import Derived.Test.YtpapgfjainllpaaDoorRows
import Derived.LaidMore
import Derived.Lay
import Derived.Handed
import Derived.Stop.LaidErr
import Derived.Lib.LaidTab
import Derived.Shelf.Vars
import Derived.OpenShut
import Derived.Stop.Joined
import Derived.ProofKit

namespace Go.Proofs.YtpapgfjainllpaaDoor
set_option linter.unusedVariables false
set_option linter.unusedSimpArgs false
set_option maxRecDepth 100000
open Go.RowKit

set_option maxHeartbeats 1000000 in
theorem wname_any (l : List UInt8) (w : World) (hl : l.length ≤ 1000000) : Calls Tryd.prog 21 #[.string ⟨l.toArray⟩] w fun e w' => TkEnd (some (⟨1, l.take (spanN innB l), 0, 0⟩, spanN innB l)) e ∧ Fr Non w w' := by
  have HC := Lib.hid (fun V => while_inn l V (by omega))
  have hn := span_le innB l
  have hx := ext_to l (spanN innB l)
  generalize spanN innB l = n at *
  generalize l.take n = m at *
  go_enter Tryd.func21, Tryd.ntmps21
  go_wp2_with fail
  refine (HC.out _).mono ?_
  rintro e w1 ⟨rfl, hf1⟩
  obtain ⟨hB, hf⟩ := tkW_after hf1
  obtain ⟨c0, c1, c2, c3, z0, z1, z2, z3⟩ := hB.facts
  dsimp only [noTk] at c0 c1 c2 c3
  have HB := Lib.hid hB
  have HF := Lib.hid hf
  clear hf1 HC hB hf
  go_wp2
  exact bodyPost_ret (ret_tkW (p := 2) (u := 3) rfl _ _ w.heap.size ⟨1, m, 0, 0⟩ (.int .i64 (n : Int)) rfl rfl (setTk_W HB.out ⟨1, m, 0, 0⟩)) rfl ⟨rfl, setTk_end HF.out ⟨1, m, 0, 0⟩⟩

theorem wdigits_any (n : Int) (w : World) (hW : Lw w) (hn : I64b n) : Calls Tryd.prog 12 #[.int .i64 n] w fun e w' => e = .returned (.string ⟨(Lib.itoa n).toArray⟩) ∧ Fr Non w w' := by
  have H := Lib.hid (sfmt_any n w hW hn)
  go_enter Tryd.func12, Tryd.ntmps12
  go_wp2_with fail
  refine H.out.mono ?_
  rintro e w1 ⟨rfl, hf1⟩
  have HF := Lib.hid hf1
  clear hf1 H
  go_wp2
  go_ret
  exact ⟨rfl, HF.out⟩

/-- of how many bytes a number is -/
def sgnN (l : List UInt8) : Nat := if [45].isPrefixOf l then 1 else 0
def nszN (l : List UInt8) : Nat := sgnN l + spanN digB (l.drop (sgnN l))
theorem nsz_le (l : List UInt8) : sgnN l ≤ l.length ∧ nszN l ≤ l.length := by
  have h1 : sgnN l ≤ l.length := by
    unfold sgnN
    cases l with
    | nil => simp
    | cons c r => split <;> simp
  have := span_le digB (l.drop (sgnN l))
  rw [List.length_drop] at this
  unfold nszN
  exact ⟨h1, by omega⟩
theorem nsz_is {c : UInt8} {r : List UInt8} (h : (digB c || decide (c = 45)) = true) : nszN (c :: r) = 1 + spanN digB r := by
  unfold nszN sgnN
  by_cases hc : c = 45
  · subst hc
    rw [if_pos (by simp [List.isPrefixOf])]; rfl
  · rw [if_neg (by simp [List.isPrefixOf]; exact fun e => hc e.symm)]
    have hd : digB c = true := by simpa [hc] using h
    show 0 + spanN digB (c :: r) = _
    rw [span_yes hd]; omega
theorem trm_len (l : List UInt8) : (Lib.trimPrefix l [45]).length + sgnN l = l.length := by
  unfold Lib.trimPrefix Lib.hasPrefix sgnN
  split
  · rename_i h
    cases l with
    | nil => simp [List.isPrefixOf] at h
    | cons c r => simp
  · simp
theorem val_ok {l : List UInt8} {v : Int} (h : Lib.parseIntB 64 l = .ok v) : valB l = (if Lib.itoa v = l then some v else none) ∧ I64b v := by
  have hb := Lib.parseIntB_bounds h
  have e : (2 ^ (64 - 1) : Nat) = 9223372036854775808 := rfl
  rw [e] at hb
  refine ⟨?_, by unfold I64b; omega⟩
  unfold valB; rw [h]
theorem val_bad {l : List UInt8} (h : ∀ v, Lib.parseIntB 64 l ≠ .ok v) : valB l = none := by
  unfold valB
  rcases hp : Lib.parseIntB 64 l with v | _ | _
  · exact absurd hp (h v)
  · rfl
  · rfl

set_option maxHeartbeats 1000000 in
theorem wnumber_any (l : List UInt8) (w : World) (hW : Lw w) (hl : l.length ≤ 1000000) : Calls Tryd.prog 23 #[.string ⟨l.toArray⟩] w fun e w' => TkEnd ((valB (l.take (nszN l))).map fun v => (⟨2, [], v, 0⟩, nszN l)) e ∧ Fr Non w w' := by
  have HT := Lib.hid (fun V => strm_any l [45] V)
  have ht := trm_len l
  obtain ⟨hs, hn⟩ := nsz_le l
  have hx1 := ext_from l (sgnN l) hs
  have HC := Lib.hid (fun V => while_dig (l.drop (sgnN l)) V (by rw [List.length_drop]; omega))
  have hq := span_le digB (l.drop (sgnN l))
  rw [List.length_drop] at hq
  have hx2 := ext_to l (sgnN l + spanN digB (l.drop (sgnN l)))
  show Calls _ _ _ _ fun e w' => TkEnd ((valB (l.take (sgnN l + spanN digB (l.drop (sgnN l))))).map fun v => (⟨2, [], v, 0⟩, sgnN l + spanN digB (l.drop (sgnN l)))) e ∧ Fr Non w w'
  have HP := Lib.hid (fun V h => sprs_any (l.take (sgnN l + spanN digB (l.drop (sgnN l)))) V h (by rw [List.length_take]; omega))
  clear hn
  generalize Lib.trimPrefix l [45] = T at *
  generalize sgnN l = a at *
  generalize l.drop a = d at *
  generalize spanN digB d = q at *
  have hs2 : (a : Int) + (q : Int) = ((a + q : Nat) : Int) := by omega
  have hn : a + q ≤ l.length := by omega
  generalize a + q = n at *
  generalize l.take n = m at *
  have he : (l.length : Int) - (T.length : Int) = (a : Int) := by omega
  have HL := Lib.hid hW
  go_enter Tryd.func23, Tryd.ntmps23
  go_wp2_with fail
  refine (HT.out _).mono ?_
  rintro e w1 ⟨rfl, rfl⟩
  clear HT
  go_wp2_with fail
  refine (HC.out _).mono ?_
  rintro e w1 ⟨rfl, hf1⟩
  have HF1 := Lib.hid hf1
  clear hf1 HC
  go_wp2_with fail
  refine (HP.out _ (HL.out.non (((Fr.refl Non w).alloc _).then HF1.out))).mono ?_
  rintro e w2 ⟨hE, hf2⟩
  have HF2 := Lib.hid (HF1.out.trans hf2)
  clear hf2 HF1 HP
  rcases hE with ⟨v, hv, rfl⟩ | ⟨hno, x, ty, p, rfl⟩
  · obtain ⟨hv1, hv2⟩ := val_ok hv
    have HD := Lib.hid (fun V h => wdigits_any v V h hv2)
    have HV := Lib.hid hv1
    clear hv1 hv2 hv
    go_wp2_with fail
    have hL2 := (HL.out.non (((Fr.refl Non w).alloc _).then HF2.out)).drew
    go_region_held3 (fun _ => True) (exact trivial) (first | (go_at_call 12; refine (HD.out _ hL2).mono ?_; rintro e w3 ⟨rfl, hf3⟩))
    obtain ⟨hB, hf⟩ := tkW_after (HF2.out.drew.trans hf3)
    obtain ⟨c0, c1, c2, c3, z0, z1, z2, z3⟩ := hB.facts
    dsimp only [noTk] at c0 c1 c2 c3
    have HB := Lib.hid hB
    have HF := Lib.hid hf
    clear HF2 hB hf hf3 HD hL2
    cases hb : (Lib.itoa v == m) with
    | true =>
      replace HV := Lib.hid (HV.out.trans (if_pos (by simpa using hb)))
      go_wp2
      rw [HV.out]
      exact bodyPost_ret (ret_tkW (p := 2) (u := 3) rfl _ _ w.heap.size ⟨2, [], v, 0⟩ (.int .i64 (n : Int)) rfl rfl (setTk_W HB.out ⟨2, [], v, 0⟩)) rfl ⟨rfl, setTk_end HF.out ⟨2, [], v, 0⟩⟩
    | false =>
      replace HV := Lib.hid (HV.out.trans (if_neg (by simpa using hb)))
      go_wp2
      rw [HV.out]
      exact bodyPost_ret (ret_tkW (p := 2) (u := 3) rfl _ _ w.heap.size noTk (.int .i64 0) rfl rfl (setTk_W HB.out noTk)) rfl ⟨⟨noTk, rfl⟩, setTk_end HF.out noTk⟩
  · have HV := Lib.hid (val_bad hno)
    clear hno
    go_wp2_with fail
    go_quiet (fail)
    obtain ⟨hB, hf⟩ := tkW_after (HF2.out.drewN nq)
    obtain ⟨c0, c1, c2, c3, z0, z1, z2, z3⟩ := hB.facts
    dsimp only [noTk] at c0 c1 c2 c3
    have HB := Lib.hid hB
    have HF := Lib.hid hf
    clear HF2 hB hf
    generalize w2.drewN nq = W at *
    go_wp2
    rw [HV.out]
    exact bodyPost_ret (ret_tkW (p := 2) (u := 3) rfl _ _ w.heap.size noTk (.int .i64 0) rfl rfl (setTk_W HB.out noTk)) rfl ⟨⟨noTk, rfl⟩, setTk_end HF.out noTk⟩
end Go.Proofs.YtpapgfjainllpaaDoor


namespace Go.Proofs.YtpapgfjainllpaaDoor
set_option linter.unusedVariables false
set_option linter.unusedSimpArgs false
set_option maxRecDepth 100000
open Go.RowKit
theorem rlet_any (c : UInt8) (w : World) : Calls Tryd.prog 26 #[.int .u8 c.toNat] w fun e w' => e = .returned (.bool (letB c)) ∧ w = w' := by
  go_enter Tryd.func26, Tryd.ntmps26
  go_wp2
  all_goals
    go_ret
    refine ⟨?_, rfl⟩
    unfold letB
    refine congrArg (fun b => Ending.returned (Value.bool b)) ?_
    rw [Bool.eq_iff_iff]
    simp at *
    try omega
theorem rdig_any (c : UInt8) (w : World) : Calls Tryd.prog 27 #[.int .u8 c.toNat] w fun e w' => e = .returned (.bool (digB c)) ∧ w = w' := by
  go_enter Tryd.func27, Tryd.ntmps27
  go_wp2
  all_goals
    go_ret
    refine ⟨?_, rfl⟩
    unfold digB
    refine congrArg (fun b => Ending.returned (Value.bool b)) ?_
    rw [Bool.eq_iff_iff]
    simp at *
    try omega


/-- a byte alone, as a text -/
theorem conv_one (W : World) (z : Int) (c : UInt8) (h : z = (c.toNat : Int)) : (convert 47 9 (.slice (some ⟨W.heap.size, 0, none⟩) 1 1)).run Tryd.prog (W.alloc (.cells #[.int .u8 z] 5)) = .ok (.string ⟨[c].toArray⟩) (W.alloc (.cells #[.int .u8 z] 5)) := by
  subst h
  exact run_conv_Bs (bs_row W [c]) 47 9 5 Tryd.underlying47 Tryd.underlying5 Tryd.underlying9
theorem dg_big {x : Nat} (h : 9 < x) : Lib.decDigits x = Lib.decDigits (x / 10) ++ [UInt8.ofNat (48 + x % 10)] := by rw [Lib.decDigits, dif_neg (by omega)]
theorem dg_small {x : Nat} (h : ¬ 9 < x) : Lib.decDigits x = [UInt8.ofNat (48 + x)] := by rw [Lib.decDigits, dif_pos (by omega)]

set_option maxHeartbeats 1000000 in
theorem rdigits_up (u : Nat) (w : World) (hu : u ≤ 9223372036854775807) : Calls Tryd.prog 14 #[.int .i64 u] w fun e w' => e = .returned (.string ⟨(Lib.decDigits u).toArray⟩) ∧ Fr Non w w' := by
  have hneg : decide ((u : Int) < 0) = false := by simp
  have hdl : (Lib.decDigits u).length ≤ 19 := dec_le (k := 18) (by omega)
  go_enter Tryd.func14, Tryd.ntmps14
  go_wp2
  go_loopw [3, 4] (fun a b wr => ∃ (x : Nat) (s : List UInt8), a = .int .u64 (x : Int) ∧ b = .string ⟨s.toArray⟩ ∧ x ≤ 18446744073709551615 ∧ Fr Non w wr ∧ Hid (Lib.decDigits u = Lib.decDigits x ++ s)) (fun a _ _ => (intOf a).toNat)
  case atStart => exact ⟨u, [], rfl, rfl, by omega, Fr.refl _ _, Lib.hid (by simp)⟩
  case round =>
    obtain ⟨x, s, rfl, rfl, hx, hfr, hd⟩ := hrel
    have hsl : s.length ≤ 19 := by have := congrArg List.length hd.out; rw [List.length_append] at this; omega
    by_cases h9 : 9 < x
    · have hb : decide ((9 : Int) < (x : Int)) = true := by simp; omega
      have hc := conv_one wr (48 + (x : Int) % 10) (UInt8.ofNat (48 + x % 10)) (by rw [UInt8.toNat_ofNat']; omega)
      have HM := Lib.hid (hd.out.trans (by rw [dg_big h9, List.append_assoc] : _ = Lib.decDigits (x / 10) ++ ([UInt8.ofNat (48 + x % 10)] ++ s)))
      have ha := fun W => run_string_add_sum (P := Tryd.prog) W ⟨[UInt8.ofNat (48 + x % 10)].toArray⟩ ⟨s.toArray⟩ (by simp [ByteArray.size]; omega)
      have HF := Lib.hid hfr
      have hx10 : x / 10 < x := by omega
      clear hd hfr h9
      generalize UInt8.ofNat (48 + x % 10) = c at *
      go_wp2
      go_roundw
      case rel => exact ⟨x / 10, [c] ++ s, by push_cast; rfl, rfl, by omega, HF.out.alloc _, HM⟩
      case measure => simp [intOf]; omega
    · have hb : decide ((9 : Int) < (x : Int)) = false := by simp; omega
      have hx9 : (x : Int) ≤ 9 := by omega
      have hc := conv_one wr (48 + (x : Int)) (UInt8.ofNat (48 + x)) (by rw [UInt8.toNat_ofNat']; omega)
      have HM := Lib.hid (hd.out.trans (by rw [dg_small h9] : _ = [UInt8.ofNat (48 + x)] ++ s))
      have ha := fun W => run_string_add_sum (P := Tryd.prog) W ⟨[UInt8.ofNat (48 + x)].toArray⟩ ⟨s.toArray⟩ (by simp [ByteArray.size]; omega)
      have HF := Lib.hid hfr
      clear hd hfr h9
      generalize UInt8.ofNat (48 + x) = c at *
      go_wp2
      go_ret
      exact ⟨by rw [HM.out]; rfl, HF.out.alloc _⟩

set_option maxHeartbeats 1000000 in
theorem rdigits_dn (u : Nat) (w : World) (h1 : 1 ≤ u) (hu : u ≤ 9223372036854775808) : Calls Tryd.prog 14 #[.int .i64 (-(u : Int))] w fun e w' => e = .returned (.string ⟨(45 :: Lib.decDigits u).toArray⟩) ∧ Fr Non w w' := by
  have hneg : decide (-(u : Int) < 0) = true := by simp; omega
  have hpos : decide (0 < u) = true := by simp; omega
  have hwr : IntKind.u64.wrap (-IntKind.u64.wrap (-(u : Int))) = (u : Int) := by simp [IntKind.wrap, IntKind.bits, IntKind.signed]; omega
  have hdl : (Lib.decDigits u).length ≤ 19 := dec_le (k := 18) (by omega)
  go_enter Tryd.func14, Tryd.ntmps14
  go_wp2
  go_loopw [3, 4] (fun a b wr => ∃ (x : Nat) (s : List UInt8), a = .int .u64 (x : Int) ∧ b = .string ⟨s.toArray⟩ ∧ x ≤ 18446744073709551615 ∧ Fr Non w wr ∧ Hid (Lib.decDigits u = Lib.decDigits x ++ s)) (fun a _ _ => (intOf a).toNat)
  case atStart => exact ⟨u, [], rfl, rfl, by omega, Fr.refl _ _, Lib.hid (by simp)⟩
  case round =>
    obtain ⟨x, s, rfl, rfl, hx, hfr, hd⟩ := hrel
    have hsl : s.length ≤ 19 := by have := congrArg List.length hd.out; rw [List.length_append] at this; omega
    by_cases h9 : 9 < x
    · have hb : decide ((9 : Int) < (x : Int)) = true := by simp; omega
      have hc := conv_one wr (48 + (x : Int) % 10) (UInt8.ofNat (48 + x % 10)) (by rw [UInt8.toNat_ofNat']; omega)
      have HM := Lib.hid (hd.out.trans (by rw [dg_big h9, List.append_assoc] : _ = Lib.decDigits (x / 10) ++ ([UInt8.ofNat (48 + x % 10)] ++ s)))
      have ha := fun W => run_string_add_sum (P := Tryd.prog) W ⟨[UInt8.ofNat (48 + x % 10)].toArray⟩ ⟨s.toArray⟩ (by simp [ByteArray.size]; omega)
      have HF := Lib.hid hfr
      have hx10 : x / 10 < x := by omega
      clear hd hfr h9
      generalize UInt8.ofNat (48 + x % 10) = c at *
      go_wp2
      go_roundw
      case rel => exact ⟨x / 10, [c] ++ s, by push_cast; rfl, rfl, by omega, HF.out.alloc _, HM⟩
      case measure => simp [intOf]; omega
    · have hb : decide ((9 : Int) < (x : Int)) = false := by simp; omega
      have hx9 : (x : Int) ≤ 9 := by omega
      have hc := conv_one wr (48 + (x : Int)) (UInt8.ofNat (48 + x)) (by rw [UInt8.toNat_ofNat']; omega)
      have HM := Lib.hid (hd.out.trans (by rw [dg_small h9] : _ = [UInt8.ofNat (48 + x)] ++ s))
      have ha := fun W => run_string_add_sum (P := Tryd.prog) W ⟨[UInt8.ofNat (48 + x)].toArray⟩ ⟨s.toArray⟩ (by simp [ByteArray.size]; omega)
      have HF := Lib.hid hfr
      clear hd hfr h9
      generalize UInt8.ofNat (48 + x) = c at *
      have ha2 := fun W => run_string_add_sum (P := Tryd.prog) W ⟨#[45]⟩ (⟨[c].toArray⟩ ++ ⟨s.toArray⟩) (by simp [ByteArray.size]; omega)
      go_wp2
      go_ret
      exact ⟨by rw [HM.out]; rfl, HF.out.alloc _⟩

theorem rdigits_any (n : Int) (w : World) (hn : I64b n) : Calls Tryd.prog 14 #[.int .i64 n] w fun e w' => e = .returned (.string ⟨(Lib.itoa n).toArray⟩) ∧ Fr Non w w' := by
  unfold I64b at hn
  rcases int_ways n with ⟨u, rfl⟩ | ⟨u, hu, rfl⟩
  · rw [itoa_up]; exact rdigits_up u w (by omega)
  · rw [itoa_down u hu]; exact rdigits_dn u w hu (by omega)
end Go.Proofs.YtpapgfjainllpaaDoor


namespace Go.Proofs.YtpapgfjainllpaaDoor
set_option linter.unusedVariables false
set_option linter.unusedSimpArgs false
set_option maxRecDepth 100000
open Go.RowKit

theorem byteW {l : List UInt8} {k : Nat} {c : UInt8} (h : l[k]? = some c) : ∀ h : k < ByteArray.size ⟨l.toArray⟩, (⟨l.toArray⟩ : ByteArray)[k] = c := by
  intro hh
  obtain ⟨hk, rfl⟩ := List.getElem?_eq_some_iff.1 h
  simp [ByteArray.getElem_eq_getElem_data]
/-- so far -/
def NmI (d : List UInt8) (i n : Nat) : Prop := numD (d.take i) = n ∧ (d.take i).all digB = true
theorem nm_zero (d : List UInt8) : NmI d 0 0 := ⟨by rw [List.take_zero]; rfl, by rw [List.take_zero]; rfl⟩
theorem nm_more {d : List UInt8} {i n : Nat} {c : UInt8} (h : NmI d i n) (hc : d[i]? = some c) (hd : digB c = true) : NmI d (i + 1) (10 * n + (c.toNat - 48)) := by
  obtain ⟨hi, rfl⟩ := List.getElem?_eq_some_iff.1 hc
  unfold NmI
  rw [List.take_add_one, List.getElem?_eq_getElem hi]
  refine ⟨?_, by rw [List.all_append, h.2]; simpa using hd⟩
  unfold numD
  rw [numF_app]
  show 10 * numD (d.take i) + _ = _
  rw [h.1]
theorem nm_lt {d : List UInt8} {i n : Nat} (h : NmI d i n) (hi : i ≤ d.length) : n < 10 ^ i := by
  have := numF_lt (d.take i) 0 0 h.2 (by decide)
  have e : numF 0 (d.take i) = n := h.1
  rw [e, List.length_take, Nat.zero_add, Nat.min_eq_left hi] at this
  exact this
theorem wrapI (z : Int) : I64b (wrap64 z) := by
  unfold I64b wrap64
  omega
theorem val_up {l : List UInt8} {n : Nat} (h : NmI l l.length n) (h0 : l.head? ≠ some 45) : valB l = if Lib.itoa (wrap64 n) = l then some (wrap64 n) else none := by
  have hn : numD l = n := by have := h.1; rwa [List.take_length] at this
  refine valB_by (wrapI _) fun v hv he => ?_
  rcases itoa_shape hv he with ⟨e, _⟩ | ⟨d, e, _⟩
  · rw [hn] at e
    subst e
    unfold I64b at hv
    unfold wrap64; omega
  · rw [e] at h0; simp at h0
theorem val_dn {d : List UInt8} {n : Nat} (h : NmI d d.length n) : valB (45 :: d) = if Lib.itoa (wrap64 (IntKind.u64.wrap (-(n : Int)))) = 45 :: d then some (wrap64 (IntKind.u64.wrap (-(n : Int)))) else none := by
  have hn : numD d = n := by have := h.1; rwa [List.take_length] at this
  refine valB_by (wrapI _) fun v hv he => ?_
  rcases itoa_shape hv he with ⟨_, e, _⟩ | ⟨d', e, e2, _⟩
  · simp [digB] at e
  · obtain rfl : d = d' := by simpa using e
    rw [hn] at e2
    subst e2
    unfold I64b at hv
    simp [wrap64, IntKind.wrap, IntKind.bits, IntKind.signed]; omega
/-- no number: too short, too long, no digits -/
theorem val_not {l : List UInt8} {d : List UInt8} (h : l = d ∧ l.head? ≠ some 45 ∨ l = 45 :: d) (hb : ¬ (1 ≤ d.length ∧ d.length ≤ 19 ∧ d.all digB = true)) : valB l = none := by
  cases hv : valB l with
  | none => rfl
  | some v =>
    exfalso
    obtain ⟨h1, h2⟩ := valB_is hv
    rcases itoa_shape h1 h2 with ⟨_, e1, e2, e3⟩ | ⟨d', e0, _, e1, e2, e3⟩
    · rcases h with ⟨rfl, _⟩ | rfl
      · exact hb ⟨e2, e3, e1⟩
      · simp [digB] at e1
    · rcases h with ⟨rfl, h⟩ | rfl
      · rw [e0] at h; simp at h
      · obtain rfl : d = d' := by simpa using e0
        exact hb ⟨e2, e3, e1⟩

set_option maxHeartbeats 1000000 in
theorem rval_up (l : List UInt8) (w : World) (h0 : l.head? ≠ some 45) (h1 : 1 ≤ l.length) (h2 : l.length ≤ 19) : Calls Tryd.prog 28 #[.string ⟨l.toArray⟩] w fun e w' => ∃ x : Int, e = .returned (.tuple #[.int .i64 x, .bool (valB l).isSome]) ∧ (∀ v, valB l = some v → x = v) ∧ Fr Non w w' := by
  obtain ⟨c0, r, hd, hc0, _⟩ := drop_is (l := l) (k := 0) (by omega)
  have hg0 := byteW hc0
  have hb : decide (0 < l.length) = true := by simp; omega
  have hc45 : ((c0.toNat : Int) == 45) = false := by
    rw [beq_eq_false_iff_ne]; intro e
    rw [List.drop_zero] at hd
    rw [hd] at h0; simp at h0
    exact h0 ((byt_is c0 45 (by omega)).2 (by omega))
  have HL := Lib.hid h0
  clear h0 hd
  have hb1 : decide ((l.length : Int) < 1) = false := by simp; omega
  have hb2 : decide ((19 : Int) < (l.length : Int)) = false := by simp; omega
  go_enter Tryd.func28, Tryd.ntmps28
  go_wp2
  clear hb hb1 hb2 hg0
  go_loopw [6, 7] (fun a b wr => ∃ n i : Nat, a = .int .u64 (n : Int) ∧ b = .int .i64 (i : Int) ∧ i ≤ l.length ∧ Fr Non w wr ∧ Hid (NmI l i n)) (fun _ b _ => l.length - (intOf b).toNat)
  case atStart => exact ⟨0, 0, rfl, rfl, by omega, Fr.refl _ _, Lib.hid (nm_zero _)⟩
  case round =>
    obtain ⟨n, i, rfl, rfl, hi, hfr, hn⟩ := hrel
    by_cases hlt : i < l.length
    · obtain ⟨c, r, _, hc, _⟩ := drop_is hlt
      have hg := byteW hc
      have HD := Lib.hid (fun V => rdig_any c V)
      have hnl := nm_lt hn.out hi
      have hn18 : n < 1000000000000000000 := Nat.lt_of_lt_of_le hnl (Nat.le_trans (Nat.pow_le_pow_right (by decide) (show i ≤ 18 by omega)) (by decide))
      cases hd : digB c with
      | true =>
        have HM := Lib.hid (nm_more hn.out hc hd)
        rw [hd] at HD
        simp only [digB, decide_eq_true_eq] at hd
        clear hnl hn
        go_wp2_with fail
        refine (HD.out _).mono ?_
        rintro e w1 ⟨rfl, rfl⟩
        clear HD
        go_wp2
        go_roundw
        case rel => exact ⟨_, i + 1, congrArg (Value.int .u64) (by omega), by push_cast; rfl, by omega, hfr, HM⟩
        case measure => simp [intOf]; omega
      | false =>
        have HN := Lib.hid (val_not (.inl ⟨rfl, HL.out⟩) (fun h => by
          have := List.all_eq_true.1 h.2.2 c (List.mem_of_getElem? hc)
          rw [hd] at this; cases this))
        rw [hd] at HD
        clear hnl hn hd
        go_wp2_with fail
        refine (HD.out _).mono ?_
        rintro e w1 ⟨rfl, rfl⟩
        clear HD
        have HF := Lib.hid hfr
        clear hfr
        go_wp2
        go_ret2
        exact ⟨0, by rw [HN.out]; rfl, (fun v hv => by rw [HN.out] at hv; cases hv), HF.out⟩
    · obtain rfl : i = l.length := by omega
      have HV := Lib.hid (val_up hn.out HL.out)
      have HI := Lib.hid (fun V => rdigits_any (wrap64 n) V (wrapI _))
      have HF := Lib.hid hfr
      clear hn hfr
      go_wp2_with fail
      refine (HI.out _).mono ?_
      rintro e w1 ⟨rfl, f1⟩
      generalize wrap64 n = x at *
      have HF1 := Lib.hid (HF.out.then f1)
      clear HI HF f1
      cases hb : (Lib.itoa x == l) with
      | true =>
        replace HV := Lib.hid (HV.out.trans (if_pos (by simpa using hb)))
        go_wp2
        go_ret2
        exact ⟨x, by rw [HV.out]; rfl, (fun v hv => by rw [HV.out] at hv; exact Option.some.inj hv), HF1.out⟩
      | false =>
        replace HV := Lib.hid (HV.out.trans (if_neg (by simpa using hb)))
        go_wp2
        go_ret2
        exact ⟨x, by rw [HV.out]; rfl, (fun v hv => by rw [HV.out] at hv; cases hv), HF1.out⟩

set_option maxHeartbeats 1000000 in
theorem rval_dn (l d : List UInt8) (w : World) (h0 : l = 45 :: d) (h1 : 1 ≤ d.length) (h2 : d.length ≤ 19) : Calls Tryd.prog 28 #[.string ⟨l.toArray⟩] w fun e w' => ∃ x : Int, e = .returned (.tuple #[.int .i64 x, .bool (valB l).isSome]) ∧ (∀ v, valB l = some v → x = v) ∧ Fr Non w w' := by
  have hg0 := byteW (l := l) (k := 0) (c := 45) (by rw [h0]; rfl)
  have hb : decide (0 < l.length) = true := by rw [h0]; simp
  have hx := ext_from l 1 (by rw [h0]; simp)
  have hxd : l.drop 1 = d := by rw [h0]; rfl
  rw [hxd] at hx
  have hll : l.length = d.length + 1 := by rw [h0]; simp
  rw [hll] at hx
  have HL := Lib.hid h0
  clear h0 hxd
  have hb1 : decide ((d.length : Int) < 1) = false := by simp; omega
  have hb2 : decide ((19 : Int) < (d.length : Int)) = false := by simp; omega
  go_enter Tryd.func28, Tryd.ntmps28
  go_wp2
  clear hb hb1 hb2 hg0 hx
  go_loopw [6, 7] (fun a b wr => ∃ n i : Nat, a = .int .u64 (n : Int) ∧ b = .int .i64 (i : Int) ∧ i ≤ d.length ∧ Fr Non w wr ∧ Hid (NmI d i n)) (fun _ b _ => d.length - (intOf b).toNat)
  case atStart => exact ⟨0, 0, rfl, rfl, by omega, Fr.refl _ _, Lib.hid (nm_zero _)⟩
  case round =>
    obtain ⟨n, i, rfl, rfl, hi, hfr, hn⟩ := hrel
    by_cases hlt : i < d.length
    · obtain ⟨c, r, _, hc, _⟩ := drop_is hlt
      have hg := byteW hc
      have HD := Lib.hid (fun V => rdig_any c V)
      have hnl := nm_lt hn.out hi
      have hn18 : n < 1000000000000000000 := Nat.lt_of_lt_of_le hnl (Nat.le_trans (Nat.pow_le_pow_right (by decide) (show i ≤ 18 by omega)) (by decide))
      cases hd : digB c with
      | true =>
        have HM := Lib.hid (nm_more hn.out hc hd)
        rw [hd] at HD
        simp only [digB, decide_eq_true_eq] at hd
        clear hnl hn
        go_wp2_with fail
        refine (HD.out _).mono ?_
        rintro e w1 ⟨rfl, rfl⟩
        clear HD
        go_wp2
        go_roundw
        case rel => exact ⟨_, i + 1, congrArg (Value.int .u64) (by omega), by push_cast; rfl, by omega, hfr, HM⟩
        case measure => simp [intOf]; omega
      | false =>
        have HN := Lib.hid (val_not (.inr HL.out) (fun h => by
          have := List.all_eq_true.1 h.2.2 c (List.mem_of_getElem? hc)
          rw [hd] at this; cases this))
        rw [hd] at HD
        clear hnl hn hd
        go_wp2_with fail
        refine (HD.out _).mono ?_
        rintro e w1 ⟨rfl, rfl⟩
        clear HD
        have HF := Lib.hid hfr
        clear hfr
        go_wp2
        go_ret2
        exact ⟨0, by rw [HN.out]; rfl, (fun v hv => by rw [HN.out] at hv; cases hv), HF.out⟩
    · obtain rfl : i = d.length := by omega
      have HV := Lib.hid (HL.out ▸ val_dn hn.out)
      have HI := Lib.hid (fun V => rdigits_any (wrap64 (IntKind.u64.wrap (-(n : Int)))) V (wrapI _))
      have HF := Lib.hid hfr
      clear hn hfr
      go_wp2_with fail
      refine (HI.out _).mono ?_
      rintro e w1 ⟨rfl, f1⟩
      generalize wrap64 (IntKind.u64.wrap (-(n : Int))) = x at *
      have HF1 := Lib.hid (HF.out.then f1)
      clear HI HF f1
      cases hb : (Lib.itoa x == l) with
      | true =>
        replace HV := Lib.hid (HV.out.trans (if_pos (by simpa using hb)))
        go_wp2
        go_ret2
        exact ⟨x, by rw [HV.out]; rfl, (fun v hv => by rw [HV.out] at hv; exact Option.some.inj hv), HF1.out⟩
      | false =>
        replace HV := Lib.hid (HV.out.trans (if_neg (by simpa using hb)))
        go_wp2
        go_ret2
        exact ⟨x, by rw [HV.out]; rfl, (fun v hv => by rw [HV.out] at hv; cases hv), HF1.out⟩

theorem rval_ulong (l : List UInt8) (w : World) (h0 : l.head? ≠ some 45) (h1 : 19 < l.length) (hl : l.length ≤ 1000000) : Calls Tryd.prog 28 #[.string ⟨l.toArray⟩] w fun e w' => ∃ x : Int, e = .returned (.tuple #[.int .i64 x, .bool (valB l).isSome]) ∧ (∀ v, valB l = some v → x = v) ∧ Fr Non w w' := by
  have HN := Lib.hid (val_not (.inl ⟨rfl, h0⟩) (fun h => by omega))
  obtain ⟨c0, r, hd, hc0, _⟩ := drop_is (l := l) (k := 0) (by omega)
  have hg0 := byteW hc0
  have hb : decide (0 < l.length) = true := by simp; omega
  have hc45 : ((c0.toNat : Int) == 45) = false := by
    rw [beq_eq_false_iff_ne]; intro e
    rw [List.drop_zero] at hd
    rw [hd] at h0; simp at h0
    exact h0 ((byt_is c0 45 (by omega)).2 (by omega))
  clear h0 hd
  have hb1 : decide ((l.length : Int) < 1) = false := by simp; omega
  have hb2 : decide ((19 : Int) < (l.length : Int)) = true := by simp; omega
  go_enter Tryd.func28, Tryd.ntmps28
  go_wp2
  go_ret2
  exact ⟨0, by rw [HN.out]; rfl, (fun v hv => by rw [HN.out] at hv; cases hv), Fr.refl _ _⟩

theorem rval_dnone (l d : List UInt8) (w : World) (h0 : l = 45 :: d) (h1 : d.length < 1) (hl : l.length ≤ 1000000) : Calls Tryd.prog 28 #[.string ⟨l.toArray⟩] w fun e w' => ∃ x : Int, e = .returned (.tuple #[.int .i64 x, .bool (valB l).isSome]) ∧ (∀ v, valB l = some v → x = v) ∧ Fr Non w w' := by
  have HN := Lib.hid (val_not (.inr h0) (fun h => by omega))
  have hg0 := byteW (l := l) (k := 0) (c := 45) (by rw [h0]; rfl)
  have hb : decide (0 < l.length) = true := by rw [h0]; simp
  have hx := ext_from l 1 (by rw [h0]; simp)
  have hxd : l.drop 1 = d := by rw [h0]; rfl
  rw [hxd] at hx
  have hll : l.length = d.length + 1 := by rw [h0]; simp
  rw [hll] at hx
  have HL := Lib.hid h0
  clear h0 hxd
  have hb1 : decide ((d.length : Int) < 1) = true := by simp; omega
  go_enter Tryd.func28, Tryd.ntmps28
  go_wp2
  go_ret2
  exact ⟨0, by rw [HN.out]; rfl, (fun v hv => by rw [HN.out] at hv; cases hv), Fr.refl _ _⟩

theorem rval_dlong (l d : List UInt8) (w : World) (h0 : l = 45 :: d) (h1 : 19 < d.length) (hl : l.length ≤ 1000000) : Calls Tryd.prog 28 #[.string ⟨l.toArray⟩] w fun e w' => ∃ x : Int, e = .returned (.tuple #[.int .i64 x, .bool (valB l).isSome]) ∧ (∀ v, valB l = some v → x = v) ∧ Fr Non w w' := by
  have HN := Lib.hid (val_not (.inr h0) (fun h => by omega))
  have hg0 := byteW (l := l) (k := 0) (c := 45) (by rw [h0]; rfl)
  have hb : decide (0 < l.length) = true := by rw [h0]; simp
  have hx := ext_from l 1 (by rw [h0]; simp)
  have hxd : l.drop 1 = d := by rw [h0]; rfl
  rw [hxd] at hx
  have hll : l.length = d.length + 1 := by rw [h0]; simp
  rw [hll] at hx
  have HL := Lib.hid h0
  clear h0 hxd
  have hb1 : decide ((d.length : Int) < 1) = false := by simp; omega
  have hb2 : decide ((19 : Int) < (d.length : Int)) = true := by simp; omega
  go_enter Tryd.func28, Tryd.ntmps28
  go_wp2
  go_ret2
  exact ⟨0, by rw [HN.out]; rfl, (fun v hv => by rw [HN.out] at hv; cases hv), Fr.refl _ _⟩

theorem rval_nil (w : World) : Calls Tryd.prog 28 #[.string ⟨([] : List UInt8).toArray⟩] w fun e w' => ∃ x : Int, e = .returned (.tuple #[.int .i64 x, .bool (valB []).isSome]) ∧ (∀ v, valB [] = some v → x = v) ∧ Fr Non w w' := by
  have HN := Lib.hid (val_not (l := []) (d := []) (.inl ⟨rfl, by simp⟩) (fun h => by simp at h))
  go_enter Tryd.func28, Tryd.ntmps28
  go_wp2
  go_ret2
  exact ⟨0, by rw [HN.out]; rfl, (fun v hv => by rw [HN.out] at hv; cases hv), Fr.refl _ _⟩

theorem rvalue_any (l : List UInt8) (w : World) (hl : l.length ≤ 1000000) : Calls Tryd.prog 28 #[.string ⟨l.toArray⟩] w fun e w' => ∃ x : Int, e = .returned (.tuple #[.int .i64 x, .bool (valB l).isSome]) ∧ (∀ v, valB l = some v → x = v) ∧ Fr Non w w' := by
  by_cases hn : l = []
  · subst hn; exact rval_nil w
  by_cases h0 : l.head? = some 45
  · obtain ⟨d, hd⟩ : ∃ d, l = 45 :: d := by
      cases l with
      | nil => simp at h0
      | cons c r => simp at h0; exact ⟨r, by rw [h0]⟩
    by_cases h1 : d.length < 1
    · exact rval_dnone l d w hd h1 hl
    by_cases h2 : 19 < d.length
    · exact rval_dlong l d w hd h2 hl
    · exact rval_dn l d w hd (by omega) (by omega)
  · have hp := List.length_pos_iff.2 hn
    by_cases h2 : 19 < l.length
    · exact rval_ulong l w h0 h2 hl
    · exact rval_up l w h0 hp (by omega)
end Go.Proofs.YtpapgfjainllpaaDoor


namespace Go.Proofs.YtpapgfjainllpaaDoor
set_option linter.unusedVariables false
set_option linter.unusedSimpArgs false
set_option maxRecDepth 100000
open Go.RowKit

theorem mk_next {l m : List UInt8} {i : Nat} (hi : marksL[i]? = some m) (h : mkT l = (marksL.drop i).find? fun m => m.isPrefixOf l) (hp : m.isPrefixOf l = false) : mkT l = (marksL.drop (i + 1)).find? fun m => m.isPrefixOf l := by
  obtain ⟨hlt, rfl⟩ := List.getElem?_eq_some_iff.1 hi
  rw [h, List.drop_eq_getElem_cons hlt, List.find?_cons_of_neg (by simp [hp])]
theorem mk_hit {l m : List UInt8} {i : Nat} (hi : marksL[i]? = some m) (h : mkT l = (marksL.drop i).find? fun m => m.isPrefixOf l) (hp : m.isPrefixOf l = true) : mkT l = some m := by
  obtain ⟨hlt, rfl⟩ := List.getElem?_eq_some_iff.1 hi
  rw [h, List.drop_eq_getElem_cons hlt, List.find?_cons_of_pos (by simp [hp])]
theorem mk_none {l : List UInt8} (h : mkT l = (marksL.drop 10).find? fun m => m.isPrefixOf l) : mkT l = none := h

/-- an element of the table -/
theorem idx_marks : (∀ W : World, (Instr.index 63 (.agg #[.string ⟨#[60, 62]⟩, .string ⟨#[60, 61]⟩, .string ⟨#[62, 61]⟩, .string ⟨#[60]⟩, .string ⟨#[62]⟩, .string ⟨#[61]⟩, .string ⟨#[44]⟩, .string ⟨#[40]⟩, .string ⟨#[41]⟩, .string ⟨#[42]⟩]) (.int .i64 0)).run Tryd.prog W = .ok (.string ⟨#[60, 62]⟩) W) ∧
    (∀ W : World, (Instr.index 63 (.agg #[.string ⟨#[60, 62]⟩, .string ⟨#[60, 61]⟩, .string ⟨#[62, 61]⟩, .string ⟨#[60]⟩, .string ⟨#[62]⟩, .string ⟨#[61]⟩, .string ⟨#[44]⟩, .string ⟨#[40]⟩, .string ⟨#[41]⟩, .string ⟨#[42]⟩]) (.int .i64 1)).run Tryd.prog W = .ok (.string ⟨#[60, 61]⟩) W) ∧
    (∀ W : World, (Instr.index 63 (.agg #[.string ⟨#[60, 62]⟩, .string ⟨#[60, 61]⟩, .string ⟨#[62, 61]⟩, .string ⟨#[60]⟩, .string ⟨#[62]⟩, .string ⟨#[61]⟩, .string ⟨#[44]⟩, .string ⟨#[40]⟩, .string ⟨#[41]⟩, .string ⟨#[42]⟩]) (.int .i64 2)).run Tryd.prog W = .ok (.string ⟨#[62, 61]⟩) W) ∧
    (∀ W : World, (Instr.index 63 (.agg #[.string ⟨#[60, 62]⟩, .string ⟨#[60, 61]⟩, .string ⟨#[62, 61]⟩, .string ⟨#[60]⟩, .string ⟨#[62]⟩, .string ⟨#[61]⟩, .string ⟨#[44]⟩, .string ⟨#[40]⟩, .string ⟨#[41]⟩, .string ⟨#[42]⟩]) (.int .i64 3)).run Tryd.prog W = .ok (.string ⟨#[60]⟩) W) ∧
    (∀ W : World, (Instr.index 63 (.agg #[.string ⟨#[60, 62]⟩, .string ⟨#[60, 61]⟩, .string ⟨#[62, 61]⟩, .string ⟨#[60]⟩, .string ⟨#[62]⟩, .string ⟨#[61]⟩, .string ⟨#[44]⟩, .string ⟨#[40]⟩, .string ⟨#[41]⟩, .string ⟨#[42]⟩]) (.int .i64 4)).run Tryd.prog W = .ok (.string ⟨#[62]⟩) W) ∧
    (∀ W : World, (Instr.index 63 (.agg #[.string ⟨#[60, 62]⟩, .string ⟨#[60, 61]⟩, .string ⟨#[62, 61]⟩, .string ⟨#[60]⟩, .string ⟨#[62]⟩, .string ⟨#[61]⟩, .string ⟨#[44]⟩, .string ⟨#[40]⟩, .string ⟨#[41]⟩, .string ⟨#[42]⟩]) (.int .i64 5)).run Tryd.prog W = .ok (.string ⟨#[61]⟩) W) ∧
    (∀ W : World, (Instr.index 63 (.agg #[.string ⟨#[60, 62]⟩, .string ⟨#[60, 61]⟩, .string ⟨#[62, 61]⟩, .string ⟨#[60]⟩, .string ⟨#[62]⟩, .string ⟨#[61]⟩, .string ⟨#[44]⟩, .string ⟨#[40]⟩, .string ⟨#[41]⟩, .string ⟨#[42]⟩]) (.int .i64 6)).run Tryd.prog W = .ok (.string ⟨#[44]⟩) W) ∧
    (∀ W : World, (Instr.index 63 (.agg #[.string ⟨#[60, 62]⟩, .string ⟨#[60, 61]⟩, .string ⟨#[62, 61]⟩, .string ⟨#[60]⟩, .string ⟨#[62]⟩, .string ⟨#[61]⟩, .string ⟨#[44]⟩, .string ⟨#[40]⟩, .string ⟨#[41]⟩, .string ⟨#[42]⟩]) (.int .i64 7)).run Tryd.prog W = .ok (.string ⟨#[40]⟩) W) ∧
    (∀ W : World, (Instr.index 63 (.agg #[.string ⟨#[60, 62]⟩, .string ⟨#[60, 61]⟩, .string ⟨#[62, 61]⟩, .string ⟨#[60]⟩, .string ⟨#[62]⟩, .string ⟨#[61]⟩, .string ⟨#[44]⟩, .string ⟨#[40]⟩, .string ⟨#[41]⟩, .string ⟨#[42]⟩]) (.int .i64 8)).run Tryd.prog W = .ok (.string ⟨#[41]⟩) W) ∧
    (∀ W : World, (Instr.index 63 (.agg #[.string ⟨#[60, 62]⟩, .string ⟨#[60, 61]⟩, .string ⟨#[62, 61]⟩, .string ⟨#[60]⟩, .string ⟨#[62]⟩, .string ⟨#[61]⟩, .string ⟨#[44]⟩, .string ⟨#[40]⟩, .string ⟨#[41]⟩, .string ⟨#[42]⟩]) (.int .i64 9)).run Tryd.prog W = .ok (.string ⟨#[42]⟩) W) :=
  ⟨fun _ => by kernel_rfl, fun _ => by kernel_rfl, fun _ => by kernel_rfl, fun _ => by kernel_rfl, fun _ => by kernel_rfl, fun _ => by kernel_rfl, fun _ => by kernel_rfl, fun _ => by kernel_rfl, fun _ => by kernel_rfl, fun _ => by kernel_rfl⟩

set_option maxHeartbeats 1000000 in
theorem wmark_any (l : List UInt8) (w : World) (hW : Lw w) (hl : l.length ≤ 1000000) : Calls Tryd.prog 25 #[.string ⟨l.toArray⟩] w fun e w' => TkEnd ((mkT l).map fun t => (⟨4, t, 0, 0⟩, t.length)) e ∧ Fr Non w w' := by
  have hM := (hW.alloc (.cells #[.int .i64 0, .string ⟨#[]⟩, .int .i64 0, .int .i64 0] 36)).marks
  have m0 := hM 0 (by decide)
  have m1 := hM 1 (by decide)
  have m2 := hM 2 (by decide)
  have m3 := hM 3 (by decide)
  have m4 := hM 4 (by decide)
  have m5 := hM 5 (by decide)
  have m6 := hM 6 (by decide)
  have m7 := hM 7 (by decide)
  have m8 := hM 8 (by decide)
  have m9 := hM 9 (by decide)
  simp only [marksL, List.getElem_cons_succ, List.getElem_cons_zero] at m0 m1 m2 m3 m4 m5 m6 m7 m8 m9
  clear hM
  go_enter Tryd.func25, Tryd.ntmps25
  go_wp2
  have HF := Lib.hid (tkW_after (w := w) (Fr.refl Non _))
  obtain ⟨x0, x1, x2, x3, x4, x5, x6, x7, x8, x9⟩ := idx_marks
  go_loopw [7] (fun v wr => ∃ i : Nat, i ≤ 10 ∧ v = .int .i64 (i : Int) ∧ wr = w.alloc (.cells #[.int .i64 0, .string ⟨#[]⟩, .int .i64 0, .int .i64 0] 36) ∧ Hid (mkT l = (marksL.drop i).find? fun m => m.isPrefixOf l)) (fun v _ => 10 - (intOf v).toNat)
  case atStart => exact ⟨0, by omega, rfl, rfl, Lib.hid rfl⟩
  case round =>
    obtain ⟨i, hi, rfl, rfl, hd⟩ := hrel
    obtain ⟨hB, hf⟩ := HF.out
    obtain ⟨c0, c1, c2, c3, z0, z1, z2, z3⟩ := hB.facts
    dsimp only [noTk] at c0 c1 c2 c3
    clear hB hf m0 m1 m2 m3 m4 m5 m6 m7 m8 m9
    generalize w.alloc (.cells #[.int .i64 0, .string ⟨#[]⟩, .int .i64 0, .int .i64 0] 36) = W at *
    by_cases h10 : i = 10
    · subst h10
      have HE := Lib.hid (mk_none hd.out)
      clear hd
      go_wp2
      rw [HE.out]
      exact bodyPost_ret (ret_tkW (p := 2) (u := 3) rfl _ _ w.heap.size noTk (.int .i64 0) rfl rfl (setTk_W HF.out.1 noTk)) rfl ⟨⟨noTk, rfl⟩, setTk_end HF.out.2 noTk⟩
    · obtain ⟨m, hm⟩ : ∃ m, marksL[i]? = some m := ⟨marksL[i]'(by show i < 10; omega), List.getElem?_eq_getElem _⟩
      have HP := Lib.hid (fun V => shas_any l m V)
      cases hp : m.isPrefixOf l with
      | true =>
        have HE := Lib.hid (mk_hit hm hd.out hp)
        rw [hp] at HP
        clear hd hp
        rcases (by omega : i = 0 ∨ i = 1 ∨ i = 2 ∨ i = 3 ∨ i = 4 ∨ i = 5 ∨ i = 6 ∨ i = 7 ∨ i = 8 ∨ i = 9) with rfl | rfl | rfl | rfl | rfl | rfl | rfl | rfl | rfl | rfl
        all_goals
          simp only [marksL, List.getElem?_cons_succ, List.getElem?_cons_zero, Option.some.injEq] at hm
          subst hm
          go_wp2_with fail
          refine (HP.out _).mono ?_
          rintro e w1 ⟨rfl, rfl⟩
          clear HP
          go_wp2
          rw [HE.out]
          exact bodyPost_ret (ret_tkW (p := 2) (u := 3) rfl _ _ w.heap.size ⟨4, _, 0, 0⟩ _ rfl rfl (setTk_W HF.out.1 ⟨4, _, 0, 0⟩)) rfl ⟨rfl, setTk_end HF.out.2 ⟨4, _, 0, 0⟩⟩
      | false =>
        have HE := Lib.hid (mk_next hm hd.out hp)
        rw [hp] at HP
        clear hd hp
        rcases (by omega : i = 0 ∨ i = 1 ∨ i = 2 ∨ i = 3 ∨ i = 4 ∨ i = 5 ∨ i = 6 ∨ i = 7 ∨ i = 8 ∨ i = 9) with rfl | rfl | rfl | rfl | rfl | rfl | rfl | rfl | rfl | rfl
        all_goals
          simp only [marksL, List.getElem?_cons_succ, List.getElem?_cons_zero, Option.some.injEq] at hm
          subst hm
          go_wp2_with fail
          refine (HP.out _).mono ?_
          rintro e w1 ⟨rfl, rfl⟩
          clear HP
          go_wp2
          go_roundw
          case rel => refine ⟨_, ?_, ?_, ?_, HE⟩ <;> first | trivial | rfl | omega
          case measure => simp [intOf]

/-! ### The first word -/
theorem TkEnd.is_ {x : Option (Tk × Nat)} {e : Ending} (h : TkEnd x e) : ∃ (t : Tk) (n : Nat), e = .returned (.tuple #[.agg #[.int .i64 t.kind, .string ⟨t.txt.toArray⟩, .int .i64 t.num, .int .i64 t.at_], .int .i64 (n : Int)]) ∧ Hid (TkEnd x (.returned (.tuple #[tkV t, .int .i64 (n : Int)]))) := by
  cases x with
  | none => obtain ⟨t, rfl⟩ := h; exact ⟨t, 0, rfl, Lib.hid ⟨t, rfl⟩⟩
  | some x => obtain ⟨t, n⟩ := x; exact ⟨t, n, h, Lib.hid rfl⟩

set_option maxHeartbeats 1000000 in
theorem wfirst_any (c : UInt8) (r : List UInt8) (l : List UInt8) (hcr : l = c :: r) (w : World) (hW : Lw w) (hl : l.length ≤ 1000000) : Calls Tryd.prog 16 #[.int .i32 ((dcU l).1 : Nat), .string ⟨l.toArray⟩] w fun e w' => TkEnd (oneB l) e ∧ Fr Non w w' := by
  have h1 : 1 ≤ l.length := by rw [hcr]; simp
  have HL := Lib.hid (fun V => wletter_any (dcU l).1 V)
  have HD := Lib.hid (fun V => wdigit_any (dcU l).1 V)
  have e1 : letR (dcU l).1 = letB c := by rw [hcr]; exact let_rune c r
  have e2 : digR (dcU l).1 = digB c := by rw [hcr]; exact dig_rune c r
  have e3 : ((dcU l).1 = 45) ↔ c = 45 := by rw [hcr]; exact is_rune 45 (by omega) c r
  have e4 : ((dcU l).1 = 39) ↔ c = 39 := by rw [hcr]; exact is_rune 39 (by omega) c r
  have HN := Lib.hid (fun V => wname_any l V hl)
  have HU := Lib.hid (fun V h => wnumber_any l V h hl)
  have HT := Lib.hid (fun V h => wtext_any l V h h1 hl)
  have HM := Lib.hid (fun V h => wmark_any l V h hl)
  have hO : oneB l = if letB c then some (⟨1, l.take (spanN innB l), 0, 0⟩, spanN innB l) else if digB c || decide (c = 45) then (valB (l.take (nszN l))).map fun v => (⟨2, [], v, 0⟩, nszN l)
      else if c = 39 then (qtB (l.drop 1)).map fun x => (⟨3, x.1, 0, 0⟩, x.2 + 1) else (mkT l).map fun t => (⟨4, t, 0, 0⟩, t.length) := by
    rw [hcr]
    by_cases hd : (digB c || decide (c = 45)) = true
    · rw [nsz_is hd]; rfl
    · simp only [oneB, if_neg hd]; rfl
  rw [e1] at HL
  rw [e2] at HD
  have HW := Lib.hid (hW.alloc (.cells #[.int .i64 0, .string ⟨#[]⟩, .int .i64 0, .int .i64 0] 36))
  have HO := Lib.hid hO
  clear e1 e2 hO hcr h1
  generalize (dcU l).1 = x at *
  have HF0 := Lib.hid (tkW_after (w := w) (Fr.refl Non _))
  cases hl1 : letB c with
  | true =>
    rw [hl1] at HL
    replace HO := Lib.hid (HO.out.trans (if_pos hl1))
    replace HN := Lib.hid (HN.out (w.alloc (.cells #[.int .i64 0, .string ⟨#[]⟩, .int .i64 0, .int .i64 0] 36)))
    clear HU HT HM HD
    go_enter Tryd.func16, Tryd.ntmps16
    go_wp2_with fail
    refine (HL.out _).mono ?_
    rintro e w1 ⟨rfl, rfl⟩
    go_wp2_with fail
    refine HN.out.mono ?_
    rintro e w2 ⟨hE, hf2⟩
    obtain ⟨t, n, rfl, HE⟩ := hE.is_
    obtain ⟨hB, hf⟩ := tkW_after hf2
    obtain ⟨c0, c1, c2, c3, z0, z1, z2, z3⟩ := hB.facts
    dsimp only [noTk] at c0 c1 c2 c3
    have HB := Lib.hid hB
    have HF := Lib.hid hf
    clear hE hf2 hB hf
    go_wp2
    rw [HO.out]
    exact bodyPost_ret (ret_tkW (p := 4) (u := 5) rfl _ _ w.heap.size t (.int .i64 (n : Int)) rfl rfl (setTk_W HB.out t)) rfl ⟨HE.out, setTk_end HF.out t⟩
  | false =>
    rw [hl1] at HL
    replace HO := Lib.hid (HO.out.trans (if_neg (by rw [hl1]; simp)))
    clear HN
    by_cases hd : (digB c || decide (c = 45)) = true
    · replace HO := Lib.hid (HO.out.trans (if_pos hd))
      replace HU := Lib.hid (HU.out (w.alloc (.cells #[.int .i64 0, .string ⟨#[]⟩, .int .i64 0, .int .i64 0] 36)) HW.out)
      clear HT HM
      cases hd1 : digB c with
      | true =>
        rw [hd1] at HD
        clear hd
        go_enter Tryd.func16, Tryd.ntmps16
        go_wp2_with fail
        refine (HL.out _).mono ?_
        rintro e w1 ⟨rfl, rfl⟩
        go_wp2_with fail
        refine (HD.out _).mono ?_
        rintro e w1 ⟨rfl, rfl⟩
        go_wp2_with fail
        refine HU.out.mono ?_
        rintro e w2 ⟨hE, hf2⟩
        obtain ⟨t, n, rfl, HE⟩ := hE.is_
        obtain ⟨hB, hf⟩ := tkW_after hf2
        obtain ⟨c0, c1, c2, c3, z0, z1, z2, z3⟩ := hB.facts
        dsimp only [noTk] at c0 c1 c2 c3
        have HB := Lib.hid hB
        have HF := Lib.hid hf
        clear hE hf2 hB hf
        go_wp2
        rw [HO.out]
        exact bodyPost_ret (ret_tkW (p := 4) (u := 5) rfl _ _ w.heap.size t (.int .i64 (n : Int)) rfl rfl (setTk_W HB.out t)) rfl ⟨HE.out, setTk_end HF.out t⟩
      | false =>
        rw [hd1] at HD
        have hx : x = 45 := e3.2 (by simpa [hd1] using hd)
        subst hx
        clear hd e3 e4
        go_enter Tryd.func16, Tryd.ntmps16
        go_wp2_with fail
        refine (HL.out _).mono ?_
        rintro e w1 ⟨rfl, rfl⟩
        go_wp2_with fail
        refine (HD.out _).mono ?_
        rintro e w1 ⟨rfl, rfl⟩
        go_wp2_with fail
        refine HU.out.mono ?_
        rintro e w2 ⟨hE, hf2⟩
        obtain ⟨t, n, rfl, HE⟩ := hE.is_
        obtain ⟨hB, hf⟩ := tkW_after hf2
        obtain ⟨c0, c1, c2, c3, z0, z1, z2, z3⟩ := hB.facts
        dsimp only [noTk] at c0 c1 c2 c3
        have HB := Lib.hid hB
        have HF := Lib.hid hf
        clear hE hf2 hB hf
        go_wp2
        rw [HO.out]
        exact bodyPost_ret (ret_tkW (p := 4) (u := 5) rfl _ _ w.heap.size t (.int .i64 (n : Int)) rfl rfl (setTk_W HB.out t)) rfl ⟨HE.out, setTk_end HF.out t⟩
    · replace HO := Lib.hid (HO.out.trans (if_neg hd))
      simp only [Bool.or_eq_true, not_or, Bool.not_eq_true, decide_eq_true_eq] at hd
      obtain ⟨hd1, hd2⟩ := hd
      rw [hd1] at HD
      have hx1 : ((x : Int) == 45) = false := by rw [beq_eq_false_iff_ne]; intro e; exact hd2 (e3.1 (by omega))
      clear HU hd1 hd2 e3
      by_cases hq : c = 39
      · replace HO := Lib.hid (HO.out.trans (if_pos hq))
        replace HT := Lib.hid (HT.out (w.alloc (.cells #[.int .i64 0, .string ⟨#[]⟩, .int .i64 0, .int .i64 0] 36)) HW.out)
        have hx : x = 39 := e4.2 hq
        subst hx
        clear HM e4 hq
        go_enter Tryd.func16, Tryd.ntmps16
        go_wp2_with fail
        refine (HL.out _).mono ?_
        rintro e w1 ⟨rfl, rfl⟩
        go_wp2_with fail
        refine (HD.out _).mono ?_
        rintro e w1 ⟨rfl, rfl⟩
        go_wp2_with fail
        refine HT.out.mono ?_
        rintro e w2 ⟨hE, hf2⟩
        obtain ⟨t, n, rfl, HE⟩ := hE.is_
        obtain ⟨hB, hf⟩ := tkW_after hf2
        obtain ⟨c0, c1, c2, c3, z0, z1, z2, z3⟩ := hB.facts
        dsimp only [noTk] at c0 c1 c2 c3
        have HB := Lib.hid hB
        have HF := Lib.hid hf
        clear hE hf2 hB hf
        go_wp2
        rw [HO.out]
        exact bodyPost_ret (ret_tkW (p := 4) (u := 5) rfl _ _ w.heap.size t (.int .i64 (n : Int)) rfl rfl (setTk_W HB.out t)) rfl ⟨HE.out, setTk_end HF.out t⟩
      · replace HO := Lib.hid (HO.out.trans (if_neg hq))
        replace HM := Lib.hid (HM.out (w.alloc (.cells #[.int .i64 0, .string ⟨#[]⟩, .int .i64 0, .int .i64 0] 36)) HW.out)
        have hx2 : ((x : Int) == 39) = false := by rw [beq_eq_false_iff_ne]; intro e; exact hq (e4.1 (by omega))
        clear HT e4 hq
        go_enter Tryd.func16, Tryd.ntmps16
        go_wp2_with fail
        refine (HL.out _).mono ?_
        rintro e w1 ⟨rfl, rfl⟩
        go_wp2_with fail
        refine (HD.out _).mono ?_
        rintro e w1 ⟨rfl, rfl⟩
        go_wp2_with fail
        refine HM.out.mono ?_
        rintro e w2 ⟨hE, hf2⟩
        obtain ⟨t, n, rfl, HE⟩ := hE.is_
        obtain ⟨hB, hf⟩ := tkW_after hf2
        obtain ⟨c0, c1, c2, c3, z0, z1, z2, z3⟩ := hB.facts
        dsimp only [noTk] at c0 c1 c2 c3
        have HB := Lib.hid hB
        have HF := Lib.hid hf
        clear hE hf2 hB hf
        go_wp2
        rw [HO.out]
        exact bodyPost_ret (ret_tkW (p := 4) (u := 5) rfl _ _ w.heap.size t (.int .i64 (n : Int)) rfl rfl (setTk_W HB.out t)) rfl ⟨HE.out, setTk_end HF.out t⟩
end Go.Proofs.YtpapgfjainllpaaDoor


namespace Go.Proofs.YtpapgfjainllpaaDoor
set_option linter.unusedVariables false
set_option linter.unusedSimpArgs false
set_option maxRecDepth 100000
open Go.RowKit

/-- the text that a text begins with, told -/
def QtE (x : Option (List UInt8 × Nat)) (e : Ending) : Prop := match x with
  | none => e = .returned (.tuple #[.string ⟨([] : List UInt8).toArray⟩, .int .i64 0])
  | some (t, n) => e = .returned (.tuple #[.string ⟨t.toArray⟩, .int .i64 ((n : Int) + 1)])
/-- so far -/
def QtI (r : List UInt8) (l : List UInt8) (i : Nat) (D : List UInt8) : Prop := qtB r = (qtB (l.drop i)).map fun x => (D ++ x.1, x.2 + (i - 1))
theorem qt_skip {c : UInt8} {r : List UInt8} (h : c ≠ 39) : qtB (c :: r) = (qtB r).map fun x => (c :: x.1, x.2 + 1) := by
  cases r with
  | nil =>
    show (if c = 39 then some ([], 1) else none) = none
    rw [if_neg h]
  | cons d r => rw [qtB, if_neg h]
theorem qti_more {r l D : List UInt8} {i : Nat} {c : UInt8} (h : QtI r l i D) (h1 : 1 ≤ i) (hc : l[i]? = some c) (hq : c ≠ 39) : QtI r l (i + 1) (D ++ [c]) := by
  obtain ⟨hi, rfl⟩ := List.getElem?_eq_some_iff.1 hc
  unfold QtI at h ⊢
  rw [h, List.drop_eq_getElem_cons hi, qt_skip hq]
  cases qtB (l.drop (i + 1)) <;> simp; omega
theorem qti_two {r l D : List UInt8} {i : Nat} (h : QtI r l i D) (h1 : 1 ≤ i) (hc : l[i]? = some 39) (hd : l[i + 1]? = some 39) : QtI r l (i + 2) (D ++ [39]) := by
  obtain ⟨hi, hc⟩ := List.getElem?_eq_some_iff.1 hc
  obtain ⟨hi2, hd⟩ := List.getElem?_eq_some_iff.1 hd
  unfold QtI at h ⊢
  rw [h, List.drop_eq_getElem_cons hi, List.drop_eq_getElem_cons hi2, hc, hd, qtB, if_pos rfl, if_pos rfl]
  cases qtB (l.drop (i + 1 + 1)) <;> simp; omega
theorem qti_end {r l D : List UInt8} {i : Nat} (h : QtI r l i D) (h1 : 1 ≤ i) (hc : l[i]? = some 39) (hd : l[i + 1]? ≠ some 39) : qtB r = some (D, i) := by
  obtain ⟨hi, hc⟩ := List.getElem?_eq_some_iff.1 hc
  unfold QtI at h
  have e : qtB (l.drop i) = some ([], 1) := by
    rw [List.drop_eq_getElem_cons hi, hc]
    by_cases hi2 : i + 1 < l.length
    · rw [List.drop_eq_getElem_cons hi2, qtB, if_pos rfl, if_neg (fun e => hd (by rw [List.getElem?_eq_getElem hi2, e]))]
    · rw [List.drop_eq_nil_of_le (by omega)]; rfl
  rw [h, e]
  simp; omega
theorem qti_none {r l D : List UInt8} {i : Nat} (h : QtI r l i D) (hi : ¬ i < l.length) : qtB r = none := by
  unfold QtI at h
  rw [h, List.drop_eq_nil_of_le (by omega)]; rfl

set_option maxHeartbeats 1000000 in
theorem rquoted_any (l : List UInt8) (w : World) (h1 : 1 ≤ l.length) (hl : l.length ≤ 100000000) : Calls Tryd.prog 29 #[.string ⟨l.toArray⟩] w fun e w' => QtE (qtB (l.drop 1)) e ∧ Fr Non w w' := by
  have hz : Hid (QtI (l.drop 1) l 1 []) := Lib.hid (by unfold QtI; cases qtB (l.drop 1) <;> simp)
  generalize l.drop 1 = r at *
  go_enter Tryd.func29, Tryd.ntmps29
  go_wp2
  go_loopw [4, 5] (fun v b wr => ∃ (i : Nat) (D : List UInt8), b = .int .i64 (i : Int) ∧ 1 ≤ i ∧ i ≤ l.length ∧ D.length ≤ i ∧ Ow bv 5 wr w.heap.size v D ∧ Fr Non w wr ∧ Hid (QtI r l i D)) (fun _ b _ => l.length - (intOf b).toNat)
  case atStart => exact ⟨1, [], rfl, by omega, h1, by simp, ow_lit0 w w.heap.size w.heap.size rfl (Nat.le_refl _), (Fr.refl _ _).alloc _, hz⟩
  case round =>
    obtain ⟨i, D, rfl, hi1, hi, hD, hO, hF, hn⟩ := hrel
    have hsz := hF.size
    by_cases hlt : i < l.length
    · obtain ⟨c, r', _, hc, _⟩ := drop_is hlt
      have hg := byteW hc
      by_cases hq : c = 39
      · subst hq
        by_cases hlt2 : i + 1 < l.length
        · have hb1 : decide ((l.length : Int) ≤ (i : Int) + 1) = false := by simp; omega
          obtain ⟨d, r2, _, hd, _⟩ := drop_is hlt2
          have hg2 := byteW hd
          by_cases hq2 : d = 39
          · subst hq2
            have HM := Lib.hid (qti_two hn.out hi1 hc hd)
            have HO := Lib.hid hO
            have HF := Lib.hid hF
            clear hO hF hn hc hd
            go_wp2_with (at_builtin; refine wpList_pushG el_u8 (fun _ => rfl) rfl (.tmp 39) (.tmp 40) rfl w.heap.size _ D rfl HO.out _ (39 : UInt8) rfl rfl (by omega) (by omega) ?_; intro v5 w5 hO5 f5)
            have hF5 := HF.out.fresh f5 (fun q hq => by have := (HO.out.lt q hq).1; omega)
            go_roundw
            case rel => exact ⟨i + 2, D ++ [39], by push_cast; rfl, by omega, by omega, by rw [List.length_append]; simp; omega, hO5, hF5, HM⟩
            case measure => simp [intOf]; omega
          · have hqb : ((d.toNat : Int) == 39) = false := by rw [beq_eq_false_iff_ne]; intro e; exact hq2 ((byt_is d 39 (by omega)).2 (by omega))
            have HE := Lib.hid (qti_end hn.out hi1 hc (by rw [hd]; simpa using hq2))
            have cv := run_conv_Bs (Own.bs hO) 47 9 5 Tryd.underlying47 Tryd.underlying5 Tryd.underlying9
            have HF := Lib.hid hF
            clear hO hF hn hc hd
            go_wp2
            go_ret2
            exact ⟨by rw [HE.out]; rfl, HF.out⟩
        · have hb1 : decide ((l.length : Int) ≤ (i : Int) + 1) = true := by simp; omega
          have HE := Lib.hid (qti_end hn.out hi1 hc (by rw [List.getElem?_eq_none (by omega)]; simp))
          have cv := run_conv_Bs (Own.bs hO) 47 9 5 Tryd.underlying47 Tryd.underlying5 Tryd.underlying9
          have HF := Lib.hid hF
          clear hO hF hn hc
          go_wp2
          go_ret2
          exact ⟨by rw [HE.out]; rfl, HF.out⟩
      · have hqb : ((c.toNat : Int) == 39) = false := by rw [beq_eq_false_iff_ne]; intro e; exact hq ((byt_is c 39 (by omega)).2 (by omega))
        have HM := Lib.hid (qti_more hn.out hi1 hc hq)
        have HO := Lib.hid hO
        have HF := Lib.hid hF
        clear hO hF hn hc
        go_wp2_with (at_builtin; refine wpList_pushG el_u8 (fun _ => rfl) rfl (.tmp 15) (.tmp 19) rfl w.heap.size _ D rfl HO.out _ c rfl rfl (by omega) (by omega) ?_; intro v5 w5 hO5 f5)
        have hF5 := HF.out.fresh f5 (fun q hq => by have := (HO.out.lt q hq).1; omega)
        go_roundw
        case rel => exact ⟨i + 1, D ++ [c], by push_cast; rfl, by omega, by omega, by rw [List.length_append]; simp; omega, hO5, hF5, HM⟩
        case measure => simp [intOf]; omega
    · have HE := Lib.hid (qti_none hn.out hlt)
      have HF := Lib.hid hF
      clear hO hF hn
      go_wp2
      go_ret2
      exact ⟨by rw [HE.out]; rfl, HF.out⟩

/-! ### Marks -/
/-- of how many bytes the mark is -/
def mkR (l : List UInt8) : Nat := match mkT l with
  | none => 0
  | some t => t.length
def twosL : List (List UInt8) := [[60, 62], [60, 61], [62, 61]]
def onesL : List UInt8 := [44, 40, 41, 42, 61, 60, 62]
theorem mk_two {l t : List UInt8} (ht : t ∈ twosL) (h : t.isPrefixOf l = true) : mkR l = 2 := by
  cases l with
  | nil => simp only [twosL, List.mem_cons, List.mem_nil_iff, or_false] at ht; rcases ht with rfl | rfl | rfl <;> simp [List.isPrefixOf] at h
  | cons c l =>
    cases l with
    | nil => simp only [twosL, List.mem_cons, List.mem_nil_iff, or_false] at ht; rcases ht with rfl | rfl | rfl <;> simp [List.isPrefixOf] at h
    | cons d l =>
      simp only [twosL, List.mem_cons, List.mem_nil_iff, or_false] at ht
      rcases ht with rfl | rfl | rfl
      all_goals
        simp [List.isPrefixOf] at h
        obtain ⟨rfl, rfl⟩ := h
        simp [mkR, mkT, marksL, List.isPrefixOf]
theorem mk_one {c : UInt8} {l : List UInt8} (h2 : ∀ t ∈ twosL, t.isPrefixOf (c :: l) = false) (h : c ∈ onesL) : mkR (c :: l) = 1 := by
  have h20 := h2 [60, 62] (by simp [twosL])
  have h21 := h2 [60, 61] (by simp [twosL])
  have h22 := h2 [62, 61] (by simp [twosL])
  simp only [onesL, List.mem_cons, List.mem_nil_iff, or_false] at h
  unfold mkR mkT marksL
  simp only [List.find?_cons, h20, h21, h22]
  rcases h with rfl | rfl | rfl | rfl | rfl | rfl | rfl <;> simp [List.isPrefixOf]
theorem mkR_zero {c : UInt8} {l : List UInt8} (h2 : ∀ t ∈ twosL, t.isPrefixOf (c :: l) = false) (h : c ∉ onesL) : mkR (c :: l) = 0 := by
  have h20 := h2 [60, 62] (by simp [twosL])
  have h21 := h2 [60, 61] (by simp [twosL])
  have h22 := h2 [62, 61] (by simp [twosL])
  simp only [onesL, List.mem_cons, List.mem_nil_iff, or_false, not_or] at h
  obtain ⟨n1, n2, n3, n4, n5, n6, n7⟩ := h
  have f : ∀ (m : UInt8), c ≠ m → List.isPrefixOf [m] (c :: l) = false := fun m e => by simp [List.isPrefixOf]; exact fun x => e x.symm
  unfold mkR mkT marksL
  simp only [List.find?_cons, h20, h21, h22, f _ n1, f _ n2, f _ n3, f _ n4, f _ n5, f _ n6, f _ n7, List.find?_nil]
theorem pre_two (l : List UInt8) (a b : UInt8) : List.isPrefixOf [a, b] l = (decide (2 ≤ l.length) && (l.take 2 == [a, b])) := by
  cases l with
  | nil => rfl
  | cons c l =>
    cases l with
    | nil => simp [List.isPrefixOf]
    | cons d l =>
      rw [Bool.eq_iff_iff]
      simp [List.isPrefixOf]
      constructor <;> (rintro ⟨h1, h2⟩; exact ⟨h1.symm, h2.symm⟩)

set_option maxHeartbeats 4000000 in
theorem rmark_any (l : List UInt8) (w : World) (h1 : 1 ≤ l.length) (hl : l.length ≤ 100000000) : Calls Tryd.prog 30 #[.string ⟨l.toArray⟩] w fun e w' => e = .returned (.int .i64 (mkR l : Nat)) ∧ Fr Non w w' := by
  obtain ⟨c, r, hcr, hc, _⟩ := drop_is (l := l) (k := 0) (by omega)
  rw [List.drop_zero] at hcr
  have hg0 := byteW hc
  have HT := Lib.hid (fun (t : List UInt8) (ht : t ∈ twosL) => mk_two (l := l) ht)
  have HO := Lib.hid (hcr ▸ mk_one (c := c) (l := r) : (∀ t ∈ twosL, t.isPrefixOf l = false) → c ∈ onesL → mkR l = 1)
  have HZ := Lib.hid (hcr ▸ mkR_zero (c := c) (l := r) : (∀ t ∈ twosL, t.isPrefixOf l = false) → c ∉ onesL → mkR l = 0)
  have hx := ext_to l 2
  clear hcr hc
  go_enter Tryd.func30, Tryd.ntmps30
  go_wp2
  have B0 := Blk.new w 9 #[.string ⟨#[60, 62]⟩, .string ⟨#[60, 61]⟩, .string ⟨#[62, 61]⟩]
  go_loopw [4] (fun b wr => ∃ (i : Nat), b = .int .i64 (i : Int) ∧ i ≤ 3 ∧ Fr Non (w.alloc (.cells #[.string ⟨#[60, 62]⟩, .string ⟨#[60, 61]⟩, .string ⟨#[62, 61]⟩] 9)) wr ∧ Hid (∀ t ∈ twosL.take i, t.isPrefixOf l = false)) (fun b _ => 3 - (intOf b).toNat)
  case atStart => exact ⟨0, rfl, by omega, Fr.refl _ _, Lib.hid (by simp)⟩
  case round =>
    obtain ⟨i, rfl, hi, hF, hn⟩ := hrel
    by_cases h3 : i = 3
    · subst h3
      have HN : Hid (∀ t ∈ twosL, t.isPrefixOf l = false) := hn
      have HF := Lib.hid (((Fr.refl Non w).alloc _).then hF)
      clear hn hF B0 hi
      go_wp2
      go_loopw [6] (fun b wq => ∃ (i : Nat), b = .int .i64 (i : Int) ∧ i ≤ 7 ∧ Fr Non w wq ∧ Hid (∀ o ∈ onesL.take i, c ≠ o)) (fun b _ => 7 - (intOf b).toNat)
      case atStart => exact ⟨0, rfl, by omega, HF.out, Lib.hid (by simp)⟩
      case round =>
        obtain ⟨i, rfl, hi, hF, hn⟩ := hrel
        by_cases h7 : i = 7
        · subst h7
          have HE := Lib.hid (HZ.out HN.out (fun h => hn.out c h rfl))
          have HF2 := Lib.hid hF
          clear hF hn
          go_wp2
          go_ret
          exact ⟨by rw [HE.out]; rfl, HF2.out⟩
        · obtain ⟨o, ho⟩ : ∃ o, onesL[i]? = some o := ⟨onesL[i]'(by show i < 7; omega), List.getElem?_eq_getElem _⟩
          have hone : ∀ h : i < ByteArray.size ⟨#[44, 40, 41, 42, 61, 60, 62]⟩, (⟨#[44, 40, 41, 42, 61, 60, 62]⟩ : ByteArray)[i] = o := byteW (l := onesL) ho
          have hi7 : decide ((i : Int) < 7) = true := by simp; omega
          have hi8 : i < ByteArray.size ⟨#[44, 40, 41, 42, 61, 60, 62]⟩ := by show i < 7; omega
          by_cases hco : c = o
          · have HE := Lib.hid (HO.out HN.out (by rw [hco]; exact List.mem_of_getElem? ho))
            have hcb : ((c.toNat : Int) == (o.toNat : Int)) = true := by rw [hco]; simp
            have HF2 := Lib.hid hF
            clear hF hn hco ho
            go_wp2_with fail
            go_quiet (fail)
            go_wp2
            go_ret
            exact ⟨by rw [HE.out]; rfl, HF2.out.drewN _⟩
          · have HM : Hid (∀ o ∈ onesL.take (i + 1), c ≠ o) := Lib.hid (by
              intro x hx
              rw [List.take_add_one, ho] at hx
              rcases List.mem_append.1 hx with hx | hx
              · exact hn.out x hx
              · obtain rfl : x = o := by simpa using hx
                exact hco)
            have hcb : ((c.toNat : Int) == (o.toNat : Int)) = false := by rw [beq_eq_false_iff_ne]; intro e; exact hco (UInt8.toNat.inj (by omega))
            have HF2 := Lib.hid hF
            clear hF hn hco ho
            go_wp2_with fail
            go_quiet (fail)
            go_wp2
            go_roundw
            case rel => exact ⟨i + 1, by push_cast; rfl, by omega, HF2.out.drewN _, HM⟩
            case measure => simp [intOf]; omega
    · obtain ⟨t, ht⟩ : ∃ t, twosL[i]? = some t := ⟨twosL[i]'(by show i < 3; omega), List.getElem?_eq_getElem _⟩
      have B1 := B0.fr hF (fun e => e)
      have d0 := B1.cell 0
      have d1 := B1.cell 1
      have d2 := B1.cell 2
      simp at d0 d1 d2
      have HF := Lib.hid hF
      have HF0 := Lib.hid (((Fr.refl Non w).alloc _).then hF)
      clear B1 hF
      by_cases h2 : 2 ≤ l.length
      · have hb2 : decide ((2 : Int) ≤ (l.length : Int)) = true := by simp; omega
        cases hp : t.isPrefixOf l with
        | true =>
          have HE := Lib.hid (HT.out t (List.mem_of_getElem? ht) hp)
          clear hn
          rcases (by omega : i = 0 ∨ i = 1 ∨ i = 2) with rfl | rfl | rfl
          all_goals
            simp only [twosL, List.getElem?_cons_succ, List.getElem?_cons_zero, Option.some.injEq] at ht
            subst ht
            rw [pre_two] at hp
            simp only [h2, decide_true, Bool.true_and] at hp
            go_wp2_with fail
            go_quiet (fail)
            go_wp2
            go_ret
            exact ⟨by rw [HE.out]; rfl, HF0.out.drewN _⟩
        | false =>
          have HM : Hid (∀ t ∈ twosL.take (i + 1), t.isPrefixOf l = false) := Lib.hid (by
            intro x hx
            rw [List.take_add_one, ht] at hx
            rcases List.mem_append.1 hx with hx | hx
            · exact hn.out x hx
            · obtain rfl : x = t := by simpa using hx
              exact hp)
          clear hn
          rcases (by omega : i = 0 ∨ i = 1 ∨ i = 2) with rfl | rfl | rfl
          all_goals
            simp only [twosL, List.getElem?_cons_succ, List.getElem?_cons_zero, Option.some.injEq] at ht
            subst ht
            rw [pre_two] at hp
            simp only [h2, decide_true, Bool.true_and] at hp
            go_wp2_with fail
            go_quiet (fail)
            go_wp2
            go_roundw
            case rel => refine ⟨_, ?_, ?_, HF.out.drewN _, HM⟩ <;> first | trivial | rfl | omega
            case measure => simp [intOf]
      · have hb2 : decide ((2 : Int) ≤ (l.length : Int)) = false := by simp; omega
        have HM : Hid (∀ t ∈ twosL.take (i + 1), t.isPrefixOf l = false) := Lib.hid (by
          intro x hx
          have hm := List.mem_of_mem_take hx
          simp only [twosL, List.mem_cons, List.mem_nil_iff, or_false] at hm
          rcases hm with rfl | rfl | rfl <;> (rw [pre_two]; simp [h2]))
        clear h2 hn
        rcases (by omega : i = 0 ∨ i = 1 ∨ i = 2) with rfl | rfl | rfl
        all_goals
          go_wp2_with fail
          go_quiet (fail)
          go_wp2
          go_roundw
          case rel => refine ⟨_, ?_, ?_, HF.out.drewN _, HM⟩ <;> first | trivial | rfl | omega
          case measure => simp [intOf]
end Go.Proofs.YtpapgfjainllpaaDoor


namespace Go.Proofs.YtpapgfjainllpaaDoor
set_option linter.unusedVariables false
set_option linter.unusedSimpArgs false
set_option maxRecDepth 100000
open Go.RowKit

theorem tkB_mark {l t : List UInt8} (h : mkT l = some t) : mkR l = t.length ∧ l.take t.length = t := by
  refine ⟨by unfold mkR; rw [h], ?_⟩
  have := (mkT_pre h).1
  rw [List.isPrefixOf_iff_prefix] at this
  exact (List.prefix_iff_eq_take.1 this).symm
theorem spi_more {p : UInt8 → Bool} {l : List UInt8} {n : Nat} {c : UInt8} (h : spanN p l = n + spanN p (l.drop n)) (hc : l[n]? = some c) (hp : p c = true) : spanN p l = n + 1 + spanN p (l.drop (n + 1)) := by
  obtain ⟨hi, rfl⟩ := List.getElem?_eq_some_iff.1 hc
  rw [List.drop_eq_getElem_cons hi, span_yes hp] at h
  omega
theorem spi_stop {p : UInt8 → Bool} {l : List UInt8} {n : Nat} {c : UInt8} (h : spanN p l = n + spanN p (l.drop n)) (hc : l[n]? = some c) (hp : p c = false) : spanN p l = n := by
  obtain ⟨hi, rfl⟩ := List.getElem?_eq_some_iff.1 hc
  rw [List.drop_eq_getElem_cons hi, span_no hp] at h
  omega
/-- so far, of a number's digits -/
def DgI (l : List UInt8) (n : Nat) : Prop := spanN digB (l.drop 1) + 1 = n + spanN digB (l.drop n)
theorem dgi_more {l : List UInt8} {n : Nat} {c : UInt8} (h : DgI l n) (hc : l[n]? = some c) (hp : digB c = true) : DgI l (n + 1) := by
  obtain ⟨hi, rfl⟩ := List.getElem?_eq_some_iff.1 hc
  unfold DgI at h ⊢
  rw [List.drop_eq_getElem_cons hi, span_yes hp] at h
  omega
theorem dgi_stop {l : List UInt8} {n : Nat} {c : UInt8} (h : DgI l n) (hc : l[n]? = some c) (hp : digB c = false) : 1 + spanN digB (l.drop 1) = n := by
  obtain ⟨hi, rfl⟩ := List.getElem?_eq_some_iff.1 hc
  unfold DgI at h
  rw [List.drop_eq_getElem_cons hi, span_no hp] at h
  omega
theorem dgi_end {l : List UInt8} {n : Nat} (h : DgI l n) (hn : ¬ n < l.length) : 1 + spanN digB (l.drop 1) = n := by
  unfold DgI at h
  have e : l.drop n = [] := List.drop_eq_nil_of_le (by omega)
  rw [e] at h
  have e0 : spanN digB ([] : List UInt8) = 0 := rfl
  omega
theorem spi_end {p : UInt8 → Bool} {l : List UInt8} {n : Nat} (h : spanN p l = n + spanN p (l.drop n)) (hn : ¬ n < l.length) : spanN p l = n := by
  rw [List.drop_eq_nil_of_le (by omega)] at h
  simpa [spanN] using h
/-- the first word, by its first byte -/
theorem one_let {l : List UInt8} {c : UInt8} (hc : l[0]? = some c) (h : letB c = true) {n : Nat} (hn : spanN innB l = n) : oneB l = some (⟨1, l.take n, 0, 0⟩, n) := by
  cases l with
  | nil => simp at hc
  | cons d r =>
    obtain rfl : d = c := by simpa using hc
    subst hn
    simp only [oneB, if_pos h]
theorem one_num {l : List UInt8} {c : UInt8} (hc : l[0]? = some c) (h : letB c = false) (h2 : (digB c || decide (c = 45)) = true) {n : Nat} (hn : 1 + spanN digB (l.drop 1) = n) : oneB l = (valB (l.take n)).map fun v => (⟨2, [], v, 0⟩, n) := by
  cases l with
  | nil => simp at hc
  | cons d r =>
    obtain rfl : d = c := by simpa using hc
    subst hn
    have h' : ¬ (letB d = true) := by rw [h]; simp
    simp only [oneB, if_neg h', if_pos h2]
    rfl
theorem one_txt {l : List UInt8} {c : UInt8} (hc : l[0]? = some c) (h : c = 39) : oneB l = (qtB (l.drop 1)).map fun x => (⟨3, x.1, 0, 0⟩, x.2 + 1) := by
  cases l with
  | nil => simp at hc
  | cons d r =>
    obtain rfl : d = c := by simpa using hc
    subst h
    rfl
theorem one_mrk {l : List UInt8} {c : UInt8} (hc : l[0]? = some c) (h : letB c = false) (h2 : ¬ (digB c || decide (c = 45)) = true) (h3 : c ≠ 39) : oneB l = (mkT l).map fun t => (⟨4, t, 0, 0⟩, t.length) := by
  cases l with
  | nil => simp at hc
  | cons d r =>
    obtain rfl : d = c := by simpa using hc
    have h' : ¬ (letB d = true) := by rw [h]; simp
    simp only [oneB, if_neg h', if_neg h2, if_neg h3]

set_option maxHeartbeats 4000000 in
theorem rone_let (l : List UInt8) (c : UInt8) (w : World) (hc : l[0]? = some c) (hl : l.length ≤ 1000000) (hlet : letB c = true) : Calls Tryd.prog 17 #[.string ⟨l.toArray⟩] w fun e w' => TkEnd (oneB l) e ∧ Fr Non w w' := by
  have h0 : 0 < l.length := (List.getElem?_eq_some_iff.1 hc).1
  have hg0 := byteW hc
  have HL := Lib.hid (fun V => rlet_any c V)
  rw [hlet] at HL
  have HO := Lib.hid (fun n => one_let (n := n) hc hlet)
  have hz : Hid (spanN innB l = 1 + spanN innB (l.drop 1)) := Lib.hid (spi_more (n := 0) (by simp) hc (by simp [innB, hlet]))
  have hpos : decide (0 < l.length) = true := by simp; omega
  clear hlet hc
  go_enter Tryd.func17, Tryd.ntmps17
  go_wp2_with fail
  refine (HL.out _).mono ?_
  rintro e w1 ⟨rfl, rfl⟩
  clear HL
  go_wp2
  clear hg0 hpos
  have HF0 := Lib.hid (tkR_after (w := w) (Fr.refl Non _))
  go_loopw [5] (fun b wr => ∃ n : Nat, b = .int .i64 (n : Int) ∧ 1 ≤ n ∧ n ≤ l.length ∧ wr = w.alloc (.cells #[.int .i64 0, .string ⟨#[]⟩, .int .i64 0, .int .i64 0] 42) ∧ Hid (spanN innB l = n + spanN innB (l.drop n))) (fun b _ => l.length - (intOf b).toNat)
  case atStart => exact ⟨1, rfl, by omega, by omega, rfl, hz⟩
  case round =>
    obtain ⟨n, rfl, hn1, hn, rfl, hd⟩ := hrel
    obtain ⟨hB, hf⟩ := HF0.out
    obtain ⟨c0, c1, c2, c3, z0, z1, z2, z3⟩ := hB.facts
    dsimp only [noTk] at c0 c1 c2 c3
    have HB := Lib.hid hB
    have HF := Lib.hid hf
    clear hB hf
    generalize w.alloc (.cells #[.int .i64 0, .string ⟨#[]⟩, .int .i64 0, .int .i64 0] 42) = W at *
    by_cases hlt : n < l.length
    · obtain ⟨x, r, _, hx, _⟩ := drop_is hlt
      have hg := byteW hx
      have HL := Lib.hid (fun V => rlet_any x V)
      have HD := Lib.hid (fun V => rdig_any x V)
      have hltb : decide (n < l.length) = true := by simp; omega
      cases hi : innB x with
      | true =>
        have HM := Lib.hid (spi_more hd.out hx hi)
        clear hd hx
        cases h1 : letB x with
        | true =>
          rw [h1] at HL
          clear hi HD
          go_wp2_with fail
          refine (HL.out _).mono ?_
          rintro e w1 ⟨rfl, rfl⟩
          clear HL
          go_wp2
          go_roundw
          case rel => exact ⟨n + 1, by push_cast; rfl, by omega, by omega, (by first | rfl | trivial), HM⟩
          case measure => simp [intOf]; omega
        | false =>
          rw [h1] at HL
          cases h2 : digB x with
          | true =>
            rw [h2] at HD
            clear hi
            go_wp2_with fail
            refine (HL.out _).mono ?_
            rintro e w1 ⟨rfl, rfl⟩
            clear HL
            go_wp2_with fail
            refine (HD.out _).mono ?_
            rintro e w1 ⟨rfl, rfl⟩
            clear HD
            go_wp2
            go_roundw
            case rel => exact ⟨n + 1, by push_cast; rfl, by omega, by omega, (by first | rfl | trivial), HM⟩
            case measure => simp [intOf]; omega
          | false =>
            rw [h2] at HD
            have hb95 : ((x.toNat : Int) == 95) = true := by simp [innB, h1, h2] at hi; simp; omega
            clear hi
            go_wp2_with fail
            refine (HL.out _).mono ?_
            rintro e w1 ⟨rfl, rfl⟩
            clear HL
            go_wp2_with fail
            refine (HD.out _).mono ?_
            rintro e w1 ⟨rfl, rfl⟩
            clear HD
            go_wp2
            go_roundw
            case rel => exact ⟨n + 1, by push_cast; rfl, by omega, by omega, (by first | rfl | trivial), HM⟩
            case measure => simp [intOf]; omega
      | false =>
        have HE := Lib.hid (HO.out n (spi_stop hd.out hx hi))
        have hxt := ext_to l n
        have h1 : letB x = false := by simp [innB] at hi; exact hi.1.1
        have h2 : digB x = false := by simp [innB] at hi; exact hi.1.2
        have hb95 : ((x.toNat : Int) == 95) = false := by simp [innB] at hi; rw [beq_eq_false_iff_ne]; omega
        rw [h1] at HL
        rw [h2] at HD
        clear hd hx hi h1 h2
        generalize l.take n = m at *
        go_wp2_with fail
        refine (HL.out _).mono ?_
        rintro e w1 ⟨rfl, rfl⟩
        clear HL
        go_wp2_with fail
        refine (HD.out _).mono ?_
        rintro e w1 ⟨rfl, rfl⟩
        clear HD
        go_wp2
        rw [HE.out]
        exact bodyPost_ret (ret_tkR (p := 2) (u := 3) rfl _ _ w.heap.size ⟨1, m, 0, 0⟩ (.int .i64 (n : Int)) rfl rfl (setTk_R HB.out ⟨1, m, 0, 0⟩)) rfl ⟨rfl, setTk_end HF.out ⟨1, m, 0, 0⟩⟩
    · have HE := Lib.hid (HO.out n (spi_end hd.out hlt))
      have hxt := ext_to l n
      have hltb : decide (n < l.length) = false := by simp; omega
      clear hd
      generalize l.take n = m at *
      go_wp2
      rw [HE.out]
      exact bodyPost_ret (ret_tkR (p := 2) (u := 3) rfl _ _ w.heap.size ⟨1, m, 0, 0⟩ (.int .i64 (n : Int)) rfl rfl (setTk_R HB.out ⟨1, m, 0, 0⟩)) rfl ⟨rfl, setTk_end HF.out ⟨1, m, 0, 0⟩⟩

set_option maxHeartbeats 4000000 in
theorem rone_num (l : List UInt8) (c : UInt8) (w : World) (hc : l[0]? = some c) (hl : l.length ≤ 1000000) (hlet : letB c = false) (hnum : (digB c || decide (c = 45)) = true) : Calls Tryd.prog 17 #[.string ⟨l.toArray⟩] w fun e w' => TkEnd (oneB l) e ∧ Fr Non w w' := by
  have h0 : 0 < l.length := (List.getElem?_eq_some_iff.1 hc).1
  have hg0 := byteW hc
  have HL := Lib.hid (fun V => rlet_any c V)
  have HD := Lib.hid (fun V => rdig_any c V)
  rw [hlet] at HL
  have HO := Lib.hid (fun n => one_num (n := n) hc hlet hnum)
  have hz : Hid (DgI l 1) := Lib.hid (by unfold DgI; omega)
  have hpos : decide (0 < l.length) = true := by simp; omega
  have H45 : digB c = false → c = 45 := fun h => by simpa [h] using hnum
  replace H45 := Lib.hid H45
  clear hlet hc hnum
  have HF0 := Lib.hid (tkR_after (w := w) (Fr.refl Non _))
  have HV := Lib.hid (fun V n => rvalue_any (l.take n) V (by rw [List.length_take]; omega))
  have key : ∀ (b : Bool), digB c = b → Calls Tryd.prog 17 #[.string ⟨l.toArray⟩] w fun e w' => TkEnd (oneB l) e ∧ Fr Non w w' := by
    intro b hb
    rw [hb] at HD
    cases b with
    | true =>
      clear H45
      go_enter Tryd.func17, Tryd.ntmps17
      go_wp2_with fail
      refine (HL.out _).mono ?_
      rintro e w1 ⟨rfl, rfl⟩
      clear HL
      go_wp2_with fail
      refine (HD.out _).mono ?_
      rintro e w1 ⟨rfl, rfl⟩
      clear HD
      go_wp2
      clear hg0 hpos
      go_loopw [6] (fun b wr => ∃ n : Nat, b = .int .i64 (n : Int) ∧ 1 ≤ n ∧ n ≤ l.length ∧ wr = w.alloc (.cells #[.int .i64 0, .string ⟨#[]⟩, .int .i64 0, .int .i64 0] 42) ∧ Hid (DgI l n)) (fun b _ => l.length - (intOf b).toNat)
      case atStart => exact ⟨1, rfl, by omega, by omega, rfl, hz⟩
      case round =>
        obtain ⟨n, rfl, hn1, hn, rfl, hd⟩ := hrel
        by_cases hlt : n < l.length
        · obtain ⟨x, r, _, hx, _⟩ := drop_is hlt
          have hg := byteW hx
          have HD := Lib.hid (fun V => rdig_any x V)
          have hltb : decide (n < l.length) = true := by simp; omega
          cases h2 : digB x with
          | true =>
            have HM := Lib.hid (dgi_more hd.out hx h2)
            rw [h2] at HD
            clear hd hx h2
            go_wp2_with fail
            refine (HD.out _).mono ?_
            rintro e w1 ⟨rfl, rfl⟩
            clear HD
            go_wp2
            go_roundw
            case rel => exact ⟨n + 1, by push_cast; rfl, by omega, by omega, (by first | rfl | trivial), HM⟩
            case measure => simp [intOf]; omega
          | false =>
            have HE := Lib.hid (HO.out n (dgi_stop hd.out hx h2))
            have HV2 := Lib.hid (fun V => HV.out V n)
            have hxt := ext_to l n
            rw [h2] at HD
            clear hd hx h2 HV HO
            generalize l.take n = m at *
            go_wp2_with fail
            refine (HD.out _).mono ?_
            rintro e w1 ⟨rfl, rfl⟩
            clear HD
            go_wp2_with fail
            refine (HV2.out _).mono ?_
            rintro e w2 ⟨x, rfl, hv, hf2⟩
            obtain ⟨hB, hf⟩ := tkR_after hf2
            obtain ⟨c0, c1, c2, c3, z0, z1, z2, z3⟩ := hB.facts
            dsimp only [noTk] at c0 c1 c2 c3
            have HB := Lib.hid hB
            have HF := Lib.hid hf
            clear hB hf hf2 HV2
            cases hm : valB m with
            | none =>
              clear hv
              go_wp2
              rw [HE.out, hm]
              exact bodyPost_ret (ret_tkR (p := 2) (u := 3) rfl _ _ w.heap.size noTk (.int .i64 0) rfl rfl (setTk_R HB.out noTk)) rfl ⟨⟨noTk, rfl⟩, setTk_end HF.out noTk⟩
            | some v =>
              obtain rfl := hv v hm
              clear hv
              go_wp2
              rw [HE.out, hm]
              exact bodyPost_ret (ret_tkR (p := 2) (u := 3) rfl _ _ w.heap.size ⟨2, [], x, 0⟩ (.int .i64 (n : Int)) rfl rfl (setTk_R HB.out ⟨2, [], x, 0⟩)) rfl ⟨rfl, setTk_end HF.out ⟨2, [], x, 0⟩⟩
        · have HE := Lib.hid (HO.out n (dgi_end hd.out hlt))
          have HV2 := Lib.hid (fun V => HV.out V n)
          have hxt := ext_to l n
          have hltb : decide (n < l.length) = false := by simp; omega
          clear hd HV HO
          generalize l.take n = m at *
          go_wp2_with fail
          refine (HV2.out _).mono ?_
          rintro e w2 ⟨x, rfl, hv, hf2⟩
          obtain ⟨hB, hf⟩ := tkR_after hf2
          obtain ⟨c0, c1, c2, c3, z0, z1, z2, z3⟩ := hB.facts
          dsimp only [noTk] at c0 c1 c2 c3
          have HB := Lib.hid hB
          have HF := Lib.hid hf
          clear hB hf hf2 HV2
          cases hm : valB m with
          | none =>
            clear hv
            go_wp2
            rw [HE.out, hm]
            exact bodyPost_ret (ret_tkR (p := 2) (u := 3) rfl _ _ w.heap.size noTk (.int .i64 0) rfl rfl (setTk_R HB.out noTk)) rfl ⟨⟨noTk, rfl⟩, setTk_end HF.out noTk⟩
          | some v =>
            obtain rfl := hv v hm
            clear hv
            go_wp2
            rw [HE.out, hm]
            exact bodyPost_ret (ret_tkR (p := 2) (u := 3) rfl _ _ w.heap.size ⟨2, [], x, 0⟩ (.int .i64 (n : Int)) rfl rfl (setTk_R HB.out ⟨2, [], x, 0⟩)) rfl ⟨rfl, setTk_end HF.out ⟨2, [], x, 0⟩⟩

    | false =>
      obtain rfl := H45.out hb
      clear H45
      go_enter Tryd.func17, Tryd.ntmps17
      go_wp2_with fail
      refine (HL.out _).mono ?_
      rintro e w1 ⟨rfl, rfl⟩
      clear HL
      go_wp2_with fail
      refine (HD.out _).mono ?_
      rintro e w1 ⟨rfl, rfl⟩
      clear HD
      go_wp2
      clear hg0 hpos
      go_loopw [6] (fun b wr => ∃ n : Nat, b = .int .i64 (n : Int) ∧ 1 ≤ n ∧ n ≤ l.length ∧ wr = w.alloc (.cells #[.int .i64 0, .string ⟨#[]⟩, .int .i64 0, .int .i64 0] 42) ∧ Hid (DgI l n)) (fun b _ => l.length - (intOf b).toNat)
      case atStart => exact ⟨1, rfl, by omega, by omega, rfl, hz⟩
      case round =>
        obtain ⟨n, rfl, hn1, hn, rfl, hd⟩ := hrel
        by_cases hlt : n < l.length
        · obtain ⟨x, r, _, hx, _⟩ := drop_is hlt
          have hg := byteW hx
          have HD := Lib.hid (fun V => rdig_any x V)
          have hltb : decide (n < l.length) = true := by simp; omega
          cases h2 : digB x with
          | true =>
            have HM := Lib.hid (dgi_more hd.out hx h2)
            rw [h2] at HD
            clear hd hx h2
            go_wp2_with fail
            refine (HD.out _).mono ?_
            rintro e w1 ⟨rfl, rfl⟩
            clear HD
            go_wp2
            go_roundw
            case rel => exact ⟨n + 1, by push_cast; rfl, by omega, by omega, (by first | rfl | trivial), HM⟩
            case measure => simp [intOf]; omega
          | false =>
            have HE := Lib.hid (HO.out n (dgi_stop hd.out hx h2))
            have HV2 := Lib.hid (fun V => HV.out V n)
            have hxt := ext_to l n
            rw [h2] at HD
            clear hd hx h2 HV HO
            generalize l.take n = m at *
            go_wp2_with fail
            refine (HD.out _).mono ?_
            rintro e w1 ⟨rfl, rfl⟩
            clear HD
            go_wp2_with fail
            refine (HV2.out _).mono ?_
            rintro e w2 ⟨x, rfl, hv, hf2⟩
            obtain ⟨hB, hf⟩ := tkR_after hf2
            obtain ⟨c0, c1, c2, c3, z0, z1, z2, z3⟩ := hB.facts
            dsimp only [noTk] at c0 c1 c2 c3
            have HB := Lib.hid hB
            have HF := Lib.hid hf
            clear hB hf hf2 HV2
            cases hm : valB m with
            | none =>
              clear hv
              go_wp2
              rw [HE.out, hm]
              exact bodyPost_ret (ret_tkR (p := 2) (u := 3) rfl _ _ w.heap.size noTk (.int .i64 0) rfl rfl (setTk_R HB.out noTk)) rfl ⟨⟨noTk, rfl⟩, setTk_end HF.out noTk⟩
            | some v =>
              obtain rfl := hv v hm
              clear hv
              go_wp2
              rw [HE.out, hm]
              exact bodyPost_ret (ret_tkR (p := 2) (u := 3) rfl _ _ w.heap.size ⟨2, [], x, 0⟩ (.int .i64 (n : Int)) rfl rfl (setTk_R HB.out ⟨2, [], x, 0⟩)) rfl ⟨rfl, setTk_end HF.out ⟨2, [], x, 0⟩⟩
        · have HE := Lib.hid (HO.out n (dgi_end hd.out hlt))
          have HV2 := Lib.hid (fun V => HV.out V n)
          have hxt := ext_to l n
          have hltb : decide (n < l.length) = false := by simp; omega
          clear hd HV HO
          generalize l.take n = m at *
          go_wp2_with fail
          refine (HV2.out _).mono ?_
          rintro e w2 ⟨x, rfl, hv, hf2⟩
          obtain ⟨hB, hf⟩ := tkR_after hf2
          obtain ⟨c0, c1, c2, c3, z0, z1, z2, z3⟩ := hB.facts
          dsimp only [noTk] at c0 c1 c2 c3
          have HB := Lib.hid hB
          have HF := Lib.hid hf
          clear hB hf hf2 HV2
          cases hm : valB m with
          | none =>
            clear hv
            go_wp2
            rw [HE.out, hm]
            exact bodyPost_ret (ret_tkR (p := 2) (u := 3) rfl _ _ w.heap.size noTk (.int .i64 0) rfl rfl (setTk_R HB.out noTk)) rfl ⟨⟨noTk, rfl⟩, setTk_end HF.out noTk⟩
          | some v =>
            obtain rfl := hv v hm
            clear hv
            go_wp2
            rw [HE.out, hm]
            exact bodyPost_ret (ret_tkR (p := 2) (u := 3) rfl _ _ w.heap.size ⟨2, [], x, 0⟩ (.int .i64 (n : Int)) rfl rfl (setTk_R HB.out ⟨2, [], x, 0⟩)) rfl ⟨rfl, setTk_end HF.out ⟨2, [], x, 0⟩⟩

  exact key _ rfl

set_option maxHeartbeats 1000000 in
theorem rone_txt (l : List UInt8) (w : World) (hc : l[0]? = some 39) (hl : l.length ≤ 1000000) : Calls Tryd.prog 17 #[.string ⟨l.toArray⟩] w fun e w' => TkEnd (oneB l) e ∧ Fr Non w w' := by
  have h0 : 0 < l.length := (List.getElem?_eq_some_iff.1 hc).1
  have hg0 := byteW hc
  have HL := Lib.hid (fun V => rlet_any 39 V)
  have HD := Lib.hid (fun V => rdig_any 39 V)
  rw [show letB 39 = false by decide] at HL
  rw [show digB 39 = false by decide] at HD
  have HO := Lib.hid (one_txt hc rfl)
  have HQ := Lib.hid (fun V => rquoted_any l V (by omega) (by omega))
  have hpos : decide (0 < l.length) = true := by simp; omega
  clear hc
  go_enter Tryd.func17, Tryd.ntmps17
  go_wp2_with fail
  refine (HL.out _).mono ?_
  rintro e w1 ⟨rfl, rfl⟩
  clear HL
  go_wp2_with fail
  refine (HD.out _).mono ?_
  rintro e w1 ⟨rfl, rfl⟩
  clear HD
  go_wp2_with fail
  refine (HQ.out _).mono ?_
  rintro e w2 ⟨hE, hf2⟩
  obtain ⟨hB, hf⟩ := tkR_after hf2
  obtain ⟨c0, c1, c2, c3, z0, z1, z2, z3⟩ := hB.facts
  dsimp only [noTk] at c0 c1 c2 c3
  have HB := Lib.hid hB
  have HF := Lib.hid hf
  clear hB hf hf2 HQ
  cases hq : qtB (l.drop 1) with
  | none =>
    rw [hq] at hE HO
    obtain rfl : e = _ := hE
    clear hq
    go_wp2
    rw [HO.out]
    exact bodyPost_ret (ret_tkR (p := 2) (u := 3) rfl _ _ w.heap.size ⟨3, [], 0, 0⟩ (.int .i64 0) rfl rfl (setTk_R HB.out ⟨3, [], 0, 0⟩)) rfl ⟨⟨⟨3, [], 0, 0⟩, rfl⟩, setTk_end HF.out ⟨3, [], 0, 0⟩⟩
  | some x =>
    obtain ⟨t, n⟩ := x
    rw [hq] at hE HO
    obtain rfl : e = .returned (.tuple #[.string ⟨t.toArray⟩, .int .i64 ((n : Int) + 1)]) := hE
    clear hq
    go_wp2
    rw [HO.out]
    exact bodyPost_ret (ret_tkR (p := 2) (u := 3) rfl _ _ w.heap.size ⟨3, t, 0, 0⟩ (.int .i64 ((n : Int) + 1)) rfl rfl (setTk_R HB.out ⟨3, t, 0, 0⟩)) rfl ⟨tk_end1 ⟨3, t, 0, 0⟩ n, setTk_end HF.out ⟨3, t, 0, 0⟩⟩

set_option maxHeartbeats 1000000 in
theorem rone_mrk (l : List UInt8) (c : UInt8) (w : World) (hc : l[0]? = some c) (hl : l.length ≤ 1000000) (hlet : letB c = false) (hnum : ¬ (digB c || decide (c = 45)) = true) (h39 : c ≠ 39) : Calls Tryd.prog 17 #[.string ⟨l.toArray⟩] w fun e w' => TkEnd (oneB l) e ∧ Fr Non w w' := by
  have h0 : 0 < l.length := (List.getElem?_eq_some_iff.1 hc).1
  have hg0 := byteW hc
  have HL := Lib.hid (fun V => rlet_any c V)
  have HD := Lib.hid (fun V => rdig_any c V)
  rw [hlet] at HL
  have HO := Lib.hid (one_mrk hc hlet hnum h39)
  have HQ := Lib.hid (fun V => rmark_any l V (by omega) (by omega))
  have hpos : decide (0 < l.length) = true := by simp; omega
  simp only [Bool.or_eq_true, not_or, Bool.not_eq_true, decide_eq_true_eq] at hnum
  have hb45 : ((c.toNat : Int) == 45) = false := by rw [beq_eq_false_iff_ne]; intro e; exact hnum.2 ((byt_is c 45 (by omega)).2 (by omega))
  have hb39 : ((c.toNat : Int) == 39) = false := by rw [beq_eq_false_iff_ne]; intro e; exact h39 ((byt_is c 39 (by omega)).2 (by omega))
  rw [hnum.1] at HD
  clear hc hnum h39 hlet
  have hnl : mkR l ≤ l.length ∧ ∀ t, mkT l = some t → mkR l = t.length ∧ l.take (mkR l) = t := by
    cases hm : mkT l with
    | none => exact ⟨by unfold mkR; rw [hm]; simp, fun t h => by cases h⟩
    | some t =>
      obtain ⟨e1, e2⟩ := tkB_mark hm
      refine ⟨?_, fun t' h => by cases h; exact ⟨e1, by rw [e1]; exact e2⟩⟩
      rw [e1]
      have := congrArg List.length e2
      rw [List.length_take] at this
      omega
  have hnone : mkT l = none → mkR l = 0 := fun h => by unfold mkR; rw [h]
  have hxt := ext_to l (mkR l)
  obtain ⟨hnl, hsome⟩ := hnl
  replace hsome := Lib.hid hsome
  replace hnone := Lib.hid hnone
  generalize mkR l = n at *
  generalize l.take n = m at *
  go_enter Tryd.func17, Tryd.ntmps17
  go_wp2_with fail
  refine (HL.out _).mono ?_
  rintro e w1 ⟨rfl, rfl⟩
  clear HL
  go_wp2_with fail
  refine (HD.out _).mono ?_
  rintro e w1 ⟨rfl, rfl⟩
  clear HD
  go_wp2_with fail
  refine (HQ.out _).mono ?_
  rintro e w2 ⟨rfl, hf2⟩
  obtain ⟨hB, hf⟩ := tkR_after hf2
  obtain ⟨c0, c1, c2, c3, z0, z1, z2, z3⟩ := hB.facts
  dsimp only [noTk] at c0 c1 c2 c3
  have HB := Lib.hid hB
  have HF := Lib.hid hf
  clear hB hf hf2 HQ
  go_wp2
  rw [HO.out]
  refine bodyPost_ret (ret_tkR (p := 2) (u := 3) rfl _ _ w.heap.size ⟨4, m, 0, 0⟩ (.int .i64 (n : Int)) rfl rfl (setTk_R HB.out ⟨4, m, 0, 0⟩)) rfl ⟨?_, setTk_end HF.out ⟨4, m, 0, 0⟩⟩
  cases hm : mkT l with
  | none =>
    obtain rfl := hnone.out hm
    exact ⟨_, rfl⟩
  | some t =>
    obtain ⟨rfl, rfl⟩ := hsome.out t hm
    exact rfl
theorem rone_any (l : List UInt8) (w : World) (h1 : 1 ≤ l.length) (hl : l.length ≤ 1000000) : Calls Tryd.prog 17 #[.string ⟨l.toArray⟩] w fun e w' => TkEnd (oneB l) e ∧ Fr Non w w' := by
  obtain ⟨c, r, _, hc, _⟩ := drop_is (l := l) (k := 0) (by omega)
  cases hlet : letB c with
  | true => exact rone_let l c w hc hl hlet
  | false =>
    by_cases hnum : (digB c || decide (c = 45)) = true
    · exact rone_num l c w hc hl hlet hnum
    · by_cases h39 : c = 39
      · exact rone_txt l w (by rw [← h39]; exact hc) hl
      · exact rone_mrk l c w hc hl hlet hnum h39
end Go.Proofs.YtpapgfjainllpaaDoor


namespace Go.Proofs.YtpapgfjainllpaaDoor
set_option linter.unusedVariables false
set_option linter.unusedSimpArgs false
set_option maxRecDepth 100000
open Go.RowKit

/-- so far: the range stands at p, the last word ended at b -/
structure WI (l : List UInt8) (p b : Nat) (D : List Tk) : Prop where
  rest : tokB 0 l = preT D (tokB (max p b) (l.drop (max p b)))
  low : p < b → ∃ d, l[b - 1]? = some d ∧ d.toNat < 128
  few : D.length ≤ max p b
  le : b ≤ l.length
theorem wi_zero (l : List UInt8) : WI l 0 0 [] := ⟨by simp [preT_nil], fun h => absurd h (by omega), by simp, by omega⟩
theorem wi_wide {l : List UInt8} {p b : Nat} (hp : p < l.length) (h : p < b) (hl : ∃ d, l[b - 1]? = some d ∧ d.toNat < 128) : p + (dcU (l.drop p)).2 ≤ b := by
  obtain ⟨c, r, hd, hc, hr⟩ := drop_is hp
  rcases lo_or_hi c with h1 | h1
  · rw [hd, dcU_low r h1]; exact h
  · obtain ⟨d, hd1, hd2⟩ := hl
    by_cases hw : p + (dcU (l.drop p)).2 ≤ b
    · exact hw
    · exfalso
      have hh := (dcU_hi (c := c) (r := r) h1).2 (b - 1 - p) (by rw [← hd]; omega)
      rw [← hd, List.getD_eq_getElem?_getD, List.getElem?_drop, show p + (b - 1 - p) = b - 1 by omega, hd1] at hh
      simp at hh; omega
theorem WI.skip {l : List UInt8} {p b : Nat} {D : List Tk} (h : WI l p b D) (hp : p < l.length) (hb : p < b) : WI l (p + (dcU (l.drop p)).2) b D := by
  have hw := wi_wide hp hb (h.low hb)
  have e : max (p + (dcU (l.drop p)).2) b = max p b := by omega
  exact ⟨by rw [e]; exact h.rest, fun _ => h.low hb, by rw [e]; exact h.few, h.le⟩
theorem WI.blank {l : List UInt8} {p b : Nat} {D : List Tk} (h : WI l p b D) (hp : p < l.length) (hb : ¬ p < b) (hk : blkR (dcU (l.drop p)).1 = true) : WI l (p + (dcU (l.drop p)).2) b D := by
  obtain ⟨c, r, hd, hc, hr⟩ := drop_is hp
  rw [hd, blk_rune] at hk
  have hw : (dcU (l.drop p)).2 = 1 := by rw [hd, dcU_low r (blkB_lo hk)]
  have hrest := h.rest
  have hfew := h.few
  rw [show max p b = p by omega] at hrest hfew
  rw [hd, tok_blank p hk, hr] at hrest
  rw [hw]
  have e : max (p + 1) b = p + 1 := by omega
  exact ⟨by rw [e]; exact hrest, fun h => absurd h (by omega), by rw [e]; omega, h.le⟩
theorem WI.bad {l : List UInt8} {p b : Nat} {D : List Tk} (h : WI l p b D) (hp : p < l.length) (hb : ¬ p < b) (hk : blkR (dcU (l.drop p)).1 = false) (ho : oneB (l.drop p) = none) : tokB 0 l = .error p := by
  obtain ⟨c, r, hd, hc, hr⟩ := drop_is hp
  rw [hd, blk_rune] at hk
  rw [hd] at ho
  have hrest := h.rest
  rw [show max p b = p by omega, hd, tok_bad p hk ho] at hrest
  exact hrest
theorem WI.word {l : List UInt8} {p b : Nat} {D : List Tk} {t : Tk} {n : Nat} (h : WI l p b D) (hp : p < l.length) (hb : ¬ p < b) (ho : oneB (l.drop p) = some (t, n)) : WI l (p + (dcU (l.drop p)).2) (p + n) (D ++ [putAt t p]) ∧ 1 ≤ n := by
  obtain ⟨c, r, hd, hc, hr⟩ := drop_is hp
  have hrest := h.rest
  have hfew := h.few
  rw [show max p b = p by omega] at hrest hfew
  rw [hd] at ho
  obtain ⟨h1, h2, h3, ⟨d, h4, h5⟩, _⟩ := one_is ho
  have hw : (dcU (l.drop p)).2 = 1 := by rw [hd, dcU_low r h3]
  rw [hd, tok_one p ho, preT_app, ← hd, List.drop_drop] at hrest
  rw [← hd, List.length_drop] at h2
  rw [hw]
  have e : max (p + 1) (p + n) = p + n := by omega
  refine ⟨⟨by rw [e]; exact hrest, fun _ => ⟨d, ?_, h5⟩, by rw [e]; simp; omega, by omega⟩, h1⟩
  rw [← hd, List.getElem?_drop] at h4
  rw [← h4]; congr 1; omega
theorem WI.end_ {l : List UInt8} {p b : Nat} {D : List Tk} (h : WI l p b D) (hp : ¬ p < l.length) (hp2 : p ≤ l.length) : tokB 0 l = .ok (D ++ [⟨0, [], 0, l.length⟩]) := by
  have hrest := h.rest
  have := h.le
  rw [show max p b = l.length by omega, List.drop_length, tok_nil] at hrest
  exact hrest

set_option maxHeartbeats 4000000 in
theorem wall_any (l : List UInt8) (w : World) (hW : Lw w) : Calls Tryd.prog 6 #[.string ⟨l.toArray⟩] w fun e w' => ∃ v, e = .returned (.tuple #[v, .int .i64 ((wsB l).2.1 : Nat), .int .i64 ((wsB l).2.2 : Nat)]) ∧ Tks w' v (wsB l).1 ∧ Fr Non w w' := by
  by_cases hlong : 400 < l.length
  · have HE := Lib.hid (all_long hlong)
    have hb : decide ((400 : Int) < (l.length : Int)) = true := by simp; omega
    clear hlong
    go_enter Tryd.func6, Tryd.ntmps6
    go_wp2
    go_ret3
    rw [HE.out]
    exact ⟨_, rfl, Ns.nil_ w, Fr.refl _ _⟩
  · have hb : decide ((400 : Int) < (l.length : Int)) = false := by simp; omega
    have HLW := Lib.hid hW
    have HS := Lib.hid hlong
    have hl4 : l.length ≤ 400 := by omega
    clear hlong
    go_enter Tryd.func6, Tryd.ntmps6
    go_wp2
    clear hb
    go_loopw [5, 6] (fun v bv wr => ∃ p b D, p ≤ l.length ∧ bv = .int .i64 (b : Nat) ∧ b ≤ 400 ∧ D.length ≤ 400 ∧ ItU wr w.heap.size l p ∧ TkoW wr (w.heap.size + 1) v D ∧ Fr Non w wr ∧ Hid (WI l p b D)) (fun _ _ wr => l.length - wr.iterPos w.heap.size)
    case atStart => exact ⟨0, 0, [], by omega, rfl, by omega, by simp, ItU.new w l, no_nil _ _, (Fr.refl _ _).alloc _, Lib.hid (wi_zero l)⟩
    case round =>
      obtain ⟨p, b, D, hp, rfl, hb4, hD4, hit, hown, hfr, hd⟩ := hrel
      have hp0 := hit.pos
      by_cases hlt : p < l.length
      · obtain ⟨W, hnx, hitW, hfW⟩ := nextU wr w.heap.size p l hit hlt
        have hfrW := hfr.fresh hfW (fun q e => by have : q = w.heap.size := e; omega)
        have hownW := hown.fr hfW (fun q hq e => by have := (hown.lt q hq).1; have : q = w.heap.size := e; omega)
        have hw := dcU_w (l := l.drop p) (by intro e; have := congrArg List.length e; simp at this; omega)
        rw [List.length_drop] at hw
        clear hit hown hfr hfW
        by_cases hpb : p < b
        · have hpi : decide (p < b) = true := by simp; omega
          have HM := Lib.hid (hd.out.skip hlt hpb)
          clear hd hpb
          generalize (dcU (l.drop p)).1 = x at *
          generalize hq : p + (dcU (l.drop p)).2 = q at *
          have hkq : p < q := by omega
          have hql : q ≤ l.length := by omega
          clear hq hw
          have HO := Lib.hid hownW
          have HF := Lib.hid hfrW
          clear hownW hfrW
          go_wp2
          go_roundw
          case rel => exact ⟨q, b, D, hql, rfl, hb4, hD4, hitW, HO.out, HF.out, HM⟩
          case measure => rw [hp0, hitW.pos]; omega
        · have hpi : decide (p < b) = false := by simp; omega
          have HB := Lib.hid (fun V => wblank_any (dcU (l.drop p)).1 V)
          cases hk : blkR (dcU (l.drop p)).1 with
          | true =>
            have HM := Lib.hid (hd.out.blank hlt hpb hk)
            rw [hk] at HB
            clear hd hpb hk
            generalize (dcU (l.drop p)).1 = x at *
            generalize hq : p + (dcU (l.drop p)).2 = q at *
            have hkq : p < q := by omega
            have hql : q ≤ l.length := by omega
            clear hq hw
            have HO := Lib.hid hownW
            have HF := Lib.hid hfrW
            clear hownW hfrW
            go_wp2_with fail
            refine (HB.out _).mono ?_
            rintro e w1 ⟨rfl, rfl⟩
            clear HB
            go_wp2
            go_roundw
            case rel => exact ⟨q, b, D, hql, rfl, hb4, hD4, hitW, HO.out, HF.out, HM⟩
            case measure => rw [hp0, hitW.pos]; omega
          | false =>
            obtain ⟨c, r, hdr, _, _⟩ := drop_is hlt
            have HFst := Lib.hid (wfirst_any c r (l.drop p) hdr W (HLW.out.non hfrW) (by rw [List.length_drop]; omega))
            have hx := ext_from l p hp
            have HWI := Lib.hid (hd.out.word (t := noTk) (n := 0) hlt hpb)
            have HWB := Lib.hid (hd.out.bad hlt hpb hk)
            have HWW := Lib.hid (fun t n => hd.out.word (t := t) (n := n) hlt hpb)
            rw [hk] at HB
            clear hd hpb hk hdr HWI
            generalize (dcU (l.drop p)).1 = x at *
            generalize hq : p + (dcU (l.drop p)).2 = q at *
            have hkq : p < q := by omega
            have hql : q ≤ l.length := by omega
            clear hq hw
            generalize l.drop p = m at *
            have HO := Lib.hid hownW
            have HF := Lib.hid hfrW
            have hHB := hitW.lt
            have HI := Lib.hid hitW
            clear hownW hfrW hitW
            go_wp2_with fail
            refine (HB.out _).mono ?_
            rintro e w1 ⟨rfl, rfl⟩
            clear HB
            go_wp2_with fail
            refine HFst.out.mono ?_
            rintro e w2 ⟨hE, hf2⟩
            clear HFst
            have HO2 := Lib.hid (HO.out.non hf2)
            have HF2 := Lib.hid (HF.out.then hf2)
            have HI2 := Lib.hid (HI.out.fr hf2 (fun e => e))
            clear hf2 HO HF HI
            cases ho : oneB m with
            | none =>
              rw [ho] at hE
              obtain ⟨t, rfl⟩ := hE
              have HE := Lib.hid (all_bad HS.out (HWB.out ho))
              clear ho HWB HWW
              dsimp only [tkV, tkA]
              go_wp2
              go_ret3
              rw [HE.out]
              exact ⟨_, rfl, Ns.nil_ _, HF2.out.alloc _⟩
            | some y =>
              obtain ⟨t, n⟩ := y
              rw [ho] at hE
              obtain rfl : e = .returned (.tuple #[tkV t, .int .i64 (n : Nat)]) := hE
              obtain ⟨hM, hn1⟩ := HWW.out t n ho
              have hpn := hM.le
              have hDn := hM.few
              rw [List.length_append] at hDn
              have hn0 : ((n : Int) == 0) = false := by rw [beq_eq_false_iff_ne]; omega
              have HM := Lib.hid hM
              clear ho hM HWB HWW
              have hO4 := HO2.out.alloc (.cells #[.int .i64 t.kind, .string ⟨t.txt.toArray⟩, .int .i64 t.num, .int .i64 (p : Int)] 36)
              have hF4 := HF2.out.alloc (.cells #[.int .i64 t.kind, .string ⟨t.txt.toArray⟩, .int .i64 t.num, .int .i64 (p : Int)] 36)
              have hI4 := HI2.out.fr ((Fr.refl Non w2).alloc (.cells #[.int .i64 t.kind, .string ⟨t.txt.toArray⟩, .int .i64 t.num, .int .i64 (p : Int)] 36)) (fun e => e)
              have hsz := hI4.lt
              have HO4 := Lib.hid hO4
              have HF4 := Lib.hid hF4
              have HI4 := Lib.hid hI4
              clear hO4 hF4 hI4 HO2 HF2 HI2
              dsimp only [tkV, tkA]
              go_wp2_with (at_builtin; refine wpList_pushN fd_tk eln_tkW rfl (.tmp 40) (.tmp 42) rfl (w.heap.size + 1) _ D rfl HO4.out (putAt t p) #[.int .i64 t.kind, .string ⟨t.txt.toArray⟩, .int .i64 t.num, .int .i64 p] rfl _ rfl (by simp) (by omega) (by omega) ?_; intro v5 w5 hO5 f5)
              have hF5 := HF4.out.fresh f5 (fun q hq => by have := (HO4.out.lt q hq).1; omega)
              have hI5 := HI4.out.fr f5 (fun e => by have := (HO4.out.lt _ e).1; omega)
              go_roundw
              case rel => exact ⟨q, p + n, _, hql, by push_cast; rfl, by omega, by rw [List.length_append]; omega, hI5, hO5, hF5, HM⟩
              case measure => rw [hp0, hI5.pos]; omega
      · have hnx := fun ty => nextU_end wr w.heap.size p l hit hlt ty
        have HE := Lib.hid (all_ok HS.out (hd.out.end_ hlt hp))
        have HO := Lib.hid hown
        have HF := Lib.hid hfr
        have hsz := hit.lt
        clear hd hown hfr hit
        go_wp2_with (at_builtin; refine wpList_pushN fd_tk eln_tkW rfl (.tmp 47) (.tmp 51) rfl (w.heap.size + 1) _ D rfl HO.out ⟨0, [], 0, l.length⟩ #[.int .i64 0, .string ⟨#[]⟩, .int .i64 0, .int .i64 l.length] rfl _ rfl rfl (by omega) (by omega) ?_; intro v5 w5 hO5 f5)
        have hF5 := HF.out.fresh f5 (fun q hq => by have := (HO.out.lt q hq).1; omega)
        go_ret3
        rw [HE.out]
        exact ⟨_, rfl, hO5.ns fd_tk, hF5⟩
end Go.Proofs.YtpapgfjainllpaaDoor


namespace Go.Proofs.YtpapgfjainllpaaDoor
set_option linter.unusedVariables false
set_option linter.unusedSimpArgs false
set_option maxRecDepth 100000
open Go.RowKit

/-- so far: the words' bytes ended at i -/
structure RI (l : List UInt8) (i : Nat) (D : List Tk) : Prop where
  rest : tokB 0 l = preT D (tokB i (l.drop i))
  few : D.length ≤ i
theorem ri_zero (l : List UInt8) : RI l 0 [] := ⟨by simp [preT_nil], by simp⟩
theorem RI.blank {l : List UInt8} {i : Nat} {D : List Tk} {c : UInt8} (h : RI l i D) (hc : l[i]? = some c) (hk : blkB c = true) : RI l (i + 1) D := by
  obtain ⟨hi, rfl⟩ := List.getElem?_eq_some_iff.1 hc
  have hr := h.rest
  rw [List.drop_eq_getElem_cons hi, tok_blank i hk] at hr
  exact ⟨hr, by have := h.few; omega⟩
theorem RI.bad {l : List UInt8} {i : Nat} {D : List Tk} {c : UInt8} (h : RI l i D) (hc : l[i]? = some c) (hk : blkB c = false) (ho : oneB (l.drop i) = none) : tokB 0 l = .error i := by
  obtain ⟨hi, rfl⟩ := List.getElem?_eq_some_iff.1 hc
  have hr := h.rest
  rw [List.drop_eq_getElem_cons hi] at hr ho
  rw [tok_bad i hk ho] at hr
  exact hr
theorem RI.word {l : List UInt8} {i : Nat} {D : List Tk} {t : Tk} {n : Nat} (h : RI l i D) (hi : i < l.length) (ho : oneB (l.drop i) = some (t, n)) : RI l (i + n) (D ++ [putAt t i]) ∧ 1 ≤ n ∧ i + n ≤ l.length := by
  have hr := h.rest
  have hf := h.few
  rw [List.drop_eq_getElem_cons hi] at ho
  obtain ⟨h1, h2, _⟩ := one_is ho
  rw [← List.drop_eq_getElem_cons hi, List.length_drop] at h2
  rw [List.drop_eq_getElem_cons hi, tok_one i ho, preT_app, ← List.drop_eq_getElem_cons hi, List.drop_drop] at hr
  exact ⟨⟨hr, by simp; omega⟩, h1, by omega⟩
theorem RI.end_ {l : List UInt8} {i : Nat} {D : List Tk} (h : RI l i D) (hi : ¬ i < l.length) (hi2 : i ≤ l.length) : tokB 0 l = .ok (D ++ [⟨0, [], 0, l.length⟩]) := by
  have hr := h.rest
  rw [show i = l.length by omega, List.drop_length, tok_nil] at hr
  exact hr

set_option maxHeartbeats 4000000 in
theorem wordsR_any (l : List UInt8) (w : World) : Calls Tryd.prog 9 #[.string ⟨l.toArray⟩] w fun e w' => ∃ v, e = .returned (.tuple #[v, .int .i64 ((wsB l).2.1 : Nat), .int .i64 ((wsB l).2.2 : Nat)]) ∧ Tks w' v (wsB l).1 ∧ Fr Non w w' := by
  by_cases hlong : 400 < l.length
  · have HE := Lib.hid (all_long hlong)
    have hb : decide ((400 : Int) < (l.length : Int)) = true := by simp; omega
    clear hlong
    go_enter Tryd.func9, Tryd.ntmps9
    go_wp2
    go_ret3
    rw [HE.out]
    exact ⟨_, rfl, Ns.nil_ w, Fr.refl _ _⟩
  · have hb : decide ((400 : Int) < (l.length : Int)) = false := by simp; omega
    have HS := Lib.hid hlong
    have hl4 : l.length ≤ 400 := by omega
    clear hlong
    go_enter Tryd.func9, Tryd.ntmps9
    go_wp2
    clear hb
    go_loopw [5, 6] (fun v bv wr => ∃ i D, i ≤ l.length ∧ bv = .int .i64 (i : Nat) ∧ D.length ≤ 400 ∧ TkoR wr w.heap.size v D ∧ Fr Non w wr ∧ Hid (RI l i D)) (fun _ bv _ => l.length - (intOf bv).toNat)
    case atStart => exact ⟨0, [], by omega, rfl, by simp, no_lit0 w w.heap.size w.heap.size rfl (Nat.le_refl _), (Fr.refl _ _).alloc _, Lib.hid (ri_zero l)⟩
    case round =>
      obtain ⟨i, D, hi, rfl, hD4, hown, hfr, hd⟩ := hrel
      by_cases hlt : i < l.length
      · obtain ⟨c, r, -, hc, -⟩ := drop_is hlt
        have hg := byteW hc
        have hltb : decide (i < l.length) = true := by simp; omega
        have HO := Lib.hid hown
        have HF := Lib.hid hfr
        clear hown hfr
        cases hk : blkB c with
        | true =>
          have HM := Lib.hid (hd.out.blank hc hk)
          clear hd hc
          simp only [blkB, decide_eq_true_eq] at hk
          by_cases k1 : c.toNat = 32
          · have kb1 : ((c.toNat : Int) == 32) = true := by simp; omega
            clear hk k1
            go_wp2
            go_roundw
            case rel => exact ⟨i + 1, D, by omega, by push_cast; rfl, hD4, HO.out, HF.out, HM⟩
            case measure => simp [intOf]; omega
          · have kb1 : ((c.toNat : Int) == 32) = false := by rw [beq_eq_false_iff_ne]; omega
            by_cases k2 : c.toNat = 9
            · have kb2 : ((c.toNat : Int) == 9) = true := by simp; omega
              clear hk k1 k2
              go_wp2
              go_roundw
              case rel => exact ⟨i + 1, D, by omega, by push_cast; rfl, hD4, HO.out, HF.out, HM⟩
              case measure => simp [intOf]; omega
            · have kb2 : ((c.toNat : Int) == 9) = false := by rw [beq_eq_false_iff_ne]; omega
              have kb3 : ((c.toNat : Int) == 10) = true := by simp; omega
              clear hk k1 k2
              go_wp2
              go_roundw
              case rel => exact ⟨i + 1, D, by omega, by push_cast; rfl, hD4, HO.out, HF.out, HM⟩
              case measure => simp [intOf]; omega
        | false =>
          have HFst := Lib.hid (fun V => rone_any (l.drop i) V (by rw [List.length_drop]; omega) (by rw [List.length_drop]; omega))
          have hx := ext_from l i hi
          have HWB := Lib.hid (hd.out.bad hc hk)
          have HWW := Lib.hid (fun t n => hd.out.word (t := t) (n := n) hlt)
          simp only [blkB, decide_eq_false_iff_not, not_or] at hk
          have kb1 : ((c.toNat : Int) == 32) = false := by rw [beq_eq_false_iff_ne]; omega
          have kb2 : ((c.toNat : Int) == 9) = false := by rw [beq_eq_false_iff_ne]; omega
          have kb3 : ((c.toNat : Int) == 10) = false := by rw [beq_eq_false_iff_ne]; omega
          clear hd hc hk
          generalize l.drop i = m at *
          go_wp2_with fail
          refine (HFst.out _).mono ?_
          rintro e w2 ⟨hE, hf2⟩
          clear HFst
          have HO2 := Lib.hid (HO.out.non hf2)
          have HF2 := Lib.hid (HF.out.then hf2)
          clear hf2 HO HF
          cases ho : oneB m with
          | none =>
            rw [ho] at hE
            obtain ⟨t, rfl⟩ := hE
            have HE := Lib.hid (all_bad HS.out (HWB.out ho))
            clear ho HWB HWW
            dsimp only [tkV, tkA]
            go_wp2
            go_ret3
            rw [HE.out]
            exact ⟨_, rfl, Ns.nil_ _, HF2.out.alloc _⟩
          | some y =>
            obtain ⟨t, n⟩ := y
            rw [ho] at hE
            obtain rfl : e = .returned (.tuple #[tkV t, .int .i64 (n : Nat)]) := hE
            obtain ⟨hM, hn1, hin⟩ := HWW.out t n ho
            have hDn := hM.few
            rw [List.length_append] at hDn
            have hn0 : ((n : Int) == 0) = false := by rw [beq_eq_false_iff_ne]; omega
            have HM := Lib.hid hM
            clear ho hM HWB HWW
            have hO4 := HO2.out.alloc (.cells #[.int .i64 t.kind, .string ⟨t.txt.toArray⟩, .int .i64 t.num, .int .i64 (i : Int)] 42)
            have hF4 := HF2.out.alloc (.cells #[.int .i64 t.kind, .string ⟨t.txt.toArray⟩, .int .i64 t.num, .int .i64 (i : Int)] 42)
            have hsz := hF4.size
            have HO4 := Lib.hid hO4
            have HF4 := Lib.hid hF4
            clear hO4 hF4 HO2 HF2
            dsimp only [tkV, tkA]
            go_wp2_with (at_builtin; refine wpList_pushN fd_tk eln_tkR rfl (.tmp 47) (.tmp 49) rfl w.heap.size _ D rfl HO4.out (putAt t i) #[.int .i64 t.kind, .string ⟨t.txt.toArray⟩, .int .i64 t.num, .int .i64 i] rfl _ rfl (by simp) (by omega) (by omega) ?_; intro v5 w5 hO5 f5)
            have hF5 := HF4.out.fresh f5 (fun q hq => by have := (HO4.out.lt q hq).1; omega)
            go_roundw
            case rel => exact ⟨i + n, _, by omega, by push_cast; rfl, by rw [List.length_append]; omega, hO5, hF5, HM⟩
            case measure => simp [intOf]; omega
      · have hltb : decide (i < l.length) = false := by simp; omega
        have HE := Lib.hid (all_ok HS.out (hd.out.end_ hlt hi))
        have HO := Lib.hid hown
        have HF := Lib.hid hfr
        have hsz := hfr.size
        clear hd hown hfr
        go_wp2_with (at_builtin; refine wpList_pushN fd_tk eln_tkR rfl (.tmp 54) (.tmp 58) rfl w.heap.size _ D rfl HO.out ⟨0, [], 0, l.length⟩ #[.int .i64 0, .string ⟨#[]⟩, .int .i64 0, .int .i64 l.length] rfl _ rfl rfl (by omega) (by omega) ?_; intro v5 w5 hO5 f5)
        have hF5 := HF.out.fresh f5 (fun q hq => by have := (HO.out.lt q hq).1; omega)
        go_ret3
        rw [HE.out]
        exact ⟨_, rfl, hO5.ns fd_tk, hF5⟩
end Go.Proofs.YtpapgfjainllpaaDoor


namespace Go.Proofs.YtpapgfjainllpaaDoor
set_option linter.unusedVariables false
set_option linter.unusedSimpArgs false
set_option maxRecDepth 100000
open Go.RowKit

theorem lnum_any (n : Int) (w : World) : Calls Tryd.prog 7 #[.int .i64 n] w fun e w' => e = .returned (.int .i64 n) ∧ w = w' := by
  go_enter Tryd.func7, Tryd.ntmps7
  go_wp2
  go_ret
  exact ⟨rfl, rfl⟩
theorem tk_lit {w : World} {a : Addr} {t : Tk} (h : AtN w a (tkL t)) : w.cell? a = some (.int .i64 t.kind) ∧ w.cell? { block := a.block, off := a.off + 1 } = some (.string ⟨t.txt.toArray⟩) ∧ w.cell? { block := a.block, off := a.off + 2 } = some (.int .i64 t.num) ∧ w.cell? { block := a.block, off := a.off + 3 } = some (.int .i64 t.at_) :=
  ⟨h 0 _ rfl, h 1 _ rfl, h 2 _ rfl, h 3 _ rfl⟩

set_option maxHeartbeats 2000000 in
theorem lsame_eq (v1 v2 : Value) (l : List Tk) (w : World) (h1 : Tks w v1 l) (h2 : Tks w v2 l) (hl : l.length ≤ 1000000) :
    Calls Tryd.prog 10 #[v1, v2] w fun e w' => e = .returned (.bool true) ∧ Fr Non w w' := by
  obtain ⟨A1, c1, rfl⟩ := h1.shape
  obtain ⟨A2, c2, rfl⟩ := h2.shape
  have H1 := Lib.hid h1
  have H2 := Lib.hid h2
  clear h1 h2
  go_enter Tryd.func10, Tryd.ntmps10
  go_wp2
  go_loopw [5] (fun b wr => ∃ k : Nat, b = .int .i64 (k : Int) ∧ k ≤ l.length ∧ Fr Non w wr) (fun b _ => l.length - (intOf b).toNat)
  case atStart => exact ⟨0, rfl, by omega, Fr.refl _ _⟩
  case round =>
    obtain ⟨k, rfl, hk, hF⟩ := hrel
    by_cases hlt : k < l.length
    · obtain ⟨x, hx⟩ : ∃ x, l[k]? = some x := ⟨l[k], List.getElem?_eq_getElem hlt⟩
      obtain ⟨a1, rfl, e1⟩ := (H1.out.non hF).at_ k x hx
      obtain ⟨a2, rfl, e2⟩ := (H2.out.non hF).at_ k x hx
      obtain ⟨p0, p1, p2, p3⟩ := tk_lit e1
      obtain ⟨q0, q1, q2, q3⟩ := tk_lit e2
      have HF := Lib.hid hF
      have hltb : decide (k < l.length) = true := by simp; omega
      clear e1 e2 hF hx
      go_wp2_with fail
      go_quiet (fail)
      go_wp2
      go_roundw
      case rel => exact ⟨k + 1, by push_cast; rfl, by omega, HF.out.drewN _⟩
      case measure => simp [intOf]; omega
    · have HF := Lib.hid hF
      have hltb : decide (k < l.length) = false := by simp; omega
      go_wp2
      go_ret
      exact ⟨rfl, HF.out⟩

/-! ### The page's example -/
def exW : List Tk := [⟨1, [97], 0, 0⟩, ⟨4, [60, 61], 0, 1⟩, ⟨2, [], -5, 3⟩, ⟨0, [], 0, 5⟩]
theorem val_m5 : valB [45, 53] = some (-5) := by
  have e : Lib.itoa (-5) = [45, 53] := by
    rw [show (-5 : Int) = -((5 : Nat) : Int) by rfl, itoa_down 5 (by omega), Lib.decDigits_one (by omega)]; rfl
  rw [← e]; exact valB_itoa (by unfold I64b; omega)
theorem ex_ws : wsB [97, 60, 61, 45, 53] = (exW, 5, 0) := by
  refine all_ok (by decide) ?_
  rw [tok_one (t := ⟨1, [97], 0, 0⟩) (n := 1) 0 (by rfl)]
  show preT _ (tokB 1 [60, 61, 45, 53]) = _
  rw [tok_one (t := ⟨4, [60, 61], 0, 0⟩) (n := 2) 1 (by rfl)]
  show preT _ (preT _ (tokB 3 [45, 53])) = _
  rw [tok_one (t := ⟨2, [], -5, 0⟩) (n := 2) 3 (by
    simp only [oneB]
    rw [if_neg (by decide), if_pos (by decide)]
    show (valB [45, 53]).map _ = _
    rw [val_m5]; rfl)]
  rfl

set_option maxHeartbeats 2000000 in
theorem live16_any (w : World) (hW : Lw w) : Calls Tryd.prog 8 #[] w fun e w' => e = .returned (.bool true) ∧ Fr Non w w' := by
  have HA := Lib.hid (wall_any [97, 60, 61, 45, 53] w hW)
  rw [ex_ws] at HA
  have HN := Lib.hid (fun n V => lnum_any n V)
  go_enter Tryd.func8, Tryd.ntmps8
  go_wp2_with fail
  refine HA.out.mono ?_
  rintro e w1 ⟨v, rfl, hv, hf⟩
  obtain ⟨A, c, rfl⟩ := hv.shape
  obtain ⟨a, rfl, e1⟩ := hv.at_ 1 ⟨4, [60, 61], 0, 1⟩ rfl
  obtain ⟨a', ha', e2⟩ := hv.at_ 2 ⟨2, [], -5, 3⟩ rfl
  obtain rfl := Option.some.inj ha'
  obtain ⟨a', ha', e3⟩ := hv.at_ 3 ⟨0, [], 0, 5⟩ rfl
  obtain rfl := Option.some.inj ha'
  have p1 : w1.cell? { block := a.block, off := a.off + 4 + 1 } = some (.string ⟨#[60, 61]⟩) := (tk_lit e1).2.1
  have p2 : w1.cell? { block := a.block, off := a.off + 8 + 2 } = some (.int .i64 (-5)) := (tk_lit e2).2.2.1
  have p3 : w1.cell? { block := a.block, off := a.off + 12 + 3 } = some (.int .i64 5) := (tk_lit e3).2.2.2
  have HF := Lib.hid hf
  clear HA hv hf e1 e2 e3 ha'
  rw [show exW.length = 4 by rfl]
  go_wp2_with (refine (HN.out _ _).mono ?_; rintro e w2 ⟨rfl, rfl⟩)
  go_ret
  exact ⟨rfl, HF.out⟩
end Go.Proofs.YtpapgfjainllpaaDoor


namespace Go.Proofs.YtpapgfjainllpaaDoor
set_option linter.unusedVariables false
set_option linter.unusedSimpArgs false
set_option maxRecDepth 100000
open Go.RowKit

theorem ws_few (l : List UInt8) : (wsB l).1.length ≤ 1000000 := by
  unfold wsB
  by_cases h : 400 < l.length
  · rw [if_pos h]; simp
  · rw [if_neg h]
    have key : ∀ (n a : Nat) (l : List UInt8), l.length ≤ n → ∀ ts, tokB a l = .ok ts → ts.length ≤ l.length + 1 := by
      intro n
      induction n with
      | zero =>
        intro a l hl ts ht
        obtain rfl : l = [] := List.eq_nil_of_length_eq_zero (by omega)
        rw [tok_nil] at ht; cases ht; simp
      | succ n ih =>
        intro a l hl ts ht
        cases l with
        | nil => rw [tok_nil] at ht; cases ht; simp
        | cons c r =>
          simp only [List.length_cons] at hl
          cases hb : blkB c with
          | true => rw [tok_blank a hb] at ht; have := ih (a + 1) r (by omega) ts ht; simp; omega
          | false =>
            cases ho : oneB (c :: r) with
            | none => rw [tok_bad a hb ho] at ht; cases ht
            | some x =>
              obtain ⟨t, k⟩ := x
              rw [tok_one a ho] at ht
              have hi := one_is ho
              cases hr : tokB (a + k) ((c :: r).drop k) with
              | error e => rw [hr] at ht; cases ht
              | ok us =>
                rw [hr] at ht
                obtain rfl : [putAt t a] ++ us = ts := by simpa [preT] using ht
                have := ih (a + k) _ (by rw [List.length_drop, List.length_cons]; omega) us hr
                rw [List.length_drop] at this
                simp at this ⊢; omega
    cases ht : tokB 0 l with
    | error p => simp
    | ok ts => have := key l.length 0 l (Nat.le_refl _) ts ht; simp; omega

set_option maxHeartbeats 2000000 in
theorem wordAll_walk (l : List UInt8) (w : World) (hW : Lw w) :
    Calls Tryd.prog 3 #[.string ⟨l.toArray⟩] w fun e w' => e = .returned (.bool true) ∧ Below w.heap.size w w' := by
  have HA := Lib.hid (wall_any l w hW)
  have HN := Lib.hid (fun n V => lnum_any n V)
  have HV := Lib.hid (fun V h => live16_any V h)
  have HL := Lib.hid hW
  by_cases h5 : 500 < l.length
  · have hb : decide ((500 : Int) < (l.length : Int)) = true := by simp; omega
    rw [all_long (by omega)] at HA
    clear h5
    go_enter Tryd.func3, Tryd.ntmps3
    go_wp2_with fail
    refine HA.out.mono ?_
    rintro e w1 ⟨v, rfl, hv, hf⟩
    have HF := Lib.hid hf
    clear HA hv hf
    dsimp only
    go_wp2_with fail
    refine (HN.out _ _).mono ?_
    rintro e w2 ⟨rfl, rfl⟩
    go_wp2_with fail
    refine (HV.out _ (HL.out.non HF.out)).mono ?_
    rintro e w2 ⟨rfl, hf2⟩
    have HF2 := Lib.hid (HF.out.trans hf2)
    clear hf2
    go_wp2
    go_ret
    exact ⟨rfl, HF2.out.below⟩
  · have hb : decide ((500 : Int) < (l.length : Int)) = false := by simp; omega
    have HR := Lib.hid (fun V => wordsR_any l V)
    have HS := Lib.hid (ws_few l)
    clear h5
    generalize wsB l = y at *
    obtain ⟨ts, n, f⟩ := y
    go_enter Tryd.func3, Tryd.ntmps3
    go_wp2_with fail
    refine HA.out.mono ?_
    rintro e w1 ⟨v1, rfl, hv1, hf1⟩
    have HF1 := Lib.hid hf1
    have HV1 := Lib.hid hv1
    clear HA hv1 hf1
    dsimp only
    go_wp2_with fail
    refine (HR.out _).mono ?_
    rintro e w2 ⟨v2, rfl, hv2, hf2⟩
    have HF2 := Lib.hid (HF1.out.trans hf2)
    have HV2 := Lib.hid hv2
    have HV1' := Lib.hid (HV1.out.non hf2)
    have HSm := Lib.hid (lsame_eq v1 v2 _ w2 (HV1.out.non hf2) hv2 HS.out)
    clear HR hv2 hf2 HF1 HV1
    dsimp only
    go_wp2_with fail
    refine HSm.out.mono ?_
    rintro e w3 ⟨rfl, hf3⟩
    have HF3 := Lib.hid (HF2.out.trans hf3)
    clear HSm hf3 HF2 HV2 HV1'
    go_wp2_with fail
    refine (HN.out _ _).mono ?_
    rintro e w4 ⟨rfl, rfl⟩
    go_wp2_with fail
    refine (HV.out _ (HL.out.non HF3.out)).mono ?_
    rintro e w5 ⟨rfl, hf5⟩
    have HF5 := Lib.hid (HF3.out.trans hf5)
    clear hf5
    go_wp2
    go_ret
    exact ⟨rfl, HF5.out.below⟩
end Go.Proofs.YtpapgfjainllpaaDoor


namespace Go.Proofs.YtpapgfjainllpaaDoor
set_option linter.unusedVariables false
set_option linter.unusedSimpArgs false
set_option maxRecDepth 100000
open Go.ChangeShapes Go.WideShapes Go.ChangeAt Go.RowKit

/-- a call's contract, by what the row says and by what the world's shape says -/
theorem handed_shaped {H : Type} {enc : TypeId × Value → H} {a : Assume} {C : Checked} {os : Os} {f : FuncId} {fn : Func} {s : ChangeSpec} {conds : List PathCond} {apart fresh handsOn again : Bool} {X : World → Array Value → Prop}
    (hX : ∀ (w w' : World) (args : Array Value), w.heap = w'.heap → X w args → X w' args)
    (own : ownKnob C.prog.godebug = none) (started : os.Started) (noInit : C.prog.inits.idxOf? f = none) (hfn : C.prog.funcs[f]? = some fn)
    (witness : ∃ (w : World) (tape : Tape) (i : Input), w.os = os ∧ (w.forCall tape i).Shaped C.prog ∧ i.vars = [] ∧ Input.okWide C.prog (w.forCall tape i) .any w.heap.size f i ∧
      ((s.pre enc C.prog fn conds apart (w.forCall tape i).memory i.args ∧ X (w.forCall tape i).memory i.args) ∧ sizedMet enc C.prog fn (OpenSpec.ofChange s) apart (w.forCall tape i).memory i.args) ∧ a.holds C.prog (lone (Frame.enter C.prog f i.args .normal) [] (w.forCall tape i)))
    (contract : ∀ (W : World) (base : Nat) (args : Array Value) (ds gs : List (DataW H)) (before : List MemPlace),
      (∀ (j : Nat) t v, fn.params[j]? = some t → args[j]? = some v → Value.okWide C.prog W .any base t v) →
      DataW.Whole enc C.prog fn.params.toList s.vars apart W args.toList ds gs before → W.ShapedOpen C.prog → X W args →
      Calls C.prog f args W fun e W' => ∃ v, e = .returned v ∧ s.post enc C.prog fn apart fresh handsOn again W args v W') :
    ReturnsInHanded a C os f .any (fun w args => (s.pre enc C.prog fn conds apart w args ∧ X w args) ∧ sizedMet enc C.prog fn (OpenSpec.ofChange s) apart w args) (s.post enc C.prog fn apart fresh handsOn again) := by
  refine returnsInHanded_of_calls own started noInit witness ?_
  intro w tape i _ hsh _ hok hpre hholds
  obtain ⟨_, _, _, fn', hfn', _, _, _, _, hval⟩ := hok
  obtain rfl : fn' = fn := Option.some.inj (hfn'.symm.trans hfn)
  obtain ⟨⟨⟨ds, gs, before, hw, _⟩, hx⟩, _⟩ := hpre
  refine (contract (w.forCall tape i) w.heap.size i.args ds gs before hval (DataW.Whole.of_heap (w' := w.forCall tape i) (by rfl) hw) hsh (hX _ _ _ (by rfl) hx)).mono fun e W' ⟨v, he, hp⟩ => ?_
  subst he
  exact ChangeSpec.post_blind hp

/-- the list of the rows of this layer -/
abbrev laid16 : List (String × DataW Unit) := [("math/bits.deBruijn32tab", Rows.laid_math_bits_deBruijn32tab), ("math/bits.deBruijn64tab", Rows.laid_math_bits_deBruijn64tab), ("internal/strconv.uint64pow10", Rows.laid_internal_strconv_uint64pow10), ("unicode/utf8.acceptRanges", Rows.laid_unicode_utf8_acceptRanges), ("strconv.ErrRange", Rows.laid_strconv_ErrRange), ("strconv.ErrSyntax", Rows.laid_strconv_ErrSyntax), ("firkin/word.marks", Rows.laid_firkin_word_marks), ("unicode/utf8.first", Rows.laid_unicode_utf8_first)]
theorem err_row (u : TypeId) (h : Tryd.prog.typeName? 3 u = some "*errors.errorString") : u = 114 :=
  typeName_ptr_named (nm := "errors.errorString") (by rw [show "*" ++ "errors.errorString" = "*errors.errorString" by decide]; kernel_rfl) (by kernel_rfl) (by decide) u (by rw [show "*" ++ "errors.errorString" = "*errors.errorString" by decide]; exact h)
theorem pow_data : (Rows.laid_internal_strconv_uint64pow10 : DataW Unit) = Lib.tabData .u64 Lib.pow10Tab := by kernel_rfl
def marksD : List (DataW Unit) := marksL.map fun l => .lit (.string l)
theorem marks_data : (Rows.laid_firkin_word_marks : DataW Unit) = .agg marksD := by kernel_rfl
theorem marks_in {W : World} {r : List (String × DataW Unit)} (h : laidMet Tryd.prog (("firkin/word.marks", Rows.laid_firkin_word_marks) :: r) W) : ∀ j (h : j < marksL.length), W.cell? ⟨0, j, none⟩ = some (.string ⟨marksL[j].toArray⟩) := by
  intro j hj
  rw [marks_data] at h
  obtain ⟨ps, ⟨g, t, cs, fuel, p, q, hg, ht, hv, hd, _, _⟩, _, _⟩ := h
  obtain rfl := Option.some.inj ((show Tryd.prog.globalNamed "firkin/word.marks" = some 0 by kernel_rfl).symm.trans hg)
  obtain rfl := Option.some.inj ((show (Tryd.prog.globals[0]?).map (·.type) = some 63 by kernel_rfl).symm.trans ht)
  obtain ⟨xs, m, _, ex, _, hl, hel⟩ := DataW.trod_array Tryd.underlying63 hd
  have c9 : Tryd.prog.cellsOf 9 = 1 := by kernel_rfl
  have hj10 : j < 10 := hj
  have hE := hel j hj10
  rw [c9, Nat.mul_one, List.getElem?_eq_getElem (by omega)] at hE
  obtain ⟨s, e1, e2, _⟩ := DataW.trod_string Tryd.underlying9 hE
  have e3 : (xs.map (·.1)) = marksD := (DataW.agg.inj (Prod.mk.inj ex).1).symm
  have e4 : (xs.map (·.1))[j]? = marksD[j]? := by rw [e3]
  unfold marksD at e4
  obtain ⟨m', hm⟩ : ∃ m', marksL[j]? = some m' := ⟨_, List.getElem?_eq_getElem hj⟩
  rw [List.getElem?_map, List.getElem?_map, List.getElem?_eq_getElem (by omega : j < xs.length), hm, e2] at e4
  have hs : s.data.toList = m' := by simpa using e4
  rw [World.var?_cell hg hv j, (List.getElem?_eq_some_iff.1 hm).2, ← hs]
  have : cs.toList[j]? = some (.string s) := by
    have h0 : ((cs.toList.drop j).take 1)[0]? = some (.string s) := by rw [e1]; rfl
    simpa using h0
  simpa using this
theorem lw_in {W : World} (h : laidMetH Tryd.prog laid16 W) (hs : W.ShapedOpen Tryd.prog) : Lw W := by
  rw [MakeChecks.laidMetH_plain _ _ _ (by kernel_rfl)] at h
  have h2 := h.tail.tail
  have h5 := h2.tail.tail
  have h7 := h5.tail.tail
  refine ⟨marks_in h7, cell_of_shapedOpen_int hs (by decide +kernel) (t := 3) (zero := #[.int .i64 0]) (by kernel_rfl) rfl (by kernel_rfl) (by kernel_rfl) Tryd.underlying3, ?_, ?_, ?_⟩
  · exact Lib.tabIs_of_head (n := 20) (show Tryd.prog.globalNamed "internal/strconv.uint64pow10" = some 1 by kernel_rfl)
      (show (Tryd.prog.globals[1]?).map (·.type) = some 86 by kernel_rfl) Tryd.underlying86 Tryd.underlying48 (by kernel_rfl) (by kernel_rfl) (by rw [pow_data] at h2; exact h2)
  · obtain ⟨a, s, hv, _⟩ := laid_sentinel h5.tail (show Tryd.prog.globalNamed "strconv.ErrSyntax" = some 5 by kernel_rfl) (show (Tryd.prog.globals[5]?).map (·.type) = some 60 by kernel_rfl) Tryd.underlying60 err_row Tryd.underlying114 Tryd.underlying116 rfl rfl Tryd.underlying9 (by kernel_rfl) (by kernel_rfl)
    exact ⟨_, _, hv⟩
  · obtain ⟨a, s, hv, _⟩ := laid_sentinel h5 (show Tryd.prog.globalNamed "strconv.ErrRange" = some 6 by kernel_rfl) (show (Tryd.prog.globals[6]?).map (·.type) = some 60 by kernel_rfl) Tryd.underlying60 err_row Tryd.underlying114 Tryd.underlying116 rfl rfl Tryd.underlying9 (by kernel_rfl) (by kernel_rfl)
    exact ⟨_, _, hv⟩

/-! ### A world in which they lie so -/
theorem laid16_shaped (os : Os) : (World.laidAll Tryd.prog os laid16).Shaped Tryd.prog := World.shaped_of_ZipB (by kernel_rfl) (by kernel_rfl)
theorem laid16_met (os : Os) (args : Array Value) : laidMetH Tryd.prog laid16 ((World.laidAll Tryd.prog os laid16).forCall (fun _ _ => 0) ⟨#[], args, []⟩).memory := by
  rw [MakeChecks.laidMetH_plain _ _ _ (by kernel_rfl)]
  exact laidMet_laidAll _ (by kernel_rfl) (by kernel_rfl)
end Go.Proofs.YtpapgfjainllpaaDoor
