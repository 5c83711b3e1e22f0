/-
  Joined: Layer 16: names, numbers, marks; the first word (the program's). · Layer 16: the document's digits. · Layer 16: the number of digits (the document's). · Layer 16: Quote (both), the document's quoted. · Layer 16: marks; the first word (the program's). · Layer 16: all the words of a text (the program's). · Layer 16: all the words of a text (the document's). · Layer 16: tokens compared; the page's example. · Layer 16: the walk of WordBack. · Layer 16: the variables that a row lists, opened; a row's frame that hands the world's shape on.
-/
import Derived.Deep.Slices
import Derived.Test.YtpapgfjainllpaaDoorZ1
import Derived.BigQuiet
import Derived.Deep.RegionHeld3
import Derived.Test.YtpapgfjainllpaaDoorRows
import Derived.LaidMore
import Derived.Lay
import Derived.Handed
import Derived.Stop.LaidErr
import Derived.Lib.LaidTab
import Derived.Shelf.Vars
import Derived.OpenShut
import Derived.Stop.Joined
import Derived.ProofKit

namespace Go.Proofs.YtpapgfjainllpaaDoor
set_option linter.unusedVariables false
set_option linter.unusedSimpArgs false
set_option maxRecDepth 100000
open Go.RowKit

set_option maxHeartbeats 1000000 in
theorem wname_any (l : List UInt8) (w : World) (hl : l.length ≤ 1000000) : Calls Tryd.prog 21 #[.string ⟨l.toArray⟩] w fun e w' => TkEnd (some (⟨1, l.take (spanN innB l), 0, 0⟩, spanN innB l)) e ∧ Fr Non w w' := by
  have HC := Lib.hid (fun V => while_inn l V (by omega))
  have hn := span_le innB l
  have hx := ext_to l (spanN innB l)
  generalize spanN innB l = n at *
  generalize l.take n = m at *
  go_enter Tryd.func21, Tryd.ntmps21
  go_wp2_with fail
  refine (HC.out _).mono ?_
  rintro e w1 ⟨rfl, hf1⟩
  obtain ⟨hB, hf⟩ := tkW_after hf1
  obtain ⟨c0, c1, c2, c3, z0, z1, z2, z3⟩ := hB.facts
  dsimp only [noTk] at c0 c1 c2 c3
  have HB := Lib.hid hB
  have HF := Lib.hid hf
  clear hf1 HC hB hf
  go_wp2
  exact bodyPost_ret (ret_tkW (p := 2) (u := 3) rfl _ _ w.heap.size ⟨1, m, 0, 0⟩ (.int .i64 (n : Int)) rfl rfl (setTk_W HB.out ⟨1, m, 0, 0⟩)) rfl ⟨rfl, setTk_end HF.out ⟨1, m, 0, 0⟩⟩

theorem wdigits_any (n : Int) (w : World) (hW : Lw w) (hn : I64b n) : Calls Tryd.prog 12 #[.int .i64 n] w fun e w' => e = .returned (.string ⟨(Lib.itoa n).toArray⟩) ∧ Fr Non w w' := by
  have H := Lib.hid (sfmt_any n w hW hn)
  go_enter Tryd.func12, Tryd.ntmps12
  go_wp2_with fail
  refine H.out.mono ?_
  rintro e w1 ⟨rfl, hf1⟩
  have HF := Lib.hid hf1
  clear hf1 H
  go_wp2
  go_ret
  exact ⟨rfl, HF.out⟩

/-- of how many bytes a number is -/
def sgnN (l : List UInt8) : Nat := if [45].isPrefixOf l then 1 else 0
def nszN (l : List UInt8) : Nat := sgnN l + spanN digB (l.drop (sgnN l))
theorem nsz_le (l : List UInt8) : sgnN l ≤ l.length ∧ nszN l ≤ l.length := by
  have h1 : sgnN l ≤ l.length := by
    unfold sgnN
    cases l with
    | nil => simp
    | cons c r => split <;> simp
  have := span_le digB (l.drop (sgnN l))
  rw [List.length_drop] at this
  unfold nszN
  exact ⟨h1, by omega⟩
theorem nsz_is {c : UInt8} {r : List UInt8} (h : (digB c || decide (c = 45)) = true) : nszN (c :: r) = 1 + spanN digB r := by
  unfold nszN sgnN
  by_cases hc : c = 45
  · subst hc
    rw [if_pos (by simp [List.isPrefixOf])]; rfl
  · rw [if_neg (by simp [List.isPrefixOf]; exact fun e => hc e.symm)]
    have hd : digB c = true := by simpa [hc] using h
    show 0 + spanN digB (c :: r) = _
    rw [span_yes hd]; omega
theorem trm_len (l : List UInt8) : (Lib.trimPrefix l [45]).length + sgnN l = l.length := by
  unfold Lib.trimPrefix Lib.hasPrefix sgnN
  split
  · rename_i h
    cases l with
    | nil => simp [List.isPrefixOf] at h
    | cons c r => simp
  · simp
theorem val_ok {l : List UInt8} {v : Int} (h : Lib.parseIntB 64 l = .ok v) : valB l = (if Lib.itoa v = l then some v else none) ∧ I64b v := by
  have hb := Lib.parseIntB_bounds h
  have e : (2 ^ (64 - 1) : Nat) = 9223372036854775808 := rfl
  rw [e] at hb
  refine ⟨?_, by unfold I64b; omega⟩
  unfold valB; rw [h]
theorem val_bad {l : List UInt8} (h : ∀ v, Lib.parseIntB 64 l ≠ .ok v) : valB l = none := by
  unfold valB
  rcases hp : Lib.parseIntB 64 l with v | _ | _
  · exact absurd hp (h v)
  · rfl
  · rfl

set_option maxHeartbeats 1000000 in
theorem wnumber_any (l : List UInt8) (w : World) (hW : Lw w) (hl : l.length ≤ 1000000) : Calls Tryd.prog 23 #[.string ⟨l.toArray⟩] w fun e w' => TkEnd ((valB (l.take (nszN l))).map fun v => (⟨2, [], v, 0⟩, nszN l)) e ∧ Fr Non w w' := by
  have HT := Lib.hid (fun V => strm_any l [45] V)
  have ht := trm_len l
  obtain ⟨hs, hn⟩ := nsz_le l
  have hx1 := ext_from l (sgnN l) hs
  have HC := Lib.hid (fun V => while_dig (l.drop (sgnN l)) V (by rw [List.length_drop]; omega))
  have hq := span_le digB (l.drop (sgnN l))
  rw [List.length_drop] at hq
  have hx2 := ext_to l (sgnN l + spanN digB (l.drop (sgnN l)))
  show Calls _ _ _ _ fun e w' => TkEnd ((valB (l.take (sgnN l + spanN digB (l.drop (sgnN l))))).map fun v => (⟨2, [], v, 0⟩, sgnN l + spanN digB (l.drop (sgnN l)))) e ∧ Fr Non w w'
  have HP := Lib.hid (fun V h => sprs_any (l.take (sgnN l + spanN digB (l.drop (sgnN l)))) V h (by rw [List.length_take]; omega))
  clear hn
  generalize Lib.trimPrefix l [45] = T at *
  generalize sgnN l = a at *
  generalize l.drop a = d at *
  generalize spanN digB d = q at *
  have hs2 : (a : Int) + (q : Int) = ((a + q : Nat) : Int) := by omega
  have hn : a + q ≤ l.length := by omega
  generalize a + q = n at *
  generalize l.take n = m at *
  have he : (l.length : Int) - (T.length : Int) = (a : Int) := by omega
  have HL := Lib.hid hW
  go_enter Tryd.func23, Tryd.ntmps23
  go_wp2_with fail
  refine (HT.out _).mono ?_
  rintro e w1 ⟨rfl, rfl⟩
  clear HT
  go_wp2_with fail
  refine (HC.out _).mono ?_
  rintro e w1 ⟨rfl, hf1⟩
  have HF1 := Lib.hid hf1
  clear hf1 HC
  go_wp2_with fail
  refine (HP.out _ (HL.out.non (((Fr.refl Non w).alloc _).then HF1.out))).mono ?_
  rintro e w2 ⟨hE, hf2⟩
  have HF2 := Lib.hid (HF1.out.trans hf2)
  clear hf2 HF1 HP
  rcases hE with ⟨v, hv, rfl⟩ | ⟨hno, x, ty, p, rfl⟩
  · obtain ⟨hv1, hv2⟩ := val_ok hv
    have HD := Lib.hid (fun V h => wdigits_any v V h hv2)
    have HV := Lib.hid hv1
    clear hv1 hv2 hv
    go_wp2_with fail
    have hL2 := (HL.out.non (((Fr.refl Non w).alloc _).then HF2.out)).drew
    go_region_held3 (fun _ => True) (exact trivial) (first | (go_at_call 12; refine (HD.out _ hL2).mono ?_; rintro e w3 ⟨rfl, hf3⟩))
    obtain ⟨hB, hf⟩ := tkW_after (HF2.out.drew.trans hf3)
    obtain ⟨c0, c1, c2, c3, z0, z1, z2, z3⟩ := hB.facts
    dsimp only [noTk] at c0 c1 c2 c3
    have HB := Lib.hid hB
    have HF := Lib.hid hf
    clear HF2 hB hf hf3 HD hL2
    cases hb : (Lib.itoa v == m) with
    | true =>
      replace HV := Lib.hid (HV.out.trans (if_pos (by simpa using hb)))
      go_wp2
      rw [HV.out]
      exact bodyPost_ret (ret_tkW (p := 2) (u := 3) rfl _ _ w.heap.size ⟨2, [], v, 0⟩ (.int .i64 (n : Int)) rfl rfl (setTk_W HB.out ⟨2, [], v, 0⟩)) rfl ⟨rfl, setTk_end HF.out ⟨2, [], v, 0⟩⟩
    | false =>
      replace HV := Lib.hid (HV.out.trans (if_neg (by simpa using hb)))
      go_wp2
      rw [HV.out]
      exact bodyPost_ret (ret_tkW (p := 2) (u := 3) rfl _ _ w.heap.size noTk (.int .i64 0) rfl rfl (setTk_W HB.out noTk)) rfl ⟨⟨noTk, rfl⟩, setTk_end HF.out noTk⟩
  · have HV := Lib.hid (val_bad hno)
    clear hno
    go_wp2_with fail
    go_quiet (fail)
    obtain ⟨hB, hf⟩ := tkW_after (HF2.out.drewN nq)
    obtain ⟨c0, c1, c2, c3, z0, z1, z2, z3⟩ := hB.facts
    dsimp only [noTk] at c0 c1 c2 c3
    have HB := Lib.hid hB
    have HF := Lib.hid hf
    clear HF2 hB hf
    generalize w2.drewN nq = W at *
    go_wp2
    rw [HV.out]
    exact bodyPost_ret (ret_tkW (p := 2) (u := 3) rfl _ _ w.heap.size noTk (.int .i64 0) rfl rfl (setTk_W HB.out noTk)) rfl ⟨⟨noTk, rfl⟩, setTk_end HF.out noTk⟩
end Go.Proofs.YtpapgfjainllpaaDoor


namespace Go.Proofs.YtpapgfjainllpaaDoor
set_option linter.unusedVariables false
set_option linter.unusedSimpArgs false
set_option maxRecDepth 100000
open Go.RowKit
/-- a byte alone, as a text -/
theorem conv_one (W : World) (z : Int) (c : UInt8) (h : z = (c.toNat : Int)) : (convert 47 9 (.slice (some ⟨W.heap.size, 0, none⟩) 1 1)).run Tryd.prog (W.alloc (.cells #[.int .u8 z] 5)) = .ok (.string ⟨[c].toArray⟩) (W.alloc (.cells #[.int .u8 z] 5)) := by
  subst h
  exact run_conv_Bs (bs_row W [c]) 47 9 5 Tryd.underlying47 Tryd.underlying5 Tryd.underlying9
theorem dg_big {x : Nat} (h : 9 < x) : Lib.decDigits x = Lib.decDigits (x / 10) ++ [UInt8.ofNat (48 + x % 10)] := by rw [Lib.decDigits, dif_neg (by omega)]
theorem dg_small {x : Nat} (h : ¬ 9 < x) : Lib.decDigits x = [UInt8.ofNat (48 + x)] := by rw [Lib.decDigits, dif_pos (by omega)]

set_option maxHeartbeats 1000000 in
theorem rdigits_up (u : Nat) (w : World) (hu : u ≤ 9223372036854775807) : Calls Tryd.prog 14 #[.int .i64 u] w fun e w' => e = .returned (.string ⟨(Lib.decDigits u).toArray⟩) ∧ Fr Non w w' := by
  have hneg : decide ((u : Int) < 0) = false := by simp
  have hdl : (Lib.decDigits u).length ≤ 19 := dec_le (k := 18) (by omega)
  go_enter Tryd.func14, Tryd.ntmps14
  go_wp2
  go_loopw [3, 4] (fun a b wr => ∃ (x : Nat) (s : List UInt8), a = .int .u64 (x : Int) ∧ b = .string ⟨s.toArray⟩ ∧ x ≤ 18446744073709551615 ∧ Fr Non w wr ∧ Hid (Lib.decDigits u = Lib.decDigits x ++ s)) (fun a _ _ => (intOf a).toNat)
  case atStart => exact ⟨u, [], rfl, rfl, by omega, Fr.refl _ _, Lib.hid (by simp)⟩
  case round =>
    obtain ⟨x, s, rfl, rfl, hx, hfr, hd⟩ := hrel
    have hsl : s.length ≤ 19 := by have := congrArg List.length hd.out; rw [List.length_append] at this; omega
    by_cases h9 : 9 < x
    · have hb : decide ((9 : Int) < (x : Int)) = true := by simp; omega
      have hc := conv_one wr (48 + (x : Int) % 10) (UInt8.ofNat (48 + x % 10)) (by rw [UInt8.toNat_ofNat']; omega)
      have HM := Lib.hid (hd.out.trans (by rw [dg_big h9, List.append_assoc] : _ = Lib.decDigits (x / 10) ++ ([UInt8.ofNat (48 + x % 10)] ++ s)))
      have ha := fun W => run_string_add_sum (P := Tryd.prog) W ⟨[UInt8.ofNat (48 + x % 10)].toArray⟩ ⟨s.toArray⟩ (by simp [ByteArray.size]; omega)
      have HF := Lib.hid hfr
      have hx10 : x / 10 < x := by omega
      clear hd hfr h9
      generalize UInt8.ofNat (48 + x % 10) = c at *
      go_wp2
      go_roundw
      case rel => exact ⟨x / 10, [c] ++ s, by push_cast; rfl, rfl, by omega, HF.out.alloc _, HM⟩
      case measure => simp [intOf]; omega
    · have hb : decide ((9 : Int) < (x : Int)) = false := by simp; omega
      have hx9 : (x : Int) ≤ 9 := by omega
      have hc := conv_one wr (48 + (x : Int)) (UInt8.ofNat (48 + x)) (by rw [UInt8.toNat_ofNat']; omega)
      have HM := Lib.hid (hd.out.trans (by rw [dg_small h9] : _ = [UInt8.ofNat (48 + x)] ++ s))
      have ha := fun W => run_string_add_sum (P := Tryd.prog) W ⟨[UInt8.ofNat (48 + x)].toArray⟩ ⟨s.toArray⟩ (by simp [ByteArray.size]; omega)
      have HF := Lib.hid hfr
      clear hd hfr h9
      generalize UInt8.ofNat (48 + x) = c at *
      go_wp2
      go_ret
      exact ⟨by rw [HM.out]; rfl, HF.out.alloc _⟩

set_option maxHeartbeats 1000000 in
theorem rdigits_dn (u : Nat) (w : World) (h1 : 1 ≤ u) (hu : u ≤ 9223372036854775808) : Calls Tryd.prog 14 #[.int .i64 (-(u : Int))] w fun e w' => e = .returned (.string ⟨(45 :: Lib.decDigits u).toArray⟩) ∧ Fr Non w w' := by
  have hneg : decide (-(u : Int) < 0) = true := by simp; omega
  have hpos : decide (0 < u) = true := by simp; omega
  have hwr : IntKind.u64.wrap (-IntKind.u64.wrap (-(u : Int))) = (u : Int) := by simp [IntKind.wrap, IntKind.bits, IntKind.signed]; omega
  have hdl : (Lib.decDigits u).length ≤ 19 := dec_le (k := 18) (by omega)
  go_enter Tryd.func14, Tryd.ntmps14
  go_wp2
  go_loopw [3, 4] (fun a b wr => ∃ (x : Nat) (s : List UInt8), a = .int .u64 (x : Int) ∧ b = .string ⟨s.toArray⟩ ∧ x ≤ 18446744073709551615 ∧ Fr Non w wr ∧ Hid (Lib.decDigits u = Lib.decDigits x ++ s)) (fun a _ _ => (intOf a).toNat)
  case atStart => exact ⟨u, [], rfl, rfl, by omega, Fr.refl _ _, Lib.hid (by simp)⟩
  case round =>
    obtain ⟨x, s, rfl, rfl, hx, hfr, hd⟩ := hrel
    have hsl : s.length ≤ 19 := by have := congrArg List.length hd.out; rw [List.length_append] at this; omega
    by_cases h9 : 9 < x
    · have hb : decide ((9 : Int) < (x : Int)) = true := by simp; omega
      have hc := conv_one wr (48 + (x : Int) % 10) (UInt8.ofNat (48 + x % 10)) (by rw [UInt8.toNat_ofNat']; omega)
      have HM := Lib.hid (hd.out.trans (by rw [dg_big h9, List.append_assoc] : _ = Lib.decDigits (x / 10) ++ ([UInt8.ofNat (48 + x % 10)] ++ s)))
      have ha := fun W => run_string_add_sum (P := Tryd.prog) W ⟨[UInt8.ofNat (48 + x % 10)].toArray⟩ ⟨s.toArray⟩ (by simp [ByteArray.size]; omega)
      have HF := Lib.hid hfr
      have hx10 : x / 10 < x := by omega
      clear hd hfr h9
      generalize UInt8.ofNat (48 + x % 10) = c at *
      go_wp2
      go_roundw
      case rel => exact ⟨x / 10, [c] ++ s, by push_cast; rfl, rfl, by omega, HF.out.alloc _, HM⟩
      case measure => simp [intOf]; omega
    · have hb : decide ((9 : Int) < (x : Int)) = false := by simp; omega
      have hx9 : (x : Int) ≤ 9 := by omega
      have hc := conv_one wr (48 + (x : Int)) (UInt8.ofNat (48 + x)) (by rw [UInt8.toNat_ofNat']; omega)
      have HM := Lib.hid (hd.out.trans (by rw [dg_small h9] : _ = [UInt8.ofNat (48 + x)] ++ s))
      have ha := fun W => run_string_add_sum (P := Tryd.prog) W ⟨[UInt8.ofNat (48 + x)].toArray⟩ ⟨s.toArray⟩ (by simp [ByteArray.size]; omega)
      have HF := Lib.hid hfr
      clear hd hfr h9
      generalize UInt8.ofNat (48 + x) = c at *
      have ha2 := fun W => run_string_add_sum (P := Tryd.prog) W ⟨#[45]⟩ (⟨[c].toArray⟩ ++ ⟨s.toArray⟩) (by simp [ByteArray.size]; omega)
      go_wp2
      go_ret
      exact ⟨by rw [HM.out]; rfl, HF.out.alloc _⟩

theorem rdigits_any (n : Int) (w : World) (hn : I64b n) : Calls Tryd.prog 14 #[.int .i64 n] w fun e w' => e = .returned (.string ⟨(Lib.itoa n).toArray⟩) ∧ Fr Non w w' := by
  unfold I64b at hn
  rcases int_ways n with ⟨u, rfl⟩ | ⟨u, hu, rfl⟩
  · rw [itoa_up]; exact rdigits_up u w (by omega)
  · rw [itoa_down u hu]; exact rdigits_dn u w hu (by omega)
end Go.Proofs.YtpapgfjainllpaaDoor


namespace Go.Proofs.YtpapgfjainllpaaDoor
set_option linter.unusedVariables false
set_option linter.unusedSimpArgs false
set_option maxRecDepth 100000
open Go.RowKit

theorem byteW {l : List UInt8} {k : Nat} {c : UInt8} (h : l[k]? = some c) : ∀ h : k < ByteArray.size ⟨l.toArray⟩, (⟨l.toArray⟩ : ByteArray)[k] = c := by
  intro hh
  obtain ⟨hk, rfl⟩ := List.getElem?_eq_some_iff.1 h
  simp [ByteArray.getElem_eq_getElem_data]
end Go.Proofs.YtpapgfjainllpaaDoor


namespace Go.Proofs.YtpapgfjainllpaaDoor
set_option linter.unusedVariables false
set_option linter.unusedSimpArgs false
set_option maxRecDepth 100000
open Go.RowKit

/-- a text as a token's text -/
def quoB (l : List UInt8) : List UInt8 := 39 :: dblB l ++ [39]
theorem dbl_cons (c : UInt8) (r : List UInt8) : dblB (c :: r) = (if c = 39 then [39, 39] else [c]) ++ dblB r := by
  show (if c = 39 then 39 :: 39 :: dblB r else c :: dblB r) = _
  split <;> rfl
/-- so far -/
def QuI (l : List UInt8) (i : Nat) (D : List UInt8) : Prop := 39 :: dblB l = D ++ dblB (l.drop i)
theorem qu_more {l D : List UInt8} {i : Nat} {c : UInt8} (h : QuI l i D) (hc : l[i]? = some c) : QuI l (i + 1) (D ++ if c = 39 then [39, 39] else [c]) := by
  obtain ⟨hi, rfl⟩ := List.getElem?_eq_some_iff.1 hc
  unfold QuI at h ⊢
  rw [h, List.drop_eq_getElem_cons hi, dbl_cons, List.append_assoc]
theorem qu_end {l D : List UInt8} {i : Nat} (h : QuI l i D) (hi : ¬ i < l.length) : quoB l = D ++ [39] := by
  unfold QuI at h
  unfold quoB
  rw [h, List.drop_eq_nil_of_le (by omega)]
  simp [dblB]

set_option maxHeartbeats 1000000 in
theorem rquote_any (l : List UInt8) (w : World) (hl : l.length ≤ 100000000) : Calls Tryd.prog 13 #[.string ⟨l.toArray⟩] w fun e w' => e = .returned (.string ⟨(quoB l).toArray⟩) ∧ Fr Non w w' := by
  go_enter Tryd.func13, Tryd.ntmps13
  go_wp2
  go_loopw [3, 4] (fun v b wr => ∃ (i : Nat) (D : List UInt8), b = .int .i64 (i : Int) ∧ i ≤ l.length ∧ D.length ≤ 1 + 2 * i ∧ Ow bv 5 wr w.heap.size v D ∧ Fr Non w wr ∧ Hid (QuI l i D)) (fun _ b _ => l.length - (intOf b).toNat)
  case atStart => exact ⟨0, [39], rfl, by omega, by simp, ow_lit w w.heap.size w.heap.size [39] _ rfl rfl (Nat.le_refl _) (by simp [maxLen]), (Fr.refl _ _).alloc _, Lib.hid rfl⟩
  case round =>
    obtain ⟨i, D, rfl, hi, hD, hO, hF, hn⟩ := hrel
    have hsz := hF.size
    by_cases hlt : i < l.length
    · obtain ⟨c, r, _, hc, _⟩ := drop_is hlt
      have hg := byteW hc
      have hM := qu_more hn.out hc
      have HO := Lib.hid hO
      have HF := Lib.hid hF
      clear hO hF hn hc
      by_cases hq : c = 39
      · have HM : Hid (QuI l (i + 1) (D ++ [39] ++ [39])) := Lib.hid (by rw [if_pos hq] at hM; rw [List.append_assoc]; exact hM)
        clear hM
        subst hq
        go_wp2_with (at_builtin; refine wpList_pushG el_u8 (fun _ => rfl) rfl (.tmp 12) (.tmp 16) rfl w.heap.size _ D rfl HO.out _ (39 : UInt8) rfl rfl (by omega) (by omega) ?_; intro v5 w5 hO5 f5; refine Hid.out ?_)
        have hF5 := HF.out.fresh f5 (fun q hq => by have := (HO.out.lt q hq).1; omega)
        have hs5 := hF5.size
        have HO5 := Lib.hid hO5
        have HF5 := Lib.hid hF5
        clear hO5 hF5 f5
        refine Lib.hid ?_
        have hD5 : (D ++ [(39 : UInt8)]).length ≤ 2 + 2 * i := by rw [List.length_append]; simp; omega
        go_wp2_with (at_builtin; refine wpList_pushG el_u8 (fun _ => rfl) rfl (.tmp 22) (.tmp 23) rfl w.heap.size _ (D ++ [39]) rfl HO5.out _ (39 : UInt8) rfl rfl (by omega) (by omega) ?_; intro v6 w6 hO6 f6)
        have hF6 := HF5.out.fresh f6 (fun q hq => by have := (HO5.out.lt q hq).1; omega)
        go_roundw
        case rel => exact ⟨i + 1, D ++ [39] ++ [39], by push_cast; rfl, by omega, by rw [List.length_append]; simp at hD5 ⊢; omega, hO6, hF6, HM⟩
        case measure => simp [intOf]; omega
      · have HM : Hid (QuI l (i + 1) (D ++ [c])) := Lib.hid (by rw [if_neg hq] at hM; exact hM)
        clear hM
        have hqb : ((c.toNat : Int) == 39) = false := by rw [beq_eq_false_iff_ne]; intro e; exact hq ((byt_is c 39 (by omega)).2 (by omega))
        go_wp2_with (at_builtin; refine wpList_pushG el_u8 (fun _ => rfl) rfl (.tmp 12) (.tmp 16) rfl w.heap.size _ D rfl HO.out _ c rfl rfl (by omega) (by omega) ?_; intro v5 w5 hO5 f5)
        have hF5 := HF.out.fresh f5 (fun q hq => by have := (HO.out.lt q hq).1; omega)
        go_roundw
        case rel => exact ⟨i + 1, D ++ [c], by push_cast; rfl, by omega, by rw [List.length_append]; simp; omega, hO5, hF5, HM⟩
        case measure => simp [intOf]; omega
    · have HE := Lib.hid (qu_end hn.out hlt)
      have HO := Lib.hid hO
      have HF := Lib.hid hF
      clear hO hF hn
      go_wp2_with (at_builtin; refine wpList_pushG el_u8 (fun _ => rfl) rfl (.tmp 25) (.tmp 26) rfl w.heap.size _ D rfl HO.out _ (39 : UInt8) rfl rfl (by omega) (by omega) ?_; intro v5 w5 hO5 f5; have cv := run_conv_Bs (Own.bs hO5) 47 9 5 Tryd.underlying47 Tryd.underlying5 Tryd.underlying9)
      have hF5 := HF.out.fresh f5 (fun q hq => by have := (HO.out.lt q hq).1; omega)
      go_wp2
      go_ret
      exact ⟨by rw [HE.out]; rfl, hF5⟩
theorem wquote_any (l : List UInt8) (w : World) (hW : Lw w) (hl : l.length ≤ 1000000) : Calls Tryd.prog 11 #[.string ⟨l.toArray⟩] w fun e w' => e = .returned (.string ⟨(quoB l).toArray⟩) ∧ Fr Non w w' := by
  have HR := Lib.hid (srep_any l [39] [39, 39] w hW hl (by simp) (by simp))
  rw [dbl_rep] at HR
  unfold quoB
  have hd := dbl_len l
  generalize dblB l = m at *
  have q1 := fun W => run_string_add_sum (P := Tryd.prog) W ⟨#[39]⟩ ⟨m.toArray⟩ (by simp [ByteArray.size]; omega)
  have q2 := fun W => run_string_add_sum (P := Tryd.prog) W (⟨#[39]⟩ ++ ⟨m.toArray⟩) ⟨#[39]⟩ (by simp [ByteArray.size]; omega)
  go_enter Tryd.func11, Tryd.ntmps11
  go_wp2_with fail
  refine HR.out.mono ?_
  rintro e w1 ⟨rfl, f1⟩
  have HF := Lib.hid f1
  clear HR f1
  go_wp2
  go_ret
  exact ⟨rfl, HF.out⟩
end Go.Proofs.YtpapgfjainllpaaDoor


namespace Go.Proofs.YtpapgfjainllpaaDoor
set_option linter.unusedVariables false
set_option linter.unusedSimpArgs false
set_option maxRecDepth 100000
open Go.RowKit

theorem mk_next {l m : List UInt8} {i : Nat} (hi : marksL[i]? = some m) (h : mkT l = (marksL.drop i).find? fun m => m.isPrefixOf l) (hp : m.isPrefixOf l = false) : mkT l = (marksL.drop (i + 1)).find? fun m => m.isPrefixOf l := by
  obtain ⟨hlt, rfl⟩ := List.getElem?_eq_some_iff.1 hi
  rw [h, List.drop_eq_getElem_cons hlt, List.find?_cons_of_neg (by simp [hp])]
theorem mk_hit {l m : List UInt8} {i : Nat} (hi : marksL[i]? = some m) (h : mkT l = (marksL.drop i).find? fun m => m.isPrefixOf l) (hp : m.isPrefixOf l = true) : mkT l = some m := by
  obtain ⟨hlt, rfl⟩ := List.getElem?_eq_some_iff.1 hi
  rw [h, List.drop_eq_getElem_cons hlt, List.find?_cons_of_pos (by simp [hp])]
theorem mk_none {l : List UInt8} (h : mkT l = (marksL.drop 10).find? fun m => m.isPrefixOf l) : mkT l = none := h

/-- an element of the table -/
theorem idx_marks : (∀ W : World, (Instr.index 63 (.agg #[.string ⟨#[60, 62]⟩, .string ⟨#[60, 61]⟩, .string ⟨#[62, 61]⟩, .string ⟨#[60]⟩, .string ⟨#[62]⟩, .string ⟨#[61]⟩, .string ⟨#[44]⟩, .string ⟨#[40]⟩, .string ⟨#[41]⟩, .string ⟨#[42]⟩]) (.int .i64 0)).run Tryd.prog W = .ok (.string ⟨#[60, 62]⟩) W) ∧
    (∀ W : World, (Instr.index 63 (.agg #[.string ⟨#[60, 62]⟩, .string ⟨#[60, 61]⟩, .string ⟨#[62, 61]⟩, .string ⟨#[60]⟩, .string ⟨#[62]⟩, .string ⟨#[61]⟩, .string ⟨#[44]⟩, .string ⟨#[40]⟩, .string ⟨#[41]⟩, .string ⟨#[42]⟩]) (.int .i64 1)).run Tryd.prog W = .ok (.string ⟨#[60, 61]⟩) W) ∧
    (∀ W : World, (Instr.index 63 (.agg #[.string ⟨#[60, 62]⟩, .string ⟨#[60, 61]⟩, .string ⟨#[62, 61]⟩, .string ⟨#[60]⟩, .string ⟨#[62]⟩, .string ⟨#[61]⟩, .string ⟨#[44]⟩, .string ⟨#[40]⟩, .string ⟨#[41]⟩, .string ⟨#[42]⟩]) (.int .i64 2)).run Tryd.prog W = .ok (.string ⟨#[62, 61]⟩) W) ∧
    (∀ W : World, (Instr.index 63 (.agg #[.string ⟨#[60, 62]⟩, .string ⟨#[60, 61]⟩, .string ⟨#[62, 61]⟩, .string ⟨#[60]⟩, .string ⟨#[62]⟩, .string ⟨#[61]⟩, .string ⟨#[44]⟩, .string ⟨#[40]⟩, .string ⟨#[41]⟩, .string ⟨#[42]⟩]) (.int .i64 3)).run Tryd.prog W = .ok (.string ⟨#[60]⟩) W) ∧
    (∀ W : World, (Instr.index 63 (.agg #[.string ⟨#[60, 62]⟩, .string ⟨#[60, 61]⟩, .string ⟨#[62, 61]⟩, .string ⟨#[60]⟩, .string ⟨#[62]⟩, .string ⟨#[61]⟩, .string ⟨#[44]⟩, .string ⟨#[40]⟩, .string ⟨#[41]⟩, .string ⟨#[42]⟩]) (.int .i64 4)).run Tryd.prog W = .ok (.string ⟨#[62]⟩) W) ∧
    (∀ W : World, (Instr.index 63 (.agg #[.string ⟨#[60, 62]⟩, .string ⟨#[60, 61]⟩, .string ⟨#[62, 61]⟩, .string ⟨#[60]⟩, .string ⟨#[62]⟩, .string ⟨#[61]⟩, .string ⟨#[44]⟩, .string ⟨#[40]⟩, .string ⟨#[41]⟩, .string ⟨#[42]⟩]) (.int .i64 5)).run Tryd.prog W = .ok (.string ⟨#[61]⟩) W) ∧
    (∀ W : World, (Instr.index 63 (.agg #[.string ⟨#[60, 62]⟩, .string ⟨#[60, 61]⟩, .string ⟨#[62, 61]⟩, .string ⟨#[60]⟩, .string ⟨#[62]⟩, .string ⟨#[61]⟩, .string ⟨#[44]⟩, .string ⟨#[40]⟩, .string ⟨#[41]⟩, .string ⟨#[42]⟩]) (.int .i64 6)).run Tryd.prog W = .ok (.string ⟨#[44]⟩) W) ∧
    (∀ W : World, (Instr.index 63 (.agg #[.string ⟨#[60, 62]⟩, .string ⟨#[60, 61]⟩, .string ⟨#[62, 61]⟩, .string ⟨#[60]⟩, .string ⟨#[62]⟩, .string ⟨#[61]⟩, .string ⟨#[44]⟩, .string ⟨#[40]⟩, .string ⟨#[41]⟩, .string ⟨#[42]⟩]) (.int .i64 7)).run Tryd.prog W = .ok (.string ⟨#[40]⟩) W) ∧
    (∀ W : World, (Instr.index 63 (.agg #[.string ⟨#[60, 62]⟩, .string ⟨#[60, 61]⟩, .string ⟨#[62, 61]⟩, .string ⟨#[60]⟩, .string ⟨#[62]⟩, .string ⟨#[61]⟩, .string ⟨#[44]⟩, .string ⟨#[40]⟩, .string ⟨#[41]⟩, .string ⟨#[42]⟩]) (.int .i64 8)).run Tryd.prog W = .ok (.string ⟨#[41]⟩) W) ∧
    (∀ W : World, (Instr.index 63 (.agg #[.string ⟨#[60, 62]⟩, .string ⟨#[60, 61]⟩, .string ⟨#[62, 61]⟩, .string ⟨#[60]⟩, .string ⟨#[62]⟩, .string ⟨#[61]⟩, .string ⟨#[44]⟩, .string ⟨#[40]⟩, .string ⟨#[41]⟩, .string ⟨#[42]⟩]) (.int .i64 9)).run Tryd.prog W = .ok (.string ⟨#[42]⟩) W) :=
  ⟨fun _ => by kernel_rfl, fun _ => by kernel_rfl, fun _ => by kernel_rfl, fun _ => by kernel_rfl, fun _ => by kernel_rfl, fun _ => by kernel_rfl, fun _ => by kernel_rfl, fun _ => by kernel_rfl, fun _ => by kernel_rfl, fun _ => by kernel_rfl⟩

set_option maxHeartbeats 1000000 in
theorem wmark_any (l : List UInt8) (w : World) (hW : Lw w) (hl : l.length ≤ 1000000) : Calls Tryd.prog 25 #[.string ⟨l.toArray⟩] w fun e w' => TkEnd ((mkT l).map fun t => (⟨4, t, 0, 0⟩, t.length)) e ∧ Fr Non w w' := by
  have hM := (hW.alloc (.cells #[.int .i64 0, .string ⟨#[]⟩, .int .i64 0, .int .i64 0] 36)).marks
  have m0 := hM 0 (by decide)
  have m1 := hM 1 (by decide)
  have m2 := hM 2 (by decide)
  have m3 := hM 3 (by decide)
  have m4 := hM 4 (by decide)
  have m5 := hM 5 (by decide)
  have m6 := hM 6 (by decide)
  have m7 := hM 7 (by decide)
  have m8 := hM 8 (by decide)
  have m9 := hM 9 (by decide)
  simp only [marksL, List.getElem_cons_succ, List.getElem_cons_zero] at m0 m1 m2 m3 m4 m5 m6 m7 m8 m9
  clear hM
  go_enter Tryd.func25, Tryd.ntmps25
  go_wp2
  have HF := Lib.hid (tkW_after (w := w) (Fr.refl Non _))
  obtain ⟨x0, x1, x2, x3, x4, x5, x6, x7, x8, x9⟩ := idx_marks
  go_loopw [7] (fun v wr => ∃ i : Nat, i ≤ 10 ∧ v = .int .i64 (i : Int) ∧ wr = w.alloc (.cells #[.int .i64 0, .string ⟨#[]⟩, .int .i64 0, .int .i64 0] 36) ∧ Hid (mkT l = (marksL.drop i).find? fun m => m.isPrefixOf l)) (fun v _ => 10 - (intOf v).toNat)
  case atStart => exact ⟨0, by omega, rfl, rfl, Lib.hid rfl⟩
  case round =>
    obtain ⟨i, hi, rfl, rfl, hd⟩ := hrel
    obtain ⟨hB, hf⟩ := HF.out
    obtain ⟨c0, c1, c2, c3, z0, z1, z2, z3⟩ := hB.facts
    dsimp only [noTk] at c0 c1 c2 c3
    clear hB hf m0 m1 m2 m3 m4 m5 m6 m7 m8 m9
    generalize w.alloc (.cells #[.int .i64 0, .string ⟨#[]⟩, .int .i64 0, .int .i64 0] 36) = W at *
    by_cases h10 : i = 10
    · subst h10
      have HE := Lib.hid (mk_none hd.out)
      clear hd
      go_wp2
      rw [HE.out]
      exact bodyPost_ret (ret_tkW (p := 2) (u := 3) rfl _ _ w.heap.size noTk (.int .i64 0) rfl rfl (setTk_W HF.out.1 noTk)) rfl ⟨⟨noTk, rfl⟩, setTk_end HF.out.2 noTk⟩
    · obtain ⟨m, hm⟩ : ∃ m, marksL[i]? = some m := ⟨marksL[i]'(by show i < 10; omega), List.getElem?_eq_getElem _⟩
      have HP := Lib.hid (fun V => shas_any l m V)
      cases hp : m.isPrefixOf l with
      | true =>
        have HE := Lib.hid (mk_hit hm hd.out hp)
        rw [hp] at HP
        clear hd hp
        rcases (by omega : i = 0 ∨ i = 1 ∨ i = 2 ∨ i = 3 ∨ i = 4 ∨ i = 5 ∨ i = 6 ∨ i = 7 ∨ i = 8 ∨ i = 9) with rfl | rfl | rfl | rfl | rfl | rfl | rfl | rfl | rfl | rfl
        all_goals
          simp only [marksL, List.getElem?_cons_succ, List.getElem?_cons_zero, Option.some.injEq] at hm
          subst hm
          go_wp2_with fail
          refine (HP.out _).mono ?_
          rintro e w1 ⟨rfl, rfl⟩
          clear HP
          go_wp2
          rw [HE.out]
          exact bodyPost_ret (ret_tkW (p := 2) (u := 3) rfl _ _ w.heap.size ⟨4, _, 0, 0⟩ _ rfl rfl (setTk_W HF.out.1 ⟨4, _, 0, 0⟩)) rfl ⟨rfl, setTk_end HF.out.2 ⟨4, _, 0, 0⟩⟩
      | false =>
        have HE := Lib.hid (mk_next hm hd.out hp)
        rw [hp] at HP
        clear hd hp
        rcases (by omega : i = 0 ∨ i = 1 ∨ i = 2 ∨ i = 3 ∨ i = 4 ∨ i = 5 ∨ i = 6 ∨ i = 7 ∨ i = 8 ∨ i = 9) with rfl | rfl | rfl | rfl | rfl | rfl | rfl | rfl | rfl | rfl
        all_goals
          simp only [marksL, List.getElem?_cons_succ, List.getElem?_cons_zero, Option.some.injEq] at hm
          subst hm
          go_wp2_with fail
          refine (HP.out _).mono ?_
          rintro e w1 ⟨rfl, rfl⟩
          clear HP
          go_wp2
          go_roundw
          case rel => refine ⟨_, ?_, ?_, ?_, HE⟩ <;> first | trivial | rfl | omega
          case measure => simp [intOf]

/-! ### The first word -/
theorem TkEnd.is_ {x : Option (Tk × Nat)} {e : Ending} (h : TkEnd x e) : ∃ (t : Tk) (n : Nat), e = .returned (.tuple #[.agg #[.int .i64 t.kind, .string ⟨t.txt.toArray⟩, .int .i64 t.num, .int .i64 t.at_], .int .i64 (n : Int)]) ∧ Hid (TkEnd x (.returned (.tuple #[tkV t, .int .i64 (n : Int)]))) := by
  cases x with
  | none => obtain ⟨t, rfl⟩ := h; exact ⟨t, 0, rfl, Lib.hid ⟨t, rfl⟩⟩
  | some x => obtain ⟨t, n⟩ := x; exact ⟨t, n, h, Lib.hid rfl⟩

set_option maxHeartbeats 1000000 in
theorem wfirst_any (c : UInt8) (r : List UInt8) (l : List UInt8) (hcr : l = c :: r) (w : World) (hW : Lw w) (hl : l.length ≤ 1000000) : Calls Tryd.prog 16 #[.int .i32 ((dcU l).1 : Nat), .string ⟨l.toArray⟩] w fun e w' => TkEnd (oneB l) e ∧ Fr Non w w' := by
  have h1 : 1 ≤ l.length := by rw [hcr]; simp
  have HL := Lib.hid (fun V => wletter_any (dcU l).1 V)
  have HD := Lib.hid (fun V => wdigit_any (dcU l).1 V)
  have e1 : letR (dcU l).1 = letB c := by rw [hcr]; exact let_rune c r
  have e2 : digR (dcU l).1 = digB c := by rw [hcr]; exact dig_rune c r
  have e3 : ((dcU l).1 = 45) ↔ c = 45 := by rw [hcr]; exact is_rune 45 (by omega) c r
  have e4 : ((dcU l).1 = 39) ↔ c = 39 := by rw [hcr]; exact is_rune 39 (by omega) c r
  have HN := Lib.hid (fun V => wname_any l V hl)
  have HU := Lib.hid (fun V h => wnumber_any l V h hl)
  have HT := Lib.hid (fun V h => wtext_any l V h h1 hl)
  have HM := Lib.hid (fun V h => wmark_any l V h hl)
  have hO : oneB l = if letB c then some (⟨1, l.take (spanN innB l), 0, 0⟩, spanN innB l) else if digB c || decide (c = 45) then (valB (l.take (nszN l))).map fun v => (⟨2, [], v, 0⟩, nszN l)
      else if c = 39 then (qtB (l.drop 1)).map fun x => (⟨3, x.1, 0, 0⟩, x.2 + 1) else (mkT l).map fun t => (⟨4, t, 0, 0⟩, t.length) := by
    rw [hcr]
    by_cases hd : (digB c || decide (c = 45)) = true
    · rw [nsz_is hd]; rfl
    · simp only [oneB, if_neg hd]; rfl
  rw [e1] at HL
  rw [e2] at HD
  have HW := Lib.hid (hW.alloc (.cells #[.int .i64 0, .string ⟨#[]⟩, .int .i64 0, .int .i64 0] 36))
  have HO := Lib.hid hO
  clear e1 e2 hO hcr h1
  generalize (dcU l).1 = x at *
  have HF0 := Lib.hid (tkW_after (w := w) (Fr.refl Non _))
  cases hl1 : letB c with
  | true =>
    rw [hl1] at HL
    replace HO := Lib.hid (HO.out.trans (if_pos hl1))
    replace HN := Lib.hid (HN.out (w.alloc (.cells #[.int .i64 0, .string ⟨#[]⟩, .int .i64 0, .int .i64 0] 36)))
    clear HU HT HM HD
    go_enter Tryd.func16, Tryd.ntmps16
    go_wp2_with fail
    refine (HL.out _).mono ?_
    rintro e w1 ⟨rfl, rfl⟩
    go_wp2_with fail
    refine HN.out.mono ?_
    rintro e w2 ⟨hE, hf2⟩
    obtain ⟨t, n, rfl, HE⟩ := hE.is_
    obtain ⟨hB, hf⟩ := tkW_after hf2
    obtain ⟨c0, c1, c2, c3, z0, z1, z2, z3⟩ := hB.facts
    dsimp only [noTk] at c0 c1 c2 c3
    have HB := Lib.hid hB
    have HF := Lib.hid hf
    clear hE hf2 hB hf
    go_wp2
    rw [HO.out]
    exact bodyPost_ret (ret_tkW (p := 4) (u := 5) rfl _ _ w.heap.size t (.int .i64 (n : Int)) rfl rfl (setTk_W HB.out t)) rfl ⟨HE.out, setTk_end HF.out t⟩
  | false =>
    rw [hl1] at HL
    replace HO := Lib.hid (HO.out.trans (if_neg (by rw [hl1]; simp)))
    clear HN
    by_cases hd : (digB c || decide (c = 45)) = true
    · replace HO := Lib.hid (HO.out.trans (if_pos hd))
      replace HU := Lib.hid (HU.out (w.alloc (.cells #[.int .i64 0, .string ⟨#[]⟩, .int .i64 0, .int .i64 0] 36)) HW.out)
      clear HT HM
      cases hd1 : digB c with
      | true =>
        rw [hd1] at HD
        clear hd
        go_enter Tryd.func16, Tryd.ntmps16
        go_wp2_with fail
        refine (HL.out _).mono ?_
        rintro e w1 ⟨rfl, rfl⟩
        go_wp2_with fail
        refine (HD.out _).mono ?_
        rintro e w1 ⟨rfl, rfl⟩
        go_wp2_with fail
        refine HU.out.mono ?_
        rintro e w2 ⟨hE, hf2⟩
        obtain ⟨t, n, rfl, HE⟩ := hE.is_
        obtain ⟨hB, hf⟩ := tkW_after hf2
        obtain ⟨c0, c1, c2, c3, z0, z1, z2, z3⟩ := hB.facts
        dsimp only [noTk] at c0 c1 c2 c3
        have HB := Lib.hid hB
        have HF := Lib.hid hf
        clear hE hf2 hB hf
        go_wp2
        rw [HO.out]
        exact bodyPost_ret (ret_tkW (p := 4) (u := 5) rfl _ _ w.heap.size t (.int .i64 (n : Int)) rfl rfl (setTk_W HB.out t)) rfl ⟨HE.out, setTk_end HF.out t⟩
      | false =>
        rw [hd1] at HD
        have hx : x = 45 := e3.2 (by simpa [hd1] using hd)
        subst hx
        clear hd e3 e4
        go_enter Tryd.func16, Tryd.ntmps16
        go_wp2_with fail
        refine (HL.out _).mono ?_
        rintro e w1 ⟨rfl, rfl⟩
        go_wp2_with fail
        refine (HD.out _).mono ?_
        rintro e w1 ⟨rfl, rfl⟩
        go_wp2_with fail
        refine HU.out.mono ?_
        rintro e w2 ⟨hE, hf2⟩
        obtain ⟨t, n, rfl, HE⟩ := hE.is_
        obtain ⟨hB, hf⟩ := tkW_after hf2
        obtain ⟨c0, c1, c2, c3, z0, z1, z2, z3⟩ := hB.facts
        dsimp only [noTk] at c0 c1 c2 c3
        have HB := Lib.hid hB
        have HF := Lib.hid hf
        clear hE hf2 hB hf
        go_wp2
        rw [HO.out]
        exact bodyPost_ret (ret_tkW (p := 4) (u := 5) rfl _ _ w.heap.size t (.int .i64 (n : Int)) rfl rfl (setTk_W HB.out t)) rfl ⟨HE.out, setTk_end HF.out t⟩
    · replace HO := Lib.hid (HO.out.trans (if_neg hd))
      simp only [Bool.or_eq_true, not_or, Bool.not_eq_true, decide_eq_true_eq] at hd
      obtain ⟨hd1, hd2⟩ := hd
      rw [hd1] at HD
      have hx1 : ((x : Int) == 45) = false := by rw [beq_eq_false_iff_ne]; intro e; exact hd2 (e3.1 (by omega))
      clear HU hd1 hd2 e3
      by_cases hq : c = 39
      · replace HO := Lib.hid (HO.out.trans (if_pos hq))
        replace HT := Lib.hid (HT.out (w.alloc (.cells #[.int .i64 0, .string ⟨#[]⟩, .int .i64 0, .int .i64 0] 36)) HW.out)
        have hx : x = 39 := e4.2 hq
        subst hx
        clear HM e4 hq
        go_enter Tryd.func16, Tryd.ntmps16
        go_wp2_with fail
        refine (HL.out _).mono ?_
        rintro e w1 ⟨rfl, rfl⟩
        go_wp2_with fail
        refine (HD.out _).mono ?_
        rintro e w1 ⟨rfl, rfl⟩
        go_wp2_with fail
        refine HT.out.mono ?_
        rintro e w2 ⟨hE, hf2⟩
        obtain ⟨t, n, rfl, HE⟩ := hE.is_
        obtain ⟨hB, hf⟩ := tkW_after hf2
        obtain ⟨c0, c1, c2, c3, z0, z1, z2, z3⟩ := hB.facts
        dsimp only [noTk] at c0 c1 c2 c3
        have HB := Lib.hid hB
        have HF := Lib.hid hf
        clear hE hf2 hB hf
        go_wp2
        rw [HO.out]
        exact bodyPost_ret (ret_tkW (p := 4) (u := 5) rfl _ _ w.heap.size t (.int .i64 (n : Int)) rfl rfl (setTk_W HB.out t)) rfl ⟨HE.out, setTk_end HF.out t⟩
      · replace HO := Lib.hid (HO.out.trans (if_neg hq))
        replace HM := Lib.hid (HM.out (w.alloc (.cells #[.int .i64 0, .string ⟨#[]⟩, .int .i64 0, .int .i64 0] 36)) HW.out)
        have hx2 : ((x : Int) == 39) = false := by rw [beq_eq_false_iff_ne]; intro e; exact hq (e4.1 (by omega))
        clear HT e4 hq
        go_enter Tryd.func16, Tryd.ntmps16
        go_wp2_with fail
        refine (HL.out _).mono ?_
        rintro e w1 ⟨rfl, rfl⟩
        go_wp2_with fail
        refine (HD.out _).mono ?_
        rintro e w1 ⟨rfl, rfl⟩
        go_wp2_with fail
        refine HM.out.mono ?_
        rintro e w2 ⟨hE, hf2⟩
        obtain ⟨t, n, rfl, HE⟩ := hE.is_
        obtain ⟨hB, hf⟩ := tkW_after hf2
        obtain ⟨c0, c1, c2, c3, z0, z1, z2, z3⟩ := hB.facts
        dsimp only [noTk] at c0 c1 c2 c3
        have HB := Lib.hid hB
        have HF := Lib.hid hf
        clear hE hf2 hB hf
        go_wp2
        rw [HO.out]
        exact bodyPost_ret (ret_tkW (p := 4) (u := 5) rfl _ _ w.heap.size t (.int .i64 (n : Int)) rfl rfl (setTk_W HB.out t)) rfl ⟨HE.out, setTk_end HF.out t⟩
end Go.Proofs.YtpapgfjainllpaaDoor


namespace Go.Proofs.YtpapgfjainllpaaDoor
set_option linter.unusedVariables false
set_option linter.unusedSimpArgs false
set_option maxRecDepth 100000
open Go.RowKit

/-- so far: the range stands at p, the last word ended at b -/
structure WI (l : List UInt8) (p b : Nat) (D : List Tk) : Prop where
  rest : tokB 0 l = preT D (tokB (max p b) (l.drop (max p b)))
  low : p < b → ∃ d, l[b - 1]? = some d ∧ d.toNat < 128
  few : D.length ≤ max p b
  le : b ≤ l.length
theorem wi_zero (l : List UInt8) : WI l 0 0 [] := ⟨by simp [preT_nil], fun h => absurd h (by omega), by simp, by omega⟩
theorem wi_wide {l : List UInt8} {p b : Nat} (hp : p < l.length) (h : p < b) (hl : ∃ d, l[b - 1]? = some d ∧ d.toNat < 128) : p + (dcU (l.drop p)).2 ≤ b := by
  obtain ⟨c, r, hd, hc, hr⟩ := drop_is hp
  rcases lo_or_hi c with h1 | h1
  · rw [hd, dcU_low r h1]; exact h
  · obtain ⟨d, hd1, hd2⟩ := hl
    by_cases hw : p + (dcU (l.drop p)).2 ≤ b
    · exact hw
    · exfalso
      have hh := (dcU_hi (c := c) (r := r) h1).2 (b - 1 - p) (by rw [← hd]; omega)
      rw [← hd, List.getD_eq_getElem?_getD, List.getElem?_drop, show p + (b - 1 - p) = b - 1 by omega, hd1] at hh
      simp at hh; omega
theorem WI.skip {l : List UInt8} {p b : Nat} {D : List Tk} (h : WI l p b D) (hp : p < l.length) (hb : p < b) : WI l (p + (dcU (l.drop p)).2) b D := by
  have hw := wi_wide hp hb (h.low hb)
  have e : max (p + (dcU (l.drop p)).2) b = max p b := by omega
  exact ⟨by rw [e]; exact h.rest, fun _ => h.low hb, by rw [e]; exact h.few, h.le⟩
theorem WI.blank {l : List UInt8} {p b : Nat} {D : List Tk} (h : WI l p b D) (hp : p < l.length) (hb : ¬ p < b) (hk : blkR (dcU (l.drop p)).1 = true) : WI l (p + (dcU (l.drop p)).2) b D := by
  obtain ⟨c, r, hd, hc, hr⟩ := drop_is hp
  rw [hd, blk_rune] at hk
  have hw : (dcU (l.drop p)).2 = 1 := by rw [hd, dcU_low r (blkB_lo hk)]
  have hrest := h.rest
  have hfew := h.few
  rw [show max p b = p by omega] at hrest hfew
  rw [hd, tok_blank p hk, hr] at hrest
  rw [hw]
  have e : max (p + 1) b = p + 1 := by omega
  exact ⟨by rw [e]; exact hrest, fun h => absurd h (by omega), by rw [e]; omega, h.le⟩
theorem WI.bad {l : List UInt8} {p b : Nat} {D : List Tk} (h : WI l p b D) (hp : p < l.length) (hb : ¬ p < b) (hk : blkR (dcU (l.drop p)).1 = false) (ho : oneB (l.drop p) = none) : tokB 0 l = .error p := by
  obtain ⟨c, r, hd, hc, hr⟩ := drop_is hp
  rw [hd, blk_rune] at hk
  rw [hd] at ho
  have hrest := h.rest
  rw [show max p b = p by omega, hd, tok_bad p hk ho] at hrest
  exact hrest
theorem WI.word {l : List UInt8} {p b : Nat} {D : List Tk} {t : Tk} {n : Nat} (h : WI l p b D) (hp : p < l.length) (hb : ¬ p < b) (ho : oneB (l.drop p) = some (t, n)) : WI l (p + (dcU (l.drop p)).2) (p + n) (D ++ [putAt t p]) ∧ 1 ≤ n := by
  obtain ⟨c, r, hd, hc, hr⟩ := drop_is hp
  have hrest := h.rest
  have hfew := h.few
  rw [show max p b = p by omega] at hrest hfew
  rw [hd] at ho
  obtain ⟨h1, h2, h3, ⟨d, h4, h5⟩, _⟩ := one_is ho
  have hw : (dcU (l.drop p)).2 = 1 := by rw [hd, dcU_low r h3]
  rw [hd, tok_one p ho, preT_app, ← hd, List.drop_drop] at hrest
  rw [← hd, List.length_drop] at h2
  rw [hw]
  have e : max (p + 1) (p + n) = p + n := by omega
  refine ⟨⟨by rw [e]; exact hrest, fun _ => ⟨d, ?_, h5⟩, by rw [e]; simp; omega, by omega⟩, h1⟩
  rw [← hd, List.getElem?_drop] at h4
  rw [← h4]; congr 1; omega
theorem WI.end_ {l : List UInt8} {p b : Nat} {D : List Tk} (h : WI l p b D) (hp : ¬ p < l.length) (hp2 : p ≤ l.length) : tokB 0 l = .ok (D ++ [⟨0, [], 0, l.length⟩]) := by
  have hrest := h.rest
  have := h.le
  rw [show max p b = l.length by omega, List.drop_length, tok_nil] at hrest
  exact hrest

set_option maxHeartbeats 4000000 in
theorem wall_any (l : List UInt8) (w : World) (hW : Lw w) : Calls Tryd.prog 6 #[.string ⟨l.toArray⟩] w fun e w' => ∃ v, e = .returned (.tuple #[v, .int .i64 ((wsB l).2.1 : Nat), .int .i64 ((wsB l).2.2 : Nat)]) ∧ Tks w' v (wsB l).1 ∧ Fr Non w w' := by
  by_cases hlong : 400 < l.length
  · have HE := Lib.hid (all_long hlong)
    have hb : decide ((400 : Int) < (l.length : Int)) = true := by simp; omega
    clear hlong
    go_enter Tryd.func6, Tryd.ntmps6
    go_wp2
    go_ret3
    rw [HE.out]
    exact ⟨_, rfl, Ns.nil_ w, Fr.refl _ _⟩
  · have hb : decide ((400 : Int) < (l.length : Int)) = false := by simp; omega
    have HLW := Lib.hid hW
    have HS := Lib.hid hlong
    have hl4 : l.length ≤ 400 := by omega
    clear hlong
    go_enter Tryd.func6, Tryd.ntmps6
    go_wp2
    clear hb
    go_loopw [5, 6] (fun v bv wr => ∃ p b D, p ≤ l.length ∧ bv = .int .i64 (b : Nat) ∧ b ≤ 400 ∧ D.length ≤ 400 ∧ ItU wr w.heap.size l p ∧ TkoW wr (w.heap.size + 1) v D ∧ Fr Non w wr ∧ Hid (WI l p b D)) (fun _ _ wr => l.length - wr.iterPos w.heap.size)
    case atStart => exact ⟨0, 0, [], by omega, rfl, by omega, by simp, ItU.new w l, no_nil _ _, (Fr.refl _ _).alloc _, Lib.hid (wi_zero l)⟩
    case round =>
      obtain ⟨p, b, D, hp, rfl, hb4, hD4, hit, hown, hfr, hd⟩ := hrel
      have hp0 := hit.pos
      by_cases hlt : p < l.length
      · obtain ⟨W, hnx, hitW, hfW⟩ := nextU wr w.heap.size p l hit hlt
        have hfrW := hfr.fresh hfW (fun q e => by have : q = w.heap.size := e; omega)
        have hownW := hown.fr hfW (fun q hq e => by have := (hown.lt q hq).1; have : q = w.heap.size := e; omega)
        have hw := dcU_w (l := l.drop p) (by intro e; have := congrArg List.length e; simp at this; omega)
        rw [List.length_drop] at hw
        clear hit hown hfr hfW
        by_cases hpb : p < b
        · have hpi : decide (p < b) = true := by simp; omega
          have HM := Lib.hid (hd.out.skip hlt hpb)
          clear hd hpb
          generalize (dcU (l.drop p)).1 = x at *
          generalize hq : p + (dcU (l.drop p)).2 = q at *
          have hkq : p < q := by omega
          have hql : q ≤ l.length := by omega
          clear hq hw
          have HO := Lib.hid hownW
          have HF := Lib.hid hfrW
          clear hownW hfrW
          go_wp2
          go_roundw
          case rel => exact ⟨q, b, D, hql, rfl, hb4, hD4, hitW, HO.out, HF.out, HM⟩
          case measure => rw [hp0, hitW.pos]; omega
        · have hpi : decide (p < b) = false := by simp; omega
          have HB := Lib.hid (fun V => wblank_any (dcU (l.drop p)).1 V)
          cases hk : blkR (dcU (l.drop p)).1 with
          | true =>
            have HM := Lib.hid (hd.out.blank hlt hpb hk)
            rw [hk] at HB
            clear hd hpb hk
            generalize (dcU (l.drop p)).1 = x at *
            generalize hq : p + (dcU (l.drop p)).2 = q at *
            have hkq : p < q := by omega
            have hql : q ≤ l.length := by omega
            clear hq hw
            have HO := Lib.hid hownW
            have HF := Lib.hid hfrW
            clear hownW hfrW
            go_wp2_with fail
            refine (HB.out _).mono ?_
            rintro e w1 ⟨rfl, rfl⟩
            clear HB
            go_wp2
            go_roundw
            case rel => exact ⟨q, b, D, hql, rfl, hb4, hD4, hitW, HO.out, HF.out, HM⟩
            case measure => rw [hp0, hitW.pos]; omega
          | false =>
            obtain ⟨c, r, hdr, _, _⟩ := drop_is hlt
            have HFst := Lib.hid (wfirst_any c r (l.drop p) hdr W (HLW.out.non hfrW) (by rw [List.length_drop]; omega))
            have hx := ext_from l p hp
            have HWI := Lib.hid (hd.out.word (t := noTk) (n := 0) hlt hpb)
            have HWB := Lib.hid (hd.out.bad hlt hpb hk)
            have HWW := Lib.hid (fun t n => hd.out.word (t := t) (n := n) hlt hpb)
            rw [hk] at HB
            clear hd hpb hk hdr HWI
            generalize (dcU (l.drop p)).1 = x at *
            generalize hq : p + (dcU (l.drop p)).2 = q at *
            have hkq : p < q := by omega
            have hql : q ≤ l.length := by omega
            clear hq hw
            generalize l.drop p = m at *
            have HO := Lib.hid hownW
            have HF := Lib.hid hfrW
            have hHB := hitW.lt
            have HI := Lib.hid hitW
            clear hownW hfrW hitW
            go_wp2_with fail
            refine (HB.out _).mono ?_
            rintro e w1 ⟨rfl, rfl⟩
            clear HB
            go_wp2_with fail
            refine HFst.out.mono ?_
            rintro e w2 ⟨hE, hf2⟩
            clear HFst
            have HO2 := Lib.hid (HO.out.non hf2)
            have HF2 := Lib.hid (HF.out.then hf2)
            have HI2 := Lib.hid (HI.out.fr hf2 (fun e => e))
            clear hf2 HO HF HI
            cases ho : oneB m with
            | none =>
              rw [ho] at hE
              obtain ⟨t, rfl⟩ := hE
              have HE := Lib.hid (all_bad HS.out (HWB.out ho))
              clear ho HWB HWW
              dsimp only [tkV, tkA]
              go_wp2
              go_ret3
              rw [HE.out]
              exact ⟨_, rfl, Ns.nil_ _, HF2.out.alloc _⟩
            | some y =>
              obtain ⟨t, n⟩ := y
              rw [ho] at hE
              obtain rfl : e = .returned (.tuple #[tkV t, .int .i64 (n : Nat)]) := hE
              obtain ⟨hM, hn1⟩ := HWW.out t n ho
              have hpn := hM.le
              have hDn := hM.few
              rw [List.length_append] at hDn
              have hn0 : ((n : Int) == 0) = false := by rw [beq_eq_false_iff_ne]; omega
              have HM := Lib.hid hM
              clear ho hM HWB HWW
              have hO4 := HO2.out.alloc (.cells #[.int .i64 t.kind, .string ⟨t.txt.toArray⟩, .int .i64 t.num, .int .i64 (p : Int)] 36)
              have hF4 := HF2.out.alloc (.cells #[.int .i64 t.kind, .string ⟨t.txt.toArray⟩, .int .i64 t.num, .int .i64 (p : Int)] 36)
              have hI4 := HI2.out.fr ((Fr.refl Non w2).alloc (.cells #[.int .i64 t.kind, .string ⟨t.txt.toArray⟩, .int .i64 t.num, .int .i64 (p : Int)] 36)) (fun e => e)
              have hsz := hI4.lt
              have HO4 := Lib.hid hO4
              have HF4 := Lib.hid hF4
              have HI4 := Lib.hid hI4
              clear hO4 hF4 hI4 HO2 HF2 HI2
              dsimp only [tkV, tkA]
              go_wp2_with (at_builtin; refine wpList_pushN fd_tk eln_tkW rfl (.tmp 40) (.tmp 42) rfl (w.heap.size + 1) _ D rfl HO4.out (putAt t p) #[.int .i64 t.kind, .string ⟨t.txt.toArray⟩, .int .i64 t.num, .int .i64 p] rfl _ rfl (by simp) (by omega) (by omega) ?_; intro v5 w5 hO5 f5)
              have hF5 := HF4.out.fresh f5 (fun q hq => by have := (HO4.out.lt q hq).1; omega)
              have hI5 := HI4.out.fr f5 (fun e => by have := (HO4.out.lt _ e).1; omega)
              go_roundw
              case rel => exact ⟨q, p + n, _, hql, by push_cast; rfl, by omega, by rw [List.length_append]; omega, hI5, hO5, hF5, HM⟩
              case measure => rw [hp0, hI5.pos]; omega
      · have hnx := fun ty => nextU_end wr w.heap.size p l hit hlt ty
        have HE := Lib.hid (all_ok HS.out (hd.out.end_ hlt hp))
        have HO := Lib.hid hown
        have HF := Lib.hid hfr
        have hsz := hit.lt
        clear hd hown hfr hit
        go_wp2_with (at_builtin; refine wpList_pushN fd_tk eln_tkW rfl (.tmp 47) (.tmp 51) rfl (w.heap.size + 1) _ D rfl HO.out ⟨0, [], 0, l.length⟩ #[.int .i64 0, .string ⟨#[]⟩, .int .i64 0, .int .i64 l.length] rfl _ rfl rfl (by omega) (by omega) ?_; intro v5 w5 hO5 f5)
        have hF5 := HF.out.fresh f5 (fun q hq => by have := (HO.out.lt q hq).1; omega)
        go_ret3
        rw [HE.out]
        exact ⟨_, rfl, hO5.ns fd_tk, hF5⟩
end Go.Proofs.YtpapgfjainllpaaDoor


namespace Go.Proofs.YtpapgfjainllpaaDoor
set_option linter.unusedVariables false
set_option linter.unusedSimpArgs false
set_option maxRecDepth 100000
open Go.RowKit

/-- so far: the words' bytes ended at i -/
structure RI (l : List UInt8) (i : Nat) (D : List Tk) : Prop where
  rest : tokB 0 l = preT D (tokB i (l.drop i))
  few : D.length ≤ i
theorem RI.blank {l : List UInt8} {i : Nat} {D : List Tk} {c : UInt8} (h : RI l i D) (hc : l[i]? = some c) (hk : blkB c = true) : RI l (i + 1) D := by
  obtain ⟨hi, rfl⟩ := List.getElem?_eq_some_iff.1 hc
  have hr := h.rest
  rw [List.drop_eq_getElem_cons hi, tok_blank i hk] at hr
  exact ⟨hr, by have := h.few; omega⟩
theorem RI.bad {l : List UInt8} {i : Nat} {D : List Tk} {c : UInt8} (h : RI l i D) (hc : l[i]? = some c) (hk : blkB c = false) (ho : oneB (l.drop i) = none) : tokB 0 l = .error i := by
  obtain ⟨hi, rfl⟩ := List.getElem?_eq_some_iff.1 hc
  have hr := h.rest
  rw [List.drop_eq_getElem_cons hi] at hr ho
  rw [tok_bad i hk ho] at hr
  exact hr
theorem RI.word {l : List UInt8} {i : Nat} {D : List Tk} {t : Tk} {n : Nat} (h : RI l i D) (hi : i < l.length) (ho : oneB (l.drop i) = some (t, n)) : RI l (i + n) (D ++ [putAt t i]) ∧ 1 ≤ n ∧ i + n ≤ l.length := by
  have hr := h.rest
  have hf := h.few
  rw [List.drop_eq_getElem_cons hi] at ho
  obtain ⟨h1, h2, _⟩ := one_is ho
  rw [← List.drop_eq_getElem_cons hi, List.length_drop] at h2
  rw [List.drop_eq_getElem_cons hi, tok_one i ho, preT_app, ← List.drop_eq_getElem_cons hi, List.drop_drop] at hr
  exact ⟨⟨hr, by simp; omega⟩, h1, by omega⟩
theorem RI.end_ {l : List UInt8} {i : Nat} {D : List Tk} (h : RI l i D) (hi : ¬ i < l.length) (hi2 : i ≤ l.length) : tokB 0 l = .ok (D ++ [⟨0, [], 0, l.length⟩]) := by
  have hr := h.rest
  rw [show i = l.length by omega, List.drop_length, tok_nil] at hr
  exact hr

end Go.Proofs.YtpapgfjainllpaaDoor


namespace Go.Proofs.YtpapgfjainllpaaDoor
set_option linter.unusedVariables false
set_option linter.unusedSimpArgs false
set_option maxRecDepth 100000
open Go.RowKit

theorem lnum_any (n : Int) (w : World) : Calls Tryd.prog 7 #[.int .i64 n] w fun e w' => e = .returned (.int .i64 n) ∧ w = w' := by
  go_enter Tryd.func7, Tryd.ntmps7
  go_wp2
  go_ret
  exact ⟨rfl, rfl⟩
theorem tk_lit {w : World} {a : Addr} {t : Tk} (h : AtN w a (tkL t)) : w.cell? a = some (.int .i64 t.kind) ∧ w.cell? { block := a.block, off := a.off + 1 } = some (.string ⟨t.txt.toArray⟩) ∧ w.cell? { block := a.block, off := a.off + 2 } = some (.int .i64 t.num) ∧ w.cell? { block := a.block, off := a.off + 3 } = some (.int .i64 t.at_) :=
  ⟨h 0 _ rfl, h 1 _ rfl, h 2 _ rfl, h 3 _ rfl⟩

/-! ### The page's example -/
def exW : List Tk := [⟨1, [97], 0, 0⟩, ⟨4, [60, 61], 0, 1⟩, ⟨2, [], -5, 3⟩, ⟨0, [], 0, 5⟩]
theorem val_m5 : valB [45, 53] = some (-5) := by
  have e : Lib.itoa (-5) = [45, 53] := by
    rw [show (-5 : Int) = -((5 : Nat) : Int) by rfl, itoa_down 5 (by omega), Lib.decDigits_one (by omega)]; rfl
  rw [← e]; exact valB_itoa (by unfold I64b; omega)
theorem ex_ws : wsB [97, 60, 61, 45, 53] = (exW, 5, 0) := by
  refine all_ok (by decide) ?_
  rw [tok_one (t := ⟨1, [97], 0, 0⟩) (n := 1) 0 (by rfl)]
  show preT _ (tokB 1 [60, 61, 45, 53]) = _
  rw [tok_one (t := ⟨4, [60, 61], 0, 0⟩) (n := 2) 1 (by rfl)]
  show preT _ (preT _ (tokB 3 [45, 53])) = _
  rw [tok_one (t := ⟨2, [], -5, 0⟩) (n := 2) 3 (by
    simp only [oneB]
    rw [if_neg (by decide), if_pos (by decide)]
    show (valB [45, 53]).map _ = _
    rw [val_m5]; rfl)]
  rfl

set_option maxHeartbeats 2000000 in
theorem live16_any (w : World) (hW : Lw w) : Calls Tryd.prog 8 #[] w fun e w' => e = .returned (.bool true) ∧ Fr Non w w' := by
  have HA := Lib.hid (wall_any [97, 60, 61, 45, 53] w hW)
  rw [ex_ws] at HA
  have HN := Lib.hid (fun n V => lnum_any n V)
  go_enter Tryd.func8, Tryd.ntmps8
  go_wp2_with fail
  refine HA.out.mono ?_
  rintro e w1 ⟨v, rfl, hv, hf⟩
  obtain ⟨A, c, rfl⟩ := hv.shape
  obtain ⟨a, rfl, e1⟩ := hv.at_ 1 ⟨4, [60, 61], 0, 1⟩ rfl
  obtain ⟨a', ha', e2⟩ := hv.at_ 2 ⟨2, [], -5, 3⟩ rfl
  obtain rfl := Option.some.inj ha'
  obtain ⟨a', ha', e3⟩ := hv.at_ 3 ⟨0, [], 0, 5⟩ rfl
  obtain rfl := Option.some.inj ha'
  have p1 : w1.cell? { block := a.block, off := a.off + 4 + 1 } = some (.string ⟨#[60, 61]⟩) := (tk_lit e1).2.1
  have p2 : w1.cell? { block := a.block, off := a.off + 8 + 2 } = some (.int .i64 (-5)) := (tk_lit e2).2.2.1
  have p3 : w1.cell? { block := a.block, off := a.off + 12 + 3 } = some (.int .i64 5) := (tk_lit e3).2.2.2
  have HF := Lib.hid hf
  clear HA hv hf e1 e2 e3 ha'
  rw [show exW.length = 4 by rfl]
  go_wp2_with (refine (HN.out _ _).mono ?_; rintro e w2 ⟨rfl, rfl⟩)
  go_ret
  exact ⟨rfl, HF.out⟩
end Go.Proofs.YtpapgfjainllpaaDoor


namespace Go.Proofs.YtpapgfjainllpaaDoor
set_option linter.unusedVariables false
set_option linter.unusedSimpArgs false
set_option maxRecDepth 100000
open Go.RowKit

theorem itoa_one (n : Int) (h : I64b n) : oneB (Lib.itoa n) = some (⟨2, [], n, 0⟩, (Lib.itoa n).length) ∧ 1 ≤ (Lib.itoa n).length ∧ (Lib.itoa n).length ≤ 21 := by
  have hv := valB_itoa h
  have h21 := Lib.itoa_length_le n h.1 h.2
  have hall : ∀ (d : List UInt8), d.all digB = true → spanN digB d = d.length := by
    intro d
    induction d with
    | nil => intro _; rfl
    | cons c r ih =>
      intro hd
      rw [List.all_cons, Bool.and_eq_true] at hd
      rw [span_yes hd.1, ih hd.2]; rfl
  rcases itoa_shape h rfl with ⟨_, e1, e2, _⟩ | ⟨d, e0, _, e1, e2, _⟩
  · refine ⟨?_, e2, h21⟩
    generalize Lib.itoa n = l at *
    cases l with
    | nil => simp at e2
    | cons c r =>
      rw [List.all_cons, Bool.and_eq_true] at e1
      have hl : ¬ (letB c = true) := by have := e1.1; simp [digB] at this; simp [letB]; omega
      simp only [oneB, if_neg hl]
      rw [if_pos (by rw [e1.1]; rfl), hall r e1.2, show 1 + r.length = (c :: r).length by simp; omega, List.take_length, hv]
      rfl
  · refine ⟨?_, by rw [e0]; simp, h21⟩
    rw [e0] at hv ⊢
    simp only [oneB]
    rw [if_neg (by decide), if_pos (by decide), hall d e1, show 1 + d.length = (45 :: d).length by simp; omega, List.take_length, hv]
    rfl
theorem quo_len (s : List UInt8) : (quoB s).length = (dblB s).length + 2 := by unfold quoB; simp
/-- the tokens of a text's and a number's token -/
theorem back_ws (s : List UInt8) (n : Int) (h : I64b n) (hs : s.length ≤ 100) :
    wsB (quoB s ++ 32 :: Lib.itoa n) = ([⟨3, s, 0, 0⟩, ⟨2, [], n, ((quoB s).length + 1 : Nat)⟩, ⟨0, [], 0, ((quoB s ++ 32 :: Lib.itoa n).length : Nat)⟩], (quoB s ++ 32 :: Lib.itoa n).length, 0) := by
  obtain ⟨ho, h1, h21⟩ := itoa_one n h
  have hd := dbl_len s
  have hq := quo_len s
  have hlen : (quoB s ++ 32 :: Lib.itoa n).length = (quoB s).length + 1 + (Lib.itoa n).length := by rw [List.length_append, List.length_cons]; omega
  refine all_ok (by omega) ?_
  have e1 : quoB s ++ 32 :: Lib.itoa n = 39 :: (dblB s ++ 39 :: 32 :: Lib.itoa n) := by unfold quoB; simp
  have ho1 : oneB (39 :: (dblB s ++ 39 :: 32 :: Lib.itoa n)) = some (⟨3, s, 0, 0⟩, (quoB s).length) := by
    simp only [oneB]
    rw [if_neg (by decide), if_neg (by decide), if_pos trivial, qt_dbl s _ (by simp), hq]
    rfl
  rw [e1, tok_one 0 ho1, ← e1, show (quoB s ++ 32 :: Lib.itoa n).drop (quoB s).length = 32 :: Lib.itoa n by rw [List.drop_append_of_le_length (Nat.le_refl _), List.drop_length]; rfl]
  rw [tok_blank _ (by decide)]
  cases hi : Lib.itoa n with
  | nil => rw [hi] at h1; simp at h1
  | cons c r =>
    rw [hi] at ho hlen
    rw [tok_one _ ho, List.drop_length, tok_nil, hlen, Nat.zero_add]
    rfl

set_option maxHeartbeats 2000000 in
theorem wordBack_walk (s : List UInt8) (n : Int) (w : World) (hW : Lw w) (hn : I64b n) :
    Calls Tryd.prog 4 #[.string ⟨s.toArray⟩, .int .i64 n] w fun e w' => e = .returned (.bool true) ∧ Below w.heap.size w w' := by
  have HV := Lib.hid (fun V h => live16_any V h)
  have HL := Lib.hid hW
  by_cases h5 : 100 < s.length
  · have hb : decide ((100 : Int) < (s.length : Int)) = true := by simp; omega
    clear h5
    go_enter Tryd.func4, Tryd.ntmps4
    go_wp2_with fail
    refine (HV.out _ HL.out).mono ?_
    rintro e w2 ⟨rfl, hf2⟩
    have HF2 := Lib.hid hf2
    clear hf2
    go_wp2
    go_ret
    exact ⟨rfl, HF2.out.below⟩
  · have hb : decide ((100 : Int) < (s.length : Int)) = false := by simp; omega
    have HQ := Lib.hid (wquote_any s w hW (by omega))
    have HD := Lib.hid (fun V h => wdigits_any n V h hn)
    have HRQ := Lib.hid (fun V => rquote_any s V (by omega))
    have HRD := Lib.hid (fun V => rdigits_any n V hn)
    have HA := Lib.hid (fun V h => wall_any (quoB s ++ 32 :: Lib.itoa n) V h)
    have HE := Lib.hid (back_ws s n hn (by omega))
    have HN := Lib.hid (fun n V => lnum_any n V)
    have hq := quo_len s
    have hd := dbl_len s
    have h21 := (itoa_one n hn).2.2
    have hql : (quoB s).length ≤ 202 := by omega
    clear h5 hq hd
    generalize quoB s = q at *
    generalize Lib.itoa n = d at *
    have q1 := fun W => run_string_add_sum (P := Tryd.prog) W ⟨q.toArray⟩ ⟨#[32]⟩ (by simp [ByteArray.size]; omega)
    have q2 := fun W => run_string_add_sum (P := Tryd.prog) W (⟨q.toArray⟩ ++ ⟨#[32]⟩) ⟨d.toArray⟩ (by simp [ByteArray.size]; omega)
    have hsum : (⟨q.toArray⟩ ++ ⟨#[32]⟩ ++ ⟨d.toArray⟩ : ByteArray) = ⟨(q ++ 32 :: d).toArray⟩ := by
      apply ByteArray.ext; simp
    generalize q ++ 32 :: d = m at *
    go_enter Tryd.func4, Tryd.ntmps4
    go_wp2_with fail
    refine HQ.out.mono ?_
    rintro e w1 ⟨rfl, hf1⟩
    have HF1 := Lib.hid hf1
    clear HQ hf1
    go_wp2_with fail
    refine (HD.out _ (HL.out.non HF1.out)).mono ?_
    rintro e w2 ⟨rfl, hf2⟩
    have HF2 := Lib.hid (HF1.out.trans hf2)
    clear HD hf2 HF1
    go_wp2_with fail
    refine (HA.out _ (HL.out.non HF2.out)).mono ?_
    rintro e w3 ⟨v, rfl, hv, hf3⟩
    have HF3 := Lib.hid (HF2.out.trans hf3)
    have HVs := Lib.hid hv
    rw [HE.out]
    clear HA hf3 HF2 hv q1 q2 hsum
    dsimp only
    go_wp2_with fail
    refine (HRQ.out _).mono ?_
    rintro e w4 ⟨rfl, hf4⟩
    have HF4 := Lib.hid (HF3.out.trans hf4)
    have HV4 := Lib.hid (HVs.out.non hf4)
    clear HRQ hf4 HF3 HVs
    go_wp2_with fail
    refine (HRD.out _).mono ?_
    rintro e w5 ⟨rfl, hf5⟩
    have HF5 := Lib.hid (HF4.out.trans hf5)
    have hv5 := HV4.out.non hf5
    rw [HE.out] at hv5
    dsimp only at hv5
    clear HRD hf5 HF4 HV4
    obtain ⟨A, c, rfl⟩ := hv5.shape
    obtain ⟨a, rfl, e1⟩ := hv5.at_ 0 ⟨3, s, 0, 0⟩ rfl
    obtain ⟨a', ha', e2⟩ := hv5.at_ 1 _ rfl
    obtain rfl := Option.some.inj ha'
    rw [Nat.zero_mul] at e1
    have p0 : w5.cell? a = some (.int .i64 3) := (tk_lit e1).1
    have p1 : w5.cell? { block := a.block, off := a.off + 1 } = some (.string ⟨s.toArray⟩) := (tk_lit e1).2.1
    have p2 : w5.cell? { block := a.block, off := a.off + 4 } = some (.int .i64 2) := (tk_lit e2).1
    have p3 : w5.cell? { block := a.block, off := a.off + 4 + 2 } = some (.int .i64 n) := (tk_lit e2).2.2.1
    clear hv5 e1 e2 ha'
    go_wp2_with (refine (HN.out _ _).mono ?_; rintro e w6 ⟨rfl, rfl⟩; refine Hid.out ?_)
    refine Lib.hid ?_
    go_wp2_with fail
    refine (HV.out _ (HL.out.non HF5.out)).mono ?_
    rintro e w7 ⟨rfl, hf7⟩
    have HF7 := Lib.hid (HF5.out.trans hf7)
    clear hf7
    go_wp2
    go_ret
    exact ⟨rfl, HF7.out.below⟩
end Go.Proofs.YtpapgfjainllpaaDoor


namespace Go.Proofs.YtpapgfjainllpaaDoor
set_option linter.unusedVariables false
set_option linter.unusedSimpArgs false
set_option maxRecDepth 100000
open Go.ChangeShapes Go.WideShapes Go.ChangeAt Go.RowKit

/-- a call's contract, by what the row says and by what the world's shape says -/
theorem handed_shaped {H : Type} {enc : TypeId × Value → H} {a : Assume} {C : Checked} {os : Os} {f : FuncId} {fn : Func} {s : ChangeSpec} {conds : List PathCond} {apart fresh handsOn again : Bool} {X : World → Array Value → Prop}
    (hX : ∀ (w w' : World) (args : Array Value), w.heap = w'.heap → X w args → X w' args)
    (own : ownKnob C.prog.godebug = none) (started : os.Started) (noInit : C.prog.inits.idxOf? f = none) (hfn : C.prog.funcs[f]? = some fn)
    (witness : ∃ (w : World) (tape : Tape) (i : Input), w.os = os ∧ (w.forCall tape i).Shaped C.prog ∧ i.vars = [] ∧ Input.okWide C.prog (w.forCall tape i) .any w.heap.size f i ∧
      ((s.pre enc C.prog fn conds apart (w.forCall tape i).memory i.args ∧ X (w.forCall tape i).memory i.args) ∧ sizedMet enc C.prog fn (OpenSpec.ofChange s) apart (w.forCall tape i).memory i.args) ∧ a.holds C.prog (lone (Frame.enter C.prog f i.args .normal) [] (w.forCall tape i)))
    (contract : ∀ (W : World) (base : Nat) (args : Array Value) (ds gs : List (DataW H)) (before : List MemPlace),
      (∀ (j : Nat) t v, fn.params[j]? = some t → args[j]? = some v → Value.okWide C.prog W .any base t v) →
      DataW.Whole enc C.prog fn.params.toList s.vars apart W args.toList ds gs before → W.ShapedOpen C.prog → X W args →
      Calls C.prog f args W fun e W' => ∃ v, e = .returned v ∧ s.post enc C.prog fn apart fresh handsOn again W args v W') :
    ReturnsInHanded a C os f .any (fun w args => (s.pre enc C.prog fn conds apart w args ∧ X w args) ∧ sizedMet enc C.prog fn (OpenSpec.ofChange s) apart w args) (s.post enc C.prog fn apart fresh handsOn again) := by
  refine returnsInHanded_of_calls own started noInit witness ?_
  intro w tape i _ hsh _ hok hpre hholds
  obtain ⟨_, _, _, fn', hfn', _, _, _, _, hval⟩ := hok
  obtain rfl : fn' = fn := Option.some.inj (hfn'.symm.trans hfn)
  obtain ⟨⟨⟨ds, gs, before, hw, _⟩, hx⟩, _⟩ := hpre
  refine (contract (w.forCall tape i) w.heap.size i.args ds gs before hval (DataW.Whole.of_heap (w' := w.forCall tape i) (by rfl) hw) hsh (hX _ _ _ (by rfl) hx)).mono fun e W' ⟨v, he, hp⟩ => ?_
  subst he
  exact ChangeSpec.post_blind hp

/-- the list of the rows of this layer -/
abbrev laid16 : List (String × DataW Unit) := [("math/bits.deBruijn32tab", Rows.laid_math_bits_deBruijn32tab), ("math/bits.deBruijn64tab", Rows.laid_math_bits_deBruijn64tab), ("internal/strconv.uint64pow10", Rows.laid_internal_strconv_uint64pow10), ("unicode/utf8.acceptRanges", Rows.laid_unicode_utf8_acceptRanges), ("strconv.ErrRange", Rows.laid_strconv_ErrRange), ("strconv.ErrSyntax", Rows.laid_strconv_ErrSyntax), ("firkin/word.marks", Rows.laid_firkin_word_marks), ("unicode/utf8.first", Rows.laid_unicode_utf8_first)]
theorem err_row (u : TypeId) (h : Tryd.prog.typeName? 3 u = some "*errors.errorString") : u = 114 :=
  typeName_ptr_named (nm := "errors.errorString") (by rw [show "*" ++ "errors.errorString" = "*errors.errorString" by decide]; kernel_rfl) (by kernel_rfl) (by decide) u (by rw [show "*" ++ "errors.errorString" = "*errors.errorString" by decide]; exact h)
theorem pow_data : (Rows.laid_internal_strconv_uint64pow10 : DataW Unit) = Lib.tabData .u64 Lib.pow10Tab := by kernel_rfl
def marksD : List (DataW Unit) := marksL.map fun l => .lit (.string l)
theorem marks_data : (Rows.laid_firkin_word_marks : DataW Unit) = .agg marksD := by kernel_rfl
theorem marks_in {W : World} {r : List (String × DataW Unit)} (h : laidMet Tryd.prog (("firkin/word.marks", Rows.laid_firkin_word_marks) :: r) W) : ∀ j (h : j < marksL.length), W.cell? ⟨0, j, none⟩ = some (.string ⟨marksL[j].toArray⟩) := by
  intro j hj
  rw [marks_data] at h
  obtain ⟨ps, ⟨g, t, cs, fuel, p, q, hg, ht, hv, hd, _, _⟩, _, _⟩ := h
  obtain rfl := Option.some.inj ((show Tryd.prog.globalNamed "firkin/word.marks" = some 0 by kernel_rfl).symm.trans hg)
  obtain rfl := Option.some.inj ((show (Tryd.prog.globals[0]?).map (·.type) = some 63 by kernel_rfl).symm.trans ht)
  obtain ⟨xs, m, _, ex, _, hl, hel⟩ := DataW.trod_array Tryd.underlying63 hd
  have c9 : Tryd.prog.cellsOf 9 = 1 := by kernel_rfl
  have hj10 : j < 10 := hj
  have hE := hel j hj10
  rw [c9, Nat.mul_one, List.getElem?_eq_getElem (by omega)] at hE
  obtain ⟨s, e1, e2, _⟩ := DataW.trod_string Tryd.underlying9 hE
  have e3 : (xs.map (·.1)) = marksD := (DataW.agg.inj (Prod.mk.inj ex).1).symm
  have e4 : (xs.map (·.1))[j]? = marksD[j]? := by rw [e3]
  unfold marksD at e4
  obtain ⟨m', hm⟩ : ∃ m', marksL[j]? = some m' := ⟨_, List.getElem?_eq_getElem hj⟩
  rw [List.getElem?_map, List.getElem?_map, List.getElem?_eq_getElem (by omega : j < xs.length), hm, e2] at e4
  have hs : s.data.toList = m' := by simpa using e4
  rw [World.var?_cell hg hv j, (List.getElem?_eq_some_iff.1 hm).2, ← hs]
  have : cs.toList[j]? = some (.string s) := by
    have h0 : ((cs.toList.drop j).take 1)[0]? = some (.string s) := by rw [e1]; rfl
    simpa using h0
  simpa using this
theorem lw_in {W : World} (h : laidMetH Tryd.prog laid16 W) (hs : W.ShapedOpen Tryd.prog) : Lw W := by
  rw [MakeChecks.laidMetH_plain _ _ _ (by kernel_rfl)] at h
  have h2 := h.tail.tail
  have h5 := h2.tail.tail
  have h7 := h5.tail.tail
  refine ⟨marks_in h7, cell_of_shapedOpen_int hs (by decide +kernel) (t := 3) (zero := #[.int .i64 0]) (by kernel_rfl) rfl (by kernel_rfl) (by kernel_rfl) Tryd.underlying3, ?_, ?_, ?_⟩
  · exact Lib.tabIs_of_head (n := 20) (show Tryd.prog.globalNamed "internal/strconv.uint64pow10" = some 1 by kernel_rfl)
      (show (Tryd.prog.globals[1]?).map (·.type) = some 86 by kernel_rfl) Tryd.underlying86 Tryd.underlying48 (by kernel_rfl) (by kernel_rfl) (by rw [pow_data] at h2; exact h2)
  · obtain ⟨a, s, hv, _⟩ := laid_sentinel h5.tail (show Tryd.prog.globalNamed "strconv.ErrSyntax" = some 5 by kernel_rfl) (show (Tryd.prog.globals[5]?).map (·.type) = some 60 by kernel_rfl) Tryd.underlying60 err_row Tryd.underlying114 Tryd.underlying116 rfl rfl Tryd.underlying9 (by kernel_rfl) (by kernel_rfl)
    exact ⟨_, _, hv⟩
  · obtain ⟨a, s, hv, _⟩ := laid_sentinel h5 (show Tryd.prog.globalNamed "strconv.ErrRange" = some 6 by kernel_rfl) (show (Tryd.prog.globals[6]?).map (·.type) = some 60 by kernel_rfl) Tryd.underlying60 err_row Tryd.underlying114 Tryd.underlying116 rfl rfl Tryd.underlying9 (by kernel_rfl) (by kernel_rfl)
    exact ⟨_, _, hv⟩

/-! ### A world in which they lie so -/
theorem laid16_shaped (os : Os) : (World.laidAll Tryd.prog os laid16).Shaped Tryd.prog := World.shaped_of_ZipB (by kernel_rfl) (by kernel_rfl)
theorem laid16_met (os : Os) (args : Array Value) : laidMetH Tryd.prog laid16 ((World.laidAll Tryd.prog os laid16).forCall (fun _ _ => 0) ⟨#[], args, []⟩).memory := by
  rw [MakeChecks.laidMetH_plain _ _ _ (by kernel_rfl)]
  exact laidMet_laidAll _ (by kernel_rfl) (by kernel_rfl)
end Go.Proofs.YtpapgfjainllpaaDoor
