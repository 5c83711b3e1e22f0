/-
  Layer 1: the walks of the laws VintPuts, VintBack, VintOne: each returns true, and turns nothing that was there.
-/
import Derived.Test.YtaamohkmfhoikaaVint9
namespace Go.Proofs.Ytaamohkmfhoikaa
set_option linter.unusedVariables false
set_option linter.unusedSimpArgs false
open Go.RowKit

set_option maxHeartbeats 1000000 in
theorem puts_walk (n : Nat) (k : Int) (l : List UInt8) (w : World) (hn : n < two64) (h1 : -9223372036854775808 ≤ k) (h2 : k ≤ 9223372036854775807) (hl : l.length ≤ 9223372036854775807) :
    Calls Try.prog 3 #[.int .u64 n, .int .i64 k, .string ⟨l.toArray⟩] w fun e w' => e = .returned (.bool true) ∧ Below w.heap.size w w' := by
  have hs : ByteArray.size ⟨l.toArray⟩ = l.length := by simp [ByteArray.size]
  have C1 := Lib.hid hn
  have C2 := Lib.hid h1
  have C3 := Lib.hid h2
  clear hn h1 h2
  by_cases hbig : 400 < l.length
  · go_enter Try.func3, Try.ntmps3
    go_wp2_with fail
    refine (live_any w).mono ?_
    rintro e w1 ⟨rfl, hf1⟩
    go_wp2
    go_ret
    exact ⟨rfl, hf1.below⟩
  · have hlen : l.length < 1048576 := by omega
    go_enter Try.func3, Try.ntmps3
    go_wp2_with fail
    refine (vnum_any n w C1.out).mono ?_
    rintro e w1 ⟨v1, rfl, o1, f1⟩
    go_wp2_with fail
    refine (rnum_any n w1 C1.out).mono ?_
    rintro e w2 ⟨v2, rfl, o2, f2⟩
    go_wp2_with fail
    refine (same_any v1 v2 _ _ w2 (o1.bs.non f2) o2.bs).mono ?_
    rintro e w3 ⟨rfl, rfl⟩
    go_wp2_with fail
    refine (vint_any k w2 C2.out C3.out).mono ?_
    rintro e w3 ⟨v3, rfl, o3, f3⟩
    go_wp2_with fail
    refine (rint_any k w3 C2.out C3.out).mono ?_
    rintro e w4 ⟨v4, rfl, o4, f4⟩
    go_wp2_with fail
    refine (same_any v3 v4 _ _ w4 (o3.bs.non f4) o4.bs).mono ?_
    rintro e w5 ⟨rfl, rfl⟩
    go_wp2_with fail
    refine (vtext_any l w4 hlen).mono ?_
    rintro e w5 ⟨v5, rfl, o5, f5⟩
    go_wp2_with fail
    refine (rtext_any l w5 hlen).mono ?_
    rintro e w6 ⟨v6, rfl, o6, f6⟩
    go_wp2_with fail
    refine (same_any v5 v6 _ _ w6 (o5.bs.non f6) o6.bs).mono ?_
    rintro e w7 ⟨rfl, rfl⟩
    go_wp2_with fail
    refine (live_any w6).mono ?_
    rintro e w7 ⟨rfl, f7⟩
    go_wp2
    go_ret
    exact ⟨rfl, ((((((f1.trans f2).trans f3).trans f4).trans f5).trans f6).trans f7).below⟩

theorem read_num (n : Nat) (r : List UInt8) (hn : n < two64) : fstN (Lib.uvarint n ++ r) = n ∧ rest (Lib.uvarint n ++ r) = r ∧ fell (Lib.uvarint n ++ r) = false := by
  have h := rest_some (rd_own hn r)
  exact ⟨h.2.2.1, h.1, h.2.1⟩

theorem read_text (t : List UInt8) (h : t.length ≤ 400) : txtT (textB t) 400 = t ∧ txtR (textB t) 400 = [] ∧ txtB (textB t) 400 = false := by
  have hr := read_num t.length t (by unfold two64; omega)
  unfold textB
  have hm : mostOk (Lib.uvarint t.length ++ t) 400 = true := decide_eq_true (by rw [hr.1]; omega)
  have hc : cutOk t t.length = true := decide_eq_true (by omega)
  unfold txtT txtR txtB mostV mostR mostB
  rw [hm, hr.1, hr.2.1, hr.2.2]
  simp only [if_true]
  unfold cutT cutR cutB
  rw [hc]
  simp

set_option maxHeartbeats 1000000 in
theorem back_walk (n : Nat) (k : Int) (l : List UInt8) (w : World) (hn : n < two64) (h1 : -9223372036854775808 ≤ k) (h2 : k ≤ 9223372036854775807) (hl : l.length ≤ 9223372036854775807) :
    Calls Try.prog 5 #[.int .u64 n, .int .i64 k, .string ⟨l.toArray⟩] w fun e w' => e = .returned (.bool true) ∧ Below w.heap.size w w' := by
  have hs : ByteArray.size ⟨l.toArray⟩ = l.length := by simp [ByteArray.size]
  have C1 := Lib.hid hn
  have C2 := Lib.hid h1
  have C3 := Lib.hid h2
  clear hn h1 h2
  by_cases hbig : 400 < l.length
  · go_enter Try.func5, Try.ntmps5
    go_wp2_with fail
    refine (live_any w).mono ?_
    rintro e w1 ⟨rfl, hf1⟩
    go_wp2
    go_ret
    exact ⟨rfl, hf1.below⟩
  · have hlen : l.length < 1048576 := by omega
    have C4 := Lib.hid (read_num n (Lib.uvarint (zig k) ++ textB l) C1.out)
    have C5 := Lib.hid (read_num (zig k) (textB l) (zig_lt C2.out C3.out))
    have C6 := Lib.hid (read_text l (by omega))
    have L1 := Lib.uvarint_length64 C1.out
    have L2 := Lib.uvarint_length64 (zig_lt C2.out C3.out)
    have L3 := Lib.uvarint_length64 (show l.length < 18446744073709551616 by omega)
    have L4 : (textB l).length < 2097152 := by unfold textB; rw [List.length_append]; omega
    clear hl L3
    go_enter Try.func5, Try.ntmps5
    go_wp2_with fail
    refine (vnum_any n w C1.out).mono ?_
    rintro e w1 ⟨v1, rfl, o1, f1⟩
    go_wp2_with fail
    refine (vint_any k w1 C2.out C3.out).mono ?_
    rintro e w2 ⟨v2, rfl, o2, f2⟩
    have o1' := o1.non f2
    have B1 := f1.size
    have B2 := f2.size
    go_wp2_with (at_builtin; refine wpList_app rfl (.tmp 13) (.tmp 15) rfl w.heap.size v1 v2 _ _ rfl o1' rfl o2.bs (by omega) (by omega) ?_; intro v3 w3 o3 f3)
    have B3 := f3.size
    have g3 := (f1.trans f2).fresh f3 fun k hk => (o1'.lt k hk).1
    refine (vtext_any l w3 hlen).mono ?_
    rintro e w4 ⟨v4, rfl, o4, f4⟩
    have B4 := f4.size
    have o3' := o3.non f4
    go_wp2_with (at_builtin; refine wpList_app rfl (.tmp 16) (.tmp 18) rfl w.heap.size v3 v4 _ _ rfl o3' rfl o4.bs (by rw [List.length_append]; omega) (by omega) ?_; intro v5 w5 o5 f5)
    have g5 := (g3.trans f4).fresh f5 fun k hk => (o3'.lt k hk).1
    rw [List.append_assoc] at o5
    refine (from_any v5 _ w5 o5.bs).mono ?_
    rintro e w6 ⟨rfl, s6, f6⟩
    have g6 := g5.trans f6
    have hge : w.heap.size ≤ w5.heap.size := g5.size
    clear o1 o2 o1' o3 o4 o3' o5 f1 f2 f3 f4 f5 f6 g3 B1 B2 B3 B4 L1 L2 L4
    go_wp2_with fail
    refine (num_any _ _ _ _ s6).mono ?_
    rintro e w7 ⟨rfl, s7, f7⟩
    rw [C4.out.1]
    rw [C4.out.2.1, C4.out.2.2] at s7
    have e1 : ((n : Int) == n) = true := by simp
    go_wp2_with fail
    refine (sint_any _ _ _ _ s7).mono ?_
    rintro e w8 ⟨rfl, s8, f8⟩
    rw [C5.out.1, unzig_zig]
    rw [C5.out.2.1, C5.out.2.2] at s8
    go_wp2_with fail
    refine (stext_any _ _ _ 400 _ s8 (by omega)).mono ?_
    rintro e w9 ⟨rfl, s9, f9⟩
    rw [C6.out.1]
    rw [C6.out.2.1, C6.out.2.2] at s9
    go_wp2_with fail
    refine (end_any _ _ _ _ s9).mono ?_
    rintro e w10 ⟨rfl, rfl⟩
    go_wp2_with fail
    refine (live_any _).mono ?_
    rintro e w11 ⟨rfl, f11⟩
    go_wp2
    go_ret
    have fr : ∀ k, One w5.heap.size k → w.heap.size ≤ k := fun k hk => by rw [show k = _ from hk]; exact hge
    exact ⟨rfl, ((((g6.fresh f7 fr).fresh f8 fr).fresh f9 fr).trans f11).below⟩

theorem unzig_bd {n : Nat} (h : n < two64) : -9223372036854775808 ≤ unzig n ∧ unzig n ≤ 9223372036854775807 := by
  unfold two64 at h; unfold unzig; split <;> omega

set_option maxHeartbeats 1000000 in
theorem one_walk (v : Value) (l : List UInt8) (w : World) (hbs : Bs w v l) (hl : l.length ≤ 9223372036854775807) :
    Calls Try.prog 6 #[v] w fun e w' => e = .returned (.bool true) ∧ Below w.heap.size w w' := by
  have HB := Lib.hid hbs
  obtain ⟨A, c, rfl, hc, _, _⟩ := hbs
  by_cases hbig : 400 < l.length
  · go_enter Try.func6, Try.ntmps6
    go_wp2_with fail
    refine (live_any w).mono ?_
    rintro e w1 ⟨rfl, hf1⟩
    go_wp2
    go_ret
    exact ⟨rfl, hf1.below⟩
  · clear hl
    go_enter Try.func6, Try.ntmps6
    go_wp2_with fail
    refine (from_any _ l w HB.out).mono ?_
    rintro e w1 ⟨rfl, s1, f1⟩
    go_wp2_with fail
    refine (from_any _ l w1 (HB.out.non f1)).mono ?_
    rintro e w2 ⟨rfl, s2, f2⟩
    have hlt : w.heap.size < w1.heap.size := s1.1.lt
    have s1' := s1.fr f2 (fun e => e)
    go_wp2_with fail
    refine (num_any _ _ _ _ s1').mono ?_
    rintro e w3 ⟨rfl, s3, f3⟩
    have s2' := s2.fr f3 (fun e => by have : w1.heap.size = w.heap.size := e; omega)
    go_wp2_with fail
    refine (sint_any _ _ _ _ s2').mono ?_
    rintro e w4 ⟨rfl, s4, f4⟩
    have s3' := s3.fr f4 (fun e => by have : w.heap.size = w1.heap.size := e; omega)
    have fr1 : ∀ k, One w.heap.size k → w.heap.size ≤ k := fun k hk => by rw [show k = _ from hk]; omega
    have fr2 : ∀ k, One w1.heap.size k → w.heap.size ≤ k := fun k hk => by rw [show k = _ from hk]; omega
    have g4 : Fr Non w w4 := ((f1.trans f2).fresh f3 fr1).fresh f4 fr2
    clear f1 f2 f3 f4 s1 s2 s1' s2' s3
    go_wp2_with fail
    refine (ok_any _ _ _ _ s3').mono ?_
    rintro e w5 ⟨rfl, rfl⟩
    cases hr : rd 0 0 l with
    | none =>
      have C := rest_none hr
      rw [C.2.1] at s4 ⊢
      rw [C.2.2.1]
      clear hr
      have hu : unzig 0 = 0 := rfl
      go_wp2_with fail
      refine (ok_any _ _ _ _ s4).mono ?_
      rintro e w6 ⟨rfl, rfl⟩
      go_wp2_with fail
      refine (live_any _).mono ?_
      rintro e w7 ⟨rfl, f7⟩
      go_wp2
      go_ret
      exact ⟨rfl, (g4.trans f7).below⟩
    | some p =>
      obtain ⟨n, r⟩ := p
      have C := rest_some hr
      have hn := rd_lt hr
      have hi := rd_is hr
      rw [C.2.1, C.1] at s3'
      rw [C.2.1] at s4 ⊢
      rw [C.2.2.1]
      have K1 := Lib.hid hn
      have K2 := Lib.hid (unzig_bd hn)
      have L10 := Lib.uvarint_length64 hn
      have hk : (Lib.uvarint n).length ≤ l.length := by rw [hi, List.length_append]; omega
      have hll : l.length = (Lib.uvarint n).length + r.length := by rw [hi, List.length_append]
      obtain ⟨A', c', hrun, hbs', hown'⟩ := slice_hi A l.length c (Lib.uvarint n).length .i64 ((Lib.uvarint n).length : Int) rfl hk hc
      have HS := Lib.hid (fun W h => hbs' W l rfl h)
      have HE := Lib.hid (show l.take (Lib.uvarint n).length = Lib.uvarint n by rw [hi, List.take_left])
      have HL := Lib.hid hll
      clear hr hn hi hll hbs' hown' C s4 fr1 fr2
      go_wp2_with fail
      refine (vnum_any n _ K1.out).mono ?_
      rintro e w6 ⟨v6, rfl, o6, f6⟩
      obtain ⟨A6, c6, rfl⟩ := o6.shape
      go_wp2_with fail
      refine (vint_any (unzig n) _ K2.out.1 K2.out.2).mono ?_
      rintro e w7 ⟨v7, rfl, o7, f7⟩
      rw [zig_unzig] at o7
      obtain ⟨A7, c7, rfl⟩ := o7.shape
      have g7 := (g4.trans f6).trans f7
      go_wp2_with fail
      refine (same_any _ _ _ _ _ (HS.out _ (HB.out.non g7)) (o6.bs.non f7)).mono ?_
      rintro e w8 ⟨rfl, rfl⟩
      rw [HE.out, beq_self_eq_true]
      go_wp2_with fail
      refine (same_any _ _ _ _ _ o7.bs (o6.bs.non f7)).mono ?_
      rintro e w8 ⟨rfl, rfl⟩
      rw [beq_self_eq_true]
      go_wp2_with fail
      refine (left_any _ _ _ _ ((s3'.fr f6 (fun e => e)).fr f7 (fun e => e))).mono ?_
      rintro e w8 ⟨rfl, rfl⟩
      have hq : ((r.length : Int) == (l.length : Int) - ((Lib.uvarint n).length : Int)) = true := by rw [beq_iff_eq, HL.out]; omega
      go_wp2_with fail
      refine (live_any _).mono ?_
      rintro e w9 ⟨rfl, f9⟩
      go_wp2
      go_ret
      exact ⟨rfl, (g7.trans f9).below⟩

end Go.Proofs.Ytaamohkmfhoikaa
