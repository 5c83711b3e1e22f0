/-
  Layer 1, what is read: contracts of the document's own source: Int, Below, Take, Text, End.
-/
import Derived.Test.YtkmgplgokhjmjaaVint7
namespace Go.Proofs.Ytkmgplgokhjmjaa
set_option linter.unusedVariables false
set_option linter.unusedSimpArgs false
set_option maxRecDepth 100000
open Go.RowKit

theorem fell_zero {l : List UInt8} (h : fell l = true) : fstN l = 0 ∧ rest l = [] := by
  cases hr : rd 0 0 l with
  | none => exact ⟨(rest_none hr).2.2.1, (rest_none hr).1⟩
  | some p => obtain ⟨n, r⟩ := p; rw [(rest_some hr).2.1] at h; cases h

theorem rest_le (l : List UInt8) : (rest l).length ≤ l.length := by
  cases hr : rd 0 0 l with
  | none => rw [(rest_none hr).1]; simp
  | some p => obtain ⟨n, r⟩ := p; rw [(rest_some hr).1]; exact Nat.le_of_lt (rd_len (by omega) hr)

theorem runzig_odd {n : Nat} (hn : n < two64) (h : n % 2 = 1) : wrap64 (wrap64 (-wrap64 ((n : Int) / 2)) - 1) = unzig n := by
  unfold two64 at hn
  rw [IntWalk.wrap64_in ((n : Int) / 2) ⟨by omega, by omega⟩, IntWalk.wrap64_in (-((n : Int) / 2)) ⟨by omega, by omega⟩, IntWalk.wrap64_in _ ⟨by omega, by omega⟩]
  unfold unzig; rw [if_pos h]; omega
theorem runzig_even {n : Nat} (hn : n < two64) (h : ¬ n % 2 = 1) : wrap64 ((n : Int) / 2) = unzig n := by
  unfold two64 at hn
  rw [IntWalk.wrap64_in ((n : Int) / 2) ⟨by omega, by omega⟩]
  unfold unzig; rw [if_neg h]; omega

theorem u64_div2 {m : Nat} (h : m < two64) : IntKind.u64.wrap ((m : Int) / 2) = (m : Int) / 2 := by
  unfold two64 at h
  exact IntWalk.u64_in _ ⟨by omega, by omega⟩

theorem rsint_any (g : Nat) (S : Nat → Prop) (l : List UInt8) (bad : Bool) (w : World) (h : SAt w g S l bad) (hl : l.length < 1000000000) :
    Calls Try.prog 38 #[ptr g] w fun e w' => e = .returned (.int .i64 (unzig (fstN l))) ∧ SAt w' g S (rest l) (fell l) ∧ Fr (One g) w w' := by
  have h0 := rsnum_any g S l bad w h hl
  have Hl := Lib.hid (fstN_lt l)
  have e0 := u64_div2 Hl.out
  clear h
  by_cases hp : fstN l % 2 = 1
  · have E1 := Lib.hid (runzig_odd Hl.out hp)
    have hp' : ((fstN l : Int) % 2 == 1) = true := by rw [beq_iff_eq]; omega
    clear hp
    go_enter Try.func38, Try.ntmps38
    go_wp2_with fail
    refine h0.mono ?_
    rintro e w' ⟨rfl, hs, hf⟩
    go_wp2
    go_ret
    exact ⟨congrArg (fun z => Ending.returned (.int .i64 z)) E1.out, hs, hf⟩
  · have E1 := Lib.hid (runzig_even Hl.out hp)
    have hp' : ((fstN l : Int) % 2 == 1) = false := by rw [beq_eq_false_iff_ne]; omega
    clear hp
    go_enter Try.func38, Try.ntmps38
    go_wp2_with fail
    refine h0.mono ?_
    rintro e w' ⟨rfl, hs, hf⟩
    go_wp2
    go_ret
    exact ⟨congrArg (fun z => Ending.returned (.int .i64 z)) E1.out, hs, hf⟩

theorem SAt.cells {w : World} {g : Nat} {S : Nat → Prop} {l : List UInt8} {bad : Bool} (h : SAt w g S l bad) :
    ∃ A c, w.cell? ⟨g, 0, none⟩ = some (.slice A l.length c) ∧ w.cell? ⟨g, 1, none⟩ = some (.bool bad) ∧ w.frozen? ⟨g, 0, none⟩ = false ∧ l.length ≤ c ∧
      Blk w g 36 #[.slice A l.length c, .bool bad] ∧ Bs w (.slice A l.length c) l ∧ (∀ k, (Value.slice A l.length c).ownBlock = some k → ¬ S k) ∧ S g := by
  obtain ⟨v, h1, h2, h3, h4, h5⟩ := h
  have hh := h2
  obtain ⟨A, c, rfl, hc, _, _⟩ := h2
  exact ⟨A, c, h1.cell 0, h1.cell 1, h1.frozen 0, hc, h1, hh, h3, h4⟩

set_option maxHeartbeats 1000000 in
theorem rbelow_any (g : Nat) (S : Nat → Prop) (l : List UInt8) (bad : Bool) (n : Int) (w : World) (h : SAt w g S l bad) (hl : l.length < 1000000000) (hn : n ≤ 9223372036854775807) :
    Calls Try.prog 36 #[ptr g, .int .i64 n] w fun e w' => e = .returned (.int .i64 (mostV l (n - 1))) ∧ SAt w' g S (mostR l (n - 1)) (mostB l (n - 1)) ∧ Fr (One g) w w' := by
  have h0 := rsnum_any g S l bad w h hl
  have Hl := Lib.hid (fstN_lt l)
  clear h
  by_cases hok : fell l = false ∧ 1 ≤ n ∧ (fstN l : Int) < n
  · obtain ⟨ok1, ok2, ok3⟩ := hok
    have HV : Hid (mostV l (n - 1) = fstN l ∧ mostR l (n - 1) = rest l ∧ mostB l (n - 1) = fell l) := by
      unfold mostV mostR mostB mostOk
      rw [decide_eq_true ⟨by omega, by omega⟩]; exact ⟨rfl, rfl, rfl⟩
    rw [ok1] at h0
    have HF := Lib.hid ok1
    have hwr : IntKind.u64.wrap n = n := IntWalk.u64_in _ ⟨by omega, by omega⟩
    have hwi : IntKind.i64.wrap (fstN l) = fstN l := IntWalk.i64_in _ ⟨by omega, by omega⟩
    clear hn ok1
    go_enter Try.func36, Try.ntmps36
    go_wp2_with fail
    refine h0.mono ?_
    rintro e w' ⟨rfl, hs, hf⟩
    obtain ⟨A, c, c0, c1, f0, _⟩ := hs.cells
    go_wp2
    go_ret
    rw [HV.out.1, HV.out.2.1, HV.out.2.2, HF.out]
    exact ⟨rfl, hs, hf⟩
  · have HV : Hid (mostV l (n - 1) = 0 ∧ mostR l (n - 1) = [] ∧ mostB l (n - 1) = true) := by
      unfold mostV mostR mostB mostOk
      cases hf : fell l with
      | true => have := fell_zero hf; refine ⟨?_, ?_, ?_⟩ <;> split <;> first | rfl | exact this.1 | exact this.2
      | false => rw [decide_eq_false (by rw [hf] at hok; simp at hok; omega)]; exact ⟨rfl, rfl, rfl⟩
    have hwr : 1 ≤ n → IntKind.u64.wrap n = n := fun _ => IntWalk.u64_in _ ⟨by omega, by omega⟩
    cases hf : fell l with
    | true =>
      rw [hf] at h0
      clear hn hok hwr
      have HF := Lib.hid hf; clear hf
      go_enter Try.func36, Try.ntmps36
      go_wp2_with fail
      refine h0.mono ?_
      rintro e w' ⟨rfl, hs, hf⟩
      obtain ⟨A, c, c0, c1, f0, _⟩ := hs.cells
      go_wp2_with fail
      refine (rfail_any g S _ _ _ hs).mono ?_
      rintro e w2 ⟨rfl, hs2, hf2⟩
      go_wp2
      go_ret
      rw [HV.out.1, HV.out.2.1, HV.out.2.2]
      exact ⟨rfl, hs2, hf.trans hf2⟩
    | false =>
      rw [hf] at h0 hok
      have HF := Lib.hid hf; clear hf
      by_cases hneg : n < 1
      · clear hn hok hwr
        go_enter Try.func36, Try.ntmps36
        go_wp2_with fail
        refine h0.mono ?_
        rintro e w' ⟨rfl, hs, hf⟩
        obtain ⟨A, c, c0, c1, f0, _⟩ := hs.cells
        go_wp2_with fail
        refine (rfail_any g S _ _ _ hs).mono ?_
        rintro e w2 ⟨rfl, hs2, hf2⟩
        go_wp2
        go_ret
        rw [HV.out.1, HV.out.2.1, HV.out.2.2]
        exact ⟨rfl, hs2, hf.trans hf2⟩
      · have hge : n ≤ (fstN l : Int) := by simp at hok; omega
        have hwr' := hwr (by omega)
        clear hn hok hwr
        go_enter Try.func36, Try.ntmps36
        go_wp2_with fail
        refine h0.mono ?_
        rintro e w' ⟨rfl, hs, hf⟩
        obtain ⟨A, c, c0, c1, f0, _⟩ := hs.cells
        go_wp2_with fail
        refine (rfail_any g S _ _ _ hs).mono ?_
        rintro e w2 ⟨rfl, hs2, hf2⟩
        go_wp2
        go_ret
        rw [HV.out.1, HV.out.2.1, HV.out.2.2]
        exact ⟨rfl, hs2, hf.trans hf2⟩

set_option maxHeartbeats 1000000 in
theorem rtakeO_any (g : Nat) (S : Nat → Prop) (l : List UInt8) (bad : Bool) (n : Int) (w : World) (h : SAt w g S l bad) (hl : l.length < 1000000000) :
    Calls Try.prog 53 #[ptr g, .int .i64 n] w fun e w' => ∃ v, e = .returned v ∧ Own w' w.heap.size v (cutT l n) ∧ SAt w' g S (cutR l n) (cutB l bad n) ∧ Fr (One g) w w' := by
  have hfail := rfail_any g S l bad w h
  obtain ⟨A, c, c0, c1, f0, hc, hB, hBs, hS, hSg⟩ := h.cells
  have H5 := Lib.hid (show bad = true → l = [] by obtain ⟨v, _, _, _, _, h5⟩ := h; exact h5)
  have HB := Lib.hid hB
  have HBs := Lib.hid hBs
  have HS := Lib.hid hS
  clear h hB hBs hS
  by_cases hok : bad = false ∧ 0 ≤ n ∧ n ≤ l.length
  · obtain ⟨rfl, h0, h1⟩ := hok
    obtain ⟨k, rfl⟩ := Int.eq_ofNat_of_zero_le h0
    have hk : k ≤ l.length := by omega
    have HV : Hid (cutT l k = l.take k ∧ cutR l k = l.drop k ∧ cutB l false k = false) := by
      unfold cutT cutR cutB cutOk
      rw [decide_eq_true (by omega)]; exact ⟨rfl, rfl, rfl⟩
    obtain ⟨A1, d1, hrun1, hbs1, hown1⟩ := slice_hi A l.length c k .i64 (k : Int) rfl hk hc
    obtain ⟨A2, d2, hrun2, hbs2, hown2⟩ := slice_lo A l.length c k .i64 (k : Int) rfl hk hc
    have HB1 := Lib.hid (fun W h => hbs1 W l rfl h)
    have HB2 := Lib.hid (fun W h => hbs2 W l rfl h)
    have HO2 := Lib.hid hown2
    clear hbs1 hbs2 hown1 hown2 hfail
    have hbe : Own (w.alloc (.cells #[] 5)) w.heap.size (.slice (some ⟨w.heap.size, 0, none⟩) 0 0) [] := World.ownsRow_made w #[] 0 (Nat.le_refl _) (by unfold maxLen; omega) rfl
    have hfa : Fr Non w (w.alloc (.cells #[] 5)) := (Fr.refl _ _).alloc _
    have hg := HB.out.lt
    go_enter Try.func53, Try.ntmps53
    go_wp2_with (at_builtin; refine wpList_app rfl (.tmp 25) (.tmp 31) rfl w.heap.size _ _ [] (l.take k) rfl hbe rfl (HB1.out _ (HBs.out.non hfa)) (by simp; omega) (by simp) ?_; intro v3 w3 hown3 hfr3; have hfn := hfa.fresh hfr3 (fun k hk => (hbe.lt k hk).1); have hB3 := Lib.hid (HB.out.fr hfn (fun e => e)); have hBs3 := Lib.hid (HBs.out.non hfn); have c03 := hB3.out.cell 0; have f03 := hB3.out.frozen 0; simp at c03)
    go_ret
    rw [HV.out.1, HV.out.2.1, HV.out.2.2]
    have hl' : 0 < l.length ∨ l = [] := by cases l <;> simp
    refine ⟨v3, rfl, ?_, ?_, (hfn.any).set1 _ _⟩
    · have hne : ∀ q, v3.ownBlock = some q → ¬ One g q := fun q hq e => by
        have := (hown3.lt q hq).1
        rw [show q = g from e] at this
        omega
      simpa using hown3.fr ((Fr.refl (One g) _).set1 0 _) hne
    · have hn : ∀ q, (Value.slice A2 (l.length - k) d2).ownBlock = some q → ¬ S q := fun q hq => HS.out q (by rw [← HO2.out]; exact hq)
      exact ⟨_, hB3.out.set 0 _, (HB2.out w3 hBs3.out).fr ((Fr.refl (One g) _).set1 0 _) (fun q hq e => hn q hq (by rw [show q = g from e]; exact hSg)), hn, hSg, fun h => by cases h⟩
  · have HV : Hid (cutT l n = [] ∧ cutR l n = [] ∧ cutB l bad n = true) := by
      cases hb : bad with
      | true =>
        have hl0 := H5.out hb
        subst hl0
        unfold cutT cutR cutB cutOk
        refine ⟨?_, ?_, ?_⟩ <;> split <;> simp
      | false =>
        unfold cutT cutR cutB cutOk
        rw [decide_eq_false (by rw [hb] at hok; simp at hok; omega)]; exact ⟨rfl, rfl, rfl⟩
    cases bad
    · by_cases hneg : n < 0
      · clear hok
        go_enter Try.func53, Try.ntmps53
        go_wp2_with fail
        refine hfail.mono ?_
        rintro e w2 ⟨rfl, hs2, hf2⟩
        go_wp2
        go_ret
        rw [HV.out.1, HV.out.2.1, HV.out.2.2]
        exact ⟨.slice none 0 0, rfl, own_nil _ _, hs2, hf2⟩
      · have hbig : (l.length : Int) < n := by simp at hok; omega
        clear hok
        go_enter Try.func53, Try.ntmps53
        go_wp2_with fail
        refine hfail.mono ?_
        rintro e w2 ⟨rfl, hs2, hf2⟩
        go_wp2
        go_ret
        rw [HV.out.1, HV.out.2.1, HV.out.2.2]
        exact ⟨.slice none 0 0, rfl, own_nil _ _, hs2, hf2⟩
    · clear hok
      go_enter Try.func53, Try.ntmps53
      go_wp2_with fail
      refine hfail.mono ?_
      rintro e w2 ⟨rfl, hs2, hf2⟩
      go_wp2
      go_ret
      rw [HV.out.1, HV.out.2.1, HV.out.2.2]
      exact ⟨.slice none 0 0, rfl, own_nil _ _, hs2, hf2⟩

theorem rtake_any (g : Nat) (S : Nat → Prop) (l : List UInt8) (bad : Bool) (n : Int) (w : World) (h : SAt w g S l bad) (hl : l.length < 1000000000) :
    Calls Try.prog 53 #[ptr g, .int .i64 n] w fun e w' => ∃ v, e = .returned v ∧ Bs w' v (cutT l n) ∧ (∀ k, v.ownBlock = some k → w.heap.size ≤ k) ∧ SAt w' g S (cutR l n) (cutB l bad n) ∧ Fr (One g) w w' := by
  refine (rtakeO_any g S l bad n w h hl).mono ?_
  rintro e w' ⟨v, rfl, h1, h2, h3⟩
  exact ⟨v, rfl, h1.bs, fun k hk => (h1.lt k hk).1, h2, h3⟩

end Go.Proofs.Ytkmgplgokhjmjaa
