/-
  Joined: Layer 1, what is read: contracts of the document's own source, S. · Layer 1, what is read: contracts of the document's own source: Int, Below, Take, Text, End. · Columns: which there may be, where one is, which rows; their bytes, and what is read of bytes; nothing of the program. · What is read: its length, a number's own bytes; a list's beginning filled. · Columns' bytes, and what is read of bytes; nothing of the program. · Layer 1, what is read: the contract of the document's own source's Text; what the page's examples come to. · Layer 12: columns' bytes, both programs'. · Slices of texts: a text's cell; what their type is. · Layer 12: letters, digits, words. · Layer 12: which texts may be names, both programs'. · A map of texts to whole numbers of the call's own: which texts it has, and how many; made, written, counted. · Layer 12: which columns a table may have, the program's. · Layer 12: columns read, the program's. · Layer 12: which columns a table may have, the document's; the law's words; the example.
-/
import Derived.Lib.Zigzag
import Derived.Lib.SmallJoins
import Derived.Laws.Rows
import Derived.Laws.ResultCell
import Derived.Test.YtoaeiokjaikalaaZ1
import Derived.Laws.RangeAny
import Derived.BigQuiet
import Derived.Maps.OwnSet
import Derived.Maps.OwnOps

namespace Go.Proofs.Ytoaeiokjaikalaa
set_option linter.unusedVariables false
set_option linter.unusedSimpArgs false
set_option maxRecDepth 100000
open Go.RowKit

/-- the document's source in block g; its bytes lie outside the blocks of S, g among them -/
def SAt (w : World) (g : Nat) (S : Nat → Prop) (l : List UInt8) (bad : Bool) : Prop :=
  ∃ v, Blk w g 43 #[v, .bool bad] ∧ Bs w v l ∧ (∀ k, v.ownBlock = some k → ¬ S k) ∧ S g ∧ (bad = true → l = [])

theorem SAt.fr {S S' : Nat → Prop} {w w' : World} {g : Nat} {l : List UInt8} {bad : Bool} (h : SAt w g S l bad) (hf : Fr S' w w') (hn : ¬ S' g) (hs : ∀ k, S' k → S k) : SAt w' g S l bad := by
  obtain ⟨v, h1, h2, h3, h4, h5⟩ := h
  exact ⟨v, h1.fr hf hn, h2.fr hf fun k hk e => h3 k hk (hs k e), h3, h4, h5⟩

theorem rfail_any (g : Nat) (S : Nat → Prop) (l : List UInt8) (bad : Bool) (w : World) (h : SAt w g S l bad) :
    Calls Try.prog 41 #[ptr g] w fun e w' => e = .returned (.tuple #[]) ∧ SAt w' g S [] true ∧ Fr (One g) w w' := by
  obtain ⟨v, h1, h2, h3, h4, h5⟩ := h
  have hc0 := h1.cell 0
  have hc1 := h1.cell 1
  have hf0 := h1.frozen 0
  have hf1 := h1.frozen 1
  have HB := Lib.hid h1
  simp at hc0 hc1
  clear h1 h2 h3 h5
  go_enter Try.func41, Try.ntmps41
  go_wp2
  go_end0
  refine ⟨rfl, ⟨.slice none 0 0, ?_, Bs.nil_ _, (fun k hk => by cases hk), h4, fun _ => rfl⟩, ((Fr.refl _ _).set1 _ _).set1 _ _⟩
  exact (HB.out.set 1 _).set 0 _

theorem SAt.step {w : World} {g : Nat} {S : Nat → Prop} {l l' : List UInt8} {bad : Bool} {v v' : Value} (hB : Blk w g 43 #[v, .bool bad]) (h3 : ∀ k, v.ownBlock = some k → ¬ S k) (h4 : S g)
    (h5 : bad = true → l = []) (hne : l ≠ []) (hbs : Bs w v' l') (hown : v'.ownBlock = v.ownBlock) : SAt (w.setCell ⟨g, 0, none⟩ v') g S l' false := by
  obtain rfl : bad = false := by cases bad with | true => exact absurd (h5 rfl) hne | false => rfl
  have hn : ∀ k, v'.ownBlock = some k → ¬ S k := fun k hk => h3 k (by rw [← hown]; exact hk)
  exact ⟨v', hB.set 0 _, hbs.fr ((Fr.refl (One g) w).set1 0 v') (fun k hk e => hn k hk (by rw [show k = g from e]; exact h4)), hn, h4, fun h => by cases h⟩

theorem or_sum {k acc x : Nat} (hk : k ≤ 9) (ha : acc < 128 ^ k) (hx : x < 128) (h9 : k = 9 → x ≤ 1) :
    IntKind.u64.wrap ((acc : Int) + IntKind.u64.wrap ((x : Int) * 2 ^ (7 * k))) = ((acc + x * 128 ^ k : Nat) : Int) := by
  have hle : (128 : Nat) ^ k ≤ 128 ^ 9 := Nat.pow_le_pow_right (by decide) hk
  rw [pow128_9] at hle
  have hlt : acc + x * 128 ^ k < 18446744073709551616 := by
    by_cases h : k = 9
    · subst h
      have := h9 rfl
      rw [pow128_9] at ha ⊢
      clear hle
      omega
    · have hle8 : (128 : Nat) ^ k ≤ 128 ^ 8 := Nat.pow_le_pow_right (by decide) (by omega)
      rw [pow128_8] at hle8
      have := Nat.mul_le_mul (show x ≤ 127 by omega) hle8
      omega
  rw [pow27, show ((x : Int) * ((128 ^ k : Nat) : Int)) = ((x * 128 ^ k : Nat) : Int) by push_cast; rfl, IntWalk.u64_in ((x * 128 ^ k : Nat) : Int) ⟨by omega, by omega⟩, IntWalk.u64_in _ ⟨by omega, by omega⟩]
  omega

set_option maxHeartbeats 1000000 in
set_option maxRecDepth 20000 in
theorem rsnum_any (g : Nat) (S : Nat → Prop) (l : List UInt8) (bad : Bool) (w : World) (h : SAt w g S l bad) (hl : l.length < 1000000000) :
    Calls Try.prog 54 #[ptr g] w fun e w' => e = .returned (.int .u64 (fstN l)) ∧ SAt w' g S (rest l) (fell l) ∧ Fr (One g) w w' := by
  have hfail := rfail_any g S l bad w h
  obtain ⟨v, h1, h2, h3, h4, h5⟩ := h
  have HBs := Lib.hid h2
  have H3 := Lib.hid h3
  obtain ⟨A, cap, rfl, hcap, hA, hcells⟩ := h2
  have hc0 := h1.cell 0
  have hf0 := h1.frozen 0
  have HB := Lib.hid h1
  have H5 := Lib.hid h5
  simp at hc0
  clear h1 h3 h5
  go_enter Try.func54, Try.ntmps54
  go_wp2
  go_loop [3, 4] (fun n i => ∃ k acc : Nat, k ≤ 9 ∧ k ≤ l.length ∧ i = .int .i64 k ∧ n = .int .u64 acc ∧ acc < 128 ^ k ∧ rd 0 0 l = rd k acc (l.drop k)) (fun _ i => l.length - (intOf i).toNat)
  case atStart => exact ⟨0, 0, by omega, by omega, rfl, rfl, by decide, by simp⟩
  case round =>
    obtain ⟨k, acc, hk9, hk, rfl, rfl, hacc, hrd⟩ := hrel
    by_cases hlt : k < l.length
    · obtain ⟨c, hc⟩ : ∃ c, l[k] = c := ⟨_, rfl⟩
      rw [drop_at hlt hc] at hrd
      cases A with
      | none => exact absurd (hA rfl) (by omega)
      | some a =>
        have hcell := hcells a rfl k hlt
        rw [hc] at hcell
        unfold bv at hcell
        clear hc hcells hA
        have hc256 : c.toNat < 256 := c.toNat_lt
        by_cases hbad : (k = 9 ∧ 1 < c.toNat) ∨ (0 < k ∧ c.toNat = 0)
        · have HN := Lib.hid (rest_none (hrd.trans (rd_bad hbad)))
          clear hrd hacc
          by_cases c0 : c.toNat = 0
          · obtain rfl : c = 0 := by apply UInt8.toNat_inj.1; simpa using c0
            have b1 : 0 < k := by rcases hbad with ⟨_, hb2⟩ | ⟨hb1, _⟩ <;> omega
            simp at hcell
            clear c0 hbad hc256
            by_cases b9 : 9 ≤ k
            all_goals
              go_wp2_with fail
              refine hfail.mono ?_
              rintro e w2 ⟨rfl, hs2, hf2⟩
              go_wp2
              go_ret
              rw [HN.out.1, HN.out.2.1, HN.out.2.2.1]
              exact ⟨rfl, hs2, hf2⟩
          · have b1 : 9 ≤ k := by omega
            have b2 : 1 < c.toNat := by omega
            clear c0 hbad
            go_wp2_with fail
            refine hfail.mono ?_
            rintro e w2 ⟨rfl, hs2, hf2⟩
            go_wp2
            go_ret
            rw [HN.out.1, HN.out.2.1, HN.out.2.2.1]
            exact ⟨rfl, hs2, hf2⟩
        · have hS := or_sum (x := c.toNat % 128) hk9 hacc (by omega) (by omega)
          rw [show ((c.toNat % 128 : Nat) : Int) = (c.toNat : Int) % 128 by omega] at hS
          by_cases c0 : c.toNat = 0
          · have HN := Lib.hid (rest_some (hrd.trans (rd_last hbad (by omega))))
            obtain rfl : c = 0 := by apply UInt8.toNat_inj.1; simpa using c0
            obtain rfl : k = 0 := by omega
            obtain rfl : acc = 0 := by omega
            obtain ⟨A', c', hrun, hbs', hown'⟩ := slice_lo (some a) l.length cap (0 + 1) .i64 1 (by omega) (by omega) hcap
            have HSL := Lib.hid (SAt.step (l' := l.drop (0 + 1)) HB.out H3.out h4 H5.out (by intro e; subst e; simp at hlt) (hbs' w l rfl HBs.out) hown')
            simp [Addr.add] at hcell
            clear c0 hbad hc256 hS hrd hacc hbs' hown'
            go_wp2_with fail
            go_ret
            rw [HN.out.1, HN.out.2.1, HN.out.2.2.1]
            exact ⟨by simp, HSL.out, (Fr.refl _ _).set1 _ _⟩
          · have b1 : 0 < c.toNat := by omega
            have b2 : ((c.toNat : Int) == 0) = false := by rw [beq_eq_false_iff_ne]; omega
            by_cases b3 : c.toNat < 128
            · have HN := Lib.hid (rest_some (hrd.trans (rd_last hbad b3)))
              by_cases b9 : k = 9
              · subst b9
                obtain ⟨A', c', hrun, hbs', hown'⟩ := slice_lo (some a) l.length cap (9 + 1) .i64 10 (by omega) (by omega) hcap
                have HSL := Lib.hid (SAt.step (l' := l.drop (9 + 1)) HB.out H3.out h4 H5.out (by intro e; subst e; simp at hlt) (hbs' w l rfl HBs.out) hown')
                have b4 : c.toNat ≤ 1 := by omega
                have HE := Lib.hid (show acc + c.toNat % 128 * 128 ^ 9 = acc + c.toNat * 128 ^ 9 by rw [show c.toNat % 128 = c.toNat by omega])
                rw [show (2 : Int) ^ (7 * 9) = 9223372036854775808 by decide, IntWalk.u64_in ((c.toNat : Int) % 128 * 9223372036854775808) ⟨by omega, by omega⟩] at hS
                simp [Addr.add] at hcell
                clear hbad c0 hrd hacc hbs' hown'
                go_wp2_with fail
                all_goals
                  go_ret
                  rw [HN.out.1, HN.out.2.1, HN.out.2.2.1, ← HE.out]
                  exact ⟨rfl, HSL.out, (Fr.refl _ _).set1 _ _⟩
              · obtain ⟨A', c', hrun, hbs', hown'⟩ := slice_lo (some a) l.length cap (k + 1) .i64 ((k : Int) + 1) (by omega) (by omega) hcap
                have HSL := Lib.hid (SAt.step (l' := l.drop (k + 1)) HB.out H3.out h4 H5.out (by intro e; subst e; simp at hlt) (hbs' w l rfl HBs.out) hown')
                have b4 : k < 9 := by omega
                have HE := Lib.hid (show acc + c.toNat % 128 * 128 ^ k = acc + c.toNat * 128 ^ k by rw [show c.toNat % 128 = c.toNat by omega])
                clear hbad c0 hrd hacc hbs' hown' b9
                go_wp2_with fail
                all_goals
                  go_ret
                  rw [HN.out.1, HN.out.2.1, HN.out.2.2.1, ← HE.out]
                  exact ⟨rfl, HSL.out, (Fr.refl _ _).set1 _ _⟩
            · have HN := Lib.hid (hrd.trans (rd_more hbad (by omega)))
              have b4 : k < 9 := by omega
              have b5 : 128 ≤ c.toNat := by omega
              have HA2 := Lib.hid (show acc + c.toNat % 128 * 128 ^ k < 128 ^ (k + 1) by
                have h2 : c.toNat % 128 ≤ 127 := by omega
                have h3 := Nat.mul_le_mul_right (128 ^ k) h2
                rw [Nat.pow_succ]; omega)
              have HE := Lib.hid (show acc + (c.toNat - 128) * 128 ^ k = acc + c.toNat % 128 * 128 ^ k by rw [show c.toNat - 128 = c.toNat % 128 by omega])
              clear hrd hacc hbad c0 b3
              go_wp2_with fail
              all_goals
                refine ⟨⟨k + 1, acc + c.toNat % 128 * 128 ^ k, by omega, by omega, by go_num, rfl, HA2.out, ?_⟩, by simp [intOf]; omega⟩
                rw [HN.out, HE.out]
    · have hd : l.drop k = [] := List.drop_eq_nil_of_le (by omega)
      rw [hd] at hrd
      have HN := Lib.hid (rest_none (hrd.trans rfl))
      clear hrd hacc hd hcells
      go_wp2_with fail
      refine hfail.mono ?_
      rintro e w2 ⟨rfl, hs2, hf2⟩
      go_wp2
      go_ret
      rw [HN.out.1, HN.out.2.1, HN.out.2.2.1]
      exact ⟨rfl, hs2, hf2⟩


/-- the blocks from B on -/
def GeS (B : Nat) : Nat → Prop := fun k => B ≤ k
theorem Src.drew {w : World} {g : Nat} {l : List UInt8} {bad : Bool} (h : Src w g l bad) : Src w.drew g l bad := h
theorem SAt.drew {w : World} {g : Nat} {S : Nat → Prop} {l : List UInt8} {bad : Bool} (h : SAt w g S l bad) : SAt w.drew g S l bad := h
theorem Src.drewN {w : World} {g : Nat} {l : List UInt8} {bad : Bool} (h : Src w g l bad) (n : Nat) : Src (w.drewN n) g l bad := h
theorem SAt.drewN {w : World} {g : Nat} {S : Nat → Prop} {l : List UInt8} {bad : Bool} (h : SAt w g S l bad) (n : Nat) : SAt (w.drewN n) g S l bad := h

end Go.Proofs.Ytoaeiokjaikalaa


namespace Go.Proofs.Ytoaeiokjaikalaa
set_option linter.unusedVariables false
set_option linter.unusedSimpArgs false
set_option maxRecDepth 100000
open Go.RowKit

theorem fell_zero {l : List UInt8} (h : fell l = true) : fstN l = 0 ∧ rest l = [] := by
  cases hr : rd 0 0 l with
  | none => exact ⟨(rest_none hr).2.2.1, (rest_none hr).1⟩
  | some p => obtain ⟨n, r⟩ := p; rw [(rest_some hr).2.1] at h; cases h

theorem rest_le (l : List UInt8) : (rest l).length ≤ l.length := by
  cases hr : rd 0 0 l with
  | none => rw [(rest_none hr).1]; simp
  | some p => obtain ⟨n, r⟩ := p; rw [(rest_some hr).1]; exact Nat.le_of_lt (rd_len (by omega) hr)

theorem SAt.cells {w : World} {g : Nat} {S : Nat → Prop} {l : List UInt8} {bad : Bool} (h : SAt w g S l bad) :
    ∃ A c, w.cell? ⟨g, 0, none⟩ = some (.slice A l.length c) ∧ w.cell? ⟨g, 1, none⟩ = some (.bool bad) ∧ w.frozen? ⟨g, 0, none⟩ = false ∧ l.length ≤ c ∧
      Blk w g 43 #[.slice A l.length c, .bool bad] ∧ Bs w (.slice A l.length c) l ∧ (∀ k, (Value.slice A l.length c).ownBlock = some k → ¬ S k) ∧ S g := by
  obtain ⟨v, h1, h2, h3, h4, h5⟩ := h
  have hh := h2
  obtain ⟨A, c, rfl, hc, _, _⟩ := h2
  exact ⟨A, c, h1.cell 0, h1.cell 1, h1.frozen 0, hc, h1, hh, h3, h4⟩

set_option maxHeartbeats 1000000 in
theorem rbelow_any (g : Nat) (S : Nat → Prop) (l : List UInt8) (bad : Bool) (n : Int) (w : World) (h : SAt w g S l bad) (hl : l.length < 1000000000) (hn : n ≤ 9223372036854775807) :
    Calls Try.prog 39 #[ptr g, .int .i64 n] w fun e w' => e = .returned (.int .i64 (mostV l (n - 1))) ∧ SAt w' g S (mostR l (n - 1)) (mostB l (n - 1)) ∧ Fr (One g) w w' := by
  have h0 := rsnum_any g S l bad w h hl
  have Hl := Lib.hid (fstN_lt l)
  clear h
  by_cases hok : fell l = false ∧ 1 ≤ n ∧ (fstN l : Int) < n
  · obtain ⟨ok1, ok2, ok3⟩ := hok
    have HV : Hid (mostV l (n - 1) = fstN l ∧ mostR l (n - 1) = rest l ∧ mostB l (n - 1) = fell l) := by
      unfold mostV mostR mostB mostOk
      rw [decide_eq_true ⟨by omega, by omega⟩]; exact ⟨rfl, rfl, rfl⟩
    rw [ok1] at h0
    have HF := Lib.hid ok1
    have hwr : IntKind.u64.wrap n = n := IntWalk.u64_in _ ⟨by omega, by omega⟩
    have hwi : IntKind.i64.wrap (fstN l) = fstN l := IntWalk.i64_in _ ⟨by omega, by omega⟩
    clear hn ok1
    go_enter Try.func39, Try.ntmps39
    go_wp2_with fail
    refine h0.mono ?_
    rintro e w' ⟨rfl, hs, hf⟩
    obtain ⟨A, c, c0, c1, f0, _⟩ := hs.cells
    go_wp2
    go_ret
    rw [HV.out.1, HV.out.2.1, HV.out.2.2, HF.out]
    exact ⟨rfl, hs, hf⟩
  · have HV : Hid (mostV l (n - 1) = 0 ∧ mostR l (n - 1) = [] ∧ mostB l (n - 1) = true) := by
      unfold mostV mostR mostB mostOk
      cases hf : fell l with
      | true => have := fell_zero hf; refine ⟨?_, ?_, ?_⟩ <;> split <;> first | rfl | exact this.1 | exact this.2
      | false => rw [decide_eq_false (by rw [hf] at hok; simp at hok; omega)]; exact ⟨rfl, rfl, rfl⟩
    have hwr : 1 ≤ n → IntKind.u64.wrap n = n := fun _ => IntWalk.u64_in _ ⟨by omega, by omega⟩
    cases hf : fell l with
    | true =>
      rw [hf] at h0
      clear hn hok hwr
      have HF := Lib.hid hf; clear hf
      go_enter Try.func39, Try.ntmps39
      go_wp2_with fail
      refine h0.mono ?_
      rintro e w' ⟨rfl, hs, hf⟩
      obtain ⟨A, c, c0, c1, f0, _⟩ := hs.cells
      go_wp2_with fail
      refine (rfail_any g S _ _ _ hs).mono ?_
      rintro e w2 ⟨rfl, hs2, hf2⟩
      go_wp2
      go_ret
      rw [HV.out.1, HV.out.2.1, HV.out.2.2]
      exact ⟨rfl, hs2, hf.trans hf2⟩
    | false =>
      rw [hf] at h0 hok
      have HF := Lib.hid hf; clear hf
      by_cases hneg : n < 1
      · clear hn hok hwr
        go_enter Try.func39, Try.ntmps39
        go_wp2_with fail
        refine h0.mono ?_
        rintro e w' ⟨rfl, hs, hf⟩
        obtain ⟨A, c, c0, c1, f0, _⟩ := hs.cells
        go_wp2_with fail
        refine (rfail_any g S _ _ _ hs).mono ?_
        rintro e w2 ⟨rfl, hs2, hf2⟩
        go_wp2
        go_ret
        rw [HV.out.1, HV.out.2.1, HV.out.2.2]
        exact ⟨rfl, hs2, hf.trans hf2⟩
      · have hge : n ≤ (fstN l : Int) := by simp at hok; omega
        have hwr' := hwr (by omega)
        clear hn hok hwr
        go_enter Try.func39, Try.ntmps39
        go_wp2_with fail
        refine h0.mono ?_
        rintro e w' ⟨rfl, hs, hf⟩
        obtain ⟨A, c, c0, c1, f0, _⟩ := hs.cells
        go_wp2_with fail
        refine (rfail_any g S _ _ _ hs).mono ?_
        rintro e w2 ⟨rfl, hs2, hf2⟩
        go_wp2
        go_ret
        rw [HV.out.1, HV.out.2.1, HV.out.2.2]
        exact ⟨rfl, hs2, hf.trans hf2⟩

set_option maxHeartbeats 1000000 in
theorem rtakeO_any (g : Nat) (S : Nat → Prop) (l : List UInt8) (bad : Bool) (n : Int) (w : World) (h : SAt w g S l bad) (hl : l.length < 1000000000) :
    Calls Try.prog 55 #[ptr g, .int .i64 n] w fun e w' => ∃ v, e = .returned v ∧ Own w' w.heap.size v (cutT l n) ∧ SAt w' g S (cutR l n) (cutB l bad n) ∧ Fr (One g) w w' := by
  have hfail := rfail_any g S l bad w h
  obtain ⟨A, c, c0, c1, f0, hc, hB, hBs, hS, hSg⟩ := h.cells
  have H5 := Lib.hid (show bad = true → l = [] by obtain ⟨v, _, _, _, _, h5⟩ := h; exact h5)
  have HB := Lib.hid hB
  have HBs := Lib.hid hBs
  have HS := Lib.hid hS
  clear h hB hBs hS
  by_cases hok : bad = false ∧ 0 ≤ n ∧ n ≤ l.length
  · obtain ⟨rfl, h0, h1⟩ := hok
    obtain ⟨k, rfl⟩ := Int.eq_ofNat_of_zero_le h0
    have hk : k ≤ l.length := by omega
    have HV : Hid (cutT l k = l.take k ∧ cutR l k = l.drop k ∧ cutB l false k = false) := by
      unfold cutT cutR cutB cutOk
      rw [decide_eq_true (by omega)]; exact ⟨rfl, rfl, rfl⟩
    obtain ⟨A1, d1, hrun1, hbs1, hown1⟩ := slice_hi A l.length c k .i64 (k : Int) rfl hk hc
    obtain ⟨A2, d2, hrun2, hbs2, hown2⟩ := slice_lo A l.length c k .i64 (k : Int) rfl hk hc
    have HB1 := Lib.hid (fun W h => hbs1 W l rfl h)
    have HB2 := Lib.hid (fun W h => hbs2 W l rfl h)
    have HO2 := Lib.hid hown2
    clear hbs1 hbs2 hown1 hown2 hfail
    have hbe : Own (w.alloc (.cells #[] 5)) w.heap.size (.slice (some ⟨w.heap.size, 0, none⟩) 0 0) [] := World.ownsRow_made w #[] 0 (Nat.le_refl _) (by unfold maxLen; omega) rfl
    have hfa : Fr Non w (w.alloc (.cells #[] 5)) := (Fr.refl _ _).alloc _
    have hg := HB.out.lt
    go_enter Try.func55, Try.ntmps55
    go_wp2_with (at_builtin; refine wpList_app rfl (.tmp 25) (.tmp 31) rfl w.heap.size _ _ [] (l.take k) rfl hbe rfl (HB1.out _ (HBs.out.non hfa)) (by simp; omega) (by simp) ?_; intro v3 w3 hown3 hfr3; have hfn := hfa.fresh hfr3 (fun k hk => (hbe.lt k hk).1); have hB3 := Lib.hid (HB.out.fr hfn (fun e => e)); have hBs3 := Lib.hid (HBs.out.non hfn); have c03 := hB3.out.cell 0; have f03 := hB3.out.frozen 0; simp at c03)
    go_ret
    rw [HV.out.1, HV.out.2.1, HV.out.2.2]
    have hl' : 0 < l.length ∨ l = [] := by cases l <;> simp
    refine ⟨v3, rfl, ?_, ?_, (hfn.any).set1 _ _⟩
    · have hne : ∀ q, v3.ownBlock = some q → ¬ One g q := fun q hq e => by
        have := (hown3.lt q hq).1
        rw [show q = g from e] at this
        omega
      simpa using hown3.fr ((Fr.refl (One g) _).set1 0 _) hne
    · have hn : ∀ q, (Value.slice A2 (l.length - k) d2).ownBlock = some q → ¬ S q := fun q hq => HS.out q (by rw [← HO2.out]; exact hq)
      exact ⟨_, hB3.out.set 0 _, (HB2.out w3 hBs3.out).fr ((Fr.refl (One g) _).set1 0 _) (fun q hq e => hn q hq (by rw [show q = g from e]; exact hSg)), hn, hSg, fun h => by cases h⟩
  · have HV : Hid (cutT l n = [] ∧ cutR l n = [] ∧ cutB l bad n = true) := by
      cases hb : bad with
      | true =>
        have hl0 := H5.out hb
        subst hl0
        unfold cutT cutR cutB cutOk
        refine ⟨?_, ?_, ?_⟩ <;> split <;> simp
      | false =>
        unfold cutT cutR cutB cutOk
        rw [decide_eq_false (by rw [hb] at hok; simp at hok; omega)]; exact ⟨rfl, rfl, rfl⟩
    cases bad
    · by_cases hneg : n < 0
      · clear hok
        go_enter Try.func55, Try.ntmps55
        go_wp2_with fail
        refine hfail.mono ?_
        rintro e w2 ⟨rfl, hs2, hf2⟩
        go_wp2
        go_ret
        rw [HV.out.1, HV.out.2.1, HV.out.2.2]
        exact ⟨.slice none 0 0, rfl, own_nil _ _, hs2, hf2⟩
      · have hbig : (l.length : Int) < n := by simp at hok; omega
        clear hok
        go_enter Try.func55, Try.ntmps55
        go_wp2_with fail
        refine hfail.mono ?_
        rintro e w2 ⟨rfl, hs2, hf2⟩
        go_wp2
        go_ret
        rw [HV.out.1, HV.out.2.1, HV.out.2.2]
        exact ⟨.slice none 0 0, rfl, own_nil _ _, hs2, hf2⟩
    · clear hok
      go_enter Try.func55, Try.ntmps55
      go_wp2_with fail
      refine hfail.mono ?_
      rintro e w2 ⟨rfl, hs2, hf2⟩
      go_wp2
      go_ret
      rw [HV.out.1, HV.out.2.1, HV.out.2.2]
      exact ⟨.slice none 0 0, rfl, own_nil _ _, hs2, hf2⟩

theorem rtake_any (g : Nat) (S : Nat → Prop) (l : List UInt8) (bad : Bool) (n : Int) (w : World) (h : SAt w g S l bad) (hl : l.length < 1000000000) :
    Calls Try.prog 55 #[ptr g, .int .i64 n] w fun e w' => ∃ v, e = .returned v ∧ Bs w' v (cutT l n) ∧ (∀ k, v.ownBlock = some k → w.heap.size ≤ k) ∧ SAt w' g S (cutR l n) (cutB l bad n) ∧ Fr (One g) w w' := by
  refine (rtakeO_any g S l bad n w h hl).mono ?_
  rintro e w' ⟨v, rfl, h1, h2, h3⟩
  exact ⟨v, rfl, h1.bs, fun k hk => (h1.lt k hk).1, h2, h3⟩

end Go.Proofs.Ytoaeiokjaikalaa


namespace Go.Proofs.Ytoaeiokjaikalaa
set_option linter.unusedVariables false
set_option linter.unusedSimpArgs false
set_option maxRecDepth 100000
open Go.RowKit

/-- no table may have c -/
def badC (c : Co) : Bool := !(nameB c.name && isTy c.ty)
def namesC (l : List Co) : List Tx := l.map Co.name
/-- what is wrong with l: 0, nothing; 1, 4 -/
def chkC (l : List Co) : Int := if l.length = 0 ∨ l.any badC = true ∨ ¬ (namesC l).Nodup then 1 else if 6 < l.length then 4 else 0
theorem chk_bad {l : List Co} {k : Nat} (h : k < l.length) (hb : badC l[k] = true) : chkC l = 1 := if_pos (.inr (.inl (List.any_eq_true.2 ⟨_, List.getElem_mem h, hb⟩)))
theorem chk_any {l : List Co} (hb : l.any badC = true) : chkC l = 1 := if_pos (.inr (.inl hb))
theorem chk_dup {l : List Co} (h : ¬ (namesC l).Nodup) : chkC l = 1 := if_pos (.inr (.inr h))
theorem chk_none {l : List Co} (h : l.length = 0) : chkC l = 1 := if_pos (.inl h)
theorem chk_many {l : List Co} (h0 : ¬ l.length = 0) (h1 : l.any badC = false) (h2 : (namesC l).Nodup) (h3 : 6 < l.length) : chkC l = 4 := by
  unfold chkC; rw [if_neg (by rintro (h | h | h); exact h0 h; rw [h1] at h; cases h; exact h h2), if_pos h3]
theorem chk_ok {l : List Co} (h0 : ¬ l.length = 0) (h1 : l.any badC = false) (h2 : (namesC l).Nodup) (h3 : ¬ 6 < l.length) : chkC l = 0 := by
  unfold chkC; rw [if_neg (by rintro (h | h | h); exact h0 h; rw [h1] at h; cases h; exact h h2), if_neg h3]
theorem chk_is {l : List Co} (h : chkC l = 0) : ¬ l.length = 0 ∧ l.any badC = false ∧ (namesC l).Nodup ∧ l.length ≤ 6 := by
  unfold chkC at h
  split at h
  · cases h
  · rename_i h1
    split at h
    · cases h
    · refine ⟨fun e => h1 (.inl e), ?_, ?_, by omega⟩
      · cases hb : l.any badC
        · rfl
        · exact absurd (.inr (.inl hb)) h1
      · exact Classical.byContradiction fun e => h1 (.inr (.inr e))
/-- the names up to k are unlike, and so is k's -/
theorem nodup_more {l : List Co} {k : Nat} (h : k < l.length) (h1 : (namesC (l.take k)).Nodup) (h2 : ∀ j (hj : j < l.length), j < k → l[j].name ≠ l[k].name) : (namesC (l.take (k + 1))).Nodup := by
  unfold namesC
  rw [List.take_succ_eq_append_getElem h, List.map_append, List.nodup_append]
  refine ⟨h1, by simp, ?_⟩
  intro a ha b hb
  obtain ⟨c, hc, rfl⟩ := List.mem_map.1 ha
  obtain rfl : l[k].name = b := by rw [List.map_cons, List.map_nil, List.mem_singleton] at hb; exact hb.symm
  obtain ⟨j, hj, rfl⟩ := List.mem_iff_getElem.1 hc
  rw [List.length_take] at hj
  rw [List.getElem_take]
  exact h2 j (by omega) (by omega)
theorem nodup_not {l : List Co} {j k : Nat} (hk : k < l.length) (hj : j < k) (h : l[j].name = l[k].name) : ¬ (namesC l).Nodup := by
  intro hn
  have h1 : (namesC l)[j]'(by unfold namesC; rw [List.length_map]; omega) = (namesC l)[k]'(by unfold namesC; rw [List.length_map]; omega) := by
    unfold namesC; rw [List.getElem_map, List.getElem_map]; exact h
  have := (List.getElem_inj hn).1 h1
  omega
theorem any_more {l : List Co} {k : Nat} (h : k < l.length) (h1 : (l.take k).any badC = false) (h2 : badC l[k] = false) : (l.take (k + 1)).any badC = false := by
  rw [List.take_succ_eq_append_getElem h, List.any_append, h1]; simp [h2]

theorem ne_more {l : List Co} {n : Tx} {k : Nat} (h : k < l.length) (ha : ∀ j (hj : j < l.length), j < k → l[j].name ≠ n) (hb : l[k].name ≠ n) : ∀ j (hj : j < l.length), j < k + 1 → l[j].name ≠ n := by
  intro j hj hlt
  by_cases e : j = k
  · subst e; exact hb
  · exact ha j hj (by omega)

end Go.Proofs.Ytoaeiokjaikalaa


namespace Go.Proofs.Ytoaeiokjaikalaa
set_option linter.unusedVariables false
set_option linter.unusedSimpArgs false
set_option maxRecDepth 100000
open Go.RowKit

theorem mostR_sm (l : List UInt8) (m : Int) : (mostR l m).length ≤ l.length := by
  unfold mostR
  split
  · exact rest_le l
  · simp

theorem most_own {n : Nat} {m : Int} (hn : (n : Int) ≤ m) (h2 : n < two64) (r : List UInt8) : mostV (Lib.uvarint n ++ r) m = n ∧ mostR (Lib.uvarint n ++ r) m = r ∧ mostB (Lib.uvarint n ++ r) m = false := by
  obtain ⟨h1, h3, h4, _⟩ := rest_some (rd_own h2 r)
  have hm : mostOk (Lib.uvarint n ++ r) m = true := decide_eq_true ⟨by omega, by rw [h4]; exact hn⟩
  unfold mostV mostR mostB
  rw [hm]
  simp only [if_true, h1, h3, h4]
  exact ⟨trivial, trivial, trivial⟩
theorem rep_at {α : Type} (D : List α) (m : Nat) (z : α) (h : 0 < m) : (D ++ List.replicate m z)[D.length]? = some z := by
  rw [List.getElem?_append_right (Nat.le_refl _), Nat.sub_self, List.getElem?_replicate, if_pos h]
theorem rep_set {α : Type} (D : List α) (m : Nat) (z x : α) (h : 0 < m) : (D ++ List.replicate m z).set D.length x = (D ++ [x]) ++ List.replicate (m - 1) z := by
  obtain ⟨q, rfl⟩ : ∃ q, m = q + 1 := ⟨m - 1, by omega⟩
  rw [List.set_append_right _ _ (Nat.le_refl _), Nat.sub_self, List.replicate_succ, List.set_cons_zero]; simp
end Go.Proofs.Ytoaeiokjaikalaa


namespace Go.Proofs.Ytoaeiokjaikalaa
set_option linter.unusedVariables false
set_option linter.unusedSimpArgs false
set_option maxRecDepth 100000
open Go.RowKit

/-- what a column is, beside its name, as a number -/
def numK (c : Co) : Nat := 2 * c.ty.toNat + (if c.nl then 1 else 0)
def colB (c : Co) : List UInt8 := textB c.name ++ Lib.uvarint (numK c)
def colsB (l : List Co) : List UInt8 := Lib.uvarint l.length ++ l.flatMap colB
theorem colB_take {l : List Co} {k : Nat} (h : k < l.length) : (l.take (k + 1)).flatMap colB = ((l.take k).flatMap colB ++ textB l[k].name) ++ Lib.uvarint (numK l[k]) := by
  rw [List.take_succ_eq_append_getElem h, List.flatMap_append]
  simp [colB]

/-- columns that may be, each -/
structure CoOk (c : Co) : Prop where
  lo : 1 ≤ c.ty
  hi : c.ty ≤ 3
  len : c.name.length ≤ 12
theorem isTy_bd {ty : Int} (h : isTy ty = true) : 1 ≤ ty ∧ ty ≤ 3 := by simp [isTy] at h; omega
theorem badC_ok {c : Co} (h : badC c = false) : CoOk c := by
  unfold badC at h
  have h1 : nameB c.name = true ∧ isTy c.ty = true := by revert h; cases nameB c.name <;> cases isTy c.ty <;> simp
  obtain ⟨b1, b2⟩ := isTy_bd h1.2
  exact ⟨b1, b2, (of_decide_eq_true h1.1).2.1⟩
theorem chk_each {l : List Co} (h : chkC l = 0) : ∀ c ∈ l, CoOk c := by
  intro c hc
  have h1 := (chk_is h).2.1
  refine badC_ok ?_
  cases hb : badC c
  · rfl
  · rw [List.any_eq_true.2 ⟨c, hc, hb⟩] at h1; cases h1
theorem CoOk.num {c : Co} (h : CoOk c) : numK c ≤ 7 := by
  obtain ⟨h1, h2, _⟩ := h
  unfold numK; split <;> omega
theorem colB_len {c : Co} (h : CoOk c) : (colB c).length ≤ 32 := by
  have h1 := Lib.uvarint_length64 (show c.name.length < 18446744073709551616 by have := h.len; omega)
  have h2 := Lib.uvarint_length64 (show numK c < 18446744073709551616 by have := h.num; omega)
  have := h.len
  unfold colB textB
  simp only [List.length_append]
  omega
theorem flatK_len {l : List Co} (h : ∀ c ∈ l, CoOk c) : (l.flatMap colB).length ≤ 32 * l.length := by
  induction l with
  | nil => simp
  | cons c l ih =>
    rw [List.flatMap_cons, List.length_append, List.length_cons]
    have h1 := colB_len (h c (by simp))
    have h2 := ih fun x hx => h x (by simp [hx])
    omega

/-! ### What is read -/
/-- one column read: it, what is left, whether the source failed -/
def rdCo (l : List UInt8) : Co × List UInt8 × Bool := (⟨txtT l 12, (mostV (txtR l 12) 7 / 2 : Nat), decide (mostV (txtR l 12) 7 % 2 = 1)⟩, mostR (txtR l 12) 7, mostB (txtR l 12) 7)
/-- so many read -/
def rdCs : Nat → List UInt8 → Bool → List Co × List UInt8 × Bool
  | 0, l, b => ([], l, b)
  | n + 1, l, _ => ((rdCo l).1 :: (rdCs n (rdCo l).2.1 (rdCo l).2.2).1, (rdCs n (rdCo l).2.1 (rdCo l).2.2).2)
/-- columns read, whichever -/
def rdK (l : List UInt8) : List Co × List UInt8 × Bool := rdCs (mostV l 6) (mostR l 6) (mostB l 6)
/-- columns read that a table may have -/
def tkK (l : List UInt8) : List Co × List UInt8 × Bool := if (rdK l).2.2 = false ∧ chkC (rdK l).1 = 0 then rdK l else ([], [], true)
theorem tkK_yes {l : List UInt8} (h1 : (rdK l).2.2 = false) (h2 : chkC (rdK l).1 = 0) : tkK l = rdK l := by unfold tkK; rw [if_pos ⟨h1, h2⟩]
theorem tkK_bad {l : List UInt8} (h1 : (rdK l).2.2 = true) : tkK l = ([], [], true) := by unfold tkK; rw [if_neg (by rw [h1]; simp)]
theorem tkK_not {l : List UInt8} (h1 : ¬ chkC (rdK l).1 = 0) : tkK l = ([], [], true) := by unfold tkK; rw [if_neg (fun h => h1 h.2)]
theorem mostK_le (l : List UInt8) {m : Int} (hm : 0 ≤ m) : (mostV l m : Int) ≤ m := by
  unfold mostV
  split
  · rename_i h; exact (of_decide_eq_true h).2
  · exact hm
theorem most_nil (m : Int) : mostV [] m = 0 ∧ mostR [] m = [] ∧ mostB [] m = true := by
  unfold mostV mostR mostB
  split <;> exact ⟨rfl, rfl, rfl⟩
theorem txtR_nil : txtR [] 12 = [] := by
  unfold txtR cutR
  rw [(most_nil 12).2.1]; split <;> simp
theorem rdCo_nil : (rdCo []).2 = ([], true) := by
  unfold rdCo
  rw [txtR_nil, (most_nil 7).2.1, (most_nil 7).2.2]
/-- a source that failed: it stays so -/
theorem rdCs_bad (n : Nat) : (rdCs n [] true).2 = ([], true) := by
  induction n with
  | zero => rfl
  | succ n ih =>
    show (rdCs n (rdCo []).2.1 (rdCo []).2.2).2 = _
    rw [rdCo_nil]; exact ih
theorem txtR_sm (l : List UInt8) : (txtR l 12).length ≤ l.length := by
  have := mostR_sm l 12
  unfold txtR cutR
  split
  · rw [List.length_drop]; omega
  · simp

/-- behind k of n columns: D are read, q is left -/
structure ToK (n : Nat) (l : List UInt8) (b : Bool) (k : Nat) (D : List Co) (q : List UInt8) (bad : Bool) : Prop where
  len : D.length = k
  one : (rdCs n l b).1 = D ++ (rdCs (n - k) q bad).1
  two : (rdCs n l b).2 = (rdCs (n - k) q bad).2
theorem toK_zero (n : Nat) (l : List UInt8) (b : Bool) : ToK n l b 0 [] l b := ⟨rfl, rfl, rfl⟩
theorem toK_step {n : Nat} {l : List UInt8} {b : Bool} {k : Nat} {D : List Co} {q : List UInt8} {bad : Bool} (h : ToK n l b k D q bad) (hk : k < n) : ToK n l b (k + 1) (D ++ [(rdCo q).1]) (rdCo q).2.1 (rdCo q).2.2 := by
  obtain ⟨h0, h1, h2⟩ := h
  obtain ⟨m, hm⟩ : ∃ m, n - k = m + 1 := ⟨n - k - 1, by omega⟩
  have hm2 : n - (k + 1) = m := by omega
  rw [hm] at h1 h2
  refine ⟨by simp [h0], ?_, ?_⟩
  · rw [h1, hm2]; simp [rdCs]
  · rw [h2, hm2]; rfl
theorem toK_end {n : Nat} {l : List UInt8} {b : Bool} {k : Nat} {D : List Co} {q : List UInt8} {bad : Bool} (h : ToK n l b k D q bad) (hk : k = n) : (rdCs n l b).1 = D ∧ (rdCs n l b).2.1 = q ∧ (rdCs n l b).2.2 = bad := by
  subst hk
  obtain ⟨h0, h1, h2⟩ := h
  rw [Nat.sub_self] at h1 h2
  refine ⟨by rw [h1]; simp [rdCs], by rw [h2]; rfl, by rw [h2]; rfl⟩
theorem toK_fail {n : Nat} {l : List UInt8} {b : Bool} {k : Nat} {D : List Co} {q : List UInt8} {bad : Bool} (h : ToK n l b k D q bad) (hb : bad = true) (hq : bad = true → q = []) : (rdCs n l b).2.2 = true := by
  obtain ⟨h0, h1, h2⟩ := h
  have hq' := hq hb
  subst hb
  rw [hq', rdCs_bad] at h2
  rw [h2]

theorem txtK_len (l : List UInt8) : (txtT l 12).length ≤ 12 := by
  have h := mostK_le l (show (0 : Int) ≤ 12 by omega)
  unfold txtT cutT
  split
  · rw [List.length_take]; omega
  · simp
theorem rdCs_len (n : Nat) (l : List UInt8) (b : Bool) : (rdCs n l b).1.length = n := by
  induction n generalizing l b with
  | zero => rfl
  | succ n ih =>
    show ((rdCo l).1 :: (rdCs n (rdCo l).2.1 (rdCo l).2.2).1).length = _
    rw [List.length_cons, ih]
theorem rdCs_names (n : Nat) (l : List UInt8) (b : Bool) : ∀ c ∈ (rdCs n l b).1, c.name.length ≤ 12 := by
  induction n generalizing l b with
  | zero => intro c hc; cases hc
  | succ n ih =>
    intro c hc
    have hc' : c ∈ (rdCo l).1 :: (rdCs n (rdCo l).2.1 (rdCo l).2.2).1 := hc
    rcases List.mem_cons.1 hc' with rfl | h
    · exact txtK_len l
    · exact ih _ _ c h
theorem rdK_small (l : List UInt8) : (rdK l).1.length ≤ 6 ∧ ∀ c ∈ (rdK l).1, c.name.length ≤ 1000000000 := by
  have h := mostK_le l (show (0 : Int) ≤ 6 by omega)
  unfold rdK
  rw [rdCs_len]
  exact ⟨by omega, fun c hc => by have := rdCs_names _ _ _ c hc; omega⟩

/-! ### What is put is taken -/
theorem rdCo_own {c : Co} (h : CoOk c) (r : List UInt8) : rdCo (colB c ++ r) = (c, r, false) := by
  obtain ⟨n, ty, nl⟩ := c
  have h1 := h.lo; have h2 := h.hi; have h3 := h.len; have h7 := h.num
  dsimp only at h1 h2 h3
  obtain ⟨x1, x2, x3⟩ := txt_own (t := n) (r := Lib.uvarint (numK ⟨n, ty, nl⟩) ++ r) (m := 12) (by omega) (by unfold two64; omega)
  obtain ⟨y1, y2, y3⟩ := most_own (n := numK ⟨n, ty, nl⟩) (m := 7) (by omega) (by unfold two64; omega) r
  unfold rdCo colB
  dsimp only
  rw [List.append_assoc, x1, x2, y1, y2, y3]
  have e1 : ((numK ⟨n, ty, nl⟩ / 2 : Nat) : Int) = ty := by unfold numK; dsimp only; split <;> omega
  have e2 : decide (numK ⟨n, ty, nl⟩ % 2 = 1) = nl := by
    unfold numK; dsimp only
    cases nl
    · rw [if_neg (by simp)]; exact decide_eq_false (by omega)
    · rw [if_pos rfl]; exact decide_eq_true (by omega)
  rw [e1, e2]
theorem rdCs_own {l : List Co} (h : ∀ c ∈ l, CoOk c) (r : List UInt8) (b : Bool) (hb : b = false) : rdCs l.length (l.flatMap colB ++ r) b = (l, r, false) := by
  induction l generalizing b with
  | nil => subst hb; rfl
  | cons c l ih =>
    rw [List.flatMap_cons, List.append_assoc, List.length_cons]
    unfold rdCs
    rw [rdCo_own (h c (by simp))]
    dsimp only
    rw [ih (fun x hx => h x (by simp [hx])) _ rfl]
theorem tkK_own {l : List Co} (h : chkC l = 0) : tkK (colsB l) = (l, [], false) := by
  have hl := (chk_is h).2.2.2
  have h0 : rdK (colsB l) = (l, [], false) := by
    unfold rdK colsB
    obtain ⟨y1, y2, y3⟩ := most_own (n := l.length) (m := 6) (by omega) (by unfold two64; omega) (l.flatMap colB)
    rw [y1, y2, y3]
    have := rdCs_own (chk_each h) [] false rfl
    rw [List.append_nil] at this
    exact this
  rw [tkK_yes (by rw [h0]) (by rw [h0]; exact h), h0]
end Go.Proofs.Ytoaeiokjaikalaa


namespace Go.Proofs.Ytoaeiokjaikalaa
set_option linter.unusedVariables false
set_option linter.unusedSimpArgs false
set_option maxRecDepth 100000
open Go.RowKit

set_option maxHeartbeats 1000000 in
theorem rstext_any (g : Nat) (S : Nat → Prop) (l : List UInt8) (bad : Bool) (m : Int) (w : World) (h : SAt w g S l bad) (hl : l.length < 1000000000) (hm : m ≤ 9223372036854775807) :
    Calls Try.prog 40 #[ptr g, .int .i64 m] w fun e w' => e = .returned (.string ⟨(txtT l m).toArray⟩) ∧ SAt w' g S (txtR l m) (txtB l m) ∧ Fr (One g) w w' := by
  have hfail := rfail_any g S l bad w h
  have h0 := rsnum_any g S l bad w h hl
  have Hl := Lib.hid (fstN_lt l)
  clear h
  by_cases hneg : m < 0
  · have HV : Hid (txtT l m = [] ∧ txtR l m = [] ∧ txtB l m = true) := by
      have hk : mostOk l m = false := decide_eq_false (by omega)
      unfold txtT txtR txtB mostV mostR mostB
      rw [hk]; exact ⟨rfl, rfl, rfl⟩
    clear hm
    go_enter Try.func40, Try.ntmps40
    go_wp2_with fail
    refine hfail.mono ?_
    rintro e w2 ⟨rfl, hs2, hf2⟩
    go_wp2
    go_ret
    rw [HV.out.1, HV.out.2.1, HV.out.2.2]
    exact ⟨rfl, hs2, hf2⟩
  · have hwr : IntKind.u64.wrap m = m := IntWalk.u64_in _ ⟨by omega, by omega⟩
    cases hf : fell l with
    | true =>
      have HV : Hid (txtT l m = [] ∧ txtR l m = [] ∧ txtB l m = true) := by
        have hz := fell_zero hf
        have hk : mostOk l m = true := decide_eq_true (by rw [hz.1]; omega)
        unfold txtT txtR txtB mostV mostR mostB
        rw [hk]; simp only [if_true, hz.1, hz.2, hf]; exact ⟨rfl, rfl, rfl⟩
      rw [hf] at h0
      clear hm hf
      go_enter Try.func40, Try.ntmps40
      go_wp2_with fail
      refine h0.mono ?_
      rintro e w1 ⟨rfl, hs1, hf1⟩
      obtain ⟨A, c, c0, c1, f0, _⟩ := hs1.cells
      go_wp2_with fail
      refine (rfail_any g S _ _ _ hs1).mono ?_
      rintro e w2 ⟨rfl, hs2, hf2⟩
      go_wp2
      go_ret
      rw [HV.out.1, HV.out.2.1, HV.out.2.2]
      exact ⟨rfl, hs2, hf1.trans hf2⟩
    | false =>
      rw [hf] at h0
      by_cases hle : (fstN l : Int) ≤ m
      · have hk : mostOk l m = true := decide_eq_true ⟨by omega, hle⟩
        have hw2 : IntKind.u64.wrap ((rest l).length : Int) = (rest l).length := IntWalk.u64_in _ ⟨by omega, by have := rest_le l; omega⟩
        by_cases hfit : fstN l ≤ (rest l).length
        · have hwi : IntKind.i64.wrap (fstN l) = fstN l := IntWalk.i64_in _ ⟨by omega, by omega⟩
          have HV : Hid (txtT l m = cutT (rest l) (fstN l) ∧ txtR l m = cutR (rest l) (fstN l) ∧ txtB l m = cutB (rest l) false (fstN l)) := by
            unfold txtT txtR txtB mostV mostR mostB
            rw [hk]; simp only [if_true, hf]; exact ⟨trivial, trivial, trivial⟩
          have hrl := rest_le l
          clear hm hf hk
          go_enter Try.func40, Try.ntmps40
          go_wp2_with fail
          refine h0.mono ?_
          rintro e w1 ⟨rfl, hs1, hf1⟩
          obtain ⟨A, c, c0, c1, f0, _⟩ := hs1.cells
          go_wp2_with fail
          refine (rtake_any g S _ _ _ _ hs1 (by omega)).mono ?_
          rintro e w2 ⟨v, rfl, hbs2, hnew2, hs2, hf2⟩
          have cv := run_conv_Bs hbs2 38 9 5 Try.underlying38 Try.underlying5 Try.underlying9
          go_wp2
          go_ret
          rw [HV.out.1, HV.out.2.1, HV.out.2.2]
          exact ⟨rfl, hs2, hf1.trans hf2⟩
        · have HV : Hid (txtT l m = [] ∧ txtR l m = [] ∧ txtB l m = true) := by
            have hc : cutOk (rest l) (fstN l) = false := decide_eq_false (by omega)
            unfold txtT txtR txtB mostV mostR mostB
            rw [hk]; simp only [if_true]
            unfold cutT cutR cutB
            rw [hc]; exact ⟨rfl, rfl, rfl⟩
          clear hm hf hk
          go_enter Try.func40, Try.ntmps40
          go_wp2_with fail
          refine h0.mono ?_
          rintro e w1 ⟨rfl, hs1, hf1⟩
          obtain ⟨A, c, c0, c1, f0, _⟩ := hs1.cells
          go_wp2_with fail
          refine (rfail_any g S _ _ _ hs1).mono ?_
          rintro e w2 ⟨rfl, hs2, hf2⟩
          go_wp2
          go_ret
          rw [HV.out.1, HV.out.2.1, HV.out.2.2]
          exact ⟨rfl, hs2, hf1.trans hf2⟩
      · have HV : Hid (txtT l m = [] ∧ txtR l m = [] ∧ txtB l m = true) := by
          have hk : mostOk l m = false := decide_eq_false (by omega)
          unfold txtT txtR txtB mostV mostR mostB
          rw [hk]; exact ⟨rfl, rfl, rfl⟩
        clear hm hf
        go_enter Try.func40, Try.ntmps40
        go_wp2_with fail
        refine h0.mono ?_
        rintro e w1 ⟨rfl, hs1, hf1⟩
        obtain ⟨A, c, c0, c1, f0, _⟩ := hs1.cells
        go_wp2_with fail
        refine (rfail_any g S _ _ _ hs1).mono ?_
        rintro e w2 ⟨rfl, hs2, hf2⟩
        go_wp2
        go_ret
        rw [HV.out.1, HV.out.2.1, HV.out.2.2]
        exact ⟨rfl, hs2, hf1.trans hf2⟩

end Go.Proofs.Ytoaeiokjaikalaa


namespace Go.Proofs.Ytoaeiokjaikalaa
set_option linter.unusedVariables false
set_option linter.unusedSimpArgs false
set_option maxRecDepth 100000
open Go.RowKit

theorem knumber_any (c : Co) (w : World) (hc : CoOk c) : Calls Try.prog 44 #[coV c] w fun e w' => e = .returned (.int .u64 (numK c : Nat)) ∧ Fr Non w w' := by
  obtain ⟨n, ty, nl⟩ := c
  have h3 : ty = 1 ∨ ty = 2 ∨ ty = 3 := by have := hc.lo; have := hc.hi; dsimp only at *; omega
  clear hc
  have b0 := co_new w ⟨n, ty, nl⟩
  have g1 : _ = _ := b0.cell 1
  have g2 : _ = _ := b0.cell 2
  simp at g1 g2
  unfold coV coC
  dsimp only
  rcases h3 with rfl | rfl | rfl <;> cases nl
  all_goals
    go_enter Try.func44, Try.ntmps44
    go_wp2
    go_ret
    exact ⟨rfl, (Fr.refl _ _).alloc _⟩

theorem flat_le7 {l : List Co} (h : ∀ c ∈ l, CoOk c) (hl : l.length ≤ 6) (k : Nat) : ((l.take k).flatMap colB).length ≤ 192 := by
  have h1 := flatK_len (l := l.take k) (fun c hc => h c (List.mem_of_mem_take hc))
  rw [List.length_take] at h1
  omega
theorem text_le {n : Tx} (h : n.length ≤ 12) : (textB n).length ≤ 22 := by
  have h1 := Lib.uvarint_length64 (show n.length < 18446744073709551616 by omega)
  unfold textB; simp only [List.length_append]; omega
/-- the bytes behind k columns -/
def colsT (l : List Co) (k : Nat) : List UInt8 := Lib.uvarint l.length ++ (l.take k).flatMap colB
theorem colsT_more {l : List Co} {k : Nat} (h : k < l.length) : colsT l (k + 1) = (colsT l k ++ textB l[k].name) ++ Lib.uvarint (numK l[k]) := by
  unfold colsT; rw [colB_take h]; simp only [List.append_assoc]
theorem colsT_all {l : List Co} {k : Nat} (h : k = l.length) : colsT l k = colsB l := by
  subst h; unfold colsT colsB; rw [List.take_length]
theorem colsT_len {l : List Co} (h : ∀ c ∈ l, CoOk c) (hl : l.length ≤ 6) (k : Nat) : (colsT l k).length ≤ 202 := by
  have h1 := Lib.uvarint_length64 (show l.length < 18446744073709551616 by omega)
  have h2 := flat_le7 h hl k
  unfold colsT; simp only [List.length_append]; omega
theorem colsT_zero (l : List Co) : colsT l 0 = Lib.uvarint l.length := by unfold colsT; simp

set_option maxHeartbeats 2000000 in
theorem kput_any (v : Value) (l : List Co) (w : World) (hv : Ks w v l) (hc : chkC l = 0) :
    Calls Try.prog 23 #[v] w fun e w' => ∃ u, e = .returned u ∧ Own w' w.heap.size u (colsB l) ∧ Fr Non w w' := by
  have hl6 := (chk_is hc).2.2.2
  have HE := Lib.hid (chk_each hc)
  clear hc
  obtain ⟨A, c, rfl, hlc, hn, hcell⟩ := hv
  have HC := Lib.hid hcell
  have HN := Lib.hid hn
  clear hcell hn
  have e1 : IntKind.u64.wrap (l.length : Int) = l.length := IntWalk.u64_in _ ⟨by omega, by omega⟩
  go_enter Try.func23, Try.ntmps23
  go_wp2_with fail
  refine (vnum_any l.length w (by unfold two64; omega)).mono ?_
  rintro e w0 ⟨v0, rfl, hown0, hf0⟩
  rw [← colsT_zero] at hown0
  go_wp2
  go_loopw [3, 12] (fun b i wr => ∃ k : Nat, k ≤ l.length ∧ i = .int .i64 k ∧ Own wr w.heap.size b (colsT l k) ∧ Fr Non w wr) (fun _ i _ => l.length - (intOf i).toNat)
  case atStart => exact ⟨0, Nat.zero_le _, rfl, hown0, hf0⟩
  case round =>
    clear hown0 hf0
    obtain ⟨k, hk, rfl, hown, hfr⟩ := hrel
    by_cases hlt : k < l.length
    · cases A with
      | none => have := HN.out rfl; omega
      | some a =>
        obtain ⟨hc0, hc1, hc2⟩ := co_lit ((HC.out a rfl k hlt).non hfr)
        have HS := Lib.hid (colsT_more hlt)
        have hok := HE.out _ (List.getElem_mem hlt)
        have hT := colsT_len HE.out hl6 k
        have HNum := Lib.hid (fun W => knumber_any l[k] W hok)
        have hm7 := hok.num
        have hx1 := hok.len
        have htl := text_le hx1
        clear hok
        generalize l[k] = x at *
        generalize colsT l k = F at *
        generalize numK x = m at *
        have hul := Lib.uvarint_length64 (show m < 18446744073709551616 by omega)
        have b0 := co_new wr x
        obtain ⟨xn, xt, xb⟩ := x
        dsimp only at hc0 hc1 hc2 hx1 htl HS b0
        unfold coV coC at HNum
        dsimp only at HNum
        have hB := hfr.size
        have F1 := (Fr.refl Non wr).alloc (.cells #[.string ⟨xn.toArray⟩, .int .i64 xt, .bool xb] 52)
        have hownA := hown.non F1
        have hfrA := Lib.hid (hfr.trans F1)
        have hlt3 := hown.lt
        have hB1 : w.heap.size ≤ (wr.alloc (.cells #[.string ⟨xn.toArray⟩, .int .i64 xt, .bool xb] 52)).heap.size := Nat.le_trans hB F1.size
        have HLT := Lib.hid hlt3
        have g0 : _ = _ := b0.cell 0
        simp at g0
        replace b0 : Hid (CoB _ _ _) := Lib.hid b0
        replace hownA := Lib.hid hownA
        clear hfr hown F1 hlt3
        go_wp2_with fail
        refine (vtext_any xn _ (by omega)).mono ?_
        rintro e w1 ⟨v1, rfl, hown1, hf1⟩
        have hown' := hownA.out.non hf1
        have b1 := b0.out.fr hf1 (fun e => e)
        have hfr1 := Lib.hid (hfrA.out.trans hf1)
        have hB2 := Nat.le_trans hB1 hf1.size
        clear hownA b0 hfrA g0 hc0 hc1 hc2 hf1
        replace b1 : Hid (CoB _ _ _) := Lib.hid b1
        go_wp2_with (at_builtin; refine wpList_app rfl (.tmp 16) (.tmp 19) rfl w.heap.size _ v1 F (textB xn) rfl hown' rfl hown1.bs (by omega) hB2 ?_; intro v2 w2 hown2 hfr2; have b2 := Lib.hid (b1.out.fr hfr2 (fun e => by have := (HLT.out _ e).2; omega)); have d0 : w2.cell? ⟨wr.heap.size, 0, none⟩ = some (.string ⟨xn.toArray⟩) := b2.out.cell 0; have d1 : w2.cell? ⟨wr.heap.size, 1, none⟩ = some (.int .i64 xt) := b2.out.cell 1; have d2 : w2.cell? ⟨wr.heap.size, 2, none⟩ = some (.bool xb) := b2.out.cell 2)
        have hfr3 := Lib.hid (hfr1.out.fresh hfr2 (fun q hq => (HLT.out q hq).1))
        have hB3 := Nat.le_trans hB2 hfr2.size
        clear b1 b2 hfr1 hfr2 hown' hown1 HLT
        replace hown2 := Lib.hid hown2
        go_wp2_with fail
        refine (HNum.out _).mono ?_
        rintro e w3 ⟨rfl, hf3⟩
        have hfr4 := Lib.hid (hfr3.out.trans hf3)
        have hB4 := Nat.le_trans hB3 hf3.size
        have hown3 := Lib.hid (hown2.out.non hf3)
        clear hfr3 hf3 hown2 d0 d1 d2
        go_wp2_with fail
        refine (vnum_any m _ (by unfold two64; omega)).mono ?_
        rintro e w4 ⟨v4, rfl, hown4, hf4⟩
        have hfr5 := Lib.hid (hfr4.out.trans hf4)
        have hB5 := Nat.le_trans hB4 hf4.size
        have hown5 := hown3.out.non hf4
        clear hfr4 hf4 hown3
        have hln : (F ++ textB xn).length ≤ 250 := by rw [List.length_append]; omega
        go_wp2_with (at_builtin; refine wpList_app rfl (.tmp 21) (.tmp 24) rfl w.heap.size _ v4 (F ++ textB xn) (Lib.uvarint m) rfl hown5 rfl hown4.bs (by omega) hB5 ?_; intro v6 w6 hown6 hfr6)
        go_roundw
        case rel => exact ⟨k + 1, by omega, by go_num, by rw [HS.out]; exact hown6, hfr5.out.fresh hfr6 (fun q hq => (hown5.lt q hq).1)⟩
        case measure => simp [intOf]; omega
    · rw [colsT_all (show k = l.length by omega)] at hown
      go_wp2
      go_ret
      exact ⟨_, rfl, hown, hfr⟩

set_option maxHeartbeats 4000000 in
theorem rkput_any (v : Value) (l : List Co) (w : World) (hv : Ks w v l) (hc : chkC l = 0) :
    Calls Try.prog 25 #[v] w fun e w' => ∃ u, e = .returned u ∧ Own w' w.heap.size u (colsB l) ∧ Fr Non w w' := by
  have hl6 := (chk_is hc).2.2.2
  have HE := Lib.hid (chk_each hc)
  clear hc
  obtain ⟨A, c, rfl, hlc, hn, hcell⟩ := hv
  have HC := Lib.hid hcell
  have HN := Lib.hid hn
  clear hcell hn
  have e1 : IntKind.u64.wrap (l.length : Int) = l.length := IntWalk.u64_in _ ⟨by omega, by omega⟩
  go_enter Try.func25, Try.ntmps25
  go_wp2_with fail
  refine (rnum_any l.length w (by unfold two64; omega)).mono ?_
  rintro e w0 ⟨v0, rfl, hown0, hf0⟩
  rw [← colsT_zero] at hown0
  go_wp2
  go_loopw [3, 4] (fun b i wr => ∃ k : Nat, k ≤ l.length ∧ i = .int .i64 k ∧ Own wr w.heap.size b (colsT l k) ∧ Fr Non w wr) (fun _ i _ => l.length - (intOf i).toNat)
  case atStart => exact ⟨0, Nat.zero_le _, rfl, hown0, hf0⟩
  case round =>
    clear hown0 hf0
    obtain ⟨k, hk, rfl, hown, hfr⟩ := hrel
    by_cases hlt : k < l.length
    · cases A with
      | none => have := HN.out rfl; omega
      | some a =>
        obtain ⟨hc0, hc1, hc2⟩ := co_lit ((HC.out a rfl k hlt).non hfr)
        have HS := Lib.hid (colsT_more hlt)
        have hok := HE.out _ (List.getElem_mem hlt)
        have hT := colsT_len HE.out hl6 k
        have hx1 := hok.len
        have htl := text_le hx1
        have h3 : l[k].ty = 1 ∨ l[k].ty = 2 ∨ l[k].ty = 3 := by have := hok.lo; have := hok.hi; omega
        clear hok
        generalize l[k] = x at *
        generalize colsT l k = F at *
        obtain ⟨xn, xt, xb⟩ := x
        dsimp only at hc0 hc1 hc2 hx1 htl HS h3
        have hB := hfr.size
        have hfr1 := Lib.hid hfr
        have hownA := Lib.hid hown
        have HLT := Lib.hid hown.lt
        have hln : (F ++ textB xn).length ≤ 250 := by rw [List.length_append]; omega
        clear hfr hown
        rcases h3 with rfl | rfl | rfl <;> cases xb
        · have hul := Lib.uvarint_length64 (show 2 < 18446744073709551616 by omega)
          replace HS : Hid (_ = (F ++ textB xn) ++ Lib.uvarint 2) := HS
          go_wp2_with fail
          refine (rtext_any xn _ (by omega)).mono ?_
          rintro e w1 ⟨v1, rfl, hown1, hf1⟩
          have hown' := hownA.out.non hf1
          have hfr2 := Lib.hid (hfr1.out.trans hf1)
          have hB2 := Nat.le_trans hB hf1.size
          clear hownA hfr1 hc0 hc1 hc2 hf1
          go_wp2_with (at_builtin; refine wpList_app rfl (.tmp 30) (.tmp 36) rfl w.heap.size _ v1 F (textB xn) rfl hown' rfl hown1.bs (by omega) hB2 ?_; intro v2 w2 hown2 hfrx)
          have hfr3 := Lib.hid (hfr2.out.fresh hfrx (fun q hq => (HLT.out q hq).1))
          have hB3 := Nat.le_trans hB2 hfrx.size
          replace hown2 := Lib.hid hown2
          clear hfr2 hfrx hown' hown1 HLT
          go_wp2_with fail
          refine (rnum_any 2 _ (by decide)).mono ?_
          rintro e w4 ⟨v4, rfl, hown4, hf4⟩
          have hfr5 := Lib.hid (hfr3.out.trans hf4)
          have hB5 := Nat.le_trans hB3 hf4.size
          have hown5 := hown2.out.non hf4
          clear hfr3 hf4 hown2
          go_wp2_with (at_builtin; refine wpList_app rfl (.tmp 37) (.tmp 39) rfl w.heap.size _ v4 (F ++ textB xn) (Lib.uvarint 2) rfl hown5 rfl hown4.bs (by omega) hB5 ?_; intro v6 w6 hown6 hfr6)
          go_roundw
          case rel => exact ⟨k + 1, by omega, by go_num, by rw [HS.out]; exact hown6, hfr5.out.fresh hfr6 (fun q hq => (hown5.lt q hq).1)⟩
          case measure => simp [intOf]; omega
        · have hul := Lib.uvarint_length64 (show 3 < 18446744073709551616 by omega)
          replace HS : Hid (_ = (F ++ textB xn) ++ Lib.uvarint 3) := HS
          go_wp2_with fail
          refine (rtext_any xn _ (by omega)).mono ?_
          rintro e w1 ⟨v1, rfl, hown1, hf1⟩
          have hown' := hownA.out.non hf1
          have hfr2 := Lib.hid (hfr1.out.trans hf1)
          have hB2 := Nat.le_trans hB hf1.size
          clear hownA hfr1 hc0 hc1 hc2 hf1
          go_wp2_with (at_builtin; refine wpList_app rfl (.tmp 30) (.tmp 36) rfl w.heap.size _ v1 F (textB xn) rfl hown' rfl hown1.bs (by omega) hB2 ?_; intro v2 w2 hown2 hfrx)
          have hfr3 := Lib.hid (hfr2.out.fresh hfrx (fun q hq => (HLT.out q hq).1))
          have hB3 := Nat.le_trans hB2 hfrx.size
          replace hown2 := Lib.hid hown2
          clear hfr2 hfrx hown' hown1 HLT
          go_wp2_with fail
          refine (rnum_any 3 _ (by decide)).mono ?_
          rintro e w4 ⟨v4, rfl, hown4, hf4⟩
          have hfr5 := Lib.hid (hfr3.out.trans hf4)
          have hB5 := Nat.le_trans hB3 hf4.size
          have hown5 := hown2.out.non hf4
          clear hfr3 hf4 hown2
          go_wp2_with (at_builtin; refine wpList_app rfl (.tmp 37) (.tmp 39) rfl w.heap.size _ v4 (F ++ textB xn) (Lib.uvarint 3) rfl hown5 rfl hown4.bs (by omega) hB5 ?_; intro v6 w6 hown6 hfr6)
          go_roundw
          case rel => exact ⟨k + 1, by omega, by go_num, by rw [HS.out]; exact hown6, hfr5.out.fresh hfr6 (fun q hq => (hown5.lt q hq).1)⟩
          case measure => simp [intOf]; omega
        · have hul := Lib.uvarint_length64 (show 4 < 18446744073709551616 by omega)
          replace HS : Hid (_ = (F ++ textB xn) ++ Lib.uvarint 4) := HS
          go_wp2_with fail
          refine (rtext_any xn _ (by omega)).mono ?_
          rintro e w1 ⟨v1, rfl, hown1, hf1⟩
          have hown' := hownA.out.non hf1
          have hfr2 := Lib.hid (hfr1.out.trans hf1)
          have hB2 := Nat.le_trans hB hf1.size
          clear hownA hfr1 hc0 hc1 hc2 hf1
          go_wp2_with (at_builtin; refine wpList_app rfl (.tmp 30) (.tmp 36) rfl w.heap.size _ v1 F (textB xn) rfl hown' rfl hown1.bs (by omega) hB2 ?_; intro v2 w2 hown2 hfrx)
          have hfr3 := Lib.hid (hfr2.out.fresh hfrx (fun q hq => (HLT.out q hq).1))
          have hB3 := Nat.le_trans hB2 hfrx.size
          replace hown2 := Lib.hid hown2
          clear hfr2 hfrx hown' hown1 HLT
          go_wp2_with fail
          refine (rnum_any 4 _ (by decide)).mono ?_
          rintro e w4 ⟨v4, rfl, hown4, hf4⟩
          have hfr5 := Lib.hid (hfr3.out.trans hf4)
          have hB5 := Nat.le_trans hB3 hf4.size
          have hown5 := hown2.out.non hf4
          clear hfr3 hf4 hown2
          go_wp2_with (at_builtin; refine wpList_app rfl (.tmp 37) (.tmp 39) rfl w.heap.size _ v4 (F ++ textB xn) (Lib.uvarint 4) rfl hown5 rfl hown4.bs (by omega) hB5 ?_; intro v6 w6 hown6 hfr6)
          go_roundw
          case rel => exact ⟨k + 1, by omega, by go_num, by rw [HS.out]; exact hown6, hfr5.out.fresh hfr6 (fun q hq => (hown5.lt q hq).1)⟩
          case measure => simp [intOf]; omega
        · have hul := Lib.uvarint_length64 (show 5 < 18446744073709551616 by omega)
          replace HS : Hid (_ = (F ++ textB xn) ++ Lib.uvarint 5) := HS
          go_wp2_with fail
          refine (rtext_any xn _ (by omega)).mono ?_
          rintro e w1 ⟨v1, rfl, hown1, hf1⟩
          have hown' := hownA.out.non hf1
          have hfr2 := Lib.hid (hfr1.out.trans hf1)
          have hB2 := Nat.le_trans hB hf1.size
          clear hownA hfr1 hc0 hc1 hc2 hf1
          go_wp2_with (at_builtin; refine wpList_app rfl (.tmp 30) (.tmp 36) rfl w.heap.size _ v1 F (textB xn) rfl hown' rfl hown1.bs (by omega) hB2 ?_; intro v2 w2 hown2 hfrx)
          have hfr3 := Lib.hid (hfr2.out.fresh hfrx (fun q hq => (HLT.out q hq).1))
          have hB3 := Nat.le_trans hB2 hfrx.size
          replace hown2 := Lib.hid hown2
          clear hfr2 hfrx hown' hown1 HLT
          go_wp2_with fail
          refine (rnum_any 5 _ (by decide)).mono ?_
          rintro e w4 ⟨v4, rfl, hown4, hf4⟩
          have hfr5 := Lib.hid (hfr3.out.trans hf4)
          have hB5 := Nat.le_trans hB3 hf4.size
          have hown5 := hown2.out.non hf4
          clear hfr3 hf4 hown2
          go_wp2_with (at_builtin; refine wpList_app rfl (.tmp 37) (.tmp 39) rfl w.heap.size _ v4 (F ++ textB xn) (Lib.uvarint 5) rfl hown5 rfl hown4.bs (by omega) hB5 ?_; intro v6 w6 hown6 hfr6)
          go_roundw
          case rel => exact ⟨k + 1, by omega, by go_num, by rw [HS.out]; exact hown6, hfr5.out.fresh hfr6 (fun q hq => (hown5.lt q hq).1)⟩
          case measure => simp [intOf]; omega
        · have hul := Lib.uvarint_length64 (show 6 < 18446744073709551616 by omega)
          replace HS : Hid (_ = (F ++ textB xn) ++ Lib.uvarint 6) := HS
          go_wp2_with fail
          refine (rtext_any xn _ (by omega)).mono ?_
          rintro e w1 ⟨v1, rfl, hown1, hf1⟩
          have hown' := hownA.out.non hf1
          have hfr2 := Lib.hid (hfr1.out.trans hf1)
          have hB2 := Nat.le_trans hB hf1.size
          clear hownA hfr1 hc0 hc1 hc2 hf1
          go_wp2_with (at_builtin; refine wpList_app rfl (.tmp 30) (.tmp 36) rfl w.heap.size _ v1 F (textB xn) rfl hown' rfl hown1.bs (by omega) hB2 ?_; intro v2 w2 hown2 hfrx)
          have hfr3 := Lib.hid (hfr2.out.fresh hfrx (fun q hq => (HLT.out q hq).1))
          have hB3 := Nat.le_trans hB2 hfrx.size
          replace hown2 := Lib.hid hown2
          clear hfr2 hfrx hown' hown1 HLT
          go_wp2_with fail
          refine (rnum_any 6 _ (by decide)).mono ?_
          rintro e w4 ⟨v4, rfl, hown4, hf4⟩
          have hfr5 := Lib.hid (hfr3.out.trans hf4)
          have hB5 := Nat.le_trans hB3 hf4.size
          have hown5 := hown2.out.non hf4
          clear hfr3 hf4 hown2
          go_wp2_with (at_builtin; refine wpList_app rfl (.tmp 37) (.tmp 39) rfl w.heap.size _ v4 (F ++ textB xn) (Lib.uvarint 6) rfl hown5 rfl hown4.bs (by omega) hB5 ?_; intro v6 w6 hown6 hfr6)
          go_roundw
          case rel => exact ⟨k + 1, by omega, by go_num, by rw [HS.out]; exact hown6, hfr5.out.fresh hfr6 (fun q hq => (hown5.lt q hq).1)⟩
          case measure => simp [intOf]; omega
        · have hul := Lib.uvarint_length64 (show 7 < 18446744073709551616 by omega)
          replace HS : Hid (_ = (F ++ textB xn) ++ Lib.uvarint 7) := HS
          go_wp2_with fail
          refine (rtext_any xn _ (by omega)).mono ?_
          rintro e w1 ⟨v1, rfl, hown1, hf1⟩
          have hown' := hownA.out.non hf1
          have hfr2 := Lib.hid (hfr1.out.trans hf1)
          have hB2 := Nat.le_trans hB hf1.size
          clear hownA hfr1 hc0 hc1 hc2 hf1
          go_wp2_with (at_builtin; refine wpList_app rfl (.tmp 30) (.tmp 36) rfl w.heap.size _ v1 F (textB xn) rfl hown' rfl hown1.bs (by omega) hB2 ?_; intro v2 w2 hown2 hfrx)
          have hfr3 := Lib.hid (hfr2.out.fresh hfrx (fun q hq => (HLT.out q hq).1))
          have hB3 := Nat.le_trans hB2 hfrx.size
          replace hown2 := Lib.hid hown2
          clear hfr2 hfrx hown' hown1 HLT
          go_wp2_with fail
          refine (rnum_any 7 _ (by decide)).mono ?_
          rintro e w4 ⟨v4, rfl, hown4, hf4⟩
          have hfr5 := Lib.hid (hfr3.out.trans hf4)
          have hB5 := Nat.le_trans hB3 hf4.size
          have hown5 := hown2.out.non hf4
          clear hfr3 hf4 hown2
          go_wp2_with (at_builtin; refine wpList_app rfl (.tmp 37) (.tmp 39) rfl w.heap.size _ v4 (F ++ textB xn) (Lib.uvarint 7) rfl hown5 rfl hown4.bs (by omega) hB5 ?_; intro v6 w6 hown6 hfr6)
          go_roundw
          case rel => exact ⟨k + 1, by omega, by go_num, by rw [HS.out]; exact hown6, hfr5.out.fresh hfr6 (fun q hq => (hown5.lt q hq).1)⟩
          case measure => simp [intOf]; omega
    · rw [colsT_all (show k = l.length by omega)] at hown
      go_wp2
      go_ret
      exact ⟨_, rfl, hown, hfr⟩
end Go.Proofs.Ytoaeiokjaikalaa


namespace Go.Proofs.Ytoaeiokjaikalaa
set_option linter.unusedVariables false
set_option linter.unusedSimpArgs false
set_option maxRecDepth 100000
open Go.RowKit

/-- a text's cell -/
def sv (l : List UInt8) : Value := .string ⟨l.toArray⟩
end Go.Proofs.Ytoaeiokjaikalaa


namespace Go.Proofs.Ytoaeiokjaikalaa
set_option linter.unusedVariables false
set_option linter.unusedSimpArgs false
set_option maxRecDepth 100000
open Go.RowKit

theorem isletter_any (r : Int) (w : World) : Calls Try.prog 29 #[.int .i32 r] w fun e w' => e = .returned (.bool (ltrI r)) ∧ w = w' := by
  by_cases h1 : 97 ≤ r
  · by_cases h2 : r ≤ 122
    · have H := Lib.hid (show ltrI r = true by simp [ltrI, h1, h2])
      go_enter Try.func29, Try.ntmps29
      go_wp2
      go_ret
      exact ⟨ret_boolE H.out.symm, rfl⟩
    · have H := Lib.hid (show ltrI r = false by simp [ltrI, h1, h2])
      go_enter Try.func29, Try.ntmps29
      go_wp2
      go_ret
      exact ⟨ret_boolE H.out.symm, rfl⟩
  · have H := Lib.hid (show ltrI r = false by simp [ltrI, h1])
    go_enter Try.func29, Try.ntmps29
    go_wp2
    go_ret
    exact ⟨ret_boolE H.out.symm, rfl⟩
theorem isdigit_any (r : Int) (w : World) : Calls Try.prog 30 #[.int .i32 r] w fun e w' => e = .returned (.bool (dgtI r)) ∧ w = w' := by
  by_cases h1 : 48 ≤ r
  · by_cases h2 : r ≤ 57
    · have H := Lib.hid (show dgtI r = true by simp [dgtI, h1, h2])
      go_enter Try.func30, Try.ntmps30
      go_wp2
      go_ret
      exact ⟨ret_boolE H.out.symm, rfl⟩
    · have H := Lib.hid (show dgtI r = false by simp [dgtI, h1, h2])
      go_enter Try.func30, Try.ntmps30
      go_wp2
      go_ret
      exact ⟨ret_boolE H.out.symm, rfl⟩
  · have H := Lib.hid (show dgtI r = false by simp [dgtI, h1])
    go_enter Try.func30, Try.ntmps30
    go_wp2
    go_ret
    exact ⟨ret_boolE H.out.symm, rfl⟩

set_option maxHeartbeats 4000000 in
theorem isword_any (l : List UInt8) (w : World) : Calls Try.prog 28 #[.string ⟨l.toArray⟩] w fun e w' => e = .returned (.bool (decide (l ∈ wordsL))) ∧ w = w' := by
  go_enter Try.func28, Try.ntmps28
  go_wp2
  all_goals
    go_ret
    exact ⟨ret_boolE (by simp_all [wordsL]), rfl⟩

theorem words_any (w : World) : Calls Try.prog 31 #[] w fun e w' => ∃ v, e = .returned v ∧ Vs sv w' v wordsL ∧ Fr Non w w' := by
  have hv := ow_lit (f := sv) (E := 9) w 0 _ wordsL #[.string ⟨#[97, 110, 100]⟩, .string ⟨#[111, 114]⟩, .string ⟨#[110, 111, 116]⟩, .string ⟨#[105, 115]⟩, .string ⟨#[110, 117, 108, 108]⟩, .string ⟨#[108, 105, 107, 101]⟩, .string ⟨#[116, 114, 117, 101]⟩, .string ⟨#[102, 97, 108, 115, 101]⟩, .string ⟨#[115, 101, 108, 101, 99, 116]⟩, .string ⟨#[102, 114, 111, 109]⟩, .string ⟨#[119, 104, 101, 114, 101]⟩, .string ⟨#[103, 114, 111, 117, 112]⟩, .string ⟨#[98, 121]⟩, .string ⟨#[97, 108, 108]⟩, .string ⟨#[99, 111, 117, 110, 116]⟩, .string ⟨#[104, 97, 115]⟩, .string ⟨#[115, 117, 109]⟩, .string ⟨#[109, 105, 110]⟩, .string ⟨#[109, 97, 120]⟩] rfl rfl (Nat.zero_le _) (by unfold maxLen; decide)
  have HV := Lib.hid hv.vs
  clear hv
  go_enter Try.func31, Try.ntmps31
  go_wp2
  go_ret
  exact ⟨_, rfl, HV.out, (Fr.refl _ _).alloc _⟩
end Go.Proofs.Ytoaeiokjaikalaa


namespace Go.Proofs.Ytoaeiokjaikalaa
set_option linter.unusedVariables false
set_option linter.unusedSimpArgs false
set_option maxRecDepth 100000
open Go.RowKit

theorem slenN (l : List UInt8) : ByteArray.size ⟨l.toArray⟩ = l.length := by simp [ByteArray.size]
theorem not_word {l : List UInt8} (h : ∀ j (hj : j < wordsL.length), wordsL[j] ≠ l) : l ∉ wordsL := by
  intro hm
  obtain ⟨j, hj, e⟩ := List.mem_iff_getElem.1 hm
  exact h j hj e
theorem nmOk_more {l : List UInt8} {k : Nat} (h : ∀ j (hj : j < l.length), j < k → okI j (l[j]).toNat = true) (hk : k < l.length) (hc : okI k (l[k]).toNat = true) : ∀ j (hj : j < l.length), j < k + 1 → okI j (l[j]).toNat = true := by
  intro j hj hlt
  by_cases e : j = k
  · subst e; exact hc
  · exact h j hj (by omega)

set_option maxHeartbeats 2000000 in
theorem rname_any (l : List UInt8) (w : World) (hl : l.length ≤ 1000000000) : Calls Try.prog 11 #[.string ⟨l.toArray⟩] w fun e w' => e = .returned (.bool (nameB l)) ∧ Fr Non w w' := by
  have hs := slenN l
  go_enter Try.func11, Try.ntmps11
  go_wp2
  go_loop [3] (fun i => ∃ k : Nat, k ≤ l.length ∧ i = .int .i64 k ∧ Hid (∀ j (hj : j < l.length), j < k → okI j (l[j]).toNat = true)) (fun i => l.length - (intOf i).toNat)
  case atStart => exact ⟨0, by omega, rfl, Lib.hid (fun _ _ h => by omega)⟩
  case round =>
    obtain ⟨k, hk, rfl, hok⟩ := hrel
    by_cases hlt : k < l.length
    · obtain ⟨c, hc⟩ : ∃ c, l[k] = c := ⟨_, rfl⟩
      have hb := byte_at l k c hlt hc
      have HC := Lib.hid hc
      clear hc
      have HM := Lib.hid (fun (h : okI k c.toNat = true) => nmOk_more hok.out hlt (by rw [HC.out]; exact h))
      have HX := Lib.hid (fun (h : okI k c.toNat = false) => name_bad hlt (by rw [HC.out]; exact h))
      clear HC hok
      go_wp2
      all_goals first
        | (go_ret
           refine ⟨ret_boolE (HX.out ?_).symm, Fr.refl _ _⟩
           clear HX HM hb hs
           rw [Bool.eq_false_iff]
           intro hh
           simp [okI, ltrI, dgtI] at *
           done)
        | (go_ret
           refine ⟨ret_boolE (HX.out ?_).symm, Fr.refl _ _⟩
           clear HX HM hb hs
           rw [Bool.eq_false_iff]
           intro hh
           simp [okI, ltrI, dgtI] at *
           omega)
        | (go_roundw
           case rel =>
             refine ⟨k + 1, by omega, by go_num, Lib.hid (HM.out ?_)⟩
             clear HX HM hb hs
             simp [okI, ltrI, dgtI] at *
             omega
           case measure => simp [intOf]; omega)
        | (go_roundw
           case rel =>
             refine ⟨k + 1, by omega, by go_num, Lib.hid (HM.out ?_)⟩
             clear HX HM hb hs
             simp [okI, ltrI, dgtI] at *
             done
           case measure => simp [intOf]; omega)
    · have HO : Hid (nmOk l) := Lib.hid (fun j hj => hok.out j hj (by omega))
      clear hok
      go_wp2_with fail
      refine (words_any _).mono ?_
      rintro e w1 ⟨v, rfl, hv, hf1⟩
      have hw : wordsL.length = 19 := rfl
      obtain ⟨A, c, he, hc, hn, hcell⟩ := hv
      rw [hw] at he hc
      subst he
      have HN := Lib.hid hn
      have HCE := Lib.hid hcell
      have HF := Lib.hid hf1
      clear hn hcell hf1
      go_wp2
      go_loop [8] (fun i => ∃ q : Nat, q ≤ 19 ∧ i = .int .i64 q ∧ Hid (∀ j (hj : j < wordsL.length), j < q → wordsL[j] ≠ l)) (fun i => 19 - (intOf i).toNat)
      case atStart => exact ⟨0, by omega, rfl, Lib.hid (fun _ _ h => by omega)⟩
      case round =>
        obtain ⟨q, hq, rfl, hne⟩ := hrel
        by_cases hlq : q < 19
        · cases A with
          | none => have := HN.out rfl; omega
          | some a =>
            have hql : q < wordsL.length := by rw [hw]; exact hlq
            have hce := HCE.out a rfl q hql
            unfold sv at hce
            by_cases he : wordsL[q] = l
            · have HE := Lib.hid (name_word (l := l) (by rw [← he]; exact List.getElem_mem hql))
              rw [he] at hce
              clear he
              go_wp2
              go_ret
              exact ⟨ret_boolE HE.out.symm, HF.out⟩
            · have HE : Hid (∀ j (hj : j < wordsL.length), j < q + 1 → wordsL[j] ≠ l) := Lib.hid (fun j hj hlt => by
                by_cases e : j = q
                · subst e; exact he
                · exact hne.out j hj (by omega))
              have hb : (wordsL[q] == l) = false := by rw [beq_eq_false_iff_ne]; exact he
              clear he hne
              generalize wordsL[q] = x at *
              go_wp2
              go_roundw
              case rel => exact ⟨q + 1, by omega, by go_num, HE⟩
              case measure => simp [intOf]; omega
        · have HW : Hid (l ∉ wordsL) := Lib.hid (not_word fun j hj => hne.out j hj (by rw [hw] at hj; omega))
          clear hne
          by_cases h1 : 1 ≤ l.length
          · by_cases h2 : l.length ≤ 12
            · have H := Lib.hid (name_yes h1 h2 HW.out HO.out)
              go_wp2
              go_ret
              exact ⟨ret_boolE (by rw [H.out]; exact decide_eq_true (by omega)), HF.out⟩
            · have H := Lib.hid (name_long (l := l) (by omega))
              go_wp2
              go_ret
              exact ⟨ret_boolE (by rw [H.out]; exact decide_eq_false (by omega)), HF.out⟩
          · have H := Lib.hid (name_nil (l := l) (by omega))
            go_wp2
            go_ret
            exact ⟨ret_boolE H.out.symm, HF.out⟩

set_option maxHeartbeats 2000000 in
theorem sname_any (l : List UInt8) (w : World) (hl : l.length ≤ 1000000000) : Calls Try.prog 10 #[.string ⟨l.toArray⟩] w fun e w' => e = .returned (.bool (nameB l)) ∧ Fr Non w w' := by
  have hs := slenN l
  by_cases h0 : l = []
  · subst h0
    go_enter Try.func10, Try.ntmps10
    go_wp2
    go_ret
    exact ⟨rfl, Fr.refl _ _⟩
  · have h0b : (l == []) = false := by rw [beq_eq_false_iff_ne]; exact h0
    have HL : Hid (1 ≤ l.length) := Lib.hid (Nat.pos_of_ne_zero (fun e => h0 (List.eq_nil_of_length_eq_zero e)))
    clear h0
    by_cases h12 : 12 < l.length
    · have H := Lib.hid (name_long h12)
      go_enter Try.func10, Try.ntmps10
      go_wp2
      go_ret
      exact ⟨ret_boolE H.out.symm, Fr.refl _ _⟩
    · have HI := fun W => isword_any l W
      cases hw : decide (l ∈ wordsL)
      · simp only [hw] at HI
        have HW := Lib.hid (of_decide_eq_false hw)
        clear hw
        replace HI := Lib.hid HI
        go_enter Try.func10, Try.ntmps10
        go_wp2_with fail
        refine (HI.out _).mono ?_
        rintro e w1 ⟨rfl, rfl⟩
        clear HI
        go_wp2
        go_loopw [3, 4] (fun _ _ wr => ∃ k : Nat, k ≤ l.length ∧ wr = w.iter ⟨l.toArray⟩ k ∧ Hid (∀ j (hj : j < l.length), j < k → okI j (l[j]).toNat = true)) (fun _ _ wr => l.length - wr.iterPos w.heap.size)
        case atStart => exact ⟨0, by omega, rfl, Lib.hid (fun _ _ h => by omega)⟩
        case round =>
          obtain ⟨k, hk, rfl, hok⟩ := hrel
          by_cases hlt : k < l.length
          · obtain ⟨c, hc⟩ : ∃ c, l[k] = c := ⟨_, rfl⟩
            have hm := World.iterPos_iter w ⟨l.toArray⟩ k
            have HC := Lib.hid hc
            have hbk : (⟨l.toArray⟩ : ByteArray)[k]'(by rw [hs]; exact hlt) = c := hc
            clear hc
            have HM := Lib.hid (fun (h : okI k c.toNat = true) => nmOk_more hok.out hlt (by rw [HC.out]; exact h))
            have HX := Lib.hid (fun (h : okI k c.toNat = false) => name_bad hlt (by rw [HC.out]; exact h))
            clear HC hok
            by_cases hhi : c.toNat < 128
            · have hn := fun ty => run_next_ascii (P := Try.prog) w ⟨l.toArray⟩ k ty (by rw [hs]; exact hlt) (by rw [hbk]; exact hhi)
              rw [hbk] at hn
              clear hbk hhi
              have hm1 := World.iterPos_iter w ⟨l.toArray⟩ (k + 1)
              have FR1 := Lib.hid ((Fr.refl Non w).alloc (.stringIter ⟨l.toArray⟩ (k + 1)))
              replace hm1 := Lib.hid hm1
              change Hid (Fr Non w (w.iter ⟨l.toArray⟩ (k + 1))) at FR1
              have HM1 := hm1
              clear hm1
              have HL1 := fun W => isletter_any c.toNat W
              have HD1 := fun W => isdigit_any c.toNat W
              cases hL : ltrI c.toNat
              · simp only [hL] at HL1
                replace HL1 := Lib.hid HL1
                by_cases hk0 : k = 0
                · subst hk0
                  replace HX := Lib.hid (HX.out (by simp [okI, hL]))
                  clear HD1 HM hL
                  go_wp2_with fail
                  refine (HL1.out _).mono ?_
                  rintro e w1 ⟨rfl, rfl⟩
                  clear HL1
                  go_wp2
                  go_ret
                  exact ⟨ret_boolE HX.out.symm, FR1.out⟩
                · have hkb : ((k : Int) == 0) = false := by rw [beq_eq_false_iff_ne]; omega
                  have HK0 := Lib.hid hk0
                  clear hk0
                  cases hD : dgtI c.toNat
                  · simp only [hD] at HD1
                    replace HD1 := Lib.hid HD1
                    by_cases h95 : (c.toNat : Int) = 95
                    · replace HM := Lib.hid (HM.out (by simp [okI, hL, hD, h95]; exact .inr HK0.out))
                      have h95b : ((c.toNat : Int) == 95) = true := by rw [beq_iff_eq]; exact h95
                      clear HX hL hD h95
                      go_wp2_with fail
                      refine (HL1.out _).mono ?_
                      rintro e w1 ⟨rfl, rfl⟩
                      clear HL1
                      go_wp2_with fail
                      refine (HD1.out _).mono ?_
                      rintro e w1 ⟨rfl, rfl⟩
                      clear HD1
                      go_wp2
                      go_roundw
                      case rel => exact ⟨k + 1, by omega, rfl, HM⟩
                      case measure => rw [hm, HM1.out]; omega
                    · replace HX := Lib.hid (HX.out (by simp [okI, hL, hD, h95]))
                      have h95b : ((c.toNat : Int) == 95) = false := by rw [beq_eq_false_iff_ne]; exact h95
                      clear HM hL hD h95
                      go_wp2_with fail
                      refine (HL1.out _).mono ?_
                      rintro e w1 ⟨rfl, rfl⟩
                      clear HL1
                      go_wp2_with fail
                      refine (HD1.out _).mono ?_
                      rintro e w1 ⟨rfl, rfl⟩
                      clear HD1
                      go_wp2
                      go_ret
                      exact ⟨ret_boolE HX.out.symm, FR1.out⟩
                  · simp only [hD] at HD1
                    replace HD1 := Lib.hid HD1
                    replace HM := Lib.hid (HM.out (by simp [okI, hL, hD]; exact HK0.out))
                    clear HX hL hD
                    go_wp2_with fail
                    refine (HL1.out _).mono ?_
                    rintro e w1 ⟨rfl, rfl⟩
                    clear HL1
                    go_wp2_with fail
                    refine (HD1.out _).mono ?_
                    rintro e w1 ⟨rfl, rfl⟩
                    clear HD1
                    go_wp2
                    go_roundw
                    case rel => exact ⟨k + 1, by omega, rfl, HM⟩
                    case measure => rw [hm, HM1.out]; omega
              · simp only [hL] at HL1
                replace HL1 := Lib.hid HL1
                replace HM := Lib.hid (HM.out (by simp [okI, hL]))
                clear HX hL HD1
                go_wp2_with fail
                refine (HL1.out _).mono ?_
                rintro e w1 ⟨rfl, rfl⟩
                clear HL1
                go_wp2
                go_roundw
                case rel => exact ⟨k + 1, by omega, rfl, HM⟩
                case measure => rw [hm, HM1.out]; omega
            · have hn := fun ty => run_next_any (P := Try.prog) w ⟨l.toArray⟩ k ty (by rw [hs]; exact hlt)
              have hr := (decode_high ⟨l.toArray⟩ k (by rw [hs]; exact hlt) (by rw [hbk]; omega)).1
              replace HX := Lib.hid (HX.out (okI_high (by omega)))
              clear HM hbk
              generalize (Utf8.decode ⟨l.toArray⟩ k).1 = r at *
              generalize k + (Utf8.decode ⟨l.toArray⟩ k).2 = p at *
              have FR1 := Lib.hid ((Fr.refl Non w).alloc (.stringIter ⟨l.toArray⟩ p))
              change Hid (Fr Non w (w.iter ⟨l.toArray⟩ p)) at FR1
              have HL1 := fun W => isletter_any r W
              have HD1 := fun W => isdigit_any r W
              have e1 : ltrI r = false := by simp [ltrI]; omega
              have e2 : dgtI r = false := by simp [dgtI]; omega
              have h95b : ((r : Int) == 95) = false := by rw [beq_eq_false_iff_ne]; omega
              simp only [e1] at HL1
              simp only [e2] at HD1
              replace HL1 := Lib.hid HL1
              replace HD1 := Lib.hid HD1
              clear e1 e2 hr hhi
              by_cases hk0 : k = 0
              · subst hk0
                clear HD1
                go_wp2_with fail
                refine (HL1.out _).mono ?_
                rintro e w1 ⟨rfl, rfl⟩
                clear HL1
                go_wp2
                go_ret
                exact ⟨ret_boolE HX.out.symm, FR1.out⟩
              · have hkb : ((k : Int) == 0) = false := by rw [beq_eq_false_iff_ne]; omega
                clear hk0
                go_wp2_with fail
                refine (HL1.out _).mono ?_
                rintro e w1 ⟨rfl, rfl⟩
                clear HL1
                go_wp2_with fail
                refine (HD1.out _).mono ?_
                rintro e w1 ⟨rfl, rfl⟩
                clear HD1
                go_wp2
                go_ret
                exact ⟨ret_boolE HX.out.symm, FR1.out⟩
          · have hn := fun ty => run_next_end (P := Try.prog) w ⟨l.toArray⟩ k ty (by rw [hs]; exact hlt)
            have H := Lib.hid (name_yes HL.out (by omega) HW.out (fun j hj => hok.out j hj (by omega)))
            clear hok
            go_wp2
            go_ret
            exact ⟨ret_boolE H.out.symm, (Fr.refl _ _).alloc _⟩
      · simp only [hw] at HI
        have H := Lib.hid (name_word (of_decide_eq_true hw))
        clear hw
        replace HI := Lib.hid HI
        go_enter Try.func10, Try.ntmps10
        go_wp2_with fail
        refine (HI.out _).mono ?_
        rintro e w1 ⟨rfl, rfl⟩
        go_wp2
        go_ret
        exact ⟨ret_boolE H.out.symm, Fr.refl _ _⟩
end Go.Proofs.Ytoaeiokjaikalaa


namespace Go.Proofs.Ytoaeiokjaikalaa
set_option linter.unusedVariables false
set_option linter.unusedSimpArgs false
set_option maxRecDepth 100000
open Go.RowKit Go.Maps

/-- how many unlike ones -/
def cntU : List Tx → Nat
  | [] => 0
  | y :: r => if y ∈ r then cntU r else cntU r + 1
theorem cntU_le (l : List Tx) : cntU l ≤ l.length := by
  induction l with
  | nil => exact Nat.le_refl _
  | cons y r ih =>
    unfold cntU
    rw [List.length_cons]
    split <;> omega
theorem cntU_all (l : List Tx) : cntU l = l.length ↔ l.Nodup := by
  induction l with
  | nil => simp [cntU]
  | cons y r ih =>
    have := cntU_le r
    unfold cntU
    rw [List.length_cons, List.nodup_cons]
    split
    · rename_i h
      constructor
      · intro e; omega
      · intro e; exact absurd h e.1
    · rename_i h
      rw [← ih]
      constructor
      · intro e; exact ⟨h, by omega⟩
      · intro e; omega

/-- block b is a map of at most n texts: those of ks -/
def MapS (w : World) (b n : Nat) (ks : List Tx) : Prop :=
  ∃ D : DataW Unit, w.ownsMap Try.prog 9 (plainElem Try.prog 3) b n D ∧ (∀ x, has D (.string x) = decide (x ∈ ks)) ∧ Maps.size D = cntU ks
theorem MapS.lt {w : World} {b n : Nat} {ks : List Tx} (h : MapS w b n ks) : b < w.heap.size := by
  obtain ⟨D, h1, _⟩ := h; exact h1.lt
theorem MapS.fr {S : Nat → Prop} {w w' : World} {b n : Nat} {ks : List Tx} (h : MapS w b n ks) (hf : Fr S w w') (hn : ¬ S b) : MapS w' b n ks := by
  obtain ⟨D, h1, h2, h3⟩ := h
  have hlt := h1.lt
  obtain ⟨es, clock, hb, F, hs, hD⟩ := h1
  exact ⟨D, ⟨es, clock, (hf.block b hlt hn).trans hb, F, hs, hD⟩, h2, h3⟩
theorem MapS.made (w : World) : MapS (w.alloc (.map #[] 0)) w.heap.size 0 [] :=
  ⟨.map [], World.ownsMap_made w _ _ _, fun x => by simp [has], rfl⟩

theorem keyLitS (x : Tx) : WideAt.IsKeyLit (.string x) := trivial
theorem keyStrS {x : Tx} (hx : x.length ≤ maxLen) : keyOf Try.prog 9 (.string ⟨x.toArray⟩) = some (.string x) := by
  have := Go.WideMaps.keyOf_string_mk (P := Try.prog) Try.underlying9 (s := ⟨x.toArray⟩) (by simpa [ByteArray.size] using hx)
  simpa using this
theorem MapS.put {w w' : World} {b n : Nat} {ks : List Tx} {D : DataW Unit} (h1 : w.ownsMap Try.prog 9 (plainElem Try.prog 3) b n D) (h2 : ∀ x, has D (.string x) = decide (x ∈ ks)) (h3 : Maps.size D = cntU ks)
    (y : Tx) (v : Int) (h : w'.ownsMap Try.prog 9 (plainElem Try.prog 3) b (n + 1) (D.put (.string y) (.lit (.int .i64 v)))) : MapS w' b (n + 1) (y :: ks) := by
  have hm := h1.isMap
  refine ⟨_, h, fun x => ?_, ?_⟩
  · by_cases he : x = y
    · subst he; rw [has_put_same hm (keyLitS x)]; simp
    · rw [has_put_other (by simpa using he), h2]; simp [he]
  · rw [Maps.size_put (h1.tidy (string_keyed Try.underlying9)), h2, h3]
    rw [show cntU (y :: ks) = if y ∈ ks then cntU ks else cntU ks + 1 from rfl]
    by_cases hy : y ∈ ks <;> simp [hy]

/-- 'm[y] = v' -/
theorem wpList_putS (w : World) {ops : Array Oper} {rest : List Oper} {o : Oper} {a : Act} {Q : Exit → Act → World → Prop} (hg : o.guard = none) (m x v : Operand) (hop : o.op = Op.mapUpdate 69 m x v)
    (b n : Nat) (ks : List Tx) (hm : a.eval m = .map (some b)) (hown : MapS w b n ks) (hn : n ≤ 1000000000) (y : Tx) (z : Int) (hx : a.eval x = .string ⟨y.toArray⟩) (hv : a.eval v = .int .i64 z)
    (hy : y.length ≤ 9223372036854775807) (hz1 : -9223372036854775808 ≤ z) (hz2 : z ≤ 9223372036854775807)
    (hK : ∀ w', MapS w' b (n + 1) (y :: ks) → Fr (One b) w w' → wpList Try.prog ops Q rest (a.put o.dst undef) w') : wpList Try.prog ops Q (o :: rest) a w := by
  obtain ⟨D, h1, h2, h3⟩ := hown
  refine wpList_mapUpdate_own w hg m x v 69 hop 9 3 (string_keyed Try.underlying9) Try.underlying69 _ b n D hm h1 (by unfold maxLen; omega) _ _ (.string y) hx hv (keyStrS (by simpa [maxLen] using hy)) (.lit (.int .i64 z)) [] (plainElem_int Try.underlying3 (WalkArith.wf_i64 ⟨hz1, hz2⟩)) ?_
  intro w' hw' hg'
  exact hK w' (MapS.put h1 h2 h3 y z hw') ((Fr.of_grown hg').mono fun k _ e => by simpa [One, eq_comm] using e)
/-- 'len(m)' -/
theorem MapS.len {w : World} {b n : Nat} {ks : List Tx} (h : MapS w b n ks) (ty : TypeId) : (Builtin.len_ #[69] ty #[.map (some b)]).run Try.prog w = .ok (.int .i64 (cntU ks)) w := by
  obtain ⟨D, h1, h2, h3⟩ := h
  rw [← h3]
  exact h1.len Try.underlying69 ty
end Go.Proofs.Ytoaeiokjaikalaa


namespace Go.Proofs.Ytoaeiokjaikalaa
set_option linter.unusedVariables false
set_option linter.unusedSimpArgs false
set_option maxRecDepth 100000
open Go.RowKit

theorem mayC_nullT (ty : Int) : mayC ty true ⟨true, 0, []⟩ = isTy ty := by rw [mayC_null]; simp [ceq]
theorem ktype_any (ty : Int) (w : World) : Calls Try.prog 49 #[.int .i64 ty] w fun e w' => e = .returned (.bool (isTy ty)) ∧ Fr Non w w' := by
  have M := fun W => may_any ty true ⟨true, 0, []⟩ W
  rw [mayC_nullT] at M
  unfold clV clC at M
  dsimp only at M
  go_enter Try.func49, Try.ntmps49
  go_wp2_with fail
  refine (M _).mono ?_
  rintro e w1 ⟨rfl, f1⟩
  go_wp2
  go_ret
  exact ⟨rfl, f1⟩

theorem maynot_any (c : Co) (w : World) (hc : c.name.length ≤ 1000000000) : Calls Try.prog 33 #[coV c] w fun e w' => e = .returned (.bool (badC c)) ∧ Fr Non w w' := by
  obtain ⟨n, ty, nl⟩ := c
  have M := fun W => sname_any n W hc
  have T := fun W => ktype_any ty W
  have b0 := co_new w ⟨n, ty, nl⟩
  have g0 : _ = _ := b0.cell 0
  simp at g0
  unfold badC coV coC
  dsimp only
  cases hn : nameB n
  · simp only [hn] at M
    replace M := Lib.hid M
    clear T
    go_enter Try.func33, Try.ntmps33
    go_wp2_with fail
    refine (M.out _).mono ?_
    rintro e w1 ⟨rfl, f1⟩
    go_wp2
    go_ret
    exact ⟨rfl, ((Fr.refl _ _).alloc _).trans f1⟩
  · simp only [hn] at M
    replace M := Lib.hid M
    replace T := Lib.hid T
    replace b0 : Hid (CoB _ _ _) := Lib.hid b0
    go_enter Try.func33, Try.ntmps33
    go_wp2_with fail
    refine (M.out _).mono ?_
    rintro e w1 ⟨rfl, f1⟩
    have g1 := (b0.out.fr f1 (fun e => e)).cell 1
    simp at g1
    go_wp2_with fail
    refine (T.out _).mono ?_
    rintro e w2 ⟨rfl, f2⟩
    go_wp2
    go_ret
    exact ⟨ret_boolE (by simp), (((Fr.refl _ _).alloc _).trans f1).trans f2⟩

theorem idx_any (v : Value) (l : List Co) (w : World) (hv : Ks w v l) (hl : l.length ≤ 1000000000) (hb : ∀ c ∈ l, c.name.length ≤ 1000000000) :
    Calls Try.prog 48 #[v, .func (.func 33) #[] #[]] w fun e w' => ∃ z : Int, e = .returned (.int .i64 z) ∧ decide (0 ≤ z) = l.any badC ∧ Fr Non w w' := by
  obtain ⟨A, c, rfl, hlc, hn, hcell⟩ := hv
  have HC := Lib.hid hcell
  have HN := Lib.hid hn
  have HB := Lib.hid hb
  clear hcell hn hb
  go_enter Try.func48, Try.ntmps48
  go_wp2
  go_loopw [8] (fun i wr => ∃ (k : Nat), k ≤ l.length ∧ i = .int .i64 k ∧ Hid ((l.take k).any badC = false) ∧ Fr Non w wr) (fun i _ => l.length - (intOf i).toNat)
  case atStart => exact ⟨0, Nat.zero_le _, rfl, Lib.hid rfl, Fr.refl _ _⟩
  case round =>
    obtain ⟨k, hk, rfl, hne, hfr⟩ := hrel
    by_cases hlt : k < l.length
    · cases A with
      | none => have := HN.out rfl; omega
      | some a =>
        obtain ⟨hc0, hc1, hc2⟩ := co_lit ((HC.out a rfl k hlt).non hfr)
        have HY := Lib.hid (fun h => any_more hlt hne.out h)
        have HX : Hid (badC l[k] = true → l.any badC = true) := Lib.hid (fun h => List.any_eq_true.2 ⟨_, List.getElem_mem hlt, h⟩)
        have M := fun W => maynot_any l[k] W (HB.out _ (List.getElem_mem hlt))
        clear hne
        generalize l[k] = x at *
        obtain ⟨xn, xt, xb⟩ := x
        unfold coV coC at M
        dsimp only at hc0 hc1 hc2 HY HX M
        have HF := Lib.hid hfr
        clear hfr
        cases hx : badC ⟨xn, xt, xb⟩
        · have HE := Lib.hid (HY.out hx)
          simp only [hx] at M
          replace M := Lib.hid M
          clear HX HY hx
          go_wp2_with fail
          refine (M.out _).mono ?_
          rintro e w2 ⟨rfl, f2⟩
          go_wp2
          go_roundw
          case rel => exact ⟨k + 1, by omega, by go_num, HE, HF.out.trans f2⟩
          case measure => simp [intOf]; omega
        · have HE := Lib.hid (HX.out hx)
          simp only [hx] at M
          replace M := Lib.hid M
          clear HX HY hx
          go_wp2_with fail
          refine (M.out _).mono ?_
          rintro e w2 ⟨rfl, f2⟩
          go_wp2
          go_ret
          exact ⟨_, rfl, by rw [HE.out]; exact decide_eq_true (by omega), HF.out.trans f2⟩
    · have HE : Hid (l.any badC = false) := Lib.hid (by have := hne.out; rwa [List.take_of_length_le (by omega)] at this)
      clear hne
      go_wp2
      go_ret
      exact ⟨_, rfl, by rw [HE.out]; rfl, hfr⟩
theorem contains_any (v : Value) (l : List Co) (w : World) (hv : Ks w v l) (hl : l.length ≤ 1000000000) (hb : ∀ c ∈ l, c.name.length ≤ 1000000000) :
    Calls Try.prog 32 #[v, .func (.func 33) #[] #[]] w fun e w' => e = .returned (.bool (l.any badC)) ∧ Fr Non w w' := by
  have h0 := Lib.hid (idx_any v l w hv hl hb)
  clear hv hb
  go_enter Try.func32, Try.ntmps32
  go_wp2_with fail
  refine h0.out.mono ?_
  rintro e w1 ⟨z, rfl, hz, f1⟩
  go_wp2
  go_ret
  exact ⟨rfl, f1⟩

/-- the names up to k, the last one first -/
def nmsR (l : List Co) (k : Nat) : List Tx := (namesC (l.take k)).reverse
theorem nmsR_more {l : List Co} {k : Nat} (h : k < l.length) : nmsR l (k + 1) = l[k].name :: nmsR l k := by
  unfold nmsR namesC
  rw [List.take_succ_eq_append_getElem h, List.map_append, List.reverse_append]; rfl
theorem nmsR_all {l : List Co} {k : Nat} (h : k = l.length) : decide ((cntU (nmsR l k) : Int) = l.length) = decide ((namesC l).Nodup) := by
  subst h
  unfold nmsR
  rw [List.take_length]
  have h1 := cntU_all (namesC l).reverse
  rw [List.length_reverse, (List.reverse_perm (namesC l)).nodup_iff] at h1
  have h2 : (namesC l).length = l.length := by unfold namesC; rw [List.length_map]
  rw [h2] at h1
  rw [decide_eq_decide, ← h1]
  omega

set_option maxHeartbeats 1000000 in
theorem unlike_any (v : Value) (l : List Co) (w : World) (hv : Ks w v l) (hl : l.length ≤ 1000000000) (hb : ∀ c ∈ l, c.name.length ≤ 1000000000) :
    Calls Try.prog 34 #[v] w fun e w' => e = .returned (.bool (decide ((namesC l).Nodup))) ∧ Fr Non w w' := by
  obtain ⟨A, c, rfl, hlc, hn, hcell⟩ := hv
  have HC := Lib.hid hcell
  have HN := Lib.hid hn
  have HB := Lib.hid hb
  clear hcell hn hb
  have hmm := @run_makeMap Try.prog
  go_enter Try.func34, Try.ntmps34
  go_wp2
  have hm0 := MapS.made w
  have hf0 : Fr Non w (w.alloc (.map #[] 0)) := (Fr.refl _ _).alloc _
  go_loopw [9] (fun i wr => ∃ (k : Nat), k ≤ l.length ∧ i = .int .i64 k ∧ MapS wr w.heap.size k (nmsR l k) ∧ Fr Non w wr) (fun i _ => l.length - (intOf i).toNat)
  case atStart => exact ⟨0, Nat.zero_le _, rfl, hm0, hf0⟩
  case round =>
    clear hm0 hf0
    obtain ⟨k, hk, rfl, hm, hfr⟩ := hrel
    by_cases hlt : k < l.length
    · cases A with
      | none => have := HN.out rfl; omega
      | some a =>
        obtain ⟨hc0, hc1, hc2⟩ := co_lit ((HC.out a rfl k hlt).non hfr)
        have HM := Lib.hid (nmsR_more hlt)
        have hxl := HB.out _ (List.getElem_mem hlt)
        generalize l[k] = x at *
        obtain ⟨xn, xt, xb⟩ := x
        dsimp only at hc0 hc1 hc2 HM hxl
        have f1 := (Fr.refl Non wr).alloc (.cells #[.string ⟨xn.toArray⟩, .int .i64 xt, .bool xb] 52)
        have hm1 := Lib.hid (hm.fr f1 (fun e => e))
        have HF := Lib.hid (hfr.trans f1)
        have g0 := (co_new wr ⟨xn, xt, xb⟩).cell 0
        simp at g0
        clear hm hfr f1
        go_wp2_with (at_mapUpdate; refine wpList_putS _ rfl _ _ _ rfl w.heap.size k (nmsR l k) rfl hm1.out (by omega) xn (k : Int) rfl rfl (by omega) (by omega) (by omega) ?_; intro w1 hm2 hf2)
        go_roundw
        case rel => exact ⟨k + 1, by omega, by go_num, by rw [HM.out]; exact hm2, HF.out.fresh hf2 (fun q hq => by have : q = w.heap.size := hq; omega)⟩
        case measure => simp [intOf]; omega
    · have HE := Lib.hid (nmsR_all (l := l) (k := k) (by omega))
      have hlen := fun ty => hm.len ty
      clear hm
      go_wp2
      go_ret
      exact ⟨ret_boolE HE.out, hfr⟩

set_option maxHeartbeats 1000000 in
theorem scheck_any (v : Value) (l : List Co) (w : World) (hv : Ks w v l) (hl : l.length ≤ 1000000000) (hb : ∀ c ∈ l, c.name.length ≤ 1000000000) :
    Calls Try.prog 13 #[v] w fun e w' => e = .returned (.int .i64 (chkC l)) ∧ Fr Non w w' := by
  obtain ⟨A, c, rfl⟩ := hv.shape
  have HV := Lib.hid hv
  have C1 := Lib.hid (contains_any _ l w hv hl hb)
  have U1 := fun W h => unlike_any (.slice A l.length c) l W h hl hb
  replace U1 := Lib.hid U1
  clear hv hb
  by_cases h0 : l.length = 0
  · have H := Lib.hid (chk_none h0)
    go_enter Try.func13, Try.ntmps13
    go_wp2
    go_ret
    exact ⟨ret_int H.out.symm, Fr.refl _ _⟩
  · have h0b : ((l.length : Int) == 0) = false := by rw [beq_eq_false_iff_ne]; omega
    have H0 := Lib.hid h0
    clear h0
    cases ha : l.any badC
    · have HA := Lib.hid ha
      rw [ha] at C1
      clear ha
      by_cases hd : (namesC l).Nodup
      · have HD := Lib.hid hd
        rw [decide_eq_true hd] at U1
        clear hd
        by_cases h6 : 6 < l.length
        · have H := Lib.hid (chk_many H0.out HA.out HD.out h6)
          go_enter Try.func13, Try.ntmps13
          go_wp2_with fail
          refine C1.out.mono ?_
          rintro e w1 ⟨rfl, f1⟩
          go_wp2_with fail
          refine (U1.out _ (HV.out.non f1)).mono ?_
          rintro e w2 ⟨rfl, f2⟩
          go_wp2
          go_ret
          exact ⟨ret_int H.out.symm, f1.trans f2⟩
        · have H := Lib.hid (chk_ok H0.out HA.out HD.out h6)
          go_enter Try.func13, Try.ntmps13
          go_wp2_with fail
          refine C1.out.mono ?_
          rintro e w1 ⟨rfl, f1⟩
          go_wp2_with fail
          refine (U1.out _ (HV.out.non f1)).mono ?_
          rintro e w2 ⟨rfl, f2⟩
          go_wp2
          go_ret
          exact ⟨ret_int H.out.symm, f1.trans f2⟩
      · have H := Lib.hid (chk_dup hd)
        rw [decide_eq_false hd] at U1
        clear hd
        go_enter Try.func13, Try.ntmps13
        go_wp2_with fail
        refine C1.out.mono ?_
        rintro e w1 ⟨rfl, f1⟩
        go_wp2_with fail
        refine (U1.out _ (HV.out.non f1)).mono ?_
        rintro e w2 ⟨rfl, f2⟩
        go_wp2
        go_ret
        exact ⟨ret_int H.out.symm, f1.trans f2⟩
    · have H := Lib.hid (chk_any ha)
      rw [ha] at C1
      clear ha
      go_enter Try.func13, Try.ntmps13
      go_wp2_with fail
      refine C1.out.mono ?_
      rintro e w1 ⟨rfl, f1⟩
      go_wp2
      go_ret
      exact ⟨ret_int H.out.symm, f1⟩
end Go.Proofs.Ytoaeiokjaikalaa


namespace Go.Proofs.Ytoaeiokjaikalaa
set_option linter.unusedVariables false
set_option linter.unusedSimpArgs false
set_option maxRecDepth 100000
open Go.RowKit

theorem no_other {α : Type} {f : α → List Value} {k : Nat} {E t : TypeId} {w : World} {B g : Nat} {v : Value} {l : List α} {cs : Array Value} (h : No f k E w B v l) (hb : Blk w g t cs) (hne : E ≠ t) : ∀ b, v.ownBlock = some b → b ≠ g := by
  rintro b hk rfl
  obtain ⟨cur, h1⟩ := h.kind b hk
  unfold Blk at hb
  rw [hb] at h1
  simp at h1
  exact hne h1.2.symm
theorem co_ne_src : 52 ≠ 60 := by decide
/-- as a walk spells them, of a row -/
theorem ko_lit {w : World} {B g n cap : Nat} {l : List Co} (h : Ko w B (.slice (some ⟨g, 0, none⟩) n cap) l) (hn : n = l.length) (j : Nat) (x : Co) (hx : l[j]? = some x) :
    w.cell? ⟨g, j * 3, none⟩ = some (.string ⟨x.name.toArray⟩) ∧ w.cell? ⟨g, j * 3 + 1, none⟩ = some (.int .i64 x.ty) ∧ w.cell? ⟨g, j * 3 + 2, none⟩ = some (.bool x.nl) :=
  ⟨h.el fd_co hn j 0 x _ hx rfl, h.el fd_co hn j 1 x _ hx rfl, h.el fd_co hn j 2 x _ hx rfl⟩

set_option maxHeartbeats 4000000 in
theorem kread_any (g : Nat) (l : List UInt8) (bad : Bool) (w : World) (h : Src w g l bad) :
    Calls Try.prog 37 #[ptr g] w fun e w' => ∃ v, e = .returned v ∧ Ko w' w.heap.size v (rdK l).1 ∧ Src w' g (rdK l).2.1 (rdK l).2.2 ∧ Fr (One g) w w' := by
  have hg := h.1.lt
  have h0 := below_any g l bad 7 w h (by omega)
  rw [show (7 : Int) - 1 = 6 by rfl] at h0
  have hn6 := mostK_le l (show (0 : Int) ≤ 6 by omega)
  have HE : Hid (rdK l = rdCs (mostV l 6) (mostR l 6) (mostB l 6)) := Lib.hid rfl
  generalize rdK l = X at *
  generalize mostV l 6 = n at *
  generalize mostR l 6 = l1 at *
  generalize mostB l 6 = b1 at *
  clear h
  go_enter Try.func37, Try.ntmps37
  go_wp2_with fail
  refine h0.mono ?_
  rintro e w1 ⟨rfl, s1, f1⟩
  clear h0
  go_wp2_with (at_make; refine wpList_mkN fd_co eln_co noCo rfl rfl _ _ rfl _ _ _ _ n rfl rfl rfl rfl (by omega) ?_; intro w2 hown2 hf2)
  have s2 := s1.fr hf2 (fun e => e)
  have F2 := f1.trans hf2.any
  have hR := f1.size
  generalize hr : w1.heap.size = r at *
  have HRl := Lib.hid (Nat.le_of_eq hr)
  clear hr s1 f1 hf2
  go_loopw [11] (fun i wr => ∃ (k : Nat) (D : List Co) (q : List UInt8) (bad' : Bool), k ≤ n ∧ i = .int .i64 k ∧ Hid (ToK n l1 b1 k D q bad') ∧ Src wr g q bad' ∧ Ko wr r (.slice (some ⟨r, 0, none⟩) n n) (D ++ List.replicate (n - k) noCo) ∧ Fr (One g) w wr) (fun i _ => n - (intOf i).toNat)
  case atStart => exact ⟨0, [], l1, b1, Nat.zero_le _, rfl, Lib.hid (toK_zero n l1 b1), s2, hown2, F2⟩
  case round =>
    clear s2 hown2 F2
    obtain ⟨k, D, q, bad', hk, rfl, HT, hs, hO, hF⟩ := hrel
    by_cases hlt : k < n
    · have hD := HT.out.len
      have HL := Lib.hid (show n = (D ++ List.replicate (n - k) noCo).length by simp; omega)
      have hrg := no_other hO hs.1 co_ne_src r rfl
      have HT2 := Lib.hid (toK_step HT.out hlt)
      have T1 := Lib.hid (stext_any g q bad' 12 wr hs (by omega))
      have T2 := Lib.hid (fun W s => below_any g (txtR q 12) (txtB q 12) 8 W s (by omega))
      rw [show (8 : Int) - 1 = 7 by rfl] at T2
      have hm7 := mostK_le (txtR q 12) (show (0 : Int) ≤ 7 by omega)
      unfold rdCo at HT2
      generalize txtT q 12 = nm at *
      generalize mostV (txtR q 12) 7 = m at *
      generalize mostR (txtR q 12) 7 = q2 at *
      generalize mostB (txtR q 12) 7 = bad2 at *
      generalize txtR q 12 = q1 at *
      generalize txtB q 12 = bad1 at *
      have hat0 := rep_at D (n - k) noCo (by omega)
      have hset := rep_set D (n - k) noCo ⟨nm, (m / 2 : Nat), decide (m % 2 = 1)⟩ (by omega)
      rw [hD] at hat0 hset
      rw [show n - k - 1 = n - (k + 1) by omega] at hset
      have HSet := Lib.hid hset
      clear HT hset
      replace hO := Lib.hid hO
      replace hF := Lib.hid hF
      clear hs
      go_wp2_with fail
      refine T1.out.mono ?_
      rintro e w3 ⟨rfl, s3, f3⟩
      have hO3 := hO.out.fr f3 (fun b hb e => by have h1 : b = g := e; have h2 : r = b := (by simpa [Value.ownBlock] using hb); omega)
      have hF3 := Lib.hid (hF.out.trans f3)
      clear T1 hO hF f3
      obtain ⟨c0, c1, c2⟩ := ko_lit hO3 HL.out k _ hat0
      have z0 := hO3.frozen HL.out (k * 3)
      have hO4 := hO3.put fd_co HL.out k 0 ⟨nm, 0, false⟩ noCo (.string ⟨nm.toArray⟩) hat0 (by omega) rfl
      have fs := (Fr.refl (One r) w3).set1 (k * 3 + 0) (.string ⟨nm.toArray⟩)
      rw [Nat.add_zero] at hO4 fs
      have s4 := s3.fr fs (fun e => hrg e.symm)
      have hF4 := Lib.hid (hF3.out.fresh fs (fun b e => by have h1 : b = r := e; omega))
      have hat1 : ((D ++ List.replicate (n - k) noCo).set k ⟨nm, 0, false⟩)[k]? = some ⟨nm, 0, false⟩ := by rw [List.getElem?_set_self]; have := HL.out; omega
      have HL1 := Lib.hid (show n = ((D ++ List.replicate (n - k) noCo).set k ⟨nm, 0, false⟩).length by rw [List.length_set]; exact HL.out)
      replace hO4 := Lib.hid hO4
      replace s4 := Lib.hid s4
      unfold noCo at c0 c1 c2
      dsimp only at c0 c1 c2
      clear hO3 hF3 s3 fs hat0
      go_wp2_with fail
      refine (T2.out _ s4.out).mono ?_
      rintro e w5 ⟨rfl, s5, f5⟩
      clear c0 c1 c2 z0
      have hO5 := hO4.out.fr f5 (fun b hb e => by have h1 : b = g := e; have h2 : r = b := (by simpa [Value.ownBlock] using hb); omega)
      have hF5 := Lib.hid (hF4.out.trans f5)
      clear T2 hO4 hF4 s4 f5
      have eq1 : ((m : Int) / 2) = ((m / 2 : Nat) : Int) := rfl
      have eq2 : ((m : Int) % 2 == 1) = decide (m % 2 = 1) := by rw [Bool.eq_iff_iff, beq_iff_eq, decide_eq_true_iff]; omega
      have hO6 := hO5.put fd_co HL1.out k 1 ⟨nm, (m / 2 : Nat), false⟩ _ (.int .i64 ((m : Int) / 2)) hat1 (by omega) (by rw [eq1]; rfl)
      have fs := (Fr.refl (One r) w5).set1 (k * 3 + 1) (.int .i64 ((m : Int) / 2))
      have fs2 := fs.set1 (k * 3 + 2) (.bool ((m : Int) % 2 == 1))
      have hat2 : (((D ++ List.replicate (n - k) noCo).set k ⟨nm, 0, false⟩).set k ⟨nm, (m / 2 : Nat), false⟩)[k]? = some ⟨nm, (m / 2 : Nat), false⟩ := by rw [List.getElem?_set_self]; rw [List.length_set]; have := HL.out; omega
      have hO7 := hO6.put fd_co (by rw [List.length_set]; exact HL1.out) k 2 ⟨nm, (m / 2 : Nat), decide (m % 2 = 1)⟩ _ (.bool ((m : Int) % 2 == 1)) hat2 (by omega) (by rw [eq2]; rfl)
      rw [List.set_set, List.set_set, HSet.out] at hO7
      have s7 := Lib.hid (s5.fr fs2 (fun e => hrg e.symm))
      have hF7 := Lib.hid (hF5.out.fresh fs2 (fun b e => by have h1 : b = r := e; omega))
      obtain ⟨c0, c1, c2⟩ := ko_lit hO5 HL1.out k _ hat1
      have z1 := hO5.frozen HL1.out (k * 3 + 1)
      have z2 := hO5.frozen HL1.out (k * 3 + 2)
      replace hO7 := Lib.hid hO7
      have hrl := (hO5.lt r rfl).2
      clear hO5 hF5 s5 fs fs2 hO6 hat1 hat2 HSet HL HL1 eq1 eq2
      dsimp only at c0 c1 c2
      go_wp2_with fail
      go_roundw
      case rel => exact ⟨k + 1, _, _, _, by omega, by go_num, HT2, s7.out, hO7.out, hF7.out⟩
      case measure => simp [intOf]; omega
    · have hE := toK_end HT.out (show k = n by omega)
      rw [show n - k = 0 by omega, List.replicate_zero, List.append_nil] at hO
      have HE2 := Lib.hid hE
      clear hE HT
      go_wp2
      go_ret
      refine ⟨_, rfl, ?_, ?_, hF⟩
      · rw [HE.out, HE2.out.1]; exact hO.mono (by have := HRl.out; omega)
      · rw [HE.out, HE2.out.2.1, HE2.out.2.2]; exact hs

set_option maxHeartbeats 1000000 in
theorem ktake_any (g : Nat) (l : List UInt8) (bad : Bool) (w : World) (h : Src w g l bad) :
    Calls Try.prog 19 #[ptr g] w fun e w' => ∃ v, e = .returned v ∧ Ko w' w.heap.size v (tkK l).1 ∧ Src w' g (tkK l).2.1 (tkK l).2.2 ∧ Fr (One g) w w' := by
  have hg := h.1.lt
  have h0 := Lib.hid (kread_any g l bad w h)
  have HY := Lib.hid (fun h1 h2 => tkK_yes (l := l) h1 h2)
  have HB := Lib.hid (fun h1 => tkK_bad (l := l) h1)
  have HX := Lib.hid (fun h1 => tkK_not (l := l) h1)
  have HS := Lib.hid (rdK_small l)
  clear h
  generalize tkK l = T at *
  generalize rdK l = R at *
  obtain ⟨cs, r, b⟩ := R
  dsimp only at h0 HY HB HX HS
  go_enter Try.func19, Try.ntmps19
  go_wp2_with fail
  refine h0.out.mono ?_
  rintro e w1 ⟨v, rfl, hO, hs, f1⟩
  have K1 := ok_any g r b w1 hs
  have hv := hO.ns fd_co
  obtain ⟨A, c, rfl⟩ := hv.shape
  cases b
  · replace K1 := Lib.hid K1
    have C1 := Lib.hid (scheck_any _ cs w1 hv (by have := HS.out.1; omega) HS.out.2)
    have HO := Lib.hid hO
    have F1 := Lib.hid f1
    have S1 := Lib.hid hs
    clear h0 hO f1 hv hs HB
    go_wp2_with fail
    refine K1.out.mono ?_
    rintro e w2 ⟨rfl, rfl⟩
    clear K1
    go_wp2_with fail
    refine C1.out.mono ?_
    rintro e w3 ⟨rfl, f3⟩
    have hs3 := S1.out.fr f3 (fun e => e)
    have F3 := Lib.hid (F1.out.then f3)
    clear C1 F1 S1
    by_cases hc : chkC cs = 0
    · have hb : ((chkC cs) != 0) = false := by rw [hc]; rfl
      have HE := Lib.hid (HY.out (by first | rfl | trivial) hc)
      have hO3 := HO.out.non f3
      clear HY HX hc HO f3
      go_wp2
      go_ret
      rw [HE.out]
      exact ⟨_, rfl, hO3, hs3, F3.out⟩
    · have hb : ((chkC cs) != 0) = true := by rw [bne_iff_ne]; exact hc
      have HE := Lib.hid (HX.out hc)
      clear HY HX hc HO f3
      go_wp2_with fail
      refine (fail_any g _ _ _ hs3).mono ?_
      rintro e w4 ⟨rfl, hs4, f4⟩
      go_wp2
      go_ret
      rw [HE.out]
      exact ⟨_, rfl, no_nil _ _, hs4, F3.out.trans f4⟩
  · have HE := Lib.hid (HB.out rfl)
    replace K1 := Lib.hid K1
    have F1 := Lib.hid f1
    clear h0 hO f1 hv HB HY HX
    go_wp2_with fail
    refine K1.out.mono ?_
    rintro e w2 ⟨rfl, rfl⟩
    clear K1
    go_wp2_with fail
    refine (fail_any g _ _ _ hs).mono ?_
    rintro e w4 ⟨rfl, hs4, f4⟩
    go_wp2
    go_ret
    rw [HE.out]
    exact ⟨_, rfl, no_nil _ _, hs4, F1.out.trans f4⟩
end Go.Proofs.Ytoaeiokjaikalaa


namespace Go.Proofs.Ytoaeiokjaikalaa
set_option linter.unusedVariables false
set_option linter.unusedSimpArgs false
set_option maxRecDepth 100000
open Go.RowKit

theorem badC_no {n : Tx} {ty : Int} {nl : Bool} (h : nameB n = true) (h1 : ¬ ty < 1) (h2 : ¬ 3 < ty) : badC ⟨n, ty, nl⟩ = false := by
  unfold badC; dsimp only; rw [h]
  have : isTy ty = true := by simp [isTy]; omega
  rw [this]; rfl
theorem badC_name {n : Tx} {ty : Int} {nl : Bool} (h : nameB n = false) : badC ⟨n, ty, nl⟩ = true := by
  unfold badC; dsimp only; rw [h]; rfl
theorem badC_ty {n : Tx} {ty : Int} {nl : Bool} (h : ty < 1 ∨ 3 < ty) : badC ⟨n, ty, nl⟩ = true := by
  unfold badC; dsimp only
  have : isTy ty = false := by simp [isTy]; omega
  rw [this]; simp

set_option maxHeartbeats 2000000 in
theorem rcheck_any (v : Value) (l : List Co) (w : World) (hv : Ks w v l) (hl : l.length ≤ 1000000000) (hb : ∀ c ∈ l, c.name.length ≤ 1000000000) :
    Calls Try.prog 14 #[v] w fun e w' => e = .returned (.int .i64 (chkC l)) ∧ Fr Non w w' := by
  obtain ⟨A, c, rfl, hlc, hn, hcell⟩ := hv
  have HC := Lib.hid hcell
  have HN := Lib.hid hn
  have HB := Lib.hid hb
  clear hcell hn hb
  go_enter Try.func14, Try.ntmps14
  go_wp2
  go_loopw [3] (fun i wr => ∃ (k : Nat), k ≤ l.length ∧ i = .int .i64 k ∧ Hid ((l.take k).any badC = false) ∧ Hid ((namesC (l.take k)).Nodup) ∧ Fr Non w wr) (fun i _ => l.length - (intOf i).toNat)
  case atStart => exact ⟨0, Nat.zero_le _, rfl, Lib.hid rfl, Lib.hid (by simp [namesC]), Fr.refl _ _⟩
  case round =>
    obtain ⟨k, hk, rfl, hany, hnd, hfr⟩ := hrel
    by_cases hlt : k < l.length
    · cases A with
      | none => have := HN.out rfl; omega
      | some a =>
        have HF := Lib.hid hfr
        obtain ⟨hc0, hc1, hc2⟩ := co_lit ((HC.out a rfl k hlt).non hfr)
        have HX : Hid (badC l[k] = true → chkC l = 1) := Lib.hid (fun h => chk_bad hlt h)
        have HY : Hid (badC l[k] = false → (l.take (k + 1)).any badC = false) := Lib.hid (fun h => any_more hlt hany.out h)
        have HD : Hid (∀ j (hj : j < l.length), j < k → l[j].name = l[k].name → chkC l = 1) := Lib.hid (fun j hj hjk h => chk_dup (nodup_not hlt hjk h))
        have HU : Hid ((∀ j (hj : j < l.length), j < k → l[j].name ≠ l[k].name) → (namesC (l.take (k + 1))).Nodup) := Lib.hid (fun h => nodup_more hlt hnd.out h)
        have M := fun W => rname_any l[k].name W (HB.out _ (List.getElem_mem hlt))
        have HK := Lib.hid (HC.out a rfl k hlt)
        clear hany hnd hfr
        generalize l[k] = x at *
        obtain ⟨xn, xt, xb⟩ := x
        dsimp only at hc0 hc1 hc2 HX HY HD HU M
        cases hm : nameB xn
        · have HE := Lib.hid (HX.out (badC_name hm))
          simp only [hm] at M
          replace M := Lib.hid M
          clear HX HY HD HU hm
          go_wp2_with fail
          refine (M.out _).mono ?_
          rintro e w1 ⟨rfl, f1⟩
          go_wp2
          go_ret
          exact ⟨ret_int HE.out.symm, HF.out.trans f1⟩
        · have HM := Lib.hid hm
          simp only [hm] at M
          replace M := Lib.hid M
          clear hm
          go_wp2_with fail
          refine (M.out _).mono ?_
          rintro e w1 ⟨rfl, f1⟩
          have hF1 := HF.out.trans f1
          clear hc0 hc1 hc2
          obtain ⟨hc0, hc1, hc2⟩ := co_lit (HK.out.non hF1)
          dsimp only at hc0 hc1 hc2
          replace hF1 := Lib.hid hF1
          clear HF f1 M
          by_cases t1 : xt < 1
          · have HE := Lib.hid (HX.out (badC_ty (.inl t1)))
            clear HX HY HD HU
            go_wp2
            go_ret
            exact ⟨ret_int HE.out.symm, hF1.out⟩
          · by_cases t3 : 3 < xt
            · have HE := Lib.hid (HX.out (badC_ty (.inr t3)))
              clear HX HY HD HU
              go_wp2
              go_ret
              exact ⟨ret_int HE.out.symm, hF1.out⟩
            · have HE := Lib.hid (HY.out (badC_no HM.out t1 t3))
              clear HX HY
              go_wp2
              go_loopw [4] (fun i wx => ∃ q : Nat, q ≤ k ∧ i = .int .i64 q ∧ Hid (∀ j (hj : j < l.length), j < q → l[j].name ≠ xn) ∧ ∃ n, wx = w1.drewN n) (fun i _ => k - (intOf i).toNat)
              case atStart => exact ⟨0, Nat.zero_le _, rfl, Lib.hid (fun _ _ h => by omega), 0, rfl⟩
              case round =>
                obtain ⟨q, hq, rfl, hne, n, rfl⟩ := hrel
                by_cases hqk : q < k
                · have hql : q < l.length := by omega
                  have HZ : Hid (l[q].name = xn → chkC l = 1) := Lib.hid (HD.out q hql hqk)
                  have HW := Lib.hid (fun h => ne_more hql hne.out h)
                  obtain ⟨y0, y1, y2⟩ := co_lit ((HC.out a rfl q hql).non hF1.out)
                  clear hne
                  generalize l[q] = y at *
                  obtain ⟨yn, yt, yb⟩ := y
                  dsimp only at y0 y1 y2 HZ HW
                  by_cases he : yn = xn
                  · have H := Lib.hid (HZ.out he)
                    have hbe : (yn == xn) = true := by rw [beq_iff_eq]; exact he
                    clear HZ HW he
                    go_wp2
                    go_quiet (fail)
                    go_wp2
                    go_ret
                    exact ⟨ret_int H.out.symm, (hF1.out.drewN n).drewN _⟩
                  · have H := Lib.hid (HW.out he)
                    have hbe : (yn == xn) = false := by rw [beq_eq_false_iff_ne]; exact he
                    clear HZ HW he
                    go_wp2
                    go_quiet (fail)
                    go_wp2
                    go_roundw
                    case rel => exact ⟨q + 1, by omega, by go_num, H, _, rfl⟩
                    case measure => simp [intOf]; omega
                · have H := Lib.hid (HU.out (fun j hj hjk => hne.out j hj (by omega)))
                  clear HU HD hne
                  go_wp2
                  go_roundw
                  case rel => exact ⟨k + 1, by omega, by go_num, HE, H, hF1.out.drewN n⟩
                  case measure => simp [intOf]; omega
    · have HA : Hid (l.any badC = false) := Lib.hid (by have := hany.out; rwa [List.take_of_length_le (by omega)] at this)
      have HD : Hid ((namesC l).Nodup) := Lib.hid (by have := hnd.out; rwa [List.take_of_length_le (by omega)] at this)
      clear hany hnd
      by_cases h0 : l.length = 0
      · have H := Lib.hid (chk_none h0)
        go_wp2
        go_ret
        exact ⟨ret_int H.out.symm, hfr⟩
      · have h0b : ((l.length : Int) == 0) = false := by rw [beq_eq_false_iff_ne]; omega
        have H0 := Lib.hid h0
        clear h0
        by_cases h6 : 6 < l.length
        · have H := Lib.hid (chk_many H0.out HA.out HD.out h6)
          go_wp2
          go_ret
          exact ⟨ret_int H.out.symm, hfr⟩
        · have H := Lib.hid (chk_ok H0.out HA.out HD.out h6)
          go_wp2
          go_ret
          exact ⟨ret_int H.out.symm, hfr⟩

theorem knum_any (z : Int) (w : World) : Calls Try.prog 12 #[.int .i64 z] w fun e w' => e = .returned (.int .i64 z) ∧ w = w' := by
  go_enter Try.func12, Try.ntmps12
  go_wp2
  go_ret
  exact ⟨rfl, rfl⟩

set_option maxHeartbeats 1000000 in
theorem ksmall_any (v : Value) (l : List Co) (w : World) (hv : Ks w v l) :
    Calls Try.prog 6 #[v] w fun e w' => ∃ b, e = .returned (.bool b) ∧ (b = true → l.length ≤ 20 ∧ ∀ c ∈ l, c.name.length ≤ 100) ∧ Fr Non w w' := by
  obtain ⟨A, c, rfl, hlc, hn, hcell⟩ := hv
  have HC := Lib.hid hcell
  have HN := Lib.hid hn
  clear hcell hn
  go_enter Try.func6, Try.ntmps6
  go_wp2
  go_loopw [3] (fun i wr => ∃ (k : Nat), k ≤ l.length ∧ k ≤ 30 ∧ i = .int .i64 k ∧ Hid (∀ j (h : j < l.length), j < k → l[j].name.length ≤ 100) ∧ Fr Non w wr) (fun i _ => 30 - (intOf i).toNat)
  case atStart => exact ⟨0, Nat.zero_le _, Nat.zero_le _, rfl, Lib.hid (fun _ _ h => by omega), Fr.refl _ _⟩
  case round =>
    obtain ⟨k, hk, hk2, rfl, HS, hfr⟩ := hrel
    by_cases hlt : k < l.length
    · by_cases h30 : k < 30
      · cases A with
        | none => have := HN.out rfl; omega
        | some a =>
          obtain ⟨hc0, hc1, hc2⟩ := co_lit ((HC.out a rfl k hlt).non hfr)
          have HY : Hid (l[k].name.length ≤ 100 → ∀ j (h : j < l.length), j < k + 1 → l[j].name.length ≤ 100) := Lib.hid (fun h j hj hjk => by
            by_cases e : j = k
            · subst e; exact h
            · exact HS.out j hj (by omega))
          clear HS
          generalize l[k] = x at *
          obtain ⟨xn, xi, xt⟩ := x
          dsimp only at hc0 hc1 hc2 HY
          have hs := slenN xn
          by_cases hx : 100 < xn.length
          · go_wp2
            go_ret
            exact ⟨false, rfl, (fun h => by cases h), hfr⟩
          · have H := Lib.hid (HY.out (by omega))
            clear HY
            go_wp2
            go_roundw
            case rel => exact ⟨k + 1, by omega, by omega, by go_num, H, hfr⟩
            case measure => simp [intOf]; omega
      · go_wp2
        go_ret
        exact ⟨_, rfl, (fun h => by have := of_decide_eq_true h; omega), hfr⟩
    · have H : Hid (∀ c ∈ l, c.name.length ≤ 100) := Lib.hid (fun c hc => by
        obtain ⟨j, hj, rfl⟩ := List.mem_iff_getElem.1 hc
        exact HS.out j hj (by omega))
      clear HS
      go_wp2
      go_ret
      exact ⟨_, rfl, (fun h => ⟨by have := of_decide_eq_true h; omega, H.out⟩), hfr⟩

theorem nameB_a_1 : nameB [97, 95, 49] = true := by decide +kernel
theorem nameB_1a : nameB [49, 97] = false := by decide +kernel
theorem nameB_and : nameB [97, 110, 100] = false := by decide +kernel
theorem nameB_A : nameB [65] = false := by decide +kernel
theorem chkC_a : chkC [⟨[97], 1, false⟩] = 0 := by decide +kernel

set_option maxHeartbeats 1000000 in
theorem klive_any (w : World) : Calls Try.prog 7 #[] w fun e w' => e = .returned (.bool true) ∧ Fr Non w w' := by
  have N1 := fun W => sname_any [97, 95, 49] W (by decide)
  have N2 := fun W => sname_any [49, 97] W (by decide)
  have N3 := fun W => sname_any [97, 110, 100] W (by decide)
  have N4 := fun W => sname_any [65] W (by decide)
  rw [nameB_a_1] at N1
  rw [nameB_1a] at N2
  rw [nameB_and] at N3
  rw [nameB_A] at N4
  have C1 := fun W => scheck_any (.slice (some ⟨W.heap.size, 0, none⟩) 1 1) [⟨[97], 1, false⟩] _ ((no_lit (E := 52) fd_co W 0 _ [⟨[97], 1, false⟩] #[.string ⟨#[97]⟩, .int .i64 1, .bool false] rfl rfl (Nat.zero_le _) (by decide)).ns fd_co) (by decide) (by simp)
  rw [chkC_a] at C1
  replace N1 := Lib.hid N1
  replace N2 := Lib.hid N2
  replace N3 := Lib.hid N3
  replace N4 := Lib.hid N4
  replace C1 := Lib.hid C1
  go_enter Try.func7, Try.ntmps7
  go_wp2_with fail
  refine (N1.out _).mono ?_
  rintro e w1 ⟨rfl, f1⟩
  go_wp2_with fail
  refine (N2.out _).mono ?_
  rintro e w2 ⟨rfl, f2⟩
  go_wp2_with fail
  refine (N3.out _).mono ?_
  rintro e w3 ⟨rfl, f3⟩
  go_wp2_with fail
  refine (N4.out _).mono ?_
  rintro e w4 ⟨rfl, f4⟩
  go_wp2_with fail
  refine (C1.out _).mono ?_
  rintro e w5 ⟨rfl, f5⟩
  go_wp2_with fail
  refine (knum_any 0 _).mono ?_
  rintro e w6 ⟨rfl, rfl⟩
  go_wp2
  go_ret
  exact ⟨rfl, ((((f1.trans f2).trans f3).trans f4).alloc _).trans f5⟩
end Go.Proofs.Ytoaeiokjaikalaa
