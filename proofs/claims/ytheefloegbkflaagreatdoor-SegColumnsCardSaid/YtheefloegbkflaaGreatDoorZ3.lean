/-
  Joined: Layer 1, what is read: contracts of the document's own source, S. · Layer 1, what is read: contracts of the document's own source: Int, Below, Take, Text, End. · What is read: its length, a number's own bytes; a list's beginning filled. · Layer 10: chunk.may, part, join. · Layer 5: the walks of runs.run, runs.Put, firkinref05.Put, firkinref05.Same. · Append of bytes onto bytes of the call's own, as one step of a region that draws. · Layer 5: the walk of runs.Get. · Layer 6: the walks of delta's closures, delta.Put, firkinref06.Put. · Layer 6: the walks of delta.Get, firkinref06.Get. · Layer 10: chunk.putEach, getEach. · The frame of a law's proof, for any parameters: where the call returned true and turned nothing that was there, the row's words hold. · Arguments opened: a slice of one-celled elements of any type; of truths; of whole numbers. · Slices of texts: a text's cell; what their type is. · Slices of texts: what one reads as; the document's Names; a slice of texts that came in. · A map of texts to numbers of the call's own: which texts it has (ks), and what it says of each (g); made, written, asked, its keys in order. · Layer 1, what is read: the contract of the document's own source's Text; what the page's examples come to.
-/
import Derived.Deep.RegionHeld3
import Derived.StillTail
import Derived.Test.YtheefloegbkflaaGreatDoorZ2
import Derived.Test.YtheefloegbkflaaGreatDoorZ1
import Derived.WalkMore
import Derived.Deep.QuietTactic
import Derived.BigQuiet
import Derived.Deep.DrawnRows
import Derived.Test.YtheefloegbkflaaGreatDoorRows
import Derived.ProofKit
import Derived.OpenShut
import Derived.ShutString
import Derived.ChangeOld
import Derived.Below
import Derived.Deep.Slices
import Derived.Test.YtheefloegbkflaaGreatDoorKeys
import Derived.Maps.OwnSet
import Derived.Maps.OwnOps

namespace Go.Proofs.YtheefloegbkflaaGreatDoor
set_option linter.unusedVariables false
set_option linter.unusedSimpArgs false
set_option maxRecDepth 100000
open Go.RowKit

/-- the document's source in block g; its bytes lie outside the blocks of S, g among them -/
def SAt (w : World) (g : Nat) (S : Nat → Prop) (l : List UInt8) (bad : Bool) : Prop :=
  ∃ v, Blk w g 88 #[v, .bool bad] ∧ Bs w v l ∧ (∀ k, v.ownBlock = some k → ¬ S k) ∧ S g ∧ (bad = true → l = [])

theorem SAt.fr {S S' : Nat → Prop} {w w' : World} {g : Nat} {l : List UInt8} {bad : Bool} (h : SAt w g S l bad) (hf : Fr S' w w') (hn : ¬ S' g) (hs : ∀ k, S' k → S k) : SAt w' g S l bad := by
  obtain ⟨v, h1, h2, h3, h4, h5⟩ := h
  exact ⟨v, h1.fr hf hn, h2.fr hf fun k hk e => h3 k hk (hs k e), h3, h4, h5⟩

theorem rfail_any (g : Nat) (S : Nat → Prop) (l : List UInt8) (bad : Bool) (w : World) (h : SAt w g S l bad) :
    Calls Tryz.prog 47 #[ptr g] w fun e w' => e = .returned (.tuple #[]) ∧ SAt w' g S [] true ∧ Fr (One g) w w' := by
  obtain ⟨v, h1, h2, h3, h4, h5⟩ := h
  have hc0 := h1.cell 0
  have hc1 := h1.cell 1
  have hf0 := h1.frozen 0
  have hf1 := h1.frozen 1
  have HB := Lib.hid h1
  simp at hc0 hc1
  clear h1 h2 h3 h5
  go_enter Tryz.func47, Tryz.ntmps47
  go_wp2
  go_end0
  refine ⟨rfl, ⟨.slice none 0 0, ?_, Bs.nil_ _, (fun k hk => by cases hk), h4, fun _ => rfl⟩, ((Fr.refl _ _).set1 _ _).set1 _ _⟩
  exact (HB.out.set 1 _).set 0 _

theorem SAt.step {w : World} {g : Nat} {S : Nat → Prop} {l l' : List UInt8} {bad : Bool} {v v' : Value} (hB : Blk w g 88 #[v, .bool bad]) (h3 : ∀ k, v.ownBlock = some k → ¬ S k) (h4 : S g)
    (h5 : bad = true → l = []) (hne : l ≠ []) (hbs : Bs w v' l') (hown : v'.ownBlock = v.ownBlock) : SAt (w.setCell ⟨g, 0, none⟩ v') g S l' false := by
  obtain rfl : bad = false := by cases bad with | true => exact absurd (h5 rfl) hne | false => rfl
  have hn : ∀ k, v'.ownBlock = some k → ¬ S k := fun k hk => h3 k (by rw [← hown]; exact hk)
  exact ⟨v', hB.set 0 _, hbs.fr ((Fr.refl (One g) w).set1 0 v') (fun k hk e => hn k hk (by rw [show k = g from e]; exact h4)), hn, h4, fun h => by cases h⟩

theorem or_sum {k acc x : Nat} (hk : k ≤ 9) (ha : acc < 128 ^ k) (hx : x < 128) (h9 : k = 9 → x ≤ 1) :
    IntKind.u64.wrap ((acc : Int) + IntKind.u64.wrap ((x : Int) * 2 ^ (7 * k))) = ((acc + x * 128 ^ k : Nat) : Int) := by
  have hle : (128 : Nat) ^ k ≤ 128 ^ 9 := Nat.pow_le_pow_right (by decide) hk
  rw [pow128_9] at hle
  have hlt : acc + x * 128 ^ k < 18446744073709551616 := by
    by_cases h : k = 9
    · subst h
      have := h9 rfl
      rw [pow128_9] at ha ⊢
      clear hle
      omega
    · have hle8 : (128 : Nat) ^ k ≤ 128 ^ 8 := Nat.pow_le_pow_right (by decide) (by omega)
      rw [pow128_8] at hle8
      have := Nat.mul_le_mul (show x ≤ 127 by omega) hle8
      omega
  rw [pow27, show ((x : Int) * ((128 ^ k : Nat) : Int)) = ((x * 128 ^ k : Nat) : Int) by push_cast; rfl, IntWalk.u64_in ((x * 128 ^ k : Nat) : Int) ⟨by omega, by omega⟩, IntWalk.u64_in _ ⟨by omega, by omega⟩]
  omega

set_option maxHeartbeats 1000000 in
set_option maxRecDepth 20000 in
theorem rsnum_any (g : Nat) (S : Nat → Prop) (l : List UInt8) (bad : Bool) (w : World) (h : SAt w g S l bad) (hl : l.length < 1000000000) :
    Calls Tryz.prog 83 #[ptr g] w fun e w' => e = .returned (.int .u64 (fstN l)) ∧ SAt w' g S (rest l) (fell l) ∧ Fr (One g) w w' := by
  have hfail := rfail_any g S l bad w h
  obtain ⟨v, h1, h2, h3, h4, h5⟩ := h
  have HBs := Lib.hid h2
  have H3 := Lib.hid h3
  obtain ⟨A, cap, rfl, hcap, hA, hcells⟩ := h2
  have hc0 := h1.cell 0
  have hf0 := h1.frozen 0
  have HB := Lib.hid h1
  have H5 := Lib.hid h5
  simp at hc0
  clear h1 h3 h5
  go_enter Tryz.func83, Tryz.ntmps83
  go_wp2
  go_loop [3, 4] (fun n i => ∃ k acc : Nat, k ≤ 9 ∧ k ≤ l.length ∧ i = .int .i64 k ∧ n = .int .u64 acc ∧ acc < 128 ^ k ∧ rd 0 0 l = rd k acc (l.drop k)) (fun _ i => l.length - (intOf i).toNat)
  case atStart => exact ⟨0, 0, by omega, by omega, rfl, rfl, by decide, by simp⟩
  case round =>
    obtain ⟨k, acc, hk9, hk, rfl, rfl, hacc, hrd⟩ := hrel
    by_cases hlt : k < l.length
    · obtain ⟨c, hc⟩ : ∃ c, l[k] = c := ⟨_, rfl⟩
      rw [drop_at hlt hc] at hrd
      cases A with
      | none => exact absurd (hA rfl) (by omega)
      | some a =>
        have hcell := hcells a rfl k hlt
        rw [hc] at hcell
        unfold bv at hcell
        clear hc hcells hA
        have hc256 : c.toNat < 256 := c.toNat_lt
        by_cases hbad : (k = 9 ∧ 1 < c.toNat) ∨ (0 < k ∧ c.toNat = 0)
        · have HN := Lib.hid (rest_none (hrd.trans (rd_bad hbad)))
          clear hrd hacc
          by_cases c0 : c.toNat = 0
          · obtain rfl : c = 0 := by apply UInt8.toNat_inj.1; simpa using c0
            have b1 : 0 < k := by rcases hbad with ⟨_, hb2⟩ | ⟨hb1, _⟩ <;> omega
            simp at hcell
            clear c0 hbad hc256
            by_cases b9 : 9 ≤ k
            all_goals
              go_wp2_with fail
              refine hfail.mono ?_
              rintro e w2 ⟨rfl, hs2, hf2⟩
              go_wp2
              go_ret
              rw [HN.out.1, HN.out.2.1, HN.out.2.2.1]
              exact ⟨rfl, hs2, hf2⟩
          · have b1 : 9 ≤ k := by omega
            have b2 : 1 < c.toNat := by omega
            clear c0 hbad
            go_wp2_with fail
            refine hfail.mono ?_
            rintro e w2 ⟨rfl, hs2, hf2⟩
            go_wp2
            go_ret
            rw [HN.out.1, HN.out.2.1, HN.out.2.2.1]
            exact ⟨rfl, hs2, hf2⟩
        · have hS := or_sum (x := c.toNat % 128) hk9 hacc (by omega) (by omega)
          rw [show ((c.toNat % 128 : Nat) : Int) = (c.toNat : Int) % 128 by omega] at hS
          by_cases c0 : c.toNat = 0
          · have HN := Lib.hid (rest_some (hrd.trans (rd_last hbad (by omega))))
            obtain rfl : c = 0 := by apply UInt8.toNat_inj.1; simpa using c0
            obtain rfl : k = 0 := by omega
            obtain rfl : acc = 0 := by omega
            obtain ⟨A', c', hrun, hbs', hown'⟩ := slice_lo (some a) l.length cap (0 + 1) .i64 1 (by omega) (by omega) hcap
            have HSL := Lib.hid (SAt.step (l' := l.drop (0 + 1)) HB.out H3.out h4 H5.out (by intro e; subst e; simp at hlt) (hbs' w l rfl HBs.out) hown')
            simp [Addr.add] at hcell
            clear c0 hbad hc256 hS hrd hacc hbs' hown'
            go_wp2_with fail
            go_ret
            rw [HN.out.1, HN.out.2.1, HN.out.2.2.1]
            exact ⟨by simp, HSL.out, (Fr.refl _ _).set1 _ _⟩
          · have b1 : 0 < c.toNat := by omega
            have b2 : ((c.toNat : Int) == 0) = false := by rw [beq_eq_false_iff_ne]; omega
            by_cases b3 : c.toNat < 128
            · have HN := Lib.hid (rest_some (hrd.trans (rd_last hbad b3)))
              by_cases b9 : k = 9
              · subst b9
                obtain ⟨A', c', hrun, hbs', hown'⟩ := slice_lo (some a) l.length cap (9 + 1) .i64 10 (by omega) (by omega) hcap
                have HSL := Lib.hid (SAt.step (l' := l.drop (9 + 1)) HB.out H3.out h4 H5.out (by intro e; subst e; simp at hlt) (hbs' w l rfl HBs.out) hown')
                have b4 : c.toNat ≤ 1 := by omega
                have HE := Lib.hid (show acc + c.toNat % 128 * 128 ^ 9 = acc + c.toNat * 128 ^ 9 by rw [show c.toNat % 128 = c.toNat by omega])
                rw [show (2 : Int) ^ (7 * 9) = 9223372036854775808 by decide, IntWalk.u64_in ((c.toNat : Int) % 128 * 9223372036854775808) ⟨by omega, by omega⟩] at hS
                simp [Addr.add] at hcell
                clear hbad c0 hrd hacc hbs' hown'
                go_wp2_with fail
                all_goals
                  go_ret
                  rw [HN.out.1, HN.out.2.1, HN.out.2.2.1, ← HE.out]
                  exact ⟨rfl, HSL.out, (Fr.refl _ _).set1 _ _⟩
              · obtain ⟨A', c', hrun, hbs', hown'⟩ := slice_lo (some a) l.length cap (k + 1) .i64 ((k : Int) + 1) (by omega) (by omega) hcap
                have HSL := Lib.hid (SAt.step (l' := l.drop (k + 1)) HB.out H3.out h4 H5.out (by intro e; subst e; simp at hlt) (hbs' w l rfl HBs.out) hown')
                have b4 : k < 9 := by omega
                have HE := Lib.hid (show acc + c.toNat % 128 * 128 ^ k = acc + c.toNat * 128 ^ k by rw [show c.toNat % 128 = c.toNat by omega])
                clear hbad c0 hrd hacc hbs' hown' b9
                go_wp2_with fail
                all_goals
                  go_ret
                  rw [HN.out.1, HN.out.2.1, HN.out.2.2.1, ← HE.out]
                  exact ⟨rfl, HSL.out, (Fr.refl _ _).set1 _ _⟩
            · have HN := Lib.hid (hrd.trans (rd_more hbad (by omega)))
              have b4 : k < 9 := by omega
              have b5 : 128 ≤ c.toNat := by omega
              have HA2 := Lib.hid (show acc + c.toNat % 128 * 128 ^ k < 128 ^ (k + 1) by
                have h2 : c.toNat % 128 ≤ 127 := by omega
                have h3 := Nat.mul_le_mul_right (128 ^ k) h2
                rw [Nat.pow_succ]; omega)
              have HE := Lib.hid (show acc + (c.toNat - 128) * 128 ^ k = acc + c.toNat % 128 * 128 ^ k by rw [show c.toNat - 128 = c.toNat % 128 by omega])
              clear hrd hacc hbad c0 b3
              go_wp2_with fail
              all_goals
                refine ⟨⟨k + 1, acc + c.toNat % 128 * 128 ^ k, by omega, by omega, by go_num, rfl, HA2.out, ?_⟩, by simp [intOf]; omega⟩
                rw [HN.out, HE.out]
    · have hd : l.drop k = [] := List.drop_eq_nil_of_le (by omega)
      rw [hd] at hrd
      have HN := Lib.hid (rest_none (hrd.trans rfl))
      clear hrd hacc hd hcells
      go_wp2_with fail
      refine hfail.mono ?_
      rintro e w2 ⟨rfl, hs2, hf2⟩
      go_wp2
      go_ret
      rw [HN.out.1, HN.out.2.1, HN.out.2.2.1]
      exact ⟨rfl, hs2, hf2⟩


theorem Src.drew {w : World} {g : Nat} {l : List UInt8} {bad : Bool} (h : Src w g l bad) : Src w.drew g l bad := h
theorem SAt.drew {w : World} {g : Nat} {S : Nat → Prop} {l : List UInt8} {bad : Bool} (h : SAt w g S l bad) : SAt w.drew g S l bad := h
theorem Src.drewN {w : World} {g : Nat} {l : List UInt8} {bad : Bool} (h : Src w g l bad) (n : Nat) : Src (w.drewN n) g l bad := h
theorem SAt.drewN {w : World} {g : Nat} {S : Nat → Prop} {l : List UInt8} {bad : Bool} (h : SAt w g S l bad) (n : Nat) : SAt (w.drewN n) g S l bad := h

end Go.Proofs.YtheefloegbkflaaGreatDoor


namespace Go.Proofs.YtheefloegbkflaaGreatDoor
set_option linter.unusedVariables false
set_option linter.unusedSimpArgs false
set_option maxRecDepth 100000
open Go.RowKit

theorem fell_zero {l : List UInt8} (h : fell l = true) : fstN l = 0 ∧ rest l = [] := by
  cases hr : rd 0 0 l with
  | none => exact ⟨(rest_none hr).2.2.1, (rest_none hr).1⟩
  | some p => obtain ⟨n, r⟩ := p; rw [(rest_some hr).2.1] at h; cases h

theorem rest_le (l : List UInt8) : (rest l).length ≤ l.length := by
  cases hr : rd 0 0 l with
  | none => rw [(rest_none hr).1]; simp
  | some p => obtain ⟨n, r⟩ := p; rw [(rest_some hr).1]; exact Nat.le_of_lt (rd_len (by omega) hr)

theorem runzig_odd {n : Nat} (hn : n < two64) (h : n % 2 = 1) : wrap64 (wrap64 (-wrap64 ((n : Int) / 2)) - 1) = unzig n := by
  unfold two64 at hn
  rw [IntWalk.wrap64_in ((n : Int) / 2) ⟨by omega, by omega⟩, IntWalk.wrap64_in (-((n : Int) / 2)) ⟨by omega, by omega⟩, IntWalk.wrap64_in _ ⟨by omega, by omega⟩]
  unfold unzig; rw [if_pos h]; omega
theorem runzig_even {n : Nat} (hn : n < two64) (h : ¬ n % 2 = 1) : wrap64 ((n : Int) / 2) = unzig n := by
  unfold two64 at hn
  rw [IntWalk.wrap64_in ((n : Int) / 2) ⟨by omega, by omega⟩]
  unfold unzig; rw [if_neg h]; omega

theorem u64_div2 {m : Nat} (h : m < two64) : IntKind.u64.wrap ((m : Int) / 2) = (m : Int) / 2 := by
  unfold two64 at h
  exact IntWalk.u64_in _ ⟨by omega, by omega⟩

theorem rsint_any (g : Nat) (S : Nat → Prop) (l : List UInt8) (bad : Bool) (w : World) (h : SAt w g S l bad) (hl : l.length < 1000000000) :
    Calls Tryz.prog 136 #[ptr g] w fun e w' => e = .returned (.int .i64 (unzig (fstN l))) ∧ SAt w' g S (rest l) (fell l) ∧ Fr (One g) w w' := by
  have h0 := rsnum_any g S l bad w h hl
  have Hl := Lib.hid (fstN_lt l)
  have e0 := u64_div2 Hl.out
  clear h
  by_cases hp : fstN l % 2 = 1
  · have E1 := Lib.hid (runzig_odd Hl.out hp)
    have hp' : ((fstN l : Int) % 2 == 1) = true := by rw [beq_iff_eq]; omega
    clear hp
    go_enter Tryz.func136, Tryz.ntmps136
    go_wp2_with fail
    refine h0.mono ?_
    rintro e w' ⟨rfl, hs, hf⟩
    go_wp2
    go_ret
    exact ⟨congrArg (fun z => Ending.returned (.int .i64 z)) E1.out, hs, hf⟩
  · have E1 := Lib.hid (runzig_even Hl.out hp)
    have hp' : ((fstN l : Int) % 2 == 1) = false := by rw [beq_eq_false_iff_ne]; omega
    clear hp
    go_enter Tryz.func136, Tryz.ntmps136
    go_wp2_with fail
    refine h0.mono ?_
    rintro e w' ⟨rfl, hs, hf⟩
    go_wp2
    go_ret
    exact ⟨congrArg (fun z => Ending.returned (.int .i64 z)) E1.out, hs, hf⟩

theorem SAt.cells {w : World} {g : Nat} {S : Nat → Prop} {l : List UInt8} {bad : Bool} (h : SAt w g S l bad) :
    ∃ A c, w.cell? ⟨g, 0, none⟩ = some (.slice A l.length c) ∧ w.cell? ⟨g, 1, none⟩ = some (.bool bad) ∧ w.frozen? ⟨g, 0, none⟩ = false ∧ l.length ≤ c ∧
      Blk w g 88 #[.slice A l.length c, .bool bad] ∧ Bs w (.slice A l.length c) l ∧ (∀ k, (Value.slice A l.length c).ownBlock = some k → ¬ S k) ∧ S g := by
  obtain ⟨v, h1, h2, h3, h4, h5⟩ := h
  have hh := h2
  obtain ⟨A, c, rfl, hc, _, _⟩ := h2
  exact ⟨A, c, h1.cell 0, h1.cell 1, h1.frozen 0, hc, h1, hh, h3, h4⟩

set_option maxHeartbeats 1000000 in
theorem rbelow_any (g : Nat) (S : Nat → Prop) (l : List UInt8) (bad : Bool) (n : Int) (w : World) (h : SAt w g S l bad) (hl : l.length < 1000000000) (hn : n ≤ 9223372036854775807) :
    Calls Tryz.prog 45 #[ptr g, .int .i64 n] w fun e w' => e = .returned (.int .i64 (mostV l (n - 1))) ∧ SAt w' g S (mostR l (n - 1)) (mostB l (n - 1)) ∧ Fr (One g) w w' := by
  have h0 := rsnum_any g S l bad w h hl
  have Hl := Lib.hid (fstN_lt l)
  clear h
  by_cases hok : fell l = false ∧ 1 ≤ n ∧ (fstN l : Int) < n
  · obtain ⟨ok1, ok2, ok3⟩ := hok
    have HV : Hid (mostV l (n - 1) = fstN l ∧ mostR l (n - 1) = rest l ∧ mostB l (n - 1) = fell l) := by
      unfold mostV mostR mostB mostOk
      rw [decide_eq_true ⟨by omega, by omega⟩]; exact ⟨rfl, rfl, rfl⟩
    rw [ok1] at h0
    have HF := Lib.hid ok1
    have hwr : IntKind.u64.wrap n = n := IntWalk.u64_in _ ⟨by omega, by omega⟩
    have hwi : IntKind.i64.wrap (fstN l) = fstN l := IntWalk.i64_in _ ⟨by omega, by omega⟩
    clear hn ok1
    go_enter Tryz.func45, Tryz.ntmps45
    go_wp2_with fail
    refine h0.mono ?_
    rintro e w' ⟨rfl, hs, hf⟩
    obtain ⟨A, c, c0, c1, f0, _⟩ := hs.cells
    go_wp2
    go_ret
    rw [HV.out.1, HV.out.2.1, HV.out.2.2, HF.out]
    exact ⟨rfl, hs, hf⟩
  · have HV : Hid (mostV l (n - 1) = 0 ∧ mostR l (n - 1) = [] ∧ mostB l (n - 1) = true) := by
      unfold mostV mostR mostB mostOk
      cases hf : fell l with
      | true => have := fell_zero hf; refine ⟨?_, ?_, ?_⟩ <;> split <;> first | rfl | exact this.1 | exact this.2
      | false => rw [decide_eq_false (by rw [hf] at hok; simp at hok; omega)]; exact ⟨rfl, rfl, rfl⟩
    have hwr : 1 ≤ n → IntKind.u64.wrap n = n := fun _ => IntWalk.u64_in _ ⟨by omega, by omega⟩
    cases hf : fell l with
    | true =>
      rw [hf] at h0
      clear hn hok hwr
      have HF := Lib.hid hf; clear hf
      go_enter Tryz.func45, Tryz.ntmps45
      go_wp2_with fail
      refine h0.mono ?_
      rintro e w' ⟨rfl, hs, hf⟩
      obtain ⟨A, c, c0, c1, f0, _⟩ := hs.cells
      go_wp2_with fail
      refine (rfail_any g S _ _ _ hs).mono ?_
      rintro e w2 ⟨rfl, hs2, hf2⟩
      go_wp2
      go_ret
      rw [HV.out.1, HV.out.2.1, HV.out.2.2]
      exact ⟨rfl, hs2, hf.trans hf2⟩
    | false =>
      rw [hf] at h0 hok
      have HF := Lib.hid hf; clear hf
      by_cases hneg : n < 1
      · clear hn hok hwr
        go_enter Tryz.func45, Tryz.ntmps45
        go_wp2_with fail
        refine h0.mono ?_
        rintro e w' ⟨rfl, hs, hf⟩
        obtain ⟨A, c, c0, c1, f0, _⟩ := hs.cells
        go_wp2_with fail
        refine (rfail_any g S _ _ _ hs).mono ?_
        rintro e w2 ⟨rfl, hs2, hf2⟩
        go_wp2
        go_ret
        rw [HV.out.1, HV.out.2.1, HV.out.2.2]
        exact ⟨rfl, hs2, hf.trans hf2⟩
      · have hge : n ≤ (fstN l : Int) := by simp at hok; omega
        have hwr' := hwr (by omega)
        clear hn hok hwr
        go_enter Tryz.func45, Tryz.ntmps45
        go_wp2_with fail
        refine h0.mono ?_
        rintro e w' ⟨rfl, hs, hf⟩
        obtain ⟨A, c, c0, c1, f0, _⟩ := hs.cells
        go_wp2_with fail
        refine (rfail_any g S _ _ _ hs).mono ?_
        rintro e w2 ⟨rfl, hs2, hf2⟩
        go_wp2
        go_ret
        rw [HV.out.1, HV.out.2.1, HV.out.2.2]
        exact ⟨rfl, hs2, hf.trans hf2⟩

theorem rend_any (g : Nat) (S : Nat → Prop) (l : List UInt8) (bad : Bool) (w : World) (h : SAt w g S l bad) :
    Calls Tryz.prog 48 #[ptr g] w fun e w' => e = .returned (.bool (!bad && l.isEmpty)) ∧ w = w' := by
  obtain ⟨A, c, c0, c1, f0, _⟩ := h.cells
  cases bad
  · go_enter Tryz.func48, Tryz.ntmps48
    go_wp2
    go_ret
    refine ⟨?_, rfl⟩
    cases l <;> simp <;> omega
  · go_enter Tryz.func48, Tryz.ntmps48
    go_wp2
    go_ret
    exact ⟨rfl, rfl⟩

set_option maxHeartbeats 1000000 in
theorem rtakeO_any (g : Nat) (S : Nat → Prop) (l : List UInt8) (bad : Bool) (n : Int) (w : World) (h : SAt w g S l bad) (hl : l.length < 1000000000) :
    Calls Tryz.prog 82 #[ptr g, .int .i64 n] w fun e w' => ∃ v, e = .returned v ∧ Own w' w.heap.size v (cutT l n) ∧ SAt w' g S (cutR l n) (cutB l bad n) ∧ Fr (One g) w w' := by
  have hfail := rfail_any g S l bad w h
  obtain ⟨A, c, c0, c1, f0, hc, hB, hBs, hS, hSg⟩ := h.cells
  have H5 := Lib.hid (show bad = true → l = [] by obtain ⟨v, _, _, _, _, h5⟩ := h; exact h5)
  have HB := Lib.hid hB
  have HBs := Lib.hid hBs
  have HS := Lib.hid hS
  clear h hB hBs hS
  by_cases hok : bad = false ∧ 0 ≤ n ∧ n ≤ l.length
  · obtain ⟨rfl, h0, h1⟩ := hok
    obtain ⟨k, rfl⟩ := Int.eq_ofNat_of_zero_le h0
    have hk : k ≤ l.length := by omega
    have HV : Hid (cutT l k = l.take k ∧ cutR l k = l.drop k ∧ cutB l false k = false) := by
      unfold cutT cutR cutB cutOk
      rw [decide_eq_true (by omega)]; exact ⟨rfl, rfl, rfl⟩
    obtain ⟨A1, d1, hrun1, hbs1, hown1⟩ := slice_hi A l.length c k .i64 (k : Int) rfl hk hc
    obtain ⟨A2, d2, hrun2, hbs2, hown2⟩ := slice_lo A l.length c k .i64 (k : Int) rfl hk hc
    have HB1 := Lib.hid (fun W h => hbs1 W l rfl h)
    have HB2 := Lib.hid (fun W h => hbs2 W l rfl h)
    have HO2 := Lib.hid hown2
    clear hbs1 hbs2 hown1 hown2 hfail
    have hbe : Own (w.alloc (.cells #[] 5)) w.heap.size (.slice (some ⟨w.heap.size, 0, none⟩) 0 0) [] := World.ownsRow_made w #[] 0 (Nat.le_refl _) (by unfold maxLen; omega) rfl
    have hfa : Fr Non w (w.alloc (.cells #[] 5)) := (Fr.refl _ _).alloc _
    have hg := HB.out.lt
    go_enter Tryz.func82, Tryz.ntmps82
    go_wp2_with (at_builtin; refine wpList_app rfl (.tmp 25) (.tmp 31) rfl w.heap.size _ _ [] (l.take k) rfl hbe rfl (HB1.out _ (HBs.out.non hfa)) (by simp; omega) (by simp) ?_; intro v3 w3 hown3 hfr3; have hfn := hfa.fresh hfr3 (fun k hk => (hbe.lt k hk).1); have hB3 := Lib.hid (HB.out.fr hfn (fun e => e)); have hBs3 := Lib.hid (HBs.out.non hfn); have c03 := hB3.out.cell 0; have f03 := hB3.out.frozen 0; simp at c03)
    go_ret
    rw [HV.out.1, HV.out.2.1, HV.out.2.2]
    have hl' : 0 < l.length ∨ l = [] := by cases l <;> simp
    refine ⟨v3, rfl, ?_, ?_, (hfn.any).set1 _ _⟩
    · have hne : ∀ q, v3.ownBlock = some q → ¬ One g q := fun q hq e => by
        have := (hown3.lt q hq).1
        rw [show q = g from e] at this
        omega
      simpa using hown3.fr ((Fr.refl (One g) _).set1 0 _) hne
    · have hn : ∀ q, (Value.slice A2 (l.length - k) d2).ownBlock = some q → ¬ S q := fun q hq => HS.out q (by rw [← HO2.out]; exact hq)
      exact ⟨_, hB3.out.set 0 _, (HB2.out w3 hBs3.out).fr ((Fr.refl (One g) _).set1 0 _) (fun q hq e => hn q hq (by rw [show q = g from e]; exact hSg)), hn, hSg, fun h => by cases h⟩
  · have HV : Hid (cutT l n = [] ∧ cutR l n = [] ∧ cutB l bad n = true) := by
      cases hb : bad with
      | true =>
        have hl0 := H5.out hb
        subst hl0
        unfold cutT cutR cutB cutOk
        refine ⟨?_, ?_, ?_⟩ <;> split <;> simp
      | false =>
        unfold cutT cutR cutB cutOk
        rw [decide_eq_false (by rw [hb] at hok; simp at hok; omega)]; exact ⟨rfl, rfl, rfl⟩
    cases bad
    · by_cases hneg : n < 0
      · clear hok
        go_enter Tryz.func82, Tryz.ntmps82
        go_wp2_with fail
        refine hfail.mono ?_
        rintro e w2 ⟨rfl, hs2, hf2⟩
        go_wp2
        go_ret
        rw [HV.out.1, HV.out.2.1, HV.out.2.2]
        exact ⟨.slice none 0 0, rfl, own_nil _ _, hs2, hf2⟩
      · have hbig : (l.length : Int) < n := by simp at hok; omega
        clear hok
        go_enter Tryz.func82, Tryz.ntmps82
        go_wp2_with fail
        refine hfail.mono ?_
        rintro e w2 ⟨rfl, hs2, hf2⟩
        go_wp2
        go_ret
        rw [HV.out.1, HV.out.2.1, HV.out.2.2]
        exact ⟨.slice none 0 0, rfl, own_nil _ _, hs2, hf2⟩
    · clear hok
      go_enter Tryz.func82, Tryz.ntmps82
      go_wp2_with fail
      refine hfail.mono ?_
      rintro e w2 ⟨rfl, hs2, hf2⟩
      go_wp2
      go_ret
      rw [HV.out.1, HV.out.2.1, HV.out.2.2]
      exact ⟨.slice none 0 0, rfl, own_nil _ _, hs2, hf2⟩

theorem rtake_any (g : Nat) (S : Nat → Prop) (l : List UInt8) (bad : Bool) (n : Int) (w : World) (h : SAt w g S l bad) (hl : l.length < 1000000000) :
    Calls Tryz.prog 82 #[ptr g, .int .i64 n] w fun e w' => ∃ v, e = .returned v ∧ Bs w' v (cutT l n) ∧ (∀ k, v.ownBlock = some k → w.heap.size ≤ k) ∧ SAt w' g S (cutR l n) (cutB l bad n) ∧ Fr (One g) w w' := by
  refine (rtakeO_any g S l bad n w h hl).mono ?_
  rintro e w' ⟨v, rfl, h1, h2, h3⟩
  exact ⟨v, rfl, h1.bs, fun k hk => (h1.lt k hk).1, h2, h3⟩

end Go.Proofs.YtheefloegbkflaaGreatDoor


namespace Go.Proofs.YtheefloegbkflaaGreatDoor
set_option linter.unusedVariables false
set_option linter.unusedSimpArgs false
set_option maxRecDepth 100000
open Go.RowKit

theorem most_own {n : Nat} {m : Int} (hn : (n : Int) ≤ m) (h2 : n < two64) (r : List UInt8) : mostV (Lib.uvarint n ++ r) m = n ∧ mostR (Lib.uvarint n ++ r) m = r ∧ mostB (Lib.uvarint n ++ r) m = false := by
  obtain ⟨h1, h3, h4, _⟩ := rest_some (rd_own h2 r)
  have hm : mostOk (Lib.uvarint n ++ r) m = true := decide_eq_true ⟨by omega, by rw [h4]; exact hn⟩
  unfold mostV mostR mostB
  rw [hm]
  simp only [if_true, h1, h3, h4]
  exact ⟨trivial, trivial, trivial⟩
theorem uv_zero : Lib.uvarint 0 = [0] := by rw [Lib.uvarint_small (by omega)]; rfl
theorem uv_one : Lib.uvarint 1 = [1] := by rw [Lib.uvarint_small (by omega)]; rfl

theorem mostB_R {l : List UInt8} {m : Int} (h : mostB l m = true) : mostR l m = [] := by
  unfold mostB at h
  unfold mostR
  split
  · rename_i q; rw [if_pos q] at h; exact (fell_zero h).2
  · rfl
theorem rep_at {α : Type} (D : List α) (m : Nat) (z : α) (h : 0 < m) : (D ++ List.replicate m z)[D.length]? = some z := by
  rw [List.getElem?_append_right (Nat.le_refl _), Nat.sub_self, List.getElem?_replicate, if_pos h]
theorem rep_set {α : Type} (D : List α) (m : Nat) (z x : α) (h : 0 < m) : (D ++ List.replicate m z).set D.length x = (D ++ [x]) ++ List.replicate (m - 1) z := by
  obtain ⟨q, rfl⟩ : ∃ q, m = q + 1 := ⟨m - 1, by omega⟩
  rw [List.set_append_right _ _ (Nat.le_refl _), Nat.sub_self, List.replicate_succ, List.set_cons_zero]; simp
end Go.Proofs.YtheefloegbkflaaGreatDoor


namespace Go.Proofs.YtheefloegbkflaaGreatDoor
set_option linter.unusedVariables false
set_option linter.unusedSimpArgs false
set_option maxRecDepth 100000
open Go.RowKit

set_option maxHeartbeats 2000000 in
theorem mayL_any (ty : Int) (nl : Bool) (v : Value) (l : List Cl) (w : World) (hv : Cs w v l) (hl : l.length ≤ 1000000) :
    Calls Tryz.prog 54 #[.int .i64 ty, .bool nl, v] w fun e w' => e = .returned (.bool (l.all (mayC ty nl))) ∧ Fr Non w w' := by
  obtain ⟨A, c, rfl, hlc, hn, hcell⟩ := hv
  have HC := Lib.hid hcell
  have HN := Lib.hid hn
  clear hcell hn
  go_enter Tryz.func54, Tryz.ntmps54
  go_wp2
  go_loopw [11] (fun i wr => ∃ (k : Nat), k ≤ l.length ∧ i = .int .i64 k ∧ (l.take k).all (mayC ty nl) = true ∧ Fr Non w wr) (fun i _ => l.length - (intOf i).toNat)
  case atStart => exact ⟨0, Nat.zero_le _, rfl, rfl, Fr.refl _ _⟩
  case round =>
    obtain ⟨k, hk, rfl, hall, hfr⟩ := hrel
    have HA := Lib.hid hall
    clear hall
    by_cases hlt : k < l.length
    · cases A with
      | none => have := HN.out rfl; omega
      | some a =>
        obtain ⟨hc0, hc1, hc2⟩ := (hfr.at3 (HC.out a rfl k hlt)).lit
        have HT := Lib.hid (all_take hlt HA.out)
        have HF := Lib.hid (fun h => all_false (f := mayC ty nl) hlt h)
        clear HA
        generalize l[k] = x at *
        obtain ⟨xn, xi, xt⟩ := x
        go_wp2_with fail
        refine (may_any ty nl ⟨xn, xi, xt⟩ _).mono ?_
        rintro e w4 ⟨rfl, hf4⟩
        have hf5 := (hfr.alloc _).trans hf4
        cases hM : mayC ty nl ⟨xn, xi, xt⟩
        · have HF2 := HF.out hM
          go_wp2
          go_ret
          exact ⟨ret_boolE HF2.symm, hf5⟩
        · have HT2 := Lib.hid (HT.out.trans hM)
          clear HT HF
          go_wp2
          go_roundw
          case rel => exact ⟨k + 1, by omega, by go_num, HT2.out, hf5⟩
          case measure => simp [intOf]; omega
    · obtain rfl : k = l.length := by omega
      have HA2 := HA.out
      rw [List.take_length] at HA2
      go_wp2
      go_ret
      exact ⟨ret_boolE HA2.symm, hfr⟩

/-- the nulls of the first k of l laid -/
def partN (l : List Cl) (k : Nat) : List Bool := nullsC (l.take k) ++ List.replicate (l.length - k) false
theorem partN_zero (l : List Cl) : partN l 0 = List.replicate l.length false := by simp [partN, nullsC]
theorem partN_all (l : List Cl) : partN l l.length = nullsC l := by simp [partN]
theorem partN_length (l : List Cl) {k : Nat} (h : k ≤ l.length) : (partN l k).length = l.length := by simp [partN, nullsC]; omega
theorem nullsC_take (l : List Cl) (k : Nat) (h : k < l.length) : nullsC (l.take (k + 1)) = nullsC (l.take k) ++ [l[k].null] := by
  unfold nullsC; rw [List.take_succ_eq_append_getElem h, List.map_append]; rfl
theorem nullsC_len (l : List Cl) {k : Nat} (h : k ≤ l.length) : (nullsC (l.take k)).length = k := by simp [nullsC]; omega
theorem partN_at (l : List Cl) {k : Nat} (h : k < l.length) : (partN l k)[k]? = some false := by
  have := rep_at (nullsC (l.take k)) (l.length - k) false (by omega)
  rw [nullsC_len l (by omega)] at this; exact this
theorem partN_step (l : List Cl) {k : Nat} (h : k < l.length) : (partN l k).set k l[k].null = partN l (k + 1) := by
  have := rep_set (nullsC (l.take k)) (l.length - k) false l[k].null (by omega)
  rw [nullsC_len l (by omega)] at this
  unfold partN
  rw [this, nullsC_take l k h, show l.length - k - 1 = l.length - (k + 1) by omega]
theorem othersC_yes (l : List Cl) {k : Nat} (h : k < l.length) (hn : l[k].null = false) : othersC (l.take (k + 1)) = othersC (l.take k) ++ [l[k]] := by
  unfold othersC; rw [List.take_succ_eq_append_getElem h, List.filter_append]; simp [hn]
theorem othersC_no (l : List Cl) {k : Nat} (h : k < l.length) (hn : l[k].null = true) : othersC (l.take (k + 1)) = othersC (l.take k) := by
  unfold othersC; rw [List.take_succ_eq_append_getElem h, List.filter_append]; simp [hn]
theorem othersC_le (l : List Cl) : (othersC l).length ≤ l.length := List.length_filter_le _ _
theorem cell_ne_bool : 54 ≠ 4 := by decide
/-- a row of cells and a row of another type are apart -/
theorem oc_other {α : Type} {f : α → Value} {E : TypeId} {w : World} {B B' : Nat} {v u : Value} {l : List Cl} {m : List α} (h : Oc w B v l) (h' : Ow f E w B' u m) (hne : 54 ≠ E) : ∀ k, v.ownBlock = some k → u.ownBlock ≠ some k := by
  intro k hk hu
  obtain ⟨c1, e1⟩ := h.kind k hk
  obtain ⟨c2, e2⟩ := h'.kind k hu
  rw [e1] at e2
  simp at e2
  exact hne e2.2

set_option maxHeartbeats 2000000 in
theorem part_any (v : Value) (l : List Cl) (w : World) (hv : Cs w v l) (hl : l.length ≤ 1000000) :
    Calls Tryz.prog 55 #[v] w fun e w' => ∃ u o, e = .returned (.tuple #[u, o]) ∧ Ow tv 4 w' w.heap.size u (nullsC l) ∧ Oc w' w.heap.size o (othersC l) ∧ Fr Non w w' := by
  obtain ⟨A, c, rfl, hlc, hn, hcell⟩ := hv
  have HC := Lib.hid hcell
  have HN := Lib.hid hn
  clear hcell hn
  go_enter Tryz.func55, Tryz.ntmps55
  go_wp2_with (at_make; refine wpList_mkfullG el_bool false rfl rfl _ _ rfl _ _ _ _ l.length rfl rfl rfl rfl (by omega) ?_; intro w2 hown2 hfr2)
  rw [← partN_zero] at hown2
  generalize hg : w.heap.size = g at *
  have hgl := Nat.le_of_eq hg
  clear hg
  go_loopw [5, 13] (fun o i wr => ∃ (k : Nat), k ≤ l.length ∧ i = .int .i64 k ∧ w.heap.size ≤ g ∧ Ow tv 4 wr g (.slice (some ⟨g, 0, none⟩) l.length l.length) (partN l k) ∧ Oc wr g o (othersC (l.take k)) ∧ Fr Non w wr) (fun o i _ => l.length - (intOf i).toNat)
  case atStart => exact ⟨0, Nat.zero_le _, rfl, hgl, hown2, oc_nil _ _, hfr2⟩
  case round =>
    clear hown2 hfr2
    obtain ⟨k, hk, rfl, hgl2, hN, hO, hfr⟩ := hrel
    have HO := Lib.hid hO
    clear hO
    by_cases hlt : k < l.length
    · cases A with
      | none => have := HN.out rfl; omega
      | some a =>
        obtain ⟨hc0, hc1, hc2⟩ := (hfr.at3 (HC.out a rfl k hlt)).lit
        have hle := othersC_le (l.take k)
        rw [List.length_take, Nat.min_eq_left hk] at hle
        have hpl := partN_length l hk
        have HY := Lib.hid (othersC_yes l hlt)
        have HX := Lib.hid (othersC_no l hlt)
        have HS := Lib.hid (partN_step l hlt)
        have hcb := hN.cell hpl.symm k _ (partN_at l hlt)
        have hfb := hN.frozen hpl.symm k
        have HNN := Lib.hid hN
        clear hN
        have hbk : g < wr.heap.size := (HNN.out.lt g rfl).2
        have K1 := Lib.hid (show ∀ X : Obj, Ow tv 4 ((wr.setCell ⟨g, k, none⟩ (.bool l[k].null)).alloc X) g (.slice (some ⟨g, 0, none⟩) l.length l.length) (partN l (k + 1)) ∧ Oc ((wr.setCell ⟨g, k, none⟩ (.bool l[k].null)).alloc X) g u5 (othersC (l.take k)) ∧ Fr Non w ((wr.setCell ⟨g, k, none⟩ (.bool l[k].null)).alloc X) from fun X => by
          refine ⟨?_, ?_, ?_⟩
          · rw [← HS.out]; exact (HNN.out.store hpl.symm k l[k].null).alloc X
          · exact (HO.out.fr (((Fr.refl (One g) _)).set1 k _) (fun q hq e => oc_other HO.out HNN.out cell_ne_bool q hq (by rw [show q = g from e]; rfl))).alloc X
          · exact (hfr.fresh ((Fr.refl (One g) _).set1 k _) (fun q e => by have : q = g := e; omega)).alloc X)
        generalize l[k] = x at *
        obtain ⟨xn, xi, xt⟩ := x
        cases xn
        · obtain ⟨k1, k2, k3⟩ := K1.out (.cells #[.bool false, .int .i64 xi, .string ⟨xt.toArray⟩] 54)
          have HY2 := Lib.hid (HY.out rfl)
          have hB := k3.size
          have k1 := Lib.hid k1
          have k3 := Lib.hid k3
          clear HX HS HY K1 HNN
          go_wp2_with (at_builtin; refine wpList_pushC rfl (.tmp 26) (.tmp 28) rfl g _ _ rfl k2 ⟨false, xi, xt⟩ _ _ _ rfl rfl rfl _ rfl (by simp) (by omega) (by simp; omega) ?_; intro v6 w6 hown6 hf6)
          have hn6 := k1.out.fr hf6 (fun q hq e => oc_other k2 k1.out cell_ne_bool q e hq)
          have hfr6 := k3.out.fresh hf6 (fun q hq => by have := (k2.lt q hq).1; omega)
          go_roundw
          case rel => exact ⟨k + 1, by omega, by go_num, hgl2, hn6, by rw [HY2.out]; exact hown6, hfr6⟩
          case measure => simp [intOf]; omega
        · obtain ⟨k1, k2, k3⟩ := K1.out (.cells #[.bool true, .int .i64 xi, .string ⟨xt.toArray⟩] 54)
          have HX2 := Lib.hid (HX.out rfl)
          have k1 := Lib.hid k1
          have k2 := Lib.hid k2
          have k3 := Lib.hid k3
          clear HX HS HY K1 HNN
          go_wp2_with (fail)
          go_roundw
          case rel => exact ⟨k + 1, by omega, by go_num, hgl2, k1.out, by rw [HX2.out]; exact k2.out, k3.out⟩
          case measure => simp [intOf]; omega
    · obtain rfl : k = l.length := by omega
      have hO := HO.out
      rw [partN_all] at hN
      rw [List.take_length] at hO
      go_wp2
      go_ret2
      exact ⟨_, _, rfl, hN.mono hgl2, hO.mono hgl2, hfr⟩

theorem elem_cl : Tryz.prog.elem 59 = 54 := by kernel_rfl
theorem size_cl (w : World) : (sizeOf (Tryz.prog.elem 59)).run Tryz.prog w = .ok 3 w := by kernel_rfl
/-- 's[k:]' of cells -/
theorem slice_loC (A : Option Addr) (n c k : Nat) (y : Int) (hy : y = (k : Int)) (hk : k ≤ n) (hn : n ≤ c) :
    ∃ A' c', (∀ W, (Instr.slice 59 (.slice A n c) (some (.int .i64 y)) none none).run Tryz.prog W = .ok (.slice A' (n - k) c') W) ∧
      (∀ W (l : List Cl), l.length = n → Cs W (.slice A n c) l → Cs W (.slice A' (n - k) c') (l.drop k)) := by
  subst hy
  refine ⟨if c = k then A else A.map (·.add (k * 3)), c - k, fun W => ?_, ?_⟩
  · rw [run_slice_any W _ A n c (by rw [elem_cl]; exact Tryz.underlying59)]
    have hb : (Instr.sliceBounds true n c (some (.int .i64 (k : Int))) none none).run Tryz.prog W = .ok (k, n, c) W := by
      simp [Instr.sliceBounds, run_sliceBound, hk, hn]
    rw [hb]
    simp only [Result.andThen_ok, size_cl]
    simp [sliced]
  · rintro W l hl ⟨A0, c0, he, h1, h2, h3⟩
    simp only [Value.slice.injEq] at he
    obtain ⟨rfl, hl', rfl⟩ := he
    refine ⟨if c = k then A else A.map (·.add (k * 3)), c - k, by rw [List.length_drop, hl], by rw [List.length_drop]; omega, fun e => ?_, fun a ha j hj => ?_⟩
    · split at e
      · omega
      · have := h2 (by simpa using e); omega
    · rw [List.length_drop] at hj
      rw [if_neg (by omega)] at ha
      cases A with
      | none => cases ha
      | some b =>
        obtain rfl : b.add (k * 3) = a := by simpa using ha
        have h := h3 b rfl (k + j) (by omega)
        rw [add_add, show k * 3 + j * 3 = (k + j) * 3 by omega]
        simpa using h
/-- 's[1:]', the first element, as a walk spells them -/
theorem slice_oneC {w : World} {x : Cl} {q : List Cl} {v : Value} (h : Cs w v (x :: q)) :
    ∃ aq cq Aq' cq', v = .slice (some aq) (q.length + 1) cq ∧ (∀ W, (Instr.slice 59 (.slice (some aq) (q.length + 1) cq) (some (.int .i64 1)) none none).run Tryz.prog W = .ok (.slice Aq' q.length cq') W) ∧
      Cs w (.slice Aq' q.length cq') q ∧ At3 w aq x := by
  obtain ⟨Aq, cq, rfl⟩ := h.shape
  obtain ⟨aq, rfl, _, hcq, h3⟩ := h.addr (by simp)
  obtain ⟨Aq', cq', hsl, hcs⟩ := slice_loC (some aq) (x :: q).length cq 1 1 rfl (by simp) hcq
  exact ⟨aq, cq, Aq', cq', rfl, hsl, hcs w (x :: q) rfl h, h3 0 (by simp)⟩
theorem Fr.cs {w w' : World} {v : Value} {l : List Cl} (hf : Fr Non w w') (h : Cs w v l) : Cs w' v l := h.non hf
theorem cnt_drop (t : List Bool) (k : Nat) (h : k < t.length) : cnt (t.drop k) = t[k].toNat + cnt (t.drop (k + 1)) := by
  rw [List.drop_eq_getElem_cons h, cnt_cons]
theorem joinC_drop (t : List Bool) (k : Nat) (o : List Cl) (h : k < t.length) : joinC (t.drop k) o = (if t[k] then ⟨true, 0, []⟩ :: joinC (t.drop (k + 1)) o else o.headD ⟨false, 0, []⟩ :: joinC (t.drop (k + 1)) o.tail) := by
  rw [List.drop_eq_getElem_cons h]
  cases t[k] <;> simp [joinC]
/-- where a join stands: D is laid, o is to come -/
def Joi (t : List Bool) (o0 : List Cl) (k : Nat) (D o : List Cl) : Prop := D.length = k ∧ joinC t o0 = D ++ joinC (t.drop k) o ∧ o.length + cnt (t.drop k) = t.length - k
theorem joi_zero (t : List Bool) (o : List Cl) (h : o.length + cnt t = t.length) : Joi t o 0 [] o := ⟨rfl, by simp, by simpa using h⟩
theorem joi_yes {t : List Bool} {o0 D o : List Cl} {k : Nat} (h : Joi t o0 k D o) (hk : k < t.length) (ht : t[k] = true) : Joi t o0 (k + 1) (D ++ [⟨true, 0, []⟩]) o := by
  obtain ⟨h1, h2, h3⟩ := h
  rw [cnt_drop t k hk, ht] at h3
  rw [joinC_drop t k o hk, ht, if_pos rfl] at h2
  exact ⟨by simp [h1], by rw [h2]; simp, by simp at h3; omega⟩
theorem joi_no {t : List Bool} {o0 D o : List Cl} {k : Nat} (h : Joi t o0 k D o) (hk : k < t.length) (ht : t[k] = false) : ∃ x o', o = x :: o' ∧ Joi t o0 (k + 1) (D ++ [x]) o' := by
  obtain ⟨h1, h2, h3⟩ := h
  have hc := cnt_le (t.drop (k + 1))
  rw [List.length_drop] at hc
  rw [cnt_drop t k hk, ht] at h3
  rw [joinC_drop t k o hk, ht] at h2
  cases o with
  | nil => simp at h3; omega
  | cons x o' => exact ⟨x, o', rfl, by simp [h1], by rw [h2]; simp, by simp at h3; omega⟩
theorem joi_all {t : List Bool} {o0 D o : List Cl} (h : Joi t o0 t.length D o) : joinC t o0 = D := by
  rw [h.2.1, List.drop_length]; simp [joinC]
set_option maxHeartbeats 4000000 in
theorem join_cl (v1 v2 : Value) (t : List Bool) (o : List Cl) (w : World) (h1 : Vs tv w v1 t) (h2 : Cs w v2 o) (hl : t.length ≤ 1000000) (hc : o.length + cnt t = t.length) :
    Calls Tryz.prog 89 #[v1, v2] w fun e w' => ∃ u, e = .returned u ∧ Oc w' w.heap.size u (joinC t o) ∧ Fr Non w w' := by
  obtain ⟨A, c, rfl, hlc, hn, hcell⟩ := h1
  have HC := Lib.hid hcell
  have HN := Lib.hid hn
  have H2 := Lib.hid h2
  have H0 := Lib.hid (joi_zero t o hc)
  clear hcell hn h2 hc
  go_enter Tryz.func89, Tryz.ntmps89
  go_wp2_with (at_make; refine wpList_mkC rfl _ _ rfl _ _ _ _ t.length rfl rfl rfl rfl (by omega) ?_; intro w2 hown2 hfr2)
  generalize hg : w.heap.size = g at *
  have hgl := Nat.le_of_eq hg
  clear hg
  have HS := Lib.hid hgl
  go_loopw [1, 13] (fun v i wr => ∃ (k : Nat) (D q : List Cl), k ≤ t.length ∧ i = .int .i64 k ∧ Joi t o k D q ∧ Cs w v q ∧ Oc wr g (.slice (some ⟨g, 0, none⟩) t.length t.length) (D ++ List.replicate (t.length - k) ⟨false, 0, []⟩) ∧ Fr Non w wr) (fun v i _ => t.length - (intOf i).toNat)
  case atStart => exact ⟨0, [], o, Nat.zero_le _, rfl, H0.out, H2.out, hown2, hfr2⟩
  case round =>
    clear hown2 hfr2
    obtain ⟨k, D, q, hk, rfl, hJ, hQ, hO, hfr⟩ := hrel
    have HJ := Lib.hid hJ
    have HO := Lib.hid hO
    clear hJ hO
    by_cases hlt : k < t.length
    · cases A with
      | none => have := HN.out rfl; omega
      | some a =>
        have hct := (hfr.cell (World.block_lt_of_cell? w _ (HC.out a rfl k hlt)) (fun e => e)).trans (HC.out a rfl k hlt)
        unfold tv at hct
        have hD := HJ.out.1
        have hlen : t.length = (D ++ List.replicate (t.length - k) (⟨false, 0, []⟩ : Cl)).length := by simp; omega
        have hat : (D ++ List.replicate (t.length - k) (⟨false, 0, []⟩ : Cl))[k]? = some ⟨false, 0, []⟩ := by
          have := rep_at D (t.length - k) (⟨false, 0, []⟩ : Cl) (by omega)
          rw [hD] at this; exact this
        have hset : ∀ x : Cl, (D ++ List.replicate (t.length - k) (⟨false, 0, []⟩ : Cl)).set k x = (D ++ [x]) ++ List.replicate (t.length - (k + 1)) ⟨false, 0, []⟩ := fun x => by
          have := rep_set D (t.length - k) (⟨false, 0, []⟩ : Cl) x (by omega)
          rw [hD, show t.length - k - 1 = t.length - (k + 1) by omega] at this; exact this
        obtain ⟨e0, e1, e2⟩ := HO.out.el hlen k _ hat
        have f0 := HO.out.frozen hlen (k * 3)
        have f1 := HO.out.frozen hlen (k * 3 + 1)
        have f2 := HO.out.frozen hlen (k * 3 + 2)
        have hgw : g < wr.heap.size := (HO.out.lt g rfl).2
        have HL := Lib.hid hlen
        have HAt := Lib.hid hat
        have HSet := Lib.hid hset
        have HQ := Lib.hid hQ
        clear hlen hat hset hD hQ
        cases hx : t[k] with
        | true =>
          have HJ2 := Lib.hid (joi_yes HJ.out hlt hx)
          rw [hx] at hct
          clear hx
          go_wp2_with fail
          have hO2 := HO.out.put0 HL.out k _ HAt.out true
          rw [HSet.out] at hO2
          have hfr2 := hfr.fresh ((Fr.refl (One g) wr).set1 (k * 3) (.bool true)) (fun q e => by have : q = g := e; have := HS.out; omega)
          go_roundw
          case rel => exact ⟨k + 1, _, _, by omega, by go_num, HJ2.out, HQ.out, hO2, hfr2⟩
          case measure => simp [intOf]; omega
        | false =>
          obtain ⟨x, q', rfl, hJ2⟩ := joi_no HJ.out hlt hx
          have HJ2 := Lib.hid hJ2
          rw [hx] at hct
          clear hx hJ2
          obtain ⟨aq, cq, Aq', cq', rfl, hsl, hq2, hat3⟩ := slice_oneC HQ.out
          have HQ2 := Lib.hid hq2
          obtain ⟨q0, q1, q2⟩ := (hfr.at3 hat3).lit
          clear hat3 hq2
          have hO2 := HO.out.put3 HL.out k (by rw [← HL.out]; exact hlt) x
          rw [HSet.out] at hO2
          have HO2 := Lib.hid hO2
          have hfr2 := Lib.hid (hfr.fresh ((((Fr.refl (One g) wr).set1 (k * 3) (.bool x.null)).set1 (k * 3 + 1) (.int .i64 x.num)).set1 (k * 3 + 2) (.string ⟨x.txt.toArray⟩)) (fun q e => by have : q = g := e; have := HS.out; omega))
          clear hO2 HQ
          obtain ⟨xn, xi, xt⟩ := x
          go_wp2_with fail
          go_region
          go_wp2_with fail
          go_roundw
          case rel => exact ⟨k + 1, _, _, by omega, by go_num, HJ2.out, HQ2.out, HO2.out.drew, hfr2.out.drew⟩
          case measure => simp [intOf]; omega
    · obtain rfl : k = t.length := by omega
      have hO := HO.out
      rw [Nat.sub_self, List.replicate_zero, List.append_nil, ← joi_all HJ.out] at hO
      go_wp2
      go_ret
      exact ⟨_, rfl, hO.mono HS.out, hfr⟩
end Go.Proofs.YtheefloegbkflaaGreatDoor


namespace Go.Proofs.YtheefloegbkflaaGreatDoor
set_option linter.unusedVariables false
set_option linter.unusedSimpArgs false
set_option maxRecDepth 100000
open Go.RowKit

theorem el_i64 : El 156 2 (.int .i64 0) 8 := ⟨Tryz.underlying156, by kernel_rfl, rfl, by decide, by kernel_rfl, fun _ => by kernel_rfl⟩

theorem drop_cons {α : Type} (l : List α) (k : Nat) (h : k < l.length) : l.drop k = l[k] :: l.drop (k + 1) := List.drop_eq_getElem_cons h

set_option maxHeartbeats 1000000 in
theorem run_any (v : Value) (l : List Int) (x : Int) (r : List Int) (he : l = x :: r) (w : World) (hv : Vs iv w v l) (hl : l.length ≤ 1000000) :
    Calls Tryz.prog 149 #[v] w fun e w' => e = .returned (.int .i64 ((runN x r : Nat) + 1 : Int)) ∧ Fr Non w w' := by
  obtain ⟨A, c, rfl, hlc, hn, hcell⟩ := hv
  have hpos : 0 < l.length := by rw [he]; simp
  cases A with
  | none => have := hn rfl; omega
  | some a =>
    have HC := Lib.hid (hcell a rfl)
    have g0 : w.cell? a = some (.int .i64 x) := by
      have := hcell a rfl 0 hpos
      simpa [Addr.add, he, iv] using this
    have HR : Hid (∀ k, 1 ≤ k → (h : k < l.length) → r[k - 1]? = some l[k]) := Lib.hid (by
      intro k hk h
      subst he
      cases k with
      | zero => omega
      | succ k => simp at h ⊢)
    have hrl := runN_le x r
    have HL : Hid (l.length = r.length + 1) := Lib.hid (by rw [he]; rfl)
    have hrl2 : runN x r + 1 ≤ l.length := by have := HL.out; omega
    clear hcell hn he
    have HA := Lib.hid (runN_at x r)
    have HE := Lib.hid (runN_end x r)
    clear hrl
    generalize runN x r = q at *
    go_enter Tryz.func149, Tryz.ntmps149
    go_wp2
    go_loopw [3] (fun i wr => ∃ k : Nat, 1 ≤ k ∧ k ≤ q + 1 ∧ i = .int .i64 k ∧ ∃ n, wr = w.drewN n) (fun i _ => l.length - (intOf i).toNat)
    case atStart => exact ⟨1, Nat.le_refl _, by omega, rfl, 0, rfl⟩
    case round =>
      obtain ⟨k, hk1, hk, rfl, n, rfl⟩ := hrel
      by_cases hlt : k < l.length
      · have g1 : w.cell? (a.add k) = some (iv l[k]) := HC.out k hlt
        have hr := Lib.hid (HR.out k hk1 hlt)
        unfold iv at g1
        by_cases hx : l[k] = x
        · rw [hx] at g1
          have hkq : k ≤ q := by
            rcases Nat.lt_or_ge k (q + 1) with h | h
            · omega
            · exfalso
              have h1 := HE.out
              have h2 := hr.out
              rw [show k - 1 = q by omega, hx] at h2
              exact h1 h2
          have hxx : (x == x) = true := by simp
          clear hx hr
          go_wp2
          go_quiet (fail)
          go_wp2
          go_roundw
          case rel => exact ⟨k + 1, by omega, by omega, by go_num, _, rfl⟩
          case measure => simp [intOf]; omega
        · have hxx : (l[k] == x) = false := by rw [beq_eq_false_iff_ne]; exact hx
          have hkq : k = q + 1 := by
            rcases Nat.lt_or_ge k (q + 1) with h | h
            · exfalso
              have h1 := HA.out (k - 1) (by omega)
              have h2 := hr.out
              rw [h1] at h2
              exact hx (by simpa using h2.symm)
            · omega
          have HK := Lib.hid hkq
          clear hx hr hkq
          generalize l[k] = y at *
          go_wp2
          go_quiet (fail)
          go_wp2
          go_ret
          exact ⟨ret_int (by rw [HK.out]; push_cast; rfl), ((Fr.refl _ _).drewN _).drewN _⟩
      · have hd : decide ((k : Int) < l.length) = false := by simp; omega
        have hkq : k = q + 1 := by omega
        have HK := Lib.hid hkq
        clear hkq
        go_wp2
        go_quiet (fail)
        go_wp2
        go_ret
        exact ⟨ret_int (by rw [HK.out]; push_cast; rfl), ((Fr.refl _ _).drewN _).drewN _⟩

set_option maxHeartbeats 2000000 in
theorem rnput_any (v : Value) (l : List Int) (w : World) (hv : Vs iv w v l) (hl : l.length ≤ 1000000) (hx : ∀ x ∈ l, I64 x) :
    Calls Tryz.prog 99 #[v] w fun e w' => ∃ u, e = .returned u ∧ Own w' w.heap.size u (putR l) ∧ Fr Non w w' := by
  have HV := Lib.hid hv
  obtain ⟨A, c, rfl, hlc, hn, hcell⟩ := hv
  have HC := Lib.hid hcell
  have HN := Lib.hid hn
  have HX := Lib.hid hx
  clear hcell hn hx
  go_enter Tryz.func99, Tryz.ntmps99
  go_wp2
  go_loopw [3, 4] (fun b i wr => ∃ (k : Nat) (bs : List UInt8), k ≤ l.length ∧ i = .int .i64 k ∧ Hid (putR l = bs ++ putR (l.drop k)) ∧ bs.length ≤ 20 * k ∧ Own wr w.heap.size b bs ∧ Fr Non w wr) (fun _ i _ => l.length - (intOf i).toNat)
  case atStart => exact ⟨0, [], Nat.zero_le _, rfl, Lib.hid (by simp), by simp, own_nil _ _, Fr.refl _ _⟩
  case round =>
    obtain ⟨k, bs, hk, rfl, HP, hbs, hown, hfr⟩ := hrel
    by_cases hlt : k < l.length
    · cases A with
      | none => have := HN.out rfl; omega
      | some a =>
        have hc0 := HC.out a rfl k hlt
        have hdr := drop_cons l k hlt
        have hxx := HX.out l[k] (List.getElem_mem hlt)
        obtain ⟨A', c', hrun, hsl, hob⟩ := slice_loG el_i64 (some a) l.length c k .i64 (k : Int) rfl (by omega) hlc
        have HS := Lib.hid (hsl iv wr l rfl (HV.out.non hfr))
        clear hsl hob
        generalize l[k] = x at *
        have hP := HP.out
        rw [hdr, putR_cons] at hP
        have hrl := runN_le x (l.drop (k + 1))
        rw [List.length_drop] at hrl
        have hdd : (l.drop (k + 1)).drop (runN x (l.drop (k + 1))) = l.drop (k + (runN x (l.drop (k + 1)) + 1)) := by rw [List.drop_drop]; congr 1; omega
        rw [hdd] at hP
        have HP2 := Lib.hid hP
        have HD := Lib.hid hdr
        have hrunl := fun w' (h : Vs iv w' (.slice A' (l.length - k) c') (l.drop k)) => run_any _ (l.drop k) x (l.drop (k + 1)) HD.out w' h (by rw [List.length_drop]; omega)
        have HRun := Lib.hid hrunl
        unfold iv at hc0
        clear hP hdr hdd HP hrunl
        generalize runN x (l.drop (k + 1)) = q at *
        go_wp2_with fail
        refine (HRun.out _ HS.out).mono ?_
        rintro e w1 ⟨rfl, hf1⟩
        have hfr1 := hfr.trans hf1
        go_wp2_with fail
        refine (vnum_any q w1 (by unfold two64; omega)).mono ?_
        rintro e w2 ⟨v2, rfl, hown2, hf2⟩
        have hl10 : (Lib.uvarint q).length ≤ 10 := Lib.uvarint_length64 (by omega)
        have hfr2 := hfr1.trans hf2
        have hB2 := hfr2.size
        go_wp2_with (at_builtin; refine wpList_app rfl (.tmp 14) (.tmp 18) rfl w.heap.size u3 v2 bs (Lib.uvarint q) rfl (hown.non (hf1.trans hf2)) rfl hown2.bs (by omega) hB2 ?_; intro v3 w3 hown3 hf3; have hfr3 := hfr2.fresh hf3 (fun k hk => (hown.lt k hk).1); have hc3 := (hfr3.cell (World.block_lt_of_cell? w _ hc0) (fun e => e)).trans hc0)
        refine (vint_any x w3 hxx.1 hxx.2).mono ?_
        rintro e w4 ⟨v4, rfl, hown4, hf4⟩
        have hz10 := uvarint_zig10 hxx
        have hfr4 := hfr3.trans hf4
        have hB4 := hfr4.size
        go_wp2_with (at_builtin; refine wpList_app rfl (.tmp 20) (.tmp 25) rfl w.heap.size v3 v4 (bs ++ Lib.uvarint q) (Lib.uvarint (zig x)) rfl (hown3.non hf4) rfl hown4.bs (by rw [List.length_append]; omega) hB4 ?_; intro v5 w5 hown5 hf5; have hfr5 := hfr4.fresh hf5 (fun k hk => (hown3.lt k hk).1))
        go_roundw
        case rel => exact ⟨k + (q + 1), bs ++ Lib.uvarint q ++ Lib.uvarint (zig x), by omega, by go_num, Lib.hid (by rw [HP2.out]; unfold oneR; simp [List.append_assoc]), by simp only [List.length_append]; omega, hown5, hfr5⟩
        case measure => simp [intOf]; omega
    · obtain rfl : k = l.length := by omega
      have hP := HP.out
      rw [List.drop_length, putR_nil, List.append_nil] at hP
      have HP2 := Lib.hid hP
      clear hP
      go_wp2
      go_ret
      exact ⟨_, rfl, by rw [HP2.out]; exact hown, hfr⟩
end Go.Proofs.YtheefloegbkflaaGreatDoor


namespace Go.Proofs.YtheefloegbkflaaGreatDoor
set_option linter.unusedVariables false
set_option linter.unusedSimpArgs false
set_option maxRecDepth 100000
open Go.RowKit

/-- append as one step of a region that draws -/
theorem step_app {w : World} {ops : Array Oper} {o : Oper} {a : Act} {K : Act → World → Prop} {Q : Exit → Act → World → Prop} {E : Prop} (hgd : o.guard = none) (s x : Operand)
    (ho : o.op = .call { callee := .builtin .append, args := #[s, x], argTypes := #[26, 26] })
    (B : Nat) (v y : Value) (l m : List UInt8) (hs : a.eval s = v) (hown : Own w B v l) (hx : a.eval x = y) (hy : Bs w y m)
    (hl : l.length + m.length < 140737488355328) (hB : B ≤ w.heap.size)
    (h : ∀ v' w', Own w' B v' (l ++ m) → Fr (fun k => v.ownBlock = some k) w w' → K (a.put o.dst v') w') : if Region.wanted o (yielded ops a.tmps) = true then Oper.wp Tryz.prog o a w K Q else E := by
  have hw : Region.wanted o (yielded ops a.tmps) = true := by simp [Region.wanted, hgd]
  rw [if_pos hw]
  exact wp_app s x ho B v y l m hs hown hx hy hl hB h
end Go.Proofs.YtheefloegbkflaaGreatDoor


namespace Go.Proofs.YtheefloegbkflaaGreatDoor
set_option linter.unusedVariables false
set_option linter.unusedSimpArgs false
set_option maxRecDepth 100000
open Go.RowKit

/-- what Get answers: nothing and false, or the numbers and true -/
def Gtn (w : World) (B : Nat) (o : Option (List Int)) (e : Ending) : Prop :=
  (o = none ∧ e = .returned (.tuple #[.slice none 0 0, .bool false])) ∨ (∃ l u, o = some l ∧ e = .returned (.tuple #[u, .bool true]) ∧ Ow iv 2 w B u l)
theorem gtn_no {w : World} {B : Nat} {o : Option (List Int)} (h : o = none) : Gtn w B o (.returned (.tuple #[.slice none 0 0, .bool false])) := .inl ⟨h, rfl⟩
theorem gtn_yes {w : World} {B : Nat} {o : Option (List Int)} {l : List Int} {u : Value} (h : o = some l) (hu : Ow iv 2 w B u l) : Gtn w B o (.returned (.tuple #[u, .bool true])) := .inr ⟨l, u, h, rfl, hu⟩

set_option maxHeartbeats 4000000 in
theorem rnget_any (v : Value) (b : List UInt8) (n : Int) (w : World) (hv : Bs w v b) (hl : b.length ≤ 1000000000) (h1 : -9223372036854775808 ≤ n) (h2 : n ≤ 9223372036854775807) :
    Calls Tryz.prog 100 #[v, .int .i64 n] w fun e w' => Gtn w' w.heap.size (gtM b n) e ∧ Fr Non w w' := by
  have HV := Lib.hid hv
  obtain ⟨A, c, rfl, _⟩ := hv
  by_cases hn0 : n < 0
  · have hd : decide (n < 0) = true := by simpa using hn0
    have HN := Lib.hid hn0
    clear hn0
    go_enter Tryz.func100, Tryz.ntmps100
    go_wp2
    go_step3
    go_wp2
    try rw [Exit.noGoto_ret]
    go_ret2
    exact ⟨gtn_no (by have := HN.out; unfold gtM gtz; rw [if_pos (by omega), if_pos this]), Fr.refl _ _⟩
  · by_cases hn4 : 4096 < n
    · have hd : decide (n < 0) = false := by simpa using hn0
      have hd4 : decide (4096 < n) = true := by simpa using hn4
      go_enter Tryz.func100, Tryz.ntmps100
      go_wp2
      go_step3
      go_wp2
      try rw [Exit.noGoto_ret]
      go_ret2
      exact ⟨gtn_no (by unfold gtM; rw [if_neg (by omega)]), Fr.refl _ _⟩
    · obtain ⟨m, rfl⟩ := Int.eq_ofNat_of_zero_le (show 0 ≤ n by omega)
      have HG := Lib.hid (show gtM b m = gtz b m none by unfold gtM; rw [if_pos (by omega)])
      have hd : decide ((m : Int) < 0) = false := by simp
      have hd4 : decide (4096 < (m : Int)) = false := by simpa using hn4
      clear h1 h2
      go_enter Tryz.func100, Tryz.ntmps100
      go_wp2
      go_step3
      go_wp2_with fail
      refine (from_any _ b w HV.out).mono ?_
      rintro e w1 ⟨rfl, s1, f1⟩
      have hg1 := s1.1.lt
      go_wp2_with (at_make; refine wpList_mkG iv el_i64 rfl _ _ rfl _ _ _ m rfl rfl rfl (by omega) ?_; intro v2 w2 hown2 hfr2)
      go_step3
      go_wp2
      have s2 := s1.fr hfr2 (fun e => e)
      have f2 := f1.trans hfr2
      have hB := hfr2.size
      clear s1 f1 hfr2
      generalize hW : w1.heap.size = B at *
      generalize hgg : w.heap.size = g at *
      have HW := Lib.hid hgg
      clear hW hgg
      go_loopw [7] (fun x wr => ∃ (r : List UInt8) (o : List Int), Ow iv 2 wr B x o ∧ o.length ≤ m ∧ Src wr g r false ∧ Hid (gtz b m none = (gtz r ((m : Int) - o.length) o.getLast?).map (o ++ ·)) ∧ B ≤ wr.heap.size ∧ Fr Non w wr) (fun x _ => m - slLen x)
      case atStart => exact ⟨b, [], hown2, by simp, s2, Lib.hid (by simp), hB, f2⟩
      case round =>
        obtain ⟨r, o, hown, hom, hs, HI, hBr, hfr⟩ := hrel
        have HO := Lib.hid hown
        have HF := Lib.hid hfr
        obtain ⟨A1, c1, rfl⟩ := hown.shape
        clear hown hfr hown2 s2 f2
        have HIo := HI.out
        generalize hol : o.length = ol at *
        have HL := Lib.hid hol
        clear hol HI
        by_cases hlt : ol < m
        · have hcalc : ((m : Int) - ol - 1) = ((m - ol - 1 : Nat) : Int) := by omega
          have hne : r = [] ∨ r ≠ [] := by cases r <;> simp
          cases hx : nxR r (m - ol - 1) with
          | none =>
            have HR : Hid (gtz b m none = none) := Lib.hid (by
              rw [HIo]
              rcases hne with rfl | hne
              · rw [gtz_none (by omega)]; rfl
              · rw [gtz_bad hne (by omega) hx]; rfl)
            have hfe := step_none hx hcalc
            clear hx hcalc hne HIo
            go_wp2_with fail
            refine (below_any g r false ((m : Int) - ol) wr hs (by omega)).mono ?_
            rintro e w3 ⟨rfl, s3, f3⟩
            generalize mostV r ((m : Int) - ol - 1) = mv at *
            go_wp2_with fail
            refine (sint_any g _ _ w3 s3).mono ?_
            rintro e w4 ⟨rfl, s4, f4⟩
            rw [hfe] at s4
            generalize unzig (fstN (mostR r ((m : Int) - ol - 1))) = mz at *
            clear hfe s3
            have hf4 := (HF.out.fresh (f3.trans f4) (fun k e => by have : k = g := e; have := HW.out; omega))
            clear f3 f4
            go_wp2_with fail
            refine (ok_any g _ true w4 s4).mono ?_
            rintro e w5 ⟨rfl, rfl⟩
            go_wp2_with fail
            refine (end_any g _ true w4 s4).mono ?_
            rintro e w5 ⟨rfl, rfl⟩
            go_wp2
            try rw [Exit.noGoto_ret]
            go_ret2
            exact ⟨gtn_no (HG.out.trans HR.out), hf4⟩
          | some y =>
            obtain ⟨k, x, q⟩ := y
            obtain ⟨e1, e2, e3, e4, hkm, hxx⟩ := step_some hx hcalc
            have hb0 := below_any g r false ((m : Int) - ol) wr hs (by omega)
            rw [e1] at hb0
            have hi0 : ∀ w3, Src w3 g (mostR r ((m : Int) - ol - 1)) (mostB r ((m : Int) - ol - 1)) →
                Calls Tryz.prog 148 #[ptr g] w3 fun e w' => e = .returned (.int .i64 x) ∧ Src w' g q false ∧ Fr (One g) w3 w' := by
              intro w3 s3
              have := sint_any g _ _ w3 s3
              rwa [e2, e3, e4] at this
            have HI0 := Lib.hid hi0
            have HX := Lib.hid hx
            clear e1 e2 e3 e4 hi0 hcalc hne hx
            cases hla : o.getLast? with
            | none =>
              have hol : o = [] := by simpa using hla
              have h0 : ol = 0 := by rw [← HL.out, hol]; rfl
              have hw1 := HW.out
              have HIN : Hid (gtz b m none = (gtz q ((m : Int) - ol - ((k : Int) + 1)) (some x)).map (o ++ List.replicate (k + 1) x ++ ·)) := Lib.hid (by
                rw [HIo, gtz_more HX.out (by omega) (by rw [hla]; simp), more_app])
              subst h0
              clear hol
              clear HIo hla
              go_wp2_with fail
              refine hb0.mono ?_
              rintro e w3 ⟨rfl, s3, f3⟩
              go_wp2_with fail
              refine (HI0.out w3 s3).mono ?_
              rintro e w4 ⟨rfl, s4, f4⟩
              have f34 := f3.trans f4
              have hB4 := Nat.le_trans hBr f34.size
              have hf4 := (HF.out.fresh f34 (fun k e => by have : k = g := e; omega))
              have hown4 := HO.out.fr f34 (fun k hk e => by have h1 := (HO.out.lt k hk).1; have : k = g := e; omega)
              clear f3 f4 s3 f34
              go_wp2_with fail
              refine (ok_any g _ false w4 s4).mono ?_
              rintro e w5 ⟨rfl, rfl⟩
              go_wp2
              go_loopw [7, 54] (fun u i wx => ∃ j : Nat, j ≤ k + 1 ∧ i = .int .i64 j ∧ Ow iv 2 wx B u (o ++ List.replicate j x) ∧ Src wx g q false ∧ B ≤ wx.heap.size ∧ Fr Non w wx) (fun _ i _ => k + 1 - (intOf i).toNat)
              case atStart => exact ⟨0, Nat.zero_le _, rfl, by simpa using hown4, s4, hB4, hf4⟩
              case round =>
                clear hown4 s4 hf4 hB4
                obtain ⟨j, hj, rfl, hown, hs, hBx, hfr⟩ := hrel
                by_cases hlj : j < k + 1
                · have HLen : Hid ((o ++ List.replicate j x).length < 1099511627776) := Lib.hid (by rw [List.length_append, HL.out, List.length_replicate]; omega)
                  have HS := Lib.hid (show o ++ List.replicate j x ++ [x] = o ++ List.replicate (j + 1) x by rw [List.replicate_succ', List.append_assoc])
                  go_wp2_with (at_builtin; refine wpList_pushG el_i64 iv_oneC rfl (.tmp 56) (.tmp 58) rfl B _ (o ++ List.replicate j x) rfl hown _ x rfl rfl HLen.out hBx ?_; intro v5 w5 hown5 hf5)
                  have hf5n := hfr.fresh hf5 (fun q hq => by have := (hown.lt q hq).1; have := HW.out; omega)
                  go_roundw
                  case rel => exact ⟨j + 1, by omega, by go_num, by rw [← HS.out]; exact hown5, hs.fr hf5 (fun e => by have := (hown.lt _ e).1; omega), Nat.le_trans hBx hf5.size, hf5n⟩
                  case measure => simp [intOf]; omega
                · obtain rfl : j = k + 1 := by omega
                  have hsl := slLen_vs hown.vs
                  rw [List.length_append, HL.out, List.length_replicate] at hsl
                  go_wp2
                  go_roundw
                  case rel => exact ⟨q, o ++ List.replicate (k + 1) x, hown, by rw [List.length_append, HL.out, List.length_replicate]; omega, hs, Lib.hid (by rw [HIN.out, last_more, List.length_append, HL.out, List.length_replicate]; congr 2; push_cast; omega), hBx, hfr⟩
                  case measure => rw [hsl]; simp [slLen]; omega
            | some y =>
              obtain ⟨t, ht, hyt⟩ := last_at hla
              have hot : ol = t + 1 := by rw [← HL.out]; exact ht
              have hcl : ∃ g2, A1 = some ⟨g2, 0, none⟩ ∧ B ≤ g2 ∧ g2 < wr.heap.size ∧ wr.cell? ⟨g2, t, none⟩ = some (.int .i64 y) := by
                obtain ⟨g2, cap, he, h1, h2, _⟩ := HO.out.row (by omega)
                simp only [Value.slice.injEq] at he
                obtain ⟨rfl, _, _⟩ := he
                exact ⟨g2, rfl, h1, h2, HO.out.cell HL.out.symm t y hyt⟩
              obtain ⟨g2, rfl, hg2, hg2s, hc2⟩ := hcl
              subst hot
              have hw1 := HW.out
              clear ht hyt
              by_cases hyx : y = x
              · have HR : Hid (gtz b m none = none) := Lib.hid (by
                  rw [HIo, gtz_same HX.out (by push_cast; omega) (by rw [hla, hyx])]; rfl)
                have hb : (y == x) = true := by simp [hyx]
                clear HIo hla hyx
                go_wp2_with fail
                refine hb0.mono ?_
                rintro e w3 ⟨rfl, s3, f3⟩
                go_wp2_with fail
                refine (HI0.out w3 s3).mono ?_
                rintro e w4 ⟨rfl, s4, f4⟩
                have f34 := f3.trans f4
                have hc4 := (f34.cell (p := ⟨g2, t, none⟩) hg2s (fun e => by have : g2 = g := e; omega)).trans hc2
                have hf4 := (HF.out.fresh f34 (fun k e => by have : k = g := e; omega))
                clear f3 f4 s3 hc2
                go_wp2_with fail
                refine (ok_any g _ false w4 s4).mono ?_
                rintro e w5 ⟨rfl, rfl⟩
                go_wp2_with fail
                refine (fail_any g _ _ w4 s4).mono ?_
                rintro e w6 ⟨rfl, s6, f6⟩
                have hf6 := (hf4.fresh f6 (fun k e => by have : k = g := e; omega))
                go_wp2_with fail
                refine (end_any g _ true w6 s6).mono ?_
                rintro e w5 ⟨rfl, rfl⟩
                go_wp2
                try rw [Exit.noGoto_ret]
                go_ret2
                exact ⟨gtn_no (HG.out.trans HR.out), hf6⟩
              · have HIN : Hid (gtz b m none = (gtz q ((m : Int) - (t + 1 : Nat) - ((k : Int) + 1)) (some x)).map (o ++ List.replicate (k + 1) x ++ ·)) := Lib.hid (by
                  rw [HIo, gtz_more HX.out (by push_cast; omega) (by rw [hla]; simpa using hyx), more_app])
                have hb : (y == x) = false := by simpa using hyx
                clear HIo hla hyx
                go_wp2_with fail
                refine hb0.mono ?_
                rintro e w3 ⟨rfl, s3, f3⟩
                go_wp2_with fail
                refine (HI0.out w3 s3).mono ?_
                rintro e w4 ⟨rfl, s4, f4⟩
                have f34 := f3.trans f4
                have hc4 := (f34.cell (p := ⟨g2, t, none⟩) hg2s (fun e => by have : g2 = g := e; omega)).trans hc2
                clear hc2
                have hB4 := Nat.le_trans hBr f34.size
                have hf4 := (HF.out.fresh f34 (fun k e => by have : k = g := e; omega))
                have hown4 := HO.out.fr f34 (fun k hk e => by have h1 := (HO.out.lt k hk).1; have : k = g := e; omega)
                clear f3 f4 s3 f34
                go_wp2_with fail
                refine (ok_any g _ false w4 s4).mono ?_
                rintro e w5 ⟨rfl, rfl⟩
                go_wp2
                go_loopw [7, 54] (fun u i wx => ∃ j : Nat, j ≤ k + 1 ∧ i = .int .i64 j ∧ Ow iv 2 wx B u (o ++ List.replicate j x) ∧ Src wx g q false ∧ B ≤ wx.heap.size ∧ Fr Non w wx) (fun _ i _ => k + 1 - (intOf i).toNat)
                case atStart => exact ⟨0, Nat.zero_le _, rfl, by simpa using hown4, s4, hB4, hf4⟩
                case round =>
                  clear hown4 s4 hf4 hB4
                  obtain ⟨j, hj, rfl, hown, hs, hBx, hfr⟩ := hrel
                  by_cases hlj : j < k + 1
                  · have HLen : Hid ((o ++ List.replicate j x).length < 1099511627776) := Lib.hid (by rw [List.length_append, HL.out, List.length_replicate]; omega)
                    have HS := Lib.hid (show o ++ List.replicate j x ++ [x] = o ++ List.replicate (j + 1) x by rw [List.replicate_succ', List.append_assoc])
                    go_wp2_with (at_builtin; refine wpList_pushG el_i64 iv_oneC rfl (.tmp 56) (.tmp 58) rfl B _ (o ++ List.replicate j x) rfl hown _ x rfl rfl HLen.out hBx ?_; intro v5 w5 hown5 hf5)
                    have hf5n := hfr.fresh hf5 (fun q hq => by have := (hown.lt q hq).1; have := HW.out; omega)
                    go_roundw
                    case rel => exact ⟨j + 1, by omega, by go_num, by rw [← HS.out]; exact hown5, hs.fr hf5 (fun e => by have := (hown.lt _ e).1; omega), Nat.le_trans hBx hf5.size, hf5n⟩
                    case measure => simp [intOf]; omega
                  · obtain rfl : j = k + 1 := by omega
                    have hsl := slLen_vs hown.vs
                    rw [List.length_append, HL.out, List.length_replicate] at hsl
                    go_wp2
                    go_roundw
                    case rel => exact ⟨q, o ++ List.replicate (k + 1) x, hown, by rw [List.length_append, HL.out, List.length_replicate]; omega, hs, Lib.hid (by rw [HIN.out, last_more, List.length_append, HL.out, List.length_replicate]; congr 2; push_cast; omega), hBx, hfr⟩
                    case measure => rw [hsl]; simp [slLen]; omega
        · obtain rfl : ol = m := by omega
          rw [Int.sub_self] at HIo
          cases r with
          | nil =>
            have HR : Hid (gtz b ol none = some o) := Lib.hid (by rw [HIo, gtz_nil]; simp)
            clear HIo
            go_wp2_with fail
            refine (end_any g _ false wr hs).mono ?_
            rintro e w5 ⟨rfl, rfl⟩
            go_wp2
            try rw [Exit.noGoto_ret]
            go_ret2
            exact ⟨gtn_yes (HG.out.trans HR.out) (HO.out.mono (by have := HW.out; omega)), HF.out⟩
          | cons r0 r =>
            have HR : Hid (gtz b ol none = none) := Lib.hid (by rw [HIo, gtz_end (by simp)]; rfl)
            clear HIo
            go_wp2_with fail
            refine (end_any g _ false wr hs).mono ?_
            rintro e w5 ⟨rfl, rfl⟩
            go_wp2
            try rw [Exit.noGoto_ret]
            go_ret2
            exact ⟨gtn_no (HG.out.trans HR.out), HF.out⟩
end Go.Proofs.YtheefloegbkflaaGreatDoor


namespace Go.Proofs.YtheefloegbkflaaGreatDoor
set_option linter.unusedVariables false
set_option linter.unusedSimpArgs false
set_option maxRecDepth 100000
open Go.RowKit

theorem w6_wrap64 (n : Int) : wrap64 n = w6 n := by unfold wrap64 w6; rfl

theorem ow_other {α : Type} {f : α → Value} {E t : TypeId} {w : World} {B g : Nat} {v : Value} {l : List α} {cs : Array Value} (h : Ow f E w B v l) (hb : Blk w g t cs) (hne : E ≠ t) : ∀ k, v.ownBlock = some k → k ≠ g := by
  rintro k hk rfl
  obtain ⟨cur, h1⟩ := h.kind k hk
  unfold Blk at hb
  rw [hb] at h1
  simp at h1
  exact hne h1.2.symm

theorem lessAhead_any (w : World) : Calls Tryz.prog 150 #[] w fun e w' => e = .returned (.func (.func 177) #[] #[ptr w.heap.size]) ∧ Blk w' w.heap.size 2 #[iv 0] ∧ Fr Non w w' := by
  have hmf : ∀ (fn : Fn) (first cap : Array Value) (w : World), (Instr.makeFunc fn first cap).run Tryz.prog w = .ok (.func fn first cap) w := fun _ _ _ _ => rfl
  go_enter Tryz.func150, Tryz.ntmps150
  go_wp2
  go_ret
  exact ⟨rfl, Blk.new _ _ _, (Fr.refl _ _).alloc _⟩

theorem plusAhead_any (w : World) : Calls Tryz.prog 151 #[] w fun e w' => e = .returned (.func (.func 178) #[] #[ptr w.heap.size]) ∧ Blk w' w.heap.size 2 #[iv 0] ∧ Fr Non w w' := by
  have hmf : ∀ (fn : Fn) (first cap : Array Value) (w : World), (Instr.makeFunc fn first cap).run Tryz.prog w = .ok (.func fn first cap) w := fun _ _ _ _ => rfl
  go_enter Tryz.func151, Tryz.ntmps151
  go_wp2
  go_ret
  exact ⟨rfl, Blk.new _ _ _, (Fr.refl _ _).alloc _⟩

theorem less_any (g : Nat) (x a : Int) (w : World) (h : Blk w g 2 #[iv a]) :
    Calls Tryz.prog 177 #[.int .i64 x, ptr g] w fun e w' => e = .returned (.int .i64 (w6 (x - a))) ∧ Blk w' g 2 #[iv x] ∧ Fr (One g) w w' := by
  have hc0 : w.cell? ⟨g, 0, none⟩ = some (.int .i64 a) := h.cell 0
  have hf0 := h.frozen 0
  go_enter Tryz.func177, Tryz.ntmps177
  go_wp2
  go_ret
  exact ⟨ret_int (w6_wrap64 _), h.set 0 _, (Fr.refl _ _).set1 0 _⟩

theorem plus_any (g : Nat) (x a : Int) (w : World) (h : Blk w g 2 #[iv a]) :
    Calls Tryz.prog 178 #[.int .i64 x, ptr g] w fun e w' => e = .returned (.int .i64 (w6 (a + x))) ∧ Blk w' g 2 #[iv (w6 (a + x))] ∧ Fr (One g) w w' := by
  have hc0 : w.cell? ⟨g, 0, none⟩ = some (.int .i64 a) := h.cell 0
  have hf0 := h.frozen 0
  go_enter Tryz.func178, Tryz.ntmps178
  go_wp2
  go_ret
  exact ⟨ret_int (w6_wrap64 _), by rw [← w6_wrap64]; exact h.set 0 _, (Fr.refl _ _).set1 0 _⟩

theorem lastD_take (a : Int) (l : List Int) (k : Nat) (h : k < l.length) : lastD a (l.take (k + 1)) = l[k] := by
  unfold lastD
  rw [List.take_succ_eq_append_getElem h, List.getLast?_concat]; rfl
theorem putD_take (l : List Int) (k : Nat) (h : k < l.length) : putD 0 (l.take (k + 1)) = putD 0 (l.take k) ++ Lib.uvarint (zig (w6 (l[k] - lastD 0 (l.take k)))) := by
  rw [List.take_succ_eq_append_getElem h, putD_app]; simp [putD_cons, putD_nil]
theorem u8_ne_i64 : 5 ≠ 2 := by decide

set_option maxHeartbeats 2000000 in
theorem dput_any (v : Value) (l : List Int) (w : World) (hv : Vs iv w v l) (hl : l.length ≤ 1000000) :
    Calls Tryz.prog 101 #[v] w fun e w' => ∃ u, e = .returned u ∧ Own w' w.heap.size u (putD 0 l) ∧ Fr Non w w' := by
  obtain ⟨A, c, rfl, hlc, hn, hcell⟩ := hv
  have HC := Lib.hid hcell
  have HN := Lib.hid hn
  clear hcell hn
  go_enter Tryz.func101, Tryz.ntmps101
  go_wp2_with (at_make; refine wpList_mkbytes rfl _ _ rfl _ _ _ l.length rfl rfl rfl (by omega) ?_; intro v2 w2 hown2 hfr2)
  refine (lessAhead_any w2).mono ?_
  rintro e w3 ⟨rfl, hb3, hfr3⟩
  have hown3 := hown2.non hfr3
  have hf3 := hfr2.trans hfr3
  have hg2 := hfr2.size
  clear hown2 hfr2 hfr3
  generalize hgg : w2.heap.size = g at *
  clear hgg
  go_wp2
  go_loopw [3, 13] (fun b i wr => ∃ (k : Nat), k ≤ l.length ∧ i = .int .i64 k ∧ Own wr w.heap.size b (putD 0 (l.take k)) ∧ Blk wr g 2 #[iv (lastD 0 (l.take k))] ∧ Fr Non w wr) (fun _ i _ => l.length - (intOf i).toNat)
  case atStart => exact ⟨0, Nat.zero_le _, rfl, hown3, hb3, hf3⟩
  case round =>
    clear hown3 hb3 hf3
    obtain ⟨k, hk, rfl, hown, hb, hfr⟩ := hrel
    by_cases hlt : k < l.length
    · cases A with
      | none => have := HN.out rfl; omega
      | some a =>
        have hc0 := (hfr.cell (World.block_lt_of_cell? w _ (HC.out a rfl k hlt)) (fun e => e)).trans (HC.out a rfl k hlt)
        unfold iv at hc0
        have HT := Lib.hid (putD_take l k hlt)
        have HL := Lib.hid (lastD_take 0 l k hlt)
        have hpl := putD_len (l.take k) 0
        have hlk : (l.take k).length = k := by rw [List.length_take]; omega
        rw [hlk] at hpl
        clear hlk
        generalize l[k] = x at *
        generalize lastD 0 (l.take k) = d at *
        generalize putD 0 (l.take k) = bs at *
        have HO := Lib.hid hown
        have HB := Lib.hid hb
        clear hown hb
        have hx64 := w6_i64 (x - d)
        go_wp2_with fail
        refine (less_any g x d wr HB.out).mono ?_
        rintro e w4 ⟨rfl, hb4, hf4⟩
        have hown4 := HO.out.fr hf4 (fun q hq e => ow_other HO.out.ow HB.out u8_ne_i64 q hq e)
        have hfr4 := hfr.fresh hf4 (fun q e => by have : q = g := e; omega)
        go_wp2_with fail
        refine (vint_any _ w4 hx64.1 hx64.2).mono ?_
        rintro e w5 ⟨v5, rfl, hown5, hf5⟩
        have hz10 := uvarint_zig10 hx64
        have hfr5 := hfr4.trans hf5
        have hB5 := hfr5.size
        have hb5 := hb4.fr hf5 (fun e => e)
        have hown5' := hown4.non hf5
        generalize Lib.uvarint (zig (w6 (x - d))) = y at *
        go_wp2_with (at_builtin; refine wpList_app rfl (.tmp 17) (.tmp 21) rfl w.heap.size u3 v5 bs y rfl hown5' rfl hown5.bs (by omega) hB5 ?_; intro v6 w6_ hown6 hf6)
        have hb6 := hb5.fr hf6 (fun e => ow_other hown5'.ow hb5 u8_ne_i64 g e rfl)
        have hfr6 := hfr5.fresh hf6 (fun k hk => (hown5'.lt k hk).1)
        go_roundw
        case rel => exact ⟨k + 1, by omega, by go_num, by rw [HT.out]; exact hown6, by rw [HL.out]; exact hb6, hfr6⟩
        case measure => simp [intOf]; omega
    · obtain rfl : k = l.length := by omega
      rw [List.take_length] at hown
      go_wp2
      go_ret
      exact ⟨_, rfl, hown, hfr⟩

end Go.Proofs.YtheefloegbkflaaGreatDoor


namespace Go.Proofs.YtheefloegbkflaaGreatDoor
set_option linter.unusedVariables false
set_option linter.unusedSimpArgs false
set_option maxRecDepth 100000
open Go.RowKit

/-- what is still to come of what is answered -/
def ToD (t : Option (List Int)) (bad : Bool) (p : Int) (a : Int) (r : List UInt8) (o : List Int) : Prop := if bad then t = none else t = (gdz p a r).map (o ++ ·)
theorem toD_start (n : Int) (b : List UInt8) : ToD (gdz n 0 b) false n 0 b [] := by unfold ToD; simp
theorem toD_step {t : Option (List Int)} {bad : Bool} {p a : Int} {r : List UInt8} {o : List Int} (h : ToD t bad p a r o) (hb : bad = true → r = []) (hp : 0 < p) :
    ToD t (fell r) (p - 1) (w6 (a + unzig (fstN r))) (rest r) (o ++ [w6 (a + unzig (fstN r))]) := by
  unfold ToD at *
  cases hr : rd 0 0 r with
  | none =>
    rw [(rest_none hr).2.1, if_pos rfl]
    cases bad with
    | true => exact h
    | false =>
      rw [h]
      cases r with
      | nil => rw [gdz_nilne (by omega)]; rfl
      | cons c r => rw [gdz_bad (by simp) hr]; rfl
  | some y =>
    obtain ⟨z, q⟩ := y
    cases bad with
    | true => rw [hb rfl] at hr; simp [rd] at hr
    | false =>
      rw [(rest_some hr).1, (rest_some hr).2.1, (rest_some hr).2.2.1, h, gdz_some hp hr, cons_app]
      rfl
theorem toD_end {t : Option (List Int)} {bad : Bool} {a : Int} {r : List UInt8} {o : List Int} (h : ToD t bad 0 a r o) : t = if (!bad && r.isEmpty) = true then some o else none := by
  unfold ToD at h
  cases bad with
  | true => simpa using h
  | false =>
    rw [h]
    cases r with
    | nil => rw [gdz_nil]; simp
    | cons c r => rw [gdz_end (by omega) (by simp)]; simp

theorem set_appD {o : List Int} {k m : Nat} {x y : Int} (h : o.length = k) (hk : k < m) : (o ++ List.replicate (m - k) x).set k y = o ++ [y] ++ List.replicate (m - (k + 1)) x := by
  subst h
  rw [List.set_append_right _ _ (Nat.le_refl _), Nat.sub_self, show m - o.length = (m - (o.length + 1)) + 1 by omega, List.replicate_succ, List.set_cons_zero, List.append_assoc]; rfl

set_option maxHeartbeats 2000000 in
theorem dget_any (v : Value) (b : List UInt8) (n : Int) (w : World) (hv : Bs w v b) (hl : b.length ≤ 1000000000) (h1 : -9223372036854775808 ≤ n) (h2 : n ≤ 9223372036854775807) :
    Calls Tryz.prog 102 #[v, .int .i64 n] w fun e w' => Gtn w' w.heap.size (gdz n 0 b) e ∧ Fr Non w w' := by
  have HV := Lib.hid hv
  obtain ⟨A, c, rfl, _⟩ := hv
  by_cases hn0 : n < 0
  · have hd : decide (n < 0) = true := by simpa using hn0
    have HN := Lib.hid hn0
    clear hn0
    go_enter Tryz.func102, Tryz.ntmps102
    go_wp2
    go_ret2
    exact ⟨gtn_no (gdz_neg HN.out), Fr.refl _ _⟩
  · by_cases hn4 : (b.length : Int) < n
    · have hd : decide (n < 0) = false := by simpa using hn0
      have hd4 : decide ((b.length : Int) < n) = true := by simpa using hn4
      have HN := Lib.hid hn4
      go_enter Tryz.func102, Tryz.ntmps102
      go_wp2
      go_ret2
      exact ⟨gtn_no (gdz_long HN.out), Fr.refl _ _⟩
    · obtain ⟨m, rfl⟩ := Int.eq_ofNat_of_zero_le (show 0 ≤ n by omega)
      have hd : decide ((m : Int) < 0) = false := by simp
      have hd4 : decide ((b.length : Int) < (m : Int)) = false := by simpa using hn4
      have hm9 : m ≤ 1000000000 := by omega
      clear h1 h2
      go_enter Tryz.func102, Tryz.ntmps102
      go_wp2_with fail
      refine (from_any _ b w HV.out).mono ?_
      rintro e w1 ⟨rfl, s1, f1⟩
      go_wp2_with fail
      refine (plusAhead_any w1).mono ?_
      rintro e w2 ⟨rfl, b2, f2⟩
      have s2 := s1.fr f2 (fun e => e)
      have f12 := f1.trans f2
      have hg1 := s1.1.lt
      have hg2 := b2.lt
      clear s1 f1 f2
      go_wp2_with (at_make; refine wpList_mkfullG (f := iv) el_i64 (0 : Int) rfl rfl _ _ rfl _ _ _ _ m rfl rfl rfl rfl (by omega) ?_; intro w3 hown3 f3)
      have s3 := s2.fr f3 (fun e => e)
      have b3 := b2.fr f3 (fun e => e)
      have f123 := f12.trans f3
      have hB := f3.size
      have hw1 := f12.size
      clear s2 b2 f12 f3
      generalize hgB : w2.heap.size = B at *
      generalize hgg1 : w1.heap.size = g1 at *
      generalize hgg : w.heap.size = g at *
      have HW := Lib.hid hgg
      clear hgg hgB hgg1
      go_wp2
      go_loopw [25] (fun i wr => ∃ (k : Nat) (r : List UInt8) (o : List Int) (a : Int) (bad : Bool), k ≤ m ∧ i = .int .i64 k ∧ o.length = k ∧ Ow iv 2 wr B (.slice (some ⟨B, 0, none⟩) m m) (o ++ List.replicate (m - k) 0) ∧ Src wr g r bad ∧ Blk wr g1 2 #[iv a] ∧ Hid (ToD (gdz m 0 b) bad ((m : Int) - k) a r o) ∧ Fr Non w wr) (fun i _ => m - (intOf i).toNat)
      case atStart => exact ⟨0, b, [], 0, false, Nat.zero_le _, rfl, rfl, by simpa using hown3, s3, b3, Lib.hid (by have := toD_start m b; simpa using this), f123⟩
      case round =>
        clear hown3 s3 b3 f123 hB
        obtain ⟨k, r, o, a, bad, hk, rfl, hok, hown, hs, hb, HT, hfr⟩ := hrel
        have HO := Lib.hid hown
        have HK := Lib.hid hok
        have HF := Lib.hid hfr
        clear hown hok hfr
        by_cases hlt : k < m
        · have HT2 := Lib.hid (toD_step HT.out hs.2 (by omega))
          go_wp2_with fail
          refine (sint_any g _ _ wr hs).mono ?_
          rintro e w4 ⟨rfl, s4, f4⟩
          have b4 := hb.fr f4 (fun e => by have : g1 = g := e; omega)
          go_wp2_with fail
          refine (plus_any g1 _ a w4 b4).mono ?_
          rintro e w5 ⟨rfl, b5, f5⟩
          have s5 := s4.fr f5 (fun e => by have : g = g1 := e; omega)
          have hown4 := HO.out.fr f4 (fun q hq e => by have h1 := (HO.out.lt q hq).1; have : q = g := e; omega)
          have hown5 := hown4.fr f5 (fun q hq e => by have h1 := (hown4.lt q hq).1; have : q = g1 := e; omega)
          have hf5 := (HF.out.fresh f4 (fun k e => by have : k = g := e; have := HW.out; omega)).fresh f5 (fun k e => by have : k = g1 := e; have := HW.out; omega)
          have hlen : m = (o ++ List.replicate (m - k) 0).length := by rw [List.length_append, HK.out, List.length_replicate]; omega
          have hfz := hown5.frozen hlen k
          have hst := hown5.store hlen k (w6 (a + unzig (fstN r)))
          rw [set_appD HK.out hlt] at hst
          have HST := Lib.hid hst
          have hcl : w5.cell? ⟨B, k, none⟩ = some (.int .i64 ((o ++ List.replicate (m - k) 0)[k]'(by omega))) := hown5.cell hlen k _ (List.getElem?_eq_getElem (by omega))
          generalize (o ++ List.replicate (m - k) 0)[k]'(by omega) = z0 at *
          generalize w6 (a + unzig (fstN r)) = y at *
          unfold iv at HST
          clear hst hlen hown4 hown5 f4 f5 s4 b4 hs hb
          go_wp2
          go_roundw
          case rel => exact ⟨k + 1, rest r, o ++ [y], y, fell r, by omega, by go_num, by rw [List.length_append, HK.out]; rfl, HST.out, s5.fr ((Fr.refl (One B) w5).set1 k _) (fun e => by have : g = B := e; omega), b5.fr ((Fr.refl (One B) w5).set1 k _) (fun e => by have : g1 = B := e; omega), Lib.hid (by have := HT2.out; rwa [show (m : Int) - (k + 1 : Nat) = (m : Int) - k - 1 by omega]), hf5.setCell (fun h => by have := HW.out; simp at h; omega) _⟩
          case measure => simp [intOf]; omega
        · obtain rfl : k = m := by omega
          have hT := HT.out
          rw [Int.sub_self] at hT
          have HE := Lib.hid (toD_end hT)
          clear hT
          go_wp2_with fail
          refine (end_any g r bad wr hs).mono ?_
          rintro e w5 ⟨rfl, rfl⟩
          cases hbe : (!bad && r.isEmpty) with
          | true =>
            rw [hbe] at HE
            go_wp2
            go_ret2
            exact ⟨gtn_yes HE.out (by have := HO.out.mono (B' := w.heap.size) (by have := HW.out; omega); simpa using this), HF.out⟩
          | false =>
            rw [hbe] at HE
            go_wp2
            go_ret2
            exact ⟨gtn_no HE.out, HF.out⟩

def GeD (B : Nat) : Nat → Prop := fun k => B ≤ k

set_option maxHeartbeats 4000000 in
theorem rdget_any (v : Value) (b : List UInt8) (n : Int) (w : World) (hv : Bs w v b) (hvl : ∀ k, v.ownBlock = some k → k < w.heap.size) (hl : b.length ≤ 100000000) (h1 : -9223372036854775808 ≤ n) (h2 : n ≤ 400) :
    Calls Tryz.prog 142 #[v, .int .i64 n] w fun e w' => Gtn w' w.heap.size (gdz n 0 b) e ∧ Fr Non w w' := by
  have hsz := hvl
  have S0 : ∀ W, W = w.alloc (.cells #[v, .bool false] 88) → SAt W w.heap.size (GeD w.heap.size) b false := by
    rintro W rfl
    exact ⟨v, Blk.new _ _ _, hv.non ((Fr.refl _ _).alloc _), (fun k hk e => by have := hsz k hk; unfold GeD at e; omega), by unfold GeD; omega, fun h => by cases h⟩
  have HS0 := Lib.hid S0
  clear S0 hsz
  obtain ⟨A, c, rfl, _⟩ := hv
  clear hvl
  go_enter Tryz.func142, Tryz.ntmps142
  go_wp2
  have s1 := HS0.out _ rfl
  have hg1 := s1.cells
  have hown1 : Ow iv 2 ((w.alloc (.cells #[.slice A b.length c, .bool false] 88)).alloc (.cells #[] 2)) (w.heap.size + 1) (.slice (some ⟨w.heap.size + 1, 0, none⟩) 0 0) [] := ow_lit0 _ _ _ (by simp) (Nat.le_refl _)
  have f1 : Fr Non w ((w.alloc (.cells #[.slice A b.length c, .bool false] 88)).alloc (.cells #[] 2)) := ((Fr.refl _ _).alloc _).alloc _
  have s2 := s1.fr (S' := Non) ((Fr.refl _ _).alloc (.cells #[] 2)) (fun e => e) (fun _ e => e.elim)
  have hBB : w.heap.size + 1 ≤ ((w.alloc (.cells #[.slice A b.length c, .bool false] 88)).alloc (.cells #[] 2)).heap.size := by simp
  clear s1 hg1
  generalize hgg : w.heap.size = g at *
  have HW := Lib.hid hgg
  clear hgg
  go_loopw [7, 8] (fun x d wr => ∃ (r : List UInt8) (o : List Int) (a : Int), Ow iv 2 wr (g + 1) x o ∧ d = .int .i64 a ∧ ((o.length : Int) ≤ n ∨ o.length = 0) ∧ r.length ≤ b.length ∧ SAt wr g (GeD g) r false ∧ Hid (ToD (gdz n 0 b) false (n - o.length) a r o) ∧ g + 1 ≤ wr.heap.size ∧ Fr Non w wr) (fun x _ _ => 401 - slLen x)
  case atStart => exact ⟨b, [], 0, hown1, rfl, .inr rfl, Nat.le_refl _, s2, Lib.hid (by have := toD_start n b; simpa using this), hBB, f1⟩
  case round =>
    obtain ⟨r, o, a, hown, rfl, hom, hrb, hs, HI, hBr, hfr⟩ := hrel
    have HO := Lib.hid hown
    have HF := Lib.hid hfr
    obtain ⟨A1, c1, rfl⟩ := hown.shape
    clear hown hfr hown1 s2 f1 hBB
    generalize hol : o.length = ol at *
    have HL := Lib.hid hol
    clear hol
    have ho4 : ol ≤ 400 := by omega
    obtain ⟨Ar, cr, cc0, cc1, ff0, _⟩ := hs.cells
    cases r with
    | nil =>
      simp only [List.length_nil] at cc0
      by_cases hz : n - ol = 0
      · have hT := HI.out
        rw [hz] at hT
        have HR := Lib.hid (toD_end hT)
        have hb : ((ol : Int) != n) = false := by rw [bne_eq_false_iff_eq]; omega
        have HZ := Lib.hid hz
        clear hT hz
        go_wp2
        go_ret2
        exact ⟨gtn_yes HR.out (HO.out.mono (by have := HW.out; omega)), HF.out⟩
      · have HR : Hid (gdz n 0 b = none) := Lib.hid (by have hT := HI.out; unfold ToD at hT; rw [gdz_nilne hz] at hT; simpa using hT)
        have hb : ((ol : Int) != n) = true := by rw [bne_iff_ne]; omega
        go_wp2
        go_ret2
        exact ⟨gtn_no HR.out, HF.out⟩
    | cons r0 r1 =>
      have hrl : (0 : Int) < ((r0 :: r1).length : Int) := by simp
      have hne : r0 :: r1 ≠ [] := by simp
      generalize r0 :: r1 = r at *
      have hrl9 : r.length < 1000000000 := by omega
      have hi := rsint_any g (GeD g) _ _ wr hs hrl9
      have hw1 := HW.out
      cases hx : rd 0 0 r with
      | none =>
        have HR : Hid (gdz n 0 b = none) := Lib.hid (by have hT := HI.out; unfold ToD at hT; rw [gdz_bad hne hx] at hT; simpa using hT)
        rw [(rest_none hx).2.1] at hi
        generalize unzig (fstN r) = mz at *
        clear hx hne
        go_wp2_with fail
        refine hi.mono ?_
        rintro e w4 ⟨rfl, s4, f4⟩
        clear cc0 cc1 ff0
        obtain ⟨Ar, cr, cc0, cc1, ff0, _⟩ := s4.cells
        have hf4 := (HF.out.fresh f4 (fun k e => by have : k = g := e; omega))
        clear f4
        go_wp2
        go_ret2
        exact ⟨gtn_no HR.out, hf4⟩
      | some y =>
        obtain ⟨z, q⟩ := y
        have hql := rd_len (by omega) hx
        have HST : Hid (0 < n - (ol : Int) → ToD (gdz n 0 b) false (n - ol - 1) (w6 (a + unzig z)) q (o ++ [w6 (a + unzig z)])) := Lib.hid (fun hp => by
          have := toD_step HI.out (by simp) hp
          rwa [(rest_some hx).1, (rest_some hx).2.1, (rest_some hx).2.2.1] at this)
        have HNE : Hid (n - (ol : Int) ≤ 0 → gdz n 0 b = none) := Lib.hid (fun hp => by have hT := HI.out; unfold ToD at hT; rw [gdz_end hp hne] at hT; simpa using hT)
        rw [(rest_some hx).2.1, (rest_some hx).1, (rest_some hx).2.2.1] at hi
        clear hx hne
        have hw6 := w6_wrap64 (a + unzig z)
        generalize unzig z = uz at *
        have HU := Lib.hid hw6
        clear hw6
        by_cases hbig : n ≤ (ol : Int)
        · have hd : decide (n ≤ (ol : Int)) = true := by simpa using hbig
          go_wp2_with fail
          refine hi.mono ?_
          rintro e w4 ⟨rfl, s4, f4⟩
          clear cc0 cc1 ff0
          obtain ⟨Ar, cr, cc0, cc1, ff0, _⟩ := s4.cells
          have hf4 := (HF.out.fresh f4 (fun k e => by have : k = g := e; omega))
          clear f4
          go_wp2
          go_ret2
          exact ⟨gtn_no (HNE.out (by omega)), hf4⟩
        · have hd : decide (n ≤ (ol : Int)) = false := by simpa using hbig
          go_wp2_with fail
          refine hi.mono ?_
          rintro e w4 ⟨rfl, s4, f4⟩
          clear cc0 cc1 ff0
          obtain ⟨Ar, cr, cc0, cc1, ff0, _⟩ := s4.cells
          have hf4 := (HF.out.fresh f4 (fun k e => by have : k = g := e; omega))
          have hown4 := HO.out.fr f4 (fun k hk e => by have h1 := (HO.out.lt k hk).1; have : k = g := e; omega)
          have hB4 := Nat.le_trans hBr f4.size
          clear f4
          go_wp2_with (at_builtin; refine wpList_pushG el_i64 iv_oneC rfl (.tmp 33) (.tmp 35) rfl (g + 1) _ o rfl hown4 _ (w6 (a + uz)) (by rw [← HU.out]; rfl) rfl (by rw [HL.out]; omega) hB4 ?_; intro v5 w5 hown5 hf5)
          have hf5n := hf4.fresh hf5 (fun q hq => by have := (hown4.lt q hq).1; have := HW.out; omega)
          go_roundw
          case rel => exact ⟨q, o ++ [w6 (a + uz)], w6 (a + uz), hown5, by rw [← HU.out], .inl (by rw [List.length_append, HL.out]; simp; omega), by omega, s4.fr hf5 (fun e => by have := (hown4.lt _ e).1; omega) (fun q hq => by have := (hown4.lt _ hq).1; unfold GeD; omega), Lib.hid (by have := HST.out (by omega); rw [List.length_append, HL.out]; rwa [show n - (ol : Int) - 1 = n - ((ol + [w6 (a + uz)].length : Nat) : Int) by simp; omega] at this), Nat.le_trans hB4 hf5.size, hf5n⟩
          case measure => rw [slLen_vs hown5.vs, List.length_append, HL.out]; simp [slLen]; omega
end Go.Proofs.YtheefloegbkflaaGreatDoor


namespace Go.Proofs.YtheefloegbkflaaGreatDoor
set_option linter.unusedVariables false
set_option linter.unusedSimpArgs false
set_option maxRecDepth 100000
open Go.RowKit

set_option maxHeartbeats 2000000 in
theorem each_any (v : Value) (l : List Int) (w : World) (hv : Vs iv w v l) (hl : l.length ≤ 1000000) (hx : ∀ x ∈ l, I64 x) :
    Calls Tryz.prog 97 #[v] w fun e w' => ∃ u, e = .returned u ∧ Own w' w.heap.size u (onesN l) ∧ Fr Non w w' := by
  obtain ⟨A, c, rfl, hlc, hn, hcell⟩ := hv
  have HC := Lib.hid hcell
  have HN := Lib.hid hn
  have HX := Lib.hid hx
  clear hcell hn hx
  go_enter Tryz.func97, Tryz.ntmps97
  go_wp2
  go_loopw [3, 8] (fun b i wr => ∃ (k : Nat), k ≤ l.length ∧ i = .int .i64 k ∧ Own wr w.heap.size b (onesN (l.take k)) ∧ Fr Non w wr) (fun _ i _ => l.length - (intOf i).toNat)
  case atStart => exact ⟨0, Nat.zero_le _, rfl, own_nil _ _, Fr.refl _ _⟩
  case round =>
    obtain ⟨k, hk, rfl, hown, hfr⟩ := hrel
    by_cases hlt : k < l.length
    · cases A with
      | none => have := HN.out rfl; omega
      | some a =>
        have hc0 := (hfr.cell (World.block_lt_of_cell? w _ (HC.out a rfl k hlt)) (fun e => e)).trans (HC.out a rfl k hlt)
        unfold iv at hc0
        have HT := Lib.hid (onesN_take l k hlt)
        have hpl := onesN_len (l.take k) fun x hx => HX.out x (List.mem_of_mem_take hx)
        have hlk : (l.take k).length = k := by rw [List.length_take]; omega
        have hx64 := HX.out l[k] (List.getElem_mem hlt)
        rw [hlk] at hpl
        clear hlk
        generalize l[k] = x at *
        generalize onesN (l.take k) = bs at *
        have HO := Lib.hid hown
        clear hown
        have H64 := Lib.hid hx64
        clear hx64
        go_wp2_with fail
        refine (vint_any x wr H64.out.1 H64.out.2).mono ?_
        rintro e w5 ⟨v5, rfl, hown5, hf5⟩
        have hz10 := uvarint_zig10 H64.out
        have hfr5 := hfr.trans hf5
        have hB5 := hfr5.size
        have hown5' := HO.out.non hf5
        generalize Lib.uvarint (zig x) = y at *
        go_wp2_with (at_builtin; refine wpList_app rfl (.tmp 12) (.tmp 14) rfl w.heap.size u3 v5 bs y rfl hown5' rfl hown5.bs (by omega) hB5 ?_; intro v6 w6_ hown6 hf6)
        have hfr6 := hfr5.fresh hf6 (fun k hk => (hown5'.lt k hk).1)
        go_roundw
        case rel => exact ⟨k + 1, by omega, by go_num, by rw [HT.out]; exact hown6, hfr6⟩
        case measure => simp [intOf]; omega
    · obtain rfl : k = l.length := by omega
      rw [List.take_length] at hown
      go_wp2
      go_ret
      exact ⟨_, rfl, hown, hfr⟩

theorem i64_ne_src : 2 ≠ 120 := by decide
set_option maxHeartbeats 4000000 in
theorem geach_any (v : Value) (b : List UInt8) (n : Nat) (w : World) (hv : Bs w v b) (hn : n ≤ 1000000) :
    Calls Tryz.prog 98 #[v, .int .i64 n] w fun e w' => Gtn w' w.heap.size (gOnes n b) e ∧ Fr Non w w' := by
  have HV := Lib.hid hv
  clear hv
  go_enter Tryz.func98, Tryz.ntmps98
  go_wp2_with fail
  refine (from_any v b w HV.out).mono ?_
  rintro e w1 ⟨rfl, hs1, hf1⟩
  have hlt1 : w.heap.size < w1.heap.size := hs1.1.lt
  generalize hg : w.heap.size = g at *
  have hgl := Nat.le_of_eq hg
  clear hg
  go_wp2_with (at_make; refine wpList_mkfullG el_i64 (f := iv) (0 : Int) rfl rfl _ _ rfl _ _ _ _ n rfl rfl rfl rfl (by omega) ?_; intro w2 hown2 hf2)
  have hs2 := hs1.fr hf2 (fun e => e)
  have hfr2 := hf1.trans hf2
  have HS1 := Lib.hid hgl
  have hg2 := hf1.size
  generalize hgr : w1.heap.size = r at *
  have hrl := Nat.le_of_eq hgr
  clear hgr
  go_loopw [15] (fun i wr => ∃ (k : Nat) (L : List Int) (q : List UInt8) (bad : Bool), k ≤ n ∧ i = .int .i64 k ∧ ToO n b k L q bad ∧ Src wr g q bad ∧ Ow iv 2 wr r (.slice (some ⟨r, 0, none⟩) n n) (L ++ List.replicate (n - k) 0) ∧ Fr Non w wr) (fun i _ => n - (intOf i).toNat)
  case atStart => exact ⟨0, [], b, false, Nat.zero_le _, rfl, toO_zero n b, hs2, hown2, hfr2⟩
  case round =>
    clear hs2 hown2 hfr2 hf2 hs1 hf1
    obtain ⟨k, L, q, bad, hk, rfl, hT, hs, hown, hfr⟩ := hrel
    have HT := Lib.hid hT
    have HO := Lib.hid hown
    clear hT hown
    by_cases hlt : k < n
    · have hL := HT.out.1
      have HL := Lib.hid (show n = (L ++ List.replicate (n - k) (0 : Int)).length by simp; omega)
      go_wp2_with fail
      refine (sint_any g q bad wr hs).mono ?_
      rintro e w4 ⟨rfl, hs4, hf4⟩
      have hown4 := HO.out.fr hf4 (fun p hp e => by have h1 : p = g := e; exact ow_other HO.out hs.1 i64_ne_src p hp h1)
      have hfr4 := hfr.fresh hf4 (fun p e => by have h1 : p = g := e; have := HS1.out; omega)
      have hat := rep_at L (n - k) (0 : Int) (by omega)
      have hset := rep_set L (n - k) (0 : Int) (unzig (fstN q)) (by omega)
      rw [hL] at hat hset
      have hc4 := hown4.cell HL.out k _ hat
      have hf4' := hown4.frozen HL.out k
      have HT2 := Lib.hid (toO_step HT.out hs.2 hlt)
      have hown5 := hown4.store HL.out k (unzig (fstN q))
      rw [hset, show n - k - 1 = n - (k + 1) by omega] at hown5
      have HO5 := Lib.hid hown5
      have HS4 := Lib.hid hs4
      have hrg : r ≠ g := fun e => ow_other HO.out hs.1 i64_ne_src r rfl e
      have hr4 : r < w4.heap.size := (hown4.lt r rfl).2
      have HO4 := Lib.hid hown4
      clear hown5 hown4 hat hset hs4 hL
      unfold iv at hc4
      generalize unzig (fstN q) = z at *
      go_wp2_with fail
      have hs6 := HS4.out.fr ((Fr.refl (One r) w4).set1 k (.int .i64 z)) (fun e => hrg e.symm)
      have hfr6 := hfr4.fresh ((Fr.refl (One r) w4).set1 k (.int .i64 z)) (fun p e => by have h1 : p = r := e; have := HS1.out; omega)
      go_roundw
      case rel => exact ⟨k + 1, _, _, _, by omega, by go_num, HT2.out, hs6, HO5.out, hfr6⟩
      case measure => simp [intOf]; omega
    · obtain rfl : k = n := by omega
      have HE := Lib.hid (toO_end HT.out)
      have hO := HO.out
      rw [Nat.sub_self, List.replicate_zero, List.append_nil] at hO
      have HO2 := Lib.hid hO
      clear hO HT HO
      cases hb : (!bad && q.isEmpty) with
      | true =>
        have hE := HE.out
        rw [hb, if_pos rfl] at hE
        have HE2 := Lib.hid hE
        clear hE HE
        have h0 := end_any g q bad wr hs
        rw [hb] at h0
        clear hb
        go_wp2_with fail
        refine h0.mono ?_
        rintro e w5 ⟨rfl, rfl⟩
        go_wp2
        go_ret2
        exact ⟨gtn_yes HE2.out (HO2.out.mono (by have := HS1.out; omega)), hfr⟩
      | false =>
        have hE := HE.out
        rw [hb, if_neg (by simp)] at hE
        have HE2 := Lib.hid hE
        clear hE HE
        have h0 := end_any g q bad wr hs
        rw [hb] at h0
        clear hb
        go_wp2_with fail
        refine h0.mono ?_
        rintro e w5 ⟨rfl, rfl⟩
        go_wp2
        go_ret2
        exact ⟨gtn_no HE2.out, hfr⟩
end Go.Proofs.YtheefloegbkflaaGreatDoor


namespace Go.Proofs.YtheefloegbkflaaGreatDoor
set_option linter.unusedVariables false
set_option linter.unusedSimpArgs false
set_option maxRecDepth 100000
open Go.ChangeShapes Go.WideShapes Go.ChangeAt Go.RowKit

theorem frame_own : ownKnob Tryz.prog.godebug = none := by kernel_rfl
theorem frame_laidOut : laidOutB Tryz.prog = true := by kernel_rfl

/-- every argument reads as it did -/
theorem trodAll_below {H : Type} {enc : TypeId × Value → H} {W W' : World} (hb : Below W.heap.size W W') :
    ∀ (ts : List TypeId) (vs : List Value) (ds : List (DataW H)) (ps : List MemPlace), (∀ t ∈ ts, Tryz.prog.readableRec t = true ∧ t < Tryz.prog.types.size) →
      DataW.TrodAll enc Tryz.prog W 0 (fun _ => true) true ts vs ds ps → DataW.TrodAll enc Tryz.prog W' 0 (fun b => decide (b < W.heap.size)) true ts vs ds ps := by
  intro ts
  induction ts with
  | nil => intro vs ds ps _ h; cases vs <;> cases ds <;> simp_all [DataW.TrodAll]
  | cons t ts ih =>
    intro vs ds ps hr h
    cases vs with
    | nil => cases ds <;> simp_all [DataW.TrodAll]
    | cons v vs =>
      cases ds with
      | nil => simp_all [DataW.TrodAll]
      | cons d ds =>
        obtain ⟨p, q, h1, h2, rfl⟩ := h
        have hlt : ∀ x ∈ p, x.block < W.heap.size := by obtain ⟨m, hm⟩ := h1; exact DataW.trod_lt m _ _ _ hm
        have ht := hr t (List.mem_cons_self ..)
        exact ⟨p, q, Below.trod frame_laidOut ht.1 ht.2 h1 hb hlt, ih vs ds q (fun u hu => hr u (List.mem_cons_of_mem _ hu)) h2, rfl⟩

noncomputable def typesOk (ts : List TypeId) : Bool := ts.all fun t => Tryz.prog.readableRec t && decide (t < Tryz.prog.types.size)
theorem types_ok (ts : List TypeId) (h : typesOk ts = true) : ∀ t ∈ ts, Tryz.prog.readableRec t = true ∧ t < Tryz.prog.types.size := by
  intro t ht
  have := List.all_eq_true.1 h t ht
  simpa using this

/-- a slice that came in: nil, or it leads into a block that is there -/
theorem slice_in {W : World} {base : Nat} {t e : TypeId} {v : Value} (ht : Tryz.prog.underlying t = some (.slice e)) (hv : Value.okWide Tryz.prog W .any base t v) :
    v = .slice none 0 0 ∨ ∃ b o n c, v = .slice (some ⟨b, o, none⟩) n c ∧ n ≤ c ∧ b < W.heap.size := by
  obtain ⟨a, n, c, rfl⟩ := okWide_slice ht hv
  simp only [Value.okWide, ht, Cell.okWide] at hv
  cases a with
  | none =>
    left
    simp only [Cell.ok, ht] at hv
    cases n <;> cases c <;> simp_all
  | some a =>
    right
    simp only [Cell.ok, ht] at hv
    obtain ⟨h1, _, _, h2, row, cells, h3, _⟩ := hv
    obtain ⟨b, o, sp⟩ := a
    simp only at h2 h3
    subst h2
    refine ⟨b, o, n, c, rfl, h1, ?_⟩
    rcases Nat.lt_or_ge b W.heap.size with h | h
    · exact h
    · unfold World.shape? at h3
      rw [Array.getElem?_eq_none h] at h3
      cases h3

/-- bytes that came in -/
theorem bs_in {H : Type} {enc : TypeId × Value → H} {W : World} {base : Nat} {v : Value} {d : DataW H} {p : List MemPlace} (hv : Value.okWide Tryz.prog W .any base 26 v)
    (h : DataW.Trod enc Tryz.prog W 0 (fun _ => true) true 26 v d p) : ∃ l, Bs W v l ∧ l.length ≤ maxLen ∧ ∀ k, v.ownBlock = some k → k < W.heap.size := by
  rcases slice_in Tryz.underlying26 hv with rfl | ⟨b, o, len0, cap0, rfl, _, hblt⟩
  · exact ⟨[], Bs.nil_ W, Nat.zero_le _, fun _ h => by cases h⟩
  obtain ⟨fuel, hf⟩ := h
  rcases open_ints Tryz.underlying26 Tryz.underlying5 (by kernel_rfl) hf with ⟨hcs, _⟩ | ⟨x, l, c, zs, hcs, _, hl, hm, hz, _, hcell, hwz⟩
  · simp [Value.cells] at hcs
  · simp [Value.cells] at hcs
    obtain ⟨rfl, rfl, rfl⟩ := hcs
    have hzl : zs.length = cap0 := by simpa using hz
    have hlen : ((zs.take len0).map fun n => UInt8.ofNat n.toNat).length = len0 := by simp; omega
    refine ⟨(zs.take len0).map fun n => UInt8.ofNat n.toNat, ⟨_, cap0, by rw [hlen], by rw [hlen]; exact hl, (fun h => by cases h), fun a ha j hj => ?_⟩, by rw [hlen]; omega, fun k hk => ?_⟩
    · cases ha
      rw [hlen] at hj
      rw [hcell j (by omega)]
      have hw := hwz (zs.getD j 0) (by rw [← List.getElem_eq_getD (h := by omega) 0]; exact List.getElem_mem _)
      have hb : 0 ≤ zs.getD j 0 ∧ zs.getD j 0 ≤ 255 := by simpa [Lit.wf, IntKind.min, IntKind.max, IntKind.signed, IntKind.bits] using hw
      have he : ((zs.take len0).map fun n => UInt8.ofNat n.toNat)[j]'(by rw [hlen]; exact hj) = UInt8.ofNat (zs.getD j 0).toNat := by
        rw [List.getElem_map, List.getElem_take, ← List.getElem_eq_getD (h := by omega) 0]
      rw [he]
      unfold bv
      rw [show ((UInt8.ofNat (zs.getD j 0).toNat).toNat : Int) = zs.getD j 0 by rw [UInt8.toNat_ofNat']; omega]
    · simp [Value.ownBlock] at hk
      omega

theorem wf_i64_bd {n : Int} (h : (Lit.int .i64 n).wf = true) : -9223372036854775808 ≤ n ∧ n ≤ 9223372036854775807 := by
  simpa [Lit.wf, IntKind.min, IntKind.max, IntKind.signed, IntKind.bits] using h
end Go.Proofs.YtheefloegbkflaaGreatDoor


namespace Go.Proofs.YtheefloegbkflaaGreatDoor
set_option linter.unusedVariables false
set_option linter.unusedSimpArgs false
set_option maxRecDepth 100000
open Go.ChangeShapes Go.WideShapes Go.ChangeAt Go.RowKit

theorem choose_listG {α : Type} (P : Nat → α → Prop) : ∀ (n : Nat), (∀ i, i < n → ∃ x, P i x) → ∃ l : List α, l.length = n ∧ ∀ i (h : i < l.length), P i l[i]
  | 0, _ => ⟨[], rfl, fun i h => by simp at h⟩
  | n + 1, h => by
    obtain ⟨l, hl, hp⟩ := choose_listG P n fun i hi => h i (by omega)
    obtain ⟨x, hx⟩ := h n (by omega)
    refine ⟨l ++ [x], by simp [hl], fun i hi => ?_⟩
    by_cases hin : i < l.length
    · rw [List.getElem_append_left hin]; exact hp i hin
    · have : i = n := by simp at hi; omega
      subst this
      rw [List.getElem_append_right (by omega)]
      simpa using hx

end Go.Proofs.YtheefloegbkflaaGreatDoor


namespace Go.Proofs.YtheefloegbkflaaGreatDoor
set_option linter.unusedVariables false
set_option linter.unusedSimpArgs false
set_option maxRecDepth 100000
open Go.RowKit

/-- a text's cell -/
def sv (l : List UInt8) : Value := .string ⟨l.toArray⟩
theorem sv_one (l : List UInt8) : (sv l).oneCell' = true := rfl
theorem el_str : El 153 9 (.string ⟨#[]⟩) 16 := ⟨Tryz.underlying153, by kernel_rfl, rfl, by decide, by kernel_rfl, fun _ => by kernel_rfl⟩
end Go.Proofs.YtheefloegbkflaaGreatDoor


namespace Go.Proofs.YtheefloegbkflaaGreatDoor
set_option linter.unusedVariables false
set_option linter.unusedSimpArgs false
set_option maxRecDepth 100000
open Go.ChangeShapes Go.WideShapes Go.ChangeAt Go.RowKit

/-- append of a slice's elements onto a row of the call's own: the operation alone -/
theorem wp_appG {α : Type} {f : α → Value} {E T : TypeId} {z : Value} {by_ : Nat} (hE : El T E z by_) (hf1 : ∀ x, (f x).oneCell' = true) {w : World} {o : Oper} {a : Act} {K : Act → World → Prop} {Q : Exit → Act → World → Prop} (s x : Operand)
    (ho : o.op = .call { callee := .builtin .append, args := #[s, x], argTypes := #[T, T] })
    (B : Nat) (v y : Value) (l m : List α) (hs : a.eval s = v) (hown : Ow f E w B v l) (hx : a.eval x = y) (hy : Vs f w y m)
    (hl : l.length + m.length < 1099511627776) (hB : B ≤ w.heap.size)
    (h : ∀ v' w', Ow f E w' B v' (l ++ m) → Fr (fun k => v.ownBlock = some k) w w' → K (a.put o.dst v') w') : o.wp Tryz.prog a w K Q := by
  obtain ⟨i, hi, hz0, hz1, hz2⟩ := info_parts hE.info
  have hs' := hE.small
  have hzc : z.cells.size = 1 := by rw [hE.cells]; rfl
  have hbl : (l.length + m.length) * by_ ≤ 140737488355328 := by
    have := Nat.mul_le_mul (show l.length + m.length ≤ 1099511627776 by omega) hs'
    omega
  obtain ⟨A, c, rfl, hmc, hn, hcells⟩ := hy
  cases A with
  | some ad =>
    refine wp_append_own w s x T ho B E i z 1 by_ hE.under hi hz0 hz1 hz2 hzc (by omega) v l.length (l.map f) hs hown ad m.length c (m.map f) hx (by simp) ?_ (by intro u hu; obtain ⟨b, _, rfl⟩ := List.mem_map.1 hu; exact hf1 b) (by unfold maxLen; omega) (by omega) hB ?_
    · intro j u hu
      have hj : j < m.length := by simpa using (List.getElem?_eq_some_iff.1 hu).1
      rw [hcells ad rfl j hj]
      simpa [hj] using hu
    · intro v' w' h1 h2 _
      refine h v' w' ?_ (Fr.of_grown h2)
      unfold Ow; simpa using h1
  | none =>
    have hm : m = [] := List.eq_nil_of_length_eq_zero (by have := hn rfl; omega)
    subst hm
    have hc : c = 0 := hn rfl
    subst hc
    have hrun := run_append_owned_none (P := Tryz.prog) (w := w) B T o.type E i 1 hE.under hi v l.length (l.map f) hown
    unfold Oper.wp
    have hx' : a.eval x = .slice none 0 0 := hx
    simp [execOp, ho, resolve, invoke, builtin, hs, hx', hrun, Result.andThen]
    exact h v w (by simpa using hown) (Fr.refl _ _)
/-- .. as one step of a region that draws -/
theorem step_appG {α : Type} {f : α → Value} {E T : TypeId} {z : Value} {by_ : Nat} (hE : El T E z by_) (hf1 : ∀ x, (f x).oneCell' = true) {w : World} {ops : Array Oper} {o : Oper} {a : Act} {K : Act → World → Prop} {Q : Exit → Act → World → Prop} {Els : Prop} (hgd : o.guard = none) (s x : Operand)
    (ho : o.op = .call { callee := .builtin .append, args := #[s, x], argTypes := #[T, T] })
    (B : Nat) (v y : Value) (l m : List α) (hs : a.eval s = v) (hown : Ow f E w B v l) (hx : a.eval x = y) (hy : Vs f w y m)
    (hl : l.length + m.length < 1099511627776) (hB : B ≤ w.heap.size)
    (h : ∀ v' w', Ow f E w' B v' (l ++ m) → Fr (fun k => v.ownBlock = some k) w w' → K (a.put o.dst v') w') : if Region.wanted o (yielded ops a.tmps) = true then Oper.wp Tryz.prog o a w K Q else Els := by
  have hw : Region.wanted o (yielded ops a.tmps) = true := by simp [Region.wanted, hgd]
  rw [if_pos hw]
  exact wp_appG hE hf1 s x ho B v y l m hs hown hx hy hl hB h

end Go.Proofs.YtheefloegbkflaaGreatDoor


namespace Go.Proofs.YtheefloegbkflaaGreatDoor
set_option linter.unusedVariables false
set_option linter.unusedSimpArgs false
set_option maxRecDepth 100000
open Go.RowKit Go.Maps Go.Sort

/-- block b is a map of at most n texts: those of ks; of each it says g -/
def MapW (w : World) (b n : Nat) (ks : List (List UInt8)) (g : List UInt8 → Int) : Prop :=
  ∃ D : DataW Unit, w.ownsMap Tryz.prog 9 (plainElem Tryz.prog 2) b n D ∧ (∀ x, has D (.string x) = decide (x ∈ ks)) ∧ ∀ x, x ∈ ks → D.atKey (.string x) (.lit (.int .i64 0)) = .lit (.int .i64 (g x))
theorem MapW.lt {w : World} {b n : Nat} {ks : List (List UInt8)} {g : List UInt8 → Int} (h : MapW w b n ks g) : b < w.heap.size := by
  obtain ⟨D, h1, _⟩ := h; exact h1.lt
theorem MapW.fr {S : Nat → Prop} {w w' : World} {b n : Nat} {ks : List (List UInt8)} {g : List UInt8 → Int} (h : MapW w b n ks g) (hf : Fr S w w') (hn : ¬ S b) : MapW w' b n ks g := by
  obtain ⟨D, h1, h2, h3⟩ := h
  have hlt := h1.lt
  obtain ⟨es, clock, hb, F, hs, hD⟩ := h1
  exact ⟨D, ⟨es, clock, (hf.block b hlt hn).trans hb, F, hs, hD⟩, h2, h3⟩
theorem MapW.non {w w' : World} {b n : Nat} {ks : List (List UInt8)} {g : List UInt8 → Int} (h : MapW w b n ks g) (hf : Fr Non w w') : MapW w' b n ks g := h.fr hf fun e => e
theorem MapW.congr {w : World} {b n : Nat} {ks ks' : List (List UInt8)} {g g' : List UInt8 → Int} (h : MapW w b n ks g) (hk : ∀ x, x ∈ ks' ↔ x ∈ ks) (hg : ∀ x, x ∈ ks → g' x = g x) : MapW w b n ks' g' := by
  obtain ⟨D, h1, h2, h3⟩ := h
  refine ⟨D, h1, fun x => by rw [h2]; simp only [hk], fun x hx => ?_⟩
  have hx' := (hk x).1 hx
  rw [hg x hx']; exact h3 x hx'
theorem MapW.made (w : World) (g : List UInt8 → Int) : MapW (w.alloc (.map #[] 0)) w.heap.size 0 [] g :=
  ⟨.map [], World.ownsMap_made w _ _ _, fun x => by simp [has], fun x hx => by simp at hx⟩

theorem keyLit (x : List UInt8) : WideAt.IsKeyLit (.string x) := trivial
theorem keyStr {x : List UInt8} (hx : x.length ≤ maxLen) : keyOf Tryz.prog 9 (.string ⟨x.toArray⟩) = some (.string x) := by
  have := Go.WideMaps.keyOf_string_mk (P := Tryz.prog) Tryz.underlying9 (s := ⟨x.toArray⟩) (by simpa [ByteArray.size] using hx)
  simpa using this

theorem MapW.put {w w' : World} {b n : Nat} {ks : List (List UInt8)} {g : List UInt8 → Int} {D : DataW Unit} (h1 : w.ownsMap Tryz.prog 9 (plainElem Tryz.prog 2) b n D) (h2 : ∀ x, has D (.string x) = decide (x ∈ ks)) (h3 : ∀ x, x ∈ ks → D.atKey (.string x) (.lit (.int .i64 0)) = .lit (.int .i64 (g x)))
    (y : List UInt8) (v : Int) (h : w'.ownsMap Tryz.prog 9 (plainElem Tryz.prog 2) b (n + 1) (D.put (.string y) (.lit (.int .i64 v)))) : MapW w' b (n + 1) (y :: ks) (fun x => if x = y then v else g x) := by
  have hm := h1.isMap
  refine ⟨_, h, fun x => ?_, fun x hx => ?_⟩
  · by_cases he : x = y
    · subst he; rw [has_put_same hm (keyLit x)]; simp
    · rw [has_put_other (by simpa using he), h2]; simp [he]
  · by_cases he : x = y
    · subst he; rw [atKey_put_same hm (keyLit x)]; simp
    · rw [atKey_put_other (by simpa using he)]
      simp only [if_neg he]
      exact h3 x (by simpa [he] using hx)

/-- 'm[y] = v' -/
theorem wpList_putM (w : World) {ops : Array Oper} {rest : List Oper} {o : Oper} {a : Act} {Q : Exit → Act → World → Prop} (hg : o.guard = none) (m x v : Operand) (hop : o.op = Op.mapUpdate 179 m x v)
    (b n : Nat) (ks : List (List UInt8)) (g : List UInt8 → Int) (hm : a.eval m = .map (some b)) (hown : MapW w b n ks g) (hn : n < 1000000000) (y : List UInt8) (z : Int) (hx : a.eval x = .string ⟨y.toArray⟩) (hv : a.eval v = .int .i64 z)
    (hy : y.length ≤ 9223372036854775807) (hz1 : -9223372036854775808 ≤ z) (hz2 : z ≤ 9223372036854775807)
    (hK : ∀ w', MapW w' b (n + 1) (y :: ks) (fun u => if u = y then z else g u) → Fr (One b) w w' → wpList Tryz.prog ops Q rest (a.put o.dst undef) w') : wpList Tryz.prog ops Q (o :: rest) a w := by
  obtain ⟨D, h1, h2, h3⟩ := hown
  refine wpList_mapUpdate_own w hg m x v 179 hop 9 2 (string_keyed Tryz.underlying9) Tryz.underlying179 _ b n D hm h1 (by unfold maxLen; omega) _ _ (.string y) hx hv (keyStr (by simpa [maxLen] using hy)) (.lit (.int .i64 z)) [] (plainElem_int Tryz.underlying2 (WalkArith.wf_i64 ⟨hz1, hz2⟩)) ?_
  intro w' hw' hg'
  exact hK w' (MapW.put h1 h2 h3 y z hw') ((Fr.of_grown hg').mono fun k _ e => by simpa [One, eq_comm] using e)

/-- 'm[y]', y being among them -/
theorem MapW.look {w : World} {b n : Nat} {ks : List (List UInt8)} {g : List UInt8 → Int} (h : MapW w b n ks g) {y : List UInt8} (hy : y ∈ ks) (hl : y.length ≤ 9223372036854775807) : (Instr.lookup 179 (.map (some b)) (.string ⟨y.toArray⟩) false).run Tryz.prog w = .ok (.int .i64 (g y)) w := by
  obtain ⟨D, h1, h2, h3⟩ := h
  obtain ⟨c, hr, hc, _⟩ := h1.lookup_int (string_keyed Tryz.underlying9) Tryz.underlying179 Tryz.underlying2 (Tryz.zeroValue2 w) (keyStr (by simpa [maxLen] using hl))
  rw [h3 y hy] at hc
  obtain rfl : g y = c := by simpa using hc
  exact hr

theorem MapW.keys {w : World} {b n : Nat} {ks : List (List UInt8)} {g : List UInt8 → Int} {D : DataW Unit} (h1 : w.ownsMap Tryz.prog 9 (plainElem Tryz.prog 2) b n D) (h2 : ∀ x, has D (.string x) = decide (x ∈ ks)) {ss : List (List UInt8)} (hp : ss.Perm (strKeys D)) : ss.Nodup ∧ ∀ x, x ∈ ss ↔ x ∈ ks := by
  have ht := h1.tidy (string_keyed Tryz.underlying9)
  obtain ⟨es, rfl, hpw⟩ := ht
  obtain ⟨es', he, hk⟩ := h1.keysOf
  obtain rfl : es = es' := by simpa using he
  have hks : ∀ p ∈ es, ∃ x, p.1 = .string x := by
    intro p hp'
    obtain ⟨key, hkey⟩ := hk p hp'
    obtain ⟨x, _, hx, _⟩ := Maps.keyOf_str Tryz.underlying9 hkey
    exact ⟨x, hx⟩
  have hnd : (strKeys (.map es : DataW Unit)).Nodup := by
    show (es.map fun p => strOf p.1).Nodup
    refine List.pairwise_map.2 (hpw.imp_of_mem fun {p q} hp' hq' hne e => hne ?_)
    obtain ⟨a, ha⟩ := hks p hp'
    obtain ⟨b, hb⟩ := hks q hq'
    rw [ha, hb] at e ⊢
    exact congrArg _ e
  refine ⟨hp.nodup_iff.2 hnd, fun x => ?_⟩
  rw [hp.mem_iff]
  have h3 := h2 x
  rw [has_eq] at h3
  have h4 : es.any (fun p => p.1.sameKey (.string x)) = true ↔ x ∈ ks := by rw [h3]; simp
  rw [← h4, List.any_eq_true]
  show x ∈ es.map (fun p => strOf p.1) ↔ _
  rw [List.mem_map]
  constructor
  · rintro ⟨p, hp', rfl⟩
    obtain ⟨y, hy⟩ := hks p hp'
    exact ⟨p, hp', by rw [hy]; exact WideAt.sameKey_self (keyLit y)⟩
  · rintro ⟨p, hp', h5⟩
    exact ⟨p, hp', by rw [WideAt.sameKey_eq h5]; rfl⟩
end Go.Proofs.YtheefloegbkflaaGreatDoor


namespace Go.Proofs.YtheefloegbkflaaGreatDoor
set_option linter.unusedVariables false
set_option linter.unusedSimpArgs false
set_option maxRecDepth 100000
open Go.RowKit

set_option maxHeartbeats 1000000 in
theorem rstext_any (g : Nat) (S : Nat → Prop) (l : List UInt8) (bad : Bool) (m : Int) (w : World) (h : SAt w g S l bad) (hl : l.length < 1000000000) (hm : m ≤ 9223372036854775807) :
    Calls Tryz.prog 135 #[ptr g, .int .i64 m] w fun e w' => e = .returned (.string ⟨(txtT l m).toArray⟩) ∧ SAt w' g S (txtR l m) (txtB l m) ∧ Fr (One g) w w' := by
  have hfail := rfail_any g S l bad w h
  have h0 := rsnum_any g S l bad w h hl
  have Hl := Lib.hid (fstN_lt l)
  clear h
  by_cases hneg : m < 0
  · have HV : Hid (txtT l m = [] ∧ txtR l m = [] ∧ txtB l m = true) := by
      have hk : mostOk l m = false := decide_eq_false (by omega)
      unfold txtT txtR txtB mostV mostR mostB
      rw [hk]; exact ⟨rfl, rfl, rfl⟩
    clear hm
    go_enter Tryz.func135, Tryz.ntmps135
    go_wp2_with fail
    refine hfail.mono ?_
    rintro e w2 ⟨rfl, hs2, hf2⟩
    go_wp2
    go_ret
    rw [HV.out.1, HV.out.2.1, HV.out.2.2]
    exact ⟨rfl, hs2, hf2⟩
  · have hwr : IntKind.u64.wrap m = m := IntWalk.u64_in _ ⟨by omega, by omega⟩
    cases hf : fell l with
    | true =>
      have HV : Hid (txtT l m = [] ∧ txtR l m = [] ∧ txtB l m = true) := by
        have hz := fell_zero hf
        have hk : mostOk l m = true := decide_eq_true (by rw [hz.1]; omega)
        unfold txtT txtR txtB mostV mostR mostB
        rw [hk]; simp only [if_true, hz.1, hz.2, hf]; exact ⟨rfl, rfl, rfl⟩
      rw [hf] at h0
      clear hm hf
      go_enter Tryz.func135, Tryz.ntmps135
      go_wp2_with fail
      refine h0.mono ?_
      rintro e w1 ⟨rfl, hs1, hf1⟩
      obtain ⟨A, c, c0, c1, f0, _⟩ := hs1.cells
      go_wp2_with fail
      refine (rfail_any g S _ _ _ hs1).mono ?_
      rintro e w2 ⟨rfl, hs2, hf2⟩
      go_wp2
      go_ret
      rw [HV.out.1, HV.out.2.1, HV.out.2.2]
      exact ⟨rfl, hs2, hf1.trans hf2⟩
    | false =>
      rw [hf] at h0
      by_cases hle : (fstN l : Int) ≤ m
      · have hk : mostOk l m = true := decide_eq_true ⟨by omega, hle⟩
        have hw2 : IntKind.u64.wrap ((rest l).length : Int) = (rest l).length := IntWalk.u64_in _ ⟨by omega, by have := rest_le l; omega⟩
        by_cases hfit : fstN l ≤ (rest l).length
        · have hwi : IntKind.i64.wrap (fstN l) = fstN l := IntWalk.i64_in _ ⟨by omega, by omega⟩
          have HV : Hid (txtT l m = cutT (rest l) (fstN l) ∧ txtR l m = cutR (rest l) (fstN l) ∧ txtB l m = cutB (rest l) false (fstN l)) := by
            unfold txtT txtR txtB mostV mostR mostB
            rw [hk]; simp only [if_true, hf]; exact ⟨trivial, trivial, trivial⟩
          have hrl := rest_le l
          clear hm hf hk
          go_enter Tryz.func135, Tryz.ntmps135
          go_wp2_with fail
          refine h0.mono ?_
          rintro e w1 ⟨rfl, hs1, hf1⟩
          obtain ⟨A, c, c0, c1, f0, _⟩ := hs1.cells
          go_wp2_with fail
          refine (rtake_any g S _ _ _ _ hs1 (by omega)).mono ?_
          rintro e w2 ⟨v, rfl, hbs2, hnew2, hs2, hf2⟩
          have cv := run_conv_Bs hbs2 26 9 5 Tryz.underlying26 Tryz.underlying5 Tryz.underlying9
          go_wp2
          go_ret
          rw [HV.out.1, HV.out.2.1, HV.out.2.2]
          exact ⟨rfl, hs2, hf1.trans hf2⟩
        · have HV : Hid (txtT l m = [] ∧ txtR l m = [] ∧ txtB l m = true) := by
            have hc : cutOk (rest l) (fstN l) = false := decide_eq_false (by omega)
            unfold txtT txtR txtB mostV mostR mostB
            rw [hk]; simp only [if_true]
            unfold cutT cutR cutB
            rw [hc]; exact ⟨rfl, rfl, rfl⟩
          clear hm hf hk
          go_enter Tryz.func135, Tryz.ntmps135
          go_wp2_with fail
          refine h0.mono ?_
          rintro e w1 ⟨rfl, hs1, hf1⟩
          obtain ⟨A, c, c0, c1, f0, _⟩ := hs1.cells
          go_wp2_with fail
          refine (rfail_any g S _ _ _ hs1).mono ?_
          rintro e w2 ⟨rfl, hs2, hf2⟩
          go_wp2
          go_ret
          rw [HV.out.1, HV.out.2.1, HV.out.2.2]
          exact ⟨rfl, hs2, hf1.trans hf2⟩
      · have HV : Hid (txtT l m = [] ∧ txtR l m = [] ∧ txtB l m = true) := by
          have hk : mostOk l m = false := decide_eq_false (by omega)
          unfold txtT txtR txtB mostV mostR mostB
          rw [hk]; exact ⟨rfl, rfl, rfl⟩
        clear hm hf
        go_enter Tryz.func135, Tryz.ntmps135
        go_wp2_with fail
        refine h0.mono ?_
        rintro e w1 ⟨rfl, hs1, hf1⟩
        obtain ⟨A, c, c0, c1, f0, _⟩ := hs1.cells
        go_wp2_with fail
        refine (rfail_any g S _ _ _ hs1).mono ?_
        rintro e w2 ⟨rfl, hs2, hf2⟩
        go_wp2
        go_ret
        rw [HV.out.1, HV.out.2.1, HV.out.2.2]
        exact ⟨rfl, hs2, hf1.trans hf2⟩

end Go.Proofs.YtheefloegbkflaaGreatDoor
