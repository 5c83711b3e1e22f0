/-
  Layer 1, what is read: contracts of the document's own source, S.
-/
import Derived.Test.YtkmgplgokhjmjaaVint6
namespace Go.Proofs.Ytkmgplgokhjmjaa
set_option linter.unusedVariables false
set_option linter.unusedSimpArgs false
set_option maxRecDepth 100000
open Go.RowKit

/-- the document's source in block g; its bytes lie outside the blocks of S, g among them -/
def SAt (w : World) (g : Nat) (S : Nat → Prop) (l : List UInt8) (bad : Bool) : Prop :=
  ∃ v, Blk w g 36 #[v, .bool bad] ∧ Bs w v l ∧ (∀ k, v.ownBlock = some k → ¬ S k) ∧ S g ∧ (bad = true → l = [])

theorem SAt.fr {S S' : Nat → Prop} {w w' : World} {g : Nat} {l : List UInt8} {bad : Bool} (h : SAt w g S l bad) (hf : Fr S' w w') (hn : ¬ S' g) (hs : ∀ k, S' k → S k) : SAt w' g S l bad := by
  obtain ⟨v, h1, h2, h3, h4, h5⟩ := h
  exact ⟨v, h1.fr hf hn, h2.fr hf fun k hk e => h3 k hk (hs k e), h3, h4, h5⟩

theorem rfail_any (g : Nat) (S : Nat → Prop) (l : List UInt8) (bad : Bool) (w : World) (h : SAt w g S l bad) :
    Calls Try.prog 39 #[ptr g] w fun e w' => e = .returned (.tuple #[]) ∧ SAt w' g S [] true ∧ Fr (One g) w w' := by
  obtain ⟨v, h1, h2, h3, h4, h5⟩ := h
  have hc0 := h1.cell 0
  have hc1 := h1.cell 1
  have hf0 := h1.frozen 0
  have hf1 := h1.frozen 1
  have HB := Lib.hid h1
  simp at hc0 hc1
  clear h1 h2 h3 h5
  go_enter Try.func39, Try.ntmps39
  go_wp2
  go_end0
  refine ⟨rfl, ⟨.slice none 0 0, ?_, Bs.nil_ _, (fun k hk => by cases hk), h4, fun _ => rfl⟩, ((Fr.refl _ _).set1 _ _).set1 _ _⟩
  exact (HB.out.set 1 _).set 0 _

theorem SAt.step {w : World} {g : Nat} {S : Nat → Prop} {l l' : List UInt8} {bad : Bool} {v v' : Value} (hB : Blk w g 36 #[v, .bool bad]) (h3 : ∀ k, v.ownBlock = some k → ¬ S k) (h4 : S g)
    (h5 : bad = true → l = []) (hne : l ≠ []) (hbs : Bs w v' l') (hown : v'.ownBlock = v.ownBlock) : SAt (w.setCell ⟨g, 0, none⟩ v') g S l' false := by
  obtain rfl : bad = false := by cases bad with | true => exact absurd (h5 rfl) hne | false => rfl
  have hn : ∀ k, v'.ownBlock = some k → ¬ S k := fun k hk => h3 k (by rw [← hown]; exact hk)
  exact ⟨v', hB.set 0 _, hbs.fr ((Fr.refl (One g) w).set1 0 v') (fun k hk e => hn k hk (by rw [show k = g from e]; exact h4)), hn, h4, fun h => by cases h⟩

theorem or_sum {k acc x : Nat} (hk : k ≤ 9) (ha : acc < 128 ^ k) (hx : x < 128) (h9 : k = 9 → x ≤ 1) :
    IntKind.u64.wrap ((acc : Int) + IntKind.u64.wrap ((x : Int) * 2 ^ (7 * k))) = ((acc + x * 128 ^ k : Nat) : Int) := by
  have hle : (128 : Nat) ^ k ≤ 128 ^ 9 := Nat.pow_le_pow_right (by decide) hk
  rw [pow128_9] at hle
  have hlt : acc + x * 128 ^ k < 18446744073709551616 := by
    by_cases h : k = 9
    · subst h
      have := h9 rfl
      rw [pow128_9] at ha ⊢
      clear hle
      omega
    · have hle8 : (128 : Nat) ^ k ≤ 128 ^ 8 := Nat.pow_le_pow_right (by decide) (by omega)
      rw [pow128_8] at hle8
      have := Nat.mul_le_mul (show x ≤ 127 by omega) hle8
      omega
  rw [pow27, show ((x : Int) * ((128 ^ k : Nat) : Int)) = ((x * 128 ^ k : Nat) : Int) by push_cast; rfl, IntWalk.u64_in ((x * 128 ^ k : Nat) : Int) ⟨by omega, by omega⟩, IntWalk.u64_in _ ⟨by omega, by omega⟩]
  omega

set_option maxHeartbeats 1000000 in
set_option maxRecDepth 20000 in
theorem rsnum_any (g : Nat) (S : Nat → Prop) (l : List UInt8) (bad : Bool) (w : World) (h : SAt w g S l bad) (hl : l.length < 1000000000) :
    Calls Try.prog 52 #[ptr g] w fun e w' => e = .returned (.int .u64 (fstN l)) ∧ SAt w' g S (rest l) (fell l) ∧ Fr (One g) w w' := by
  have hfail := rfail_any g S l bad w h
  obtain ⟨v, h1, h2, h3, h4, h5⟩ := h
  have HBs := Lib.hid h2
  have H3 := Lib.hid h3
  obtain ⟨A, cap, rfl, hcap, hA, hcells⟩ := h2
  have hc0 := h1.cell 0
  have hf0 := h1.frozen 0
  have HB := Lib.hid h1
  have H5 := Lib.hid h5
  simp at hc0
  clear h1 h3 h5
  go_enter Try.func52, Try.ntmps52
  go_wp2
  go_loop [3, 4] (fun n i => ∃ k acc : Nat, k ≤ 9 ∧ k ≤ l.length ∧ i = .int .i64 k ∧ n = .int .u64 acc ∧ acc < 128 ^ k ∧ rd 0 0 l = rd k acc (l.drop k)) (fun _ i => l.length - (intOf i).toNat)
  case atStart => exact ⟨0, 0, by omega, by omega, rfl, rfl, by decide, by simp⟩
  case round =>
    obtain ⟨k, acc, hk9, hk, rfl, rfl, hacc, hrd⟩ := hrel
    by_cases hlt : k < l.length
    · obtain ⟨c, hc⟩ : ∃ c, l[k] = c := ⟨_, rfl⟩
      rw [drop_at hlt hc] at hrd
      cases A with
      | none => exact absurd (hA rfl) (by omega)
      | some a =>
        have hcell := hcells a rfl k hlt
        rw [hc] at hcell
        unfold bv at hcell
        clear hc hcells hA
        have hc256 : c.toNat < 256 := c.toNat_lt
        by_cases hbad : (k = 9 ∧ 1 < c.toNat) ∨ (0 < k ∧ c.toNat = 0)
        · have HN := Lib.hid (rest_none (hrd.trans (rd_bad hbad)))
          clear hrd hacc
          by_cases c0 : c.toNat = 0
          · obtain rfl : c = 0 := by apply UInt8.toNat_inj.1; simpa using c0
            have b1 : 0 < k := by rcases hbad with ⟨_, hb2⟩ | ⟨hb1, _⟩ <;> omega
            simp at hcell
            clear c0 hbad hc256
            by_cases b9 : 9 ≤ k
            all_goals
              go_wp2_with fail
              refine hfail.mono ?_
              rintro e w2 ⟨rfl, hs2, hf2⟩
              go_wp2
              go_ret
              rw [HN.out.1, HN.out.2.1, HN.out.2.2.1]
              exact ⟨rfl, hs2, hf2⟩
          · have b1 : 9 ≤ k := by omega
            have b2 : 1 < c.toNat := by omega
            clear c0 hbad
            go_wp2_with fail
            refine hfail.mono ?_
            rintro e w2 ⟨rfl, hs2, hf2⟩
            go_wp2
            go_ret
            rw [HN.out.1, HN.out.2.1, HN.out.2.2.1]
            exact ⟨rfl, hs2, hf2⟩
        · have hS := or_sum (x := c.toNat % 128) hk9 hacc (by omega) (by omega)
          rw [show ((c.toNat % 128 : Nat) : Int) = (c.toNat : Int) % 128 by omega] at hS
          by_cases c0 : c.toNat = 0
          · have HN := Lib.hid (rest_some (hrd.trans (rd_last hbad (by omega))))
            obtain rfl : c = 0 := by apply UInt8.toNat_inj.1; simpa using c0
            obtain rfl : k = 0 := by omega
            obtain rfl : acc = 0 := by omega
            obtain ⟨A', c', hrun, hbs', hown'⟩ := slice_lo (some a) l.length cap (0 + 1) .i64 1 (by omega) (by omega) hcap
            have HSL := Lib.hid (SAt.step (l' := l.drop (0 + 1)) HB.out H3.out h4 H5.out (by intro e; subst e; simp at hlt) (hbs' w l rfl HBs.out) hown')
            simp [Addr.add] at hcell
            clear c0 hbad hc256 hS hrd hacc hbs' hown'
            go_wp2_with fail
            go_ret
            rw [HN.out.1, HN.out.2.1, HN.out.2.2.1]
            exact ⟨by simp, HSL.out, (Fr.refl _ _).set1 _ _⟩
          · have b1 : 0 < c.toNat := by omega
            have b2 : ((c.toNat : Int) == 0) = false := by rw [beq_eq_false_iff_ne]; omega
            by_cases b3 : c.toNat < 128
            · have HN := Lib.hid (rest_some (hrd.trans (rd_last hbad b3)))
              by_cases b9 : k = 9
              · subst b9
                obtain ⟨A', c', hrun, hbs', hown'⟩ := slice_lo (some a) l.length cap (9 + 1) .i64 10 (by omega) (by omega) hcap
                have HSL := Lib.hid (SAt.step (l' := l.drop (9 + 1)) HB.out H3.out h4 H5.out (by intro e; subst e; simp at hlt) (hbs' w l rfl HBs.out) hown')
                have b4 : c.toNat ≤ 1 := by omega
                have HE := Lib.hid (show acc + c.toNat % 128 * 128 ^ 9 = acc + c.toNat * 128 ^ 9 by rw [show c.toNat % 128 = c.toNat by omega])
                rw [show (2 : Int) ^ (7 * 9) = 9223372036854775808 by decide, IntWalk.u64_in ((c.toNat : Int) % 128 * 9223372036854775808) ⟨by omega, by omega⟩] at hS
                simp [Addr.add] at hcell
                clear hbad c0 hrd hacc hbs' hown'
                go_wp2_with fail
                all_goals
                  go_ret
                  rw [HN.out.1, HN.out.2.1, HN.out.2.2.1, ← HE.out]
                  exact ⟨rfl, HSL.out, (Fr.refl _ _).set1 _ _⟩
              · obtain ⟨A', c', hrun, hbs', hown'⟩ := slice_lo (some a) l.length cap (k + 1) .i64 ((k : Int) + 1) (by omega) (by omega) hcap
                have HSL := Lib.hid (SAt.step (l' := l.drop (k + 1)) HB.out H3.out h4 H5.out (by intro e; subst e; simp at hlt) (hbs' w l rfl HBs.out) hown')
                have b4 : k < 9 := by omega
                have HE := Lib.hid (show acc + c.toNat % 128 * 128 ^ k = acc + c.toNat * 128 ^ k by rw [show c.toNat % 128 = c.toNat by omega])
                clear hbad c0 hrd hacc hbs' hown' b9
                go_wp2_with fail
                all_goals
                  go_ret
                  rw [HN.out.1, HN.out.2.1, HN.out.2.2.1, ← HE.out]
                  exact ⟨rfl, HSL.out, (Fr.refl _ _).set1 _ _⟩
            · have HN := Lib.hid (hrd.trans (rd_more hbad (by omega)))
              have b4 : k < 9 := by omega
              have b5 : 128 ≤ c.toNat := by omega
              have HA2 := Lib.hid (show acc + c.toNat % 128 * 128 ^ k < 128 ^ (k + 1) by
                have h2 : c.toNat % 128 ≤ 127 := by omega
                have h3 := Nat.mul_le_mul_right (128 ^ k) h2
                rw [Nat.pow_succ]; omega)
              have HE := Lib.hid (show acc + (c.toNat - 128) * 128 ^ k = acc + c.toNat % 128 * 128 ^ k by rw [show c.toNat - 128 = c.toNat % 128 by omega])
              clear hrd hacc hbad c0 b3
              go_wp2_with fail
              all_goals
                refine ⟨⟨k + 1, acc + c.toNat % 128 * 128 ^ k, by omega, by omega, by go_num, rfl, HA2.out, ?_⟩, by simp [intOf]; omega⟩
                rw [HN.out, HE.out]
    · have hd : l.drop k = [] := List.drop_eq_nil_of_le (by omega)
      rw [hd] at hrd
      have HN := Lib.hid (rest_none (hrd.trans rfl))
      clear hrd hacc hd hcells
      go_wp2_with fail
      refine hfail.mono ?_
      rintro e w2 ⟨rfl, hs2, hf2⟩
      go_wp2
      go_ret
      rw [HN.out.1, HN.out.2.1, HN.out.2.2.1]
      exact ⟨rfl, hs2, hf2⟩


/-- the blocks from B on -/
def GeS (B : Nat) : Nat → Prop := fun k => B ≤ k
theorem quietly {P : Program} {f : FuncId} {args : Array Value} {w : World} {n : Nat} {v : Value}
    (h : Calls P f args (w.drewN n) fun e w' => e = .returned v ∧ w.drewN n = w') : Calls P f args (w.drewN n) fun e w'' => e = .returned v ∧ ∃ m, w'' = w.drewN m := h.mono fun _ _ ⟨he, hm⟩ => ⟨he, n, hm.symm⟩
theorem Src.drew {w : World} {g : Nat} {l : List UInt8} {bad : Bool} (h : Src w g l bad) : Src w.drew g l bad := h
theorem SAt.drew {w : World} {g : Nat} {S : Nat → Prop} {l : List UInt8} {bad : Bool} (h : SAt w g S l bad) : SAt w.drew g S l bad := h
theorem Src.drewN {w : World} {g : Nat} {l : List UInt8} {bad : Bool} (h : Src w g l bad) (n : Nat) : Src (w.drewN n) g l bad := h
theorem SAt.drewN {w : World} {g : Nat} {S : Nat → Prop} {l : List UInt8} {bad : Bool} (h : SAt w g S l bad) (n : Nat) : SAt (w.drewN n) g S l bad := h

end Go.Proofs.Ytkmgplgokhjmjaa
