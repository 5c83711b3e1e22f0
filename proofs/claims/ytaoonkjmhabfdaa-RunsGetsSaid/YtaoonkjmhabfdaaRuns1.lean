/-
  Layer 5: the walks of runs.run, runs.Put, firkinref05.Put, firkinref05.Same.
-/
import Derived.Test.YtaoonkjmhabfdaaSlc
import Derived.Test.YtaoonkjmhabfdaaMathRuns
import Derived.Test.YtaoonkjmhabfdaaVint2
import Derived.Deep.QuietTactic
import Derived.BigQuiet
import Derived.Deep.RegionHeld3
import Derived.Deep.DrawnRows
namespace Go.Proofs.Ytaoonkjmhabfdaa
set_option linter.unusedVariables false
set_option linter.unusedSimpArgs false
open Go.RowKit

theorem el_i64 : El 22 2 (.int .i64 0) 8 := ⟨Try.underlying22, by kernel_rfl, rfl, by decide, by kernel_rfl, fun _ => by kernel_rfl⟩
theorem ret_boolE {a b : Bool} (h : a = b) : Ending.returned (.bool a) = .returned (.bool b) := by rw [h]

theorem drop_cons {α : Type} (l : List α) (k : Nat) (h : k < l.length) : l.drop k = l[k] :: l.drop (k + 1) := List.drop_eq_getElem_cons h

set_option maxHeartbeats 1000000 in
theorem run_any (v : Value) (l : List Int) (x : Int) (r : List Int) (he : l = x :: r) (w : World) (hv : Vs iv w v l) (hl : l.length ≤ 1000000) :
    Calls Try.prog 13 #[v] w fun e w' => e = .returned (.int .i64 ((runN x r : Nat) + 1 : Int)) ∧ Fr Non w w' := by
  obtain ⟨A, c, rfl, hlc, hn, hcell⟩ := hv
  have hpos : 0 < l.length := by rw [he]; simp
  cases A with
  | none => have := hn rfl; omega
  | some a =>
    have HC := Lib.hid (hcell a rfl)
    have g0 : w.cell? a = some (.int .i64 x) := by
      have := hcell a rfl 0 hpos
      simpa [Addr.add, he, iv] using this
    have HR : Hid (∀ k, 1 ≤ k → (h : k < l.length) → r[k - 1]? = some l[k]) := Lib.hid (by
      intro k hk h
      subst he
      cases k with
      | zero => omega
      | succ k => simp at h ⊢)
    have hrl := runN_le x r
    have HL : Hid (l.length = r.length + 1) := Lib.hid (by rw [he]; rfl)
    have hrl2 : runN x r + 1 ≤ l.length := by have := HL.out; omega
    clear hcell hn he
    have HA := Lib.hid (runN_at x r)
    have HE := Lib.hid (runN_end x r)
    clear hrl
    generalize runN x r = q at *
    go_enter Try.func13, Try.ntmps13
    go_wp2
    go_loopw [3] (fun i wr => ∃ k : Nat, 1 ≤ k ∧ k ≤ q + 1 ∧ i = .int .i64 k ∧ ∃ n, wr = w.drewN n) (fun i _ => l.length - (intOf i).toNat)
    case atStart => exact ⟨1, Nat.le_refl _, by omega, rfl, 0, rfl⟩
    case round =>
      obtain ⟨k, hk1, hk, rfl, n, rfl⟩ := hrel
      by_cases hlt : k < l.length
      · have g1 : w.cell? (a.add k) = some (iv l[k]) := HC.out k hlt
        have hr := Lib.hid (HR.out k hk1 hlt)
        unfold iv at g1
        by_cases hx : l[k] = x
        · rw [hx] at g1
          have hkq : k ≤ q := by
            rcases Nat.lt_or_ge k (q + 1) with h | h
            · omega
            · exfalso
              have h1 := HE.out
              have h2 := hr.out
              rw [show k - 1 = q by omega, hx] at h2
              exact h1 h2
          have hxx : (x == x) = true := by simp
          clear hx hr
          go_wp2
          go_quiet (fail)
          go_wp2
          go_roundw
          case rel => exact ⟨k + 1, by omega, by omega, by go_num, _, rfl⟩
          case measure => simp [intOf]; omega
        · have hxx : (l[k] == x) = false := by rw [beq_eq_false_iff_ne]; exact hx
          have hkq : k = q + 1 := by
            rcases Nat.lt_or_ge k (q + 1) with h | h
            · exfalso
              have h1 := HA.out (k - 1) (by omega)
              have h2 := hr.out
              rw [h1] at h2
              exact hx (by simpa using h2.symm)
            · omega
          have HK := Lib.hid hkq
          clear hx hr hkq
          generalize l[k] = y at *
          go_wp2
          go_quiet (fail)
          go_wp2
          go_ret
          exact ⟨ret_int (by rw [HK.out]; push_cast; rfl), ((Fr.refl _ _).drewN _).drewN _⟩
      · have hd : decide ((k : Int) < l.length) = false := by simp; omega
        have hkq : k = q + 1 := by omega
        have HK := Lib.hid hkq
        clear hkq
        go_wp2
        go_quiet (fail)
        go_wp2
        go_ret
        exact ⟨ret_int (by rw [HK.out]; push_cast; rfl), ((Fr.refl _ _).drewN _).drewN _⟩

set_option maxHeartbeats 2000000 in
theorem rnput_any (v : Value) (l : List Int) (w : World) (hv : Vs iv w v l) (hl : l.length ≤ 1000000) (hx : ∀ x ∈ l, I64 x) :
    Calls Try.prog 7 #[v] w fun e w' => ∃ u, e = .returned u ∧ Own w' w.heap.size u (putR l) ∧ Fr Non w w' := by
  have HV := Lib.hid hv
  obtain ⟨A, c, rfl, hlc, hn, hcell⟩ := hv
  have HC := Lib.hid hcell
  have HN := Lib.hid hn
  have HX := Lib.hid hx
  clear hcell hn hx
  go_enter Try.func7, Try.ntmps7
  go_wp2
  go_loopw [3, 4] (fun b i wr => ∃ (k : Nat) (bs : List UInt8), k ≤ l.length ∧ i = .int .i64 k ∧ Hid (putR l = bs ++ putR (l.drop k)) ∧ bs.length ≤ 20 * k ∧ Own wr w.heap.size b bs ∧ Fr Non w wr) (fun _ i _ => l.length - (intOf i).toNat)
  case atStart => exact ⟨0, [], Nat.zero_le _, rfl, Lib.hid (by simp), by simp, own_nil _ _, Fr.refl _ _⟩
  case round =>
    obtain ⟨k, bs, hk, rfl, HP, hbs, hown, hfr⟩ := hrel
    by_cases hlt : k < l.length
    · cases A with
      | none => have := HN.out rfl; omega
      | some a =>
        have hc0 := HC.out a rfl k hlt
        have hdr := drop_cons l k hlt
        have hxx := HX.out l[k] (List.getElem_mem hlt)
        obtain ⟨A', c', hrun, hsl, hob⟩ := slice_loG el_i64 (some a) l.length c k .i64 (k : Int) rfl (by omega) hlc
        have HS := Lib.hid (hsl iv wr l rfl (HV.out.non hfr))
        clear hsl hob
        generalize l[k] = x at *
        have hP := HP.out
        rw [hdr, putR_cons] at hP
        have hrl := runN_le x (l.drop (k + 1))
        rw [List.length_drop] at hrl
        have hdd : (l.drop (k + 1)).drop (runN x (l.drop (k + 1))) = l.drop (k + (runN x (l.drop (k + 1)) + 1)) := by rw [List.drop_drop]; congr 1; omega
        rw [hdd] at hP
        have HP2 := Lib.hid hP
        have HD := Lib.hid hdr
        have hrunl := fun w' (h : Vs iv w' (.slice A' (l.length - k) c') (l.drop k)) => run_any _ (l.drop k) x (l.drop (k + 1)) HD.out w' h (by rw [List.length_drop]; omega)
        have HRun := Lib.hid hrunl
        unfold iv at hc0
        clear hP hdr hdd HP hrunl
        generalize runN x (l.drop (k + 1)) = q at *
        go_wp2_with fail
        refine (HRun.out _ HS.out).mono ?_
        rintro e w1 ⟨rfl, hf1⟩
        have hfr1 := hfr.trans hf1
        go_wp2_with fail
        refine (vnum_any q w1 (by unfold two64; omega)).mono ?_
        rintro e w2 ⟨v2, rfl, hown2, hf2⟩
        have hl10 : (Lib.uvarint q).length ≤ 10 := Lib.uvarint_length64 (by omega)
        have hfr2 := hfr1.trans hf2
        have hB2 := hfr2.size
        go_wp2_with (at_builtin; refine wpList_app rfl (.tmp 14) (.tmp 18) rfl w.heap.size u3 v2 bs (Lib.uvarint q) rfl (hown.non (hf1.trans hf2)) rfl hown2.bs (by omega) hB2 ?_; intro v3 w3 hown3 hf3; have hfr3 := hfr2.fresh hf3 (fun k hk => (hown.lt k hk).1); have hc3 := (hfr3.cell (World.block_lt_of_cell? w _ hc0) (fun e => e)).trans hc0)
        refine (vint_any x w3 hxx.1 hxx.2).mono ?_
        rintro e w4 ⟨v4, rfl, hown4, hf4⟩
        have hz10 := uvarint_zig10 hxx
        have hfr4 := hfr3.trans hf4
        have hB4 := hfr4.size
        go_wp2_with (at_builtin; refine wpList_app rfl (.tmp 20) (.tmp 25) rfl w.heap.size v3 v4 (bs ++ Lib.uvarint q) (Lib.uvarint (zig x)) rfl (hown3.non hf4) rfl hown4.bs (by rw [List.length_append]; omega) hB4 ?_; intro v5 w5 hown5 hf5; have hfr5 := hfr4.fresh hf5 (fun k hk => (hown3.lt k hk).1))
        go_roundw
        case rel => exact ⟨k + (q + 1), bs ++ Lib.uvarint q ++ Lib.uvarint (zig x), by omega, by go_num, Lib.hid (by rw [HP2.out]; unfold oneR; simp [List.append_assoc]), by simp only [List.length_append]; omega, hown5, hfr5⟩
        case measure => simp [intOf]; omega
    · obtain rfl : k = l.length := by omega
      have hP := HP.out
      rw [List.drop_length, putR_nil, List.append_nil] at hP
      have HP2 := Lib.hid hP
      clear hP
      go_wp2
      go_ret
      exact ⟨_, rfl, by rw [HP2.out]; exact hown, hfr⟩
end Go.Proofs.Ytaoonkjmhabfdaa
