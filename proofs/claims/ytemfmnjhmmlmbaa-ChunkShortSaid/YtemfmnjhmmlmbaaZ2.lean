/-
  Joined: Layer 5: the walks of runs.run, runs.Put, firkinref05.Put, firkinref05.Same. · Layer 5: the walk of runs.Get. · Layer 6: the walks of delta's closures, delta.Put, firkinref06.Put. · Layer 1, what is read: contracts of the document's own source, S. · Layer 1, what is read: contracts of the document's own source: Int, Below, Take, Text, End. · Layer 6: the walks of delta.Get, firkinref06.Get. · Layer 10: chunk.putEach, getEach. · The frame of a law's proof, for any parameters: where the call returned true and turned nothing that was there, the row's words hold. · Slices of texts: what one reads as; the document's Names; a slice of texts that came in. · A map of texts to numbers of the call's own: which texts it has (ks), and what it says of each (g); made, written, asked, its keys in order. · Functions of Go's library at bytes: bytes.Clone, bytes.Equal, slices.Grow of nil, slices.Concat. · Layer 8: the walks of dict.Plain and of the document's Plain. · Layer 7: the walks of tight.size, slices.Min and slices.Max of int64s, bits.Len64, firkinref07.need. · Layer 7: the walks of the strip's put and get, the pack's add and tell. · Layer 7: the walk of tight.Put. · Layer 7: the walk of tight.open. · Layer 7: the walk of tight.Get. · Layer 7: firkinref07.Same; the example; the laws TightPuts, TightGets, TightOne, walked. · Layer 8: the walk of the document's Put. · Layer 8: the walk of dict.Put. · Layer 8: the walks of dict.take, dict.pick, dict.Texts. · Layer 8: the walk of dict.Get. · Layer 10: the closures that put and get cells by their numbers. · Layer 10: the closures that put and get cells by their texts.
-/
import Derived.Deep.Slices
import Derived.Test.YtemfmnjhmmlmbaaZ1
import Derived.Deep.QuietTactic
import Derived.BigQuiet
import Derived.Deep.RegionHeld3
import Derived.Deep.DrawnRows
import Derived.WalkMore
import Derived.Test.YtemfmnjhmmlmbaaRows
import Derived.ProofKit
import Derived.OpenShut
import Derived.ShutString
import Derived.ChangeOld
import Derived.Below
import Derived.Test.YtemfmnjhmmlmbaaKeys
import Derived.Maps.OwnSet
import Derived.Maps.OwnOps
import Derived.Lib.AppendZeros
import Derived.Lib.SliceRun
import Derived.Lib.MinMax
import Derived.Deep.RegionWith
import Derived.BigRegion
import Derived.Test.YtemfmnjhmmlmbaaLen64
import Derived.Laws.ResultCell

namespace Go.Proofs.Ytemfmnjhmmlmbaa
set_option linter.unusedVariables false
set_option linter.unusedSimpArgs false
set_option maxRecDepth 100000
open Go.RowKit

theorem el_i64 : El 74 2 (.int .i64 0) 8 := ⟨Try.underlying74, by kernel_rfl, rfl, by decide, by kernel_rfl, fun _ => by kernel_rfl⟩

theorem drop_cons {α : Type} (l : List α) (k : Nat) (h : k < l.length) : l.drop k = l[k] :: l.drop (k + 1) := List.drop_eq_getElem_cons h

set_option maxHeartbeats 1000000 in
theorem run_any (v : Value) (l : List Int) (x : Int) (r : List Int) (he : l = x :: r) (w : World) (hv : Vs iv w v l) (hl : l.length ≤ 1000000) :
    Calls Try.prog 49 #[v] w fun e w' => e = .returned (.int .i64 ((runN x r : Nat) + 1 : Int)) ∧ Fr Non w w' := by
  obtain ⟨A, c, rfl, hlc, hn, hcell⟩ := hv
  have hpos : 0 < l.length := by rw [he]; simp
  cases A with
  | none => have := hn rfl; omega
  | some a =>
    have HC := Lib.hid (hcell a rfl)
    have g0 : w.cell? a = some (.int .i64 x) := by
      have := hcell a rfl 0 hpos
      simpa [Addr.add, he, iv] using this
    have HR : Hid (∀ k, 1 ≤ k → (h : k < l.length) → r[k - 1]? = some l[k]) := Lib.hid (by
      intro k hk h
      subst he
      cases k with
      | zero => omega
      | succ k => simp at h ⊢)
    have hrl := runN_le x r
    have HL : Hid (l.length = r.length + 1) := Lib.hid (by rw [he]; rfl)
    have hrl2 : runN x r + 1 ≤ l.length := by have := HL.out; omega
    clear hcell hn he
    have HA := Lib.hid (runN_at x r)
    have HE := Lib.hid (runN_end x r)
    clear hrl
    generalize runN x r = q at *
    go_enter Try.func49, Try.ntmps49
    go_wp2
    go_loopw [3] (fun i wr => ∃ k : Nat, 1 ≤ k ∧ k ≤ q + 1 ∧ i = .int .i64 k ∧ ∃ n, wr = w.drewN n) (fun i _ => l.length - (intOf i).toNat)
    case atStart => exact ⟨1, Nat.le_refl _, by omega, rfl, 0, rfl⟩
    case round =>
      obtain ⟨k, hk1, hk, rfl, n, rfl⟩ := hrel
      by_cases hlt : k < l.length
      · have g1 : w.cell? (a.add k) = some (iv l[k]) := HC.out k hlt
        have hr := Lib.hid (HR.out k hk1 hlt)
        unfold iv at g1
        by_cases hx : l[k] = x
        · rw [hx] at g1
          have hkq : k ≤ q := by
            rcases Nat.lt_or_ge k (q + 1) with h | h
            · omega
            · exfalso
              have h1 := HE.out
              have h2 := hr.out
              rw [show k - 1 = q by omega, hx] at h2
              exact h1 h2
          have hxx : (x == x) = true := by simp
          clear hx hr
          go_wp2
          go_quiet (fail)
          go_wp2
          go_roundw
          case rel => exact ⟨k + 1, by omega, by omega, by go_num, _, rfl⟩
          case measure => simp [intOf]; omega
        · have hxx : (l[k] == x) = false := by rw [beq_eq_false_iff_ne]; exact hx
          have hkq : k = q + 1 := by
            rcases Nat.lt_or_ge k (q + 1) with h | h
            · exfalso
              have h1 := HA.out (k - 1) (by omega)
              have h2 := hr.out
              rw [h1] at h2
              exact hx (by simpa using h2.symm)
            · omega
          have HK := Lib.hid hkq
          clear hx hr hkq
          generalize l[k] = y at *
          go_wp2
          go_quiet (fail)
          go_wp2
          go_ret
          exact ⟨ret_int (by rw [HK.out]; push_cast; rfl), ((Fr.refl _ _).drewN _).drewN _⟩
      · have hd : decide ((k : Int) < l.length) = false := by simp; omega
        have hkq : k = q + 1 := by omega
        have HK := Lib.hid hkq
        clear hkq
        go_wp2
        go_quiet (fail)
        go_wp2
        go_ret
        exact ⟨ret_int (by rw [HK.out]; push_cast; rfl), ((Fr.refl _ _).drewN _).drewN _⟩

set_option maxHeartbeats 2000000 in
theorem rnput_any (v : Value) (l : List Int) (w : World) (hv : Vs iv w v l) (hl : l.length ≤ 1000000) (hx : ∀ x ∈ l, I64 x) :
    Calls Try.prog 28 #[v] w fun e w' => ∃ u, e = .returned u ∧ Own w' w.heap.size u (putR l) ∧ Fr Non w w' := by
  have HV := Lib.hid hv
  obtain ⟨A, c, rfl, hlc, hn, hcell⟩ := hv
  have HC := Lib.hid hcell
  have HN := Lib.hid hn
  have HX := Lib.hid hx
  clear hcell hn hx
  go_enter Try.func28, Try.ntmps28
  go_wp2
  go_loopw [3, 4] (fun b i wr => ∃ (k : Nat) (bs : List UInt8), k ≤ l.length ∧ i = .int .i64 k ∧ Hid (putR l = bs ++ putR (l.drop k)) ∧ bs.length ≤ 20 * k ∧ Own wr w.heap.size b bs ∧ Fr Non w wr) (fun _ i _ => l.length - (intOf i).toNat)
  case atStart => exact ⟨0, [], Nat.zero_le _, rfl, Lib.hid (by simp), by simp, own_nil _ _, Fr.refl _ _⟩
  case round =>
    obtain ⟨k, bs, hk, rfl, HP, hbs, hown, hfr⟩ := hrel
    by_cases hlt : k < l.length
    · cases A with
      | none => have := HN.out rfl; omega
      | some a =>
        have hc0 := HC.out a rfl k hlt
        have hdr := drop_cons l k hlt
        have hxx := HX.out l[k] (List.getElem_mem hlt)
        obtain ⟨A', c', hrun, hsl, hob⟩ := slice_loG el_i64 (some a) l.length c k .i64 (k : Int) rfl (by omega) hlc
        have HS := Lib.hid (hsl iv wr l rfl (HV.out.non hfr))
        clear hsl hob
        generalize l[k] = x at *
        have hP := HP.out
        rw [hdr, putR_cons] at hP
        have hrl := runN_le x (l.drop (k + 1))
        rw [List.length_drop] at hrl
        have hdd : (l.drop (k + 1)).drop (runN x (l.drop (k + 1))) = l.drop (k + (runN x (l.drop (k + 1)) + 1)) := by rw [List.drop_drop]; congr 1; omega
        rw [hdd] at hP
        have HP2 := Lib.hid hP
        have HD := Lib.hid hdr
        have hrunl := fun w' (h : Vs iv w' (.slice A' (l.length - k) c') (l.drop k)) => run_any _ (l.drop k) x (l.drop (k + 1)) HD.out w' h (by rw [List.length_drop]; omega)
        have HRun := Lib.hid hrunl
        unfold iv at hc0
        clear hP hdr hdd HP hrunl
        generalize runN x (l.drop (k + 1)) = q at *
        go_wp2_with fail
        refine (HRun.out _ HS.out).mono ?_
        rintro e w1 ⟨rfl, hf1⟩
        have hfr1 := hfr.trans hf1
        go_wp2_with fail
        refine (vnum_any q w1 (by unfold two64; omega)).mono ?_
        rintro e w2 ⟨v2, rfl, hown2, hf2⟩
        have hl10 : (Lib.uvarint q).length ≤ 10 := Lib.uvarint_length64 (by omega)
        have hfr2 := hfr1.trans hf2
        have hB2 := hfr2.size
        go_wp2_with (at_builtin; refine wpList_app rfl (.tmp 14) (.tmp 18) rfl w.heap.size u3 v2 bs (Lib.uvarint q) rfl (hown.non (hf1.trans hf2)) rfl hown2.bs (by omega) hB2 ?_; intro v3 w3 hown3 hf3; have hfr3 := hfr2.fresh hf3 (fun k hk => (hown.lt k hk).1); have hc3 := (hfr3.cell (World.block_lt_of_cell? w _ hc0) (fun e => e)).trans hc0)
        refine (vint_any x w3 hxx.1 hxx.2).mono ?_
        rintro e w4 ⟨v4, rfl, hown4, hf4⟩
        have hz10 := uvarint_zig10 hxx
        have hfr4 := hfr3.trans hf4
        have hB4 := hfr4.size
        go_wp2_with (at_builtin; refine wpList_app rfl (.tmp 20) (.tmp 25) rfl w.heap.size v3 v4 (bs ++ Lib.uvarint q) (Lib.uvarint (zig x)) rfl (hown3.non hf4) rfl hown4.bs (by rw [List.length_append]; omega) hB4 ?_; intro v5 w5 hown5 hf5; have hfr5 := hfr4.fresh hf5 (fun k hk => (hown3.lt k hk).1))
        go_roundw
        case rel => exact ⟨k + (q + 1), bs ++ Lib.uvarint q ++ Lib.uvarint (zig x), by omega, by go_num, Lib.hid (by rw [HP2.out]; unfold oneR; simp [List.append_assoc]), by simp only [List.length_append]; omega, hown5, hfr5⟩
        case measure => simp [intOf]; omega
    · obtain rfl : k = l.length := by omega
      have hP := HP.out
      rw [List.drop_length, putR_nil, List.append_nil] at hP
      have HP2 := Lib.hid hP
      clear hP
      go_wp2
      go_ret
      exact ⟨_, rfl, by rw [HP2.out]; exact hown, hfr⟩
end Go.Proofs.Ytemfmnjhmmlmbaa


namespace Go.Proofs.Ytemfmnjhmmlmbaa
set_option linter.unusedVariables false
set_option linter.unusedSimpArgs false
set_option maxRecDepth 100000
open Go.RowKit

/-- what Get answers: nothing and false, or the numbers and true -/
def Gtn (w : World) (B : Nat) (o : Option (List Int)) (e : Ending) : Prop :=
  (o = none ∧ e = .returned (.tuple #[.slice none 0 0, .bool false])) ∨ (∃ l u, o = some l ∧ e = .returned (.tuple #[u, .bool true]) ∧ Ow iv 2 w B u l)
theorem gtn_no {w : World} {B : Nat} {o : Option (List Int)} (h : o = none) : Gtn w B o (.returned (.tuple #[.slice none 0 0, .bool false])) := .inl ⟨h, rfl⟩
theorem gtn_yes {w : World} {B : Nat} {o : Option (List Int)} {l : List Int} {u : Value} (h : o = some l) (hu : Ow iv 2 w B u l) : Gtn w B o (.returned (.tuple #[u, .bool true])) := .inr ⟨l, u, h, rfl, hu⟩

set_option maxHeartbeats 4000000 in
theorem rnget_any (v : Value) (b : List UInt8) (n : Int) (w : World) (hv : Bs w v b) (hl : b.length ≤ 1000000000) (h1 : -9223372036854775808 ≤ n) (h2 : n ≤ 9223372036854775807) :
    Calls Try.prog 29 #[v, .int .i64 n] w fun e w' => Gtn w' w.heap.size (gtM b n) e ∧ Fr Non w w' := by
  have HV := Lib.hid hv
  obtain ⟨A, c, rfl, _⟩ := hv
  by_cases hn0 : n < 0
  · have hd : decide (n < 0) = true := by simpa using hn0
    have HN := Lib.hid hn0
    clear hn0
    go_enter Try.func29, Try.ntmps29
    go_wp2
    go_step3
    go_wp2
    try rw [Exit.noGoto_ret]
    go_ret2
    exact ⟨gtn_no (by have := HN.out; unfold gtM gtz; rw [if_pos (by omega), if_pos this]), Fr.refl _ _⟩
  · by_cases hn4 : 4096 < n
    · have hd : decide (n < 0) = false := by simpa using hn0
      have hd4 : decide (4096 < n) = true := by simpa using hn4
      go_enter Try.func29, Try.ntmps29
      go_wp2
      go_step3
      go_wp2
      try rw [Exit.noGoto_ret]
      go_ret2
      exact ⟨gtn_no (by unfold gtM; rw [if_neg (by omega)]), Fr.refl _ _⟩
    · obtain ⟨m, rfl⟩ := Int.eq_ofNat_of_zero_le (show 0 ≤ n by omega)
      have HG := Lib.hid (show gtM b m = gtz b m none by unfold gtM; rw [if_pos (by omega)])
      have hd : decide ((m : Int) < 0) = false := by simp
      have hd4 : decide (4096 < (m : Int)) = false := by simpa using hn4
      clear h1 h2
      go_enter Try.func29, Try.ntmps29
      go_wp2
      go_step3
      go_wp2_with fail
      refine (from_any _ b w HV.out).mono ?_
      rintro e w1 ⟨rfl, s1, f1⟩
      have hg1 := s1.1.lt
      go_wp2_with (at_make; refine wpList_mkG iv el_i64 rfl _ _ rfl _ _ _ m rfl rfl rfl (by omega) ?_; intro v2 w2 hown2 hfr2)
      go_step3
      go_wp2
      have s2 := s1.fr hfr2 (fun e => e)
      have f2 := f1.trans hfr2
      have hB := hfr2.size
      clear s1 f1 hfr2
      generalize hW : w1.heap.size = B at *
      generalize hgg : w.heap.size = g at *
      have HW := Lib.hid hgg
      clear hW hgg
      go_loopw [7] (fun x wr => ∃ (r : List UInt8) (o : List Int), Ow iv 2 wr B x o ∧ o.length ≤ m ∧ Src wr g r false ∧ Hid (gtz b m none = (gtz r ((m : Int) - o.length) o.getLast?).map (o ++ ·)) ∧ B ≤ wr.heap.size ∧ Fr Non w wr) (fun x _ => m - slLen x)
      case atStart => exact ⟨b, [], hown2, by simp, s2, Lib.hid (by simp), hB, f2⟩
      case round =>
        obtain ⟨r, o, hown, hom, hs, HI, hBr, hfr⟩ := hrel
        have HO := Lib.hid hown
        have HF := Lib.hid hfr
        obtain ⟨A1, c1, rfl⟩ := hown.shape
        clear hown hfr hown2 s2 f2
        have HIo := HI.out
        generalize hol : o.length = ol at *
        have HL := Lib.hid hol
        clear hol HI
        by_cases hlt : ol < m
        · have hcalc : ((m : Int) - ol - 1) = ((m - ol - 1 : Nat) : Int) := by omega
          have hne : r = [] ∨ r ≠ [] := by cases r <;> simp
          cases hx : nxR r (m - ol - 1) with
          | none =>
            have HR : Hid (gtz b m none = none) := Lib.hid (by
              rw [HIo]
              rcases hne with rfl | hne
              · rw [gtz_none (by omega)]; rfl
              · rw [gtz_bad hne (by omega) hx]; rfl)
            have hfe := step_none hx hcalc
            clear hx hcalc hne HIo
            go_wp2_with fail
            refine (below_any g r false ((m : Int) - ol) wr hs (by omega)).mono ?_
            rintro e w3 ⟨rfl, s3, f3⟩
            generalize mostV r ((m : Int) - ol - 1) = mv at *
            go_wp2_with fail
            refine (sint_any g _ _ w3 s3).mono ?_
            rintro e w4 ⟨rfl, s4, f4⟩
            rw [hfe] at s4
            generalize unzig (fstN (mostR r ((m : Int) - ol - 1))) = mz at *
            clear hfe s3
            have hf4 := (HF.out.fresh (f3.trans f4) (fun k e => by have : k = g := e; have := HW.out; omega))
            clear f3 f4
            go_wp2_with fail
            refine (ok_any g _ true w4 s4).mono ?_
            rintro e w5 ⟨rfl, rfl⟩
            go_wp2_with fail
            refine (end_any g _ true w4 s4).mono ?_
            rintro e w5 ⟨rfl, rfl⟩
            go_wp2
            try rw [Exit.noGoto_ret]
            go_ret2
            exact ⟨gtn_no (HG.out.trans HR.out), hf4⟩
          | some y =>
            obtain ⟨k, x, q⟩ := y
            obtain ⟨e1, e2, e3, e4, hkm, hxx⟩ := step_some hx hcalc
            have hb0 := below_any g r false ((m : Int) - ol) wr hs (by omega)
            rw [e1] at hb0
            have hi0 : ∀ w3, Src w3 g (mostR r ((m : Int) - ol - 1)) (mostB r ((m : Int) - ol - 1)) →
                Calls Try.prog 47 #[ptr g] w3 fun e w' => e = .returned (.int .i64 x) ∧ Src w' g q false ∧ Fr (One g) w3 w' := by
              intro w3 s3
              have := sint_any g _ _ w3 s3
              rwa [e2, e3, e4] at this
            have HI0 := Lib.hid hi0
            have HX := Lib.hid hx
            clear e1 e2 e3 e4 hi0 hcalc hne hx
            cases hla : o.getLast? with
            | none =>
              have hol : o = [] := by simpa using hla
              have h0 : ol = 0 := by rw [← HL.out, hol]; rfl
              have hw1 := HW.out
              have HIN : Hid (gtz b m none = (gtz q ((m : Int) - ol - ((k : Int) + 1)) (some x)).map (o ++ List.replicate (k + 1) x ++ ·)) := Lib.hid (by
                rw [HIo, gtz_more HX.out (by omega) (by rw [hla]; simp), more_app])
              subst h0
              clear hol
              clear HIo hla
              go_wp2_with fail
              refine hb0.mono ?_
              rintro e w3 ⟨rfl, s3, f3⟩
              go_wp2_with fail
              refine (HI0.out w3 s3).mono ?_
              rintro e w4 ⟨rfl, s4, f4⟩
              have f34 := f3.trans f4
              have hB4 := Nat.le_trans hBr f34.size
              have hf4 := (HF.out.fresh f34 (fun k e => by have : k = g := e; omega))
              have hown4 := HO.out.fr f34 (fun k hk e => by have h1 := (HO.out.lt k hk).1; have : k = g := e; omega)
              clear f3 f4 s3 f34
              go_wp2_with fail
              refine (ok_any g _ false w4 s4).mono ?_
              rintro e w5 ⟨rfl, rfl⟩
              go_wp2
              go_loopw [7, 54] (fun u i wx => ∃ j : Nat, j ≤ k + 1 ∧ i = .int .i64 j ∧ Ow iv 2 wx B u (o ++ List.replicate j x) ∧ Src wx g q false ∧ B ≤ wx.heap.size ∧ Fr Non w wx) (fun _ i _ => k + 1 - (intOf i).toNat)
              case atStart => exact ⟨0, Nat.zero_le _, rfl, by simpa using hown4, s4, hB4, hf4⟩
              case round =>
                clear hown4 s4 hf4 hB4
                obtain ⟨j, hj, rfl, hown, hs, hBx, hfr⟩ := hrel
                by_cases hlj : j < k + 1
                · have HLen : Hid ((o ++ List.replicate j x).length < 1099511627776) := Lib.hid (by rw [List.length_append, HL.out, List.length_replicate]; omega)
                  have HS := Lib.hid (show o ++ List.replicate j x ++ [x] = o ++ List.replicate (j + 1) x by rw [List.replicate_succ', List.append_assoc])
                  go_wp2_with (at_builtin; refine wpList_pushG el_i64 iv_oneC rfl (.tmp 56) (.tmp 58) rfl B _ (o ++ List.replicate j x) rfl hown _ x rfl rfl HLen.out hBx ?_; intro v5 w5 hown5 hf5)
                  have hf5n := hfr.fresh hf5 (fun q hq => by have := (hown.lt q hq).1; have := HW.out; omega)
                  go_roundw
                  case rel => exact ⟨j + 1, by omega, by go_num, by rw [← HS.out]; exact hown5, hs.fr hf5 (fun e => by have := (hown.lt _ e).1; omega), Nat.le_trans hBx hf5.size, hf5n⟩
                  case measure => simp [intOf]; omega
                · obtain rfl : j = k + 1 := by omega
                  have hsl := slLen_vs hown.vs
                  rw [List.length_append, HL.out, List.length_replicate] at hsl
                  go_wp2
                  go_roundw
                  case rel => exact ⟨q, o ++ List.replicate (k + 1) x, hown, by rw [List.length_append, HL.out, List.length_replicate]; omega, hs, Lib.hid (by rw [HIN.out, last_more, List.length_append, HL.out, List.length_replicate]; congr 2; push_cast; omega), hBx, hfr⟩
                  case measure => rw [hsl]; simp [slLen]; omega
            | some y =>
              obtain ⟨t, ht, hyt⟩ := last_at hla
              have hot : ol = t + 1 := by rw [← HL.out]; exact ht
              have hcl : ∃ g2, A1 = some ⟨g2, 0, none⟩ ∧ B ≤ g2 ∧ g2 < wr.heap.size ∧ wr.cell? ⟨g2, t, none⟩ = some (.int .i64 y) := by
                obtain ⟨g2, cap, he, h1, h2, _⟩ := HO.out.row (by omega)
                simp only [Value.slice.injEq] at he
                obtain ⟨rfl, _, _⟩ := he
                exact ⟨g2, rfl, h1, h2, HO.out.cell HL.out.symm t y hyt⟩
              obtain ⟨g2, rfl, hg2, hg2s, hc2⟩ := hcl
              subst hot
              have hw1 := HW.out
              clear ht hyt
              by_cases hyx : y = x
              · have HR : Hid (gtz b m none = none) := Lib.hid (by
                  rw [HIo, gtz_same HX.out (by push_cast; omega) (by rw [hla, hyx])]; rfl)
                have hb : (y == x) = true := by simp [hyx]
                clear HIo hla hyx
                go_wp2_with fail
                refine hb0.mono ?_
                rintro e w3 ⟨rfl, s3, f3⟩
                go_wp2_with fail
                refine (HI0.out w3 s3).mono ?_
                rintro e w4 ⟨rfl, s4, f4⟩
                have f34 := f3.trans f4
                have hc4 := (f34.cell (p := ⟨g2, t, none⟩) hg2s (fun e => by have : g2 = g := e; omega)).trans hc2
                have hf4 := (HF.out.fresh f34 (fun k e => by have : k = g := e; omega))
                clear f3 f4 s3 hc2
                go_wp2_with fail
                refine (ok_any g _ false w4 s4).mono ?_
                rintro e w5 ⟨rfl, rfl⟩
                go_wp2_with fail
                refine (fail_any g _ _ w4 s4).mono ?_
                rintro e w6 ⟨rfl, s6, f6⟩
                have hf6 := (hf4.fresh f6 (fun k e => by have : k = g := e; omega))
                go_wp2_with fail
                refine (end_any g _ true w6 s6).mono ?_
                rintro e w5 ⟨rfl, rfl⟩
                go_wp2
                try rw [Exit.noGoto_ret]
                go_ret2
                exact ⟨gtn_no (HG.out.trans HR.out), hf6⟩
              · have HIN : Hid (gtz b m none = (gtz q ((m : Int) - (t + 1 : Nat) - ((k : Int) + 1)) (some x)).map (o ++ List.replicate (k + 1) x ++ ·)) := Lib.hid (by
                  rw [HIo, gtz_more HX.out (by push_cast; omega) (by rw [hla]; simpa using hyx), more_app])
                have hb : (y == x) = false := by simpa using hyx
                clear HIo hla hyx
                go_wp2_with fail
                refine hb0.mono ?_
                rintro e w3 ⟨rfl, s3, f3⟩
                go_wp2_with fail
                refine (HI0.out w3 s3).mono ?_
                rintro e w4 ⟨rfl, s4, f4⟩
                have f34 := f3.trans f4
                have hc4 := (f34.cell (p := ⟨g2, t, none⟩) hg2s (fun e => by have : g2 = g := e; omega)).trans hc2
                clear hc2
                have hB4 := Nat.le_trans hBr f34.size
                have hf4 := (HF.out.fresh f34 (fun k e => by have : k = g := e; omega))
                have hown4 := HO.out.fr f34 (fun k hk e => by have h1 := (HO.out.lt k hk).1; have : k = g := e; omega)
                clear f3 f4 s3 f34
                go_wp2_with fail
                refine (ok_any g _ false w4 s4).mono ?_
                rintro e w5 ⟨rfl, rfl⟩
                go_wp2
                go_loopw [7, 54] (fun u i wx => ∃ j : Nat, j ≤ k + 1 ∧ i = .int .i64 j ∧ Ow iv 2 wx B u (o ++ List.replicate j x) ∧ Src wx g q false ∧ B ≤ wx.heap.size ∧ Fr Non w wx) (fun _ i _ => k + 1 - (intOf i).toNat)
                case atStart => exact ⟨0, Nat.zero_le _, rfl, by simpa using hown4, s4, hB4, hf4⟩
                case round =>
                  clear hown4 s4 hf4 hB4
                  obtain ⟨j, hj, rfl, hown, hs, hBx, hfr⟩ := hrel
                  by_cases hlj : j < k + 1
                  · have HLen : Hid ((o ++ List.replicate j x).length < 1099511627776) := Lib.hid (by rw [List.length_append, HL.out, List.length_replicate]; omega)
                    have HS := Lib.hid (show o ++ List.replicate j x ++ [x] = o ++ List.replicate (j + 1) x by rw [List.replicate_succ', List.append_assoc])
                    go_wp2_with (at_builtin; refine wpList_pushG el_i64 iv_oneC rfl (.tmp 56) (.tmp 58) rfl B _ (o ++ List.replicate j x) rfl hown _ x rfl rfl HLen.out hBx ?_; intro v5 w5 hown5 hf5)
                    have hf5n := hfr.fresh hf5 (fun q hq => by have := (hown.lt q hq).1; have := HW.out; omega)
                    go_roundw
                    case rel => exact ⟨j + 1, by omega, by go_num, by rw [← HS.out]; exact hown5, hs.fr hf5 (fun e => by have := (hown.lt _ e).1; omega), Nat.le_trans hBx hf5.size, hf5n⟩
                    case measure => simp [intOf]; omega
                  · obtain rfl : j = k + 1 := by omega
                    have hsl := slLen_vs hown.vs
                    rw [List.length_append, HL.out, List.length_replicate] at hsl
                    go_wp2
                    go_roundw
                    case rel => exact ⟨q, o ++ List.replicate (k + 1) x, hown, by rw [List.length_append, HL.out, List.length_replicate]; omega, hs, Lib.hid (by rw [HIN.out, last_more, List.length_append, HL.out, List.length_replicate]; congr 2; push_cast; omega), hBx, hfr⟩
                    case measure => rw [hsl]; simp [slLen]; omega
        · obtain rfl : ol = m := by omega
          rw [Int.sub_self] at HIo
          cases r with
          | nil =>
            have HR : Hid (gtz b ol none = some o) := Lib.hid (by rw [HIo, gtz_nil]; simp)
            clear HIo
            go_wp2_with fail
            refine (end_any g _ false wr hs).mono ?_
            rintro e w5 ⟨rfl, rfl⟩
            go_wp2
            try rw [Exit.noGoto_ret]
            go_ret2
            exact ⟨gtn_yes (HG.out.trans HR.out) (HO.out.mono (by have := HW.out; omega)), HF.out⟩
          | cons r0 r =>
            have HR : Hid (gtz b ol none = none) := Lib.hid (by rw [HIo, gtz_end (by simp)]; rfl)
            clear HIo
            go_wp2_with fail
            refine (end_any g _ false wr hs).mono ?_
            rintro e w5 ⟨rfl, rfl⟩
            go_wp2
            try rw [Exit.noGoto_ret]
            go_ret2
            exact ⟨gtn_no (HG.out.trans HR.out), HF.out⟩
end Go.Proofs.Ytemfmnjhmmlmbaa


namespace Go.Proofs.Ytemfmnjhmmlmbaa
set_option linter.unusedVariables false
set_option linter.unusedSimpArgs false
set_option maxRecDepth 100000
open Go.RowKit

theorem w6_wrap64 (n : Int) : wrap64 n = w6 n := by unfold wrap64 w6; rfl

theorem ow_other {α : Type} {f : α → Value} {E t : TypeId} {w : World} {B g : Nat} {v : Value} {l : List α} {cs : Array Value} (h : Ow f E w B v l) (hb : Blk w g t cs) (hne : E ≠ t) : ∀ k, v.ownBlock = some k → k ≠ g := by
  rintro k hk rfl
  obtain ⟨cur, h1⟩ := h.kind k hk
  unfold Blk at hb
  rw [hb] at h1
  simp at h1
  exact hne h1.2.symm

theorem lessAhead_any (w : World) : Calls Try.prog 53 #[] w fun e w' => e = .returned (.func (.func 72) #[] #[ptr w.heap.size]) ∧ Blk w' w.heap.size 2 #[iv 0] ∧ Fr Non w w' := by
  have hmf : ∀ (fn : Fn) (first cap : Array Value) (w : World), (Instr.makeFunc fn first cap).run Try.prog w = .ok (.func fn first cap) w := fun _ _ _ _ => rfl
  go_enter Try.func53, Try.ntmps53
  go_wp2
  go_ret
  exact ⟨rfl, Blk.new _ _ _, (Fr.refl _ _).alloc _⟩

theorem plusAhead_any (w : World) : Calls Try.prog 54 #[] w fun e w' => e = .returned (.func (.func 73) #[] #[ptr w.heap.size]) ∧ Blk w' w.heap.size 2 #[iv 0] ∧ Fr Non w w' := by
  have hmf : ∀ (fn : Fn) (first cap : Array Value) (w : World), (Instr.makeFunc fn first cap).run Try.prog w = .ok (.func fn first cap) w := fun _ _ _ _ => rfl
  go_enter Try.func54, Try.ntmps54
  go_wp2
  go_ret
  exact ⟨rfl, Blk.new _ _ _, (Fr.refl _ _).alloc _⟩

theorem less_any (g : Nat) (x a : Int) (w : World) (h : Blk w g 2 #[iv a]) :
    Calls Try.prog 72 #[.int .i64 x, ptr g] w fun e w' => e = .returned (.int .i64 (w6 (x - a))) ∧ Blk w' g 2 #[iv x] ∧ Fr (One g) w w' := by
  have hc0 : w.cell? ⟨g, 0, none⟩ = some (.int .i64 a) := h.cell 0
  have hf0 := h.frozen 0
  go_enter Try.func72, Try.ntmps72
  go_wp2
  go_ret
  exact ⟨ret_int (w6_wrap64 _), h.set 0 _, (Fr.refl _ _).set1 0 _⟩

theorem plus_any (g : Nat) (x a : Int) (w : World) (h : Blk w g 2 #[iv a]) :
    Calls Try.prog 73 #[.int .i64 x, ptr g] w fun e w' => e = .returned (.int .i64 (w6 (a + x))) ∧ Blk w' g 2 #[iv (w6 (a + x))] ∧ Fr (One g) w w' := by
  have hc0 : w.cell? ⟨g, 0, none⟩ = some (.int .i64 a) := h.cell 0
  have hf0 := h.frozen 0
  go_enter Try.func73, Try.ntmps73
  go_wp2
  go_ret
  exact ⟨ret_int (w6_wrap64 _), by rw [← w6_wrap64]; exact h.set 0 _, (Fr.refl _ _).set1 0 _⟩

theorem lastD_take (a : Int) (l : List Int) (k : Nat) (h : k < l.length) : lastD a (l.take (k + 1)) = l[k] := by
  unfold lastD
  rw [List.take_succ_eq_append_getElem h, List.getLast?_concat]; rfl
theorem putD_take (l : List Int) (k : Nat) (h : k < l.length) : putD 0 (l.take (k + 1)) = putD 0 (l.take k) ++ Lib.uvarint (zig (w6 (l[k] - lastD 0 (l.take k)))) := by
  rw [List.take_succ_eq_append_getElem h, putD_app]; simp [putD_cons, putD_nil]
theorem u8_ne_i64 : 5 ≠ 2 := by decide

set_option maxHeartbeats 2000000 in
theorem dput_any (v : Value) (l : List Int) (w : World) (hv : Vs iv w v l) (hl : l.length ≤ 1000000) :
    Calls Try.prog 30 #[v] w fun e w' => ∃ u, e = .returned u ∧ Own w' w.heap.size u (putD 0 l) ∧ Fr Non w w' := by
  obtain ⟨A, c, rfl, hlc, hn, hcell⟩ := hv
  have HC := Lib.hid hcell
  have HN := Lib.hid hn
  clear hcell hn
  go_enter Try.func30, Try.ntmps30
  go_wp2_with (at_make; refine wpList_mkbytes rfl _ _ rfl _ _ _ l.length rfl rfl rfl (by omega) ?_; intro v2 w2 hown2 hfr2)
  refine (lessAhead_any w2).mono ?_
  rintro e w3 ⟨rfl, hb3, hfr3⟩
  have hown3 := hown2.non hfr3
  have hf3 := hfr2.trans hfr3
  have hg2 := hfr2.size
  clear hown2 hfr2 hfr3
  generalize hgg : w2.heap.size = g at *
  clear hgg
  go_wp2
  go_loopw [3, 13] (fun b i wr => ∃ (k : Nat), k ≤ l.length ∧ i = .int .i64 k ∧ Own wr w.heap.size b (putD 0 (l.take k)) ∧ Blk wr g 2 #[iv (lastD 0 (l.take k))] ∧ Fr Non w wr) (fun _ i _ => l.length - (intOf i).toNat)
  case atStart => exact ⟨0, Nat.zero_le _, rfl, hown3, hb3, hf3⟩
  case round =>
    clear hown3 hb3 hf3
    obtain ⟨k, hk, rfl, hown, hb, hfr⟩ := hrel
    by_cases hlt : k < l.length
    · cases A with
      | none => have := HN.out rfl; omega
      | some a =>
        have hc0 := (hfr.cell (World.block_lt_of_cell? w _ (HC.out a rfl k hlt)) (fun e => e)).trans (HC.out a rfl k hlt)
        unfold iv at hc0
        have HT := Lib.hid (putD_take l k hlt)
        have HL := Lib.hid (lastD_take 0 l k hlt)
        have hpl := putD_len (l.take k) 0
        have hlk : (l.take k).length = k := by rw [List.length_take]; omega
        rw [hlk] at hpl
        clear hlk
        generalize l[k] = x at *
        generalize lastD 0 (l.take k) = d at *
        generalize putD 0 (l.take k) = bs at *
        have HO := Lib.hid hown
        have HB := Lib.hid hb
        clear hown hb
        have hx64 := w6_i64 (x - d)
        go_wp2_with fail
        refine (less_any g x d wr HB.out).mono ?_
        rintro e w4 ⟨rfl, hb4, hf4⟩
        have hown4 := HO.out.fr hf4 (fun q hq e => ow_other HO.out.ow HB.out u8_ne_i64 q hq e)
        have hfr4 := hfr.fresh hf4 (fun q e => by have : q = g := e; omega)
        go_wp2_with fail
        refine (vint_any _ w4 hx64.1 hx64.2).mono ?_
        rintro e w5 ⟨v5, rfl, hown5, hf5⟩
        have hz10 := uvarint_zig10 hx64
        have hfr5 := hfr4.trans hf5
        have hB5 := hfr5.size
        have hb5 := hb4.fr hf5 (fun e => e)
        have hown5' := hown4.non hf5
        generalize Lib.uvarint (zig (w6 (x - d))) = y at *
        go_wp2_with (at_builtin; refine wpList_app rfl (.tmp 17) (.tmp 21) rfl w.heap.size u3 v5 bs y rfl hown5' rfl hown5.bs (by omega) hB5 ?_; intro v6 w6_ hown6 hf6)
        have hb6 := hb5.fr hf6 (fun e => ow_other hown5'.ow hb5 u8_ne_i64 g e rfl)
        have hfr6 := hfr5.fresh hf6 (fun k hk => (hown5'.lt k hk).1)
        go_roundw
        case rel => exact ⟨k + 1, by omega, by go_num, by rw [HT.out]; exact hown6, by rw [HL.out]; exact hb6, hfr6⟩
        case measure => simp [intOf]; omega
    · obtain rfl : k = l.length := by omega
      rw [List.take_length] at hown
      go_wp2
      go_ret
      exact ⟨_, rfl, hown, hfr⟩

end Go.Proofs.Ytemfmnjhmmlmbaa


namespace Go.Proofs.Ytemfmnjhmmlmbaa
set_option linter.unusedVariables false
set_option linter.unusedSimpArgs false
set_option maxRecDepth 100000
open Go.RowKit

theorem Src.drew {w : World} {g : Nat} {l : List UInt8} {bad : Bool} (h : Src w g l bad) : Src w.drew g l bad := h
theorem Src.drewN {w : World} {g : Nat} {l : List UInt8} {bad : Bool} (h : Src w g l bad) (n : Nat) : Src (w.drewN n) g l bad := h
end Go.Proofs.Ytemfmnjhmmlmbaa


namespace Go.Proofs.Ytemfmnjhmmlmbaa
set_option linter.unusedVariables false
set_option linter.unusedSimpArgs false
set_option maxRecDepth 100000
open Go.RowKit

theorem rest_le (l : List UInt8) : (rest l).length ≤ l.length := by
  cases hr : rd 0 0 l with
  | none => rw [(rest_none hr).1]; simp
  | some p => obtain ⟨n, r⟩ := p; rw [(rest_some hr).1]; exact Nat.le_of_lt (rd_len (by omega) hr)

end Go.Proofs.Ytemfmnjhmmlmbaa


namespace Go.Proofs.Ytemfmnjhmmlmbaa
set_option linter.unusedVariables false
set_option linter.unusedSimpArgs false
set_option maxRecDepth 100000
open Go.RowKit

/-- what is still to come of what is answered -/
def ToD (t : Option (List Int)) (bad : Bool) (p : Int) (a : Int) (r : List UInt8) (o : List Int) : Prop := if bad then t = none else t = (gdz p a r).map (o ++ ·)
theorem toD_start (n : Int) (b : List UInt8) : ToD (gdz n 0 b) false n 0 b [] := by unfold ToD; simp
theorem toD_step {t : Option (List Int)} {bad : Bool} {p a : Int} {r : List UInt8} {o : List Int} (h : ToD t bad p a r o) (hb : bad = true → r = []) (hp : 0 < p) :
    ToD t (fell r) (p - 1) (w6 (a + unzig (fstN r))) (rest r) (o ++ [w6 (a + unzig (fstN r))]) := by
  unfold ToD at *
  cases hr : rd 0 0 r with
  | none =>
    rw [(rest_none hr).2.1, if_pos rfl]
    cases bad with
    | true => exact h
    | false =>
      rw [h]
      cases r with
      | nil => rw [gdz_nilne (by omega)]; rfl
      | cons c r => rw [gdz_bad (by simp) hr]; rfl
  | some y =>
    obtain ⟨z, q⟩ := y
    cases bad with
    | true => rw [hb rfl] at hr; simp [rd] at hr
    | false =>
      rw [(rest_some hr).1, (rest_some hr).2.1, (rest_some hr).2.2.1, h, gdz_some hp hr, cons_app]
      rfl
theorem toD_end {t : Option (List Int)} {bad : Bool} {a : Int} {r : List UInt8} {o : List Int} (h : ToD t bad 0 a r o) : t = if (!bad && r.isEmpty) = true then some o else none := by
  unfold ToD at h
  cases bad with
  | true => simpa using h
  | false =>
    rw [h]
    cases r with
    | nil => rw [gdz_nil]; simp
    | cons c r => rw [gdz_end (by omega) (by simp)]; simp

theorem set_appD {o : List Int} {k m : Nat} {x y : Int} (h : o.length = k) (hk : k < m) : (o ++ List.replicate (m - k) x).set k y = o ++ [y] ++ List.replicate (m - (k + 1)) x := by
  subst h
  rw [List.set_append_right _ _ (Nat.le_refl _), Nat.sub_self, show m - o.length = (m - (o.length + 1)) + 1 by omega, List.replicate_succ, List.set_cons_zero, List.append_assoc]; rfl

set_option maxHeartbeats 2000000 in
theorem dget_any (v : Value) (b : List UInt8) (n : Int) (w : World) (hv : Bs w v b) (hl : b.length ≤ 1000000000) (h1 : -9223372036854775808 ≤ n) (h2 : n ≤ 9223372036854775807) :
    Calls Try.prog 31 #[v, .int .i64 n] w fun e w' => Gtn w' w.heap.size (gdz n 0 b) e ∧ Fr Non w w' := by
  have HV := Lib.hid hv
  obtain ⟨A, c, rfl, _⟩ := hv
  by_cases hn0 : n < 0
  · have hd : decide (n < 0) = true := by simpa using hn0
    have HN := Lib.hid hn0
    clear hn0
    go_enter Try.func31, Try.ntmps31
    go_wp2
    go_ret2
    exact ⟨gtn_no (gdz_neg HN.out), Fr.refl _ _⟩
  · by_cases hn4 : (b.length : Int) < n
    · have hd : decide (n < 0) = false := by simpa using hn0
      have hd4 : decide ((b.length : Int) < n) = true := by simpa using hn4
      have HN := Lib.hid hn4
      go_enter Try.func31, Try.ntmps31
      go_wp2
      go_ret2
      exact ⟨gtn_no (gdz_long HN.out), Fr.refl _ _⟩
    · obtain ⟨m, rfl⟩ := Int.eq_ofNat_of_zero_le (show 0 ≤ n by omega)
      have hd : decide ((m : Int) < 0) = false := by simp
      have hd4 : decide ((b.length : Int) < (m : Int)) = false := by simpa using hn4
      have hm9 : m ≤ 1000000000 := by omega
      clear h1 h2
      go_enter Try.func31, Try.ntmps31
      go_wp2_with fail
      refine (from_any _ b w HV.out).mono ?_
      rintro e w1 ⟨rfl, s1, f1⟩
      go_wp2_with fail
      refine (plusAhead_any w1).mono ?_
      rintro e w2 ⟨rfl, b2, f2⟩
      have s2 := s1.fr f2 (fun e => e)
      have f12 := f1.trans f2
      have hg1 := s1.1.lt
      have hg2 := b2.lt
      clear s1 f1 f2
      go_wp2_with (at_make; refine wpList_mkfullG (f := iv) el_i64 (0 : Int) rfl rfl _ _ rfl _ _ _ _ m rfl rfl rfl rfl (by omega) ?_; intro w3 hown3 f3)
      have s3 := s2.fr f3 (fun e => e)
      have b3 := b2.fr f3 (fun e => e)
      have f123 := f12.trans f3
      have hB := f3.size
      have hw1 := f12.size
      clear s2 b2 f12 f3
      generalize hgB : w2.heap.size = B at *
      generalize hgg1 : w1.heap.size = g1 at *
      generalize hgg : w.heap.size = g at *
      have HW := Lib.hid hgg
      clear hgg hgB hgg1
      go_wp2
      go_loopw [25] (fun i wr => ∃ (k : Nat) (r : List UInt8) (o : List Int) (a : Int) (bad : Bool), k ≤ m ∧ i = .int .i64 k ∧ o.length = k ∧ Ow iv 2 wr B (.slice (some ⟨B, 0, none⟩) m m) (o ++ List.replicate (m - k) 0) ∧ Src wr g r bad ∧ Blk wr g1 2 #[iv a] ∧ Hid (ToD (gdz m 0 b) bad ((m : Int) - k) a r o) ∧ Fr Non w wr) (fun i _ => m - (intOf i).toNat)
      case atStart => exact ⟨0, b, [], 0, false, Nat.zero_le _, rfl, rfl, by simpa using hown3, s3, b3, Lib.hid (by have := toD_start m b; simpa using this), f123⟩
      case round =>
        clear hown3 s3 b3 f123 hB
        obtain ⟨k, r, o, a, bad, hk, rfl, hok, hown, hs, hb, HT, hfr⟩ := hrel
        have HO := Lib.hid hown
        have HK := Lib.hid hok
        have HF := Lib.hid hfr
        clear hown hok hfr
        by_cases hlt : k < m
        · have HT2 := Lib.hid (toD_step HT.out hs.2 (by omega))
          go_wp2_with fail
          refine (sint_any g _ _ wr hs).mono ?_
          rintro e w4 ⟨rfl, s4, f4⟩
          have b4 := hb.fr f4 (fun e => by have : g1 = g := e; omega)
          go_wp2_with fail
          refine (plus_any g1 _ a w4 b4).mono ?_
          rintro e w5 ⟨rfl, b5, f5⟩
          have s5 := s4.fr f5 (fun e => by have : g = g1 := e; omega)
          have hown4 := HO.out.fr f4 (fun q hq e => by have h1 := (HO.out.lt q hq).1; have : q = g := e; omega)
          have hown5 := hown4.fr f5 (fun q hq e => by have h1 := (hown4.lt q hq).1; have : q = g1 := e; omega)
          have hf5 := (HF.out.fresh f4 (fun k e => by have : k = g := e; have := HW.out; omega)).fresh f5 (fun k e => by have : k = g1 := e; have := HW.out; omega)
          have hlen : m = (o ++ List.replicate (m - k) 0).length := by rw [List.length_append, HK.out, List.length_replicate]; omega
          have hfz := hown5.frozen hlen k
          have hst := hown5.store hlen k (w6 (a + unzig (fstN r)))
          rw [set_appD HK.out hlt] at hst
          have HST := Lib.hid hst
          have hcl : w5.cell? ⟨B, k, none⟩ = some (.int .i64 ((o ++ List.replicate (m - k) 0)[k]'(by omega))) := hown5.cell hlen k _ (List.getElem?_eq_getElem (by omega))
          generalize (o ++ List.replicate (m - k) 0)[k]'(by omega) = z0 at *
          generalize w6 (a + unzig (fstN r)) = y at *
          unfold iv at HST
          clear hst hlen hown4 hown5 f4 f5 s4 b4 hs hb
          go_wp2
          go_roundw
          case rel => exact ⟨k + 1, rest r, o ++ [y], y, fell r, by omega, by go_num, by rw [List.length_append, HK.out]; rfl, HST.out, s5.fr ((Fr.refl (One B) w5).set1 k _) (fun e => by have : g = B := e; omega), b5.fr ((Fr.refl (One B) w5).set1 k _) (fun e => by have : g1 = B := e; omega), Lib.hid (by have := HT2.out; rwa [show (m : Int) - (k + 1 : Nat) = (m : Int) - k - 1 by omega]), hf5.setCell (fun h => by have := HW.out; simp at h; omega) _⟩
          case measure => simp [intOf]; omega
        · obtain rfl : k = m := by omega
          have hT := HT.out
          rw [Int.sub_self] at hT
          have HE := Lib.hid (toD_end hT)
          clear hT
          go_wp2_with fail
          refine (end_any g r bad wr hs).mono ?_
          rintro e w5 ⟨rfl, rfl⟩
          cases hbe : (!bad && r.isEmpty) with
          | true =>
            rw [hbe] at HE
            go_wp2
            go_ret2
            exact ⟨gtn_yes HE.out (by have := HO.out.mono (B' := w.heap.size) (by have := HW.out; omega); simpa using this), HF.out⟩
          | false =>
            rw [hbe] at HE
            go_wp2
            go_ret2
            exact ⟨gtn_no HE.out, HF.out⟩

end Go.Proofs.Ytemfmnjhmmlmbaa


namespace Go.Proofs.Ytemfmnjhmmlmbaa
set_option linter.unusedVariables false
set_option linter.unusedSimpArgs false
set_option maxRecDepth 100000
open Go.RowKit

set_option maxHeartbeats 2000000 in
theorem each_any (v : Value) (l : List Int) (w : World) (hv : Vs iv w v l) (hl : l.length ≤ 1000000) (hx : ∀ x ∈ l, I64 x) :
    Calls Try.prog 26 #[v] w fun e w' => ∃ u, e = .returned u ∧ Own w' w.heap.size u (onesN l) ∧ Fr Non w w' := by
  obtain ⟨A, c, rfl, hlc, hn, hcell⟩ := hv
  have HC := Lib.hid hcell
  have HN := Lib.hid hn
  have HX := Lib.hid hx
  clear hcell hn hx
  go_enter Try.func26, Try.ntmps26
  go_wp2
  go_loopw [3, 8] (fun b i wr => ∃ (k : Nat), k ≤ l.length ∧ i = .int .i64 k ∧ Own wr w.heap.size b (onesN (l.take k)) ∧ Fr Non w wr) (fun _ i _ => l.length - (intOf i).toNat)
  case atStart => exact ⟨0, Nat.zero_le _, rfl, own_nil _ _, Fr.refl _ _⟩
  case round =>
    obtain ⟨k, hk, rfl, hown, hfr⟩ := hrel
    by_cases hlt : k < l.length
    · cases A with
      | none => have := HN.out rfl; omega
      | some a =>
        have hc0 := (hfr.cell (World.block_lt_of_cell? w _ (HC.out a rfl k hlt)) (fun e => e)).trans (HC.out a rfl k hlt)
        unfold iv at hc0
        have HT := Lib.hid (onesN_take l k hlt)
        have hpl := onesN_len (l.take k) fun x hx => HX.out x (List.mem_of_mem_take hx)
        have hlk : (l.take k).length = k := by rw [List.length_take]; omega
        have hx64 := HX.out l[k] (List.getElem_mem hlt)
        rw [hlk] at hpl
        clear hlk
        generalize l[k] = x at *
        generalize onesN (l.take k) = bs at *
        have HO := Lib.hid hown
        clear hown
        have H64 := Lib.hid hx64
        clear hx64
        go_wp2_with fail
        refine (vint_any x wr H64.out.1 H64.out.2).mono ?_
        rintro e w5 ⟨v5, rfl, hown5, hf5⟩
        have hz10 := uvarint_zig10 H64.out
        have hfr5 := hfr.trans hf5
        have hB5 := hfr5.size
        have hown5' := HO.out.non hf5
        generalize Lib.uvarint (zig x) = y at *
        go_wp2_with (at_builtin; refine wpList_app rfl (.tmp 12) (.tmp 14) rfl w.heap.size u3 v5 bs y rfl hown5' rfl hown5.bs (by omega) hB5 ?_; intro v6 w6_ hown6 hf6)
        have hfr6 := hfr5.fresh hf6 (fun k hk => (hown5'.lt k hk).1)
        go_roundw
        case rel => exact ⟨k + 1, by omega, by go_num, by rw [HT.out]; exact hown6, hfr6⟩
        case measure => simp [intOf]; omega
    · obtain rfl : k = l.length := by omega
      rw [List.take_length] at hown
      go_wp2
      go_ret
      exact ⟨_, rfl, hown, hfr⟩

theorem i64_ne_src : 2 ≠ 69 := by decide
set_option maxHeartbeats 4000000 in
theorem geach_any (v : Value) (b : List UInt8) (n : Nat) (w : World) (hv : Bs w v b) (hn : n ≤ 1000000) :
    Calls Try.prog 27 #[v, .int .i64 n] w fun e w' => Gtn w' w.heap.size (gOnes n b) e ∧ Fr Non w w' := by
  have HV := Lib.hid hv
  clear hv
  go_enter Try.func27, Try.ntmps27
  go_wp2_with fail
  refine (from_any v b w HV.out).mono ?_
  rintro e w1 ⟨rfl, hs1, hf1⟩
  have hlt1 : w.heap.size < w1.heap.size := hs1.1.lt
  generalize hg : w.heap.size = g at *
  have hgl := Nat.le_of_eq hg
  clear hg
  go_wp2_with (at_make; refine wpList_mkfullG el_i64 (f := iv) (0 : Int) rfl rfl _ _ rfl _ _ _ _ n rfl rfl rfl rfl (by omega) ?_; intro w2 hown2 hf2)
  have hs2 := hs1.fr hf2 (fun e => e)
  have hfr2 := hf1.trans hf2
  have HS1 := Lib.hid hgl
  have hg2 := hf1.size
  generalize hgr : w1.heap.size = r at *
  have hrl := Nat.le_of_eq hgr
  clear hgr
  go_loopw [15] (fun i wr => ∃ (k : Nat) (L : List Int) (q : List UInt8) (bad : Bool), k ≤ n ∧ i = .int .i64 k ∧ ToO n b k L q bad ∧ Src wr g q bad ∧ Ow iv 2 wr r (.slice (some ⟨r, 0, none⟩) n n) (L ++ List.replicate (n - k) 0) ∧ Fr Non w wr) (fun i _ => n - (intOf i).toNat)
  case atStart => exact ⟨0, [], b, false, Nat.zero_le _, rfl, toO_zero n b, hs2, hown2, hfr2⟩
  case round =>
    clear hs2 hown2 hfr2 hf2 hs1 hf1
    obtain ⟨k, L, q, bad, hk, rfl, hT, hs, hown, hfr⟩ := hrel
    have HT := Lib.hid hT
    have HO := Lib.hid hown
    clear hT hown
    by_cases hlt : k < n
    · have hL := HT.out.1
      have HL := Lib.hid (show n = (L ++ List.replicate (n - k) (0 : Int)).length by simp; omega)
      go_wp2_with fail
      refine (sint_any g q bad wr hs).mono ?_
      rintro e w4 ⟨rfl, hs4, hf4⟩
      have hown4 := HO.out.fr hf4 (fun p hp e => by have h1 : p = g := e; exact ow_other HO.out hs.1 i64_ne_src p hp h1)
      have hfr4 := hfr.fresh hf4 (fun p e => by have h1 : p = g := e; have := HS1.out; omega)
      have hat := rep_at L (n - k) (0 : Int) (by omega)
      have hset := rep_set L (n - k) (0 : Int) (unzig (fstN q)) (by omega)
      rw [hL] at hat hset
      have hc4 := hown4.cell HL.out k _ hat
      have hf4' := hown4.frozen HL.out k
      have HT2 := Lib.hid (toO_step HT.out hs.2 hlt)
      have hown5 := hown4.store HL.out k (unzig (fstN q))
      rw [hset, show n - k - 1 = n - (k + 1) by omega] at hown5
      have HO5 := Lib.hid hown5
      have HS4 := Lib.hid hs4
      have hrg : r ≠ g := fun e => ow_other HO.out hs.1 i64_ne_src r rfl e
      have hr4 : r < w4.heap.size := (hown4.lt r rfl).2
      have HO4 := Lib.hid hown4
      clear hown5 hown4 hat hset hs4 hL
      unfold iv at hc4
      generalize unzig (fstN q) = z at *
      go_wp2_with fail
      have hs6 := HS4.out.fr ((Fr.refl (One r) w4).set1 k (.int .i64 z)) (fun e => hrg e.symm)
      have hfr6 := hfr4.fresh ((Fr.refl (One r) w4).set1 k (.int .i64 z)) (fun p e => by have h1 : p = r := e; have := HS1.out; omega)
      go_roundw
      case rel => exact ⟨k + 1, _, _, _, by omega, by go_num, HT2.out, hs6, HO5.out, hfr6⟩
      case measure => simp [intOf]; omega
    · obtain rfl : k = n := by omega
      have HE := Lib.hid (toO_end HT.out)
      have hO := HO.out
      rw [Nat.sub_self, List.replicate_zero, List.append_nil] at hO
      have HO2 := Lib.hid hO
      clear hO HT HO
      cases hb : (!bad && q.isEmpty) with
      | true =>
        have hE := HE.out
        rw [hb, if_pos rfl] at hE
        have HE2 := Lib.hid hE
        clear hE HE
        have h0 := end_any g q bad wr hs
        rw [hb] at h0
        clear hb
        go_wp2_with fail
        refine h0.mono ?_
        rintro e w5 ⟨rfl, rfl⟩
        go_wp2
        go_ret2
        exact ⟨gtn_yes HE2.out (HO2.out.mono (by have := HS1.out; omega)), hfr⟩
      | false =>
        have hE := HE.out
        rw [hb, if_neg (by simp)] at hE
        have HE2 := Lib.hid hE
        clear hE HE
        have h0 := end_any g q bad wr hs
        rw [hb] at h0
        clear hb
        go_wp2_with fail
        refine h0.mono ?_
        rintro e w5 ⟨rfl, rfl⟩
        go_wp2
        go_ret2
        exact ⟨gtn_no HE2.out, hfr⟩
end Go.Proofs.Ytemfmnjhmmlmbaa


namespace Go.Proofs.Ytemfmnjhmmlmbaa
set_option linter.unusedVariables false
set_option linter.unusedSimpArgs false
set_option maxRecDepth 100000
open Go.ChangeShapes Go.WideShapes Go.ChangeAt Go.RowKit

theorem frame_own : ownKnob Try.prog.godebug = none := by kernel_rfl
theorem frame_laidOut : laidOutB Try.prog = true := by kernel_rfl

/-- every argument reads as it did -/
theorem trodAll_below {H : Type} {enc : TypeId × Value → H} {W W' : World} (hb : Below W.heap.size W W') :
    ∀ (ts : List TypeId) (vs : List Value) (ds : List (DataW H)) (ps : List MemPlace), (∀ t ∈ ts, Try.prog.readableRec t = true ∧ t < Try.prog.types.size) →
      DataW.TrodAll enc Try.prog W 0 (fun _ => true) true ts vs ds ps → DataW.TrodAll enc Try.prog W' 0 (fun b => decide (b < W.heap.size)) true ts vs ds ps := by
  intro ts
  induction ts with
  | nil => intro vs ds ps _ h; cases vs <;> cases ds <;> simp_all [DataW.TrodAll]
  | cons t ts ih =>
    intro vs ds ps hr h
    cases vs with
    | nil => cases ds <;> simp_all [DataW.TrodAll]
    | cons v vs =>
      cases ds with
      | nil => simp_all [DataW.TrodAll]
      | cons d ds =>
        obtain ⟨p, q, h1, h2, rfl⟩ := h
        have hlt : ∀ x ∈ p, x.block < W.heap.size := by obtain ⟨m, hm⟩ := h1; exact DataW.trod_lt m _ _ _ hm
        have ht := hr t (List.mem_cons_self ..)
        exact ⟨p, q, Below.trod frame_laidOut ht.1 ht.2 h1 hb hlt, ih vs ds q (fun u hu => hr u (List.mem_cons_of_mem _ hu)) h2, rfl⟩

noncomputable def typesOk (ts : List TypeId) : Bool := ts.all fun t => Try.prog.readableRec t && decide (t < Try.prog.types.size)
theorem types_ok (ts : List TypeId) (h : typesOk ts = true) : ∀ t ∈ ts, Try.prog.readableRec t = true ∧ t < Try.prog.types.size := by
  intro t ht
  have := List.all_eq_true.1 h t ht
  simpa using this

/-- a slice that came in: nil, or it leads into a block that is there -/
theorem slice_in {W : World} {base : Nat} {t e : TypeId} {v : Value} (ht : Try.prog.underlying t = some (.slice e)) (hv : Value.okWide Try.prog W .any base t v) :
    v = .slice none 0 0 ∨ ∃ b o n c, v = .slice (some ⟨b, o, none⟩) n c ∧ n ≤ c ∧ b < W.heap.size := by
  obtain ⟨a, n, c, rfl⟩ := okWide_slice ht hv
  simp only [Value.okWide, ht, Cell.okWide] at hv
  cases a with
  | none =>
    left
    simp only [Cell.ok, ht] at hv
    cases n <;> cases c <;> simp_all
  | some a =>
    right
    simp only [Cell.ok, ht] at hv
    obtain ⟨h1, _, _, h2, row, cells, h3, _⟩ := hv
    obtain ⟨b, o, sp⟩ := a
    simp only at h2 h3
    subst h2
    refine ⟨b, o, n, c, rfl, h1, ?_⟩
    rcases Nat.lt_or_ge b W.heap.size with h | h
    · exact h
    · unfold World.shape? at h3
      rw [Array.getElem?_eq_none h] at h3
      cases h3

/-- bytes that came in -/
theorem bs_in {H : Type} {enc : TypeId × Value → H} {W : World} {base : Nat} {v : Value} {d : DataW H} {p : List MemPlace} (hv : Value.okWide Try.prog W .any base 22 v)
    (h : DataW.Trod enc Try.prog W 0 (fun _ => true) true 22 v d p) : ∃ l, Bs W v l ∧ l.length ≤ maxLen ∧ ∀ k, v.ownBlock = some k → k < W.heap.size := by
  rcases slice_in Try.underlying22 hv with rfl | ⟨b, o, len0, cap0, rfl, _, hblt⟩
  · exact ⟨[], Bs.nil_ W, Nat.zero_le _, fun _ h => by cases h⟩
  obtain ⟨fuel, hf⟩ := h
  rcases open_ints Try.underlying22 Try.underlying5 (by kernel_rfl) hf with ⟨hcs, _⟩ | ⟨x, l, c, zs, hcs, _, hl, hm, hz, _, hcell, hwz⟩
  · simp [Value.cells] at hcs
  · simp [Value.cells] at hcs
    obtain ⟨rfl, rfl, rfl⟩ := hcs
    have hzl : zs.length = cap0 := by simpa using hz
    have hlen : ((zs.take len0).map fun n => UInt8.ofNat n.toNat).length = len0 := by simp; omega
    refine ⟨(zs.take len0).map fun n => UInt8.ofNat n.toNat, ⟨_, cap0, by rw [hlen], by rw [hlen]; exact hl, (fun h => by cases h), fun a ha j hj => ?_⟩, by rw [hlen]; omega, fun k hk => ?_⟩
    · cases ha
      rw [hlen] at hj
      rw [hcell j (by omega)]
      have hw := hwz (zs.getD j 0) (by rw [← List.getElem_eq_getD (h := by omega) 0]; exact List.getElem_mem _)
      have hb : 0 ≤ zs.getD j 0 ∧ zs.getD j 0 ≤ 255 := by simpa [Lit.wf, IntKind.min, IntKind.max, IntKind.signed, IntKind.bits] using hw
      have he : ((zs.take len0).map fun n => UInt8.ofNat n.toNat)[j]'(by rw [hlen]; exact hj) = UInt8.ofNat (zs.getD j 0).toNat := by
        rw [List.getElem_map, List.getElem_take, ← List.getElem_eq_getD (h := by omega) 0]
      rw [he]
      unfold bv
      rw [show ((UInt8.ofNat (zs.getD j 0).toNat).toNat : Int) = zs.getD j 0 by rw [UInt8.toNat_ofNat']; omega]
    · simp [Value.ownBlock] at hk
      omega

theorem wf_i64_bd {n : Int} (h : (Lit.int .i64 n).wf = true) : -9223372036854775808 ≤ n ∧ n ≤ 9223372036854775807 := by
  simpa [Lit.wf, IntKind.min, IntKind.max, IntKind.signed, IntKind.bits] using h
end Go.Proofs.Ytemfmnjhmmlmbaa


namespace Go.Proofs.Ytemfmnjhmmlmbaa
set_option linter.unusedVariables false
set_option linter.unusedSimpArgs false
set_option maxRecDepth 100000
open Go.ChangeShapes Go.WideShapes Go.ChangeAt Go.RowKit

/-- a text's cell -/
def sv (l : List UInt8) : Value := .string ⟨l.toArray⟩
theorem el_str : El 93 9 (.string ⟨#[]⟩) 16 := ⟨Try.underlying93, by kernel_rfl, rfl, by decide, by kernel_rfl, fun _ => by kernel_rfl⟩
end Go.Proofs.Ytemfmnjhmmlmbaa


namespace Go.Proofs.Ytemfmnjhmmlmbaa
set_option linter.unusedVariables false
set_option linter.unusedSimpArgs false
set_option maxRecDepth 100000
open Go.RowKit Go.Maps Go.Sort

/-- block b is a map of at most n texts: those of ks; of each it says g -/
def MapW (w : World) (b n : Nat) (ks : List (List UInt8)) (g : List UInt8 → Int) : Prop :=
  ∃ D : DataW Unit, w.ownsMap Try.prog 9 (plainElem Try.prog 2) b n D ∧ (∀ x, has D (.string x) = decide (x ∈ ks)) ∧ ∀ x, x ∈ ks → D.atKey (.string x) (.lit (.int .i64 0)) = .lit (.int .i64 (g x))
theorem MapW.lt {w : World} {b n : Nat} {ks : List (List UInt8)} {g : List UInt8 → Int} (h : MapW w b n ks g) : b < w.heap.size := by
  obtain ⟨D, h1, _⟩ := h; exact h1.lt
theorem MapW.fr {S : Nat → Prop} {w w' : World} {b n : Nat} {ks : List (List UInt8)} {g : List UInt8 → Int} (h : MapW w b n ks g) (hf : Fr S w w') (hn : ¬ S b) : MapW w' b n ks g := by
  obtain ⟨D, h1, h2, h3⟩ := h
  have hlt := h1.lt
  obtain ⟨es, clock, hb, F, hs, hD⟩ := h1
  exact ⟨D, ⟨es, clock, (hf.block b hlt hn).trans hb, F, hs, hD⟩, h2, h3⟩
theorem MapW.non {w w' : World} {b n : Nat} {ks : List (List UInt8)} {g : List UInt8 → Int} (h : MapW w b n ks g) (hf : Fr Non w w') : MapW w' b n ks g := h.fr hf fun e => e
theorem MapW.congr {w : World} {b n : Nat} {ks ks' : List (List UInt8)} {g g' : List UInt8 → Int} (h : MapW w b n ks g) (hk : ∀ x, x ∈ ks' ↔ x ∈ ks) (hg : ∀ x, x ∈ ks → g' x = g x) : MapW w b n ks' g' := by
  obtain ⟨D, h1, h2, h3⟩ := h
  refine ⟨D, h1, fun x => by rw [h2]; simp only [hk], fun x hx => ?_⟩
  have hx' := (hk x).1 hx
  rw [hg x hx']; exact h3 x hx'
theorem MapW.made (w : World) (g : List UInt8 → Int) : MapW (w.alloc (.map #[] 0)) w.heap.size 0 [] g :=
  ⟨.map [], World.ownsMap_made w _ _ _, fun x => by simp [has], fun x hx => by simp at hx⟩

theorem keyLit (x : List UInt8) : WideAt.IsKeyLit (.string x) := trivial
theorem keyStr {x : List UInt8} (hx : x.length ≤ maxLen) : keyOf Try.prog 9 (.string ⟨x.toArray⟩) = some (.string x) := by
  have := Go.WideMaps.keyOf_string_mk (P := Try.prog) Try.underlying9 (s := ⟨x.toArray⟩) (by simpa [ByteArray.size] using hx)
  simpa using this

theorem MapW.put {w w' : World} {b n : Nat} {ks : List (List UInt8)} {g : List UInt8 → Int} {D : DataW Unit} (h1 : w.ownsMap Try.prog 9 (plainElem Try.prog 2) b n D) (h2 : ∀ x, has D (.string x) = decide (x ∈ ks)) (h3 : ∀ x, x ∈ ks → D.atKey (.string x) (.lit (.int .i64 0)) = .lit (.int .i64 (g x)))
    (y : List UInt8) (v : Int) (h : w'.ownsMap Try.prog 9 (plainElem Try.prog 2) b (n + 1) (D.put (.string y) (.lit (.int .i64 v)))) : MapW w' b (n + 1) (y :: ks) (fun x => if x = y then v else g x) := by
  have hm := h1.isMap
  refine ⟨_, h, fun x => ?_, fun x hx => ?_⟩
  · by_cases he : x = y
    · subst he; rw [has_put_same hm (keyLit x)]; simp
    · rw [has_put_other (by simpa using he), h2]; simp [he]
  · by_cases he : x = y
    · subst he; rw [atKey_put_same hm (keyLit x)]; simp
    · rw [atKey_put_other (by simpa using he)]
      simp only [if_neg he]
      exact h3 x (by simpa [he] using hx)

/-- 'm[y] = v' -/
theorem wpList_putM (w : World) {ops : Array Oper} {rest : List Oper} {o : Oper} {a : Act} {Q : Exit → Act → World → Prop} (hg : o.guard = none) (m x v : Operand) (hop : o.op = Op.mapUpdate 97 m x v)
    (b n : Nat) (ks : List (List UInt8)) (g : List UInt8 → Int) (hm : a.eval m = .map (some b)) (hown : MapW w b n ks g) (hn : n < 1000000000) (y : List UInt8) (z : Int) (hx : a.eval x = .string ⟨y.toArray⟩) (hv : a.eval v = .int .i64 z)
    (hy : y.length ≤ 9223372036854775807) (hz1 : -9223372036854775808 ≤ z) (hz2 : z ≤ 9223372036854775807)
    (hK : ∀ w', MapW w' b (n + 1) (y :: ks) (fun u => if u = y then z else g u) → Fr (One b) w w' → wpList Try.prog ops Q rest (a.put o.dst undef) w') : wpList Try.prog ops Q (o :: rest) a w := by
  obtain ⟨D, h1, h2, h3⟩ := hown
  refine wpList_mapUpdate_own w hg m x v 97 hop 9 2 (string_keyed Try.underlying9) Try.underlying97 _ b n D hm h1 (by unfold maxLen; omega) _ _ (.string y) hx hv (keyStr (by simpa [maxLen] using hy)) (.lit (.int .i64 z)) [] (plainElem_int Try.underlying2 (WalkArith.wf_i64 ⟨hz1, hz2⟩)) ?_
  intro w' hw' hg'
  exact hK w' (MapW.put h1 h2 h3 y z hw') ((Fr.of_grown hg').mono fun k _ e => by simpa [One, eq_comm] using e)

/-- 'm[y]', y being among them -/
theorem MapW.look {w : World} {b n : Nat} {ks : List (List UInt8)} {g : List UInt8 → Int} (h : MapW w b n ks g) {y : List UInt8} (hy : y ∈ ks) (hl : y.length ≤ 9223372036854775807) : (Instr.lookup 97 (.map (some b)) (.string ⟨y.toArray⟩) false).run Try.prog w = .ok (.int .i64 (g y)) w := by
  obtain ⟨D, h1, h2, h3⟩ := h
  obtain ⟨c, hr, hc, _⟩ := h1.lookup_int (string_keyed Try.underlying9) Try.underlying97 Try.underlying2 (Try.zeroValue2 w) (keyStr (by simpa [maxLen] using hl))
  rw [h3 y hy] at hc
  obtain rfl : g y = c := by simpa using hc
  exact hr

theorem MapW.keys {w : World} {b n : Nat} {ks : List (List UInt8)} {g : List UInt8 → Int} {D : DataW Unit} (h1 : w.ownsMap Try.prog 9 (plainElem Try.prog 2) b n D) (h2 : ∀ x, has D (.string x) = decide (x ∈ ks)) {ss : List (List UInt8)} (hp : ss.Perm (strKeys D)) : ss.Nodup ∧ ∀ x, x ∈ ss ↔ x ∈ ks := by
  have ht := h1.tidy (string_keyed Try.underlying9)
  obtain ⟨es, rfl, hpw⟩ := ht
  obtain ⟨es', he, hk⟩ := h1.keysOf
  obtain rfl : es = es' := by simpa using he
  have hks : ∀ p ∈ es, ∃ x, p.1 = .string x := by
    intro p hp'
    obtain ⟨key, hkey⟩ := hk p hp'
    obtain ⟨x, _, hx, _⟩ := Maps.keyOf_str Try.underlying9 hkey
    exact ⟨x, hx⟩
  have hnd : (strKeys (.map es : DataW Unit)).Nodup := by
    show (es.map fun p => strOf p.1).Nodup
    refine List.pairwise_map.2 (hpw.imp_of_mem fun {p q} hp' hq' hne e => hne ?_)
    obtain ⟨a, ha⟩ := hks p hp'
    obtain ⟨b, hb⟩ := hks q hq'
    rw [ha, hb] at e ⊢
    exact congrArg _ e
  refine ⟨hp.nodup_iff.2 hnd, fun x => ?_⟩
  rw [hp.mem_iff]
  have h3 := h2 x
  rw [has_eq] at h3
  have h4 : es.any (fun p => p.1.sameKey (.string x)) = true ↔ x ∈ ks := by rw [h3]; simp
  rw [← h4, List.any_eq_true]
  show x ∈ es.map (fun p => strOf p.1) ↔ _
  rw [List.mem_map]
  constructor
  · rintro ⟨p, hp', rfl⟩
    obtain ⟨y, hy⟩ := hks p hp'
    exact ⟨p, hp', by rw [hy]; exact WideAt.sameKey_self (keyLit y)⟩
  · rintro ⟨p, hp', h5⟩
    exact ⟨p, hp', by rw [WideAt.sameKey_eq h5]; rfl⟩
end Go.Proofs.Ytemfmnjhmmlmbaa


namespace Go.Proofs.Ytemfmnjhmmlmbaa
set_option linter.unusedVariables false
set_option linter.unusedSimpArgs false
set_option maxRecDepth 100000
open Go.RowKit

theorem equal_any (v1 v2 : Value) (l1 l2 : List UInt8) (w : World) (h1 : Bs w v1 l1) (h2 : Bs w v2 l2) :
    Calls Try.prog 62 #[v1, v2] w fun e w' => e = .returned (.bool (l1 == l2)) ∧ w = w' := by
  have c1 := run_conv_Bs h1 22 9 5 Try.underlying22 Try.underlying5 Try.underlying9
  have c2 := run_conv_Bs h2 22 9 5 Try.underlying22 Try.underlying5 Try.underlying9
  clear h1 h2
  go_enter Try.func62, Try.ntmps62
  go_wp2
  go_ret
  exact ⟨rfl, rfl⟩

set_option maxHeartbeats 400000 in
theorem grow0_any (n : Nat) (w : World) (hn : n < 140737488355328) :
    Calls Try.prog 39 #[.slice none 0 0, .int .i64 n] w fun e w' => ∃ v, e = .returned v ∧ Own w' w.heap.size v [] ∧ Fr Non w w' := by
  by_cases h0 : n = 0
  · subst h0
    go_enter Try.func39, Try.ntmps39
    go_wp2
    go_ret
    exact ⟨_, rfl, own_nil _ _, Fr.refl _ _⟩
  · obtain ⟨i, hi, hz0, hz1, hz2⟩ := info_parts info_u8
    have hpos : (0 : Int) < n := by omega
    have hr := fun ty => Lib.run_append_nil_zeros (P := Try.prog) w 22 3 ty 5 i (.int .u8 0) .i64 .i64 Try.underlying22 Try.underlying3 hi hz0 n (by omega) (by rw [hz1]; omega) (by omega) (by rw [hz2]; omega)
    have hG := grownCap_ge w n 0 5
    have hM := grownCap_le_maxLen w n 0 5 (by unfold maxLen; omega)
    have hf : Fr Non w (w.drew.alloc (.cells (Builtin.zeroCells #[Value.int .u8 0] n ++ Builtin.zeroCells #[Value.int .u8 0] (grownCap w n 0 5 - n)) 5)) := ((Fr.refl _ w).drew).alloc _
    have hown : Own (w.drew.alloc (.cells (Builtin.zeroCells #[Value.int .u8 0] n ++ Builtin.zeroCells #[Value.int .u8 0] (grownCap w n 0 5 - n)) 5)) w.heap.size (.slice (some ⟨w.heap.size, 0, none⟩) 0 (grownCap w n 0 5)) [] :=
      World.ownsRow_made w.drew _ _ (Nat.le_refl _) hM (by simp only [Array.size_append, size_zeroCells, List.size_toArray, List.length_cons, List.length_nil]; omega)
    generalize grownCap w n 0 5 = G at *
    have HO := Lib.hid hown
    have HF := Lib.hid hf
    have HR := Lib.hid hr
    have hM' : G ≤ 9223372036854775807 := hM
    clear hown hf hr
    go_enter Try.func39, Try.ntmps39
    go_wp2_with (at_builtin; refine Lib.wpList_append_run _ rfl _ _ _ _ rfl _ _ rfl rfl _ _ (HR.out _) ?_)
    go_ret
    exact ⟨_, rfl, HO.out, HF.out⟩

set_option maxHeartbeats 1000000 in
theorem concat_any (g n c : Nat) (xs : List Value) (ls : List (List UInt8)) (w : World) (hn : ls.length = n) (hn2 : n < 1000) (hp : Parts w g xs ls) (hb : ls.flatten.length < 1099511627776) :
    Calls Try.prog 17 #[.slice (some ⟨g, 0, none⟩) n c] w fun e w' => ∃ v, e = .returned v ∧ Own w' w.heap.size v ls.flatten ∧ Fr Non w w' := by
  have Hb := Lib.hid hb; clear hb
  go_enter Try.func17, Try.ntmps17
  go_wp2
  go_loop [3, 11] (fun s i => ∃ k : Nat, k ≤ n ∧ i = .int .i64 k ∧ s = .int .i64 (ls.take k).flatten.length) (fun _ i => n - (intOf i).toNat)
  case atStart => exact ⟨0, Nat.zero_le _, rfl, rfl⟩
  case round =>
    obtain ⟨k, hk, rfl, rfl⟩ := hrel
    have hle := flat_le ls k
    have hb1 : (ls.take k).flatten.length < 1099511627776 := by have := Hb.out; omega
    by_cases hlt : k < n
    · have hkl : k < ls.length := by omega
      have hkx : k < xs.length := by rw [hp.1]; omega
      obtain ⟨hcell, hbs⟩ := hp.2 k xs[k] ls[k] (by simp [hkx]) (by simp [hkl])
      have hsn := flat_snoc ls k hkl
      have hle2 := flat_le ls (k + 1)
      have hb2 : (ls.take k).flatten.length + ls[k].length < 1099511627776 := by rw [hsn, List.length_append] at hle2; have := Hb.out; omega
      have HS := Lib.hid hsn
      clear hsn hle hle2
      generalize ls[k] = l at *
      generalize hx : xs[k] = x at *
      clear hx
      obtain ⟨A, d, rfl⟩ := hbs.shape
      generalize (ls.take k).flatten = F at *
      have hge : ¬ ((F.length : Int) + l.length < 0) := by omega
      clear hbs
      go_wp2
      go_round
      case rel => exact ⟨k + 1, by omega, by go_num, by rw [HS.out, List.length_append]; go_num⟩
      case measure => simp [intOf]; omega
    · have hkn : k = n := by omega
      have hT : ls.take k = ls := List.take_of_length_le (by omega)
      rw [hT] at hb1 ⊢
      have HL := Lib.hid hn
      clear hle hT hkn hn
      generalize hF : ls.flatten.length = F at *
      have HF := Lib.hid hF; clear hF
      go_wp2_with fail
      refine (grow0_any F w (by omega)).mono ?_
      rintro e w1 ⟨v1, rfl, hown1, hfr1⟩
      have hp1 := hp.non hfr1
      go_wp2_with fail
      go_loopw [6, 27] (fun v i wr => ∃ k : Nat, k ≤ n ∧ i = .int .i64 k ∧ Own wr w.heap.size v (ls.take k).flatten ∧ Fr Non w wr) (fun _ i _ => n - (intOf i).toNat)
      case atStart => exact ⟨0, Nat.zero_le _, rfl, hown1, hfr1⟩
      case round =>
        obtain ⟨j, hj, rfl, hown, hfr⟩ := hrel
        have hB := hfr.size
        have hle := flat_le ls j
        by_cases hlt : j < n
        · have hkl : j < ls.length := by rw [HL.out]; exact hlt
          have hkx : j < xs.length := by rw [hp.1]; exact hkl
          obtain ⟨hcell, hbs⟩ := (hp.non hfr).2 j xs[j] ls[j] (by simp [hkx]) (by simp [hkl])
          have hsn := flat_snoc ls j hkl
          have hle2 := flat_le ls (j + 1)
          have hb2 : (ls.take j).flatten.length + ls[j].length < 140737488355328 := by rw [hsn, List.length_append] at hle2; have := HF.out; omega
          have HS := Lib.hid hsn
          clear hsn hle hle2 hp1 hp
          generalize ls[j] = l at *
          generalize hx : xs[j] = x at *
          clear hx
          generalize (ls.take j).flatten = G at *
          go_wp2_with (at_builtin; refine wpList_app rfl (.tmp 31) (.tmp 32) rfl w.heap.size u6 x G l rfl hown rfl hbs hb2 hB ?_; intro v' w' hown' hfr')
          go_roundw
          case rel => exact ⟨j + 1, by omega, by go_num, by rw [HS.out]; exact hown', hfr.fresh hfr' fun k hk => (hown.lt k hk).1⟩
          case measure => simp [intOf]; omega
        · have hT : ls.take j = ls := List.take_of_length_le (by rw [HL.out]; omega)
          rw [hT] at hown
          clear hT hle hp1 hp
          go_wp2
          go_ret
          exact ⟨_, rfl, hown, hfr⟩

theorem Parts.three {w : World} {t : TypeId} {x y z : Value} {l m n : List UInt8} (hx : Bs w x l) (hy : Bs w y m) (hz : Bs w z n) : Parts (w.alloc (.cells #[x, y, z] t)) w.heap.size [x, y, z] [l, m, n] := by
  refine ⟨rfl, fun j u k hu hk => ?_⟩
  have hb := Blk.new w t #[x, y, z]
  have hf : Fr Non w (w.alloc (.cells #[x, y, z] t)) := (Fr.refl _ _).alloc _
  match j with
  | 0 =>
    obtain rfl : x = u := by simpa using hu
    obtain rfl : l = k := by simpa using hk
    exact ⟨hb.cell 0, hx.non hf⟩
  | 1 =>
    obtain rfl : y = u := by simpa using hu
    obtain rfl : m = k := by simpa using hk
    exact ⟨hb.cell 1, hy.non hf⟩
  | 2 =>
    obtain rfl : z = u := by simpa using hu
    obtain rfl : n = k := by simpa using hk
    exact ⟨hb.cell 2, hz.non hf⟩
  | j + 3 => simp at hu
end Go.Proofs.Ytemfmnjhmmlmbaa


namespace Go.Proofs.Ytemfmnjhmmlmbaa
set_option linter.unusedVariables false
set_option linter.unusedSimpArgs false
set_option maxRecDepth 100000
open Go.RowKit

set_option maxHeartbeats 1000000 in
theorem plain_any (v : Value) (l : List Tx) (w : World) (hv : Vs sv w v l) (hl : l.length ≤ 1000000) (hx : ∀ x ∈ l, x.length < 1048576) (hb : (plainB l).length < 137438953472) :
    Calls Try.prog 35 #[v] w fun e w' => ∃ u, e = .returned u ∧ Own w' w.heap.size u (plainB l) ∧ Fr Non w w' := by
  have HX := Lib.hid hx
  have HB := Lib.hid hb
  clear hx hb
  obtain ⟨A, c, rfl, hlc, hn, hcell⟩ := hv
  have HN := Lib.hid hn
  have HC := Lib.hid hcell
  clear hn hcell
  go_enter Try.func35, Try.ntmps35
  go_wp2
  go_loopw [3, 8] (fun b i wr => ∃ k : Nat, k ≤ l.length ∧ i = .int .i64 k ∧ Own wr w.heap.size b (plainB (l.take k)) ∧ Fr Non w wr) (fun _ i _ => l.length - (intOf i).toNat)
  case atStart => exact ⟨0, Nat.zero_le _, rfl, own_nil _ _, Fr.refl _ _⟩
  case round =>
    obtain ⟨k, hk, rfl, hown, hfr⟩ := hrel
    by_cases hlt : k < l.length
    · cases A with
      | none => have := HN.out rfl; omega
      | some a =>
        have g0 : w.cell? (a.add k) = some (sv l[k]) := HC.out a rfl k hlt
        have g1 : wr.cell? (a.add k) = some (sv l[k]) := (hfr.cell (World.block_lt_of_cell? w _ g0) (fun e => e)).trans g0
        unfold sv at g1
        have hx1 := HX.out l[k] (by simp)
        have hle := plainB_le l (k + 1)
        have HS := Lib.hid (plainB_take l k hlt)
        have hle2 : (plainB (l.take k)).length + (textB l[k]).length < 140737488355328 := by
          rw [HS.out, List.length_append] at hle
          have := HB.out
          omega
        have hB := hfr.size
        clear g0 hle
        generalize l[k] = x at *
        generalize plainB (l.take k) = F at *
        go_wp2_with fail
        refine (vtext_any x wr hx1).mono ?_
        rintro e w1 ⟨v1, rfl, hown1, hf1⟩
        have hown' := hown.non hf1
        go_wp2_with (at_builtin; refine wpList_app rfl (.tmp 12) (.tmp 14) rfl w.heap.size u3 v1 F (textB x) rfl hown' rfl hown1.bs hle2 (Nat.le_trans hB hf1.size) ?_; intro v' w' hown2 hfr2)
        go_roundw
        case rel => exact ⟨k + 1, by omega, by go_num, by rw [HS.out]; exact hown2, (hfr.trans hf1).fresh hfr2 fun q hq => (hown.lt q hq).1⟩
        case measure => simp [intOf]; omega
    · have hT : l.take k = l := List.take_of_length_le (by omega)
      rw [hT] at hown
      clear hT
      go_wp2
      go_ret
      exact ⟨_, rfl, hown, hfr⟩

end Go.Proofs.Ytemfmnjhmmlmbaa


namespace Go.Proofs.Ytemfmnjhmmlmbaa
set_option linter.unusedVariables false
set_option linter.unusedSimpArgs false
set_option maxRecDepth 100000
open Go.RowKit

theorem tsize_any (n k : Nat) (w : World) (hn : n ≤ 1000000) (hk : k ≤ 1000) :
    Calls Try.prog 58 #[.int .i64 n, .int .i64 k] w fun e w' => e = .returned (.int .i64 (need (n * k) : Nat)) ∧ w = w' := by
  have hm : n * k ≤ 1000000000 := by have := Nat.mul_le_mul hn hk; omega
  have hc : (n : Int) * k = ((n * k : Nat) : Int) := by push_cast; rfl
  have HN := Lib.hid (show need (n * k) = (n * k + 7) / 8 by rfl)
  generalize n * k = q at *
  have h1 : IntKind.i64.wrap ((n : Int) * k) = (q : Int) := by rw [hc]; exact IntWalk.i64_in _ ⟨by omega, by omega⟩
  go_enter Try.func58, Try.ntmps58
  go_wp2
  go_ret
  exact ⟨ret_int (by rw [HN.out]; omega), rfl⟩

set_option maxHeartbeats 1000000 in
theorem tmin_any (v : Value) (l : List Int) (w : World) (hv : Vs iv w v l) (h0 : 0 < l.length) (hl : l.length ≤ 9223372036854775807) :
    Calls Try.prog 55 #[v] w fun e w' => e = .returned (.int .i64 (leastOf l)) ∧ w = w' := by
  obtain ⟨A, c, rfl, hlc, hn, hcell⟩ := hv
  cases A with
  | none => have := hn rfl; omega
  | some a =>
    have HC := Lib.hid (hcell a rfl)
    have g0 : w.cell? a = some (.int .i64 l[0]) := by
      have := hcell a rfl 0 h0
      simpa [Addr.add, iv] using this
    have H1 := Lib.hid (loT_one l h0)
    have HS := Lib.hid (loT_succ l)
    have HA := Lib.hid (loT_all (l := l) (Nat.le_refl _))
    clear hcell hn
    go_enter Try.func55, Try.ntmps55
    go_wp2
    go_loopw [3, 4] (fun m i wr => ∃ k : Nat, 1 ≤ k ∧ k ≤ l.length ∧ i = .int .i64 k ∧ m = .int .i64 (loT l k) ∧ wr = w) (fun _ i _ => l.length - (intOf i).toNat)
    case atStart => exact ⟨1, Nat.le_refl _, h0, rfl, by rw [H1.out], rfl⟩
    case round =>
      obtain ⟨k, hk1, hk, rfl, rfl, rfl⟩ := hrel
      by_cases hlt : k < l.length
      · have g1 : wr.cell? (a.add k) = some (iv l[k]) := HC.out k hlt
        have hs := Lib.hid (HS.out k hlt)
        unfold iv at g1
        clear g0 H1
        generalize l[k] = x at *
        go_wp2
        go_roundw
        case rel => exact ⟨k + 1, by omega, by omega, by go_num, by rw [hs.out], trivial⟩
        case measure => simp [intOf]; omega
      · obtain rfl : k = l.length := by omega
        go_wp2
        go_ret
        exact ⟨ret_int HA.out, rfl⟩

set_option maxHeartbeats 1000000 in
theorem tmax_any (v : Value) (l : List Int) (w : World) (hv : Vs iv w v l) (h0 : 0 < l.length) (hl : l.length ≤ 9223372036854775807) :
    Calls Try.prog 57 #[v] w fun e w' => e = .returned (.int .i64 (greatOf l)) ∧ w = w' := by
  obtain ⟨A, c, rfl, hlc, hn, hcell⟩ := hv
  cases A with
  | none => have := hn rfl; omega
  | some a =>
    have HC := Lib.hid (hcell a rfl)
    have g0 : w.cell? a = some (.int .i64 l[0]) := by
      have := hcell a rfl 0 h0
      simpa [Addr.add, iv] using this
    have H1 := Lib.hid (hiT_one l h0)
    have HS := Lib.hid (hiT_succ l)
    have HA := Lib.hid (hiT_all (l := l) (Nat.le_refl _))
    clear hcell hn
    go_enter Try.func57, Try.ntmps57
    go_wp2
    go_loopw [3, 4] (fun m i wr => ∃ k : Nat, 1 ≤ k ∧ k ≤ l.length ∧ i = .int .i64 k ∧ m = .int .i64 (hiT l k) ∧ wr = w) (fun _ i _ => l.length - (intOf i).toNat)
    case atStart => exact ⟨1, Nat.le_refl _, h0, rfl, by rw [H1.out], rfl⟩
    case round =>
      obtain ⟨k, hk1, hk, rfl, rfl, rfl⟩ := hrel
      by_cases hlt : k < l.length
      · have g1 : wr.cell? (a.add k) = some (iv l[k]) := HC.out k hlt
        have hs := Lib.hid (HS.out k hlt)
        unfold iv at g1
        clear g0 H1
        generalize l[k] = x at *
        go_wp2
        go_roundw
        case rel => exact ⟨k + 1, by omega, by omega, by go_num, by rw [hs.out], trivial⟩
        case measure => simp [intOf]; omega
      · obtain rfl : k = l.length := by omega
        go_wp2
        go_ret
        exact ⟨ret_int HA.out, rfl⟩

end Go.Proofs.Ytemfmnjhmmlmbaa


namespace Go.Proofs.Ytemfmnjhmmlmbaa
set_option linter.unusedVariables false
set_option linter.unusedSimpArgs false
set_option maxRecDepth 100000
open Go.RowKit

/-- two blocks -/
def Two (g r : Nat) : Nat → Prop := fun q => q = g ∨ q = r

theorem bit_lt8 (q t : Nat) (ht : t < 8) (hq : q < 2 ^ t) (b : Bool) : q + b.toNat * 2 ^ t < 256 := by
  have := pow8 ht
  cases b <;> simp <;> omega
theorem or_bit (x j q t : Nat) (hx : x < 18446744073709551616) (ht : t < 8) (hq : q < 2 ^ t) :
    bits BinOp.or IntKind.u8 (q : Int) (bits BinOp.and IntKind.u64 ((x : Int) / 2 ^ j) 1 % 256 * 2 ^ t % 256) = ((q + (x.testBit j).toNat * 2 ^ t : Nat) : Int) := by
  have hd : (x : Int) / 2 ^ j = ((x / 2 ^ j : Nat) : Int) := by push_cast; rfl
  have hl : x / 2 ^ j < 18446744073709551616 := Nat.lt_of_le_of_lt (Nat.div_le_self _ _) hx
  have hb : (x.testBit j).toNat = x / 2 ^ j % 2 := Nat.toNat_testBit x j
  rw [hb, hd]
  generalize x / 2 ^ j = y at *
  rw [Lib.u64_and1 _ (by omega) (by omega)]
  have h2 : (y : Int) % 2 = ((y % 2 : Nat) : Int) := by push_cast; rfl
  have h3 : y % 2 < 2 := Nat.mod_lt _ (by decide)
  rw [h2]
  generalize y % 2 = b at *
  have all : ∀ b : Fin 2, ∀ t : Fin 8, ∀ q : Fin 128, q.1 < 2 ^ t.1 → bits .or .u8 (q.1 : Int) ((b.1 : Int) % 256 * 2 ^ t.1 % 256) = ((q.1 + b.1 * 2 ^ t.1 : Nat) : Int) := by decide +kernel
  have := pow8 ht
  exact all ⟨b, h3⟩ ⟨t, ht⟩ ⟨q, by omega⟩ hq

set_option maxHeartbeats 4000000 in
theorem sput_any (g r B N : Nat) (L : List Bool) (p k x : Nat) (lo wd : Value) (w : World)
    (hB : Blk w g 87 #[.slice (some ⟨r, 0, none⟩) N N, .int .i64 p, lo, wd])
    (hown : Ow bv 5 w B (.slice (some ⟨r, 0, none⟩) N N) (pk L p)) (hN : N = need L.length) (hgr : g ≠ r) (hL : L.length ≤ 100000000)
    (hx : x < 18446744073709551616) (hk : p + k ≤ L.length) (hbits : ∀ i, i < k → L[p + i]? = some (x.testBit i)) (hk64 : k ≤ 64) :
    Calls Try.prog 74 #[ptr g, .int .u64 x, .int .i64 k] w fun e w' => e = .returned (.tuple #[]) ∧
      Blk w' g 87 #[.slice (some ⟨r, 0, none⟩) N N, .int .i64 (p + k : Nat), lo, wd] ∧ Ow bv 5 w' B (.slice (some ⟨r, 0, none⟩) N N) (pk L (p + k)) ∧ Fr (Two g r) w w' := by
  have HN := Lib.hid hN
  have HB := Lib.hid hbits
  have hnl : L.length ≤ 8 * N := by rw [hN]; unfold need; omega
  clear hN hbits
  go_enter Try.func74, Try.ntmps74
  go_wp2
  go_loopw [8] (fun i wr => ∃ j : Nat, j ≤ k ∧ i = .int .i64 j ∧ Blk wr g 87 #[.slice (some ⟨r, 0, none⟩) N N, .int .i64 (p + j : Nat), lo, wd] ∧ Ow bv 5 wr B (.slice (some ⟨r, 0, none⟩) N N) (pk L (p + j)) ∧ Fr (Two g r) w wr) (fun i _ => k - (intOf i).toNat)
  case atStart => exact ⟨0, Nat.zero_le _, rfl, hB, hown, Fr.refl _ _⟩
  case round =>
    obtain ⟨j, hj, rfl, hB, hown, hfr⟩ := hrel
    by_cases hlt : j < k
    · have hpl : p + j < L.length := by omega
      have c0 : wr.cell? ⟨g, 0, none⟩ = some (.slice (some ⟨r, 0, none⟩) N N) := hB.cell 0
      have c1 : wr.cell? ⟨g, 1, none⟩ = some (.int .i64 (p + j : Nat)) := hB.cell 1
      have f1 := hB.frozen 1
      have hq := hown.cell (by rw [pk_length, HN.out]) ((p + j) / 8) _ (pk_at L hpl)
      have hfz := hown.frozen (by rw [pk_length, HN.out]) ((p + j) / 8)
      have hidx : (p + j) / 8 < N := by omega
      have hql := pkn_lt L hpl
      have HS := Lib.hid (show pk L (p + j + 1) = (pk L (p + j)).set ((p + j) / 8) (pkn L (p + j) ((p + j) / 8) + (x.testBit j).toNat * 2 ^ ((p + j) % 8)).toUInt8 by
        rw [pk_step L hpl]
        have h1 := HB.out j hlt
        rw [List.getElem?_eq_getElem hpl] at h1
        rw [show L[p + j] = x.testBit j by simpa using h1])
      unfold bv at hq
      rw [small8 (pkn_lt8 _ _ _)] at hq
      have HBk := Lib.hid hB
      have HO := Lib.hid hown
      have HF := Lib.hid hfr
      clear hB hown hfr
      generalize hQ : pkn L (p + j) ((p + j) / 8) = q at *
      have HQ := Lib.hid hQ
      clear hQ
      generalize hP : p + j = P at *
      have HP := Lib.hid hP
      clear hP
      go_wp2
      go_region
      have e1 : bits BinOp.or IntKind.u8 (q : Int) (bits BinOp.and IntKind.u64 ((x : Int) / 2 ^ j) 1 % 256 * 2 ^ (P % 8) % 256) = ((q + (x.testBit j).toNat * 2 ^ (P % 8) : Nat) : Int) := or_bit x j q (P % 8) (by omega) (by omega) hql
      have hs := (HO.out.store (by rw [pk_length, HN.out]) (P / 8) (q + (x.testBit j).toNat * 2 ^ (P % 8)).toUInt8).drew
      unfold bv at hs
      rw [small8 (bit_lt8 q (P % 8) (by omega) hql _), ← e1, ← HS.out] at hs
      have hfs : Fr (One r) wr (wr.setCell ⟨r, P / 8, none⟩ (.int .u8 (bits BinOp.or IntKind.u8 (q : Int) (bits BinOp.and IntKind.u64 ((x : Int) / 2 ^ j) 1 % 256 * 2 ^ (P % 8) % 256)))).drew := ((Fr.refl _ _).set1 _ _).drew
      have hB2 := HBk.out.fr hfs (fun e => hgr e)
      generalize (wr.setCell ⟨r, P / 8, none⟩ (.int .u8 (bits BinOp.or IntKind.u8 (q : Int) (bits BinOp.and IntKind.u64 ((x : Int) / 2 ^ j) 1 % 256 * 2 ^ (P % 8) % 256)))).drew = W at *
      have c1' : W.cell? ⟨g, 1, none⟩ = some (.int .i64 (P : Nat)) := hB2.cell 1
      have f1' := hB2.frozen 1
      have HB2 := Lib.hid hB2
      have HS2 := Lib.hid hs
      have HF2 := Lib.hid ((HF.out.mono (fun q _ h => h)).trans (hfs.mono (fun q _ h => .inr h)))
      clear hs hfs hB2 e1 c0 c1 f1 hq hfz
      go_wp2
      go_roundw
      case rel =>
        refine ⟨j + 1, by omega, by go_num, ?_, ?_, HF2.out.setCell (fun _ => .inl rfl) _⟩
        · have := HB2.out.set 1 (.int .i64 ((P : Int) + 1))
          rw [show p + (j + 1) = P + 1 by rw [← HP.out]; omega]
          exact this
        · have := HS2.out.fr ((Fr.refl (One g) W).set1 1 (.int .i64 ((P : Int) + 1))) (fun q hq e => hgr (by simp [Value.ownBlock] at hq; rw [hq]; exact e.symm))
          rw [show p + (j + 1) = P + 1 by rw [← HP.out]; omega]
          exact this
      case measure => simp [intOf]; omega
    · obtain rfl : j = k := by omega
      go_wp2
      go_end0
      exact ⟨rfl, hB, hown, hfr⟩

theorem u64_diff {x lo : Int} (hx : I64 x) (hlo : I64 lo) (h : lo ≤ x) : IntKind.u64.wrap (IntKind.u64.wrap x - IntKind.u64.wrap lo) = (((x - lo).toNat : Nat) : Int) := by
  unfold I64 at hx hlo
  simp only [IntKind.wrap_u64]
  omega

set_option maxHeartbeats 4000000 in
theorem sadd_any (g r B N : Nat) (L : List Bool) (p k : Nat) (x lo : Int) (w : World)
    (hB : Blk w g 87 #[.slice (some ⟨r, 0, none⟩) N N, .int .i64 p, .int .i64 lo, .int .i64 k])
    (hown : Ow bv 5 w B (.slice (some ⟨r, 0, none⟩) N N) (pk L p)) (hN : N = need L.length) (hgr : g ≠ r) (hL : L.length ≤ 100000000)
    (hx : I64 x) (hlo : I64 lo) (hle : lo ≤ x) (hk : p + k ≤ L.length) (hbits : ∀ i, i < k → L[p + i]? = some ((x - lo).toNat.testBit i)) (hk64 : k ≤ 64) :
    Calls Try.prog 59 #[ptr g, .int .i64 x] w fun e w' => e = .returned (.tuple #[]) ∧
      Blk w' g 87 #[.slice (some ⟨r, 0, none⟩) N N, .int .i64 (p + k : Nat), .int .i64 lo, .int .i64 k] ∧ Ow bv 5 w' B (.slice (some ⟨r, 0, none⟩) N N) (pk L (p + k)) ∧ Fr (Two g r) w w' := by
  have hu : (x - lo).toNat < 18446744073709551616 := by unfold I64 at hx hlo; omega
  have hsp := sput_any g r B N L p k (x - lo).toNat (.int .i64 lo) (.int .i64 k) w.drew hB.drew hown.drew hN hgr hL hu hk hbits hk64
  have e1 := u64_diff hx hlo hle
  have c2 : w.drew.cell? ⟨g, 2, none⟩ = some (.int .i64 lo) := hB.cell 2
  have c3 : w.drew.cell? ⟨g, 3, none⟩ = some (.int .i64 (k : Nat)) := hB.cell 3
  have HP := Lib.hid hsp
  clear hsp hbits hB hown hx hlo hle hN hL
  generalize (x - lo).toNat = u at *
  go_enter Try.func59, Try.ntmps59
  go_wp2
  go_region_held3 (fun W => W.cell? ⟨g, 2, none⟩ = some (.int .i64 lo) ∧ W.cell? ⟨g, 3, none⟩ = some (.int .i64 (k : Nat))) (first | exact ⟨c2, c3⟩ | exact ⟨d2, d3⟩) (first | (go_at_call 74; refine HP.out.mono ?_; rintro e w2 ⟨rfl, hB2, hown2, hf2⟩; have d2 : w2.cell? ⟨g, 2, none⟩ = some (.int .i64 lo) := hB2.cell 2; have d3 : w2.cell? ⟨g, 3, none⟩ = some (.int .i64 (k : Nat)) := hB2.cell 3))
  go_wp2
  go_end0
  exact ⟨rfl, hB2, hown2, ((Fr.refl _ _).drew).trans hf2⟩

theorem or_low64 (a b i : Nat) (ha : a < 2 ^ i) (hb : b < 2) (hi : i < 64) : a ||| (b * 2 ^ i) = a + b * 2 ^ i := by
  rw [Nat.add_comm, Nat.mul_comm b, Nat.or_comm]
  exact (Nat.two_pow_add_eq_or_of_lt ha b).symm
theorem and_one8 (q : Nat) (h : q < 256) : bits .and .u8 (q : Int) 1 = ((q % 2 : Nat) : Int) := by
  have all : ∀ q : Fin 256, bits .and .u8 (q.1 : Int) 1 = ((q.1 % 2 : Nat) : Int) := by decide +kernel
  exact all ⟨q, h⟩
theorem bit_cell (held : List UInt8) (p : Nat) (c : UInt8) (hc : held[p / 8]? = some c) : bits .and .u8 ((c.toNat : Int) / 2 ^ (p % 8)) 1 = (((bitOf held p).toNat : Nat) : Int) := by
  have hd : (c.toNat : Int) / 2 ^ (p % 8) = ((c.toNat / 2 ^ (p % 8) : Nat) : Int) := by push_cast; rfl
  rw [hd, and_one8 _ (Nat.lt_of_le_of_lt (Nat.div_le_self _ _) c.toNat_lt), ← Nat.toNat_testBit]
  unfold bitOf
  rw [List.getD_eq_getElem?_getD, hc]
  rfl
theorem num_mod (X b i : Nat) (hX : X < 2 ^ i) (hb : b < 2) :
    bits .or .u64 ((X % 18446744073709551616 : Nat) : Int) (IntKind.u64.wrap (IntKind.u64.wrap (b : Int) * 2 ^ min i 64)) = (((X + b * 2 ^ i) % 18446744073709551616 : Nat) : Int) := by
  rw [IntWalk.u64_in (b : Int) ⟨by omega, by omega⟩]
  have hc : (b : Int) * 2 ^ min i 64 = ((b * 2 ^ min i 64 : Nat) : Int) := by push_cast; rfl
  have hm : ∀ y : Nat, IntKind.u64.wrap (y : Int) = ((y % 18446744073709551616 : Nat) : Int) := by intro y; rw [IntKind.wrap_u64]; omega
  rw [hc, hm]
  rw [bits_or_u64_nat _ _ (Nat.mod_lt _ (by decide)) (Nat.mod_lt _ (by decide))]
  congr 1
  by_cases h : i < 64
  · rw [show min i 64 = i by omega]
    have h1 : 2 ^ i ≤ 2 ^ 63 := Nat.pow_le_pow_right (by decide) (by omega)
    have h2 : b * 2 ^ i ≤ 2 ^ i := by
      have := Nat.mul_le_mul_right (2 ^ i) (show b ≤ 1 by omega)
      omega
    have e := or_low64 X b i hX hb h
    generalize 2 ^ i = Y at *
    rw [Nat.mod_eq_of_lt (show X < 18446744073709551616 by omega), Nat.mod_eq_of_lt (show b * Y < 18446744073709551616 by omega), e, Nat.mod_eq_of_lt (by omega)]
  · obtain ⟨q, rfl⟩ : ∃ q, i = 64 + q := ⟨i - 64, by omega⟩
    rw [show min (64 + q) 64 = 64 by omega, Nat.pow_add, show (2 : Nat) ^ 64 = 18446744073709551616 by decide, Nat.mul_mod_left, Nat.or_zero, Nat.mul_comm 18446744073709551616, ← Nat.mul_assoc, Nat.add_mul_mod_self_right]
theorem num_step (held : List UInt8) (p i : Nat) (c : UInt8) (hc : held[(p + i) / 8]? = some c) :
    bits .or .u64 ((numT held p i % 18446744073709551616 : Nat) : Int) (IntKind.u64.wrap (IntKind.u64.wrap (bits .and .u8 ((c.toNat : Int) / 2 ^ ((p + i) % 8)) 1) * 2 ^ min i 64)) = ((numT held p (i + 1) % 18446744073709551616 : Nat) : Int) := by
  rw [bit_cell held (p + i) c hc, num_mod _ _ _ (numT_lt held p i) (by cases bitOf held (p + i) <;> decide), numT_succ]

set_option maxHeartbeats 4000000 in
theorem sget_any (g p k : Nat) (v : Value) (held : List UInt8) (lo wd : Value) (w : World)
    (hB : Blk w g 87 #[v, .int .i64 p, lo, wd]) (hv : Vs bv w v held) (hvg : 0 < held.length → ∀ q, v.ownBlock = some q → q ≠ g)
    (hk : p + k ≤ 8 * held.length) (hl : held.length ≤ 100000000) (hk8 : k ≤ 255) :
    Calls Try.prog 75 #[ptr g, .int .i64 k] w fun e w' => e = .returned (.int .u64 (numT held p k % 18446744073709551616 : Nat)) ∧
      Blk w' g 87 #[v, .int .i64 (p + k : Nat), lo, wd] ∧ Fr (One g) w w' := by
  obtain ⟨A, c, rfl, hlc, hn, hcell⟩ := hv
  have HC := Lib.hid hcell
  have HN := Lib.hid hn
  have HG := Lib.hid hvg
  have HV := Lib.hid (show Vs bv w (.slice A held.length c) held from ⟨A, c, rfl, hlc, hn, hcell⟩)
  clear hcell hn hvg
  go_enter Try.func75, Try.ntmps75
  go_wp2
  go_loopw [5, 8] (fun x i wr => ∃ j : Nat, j ≤ k ∧ i = .int .i64 j ∧ x = .int .u64 (numT held p j % 18446744073709551616 : Nat) ∧ Blk wr g 87 #[.slice A held.length c, .int .i64 (p + j : Nat), lo, wd] ∧ Fr (One g) w wr) (fun _ i _ => k - (intOf i).toNat)
  case atStart => exact ⟨0, Nat.zero_le _, rfl, rfl, hB, Fr.refl _ _⟩
  case round =>
    obtain ⟨j, hj, rfl, rfl, hB, hfr⟩ := hrel
    by_cases hlt : j < k
    · have hpl : (p + j) / 8 < held.length := by omega
      cases A with
      | none => have := HN.out rfl; omega
      | some a =>
        have c0 : wr.cell? ⟨g, 0, none⟩ = some (.slice (some a) held.length c) := hB.cell 0
        have c1 : wr.cell? ⟨g, 1, none⟩ = some (.int .i64 (p + j : Nat)) := hB.cell 1
        have f1 := hB.frozen 1
        have hq : wr.cell? (a.add ((p + j) / 8)) = some (bv (held[(p + j) / 8]'hpl)) := by
          obtain ⟨a', ha', _, _, hq⟩ := (HV.out.fr hfr (fun q hq e => HG.out (by omega) q hq e)).addr (by omega)
          obtain rfl : a = a' := by simpa using ha'
          exact hq ((p + j) / 8) hpl
        have hst := num_step held p j (held[(p + j) / 8]'hpl) (List.getElem?_eq_getElem hpl)
        have HS := Lib.hid hst
        clear hst
        unfold bv at hq
        have hx8 := held[(p + j) / 8].toNat_lt
        have HBk := Lib.hid hB
        have HF := Lib.hid hfr
        clear hB hfr
        generalize held[(p + j) / 8] = cb at *
        generalize hX : numT held p j % 18446744073709551616 = X at *
        have HX := Lib.hid hX
        clear hX
        generalize hP : p + j = P at *
        have HP := Lib.hid hP
        clear hP
        go_wp2
        go_region
        have c1' : wr.drew.cell? ⟨g, 1, none⟩ = some (.int .i64 (P : Nat)) := c1
        have f1' : wr.drew.frozen? ⟨g, 1, none⟩ = false := f1
        generalize hW : wr.drew = W at *
        have hBW : Blk W g 87 #[.slice (some a) held.length c, .int .i64 (P : Nat), lo, wd] := by rw [← hW]; exact HBk.out
        have hFW : Fr (One g) w W := by rw [← hW]; exact HF.out.drew
        have HBW := Lib.hid hBW
        have HFW := Lib.hid hFW
        clear hBW hFW hW
        go_wp2
        go_roundw
        case rel =>
          refine ⟨j + 1, by omega, by go_num, ?_, ?_, HFW.out.set1 _ _⟩
          · rw [HS.out]
          · have := HBW.out.set 1 (.int .i64 ((P : Int) + 1))
            rw [show p + (j + 1) = P + 1 by rw [← HP.out]; omega]
            exact this
        case measure => simp [intOf]; omega
    · obtain rfl : j = k := by omega
      go_wp2
      go_ret
      exact ⟨rfl, hB, hfr⟩

theorem tell_eq (lo : Int) (n : Nat) : IntKind.i64.wrap (IntKind.u64.wrap (IntKind.u64.wrap lo + ((n % 18446744073709551616 : Nat) : Int))) = w6 (lo + (n : Int)) := by
  unfold w6
  simp only [IntKind.wrap_u64, IntKind.wrap_i64]
  omega

set_option maxHeartbeats 4000000 in
theorem stell_any (g p k : Nat) (v : Value) (held : List UInt8) (lo : Int) (w : World)
    (hB : Blk w g 87 #[v, .int .i64 p, .int .i64 lo, .int .i64 k]) (hv : Vs bv w v held) (hvg : 0 < held.length → ∀ q, v.ownBlock = some q → q ≠ g)
    (hk : p + k ≤ 8 * held.length) (hl : held.length ≤ 100000000) (hk8 : k ≤ 255) :
    Calls Try.prog 61 #[ptr g] w fun e w' => e = .returned (.int .i64 (w6 (lo + (numT held p k : Nat)))) ∧
      Blk w' g 87 #[v, .int .i64 (p + k : Nat), .int .i64 lo, .int .i64 k] ∧ Fr (One g) w w' := by
  have HP := Lib.hid (sget_any g p k v held (.int .i64 lo) (.int .i64 k) w.drew hB.drew hv.drew hvg hk hl hk8)
  have HT := Lib.hid (tell_eq lo (numT held p k))
  have c2 : w.drew.cell? ⟨g, 2, none⟩ = some (.int .i64 lo) := hB.cell 2
  have c3 : w.drew.cell? ⟨g, 3, none⟩ = some (.int .i64 (k : Nat)) := hB.cell 3
  clear hB hv hvg hl
  generalize hM : numT held p k % 18446744073709551616 = m at *
  have HM := Lib.hid hM
  clear hM
  go_enter Try.func61, Try.ntmps61
  go_wp2
  go_region_held3 (fun W => W.cell? ⟨g, 2, none⟩ = some (.int .i64 lo) ∧ W.cell? ⟨g, 3, none⟩ = some (.int .i64 (k : Nat))) (first | exact ⟨c2, c3⟩ | exact ⟨d2, d3⟩) (first | (go_at_call 75; refine HP.out.mono ?_; rintro e w2 ⟨rfl, hB2, hf2⟩; have d2 : w2.cell? ⟨g, 2, none⟩ = some (.int .i64 lo) := hB2.cell 2; have d3 : w2.cell? ⟨g, 3, none⟩ = some (.int .i64 (k : Nat)) := hB2.cell 3))
  go_wp2
  go_ret
  exact ⟨ret_int HT.out, hB2, ((Fr.refl _ _).drew).trans hf2⟩
end Go.Proofs.Ytemfmnjhmmlmbaa


namespace Go.Proofs.Ytemfmnjhmmlmbaa
set_option linter.unusedVariables false
set_option linter.unusedSimpArgs false
set_option maxRecDepth 100000
open Go.RowKit

theorem cell_al {w : World} {p : Addr} {u : Value} {o : Obj} (h : w.cell? p = some u) : (w.alloc o).cell? p = some u :=
  (((Fr.refl Non w).alloc o).cell (World.block_lt_of_cell? w _ h) (fun e => e)).trans h

theorem bs_byte (w2 : World) {k : Nat} (hk : k ≤ 64) : Bs (w2.alloc (.cells #[.int .u8 ((k : Int) % 256)] 5)) (.slice (some ⟨w2.heap.size, 0, none⟩) 1 1) [k.toUInt8] := by
  have := bs_row w2 [k.toUInt8]
  simp only [List.map_cons, List.map_nil, bv, small64 hk] at this
  rw [show (k : Int) % 256 = (k : Int) by omega]
  exact this
/-- the three parts of what Put answers, as they lie ahead of the call of Concat -/
theorem parts_put {w2 : World} {B : Nat} {x z : Value} {t : TypeId} {l n : List UInt8} {k : Nat} (hk : k ≤ 64) (hx : Own w2 B x l) (hz : Bs w2 z n) :
    Parts ((w2.alloc (.cells #[.int .u8 ((k : Int) % 256)] 5)).alloc (.cells #[x, .slice (some ⟨w2.heap.size, 0, none⟩) 1 1, z] t)) (w2.heap.size + 1) [x, .slice (some ⟨w2.heap.size, 0, none⟩) 1 1, z] [l, [k.toUInt8], n] := by
  have hf : Fr Non w2 (w2.alloc (.cells #[.int .u8 ((k : Int) % 256)] 5)) := (Fr.refl _ _).alloc _
  have hy := bs_byte w2 hk
  have h := Parts.three (t := t) (hx.bs.non hf) hy (hz.non hf)
  rwa [show (w2.alloc (.cells #[.int .u8 ((k : Int) % 256)] 5)).heap.size = w2.heap.size + 1 by simp] at h

set_option maxHeartbeats 4000000 in
theorem tput_any (v : Value) (l : List Int) (w : World) (hv : Vs iv w v l) (hx : ∀ x ∈ l, I64 x) (hl : l.length ≤ 1000000) :
    Calls Try.prog 32 #[v] w fun e w' => ∃ u, e = .returned u ∧ Own w' w.heap.size u (putT l) ∧ Fr Non w w' := by
  have HV := Lib.hid hv
  have HX := Lib.hid hx
  clear hx
  obtain ⟨A, c, rfl, hlc, hn, hcell⟩ := hv
  have HN := Lib.hid hn
  have HC := Lib.hid hcell
  clear hn hcell
  by_cases h0 : l.length = 0
  · have hl0 : l = [] := List.eq_nil_of_length_eq_zero h0
    subst hl0
    go_enter Try.func32, Try.ntmps32
    go_wp2
    go_ret
    exact ⟨_, rfl, own_nil _ _, Fr.refl _ _⟩
  · have hpos : 0 < l.length := by omega
    have h64 := least_i64 HX.out
    have HLo := Lib.hid h64
    have HHi := Lib.hid (great_i64 HX.out)
    go_enter Try.func32, Try.ntmps32
    go_wp2_with fail
    refine (tmin_any _ l w HV.out hpos (by omega)).mono ?_
    rintro e w1 ⟨rfl, rfl⟩
    go_wp2_with fail
    have hB1 : Blk (w.alloc (.cells #[.slice none 0 0, .int .i64 0, .int .i64 (leastOf l), .int .i64 0] 87)) w.heap.size 87 #[.slice none 0 0, .int .i64 0, .int .i64 (leastOf l), .int .i64 0] := Blk.new _ _ _
    have hf1 : Fr Non w (w.alloc (.cells #[.slice none 0 0, .int .i64 0, .int .i64 (leastOf l), .int .i64 0] 87)) := (Fr.refl _ _).alloc _
    have hz1 : (w.alloc (.cells #[.slice none 0 0, .int .i64 0, .int .i64 (leastOf l), .int .i64 0] 87)).heap.size = w.heap.size + 1 := by simp
    generalize w.alloc (.cells #[.slice none 0 0, .int .i64 0, .int .i64 (leastOf l), .int .i64 0] 87) = W1 at *
    generalize hg : w.heap.size = g at *
    have hv1 := (HV.out.non hf1).drew
    have c2 : W1.drew.cell? ⟨g, 2, none⟩ = some (.int .i64 (leastOf l)) := hB1.cell 2
    have c3 : W1.drew.cell? ⟨g, 3, none⟩ = some (.int .i64 0) := hB1.cell 3
    have f3 : W1.drew.frozen? ⟨g, 3, none⟩ = false := hB1.frozen 3
    have hle : leastOf l ≤ greatOf l := Int.le_trans (least_le l 0 hpos) (great_ge l 0 hpos)
    have e1 := u64_diff HHi.out HLo.out hle
    have hd := diff_lt HX.out
    have HLen := Lib.hid (fun W => len64_any (greatOf l - leastOf l).toNat W hd)
    have HMax := Lib.hid (tmax_any _ l _ hv1 hpos (by omega))
    have hB2 := (hB1.set 3 (.int .i64 (Lib.bitLen (greatOf l - leastOf l).toNat : Nat))).drew
    have d2 : (W1.setCell ⟨g, 3, none⟩ (.int .i64 (Lib.bitLen (greatOf l - leastOf l).toNat : Nat))).drew.cell? ⟨g, 2, none⟩ = some (.int .i64 (leastOf l)) := hB2.cell 2
    have HB1 := Lib.hid hB1
    have HB2 := Lib.hid hB2
    have HF1 := Lib.hid hf1
    clear hd hle hB1 hB2 hf1 hv1
    generalize hD : (greatOf l - leastOf l).toNat = d at *
    have HD := Lib.hid hD
    clear hD
    go_region_held3 (fun W => W.cell? ⟨g, 2, none⟩ = some (.int .i64 (leastOf l))) (first | exact c2 | exact d2) (first | (go_at_call 57; refine HMax.out.mono ?_; rintro e w2 ⟨rfl, rfl⟩) | (go_at_call 56; refine (HLen.out _).mono ?_; rintro e w2 ⟨rfl, rfl⟩))
    have hB2 := HB2.out
    have hf2 : Fr Non w (W1.setCell ⟨g, 3, none⟩ (.int .i64 (Lib.bitLen d : Nat))).drew := (HF1.out.setCell (p := ⟨g, 3, none⟩) (fun h => by have h : g < w.heap.size := h; omega) _).drew
    have hz2 : (W1.setCell ⟨g, 3, none⟩ (.int .i64 (Lib.bitLen d : Nat))).drew.heap.size = g + 1 := by simpa using hz1
    clear c2 c3 f3 d2 e1
    generalize (W1.setCell ⟨g, 3, none⟩ (.int .i64 (Lib.bitLen d : Nat))).drew = W2 at *
    have hk64 := width_le HX.out
    have HW := Lib.hid (show width l = Lib.bitLen d by unfold width; rw [HD.out])
    rw [HW.out] at hk64
    generalize Lib.bitLen d = k at *
    have c3 : W2.cell? ⟨g, 3, none⟩ = some (.int .i64 (k : Nat)) := hB2.cell 3
    have c0 : W2.cell? ⟨g, 0, none⟩ = some (.slice none 0 0) := hB2.cell 0
    have f0 := hB2.frozen 0
    have HB3 := Lib.hid hB2
    have HF3 := Lib.hid hf2
    clear hB2 hf2
    go_wp2_with fail
    refine (tsize_any l.length k W2 hl (by omega)).mono ?_
    rintro e w2 ⟨rfl, rfl⟩
    generalize hNN : need (l.length * k) = N at *
    have hN9 : N ≤ 100000000 := by rw [← hNN]; have := Nat.mul_le_mul hl hk64; unfold need; omega
    have HNN := Lib.hid hNN
    clear hNN
    go_wp2_with (at_make; refine wpList_mkfullG el_u8 (f := bv) (0 : UInt8) rfl rfl _ _ rfl _ _ _ _ N rfl rfl rfl rfl (by omega) ?_; intro w3 hown3 hf3; rw [hz2] at hown3 ⊢; have b3 := HB3.out.fr hf3 (fun e => e); have c3 : w3.cell? ⟨g, 3, none⟩ = some (.int .i64 (k : Nat)) := b3.cell 3; have c0 : w3.cell? ⟨g, 0, none⟩ = some (.slice none 0 0) := b3.cell 0; have f0 := b3.frozen 0; have HB4 := Lib.hid b3; clear b3; have HO3 := Lib.hid hown3; clear hown3)
    have HL := Lib.hid (show N = need (allB k (leastOf l) l).length by rw [allB_length, HNN.out])
    have HLn := Lib.hid (allB_length k (leastOf l) l)
    have HLk : Hid (l.length * k ≤ 100000000) := Lib.hid (by have := Nat.mul_le_mul hl hk64; omega)
    have hgw : ¬ g < w.heap.size := by omega
    have hBs := HB4.out.set 0 (.slice (some ⟨g + 1, 0, none⟩) N N)
    have hos := HO3.out.fr ((Fr.refl (One g) w3).set1 0 (.slice (some ⟨g + 1, 0, none⟩) N N)) (fun q hq e => by simp [Value.ownBlock] at hq; have : q = g := e; omega)
    have hfs : Fr Non w (w3.setCell ⟨g, 0, none⟩ (.slice (some ⟨g + 1, 0, none⟩) N N)) := (HF3.out.trans hf3).setCell (p := ⟨g, 0, none⟩) (fun h => hgw h) _
    have hp0 : pk (allB k (leastOf l) l) (0 * k) = List.replicate N 0 := by rw [Nat.zero_mul, pk_zero, ← HL.out]
    rw [← hp0] at hos
    clear hf3 hp0 c0 c3 f0
    go_loopw [31] (fun i wr => ∃ j : Nat, j ≤ l.length ∧ i = .int .i64 j ∧ Blk wr g 87 #[.slice (some ⟨g + 1, 0, none⟩) N N, .int .i64 (j * k : Nat), .int .i64 (leastOf l), .int .i64 k] ∧ Ow bv 5 wr (g + 1) (.slice (some ⟨g + 1, 0, none⟩) N N) (pk (allB k (leastOf l) l) (j * k)) ∧ Fr Non w wr) (fun i _ => l.length - (intOf i).toNat)
    case atStart => exact ⟨0, Nat.zero_le _, rfl, by rw [Nat.zero_mul]; exact hBs, hos, hfs⟩
    case round =>
      clear hBs hos hfs
      obtain ⟨j, hj, rfl, hB, hown, hfr⟩ := hrel
      by_cases hlt : j < l.length
      · cases A with
        | none => have := HN.out rfl; omega
        | some a =>
          have hc0 := HC.out a rfl j hlt
          have hc1 : wr.cell? (a.add j) = some (iv l[j]) := (hfr.cell (World.block_lt_of_cell? w _ hc0) (fun e => e)).trans hc0
          unfold iv at hc1
          have hadd := sadd_any g (g + 1) (g + 1) N (allB k (leastOf l) l) (j * k) k l[j] (leastOf l) wr hB hown HL.out (by omega) (by rw [HLn.out]; exact HLk.out) (HX.out _ (by simp)) HLo.out (least_le l j hlt)
            (by rw [HLn.out]; have := Nat.mul_le_mul_right k (show j + 1 ≤ l.length by omega); rw [Nat.add_mul, Nat.one_mul] at this; exact this)
            (fun i hi => by
              have hp : j * k + i < (allB k (leastOf l) l).length := by rw [HLn.out]; exact place_lt hi hlt
              rw [List.getElem?_eq_getElem hp, allB_at (leastOf l) l hi hlt hp])
            hk64
          have HA := Lib.hid hadd
          have HFr := Lib.hid hfr
          clear hadd hc0 hB hown hfr
          generalize l[j] = x at *
          go_wp2_with fail
          refine HA.out.mono ?_
          rintro e w5 ⟨rfl, hB5, hown5, hf5⟩
          go_wp2
          go_roundw
          case rel =>
            have e : j * k + k = (j + 1) * k := by rw [Nat.add_mul, Nat.one_mul]
            rw [e] at hB5 hown5
            exact ⟨j + 1, by omega, by go_num, hB5, hown5, HFr.out.fresh hf5 (fun q hq => by rcases hq with h | h <;> omega)⟩
          case measure => simp [intOf]; omega
      · obtain rfl : j = l.length := by omega
        rw [pk_all _ (by rw [HLn.out]; exact Nat.le_refl _)] at hown
        have d0 : wr.drew.cell? ⟨g, 0, none⟩ = some (.slice (some ⟨g + 1, 0, none⟩) N N) := hB.cell 0
        have d2 : wr.drew.cell? ⟨g, 2, none⟩ = some (.int .i64 (leastOf l)) := hB.cell 2
        have d3 : wr.drew.cell? ⟨g, 3, none⟩ = some (.int .i64 (k : Nat)) := hB.cell 3
        have HO := Lib.hid hown
        have HF := Lib.hid hfr.drew
        have HF0 := Lib.hid hfr
        have HBk := Lib.hid hB
        have hgr := hB.lt
        have ek : IntKind.u8.wrap (k : Int) = ((k.toUInt8.toNat : Nat) : Int) := by rw [small64 hk64, IntKind.wrap_u8]; omega
        have HLt : Hid ([Lib.uvarint (zig (leastOf l)), [k.toUInt8], packB (allB k (leastOf l) l)].flatten.length < 1099511627776) := Lib.hid (by
          have := Lib.uvarint_length64 (zig_lt h64.1 h64.2)
          simp only [List.flatten_cons, List.flatten_nil, List.length_append, List.length_nil, packB_length, ← HL.out, List.length_cons]
          omega)
        have HPt : Hid ([Lib.uvarint (zig (leastOf l)), [k.toUInt8], packB (allB k (leastOf l) l)].flatten = putT l) := Lib.hid (by
          rw [putT_some (by intro e; rw [e] at hpos; simp at hpos), HW.out]
          simp)
        have hgr2 : g < (wr.alloc (.cells #[.int .u8 ((k : Int) % 256)] 5)).drew.heap.size := by show g < (wr.alloc (.cells #[.int .u8 ((k : Int) % 256)] 5)).heap.size; simp; omega
        have HY := Lib.hid (bs_byte wr hk64)
        clear hown hfr hB
        go_wp2_with fail
        go_region_held3 (fun W => W.cell? ⟨g, 0, none⟩ = some (.slice (some ⟨g + 1, 0, none⟩) N N) ∧ W.cell? ⟨g, 2, none⟩ = some (.int .i64 (leastOf l)) ∧ W.cell? ⟨g, 3, none⟩ = some (.int .i64 (k : Nat))) (first | exact ⟨d0, d2, d3⟩ | exact ⟨cell_al (w := wr) d0, cell_al (w := wr) d2, cell_al (w := wr) d3⟩ | exact ⟨q0, q2, q3⟩ | exact ⟨cell_al q0, cell_al q2, cell_al q3⟩ | exact ⟨cell_al (cell_al q0), cell_al (cell_al q2), cell_al (cell_al q3)⟩ | exact ⟨z0, z2, z3⟩) (first | (go_at_call 46; refine (vint_any (leastOf l) _ h64.1 h64.2).mono ?_; rintro e w2 ⟨v1, rfl, hown1, hf1⟩; obtain ⟨A1, c1, rfl⟩ := hown1.bs.shape; have q0 := (hf1.cell (p := ⟨g, 0, none⟩) hgr (fun e => e)).trans d0; have q2 := (hf1.cell (p := ⟨g, 2, none⟩) hgr (fun e => e)).trans d2; have q3 := (hf1.cell (p := ⟨g, 3, none⟩) hgr (fun e => e)).trans d3) | (go_at_call 46; refine (vint_any (leastOf l) _ h64.1 h64.2).mono ?_; rintro e w2 ⟨v1, rfl, hown1, hfb⟩; obtain ⟨A1, c1, rfl⟩ := hown1.bs.shape; have q0 := (hfb.cell (p := ⟨g, 0, none⟩) hgr2 (fun e => e)).trans (cell_al (w := wr) d0); have q2 := (hfb.cell (p := ⟨g, 2, none⟩) hgr2 (fun e => e)).trans (cell_al (w := wr) d2); have q3 := (hfb.cell (p := ⟨g, 3, none⟩) hgr2 (fun e => e)).trans (cell_al (w := wr) d3)) | (go_at_call 17; refine (concat_any (w2.heap.size + 1) 3 3 _ [Lib.uvarint (zig (leastOf l)), [k.toUInt8], packB (allB k (leastOf l) l)] _ rfl (by omega) (parts_put hk64 hown1 (HO.out.vs.bs.drew.non hf1)) HLt.out).mono ?_; rintro e w4 ⟨v4, rfl, hown4, hf4⟩; have z0 := (hf4.cell (p := ⟨g, 0, none⟩) (World.block_lt_of_cell? _ _ (cell_al (cell_al q0))) (fun e => e)).trans (cell_al (cell_al q0)); have z2 := (hf4.cell (p := ⟨g, 2, none⟩) (World.block_lt_of_cell? _ _ (cell_al (cell_al q2))) (fun e => e)).trans (cell_al (cell_al q2)); have z3 := (hf4.cell (p := ⟨g, 3, none⟩) (World.block_lt_of_cell? _ _ (cell_al (cell_al q3))) (fun e => e)).trans (cell_al (cell_al q3))) | (go_at_call 17; refine (concat_any w2.heap.size 3 3 _ [Lib.uvarint (zig (leastOf l)), [k.toUInt8], packB (allB k (leastOf l) l)] _ rfl (by omega) (Parts.three hown1.bs (HY.out.drew.non hfb) ((HO.out.vs.bs.non ((Fr.refl Non _).alloc _)).drew.non hfb)) HLt.out).mono ?_; rintro e w4 ⟨v4, rfl, hown4, hf4⟩; have z0 := (hf4.cell (p := ⟨g, 0, none⟩) (World.block_lt_of_cell? _ _ (cell_al q0)) (fun e => e)).trans (cell_al q0); have z2 := (hf4.cell (p := ⟨g, 2, none⟩) (World.block_lt_of_cell? _ _ (cell_al q2)) (fun e => e)).trans (cell_al q2); have z3 := (hf4.cell (p := ⟨g, 3, none⟩) (World.block_lt_of_cell? _ _ (cell_al q3)) (fun e => e)).trans (cell_al q3)))
        · go_wp2
          go_ret
          rw [HPt.out] at hown4
          have hfin := (((HF.out.trans hf1).alloc (.cells #[.int .u8 ((k : Int) % 256)] 5)).alloc (.cells #[.slice A1 (Lib.uvarint (zig (leastOf l))).length c1, .slice (some ⟨w2.heap.size, 0, none⟩) 1 1, .slice (some ⟨g + 1, 0, none⟩) N N] 22))
          refine ⟨v4, rfl, ?_, hfin.trans hf4⟩
          have := hown4.mono (B' := w.heap.size) hfin.size
          rwa [hg] at this ⊢
        · go_wp2
          go_ret
          rw [HPt.out] at hown4
          have hfin := ((((HF0.out.alloc (.cells #[.int .u8 ((k : Int) % 256)] 5)).drew).trans hfb).alloc (.cells #[.slice A1 (Lib.uvarint (zig (leastOf l))).length c1, .slice (some ⟨wr.heap.size, 0, none⟩) 1 1, .slice (some ⟨g + 1, 0, none⟩) N N] 22))
          refine ⟨v4, rfl, ?_, hfin.trans hf4⟩
          have := hown4.mono (B' := w.heap.size) hfin.size
          rwa [hg] at this ⊢
end Go.Proofs.Ytemfmnjhmmlmbaa


namespace Go.Proofs.Ytemfmnjhmmlmbaa
set_option linter.unusedVariables false
set_option linter.unusedSimpArgs false
set_option maxRecDepth 100000
open Go.RowKit

theorem cut_none : cutT [] 1 = [] ∧ cutR [] 1 = [] ∧ cutB [] true 1 = true ∧ cutB [] false 1 = true := by decide
theorem cut_one (c : UInt8) (r : List UInt8) : cutT (c :: r) 1 = [c] ∧ cutR (c :: r) 1 = r ∧ cutB (c :: r) false 1 = false := by
  unfold cutT cutR cutB cutOk
  rw [decide_eq_true (by simp; omega)]
  exact ⟨rfl, rfl, rfl⟩
theorem cut_all (r : List UInt8) : cutT r (r.length : Nat) = r ∧ cutR r (r.length : Nat) = [] ∧ cutB r false (r.length : Nat) = false := by
  unfold cutT cutR cutB cutOk
  rw [decide_eq_true (by simp)]
  simp

/-- a call's end where its first result lies in a cell: a struct in a block of its own -/
theorem ret_cell {fn : Func} {p u : Tmp} {ty : TypeId} (h : fn.results = #[.cell p ty, .tmp u]) (tmps : Array Value) (w : World) (g : Nat) (t : TypeId) (cs : Array Value)
    (hp : tmps.getD p undef = .pointer (some ⟨g, 0, none⟩)) (hg : Blk w g t cs)
    (hl : (loadVar ty ⟨g, 0, none⟩).run Try.prog w = .ok (.agg cs) w) :
    (results fn tmps).run Try.prog w = .ok (.tuple #[.agg cs, tmps.getD u undef]) w := by
  rw [results_cell_tmp h, hp]
  simp [asAddr, hl, Result.andThen]
theorem load_pack {w : World} {g : Nat} {cs : Array Value} (hg : Blk w g 87 cs) (h4 : cs.size = 4) : (loadVar 87 ⟨g, 0, none⟩).run Try.prog w = .ok (.agg cs) w :=
  run_loadVar_row w g 87 87 cs (0, 0) _ hg Try.underlying87 rfl (by rw [h4]; kernel_rfl)

/-- what open answers where it fails -/
def noPack : Value := .agg #[.slice none 0 0, .int .i64 0, .int .i64 0, .int .i64 0]

set_option maxHeartbeats 4000000 in
theorem topen_none (v : Value) (b : List UInt8) (n : Nat) (w : World) (hv : Bs w v b) (hn : n ≤ 4096) (hp : parse b = none) :
    Calls Try.prog 60 #[v, .int .i64 n] w fun e w' => e = .returned (.tuple #[noPack, .bool false]) ∧ Fr Non w w' := by
  have HV := Lib.hid hv
  obtain ⟨A, c, rfl, _⟩ := hv
  have hcase : Hid (rest b = [] ∧ cutB (rest b) (fell b) 1 = true) := Lib.hid (by
    unfold parse at hp
    cases hr : rd 0 0 b with
    | none => obtain ⟨h1, h2, _⟩ := rest_none hr; rw [h1, h2]; exact ⟨rfl, cut_none.2.2.1⟩
    | some y =>
      obtain ⟨z, r⟩ := y
      rw [hr] at hp
      cases r with
      | nil => obtain ⟨h1, h2, _⟩ := rest_some hr; rw [h1, h2]; exact ⟨rfl, cut_none.2.2.2⟩
      | cons c r => cases hp)
  clear hp
  go_enter Try.func60, Try.ntmps60
  go_wp2_with fail
  have hB0 : Blk (w.alloc (.cells #[.slice none 0 0, .int .i64 0, .int .i64 0, .int .i64 0] 87)) w.heap.size 87 #[.slice none 0 0, .int .i64 0, .int .i64 0, .int .i64 0] := Blk.new _ _ _
  have f0 : Fr Non w (w.alloc (.cells #[.slice none 0 0, .int .i64 0, .int .i64 0, .int .i64 0] 87)) := (Fr.refl _ _).alloc _
  have hz : (w.alloc (.cells #[.slice none 0 0, .int .i64 0, .int .i64 0, .int .i64 0] 87)).heap.size = w.heap.size + 1 := by simp
  generalize w.alloc (.cells #[.slice none 0 0, .int .i64 0, .int .i64 0, .int .i64 0] 87) = W0 at *
  have h1 := from_any _ b W0 (HV.out.non f0)
  rw [hz] at h1
  generalize hR : w.heap.size = R at *
  refine h1.mono ?_
  rintro e w1 ⟨rfl, s1, f1⟩
  have hB1 := hB0.fr f1 (fun e => e)
  have f01 := f0.trans f1
  clear h1 hB0 f0 f1
  go_wp2_with fail
  refine (sint_any (R + 1) b false w1 s1).mono ?_
  rintro e w2 ⟨rfl, s2, f2⟩
  have hB2 := hB1.fr f2 (fun e => by have : R = R + 1 := e; omega)
  have f02 := f01.fresh f2 (fun q hq => by have : q = R + 1 := hq; omega)
  have hz2 := s2.1.lt
  have hF2 := (Fr.refl Non w2).alloc (.cells #[.slice none 0 0, .int .i64 0, .int .i64 (unzig (fstN b)), .int .i64 0] 87)
  have f03 := f02.trans hF2
  have s3 := s2.fr hF2 (fun e => e)
  have hB3 := hB2.fr hF2 (fun e => e)
  clear hB1 f01 f2 hB2 f02 hF2 s2 s1
  go_wp2_with fail
  refine (take_any (R + 1) (rest b) (fell b) 1 _ s3).mono ?_
  rintro e w4 ⟨v4, rfl, hb4, hn4, s4, f4⟩
  rw [hcase.out.2] at s4
  have hB4 := hB3.fr f4 (fun e => by have : R = R + 1 := e; omega)
  have f04 := f03.fresh f4 (fun q hq => by have : q = R + 1 := hq; omega)
  clear hB3 s3 f4 f03
  go_wp2_with fail
  refine (ok_any (R + 1) _ _ w4 s4).mono ?_
  rintro e w5 ⟨rfl, rfl⟩
  have HB4 := Lib.hid hB4
  have HF4 := Lib.hid f04
  have hfz := hB4.frozen
  have hc0 : w4.cell? ⟨R, 0, none⟩ = some (.slice none 0 0) := hB4.cell 0
  have hc1 : w4.cell? ⟨R, 1, none⟩ = some (.int .i64 0) := hB4.cell 1
  have hc2 : w4.cell? ⟨R, 2, none⟩ = some (.int .i64 0) := hB4.cell 2
  have hc3 : w4.cell? ⟨R, 3, none⟩ = some (.int .i64 0) := hB4.cell 3
  have fz0 := hfz 0
  have fz1 := hfz 1
  have fz2 := hfz 2
  have fz3 := hfz 3
  clear hfz hB4 f04 hn4 hb4
  go_wp2
  (try simp only [Exit.inBlock, Exit.then])
  have hBe : Blk ((((w4.setCell ⟨R, 0, none⟩ (.slice none 0 0)).setCell ⟨R, 1, none⟩ (.int .i64 0)).setCell ⟨R, 2, none⟩ (.int .i64 0)).setCell ⟨R, 3, none⟩ (.int .i64 0)) R 87 #[.slice none 0 0, .int .i64 0, .int .i64 0, .int .i64 0] :=
    (((HB4.out.set 0 _).set 1 _).set 2 _).set 3 _
  have hn : ∀ i : Nat, ¬ (⟨R, i, none⟩ : Addr).block < w.heap.size := fun i h => by have h : R < w.heap.size := h; omega
  refine bodyPost_ret (v := .tuple #[noPack, .bool false]) (ret_cell (p := 4) (u := 5) (ty := 87) rfl _ _ R _ _ rfl hBe (load_pack hBe rfl)) rfl ⟨rfl, ?_⟩
  exact (((HF4.out.setCell (fun h => absurd h (hn 0)) _).setCell (fun h => absurd h (hn 1)) _).setCell (fun h => absurd h (hn 2)) _).setCell (fun h => absurd h (hn 3)) _

set_option maxHeartbeats 4000000 in
theorem topen_some (v : Value) (b : List UInt8) (n : Nat) (lo : Int) (k : Nat) (r : List UInt8) (w : World) (hv : Bs w v b) (hn : n ≤ 4096) (hbl : b.length ≤ 100000000) (hp : parse b = some (lo, k, r)) :
    Calls Try.prog 60 #[v, .int .i64 n] w fun e w' => ∃ u, e = .returned (.tuple #[.agg #[u, .int .i64 0, .int .i64 lo, .int .i64 k], .bool (decide (r.length = need (n * k)))]) ∧ Bs w' u r ∧ (∀ q, u.ownBlock = some q → w.heap.size ≤ q) ∧ k ≤ 255 ∧ r.length ≤ b.length ∧ Fr Non w w' := by
  have HV := Lib.hid hv
  obtain ⟨A, c, rfl, _⟩ := hv
  obtain ⟨ch, hch⟩ : ∃ ch : UInt8, rest b = ch :: r ∧ fell b = false ∧ unzig (fstN b) = lo ∧ ch.toNat = k ∧ r.length ≤ b.length := by
    unfold parse at hp
    cases hr : rd 0 0 b with
    | none => rw [hr] at hp; cases hp
    | some y =>
      obtain ⟨z, q⟩ := y
      obtain ⟨h1, h2, h3, _⟩ := rest_some hr
      have h4 := rd_len (by omega) hr
      rw [hr] at hp
      cases q with
      | nil => cases hp
      | cons ch q =>
        simp only [Option.some.injEq, Prod.mk.injEq] at hp
        obtain ⟨e1, e2, e3⟩ := hp
        subst e1 e2 e3
        exact ⟨ch, h1, h2, by rw [h3], rfl, by simp at h4; omega⟩
  obtain ⟨hr1, hr2, hr3, hr4, hr5⟩ := hch
  have hk8 : k ≤ 255 := by rw [← hr4]; have := ch.toNat_lt; omega
  have HR := Lib.hid hr1
  have HL := Lib.hid hr3
  have HK := Lib.hid hr4
  clear hp hr1 hr3 hr4
  go_enter Try.func60, Try.ntmps60
  go_wp2_with fail
  have hB0 : Blk (w.alloc (.cells #[.slice none 0 0, .int .i64 0, .int .i64 0, .int .i64 0] 87)) w.heap.size 87 #[.slice none 0 0, .int .i64 0, .int .i64 0, .int .i64 0] := Blk.new _ _ _
  have f0 : Fr Non w (w.alloc (.cells #[.slice none 0 0, .int .i64 0, .int .i64 0, .int .i64 0] 87)) := (Fr.refl _ _).alloc _
  have hz : (w.alloc (.cells #[.slice none 0 0, .int .i64 0, .int .i64 0, .int .i64 0] 87)).heap.size = w.heap.size + 1 := by simp
  generalize w.alloc (.cells #[.slice none 0 0, .int .i64 0, .int .i64 0, .int .i64 0] 87) = W0 at *
  have h1 := from_any _ b W0 (HV.out.non f0)
  rw [hz] at h1
  generalize hR : w.heap.size = R at *
  refine h1.mono ?_
  rintro e w1 ⟨rfl, s1, f1⟩
  have hB1 := hB0.fr f1 (fun e => e)
  have f01 := f0.trans f1
  clear h1 hB0 f0 f1
  go_wp2_with fail
  have h2 := sint_any (R + 1) b false w1 s1
  rw [HL.out, HR.out, hr2] at h2
  refine h2.mono ?_
  rintro e w2 ⟨rfl, s2, f2⟩
  clear h2
  have hB2 := hB1.fr f2 (fun e => by have : R = R + 1 := e; omega)
  have f02 := f01.fresh f2 (fun q hq => by have : q = R + 1 := hq; omega)
  have hz2 := s2.1.lt
  have hF2 := (Fr.refl Non w2).alloc (.cells #[.slice none 0 0, .int .i64 0, .int .i64 (lo), .int .i64 0] 87)
  have f03 := f02.trans hF2
  have s3 := s2.fr hF2 (fun e => e)
  have hB3 := hB2.fr hF2 (fun e => e)
  clear hB1 f01 f2 hB2 f02 hF2 s2 s1
  have hP2 : Blk (w2.alloc (.cells #[.slice none 0 0, .int .i64 0, .int .i64 lo, .int .i64 0] 87)) w2.heap.size 87 #[.slice none 0 0, .int .i64 0, .int .i64 lo, .int .i64 0] := Blk.new _ _ _
  go_wp2_with fail
  have h3 := take_any (R + 1) (ch :: r) false 1 _ s3
  rw [(cut_one ch r).1, (cut_one ch r).2.1, (cut_one ch r).2.2] at h3
  refine h3.mono ?_
  rintro e w4 ⟨v4, rfl, hb4, hn4, s4, f4⟩
  clear h3
  have hB4 := hB3.fr f4 (fun e => by have : R = R + 1 := e; omega)
  have hP4 := hP2.fr f4 (fun e => by have : w2.heap.size = R + 1 := e; omega)
  have f04 := f03.fresh f4 (fun q hq => by have : q = R + 1 := hq; omega)
  clear hB3 s3 f4 f03 hP2
  generalize hG : w2.heap.size = G at *
  go_wp2_with fail
  refine (ok_any (R + 1) _ _ w4 s4).mono ?_
  rintro e w5 ⟨rfl, rfl⟩
  have hcw : ∃ a c4, v4 = .slice (some a) 1 c4 ∧ w4.cell? a = some (.int .u8 (k : Nat)) := by
    obtain ⟨A4, c4, rfl, _⟩ := hb4.shape
    obtain ⟨a, rfl, _, _, h⟩ := hb4.vs.addr (by simp)
    refine ⟨a, c4, rfl, ?_⟩
    have := h 0 (by simp)
    simpa [bv, HK.out, Addr.add] using this
  obtain ⟨a, c4, rfl, hca⟩ := hcw
  have p3 : w4.cell? ⟨G, 3, none⟩ = some (.int .i64 0) := hP4.cell 3
  have fp3 := hP4.frozen 3
  have hGw : ¬ G < w.heap.size := by omega
  have hRw : ¬ R < w.heap.size := by omega
  have hP5 := hP4.set 3 (.int .i64 (k : Nat))
  have s5 := s4.fr ((Fr.refl (One G) w4).set1 3 (.int .i64 (k : Nat))) (fun e => by have : R + 1 = G := e; omega)
  have hB5 := hB4.fr ((Fr.refl (One G) w4).set1 3 (.int .i64 (k : Nat))) (fun e => by have : R = G := e; omega)
  have f05 : Fr Non w (w4.setCell ⟨G, 3, none⟩ (.int .i64 (k : Nat))) := f04.setCell (p := ⟨G, 3, none⟩) (fun h => hGw h) _
  clear hb4 hn4 hP4 s4 hB4 f04
  go_wp2_with fail
  clear p3 fp3 hca
  generalize w4.setCell ⟨G, 3, none⟩ (.int .i64 (k : Nat)) = w5 at *
  refine (left_any (R + 1) _ _ w5 s5).mono ?_
  rintro e w6 ⟨rfl, rfl⟩
  go_wp2_with fail
  have h6 := take_any (R + 1) r false (r.length : Nat) w5 s5
  rw [(cut_all r).1, (cut_all r).2.1, (cut_all r).2.2] at h6
  refine h6.mono ?_
  rintro e w6 ⟨v6, rfl, hb6, hn6, s6, f6⟩
  obtain ⟨A6, c6, rfl⟩ := hb6.shape
  have hB6 := hB5.fr f6 (fun e => by have : R = R + 1 := e; omega)
  have hP6 := hP5.fr f6 (fun e => by have : G = R + 1 := e; omega)
  have f06 := f05.fresh f6 (fun q hq => by have : q = R + 1 := hq; omega)
  have hn7 : ∀ q, (Value.slice A6 r.length c6).ownBlock = some q → q ≠ G ∧ q ≠ R ∧ w.heap.size ≤ q := fun q hq => by
    have h1 := hn6 q hq
    have h2 := hP5.lt
    have h3 := hB5.lt
    exact ⟨by omega, by omega, by omega⟩
  have p0 : w6.cell? ⟨G, 0, none⟩ = some (.slice none 0 0) := hP6.cell 0
  have fp0 := hP6.frozen 0
  have hP7 := hP6.set 0 (.slice A6 r.length c6)
  have hF7 := (Fr.refl (One G) w6).set1 0 (.slice A6 r.length c6)
  have hB7 := hB6.fr hF7 (fun e => by have : R = G := e; omega)
  have hb7 := hb6.fr hF7 (fun q hq e => (hn7 q hq).1 e)
  have f07 : Fr Non w (w6.setCell ⟨G, 0, none⟩ (.slice A6 r.length c6)) := f06.setCell (p := ⟨G, 0, none⟩) (fun h => hGw h) _
  have HN7 := Lib.hid hn7
  clear h6 hb6 hn6 s6 f6 hB6 hP6 f06 hn7 hF7 hP5 hB5 f05 s5
  go_wp2_with fail
  clear p0 fp0
  generalize w6.setCell ⟨G, 0, none⟩ (.slice A6 r.length c6) = w7 at *
  have hP8 : Blk w7 G 87 #[.slice A6 r.length c6, .int .i64 0, .int .i64 lo, .int .i64 (k : Nat)] := hP7
  have c0 : w7.drew.cell? ⟨G, 0, none⟩ = some (.slice A6 r.length c6) := hP8.cell 0
  have c1 : w7.drew.cell? ⟨G, 1, none⟩ = some (.int .i64 0) := hP8.cell 1
  have c2 : w7.drew.cell? ⟨G, 2, none⟩ = some (.int .i64 lo) := hP8.cell 2
  have c3 : w7.drew.cell? ⟨G, 3, none⟩ = some (.int .i64 (k : Nat)) := hP8.cell 3
  have s0 : w7.cell? ⟨R, 0, none⟩ = some (.slice none 0 0) := hB7.cell 0
  have fs0 : w7.frozen? ⟨R, 0, none⟩ = false := hB7.frozen 0
  have s1 : w7.cell? ⟨R, 1, none⟩ = some (.int .i64 0) := hB7.cell 1
  have fs1 : w7.frozen? ⟨R, 1, none⟩ = false := hB7.frozen 1
  have s2 : w7.cell? ⟨R, 2, none⟩ = some (.int .i64 0) := hB7.cell 2
  have fs2 : w7.frozen? ⟨R, 2, none⟩ = false := hB7.frozen 2
  have s3 : w7.cell? ⟨R, 3, none⟩ = some (.int .i64 0) := hB7.cell 3
  have fs3 : w7.frozen? ⟨R, 3, none⟩ = false := hB7.frozen 3
  have hB9 : Blk ((((w7.setCell ⟨R, 0, none⟩ (.slice A6 r.length c6)).setCell ⟨R, 1, none⟩ (.int .i64 0)).setCell ⟨R, 2, none⟩ (.int .i64 lo)).setCell ⟨R, 3, none⟩ (.int .i64 (k : Nat))).drew R 87 #[.slice A6 r.length c6, .int .i64 0, .int .i64 lo, .int .i64 (k : Nat)] :=
    ((((hB7.set 0 _).set 1 _).set 2 _).set 3 _).drew
  have hF9 : Fr (One R) w7 ((((w7.setCell ⟨R, 0, none⟩ (.slice A6 r.length c6)).setCell ⟨R, 1, none⟩ (.int .i64 0)).setCell ⟨R, 2, none⟩ (.int .i64 lo)).setCell ⟨R, 3, none⟩ (.int .i64 (k : Nat))).drew := (((((Fr.refl (One R) w7).set1 0 _).set1 1 _).set1 2 _).set1 3 _).drew
  have hP9 := hP8.fr hF9 (fun e => by have : G = R := e; omega)
  have k0 : (((((w7.setCell ⟨R, 0, none⟩ (.slice A6 r.length c6)).setCell ⟨R, 1, none⟩ (.int .i64 0)).setCell ⟨R, 2, none⟩ (.int .i64 lo)).setCell ⟨R, 3, none⟩ (.int .i64 (k : Nat))).drew).cell? ⟨G, 0, none⟩ = some (.slice A6 r.length c6) := hP9.cell 0
  have k1 : (((((w7.setCell ⟨R, 0, none⟩ (.slice A6 r.length c6)).setCell ⟨R, 1, none⟩ (.int .i64 0)).setCell ⟨R, 2, none⟩ (.int .i64 lo)).setCell ⟨R, 3, none⟩ (.int .i64 (k : Nat))).drew).cell? ⟨G, 1, none⟩ = some (.int .i64 0) := hP9.cell 1
  have k2 : (((((w7.setCell ⟨R, 0, none⟩ (.slice A6 r.length c6)).setCell ⟨R, 1, none⟩ (.int .i64 0)).setCell ⟨R, 2, none⟩ (.int .i64 lo)).setCell ⟨R, 3, none⟩ (.int .i64 (k : Nat))).drew).cell? ⟨G, 2, none⟩ = some (.int .i64 lo) := hP9.cell 2
  have k3 : (((((w7.setCell ⟨R, 0, none⟩ (.slice A6 r.length c6)).setCell ⟨R, 1, none⟩ (.int .i64 0)).setCell ⟨R, 2, none⟩ (.int .i64 lo)).setCell ⟨R, 3, none⟩ (.int .i64 (k : Nat))).drew).cell? ⟨G, 3, none⟩ = some (.int .i64 (k : Nat)) := hP9.cell 3
  have HB9 := Lib.hid hB9
  have HF9 := Lib.hid (f07.fresh hF9 (fun q hq => by have : q = R := hq; omega))
  have Hb9 := Lib.hid (hb7.fr hF9 (fun q hq e => (HN7.out q hq).2.1 e))
  clear hB9 hF9 hP9
  have HSz := Lib.hid (fun W => tsize_any n k W (by omega) (by omega))
  clear hP7 hP8 hB7 hb7 f07
  go_region_held3 (fun W => W.cell? ⟨G, 0, none⟩ = some (.slice A6 r.length c6) ∧ W.cell? ⟨G, 1, none⟩ = some (.int .i64 0) ∧ W.cell? ⟨G, 2, none⟩ = some (.int .i64 lo) ∧ W.cell? ⟨G, 3, none⟩ = some (.int .i64 (k : Nat))) (first | exact ⟨c0, c1, c2, c3⟩ | exact ⟨k0, k1, k2, k3⟩) (first | (go_at_call 58; refine (HSz.out _).mono ?_; rintro e w8 ⟨rfl, rfl⟩))
  go_wp2
  (try simp only [Exit.inBlock, Exit.then])
  have hbe : ((r.length : Int) == (need (n * k) : Nat)) = decide (r.length = need (n * k)) := by
    rw [Bool.eq_iff_iff, beq_iff_eq, decide_eq_true_iff]; omega
  rw [hbe]
  refine bodyPost_ret (v := .tuple #[.agg #[.slice A6 r.length c6, .int .i64 0, .int .i64 lo, .int .i64 (k : Nat)], .bool (decide (r.length = need (n * k)))]) (ret_cell (p := 4) (u := 5) (ty := 87) rfl _ _ R _ _ rfl HB9.out (load_pack HB9.out rfl)) rfl ?_
  exact ⟨_, rfl, Hb9.out, fun q hq => (HN7.out q hq).2.2, hk8, hr5, HF9.out⟩
end Go.Proofs.Ytemfmnjhmmlmbaa


namespace Go.Proofs.Ytemfmnjhmmlmbaa
set_option linter.unusedVariables false
set_option linter.unusedSimpArgs false
set_option maxRecDepth 100000
open Go.RowKit

theorem getM_low {b : List UInt8} {n : Int} (h : n < 0) : getM b n = none := by unfold getM; rw [if_pos (by omega), getZ_neg h]
theorem getM_big {b : List UInt8} {n : Int} (h : 4096 < n) : getM b n = none := by unfold getM; rw [if_neg (by omega)]
theorem getM_pos {b : List UInt8} {n : Nat} (h : 0 < n) (h2 : n ≤ 4096) : getM b n = getT b n := by unfold getM; rw [if_pos (by omega), getZ_pos h]

/-- a slice that has an element lies in a block that is there -/
theorem vs_lt {α : Type} {f : α → Value} {w : World} {v : Value} {l : List α} (h : Vs f w v l) (h0 : 0 < l.length) : ∀ q, v.ownBlock = some q → q < w.heap.size := by
  obtain ⟨A, c, rfl⟩ := h.shape
  obtain ⟨a, rfl, _, _, hc⟩ := h.addr h0
  intro q hq
  have := World.block_lt_of_cell? w _ (hc 0 h0)
  rw [add_block] at this
  simp [Value.ownBlock] at hq
  omega
/-- one that has none reads the same in every world -/
theorem vs_keep0 {α : Type} {f : α → Value} {w w' : World} {v : Value} {l : List α} (h : Vs f w v l) (hk : 0 < l.length → ∀ k, v.ownBlock = some k → k < w.heap.size → w'.heap[k]? = w.heap[k]?) : Vs f w' v l := by
  by_cases h0 : 0 < l.length
  · exact h.keep (hk h0)
  · obtain ⟨A, c, rfl, h1, h2, h3⟩ := h
    exact ⟨A, c, rfl, h1, h2, fun a ha j hj => absurd hj (by omega)⟩

set_option maxHeartbeats 4000000 in
theorem tget_any (v : Value) (b : List UInt8) (n : Int) (w : World) (hv : Bs w v b) (hl : b.length ≤ 100000000) (h1 : -9223372036854775808 ≤ n) (h2 : n ≤ 9223372036854775807) :
    Calls Try.prog 33 #[v, .int .i64 n] w fun e w' => Gtn w' w.heap.size (getM b n) e ∧ Fr Non w w' := by
  have HV := Lib.hid hv
  obtain ⟨A, c, rfl, _⟩ := hv
  by_cases hn0 : n < 0
  · have hd : decide (n ≤ 0) = true := by simp; omega
    have hz : (n == 0) = false := by rw [beq_eq_false_iff_ne]; omega
    have HG := Lib.hid (getM_low (b := b) hn0)
    clear hn0
    go_enter Try.func33, Try.ntmps33
    go_wp2
    go_ret2
    exact ⟨gtn_no HG.out, Fr.refl _ _⟩
  · by_cases hn4 : 4096 < n
    · have hd : decide (n ≤ 0) = false := by simp; omega
      have hd4 : decide (4096 < n) = true := by simpa using hn4
      have hz : (n == 0) = false := by rw [beq_eq_false_iff_ne]; omega
      have HG := Lib.hid (getM_big (b := b) hn4)
      clear hn0 hn4
      go_enter Try.func33, Try.ntmps33
      go_wp2
      go_ret2
      exact ⟨gtn_no HG.out, Fr.refl _ _⟩
    · obtain ⟨m, rfl⟩ := Int.eq_ofNat_of_zero_le (show 0 ≤ n by omega)
      have hm4 : m ≤ 4096 := by omega
      clear h1 h2 hn0 hn4
      by_cases hm0 : m = 0
      · subst hm0
        cases b with
        | nil =>
          have HG : Hid (getM [] ((0 : Nat) : Int) = some []) := Lib.hid rfl
          go_enter Try.func33, Try.ntmps33
          go_wp2
          go_ret2
          exact ⟨gtn_yes HG.out (ow_nil _ _), Fr.refl _ _⟩
        | cons b0 b1 =>
          have HG : Hid (getM (b0 :: b1) ((0 : Nat) : Int) = none) := Lib.hid rfl
          have hb : ((((b0 :: b1).length : Nat) : Int) == 0) = false := by rw [beq_eq_false_iff_ne]; simp; omega
          generalize b0 :: b1 = b at *
          go_enter Try.func33, Try.ntmps33
          go_wp2
          go_ret2
          exact ⟨gtn_no HG.out, Fr.refl _ _⟩
      · have hpos : 0 < m := by omega
        have hd : decide ((m : Int) ≤ 0) = false := by simp; omega
        have hd4 : decide (4096 < (m : Int)) = false := by simp; omega
        have HG := Lib.hid (getM_pos (b := b) hpos hm4)
        clear hm0
        cases hp : parse b with
        | none =>
          have HR := Lib.hid (HG.out.trans (getT_none hp))
          have ho := topen_none _ b m w HV.out hm4 hp
          clear hp
          go_enter Try.func33, Try.ntmps33
          go_wp2_with fail
          refine ho.mono ?_
          rintro e w1 ⟨rfl, f1⟩
          unfold noPack
          go_wp2
          go_ret2
          exact ⟨gtn_no HR.out, f1.alloc _⟩
        | some y =>
          obtain ⟨lo, k, r⟩ := y
          have ho := topen_some _ b m lo k r w HV.out hm4 hl hp
          by_cases hlen : r.length = need (m * k)
          · rw [decide_eq_true hlen] at ho
            have HP := Lib.hid hp
            have HL := Lib.hid hlen
            clear hp hlen
            go_enter Try.func33, Try.ntmps33
            go_wp2_with fail
            refine ho.mono ?_
            rintro e w1 ⟨u, rfl, hb1, hn1, hk8, hrb, f1⟩
            obtain ⟨A1, c1, rfl⟩ := hb1.shape
            have hP2 : Blk (w1.alloc (.cells #[.slice A1 r.length c1, .int .i64 0, .int .i64 lo, .int .i64 (k : Nat)] 87)) w1.heap.size 87 #[.slice A1 r.length c1, .int .i64 0, .int .i64 lo, .int .i64 (k : Nat)] := Blk.new _ _ _
            have f2 : Fr Non w (w1.alloc (.cells #[.slice A1 r.length c1, .int .i64 0, .int .i64 lo, .int .i64 (k : Nat)] 87)) := f1.alloc _
            have hb2 := hb1.non ((Fr.refl Non w1).alloc (.cells #[.slice A1 r.length c1, .int .i64 0, .int .i64 lo, .int .i64 (k : Nat)] 87))
            have hz2 : (w1.alloc (.cells #[.slice A1 r.length c1, .int .i64 0, .int .i64 lo, .int .i64 (k : Nat)] 87)).heap.size = w1.heap.size + 1 := by simp
            have hu1 : 0 < r.length → ∀ q, (Value.slice A1 r.length c1).ownBlock = some q → q < w1.heap.size := fun hr0 => vs_lt hb1.vs hr0
            have hw1 := f1.size
            clear hb1 f1
            go_wp2_with (at_make; refine wpList_mkfullG el_i64 (f := iv) (0 : Int) rfl rfl _ _ rfl _ _ _ _ m rfl rfl rfl rfl (by omega) ?_; intro w3 hown3 hf3; rw [hz2] at hown3 ⊢)
            have hP3 := hP2.fr hf3 (fun e => e)
            have hb3 := hb2.vs.non hf3
            have f3 := f2.trans hf3
            have hs3 := hf3.size
            have hN9 : r.length ≤ 100000000 := by omega
            have hN8 : m * k ≤ 8 * r.length := by rw [HL.out]; unfold need; omega
            generalize hPP : w1.heap.size = P at *
            rw [← partT_zero r lo k m] at hown3
            rw [hz2] at hs3
            have hPw : w.heap.size ≤ P := hw1
            clear hP2 hb2 f2 hz2 hf3
            go_loopw [35] (fun i wr => ∃ j : Nat, j ≤ m ∧ i = .int .i64 j ∧ Blk wr P 87 #[.slice A1 r.length c1, .int .i64 (j * k : Nat), .int .i64 lo, .int .i64 (k : Nat)] ∧ Ow iv 2 wr (P + 1) (.slice (some ⟨P + 1, 0, none⟩) m m) (partT r lo k m j) ∧ Vs bv wr (.slice A1 r.length c1) r ∧ Fr Non w wr) (fun i _ => m - (intOf i).toNat)
            case atStart => exact ⟨0, Nat.zero_le _, rfl, by rw [Nat.zero_mul]; exact hP3, hown3, hb3, f3⟩
            case round =>
              clear hP3 hown3 hb3 f3
              obtain ⟨j, hj, rfl, hP, hown, hb, hfr⟩ := hrel
              by_cases hlt : j < m
              · have hpl : j * k + k ≤ 8 * r.length := by
                  have h1 := Nat.mul_le_mul_right k (show j + 1 ≤ m by omega)
                  rw [Nat.add_mul, Nat.one_mul] at h1
                  omega
                have hT := stell_any P (j * k) k _ r lo wr hP hb (fun h0 q hq e => by have := hu1 h0 q hq; omega) hpl hN9 hk8
                have HST := Lib.hid (partT_step r lo k m j hlt)
                have hx0 := hown.cell (partT_length _ _ _ _ _).symm j ((partT r lo k m j)[j]'(by rw [partT_length]; exact hlt)) (by simp [partT_length, hlt])
                have hz0 := hown.frozen (partT_length _ _ _ _ _).symm j
                have hgr := hP.lt
                have hql := (hown.lt (P + 1) rfl).2
                have HO := Lib.hid hown
                have HB := Lib.hid hb
                have HF := Lib.hid hfr
                unfold iv at hx0
                generalize (partT r lo k m j)[j]'(by rw [partT_length]; exact hlt) = x0 at *
                generalize w6 (lo + (numT r (j * k) k : Nat)) = x at *
                clear hP hown hb hfr
                go_wp2_with fail
                refine hT.mono ?_
                rintro e w5 ⟨rfl, hP5, hf5⟩
                have hx5 := (hf5.cell (p := ⟨P + 1, j, none⟩) hql (fun e => by have : P + 1 = P := e; omega)).trans hx0
                have hown5 := HO.out.fr hf5 (fun q hq e => by simp [Value.ownBlock] at hq; have : q = P := e; omega)
                have hz5 := hown5.frozen (partT_length _ _ _ _ _).symm j
                have hs5 := hf5.size
                have hb5 := vs_keep0 HB.out (w' := w5) (fun h0 q hq hqs => hf5.block q hqs (fun e => by have := hu1 h0 q hq; have : q = P := e; omega))
                have hf5n := HF.out.fresh hf5 (fun q hq => by have : q = P := hq; omega)
                have HP5 := Lib.hid hP5
                have HO5 := Lib.hid hown5
                have HB5 := Lib.hid hb5
                have HF5 := Lib.hid hf5n
                clear hT hP5 hown5 hb5 hf5n hf5 hx0 hz0
                go_wp2
                go_roundw
                case rel =>
                  have hFs := (Fr.refl (One (P + 1)) w5).set1 j (.int .i64 x)
                  refine ⟨j + 1, by omega, by go_num, ?_, ?_, ?_, ?_⟩
                  · have := HP5.out.fr hFs (fun e => by have : P = P + 1 := e; omega)
                    rwa [show j * k + k = (j + 1) * k by rw [Nat.add_mul, Nat.one_mul]] at this
                  · rw [HST.out]
                    exact HO5.out.store (partT_length _ _ _ _ _).symm j x
                  · exact vs_keep0 HB5.out (fun h0 q hq hqs => hFs.block q hqs (fun e => by have := hu1 h0 q hq; have : q = P + 1 := e; omega))
                  · exact HF5.out.fresh hFs (fun q hq => by have : q = P + 1 := hq; omega)
                case measure => simp [intOf]; omega
              · obtain rfl : j = m := by omega
                rw [partT_all] at hown
                have HRl := Lib.hid (readT_length r lo k j)
                have HP0 := Lib.hid (tput_any _ (readT r lo k j) wr hown.vs (readT_i64 _ _ _ _) (by rw [HRl.out]; omega))
                have HO := Lib.hid (hown.mono (B' := w.heap.size) (by omega))
                have HF := Lib.hid hfr
                clear hP hown hb hfr
                by_cases he : putT (readT r lo k j) = b
                · have HR := Lib.hid (HG.out.trans (getT_yes HP.out HL.out he))
                  have hbb : (putT (readT r lo k j) == b) = true := by simp [he]
                  clear he
                  go_wp2_with fail
                  refine HP0.out.mono ?_
                  rintro e w6 ⟨u6, rfl, hown6, hf6⟩
                  go_wp2_with fail
                  refine (equal_any _ _ _ b w6 hown6.bs (HV.out.non (HF.out.trans hf6))).mono ?_
                  rintro e w7 ⟨rfl, rfl⟩
                  go_wp2
                  go_ret2
                  exact ⟨gtn_yes HR.out (HO.out.non hf6), HF.out.trans hf6⟩
                · have HR := Lib.hid (HG.out.trans (getT_ne HP.out he))
                  have hbb : (putT (readT r lo k j) == b) = false := by simp [he]
                  clear he
                  go_wp2_with fail
                  refine HP0.out.mono ?_
                  rintro e w6 ⟨u6, rfl, hown6, hf6⟩
                  go_wp2_with fail
                  refine (equal_any _ _ _ b w6 hown6.bs (HV.out.non (HF.out.trans hf6))).mono ?_
                  rintro e w7 ⟨rfl, rfl⟩
                  go_wp2
                  go_ret2
                  exact ⟨gtn_no HR.out, HF.out.trans hf6⟩
          · rw [decide_eq_false hlen] at ho
            have HR := Lib.hid (HG.out.trans (getT_len hp hlen))
            clear hp hlen
            go_enter Try.func33, Try.ntmps33
            go_wp2_with fail
            refine ho.mono ?_
            rintro e w1 ⟨u, rfl, hb1, hn1, hk8, hrb, f1⟩
            obtain ⟨A1, c1, rfl⟩ := hb1.shape
            clear hb1 hn1
            go_wp2
            go_ret2
            exact ⟨gtn_no HR.out, f1.alloc _⟩
end Go.Proofs.Ytemfmnjhmmlmbaa


namespace Go.Proofs.Ytemfmnjhmmlmbaa
set_option linter.unusedVariables false
set_option linter.unusedSimpArgs false
set_option maxRecDepth 100000
open Go.RowKit

theorem putT_len {l : List Int} (hx : ∀ x ∈ l, I64 x) : (putT l).length ≤ 20 + 8 * l.length := by
  by_cases h : l = []
  · subst h; simp [putT]
  · have hz := least_i64 hx
    have h1 := Lib.uvarint_length64 (zig_lt hz.1 hz.2)
    have h2 := Nat.mul_le_mul_left l.length (width_le hx)
    rw [putT_some h, List.length_append, List.length_cons, packB_length, allB_length]
    unfold need
    omega
end Go.Proofs.Ytemfmnjhmmlmbaa


namespace Go.Proofs.Ytemfmnjhmmlmbaa
set_option linter.unusedVariables false
set_option linter.unusedSimpArgs false
set_option maxRecDepth 100000
open Go.RowKit

theorem placesD_take (l : List Tx) (k : Nat) (h : k < l.length) : (placesD l).take (k + 1) = (placesD l).take k ++ [((uniq l).idxOf l[k] : Int)] := by
  unfold placesD
  rw [← List.map_take, ← List.map_take, List.take_succ_eq_append_getElem h, List.map_append]
  rfl

end Go.Proofs.Ytemfmnjhmmlmbaa


namespace Go.Proofs.Ytemfmnjhmmlmbaa
set_option linter.unusedVariables false
set_option linter.unusedSimpArgs false
set_option maxRecDepth 100000
open Go.RowKit Go.Maps Go.Sort

theorem sort_rising {ss : List Tx} (hn : ss.Nodup) : Rising (ss.mergeSort leB) := by
  have tr : ∀ a b c : Tx, leB a b = true → leB b c = true → leB a c = true := fun a b c h1 h2 => by simp only [leB, decide_eq_true_eq] at *; exact List.le_trans h1 h2
  have to : ∀ a b : Tx, (leB a b || leB b a) = true := fun a b => by simp only [leB, Bool.or_eq_true, decide_eq_true_eq]; exact List.le_total a b
  have h1 := List.pairwise_mergeSort tr to ss
  have h2 : (ss.mergeSort leB).Nodup := (List.mergeSort_perm ss leB).nodup_iff.2 hn
  refine (h1.and h2).imp ?_
  intro a b ⟨h3, h4⟩
  simp only [leB, decide_eq_true_eq] at h3
  rcases List.le_iff_lt_or_eq.1 h3 with h | h
  · exact h
  · exact absurd h h4
theorem sort_uniq {ss l : List Tx} (hn : ss.Nodup) (hm : ∀ x, x ∈ ss ↔ x ∈ l) : ss.mergeSort leB = uniq l :=
  rising_one (sort_rising hn) (uniq_rising l) fun x => by rw [(List.mergeSort_perm ss leB).mem_iff, hm, uniq_mem]

/-- what the map says when k of u's texts have their places -/
def gW (u : List Tx) (k : Nat) (x : Tx) : Int := if u.idxOf x < k then (u.idxOf x : Int) else 0
theorem gW_zero (u : List Tx) (x : Tx) : gW u 0 x = 0 := by unfold gW; rw [if_neg (by omega)]
theorem gW_step {u : List Tx} {k : Nat} (hk : k < u.length) (hn : u.Nodup) (x : Tx) : gW u (k + 1) x = if x = u[k] then (k : Int) else gW u k x := by
  have hi : u.idxOf u[k] = k := hn.idxOf_getElem k hk
  unfold gW
  by_cases he : x = u[k]
  · rw [if_pos he, he, hi, if_pos (by omega)]
  · rw [if_neg he]
    have hne : u.idxOf x ≠ k := fun e => he (by subst e; exact (List.getElem_idxOf hk).symm)
    by_cases hlt : u.idxOf x < k
    · rw [if_pos hlt, if_pos (by omega)]
    · rw [if_neg hlt, if_neg (by omega)]
theorem gW_all {u : List Tx} {x : Tx} (h : x ∈ u) : gW u u.length x = (u.idxOf x : Int) := by
  unfold gW; rw [if_pos (List.idxOf_lt_length_of_mem h)]
/-- the places, the first k of them laid -/
def laidD (l : List Tx) (k : Nat) : List Int := (placesD l).take k ++ List.replicate (l.length - k) 0
theorem laidD_zero (l : List Tx) : laidD l 0 = List.replicate l.length 0 := by simp [laidD]
theorem laidD_all (l : List Tx) : laidD l l.length = placesD l := by
  unfold laidD; rw [List.take_of_length_le (by rw [placesD_length]; exact Nat.le_refl _)]; simp
theorem laidD_length (l : List Tx) (k : Nat) (hk : k ≤ l.length) : (laidD l k).length = l.length := by
  unfold laidD; rw [List.length_append, List.length_take, placesD_length, List.length_replicate]; omega
theorem laidD_step (l : List Tx) (k : Nat) (hk : k < l.length) : laidD l (k + 1) = (laidD l k).set k ((uniq l).idxOf l[k] : Int) := by
  have hl : ((placesD l).take k).length = k := by rw [List.length_take, placesD_length]; omega
  unfold laidD
  rw [placesD_take l k hk, show l.length - k = (l.length - (k + 1)) + 1 by omega, List.replicate_succ, List.set_append_right _ _ (by omega), hl, Nat.sub_self]
  simp

theorem mem_take_succ {l : List Tx} {k : Nat} (h : k < l.length) (x : Tx) : x ∈ l.take (k + 1) ↔ x ∈ l[k] :: l.take k := by
  rw [List.take_succ_eq_append_getElem h, List.mem_append, List.mem_cons]; simp [or_comm]

set_option maxHeartbeats 4000000 in
theorem xput_any (v : Value) (l : List Tx) (w : World) (hv : Vs sv w v l) (hl : l.length ≤ 10000) (hx : ∀ x ∈ l, x.length < 1048576) (hb : (plainB (uniq l)).length < 137438953472) :
    Calls Try.prog 37 #[v] w fun e w' => ∃ u, e = .returned u ∧ Own w' w.heap.size u (dictB l) ∧ Fr Non w w' := by
  have HXL := Lib.hid hx
  have HX := Lib.hid (show ∀ x ∈ uniq l, x.length < 1048576 from fun x h => hx x ((uniq_mem l x).1 h))
  have HB := Lib.hid hb
  have HUl := Lib.hid (uniq_length l)
  have HND := Lib.hid (rising_nodup (uniq_rising l))
  have HME := Lib.hid (fun x => uniq_mem l x)
  have HPI := Lib.hid (placesD_i64 (l := l) (by omega))
  have HPL := Lib.hid (placesD_length l)
  have HSU := Lib.hid (fun (ss : List Tx) h1 h2 => sort_uniq (ss := ss) (l := l) h1 h2)
  have HMT := Lib.hid (fun k h => mem_take_succ (l := l) (k := k) h)
  have HLL := Lib.hid (laidD_length l)
  have HLS := Lib.hid (laidD_step l)
  have HL0 := Lib.hid (laidD_zero l)
  have HLA := Lib.hid (laidD_all l)
  have HD := Lib.hid (show dictB l = Lib.uvarint (uniq l).length ++ (plainB (uniq l) ++ putT (placesD l)) from rfl)
  clear hx hb
  obtain ⟨A, c, rfl, hlc, hn, hcell⟩ := hv
  have HN := Lib.hid hn
  have HC := Lib.hid hcell
  clear hn hcell
  have hmm := @run_makeMap Try.prog
  go_enter Try.func37, Try.ntmps37
  go_wp2
  have hm0 := MapW.made w (fun _ => 0)
  have hf0 : Fr Non w (w.alloc (.map #[] 0)) := (Fr.refl _ _).alloc _
  go_loopw [15] (fun i wr => ∃ k : Nat, k ≤ l.length ∧ i = .int .i64 k ∧ MapW wr w.heap.size k (l.take k) (fun _ => 0) ∧ Fr Non w wr) (fun i _ => l.length - (intOf i).toNat)
  case atStart => exact ⟨0, Nat.zero_le _, rfl, hm0, hf0⟩
  case round =>
    clear hm0 hf0
    obtain ⟨k, hk, rfl, hm, hfr⟩ := hrel
    by_cases hlt : k < l.length
    · cases A with
      | none => have := HN.out rfl; omega
      | some a =>
        have g0 : w.cell? (a.add k) = some (sv l[k]) := HC.out a rfl k hlt
        have g1 : wr.cell? (a.add k) = some (sv l[k]) := (hfr.cell (World.block_lt_of_cell? w _ g0) (fun e => e)).trans g0
        unfold sv at g1
        have hxl := HXL.out l[k] (List.getElem_mem hlt)
        have HM := Lib.hid (HMT.out k hlt)
        have HFr := Lib.hid hfr
        clear g0 hfr
        generalize l[k] = x at *
        go_wp2_with (at_mapUpdate; refine wpList_putM _ rfl _ _ _ rfl w.heap.size k (l.take k) (fun _ => 0) rfl hm (by omega) x 0 rfl rfl (by omega) (by omega) (by omega) ?_; intro w1 hm1 hf1)
        go_roundw
        case rel => exact ⟨k + 1, by omega, by go_num, hm1.congr HM.out (fun y _ => by simp), HFr.out.fresh hf1 (fun q hq => by have : q = w.heap.size := hq; omega)⟩
        case measure => simp [intOf]; omega
    · rename World => W1
      have hT : l.take k = l := List.take_of_length_le (by omega)
      rw [hT] at hm
      obtain rfl : k = l.length := by omega
      clear hT
      have HFr := Lib.hid hfr
      have hbl := hm.lt
      obtain ⟨D, h1, h2, h3⟩ := hm
      have hsz : Maps.size D ≤ l.length := h1.size_le
      have HM := Lib.hid (show MapW W1 w.heap.size l.length l (fun _ => 0) from ⟨D, h1, h2, h3⟩)
      have HK := Lib.hid (fun (ss : List Tx) (hp : ss.Perm (strKeys D)) => MapW.keys (g := fun _ => 0) h1 h2 hp)
      have hkeys := callsIn_wide.1 (mkeys_int64 (some w.heap.size) W1)
      have hsort := callsIn_wide.1 (msorted_int64 w.heap.size l.length D _ W1 h1 (by unfold maxLen; omega) (by omega))
      have HSo := Lib.hid hsort
      clear h1 h2 h3 hfr hsort
      go_wp2_with fail
      refine hkeys.mono ?_
      rintro e w1 ⟨rfl, hw1⟩
      subst hw1
      clear hkeys
      go_wp2_with fail
      refine HSo.out.mono ?_
      rintro e w2 ⟨v2, ss, rfl, hperm, hrow, hnil, hb2⟩
      obtain ⟨hnd, hmem⟩ := HK.out ss hperm
      have hU := HSU.out ss hnd hmem
      have hf1 : Fr Non W1 (W1.alloc (.cells #[.map (some w.heap.size)] 97)) := (Fr.refl _ _).alloc _
      have hf2 := hf1.trans (Fr.of_below hb2)
      have hul : ss.length = (uniq l).length := by rw [← hU, List.length_mergeSort]
      have how : Ow sv 9 w2 W1.heap.size v2 (uniq l) := by
        have h := row_mono hrow hf1.size
        unfold Ow
        rw [← hul, ← hU]
        exact h
      clear hrow hnil hb2 hperm hnd hmem hU hul hf1 hsz
      have hm2 := (HM.out.non hf2).congr (g' := gW (uniq l) 0) (ks' := l) (fun x => Iff.rfl) (fun x _ => gW_zero _ x)
      have hfw2 := HFr.out.trans hf2
      generalize hUU : uniq l = u at *
      clear hUU
      have HU := Lib.hid HUl.out
      have hul := HUl.out
      have HGS := Lib.hid (fun k (hk : k < u.length) => gW_step hk HND.out)
      obtain ⟨A2, c2, rfl⟩ := how.shape
      have HOw2 := Lib.hid how
      have HM2 := Lib.hid hm2
      have HF2 := Lib.hid hfw2
      have hle2 := hf2.size
      clear how hm2 hfw2 hf2 HFr HM
      go_wp2
      go_loopw [27] (fun i wx => ∃ j : Nat, j ≤ u.length ∧ i = .int .i64 j ∧ MapW wx w.heap.size (l.length + j) l (gW u j) ∧ Ow sv 9 wx W1.heap.size (.slice A2 u.length c2) u ∧ Fr Non w wx) (fun i _ => u.length - (intOf i).toNat)
      case atStart => exact ⟨0, Nat.zero_le _, rfl, HM2.out, HOw2.out, HF2.out⟩
      case round =>
        obtain ⟨j, hj, rfl, hm, how, hfr⟩ := hrel
        by_cases hju : j < u.length
        · obtain ⟨b, rfl, _, _, hcb⟩ := how.vs.addr (by omega : 0 < u.length)
          have g2 : wr.cell? (b.add j) = some (sv u[j]) := hcb j hju
          unfold sv at g2
          have hxl := HX.out u[j] (List.getElem_mem hju)
          have HG := Lib.hid (HGS.out j hju)
          have HMm := Lib.hid ((HME.out u[j]).1 (List.getElem_mem hju))
          have HO := Lib.hid how
          have HFr := Lib.hid hfr
          clear hcb how hfr
          generalize u[j] = x at *
          go_wp2_with (at_mapUpdate; refine wpList_putM _ rfl _ _ _ rfl w.heap.size (l.length + j) l (gW u j) rfl hm (by omega) x (j : Int) rfl rfl (by omega) (by omega) (by omega) ?_; intro w5 hm5 hf5)
          go_roundw
          case rel => exact ⟨j + 1, by omega, by go_num, hm5.congr (fun y => by rw [List.mem_cons]; exact ⟨.inr, fun h => h.elim (fun e => by rw [e]; exact HMm.out) id⟩) (fun y _ => HG.out y), HO.out.fr hf5 (fun q hq e => by have h1 := (HO.out.lt q hq).1; have h2 : q = w.heap.size := e; omega), HFr.out.fresh hf5 (fun q hq => by have : q = w.heap.size := hq; omega)⟩
          case measure => simp [intOf]; omega
        · rename World => W2
          obtain rfl : j = u.length := by omega
          have HM := Lib.hid hm
          have HO := Lib.hid how
          have HFr := Lib.hid hfr
          have HGA := Lib.hid (fun (x : Tx) (h : x ∈ l) => gW_all ((HME.out x).2 h))
          have hbW := hm.lt
          clear hm how hfr
          go_wp2_with (at_make; refine wpList_mkfullG el_i64 (f := iv) (0 : Int) rfl rfl _ _ rfl _ _ _ _ l.length rfl rfl rfl rfl (by omega) ?_; intro W3 hown3 hf3; have HO3 := Lib.hid hown3; have HF3 := Lib.hid hf3; clear hown3 hf3)
          rw [← HL0.out] at HO3
          have HM3 := Lib.hid (HM.out.non HF3.out)
          have HS3 := Lib.hid (HO.out.non HF3.out)
          have HFw3 := Lib.hid (HFr.out.trans HF3.out)
          have hle3 := HFw3.out.size
          have hle23 := HF3.out.size
          go_loopw [41] (fun i wx => ∃ q : Nat, q ≤ l.length ∧ i = .int .i64 q ∧ MapW wx w.heap.size (l.length + u.length) l (gW u u.length) ∧ Ow sv 9 wx W1.heap.size (.slice A2 u.length c2) u ∧ Ow iv 2 wx W2.heap.size (.slice (some ⟨W2.heap.size, 0, none⟩) l.length l.length) (laidD l q) ∧ Fr Non w wx) (fun i _ => l.length - (intOf i).toNat)
          case atStart => exact ⟨0, Nat.zero_le _, rfl, HM3.out, HS3.out, HO3.out, HFw3.out⟩
          case round =>
            obtain ⟨q, hq, rfl, hm, how, hat, hfr⟩ := hrel
            by_cases hlt : q < l.length
            · cases A with
              | none => have := HN.out rfl; omega
              | some a =>
                have g0 : w.cell? (a.add q) = some (sv l[q]) := HC.out a rfl q hlt
                have g1 : wr.cell? (a.add q) = some (sv l[q]) := (hfr.cell (World.block_lt_of_cell? w _ g0) (fun e => e)).trans g0
                unfold sv at g1
                have hxl := HXL.out l[q] (List.getElem_mem hlt)
                have hlook := hm.look (y := l[q]) (List.getElem_mem hlt) (by omega)
                rw [HGA.out _ (List.getElem_mem hlt)] at hlook
                have HLs := Lib.hid (HLS.out q hlt)
                have hll := HLL.out q hq
                have cq : wr.cell? ⟨W2.heap.size, q, none⟩ = some (iv (laidD l q)[q]) := hat.cell hll.symm q _ (List.getElem?_eq_getElem (by omega))
                have fq := hat.frozen hll.symm q
                have HAt := Lib.hid hat
                have HMm := Lib.hid hm
                have HOo := Lib.hid how
                have HFf := Lib.hid hfr
                have HLl := Lib.hid hll
                clear g0 hm how hat hfr
                unfold iv at cq
                generalize (laidD l q)[q] = old at *
                clear hll
                generalize u.idxOf l[q] = ix at *
                generalize l[q] = x at *
                go_wp2
                go_roundw
                case rel =>
                  have hst := HAt.out.store HLl.out.symm q (ix : Int)
                  have hf : Fr (One W2.heap.size) wr (wr.setCell ⟨W2.heap.size, q, none⟩ (.int .i64 ix)) := (Fr.refl (One W2.heap.size) wr).set1 q _
                  exact ⟨q + 1, by omega, by go_num, HMm.out.fr hf (fun e => by have h : w.heap.size = W2.heap.size := e; omega), HOo.out.fr hf (fun k hk e => by have h1 := (HO.out.lt k hk).2; have h2 : k = W2.heap.size := e; omega), by rw [HLs.out]; exact hst, HFf.out.fresh hf (fun k hk => by have h2 : k = W2.heap.size := hk; omega)⟩
                case measure => simp [intOf]; omega
            · rename World => W4
              obtain rfl : q = l.length := by omega
              rw [HLA.out] at hat
              have HAt := Lib.hid hat
              have HOo := Lib.hid how
              have HFf := Lib.hid hfr
              have hu64 : u.length < two64 := by unfold two64; omega
              have HU64 := Lib.hid hu64
              have huw : IntKind.u64.wrap (u.length : Int) = u.length := IntWalk.u64_in _ ⟨by omega, by omega⟩
              clear hu64 hat how hfr hm
              go_wp2_with fail
              refine (vnum_any u.length W4 HU64.out).mono ?_
              rintro e w5 ⟨v5, rfl, hown5, hf5⟩
              obtain ⟨A5, c5, rfl⟩ := hown5.shape
              go_wp2_with fail
              refine (plain_any _ u w5 (HOo.out.vs.non hf5) (by omega) HX.out HB.out).mono ?_
              rintro e w6 ⟨v6, rfl, hown6, hf6⟩
              obtain ⟨A6, c6, rfl⟩ := hown6.shape
              go_wp2_with fail
              refine (tput_any _ (placesD l) w6 ((HAt.out.vs.non hf5).non hf6) HPI.out (by rw [HPL.out]; omega)).mono ?_
              rintro e w7 ⟨v7, rfl, hown7, hf7⟩
              obtain ⟨A7, c7, rfl⟩ := hown7.shape
              have HP3 := Lib.hid (Parts.three (t := 22) ((hown5.bs.non hf6).non hf7) (hown6.bs.non hf7) hown7.bs)
              have hfl : [Lib.uvarint u.length, plainB u, putT (placesD l)].flatten.length < 1099511627776 := by
                have h1 := putT_len HPI.out
                have h2 := HPL.out
                have h3 := HB.out
                have h4 : (Lib.uvarint u.length).length ≤ 10 := Lib.uvarint_length64 HU64.out
                simp only [List.flatten_cons, List.flatten_nil, List.length_append, List.length_nil]
                omega
              have HFl := Lib.hid hfl
              clear hfl
              go_wp2_with fail
              refine (concat_any w7.heap.size 3 3 _ [Lib.uvarint u.length, plainB u, putT (placesD l)] _ rfl (by omega) HP3.out HFl.out).mono ?_
              rintro e w8 ⟨v8, rfl, hown8, hf8⟩
              go_wp2
              go_ret
              have hfin := ((HFf.out.trans hf5).trans hf6).trans hf7
              refine ⟨v8, rfl, ?_, hfin.trans (((Fr.refl Non w7).alloc _).trans hf8)⟩
              rw [HD.out]
              have hle := hfin.size
              have := hown8.mono (B' := w.heap.size) (by simp; omega)
              simpa using this
end Go.Proofs.Ytemfmnjhmmlmbaa


namespace Go.Proofs.Ytemfmnjhmmlmbaa
set_option linter.unusedVariables false
set_option linter.unusedSimpArgs false
set_option maxRecDepth 100000
open Go.RowKit

/-- what Get and Texts answer: nothing and false, or the texts and true -/
def Gtx (w : World) (B : Nat) (o : Option (List Tx)) (e : Ending) : Prop :=
  (o = none ∧ e = .returned (.tuple #[.slice none 0 0, .bool false])) ∨ (∃ l u, o = some l ∧ e = .returned (.tuple #[u, .bool true]) ∧ Ow sv 9 w B u l)
theorem gtx_no {w : World} {B : Nat} {o : Option (List Tx)} (h : o = none) : Gtx w B o (.returned (.tuple #[.slice none 0 0, .bool false])) := .inl ⟨h, rfl⟩
theorem gtx_yes {w : World} {B : Nat} {o : Option (List Tx)} {l : List Tx} {u : Value} (h : o = some l) (hu : Ow sv 9 w B u l) : Gtx w B o (.returned (.tuple #[u, .bool true])) := .inr ⟨l, u, h, rfl, hu⟩

/-- the first k of n texts laid -/
def partX (l : List Tx) (n k : Nat) : List Tx := l.take k ++ List.replicate (n - k) []
theorem partX_zero (l : List Tx) (n : Nat) : partX l n 0 = List.replicate n [] := by simp [partX]
theorem partX_length {l : List Tx} {n k : Nat} (hk : k ≤ n) (hl : k ≤ l.length) : (partX l n k).length = n := by
  unfold partX; rw [List.length_append, List.length_take, List.length_replicate]; omega
theorem partX_all {l : List Tx} {n : Nat} (hl : l.length = n) : partX l n n = l := by
  unfold partX; rw [List.take_of_length_le (by omega)]; simp
theorem partX_step {l : List Tx} {n k : Nat} (hk : k < n) (hl : k < l.length) : partX l n (k + 1) = (partX l n k).set k l[k] := by
  have h1 : (l.take k).length = k := by rw [List.length_take]; omega
  unfold partX
  rw [show n - k = (n - (k + 1)) + 1 by omega, List.replicate_succ, List.set_append_right _ _ (by omega), h1, Nat.sub_self, List.take_succ_eq_append_getElem hl]
  simp only [List.set_cons_zero, List.append_assoc, List.singleton_append]
theorem tks_take (m : Int) (b : List UInt8) (k : Nat) : ∀ j, (tks m b (k + j)).take k = tks m b k
  | 0 => List.take_of_length_le (by rw [tks_length]; exact Nat.le_refl _)
  | j + 1 => by
    show (tks m b (k + j) ++ [_]).take k = _
    rw [List.take_append_of_le_length (by rw [tks_length]; omega), tks_take m b k j]
theorem tks_at (m : Int) (b : List UInt8) {n k : Nat} (hk : k < n) (h : k < (tks m b n).length) : (tks m b n)[k] = txtT (tkR m b k) m := by
  obtain ⟨j, rfl⟩ : ∃ j, n = k + 1 + j := ⟨n - (k + 1), by omega⟩
  have h1 := tks_take m b (k + 1) j
  have h2 : (tks m b (k + 1 + j))[k] = ((tks m b (k + 1 + j)).take (k + 1))[k]'(by rw [List.length_take]; omega) := by rw [List.getElem_take]
  rw [h2]
  simp only [h1, tks]
  rw [List.getElem_append_right (by rw [tks_length]; exact Nat.le_refl _)]
  simp

set_option maxHeartbeats 4000000 in
theorem dtake_any (g : Nat) (b : List UInt8) (bad : Bool) (n : Nat) (m : Int) (w : World) (h : Src w g b bad) (hn : n ≤ 1000000) (hm : m ≤ 9223372036854775807) :
    Calls Try.prog 66 #[ptr g, .int .i64 n, .int .i64 m] w fun e w' => e = .returned (.slice (some ⟨w.heap.size, 0, none⟩) n n) ∧ Ow sv 9 w' w.heap.size (.slice (some ⟨w.heap.size, 0, none⟩) n n) (tks m b n) ∧ Src w' g (tkR m b n) (tkB m b bad n) ∧ Fr (One g) w w' := by
  have HH := Lib.hid h
  have hgw := h.1.lt
  have HST := Lib.hid (fun k (hk : k < n) => partX_step (l := tks m b n) hk (by rw [tks_length]; exact hk))
  have HPL := Lib.hid (fun k (hk : k ≤ n) => partX_length (l := tks m b n) hk (by rw [tks_length]; exact hk))
  have HAT := Lib.hid (fun k (hk : k < n) => tks_at m b hk (by rw [tks_length]; exact hk))
  have HZ := Lib.hid (partX_zero (tks m b n) n)
  have HA := Lib.hid (partX_all (tks_length m b n))
  have HTL := Lib.hid (tks_length m b n)
  clear h
  go_enter Try.func66, Try.ntmps66
  go_wp2_with (at_make; refine wpList_mkfullG el_str (f := sv) ([] : Tx) rfl rfl _ _ rfl _ _ _ _ n rfl rfl rfl rfl (by omega) ?_; intro w1 hown1 hf1; have HO1 := Lib.hid hown1; have HF1 := Lib.hid hf1; clear hown1 hf1)
  rw [← HZ.out] at HO1
  have HS1 := Lib.hid (HH.out.fr HF1.out (fun e => e))
  have hle1 := HF1.out.size
  go_loopw [13] (fun i wx => ∃ k : Nat, k ≤ n ∧ i = .int .i64 k ∧ Ow sv 9 wx w.heap.size (.slice (some ⟨w.heap.size, 0, none⟩) n n) (partX (tks m b n) n k) ∧ Src wx g (tkR m b k) (tkB m b bad k) ∧ Fr (One g) w wx) (fun i _ => n - (intOf i).toNat)
  case atStart => exact ⟨0, Nat.zero_le _, rfl, HO1.out, HS1.out, HF1.out.mono (fun _ _ e => e.elim)⟩
  case round =>
    obtain ⟨k, hk, rfl, hown, hs, hfr⟩ := hrel
    by_cases hlt : k < n
    · have htx := stext_any g _ _ m wr hs hm
      have HL := Lib.hid (HPL.out k hk)
      have HO := Lib.hid hown
      have HFr := Lib.hid hfr
      have HS2 := Lib.hid (HST.out k hlt)
      have HA2 := Lib.hid (HAT.out k hlt)
      have hx0 : k < (partX (tks m b n) n k).length := by rw [HL.out]; exact hlt
      have hex : ∃ y, (partX (tks m b n) n k)[k]? = some y := ⟨_, List.getElem?_eq_getElem hx0⟩
      obtain ⟨old, hold⟩ := hex
      have HX0 := Lib.hid hold
      clear hold
      have hsz := hfr.size
      clear hown hs hfr hx0
      go_wp2_with fail
      refine htx.mono ?_
      rintro e w2 ⟨rfl, hs2, hf2⟩
      have ho2 := HO.out.fr hf2 (fun q hq e => by have h1 := (HO.out.lt q hq).1; have h2 : q = g := e; omega)
      have cq := ho2.cell HL.out.symm k _ HX0.out
      have fq := ho2.frozen HL.out.symm k
      unfold sv at cq
      have HO2 := Lib.hid ho2
      have HS3 := Lib.hid hs2
      clear ho2 hs2 htx
      go_wp2
      go_roundw
      case rel =>
        have hst := HO2.out.store HL.out.symm k (txtT (tkR m b k) m)
        have hf : Fr (One w.heap.size) w2 (w2.setCell ⟨w.heap.size, k, none⟩ (sv (txtT (tkR m b k) m))) := (Fr.refl (One w.heap.size) w2).set1 k _
        refine ⟨k + 1, by omega, by go_num, ?_, HS3.out.fr hf (fun e => by have h : g = w.heap.size := e; omega), (HFr.out.trans hf2).fresh hf (fun q hq => by have h2 : q = w.heap.size := hq; omega)⟩
        rw [HS2.out, HA2.out]; exact hst
      case measure => simp [intOf]; omega
    · obtain rfl : k = n := by omega
      rw [HA.out] at hown
      go_wp2
      go_ret
      exact ⟨rfl, hown, hs, hfr⟩

theorem pickD_none {u : List Tx} {l : List Int} {a : Int} (h : a ∈ l) (hn : a < 0 ∨ (u.length : Int) ≤ a) : pickD u l = none := by
  unfold pickD
  rw [if_neg]
  intro hc
  have := hc a h
  omega
theorem pickD_some {u : List Tx} {l : List Int} (h : ∀ a ∈ l, 0 ≤ a ∧ a < (u.length : Int)) : pickD u l = some (l.map fun a => u.getD a.toNat []) := by
  unfold pickD
  rw [if_pos h]

set_option maxHeartbeats 4000000 in
theorem pick_any (v1 v2 : Value) (u : List Tx) (l : List Int) (w : World) (h1 : Vs sv w v1 u) (h2 : Vs iv w v2 l) (hl : l.length ≤ 1000000) (hu : u.length ≤ 1000000) :
    Calls Try.prog 69 #[v1, v2] w fun e w' => Gtx w' w.heap.size (pickD u l) e ∧ Fr Non w w' := by
  have HV1 := Lib.hid h1
  have HV2 := Lib.hid h2
  obtain ⟨A1, c1, rfl⟩ := h1.shape
  obtain ⟨A2, c2, rfl⟩ := h2.shape
  have HST := Lib.hid (fun k (hk : k < l.length) => partX_step (l := l.map fun a => u.getD a.toNat []) (n := l.length) hk (by rw [List.length_map]; exact hk))
  have HPL := Lib.hid (fun k (hk : k ≤ l.length) => partX_length (l := l.map fun a => u.getD a.toNat []) (n := l.length) hk (by rw [List.length_map]; exact hk))
  have HZ := Lib.hid (partX_zero (l.map fun a => u.getD a.toNat []) l.length)
  have HA := Lib.hid (partX_all (l := l.map fun a => u.getD a.toNat []) (n := l.length) (by rw [List.length_map]))
  clear h1 h2
  go_enter Try.func69, Try.ntmps69
  go_wp2_with (at_make; refine wpList_mkfullG el_str (f := sv) ([] : Tx) rfl rfl _ _ rfl _ _ _ _ l.length rfl rfl rfl rfl (by omega) ?_; intro w1 hown1 hf1; have HO1 := Lib.hid hown1; have HF1 := Lib.hid hf1; clear hown1 hf1)
  rw [← HZ.out] at HO1
  have hle1 := HF1.out.size
  go_loopw [14] (fun i wx => ∃ k : Nat, k ≤ l.length ∧ i = .int .i64 k ∧ Hid (∀ a ∈ l.take k, 0 ≤ a ∧ a < (u.length : Int)) ∧ Ow sv 9 wx w.heap.size (.slice (some ⟨w.heap.size, 0, none⟩) l.length l.length) (partX (l.map fun a => u.getD a.toNat []) l.length k) ∧ Fr Non w wx) (fun i _ => l.length - (intOf i).toNat)
  case atStart => exact ⟨0, Nat.zero_le _, rfl, Lib.hid (fun a h => by simp at h), HO1.out, HF1.out⟩
  case round =>
    obtain ⟨k, hk, rfl, HIn, hown, hfr⟩ := hrel
    by_cases hlt : k < l.length
    · obtain ⟨b, rfl, _, _, hcb⟩ := (HV2.out.non hfr).addr (by omega : 0 < l.length)
      have g2 : wr.cell? (b.add k) = some (iv l[k]) := hcb k hlt
      unfold iv at g2
      have HMm := Lib.hid (List.getElem_mem hlt)
      clear hcb
      by_cases hneg : l[k] < 0
      · have hd : decide (l[k] < 0) = true := by simpa using hneg
        have HNo := Lib.hid (pickD_none (u := u) HMm.out (.inl hneg))
        clear hneg
        generalize l[k] = z at *
        go_wp2
        go_ret2
        exact ⟨gtx_no HNo.out, hfr⟩
      · by_cases hbig : (u.length : Int) ≤ l[k]
        · have hd : decide (l[k] < 0) = false := by simpa using hneg
          have hd2 : decide ((u.length : Int) ≤ l[k]) = true := by simpa using hbig
          have hd3 : decide (l[k] ≥ (u.length : Int)) = true := by simpa using hbig
          have HNo := Lib.hid (pickD_none (u := u) HMm.out (.inr hbig))
          clear hbig hneg
          generalize l[k] = z at *
          go_wp2
          go_ret2
          exact ⟨gtx_no HNo.out, hfr⟩
        · have HIn2 : Hid (∀ a ∈ l.take (k + 1), 0 ≤ a ∧ a < (u.length : Int)) := Lib.hid (by
            intro a ha
            rw [List.take_succ_eq_append_getElem hlt, List.mem_append] at ha
            rcases ha with ha | ha
            · exact HIn.out a ha
            · obtain rfl : a = l[k] := by simpa using ha
              omega)
          obtain ⟨p, hp⟩ := Int.eq_ofNat_of_zero_le (show 0 ≤ l[k] by omega)
          have HS2 := Lib.hid (HST.out k hlt)
          have HE : Hid ((l.map fun a => u.getD a.toNat [])[k]'(by rw [List.length_map]; exact hlt) = u.getD p []) := Lib.hid (by rw [List.getElem_map, hp]; rfl)
          have HL := Lib.hid (HPL.out k hk)
          rw [hp] at g2 hbig hneg
          clear hp HMm
          have hpu : p < u.length := by omega
          obtain ⟨d, rfl, _, _, hcd⟩ := (HV1.out.non hfr).addr (by omega : 0 < u.length)
          have g3 : wr.cell? (d.add p) = some (sv u[p]) := hcd p hpu
          have HU : Hid (u.getD p [] = u[p]) := Lib.hid (List.getElem_eq_getD (h := hpu) []).symm
          unfold sv at g3
          clear hcd hbig hneg
          have hx0 : k < (partX (l.map fun a => u.getD a.toNat []) l.length k).length := by rw [HL.out]; exact hlt
          have hex : ∃ y, (partX (l.map fun a => u.getD a.toNat []) l.length k)[k]? = some y := ⟨_, List.getElem?_eq_getElem hx0⟩
          obtain ⟨old, hold⟩ := hex
          have cq := hown.cell HL.out.symm k _ hold
          have fq := hown.frozen HL.out.symm k
          unfold sv at cq
          have HO := Lib.hid hown
          have HFr := Lib.hid hfr
          clear hown hfr hold hx0
          generalize u[p] = x at *
          go_wp2
          go_roundw
          case rel =>
            have hst := HO.out.store HL.out.symm k x
            have hf : Fr (One w.heap.size) wr (wr.setCell ⟨w.heap.size, k, none⟩ (.string ⟨x.toArray⟩)) := (Fr.refl (One w.heap.size) wr).set1 k _
            refine ⟨k + 1, by omega, by go_num, HIn2, ?_, HFr.out.fresh hf (fun q hq => by have h2 : q = w.heap.size := hq; omega)⟩
            rw [HS2.out, HE.out, HU.out]; exact hst
          case measure => simp [intOf]; omega
    · obtain rfl : k = l.length := by omega
      rw [HA.out] at hown
      have HYes := Lib.hid (pickD_some (u := u) (l := l) (by have := HIn.out; rwa [List.take_length] at this))
      go_wp2
      go_ret2
      exact ⟨gtx_yes HYes.out hown, hfr⟩

set_option maxHeartbeats 2000000 in
theorem texts_any (v : Value) (b : List UInt8) (n m : Int) (w : World) (hv : Bs w v b) (h1 : -9223372036854775808 ≤ n) (h2 : n ≤ 9223372036854775807) (hm : m ≤ 9223372036854775807) :
    Calls Try.prog 36 #[v, .int .i64 n, .int .i64 m] w fun e w' => Gtx w' w.heap.size (textsM b n m) e ∧ Fr Non w w' := by
  have HV := Lib.hid hv
  by_cases hn0 : n < 0
  · have hd : decide (n < 0) = true := by simpa using hn0
    have HNo : Hid (textsM b n m = none) := Lib.hid (by unfold textsM; rw [if_neg (by omega)])
    clear hn0 hv
    go_enter Try.func36, Try.ntmps36
    go_wp2
    go_ret2
    exact ⟨gtx_no HNo.out, Fr.refl _ _⟩
  · by_cases hn4 : 4096 < n
    · have hd : decide (n < 0) = false := by simpa using hn0
      have hd4 : decide (4096 < n) = true := by simpa using hn4
      have HNo : Hid (textsM b n m = none) := Lib.hid (by unfold textsM; rw [if_neg (by omega)])
      clear hn0 hv hn4
      go_enter Try.func36, Try.ntmps36
      go_wp2
      go_ret2
      exact ⟨gtx_no HNo.out, Fr.refl _ _⟩
    · obtain ⟨k, rfl⟩ := Int.eq_ofNat_of_zero_le (show 0 ≤ n by omega)
      have hk4 : k ≤ 4096 := by omega
      have hd : decide ((k : Int) < 0) = false := by simp
      have hd4 : decide (4096 < (k : Int)) = false := by simp; omega
      have HT : Hid (textsM b k m = if tkB m b false k = false ∧ tkR m b k = [] then some (tks m b k) else none) := Lib.hid (by
        unfold textsM
        simp only [Int.toNat_natCast]
        by_cases hc : tkB m b false k = false ∧ tkR m b k = []
        · rw [if_pos hc, if_pos ⟨by omega, by omega, hc.1, hc.2⟩]
        · rw [if_neg hc, if_neg (fun h => hc ⟨h.2.2.1, h.2.2.2⟩)])
      clear hn0 hv hn4 h1 h2
      go_enter Try.func36, Try.ntmps36
      go_wp2_with fail
      refine (from_any v b w HV.out).mono ?_
      rintro e w1 ⟨rfl, hs1, hf1⟩
      go_wp2_with fail
      refine (dtake_any w.heap.size b false k m w1 hs1 (by omega) hm).mono ?_
      rintro e w2 ⟨rfl, hown2, hs2, hf2⟩
      have hfr2 : Fr Non w w2 := hf1.fresh hf2 (fun q hq => by have h2 : q = w.heap.size := hq; omega)
      have hend := end_any _ _ _ w2 hs2
      by_cases hc : tkB m b false k = false ∧ tkR m b k = []
      · have HY := Lib.hid (HT.out.trans (if_pos hc))
        rw [hc.1, hc.2] at hend
        clear hc
        go_wp2_with fail
        refine hend.mono ?_
        rintro e w3 ⟨rfl, rfl⟩
        go_wp2
        go_ret2
        exact ⟨gtx_yes HY.out (hown2.mono hf1.size), hfr2⟩
      · have HNo := Lib.hid (HT.out.trans (if_neg hc))
        have hb : (!tkB m b false k && (tkR m b k).isEmpty) = false := by
          rw [Bool.eq_false_iff]
          intro e
          simp at e
          exact hc e
        rw [hb] at hend
        clear hc hb
        go_wp2_with fail
        refine hend.mono ?_
        rintro e w3 ⟨rfl, rfl⟩
        go_wp2
        go_ret2
        exact ⟨gtx_no HNo.out, hfr2⟩
end Go.Proofs.Ytemfmnjhmmlmbaa


namespace Go.Proofs.Ytemfmnjhmmlmbaa
set_option linter.unusedVariables false
set_option linter.unusedSimpArgs false
set_option maxRecDepth 100000
open Go.RowKit

theorem mostV_le {b : List UInt8} {K : Int} (h : 0 ≤ K) : (mostV b K : Int) ≤ K := by
  unfold mostV
  by_cases hm : mostOk b K = true
  · rw [if_pos hm]; exact (of_decide_eq_true hm).2
  · rw [if_neg hm]; exact h
theorem mostRx_len (b : List UInt8) (K : Int) : (mostR b K).length ≤ b.length := by
  unfold mostR
  split
  · exact rest_le b
  · simp
theorem pickD_len {u : List Tx} {at_ : List Int} {l : List Tx} (h : pickD u at_ = some l) : l.length = at_.length := by
  unfold pickD at h
  split at h
  · obtain rfl := Option.some.inj h
    rw [List.length_map]
  · cases h
theorem pickD_mem {u : List Tx} {at_ : List Int} {l : List Tx} (h : pickD u at_ = some l) : ∀ x ∈ l, x ∈ u := by
  unfold pickD at h
  split at h
  · rename_i hc
    obtain rfl := Option.some.inj h
    intro x hx
    obtain ⟨a, ha, rfl⟩ := List.mem_map.1 hx
    have h1 := hc a ha
    rw [← List.getElem_eq_getD (h := by omega)]
    exact List.getElem_mem _
  · cases h
theorem getM_len {b : List UInt8} {n : Int} {l : List Int} (h : getM b n = some l) : (l.length : Int) = n ∧ n ≤ 4096 := by
  unfold getM at h
  split at h
  · exact ⟨(getZ_is h).2.1, by omega⟩
  · cases h
theorem plainB_uniq {l : List Tx} {B : Nat} (hl : l.length ≤ 10000) (hx : ∀ x ∈ l, x.length ≤ B) (hB : B ≤ 1000000) : (plainB (uniq l)).length < 137438953472 := by
  have h1 := plainB_bound (l := uniq l) (B := B) (fun x h => hx x ((uniq_mem l x).1 h)) (by unfold two64; omega)
  have h2 := uniq_length l
  have h3 := Nat.mul_le_mul (show (uniq l).length ≤ 10000 by omega) (show B + 10 ≤ 1000010 by omega)
  omega

set_option maxHeartbeats 4000000 in
theorem xget_any (v : Value) (b : List UInt8) (n m : Int) (w : World) (hv : Bs w v b) (hvl : ∀ k, v.ownBlock = some k → k < w.heap.size) (hl : b.length ≤ 1000000) (h1 : -9223372036854775808 ≤ n) (h2 : n ≤ 9223372036854775807) (hm : m ≤ 9223372036854775807) :
    Calls Try.prog 38 #[v, .int .i64 n, .int .i64 m] w fun e w' => Gtx w' w.heap.size (dgetM b n m) e ∧ Fr Non w w' := by
  have HV := Lib.hid hv
  by_cases hn0 : n < 0
  · have hd : decide (n < 0) = true := by simpa using hn0
    have HNo : Hid (dgetM b n m = none) := Lib.hid (by unfold dgetM; rw [if_pos (.inl hn0)])
    clear hn0 hv
    go_enter Try.func38, Try.ntmps38
    go_wp2
    go_ret2
    exact ⟨gtx_no HNo.out, Fr.refl _ _⟩
  · by_cases hn4 : 4096 < n
    · have hd : decide (n < 0) = false := by simpa using hn0
      have hd4 : decide (4096 < n) = true := by simpa using hn4
      have HNo : Hid (dgetM b n m = none) := Lib.hid (by unfold dgetM; rw [if_pos (.inr hn4)])
      clear hn0 hv hn4
      go_enter Try.func38, Try.ntmps38
      go_wp2
      go_ret2
      exact ⟨gtx_no HNo.out, Fr.refl _ _⟩
    · obtain ⟨k, rfl⟩ := Int.eq_ofNat_of_zero_le (show 0 ≤ n by omega)
      have hk4 : k ≤ 4096 := by omega
      have hd : decide ((k : Int) < 0) = false := by simp
      have hd4 : decide (4096 < (k : Int)) = false := by simp; omega
      have HT : Hid (dgetM b k m = dgetK k b k m) := Lib.hid (by unfold dgetM; rw [if_neg (by omega)])
      obtain ⟨A, c, rfl⟩ := hv.shape
      have hkm : ((k : Int) + 1) - 1 = k := by omega
      have HKM := Lib.hid hkm
      have hcv := mostV_le (b := b) (K := (k : Int)) (by omega)
      have HRl := Lib.hid (mostRx_len b k)
      clear hn0 hv hn4 h1 h2 hkm
      go_enter Try.func38, Try.ntmps38
      go_wp2_with fail
      refine (from_any _ b w HV.out).mono ?_
      rintro e w1 ⟨rfl, hs1, hf1⟩
      have hbel := below_any w.heap.size b false ((k : Int) + 1) w1 hs1 (by omega)
      rw [HKM.out] at hbel
      go_wp2_with fail
      refine hbel.mono ?_
      rintro e w2 ⟨rfl, hs2, hf2⟩
      clear hbel
      have hCC : dgetK k b k m = (match getM (tkR m (mostR b k) (mostV b k)) k with
        | none => none
        | some at_ => match pickD (tks m (mostR b k) (mostV b k)) at_ with
          | none => none
          | some l => if dictB l = b then some l else none) := rfl
      rw [hCC] at HT
      clear hCC
      have HRl2 := HRl.out
      generalize mostV b k = q at *
      generalize mostR b k = r at *
      generalize mostB b k = bad at *
      go_wp2_with fail
      refine (dtake_any _ r bad q m w2 hs2 (by omega) hm).mono ?_
      rintro e w3 ⟨rfl, hown3, hs3, hf3⟩
      have hRt := tkR_len m r q
      have HKl := Lib.hid (tks_len m r q)
      have HKn := Lib.hid (tks_length m r q)
      generalize tks m r q = u at *
      generalize tkR m r q = t at *
      generalize tkB m r bad q = bad2 at *
      have hlft := left_any _ _ _ w3 hs3
      go_wp2_with fail
      refine hlft.mono ?_
      rintro e w4 ⟨rfl, rfl⟩
      have htk := take_any _ _ _ (t.length : Int) w3 hs3
      rw [(cut_all t).1] at htk
      clear hlft
      go_wp2_with fail
      refine htk.mono ?_
      rintro e w4 ⟨v4, rfl, hbs4, hnew4, hs4, hf4⟩
      clear htk
      have hu4 := hown3.vs.fr hf4 (fun y hy e => by have h1 := (hown3.lt y hy).1; have h2 : y = w.heap.size := e; have := hf1.size; have := hf2.size; have := hs1.1.lt; omega)
      have hfr4 : Fr Non w w4 := ((hf1.fresh hf2 (fun y hy => by have h2 : y = w.heap.size := hy; omega)).fresh hf3 (fun y hy => by have h2 : y = w.heap.size := hy; omega)).fresh hf4 (fun y hy => by have h2 : y = w.heap.size := hy; omega)
      have HU4 := Lib.hid hu4
      have HF4 := Lib.hid hfr4
      clear hu4 hs4 hf4 hnew4 hown3 hs3 hf3 hs2 hf2 hs1 hf1 hfr4
      have htg := tget_any v4 t (k : Int) w4 hbs4 (by omega) (by omega) (by omega)
      cases hg : getM t (k : Int) with
      | none =>
        rw [hg] at htg HT
        clear hg
        go_wp2_with fail
        refine htg.mono ?_
        rintro e w5 ⟨hgt, hf5⟩
        rcases hgt with ⟨_, rfl⟩ | ⟨_, _, h, _⟩
        · go_wp2
          go_ret2
          exact ⟨gtx_no HT.out, HF4.out.trans hf5⟩
        · cases h
      | some at_ =>
        rw [hg] at htg HT
        have hal := getM_len hg
        clear hg
        go_wp2_with fail
        refine htg.mono ?_
        rintro e w5 ⟨hgt, hf5⟩
        rcases hgt with ⟨h, _⟩ | ⟨at2, v5, he, rfl, hown5⟩
        · cases h
        · obtain rfl : at_ = at2 := by simpa using he
          clear he htg
          obtain ⟨A5, c5, rfl⟩ := hown5.shape
          have hpk := pick_any _ _ u at_ w5 (HU4.out.non hf5) hown5.vs (by omega) (by rw [HKn.out]; omega)
          have HF5 := Lib.hid (HF4.out.trans hf5)
          clear hown5 hf5
          cases hp : pickD u at_ with
          | none =>
            simp only [hp] at HT
            rw [hp] at hpk
            clear hp
            go_wp2_with fail
            refine hpk.mono ?_
            rintro e w6 ⟨hgt, hf6⟩
            rcases hgt with ⟨_, rfl⟩ | ⟨_, _, h, _⟩
            · go_wp2
              go_ret2
              exact ⟨gtx_no HT.out, HF5.out.trans hf6⟩
            · cases h
          | some lx =>
            simp only [hp] at HT
            rw [hp] at hpk
            have hxl : lx.length ≤ 4096 := by have := pickD_len hp; omega
            have HXm := Lib.hid (pickD_mem hp)
            clear hp
            have HXl : Hid (∀ x ∈ lx, x.length ≤ b.length) := Lib.hid (fun x hx => Nat.le_trans (HKl.out x (HXm.out x hx)) HRl2)
            go_wp2_with fail
            refine hpk.mono ?_
            rintro e w6 ⟨hgt, hf6⟩
            rcases hgt with ⟨h, _⟩ | ⟨lx2, v6, he, rfl, hown6⟩
            · cases h
            · obtain rfl : lx = lx2 := by simpa using he
              clear he hpk
              obtain ⟨A6, c6, rfl⟩ := hown6.shape
              have HF6 := Lib.hid (HF5.out.trans hf6)
              have HO6 := Lib.hid hown6
              have hdp := xput_any _ lx w6 hown6.vs (by omega) (fun x hx => by have := HXl.out x hx; omega) (plainB_uniq (by omega) HXl.out (by omega))
              have HB6 := Lib.hid ((HF6.out.size))
              have hB56 := hf6.size
              have HB5 := Lib.hid (HF5.out.size)
              clear hown6 hf6
              go_wp2_with fail
              refine hdp.mono ?_
              rintro e w7 ⟨v7, rfl, hown7, hf7⟩
              clear hdp
              have heq := equal_any v7 _ (dictB lx) b w7 hown7.bs (HV.out.non (HF6.out.trans hf7))
              have hO7 := (HO6.out.non hf7).mono (B' := w.heap.size) HB5.out
              have HO7 := Lib.hid hO7
              have HF7 := Lib.hid (HF6.out.trans hf7)
              clear hown7 hf7 hO7
              by_cases hd : dictB lx = b
              · rw [if_pos hd] at HT
                have hbb : (dictB lx == b) = true := by rw [hd]; simp
                rw [hbb] at heq
                clear hd hbb
                go_wp2_with fail
                refine heq.mono ?_
                rintro e w8 ⟨rfl, rfl⟩
                go_wp2
                go_ret2
                exact ⟨gtx_yes HT.out HO7.out, HF7.out⟩
              · rw [if_neg hd] at HT
                have hbb : (dictB lx == b) = false := by rw [beq_eq_false_iff_ne]; exact hd
                rw [hbb] at heq
                clear hd hbb
                go_wp2_with fail
                refine heq.mono ?_
                rintro e w8 ⟨rfl, rfl⟩
                go_wp2
                go_ret2
                exact ⟨gtx_no HT.out, HF7.out⟩
end Go.Proofs.Ytemfmnjhmmlmbaa


namespace Go.Proofs.Ytemfmnjhmmlmbaa
set_option linter.unusedVariables false
set_option linter.unusedSimpArgs false
set_option maxRecDepth 100000
open Go.RowKit

/-- what a way's get hands back -/
def Gtc (w : World) (B : Nat) (o : Option (List Cl)) (e : Ending) : Prop :=
  (o = none ∧ ∃ u l, e = .returned (.tuple #[u, .bool false]) ∧ Oc w B u l) ∨ (∃ l u, o = some l ∧ e = .returned (.tuple #[u, .bool true]) ∧ Oc w B u l)
def OkNum (l : List Int) : Prop := ∀ x ∈ l, I64 x
/-- F puts numbers in way k -/
def PutNum (k F : Nat) : Prop := (∀ args W, (callFunc F args).run Try.prog W = .ok (.enter F args) W) ∧ ∀ (v : Value) (l : List Int) (w : World), Vs iv w v l → l.length ≤ 4096 → OkNum l →
    Calls Try.prog F #[v] w fun e w' => ∃ u, e = .returned u ∧ Own w' w.heap.size u (numW k l) ∧ Fr Non w w'
def GetNum (k F : Nat) : Prop := (∀ args W, (callFunc F args).run Try.prog W = .ok (.enter F args) W) ∧ ∀ (v : Value) (b : List UInt8) (n : Nat) (w : World), Bs w v b → (∀ q, v.ownBlock = some q → q < w.heap.size) → b.length ≤ 100000 → n ≤ 4096 →
    Calls Try.prog F #[v, .int .i64 n] w fun e w' => Gtn w' w.heap.size (numG k b n) e ∧ Fr Non w w'
theorem putNum1 : PutNum 1 26 := ⟨Try.call26, fun v l w hv hl hx => each_any v l w hv (by omega) hx⟩
theorem putNum2 : PutNum 2 28 := ⟨Try.call28, fun v l w hv hl hx => rnput_any v l w hv (by omega) hx⟩
theorem putNum3 : PutNum 3 30 := ⟨Try.call30, fun v l w hv hl hx => dput_any v l w hv (by omega)⟩
theorem putNum4 : PutNum 4 32 := ⟨Try.call32, fun v l w hv hl hx => tput_any v l w hv hx (by omega)⟩
theorem getNum1 : GetNum 1 27 := ⟨Try.call27, fun v b n w hv _ hl hn => geach_any v b n w hv (by omega)⟩
theorem getNum2 : GetNum 2 29 := ⟨Try.call29, fun v b n w hv _ hl hn => rnget_any v b n w hv (by omega) (by omega) (by omega)⟩
theorem getNum3 : GetNum 3 31 := ⟨Try.call31, fun v b n w hv _ hl hn => dget_any v b n w hv (by omega) (by omega) (by omega)⟩
theorem getNum4 : GetNum 4 33 := ⟨Try.call33, fun v b n w hv _ hl hn => tget_any v b n w hv (by omega) (by omega) (by omega)⟩

theorem map_take_num (l : List Cl) (k : Nat) (h : k < l.length) : (l.take (k + 1)).map Cl.num = (l.take k).map Cl.num ++ [l[k].num] := by
  rw [List.take_succ_eq_append_getElem h, List.map_append]; rfl

set_option maxHeartbeats 4000000 in
/-- the put of a way: F puts them -/
theorem cput_num (k : Nat) (F : Nat) (hF : PutNum k F) (g : Nat) (v : Value) (l : List Cl) (w : World) (hb : Blk w g 60 #[.func (.func F) #[] #[]]) (hv : Cs w v l) (hl : l.length ≤ 4096) (hx : OkNum (l.map Cl.num)) :
    Calls Try.prog 44 #[v, ptr g] w fun e w' => ∃ u, e = .returned u ∧ Own w' w.heap.size u (numW k (l.map Cl.num)) ∧ Fr Non w w' := by
  obtain ⟨A, c, rfl, hlc, hn, hcell⟩ := hv
  have HC := Lib.hid hcell
  have HN := Lib.hid hn
  have HB := Lib.hid hb
  have HX := Lib.hid hx
  have HF := Lib.hid hF
  clear hcell hn hb hx hF
  go_enter Try.func44, Try.ntmps44
  go_wp2_with (at_make; refine wpList_mkfullG el_i64 (f := iv) (0 : Int) rfl rfl _ _ rfl _ _ _ _ l.length rfl rfl rfl rfl (by omega) ?_; intro w2 hown2 hfr2)
  have hbl := HB.out.lt
  generalize hg : w.heap.size = r at *
  have hgl := Nat.le_of_eq hg
  have hgl2 := Nat.le_of_eq hg.symm
  clear hg
  have HS := Lib.hid hgl
  go_loopw [12] (fun i wr => ∃ (k : Nat), k ≤ l.length ∧ i = .int .i64 k ∧ Ow iv 2 wr r (.slice (some ⟨r, 0, none⟩) l.length l.length) ((l.take k).map Cl.num ++ List.replicate (l.length - k) (0 : Int)) ∧ Fr Non w wr) (fun i _ => l.length - (intOf i).toNat)
  case atStart => exact ⟨0, Nat.zero_le _, rfl, hown2, hfr2⟩
  case round =>
    clear hown2 hfr2
    obtain ⟨j, hj, rfl, hN, hfr⟩ := hrel
    by_cases hlt : j < l.length
    · cases A with
      | none => have := HN.out rfl; omega
      | some a =>
        obtain ⟨hc0, hc1, hc2⟩ := (hfr.at3 (HC.out a rfl j hlt)).lit
        have hlj : ((l.take j).map Cl.num).length = j := by rw [List.length_map, List.length_take]; omega
        have HL := Lib.hid (show l.length = ((l.take j).map Cl.num ++ List.replicate (l.length - j) (0 : Int)).length by rw [List.length_append, hlj, List.length_replicate]; omega)
        have hat := rep_at ((l.take j).map Cl.num) (l.length - j) (0 : Int) (by omega)
        have hset := rep_set ((l.take j).map Cl.num) (l.length - j) (0 : Int) l[j].num (by omega)
        rw [hlj] at hat hset
        rw [show l.length - j - 1 = l.length - (j + 1) by omega, ← map_take_num l j hlt] at hset
        have hcb := hN.cell HL.out j _ hat
        have hfb := hN.frozen HL.out j
        unfold iv at hcb
        have hbk : r < wr.heap.size := (hN.lt r rfl).2
        have K1 := Lib.hid (show ∀ X : Obj, Ow iv 2 ((wr.setCell ⟨r, j, none⟩ (iv l[j].num)).alloc X) r (.slice (some ⟨r, 0, none⟩) l.length l.length) ((l.take (j + 1)).map Cl.num ++ List.replicate (l.length - (j + 1)) (0 : Int)) ∧ Fr Non w ((wr.setCell ⟨r, j, none⟩ (iv l[j].num)).alloc X) from fun X => by
          refine ⟨?_, ?_⟩
          · rw [← hset]; exact (hN.store HL.out j l[j].num).alloc X
          · exact (hfr.fresh ((Fr.refl (One r) _).set1 j _) (fun q e => by have h1 : q = r := e; have := HS.out; omega)).alloc X)
        clear hN hat hset hlj
        generalize l[j] = x at *
        obtain ⟨xn, xi, xt⟩ := x
        obtain ⟨k1, k2⟩ := K1.out (.cells #[.bool xn, .int .i64 xi, .string ⟨xt.toArray⟩] 31)
        have k1 := Lib.hid k1
        have k2 := Lib.hid k2
        clear K1
        go_wp2_with fail
        go_roundw
        case rel => exact ⟨j + 1, by omega, by go_num, k1.out, k2.out⟩
        case measure => simp [intOf]; omega
    · obtain rfl : j = l.length := by omega
      rw [Nat.sub_self, List.replicate_zero, List.append_nil, List.take_length] at hN
      have hb1 := HB.out.fr hfr (fun e => e)
      have hc1 := hb1.cell 0
      simp at hc1
      have HO := Lib.hid hN
      have hcf := HF.out.1
      have H0 := Lib.hid (HF.out.2 (.slice (some ⟨r, 0, none⟩) l.length l.length) (l.map Cl.num) wr hN.vs (by rw [List.length_map]; exact hl) HX.out)
      clear hN hb1
      go_wp2_with fail
      refine H0.out.mono ?_
      rintro e w5 ⟨u, rfl, hown5, hf5⟩
      have hfr5 := hfr.trans hf5
      go_wp2
      go_ret
      exact ⟨_, rfl, hown5.mono (by have := HS.out; have := hfr.size; omega), hfr5⟩

set_option maxHeartbeats 4000000 in
/-- the get of a way: F gets them -/
theorem cget_num (k : Nat) (F : Nat) (hF : GetNum k F) (g : Nat) (v : Value) (b : List UInt8) (n : Nat) (w : World) (hb : Blk w g 61 #[.func (.func F) #[] #[]]) (hv : Bs w v b) (hvl : ∀ q, v.ownBlock = some q → q < w.heap.size) (hl : b.length ≤ 100000) (hn : n ≤ 4096) :
    Calls Try.prog 45 #[v, .int .i64 n, ptr g] w fun e w' => Gtc w' w.heap.size ((numG k b n).map (List.map numC)) e ∧ Fr Non w w' := by
  have hcf := hF.1
  have H0 := Lib.hid (hF.2 v b n w hv hvl hl hn)
  have HG := Lib.hid (fun l (h : numG k b n = some l) => (numG_is h).2.1)
  have hc1 := hb.cell 0
  simp at hc1
  clear hb hF hv hvl
  go_enter Try.func45, Try.ntmps45
  go_wp2_with fail
  refine H0.out.mono ?_
  rintro e w1 ⟨hG, hf1⟩
  obtain ⟨u, l, ok, rfl, hu, hlen, ho⟩ : ∃ u l ok, e = .returned (.tuple #[u, .bool ok]) ∧ Vs iv w1 u l ∧ l.length ≤ 4096 ∧ numG k b n = (if ok = true then some l else none) := by
    rcases hG with ⟨h1, rfl⟩ | ⟨l, u, h1, rfl, hown⟩
    · exact ⟨_, [], false, rfl, Vs.nil_ _, by simp, h1⟩
    · exact ⟨u, l, true, rfl, hown.vs, by rw [HG.out l h1]; exact hn, h1⟩
  obtain ⟨A, c, rfl, hlc, hnn, hcell⟩ := hu
  have HC := Lib.hid hcell
  have HN := Lib.hid hnn
  have HO := Lib.hid ho
  clear hcell hnn ho H0 HG hG hc1
  go_wp2_with (at_make; refine wpList_mkC rfl _ _ rfl _ _ _ _ l.length rfl rfl rfl rfl (by omega) ?_; intro w2 hown2 hfr2)
  have hs1 := hf1.size
  have hfr3 := hf1.trans hfr2
  have HF2 := Lib.hid hfr2
  generalize hg : w1.heap.size = r at *
  have hgl := Nat.le_of_eq hg
  clear hg hfr2
  have HS := Lib.hid hs1
  go_loopw [24] (fun i wr => ∃ (j : Nat), j ≤ l.length ∧ i = .int .i64 j ∧ Oc wr r (.slice (some ⟨r, 0, none⟩) l.length l.length) ((l.take j).map numC ++ List.replicate (l.length - j) ⟨false, 0, []⟩) ∧ Fr Non w wr ∧ Fr Non w1 wr) (fun i _ => l.length - (intOf i).toNat)
  case atStart => exact ⟨0, Nat.zero_le _, rfl, hown2, hfr3, HF2.out⟩
  case round =>
    clear hown2 hfr3 HF2
    obtain ⟨j, hj, rfl, hN, hfr, hfr1⟩ := hrel
    by_cases hlt : j < l.length
    · cases A with
      | none => have := HN.out rfl; omega
      | some a =>
        have hct := (hfr1.cell (World.block_lt_of_cell? w1 _ (HC.out a rfl j hlt)) (fun e => e)).trans (HC.out a rfl j hlt)
        unfold iv at hct
        have hlj : ((l.take j).map numC).length = j := by rw [List.length_map, List.length_take]; omega
        have HL := Lib.hid (show l.length = ((l.take j).map numC ++ List.replicate (l.length - j) (⟨false, 0, []⟩ : Cl)).length by rw [List.length_append, hlj, List.length_replicate]; omega)
        have hat := rep_at ((l.take j).map numC) (l.length - j) (⟨false, 0, []⟩ : Cl) (by omega)
        have hset := rep_set ((l.take j).map numC) (l.length - j) (⟨false, 0, []⟩ : Cl) (numC l[j]) (by omega)
        rw [hlj] at hat hset
        have hmt : (l.take j).map numC ++ [numC l[j]] = (l.take (j + 1)).map numC := by rw [List.take_succ_eq_append_getElem hlt, List.map_append]; rfl
        rw [show l.length - j - 1 = l.length - (j + 1) by omega, hmt] at hset
        obtain ⟨e0, e1, e2⟩ := hN.el HL.out j _ hat
        have f0 := hN.frozen HL.out (j * 3 + 1)
        have hbk : r < wr.heap.size := (hN.lt r rfl).2
        have hO2 := hN.put1 HL.out j _ hat l[j]
        have hO2' : Oc (wr.setCell ⟨r, j * 3 + 1, none⟩ (iv l[j])) r (.slice (some ⟨r, 0, none⟩) l.length l.length) ((l.take (j + 1)).map numC ++ List.replicate (l.length - (j + 1)) ⟨false, 0, []⟩) := by
          rw [← hset]; exact hO2
        have HO2 := Lib.hid hO2'
        have hfr2 := Lib.hid (hfr.fresh ((Fr.refl (One r) wr).set1 (j * 3 + 1) (iv l[j])) (fun q e => by have h1 : q = r := e; have := HS.out; omega))
        have hfr12 := Lib.hid (hfr1.fresh ((Fr.refl (One r) wr).set1 (j * 3 + 1) (iv l[j])) (fun q e => by have h1 : q = r := e; omega))
        clear hN hat hset hlj hmt hO2 hO2'
        generalize l[j] = x at *
        go_wp2_with fail
        go_roundw
        case rel => exact ⟨j + 1, by omega, by go_num, HO2.out, hfr2.out, hfr12.out⟩
        case measure => simp [intOf]; omega
    · obtain rfl : j = l.length := by omega
      rw [Nat.sub_self, List.replicate_zero, List.append_nil, List.take_length] at hN
      go_wp2
      go_ret2
      refine ⟨?_, hfr⟩
      cases ok with
      | true => exact .inr ⟨l.map numC, _, by rw [HO.out]; rfl, rfl, hN.mono HS.out⟩
      | false => exact .inl ⟨by rw [HO.out]; rfl, _, _, rfl, hN.mono HS.out⟩
end Go.Proofs.Ytemfmnjhmmlmbaa


namespace Go.Proofs.Ytemfmnjhmmlmbaa
set_option linter.unusedVariables false
set_option linter.unusedSimpArgs false
set_option maxRecDepth 100000
open Go.RowKit

def OkTxt (l : List Tx) : Prop := ∀ x ∈ l, x.length ≤ 1000
theorem txt_small {l : List Tx} (h : OkTxt l) (hl : l.length ≤ 4096) : (plainB l).length < 137438953472 := by
  have h1 := plainB_bound h (by unfold two64; omega)
  have h2 := Nat.mul_le_mul hl (Nat.le_refl (1000 + 10))
  omega
/-- F puts texts in way k -/
def PutTxt (k F : Nat) : Prop := (∀ args W, (callFunc F args).run Try.prog W = .ok (.enter F args) W) ∧ ∀ (v : Value) (l : List Tx) (w : World), Vs sv w v l → l.length ≤ 4096 → OkTxt l →
    Calls Try.prog F #[v] w fun e w' => ∃ u, e = .returned u ∧ Own w' w.heap.size u (txtW k l) ∧ Fr Non w w'
def GetTxt (k F : Nat) : Prop := (∀ args W, (callFunc F args).run Try.prog W = .ok (.enter F args) W) ∧ ∀ (v : Value) (b : List UInt8) (n : Nat) (w : World), Bs w v b → (∀ q, v.ownBlock = some q → q < w.heap.size) → b.length ≤ 100000 → n ≤ 4096 →
    Calls Try.prog F #[v, .int .i64 n, .int .i64 40] w fun e w' => Gtx w' w.heap.size (txtG k b n) e ∧ Fr Non w w'
theorem putTxt5 : PutTxt 5 35 := ⟨Try.call35, fun v l w hv hl hx => plain_any v l w hv (by omega) (fun x h => by have := hx x h; omega) (txt_small hx hl)⟩
theorem putTxt6 : PutTxt 6 37 := ⟨Try.call37, fun v l w hv hl hx => xput_any v l w hv (by omega) (fun x h => by have := hx x h; omega)
  (txt_small (fun x h => hx x ((uniq_mem l x).1 h)) (by have := uniq_length l; omega))⟩
theorem getTxt5 : GetTxt 5 36 := ⟨Try.call36, fun v b n w hv _ hl hn => texts_any v b n 40 w hv (by omega) (by omega) (by omega)⟩
theorem getTxt6 : GetTxt 6 38 := ⟨Try.call38, fun v b n w hv hvl hl hn => xget_any v b n 40 w hv hvl (by omega) (by omega) (by omega) (by omega)⟩
theorem txtG_len {k : Nat} {b : List UInt8} {n : Nat} {l : List Tx} (h : txtG k b n = some l) : True ∧ l.length = n ∧ True := ⟨trivial, (txtG_is h).2, trivial⟩

theorem map_take_txt (l : List Cl) (k : Nat) (h : k < l.length) : (l.take (k + 1)).map Cl.txt = (l.take k).map Cl.txt ++ [l[k].txt] := by
  rw [List.take_succ_eq_append_getElem h, List.map_append]; rfl

set_option maxHeartbeats 4000000 in
/-- the put of a way: F puts them -/
theorem cput_txt (k : Nat) (F : Nat) (hF : PutTxt k F) (g : Nat) (v : Value) (l : List Cl) (w : World) (hb : Blk w g 63 #[.func (.func F) #[] #[]]) (hv : Cs w v l) (hl : l.length ≤ 4096) (hx : OkTxt (l.map Cl.txt)) :
    Calls Try.prog 63 #[v, ptr g] w fun e w' => ∃ u, e = .returned u ∧ Own w' w.heap.size u (txtW k (l.map Cl.txt)) ∧ Fr Non w w' := by
  obtain ⟨A, c, rfl, hlc, hn, hcell⟩ := hv
  have HC := Lib.hid hcell
  have HN := Lib.hid hn
  have HB := Lib.hid hb
  have HX := Lib.hid hx
  have HF := Lib.hid hF
  clear hcell hn hb hx hF
  go_enter Try.func63, Try.ntmps63
  go_wp2_with (at_make; refine wpList_mkfullG el_str (f := sv) ([] : Tx) rfl rfl _ _ rfl _ _ _ _ l.length rfl rfl rfl rfl (by omega) ?_; intro w2 hown2 hfr2)
  have hbl := HB.out.lt
  generalize hg : w.heap.size = r at *
  have hgl := Nat.le_of_eq hg
  have hgl2 := Nat.le_of_eq hg.symm
  clear hg
  have HS := Lib.hid hgl
  go_loopw [12] (fun i wr => ∃ (k : Nat), k ≤ l.length ∧ i = .int .i64 k ∧ Ow sv 9 wr r (.slice (some ⟨r, 0, none⟩) l.length l.length) ((l.take k).map Cl.txt ++ List.replicate (l.length - k) ([] : Tx)) ∧ Fr Non w wr) (fun i _ => l.length - (intOf i).toNat)
  case atStart => exact ⟨0, Nat.zero_le _, rfl, hown2, hfr2⟩
  case round =>
    clear hown2 hfr2
    obtain ⟨j, hj, rfl, hN, hfr⟩ := hrel
    by_cases hlt : j < l.length
    · cases A with
      | none => have := HN.out rfl; omega
      | some a =>
        obtain ⟨hc0, hc1, hc2⟩ := (hfr.at3 (HC.out a rfl j hlt)).lit
        have hlj : ((l.take j).map Cl.txt).length = j := by rw [List.length_map, List.length_take]; omega
        have HL := Lib.hid (show l.length = ((l.take j).map Cl.txt ++ List.replicate (l.length - j) ([] : Tx)).length by rw [List.length_append, hlj, List.length_replicate]; omega)
        have hat := rep_at ((l.take j).map Cl.txt) (l.length - j) ([] : Tx) (by omega)
        have hset := rep_set ((l.take j).map Cl.txt) (l.length - j) ([] : Tx) l[j].txt (by omega)
        rw [hlj] at hat hset
        rw [show l.length - j - 1 = l.length - (j + 1) by omega, ← map_take_txt l j hlt] at hset
        have hcb := hN.cell HL.out j _ hat
        have hfb := hN.frozen HL.out j
        unfold sv at hcb
        have hbk : r < wr.heap.size := (hN.lt r rfl).2
        have K1 := Lib.hid (show ∀ X : Obj, Ow sv 9 ((wr.setCell ⟨r, j, none⟩ (sv l[j].txt)).alloc X) r (.slice (some ⟨r, 0, none⟩) l.length l.length) ((l.take (j + 1)).map Cl.txt ++ List.replicate (l.length - (j + 1)) ([] : Tx)) ∧ Fr Non w ((wr.setCell ⟨r, j, none⟩ (sv l[j].txt)).alloc X) from fun X => by
          refine ⟨?_, ?_⟩
          · rw [← hset]; exact (hN.store HL.out j l[j].txt).alloc X
          · exact (hfr.fresh ((Fr.refl (One r) _).set1 j _) (fun q e => by have h1 : q = r := e; have := HS.out; omega)).alloc X)
        clear hN hat hset hlj
        generalize l[j] = x at *
        obtain ⟨xn, xi, xt⟩ := x
        obtain ⟨k1, k2⟩ := K1.out (.cells #[.bool xn, .int .i64 xi, .string ⟨xt.toArray⟩] 31)
        have k1 := Lib.hid k1
        have k2 := Lib.hid k2
        clear K1
        go_wp2_with fail
        go_roundw
        case rel => exact ⟨j + 1, by omega, by go_num, k1.out, k2.out⟩
        case measure => simp [intOf]; omega
    · obtain rfl : j = l.length := by omega
      rw [Nat.sub_self, List.replicate_zero, List.append_nil, List.take_length] at hN
      have hb1 := HB.out.fr hfr (fun e => e)
      have hc1 := hb1.cell 0
      simp at hc1
      have HO := Lib.hid hN
      have hcf := HF.out.1
      have H0 := Lib.hid (HF.out.2 (.slice (some ⟨r, 0, none⟩) l.length l.length) (l.map Cl.txt) wr hN.vs (by rw [List.length_map]; exact hl) HX.out)
      clear hN hb1
      go_wp2_with fail
      refine H0.out.mono ?_
      rintro e w5 ⟨u, rfl, hown5, hf5⟩
      have hfr5 := hfr.trans hf5
      go_wp2
      go_ret
      exact ⟨_, rfl, hown5.mono (by have := HS.out; have := hfr.size; omega), hfr5⟩

set_option maxHeartbeats 4000000 in
/-- the get of a way: F gets them -/
theorem cget_txt (k : Nat) (F : Nat) (hF : GetTxt k F) (g : Nat) (v : Value) (b : List UInt8) (n : Nat) (w : World) (hb : Blk w g 64 #[.func (.func F) #[] #[]]) (hv : Bs w v b) (hvl : ∀ q, v.ownBlock = some q → q < w.heap.size) (hl : b.length ≤ 100000) (hn : n ≤ 4096) :
    Calls Try.prog 64 #[v, .int .i64 n, ptr g] w fun e w' => Gtc w' w.heap.size ((txtG k b n).map (List.map txtC)) e ∧ Fr Non w w' := by
  have hcf := hF.1
  have H0 := Lib.hid (hF.2 v b n w hv hvl hl hn)
  have HG := Lib.hid (fun l (h : txtG k b n = some l) => (txtG_len h).2.1)
  have hc1 := hb.cell 0
  simp at hc1
  clear hb hF hv hvl
  go_enter Try.func64, Try.ntmps64
  go_wp2_with fail
  refine H0.out.mono ?_
  rintro e w1 ⟨hG, hf1⟩
  obtain ⟨u, l, ok, rfl, hu, hlen, ho⟩ : ∃ u l ok, e = .returned (.tuple #[u, .bool ok]) ∧ Vs sv w1 u l ∧ l.length ≤ 4096 ∧ txtG k b n = (if ok = true then some l else none) := by
    rcases hG with ⟨h1, rfl⟩ | ⟨l, u, h1, rfl, hown⟩
    · exact ⟨_, [], false, rfl, Vs.nil_ _, by simp, h1⟩
    · exact ⟨u, l, true, rfl, hown.vs, by rw [HG.out l h1]; exact hn, h1⟩
  obtain ⟨A, c, rfl, hlc, hnn, hcell⟩ := hu
  have HC := Lib.hid hcell
  have HN := Lib.hid hnn
  have HO := Lib.hid ho
  clear hcell hnn ho H0 HG hG hc1
  go_wp2_with (at_make; refine wpList_mkC rfl _ _ rfl _ _ _ _ l.length rfl rfl rfl rfl (by omega) ?_; intro w2 hown2 hfr2)
  have hs1 := hf1.size
  have hfr3 := hf1.trans hfr2
  have HF2 := Lib.hid hfr2
  generalize hg : w1.heap.size = r at *
  have hgl := Nat.le_of_eq hg
  clear hg hfr2
  have HS := Lib.hid hs1
  go_loopw [24] (fun i wr => ∃ (j : Nat), j ≤ l.length ∧ i = .int .i64 j ∧ Oc wr r (.slice (some ⟨r, 0, none⟩) l.length l.length) ((l.take j).map txtC ++ List.replicate (l.length - j) ⟨false, 0, []⟩) ∧ Fr Non w wr ∧ Fr Non w1 wr) (fun i _ => l.length - (intOf i).toNat)
  case atStart => exact ⟨0, Nat.zero_le _, rfl, hown2, hfr3, HF2.out⟩
  case round =>
    clear hown2 hfr3 HF2
    obtain ⟨j, hj, rfl, hN, hfr, hfr1⟩ := hrel
    by_cases hlt : j < l.length
    · cases A with
      | none => have := HN.out rfl; omega
      | some a =>
        have hct := (hfr1.cell (World.block_lt_of_cell? w1 _ (HC.out a rfl j hlt)) (fun e => e)).trans (HC.out a rfl j hlt)
        unfold sv at hct
        have hlj : ((l.take j).map txtC).length = j := by rw [List.length_map, List.length_take]; omega
        have HL := Lib.hid (show l.length = ((l.take j).map txtC ++ List.replicate (l.length - j) (⟨false, 0, []⟩ : Cl)).length by rw [List.length_append, hlj, List.length_replicate]; omega)
        have hat := rep_at ((l.take j).map txtC) (l.length - j) (⟨false, 0, []⟩ : Cl) (by omega)
        have hset := rep_set ((l.take j).map txtC) (l.length - j) (⟨false, 0, []⟩ : Cl) (txtC l[j]) (by omega)
        rw [hlj] at hat hset
        have hmt : (l.take j).map txtC ++ [txtC l[j]] = (l.take (j + 1)).map txtC := by rw [List.take_succ_eq_append_getElem hlt, List.map_append]; rfl
        rw [show l.length - j - 1 = l.length - (j + 1) by omega, hmt] at hset
        obtain ⟨e0, e1, e2⟩ := hN.el HL.out j _ hat
        have f0 := hN.frozen HL.out (j * 3 + 2)
        have hbk : r < wr.heap.size := (hN.lt r rfl).2
        have hO2 := hN.put2 HL.out j _ hat l[j]
        have hO2' : Oc (wr.setCell ⟨r, j * 3 + 2, none⟩ (sv l[j])) r (.slice (some ⟨r, 0, none⟩) l.length l.length) ((l.take (j + 1)).map txtC ++ List.replicate (l.length - (j + 1)) ⟨false, 0, []⟩) := by
          rw [← hset]; exact hO2
        have HO2 := Lib.hid hO2'
        have hfr2 := Lib.hid (hfr.fresh ((Fr.refl (One r) wr).set1 (j * 3 + 2) (sv l[j])) (fun q e => by have h1 : q = r := e; have := HS.out; omega))
        have hfr12 := Lib.hid (hfr1.fresh ((Fr.refl (One r) wr).set1 (j * 3 + 2) (sv l[j])) (fun q e => by have h1 : q = r := e; omega))
        clear hN hat hset hlj hmt hO2 hO2'
        generalize l[j] = x at *
        go_wp2_with fail
        go_roundw
        case rel => exact ⟨j + 1, by omega, by go_num, HO2.out, hfr2.out, hfr12.out⟩
        case measure => simp [intOf]; omega
    · obtain rfl : j = l.length := by omega
      rw [Nat.sub_self, List.replicate_zero, List.append_nil, List.take_length] at hN
      go_wp2
      go_ret2
      refine ⟨?_, hfr⟩
      cases ok with
      | true => exact .inr ⟨l.map txtC, _, by rw [HO.out]; rfl, rfl, hN.mono HS.out⟩
      | false => exact .inl ⟨by rw [HO.out]; rfl, _, _, rfl, hN.mono HS.out⟩
end Go.Proofs.Ytemfmnjhmmlmbaa
