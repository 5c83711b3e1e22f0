/-
  Layer 5: the walk of runs.Get.
-/
import Derived.Test.YtaoonkjmhabfdaaRuns2
import Derived.Test.YtaoonkjmhabfdaaMathRuns2
import Derived.WalkMore
namespace Go.Proofs.Ytaoonkjmhabfdaa
set_option linter.unusedVariables false
set_option linter.unusedSimpArgs false
open Go.RowKit

/-- what Get answers: nothing and false, or the numbers and true -/
def Gtn (w : World) (B : Nat) (o : Option (List Int)) (e : Ending) : Prop :=
  (o = none ∧ e = .returned (.tuple #[.slice none 0 0, .bool false])) ∨ (∃ l u, o = some l ∧ e = .returned (.tuple #[u, .bool true]) ∧ Ow iv 2 w B u l)
theorem gtn_no {w : World} {B : Nat} {o : Option (List Int)} (h : o = none) : Gtn w B o (.returned (.tuple #[.slice none 0 0, .bool false])) := .inl ⟨h, rfl⟩
theorem gtn_yes {w : World} {B : Nat} {o : Option (List Int)} {l : List Int} {u : Value} (h : o = some l) (hu : Ow iv 2 w B u l) : Gtn w B o (.returned (.tuple #[u, .bool true])) := .inr ⟨l, u, h, rfl, hu⟩

set_option maxHeartbeats 4000000 in
theorem rnget_any (v : Value) (b : List UInt8) (n : Int) (w : World) (hv : Bs w v b) (hl : b.length ≤ 1000000000) (h1 : -9223372036854775808 ≤ n) (h2 : n ≤ 9223372036854775807) :
    Calls Try.prog 8 #[v, .int .i64 n] w fun e w' => Gtn w' w.heap.size (gtM b n) e ∧ Fr Non w w' := by
  have HV := Lib.hid hv
  obtain ⟨A, c, rfl, _⟩ := hv
  by_cases hn0 : n < 0
  · have hd : decide (n < 0) = true := by simpa using hn0
    have HN := Lib.hid hn0
    clear hn0
    go_enter Try.func8, Try.ntmps8
    go_wp2
    go_step3
    go_wp2
    try rw [Exit.noGoto_ret]
    go_ret2
    exact ⟨gtn_no (by have := HN.out; unfold gtM gtz; rw [if_pos (by omega), if_pos this]), Fr.refl _ _⟩
  · by_cases hn4 : 4096 < n
    · have hd : decide (n < 0) = false := by simpa using hn0
      have hd4 : decide (4096 < n) = true := by simpa using hn4
      go_enter Try.func8, Try.ntmps8
      go_wp2
      go_step3
      go_wp2
      try rw [Exit.noGoto_ret]
      go_ret2
      exact ⟨gtn_no (by unfold gtM; rw [if_neg (by omega)]), Fr.refl _ _⟩
    · obtain ⟨m, rfl⟩ := Int.eq_ofNat_of_zero_le (show 0 ≤ n by omega)
      have HG := Lib.hid (show gtM b m = gtz b m none by unfold gtM; rw [if_pos (by omega)])
      have hd : decide ((m : Int) < 0) = false := by simp
      have hd4 : decide (4096 < (m : Int)) = false := by simpa using hn4
      clear h1 h2
      go_enter Try.func8, Try.ntmps8
      go_wp2
      go_step3
      go_wp2_with fail
      refine (from_any _ b w HV.out).mono ?_
      rintro e w1 ⟨rfl, s1, f1⟩
      have hg1 := s1.1.lt
      go_wp2_with (at_make; refine wpList_mkG iv el_i64 rfl _ _ rfl _ _ _ m rfl rfl rfl (by omega) ?_; intro v2 w2 hown2 hfr2)
      go_step3
      go_wp2
      have s2 := s1.fr hfr2 (fun e => e)
      have f2 := f1.trans hfr2
      have hB := hfr2.size
      clear s1 f1 hfr2
      generalize hW : w1.heap.size = B at *
      generalize hgg : w.heap.size = g at *
      have HW := Lib.hid hgg
      clear hW hgg
      go_loopw [7] (fun x wr => ∃ (r : List UInt8) (o : List Int), Ow iv 2 wr B x o ∧ o.length ≤ m ∧ Src wr g r false ∧ Hid (gtz b m none = (gtz r ((m : Int) - o.length) o.getLast?).map (o ++ ·)) ∧ B ≤ wr.heap.size ∧ Fr Non w wr) (fun x _ => m - slLen x)
      case atStart => exact ⟨b, [], hown2, by simp, s2, Lib.hid (by simp), hB, f2⟩
      case round =>
        obtain ⟨r, o, hown, hom, hs, HI, hBr, hfr⟩ := hrel
        have HO := Lib.hid hown
        have HF := Lib.hid hfr
        obtain ⟨A1, c1, rfl⟩ := hown.shape
        clear hown hfr hown2 s2 f2
        have HIo := HI.out
        generalize hol : o.length = ol at *
        have HL := Lib.hid hol
        clear hol HI
        by_cases hlt : ol < m
        · have hcalc : ((m : Int) - ol - 1) = ((m - ol - 1 : Nat) : Int) := by omega
          have hne : r = [] ∨ r ≠ [] := by cases r <;> simp
          cases hx : nxR r (m - ol - 1) with
          | none =>
            have HR : Hid (gtz b m none = none) := Lib.hid (by
              rw [HIo]
              rcases hne with rfl | hne
              · rw [gtz_none (by omega)]; rfl
              · rw [gtz_bad hne (by omega) hx]; rfl)
            have hfe := step_none hx hcalc
            clear hx hcalc hne HIo
            go_wp2_with fail
            refine (below_any g r false ((m : Int) - ol) wr hs (by omega)).mono ?_
            rintro e w3 ⟨rfl, s3, f3⟩
            generalize mostV r ((m : Int) - ol - 1) = mv at *
            go_wp2_with fail
            refine (sint_any g _ _ w3 s3).mono ?_
            rintro e w4 ⟨rfl, s4, f4⟩
            rw [hfe] at s4
            generalize unzig (fstN (mostR r ((m : Int) - ol - 1))) = mz at *
            clear hfe s3
            have hf4 := (HF.out.fresh (f3.trans f4) (fun k e => by have : k = g := e; have := HW.out; omega))
            clear f3 f4
            go_wp2_with fail
            refine (ok_any g _ true w4 s4).mono ?_
            rintro e w5 ⟨rfl, rfl⟩
            go_wp2_with fail
            refine (end_any g _ true w4 s4).mono ?_
            rintro e w5 ⟨rfl, rfl⟩
            go_wp2
            try rw [Exit.noGoto_ret]
            go_ret2
            exact ⟨gtn_no (HG.out.trans HR.out), hf4⟩
          | some y =>
            obtain ⟨k, x, q⟩ := y
            obtain ⟨e1, e2, e3, e4, hkm, hxx⟩ := step_some hx hcalc
            have hb0 := below_any g r false ((m : Int) - ol) wr hs (by omega)
            rw [e1] at hb0
            have hi0 : ∀ w3, Src w3 g (mostR r ((m : Int) - ol - 1)) (mostB r ((m : Int) - ol - 1)) →
                Calls Try.prog 18 #[ptr g] w3 fun e w' => e = .returned (.int .i64 x) ∧ Src w' g q false ∧ Fr (One g) w3 w' := by
              intro w3 s3
              have := sint_any g _ _ w3 s3
              rwa [e2, e3, e4] at this
            have HI0 := Lib.hid hi0
            have HX := Lib.hid hx
            clear e1 e2 e3 e4 hi0 hcalc hne hx
            cases hla : o.getLast? with
            | none =>
              have hol : o = [] := by simpa using hla
              have h0 : ol = 0 := by rw [← HL.out, hol]; rfl
              have hw1 := HW.out
              have HIN : Hid (gtz b m none = (gtz q ((m : Int) - ol - ((k : Int) + 1)) (some x)).map (o ++ List.replicate (k + 1) x ++ ·)) := Lib.hid (by
                rw [HIo, gtz_more HX.out (by omega) (by rw [hla]; simp), more_app])
              subst h0
              clear hol
              clear HIo hla
              go_wp2_with fail
              refine hb0.mono ?_
              rintro e w3 ⟨rfl, s3, f3⟩
              go_wp2_with fail
              refine (HI0.out w3 s3).mono ?_
              rintro e w4 ⟨rfl, s4, f4⟩
              have f34 := f3.trans f4
              have hB4 := Nat.le_trans hBr f34.size
              have hf4 := (HF.out.fresh f34 (fun k e => by have : k = g := e; omega))
              have hown4 := HO.out.fr f34 (fun k hk e => by have h1 := (HO.out.lt k hk).1; have : k = g := e; omega)
              clear f3 f4 s3 f34
              go_wp2_with fail
              refine (ok_any g _ false w4 s4).mono ?_
              rintro e w5 ⟨rfl, rfl⟩
              go_wp2
              go_loopw [7, 54] (fun u i wx => ∃ j : Nat, j ≤ k + 1 ∧ i = .int .i64 j ∧ Ow iv 2 wx B u (o ++ List.replicate j x) ∧ Src wx g q false ∧ B ≤ wx.heap.size ∧ Fr Non w wx) (fun _ i _ => k + 1 - (intOf i).toNat)
              case atStart => exact ⟨0, Nat.zero_le _, rfl, by simpa using hown4, s4, hB4, hf4⟩
              case round =>
                clear hown4 s4 hf4 hB4
                obtain ⟨j, hj, rfl, hown, hs, hBx, hfr⟩ := hrel
                by_cases hlj : j < k + 1
                · have HLen : Hid ((o ++ List.replicate j x).length < 1099511627776) := Lib.hid (by rw [List.length_append, HL.out, List.length_replicate]; omega)
                  have HS := Lib.hid (show o ++ List.replicate j x ++ [x] = o ++ List.replicate (j + 1) x by rw [List.replicate_succ', List.append_assoc])
                  go_wp2_with (at_builtin; refine wpList_pushG el_i64 iv_oneC rfl (.tmp 56) (.tmp 58) rfl B _ (o ++ List.replicate j x) rfl hown _ x rfl rfl HLen.out hBx ?_; intro v5 w5 hown5 hf5)
                  have hf5n := hfr.fresh hf5 (fun q hq => by have := (hown.lt q hq).1; have := HW.out; omega)
                  go_roundw
                  case rel => exact ⟨j + 1, by omega, by go_num, by rw [← HS.out]; exact hown5, hs.fr hf5 (fun e => by have := (hown.lt _ e).1; omega), Nat.le_trans hBx hf5.size, hf5n⟩
                  case measure => simp [intOf]; omega
                · obtain rfl : j = k + 1 := by omega
                  have hsl := slLen_vs hown.vs
                  rw [List.length_append, HL.out, List.length_replicate] at hsl
                  go_wp2
                  go_roundw
                  case rel => exact ⟨q, o ++ List.replicate (k + 1) x, hown, by rw [List.length_append, HL.out, List.length_replicate]; omega, hs, Lib.hid (by rw [HIN.out, last_more, List.length_append, HL.out, List.length_replicate]; congr 2; push_cast; omega), hBx, hfr⟩
                  case measure => rw [hsl]; simp [slLen]; omega
            | some y =>
              obtain ⟨t, ht, hyt⟩ := last_at hla
              have hot : ol = t + 1 := by rw [← HL.out]; exact ht
              have hcl : ∃ g2, A1 = some ⟨g2, 0, none⟩ ∧ B ≤ g2 ∧ g2 < wr.heap.size ∧ wr.cell? ⟨g2, t, none⟩ = some (.int .i64 y) := by
                obtain ⟨g2, cap, he, h1, h2, _⟩ := HO.out.row (by omega)
                simp only [Value.slice.injEq] at he
                obtain ⟨rfl, _, _⟩ := he
                exact ⟨g2, rfl, h1, h2, HO.out.cell HL.out.symm t y hyt⟩
              obtain ⟨g2, rfl, hg2, hg2s, hc2⟩ := hcl
              subst hot
              have hw1 := HW.out
              clear ht hyt
              by_cases hyx : y = x
              · have HR : Hid (gtz b m none = none) := Lib.hid (by
                  rw [HIo, gtz_same HX.out (by push_cast; omega) (by rw [hla, hyx])]; rfl)
                have hb : (y == x) = true := by simp [hyx]
                clear HIo hla hyx
                go_wp2_with fail
                refine hb0.mono ?_
                rintro e w3 ⟨rfl, s3, f3⟩
                go_wp2_with fail
                refine (HI0.out w3 s3).mono ?_
                rintro e w4 ⟨rfl, s4, f4⟩
                have f34 := f3.trans f4
                have hc4 := (f34.cell (p := ⟨g2, t, none⟩) hg2s (fun e => by have : g2 = g := e; omega)).trans hc2
                have hf4 := (HF.out.fresh f34 (fun k e => by have : k = g := e; omega))
                clear f3 f4 s3 hc2
                go_wp2_with fail
                refine (ok_any g _ false w4 s4).mono ?_
                rintro e w5 ⟨rfl, rfl⟩
                go_wp2_with fail
                refine (fail_any g _ _ w4 s4).mono ?_
                rintro e w6 ⟨rfl, s6, f6⟩
                have hf6 := (hf4.fresh f6 (fun k e => by have : k = g := e; omega))
                go_wp2_with fail
                refine (end_any g _ true w6 s6).mono ?_
                rintro e w5 ⟨rfl, rfl⟩
                go_wp2
                try rw [Exit.noGoto_ret]
                go_ret2
                exact ⟨gtn_no (HG.out.trans HR.out), hf6⟩
              · have HIN : Hid (gtz b m none = (gtz q ((m : Int) - (t + 1 : Nat) - ((k : Int) + 1)) (some x)).map (o ++ List.replicate (k + 1) x ++ ·)) := Lib.hid (by
                  rw [HIo, gtz_more HX.out (by push_cast; omega) (by rw [hla]; simpa using hyx), more_app])
                have hb : (y == x) = false := by simpa using hyx
                clear HIo hla hyx
                go_wp2_with fail
                refine hb0.mono ?_
                rintro e w3 ⟨rfl, s3, f3⟩
                go_wp2_with fail
                refine (HI0.out w3 s3).mono ?_
                rintro e w4 ⟨rfl, s4, f4⟩
                have f34 := f3.trans f4
                have hc4 := (f34.cell (p := ⟨g2, t, none⟩) hg2s (fun e => by have : g2 = g := e; omega)).trans hc2
                clear hc2
                have hB4 := Nat.le_trans hBr f34.size
                have hf4 := (HF.out.fresh f34 (fun k e => by have : k = g := e; omega))
                have hown4 := HO.out.fr f34 (fun k hk e => by have h1 := (HO.out.lt k hk).1; have : k = g := e; omega)
                clear f3 f4 s3 f34
                go_wp2_with fail
                refine (ok_any g _ false w4 s4).mono ?_
                rintro e w5 ⟨rfl, rfl⟩
                go_wp2
                go_loopw [7, 54] (fun u i wx => ∃ j : Nat, j ≤ k + 1 ∧ i = .int .i64 j ∧ Ow iv 2 wx B u (o ++ List.replicate j x) ∧ Src wx g q false ∧ B ≤ wx.heap.size ∧ Fr Non w wx) (fun _ i _ => k + 1 - (intOf i).toNat)
                case atStart => exact ⟨0, Nat.zero_le _, rfl, by simpa using hown4, s4, hB4, hf4⟩
                case round =>
                  clear hown4 s4 hf4 hB4
                  obtain ⟨j, hj, rfl, hown, hs, hBx, hfr⟩ := hrel
                  by_cases hlj : j < k + 1
                  · have HLen : Hid ((o ++ List.replicate j x).length < 1099511627776) := Lib.hid (by rw [List.length_append, HL.out, List.length_replicate]; omega)
                    have HS := Lib.hid (show o ++ List.replicate j x ++ [x] = o ++ List.replicate (j + 1) x by rw [List.replicate_succ', List.append_assoc])
                    go_wp2_with (at_builtin; refine wpList_pushG el_i64 iv_oneC rfl (.tmp 56) (.tmp 58) rfl B _ (o ++ List.replicate j x) rfl hown _ x rfl rfl HLen.out hBx ?_; intro v5 w5 hown5 hf5)
                    have hf5n := hfr.fresh hf5 (fun q hq => by have := (hown.lt q hq).1; have := HW.out; omega)
                    go_roundw
                    case rel => exact ⟨j + 1, by omega, by go_num, by rw [← HS.out]; exact hown5, hs.fr hf5 (fun e => by have := (hown.lt _ e).1; omega), Nat.le_trans hBx hf5.size, hf5n⟩
                    case measure => simp [intOf]; omega
                  · obtain rfl : j = k + 1 := by omega
                    have hsl := slLen_vs hown.vs
                    rw [List.length_append, HL.out, List.length_replicate] at hsl
                    go_wp2
                    go_roundw
                    case rel => exact ⟨q, o ++ List.replicate (k + 1) x, hown, by rw [List.length_append, HL.out, List.length_replicate]; omega, hs, Lib.hid (by rw [HIN.out, last_more, List.length_append, HL.out, List.length_replicate]; congr 2; push_cast; omega), hBx, hfr⟩
                    case measure => rw [hsl]; simp [slLen]; omega
        · obtain rfl : ol = m := by omega
          rw [Int.sub_self] at HIo
          cases r with
          | nil =>
            have HR : Hid (gtz b ol none = some o) := Lib.hid (by rw [HIo, gtz_nil]; simp)
            clear HIo
            go_wp2_with fail
            refine (end_any g _ false wr hs).mono ?_
            rintro e w5 ⟨rfl, rfl⟩
            go_wp2
            try rw [Exit.noGoto_ret]
            go_ret2
            exact ⟨gtn_yes (HG.out.trans HR.out) (HO.out.mono (by have := HW.out; omega)), HF.out⟩
          | cons r0 r =>
            have HR : Hid (gtz b ol none = none) := Lib.hid (by rw [HIo, gtz_end (by simp)]; rfl)
            clear HIo
            go_wp2_with fail
            refine (end_any g _ false wr hs).mono ?_
            rintro e w5 ⟨rfl, rfl⟩
            go_wp2
            try rw [Exit.noGoto_ret]
            go_ret2
            exact ⟨gtn_no (HG.out.trans HR.out), HF.out⟩
end Go.Proofs.Ytaoonkjmhabfdaa
