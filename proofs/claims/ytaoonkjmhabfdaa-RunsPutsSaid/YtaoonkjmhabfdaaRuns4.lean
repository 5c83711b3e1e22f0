/-
  Layer 5: the walk of firkinref05.Get.
-/
import Derived.Test.YtaoonkjmhabfdaaRuns3
import Derived.Test.YtaoonkjmhabfdaaVint8
namespace Go.Proofs.Ytaoonkjmhabfdaa
set_option linter.unusedVariables false
set_option linter.unusedSimpArgs false
open Go.RowKit

def GeN (B : Nat) : Nat → Prop := fun k => B ≤ k
theorem mostR_len (l : List UInt8) (m : Int) : (mostR l m).length ≤ l.length := by
  unfold mostR
  split
  · exact rest_le l
  · simp

set_option maxHeartbeats 4000000 in
theorem rrnget_any (v : Value) (b : List UInt8) (n : Int) (w : World) (hv : Bs w v b) (hvl : ∀ k, v.ownBlock = some k → k < w.heap.size) (hl : b.length ≤ 100000000) (h1 : -9223372036854775808 ≤ n) (h2 : n ≤ 400) :
    Calls Try.prog 12 #[v, .int .i64 n] w fun e w' => Gtn w' w.heap.size (gtM b n) e ∧ Fr Non w w' := by
  have hsz := hvl
  have S0 : ∀ W, W = w.alloc (.cells #[v, .bool false] 43) → SAt W w.heap.size (GeN w.heap.size) b false := by
    rintro W rfl
    exact ⟨v, Blk.new _ _ _, hv.non ((Fr.refl _ _).alloc _), (fun k hk e => by have := hsz k hk; unfold GeN at e; omega), by unfold GeN; omega, fun h => by cases h⟩
  have HS0 := Lib.hid S0
  clear S0 hsz
  obtain ⟨A, c, rfl, _⟩ := hv
  have HG := Lib.hid (show gtM b n = gtz b n none by unfold gtM; rw [if_pos (by omega)])
  clear hvl
  go_enter Try.func12, Try.ntmps12
  go_wp2
  have s1 := HS0.out _ rfl
  have hg1 := s1.cells
  have hown1 : Ow iv 2 ((w.alloc (.cells #[.slice A b.length c, .bool false] 43)).alloc (.cells #[] 2)) (w.heap.size + 1) (.slice (some ⟨w.heap.size + 1, 0, none⟩) 0 0) [] := ow_lit0 _ _ _ (by simp) (Nat.le_refl _)
  have f1 : Fr Non w ((w.alloc (.cells #[.slice A b.length c, .bool false] 43)).alloc (.cells #[] 2)) := ((Fr.refl _ _).alloc _).alloc _
  have s2 := s1.fr (S' := Non) ((Fr.refl _ _).alloc (.cells #[] 2)) (fun e => e) (fun _ e => e.elim)
  have hBB : w.heap.size + 1 ≤ ((w.alloc (.cells #[.slice A b.length c, .bool false] 43)).alloc (.cells #[] 2)).heap.size := by simp
  clear s1 hg1
  generalize hgg : w.heap.size = g at *
  have HW := Lib.hid hgg
  clear hgg
  go_loopw [7] (fun x wr => ∃ (r : List UInt8) (o : List Int), Ow iv 2 wr (g + 1) x o ∧ ((o.length : Int) ≤ n ∨ o.length = 0) ∧ r.length ≤ b.length ∧ SAt wr g (GeN g) r false ∧ Hid (gtz b n none = (gtz r (n - o.length) o.getLast?).map (o ++ ·)) ∧ g + 1 ≤ wr.heap.size ∧ Fr Non w wr) (fun x _ => 401 - slLen x)
  case atStart => exact ⟨b, [], hown1, .inr rfl, Nat.le_refl _, s2, Lib.hid (by simp), hBB, f1⟩
  case round =>
    obtain ⟨r, o, hown, hom, hrb, hs, HI, hBr, hfr⟩ := hrel
    have HO := Lib.hid hown
    have HF := Lib.hid hfr
    obtain ⟨A1, c1, rfl⟩ := hown.shape
    clear hown hfr hown1 s2 f1 hBB
    have HIo := HI.out
    generalize hol : o.length = ol at *
    have HL := Lib.hid hol
    clear hol HI
    have ho4 : ol ≤ 400 := by omega
    obtain ⟨Ar, cr, cc0, cc1, ff0, _⟩ := hs.cells
    cases r with
    | nil =>
      simp only [List.length_nil] at cc0
      by_cases hz : n - ol = 0
      · have HR : Hid (gtz b n none = some o) := Lib.hid (by rw [HIo, hz, gtz_nil]; simp)
        have hb : ((ol : Int) != n) = false := by rw [bne_eq_false_iff_eq]; omega
        have HZ := Lib.hid hz
        clear HIo hz
        go_wp2
        go_ret2
        exact ⟨gtn_yes (HG.out.trans HR.out) (HO.out.mono (by have := HW.out; omega)), HF.out⟩
      · have HR : Hid (gtz b n none = none) := Lib.hid (by rw [HIo, gtz_none hz]; rfl)
        have hb : ((ol : Int) != n) = true := by rw [bne_iff_ne]; omega
        clear HIo hz
        go_wp2
        go_ret2
        exact ⟨gtn_no (HG.out.trans HR.out), HF.out⟩
    | cons r0 r1 =>
      have hrl : (0 : Int) < ((r0 :: r1).length : Int) := by simp
      have hne : r0 :: r1 ≠ [] := by simp
      generalize r0 :: r1 = r at *
      have hrl9 : r.length < 1000000000 := by omega
      cases hx : nxR r 400 with
      | none =>
        have HR : Hid (gtz b n none = none) := Lib.hid (by rw [HIo, gtz_bad hne (by omega) hx]; rfl)
        have hfe := step_none (z := 401 - 1) hx rfl
        have hml := mostR_len r (401 - 1)
        clear hx hne HIo
        go_wp2_with fail
        refine (rbelow_any g (GeN g) r false 401 wr hs hrl9 (by omega)).mono ?_
        rintro e w3 ⟨rfl, s3, f3⟩
        generalize mostV r (401 - 1) = mv at *
        go_wp2_with fail
        refine (rsint_any g (GeN g) _ _ w3 s3 (by omega)).mono ?_
        rintro e w4 ⟨rfl, s4, f4⟩
        rw [hfe] at s4
        generalize unzig (fstN (mostR r (401 - 1))) = mz at *
        clear hfe s3 hml cc0 cc1 ff0
        obtain ⟨Ar, cr, cc0, cc1, ff0, _⟩ := s4.cells
        have hf4 := (HF.out.fresh (f3.trans f4) (fun k e => by have : k = g := e; have := HW.out; omega))
        clear f3 f4
        go_wp2
        go_ret2
        exact ⟨gtn_no (HG.out.trans HR.out), hf4⟩
      | some y =>
        obtain ⟨k, x, q⟩ := y
        obtain ⟨e1, e2, e3, e4, hkm, hxx⟩ := step_some (z := 401 - 1) hx rfl
        have hql := nxR_le hx
        have hb0 := rbelow_any g (GeN g) r false 401 wr hs hrl9 (by omega)
        rw [e1] at hb0
        have hi0 : ∀ w3, SAt w3 g (GeN g) (mostR r (401 - 1)) (mostB r (401 - 1)) →
            Calls Try.prog 25 #[ptr g] w3 fun e w' => e = .returned (.int .i64 x) ∧ SAt w' g (GeN g) q false ∧ Fr (One g) w3 w' := by
          intro w3 s3
          have := rsint_any g (GeN g) _ _ w3 s3 (by have := mostR_len r (401 - 1); omega)
          rwa [e2, e3, e4] at this
        have HI0 := Lib.hid hi0
        have HX := Lib.hid hx
        clear e1 e2 e3 e4 hi0 hne hx
        have hw1 := HW.out
        by_cases hbig : n - ol < (k : Int) + 1
        · have HR : Hid (gtz b n none = none) := Lib.hid (by rw [HIo, gtz_big HX.out hbig]; rfl)
          clear HIo
          go_wp2_with fail
          refine hb0.mono ?_
          rintro e w3 ⟨rfl, s3, f3⟩
          go_wp2_with fail
          refine (HI0.out w3 s3).mono ?_
          rintro e w4 ⟨rfl, s4, f4⟩
          have hf4 := (HF.out.fresh (f3.trans f4) (fun k e => by have : k = g := e; omega))
          clear f3 f4 cc0 cc1 ff0
          obtain ⟨Ar, cr, cc0, cc1, ff0, _⟩ := s4.cells
          go_wp2
          go_ret2
          exact ⟨gtn_no (HG.out.trans HR.out), hf4⟩
        · have hfit : (k : Int) + 1 ≤ n - ol := by omega
          have hd : decide (n - ol < (k : Int) + 1) = false := by simpa using hfit
          cases hla : o.getLast? with
          | none =>
            have hol : o = [] := by simpa using hla
            have h0 : ol = 0 := by rw [← HL.out, hol]; rfl
            have HIN : Hid (gtz b n none = (gtz q (n - ol - ((k : Int) + 1)) (some x)).map (o ++ List.replicate (k + 1) x ++ ·)) := Lib.hid (by
              rw [HIo, gtz_more HX.out hfit (by rw [hla]; simp), more_app])
            subst h0
            clear hol
            clear HIo hla
            go_wp2_with fail
            refine hb0.mono ?_
            rintro e w3 ⟨rfl, s3, f3⟩
            go_wp2_with fail
            refine (HI0.out w3 s3).mono ?_
            rintro e w4 ⟨rfl, s4, f4⟩
            have f34 := f3.trans f4
            have hB4 := Nat.le_trans hBr f34.size
            have hf4 := (HF.out.fresh f34 (fun k e => by have : k = g := e; omega))
            have hown4 := HO.out.fr f34 (fun k hk e => by have h1 := (HO.out.lt k hk).1; have : k = g := e; omega)
            clear f3 f4 s3 f34 cc0 cc1 ff0
            obtain ⟨Ar, cr, cc0, cc1, ff0, _⟩ := s4.cells
            go_wp2
            go_loopw [7, 10] (fun u i wx => ∃ j : Nat, j ≤ k + 1 ∧ i = .int .i64 j ∧ Ow iv 2 wx (g + 1) u (o ++ List.replicate j x) ∧ SAt wx g (GeN g) q false ∧ g + 1 ≤ wx.heap.size ∧ Fr Non w wx) (fun _ i _ => k + 1 - (intOf i).toNat)
            case atStart => exact ⟨0, Nat.zero_le _, rfl, by simpa using hown4, s4, hB4, hf4⟩
            case round =>
              clear hown4 s4 hf4 hB4 cc0 cc1 ff0
              obtain ⟨j, hj, rfl, hown, hs, hBx, hfr⟩ := hrel
              by_cases hlj : j < k + 1
              · have HLen : Hid ((o ++ List.replicate j x).length < 1099511627776) := Lib.hid (by rw [List.length_append, HL.out, List.length_replicate]; omega)
                have HS := Lib.hid (show o ++ List.replicate j x ++ [x] = o ++ List.replicate (j + 1) x by rw [List.replicate_succ', List.append_assoc])
                go_wp2_with (at_builtin; refine wpList_pushG el_i64 iv_oneC rfl (.tmp 58) (.tmp 60) rfl (g + 1) _ (o ++ List.replicate j x) rfl hown _ x rfl rfl HLen.out hBx ?_; intro v5 w5 hown5 hf5)
                have hf5n := hfr.fresh hf5 (fun q hq => by have := (hown.lt q hq).1; have := HW.out; omega)
                go_roundw
                case rel => exact ⟨j + 1, by omega, by go_num, by rw [← HS.out]; exact hown5, hs.fr hf5 (fun e => by have := (hown.lt _ e).1; omega) (fun q hq => by have := (hown.lt _ hq).1; unfold GeN; omega), Nat.le_trans hBx hf5.size, hf5n⟩
                case measure => simp [intOf]; omega
              · obtain rfl : j = k + 1 := by omega
                have hsl := slLen_vs hown.vs
                rw [List.length_append, HL.out, List.length_replicate] at hsl
                go_wp2
                go_roundw
                case rel => exact ⟨q, o ++ List.replicate (k + 1) x, hown, .inl (by rw [List.length_append, HL.out, List.length_replicate]; omega), by omega, hs, Lib.hid (by rw [HIN.out, last_more, List.length_append, HL.out, List.length_replicate]; congr 2; push_cast; omega), hBx, hfr⟩
                case measure => rw [hsl]; simp [slLen]; omega
          | some y =>
            obtain ⟨t, ht, hyt⟩ := last_at hla
            have hot : ol = t + 1 := by rw [← HL.out]; exact ht
            have hcl : ∃ g2, A1 = some ⟨g2, 0, none⟩ ∧ g + 1 ≤ g2 ∧ g2 < wr.heap.size ∧ wr.cell? ⟨g2, t, none⟩ = some (.int .i64 y) := by
              obtain ⟨g2, cap, he, h1, h2, _⟩ := HO.out.row (by omega)
              simp only [Value.slice.injEq] at he
              obtain ⟨rfl, _, _⟩ := he
              exact ⟨g2, rfl, h1, h2, HO.out.cell HL.out.symm t y hyt⟩
            obtain ⟨g2, rfl, hg2, hg2s, hc2⟩ := hcl
            subst hot
            clear ht hyt
            by_cases hyx : y = x
            · have HR : Hid (gtz b n none = none) := Lib.hid (by
                rw [HIo, gtz_same HX.out hfit (by rw [hla, hyx])]; rfl)
              have hb : (y == x) = true := by simp [hyx]
              clear HIo hla hyx
              go_wp2_with fail
              refine hb0.mono ?_
              rintro e w3 ⟨rfl, s3, f3⟩
              go_wp2_with fail
              refine (HI0.out w3 s3).mono ?_
              rintro e w4 ⟨rfl, s4, f4⟩
              have f34 := f3.trans f4
              have hc4 := (f34.cell (p := ⟨g2, t, none⟩) hg2s (fun e => by have : g2 = g := e; omega)).trans hc2
              have hf4 := (HF.out.fresh f34 (fun k e => by have : k = g := e; omega))
              clear f3 f4 s3 hc2 cc0 cc1 ff0
              obtain ⟨Ar, cr, cc0, cc1, ff0, _⟩ := s4.cells
              go_wp2
              go_ret2
              exact ⟨gtn_no (HG.out.trans HR.out), hf4⟩
            · have HIN : Hid (gtz b n none = (gtz q (n - (t + 1 : Nat) - ((k : Int) + 1)) (some x)).map (o ++ List.replicate (k + 1) x ++ ·)) := Lib.hid (by
                rw [HIo, gtz_more HX.out hfit (by rw [hla]; simpa using hyx), more_app])
              have hb : (y == x) = false := by simpa using hyx
              clear HIo hla hyx
              go_wp2_with fail
              refine hb0.mono ?_
              rintro e w3 ⟨rfl, s3, f3⟩
              go_wp2_with fail
              refine (HI0.out w3 s3).mono ?_
              rintro e w4 ⟨rfl, s4, f4⟩
              have f34 := f3.trans f4
              have hc4 := (f34.cell (p := ⟨g2, t, none⟩) hg2s (fun e => by have : g2 = g := e; omega)).trans hc2
              clear hc2
              have hB4 := Nat.le_trans hBr f34.size
              have hf4 := (HF.out.fresh f34 (fun k e => by have : k = g := e; omega))
              have hown4 := HO.out.fr f34 (fun k hk e => by have h1 := (HO.out.lt k hk).1; have : k = g := e; omega)
              clear f3 f4 s3 f34 cc0 cc1 ff0
              obtain ⟨Ar, cr, cc0, cc1, ff0, _⟩ := s4.cells
              go_wp2
              go_loopw [7, 10] (fun u i wx => ∃ j : Nat, j ≤ k + 1 ∧ i = .int .i64 j ∧ Ow iv 2 wx (g + 1) u (o ++ List.replicate j x) ∧ SAt wx g (GeN g) q false ∧ g + 1 ≤ wx.heap.size ∧ Fr Non w wx) (fun _ i _ => k + 1 - (intOf i).toNat)
              case atStart => exact ⟨0, Nat.zero_le _, rfl, by simpa using hown4, s4, hB4, hf4⟩
              case round =>
                clear hown4 s4 hf4 hB4 cc0 cc1 ff0
                obtain ⟨j, hj, rfl, hown, hs, hBx, hfr⟩ := hrel
                by_cases hlj : j < k + 1
                · have HLen : Hid ((o ++ List.replicate j x).length < 1099511627776) := Lib.hid (by rw [List.length_append, HL.out, List.length_replicate]; omega)
                  have HS := Lib.hid (show o ++ List.replicate j x ++ [x] = o ++ List.replicate (j + 1) x by rw [List.replicate_succ', List.append_assoc])
                  go_wp2_with (at_builtin; refine wpList_pushG el_i64 iv_oneC rfl (.tmp 58) (.tmp 60) rfl (g + 1) _ (o ++ List.replicate j x) rfl hown _ x rfl rfl HLen.out hBx ?_; intro v5 w5 hown5 hf5)
                  have hf5n := hfr.fresh hf5 (fun q hq => by have := (hown.lt q hq).1; have := HW.out; omega)
                  go_roundw
                  case rel => exact ⟨j + 1, by omega, by go_num, by rw [← HS.out]; exact hown5, hs.fr hf5 (fun e => by have := (hown.lt _ e).1; omega) (fun q hq => by have := (hown.lt _ hq).1; unfold GeN; omega), Nat.le_trans hBx hf5.size, hf5n⟩
                  case measure => simp [intOf]; omega
                · obtain rfl : j = k + 1 := by omega
                  have hsl := slLen_vs hown.vs
                  rw [List.length_append, HL.out, List.length_replicate] at hsl
                  go_wp2
                  go_roundw
                  case rel => exact ⟨q, o ++ List.replicate (k + 1) x, hown, .inl (by rw [List.length_append, HL.out, List.length_replicate]; omega), by omega, hs, Lib.hid (by rw [HIN.out, last_more, List.length_append, HL.out, List.length_replicate]; congr 2; push_cast; omega), hBx, hfr⟩
                  case measure => rw [hsl]; simp [slLen]; omega
end Go.Proofs.Ytaoonkjmhabfdaa
