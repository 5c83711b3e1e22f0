/-
  Joined: Layer 12: columns read, the document's. · Layer 12: where a column is; which columns are the same; both programs'. · A region that draws, walked by hand: what all steps keep, made stronger midway. · Layer 12: the walk of the law on columns' bytes. · Slices of cells: what one reads as (Cs), a row of the call's own (Oc), and the steps over them. · Arguments opened: a slice of cells. · Arguments opened: a slice of columns.
-/
import Derived.Lib.Zigzag
import Derived.Lib.SmallJoins
import Derived.Laws.Rows
import Derived.Laws.ResultCell
import Derived.Test.YtoaeiokjaikalaaZ2
import Derived.BigQuiet
import Derived.Test.YtoaeiokjaikalaaZ1
import Derived.Deep.RegionHeld3

namespace Go.Proofs.Ytoaeiokjaikalaa
set_option linter.unusedVariables false
set_option linter.unusedSimpArgs false
set_option maxRecDepth 100000
open Go.RowKit

theorem SAt.ltK {w : World} {g : Nat} {S : Nat → Prop} {l : List UInt8} {bad : Bool} (h : SAt w g S l bad) : g < w.heap.size := by
  obtain ⟨v, h1, _⟩ := h; exact h1.lt
theorem SAt.nilK {w : World} {g : Nat} {S : Nat → Prop} {l : List UInt8} {bad : Bool} (h : SAt w g S l bad) : bad = true → l = [] := by
  obtain ⟨_, _, _, _, _, h⟩ := h; exact h
theorem co_vals (nm : Tx) (m : Nat) : [Value.string ⟨nm.toArray⟩, .int .i64 ((m : Int) / 2), .bool ((m : Int) % 2 == 1)] = coL ⟨nm, (m / 2 : Nat), decide (m % 2 = 1)⟩ := by
  have eq2 : ((m : Int) % 2 == 1) = decide (m % 2 = 1) := by rw [Bool.eq_iff_iff, beq_iff_eq, decide_eq_true_iff]; omega
  rw [eq2]; rfl

set_option maxHeartbeats 4000000 in
theorem rktake_any (g : Nat) (S : Nat → Prop) (l : List UInt8) (bad : Bool) (w : World) (h : SAt w g S l bad) (hl : l.length < 1000000000) (hS : ∀ k, w.heap.size ≤ k → S k) :
    Calls Try.prog 20 #[ptr g] w fun e w' => ∃ v, e = .returned v ∧ Ko w' w.heap.size v (tkK l).1 ∧ SAt w' g S (tkK l).2.1 (tkK l).2.2 ∧ Fr (One g) w w' := by
  have hg := h.ltK
  have h0 := Lib.hid (rbelow_any g S l bad 7 w h hl (by omega))
  rw [show (7 : Int) - 1 = 6 by rfl] at h0
  have hn6 := mostK_le l (show (0 : Int) ≤ 6 by omega)
  have HS := Lib.hid hS
  have HY : Hid ((rdCs (mostV l 6) (mostR l 6) (mostB l 6)).2.2 = false → chkC (rdCs (mostV l 6) (mostR l 6) (mostB l 6)).1 = 0 → tkK l = rdCs (mostV l 6) (mostR l 6) (mostB l 6)) := Lib.hid (fun h1 h2 => tkK_yes (l := l) h1 h2)
  have HB : Hid ((rdCs (mostV l 6) (mostR l 6) (mostB l 6)).2.2 = true → tkK l = ([], [], true)) := Lib.hid (fun h1 => tkK_bad (l := l) h1)
  have HX : Hid (¬ chkC (rdCs (mostV l 6) (mostR l 6) (mostB l 6)).1 = 0 → tkK l = ([], [], true)) := Lib.hid (fun h1 => tkK_not (l := l) h1)
  have HSm : Hid ((rdCs (mostV l 6) (mostR l 6) (mostB l 6)).1.length ≤ 6 ∧ ∀ c ∈ (rdCs (mostV l 6) (mostR l 6) (mostB l 6)).1, c.name.length ≤ 1000000000) := Lib.hid (rdK_small l)
  have hsm := mostR_sm l 6
  generalize tkK l = T at *
  generalize mostV l 6 = n at *
  generalize mostR l 6 = l1 at *
  generalize mostB l 6 = b1 at *
  clear h hS
  go_enter Try.func20, Try.ntmps20
  go_wp2_with fail
  refine h0.out.mono ?_
  rintro e w1 ⟨rfl, s1, f1⟩
  clear h0
  have hR := f1.size
  have hO0 : Ko (w1.alloc (.cells #[] 52)) w.heap.size (.slice (some ⟨w1.heap.size, 0, none⟩) 0 0) [] := no_lit0 w1 w.heap.size w1.heap.size rfl hR
  have fa := (Fr.refl Non w1).alloc (.cells #[] 52)
  have s2 : SAt (w1.alloc (.cells #[] 52)) g S l1 b1 := s1.fr fa (fun e => e) (fun k e => e.elim)
  have F2 := f1.then fa
  clear s1 f1 fa
  go_wp2
  go_loopw [4, 5] (fun x i wr => ∃ (k : Nat) (D : List Co) (q : List UInt8) (bad' : Bool), k ≤ n ∧ i = .int .i64 k ∧ Hid (ToK n l1 b1 k D q bad') ∧ SAt wr g S q bad' ∧ q.length ≤ l.length ∧ Ko wr w.heap.size x D ∧ Fr (One g) w wr) (fun _ i _ => n - (intOf i).toNat)
  case atStart => exact ⟨0, [], l1, b1, Nat.zero_le _, rfl, Lib.hid (toK_zero n l1 b1), s2, hsm, hO0, F2⟩
  case round =>
    clear s2 hO0 F2
    obtain ⟨k, D, q, bad', hk, rfl, HT, hs, hql, hO, hF⟩ := hrel
    obtain ⟨A0, cp0, c0, c1, f0, _⟩ := hs.cells
    have hD6 : D.length ≤ 6 := by have := HT.out.len; omega
    cases bad'
    · by_cases hlt : k < n
      · have HT2 := Lib.hid (toK_step HT.out hlt)
        have T1 := Lib.hid (rstext_any g S q false 12 wr hs (by omega) (by omega))
        have hq1 := txtR_sm q
        have hq2 := mostR_sm (txtR q 12) 7
        have T2 := Lib.hid (fun W s => rbelow_any g S (txtR q 12) (txtB q 12) 8 W s (by omega) (by omega))
        rw [show (8 : Int) - 1 = 7 by rfl] at T2
        have hm7 := mostK_le (txtR q 12) (show (0 : Int) ≤ 7 by omega)
        unfold rdCo at HT2
        generalize txtT q 12 = nm at *
        generalize mostV (txtR q 12) 7 = m at *
        generalize mostR (txtR q 12) 7 = q2 at *
        generalize mostB (txtR q 12) 7 = bad2 at *
        generalize txtR q 12 = q1 at *
        generalize txtB q 12 = bad1 at *
        clear HT HY HB HX HSm
        replace hO := Lib.hid hO
        replace hF := Lib.hid hF
        clear hs
        go_wp2_with fail
        refine T1.out.mono ?_
        rintro e w3 ⟨rfl, s3, f3⟩
        have hO3 := hO.out.fr f3 (fun b hb e => by have h1 : b = g := e; have := (hO.out.lt b hb).1; omega)
        have hF3 := hF.out.trans f3
        clear T1 hO hF f3 c0 c1 f0
        have hlt3 := hF3.size
        have fa := (Fr.refl Non w3).alloc (.cells #[.string ⟨nm.toArray⟩, .int .i64 0, .bool false] 52)
        have b4 := co_new w3 ⟨nm, 0, false⟩
        have hO4 := hO3.non fa
        have s4 := s3.fr fa (fun e => e) (fun k e => e.elim)
        have hF4 := hF3.then fa
        have hlc := hO3.lt
        clear hO3 s3 hF3 fa
        replace b4 : Hid (CoB _ _ _) := Lib.hid b4
        replace hO4 := Lib.hid hO4
        replace hF4 := Lib.hid hF4
        replace hlc := Lib.hid hlc
        have T3 := Lib.hid (T2.out _ s4)
        clear T2 s4
        go_wp2_with fail
        refine T3.out.mono ?_
        rintro e w5 ⟨rfl, s5, f5⟩
        clear T3
        have hcg : w3.heap.size ≠ g := by omega
        have b5 := b4.out.fr f5 (fun e => hcg e)
        have hO5 := hO4.out.fr f5 (fun b hb e => by have h1 : b = g := e; have := (hO4.out.lt b hb).1; omega)
        have hF5 := hF4.out.trans f5
        have hcS : S w3.heap.size := HS.out _ hlt3
        clear b4 hO4 hF4 f5
        generalize w3.heap.size = c at *
        obtain ⟨d0, d1, d2⟩ : _ ∧ _ ∧ _ := ⟨b5.cell 0, b5.cell 1, b5.cell 2⟩
        simp at d0 d1 d2
        have z1 := b5.frozen 1
        have z2 := b5.frozen 2
        have b6 := (b5.set 1 (.int .i64 ((m : Int) / 2))).set 2 (.bool ((m : Int) % 2 == 1))
        obtain ⟨y0, y1, y2⟩ : _ ∧ _ ∧ _ := ⟨b6.cell 0, b6.cell 1, b6.cell 2⟩
        simp at y0 y1 y2
        have fs := ((Fr.refl (One c) w5).set1 1 (.int .i64 ((m : Int) / 2))).set1 2 (.bool ((m : Int) % 2 == 1))
        have hO6 := hO5.fr fs (fun b hb e => by have h1 : b = c := e; have := (hlc.out b hb).2; omega)
        have s6 := s5.fr fs (fun e => hcg e.symm) (fun b e => by have h1 : b = c := e; rw [h1]; exact hcS)
        have hF6 := hF5.fresh fs (fun b e => by have h1 : b = c := e; omega)
        clear b5 hO5 s5 hF5 fs b6
        replace hO6 := Lib.hid hO6
        replace s6 := Lib.hid s6
        replace hF6 := Lib.hid hF6
        have hsz := hF6.out.size
        go_wp2_with (at_builtin; refine wpList_pushN fd_co eln_co rfl (.tmp 35) (.tmp 37) rfl w.heap.size _ D rfl hO6.out ⟨nm, (m / 2 : Nat), decide (m % 2 = 1)⟩ #[.string ⟨nm.toArray⟩, .int .i64 ((m : Int) / 2), .bool ((m : Int) % 2 == 1)] (co_vals nm m) _ rfl (by simp [World.setCell]) (by omega) hsz ?_; intro v7 w7 hO7 f7)
        have s7 := s6.out.fr f7 (fun e => by have := (hO6.out.lt _ e).1; omega) (fun b hb => HS.out b (hO6.out.lt b hb).1)
        have hF7 := hF6.out.fresh f7 (fun b hb => (hO6.out.lt b hb).1)
        go_roundw
        case rel => exact ⟨k + 1, _, _, _, by omega, by go_num, HT2, s7, by omega, hO7, hF7⟩
        case measure => simp [intOf]; omega
      · have hE := toK_end HT.out (show k = n by omega)
        have hv := hO.ns fd_co
        obtain ⟨A, c, rfl⟩ := hv.shape
        have HE2 := Lib.hid hE
        rw [hE.1] at HY HX HSm
        clear hE HT
        have C1 := Lib.hid (rcheck_any _ D wr hv (by omega) HSm.out.2)
        have HO := Lib.hid hO
        have F1 := Lib.hid hF
        have S1 := Lib.hid hs
        clear hO hF hv hs
        go_wp2_with fail
        refine C1.out.mono ?_
        rintro e w3 ⟨rfl, f3⟩
        have hs3 := S1.out.fr f3 (fun e => e) (fun k e => e.elim)
        have F3 := Lib.hid (F1.out.then f3)
        clear C1 F1 S1
        by_cases hc : chkC D = 0
        · have hb : ((chkC D) != 0) = false := by rw [hc]; rfl
          have HEo := Lib.hid (HY.out HE2.out.2.2 hc)
          have hO3 := HO.out.non f3
          clear HY HX hc HO f3
          go_wp2
          go_ret
          rw [HEo.out]
          refine ⟨_, rfl, ?_, ?_, F3.out⟩
          · rw [HE2.out.1]; exact hO3
          · rw [HE2.out.2.1, HE2.out.2.2]; exact hs3
        · have hb : ((chkC D) != 0) = true := by rw [bne_iff_ne]; exact hc
          have HEo := Lib.hid (HX.out hc)
          clear HY HX hc HO f3
          go_wp2_with fail
          refine (rfail_any g S _ _ _ hs3).mono ?_
          rintro e w4 ⟨rfl, hs4, f4⟩
          go_wp2
          go_ret
          rw [HEo.out]
          exact ⟨_, rfl, no_nil _ _, hs4, F3.out.trans f4⟩
    · have HEb := Lib.hid (HB.out (toK_fail HT.out rfl hs.nilK))
      have HFR := Lib.hid (rfail_any g S _ _ _ hs)
      have HF := Lib.hid hF
      clear HY HB HX HSm HT hs hO hF
      by_cases hlt : k < n
      all_goals
        go_wp2_with fail
        refine HFR.out.mono ?_
        rintro e w4 ⟨rfl, hs4, f4⟩
        go_wp2
        go_ret
        rw [HEb.out]
        exact ⟨_, rfl, no_nil _ _, hs4, HF.out.trans f4⟩
end Go.Proofs.Ytoaeiokjaikalaa


namespace Go.Proofs.Ytoaeiokjaikalaa
set_option linter.unusedVariables false
set_option linter.unusedSimpArgs false
set_option maxRecDepth 100000
open Go.RowKit

theorem take_neK {a b : List Co} {k : Nat} (hk : k < a.length) (hk2 : k < b.length) (h : a[k] ≠ b[k]) : a ≠ b := by
  rintro rfl; exact h rfl
theorem take_eqK {a b : List Co} {k : Nat} (hk : k < a.length) (hk2 : k < b.length) (h : a.take k = b.take k) (he : a[k] = b[k]) : a.take (k + 1) = b.take (k + 1) := by
  rw [List.take_succ_eq_append_getElem hk, List.take_succ_eq_append_getElem hk2, h, he]

set_option maxHeartbeats 1000000 in
theorem kequal_any (v1 v2 : Value) (l1 l2 : List Co) (w : World) (h1 : Ks w v1 l1) (h2 : Ks w v2 l2) (hl1 : l1.length ≤ 9223372036854775807) :
    Calls Try.prog 47 #[v1, v2] w fun e w' => e = .returned (.bool (decide (l1 = l2))) ∧ Fr Non w w' := by
  obtain ⟨A1, c1, rfl, hc1, hn1, hcell1⟩ := h1
  obtain ⟨A2, c2, rfl, hc2, hn2, hcell2⟩ := h2
  have HN1 := Lib.hid hn1
  have HN2 := Lib.hid hn2
  have HC1 := Lib.hid hcell1
  have HC2 := Lib.hid hcell2
  clear hn1 hn2 hcell1 hcell2
  by_cases hlen : l1.length = l2.length
  · have HL := Lib.hid hlen
    have hb : ((l1.length : Int) != l2.length) = false := by rw [hlen]; simp
    have hle : l1.length ≤ l2.length := by omega
    have hge : l2.length ≤ l1.length := by omega
    clear hlen
    go_enter Try.func47, Try.ntmps47
    go_wp2
    go_loopw [13] (fun i wr => ∃ k : Nat, k ≤ l1.length ∧ i = .int .i64 k ∧ Hid (l1.take k = l2.take k) ∧ ∃ n, wr = w.drewN n) (fun i _ => l1.length - (intOf i).toNat)
    case atStart => exact ⟨0, Nat.zero_le _, rfl, Lib.hid rfl, 0, rfl⟩
    case round =>
      obtain ⟨k, hk, rfl, HT, n, rfl⟩ := hrel
      by_cases hlt : k < l1.length
      · cases A1 with
        | none => have := HN1.out rfl; omega
        | some a1 =>
          cases A2 with
          | none => have := HN2.out rfl; omega
          | some a2 =>
            obtain ⟨g0, g1, g2⟩ := co_lit (HC1.out a1 rfl k hlt)
            obtain ⟨y0, y1, y2⟩ := co_lit (HC2.out a2 rfl k (by omega))
            have q := fun W => run_neq_co W l1[k] (l2[k]'(by omega))
            by_cases he : l1[k] = l2[k]'(by omega)
            · have HE := Lib.hid (take_eqK hlt (by omega) HT.out he)
              rw [← he] at y0 y1 y2 q
              rw [keq_self] at q
              clear he
              generalize l1[k] = x at *
              obtain ⟨xn, xt, xb⟩ := x
              dsimp only at g0 g1 g2 y0 y1 y2 q
              go_wp2
              go_quiet (fail)
              go_wp2
              go_roundw
              case rel => exact ⟨k + 1, by omega, by go_num, HE, _, rfl⟩
              case measure => simp [intOf]; omega
            · have HE := Lib.hid (take_neK hlt (by omega) he)
              have hx : keq l1[k] (l2[k]'(by omega)) = false := decide_eq_false he
              rw [hx] at q
              clear he hx
              generalize l1[k] = x at *
              generalize l2[k]'(by omega) = y at *
              obtain ⟨xn, xt, xb⟩ := x
              obtain ⟨yn, yt, yb⟩ := y
              dsimp only at g0 g1 g2 y0 y1 y2 q
              go_wp2
              go_quiet (fail)
              go_wp2
              go_ret
              exact ⟨ret_boolE (decide_eq_false HE.out).symm, ((Fr.refl _ _).drewN _).drewN _⟩
      · have HE : Hid (l1 = l2) := Lib.hid (by
          have := HT.out
          rwa [List.take_of_length_le (by omega), List.take_of_length_le (by omega)] at this)
        go_wp2
        go_ret
        exact ⟨ret_boolE (decide_eq_true HE.out).symm, (Fr.refl _ _).drewN _⟩
  · have hb : ((l1.length : Int) != l2.length) = true := by rw [bne_iff_ne]; omega
    have HE : Hid (l1 ≠ l2) := Lib.hid (fun e => hlen (by rw [e]))
    clear hlen
    go_enter Try.func47, Try.ntmps47
    go_wp2
    go_ret
    exact ⟨ret_boolE (decide_eq_false HE.out).symm, Fr.refl _ _⟩

set_option maxHeartbeats 1000000 in
theorem rsamek_any (v1 v2 : Value) (l1 l2 : List Co) (w : World) (h1 : Ks w v1 l1) (h2 : Ks w v2 l2) (hl1 : l1.length ≤ 9223372036854775807) :
    Calls Try.prog 18 #[v1, v2] w fun e w' => e = .returned (.bool (decide (l1 = l2))) ∧ Fr Non w w' := by
  obtain ⟨A1, c1, rfl, hc1, hn1, hcell1⟩ := h1
  obtain ⟨A2, c2, rfl, hc2, hn2, hcell2⟩ := h2
  have HN1 := Lib.hid hn1
  have HN2 := Lib.hid hn2
  have HC1 := Lib.hid hcell1
  have HC2 := Lib.hid hcell2
  clear hn1 hn2 hcell1 hcell2
  by_cases hlen : l1.length = l2.length
  · have HL := Lib.hid hlen
    have hb : ((l1.length : Int) != l2.length) = false := by rw [hlen]; simp
    have hle : l1.length ≤ l2.length := by omega
    have hge : l2.length ≤ l1.length := by omega
    clear hlen
    go_enter Try.func18, Try.ntmps18
    go_wp2
    go_loopw [5] (fun i wr => ∃ k : Nat, k ≤ l1.length ∧ i = .int .i64 k ∧ Hid (l1.take k = l2.take k) ∧ ∃ n, wr = w.drewN n) (fun i _ => l1.length - (intOf i).toNat)
    case atStart => exact ⟨0, Nat.zero_le _, rfl, Lib.hid rfl, 0, rfl⟩
    case round =>
      obtain ⟨k, hk, rfl, HT, n, rfl⟩ := hrel
      by_cases hlt : k < l1.length
      · cases A1 with
        | none => have := HN1.out rfl; omega
        | some a1 =>
          cases A2 with
          | none => have := HN2.out rfl; omega
          | some a2 =>
            obtain ⟨g0, g1, g2⟩ := co_lit (HC1.out a1 rfl k hlt)
            obtain ⟨y0, y1, y2⟩ := co_lit (HC2.out a2 rfl k (by omega))
            have q := fun W => run_neq_co W l1[k] (l2[k]'(by omega))
            by_cases he : l1[k] = l2[k]'(by omega)
            · have HE := Lib.hid (take_eqK hlt (by omega) HT.out he)
              rw [← he] at y0 y1 y2 q
              rw [keq_self] at q
              clear he
              generalize l1[k] = x at *
              obtain ⟨xn, xt, xb⟩ := x
              dsimp only at g0 g1 g2 y0 y1 y2 q
              go_wp2
              go_quiet (fail)
              go_wp2
              go_roundw
              case rel => exact ⟨k + 1, by omega, by go_num, HE, _, rfl⟩
              case measure => simp [intOf]; omega
            · have HE := Lib.hid (take_neK hlt (by omega) he)
              have hx : keq l1[k] (l2[k]'(by omega)) = false := decide_eq_false he
              rw [hx] at q
              clear he hx
              generalize l1[k] = x at *
              generalize l2[k]'(by omega) = y at *
              obtain ⟨xn, xt, xb⟩ := x
              obtain ⟨yn, yt, yb⟩ := y
              dsimp only at g0 g1 g2 y0 y1 y2 q
              go_wp2
              go_quiet (fail)
              go_wp2
              go_ret
              exact ⟨ret_boolE (decide_eq_false HE.out).symm, ((Fr.refl _ _).drewN _).drewN _⟩
      · have HE : Hid (l1 = l2) := Lib.hid (by
          have := HT.out
          rwa [List.take_of_length_le (by omega), List.take_of_length_le (by omega)] at this)
        go_wp2
        go_ret
        exact ⟨ret_boolE (decide_eq_true HE.out).symm, (Fr.refl _ _).drewN _⟩
  · have hb : ((l1.length : Int) != l2.length) = true := by rw [bne_iff_ne]; omega
    have HE : Hid (l1 ≠ l2) := Lib.hid (fun e => hlen (by rw [e]))
    clear hlen
    go_enter Try.func18, Try.ntmps18
    go_wp2
    go_ret
    exact ⟨ret_boolE (decide_eq_false HE.out).symm, Fr.refl _ _⟩

theorem ksame_any (v1 v2 : Value) (l1 l2 : List Co) (w : World) (h1 : Ks w v1 l1) (h2 : Ks w v2 l2) (hl1 : l1.length ≤ 9223372036854775807) :
    Calls Try.prog 26 #[v1, v2] w fun e w' => e = .returned (.bool (decide (l1 = l2))) ∧ Fr Non w w' := by
  have h0 := kequal_any v1 v2 l1 l2 w h1 h2 hl1
  go_enter Try.func26, Try.ntmps26
  go_wp2_with fail
  refine h0.mono ?_
  rintro e w1 ⟨rfl, f1⟩
  go_wp2
  go_ret
  exact ⟨rfl, f1⟩
end Go.Proofs.Ytoaeiokjaikalaa


namespace Go.Proofs.Ytoaeiokjaikalaa
set_option linter.unusedVariables false
set_option linter.unusedSimpArgs false
set_option maxRecDepth 100000
open Go.RowKit

/-- behind an operation more may be held than ahead of it -/
theorem wpAnyH_more {P : Program} {md : Region.Mode} {ops : Array Oper} {Q : Exit → Act → World → Prop} {S S' : World → Prop} (h : ∀ w, S' w → S w) :
    ∀ (fuel : Nat) (listed : Array Bool) (a : Act) (w : World), wpAnyH P md ops Q S' fuel listed a w → wpAnyH P md ops Q S fuel listed a w
  | 0, _, _, _, hw => hw
  | fuel + 1, _, _, _, hw => ⟨hw.1, fun i hi => wpOp_mono (fun a' w' h' => ⟨h w' h'.1, wpAnyH_more h fuel _ a' w' h'.2⟩) (hw.2 i hi)⟩
end Go.Proofs.Ytoaeiokjaikalaa


namespace Go.Proofs.Ytoaeiokjaikalaa
set_option linter.unusedVariables false
set_option linter.unusedSimpArgs false
set_option maxRecDepth 100000
open Go.RowKit

set_option maxHeartbeats 4000000 in
theorem schemaBytes_walk (v1 v2 : Value) (l : List Co) (b : List UInt8) (w : World) (h1 : Ks w v1 l) (hv : Bs w v2 b) (b1 : ∀ k, v1.ownBlock = some k → k < w.heap.size) (hvl : ∀ k, v2.ownBlock = some k → k < w.heap.size) :
    Calls Try.prog 4 #[v1, v2] w fun e w' => e = .returned (.bool true) ∧ Below w.heap.size w w' := by
  obtain ⟨A1, c1, rfl⟩ := h1.shape
  obtain ⟨A, k, rfl⟩ := hv.shape
  have H1 := Lib.hid h1
  have HV := Lib.hid hv
  have HVl := Lib.hid hvl
  have B1 := Lib.hid b1
  clear h1 hv hvl b1
  go_enter Try.func4, Try.ntmps4
  go_wp2_with fail
  refine (ksmall_any _ l w H1.out).mono ?_
  rintro e w1 ⟨s1, rfl, hs1, f1⟩
  cases s1
  · clear hs1
    go_wp2_with fail
    refine (klive_any _).mono ?_
    rintro e wl ⟨rfl, fl⟩
    go_wp2
    go_ret
    exact ⟨rfl, (f1.trans fl).below⟩
  · obtain ⟨ha, hb⟩ := hs1 rfl
    have HB := Lib.hid hb
    clear hs1 hb
    by_cases hbl : 200 < b.length
    · have F1 := Lib.hid f1
      clear f1
      go_wp2_with fail
      refine (klive_any _).mono ?_
      rintro e wl ⟨rfl, fl⟩
      go_wp2
      go_ret
      exact ⟨rfl, (F1.out.trans fl).below⟩
    · have hbl2 : b.length ≤ 200 := by omega
      have HF1 := Lib.hid f1
      clear f1
      go_wp2_with fail
      refine (from_any _ b w1 (HV.out.non HF1.out)).mono ?_
      rintro e w3 ⟨rfl, s3, f3⟩
      have f1 := HF1.out
      have F3 := f1.trans f3
      have hlt3 := s3.1.lt
      have hbox := (Fr.refl Non w3).alloc (.cells #[.slice A b.length k, .bool false] 43)
      have S4 : SAt (w3.alloc (.cells #[.slice A b.length k, .bool false] 43)) w3.heap.size (GeS w.heap.size) b false :=
        ⟨_, Blk.new _ _ _, (HV.out.non F3).non hbox, (fun q hq e => by have := HVl.out q hq; unfold GeS at e; omega), by have := F3.size; unfold GeS; omega, fun h => by cases h⟩
      have s4 := s3.fr hbox (fun e => e)
      have F4 := F3.trans hbox
      have hlt4 := S4.ltK
      have hsz1 := f1.size
      go_wp2
      generalize w3.alloc (.cells #[.slice A b.length k, .bool false] 43) = W4 at *
      generalize hgs : w1.heap.size = gs at *
      generalize hgw : w3.heap.size = gw at *
      have hgsw : gs ≠ gw := by omega
      have hsD : Src W4.drew gs b false := s4
      have hSD : SAt W4.drew gw (GeS w.heap.size) b false := S4
      have hFD : Fr Non w W4.drew := F4.drew
      have hzg : gw < W4.drew.heap.size := hlt4
      have hzs : gs < W4.drew.heap.size := s4.1.lt
      have T1 := fun W (h : Src W gs b false) => ktake_any gs b false W h
      have T2 := fun W (h : SAt W gw (GeS w.heap.size) b false) (h' : w.heap.size ≤ W.heap.size) => rktake_any gw (GeS w.heap.size) b false W h (by omega) (fun q hq => by unfold GeS; omega)
      have hl6 : (tkK b).1.length ≤ 9223372036854775807 := by
        by_cases h1 : (rdK b).2.2 = false ∧ chkC (rdK b).1 = 0
        · rw [tkK_yes h1.1 h1.2]; have := (rdK_small b).1; omega
        · unfold tkK; rw [if_neg h1]; simp
      generalize tkK b = x at *
      obtain ⟨cs, lx, bx⟩ := x
      dsimp only at T1 T2 hl6
      have HL6 := Lib.hid hl6
      have t1 := Lib.hid T1
      have t2 := Lib.hid T2
      have n2 : ((!bx) == bx) = false := by cases bx <;> rfl
      have n3 : ((lx.length : Int) != lx.length) = false := by simp
      have hz0 := hFD.size
      clear T1 T2 s4 S4 F4 s3 hbox f3 F3 hl6 f1
      refine wp_region_held_drew (S := (fun _ => True)) (by kernel_rfl) trivial (fun hHeld => ?_)
      refine wpAnyH_take (i := 0) (oi := ⟨some 23, _, _, _, _, none⟩) (v := ?v1) rfl (by kernel_rfl) (by kernel_rfl) (by kernel_rfl) (fun _ _ _ h => h) (Or.inl ⟨by rfl, ?hy1⟩) (by assumption) ?rest1
      case hy1 => (intro wS hSw; (try dsimp only at hSw); go_simp; (try with_reducible rfl))
      (try simp only [Act.put, List.setIfInBounds_toArray, List.set_cons_zero, List.set_cons_succ])
      refine wpAnyH_take (i := 2) (oi := ⟨some 25, _, _, _, _, none⟩) (v := ?v2) rfl (by kernel_rfl) (by kernel_rfl) (by kernel_rfl) (fun _ _ _ h => h) (Or.inl ⟨by rfl, ?hy2⟩) (by assumption) ?rest2
      case hy2 => (intro wS hSw; (try dsimp only at hSw); go_simp; (try with_reducible rfl))
      (try simp only [Act.put, List.setIfInBounds_toArray, List.set_cons_zero, List.set_cons_succ])
      refine wpAnyH_ready (rs := [1]) (by kernel_rfl) (by simp) ?_
      refine AllReadyH.cons (o := ⟨some 24, _, _, _, _, none⟩) rfl (fun K hK => ?_) AllReadyH.nil
      go_simp
      go_at_call 19
      refine (t1.out _ hsD).mono ?_
      rintro e w6 ⟨v6, rfl, hO6, s6, f6⟩
      have hT6 := hSD.fr f6 (fun e => hgsw e.symm) (fun q e => by rw [show q = gs from e]; unfold GeS; omega)
      have hz6 := f6.size

      go_wp2_with fail
      refine hK.out _ _ trivial (fun hHeld => ?_)
      clear hK K
      (try simp only [Act.put, List.setIfInBounds_toArray, List.set_cons_zero, List.set_cons_succ])
      refine wpAnyH_ready (rs := [3]) (by kernel_rfl) (by simp) ?_
      refine AllReadyH.cons (o := ⟨some 26, _, _, _, _, none⟩) rfl (fun K hK => ?_) AllReadyH.nil
      go_simp
      go_at_call 20
      refine (t2.out _ hT6 (by omega)).mono ?_
      rintro e w7 ⟨v7, rfl, hO7, s7, f7⟩
      have hs7 := s6.fr f7 (fun e => hgsw e)
      have hO67 := hO6.fr f7 (fun q hq e => by have h1 : q = gw := e; have := (hO6.lt q hq).1; omega)
      have hl6 := HL6.out

      go_wp2_with fail
      refine hK.out _ _ trivial (fun hHeld => ?_)
      clear hK K
      (try simp only [Act.put, List.setIfInBounds_toArray, List.set_cons_zero, List.set_cons_succ])
      refine wpAnyH_ready (rs := [4]) (by kernel_rfl) (by simp) ?_
      refine AllReadyH.cons (o := ⟨some 27, _, _, _, _, none⟩) rfl (fun K hK => ?_) AllReadyH.nil
      go_simp
      go_at_call 18
      refine (rsamek_any v6 v7 cs cs w7 (hO67.ns fd_co) (hO7.ns fd_co) hl6).mono ?_
      rintro e w8 ⟨rfl, f8⟩
      rw [decide_eq_true (rfl : cs = cs)]
      have hs8 := hs7.fr f8 (fun e => e)
      obtain ⟨A7, k7, u0, u1, _⟩ := (s7.fr f8 (fun e => e) (fun q e => e.elim)).cells

      go_wp2_with fail
      refine hK.out _ _ trivial (fun hHeld => ?_)
      clear hK K
      (try simp only [Act.put, List.setIfInBounds_toArray, List.set_cons_zero, List.set_cons_succ])
      refine wpAnyH_more (S' := (fun W => W.cell? ⟨gw, 0, none⟩ = some (.slice A7 lx.length k7) ∧ W.cell? ⟨gw, 1, none⟩ = some (.bool bx))) (fun W h => trivial) _ _ _ _ ?_
      have hMore := And.intro u0 u1
      refine wpAnyH_take (i := 5) (oi := ⟨some 28, _, _, _, _, none⟩) (v := ?v3) rfl (by kernel_rfl) (by kernel_rfl) (by kernel_rfl) (fun _ _ _ h => h) (Or.inl ⟨by rfl, ?hy3⟩) (by assumption) ?rest3
      case hy3 => (intro wS hSw; (try dsimp only at hSw); go_simp; (try with_reducible rfl))
      (try simp only [Act.put, List.setIfInBounds_toArray, List.set_cons_zero, List.set_cons_succ])
      refine wpAnyH_take (i := 6) (oi := ⟨some 29, _, _, _, _, none⟩) (v := ?v4) rfl (by kernel_rfl) (by kernel_rfl) (by kernel_rfl) (fun _ _ _ h => h) (Or.inl ⟨by rfl, ?hy4⟩) (by assumption) ?rest4
      case hy4 => (intro wS hSw; (try dsimp only at hSw); go_simp; (try with_reducible rfl))
      (try simp only [Act.put, List.setIfInBounds_toArray, List.set_cons_zero, List.set_cons_succ])
      refine wpAnyH_take (i := 7) (oi := ⟨some 30, _, _, _, _, some (6, false)⟩) (v := ?v5) rfl (by kernel_rfl) (by kernel_rfl) (by kernel_rfl) (fun _ _ _ h => h) (Or.inl ⟨by rfl, ?hy5⟩) (by assumption) ?rest5
      case hy5 => (intro wS hSw; (try dsimp only at hSw); go_simp; (try with_reducible rfl))
      (try simp only [Act.put, List.setIfInBounds_toArray, List.set_cons_zero, List.set_cons_succ])
      refine wpAnyH_take (i := 9) (oi := ⟨some 32, _, _, _, _, some (6, false)⟩) (v := ?v6) rfl (by kernel_rfl) (by kernel_rfl) (by kernel_rfl) (fun _ _ _ h => h) (Or.inl ⟨by rfl, ?hy6⟩) (by assumption) ?rest6
      case hy6 => (intro wS hSw; (try dsimp only at hSw); go_simp; (try with_reducible rfl))
      (try simp only [Act.put, List.setIfInBounds_toArray, List.set_cons_zero, List.set_cons_succ])
      refine wpAnyH_take (i := 10) (oi := ⟨some 33, _, _, _, _, some (6, false)⟩) (v := ?v7) rfl (by kernel_rfl) (by kernel_rfl) (by kernel_rfl) (fun _ _ _ h => h) (Or.inl ⟨by rfl, ?hy7⟩) (by assumption) ?rest7
      case hy7 => (intro wS hSw; (try dsimp only at hSw); go_simp; (try with_reducible rfl))
      (try simp only [Act.put, List.setIfInBounds_toArray, List.set_cons_zero, List.set_cons_succ])
      refine wpAnyH_take (i := 11) (oi := ⟨some 34, _, _, _, _, some (6, false)⟩) (v := ?v8) rfl (by kernel_rfl) (by kernel_rfl) (by kernel_rfl) (fun _ _ _ h => h) (Or.inl ⟨by rfl, ?hy8⟩) (by assumption) ?rest8
      case hy8 => (intro wS hSw; (try dsimp only at hSw); go_simp; (try with_reducible rfl))
      (try simp only [Act.put, List.setIfInBounds_toArray, List.set_cons_zero, List.set_cons_succ])
      refine wpAnyH_take (i := 12) (oi := ⟨some 35, _, _, _, _, some (6, false)⟩) (v := ?v9) rfl (by kernel_rfl) (by kernel_rfl) (by kernel_rfl) (fun _ _ _ h => h) (Or.inl ⟨by rfl, ?hy9⟩) (by assumption) ?rest9
      case hy9 => (intro wS hSw; (try dsimp only at hSw); go_simp; (try with_reducible rfl))
      (try simp only [Act.put, List.setIfInBounds_toArray, List.set_cons_zero, List.set_cons_succ])
      refine wpAnyH_ready (rs := [8]) (by kernel_rfl) (by simp) ?_
      refine AllReadyH.cons (o := ⟨some 31, _, _, _, _, some (6, false)⟩) rfl (fun K hK => ?_) AllReadyH.nil
      go_simp
      go_at_call 21
      refine (ok_any _ _ _ _ hs8).mono ?_
      rintro e w9 ⟨rfl, rfl⟩
      go_wp2_with fail
      refine hK.out _ _ hMore (fun hHeld => ?_)
      clear hK K
      (try simp only [Act.put, List.setIfInBounds_toArray, List.set_cons_zero, List.set_cons_succ])
      refine wpAnyH_take (i := 13) (oi := ⟨some 36, _, _, _, _, some (6, false)⟩) (v := ?v10) rfl (by kernel_rfl) (by kernel_rfl) (by kernel_rfl) (fun _ _ _ h => h) (Or.inl ⟨by rfl, ?hy10⟩) (by assumption) ?rest10
      case hy10 => (intro wS hSw; (try dsimp only at hSw); go_simp; (try with_reducible rfl))
      (try simp only [Act.put, List.setIfInBounds_toArray, List.set_cons_zero, List.set_cons_succ])
      refine wpAnyH_take (i := 14) (oi := ⟨some 37, _, _, _, _, none⟩) (v := ?v11) rfl (by kernel_rfl) (by kernel_rfl) (by kernel_rfl) (fun _ _ _ h => h) (Or.inl ⟨by rfl, ?hy11⟩) (by assumption) ?rest11
      case hy11 => (intro wS hSw; (try dsimp only at hSw); go_simp; (try with_reducible rfl))
      (try simp only [Act.put, List.setIfInBounds_toArray, List.set_cons_zero, List.set_cons_succ])
      refine wpAnyH_take (i := 15) (oi := ⟨some 38, _, _, _, _, none⟩) (v := ?v12) rfl (by kernel_rfl) (by kernel_rfl) (by kernel_rfl) (fun _ _ _ h => h) (Or.inl ⟨by rfl, ?hy12⟩) (by assumption) ?rest12
      case hy12 => (intro wS hSw; (try dsimp only at hSw); go_simp; (try with_reducible rfl))
      (try simp only [Act.put, List.setIfInBounds_toArray, List.set_cons_zero, List.set_cons_succ])
      refine wpAnyH_take (i := 16) (oi := ⟨some 39, _, _, _, _, some (15, false)⟩) (v := ?v13) rfl (by kernel_rfl) (by kernel_rfl) (by kernel_rfl) (fun _ _ _ h => h) (Or.inl ⟨by rfl, ?hy13⟩) (by assumption) ?rest13
      case hy13 => (intro wS hSw; (try dsimp only at hSw); go_simp; (try with_reducible rfl))
      (try simp only [Act.put, List.setIfInBounds_toArray, List.set_cons_zero, List.set_cons_succ])
      refine wpAnyH_take (i := 18) (oi := ⟨some 41, _, _, _, _, some (15, false)⟩) (v := ?v14) rfl (by kernel_rfl) (by kernel_rfl) (by kernel_rfl) (fun _ _ _ h => h) (Or.inl ⟨by rfl, ?hy14⟩) (by assumption) ?rest14
      case hy14 => (intro wS hSw; (try dsimp only at hSw); go_simp; (try with_reducible rfl))
      (try simp only [Act.put, List.setIfInBounds_toArray, List.set_cons_zero, List.set_cons_succ])
      refine wpAnyH_take (i := 19) (oi := ⟨some 42, _, _, _, _, some (15, false)⟩) (v := ?v15) rfl (by kernel_rfl) (by kernel_rfl) (by kernel_rfl) (fun _ _ _ h => h) (Or.inl ⟨by rfl, ?hy15⟩) (by assumption) ?rest15
      case hy15 => (intro wS hSw; (try dsimp only at hSw); go_simp; (try with_reducible rfl))
      (try simp only [Act.put, List.setIfInBounds_toArray, List.set_cons_zero, List.set_cons_succ])
      refine wpAnyH_take (i := 20) (oi := ⟨some 43, _, _, _, _, some (15, false)⟩) (v := ?v16) rfl (by kernel_rfl) (by kernel_rfl) (by kernel_rfl) (fun _ _ _ h => h) (Or.inl ⟨by rfl, ?hy16⟩) (by assumption) ?rest16
      case hy16 => (intro wS hSw; (try dsimp only at hSw); go_simp; (try with_reducible rfl))
      (try simp only [Act.put, List.setIfInBounds_toArray, List.set_cons_zero, List.set_cons_succ])
      refine wpAnyH_take (i := 21) (oi := ⟨some 44, _, _, _, _, some (15, false)⟩) (v := ?v17) rfl (by kernel_rfl) (by kernel_rfl) (by kernel_rfl) (fun _ _ _ h => h) (Or.inl ⟨by rfl, ?hy17⟩) (by assumption) ?rest17
      case hy17 => (intro wS hSw; (try dsimp only at hSw); go_simp; (try with_reducible rfl))
      (try simp only [Act.put, List.setIfInBounds_toArray, List.set_cons_zero, List.set_cons_succ])
      refine wpAnyH_take (i := 22) (oi := ⟨some 45, _, _, _, _, some (15, false)⟩) (v := ?v18) rfl (by kernel_rfl) (by kernel_rfl) (by kernel_rfl) (fun _ _ _ h => h) (Or.inl ⟨by rfl, ?hy18⟩) (by assumption) ?rest18
      case hy18 => (intro wS hSw; (try dsimp only at hSw); go_simp; (try with_reducible rfl))
      (try simp only [Act.put, List.setIfInBounds_toArray, List.set_cons_zero, List.set_cons_succ])
      refine wpAnyH_ready (rs := [17]) (by kernel_rfl) (by simp) ?_
      refine AllReadyH.cons (o := ⟨some 40, _, _, _, _, some (15, false)⟩) rfl (fun K hK => ?_) AllReadyH.nil
      go_simp
      go_at_call 22
      refine (left_any _ _ _ _ hs8).mono ?_
      rintro e w9 ⟨rfl, rfl⟩
      go_wp2_with fail
      refine hK.out _ _ hMore (fun hHeld => ?_)
      clear hK K
      (try simp only [Act.put, List.setIfInBounds_toArray, List.set_cons_zero, List.set_cons_succ])
      refine wpAnyH_take (i := 23) (oi := ⟨some 46, _, _, _, _, some (15, false)⟩) (v := ?v19) rfl (by kernel_rfl) (by kernel_rfl) (by kernel_rfl) (fun _ _ _ h => h) (Or.inl ⟨by rfl, ?hy19⟩) (by assumption) ?rest19
      case hy19 => (intro wS hSw; (try dsimp only at hSw); go_simp; (try with_reducible rfl))
      (try simp only [Act.put, List.setIfInBounds_toArray, List.set_cons_zero, List.set_cons_succ])
      refine wpAnyH_take (i := 24) (oi := ⟨some 47, _, _, _, _, none⟩) (v := ?v20) rfl (by kernel_rfl) (by kernel_rfl) (by kernel_rfl) (fun _ _ _ h => h) (Or.inl ⟨by rfl, ?hy20⟩) (by assumption) ?rest20
      case hy20 => (intro wS hSw; (try dsimp only at hSw); go_simp; (try with_reducible rfl))
      (try simp only [Act.put, List.setIfInBounds_toArray, List.set_cons_zero, List.set_cons_succ])
      refine wpAnyH_done (by kernel_rfl) ?_ _
      have F8 : Fr Non w w8 := ((hFD.fresh f6 (fun q e => by rw [show q = gs from e]; omega)).fresh f7 (fun q e => by rw [show q = gw from e]; omega)).trans f8
      have HF8 := Lib.hid F8
      clear F8 f6 f7 f8 hMore hHeld u0 u1 s7 hs7 hs8 hO67 hO7 hO6 hT6 s6 hsD hSD hFD t1 t2 n2 n3
      have C1 := Lib.hid (rcheck_any _ l w8 (H1.out.non HF8.out) (by omega) (fun c hc => by have := HB.out c hc; omega))
      go_wp2_with fail
      refine C1.out.mono ?_
      rintro e w9 ⟨rfl, f9⟩
      have F9 := Lib.hid (HF8.out.trans f9)
      clear HF8 f9 C1
      by_cases hc : chkC l = 0
      · have hcb : ((chkC l) != 0) = false := by rw [hc]; rfl
        have HC := Lib.hid hc
        clear hc
        go_wp2_with fail
        refine (kput_any _ l w9 (H1.out.non F9.out) HC.out).mono ?_
        rintro e wa ⟨va, rfl, hown, fa⟩
        have Fa := Lib.hid (F9.out.trans fa)
        have HBx := Lib.hid hown.bs
        have hlta := hown.lt
        have HLt := Lib.hid hlta
        obtain ⟨Aa, ka, rfl⟩ := hown.shape
        clear F9 fa hown hlta
        go_wp2_with fail
        refine (from_any _ _ wa HBx.out).mono ?_
        rintro e wb ⟨rfl, sb, fb⟩
        have Fb := Lib.hid (Fa.out.trans fb)
        have HBy := Lib.hid (HBx.out.non fb)
        have HSb := Lib.hid sb
        have hga := Fa.out.size
        clear Fa fb HBx sb
        generalize wa.heap.size = gb at *
        go_wp2_with fail
        refine (rkput_any _ l wb (H1.out.non Fb.out) HC.out).mono ?_
        rintro e wc ⟨vc, rfl, hownc, fc⟩
        have Fc := Lib.hid (Fb.out.trans fc)
        have hx := HBy.out.non fc
        have hy := hownc.bs
        have HSc := Lib.hid (HSb.out.fr fc (fun e => e))
        clear Fb fc HBy HSb hownc
        have n5 : (colsB l == colsB l) = true := by simp
        go_wp2_with fail
        refine (same_any _ _ (colsB l) (colsB l) wc hx hy).mono ?_
        rintro e wd ⟨rfl, rfl⟩
        have TK := ktake_any gb (colsB l) false wc HSc.out
        rw [tkK_own HC.out] at TK
        replace TK := Lib.hid TK
        clear hx hy HSc
        go_wp2_with fail
        refine TK.out.mono ?_
        rintro e we ⟨ve, rfl, hOe, hse, fe⟩
        have Fe := Lib.hid (Fc.out.fresh fe (fun q e => by rw [show q = gb from e]; omega))
        have HSe := Lib.hid hse
        have HOe := Lib.hid (hOe.ns fd_co)
        clear TK Fc fe hse hOe
        have SK := ksame_any ve _ l l we HOe.out (H1.out.non Fe.out) (by omega)
        rw [decide_eq_true (rfl : l = l)] at SK
        replace SK := Lib.hid SK
        go_wp2_with fail
        refine SK.out.mono ?_
        rintro e wf ⟨rfl, ff⟩
        have Ff := Lib.hid (Fe.out.trans ff)
        have EN := Lib.hid (end_any gb [] false wf (HSe.out.fr ff (fun e => e)))
        clear SK Fe ff HSe HOe
        go_wp2_with fail
        refine EN.out.mono ?_
        rintro e wg ⟨rfl, rfl⟩
        clear EN
        go_wp2_with fail
        refine (klive_any _).mono ?_
        rintro e wl ⟨rfl, fl⟩
        go_wp2
        go_ret
        exact ⟨rfl, (Ff.out.trans fl).below⟩
      · have hcb : ((chkC l) != 0) = true := by rw [bne_iff_ne]; exact hc
        clear hc
        go_wp2_with fail
        refine (klive_any _).mono ?_
        rintro e wl ⟨rfl, fl⟩
        go_wp2
        go_ret
        exact ⟨rfl, (F9.out.trans fl).below⟩
end Go.Proofs.Ytoaeiokjaikalaa


namespace Go.Proofs.Ytoaeiokjaikalaa
set_option linter.unusedVariables false
set_option linter.unusedSimpArgs false
set_option maxRecDepth 100000
open Go.RowKit

/-- a cell's three values, and those of many -/
def clL (c : Cl) : List Value := [.bool c.null, .int .i64 c.num, .string ⟨c.txt.toArray⟩]
def clsL (l : List Cl) : List Value := l.flatMap clL
theorem clsL_cons (c : Cl) (l : List Cl) : clsL (c :: l) = clL c ++ clsL l := by simp [clsL]
theorem clsL_at (l : List Cl) (j : Nat) (i : Nat) (hj : j < l.length) (hi : i < 3) : (clsL l)[j * 3 + i]? = (clL l[j])[i]? := by
  induction l generalizing j with
  | nil => cases hj
  | cons c l ih =>
    rw [clsL_cons]
    cases j with
    | zero => rw [List.getElem?_append_left (by simp [clL]; omega)]; simp
    | succ j =>
      rw [List.getElem?_append_right (by simp [clL]; omega)]
      rw [show (j + 1) * 3 + i - (clL c).length = j * 3 + i by simp [clL]; omega]
      exact ih j (by simpa using hj)
/-- three cells, one behind the other, that hold c -/
structure At3 (w : World) (a : Addr) (c : Cl) : Prop where
  c0 : w.cell? a = some (.bool c.null)
  c1 : w.cell? (a.add 1) = some (.int .i64 c.num)
  c2 : w.cell? (a.add 2) = some (.string ⟨c.txt.toArray⟩)

/-- the slice v reads as the cells l -/
def Cs (w : World) (v : Value) (l : List Cl) : Prop :=
  ∃ A c, v = .slice A l.length c ∧ l.length ≤ c ∧ (A = none → c = 0) ∧ ∀ a, A = some a → ∀ j (h : j < l.length), At3 w (a.add (j * 3)) l[j]
/-- a row of the call's own, from block B on -/
def Oc (w : World) (B : Nat) (v : Value) (l : List Cl) : Prop := w.ownsRow B 27 3 v l.length (clsL l)

theorem At3.keep {w w' : World} {a : Addr} {c : Cl} (h : At3 w a c) (hk : w'.heap[a.block]? = w.heap[a.block]?) : At3 w' a c := by
  obtain ⟨h0, h1, h2⟩ := h
  exact ⟨by rw [← h0]; exact World.cell?_of_block hk, by rw [← h1]; exact World.cell?_of_block (by rw [add_block]; exact hk), by rw [← h2]; exact World.cell?_of_block (by rw [add_block]; exact hk)⟩

theorem Cs.nil_ (w : World) : Cs w (.slice none 0 0) [] := ⟨none, 0, rfl, Nat.le_refl _, fun _ => rfl, fun _ h => by cases h⟩
theorem Cs.keep {w w' : World} {v : Value} {l : List Cl} (h : Cs w v l) (hk : ∀ k, v.ownBlock = some k → k < w.heap.size → w'.heap[k]? = w.heap[k]?) : Cs w' v l := by
  obtain ⟨A, c, rfl, h1, h2, h3⟩ := h
  refine ⟨A, c, rfl, h1, h2, fun a ha j hj => ?_⟩
  have := h3 a ha j hj
  subst ha
  have hb := World.block_lt_of_cell? w _ this.c0
  refine this.keep ?_
  rw [add_block] at hb ⊢
  exact hk _ rfl hb
theorem Cs.fr {S : Nat → Prop} {w w' : World} {v : Value} {l : List Cl} (h : Cs w v l) (hf : Fr S w w') (hn : ∀ k, v.ownBlock = some k → ¬ S k) : Cs w' v l :=
  h.keep fun k hk hlt => hf.block k hlt (hn k hk)
theorem Cs.non {w w' : World} {v : Value} {l : List Cl} (h : Cs w v l) (hf : Fr Non w w') : Cs w' v l := h.fr hf fun _ _ e => e
theorem Cs.drew {w : World} {v : Value} {l : List Cl} (h : Cs w v l) : Cs w.drew v l := h.keep fun _ _ _ => rfl
theorem Cs.shape {w : World} {v : Value} {l : List Cl} (h : Cs w v l) : ∃ A c, v = .slice A l.length c := by
  obtain ⟨A, c, rfl, _⟩ := h; exact ⟨A, c, rfl⟩
/-- what a walk asks of the element at j -/
theorem Cs.el {w : World} {a : Addr} {n c : Nat} {l : List Cl} (h : Cs w (.slice (some a) n c) l) (j : Nat) (x : Cl) (hx : l[j]? = some x) :
    w.cell? (a.add (j * 3)) = some (.bool x.null) ∧ w.cell? ((a.add (j * 3)).add 1) = some (.int .i64 x.num) ∧ w.cell? ((a.add (j * 3)).add 2) = some (.string ⟨x.txt.toArray⟩) := by
  obtain ⟨A0, c0, he, h1, h2, h3⟩ := h
  simp only [Value.slice.injEq] at he
  obtain ⟨rfl, rfl, rfl⟩ := he
  obtain ⟨hj, rfl⟩ := List.getElem?_eq_some_iff.1 hx
  have := h3 a rfl j hj
  exact ⟨this.c0, this.c1, this.c2⟩

/-- as a walk spells them -/
theorem At3.lit {w : World} {a : Addr} {c : Cl} (h : At3 w a c) : w.cell? a = some (.bool c.null) ∧ w.cell? { block := a.block, off := a.off + 1 } = some (.int .i64 c.num) ∧ w.cell? { block := a.block, off := a.off + 2 } = some (.string ⟨c.txt.toArray⟩) := ⟨h.c0, h.c1, h.c2⟩
theorem Oc.lt {w : World} {B : Nat} {v : Value} {l : List Cl} (h : Oc w B v l) : ∀ k, v.ownBlock = some k → B ≤ k ∧ k < w.heap.size := World.ownsRow.lt h
theorem Oc.cs {w : World} {B : Nat} {v : Value} {l : List Cl} (h : Oc w B v l) : Cs w v l := by
  rcases h.2 with ⟨rfl, h0⟩ | ⟨g, cap, cur, rfl, _, _, hle, _, _, _⟩
  · have hl : l = [] := List.eq_nil_of_length_eq_zero h0
    subst hl; exact Cs.nil_ w
  · refine ⟨_, cap, rfl, hle, (fun h => by cases h), fun a ha j hj => ?_⟩
    cases ha
    have H := fun i hi => World.ownsRow.cells h (g := g) rfl (j * 3 + i) _ ((clsL_at l j i hj hi).trans (List.getElem?_eq_getElem (by simp [clL]; omega)))
    refine ⟨?_, ?_, ?_⟩
    · have := H 0 (by omega); simpa [clL] using this
    · rw [add_add]; have := H 1 (by omega); simpa [clL] using this
    · rw [add_add]; have := H 2 (by omega); simpa [clL] using this
theorem Oc.shape {w : World} {B : Nat} {v : Value} {l : List Cl} (h : Oc w B v l) : ∃ A c, v = .slice A l.length c := h.cs.shape
theorem Oc.keep {w w' : World} {B : Nat} {v : Value} {l : List Cl} (h : Oc w B v l) (hk : ∀ k, v.ownBlock = some k → w'.heap[k]? = w.heap[k]?) : Oc w' B v l := by
  refine ⟨h.1, ?_⟩
  rcases h.2 with h2 | ⟨g, cap, cur, hv, hb, hg, r⟩
  · exact .inl h2
  · exact .inr ⟨g, cap, cur, hv, hb, by rw [hk g (by rw [hv]; rfl)]; exact hg, r⟩
theorem Oc.fr {S : Nat → Prop} {w w' : World} {B : Nat} {v : Value} {l : List Cl} (h : Oc w B v l) (hf : Fr S w w') (hn : ∀ k, v.ownBlock = some k → ¬ S k) : Oc w' B v l :=
  h.keep fun k hk => hf.block k (h.lt k hk).2 (hn k hk)
theorem Oc.non {w w' : World} {B : Nat} {v : Value} {l : List Cl} (h : Oc w B v l) (hf : Fr Non w w') : Oc w' B v l := h.fr hf fun _ _ e => e
theorem Oc.alloc {w : World} {B : Nat} {v : Value} {l : List Cl} (h : Oc w B v l) (o : Obj) : Oc (w.alloc o) B v l := h.non ((Fr.refl _ _).alloc o)
theorem Oc.drew {w : World} {B : Nat} {v : Value} {l : List Cl} (h : Oc w B v l) : Oc w.drew B v l := h
theorem Oc.mono {w : World} {B B' : Nat} {v : Value} {l : List Cl} (h : Oc w B v l) (hB : B' ≤ B) : Oc w B' v l := by
  refine ⟨h.1, ?_⟩
  rcases h.2 with h2 | ⟨g, cap, cur, hv, hb, r⟩
  · exact .inl h2
  · exact .inr ⟨g, cap, cur, hv, by omega, r⟩
theorem Oc.kind {w : World} {B : Nat} {v : Value} {l : List Cl} (h : Oc w B v l) : ∀ k, v.ownBlock = some k → ∃ cur, w.heap[k]? = some (.cells cur 27 (0, 0)) := by
  intro k hk
  rcases h.2 with ⟨rfl, _⟩ | ⟨g, cap, cur, rfl, _, hg, _⟩
  · cases hk
  · obtain rfl : g = k := by simpa [Value.ownBlock] using hk
    exact ⟨cur, hg⟩
theorem Oc.row {w : World} {B : Nat} {v : Value} {l : List Cl} (h : Oc w B v l) (hn : 0 < l.length) : ∃ g cap, v = .slice (some ⟨g, 0, none⟩) l.length cap ∧ B ≤ g ∧ g < w.heap.size ∧ l.length ≤ cap ∧ cap ≤ maxLen := by
  rcases h.2 with ⟨rfl, h0⟩ | ⟨g, cap, cur, rfl, hb, hg, hle, hm, _⟩
  · omega
  · exact ⟨g, cap, rfl, hb, (Array.getElem?_eq_some_iff.1 hg).1, hle, hm⟩
/-- what a walk asks of a row's element at j -/
theorem Oc.el {w : World} {B g n cap : Nat} {l : List Cl} (h : Oc w B (.slice (some ⟨g, 0, none⟩) n cap) l) (hn : n = l.length) (j : Nat) (x : Cl) (hx : l[j]? = some x) :
    w.cell? ⟨g, j * 3, none⟩ = some (.bool x.null) ∧ w.cell? ⟨g, j * 3 + 1, none⟩ = some (.int .i64 x.num) ∧ w.cell? ⟨g, j * 3 + 2, none⟩ = some (.string ⟨x.txt.toArray⟩) := by
  subst hn
  obtain ⟨hj, rfl⟩ := List.getElem?_eq_some_iff.1 hx
  refine ⟨?_, ?_, ?_⟩
  · rw [World.ownsRow.cellAt h (j * 3) (by omega)]; have := clsL_at l j 0 hj (by omega); simpa [clL] using this
  · rw [World.ownsRow.cellAt h (j * 3 + 1) (by omega)]; have := clsL_at l j 1 hj (by omega); simpa [clL] using this
  · rw [World.ownsRow.cellAt h (j * 3 + 2) (by omega)]; have := clsL_at l j 2 hj (by omega); simpa [clL] using this
theorem Oc.frozen {w : World} {B g n cap : Nat} {l : List Cl} (h : Oc w B (.slice (some ⟨g, 0, none⟩) n cap) l) (hn : n = l.length) (j : Nat) : w.frozen? ⟨g, j, none⟩ = false := by
  subst hn; exact World.ownsRow.frozenAt h j
/-! ### Steps -/
end Go.Proofs.Ytoaeiokjaikalaa


namespace Go.Proofs.Ytoaeiokjaikalaa
set_option linter.unusedVariables false
set_option linter.unusedSimpArgs false
set_option maxRecDepth 100000
open Go.Joins Go.ChangeShapes Go.WideShapes Go.ChangeAt Go.RowKit Go.Deep

theorem cof_bool : Try.prog.cellsOf 4 = 1 := by kernel_rfl
theorem cof_int : Try.prog.cellsOf 3 = 1 := by kernel_rfl
theorem cof_str : Try.prog.cellsOf 9 = 1 := by kernel_rfl
end Go.Proofs.Ytoaeiokjaikalaa


namespace Go.Proofs.Ytoaeiokjaikalaa
set_option linter.unusedVariables false
set_option linter.unusedSimpArgs false
set_option maxRecDepth 100000
open Go.Joins Go.ChangeShapes Go.WideShapes Go.ChangeAt Go.RowKit Go.Deep

theorem cof_co : Try.prog.cellsOf 52 = 3 := by kernel_rfl
/-- a column within its fields' ranges -/
structure CoWf (c : Co) : Prop where
  lo : -9223372036854775808 ≤ c.ty
  hi : c.ty ≤ 9223372036854775807
  len : c.name.length ≤ 9223372036854775807
/-- three cells that are read as a column -/
theorem co_cells {H : Type} {enc : TypeId × Value → H} {W : World} {n : Nat} {x : DataW H × List MemPlace} {c2 c3 c4 : Value}
    (h : DataW.trod enc Try.prog W 0 (fun _ => true) true n 52 [c2, c3, c4] = some x) : ∃ c : Co, c2 = .string ⟨c.name.toArray⟩ ∧ c3 = .int .i64 c.ty ∧ c4 = .bool c.nl ∧ CoWf c := by
  obtain ⟨y0, y1, y2, m, rfl, _, h0, h1, h2⟩ := trod_struct3 Try.underlying52 h
  simp only [cof_bool, cof_int, cof_str, List.drop_zero, List.drop_succ_cons, List.take_succ_cons, List.take_zero] at h0 h1 h2
  obtain ⟨s, e0, _, hs⟩ := DataW.trod_string Try.underlying9 h0
  obtain rfl := (List.cons.inj e0).1
  obtain ⟨i, e1, _, hi⟩ := DataW.trod_int Try.underlying3 h1
  obtain rfl := (List.cons.inj e1).1
  obtain ⟨b, e2, _⟩ := DataW.trod_bool Try.underlying4 h2
  obtain rfl := (List.cons.inj e2).1
  have hb := wf_i64_bd hi
  exact ⟨⟨s.data.toList, i, b⟩, by simp, rfl, rfl, ⟨hb.1, hb.2, by simpa [maxLen] using hs⟩⟩
theorem ks_in {H : Type} {enc : TypeId × Value → H} {W : World} {base : Nat} {v : Value} {d : DataW H} {p : List MemPlace} (hv : Value.okWide Try.prog W .any base 22 v)
    (h : DataW.Trod enc Try.prog W 0 (fun _ => true) true 22 v d p) : ∃ l, Ks W v l ∧ l.length ≤ 9223372036854775807 ∧ (∀ c ∈ l, CoWf c) ∧ ∀ k, v.ownBlock = some k → k < W.heap.size :=
  ns_in fd_co Try.underlying22 cof_co CoWf (fun n cs y hl hy => by
    match cs, hl with
    | [v0, v1, v2], _ =>
      obtain ⟨c, rfl, rfl, rfl, hw⟩ := co_cells hy
      exact ⟨c, rfl, hw⟩) hv h
end Go.Proofs.Ytoaeiokjaikalaa
