/-
  Joined: Layer 12: which rows there may be, both programs'. · Layer 15: the walks of firkinref15.Fold, glob.empty, glob.matches, glob.Match. · Layer 15: the walks of glob.matches, glob.Match. · Layer 20: truths told, turned, compared; orders of two values; both programs' small functions. · Layer 20: two values compared, a text matched, a row's value in a column; the document's comparison. · Layer 20: what a predicate is of a row, the program's. · Layer 20: what a predicate is of a row, the program's: of every one. · Layer 20: the program's ask, Row, Rows. · Truths as bits, plain: bytes of truths, truths of bytes. · Layer 22: a state as a value and in a block; what the program joins, and that it is what is known of cells.
-/
import Derived.Lib.Zigzag
import Derived.Deep.RegionHeld3
import Derived.Deep.QuietTactic
import Derived.BigQuiet
import Derived.Deep.DrawnRows
import Derived.Shelf.Strings.Replace
import Derived.Shelf.Strconv.Itoa4
import Derived.Shelf.Strings.OnBuilder
import Derived.Test.YtjcfjjhhbcgcmaaGreatProg
import Derived.Lib.SmallJoins
import Derived.Lib.AppendIntMem
import Derived.Laws.StructEq
import Derived.Laws.Rows
import Derived.Laws.ResultCell
import Derived.BigRegion
import Derived.Deep.RegionWith
import Derived.Test.YtjcfjjhhbcgcmaaGreatZ1
import Derived.Test.YtjcfjjhhbcgcmaaGreatZ3
import Derived.Test.YtjcfjjhhbcgcmaaGreatZ2

namespace Go.Proofs.YtjcfjjhhbcgcmaaGreat
set_option linter.unusedVariables false
set_option linter.unusedSimpArgs false
set_option maxRecDepth 100000
open Go.RowKit

/-- a column in a block, a cell at an address -/
structure RowAt (w : World) (g : Nat) (a : Addr) (x : Co) (y : Cl) : Prop where
  col : CoB w g x
  row : At3 w a y
theorem RowAt.non {w w' : World} {g : Nat} {a : Addr} {x : Co} {y : Cl} (h : RowAt w g a x y) (hf : Fr Non w w') : RowAt w' g a x y := ⟨h.col.fr hf (fun e => e), hf.at3 h.row⟩

set_option maxHeartbeats 4000000 in
theorem srow_any (v1 v2 : Value) (l : List Co) (row : List Cl) (w : World) (h1 : Ks w v1 l) (h2 : Cs w v2 row) (hl : l.length ≤ 1000000000) :
    Calls Tryz.prog 65 #[v1, v2] w fun e w' => e = .returned (.bool (rowB l row)) ∧ Fr Non w w' := by
  obtain ⟨A1, c1, rfl, hc1, hn1, hcell1⟩ := h1
  obtain ⟨A2, c2, rfl, hc2, hn2, hcell2⟩ := h2
  have HN1 := Lib.hid hn1
  have HN2 := Lib.hid hn2
  have HC1 := Lib.hid hcell1
  have HC2 := Lib.hid hcell2
  clear hn1 hn2 hcell1 hcell2
  by_cases hlen : l.length = row.length
  · have HL := Lib.hid hlen
    have hb : ((row.length : Int) != l.length) = false := by rw [hlen]; simp
    have hle : l.length ≤ row.length := by omega
    have hge : row.length ≤ l.length := by omega
    clear hlen
    go_enter Tryz.func65, Tryz.ntmps65
    go_wp2
    go_loopw [14] (fun i wr => ∃ k : Nat, k ≤ l.length ∧ i = .int .i64 k ∧ Hid (∀ j (h : j < l.length) (h2 : j < row.length), j < k → mayC l[j].ty l[j].nl row[j] = true) ∧ Fr Non w wr) (fun i _ => l.length - (intOf i).toNat)
    case atStart => exact ⟨0, Nat.zero_le _, rfl, Lib.hid (fun _ _ _ h => by omega), Fr.refl _ _⟩
    case round =>
      obtain ⟨k, hk, rfl, HT, hfr⟩ := hrel
      by_cases hlt : k < l.length
      · cases A1 with
        | none => have := HN1.out rfl; omega
        | some a1 =>
          cases A2 with
          | none => have := HN2.out rfl; omega
          | some a2 =>
            have hlt2 : k < row.length := by omega
            obtain ⟨g0, g1, g2⟩ := co_lit ((HC1.out a1 rfl k hlt).non hfr)
            have hr := hfr.at3 (HC2.out a2 rfl k hlt2)
            have HY := Lib.hid (fun h => row_more hlt hlt2 HT.out h)
            have HX := Lib.hid (fun h => row_bad hlt hlt2 h)
            clear HT
            generalize l[k] = x at *
            generalize row[k] = y at *
            obtain ⟨xn, xt, xb⟩ := x
            obtain ⟨yn, yt, yb⟩ := y
            dsimp only at g0 g1 g2 HY HX
            have f1 := (Fr.refl Non wr).alloc (.cells #[.string ⟨xn.toArray⟩, .int .i64 xt, .bool xb] 56)
            have hD : RowAt _ wr.heap.size _ _ _ := ⟨co_new wr ⟨xn, xt, xb⟩, f1.at3 hr⟩
            have FD := Lib.hid (hfr.trans f1)
            replace hD := Lib.hid hD
            clear hr f1 hfr
            go_wp2
            obtain ⟨V, hV⟩ : ∃ V, wr.alloc (.cells #[.string ⟨xn.toArray⟩, .int .i64 xt, .bool xb] 56) = V := ⟨_, rfl⟩
            rw [hV] at hD FD ⊢
            clear hV
            have hD := hD.out
            have FD := FD.out
            generalize wr.heap.size = g at *
            replace hD : RowAt V.drew g _ _ _ := ⟨hD.col, hD.row.keep rfl⟩
            replace FD := FD.drew
            have M := fun W => may_any xt xb ⟨yn, yt, yb⟩ W
            unfold clV clC at M
            dsimp only at M
            replace M := Lib.hid M
            have t1 : V.drew.cell? ⟨g, 1, none⟩ = some (.int .i64 xt) := hD.col.cell 1
            have t2 : V.drew.cell? ⟨g, 2, none⟩ = some (.bool xb) := hD.col.cell 2
            obtain ⟨t3, t4, t5⟩ := hD.row.lit
            dsimp only at t3 t4 t5
            replace hD := Lib.hid hD
            replace FD := Lib.hid FD
            go_region_held3 (fun W => W.cell? ⟨g, 1, none⟩ = some (.int .i64 xt) ∧ W.cell? ⟨g, 2, none⟩ = some (.bool xb) ∧ W.cell? (a2.add (k * 3)) = some (.bool yn) ∧ W.cell? { block := (a2.add (k * 3)).block, off := (a2.add (k * 3)).off + 1 } = some (.int .i64 yt) ∧ W.cell? { block := (a2.add (k * 3)).block, off := (a2.add (k * 3)).off + 2 } = some (.string ⟨yb.toArray⟩)) (first | exact ⟨t1, t2, t3, t4, t5⟩ | exact ⟨u1, u2, u3, u4, u5⟩ | fail) (first | (go_at_call 91; refine (M.out _).mono ?_; rintro e w4 ⟨rfl, f4⟩; have F4 := Lib.hid (FD.out.trans f4); have h4 := hD.out.non f4; have u1 : w4.cell? ⟨g, 1, none⟩ = some (.int .i64 xt) := h4.col.cell 1; have u2 : w4.cell? ⟨g, 2, none⟩ = some (.bool xb) := h4.col.cell 2; obtain ⟨u3, u4, u5⟩ := h4.row.lit))
            clear u1 u2 u3 u4 u5 h4 f4 t1 t2 t3 t4 t5 hD FD M
            cases hM : mayC xt xb ⟨yn, yt, yb⟩
            · have HE := Lib.hid (HX.out hM)
              clear HX HY hM
              go_wp2
              go_ret
              exact ⟨ret_boolE HE.out.symm, F4.out⟩
            · have HE := Lib.hid (HY.out hM)
              clear HX HY hM
              go_wp2
              go_roundw
              case rel => exact ⟨k + 1, by omega, by go_num, HE, F4.out⟩
              case measure => simp [intOf]; omega
      · have HE := Lib.hid (row_yes HL.out (fun j h h2 => HT.out j h h2 (by omega)))
        clear HT
        go_wp2
        go_ret
        exact ⟨ret_boolE HE.out.symm, hfr⟩
  · have hb : ((row.length : Int) != l.length) = true := by rw [bne_iff_ne]; omega
    have HE := Lib.hid (row_len hlen)
    clear hlen
    go_enter Tryz.func65, Tryz.ntmps65
    go_wp2
    go_ret
    exact ⟨ret_boolE HE.out.symm, Fr.refl _ _⟩

end Go.Proofs.YtjcfjjhhbcgcmaaGreat


namespace Go.Proofs.YtjcfjjhhbcgcmaaGreat
set_option linter.unusedVariables false
set_option linter.unusedSimpArgs false
set_option maxRecDepth 100000
open Go.RowKit

theorem empty_any (v : Value) (p : List Nat) (w : World) (hv : Vs ruv w v p) (hl : p.length ≤ 1000000000) : Calls Tryz.prog 155 #[v] w fun e w' => e = .returned (.bool (mtG p [])) ∧ w = w' := by
  rw [mtG_empty]
  obtain ⟨A, c, rfl, hlc, hn, hcell⟩ := hv
  have HC := Lib.hid hcell
  have HN := Lib.hid hn
  clear hcell hn
  go_enter Tryz.func155, Tryz.ntmps155
  go_wp2
  go_loop [7] (fun i => ∃ k : Nat, k ≤ p.length ∧ i = .int .i64 k ∧ Hid (∀ j (hj : j < p.length), j < k → p[j] = 37)) (fun i => p.length - (intOf i).toNat)
  case atStart => exact ⟨0, by omega, rfl, Lib.hid (fun _ _ h => by omega)⟩
  case round =>
    obtain ⟨k, hk, rfl, hok⟩ := hrel
    by_cases hlt : k < p.length
    · cases A with
      | none => have := HN.out rfl; omega
      | some a =>
        have hce := HC.out a rfl k hlt
        unfold ruv at hce
        by_cases h : p[k] = 37
        · have HM : Hid (∀ j (hj : j < p.length), j < k + 1 → p[j] = 37) := Lib.hid (fun j hj hlt2 => by
            by_cases e : j = k
            · subst e; exact h
            · exact hok.out j hj (by omega))
          have hb : ((p[k] : Nat) : Int) = 37 := by omega
          rw [hb] at hce
          clear h hb hok
          go_wp2
          go_roundw
          case rel => exact ⟨k + 1, by omega, by go_num, HM⟩
          case measure => simp [intOf]; omega
        · have HX : Hid (p.all (fun c => c == 37) = false) := Lib.hid (by
            rw [Bool.eq_false_iff]; intro e
            exact h (by simpa using List.all_eq_true.1 e _ (List.getElem_mem hlt)))
          have hb : (((p[k] : Nat) : Int) == 37) = false := by rw [beq_eq_false_iff_ne]; omega
          clear h hok
          generalize p[k] = x at *
          go_wp2
          go_ret
          exact ⟨ret_boolE HX.out.symm, rfl⟩
    · have HX : Hid (p.all (fun c => c == 37) = true) := Lib.hid (by
        rw [List.all_eq_true]; intro x hx
        obtain ⟨j, hj, rfl⟩ := List.mem_iff_getElem.1 hx
        simpa using hok.out j hj (by omega))
      clear hok
      go_wp2
      go_ret
      exact ⟨ret_boolE HX.out.symm, rfl⟩

end Go.Proofs.YtjcfjjhhbcgcmaaGreat


namespace Go.Proofs.YtjcfjjhhbcgcmaaGreat
set_option linter.unusedVariables false
set_option linter.unusedSimpArgs false
set_option maxRecDepth 100000
open Go.RowKit

/-- the measure of the way: what is left to take, and of the pattern -/
def msG (P T a k : Nat) : Nat := (T - k) * (P + 1) + (P - a)
theorem msG_at {P T a k : Nat} (ha : a < P) : msG P T (a + 1) k < msG P T a k := by unfold msG; omega
theorem msG_more {P T a k p : Nat} (ha : a < P) (hk : k ≤ p) : msG P T (a + 1) p < msG P T a k := by
  unfold msG
  have := Nat.mul_le_mul_right (P + 1) (show T - p ≤ T - k by omega)
  omega
theorem msG_back {P T a b k : Nat} (hk : k < T) : msG P T b (k + 1) < msG P T a k := by
  unfold msG
  have e : T - k = (T - (k + 1)) + 1 := by omega
  rw [e, Nat.succ_mul]
  omega
theorem stG_k {P T : List Nat} {a p k : Nat} {back : Int} (h : stG P T a p back k) : k ≤ p ∧ (back < 0 ∨ ∃ b : Nat, back = b ∧ b ≤ a) := by
  rcases h with ⟨h0, h1, _⟩ | ⟨b, h0, h1, h2, _⟩
  · exact ⟨by omega, .inl (by omega)⟩
  · exact ⟨h2, .inr ⟨b, h0, h1⟩⟩

set_option maxHeartbeats 2000000 in
theorem matches_any (v u : Value) (P T : List Nat) (w : World) (hv : Vs ruv w v P) (hu : Vs ruv w u T) (hl : P.length ≤ 1000000000) (hlt : T.length ≤ 1000000000) :
    Calls Tryz.prog 134 #[v, u] w fun e w' => e = .returned (.bool (mtG P T)) ∧ Fr Non w w' := by
  have HV := Lib.hid hv
  have HU := Lib.hid hu
  obtain ⟨A, c, rfl, hlc, hn, hcell⟩ := hv
  obtain ⟨A2, c2, rfl, hlc2, hn2, hcell2⟩ := hu
  have HC := Lib.hid hcell
  have HC2 := Lib.hid hcell2
  have HN := Lib.hid hn
  have HN2 := Lib.hid hn2
  clear hcell hn hcell2 hn2
  go_enter Tryz.func134, Tryz.ntmps134
  go_wp2
  go_loopw [5, 6, 7, 8] (fun ia ip ib ik wr => ∃ (a p k : Nat) (back : Int), a ≤ P.length ∧ p ≤ T.length ∧ ia = .int .i64 a ∧ ip = .int .i64 p ∧ ib = .int .i64 back ∧ ik = .int .i64 k ∧ Hid (stG P T a p back k) ∧ Fr Non w wr) (fun ia _ _ ik _ => msG P.length T.length (intOf ia).toNat (intOf ik).toNat)
  case atStart => exact ⟨0, 0, 0, -1, by omega, by omega, rfl, rfl, rfl, rfl, Lib.hid (stG_start P T), Fr.refl _ _⟩
  case round =>
    obtain ⟨a, p, k, back, ha, hp, rfl, rfl, rfl, rfl, hst, hfr⟩ := hrel
    obtain ⟨hkp, hba⟩ := stG_k hst.out
    have HB := Lib.hid hba
    have HF := Lib.hid hfr
    clear hba hfr
    by_cases hpl : p < T.length
    · obtain ⟨q2, rfl⟩ : ∃ q, A2 = some q := by
        cases A2 with
        | none => have := HN2.out rfl; omega
        | some q => exact ⟨q, rfl⟩
      have hcT := HF.out.cell (World.block_lt_of_cell? w _ (HC2.out q2 rfl p hpl)) (fun e => e) |>.trans (HC2.out q2 rfl p hpl)
      unfold ruv at hcT
      -- behind the last any, or nowhere
      by_cases hal : a < P.length
      · obtain ⟨q1, rfl⟩ : ∃ q, A = some q := by
          cases A with
          | none => have := HN.out rfl; omega
          | some q => exact ⟨q, rfl⟩
        have hcP := HF.out.cell (World.block_lt_of_cell? w _ (HC.out q1 rfl a hal)) (fun e => e) |>.trans (HC.out q1 rfl a hal)
        unfold ruv at hcP
        by_cases h37 : P[a] = 37
        · have HS := Lib.hid (stG_many hst.out hal hp h37)
          have HM := Lib.hid (msG_more (P := P.length) (T := T.length) hal hkp)
          have hb : ((P[a] : Nat) : Int) = 37 := by omega
          rw [hb] at hcP
          clear hb h37 hst
          go_wp2
          go_roundw
          case rel => exact ⟨a + 1, p, p, ((a + 1 : Nat) : Int), by omega, hp, by go_num, rfl, by go_num, rfl, HS, HF.out⟩
          case measure => simpa [intOf] using HM.out
        · have hb : (((P[a] : Nat) : Int) == 37) = false := by rw [beq_eq_false_iff_ne]; omega
          by_cases hm : P[a] = 95 ∨ P[a] = T[p]
          · have HS := Lib.hid (stG_one hst.out hal hpl h37 hm)
            have HM := Lib.hid (msG_at (P := P.length) (T := T.length) (k := k) hal)
            clear h37 hst HB
            by_cases h95 : P[a] = 95
            · have hb2 : ((P[a] : Nat) : Int) = 95 := by omega
              rw [hb2] at hcP
              clear hb hb2 h95 hm
              generalize T[p] = x at *
              go_wp2
              go_quiet (fail)
              go_wp2
              go_roundw
              case rel => exact ⟨a + 1, p + 1, k, back, by omega, by omega, by go_num, by go_num, rfl, rfl, HS, HF.out.drewN _⟩
              case measure => simpa [intOf] using HM.out
            · have hb2 : (((P[a] : Nat) : Int) == 95) = false := by rw [beq_eq_false_iff_ne]; omega
              have hx : T[p] = P[a] := by rcases hm with h | h; exact absurd h h95; exact h.symm
              rw [hx] at hcT
              clear h95 hm hx
              generalize P[a] = x at *
              go_wp2
              go_quiet (fail)
              go_wp2
              go_roundw
              case rel => exact ⟨a + 1, p + 1, k, back, by omega, by omega, by go_num, by go_num, rfl, rfl, HS, HF.out.drewN _⟩
              case measure => simpa [intOf] using HM.out
          · have hno := mtG_stop hpl (fun _ => ⟨h37, fun e => hm (.inl e), fun e => hm (.inr e)⟩)
            have hb2 : (((P[a] : Nat) : Int) == 95) = false := by rw [beq_eq_false_iff_ne]; intro e; exact hm (.inl (by omega))
            have hb3 : (((P[a] : Nat) : Int) == ((T[p] : Nat) : Int)) = false := by rw [beq_eq_false_iff_ne]; intro e; exact hm (.inr (by omega))
            rcases HB.out with hneg | ⟨b, rfl, hble⟩
            · have HX := Lib.hid (stG_no hst.out hneg hno)
              have hb4 : decide ((0 : Int) ≤ back) = false := by simp; omega
              clear h37 hm hst HB hno hneg
              generalize P[a] = x at *
              generalize T[p] = y at *
              go_wp2
              go_quiet (fail)
              go_wp2
              go_ret
              exact ⟨ret_boolE HX.out.symm, HF.out.drewN _⟩
            · have HS := Lib.hid (stG_back hst.out hpl hno).1
              have HM := Lib.hid (msG_back (P := P.length) (T := T.length) (a := a) (b := b) (k := k) (by omega))
              clear h37 hm hst HB hno
              generalize P[a] = x at *
              generalize T[p] = y at *
              go_wp2
              go_quiet (fail)
              go_wp2
              go_roundw
              case rel => exact ⟨b, k + 1, k + 1, (b : Int), by omega, by omega, rfl, by go_num, rfl, by go_num, HS, HF.out.drewN _⟩
              case measure => simpa [intOf] using HM.out
      · have hno := mtG_stop (P := P) (a := a) hpl (fun h => absurd h hal)
        rcases HB.out with hneg | ⟨b, rfl, hble⟩
        · have HX := Lib.hid (stG_no hst.out hneg hno)
          have hb4 : decide ((0 : Int) ≤ back) = false := by simp; omega
          clear hst HB hno hneg
          generalize T[p] = y at *
          go_wp2
          go_quiet (fail)
          go_wp2
          go_ret
          exact ⟨ret_boolE HX.out.symm, HF.out.drewN _⟩
        · have HS := Lib.hid (stG_back hst.out hpl hno).1
          have HM := Lib.hid (msG_back (P := P.length) (T := T.length) (a := a) (b := b) (k := k) (by omega))
          clear hst HB hno
          generalize T[p] = y at *
          go_wp2
          go_quiet (fail)
          go_wp2
          go_roundw
          case rel => exact ⟨b, k + 1, k + 1, (b : Int), by omega, by omega, rfl, by go_num, rfl, by go_num, HS, HF.out.drewN _⟩
          case measure => simpa [intOf] using HM.out
    · obtain rfl : p = T.length := by omega
      have HX := Lib.hid (stG_end hst.out ha)
      obtain ⟨A', c', hrun, hvs, _⟩ := slice_loG el_rune A P.length c a .i64 (a : Int) rfl ha hlc
      have hv2 := hvs ruv wr P rfl (HV.out.non HF.out)
      have HE := Lib.hid (empty_any _ _ wr hv2 (by rw [List.length_drop]; omega))
      clear hst HB hvs hv2
      go_wp2_with fail
      refine HE.out.mono ?_
      rintro e w1 ⟨rfl, rfl⟩
      go_wp2
      go_ret
      exact ⟨ret_boolE HX.out.symm, HF.out⟩

theorem gmatch_any (p s : List UInt8) (w : World) (hp : p.length ≤ 1000000000) (hs : s.length ≤ 1000000000) :
    Calls Tryz.prog 118 #[.string ⟨p.toArray⟩, .string ⟨s.toArray⟩] w fun e w' => e = .returned (.bool (matchU p s)) ∧ Fr Non w w' := by
  have HP := Lib.hid (fun W => gfold_any p W hp)
  have HS := Lib.hid (fun W => gfold_any s W hs)
  have hpl := foldU_le p
  have hsl := foldU_le s
  have HM := Lib.hid (fun v u W (h1 : Vs ruv W v (foldU p)) (h2 : Vs ruv W u (foldU s)) => matches_any v u _ _ W h1 h2 (by omega) (by omega))
  clear hpl hsl
  unfold matchU
  generalize foldU p = P at *
  generalize foldU s = T at *
  go_enter Tryz.func118, Tryz.ntmps118
  go_wp2_with fail
  refine (HP.out _).mono ?_
  rintro e w1 ⟨u1, rfl, o1, f1⟩
  go_wp2_with fail
  refine (HS.out _).mono ?_
  rintro e w2 ⟨u2, rfl, o2, f2⟩
  have H2 := Lib.hid (HM.out u1 u2 w2 (o1.vs.non f2) o2.vs)
  have F2 := Lib.hid (f1.trans f2)
  clear HP HS HM o1 o2 f1 f2
  go_wp2_with fail
  refine H2.out.mono ?_
  rintro e w3 ⟨rfl, f3⟩
  go_wp2
  go_ret
  exact ⟨rfl, F2.out.trans f3⟩

end Go.Proofs.YtjcfjjhhbcgcmaaGreat


namespace Go.Proofs.YtjcfjjhhbcgcmaaGreat
set_option linter.unusedVariables false
set_option linter.unusedSimpArgs false
set_option maxRecDepth 100000
open Go.RowKit

theorem etold_any (b : Bool) (w : World) : Calls Tryz.prog 95 #[.bool b] w fun e w' => e = .returned (.int .i64 (yesI b)) ∧ w = w' := by
  cases b
  all_goals
    go_enter Tryz.func95, Tryz.ntmps95
    go_wp2
    go_ret
    exact ⟨rfl, rfl⟩
theorem erank_any (b : Bool) (w : World) : Calls Tryz.prog 133 #[.bool b] w fun e w' => e = .returned (.int .i64 (bitI b)) ∧ w = w' := by
  cases b
  all_goals
    go_enter Tryz.func133, Tryz.ntmps133
    go_wp2
    go_ret
    exact ⟨rfl, rfl⟩
theorem enot_any (t : Int) (w : World) : Calls Tryz.prog 97 #[.int .i64 t] w fun e w' => e = .returned (.int .i64 (notI t)) ∧ w = w' := by
  by_cases h1 : t = 1
  · subst h1
    go_enter Tryz.func97, Tryz.ntmps97
    go_wp2
    go_ret
    exact ⟨rfl, rfl⟩
  · by_cases h0 : t = 0
    · subst h0
      go_enter Tryz.func97, Tryz.ntmps97
      go_wp2
      go_ret
      exact ⟨rfl, rfl⟩
    · have b1 : (t == 1) = false := by rw [beq_eq_false_iff_ne]; exact h1
      have b0 : (t == 0) = false := by rw [beq_eq_false_iff_ne]; exact h0
      have HE : Hid (notI t = 2) := Lib.hid (by unfold notI; rw [if_neg h1, if_neg h0])
      clear h1 h0
      go_enter Tryz.func97, Tryz.ntmps97
      go_wp2
      go_ret
      exact ⟨ret_int HE.out.symm, rfl⟩
theorem agr_6 {op : Int} (n : Int) (h1 : op ≠ 1) (h2 : op ≠ 2) (h3 : op ≠ 3) (h4 : op ≠ 4) (h5 : op ≠ 5) : agrI op n = decide (0 ≤ n) := by unfold agrI; rw [if_neg h1, if_neg h2, if_neg h3, if_neg h4, if_neg h5]
theorem eagrees_any (op n : Int) (w : World) : Calls Tryz.prog 116 #[.int .i64 op, .int .i64 n] w fun e w' => e = .returned (.bool (agrI op n)) ∧ w = w' := by
  by_cases h1 : op = 1
  · subst h1
    go_enter Tryz.func116, Tryz.ntmps116
    go_wp2
    go_ret
    exact ⟨rfl, rfl⟩
  by_cases h2 : op = 2
  · subst h2
    go_enter Tryz.func116, Tryz.ntmps116
    go_wp2
    go_ret
    exact ⟨rfl, rfl⟩
  by_cases h3 : op = 3
  · subst h3
    go_enter Tryz.func116, Tryz.ntmps116
    go_wp2
    go_ret
    exact ⟨rfl, rfl⟩
  by_cases h4 : op = 4
  · subst h4
    go_enter Tryz.func116, Tryz.ntmps116
    go_wp2
    go_ret
    exact ⟨rfl, rfl⟩
  by_cases h5 : op = 5
  · subst h5
    go_enter Tryz.func116, Tryz.ntmps116
    go_wp2
    go_ret
    exact ⟨rfl, rfl⟩
  have HE := Lib.hid (agr_6 n h1 h2 h3 h4 h5)
  have b1 : (op == 1) = false := by rw [beq_eq_false_iff_ne]; exact h1
  have b2 : (op == 2) = false := by rw [beq_eq_false_iff_ne]; exact h2
  have b3 : (op == 3) = false := by rw [beq_eq_false_iff_ne]; exact h3
  have b4 : (op == 4) = false := by rw [beq_eq_false_iff_ne]; exact h4
  have b5 : (op == 5) = false := by rw [beq_eq_false_iff_ne]; exact h5
  clear h1 h2 h3 h4 h5
  go_enter Tryz.func116, Tryz.ntmps116
  go_wp2
  go_ret
  exact ⟨ret_boolE HE.out.symm, rfl⟩

theorem nanj_any (x : Int) (w : World) : Calls Tryz.prog 154 #[.int .i64 x] w fun e w' => e = .returned (.bool false) ∧ w = w' := by
  have h : (x != x) = false := by simp
  go_enter Tryz.func154, Tryz.ntmps154
  go_wp2
  go_ret
  exact ⟨ret_boolE (by simp), rfl⟩
theorem cmpj_any (x y : Int) (w : World) : Calls Tryz.prog 132 #[.int .i64 x, .int .i64 y] w fun e w' => e = .returned (.int .i64 (cmpI x y)) ∧ w = w' := by
  go_enter Tryz.func132, Tryz.ntmps132
  go_wp2_with fail
  refine (nanj_any x w).mono ?_
  rintro e w1 ⟨rfl, rfl⟩
  go_wp2_with fail
  refine (nanj_any y w).mono ?_
  rintro e w1 ⟨rfl, rfl⟩
  go_wp2
  all_goals
    go_ret
    exact ⟨ret_int (by unfold cmpI; first | (rw [if_pos (by omega)]; done) | (rw [if_neg (by omega), if_pos (by omega)]; done) | (rw [if_neg (by omega), if_neg (by omega)]; done)), rfl⟩

set_option maxHeartbeats 1000000 in
theorem eorder_any (a b : An) (h : AnT a b) (w : World) : Calls Tryz.prog 117 #[anV a, anV b] w fun e w' => e = .returned (.int .i64 (anO a b)) ∧ Fr Non w w' := by
  cases h with
  | int i j =>
    have A1 := fun W v => as_int_int W v
    have A2 := fun W v => is_int W v
    have HC := Lib.hid (fun W => cmpi_any i j W)
    simp only [anV, anO]
    generalize cmpI i j = z at *
    go_enter Tryz.func117, Tryz.ntmps117
    go_wp2_with fail
    refine (HC.out _).mono ?_
    rintro e w1 ⟨rfl, rfl⟩
    go_wp2
    go_ret
    exact ⟨rfl, Fr.refl _ _⟩
  | bool x y =>
    have A1 := fun W v => as_bool_int W v
    have A3 := fun W v => as_bool_bool W v
    have A2 := fun W v => is_bool W v
    have HC := Lib.hid (fun W => cmpj_any (bitI x) (bitI y) W)
    have HX := Lib.hid (fun W => erank_any x W)
    have HY := Lib.hid (fun W => erank_any y W)
    simp only [anV, anO]
    generalize cmpI _ _ = z at *
    generalize bitI x = x1 at *
    generalize bitI y = y1 at *
    go_enter Tryz.func117, Tryz.ntmps117
    go_wp2
    go_quiet (first | (go_at_call 133; exact quietly (HX.out _)) | (go_at_call 133; exact quietly (HY.out _)) | (go_at_call 132; exact quietly (HC.out _)))
    go_wp2
    go_ret
    exact ⟨rfl, (Fr.refl _ _).drewN _⟩
  | text s t =>
    have A1 := fun W v => as_str_int W v
    have A3 := fun W v => as_str_bool W v
    have A2 := fun W v => is_str W v
    have HC := Lib.hid (fun W => cmpt_any s t W)
    simp only [anV, anO]
    generalize cmpT s t = z at *
    go_enter Tryz.func117, Tryz.ntmps117
    go_wp2
    go_quiet (first | (go_at_call 106; exact quietly (HC.out _)))
    go_wp2
    go_ret
    exact ⟨rfl, (Fr.refl _ _).drewN _⟩
end Go.Proofs.YtjcfjjhhbcgcmaaGreat


namespace Go.Proofs.YtjcfjjhhbcgcmaaGreat
set_option linter.unusedVariables false
set_option linter.unusedSimpArgs false
set_option maxRecDepth 100000
open Go.RowKit

theorem ecompared_any (ty : Int) (nl : Bool) (op : Int) (c v : Cl) (w : World) (hc : mayC ty nl c = true) (hv : mayC ty false v = true) :
    Calls Tryz.prog 92 #[anV (toA ty c), anV (toA ty v), .int .i64 op] w fun e w' => e = .returned (.int .i64 (cmpR op c v)) ∧ Fr Non w w' := by
  cases hn : c.null
  · obtain ⟨hT, hO⟩ := an_two hc hv hn (may_null hv)
    have HC := Lib.hid (fun W => eorder_any _ _ hT W)
    rw [hO] at HC
    have HA := Lib.hid (fun n W => eagrees_any op n W)
    have HY := Lib.hid (fun b W => etold_any b W)
    have HE : Hid (cmpR op c v = yesI (agrI op (ordC c v))) := Lib.hid (by unfold cmpR; rw [hn]; rfl)
    have hN := fun W u x => not_nil W u x
    have hsh : ∃ u x, anV (toA ty c) = .iface u x := by
      generalize toA ty c = a at hT
      generalize toA ty v = b at hT
      cases hT <;> exact ⟨_, _, rfl⟩
    obtain ⟨u, x, hux⟩ := hsh
    rw [hux] at HC ⊢
    generalize anV (toA ty v) = y at *
    generalize ordC c v = n at *
    clear hO hT hux hn hc hv
    go_enter Tryz.func92, Tryz.ntmps92
    go_wp2_with fail
    refine (HC.out _).mono ?_
    rintro e w1 ⟨rfl, f1⟩
    go_wp2_with fail
    refine (HA.out _ _).mono ?_
    rintro e w2 ⟨rfl, rfl⟩
    go_wp2_with fail
    refine (HY.out _ _).mono ?_
    rintro e w3 ⟨rfl, rfl⟩
    go_wp2
    go_ret
    exact ⟨ret_int HE.out.symm, f1⟩
  · have HE : Hid (cmpR op c v = 2) := Lib.hid (by unfold cmpR; rw [hn]; rfl)
    rw [toA_null hn]
    generalize anV (toA ty v) = y at *
    unfold anV
    have hN := fun W => nil_nil W
    clear hn hc hv
    go_enter Tryz.func92, Tryz.ntmps92
    go_wp2
    go_ret
    exact ⟨ret_int HE.out.symm, Fr.refl _ _⟩

/-- no value: no text -/
theorem as_nil_str (W : World) : (Instr.typeAssert .nilIface 20 9 true).run Tryz.prog W = .ok (.tuple #[.string ⟨#[]⟩, .bool false]) W := by kernel_rfl
theorem eliked_any (nl : Bool) (c : Cl) (p : Tx) (w : World) (hc : mayC 3 nl c = true) (hp : p.length ≤ 1000) :
    Calls Tryz.prog 96 #[anV (toA 3 c), .string ⟨p.toArray⟩] w fun e w' => e = .returned (.int .i64 (likR c p)) ∧ Fr Non w w' := by
  cases hn : c.null
  · have ht := mayC_text hc
    have HG := Lib.hid (fun W => gmatch_any p c.txt W (by omega) (by omega))
    have HY := Lib.hid (fun b W => etold_any b W)
    have HE : Hid (likR c p = yesI (matchU p c.txt)) := Lib.hid (by unfold likR; rw [hn]; rfl)
    have hA := fun W v => as_str_str W v
    have ht3 : toA 3 c = .text c.txt := by unfold toA; rw [hn]; rfl
    rw [ht3]
    unfold anV
    generalize c.txt = t at *
    generalize matchU p t = b at *
    clear hn hc ht ht3
    go_enter Tryz.func96, Tryz.ntmps96
    go_wp2_with fail
    refine (HG.out _).mono ?_
    rintro e w1 ⟨rfl, f1⟩
    go_wp2_with fail
    refine (HY.out _ _).mono ?_
    rintro e w2 ⟨rfl, rfl⟩
    go_wp2
    go_ret
    exact ⟨ret_int HE.out.symm, f1⟩
  · have HE : Hid (likR c p = 2) := Lib.hid (by unfold likR; rw [hn]; rfl)
    rw [toA_null hn]
    unfold anV
    have hA := fun W => as_nil_str W
    clear hn hc
    go_enter Tryz.func96, Tryz.ntmps96
    go_wp2
    go_ret
    exact ⟨ret_int HE.out.symm, Fr.refl _ _⟩

/-! ### A row's value -/
/-- a record's value, and its block -/
def recV (v1 v2 : Value) : Value := .agg #[v1, v2]
set_option maxHeartbeats 2000000 in
theorem evalue_any (v1 v2 : Value) (cols : List Co) (row : List Cl) (n : Tx) (k : Nat) (w : World) (h1 : Ks w v1 cols) (h2 : Cs w v2 row) (hcl : cols.length ≤ 1000) (hk : k < cols.length) (hk2 : k < row.length) (hf : findC cols n = some k) :
    Calls Tryz.prog 93 #[recV v1 v2, .string ⟨n.toArray⟩] w fun e w' => e = .returned (anV (toA cols[k].ty row[k])) ∧ Fr Non w w' := by
  obtain ⟨A1, c1, rfl⟩ := h1.shape
  obtain ⟨A2, c2, rfl⟩ := h2.shape
  have F0 : Fr Non w (w.alloc (.cells #[.slice A1 cols.length c1, .slice A2 row.length c2] 94)) := (Fr.refl Non w).alloc _
  have RB : Blk (w.alloc (.cells #[.slice A1 cols.length c1, .slice A2 row.length c2] 94)) w.heap.size 94 #[.slice A1 cols.length c1, .slice A2 row.length c2] := Blk.new _ _ _
  have FC := Lib.hid (fun W h => sfind_any (.slice A1 cols.length c1) cols n W h (by omega))
  rw [hf] at FC
  have HK1 : Hid (Ks _ (.slice A1 cols.length c1) cols) := Lib.hid (h1.non F0)
  have HC2 := Lib.hid (h2.non F0)
  replace F0 := Lib.hid F0
  replace RB := Lib.hid RB
  have HX := fun W => ato_any cols[k].ty row[k] W
  generalize anV (toA cols[k].ty row[k]) = r at *
  replace HX := Lib.hid HX
  unfold recV
  have g0 := RB.out.cell 0
  simp at g0
  clear h1 h2 hf
  go_enter Tryz.func93, Tryz.ntmps93
  go_wp2_with fail
  refine (FC.out _ HK1.out).mono ?_
  rintro e w1 ⟨rfl, f1⟩
  have RB1 := Lib.hid (RB.out.fr f1 (fun e => e))
  have HK2 : Hid (Ks w1 (.slice A1 cols.length c1) cols) := Lib.hid (HK1.out.non f1)
  have HC3 := Lib.hid (HC2.out.non f1)
  have F1 := Lib.hid (F0.out.trans f1).drew
  clear f1 HK1 HC2 RB F0 FC g0
  obtain ⟨a1, rfl, -, t1⟩ := Ks.findS HK2.out k (by omega)
  obtain ⟨a2, rfl, -, -, hel⟩ := HC3.out.addr (show 0 < row.length by omega)
  obtain ⟨t3, t4, t5⟩ := (hel k (by omega)).lit
  have t6 := RB1.out.cell 0
  have t7 := RB1.out.cell 1
  simp at t6 t7
  generalize cols[k].ty = ty at *
  generalize row[k] = c at *
  obtain ⟨yn, yt, yb⟩ := c
  unfold clV clC at HX
  dsimp only at t3 t4 t5 HX
  unfold findV
  replace t1 : w1.drew.cell? _ = _ := t1
  replace t3 : w1.drew.cell? _ = _ := t3
  replace t4 : w1.drew.cell? _ = _ := t4
  replace t5 : w1.drew.cell? _ = _ := t5
  replace t6 : w1.drew.cell? _ = _ := t6
  replace t7 : w1.drew.cell? _ = _ := t7
  clear hel HK2 HC3 RB1
  generalize w.heap.size = g at *
  go_wp2
  go_region_held3 (fun W => W.cell? ⟨g, 0, none⟩ = some (.slice (some a1) cols.length c1) ∧ W.cell? ⟨g, 1, none⟩ = some (.slice (some a2) row.length c2) ∧ W.cell? { block := (a1.add (k * 3)).block, off := (a1.add (k * 3)).off + 1 } = some (.int .i64 ty) ∧ W.cell? (a2.add (k * 3)) = some (.bool yn) ∧ W.cell? { block := (a2.add (k * 3)).block, off := (a2.add (k * 3)).off + 1 } = some (.int .i64 yt) ∧ W.cell? { block := (a2.add (k * 3)).block, off := (a2.add (k * 3)).off + 2 } = some (.string ⟨yb.toArray⟩)) (first | exact ⟨t6, t7, t1, t3, t4, t5⟩ | exact ⟨u6, u7, u1, u3, u4, u5⟩ | fail) (first | (go_at_call 94; refine (HX.out _).mono ?_; rintro e w4 ⟨rfl, f4⟩; have F4 := Lib.hid (F1.out.trans f4); have u1 := (f4.cell (World.block_lt_of_cell? _ _ t1) (fun e => e)).trans t1; have u3 := (f4.cell (World.block_lt_of_cell? _ _ t3) (fun e => e)).trans t3; have u4 := (f4.cell (World.block_lt_of_cell? _ _ t4) (fun e => e)).trans t4; have u5 := (f4.cell (World.block_lt_of_cell? _ _ t5) (fun e => e)).trans t5; have u6 := (f4.cell (World.block_lt_of_cell? _ _ t6) (fun e => e)).trans t6; have u7 := (f4.cell (World.block_lt_of_cell? _ _ t7) (fun e => e)).trans t7))
  clear u1 u3 u4 u5 u6 u7 f4 t1 t3 t4 t5 t6 t7 HX F1
  go_wp2
  go_ret
  exact ⟨rfl, F4.out⟩

/-! ### The document's comparison -/
end Go.Proofs.YtjcfjjhhbcgcmaaGreat


namespace Go.Proofs.YtjcfjjhhbcgcmaaGreat
set_option linter.unusedVariables false
set_option linter.unusedSimpArgs false
set_option maxRecDepth 100000
open Go.RowKit

set_option maxHeartbeats 4000000 in
theorem echain_of (v1 v2 : Value) (cols : List Co) (row : List Cl) (ks : List Pd) (s k0 : Int) (t : Kv) (w : World) (h1 : Ks w v1 cols) (h2 : Cs w v2 row) (hk : Kd w t ks) (hl : ks.length ≤ 1000)
    (IH : Hid (∀ j (h : j < ks.length) (W : World) (t' : Kv), Ks W v1 cols → Cs W v2 row → Kd W t' ks[j].kids → Calls Tryz.prog 66 #[recV v1 v2, pdV ks[j].hd t'] W fun e w' => e = .returned (.int .i64 (truP cols row ks[j])) ∧ Fr Non W w')) :
    Calls Tryz.prog 98 #[recV v1 v2, kidV t, .int .i64 s, .int .i64 k0] w fun e w' => e = .returned (.int .i64 (chnI s k0 (ks.map (truP cols row)))) ∧ Fr Non w w' := by
  have hn := hk.len
  obtain ⟨A1, c1, rfl⟩ := h1.shape
  obtain ⟨A2, c2, rfl⟩ := h2.shape
  have HV : Hid (Ks w (.slice A1 cols.length c1) cols) := Lib.hid h1
  have HC := Lib.hid h2
  have HK := Lib.hid hk
  have F0 : Fr Non w (w.alloc (.cells #[.slice A1 cols.length c1, .slice A2 row.length c2] 94)) := (Fr.refl Non w).alloc _
  have RB : Blk (w.alloc (.cells #[.slice A1 cols.length c1, .slice A2 row.length c2] 94)) w.heap.size 94 #[.slice A1 cols.length c1, .slice A2 row.length c2] := Blk.new _ _ _
  replace F0 := Lib.hid F0
  replace RB := Lib.hid RB
  unfold recV at *
  clear h1 h2 hk
  obtain ⟨A, n, c⟩ := t
  dsimp only at hn
  have hn9 : n ≤ 1000 := by omega
  have HL := Lib.hid hn
  clear hn hl
  unfold kidV
  dsimp only
  have HE0 : Hid (∀ j is, ChnTo s k0 (ks.map (truP cols row)) j is → n ≤ j → chnI s k0 (ks.map (truP cols row)) = is) := Lib.hid (fun j is h hj => chn_end h (by rw [List.length_map]; have := HL.out; omega))
  have HE1 : Hid (∀ j (h : j < ks.length), truP cols row ks[j] = s → chnI s k0 (ks.map (truP cols row)) = s) := Lib.hid (fun j h e => chn_at (j := j) (by rw [List.length_map]; exact h) (by rw [List.getElem_map]; exact e))
  have HE2 : Hid (∀ j is (h : j < ks.length), ChnTo s k0 (ks.map (truP cols row)) j is → truP cols row ks[j] ≠ s → ChnTo s k0 (ks.map (truP cols row)) (j + 1) (if truP cols row ks[j] = 2 then 2 else is)) := Lib.hid (fun j is h e h1 => by
    have := chn_more (j := j) e (by rw [List.length_map]; exact h) (by rw [List.getElem_map]; exact h1)
    rw [List.getElem_map] at this; exact this)
  have HS0 : Hid (ChnTo s k0 (ks.map (truP cols row)) 0 k0) := Lib.hid (chn_start _ _ _)
  generalize chnI s k0 (ks.map (truP cols row)) = r at *
  generalize ks.map (truP cols row) = L at *
  go_enter Tryz.func98, Tryz.ntmps98
  go_wp2
  go_loopw [9, 15] (fun u i wr => ∃ (k : Nat) (is : Int), k ≤ n ∧ i = .int .i64 k ∧ u = .int .i64 is ∧ Hid (ChnTo s k0 L k is) ∧ Hid (Fr Non (w.alloc (.cells #[.slice A1 cols.length c1, .slice A2 row.length c2] 94)) wr)) (fun _ i _ => n - (intOf i).toNat)
  case atStart => exact ⟨0, k0, Nat.zero_le _, rfl, rfl, HS0, Lib.hid (Fr.refl _ _)⟩
  case round =>
    clear HS0
    obtain ⟨k, is, hk, rfl, rfl, HT, FR⟩ := hrel
    have HFw := Lib.hid (F0.out.trans FR.out)
    by_cases hlt : k < n
    · have hlt2 : k < ks.length := by have := HL.out; omega
      obtain ⟨a, t, hA, hc2, hkk, _⟩ := HK.out.elN HFw.out k hlt2
      have HCa : Hid (∀ W, Fr Non wr W → Calls Tryz.prog 66 #[.agg #[.slice A1 cols.length c1, .slice A2 row.length c2], pdV ks[k].hd t] W fun e w' => e = .returned (.int .i64 (truP cols row ks[k])) ∧ Fr Non W w') :=
        Lib.hid (fun W hf => IH.out k hlt2 W t (HV.out.non (HFw.out.trans hf)) (HC.out.non (HFw.out.trans hf)) (hkk.non (HFw.out.trans hf)))
      have HY := Lib.hid (fun e => HE1.out k hlt2 e)
      have HX := Lib.hid (fun e => HE2.out k is hlt2 HT.out e)
      dsimp only at hA
      subst hA
      obtain ⟨c0, c1_, c2_, c3, c4, c5, c6, c7, c8⟩ := hc2
      clear hkk HT HE0 HE1 HE2
      generalize truP cols row ks[k] = y at *
      generalize ks[k].hd = x at *
      have F1 : Fr Non wr (wr.alloc (.cells (pdC x t) 28)) := (Fr.refl Non wr).alloc _
      replace HCa := Lib.hid (HCa.out _ F1)
      have HB := Lib.hid (pd_new wr _ x t rfl)
      have RB1 := Lib.hid (RB.out.fr (FR.out.trans F1) (fun e => e))
      replace F1 := Lib.hid F1
      obtain ⟨xo, xc, xm, ⟨xn, xi, xt⟩, xk, xp⟩ := x
      obtain ⟨tA, tn, tc⟩ := t
      unfold pdV pdC kidV at *
      dsimp only at *
      have r0 := RB1.out.cell 0
      have r1 := RB1.out.cell 1
      simp at r0 r1
      obtain ⟨b0, b1, b2, b3, b4, b5, b6, b7, b8⟩ := pdB_cells HB.out
      dsimp only at b0 b1 b2 b3 b4 b5 b6 b7 b8
      by_cases hs : y = s
      · have HE := Lib.hid (HY.out hs)
        have hb : (y == s) = true := by rw [beq_iff_eq]; exact hs
        clear HX HY
        go_wp2_with fail
        refine HCa.out.mono ?_
        rintro e w2 ⟨rfl, f2⟩
        clear HCa
        go_wp2
        go_ret
        exact ⟨ret_int HE.out.symm, HFw.out.trans (F1.out.trans f2)⟩
      · have hb : (y == s) = false := by rw [beq_eq_false_iff_ne]; exact hs
        have HE := Lib.hid (HX.out hs)
        clear HX HY hs
        by_cases h2 : y = 2
        · subst h2
          rw [if_pos rfl] at HE
          go_wp2_with fail
          refine HCa.out.mono ?_
          rintro e w2 ⟨rfl, f2⟩
          clear HCa
          go_wp2
          go_roundw
          case rel => exact ⟨k + 1, 2, by omega, by go_num, rfl, HE, Lib.hid (FR.out.trans (F1.out.trans f2))⟩
          case measure => simp [intOf]; omega
        · rw [if_neg h2] at HE
          have hb2 : (y == 2) = false := by rw [beq_eq_false_iff_ne]; exact h2
          clear h2
          go_wp2_with fail
          refine HCa.out.mono ?_
          rintro e w2 ⟨rfl, f2⟩
          clear HCa
          go_wp2
          go_roundw
          case rel => exact ⟨k + 1, is, by omega, by go_num, rfl, HE, Lib.hid (FR.out.trans (F1.out.trans f2))⟩
          case measure => simp [intOf]; omega
    · have HE := Lib.hid (HE0.out k is HT.out (by omega))
      clear HT HE0 HE1 HE2
      go_wp2
      go_ret
      exact ⟨ret_int HE.out.symm, HFw.out⟩

end Go.Proofs.YtjcfjjhhbcgcmaaGreat


namespace Go.Proofs.YtjcfjjhhbcgcmaaGreat
set_option linter.unusedVariables false
set_option linter.unusedSimpArgs false
set_option maxRecDepth 100000
open Go.RowKit

/-- a record and a predicate, boxed one behind the other -/
def recW (w : World) (v1 v2 : Value) (h : Ph) (t : Kv) : World := (w.alloc (.cells #[v1, v2] 94)).alloc (.cells (pdC h t) 28)
theorem recW_fr (w : World) (v1 v2 : Value) (h : Ph) (t : Kv) : Fr Non w (recW w v1 v2 h t) := ((Fr.refl Non w).alloc _).alloc _
theorem recW_rec (w : World) (v1 v2 : Value) (h : Ph) (t : Kv) : Blk (recW w v1 v2 h t) w.heap.size 94 #[v1, v2] := (Blk.new _ _ _).fr ((Fr.refl Non _).alloc _) (fun e => e)
theorem recW_pd (w : World) (v1 v2 : Value) (h : Ph) (t : Kv) : PdB (recW w v1 v2 h t) (w.heap.size + 1) h t := by
  have e := pd_new (w.alloc (.cells #[v1, v2] 94)) _ h t rfl
  rw [show (w.alloc (.cells #[v1, v2] 94)).heap.size = w.heap.size + 1 by simp] at e
  exact e
theorem truH_1 {cols : List Co} {row : List Cl} {h : Ph} {ts : List Int} (e : h.op = 1) : truH cols row h ts = 1 := by unfold truH; rw [e]; rfl
theorem truH_2 {cols : List Co} {row : List Cl} {h : Ph} {ts : List Int} (e : h.op = 2) : truH cols row h ts = cmpR h.cmp (cellN cols row h.col) h.val := by unfold truH; rw [if_pos e]
theorem truH_3 {cols : List Co} {row : List Cl} {h : Ph} {ts : List Int} (e : h.op = 3) : truH cols row h ts = yesI (cellN cols row h.col).null := by unfold truH; rw [if_neg (by omega), if_pos e]
theorem truH_4 {cols : List Co} {row : List Cl} {h : Ph} {ts : List Int} (e : h.op = 4) : truH cols row h ts = likR (cellN cols row h.col) h.pat := by unfold truH; rw [if_neg (by omega), if_neg (by omega), if_pos e]
theorem truH_5 {cols : List Co} {row : List Cl} {h : Ph} {ts : List Int} (e : h.op = 5) : truH cols row h ts = notI (ts.headD 0) := by unfold truH; rw [if_neg (by omega), if_neg (by omega), if_neg (by omega), if_pos e]
theorem truH_6 {cols : List Co} {row : List Cl} {h : Ph} {ts : List Int} (e : h.op = 6) : truH cols row h ts = chnI 0 1 ts := by unfold truH; rw [if_neg (by omega), if_neg (by omega), if_neg (by omega), if_neg (by omega), if_pos e]
theorem truH_7 {cols : List Co} {row : List Cl} {h : Ph} {ts : List Int} (e : h.op = 7) : truH cols row h ts = chnI 1 0 ts := by unfold truH; rw [if_neg (by omega), if_neg (by omega), if_neg (by omega), if_neg (by omega), if_neg (by omega), if_pos e]

theorem an_iface {ty : Int} {nl : Bool} {c : Cl} (h : mayC ty nl c = true) (hn : c.null = false) : ∃ u x, anV (toA ty c) = .iface u x := by
  have h1 := (an_two h h hn hn).1
  revert h1
  generalize toA ty c = a
  intro h1
  cases h1 <;> exact ⟨_, _, rfl⟩

set_option maxHeartbeats 8000000 in
theorem etruth_any (v1 v2 : Value) (cols : List Co) (row : List Cl) (hcl : cols.length ≤ 1000) (hr : rowB cols row = true) (p : Pd) : ∀ (t : Kv) (w : World), Ks w v1 cols → Cs w v2 row → Kd w t p.kids → bigP p = true → oneP p = true → typP cols p = true →
    Calls Tryz.prog 66 #[recV v1 v2, pdV p.hd t] w fun e w' => e = .returned (.int .i64 (truP cols row p)) ∧ Fr Non w w' := by
  induction p using Pd.ind with
  | h hd ks ih =>
    intro t w h1 h2 hk hbig hone htyp
    dsimp only [Pd.hd, Pd.kids] at hk ⊢
    have hn : t.n = ks.length := hk.len
    obtain ⟨hl, _, hpl, _, hbk⟩ := bigP_mk hbig
    obtain ⟨hok, hok1⟩ := one_kids hone
    obtain ⟨hty, hty1⟩ := typ_kids htyp
    obtain ⟨A1, c1, rfl⟩ := h1.shape
    obtain ⟨A2, c2, rfl⟩ := h2.shape
    have F0 := Lib.hid (recW_fr w (.slice A1 cols.length c1) (.slice A2 row.length c2) hd t)
    have RB := Lib.hid (recW_rec w (.slice A1 cols.length c1) (.slice A2 row.length c2) hd t)
    have PB := Lib.hid (recW_pd w (.slice A1 cols.length c1) (.slice A2 row.length c2) hd t)
    have IH : Hid (∀ j (h : j < ks.length) (W : World) (t' : Kv), Ks W (.slice A1 cols.length c1) cols → Cs W (.slice A2 row.length c2) row → Kd W t' ks[j].kids → Calls Tryz.prog 66 #[recV (.slice A1 cols.length c1) (.slice A2 row.length c2), pdV ks[j].hd t'] W fun e w' => e = .returned (.int .i64 (truP cols row ks[j])) ∧ Fr Non W w') :=
      Lib.hid (fun j h W t' a b c => ih _ (List.getElem_mem h) t' W a b c (hbk _ (List.getElem_mem h)) (hok1 _ (List.getElem_mem h)) (hty1 _ (List.getElem_mem h)))
    have HV : Hid (Ks w (.slice A1 cols.length c1) cols) := Lib.hid h1
    have HC := Lib.hid h2
    have HK : Hid (Kd w t ks) := Lib.hid hk
    have HE0 := Lib.hid (tru_is cols row hd ks)
    clear ih hk h1 h2 hbig hone htyp hok1 hty1 hbk
    generalize truP cols row (.mk hd ks) = r at *
    rcases hd_ways hok with ⟨ho, h0, -⟩ | ⟨ho, h0, ha⟩ | ⟨ho, h0, -⟩ | ⟨ho, h0, -⟩
    · have HE : Hid (r = 1) := Lib.hid (by rw [HE0.out, truH_1 ho])
      clear HE0 IH HV HC HK hok hty h0 hpl hr
      obtain ⟨ho_, hc, hm, ⟨vn, vi, vt⟩, hkd, hp⟩ := hd
      obtain ⟨A, n, c⟩ := t
      dsimp only at ho hn
      clear hn
      subst ho
      unfold recW at F0 RB PB
      unfold recV pdV
      unfold pdC kidV at *
      dsimp only at *
      replace F0 := F0.out
      generalize hg : w.heap.size = g at *
      have r0 := RB.out.cell 0
      have r1 := RB.out.cell 1
      simp at r0 r1
      obtain ⟨b0, b1, b2, b3, b4, b5, b6, b7, b8⟩ := pdB_cells PB.out
      dsimp only at b0 b1 b2 b3 b4 b5 b6 b7 b8
      go_enter Tryz.func66, Tryz.ntmps66
      go_wp2
      go_ret
      exact ⟨ret_int HE.out.symm, F0⟩
    · obtain ⟨hne, k, hk1, hk2, hf, hcell, hmay, hq2, hq4⟩ := ask_col ho ha hty hr
      have HVa : Hid (∀ W, Fr Non w W → Calls Tryz.prog 93 #[recV (.slice A1 cols.length c1) (.slice A2 row.length c2), .string ⟨hd.col.toArray⟩] W fun e w' => e = .returned (anV (toA cols[k].ty row[k])) ∧ Fr Non W w') := Lib.hid (fun W hf2 => evalue_any _ _ cols row hd.col k W (HV.out.non hf2) (HC.out.non hf2) hcl hk1 hk2 hf)
      rcases ho with ho | ho | ho
      · obtain ⟨hkt, hmv⟩ := hq2 ho
        have HE : Hid (r = cmpR hd.cmp row[k] hd.val) := Lib.hid (by rw [HE0.out, truH_2 ho, hcell])
        rw [hkt] at hmay
        have HTo := Lib.hid (fun W => ato_any hd.kind hd.val W)
        have HCo := Lib.hid (fun W => ecompared_any hd.kind cols[k].nl hd.cmp row[k] hd.val W hmay hmv)
        rw [hkt] at HVa
        clear HE0 IH HV HC HK hok hty h0 hpl hr hcell hmay hq2 hq4 hkt hmv hf hne ha
        generalize cmpR hd.cmp row[k] hd.val = z at *
        generalize anV (toA hd.kind row[k]) = x1 at *
        generalize anV (toA hd.kind hd.val) = x2 at *
        obtain ⟨ho_, hc, hm, ⟨vn, vi, vt⟩, hkd, hp⟩ := hd
        obtain ⟨A, n, c⟩ := t
        dsimp only at ho hn HTo HCo HVa
        clear hn
        subst ho
        unfold recW at F0 RB PB
        unfold recV pdV at *
        unfold clV clC at HTo
        unfold pdC kidV at *
        dsimp only at *
        generalize hg : w.heap.size = g at *
        have r0 := RB.out.cell 0
        have r1 := RB.out.cell 1
        simp at r0 r1
        obtain ⟨b0, b1, b2, b3, b4, b5, b6, b7, b8⟩ := pdB_cells PB.out
        dsimp only at b0 b1 b2 b3 b4 b5 b6 b7 b8
        go_enter Tryz.func66, Tryz.ntmps66
        go_wp2
        have RBd := Lib.hid RB.out.drew
        have PBd := Lib.hid PB.out.drew
        have Fd := Lib.hid F0.out.drew
        refine wp_region_held_drew (S := (fun W' => W'.cell? ⟨g, 0, none⟩ = some (.slice A1 cols.length c1) ∧ W'.cell? ⟨g, 1, none⟩ = some (.slice A2 row.length c2) ∧ W'.cell? ⟨g + 1, 0, none⟩ = some (.int .i64 2) ∧ W'.cell? ⟨g + 1, 1, none⟩ = some (.string ⟨hc.toArray⟩) ∧ W'.cell? ⟨g + 1, 2, none⟩ = some (.int .i64 hm) ∧ W'.cell? ⟨g + 1, 3, none⟩ = some (.bool vn) ∧ W'.cell? ⟨g + 1, 4, none⟩ = some (.int .i64 vi) ∧ W'.cell? ⟨g + 1, 5, none⟩ = some (.string ⟨vt.toArray⟩) ∧ W'.cell? ⟨g + 1, 6, none⟩ = some (.int .i64 hkd) ∧ W'.cell? ⟨g + 1, 7, none⟩ = some (.string ⟨hp.toArray⟩) ∧ W'.cell? ⟨g + 1, 8, none⟩ = some (.slice A n c))) (by kernel_rfl) (by exact ⟨r0, r1, b0, b1, b2, b3, b4, b5, b6, b7, b8⟩) (fun hHeld => ?_)
        refine wpAnyH_take (i := 0) (oi := ⟨some 9, _, _, _, _, none⟩) (v := ?v1) rfl (by kernel_rfl) (by kernel_rfl) (by kernel_rfl) (fun _ _ _ h => h) (Or.inl ⟨by rfl, ?hy1⟩) (by assumption) ?rest1
        case hy1 => (intro wS hSw; (try dsimp only at hSw); go_simp; (try with_reducible rfl))
        (try simp only [Act.put, List.setIfInBounds_toArray, List.set_cons_zero, List.set_cons_succ])
        refine wpAnyH_take (i := 1) (oi := ⟨some 10, _, _, _, _, none⟩) (v := ?v2) rfl (by kernel_rfl) (by kernel_rfl) (by kernel_rfl) (fun _ _ _ h => h) (Or.inl ⟨by rfl, ?hy2⟩) (by assumption) ?rest2
        case hy2 => (intro wS hSw; (try dsimp only at hSw); go_simp; (try with_reducible rfl))
        (try simp only [Act.put, List.setIfInBounds_toArray, List.set_cons_zero, List.set_cons_succ])
        refine wpAnyH_take (i := 2) (oi := ⟨some 11, _, _, _, _, none⟩) (v := ?v3) rfl (by kernel_rfl) (by kernel_rfl) (by kernel_rfl) (fun _ _ _ h => h) (Or.inl ⟨by rfl, ?hy3⟩) (by assumption) ?rest3
        case hy3 => (intro wS hSw; (try dsimp only at hSw); go_simp; (try with_reducible rfl))
        (try simp only [Act.put, List.setIfInBounds_toArray, List.set_cons_zero, List.set_cons_succ])
        refine wpAnyH_take (i := 4) (oi := ⟨some 13, _, _, _, _, none⟩) (v := ?v4) rfl (by kernel_rfl) (by kernel_rfl) (by kernel_rfl) (fun _ _ _ h => h) (Or.inl ⟨by rfl, ?hy4⟩) (by assumption) ?rest4
        case hy4 => (intro wS hSw; (try dsimp only at hSw); go_simp; (try with_reducible rfl))
        (try simp only [Act.put, List.setIfInBounds_toArray, List.set_cons_zero, List.set_cons_succ])
        refine wpAnyH_take (i := 5) (oi := ⟨some 14, _, _, _, _, none⟩) (v := ?v5) rfl (by kernel_rfl) (by kernel_rfl) (by kernel_rfl) (fun _ _ _ h => h) (Or.inl ⟨by rfl, ?hy5⟩) (by assumption) ?rest5
        case hy5 => (intro wS hSw; (try dsimp only at hSw); go_simp; (try with_reducible rfl))
        (try simp only [Act.put, List.setIfInBounds_toArray, List.set_cons_zero, List.set_cons_succ])
        refine wpAnyH_take (i := 6) (oi := ⟨some 15, _, _, _, _, none⟩) (v := ?v6) rfl (by kernel_rfl) (by kernel_rfl) (by kernel_rfl) (fun _ _ _ h => h) (Or.inl ⟨by rfl, ?hy6⟩) (by assumption) ?rest6
        case hy6 => (intro wS hSw; (try dsimp only at hSw); go_simp; (try with_reducible rfl))
        (try simp only [Act.put, List.setIfInBounds_toArray, List.set_cons_zero, List.set_cons_succ])
        refine wpAnyH_take (i := 7) (oi := ⟨some 16, _, _, _, _, none⟩) (v := ?v7) rfl (by kernel_rfl) (by kernel_rfl) (by kernel_rfl) (fun _ _ _ h => h) (Or.inl ⟨by rfl, ?hy7⟩) (by assumption) ?rest7
        case hy7 => (intro wS hSw; (try dsimp only at hSw); go_simp; (try with_reducible rfl))
        (try simp only [Act.put, List.setIfInBounds_toArray, List.set_cons_zero, List.set_cons_succ])
        refine wpAnyH_take (i := 9) (oi := ⟨some 18, _, _, _, _, none⟩) (v := ?v8) rfl (by kernel_rfl) (by kernel_rfl) (by kernel_rfl) (fun _ _ _ h => h) (Or.inl ⟨by rfl, ?hy8⟩) (by assumption) ?rest8
        case hy8 => (intro wS hSw; (try dsimp only at hSw); go_simp; (try with_reducible rfl))
        (try simp only [Act.put, List.setIfInBounds_toArray, List.set_cons_zero, List.set_cons_succ])
        refine wpAnyH_take (i := 10) (oi := ⟨some 19, _, _, _, _, none⟩) (v := ?v9) rfl (by kernel_rfl) (by kernel_rfl) (by kernel_rfl) (fun _ _ _ h => h) (Or.inl ⟨by rfl, ?hy9⟩) (by assumption) ?rest9
        case hy9 => (intro wS hSw; (try dsimp only at hSw); go_simp; (try with_reducible rfl))
        (try simp only [Act.put, List.setIfInBounds_toArray, List.set_cons_zero, List.set_cons_succ])
        refine wpAnyH_ready (rs := [3]) (by kernel_rfl) (by simp) ?_
        refine AllReadyH.cons (o := ⟨some 12, _, _, _, _, none⟩) rfl (fun K hK => ?_) AllReadyH.nil
        go_simp
        go_at_call 93
        refine (HVa.out _ Fd.out).mono ?_
        rintro e w4 ⟨rfl, f4⟩
        have RB4 := Lib.hid (RBd.out.fr f4 (fun e => e))
        have PB4 := Lib.hid (PBd.out.fr f4 (fun e => e))
        have F4 := Lib.hid (Fd.out.trans f4)
        clear r0 r1 b0 b1 b2 b3 b4 b5 b6 b7 b8 f4
        have r0 := RB4.out.cell 0
        have r1 := RB4.out.cell 1
        simp at r0 r1
        obtain ⟨b0, b1, b2, b3, b4, b5, b6, b7, b8⟩ := pdB_cells PB4.out
        dsimp only at b0 b1 b2 b3 b4 b5 b6 b7 b8

        go_wp2_with fail
        refine hK.out _ _ (by exact ⟨r0, r1, b0, b1, b2, b3, b4, b5, b6, b7, b8⟩) (fun hHeld => ?_)
        clear hK K
        (try simp only [Act.put, List.setIfInBounds_toArray, List.set_cons_zero, List.set_cons_succ])
        refine wpAnyH_ready (rs := [8]) (by kernel_rfl) (by simp) ?_
        refine AllReadyH.cons (o := ⟨some 17, _, _, _, _, none⟩) rfl (fun K hK => ?_) AllReadyH.nil
        go_simp
        go_at_call 94
        refine (HTo.out _).mono ?_
        rintro e w5 ⟨rfl, f5⟩
        have RB5 := Lib.hid (RB4.out.fr f5 (fun e => e))
        have PB5 := Lib.hid (PB4.out.fr f5 (fun e => e))
        have F5 := Lib.hid (F4.out.trans f5)
        clear r0 r1 b0 b1 b2 b3 b4 b5 b6 b7 b8 f5
        have r0 := RB5.out.cell 0
        have r1 := RB5.out.cell 1
        simp at r0 r1
        obtain ⟨b0, b1, b2, b3, b4, b5, b6, b7, b8⟩ := pdB_cells PB5.out
        dsimp only at b0 b1 b2 b3 b4 b5 b6 b7 b8

        go_wp2_with fail
        refine hK.out _ _ (by exact ⟨r0, r1, b0, b1, b2, b3, b4, b5, b6, b7, b8⟩) (fun hHeld => ?_)
        clear hK K
        (try simp only [Act.put, List.setIfInBounds_toArray, List.set_cons_zero, List.set_cons_succ])
        refine wpAnyH_ready (rs := [11]) (by kernel_rfl) (by simp) ?_
        refine AllReadyH.cons (o := ⟨some 20, _, _, _, _, none⟩) rfl (fun K hK => ?_) AllReadyH.nil
        go_simp
        go_at_call 92
        refine (HCo.out _).mono ?_
        rintro e w6 ⟨rfl, f6⟩
        have RB6 := Lib.hid (RB5.out.fr f6 (fun e => e))
        have PB6 := Lib.hid (PB5.out.fr f6 (fun e => e))
        have F6 := Lib.hid (F5.out.trans f6)
        clear r0 r1 b0 b1 b2 b3 b4 b5 b6 b7 b8 f6
        have r0 := RB6.out.cell 0
        have r1 := RB6.out.cell 1
        simp at r0 r1
        obtain ⟨b0, b1, b2, b3, b4, b5, b6, b7, b8⟩ := pdB_cells PB6.out
        dsimp only at b0 b1 b2 b3 b4 b5 b6 b7 b8

        go_wp2_with fail
        refine hK.out _ _ (by exact ⟨r0, r1, b0, b1, b2, b3, b4, b5, b6, b7, b8⟩) (fun hHeld => ?_)
        clear hK K
        (try simp only [Act.put, List.setIfInBounds_toArray, List.set_cons_zero, List.set_cons_succ])
        refine wpAnyH_take (i := 12) (oi := ⟨some 4, _, _, _, _, none⟩) (v := ?v10) rfl (by kernel_rfl) (by kernel_rfl) (by kernel_rfl) (fun _ _ _ h => h) (Or.inl ⟨by rfl, ?hy10⟩) (by assumption) ?rest10
        case hy10 => (intro wS hSw; (try dsimp only at hSw); go_simp; (try with_reducible rfl))
        (try simp only [Act.put, List.setIfInBounds_toArray, List.set_cons_zero, List.set_cons_succ])
        refine wpAnyH_done (by kernel_rfl) ?_ _
        go_wp2
        go_ret
        exact ⟨ret_int HE.out.symm, F6.out⟩
      · have HE : Hid (r = yesI row[k].null) := Lib.hid (by rw [HE0.out, truH_3 ho, hcell])
        have HTo := Lib.hid (fun b W => etold_any b W)
        clear HE0 IH HV HC HK hok hty h0 hpl hr hcell hq2 hq4 hf hne ha
        cases hnu : row[k].null
        · rw [hnu] at HE
          have q1 := fun W u x => not_nil W u x
          obtain ⟨u, x, hux⟩ := an_iface hmay hnu
          rw [hux] at HVa
          clear hmay hnu
          obtain ⟨ho_, hc, hm, ⟨vn, vi, vt⟩, hkd, hp⟩ := hd
          obtain ⟨A, n, c⟩ := t
          dsimp only at ho hn HVa
          clear hn
          subst ho
          unfold recW at F0 RB PB
          unfold recV pdV at *
          unfold pdC kidV at *
          dsimp only at *
          generalize hg : w.heap.size = g at *
          have r0 := RB.out.cell 0
          have r1 := RB.out.cell 1
          simp at r0 r1
          obtain ⟨b0, b1, b2, b3, b4, b5, b6, b7, b8⟩ := pdB_cells PB.out
          dsimp only at b0 b1 b2 b3 b4 b5 b6 b7 b8
          go_enter Tryz.func66, Tryz.ntmps66
          go_wp2_with fail
          refine (HVa.out _ F0.out).mono ?_
          rintro e w4 ⟨rfl, f4⟩
          have F4 := Lib.hid (F0.out.trans f4)
          clear r0 r1 b0 b1 b2 b3 b4 b5 b6 b7 b8 f4
          go_wp2_with fail
          refine (HTo.out _ _).mono ?_
          rintro e w5 ⟨rfl, rfl⟩
          go_wp2
          go_ret
          exact ⟨ret_int HE.out.symm, F4.out⟩
        · rw [hnu] at HE
          have q1 := fun W => nil_nil W
          rw [toA_null hnu] at HVa
          simp only [anV] at HVa
          clear hmay hnu
          obtain ⟨ho_, hc, hm, ⟨vn, vi, vt⟩, hkd, hp⟩ := hd
          obtain ⟨A, n, c⟩ := t
          dsimp only at ho hn HVa
          clear hn
          subst ho
          unfold recW at F0 RB PB
          unfold recV pdV at *
          unfold pdC kidV at *
          dsimp only at *
          generalize hg : w.heap.size = g at *
          have r0 := RB.out.cell 0
          have r1 := RB.out.cell 1
          simp at r0 r1
          obtain ⟨b0, b1, b2, b3, b4, b5, b6, b7, b8⟩ := pdB_cells PB.out
          dsimp only at b0 b1 b2 b3 b4 b5 b6 b7 b8
          go_enter Tryz.func66, Tryz.ntmps66
          go_wp2_with fail
          refine (HVa.out _ F0.out).mono ?_
          rintro e w4 ⟨rfl, f4⟩
          have F4 := Lib.hid (F0.out.trans f4)
          clear r0 r1 b0 b1 b2 b3 b4 b5 b6 b7 b8 f4
          go_wp2_with fail
          refine (HTo.out _ _).mono ?_
          rintro e w5 ⟨rfl, rfl⟩
          go_wp2
          go_ret
          exact ⟨ret_int HE.out.symm, F4.out⟩
      · have hkt := hq4 ho
        have HE : Hid (r = likR row[k] hd.pat) := Lib.hid (by rw [HE0.out, truH_4 ho, hcell])
        rw [hkt] at hmay HVa
        have HLi := Lib.hid (fun W => eliked_any cols[k].nl row[k] hd.pat W hmay (by omega))
        clear HE0 IH HV HC HK hok hty h0 hpl hr hcell hmay hq2 hq4 hkt hf hne ha
        generalize likR row[k] hd.pat = z at *
        generalize anV (toA 3 row[k]) = x1 at *
        obtain ⟨ho_, hc, hm, ⟨vn, vi, vt⟩, hkd, hp⟩ := hd
        obtain ⟨A, n, c⟩ := t
        dsimp only at ho hn HLi HVa
        clear hn
        subst ho
        unfold recW at F0 RB PB
        unfold recV pdV at *
        unfold pdC kidV at *
        dsimp only at *
        generalize hg : w.heap.size = g at *
        have r0 := RB.out.cell 0
        have r1 := RB.out.cell 1
        simp at r0 r1
        obtain ⟨b0, b1, b2, b3, b4, b5, b6, b7, b8⟩ := pdB_cells PB.out
        dsimp only at b0 b1 b2 b3 b4 b5 b6 b7 b8
        go_enter Tryz.func66, Tryz.ntmps66
        go_wp2
        have RBd := Lib.hid RB.out.drew
        have PBd := Lib.hid PB.out.drew
        have Fd := Lib.hid F0.out.drew
        refine wp_region_held_drew (S := (fun W' => W'.cell? ⟨g, 0, none⟩ = some (.slice A1 cols.length c1) ∧ W'.cell? ⟨g, 1, none⟩ = some (.slice A2 row.length c2) ∧ W'.cell? ⟨g + 1, 0, none⟩ = some (.int .i64 4) ∧ W'.cell? ⟨g + 1, 1, none⟩ = some (.string ⟨hc.toArray⟩) ∧ W'.cell? ⟨g + 1, 2, none⟩ = some (.int .i64 hm) ∧ W'.cell? ⟨g + 1, 3, none⟩ = some (.bool vn) ∧ W'.cell? ⟨g + 1, 4, none⟩ = some (.int .i64 vi) ∧ W'.cell? ⟨g + 1, 5, none⟩ = some (.string ⟨vt.toArray⟩) ∧ W'.cell? ⟨g + 1, 6, none⟩ = some (.int .i64 hkd) ∧ W'.cell? ⟨g + 1, 7, none⟩ = some (.string ⟨hp.toArray⟩) ∧ W'.cell? ⟨g + 1, 8, none⟩ = some (.slice A n c))) (by kernel_rfl) (by exact ⟨r0, r1, b0, b1, b2, b3, b4, b5, b6, b7, b8⟩) (fun hHeld => ?_)
        refine wpAnyH_take (i := 0) (oi := ⟨some 31, _, _, _, _, none⟩) (v := ?v11) rfl (by kernel_rfl) (by kernel_rfl) (by kernel_rfl) (fun _ _ _ h => h) (Or.inl ⟨by rfl, ?hy11⟩) (by assumption) ?rest11
        case hy11 => (intro wS hSw; (try dsimp only at hSw); go_simp; (try with_reducible rfl))
        (try simp only [Act.put, List.setIfInBounds_toArray, List.set_cons_zero, List.set_cons_succ])
        refine wpAnyH_take (i := 1) (oi := ⟨some 32, _, _, _, _, none⟩) (v := ?v12) rfl (by kernel_rfl) (by kernel_rfl) (by kernel_rfl) (fun _ _ _ h => h) (Or.inl ⟨by rfl, ?hy12⟩) (by assumption) ?rest12
        case hy12 => (intro wS hSw; (try dsimp only at hSw); go_simp; (try with_reducible rfl))
        (try simp only [Act.put, List.setIfInBounds_toArray, List.set_cons_zero, List.set_cons_succ])
        refine wpAnyH_take (i := 2) (oi := ⟨some 33, _, _, _, _, none⟩) (v := ?v13) rfl (by kernel_rfl) (by kernel_rfl) (by kernel_rfl) (fun _ _ _ h => h) (Or.inl ⟨by rfl, ?hy13⟩) (by assumption) ?rest13
        case hy13 => (intro wS hSw; (try dsimp only at hSw); go_simp; (try with_reducible rfl))
        (try simp only [Act.put, List.setIfInBounds_toArray, List.set_cons_zero, List.set_cons_succ])
        refine wpAnyH_take (i := 4) (oi := ⟨some 35, _, _, _, _, none⟩) (v := ?v14) rfl (by kernel_rfl) (by kernel_rfl) (by kernel_rfl) (fun _ _ _ h => h) (Or.inl ⟨by rfl, ?hy14⟩) (by assumption) ?rest14
        case hy14 => (intro wS hSw; (try dsimp only at hSw); go_simp; (try with_reducible rfl))
        (try simp only [Act.put, List.setIfInBounds_toArray, List.set_cons_zero, List.set_cons_succ])
        refine wpAnyH_take (i := 5) (oi := ⟨some 36, _, _, _, _, none⟩) (v := ?v15) rfl (by kernel_rfl) (by kernel_rfl) (by kernel_rfl) (fun _ _ _ h => h) (Or.inl ⟨by rfl, ?hy15⟩) (by assumption) ?rest15
        case hy15 => (intro wS hSw; (try dsimp only at hSw); go_simp; (try with_reducible rfl))
        (try simp only [Act.put, List.setIfInBounds_toArray, List.set_cons_zero, List.set_cons_succ])
        refine wpAnyH_ready (rs := [3]) (by kernel_rfl) (by simp) ?_
        refine AllReadyH.cons (o := ⟨some 34, _, _, _, _, none⟩) rfl (fun K hK => ?_) AllReadyH.nil
        go_simp
        go_at_call 93
        refine (HVa.out _ Fd.out).mono ?_
        rintro e w4 ⟨rfl, f4⟩
        have RB4 := Lib.hid (RBd.out.fr f4 (fun e => e))
        have PB4 := Lib.hid (PBd.out.fr f4 (fun e => e))
        have F4 := Lib.hid (Fd.out.trans f4)
        clear r0 r1 b0 b1 b2 b3 b4 b5 b6 b7 b8 f4
        have r0 := RB4.out.cell 0
        have r1 := RB4.out.cell 1
        simp at r0 r1
        obtain ⟨b0, b1, b2, b3, b4, b5, b6, b7, b8⟩ := pdB_cells PB4.out
        dsimp only at b0 b1 b2 b3 b4 b5 b6 b7 b8

        go_wp2_with fail
        refine hK.out _ _ (by exact ⟨r0, r1, b0, b1, b2, b3, b4, b5, b6, b7, b8⟩) (fun hHeld => ?_)
        clear hK K
        (try simp only [Act.put, List.setIfInBounds_toArray, List.set_cons_zero, List.set_cons_succ])
        refine wpAnyH_ready (rs := [6]) (by kernel_rfl) (by simp) ?_
        refine AllReadyH.cons (o := ⟨some 37, _, _, _, _, none⟩) rfl (fun K hK => ?_) AllReadyH.nil
        go_simp
        go_at_call 96
        refine (HLi.out _).mono ?_
        rintro e w5 ⟨rfl, f5⟩
        have RB5 := Lib.hid (RB4.out.fr f5 (fun e => e))
        have PB5 := Lib.hid (PB4.out.fr f5 (fun e => e))
        have F5 := Lib.hid (F4.out.trans f5)
        clear r0 r1 b0 b1 b2 b3 b4 b5 b6 b7 b8 f5
        have r0 := RB5.out.cell 0
        have r1 := RB5.out.cell 1
        simp at r0 r1
        obtain ⟨b0, b1, b2, b3, b4, b5, b6, b7, b8⟩ := pdB_cells PB5.out
        dsimp only at b0 b1 b2 b3 b4 b5 b6 b7 b8

        go_wp2_with fail
        refine hK.out _ _ (by exact ⟨r0, r1, b0, b1, b2, b3, b4, b5, b6, b7, b8⟩) (fun hHeld => ?_)
        clear hK K
        (try simp only [Act.put, List.setIfInBounds_toArray, List.set_cons_zero, List.set_cons_succ])
        refine wpAnyH_take (i := 7) (oi := ⟨some 4, _, _, _, _, none⟩) (v := ?v16) rfl (by kernel_rfl) (by kernel_rfl) (by kernel_rfl) (fun _ _ _ h => h) (Or.inl ⟨by rfl, ?hy16⟩) (by assumption) ?rest16
        case hy16 => (intro wS hSw; (try dsimp only at hSw); go_simp; (try with_reducible rfl))
        (try simp only [Act.put, List.setIfInBounds_toArray, List.set_cons_zero, List.set_cons_succ])
        refine wpAnyH_done (by kernel_rfl) ?_ _
        go_wp2
        go_ret
        exact ⟨ret_int HE.out.symm, F5.out⟩
    · have hk1 : 0 < ks.length := by omega
      obtain ⟨a, t', hA, hc2, hkk, _⟩ := HK.out.elN F0.out.drew 0 hk1
      have HT : Hid (∀ W, Fr Non w W → Calls Tryz.prog 66 #[recV (.slice A1 cols.length c1) (.slice A2 row.length c2), pdV ks[0].hd t'] W fun e w' => e = .returned (.int .i64 (truP cols row ks[0])) ∧ Fr Non W w') :=
        Lib.hid (fun W hf => IH.out 0 hk1 W t' (HV.out.non hf) (HC.out.non hf) (hkk.non hf))
      have HNo := Lib.hid (fun z W => enot_any z W)
      have HE : Hid (r = notI (truP cols row ks[0])) := Lib.hid (by
        rw [HE0.out, truH_5 ho]
        cases ks with
        | nil => simp at hk1
        | cons x l => rfl)
      clear HE0 IH HV HC HK hok hty hpl hr hkk
      generalize truP cols row ks[0] = z at *
      generalize ks[0].hd = x at *
      obtain ⟨ho_, hc, hm, ⟨vn, vi, vt⟩, hkd, hp⟩ := hd
      obtain ⟨A, n, c⟩ := t
      obtain ⟨xo, xc, xm, ⟨xn, xi, xt⟩, xk, xp⟩ := x
      obtain ⟨tA, tn, tc⟩ := t'
      dsimp only at ho hn hA
      subst hA
      subst ho
      obtain ⟨k0, k1, k2, k3, k4, k5, k6, k7, k8⟩ := hc2
      simp only [Nat.zero_mul] at k0 k1 k2 k3 k4 k5 k6 k7 k8
      have hn1 : 0 < n := by omega
      clear hn h0 hk1
      unfold recW at F0 RB PB k0 k1 k2 k3 k4 k5 k6 k7 k8
      unfold recV pdV at *
      unfold pdC kidV at *
      dsimp only at *
      generalize hg : w.heap.size = g at *
      have r0 := RB.out.cell 0
      have r1 := RB.out.cell 1
      simp at r0 r1
      obtain ⟨b0, b1, b2, b3, b4, b5, b6, b7, b8⟩ := pdB_cells PB.out
      dsimp only at b0 b1 b2 b3 b4 b5 b6 b7 b8
      go_enter Tryz.func66, Tryz.ntmps66
      go_wp2
      have RBd := Lib.hid RB.out.drew
      have PBd := Lib.hid PB.out.drew
      have Fd := Lib.hid F0.out.drew
      refine wp_region_held_drew (S := (fun W' => W'.cell? ⟨g, 0, none⟩ = some (.slice A1 cols.length c1) ∧ W'.cell? ⟨g, 1, none⟩ = some (.slice A2 row.length c2) ∧ W'.cell? ⟨g + 1, 0, none⟩ = some (.int .i64 5) ∧ W'.cell? ⟨g + 1, 1, none⟩ = some (.string ⟨hc.toArray⟩) ∧ W'.cell? ⟨g + 1, 2, none⟩ = some (.int .i64 hm) ∧ W'.cell? ⟨g + 1, 3, none⟩ = some (.bool vn) ∧ W'.cell? ⟨g + 1, 4, none⟩ = some (.int .i64 vi) ∧ W'.cell? ⟨g + 1, 5, none⟩ = some (.string ⟨vt.toArray⟩) ∧ W'.cell? ⟨g + 1, 6, none⟩ = some (.int .i64 hkd) ∧ W'.cell? ⟨g + 1, 7, none⟩ = some (.string ⟨hp.toArray⟩) ∧ W'.cell? ⟨g + 1, 8, none⟩ = some (.slice (some a) n c) ∧ W'.cell? a = some (.int .i64 xo) ∧ W'.cell? { block := a.block, off := a.off + 1 } = some (.string ⟨xc.toArray⟩) ∧ W'.cell? { block := a.block, off := a.off + 2 } = some (.int .i64 xm) ∧ W'.cell? { block := a.block, off := a.off + 3 } = some (.bool xn) ∧ W'.cell? { block := a.block, off := a.off + 4 } = some (.int .i64 xi) ∧ W'.cell? { block := a.block, off := a.off + 5 } = some (.string ⟨xt.toArray⟩) ∧ W'.cell? { block := a.block, off := a.off + 6 } = some (.int .i64 xk) ∧ W'.cell? { block := a.block, off := a.off + 7 } = some (.string ⟨xp.toArray⟩) ∧ W'.cell? { block := a.block, off := a.off + 8 } = some (.slice tA tn tc))) (by kernel_rfl) (by exact ⟨r0, r1, b0, b1, b2, b3, b4, b5, b6, b7, b8, k0, k1, k2, k3, k4, k5, k6, k7, k8⟩) (fun hHeld => ?_)
      refine wpAnyH_take (i := 0) (oi := ⟨some 40, _, _, _, _, none⟩) (v := ?v17) rfl (by kernel_rfl) (by kernel_rfl) (by kernel_rfl) (fun _ _ _ h => h) (Or.inl ⟨by rfl, ?hy17⟩) (by assumption) ?rest17
      case hy17 => (intro wS hSw; (try dsimp only at hSw); go_simp; (try with_reducible rfl))
      (try simp only [Act.put, List.setIfInBounds_toArray, List.set_cons_zero, List.set_cons_succ])
      refine wpAnyH_take (i := 1) (oi := ⟨some 41, _, _, _, _, none⟩) (v := ?v18) rfl (by kernel_rfl) (by kernel_rfl) (by kernel_rfl) (fun _ _ _ h => h) (Or.inl ⟨by rfl, ?hy18⟩) (by assumption) ?rest18
      case hy18 => (intro wS hSw; (try dsimp only at hSw); go_simp; (try with_reducible rfl))
      (try simp only [Act.put, List.setIfInBounds_toArray, List.set_cons_zero, List.set_cons_succ])
      refine wpAnyH_take (i := 2) (oi := ⟨some 42, _, _, _, _, none⟩) (v := ?v19) rfl (by kernel_rfl) (by kernel_rfl) (by kernel_rfl) (fun _ _ _ h => h) (Or.inl ⟨by rfl, ?hy19⟩) (by assumption) ?rest19
      case hy19 => (intro wS hSw; (try dsimp only at hSw); go_simp; (try with_reducible rfl))
      (try simp only [Act.put, List.setIfInBounds_toArray, List.set_cons_zero, List.set_cons_succ])
      refine wpAnyH_take (i := 3) (oi := ⟨some 43, _, _, _, _, none⟩) (v := ?v20) rfl (by kernel_rfl) (by kernel_rfl) (by kernel_rfl) (fun _ _ _ h => h) (Or.inl ⟨by rfl, ?hy20⟩) (by assumption) ?rest20
      case hy20 => (intro wS hSw; (try dsimp only at hSw); go_simp; (try with_reducible rfl))
      (try simp only [Act.put, List.setIfInBounds_toArray, List.set_cons_zero, List.set_cons_succ])
      refine wpAnyH_take (i := 4) (oi := ⟨some 44, _, _, _, _, none⟩) (v := ?v21) rfl (by kernel_rfl) (by kernel_rfl) (by kernel_rfl) (fun _ _ _ h => h) (Or.inl ⟨by rfl, ?hy21⟩) (by assumption) ?rest21
      case hy21 => (intro wS hSw; (try dsimp only at hSw); go_simp; (try with_reducible rfl))
      (try simp only [Act.put, List.setIfInBounds_toArray, List.set_cons_zero, List.set_cons_succ])
      refine wpAnyH_ready (rs := [5]) (by kernel_rfl) (by simp) ?_
      refine AllReadyH.cons (o := ⟨some 45, _, _, _, _, none⟩) rfl (fun K hK => ?_) AllReadyH.nil
      go_simp
      go_at_call 66
      refine (HT.out _ Fd.out).mono ?_
      rintro e w4 ⟨rfl, f4⟩
      have RB4 := Lib.hid (RBd.out.fr f4 (fun e => e))
      have PB4 := Lib.hid (PBd.out.fr f4 (fun e => e))
      have F4 := Lib.hid (Fd.out.trans f4)
      clear r0 r1 b0 b1 b2 b3 b4 b5 b6 b7 b8
      have r0 := RB4.out.cell 0
      have r1 := RB4.out.cell 1
      simp at r0 r1
      obtain ⟨b0, b1, b2, b3, b4, b5, b6, b7, b8⟩ := pdB_cells PB4.out
      dsimp only at b0 b1 b2 b3 b4 b5 b6 b7 b8
      replace k0 := (f4.cell (World.block_lt_of_cell? _ _ k0) (fun e => e)).trans k0
      replace k1 := (f4.cell (World.block_lt_of_cell? _ _ k1) (fun e => e)).trans k1
      replace k2 := (f4.cell (World.block_lt_of_cell? _ _ k2) (fun e => e)).trans k2
      replace k3 := (f4.cell (World.block_lt_of_cell? _ _ k3) (fun e => e)).trans k3
      replace k4 := (f4.cell (World.block_lt_of_cell? _ _ k4) (fun e => e)).trans k4
      replace k5 := (f4.cell (World.block_lt_of_cell? _ _ k5) (fun e => e)).trans k5
      replace k6 := (f4.cell (World.block_lt_of_cell? _ _ k6) (fun e => e)).trans k6
      replace k7 := (f4.cell (World.block_lt_of_cell? _ _ k7) (fun e => e)).trans k7
      replace k8 := (f4.cell (World.block_lt_of_cell? _ _ k8) (fun e => e)).trans k8
      clear f4

      go_wp2_with fail
      refine hK.out _ _ (by exact ⟨r0, r1, b0, b1, b2, b3, b4, b5, b6, b7, b8, k0, k1, k2, k3, k4, k5, k6, k7, k8⟩) (fun hHeld => ?_)
      clear hK K
      (try simp only [Act.put, List.setIfInBounds_toArray, List.set_cons_zero, List.set_cons_succ])
      refine wpAnyH_ready (rs := [6]) (by kernel_rfl) (by simp) ?_
      refine AllReadyH.cons (o := ⟨some 46, _, _, _, _, none⟩) rfl (fun K hK => ?_) AllReadyH.nil
      go_simp
      go_at_call 97
      refine (HNo.out _ _).mono ?_
      rintro e w5 ⟨rfl, rfl⟩

      go_wp2_with fail
      refine hK.out _ _ (by exact ⟨r0, r1, b0, b1, b2, b3, b4, b5, b6, b7, b8, k0, k1, k2, k3, k4, k5, k6, k7, k8⟩) (fun hHeld => ?_)
      clear hK K
      (try simp only [Act.put, List.setIfInBounds_toArray, List.set_cons_zero, List.set_cons_succ])
      refine wpAnyH_take (i := 7) (oi := ⟨some 4, _, _, _, _, none⟩) (v := ?v22) rfl (by kernel_rfl) (by kernel_rfl) (by kernel_rfl) (fun _ _ _ h => h) (Or.inl ⟨by rfl, ?hy22⟩) (by assumption) ?rest22
      case hy22 => (intro wS hSw; (try dsimp only at hSw); go_simp; (try with_reducible rfl))
      (try simp only [Act.put, List.setIfInBounds_toArray, List.set_cons_zero, List.set_cons_succ])
      refine wpAnyH_done (by kernel_rfl) ?_ _
      go_wp2
      go_ret
      exact ⟨ret_int HE.out.symm, F4.out⟩
    · rcases ho with ho | ho
      · have HE : Hid (r = chnI 0 1 (ks.map (truP cols row))) := Lib.hid (by rw [HE0.out, truH_6 ho])
        have HCh : Hid (∀ W, Fr Non w W → Calls Tryz.prog 98 #[recV (.slice A1 cols.length c1) (.slice A2 row.length c2), kidV t, .int .i64 0, .int .i64 1] W fun e w' => e = .returned (.int .i64 (chnI 0 1 (ks.map (truP cols row)))) ∧ Fr Non W w') :=
          Lib.hid (fun W hf => echain_of _ _ cols row ks 0 1 t W (HV.out.non hf) (HC.out.non hf) (HK.out.non hf) hl IH)
        clear HE0 IH HV HC HK hok hty hpl hr h0 hl
        generalize chnI 0 1 (ks.map (truP cols row)) = z at *
        obtain ⟨ho_, hc, hm, ⟨vn, vi, vt⟩, hkd, hp⟩ := hd
        obtain ⟨A, n, c⟩ := t
        dsimp only at ho hn
        clear hn
        subst ho
        unfold recW at F0 RB PB
        unfold recV pdV at *
        unfold pdC kidV at *
        dsimp only at *
        generalize hg : w.heap.size = g at *
        have r0 := RB.out.cell 0
        have r1 := RB.out.cell 1
        simp at r0 r1
        obtain ⟨b0, b1, b2, b3, b4, b5, b6, b7, b8⟩ := pdB_cells PB.out
        dsimp only at b0 b1 b2 b3 b4 b5 b6 b7 b8
        go_enter Tryz.func66, Tryz.ntmps66
        go_wp2_with fail
        refine (HCh.out _ F0.out).mono ?_
        rintro e w4 ⟨rfl, f4⟩
        have F4 := Lib.hid (F0.out.trans f4)
        clear r0 r1 b0 b1 b2 b3 b4 b5 b6 b7 b8 f4
        go_wp2
        go_ret
        exact ⟨ret_int HE.out.symm, F4.out⟩
      · have HE : Hid (r = chnI 1 0 (ks.map (truP cols row))) := Lib.hid (by rw [HE0.out, truH_7 ho])
        have HCh : Hid (∀ W, Fr Non w W → Calls Tryz.prog 98 #[recV (.slice A1 cols.length c1) (.slice A2 row.length c2), kidV t, .int .i64 1, .int .i64 0] W fun e w' => e = .returned (.int .i64 (chnI 1 0 (ks.map (truP cols row)))) ∧ Fr Non W w') :=
          Lib.hid (fun W hf => echain_of _ _ cols row ks 1 0 t W (HV.out.non hf) (HC.out.non hf) (HK.out.non hf) hl IH)
        clear HE0 IH HV HC HK hok hty hpl hr h0 hl
        generalize chnI 1 0 (ks.map (truP cols row)) = z at *
        obtain ⟨ho_, hc, hm, ⟨vn, vi, vt⟩, hkd, hp⟩ := hd
        obtain ⟨A, n, c⟩ := t
        dsimp only at ho hn
        clear hn
        subst ho
        unfold recW at F0 RB PB
        unfold recV pdV at *
        unfold pdC kidV at *
        dsimp only at *
        generalize hg : w.heap.size = g at *
        have r0 := RB.out.cell 0
        have r1 := RB.out.cell 1
        simp at r0 r1
        obtain ⟨b0, b1, b2, b3, b4, b5, b6, b7, b8⟩ := pdB_cells PB.out
        dsimp only at b0 b1 b2 b3 b4 b5 b6 b7 b8
        go_enter Tryz.func66, Tryz.ntmps66
        go_wp2_with fail
        refine (HCh.out _ F0.out).mono ?_
        rintro e w4 ⟨rfl, f4⟩
        have F4 := Lib.hid (F0.out.trans f4)
        clear r0 r1 b0 b1 b2 b3 b4 b5 b6 b7 b8 f4
        go_wp2
        go_ret
        exact ⟨ret_int HE.out.symm, F4.out⟩
end Go.Proofs.YtjcfjjhhbcgcmaaGreat


namespace Go.Proofs.YtjcfjjhhbcgcmaaGreat
set_option linter.unusedVariables false
set_option linter.unusedSimpArgs false
set_option maxRecDepth 100000
open Go.RowKit

/-- two numbers handed back -/
def twoV (r : Int × Int) : Value := .tuple #[.int .i64 r.1, .int .i64 r.2]
theorem ret_twoV {r : Int × Int} {a b : Int} (h : r = (a, b)) : Ending.returned (.tuple #[.int .i64 a, .int .i64 b]) = Ending.returned (twoV r) := by rw [h]; rfl
def askE (cols : List Co) (p : Pd) (row : List Cl) : Int × Int := if rowB cols row = true then (truP cols row p, 0) else (0, 10)
theorem askE_yes {cols : List Co} {p : Pd} {row : List Cl} (h : rowB cols row = true) : askE cols p row = (truP cols row p, 0) := by unfold askE; rw [if_pos h]
theorem askE_no {cols : List Co} {p : Pd} {row : List Cl} (h : rowB cols row = false) : askE cols p row = (0, 10) := by unfold askE; rw [if_neg (by rw [h]; simp)]
set_option maxHeartbeats 2000000 in
theorem eask_any (v1 v2 : Value) (cols : List Co) (row : List Cl) (hcl : cols.length ≤ 1000) (h : Ph) (ks : List Pd) (t : Kv) (w : World) (h1 : Ks w v1 cols) (h2 : Cs w v2 row) (hk : Kd w t ks) (hbig : bigP (.mk h ks) = true) (hf : fitP cols (.mk h ks) = 0) :
    Calls Tryz.prog 40 #[v1, pdV h t, v2] w fun e w' => e = .returned (twoV (askE cols (.mk h ks) row)) ∧ Fr Non w w' := by
  obtain ⟨_, hone, htyp⟩ := fit_zero hf
  have F0 : Fr Non w (w.alloc (.cells (pdC h t) 28)) := (Fr.refl Non w).alloc _
  have PB := Lib.hid (pd_new w _ h t rfl)
  have HR := Lib.hid (fun W (hf2 : Fr Non w W) => srow_any v1 v2 cols row W (h1.non hf2) (h2.non hf2) (by omega))
  have HT : Hid (rowB cols row = true → ∀ W, Fr Non w W → Calls Tryz.prog 66 #[recV v1 v2, pdV h t] W fun e w' => e = .returned (.int .i64 (truP cols row (.mk h ks))) ∧ Fr Non W w') :=
    Lib.hid (fun hr W hf2 => etruth_any v1 v2 cols row hcl hr (.mk h ks) t W (h1.non hf2) (h2.non hf2) (hk.non hf2) hbig hone htyp)
  have HY := Lib.hid (fun e => askE_yes (cols := cols) (p := .mk h ks) (row := row) e)
  have HX := Lib.hid (fun e => askE_no (cols := cols) (p := .mk h ks) (row := row) e)
  obtain ⟨A1, c1, rfl⟩ := h1.shape
  obtain ⟨A2, c2, rfl⟩ := h2.shape
  generalize truP cols row (.mk h ks) = z at *
  generalize askE cols (.mk h ks) row = r at *
  clear hone htyp hk hbig hf h1 h2
  replace F0 := Lib.hid F0
  obtain ⟨ho, hc, hm, ⟨vn, vi, vt⟩, hkd, hp⟩ := h
  obtain ⟨A, n, c⟩ := t
  unfold recV pdV at *
  unfold pdC kidV at *
  dsimp only at *
  cases hb : rowB cols row
  · have HE := Lib.hid (HX.out hb)
    simp only [hb] at HR
    clear HX HY HT hb
    go_enter Tryz.func40, Tryz.ntmps40
    go_wp2_with fail
    refine (HR.out _ F0.out).mono ?_
    rintro e w1 ⟨rfl, f1⟩
    go_wp2
    go_ret2
    exact ⟨ret_twoV HE.out, F0.out.trans f1⟩
  · have HE := Lib.hid (HY.out hb)
    replace HT := Lib.hid (HT.out hb)
    simp only [hb] at HR
    clear HX HY hb
    go_enter Tryz.func40, Tryz.ntmps40
    go_wp2_with fail
    refine (HR.out _ F0.out).mono ?_
    rintro e w1 ⟨rfl, f1⟩
    obtain ⟨b0, b1, b2, b3, b4, b5, b6, b7, b8⟩ := pdB_cells (PB.out.fr f1 (fun e => e))
    dsimp only at b0 b1 b2 b3 b4 b5 b6 b7 b8
    have F1 := Lib.hid (F0.out.trans f1)
    clear f1
    go_wp2_with fail
    refine (HT.out _ F1.out).mono ?_
    rintro e w2 ⟨rfl, f2⟩
    go_wp2
    go_ret2
    exact ⟨ret_twoV HE.out, F1.out.trans f2⟩

/-- places and an error handed back -/
def PlcR (w : World) (r : List Int × Int) (e : Ending) : Prop := ∃ u, e = .returned (.tuple #[u, .int .i64 r.2]) ∧ Vs iv w u r.1
theorem plcR_no {w : World} {r : List Int × Int} {z : Int} (h : r = ([], z)) : PlcR w r (.returned (.tuple #[.slice none 0 0, .int .i64 z])) := ⟨_, by rw [h], by rw [h]; exact Vs.nil_ w⟩
theorem plcR_yes {w : World} {r : List Int × Int} {l : List Int} {u : Value} (h : r = (l, 0)) (hu : Vs iv w u l) : PlcR w r (.returned (.tuple #[u, .int .i64 0])) := ⟨u, by rw [h], by rw [h]; exact hu⟩

set_option maxHeartbeats 4000000 in
theorem erows_any (v1 v2 : Value) (cols : List Co) (rows : List (List Cl)) (hcl : cols.length ≤ 1000) (hcb : ∀ c ∈ cols, c.name.length ≤ 1000) (h : Ph) (ks : List Pd) (t : Kv) (w : World) (h1 : Ks w v1 cols) (h2 : Rs w v2 rows) (hk : Kd w t ks) (hb : I64b h.val.num) (hbig : bigP (.mk h ks) = true) (hdep : depP (.mk h ks) ≤ 100) (hrl : rows.length ≤ 100000) :
    Calls Tryz.prog 22 #[v1, pdV h t, v2] w fun e w' => PlcR w' (rowsE cols (.mk h ks) rows) e ∧ Fr Non w w' := by
  have F0 : Fr Non w (w.alloc (.cells (pdC h t) 28)) := (Fr.refl Non w).alloc _
  have PB := Lib.hid (pd_new w _ h t rfl)
  have HF := Lib.hid (fun W (hf2 : Fr Non w W) => pfits_big cols hcl hcb v1 h t ks W (h1.non hf2) (hk.non hf2) hb hbig hdep)
  have HA : Hid (fitP cols (.mk h ks) = 0 → ∀ row v W, Fr Non w W → Cs W v row → Calls Tryz.prog 40 #[v1, pdV h t, v] W fun e w' => e = .returned (twoV (askE cols (.mk h ks) row)) ∧ Fr Non W w') :=
    Lib.hid (fun hf row v W hf2 hv => eask_any v1 v cols row hcl h ks t W (h1.non hf2) hv (hk.non hf2) hbig hf)
  have HX := Lib.hid (fun e => rowsE_bad (cols := cols) (p := .mk h ks) (rows := rows) e)
  have HX2 := Lib.hid (fun a (k : Nat) b c => rowsE_type (cols := cols) (p := .mk h ks) (rows := rows) (k := k) a b c)
  have HX3 := Lib.hid (fun a (k : Nat) b c => rowsE_ok (cols := cols) (p := .mk h ks) (rows := rows) (k := k) a b c)
  have HR : Hid (Rs w v2 rows) := Lib.hid h2
  obtain ⟨A1, c1, rfl⟩ := h1.shape
  obtain ⟨A2, c2, rfl⟩ := h2.shape
  generalize rowsE cols (.mk h ks) rows = r at *
  have HP1 := Lib.hid (fun (k : Nat) a b => plc_yes (cols := cols) (p := .mk h ks) (rows := rows) (n := k) a b)
  have HP2 := Lib.hid (fun (k : Nat) a b => plc_no (cols := cols) (p := .mk h ks) (rows := rows) (n := k) a b)
  have HP3 := Lib.hid (fun (k : Nat) => plcI_len cols (.mk h ks) rows k)
  have HP0 : Hid (plcI cols (.mk h ks) rows 0 = []) := Lib.hid rfl
  have HAY := Lib.hid (fun row a => askE_yes (cols := cols) (p := .mk h ks) (row := row) a)
  have HAN := Lib.hid (fun row a => askE_no (cols := cols) (p := .mk h ks) (row := row) a)
  generalize fitP cols (.mk h ks) = z at *
  generalize Pd.mk h ks = p at *
  clear hk hbig hdep hb h1 h2
  replace F0 := Lib.hid F0
  obtain ⟨ho, hc, hm, ⟨vn, vi, vt⟩, hkd, hp⟩ := h
  obtain ⟨A, n, c⟩ := t
  unfold pdV at *
  unfold pdC kidV at *
  dsimp only at *
  by_cases hz : z = 0
  · subst hz
    replace HA := Lib.hid (HA.out rfl)
    replace HX2 := Lib.hid (HX2.out rfl)
    replace HX3 := Lib.hid (HX3.out rfl)
    clear HX
    go_enter Tryz.func22, Tryz.ntmps22
    go_wp2_with fail
    refine (HF.out _ F0.out).mono ?_
    rintro e w1 ⟨rfl, f1⟩
    have PB1 := Lib.hid (PB.out.fr f1 (fun e => e))
    have F1 := Lib.hid (F0.out.trans f1)
    clear f1 HF
    go_wp2
    go_loopw [9, 22] (fun u i wr => ∃ k : Nat, k ≤ rows.length ∧ i = .int .i64 k ∧ Hid (Ow iv 3 wr w1.heap.size u (plcI cols p rows k)) ∧ Hid (∀ j (h : j < rows.length), j < k → rowB cols rows[j] = true) ∧ Hid (Fr Non w1 wr)) (fun _ i _ => rows.length - (intOf i).toNat)
    case atStart => exact ⟨0, Nat.zero_le _, rfl, Lib.hid (by rw [HP0.out]; exact ow_nil _ _), Lib.hid (fun _ _ h => by omega), Lib.hid (Fr.refl _ _)⟩
    case round =>
      rename_i u i wr
      obtain ⟨k, hk, rfl, HO, HT, FR⟩ := hrel
      have HFw := Lib.hid (F1.out.trans FR.out)
      obtain ⟨uA, uc, rfl⟩ := HO.out.shape
      by_cases hlt : k < rows.length
      · obtain ⟨a, A', c', rfl, -, q1, hc1⟩ := (HR.out.non HFw.out).el k hlt
        obtain ⟨b0, b1, b2, b3, b4, b5, b6, b7, b8⟩ := pdB_cells (PB1.out.fr FR.out (fun e => e))
        dsimp only at b0 b1 b2 b3 b4 b5 b6 b7 b8
        have HAk := Lib.hid (HA.out _ _ wr HFw.out hc1)
        have HXk := Lib.hid (HX2.out k hlt)
        have HYk := Lib.hid (fun e => rows_more (cols := cols) HT.out hlt e)
        have HPy := Lib.hid (HP1.out k hlt)
        have HPn := Lib.hid (HP2.out k hlt)
        have HAy := Lib.hid (HAY.out rows[k])
        have HAn := Lib.hid (HAN.out rows[k])
        have hpl := HP3.out k
        clear hc1 HT HX3 HX2 HA HP1 HP2 HAY HAN HP0 HP3
        generalize hrk : rows[k] = row at *
        generalize truP cols row p = y at *
        generalize askE cols p row = s at *
        cases hbb : rowB cols row
        · have HE := Lib.hid (HXk.out hbb)
          have hs := HAn.out hbb
          subst hs
          unfold twoV at HAk
          dsimp only at HAk
          clear HXk HYk HAy HAn hbb HPy HPn hpl hrk
          go_wp2_with fail
          refine HAk.out.mono ?_
          rintro e w2 ⟨rfl, f2⟩
          go_wp2
          go_ret2
          exact ⟨plcR_no HE.out, HFw.out.trans f2⟩
        · have HE := Lib.hid (HYk.out hbb)
          have hs := HAy.out hbb
          subst hs
          unfold twoV at HAk
          dsimp only at HAk
          have hB := FR.out.size
          clear HXk HYk HAy HAn hbb hrk
          by_cases hy : y = 1
          · subst hy
            have HPk := Lib.hid (HPy.out rfl)
            clear HPy HPn
            go_wp2_with fail
            refine HAk.out.mono ?_
            rintro e w2 ⟨rfl, f2⟩
            have F2 := Lib.hid (FR.out.trans f2)
            have hO2 := HO.out.non f2
            have hB2 : w1.heap.size ≤ w2.heap.size := Nat.le_trans hB f2.size
            clear f2 HAk
            generalize plcI cols p rows k = L at *
            go_wp2_with (at_builtin; refine wpList_pushG el_int iv_oneC rfl (.tmp 39) (.tmp 41) rfl w1.heap.size _ L rfl hO2 _ (k : Int) rfl rfl (by omega) hB2 ?_; intro v3 w3 hown3 hfr3)
            go_roundw
            case rel => exact ⟨k + 1, by omega, by go_num, Lib.hid (by rw [HPk.out]; exact hown3), HE, Lib.hid (F2.out.fresh hfr3 fun q hq => (hO2.lt q hq).1)⟩
            case measure => simp [intOf]; omega
          · have HPk := Lib.hid (HPn.out hy)
            have hb1 : (y == 1) = false := by rw [beq_eq_false_iff_ne]; exact hy
            clear HPy HPn hy
            go_wp2_with fail
            refine HAk.out.mono ?_
            rintro e w2 ⟨rfl, f2⟩
            go_wp2
            go_roundw
            case rel => exact ⟨k + 1, by omega, by go_num, Lib.hid (by rw [HPk.out]; exact HO.out.non f2), HE, Lib.hid (FR.out.trans f2)⟩
            case measure => simp [intOf]; omega
      · have HE := Lib.hid (HX3.out k (by omega) HT.out)
        have hkl : k = rows.length := by omega
        subst hkl
        clear HT
        go_wp2
        go_ret2
        exact ⟨plcR_yes HE.out HO.out.vs, HFw.out⟩
  · have HE := Lib.hid (HX.out hz)
    have hb : (z != 0) = true := by rw [bne_iff_ne]; exact hz
    clear HX HA hz HX2 HX3
    go_enter Tryz.func22, Tryz.ntmps22
    go_wp2_with fail
    refine (HF.out _ F0.out).mono ?_
    rintro e w1 ⟨rfl, f1⟩
    go_wp2
    go_ret2
    exact ⟨plcR_no HE.out, F0.out.trans f1⟩
end Go.Proofs.YtjcfjjhhbcgcmaaGreat


namespace Go.Proofs.YtjcfjjhhbcgcmaaGreat
set_option linter.unusedVariables false
set_option linter.unusedSimpArgs false
set_option maxRecDepth 100000

/-- truths as a number, the first one the lowest -/
def byteOf : List Bool → Nat
  | [] => 0
  | b :: l => b.toNat + 2 * byteOf l
def need (n : Nat) : Nat := (n + 7) / 8
/-- the number of the byte at j, of the first p truths -/
def pkn (l : List Bool) (p j : Nat) : Nat := byteOf (((l.take p).drop (8 * j)).take 8)
/-- the bytes of l, of whose truths the first p are laid -/
def pk (l : List Bool) (p : Nat) : List UInt8 := (List.range (need l.length)).map fun j => (pkn l p j).toUInt8
/-! ### Bits of bytes -/
/-! ### How many, where, and both together -/
def cnt (l : List Bool) : Nat := (l.filter id).length
end Go.Proofs.YtjcfjjhhbcgcmaaGreat


namespace Go.Proofs.YtjcfjjhhbcgcmaaGreat
set_option linter.unusedVariables false
set_option linter.unusedSimpArgs false
set_option maxRecDepth 100000
open Go.RowKit

/-- a state of the program -/
structure Fs where
  cnt : Int
  has : Int
  sum : Int
  some : Bool
  low : Cl
  high : Cl
  deriving DecidableEq
def fsC (s : Fs) : Array Value := #[.int .i64 s.cnt, .int .i64 s.has, .int .i64 s.sum, .bool s.some, .bool s.low.null, .int .i64 s.low.num, .string ⟨s.low.txt.toArray⟩, .bool s.high.null, .int .i64 s.high.num, .string ⟨s.high.txt.toArray⟩]
def fsV (s : Fs) : Value := .agg (fsC s)
def noFs : Fs := ⟨0, 0, 0, false, noCl, noCl⟩
/-- the state s lies in block g -/
abbrev FsB (w : World) (g : Nat) (s : Fs) : Prop := Blk w g 122 (fsC s)
def FsCells (w : World) (g : Nat) (s : Fs) : Prop :=
  w.cell? ⟨g, 0, none⟩ = some (.int .i64 s.cnt) ∧ w.cell? ⟨g, 1, none⟩ = some (.int .i64 s.has) ∧ w.cell? ⟨g, 2, none⟩ = some (.int .i64 s.sum) ∧ w.cell? ⟨g, 3, none⟩ = some (.bool s.some) ∧
  w.cell? ⟨g, 4, none⟩ = some (.bool s.low.null) ∧ w.cell? ⟨g, 5, none⟩ = some (.int .i64 s.low.num) ∧ w.cell? ⟨g, 6, none⟩ = some (.string ⟨s.low.txt.toArray⟩) ∧
  w.cell? ⟨g, 7, none⟩ = some (.bool s.high.null) ∧ w.cell? ⟨g, 8, none⟩ = some (.int .i64 s.high.num) ∧ w.cell? ⟨g, 9, none⟩ = some (.string ⟨s.high.txt.toArray⟩)
def FsFroz (w : World) (g : Nat) : Prop :=
  w.frozen? ⟨g, 0, none⟩ = false ∧ w.frozen? ⟨g, 1, none⟩ = false ∧ w.frozen? ⟨g, 2, none⟩ = false ∧ w.frozen? ⟨g, 3, none⟩ = false ∧ w.frozen? ⟨g, 4, none⟩ = false ∧
  w.frozen? ⟨g, 5, none⟩ = false ∧ w.frozen? ⟨g, 6, none⟩ = false ∧ w.frozen? ⟨g, 7, none⟩ = false ∧ w.frozen? ⟨g, 8, none⟩ = false ∧ w.frozen? ⟨g, 9, none⟩ = false
theorem fsB_cells {w : World} {g : Nat} {s : Fs} (h : FsB w g s) : FsCells w g s :=
  ⟨h.cell 0, h.cell 1, h.cell 2, h.cell 3, h.cell 4, h.cell 5, h.cell 6, h.cell 7, h.cell 8, h.cell 9⟩
theorem fsB_froz {w : World} {g : Nat} {s : Fs} (h : FsB w g s) : FsFroz w g :=
  ⟨h.frozen 0, h.frozen 1, h.frozen 2, h.frozen 3, h.frozen 4, h.frozen 5, h.frozen 6, h.frozen 7, h.frozen 8, h.frozen 9⟩
/-- its numbers stored -/
def setFsN (w : World) (g : Nat) (c h m : Int) (b : Bool) : World := (((w.setCell ⟨g, 0, none⟩ (.int .i64 c)).setCell ⟨g, 1, none⟩ (.int .i64 h)).setCell ⟨g, 2, none⟩ (.int .i64 m)).setCell ⟨g, 3, none⟩ (.bool b)
theorem setFsN_B {w : World} {g : Nat} {s : Fs} (x : FsB w g s) (c h m : Int) (b : Bool) : FsB (setFsN w g c h m b) g ⟨c, h, m, b, s.low, s.high⟩ := (((Blk.set x 0 _).set 1 _).set 2 _).set 3 _
theorem setFsN_fr (w : World) (g : Nat) (c h m : Int) (b : Bool) : Fr (One g) w (setFsN w g c h m b) := ((((Fr.refl (One g) w).set1 0 _).set1 1 _).set1 2 _).set1 3 _
/-- its bounds stored -/
def setFsL (w : World) (g : Nat) (n : Bool) (i : Int) (t : List UInt8) : World := ((w.setCell ⟨g, 4, none⟩ (.bool n)).setCell ⟨g, 5, none⟩ (.int .i64 i)).setCell ⟨g, 6, none⟩ (.string ⟨t.toArray⟩)
def setFsH (w : World) (g : Nat) (n : Bool) (i : Int) (t : List UInt8) : World := ((w.setCell ⟨g, 7, none⟩ (.bool n)).setCell ⟨g, 8, none⟩ (.int .i64 i)).setCell ⟨g, 9, none⟩ (.string ⟨t.toArray⟩)
theorem setFsL_B {w : World} {g : Nat} {s : Fs} (h : FsB w g s) (c : Cl) : FsB (setFsL w g c.null c.num c.txt) g ⟨s.cnt, s.has, s.sum, s.some, c, s.high⟩ := ((Blk.set h 4 _).set 5 _).set 6 _
theorem setFsH_B {w : World} {g : Nat} {s : Fs} (h : FsB w g s) (c : Cl) : FsB (setFsH w g c.null c.num c.txt) g ⟨s.cnt, s.has, s.sum, s.some, s.low, c⟩ := ((Blk.set h 7 _).set 8 _).set 9 _
theorem setFsL_fr (w : World) (g : Nat) (n : Bool) (i : Int) (t : List UInt8) : Fr (One g) w (setFsL w g n i t) := (((Fr.refl (One g) w).set1 4 _).set1 5 _).set1 6 _
theorem setFsH_fr (w : World) (g : Nat) (n : Bool) (i : Int) (t : List UInt8) : Fr (One g) w (setFsH w g n i t) := (((Fr.refl (One g) w).set1 7 _).set1 8 _).set1 9 _
/-- a state stored whole, as a walk spells it -/
def setFs (w : World) (g : Nat) (s : Fs) : World := setFsH (setFsL (setFsN w g s.cnt s.has s.sum s.some) g s.low.null s.low.num s.low.txt) g s.high.null s.high.num s.high.txt
theorem setFs_B {w : World} {g : Nat} {y : Fs} (h : FsB w g y) (s : Fs) : FsB (setFs w g s) g s := setFsH_B (setFsL_B (setFsN_B h s.cnt s.has s.sum s.some) s.low) s.high
theorem setFs_fr (w : World) (g : Nat) (s : Fs) : Fr (One g) w (setFs w g s) := ((setFsN_fr _ _ _ _ _ _).trans (setFsL_fr _ _ _ _ _)).trans (setFsH_fr _ _ _ _ _)
/-- a cell of another block, where one was written to -/
theorem Fr.atO {w w' : World} {g k o : Nat} (h : Fr (One g) w w') (hk : k ≠ g) {u : Value} (e : w.cell? ⟨k, o, none⟩ = some u) : w'.cell? ⟨k, o, none⟩ = some u :=
  (h.cell (World.block_lt_of_cell? _ _ e) hk).trans e
/-- a call's end where its one result is a state in a block -/
theorem ret_fs {fn : Func} {p : Tmp} (h : fn.results = #[.cell p 122]) (tmps : Array Value) (w : World) (g : Nat) (s : Fs)
    (hp : tmps.getD p undef = .pointer (some ⟨g, 0, none⟩)) (hg : FsB w g s) : (results fn tmps).run Tryz.prog w = .ok (fsV s) w :=
  results_cell_row h tmps w g 122 _ (0, 0) _ hp hg Tryz.underlying122 rfl (by kernel_rfl)
theorem fs_new (w : World) (s : Fs) (g : Nat) (hg : w.heap.size = g) : FsB (w.alloc (.cells (fsC s) 122)) g s := by subst hg; exact Blk.new _ _ _
theorem cl_newG (w : World) (c : Cl) (g : Nat) (hg : w.heap.size = g) : ClB (w.alloc (.cells #[.bool c.null, .int .i64 c.num, .string ⟨c.txt.toArray⟩] 25)) g c := by subst hg; exact cl_new _ _

/-! ### What the program joins -/
def lesF (a b : Cl) : Cl := if 0 < ordC a b then b else a
def grtF (a b : Cl) : Cl := if ordC a b < 0 then b else a
def joinS (a b : Fs) : Fs :=
  ⟨w6 (a.cnt + b.cnt), w6 (a.has + b.has), w6 (a.sum + b.sum), a.some || b.some,
    if a.some = false then b.low else if b.some = false then a.low else lesF a.low b.low,
    if a.some = false then b.high else if b.some = false then a.high else grtF a.high b.high⟩
def oneS (c : Cl) : Fs := if c.null then ⟨1, 0, 0, false, noCl, noCl⟩ else ⟨1, 1, c.num, true, c, c⟩
def sumS (s : Fs) (c : Cl) : Cl := if s.some then c else nulCl
def valS (op : Int) (s : Fs) : Cl :=
  if op = 1 then ⟨false, s.cnt, []⟩ else if op = 2 then ⟨false, s.has, []⟩ else if op = 3 then sumS s ⟨false, s.sum, []⟩ else if op = 4 then sumS s s.low else if op = 5 then sumS s s.high else noCl
/-- the state of what is known of cells -/
def fsF (s : Fo) : Fs := ⟨s.cnt, s.has, s.sum, !decide (s.has = 0), s.low, s.high⟩
theorem valS_F (op : Int) (s : Fo) : valS op (fsF s) = valF op s := by
  unfold valS valF fsF sumS
  dsimp only
  by_cases h1 : op = 1
  · rw [if_pos h1, if_pos h1]
  rw [if_neg h1, if_neg h1]
  by_cases h2 : op = 2
  · rw [if_pos h2, if_pos h2]
  rw [if_neg h2, if_neg h2]
  by_cases h3 : op < 1 ∨ 5 < op
  · rw [if_pos h3, if_neg (by omega), if_neg (by omega), if_neg (by omega)]
  rw [if_neg h3]
  by_cases h : s.has = 0
  · simp only [h, decide_true, Bool.not_true, if_true, Bool.false_eq_true, if_false]
    by_cases h4 : op = 3
    · rw [if_pos h4]
    rw [if_neg h4]
    by_cases h5 : op = 4
    · rw [if_pos h5]
    rw [if_neg h5, if_pos (by omega)]
  · simp only [h, decide_false, Bool.not_false, if_true, if_false]
    by_cases h4 : op = 3
    · rw [if_pos h4, if_pos h4]
    rw [if_neg h4, if_neg h4]
    by_cases h5 : op = 4
    · rw [if_pos h5, if_pos h5]
    rw [if_neg h5, if_neg h5, if_pos (by omega)]
theorem w6_small {n : Int} (h : 0 ≤ n) (h' : n ≤ 1000000000000) : w6 n = n := by unfold w6; omega
theorem live_lenG (l : List Cl) : (liveC l).length ≤ l.length := List.length_filter_le _ _
theorem foOf_none {l : List Cl} {s : Fo} (h : FoOf l s) (h0 : s.has = 0) : s.low = noCl ∧ s.high = noCl ∧ s.sum = 0 := by
  have e := (has_zero h).1 h0
  have hb := h.bnds
  rw [e] at hb
  rcases hb with ⟨-, h1, h2⟩ | ⟨h1, -, -⟩
  · exact ⟨h1, h2, by rw [h.sum, e]; rfl⟩
  · cases h1
theorem lesF_is (a b : Cl) : lesF a b = if ordC b a < 0 then b else a := by
  have n := ordC_neg a b
  unfold lesF
  by_cases h : 0 < ordC a b
  · rw [if_pos h, if_pos (by omega)]
  · rw [if_neg h, if_neg (by omega)]
theorem grtF_is (a b : Cl) : grtF a b = if 0 < ordC b a then b else a := by
  have n := ordC_neg a b
  unfold grtF
  by_cases h : ordC a b < 0
  · rw [if_pos h, if_pos (by omega)]
  · rw [if_neg h, if_neg (by omega)]
/-- one cell -/
theorem oneS_F {l : List Cl} {s : Fo} (h : FoOf l s) (c : Cl) (hl : l.length ≤ 1000000) : joinS (fsF s) (oneS c) = fsF (addF s c) := by
  have c1 := h.cnt
  have d1 := h.has
  have e1 := live_lenG l
  have t1 : w6 (s.cnt + 1) = s.cnt + 1 := w6_small (by omega) (by omega)
  have t2 : w6 (s.has + 1) = s.has + 1 := w6_small (by omega) (by omega)
  have t3 : w6 (s.has + 0) = s.has := by rw [Int.add_zero]; exact w6_small (by omega) (by omega)
  have t4 : w6 (s.sum + 0) = s.sum := by rw [Int.add_zero, h.sum]; unfold w6; omega
  have t5 : decide (s.has + 1 = 0) = false := by simp; omega
  unfold joinS oneS addF fsF
  cases hn : c.null
  · simp only [Bool.false_eq_true, if_false]
    rw [t1, t2, t5, lesF_is, grtF_is]
    by_cases x : s.has = 0 <;> simp [x]
  · simp only [if_true]
    rw [t1, t3, t4]
    by_cases x : s.has = 0
    · obtain ⟨q1, q2, -⟩ := foOf_none h x
      simp [x, q1, q2]
    · simp [x]
theorem fsF_snoc (l : List Cl) (c : Cl) (hl : l.length ≤ 1000000) : joinS (fsF (foC l)) (oneS c) = fsF (foC (l ++ [c])) := by
  rw [foC_app]; exact oneS_F (foC_is l) c hl
end Go.Proofs.YtjcfjjhhbcgcmaaGreat
