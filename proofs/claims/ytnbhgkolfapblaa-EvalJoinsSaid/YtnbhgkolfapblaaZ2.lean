/-
  Joined: Layer 15: the walks of glob.matches, glob.Match. · Layer 20: truths told, turned, compared; orders of two values; both programs' small functions. · Layer 12: where a column is; which columns are the same; both programs'. · Slices of cells: what one reads as (Cs), a row of the call's own (Oc), and the steps over them. · Layer 12: which rows there may be, both programs'. · Layer 17: a predicate as a value; slices of them, read as trees; two compared but for what is within them, both programs'. · Layer 12: letters, digits, words. · Layer 12: which texts may be names, both programs'. · Layer 17: which predicates may be but for what is within them, the program's. · Layer 17: which predicates may be, if those within them may, the program's. · Layer 17: what is asked of a predicate and of all within it: the function that calls itself, over any closure; the first of the three closures; May. · Layer 17: May, the program's. · A map of texts to whole numbers of the call's own: which texts it has, and how many; made, written, counted. · Layer 12: which columns a table may have, the program's. · Layer 17: Fits, the program's.
-/
import Derived.Lib.Zigzag
import Derived.Laws.Rows
import Derived.Laws.ResultCell
import Derived.BigRegion
import Derived.Test.YtnbhgkolfapblaaZ1
import Derived.BigQuiet
import Derived.Deep.RegionHeld3
import Derived.Laws.RangeAny
import Derived.Maps.OwnSet
import Derived.Maps.OwnOps
import Derived.Deep.QuietTactic

namespace Go.Proofs.Ytnbhgkolfapblaa
set_option linter.unusedVariables false
set_option linter.unusedSimpArgs false
set_option maxRecDepth 100000
open Go.RowKit

/-- the measure of the way: what is left to take, and of the pattern -/
def msG (P T a k : Nat) : Nat := (T - k) * (P + 1) + (P - a)
theorem msG_at {P T a k : Nat} (ha : a < P) : msG P T (a + 1) k < msG P T a k := by unfold msG; omega
theorem msG_more {P T a k p : Nat} (ha : a < P) (hk : k ≤ p) : msG P T (a + 1) p < msG P T a k := by
  unfold msG
  have := Nat.mul_le_mul_right (P + 1) (show T - p ≤ T - k by omega)
  omega
theorem msG_back {P T a b k : Nat} (hk : k < T) : msG P T b (k + 1) < msG P T a k := by
  unfold msG
  have e : T - k = (T - (k + 1)) + 1 := by omega
  rw [e, Nat.succ_mul]
  omega
theorem stG_k {P T : List Nat} {a p k : Nat} {back : Int} (h : stG P T a p back k) : k ≤ p ∧ (back < 0 ∨ ∃ b : Nat, back = b ∧ b ≤ a) := by
  rcases h with ⟨h0, h1, _⟩ | ⟨b, h0, h1, h2, _⟩
  · exact ⟨by omega, .inl (by omega)⟩
  · exact ⟨h2, .inr ⟨b, h0, h1⟩⟩

set_option maxHeartbeats 2000000 in
theorem matches_any (v u : Value) (P T : List Nat) (w : World) (hv : Vs ruv w v P) (hu : Vs ruv w u T) (hl : P.length ≤ 1000000000) (hlt : T.length ≤ 1000000000) :
    Calls Try.prog 79 #[v, u] w fun e w' => e = .returned (.bool (mtG P T)) ∧ Fr Non w w' := by
  have HV := Lib.hid hv
  have HU := Lib.hid hu
  obtain ⟨A, c, rfl, hlc, hn, hcell⟩ := hv
  obtain ⟨A2, c2, rfl, hlc2, hn2, hcell2⟩ := hu
  have HC := Lib.hid hcell
  have HC2 := Lib.hid hcell2
  have HN := Lib.hid hn
  have HN2 := Lib.hid hn2
  clear hcell hn hcell2 hn2
  go_enter Try.func79, Try.ntmps79
  go_wp2
  go_loopw [5, 6, 7, 8] (fun ia ip ib ik wr => ∃ (a p k : Nat) (back : Int), a ≤ P.length ∧ p ≤ T.length ∧ ia = .int .i64 a ∧ ip = .int .i64 p ∧ ib = .int .i64 back ∧ ik = .int .i64 k ∧ Hid (stG P T a p back k) ∧ Fr Non w wr) (fun ia _ _ ik _ => msG P.length T.length (intOf ia).toNat (intOf ik).toNat)
  case atStart => exact ⟨0, 0, 0, -1, by omega, by omega, rfl, rfl, rfl, rfl, Lib.hid (stG_start P T), Fr.refl _ _⟩
  case round =>
    obtain ⟨a, p, k, back, ha, hp, rfl, rfl, rfl, rfl, hst, hfr⟩ := hrel
    obtain ⟨hkp, hba⟩ := stG_k hst.out
    have HB := Lib.hid hba
    have HF := Lib.hid hfr
    clear hba hfr
    by_cases hpl : p < T.length
    · obtain ⟨q2, rfl⟩ : ∃ q, A2 = some q := by
        cases A2 with
        | none => have := HN2.out rfl; omega
        | some q => exact ⟨q, rfl⟩
      have hcT := HF.out.cell (World.block_lt_of_cell? w _ (HC2.out q2 rfl p hpl)) (fun e => e) |>.trans (HC2.out q2 rfl p hpl)
      unfold ruv at hcT
      -- behind the last any, or nowhere
      by_cases hal : a < P.length
      · obtain ⟨q1, rfl⟩ : ∃ q, A = some q := by
          cases A with
          | none => have := HN.out rfl; omega
          | some q => exact ⟨q, rfl⟩
        have hcP := HF.out.cell (World.block_lt_of_cell? w _ (HC.out q1 rfl a hal)) (fun e => e) |>.trans (HC.out q1 rfl a hal)
        unfold ruv at hcP
        by_cases h37 : P[a] = 37
        · have HS := Lib.hid (stG_many hst.out hal hp h37)
          have HM := Lib.hid (msG_more (P := P.length) (T := T.length) hal hkp)
          have hb : ((P[a] : Nat) : Int) = 37 := by omega
          rw [hb] at hcP
          clear hb h37 hst
          go_wp2
          go_roundw
          case rel => exact ⟨a + 1, p, p, ((a + 1 : Nat) : Int), by omega, hp, by go_num, rfl, by go_num, rfl, HS, HF.out⟩
          case measure => simpa [intOf] using HM.out
        · have hb : (((P[a] : Nat) : Int) == 37) = false := by rw [beq_eq_false_iff_ne]; omega
          by_cases hm : P[a] = 95 ∨ P[a] = T[p]
          · have HS := Lib.hid (stG_one hst.out hal hpl h37 hm)
            have HM := Lib.hid (msG_at (P := P.length) (T := T.length) (k := k) hal)
            clear h37 hst HB
            by_cases h95 : P[a] = 95
            · have hb2 : ((P[a] : Nat) : Int) = 95 := by omega
              rw [hb2] at hcP
              clear hb hb2 h95 hm
              generalize T[p] = x at *
              go_wp2
              go_quiet (fail)
              go_wp2
              go_roundw
              case rel => exact ⟨a + 1, p + 1, k, back, by omega, by omega, by go_num, by go_num, rfl, rfl, HS, HF.out.drewN _⟩
              case measure => simpa [intOf] using HM.out
            · have hb2 : (((P[a] : Nat) : Int) == 95) = false := by rw [beq_eq_false_iff_ne]; omega
              have hx : T[p] = P[a] := by rcases hm with h | h; exact absurd h h95; exact h.symm
              rw [hx] at hcT
              clear h95 hm hx
              generalize P[a] = x at *
              go_wp2
              go_quiet (fail)
              go_wp2
              go_roundw
              case rel => exact ⟨a + 1, p + 1, k, back, by omega, by omega, by go_num, by go_num, rfl, rfl, HS, HF.out.drewN _⟩
              case measure => simpa [intOf] using HM.out
          · have hno := mtG_stop hpl (fun _ => ⟨h37, fun e => hm (.inl e), fun e => hm (.inr e)⟩)
            have hb2 : (((P[a] : Nat) : Int) == 95) = false := by rw [beq_eq_false_iff_ne]; intro e; exact hm (.inl (by omega))
            have hb3 : (((P[a] : Nat) : Int) == ((T[p] : Nat) : Int)) = false := by rw [beq_eq_false_iff_ne]; intro e; exact hm (.inr (by omega))
            rcases HB.out with hneg | ⟨b, rfl, hble⟩
            · have HX := Lib.hid (stG_no hst.out hneg hno)
              have hb4 : decide ((0 : Int) ≤ back) = false := by simp; omega
              clear h37 hm hst HB hno hneg
              generalize P[a] = x at *
              generalize T[p] = y at *
              go_wp2
              go_quiet (fail)
              go_wp2
              go_ret
              exact ⟨ret_boolE HX.out.symm, HF.out.drewN _⟩
            · have HS := Lib.hid (stG_back hst.out hpl hno).1
              have HM := Lib.hid (msG_back (P := P.length) (T := T.length) (a := a) (b := b) (k := k) (by omega))
              clear h37 hm hst HB hno
              generalize P[a] = x at *
              generalize T[p] = y at *
              go_wp2
              go_quiet (fail)
              go_wp2
              go_roundw
              case rel => exact ⟨b, k + 1, k + 1, (b : Int), by omega, by omega, rfl, by go_num, rfl, by go_num, HS, HF.out.drewN _⟩
              case measure => simpa [intOf] using HM.out
      · have hno := mtG_stop (P := P) (a := a) hpl (fun h => absurd h hal)
        rcases HB.out with hneg | ⟨b, rfl, hble⟩
        · have HX := Lib.hid (stG_no hst.out hneg hno)
          have hb4 : decide ((0 : Int) ≤ back) = false := by simp; omega
          clear hst HB hno hneg
          generalize T[p] = y at *
          go_wp2
          go_quiet (fail)
          go_wp2
          go_ret
          exact ⟨ret_boolE HX.out.symm, HF.out.drewN _⟩
        · have HS := Lib.hid (stG_back hst.out hpl hno).1
          have HM := Lib.hid (msG_back (P := P.length) (T := T.length) (a := a) (b := b) (k := k) (by omega))
          clear hst HB hno
          generalize T[p] = y at *
          go_wp2
          go_quiet (fail)
          go_wp2
          go_roundw
          case rel => exact ⟨b, k + 1, k + 1, (b : Int), by omega, by omega, rfl, by go_num, rfl, by go_num, HS, HF.out.drewN _⟩
          case measure => simpa [intOf] using HM.out
    · obtain rfl : p = T.length := by omega
      have HX := Lib.hid (stG_end hst.out ha)
      obtain ⟨A', c', hrun, hvs, _⟩ := slice_loG el_rune A P.length c a .i64 (a : Int) rfl ha hlc
      have hv2 := hvs ruv wr P rfl (HV.out.non HF.out)
      have HE := Lib.hid (empty_any _ _ wr hv2 (by rw [List.length_drop]; omega))
      clear hst HB hvs hv2
      go_wp2_with fail
      refine HE.out.mono ?_
      rintro e w1 ⟨rfl, rfl⟩
      go_wp2
      go_ret
      exact ⟨ret_boolE HX.out.symm, HF.out⟩

theorem gmatch_any (p s : List UInt8) (w : World) (hp : p.length ≤ 1000000000) (hs : s.length ≤ 1000000000) :
    Calls Try.prog 66 #[.string ⟨p.toArray⟩, .string ⟨s.toArray⟩] w fun e w' => e = .returned (.bool (matchU p s)) ∧ Fr Non w w' := by
  have HP := Lib.hid (fun W => gfold_any p W hp)
  have HS := Lib.hid (fun W => gfold_any s W hs)
  have hpl := foldU_le p
  have hsl := foldU_le s
  have HM := Lib.hid (fun v u W (h1 : Vs ruv W v (foldU p)) (h2 : Vs ruv W u (foldU s)) => matches_any v u _ _ W h1 h2 (by omega) (by omega))
  clear hpl hsl
  unfold matchU
  generalize foldU p = P at *
  generalize foldU s = T at *
  go_enter Try.func66, Try.ntmps66
  go_wp2_with fail
  refine (HP.out _).mono ?_
  rintro e w1 ⟨u1, rfl, o1, f1⟩
  go_wp2_with fail
  refine (HS.out _).mono ?_
  rintro e w2 ⟨u2, rfl, o2, f2⟩
  have H2 := Lib.hid (HM.out u1 u2 w2 (o1.vs.non f2) o2.vs)
  have F2 := Lib.hid (f1.trans f2)
  clear HP HS HM o1 o2 f1 f2
  go_wp2_with fail
  refine H2.out.mono ?_
  rintro e w3 ⟨rfl, f3⟩
  go_wp2
  go_ret
  exact ⟨rfl, F2.out.trans f3⟩

end Go.Proofs.Ytnbhgkolfapblaa


namespace Go.Proofs.Ytnbhgkolfapblaa
set_option linter.unusedVariables false
set_option linter.unusedSimpArgs false
set_option maxRecDepth 100000
open Go.RowKit

theorem etold_any (b : Bool) (w : World) : Calls Try.prog 47 #[.bool b] w fun e w' => e = .returned (.int .i64 (yesI b)) ∧ w = w' := by
  cases b
  all_goals
    go_enter Try.func47, Try.ntmps47
    go_wp2
    go_ret
    exact ⟨rfl, rfl⟩
theorem erank_any (b : Bool) (w : World) : Calls Try.prog 77 #[.bool b] w fun e w' => e = .returned (.int .i64 (bitI b)) ∧ w = w' := by
  cases b
  all_goals
    go_enter Try.func77, Try.ntmps77
    go_wp2
    go_ret
    exact ⟨rfl, rfl⟩
theorem enot_any (t : Int) (w : World) : Calls Try.prog 49 #[.int .i64 t] w fun e w' => e = .returned (.int .i64 (notI t)) ∧ w = w' := by
  by_cases h1 : t = 1
  · subst h1
    go_enter Try.func49, Try.ntmps49
    go_wp2
    go_ret
    exact ⟨rfl, rfl⟩
  · by_cases h0 : t = 0
    · subst h0
      go_enter Try.func49, Try.ntmps49
      go_wp2
      go_ret
      exact ⟨rfl, rfl⟩
    · have b1 : (t == 1) = false := by rw [beq_eq_false_iff_ne]; exact h1
      have b0 : (t == 0) = false := by rw [beq_eq_false_iff_ne]; exact h0
      have HE : Hid (notI t = 2) := Lib.hid (by unfold notI; rw [if_neg h1, if_neg h0])
      clear h1 h0
      go_enter Try.func49, Try.ntmps49
      go_wp2
      go_ret
      exact ⟨ret_int HE.out.symm, rfl⟩
theorem agr_6 {op : Int} (n : Int) (h1 : op ≠ 1) (h2 : op ≠ 2) (h3 : op ≠ 3) (h4 : op ≠ 4) (h5 : op ≠ 5) : agrI op n = decide (0 ≤ n) := by unfold agrI; rw [if_neg h1, if_neg h2, if_neg h3, if_neg h4, if_neg h5]
theorem eagrees_any (op n : Int) (w : World) : Calls Try.prog 64 #[.int .i64 op, .int .i64 n] w fun e w' => e = .returned (.bool (agrI op n)) ∧ w = w' := by
  by_cases h1 : op = 1
  · subst h1
    go_enter Try.func64, Try.ntmps64
    go_wp2
    go_ret
    exact ⟨rfl, rfl⟩
  by_cases h2 : op = 2
  · subst h2
    go_enter Try.func64, Try.ntmps64
    go_wp2
    go_ret
    exact ⟨rfl, rfl⟩
  by_cases h3 : op = 3
  · subst h3
    go_enter Try.func64, Try.ntmps64
    go_wp2
    go_ret
    exact ⟨rfl, rfl⟩
  by_cases h4 : op = 4
  · subst h4
    go_enter Try.func64, Try.ntmps64
    go_wp2
    go_ret
    exact ⟨rfl, rfl⟩
  by_cases h5 : op = 5
  · subst h5
    go_enter Try.func64, Try.ntmps64
    go_wp2
    go_ret
    exact ⟨rfl, rfl⟩
  have HE := Lib.hid (agr_6 n h1 h2 h3 h4 h5)
  have b1 : (op == 1) = false := by rw [beq_eq_false_iff_ne]; exact h1
  have b2 : (op == 2) = false := by rw [beq_eq_false_iff_ne]; exact h2
  have b3 : (op == 3) = false := by rw [beq_eq_false_iff_ne]; exact h3
  have b4 : (op == 4) = false := by rw [beq_eq_false_iff_ne]; exact h4
  have b5 : (op == 5) = false := by rw [beq_eq_false_iff_ne]; exact h5
  clear h1 h2 h3 h4 h5
  go_enter Try.func64, Try.ntmps64
  go_wp2
  go_ret
  exact ⟨ret_boolE HE.out.symm, rfl⟩

theorem nanj_any (x : Int) (w : World) : Calls Try.prog 83 #[.int .i64 x] w fun e w' => e = .returned (.bool false) ∧ w = w' := by
  have h : (x != x) = false := by simp
  go_enter Try.func83, Try.ntmps83
  go_wp2
  go_ret
  exact ⟨ret_boolE (by simp), rfl⟩
theorem cmpj_any (x y : Int) (w : World) : Calls Try.prog 76 #[.int .i64 x, .int .i64 y] w fun e w' => e = .returned (.int .i64 (cmpI x y)) ∧ w = w' := by
  go_enter Try.func76, Try.ntmps76
  go_wp2_with fail
  refine (nanj_any x w).mono ?_
  rintro e w1 ⟨rfl, rfl⟩
  go_wp2_with fail
  refine (nanj_any y w).mono ?_
  rintro e w1 ⟨rfl, rfl⟩
  go_wp2
  all_goals
    go_ret
    exact ⟨ret_int (by unfold cmpI; first | (rw [if_pos (by omega)]; done) | (rw [if_neg (by omega), if_pos (by omega)]; done) | (rw [if_neg (by omega), if_neg (by omega)]; done)), rfl⟩

set_option maxHeartbeats 1000000 in
theorem eorder_any (a b : An) (h : AnT a b) (w : World) : Calls Try.prog 65 #[anV a, anV b] w fun e w' => e = .returned (.int .i64 (anO a b)) ∧ Fr Non w w' := by
  cases h with
  | int i j =>
    have A1 := fun W v => as_int_int W v
    have A2 := fun W v => is_int W v
    have HC := Lib.hid (fun W => cmpi_any i j W)
    simp only [anV, anO]
    generalize cmpI i j = z at *
    go_enter Try.func65, Try.ntmps65
    go_wp2_with fail
    refine (HC.out _).mono ?_
    rintro e w1 ⟨rfl, rfl⟩
    go_wp2
    go_ret
    exact ⟨rfl, Fr.refl _ _⟩
  | bool x y =>
    have A1 := fun W v => as_bool_int W v
    have A3 := fun W v => as_bool_bool W v
    have A2 := fun W v => is_bool W v
    have HC := Lib.hid (fun W => cmpj_any (bitI x) (bitI y) W)
    have HX := Lib.hid (fun W => erank_any x W)
    have HY := Lib.hid (fun W => erank_any y W)
    simp only [anV, anO]
    generalize cmpI _ _ = z at *
    generalize bitI x = x1 at *
    generalize bitI y = y1 at *
    go_enter Try.func65, Try.ntmps65
    go_wp2
    go_quiet (first | (go_at_call 77; exact quietly (HX.out _)) | (go_at_call 77; exact quietly (HY.out _)) | (go_at_call 76; exact quietly (HC.out _)))
    go_wp2
    go_ret
    exact ⟨rfl, (Fr.refl _ _).drewN _⟩
  | text s t =>
    have A1 := fun W v => as_str_int W v
    have A3 := fun W v => as_str_bool W v
    have A2 := fun W v => is_str W v
    have HC := Lib.hid (fun W => cmpt_any s t W)
    simp only [anV, anO]
    generalize cmpT s t = z at *
    go_enter Try.func65, Try.ntmps65
    go_wp2
    go_quiet (first | (go_at_call 78; exact quietly (HC.out _)))
    go_wp2
    go_ret
    exact ⟨rfl, (Fr.refl _ _).drewN _⟩
end Go.Proofs.Ytnbhgkolfapblaa


namespace Go.Proofs.Ytnbhgkolfapblaa
set_option linter.unusedVariables false
set_option linter.unusedSimpArgs false
set_option maxRecDepth 100000
open Go.RowKit

/-- what Find tells -/
def findV : Option Nat → Value
  | some k => .tuple #[.int .i64 k, .bool true]
  | none => .tuple #[.int .i64 0, .bool false]
set_option maxHeartbeats 1000000 in
theorem sfind_any (v : Value) (l : List Co) (n : Tx) (w : World) (hv : Ks w v l) (hl : l.length ≤ 1000000000) :
    Calls Try.prog 42 #[v, .string ⟨n.toArray⟩] w fun e w' => e = .returned (findV (findC l n)) ∧ Fr Non w w' := by
  obtain ⟨A, c, rfl, hlc, hn, hcell⟩ := hv
  have HC := Lib.hid hcell
  have HN := Lib.hid hn
  clear hcell hn
  go_enter Try.func42, Try.ntmps42
  go_wp2
  go_loopw [10] (fun i wr => ∃ (k : Nat), k ≤ l.length ∧ i = .int .i64 k ∧ Hid (∀ j (hj : j < l.length), j < k → l[j].name ≠ n) ∧ Fr Non w wr) (fun i _ => l.length - (intOf i).toNat)
  case atStart => exact ⟨0, Nat.zero_le _, rfl, Lib.hid (fun _ _ h => by omega), Fr.refl _ _⟩
  case round =>
    obtain ⟨k, hk, rfl, hne, hfr⟩ := hrel
    by_cases hlt : k < l.length
    · cases A with
      | none => have := HN.out rfl; omega
      | some a =>
        obtain ⟨hc0, hc1, hc2⟩ := co_lit ((HC.out a rfl k hlt).non hfr)
        have HY := Lib.hid (fun h => find_at hlt h hne.out)
        have HX := Lib.hid (fun h => ne_more hlt hne.out h)
        clear hne
        generalize l[k] = x at *
        obtain ⟨xn, xt, xb⟩ := x
        dsimp only at hc0 hc1 hc2 HY HX
        have hfr2 := Lib.hid (hfr.alloc (.cells #[.string ⟨xn.toArray⟩, .int .i64 xt, .bool xb] 51))
        have g0 := (co_new wr ⟨xn, xt, xb⟩).cell 0
        simp at g0
        by_cases he : xn = n
        · have hb : (xn == n) = true := by rw [beq_iff_eq]; exact he
          have HE := Lib.hid (HY.out he)
          clear HY HX he hfr
          go_wp2
          go_ret2
          refine ⟨?_, hfr2.out⟩
          rw [HE.out]; rfl
        · have hb : (xn == n) = false := by rw [beq_eq_false_iff_ne]; exact he
          have HE := Lib.hid (HX.out he)
          clear HY HX he hfr
          go_wp2
          go_roundw
          case rel => exact ⟨k + 1, by omega, by go_num, HE, hfr2.out⟩
          case measure => simp [intOf]; omega
    · have HE := Lib.hid (find_no (l := l) (n := n) (fun j hj => hne.out j hj (by omega)))
      clear hne
      go_wp2
      go_ret2
      refine ⟨?_, hfr⟩
      rw [HE.out]; rfl

end Go.Proofs.Ytnbhgkolfapblaa


namespace Go.Proofs.Ytnbhgkolfapblaa
set_option linter.unusedVariables false
set_option linter.unusedSimpArgs false
set_option maxRecDepth 100000
open Go.RowKit

/-- a cell's three values, and those of many -/
def clL (c : Cl) : List Value := [.bool c.null, .int .i64 c.num, .string ⟨c.txt.toArray⟩]
def clsL (l : List Cl) : List Value := l.flatMap clL
theorem clsL_cons (c : Cl) (l : List Cl) : clsL (c :: l) = clL c ++ clsL l := by simp [clsL]
theorem clsL_len (l : List Cl) : (clsL l).length = l.length * 3 := by
  induction l with
  | nil => rfl
  | cons c l ih => rw [clsL_cons, List.length_append, ih, List.length_cons]; simp [clL]; omega
theorem clsL_at (l : List Cl) (j : Nat) (i : Nat) (hj : j < l.length) (hi : i < 3) : (clsL l)[j * 3 + i]? = (clL l[j])[i]? := by
  induction l generalizing j with
  | nil => cases hj
  | cons c l ih =>
    rw [clsL_cons]
    cases j with
    | zero => rw [List.getElem?_append_left (by simp [clL]; omega)]; simp
    | succ j =>
      rw [List.getElem?_append_right (by simp [clL]; omega)]
      rw [show (j + 1) * 3 + i - (clL c).length = j * 3 + i by simp [clL]; omega]
      exact ih j (by simpa using hj)
/-- three cells, one behind the other, that hold c -/
structure At3 (w : World) (a : Addr) (c : Cl) : Prop where
  c0 : w.cell? a = some (.bool c.null)
  c1 : w.cell? (a.add 1) = some (.int .i64 c.num)
  c2 : w.cell? (a.add 2) = some (.string ⟨c.txt.toArray⟩)

/-- the slice v reads as the cells l -/
def Cs (w : World) (v : Value) (l : List Cl) : Prop :=
  ∃ A c, v = .slice A l.length c ∧ l.length ≤ c ∧ (A = none → c = 0) ∧ ∀ a, A = some a → ∀ j (h : j < l.length), At3 w (a.add (j * 3)) l[j]
/-- a row of the call's own, from block B on -/
def Oc (w : World) (B : Nat) (v : Value) (l : List Cl) : Prop := w.ownsRow B 24 3 v l.length (clsL l)

theorem At3.keep {w w' : World} {a : Addr} {c : Cl} (h : At3 w a c) (hk : w'.heap[a.block]? = w.heap[a.block]?) : At3 w' a c := by
  obtain ⟨h0, h1, h2⟩ := h
  exact ⟨by rw [← h0]; exact World.cell?_of_block hk, by rw [← h1]; exact World.cell?_of_block (by rw [add_block]; exact hk), by rw [← h2]; exact World.cell?_of_block (by rw [add_block]; exact hk)⟩

theorem Cs.nil_ (w : World) : Cs w (.slice none 0 0) [] := ⟨none, 0, rfl, Nat.le_refl _, fun _ => rfl, fun _ h => by cases h⟩
theorem Cs.keep {w w' : World} {v : Value} {l : List Cl} (h : Cs w v l) (hk : ∀ k, v.ownBlock = some k → k < w.heap.size → w'.heap[k]? = w.heap[k]?) : Cs w' v l := by
  obtain ⟨A, c, rfl, h1, h2, h3⟩ := h
  refine ⟨A, c, rfl, h1, h2, fun a ha j hj => ?_⟩
  have := h3 a ha j hj
  subst ha
  have hb := World.block_lt_of_cell? w _ this.c0
  refine this.keep ?_
  rw [add_block] at hb ⊢
  exact hk _ rfl hb
theorem Cs.fr {S : Nat → Prop} {w w' : World} {v : Value} {l : List Cl} (h : Cs w v l) (hf : Fr S w w') (hn : ∀ k, v.ownBlock = some k → ¬ S k) : Cs w' v l :=
  h.keep fun k hk hlt => hf.block k hlt (hn k hk)
theorem Cs.non {w w' : World} {v : Value} {l : List Cl} (h : Cs w v l) (hf : Fr Non w w') : Cs w' v l := h.fr hf fun _ _ e => e
theorem Cs.drew {w : World} {v : Value} {l : List Cl} (h : Cs w v l) : Cs w.drew v l := h.keep fun _ _ _ => rfl
theorem Cs.shape {w : World} {v : Value} {l : List Cl} (h : Cs w v l) : ∃ A c, v = .slice A l.length c := by
  obtain ⟨A, c, rfl, _⟩ := h; exact ⟨A, c, rfl⟩
theorem Cs.addr {w : World} {A : Option Addr} {n c : Nat} {l : List Cl} (h : Cs w (.slice A n c) l) (hl : 0 < n) : ∃ a, A = some a ∧ n = l.length ∧ n ≤ c ∧ ∀ j (h : j < l.length), At3 w (a.add (j * 3)) l[j] := by
  obtain ⟨A0, c0, he, h1, h2, h3⟩ := h
  simp only [Value.slice.injEq] at he
  obtain ⟨rfl, rfl, rfl⟩ := he
  cases A with
  | none => have := h2 rfl; omega
  | some a => exact ⟨a, rfl, rfl, h1, h3 a rfl⟩
/-- what a walk asks of the element at j -/
theorem Cs.el {w : World} {a : Addr} {n c : Nat} {l : List Cl} (h : Cs w (.slice (some a) n c) l) (j : Nat) (x : Cl) (hx : l[j]? = some x) :
    w.cell? (a.add (j * 3)) = some (.bool x.null) ∧ w.cell? ((a.add (j * 3)).add 1) = some (.int .i64 x.num) ∧ w.cell? ((a.add (j * 3)).add 2) = some (.string ⟨x.txt.toArray⟩) := by
  obtain ⟨A0, c0, he, h1, h2, h3⟩ := h
  simp only [Value.slice.injEq] at he
  obtain ⟨rfl, rfl, rfl⟩ := he
  obtain ⟨hj, rfl⟩ := List.getElem?_eq_some_iff.1 hx
  have := h3 a rfl j hj
  exact ⟨this.c0, this.c1, this.c2⟩

theorem Fr.at3 {w w' : World} {a : Addr} {c : Cl} (hf : Fr Non w w') (h : At3 w a c) : At3 w' a c :=
  h.keep (hf.block _ (World.block_lt_of_cell? w _ h.c0) (fun e => e))
/-- as a walk spells them -/
theorem At3.lit {w : World} {a : Addr} {c : Cl} (h : At3 w a c) : w.cell? a = some (.bool c.null) ∧ w.cell? { block := a.block, off := a.off + 1 } = some (.int .i64 c.num) ∧ w.cell? { block := a.block, off := a.off + 2 } = some (.string ⟨c.txt.toArray⟩) := ⟨h.c0, h.c1, h.c2⟩
theorem Oc.lt {w : World} {B : Nat} {v : Value} {l : List Cl} (h : Oc w B v l) : ∀ k, v.ownBlock = some k → B ≤ k ∧ k < w.heap.size := World.ownsRow.lt h
theorem Oc.cs {w : World} {B : Nat} {v : Value} {l : List Cl} (h : Oc w B v l) : Cs w v l := by
  rcases h.2 with ⟨rfl, h0⟩ | ⟨g, cap, cur, rfl, _, _, hle, _, _, _⟩
  · have hl : l = [] := List.eq_nil_of_length_eq_zero h0
    subst hl; exact Cs.nil_ w
  · refine ⟨_, cap, rfl, hle, (fun h => by cases h), fun a ha j hj => ?_⟩
    cases ha
    have H := fun i hi => World.ownsRow.cells h (g := g) rfl (j * 3 + i) _ ((clsL_at l j i hj hi).trans (List.getElem?_eq_getElem (by simp [clL]; omega)))
    refine ⟨?_, ?_, ?_⟩
    · have := H 0 (by omega); simpa [clL] using this
    · rw [add_add]; have := H 1 (by omega); simpa [clL] using this
    · rw [add_add]; have := H 2 (by omega); simpa [clL] using this
theorem Oc.shape {w : World} {B : Nat} {v : Value} {l : List Cl} (h : Oc w B v l) : ∃ A c, v = .slice A l.length c := h.cs.shape
theorem Oc.keep {w w' : World} {B : Nat} {v : Value} {l : List Cl} (h : Oc w B v l) (hk : ∀ k, v.ownBlock = some k → w'.heap[k]? = w.heap[k]?) : Oc w' B v l := by
  refine ⟨h.1, ?_⟩
  rcases h.2 with h2 | ⟨g, cap, cur, hv, hb, hg, r⟩
  · exact .inl h2
  · exact .inr ⟨g, cap, cur, hv, hb, by rw [hk g (by rw [hv]; rfl)]; exact hg, r⟩
theorem Oc.fr {S : Nat → Prop} {w w' : World} {B : Nat} {v : Value} {l : List Cl} (h : Oc w B v l) (hf : Fr S w w') (hn : ∀ k, v.ownBlock = some k → ¬ S k) : Oc w' B v l :=
  h.keep fun k hk => hf.block k (h.lt k hk).2 (hn k hk)
theorem Oc.non {w w' : World} {B : Nat} {v : Value} {l : List Cl} (h : Oc w B v l) (hf : Fr Non w w') : Oc w' B v l := h.fr hf fun _ _ e => e
theorem Oc.alloc {w : World} {B : Nat} {v : Value} {l : List Cl} (h : Oc w B v l) (o : Obj) : Oc (w.alloc o) B v l := h.non ((Fr.refl _ _).alloc o)
theorem Oc.drew {w : World} {B : Nat} {v : Value} {l : List Cl} (h : Oc w B v l) : Oc w.drew B v l := h
theorem Oc.mono {w : World} {B B' : Nat} {v : Value} {l : List Cl} (h : Oc w B v l) (hB : B' ≤ B) : Oc w B' v l := by
  refine ⟨h.1, ?_⟩
  rcases h.2 with h2 | ⟨g, cap, cur, hv, hb, r⟩
  · exact .inl h2
  · exact .inr ⟨g, cap, cur, hv, by omega, r⟩
theorem Oc.kind {w : World} {B : Nat} {v : Value} {l : List Cl} (h : Oc w B v l) : ∀ k, v.ownBlock = some k → ∃ cur, w.heap[k]? = some (.cells cur 24 (0, 0)) := by
  intro k hk
  rcases h.2 with ⟨rfl, _⟩ | ⟨g, cap, cur, rfl, _, hg, _⟩
  · cases hk
  · obtain rfl : g = k := by simpa [Value.ownBlock] using hk
    exact ⟨cur, hg⟩
theorem Oc.row {w : World} {B : Nat} {v : Value} {l : List Cl} (h : Oc w B v l) (hn : 0 < l.length) : ∃ g cap, v = .slice (some ⟨g, 0, none⟩) l.length cap ∧ B ≤ g ∧ g < w.heap.size ∧ l.length ≤ cap ∧ cap ≤ maxLen := by
  rcases h.2 with ⟨rfl, h0⟩ | ⟨g, cap, cur, rfl, hb, hg, hle, hm, _⟩
  · omega
  · exact ⟨g, cap, rfl, hb, (Array.getElem?_eq_some_iff.1 hg).1, hle, hm⟩
/-- what a walk asks of a row's element at j -/
theorem Oc.el {w : World} {B g n cap : Nat} {l : List Cl} (h : Oc w B (.slice (some ⟨g, 0, none⟩) n cap) l) (hn : n = l.length) (j : Nat) (x : Cl) (hx : l[j]? = some x) :
    w.cell? ⟨g, j * 3, none⟩ = some (.bool x.null) ∧ w.cell? ⟨g, j * 3 + 1, none⟩ = some (.int .i64 x.num) ∧ w.cell? ⟨g, j * 3 + 2, none⟩ = some (.string ⟨x.txt.toArray⟩) := by
  subst hn
  obtain ⟨hj, rfl⟩ := List.getElem?_eq_some_iff.1 hx
  refine ⟨?_, ?_, ?_⟩
  · rw [World.ownsRow.cellAt h (j * 3) (by omega)]; have := clsL_at l j 0 hj (by omega); simpa [clL] using this
  · rw [World.ownsRow.cellAt h (j * 3 + 1) (by omega)]; have := clsL_at l j 1 hj (by omega); simpa [clL] using this
  · rw [World.ownsRow.cellAt h (j * 3 + 2) (by omega)]; have := clsL_at l j 2 hj (by omega); simpa [clL] using this
theorem Oc.frozen {w : World} {B g n cap : Nat} {l : List Cl} (h : Oc w B (.slice (some ⟨g, 0, none⟩) n cap) l) (hn : n = l.length) (j : Nat) : w.frozen? ⟨g, j, none⟩ = false := by
  subst hn; exact World.ownsRow.frozenAt h j
theorem oc_lit (w : World) (B g : Nat) (l : List Cl) (cs : Array Value) (hcs : cs.toList = clsL l) (hg : g = w.heap.size) (hB : B ≤ g) (hm : l.length ≤ 1000000) : Oc (w.alloc (.cells cs 24)) B (.slice (some ⟨g, 0, none⟩) l.length l.length) l := by
  subst hg
  have h := World.ownsRow_lit (e := 24) (size := 3) w cs l.length hB (by unfold maxLen; omega) (by rw [← Array.length_toList, hcs, clsL_len])
  rw [hcs] at h
  exact h
/-! ### Steps -/
end Go.Proofs.Ytnbhgkolfapblaa


namespace Go.Proofs.Ytnbhgkolfapblaa
set_option linter.unusedVariables false
set_option linter.unusedSimpArgs false
set_option maxRecDepth 100000
open Go.RowKit

/-- a column in a block, a cell at an address -/
structure RowAt (w : World) (g : Nat) (a : Addr) (x : Co) (y : Cl) : Prop where
  col : CoB w g x
  row : At3 w a y
theorem RowAt.non {w w' : World} {g : Nat} {a : Addr} {x : Co} {y : Cl} (h : RowAt w g a x y) (hf : Fr Non w w') : RowAt w' g a x y := ⟨h.col.fr hf (fun e => e), hf.at3 h.row⟩

set_option maxHeartbeats 4000000 in
theorem srow_any (v1 v2 : Value) (l : List Co) (row : List Cl) (w : World) (h1 : Ks w v1 l) (h2 : Cs w v2 row) (hl : l.length ≤ 1000000000) :
    Calls Try.prog 27 #[v1, v2] w fun e w' => e = .returned (.bool (rowB l row)) ∧ Fr Non w w' := by
  obtain ⟨A1, c1, rfl, hc1, hn1, hcell1⟩ := h1
  obtain ⟨A2, c2, rfl, hc2, hn2, hcell2⟩ := h2
  have HN1 := Lib.hid hn1
  have HN2 := Lib.hid hn2
  have HC1 := Lib.hid hcell1
  have HC2 := Lib.hid hcell2
  clear hn1 hn2 hcell1 hcell2
  by_cases hlen : l.length = row.length
  · have HL := Lib.hid hlen
    have hb : ((row.length : Int) != l.length) = false := by rw [hlen]; simp
    have hle : l.length ≤ row.length := by omega
    have hge : row.length ≤ l.length := by omega
    clear hlen
    go_enter Try.func27, Try.ntmps27
    go_wp2
    go_loopw [14] (fun i wr => ∃ k : Nat, k ≤ l.length ∧ i = .int .i64 k ∧ Hid (∀ j (h : j < l.length) (h2 : j < row.length), j < k → mayC l[j].ty l[j].nl row[j] = true) ∧ Fr Non w wr) (fun i _ => l.length - (intOf i).toNat)
    case atStart => exact ⟨0, Nat.zero_le _, rfl, Lib.hid (fun _ _ _ h => by omega), Fr.refl _ _⟩
    case round =>
      obtain ⟨k, hk, rfl, HT, hfr⟩ := hrel
      by_cases hlt : k < l.length
      · cases A1 with
        | none => have := HN1.out rfl; omega
        | some a1 =>
          cases A2 with
          | none => have := HN2.out rfl; omega
          | some a2 =>
            have hlt2 : k < row.length := by omega
            obtain ⟨g0, g1, g2⟩ := co_lit ((HC1.out a1 rfl k hlt).non hfr)
            have hr := hfr.at3 (HC2.out a2 rfl k hlt2)
            have HY := Lib.hid (fun h => row_more hlt hlt2 HT.out h)
            have HX := Lib.hid (fun h => row_bad hlt hlt2 h)
            clear HT
            generalize l[k] = x at *
            generalize row[k] = y at *
            obtain ⟨xn, xt, xb⟩ := x
            obtain ⟨yn, yt, yb⟩ := y
            dsimp only at g0 g1 g2 HY HX
            have f1 := (Fr.refl Non wr).alloc (.cells #[.string ⟨xn.toArray⟩, .int .i64 xt, .bool xb] 51)
            have hD : RowAt _ wr.heap.size _ _ _ := ⟨co_new wr ⟨xn, xt, xb⟩, f1.at3 hr⟩
            have FD := Lib.hid (hfr.trans f1)
            replace hD := Lib.hid hD
            clear hr f1 hfr
            go_wp2
            obtain ⟨V, hV⟩ : ∃ V, wr.alloc (.cells #[.string ⟨xn.toArray⟩, .int .i64 xt, .bool xb] 51) = V := ⟨_, rfl⟩
            rw [hV] at hD FD ⊢
            clear hV
            have hD := hD.out
            have FD := FD.out
            generalize wr.heap.size = g at *
            replace hD : RowAt V.drew g _ _ _ := ⟨hD.col, hD.row.keep rfl⟩
            replace FD := FD.drew
            have M := fun W => may_any xt xb ⟨yn, yt, yb⟩ W
            unfold clV clC at M
            dsimp only at M
            replace M := Lib.hid M
            have t1 : V.drew.cell? ⟨g, 1, none⟩ = some (.int .i64 xt) := hD.col.cell 1
            have t2 : V.drew.cell? ⟨g, 2, none⟩ = some (.bool xb) := hD.col.cell 2
            obtain ⟨t3, t4, t5⟩ := hD.row.lit
            dsimp only at t3 t4 t5
            replace hD := Lib.hid hD
            replace FD := Lib.hid FD
            go_region_held3 (fun W => W.cell? ⟨g, 1, none⟩ = some (.int .i64 xt) ∧ W.cell? ⟨g, 2, none⟩ = some (.bool xb) ∧ W.cell? (a2.add (k * 3)) = some (.bool yn) ∧ W.cell? { block := (a2.add (k * 3)).block, off := (a2.add (k * 3)).off + 1 } = some (.int .i64 yt) ∧ W.cell? { block := (a2.add (k * 3)).block, off := (a2.add (k * 3)).off + 2 } = some (.string ⟨yb.toArray⟩)) (first | exact ⟨t1, t2, t3, t4, t5⟩ | exact ⟨u1, u2, u3, u4, u5⟩ | fail) (first | (go_at_call 43; refine (M.out _).mono ?_; rintro e w4 ⟨rfl, f4⟩; have F4 := Lib.hid (FD.out.trans f4); have h4 := hD.out.non f4; have u1 : w4.cell? ⟨g, 1, none⟩ = some (.int .i64 xt) := h4.col.cell 1; have u2 : w4.cell? ⟨g, 2, none⟩ = some (.bool xb) := h4.col.cell 2; obtain ⟨u3, u4, u5⟩ := h4.row.lit))
            clear u1 u2 u3 u4 u5 h4 f4 t1 t2 t3 t4 t5 hD FD M
            cases hM : mayC xt xb ⟨yn, yt, yb⟩
            · have HE := Lib.hid (HX.out hM)
              clear HX HY hM
              go_wp2
              go_ret
              exact ⟨ret_boolE HE.out.symm, F4.out⟩
            · have HE := Lib.hid (HY.out hM)
              clear HX HY hM
              go_wp2
              go_roundw
              case rel => exact ⟨k + 1, by omega, by go_num, HE, F4.out⟩
              case measure => simp [intOf]; omega
      · have HE := Lib.hid (row_yes HL.out (fun j h h2 => HT.out j h h2 (by omega)))
        clear HT
        go_wp2
        go_ret
        exact ⟨ret_boolE HE.out.symm, hfr⟩
  · have hb : ((row.length : Int) != l.length) = true := by rw [bne_iff_ne]; omega
    have HE := Lib.hid (row_len hlen)
    clear hlen
    go_enter Try.func27, Try.ntmps27
    go_wp2
    go_ret
    exact ⟨ret_boolE HE.out.symm, Fr.refl _ _⟩

end Go.Proofs.Ytnbhgkolfapblaa


namespace Go.Proofs.Ytnbhgkolfapblaa
set_option linter.unusedVariables false
set_option linter.unusedSimpArgs false
set_option maxRecDepth 100000
open Go.RowKit

/-- a slice's words -/
structure Kv where
  A : Option Addr
  n : Nat
  c : Nat
def kidV (s : Kv) : Value := .slice s.A s.n s.c
def noKv : Kv := ⟨none, 0, 0⟩
/-- a predicate's cells, and its value -/
def pdL (x : Ph × Kv) : List Value := [.int .i64 x.1.op, .string ⟨x.1.col.toArray⟩, .int .i64 x.1.cmp, .bool x.1.val.null, .int .i64 x.1.val.num, .string ⟨x.1.val.txt.toArray⟩, .int .i64 x.1.kind, .string ⟨x.1.pat.toArray⟩, kidV x.2]
def pdC (h : Ph) (s : Kv) : Array Value := #[.int .i64 h.op, .string ⟨h.col.toArray⟩, .int .i64 h.cmp, .bool h.val.null, .int .i64 h.val.num, .string ⟨h.val.txt.toArray⟩, .int .i64 h.kind, .string ⟨h.pat.toArray⟩, kidV s]
def pdV (h : Ph) (s : Kv) : Value := .agg (pdC h s)
theorem fd_pd : Fd pdL 9 := ⟨fun _ => rfl, fun x u hu => by simp [pdL] at hu; rcases hu with rfl | rfl | rfl | rfl | rfl | rfl | rfl | rfl | rfl <;> rfl, by omega, by omega⟩
/-- as a walk spells them -/
def PCells (w : World) (a : Addr) (h : Ph) (s : Kv) : Prop :=
  w.cell? a = some (.int .i64 h.op) ∧ w.cell? { block := a.block, off := a.off + 1 } = some (.string ⟨h.col.toArray⟩) ∧ w.cell? { block := a.block, off := a.off + 2 } = some (.int .i64 h.cmp) ∧
  w.cell? { block := a.block, off := a.off + 3 } = some (.bool h.val.null) ∧ w.cell? { block := a.block, off := a.off + 4 } = some (.int .i64 h.val.num) ∧ w.cell? { block := a.block, off := a.off + 5 } = some (.string ⟨h.val.txt.toArray⟩) ∧
  w.cell? { block := a.block, off := a.off + 6 } = some (.int .i64 h.kind) ∧ w.cell? { block := a.block, off := a.off + 7 } = some (.string ⟨h.pat.toArray⟩) ∧ w.cell? { block := a.block, off := a.off + 8 } = some (.slice s.A s.n s.c)
theorem pd_lit {w : World} {a : Addr} {h : Ph} {s : Kv} (e : AtN w a (pdL (h, s))) : PCells w a h s :=
  ⟨e 0 _ rfl, e 1 _ rfl, e 2 _ rfl, e 3 _ rfl, e 4 _ rfl, e 5 _ rfl, e 6 _ rfl, e 7 _ rfl, e 8 _ rfl⟩
/-- the predicate lies in block g -/
abbrev PdB (w : World) (g : Nat) (h : Ph) (s : Kv) : Prop := Blk w g 27 (pdC h s)
def PBlk (w : World) (g : Nat) (h : Ph) (s : Kv) : Prop :=
  w.cell? ⟨g, 0, none⟩ = some (.int .i64 h.op) ∧ w.cell? ⟨g, 1, none⟩ = some (.string ⟨h.col.toArray⟩) ∧ w.cell? ⟨g, 2, none⟩ = some (.int .i64 h.cmp) ∧
  w.cell? ⟨g, 3, none⟩ = some (.bool h.val.null) ∧ w.cell? ⟨g, 4, none⟩ = some (.int .i64 h.val.num) ∧ w.cell? ⟨g, 5, none⟩ = some (.string ⟨h.val.txt.toArray⟩) ∧
  w.cell? ⟨g, 6, none⟩ = some (.int .i64 h.kind) ∧ w.cell? ⟨g, 7, none⟩ = some (.string ⟨h.pat.toArray⟩) ∧ w.cell? ⟨g, 8, none⟩ = some (.slice s.A s.n s.c)
theorem pdB_cells {w : World} {g : Nat} {h : Ph} {s : Kv} (e : PdB w g h s) : PBlk w g h s :=
  ⟨e.cell 0, e.cell 1, e.cell 2, e.cell 3, e.cell 4, e.cell 5, e.cell 6, e.cell 7, e.cell 8⟩
theorem pd_new (w : World) (g : Nat) (h : Ph) (s : Kv) (hg : g = w.heap.size) : PdB (w.alloc (.cells (pdC h s) 27)) g h s := by subst hg; exact Blk.new _ _ _
theorem pd2_new (w : World) (g : Nat) (a b : Ph) (s t : Kv) (hg : g = w.heap.size) : PdB ((w.alloc (.cells (pdC a s) 27)).alloc (.cells (pdC b t) 27)) g a s ∧ PdB ((w.alloc (.cells (pdC a s) 27)).alloc (.cells (pdC b t) 27)) (g + 1) b t := by
  subst hg
  refine ⟨(Blk.new _ _ _).fr ((Fr.refl Non _).alloc _) (fun e => e), ?_⟩
  have h : PdB ((w.alloc (.cells (pdC a s) 27)).alloc (.cells (pdC b t) 27)) (w.alloc (.cells (pdC a s) 27)).heap.size b t := Blk.new _ _ _
  rw [show (w.alloc (.cells (pdC a s) 27)).heap.size = w.heap.size + 1 by simp] at h
  exact h

/-! ### Trees -/
/-- the slice s reads as the predicates ps, with all that is within them -/
inductive Kd (w : World) : Kv → List Pd → Prop
  | mk (s : Kv) (ns : List (Ph × Kv)) (ps : List Pd) (hl : ns.length = ps.length) (hN : Ns pdL 9 w (kidV s) ns)
    (hh : ∀ i (h1 : i < ns.length) (h2 : i < ps.length), ns[i].1 = ps[i].hd) (hb : ∀ i (h2 : i < ps.length), I64b ps[i].hd.val.num)
    (hk : ∀ i (h1 : i < ns.length) (h2 : i < ps.length), Kd w ns[i].2 ps[i].kids) : Kd w s ps
theorem Kd.non {w w' : World} {s : Kv} {ps : List Pd} (h : Kd w s ps) (hf : Fr Non w w') : Kd w' s ps := by
  induction h with
  | mk s ns ps hl hN hh hb hk ih => exact .mk s ns ps hl (hN.non hf) hh hb ih
theorem Kd.nil_ (w : World) : Kd w noKv [] := .mk _ [] [] rfl (Ns.nil_ w) (fun i h => by cases h) (fun i h => by cases h) (fun i h => by cases h)
theorem Kd.len {w : World} {s : Kv} {ps : List Pd} (h : Kd w s ps) : s.n = ps.length := by
  cases h with
  | mk s ns ps hl hN hh hb hk =>
    obtain ⟨A, c, e, _⟩ := hN
    unfold kidV at e
    simp only [Value.slice.injEq] at e
    omega
/-- the one at j -/
theorem Kd.el {w : World} {s : Kv} {ps : List Pd} (h : Kd w s ps) (j : Nat) (hj : j < ps.length) :
    ∃ a t, s.A = some a ∧ PCells w (a.add (j * 9)) ps[j].hd t ∧ Kd w t ps[j].kids ∧ I64b ps[j].hd.val.num := by
  cases h with
  | mk s ns ps hl hN hh hb hk =>
    have hj' : j < ns.length := by omega
    obtain ⟨a, ha, hc⟩ := hN.at_ j ns[j] (List.getElem?_eq_getElem hj')
    have e := hh j hj' hj
    refine ⟨a, ns[j].2, ha, ?_, hk j hj' hj, hb j hj⟩
    rw [← e]
    exact pd_lit hc

/-! ### Two compared -/
def peq (a b : Ph) : Bool := decide (a = b)
theorem ceq_unl {a b : Cl} (h : ceq a b = false) : a ≠ b := by simpa [ceq] using h
set_option maxHeartbeats 2000000 in
theorem alike_any (a b : Ph) (s t : Kv) (w : World) : Calls Try.prog 56 #[pdV a s, pdV b t] w fun e w' => e = .returned (.bool (peq a b)) ∧ Fr Non w w' := by
  have S1 := fun W => csame_any a.val b.val W
  have B0 := Lib.hid (pd2_new w _ a b s t rfl)
  have HN : Hid (a ≠ b → peq a b = false) := Lib.hid (fun h => decide_eq_false h)
  have HA : Hid (a = b → peq a b = true) := Lib.hid (fun h => decide_eq_true h)
  obtain ⟨ao, ac, am, ⟨an, ai, at_⟩, ak, ap⟩ := a
  obtain ⟨bo, bc, bm, ⟨bn, bi, bt⟩, bk, bp⟩ := b
  obtain ⟨sA, sn, sc⟩ := s
  obtain ⟨tA, tn, tc⟩ := t
  unfold pdV pdC kidV
  unfold PdB pdC kidV at B0
  unfold clV clC at S1
  dsimp only at *
  by_cases ho : ao = bo
  · subst ho
    by_cases hc : ac = bc
    · subst hc
      by_cases hm : am = bm
      · subst hm
        by_cases hk : ak = bk
        · subst hk
          cases hv : ceq ⟨an, ai, at_⟩ ⟨bn, bi, bt⟩
          · have HE : Hid (peq _ _ = false) := Lib.hid (HN.out (fun e => ceq_unl hv (by cases e; rfl)))
            simp only [hv] at S1
            clear HN HA hv B0
            replace S1 := Lib.hid S1
            go_enter Try.func56, Try.ntmps56
            go_wp2_with fail
            refine (S1.out _).mono ?_
            rintro e w1 ⟨rfl, f1⟩
            go_wp2
            go_ret
            exact ⟨ret_boolE HE.out.symm, (((Fr.refl _ _).alloc _).alloc _).trans f1⟩
          · simp only [hv] at S1
            have hv2 := ceq_is hv
            clear hv
            cases hv2
            have HE : Hid (peq ⟨ao, ac, am, ⟨an, ai, at_⟩, ak, ap⟩ ⟨ao, ac, am, ⟨an, ai, at_⟩, ak, bp⟩ = (ap == bp)) := Lib.hid (by
              by_cases e : ap = bp
              · subst e; rw [HA.out rfl]; simp
              · rw [HN.out (fun h => e (by cases h; rfl))]; symm; rw [beq_eq_false_iff_ne]; exact e)
            clear HN HA
            replace S1 := Lib.hid S1
            go_enter Try.func56, Try.ntmps56
            go_wp2_with fail
            refine (S1.out _).mono ?_
            rintro e w1 ⟨rfl, f1⟩
            have g1 := (B0.out.1.fr f1 (fun e => e)).cell 7
            have g2 := (B0.out.2.fr f1 (fun e => e)).cell 7
            simp at g1 g2
            clear B0
            go_wp2
            go_ret
            exact ⟨ret_boolE HE.out.symm, (((Fr.refl _ _).alloc _).alloc _).trans f1⟩
        · have ek : (ak == bk) = false := by rw [beq_eq_false_iff_ne]; exact hk
          have HE : Hid (peq _ _ = false) := Lib.hid (HN.out (fun e => hk (by cases e; rfl)))
          clear S1 hk HN HA B0
          go_enter Try.func56, Try.ntmps56
          go_wp2
          go_ret
          exact ⟨ret_boolE HE.out.symm, ((Fr.refl _ _).alloc _).alloc _⟩
      · have em : (am == bm) = false := by rw [beq_eq_false_iff_ne]; exact hm
        have HE : Hid (peq _ _ = false) := Lib.hid (HN.out (fun e => hm (by cases e; rfl)))
        clear S1 hm HN HA B0
        go_enter Try.func56, Try.ntmps56
        go_wp2
        go_ret
        exact ⟨ret_boolE HE.out.symm, ((Fr.refl _ _).alloc _).alloc _⟩
    · have ec : (ac == bc) = false := by rw [beq_eq_false_iff_ne]; exact hc
      have HE : Hid (peq _ _ = false) := Lib.hid (HN.out (fun e => hc (by cases e; rfl)))
      clear S1 hc HN HA B0
      go_enter Try.func56, Try.ntmps56
      go_wp2
      go_ret
      exact ⟨ret_boolE HE.out.symm, ((Fr.refl _ _).alloc _).alloc _⟩
  · have eo : (ao == bo) = false := by rw [beq_eq_false_iff_ne]; exact ho
    have HE : Hid (peq _ _ = false) := Lib.hid (HN.out (fun e => ho (by cases e; rfl)))
    clear S1 ho HN HA B0
    go_enter Try.func56, Try.ntmps56
    go_wp2
    go_ret
    exact ⟨ret_boolE HE.out.symm, ((Fr.refl _ _).alloc _).alloc _⟩

end Go.Proofs.Ytnbhgkolfapblaa


namespace Go.Proofs.Ytnbhgkolfapblaa
set_option linter.unusedVariables false
set_option linter.unusedSimpArgs false
set_option maxRecDepth 100000
open Go.RowKit

theorem isletter_any (r : Int) (w : World) : Calls Try.prog 73 #[.int .i32 r] w fun e w' => e = .returned (.bool (ltrI r)) ∧ w = w' := by
  by_cases h1 : 97 ≤ r
  · by_cases h2 : r ≤ 122
    · have H := Lib.hid (show ltrI r = true by simp [ltrI, h1, h2])
      go_enter Try.func73, Try.ntmps73
      go_wp2
      go_ret
      exact ⟨ret_boolE H.out.symm, rfl⟩
    · have H := Lib.hid (show ltrI r = false by simp [ltrI, h1, h2])
      go_enter Try.func73, Try.ntmps73
      go_wp2
      go_ret
      exact ⟨ret_boolE H.out.symm, rfl⟩
  · have H := Lib.hid (show ltrI r = false by simp [ltrI, h1])
    go_enter Try.func73, Try.ntmps73
    go_wp2
    go_ret
    exact ⟨ret_boolE H.out.symm, rfl⟩
theorem isdigit_any (r : Int) (w : World) : Calls Try.prog 74 #[.int .i32 r] w fun e w' => e = .returned (.bool (dgtI r)) ∧ w = w' := by
  by_cases h1 : 48 ≤ r
  · by_cases h2 : r ≤ 57
    · have H := Lib.hid (show dgtI r = true by simp [dgtI, h1, h2])
      go_enter Try.func74, Try.ntmps74
      go_wp2
      go_ret
      exact ⟨ret_boolE H.out.symm, rfl⟩
    · have H := Lib.hid (show dgtI r = false by simp [dgtI, h1, h2])
      go_enter Try.func74, Try.ntmps74
      go_wp2
      go_ret
      exact ⟨ret_boolE H.out.symm, rfl⟩
  · have H := Lib.hid (show dgtI r = false by simp [dgtI, h1])
    go_enter Try.func74, Try.ntmps74
    go_wp2
    go_ret
    exact ⟨ret_boolE H.out.symm, rfl⟩

set_option maxHeartbeats 4000000 in
theorem isword_any (l : List UInt8) (w : World) : Calls Try.prog 72 #[.string ⟨l.toArray⟩] w fun e w' => e = .returned (.bool (decide (l ∈ wordsL))) ∧ w = w' := by
  go_enter Try.func72, Try.ntmps72
  go_wp2
  all_goals
    go_ret
    exact ⟨ret_boolE (by simp_all [wordsL]), rfl⟩

end Go.Proofs.Ytnbhgkolfapblaa


namespace Go.Proofs.Ytnbhgkolfapblaa
set_option linter.unusedVariables false
set_option linter.unusedSimpArgs false
set_option maxRecDepth 100000
open Go.RowKit

theorem slenN (l : List UInt8) : ByteArray.size ⟨l.toArray⟩ = l.length := by simp [ByteArray.size]
theorem nmOk_more {l : List UInt8} {k : Nat} (h : ∀ j (hj : j < l.length), j < k → okI j (l[j]).toNat = true) (hk : k < l.length) (hc : okI k (l[k]).toNat = true) : ∀ j (hj : j < l.length), j < k + 1 → okI j (l[j]).toNat = true := by
  intro j hj hlt
  by_cases e : j = k
  · subst e; exact hc
  · exact h j hj (by omega)

set_option maxHeartbeats 2000000 in
theorem sname_any (l : List UInt8) (w : World) (hl : l.length ≤ 1000000000) : Calls Try.prog 60 #[.string ⟨l.toArray⟩] w fun e w' => e = .returned (.bool (nameB l)) ∧ Fr Non w w' := by
  have hs := slenN l
  by_cases h0 : l = []
  · subst h0
    go_enter Try.func60, Try.ntmps60
    go_wp2
    go_ret
    exact ⟨rfl, Fr.refl _ _⟩
  · have h0b : (l == []) = false := by rw [beq_eq_false_iff_ne]; exact h0
    have HL : Hid (1 ≤ l.length) := Lib.hid (Nat.pos_of_ne_zero (fun e => h0 (List.eq_nil_of_length_eq_zero e)))
    clear h0
    by_cases h12 : 12 < l.length
    · have H := Lib.hid (name_long h12)
      go_enter Try.func60, Try.ntmps60
      go_wp2
      go_ret
      exact ⟨ret_boolE H.out.symm, Fr.refl _ _⟩
    · have HI := fun W => isword_any l W
      cases hw : decide (l ∈ wordsL)
      · simp only [hw] at HI
        have HW := Lib.hid (of_decide_eq_false hw)
        clear hw
        replace HI := Lib.hid HI
        go_enter Try.func60, Try.ntmps60
        go_wp2_with fail
        refine (HI.out _).mono ?_
        rintro e w1 ⟨rfl, rfl⟩
        clear HI
        go_wp2
        go_loopw [3, 4] (fun _ _ wr => ∃ k : Nat, k ≤ l.length ∧ wr = w.iter ⟨l.toArray⟩ k ∧ Hid (∀ j (hj : j < l.length), j < k → okI j (l[j]).toNat = true)) (fun _ _ wr => l.length - wr.iterPos w.heap.size)
        case atStart => exact ⟨0, by omega, rfl, Lib.hid (fun _ _ h => by omega)⟩
        case round =>
          obtain ⟨k, hk, rfl, hok⟩ := hrel
          by_cases hlt : k < l.length
          · obtain ⟨c, hc⟩ : ∃ c, l[k] = c := ⟨_, rfl⟩
            have hm := World.iterPos_iter w ⟨l.toArray⟩ k
            have HC := Lib.hid hc
            have hbk : (⟨l.toArray⟩ : ByteArray)[k]'(by rw [hs]; exact hlt) = c := hc
            clear hc
            have HM := Lib.hid (fun (h : okI k c.toNat = true) => nmOk_more hok.out hlt (by rw [HC.out]; exact h))
            have HX := Lib.hid (fun (h : okI k c.toNat = false) => name_bad hlt (by rw [HC.out]; exact h))
            clear HC hok
            by_cases hhi : c.toNat < 128
            · have hn := fun ty => run_next_ascii (P := Try.prog) w ⟨l.toArray⟩ k ty (by rw [hs]; exact hlt) (by rw [hbk]; exact hhi)
              rw [hbk] at hn
              clear hbk hhi
              have hm1 := World.iterPos_iter w ⟨l.toArray⟩ (k + 1)
              have FR1 := Lib.hid ((Fr.refl Non w).alloc (.stringIter ⟨l.toArray⟩ (k + 1)))
              replace hm1 := Lib.hid hm1
              change Hid (Fr Non w (w.iter ⟨l.toArray⟩ (k + 1))) at FR1
              have HM1 := hm1
              clear hm1
              have HL1 := fun W => isletter_any c.toNat W
              have HD1 := fun W => isdigit_any c.toNat W
              cases hL : ltrI c.toNat
              · simp only [hL] at HL1
                replace HL1 := Lib.hid HL1
                by_cases hk0 : k = 0
                · subst hk0
                  replace HX := Lib.hid (HX.out (by simp [okI, hL]))
                  clear HD1 HM hL
                  go_wp2_with fail
                  refine (HL1.out _).mono ?_
                  rintro e w1 ⟨rfl, rfl⟩
                  clear HL1
                  go_wp2
                  go_ret
                  exact ⟨ret_boolE HX.out.symm, FR1.out⟩
                · have hkb : ((k : Int) == 0) = false := by rw [beq_eq_false_iff_ne]; omega
                  have HK0 := Lib.hid hk0
                  clear hk0
                  cases hD : dgtI c.toNat
                  · simp only [hD] at HD1
                    replace HD1 := Lib.hid HD1
                    by_cases h95 : (c.toNat : Int) = 95
                    · replace HM := Lib.hid (HM.out (by simp [okI, hL, hD, h95]; exact .inr HK0.out))
                      have h95b : ((c.toNat : Int) == 95) = true := by rw [beq_iff_eq]; exact h95
                      clear HX hL hD h95
                      go_wp2_with fail
                      refine (HL1.out _).mono ?_
                      rintro e w1 ⟨rfl, rfl⟩
                      clear HL1
                      go_wp2_with fail
                      refine (HD1.out _).mono ?_
                      rintro e w1 ⟨rfl, rfl⟩
                      clear HD1
                      go_wp2
                      go_roundw
                      case rel => exact ⟨k + 1, by omega, rfl, HM⟩
                      case measure => rw [hm, HM1.out]; omega
                    · replace HX := Lib.hid (HX.out (by simp [okI, hL, hD, h95]))
                      have h95b : ((c.toNat : Int) == 95) = false := by rw [beq_eq_false_iff_ne]; exact h95
                      clear HM hL hD h95
                      go_wp2_with fail
                      refine (HL1.out _).mono ?_
                      rintro e w1 ⟨rfl, rfl⟩
                      clear HL1
                      go_wp2_with fail
                      refine (HD1.out _).mono ?_
                      rintro e w1 ⟨rfl, rfl⟩
                      clear HD1
                      go_wp2
                      go_ret
                      exact ⟨ret_boolE HX.out.symm, FR1.out⟩
                  · simp only [hD] at HD1
                    replace HD1 := Lib.hid HD1
                    replace HM := Lib.hid (HM.out (by simp [okI, hL, hD]; exact HK0.out))
                    clear HX hL hD
                    go_wp2_with fail
                    refine (HL1.out _).mono ?_
                    rintro e w1 ⟨rfl, rfl⟩
                    clear HL1
                    go_wp2_with fail
                    refine (HD1.out _).mono ?_
                    rintro e w1 ⟨rfl, rfl⟩
                    clear HD1
                    go_wp2
                    go_roundw
                    case rel => exact ⟨k + 1, by omega, rfl, HM⟩
                    case measure => rw [hm, HM1.out]; omega
              · simp only [hL] at HL1
                replace HL1 := Lib.hid HL1
                replace HM := Lib.hid (HM.out (by simp [okI, hL]))
                clear HX hL HD1
                go_wp2_with fail
                refine (HL1.out _).mono ?_
                rintro e w1 ⟨rfl, rfl⟩
                clear HL1
                go_wp2
                go_roundw
                case rel => exact ⟨k + 1, by omega, rfl, HM⟩
                case measure => rw [hm, HM1.out]; omega
            · have hn := fun ty => run_next_any (P := Try.prog) w ⟨l.toArray⟩ k ty (by rw [hs]; exact hlt)
              have hr := (decode_high ⟨l.toArray⟩ k (by rw [hs]; exact hlt) (by rw [hbk]; omega)).1
              replace HX := Lib.hid (HX.out (okI_high (by omega)))
              clear HM hbk
              generalize (Utf8.decode ⟨l.toArray⟩ k).1 = r at *
              generalize k + (Utf8.decode ⟨l.toArray⟩ k).2 = p at *
              have FR1 := Lib.hid ((Fr.refl Non w).alloc (.stringIter ⟨l.toArray⟩ p))
              change Hid (Fr Non w (w.iter ⟨l.toArray⟩ p)) at FR1
              have HL1 := fun W => isletter_any r W
              have HD1 := fun W => isdigit_any r W
              have e1 : ltrI r = false := by simp [ltrI]; omega
              have e2 : dgtI r = false := by simp [dgtI]; omega
              have h95b : ((r : Int) == 95) = false := by rw [beq_eq_false_iff_ne]; omega
              simp only [e1] at HL1
              simp only [e2] at HD1
              replace HL1 := Lib.hid HL1
              replace HD1 := Lib.hid HD1
              clear e1 e2 hr hhi
              by_cases hk0 : k = 0
              · subst hk0
                clear HD1
                go_wp2_with fail
                refine (HL1.out _).mono ?_
                rintro e w1 ⟨rfl, rfl⟩
                clear HL1
                go_wp2
                go_ret
                exact ⟨ret_boolE HX.out.symm, FR1.out⟩
              · have hkb : ((k : Int) == 0) = false := by rw [beq_eq_false_iff_ne]; omega
                clear hk0
                go_wp2_with fail
                refine (HL1.out _).mono ?_
                rintro e w1 ⟨rfl, rfl⟩
                clear HL1
                go_wp2_with fail
                refine (HD1.out _).mono ?_
                rintro e w1 ⟨rfl, rfl⟩
                clear HD1
                go_wp2
                go_ret
                exact ⟨ret_boolE HX.out.symm, FR1.out⟩
          · have hn := fun ty => run_next_end (P := Try.prog) w ⟨l.toArray⟩ k ty (by rw [hs]; exact hlt)
            have H := Lib.hid (name_yes HL.out (by omega) HW.out (fun j hj => hok.out j hj (by omega)))
            clear hok
            go_wp2
            go_ret
            exact ⟨ret_boolE H.out.symm, (Fr.refl _ _).alloc _⟩
      · simp only [hw] at HI
        have H := Lib.hid (name_word (of_decide_eq_true hw))
        clear hw
        replace HI := Lib.hid HI
        go_enter Try.func60, Try.ntmps60
        go_wp2_with fail
        refine (HI.out _).mono ?_
        rintro e w1 ⟨rfl, rfl⟩
        go_wp2
        go_ret
        exact ⟨ret_boolE H.out.symm, Fr.refl _ _⟩
end Go.Proofs.Ytnbhgkolfapblaa


namespace Go.Proofs.Ytnbhgkolfapblaa
set_option linter.unusedVariables false
set_option linter.unusedSimpArgs false
set_option maxRecDepth 100000
open Go.RowKit

theorem ask_no {h : Ph} (hn : nameB h.col = false) : askOk h = false := by unfold askOk; rw [hn]; rfl
theorem ask_cmp {h : Ph} (hn : nameB h.col = true) (h2 : h.op = 2) : askOk h = (decide (1 ≤ h.cmp ∧ h.cmp ≤ 6) && mayC h.kind false h.val && peq h ⟨h.op, h.col, h.cmp, h.val, h.kind, []⟩) := by
  unfold askOk; rw [hn, if_pos h2]; rfl
theorem ask_like {h : Ph} (hn : nameB h.col = true) (h2 : h.op = 4) : askOk h = (decide (h.pat.length ≤ 40) && peq h ⟨h.op, h.col, 0, zCl, 0, h.pat⟩) := by
  unfold askOk; rw [hn, if_neg (by omega), if_pos h2]; rfl
theorem ask_nul {h : Ph} (hn : nameB h.col = true) (h2 : ¬ h.op = 2) (h4 : ¬ h.op = 4) : askOk h = peq h ⟨h.op, h.col, 0, zCl, 0, []⟩ := by
  unfold askOk; rw [hn, if_neg h2, if_neg h4]; rfl

theorem iscmp_any (n : Int) (w : World) : Calls Try.prog 69 #[.int .i64 n] w fun e w' => e = .returned (.bool (decide (1 ≤ n ∧ n ≤ 6))) ∧ Fr Non w w' := by
  by_cases h : 1 ≤ n
  · go_enter Try.func69, Try.ntmps69
    go_wp2
    go_ret
    exact ⟨ret_boolE (by simp [h]), Fr.refl _ _⟩
  · go_enter Try.func69, Try.ntmps69
    go_wp2
    go_ret
    exact ⟨ret_boolE (by simp; omega), Fr.refl _ _⟩

set_option maxHeartbeats 2000000 in
theorem mayask_any (h : Ph) (s : Kv) (w : World) (hl : h.col.length ≤ 1000000000) : Calls Try.prog 57 #[pdV h s] w fun e w' => e = .returned (.bool (askOk h)) ∧ Fr Non w w' := by
  have N1 := fun W => sname_any h.col W hl
  have B0 := Lib.hid (pd_new w _ h s rfl)
  have F0 : Hid (Fr Non w _) := Lib.hid ((Fr.refl Non w).alloc (.cells (pdC h s) 27))
  have H1 := Lib.hid (fun hn => ask_no (h := h) hn)
  have H2 := Lib.hid (fun hn h2 => ask_cmp (h := h) hn h2)
  have H3 := Lib.hid (fun hn h2 => ask_like (h := h) hn h2)
  have H4 := Lib.hid (fun hn h2 h4 => ask_nul (h := h) hn h2 h4)
  have A2 := Lib.hid (fun W => alike_any h ⟨h.op, h.col, h.cmp, h.val, h.kind, []⟩ s noKv W)
  have A3 := Lib.hid (fun W => alike_any h ⟨h.op, h.col, 0, zCl, 0, h.pat⟩ s noKv W)
  have A4 := Lib.hid (fun W => alike_any h ⟨h.op, h.col, 0, zCl, 0, []⟩ s noKv W)
  have C1 := Lib.hid (fun W => iscmp_any h.cmp W)
  have C2 := Lib.hid (fun W => may_any h.kind false h.val W)
  obtain ⟨op, col, cmp, ⟨vn, vi, vt⟩, kind, pat⟩ := h
  obtain ⟨sA, sn, sc⟩ := s
  have hs := slen pat
  dsimp only at *
  unfold pdV pdC kidV at *
  unfold noKv at A2 A3 A4
  unfold zCl at A3 A4
  unfold clV clC at C2
  dsimp only at *
  cases hn : nameB col
  · have HE := Lib.hid (H1.out hn)
    simp only [hn] at N1
    replace N1 := Lib.hid N1
    clear H1 H2 H3 H4 A2 A3 A4 C1 C2 hn
    go_enter Try.func57, Try.ntmps57
    go_wp2_with fail
    refine (N1.out _).mono ?_
    rintro e w1 ⟨rfl, f1⟩
    go_wp2
    go_ret
    exact ⟨ret_boolE HE.out.symm, F0.out.trans f1⟩
  · simp only [hn] at N1
    replace N1 := Lib.hid N1
    by_cases h2 : op = 2
    · have HE := Lib.hid (H2.out hn h2)
      clear H1 H2 H3 H4 A3 A4 hn
      subst h2
      go_enter Try.func57, Try.ntmps57
      go_wp2_with fail
      refine (N1.out _).mono ?_
      rintro e w1 ⟨rfl, f1⟩
      obtain ⟨g0, g1, g2, g3, g4, g5, g6, g7, g8⟩ := pdB_cells (B0.out.fr f1 (fun e => e))
      have B1 := Lib.hid (B0.out.fr f1 (fun e => e))
      dsimp only at g0 g1 g2 g3 g4 g5 g6 g7 g8
      generalize hc : decide (1 ≤ cmp ∧ cmp ≤ 6) = b1 at *
      clear hc
      have F1 := Lib.hid (F0.out.trans f1)
      clear f1 F0 B0
      go_wp2_with fail
      refine (C1.out _).mono ?_
      rintro e w2 ⟨rfl, f2⟩
      clear g0 g1 g2 g3 g4 g5 g6 g7 g8
      obtain ⟨g0, g1, g2, g3, g4, g5, g6, g7, g8⟩ := pdB_cells (B1.out.fr f2 (fun e => e))
      have B2 := Lib.hid (B1.out.fr f2 (fun e => e))
      have F2 := Lib.hid (F1.out.trans f2)
      dsimp only at g0 g1 g2 g3 g4 g5 g6 g7 g8
      clear f2 F1 B1
      cases b1
      · go_wp2
        go_ret
        exact ⟨ret_boolE (by rw [HE.out]; rfl), F2.out⟩
      · generalize hc : mayC kind false ⟨vn, vi, vt⟩ = b2 at *
        clear hc
        go_wp2_with fail
        refine (C2.out _).mono ?_
        rintro e w3 ⟨rfl, f3⟩
        clear g0 g1 g2 g3 g4 g5 g6 g7 g8
        obtain ⟨g0, g1, g2, g3, g4, g5, g6, g7, g8⟩ := pdB_cells (B2.out.fr f3 (fun e => e))
        have F3 := Lib.hid (F2.out.trans f3)
        dsimp only at g0 g1 g2 g3 g4 g5 g6 g7 g8
        clear f3 F2 B2
        cases b2
        · go_wp2
          go_ret
          exact ⟨ret_boolE (by rw [HE.out]; rfl), F3.out⟩
        · go_wp2_with fail
          refine (A2.out _).mono ?_
          rintro e w4 ⟨rfl, f4⟩
          go_wp2
          go_ret
          exact ⟨ret_boolE (by rw [HE.out]; rfl), F3.out.trans f4⟩
    · by_cases h4 : op = 4
      · have HE := Lib.hid (H3.out hn h4)
        clear H1 H2 H3 H4 A2 A4 hn C1 C2 h2
        subst h4
        go_enter Try.func57, Try.ntmps57
        go_wp2_with fail
        refine (N1.out _).mono ?_
        rintro e w1 ⟨rfl, f1⟩
        obtain ⟨g0, g1, g2, g3, g4, g5, g6, g7, g8⟩ := pdB_cells (B0.out.fr f1 (fun e => e))
        dsimp only at g0 g1 g2 g3 g4 g5 g6 g7 g8
        have F1 := Lib.hid (F0.out.trans f1)
        clear f1 F0 B0
        by_cases h40 : pat.length ≤ 40
        · go_wp2_with fail
          refine (A3.out _).mono ?_
          rintro e w4 ⟨rfl, f4⟩
          go_wp2
          go_ret
          exact ⟨ret_boolE (by rw [HE.out, decide_eq_true h40]; rfl), F1.out.trans f4⟩
        · go_wp2
          go_ret
          exact ⟨ret_boolE (by rw [HE.out, decide_eq_false h40]; simp), F1.out⟩
      · have HE := Lib.hid (H4.out hn h2 h4)
        clear H1 H2 H3 H4 A2 A3 hn C1 C2
        go_enter Try.func57, Try.ntmps57
        go_wp2_with fail
        refine (N1.out _).mono ?_
        rintro e w1 ⟨rfl, f1⟩
        obtain ⟨g0, g1, g2, g3, g4, g5, g6, g7, g8⟩ := pdB_cells (B0.out.fr f1 (fun e => e))
        dsimp only at g0 g1 g2 g3 g4 g5 g6 g7 g8
        have F1 := Lib.hid (F0.out.trans f1)
        clear f1 F0 B0
        go_wp2_with fail
        refine (A4.out _).mono ?_
        rintro e w4 ⟨rfl, f4⟩
        go_wp2
        go_ret
        exact ⟨ret_boolE (by rw [HE.out]; rfl), F1.out.trans f4⟩

/-! ### One of those within -/
theorem haskid1_any (h : Ph) (s : Kv) (op : Int) (g : Nat) (w : World) (hg : Blk w g 3 #[.int .i64 op]) :
    Calls Try.prog 71 #[pdV h s, .pointer (some ⟨g, 0, none⟩)] w fun e w' => e = .returned (.bool (h.op == op)) ∧ Fr Non w w' := by
  have F0 : Hid (Fr Non w _) := Lib.hid ((Fr.refl Non w).alloc (.cells (pdC h s) 27))
  have g0 := (hg.fr (F0.out) (fun e => e)).cell 0
  simp at g0
  obtain ⟨hop, col, cmp, ⟨vn, vi, vt⟩, kind, pat⟩ := h
  obtain ⟨sA, sn, sc⟩ := s
  unfold pdV pdC kidV at *
  dsimp only at *
  go_enter Try.func71, Try.ntmps71
  go_wp2
  go_ret
  exact ⟨rfl, F0.out⟩
end Go.Proofs.Ytnbhgkolfapblaa


namespace Go.Proofs.Ytnbhgkolfapblaa
set_option linter.unusedVariables false
set_option linter.unusedSimpArgs false
set_option maxRecDepth 100000
open Go.RowKit

theorem kidOp_more {op : Int} {ks : List Pd} {k : Nat} (h : k < ks.length) (h1 : (ks.take k).any (fun x => x.hd.op == op) = false) (h2 : (ks[k].hd.op == op) = false) : (ks.take (k + 1)).any (fun x => x.hd.op == op) = false := by
  rw [List.take_succ_eq_append_getElem h, List.any_append, h1]; simp [h2]
set_option maxHeartbeats 2000000 in
theorem pidx_any (s : Kv) (ks : List Pd) (op : Int) (g : Nat) (w : World) (hk : Kd w s ks) (hg : Blk w g 3 #[.int .i64 op]) (hl : ks.length ≤ 1000000000) :
    Calls Try.prog 81 #[kidV s, .func (.func 71) #[] #[.pointer (some ⟨g, 0, none⟩)]] w fun e w' => ∃ z : Int, e = .returned (.int .i64 z) ∧ decide (0 ≤ z) = kidOp op ks ∧ Fr Non w w' := by
  have hn := hk.len
  have HK := Lib.hid hk
  have HG := Lib.hid hg
  clear hk hg
  obtain ⟨A, n, c⟩ := s
  dsimp only at hn
  subst hn
  unfold kidV
  dsimp only
  go_enter Try.func81, Try.ntmps81
  go_wp2
  go_loopw [8] (fun i wr => ∃ (k : Nat), k ≤ ks.length ∧ i = .int .i64 k ∧ Hid ((ks.take k).any (fun x => x.hd.op == op) = false) ∧ Fr Non w wr) (fun i _ => ks.length - (intOf i).toNat)
  case atStart => exact ⟨0, Nat.zero_le _, rfl, Lib.hid rfl, Fr.refl _ _⟩
  case round =>
    obtain ⟨k, hk, rfl, hne, hfr⟩ := hrel
    by_cases hlt : k < ks.length
    · obtain ⟨a, t, hA, hc, _, _⟩ := (HK.out.non hfr).el k hlt
      dsimp only at hA
      subst hA
      obtain ⟨c0, c1, c2, c3, c4, c5, c6, c7, c8⟩ := hc
      have HY := Lib.hid (fun h => kidOp_more hlt hne.out h)
      have HX : Hid ((ks[k].hd.op == op) = true → kidOp op ks = true) := Lib.hid (fun h => List.any_eq_true.2 ⟨_, List.getElem_mem hlt, h⟩)
      have M := fun W h => haskid1_any ks[k].hd t op g W h
      have HB := Lib.hid (HG.out.fr hfr (fun e => e))
      clear hne
      generalize ks[k].hd = x at *
      obtain ⟨xo, xc, xm, ⟨xn, xi, xt⟩, xk, xp⟩ := x
      obtain ⟨tA, tn, tc⟩ := t
      unfold pdV pdC kidV at M
      dsimp only at c0 c1 c2 c3 c4 c5 c6 c7 c8 HY HX M
      have HF := Lib.hid hfr
      clear hfr
      cases hx : (xo == op)
      · have HE := Lib.hid (HY.out hx)
        simp only [hx] at M
        replace M := Lib.hid M
        clear HX HY hx
        go_wp2_with fail
        refine (M.out _ HB.out).mono ?_
        rintro e w2 ⟨rfl, f2⟩
        go_wp2
        go_roundw
        case rel => exact ⟨k + 1, by omega, by go_num, HE, HF.out.trans f2⟩
        case measure => simp [intOf]; omega
      · have HE := Lib.hid (HX.out hx)
        simp only [hx] at M
        replace M := Lib.hid M
        clear HX HY hx
        go_wp2_with fail
        refine (M.out _ HB.out).mono ?_
        rintro e w2 ⟨rfl, f2⟩
        go_wp2
        go_ret
        exact ⟨_, rfl, by rw [HE.out]; exact decide_eq_true (by omega), HF.out.trans f2⟩
    · have HE : Hid (kidOp op ks = false) := Lib.hid (by have := hne.out; rwa [List.take_of_length_le (by omega)] at this)
      clear hne
      go_wp2
      go_ret
      exact ⟨_, rfl, by rw [HE.out]; rfl, hfr⟩
theorem pcont_any (s : Kv) (ks : List Pd) (op : Int) (g : Nat) (w : World) (hk : Kd w s ks) (hg : Blk w g 3 #[.int .i64 op]) (hl : ks.length ≤ 1000000000) :
    Calls Try.prog 70 #[kidV s, .func (.func 71) #[] #[.pointer (some ⟨g, 0, none⟩)]] w fun e w' => e = .returned (.bool (kidOp op ks)) ∧ Fr Non w w' := by
  have h0 := Lib.hid (pidx_any s ks op g w hk hg hl)
  clear hk hg
  obtain ⟨A, n, c⟩ := s
  unfold kidV at *
  dsimp only at *
  go_enter Try.func70, Try.ntmps70
  go_wp2_with fail
  refine h0.out.mono ?_
  rintro e w1 ⟨z, rfl, hz, f1⟩
  go_wp2
  go_ret
  exact ⟨rfl, f1⟩
theorem haskid_any (h : Ph) (s : Kv) (ks : List Pd) (op : Int) (w : World) (hk : Kd w s ks) (hl : ks.length ≤ 1000000000) :
    Calls Try.prog 58 #[pdV h s, .int .i64 op] w fun e w' => e = .returned (.bool (kidOp op ks)) ∧ Fr Non w w' := by
  have F0 : Hid (Fr Non w ((w.alloc (.cells (pdC h s) 27)).alloc (.cells #[.int .i64 op] 3))) := Lib.hid (((Fr.refl Non w).alloc _).alloc _)
  have e1 : (w.alloc (.cells (pdC h s) 27)).heap.size = w.heap.size + 1 := by simp
  have b2 := Blk.new (w.alloc (.cells (pdC h s) 27)) 3 #[.int .i64 op]
  rw [e1] at b2
  have C1 := Lib.hid (pcont_any s ks op _ _ (hk.non F0.out) b2 hl)
  have hmf : ∀ (fn : Fn) (first cap : Array Value) (w : World), (Instr.makeFunc fn first cap).run Try.prog w = .ok (.func fn first cap) w := fun _ _ _ _ => rfl
  clear hk b2 e1
  obtain ⟨ho, hc, hm, ⟨hn, hi, ht⟩, hk', hp⟩ := h
  obtain ⟨A, n, c⟩ := s
  unfold pdV pdC kidV at *
  dsimp only at *
  go_enter Try.func58, Try.ntmps58
  go_wp2_with fail
  refine C1.out.mono ?_
  rintro e w1 ⟨rfl, f1⟩
  go_wp2
  go_ret
  exact ⟨rfl, F0.out.trans f1⟩

/-! ### One alone -/
theorem hd_one {h : Ph} {ks : List Pd} (e : h.op = 1) : hdOk h ks = (decide (ks.length = 0) && peq h ⟨h.op, [], 0, zCl, 0, []⟩) := by unfold hdOk; rw [if_pos e]; rfl
theorem hd_ask {h : Ph} {ks : List Pd} (e : h.op = 2 ∨ h.op = 3 ∨ h.op = 4) : hdOk h ks = (decide (ks.length = 0) && askOk h) := by unfold hdOk; rw [if_neg (by omega), if_pos e]
theorem hd_not {h : Ph} {ks : List Pd} (e : h.op = 5) : hdOk h ks = (decide (ks.length = 1) && peq h ⟨h.op, [], 0, zCl, 0, []⟩) := by unfold hdOk; rw [if_neg (by omega), if_neg (by omega), if_pos e]; rfl
theorem hd_two {h : Ph} {ks : List Pd} (e : h.op = 6 ∨ h.op = 7) : hdOk h ks = (decide (1 < ks.length) && peq h ⟨h.op, [], 0, zCl, 0, []⟩ && !kidOp h.op ks) := by unfold hdOk; rw [if_neg (by omega), if_neg (by omega), if_neg (by omega), if_pos e]; rfl
theorem hd_none {h : Ph} {ks : List Pd} (h1 : ¬ h.op = 1) (h2 : ¬ (h.op = 2 ∨ h.op = 3 ∨ h.op = 4)) (h3 : ¬ h.op = 5) (h4 : ¬ (h.op = 6 ∨ h.op = 7)) : hdOk h ks = false := by unfold hdOk; rw [if_neg h1, if_neg h2, if_neg h3, if_neg h4]

set_option maxHeartbeats 4000000 in
theorem alone_any (h : Ph) (s : Kv) (ks : List Pd) (w : World) (hk : Kd w s ks) (hl : ks.length ≤ 1000000000) (hc : h.col.length ≤ 1000000000) :
    Calls Try.prog 38 #[pdV h s] w fun e w' => e = .returned (.bool (hdOk h ks)) ∧ Fr Non w w' := by
  have hn := hk.len
  have B0 := Lib.hid (pd_new w _ h s rfl)
  have F0 : Hid (Fr Non w _) := Lib.hid ((Fr.refl Non w).alloc (.cells (pdC h s) 27))
  have HK := Lib.hid (hk.non F0.out)
  have A1 := Lib.hid (fun W => alike_any h ⟨h.op, [], 0, zCl, 0, []⟩ s noKv W)
  have A2 := Lib.hid (fun W => mayask_any h s W hc)
  have A3 := Lib.hid (fun W hk => haskid_any h s ks h.op W hk hl)
  have H1 := Lib.hid (fun e => hd_one (h := h) (ks := ks) e)
  have H2 := Lib.hid (fun e => hd_ask (h := h) (ks := ks) e)
  have H3 := Lib.hid (fun e => hd_not (h := h) (ks := ks) e)
  have H4 := Lib.hid (fun e => hd_two (h := h) (ks := ks) e)
  have H5 := Lib.hid (fun a b c d => hd_none (h := h) (ks := ks) a b c d)
  clear hk
  obtain ⟨op, col, cmp, ⟨vn, vi, vt⟩, kind, pat⟩ := h
  obtain ⟨sA, n, sc⟩ := s
  dsimp only at hn
  have HL := Lib.hid hn
  clear hn
  unfold pdV pdC kidV at *
  unfold noKv at A1
  unfold zCl at A1 H1 H3 H4
  dsimp only at *
  by_cases h1 : op = 1
  · subst h1
    have HE := Lib.hid (H1.out rfl)
    clear H1 H2 H3 H4 H5 A2 A3 HK
    by_cases h0 : n = 0
    · subst h0
      have HE2 := Lib.hid (decide_eq_true HL.out.symm)
      go_enter Try.func38, Try.ntmps38
      go_wp2_with fail
      refine (A1.out _).mono ?_
      rintro e w1 ⟨rfl, f1⟩
      go_wp2
      go_ret
      exact ⟨ret_boolE (by rw [HE.out, HE2.out]; rfl), F0.out.trans f1⟩
    · have hb : ((n : Int) == 0) = false := by rw [beq_eq_false_iff_ne]; omega
      have HE2 : Hid (decide (ks.length = 0) = false) := Lib.hid (decide_eq_false (fun e => h0 (HL.out.trans e)))
      clear h0
      go_enter Try.func38, Try.ntmps38
      go_wp2
      go_ret
      exact ⟨ret_boolE (by rw [HE.out, HE2.out]; rfl), F0.out⟩
  · by_cases h2 : op = 2
    · subst h2
      have HE := Lib.hid (H2.out (by omega))
      clear H1 H2 H3 H4 H5 A1 A3 HK
      by_cases h0 : n = 0
      · subst h0
        have HE2 := Lib.hid (decide_eq_true HL.out.symm)
        go_enter Try.func38, Try.ntmps38
        go_wp2_with fail
        refine (A2.out _).mono ?_
        rintro e w1 ⟨rfl, f1⟩
        go_wp2
        go_ret
        exact ⟨ret_boolE (by rw [HE.out, HE2.out]; rfl), F0.out.trans f1⟩
      · have hb : ((n : Int) == 0) = false := by rw [beq_eq_false_iff_ne]; omega
        have HE2 : Hid (decide (ks.length = 0) = false) := Lib.hid (decide_eq_false (fun e => h0 (HL.out.trans e)))
        clear h0
        go_enter Try.func38, Try.ntmps38
        go_wp2
        go_ret
        exact ⟨ret_boolE (by rw [HE.out, HE2.out]; rfl), F0.out⟩
    · by_cases h3 : op = 3
      · subst h3
        have HE := Lib.hid (H2.out (by omega))
        clear H1 H2 H3 H4 H5 A1 A3 HK
        by_cases h0 : n = 0
        · subst h0
          have HE2 := Lib.hid (decide_eq_true HL.out.symm)
          go_enter Try.func38, Try.ntmps38
          go_wp2_with fail
          refine (A2.out _).mono ?_
          rintro e w1 ⟨rfl, f1⟩
          go_wp2
          go_ret
          exact ⟨ret_boolE (by rw [HE.out, HE2.out]; rfl), F0.out.trans f1⟩
        · have hb : ((n : Int) == 0) = false := by rw [beq_eq_false_iff_ne]; omega
          have HE2 : Hid (decide (ks.length = 0) = false) := Lib.hid (decide_eq_false (fun e => h0 (HL.out.trans e)))
          clear h0
          go_enter Try.func38, Try.ntmps38
          go_wp2
          go_ret
          exact ⟨ret_boolE (by rw [HE.out, HE2.out]; rfl), F0.out⟩
      · by_cases h4 : op = 4
        · subst h4
          have HE := Lib.hid (H2.out (by omega))
          clear H1 H2 H3 H4 H5 A1 A3 HK
          by_cases h0 : n = 0
          · subst h0
            have HE2 := Lib.hid (decide_eq_true HL.out.symm)
            go_enter Try.func38, Try.ntmps38
            go_wp2_with fail
            refine (A2.out _).mono ?_
            rintro e w1 ⟨rfl, f1⟩
            go_wp2
            go_ret
            exact ⟨ret_boolE (by rw [HE.out, HE2.out]; rfl), F0.out.trans f1⟩
          · have hb : ((n : Int) == 0) = false := by rw [beq_eq_false_iff_ne]; omega
            have HE2 : Hid (decide (ks.length = 0) = false) := Lib.hid (decide_eq_false (fun e => h0 (HL.out.trans e)))
            clear h0
            go_enter Try.func38, Try.ntmps38
            go_wp2
            go_ret
            exact ⟨ret_boolE (by rw [HE.out, HE2.out]; rfl), F0.out⟩
        · by_cases h5 : op = 5
          · subst h5
            have HE := Lib.hid (H3.out rfl)
            clear H1 H2 H3 H4 H5 A2 A3 HK
            by_cases h0 : n = 1
            · subst h0
              have HE2 := Lib.hid (decide_eq_true HL.out.symm)
              go_enter Try.func38, Try.ntmps38
              go_wp2_with fail
              refine (A1.out _).mono ?_
              rintro e w1 ⟨rfl, f1⟩
              go_wp2
              go_ret
              exact ⟨ret_boolE (by rw [HE.out, HE2.out]; rfl), F0.out.trans f1⟩
            · have hb : ((n : Int) == 1) = false := by rw [beq_eq_false_iff_ne]; omega
              have HE2 : Hid (decide (ks.length = 1) = false) := Lib.hid (decide_eq_false (fun e => h0 (HL.out.trans e)))
              clear h0
              go_enter Try.func38, Try.ntmps38
              go_wp2
              go_ret
              exact ⟨ret_boolE (by rw [HE.out, HE2.out]; rfl), F0.out⟩
          · by_cases h6 : op = 6
            · subst h6
              have HE := Lib.hid (H4.out (by omega))
              clear H1 H2 H3 H4 H5 A2
              by_cases h0 : 1 < n
              · have HE2 : Hid (decide (1 < ks.length) = true) := Lib.hid (decide_eq_true (by have := HL.out; omega))
                generalize hq : peq ⟨6, col, cmp, ⟨vn, vi, vt⟩, kind, pat⟩ _ = q at *
                clear hq
                go_enter Try.func38, Try.ntmps38
                go_wp2_with fail
                refine (A1.out _).mono ?_
                rintro e w1 ⟨rfl, f1⟩
                obtain ⟨g0, g1, g2, g3, g4, g5, g6, g7, g8⟩ := pdB_cells (B0.out.fr f1 (fun e => e))
                dsimp only at g0 g1 g2 g3 g4 g5 g6 g7 g8
                have HK1 := Lib.hid (HK.out.non f1)
                have F1 := Lib.hid (F0.out.trans f1)
                clear f1 F0 B0
                cases q
                · go_wp2
                  go_ret
                  exact ⟨ret_boolE (by rw [HE.out, HE2.out]; rfl), F1.out⟩
                · go_wp2_with fail
                  refine (A3.out _ HK1.out).mono ?_
                  rintro e w2 ⟨rfl, f2⟩
                  go_wp2
                  go_ret
                  exact ⟨ret_boolE (by rw [HE.out, HE2.out]; rfl), F1.out.trans f2⟩
              · have HE2 : Hid (decide (1 < ks.length) = false) := Lib.hid (decide_eq_false (by have := HL.out; omega))
                clear A1 A3
                go_enter Try.func38, Try.ntmps38
                go_wp2
                go_ret
                exact ⟨ret_boolE (by rw [HE.out, HE2.out]; rfl), F0.out⟩
            · by_cases h7 : op = 7
              · subst h7
                have HE := Lib.hid (H4.out (by omega))
                clear H1 H2 H3 H4 H5 A2
                by_cases h0 : 1 < n
                · have HE2 : Hid (decide (1 < ks.length) = true) := Lib.hid (decide_eq_true (by have := HL.out; omega))
                  generalize hq : peq ⟨7, col, cmp, ⟨vn, vi, vt⟩, kind, pat⟩ _ = q at *
                  clear hq
                  go_enter Try.func38, Try.ntmps38
                  go_wp2_with fail
                  refine (A1.out _).mono ?_
                  rintro e w1 ⟨rfl, f1⟩
                  obtain ⟨g0, g1, g2, g3, g4, g5, g6, g7, g8⟩ := pdB_cells (B0.out.fr f1 (fun e => e))
                  dsimp only at g0 g1 g2 g3 g4 g5 g6 g7 g8
                  have HK1 := Lib.hid (HK.out.non f1)
                  have F1 := Lib.hid (F0.out.trans f1)
                  clear f1 F0 B0
                  cases q
                  · go_wp2
                    go_ret
                    exact ⟨ret_boolE (by rw [HE.out, HE2.out]; rfl), F1.out⟩
                  · go_wp2_with fail
                    refine (A3.out _ HK1.out).mono ?_
                    rintro e w2 ⟨rfl, f2⟩
                    go_wp2
                    go_ret
                    exact ⟨ret_boolE (by rw [HE.out, HE2.out]; rfl), F1.out.trans f2⟩
                · have HE2 : Hid (decide (1 < ks.length) = false) := Lib.hid (decide_eq_false (by have := HL.out; omega))
                  clear A1 A3
                  go_enter Try.func38, Try.ntmps38
                  go_wp2
                  go_ret
                  exact ⟨ret_boolE (by rw [HE.out, HE2.out]; rfl), F0.out⟩
              · have HE := Lib.hid (H5.out h1 (by omega) h5 (by omega))
                clear H1 H2 H3 H4 H5 A1 A2 A3 HK B0
                go_enter Try.func38, Try.ntmps38
                go_wp2
                go_ret
                exact ⟨ret_boolE HE.out.symm, F0.out⟩
end Go.Proofs.Ytnbhgkolfapblaa


namespace Go.Proofs.Ytnbhgkolfapblaa
set_option linter.unusedVariables false
set_option linter.unusedSimpArgs false
set_option maxRecDepth 100000
open Go.RowKit

theorem allL_at {σ : Type} {f : σ → Pd → Nat → Option σ} {ks : List Pd} {k : Nat} (h : k < ks.length) (s : σ) (d : Nat) : allL f (ks.drop k) s d = (allP f ks[k] s d).bind fun s' => allL f (ks.drop (k + 1)) s' d := by
  rw [List.drop_eq_getElem_cons h, allL]
theorem allL_end {σ : Type} {f : σ → Pd → Nat → Option σ} {ks : List Pd} {k : Nat} (h : ks.length ≤ k) (s : σ) (d : Nat) : allL f (ks.drop k) s d = some s := by
  rw [List.drop_eq_nil_of_le h, allL]

/-- how an asking ends: by what f says; of the old blocks those of X may have changed -/
def AskEnd {σ : Type} (R : World → σ → (Nat → Prop) → Prop) (r : Option σ) (X : Nat → Prop) (W : World) (e : Ending) (w' : World) : Prop :=
  e = .returned (.bool r.isSome) ∧ Fr X W w' ∧ ∀ s', r = some s' → ∃ X', R w' s' X' ∧ ∀ q, X' q → X q ∨ W.heap.size ≤ q
/-- what the function asked does -/
def Asks {σ : Type} (R : World → σ → (Nat → Prop) → Prop) (f : σ → Pd → Nat → Option σ) (F g : Nat) (w0 : World) : Prop :=
  ∀ (W : World) (s : σ) (X : Nat → Prop) (p : Pd) (t : Kv) (d : Nat) (dz : Int), dz = d → Fr Non w0 W → R W s X → Kd w0 t p.kids → I64b p.hd.val.num → bigP p = true → d + depP p ≤ 1000 →
    Calls Try.prog F #[pdV p.hd t, .int .i64 dz, .pointer (some ⟨g, 0, none⟩)] W (AskEnd R (f s p d) X W)
set_option maxHeartbeats 4000000 in
theorem all_any {σ : Type} (R : World → σ → (Nat → Prop) → Prop) (f : σ → Pd → Nat → Option σ) (F g : Nat) (w0 : World)
    (hlt : ∀ W s X, R W s X → ∀ q, X q → w0.heap.size ≤ q ∧ q < W.heap.size) (hR : ∀ W W' s X, R W s X → Fr Non W W' → R W' s X) (hcf : ∀ args W, (callFunc F args).run Try.prog W = .ok (.enter F args) W) (hask : Asks R f F g w0) (p : Pd) :
    ∀ (W : World) (s : σ) (X : Nat → Prop) (t : Kv) (d : Nat) (dz : Int), dz = d → Fr Non w0 W → R W s X → Kd w0 t p.kids → I64b p.hd.val.num → bigP p = true → d + depP p ≤ 1000 →
    Calls Try.prog 24 #[pdV p.hd t, .int .i64 dz, .func (.func F) #[] #[.pointer (some ⟨g, 0, none⟩)]] W (AskEnd R (allP f p s d) X W) := by
  induction p using Pd.ind with
  | h hd ks ih =>
    intro W s X t d dz hdz hF hr hk hb hlen hdep
    subst hdz
    have hn : t.n = ks.length := hk.len
    have hls := (bigP_mk hlen).1
    have hdd : d ≤ 999 := by have := dep_pos (.mk hd ks); omega
    have F1 : Fr Non W (W.alloc (.cells (pdC hd t) 27)) := (Fr.refl Non W).alloc _
    have hr1 := hR _ _ _ _ hr F1
    have A1 := hask _ s X (.mk hd ks) t d (d : Int) rfl (hF.trans F1) hr1 hk hb hlen hdep
    have hXb : ¬ X W.heap.size := fun h => by have := (hlt _ _ _ hr _ h).2; omega
    have B0 := Lib.hid (pd_new W _ hd t rfl)
    have HS : Hid (allP f (.mk hd ks) s d = (f s (.mk hd ks) d).bind fun s' => allL f ks s' (d + 1)) := Lib.hid (by rw [allP])
    generalize f s (.mk hd ks) d = r at *
    generalize allP f (.mk hd ks) s d = r0 at *
    have IH : Hid (∀ k (h : k < ks.length) (W' : World) (s' : σ) (X' : Nat → Prop) (t' : Kv), Fr Non w0 W' → R W' s' X' → Kd w0 t' ks[k].kids → I64b ks[k].hd.val.num →
        Calls Try.prog 24 #[pdV ks[k].hd t', .int .i64 ((d : Int) + 1), .func (.func F) #[] #[.pointer (some ⟨g, 0, none⟩)]] W' (AskEnd R (allP f ks[k] s' (d + 1)) X' W')) :=
      Lib.hid (fun k h W' s' X' t' a b c e => ih _ (List.getElem_mem h) W' s' X' t' (d + 1) _ (by simp) a b c e ((bigP_mk hlen).2.2.2.2 _ (List.getElem_mem h)) (by
        rw [depP] at hdep
        have := depL_mem (List.getElem_mem h)
        omega))
    have HKd : Hid (Kd w0 t ks) := Lib.hid hk
    have HF := Lib.hid hF
    have HLT := Lib.hid hlt
    have HR := Lib.hid hR
    have HR0 := Lib.hid hr
    have HF1 := Lib.hid F1
    clear ih hk hb hlen hdep hask hlt hR hr hr1 hF F1
    obtain ⟨ho, hc, hm, ⟨vn, vi, vt⟩, hkd, hp⟩ := hd
    obtain ⟨A, n, c⟩ := t
    dsimp only at hn
    subst hn
    unfold pdV pdC kidV at A1 ⊢
    dsimp only [Pd.hd, Pd.kids] at A1 ⊢
    have A1 := Lib.hid A1
    go_enter Try.func24, Try.ntmps24
    go_wp2_with fail
    refine A1.out.mono ?_
    rintro e w1 ⟨rfl, f1, hs1⟩
    have HS1 := Lib.hid hs1
    have g8 := (B0.out.fr f1 hXb).cell 8
    simp [pdC, kidV] at g8
    have FX : Hid (Fr X W w1) := Lib.hid (HF1.out.any.trans f1)
    have hsz : W.heap.size ≤ w1.heap.size := FX.out.size
    clear hs1 f1 A1 hXb
    cases r with
    | none =>
      have HE : Hid (r0 = none) := Lib.hid (by rw [HS.out]; rfl)
      go_wp2
      go_ret
      exact ⟨by rw [HE.out]; rfl, FX.out, fun s' h => by rw [HE.out] at h; cases h⟩
    | some s1 =>
      have HE : Hid (r0 = allL f ks s1 (d + 1)) := Lib.hid (by rw [HS.out]; rfl)
      clear HS
      obtain ⟨X1, hr1, hx1⟩ := HS1.out s1 rfl
      have hx2 : ∀ q, X1 q → X q ∨ W.heap.size ≤ q := fun q hq => (hx1 q hq).imp id (fun h => Nat.le_trans HF1.out.size h)
      clear hx1 HS1
      have HR1 := Lib.hid hr1
      have HX2 := Lib.hid hx2
      clear hr1 hx2
      go_wp2
      go_loopw [17] (fun i wr => ∃ (k : Nat) (sk : σ) (Xk : Nat → Prop), k ≤ ks.length ∧ i = .int .i64 k ∧ Hid (r0 = allL f (ks.drop k) sk (d + 1)) ∧ Hid (R wr sk Xk) ∧ Hid (Fr X W wr) ∧ Hid (∀ q, Xk q → X q ∨ W.heap.size ≤ q)) (fun i _ => ks.length - (intOf i).toNat)
      case atStart => exact ⟨0, s1, X1, Nat.zero_le _, rfl, HE, HR1, FX, HX2⟩
      case round =>
        clear HE HR1 FX HX2 g8 hsz
        obtain ⟨k, sk, Xk, hk, rfl, HE, HR1, FX, HX2⟩ := hrel
        have hFw : Hid (Fr Non w0 wr) := Lib.hid (HF.out.join FX.out (fun q hq h => absurd (HLT.out _ _ _ HR0.out q h).1 (by omega)))
        by_cases hlt : k < ks.length
        · obtain ⟨a, t, hA, hc2, hkk, hbb⟩ := HKd.out.el k hlt
          have hc3 : PCells wr (a.add (k * 9)) ks[k].hd t := by
            obtain ⟨a', t', hA', hc', _, _⟩ := (HKd.out.non hFw.out).el k hlt
            dsimp only at hA hA'
            obtain rfl := Option.some.inj (hA.symm.trans hA')
            have e : t' = t := by
              have x1 := hc'.2.2.2.2.2.2.2.2
              have x2 := hc2.2.2.2.2.2.2.2.2
              have hbl : (a.add (k * 9)).block < w0.heap.size := World.block_lt_of_cell? w0 _ hc2.1
              have x3 := hFw.out.cell (p := { block := (a.add (k * 9)).block, off := (a.add (k * 9)).off + 8 }) hbl (fun e => e)
              rw [x3, x2] at x1
              simp only [Option.some.injEq, Value.slice.injEq] at x1
              obtain ⟨y1, y2, y3⟩ := x1
              cases t; cases t'; simp_all
            rw [e] at hc'; exact hc'
          clear hc2
          dsimp only at hA
          subst hA
          obtain ⟨c0, c1, c2, c3, c4, c5, c6, c7, c8⟩ := hc3
          have HC := Lib.hid (fun W' s' X' a b => IH.out k hlt W' s' X' t a b hkk hbb)
          have HY := Lib.hid (HE.out.trans (allL_at hlt sk (d + 1)))
          clear hkk hbb HE
          generalize allP f ks[k] = ff at *
          generalize ks[k].hd = x at *
          obtain ⟨xo, xc, xm, ⟨xn, xi, xt⟩, xk, xp⟩ := x
          obtain ⟨tA, tn, tc⟩ := t
          dsimp only at c0 c1 c2 c3 c4 c5 c6 c7 c8
          have G1 := Lib.hid ((Fr.refl Non wr).alloc (.cells #[.int .i64 xo, .string ⟨xc.toArray⟩, .int .i64 xm, .bool xn, .int .i64 xi, .string ⟨xt.toArray⟩, .int .i64 xk, .string ⟨xp.toArray⟩, .slice tA tn tc] 27))
          have HC2 := Lib.hid (HC.out _ sk Xk (hFw.out.trans G1.out) (HR.out _ _ _ _ HR1.out G1.out))
          have hXl := HLT.out _ _ _ HR1.out
          have HXl := Lib.hid hXl
          clear HC hXl
          unfold pdV pdC kidV at HC2
          dsimp only at HC2
          generalize ff sk (d + 1) = rr at *
          go_wp2_with fail
          refine HC2.out.mono ?_
          rintro e w2 ⟨rfl, f2, hs2⟩
          have HS2 := Lib.hid hs2
          have FX2 : Hid (Fr X W w2) := Lib.hid (FX.out.join (G1.out.any.trans f2) (fun q hq h => by
            rcases HX2.out q h with h | h
            · exact h
            · omega))
          have hsz2 : W.heap.size ≤ wr.heap.size := FX.out.size
          clear hs2 f2 HC2
          cases rr with
          | none =>
            have HE : Hid (r0 = none) := Lib.hid HY.out
            clear HY HS2
            go_wp2
            go_ret
            exact ⟨by rw [HE.out]; rfl, FX2.out, fun s' h => by rw [HE.out] at h; cases h⟩
          | some s2 =>
            obtain ⟨X2, hr2, hx2⟩ := HS2.out s2 rfl
            have HE : Hid (r0 = allL f (ks.drop (k + 1)) s2 (d + 1)) := Lib.hid HY.out
            have HR2 := Lib.hid hr2
            have HX3 : Hid (∀ q, X2 q → X q ∨ W.heap.size ≤ q) := Lib.hid (fun q hq => by
              rcases hx2 q hq with h | h
              · exact HX2.out q h
              · refine .inr (Nat.le_trans hsz2 (Nat.le_trans G1.out.size h)))
            clear HY HS2 hr2 hx2
            go_wp2
            go_roundw
            case rel => exact ⟨k + 1, s2, X2, by omega, by go_num, HE, HR2, FX2, HX3⟩
            case measure => simp [intOf]; omega
        · have HE2 : Hid (r0 = some sk) := Lib.hid (HE.out.trans (allL_end (by omega) sk (d + 1)))
          clear HE
          go_wp2
          go_ret
          exact ⟨by rw [HE2.out]; rfl, FX.out, fun s' h => by
            rw [HE2.out] at h
            obtain rfl := Option.some.inj h
            exact ⟨Xk, HR1.out, HX2.out⟩⟩
end Go.Proofs.Ytnbhgkolfapblaa


namespace Go.Proofs.Ytnbhgkolfapblaa
set_option linter.unusedVariables false
set_option linter.unusedSimpArgs false
set_option maxRecDepth 100000
open Go.RowKit

/-- the count lies in block g -/
def RcM (w0 : World) (g : Nat) (W : World) (n : Nat) (X : Nat → Prop) : Prop := Blk W g 3 #[.int .i64 n] ∧ n ≤ 16 ∧ X = One g ∧ w0.heap.size ≤ g
theorem stepM_no {n : Nat} {p : Pd} {d : Nat} (h : ¬ (n + 1 ≤ 16 ∧ d ≤ 6)) : stepM n p d = none := by unfold stepM; rw [if_neg (fun e => h ⟨e.1, e.2.1⟩)]
theorem stepM_by {n : Nat} {p : Pd} {d : Nat} (h : n + 1 ≤ 16 ∧ d ≤ 6) : stepM n p d = bif hdOk p.hd p.kids then some (n + 1) else none := by
  unfold stepM
  cases hd : hdOk p.hd p.kids
  · rw [if_neg (by simp)]; rfl
  · rw [if_pos ⟨h.1, h.2, rfl⟩]; rfl
set_option maxHeartbeats 2000000 in
theorem may1_any (w0 : World) (g : Nat) : Asks (RcM w0 g) stepM 37 g w0 := by
  intro W n X p t d dz hdz hF hr hk hb hlen hdep
  subst hdz
  obtain ⟨h, ks⟩ := p
  obtain ⟨hB, hn16, rfl, hg0⟩ := hr
  dsimp only [Pd.hd, Pd.kids] at hk hb ⊢
  have hls := bigP_mk hlen
  have F0 : Fr Non W (W.alloc (.cells (pdC h t) 27)) := (Fr.refl Non W).alloc _
  have hB1 := hB.fr F0 (fun e => e)
  have hf0 := hB1.frozen 0
  have hc0 := hB1.cell 0
  have hB2 := (hB.set 0 (.int .i64 ((n : Int) + 1))).fr ((Fr.refl Non _).alloc (.cells (pdC h t) 27)) (fun e => e)
  have hc2 := hB2.cell 0
  have hgl := hB.lt
  have G2 : Fr (One g) W ((W.setCell ⟨g, 0, none⟩ (.int .i64 ((n : Int) + 1))).alloc (.cells (pdC h t) 27)) := ((Fr.refl (One g) W).set1 0 _).alloc _
  have P2 : PdB ((W.setCell ⟨g, 0, none⟩ (.int .i64 ((n : Int) + 1))).alloc (.cells (pdC h t) 27)) W.heap.size h t :=
    pd_new _ _ h t (by simp [World.setCell])
  obtain ⟨g0, g1, g2, g3, g4, g5, g6, g7, g8⟩ := pdB_cells P2
  have hkw : Kd ((W.setCell ⟨g, 0, none⟩ (.int .i64 ((n : Int) + 1))).alloc (.cells (pdC h t) 27)) t ks := hk.non (hF.join G2 (fun q hq e => by have : q = g := e; omega))
  have M := Lib.hid (alone_any h t ks _ hkw (by omega) (by omega))
  have HG := Lib.hid G2
  have HB2 := Lib.hid hB2
  have HN := Lib.hid (fun e => stepM_no (n := n) (p := .mk h ks) (d := d) e)
  have HY := Lib.hid (fun e => stepM_by (n := n) (p := .mk h ks) (d := d) e)
  simp at hc0 hc2
  clear hk hB hB1 hB2 P2 hkw F0 G2 hlen hdep hls hF
  obtain ⟨ho, hc, hm, ⟨vn, vi, vt⟩, hkd, hp⟩ := h
  obtain ⟨A, nn, c⟩ := t
  unfold pdV pdC kidV at *
  dsimp only at *
  by_cases h1 : n + 1 ≤ 16
  · by_cases h6 : d ≤ 6
    · have HE := Lib.hid (HY.out ⟨h1, h6⟩)
      clear HY HN
      generalize stepM n _ d = r at *
      dsimp only [Pd.hd, Pd.kids] at HE
      generalize hdOk _ ks = b at *
      go_enter Try.func37, Try.ntmps37
      go_wp2_with fail
      refine M.out.mono ?_
      rintro e w1 ⟨rfl, f1⟩
      go_wp2
      go_ret
      refine ⟨by rw [HE.out]; cases b <;> rfl, HG.out.then f1, fun s' hs => ?_⟩
      rw [HE.out] at hs
      cases b
      · cases hs
      · obtain rfl := Option.some.inj hs
        exact ⟨One g, ⟨HB2.out.fr f1 (fun e => e), h1, rfl, hg0⟩, fun q hq => .inl hq⟩
    · have HE := Lib.hid (HN.out (by omega))
      have hd1 : decide ((n : Int) + 1 ≤ 16) = true := decide_eq_true (by omega)
      have hd2 : decide ((d : Int) ≤ 6) = false := decide_eq_false (by omega)
      clear HY HN M
      generalize stepM n _ d = r at *
      go_enter Try.func37, Try.ntmps37
      go_wp2
      go_ret
      exact ⟨by rw [HE.out]; rfl, HG.out, fun s' hs => by rw [HE.out] at hs; cases hs⟩
  · have HE := Lib.hid (HN.out (by omega))
    have hd1 : decide ((n : Int) + 1 ≤ 16) = false := decide_eq_false (by omega)
    clear HY HN M
    generalize stepM n _ d = r at *
    go_enter Try.func37, Try.ntmps37
    go_wp2
    go_ret
    exact ⟨by rw [HE.out]; rfl, HG.out, fun s' hs => by rw [HE.out] at hs; cases hs⟩

set_option maxHeartbeats 2000000 in
theorem pmay_big (h : Ph) (t : Kv) (ks : List Pd) (w : World) (hk : Kd w t ks) (hb : I64b h.val.num) (hlen : bigP (.mk h ks) = true) (hdep : depP (.mk h ks) ≤ 100) :
    Calls Try.prog 22 #[pdV h t] w fun e w' => e = .returned (.bool (mayP (.mk h ks))) ∧ Fr Non w w' := by
  have F0 : Fr Non w (w.alloc (.cells (pdC h t) 27)) := (Fr.refl Non w).alloc _
  have F1 : Fr Non w ((w.alloc (.cells (pdC h t) 27)).alloc (.cells #[.int .i64 0] 3)) := F0.alloc _
  have e1 : (w.alloc (.cells (pdC h t) 27)).heap.size = w.heap.size + 1 := by simp
  have b2 := Blk.new (w.alloc (.cells (pdC h t) 27)) 3 #[.int .i64 0]
  rw [e1] at b2
  have hR0 : RcM w (w.heap.size + 1) ((w.alloc (.cells (pdC h t) 27)).alloc (.cells #[.int .i64 0] 3)) 0 (One (w.heap.size + 1)) := ⟨b2, by omega, rfl, by omega⟩
  have A1 := all_any (RcM w (w.heap.size + 1)) stepM 37 (w.heap.size + 1) w
    (fun W s X hr q hq => by
      obtain ⟨a, b, rfl, c⟩ := hr
      obtain rfl : q = w.heap.size + 1 := hq
      exact ⟨c, a.lt⟩)
    (fun W W' s X hr hf => ⟨hr.1.fr hf (fun e => e), hr.2⟩) Try.call37 (may1_any w (w.heap.size + 1)) (.mk h ks)
    _ 0 _ t 1 1 rfl F1 hR0 hk hb hlen (by omega)
  have HM : Hid ((allP stepM (.mk h ks) 0 1).isSome = mayP (.mk h ks)) := Lib.hid (may_all _)
  generalize allP stepM (.mk h ks) 0 1 = r at *
  dsimp only [Pd.hd, Pd.kids] at A1
  have A1 := Lib.hid A1
  have F1 := Lib.hid F1
  have P0 : PdB ((w.alloc (.cells (pdC h t) 27)).alloc (.cells #[.int .i64 0] 3)) w.heap.size h t := (pd_new w _ h t rfl).fr ((Fr.refl Non _).alloc _) (fun e => e)
  obtain ⟨g0, g1, g2, g3, g4, g5, g6, g7, g8⟩ := pdB_cells P0
  have hmf : ∀ (fn : Fn) (first cap : Array Value) (w : World), (Instr.makeFunc fn first cap).run Try.prog w = .ok (.func fn first cap) w := fun _ _ _ _ => rfl
  clear hk F0 hR0 b2 e1 P0 hlen hdep
  obtain ⟨ho, hc, hm, ⟨vn, vi, vt⟩, hkd, hp⟩ := h
  obtain ⟨A, nn, c⟩ := t
  unfold pdV pdC kidV at *
  dsimp only at *
  go_enter Try.func22, Try.ntmps22
  go_wp2_with fail
  refine A1.out.mono ?_
  rintro e w1 ⟨rfl, f1, _⟩
  go_wp2
  go_ret
  exact ⟨ret_boolE HM.out, F1.out.join f1 (fun q hq e => by have : q = w.heap.size + 1 := e; omega)⟩
end Go.Proofs.Ytnbhgkolfapblaa


namespace Go.Proofs.Ytnbhgkolfapblaa
set_option linter.unusedVariables false
set_option linter.unusedSimpArgs false
set_option maxRecDepth 100000
open Go.RowKit Go.Maps

/-- how many unlike ones -/
def cntU : List Tx → Nat
  | [] => 0
  | y :: r => if y ∈ r then cntU r else cntU r + 1
theorem cntU_le (l : List Tx) : cntU l ≤ l.length := by
  induction l with
  | nil => exact Nat.le_refl _
  | cons y r ih =>
    unfold cntU
    rw [List.length_cons]
    split <;> omega
theorem cntU_all (l : List Tx) : cntU l = l.length ↔ l.Nodup := by
  induction l with
  | nil => simp [cntU]
  | cons y r ih =>
    have := cntU_le r
    unfold cntU
    rw [List.length_cons, List.nodup_cons]
    split
    · rename_i h
      constructor
      · intro e; omega
      · intro e; exact absurd h e.1
    · rename_i h
      rw [← ih]
      constructor
      · intro e; exact ⟨h, by omega⟩
      · intro e; omega

/-- block b is a map of at most n texts: those of ks -/
def MapS (w : World) (b n : Nat) (ks : List Tx) : Prop :=
  ∃ D : DataW Unit, w.ownsMap Try.prog 9 (plainElem Try.prog 3) b n D ∧ (∀ x, has D (.string x) = decide (x ∈ ks)) ∧ Maps.size D = cntU ks
theorem MapS.lt {w : World} {b n : Nat} {ks : List Tx} (h : MapS w b n ks) : b < w.heap.size := by
  obtain ⟨D, h1, _⟩ := h; exact h1.lt
theorem MapS.fr {S : Nat → Prop} {w w' : World} {b n : Nat} {ks : List Tx} (h : MapS w b n ks) (hf : Fr S w w') (hn : ¬ S b) : MapS w' b n ks := by
  obtain ⟨D, h1, h2, h3⟩ := h
  have hlt := h1.lt
  obtain ⟨es, clock, hb, F, hs, hD⟩ := h1
  exact ⟨D, ⟨es, clock, (hf.block b hlt hn).trans hb, F, hs, hD⟩, h2, h3⟩
theorem MapS.made (w : World) : MapS (w.alloc (.map #[] 0)) w.heap.size 0 [] :=
  ⟨.map [], World.ownsMap_made w _ _ _, fun x => by simp [has], rfl⟩

theorem keyLitS (x : Tx) : WideAt.IsKeyLit (.string x) := trivial
theorem keyStrS {x : Tx} (hx : x.length ≤ maxLen) : keyOf Try.prog 9 (.string ⟨x.toArray⟩) = some (.string x) := by
  have := Go.WideMaps.keyOf_string_mk (P := Try.prog) Try.underlying9 (s := ⟨x.toArray⟩) (by simpa [ByteArray.size] using hx)
  simpa using this
theorem MapS.put {w w' : World} {b n : Nat} {ks : List Tx} {D : DataW Unit} (h1 : w.ownsMap Try.prog 9 (plainElem Try.prog 3) b n D) (h2 : ∀ x, has D (.string x) = decide (x ∈ ks)) (h3 : Maps.size D = cntU ks)
    (y : Tx) (v : Int) (h : w'.ownsMap Try.prog 9 (plainElem Try.prog 3) b (n + 1) (D.put (.string y) (.lit (.int .i64 v)))) : MapS w' b (n + 1) (y :: ks) := by
  have hm := h1.isMap
  refine ⟨_, h, fun x => ?_, ?_⟩
  · by_cases he : x = y
    · subst he; rw [has_put_same hm (keyLitS x)]; simp
    · rw [has_put_other (by simpa using he), h2]; simp [he]
  · rw [Maps.size_put (h1.tidy (string_keyed Try.underlying9)), h2, h3]
    rw [show cntU (y :: ks) = if y ∈ ks then cntU ks else cntU ks + 1 from rfl]
    by_cases hy : y ∈ ks <;> simp [hy]

/-- 'm[y] = v' -/
theorem wpList_putS (w : World) {ops : Array Oper} {rest : List Oper} {o : Oper} {a : Act} {Q : Exit → Act → World → Prop} (hg : o.guard = none) (m x v : Operand) (hop : o.op = Op.mapUpdate 88 m x v)
    (b n : Nat) (ks : List Tx) (hm : a.eval m = .map (some b)) (hown : MapS w b n ks) (hn : n ≤ 1000000000) (y : Tx) (z : Int) (hx : a.eval x = .string ⟨y.toArray⟩) (hv : a.eval v = .int .i64 z)
    (hy : y.length ≤ 9223372036854775807) (hz1 : -9223372036854775808 ≤ z) (hz2 : z ≤ 9223372036854775807)
    (hK : ∀ w', MapS w' b (n + 1) (y :: ks) → Fr (One b) w w' → wpList Try.prog ops Q rest (a.put o.dst undef) w') : wpList Try.prog ops Q (o :: rest) a w := by
  obtain ⟨D, h1, h2, h3⟩ := hown
  refine wpList_mapUpdate_own w hg m x v 88 hop 9 3 (string_keyed Try.underlying9) Try.underlying88 _ b n D hm h1 (by unfold maxLen; omega) _ _ (.string y) hx hv (keyStrS (by simpa [maxLen] using hy)) (.lit (.int .i64 z)) [] (plainElem_int Try.underlying3 (WalkArith.wf_i64 ⟨hz1, hz2⟩)) ?_
  intro w' hw' hg'
  exact hK w' (MapS.put h1 h2 h3 y z hw') ((Fr.of_grown hg').mono fun k _ e => by simpa [One, eq_comm] using e)
/-- 'len(m)' -/
theorem MapS.len {w : World} {b n : Nat} {ks : List Tx} (h : MapS w b n ks) (ty : TypeId) : (Builtin.len_ #[88] ty #[.map (some b)]).run Try.prog w = .ok (.int .i64 (cntU ks)) w := by
  obtain ⟨D, h1, h2, h3⟩ := h
  rw [← h3]
  exact h1.len Try.underlying88 ty
end Go.Proofs.Ytnbhgkolfapblaa


namespace Go.Proofs.Ytnbhgkolfapblaa
set_option linter.unusedVariables false
set_option linter.unusedSimpArgs false
set_option maxRecDepth 100000
open Go.RowKit

theorem mayC_nullT (ty : Int) : mayC ty true ⟨true, 0, []⟩ = isTy ty := by rw [mayC_null]; simp [ceq]
theorem ktype_any (ty : Int) (w : World) : Calls Try.prog 61 #[.int .i64 ty] w fun e w' => e = .returned (.bool (isTy ty)) ∧ Fr Non w w' := by
  have M := fun W => may_any ty true ⟨true, 0, []⟩ W
  rw [mayC_nullT] at M
  unfold clV clC at M
  dsimp only at M
  go_enter Try.func61, Try.ntmps61
  go_wp2_with fail
  refine (M _).mono ?_
  rintro e w1 ⟨rfl, f1⟩
  go_wp2
  go_ret
  exact ⟨rfl, f1⟩

theorem maynot_any (c : Co) (w : World) (hc : c.name.length ≤ 1000000000) : Calls Try.prog 40 #[coV c] w fun e w' => e = .returned (.bool (badC c)) ∧ Fr Non w w' := by
  obtain ⟨n, ty, nl⟩ := c
  have M := fun W => sname_any n W hc
  have T := fun W => ktype_any ty W
  have b0 := co_new w ⟨n, ty, nl⟩
  have g0 : _ = _ := b0.cell 0
  simp at g0
  unfold badC coV coC
  dsimp only
  cases hn : nameB n
  · simp only [hn] at M
    replace M := Lib.hid M
    clear T
    go_enter Try.func40, Try.ntmps40
    go_wp2_with fail
    refine (M.out _).mono ?_
    rintro e w1 ⟨rfl, f1⟩
    go_wp2
    go_ret
    exact ⟨rfl, ((Fr.refl _ _).alloc _).trans f1⟩
  · simp only [hn] at M
    replace M := Lib.hid M
    replace T := Lib.hid T
    replace b0 : Hid (CoB _ _ _) := Lib.hid b0
    go_enter Try.func40, Try.ntmps40
    go_wp2_with fail
    refine (M.out _).mono ?_
    rintro e w1 ⟨rfl, f1⟩
    have g1 := (b0.out.fr f1 (fun e => e)).cell 1
    simp at g1
    go_wp2_with fail
    refine (T.out _).mono ?_
    rintro e w2 ⟨rfl, f2⟩
    go_wp2
    go_ret
    exact ⟨ret_boolE (by simp), (((Fr.refl _ _).alloc _).trans f1).trans f2⟩

theorem idx_any (v : Value) (l : List Co) (w : World) (hv : Ks w v l) (hl : l.length ≤ 1000000000) (hb : ∀ c ∈ l, c.name.length ≤ 1000000000) :
    Calls Try.prog 59 #[v, .func (.func 40) #[] #[]] w fun e w' => ∃ z : Int, e = .returned (.int .i64 z) ∧ decide (0 ≤ z) = l.any badC ∧ Fr Non w w' := by
  obtain ⟨A, c, rfl, hlc, hn, hcell⟩ := hv
  have HC := Lib.hid hcell
  have HN := Lib.hid hn
  have HB := Lib.hid hb
  clear hcell hn hb
  go_enter Try.func59, Try.ntmps59
  go_wp2
  go_loopw [8] (fun i wr => ∃ (k : Nat), k ≤ l.length ∧ i = .int .i64 k ∧ Hid ((l.take k).any badC = false) ∧ Fr Non w wr) (fun i _ => l.length - (intOf i).toNat)
  case atStart => exact ⟨0, Nat.zero_le _, rfl, Lib.hid rfl, Fr.refl _ _⟩
  case round =>
    obtain ⟨k, hk, rfl, hne, hfr⟩ := hrel
    by_cases hlt : k < l.length
    · cases A with
      | none => have := HN.out rfl; omega
      | some a =>
        obtain ⟨hc0, hc1, hc2⟩ := co_lit ((HC.out a rfl k hlt).non hfr)
        have HY := Lib.hid (fun h => any_more hlt hne.out h)
        have HX : Hid (badC l[k] = true → l.any badC = true) := Lib.hid (fun h => List.any_eq_true.2 ⟨_, List.getElem_mem hlt, h⟩)
        have M := fun W => maynot_any l[k] W (HB.out _ (List.getElem_mem hlt))
        clear hne
        generalize l[k] = x at *
        obtain ⟨xn, xt, xb⟩ := x
        unfold coV coC at M
        dsimp only at hc0 hc1 hc2 HY HX M
        have HF := Lib.hid hfr
        clear hfr
        cases hx : badC ⟨xn, xt, xb⟩
        · have HE := Lib.hid (HY.out hx)
          simp only [hx] at M
          replace M := Lib.hid M
          clear HX HY hx
          go_wp2_with fail
          refine (M.out _).mono ?_
          rintro e w2 ⟨rfl, f2⟩
          go_wp2
          go_roundw
          case rel => exact ⟨k + 1, by omega, by go_num, HE, HF.out.trans f2⟩
          case measure => simp [intOf]; omega
        · have HE := Lib.hid (HX.out hx)
          simp only [hx] at M
          replace M := Lib.hid M
          clear HX HY hx
          go_wp2_with fail
          refine (M.out _).mono ?_
          rintro e w2 ⟨rfl, f2⟩
          go_wp2
          go_ret
          exact ⟨_, rfl, by rw [HE.out]; exact decide_eq_true (by omega), HF.out.trans f2⟩
    · have HE : Hid (l.any badC = false) := Lib.hid (by have := hne.out; rwa [List.take_of_length_le (by omega)] at this)
      clear hne
      go_wp2
      go_ret
      exact ⟨_, rfl, by rw [HE.out]; rfl, hfr⟩
theorem contains_any (v : Value) (l : List Co) (w : World) (hv : Ks w v l) (hl : l.length ≤ 1000000000) (hb : ∀ c ∈ l, c.name.length ≤ 1000000000) :
    Calls Try.prog 39 #[v, .func (.func 40) #[] #[]] w fun e w' => e = .returned (.bool (l.any badC)) ∧ Fr Non w w' := by
  have h0 := Lib.hid (idx_any v l w hv hl hb)
  clear hv hb
  go_enter Try.func39, Try.ntmps39
  go_wp2_with fail
  refine h0.out.mono ?_
  rintro e w1 ⟨z, rfl, hz, f1⟩
  go_wp2
  go_ret
  exact ⟨rfl, f1⟩

/-- the names up to k, the last one first -/
def nmsR (l : List Co) (k : Nat) : List Tx := (namesC (l.take k)).reverse
theorem nmsR_more {l : List Co} {k : Nat} (h : k < l.length) : nmsR l (k + 1) = l[k].name :: nmsR l k := by
  unfold nmsR namesC
  rw [List.take_succ_eq_append_getElem h, List.map_append, List.reverse_append]; rfl
theorem nmsR_all {l : List Co} {k : Nat} (h : k = l.length) : decide ((cntU (nmsR l k) : Int) = l.length) = decide ((namesC l).Nodup) := by
  subst h
  unfold nmsR
  rw [List.take_length]
  have h1 := cntU_all (namesC l).reverse
  rw [List.length_reverse, (List.reverse_perm (namesC l)).nodup_iff] at h1
  have h2 : (namesC l).length = l.length := by unfold namesC; rw [List.length_map]
  rw [h2] at h1
  rw [decide_eq_decide, ← h1]
  omega

set_option maxHeartbeats 1000000 in
theorem unlike_any (v : Value) (l : List Co) (w : World) (hv : Ks w v l) (hl : l.length ≤ 1000000000) (hb : ∀ c ∈ l, c.name.length ≤ 1000000000) :
    Calls Try.prog 41 #[v] w fun e w' => e = .returned (.bool (decide ((namesC l).Nodup))) ∧ Fr Non w w' := by
  obtain ⟨A, c, rfl, hlc, hn, hcell⟩ := hv
  have HC := Lib.hid hcell
  have HN := Lib.hid hn
  have HB := Lib.hid hb
  clear hcell hn hb
  have hmm := @run_makeMap Try.prog
  go_enter Try.func41, Try.ntmps41
  go_wp2
  have hm0 := MapS.made w
  have hf0 : Fr Non w (w.alloc (.map #[] 0)) := (Fr.refl _ _).alloc _
  go_loopw [9] (fun i wr => ∃ (k : Nat), k ≤ l.length ∧ i = .int .i64 k ∧ MapS wr w.heap.size k (nmsR l k) ∧ Fr Non w wr) (fun i _ => l.length - (intOf i).toNat)
  case atStart => exact ⟨0, Nat.zero_le _, rfl, hm0, hf0⟩
  case round =>
    clear hm0 hf0
    obtain ⟨k, hk, rfl, hm, hfr⟩ := hrel
    by_cases hlt : k < l.length
    · cases A with
      | none => have := HN.out rfl; omega
      | some a =>
        obtain ⟨hc0, hc1, hc2⟩ := co_lit ((HC.out a rfl k hlt).non hfr)
        have HM := Lib.hid (nmsR_more hlt)
        have hxl := HB.out _ (List.getElem_mem hlt)
        generalize l[k] = x at *
        obtain ⟨xn, xt, xb⟩ := x
        dsimp only at hc0 hc1 hc2 HM hxl
        have f1 := (Fr.refl Non wr).alloc (.cells #[.string ⟨xn.toArray⟩, .int .i64 xt, .bool xb] 51)
        have hm1 := Lib.hid (hm.fr f1 (fun e => e))
        have HF := Lib.hid (hfr.trans f1)
        have g0 := (co_new wr ⟨xn, xt, xb⟩).cell 0
        simp at g0
        clear hm hfr f1
        go_wp2_with (at_mapUpdate; refine wpList_putS _ rfl _ _ _ rfl w.heap.size k (nmsR l k) rfl hm1.out (by omega) xn (k : Int) rfl rfl (by omega) (by omega) (by omega) ?_; intro w1 hm2 hf2)
        go_roundw
        case rel => exact ⟨k + 1, by omega, by go_num, by rw [HM.out]; exact hm2, HF.out.fresh hf2 (fun q hq => by have : q = w.heap.size := hq; omega)⟩
        case measure => simp [intOf]; omega
    · have HE := Lib.hid (nmsR_all (l := l) (k := k) (by omega))
      have hlen := fun ty => hm.len ty
      clear hm
      go_wp2
      go_ret
      exact ⟨ret_boolE HE.out, hfr⟩

set_option maxHeartbeats 1000000 in
theorem scheck_any (v : Value) (l : List Co) (w : World) (hv : Ks w v l) (hl : l.length ≤ 1000000000) (hb : ∀ c ∈ l, c.name.length ≤ 1000000000) :
    Calls Try.prog 23 #[v] w fun e w' => e = .returned (.int .i64 (chkC l)) ∧ Fr Non w w' := by
  obtain ⟨A, c, rfl⟩ := hv.shape
  have HV := Lib.hid hv
  have C1 := Lib.hid (contains_any _ l w hv hl hb)
  have U1 := fun W h => unlike_any (.slice A l.length c) l W h hl hb
  replace U1 := Lib.hid U1
  clear hv hb
  by_cases h0 : l.length = 0
  · have H := Lib.hid (chk_none h0)
    go_enter Try.func23, Try.ntmps23
    go_wp2
    go_ret
    exact ⟨ret_int H.out.symm, Fr.refl _ _⟩
  · have h0b : ((l.length : Int) == 0) = false := by rw [beq_eq_false_iff_ne]; omega
    have H0 := Lib.hid h0
    clear h0
    cases ha : l.any badC
    · have HA := Lib.hid ha
      rw [ha] at C1
      clear ha
      by_cases hd : (namesC l).Nodup
      · have HD := Lib.hid hd
        rw [decide_eq_true hd] at U1
        clear hd
        by_cases h6 : 6 < l.length
        · have H := Lib.hid (chk_many H0.out HA.out HD.out h6)
          go_enter Try.func23, Try.ntmps23
          go_wp2_with fail
          refine C1.out.mono ?_
          rintro e w1 ⟨rfl, f1⟩
          go_wp2_with fail
          refine (U1.out _ (HV.out.non f1)).mono ?_
          rintro e w2 ⟨rfl, f2⟩
          go_wp2
          go_ret
          exact ⟨ret_int H.out.symm, f1.trans f2⟩
        · have H := Lib.hid (chk_ok H0.out HA.out HD.out h6)
          go_enter Try.func23, Try.ntmps23
          go_wp2_with fail
          refine C1.out.mono ?_
          rintro e w1 ⟨rfl, f1⟩
          go_wp2_with fail
          refine (U1.out _ (HV.out.non f1)).mono ?_
          rintro e w2 ⟨rfl, f2⟩
          go_wp2
          go_ret
          exact ⟨ret_int H.out.symm, f1.trans f2⟩
      · have H := Lib.hid (chk_dup hd)
        rw [decide_eq_false hd] at U1
        clear hd
        go_enter Try.func23, Try.ntmps23
        go_wp2_with fail
        refine C1.out.mono ?_
        rintro e w1 ⟨rfl, f1⟩
        go_wp2_with fail
        refine (U1.out _ (HV.out.non f1)).mono ?_
        rintro e w2 ⟨rfl, f2⟩
        go_wp2
        go_ret
        exact ⟨ret_int H.out.symm, f1.trans f2⟩
    · have H := Lib.hid (chk_any ha)
      rw [ha] at C1
      clear ha
      go_enter Try.func23, Try.ntmps23
      go_wp2_with fail
      refine C1.out.mono ?_
      rintro e w1 ⟨rfl, f1⟩
      go_wp2
      go_ret
      exact ⟨ret_int H.out.symm, f1⟩
end Go.Proofs.Ytnbhgkolfapblaa


namespace Go.Proofs.Ytnbhgkolfapblaa
set_option linter.unusedVariables false
set_option linter.unusedSimpArgs false
set_option maxRecDepth 100000
open Go.RowKit

theorem okS_nil {cols : List Co} {h : Ph} (e : h.col = []) : okT cols h = true := by unfold okT; rw [if_pos e]
theorem okS_none {cols : List Co} {h : Ph} (e : ¬ h.col = []) (f : findC cols h.col = none) : okT cols h = false := by unfold okT; rw [if_neg e, f]
theorem okS_some {cols : List Co} {h : Ph} {k : Nat} (e : ¬ h.col = []) (f : findC cols h.col = some k) (hk : k < cols.length) : okT cols h = if h.op = 2 then cols[k].ty == h.kind else if h.op = 4 then cols[k].ty == 3 else true := by
  unfold okT; rw [if_neg e, f]
  simp [hk]
theorem Ks.findS {w : World} {A : Option Addr} {n c : Nat} {cols : List Co} (h : Ks w (.slice A n c) cols) (k : Nat) (hk : k < cols.length) :
    ∃ a, A = some a ∧ n = cols.length ∧ w.cell? { block := (a.add (k * 3)).block, off := (a.add (k * 3)).off + 1 } = some (.int .i64 cols[k].ty) := by
  have hnl : n = cols.length := by
    obtain ⟨A0, c0, he⟩ := h.shape
    simp only [Value.slice.injEq] at he
    exact he.2.1
  obtain ⟨a, ha, hn, _, hc⟩ := Ns.addr h (by omega)
  exact ⟨a, ha, hn, (co_lit (hc k hk)).2.1⟩
set_option maxHeartbeats 4000000 in
theorem suits_any (cols : List Co) (hcl : cols.length ≤ 1000) (v : Value) (h : Ph) (t : Kv) (w : World) (hv : Ks w v cols) :
    Calls Try.prog 26 #[v, pdV h t] w fun e w' => e = .returned (.bool (okT cols h)) ∧ Fr Non w w' := by
  have F0 : Fr Non w (w.alloc (.cells (pdC h t) 27)) := (Fr.refl Non w).alloc _
  have HB := Lib.hid (pd_new w _ h t rfl)
  have FC := Lib.hid (fun W hw => sfind_any v cols h.col W hw (by omega))
  have HO1 := Lib.hid (fun e => okS_nil (cols := cols) (h := h) e)
  have HO2 := Lib.hid (fun e f => okS_none (cols := cols) (h := h) e f)
  have HO3 := Lib.hid (fun k e f hk => okS_some (cols := cols) (h := h) (k := k) e f hk)
  have HFL := Lib.hid (fun k (e : findC cols h.col = some k) => find_lt e)
  obtain ⟨vA, vc, hve⟩ := hv.shape
  have HV : Hid (Ks _ v cols) := Lib.hid (hv.non F0)
  have HF := Lib.hid F0
  clear F0 hv
  obtain ⟨ho, hc, hm, ⟨vn, vi, vt⟩, hkd, hp⟩ := h
  obtain ⟨A, n, c⟩ := t
  dsimp only at HO1 HO2 HO3 FC HFL
  unfold pdV
  unfold pdC kidV
  dsimp only
  subst hve
  generalize okT cols _ = r at *
  by_cases h0 : hc = []
  · subst h0
    have HE := Lib.hid (HO1.out rfl)
    clear HO1 HO2 HO3 FC HFL
    go_enter Try.func26, Try.ntmps26
    go_wp2
    go_ret
    exact ⟨ret_boolE HE.out.symm, HF.out⟩
  · have hb : (hc == []) = false := by rw [beq_eq_false_iff_ne]; exact h0
    cases hf : findC cols hc with
    | none =>
      have HE := Lib.hid (HO2.out h0 hf)
      simp only [hf] at FC
      clear HO1 HO2 HO3 HFL hf h0
      go_enter Try.func26, Try.ntmps26
      go_wp2_with fail
      refine (FC.out _ HV.out).mono ?_
      rintro e w1 ⟨rfl, f1⟩
      unfold findV
      go_wp2
      go_ret
      exact ⟨ret_boolE HE.out.symm, HF.out.trans f1⟩
    | some q =>
      have hql := HFL.out q hf
      have HO4 := Lib.hid (HO3.out q h0 hf hql)
      simp only [hf] at FC
      clear HO1 HO2 HO3 HFL hf h0
      have hqn : ((q : Int) < 0) = False := by simp
      by_cases h2 : ho = 2
      · subst h2
        have HE : Hid (r = (cols[q].ty == hkd)) := Lib.hid (by rw [HO4.out, if_pos rfl])
        clear HO4
        go_enter Try.func26, Try.ntmps26
        go_wp2_with fail
        refine (FC.out _ HV.out).mono ?_
        rintro e w1 ⟨rfl, f1⟩
        obtain ⟨g0, g1, g2, g3, g4, g5, g6, g7, g8⟩ := pdB_cells (HB.out.fr f1 (fun e => e))
        dsimp only at g0 g1 g2 g3 g4 g5 g6 g7 g8
        obtain ⟨ca, rfl, hcn, hct⟩ := Ks.findS (HV.out.non f1) q hql
        generalize cols[q].ty = ct at *
        have F1 := Lib.hid (HF.out.trans f1)
        clear f1 hcn
        unfold findV
        dsimp only
        go_wp2
        go_quiet (fail)
        go_wp2
        go_ret
        exact ⟨ret_boolE HE.out.symm, F1.out.drewN _⟩
      · by_cases h4 : ho = 4
        · subst h4
          have HE : Hid (r = (cols[q].ty == 3)) := Lib.hid (by rw [HO4.out, if_neg h2, if_pos rfl])
          clear HO4
          go_enter Try.func26, Try.ntmps26
          go_wp2_with fail
          refine (FC.out _ HV.out).mono ?_
          rintro e w1 ⟨rfl, f1⟩
          obtain ⟨g0, g1, g2, g3, g4, g5, g6, g7, g8⟩ := pdB_cells (HB.out.fr f1 (fun e => e))
          dsimp only at g0 g1 g2 g3 g4 g5 g6 g7 g8
          obtain ⟨ca, rfl, hcn, hct⟩ := Ks.findS (HV.out.non f1) q hql
          generalize cols[q].ty = ct at *
          have F1 := Lib.hid (HF.out.trans f1)
          clear f1 hcn
          unfold findV
          dsimp only
          go_wp2
          go_ret
          exact ⟨ret_boolE HE.out.symm, F1.out⟩
        · have HE : Hid (r = true) := Lib.hid (by rw [HO4.out, if_neg h2, if_neg h4])
          have hb3 : (ho == 2) = false := by rw [beq_eq_false_iff_ne]; exact h2
          have hb4 : (ho == 4) = false := by rw [beq_eq_false_iff_ne]; exact h4
          clear HO4
          go_enter Try.func26, Try.ntmps26
          go_wp2_with fail
          refine (FC.out _ HV.out).mono ?_
          rintro e w1 ⟨rfl, f1⟩
          obtain ⟨g0, g1, g2, g3, g4, g5, g6, g7, g8⟩ := pdB_cells (HB.out.fr f1 (fun e => e))
          dsimp only at g0 g1 g2 g3 g4 g5 g6 g7 g8
          have F1 := Lib.hid (HF.out.trans f1)
          clear f1
          unfold findV
          dsimp only
          go_wp2
          go_ret
          exact ⟨ret_boolE HE.out.symm, F1.out⟩

/-- the columns' variable lies in block g -/
def RcT (cols : List Co) (v : Value) (g : Nat) (W : World) (_ : Unit) (X : Nat → Prop) : Prop := Blk W g 22 #[v] ∧ Ks W v cols ∧ X = Non
set_option maxHeartbeats 2000000 in
theorem fits1_any (cols : List Co) (hcl : cols.length ≤ 1000) (v : Value) (w0 : World) (g : Nat) : Asks (RcT cols v g) (stepT cols) 25 g w0 := by
  intro W u X p t d dz hdz hF hr hk hb hlen hdep
  subst hdz
  obtain ⟨h, ks⟩ := p
  obtain ⟨hB, hV, rfl⟩ := hr
  dsimp only [Pd.hd, Pd.kids] at hk hb ⊢
  have F0 : Fr Non W (W.alloc (.cells (pdC h t) 27)) := (Fr.refl Non W).alloc _
  have S1 := Lib.hid (suits_any cols hcl v h t _ (hV.non F0))
  have hc0 := (hB.fr F0 (fun e => e)).cell 0
  have hgl := hB.lt
  have HS : Hid (stepT cols u (.mk h ks) d = bif okT cols h then some () else none) := Lib.hid (by unfold stepT; show (if okT cols h = true then some () else none) = _; cases okT cols h <;> rfl)
  have HB := Lib.hid hB
  have HV := Lib.hid hV
  have HF0 := Lib.hid F0
  obtain ⟨vA, vc, hve⟩ := hV.shape
  simp at hc0
  generalize stepT cols u _ d = r at *
  generalize okT cols h = b at *
  clear hk hlen hdep hB hV F0 hF
  obtain ⟨ho, hc, hm, ⟨vn, vi, vt⟩, hkd, hp⟩ := h
  obtain ⟨A, nn, c⟩ := t
  subst hve
  unfold pdV pdC kidV at S1 ⊢
  unfold pdC kidV at hc0
  dsimp only at S1 hc0 ⊢
  go_enter Try.func25, Try.ntmps25
  go_wp2_with fail
  refine S1.out.mono ?_
  rintro e w1 ⟨rfl, f1⟩
  go_wp2
  go_ret
  have f2 := HF0.out.trans f1
  refine ⟨by rw [HS.out]; cases b <;> rfl, f2, fun s' hs => ⟨Non, ⟨HB.out.fr f2 (fun e => e), HV.out.non f2, rfl⟩, fun q hq => .inl hq⟩⟩

set_option maxHeartbeats 4000000 in
theorem pfits_big (cols : List Co) (hcl : cols.length ≤ 1000) (hcb : ∀ c ∈ cols, c.name.length ≤ 1000) (v : Value) (h : Ph) (t : Kv) (ks : List Pd) (w : World) (hv : Ks w v cols) (hk : Kd w t ks) (hb : I64b h.val.num) (hlen : bigP (.mk h ks) = true) (hdep : depP (.mk h ks) ≤ 100) :
    Calls Try.prog 17 #[v, pdV h t] w fun e w' => e = .returned (.int .i64 (fitP cols (.mk h ks))) ∧ Fr Non w w' := by
  have F0 : Fr Non w ((w.alloc (.cells #[v] 22)).alloc (.cells (pdC h t) 27)) := ((Fr.refl Non w).alloc _).alloc _
  have e1 : (w.alloc (.cells #[v] 22)).heap.size = w.heap.size + 1 := by simp
  have PB := pd_new (w.alloc (.cells #[v] 22)) _ h t rfl
  rw [e1] at PB
  have VB : Blk ((w.alloc (.cells #[v] 22)).alloc (.cells (pdC h t) 27)) w.heap.size 22 #[v] := (Blk.new _ _ _).fr ((Fr.refl Non _).alloc _) (fun e => e)
  have M1 := Lib.hid (fun W hk => pmay_big h t ks W hk hb hlen hdep)
  have C1 := Lib.hid (fun W hv => scheck_any v cols W hv (by omega) (fun c hc => by have := hcb c hc; omega))
  have A1 : Hid (∀ W, Blk W w.heap.size 22 #[v] → Ks W v cols → Fr Non w W → Calls Try.prog 24 #[pdV h t, .int .i64 1, .func (.func 25) #[] #[.pointer (some ⟨w.heap.size, 0, none⟩)]] W fun e w' => e = .returned (.bool (typP cols (.mk h ks))) ∧ Fr Non W w') := Lib.hid (fun W hB hV hF => by
    have h0 := all_any (RcT cols v w.heap.size) (stepT cols) 25 w.heap.size w
      (fun W s X hr q hq => by obtain ⟨_, _, rfl⟩ := hr; exact hq.elim)
      (fun W W' s X hr hf => ⟨hr.1.fr hf (fun e => e), hr.2.1.non hf, hr.2.2⟩) Try.call25 (fits1_any cols hcl v w w.heap.size) (.mk h ks)
      W () Non t 1 1 rfl hF ⟨hB, hV, rfl⟩ hk hb hlen (by omega)
    refine h0.mono ?_
    rintro e w' ⟨rfl, f1, _⟩
    rw [allT]
    exact ⟨by cases typP cols (.mk h ks) <;> rfl, f1⟩)
  have HE0 : Hid (fitP cols (.mk h ks) = if mayP (.mk h ks) = false ∨ ¬ chkC cols = 0 then 1 else if typP cols (.mk h ks) = true then 0 else 10) := Lib.hid rfl
  have hmf : ∀ (fn : Fn) (first cap : Array Value) (w : World), (Instr.makeFunc fn first cap).run Try.prog w = .ok (.func fn first cap) w := fun _ _ _ _ => rfl
  generalize fitP cols (.mk h ks) = r at *
  generalize mayP (.mk h ks) = b1 at *
  generalize typP cols (.mk h ks) = b2 at *
  generalize chkC cols = z at *
  have HK := Lib.hid (hk.non F0)
  have HV : Hid (Ks _ v cols) := Lib.hid (hv.non F0)
  obtain ⟨vA, vc, hve⟩ := hv.shape
  have F0 := Lib.hid F0
  have PB := Lib.hid PB
  have VB := Lib.hid VB
  clear hk hlen hv hdep e1
  obtain ⟨ho, hc, hm, ⟨vn, vi, vt⟩, hkd, hp⟩ := h
  obtain ⟨A, nn, c⟩ := t
  subst hve
  unfold pdV pdC kidV at *
  dsimp only at *
  cases b1
  · have HE : Hid (r = 1) := Lib.hid (by rw [HE0.out, if_pos (.inl rfl)])
    clear HE0 A1
    go_enter Try.func17, Try.ntmps17
    go_wp2_with fail
    refine (M1.out _ HK.out).mono ?_
    rintro e w1 ⟨rfl, f1⟩
    go_wp2
    go_ret
    exact ⟨ret_int HE.out.symm, F0.out.trans f1⟩
  · go_enter Try.func17, Try.ntmps17
    go_wp2_with fail
    refine (M1.out _ HK.out).mono ?_
    rintro e w1 ⟨rfl, f1⟩
    have PB1 := Lib.hid (PB.out.fr f1 (fun e => e))
    have VB1 := Lib.hid (VB.out.fr f1 (fun e => e))
    have HV1 : Hid (Ks w1 _ cols) := Lib.hid (HV.out.non f1)
    have F1 := Lib.hid (F0.out.trans f1)
    have c0 := VB1.out.cell 0
    simp at c0
    clear f1 M1 HK HV PB VB F0
    go_wp2_with fail
    refine (C1.out _ HV1.out).mono ?_
    rintro e w2 ⟨rfl, f2⟩
    have PB2 := Lib.hid (PB1.out.fr f2 (fun e => e))
    have VB2 := Lib.hid (VB1.out.fr f2 (fun e => e))
    have HV2 : Hid (Ks w2 _ cols) := Lib.hid (HV1.out.non f2)
    have F2 := Lib.hid (F1.out.trans f2)
    clear f2 C1 PB1 VB1 HV1 F1 c0
    by_cases hz : z = 0
    · subst hz
      have HE : Hid (r = if b2 = true then 0 else 10) := Lib.hid (by rw [HE0.out, if_neg (by simp)])
      obtain ⟨g0, g1, g2, g3, g4, g5, g6, g7, g8⟩ := pdB_cells PB2.out
      dsimp only at g0 g1 g2 g3 g4 g5 g6 g7 g8
      clear HE0
      go_wp2_with fail
      refine (A1.out _ VB2.out HV2.out F2.out).mono ?_
      rintro e w3 ⟨rfl, f3⟩
      cases b2
      · go_wp2
        go_ret
        exact ⟨ret_int HE.out.symm, F2.out.trans f3⟩
      · go_wp2
        go_ret
        exact ⟨ret_int HE.out.symm, F2.out.trans f3⟩
    · have HE : Hid (r = 1) := Lib.hid (by rw [HE0.out, if_pos (.inr hz)])
      have hb : (z != 0) = true := by rw [bne_iff_ne]; exact hz
      clear HE0 A1
      go_wp2
      go_ret
      exact ⟨ret_int HE.out.symm, F2.out⟩

end Go.Proofs.Ytnbhgkolfapblaa
