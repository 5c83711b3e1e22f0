/-
  Layer 6: the walks of delta.Get, firkinref06.Get.
-/
import Derived.Test.YtnkdkpdofceohaaDelta1
import Derived.Test.YtnkdkpdofceohaaVint8
namespace Go.Proofs.Ytnkdkpdofceohaa
set_option linter.unusedVariables false
set_option linter.unusedSimpArgs false
open Go.RowKit

/-- what is still to come of what is answered -/
def ToD (t : Option (List Int)) (bad : Bool) (p : Int) (a : Int) (r : List UInt8) (o : List Int) : Prop := if bad then t = none else t = (gdz p a r).map (o ++ ·)
theorem toD_start (n : Int) (b : List UInt8) : ToD (gdz n 0 b) false n 0 b [] := by unfold ToD; simp
theorem toD_step {t : Option (List Int)} {bad : Bool} {p a : Int} {r : List UInt8} {o : List Int} (h : ToD t bad p a r o) (hb : bad = true → r = []) (hp : 0 < p) :
    ToD t (fell r) (p - 1) (w6 (a + unzig (fstN r))) (rest r) (o ++ [w6 (a + unzig (fstN r))]) := by
  unfold ToD at *
  cases hr : rd 0 0 r with
  | none =>
    rw [(rest_none hr).2.1, if_pos rfl]
    cases bad with
    | true => exact h
    | false =>
      rw [h]
      cases r with
      | nil => rw [gdz_nilne (by omega)]; rfl
      | cons c r => rw [gdz_bad (by simp) hr]; rfl
  | some y =>
    obtain ⟨z, q⟩ := y
    cases bad with
    | true => rw [hb rfl] at hr; simp [rd] at hr
    | false =>
      rw [(rest_some hr).1, (rest_some hr).2.1, (rest_some hr).2.2.1, h, gdz_some hp hr, cons_app]
      rfl
theorem toD_end {t : Option (List Int)} {bad : Bool} {a : Int} {r : List UInt8} {o : List Int} (h : ToD t bad 0 a r o) : t = if (!bad && r.isEmpty) = true then some o else none := by
  unfold ToD at h
  cases bad with
  | true => simpa using h
  | false =>
    rw [h]
    cases r with
    | nil => rw [gdz_nil]; simp
    | cons c r => rw [gdz_end (by omega) (by simp)]; simp

theorem set_app {o : List Int} {k m : Nat} {x y : Int} (h : o.length = k) (hk : k < m) : (o ++ List.replicate (m - k) x).set k y = o ++ [y] ++ List.replicate (m - (k + 1)) x := by
  subst h
  rw [List.set_append_right _ _ (Nat.le_refl _), Nat.sub_self, show m - o.length = (m - (o.length + 1)) + 1 by omega, List.replicate_succ, List.set_cons_zero, List.append_assoc]; rfl

set_option maxHeartbeats 2000000 in
theorem dget_any (v : Value) (b : List UInt8) (n : Int) (w : World) (hv : Bs w v b) (hl : b.length ≤ 1000000000) (h1 : -9223372036854775808 ≤ n) (h2 : n ≤ 9223372036854775807) :
    Calls Try.prog 8 #[v, .int .i64 n] w fun e w' => Gtn w' w.heap.size (gdz n 0 b) e ∧ Fr Non w w' := by
  have HV := Lib.hid hv
  obtain ⟨A, c, rfl, _⟩ := hv
  by_cases hn0 : n < 0
  · have hd : decide (n < 0) = true := by simpa using hn0
    have HN := Lib.hid hn0
    clear hn0
    go_enter Try.func8, Try.ntmps8
    go_wp2
    go_ret2
    exact ⟨gtn_no (gdz_neg HN.out), Fr.refl _ _⟩
  · by_cases hn4 : (b.length : Int) < n
    · have hd : decide (n < 0) = false := by simpa using hn0
      have hd4 : decide ((b.length : Int) < n) = true := by simpa using hn4
      have HN := Lib.hid hn4
      go_enter Try.func8, Try.ntmps8
      go_wp2
      go_ret2
      exact ⟨gtn_no (gdz_long HN.out), Fr.refl _ _⟩
    · obtain ⟨m, rfl⟩ := Int.eq_ofNat_of_zero_le (show 0 ≤ n by omega)
      have hd : decide ((m : Int) < 0) = false := by simp
      have hd4 : decide ((b.length : Int) < (m : Int)) = false := by simpa using hn4
      have hm9 : m ≤ 1000000000 := by omega
      clear h1 h2
      go_enter Try.func8, Try.ntmps8
      go_wp2_with fail
      refine (from_any _ b w HV.out).mono ?_
      rintro e w1 ⟨rfl, s1, f1⟩
      go_wp2_with fail
      refine (plusAhead_any w1).mono ?_
      rintro e w2 ⟨rfl, b2, f2⟩
      have s2 := s1.fr f2 (fun e => e)
      have f12 := f1.trans f2
      have hg1 := s1.1.lt
      have hg2 := b2.lt
      clear s1 f1 f2
      go_wp2_with (at_make; refine wpList_mkfullG (f := iv) el_i64 (0 : Int) rfl rfl _ _ rfl _ _ _ _ m rfl rfl rfl rfl (by omega) ?_; intro w3 hown3 f3)
      have s3 := s2.fr f3 (fun e => e)
      have b3 := b2.fr f3 (fun e => e)
      have f123 := f12.trans f3
      have hB := f3.size
      have hw1 := f12.size
      clear s2 b2 f12 f3
      generalize hgB : w2.heap.size = B at *
      generalize hgg1 : w1.heap.size = g1 at *
      generalize hgg : w.heap.size = g at *
      have HW := Lib.hid hgg
      clear hgg hgB hgg1
      go_wp2
      go_loopw [25] (fun i wr => ∃ (k : Nat) (r : List UInt8) (o : List Int) (a : Int) (bad : Bool), k ≤ m ∧ i = .int .i64 k ∧ o.length = k ∧ Ow iv 2 wr B (.slice (some ⟨B, 0, none⟩) m m) (o ++ List.replicate (m - k) 0) ∧ Src wr g r bad ∧ Blk wr g1 2 #[iv a] ∧ Hid (ToD (gdz m 0 b) bad ((m : Int) - k) a r o) ∧ Fr Non w wr) (fun i _ => m - (intOf i).toNat)
      case atStart => exact ⟨0, b, [], 0, false, Nat.zero_le _, rfl, rfl, by simpa using hown3, s3, b3, Lib.hid (by have := toD_start m b; simpa using this), f123⟩
      case round =>
        clear hown3 s3 b3 f123 hB
        obtain ⟨k, r, o, a, bad, hk, rfl, hok, hown, hs, hb, HT, hfr⟩ := hrel
        have HO := Lib.hid hown
        have HK := Lib.hid hok
        have HF := Lib.hid hfr
        clear hown hok hfr
        by_cases hlt : k < m
        · have HT2 := Lib.hid (toD_step HT.out hs.2 (by omega))
          go_wp2_with fail
          refine (sint_any g _ _ wr hs).mono ?_
          rintro e w4 ⟨rfl, s4, f4⟩
          have b4 := hb.fr f4 (fun e => by have : g1 = g := e; omega)
          go_wp2_with fail
          refine (plus_any g1 _ a w4 b4).mono ?_
          rintro e w5 ⟨rfl, b5, f5⟩
          have s5 := s4.fr f5 (fun e => by have : g = g1 := e; omega)
          have hown4 := HO.out.fr f4 (fun q hq e => by have h1 := (HO.out.lt q hq).1; have : q = g := e; omega)
          have hown5 := hown4.fr f5 (fun q hq e => by have h1 := (hown4.lt q hq).1; have : q = g1 := e; omega)
          have hf5 := (HF.out.fresh f4 (fun k e => by have : k = g := e; have := HW.out; omega)).fresh f5 (fun k e => by have : k = g1 := e; have := HW.out; omega)
          have hlen : m = (o ++ List.replicate (m - k) 0).length := by rw [List.length_append, HK.out, List.length_replicate]; omega
          have hfz := hown5.frozen hlen k
          have hst := hown5.store hlen k (w6 (a + unzig (fstN r)))
          rw [set_app HK.out hlt] at hst
          have HST := Lib.hid hst
          have hcl : w5.cell? ⟨B, k, none⟩ = some (.int .i64 ((o ++ List.replicate (m - k) 0)[k]'(by omega))) := hown5.cell hlen k _ (List.getElem?_eq_getElem (by omega))
          generalize (o ++ List.replicate (m - k) 0)[k]'(by omega) = z0 at *
          generalize w6 (a + unzig (fstN r)) = y at *
          unfold iv at HST
          clear hst hlen hown4 hown5 f4 f5 s4 b4 hs hb
          go_wp2
          go_roundw
          case rel => exact ⟨k + 1, rest r, o ++ [y], y, fell r, by omega, by go_num, by rw [List.length_append, HK.out]; rfl, HST.out, s5.fr ((Fr.refl (One B) w5).set1 k _) (fun e => by have : g = B := e; omega), b5.fr ((Fr.refl (One B) w5).set1 k _) (fun e => by have : g1 = B := e; omega), Lib.hid (by have := HT2.out; rwa [show (m : Int) - (k + 1 : Nat) = (m : Int) - k - 1 by omega]), hf5.setCell (fun h => by have := HW.out; simp at h; omega) _⟩
          case measure => simp [intOf]; omega
        · obtain rfl : k = m := by omega
          have hT := HT.out
          rw [Int.sub_self] at hT
          have HE := Lib.hid (toD_end hT)
          clear hT
          go_wp2_with fail
          refine (end_any g r bad wr hs).mono ?_
          rintro e w5 ⟨rfl, rfl⟩
          cases hbe : (!bad && r.isEmpty) with
          | true =>
            rw [hbe] at HE
            go_wp2
            go_ret2
            exact ⟨gtn_yes HE.out (by have := HO.out.mono (B' := w.heap.size) (by have := HW.out; omega); simpa using this), HF.out⟩
          | false =>
            rw [hbe] at HE
            go_wp2
            go_ret2
            exact ⟨gtn_no HE.out, HF.out⟩

def GeD (B : Nat) : Nat → Prop := fun k => B ≤ k

set_option maxHeartbeats 4000000 in
theorem rdget_any (v : Value) (b : List UInt8) (n : Int) (w : World) (hv : Bs w v b) (hvl : ∀ k, v.ownBlock = some k → k < w.heap.size) (hl : b.length ≤ 100000000) (h1 : -9223372036854775808 ≤ n) (h2 : n ≤ 400) :
    Calls Try.prog 12 #[v, .int .i64 n] w fun e w' => Gtn w' w.heap.size (gdz n 0 b) e ∧ Fr Non w w' := by
  have hsz := hvl
  have S0 : ∀ W, W = w.alloc (.cells #[v, .bool false] 41) → SAt W w.heap.size (GeD w.heap.size) b false := by
    rintro W rfl
    exact ⟨v, Blk.new _ _ _, hv.non ((Fr.refl _ _).alloc _), (fun k hk e => by have := hsz k hk; unfold GeD at e; omega), by unfold GeD; omega, fun h => by cases h⟩
  have HS0 := Lib.hid S0
  clear S0 hsz
  obtain ⟨A, c, rfl, _⟩ := hv
  clear hvl
  go_enter Try.func12, Try.ntmps12
  go_wp2
  have s1 := HS0.out _ rfl
  have hg1 := s1.cells
  have hown1 : Ow iv 2 ((w.alloc (.cells #[.slice A b.length c, .bool false] 41)).alloc (.cells #[] 2)) (w.heap.size + 1) (.slice (some ⟨w.heap.size + 1, 0, none⟩) 0 0) [] := ow_lit0 _ _ _ (by simp) (Nat.le_refl _)
  have f1 : Fr Non w ((w.alloc (.cells #[.slice A b.length c, .bool false] 41)).alloc (.cells #[] 2)) := ((Fr.refl _ _).alloc _).alloc _
  have s2 := s1.fr (S' := Non) ((Fr.refl _ _).alloc (.cells #[] 2)) (fun e => e) (fun _ e => e.elim)
  have hBB : w.heap.size + 1 ≤ ((w.alloc (.cells #[.slice A b.length c, .bool false] 41)).alloc (.cells #[] 2)).heap.size := by simp
  clear s1 hg1
  generalize hgg : w.heap.size = g at *
  have HW := Lib.hid hgg
  clear hgg
  go_loopw [7, 8] (fun x d wr => ∃ (r : List UInt8) (o : List Int) (a : Int), Ow iv 2 wr (g + 1) x o ∧ d = .int .i64 a ∧ ((o.length : Int) ≤ n ∨ o.length = 0) ∧ r.length ≤ b.length ∧ SAt wr g (GeD g) r false ∧ Hid (ToD (gdz n 0 b) false (n - o.length) a r o) ∧ g + 1 ≤ wr.heap.size ∧ Fr Non w wr) (fun x _ _ => 401 - slLen x)
  case atStart => exact ⟨b, [], 0, hown1, rfl, .inr rfl, Nat.le_refl _, s2, Lib.hid (by have := toD_start n b; simpa using this), hBB, f1⟩
  case round =>
    obtain ⟨r, o, a, hown, rfl, hom, hrb, hs, HI, hBr, hfr⟩ := hrel
    have HO := Lib.hid hown
    have HF := Lib.hid hfr
    obtain ⟨A1, c1, rfl⟩ := hown.shape
    clear hown hfr hown1 s2 f1 hBB
    generalize hol : o.length = ol at *
    have HL := Lib.hid hol
    clear hol
    have ho4 : ol ≤ 400 := by omega
    obtain ⟨Ar, cr, cc0, cc1, ff0, _⟩ := hs.cells
    cases r with
    | nil =>
      simp only [List.length_nil] at cc0
      by_cases hz : n - ol = 0
      · have hT := HI.out
        rw [hz] at hT
        have HR := Lib.hid (toD_end hT)
        have hb : ((ol : Int) != n) = false := by rw [bne_eq_false_iff_eq]; omega
        have HZ := Lib.hid hz
        clear hT hz
        go_wp2
        go_ret2
        exact ⟨gtn_yes HR.out (HO.out.mono (by have := HW.out; omega)), HF.out⟩
      · have HR : Hid (gdz n 0 b = none) := Lib.hid (by have hT := HI.out; unfold ToD at hT; rw [gdz_nilne hz] at hT; simpa using hT)
        have hb : ((ol : Int) != n) = true := by rw [bne_iff_ne]; omega
        go_wp2
        go_ret2
        exact ⟨gtn_no HR.out, HF.out⟩
    | cons r0 r1 =>
      have hrl : (0 : Int) < ((r0 :: r1).length : Int) := by simp
      have hne : r0 :: r1 ≠ [] := by simp
      generalize r0 :: r1 = r at *
      have hrl9 : r.length < 1000000000 := by omega
      have hi := rsint_any g (GeD g) _ _ wr hs hrl9
      have hw1 := HW.out
      cases hx : rd 0 0 r with
      | none =>
        have HR : Hid (gdz n 0 b = none) := Lib.hid (by have hT := HI.out; unfold ToD at hT; rw [gdz_bad hne hx] at hT; simpa using hT)
        rw [(rest_none hx).2.1] at hi
        generalize unzig (fstN r) = mz at *
        clear hx hne
        go_wp2_with fail
        refine hi.mono ?_
        rintro e w4 ⟨rfl, s4, f4⟩
        clear cc0 cc1 ff0
        obtain ⟨Ar, cr, cc0, cc1, ff0, _⟩ := s4.cells
        have hf4 := (HF.out.fresh f4 (fun k e => by have : k = g := e; omega))
        clear f4
        go_wp2
        go_ret2
        exact ⟨gtn_no HR.out, hf4⟩
      | some y =>
        obtain ⟨z, q⟩ := y
        have hql := rd_len (by omega) hx
        have HST : Hid (0 < n - (ol : Int) → ToD (gdz n 0 b) false (n - ol - 1) (w6 (a + unzig z)) q (o ++ [w6 (a + unzig z)])) := Lib.hid (fun hp => by
          have := toD_step HI.out (by simp) hp
          rwa [(rest_some hx).1, (rest_some hx).2.1, (rest_some hx).2.2.1] at this)
        have HNE : Hid (n - (ol : Int) ≤ 0 → gdz n 0 b = none) := Lib.hid (fun hp => by have hT := HI.out; unfold ToD at hT; rw [gdz_end hp hne] at hT; simpa using hT)
        rw [(rest_some hx).2.1, (rest_some hx).1, (rest_some hx).2.2.1] at hi
        clear hx hne
        have hw6 := w6_wrap64 (a + unzig z)
        generalize unzig z = uz at *
        have HU := Lib.hid hw6
        clear hw6
        by_cases hbig : n ≤ (ol : Int)
        · have hd : decide (n ≤ (ol : Int)) = true := by simpa using hbig
          go_wp2_with fail
          refine hi.mono ?_
          rintro e w4 ⟨rfl, s4, f4⟩
          clear cc0 cc1 ff0
          obtain ⟨Ar, cr, cc0, cc1, ff0, _⟩ := s4.cells
          have hf4 := (HF.out.fresh f4 (fun k e => by have : k = g := e; omega))
          clear f4
          go_wp2
          go_ret2
          exact ⟨gtn_no (HNE.out (by omega)), hf4⟩
        · have hd : decide (n ≤ (ol : Int)) = false := by simpa using hbig
          go_wp2_with fail
          refine hi.mono ?_
          rintro e w4 ⟨rfl, s4, f4⟩
          clear cc0 cc1 ff0
          obtain ⟨Ar, cr, cc0, cc1, ff0, _⟩ := s4.cells
          have hf4 := (HF.out.fresh f4 (fun k e => by have : k = g := e; omega))
          have hown4 := HO.out.fr f4 (fun k hk e => by have h1 := (HO.out.lt k hk).1; have : k = g := e; omega)
          have hB4 := Nat.le_trans hBr f4.size
          clear f4
          go_wp2_with (at_builtin; refine wpList_pushG el_i64 iv_oneC rfl (.tmp 33) (.tmp 35) rfl (g + 1) _ o rfl hown4 _ (w6 (a + uz)) (by rw [← HU.out]; rfl) rfl (by rw [HL.out]; omega) hB4 ?_; intro v5 w5 hown5 hf5)
          have hf5n := hf4.fresh hf5 (fun q hq => by have := (hown4.lt q hq).1; have := HW.out; omega)
          go_roundw
          case rel => exact ⟨q, o ++ [w6 (a + uz)], w6 (a + uz), hown5, by rw [← HU.out], .inl (by rw [List.length_append, HL.out]; simp; omega), by omega, s4.fr hf5 (fun e => by have := (hown4.lt _ e).1; omega) (fun q hq => by have := (hown4.lt _ hq).1; unfold GeD; omega), Lib.hid (by have := HST.out (by omega); rw [List.length_append, HL.out]; rwa [show n - (ol : Int) - 1 = n - ((ol + [w6 (a + uz)].length : Nat) : Int) by simp; omega] at this), Nat.le_trans hB4 hf5.size, hf5n⟩
          case measure => rw [slLen_vs hown5.vs, List.length_append, HL.out]; simp [slLen]; omega
end Go.Proofs.Ytnkdkpdofceohaa
