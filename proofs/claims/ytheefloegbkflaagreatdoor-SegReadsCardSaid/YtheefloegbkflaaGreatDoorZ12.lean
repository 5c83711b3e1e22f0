/-
  Joined: Layer 10: the document's Get.
-/
import Derived.Deep.RegionHeld3
import Derived.Lib.SmallJoins
import Derived.Test.YtheefloegbkflaaGreatDoorZ11
import Derived.Test.YtheefloegbkflaaGreatDoorZ6

namespace Go.Proofs.YtheefloegbkflaaGreatDoor
set_option linter.unusedVariables false
set_option linter.unusedSimpArgs false
set_option maxRecDepth 100000
open Go.RowKit

theorem rread_any (k : Nat) (h1 : 1 ≤ k) (h6 : k ≤ 6) (v : Value) (b : List UInt8) (n : Nat) (w : World) (hv : Bs w v b) (hvl : ∀ q, v.ownBlock = some q → q < w.heap.size) (hl : b.length ≤ 100000) (hn : n ≤ 400) :
    Calls Tryz.prog 92 #[.int .i64 (k : Nat), v, .int .i64 n] w fun e w' => Gtc w' w.heap.size (wayG k b n) e ∧ Fr Non w w' := by
  rcases (show k = 1 ∨ k = 2 ∨ k = 3 ∨ k = 4 ∨ k = 5 ∨ k = 6 by omega) with rfl | rfl | rfl | rfl | rfl | rfl
  · exact rread1_any v b n w hv hvl hl hn
  · exact rread2_any v b n w hv hvl hl hn
  · exact rread3_any v b n w hv hvl hl hn
  · exact rread4_any v b n w hv hvl hl hn
  · exact rread5_any v b n w hv hvl hl hn
  · exact rread6_any v b n w hv hvl hl hn

theorem mayC_two {ty : Int} {c : Cl} (h : c.null = false) : mayC ty true c = mayC ty false c := by
  unfold mayC; simp [h]
/-- all may be, joined, if the others may -/
theorem joinC_may {ty : Int} {t : List Bool} {o : List Cl} (h : o.length + cnt t = t.length) (hn : ∀ c ∈ o, c.null = false) (hty : isTy ty = true) : (joinC t o).all (mayC ty true) = o.all (mayC ty false) := by
  obtain ⟨_, j2, j3⟩ := joinC_parts t o h hn
  rw [Bool.eq_iff_iff, List.all_eq_true, List.all_eq_true]
  constructor
  · intro H c hc
    rw [← mayC_two (hn c hc)]
    rw [← j2] at hc
    exact H c (List.mem_filter.1 hc).1
  · intro H c hc
    rcases j3 c hc with rfl | hc
    · exact mayC_nil hty
    · rw [mayC_two (hn c hc)]; exact H c hc
theorem getC_ty {ty : Int} (b : List UInt8) (n : Nat) (h : waysOf ty = []) : getC ty b n = none := by
  by_cases hn : n ≤ 4096
  · cases ho : openC b n with
    | none => exact getC_shut ho
    | some p => rw [getC_open hn ho, readC_no (by rw [h]; simp)]; rfl
  · exact getC_out (.inr (by omega))
theorem getC_kind {ty : Int} {b : List UInt8} {n : Nat} (h : kindB b ∉ waysOf ty) : getC ty b n = none := by
  by_cases hn : n ≤ 4096
  · cases ho : openC b n with
    | none => exact getC_shut ho
    | some p => rw [getC_open hn ho, readC_no h]; rfl
  · exact getC_out (.inr (by omega))
theorem kind0 {ty : Int} {b : List UInt8} (h : kindB b = 0) : kindB b ∉ waysOf ty := by
  intro e; have := waysOf_pos ty _ e; omega
/-- which ways are a type's -/
theorem waysOf_mem {ty : Int} {K : Nat} (h1 : 1 ≤ ty) (h3 : ty ≤ 3) (hK1 : 1 ≤ K) (hK6 : K ≤ 6) : K ∈ waysOf ty ↔ (decide (5 ≤ (K : Int)) = (ty == 3)) := by
  rcases (show ty = 1 ∨ ty = 2 ∨ ty = 3 by omega) with rfl | rfl | rfl <;> rcases (show K = 1 ∨ K = 2 ∨ K = 3 ∨ K = 4 ∨ K = 5 ∨ K = 6 by omega) with rfl | rfl | rfl | rfl | rfl | rfl <;> decide
/-- what is behind the nulls: K the way's number, which may be none -/
def restC (ty : Int) (K : Nat) (nulls : List Bool) (rest : List UInt8) (n : Nat) : Option (List Cl) :=
  if 1 ≤ K ∧ K ≤ 6 then (readC ty K rest (n - cnt nulls)).map (joinC nulls) else none
theorem getC_plain {ty : Int} {c : UInt8} {r : List UInt8} {n : Nat} (hn : n ≤ 4096) (h : ¬ 8 < c.toNat) : getC ty (c :: r) n = restC ty c.toNat (List.replicate n false) r n := by
  unfold restC
  have hb : kindB (c :: r) = kindC c := rfl
  by_cases hk : 1 ≤ c.toNat ∧ c.toNat ≤ 6
  · rw [if_pos hk]
    have hs : someN c = false := by unfold someN; rw [beq_eq_false_iff_ne]; omega
    rw [getC_open hn (openC_none r n hs)]
    have e : kindC c = c.toNat := by unfold kindC; rw [if_pos (by omega)]; omega
    rw [hb, e]
  · rw [if_neg hk]
    refine getC_kind (kind0 ?_)
    rw [hb]; unfold kindC
    rw [if_neg (by omega)]
theorem getC_some {ty : Int} {c : UInt8} {r : List UInt8} {n K : Nat} (hn : n ≤ 4096) (h : c.toNat = K + 8) (h0 : 0 < K) (hk : need n ≤ r.length) (hf : Fit (r.take (need n)) n) (hc : 0 < cnt (unp (r.take (need n)) n)) : getC ty (c :: r) n = restC ty K (unp (r.take (need n)) n) (r.drop (need n)) n := by
  unfold restC
  have hb : kindB (c :: r) = kindC c := rfl
  by_cases h1 : 1 ≤ K ∧ K ≤ 6
  · rw [if_pos h1]
    have hs : someN c = true := by unfold someN; rw [beq_iff_eq]; omega
    rw [getC_open hn (openC_yes hs hk hf hc)]
    have e : kindC c = K := by unfold kindC; rw [if_pos (by omega)]; omega
    rw [hb, e]
  · rw [if_neg h1]
    refine getC_kind (kind0 ?_)
    rw [hb]; unfold kindC
    rw [if_neg (by omega)]
theorem getC_not {ty : Int} {c : UInt8} {r : List UInt8} {n : Nat} (h : 8 < c.toNat) (hx : ¬ (need n ≤ r.length ∧ Fit (r.take (need n)) n ∧ 0 < cnt (unp (r.take (need n)) n))) : getC ty (c :: r) n = none := by
  cases hs : someN c with
  | true => exact getC_shut (openC_no hs hx)
  | false =>
    refine getC_kind (kind0 ?_)
    show kindC c = 0
    have : ¬ (c.toNat / 8 % 2 = 1) := by unfold someN at hs; simpa using hs
    have := c.toNat_lt
    unfold kindC
    rw [if_neg (by omega)]
theorem getC_nil (ty n : Int) : getC ty [] n = none := by
  by_cases hn : n < 0
  · exact getC_out (.inl hn)
  · obtain ⟨m, rfl⟩ : ∃ m : Nat, n = (m : Int) := ⟨n.toNat, by omega⟩
    exact getC_shut (openC_nil m)
theorem gec_no {w : World} {B : Nat} {o : Option (List Cl)} (h : o = none) : Gec w B o (.returned (.tuple #[.slice none 0 0, .bool false])) := .inl ⟨h, rfl⟩

set_option maxHeartbeats 4000000 in
theorem rgetc_any (ty n : Int) (v : Value) (b : List UInt8) (w : World) (hv : Bs w v b) (hvl : ∀ q, v.ownBlock = some q → q < w.heap.size) (hl : b.length ≤ 100000) (h1 : -9223372036854775808 ≤ n) (hn : n ≤ 400) :
    Calls Tryz.prog 50 #[.int .i64 ty, v, .int .i64 n] w fun e w' => Gec w' w.heap.size (getC ty b n) e ∧ Fr Non w w' := by
  have HV := Lib.hid hv
  have HVl := Lib.hid hvl
  clear hvl
  obtain ⟨A, c, rfl, hlc, hno, hcell⟩ := hv
  have d400 : decide (400 < n) = false := by simpa using hn
  cases b with
  | nil =>
    have HG := Lib.hid (getC_nil ty n)
    clear hlc hno hcell
    go_enter Tryz.func50, Tryz.ntmps50
    go_wp2
    go_ret2
    exact ⟨gec_no HG.out, Fr.refl _ _⟩
  | cons x r =>
    have hbig : ((r.length : Int) + 1 == 0) = false := by rw [beq_eq_false_iff_ne]; omega
    by_cases h0 : n < 0
    · have HG := Lib.hid (getC_out (ty := ty) (b := x :: r) (.inl h0))
      have d0 : decide (n < 0) = true := by simpa using h0
      clear hlc hno hcell h0 h1 hn
      go_enter Tryz.func50, Tryz.ntmps50
      go_wp2
      go_ret2
      exact ⟨gec_no HG.out, Fr.refl _ _⟩
    · have d0 : decide (n < 0) = false := by simpa using h0
      obtain ⟨m, rfl⟩ : ∃ m : Nat, n = (m : Int) := ⟨n.toNat, by omega⟩
      by_cases ht1 : ty < 1
      · have HG := Lib.hid (getC_ty (ty := ty) (x :: r) m (waysOf_no (by omega) (by omega) (by omega)))
        have d1 : decide (ty < 1) = true := by simpa using ht1
        clear hlc hno hcell h0 h1 hn ht1
        go_enter Tryz.func50, Tryz.ntmps50
        go_wp2
        go_ret2
        exact ⟨gec_no HG.out, Fr.refl _ _⟩
      · have d1 : decide (ty < 1) = false := by simpa using ht1
        by_cases ht3 : 3 < ty
        · have HG := Lib.hid (getC_ty (ty := ty) (x :: r) m (waysOf_no (by omega) (by omega) (by omega)))
          have d3 : decide (3 < ty) = true := by simpa using ht3
          clear hlc hno hcell h0 h1 hn ht1 ht3
          go_enter Tryz.func50, Tryz.ntmps50
          go_wp2
          go_ret2
          exact ⟨gec_no HG.out, Fr.refl _ _⟩
        · have d3 : decide (3 < ty) = false := by simpa using ht3
          cases A with
          | none => have := hno rfl; simp at hlc; omega
          | some a =>
            have g0 : w.cell? (a.add 0) = some (bv x) := hcell a rfl 0 (by simp)
            have g1 : w.cell? a = some (bv x) := by rw [add0 a] at g0; exact g0
            obtain ⟨A1, c1, hsl, hrest, hob⟩ := slice_lo (some a) (r.length + 1) c 1 .i64 1 rfl (by omega) (by simpa using hlc)
            rw [Nat.add_sub_cancel] at hsl hrest hob
            have HR : Hid (Bs w (.slice A1 r.length c1) r) := Lib.hid (hrest w (x :: r) rfl HV.out)
            have HRl : Hid (∀ q, (Value.slice A1 r.length c1).ownBlock = some q → q < w.heap.size) := Lib.hid (fun q hq => HVl.out q (by rw [hob] at hq; exact hq))
            have hrl : r.length ≤ 100000 := by simp at hl; omega
            have hm : m ≤ 400 := by omega
            have hty : isTy ty = true := by rcases (show ty = 1 ∨ ty = 2 ∨ ty = 3 by omega) with rfl | rfl | rfl <;> rfl
            have HTy := Lib.hid hty
            have HMem := Lib.hid (fun K h1 h6 => waysOf_mem (ty := ty) (K := K) (by omega) (by omega) h1 h6)
            have HP := Lib.hid (fun h => getC_plain (ty := ty) (c := x) (r := r) (n := m) (by omega) h)
            have HS := Lib.hid (fun K h h0 hk hf hc => getC_some (ty := ty) (c := x) (r := r) (n := m) (K := K) (by omega) h h0 hk hf hc)
            have HNot := Lib.hid (fun h hx => getC_not (ty := ty) (c := x) (r := r) (n := m) h hx)
            unfold bv at g0 g1
            have hq256 := x.toNat_lt
            have hlc2 : r.length + 1 ≤ c := by simpa using hlc
            have hc1 : r.length ≤ c1 := by
              obtain ⟨A0, c0, he, h, _⟩ := HR.out
              simp only [Value.slice.injEq] at he
              obtain ⟨_, _, rfl⟩ := he
              simpa using h
            clear hrest hob hno hcell hlc h0 h1 hn ht1 ht3 hl hty
            generalize getC ty (x :: r) m = G at *
            generalize x.toNat = q at *
            by_cases h8 : 8 < q
            · have d8 : decide (8 < (q : Int)) = true := by simp; omega
              have HNo := Lib.hid (fun h => HNot.out h8 h)
              obtain ⟨K, rfl⟩ : ∃ K, q = K + 8 := ⟨q - 8, by omega⟩
              have HG0 := Lib.hid (fun hk hf hc => HS.out K rfl (by omega) hk hf hc)
              have hK8 : (((K + 8 : Nat) : Int)) = (K : Int) + 8 := by push_cast; rfl
              rw [hK8] at g0 g1 d8
              clear HP HS HNot h8 hK8
              have hnd1 : ((m : Int) + 7) / 8 = ((need m : Nat) : Int) := by unfold need; omega
              have hnd2 : Int.tdiv ((m : Int) + 7) 8 = ((need m : Nat) : Int) := by rw [Int.tdiv_eq_ediv_of_nonneg (by omega)]; exact hnd1
              generalize need m = nd at *
              by_cases hk : nd ≤ r.length
              · have dk : decide (r.length < nd) = false := by simp; omega
                obtain ⟨A2, c2, hs2, ht2, ho2⟩ := slice_hi A1 r.length c1 nd .i64 (nd : Int) rfl hk hc1
                obtain ⟨A3, c3, hs3, ht3, ho3⟩ := slice_lo A1 r.length c1 nd .i64 (nd : Int) rfl hk hc1
                have HR2 := Lib.hid (ht2 w r rfl HR.out)
                have HR3 := Lib.hid (ht3 w r rfl HR.out)
                have HRl3 : Hid (∀ q, (Value.slice A3 (r.length - nd) c3).ownBlock = some q → q < w.heap.size) := Lib.hid (fun q hq => HRl.out q (by rw [ho3] at hq; exact hq))
                have htl : (r.take nd).length ≤ 100000 := by rw [List.length_take]; omega
                have hrl3 : (r.drop nd).length ≤ 100000 := by rw [List.length_drop]; omega
                have HNN := Lib.hid (fun (h : ¬ (Fit (r.take nd) m ∧ 0 < cnt (unp (r.take nd) m))) => HNo.out (fun h' => h h'.2))
                have HGG0 := Lib.hid (fun hf hc => HG0.out hk hf hc)
                clear ht2 ht3 ho2 ho3 HNo HG0 HRl HR hk
                generalize hTT : r.take nd = TT at *
                generalize hDD : r.drop nd = rs at *
                clear hTT hDD
                go_enter Tryz.func50, Tryz.ntmps50
                go_wp2
                go_quiet (fail)
                go_wp2_with (at_make; refine wpList_mkfullG el_bool false rfl rfl _ _ rfl _ _ _ _ m rfl rfl rfl rfl (by omega) ?_; intro w2 hown2 hfr2)
                have HF2 : Hid (Fr Non w w2) := Lib.hid (((Fr.refl _ _).drewN _).trans hfr2)
                clear hown2 hfr2
                refine (runpack_any (.slice A2 nd c2) TT m w2 (HR2.out.non HF2.out) htl (by omega) (by omega)).mono ?_
                rintro e w5 ⟨hU, hf5⟩
                have HF5 := Lib.hid (HF2.out.trans hf5)
                clear hf5 HF2
                rcases hU with ⟨hno, rfl⟩ | ⟨⟨_, hfit⟩, u5, rfl, ho5⟩
                · have HN := Lib.hid (HNN.out fun h => hno ⟨by omega, by simpa using h.1⟩)
                  clear hno HNN HGG0
                  go_wp2
                  go_ret2
                  exact ⟨gec_no HN.out, HF5.out⟩
                · rw [Int.toNat_natCast] at hfit ho5
                  have HGG1 := Lib.hid (fun hc => HGG0.out hfit hc)
                  have HNN1 := Lib.hid (fun (h : ¬ 0 < cnt (unp TT m)) => HNN.out fun h' => h h'.2)
                  have hul : (unp TT m).length = m := unp_length _ _
                  clear hfit HNN HGG0
                  generalize unp TT m = nulls at *
                  have HNl := Lib.hid hul
                  have HO5 := Lib.hid ho5
                  clear hul
                  obtain ⟨AT, cT, he⟩ := ho5.shape
                  rw [HNl.out] at he
                  subst he
                  clear ho5
                  have hcl := cnt_le nulls
                  rw [HNl.out] at hcl
                  go_wp2_with fail
                  refine (rplaces_any _ nulls w5 HO5.out.vs (by rw [HNl.out]; omega)).mono ?_
                  rintro e WW ⟨u6, rfl, ho6, hf6⟩
                  have HF := Lib.hid (HF5.out.trans hf6)
                  have HT := Lib.hid (HO5.out.vs.non hf6)
                  have hsh := ho6.shape
                  rw [plc_len] at hsh
                  clear ho6 HO5 HF5 hf6
                  by_cases hc : 0 < cnt nulls
                  · have HG := Lib.hid (HGG1.out hc)
                    have hc0 : ((cnt nulls : Int) == 0) = false := by rw [beq_eq_false_iff_ne]; omega
                    have HRs := Lib.hid (HR3.out.non HF.out)
                    have HRl : Hid (∀ q, (Value.slice A3 (r.length - nd) c3).ownBlock = some q → q < WW.heap.size) := Lib.hid (fun q hq => Nat.lt_of_lt_of_le (HRl3.out q hq) HF.out.size)
                    have hrl := hrl3
                    obtain ⟨A6, c6, rfl⟩ := hsh
                    clear HGG1 HNN1 hc HR3 HRl3 hrl3
                    by_cases hk1 : K < 1
                    · have dk1 : decide ((K : Int) < 1) = true := by simp; omega
                      have HN : Hid (G = none) := Lib.hid (by rw [HG.out]; unfold restC; rw [if_neg (by omega)])
                      clear hk1
                      go_wp2
                      go_ret2
                      exact ⟨gec_no HN.out, HF.out⟩
                    · have dk1 : decide ((K : Int) < 1) = false := by simp; omega
                      by_cases hk6 : 6 < K
                      · have dk6 : decide (6 < (K : Int)) = true := by simp; omega
                        have HN : Hid (G = none) := Lib.hid (by rw [HG.out]; unfold restC; rw [if_neg (by omega)])
                        clear hk1 hk6
                        go_wp2
                        go_ret2
                        exact ⟨gec_no HN.out, HF.out⟩
                      · have dk6 : decide (6 < (K : Int)) = false := by simp; omega
                        have hK1 : 1 ≤ K := by omega
                        have hK6 : K ≤ 6 := by omega
                        have HGr : Hid (G = (readC ty K rs (m - cnt nulls)).map (joinC nulls)) := Lib.hid (by rw [HG.out]; unfold restC; rw [if_pos ⟨hK1, hK6⟩])
                        have hmem := HMem.out K hK1 hK6
                        clear hk1 hk6 HMem HG
                        by_cases hm5 : K ∈ waysOf ty
                        · have he := hmem.1 hm5
                          have dne : (decide (5 ≤ (K : Int)) == (ty == 3)) = true := by rw [he]; simp
                          have HM5 := Lib.hid hm5
                          clear hmem hm5
                          skip
                          have hcl := cnt_le nulls
                          rw [HNl.out] at hcl
                          have HRd := Lib.hid (fun W (hf : Fr Non WW W) => rread_any K hK1 hK6 (.slice A3 (r.length - nd) c3) rs (m - cnt nulls) W (HRs.out.non hf) (fun q hq => Nat.lt_of_lt_of_le (HRl.out q hq) hf.size) hrl (by omega))
                          have HPl := Lib.hid (rplaces_any (.slice AT m cT) nulls WW HT.out (by rw [HNl.out]; omega))
                          have HJ0 := Lib.hid (fun l h => joi_zero nulls l h)
                          generalize hcc : cnt nulls = cc at *
                          have HCC := Lib.hid hcc
                          clear hcc he
                          go_wp2_with fail
                          refine HPl.out.mono ?_
                          rintro e w7 ⟨u7, rfl, ho7, hf7⟩
                          have hsh := ho7.shape
                          rw [plc_len, HCC.out] at hsh
                          obtain ⟨A7, c7, rfl⟩ := hsh
                          have HF7 := Lib.hid hf7
                          have HRd7 : Hid (∀ z : Int, z = (m : Int) - (cc : Nat) → Calls Tryz.prog 92 #[.int .i64 (K : Nat), (.slice A3 (r.length - nd) c3), .int .i64 z] w7 fun e w' => Gtc w' w7.heap.size (wayG K rs (m - cc)) e ∧ Fr Non w7 w') := Lib.hid (fun z hz => by
                            obtain rfl : z = ((m - cc : Nat) : Int) := by omega
                            exact HRd.out w7 hf7)
                          clear ho7 hf7 HPl HRd
                          go_wp2_with fail
                          refine (HRd7.out _ ?_).mono ?_
                          · first | rfl | (push_cast; omega)
                          rintro e w4 ⟨hG, hf4⟩
                          have HF4 := Lib.hid ((HF.out.trans HF7.out).trans hf4)
                          have HT4 := Lib.hid (HT.out.non (HF7.out.trans hf4))
                          clear HRd7 hf4
                          rcases hG with ⟨hg, u, l, rfl, _⟩ | ⟨l, u, hg, rfl, ho4⟩
                          · have HN : Hid (G = none) := Lib.hid (by rw [HGr.out, readC_none hg]; rfl)
                            clear hg
                            go_wp2
                            go_ret2
                            exact ⟨gec_no HN.out, HF4.out⟩
                          · obtain ⟨_, hll, hnn⟩ := wayG_is hg
                            have HAll := Lib.hid (joinC_may (ty := ty) (t := nulls) (o := l) (by rw [hll, HNl.out, HCC.out]; omega) (fun c hc => (hnn c hc).1) HTy.out)
                            have HGj : Hid (G = if (joinC nulls l).all (mayC ty true) = true then some (joinC nulls l) else none) := Lib.hid (by
                              rw [HGr.out, HAll.out]
                              cases hal : l.all (mayC ty false) with
                              | true => rw [readC_yes HM5.out hg hal]; simp
                              | false => rw [readC_bad hg hal]; simp)
                            have HJ1 := Lib.hid (HJ0.out l (by rw [hll, HNl.out]; omega))
                            have HL4 := Lib.hid ho4.cs
                            have hl4 : l.length ≤ 400 := by omega
                            obtain ⟨AL, cL, rfl⟩ := ho4.shape
                            clear hg hnn HAll HGr HJ0 HM5 hll ho4
                            go_wp2
                            have hO0 : Oc (w4.alloc (.cells #[] 54)) w4.heap.size (.slice (some ⟨w4.heap.size, 0, none⟩) 0 0) [] := oc_lit0 w4 w4.heap.size w4.heap.size rfl (Nat.le_refl _)
                            have hf0 : Fr Non w4 (w4.alloc (.cells #[] 54)) := (Fr.refl _ _).alloc _
                            generalize hgg : w4.heap.size = g at *
                            have HGG := Lib.hid hgg
                            clear hgg
                            go_loopw [17, 18, 19] (fun o at_ i wr => ∃ (k a : Nat) (D : List Cl), k ≤ m ∧ i = .int .i64 k ∧ at_ = .int .i64 a ∧ Hid (Joi nulls l k D (l.drop a)) ∧ a ≤ l.length ∧ Hid (D.all (mayC ty true) = true) ∧ Oc wr g o D ∧ Fr Non w4 wr) (fun _ _ i _ => m - (intOf i).toNat)
                            case atStart => exact ⟨0, 0, [], Nat.zero_le _, rfl, rfl, Lib.hid (by rw [List.drop_zero]; exact HJ1.out), Nat.zero_le _, Lib.hid rfl, hO0, hf0⟩
                            case round =>
                              clear hO0 hf0 HJ1
                              obtain ⟨k, a, D, hk, rfl, rfl, HJ, ha, HA, hO, hfr⟩ := hrel
                              have hDl := HJ.out.1
                              by_cases hlt : k < m
                              · obtain ⟨aT, hAT, hh1, hh2, hcell⟩ := HT4.out.addr (by omega)
                                clear hh1 hh2
                                subst hAT
                                have hkn : k < nulls.length := by rw [HNl.out]; exact hlt
                                have hct := hcell k hkn
                                have hfa : Fr Non w4 (wr.alloc (.cells #[.bool true, .int .i64 0, .string ⟨#[]⟩] 54)) := hfr.alloc _
                                have hct2 := (hfa.cell (World.block_lt_of_cell? w4 _ hct) (fun e => e)).trans hct
                                unfold tv at hct2
                                clear hct hcell
                                have hC0 := cl_new wr ⟨true, 0, []⟩
                                have hB := hfr.size
                                cases hx : nulls[k] with
                                | true =>
                                  rw [hx] at hct2
                                  have HJ2 := Lib.hid (joi_yes HJ.out hkn hx)
                                  have hm := fun W => rmay_any ty true ⟨true, 0, []⟩ W
                                  rw [mayC_nil HTy.out] at hm
                                  unfold clV clC at hm
                                  dsimp only at hm
                                  have HA2 : Hid ((D ++ [(⟨true, 0, []⟩ : Cl)]).all (mayC ty true) = true) := Lib.hid (by rw [List.all_append, HA.out]; simp [mayC_nil HTy.out])
                                  obtain ⟨d0, d1, d2, _, _, _⟩ := hC0.facts
                                  dsimp only at d0 d1 d2
                                  have HO := Lib.hid hO
                                  have HFr := Lib.hid hfr
                                  have HC0 := Lib.hid hC0
                                  clear hx hO hfr hC0 hfa
                                  go_wp2_with fail
                                  refine (hm _).mono ?_
                                  rintro e w5 ⟨rfl, hf5⟩
                                  have hC5 : ClB w5 wr.heap.size ⟨true, 0, []⟩ := HC0.out.fr hf5 (fun e => e)
                                  obtain ⟨e0, e1, e2, _, _, _⟩ := hC5.facts
                                  dsimp only at e0 e1 e2
                                  have hO5 := (HO.out.alloc (.cells #[.bool true, .int .i64 0, .string ⟨([] : List UInt8).toArray⟩] 54)).non hf5
                                  have hfr5 := (HFr.out.alloc (.cells #[.bool true, .int .i64 0, .string ⟨([] : List UInt8).toArray⟩] 54)).trans hf5
                                  have hB5 := hfr5.size
                                  have HFr5 := Lib.hid hfr5
                                  clear d0 d1 d2 hm hC5 hf5 hfr5 hct2
                                  go_wp2_with (at_builtin; refine wpList_pushC rfl (.tmp 130) (.tmp 132) rfl g _ _ rfl hO5 ⟨true, 0, []⟩ _ _ _ rfl rfl rfl _ rfl (by simp) (by omega) (by have := HGG.out; omega) ?_; intro v6 w6 hown6 hf6)
                                  have hfr6 := HFr5.out.fresh hf6 (fun q hq => by have := (hO5.lt q hq).1; have := HGG.out; omega)
                                  go_roundw
                                  case rel => exact ⟨k + 1, a, _, by omega, by go_num, rfl, HJ2, ha, HA2, hown6, hfr6⟩
                                  case measure => simp [intOf]; omega
                                | false =>
                                  rw [hx] at hct2
                                  obtain ⟨y, q', hdr, hJ2⟩ := joi_no HJ.out hkn hx
                                  have hal : a < l.length := by
                                    have := congrArg List.length hdr
                                    rw [List.length_drop, List.length_cons] at this; omega
                                  have hyl : l[a] = y ∧ l.drop (a + 1) = q' := by
                                    rw [List.drop_eq_getElem_cons hal, List.cons.injEq] at hdr
                                    exact hdr
                                  rw [← hyl.2] at hJ2
                                  have HJ2 := Lib.hid hJ2
                                  obtain ⟨aL, hAL, hh1, hh2, hat⟩ := HL4.out.addr (by omega)
                                  clear hh1 hh2 hJ2 hdr
                                  subst hAL
                                  obtain ⟨q0, q1, q2⟩ := (hfa.at3 (hat a hal)).lit
                                  rw [hyl.1] at q0 q1 q2
                                  clear hyl hat hx hfa
                                  have hm := fun W => rmay_any ty true y W
                                  obtain ⟨yn, yi, yt⟩ := y
                                  have hS := cl_new wr ⟨yn, yi, yt⟩
                                  obtain ⟨z0, z1, z2, _, _, _⟩ := hS.facts
                                  dsimp only at z0 z1 z2
                                  obtain ⟨d0, d1, d2, p0, p1, p2⟩ := hC0.facts
                                  dsimp only at d0 d1 d2
                                  unfold clV clC at hm
                                  dsimp only at hm
                                  have HS := Lib.hid hS
                                  have HO := Lib.hid hO
                                  have HFr := Lib.hid hfr
                                  clear hS hO hfr hC0
                                  cases hmy : mayC ty true ⟨yn, yi, yt⟩ with
                                  | true =>
                                    rw [hmy] at hm
                                    have HA2 : Hid ((D ++ [(⟨yn, yi, yt⟩ : Cl)]).all (mayC ty true) = true) := Lib.hid (by rw [List.all_append, HA.out]; simp [hmy])
                                    clear hmy
                                    go_wp2_with fail
                                    refine (hm _).mono ?_
                                    rintro e w5 ⟨rfl, hf5⟩
                                    have hC5 : ClB w5 wr.heap.size ⟨yn, yi, yt⟩ := HS.out.fr hf5 (fun e => e)
                                    clear d0 d1 d2 z0 z1 z2 p0 p1 p2
                                    obtain ⟨e0, e1, e2, _, _, _⟩ := hC5.facts
                                    dsimp only at e0 e1 e2
                                    have hO5 := (HO.out.alloc (.cells #[.bool yn, .int .i64 yi, .string ⟨yt.toArray⟩] 54)).non hf5
                                    have hfr5 := (HFr.out.alloc (.cells #[.bool yn, .int .i64 yi, .string ⟨yt.toArray⟩] 54)).trans hf5
                                    have hB5 := hfr5.size
                                    have HFr5 := Lib.hid hfr5
                                    clear hm hC5 hf5 hfr5 hct2 q0 q1 q2
                                    go_wp2_with (at_builtin; refine wpList_pushC rfl (.tmp 130) (.tmp 132) rfl g _ _ rfl hO5 ⟨yn, yi, yt⟩ _ _ _ rfl rfl rfl _ rfl (by simp) (by omega) (by have := HGG.out; omega) ?_; intro v6 w6 hown6 hf6)
                                    have hfr6 := HFr5.out.fresh hf6 (fun q hq => by have := (hO5.lt q hq).1; have := HGG.out; omega)
                                    go_roundw
                                    case rel => exact ⟨k + 1, a + 1, _, by omega, by go_num, by go_num, HJ2, by omega, HA2, hown6, hfr6⟩
                                    case measure => simp [intOf]; omega
                                  | false =>
                                    rw [hmy] at hm
                                    have HA2 : Hid ((joinC nulls l).all (mayC ty true) = false) := Lib.hid (by
                                      rw [HJ2.out.2.1]; simp [hmy])
                                    clear hmy
                                    go_wp2_with fail
                                    refine (hm _).mono ?_
                                    rintro e w5 ⟨rfl, hf5⟩
                                    have HN : Hid (G = none) := Lib.hid (by rw [HGj.out, HA2.out]; rfl)
                                    have hF5 := HF4.out.trans ((HFr.out.alloc _).trans hf5)
                                    go_wp2
                                    go_ret2
                                    exact ⟨gec_no HN.out, hF5⟩
                              · obtain rfl : k = m := by omega
                                have HE : Hid (G = some D) := Lib.hid (by
                                  have h1 := HJ.out
                                  rw [show k = nulls.length from HNl.out.symm] at h1
                                  have h2 := joi_all h1
                                  rw [HGj.out, h2, if_pos HA.out])
                                go_wp2
                                go_ret2
                                exact ⟨.inr ⟨_, _, HE.out, rfl, hO.mono (by have := HGG.out; have := HF4.out.size; omega)⟩, HF4.out.trans hfr⟩
                        · have HN : Hid (G = none) := Lib.hid (by rw [HGr.out, readC_no hm5]; rfl)
                          have dne : (decide (5 ≤ (K : Int)) == (ty == 3)) = false := by
                            rw [beq_eq_false_iff_ne]; exact fun e => hm5 (hmem.2 e)
                          clear hmem hm5
                          go_wp2
                          go_ret2
                          exact ⟨gec_no HN.out, HF.out⟩
                  · have HN := Lib.hid (HNN1.out hc)
                    have hc0 : ((cnt nulls : Int) == 0) = true := by rw [beq_iff_eq]; omega
                    obtain ⟨A6, c6, rfl⟩ := hsh
                    clear HGG1 HNN1 hc
                    go_wp2
                    go_ret2
                    exact ⟨gec_no HN.out, HF.out⟩
              · have HN := Lib.hid (HNo.out (fun h => hk h.1))
                have dk : decide (r.length < nd) = true := by simp; omega
                clear hk HG0 HNo
                go_enter Tryz.func50, Tryz.ntmps50
                go_wp2
                go_quiet (fail)
                go_wp2_with (at_make; refine wpList_mkfullG el_bool false rfl rfl _ _ rfl _ _ _ _ m rfl rfl rfl rfl (by omega) ?_; intro w2 hown2 hfr2)
                go_ret2
                exact ⟨gec_no HN.out, ((Fr.refl _ _).drewN _).trans hfr2⟩
            · have d8 : decide (8 < (q : Int)) = false := by simp; omega
              have HG := Lib.hid (HP.out h8)
              clear HP HS HNot h8
              have HNl : Hid ((List.replicate m false).length = m) := Lib.hid (List.length_replicate ..)
              generalize hnu : List.replicate m false = nulls at *
              have HNu := Lib.hid hnu
              clear hnu
              generalize q = K at *
              generalize r = rs at *
              by_cases hk1 : K < 1
              · have dk1 : decide ((K : Int) < 1) = true := by simp; omega
                have HN : Hid (G = none) := Lib.hid (by rw [HG.out]; unfold restC; rw [if_neg (by omega)])
                clear hk1
                go_enter Tryz.func50, Tryz.ntmps50
                go_wp2
                go_quiet (fail)
                rename_i nq
                go_wp2_with (at_make; refine wpList_mkfullG el_bool false rfl rfl _ _ rfl _ _ _ _ m rfl rfl rfl rfl (by omega) ?_; intro WW hown2 hfr2)
                have HF : Hid (Fr Non w WW) := Lib.hid (((Fr.refl _ _).drewN _).trans hfr2)
                go_ret2
                exact ⟨gec_no HN.out, HF.out⟩
              · have dk1 : decide ((K : Int) < 1) = false := by simp; omega
                by_cases hk6 : 6 < K
                · have dk6 : decide (6 < (K : Int)) = true := by simp; omega
                  have HN : Hid (G = none) := Lib.hid (by rw [HG.out]; unfold restC; rw [if_neg (by omega)])
                  clear hk1 hk6
                  go_enter Tryz.func50, Tryz.ntmps50
                  go_wp2
                  go_quiet (fail)
                  rename_i nq
                  go_wp2_with (at_make; refine wpList_mkfullG el_bool false rfl rfl _ _ rfl _ _ _ _ m rfl rfl rfl rfl (by omega) ?_; intro WW hown2 hfr2)
                  have HF : Hid (Fr Non w WW) := Lib.hid (((Fr.refl _ _).drewN _).trans hfr2)
                  go_ret2
                  exact ⟨gec_no HN.out, HF.out⟩
                · have dk6 : decide (6 < (K : Int)) = false := by simp; omega
                  have hK1 : 1 ≤ K := by omega
                  have hK6 : K ≤ 6 := by omega
                  have HGr : Hid (G = (readC ty K rs (m - cnt nulls)).map (joinC nulls)) := Lib.hid (by rw [HG.out]; unfold restC; rw [if_pos ⟨hK1, hK6⟩])
                  have hmem := HMem.out K hK1 hK6
                  clear hk1 hk6 HMem HG
                  by_cases hm5 : K ∈ waysOf ty
                  · have he := hmem.1 hm5
                    have dne : (decide (5 ≤ (K : Int)) == (ty == 3)) = true := by rw [he]; simp
                    have HM5 := Lib.hid hm5
                    clear hmem hm5
                    go_enter Tryz.func50, Tryz.ntmps50
                    go_wp2
                    go_quiet (fail)
                    rename_i nq
                    go_wp2_with (at_make; refine wpList_mkfullG el_bool false rfl rfl _ _ rfl _ _ _ _ m rfl rfl rfl rfl (by omega) ?_; intro WW hown2 hfr2)
                    have HF : Hid (Fr Non w WW) := Lib.hid (((Fr.refl _ _).drewN _).trans hfr2)
                    
                    rw [HNu.out] at hown2
                    have HT : Hid (Vs tv WW (.slice (some ⟨w.heap.size, 0, none⟩) m m) nulls) := Lib.hid hown2.vs
                    have HRs := Lib.hid (HR.out.non HF.out)
                    have HRl2 : Hid (∀ q, (Value.slice A1 rs.length c1).ownBlock = some q → q < WW.heap.size) := Lib.hid (fun q hq => Nat.lt_of_lt_of_le (HRl.out q hq) HF.out.size)
                    clear hown2 hfr2 HR HRl
                    have HRl := HRl2
                    clear HRl2
                    generalize (some (⟨w.heap.size, 0, none⟩ : Addr)) = AT at *
                    have hcl := cnt_le nulls
                    rw [HNl.out] at hcl
                    have HRd := Lib.hid (fun W (hf : Fr Non WW W) => rread_any K hK1 hK6 (.slice A1 rs.length c1) rs (m - cnt nulls) W (HRs.out.non hf) (fun q hq => Nat.lt_of_lt_of_le (HRl.out q hq) hf.size) hrl (by omega))
                    have HPl := Lib.hid (rplaces_any (.slice AT m m) nulls WW HT.out (by rw [HNl.out]; omega))
                    have HJ0 := Lib.hid (fun l h => joi_zero nulls l h)
                    generalize hcc : cnt nulls = cc at *
                    have HCC := Lib.hid hcc
                    clear hcc he
                    skip
                    refine HPl.out.mono ?_
                    rintro e w7 ⟨u7, rfl, ho7, hf7⟩
                    have hsh := ho7.shape
                    rw [plc_len, HCC.out] at hsh
                    obtain ⟨A7, c7, rfl⟩ := hsh
                    have HF7 := Lib.hid hf7
                    have HRd7 : Hid (∀ z : Int, z = (m : Int) - (cc : Nat) → Calls Tryz.prog 92 #[.int .i64 (K : Nat), (.slice A1 rs.length c1), .int .i64 z] w7 fun e w' => Gtc w' w7.heap.size (wayG K rs (m - cc)) e ∧ Fr Non w7 w') := Lib.hid (fun z hz => by
                      obtain rfl : z = ((m - cc : Nat) : Int) := by omega
                      exact HRd.out w7 hf7)
                    clear ho7 hf7 HPl HRd
                    go_wp2_with fail
                    refine (HRd7.out _ ?_).mono ?_
                    · first | rfl | (push_cast; omega)
                    rintro e w4 ⟨hG, hf4⟩
                    have HF4 := Lib.hid ((HF.out.trans HF7.out).trans hf4)
                    have HT4 := Lib.hid (HT.out.non (HF7.out.trans hf4))
                    clear HRd7 hf4
                    rcases hG with ⟨hg, u, l, rfl, _⟩ | ⟨l, u, hg, rfl, ho4⟩
                    · have HN : Hid (G = none) := Lib.hid (by rw [HGr.out, readC_none hg]; rfl)
                      clear hg
                      go_wp2
                      go_ret2
                      exact ⟨gec_no HN.out, HF4.out⟩
                    · obtain ⟨_, hll, hnn⟩ := wayG_is hg
                      have HAll := Lib.hid (joinC_may (ty := ty) (t := nulls) (o := l) (by rw [hll, HNl.out, HCC.out]; omega) (fun c hc => (hnn c hc).1) HTy.out)
                      have HGj : Hid (G = if (joinC nulls l).all (mayC ty true) = true then some (joinC nulls l) else none) := Lib.hid (by
                        rw [HGr.out, HAll.out]
                        cases hal : l.all (mayC ty false) with
                        | true => rw [readC_yes HM5.out hg hal]; simp
                        | false => rw [readC_bad hg hal]; simp)
                      have HJ1 := Lib.hid (HJ0.out l (by rw [hll, HNl.out]; omega))
                      have HL4 := Lib.hid ho4.cs
                      have hl4 : l.length ≤ 400 := by omega
                      obtain ⟨AL, cL, rfl⟩ := ho4.shape
                      clear hg hnn HAll HGr HJ0 HM5 hll ho4
                      go_wp2
                      have hO0 : Oc (w4.alloc (.cells #[] 54)) w4.heap.size (.slice (some ⟨w4.heap.size, 0, none⟩) 0 0) [] := oc_lit0 w4 w4.heap.size w4.heap.size rfl (Nat.le_refl _)
                      have hf0 : Fr Non w4 (w4.alloc (.cells #[] 54)) := (Fr.refl _ _).alloc _
                      generalize hgg : w4.heap.size = g at *
                      have HGG := Lib.hid hgg
                      clear hgg
                      go_loopw [17, 18, 19] (fun o at_ i wr => ∃ (k a : Nat) (D : List Cl), k ≤ m ∧ i = .int .i64 k ∧ at_ = .int .i64 a ∧ Hid (Joi nulls l k D (l.drop a)) ∧ a ≤ l.length ∧ Hid (D.all (mayC ty true) = true) ∧ Oc wr g o D ∧ Fr Non w4 wr) (fun _ _ i _ => m - (intOf i).toNat)
                      case atStart => exact ⟨0, 0, [], Nat.zero_le _, rfl, rfl, Lib.hid (by rw [List.drop_zero]; exact HJ1.out), Nat.zero_le _, Lib.hid rfl, hO0, hf0⟩
                      case round =>
                        clear hO0 hf0 HJ1
                        obtain ⟨k, a, D, hk, rfl, rfl, HJ, ha, HA, hO, hfr⟩ := hrel
                        have hDl := HJ.out.1
                        by_cases hlt : k < m
                        · obtain ⟨aT, hAT, hh1, hh2, hcell⟩ := HT4.out.addr (by omega)
                          clear hh1 hh2
                          subst hAT
                          have hkn : k < nulls.length := by rw [HNl.out]; exact hlt
                          have hct := hcell k hkn
                          have hfa : Fr Non w4 (wr.alloc (.cells #[.bool true, .int .i64 0, .string ⟨#[]⟩] 54)) := hfr.alloc _
                          have hct2 := (hfa.cell (World.block_lt_of_cell? w4 _ hct) (fun e => e)).trans hct
                          unfold tv at hct2
                          clear hct hcell
                          have hC0 := cl_new wr ⟨true, 0, []⟩
                          have hB := hfr.size
                          cases hx : nulls[k] with
                          | true =>
                            rw [hx] at hct2
                            have HJ2 := Lib.hid (joi_yes HJ.out hkn hx)
                            have hm := fun W => rmay_any ty true ⟨true, 0, []⟩ W
                            rw [mayC_nil HTy.out] at hm
                            unfold clV clC at hm
                            dsimp only at hm
                            have HA2 : Hid ((D ++ [(⟨true, 0, []⟩ : Cl)]).all (mayC ty true) = true) := Lib.hid (by rw [List.all_append, HA.out]; simp [mayC_nil HTy.out])
                            obtain ⟨d0, d1, d2, _, _, _⟩ := hC0.facts
                            dsimp only at d0 d1 d2
                            have HO := Lib.hid hO
                            have HFr := Lib.hid hfr
                            have HC0 := Lib.hid hC0
                            clear hx hO hfr hC0 hfa
                            go_wp2_with fail
                            refine (hm _).mono ?_
                            rintro e w5 ⟨rfl, hf5⟩
                            have hC5 : ClB w5 wr.heap.size ⟨true, 0, []⟩ := HC0.out.fr hf5 (fun e => e)
                            obtain ⟨e0, e1, e2, _, _, _⟩ := hC5.facts
                            dsimp only at e0 e1 e2
                            have hO5 := (HO.out.alloc (.cells #[.bool true, .int .i64 0, .string ⟨([] : List UInt8).toArray⟩] 54)).non hf5
                            have hfr5 := (HFr.out.alloc (.cells #[.bool true, .int .i64 0, .string ⟨([] : List UInt8).toArray⟩] 54)).trans hf5
                            have hB5 := hfr5.size
                            have HFr5 := Lib.hid hfr5
                            clear d0 d1 d2 hm hC5 hf5 hfr5 hct2
                            go_wp2_with (at_builtin; refine wpList_pushC rfl (.tmp 130) (.tmp 132) rfl g _ _ rfl hO5 ⟨true, 0, []⟩ _ _ _ rfl rfl rfl _ rfl (by simp) (by omega) (by have := HGG.out; omega) ?_; intro v6 w6 hown6 hf6)
                            have hfr6 := HFr5.out.fresh hf6 (fun q hq => by have := (hO5.lt q hq).1; have := HGG.out; omega)
                            go_roundw
                            case rel => exact ⟨k + 1, a, _, by omega, by go_num, rfl, HJ2, ha, HA2, hown6, hfr6⟩
                            case measure => simp [intOf]; omega
                          | false =>
                            rw [hx] at hct2
                            obtain ⟨y, q', hdr, hJ2⟩ := joi_no HJ.out hkn hx
                            have hal : a < l.length := by
                              have := congrArg List.length hdr
                              rw [List.length_drop, List.length_cons] at this; omega
                            have hyl : l[a] = y ∧ l.drop (a + 1) = q' := by
                              rw [List.drop_eq_getElem_cons hal, List.cons.injEq] at hdr
                              exact hdr
                            rw [← hyl.2] at hJ2
                            have HJ2 := Lib.hid hJ2
                            obtain ⟨aL, hAL, hh1, hh2, hat⟩ := HL4.out.addr (by omega)
                            clear hh1 hh2 hJ2 hdr
                            subst hAL
                            obtain ⟨q0, q1, q2⟩ := (hfa.at3 (hat a hal)).lit
                            rw [hyl.1] at q0 q1 q2
                            clear hyl hat hx hfa
                            have hm := fun W => rmay_any ty true y W
                            obtain ⟨yn, yi, yt⟩ := y
                            have hS := cl_new wr ⟨yn, yi, yt⟩
                            obtain ⟨z0, z1, z2, _, _, _⟩ := hS.facts
                            dsimp only at z0 z1 z2
                            obtain ⟨d0, d1, d2, p0, p1, p2⟩ := hC0.facts
                            dsimp only at d0 d1 d2
                            unfold clV clC at hm
                            dsimp only at hm
                            have HS := Lib.hid hS
                            have HO := Lib.hid hO
                            have HFr := Lib.hid hfr
                            clear hS hO hfr hC0
                            cases hmy : mayC ty true ⟨yn, yi, yt⟩ with
                            | true =>
                              rw [hmy] at hm
                              have HA2 : Hid ((D ++ [(⟨yn, yi, yt⟩ : Cl)]).all (mayC ty true) = true) := Lib.hid (by rw [List.all_append, HA.out]; simp [hmy])
                              clear hmy
                              go_wp2_with fail
                              refine (hm _).mono ?_
                              rintro e w5 ⟨rfl, hf5⟩
                              have hC5 : ClB w5 wr.heap.size ⟨yn, yi, yt⟩ := HS.out.fr hf5 (fun e => e)
                              clear d0 d1 d2 z0 z1 z2 p0 p1 p2
                              obtain ⟨e0, e1, e2, _, _, _⟩ := hC5.facts
                              dsimp only at e0 e1 e2
                              have hO5 := (HO.out.alloc (.cells #[.bool yn, .int .i64 yi, .string ⟨yt.toArray⟩] 54)).non hf5
                              have hfr5 := (HFr.out.alloc (.cells #[.bool yn, .int .i64 yi, .string ⟨yt.toArray⟩] 54)).trans hf5
                              have hB5 := hfr5.size
                              have HFr5 := Lib.hid hfr5
                              clear hm hC5 hf5 hfr5 hct2 q0 q1 q2
                              go_wp2_with (at_builtin; refine wpList_pushC rfl (.tmp 130) (.tmp 132) rfl g _ _ rfl hO5 ⟨yn, yi, yt⟩ _ _ _ rfl rfl rfl _ rfl (by simp) (by omega) (by have := HGG.out; omega) ?_; intro v6 w6 hown6 hf6)
                              have hfr6 := HFr5.out.fresh hf6 (fun q hq => by have := (hO5.lt q hq).1; have := HGG.out; omega)
                              go_roundw
                              case rel => exact ⟨k + 1, a + 1, _, by omega, by go_num, by go_num, HJ2, by omega, HA2, hown6, hfr6⟩
                              case measure => simp [intOf]; omega
                            | false =>
                              rw [hmy] at hm
                              have HA2 : Hid ((joinC nulls l).all (mayC ty true) = false) := Lib.hid (by
                                rw [HJ2.out.2.1]; simp [hmy])
                              clear hmy
                              go_wp2_with fail
                              refine (hm _).mono ?_
                              rintro e w5 ⟨rfl, hf5⟩
                              have HN : Hid (G = none) := Lib.hid (by rw [HGj.out, HA2.out]; rfl)
                              have hF5 := HF4.out.trans ((HFr.out.alloc _).trans hf5)
                              go_wp2
                              go_ret2
                              exact ⟨gec_no HN.out, hF5⟩
                        · obtain rfl : k = m := by omega
                          have HE : Hid (G = some D) := Lib.hid (by
                            have h1 := HJ.out
                            rw [show k = nulls.length from HNl.out.symm] at h1
                            have h2 := joi_all h1
                            rw [HGj.out, h2, if_pos HA.out])
                          go_wp2
                          go_ret2
                          exact ⟨.inr ⟨_, _, HE.out, rfl, hO.mono (by have := HGG.out; have := HF4.out.size; omega)⟩, HF4.out.trans hfr⟩
                  · have HN : Hid (G = none) := Lib.hid (by rw [HGr.out, readC_no hm5]; rfl)
                    have dne : (decide (5 ≤ (K : Int)) == (ty == 3)) = false := by
                      rw [beq_eq_false_iff_ne]; exact fun e => hm5 (hmem.2 e)
                    clear hmem hm5
                    go_enter Tryz.func50, Tryz.ntmps50
                    go_wp2
                    go_quiet (fail)
                    rename_i nq
                    go_wp2_with (at_make; refine wpList_mkfullG el_bool false rfl rfl _ _ rfl _ _ _ _ m rfl rfl rfl rfl (by omega) ?_; intro WW hown2 hfr2)
                    have HF : Hid (Fr Non w WW) := Lib.hid (((Fr.refl _ _).drewN _).trans hfr2)
                    go_ret2
                    exact ⟨gec_no HN.out, HF.out⟩
end Go.Proofs.YtheefloegbkflaaGreatDoor
