/-
  Joined: Layer 10: chunk.Kind, open. · Layer 10: chunk.Get; chunk.Put of cells that may be. · Layer 5: the walk of firkinref05.Get. · Layer 8: the walk of the document's Texts. · Layer 8: the walk of the document's Get. · Layer 10: are lists of cells the same?; the document's read. · Layer 10: the document's Get. · Layer 10: the example; the walk of the law on what is put again. · Layer 10: the walk of the law on what is got.
-/
import Derived.Deep.Slices
import Derived.Test.YtemfmnjhmmlmbaaGreatZ3
import Derived.Deep.RegionHeld3
import Derived.OwnWalk
import Derived.Test.YtemfmnjhmmlmbaaGreatZ2
import Derived.Deep.QuietTactic

namespace Go.Proofs.YtemfmnjhmmlmbaaGreat
set_option linter.unusedVariables false
set_option linter.unusedSimpArgs false
set_option maxRecDepth 100000
open Go.RowKit

theorem andNot8 (c : Nat) (h : c < 256) : bits .andNot .u8 (c : Int) 8 = ((c % 8 + 16 * (c / 16) : Nat) : Int) := by
  have all : ∀ q : Fin 256, bits .andNot .u8 (q.1 : Int) 8 = ((q.1 % 8 + 16 * (q.1 / 16) : Nat) : Int) := by decide +kernel
  exact all ⟨c, h⟩
theorem and8 (c : Nat) (h : c < 256) : bits .and .u8 (c : Int) 8 = ((c / 8 % 2 * 8 : Nat) : Int) := by
  have all : ∀ q : Fin 256, bits .and .u8 (q.1 : Int) 8 = ((q.1 / 8 % 2 * 8 : Nat) : Int) := by decide +kernel
  exact all ⟨c, h⟩

theorem add0 (a : Addr) : a.add 0 = a := by
  obtain ⟨B, o, e⟩ := a
  cases e <;> rfl
theorem kind_any (v : Value) (b : List UInt8) (w : World) (hv : Bs w v b) (hl : b.length ≤ 1000000) :
    Calls Tryz.prog 8 #[v] w fun e w' => e = .returned (.int .i64 (kindB b : Nat)) ∧ w = w' := by
  obtain ⟨A, c, rfl, hlc, hn, hcell⟩ := hv
  cases b with
  | nil =>
    clear hlc hn hcell
    go_enter Tryz.func8, Tryz.ntmps8
    go_wp2
    go_ret
    exact ⟨rfl, rfl⟩
  | cons x r =>
    cases A with
    | none => have := hn rfl; simp at hlc; omega
    | some a =>
      have g0 : w.cell? (a.add 0) = some (bv x) := hcell a rfl 0 (by simp)
      have g1 : w.cell? a = some (bv x) := by rw [add0 a] at g0; exact g0
      have hb := andNot8 x.toNat x.toNat_lt
      have hx := x.toNat_lt
      have hk : kindB (x :: r) = kindC x := rfl
      unfold bv at g0 g1
      rw [hk]
      clear hlc hn hcell hk
      unfold kindC
      generalize x.toNat = q at *
      have hbig : ((r.length : Int) + 1 == 0) = false := by rw [beq_eq_false_iff_ne]; omega
      by_cases h1 : q % 8 + 16 * (q / 16) < 1
      · have d1 : decide (((q % 8 + 16 * (q / 16) : Nat) : Int) < 1) = true := by simp only [decide_eq_true_eq]; omega
        rw [if_neg (by omega)]
        have hzb : q % 8 + 16 * (q / 16) < 1000 := by omega
        clear h1 hx
        generalize q % 8 + 16 * (q / 16) = z at *
        go_enter Tryz.func8, Tryz.ntmps8
        go_wp2
        go_ret
        exact ⟨rfl, rfl⟩
      · have d1 : decide (((q % 8 + 16 * (q / 16) : Nat) : Int) < 1) = false := by simp only [decide_eq_false_iff_not]; omega
        by_cases h6 : 6 < q % 8 + 16 * (q / 16)
        · have d6 : decide (6 < ((q % 8 + 16 * (q / 16) : Nat) : Int)) = true := by simp only [decide_eq_true_eq]; omega
          rw [if_neg (by omega)]
          have hzb : q % 8 + 16 * (q / 16) < 1000 := by omega
          clear h1 hx
          generalize q % 8 + 16 * (q / 16) = z at *
          go_enter Tryz.func8, Tryz.ntmps8
          go_wp2
          go_ret
          exact ⟨rfl, rfl⟩
        · have d6 : decide (6 < ((q % 8 + 16 * (q / 16) : Nat) : Int)) = false := by simp only [decide_eq_false_iff_not]; omega
          have hz : q % 8 + 16 * (q / 16) = q % 8 := by omega
          rw [if_pos (by omega)]
          have h8 : q % 8 < 8 := by omega
          have hb2 : bits .andNot .u8 (q : Int) 8 = ((q % 8 : Nat) : Int) := by rw [hb, hz]
          have d12 : decide (((q % 8 : Nat) : Int) < 1) = false := by rw [← hz]; exact d1
          have d62 : decide (6 < ((q % 8 : Nat) : Int)) = false := by rw [← hz]; exact d6
          clear h1 hx hz hb d1 d6 h6
          generalize q % 8 = z at *
          go_enter Tryz.func8, Tryz.ntmps8
          go_wp2
          go_ret
          exact ⟨rfl, rfl⟩

/-- '[]byte(s)': the new bytes lie in a block that is there -/
theorem wpList_strbytesL {w : World} {ops : Array Oper} {rest : List Oper} {o : Oper} {a : Act} {Q : Exit → Act → World → Prop} (hgd : o.guard = none) (x : Operand)
    (ho : o.op = .convert 9 22 x) (m : List UInt8) (hx : a.eval x = .string ⟨m.toArray⟩)
    (h : ∀ v' w', Bs w' v' m → Fr Non w w' → (∀ k, v'.ownBlock = some k → w.heap.size ≤ k ∧ k < w'.heap.size) → wpList Tryz.prog ops Q rest (a.put o.dst v') w') : wpList Tryz.prog ops Q (o :: rest) a w := by
  have hm : ByteArray.size ⟨m.toArray⟩ = m.length := by simp [ByteArray.size]
  have hrun := run_bytes_of_string (P := Tryz.prog) w 9 22 5 ⟨m.toArray⟩ Tryz.underlying9 Tryz.underlying22 Tryz.underlying5
  refine wpList_plain hgd fun K hK => ?_
  unfold Oper.wp
  simp [execOp, ho, hx, hrun, Result.andThen]
  refine hK _ _ (h _ _ ?_ (((Fr.refl _ _).drew).alloc _) ?_)
  · rw [hm]
    refine ⟨_, _, rfl, grownCap_ge _ _ _ _, (fun h => by cases h), fun a ha j hj => ?_⟩
    cases ha
    have hA : (⟨w.heap.size, 0, none⟩ : Addr).add j = ⟨w.drew.heap.size, j, none⟩ := by rw [Addr.add_lit]; simp
    rw [hA, World.cell?_alloc_mark, bytesRow_at _ _ _ (by simpa using hj)]
    simp [bv]
  · intro k hk
    simp [Value.ownBlock] at hk
    subst hk
    exact ⟨Nat.le_refl _, by simp⟩
theorem take_lt (g : Nat) (l : List UInt8) (bad : Bool) (n : Int) (w : World) (h : Src w g l bad) :
    Calls Tryz.prog 26 #[ptr g, .int .i64 n] w fun e w' => ∃ v, e = .returned v ∧ Bs w' v (cutT l n) ∧ (∀ k, v.ownBlock = some k → k < w'.heap.size) ∧ Src w' g (cutR l n) (cutB l bad n) ∧ Fr (One g) w w' := by
  have h0 := cut_any g l bad n w h
  clear h
  go_enter Tryz.func26, Tryz.ntmps26
  go_wp2_with fail
  refine h0.mono ?_
  rintro e w1 ⟨rfl, hs1, hf1⟩
  go_wp2_with (refine wpList_strbytesL rfl _ rfl (cutT l n) rfl ?_; intro v2 w2 hbs2 hfr2 hnew2)
  go_ret
  exact ⟨v2, rfl, hbs2, fun k hk => (hnew2 k hk).2, hs1.fr hfr2 (fun e => e), hf1.then hfr2⟩

/-- 'make([]E, n)' as a run, in every world -/
theorem mk_all {α : Type} {f : α → Value} {E T : TypeId} {z : Value} {by_ : Nat} (hE : El T E z by_) (y : α) (hy : f y = z) (n : Nat) (hn : n ≤ 1099511627776) :
    ∃ F : World → World, ∀ W, (Instr.makeSlice T (.int .i64 (n : Int)) (.int .i64 (n : Int))).run Tryz.prog W = .ok (.slice (some ⟨W.heap.size, 0, none⟩) n n) (F W) ∧ Ow f E (F W) W.heap.size (.slice (some ⟨W.heap.size, 0, none⟩) n n) (List.replicate n y) ∧ Fr Non W (F W) := by
  have h : ∀ W, ∃ w', (Instr.makeSlice T (.int .i64 (n : Int)) (.int .i64 (n : Int))).run Tryz.prog W = .ok (.slice (some ⟨W.heap.size, 0, none⟩) n n) w' ∧ Ow f E w' W.heap.size (.slice (some ⟨W.heap.size, 0, none⟩) n n) (List.replicate n y) ∧ Fr Non W w' := by
    intro W
    obtain ⟨i, hi, hz0, hz1, hz2⟩ := info_parts hE.info
    have hs' := hE.small
    have hbl : by_ * n ≤ 70368744177664 := by
      have := Nat.mul_le_mul hs' hn
      omega
    obtain ⟨w', hrun, h1, h2⟩ := run_make_full (P := Tryz.prog) W W.heap.size T E i z 1 hE.under hi hz0 hz1 .i64 .i64 n (by rw [hz2]; omega) (by unfold maxLen; omega) (Nat.le_refl _)
    refine ⟨w', hrun, ?_, ((Fr.of_grown h2).mono fun k _ e => by cases e)⟩
    unfold Ow
    rw [hE.cells, Nat.mul_one, toList_madeCells_one] at h1
    rw [List.length_replicate, List.map_replicate, hy]
    exact h1
  exact ⟨fun W => Classical.choose (h W), fun W => Classical.choose_spec (h W)⟩

/-- what opening answers -/
def Opn (w : World) (B : Nat) (o : Option (List Bool × List UInt8)) (e : Ending) : Prop :=
  (o = none ∧ ∃ t r, e = .returned (.tuple #[t, r, .bool false])) ∨
  ∃ nulls rest t r, o = some (nulls, rest) ∧ e = .returned (.tuple #[t, r, .bool true]) ∧ Ow tv 4 w B t nulls ∧ Bs w r rest ∧ ∀ q, r.ownBlock = some q → q < w.heap.size
theorem cutT_all (l : List UInt8) : cutT l l.length = l := by unfold cutT cutOk; simp
theorem cutR_all (l : List UInt8) : cutR l l.length = [] := by unfold cutR cutOk; simp
theorem cutB_all (l : List UInt8) (bad : Bool) : cutB l bad l.length = bad := by unfold cutB cutOk; simp
theorem cut1T (x : UInt8) (r : List UInt8) : cutT (x :: r) 1 = [x] := by
  unfold cutT cutOk
  rw [decide_eq_true (by rw [List.length_cons]; omega), if_pos rfl]; rfl
theorem cut1R (x : UInt8) (r : List UInt8) : cutR (x :: r) 1 = r := by
  unfold cutR cutOk
  rw [decide_eq_true (by rw [List.length_cons]; omega), if_pos rfl]; rfl
theorem cut1B (x : UInt8) (r : List UInt8) : cutB (x :: r) false 1 = false := by
  unfold cutB cutOk
  rw [decide_eq_true (by rw [List.length_cons]; omega), if_pos rfl]
theorem openC_nil (n : Nat) : openC [] n = none := rfl
theorem openC_none {c : UInt8} (r : List UInt8) (n : Nat) (h : someN c = false) : openC (c :: r) n = some (List.replicate n false, r) := by
  show (if someN c = false then _ else _) = _
  rw [if_pos h]
theorem openC_yes {c : UInt8} {r : List UInt8} {n : Nat} (h : someN c = true) (hk : need n ≤ r.length) (hf : Fit (r.take (need n)) n) (hc : 0 < cnt (unp (r.take (need n)) n)) : openC (c :: r) n = some (unp (r.take (need n)) n, r.drop (need n)) := by
  show (if someN c = false then _ else if _ then _ else _) = _
  rw [if_neg (by rw [h]; simp), if_pos ⟨hk, fun i _ hi => hf.2 i hi, hc⟩]
theorem openC_no {c : UInt8} {r : List UInt8} {n : Nat} (h : someN c = true) (hn : ¬ (need n ≤ r.length ∧ Fit (r.take (need n)) n ∧ 0 < cnt (unp (r.take (need n)) n))) : openC (c :: r) n = none := by
  show (if someN c = false then _ else if _ then _ else _) = _
  rw [if_neg (by rw [h]; simp), if_neg ?_]
  rintro ⟨h1, h2, h3⟩
  have hlen : (r.take (need n)).length = need n := by rw [List.length_take]; omega
  exact hn ⟨h1, fit_of hlen (fun i hi => by rw [hlen] at hi; exact h2 i hi), h3⟩

set_option maxHeartbeats 4000000 in
theorem open_any (v : Value) (b : List UInt8) (n : Nat) (w : World) (hv : Bs w v b) (hl : b.length ≤ 100000) (hn : n ≤ 4096) :
    Calls Tryz.prog 11 #[v, .int .i64 n] w fun e w' => Opn w' w.heap.size (openC b n) e ∧ Fr Non w w' := by
  have HB := Lib.hid hv
  clear hv
  go_enter Tryz.func11, Tryz.ntmps11
  go_wp2_with fail
  refine (from_any v b w HB.out).mono ?_
  rintro e w1 ⟨rfl, hs1, hf1⟩
  have HF1 := Lib.hid hf1
  generalize hg : w.heap.size = g at *
  have HGz := Lib.hid (Nat.le_of_eq hg)
  clear hg hf1
  go_wp2_with fail
  refine (take_lt g b false 1 w1 hs1).mono ?_
  rintro e w2 ⟨v2, rfl, hb2, hq2, hs2, hf2⟩
  have HF2 := Lib.hid (HF1.out.fresh hf2 (fun q e => by have : q = g := e; have := HGz.out; omega))
  clear hs1 hf2 hq2 HF1 HB
  cases b with
  | nil =>
    have hs := Lib.hid (show Src w2 g [] true from hs2)
    obtain ⟨A2, c2, rfl, _⟩ := hb2
    clear hs2
    go_wp2_with fail
    refine (ok_any g [] true w2 hs.out).mono ?_
    rintro e w3 ⟨rfl, rfl⟩
    go_wp2_with fail
    have hgl : ∀ q, One g q → w.heap.size ≤ q := fun q e => by have : q = g := e; have := HGz.out; omega
    have hcb : cutB ([] : List UInt8) true 0 = true := rfl
    obtain ⟨F, hF⟩ := mk_all el_bool false rfl n (by omega)
    have HF := Lib.hid hF
    have hrun := fun W => (HF.out W).1
    have src := hs.out.drew
    have srcF := fun W (h : Src W g [] true) => h.fr (HF.out W).2.2 (fun e => e)
    clear hF
    go_region_held3 (fun _ => True) (exact trivial) (first
      | (go_at_call 28; refine (left_any _ _ _ _ src).mono ?_; rintro e w4 ⟨rfl, rfl⟩)
      | (go_at_call 28; refine (left_any _ _ _ _ (srcF _ src)).mono ?_; rintro e w4 ⟨rfl, rfl⟩)
      | (go_at_call 26; refine (take_lt _ _ _ _ _ src).mono ?_; rintro e w4 ⟨v4, rfl, hb4, hq4, src4, hf4⟩)
      | (go_at_call 26; refine (take_lt _ _ _ _ _ (srcF _ src)).mono ?_; rintro e w4 ⟨v4, rfl, hb4, hq4, src4, hf4⟩)
      | (go_at_call 27; refine (ok_any _ _ _ _ src4).mono ?_; rintro e w6 ⟨rfl, rfl⟩)
      | (go_at_call 27; refine (ok_any _ _ _ _ (src4.fr (HF.out _).2.2 (fun e => e))).mono ?_; rintro e w6 ⟨rfl, rfl⟩))
    all_goals
      go_wp2
      go_ret3
      first
        | exact ⟨.inl ⟨openC_nil n, _, _, rfl⟩, (HF2.out.drew.trans (HF.out _).2.2).fresh hf4 hgl⟩
        | exact ⟨.inl ⟨openC_nil n, _, _, rfl⟩, (HF2.out.drew.fresh hf4 hgl).trans (HF.out _).2.2⟩
  | cons x r =>
    have hs := Lib.hid (show Src w2 g r false from by rw [cut1R, cut1B] at hs2; exact hs2)
    have hb3 : Bs w2 v2 [x] := by rw [cut1T] at hb2; exact hb2
    clear hs2 hb2
    obtain ⟨A2, c2, rfl, hlc2, hn2, hc2⟩ := hb3
    cases A2 with
    | none => have := hn2 rfl; simp at hlc2; omega
    | some a =>
      have g0 : w2.cell? (a.add 0) = some (bv x) := hc2 a rfl 0 (by simp)
      have g1 : w2.cell? a = some (bv x) := by rw [add0 a] at g0; exact g0
      have h8 := and8 x.toNat x.toNat_lt
      clear hn2 hc2
      unfold bv at g0 g1
      have HSx : someN x = (x.toNat / 8 % 2 == 1) := rfl
      have HY := Lib.hid (fun h1 h2 h3 h4 => openC_yes (c := x) (r := r) (n := n) h1 h2 h3 h4)
      have HNo := Lib.hid (fun h1 h2 => openC_no (c := x) (r := r) (n := n) h1 h2)
      have HNe := Lib.hid (fun h => openC_none (c := x) r n h)
      have hgl : ∀ q, One g q → w.heap.size ≤ q := fun q e => by have : q = g := e; have := HGz.out; omega
      have hgw : g < w2.heap.size := hs.out.1.lt
      have hrl : r.length ≤ 100000 := by simp at hl; omega
      generalize someN x = sx at *
      generalize x.toNat = q at *
      rcases (show q / 8 % 2 = 0 ∨ q / 8 % 2 = 1 by omega) with hq0 | hq0
      · have h80 : bits .and .u8 (q : Int) 8 = 0 := by rw [h8, hq0]; rfl
        have hsx : sx = false := by rw [HSx, hq0]; rfl
        have HOO := Lib.hid (HNe.out hsx)
        clear h8 hq0 HSx hsx HY HNo HNe hl
        go_wp2_with fail
        refine (ok_any g r false w2 hs.out).mono ?_
        rintro e w3 ⟨rfl, rfl⟩
        go_wp2_with fail
        have hcb := cutB_all r false
        have hsz2 : w.heap.size ≤ w2.drew.heap.size := HF2.out.size
        have hgn : ∀ q, (Value.slice (some ⟨w2.drew.heap.size, 0, none⟩) n n).ownBlock = some q → ¬ One g q := fun q hq e => by
          have e2 : q = g := e
          have e3 : w2.heap.size = q := by simpa [Value.ownBlock] using hq
          omega
        obtain ⟨F, hF⟩ := mk_all el_bool false rfl n (by omega)
        have HF := Lib.hid hF
        have hrun := fun W => (HF.out W).1
        have src := hs.out.drew
        have srcF := fun W (h : Src W g r false) => h.fr (HF.out W).2.2 (fun e => e)
        clear hF
        go_region_held3 (fun _ => True) (exact trivial) (first
          | (go_at_call 28; refine (left_any _ _ _ _ src).mono ?_; rintro e w4 ⟨rfl, rfl⟩)
          | (go_at_call 28; refine (left_any _ _ _ _ (srcF _ src)).mono ?_; rintro e w4 ⟨rfl, rfl⟩)
          | (go_at_call 26; refine (take_lt _ _ _ _ _ src).mono ?_; rintro e w4 ⟨v4, rfl, hb4, hq4, src4, hf4⟩)
          | (go_at_call 26; refine (take_lt _ _ _ _ _ (srcF _ src)).mono ?_; rintro e w4 ⟨v4, rfl, hb4, hq4, src4, hf4⟩)
          | (go_at_call 27; refine (ok_any _ _ _ _ src4).mono ?_; rintro e w6 ⟨rfl, rfl⟩)
          | (go_at_call 27; refine (ok_any _ _ _ _ (src4.fr (HF.out _).2.2 (fun e => e))).mono ?_; rintro e w6 ⟨rfl, rfl⟩))
        all_goals
          go_wp2
          go_ret3
          first
            | exact ⟨.inr ⟨_, _, _, _, HOO.out, rfl, ((HF.out w2.drew).2.1.fr hf4 hgn).mono hsz2, by rw [cutT_all] at hb4; exact hb4, hq4⟩, (HF2.out.drew.trans (HF.out _).2.2).fresh hf4 hgl⟩
            | exact ⟨.inr ⟨_, _, _, _, HOO.out, rfl, (HF.out _).2.1.mono ((HF2.out.drew.fresh hf4 hgl).size), by rw [cutT_all] at hb4; exact hb4.non (HF.out _).2.2, fun k hk => Nat.lt_of_lt_of_le (hq4 k hk) (HF.out _).2.2.size⟩, (HF2.out.drew.fresh hf4 hgl).trans (HF.out _).2.2⟩
      · have h81 : bits .and .u8 (q : Int) 8 = 8 := by rw [h8, hq0]; rfl
        have hsx : sx = true := by rw [HSx, hq0]; rfl
        have HSX := Lib.hid hsx
        clear h8 hq0 HSx hsx HNe hl
        go_wp2_with fail
        refine (ok_any g r false w2 hs.out).mono ?_
        rintro e w3 ⟨rfl, rfl⟩
        have hTk : ∀ z : Int, z = (need n : Nat) → Calls Tryz.prog 26 #[ptr g, .int .i64 z] w2 fun e w' => ∃ v, e = .returned v ∧ Bs w' v (cutT r (need n : Nat)) ∧ (∀ k, v.ownBlock = some k → k < w'.heap.size) ∧ Src w' g (cutR r (need n : Nat)) (cutB r false (need n : Nat)) ∧ Fr (One g) w2 w' := fun z hz => by
          subst hz
          exact take_lt g r false _ w2 hs.out
        have HTk := Lib.hid hTk
        clear hTk
        go_wp2_with fail
        refine (HTk.out _ ?_).mono ?_
        · unfold need; first | omega | (push_cast; omega)
        rintro e w4 ⟨v4, rfl, hb4, hq4, src4, hf4⟩
        by_cases hk : need n ≤ r.length
        · have eT : cutT r (need n : Nat) = r.take (need n) := by unfold cutT cutOk; rw [decide_eq_true (by omega), if_pos rfl, Int.toNat_natCast]
          have eR : cutR r (need n : Nat) = r.drop (need n) := by unfold cutR cutOk; rw [decide_eq_true (by omega), if_pos rfl, Int.toNat_natCast]
          have eB : cutB r false (need n : Nat) = false := by unfold cutB cutOk; rw [decide_eq_true (by omega), if_pos rfl]
          rw [eT] at hb4
          rw [eR, eB] at src4
          clear eT eR eB
          have hdl : (r.drop (need n)).length ≤ 100000 := by rw [List.length_drop]; omega
          have htl : (r.take (need n)).length ≤ 100000 := by rw [List.length_take]; omega
          have HYY := Lib.hid (fun h3 h4 => HY.out HSX.out hk h3 h4)
          have HNN := Lib.hid (fun h2 => HNo.out HSX.out h2)
          have HF4 := Lib.hid (HF2.out.fresh hf4 hgl)
          have HS4 := Lib.hid src4
          have hgw4 : g < w4.heap.size := src4.1.lt
          have HUn := Lib.hid (unpack_any v4 _ n w4 hb4 htl (by omega) (by omega))
          have hcle := cnt_le (unp (r.take (need n)) n)
          rw [unp_length] at hcle
          clear hb4 hq4 src4 hf4 HY HNo HSX HTk hk
          generalize hT : r.take (need n) = T at *
          generalize hD : r.drop (need n) = D at *
          go_wp2_with fail
          refine HUn.out.mono ?_
          rintro e w5 ⟨hU, hf5⟩
          have HS5 := Lib.hid (HS4.out.fr hf5 (fun e => e))
          have HF5 := Lib.hid (HF4.out.trans hf5)
          have hgw5 := Lib.hid HS5.out.1.lt
          rcases hU with ⟨hno, rfl⟩ | ⟨⟨_, hfit⟩, u5, rfl, ho5⟩
          · have HOO := Lib.hid (HNN.out fun h => hno ⟨by omega, by simpa using h.2.1⟩)
            clear hno HYY HNN HS4 HUn hf5 hcle
            go_wp2_with fail
            refine (left_any g D false w5 HS5.out).mono ?_
            rintro e w6 ⟨rfl, rfl⟩
            go_wp2_with fail
            refine (take_lt g D false _ w5 HS5.out).mono ?_
            rintro e w6 ⟨v6, rfl, hb6, hq6, src6, hf6⟩
            have HF6 := Lib.hid (HF5.out.fresh hf6 hgl)
            clear hb6 hq6 hf6
            go_wp2_with fail
            go_ret3
            exact ⟨.inl ⟨HOO.out, _, _, rfl⟩, HF6.out⟩
          · rw [Int.toNat_natCast] at hfit ho5
            have HO5 := Lib.hid ho5
            have HYZ := Lib.hid (fun h => HYY.out hfit h)
            have HNZ := Lib.hid (fun (h : ¬ 0 < cnt (unp T n)) => HNN.out fun h' => h h'.2.2)
            have hul : (unp T n).length ≤ 9223372036854775807 := by rw [unp_length]; omega
            clear hfit ho5 HYY HNN HS4 HUn hf5
            generalize unp T n = U at *
            go_wp2_with fail
            refine (left_any g D false w5 HS5.out).mono ?_
            rintro e w6 ⟨rfl, rfl⟩
            go_wp2_with fail
            refine (take_lt g D false _ w5 HS5.out).mono ?_
            rintro e w6 ⟨v6, rfl, hb6, hq6, src6, hf6⟩
            rw [cutT_all] at hb6
            rw [cutR_all, cutB_all] at src6
            have HF6 := Lib.hid (HF5.out.fresh hf6 hgl)
            have HO6 := Lib.hid ((HO5.out.mono (Nat.le_trans HF4.out.size (Nat.le_refl _))).fr hf6 (fun q hq e => by have h7 := (HO5.out.lt q hq).1; have h8 : q = g := e; omega))
            have HB6 := Lib.hid hb6
            have HQ6 := Lib.hid hq6
            clear hb6 hq6 hf6 HO5
            go_wp2_with fail
            refine (ok_any g [] false w6 src6).mono ?_
            rintro e w7 ⟨rfl, rfl⟩
            go_wp2_with fail
            refine (count_any u5 U w6 HO6.out.vs hul).mono ?_
            rintro e w7 ⟨rfl, rfl⟩
            by_cases hc : 0 < cnt U
            · have HOO := Lib.hid (HYZ.out hc)
              have dc : decide (0 < cnt U) = true := by simp only [decide_eq_true_eq]; omega
              clear HYZ HNZ hc
              go_wp2_with fail
              go_ret3
              exact ⟨.inr ⟨_, _, _, _, HOO.out, rfl, HO6.out, HB6.out, HQ6.out⟩, HF6.out⟩
            · have HOO := Lib.hid (HNZ.out hc)
              have dc : decide (0 < cnt U) = false := by simp only [decide_eq_false_iff_not]; omega
              clear HYZ HNZ hc
              go_wp2_with fail
              go_ret3
              exact ⟨.inl ⟨HOO.out, _, _, rfl⟩, HF6.out⟩
        · have eT : cutT r (need n : Nat) = [] := by unfold cutT cutOk; rw [decide_eq_false (by omega)]; rfl
          have eR : cutR r (need n : Nat) = [] := by unfold cutR cutOk; rw [decide_eq_false (by omega)]; rfl
          have eB : cutB r false (need n : Nat) = true := by unfold cutB cutOk; rw [decide_eq_false (by omega)]; rfl
          rw [eT] at hb4
          rw [eR, eB] at src4
          clear eT eR eB
          have HOO := Lib.hid (HNo.out HSX.out fun h => hk h.1)
          have HF4 := Lib.hid (HF2.out.fresh hf4 hgl)
          have HS4 := Lib.hid src4
          have HUn := Lib.hid (unpack_any v4 _ n w4 hb4 (by simp) (by omega) (by omega))
          have hn0 : 0 < need n := by omega
          clear hb4 hq4 src4 hf4 HY HNo HSX HTk hk
          go_wp2_with fail
          refine HUn.out.mono ?_
          rintro e w5 ⟨hU, hf5⟩
          have HS5 := Lib.hid (HS4.out.fr hf5 (fun e => e))
          have HF5 := Lib.hid (HF4.out.trans hf5)
          rcases hU with ⟨hno, rfl⟩ | ⟨⟨_, hfit⟩, u5, rfl, ho5⟩
          · clear hno HS4 HUn hf5
            go_wp2_with fail
            refine (left_any g [] true w5 HS5.out).mono ?_
            rintro e w6 ⟨rfl, rfl⟩
            go_wp2_with fail
            refine (take_lt g [] true _ w5 HS5.out).mono ?_
            rintro e w6 ⟨v6, rfl, hb6, hq6, src6, hf6⟩
            have HF6 := Lib.hid (HF5.out.fresh hf6 hgl)
            clear hb6 hq6 hf6
            go_wp2_with fail
            go_ret3
            exact ⟨.inl ⟨HOO.out, _, _, rfl⟩, HF6.out⟩
          · rw [Int.toNat_natCast] at hfit
            have := hfit.1
            simp at this
            omega
end Go.Proofs.YtemfmnjhmmlmbaaGreat


namespace Go.Proofs.YtemfmnjhmmlmbaaGreat
set_option linter.unusedVariables false
set_option linter.unusedSimpArgs false
set_option maxRecDepth 100000
open Go.RowKit

/-- what chunk.Get answers -/
def Gec (w : World) (B : Nat) (o : Option (List Cl)) (e : Ending) : Prop :=
  (o = none ∧ e = .returned (.tuple #[.slice none 0 0, .bool false])) ∨ ∃ l u, o = some l ∧ e = .returned (.tuple #[u, .bool true]) ∧ Oc w B u l

set_option maxHeartbeats 4000000 in
theorem get_cl (ty n : Int) (v : Value) (b : List UInt8) (w : World) (hv : Bs w v b) (hl : b.length ≤ 100000) :
    Calls Tryz.prog 5 #[.int .i64 ty, v, .int .i64 n] w fun e w' => Gec w' w.heap.size (getC ty b n) e ∧ Fr Non w w' := by
  have HB := Lib.hid hv
  clear hv
  by_cases h0 : n < 0
  · have HG := Lib.hid (getC_out (ty := ty) (b := b) (.inl h0))
    have d0 : decide (n < 0) = true := by simpa using h0
    clear h0
    go_enter Tryz.func5, Tryz.ntmps5
    go_wp2
    go_ret2
    exact ⟨.inl ⟨HG.out, rfl⟩, Fr.refl _ _⟩
  · have d0 : decide (n < 0) = false := by simpa using h0
    by_cases h4 : 4096 < n
    · have HG := Lib.hid (getC_out (ty := ty) (b := b) (.inr h4))
      have d4 : decide (4096 < n) = true := by simpa using h4
      clear h0 h4
      go_enter Tryz.func5, Tryz.ntmps5
      go_wp2
      go_ret2
      exact ⟨.inl ⟨HG.out, rfl⟩, Fr.refl _ _⟩
    · have d4 : decide (4096 < n) = false := by simpa using h4
      obtain ⟨m, rfl⟩ : ∃ m : Nat, n = (m : Int) := ⟨n.toNat, by omega⟩
      have hm : m ≤ 4096 := by omega
      clear h0 h4
      have HO := Lib.hid (open_any v b m w HB.out hl hm)
      have HSh := Lib.hid (fun h => getC_shut (ty := ty) (b := b) (n := m) h)
      have HOp := Lib.hid (fun nulls r h => getC_open (ty := ty) (b := b) (r := r) (n := m) (nulls := nulls) hm h)
      generalize getC ty b m = G at *
      go_enter Tryz.func5, Tryz.ntmps5
      go_wp2_with fail
      refine HO.out.mono ?_
      rintro e w1 ⟨ho, hf1⟩
      have HF1 := Lib.hid hf1
      clear hf1 HO
      rcases ho with ⟨h0, t, r, rfl⟩ | ⟨nulls, rest, t, r, h0, rfl, hown, hbr, hq⟩
      · have HG := Lib.hid (HSh.out h0)
        clear h0 HSh HOp
        go_wp2_with fail
        go_ret2
        exact ⟨.inl ⟨HG.out, rfl⟩, HF1.out⟩
      · have HG := Lib.hid (HOp.out nulls rest h0)
        have hlen := openC_length h0
        have hL := openC_len h0
        have hrl : rest.length ≤ 100000 := by omega
        have hcn := cnt_le nulls
        have HT := Lib.hid hown
        have HR := Lib.hid hbr
        have HQ := Lib.hid hq
        clear h0 HSh HOp hown hbr hq hL
        have HBk := Lib.hid (kind_any v b w1 (HB.out.non HF1.out) (by omega))
        go_wp2_with fail
        refine HBk.out.mono ?_
        rintro e w2 ⟨rfl, rfl⟩
        clear HBk
        have HCt := Lib.hid (count_any t nulls w1 HT.out.vs (by omega))
        go_wp2_with fail
        refine HCt.out.mono ?_
        rintro e w2 ⟨rfl, rfl⟩
        clear HCt
        have HRd : Hid (∀ z : Int, z = (m : Int) - (cnt nulls : Nat) → Calls Tryz.prog 12 #[.int .i64 ty, .int .i64 (kindB b : Nat), r, .int .i64 z] w1 fun e w' => Gtc w' w1.heap.size (readC ty (kindB b) rest (m - cnt nulls)) e ∧ Fr Non w1 w') := by
          refine Lib.hid fun z hz => ?_
          obtain rfl : z = ((m - cnt nulls : Nat) : Int) := by omega
          exact read_any ty (kindB b) r rest (m - cnt nulls) w1 HR.out HQ.out hrl (by omega)
        have HLn : Hid (∀ o, readC ty (kindB b) rest (m - cnt nulls) = some o → o.length + cnt nulls = nulls.length) := Lib.hid fun o ho => by
          have := (wayG_is (readC_is ho).2.1).2.1
          omega
        generalize readC ty (kindB b) rest (m - cnt nulls) = R at *
        generalize kindB b = kk at *
        generalize hcc : cnt nulls = cc at *
        have hcl : cc ≤ m := by omega
        have hnl : nulls.length ≤ 1000000 := by omega
        have HCC := Lib.hid hcc
        clear hcc hlen hcn
        go_wp2_with fail
        refine (HRd.out _ ?_).mono ?_
        · first | rfl | (push_cast; omega)
        rintro e w2 ⟨hG, hf2⟩
        have HF2 := Lib.hid hf2
        clear hf2 HRd
        rcases hG with ⟨h1, u, l, rfl, h2⟩ | ⟨l, u, h1, rfl, h2⟩
        · have HG2 : Hid (G = none) := Lib.hid (by rw [HG.out, h1]; rfl)
          clear h1 h2
          go_wp2_with fail
          go_ret2
          exact ⟨.inl ⟨HG2.out, rfl⟩, HF1.out.trans HF2.out⟩
        · have HG2 : Hid (G = some (joinC nulls l)) := Lib.hid (by rw [HG.out, h1]; rfl)
          have HJ := Lib.hid (join_cl t u nulls l w2 (HT.out.vs.non HF2.out) h2.cs hnl (by rw [HCC.out]; exact HLn.out l h1))
          clear h1 h2
          go_wp2_with fail
          refine HJ.out.mono ?_
          rintro e w3 ⟨u3, rfl, ho3, hf3⟩
          have HO3 := Lib.hid (ho3.mono (HF1.out.trans HF2.out).size)
          have HF3 := Lib.hid ((HF1.out.trans HF2.out).trans hf3)
          clear ho3 hf3
          go_wp2
          go_ret2
          exact ⟨.inr ⟨_, _, HG2.out, rfl, HO3.out⟩, HF3.out⟩

theorem okL_may {ty : Int} {l : List Cl} (h : ∀ c ∈ l, mayC ty true c = true ∧ I64 c.num) : OkL (othersC l) := by
  intro c hc
  have := h c (List.mem_filter.1 hc).1
  refine ⟨this.2, ?_⟩
  have h2 := this.1
  unfold mayC at h2
  simp only [Bool.and_eq_true] at h2
  obtain ⟨_, h2⟩ := h2
  split at h2
  · simp at h2
    rw [h2.2]
    simp
  · split at h2
    · simp at h2
      omega
    · simp at h2
      rw [h2.1]
      simp

theorem shortC_in (l : List Cl) : ∀ (ks : List Nat) (n : Nat) (b : List UInt8), (shortC l ks (n, b)).1 ∈ n :: ks
  | [], n, b => by simp [shortC]
  | k :: ks, n, b => by
    rw [shortC]
    split
    · exact List.mem_cons_of_mem n (shortC_in l ks k (wayB k l))
    · have := shortC_in l ks n b
      rcases List.mem_cons.1 this with h | h
      · rw [h]; simp
      · simp [h]
theorem bs_byteZ (w2 : World) {k : Nat} (hk : k ≤ 64) {z : Int} (hz : z = (k : Int)) : Bs (w2.alloc (.cells #[.int .u8 z] 5)) (.slice (some ⟨w2.heap.size, 0, none⟩) 1 1) [k.toUInt8] := by
  have := bs_row w2 [k.toUInt8]
  simp only [List.map_cons, List.map_nil, bv, small64 hk] at this
  rw [hz]
  exact this
theorem parts_byte2 {w2 : World} {B : Nat} {x : Value} {t : TypeId} {n : List UInt8} {k : Nat} (hk : k ≤ 64) {z : Int} (hz : z = (k : Int)) (hx : Own w2 B x n) :
    Parts ((w2.alloc (.cells #[.int .u8 z] 5)).alloc (.cells #[.slice (some ⟨w2.heap.size, 0, none⟩) 1 1, x] t)) (w2.heap.size + 1) [.slice (some ⟨w2.heap.size, 0, none⟩) 1 1, x] [[k.toUInt8], n] := by
  have hf : Fr Non w2 (w2.alloc (.cells #[.int .u8 z] 5)) := (Fr.refl _ _).alloc _
  have h := Parts.two (t := t) (bs_byteZ w2 hk hz) (hx.bs.non hf)
  rwa [show (w2.alloc (.cells #[.int .u8 z] 5)).heap.size = w2.heap.size + 1 by simp] at h
theorem byte_fl2 (x : UInt8) (m : List UInt8) : [[x], m].flatten = x :: m := by simp
theorem byte_fl3 (x : UInt8) (m n : List UInt8) : [[x], m, n].flatten = x :: (m ++ n) := by simp

set_option maxHeartbeats 4000000 in
theorem put_cl (ty : Int) (v : Value) (l : List Cl) (w : World) (hv : Cs w v l) (hm : ∀ c ∈ l, mayC ty true c = true ∧ I64 c.num) (hl : l.length ≤ 4096) (hb : (putC ty l).length ≤ 1000000) (hpos : 0 < (putC ty l).length) :
    Calls Tryz.prog 10 #[.int .i64 ty, v] w fun e w' => ∃ u, e = .returned u ∧ Own w' w.heap.size u (putC ty l) ∧ Fr Non w w' := by
  have HV := Lib.hid hv
  have HO := Lib.hid (okL_may hm)
  have HAll : Hid (l.all (mayC ty true) = true) := Lib.hid (List.all_eq_true.2 fun c hc => (hm c hc).1)
  have hof : (othersC l).length ≤ l.length := List.length_filter_le _ _
  have hwp := waysOf_pos ty
  have hwl := waysOf_len ty
  have HMay := Lib.hid (mayL_any ty true v l w hv (by omega))
  rw [HAll.out] at HMay
  have d4 : decide (4096 < (l.length : Int)) = false := by simp; omega
  obtain ⟨A, c, rfl⟩ : ∃ A c, v = .slice A l.length c := by obtain ⟨A, c, h, _⟩ := hv; exact ⟨A, c, h⟩
  have HPart := Lib.hid (fun W (h : Cs W (.slice A l.length c) l) => part_any (.slice A l.length c) l W h (by omega))
  have HSh := Lib.hid (fun W v3 o (h1 : Ws W v3 (waysOf ty)) (h2 : Cs W o (othersC l)) => shortest_any v3 o (waysOf ty) (othersC l) W h1 h2 (by omega) (fun k hk => by have := hwp k hk; omega) (by omega) HO.out)
  have HWays := Lib.hid (fun W => ways_any ty W)
  have hP : putC ty l = if (shortC (othersC l) (waysOf ty) (0, [])).1 = 0 then []
      else if (othersC l).length = l.length then (shortC (othersC l) (waysOf ty) (0, [])).1.toUInt8 :: (shortC (othersC l) (waysOf ty) (0, [])).2
      else ((shortC (othersC l) (waysOf ty) (0, [])).1 + 8).toUInt8 :: (packB (nullsC l) ++ (shortC (othersC l) (waysOf ty) (0, [])).2) := rfl
  have hk6 : (shortC (othersC l) (waysOf ty) (0, [])).1 ≤ 6 := by
    rcases List.mem_cons.1 (shortC_in (othersC l) (waysOf ty) 0 []) with h | h
    · omega
    · exact (hwp _ h).2
  have hnl : (nullsC l).length ≤ 1000000 := by unfold nullsC; rw [List.length_map]; omega
  generalize putC ty l = P at *
  generalize shortC (othersC l) (waysOf ty) (0, []) = sh at *
  obtain ⟨k, y⟩ := sh
  dsimp only at hP hk6 HSh
  generalize waysOf ty = ks at *
  generalize othersC l = os at *
  generalize nullsC l = nl at *
  have hk0 : k ≠ 0 := by
    intro h
    rw [if_pos h] at hP
    subst hP
    simp at hpos
  rw [if_neg hk0] at hP
  have hk64 : k ≤ 64 := by omega
  have e0 : ((k : Int) == 0) = false := by rw [beq_eq_false_iff_ne]; omega
  have HP := Lib.hid hP
  clear hv hm HAll hP hwp hwl HO hpos hk0
  go_enter Tryz.func10, Tryz.ntmps10
  go_wp2_with fail
  refine HMay.out.mono ?_
  rintro e w1 ⟨rfl, hf1⟩
  have HF1 := Lib.hid hf1
  clear hf1 HMay
  go_wp2_with fail
  refine (HPart.out w1 (HV.out.non HF1.out)).mono ?_
  rintro e w2 ⟨t, o, rfl, ht, ho, hf2⟩
  have HT := Lib.hid ht
  have HOo := Lib.hid ho
  have HF2 := Lib.hid (HF1.out.trans hf2)
  clear ht ho hf2 HPart
  go_wp2_with fail
  refine (HWays.out w2).mono ?_
  rintro e w3 ⟨v3, rfl, hw3, hf3⟩
  have HW3 := Lib.hid hw3
  have HF3 := Lib.hid hf3
  clear hw3 hf3
  go_wp2_with fail
  refine (HSh.out w3 v3 o HW3.out (HOo.out.cs.non HF3.out)).mono ?_
  rintro e w4 ⟨u4, rfl, ho4, hf4⟩
  obtain ⟨A4, c4, rfl⟩ := ho4.bs.shape
  have HO4 := Lib.hid ho4
  have HT4 := Lib.hid ((HT.out.non HF3.out).non hf4)
  have HF4 := Lib.hid ((HF2.out.trans HF3.out).trans hf4)
  obtain ⟨Ao, co, rfl⟩ : ∃ A c, o = .slice A os.length c := by obtain ⟨A, c, h, _⟩ := HOo.out.cs; exact ⟨A, c, h⟩
  clear ho4 hf4 HSh HWays HV HW3 HOo HT
  by_cases hs : os.length = l.length
  · have hP := HP.out
    rw [if_pos hs] at hP
    have es : ((os.length : Int) == l.length) = true := by rw [hs]; simp
    have hcl : [[k.toUInt8], y].flatten.length < 1099511627776 := by rw [byte_fl2, ← hP]; omega
    have HP2 := Lib.hid hP
    have HCl := Lib.hid hcl
    clear HP hP hcl hs hb
    go_wp2_with fail
    refine (concat_any (w4.heap.size + 1) 2 2 _ [[k.toUInt8], y] _ rfl (by omega) (parts_byte2 hk64 rfl HO4.out) HCl.out).mono ?_
    rintro e w5 ⟨u5, rfl, ho5, hf5⟩
    go_wp2
    go_ret
    refine ⟨u5, rfl, ?_, ?_⟩
    · rw [byte_fl2, ← HP2.out] at ho5
      exact ho5.mono ((HF4.out.alloc _).alloc _).size
    · exact ((HF4.out.alloc _).alloc _).trans hf5
  · have hP := HP.out
    rw [if_neg hs] at hP
    have es : ((os.length : Int) == l.length) = false := by rw [beq_eq_false_iff_ne]; omega
    have hcl : [[(k + 8).toUInt8], packB nl, y].flatten.length < 1099511627776 := by rw [byte_fl3, ← hP]; omega
    have HP2 := Lib.hid hP
    have HCl := Lib.hid hcl
    clear HP hP hcl hs hb
    go_wp2_with fail
    refine (pack_any t nl _ (HT4.out.vs.non ((Fr.refl _ _).alloc _)) hnl).mono ?_
    rintro e w5 ⟨u5, rfl, ho5, hf5⟩
    have hb5 := bs_byteZ w4 (k := k + 8) (by omega) (z := (k : Int) + 8) (by push_cast; rfl)
    have HF5 := Lib.hid (((Fr.refl Non w4).alloc (.cells #[.int .u8 ((k : Int) + 8)] 5)).trans hf5)
    have HB5 := Lib.hid (hb5.non hf5)
    have HY5 := Lib.hid (HO4.out.bs.non HF5.out)
    have HO5 := Lib.hid ho5
    obtain ⟨A5, c5, rfl⟩ := ho5.bs.shape
    clear hb5 hf5 ho5
    go_wp2_with fail
    refine (concat_any w5.heap.size 3 3 _ [[(k + 8).toUInt8], packB nl, y] _ rfl (by omega) (Parts.three HB5.out HO5.out.bs HY5.out) HCl.out).mono ?_
    rintro e w6 ⟨u6, rfl, ho6, hf6⟩
    go_wp2
    go_ret
    have hF := ((HF4.out.trans HF5.out).alloc _).trans hf6
    refine ⟨u6, rfl, ?_, hF⟩
    rw [byte_fl3, ← HP2.out] at ho6
    exact ho6.mono (((HF4.out.trans HF5.out).alloc _).size)
end Go.Proofs.YtemfmnjhmmlmbaaGreat


namespace Go.Proofs.YtemfmnjhmmlmbaaGreat
set_option linter.unusedVariables false
set_option linter.unusedSimpArgs false
set_option maxRecDepth 100000
open Go.RowKit

def GeN (B : Nat) : Nat → Prop := fun k => B ≤ k
theorem mostR_len (l : List UInt8) (m : Int) : (mostR l m).length ≤ l.length := by
  unfold mostR
  split
  · exact rest_le l
  · simp

set_option maxHeartbeats 4000000 in
theorem rrnget_any (v : Value) (b : List UInt8) (n : Int) (w : World) (hv : Bs w v b) (hvl : ∀ k, v.ownBlock = some k → k < w.heap.size) (hl : b.length ≤ 100000000) (h1 : -9223372036854775808 ≤ n) (h2 : n ≤ 400) :
    Calls Tryz.prog 34 #[v, .int .i64 n] w fun e w' => Gtn w' w.heap.size (gtM b n) e ∧ Fr Non w w' := by
  have hsz := hvl
  have S0 : ∀ W, W = w.alloc (.cells #[v, .bool false] 68) → SAt W w.heap.size (GeN w.heap.size) b false := by
    rintro W rfl
    exact ⟨v, Blk.new _ _ _, hv.non ((Fr.refl _ _).alloc _), (fun k hk e => by have := hsz k hk; unfold GeN at e; omega), by unfold GeN; omega, fun h => by cases h⟩
  have HS0 := Lib.hid S0
  clear S0 hsz
  obtain ⟨A, c, rfl, _⟩ := hv
  have HG := Lib.hid (show gtM b n = gtz b n none by unfold gtM; rw [if_pos (by omega)])
  clear hvl
  go_enter Tryz.func34, Tryz.ntmps34
  go_wp2
  have s1 := HS0.out _ rfl
  have hg1 := s1.cells
  have hown1 : Ow iv 2 ((w.alloc (.cells #[.slice A b.length c, .bool false] 68)).alloc (.cells #[] 2)) (w.heap.size + 1) (.slice (some ⟨w.heap.size + 1, 0, none⟩) 0 0) [] := ow_lit0 _ _ _ (by simp) (Nat.le_refl _)
  have f1 : Fr Non w ((w.alloc (.cells #[.slice A b.length c, .bool false] 68)).alloc (.cells #[] 2)) := ((Fr.refl _ _).alloc _).alloc _
  have s2 := s1.fr (S' := Non) ((Fr.refl _ _).alloc (.cells #[] 2)) (fun e => e) (fun _ e => e.elim)
  have hBB : w.heap.size + 1 ≤ ((w.alloc (.cells #[.slice A b.length c, .bool false] 68)).alloc (.cells #[] 2)).heap.size := by simp
  clear s1 hg1
  generalize hgg : w.heap.size = g at *
  have HW := Lib.hid hgg
  clear hgg
  go_loopw [7] (fun x wr => ∃ (r : List UInt8) (o : List Int), Ow iv 2 wr (g + 1) x o ∧ ((o.length : Int) ≤ n ∨ o.length = 0) ∧ r.length ≤ b.length ∧ SAt wr g (GeN g) r false ∧ Hid (gtz b n none = (gtz r (n - o.length) o.getLast?).map (o ++ ·)) ∧ g + 1 ≤ wr.heap.size ∧ Fr Non w wr) (fun x _ => 401 - slLen x)
  case atStart => exact ⟨b, [], hown1, .inr rfl, Nat.le_refl _, s2, Lib.hid (by simp), hBB, f1⟩
  case round =>
    obtain ⟨r, o, hown, hom, hrb, hs, HI, hBr, hfr⟩ := hrel
    have HO := Lib.hid hown
    have HF := Lib.hid hfr
    obtain ⟨A1, c1, rfl⟩ := hown.shape
    clear hown hfr hown1 s2 f1 hBB
    have HIo := HI.out
    generalize hol : o.length = ol at *
    have HL := Lib.hid hol
    clear hol HI
    have ho4 : ol ≤ 400 := by omega
    obtain ⟨Ar, cr, cc0, cc1, ff0, _⟩ := hs.cells
    cases r with
    | nil =>
      simp only [List.length_nil] at cc0
      by_cases hz : n - ol = 0
      · have HR : Hid (gtz b n none = some o) := Lib.hid (by rw [HIo, hz, gtz_nil]; simp)
        have hb : ((ol : Int) != n) = false := by rw [bne_eq_false_iff_eq]; omega
        have HZ := Lib.hid hz
        clear HIo hz
        go_wp2
        go_ret2
        exact ⟨gtn_yes (HG.out.trans HR.out) (HO.out.mono (by have := HW.out; omega)), HF.out⟩
      · have HR : Hid (gtz b n none = none) := Lib.hid (by rw [HIo, gtz_none hz]; rfl)
        have hb : ((ol : Int) != n) = true := by rw [bne_iff_ne]; omega
        clear HIo hz
        go_wp2
        go_ret2
        exact ⟨gtn_no (HG.out.trans HR.out), HF.out⟩
    | cons r0 r1 =>
      have hrl : (0 : Int) < ((r0 :: r1).length : Int) := by simp
      have hne : r0 :: r1 ≠ [] := by simp
      generalize r0 :: r1 = r at *
      have hrl9 : r.length < 1000000000 := by omega
      cases hx : nxR r 400 with
      | none =>
        have HR : Hid (gtz b n none = none) := Lib.hid (by rw [HIo, gtz_bad hne (by omega) hx]; rfl)
        have hfe := step_none (z := 401 - 1) hx rfl
        have hml := mostR_len r (401 - 1)
        clear hx hne HIo
        go_wp2_with fail
        refine (rbelow_any g (GeN g) r false 401 wr hs hrl9 (by omega)).mono ?_
        rintro e w3 ⟨rfl, s3, f3⟩
        generalize mostV r (401 - 1) = mv at *
        go_wp2_with fail
        refine (rsint_any g (GeN g) _ _ w3 s3 (by omega)).mono ?_
        rintro e w4 ⟨rfl, s4, f4⟩
        rw [hfe] at s4
        generalize unzig (fstN (mostR r (401 - 1))) = mz at *
        clear hfe s3 hml cc0 cc1 ff0
        obtain ⟨Ar, cr, cc0, cc1, ff0, _⟩ := s4.cells
        have hf4 := (HF.out.fresh (f3.trans f4) (fun k e => by have : k = g := e; have := HW.out; omega))
        clear f3 f4
        go_wp2
        go_ret2
        exact ⟨gtn_no (HG.out.trans HR.out), hf4⟩
      | some y =>
        obtain ⟨k, x, q⟩ := y
        obtain ⟨e1, e2, e3, e4, hkm, hxx⟩ := step_some (z := 401 - 1) hx rfl
        have hql := nxR_le hx
        have hb0 := rbelow_any g (GeN g) r false 401 wr hs hrl9 (by omega)
        rw [e1] at hb0
        have hi0 : ∀ w3, SAt w3 g (GeN g) (mostR r (401 - 1)) (mostB r (401 - 1)) →
            Calls Tryz.prog 32 #[ptr g] w3 fun e w' => e = .returned (.int .i64 x) ∧ SAt w' g (GeN g) q false ∧ Fr (One g) w3 w' := by
          intro w3 s3
          have := rsint_any g (GeN g) _ _ w3 s3 (by have := mostR_len r (401 - 1); omega)
          rwa [e2, e3, e4] at this
        have HI0 := Lib.hid hi0
        have HX := Lib.hid hx
        clear e1 e2 e3 e4 hi0 hne hx
        have hw1 := HW.out
        by_cases hbig : n - ol < (k : Int) + 1
        · have HR : Hid (gtz b n none = none) := Lib.hid (by rw [HIo, gtz_big HX.out hbig]; rfl)
          clear HIo
          go_wp2_with fail
          refine hb0.mono ?_
          rintro e w3 ⟨rfl, s3, f3⟩
          go_wp2_with fail
          refine (HI0.out w3 s3).mono ?_
          rintro e w4 ⟨rfl, s4, f4⟩
          have hf4 := (HF.out.fresh (f3.trans f4) (fun k e => by have : k = g := e; omega))
          clear f3 f4 cc0 cc1 ff0
          obtain ⟨Ar, cr, cc0, cc1, ff0, _⟩ := s4.cells
          go_wp2
          go_ret2
          exact ⟨gtn_no (HG.out.trans HR.out), hf4⟩
        · have hfit : (k : Int) + 1 ≤ n - ol := by omega
          have hd : decide (n - ol < (k : Int) + 1) = false := by simpa using hfit
          cases hla : o.getLast? with
          | none =>
            have hol : o = [] := by simpa using hla
            have h0 : ol = 0 := by rw [← HL.out, hol]; rfl
            have HIN : Hid (gtz b n none = (gtz q (n - ol - ((k : Int) + 1)) (some x)).map (o ++ List.replicate (k + 1) x ++ ·)) := Lib.hid (by
              rw [HIo, gtz_more HX.out hfit (by rw [hla]; simp), more_app])
            subst h0
            clear hol
            clear HIo hla
            go_wp2_with fail
            refine hb0.mono ?_
            rintro e w3 ⟨rfl, s3, f3⟩
            go_wp2_with fail
            refine (HI0.out w3 s3).mono ?_
            rintro e w4 ⟨rfl, s4, f4⟩
            have f34 := f3.trans f4
            have hB4 := Nat.le_trans hBr f34.size
            have hf4 := (HF.out.fresh f34 (fun k e => by have : k = g := e; omega))
            have hown4 := HO.out.fr f34 (fun k hk e => by have h1 := (HO.out.lt k hk).1; have : k = g := e; omega)
            clear f3 f4 s3 f34 cc0 cc1 ff0
            obtain ⟨Ar, cr, cc0, cc1, ff0, _⟩ := s4.cells
            go_wp2
            go_loopw [7, 10] (fun u i wx => ∃ j : Nat, j ≤ k + 1 ∧ i = .int .i64 j ∧ Ow iv 2 wx (g + 1) u (o ++ List.replicate j x) ∧ SAt wx g (GeN g) q false ∧ g + 1 ≤ wx.heap.size ∧ Fr Non w wx) (fun _ i _ => k + 1 - (intOf i).toNat)
            case atStart => exact ⟨0, Nat.zero_le _, rfl, by simpa using hown4, s4, hB4, hf4⟩
            case round =>
              clear hown4 s4 hf4 hB4 cc0 cc1 ff0
              obtain ⟨j, hj, rfl, hown, hs, hBx, hfr⟩ := hrel
              by_cases hlj : j < k + 1
              · have HLen : Hid ((o ++ List.replicate j x).length < 1099511627776) := Lib.hid (by rw [List.length_append, HL.out, List.length_replicate]; omega)
                have HS := Lib.hid (show o ++ List.replicate j x ++ [x] = o ++ List.replicate (j + 1) x by rw [List.replicate_succ', List.append_assoc])
                go_wp2_with (at_builtin; refine wpList_pushG el_i64 iv_oneC rfl (.tmp 58) (.tmp 60) rfl (g + 1) _ (o ++ List.replicate j x) rfl hown _ x rfl rfl HLen.out hBx ?_; intro v5 w5 hown5 hf5)
                have hf5n := hfr.fresh hf5 (fun q hq => by have := (hown.lt q hq).1; have := HW.out; omega)
                go_roundw
                case rel => exact ⟨j + 1, by omega, by go_num, by rw [← HS.out]; exact hown5, hs.fr hf5 (fun e => by have := (hown.lt _ e).1; omega) (fun q hq => by have := (hown.lt _ hq).1; unfold GeN; omega), Nat.le_trans hBx hf5.size, hf5n⟩
                case measure => simp [intOf]; omega
              · obtain rfl : j = k + 1 := by omega
                have hsl := slLen_vs hown.vs
                rw [List.length_append, HL.out, List.length_replicate] at hsl
                go_wp2
                go_roundw
                case rel => exact ⟨q, o ++ List.replicate (k + 1) x, hown, .inl (by rw [List.length_append, HL.out, List.length_replicate]; omega), by omega, hs, Lib.hid (by rw [HIN.out, last_more, List.length_append, HL.out, List.length_replicate]; congr 2; push_cast; omega), hBx, hfr⟩
                case measure => rw [hsl]; simp [slLen]; omega
          | some y =>
            obtain ⟨t, ht, hyt⟩ := last_at hla
            have hot : ol = t + 1 := by rw [← HL.out]; exact ht
            have hcl : ∃ g2, A1 = some ⟨g2, 0, none⟩ ∧ g + 1 ≤ g2 ∧ g2 < wr.heap.size ∧ wr.cell? ⟨g2, t, none⟩ = some (.int .i64 y) := by
              obtain ⟨g2, cap, he, h1, h2, _⟩ := HO.out.row (by omega)
              simp only [Value.slice.injEq] at he
              obtain ⟨rfl, _, _⟩ := he
              exact ⟨g2, rfl, h1, h2, HO.out.cell HL.out.symm t y hyt⟩
            obtain ⟨g2, rfl, hg2, hg2s, hc2⟩ := hcl
            subst hot
            clear ht hyt
            by_cases hyx : y = x
            · have HR : Hid (gtz b n none = none) := Lib.hid (by
                rw [HIo, gtz_same HX.out hfit (by rw [hla, hyx])]; rfl)
              have hb : (y == x) = true := by simp [hyx]
              clear HIo hla hyx
              go_wp2_with fail
              refine hb0.mono ?_
              rintro e w3 ⟨rfl, s3, f3⟩
              go_wp2_with fail
              refine (HI0.out w3 s3).mono ?_
              rintro e w4 ⟨rfl, s4, f4⟩
              have f34 := f3.trans f4
              have hc4 := (f34.cell (p := ⟨g2, t, none⟩) hg2s (fun e => by have : g2 = g := e; omega)).trans hc2
              have hf4 := (HF.out.fresh f34 (fun k e => by have : k = g := e; omega))
              clear f3 f4 s3 hc2 cc0 cc1 ff0
              obtain ⟨Ar, cr, cc0, cc1, ff0, _⟩ := s4.cells
              go_wp2
              go_ret2
              exact ⟨gtn_no (HG.out.trans HR.out), hf4⟩
            · have HIN : Hid (gtz b n none = (gtz q (n - (t + 1 : Nat) - ((k : Int) + 1)) (some x)).map (o ++ List.replicate (k + 1) x ++ ·)) := Lib.hid (by
                rw [HIo, gtz_more HX.out hfit (by rw [hla]; simpa using hyx), more_app])
              have hb : (y == x) = false := by simpa using hyx
              clear HIo hla hyx
              go_wp2_with fail
              refine hb0.mono ?_
              rintro e w3 ⟨rfl, s3, f3⟩
              go_wp2_with fail
              refine (HI0.out w3 s3).mono ?_
              rintro e w4 ⟨rfl, s4, f4⟩
              have f34 := f3.trans f4
              have hc4 := (f34.cell (p := ⟨g2, t, none⟩) hg2s (fun e => by have : g2 = g := e; omega)).trans hc2
              clear hc2
              have hB4 := Nat.le_trans hBr f34.size
              have hf4 := (HF.out.fresh f34 (fun k e => by have : k = g := e; omega))
              have hown4 := HO.out.fr f34 (fun k hk e => by have h1 := (HO.out.lt k hk).1; have : k = g := e; omega)
              clear f3 f4 s3 f34 cc0 cc1 ff0
              obtain ⟨Ar, cr, cc0, cc1, ff0, _⟩ := s4.cells
              go_wp2
              go_loopw [7, 10] (fun u i wx => ∃ j : Nat, j ≤ k + 1 ∧ i = .int .i64 j ∧ Ow iv 2 wx (g + 1) u (o ++ List.replicate j x) ∧ SAt wx g (GeN g) q false ∧ g + 1 ≤ wx.heap.size ∧ Fr Non w wx) (fun _ i _ => k + 1 - (intOf i).toNat)
              case atStart => exact ⟨0, Nat.zero_le _, rfl, by simpa using hown4, s4, hB4, hf4⟩
              case round =>
                clear hown4 s4 hf4 hB4 cc0 cc1 ff0
                obtain ⟨j, hj, rfl, hown, hs, hBx, hfr⟩ := hrel
                by_cases hlj : j < k + 1
                · have HLen : Hid ((o ++ List.replicate j x).length < 1099511627776) := Lib.hid (by rw [List.length_append, HL.out, List.length_replicate]; omega)
                  have HS := Lib.hid (show o ++ List.replicate j x ++ [x] = o ++ List.replicate (j + 1) x by rw [List.replicate_succ', List.append_assoc])
                  go_wp2_with (at_builtin; refine wpList_pushG el_i64 iv_oneC rfl (.tmp 58) (.tmp 60) rfl (g + 1) _ (o ++ List.replicate j x) rfl hown _ x rfl rfl HLen.out hBx ?_; intro v5 w5 hown5 hf5)
                  have hf5n := hfr.fresh hf5 (fun q hq => by have := (hown.lt q hq).1; have := HW.out; omega)
                  go_roundw
                  case rel => exact ⟨j + 1, by omega, by go_num, by rw [← HS.out]; exact hown5, hs.fr hf5 (fun e => by have := (hown.lt _ e).1; omega) (fun q hq => by have := (hown.lt _ hq).1; unfold GeN; omega), Nat.le_trans hBx hf5.size, hf5n⟩
                  case measure => simp [intOf]; omega
                · obtain rfl : j = k + 1 := by omega
                  have hsl := slLen_vs hown.vs
                  rw [List.length_append, HL.out, List.length_replicate] at hsl
                  go_wp2
                  go_roundw
                  case rel => exact ⟨q, o ++ List.replicate (k + 1) x, hown, .inl (by rw [List.length_append, HL.out, List.length_replicate]; omega), by omega, hs, Lib.hid (by rw [HIN.out, last_more, List.length_append, HL.out, List.length_replicate]; congr 2; push_cast; omega), hBx, hfr⟩
                  case measure => rw [hsl]; simp [slLen]; omega
end Go.Proofs.YtemfmnjhmmlmbaaGreat


namespace Go.Proofs.YtemfmnjhmmlmbaaGreat
set_option linter.unusedVariables false
set_option linter.unusedSimpArgs false
set_option maxRecDepth 100000
open Go.RowKit

theorem textsM_bad {b : List UInt8} {n : Int} {m : Int} {k : Nat} (hk : (k : Int) ≤ n) (h : tkB m b false k = true) : textsM b n m = none := by
  unfold textsM
  rw [if_neg]
  rintro ⟨h0, _, h2, _⟩
  have := tkB_more (l := b) (fun e => by cases e) h (n.toNat - k)
  rw [show k + (n.toNat - k) = n.toNat by omega, h2] at this
  cases this
theorem textsM_neg {b : List UInt8} {n : Int} {m : Int} (h : n < 0) : textsM b n m = none := by
  unfold textsM; rw [if_neg (by omega)]
theorem textsM_at {b : List UInt8} {m : Int} {k : Nat} (hk : k ≤ 4096) : textsM b k m = if tkB m b false k = false ∧ tkR m b k = [] then some (tks m b k) else none := by
  unfold textsM
  simp only [Int.toNat_natCast]
  by_cases hc : tkB m b false k = false ∧ tkR m b k = []
  · rw [if_pos hc, if_pos ⟨by omega, by omega, hc.1, hc.2⟩]
  · rw [if_neg hc, if_neg (fun h => hc ⟨h.2.2.1, h.2.2.2⟩)]

set_option maxHeartbeats 4000000 in
theorem rtexts_any (v : Value) (b : List UInt8) (n m : Int) (w : World) (hv : Bs w v b) (hvl : ∀ k, v.ownBlock = some k → k < w.heap.size) (hl : b.length ≤ 1000000) (h1 : -9223372036854775808 ≤ n) (h2 : n ≤ 400) (hm : m ≤ 9223372036854775807) :
    Calls Tryz.prog 30 #[v, .int .i64 n, .int .i64 m] w fun e w' => Gtx w' w.heap.size (textsM b n m) e ∧ Fr Non w w' := by
  have S0 : ∀ W, W = w.alloc (.cells #[v, .bool false] 68) → SAt W w.heap.size (GeT w.heap.size) b false := by
    rintro W rfl
    exact ⟨v, Blk.new _ _ _, hv.non ((Fr.refl _ _).alloc _), (fun k hk e => by have := hvl k hk; unfold GeT at e; omega), by unfold GeT; omega, fun h => by cases h⟩
  have HS0 := Lib.hid S0
  obtain ⟨A, c, rfl, _⟩ := hv
  clear S0 hvl
  have f0 : Fr Non w (w.alloc (.cells #[.slice A b.length c, .bool false] 68)) := (Fr.refl _ _).alloc _
  have hz0 : (w.alloc (.cells #[.slice A b.length c, .bool false] 68)).heap.size = w.heap.size + 1 := by simp
  have s0 := HS0.out _ rfl
  go_enter Tryz.func30, Tryz.ntmps30
  go_wp2
  generalize w.alloc (.cells #[.slice A b.length c, .bool false] 68) = W0 at *
  have HF0 := Lib.hid f0
  have o0 : Ow sv 9 (W0.alloc (.cells #[] 9)) (w.heap.size + 1) (.slice (some ⟨w.heap.size + 1, 0, none⟩) 0 0) [] := ow_lit0 W0 _ _ hz0.symm (Nat.le_refl _)
  have s1 := s0.fr ((Fr.refl Non W0).alloc (.cells #[] 9)) (fun e => e) (fun k e => e.elim)
  have f1 := f0.alloc (.cells #[] 9)
  go_loopw [9, 10] (fun o i wx => ∃ k : Nat, k ≤ 400 ∧ ((k : Int) ≤ n ∨ k = 0) ∧ i = .int .i64 k ∧ Ow sv 9 wx (w.heap.size + 1) o (tks m b k) ∧ SAt wx w.heap.size (GeT w.heap.size) (tkR m b k) (tkB m b false k) ∧ Fr Non w wx) (fun _ i _ => 500 - (intOf i).toNat)
  case atStart => exact ⟨0, by omega, .inr rfl, rfl, o0, s1, f1⟩
  case round =>
    clear o0 s1 f1 s0
    obtain ⟨k, hk4, hkn, rfl, hown, hs, hfr⟩ := hrel
    have hRl := tkR_len m b k
    obtain ⟨A1, c1, hsh⟩ := hown.shape
    rw [tks_length] at hsh
    subst hsh
    have HTL := Lib.hid (tks_length m b k)
    have h500 : (k : Int) < 500 := by omega
    by_cases hlt : (k : Int) < n
    · cases hbad : tkB m b false k with
      | false =>
        rw [hbad] at hs
        obtain ⟨A2, c2, cc0, cc1, ff0, _⟩ := hs.cells
        have htx := rstext_any w.heap.size (GeT w.heap.size) _ _ m wr hs (by omega) hm
        have HO := Lib.hid hown
        have HFr := Lib.hid hfr
        have hsz := hfr.size
        have hpl : (tks m b k).length < 1099511627776 := by rw [HTL.out]; omega
        have HPl := Lib.hid hpl
        have HK1 : Hid (tks m b (k + 1) = tks m b k ++ [txtT (tkR m b k) m]) := Lib.hid rfl
        have HK2 : Hid (tkR m b (k + 1) = txtR (tkR m b k) m) := Lib.hid rfl
        have HK3 : Hid (tkB m b false (k + 1) = txtB (tkR m b k) m) := Lib.hid rfl
        clear hs hown hfr hpl hbad
        generalize hT : tks m b k = T at *
        have HTT := Lib.hid hT
        clear hT
        go_wp2_with fail
        refine htx.mono ?_
        rintro e w2 ⟨rfl, hs2, hf2⟩
        have ho2 := HO.out.fr hf2 (fun q hq e => by have h1 := (HO.out.lt q hq).1; have h2 : q = w.heap.size := e; omega)
        have hfr2 : Fr Non w w2 := HFr.out.fresh hf2 (fun q hq => by have h2 : q = w.heap.size := hq; omega)
        have hgl : w.heap.size + 1 ≤ w2.heap.size := by obtain ⟨_, hb, _⟩ := hs2; exact hb.lt
        have HS2 := Lib.hid hs2
        clear hs2 htx
        go_wp2_with (refine wpList_pushG el_str sv_one rfl (.tmp 31) (.tmp 35) rfl (w.heap.size + 1) (.slice A1 k c1) T rfl ho2 _ (txtT (tkR m b k) m) rfl rfl HPl.out hgl ?_; intro v' w' hown' hfr')
        go_roundw
        case rel =>
          refine ⟨k + 1, by omega, .inl (by omega), by go_num, by rw [HK1.out, ← HTT.out]; rw [← HTT.out] at hown'; exact hown', ?_, hfr2.fresh hfr' (fun q hq => by have h1 := (ho2.lt q hq).1; omega)⟩
          rw [HK2.out, HK3.out]
          exact HS2.out.fr hfr' (fun e => by have h1 := (ho2.lt _ e).1; omega) (fun q e => by have h1 := (ho2.lt q e).1; unfold GeT; omega)
        case measure => simp [intOf]; omega
      | true =>
        rw [hbad] at hs
        obtain ⟨A2, c2, cc0, cc1, ff0, _⟩ := hs.cells
        have HNo := Lib.hid (textsM_bad (n := n) (by omega) hbad)
        have hend := rend_any w.heap.size (GeT w.heap.size) _ _ wr hs
        rw [show (!true && (tkR m b k).isEmpty) = false from rfl] at hend
        clear hbad hs
        go_wp2_with fail
        refine hend.mono ?_
        rintro e w2 ⟨rfl, rfl⟩
        go_wp2
        go_ret2
        exact ⟨gtx_no HNo.out, hfr⟩
    · have hend := rend_any w.heap.size (GeT w.heap.size) _ _ wr hs
      have hd : decide ((k : Int) < n) = false := by simpa using hlt
      by_cases hneg : n < 0
      · have HNo := Lib.hid (textsM_neg (b := b) (m := m) hneg)
        obtain rfl : k = 0 := by omega
        have hne : (n != ((0 : Nat) : Int)) = true := by rw [bne_iff_ne]; omega
        have hne2 : (n != 0) = true := by rw [bne_iff_ne]; omega
        have hlt0 : ¬ (0 : Int) < n := by omega
        have hd0 : decide ((0 : Int) < n) = false := by simpa using hlt0
        clear hlt hkn
        cases hB : (!tkB m b false 0 && (tkR m b 0).isEmpty) with
        | false =>
          rw [hB] at hend
          go_wp2_with fail
          refine hend.mono ?_
          rintro e w2 ⟨rfl, rfl⟩
          go_wp2
          go_ret2
          exact ⟨gtx_no HNo.out, hfr⟩
        | true =>
          rw [hB] at hend
          go_wp2_with fail
          refine hend.mono ?_
          rintro e w2 ⟨rfl, rfl⟩
          go_wp2
          go_ret2
          exact ⟨gtx_no HNo.out, hfr⟩
      · obtain rfl : (k : Int) = n := by omega
        have HT := Lib.hid (textsM_at (b := b) (m := m) (show k ≤ 4096 by omega))
        have hdk : decide (k < k) = false := by simp
        by_cases hc : tkB m b false k = false ∧ tkR m b k = []
        · have HY := Lib.hid (HT.out.trans (if_pos hc))
          rw [hc.1, hc.2] at hend
          have hne : ((k : Int) != (k : Int)) = false := by simp
          clear hc hlt hkn
          go_wp2_with fail
          refine hend.mono ?_
          rintro e w2 ⟨rfl, rfl⟩
          go_wp2
          go_ret2
          exact ⟨gtx_yes HY.out (hown.mono (by omega)), hfr⟩
        · have HNo := Lib.hid (HT.out.trans (if_neg hc))
          have hb : (!tkB m b false k && (tkR m b k).isEmpty) = false := by
            rw [Bool.eq_false_iff]
            intro e
            simp at e
            exact hc e
          rw [hb] at hend
          clear hc hb hlt hkn
          go_wp2_with fail
          refine hend.mono ?_
          rintro e w2 ⟨rfl, rfl⟩
          go_wp2
          go_ret2
          exact ⟨gtx_no HNo.out, hfr⟩
end Go.Proofs.YtemfmnjhmmlmbaaGreat


namespace Go.Proofs.YtemfmnjhmmlmbaaGreat
set_option linter.unusedVariables false
set_option linter.unusedSimpArgs false
set_option maxRecDepth 100000
open Go.RowKit

/-- what the document's Get answers -/
def rgetM (b : List UInt8) (n m : Int) : Option (List Tx) :=
  if tkB m (mostR b 400) (mostB b 400) (mostV b 400) = true then none else dgetK 400 b n m
theorem getM_nil_is {n : Int} {at_ : List Int} (h : getM [] n = some at_) : n = 0 ∧ at_ = [] := by
  have h2 := h
  unfold getM at h
  split at h
  · obtain ⟨h3, h4, _⟩ := getZ_is h
    have h0 : at_ = [] := by
      by_cases hn : at_ = []
      · exact hn
      · rw [putT_some hn] at h3
        have := congrArg List.length h3
        simp at this
    subst h0
    exact ⟨by simpa using h4.symm, rfl⟩
  · cases h
theorem dgetK_good {K : Int} {b : List UInt8} {n m : Int} {l : List Tx} (hn : n ≤ K) (h : dgetK K b n m = some l) : tkB m (mostR b K) (mostB b K) (mostV b K) = false := by
  obtain ⟨hd, hl, h4, at_, hg, hp⟩ := dgetK_is h
  have hu := uniq_length l
  subst hd
  have h1 := dict_most (l := l) (K := K) (by omega) (by omega)
  rw [h1.1, h1.2.1] at hg hp
  rw [h1.1, h1.2.1, h1.2.2]
  cases hb : tkB m (plainB (uniq l) ++ putT (placesD l)) false (uniq l).length with
  | false => rfl
  | true =>
    exfalso
    rw [tkB_left (fun e => by cases e) hb] at hg
    obtain ⟨rfl, rfl⟩ := getM_nil_is hg
    have : l = [] := List.eq_nil_of_length_eq_zero (by omega)
    subst this
    cases hb
theorem rgetM_is {b : List UInt8} {n m : Int} (hn : n ≤ 400) : rgetM b n m = dgetM b n m := by
  by_cases h0 : n < 0
  · have h1 : dgetM b n m = none := by unfold dgetM; exact if_pos (.inl h0)
    have h2 : dgetK 400 b n m = none := by
      unfold dgetK
      rw [getM_low h0]
    unfold rgetM
    rw [h1, h2]; simp
  · have hd : dgetM b n m = dgetK n b n m := by unfold dgetM; exact if_neg (by omega)
    rw [hd]
    unfold rgetM
    cases h : dgetK n b n m with
    | some l =>
      obtain ⟨h1, h2⟩ := dgetK_any (K' := 400) (Int.le_refl n) hn h
      have h3 := dgetK_good (Int.le_refl n) h
      rw [← h2, h3, h1]; simp
    | none =>
      split
      · rfl
      · cases h2 : dgetK 400 b n m with
        | none => rfl
        | some l =>
          have := (dgetK_any (K' := n) hn (Int.le_refl n) h2).1
          rw [this] at h; cases h

def pkL (u : List Tx) (l : List Int) : List Tx := l.map fun a => u.getD a.toNat []
theorem pkL_length (u : List Tx) (l : List Int) : (pkL u l).length = l.length := by simp [pkL]
theorem pkL_take {u : List Tx} {l : List Int} (k : Nat) (h : k < l.length) : pkL u (l.take (k + 1)) = pkL u (l.take k) ++ [u.getD l[k].toNat []] := by
  unfold pkL
  rw [List.take_succ_eq_append_getElem h, List.map_append]; rfl
theorem pkL_some {u : List Tx} {l : List Int} (h : ∀ a ∈ l, 0 ≤ a ∧ a < (u.length : Int)) : pickD u l = some (pkL u l) := pickD_some h

set_option maxHeartbeats 4000000 in
theorem rxget_any (v : Value) (b : List UInt8) (n m : Int) (w : World) (hv : Bs w v b) (hvl : ∀ k, v.ownBlock = some k → k < w.heap.size) (hl : b.length ≤ 1000000) (h1 : -9223372036854775808 ≤ n) (h2 : n ≤ 400) (hm : m ≤ 9223372036854775807) :
    Calls Tryz.prog 31 #[v, .int .i64 n, .int .i64 m] w fun e w' => Gtx w' w.heap.size (rgetM b n m) e ∧ Fr Non w w' := by
  have S0 : ∀ W, W = w.alloc (.cells #[v, .bool false] 68) → SAt W w.heap.size (GeT w.heap.size) b false := by
    rintro W rfl
    exact ⟨v, Blk.new _ _ _, hv.non ((Fr.refl _ _).alloc _), (fun k hk e => by have := hvl k hk; unfold GeT at e; omega), by unfold GeT; omega, fun h => by cases h⟩
  have HS0 := Lib.hid S0
  have HV := Lib.hid hv
  obtain ⟨A, c, rfl, _⟩ := hv
  clear S0 hvl
  have f0 : Fr Non w (w.alloc (.cells #[.slice A b.length c, .bool false] 68)) := (Fr.refl _ _).alloc _
  have hz0 : (w.alloc (.cells #[.slice A b.length c, .bool false] 68)).heap.size = w.heap.size + 1 := by simp
  have s0 := HS0.out _ rfl
  have HRG : Hid (rgetM b n m = if tkB m (mostR b 400) (mostB b 400) (mostV b 400) = true then none else
      match getM (tkR m (mostR b 400) (mostV b 400)) n with
        | none => none
        | some at_ => match pickD (tks m (mostR b 400) (mostV b 400)) at_ with
          | none => none
          | some l => if dictB l = b then some l else none) := Lib.hid rfl
  have hq := mostV_le (b := b) (K := 400) (by omega)
  have hrl := mostRx_len b 400
  have hbel := rbelow_any w.heap.size (GeT w.heap.size) b false 401 _ s0 (by omega) (by omega)
  rw [show (401 : Int) - 1 = 400 from rfl] at hbel
  have HSz := Lib.hid (getM_small (b := tkR m (mostR b 400) (mostV b 400)) h2)
  rw [HSz.out] at HRG
  clear HSz s0
  have HBo : Hid (mostB b 400 = true → mostR b 400 = []) := Lib.hid (by
    unfold mostB mostR
    split
    · intro h; exact (fell_zero h).2
    · intro _; rfl)
  generalize mostV b 400 = q at *
  generalize mostR b 400 = r at *
  generalize mostB b 400 = bad at *
  go_enter Tryz.func31, Tryz.ntmps31
  go_wp2_with fail
  refine hbel.mono ?_
  rintro e w1 ⟨rfl, hs1, hf1⟩
  have hfr1 := f0.fresh hf1 (fun k hk => by have h2 : k = w.heap.size := hk; omega)
  have hsz1 : w.heap.size + 1 ≤ w1.heap.size := by have := hf1.size; omega
  clear hbel f0 hz0 hf1
  go_wp2
  have hf2 : Fr Non w1 (w1.alloc (.cells #[] 9)) := (Fr.refl _ _).alloc _
  have o0 : Ow sv 9 (w1.alloc (.cells #[] 9)) (w.heap.size + 1) (.slice (some ⟨w1.heap.size, 0, none⟩) 0 0) [] := ow_lit0 w1 _ _ rfl hsz1
  have s1 := hs1.fr hf2 (fun e => e) (fun k e => e.elim)
  have f1 := hfr1.trans hf2
  go_loopw [10, 11] (fun o i wx => ∃ k : Nat, k ≤ q ∧ i = .int .i64 k ∧ Ow sv 9 wx (w.heap.size + 1) o (tks m r k) ∧ SAt wx w.heap.size (GeT w.heap.size) (tkR m r k) (tkB m r bad k) ∧ Fr Non w wx) (fun _ i _ => q - (intOf i).toNat)
  case atStart => exact ⟨0, by omega, rfl, o0, s1, f1⟩
  case round =>
    clear o0 s1 f1 hs1 hf2 hfr1
    obtain ⟨k, hkq, rfl, hown, hs, hfr⟩ := hrel
    have hRl := tkR_len m r k
    obtain ⟨A1, c1, hsh⟩ := hown.shape
    rw [tks_length] at hsh
    subst hsh
    have HTL := Lib.hid (tks_length m r k)
    obtain ⟨A2, c2, cc0, cc1, ff0, _, _, hbs2, hbl2, _⟩ := hs.cells
    have HB2 := Lib.hid hbs2
    have HBl2 := Lib.hid hbl2
    clear hbs2 hbl2
    cases hbad : tkB m r bad k with
    | true =>
      have hall : tkB m r bad q = true := by
        have := tkB_more HBo.out hbad (q - k)
        rwa [show k + (q - k) = q by omega] at this
      rw [if_pos hall] at HRG
      rw [hbad] at cc1
      clear hbad hs hall
      by_cases hlt : k < q
      · go_wp2
        go_ret2
        exact ⟨gtx_no HRG.out, hfr⟩
      · have hd : decide (k < q) = false := by simpa using hlt
        go_wp2
        go_ret2
        exact ⟨gtx_no HRG.out, hfr⟩
    | false =>
      rw [hbad] at hs cc1
      by_cases hlt : k < q
      · have htx := rstext_any w.heap.size (GeT w.heap.size) _ _ m wr hs (by omega) hm
        have HO := Lib.hid hown
        have HFr := Lib.hid hfr
        have hpl : (tks m r k).length < 1099511627776 := by rw [HTL.out]; omega
        have HPl := Lib.hid hpl
        have HK1 : Hid (tks m r (k + 1) = tks m r k ++ [txtT (tkR m r k) m]) := Lib.hid rfl
        have HK2 : Hid (tkR m r (k + 1) = txtR (tkR m r k) m) := Lib.hid rfl
        have HK3 : Hid (tkB m r bad (k + 1) = txtB (tkR m r k) m) := Lib.hid rfl
        clear hs hown hfr hpl hbad
        generalize hT : tks m r k = T at *
        have HTT := Lib.hid hT
        clear hT
        go_wp2_with fail
        refine htx.mono ?_
        rintro e w2 ⟨rfl, hs2, hf2⟩
        have ho2 := HO.out.fr hf2 (fun q hq e => by have h1 := (HO.out.lt q hq).1; have h2 : q = w.heap.size := e; omega)
        have hfr2 : Fr Non w w2 := HFr.out.fresh hf2 (fun q hq => by have h2 : q = w.heap.size := hq; omega)
        have hgl : w.heap.size + 1 ≤ w2.heap.size := by obtain ⟨_, hb, _⟩ := hs2; exact hb.lt
        have HS2 := Lib.hid hs2
        clear hs2 htx
        go_wp2_with (refine wpList_pushG el_str sv_one rfl (.tmp 34) (.tmp 38) rfl (w.heap.size + 1) (.slice A1 k c1) T rfl ho2 _ (txtT (tkR m r k) m) rfl rfl HPl.out hgl ?_; intro v' w' hown' hfr')
        go_roundw
        case rel =>
          refine ⟨k + 1, by omega, by go_num, by rw [HK1.out, ← HTT.out]; rw [← HTT.out] at hown'; exact hown', ?_, hfr2.fresh hfr' (fun q hq => by have h1 := (ho2.lt q hq).1; omega)⟩
          rw [HK2.out, HK3.out]
          exact HS2.out.fr hfr' (fun e => by have h1 := (ho2.lt _ e).1; omega) (fun q e => by have h1 := (ho2.lt q e).1; unfold GeT; omega)
        case measure => simp [intOf]; omega
      · obtain rfl : k = q := by omega
        rename World => W1
        rw [if_neg (by rw [hbad]; simp)] at HRG
        have hdk : decide (k < k) = false := by simp
        have HO := Lib.hid hown
        have HFr := Lib.hid hfr
        have HKl := Lib.hid (tks_len m r k)
        have HKn := Lib.hid HTL.out
        clear hs hbad hown hfr hlt
        have hblt : ∀ y, (Value.slice A2 (tkR m r k).length c2).ownBlock = some y → y < W1.heap.size := fun y hy => by
          have h1 := HBl2.out y hy
          have h2 := HFr.out.size
          unfold GeT at h1
          omega
        have htg := rtget_any _ (tkR m r k) n W1 HB2.out hblt (by omega) h1 h2
        clear hblt
        generalize tks m r k = u at *
        generalize tkR m r k = t at *
        cases hg : getZ t n with
        | none =>
          rw [hg] at HRG
          rw [hg] at htg
          clear hg
          go_wp2_with fail
          refine htg.mono ?_
          rintro e w5 ⟨hgt, hf5⟩
          rcases hgt with ⟨_, rfl⟩ | ⟨_, _, h, _⟩
          · go_wp2
            go_ret2
            exact ⟨gtx_no HRG.out, HFr.out.trans hf5⟩
          · cases h
        | some at_ =>
          rw [hg] at HRG
          rw [hg] at htg
          have hal := (getZ_is hg).2.1
          clear hg
          have hal2 : at_.length ≤ 400 := by omega
          clear hal
          go_wp2_with fail
          refine htg.mono ?_
          rintro e w5 ⟨hgt, hf5⟩
          rcases hgt with ⟨h, _⟩ | ⟨at2, v5, he, rfl, hown5⟩
          · cases h
          · obtain rfl : at_ = at2 := by simpa using he
            clear he htg
            obtain ⟨A5, c5, rfl⟩ := hown5.shape
            have HO5 := Lib.hid hown5
            have HF5 := Lib.hid (HFr.out.trans hf5)
            have HU5 := Lib.hid (HO.out.non hf5)
            have hsz5 := HF5.out.size
            clear hown5 hf5
            go_wp2
            have o0 : Ow sv 9 (w5.alloc (.cells #[] 9)) w5.heap.size (.slice (some ⟨w5.heap.size, 0, none⟩) 0 0) [] := ow_lit0 w5 _ _ rfl (Nat.le_refl _)
            have f5 : Fr Non w5 (w5.alloc (.cells #[] 9)) := (Fr.refl _ _).alloc _
            go_loopw [14, 15] (fun o i wx => ∃ j : Nat, j ≤ at_.length ∧ i = .int .i64 j ∧ Hid (∀ a ∈ at_.take j, 0 ≤ a ∧ a < (u.length : Int)) ∧ Ow sv 9 wx w5.heap.size o (pkL u (at_.take j)) ∧ Fr Non w5 wx) (fun _ i _ => at_.length - (intOf i).toNat)
            case atStart => exact ⟨0, Nat.zero_le _, rfl, Lib.hid (fun a h => by simp at h), o0, f5⟩
            case round =>
              clear o0 f5
              obtain ⟨j, hj, rfl, HIn, hown, hfr⟩ := hrel
              have hul : u.length = k := HKn.out
              by_cases hlt : j < at_.length
              · obtain ⟨d, rfl, _, _, hcd⟩ := (HO5.out.vs.non hfr).addr (by omega : 0 < at_.length)
                have g2 : wr.cell? (d.add j) = some (iv at_[j]) := hcd j hlt
                unfold iv at g2
                have HMm := Lib.hid (List.getElem_mem hlt)
                clear hcd
                by_cases hneg : at_[j] < 0
                · have hd : decide (at_[j] < 0) = true := by simpa using hneg
                  have HNo := Lib.hid (pickD_none (u := u) HMm.out (.inl hneg))
                  simp only [HNo.out] at HRG
                  clear hneg hul
                  generalize at_[j] = z at *
                  go_wp2
                  go_ret2
                  exact ⟨gtx_no HRG.out, HF5.out.trans hfr⟩
                · by_cases hbig : (u.length : Int) ≤ at_[j]
                  · have HNo := Lib.hid (pickD_none (u := u) HMm.out (.inr hbig))
                    simp only [HNo.out] at HRG
                    rw [hul] at hbig
                    have hd : decide (at_[j] < 0) = false := by simpa using hneg
                    have hd2 : decide ((k : Int) ≤ at_[j]) = true := by simpa using hbig
                    clear hbig hneg hul
                    generalize at_[j] = z at *
                    go_wp2
                    go_ret2
                    exact ⟨gtx_no HRG.out, HF5.out.trans hfr⟩
                  · have HIn2 : Hid (∀ a ∈ at_.take (j + 1), 0 ≤ a ∧ a < (u.length : Int)) := Lib.hid (by
                      intro a ha
                      rw [List.take_succ_eq_append_getElem hlt, List.mem_append] at ha
                      rcases ha with ha | ha
                      · exact HIn.out a ha
                      · obtain rfl : a = at_[j] := by simpa using ha
                        omega)
                    obtain ⟨p, hp⟩ := Int.eq_ofNat_of_zero_le (show 0 ≤ at_[j] by omega)
                    have HTk := Lib.hid (pkL_take (u := u) j hlt)
                    rw [hp] at g2 hbig hneg HTk
                    clear hp HMm
                    have hpu : p < u.length := by omega
                    have hpk : p < k := by omega
                    obtain ⟨d2, rfl, _, _, hcd2⟩ := (HU5.out.vs.non hfr).addr (by omega : 0 < k)
                    have g3 : wr.cell? (d2.add p) = some (sv u[p]) := hcd2 p hpu
                    have HU : Hid (u.getD p [] = u[p]) := Lib.hid (List.getElem_eq_getD (h := hpu) []).symm
                    unfold sv at g3
                    have hol : (pkL u (at_.take j)).length < 1099511627776 := by rw [pkL_length, List.length_take]; omega
                    clear hcd2 hbig hneg hul
                    generalize u[p] = x at *
                    generalize hT : pkL u (at_.take j) = T at *
                    have HTT := Lib.hid hT
                    clear hT
                    go_wp2_with (refine wpList_pushG el_str sv_one rfl (.tmp 76) (.tmp 84) rfl w5.heap.size u14 T rfl hown _ x rfl rfl hol hfr.size ?_; intro v' w' hown' hfr')
                    go_roundw
                    case rel =>
                      have hfin : Ow sv 9 w' w5.heap.size v' (pkL u (at_.take (j + 1))) := by
                        rw [HTk.out, Int.toNat_natCast, HU.out]; exact hown'
                      exact ⟨_, _, _, _, ⟨j + 1, by omega, by go_num, HIn2, hfin, hfr.fresh hfr' fun y hy => (hown.lt y hy).1⟩, rfl, rfl, rfl, rfl⟩
                    case measure => simp [intOf]; omega
              · obtain rfl : j = at_.length := by omega
                have hps := pkL_some (u := u) (l := at_) (by have := HIn.out; rwa [List.take_length] at this)
                have hxl := pickD_len hps
                have HXm := Lib.hid (pickD_mem hps)
                have hT : at_.take at_.length = at_ := List.take_length
                rw [hT] at hown
                simp only [hps] at HRG
                clear hps hT
                generalize pkL u at_ = lx at *
                have hx4 : lx.length ≤ 400 := by omega
                have HXl : Hid (∀ x ∈ lx, x.length ≤ b.length) := Lib.hid (fun x hx => Nat.le_trans (HKl.out x (HXm.out x hx)) hrl)
                obtain ⟨A6, c6, rfl⟩ := hown.shape
                have HO6 := Lib.hid hown
                have HF6 := Lib.hid (HF5.out.trans hfr)
                have HP := Lib.hid (fun W hW => rxput_any _ lx W ((HO6.out.vs).non hW) (by omega) (fun x hx => by have := HXl.out x hx; omega) (plainB_uniq (by omega) HXl.out (by omega)))
                have hVb := HV.out.non HF6.out
                have cB := run_conv_Bs hVb.drew 22 9 5 Tryz.underlying22 Tryz.underlying5 Tryz.underlying9
                have HVb := Lib.hid hVb
                have HCv := Lib.hid (fun (W : World) (u : Value) (l : List UInt8) (h : Bs W u l) => run_conv_Bs h 22 9 5 Tryz.underlying22 Tryz.underlying5 Tryz.underlying9)
                have HPw := Lib.hid (HP.out wr.drew ((Fr.refl Non wr).drew))
                have hB6 := hfr.size
                clear hVb hxl hul hown hfr
                by_cases he : dictB lx = b
                · rw [if_pos he] at HRG
                  have hbb : (dictB lx == b) = true := by simp [he]
                  clear he
                  go_wp2_with fail
                  go_region_with (first | (go_at_call 57; refine HPw.out.mono ?_; rintro e w7 ⟨u7, rfl, hown7, hf7⟩; have c7 := HCv.out w7 u7 _ hown7.bs; have c8 := HCv.out w7 _ b (HVb.out.drew.non hf7)))
                  all_goals
                    go_wp2
                    go_ret2
                    exact ⟨gtx_yes HRG.out ((HO6.out.drew.non hf7).mono (by omega)), (HF6.out.drew).trans hf7⟩
                · rw [if_neg he] at HRG
                  have hbb : (dictB lx == b) = false := by simp [he]
                  clear he
                  go_wp2_with fail
                  go_region_with (first | (go_at_call 57; refine HPw.out.mono ?_; rintro e w7 ⟨u7, rfl, hown7, hf7⟩; have c7 := HCv.out w7 u7 _ hown7.bs; have c8 := HCv.out w7 _ b (HVb.out.drew.non hf7)))
                  all_goals
                    go_wp2
                    go_ret2
                    exact ⟨gtx_no HRG.out, (HF6.out.drew).trans hf7⟩
end Go.Proofs.YtemfmnjhmmlmbaaGreat


namespace Go.Proofs.YtemfmnjhmmlmbaaGreat
set_option linter.unusedVariables false
set_option linter.unusedSimpArgs false
set_option maxRecDepth 100000
open Go.RowKit

set_option maxHeartbeats 1000000 in
theorem call_any (v1 v2 : Value) (l1 l2 : List Cl) (w : World) (h1 : Cs w v1 l1) (h2 : Cs w v2 l2) (hl1 : l1.length ≤ 9223372036854775807) (hl2 : l2.length ≤ 9223372036854775807) :
    Calls Tryz.prog 7 #[v1, v2] w fun e w' => e = .returned (.bool (decide (l1 = l2))) ∧ Fr Non w w' := by
  obtain ⟨A1, c1, rfl, hc1, hn1, hcell1⟩ := h1
  obtain ⟨A2, c2, rfl, hc2, hn2, hcell2⟩ := h2
  have HN1 := Lib.hid hn1
  have HN2 := Lib.hid hn2
  have HC1 := Lib.hid hcell1
  have HC2 := Lib.hid hcell2
  clear hn1 hn2 hcell1 hcell2
  by_cases hlen : l1.length = l2.length
  · have HL := Lib.hid hlen
    have hb : ((l1.length : Int) != l2.length) = false := by rw [hlen]; simp
    have hle : l1.length ≤ l2.length := by omega
    have hge : l2.length ≤ l1.length := by omega
    clear hlen
    go_enter Tryz.func7, Tryz.ntmps7
    go_wp2
    go_loopw [5] (fun i wr => ∃ k : Nat, k ≤ l1.length ∧ i = .int .i64 k ∧ Hid (l1.take k = l2.take k) ∧ ∃ n, wr = w.drewN n) (fun i _ => l1.length - (intOf i).toNat)
    case atStart => exact ⟨0, Nat.zero_le _, rfl, Lib.hid rfl, 0, rfl⟩
    case round =>
      obtain ⟨k, hk, rfl, HT, n, rfl⟩ := hrel
      by_cases hlt : k < l1.length
      · cases A1 with
        | none => have := HN1.out rfl; omega
        | some a1 =>
          cases A2 with
          | none => have := HN2.out rfl; omega
          | some a2 =>
            obtain ⟨g0, g1, g2⟩ := (HC1.out a1 rfl k hlt).lit
            obtain ⟨d0, d1, d2⟩ := (HC2.out a2 rfl k (by omega)).lit
            by_cases he : l1[k] = l2[k]'(by omega)
            · have HE := Lib.hid (take_eq_succ hlt (by omega) HT.out he)
              rw [← he] at d0 d1 d2
              clear he
              generalize l1[k] = x at *
              have hx := fun W => run_neq_cl W x x
              rw [ceq_self] at hx
              obtain ⟨xn, xi, xt⟩ := x
              go_wp2
              go_quiet (fail)
              go_wp2
              go_roundw
              case rel => exact ⟨k + 1, by omega, by go_num, HE, _, rfl⟩
              case measure => simp [intOf]; omega
            · have HE := Lib.hid (take_ne hlt (by omega) he)
              have hc : ceq l1[k] (l2[k]'(by omega)) = false := by unfold ceq; exact decide_eq_false he
              clear he
              generalize l1[k] = x at *
              generalize l2[k]'(by omega) = y at *
              have hx := fun W => run_neq_cl W x y
              rw [hc] at hx
              clear hc
              obtain ⟨xn, xi, xt⟩ := x
              obtain ⟨yn, yi, yt⟩ := y
              go_wp2
              go_quiet (fail)
              go_wp2
              go_ret
              exact ⟨ret_bool (decide_eq_false HE.out).symm, ((Fr.refl _ _).drewN _).drewN _⟩
      · have HE : Hid (l1 = l2) := Lib.hid (by
          have := HT.out
          rwa [List.take_of_length_le (by omega), List.take_of_length_le (by omega)] at this)
        go_wp2
        go_ret
        exact ⟨ret_bool (decide_eq_true HE.out).symm, (Fr.refl _ _).drewN _⟩
  · have hb : ((l1.length : Int) != l2.length) = true := by rw [bne_iff_ne]; omega
    have HE : Hid (l1 ≠ l2) := Lib.hid (fun e => hlen (by rw [e]))
    clear hlen
    go_enter Tryz.func7, Tryz.ntmps7
    go_wp2
    go_ret
    exact ⟨ret_bool (decide_eq_false HE.out).symm, Fr.refl _ _⟩

theorem ow_nilG {α : Type} (f : α → Value) (E : TypeId) (w : World) (B : Nat) : Ow f E w B (.slice none 0 0) [] := ⟨by simp, .inl ⟨rfl, rfl⟩⟩
theorem mapN_take (l : List Int) (k : Nat) (h : k < l.length) : (l.take (k + 1)).map numC = (l.take k).map numC ++ [numC l[k]] := by
  rw [List.take_succ_eq_append_getElem h, List.map_append]; rfl
theorem mapX_take (l : List Tx) (k : Nat) (h : k < l.length) : (l.take (k + 1)).map txtC = (l.take k).map txtC ++ [txtC l[k]] := by
  rw [List.take_succ_eq_append_getElem h, List.map_append]; rfl
theorem i64_ne_s : 2 ≠ 68 := by decide
theorem cell_ne_i64 : 33 ≠ 2 := by decide
theorem cell_ne_str : 33 ≠ 9 := by decide
/-- 'a list, and whether it is one' -/
def TwoL {α : Type} (f : α → Value) (E : TypeId) (w : World) (B : Nat) (o : Option (List α)) (e : Ending) : Prop :=
  ∃ u l ok, e = .returned (.tuple #[u, .bool ok]) ∧ Ow f E w B u l ∧ l.length ≤ 400 ∧ o = (if ok = true then some l else none)
theorem two_n {w : World} {B : Nat} {o : Option (List Int)} {e : Ending} (h : Gtn w B o e) (hl : ∀ l, o = some l → l.length ≤ 400) : TwoL iv 2 w B o e := by
  rcases h with ⟨h1, rfl⟩ | ⟨l, u, h1, rfl, hown⟩
  · exact ⟨_, [], false, rfl, ow_nilG _ _ _ _, by simp, h1⟩
  · exact ⟨u, l, true, rfl, hown, hl l h1, h1⟩
theorem two_x {w : World} {B : Nat} {o : Option (List Tx)} {e : Ending} (h : Gtx w B o e) (hl : ∀ l, o = some l → l.length ≤ 400) : TwoL sv 9 w B o e := by
  rcases h with ⟨h1, rfl⟩ | ⟨l, u, h1, rfl, hown⟩
  · exact ⟨_, [], false, rfl, ow_nilG _ _ _ _, by simp, h1⟩
  · exact ⟨u, l, true, rfl, hown, hl l h1, h1⟩

set_option maxHeartbeats 4000000 in
theorem rread1_any (v : Value) (b : List UInt8) (n : Nat) (w : World) (hv : Bs w v b) (hvl : ∀ q, v.ownBlock = some q → q < w.heap.size) (hl : b.length ≤ 100000) (hn : n ≤ 400) :
    Calls Tryz.prog 17 #[.int .i64 1, v, .int .i64 n] w fun e w' => Gtc w' w.heap.size (wayG 1 b n) e ∧ Fr Non w w' := by
  have HV := Lib.hid hv
  have HVl := Lib.hid hvl
  clear hv hvl
  have HW := Lib.hid (show wayG 1 b n = (numG 1 b n).map (List.map numC) from rfl)
  have HLn := Lib.hid (fun l (h : numG 1 b n = some l) => show l.length ≤ 400 by have := (numG_is h).2.1; omega)
  obtain ⟨Av, cv, rfl⟩ := HV.out.shape
  go_enter Tryz.func17, Tryz.ntmps17
  have hO0 : Oc (w.alloc (.cells #[] 33)) w.heap.size (.slice (some ⟨w.heap.size, 0, none⟩) 0 0) [] := oc_lit0 w w.heap.size w.heap.size rfl (Nat.le_refl _)
  have HO0 := Lib.hid hO0
  clear hO0
  have hO1 := HO0.out.alloc (.cells #[] 2)
  have HO1 := Lib.hid hO1
  have HF0 := Lib.hid (((Fr.refl Non w).alloc (.cells #[] 33)).alloc (.cells #[] 2))
  clear hO1 HO0
  have S0 : ∀ W v (g : Nat), Bs W v b → (∀ q, v.ownBlock = some q → q < g) → g ≤ W.heap.size → SAt (W.alloc (.cells #[v, .bool false] 68)) W.heap.size (GeN g) b false := fun W v g hv hvl hg => ⟨v, Blk.new _ _ _, hv.non ((Fr.refl _ _).alloc _), fun q hq e => by have := hvl q hq; unfold GeN at e; omega, hg, fun h => by cases h⟩
  have HS := Lib.hid S0
  clear S0
  go_wp2
  have s1 := HS.out _ _ w.heap.size (HV.out.non HF0.out) (fun q hq => HVl.out q hq) HF0.out.size
  have hI1 : Ow iv 2 ((w.alloc (.cells #[] 33)).alloc (.cells #[] 2)) w.heap.size (.slice (some ⟨w.heap.size + 1, 0, none⟩) 0 0) [] := ow_lit0 _ _ _ (by simp) (by omega)
  have hI2 := hI1.non ((Fr.refl _ _).alloc (.cells #[.slice Av b.length cv, .bool false] 68))
  have hO2 := HO1.out.alloc (.cells #[.slice Av b.length cv, .bool false] 68)
  have f2 := HF0.out.alloc (.cells #[.slice Av b.length cv, .bool false] 68)
  rw [show ((w.alloc (.cells #[] 33)).alloc (.cells #[] 2)).heap.size = w.heap.size + 2 by simp] at s1
  clear hI1 HO1 HF0 HS HV HVl
  generalize hgg : w.heap.size = g at *
  have HG := Lib.hid hgg
  clear hgg
  go_loopw [12, 15] (fun x i wr => ∃ (k : Nat) (L : List Int) (q : List UInt8) (bad : Bool), k ≤ n ∧ i = .int .i64 k ∧ Hid (ToO n b k L q bad) ∧ SAt wr (g + 2) (GeN g) q bad ∧ q.length ≤ b.length ∧ Ow iv 2 wr g x L ∧ Oc wr g (.slice (some ⟨g, 0, none⟩) 0 0) [] ∧ Fr Non w wr) (fun _ i _ => n - (intOf i).toNat)
  case atStart => exact ⟨0, [], b, false, Nat.zero_le _, rfl, Lib.hid (toO_zero n b), s1, Nat.le_refl _, hI2, hO2, f2⟩
  case round =>
    clear s1 hI2 hO2 f2
    obtain ⟨k, L, q, bad, hk, rfl, HT, hs, hq, hI, hO, hfr⟩ := hrel
    have hL := HT.out.1
    by_cases hlt : k < n
    · have HT2 := Lib.hid (fun h => toO_step HT.out h hlt)
      have hbq : bad = true → q = [] := by obtain ⟨_, _, _, _, _, h⟩ := hs; exact h
      have HT3 := Lib.hid (HT2.out hbq)
      have hql := rest_le q
      obtain ⟨_, _, _, _, _, _, hblk, _⟩ := hs.cells
      have HBl := Lib.hid hblk
      clear HT HT2 hbq hblk
      go_wp2_with fail
      refine (rsint_any (g + 2) (GeN g) q bad wr hs (by omega)).mono ?_
      rintro e w4 ⟨rfl, s4, f4⟩
      have hI4 := hI.fr f4 (fun p hp e => by have h1 : p = g + 2 := e; exact ow_other hI HBl.out i64_ne_s p hp h1)
      have hO4 := hO.fr f4 (fun p hp e => by have h1 : p = g + 2 := e; have h2 : g = p := (by simpa [Value.ownBlock] using hp); omega)
      have hfr4 := hfr.fresh f4 (fun p e => by have h1 : p = g + 2 := e; have := HG.out; omega)
      have HO4 := Lib.hid hO4
      have hgz := (hO4.lt g rfl).2
      obtain ⟨_, _, _, _, _, _, hblk, _⟩ := s4.cells
      have HBl := Lib.hid hblk
      have HS4 := Lib.hid s4
      clear hI hO hfr hs f4 hO4 hblk s4
      generalize unzig (fstN q) = z at *
      go_wp2_with (at_builtin; refine wpList_pushG el_i64 iv_oneC rfl (.tmp 62) (.tmp 65) rfl g _ L rfl hI4 _ z rfl rfl (by omega) (by omega) ?_; intro v5 w5 hI5 f5)
      have hO5 := HO4.out.fr f5 (fun p hp e => oc_other HO4.out hI4 cell_ne_i64 p hp e)
      have s5 := HS4.out.fr f5 (fun e => ow_other hI4 HBl.out i64_ne_s _ e rfl) (fun p hp => (hI4.lt p hp).1)
      have hfr5 := hfr4.fresh f5 (fun p hp => by have := (hI4.lt p hp).1; have := HG.out; omega)
      go_roundw
      case rel => exact ⟨k + 1, _, _, _, by omega, by go_num, HT3, s5, by omega, hI5, hO5, hfr5⟩
      case measure => simp [intOf]; omega
    · obtain rfl : k = n := by omega
      have HO := Lib.hid (toO_end HT.out)
      have hlen : L.length ≤ 400 := by omega
      obtain ⟨A, c, rfl⟩ := hI.shape
      have HI := Lib.hid hI
      clear HT hI hL
      go_wp2_with fail
      refine (rend_any (g + 2) (GeN g) q bad wr hs).mono ?_
      rintro e w5 ⟨rfl, rfl⟩
      have HU := HI
      have HOo := Lib.hid hO
      have HFr := Lib.hid hfr
      clear hs hO hfr HI
      have HW2 := HW.out
      rw [show numG 1 b k = gOnes k b from rfl] at HW2
      have HW := Lib.hid HW2
      clear HW2
      generalize (!bad && q.isEmpty) = ok at *
      go_wp2
      go_loopw [8, 16] (fun o i wr => ∃ (k : Nat), k ≤ L.length ∧ i = .int .i64 k ∧ Oc wr g o ((L.take k).map numC) ∧ Ow iv 2 wr g (.slice A L.length c) L ∧ Fr Non w wr) (fun _ i _ => L.length - (intOf i).toNat)
      case atStart => exact ⟨0, Nat.zero_le _, rfl, HOo.out, HU.out, HFr.out⟩
      case round =>
        clear HOo HU HFr
        obtain ⟨j, hj, rfl, hO, hU, hfr⟩ := hrel
        by_cases hlt : j < L.length
        · obtain ⟨ad, hA, _, _, hcell⟩ := hU.vs.addr (by omega)
          subst hA
          have hc0 := hcell j hlt
          unfold iv at hc0
          have HT := Lib.hid (mapN_take L j hlt)
          have hlk : ((L.take j).map numC).length ≤ 400 := by rw [List.length_map, List.length_take]; omega
          have hB := hfr.size
          clear hcell
          generalize L[j] = x at *
          go_wp2_with (at_builtin; refine wpList_pushC rfl (.tmp 99) (.tmp 105) rfl g _ _ rfl hO (numC x) _ _ _ rfl rfl rfl _ rfl (by simp) (by omega) (by have := HG.out; omega) ?_; intro v6 w6 hown6 hf6)
          have hU6 := hU.fr hf6 (fun q hq e => oc_other hO hU cell_ne_i64 q e hq)
          have hfr6 := hfr.fresh hf6 (fun q hq => by have := (hO.lt q hq).1; have := HG.out; omega)
          go_roundw
          case rel => exact ⟨j + 1, by omega, by go_num, by rw [HT.out]; exact hown6, hU6, hfr6⟩
          case measure => simp [intOf]; omega
        · obtain rfl : j = L.length := by omega
          rw [List.take_length] at hO
          go_wp2
          go_ret2
          refine ⟨?_, hfr⟩
          rw [HW.out, HO.out]
          cases ok with
          | true => exact .inr ⟨L.map numC, _, rfl, rfl, hO.mono (by have := HG.out; omega)⟩
          | false => exact .inl ⟨rfl, _, _, rfl, hO.mono (by have := HG.out; omega)⟩

set_option maxHeartbeats 4000000 in
theorem rread2_any (v : Value) (b : List UInt8) (n : Nat) (w : World) (hv : Bs w v b) (hvl : ∀ q, v.ownBlock = some q → q < w.heap.size) (hl : b.length ≤ 100000) (hn : n ≤ 400) :
    Calls Tryz.prog 17 #[.int .i64 2, v, .int .i64 n] w fun e w' => Gtc w' w.heap.size (wayG 2 b n) e ∧ Fr Non w w' := by
  have HV := Lib.hid hv
  have HVl := Lib.hid hvl
  clear hv hvl
  have HW := Lib.hid (show wayG 2 b n = (numG 2 b n).map (List.map numC) from rfl)
  have HLn := Lib.hid (fun l (h : numG 2 b n = some l) => show l.length ≤ 400 by have := (numG_is h).2.1; omega)
  obtain ⟨Av, cv, rfl⟩ := HV.out.shape
  go_enter Tryz.func17, Tryz.ntmps17
  have hO0 : Oc (w.alloc (.cells #[] 33)) w.heap.size (.slice (some ⟨w.heap.size, 0, none⟩) 0 0) [] := oc_lit0 w w.heap.size w.heap.size rfl (Nat.le_refl _)
  have HO0 := Lib.hid hO0
  clear hO0
  have hO1 := HO0.out.alloc (.cells #[] 2)
  have HO1 := Lib.hid hO1
  have HF0 := Lib.hid (((Fr.refl Non w).alloc (.cells #[] 33)).alloc (.cells #[] 2))
  clear hO1 HO0
  go_wp2_with fail
  refine (rrnget_any _ b n _ (HV.out.non HF0.out) (fun q hq => Nat.lt_of_lt_of_le (HVl.out q hq) HF0.out.size) (by omega) (by omega) (by omega)).mono ?_
  rintro e w1 ⟨hG, hf1⟩
  obtain ⟨u, l, ok, rfl, hu, hlen, ho⟩ := two_n hG (HLn.out)
  have HFr := Lib.hid (HF0.out.trans hf1)
  have HOo := Lib.hid (HO1.out.non hf1)
  have hmn := HF0.out.size
  clear HO1 hf1
  have HU := Lib.hid (hu.mono hmn)
  have HO : Hid (numG 2 b n = if ok = true then some l else none) := Lib.hid ho
  obtain ⟨A, c, rfl⟩ := hu.shape
  clear hu ho hG HLn hmn HV HVl
  generalize hgg : w.heap.size = g at *
  have HG := Lib.hid hgg
  clear hgg
  go_wp2
  go_loopw [8, 16] (fun o i wr => ∃ (k : Nat), k ≤ l.length ∧ i = .int .i64 k ∧ Oc wr g o ((l.take k).map numC) ∧ Ow iv 2 wr g (.slice A l.length c) l ∧ Fr Non w wr) (fun _ i _ => l.length - (intOf i).toNat)
  case atStart => exact ⟨0, Nat.zero_le _, rfl, HOo.out, HU.out, HFr.out⟩
  case round =>
    clear HOo HU HFr
    obtain ⟨j, hj, rfl, hO, hU, hfr⟩ := hrel
    by_cases hlt : j < l.length
    · obtain ⟨ad, hA, _, _, hcell⟩ := hU.vs.addr (by omega)
      subst hA
      have hc0 := hcell j hlt
      unfold iv at hc0
      have HT := Lib.hid (mapN_take l j hlt)
      have hlk : ((l.take j).map numC).length ≤ 400 := by rw [List.length_map, List.length_take]; omega
      have hB := hfr.size
      clear hcell
      generalize l[j] = x at *
      go_wp2_with (at_builtin; refine wpList_pushC rfl (.tmp 99) (.tmp 105) rfl g _ _ rfl hO (numC x) _ _ _ rfl rfl rfl _ rfl (by simp) (by omega) (by have := HG.out; omega) ?_; intro v6 w6 hown6 hf6)
      have hU6 := hU.fr hf6 (fun q hq e => oc_other hO hU cell_ne_i64 q e hq)
      have hfr6 := hfr.fresh hf6 (fun q hq => by have := (hO.lt q hq).1; have := HG.out; omega)
      go_roundw
      case rel => exact ⟨j + 1, by omega, by go_num, by rw [HT.out]; exact hown6, hU6, hfr6⟩
      case measure => simp [intOf]; omega
    · obtain rfl : j = l.length := by omega
      rw [List.take_length] at hO
      go_wp2
      go_ret2
      refine ⟨?_, hfr⟩
      rw [HW.out, HO.out]
      cases ok with
      | true => exact .inr ⟨l.map numC, _, rfl, rfl, hO.mono (by have := HG.out; omega)⟩
      | false => exact .inl ⟨rfl, _, _, rfl, hO.mono (by have := HG.out; omega)⟩

set_option maxHeartbeats 4000000 in
theorem rread3_any (v : Value) (b : List UInt8) (n : Nat) (w : World) (hv : Bs w v b) (hvl : ∀ q, v.ownBlock = some q → q < w.heap.size) (hl : b.length ≤ 100000) (hn : n ≤ 400) :
    Calls Tryz.prog 17 #[.int .i64 3, v, .int .i64 n] w fun e w' => Gtc w' w.heap.size (wayG 3 b n) e ∧ Fr Non w w' := by
  have HV := Lib.hid hv
  have HVl := Lib.hid hvl
  clear hv hvl
  have HW := Lib.hid (show wayG 3 b n = (numG 3 b n).map (List.map numC) from rfl)
  have HLn := Lib.hid (fun l (h : numG 3 b n = some l) => show l.length ≤ 400 by have := (numG_is h).2.1; omega)
  obtain ⟨Av, cv, rfl⟩ := HV.out.shape
  go_enter Tryz.func17, Tryz.ntmps17
  have hO0 : Oc (w.alloc (.cells #[] 33)) w.heap.size (.slice (some ⟨w.heap.size, 0, none⟩) 0 0) [] := oc_lit0 w w.heap.size w.heap.size rfl (Nat.le_refl _)
  have HO0 := Lib.hid hO0
  clear hO0
  have hO1 := HO0.out.alloc (.cells #[] 2)
  have HO1 := Lib.hid hO1
  have HF0 := Lib.hid (((Fr.refl Non w).alloc (.cells #[] 33)).alloc (.cells #[] 2))
  clear hO1 HO0
  go_wp2_with fail
  refine (rdget_any _ b n _ (HV.out.non HF0.out) (fun q hq => Nat.lt_of_lt_of_le (HVl.out q hq) HF0.out.size) (by omega) (by omega) (by omega)).mono ?_
  rintro e w1 ⟨hG, hf1⟩
  obtain ⟨u, l, ok, rfl, hu, hlen, ho⟩ := two_n hG (HLn.out)
  have HFr := Lib.hid (HF0.out.trans hf1)
  have HOo := Lib.hid (HO1.out.non hf1)
  have hmn := HF0.out.size
  clear HO1 hf1
  have HU := Lib.hid (hu.mono hmn)
  have HO : Hid (numG 3 b n = if ok = true then some l else none) := Lib.hid ho
  obtain ⟨A, c, rfl⟩ := hu.shape
  clear hu ho hG HLn hmn HV HVl
  generalize hgg : w.heap.size = g at *
  have HG := Lib.hid hgg
  clear hgg
  go_wp2
  go_loopw [8, 16] (fun o i wr => ∃ (k : Nat), k ≤ l.length ∧ i = .int .i64 k ∧ Oc wr g o ((l.take k).map numC) ∧ Ow iv 2 wr g (.slice A l.length c) l ∧ Fr Non w wr) (fun _ i _ => l.length - (intOf i).toNat)
  case atStart => exact ⟨0, Nat.zero_le _, rfl, HOo.out, HU.out, HFr.out⟩
  case round =>
    clear HOo HU HFr
    obtain ⟨j, hj, rfl, hO, hU, hfr⟩ := hrel
    by_cases hlt : j < l.length
    · obtain ⟨ad, hA, _, _, hcell⟩ := hU.vs.addr (by omega)
      subst hA
      have hc0 := hcell j hlt
      unfold iv at hc0
      have HT := Lib.hid (mapN_take l j hlt)
      have hlk : ((l.take j).map numC).length ≤ 400 := by rw [List.length_map, List.length_take]; omega
      have hB := hfr.size
      clear hcell
      generalize l[j] = x at *
      go_wp2_with (at_builtin; refine wpList_pushC rfl (.tmp 99) (.tmp 105) rfl g _ _ rfl hO (numC x) _ _ _ rfl rfl rfl _ rfl (by simp) (by omega) (by have := HG.out; omega) ?_; intro v6 w6 hown6 hf6)
      have hU6 := hU.fr hf6 (fun q hq e => oc_other hO hU cell_ne_i64 q e hq)
      have hfr6 := hfr.fresh hf6 (fun q hq => by have := (hO.lt q hq).1; have := HG.out; omega)
      go_roundw
      case rel => exact ⟨j + 1, by omega, by go_num, by rw [HT.out]; exact hown6, hU6, hfr6⟩
      case measure => simp [intOf]; omega
    · obtain rfl : j = l.length := by omega
      rw [List.take_length] at hO
      go_wp2
      go_ret2
      refine ⟨?_, hfr⟩
      rw [HW.out, HO.out]
      cases ok with
      | true => exact .inr ⟨l.map numC, _, rfl, rfl, hO.mono (by have := HG.out; omega)⟩
      | false => exact .inl ⟨rfl, _, _, rfl, hO.mono (by have := HG.out; omega)⟩

set_option maxHeartbeats 4000000 in
theorem rread4_any (v : Value) (b : List UInt8) (n : Nat) (w : World) (hv : Bs w v b) (hvl : ∀ q, v.ownBlock = some q → q < w.heap.size) (hl : b.length ≤ 100000) (hn : n ≤ 400) :
    Calls Tryz.prog 17 #[.int .i64 4, v, .int .i64 n] w fun e w' => Gtc w' w.heap.size (wayG 4 b n) e ∧ Fr Non w w' := by
  have HV := Lib.hid hv
  have HVl := Lib.hid hvl
  clear hv hvl
  have HW := Lib.hid (show wayG 4 b n = (numG 4 b n).map (List.map numC) from rfl)
  have HLn := Lib.hid (fun l (h : numG 4 b n = some l) => show l.length ≤ 400 by have := (numG_is h).2.1; omega)
  obtain ⟨Av, cv, rfl⟩ := HV.out.shape
  go_enter Tryz.func17, Tryz.ntmps17
  have hO0 : Oc (w.alloc (.cells #[] 33)) w.heap.size (.slice (some ⟨w.heap.size, 0, none⟩) 0 0) [] := oc_lit0 w w.heap.size w.heap.size rfl (Nat.le_refl _)
  have HO0 := Lib.hid hO0
  clear hO0
  have hO1 := HO0.out.alloc (.cells #[] 2)
  have HO1 := Lib.hid hO1
  have HF0 := Lib.hid (((Fr.refl Non w).alloc (.cells #[] 33)).alloc (.cells #[] 2))
  clear hO1 HO0
  go_wp2_with fail
  refine (rtget_any _ b n _ (HV.out.non HF0.out) (fun q hq => Nat.lt_of_lt_of_le (HVl.out q hq) HF0.out.size) (by omega) (by omega) (by omega)).mono ?_
  rintro e w1 ⟨hG, hf1⟩
  rw [← getM_small (by omega)] at hG
  obtain ⟨u, l, ok, rfl, hu, hlen, ho⟩ := two_n hG (HLn.out)
  have HFr := Lib.hid (HF0.out.trans hf1)
  have HOo := Lib.hid (HO1.out.non hf1)
  have hmn := HF0.out.size
  clear HO1 hf1
  have HU := Lib.hid (hu.mono hmn)
  have HO : Hid (numG 4 b n = if ok = true then some l else none) := Lib.hid ho
  obtain ⟨A, c, rfl⟩ := hu.shape
  clear hu ho hG HLn hmn HV HVl
  generalize hgg : w.heap.size = g at *
  have HG := Lib.hid hgg
  clear hgg
  go_wp2
  go_loopw [8, 16] (fun o i wr => ∃ (k : Nat), k ≤ l.length ∧ i = .int .i64 k ∧ Oc wr g o ((l.take k).map numC) ∧ Ow iv 2 wr g (.slice A l.length c) l ∧ Fr Non w wr) (fun _ i _ => l.length - (intOf i).toNat)
  case atStart => exact ⟨0, Nat.zero_le _, rfl, HOo.out, HU.out, HFr.out⟩
  case round =>
    clear HOo HU HFr
    obtain ⟨j, hj, rfl, hO, hU, hfr⟩ := hrel
    by_cases hlt : j < l.length
    · obtain ⟨ad, hA, _, _, hcell⟩ := hU.vs.addr (by omega)
      subst hA
      have hc0 := hcell j hlt
      unfold iv at hc0
      have HT := Lib.hid (mapN_take l j hlt)
      have hlk : ((l.take j).map numC).length ≤ 400 := by rw [List.length_map, List.length_take]; omega
      have hB := hfr.size
      clear hcell
      generalize l[j] = x at *
      go_wp2_with (at_builtin; refine wpList_pushC rfl (.tmp 99) (.tmp 105) rfl g _ _ rfl hO (numC x) _ _ _ rfl rfl rfl _ rfl (by simp) (by omega) (by have := HG.out; omega) ?_; intro v6 w6 hown6 hf6)
      have hU6 := hU.fr hf6 (fun q hq e => oc_other hO hU cell_ne_i64 q e hq)
      have hfr6 := hfr.fresh hf6 (fun q hq => by have := (hO.lt q hq).1; have := HG.out; omega)
      go_roundw
      case rel => exact ⟨j + 1, by omega, by go_num, by rw [HT.out]; exact hown6, hU6, hfr6⟩
      case measure => simp [intOf]; omega
    · obtain rfl : j = l.length := by omega
      rw [List.take_length] at hO
      go_wp2
      go_ret2
      refine ⟨?_, hfr⟩
      rw [HW.out, HO.out]
      cases ok with
      | true => exact .inr ⟨l.map numC, _, rfl, rfl, hO.mono (by have := HG.out; omega)⟩
      | false => exact .inl ⟨rfl, _, _, rfl, hO.mono (by have := HG.out; omega)⟩

set_option maxHeartbeats 4000000 in
theorem rread5_any (v : Value) (b : List UInt8) (n : Nat) (w : World) (hv : Bs w v b) (hvl : ∀ q, v.ownBlock = some q → q < w.heap.size) (hl : b.length ≤ 100000) (hn : n ≤ 400) :
    Calls Tryz.prog 17 #[.int .i64 5, v, .int .i64 n] w fun e w' => Gtc w' w.heap.size (wayG 5 b n) e ∧ Fr Non w w' := by
  have HV := Lib.hid hv
  have HVl := Lib.hid hvl
  clear hv hvl
  have HW := Lib.hid (show wayG 5 b n = (txtG 5 b n).map (List.map txtC) from rfl)
  have HLn := Lib.hid (fun l (h : txtG 5 b n = some l) => show l.length ≤ 400 by have := (txtG_is h).2; omega)
  obtain ⟨Av, cv, rfl⟩ := HV.out.shape
  go_enter Tryz.func17, Tryz.ntmps17
  have hO0 : Oc (w.alloc (.cells #[] 33)) w.heap.size (.slice (some ⟨w.heap.size, 0, none⟩) 0 0) [] := oc_lit0 w w.heap.size w.heap.size rfl (Nat.le_refl _)
  have HO0 := Lib.hid hO0
  clear hO0
  have HO1 := HO0
  have HF0 := Lib.hid ((Fr.refl Non w).alloc (.cells #[] 33))
  clear HO0
  go_wp2_with fail
  refine (rtexts_any _ b n 40 _ (HV.out.non HF0.out) (fun q hq => Nat.lt_of_lt_of_le (HVl.out q hq) HF0.out.size) (by omega) (by omega) (by omega) (by omega)).mono ?_
  rintro e w1 ⟨hG, hf1⟩
  obtain ⟨u, l, ok, rfl, hu, hlen, ho⟩ := two_x hG (HLn.out)
  have HFr := Lib.hid (HF0.out.trans hf1)
  have HOo := Lib.hid (HO1.out.non hf1)
  have hmn := HF0.out.size
  clear HO1 hf1
  have HU := Lib.hid (hu.mono hmn)
  have HO : Hid (txtG 5 b n = if ok = true then some l else none) := Lib.hid ho
  obtain ⟨A, c, rfl⟩ := hu.shape
  clear hu ho hG HLn hmn HV HVl
  generalize hgg : w.heap.size = g at *
  have HG := Lib.hid hgg
  clear hgg
  go_wp2
  go_loopw [8, 11] (fun o i wr => ∃ (k : Nat), k ≤ l.length ∧ i = .int .i64 k ∧ Oc wr g o ((l.take k).map txtC) ∧ Ow sv 9 wr g (.slice A l.length c) l ∧ Fr Non w wr) (fun _ i _ => l.length - (intOf i).toNat)
  case atStart => exact ⟨0, Nat.zero_le _, rfl, HOo.out, HU.out, HFr.out⟩
  case round =>
    clear HOo HU HFr
    obtain ⟨j, hj, rfl, hO, hU, hfr⟩ := hrel
    by_cases hlt : j < l.length
    · obtain ⟨ad, hA, _, _, hcell⟩ := hU.vs.addr (by omega)
      subst hA
      have hc0 := hcell j hlt
      unfold sv at hc0
      have HT := Lib.hid (mapX_take l j hlt)
      have hlk : ((l.take j).map txtC).length ≤ 400 := by rw [List.length_map, List.length_take]; omega
      have hB := hfr.size
      clear hcell
      generalize l[j] = x at *
      go_wp2_with (at_builtin; refine wpList_pushC rfl (.tmp 40) (.tmp 46) rfl g _ _ rfl hO (txtC x) _ _ _ rfl rfl rfl _ rfl (by simp) (by omega) (by have := HG.out; omega) ?_; intro v6 w6 hown6 hf6)
      have hU6 := hU.fr hf6 (fun q hq e => oc_other hO hU cell_ne_str q e hq)
      have hfr6 := hfr.fresh hf6 (fun q hq => by have := (hO.lt q hq).1; have := HG.out; omega)
      go_roundw
      case rel => exact ⟨j + 1, by omega, by go_num, by rw [HT.out]; exact hown6, hU6, hfr6⟩
      case measure => simp [intOf]; omega
    · obtain rfl : j = l.length := by omega
      rw [List.take_length] at hO
      go_wp2
      go_ret2
      refine ⟨?_, hfr⟩
      rw [HW.out, HO.out]
      cases ok with
      | true => exact .inr ⟨l.map txtC, _, rfl, rfl, hO.mono (by have := HG.out; omega)⟩
      | false => exact .inl ⟨rfl, _, _, rfl, hO.mono (by have := HG.out; omega)⟩

set_option maxHeartbeats 4000000 in
theorem rread6_any (v : Value) (b : List UInt8) (n : Nat) (w : World) (hv : Bs w v b) (hvl : ∀ q, v.ownBlock = some q → q < w.heap.size) (hl : b.length ≤ 100000) (hn : n ≤ 400) :
    Calls Tryz.prog 17 #[.int .i64 6, v, .int .i64 n] w fun e w' => Gtc w' w.heap.size (wayG 6 b n) e ∧ Fr Non w w' := by
  have HV := Lib.hid hv
  have HVl := Lib.hid hvl
  clear hv hvl
  have HW := Lib.hid (show wayG 6 b n = (txtG 6 b n).map (List.map txtC) from rfl)
  have HLn := Lib.hid (fun l (h : txtG 6 b n = some l) => show l.length ≤ 400 by have := (txtG_is h).2; omega)
  obtain ⟨Av, cv, rfl⟩ := HV.out.shape
  go_enter Tryz.func17, Tryz.ntmps17
  have hO0 : Oc (w.alloc (.cells #[] 33)) w.heap.size (.slice (some ⟨w.heap.size, 0, none⟩) 0 0) [] := oc_lit0 w w.heap.size w.heap.size rfl (Nat.le_refl _)
  have HO0 := Lib.hid hO0
  clear hO0
  have HO1 := HO0
  have HF0 := Lib.hid ((Fr.refl Non w).alloc (.cells #[] 33))
  clear HO0
  go_wp2_with fail
  refine (rtexts_any _ b n 40 _ (HV.out.non HF0.out) (fun q hq => Nat.lt_of_lt_of_le (HVl.out q hq) HF0.out.size) (by omega) (by omega) (by omega) (by omega)).mono ?_
  rintro e w1 ⟨hG, hf1⟩
  have HF1 := Lib.hid (HF0.out.trans hf1)
  have HO1b := Lib.hid (HO1.out.non hf1)
  clear HO1
  obtain ⟨u0, l0, ok0, rfl, hu0, _, _⟩ := two_x hG (fun l h => show l.length ≤ 400 by have := (textsM_is h).2.1; omega)
  clear hG hu0
  go_wp2_with fail
  refine (rxget_any _ b n 40 _ (HV.out.non HF1.out) (fun q hq => Nat.lt_of_lt_of_le (HVl.out q hq) HF1.out.size) (by omega) (by omega) (by omega) (by omega)).mono ?_
  rintro e w2 ⟨hG, hf2⟩
  rw [rgetM_is (by omega)] at hG
  obtain ⟨u, l, ok, rfl, hu, hlen, ho⟩ := two_x hG (HLn.out)
  have HFr := Lib.hid (HF1.out.trans hf2)
  have HOo := Lib.hid (HO1b.out.non hf2)
  have hmn := HF1.out.size
  clear HO1b hf1 hf2
  have HU := Lib.hid (hu.mono hmn)
  have HO : Hid (txtG 6 b n = if ok = true then some l else none) := Lib.hid ho
  obtain ⟨A, c, rfl⟩ := hu.shape
  clear hu ho hG HLn hmn HV HVl
  generalize hgg : w.heap.size = g at *
  have HG := Lib.hid hgg
  clear hgg
  go_wp2
  go_loopw [8, 11] (fun o i wr => ∃ (k : Nat), k ≤ l.length ∧ i = .int .i64 k ∧ Oc wr g o ((l.take k).map txtC) ∧ Ow sv 9 wr g (.slice A l.length c) l ∧ Fr Non w wr) (fun _ i _ => l.length - (intOf i).toNat)
  case atStart => exact ⟨0, Nat.zero_le _, rfl, HOo.out, HU.out, HFr.out⟩
  case round =>
    clear HOo HU HFr
    obtain ⟨j, hj, rfl, hO, hU, hfr⟩ := hrel
    by_cases hlt : j < l.length
    · obtain ⟨ad, hA, _, _, hcell⟩ := hU.vs.addr (by omega)
      subst hA
      have hc0 := hcell j hlt
      unfold sv at hc0
      have HT := Lib.hid (mapX_take l j hlt)
      have hlk : ((l.take j).map txtC).length ≤ 400 := by rw [List.length_map, List.length_take]; omega
      have hB := hfr.size
      clear hcell
      generalize l[j] = x at *
      go_wp2_with (at_builtin; refine wpList_pushC rfl (.tmp 40) (.tmp 46) rfl g _ _ rfl hO (txtC x) _ _ _ rfl rfl rfl _ rfl (by simp) (by omega) (by have := HG.out; omega) ?_; intro v6 w6 hown6 hf6)
      have hU6 := hU.fr hf6 (fun q hq e => oc_other hO hU cell_ne_str q e hq)
      have hfr6 := hfr.fresh hf6 (fun q hq => by have := (hO.lt q hq).1; have := HG.out; omega)
      go_roundw
      case rel => exact ⟨j + 1, by omega, by go_num, by rw [HT.out]; exact hown6, hU6, hfr6⟩
      case measure => simp [intOf]; omega
    · obtain rfl : j = l.length := by omega
      rw [List.take_length] at hO
      go_wp2
      go_ret2
      refine ⟨?_, hfr⟩
      rw [HW.out, HO.out]
      cases ok with
      | true => exact .inr ⟨l.map txtC, _, rfl, rfl, hO.mono (by have := HG.out; omega)⟩
      | false => exact .inl ⟨rfl, _, _, rfl, hO.mono (by have := HG.out; omega)⟩
end Go.Proofs.YtemfmnjhmmlmbaaGreat


namespace Go.Proofs.YtemfmnjhmmlmbaaGreat
set_option linter.unusedVariables false
set_option linter.unusedSimpArgs false
set_option maxRecDepth 100000
open Go.RowKit

theorem rread_any (k : Nat) (h1 : 1 ≤ k) (h6 : k ≤ 6) (v : Value) (b : List UInt8) (n : Nat) (w : World) (hv : Bs w v b) (hvl : ∀ q, v.ownBlock = some q → q < w.heap.size) (hl : b.length ≤ 100000) (hn : n ≤ 400) :
    Calls Tryz.prog 17 #[.int .i64 (k : Nat), v, .int .i64 n] w fun e w' => Gtc w' w.heap.size (wayG k b n) e ∧ Fr Non w w' := by
  rcases (show k = 1 ∨ k = 2 ∨ k = 3 ∨ k = 4 ∨ k = 5 ∨ k = 6 by omega) with rfl | rfl | rfl | rfl | rfl | rfl
  · exact rread1_any v b n w hv hvl hl hn
  · exact rread2_any v b n w hv hvl hl hn
  · exact rread3_any v b n w hv hvl hl hn
  · exact rread4_any v b n w hv hvl hl hn
  · exact rread5_any v b n w hv hvl hl hn
  · exact rread6_any v b n w hv hvl hl hn

theorem mayC_two {ty : Int} {c : Cl} (h : c.null = false) : mayC ty true c = mayC ty false c := by
  unfold mayC; simp [h]
/-- all may be, joined, if the others may -/
theorem joinC_may {ty : Int} {t : List Bool} {o : List Cl} (h : o.length + cnt t = t.length) (hn : ∀ c ∈ o, c.null = false) (hty : isTy ty = true) : (joinC t o).all (mayC ty true) = o.all (mayC ty false) := by
  obtain ⟨_, j2, j3⟩ := joinC_parts t o h hn
  rw [Bool.eq_iff_iff, List.all_eq_true, List.all_eq_true]
  constructor
  · intro H c hc
    rw [← mayC_two (hn c hc)]
    rw [← j2] at hc
    exact H c (List.mem_filter.1 hc).1
  · intro H c hc
    rcases j3 c hc with rfl | hc
    · exact mayC_nil hty
    · rw [mayC_two (hn c hc)]; exact H c hc
theorem getC_ty {ty : Int} (b : List UInt8) (n : Nat) (h : waysOf ty = []) : getC ty b n = none := by
  by_cases hn : n ≤ 4096
  · cases ho : openC b n with
    | none => exact getC_shut ho
    | some p => rw [getC_open hn ho, readC_no (by rw [h]; simp)]; rfl
  · exact getC_out (.inr (by omega))
theorem getC_kind {ty : Int} {b : List UInt8} {n : Nat} (h : kindB b ∉ waysOf ty) : getC ty b n = none := by
  by_cases hn : n ≤ 4096
  · cases ho : openC b n with
    | none => exact getC_shut ho
    | some p => rw [getC_open hn ho, readC_no h]; rfl
  · exact getC_out (.inr (by omega))
theorem kind0 {ty : Int} {b : List UInt8} (h : kindB b = 0) : kindB b ∉ waysOf ty := by
  intro e; have := waysOf_pos ty _ e; omega
/-- which ways are a type's -/
theorem waysOf_mem {ty : Int} {K : Nat} (h1 : 1 ≤ ty) (h3 : ty ≤ 3) (hK1 : 1 ≤ K) (hK6 : K ≤ 6) : K ∈ waysOf ty ↔ (decide (5 ≤ (K : Int)) = (ty == 3)) := by
  rcases (show ty = 1 ∨ ty = 2 ∨ ty = 3 by omega) with rfl | rfl | rfl <;> rcases (show K = 1 ∨ K = 2 ∨ K = 3 ∨ K = 4 ∨ K = 5 ∨ K = 6 by omega) with rfl | rfl | rfl | rfl | rfl | rfl <;> decide
/-- what is behind the nulls: K the way's number, which may be none -/
def restC (ty : Int) (K : Nat) (nulls : List Bool) (rest : List UInt8) (n : Nat) : Option (List Cl) :=
  if 1 ≤ K ∧ K ≤ 6 then (readC ty K rest (n - cnt nulls)).map (joinC nulls) else none
theorem getC_plain {ty : Int} {c : UInt8} {r : List UInt8} {n : Nat} (hn : n ≤ 4096) (h : ¬ 8 < c.toNat) : getC ty (c :: r) n = restC ty c.toNat (List.replicate n false) r n := by
  unfold restC
  have hb : kindB (c :: r) = kindC c := rfl
  by_cases hk : 1 ≤ c.toNat ∧ c.toNat ≤ 6
  · rw [if_pos hk]
    have hs : someN c = false := by unfold someN; rw [beq_eq_false_iff_ne]; omega
    rw [getC_open hn (openC_none r n hs)]
    have e : kindC c = c.toNat := by unfold kindC; rw [if_pos (by omega)]; omega
    rw [hb, e]
  · rw [if_neg hk]
    refine getC_kind (kind0 ?_)
    rw [hb]; unfold kindC
    rw [if_neg (by omega)]
theorem getC_some {ty : Int} {c : UInt8} {r : List UInt8} {n K : Nat} (hn : n ≤ 4096) (h : c.toNat = K + 8) (h0 : 0 < K) (hk : need n ≤ r.length) (hf : Fit (r.take (need n)) n) (hc : 0 < cnt (unp (r.take (need n)) n)) : getC ty (c :: r) n = restC ty K (unp (r.take (need n)) n) (r.drop (need n)) n := by
  unfold restC
  have hb : kindB (c :: r) = kindC c := rfl
  by_cases h1 : 1 ≤ K ∧ K ≤ 6
  · rw [if_pos h1]
    have hs : someN c = true := by unfold someN; rw [beq_iff_eq]; omega
    rw [getC_open hn (openC_yes hs hk hf hc)]
    have e : kindC c = K := by unfold kindC; rw [if_pos (by omega)]; omega
    rw [hb, e]
  · rw [if_neg h1]
    refine getC_kind (kind0 ?_)
    rw [hb]; unfold kindC
    rw [if_neg (by omega)]
theorem getC_not {ty : Int} {c : UInt8} {r : List UInt8} {n : Nat} (h : 8 < c.toNat) (hx : ¬ (need n ≤ r.length ∧ Fit (r.take (need n)) n ∧ 0 < cnt (unp (r.take (need n)) n))) : getC ty (c :: r) n = none := by
  cases hs : someN c with
  | true => exact getC_shut (openC_no hs hx)
  | false =>
    refine getC_kind (kind0 ?_)
    show kindC c = 0
    have : ¬ (c.toNat / 8 % 2 = 1) := by unfold someN at hs; simpa using hs
    have := c.toNat_lt
    unfold kindC
    rw [if_neg (by omega)]
theorem getC_nil (ty n : Int) : getC ty [] n = none := by
  by_cases hn : n < 0
  · exact getC_out (.inl hn)
  · obtain ⟨m, rfl⟩ : ∃ m : Nat, n = (m : Int) := ⟨n.toNat, by omega⟩
    exact getC_shut (openC_nil m)
theorem gec_no {w : World} {B : Nat} {o : Option (List Cl)} (h : o = none) : Gec w B o (.returned (.tuple #[.slice none 0 0, .bool false])) := .inl ⟨h, rfl⟩

set_option maxHeartbeats 4000000 in
theorem rgetc_any (ty n : Int) (v : Value) (b : List UInt8) (w : World) (hv : Bs w v b) (hvl : ∀ q, v.ownBlock = some q → q < w.heap.size) (hl : b.length ≤ 100000) (h1 : -9223372036854775808 ≤ n) (hn : n ≤ 400) :
    Calls Tryz.prog 6 #[.int .i64 ty, v, .int .i64 n] w fun e w' => Gec w' w.heap.size (getC ty b n) e ∧ Fr Non w w' := by
  have HV := Lib.hid hv
  have HVl := Lib.hid hvl
  clear hvl
  obtain ⟨A, c, rfl, hlc, hno, hcell⟩ := hv
  have d400 : decide (400 < n) = false := by simpa using hn
  cases b with
  | nil =>
    have HG := Lib.hid (getC_nil ty n)
    clear hlc hno hcell
    go_enter Tryz.func6, Tryz.ntmps6
    go_wp2
    go_ret2
    exact ⟨gec_no HG.out, Fr.refl _ _⟩
  | cons x r =>
    have hbig : ((r.length : Int) + 1 == 0) = false := by rw [beq_eq_false_iff_ne]; omega
    by_cases h0 : n < 0
    · have HG := Lib.hid (getC_out (ty := ty) (b := x :: r) (.inl h0))
      have d0 : decide (n < 0) = true := by simpa using h0
      clear hlc hno hcell h0 h1 hn
      go_enter Tryz.func6, Tryz.ntmps6
      go_wp2
      go_ret2
      exact ⟨gec_no HG.out, Fr.refl _ _⟩
    · have d0 : decide (n < 0) = false := by simpa using h0
      obtain ⟨m, rfl⟩ : ∃ m : Nat, n = (m : Int) := ⟨n.toNat, by omega⟩
      by_cases ht1 : ty < 1
      · have HG := Lib.hid (getC_ty (ty := ty) (x :: r) m (waysOf_no (by omega) (by omega) (by omega)))
        have d1 : decide (ty < 1) = true := by simpa using ht1
        clear hlc hno hcell h0 h1 hn ht1
        go_enter Tryz.func6, Tryz.ntmps6
        go_wp2
        go_ret2
        exact ⟨gec_no HG.out, Fr.refl _ _⟩
      · have d1 : decide (ty < 1) = false := by simpa using ht1
        by_cases ht3 : 3 < ty
        · have HG := Lib.hid (getC_ty (ty := ty) (x :: r) m (waysOf_no (by omega) (by omega) (by omega)))
          have d3 : decide (3 < ty) = true := by simpa using ht3
          clear hlc hno hcell h0 h1 hn ht1 ht3
          go_enter Tryz.func6, Tryz.ntmps6
          go_wp2
          go_ret2
          exact ⟨gec_no HG.out, Fr.refl _ _⟩
        · have d3 : decide (3 < ty) = false := by simpa using ht3
          cases A with
          | none => have := hno rfl; simp at hlc; omega
          | some a =>
            have g0 : w.cell? (a.add 0) = some (bv x) := hcell a rfl 0 (by simp)
            have g1 : w.cell? a = some (bv x) := by rw [add0 a] at g0; exact g0
            obtain ⟨A1, c1, hsl, hrest, hob⟩ := slice_lo (some a) (r.length + 1) c 1 .i64 1 rfl (by omega) (by simpa using hlc)
            rw [Nat.add_sub_cancel] at hsl hrest hob
            have HR : Hid (Bs w (.slice A1 r.length c1) r) := Lib.hid (hrest w (x :: r) rfl HV.out)
            have HRl : Hid (∀ q, (Value.slice A1 r.length c1).ownBlock = some q → q < w.heap.size) := Lib.hid (fun q hq => HVl.out q (by rw [hob] at hq; exact hq))
            have hrl : r.length ≤ 100000 := by simp at hl; omega
            have hm : m ≤ 400 := by omega
            have hty : isTy ty = true := by rcases (show ty = 1 ∨ ty = 2 ∨ ty = 3 by omega) with rfl | rfl | rfl <;> rfl
            have HTy := Lib.hid hty
            have HMem := Lib.hid (fun K h1 h6 => waysOf_mem (ty := ty) (K := K) (by omega) (by omega) h1 h6)
            have HP := Lib.hid (fun h => getC_plain (ty := ty) (c := x) (r := r) (n := m) (by omega) h)
            have HS := Lib.hid (fun K h h0 hk hf hc => getC_some (ty := ty) (c := x) (r := r) (n := m) (K := K) (by omega) h h0 hk hf hc)
            have HNot := Lib.hid (fun h hx => getC_not (ty := ty) (c := x) (r := r) (n := m) h hx)
            unfold bv at g0 g1
            have hq256 := x.toNat_lt
            have hlc2 : r.length + 1 ≤ c := by simpa using hlc
            have hc1 : r.length ≤ c1 := by
              obtain ⟨A0, c0, he, h, _⟩ := HR.out
              simp only [Value.slice.injEq] at he
              obtain ⟨_, _, rfl⟩ := he
              simpa using h
            clear hrest hob hno hcell hlc h0 h1 hn ht1 ht3 hl hty
            generalize getC ty (x :: r) m = G at *
            generalize x.toNat = q at *
            by_cases h8 : 8 < q
            · have d8 : decide (8 < (q : Int)) = true := by simp; omega
              have HNo := Lib.hid (fun h => HNot.out h8 h)
              obtain ⟨K, rfl⟩ : ∃ K, q = K + 8 := ⟨q - 8, by omega⟩
              have HG0 := Lib.hid (fun hk hf hc => HS.out K rfl (by omega) hk hf hc)
              have hK8 : (((K + 8 : Nat) : Int)) = (K : Int) + 8 := by push_cast; rfl
              rw [hK8] at g0 g1 d8
              clear HP HS HNot h8 hK8
              have hnd1 : ((m : Int) + 7) / 8 = ((need m : Nat) : Int) := by unfold need; omega
              have hnd2 : Int.tdiv ((m : Int) + 7) 8 = ((need m : Nat) : Int) := by rw [Int.tdiv_eq_ediv_of_nonneg (by omega)]; exact hnd1
              generalize need m = nd at *
              by_cases hk : nd ≤ r.length
              · have dk : decide (r.length < nd) = false := by simp; omega
                obtain ⟨A2, c2, hs2, ht2, ho2⟩ := slice_hi A1 r.length c1 nd .i64 (nd : Int) rfl hk hc1
                obtain ⟨A3, c3, hs3, ht3, ho3⟩ := slice_lo A1 r.length c1 nd .i64 (nd : Int) rfl hk hc1
                have HR2 := Lib.hid (ht2 w r rfl HR.out)
                have HR3 := Lib.hid (ht3 w r rfl HR.out)
                have HRl3 : Hid (∀ q, (Value.slice A3 (r.length - nd) c3).ownBlock = some q → q < w.heap.size) := Lib.hid (fun q hq => HRl.out q (by rw [ho3] at hq; exact hq))
                have htl : (r.take nd).length ≤ 100000 := by rw [List.length_take]; omega
                have hrl3 : (r.drop nd).length ≤ 100000 := by rw [List.length_drop]; omega
                have HNN := Lib.hid (fun (h : ¬ (Fit (r.take nd) m ∧ 0 < cnt (unp (r.take nd) m))) => HNo.out (fun h' => h h'.2))
                have HGG0 := Lib.hid (fun hf hc => HG0.out hk hf hc)
                clear ht2 ht3 ho2 ho3 HNo HG0 HRl HR hk
                generalize hTT : r.take nd = TT at *
                generalize hDD : r.drop nd = rs at *
                clear hTT hDD
                go_enter Tryz.func6, Tryz.ntmps6
                go_wp2
                go_quiet (fail)
                go_wp2_with (at_make; refine wpList_mkfullG el_bool false rfl rfl _ _ rfl _ _ _ _ m rfl rfl rfl rfl (by omega) ?_; intro w2 hown2 hfr2)
                have HF2 : Hid (Fr Non w w2) := Lib.hid (((Fr.refl _ _).drewN _).trans hfr2)
                clear hown2 hfr2
                refine (runpack_any (.slice A2 nd c2) TT m w2 (HR2.out.non HF2.out) htl (by omega) (by omega)).mono ?_
                rintro e w5 ⟨hU, hf5⟩
                have HF5 := Lib.hid (HF2.out.trans hf5)
                clear hf5 HF2
                rcases hU with ⟨hno, rfl⟩ | ⟨⟨_, hfit⟩, u5, rfl, ho5⟩
                · have HN := Lib.hid (HNN.out fun h => hno ⟨by omega, by simpa using h.1⟩)
                  clear hno HNN HGG0
                  go_wp2
                  go_ret2
                  exact ⟨gec_no HN.out, HF5.out⟩
                · rw [Int.toNat_natCast] at hfit ho5
                  have HGG1 := Lib.hid (fun hc => HGG0.out hfit hc)
                  have HNN1 := Lib.hid (fun (h : ¬ 0 < cnt (unp TT m)) => HNN.out fun h' => h h'.2)
                  have hul : (unp TT m).length = m := unp_length _ _
                  clear hfit HNN HGG0
                  generalize unp TT m = nulls at *
                  have HNl := Lib.hid hul
                  have HO5 := Lib.hid ho5
                  clear hul
                  obtain ⟨AT, cT, he⟩ := ho5.shape
                  rw [HNl.out] at he
                  subst he
                  clear ho5
                  have hcl := cnt_le nulls
                  rw [HNl.out] at hcl
                  go_wp2_with fail
                  refine (rplaces_any _ nulls w5 HO5.out.vs (by rw [HNl.out]; omega)).mono ?_
                  rintro e WW ⟨u6, rfl, ho6, hf6⟩
                  have HF := Lib.hid (HF5.out.trans hf6)
                  have HT := Lib.hid (HO5.out.vs.non hf6)
                  have hsh := ho6.shape
                  rw [plc_len] at hsh
                  clear ho6 HO5 HF5 hf6
                  by_cases hc : 0 < cnt nulls
                  · have HG := Lib.hid (HGG1.out hc)
                    have hc0 : ((cnt nulls : Int) == 0) = false := by rw [beq_eq_false_iff_ne]; omega
                    have HRs := Lib.hid (HR3.out.non HF.out)
                    have HRl : Hid (∀ q, (Value.slice A3 (r.length - nd) c3).ownBlock = some q → q < WW.heap.size) := Lib.hid (fun q hq => Nat.lt_of_lt_of_le (HRl3.out q hq) HF.out.size)
                    have hrl := hrl3
                    obtain ⟨A6, c6, rfl⟩ := hsh
                    clear HGG1 HNN1 hc HR3 HRl3 hrl3
                    by_cases hk1 : K < 1
                    · have dk1 : decide ((K : Int) < 1) = true := by simp; omega
                      have HN : Hid (G = none) := Lib.hid (by rw [HG.out]; unfold restC; rw [if_neg (by omega)])
                      clear hk1
                      go_wp2
                      go_ret2
                      exact ⟨gec_no HN.out, HF.out⟩
                    · have dk1 : decide ((K : Int) < 1) = false := by simp; omega
                      by_cases hk6 : 6 < K
                      · have dk6 : decide (6 < (K : Int)) = true := by simp; omega
                        have HN : Hid (G = none) := Lib.hid (by rw [HG.out]; unfold restC; rw [if_neg (by omega)])
                        clear hk1 hk6
                        go_wp2
                        go_ret2
                        exact ⟨gec_no HN.out, HF.out⟩
                      · have dk6 : decide (6 < (K : Int)) = false := by simp; omega
                        have hK1 : 1 ≤ K := by omega
                        have hK6 : K ≤ 6 := by omega
                        have HGr : Hid (G = (readC ty K rs (m - cnt nulls)).map (joinC nulls)) := Lib.hid (by rw [HG.out]; unfold restC; rw [if_pos ⟨hK1, hK6⟩])
                        have hmem := HMem.out K hK1 hK6
                        clear hk1 hk6 HMem HG
                        by_cases hm5 : K ∈ waysOf ty
                        · have he := hmem.1 hm5
                          have dne : (decide (5 ≤ (K : Int)) == (ty == 3)) = true := by rw [he]; simp
                          have HM5 := Lib.hid hm5
                          clear hmem hm5
                          skip
                          have hcl := cnt_le nulls
                          rw [HNl.out] at hcl
                          have HRd := Lib.hid (fun W (hf : Fr Non WW W) => rread_any K hK1 hK6 (.slice A3 (r.length - nd) c3) rs (m - cnt nulls) W (HRs.out.non hf) (fun q hq => Nat.lt_of_lt_of_le (HRl.out q hq) hf.size) hrl (by omega))
                          have HPl := Lib.hid (rplaces_any (.slice AT m cT) nulls WW HT.out (by rw [HNl.out]; omega))
                          have HJ0 := Lib.hid (fun l h => joi_zero nulls l h)
                          generalize hcc : cnt nulls = cc at *
                          have HCC := Lib.hid hcc
                          clear hcc he
                          go_wp2_with fail
                          refine HPl.out.mono ?_
                          rintro e w7 ⟨u7, rfl, ho7, hf7⟩
                          have hsh := ho7.shape
                          rw [plc_len, HCC.out] at hsh
                          obtain ⟨A7, c7, rfl⟩ := hsh
                          have HF7 := Lib.hid hf7
                          have HRd7 : Hid (∀ z : Int, z = (m : Int) - (cc : Nat) → Calls Tryz.prog 17 #[.int .i64 (K : Nat), (.slice A3 (r.length - nd) c3), .int .i64 z] w7 fun e w' => Gtc w' w7.heap.size (wayG K rs (m - cc)) e ∧ Fr Non w7 w') := Lib.hid (fun z hz => by
                            obtain rfl : z = ((m - cc : Nat) : Int) := by omega
                            exact HRd.out w7 hf7)
                          clear ho7 hf7 HPl HRd
                          go_wp2_with fail
                          refine (HRd7.out _ ?_).mono ?_
                          · first | rfl | (push_cast; omega)
                          rintro e w4 ⟨hG, hf4⟩
                          have HF4 := Lib.hid ((HF.out.trans HF7.out).trans hf4)
                          have HT4 := Lib.hid (HT.out.non (HF7.out.trans hf4))
                          clear HRd7 hf4
                          rcases hG with ⟨hg, u, l, rfl, _⟩ | ⟨l, u, hg, rfl, ho4⟩
                          · have HN : Hid (G = none) := Lib.hid (by rw [HGr.out, readC_none hg]; rfl)
                            clear hg
                            go_wp2
                            go_ret2
                            exact ⟨gec_no HN.out, HF4.out⟩
                          · obtain ⟨_, hll, hnn⟩ := wayG_is hg
                            have HAll := Lib.hid (joinC_may (ty := ty) (t := nulls) (o := l) (by rw [hll, HNl.out, HCC.out]; omega) (fun c hc => (hnn c hc).1) HTy.out)
                            have HGj : Hid (G = if (joinC nulls l).all (mayC ty true) = true then some (joinC nulls l) else none) := Lib.hid (by
                              rw [HGr.out, HAll.out]
                              cases hal : l.all (mayC ty false) with
                              | true => rw [readC_yes HM5.out hg hal]; simp
                              | false => rw [readC_bad hg hal]; simp)
                            have HJ1 := Lib.hid (HJ0.out l (by rw [hll, HNl.out]; omega))
                            have HL4 := Lib.hid ho4.cs
                            have hl4 : l.length ≤ 400 := by omega
                            obtain ⟨AL, cL, rfl⟩ := ho4.shape
                            clear hg hnn HAll HGr HJ0 HM5 hll ho4
                            go_wp2
                            have hO0 : Oc (w4.alloc (.cells #[] 33)) w4.heap.size (.slice (some ⟨w4.heap.size, 0, none⟩) 0 0) [] := oc_lit0 w4 w4.heap.size w4.heap.size rfl (Nat.le_refl _)
                            have hf0 : Fr Non w4 (w4.alloc (.cells #[] 33)) := (Fr.refl _ _).alloc _
                            generalize hgg : w4.heap.size = g at *
                            have HGG := Lib.hid hgg
                            clear hgg
                            go_loopw [17, 18, 19] (fun o at_ i wr => ∃ (k a : Nat) (D : List Cl), k ≤ m ∧ i = .int .i64 k ∧ at_ = .int .i64 a ∧ Hid (Joi nulls l k D (l.drop a)) ∧ a ≤ l.length ∧ Hid (D.all (mayC ty true) = true) ∧ Oc wr g o D ∧ Fr Non w4 wr) (fun _ _ i _ => m - (intOf i).toNat)
                            case atStart => exact ⟨0, 0, [], Nat.zero_le _, rfl, rfl, Lib.hid (by rw [List.drop_zero]; exact HJ1.out), Nat.zero_le _, Lib.hid rfl, hO0, hf0⟩
                            case round =>
                              clear hO0 hf0 HJ1
                              obtain ⟨k, a, D, hk, rfl, rfl, HJ, ha, HA, hO, hfr⟩ := hrel
                              have hDl := HJ.out.1
                              by_cases hlt : k < m
                              · obtain ⟨aT, hAT, hh1, hh2, hcell⟩ := HT4.out.addr (by omega)
                                clear hh1 hh2
                                subst hAT
                                have hkn : k < nulls.length := by rw [HNl.out]; exact hlt
                                have hct := hcell k hkn
                                have hfa : Fr Non w4 (wr.alloc (.cells #[.bool true, .int .i64 0, .string ⟨#[]⟩] 33)) := hfr.alloc _
                                have hct2 := (hfa.cell (World.block_lt_of_cell? w4 _ hct) (fun e => e)).trans hct
                                unfold tv at hct2
                                clear hct hcell
                                have hC0 := cl_new wr ⟨true, 0, []⟩
                                have hB := hfr.size
                                cases hx : nulls[k] with
                                | true =>
                                  rw [hx] at hct2
                                  have HJ2 := Lib.hid (joi_yes HJ.out hkn hx)
                                  have hm := fun W => rmay_any ty true ⟨true, 0, []⟩ W
                                  rw [mayC_nil HTy.out] at hm
                                  unfold clV clC at hm
                                  dsimp only at hm
                                  have HA2 : Hid ((D ++ [(⟨true, 0, []⟩ : Cl)]).all (mayC ty true) = true) := Lib.hid (by rw [List.all_append, HA.out]; simp [mayC_nil HTy.out])
                                  obtain ⟨d0, d1, d2, _, _, _⟩ := hC0.facts
                                  dsimp only at d0 d1 d2
                                  have HO := Lib.hid hO
                                  have HFr := Lib.hid hfr
                                  have HC0 := Lib.hid hC0
                                  clear hx hO hfr hC0 hfa
                                  go_wp2_with fail
                                  refine (hm _).mono ?_
                                  rintro e w5 ⟨rfl, hf5⟩
                                  have hC5 : ClB w5 wr.heap.size ⟨true, 0, []⟩ := HC0.out.fr hf5 (fun e => e)
                                  obtain ⟨e0, e1, e2, _, _, _⟩ := hC5.facts
                                  dsimp only at e0 e1 e2
                                  have hO5 := (HO.out.alloc (.cells #[.bool true, .int .i64 0, .string ⟨([] : List UInt8).toArray⟩] 33)).non hf5
                                  have hfr5 := (HFr.out.alloc (.cells #[.bool true, .int .i64 0, .string ⟨([] : List UInt8).toArray⟩] 33)).trans hf5
                                  have hB5 := hfr5.size
                                  have HFr5 := Lib.hid hfr5
                                  clear d0 d1 d2 hm hC5 hf5 hfr5 hct2
                                  go_wp2_with (at_builtin; refine wpList_pushC rfl (.tmp 130) (.tmp 132) rfl g _ _ rfl hO5 ⟨true, 0, []⟩ _ _ _ rfl rfl rfl _ rfl (by simp) (by omega) (by have := HGG.out; omega) ?_; intro v6 w6 hown6 hf6)
                                  have hfr6 := HFr5.out.fresh hf6 (fun q hq => by have := (hO5.lt q hq).1; have := HGG.out; omega)
                                  go_roundw
                                  case rel => exact ⟨k + 1, a, _, by omega, by go_num, rfl, HJ2, ha, HA2, hown6, hfr6⟩
                                  case measure => simp [intOf]; omega
                                | false =>
                                  rw [hx] at hct2
                                  obtain ⟨y, q', hdr, hJ2⟩ := joi_no HJ.out hkn hx
                                  have hal : a < l.length := by
                                    have := congrArg List.length hdr
                                    rw [List.length_drop, List.length_cons] at this; omega
                                  have hyl : l[a] = y ∧ l.drop (a + 1) = q' := by
                                    rw [List.drop_eq_getElem_cons hal, List.cons.injEq] at hdr
                                    exact hdr
                                  rw [← hyl.2] at hJ2
                                  have HJ2 := Lib.hid hJ2
                                  obtain ⟨aL, hAL, hh1, hh2, hat⟩ := HL4.out.addr (by omega)
                                  clear hh1 hh2 hJ2 hdr
                                  subst hAL
                                  obtain ⟨q0, q1, q2⟩ := (hfa.at3 (hat a hal)).lit
                                  rw [hyl.1] at q0 q1 q2
                                  clear hyl hat hx hfa
                                  have hm := fun W => rmay_any ty true y W
                                  obtain ⟨yn, yi, yt⟩ := y
                                  have hS := cl_new wr ⟨yn, yi, yt⟩
                                  obtain ⟨z0, z1, z2, _, _, _⟩ := hS.facts
                                  dsimp only at z0 z1 z2
                                  obtain ⟨d0, d1, d2, p0, p1, p2⟩ := hC0.facts
                                  dsimp only at d0 d1 d2
                                  unfold clV clC at hm
                                  dsimp only at hm
                                  have HS := Lib.hid hS
                                  have HO := Lib.hid hO
                                  have HFr := Lib.hid hfr
                                  clear hS hO hfr hC0
                                  cases hmy : mayC ty true ⟨yn, yi, yt⟩ with
                                  | true =>
                                    rw [hmy] at hm
                                    have HA2 : Hid ((D ++ [(⟨yn, yi, yt⟩ : Cl)]).all (mayC ty true) = true) := Lib.hid (by rw [List.all_append, HA.out]; simp [hmy])
                                    clear hmy
                                    go_wp2_with fail
                                    refine (hm _).mono ?_
                                    rintro e w5 ⟨rfl, hf5⟩
                                    have hC5 : ClB w5 wr.heap.size ⟨yn, yi, yt⟩ := HS.out.fr hf5 (fun e => e)
                                    clear d0 d1 d2 z0 z1 z2 p0 p1 p2
                                    obtain ⟨e0, e1, e2, _, _, _⟩ := hC5.facts
                                    dsimp only at e0 e1 e2
                                    have hO5 := (HO.out.alloc (.cells #[.bool yn, .int .i64 yi, .string ⟨yt.toArray⟩] 33)).non hf5
                                    have hfr5 := (HFr.out.alloc (.cells #[.bool yn, .int .i64 yi, .string ⟨yt.toArray⟩] 33)).trans hf5
                                    have hB5 := hfr5.size
                                    have HFr5 := Lib.hid hfr5
                                    clear hm hC5 hf5 hfr5 hct2 q0 q1 q2
                                    go_wp2_with (at_builtin; refine wpList_pushC rfl (.tmp 130) (.tmp 132) rfl g _ _ rfl hO5 ⟨yn, yi, yt⟩ _ _ _ rfl rfl rfl _ rfl (by simp) (by omega) (by have := HGG.out; omega) ?_; intro v6 w6 hown6 hf6)
                                    have hfr6 := HFr5.out.fresh hf6 (fun q hq => by have := (hO5.lt q hq).1; have := HGG.out; omega)
                                    go_roundw
                                    case rel => exact ⟨k + 1, a + 1, _, by omega, by go_num, by go_num, HJ2, by omega, HA2, hown6, hfr6⟩
                                    case measure => simp [intOf]; omega
                                  | false =>
                                    rw [hmy] at hm
                                    have HA2 : Hid ((joinC nulls l).all (mayC ty true) = false) := Lib.hid (by
                                      rw [HJ2.out.2.1]; simp [hmy])
                                    clear hmy
                                    go_wp2_with fail
                                    refine (hm _).mono ?_
                                    rintro e w5 ⟨rfl, hf5⟩
                                    have HN : Hid (G = none) := Lib.hid (by rw [HGj.out, HA2.out]; rfl)
                                    have hF5 := HF4.out.trans ((HFr.out.alloc _).trans hf5)
                                    go_wp2
                                    go_ret2
                                    exact ⟨gec_no HN.out, hF5⟩
                              · obtain rfl : k = m := by omega
                                have HE : Hid (G = some D) := Lib.hid (by
                                  have h1 := HJ.out
                                  rw [show k = nulls.length from HNl.out.symm] at h1
                                  have h2 := joi_all h1
                                  rw [HGj.out, h2, if_pos HA.out])
                                go_wp2
                                go_ret2
                                exact ⟨.inr ⟨_, _, HE.out, rfl, hO.mono (by have := HGG.out; have := HF4.out.size; omega)⟩, HF4.out.trans hfr⟩
                        · have HN : Hid (G = none) := Lib.hid (by rw [HGr.out, readC_no hm5]; rfl)
                          have dne : (decide (5 ≤ (K : Int)) == (ty == 3)) = false := by
                            rw [beq_eq_false_iff_ne]; exact fun e => hm5 (hmem.2 e)
                          clear hmem hm5
                          go_wp2
                          go_ret2
                          exact ⟨gec_no HN.out, HF.out⟩
                  · have HN := Lib.hid (HNN1.out hc)
                    have hc0 : ((cnt nulls : Int) == 0) = true := by rw [beq_iff_eq]; omega
                    obtain ⟨A6, c6, rfl⟩ := hsh
                    clear HGG1 HNN1 hc
                    go_wp2
                    go_ret2
                    exact ⟨gec_no HN.out, HF.out⟩
              · have HN := Lib.hid (HNo.out (fun h => hk h.1))
                have dk : decide (r.length < nd) = true := by simp; omega
                clear hk HG0 HNo
                go_enter Tryz.func6, Tryz.ntmps6
                go_wp2
                go_quiet (fail)
                go_wp2_with (at_make; refine wpList_mkfullG el_bool false rfl rfl _ _ rfl _ _ _ _ m rfl rfl rfl rfl (by omega) ?_; intro w2 hown2 hfr2)
                go_ret2
                exact ⟨gec_no HN.out, ((Fr.refl _ _).drewN _).trans hfr2⟩
            · have d8 : decide (8 < (q : Int)) = false := by simp; omega
              have HG := Lib.hid (HP.out h8)
              clear HP HS HNot h8
              have HNl : Hid ((List.replicate m false).length = m) := Lib.hid (List.length_replicate ..)
              generalize hnu : List.replicate m false = nulls at *
              have HNu := Lib.hid hnu
              clear hnu
              generalize q = K at *
              generalize r = rs at *
              by_cases hk1 : K < 1
              · have dk1 : decide ((K : Int) < 1) = true := by simp; omega
                have HN : Hid (G = none) := Lib.hid (by rw [HG.out]; unfold restC; rw [if_neg (by omega)])
                clear hk1
                go_enter Tryz.func6, Tryz.ntmps6
                go_wp2
                go_quiet (fail)
                rename_i nq
                go_wp2_with (at_make; refine wpList_mkfullG el_bool false rfl rfl _ _ rfl _ _ _ _ m rfl rfl rfl rfl (by omega) ?_; intro WW hown2 hfr2)
                have HF : Hid (Fr Non w WW) := Lib.hid (((Fr.refl _ _).drewN _).trans hfr2)
                go_ret2
                exact ⟨gec_no HN.out, HF.out⟩
              · have dk1 : decide ((K : Int) < 1) = false := by simp; omega
                by_cases hk6 : 6 < K
                · have dk6 : decide (6 < (K : Int)) = true := by simp; omega
                  have HN : Hid (G = none) := Lib.hid (by rw [HG.out]; unfold restC; rw [if_neg (by omega)])
                  clear hk1 hk6
                  go_enter Tryz.func6, Tryz.ntmps6
                  go_wp2
                  go_quiet (fail)
                  rename_i nq
                  go_wp2_with (at_make; refine wpList_mkfullG el_bool false rfl rfl _ _ rfl _ _ _ _ m rfl rfl rfl rfl (by omega) ?_; intro WW hown2 hfr2)
                  have HF : Hid (Fr Non w WW) := Lib.hid (((Fr.refl _ _).drewN _).trans hfr2)
                  go_ret2
                  exact ⟨gec_no HN.out, HF.out⟩
                · have dk6 : decide (6 < (K : Int)) = false := by simp; omega
                  have hK1 : 1 ≤ K := by omega
                  have hK6 : K ≤ 6 := by omega
                  have HGr : Hid (G = (readC ty K rs (m - cnt nulls)).map (joinC nulls)) := Lib.hid (by rw [HG.out]; unfold restC; rw [if_pos ⟨hK1, hK6⟩])
                  have hmem := HMem.out K hK1 hK6
                  clear hk1 hk6 HMem HG
                  by_cases hm5 : K ∈ waysOf ty
                  · have he := hmem.1 hm5
                    have dne : (decide (5 ≤ (K : Int)) == (ty == 3)) = true := by rw [he]; simp
                    have HM5 := Lib.hid hm5
                    clear hmem hm5
                    go_enter Tryz.func6, Tryz.ntmps6
                    go_wp2
                    go_quiet (fail)
                    rename_i nq
                    go_wp2_with (at_make; refine wpList_mkfullG el_bool false rfl rfl _ _ rfl _ _ _ _ m rfl rfl rfl rfl (by omega) ?_; intro WW hown2 hfr2)
                    have HF : Hid (Fr Non w WW) := Lib.hid (((Fr.refl _ _).drewN _).trans hfr2)
                    
                    rw [HNu.out] at hown2
                    have HT : Hid (Vs tv WW (.slice (some ⟨w.heap.size, 0, none⟩) m m) nulls) := Lib.hid hown2.vs
                    have HRs := Lib.hid (HR.out.non HF.out)
                    have HRl2 : Hid (∀ q, (Value.slice A1 rs.length c1).ownBlock = some q → q < WW.heap.size) := Lib.hid (fun q hq => Nat.lt_of_lt_of_le (HRl.out q hq) HF.out.size)
                    clear hown2 hfr2 HR HRl
                    have HRl := HRl2
                    clear HRl2
                    generalize (some (⟨w.heap.size, 0, none⟩ : Addr)) = AT at *
                    have hcl := cnt_le nulls
                    rw [HNl.out] at hcl
                    have HRd := Lib.hid (fun W (hf : Fr Non WW W) => rread_any K hK1 hK6 (.slice A1 rs.length c1) rs (m - cnt nulls) W (HRs.out.non hf) (fun q hq => Nat.lt_of_lt_of_le (HRl.out q hq) hf.size) hrl (by omega))
                    have HPl := Lib.hid (rplaces_any (.slice AT m m) nulls WW HT.out (by rw [HNl.out]; omega))
                    have HJ0 := Lib.hid (fun l h => joi_zero nulls l h)
                    generalize hcc : cnt nulls = cc at *
                    have HCC := Lib.hid hcc
                    clear hcc he
                    skip
                    refine HPl.out.mono ?_
                    rintro e w7 ⟨u7, rfl, ho7, hf7⟩
                    have hsh := ho7.shape
                    rw [plc_len, HCC.out] at hsh
                    obtain ⟨A7, c7, rfl⟩ := hsh
                    have HF7 := Lib.hid hf7
                    have HRd7 : Hid (∀ z : Int, z = (m : Int) - (cc : Nat) → Calls Tryz.prog 17 #[.int .i64 (K : Nat), (.slice A1 rs.length c1), .int .i64 z] w7 fun e w' => Gtc w' w7.heap.size (wayG K rs (m - cc)) e ∧ Fr Non w7 w') := Lib.hid (fun z hz => by
                      obtain rfl : z = ((m - cc : Nat) : Int) := by omega
                      exact HRd.out w7 hf7)
                    clear ho7 hf7 HPl HRd
                    go_wp2_with fail
                    refine (HRd7.out _ ?_).mono ?_
                    · first | rfl | (push_cast; omega)
                    rintro e w4 ⟨hG, hf4⟩
                    have HF4 := Lib.hid ((HF.out.trans HF7.out).trans hf4)
                    have HT4 := Lib.hid (HT.out.non (HF7.out.trans hf4))
                    clear HRd7 hf4
                    rcases hG with ⟨hg, u, l, rfl, _⟩ | ⟨l, u, hg, rfl, ho4⟩
                    · have HN : Hid (G = none) := Lib.hid (by rw [HGr.out, readC_none hg]; rfl)
                      clear hg
                      go_wp2
                      go_ret2
                      exact ⟨gec_no HN.out, HF4.out⟩
                    · obtain ⟨_, hll, hnn⟩ := wayG_is hg
                      have HAll := Lib.hid (joinC_may (ty := ty) (t := nulls) (o := l) (by rw [hll, HNl.out, HCC.out]; omega) (fun c hc => (hnn c hc).1) HTy.out)
                      have HGj : Hid (G = if (joinC nulls l).all (mayC ty true) = true then some (joinC nulls l) else none) := Lib.hid (by
                        rw [HGr.out, HAll.out]
                        cases hal : l.all (mayC ty false) with
                        | true => rw [readC_yes HM5.out hg hal]; simp
                        | false => rw [readC_bad hg hal]; simp)
                      have HJ1 := Lib.hid (HJ0.out l (by rw [hll, HNl.out]; omega))
                      have HL4 := Lib.hid ho4.cs
                      have hl4 : l.length ≤ 400 := by omega
                      obtain ⟨AL, cL, rfl⟩ := ho4.shape
                      clear hg hnn HAll HGr HJ0 HM5 hll ho4
                      go_wp2
                      have hO0 : Oc (w4.alloc (.cells #[] 33)) w4.heap.size (.slice (some ⟨w4.heap.size, 0, none⟩) 0 0) [] := oc_lit0 w4 w4.heap.size w4.heap.size rfl (Nat.le_refl _)
                      have hf0 : Fr Non w4 (w4.alloc (.cells #[] 33)) := (Fr.refl _ _).alloc _
                      generalize hgg : w4.heap.size = g at *
                      have HGG := Lib.hid hgg
                      clear hgg
                      go_loopw [17, 18, 19] (fun o at_ i wr => ∃ (k a : Nat) (D : List Cl), k ≤ m ∧ i = .int .i64 k ∧ at_ = .int .i64 a ∧ Hid (Joi nulls l k D (l.drop a)) ∧ a ≤ l.length ∧ Hid (D.all (mayC ty true) = true) ∧ Oc wr g o D ∧ Fr Non w4 wr) (fun _ _ i _ => m - (intOf i).toNat)
                      case atStart => exact ⟨0, 0, [], Nat.zero_le _, rfl, rfl, Lib.hid (by rw [List.drop_zero]; exact HJ1.out), Nat.zero_le _, Lib.hid rfl, hO0, hf0⟩
                      case round =>
                        clear hO0 hf0 HJ1
                        obtain ⟨k, a, D, hk, rfl, rfl, HJ, ha, HA, hO, hfr⟩ := hrel
                        have hDl := HJ.out.1
                        by_cases hlt : k < m
                        · obtain ⟨aT, hAT, hh1, hh2, hcell⟩ := HT4.out.addr (by omega)
                          clear hh1 hh2
                          subst hAT
                          have hkn : k < nulls.length := by rw [HNl.out]; exact hlt
                          have hct := hcell k hkn
                          have hfa : Fr Non w4 (wr.alloc (.cells #[.bool true, .int .i64 0, .string ⟨#[]⟩] 33)) := hfr.alloc _
                          have hct2 := (hfa.cell (World.block_lt_of_cell? w4 _ hct) (fun e => e)).trans hct
                          unfold tv at hct2
                          clear hct hcell
                          have hC0 := cl_new wr ⟨true, 0, []⟩
                          have hB := hfr.size
                          cases hx : nulls[k] with
                          | true =>
                            rw [hx] at hct2
                            have HJ2 := Lib.hid (joi_yes HJ.out hkn hx)
                            have hm := fun W => rmay_any ty true ⟨true, 0, []⟩ W
                            rw [mayC_nil HTy.out] at hm
                            unfold clV clC at hm
                            dsimp only at hm
                            have HA2 : Hid ((D ++ [(⟨true, 0, []⟩ : Cl)]).all (mayC ty true) = true) := Lib.hid (by rw [List.all_append, HA.out]; simp [mayC_nil HTy.out])
                            obtain ⟨d0, d1, d2, _, _, _⟩ := hC0.facts
                            dsimp only at d0 d1 d2
                            have HO := Lib.hid hO
                            have HFr := Lib.hid hfr
                            have HC0 := Lib.hid hC0
                            clear hx hO hfr hC0 hfa
                            go_wp2_with fail
                            refine (hm _).mono ?_
                            rintro e w5 ⟨rfl, hf5⟩
                            have hC5 : ClB w5 wr.heap.size ⟨true, 0, []⟩ := HC0.out.fr hf5 (fun e => e)
                            obtain ⟨e0, e1, e2, _, _, _⟩ := hC5.facts
                            dsimp only at e0 e1 e2
                            have hO5 := (HO.out.alloc (.cells #[.bool true, .int .i64 0, .string ⟨([] : List UInt8).toArray⟩] 33)).non hf5
                            have hfr5 := (HFr.out.alloc (.cells #[.bool true, .int .i64 0, .string ⟨([] : List UInt8).toArray⟩] 33)).trans hf5
                            have hB5 := hfr5.size
                            have HFr5 := Lib.hid hfr5
                            clear d0 d1 d2 hm hC5 hf5 hfr5 hct2
                            go_wp2_with (at_builtin; refine wpList_pushC rfl (.tmp 130) (.tmp 132) rfl g _ _ rfl hO5 ⟨true, 0, []⟩ _ _ _ rfl rfl rfl _ rfl (by simp) (by omega) (by have := HGG.out; omega) ?_; intro v6 w6 hown6 hf6)
                            have hfr6 := HFr5.out.fresh hf6 (fun q hq => by have := (hO5.lt q hq).1; have := HGG.out; omega)
                            go_roundw
                            case rel => exact ⟨k + 1, a, _, by omega, by go_num, rfl, HJ2, ha, HA2, hown6, hfr6⟩
                            case measure => simp [intOf]; omega
                          | false =>
                            rw [hx] at hct2
                            obtain ⟨y, q', hdr, hJ2⟩ := joi_no HJ.out hkn hx
                            have hal : a < l.length := by
                              have := congrArg List.length hdr
                              rw [List.length_drop, List.length_cons] at this; omega
                            have hyl : l[a] = y ∧ l.drop (a + 1) = q' := by
                              rw [List.drop_eq_getElem_cons hal, List.cons.injEq] at hdr
                              exact hdr
                            rw [← hyl.2] at hJ2
                            have HJ2 := Lib.hid hJ2
                            obtain ⟨aL, hAL, hh1, hh2, hat⟩ := HL4.out.addr (by omega)
                            clear hh1 hh2 hJ2 hdr
                            subst hAL
                            obtain ⟨q0, q1, q2⟩ := (hfa.at3 (hat a hal)).lit
                            rw [hyl.1] at q0 q1 q2
                            clear hyl hat hx hfa
                            have hm := fun W => rmay_any ty true y W
                            obtain ⟨yn, yi, yt⟩ := y
                            have hS := cl_new wr ⟨yn, yi, yt⟩
                            obtain ⟨z0, z1, z2, _, _, _⟩ := hS.facts
                            dsimp only at z0 z1 z2
                            obtain ⟨d0, d1, d2, p0, p1, p2⟩ := hC0.facts
                            dsimp only at d0 d1 d2
                            unfold clV clC at hm
                            dsimp only at hm
                            have HS := Lib.hid hS
                            have HO := Lib.hid hO
                            have HFr := Lib.hid hfr
                            clear hS hO hfr hC0
                            cases hmy : mayC ty true ⟨yn, yi, yt⟩ with
                            | true =>
                              rw [hmy] at hm
                              have HA2 : Hid ((D ++ [(⟨yn, yi, yt⟩ : Cl)]).all (mayC ty true) = true) := Lib.hid (by rw [List.all_append, HA.out]; simp [hmy])
                              clear hmy
                              go_wp2_with fail
                              refine (hm _).mono ?_
                              rintro e w5 ⟨rfl, hf5⟩
                              have hC5 : ClB w5 wr.heap.size ⟨yn, yi, yt⟩ := HS.out.fr hf5 (fun e => e)
                              clear d0 d1 d2 z0 z1 z2 p0 p1 p2
                              obtain ⟨e0, e1, e2, _, _, _⟩ := hC5.facts
                              dsimp only at e0 e1 e2
                              have hO5 := (HO.out.alloc (.cells #[.bool yn, .int .i64 yi, .string ⟨yt.toArray⟩] 33)).non hf5
                              have hfr5 := (HFr.out.alloc (.cells #[.bool yn, .int .i64 yi, .string ⟨yt.toArray⟩] 33)).trans hf5
                              have hB5 := hfr5.size
                              have HFr5 := Lib.hid hfr5
                              clear hm hC5 hf5 hfr5 hct2 q0 q1 q2
                              go_wp2_with (at_builtin; refine wpList_pushC rfl (.tmp 130) (.tmp 132) rfl g _ _ rfl hO5 ⟨yn, yi, yt⟩ _ _ _ rfl rfl rfl _ rfl (by simp) (by omega) (by have := HGG.out; omega) ?_; intro v6 w6 hown6 hf6)
                              have hfr6 := HFr5.out.fresh hf6 (fun q hq => by have := (hO5.lt q hq).1; have := HGG.out; omega)
                              go_roundw
                              case rel => exact ⟨k + 1, a + 1, _, by omega, by go_num, by go_num, HJ2, by omega, HA2, hown6, hfr6⟩
                              case measure => simp [intOf]; omega
                            | false =>
                              rw [hmy] at hm
                              have HA2 : Hid ((joinC nulls l).all (mayC ty true) = false) := Lib.hid (by
                                rw [HJ2.out.2.1]; simp [hmy])
                              clear hmy
                              go_wp2_with fail
                              refine (hm _).mono ?_
                              rintro e w5 ⟨rfl, hf5⟩
                              have HN : Hid (G = none) := Lib.hid (by rw [HGj.out, HA2.out]; rfl)
                              have hF5 := HF4.out.trans ((HFr.out.alloc _).trans hf5)
                              go_wp2
                              go_ret2
                              exact ⟨gec_no HN.out, hF5⟩
                        · obtain rfl : k = m := by omega
                          have HE : Hid (G = some D) := Lib.hid (by
                            have h1 := HJ.out
                            rw [show k = nulls.length from HNl.out.symm] at h1
                            have h2 := joi_all h1
                            rw [HGj.out, h2, if_pos HA.out])
                          go_wp2
                          go_ret2
                          exact ⟨.inr ⟨_, _, HE.out, rfl, hO.mono (by have := HGG.out; have := HF4.out.size; omega)⟩, HF4.out.trans hfr⟩
                  · have HN : Hid (G = none) := Lib.hid (by rw [HGr.out, readC_no hm5]; rfl)
                    have dne : (decide (5 ≤ (K : Int)) == (ty == 3)) = false := by
                      rw [beq_eq_false_iff_ne]; exact fun e => hm5 (hmem.2 e)
                    clear hmem hm5
                    go_enter Tryz.func6, Tryz.ntmps6
                    go_wp2
                    go_quiet (fail)
                    rename_i nq
                    go_wp2_with (at_make; refine wpList_mkfullG el_bool false rfl rfl _ _ rfl _ _ _ _ m rfl rfl rfl rfl (by omega) ?_; intro WW hown2 hfr2)
                    have HF : Hid (Fr Non w WW) := Lib.hid (((Fr.refl _ _).drewN _).trans hfr2)
                    go_ret2
                    exact ⟨gec_no HN.out, HF.out⟩
end Go.Proofs.YtemfmnjhmmlmbaaGreat


namespace Go.Proofs.YtemfmnjhmmlmbaaGreat
set_option linter.unusedVariables false
set_option linter.unusedSimpArgs false
set_option maxRecDepth 100000
open Go.RowKit

theorem putR_e10 : putR [7, 7, 7] = [2, 14] := by
  rw [putR_cons, show runN 7 [7, 7] = 2 by decide, show List.drop 2 [(7 : Int), 7] = [] by rfl, putR_nil]
  unfold oneR
  rw [show zig 7 = 14 by rfl, Lib.uvarint_small (by omega), Lib.uvarint_small (by omega)]
  rfl
theorem onesN_e10 : onesN [7, 7, 7] = [14, 14, 14] := by
  rw [onesN_cons, onesN_cons, onesN_cons, onesN_nil, show zig 7 = 14 by rfl, Lib.uvarint_small (by omega)]
  rfl
theorem putD_e10 : putD 0 [7, 7, 7] = [14, 0, 0] := by
  rw [putD_cons, putD_cons, putD_cons, putD_nil]
  rw [show zig (w6 (7 - 0)) = 14 by decide, show zig (w6 (7 - 7)) = 0 by decide, Lib.uvarint_small (by omega), Lib.uvarint_small (by omega)]
  rfl
theorem putT_e10 : putT [7, 7, 7] = [14, 0] := by
  rw [putT_some (by simp), show leastOf [7, 7, 7] = 7 by decide, show width [7, 7, 7] = 0 by decide, show zig 7 = 14 by decide, Lib.uvarint_small (by omega), show packB (allB 0 7 [7, 7, 7]) = [] by decide]
  rfl
theorem putC_ex1 : putC 1 [⟨false, 7, []⟩, ⟨false, 7, []⟩, ⟨false, 7, []⟩] = [2, 2, 14] := by
  have h1 : othersC [⟨false, 7, []⟩, ⟨false, 7, []⟩, ⟨false, 7, []⟩] = [⟨false, 7, []⟩, ⟨false, 7, []⟩, ⟨false, 7, []⟩] := rfl
  have e1 : wayB 1 [⟨false, 7, []⟩, ⟨false, 7, []⟩, ⟨false, 7, []⟩] = [14, 14, 14] := onesN_e10
  have e2 : wayB 2 [⟨false, 7, []⟩, ⟨false, 7, []⟩, ⟨false, 7, []⟩] = [2, 14] := putR_e10
  have e3 : wayB 3 [⟨false, 7, []⟩, ⟨false, 7, []⟩, ⟨false, 7, []⟩] = [14, 0, 0] := putD_e10
  have e4 : wayB 4 [⟨false, 7, []⟩, ⟨false, 7, []⟩, ⟨false, 7, []⟩] = [14, 0] := putT_e10
  have hs : shortC [⟨false, 7, []⟩, ⟨false, 7, []⟩, ⟨false, 7, []⟩] [1, 2, 3, 4] (0, []) = (2, [2, 14]) := by
    simp only [shortC, e1, e2, e3, e4]
    rfl
  unfold putC
  rw [h1, show waysOf 1 = [1, 2, 3, 4] from rfl, hs]
  rfl
theorem putC_ex2 : putC 1 [⟨true, 0, []⟩] = [9, 1] := by
  have hs : shortC [] [1, 2, 3, 4] (0, []) = (1, []) := by
    have e1 : wayB 1 [] = [] := rfl
    have e2 : ∀ k, (wayB k ([] : List Cl)).length < ([] : List UInt8).length ↔ False := fun k => by simp
    simp only [shortC, e1, e2]
    rfl
  unfold putC
  rw [show othersC [⟨true, 0, []⟩] = [] from rfl, show waysOf 1 = [1, 2, 3, 4] from rfl, hs]
  decide

theorem oc_lit (w : World) (B g : Nat) (l : List Cl) (cs : Array Value) (hcs : cs.toList = clsL l) (hg : g = w.heap.size) (hB : B ≤ g) (hm : l.length ≤ 1000000) : Oc (w.alloc (.cells cs 33)) B (.slice (some ⟨g, 0, none⟩) l.length l.length) l := by
  subst hg
  have h := World.ownsRow_lit (e := 33) (size := 3) w cs l.length hB (by unfold maxLen; omega) (by rw [← Array.length_toList, hcs, clsL_len])
  rw [hcs] at h
  exact h
theorem ex_may1 : ∀ c ∈ [(⟨false, 7, []⟩ : Cl), ⟨false, 7, []⟩, ⟨false, 7, []⟩], mayC 1 true c = true ∧ I64 c.num := by
  intro c hc
  simp at hc
  subst hc
  exact ⟨rfl, by unfold I64; decide⟩
theorem ex_may2 : ∀ c ∈ [(⟨true, 0, []⟩ : Cl)], mayC 1 true c = true ∧ I64 c.num := by
  intro c hc
  simp at hc
  subst hc
  exact ⟨rfl, by unfold I64; decide⟩

set_option maxHeartbeats 1000000 in
theorem chlive_any (w : World) : Calls Tryz.prog 4 #[] w fun e w' => e = .returned (.bool true) ∧ Fr Non w w' := by
  have H1 := Lib.hid (fun W : World => oc_lit W 0 _ [⟨false, 7, []⟩, ⟨false, 7, []⟩, ⟨false, 7, []⟩] #[.bool false, .int .i64 7, .string ⟨#[]⟩, .bool false, .int .i64 7, .string ⟨#[]⟩, .bool false, .int .i64 7, .string ⟨#[]⟩] rfl rfl (Nat.zero_le _) (by decide))
  have H2 := Lib.hid (fun (W : World) (g : Nat) (hg : g = W.heap.size) => oc_lit W 0 g [⟨true, 0, []⟩] #[.bool true, .int .i64 0, .string ⟨#[]⟩] rfl hg (Nat.zero_le _) (by decide))
  have H5 := Lib.hid (fun W : World => bs_row W [2, 2, 14])
  have H6 := Lib.hid (fun W : World => bs_row W [9, 1])
  have HE1 := Lib.hid putC_ex1
  have HE2 := Lib.hid putC_ex2
  go_enter Tryz.func4, Tryz.ntmps4
  go_wp2_with fail
  refine (put_cl 1 _ [⟨false, 7, []⟩, ⟨false, 7, []⟩, ⟨false, 7, []⟩] _ (H1.out _).cs ex_may1 (by decide) (by rw [HE1.out]; decide) (by rw [HE1.out]; decide)).mono ?_
  rintro e w1 ⟨u, rfl, hown, hfr⟩
  rw [HE1.out] at hown
  have hf1 := ((Fr.refl Non w).alloc _).trans hfr
  go_wp2_with fail
  refine (same_any _ _ [2, 2, 14] [2, 2, 14] _ (hown.bs.non ((Fr.refl _ _).alloc _)) (H5.out _)).mono ?_
  rintro e w2 ⟨he, rfl⟩
  rw [show (([2, 2, 14] : List UInt8) == [2, 2, 14]) = true from beq_self_eq_true _] at he
  subst he
  go_wp2_with fail
  refine (put_cl 1 _ [⟨true, 0, []⟩] _ (H2.out _ (w1.heap.size + 1) (by simp)).cs ex_may2 (by decide) (by rw [HE2.out]; decide) (by rw [HE2.out]; decide)).mono ?_
  rintro e w3 ⟨u3, rfl, hown3, hfr3⟩
  rw [HE2.out] at hown3
  have hf3 := ((hf1.alloc _).alloc _).trans hfr3
  go_wp2_with fail
  refine (same_any _ _ [9, 1] [9, 1] _ (hown3.bs.non ((Fr.refl _ _).alloc _)) (H6.out _)).mono ?_
  rintro e w4 ⟨he, rfl⟩
  rw [show (([9, 1] : List UInt8) == [9, 1]) = true from beq_self_eq_true _] at he
  subst he
  go_wp2
  go_ret
  exact ⟨rfl, hf3.alloc _⟩

end Go.Proofs.YtemfmnjhmmlmbaaGreat


namespace Go.Proofs.YtemfmnjhmmlmbaaGreat
set_option linter.unusedVariables false
set_option linter.unusedSimpArgs false
set_option maxRecDepth 100000
open Go.RowKit

theorem gec_two {w : World} {B : Nat} {o : Option (List Cl)} {e : Ending} (h : Gec w B o e) : ∃ u l ok, e = .returned (.tuple #[u, .bool ok]) ∧ Cs w u l ∧ ok = o.isSome ∧ l = o.getD [] := by
  rcases h with ⟨rfl, rfl⟩ | ⟨l, u, rfl, rfl, h⟩
  · exact ⟨_, _, _, rfl, Cs.nil_ w, rfl, rfl⟩
  · exact ⟨_, _, _, rfl, h.cs, rfl, rfl⟩
theorem first_cell {w : World} {A : Option Addr} {n c : Nat} {x : UInt8} {r : List UInt8} (h : Bs w (.slice A n c) (x :: r)) : ∃ a, A = some a ∧ w.cell? (a.add 0) = some (.int .u8 x.toNat) ∧ w.cell? a = some (.int .u8 x.toNat) := by
  obtain ⟨A0, c0, he, hlc, hn, hcell⟩ := h
  simp only [Value.slice.injEq] at he
  obtain ⟨rfl, rfl, rfl⟩ := he
  cases A with
  | none => have := hn rfl; simp at hlc; omega
  | some a =>
    have g0 : w.cell? (a.add 0) = some (bv x) := hcell a rfl 0 (by simp)
    exact ⟨a, rfl, g0, by rw [add0 a] at g0; exact g0⟩
theorem kindC_no {c : UInt8} (h : ¬ (c.toNat < 16 ∧ 1 ≤ c.toNat % 8 ∧ c.toNat % 8 ≤ 6)) : kindC c = 0 := by unfold kindC; rw [if_neg h]
theorem kindC_yes {c : UInt8} (h : c.toNat < 16 ∧ 1 ≤ c.toNat % 8 ∧ c.toNat % 8 ≤ 6) : kindC c = c.toNat % 8 := by unfold kindC; rw [if_pos h]

set_option maxHeartbeats 4000000 in
theorem chunkGets_walk (ty n : Int) (v : Value) (b : List UInt8) (w : World) (hv : Bs w v b) (hll : b.length ≤ 9223372036854775807) (hvl : ∀ q, v.ownBlock = some q → q < w.heap.size) (h1 : -9223372036854775808 ≤ n) (h2 : n ≤ 9223372036854775807) :
    Calls Tryz.prog 3 #[.int .i64 ty, v, .int .i64 n] w fun e w' => e = .returned (.bool true) ∧ Below w.heap.size w w' := by
  have HV := Lib.hid hv
  have HLv := Lib.hid (chlive_any w)
  obtain ⟨A, c, rfl⟩ := hv.shape
  clear hv
  by_cases hl : 400 < b.length
  · have d1 : decide (400 < (b.length : Int)) = true := by simp; omega
    clear hl
    go_enter Tryz.func3, Tryz.ntmps3
    go_wp2_with fail
    refine HLv.out.mono ?_
    rintro e w1 ⟨rfl, hf⟩
    go_wp2
    go_ret
    exact ⟨rfl, hf.below⟩
  · have d1 : decide (400 < (b.length : Int)) = false := by simp; omega
    by_cases hn : 400 < n
    · have d2 : decide (400 < n) = true := by simpa using hn
      clear hl hn
      go_enter Tryz.func3, Tryz.ntmps3
      go_wp2_with fail
      refine HLv.out.mono ?_
      rintro e w1 ⟨rfl, hf⟩
      go_wp2
      go_ret
      exact ⟨rfl, hf.below⟩
    · have d2 : decide (400 < n) = false := by simpa using hn
      have HG := Lib.hid (get_cl ty n _ b w HV.out (by omega))
      have HG2 := Lib.hid (fun W (hf : Fr Non w W) => rgetc_any ty n _ b W (HV.out.non hf) (fun q hq => Nat.lt_of_lt_of_le (hvl q hq) hf.size) (by omega) h1 (by omega))
      have HLen : Hid (((getC ty b n).getD []).length ≤ 9223372036854775807) := Lib.hid (by
        cases hg : getC ty b n with
        | none => simp
        | some x => have := getC_is hg; simp only [Option.getD_some]; omega)
      generalize getC ty b n = G at *
      have hbl : b.length ≤ 400 := by omega
      clear HLv hn hvl h1 h2 hl
      cases b with
      | nil =>
        have HK : Hid (kindB [] = 0) := Lib.hid rfl
        go_enter Tryz.func3, Tryz.ntmps3
        go_wp2_with fail
        refine HG.out.mono ?_
        rintro e w1 ⟨hG, hf1⟩
        obtain ⟨ua, la, oka, rfl, hca, hoka, hla⟩ := gec_two hG
        obtain ⟨Aa, ca, rfl⟩ := hca.shape
        have HF1 := Lib.hid hf1
        have HCa := Lib.hid hca
        have HLa := Lib.hid hla
        have HOa := Lib.hid hoka
        clear hG hf1 hca hla HG hoka
        go_wp2_with fail
        refine (HG2.out w1 HF1.out).mono ?_
        rintro e w2 ⟨hG, hf2⟩
        obtain ⟨ub, lb, okb, rfl, hcb, hokb, hlb⟩ := gec_two hG
        have HF2 := Lib.hid (HF1.out.trans hf2)
        have HCa2 := Lib.hid (HCa.out.non hf2)
        have HCb := Lib.hid hcb
        have HLb := Lib.hid hlb
        have hok : okb = oka := by rw [hokb, HOa.out]
        subst hok
        have hb2 := HV.out.non HF2.out
        clear hG hf2 hcb hlb HG2 HOa hokb HCa HF1
        clear hb2
        go_wp2_with fail
        refine (call_any _ ub la lb w2 HCa2.out HCb.out (by rw [HLa.out]; exact HLen.out) (by rw [HLb.out]; exact HLen.out)).mono ?_
        rintro e w3 ⟨rfl, hf3⟩
        have hdec : decide (la = lb) = true := decide_eq_true (by rw [HLa.out, HLb.out])
        have HF3 := Lib.hid (HF2.out.trans hf3)
        clear hf3
        go_wp2_with fail
        refine (kind_any _ _ w3 (HV.out.non HF3.out) (by omega)).mono ?_
        rintro e w4 ⟨rfl, rfl⟩
        rw [HK.out]
        go_wp2_with fail
        refine (chlive_any w3).mono ?_
        rintro e w5 ⟨rfl, hf5⟩
        go_wp2
        go_ret
        exact ⟨rfl, (HF3.out.trans hf5).below⟩
      | cons x r =>
        have hx256 := x.toNat_lt
        have d1' : decide (400 < (r.length : Int) + 1) = false := by simp at hbl ⊢; omega
        have d0' : decide (0 < (r.length : Int) + 1) = true := decide_eq_true (by omega)
        have hz : ((x.toNat : Int) % 8) = ((x.toNat % 8 : Nat) : Int) := by omega
        have hz2 : Int.tmod (x.toNat : Int) 8 = ((x.toNat % 8 : Nat) : Int) := by rw [Int.tmod_eq_emod_of_nonneg (by omega)]; exact hz
        by_cases h16 : x.toNat < 16
        · by_cases hz1 : 1 ≤ x.toNat % 8
          · by_cases hz6 : x.toNat % 8 ≤ 6
            · have HK : Hid (kindB (x :: r) = x.toNat % 8) := Lib.hid (kindC_yes ⟨h16, hz1, hz6⟩)
              obtain ⟨q, hq⟩ : ∃ q, x.toNat = q := ⟨_, rfl⟩
              rw [hq] at hz hz2 hx256 h16 hz1 hz6 HK
              generalize q % 8 = z at *
              have e16 : decide ((q : Int) < 16) = true := by simp; omega
              have e1 : decide (1 ≤ (z : Int)) = true := by simp; omega
              have e6 : decide ((z : Int) ≤ 6) = true := by simp; omega
              have HFc := Lib.hid (fun w2 (hb2 : Bs w2 (.slice A (x :: r).length c) (x :: r)) => first_cell hb2)
              go_enter Tryz.func3, Tryz.ntmps3
              go_wp2_with fail
              refine HG.out.mono ?_
              rintro e w1 ⟨hG, hf1⟩
              obtain ⟨ua, la, oka, rfl, hca, hoka, hla⟩ := gec_two hG
              obtain ⟨Aa, ca, rfl⟩ := hca.shape
              have HF1 := Lib.hid hf1
              have HCa := Lib.hid hca
              have HLa := Lib.hid hla
              have HOa := Lib.hid hoka
              clear hG hf1 hca hla HG hoka
              go_wp2_with fail
              refine (HG2.out w1 HF1.out).mono ?_
              rintro e w2 ⟨hG, hf2⟩
              obtain ⟨ub, lb, okb, rfl, hcb, hokb, hlb⟩ := gec_two hG
              have HF2 := Lib.hid (HF1.out.trans hf2)
              have HCa2 := Lib.hid (HCa.out.non hf2)
              have HCb := Lib.hid hcb
              have HLb := Lib.hid hlb
              have hok : okb = oka := by rw [hokb, HOa.out]
              subst hok
              have hb2 := HV.out.non HF2.out
              obtain ⟨a0, hA, g0, g1⟩ := HFc.out w2 hb2
              subst hA
              rw [hq] at g0 g1
              clear hq hb2 HFc
              clear hG hf2 hcb hlb HG2 HOa hokb HCa HF1
              go_wp2_with fail
              refine (call_any _ ub la lb w2 HCa2.out HCb.out (by rw [HLa.out]; exact HLen.out) (by rw [HLb.out]; exact HLen.out)).mono ?_
              rintro e w3 ⟨rfl, hf3⟩
              have hdec : decide (la = lb) = true := decide_eq_true (by rw [HLa.out, HLb.out])
              have HF3 := Lib.hid (HF2.out.trans hf3)
              clear hf3
              go_wp2_with fail
              refine (kind_any _ _ w3 (HV.out.non HF3.out) (by omega)).mono ?_
              rintro e w4 ⟨rfl, rfl⟩
              rw [HK.out]
              go_wp2_with fail
              refine (chlive_any w3).mono ?_
              rintro e w5 ⟨rfl, hf5⟩
              go_wp2
              go_ret
              exact ⟨rfl, (HF3.out.trans hf5).below⟩
            · have HK : Hid (kindB (x :: r) = 0) := Lib.hid (kindC_no fun h => hz6 h.2.2)
              obtain ⟨q, hq⟩ : ∃ q, x.toNat = q := ⟨_, rfl⟩
              rw [hq] at hz hz2 hx256 h16 hz1 hz6
              generalize q % 8 = z at *
              have e16 : decide ((q : Int) < 16) = true := by simp; omega
              have e1 : decide (1 ≤ (z : Int)) = true := by simp; omega
              have e6 : decide ((z : Int) ≤ 6) = false := by simp; omega
              have HFc := Lib.hid (fun w2 (hb2 : Bs w2 (.slice A (x :: r).length c) (x :: r)) => first_cell hb2)
              go_enter Tryz.func3, Tryz.ntmps3
              go_wp2_with fail
              refine HG.out.mono ?_
              rintro e w1 ⟨hG, hf1⟩
              obtain ⟨ua, la, oka, rfl, hca, hoka, hla⟩ := gec_two hG
              obtain ⟨Aa, ca, rfl⟩ := hca.shape
              have HF1 := Lib.hid hf1
              have HCa := Lib.hid hca
              have HLa := Lib.hid hla
              have HOa := Lib.hid hoka
              clear hG hf1 hca hla HG hoka
              go_wp2_with fail
              refine (HG2.out w1 HF1.out).mono ?_
              rintro e w2 ⟨hG, hf2⟩
              obtain ⟨ub, lb, okb, rfl, hcb, hokb, hlb⟩ := gec_two hG
              have HF2 := Lib.hid (HF1.out.trans hf2)
              have HCa2 := Lib.hid (HCa.out.non hf2)
              have HCb := Lib.hid hcb
              have HLb := Lib.hid hlb
              have hok : okb = oka := by rw [hokb, HOa.out]
              subst hok
              have hb2 := HV.out.non HF2.out
              obtain ⟨a0, hA, g0, g1⟩ := HFc.out w2 hb2
              subst hA
              rw [hq] at g0 g1
              clear hq hb2 HFc
              clear hG hf2 hcb hlb HG2 HOa hokb HCa HF1
              go_wp2_with fail
              refine (call_any _ ub la lb w2 HCa2.out HCb.out (by rw [HLa.out]; exact HLen.out) (by rw [HLb.out]; exact HLen.out)).mono ?_
              rintro e w3 ⟨rfl, hf3⟩
              have hdec : decide (la = lb) = true := decide_eq_true (by rw [HLa.out, HLb.out])
              have HF3 := Lib.hid (HF2.out.trans hf3)
              clear hf3
              go_wp2_with fail
              refine (kind_any _ _ w3 (HV.out.non HF3.out) (by omega)).mono ?_
              rintro e w4 ⟨rfl, rfl⟩
              rw [HK.out]
              go_wp2_with fail
              refine (chlive_any w3).mono ?_
              rintro e w5 ⟨rfl, hf5⟩
              go_wp2
              go_ret
              exact ⟨rfl, (HF3.out.trans hf5).below⟩
          · have HK : Hid (kindB (x :: r) = 0) := Lib.hid (kindC_no fun h => hz1 h.2.1)
            obtain ⟨q, hq⟩ : ∃ q, x.toNat = q := ⟨_, rfl⟩
            rw [hq] at hz hz2 hx256 h16 hz1
            generalize q % 8 = z at *
            have e16 : decide ((q : Int) < 16) = true := by simp; omega
            have e1 : decide (1 ≤ (z : Int)) = false := by simp; omega
            have HFc := Lib.hid (fun w2 (hb2 : Bs w2 (.slice A (x :: r).length c) (x :: r)) => first_cell hb2)
            go_enter Tryz.func3, Tryz.ntmps3
            go_wp2_with fail
            refine HG.out.mono ?_
            rintro e w1 ⟨hG, hf1⟩
            obtain ⟨ua, la, oka, rfl, hca, hoka, hla⟩ := gec_two hG
            obtain ⟨Aa, ca, rfl⟩ := hca.shape
            have HF1 := Lib.hid hf1
            have HCa := Lib.hid hca
            have HLa := Lib.hid hla
            have HOa := Lib.hid hoka
            clear hG hf1 hca hla HG hoka
            go_wp2_with fail
            refine (HG2.out w1 HF1.out).mono ?_
            rintro e w2 ⟨hG, hf2⟩
            obtain ⟨ub, lb, okb, rfl, hcb, hokb, hlb⟩ := gec_two hG
            have HF2 := Lib.hid (HF1.out.trans hf2)
            have HCa2 := Lib.hid (HCa.out.non hf2)
            have HCb := Lib.hid hcb
            have HLb := Lib.hid hlb
            have hok : okb = oka := by rw [hokb, HOa.out]
            subst hok
            have hb2 := HV.out.non HF2.out
            obtain ⟨a0, hA, g0, g1⟩ := HFc.out w2 hb2
            subst hA
            rw [hq] at g0 g1
            clear hq hb2 HFc
            clear hG hf2 hcb hlb HG2 HOa hokb HCa HF1
            go_wp2_with fail
            refine (call_any _ ub la lb w2 HCa2.out HCb.out (by rw [HLa.out]; exact HLen.out) (by rw [HLb.out]; exact HLen.out)).mono ?_
            rintro e w3 ⟨rfl, hf3⟩
            have hdec : decide (la = lb) = true := decide_eq_true (by rw [HLa.out, HLb.out])
            have HF3 := Lib.hid (HF2.out.trans hf3)
            clear hf3
            go_wp2_with fail
            refine (kind_any _ _ w3 (HV.out.non HF3.out) (by omega)).mono ?_
            rintro e w4 ⟨rfl, rfl⟩
            rw [HK.out]
            go_wp2_with fail
            refine (chlive_any w3).mono ?_
            rintro e w5 ⟨rfl, hf5⟩
            go_wp2
            go_ret
            exact ⟨rfl, (HF3.out.trans hf5).below⟩
        · have HK : Hid (kindB (x :: r) = 0) := Lib.hid (kindC_no fun h => h16 h.1)
          obtain ⟨q, hq⟩ : ∃ q, x.toNat = q := ⟨_, rfl⟩
          rw [hq] at hz hz2 hx256 h16
          have e16 : decide ((q : Int) < 16) = false := by simp; omega
          have HFc := Lib.hid (fun w2 (hb2 : Bs w2 (.slice A (x :: r).length c) (x :: r)) => first_cell hb2)
          go_enter Tryz.func3, Tryz.ntmps3
          go_wp2_with fail
          refine HG.out.mono ?_
          rintro e w1 ⟨hG, hf1⟩
          obtain ⟨ua, la, oka, rfl, hca, hoka, hla⟩ := gec_two hG
          obtain ⟨Aa, ca, rfl⟩ := hca.shape
          have HF1 := Lib.hid hf1
          have HCa := Lib.hid hca
          have HLa := Lib.hid hla
          have HOa := Lib.hid hoka
          clear hG hf1 hca hla HG hoka
          go_wp2_with fail
          refine (HG2.out w1 HF1.out).mono ?_
          rintro e w2 ⟨hG, hf2⟩
          obtain ⟨ub, lb, okb, rfl, hcb, hokb, hlb⟩ := gec_two hG
          have HF2 := Lib.hid (HF1.out.trans hf2)
          have HCa2 := Lib.hid (HCa.out.non hf2)
          have HCb := Lib.hid hcb
          have HLb := Lib.hid hlb
          have hok : okb = oka := by rw [hokb, HOa.out]
          subst hok
          have hb2 := HV.out.non HF2.out
          obtain ⟨a0, hA, g0, g1⟩ := HFc.out w2 hb2
          subst hA
          rw [hq] at g0 g1
          clear hq hb2 HFc
          clear hG hf2 hcb hlb HG2 HOa hokb HCa HF1
          go_wp2_with fail
          refine (call_any _ ub la lb w2 HCa2.out HCb.out (by rw [HLa.out]; exact HLen.out) (by rw [HLb.out]; exact HLen.out)).mono ?_
          rintro e w3 ⟨rfl, hf3⟩
          have hdec : decide (la = lb) = true := decide_eq_true (by rw [HLa.out, HLb.out])
          have HF3 := Lib.hid (HF2.out.trans hf3)
          clear hf3
          go_wp2_with fail
          refine (kind_any _ _ w3 (HV.out.non HF3.out) (by omega)).mono ?_
          rintro e w4 ⟨rfl, rfl⟩
          rw [HK.out]
          go_wp2_with fail
          refine (chlive_any w3).mono ?_
          rintro e w5 ⟨rfl, hf5⟩
          go_wp2
          go_ret
          exact ⟨rfl, (HF3.out.trans hf5).below⟩
end Go.Proofs.YtemfmnjhmmlmbaaGreat
