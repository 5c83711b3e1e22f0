/-
  Layer 7: the walk of tight.Get.
-/
import Derived.Test.YtdniififoahlaaaTight4
namespace Go.Proofs.Ytdniififoahlaaa
set_option linter.unusedVariables false
set_option linter.unusedSimpArgs false
open Go.RowKit

theorem getM_low {b : List UInt8} {n : Int} (h : n < 0) : getM b n = none := by unfold getM; rw [if_pos (by omega), getZ_neg h]
theorem getM_big {b : List UInt8} {n : Int} (h : 4096 < n) : getM b n = none := by unfold getM; rw [if_neg (by omega)]
theorem getM_pos {b : List UInt8} {n : Nat} (h : 0 < n) (h2 : n ≤ 4096) : getM b n = getT b n := by unfold getM; rw [if_pos (by omega), getZ_pos h]

/-- a slice that has an element lies in a block that is there -/
theorem vs_lt {α : Type} {f : α → Value} {w : World} {v : Value} {l : List α} (h : Vs f w v l) (h0 : 0 < l.length) : ∀ q, v.ownBlock = some q → q < w.heap.size := by
  obtain ⟨A, c, rfl⟩ := h.shape
  obtain ⟨a, rfl, _, _, hc⟩ := h.addr h0
  intro q hq
  have := World.block_lt_of_cell? w _ (hc 0 h0)
  rw [add_block] at this
  simp [Value.ownBlock] at hq
  omega
/-- one that has none reads the same in every world -/
theorem vs_keep0 {α : Type} {f : α → Value} {w w' : World} {v : Value} {l : List α} (h : Vs f w v l) (hk : 0 < l.length → ∀ k, v.ownBlock = some k → k < w.heap.size → w'.heap[k]? = w.heap[k]?) : Vs f w' v l := by
  by_cases h0 : 0 < l.length
  · exact h.keep (hk h0)
  · obtain ⟨A, c, rfl, h1, h2, h3⟩ := h
    exact ⟨A, c, rfl, h1, h2, fun a ha j hj => absurd hj (by omega)⟩

set_option maxHeartbeats 4000000 in
theorem tget_any (v : Value) (b : List UInt8) (n : Int) (w : World) (hv : Bs w v b) (hl : b.length ≤ 100000000) (h1 : -9223372036854775808 ≤ n) (h2 : n ≤ 9223372036854775807) :
    Calls Try.prog 28 #[v, .int .i64 n] w fun e w' => Gtn w' w.heap.size (getM b n) e ∧ Fr Non w w' := by
  have HV := Lib.hid hv
  obtain ⟨A, c, rfl, _⟩ := hv
  by_cases hn0 : n < 0
  · have hd : decide (n ≤ 0) = true := by simp; omega
    have hz : (n == 0) = false := by rw [beq_eq_false_iff_ne]; omega
    have HG := Lib.hid (getM_low (b := b) hn0)
    clear hn0
    go_enter Try.func28, Try.ntmps28
    go_wp2
    go_ret2
    exact ⟨gtn_no HG.out, Fr.refl _ _⟩
  · by_cases hn4 : 4096 < n
    · have hd : decide (n ≤ 0) = false := by simp; omega
      have hd4 : decide (4096 < n) = true := by simpa using hn4
      have hz : (n == 0) = false := by rw [beq_eq_false_iff_ne]; omega
      have HG := Lib.hid (getM_big (b := b) hn4)
      clear hn0 hn4
      go_enter Try.func28, Try.ntmps28
      go_wp2
      go_ret2
      exact ⟨gtn_no HG.out, Fr.refl _ _⟩
    · obtain ⟨m, rfl⟩ := Int.eq_ofNat_of_zero_le (show 0 ≤ n by omega)
      have hm4 : m ≤ 4096 := by omega
      clear h1 h2 hn0 hn4
      by_cases hm0 : m = 0
      · subst hm0
        cases b with
        | nil =>
          have HG : Hid (getM [] ((0 : Nat) : Int) = some []) := Lib.hid rfl
          go_enter Try.func28, Try.ntmps28
          go_wp2
          go_ret2
          exact ⟨gtn_yes HG.out (ow_nil _ _), Fr.refl _ _⟩
        | cons b0 b1 =>
          have HG : Hid (getM (b0 :: b1) ((0 : Nat) : Int) = none) := Lib.hid rfl
          have hb : ((((b0 :: b1).length : Nat) : Int) == 0) = false := by rw [beq_eq_false_iff_ne]; simp; omega
          generalize b0 :: b1 = b at *
          go_enter Try.func28, Try.ntmps28
          go_wp2
          go_ret2
          exact ⟨gtn_no HG.out, Fr.refl _ _⟩
      · have hpos : 0 < m := by omega
        have hd : decide ((m : Int) ≤ 0) = false := by simp; omega
        have hd4 : decide (4096 < (m : Int)) = false := by simp; omega
        have HG := Lib.hid (getM_pos (b := b) hpos hm4)
        clear hm0
        cases hp : parse b with
        | none =>
          have HR := Lib.hid (HG.out.trans (getT_none hp))
          have ho := topen_none _ b m w HV.out hm4 hp
          clear hp
          go_enter Try.func28, Try.ntmps28
          go_wp2_with fail
          refine ho.mono ?_
          rintro e w1 ⟨rfl, f1⟩
          unfold noPack
          go_wp2
          go_ret2
          exact ⟨gtn_no HR.out, f1.alloc _⟩
        | some y =>
          obtain ⟨lo, k, r⟩ := y
          have ho := topen_some _ b m lo k r w HV.out hm4 hl hp
          by_cases hlen : r.length = need (m * k)
          · rw [decide_eq_true hlen] at ho
            have HP := Lib.hid hp
            have HL := Lib.hid hlen
            clear hp hlen
            go_enter Try.func28, Try.ntmps28
            go_wp2_with fail
            refine ho.mono ?_
            rintro e w1 ⟨u, rfl, hb1, hn1, hk8, hrb, f1⟩
            obtain ⟨A1, c1, rfl⟩ := hb1.shape
            have hP2 : Blk (w1.alloc (.cells #[.slice A1 r.length c1, .int .i64 0, .int .i64 lo, .int .i64 (k : Nat)] 66)) w1.heap.size 66 #[.slice A1 r.length c1, .int .i64 0, .int .i64 lo, .int .i64 (k : Nat)] := Blk.new _ _ _
            have f2 : Fr Non w (w1.alloc (.cells #[.slice A1 r.length c1, .int .i64 0, .int .i64 lo, .int .i64 (k : Nat)] 66)) := f1.alloc _
            have hb2 := hb1.non ((Fr.refl Non w1).alloc (.cells #[.slice A1 r.length c1, .int .i64 0, .int .i64 lo, .int .i64 (k : Nat)] 66))
            have hz2 : (w1.alloc (.cells #[.slice A1 r.length c1, .int .i64 0, .int .i64 lo, .int .i64 (k : Nat)] 66)).heap.size = w1.heap.size + 1 := by simp
            have hu1 : 0 < r.length → ∀ q, (Value.slice A1 r.length c1).ownBlock = some q → q < w1.heap.size := fun hr0 => vs_lt hb1.vs hr0
            have hw1 := f1.size
            clear hb1 f1
            go_wp2_with (at_make; refine wpList_mkfullG el_i64 (f := iv) (0 : Int) rfl rfl _ _ rfl _ _ _ _ m rfl rfl rfl rfl (by omega) ?_; intro w3 hown3 hf3; rw [hz2] at hown3 ⊢)
            have hP3 := hP2.fr hf3 (fun e => e)
            have hb3 := hb2.vs.non hf3
            have f3 := f2.trans hf3
            have hs3 := hf3.size
            have hN9 : r.length ≤ 100000000 := by omega
            have hN8 : m * k ≤ 8 * r.length := by rw [HL.out]; unfold need; omega
            generalize hPP : w1.heap.size = P at *
            rw [← partT_zero r lo k m] at hown3
            rw [hz2] at hs3
            have hPw : w.heap.size ≤ P := hw1
            clear hP2 hb2 f2 hz2 hf3
            go_loopw [35] (fun i wr => ∃ j : Nat, j ≤ m ∧ i = .int .i64 j ∧ Blk wr P 66 #[.slice A1 r.length c1, .int .i64 (j * k : Nat), .int .i64 lo, .int .i64 (k : Nat)] ∧ Ow iv 2 wr (P + 1) (.slice (some ⟨P + 1, 0, none⟩) m m) (partT r lo k m j) ∧ Vs bv wr (.slice A1 r.length c1) r ∧ Fr Non w wr) (fun i _ => m - (intOf i).toNat)
            case atStart => exact ⟨0, Nat.zero_le _, rfl, by rw [Nat.zero_mul]; exact hP3, hown3, hb3, f3⟩
            case round =>
              clear hP3 hown3 hb3 f3
              obtain ⟨j, hj, rfl, hP, hown, hb, hfr⟩ := hrel
              by_cases hlt : j < m
              · have hpl : j * k + k ≤ 8 * r.length := by
                  have h1 := Nat.mul_le_mul_right k (show j + 1 ≤ m by omega)
                  rw [Nat.add_mul, Nat.one_mul] at h1
                  omega
                have hT := stell_any P (j * k) k _ r lo wr hP hb (fun h0 q hq e => by have := hu1 h0 q hq; omega) hpl hN9 hk8
                have HST := Lib.hid (partT_step r lo k m j hlt)
                have hx0 := hown.cell (partT_length _ _ _ _ _).symm j ((partT r lo k m j)[j]'(by rw [partT_length]; exact hlt)) (by simp [partT_length, hlt])
                have hz0 := hown.frozen (partT_length _ _ _ _ _).symm j
                have hgr := hP.lt
                have hql := (hown.lt (P + 1) rfl).2
                have HO := Lib.hid hown
                have HB := Lib.hid hb
                have HF := Lib.hid hfr
                unfold iv at hx0
                generalize (partT r lo k m j)[j]'(by rw [partT_length]; exact hlt) = x0 at *
                generalize w6 (lo + (numT r (j * k) k : Nat)) = x at *
                clear hP hown hb hfr
                go_wp2_with fail
                refine hT.mono ?_
                rintro e w5 ⟨rfl, hP5, hf5⟩
                have hx5 := (hf5.cell (p := ⟨P + 1, j, none⟩) hql (fun e => by have : P + 1 = P := e; omega)).trans hx0
                have hown5 := HO.out.fr hf5 (fun q hq e => by simp [Value.ownBlock] at hq; have : q = P := e; omega)
                have hz5 := hown5.frozen (partT_length _ _ _ _ _).symm j
                have hs5 := hf5.size
                have hb5 := vs_keep0 HB.out (w' := w5) (fun h0 q hq hqs => hf5.block q hqs (fun e => by have := hu1 h0 q hq; have : q = P := e; omega))
                have hf5n := HF.out.fresh hf5 (fun q hq => by have : q = P := hq; omega)
                have HP5 := Lib.hid hP5
                have HO5 := Lib.hid hown5
                have HB5 := Lib.hid hb5
                have HF5 := Lib.hid hf5n
                clear hT hP5 hown5 hb5 hf5n hf5 hx0 hz0
                go_wp2
                go_roundw
                case rel =>
                  have hFs := (Fr.refl (One (P + 1)) w5).set1 j (.int .i64 x)
                  refine ⟨j + 1, by omega, by go_num, ?_, ?_, ?_, ?_⟩
                  · have := HP5.out.fr hFs (fun e => by have : P = P + 1 := e; omega)
                    rwa [show j * k + k = (j + 1) * k by rw [Nat.add_mul, Nat.one_mul]] at this
                  · rw [HST.out]
                    exact HO5.out.store (partT_length _ _ _ _ _).symm j x
                  · exact vs_keep0 HB5.out (fun h0 q hq hqs => hFs.block q hqs (fun e => by have := hu1 h0 q hq; have : q = P + 1 := e; omega))
                  · exact HF5.out.fresh hFs (fun q hq => by have : q = P + 1 := hq; omega)
                case measure => simp [intOf]; omega
              · obtain rfl : j = m := by omega
                rw [partT_all] at hown
                have HRl := Lib.hid (readT_length r lo k j)
                have HP0 := Lib.hid (tput_any _ (readT r lo k j) wr hown.vs (readT_i64 _ _ _ _) (by rw [HRl.out]; omega))
                have HO := Lib.hid (hown.mono (B' := w.heap.size) (by omega))
                have HF := Lib.hid hfr
                clear hP hown hb hfr
                by_cases he : putT (readT r lo k j) = b
                · have HR := Lib.hid (HG.out.trans (getT_yes HP.out HL.out he))
                  have hbb : (putT (readT r lo k j) == b) = true := by simp [he]
                  clear he
                  go_wp2_with fail
                  refine HP0.out.mono ?_
                  rintro e w6 ⟨u6, rfl, hown6, hf6⟩
                  go_wp2_with fail
                  refine (equal_any _ _ _ b w6 hown6.bs (HV.out.non (HF.out.trans hf6))).mono ?_
                  rintro e w7 ⟨rfl, rfl⟩
                  go_wp2
                  go_ret2
                  exact ⟨gtn_yes HR.out (HO.out.non hf6), HF.out.trans hf6⟩
                · have HR := Lib.hid (HG.out.trans (getT_ne HP.out he))
                  have hbb : (putT (readT r lo k j) == b) = false := by simp [he]
                  clear he
                  go_wp2_with fail
                  refine HP0.out.mono ?_
                  rintro e w6 ⟨u6, rfl, hown6, hf6⟩
                  go_wp2_with fail
                  refine (equal_any _ _ _ b w6 hown6.bs (HV.out.non (HF.out.trans hf6))).mono ?_
                  rintro e w7 ⟨rfl, rfl⟩
                  go_wp2
                  go_ret2
                  exact ⟨gtn_no HR.out, HF.out.trans hf6⟩
          · rw [decide_eq_false hlen] at ho
            have HR := Lib.hid (HG.out.trans (getT_len hp hlen))
            clear hp hlen
            go_enter Try.func28, Try.ntmps28
            go_wp2_with fail
            refine ho.mono ?_
            rintro e w1 ⟨u, rfl, hb1, hn1, hk8, hrb, f1⟩
            obtain ⟨A1, c1, rfl⟩ := hb1.shape
            clear hb1 hn1
            go_wp2
            go_ret2
            exact ⟨gtn_no HR.out, f1.alloc _⟩
end Go.Proofs.Ytdniififoahlaaa
