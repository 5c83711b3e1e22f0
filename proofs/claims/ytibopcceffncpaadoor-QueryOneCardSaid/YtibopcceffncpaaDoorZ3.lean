/-
  Joined: Layer 17: the text of a predicate, the program's. · Layer 17: the text of a predicate, the program's, op by op. · Layer 17: the columns of a predicate, both programs'. · Layer 18: which queries there may be, the program's.
-/
import Derived.Laws.StructEq
import Derived.Laws.Rows
import Derived.Laws.ResultCell
import Derived.Lib.Zigzag
import Derived.Lib.DecodeN
import Derived.Laws.RangeAny
import Derived.Laws.Cover4
import Derived.Laws.Cover1
import Derived.Deep.QuietTactic
import Derived.BigQuiet
import Derived.Deep.RegionHeld3
import Derived.Deep.DrawnRows
import Derived.Lib.SmallJoins
import Derived.Lib.AppendIntMem
import Derived.Test.YtibopcceffncpaaDoorZ2
import Derived.Test.YtibopcceffncpaaDoorZ1

namespace Go.Proofs.YtibopcceffncpaaDoor
set_option linter.unusedVariables false
set_option linter.unusedSimpArgs false
set_option maxRecDepth 100000
open Go.RowKit

set_option maxHeartbeats 2000000 in
theorem pidxi_any (v : Value) (l : List Int) (x : Int) (w : World) (hv : Vs iv w v l) (hl : l.length ≤ 1000) :
    Calls Tryd.prog 82 #[v, .int .i64 x] w fun e w' => ∃ z : Int, e = .returned (.int .i64 z) ∧ decide (0 ≤ z) = decide (x ∈ l) ∧ Fr Non w w' := by
  obtain ⟨A, c, rfl, hlc, hn, hcell⟩ := hv
  have HC := Lib.hid hcell
  have HN := Lib.hid hn
  clear hcell hn
  go_enter Tryd.func82, Tryd.ntmps82
  go_wp2
  go_loopw [8] (fun i wr => ∃ (k : Nat), k ≤ l.length ∧ i = .int .i64 k ∧ Hid (∀ j (h : j < l.length), j < k → l[j] ≠ x) ∧ Hid (Fr Non w wr)) (fun i _ => l.length - (intOf i).toNat)
  case atStart => exact ⟨0, Nat.zero_le _, rfl, Lib.hid (fun _ _ h => by omega), Lib.hid (Fr.refl _ _)⟩
  case round =>
    obtain ⟨k, hk, rfl, HT, FR⟩ := hrel
    by_cases hlt : k < l.length
    · cases A with
      | none => have := HN.out rfl; omega
      | some a =>
        have c0 := (FR.out.cell (World.block_lt_of_cell? _ _ (HC.out a rfl k hlt)) (fun e => e)).trans (HC.out a rfl k hlt)
        unfold iv at c0
        have HX : Hid (l[k] = x → x ∈ l) := Lib.hid (fun e => by rw [← e]; exact List.getElem_mem hlt)
        have HY : Hid (l[k] ≠ x → ∀ j (h : j < l.length), j < k + 1 → l[j] ≠ x) := Lib.hid (fun e j hj hjk => by
          by_cases ee : j = k
          · subst ee; exact e
          · exact HT.out j hj (by omega))
        clear HT
        generalize l[k] = y at *
        by_cases he : y = x
        · have hb : (x == y) = true := by rw [beq_iff_eq]; exact he.symm
          have HE := Lib.hid (HX.out he)
          subst he
          clear HX HY hb
          go_wp2
          go_ret
          exact ⟨_, rfl, by rw [decide_eq_true HE.out]; exact decide_eq_true (by omega), FR.out⟩
        · have hb : (x == y) = false := by rw [beq_eq_false_iff_ne]; exact fun e => he e.symm
          have hb2 : (y == x) = false := by rw [beq_eq_false_iff_ne]; exact he
          have HE := Lib.hid (HY.out he)
          clear HX HY he
          go_wp2
          go_roundw
          case rel => exact ⟨k + 1, by omega, by go_num, HE, FR⟩
          case measure => simp [intOf]; omega
    · have HE : Hid (¬ x ∈ l) := Lib.hid (fun hx => by
        obtain ⟨j, hj, e⟩ := List.mem_iff_getElem.1 hx
        exact HT.out j hj (by omega) e)
      clear HT
      go_wp2
      go_ret
      exact ⟨_, rfl, by rw [decide_eq_false HE.out]; rfl, FR.out⟩
theorem pconti_any (v : Value) (l : List Int) (x : Int) (w : World) (hv : Vs iv w v l) (hl : l.length ≤ 1000) :
    Calls Tryd.prog 73 #[v, .int .i64 x] w fun e w' => e = .returned (.bool (decide (x ∈ l))) ∧ Fr Non w w' := by
  have h0 := Lib.hid (pidxi_any v l x w hv hl)
  obtain ⟨A, c, rfl⟩ := hv.shape
  clear hv
  go_enter Tryd.func73, Tryd.ntmps73
  go_wp2_with fail
  refine h0.out.mono ?_
  rintro e w1 ⟨z, rfl, hz, f1⟩
  go_wp2
  go_ret
  exact ⟨rfl, f1⟩

theorem strE {l m : Tx} (h : l = m) : Ending.returned (.string ⟨l.toArray⟩) = Ending.returned (.string ⟨m.toArray⟩) := by rw [h]
theorem brk_in {ops : List Int} {h : Ph} {ks : List Pd} (e : h.op ∈ ops) : brkP ops (.mk h ks) = [40] ++ textP (.mk h ks) ++ [41] := by unfold brkP brk; rw [if_pos (show (Pd.mk h ks).hd.op ∈ ops from e)]; rfl
theorem brk_out {ops : List Int} {h : Ph} {ks : List Pd} (e : ¬ h.op ∈ ops) : brkP ops (.mk h ks) = textP (.mk h ks) := by unfold brkP brk; rw [if_neg (show ¬ (Pd.mk h ks).hd.op ∈ ops from e)]
set_option maxHeartbeats 2000000 in
theorem pbrk_any (h : Ph) (s : Kv) (ks : List Pd) (ops : List Int) (v : Value) (w : World) (hv : Vs iv w v ops) (ho : ops.length ≤ 10) (hT : (textP (.mk h ks)).length ≤ 100000)
    (C : Hid (∀ W, Fr Non w W → Calls Tryd.prog 37 #[pdV h s] W fun e w' => e = .returned (.string ⟨(textP (.mk h ks)).toArray⟩) ∧ Fr Non W w')) :
    Calls Tryd.prog 58 #[pdV h s, v] w fun e w' => e = .returned (.string ⟨(brkP ops (.mk h ks)).toArray⟩) ∧ Fr Non w w' := by
  have F0 : Fr Non w (w.alloc (.cells (pdC h s) 27)) := (Fr.refl Non w).alloc _
  have C1 := Lib.hid (pconti_any v ops h.op _ (hv.non F0) (by omega))
  have PB := Lib.hid (pd_new w _ h s rfl)
  have HI := Lib.hid (fun e => brk_in (ops := ops) (h := h) (ks := ks) e)
  have HO := Lib.hid (fun e => brk_out (ops := ops) (h := h) (ks := ks) e)
  obtain ⟨vA, vc, hve⟩ := hv.shape
  have F0 := Lib.hid F0
  generalize brkP ops (.mk h ks) = r at *
  generalize textP (.mk h ks) = tx at *
  have q1 := fun W => sadd [40] tx (by simp; omega) W
  have q2 := fun W => sadd ([40] ++ tx) [41] (by simp; omega) W
  clear hv
  obtain ⟨op, hc, hm, ⟨vn, vi, vt⟩, hkd, hp⟩ := h
  obtain ⟨A, nn, c⟩ := s
  subst hve
  unfold pdV pdC kidV at *
  dsimp only at *
  by_cases hi : op ∈ ops
  · have HE := Lib.hid (HI.out hi)
    simp only [decide_eq_true hi] at C1
    clear HI HO hi
    go_enter Tryd.func58, Tryd.ntmps58
    go_wp2_with fail
    refine C1.out.mono ?_
    rintro e w1 ⟨rfl, f1⟩
    obtain ⟨g0, g1, g2, g3, g4, g5, g6, g7, g8⟩ := pdB_cells (PB.out.fr f1 (fun e => e))
    dsimp only at g0 g1 g2 g3 g4 g5 g6 g7 g8
    have F1 := Lib.hid (F0.out.trans f1)
    clear f1
    go_wp2_with fail
    refine (C.out _ F1.out).mono ?_
    rintro e w2 ⟨rfl, f2⟩
    go_wp2
    go_ret
    exact ⟨by rw [HE.out]; rfl, F1.out.trans f2⟩
  · have HE := Lib.hid (HO.out hi)
    simp only [decide_eq_false hi] at C1
    clear HI HO hi
    go_enter Tryd.func58, Tryd.ntmps58
    go_wp2_with fail
    refine C1.out.mono ?_
    rintro e w1 ⟨rfl, f1⟩
    obtain ⟨g0, g1, g2, g3, g4, g5, g6, g7, g8⟩ := pdB_cells (PB.out.fr f1 (fun e => e))
    dsimp only at g0 g1 g2 g3 g4 g5 g6 g7 g8
    have F1 := Lib.hid (F0.out.trans f1)
    clear f1
    go_wp2_with fail
    refine (C.out _ F1.out).mono ?_
    rintro e w2 ⟨rfl, f2⟩
    go_wp2
    go_ret
    exact ⟨by rw [HE.out]; rfl, F1.out.trans f2⟩

theorem brkT_more (ops : List Int) {ks : List Pd} {k : Nat} (h : k < ks.length) : (ks.take (k + 1)).map (brkP ops) = (ks.take k).map (brkP ops) ++ [brkP ops ks[k]] := by
  rw [List.take_succ_eq_append_getElem h, List.map_append]; rfl
set_option maxHeartbeats 4000000 in
theorem pjoined_any (s : Kv) (ks : List Pd) (between : Tx) (ops : List Int) (v : Value) (w : World) (hW : Lp w) (hk : Kd w s ks) (hv : Vs iv w v ops) (ho : ops.length ≤ 10) (hl : ks.length ≤ 20)
    (hJ : (Lib.join (ks.map (brkP ops)) between).length ≤ 100000) (hT : ∀ k (h : k < ks.length), (textP ks[k]).length ≤ 100000)
    (C : Hid (∀ k (h : k < ks.length) W t', Lp W → Kd W t' ks[k].kids → Calls Tryd.prog 37 #[pdV ks[k].hd t'] W fun e w' => e = .returned (.string ⟨(textP ks[k]).toArray⟩) ∧ Fr Non W w')) :
    Calls Tryd.prog 59 #[kidV s, .string ⟨between.toArray⟩, v] w fun e w' => e = .returned (.string ⟨(Lib.join (ks.map (brkP ops)) between).toArray⟩) ∧ Fr Non w w' := by
  have hn := hk.len
  have HK := Lib.hid hk
  have HV := Lib.hid hv
  have HW := Lib.hid hW
  have HT := Lib.hid hT
  have HJ := Lib.hid hJ
  obtain ⟨vA, vc, hve⟩ := hv.shape
  clear hk hv hW hT hJ
  obtain ⟨A, n, c⟩ := s
  dsimp only at hn
  have hn20 : n ≤ 20 := by omega
  have HL := Lib.hid hn
  clear hn
  unfold kidV
  dsimp only
  subst hve
  have HO0 : Hid (Ow sv 9 w w.heap.size (.slice none 0 0) ((ks.take 0).map (brkP ops))) := Lib.hid (ow_nil _ _)
  have hgg := Nat.le_refl w.heap.size
  go_enter Tryd.func59, Tryd.ntmps59
  go_wp2
  go_loopw [7, 12] (fun u i wr => ∃ k : Nat, k ≤ n ∧ i = .int .i64 k ∧ Hid (Ow sv 9 wr w.heap.size u ((ks.take k).map (brkP ops))) ∧ Hid (Fr Non w wr)) (fun _ i _ => n - (intOf i).toNat)
  case atStart => exact ⟨0, Nat.zero_le _, rfl, HO0, Lib.hid (Fr.refl _ _)⟩
  case round =>
    clear HO0
    rename_i u i wr
    obtain ⟨k, hk, rfl, HO, FR⟩ := hrel
    obtain ⟨uA, uc, hue⟩ := HO.out.shape
    have hlk : ((ks.take k).map (brkP ops)).length = k := by have := HL.out; rw [List.length_map, List.length_take]; omega
    rw [hlk] at hue
    subst hue
    by_cases hlt : k < n
    · have hlt2 : k < ks.length := by have := HL.out; omega
      obtain ⟨a, t, hA, hc2, hkk, _⟩ := HK.out.elN FR.out k hlt2
      dsimp only at hA
      subst hA
      have ht := HT.out k hlt2
      have HC : Hid (∀ W, Fr Non wr W → Calls Tryd.prog 37 #[pdV ks[k].hd t] W fun e w' => e = .returned (.string ⟨(textP ks[k]).toArray⟩) ∧ Fr Non W w') := Lib.hid (fun W hf => C.out k hlt2 W t (HW.out.non (FR.out.trans hf)) (hkk.non (FR.out.trans hf)))
      have HY := Lib.hid (brkT_more ops hlt2)
      obtain ⟨c0, c1, c2, c3, c4, c5, c6, c7, c8⟩ := hc2
      clear hkk
      generalize ks[k] = p at *
      obtain ⟨x, ps⟩ := p
      dsimp only [Pd.hd] at c0 c1 c2 c3 c4 c5 c6 c7 c8 HC
      have G1 := Lib.hid ((Fr.refl Non wr).alloc (.cells (pdC x t) 27))
      have HB : Hid (Calls _ _ _ _ _) := Lib.hid (pbrk_any x t ps ops (.slice vA ops.length vc) _ ((HV.out.non FR.out).non G1.out) ho ht (Lib.hid (fun W hf => HC.out W (G1.out.trans hf))))
      clear HC ht
      generalize brkP ops (.mk x ps) = y at *
      generalize (ks.take k).map (brkP ops) = tl at *
      have HLK := Lib.hid hlk
      clear hlk
      obtain ⟨xo, xc, xm, ⟨xn, xi, xt⟩, xk, xp⟩ := x
      obtain ⟨tA, tn, tc⟩ := t
      unfold pdV pdC kidV at HB
      unfold pdC kidV at G1
      dsimp only at HB G1 c0 c1 c2 c3 c4 c5 c6 c7 c8
      go_wp2_with fail
      refine HB.out.mono ?_
      rintro e w2 ⟨rfl, f2⟩
      have F2 := Lib.hid (FR.out.trans (G1.out.trans f2))
      have hO2 := Lib.hid ((HO.out.non G1.out).non f2)
      have hsz : w.heap.size ≤ w2.heap.size := F2.out.size
      clear f2 HB
      go_wp2_with (at_builtin; refine wpList_pushG el_str sv_one rfl (.tmp 16) (.tmp 20) rfl w.heap.size _ tl rfl hO2.out _ y rfl rfl (by have := HLK.out; omega) hsz ?_; intro v3 w3 hown3 hfr3)
      have HO3 := Lib.hid hown3
      have F3 : Hid (Fr Non w w3) := Lib.hid (F2.out.fresh hfr3 (fun q hq => (hO2.out.lt q hq).1))
      clear hown3 hfr3
      go_roundw
      case rel => exact ⟨k + 1, by omega, by go_num, by rw [HY.out]; exact HO3, F3⟩
      case measure => simp [intOf]; omega
    · have hkn : ks.take k = ks := List.take_of_length_le (by have := HL.out; omega)
      rw [hkn] at HO
      have HJ1 := Lib.hid (pjoin_any _ _ between w.heap.size wr HO.out (by have := HJ.out; omega) (by rw [List.length_map]; have := HL.out; omega))
      clear hlk
      go_wp2_with fail
      refine HJ1.out.mono ?_
      rintro e w2 ⟨rfl, f2⟩
      go_wp2
      go_ret
      exact ⟨rfl, FR.out.trans f2⟩

/-! ### The text -/
theorem tx_is (h : Ph) (ks : List Pd) : textP (.mk h ks) = textH h (textL ks) := by rw [textP]
theorem tx_2 {h : Ph} {ks : List Pd} (e : h.op = 2) : textP (.mk h ks) = h.col ++ [32] ++ markB h.cmp ++ [32] ++ valT h.kind h.val := by rw [tx_is]; unfold textH; rw [if_pos e]
theorem tx_3 {h : Ph} {ks : List Pd} (e : h.op = 3) : textP (.mk h ks) = h.col ++ [32, 105, 115, 32, 110, 117, 108, 108] := by rw [tx_is]; unfold textH; rw [if_neg (by omega), if_pos e]
theorem tx_4 {h : Ph} {ks : List Pd} (e : h.op = 4) : textP (.mk h ks) = h.col ++ [32, 108, 105, 107, 101, 32] ++ quoT h.pat := by rw [tx_is]; unfold textH; rw [if_neg (by omega), if_neg (by omega), if_pos e]
theorem tx_5 {h : Ph} {k : Pd} {ks : List Pd} (e : h.op = 5) : textP (.mk h (k :: ks)) = [110, 111, 116, 32] ++ brkP [6, 7] k := by rw [tx_is]; unfold textH; rw [if_neg (by omega), if_neg (by omega), if_neg (by omega), if_pos e, textL]; rfl
theorem tx_6 {h : Ph} {ks : List Pd} (e : h.op = 6) : textP (.mk h ks) = Lib.join (ks.map (brkP [7])) andT := by rw [tx_is]; unfold textH; rw [if_neg (by omega), if_neg (by omega), if_neg (by omega), if_neg (by omega), if_pos e, textL_brk]
theorem tx_7 {h : Ph} {ks : List Pd} (e : h.op = 7) : textP (.mk h ks) = Lib.join (ks.map (brkP [])) orT := by rw [tx_is]; unfold textH; rw [if_neg (by omega), if_neg (by omega), if_neg (by omega), if_neg (by omega), if_neg (by omega), if_pos e, textL_brk]
theorem tx_1 {h : Ph} {ks : List Pd} (e : h.op = 1) : textP (.mk h ks) = [97, 108, 108] := by rw [tx_is]; unfold textH; rw [if_neg (by omega), if_neg (by omega), if_neg (by omega), if_neg (by omega), if_neg (by omega), if_neg (by omega)]
/-- which ops there are, and how many within -/
theorem one_ops {h : Ph} {ks : List Pd} (e : oneP (.mk h ks) = true) : (h.op = 1 ∨ (h.op = 2 ∧ 1 ≤ h.cmp ∧ h.cmp ≤ 6) ∨ h.op = 3 ∨ h.op = 4 ∨ (h.op = 5 ∧ ks.length = 1) ∨ h.op = 6 ∨ h.op = 7) ∧ ∀ k ∈ ks, oneP k = true := by
  rw [oneP, Bool.and_eq_true, oneL_all] at e
  refine ⟨?_, List.all_eq_true.1 e.2⟩
  have e1 := e.1
  unfold hdOk at e1
  split at e1
  · rename_i h1; exact .inl h1
  · split at e1
    · rename_i h1 h2
      rcases h2 with h2 | h2 | h2
      · refine .inr (.inl ⟨h2, ?_⟩)
        unfold askOk at e1
        rw [if_pos h2] at e1
        simp only [Bool.and_eq_true, decide_eq_true_eq] at e1
        exact e1.2.2.1.1
      · exact .inr (.inr (.inl h2))
      · exact .inr (.inr (.inr (.inl h2)))
    · split at e1
      · rename_i h5
        rw [Bool.and_eq_true] at e1
        exact .inr (.inr (.inr (.inr (.inl ⟨h5, of_decide_eq_true e1.1⟩))))
      · split at e1
        · rename_i h6
          rcases h6 with h6 | h6
          · exact .inr (.inr (.inr (.inr (.inr (.inl h6)))))
          · exact .inr (.inr (.inr (.inr (.inr (.inr h6)))))
        · cases e1
theorem Kd.num {w : World} {s : Kv} {ps : List Pd} (h : Kd w s ps) : numL ps := by
  induction h with
  | mk s ns ps hl hN hh hb hk ih =>
    rw [numL_all]
    intro p hp
    obtain ⟨j, hj, rfl⟩ := List.mem_iff_getElem.1 hp
    have e := ih j (by omega) hj
    have b := hb j hj
    generalize ps[j] = p at *
    obtain ⟨h, ks⟩ := p
    exact ⟨b, e⟩
end Go.Proofs.YtibopcceffncpaaDoor


namespace Go.Proofs.YtibopcceffncpaaDoor
set_option linter.unusedVariables false
set_option linter.unusedSimpArgs false
set_option maxRecDepth 100000
open Go.RowKit

set_option maxHeartbeats 4000000 in
theorem ptext1_any (hd : Ph) (ks : List Pd) (t : Kv) (w : World) (hop : hd.op = 1) (hW0 : Lp w) (hk : Kd w t ks) (hb : I64b hd.val.num) (hls : ks.length ≤ 20 ∧ hd.col.length ≤ 100 ∧ hd.pat.length ≤ 100 ∧ hd.val.txt.length ≤ 100) (htl2 : (textP (.mk hd ks)).length ≤ 6400)  :
    Calls Tryd.prog 37 #[pdV hd t] w fun e w' => e = .returned (.string ⟨(textP (.mk hd ks)).toArray⟩) ∧ Fr Non w w' := by
  have hn : t.n = ks.length := hk.len
  have F0 : Fr Non w (w.alloc (.cells (pdC hd t) 27)) := (Fr.refl Non w).alloc _
  have PB := Lib.hid (pd_new w _ hd t rfl)
  have HK := Lib.hid (hk.non F0)
  have HW := Lib.hid (hW0.non F0)
  have HE := Lib.hid (tx_1 (h := hd) (ks := ks) hop)
  have hcl := hls.2.1
  have hpl := hls.2.2.1
  have hls1 := hls.1
  generalize textP (.mk hd ks) = r at *
  have HF := Lib.hid F0
  clear F0 hls hW0 hk
  obtain ⟨ho, hc, hm, ⟨vn, vi, vt⟩, hkd, hp⟩ := hd
  obtain ⟨A, n, c⟩ := t
  dsimp only at hn hop hcl hpl HE
  have HL := Lib.hid hn
  have hn20 : n ≤ 20 := by omega
  clear hn hls1
  unfold pdV
  unfold pdC kidV
  dsimp only
  subst hop
  go_enter Tryd.func37, Tryd.ntmps37
  go_wp2
  go_ret
  exact ⟨strE (by rw [HE.out]), HF.out⟩

set_option maxHeartbeats 4000000 in
theorem ptext2_any (hd : Ph) (ks : List Pd) (t : Kv) (w : World) (hop : hd.op = 2) (hW0 : Lp w) (hk : Kd w t ks) (hb : I64b hd.val.num) (hls : ks.length ≤ 20 ∧ hd.col.length ≤ 100 ∧ hd.pat.length ≤ 100 ∧ hd.val.txt.length ≤ 100) (htl2 : (textP (.mk hd ks)).length ≤ 6400) (h16 : 1 ≤ hd.cmp ∧ hd.cmp ≤ 6) :
    Calls Tryd.prog 37 #[pdV hd t] w fun e w' => e = .returned (.string ⟨(textP (.mk hd ks)).toArray⟩) ∧ Fr Non w w' := by
  have hn : t.n = ks.length := hk.len
  have F0 : Fr Non w (w.alloc (.cells (pdC hd t) 27)) := (Fr.refl Non w).alloc _
  have PB := Lib.hid (pd_new w _ hd t rfl)
  have HK := Lib.hid (hk.non F0)
  have HW := Lib.hid (hW0.non F0)
  have HV := Lib.hid (fun W hW => pvalue_any hd.kind hd.val W hW hb (by omega))
  have hvl := valT_len hd.kind hd.val hb hls.2.2.2
  have hml := markB_len hd.cmp
  have HE := Lib.hid (tx_2 (h := hd) (ks := ks) hop)
  have hcl := hls.2.1
  have hpl := hls.2.2.1
  have hls1 := hls.1
  generalize textP (.mk hd ks) = r at *
  have HF := Lib.hid F0
  clear F0 hls hW0 hk
  obtain ⟨ho, hc, hm, ⟨vn, vi, vt⟩, hkd, hp⟩ := hd
  obtain ⟨A, n, c⟩ := t
  dsimp only at hn hop hcl hpl HE HV hvl hml h16
  have HL := Lib.hid hn
  have hn20 : n ≤ 20 := by omega
  clear hn hls1
  unfold pdV
  unfold clV clC at HV
  dsimp only at HV
  obtain ⟨hc1, hc6⟩ := h16
  unfold pdC kidV
  dsimp only
  subst hop
  obtain ⟨j, rfl⟩ : ∃ j : Nat, hm = (j : Int) := ⟨hm.toNat, by omega⟩
  have hj : j < 7 := by omega
  have hj7 : (j : Int) < 7 := by omega
  have hmk := HW.out.marks j hj
  rw [cmps_at j hj] at hmk
  generalize markB (j : Int) = mk at *
  generalize hva : valT hkd ⟨vn, vi, vt⟩ = va at *
  clear hva
  have s1 := fun W => sadd hc [32] (by simp; omega) W
  have s2 := fun W => sadd (hc ++ [32]) mk (by simp; omega) W
  have s3 := fun W => sadd (hc ++ [32] ++ mk) [32] (by simp; omega) W
  have s4 := fun W => sadd (hc ++ [32] ++ mk ++ [32]) va (by simp; omega) W
  have s5 := fun W => sadd (hc ++ 32 :: mk) [32] (by simp; omega) W
  have s6 := fun W => sadd (hc ++ 32 :: (mk ++ [32])) va (by simp; omega) W
  have HC := Lib.hid (HV.out (w.alloc (.cells (pdC ⟨2, hc, j, ⟨vn, vi, vt⟩, hkd, hp⟩ ⟨A, n, c⟩) 27)).drew (HW.out.non (Fr.refl _ _).drew))
  have qm : (w.alloc (.cells (pdC ⟨2, hc, j, ⟨vn, vi, vt⟩, hkd, hp⟩ ⟨A, n, c⟩) 27)).drew.cell? ⟨1, j, none⟩ = _ := hmk
  obtain ⟨_, q1, q2, q3, q4, q5, q6, _, _⟩ := pdB_cells PB.out.drew
  dsimp only at q1 q2 q3 q4 q5 q6
  unfold pdC kidV at HC qm q1 q2 q3 q4 q5 q6
  dsimp only at HC qm q1 q2 q3 q4 q5 q6
  go_enter Tryd.func37, Tryd.ntmps37
  go_wp2
  refine wp_region_held_drew (S := (fun W => W.cell? ⟨w.heap.size, 1, none⟩ = some (.string ⟨hc.toArray⟩) ∧ W.cell? ⟨w.heap.size, 2, none⟩ = some (.int .i64 j) ∧ W.cell? ⟨w.heap.size, 3, none⟩ = some (.bool vn) ∧ W.cell? ⟨w.heap.size, 4, none⟩ = some (.int .i64 vi) ∧ W.cell? ⟨w.heap.size, 5, none⟩ = some (.string ⟨vt.toArray⟩) ∧ W.cell? ⟨w.heap.size, 6, none⟩ = some (.int .i64 hkd) ∧ W.cell? ⟨1, j, none⟩ = some (.string ⟨mk.toArray⟩))) (by kernel_rfl) (by exact ⟨q1, q2, q3, q4, q5, q6, qm⟩) (fun hHeld => ?_)
  refine wpAnyH_take (i := 0) (oi := ⟨some 7, _, _, _, _, none⟩) (v := ?v1) rfl (by kernel_rfl) (by kernel_rfl) (by kernel_rfl) (fun _ _ _ h => h) (Or.inl ⟨by rfl, ?hy1⟩) (by assumption) ?rest1
  case hy1 => (intro wS hSw; (try dsimp only at hSw); go_simp; (try with_reducible rfl))
  (try simp only [Act.put, List.setIfInBounds_toArray, List.set_cons_zero, List.set_cons_succ])
  refine wpAnyH_take (i := 1) (oi := ⟨some 8, _, _, _, _, none⟩) (v := ?v2) rfl (by kernel_rfl) (by kernel_rfl) (by kernel_rfl) (fun _ _ _ h => h) (Or.inl ⟨by rfl, ?hy2⟩) (by assumption) ?rest2
  case hy2 => (intro wS hSw; (try dsimp only at hSw); go_simp; (try with_reducible rfl))
  (try simp only [Act.put, List.setIfInBounds_toArray, List.set_cons_zero, List.set_cons_succ])
  refine wpAnyH_take (i := 2) (oi := ⟨some 9, _, _, _, _, none⟩) (v := ?v3) rfl (by kernel_rfl) (by kernel_rfl) (by kernel_rfl) (fun _ _ _ h => h) (Or.inl ⟨by rfl, ?hy3⟩) (by assumption) ?rest3
  case hy3 => (intro wS hSw; (try dsimp only at hSw); go_simp; (try with_reducible rfl))
  (try simp only [Act.put, List.setIfInBounds_toArray, List.set_cons_zero, List.set_cons_succ])
  refine wpAnyH_take (i := 3) (oi := ⟨some 10, _, _, _, _, none⟩) (v := ?v4) rfl (by kernel_rfl) (by kernel_rfl) (by kernel_rfl) (fun _ _ _ h => h) (Or.inl ⟨by rfl, ?hy4⟩) (by assumption) ?rest4
  case hy4 => (intro wS hSw; (try dsimp only at hSw); go_simp; (try with_reducible rfl))
  (try simp only [Act.put, List.setIfInBounds_toArray, List.set_cons_zero, List.set_cons_succ])
  refine wpAnyH_take (i := 4) (oi := ⟨some 11, _, _, _, _, none⟩) (v := ?v5) rfl (by kernel_rfl) (by kernel_rfl) (by kernel_rfl) (fun _ _ _ h => h) (Or.inl ⟨by rfl, ?hy5⟩) (by assumption) ?rest5
  case hy5 => (intro wS hSw; (try dsimp only at hSw); go_simp; (try with_reducible rfl))
  (try simp only [Act.put, List.setIfInBounds_toArray, List.set_cons_zero, List.set_cons_succ])
  refine wpAnyH_take (i := 5) (oi := ⟨some 12, _, _, _, _, none⟩) (v := ?v6) rfl (by kernel_rfl) (by kernel_rfl) (by kernel_rfl) (fun _ _ _ h => h) (Or.inl ⟨by rfl, ?hy6⟩) (by assumption) ?rest6
  case hy6 => (intro wS hSw; (try dsimp only at hSw); go_simp; (try with_reducible rfl))
  (try simp only [Act.put, List.setIfInBounds_toArray, List.set_cons_zero, List.set_cons_succ])
  refine wpAnyH_take (i := 6) (oi := ⟨some 13, _, _, _, _, none⟩) (v := ?v7) rfl (by kernel_rfl) (by kernel_rfl) (by kernel_rfl) (fun _ _ _ h => h) (Or.inl ⟨by rfl, ?hy7⟩) (by assumption) ?rest7
  case hy7 => (intro wS hSw; (try dsimp only at hSw); go_simp; (try with_reducible rfl))
  (try simp only [Act.put, List.setIfInBounds_toArray, List.set_cons_zero, List.set_cons_succ])
  refine wpAnyH_take (i := 7) (oi := ⟨some 14, _, _, _, _, none⟩) (v := ?v8) rfl (by kernel_rfl) (by kernel_rfl) (by kernel_rfl) (fun _ _ _ h => h) (Or.inl ⟨by rfl, ?hy8⟩) (by assumption) ?rest8
  case hy8 => (intro wS hSw; (try dsimp only at hSw); go_simp; (try with_reducible rfl))
  (try simp only [Act.put, List.setIfInBounds_toArray, List.set_cons_zero, List.set_cons_succ])
  refine wpAnyH_take (i := 8) (oi := ⟨some 15, _, _, _, _, none⟩) (v := ?v9) rfl (by kernel_rfl) (by kernel_rfl) (by kernel_rfl) (fun _ _ _ h => h) (Or.inl ⟨by rfl, ?hy9⟩) (by assumption) ?rest9
  case hy9 => (intro wS hSw; (try dsimp only at hSw); go_simp; (try with_reducible rfl))
  (try simp only [Act.put, List.setIfInBounds_toArray, List.set_cons_zero, List.set_cons_succ])
  refine wpAnyH_take (i := 9) (oi := ⟨some 16, _, _, _, _, none⟩) (v := ?v10) rfl (by kernel_rfl) (by kernel_rfl) (by kernel_rfl) (fun _ _ _ h => h) (Or.inl ⟨by rfl, ?hy10⟩) (by assumption) ?rest10
  case hy10 => (intro wS hSw; (try dsimp only at hSw); go_simp; (try with_reducible rfl))
  (try simp only [Act.put, List.setIfInBounds_toArray, List.set_cons_zero, List.set_cons_succ])
  refine wpAnyH_take (i := 10) (oi := ⟨some 17, _, _, _, _, none⟩) (v := ?v11) rfl (by kernel_rfl) (by kernel_rfl) (by kernel_rfl) (fun _ _ _ h => h) (Or.inl ⟨by rfl, ?hy11⟩) (by assumption) ?rest11
  case hy11 => (intro wS hSw; (try dsimp only at hSw); go_simp; (try with_reducible rfl))
  (try simp only [Act.put, List.setIfInBounds_toArray, List.set_cons_zero, List.set_cons_succ])
  refine wpAnyH_take (i := 11) (oi := ⟨some 18, _, _, _, _, none⟩) (v := ?v12) rfl (by kernel_rfl) (by kernel_rfl) (by kernel_rfl) (fun _ _ _ h => h) (Or.inl ⟨by rfl, ?hy12⟩) (by assumption) ?rest12
  case hy12 => (intro wS hSw; (try dsimp only at hSw); go_simp; (try with_reducible rfl))
  (try simp only [Act.put, List.setIfInBounds_toArray, List.set_cons_zero, List.set_cons_succ])
  refine wpAnyH_take (i := 12) (oi := ⟨some 19, _, _, _, _, none⟩) (v := ?v13) rfl (by kernel_rfl) (by kernel_rfl) (by kernel_rfl) (fun _ _ _ h => h) (Or.inl ⟨by rfl, ?hy13⟩) (by assumption) ?rest13
  case hy13 => (intro wS hSw; (try dsimp only at hSw); go_simp; (try with_reducible rfl))
  (try simp only [Act.put, List.setIfInBounds_toArray, List.set_cons_zero, List.set_cons_succ])
  refine wpAnyH_ready (rs := [13]) (by kernel_rfl) (by simp) ?_
  refine AllReadyH.cons (o := ⟨some 20, _, _, _, _, none⟩) rfl (fun K hK => ?_) AllReadyH.nil
  go_simp
  go_at_call 56
  (with_reducible refine HC.out.mono ?_)
  rintro e w3 ⟨rfl, f3⟩
  have u1 := (f3.cell (World.block_lt_of_cell? _ _ q1) (fun e => e)).trans q1
  have u2 := (f3.cell (World.block_lt_of_cell? _ _ q2) (fun e => e)).trans q2
  have u3 := (f3.cell (World.block_lt_of_cell? _ _ q3) (fun e => e)).trans q3
  have u4 := (f3.cell (World.block_lt_of_cell? _ _ q4) (fun e => e)).trans q4
  have u5 := (f3.cell (World.block_lt_of_cell? _ _ q5) (fun e => e)).trans q5
  have u6 := (f3.cell (World.block_lt_of_cell? _ _ q6) (fun e => e)).trans q6
  have um := (f3.cell (World.block_lt_of_cell? _ _ qm) (fun e => e)).trans qm
  go_wp2_with fail
  refine hK.out _ _ (by exact ⟨u1, u2, u3, u4, u5, u6, um⟩) (fun hHeld => ?_)
  clear hK K
  (try simp only [Act.put, List.setIfInBounds_toArray, List.set_cons_zero, List.set_cons_succ])
  refine wpAnyH_take (i := 14) (oi := ⟨some 21, _, _, _, _, none⟩) (v := ?v14) rfl (by kernel_rfl) (by kernel_rfl) (by kernel_rfl) (fun _ _ _ h => h) (Or.inl ⟨by rfl, ?hy14⟩) (by assumption) ?rest14
  case hy14 => (intro wS hSw; (try dsimp only at hSw); go_simp; (try with_reducible rfl))
  (try simp only [Act.put, List.setIfInBounds_toArray, List.set_cons_zero, List.set_cons_succ])
  refine wpAnyH_take (i := 15) (oi := ⟨some 2, _, _, _, _, none⟩) (v := ?v15) rfl (by kernel_rfl) (by kernel_rfl) (by kernel_rfl) (fun _ _ _ h => h) (Or.inl ⟨by rfl, ?hy15⟩) (by assumption) ?rest15
  case hy15 => (intro wS hSw; (try dsimp only at hSw); go_simp; (try with_reducible rfl))
  (try simp only [Act.put, List.setIfInBounds_toArray, List.set_cons_zero, List.set_cons_succ])
  refine wpAnyH_done (by kernel_rfl) ?_ _
  go_wp2
  go_ret
  exact ⟨strE (by rw [HE.out] <;> simp), HF.out.drew.trans f3⟩

set_option maxHeartbeats 4000000 in
theorem ptext3_any (hd : Ph) (ks : List Pd) (t : Kv) (w : World) (hop : hd.op = 3) (hW0 : Lp w) (hk : Kd w t ks) (hb : I64b hd.val.num) (hls : ks.length ≤ 20 ∧ hd.col.length ≤ 100 ∧ hd.pat.length ≤ 100 ∧ hd.val.txt.length ≤ 100) (htl2 : (textP (.mk hd ks)).length ≤ 6400)  :
    Calls Tryd.prog 37 #[pdV hd t] w fun e w' => e = .returned (.string ⟨(textP (.mk hd ks)).toArray⟩) ∧ Fr Non w w' := by
  have hn : t.n = ks.length := hk.len
  have F0 : Fr Non w (w.alloc (.cells (pdC hd t) 27)) := (Fr.refl Non w).alloc _
  have PB := Lib.hid (pd_new w _ hd t rfl)
  have HK := Lib.hid (hk.non F0)
  have HW := Lib.hid (hW0.non F0)
  have HE := Lib.hid (tx_3 (h := hd) (ks := ks) hop)
  have hcl := hls.2.1
  have hpl := hls.2.2.1
  have hls1 := hls.1
  generalize textP (.mk hd ks) = r at *
  have HF := Lib.hid F0
  clear F0 hls hW0 hk
  obtain ⟨ho, hc, hm, ⟨vn, vi, vt⟩, hkd, hp⟩ := hd
  obtain ⟨A, n, c⟩ := t
  dsimp only at hn hop hcl hpl HE
  have HL := Lib.hid hn
  have hn20 : n ≤ 20 := by omega
  clear hn hls1
  unfold pdV
  unfold pdC kidV
  dsimp only
  subst hop
  have s1 := fun W => sadd hc [32, 105, 115, 32, 110, 117, 108, 108] (by simp; omega) W
  go_enter Tryd.func37, Tryd.ntmps37
  go_wp2
  go_ret
  exact ⟨strE (by rw [HE.out]), HF.out⟩

set_option maxHeartbeats 4000000 in
theorem ptext4_any (hd : Ph) (ks : List Pd) (t : Kv) (w : World) (hop : hd.op = 4) (hW0 : Lp w) (hk : Kd w t ks) (hb : I64b hd.val.num) (hls : ks.length ≤ 20 ∧ hd.col.length ≤ 100 ∧ hd.pat.length ≤ 100 ∧ hd.val.txt.length ≤ 100) (htl2 : (textP (.mk hd ks)).length ≤ 6400)  :
    Calls Tryd.prog 37 #[pdV hd t] w fun e w' => e = .returned (.string ⟨(textP (.mk hd ks)).toArray⟩) ∧ Fr Non w w' := by
  have hn : t.n = ks.length := hk.len
  have F0 : Fr Non w (w.alloc (.cells (pdC hd t) 27)) := (Fr.refl Non w).alloc _
  have PB := Lib.hid (pd_new w _ hd t rfl)
  have HK := Lib.hid (hk.non F0)
  have HW := Lib.hid (hW0.non F0)
  have HQ := Lib.hid (fun W hW => pquote_any hd.pat W hW (by omega))
  have hql := quoT_len hd.pat
  have HE := Lib.hid (tx_4 (h := hd) (ks := ks) hop)
  have hcl := hls.2.1
  have hpl := hls.2.2.1
  have hls1 := hls.1
  generalize textP (.mk hd ks) = r at *
  have HF := Lib.hid F0
  clear F0 hls hW0 hk
  obtain ⟨ho, hc, hm, ⟨vn, vi, vt⟩, hkd, hp⟩ := hd
  obtain ⟨A, n, c⟩ := t
  dsimp only at hn hop hcl hpl HE HQ hql
  have HL := Lib.hid hn
  have hn20 : n ≤ 20 := by omega
  clear hn hls1
  unfold pdV
  unfold pdC kidV
  dsimp only
  subst hop
  generalize hva : quoT hp = va at *
  clear hva
  have s1 := fun W => sadd hc [32, 108, 105, 107, 101, 32] (by simp; omega) W
  have s2 := fun W => sadd (hc ++ [32, 108, 105, 107, 101, 32]) va (by simp; omega) W
  have HC := Lib.hid (HQ.out (w.alloc (.cells (pdC ⟨4, hc, hm, ⟨vn, vi, vt⟩, hkd, hp⟩ ⟨A, n, c⟩) 27)).drew (HW.out.non (Fr.refl _ _).drew))
  obtain ⟨_, q1, _, _, _, _, _, q2, _⟩ := pdB_cells PB.out.drew
  dsimp only at q1 q2
  unfold pdC kidV at HC q1 q2
  dsimp only at HC q1 q2
  go_enter Tryd.func37, Tryd.ntmps37
  go_wp2
  refine wp_region_held_drew (S := (fun W => W.cell? ⟨w.heap.size, 1, none⟩ = some (.string ⟨hc.toArray⟩) ∧ W.cell? ⟨w.heap.size, 7, none⟩ = some (.string ⟨hp.toArray⟩))) (by kernel_rfl) (by exact ⟨q1, q2⟩) (fun hHeld => ?_)
  refine wpAnyH_take (i := 0) (oi := ⟨some 29, _, _, _, _, none⟩) (v := ?v16) rfl (by kernel_rfl) (by kernel_rfl) (by kernel_rfl) (fun _ _ _ h => h) (Or.inl ⟨by rfl, ?hy16⟩) (by assumption) ?rest16
  case hy16 => (intro wS hSw; (try dsimp only at hSw); go_simp; (try with_reducible rfl))
  (try simp only [Act.put, List.setIfInBounds_toArray, List.set_cons_zero, List.set_cons_succ])
  refine wpAnyH_take (i := 1) (oi := ⟨some 30, _, _, _, _, none⟩) (v := ?v17) rfl (by kernel_rfl) (by kernel_rfl) (by kernel_rfl) (fun _ _ _ h => h) (Or.inl ⟨by rfl, ?hy17⟩) (by assumption) ?rest17
  case hy17 => (intro wS hSw; (try dsimp only at hSw); go_simp; (try with_reducible rfl))
  (try simp only [Act.put, List.setIfInBounds_toArray, List.set_cons_zero, List.set_cons_succ])
  refine wpAnyH_take (i := 2) (oi := ⟨some 31, _, _, _, _, none⟩) (v := ?v18) rfl (by kernel_rfl) (by kernel_rfl) (by kernel_rfl) (fun _ _ _ h => h) (Or.inl ⟨by rfl, ?hy18⟩) (by assumption) ?rest18
  case hy18 => (intro wS hSw; (try dsimp only at hSw); go_simp; (try with_reducible rfl))
  (try simp only [Act.put, List.setIfInBounds_toArray, List.set_cons_zero, List.set_cons_succ])
  refine wpAnyH_take (i := 3) (oi := ⟨some 32, _, _, _, _, none⟩) (v := ?v19) rfl (by kernel_rfl) (by kernel_rfl) (by kernel_rfl) (fun _ _ _ h => h) (Or.inl ⟨by rfl, ?hy19⟩) (by assumption) ?rest19
  case hy19 => (intro wS hSw; (try dsimp only at hSw); go_simp; (try with_reducible rfl))
  (try simp only [Act.put, List.setIfInBounds_toArray, List.set_cons_zero, List.set_cons_succ])
  refine wpAnyH_take (i := 4) (oi := ⟨some 33, _, _, _, _, none⟩) (v := ?v20) rfl (by kernel_rfl) (by kernel_rfl) (by kernel_rfl) (fun _ _ _ h => h) (Or.inl ⟨by rfl, ?hy20⟩) (by assumption) ?rest20
  case hy20 => (intro wS hSw; (try dsimp only at hSw); go_simp; (try with_reducible rfl))
  (try simp only [Act.put, List.setIfInBounds_toArray, List.set_cons_zero, List.set_cons_succ])
  refine wpAnyH_ready (rs := [5]) (by kernel_rfl) (by simp) ?_
  refine AllReadyH.cons (o := ⟨some 34, _, _, _, _, none⟩) rfl (fun K hK => ?_) AllReadyH.nil
  go_simp
  go_at_call 57
  (with_reducible refine HC.out.mono ?_)
  rintro e w3 ⟨rfl, f3⟩
  have u1 := (f3.cell (World.block_lt_of_cell? _ _ q1) (fun e => e)).trans q1
  have u2 := (f3.cell (World.block_lt_of_cell? _ _ q2) (fun e => e)).trans q2
  go_wp2_with fail
  refine hK.out _ _ (by exact ⟨u1, u2⟩) (fun hHeld => ?_)
  clear hK K
  (try simp only [Act.put, List.setIfInBounds_toArray, List.set_cons_zero, List.set_cons_succ])
  refine wpAnyH_take (i := 6) (oi := ⟨some 35, _, _, _, _, none⟩) (v := ?v21) rfl (by kernel_rfl) (by kernel_rfl) (by kernel_rfl) (fun _ _ _ h => h) (Or.inl ⟨by rfl, ?hy21⟩) (by assumption) ?rest21
  case hy21 => (intro wS hSw; (try dsimp only at hSw); go_simp; (try with_reducible rfl))
  (try simp only [Act.put, List.setIfInBounds_toArray, List.set_cons_zero, List.set_cons_succ])
  refine wpAnyH_take (i := 7) (oi := ⟨some 2, _, _, _, _, none⟩) (v := ?v22) rfl (by kernel_rfl) (by kernel_rfl) (by kernel_rfl) (fun _ _ _ h => h) (Or.inl ⟨by rfl, ?hy22⟩) (by assumption) ?rest22
  case hy22 => (intro wS hSw; (try dsimp only at hSw); go_simp; (try with_reducible rfl))
  (try simp only [Act.put, List.setIfInBounds_toArray, List.set_cons_zero, List.set_cons_succ])
  refine wpAnyH_done (by kernel_rfl) ?_ _
  go_wp2
  go_ret
  exact ⟨strE (by rw [HE.out] <;> simp), HF.out.drew.trans f3⟩

set_option maxHeartbeats 4000000 in
theorem ptext5_any (hd : Ph) (ks : List Pd) (t : Kv) (w : World) (hop : hd.op = 5) (hW0 : Lp w) (hk : Kd w t ks) (hb : I64b hd.val.num) (hls : ks.length ≤ 20 ∧ hd.col.length ≤ 100 ∧ hd.pat.length ≤ 100 ∧ hd.val.txt.length ≤ 100) (htl2 : (textP (.mk hd ks)).length ≤ 6400) (hk1 : ks.length = 1) (hkb : ∀ k (h : k < ks.length), (textP ks[k]).length ≤ 100000) (IH2 : Hid (∀ k (h : k < ks.length) W t', Lp W → Kd W t' ks[k].kids → Calls Tryd.prog 37 #[pdV ks[k].hd t'] W fun e w' => e = .returned (.string ⟨(textP ks[k]).toArray⟩) ∧ Fr Non W w')) :
    Calls Tryd.prog 37 #[pdV hd t] w fun e w' => e = .returned (.string ⟨(textP (.mk hd ks)).toArray⟩) ∧ Fr Non w w' := by
  have hn : t.n = ks.length := hk.len
  have F0 : Fr Non w (w.alloc (.cells (pdC hd t) 27)) := (Fr.refl Non w).alloc _
  have PB := Lib.hid (pd_new w _ hd t rfl)
  have HK := Lib.hid (hk.non F0)
  have HW := Lib.hid (hW0.non F0)
  have HKB := Lib.hid hkb
  have h0 : 0 < ks.length := by omega
  have HE : Hid (textP (.mk hd ks) = ([110, 111, 116, 32] : Tx) ++ brkP [6, 7] ks[0]) := Lib.hid (by
    cases ks with
    | nil => simp at h0
    | cons k r => exact tx_5 hop)
  have hcl := hls.2.1
  have hpl := hls.2.2.1
  have hls1 := hls.1
  generalize textP (.mk hd ks) = r at *
  have HF := Lib.hid F0
  clear F0 hls hW0 hk hkb
  obtain ⟨ho, hc, hm, ⟨vn, vi, vt⟩, hkd, hp⟩ := hd
  obtain ⟨A, n, c⟩ := t
  dsimp only at hn hop hcl hpl HE
  have HL := Lib.hid hn
  have hn20 : n ≤ 20 := by omega
  clear hn
  unfold pdV
  unfold pdC kidV
  dsimp only
  subst hop
  obtain ⟨a, t, hA, hc2, hkk, _⟩ := HK.out.el 0 h0
  dsimp only at hA
  subst hA
  have hkb := HKB.out 0 h0
  have HC : Hid (∀ W, Fr Non (w.alloc (.cells (pdC ⟨5, hc, hm, ⟨vn, vi, vt⟩, hkd, hp⟩ ⟨some a, n, c⟩) 27)) W → Calls Tryd.prog 37 #[pdV ks[0].hd t] W fun e w' => e = .returned (.string ⟨(textP ks[0]).toArray⟩) ∧ Fr Non W w') := Lib.hid (fun W hf => IH2.out 0 h0 W t (HW.out.non hf) (hkk.non hf))
  have hn1 : n = 1 := by have := HL.out; omega
  subst hn1
  have ht := hkb
  clear hkb hkk IH2 HKB
  generalize ks[0] = p at *
  obtain ⟨x, ps⟩ := p
  dsimp only [Pd.hd] at hc2 HC
  rw [show a.add (0 * 9) = a by simp [Addr.add]] at hc2
  obtain ⟨c0, c1, c2, c3, c4, c5, c6, c7, c8⟩ := hc2
  have G1 := Lib.hid ((Fr.refl Non (w.alloc (.cells (pdC ⟨5, hc, hm, ⟨vn, vi, vt⟩, hkd, hp⟩ ⟨some a, 1, c⟩) 27))).alloc (.cells #[.int .i64 6, .int .i64 7] 3))
  have V2 : Vs iv ((w.alloc (.cells (pdC ⟨5, hc, hm, ⟨vn, vi, vt⟩, hkd, hp⟩ ⟨some a, 1, c⟩) 27)).alloc (.cells #[.int .i64 6, .int .i64 7] 3)) (.slice (some ⟨(w.alloc (.cells (pdC ⟨5, hc, hm, ⟨vn, vi, vt⟩, hkd, hp⟩ ⟨some a, 1, c⟩) 27)).heap.size, 0, none⟩) 2 2) [6, 7] := vs_row _ [6, 7] _ (0, 0)
  rw [show (w.alloc (.cells (pdC ⟨5, hc, hm, ⟨vn, vi, vt⟩, hkd, hp⟩ ⟨some a, 1, c⟩) 27)).heap.size = w.heap.size + 1 by simp] at V2
  have HB := Lib.hid (pbrk_any x t ps [6, 7] _ _ V2 (by decide) ht (Lib.hid (fun W hf => HC.out W (G1.out.trans hf))))
  clear HC V2 ht
  have hbl : (brkP [6, 7] (.mk x ps)).length ≤ 6400 := by have e := congrArg List.length HE.out; rw [List.length_append] at e; omega
  generalize brkP [6, 7] (.mk x ps) = y at *
  have s1 := fun W => sadd [110, 111, 116, 32] y (by simp; omega) W
  obtain ⟨xo, xc, xm, ⟨xn, xi, xt⟩, xk, xp⟩ := x
  obtain ⟨tA, tn, tc⟩ := t
  unfold pdV at HB
  unfold pdC kidV at HB G1 c0 c1 c2 c3 c4 c5 c6 c7 c8
  dsimp only at HB G1 c0 c1 c2 c3 c4 c5 c6 c7 c8
  go_enter Tryd.func37, Tryd.ntmps37
  go_wp2_with fail
  refine HB.out.mono ?_
  rintro e w2 ⟨rfl, f2⟩
  go_wp2
  go_ret
  exact ⟨strE (by rw [HE.out] <;> simp), (HF.out.trans G1.out).trans f2⟩

set_option maxHeartbeats 4000000 in
theorem ptext6_any (hd : Ph) (ks : List Pd) (t : Kv) (w : World) (hop : hd.op = 6) (hW0 : Lp w) (hk : Kd w t ks) (hb : I64b hd.val.num) (hls : ks.length ≤ 20 ∧ hd.col.length ≤ 100 ∧ hd.pat.length ≤ 100 ∧ hd.val.txt.length ≤ 100) (htl2 : (textP (.mk hd ks)).length ≤ 6400) (hkb : ∀ k (h : k < ks.length), (textP ks[k]).length ≤ 100000) (IH2 : Hid (∀ k (h : k < ks.length) W t', Lp W → Kd W t' ks[k].kids → Calls Tryd.prog 37 #[pdV ks[k].hd t'] W fun e w' => e = .returned (.string ⟨(textP ks[k]).toArray⟩) ∧ Fr Non W w')) :
    Calls Tryd.prog 37 #[pdV hd t] w fun e w' => e = .returned (.string ⟨(textP (.mk hd ks)).toArray⟩) ∧ Fr Non w w' := by
  have hn : t.n = ks.length := hk.len
  have F0 : Fr Non w (w.alloc (.cells (pdC hd t) 27)) := (Fr.refl Non w).alloc _
  have PB := Lib.hid (pd_new w _ hd t rfl)
  have HK := Lib.hid (hk.non F0)
  have HW := Lib.hid (hW0.non F0)
  have HKB := Lib.hid hkb
  have HE := Lib.hid (tx_6 (h := hd) (ks := ks) hop)
  have hcl := hls.2.1
  have hpl := hls.2.2.1
  have hls1 := hls.1
  generalize textP (.mk hd ks) = r at *
  have HF := Lib.hid F0
  clear F0 hls hW0 hk hkb
  obtain ⟨ho, hc, hm, ⟨vn, vi, vt⟩, hkd, hp⟩ := hd
  obtain ⟨A, n, c⟩ := t
  dsimp only at hn hop hcl hpl HE
  have HL := Lib.hid hn
  have hn20 : n ≤ 20 := by omega
  clear hn hls1
  unfold pdV
  unfold pdC kidV
  dsimp only
  subst hop
  have G1 := Lib.hid ((Fr.refl Non (w.alloc (.cells (pdC ⟨6, hc, hm, ⟨vn, vi, vt⟩, hkd, hp⟩ ⟨A, n, c⟩) 27))).alloc (.cells #[.int .i64 7] 3))
  have V2 : Vs iv ((w.alloc (.cells (pdC ⟨6, hc, hm, ⟨vn, vi, vt⟩, hkd, hp⟩ ⟨A, n, c⟩) 27)).alloc (.cells #[.int .i64 7] 3)) (.slice (some ⟨(w.alloc (.cells (pdC ⟨6, hc, hm, ⟨vn, vi, vt⟩, hkd, hp⟩ ⟨A, n, c⟩) 27)).heap.size, 0, none⟩) 1 1) [7] := vs_row _ [7] _ (0, 0)
  rw [show (w.alloc (.cells (pdC ⟨6, hc, hm, ⟨vn, vi, vt⟩, hkd, hp⟩ ⟨A, n, c⟩) 27)).heap.size = w.heap.size + 1 by simp] at V2
  have HB := Lib.hid (pjoined_any ⟨A, n, c⟩ ks andT [7] _ _ (HW.out.non G1.out) (HK.out.non G1.out) V2 (by decide) (by have := HL.out; omega) (by rw [← HE.out]; omega) (fun k h => HKB.out k h) IH2)
  clear V2 IH2 HKB
  generalize Lib.join (ks.map (brkP [7])) andT = y at *
  unfold andT at HB
  unfold pdC kidV at HB G1
  dsimp only at HB G1
  go_enter Tryd.func37, Tryd.ntmps37
  go_wp2_with fail
  refine HB.out.mono ?_
  rintro e w2 ⟨rfl, f2⟩
  go_wp2
  go_ret
  exact ⟨strE (by rw [HE.out] <;> simp), (HF.out.trans G1.out).trans f2⟩

set_option maxHeartbeats 4000000 in
theorem ptext7_any (hd : Ph) (ks : List Pd) (t : Kv) (w : World) (hop : hd.op = 7) (hW0 : Lp w) (hk : Kd w t ks) (hb : I64b hd.val.num) (hls : ks.length ≤ 20 ∧ hd.col.length ≤ 100 ∧ hd.pat.length ≤ 100 ∧ hd.val.txt.length ≤ 100) (htl2 : (textP (.mk hd ks)).length ≤ 6400) (hkb : ∀ k (h : k < ks.length), (textP ks[k]).length ≤ 100000) (IH2 : Hid (∀ k (h : k < ks.length) W t', Lp W → Kd W t' ks[k].kids → Calls Tryd.prog 37 #[pdV ks[k].hd t'] W fun e w' => e = .returned (.string ⟨(textP ks[k]).toArray⟩) ∧ Fr Non W w')) :
    Calls Tryd.prog 37 #[pdV hd t] w fun e w' => e = .returned (.string ⟨(textP (.mk hd ks)).toArray⟩) ∧ Fr Non w w' := by
  have hn : t.n = ks.length := hk.len
  have F0 : Fr Non w (w.alloc (.cells (pdC hd t) 27)) := (Fr.refl Non w).alloc _
  have PB := Lib.hid (pd_new w _ hd t rfl)
  have HK := Lib.hid (hk.non F0)
  have HW := Lib.hid (hW0.non F0)
  have HKB := Lib.hid hkb
  have HE := Lib.hid (tx_7 (h := hd) (ks := ks) hop)
  have hcl := hls.2.1
  have hpl := hls.2.2.1
  have hls1 := hls.1
  generalize textP (.mk hd ks) = r at *
  have HF := Lib.hid F0
  clear F0 hls hW0 hk hkb
  obtain ⟨ho, hc, hm, ⟨vn, vi, vt⟩, hkd, hp⟩ := hd
  obtain ⟨A, n, c⟩ := t
  dsimp only at hn hop hcl hpl HE
  have HL := Lib.hid hn
  have hn20 : n ≤ 20 := by omega
  clear hn hls1
  unfold pdV
  unfold pdC kidV
  dsimp only
  subst hop
  have HB := Lib.hid (pjoined_any ⟨A, n, c⟩ ks orT [] (.slice none 0 0) _ HW.out HK.out (Vs.nil_ _) (by decide) (by have := HL.out; omega) (by rw [← HE.out]; omega) (fun k h => HKB.out k h) IH2)
  clear IH2 HKB
  generalize Lib.join (ks.map (brkP [])) orT = y at *
  unfold orT at HB
  unfold pdC kidV at HB
  dsimp only at HB
  go_enter Tryd.func37, Tryd.ntmps37
  go_wp2_with fail
  refine HB.out.mono ?_
  rintro e w2 ⟨rfl, f2⟩
  go_wp2
  go_ret
  exact ⟨strE (by rw [HE.out] <;> simp), HF.out.trans f2⟩

theorem ptext_any (p : Pd) : ∀ (t : Kv) (w : World), Lp w → Kd w t p.kids → I64b p.hd.val.num → lenP p = true → oneP p = true → cntP p ≤ 16 →
    Calls Tryd.prog 37 #[pdV p.hd t] w fun e w' => e = .returned (.string ⟨(textP p).toArray⟩) ∧ Fr Non w w' := by
  induction p using Pd.ind with
  | h hd ks ih =>
    intro t w hW hk hb hlen hone hcnt
    dsimp only [Pd.hd, Pd.kids] at hk hb ⊢
    have hls := lenP_mk hlen
    have hops := one_ops hone
    have hnum : numP (.mk hd ks) := ⟨hb, hk.num⟩
    have htl := text_len (.mk hd ks) hnum hlen
    have htl2 : (textP (.mk hd ks)).length ≤ 6400 := by omega
    have hkl : ∀ k (h : k < ks.length), (textP ks[k]).length ≤ 100000 := fun k h => by
      have hm := List.getElem_mem h
      have h1 := cntL_mem hm
      rw [cntP] at hcnt
      have := text_len ks[k] ((numL_all ks).1 hk.num _ hm) (hls.2.2.2.2 _ hm)
      omega
    have IH2 : Hid (∀ k (h : k < ks.length) W t', Lp W → Kd W t' ks[k].kids → Calls Tryd.prog 37 #[pdV ks[k].hd t'] W fun e w' => e = .returned (.string ⟨(textP ks[k]).toArray⟩) ∧ Fr Non W w') :=
      Lib.hid (fun k h W t' hW' a => by
        have hm := List.getElem_mem h
        have h1 := cntL_mem hm
        rw [cntP] at hcnt
        refine ih _ hm t' W hW' a ?_ (hls.2.2.2.2 _ hm) (hops.2 _ hm) (by omega)
        have := (numL_all ks).1 hk.num _ hm
        generalize ks[k] = p at *
        obtain ⟨h, ks⟩ := p
        exact this.1)
    have hl4 := And.intro hls.1 (And.intro hls.2.1 (And.intro hls.2.2.1 hls.2.2.2.1))
    rcases hops.1 with h1 | ⟨h2, hc1, hc6⟩ | h3 | h4 | ⟨h5, hk1⟩ | h6 | h7
    · exact ptext1_any hd ks t w h1 hW hk hb hl4 htl2
    · exact ptext2_any hd ks t w h2 hW hk hb hl4 htl2 ⟨hc1, hc6⟩
    · exact ptext3_any hd ks t w h3 hW hk hb hl4 htl2
    · exact ptext4_any hd ks t w h4 hW hk hb hl4 htl2
    · exact ptext5_any hd ks t w h5 hW hk hb hl4 htl2 hk1 hkl IH2
    · exact ptext6_any hd ks t w h6 hW hk hb hl4 htl2 hkl IH2
    · exact ptext7_any hd ks t w h7 hW hk hb hl4 htl2 hkl IH2

/-- nothing of one that may not be -/
def TextP (p : Pd) : Tx := if mayP p = true then textP p else []
set_option maxHeartbeats 2000000 in
theorem pText_any (h : Ph) (t : Kv) (ks : List Pd) (w : World) (hW : Lp w) (hk : Kd w t ks) (hb : I64b h.val.num) (hlen : lenP (.mk h ks) = true) (hdep : depP (.mk h ks) ≤ 9) :
    Calls Tryd.prog 17 #[pdV h t] w fun e w' => e = .returned (.string ⟨(TextP (.mk h ks)).toArray⟩) ∧ Fr Non w w' := by
  have F0 : Fr Non w (w.alloc (.cells (pdC h t) 27)) := (Fr.refl Non w).alloc _
  have M1 := Lib.hid (pmay_any h t ks _ (hk.non F0) hb hlen hdep)
  have PB := Lib.hid (pd_new w _ h t rfl)
  have C1 : Hid (mayP (.mk h ks) = true → ∀ W, Fr Non w W → Calls Tryd.prog 37 #[pdV h t] W fun e w' => e = .returned (.string ⟨(textP (.mk h ks)).toArray⟩) ∧ Fr Non W w') := Lib.hid (fun e W hf => by
    unfold mayP at e
    rw [Bool.and_eq_true, decide_eq_true_eq] at e
    exact ptext_any (.mk h ks) t W (hW.non hf) (hk.non hf) hb hlen e.2 e.1.1)
  have HE0 : Hid (TextP (.mk h ks) = if mayP (.mk h ks) = true then textP (.mk h ks) else []) := Lib.hid rfl
  generalize TextP (.mk h ks) = r at *
  generalize textP (.mk h ks) = tx at *
  generalize mayP (.mk h ks) = b at *
  have F0 := Lib.hid F0
  clear hk hlen hdep hW
  obtain ⟨ho, hc, hm, ⟨vn, vi, vt⟩, hkd, hp⟩ := h
  obtain ⟨A, nn, c⟩ := t
  unfold pdV pdC kidV at *
  dsimp only at *
  cases b
  · have HE : Hid (r = []) := Lib.hid (by rw [HE0.out, if_neg (by simp)])
    clear HE0 C1
    go_enter Tryd.func17, Tryd.ntmps17
    go_wp2_with fail
    refine M1.out.mono ?_
    rintro e w1 ⟨rfl, f1⟩
    go_wp2
    go_ret
    exact ⟨strE (by rw [HE.out] <;> simp), F0.out.trans f1⟩
  · have HE : Hid (r = tx) := Lib.hid (by rw [HE0.out, if_pos rfl])
    have C2 := Lib.hid (C1.out rfl)
    clear HE0 C1
    go_enter Tryd.func17, Tryd.ntmps17
    go_wp2_with fail
    refine M1.out.mono ?_
    rintro e w1 ⟨rfl, f1⟩
    obtain ⟨g0, g1, g2, g3, g4, g5, g6, g7, g8⟩ := pdB_cells (PB.out.fr f1 (fun e => e))
    dsimp only at g0 g1 g2 g3 g4 g5 g6 g7 g8
    have F1 := Lib.hid (F0.out.trans f1)
    clear f1
    go_wp2_with fail
    refine (C2.out _ F1.out).mono ?_
    rintro e w2 ⟨rfl, f2⟩
    go_wp2
    go_ret
    exact ⟨strE (by rw [HE.out] <;> simp), F1.out.trans f2⟩
end Go.Proofs.YtibopcceffncpaaDoor


namespace Go.Proofs.YtibopcceffncpaaDoor
set_option linter.unusedVariables false
set_option linter.unusedSimpArgs false
set_option maxRecDepth 100000
open Go.RowKit

/-! ### Asked of all: what is handed on may lie anew each time; of the predicates a condition -/
/-! ### Which names there are -/
/-! ### Where a text is -/
set_option maxHeartbeats 2000000 in
theorem pidxs_any (v : Value) (l : List Tx) (x : Tx) (w : World) (hv : Vs sv w v l) (hl : l.length ≤ 1000) :
    Calls Tryd.prog 79 #[v, .string ⟨x.toArray⟩] w fun e w' => ∃ z : Int, e = .returned (.int .i64 z) ∧ decide (0 ≤ z) = decide (x ∈ l) ∧ Fr Non w w' := by
  obtain ⟨A, c, rfl, hlc, hn, hcell⟩ := hv
  have HC := Lib.hid hcell
  have HN := Lib.hid hn
  clear hcell hn
  go_enter Tryd.func79, Tryd.ntmps79
  go_wp2
  go_loopw [8] (fun i wr => ∃ (k : Nat), k ≤ l.length ∧ i = .int .i64 k ∧ Hid (∀ j (h : j < l.length), j < k → l[j] ≠ x) ∧ Hid (Fr Non w wr)) (fun i _ => l.length - (intOf i).toNat)
  case atStart => exact ⟨0, Nat.zero_le _, rfl, Lib.hid (fun _ _ h => by omega), Lib.hid (Fr.refl _ _)⟩
  case round =>
    obtain ⟨k, hk, rfl, HT, FR⟩ := hrel
    by_cases hlt : k < l.length
    · cases A with
      | none => have := HN.out rfl; omega
      | some a =>
        have c0 := (FR.out.cell (World.block_lt_of_cell? _ _ (HC.out a rfl k hlt)) (fun e => e)).trans (HC.out a rfl k hlt)
        unfold sv at c0
        have HX : Hid (l[k] = x → x ∈ l) := Lib.hid (fun e => by rw [← e]; exact List.getElem_mem hlt)
        have HY : Hid (l[k] ≠ x → ∀ j (h : j < l.length), j < k + 1 → l[j] ≠ x) := Lib.hid (fun e j hj hjk => by
          by_cases ee : j = k
          · subst ee; exact e
          · exact HT.out j hj (by omega))
        clear HT
        generalize l[k] = y at *
        by_cases he : y = x
        · have HE := Lib.hid (HX.out he)
          subst he
          clear HX HY
          go_wp2
          go_ret
          exact ⟨_, rfl, by rw [decide_eq_true HE.out]; exact decide_eq_true (by omega), FR.out⟩
        · have hb : (x == y) = false := by rw [beq_eq_false_iff_ne]; exact fun e => he e.symm
          have HE := Lib.hid (HY.out he)
          clear HX HY he
          go_wp2
          go_roundw
          case rel => exact ⟨k + 1, by omega, by go_num, HE, FR⟩
          case measure => simp [intOf]; omega
    · have HE : Hid (¬ x ∈ l) := Lib.hid (fun hx => by
        obtain ⟨j, hj, e⟩ := List.mem_iff_getElem.1 hx
        exact HT.out j hj (by omega) e)
      clear HT
      go_wp2
      go_ret
      exact ⟨_, rfl, by rw [decide_eq_false HE.out]; rfl, FR.out⟩
theorem pconts_any (v : Value) (l : List Tx) (x : Tx) (w : World) (hv : Vs sv w v l) (hl : l.length ≤ 1000) :
    Calls Tryd.prog 66 #[v, .string ⟨x.toArray⟩] w fun e w' => e = .returned (.bool (decide (x ∈ l))) ∧ Fr Non w w' := by
  have h0 := Lib.hid (pidxs_any v l x w hv hl)
  obtain ⟨A, c, rfl⟩ := hv.shape
  clear hv
  go_enter Tryd.func66, Tryd.ntmps66
  go_wp2_with fail
  refine h0.out.mono ?_
  rintro e w1 ⟨z, rfl, hz, f1⟩
  go_wp2
  go_ret
  exact ⟨rfl, f1⟩

/-! ### The program's -/
end Go.Proofs.YtibopcceffncpaaDoor


namespace Go.Proofs.YtibopcceffncpaaDoor
set_option linter.unusedVariables false
set_option linter.unusedSimpArgs false
set_option maxRecDepth 100000
open Go.RowKit

theorem mynot_any (a : Ag) (w : World) (hl : a.col.length ≤ 1000000000) :
    Calls Tryd.prog 53 #[agV a] w fun e w' => e = .returned (.bool (!agB a)) ∧ Fr Non w w' := by
  have N := fun W => sname_any a.col W hl
  have HF : Hid (Fr Non w (w.alloc (.cells #[.int .i64 a.op, .string ⟨a.col.toArray⟩] 36))) := Lib.hid ((Fr.refl Non w).alloc _)
  have HE0 : Hid (agB a = if a.op = 1 then decide (a.col = []) else decide (2 ≤ a.op ∧ a.op ≤ 5) && nameB a.col) := Lib.hid rfl
  obtain ⟨o, c⟩ := a
  unfold agV
  dsimp only at *
  generalize agB _ = r at *
  by_cases h1 : o = 1
  · subst h1
    clear N
    by_cases h0 : c = []
    · subst h0
      have HE : Hid (r = true) := Lib.hid (by rw [HE0.out]; rfl)
      clear HE0
      go_enter Tryd.func53, Tryd.ntmps53
      go_wp2
      go_ret
      exact ⟨ret_boolE (by rw [HE.out]; rfl), HF.out⟩
    · have hb : (c == []) = false := by rw [beq_eq_false_iff_ne]; exact h0
      have HE : Hid (r = false) := Lib.hid (by rw [HE0.out, if_pos rfl]; exact decide_eq_false h0)
      clear HE0 h0
      go_enter Tryd.func53, Tryd.ntmps53
      go_wp2
      go_ret
      exact ⟨ret_boolE (by rw [HE.out]; rfl), HF.out⟩
  · have hb1 : (o == 1) = false := by rw [beq_eq_false_iff_ne]; exact h1
    by_cases h2 : o < 2
    · have HE : Hid (r = false) := Lib.hid (by rw [HE0.out, if_neg h1, decide_eq_false (by omega)]; rfl)
      clear HE0 N
      go_enter Tryd.func53, Tryd.ntmps53
      go_wp2
      go_ret
      exact ⟨ret_boolE (by rw [HE.out]; rfl), HF.out⟩
    · by_cases h5 : 5 < o
      · have HE : Hid (r = false) := Lib.hid (by rw [HE0.out, if_neg h1, decide_eq_false (by omega)]; rfl)
        clear HE0 N
        go_enter Tryd.func53, Tryd.ntmps53
        go_wp2
        go_ret
        exact ⟨ret_boolE (by rw [HE.out]; rfl), HF.out⟩
      · have HE : Hid (r = nameB c) := Lib.hid (by rw [HE0.out, if_neg h1, decide_eq_true (by omega)]; rfl)
        generalize nameB c = b at *
        clear HE0
        replace N := Lib.hid N
        go_enter Tryd.func53, Tryd.ntmps53
        go_wp2_with fail
        refine (N.out _).mono ?_
        rintro e w1 ⟨rfl, f1⟩
        go_wp2
        go_ret
        exact ⟨ret_boolE (by rw [HE.out]), HF.out.trans f1⟩

def badA (a : Ag) : Bool := !agB a
theorem any_moreG {α : Type} {p : α → Bool} {l : List α} {k : Nat} (h : k < l.length) (h1 : (l.take k).any p = false) (h2 : p l[k] = false) : (l.take (k + 1)).any p = false := by
  rw [List.take_succ_eq_append_getElem h, List.any_append, h1]; simp [h2]
theorem any_allG {α : Type} {p : α → Bool} {l : List α} : (l.any fun a => !p a) = !(l.all p) := by
  induction l with
  | nil => rfl
  | cons x l ih => rw [List.any_cons, List.all_cons, ih]; cases p x <;> rfl
theorem gidx_any (v : Value) (l : List Ag) (w : World) (hv : Gs w v l) (hl : l.length ≤ 1000000000) (hb : ∀ c ∈ l, c.col.length ≤ 1000000000) :
    Calls Tryd.prog 67 #[v, .func (.func 53) #[] #[]] w fun e w' => ∃ z : Int, e = .returned (.int .i64 z) ∧ decide (0 ≤ z) = l.any badA ∧ Fr Non w w' := by
  obtain ⟨A, c, rfl, hlc, hn, hcell⟩ := hv
  have HC := Lib.hid hcell
  have HN := Lib.hid hn
  have HB := Lib.hid hb
  clear hcell hn hb
  go_enter Tryd.func67, Tryd.ntmps67
  go_wp2
  go_loopw [8] (fun i wr => ∃ (k : Nat), k ≤ l.length ∧ i = .int .i64 k ∧ Hid ((l.take k).any badA = false) ∧ Fr Non w wr) (fun i _ => l.length - (intOf i).toNat)
  case atStart => exact ⟨0, Nat.zero_le _, rfl, Lib.hid rfl, Fr.refl _ _⟩
  case round =>
    obtain ⟨k, hk, rfl, hne, hfr⟩ := hrel
    by_cases hlt : k < l.length
    · cases A with
      | none => have := HN.out rfl; omega
      | some a =>
        obtain ⟨hc0, hc1⟩ := ag_lit ((HC.out a rfl k hlt).non hfr)
        have HY := Lib.hid (fun h => any_moreG hlt hne.out h)
        have HX : Hid (badA l[k] = true → l.any badA = true) := Lib.hid (fun h => List.any_eq_true.2 ⟨_, List.getElem_mem hlt, h⟩)
        have M := fun W => mynot_any l[k] W (HB.out _ (List.getElem_mem hlt))
        clear hne
        change ∀ W, Calls _ _ _ W (fun e w' => e = .returned (.bool (badA l[k])) ∧ Fr Non W w') at M
        generalize l[k] = x at *
        obtain ⟨xo, xn⟩ := x
        unfold agV at M
        dsimp only at hc0 hc1 HY HX M
        have HF := Lib.hid hfr
        clear hfr
        cases hx : badA ⟨xo, xn⟩
        · have HE := Lib.hid (HY.out hx)
          simp only [hx] at M
          replace M := Lib.hid M
          clear HX HY hx
          go_wp2_with fail
          refine (M.out _).mono ?_
          rintro e w2 ⟨rfl, f2⟩
          go_wp2
          go_roundw
          case rel => exact ⟨k + 1, by omega, by go_num, HE, HF.out.trans f2⟩
          case measure => simp [intOf]; omega
        · have HE := Lib.hid (HX.out hx)
          simp only [hx] at M
          replace M := Lib.hid M
          clear HX HY hx
          go_wp2_with fail
          refine (M.out _).mono ?_
          rintro e w2 ⟨rfl, f2⟩
          go_wp2
          go_ret
          exact ⟨_, rfl, by rw [HE.out]; exact decide_eq_true (by omega), HF.out.trans f2⟩
    · have HE : Hid (l.any badA = false) := Lib.hid (by have := hne.out; rwa [List.take_of_length_le (by omega)] at this)
      clear hne
      go_wp2
      go_ret
      exact ⟨_, rfl, by rw [HE.out]; rfl, hfr⟩
theorem gconts_any (v : Value) (l : List Ag) (w : World) (hv : Gs w v l) (hl : l.length ≤ 1000000000) (hb : ∀ c ∈ l, c.col.length ≤ 1000000000) :
    Calls Tryd.prog 52 #[v, .func (.func 53) #[] #[]] w fun e w' => e = .returned (.bool (!(l.all agB))) ∧ Fr Non w w' := by
  have h0 := Lib.hid (gidx_any v l w hv hl hb)
  obtain ⟨A, c, rfl⟩ := hv.shape
  clear hv hb
  go_enter Tryd.func52, Tryd.ntmps52
  go_wp2_with fail
  refine h0.out.mono ?_
  rintro e w1 ⟨z, rfl, hz, f1⟩
  go_wp2
  go_ret
  exact ⟨ret_boolE any_allG, f1⟩

/-! ### Names, each once -/
def unlK (l : List Tx) (k : Nat) : Prop := (l.take k).all nameB = true ∧ (l.take k).Nodup
theorem unlK_zero (l : List Tx) : unlK l 0 := ⟨rfl, List.nodup_nil⟩
theorem unlK_more {l : List Tx} {k : Nat} (h : k < l.length) (hu : unlK l k) (h1 : nameB l[k] = true) (h2 : ¬ l[k] ∈ l.take k) : unlK l (k + 1) := by
  unfold unlK
  rw [List.take_succ_eq_append_getElem h, List.all_append, List.nodup_append, hu.1]
  refine ⟨by simp [h1], hu.2, by simp, fun a ha b hb e => ?_⟩
  obtain rfl := List.mem_singleton.1 hb
  exact h2 (e ▸ ha)
theorem unlK_all {l : List Tx} {k : Nat} (h : l.length ≤ k) (hu : unlK l k) : unlB l = true := by
  unfold unlK at hu
  rw [List.take_of_length_le h] at hu
  unfold unlB
  rw [hu.1, decide_eq_true hu.2]; rfl
theorem unl_bad {l : List Tx} {k : Nat} (h : k < l.length) (h1 : nameB l[k] = false) : unlB l = false := by
  unfold unlB
  have : l.all nameB = false := by
    rw [List.all_eq_false]
    exact ⟨_, List.getElem_mem h, by rw [h1]; simp⟩
  rw [this]; rfl
theorem unl_dup {l : List Tx} {k : Nat} (h : k < l.length) (h1 : l[k] ∈ l.take k) : unlB l = false := by
  unfold unlB
  have : ¬ l.Nodup := by
    intro hn
    obtain ⟨j, hj, e⟩ := List.mem_iff_getElem.1 h1
    rw [List.length_take] at hj
    rw [List.getElem_take] at e
    have := (List.getElem_inj hn).1 e
    omega
  rw [decide_eq_false this, Bool.and_false]
set_option maxHeartbeats 1000000 in
theorem unln_any (v : Value) (l : List Tx) (w : World) (hv : Vs sv w v l) (hl : l.length ≤ 1000) (hb : ∀ x ∈ l, x.length ≤ 1000000000) :
    Calls Tryd.prog 51 #[v] w fun e w' => e = .returned (.bool (unlB l)) ∧ Fr Non w w' := by
  have HV := Lib.hid hv
  obtain ⟨A, c, rfl, hlc, hn, hcell⟩ := hv
  have HC := Lib.hid hcell
  have HN := Lib.hid hn
  have HB := Lib.hid hb
  have HLC := Lib.hid hlc
  clear hcell hn hb hlc
  go_enter Tryd.func51, Tryd.ntmps51
  go_wp2
  go_loopw [7] (fun i wr => ∃ (k : Nat), k ≤ l.length ∧ i = .int .i64 k ∧ Hid (unlK l k) ∧ Hid (Fr Non w wr)) (fun i _ => l.length - (intOf i).toNat)
  case atStart => exact ⟨0, Nat.zero_le _, rfl, Lib.hid (unlK_zero l), Lib.hid (Fr.refl _ _)⟩
  case round =>
    obtain ⟨k, hk, rfl, HT, FR⟩ := hrel
    by_cases hlt : k < l.length
    · cases A with
      | none => have := HN.out rfl; have := HLC.out; omega
      | some a =>
        have c0 := (FR.out.cell (World.block_lt_of_cell? _ _ (HC.out a rfl k hlt)) (fun e => e)).trans (HC.out a rfl k hlt)
        unfold sv at c0
        have HX := Lib.hid (fun e => unl_bad hlt e)
        have HX2 := Lib.hid (fun e => unl_dup hlt e)
        have HY := Lib.hid (fun e e2 => unlK_more hlt HT.out e e2)
        have N := Lib.hid (fun W => sname_any l[k] W (HB.out _ (List.getElem_mem hlt)))
        obtain ⟨A', c', hrun, hvs, -⟩ := slice_hiG el_str (some a) l.length c k .i64 (k : Int) rfl (by omega) HLC.out
        have HP := Lib.hid (fun W (hf : Fr Non w W) => pconts_any _ (l.take k) l[k] W (hvs sv W l rfl (HV.out.non hf)) (by rw [List.length_take]; omega))
        clear HT hvs
        generalize l[k] = y at *
        generalize l.take k = m at *
        cases hy : nameB y
        · have HE := Lib.hid (HX.out hy)
          rw [hy] at N
          clear HX HX2 HY HP hy hrun
          go_wp2_with fail
          refine (N.out _).mono ?_
          rintro e w1 ⟨rfl, f1⟩
          go_wp2
          go_ret
          exact ⟨ret_boolE HE.out.symm, FR.out.trans f1⟩
        · by_cases hin : y ∈ m
          · have HE := Lib.hid (HX2.out hin)
            rw [hy] at N
            rw [decide_eq_true hin] at HP
            clear HX HX2 HY hy hin
            go_wp2_with fail
            refine (N.out _).mono ?_
            rintro e w1 ⟨rfl, f1⟩
            have F1 := Lib.hid (FR.out.trans f1)
            clear f1
            go_wp2_with fail
            refine (HP.out _ F1.out).mono ?_
            rintro e w2 ⟨rfl, f2⟩
            go_wp2
            go_ret
            exact ⟨ret_boolE HE.out.symm, F1.out.trans f2⟩
          · have HE := Lib.hid (HY.out hy hin)
            rw [hy] at N
            rw [decide_eq_false hin] at HP
            clear HX HX2 HY hy hin
            go_wp2_with fail
            refine (N.out _).mono ?_
            rintro e w1 ⟨rfl, f1⟩
            have F1 := Lib.hid (FR.out.trans f1)
            clear f1
            go_wp2_with fail
            refine (HP.out _ F1.out).mono ?_
            rintro e w2 ⟨rfl, f2⟩
            go_wp2
            go_roundw
            case rel => exact ⟨k + 1, by omega, by go_num, HE, Lib.hid (F1.out.trans f2)⟩
            case measure => simp [intOf]; omega
    · have HE := Lib.hid (unlK_all (by omega) HT.out)
      clear HT
      go_wp2
      go_ret
      exact ⟨ret_boolE HE.out.symm, FR.out⟩
end Go.Proofs.YtibopcceffncpaaDoor
