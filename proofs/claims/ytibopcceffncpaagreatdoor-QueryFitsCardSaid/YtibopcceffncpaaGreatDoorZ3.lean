/-
  Joined: Layer 17: which predicates may be, the document's. · Layer 17: the text of a predicate, the program's. · Layer 17: the text of a predicate, the program's, op by op. · Layer 17: the columns of a predicate, both programs'.
-/
import Derived.Lib.Zigzag
import Derived.Lib.DecodeN
import Derived.Laws.RangeAny
import Derived.Laws.Cover4
import Derived.Laws.Cover1
import Derived.Deep.QuietTactic
import Derived.BigQuiet
import Derived.Deep.RegionHeld3
import Derived.Deep.DrawnRows
import Derived.Lib.SmallJoins
import Derived.Lib.AppendIntMem
import Derived.Laws.StructEq
import Derived.Laws.Rows
import Derived.Laws.ResultCell
import Derived.Deep.RegionWith
import Derived.Test.YtibopcceffncpaaGreatDoorZ2

namespace Go.Proofs.YtibopcceffncpaaGreatDoor
set_option linter.unusedVariables false
set_option linter.unusedSimpArgs false
set_option maxRecDepth 100000
open Go.RowKit

/-- an element's slice is what it was -/
theorem Kd.elN {w w' : World} {s : Kv} {ps : List Pd} (h : Kd w s ps) (hf : Fr Non w w') (j : Nat) (hj : j < ps.length) :
    ∃ a t, s.A = some a ∧ PCells w' (a.add (j * 9)) ps[j].hd t ∧ Kd w t ps[j].kids ∧ I64b ps[j].hd.val.num := by
  obtain ⟨a, t, hA, hc, hk, hb⟩ := h.el j hj
  refine ⟨a, t, hA, ?_, hk, hb⟩
  obtain ⟨c0, c1, c2, c3, c4, c5, c6, c7, c8⟩ := hc
  have q : ∀ (p : Addr) (v : Value), w.cell? p = some v → w'.cell? p = some v := fun p v e => (hf.cell (World.block_lt_of_cell? w _ e) (fun e => e)).trans e
  exact ⟨q _ _ c0, q _ _ c1, q _ _ c2, q _ _ c3, q _ _ c4, q _ _ c5, q _ _ c6, q _ _ c7, q _ _ c8⟩

/-! ### How many -/
theorem sizeL_at {ks : List Pd} {k : Nat} (h : k < ks.length) (m : Int) (d : Nat) (n : Int) (hn : ¬ 16 < n) : sizeL (ks.drop k) m d n = sizeL (ks.drop (k + 1)) m d (n + sizeP ks[k] (m - n) d) := by
  rw [List.drop_eq_getElem_cons h, sizeL, if_neg hn]
theorem sizeL_end {ks : List Pd} {k : Nat} (h : ks.length ≤ k) (m : Int) (d : Nat) (n : Int) : sizeL (ks.drop k) m d n = n := by rw [List.drop_eq_nil_of_le h, sizeL]
set_option maxHeartbeats 2000000 in
theorem rsize_any (p : Pd) : ∀ (t : Kv) (m : Int) (d : Nat) (dz : Int) (w : World), dz = d → Kd w t p.kids → lenP p = true → -100 ≤ m → m ≤ 16 → d ≤ 100 →
    Calls Tryz.prog 55 #[pdV p.hd t, .int .i64 m, .int .i64 dz] w fun e w' => e = .returned (.int .i64 (sizeP p m d)) ∧ Fr Non w w' := by
  induction p using Pd.ind with
  | h hd ks ih =>
    intro t m d dz w hdz hk hlen hm1 hm2 hd1
    subst hdz
    have hn : t.n = ks.length := hk.len
    have hls := (lenP_mk hlen).1
    have F0 : Fr Non w (w.alloc (.cells (pdC hd t) 28)) := (Fr.refl Non w).alloc _
    have HB := Lib.hid (pd_new w _ hd t rfl)
    have HS : Hid (¬ (d < 1 ∨ m < 1) → sizeP (.mk hd ks) m d = sizeL ks m (d - 1) 1) := Lib.hid (fun h => by rw [sizeP, if_neg h])
    have HS0 : Hid ((d < 1 ∨ m < 1) → sizeP (.mk hd ks) m d = 17) := Lib.hid (fun h => by rw [sizeP, if_pos h])
    have HBd : Hid (∀ (k : Nat) (h : k < ks.length) (m' : Int), m' ≤ 16 → 1 ≤ sizeP ks[k] m' (d - 1) ∧ sizeP ks[k] m' (d - 1) ≤ 17 + 17 * (d - 1 : Nat)) := Lib.hid (fun k h m' hm' => (size_is ks[k] m' (d - 1) hm').2.2)
    have IH : Hid (1 ≤ d → ∀ k (h : k < ks.length) (W : World) (t' : Kv) (m' : Int), Kd W t' ks[k].kids → -100 ≤ m' → m' ≤ 16 →
        Calls Tryz.prog 55 #[pdV ks[k].hd t', .int .i64 m', .int .i64 ((d : Int) - 1)] W fun e w' => e = .returned (.int .i64 (sizeP ks[k] m' (d - 1))) ∧ Fr Non W w') :=
      Lib.hid (fun h1 k h W t' m' a b c => ih _ (List.getElem_mem h) t' m' (d - 1) _ W (by omega) a ((lenP_mk hlen).2.2.2.2 _ (List.getElem_mem h)) b c (by omega))
    generalize sizeP (.mk hd ks) m d = r at *
    have HK : Hid (Kd w t ks) := Lib.hid hk
    have HF := Lib.hid F0
    clear ih hk hlen F0
    obtain ⟨ho, hc, hm, ⟨vn, vi, vt⟩, hkd, hp⟩ := hd
    obtain ⟨A, n, c⟩ := t
    dsimp only at hn
    unfold pdV pdC kidV
    dsimp only [Pd.hd, Pd.kids]
    have HL := Lib.hid hn
    have hn20 : n ≤ 20 := by omega
    clear hn hls
    by_cases h1 : d < 1
    · have HE := Lib.hid (HS0.out (.inl h1))
      clear HS HS0
      go_enter Tryz.func55, Tryz.ntmps55
      go_wp2
      go_ret
      exact ⟨ret_int HE.out.symm, HF.out⟩
    · by_cases h2 : m < 1
      · have HE := Lib.hid (HS0.out (.inr h2))
        clear HS HS0
        go_enter Tryz.func55, Tryz.ntmps55
        go_wp2
        go_ret
        exact ⟨ret_int HE.out.symm, HF.out⟩
      · have HE := Lib.hid (HS.out (by omega))
        have IH := Lib.hid (IH.out (by omega))
        clear HS HS0
        go_enter Tryz.func55, Tryz.ntmps55
        go_wp2
        go_loopw [7, 8] (fun v i wr => ∃ (k : Nat) (q : Int), k ≤ n ∧ i = .int .i64 k ∧ v = .int .i64 q ∧ 1 ≤ q ∧ q ≤ 4000 ∧ Hid (r = sizeL (ks.drop k) m (d - 1) q) ∧ Hid (Fr Non (w.alloc (.cells (pdC ⟨ho, hc, hm, ⟨vn, vi, vt⟩, hkd, hp⟩ ⟨A, n, c⟩) 28)) wr)) (fun _ i _ => n - (intOf i).toNat)
        case atStart => exact ⟨0, 1, Nat.zero_le _, rfl, rfl, by omega, by omega, HE, Lib.hid (Fr.refl _ _)⟩
        case round =>
          clear HE
          obtain ⟨k, q, hk, rfl, rfl, hq1, hq2, HE, FR⟩ := hrel
          have b8 := (HB.out.fr FR.out (fun e => e)).cell 8
          simp [pdC, kidV] at b8
          have HFw := Lib.hid (HF.out.trans FR.out)
          by_cases hlt : k < n
          · by_cases hq : q ≤ 16
            · have hlt2 : k < ks.length := by have := HL.out; omega
              obtain ⟨a, t, hA, hc2, hkk, _⟩ := HK.out.elN HFw.out k hlt2
              have HC := Lib.hid (IH.out k hlt2 wr t (m - q) (hkk.non HFw.out) (by omega) (by omega))
              have HY := Lib.hid (HE.out.trans (sizeL_at hlt2 m (d - 1) q (by omega)))
              have hbd := HBd.out k hlt2 (m - q) (by omega)
              have hs1 : 1 ≤ sizeP ks[k] (m - q) (d - 1) := hbd.1
              have hs2 : sizeP ks[k] (m - q) (d - 1) ≤ 3000 := by omega
              dsimp only at hA
              subst hA
              obtain ⟨c0, c1, c2, c3, c4, c5, c6, c7, c8⟩ := hc2
              clear hkk HE hbd
              generalize sizeP ks[k] (m - q) (d - 1) = z at *
              generalize ks[k].hd = x at *
              obtain ⟨xo, xc, xm, ⟨xn, xi, xt⟩, xk, xp⟩ := x
              obtain ⟨tA, tn, tc⟩ := t
              unfold pdV pdC kidV at HC
              dsimp only at HC c0 c1 c2 c3 c4 c5 c6 c7 c8
              go_wp2_with fail
              refine HC.out.mono ?_
              rintro e w2 ⟨rfl, f2⟩
              go_wp2
              go_roundw
              case rel => exact ⟨k + 1, q + z, by omega, by go_num, by go_num, by omega, by omega, HY, Lib.hid (FR.out.trans f2)⟩
              case measure => simp [intOf]; omega
            · have HE2 : Hid (r = q) := Lib.hid (HE.out.trans (sizeL_big _ m (d - 1) q (by omega)))
              clear HE
              go_wp2
              go_ret
              exact ⟨ret_int HE2.out.symm, HFw.out⟩
          · have HE2 : Hid (r = q) := Lib.hid (HE.out.trans (sizeL_end (by have := HL.out; omega) m (d - 1) q))
            clear HE
            go_wp2
            go_ret
            exact ⟨ret_int HE2.out.symm, HFw.out⟩

/-! ### One -/
/-- but for those within -/
def baseOk (h : Ph) (n : Nat) : Bool :=
  if h.op = 1 then decide (n = 0) && peq h ⟨h.op, [], 0, zCl, 0, []⟩
  else if h.op = 2 then nameB h.col && decide (1 ≤ h.cmp ∧ h.cmp ≤ 6) && mayC h.kind false h.val && decide (n = 0) && peq h ⟨h.op, h.col, h.cmp, h.val, h.kind, []⟩
  else if h.op = 3 then nameB h.col && decide (n = 0) && peq h ⟨h.op, h.col, 0, zCl, 0, []⟩
  else if h.op = 4 then nameB h.col && decide (h.pat.length ≤ 40) && decide (n = 0) && peq h ⟨h.op, h.col, 0, zCl, 0, h.pat⟩
  else if h.op = 5 then decide (n = 1) && peq h ⟨h.op, [], 0, zCl, 0, []⟩
  else if h.op = 6 ∨ h.op = 7 then decide (1 < n) && peq h ⟨h.op, [], 0, zCl, 0, []⟩
  else false
def okk (op : Int) (x : Pd) : Bool := oneP x && !(decide (6 ≤ op) && x.hd.op == op)
theorem all_okk (op : Int) (l : List Pd) : l.all (okk op) = (l.all oneP && !(decide (6 ≤ op) && kidOp op l)) := by
  unfold kidOp
  induction l with
  | nil => simp
  | cons x l ih =>
    rw [List.all_cons, List.all_cons, List.any_cons, ih]
    unfold okk
    cases oneP x <;> cases decide (6 ≤ op) <;> cases (x.hd.op == op) <;> cases l.all oneP <;> cases l.any (fun k => k.hd.op == op) <;> rfl
theorem one_base (h : Ph) (ks : List Pd) (n : Nat) (hn : n = ks.length) : oneP (.mk h ks) = (baseOk h n && ks.all (okk h.op)) := by
  subst hn
  rw [oneP, oneL_all, all_okk]
  unfold hdOk baseOk bareH askOk peq
  by_cases h1 : h.op = 1
  · rw [if_pos h1, if_pos h1, decide_eq_false (show ¬ 6 ≤ h.op by omega)]; simp
  · rw [if_neg h1, if_neg h1]
    by_cases h2 : h.op = 2
    · rw [if_pos (.inl h2), if_pos h2, if_pos h2, decide_eq_false (show ¬ 6 ≤ h.op by omega)]
      simp only [Bool.false_and, Bool.not_false, Bool.and_true]
      congr 1
      cases nameB h.col <;> cases decide (1 ≤ h.cmp ∧ h.cmp ≤ 6) <;> cases mayC h.kind false h.val <;> cases decide (ks.length = 0) <;> simp
    · rw [if_neg h2, if_neg h2]
      by_cases h3 : h.op = 3
      · rw [if_pos (.inr (.inl h3)), if_pos h3, if_neg (show ¬ h.op = 4 by omega), decide_eq_false (show ¬ 6 ≤ h.op by omega)]
        simp only [Bool.false_and, Bool.not_false, Bool.and_true]
        congr 1
        cases nameB h.col <;> cases decide (ks.length = 0) <;> simp
      · rw [if_neg h3]
        by_cases h4 : h.op = 4
        · rw [if_pos (.inr (.inr h4)), if_pos h4, if_pos h4, decide_eq_false (show ¬ 6 ≤ h.op by omega)]
          simp only [Bool.false_and, Bool.not_false, Bool.and_true]
          congr 1
          cases nameB h.col <;> cases decide (h.pat.length ≤ 40) <;> cases decide (ks.length = 0) <;> simp
        · rw [if_neg (by omega), if_neg h4]
          by_cases h5 : h.op = 5
          · rw [if_pos h5, if_pos h5, decide_eq_false (show ¬ 6 ≤ h.op by omega)]; simp
          · rw [if_neg h5, if_neg h5]
            by_cases h6 : h.op = 6 ∨ h.op = 7
            · rw [if_pos h6, if_pos h6, decide_eq_true (show 6 ≤ h.op by omega)]
              simp only [Bool.true_and]
              cases kidOp h.op ks <;> cases ks.all oneP <;> simp
            · rw [if_neg h6, if_neg h6]; rfl
theorem all_no {op : Int} {ks : List Pd} {k : Nat} (h : k < ks.length) (hb : okk op ks[k] = false) : ks.all (okk op) = false := by
  rw [List.all_eq_false]; exact ⟨_, List.getElem_mem h, by rw [hb]; simp⟩
theorem all_yes {op : Int} {ks : List Pd} {k : Nat} (h : ks.length ≤ k) (hb : ∀ j (h : j < ks.length), j < k → okk op ks[j] = true) : ks.all (okk op) = true := by
  rw [List.all_eq_true]
  intro x hx
  obtain ⟨j, hj, rfl⟩ := List.mem_iff_getElem.1 hx
  exact hb j hj (by omega)
theorem okk_more {op : Int} {ks : List Pd} {k : Nat} (hb : ∀ j (h : j < ks.length), j < k → okk op ks[j] = true) (h : k < ks.length) (hk : okk op ks[k] = true) : ∀ j (h : j < ks.length), j < k + 1 → okk op ks[j] = true := by
  intro j hj hlt
  by_cases e : j = k
  · subst e; exact hk
  · exact hb j hj (by omega)

theorem three_new (w : World) (g : Nat) (a b d : Ph) (s t u : Kv) (hg : w.heap.size = g) :
    PdB (((w.alloc (.cells (pdC a s) 28)).alloc (.cells (pdC b t) 28)).alloc (.cells (pdC d u) 28)) g a s ∧
    PdB (((w.alloc (.cells (pdC a s) 28)).alloc (.cells (pdC b t) 28)).alloc (.cells (pdC d u) 28)) (g + 1) b t ∧
    PdB (((w.alloc (.cells (pdC a s) 28)).alloc (.cells (pdC b t) 28)).alloc (.cells (pdC d u) 28)) (g + 1 + 1) d u := by
  have h := pd2_new w g a b s t hg.symm
  refine ⟨h.1.fr ((Fr.refl Non _).alloc _) (fun e => e), h.2.fr ((Fr.refl Non _).alloc _) (fun e => e), pd_new _ _ d u (by simp; omega)⟩

set_option maxHeartbeats 8000000 in
theorem rone1_any (h0_ : Ph) (ks : List Pd) (t : Kv) (w : World) (hop : h0_.op = 1) (hk : Kd w t ks) (hl : ks.length ≤ 20) (hcl : h0_.col.length ≤ 100)
    (IH : Hid (∀ k (h : k < ks.length) (W : World) (t' : Kv), Kd W t' ks[k].kids → Calls Tryz.prog 56 #[pdV ks[k].hd t'] W fun e w' => e = .returned (.bool (oneP ks[k])) ∧ Fr Non W w')) :
    Calls Tryz.prog 56 #[pdV h0_ t] w fun e w' => e = .returned (.bool (oneP (.mk h0_ ks))) ∧ Fr Non w w' := by
  have hn : t.n = ks.length := hk.len
  have N1 := Lib.hid (fun W => rname_any h0_.col W (by omega))
  have M1 := Lib.hid (fun W => rmay_any h0_.kind false h0_.val W)
  have HE := Lib.hid (one_base h0_ ks t.n hn)
  generalize oneP (.mk h0_ ks) = r at *
  have HK : Hid (Kd w t ks) := Lib.hid hk
  have PB0 : Hid (∀ b d, PdB (((w.alloc (.cells (pdC h0_ t) 28)).alloc b).alloc d) w.heap.size h0_ t) := Lib.hid (fun b d => (pd_new w _ h0_ t rfl).fr (((Fr.refl Non _).alloc b).alloc d) (fun e => e))
  obtain ⟨op, col, cmp, ⟨vn, vi, vt⟩, kind, pat⟩ := h0_
  obtain ⟨A, n, c⟩ := t
  dsimp only at hn hop hcl HE
  have HL := Lib.hid hn
  have hn20 : n ≤ 20 := by omega
  have hs := slen pat
  clear hn hk hl
  unfold pdV pdC kidV
  unfold clV clC at M1
  dsimp only at *
  subst hop
  have FL := Lib.hid (fun W => flat_any ⟨1, col, cmp, ⟨vn, vi, vt⟩, kind, pat⟩ ⟨1, [], 0, zCl, 0, []⟩ noKv noKv W)
  have HE0 : Hid (r = (baseOk ⟨1, col, cmp, ⟨vn, vi, vt⟩, kind, pat⟩ n && ks.all (okk 1))) := HE
  clear HE
  unfold pdV pdC kidV noKv at FL
  replace HE0 : Hid (r = (decide (n = 0) && peq ⟨1, col, cmp, ⟨vn, vi, vt⟩, kind, pat⟩ ⟨1, [], 0, zCl, 0, []⟩ && ks.all (okk 1))) := HE0
  generalize peq ⟨1, col, cmp, ⟨vn, vi, vt⟩, kind, pat⟩ ⟨1, [], 0, zCl, 0, []⟩ = q at *
  unfold zCl at FL
  dsimp only at FL
  clear N1 M1
  by_cases h0 : n = 0
  · subst h0
    have HE1 : Hid (r = (q && ks.all (okk 1))) := Lib.hid (by rw [HE0.out]; simp)
    clear HE0
    have HE0 := HE1
    clear HE1
    go_enter Tryz.func56, Tryz.ntmps56
    go_wp2_with fail
    refine (FL.out _).mono ?_
    rintro e w1 ⟨rfl, f1⟩
    have F1 := Lib.hid ((((((Fr.refl Non w).alloc _).alloc _).alloc _)).trans f1)
    have PB := Lib.hid (((PB0.out _ _)).fr f1 (fun e => e))
    have HK1 := HK
    obtain ⟨g0, g1, g2, g3, g4, g5, g6, g7, g8⟩ := pdB_cells PB.out
    dsimp only at g0 g1 g2 g3 g4 g5 g6 g7 g8
    clear f1 HK1
    cases q
    · go_wp2
      go_ret
      exact ⟨ret_boolE (by rw [HE0.out]; simp), F1.out⟩
    · have HE : Hid (r = ks.all (okk 1)) := Lib.hid (by rw [HE0.out]; simp)
      clear HE0
      go_wp2
      go_loopw [5] (fun i wr => ∃ k : Nat, k ≤ 0 ∧ i = .int .i64 k ∧ Hid (∀ j (h : j < ks.length), j < k → okk 1 ks[j] = true) ∧ Hid (Fr Non w1 wr)) (fun i _ => 0 - (intOf i).toNat)
      case atStart => exact ⟨0, Nat.zero_le _, rfl, Lib.hid (fun _ _ h => by omega), Lib.hid (Fr.refl _ _)⟩
      case round =>
        clear g0 g1 g2 g3 g4 g5 g6 g7 g8
        obtain ⟨k, hk, rfl, HT, FR⟩ := hrel
        have FW := Lib.hid (F1.out.trans FR.out)
        by_cases hlt : k < 0
        · exact absurd hlt (by omega)
        · have b8 := (PB.out.fr FR.out (fun e => e)).cell 8
          simp [pdC, kidV] at b8
          have HE2 := Lib.hid (all_yes (op := 1) (by have := HL.out; omega) HT.out)
          clear HT
          go_wp2
          go_ret
          exact ⟨ret_boolE (by rw [HE.out, HE2.out]), FW.out⟩
  · have HE1 : Hid (r = false) := Lib.hid (by rw [HE0.out, decide_eq_false h0]; simp)
    have hb : 0 < n := by omega
    clear HE0 h0
    go_enter Tryz.func56, Tryz.ntmps56
    go_wp2
    go_ret
    exact ⟨ret_boolE HE1.out.symm, (((Fr.refl Non w).alloc _).alloc _).alloc _⟩

set_option maxHeartbeats 8000000 in
theorem rone2_any (h0_ : Ph) (ks : List Pd) (t : Kv) (w : World) (hop : h0_.op = 2) (hk : Kd w t ks) (hl : ks.length ≤ 20) (hcl : h0_.col.length ≤ 100)
    (IH : Hid (∀ k (h : k < ks.length) (W : World) (t' : Kv), Kd W t' ks[k].kids → Calls Tryz.prog 56 #[pdV ks[k].hd t'] W fun e w' => e = .returned (.bool (oneP ks[k])) ∧ Fr Non W w')) :
    Calls Tryz.prog 56 #[pdV h0_ t] w fun e w' => e = .returned (.bool (oneP (.mk h0_ ks))) ∧ Fr Non w w' := by
  have hn : t.n = ks.length := hk.len
  have N1 := Lib.hid (fun W => rname_any h0_.col W (by omega))
  have M1 := Lib.hid (fun W => rmay_any h0_.kind false h0_.val W)
  have HE := Lib.hid (one_base h0_ ks t.n hn)
  generalize oneP (.mk h0_ ks) = r at *
  have HK : Hid (Kd w t ks) := Lib.hid hk
  have PB0 : Hid (∀ b d, PdB (((w.alloc (.cells (pdC h0_ t) 28)).alloc b).alloc d) w.heap.size h0_ t) := Lib.hid (fun b d => (pd_new w _ h0_ t rfl).fr (((Fr.refl Non _).alloc b).alloc d) (fun e => e))
  obtain ⟨op, col, cmp, ⟨vn, vi, vt⟩, kind, pat⟩ := h0_
  obtain ⟨A, n, c⟩ := t
  dsimp only at hn hop hcl HE
  have HL := Lib.hid hn
  have hn20 : n ≤ 20 := by omega
  have hs := slen pat
  clear hn hk hl
  unfold pdV pdC kidV
  unfold clV clC at M1
  dsimp only at *
  subst hop
  have FL := Lib.hid (fun W => flat_any ⟨2, col, cmp, ⟨vn, vi, vt⟩, kind, pat⟩ ⟨2, col, cmp, ⟨vn, vi, vt⟩, kind, []⟩ noKv noKv W)
  have HE0 : Hid (r = (baseOk ⟨2, col, cmp, ⟨vn, vi, vt⟩, kind, pat⟩ n && ks.all (okk 2))) := HE
  clear HE
  unfold pdV pdC kidV noKv at FL
  replace HE0 : Hid (r = (nameB col && decide (1 ≤ cmp ∧ cmp ≤ 6) && mayC kind false ⟨vn, vi, vt⟩ && decide (n = 0) && peq ⟨2, col, cmp, ⟨vn, vi, vt⟩, kind, pat⟩ ⟨2, col, cmp, ⟨vn, vi, vt⟩, kind, []⟩ && ks.all (okk 2))) := HE0
  generalize peq ⟨2, col, cmp, ⟨vn, vi, vt⟩, kind, pat⟩ ⟨2, col, cmp, ⟨vn, vi, vt⟩, kind, []⟩ = q at *
  dsimp only at FL
  generalize nameB col = b1 at *
  generalize mayC kind false ⟨vn, vi, vt⟩ = b2 at *
  cases b1
  · have HE1 : Hid (r = false) := Lib.hid (by rw [HE0.out]; simp)
    clear HE0
    go_enter Tryz.func56, Tryz.ntmps56
    go_wp2_with fail
    refine (N1.out _).mono ?_
    rintro e wn ⟨rfl, fn⟩
    go_wp2
    go_ret
    exact ⟨ret_boolE HE1.out.symm, ((((Fr.refl Non w).alloc _).alloc _).alloc _).trans fn⟩
  · by_cases h1 : 1 ≤ cmp
    · by_cases h6 : cmp ≤ 6
      · cases b2
        · have HE1 : Hid (r = false) := Lib.hid (by rw [HE0.out]; simp)
          clear HE0
          go_enter Tryz.func56, Tryz.ntmps56
          go_wp2_with fail
          refine (N1.out _).mono ?_
          rintro e wn ⟨rfl, fn⟩
          have FN : Hid (Fr Non w wn) := Lib.hid (((((Fr.refl Non w).alloc _).alloc _).alloc _).trans fn)
          have Q := three_new w w.heap.size ⟨2, col, cmp, ⟨vn, vi, vt⟩, kind, pat⟩ ⟨2, col, cmp, ⟨vn, vi, vt⟩, kind, pat⟩ ⟨2, col, cmp, ⟨vn, vi, vt⟩, kind, []⟩ ⟨A, n, c⟩ noKv noKv rfl
          have PBn : Hid (PdB wn w.heap.size ⟨2, col, cmp, ⟨vn, vi, vt⟩, kind, pat⟩ ⟨A, n, c⟩) := Lib.hid (Q.1.fr fn (fun e => e))
          have PB3 : Hid (PdB wn (w.heap.size + 1) ⟨2, col, cmp, ⟨vn, vi, vt⟩, kind, pat⟩ noKv) := Lib.hid (Q.2.1.fr fn (fun e => e))
          have PB4 : Hid (PdB wn (w.heap.size + 1 + 1) ⟨2, col, cmp, ⟨vn, vi, vt⟩, kind, []⟩ noKv) := Lib.hid (Q.2.2.fr fn (fun e => e))
          clear Q fn
          obtain ⟨g0, g1, g2, g3, g4, g5, g6, g7, g8⟩ := pdB_cells PBn.out
          dsimp only at g0 g1 g2 g3 g4 g5 g6 g7 g8
          obtain ⟨d0, d1, d2, d3, d4, d5, d6, d7, d8⟩ := pdB_cells PB3.out
          obtain ⟨e0, e1, e2, e3, e4, e5, e6, e7, e8⟩ := pdB_cells PB4.out
          dsimp only at d0 d1 d2 d3 d4 d5 d6 d7 d8 e0 e1 e2 e3 e4 e5 e6 e7 e8
          go_wp2_with fail
          refine (M1.out _).mono ?_
          rintro e wm ⟨rfl, fm⟩
          go_wp2
          go_ret
          exact ⟨ret_boolE HE1.out.symm, FN.out.trans fm⟩
        · have HE9 : Hid (r = (decide (n = 0) && q && ks.all (okk 2))) := Lib.hid (by rw [HE0.out, decide_eq_true (show 1 ≤ cmp ∧ cmp ≤ 6 from ⟨h1, h6⟩)]; simp)
          clear HE0
          have HE0 := HE9
          clear HE9
          by_cases h0 : n = 0
          · subst h0
            have HE1 : Hid (r = (q && ks.all (okk 2))) := Lib.hid (by rw [HE0.out]; simp)
            clear HE0
            have HE0 := HE1
            clear HE1
            go_enter Tryz.func56, Tryz.ntmps56
            go_wp2_with fail
            refine (N1.out _).mono ?_
            rintro e wn ⟨rfl, fn⟩
            have FN : Hid (Fr Non w wn) := Lib.hid (((((Fr.refl Non w).alloc _).alloc _).alloc _).trans fn)
            have Q := three_new w w.heap.size ⟨2, col, cmp, ⟨vn, vi, vt⟩, kind, pat⟩ ⟨2, col, cmp, ⟨vn, vi, vt⟩, kind, pat⟩ ⟨2, col, cmp, ⟨vn, vi, vt⟩, kind, []⟩ ⟨A, 0, c⟩ noKv noKv rfl
            have PBn : Hid (PdB wn w.heap.size ⟨2, col, cmp, ⟨vn, vi, vt⟩, kind, pat⟩ ⟨A, 0, c⟩) := Lib.hid (Q.1.fr fn (fun e => e))
            have PB3 : Hid (PdB wn (w.heap.size + 1) ⟨2, col, cmp, ⟨vn, vi, vt⟩, kind, pat⟩ noKv) := Lib.hid (Q.2.1.fr fn (fun e => e))
            have PB4 : Hid (PdB wn (w.heap.size + 1 + 1) ⟨2, col, cmp, ⟨vn, vi, vt⟩, kind, []⟩ noKv) := Lib.hid (Q.2.2.fr fn (fun e => e))
            clear Q fn
            obtain ⟨g0, g1, g2, g3, g4, g5, g6, g7, g8⟩ := pdB_cells PBn.out
            dsimp only at g0 g1 g2 g3 g4 g5 g6 g7 g8
            obtain ⟨d0, d1, d2, d3, d4, d5, d6, d7, d8⟩ := pdB_cells PB3.out
            obtain ⟨e0, e1, e2, e3, e4, e5, e6, e7, e8⟩ := pdB_cells PB4.out
            dsimp only at d0 d1 d2 d3 d4 d5 d6 d7 d8 e0 e1 e2 e3 e4 e5 e6 e7 e8
            go_wp2_with fail
            refine (M1.out _).mono ?_
            rintro e wm ⟨rfl, fm⟩
            have FM := Lib.hid (FN.out.trans fm)
            have PBm := Lib.hid (PBn.out.fr fm (fun e => e))
            have PB5 := Lib.hid (PB3.out.fr fm (fun e => e))
            have PB6 := Lib.hid (PB4.out.fr fm (fun e => e))
            clear g0 g1 g2 g3 g4 g5 g6 g7 g8 d0 d1 d2 d3 d4 d5 d6 d7 d8 e0 e1 e2 e3 e4 e5 e6 e7 e8 fm
            obtain ⟨g0, g1, g2, g3, g4, g5, g6, g7, g8⟩ := pdB_cells PBm.out
            obtain ⟨d0, d1, d2, d3, d4, d5, d6, d7, d8⟩ := pdB_cells PB5.out
            obtain ⟨e0, e1, e2, e3, e4, e5, e6, e7, e8⟩ := pdB_cells PB6.out
            dsimp only at g0 g1 g2 g3 g4 g5 g6 g7 g8 d0 d1 d2 d3 d4 d5 d6 d7 d8 e0 e1 e2 e3 e4 e5 e6 e7 e8
            go_wp2_with fail
            refine (FL.out _).mono ?_
            rintro e w1 ⟨rfl, f1⟩
            have F1 := Lib.hid ((FM.out).trans f1)
            have PB := Lib.hid ((PBm.out).fr f1 (fun e => e))
            have HK1 := HK
            obtain ⟨g0, g1, g2, g3, g4, g5, g6, g7, g8⟩ := pdB_cells PB.out
            dsimp only at g0 g1 g2 g3 g4 g5 g6 g7 g8
            clear f1 HK1
            cases q
            · go_wp2
              go_ret
              exact ⟨ret_boolE (by rw [HE0.out]; simp), F1.out⟩
            · have HE : Hid (r = ks.all (okk 2)) := Lib.hid (by rw [HE0.out]; simp)
              clear HE0
              go_wp2
              go_loopw [5] (fun i wr => ∃ k : Nat, k ≤ 0 ∧ i = .int .i64 k ∧ Hid (∀ j (h : j < ks.length), j < k → okk 2 ks[j] = true) ∧ Hid (Fr Non w1 wr)) (fun i _ => 0 - (intOf i).toNat)
              case atStart => exact ⟨0, Nat.zero_le _, rfl, Lib.hid (fun _ _ h => by omega), Lib.hid (Fr.refl _ _)⟩
              case round =>
                clear g0 g1 g2 g3 g4 g5 g6 g7 g8
                obtain ⟨k, hk, rfl, HT, FR⟩ := hrel
                have FW := Lib.hid (F1.out.trans FR.out)
                by_cases hlt : k < 0
                · exact absurd hlt (by omega)
                · have b8 := (PB.out.fr FR.out (fun e => e)).cell 8
                  simp [pdC, kidV] at b8
                  have HE2 := Lib.hid (all_yes (op := 2) (by have := HL.out; omega) HT.out)
                  clear HT
                  go_wp2
                  go_ret
                  exact ⟨ret_boolE (by rw [HE.out, HE2.out]), FW.out⟩
          · have HE1 : Hid (r = false) := Lib.hid (by rw [HE0.out, decide_eq_false h0]; simp)
            have hb : 0 < n := by omega
            clear HE0 h0
            go_enter Tryz.func56, Tryz.ntmps56
            go_wp2_with fail
            refine (N1.out _).mono ?_
            rintro e wn ⟨rfl, fn⟩
            have FN : Hid (Fr Non w wn) := Lib.hid (((((Fr.refl Non w).alloc _).alloc _).alloc _).trans fn)
            have Q := three_new w w.heap.size ⟨2, col, cmp, ⟨vn, vi, vt⟩, kind, pat⟩ ⟨2, col, cmp, ⟨vn, vi, vt⟩, kind, pat⟩ ⟨2, col, cmp, ⟨vn, vi, vt⟩, kind, []⟩ ⟨A, n, c⟩ noKv noKv rfl
            have PBn : Hid (PdB wn w.heap.size ⟨2, col, cmp, ⟨vn, vi, vt⟩, kind, pat⟩ ⟨A, n, c⟩) := Lib.hid (Q.1.fr fn (fun e => e))
            have PB3 : Hid (PdB wn (w.heap.size + 1) ⟨2, col, cmp, ⟨vn, vi, vt⟩, kind, pat⟩ noKv) := Lib.hid (Q.2.1.fr fn (fun e => e))
            have PB4 : Hid (PdB wn (w.heap.size + 1 + 1) ⟨2, col, cmp, ⟨vn, vi, vt⟩, kind, []⟩ noKv) := Lib.hid (Q.2.2.fr fn (fun e => e))
            clear Q fn
            obtain ⟨g0, g1, g2, g3, g4, g5, g6, g7, g8⟩ := pdB_cells PBn.out
            dsimp only at g0 g1 g2 g3 g4 g5 g6 g7 g8
            obtain ⟨d0, d1, d2, d3, d4, d5, d6, d7, d8⟩ := pdB_cells PB3.out
            obtain ⟨e0, e1, e2, e3, e4, e5, e6, e7, e8⟩ := pdB_cells PB4.out
            dsimp only at d0 d1 d2 d3 d4 d5 d6 d7 d8 e0 e1 e2 e3 e4 e5 e6 e7 e8
            go_wp2_with fail
            refine (M1.out _).mono ?_
            rintro e wm ⟨rfl, fm⟩
            have FM := Lib.hid (FN.out.trans fm)
            have PBm := Lib.hid (PBn.out.fr fm (fun e => e))
            have PB5 := Lib.hid (PB3.out.fr fm (fun e => e))
            have PB6 := Lib.hid (PB4.out.fr fm (fun e => e))
            clear g0 g1 g2 g3 g4 g5 g6 g7 g8 d0 d1 d2 d3 d4 d5 d6 d7 d8 e0 e1 e2 e3 e4 e5 e6 e7 e8 fm
            obtain ⟨g0, g1, g2, g3, g4, g5, g6, g7, g8⟩ := pdB_cells PBm.out
            obtain ⟨d0, d1, d2, d3, d4, d5, d6, d7, d8⟩ := pdB_cells PB5.out
            obtain ⟨e0, e1, e2, e3, e4, e5, e6, e7, e8⟩ := pdB_cells PB6.out
            dsimp only at g0 g1 g2 g3 g4 g5 g6 g7 g8 d0 d1 d2 d3 d4 d5 d6 d7 d8 e0 e1 e2 e3 e4 e5 e6 e7 e8
            go_wp2
            go_ret
            exact ⟨ret_boolE HE1.out.symm, FM.out⟩
      · have HE1 : Hid (r = false) := Lib.hid (by rw [HE0.out, decide_eq_false (show ¬ (1 ≤ cmp ∧ cmp ≤ 6) from fun e => h6 e.2)]; simp)
        clear HE0
        go_enter Tryz.func56, Tryz.ntmps56
        go_wp2_with fail
        refine (N1.out _).mono ?_
        rintro e wn ⟨rfl, fn⟩
        have FN : Hid (Fr Non w wn) := Lib.hid (((((Fr.refl Non w).alloc _).alloc _).alloc _).trans fn)
        have Q := three_new w w.heap.size ⟨2, col, cmp, ⟨vn, vi, vt⟩, kind, pat⟩ ⟨2, col, cmp, ⟨vn, vi, vt⟩, kind, pat⟩ ⟨2, col, cmp, ⟨vn, vi, vt⟩, kind, []⟩ ⟨A, n, c⟩ noKv noKv rfl
        have PBn : Hid (PdB wn w.heap.size ⟨2, col, cmp, ⟨vn, vi, vt⟩, kind, pat⟩ ⟨A, n, c⟩) := Lib.hid (Q.1.fr fn (fun e => e))
        have PB3 : Hid (PdB wn (w.heap.size + 1) ⟨2, col, cmp, ⟨vn, vi, vt⟩, kind, pat⟩ noKv) := Lib.hid (Q.2.1.fr fn (fun e => e))
        have PB4 : Hid (PdB wn (w.heap.size + 1 + 1) ⟨2, col, cmp, ⟨vn, vi, vt⟩, kind, []⟩ noKv) := Lib.hid (Q.2.2.fr fn (fun e => e))
        clear Q fn
        obtain ⟨g0, g1, g2, g3, g4, g5, g6, g7, g8⟩ := pdB_cells PBn.out
        dsimp only at g0 g1 g2 g3 g4 g5 g6 g7 g8
        obtain ⟨d0, d1, d2, d3, d4, d5, d6, d7, d8⟩ := pdB_cells PB3.out
        obtain ⟨e0, e1, e2, e3, e4, e5, e6, e7, e8⟩ := pdB_cells PB4.out
        dsimp only at d0 d1 d2 d3 d4 d5 d6 d7 d8 e0 e1 e2 e3 e4 e5 e6 e7 e8
        go_wp2
        go_ret
        exact ⟨ret_boolE HE1.out.symm, FN.out⟩
    · have HE1 : Hid (r = false) := Lib.hid (by rw [HE0.out, decide_eq_false (show ¬ (1 ≤ cmp ∧ cmp ≤ 6) from fun e => h1 e.1)]; simp)
      clear HE0
      go_enter Tryz.func56, Tryz.ntmps56
      go_wp2_with fail
      refine (N1.out _).mono ?_
      rintro e wn ⟨rfl, fn⟩
      have FN : Hid (Fr Non w wn) := Lib.hid (((((Fr.refl Non w).alloc _).alloc _).alloc _).trans fn)
      have Q := three_new w w.heap.size ⟨2, col, cmp, ⟨vn, vi, vt⟩, kind, pat⟩ ⟨2, col, cmp, ⟨vn, vi, vt⟩, kind, pat⟩ ⟨2, col, cmp, ⟨vn, vi, vt⟩, kind, []⟩ ⟨A, n, c⟩ noKv noKv rfl
      have PBn : Hid (PdB wn w.heap.size ⟨2, col, cmp, ⟨vn, vi, vt⟩, kind, pat⟩ ⟨A, n, c⟩) := Lib.hid (Q.1.fr fn (fun e => e))
      have PB3 : Hid (PdB wn (w.heap.size + 1) ⟨2, col, cmp, ⟨vn, vi, vt⟩, kind, pat⟩ noKv) := Lib.hid (Q.2.1.fr fn (fun e => e))
      have PB4 : Hid (PdB wn (w.heap.size + 1 + 1) ⟨2, col, cmp, ⟨vn, vi, vt⟩, kind, []⟩ noKv) := Lib.hid (Q.2.2.fr fn (fun e => e))
      clear Q fn
      obtain ⟨g0, g1, g2, g3, g4, g5, g6, g7, g8⟩ := pdB_cells PBn.out
      dsimp only at g0 g1 g2 g3 g4 g5 g6 g7 g8
      obtain ⟨d0, d1, d2, d3, d4, d5, d6, d7, d8⟩ := pdB_cells PB3.out
      obtain ⟨e0, e1, e2, e3, e4, e5, e6, e7, e8⟩ := pdB_cells PB4.out
      dsimp only at d0 d1 d2 d3 d4 d5 d6 d7 d8 e0 e1 e2 e3 e4 e5 e6 e7 e8
      go_wp2
      go_ret
      exact ⟨ret_boolE HE1.out.symm, FN.out⟩

set_option maxHeartbeats 8000000 in
theorem rone3_any (h0_ : Ph) (ks : List Pd) (t : Kv) (w : World) (hop : h0_.op = 3) (hk : Kd w t ks) (hl : ks.length ≤ 20) (hcl : h0_.col.length ≤ 100)
    (IH : Hid (∀ k (h : k < ks.length) (W : World) (t' : Kv), Kd W t' ks[k].kids → Calls Tryz.prog 56 #[pdV ks[k].hd t'] W fun e w' => e = .returned (.bool (oneP ks[k])) ∧ Fr Non W w')) :
    Calls Tryz.prog 56 #[pdV h0_ t] w fun e w' => e = .returned (.bool (oneP (.mk h0_ ks))) ∧ Fr Non w w' := by
  have hn : t.n = ks.length := hk.len
  have N1 := Lib.hid (fun W => rname_any h0_.col W (by omega))
  have M1 := Lib.hid (fun W => rmay_any h0_.kind false h0_.val W)
  have HE := Lib.hid (one_base h0_ ks t.n hn)
  generalize oneP (.mk h0_ ks) = r at *
  have HK : Hid (Kd w t ks) := Lib.hid hk
  have PB0 : Hid (∀ b d, PdB (((w.alloc (.cells (pdC h0_ t) 28)).alloc b).alloc d) w.heap.size h0_ t) := Lib.hid (fun b d => (pd_new w _ h0_ t rfl).fr (((Fr.refl Non _).alloc b).alloc d) (fun e => e))
  obtain ⟨op, col, cmp, ⟨vn, vi, vt⟩, kind, pat⟩ := h0_
  obtain ⟨A, n, c⟩ := t
  dsimp only at hn hop hcl HE
  have HL := Lib.hid hn
  have hn20 : n ≤ 20 := by omega
  have hs := slen pat
  clear hn hk hl
  unfold pdV pdC kidV
  unfold clV clC at M1
  dsimp only at *
  subst hop
  have FL := Lib.hid (fun W => flat_any ⟨3, col, cmp, ⟨vn, vi, vt⟩, kind, pat⟩ ⟨3, col, 0, zCl, 0, []⟩ noKv noKv W)
  have HE0 : Hid (r = (baseOk ⟨3, col, cmp, ⟨vn, vi, vt⟩, kind, pat⟩ n && ks.all (okk 3))) := HE
  clear HE
  unfold pdV pdC kidV noKv at FL
  replace HE0 : Hid (r = (nameB col && decide (n = 0) && peq ⟨3, col, cmp, ⟨vn, vi, vt⟩, kind, pat⟩ ⟨3, col, 0, zCl, 0, []⟩ && ks.all (okk 3))) := HE0
  generalize peq ⟨3, col, cmp, ⟨vn, vi, vt⟩, kind, pat⟩ ⟨3, col, 0, zCl, 0, []⟩ = q at *
  unfold zCl at FL
  dsimp only at FL
  clear M1
  generalize nameB col = b1 at *
  cases b1
  · have HE1 : Hid (r = false) := Lib.hid (by rw [HE0.out]; simp)
    clear HE0
    go_enter Tryz.func56, Tryz.ntmps56
    go_wp2_with fail
    refine (N1.out _).mono ?_
    rintro e wn ⟨rfl, fn⟩
    go_wp2
    go_ret
    exact ⟨ret_boolE HE1.out.symm, ((((Fr.refl Non w).alloc _).alloc _).alloc _).trans fn⟩
  · have HE9 : Hid (r = (decide (n = 0) && q && ks.all (okk 3))) := Lib.hid (by rw [HE0.out]; simp)
    clear HE0
    have HE0 := HE9
    clear HE9
    by_cases h0 : n = 0
    · subst h0
      have HE1 : Hid (r = (q && ks.all (okk 3))) := Lib.hid (by rw [HE0.out]; simp)
      clear HE0
      have HE0 := HE1
      clear HE1
      go_enter Tryz.func56, Tryz.ntmps56
      go_wp2_with fail
      refine (N1.out _).mono ?_
      rintro e wn ⟨rfl, fn⟩
      have FN : Hid (Fr Non w wn) := Lib.hid (((((Fr.refl Non w).alloc _).alloc _).alloc _).trans fn)
      have Q := three_new w w.heap.size ⟨3, col, cmp, ⟨vn, vi, vt⟩, kind, pat⟩ ⟨3, col, cmp, ⟨vn, vi, vt⟩, kind, pat⟩ ⟨3, col, 0, ⟨false, 0, []⟩, 0, []⟩ ⟨A, 0, c⟩ noKv noKv rfl
      have PBn : Hid (PdB wn w.heap.size ⟨3, col, cmp, ⟨vn, vi, vt⟩, kind, pat⟩ ⟨A, 0, c⟩) := Lib.hid (Q.1.fr fn (fun e => e))
      have PB3 : Hid (PdB wn (w.heap.size + 1) ⟨3, col, cmp, ⟨vn, vi, vt⟩, kind, pat⟩ noKv) := Lib.hid (Q.2.1.fr fn (fun e => e))
      have PB4 : Hid (PdB wn (w.heap.size + 1 + 1) ⟨3, col, 0, ⟨false, 0, []⟩, 0, []⟩ noKv) := Lib.hid (Q.2.2.fr fn (fun e => e))
      clear Q fn
      obtain ⟨g0, g1, g2, g3, g4, g5, g6, g7, g8⟩ := pdB_cells PBn.out
      dsimp only at g0 g1 g2 g3 g4 g5 g6 g7 g8
      obtain ⟨d0, d1, d2, d3, d4, d5, d6, d7, d8⟩ := pdB_cells PB3.out
      obtain ⟨e0, e1, e2, e3, e4, e5, e6, e7, e8⟩ := pdB_cells PB4.out
      dsimp only at d0 d1 d2 d3 d4 d5 d6 d7 d8 e0 e1 e2 e3 e4 e5 e6 e7 e8
      go_wp2_with fail
      refine (FL.out _).mono ?_
      rintro e w1 ⟨rfl, f1⟩
      have F1 := Lib.hid ((FN.out).trans f1)
      have PB := Lib.hid ((PBn.out).fr f1 (fun e => e))
      have HK1 := HK
      obtain ⟨g0, g1, g2, g3, g4, g5, g6, g7, g8⟩ := pdB_cells PB.out
      dsimp only at g0 g1 g2 g3 g4 g5 g6 g7 g8
      clear f1 HK1
      cases q
      · go_wp2
        go_ret
        exact ⟨ret_boolE (by rw [HE0.out]; simp), F1.out⟩
      · have HE : Hid (r = ks.all (okk 3)) := Lib.hid (by rw [HE0.out]; simp)
        clear HE0
        go_wp2
        go_loopw [5] (fun i wr => ∃ k : Nat, k ≤ 0 ∧ i = .int .i64 k ∧ Hid (∀ j (h : j < ks.length), j < k → okk 3 ks[j] = true) ∧ Hid (Fr Non w1 wr)) (fun i _ => 0 - (intOf i).toNat)
        case atStart => exact ⟨0, Nat.zero_le _, rfl, Lib.hid (fun _ _ h => by omega), Lib.hid (Fr.refl _ _)⟩
        case round =>
          clear g0 g1 g2 g3 g4 g5 g6 g7 g8
          obtain ⟨k, hk, rfl, HT, FR⟩ := hrel
          have FW := Lib.hid (F1.out.trans FR.out)
          by_cases hlt : k < 0
          · exact absurd hlt (by omega)
          · have b8 := (PB.out.fr FR.out (fun e => e)).cell 8
            simp [pdC, kidV] at b8
            have HE2 := Lib.hid (all_yes (op := 3) (by have := HL.out; omega) HT.out)
            clear HT
            go_wp2
            go_ret
            exact ⟨ret_boolE (by rw [HE.out, HE2.out]), FW.out⟩
    · have HE1 : Hid (r = false) := Lib.hid (by rw [HE0.out, decide_eq_false h0]; simp)
      have hb : 0 < n := by omega
      clear HE0 h0
      go_enter Tryz.func56, Tryz.ntmps56
      go_wp2_with fail
      refine (N1.out _).mono ?_
      rintro e wn ⟨rfl, fn⟩
      have FN : Hid (Fr Non w wn) := Lib.hid (((((Fr.refl Non w).alloc _).alloc _).alloc _).trans fn)
      have Q := three_new w w.heap.size ⟨3, col, cmp, ⟨vn, vi, vt⟩, kind, pat⟩ ⟨3, col, cmp, ⟨vn, vi, vt⟩, kind, pat⟩ ⟨3, col, 0, ⟨false, 0, []⟩, 0, []⟩ ⟨A, n, c⟩ noKv noKv rfl
      have PBn : Hid (PdB wn w.heap.size ⟨3, col, cmp, ⟨vn, vi, vt⟩, kind, pat⟩ ⟨A, n, c⟩) := Lib.hid (Q.1.fr fn (fun e => e))
      have PB3 : Hid (PdB wn (w.heap.size + 1) ⟨3, col, cmp, ⟨vn, vi, vt⟩, kind, pat⟩ noKv) := Lib.hid (Q.2.1.fr fn (fun e => e))
      have PB4 : Hid (PdB wn (w.heap.size + 1 + 1) ⟨3, col, 0, ⟨false, 0, []⟩, 0, []⟩ noKv) := Lib.hid (Q.2.2.fr fn (fun e => e))
      clear Q fn
      obtain ⟨g0, g1, g2, g3, g4, g5, g6, g7, g8⟩ := pdB_cells PBn.out
      dsimp only at g0 g1 g2 g3 g4 g5 g6 g7 g8
      obtain ⟨d0, d1, d2, d3, d4, d5, d6, d7, d8⟩ := pdB_cells PB3.out
      obtain ⟨e0, e1, e2, e3, e4, e5, e6, e7, e8⟩ := pdB_cells PB4.out
      dsimp only at d0 d1 d2 d3 d4 d5 d6 d7 d8 e0 e1 e2 e3 e4 e5 e6 e7 e8
      go_wp2
      go_ret
      exact ⟨ret_boolE HE1.out.symm, FN.out⟩

set_option maxHeartbeats 8000000 in
theorem rone4_any (h0_ : Ph) (ks : List Pd) (t : Kv) (w : World) (hop : h0_.op = 4) (hk : Kd w t ks) (hl : ks.length ≤ 20) (hcl : h0_.col.length ≤ 100)
    (IH : Hid (∀ k (h : k < ks.length) (W : World) (t' : Kv), Kd W t' ks[k].kids → Calls Tryz.prog 56 #[pdV ks[k].hd t'] W fun e w' => e = .returned (.bool (oneP ks[k])) ∧ Fr Non W w')) :
    Calls Tryz.prog 56 #[pdV h0_ t] w fun e w' => e = .returned (.bool (oneP (.mk h0_ ks))) ∧ Fr Non w w' := by
  have hn : t.n = ks.length := hk.len
  have N1 := Lib.hid (fun W => rname_any h0_.col W (by omega))
  have M1 := Lib.hid (fun W => rmay_any h0_.kind false h0_.val W)
  have HE := Lib.hid (one_base h0_ ks t.n hn)
  generalize oneP (.mk h0_ ks) = r at *
  have HK : Hid (Kd w t ks) := Lib.hid hk
  have PB0 : Hid (∀ b d, PdB (((w.alloc (.cells (pdC h0_ t) 28)).alloc b).alloc d) w.heap.size h0_ t) := Lib.hid (fun b d => (pd_new w _ h0_ t rfl).fr (((Fr.refl Non _).alloc b).alloc d) (fun e => e))
  obtain ⟨op, col, cmp, ⟨vn, vi, vt⟩, kind, pat⟩ := h0_
  obtain ⟨A, n, c⟩ := t
  dsimp only at hn hop hcl HE
  have HL := Lib.hid hn
  have hn20 : n ≤ 20 := by omega
  have hs := slen pat
  clear hn hk hl
  unfold pdV pdC kidV
  unfold clV clC at M1
  dsimp only at *
  subst hop
  have FL := Lib.hid (fun W => flat_any ⟨4, col, cmp, ⟨vn, vi, vt⟩, kind, pat⟩ ⟨4, col, 0, zCl, 0, pat⟩ noKv noKv W)
  have HE0 : Hid (r = (baseOk ⟨4, col, cmp, ⟨vn, vi, vt⟩, kind, pat⟩ n && ks.all (okk 4))) := HE
  clear HE
  unfold pdV pdC kidV noKv at FL
  replace HE0 : Hid (r = (nameB col && decide (pat.length ≤ 40) && decide (n = 0) && peq ⟨4, col, cmp, ⟨vn, vi, vt⟩, kind, pat⟩ ⟨4, col, 0, zCl, 0, pat⟩ && ks.all (okk 4))) := HE0
  generalize peq ⟨4, col, cmp, ⟨vn, vi, vt⟩, kind, pat⟩ ⟨4, col, 0, zCl, 0, pat⟩ = q at *
  unfold zCl at FL
  dsimp only at FL
  clear M1
  generalize nameB col = b1 at *
  cases b1
  · have HE1 : Hid (r = false) := Lib.hid (by rw [HE0.out]; simp)
    clear HE0
    go_enter Tryz.func56, Tryz.ntmps56
    go_wp2_with fail
    refine (N1.out _).mono ?_
    rintro e wn ⟨rfl, fn⟩
    go_wp2
    go_ret
    exact ⟨ret_boolE HE1.out.symm, ((((Fr.refl Non w).alloc _).alloc _).alloc _).trans fn⟩
  · by_cases h40 : pat.length ≤ 40
    · have hpl : ¬ 40 < pat.length := by omega
      have HE9 : Hid (r = (decide (n = 0) && q && ks.all (okk 4))) := Lib.hid (by rw [HE0.out, decide_eq_true h40]; simp)
      clear HE0
      have HE0 := HE9
      clear HE9
      by_cases h0 : n = 0
      · subst h0
        have HE1 : Hid (r = (q && ks.all (okk 4))) := Lib.hid (by rw [HE0.out]; simp)
        clear HE0
        have HE0 := HE1
        clear HE1
        go_enter Tryz.func56, Tryz.ntmps56
        go_wp2_with fail
        refine (N1.out _).mono ?_
        rintro e wn ⟨rfl, fn⟩
        have FN : Hid (Fr Non w wn) := Lib.hid (((((Fr.refl Non w).alloc _).alloc _).alloc _).trans fn)
        have Q := three_new w w.heap.size ⟨4, col, cmp, ⟨vn, vi, vt⟩, kind, pat⟩ ⟨4, col, cmp, ⟨vn, vi, vt⟩, kind, pat⟩ ⟨4, col, 0, ⟨false, 0, []⟩, 0, pat⟩ ⟨A, 0, c⟩ noKv noKv rfl
        have PBn : Hid (PdB wn w.heap.size ⟨4, col, cmp, ⟨vn, vi, vt⟩, kind, pat⟩ ⟨A, 0, c⟩) := Lib.hid (Q.1.fr fn (fun e => e))
        have PB3 : Hid (PdB wn (w.heap.size + 1) ⟨4, col, cmp, ⟨vn, vi, vt⟩, kind, pat⟩ noKv) := Lib.hid (Q.2.1.fr fn (fun e => e))
        have PB4 : Hid (PdB wn (w.heap.size + 1 + 1) ⟨4, col, 0, ⟨false, 0, []⟩, 0, pat⟩ noKv) := Lib.hid (Q.2.2.fr fn (fun e => e))
        clear Q fn
        obtain ⟨g0, g1, g2, g3, g4, g5, g6, g7, g8⟩ := pdB_cells PBn.out
        dsimp only at g0 g1 g2 g3 g4 g5 g6 g7 g8
        obtain ⟨d0, d1, d2, d3, d4, d5, d6, d7, d8⟩ := pdB_cells PB3.out
        obtain ⟨e0, e1, e2, e3, e4, e5, e6, e7, e8⟩ := pdB_cells PB4.out
        dsimp only at d0 d1 d2 d3 d4 d5 d6 d7 d8 e0 e1 e2 e3 e4 e5 e6 e7 e8
        go_wp2_with fail
        refine (FL.out _).mono ?_
        rintro e w1 ⟨rfl, f1⟩
        have F1 := Lib.hid ((FN.out).trans f1)
        have PB := Lib.hid ((PBn.out).fr f1 (fun e => e))
        have HK1 := HK
        obtain ⟨g0, g1, g2, g3, g4, g5, g6, g7, g8⟩ := pdB_cells PB.out
        dsimp only at g0 g1 g2 g3 g4 g5 g6 g7 g8
        clear f1 HK1
        cases q
        · go_wp2
          go_ret
          exact ⟨ret_boolE (by rw [HE0.out]; simp), F1.out⟩
        · have HE : Hid (r = ks.all (okk 4)) := Lib.hid (by rw [HE0.out]; simp)
          clear HE0
          go_wp2
          go_loopw [5] (fun i wr => ∃ k : Nat, k ≤ 0 ∧ i = .int .i64 k ∧ Hid (∀ j (h : j < ks.length), j < k → okk 4 ks[j] = true) ∧ Hid (Fr Non w1 wr)) (fun i _ => 0 - (intOf i).toNat)
          case atStart => exact ⟨0, Nat.zero_le _, rfl, Lib.hid (fun _ _ h => by omega), Lib.hid (Fr.refl _ _)⟩
          case round =>
            clear g0 g1 g2 g3 g4 g5 g6 g7 g8
            obtain ⟨k, hk, rfl, HT, FR⟩ := hrel
            have FW := Lib.hid (F1.out.trans FR.out)
            by_cases hlt : k < 0
            · exact absurd hlt (by omega)
            · have b8 := (PB.out.fr FR.out (fun e => e)).cell 8
              simp [pdC, kidV] at b8
              have HE2 := Lib.hid (all_yes (op := 4) (by have := HL.out; omega) HT.out)
              clear HT
              go_wp2
              go_ret
              exact ⟨ret_boolE (by rw [HE.out, HE2.out]), FW.out⟩
      · have HE1 : Hid (r = false) := Lib.hid (by rw [HE0.out, decide_eq_false h0]; simp)
        have hb : 0 < n := by omega
        clear HE0 h0
        go_enter Tryz.func56, Tryz.ntmps56
        go_wp2_with fail
        refine (N1.out _).mono ?_
        rintro e wn ⟨rfl, fn⟩
        have FN : Hid (Fr Non w wn) := Lib.hid (((((Fr.refl Non w).alloc _).alloc _).alloc _).trans fn)
        have Q := three_new w w.heap.size ⟨4, col, cmp, ⟨vn, vi, vt⟩, kind, pat⟩ ⟨4, col, cmp, ⟨vn, vi, vt⟩, kind, pat⟩ ⟨4, col, 0, ⟨false, 0, []⟩, 0, pat⟩ ⟨A, n, c⟩ noKv noKv rfl
        have PBn : Hid (PdB wn w.heap.size ⟨4, col, cmp, ⟨vn, vi, vt⟩, kind, pat⟩ ⟨A, n, c⟩) := Lib.hid (Q.1.fr fn (fun e => e))
        have PB3 : Hid (PdB wn (w.heap.size + 1) ⟨4, col, cmp, ⟨vn, vi, vt⟩, kind, pat⟩ noKv) := Lib.hid (Q.2.1.fr fn (fun e => e))
        have PB4 : Hid (PdB wn (w.heap.size + 1 + 1) ⟨4, col, 0, ⟨false, 0, []⟩, 0, pat⟩ noKv) := Lib.hid (Q.2.2.fr fn (fun e => e))
        clear Q fn
        obtain ⟨g0, g1, g2, g3, g4, g5, g6, g7, g8⟩ := pdB_cells PBn.out
        dsimp only at g0 g1 g2 g3 g4 g5 g6 g7 g8
        obtain ⟨d0, d1, d2, d3, d4, d5, d6, d7, d8⟩ := pdB_cells PB3.out
        obtain ⟨e0, e1, e2, e3, e4, e5, e6, e7, e8⟩ := pdB_cells PB4.out
        dsimp only at d0 d1 d2 d3 d4 d5 d6 d7 d8 e0 e1 e2 e3 e4 e5 e6 e7 e8
        go_wp2
        go_ret
        exact ⟨ret_boolE HE1.out.symm, FN.out⟩
    · have hpl : 40 < pat.length := by omega
      have HE1 : Hid (r = false) := Lib.hid (by rw [HE0.out, decide_eq_false h40]; simp)
      clear HE0
      go_enter Tryz.func56, Tryz.ntmps56
      go_wp2_with fail
      refine (N1.out _).mono ?_
      rintro e wn ⟨rfl, fn⟩
      have FN : Hid (Fr Non w wn) := Lib.hid (((((Fr.refl Non w).alloc _).alloc _).alloc _).trans fn)
      have Q := three_new w w.heap.size ⟨4, col, cmp, ⟨vn, vi, vt⟩, kind, pat⟩ ⟨4, col, cmp, ⟨vn, vi, vt⟩, kind, pat⟩ ⟨4, col, 0, ⟨false, 0, []⟩, 0, pat⟩ ⟨A, n, c⟩ noKv noKv rfl
      have PBn : Hid (PdB wn w.heap.size ⟨4, col, cmp, ⟨vn, vi, vt⟩, kind, pat⟩ ⟨A, n, c⟩) := Lib.hid (Q.1.fr fn (fun e => e))
      have PB3 : Hid (PdB wn (w.heap.size + 1) ⟨4, col, cmp, ⟨vn, vi, vt⟩, kind, pat⟩ noKv) := Lib.hid (Q.2.1.fr fn (fun e => e))
      have PB4 : Hid (PdB wn (w.heap.size + 1 + 1) ⟨4, col, 0, ⟨false, 0, []⟩, 0, pat⟩ noKv) := Lib.hid (Q.2.2.fr fn (fun e => e))
      clear Q fn
      obtain ⟨g0, g1, g2, g3, g4, g5, g6, g7, g8⟩ := pdB_cells PBn.out
      dsimp only at g0 g1 g2 g3 g4 g5 g6 g7 g8
      obtain ⟨d0, d1, d2, d3, d4, d5, d6, d7, d8⟩ := pdB_cells PB3.out
      obtain ⟨e0, e1, e2, e3, e4, e5, e6, e7, e8⟩ := pdB_cells PB4.out
      dsimp only at d0 d1 d2 d3 d4 d5 d6 d7 d8 e0 e1 e2 e3 e4 e5 e6 e7 e8
      go_wp2
      go_ret
      exact ⟨ret_boolE HE1.out.symm, FN.out⟩
end Go.Proofs.YtibopcceffncpaaGreatDoor


namespace Go.Proofs.YtibopcceffncpaaGreatDoor
set_option linter.unusedVariables false
set_option linter.unusedSimpArgs false
set_option maxRecDepth 100000
open Go.RowKit

set_option maxHeartbeats 2000000 in
theorem pidxi_any (v : Value) (l : List Int) (x : Int) (w : World) (hv : Vs iv w v l) (hl : l.length ≤ 1000) :
    Calls Tryz.prog 125 #[v, .int .i64 x] w fun e w' => ∃ z : Int, e = .returned (.int .i64 z) ∧ decide (0 ≤ z) = decide (x ∈ l) ∧ Fr Non w w' := by
  obtain ⟨A, c, rfl, hlc, hn, hcell⟩ := hv
  have HC := Lib.hid hcell
  have HN := Lib.hid hn
  clear hcell hn
  go_enter Tryz.func125, Tryz.ntmps125
  go_wp2
  go_loopw [8] (fun i wr => ∃ (k : Nat), k ≤ l.length ∧ i = .int .i64 k ∧ Hid (∀ j (h : j < l.length), j < k → l[j] ≠ x) ∧ Hid (Fr Non w wr)) (fun i _ => l.length - (intOf i).toNat)
  case atStart => exact ⟨0, Nat.zero_le _, rfl, Lib.hid (fun _ _ h => by omega), Lib.hid (Fr.refl _ _)⟩
  case round =>
    obtain ⟨k, hk, rfl, HT, FR⟩ := hrel
    by_cases hlt : k < l.length
    · cases A with
      | none => have := HN.out rfl; omega
      | some a =>
        have c0 := (FR.out.cell (World.block_lt_of_cell? _ _ (HC.out a rfl k hlt)) (fun e => e)).trans (HC.out a rfl k hlt)
        unfold iv at c0
        have HX : Hid (l[k] = x → x ∈ l) := Lib.hid (fun e => by rw [← e]; exact List.getElem_mem hlt)
        have HY : Hid (l[k] ≠ x → ∀ j (h : j < l.length), j < k + 1 → l[j] ≠ x) := Lib.hid (fun e j hj hjk => by
          by_cases ee : j = k
          · subst ee; exact e
          · exact HT.out j hj (by omega))
        clear HT
        generalize l[k] = y at *
        by_cases he : y = x
        · have hb : (x == y) = true := by rw [beq_iff_eq]; exact he.symm
          have HE := Lib.hid (HX.out he)
          subst he
          clear HX HY hb
          go_wp2
          go_ret
          exact ⟨_, rfl, by rw [decide_eq_true HE.out]; exact decide_eq_true (by omega), FR.out⟩
        · have hb : (x == y) = false := by rw [beq_eq_false_iff_ne]; exact fun e => he e.symm
          have hb2 : (y == x) = false := by rw [beq_eq_false_iff_ne]; exact he
          have HE := Lib.hid (HY.out he)
          clear HX HY he
          go_wp2
          go_roundw
          case rel => exact ⟨k + 1, by omega, by go_num, HE, FR⟩
          case measure => simp [intOf]; omega
    · have HE : Hid (¬ x ∈ l) := Lib.hid (fun hx => by
        obtain ⟨j, hj, e⟩ := List.mem_iff_getElem.1 hx
        exact HT.out j hj (by omega) e)
      clear HT
      go_wp2
      go_ret
      exact ⟨_, rfl, by rw [decide_eq_false HE.out]; rfl, FR.out⟩
theorem pconti_any (v : Value) (l : List Int) (x : Int) (w : World) (hv : Vs iv w v l) (hl : l.length ≤ 1000) :
    Calls Tryz.prog 114 #[v, .int .i64 x] w fun e w' => e = .returned (.bool (decide (x ∈ l))) ∧ Fr Non w w' := by
  have h0 := Lib.hid (pidxi_any v l x w hv hl)
  obtain ⟨A, c, rfl⟩ := hv.shape
  clear hv
  go_enter Tryz.func114, Tryz.ntmps114
  go_wp2_with fail
  refine h0.out.mono ?_
  rintro e w1 ⟨z, rfl, hz, f1⟩
  go_wp2
  go_ret
  exact ⟨rfl, f1⟩

theorem strE {l m : Tx} (h : l = m) : Ending.returned (.string ⟨l.toArray⟩) = Ending.returned (.string ⟨m.toArray⟩) := by rw [h]
theorem brk_in {ops : List Int} {h : Ph} {ks : List Pd} (e : h.op ∈ ops) : brkP ops (.mk h ks) = [40] ++ textP (.mk h ks) ++ [41] := by unfold brkP brk; rw [if_pos (show (Pd.mk h ks).hd.op ∈ ops from e)]; rfl
theorem brk_out {ops : List Int} {h : Ph} {ks : List Pd} (e : ¬ h.op ∈ ops) : brkP ops (.mk h ks) = textP (.mk h ks) := by unfold brkP brk; rw [if_neg (show ¬ (Pd.mk h ks).hd.op ∈ ops from e)]
set_option maxHeartbeats 2000000 in
theorem pbrk_any (h : Ph) (s : Kv) (ks : List Pd) (ops : List Int) (v : Value) (w : World) (hv : Vs iv w v ops) (ho : ops.length ≤ 10) (hT : (textP (.mk h ks)).length ≤ 100000)
    (C : Hid (∀ W, Fr Non w W → Calls Tryz.prog 74 #[pdV h s] W fun e w' => e = .returned (.string ⟨(textP (.mk h ks)).toArray⟩) ∧ Fr Non W w')) :
    Calls Tryz.prog 91 #[pdV h s, v] w fun e w' => e = .returned (.string ⟨(brkP ops (.mk h ks)).toArray⟩) ∧ Fr Non w w' := by
  have F0 : Fr Non w (w.alloc (.cells (pdC h s) 28)) := (Fr.refl Non w).alloc _
  have C1 := Lib.hid (pconti_any v ops h.op _ (hv.non F0) (by omega))
  have PB := Lib.hid (pd_new w _ h s rfl)
  have HI := Lib.hid (fun e => brk_in (ops := ops) (h := h) (ks := ks) e)
  have HO := Lib.hid (fun e => brk_out (ops := ops) (h := h) (ks := ks) e)
  obtain ⟨vA, vc, hve⟩ := hv.shape
  have F0 := Lib.hid F0
  generalize brkP ops (.mk h ks) = r at *
  generalize textP (.mk h ks) = tx at *
  have q1 := fun W => sadd [40] tx (by simp; omega) W
  have q2 := fun W => sadd ([40] ++ tx) [41] (by simp; omega) W
  clear hv
  obtain ⟨op, hc, hm, ⟨vn, vi, vt⟩, hkd, hp⟩ := h
  obtain ⟨A, nn, c⟩ := s
  subst hve
  unfold pdV pdC kidV at *
  dsimp only at *
  by_cases hi : op ∈ ops
  · have HE := Lib.hid (HI.out hi)
    simp only [decide_eq_true hi] at C1
    clear HI HO hi
    go_enter Tryz.func91, Tryz.ntmps91
    go_wp2_with fail
    refine C1.out.mono ?_
    rintro e w1 ⟨rfl, f1⟩
    obtain ⟨g0, g1, g2, g3, g4, g5, g6, g7, g8⟩ := pdB_cells (PB.out.fr f1 (fun e => e))
    dsimp only at g0 g1 g2 g3 g4 g5 g6 g7 g8
    have F1 := Lib.hid (F0.out.trans f1)
    clear f1
    go_wp2_with fail
    refine (C.out _ F1.out).mono ?_
    rintro e w2 ⟨rfl, f2⟩
    go_wp2
    go_ret
    exact ⟨by rw [HE.out]; rfl, F1.out.trans f2⟩
  · have HE := Lib.hid (HO.out hi)
    simp only [decide_eq_false hi] at C1
    clear HI HO hi
    go_enter Tryz.func91, Tryz.ntmps91
    go_wp2_with fail
    refine C1.out.mono ?_
    rintro e w1 ⟨rfl, f1⟩
    obtain ⟨g0, g1, g2, g3, g4, g5, g6, g7, g8⟩ := pdB_cells (PB.out.fr f1 (fun e => e))
    dsimp only at g0 g1 g2 g3 g4 g5 g6 g7 g8
    have F1 := Lib.hid (F0.out.trans f1)
    clear f1
    go_wp2_with fail
    refine (C.out _ F1.out).mono ?_
    rintro e w2 ⟨rfl, f2⟩
    go_wp2
    go_ret
    exact ⟨by rw [HE.out]; rfl, F1.out.trans f2⟩

theorem brkT_more (ops : List Int) {ks : List Pd} {k : Nat} (h : k < ks.length) : (ks.take (k + 1)).map (brkP ops) = (ks.take k).map (brkP ops) ++ [brkP ops ks[k]] := by
  rw [List.take_succ_eq_append_getElem h, List.map_append]; rfl
set_option maxHeartbeats 4000000 in
theorem pjoined_any (s : Kv) (ks : List Pd) (between : Tx) (ops : List Int) (v : Value) (w : World) (hW : Lp w) (hk : Kd w s ks) (hv : Vs iv w v ops) (ho : ops.length ≤ 10) (hl : ks.length ≤ 20)
    (hJ : (Lib.join (ks.map (brkP ops)) between).length ≤ 100000) (hT : ∀ k (h : k < ks.length), (textP ks[k]).length ≤ 100000)
    (C : Hid (∀ k (h : k < ks.length) W t', Lp W → Kd W t' ks[k].kids → Calls Tryz.prog 74 #[pdV ks[k].hd t'] W fun e w' => e = .returned (.string ⟨(textP ks[k]).toArray⟩) ∧ Fr Non W w')) :
    Calls Tryz.prog 92 #[kidV s, .string ⟨between.toArray⟩, v] w fun e w' => e = .returned (.string ⟨(Lib.join (ks.map (brkP ops)) between).toArray⟩) ∧ Fr Non w w' := by
  have hn := hk.len
  have HK := Lib.hid hk
  have HV := Lib.hid hv
  have HW := Lib.hid hW
  have HT := Lib.hid hT
  have HJ := Lib.hid hJ
  obtain ⟨vA, vc, hve⟩ := hv.shape
  clear hk hv hW hT hJ
  obtain ⟨A, n, c⟩ := s
  dsimp only at hn
  have hn20 : n ≤ 20 := by omega
  have HL := Lib.hid hn
  clear hn
  unfold kidV
  dsimp only
  subst hve
  have HO0 : Hid (Ow sv 9 w w.heap.size (.slice none 0 0) ((ks.take 0).map (brkP ops))) := Lib.hid (ow_nil _ _)
  have hgg := Nat.le_refl w.heap.size
  go_enter Tryz.func92, Tryz.ntmps92
  go_wp2
  go_loopw [7, 12] (fun u i wr => ∃ k : Nat, k ≤ n ∧ i = .int .i64 k ∧ Hid (Ow sv 9 wr w.heap.size u ((ks.take k).map (brkP ops))) ∧ Hid (Fr Non w wr)) (fun _ i _ => n - (intOf i).toNat)
  case atStart => exact ⟨0, Nat.zero_le _, rfl, HO0, Lib.hid (Fr.refl _ _)⟩
  case round =>
    clear HO0
    rename_i u i wr
    obtain ⟨k, hk, rfl, HO, FR⟩ := hrel
    obtain ⟨uA, uc, hue⟩ := HO.out.shape
    have hlk : ((ks.take k).map (brkP ops)).length = k := by have := HL.out; rw [List.length_map, List.length_take]; omega
    rw [hlk] at hue
    subst hue
    by_cases hlt : k < n
    · have hlt2 : k < ks.length := by have := HL.out; omega
      obtain ⟨a, t, hA, hc2, hkk, _⟩ := HK.out.elN FR.out k hlt2
      dsimp only at hA
      subst hA
      have ht := HT.out k hlt2
      have HC : Hid (∀ W, Fr Non wr W → Calls Tryz.prog 74 #[pdV ks[k].hd t] W fun e w' => e = .returned (.string ⟨(textP ks[k]).toArray⟩) ∧ Fr Non W w') := Lib.hid (fun W hf => C.out k hlt2 W t (HW.out.non (FR.out.trans hf)) (hkk.non (FR.out.trans hf)))
      have HY := Lib.hid (brkT_more ops hlt2)
      obtain ⟨c0, c1, c2, c3, c4, c5, c6, c7, c8⟩ := hc2
      clear hkk
      generalize ks[k] = p at *
      obtain ⟨x, ps⟩ := p
      dsimp only [Pd.hd] at c0 c1 c2 c3 c4 c5 c6 c7 c8 HC
      have G1 := Lib.hid ((Fr.refl Non wr).alloc (.cells (pdC x t) 28))
      have HB : Hid (Calls _ _ _ _ _) := Lib.hid (pbrk_any x t ps ops (.slice vA ops.length vc) _ ((HV.out.non FR.out).non G1.out) ho ht (Lib.hid (fun W hf => HC.out W (G1.out.trans hf))))
      clear HC ht
      generalize brkP ops (.mk x ps) = y at *
      generalize (ks.take k).map (brkP ops) = tl at *
      have HLK := Lib.hid hlk
      clear hlk
      obtain ⟨xo, xc, xm, ⟨xn, xi, xt⟩, xk, xp⟩ := x
      obtain ⟨tA, tn, tc⟩ := t
      unfold pdV pdC kidV at HB
      unfold pdC kidV at G1
      dsimp only at HB G1 c0 c1 c2 c3 c4 c5 c6 c7 c8
      go_wp2_with fail
      refine HB.out.mono ?_
      rintro e w2 ⟨rfl, f2⟩
      have F2 := Lib.hid (FR.out.trans (G1.out.trans f2))
      have hO2 := Lib.hid ((HO.out.non G1.out).non f2)
      have hsz : w.heap.size ≤ w2.heap.size := F2.out.size
      clear f2 HB
      go_wp2_with (at_builtin; refine wpList_pushG el_str sv_one rfl (.tmp 16) (.tmp 20) rfl w.heap.size _ tl rfl hO2.out _ y rfl rfl (by have := HLK.out; omega) hsz ?_; intro v3 w3 hown3 hfr3)
      have HO3 := Lib.hid hown3
      have F3 : Hid (Fr Non w w3) := Lib.hid (F2.out.fresh hfr3 (fun q hq => (hO2.out.lt q hq).1))
      clear hown3 hfr3
      go_roundw
      case rel => exact ⟨k + 1, by omega, by go_num, by rw [HY.out]; exact HO3, F3⟩
      case measure => simp [intOf]; omega
    · have hkn : ks.take k = ks := List.take_of_length_le (by have := HL.out; omega)
      rw [hkn] at HO
      have HJ1 := Lib.hid (pjoin_any _ _ between w.heap.size wr HO.out (by have := HJ.out; omega) (by rw [List.length_map]; have := HL.out; omega))
      clear hlk
      go_wp2_with fail
      refine HJ1.out.mono ?_
      rintro e w2 ⟨rfl, f2⟩
      go_wp2
      go_ret
      exact ⟨rfl, FR.out.trans f2⟩

/-! ### The text -/
theorem tx_is (h : Ph) (ks : List Pd) : textP (.mk h ks) = textH h (textL ks) := by rw [textP]
theorem tx_2 {h : Ph} {ks : List Pd} (e : h.op = 2) : textP (.mk h ks) = h.col ++ [32] ++ markB h.cmp ++ [32] ++ valT h.kind h.val := by rw [tx_is]; unfold textH; rw [if_pos e]
theorem tx_3 {h : Ph} {ks : List Pd} (e : h.op = 3) : textP (.mk h ks) = h.col ++ [32, 105, 115, 32, 110, 117, 108, 108] := by rw [tx_is]; unfold textH; rw [if_neg (by omega), if_pos e]
theorem tx_4 {h : Ph} {ks : List Pd} (e : h.op = 4) : textP (.mk h ks) = h.col ++ [32, 108, 105, 107, 101, 32] ++ quoT h.pat := by rw [tx_is]; unfold textH; rw [if_neg (by omega), if_neg (by omega), if_pos e]
theorem tx_5 {h : Ph} {k : Pd} {ks : List Pd} (e : h.op = 5) : textP (.mk h (k :: ks)) = [110, 111, 116, 32] ++ brkP [6, 7] k := by rw [tx_is]; unfold textH; rw [if_neg (by omega), if_neg (by omega), if_neg (by omega), if_pos e, textL]; rfl
theorem tx_6 {h : Ph} {ks : List Pd} (e : h.op = 6) : textP (.mk h ks) = Lib.join (ks.map (brkP [7])) andT := by rw [tx_is]; unfold textH; rw [if_neg (by omega), if_neg (by omega), if_neg (by omega), if_neg (by omega), if_pos e, textL_brk]
theorem tx_7 {h : Ph} {ks : List Pd} (e : h.op = 7) : textP (.mk h ks) = Lib.join (ks.map (brkP [])) orT := by rw [tx_is]; unfold textH; rw [if_neg (by omega), if_neg (by omega), if_neg (by omega), if_neg (by omega), if_neg (by omega), if_pos e, textL_brk]
theorem tx_1 {h : Ph} {ks : List Pd} (e : h.op = 1) : textP (.mk h ks) = [97, 108, 108] := by rw [tx_is]; unfold textH; rw [if_neg (by omega), if_neg (by omega), if_neg (by omega), if_neg (by omega), if_neg (by omega), if_neg (by omega)]
/-- which ops there are, and how many within -/
theorem one_ops {h : Ph} {ks : List Pd} (e : oneP (.mk h ks) = true) : (h.op = 1 ∨ (h.op = 2 ∧ 1 ≤ h.cmp ∧ h.cmp ≤ 6) ∨ h.op = 3 ∨ h.op = 4 ∨ (h.op = 5 ∧ ks.length = 1) ∨ h.op = 6 ∨ h.op = 7) ∧ ∀ k ∈ ks, oneP k = true := by
  rw [oneP, Bool.and_eq_true, oneL_all] at e
  refine ⟨?_, List.all_eq_true.1 e.2⟩
  have e1 := e.1
  unfold hdOk at e1
  split at e1
  · rename_i h1; exact .inl h1
  · split at e1
    · rename_i h1 h2
      rcases h2 with h2 | h2 | h2
      · refine .inr (.inl ⟨h2, ?_⟩)
        unfold askOk at e1
        rw [if_pos h2] at e1
        simp only [Bool.and_eq_true, decide_eq_true_eq] at e1
        exact e1.2.2.1.1
      · exact .inr (.inr (.inl h2))
      · exact .inr (.inr (.inr (.inl h2)))
    · split at e1
      · rename_i h5
        rw [Bool.and_eq_true] at e1
        exact .inr (.inr (.inr (.inr (.inl ⟨h5, of_decide_eq_true e1.1⟩))))
      · split at e1
        · rename_i h6
          rcases h6 with h6 | h6
          · exact .inr (.inr (.inr (.inr (.inr (.inl h6)))))
          · exact .inr (.inr (.inr (.inr (.inr (.inr h6)))))
        · cases e1
theorem Kd.num {w : World} {s : Kv} {ps : List Pd} (h : Kd w s ps) : numL ps := by
  induction h with
  | mk s ns ps hl hN hh hb hk ih =>
    rw [numL_all]
    intro p hp
    obtain ⟨j, hj, rfl⟩ := List.mem_iff_getElem.1 hp
    have e := ih j (by omega) hj
    have b := hb j hj
    generalize ps[j] = p at *
    obtain ⟨h, ks⟩ := p
    exact ⟨b, e⟩
end Go.Proofs.YtibopcceffncpaaGreatDoor


namespace Go.Proofs.YtibopcceffncpaaGreatDoor
set_option linter.unusedVariables false
set_option linter.unusedSimpArgs false
set_option maxRecDepth 100000
open Go.RowKit

set_option maxHeartbeats 4000000 in
theorem ptext1_any (hd : Ph) (ks : List Pd) (t : Kv) (w : World) (hop : hd.op = 1) (hW0 : Lp w) (hk : Kd w t ks) (hb : I64b hd.val.num) (hls : ks.length ≤ 20 ∧ hd.col.length ≤ 100 ∧ hd.pat.length ≤ 100 ∧ hd.val.txt.length ≤ 100) (htl2 : (textP (.mk hd ks)).length ≤ 6400)  :
    Calls Tryz.prog 74 #[pdV hd t] w fun e w' => e = .returned (.string ⟨(textP (.mk hd ks)).toArray⟩) ∧ Fr Non w w' := by
  have hn : t.n = ks.length := hk.len
  have F0 : Fr Non w (w.alloc (.cells (pdC hd t) 28)) := (Fr.refl Non w).alloc _
  have PB := Lib.hid (pd_new w _ hd t rfl)
  have HK := Lib.hid (hk.non F0)
  have HW := Lib.hid (hW0.non F0)
  have HE := Lib.hid (tx_1 (h := hd) (ks := ks) hop)
  have hcl := hls.2.1
  have hpl := hls.2.2.1
  have hls1 := hls.1
  generalize textP (.mk hd ks) = r at *
  have HF := Lib.hid F0
  clear F0 hls hW0 hk
  obtain ⟨ho, hc, hm, ⟨vn, vi, vt⟩, hkd, hp⟩ := hd
  obtain ⟨A, n, c⟩ := t
  dsimp only at hn hop hcl hpl HE
  have HL := Lib.hid hn
  have hn20 : n ≤ 20 := by omega
  clear hn hls1
  unfold pdV
  unfold pdC kidV
  dsimp only
  subst hop
  go_enter Tryz.func74, Tryz.ntmps74
  go_wp2
  go_ret
  exact ⟨strE (by rw [HE.out]), HF.out⟩

set_option maxHeartbeats 4000000 in
theorem ptext2_any (hd : Ph) (ks : List Pd) (t : Kv) (w : World) (hop : hd.op = 2) (hW0 : Lp w) (hk : Kd w t ks) (hb : I64b hd.val.num) (hls : ks.length ≤ 20 ∧ hd.col.length ≤ 100 ∧ hd.pat.length ≤ 100 ∧ hd.val.txt.length ≤ 100) (htl2 : (textP (.mk hd ks)).length ≤ 6400) (h16 : 1 ≤ hd.cmp ∧ hd.cmp ≤ 6) :
    Calls Tryz.prog 74 #[pdV hd t] w fun e w' => e = .returned (.string ⟨(textP (.mk hd ks)).toArray⟩) ∧ Fr Non w w' := by
  have hn : t.n = ks.length := hk.len
  have F0 : Fr Non w (w.alloc (.cells (pdC hd t) 28)) := (Fr.refl Non w).alloc _
  have PB := Lib.hid (pd_new w _ hd t rfl)
  have HK := Lib.hid (hk.non F0)
  have HW := Lib.hid (hW0.non F0)
  have HV := Lib.hid (fun W hW => pvalue_any hd.kind hd.val W hW hb (by omega))
  have hvl := valT_len hd.kind hd.val hb hls.2.2.2
  have hml := markB_len hd.cmp
  have HE := Lib.hid (tx_2 (h := hd) (ks := ks) hop)
  have hcl := hls.2.1
  have hpl := hls.2.2.1
  have hls1 := hls.1
  generalize textP (.mk hd ks) = r at *
  have HF := Lib.hid F0
  clear F0 hls hW0 hk
  obtain ⟨ho, hc, hm, ⟨vn, vi, vt⟩, hkd, hp⟩ := hd
  obtain ⟨A, n, c⟩ := t
  dsimp only at hn hop hcl hpl HE HV hvl hml h16
  have HL := Lib.hid hn
  have hn20 : n ≤ 20 := by omega
  clear hn hls1
  unfold pdV
  unfold clV clC at HV
  dsimp only at HV
  obtain ⟨hc1, hc6⟩ := h16
  unfold pdC kidV
  dsimp only
  subst hop
  obtain ⟨j, rfl⟩ : ∃ j : Nat, hm = (j : Int) := ⟨hm.toNat, by omega⟩
  have hj : j < 7 := by omega
  have hj7 : (j : Int) < 7 := by omega
  have hmk := HW.out.marks j hj
  rw [cmps_at j hj] at hmk
  generalize markB (j : Int) = mk at *
  generalize hva : valT hkd ⟨vn, vi, vt⟩ = va at *
  clear hva
  have s1 := fun W => sadd hc [32] (by simp; omega) W
  have s2 := fun W => sadd (hc ++ [32]) mk (by simp; omega) W
  have s3 := fun W => sadd (hc ++ [32] ++ mk) [32] (by simp; omega) W
  have s4 := fun W => sadd (hc ++ [32] ++ mk ++ [32]) va (by simp; omega) W
  have s5 := fun W => sadd (hc ++ 32 :: mk) [32] (by simp; omega) W
  have s6 := fun W => sadd (hc ++ 32 :: (mk ++ [32])) va (by simp; omega) W
  have HC := Lib.hid (HV.out (w.alloc (.cells (pdC ⟨2, hc, j, ⟨vn, vi, vt⟩, hkd, hp⟩ ⟨A, n, c⟩) 28)).drew (HW.out.non (Fr.refl _ _).drew))
  have qm : (w.alloc (.cells (pdC ⟨2, hc, j, ⟨vn, vi, vt⟩, hkd, hp⟩ ⟨A, n, c⟩) 28)).drew.cell? ⟨1, j, none⟩ = _ := hmk
  obtain ⟨_, q1, q2, q3, q4, q5, q6, _, _⟩ := pdB_cells PB.out.drew
  dsimp only at q1 q2 q3 q4 q5 q6
  unfold pdC kidV at HC qm q1 q2 q3 q4 q5 q6
  dsimp only at HC qm q1 q2 q3 q4 q5 q6
  go_enter Tryz.func74, Tryz.ntmps74
  go_wp2
  refine wp_region_held_drew (S := (fun W => W.cell? ⟨w.heap.size, 1, none⟩ = some (.string ⟨hc.toArray⟩) ∧ W.cell? ⟨w.heap.size, 2, none⟩ = some (.int .i64 j) ∧ W.cell? ⟨w.heap.size, 3, none⟩ = some (.bool vn) ∧ W.cell? ⟨w.heap.size, 4, none⟩ = some (.int .i64 vi) ∧ W.cell? ⟨w.heap.size, 5, none⟩ = some (.string ⟨vt.toArray⟩) ∧ W.cell? ⟨w.heap.size, 6, none⟩ = some (.int .i64 hkd) ∧ W.cell? ⟨1, j, none⟩ = some (.string ⟨mk.toArray⟩))) (by kernel_rfl) (by exact ⟨q1, q2, q3, q4, q5, q6, qm⟩) (fun hHeld => ?_)
  refine wpAnyH_take (i := 0) (oi := ⟨some 7, _, _, _, _, none⟩) (v := ?v1) rfl (by kernel_rfl) (by kernel_rfl) (by kernel_rfl) (fun _ _ _ h => h) (Or.inl ⟨by rfl, ?hy1⟩) (by assumption) ?rest1
  case hy1 => (intro wS hSw; (try dsimp only at hSw); go_simp; (try with_reducible rfl))
  (try simp only [Act.put, List.setIfInBounds_toArray, List.set_cons_zero, List.set_cons_succ])
  refine wpAnyH_take (i := 1) (oi := ⟨some 8, _, _, _, _, none⟩) (v := ?v2) rfl (by kernel_rfl) (by kernel_rfl) (by kernel_rfl) (fun _ _ _ h => h) (Or.inl ⟨by rfl, ?hy2⟩) (by assumption) ?rest2
  case hy2 => (intro wS hSw; (try dsimp only at hSw); go_simp; (try with_reducible rfl))
  (try simp only [Act.put, List.setIfInBounds_toArray, List.set_cons_zero, List.set_cons_succ])
  refine wpAnyH_take (i := 2) (oi := ⟨some 9, _, _, _, _, none⟩) (v := ?v3) rfl (by kernel_rfl) (by kernel_rfl) (by kernel_rfl) (fun _ _ _ h => h) (Or.inl ⟨by rfl, ?hy3⟩) (by assumption) ?rest3
  case hy3 => (intro wS hSw; (try dsimp only at hSw); go_simp; (try with_reducible rfl))
  (try simp only [Act.put, List.setIfInBounds_toArray, List.set_cons_zero, List.set_cons_succ])
  refine wpAnyH_take (i := 3) (oi := ⟨some 10, _, _, _, _, none⟩) (v := ?v4) rfl (by kernel_rfl) (by kernel_rfl) (by kernel_rfl) (fun _ _ _ h => h) (Or.inl ⟨by rfl, ?hy4⟩) (by assumption) ?rest4
  case hy4 => (intro wS hSw; (try dsimp only at hSw); go_simp; (try with_reducible rfl))
  (try simp only [Act.put, List.setIfInBounds_toArray, List.set_cons_zero, List.set_cons_succ])
  refine wpAnyH_take (i := 4) (oi := ⟨some 11, _, _, _, _, none⟩) (v := ?v5) rfl (by kernel_rfl) (by kernel_rfl) (by kernel_rfl) (fun _ _ _ h => h) (Or.inl ⟨by rfl, ?hy5⟩) (by assumption) ?rest5
  case hy5 => (intro wS hSw; (try dsimp only at hSw); go_simp; (try with_reducible rfl))
  (try simp only [Act.put, List.setIfInBounds_toArray, List.set_cons_zero, List.set_cons_succ])
  refine wpAnyH_take (i := 5) (oi := ⟨some 12, _, _, _, _, none⟩) (v := ?v6) rfl (by kernel_rfl) (by kernel_rfl) (by kernel_rfl) (fun _ _ _ h => h) (Or.inl ⟨by rfl, ?hy6⟩) (by assumption) ?rest6
  case hy6 => (intro wS hSw; (try dsimp only at hSw); go_simp; (try with_reducible rfl))
  (try simp only [Act.put, List.setIfInBounds_toArray, List.set_cons_zero, List.set_cons_succ])
  refine wpAnyH_take (i := 6) (oi := ⟨some 13, _, _, _, _, none⟩) (v := ?v7) rfl (by kernel_rfl) (by kernel_rfl) (by kernel_rfl) (fun _ _ _ h => h) (Or.inl ⟨by rfl, ?hy7⟩) (by assumption) ?rest7
  case hy7 => (intro wS hSw; (try dsimp only at hSw); go_simp; (try with_reducible rfl))
  (try simp only [Act.put, List.setIfInBounds_toArray, List.set_cons_zero, List.set_cons_succ])
  refine wpAnyH_take (i := 7) (oi := ⟨some 14, _, _, _, _, none⟩) (v := ?v8) rfl (by kernel_rfl) (by kernel_rfl) (by kernel_rfl) (fun _ _ _ h => h) (Or.inl ⟨by rfl, ?hy8⟩) (by assumption) ?rest8
  case hy8 => (intro wS hSw; (try dsimp only at hSw); go_simp; (try with_reducible rfl))
  (try simp only [Act.put, List.setIfInBounds_toArray, List.set_cons_zero, List.set_cons_succ])
  refine wpAnyH_take (i := 8) (oi := ⟨some 15, _, _, _, _, none⟩) (v := ?v9) rfl (by kernel_rfl) (by kernel_rfl) (by kernel_rfl) (fun _ _ _ h => h) (Or.inl ⟨by rfl, ?hy9⟩) (by assumption) ?rest9
  case hy9 => (intro wS hSw; (try dsimp only at hSw); go_simp; (try with_reducible rfl))
  (try simp only [Act.put, List.setIfInBounds_toArray, List.set_cons_zero, List.set_cons_succ])
  refine wpAnyH_take (i := 9) (oi := ⟨some 16, _, _, _, _, none⟩) (v := ?v10) rfl (by kernel_rfl) (by kernel_rfl) (by kernel_rfl) (fun _ _ _ h => h) (Or.inl ⟨by rfl, ?hy10⟩) (by assumption) ?rest10
  case hy10 => (intro wS hSw; (try dsimp only at hSw); go_simp; (try with_reducible rfl))
  (try simp only [Act.put, List.setIfInBounds_toArray, List.set_cons_zero, List.set_cons_succ])
  refine wpAnyH_take (i := 10) (oi := ⟨some 17, _, _, _, _, none⟩) (v := ?v11) rfl (by kernel_rfl) (by kernel_rfl) (by kernel_rfl) (fun _ _ _ h => h) (Or.inl ⟨by rfl, ?hy11⟩) (by assumption) ?rest11
  case hy11 => (intro wS hSw; (try dsimp only at hSw); go_simp; (try with_reducible rfl))
  (try simp only [Act.put, List.setIfInBounds_toArray, List.set_cons_zero, List.set_cons_succ])
  refine wpAnyH_take (i := 11) (oi := ⟨some 18, _, _, _, _, none⟩) (v := ?v12) rfl (by kernel_rfl) (by kernel_rfl) (by kernel_rfl) (fun _ _ _ h => h) (Or.inl ⟨by rfl, ?hy12⟩) (by assumption) ?rest12
  case hy12 => (intro wS hSw; (try dsimp only at hSw); go_simp; (try with_reducible rfl))
  (try simp only [Act.put, List.setIfInBounds_toArray, List.set_cons_zero, List.set_cons_succ])
  refine wpAnyH_take (i := 12) (oi := ⟨some 19, _, _, _, _, none⟩) (v := ?v13) rfl (by kernel_rfl) (by kernel_rfl) (by kernel_rfl) (fun _ _ _ h => h) (Or.inl ⟨by rfl, ?hy13⟩) (by assumption) ?rest13
  case hy13 => (intro wS hSw; (try dsimp only at hSw); go_simp; (try with_reducible rfl))
  (try simp only [Act.put, List.setIfInBounds_toArray, List.set_cons_zero, List.set_cons_succ])
  refine wpAnyH_ready (rs := [13]) (by kernel_rfl) (by simp) ?_
  refine AllReadyH.cons (o := ⟨some 20, _, _, _, _, none⟩) rfl (fun K hK => ?_) AllReadyH.nil
  go_simp
  go_at_call 89
  (with_reducible refine HC.out.mono ?_)
  rintro e w3 ⟨rfl, f3⟩
  have u1 := (f3.cell (World.block_lt_of_cell? _ _ q1) (fun e => e)).trans q1
  have u2 := (f3.cell (World.block_lt_of_cell? _ _ q2) (fun e => e)).trans q2
  have u3 := (f3.cell (World.block_lt_of_cell? _ _ q3) (fun e => e)).trans q3
  have u4 := (f3.cell (World.block_lt_of_cell? _ _ q4) (fun e => e)).trans q4
  have u5 := (f3.cell (World.block_lt_of_cell? _ _ q5) (fun e => e)).trans q5
  have u6 := (f3.cell (World.block_lt_of_cell? _ _ q6) (fun e => e)).trans q6
  have um := (f3.cell (World.block_lt_of_cell? _ _ qm) (fun e => e)).trans qm
  go_wp2_with fail
  refine hK.out _ _ (by exact ⟨u1, u2, u3, u4, u5, u6, um⟩) (fun hHeld => ?_)
  clear hK K
  (try simp only [Act.put, List.setIfInBounds_toArray, List.set_cons_zero, List.set_cons_succ])
  refine wpAnyH_take (i := 14) (oi := ⟨some 21, _, _, _, _, none⟩) (v := ?v14) rfl (by kernel_rfl) (by kernel_rfl) (by kernel_rfl) (fun _ _ _ h => h) (Or.inl ⟨by rfl, ?hy14⟩) (by assumption) ?rest14
  case hy14 => (intro wS hSw; (try dsimp only at hSw); go_simp; (try with_reducible rfl))
  (try simp only [Act.put, List.setIfInBounds_toArray, List.set_cons_zero, List.set_cons_succ])
  refine wpAnyH_take (i := 15) (oi := ⟨some 2, _, _, _, _, none⟩) (v := ?v15) rfl (by kernel_rfl) (by kernel_rfl) (by kernel_rfl) (fun _ _ _ h => h) (Or.inl ⟨by rfl, ?hy15⟩) (by assumption) ?rest15
  case hy15 => (intro wS hSw; (try dsimp only at hSw); go_simp; (try with_reducible rfl))
  (try simp only [Act.put, List.setIfInBounds_toArray, List.set_cons_zero, List.set_cons_succ])
  refine wpAnyH_done (by kernel_rfl) ?_ _
  go_wp2
  go_ret
  exact ⟨strE (by rw [HE.out] <;> simp), HF.out.drew.trans f3⟩

set_option maxHeartbeats 4000000 in
theorem ptext3_any (hd : Ph) (ks : List Pd) (t : Kv) (w : World) (hop : hd.op = 3) (hW0 : Lp w) (hk : Kd w t ks) (hb : I64b hd.val.num) (hls : ks.length ≤ 20 ∧ hd.col.length ≤ 100 ∧ hd.pat.length ≤ 100 ∧ hd.val.txt.length ≤ 100) (htl2 : (textP (.mk hd ks)).length ≤ 6400)  :
    Calls Tryz.prog 74 #[pdV hd t] w fun e w' => e = .returned (.string ⟨(textP (.mk hd ks)).toArray⟩) ∧ Fr Non w w' := by
  have hn : t.n = ks.length := hk.len
  have F0 : Fr Non w (w.alloc (.cells (pdC hd t) 28)) := (Fr.refl Non w).alloc _
  have PB := Lib.hid (pd_new w _ hd t rfl)
  have HK := Lib.hid (hk.non F0)
  have HW := Lib.hid (hW0.non F0)
  have HE := Lib.hid (tx_3 (h := hd) (ks := ks) hop)
  have hcl := hls.2.1
  have hpl := hls.2.2.1
  have hls1 := hls.1
  generalize textP (.mk hd ks) = r at *
  have HF := Lib.hid F0
  clear F0 hls hW0 hk
  obtain ⟨ho, hc, hm, ⟨vn, vi, vt⟩, hkd, hp⟩ := hd
  obtain ⟨A, n, c⟩ := t
  dsimp only at hn hop hcl hpl HE
  have HL := Lib.hid hn
  have hn20 : n ≤ 20 := by omega
  clear hn hls1
  unfold pdV
  unfold pdC kidV
  dsimp only
  subst hop
  have s1 := fun W => sadd hc [32, 105, 115, 32, 110, 117, 108, 108] (by simp; omega) W
  go_enter Tryz.func74, Tryz.ntmps74
  go_wp2
  go_ret
  exact ⟨strE (by rw [HE.out]), HF.out⟩

set_option maxHeartbeats 4000000 in
theorem ptext4_any (hd : Ph) (ks : List Pd) (t : Kv) (w : World) (hop : hd.op = 4) (hW0 : Lp w) (hk : Kd w t ks) (hb : I64b hd.val.num) (hls : ks.length ≤ 20 ∧ hd.col.length ≤ 100 ∧ hd.pat.length ≤ 100 ∧ hd.val.txt.length ≤ 100) (htl2 : (textP (.mk hd ks)).length ≤ 6400)  :
    Calls Tryz.prog 74 #[pdV hd t] w fun e w' => e = .returned (.string ⟨(textP (.mk hd ks)).toArray⟩) ∧ Fr Non w w' := by
  have hn : t.n = ks.length := hk.len
  have F0 : Fr Non w (w.alloc (.cells (pdC hd t) 28)) := (Fr.refl Non w).alloc _
  have PB := Lib.hid (pd_new w _ hd t rfl)
  have HK := Lib.hid (hk.non F0)
  have HW := Lib.hid (hW0.non F0)
  have HQ := Lib.hid (fun W hW => pquote_any hd.pat W hW (by omega))
  have hql := quoT_len hd.pat
  have HE := Lib.hid (tx_4 (h := hd) (ks := ks) hop)
  have hcl := hls.2.1
  have hpl := hls.2.2.1
  have hls1 := hls.1
  generalize textP (.mk hd ks) = r at *
  have HF := Lib.hid F0
  clear F0 hls hW0 hk
  obtain ⟨ho, hc, hm, ⟨vn, vi, vt⟩, hkd, hp⟩ := hd
  obtain ⟨A, n, c⟩ := t
  dsimp only at hn hop hcl hpl HE HQ hql
  have HL := Lib.hid hn
  have hn20 : n ≤ 20 := by omega
  clear hn hls1
  unfold pdV
  unfold pdC kidV
  dsimp only
  subst hop
  generalize hva : quoT hp = va at *
  clear hva
  have s1 := fun W => sadd hc [32, 108, 105, 107, 101, 32] (by simp; omega) W
  have s2 := fun W => sadd (hc ++ [32, 108, 105, 107, 101, 32]) va (by simp; omega) W
  have HC := Lib.hid (HQ.out (w.alloc (.cells (pdC ⟨4, hc, hm, ⟨vn, vi, vt⟩, hkd, hp⟩ ⟨A, n, c⟩) 28)).drew (HW.out.non (Fr.refl _ _).drew))
  obtain ⟨_, q1, _, _, _, _, _, q2, _⟩ := pdB_cells PB.out.drew
  dsimp only at q1 q2
  unfold pdC kidV at HC q1 q2
  dsimp only at HC q1 q2
  go_enter Tryz.func74, Tryz.ntmps74
  go_wp2
  refine wp_region_held_drew (S := (fun W => W.cell? ⟨w.heap.size, 1, none⟩ = some (.string ⟨hc.toArray⟩) ∧ W.cell? ⟨w.heap.size, 7, none⟩ = some (.string ⟨hp.toArray⟩))) (by kernel_rfl) (by exact ⟨q1, q2⟩) (fun hHeld => ?_)
  refine wpAnyH_take (i := 0) (oi := ⟨some 29, _, _, _, _, none⟩) (v := ?v16) rfl (by kernel_rfl) (by kernel_rfl) (by kernel_rfl) (fun _ _ _ h => h) (Or.inl ⟨by rfl, ?hy16⟩) (by assumption) ?rest16
  case hy16 => (intro wS hSw; (try dsimp only at hSw); go_simp; (try with_reducible rfl))
  (try simp only [Act.put, List.setIfInBounds_toArray, List.set_cons_zero, List.set_cons_succ])
  refine wpAnyH_take (i := 1) (oi := ⟨some 30, _, _, _, _, none⟩) (v := ?v17) rfl (by kernel_rfl) (by kernel_rfl) (by kernel_rfl) (fun _ _ _ h => h) (Or.inl ⟨by rfl, ?hy17⟩) (by assumption) ?rest17
  case hy17 => (intro wS hSw; (try dsimp only at hSw); go_simp; (try with_reducible rfl))
  (try simp only [Act.put, List.setIfInBounds_toArray, List.set_cons_zero, List.set_cons_succ])
  refine wpAnyH_take (i := 2) (oi := ⟨some 31, _, _, _, _, none⟩) (v := ?v18) rfl (by kernel_rfl) (by kernel_rfl) (by kernel_rfl) (fun _ _ _ h => h) (Or.inl ⟨by rfl, ?hy18⟩) (by assumption) ?rest18
  case hy18 => (intro wS hSw; (try dsimp only at hSw); go_simp; (try with_reducible rfl))
  (try simp only [Act.put, List.setIfInBounds_toArray, List.set_cons_zero, List.set_cons_succ])
  refine wpAnyH_take (i := 3) (oi := ⟨some 32, _, _, _, _, none⟩) (v := ?v19) rfl (by kernel_rfl) (by kernel_rfl) (by kernel_rfl) (fun _ _ _ h => h) (Or.inl ⟨by rfl, ?hy19⟩) (by assumption) ?rest19
  case hy19 => (intro wS hSw; (try dsimp only at hSw); go_simp; (try with_reducible rfl))
  (try simp only [Act.put, List.setIfInBounds_toArray, List.set_cons_zero, List.set_cons_succ])
  refine wpAnyH_take (i := 4) (oi := ⟨some 33, _, _, _, _, none⟩) (v := ?v20) rfl (by kernel_rfl) (by kernel_rfl) (by kernel_rfl) (fun _ _ _ h => h) (Or.inl ⟨by rfl, ?hy20⟩) (by assumption) ?rest20
  case hy20 => (intro wS hSw; (try dsimp only at hSw); go_simp; (try with_reducible rfl))
  (try simp only [Act.put, List.setIfInBounds_toArray, List.set_cons_zero, List.set_cons_succ])
  refine wpAnyH_ready (rs := [5]) (by kernel_rfl) (by simp) ?_
  refine AllReadyH.cons (o := ⟨some 34, _, _, _, _, none⟩) rfl (fun K hK => ?_) AllReadyH.nil
  go_simp
  go_at_call 90
  (with_reducible refine HC.out.mono ?_)
  rintro e w3 ⟨rfl, f3⟩
  have u1 := (f3.cell (World.block_lt_of_cell? _ _ q1) (fun e => e)).trans q1
  have u2 := (f3.cell (World.block_lt_of_cell? _ _ q2) (fun e => e)).trans q2
  go_wp2_with fail
  refine hK.out _ _ (by exact ⟨u1, u2⟩) (fun hHeld => ?_)
  clear hK K
  (try simp only [Act.put, List.setIfInBounds_toArray, List.set_cons_zero, List.set_cons_succ])
  refine wpAnyH_take (i := 6) (oi := ⟨some 35, _, _, _, _, none⟩) (v := ?v21) rfl (by kernel_rfl) (by kernel_rfl) (by kernel_rfl) (fun _ _ _ h => h) (Or.inl ⟨by rfl, ?hy21⟩) (by assumption) ?rest21
  case hy21 => (intro wS hSw; (try dsimp only at hSw); go_simp; (try with_reducible rfl))
  (try simp only [Act.put, List.setIfInBounds_toArray, List.set_cons_zero, List.set_cons_succ])
  refine wpAnyH_take (i := 7) (oi := ⟨some 2, _, _, _, _, none⟩) (v := ?v22) rfl (by kernel_rfl) (by kernel_rfl) (by kernel_rfl) (fun _ _ _ h => h) (Or.inl ⟨by rfl, ?hy22⟩) (by assumption) ?rest22
  case hy22 => (intro wS hSw; (try dsimp only at hSw); go_simp; (try with_reducible rfl))
  (try simp only [Act.put, List.setIfInBounds_toArray, List.set_cons_zero, List.set_cons_succ])
  refine wpAnyH_done (by kernel_rfl) ?_ _
  go_wp2
  go_ret
  exact ⟨strE (by rw [HE.out] <;> simp), HF.out.drew.trans f3⟩

set_option maxHeartbeats 4000000 in
theorem ptext5_any (hd : Ph) (ks : List Pd) (t : Kv) (w : World) (hop : hd.op = 5) (hW0 : Lp w) (hk : Kd w t ks) (hb : I64b hd.val.num) (hls : ks.length ≤ 20 ∧ hd.col.length ≤ 100 ∧ hd.pat.length ≤ 100 ∧ hd.val.txt.length ≤ 100) (htl2 : (textP (.mk hd ks)).length ≤ 6400) (hk1 : ks.length = 1) (hkb : ∀ k (h : k < ks.length), (textP ks[k]).length ≤ 100000) (IH2 : Hid (∀ k (h : k < ks.length) W t', Lp W → Kd W t' ks[k].kids → Calls Tryz.prog 74 #[pdV ks[k].hd t'] W fun e w' => e = .returned (.string ⟨(textP ks[k]).toArray⟩) ∧ Fr Non W w')) :
    Calls Tryz.prog 74 #[pdV hd t] w fun e w' => e = .returned (.string ⟨(textP (.mk hd ks)).toArray⟩) ∧ Fr Non w w' := by
  have hn : t.n = ks.length := hk.len
  have F0 : Fr Non w (w.alloc (.cells (pdC hd t) 28)) := (Fr.refl Non w).alloc _
  have PB := Lib.hid (pd_new w _ hd t rfl)
  have HK := Lib.hid (hk.non F0)
  have HW := Lib.hid (hW0.non F0)
  have HKB := Lib.hid hkb
  have h0 : 0 < ks.length := by omega
  have HE : Hid (textP (.mk hd ks) = ([110, 111, 116, 32] : Tx) ++ brkP [6, 7] ks[0]) := Lib.hid (by
    cases ks with
    | nil => simp at h0
    | cons k r => exact tx_5 hop)
  have hcl := hls.2.1
  have hpl := hls.2.2.1
  have hls1 := hls.1
  generalize textP (.mk hd ks) = r at *
  have HF := Lib.hid F0
  clear F0 hls hW0 hk hkb
  obtain ⟨ho, hc, hm, ⟨vn, vi, vt⟩, hkd, hp⟩ := hd
  obtain ⟨A, n, c⟩ := t
  dsimp only at hn hop hcl hpl HE
  have HL := Lib.hid hn
  have hn20 : n ≤ 20 := by omega
  clear hn
  unfold pdV
  unfold pdC kidV
  dsimp only
  subst hop
  obtain ⟨a, t, hA, hc2, hkk, _⟩ := HK.out.el 0 h0
  dsimp only at hA
  subst hA
  have hkb := HKB.out 0 h0
  have HC : Hid (∀ W, Fr Non (w.alloc (.cells (pdC ⟨5, hc, hm, ⟨vn, vi, vt⟩, hkd, hp⟩ ⟨some a, n, c⟩) 28)) W → Calls Tryz.prog 74 #[pdV ks[0].hd t] W fun e w' => e = .returned (.string ⟨(textP ks[0]).toArray⟩) ∧ Fr Non W w') := Lib.hid (fun W hf => IH2.out 0 h0 W t (HW.out.non hf) (hkk.non hf))
  have hn1 : n = 1 := by have := HL.out; omega
  subst hn1
  have ht := hkb
  clear hkb hkk IH2 HKB
  generalize ks[0] = p at *
  obtain ⟨x, ps⟩ := p
  dsimp only [Pd.hd] at hc2 HC
  rw [show a.add (0 * 9) = a by simp [Addr.add]] at hc2
  obtain ⟨c0, c1, c2, c3, c4, c5, c6, c7, c8⟩ := hc2
  have G1 := Lib.hid ((Fr.refl Non (w.alloc (.cells (pdC ⟨5, hc, hm, ⟨vn, vi, vt⟩, hkd, hp⟩ ⟨some a, 1, c⟩) 28))).alloc (.cells #[.int .i64 6, .int .i64 7] 3))
  have V2 : Vs iv ((w.alloc (.cells (pdC ⟨5, hc, hm, ⟨vn, vi, vt⟩, hkd, hp⟩ ⟨some a, 1, c⟩) 28)).alloc (.cells #[.int .i64 6, .int .i64 7] 3)) (.slice (some ⟨(w.alloc (.cells (pdC ⟨5, hc, hm, ⟨vn, vi, vt⟩, hkd, hp⟩ ⟨some a, 1, c⟩) 28)).heap.size, 0, none⟩) 2 2) [6, 7] := vs_row _ [6, 7] _ (0, 0)
  rw [show (w.alloc (.cells (pdC ⟨5, hc, hm, ⟨vn, vi, vt⟩, hkd, hp⟩ ⟨some a, 1, c⟩) 28)).heap.size = w.heap.size + 1 by simp] at V2
  have HB := Lib.hid (pbrk_any x t ps [6, 7] _ _ V2 (by decide) ht (Lib.hid (fun W hf => HC.out W (G1.out.trans hf))))
  clear HC V2 ht
  have hbl : (brkP [6, 7] (.mk x ps)).length ≤ 6400 := by have e := congrArg List.length HE.out; rw [List.length_append] at e; omega
  generalize brkP [6, 7] (.mk x ps) = y at *
  have s1 := fun W => sadd [110, 111, 116, 32] y (by simp; omega) W
  obtain ⟨xo, xc, xm, ⟨xn, xi, xt⟩, xk, xp⟩ := x
  obtain ⟨tA, tn, tc⟩ := t
  unfold pdV at HB
  unfold pdC kidV at HB G1 c0 c1 c2 c3 c4 c5 c6 c7 c8
  dsimp only at HB G1 c0 c1 c2 c3 c4 c5 c6 c7 c8
  go_enter Tryz.func74, Tryz.ntmps74
  go_wp2_with fail
  refine HB.out.mono ?_
  rintro e w2 ⟨rfl, f2⟩
  go_wp2
  go_ret
  exact ⟨strE (by rw [HE.out] <;> simp), (HF.out.trans G1.out).trans f2⟩

set_option maxHeartbeats 4000000 in
theorem ptext6_any (hd : Ph) (ks : List Pd) (t : Kv) (w : World) (hop : hd.op = 6) (hW0 : Lp w) (hk : Kd w t ks) (hb : I64b hd.val.num) (hls : ks.length ≤ 20 ∧ hd.col.length ≤ 100 ∧ hd.pat.length ≤ 100 ∧ hd.val.txt.length ≤ 100) (htl2 : (textP (.mk hd ks)).length ≤ 6400) (hkb : ∀ k (h : k < ks.length), (textP ks[k]).length ≤ 100000) (IH2 : Hid (∀ k (h : k < ks.length) W t', Lp W → Kd W t' ks[k].kids → Calls Tryz.prog 74 #[pdV ks[k].hd t'] W fun e w' => e = .returned (.string ⟨(textP ks[k]).toArray⟩) ∧ Fr Non W w')) :
    Calls Tryz.prog 74 #[pdV hd t] w fun e w' => e = .returned (.string ⟨(textP (.mk hd ks)).toArray⟩) ∧ Fr Non w w' := by
  have hn : t.n = ks.length := hk.len
  have F0 : Fr Non w (w.alloc (.cells (pdC hd t) 28)) := (Fr.refl Non w).alloc _
  have PB := Lib.hid (pd_new w _ hd t rfl)
  have HK := Lib.hid (hk.non F0)
  have HW := Lib.hid (hW0.non F0)
  have HKB := Lib.hid hkb
  have HE := Lib.hid (tx_6 (h := hd) (ks := ks) hop)
  have hcl := hls.2.1
  have hpl := hls.2.2.1
  have hls1 := hls.1
  generalize textP (.mk hd ks) = r at *
  have HF := Lib.hid F0
  clear F0 hls hW0 hk hkb
  obtain ⟨ho, hc, hm, ⟨vn, vi, vt⟩, hkd, hp⟩ := hd
  obtain ⟨A, n, c⟩ := t
  dsimp only at hn hop hcl hpl HE
  have HL := Lib.hid hn
  have hn20 : n ≤ 20 := by omega
  clear hn hls1
  unfold pdV
  unfold pdC kidV
  dsimp only
  subst hop
  have G1 := Lib.hid ((Fr.refl Non (w.alloc (.cells (pdC ⟨6, hc, hm, ⟨vn, vi, vt⟩, hkd, hp⟩ ⟨A, n, c⟩) 28))).alloc (.cells #[.int .i64 7] 3))
  have V2 : Vs iv ((w.alloc (.cells (pdC ⟨6, hc, hm, ⟨vn, vi, vt⟩, hkd, hp⟩ ⟨A, n, c⟩) 28)).alloc (.cells #[.int .i64 7] 3)) (.slice (some ⟨(w.alloc (.cells (pdC ⟨6, hc, hm, ⟨vn, vi, vt⟩, hkd, hp⟩ ⟨A, n, c⟩) 28)).heap.size, 0, none⟩) 1 1) [7] := vs_row _ [7] _ (0, 0)
  rw [show (w.alloc (.cells (pdC ⟨6, hc, hm, ⟨vn, vi, vt⟩, hkd, hp⟩ ⟨A, n, c⟩) 28)).heap.size = w.heap.size + 1 by simp] at V2
  have HB := Lib.hid (pjoined_any ⟨A, n, c⟩ ks andT [7] _ _ (HW.out.non G1.out) (HK.out.non G1.out) V2 (by decide) (by have := HL.out; omega) (by rw [← HE.out]; omega) (fun k h => HKB.out k h) IH2)
  clear V2 IH2 HKB
  generalize Lib.join (ks.map (brkP [7])) andT = y at *
  unfold andT at HB
  unfold pdC kidV at HB G1
  dsimp only at HB G1
  go_enter Tryz.func74, Tryz.ntmps74
  go_wp2_with fail
  refine HB.out.mono ?_
  rintro e w2 ⟨rfl, f2⟩
  go_wp2
  go_ret
  exact ⟨strE (by rw [HE.out] <;> simp), (HF.out.trans G1.out).trans f2⟩

set_option maxHeartbeats 4000000 in
theorem ptext7_any (hd : Ph) (ks : List Pd) (t : Kv) (w : World) (hop : hd.op = 7) (hW0 : Lp w) (hk : Kd w t ks) (hb : I64b hd.val.num) (hls : ks.length ≤ 20 ∧ hd.col.length ≤ 100 ∧ hd.pat.length ≤ 100 ∧ hd.val.txt.length ≤ 100) (htl2 : (textP (.mk hd ks)).length ≤ 6400) (hkb : ∀ k (h : k < ks.length), (textP ks[k]).length ≤ 100000) (IH2 : Hid (∀ k (h : k < ks.length) W t', Lp W → Kd W t' ks[k].kids → Calls Tryz.prog 74 #[pdV ks[k].hd t'] W fun e w' => e = .returned (.string ⟨(textP ks[k]).toArray⟩) ∧ Fr Non W w')) :
    Calls Tryz.prog 74 #[pdV hd t] w fun e w' => e = .returned (.string ⟨(textP (.mk hd ks)).toArray⟩) ∧ Fr Non w w' := by
  have hn : t.n = ks.length := hk.len
  have F0 : Fr Non w (w.alloc (.cells (pdC hd t) 28)) := (Fr.refl Non w).alloc _
  have PB := Lib.hid (pd_new w _ hd t rfl)
  have HK := Lib.hid (hk.non F0)
  have HW := Lib.hid (hW0.non F0)
  have HKB := Lib.hid hkb
  have HE := Lib.hid (tx_7 (h := hd) (ks := ks) hop)
  have hcl := hls.2.1
  have hpl := hls.2.2.1
  have hls1 := hls.1
  generalize textP (.mk hd ks) = r at *
  have HF := Lib.hid F0
  clear F0 hls hW0 hk hkb
  obtain ⟨ho, hc, hm, ⟨vn, vi, vt⟩, hkd, hp⟩ := hd
  obtain ⟨A, n, c⟩ := t
  dsimp only at hn hop hcl hpl HE
  have HL := Lib.hid hn
  have hn20 : n ≤ 20 := by omega
  clear hn hls1
  unfold pdV
  unfold pdC kidV
  dsimp only
  subst hop
  have HB := Lib.hid (pjoined_any ⟨A, n, c⟩ ks orT [] (.slice none 0 0) _ HW.out HK.out (Vs.nil_ _) (by decide) (by have := HL.out; omega) (by rw [← HE.out]; omega) (fun k h => HKB.out k h) IH2)
  clear IH2 HKB
  generalize Lib.join (ks.map (brkP [])) orT = y at *
  unfold orT at HB
  unfold pdC kidV at HB
  dsimp only at HB
  go_enter Tryz.func74, Tryz.ntmps74
  go_wp2_with fail
  refine HB.out.mono ?_
  rintro e w2 ⟨rfl, f2⟩
  go_wp2
  go_ret
  exact ⟨strE (by rw [HE.out] <;> simp), HF.out.trans f2⟩

theorem ptext_any (p : Pd) : ∀ (t : Kv) (w : World), Lp w → Kd w t p.kids → I64b p.hd.val.num → lenP p = true → oneP p = true → cntP p ≤ 16 →
    Calls Tryz.prog 74 #[pdV p.hd t] w fun e w' => e = .returned (.string ⟨(textP p).toArray⟩) ∧ Fr Non w w' := by
  induction p using Pd.ind with
  | h hd ks ih =>
    intro t w hW hk hb hlen hone hcnt
    dsimp only [Pd.hd, Pd.kids] at hk hb ⊢
    have hls := lenP_mk hlen
    have hops := one_ops hone
    have hnum : numP (.mk hd ks) := ⟨hb, hk.num⟩
    have htl := text_len (.mk hd ks) hnum hlen
    have htl2 : (textP (.mk hd ks)).length ≤ 6400 := by omega
    have hkl : ∀ k (h : k < ks.length), (textP ks[k]).length ≤ 100000 := fun k h => by
      have hm := List.getElem_mem h
      have h1 := cntL_mem hm
      rw [cntP] at hcnt
      have := text_len ks[k] ((numL_all ks).1 hk.num _ hm) (hls.2.2.2.2 _ hm)
      omega
    have IH2 : Hid (∀ k (h : k < ks.length) W t', Lp W → Kd W t' ks[k].kids → Calls Tryz.prog 74 #[pdV ks[k].hd t'] W fun e w' => e = .returned (.string ⟨(textP ks[k]).toArray⟩) ∧ Fr Non W w') :=
      Lib.hid (fun k h W t' hW' a => by
        have hm := List.getElem_mem h
        have h1 := cntL_mem hm
        rw [cntP] at hcnt
        refine ih _ hm t' W hW' a ?_ (hls.2.2.2.2 _ hm) (hops.2 _ hm) (by omega)
        have := (numL_all ks).1 hk.num _ hm
        generalize ks[k] = p at *
        obtain ⟨h, ks⟩ := p
        exact this.1)
    have hl4 := And.intro hls.1 (And.intro hls.2.1 (And.intro hls.2.2.1 hls.2.2.2.1))
    rcases hops.1 with h1 | ⟨h2, hc1, hc6⟩ | h3 | h4 | ⟨h5, hk1⟩ | h6 | h7
    · exact ptext1_any hd ks t w h1 hW hk hb hl4 htl2
    · exact ptext2_any hd ks t w h2 hW hk hb hl4 htl2 ⟨hc1, hc6⟩
    · exact ptext3_any hd ks t w h3 hW hk hb hl4 htl2
    · exact ptext4_any hd ks t w h4 hW hk hb hl4 htl2
    · exact ptext5_any hd ks t w h5 hW hk hb hl4 htl2 hk1 hkl IH2
    · exact ptext6_any hd ks t w h6 hW hk hb hl4 htl2 hkl IH2
    · exact ptext7_any hd ks t w h7 hW hk hb hl4 htl2 hkl IH2

/-- nothing of one that may not be -/
def TextP (p : Pd) : Tx := if mayP p = true then textP p else []
set_option maxHeartbeats 2000000 in
theorem pText_any (h : Ph) (t : Kv) (ks : List Pd) (w : World) (hW : Lp w) (hk : Kd w t ks) (hb : I64b h.val.num) (hlen : lenP (.mk h ks) = true) (hdep : depP (.mk h ks) ≤ 9) :
    Calls Tryz.prog 44 #[pdV h t] w fun e w' => e = .returned (.string ⟨(TextP (.mk h ks)).toArray⟩) ∧ Fr Non w w' := by
  have F0 : Fr Non w (w.alloc (.cells (pdC h t) 28)) := (Fr.refl Non w).alloc _
  have M1 := Lib.hid (pmay_any h t ks _ (hk.non F0) hb hlen hdep)
  have PB := Lib.hid (pd_new w _ h t rfl)
  have C1 : Hid (mayP (.mk h ks) = true → ∀ W, Fr Non w W → Calls Tryz.prog 74 #[pdV h t] W fun e w' => e = .returned (.string ⟨(textP (.mk h ks)).toArray⟩) ∧ Fr Non W w') := Lib.hid (fun e W hf => by
    unfold mayP at e
    rw [Bool.and_eq_true, decide_eq_true_eq] at e
    exact ptext_any (.mk h ks) t W (hW.non hf) (hk.non hf) hb hlen e.2 e.1.1)
  have HE0 : Hid (TextP (.mk h ks) = if mayP (.mk h ks) = true then textP (.mk h ks) else []) := Lib.hid rfl
  generalize TextP (.mk h ks) = r at *
  generalize textP (.mk h ks) = tx at *
  generalize mayP (.mk h ks) = b at *
  have F0 := Lib.hid F0
  clear hk hlen hdep hW
  obtain ⟨ho, hc, hm, ⟨vn, vi, vt⟩, hkd, hp⟩ := h
  obtain ⟨A, nn, c⟩ := t
  unfold pdV pdC kidV at *
  dsimp only at *
  cases b
  · have HE : Hid (r = []) := Lib.hid (by rw [HE0.out, if_neg (by simp)])
    clear HE0 C1
    go_enter Tryz.func44, Tryz.ntmps44
    go_wp2_with fail
    refine M1.out.mono ?_
    rintro e w1 ⟨rfl, f1⟩
    go_wp2
    go_ret
    exact ⟨strE (by rw [HE.out] <;> simp), F0.out.trans f1⟩
  · have HE : Hid (r = tx) := Lib.hid (by rw [HE0.out, if_pos rfl])
    have C2 := Lib.hid (C1.out rfl)
    clear HE0 C1
    go_enter Tryz.func44, Tryz.ntmps44
    go_wp2_with fail
    refine M1.out.mono ?_
    rintro e w1 ⟨rfl, f1⟩
    obtain ⟨g0, g1, g2, g3, g4, g5, g6, g7, g8⟩ := pdB_cells (PB.out.fr f1 (fun e => e))
    dsimp only at g0 g1 g2 g3 g4 g5 g6 g7 g8
    have F1 := Lib.hid (F0.out.trans f1)
    clear f1
    go_wp2_with fail
    refine (C2.out _ F1.out).mono ?_
    rintro e w2 ⟨rfl, f2⟩
    go_wp2
    go_ret
    exact ⟨strE (by rw [HE.out] <;> simp), F1.out.trans f2⟩
end Go.Proofs.YtibopcceffncpaaGreatDoor


namespace Go.Proofs.YtibopcceffncpaaGreatDoor
set_option linter.unusedVariables false
set_option linter.unusedSimpArgs false
set_option maxRecDepth 100000
open Go.RowKit

/-! ### Asked of all: what is handed on may lie anew each time; of the predicates a condition -/
def AskEndQ {σ : Type} (R : World → σ → (Nat → Prop) → Prop) (r : Option σ) (X : Nat → Prop) (W : World) (e : Ending) (w' : World) : Prop :=
  e = .returned (.bool r.isSome) ∧ Fr X W w' ∧ ∀ s', r = some s' → ∃ X', R w' s' X'
def AskEndA {σ : Type} (R : World → σ → (Nat → Prop) → Prop) (r : Option σ) (w0 : World) (e : Ending) (w' : World) : Prop :=
  e = .returned (.bool r.isSome) ∧ Fr Non w0 w' ∧ ∀ s', r = some s' → ∃ X', R w' s' X'
def AsksQ {σ : Type} (R : World → σ → (Nat → Prop) → Prop) (f : σ → Pd → Nat → Option σ) (F g : Nat) (w0 : World) (P : Pd → Prop) : Prop :=
  ∀ (W : World) (s : σ) (X : Nat → Prop) (p : Pd) (t : Kv) (d : Nat) (dz : Int), dz = d → Fr Non w0 W → R W s X → Kd w0 t p.kids → I64b p.hd.val.num → lenP p = true → d + depP p ≤ 1000 → P p →
    Calls Tryz.prog F #[pdV p.hd t, .int .i64 dz, .pointer (some ⟨g, 0, none⟩)] W (AskEndQ R (f s p d) X W)
set_option maxHeartbeats 4000000 in
theorem allq_any {σ : Type} (R : World → σ → (Nat → Prop) → Prop) (f : σ → Pd → Nat → Option σ) (F g : Nat) (w0 : World)
    (hlt : ∀ W s X, R W s X → ∀ q, X q → w0.heap.size ≤ q ∧ q < W.heap.size) (hR : ∀ W W' s X, R W s X → Fr Non W W' → R W' s X) (hcf : ∀ args W, (callFunc F args).run Tryz.prog W = .ok (.enter F args) W) (P : Pd → Prop) (hP : ∀ h ks, P (.mk h ks) → ∀ k ∈ ks, P k) (hask : AsksQ R f F g w0 P) (p : Pd) :
    ∀ (W : World) (s : σ) (X : Nat → Prop) (t : Kv) (d : Nat) (dz : Int), dz = d → Fr Non w0 W → R W s X → Kd w0 t p.kids → I64b p.hd.val.num → lenP p = true → d + depP p ≤ 1000 → P p →
    Calls Tryz.prog 48 #[pdV p.hd t, .int .i64 dz, .func (.func F) #[] #[.pointer (some ⟨g, 0, none⟩)]] W (AskEndA R (allP f p s d) w0) := by
  induction p using Pd.ind with
  | h hd ks ih =>
    intro W s X t d dz hdz hF hr hk hb hlen hdep hPp
    subst hdz
    have hn : t.n = ks.length := hk.len
    have hls := (lenP_mk hlen).1
    have hdd : d ≤ 999 := by have := dep_pos (.mk hd ks); omega
    have F1 : Fr Non W (W.alloc (.cells (pdC hd t) 28)) := (Fr.refl Non W).alloc _
    have hr1 := hR _ _ _ _ hr F1
    have A1 := hask _ s X (.mk hd ks) t d (d : Int) rfl (hF.trans F1) hr1 hk hb hlen hdep hPp
    have hXb : ¬ X W.heap.size := fun h => by have := (hlt _ _ _ hr _ h).2; omega
    have B0 := Lib.hid (pd_new W _ hd t rfl)
    have HS : Hid (allP f (.mk hd ks) s d = (f s (.mk hd ks) d).bind fun s' => allL f ks s' (d + 1)) := Lib.hid (by rw [allP])
    generalize f s (.mk hd ks) d = r at *
    generalize allP f (.mk hd ks) s d = r0 at *
    have IH : Hid (∀ k (h : k < ks.length) (W' : World) (s' : σ) (X' : Nat → Prop) (t' : Kv), Fr Non w0 W' → R W' s' X' → Kd w0 t' ks[k].kids → I64b ks[k].hd.val.num →
        Calls Tryz.prog 48 #[pdV ks[k].hd t', .int .i64 ((d : Int) + 1), .func (.func F) #[] #[.pointer (some ⟨g, 0, none⟩)]] W' (AskEndA R (allP f ks[k] s' (d + 1)) w0)) :=
      Lib.hid (fun k h W' s' X' t' a b c e => ih _ (List.getElem_mem h) W' s' X' t' (d + 1) _ (by simp) a b c e ((lenP_mk hlen).2.2.2.2 _ (List.getElem_mem h)) (by
        rw [depP] at hdep
        have := depL_mem (List.getElem_mem h)
        omega) (hP hd ks hPp _ (List.getElem_mem h)))
    have HKd : Hid (Kd w0 t ks) := Lib.hid hk
    have HF := Lib.hid hF
    have HLT := Lib.hid hlt
    have HR := Lib.hid hR
    have HR0 := Lib.hid hr
    have HF1 := Lib.hid F1
    clear ih hk hb hlen hdep hask hlt hR hr hr1 hF F1 hPp hP
    obtain ⟨ho, hc, hm, ⟨vn, vi, vt⟩, hkd, hp⟩ := hd
    obtain ⟨A, n, c⟩ := t
    dsimp only at hn
    subst hn
    unfold pdV pdC kidV at A1 ⊢
    dsimp only [Pd.hd, Pd.kids] at A1 ⊢
    have A1 := Lib.hid A1
    go_enter Tryz.func48, Tryz.ntmps48
    go_wp2_with fail
    refine A1.out.mono ?_
    rintro e w1 ⟨rfl, f1, hs1⟩
    have HS1 := Lib.hid hs1
    have g8 := (B0.out.fr f1 hXb).cell 8
    simp [pdC, kidV] at g8
    have FX : Hid (Fr Non w0 w1) := Lib.hid ((HF.out.trans HF1.out).fresh f1 (fun q hq => (HLT.out _ _ _ HR0.out q hq).1))
    clear hs1 f1 A1 hXb
    cases r with
    | none =>
      have HE : Hid (r0 = none) := Lib.hid (by rw [HS.out]; rfl)
      go_wp2
      go_ret
      exact ⟨by rw [HE.out]; rfl, FX.out, fun s' h => by rw [HE.out] at h; cases h⟩
    | some s1 =>
      have HE : Hid (r0 = allL f ks s1 (d + 1)) := Lib.hid (by rw [HS.out]; rfl)
      clear HS
      obtain ⟨X1, hr1⟩ := HS1.out s1 rfl
      have HR1 := Lib.hid hr1
      clear hr1 HS1
      go_wp2
      go_loopw [17] (fun i wr => ∃ (k : Nat) (sk : σ) (Xk : Nat → Prop), k ≤ ks.length ∧ i = .int .i64 k ∧ Hid (r0 = allL f (ks.drop k) sk (d + 1)) ∧ Hid (R wr sk Xk) ∧ Hid (Fr Non w0 wr)) (fun i _ => ks.length - (intOf i).toNat)
      case atStart => exact ⟨0, s1, X1, Nat.zero_le _, rfl, HE, HR1, FX⟩
      case round =>
        clear HE HR1 FX g8
        obtain ⟨k, sk, Xk, hk, rfl, HE, HR1, FX⟩ := hrel
        have hFw := FX
        by_cases hlt : k < ks.length
        · obtain ⟨a, t, hA, hc2, hkk, hbb⟩ := HKd.out.el k hlt
          have hc3 : PCells wr (a.add (k * 9)) ks[k].hd t := by
            obtain ⟨a', t', hA', hc', _, _⟩ := (HKd.out.non hFw.out).el k hlt
            dsimp only at hA hA'
            obtain rfl := Option.some.inj (hA.symm.trans hA')
            have e : t' = t := by
              have x1 := hc'.2.2.2.2.2.2.2.2
              have x2 := hc2.2.2.2.2.2.2.2.2
              have hbl : (a.add (k * 9)).block < w0.heap.size := World.block_lt_of_cell? w0 _ hc2.1
              have x3 := hFw.out.cell (p := { block := (a.add (k * 9)).block, off := (a.add (k * 9)).off + 8 }) hbl (fun e => e)
              rw [x3, x2] at x1
              simp only [Option.some.injEq, Value.slice.injEq] at x1
              obtain ⟨y1, y2, y3⟩ := x1
              cases t; cases t'; simp_all
            rw [e] at hc'; exact hc'
          clear hc2
          dsimp only at hA
          subst hA
          obtain ⟨c0, c1, c2, c3, c4, c5, c6, c7, c8⟩ := hc3
          have HC := Lib.hid (fun W' s' X' a b => IH.out k hlt W' s' X' t a b hkk hbb)
          have HY := Lib.hid (HE.out.trans (allL_at hlt sk (d + 1)))
          clear hkk hbb HE
          generalize allP f ks[k] = ff at *
          generalize ks[k].hd = x at *
          obtain ⟨xo, xc, xm, ⟨xn, xi, xt⟩, xk, xp⟩ := x
          obtain ⟨tA, tn, tc⟩ := t
          dsimp only at c0 c1 c2 c3 c4 c5 c6 c7 c8
          have G1 := Lib.hid ((Fr.refl Non wr).alloc (.cells #[.int .i64 xo, .string ⟨xc.toArray⟩, .int .i64 xm, .bool xn, .int .i64 xi, .string ⟨xt.toArray⟩, .int .i64 xk, .string ⟨xp.toArray⟩, .slice tA tn tc] 28))
          have HC2 := Lib.hid (HC.out _ sk Xk (hFw.out.trans G1.out) (HR.out _ _ _ _ HR1.out G1.out))
          clear HC
          unfold pdV pdC kidV at HC2
          dsimp only at HC2
          generalize ff sk (d + 1) = rr at *
          go_wp2_with fail
          refine HC2.out.mono ?_
          rintro e w2 ⟨rfl, f2, hs2⟩
          have HS2 := Lib.hid hs2
          have FX2 : Hid (Fr Non w0 w2) := Lib.hid f2
          clear hs2 f2 HC2
          cases rr with
          | none =>
            have HE : Hid (r0 = none) := Lib.hid HY.out
            clear HY HS2
            go_wp2
            go_ret
            exact ⟨by rw [HE.out]; rfl, FX2.out, fun s' h => by rw [HE.out] at h; cases h⟩
          | some s2 =>
            obtain ⟨X2, hr2⟩ := HS2.out s2 rfl
            have HE : Hid (r0 = allL f (ks.drop (k + 1)) s2 (d + 1)) := Lib.hid HY.out
            have HR2 := Lib.hid hr2
            clear HY HS2 hr2
            go_wp2
            go_roundw
            case rel => exact ⟨k + 1, s2, X2, by omega, by go_num, HE, HR2, FX2⟩
            case measure => simp [intOf]; omega
        · have HE2 : Hid (r0 = some sk) := Lib.hid (HE.out.trans (allL_end (by omega) sk (d + 1)))
          clear HE
          go_wp2
          go_ret
          exact ⟨by rw [HE2.out]; rfl, FX.out, fun s' h => by
            rw [HE2.out] at h
            obtain rfl := Option.some.inj h
            exact ⟨Xk, HR1.out⟩⟩

/-! ### Which names there are -/
mutual
def namP : Pd → List Tx | .mk h ks => h.col :: namL ks
def namL : List Pd → List Tx | [] => [] | k :: r => namP k ++ namL r
end
theorem namL_mem {l : List Pd} {k : Pd} (h : k ∈ l) : ∀ x ∈ namP k, x ∈ namL l := by
  induction l with
  | nil => cases h
  | cons y r ih =>
    intro x hx
    rw [namL, List.mem_append]
    rcases List.mem_cons.1 h with rfl | h
    · exact .inl hx
    · exact .inr (ih h x hx)
theorem nam_len (p : Pd) : (namP p).length = cntP p := by
  induction p using Pd.ind with
  | h hd ks ih =>
    have hL : ∀ (l : List Pd), (∀ k ∈ l, k ∈ ks) → (namL l).length = cntL l := by
      intro l
      induction l with
      | nil => intro _; rw [namL, cntL]; rfl
      | cons k r ih2 => intro hm; rw [namL, cntL, List.length_append, ih k (hm k (List.mem_cons_self ..)), ih2 (fun x hx => hm x (List.mem_cons_of_mem _ hx))]
    rw [namP, cntP, List.length_cons, hL ks (fun _ h => h)]; omega
theorem nodup_sub (l U : List Tx) (h1 : l.Nodup) (h2 : ∀ x ∈ l, x ∈ U) : l.length ≤ U.length := by
  induction l generalizing U with
  | nil => simp
  | cons x l ih =>
    rw [List.nodup_cons] at h1
    have hx := h2 x (List.mem_cons_self ..)
    have := ih (U.erase x) h1.2 (fun y hy => by
      have hne : y ≠ x := fun e => h1.1 (e ▸ hy)
      exact (List.mem_erase_of_ne hne).2 (h2 y (List.mem_cons_of_mem _ hy)))
    rw [List.length_erase_of_mem hx] at this
    have := List.length_pos_of_mem hx
    rw [List.length_cons]; omega
theorem addC_no {l : List Tx} {h : Ph} (e : h.col = [] ∨ h.col ∈ l) : addC l h = l := by unfold addC; rw [if_pos e]
theorem addC_yes {l : List Tx} {h : Ph} (e1 : ¬ h.col = []) (e2 : ¬ h.col ∈ l) : addC l h = l ++ [h.col] := by unfold addC; rw [if_neg (by rintro (e | e); exact e1 e; exact e2 e)]

/-! ### Where a text is -/
set_option maxHeartbeats 2000000 in
theorem pidxs_any (v : Value) (l : List Tx) (x : Tx) (w : World) (hv : Vs sv w v l) (hl : l.length ≤ 1000) :
    Calls Tryz.prog 83 #[v, .string ⟨x.toArray⟩] w fun e w' => ∃ z : Int, e = .returned (.int .i64 z) ∧ decide (0 ≤ z) = decide (x ∈ l) ∧ Fr Non w w' := by
  obtain ⟨A, c, rfl, hlc, hn, hcell⟩ := hv
  have HC := Lib.hid hcell
  have HN := Lib.hid hn
  clear hcell hn
  go_enter Tryz.func83, Tryz.ntmps83
  go_wp2
  go_loopw [8] (fun i wr => ∃ (k : Nat), k ≤ l.length ∧ i = .int .i64 k ∧ Hid (∀ j (h : j < l.length), j < k → l[j] ≠ x) ∧ Hid (Fr Non w wr)) (fun i _ => l.length - (intOf i).toNat)
  case atStart => exact ⟨0, Nat.zero_le _, rfl, Lib.hid (fun _ _ h => by omega), Lib.hid (Fr.refl _ _)⟩
  case round =>
    obtain ⟨k, hk, rfl, HT, FR⟩ := hrel
    by_cases hlt : k < l.length
    · cases A with
      | none => have := HN.out rfl; omega
      | some a =>
        have c0 := (FR.out.cell (World.block_lt_of_cell? _ _ (HC.out a rfl k hlt)) (fun e => e)).trans (HC.out a rfl k hlt)
        unfold sv at c0
        have HX : Hid (l[k] = x → x ∈ l) := Lib.hid (fun e => by rw [← e]; exact List.getElem_mem hlt)
        have HY : Hid (l[k] ≠ x → ∀ j (h : j < l.length), j < k + 1 → l[j] ≠ x) := Lib.hid (fun e j hj hjk => by
          by_cases ee : j = k
          · subst ee; exact e
          · exact HT.out j hj (by omega))
        clear HT
        generalize l[k] = y at *
        by_cases he : y = x
        · have HE := Lib.hid (HX.out he)
          subst he
          clear HX HY
          go_wp2
          go_ret
          exact ⟨_, rfl, by rw [decide_eq_true HE.out]; exact decide_eq_true (by omega), FR.out⟩
        · have hb : (x == y) = false := by rw [beq_eq_false_iff_ne]; exact fun e => he e.symm
          have HE := Lib.hid (HY.out he)
          clear HX HY he
          go_wp2
          go_roundw
          case rel => exact ⟨k + 1, by omega, by go_num, HE, FR⟩
          case measure => simp [intOf]; omega
    · have HE : Hid (¬ x ∈ l) := Lib.hid (fun hx => by
        obtain ⟨j, hj, e⟩ := List.mem_iff_getElem.1 hx
        exact HT.out j hj (by omega) e)
      clear HT
      go_wp2
      go_ret
      exact ⟨_, rfl, by rw [decide_eq_false HE.out]; rfl, FR.out⟩
theorem pconts_any (v : Value) (l : List Tx) (x : Tx) (w : World) (hv : Vs sv w v l) (hl : l.length ≤ 1000) :
    Calls Tryz.prog 67 #[v, .string ⟨x.toArray⟩] w fun e w' => e = .returned (.bool (decide (x ∈ l))) ∧ Fr Non w w' := by
  have h0 := Lib.hid (pidxs_any v l x w hv hl)
  obtain ⟨A, c, rfl⟩ := hv.shape
  clear hv
  go_enter Tryz.func67, Tryz.ntmps67
  go_wp2_with fail
  refine h0.out.mono ?_
  rintro e w1 ⟨z, rfl, hz, f1⟩
  go_wp2
  go_ret
  exact ⟨rfl, f1⟩

/-! ### The program's -/
/-- the names' variable lies in block g -/
def RcC (w0 : World) (g : Nat) (U : List Tx) (W : World) (l : List Tx) (X : Nat → Prop) : Prop :=
  w0.heap.size ≤ g ∧ l.Nodup ∧ (∀ x ∈ l, x ∈ U) ∧ ∃ v, Blk W g 23 #[v] ∧ Ow sv 9 W w0.heap.size v l ∧ X = fun q => q = g ∨ v.ownBlock = some q
theorem str_ne_strs : 9 ≠ 23 := by decide
theorem ow_other2 {α : Type} {f : α → Value} {E t : TypeId} {w : World} {B g : Nat} {v : Value} {l : List α} {cs : Array Value} (h : Ow f E w B v l) (hb : Blk w g t cs) (hne : E ≠ t) : ∀ k, v.ownBlock = some k → k ≠ g := by
  rintro k hk rfl
  obtain ⟨cur, h1⟩ := h.kind k hk
  unfold Blk at hb
  rw [hb] at h1
  simp at h1
  exact hne h1.2.symm
set_option maxHeartbeats 4000000 in
theorem cols1_any (w0 : World) (g : Nat) (U : List Tx) (hU : U.length ≤ 500) : AsksQ (RcC w0 g U) stepC 66 g w0 (fun p => p.hd.col = [] ∨ p.hd.col ∈ U) := by
  intro W l X p t d dz hdz hF hr hk hb hlen hdep hPp
  subst hdz
  obtain ⟨h, ks⟩ := p
  obtain ⟨hg0, hnd, hsub, v, hB, hO, rfl⟩ := hr
  dsimp only [Pd.hd, Pd.kids] at hk hb hPp ⊢
  have hll := nodup_sub l U hnd hsub
  have F0 : Fr Non W (W.alloc (.cells (pdC h t) 28)) := (Fr.refl Non W).alloc _
  have hgl := hB.lt
  have HB1 := Lib.hid (hB.fr F0 (fun e => e))
  have HO1 := Lib.hid (hO.non F0)
  have PB := Lib.hid (pd_new W _ h t rfl)
  have hc0 := HB1.out.cell 0
  simp at hc0
  have HC := Lib.hid (pconts_any v l h.col _ HO1.out.vs (by omega))
  have HN := Lib.hid (fun e => addC_no (l := l) (h := h) e)
  have HY := Lib.hid (fun e f => addC_yes (l := l) (h := h) e f)
  have HP := Lib.hid hPp
  have HND := Lib.hid hnd
  have HSB := Lib.hid hsub
  have HS : Hid (stepC l (.mk h ks) d = some (addC l h)) := Lib.hid rfl
  obtain ⟨vA, vc, hve⟩ := hO.shape
  have HO := Lib.hid hO
  have HF0 := Lib.hid F0
  have HB := Lib.hid hB
  generalize stepC l _ d = r at *
  generalize addC l h = al at *
  clear hk hlen hdep hB F0 hF hnd hsub hO hPp
  obtain ⟨ho, hc, hm, ⟨vn, vi, vt⟩, hkd, hp⟩ := h
  obtain ⟨A, nn, c⟩ := t
  subst hve
  dsimp only at HC HN HY HP
  unfold pdV
  unfold pdC kidV at *
  dsimp only at *
  by_cases h0 : hc = []
  · have HE := Lib.hid (HN.out (.inl h0))
    subst h0
    clear HC HN HY
    go_enter Tryz.func66, Tryz.ntmps66
    go_wp2
    go_ret
    refine ⟨by rw [HS.out]; rfl, HF0.out.any, fun s' hs => ?_⟩
    rw [HS.out, HE.out] at hs
    obtain rfl := Option.some.inj hs
    exact ⟨_, hg0, HND.out, HSB.out, _, HB1.out, HO1.out, rfl⟩
  · have hb1 : (hc == []) = false := by rw [beq_eq_false_iff_ne]; exact h0
    by_cases hi : hc ∈ l
    · have HE := Lib.hid (HN.out (.inr hi))
      simp only [decide_eq_true hi] at HC
      clear HN HY hi h0
      go_enter Tryz.func66, Tryz.ntmps66
      go_wp2_with fail
      refine HC.out.mono ?_
      rintro e w1 ⟨rfl, f1⟩
      go_wp2
      go_ret
      refine ⟨by rw [HS.out]; rfl, (HF0.out.trans f1).any, fun s' hs => ?_⟩
      rw [HS.out, HE.out] at hs
      obtain rfl := Option.some.inj hs
      exact ⟨_, hg0, HND.out, HSB.out, _, HB1.out.fr f1 (fun e => e), HO1.out.non f1, rfl⟩
    · have HE := Lib.hid (HY.out h0 hi)
      have HND2 : Hid ((l ++ [hc]).Nodup) := Lib.hid (by
        rw [List.nodup_append]
        refine ⟨HND.out, by simp, ?_⟩
        intro a ha b hb
        obtain rfl := List.mem_singleton.1 hb
        exact fun e => hi (e ▸ ha))
      have HSB2 : Hid (∀ x ∈ l ++ [hc], x ∈ U) := Lib.hid (fun x hx => by
        rcases List.mem_append.1 hx with hx | hx
        · exact HSB.out x hx
        · obtain rfl := List.mem_singleton.1 hx
          exact HP.out.resolve_left h0)
      simp only [decide_eq_false hi] at HC
      clear HN HY hi h0 HP
      go_enter Tryz.func66, Tryz.ntmps66
      go_wp2_with fail
      refine HC.out.mono ?_
      rintro e w1 ⟨rfl, f1⟩
      have HB2 := Lib.hid (HB1.out.fr f1 (fun e => e))
      have HO2 := Lib.hid (HO1.out.non f1)
      have c0 := HB2.out.cell 0
      simp at c0
      have g1 := (PB.out.fr f1 (fun e => e)).cell 1
      simp [pdC] at g1
      have F1 := Lib.hid (HF0.out.trans f1)
      have hsz : w0.heap.size ≤ w1.heap.size := by have := F1.out.size; omega
      clear f1 hc0
      go_wp2_with (at_builtin; refine wpList_pushG el_str sv_one rfl (.tmp 16) (.tmp 19) rfl w0.heap.size _ l rfl HO2.out _ hc rfl rfl (by omega) hsz ?_; intro v3 w3 hown3 hfr3; obtain ⟨A3, c3, hv3⟩ := hown3.shape; rw [show (l ++ [hc]).length = l.length + 1 by simp] at hv3; subst hv3; have HO3 := Lib.hid hown3; have HB3 := Lib.hid (HB2.out.fr hfr3 (fun e => ow_other2 HO2.out HB2.out str_ne_strs g e rfl)); have fz := HB3.out.frozen 0; have cz := HB3.out.cell 0; simp at cz; have F3 := Lib.hid hfr3; have hg3 := HB3.out.lt; clear hown3 hfr3)
      go_ret
      refine ⟨by rw [HS.out]; rfl, ?_, fun s' hs => ?_⟩
      · exact (F1.out.any.trans (F3.out.mono (fun q _ e => .inr e))).setCell (fun _ => .inl rfl) _
      · rw [HS.out, HE.out] at hs
        obtain rfl := Option.some.inj hs
        exact ⟨_, hg0, HND2.out, HSB2.out, _, HB3.out.set 0 _, HO3.out.fr ((Fr.refl (One g) _).set1 0 _) (fun q hq e => ow_other2 HO3.out HB3.out str_ne_strs q hq e), rfl⟩

set_option maxHeartbeats 4000000 in
theorem pcols_any (h : Ph) (t : Kv) (ks : List Pd) (w : World) (hk : Kd w t ks) (hb : I64b h.val.num) (hlen : lenP (.mk h ks) = true) (hdep : depP (.mk h ks) ≤ 9) (hmay : mayP (.mk h ks) = true) :
    Calls Tryz.prog 38 #[pdV h t] w fun e w' => ∃ v, e = .returned v ∧ Vs sv w' v (colP [] (.mk h ks)) ∧ Fr Non w w' := by
  have F0 : Fr Non w (w.alloc (.cells (pdC h t) 28)) := (Fr.refl Non w).alloc _
  have M1 := pmay_any h t ks _ (hk.non F0) hb hlen hdep
  rw [hmay] at M1
  have M1 := Lib.hid M1
  have PB := Lib.hid (pd_new w _ h t rfl)
  have hcnt : cntP (.mk h ks) ≤ 16 := by
    unfold mayP at hmay
    rw [Bool.and_eq_true, decide_eq_true_eq] at hmay
    exact hmay.1.1
  have HA : Hid (∀ (W : World) (g : Nat), Fr Non w W → w.heap.size ≤ g → Blk W g 23 #[.slice none 0 0] →
      Calls Tryz.prog 48 #[pdV h t, .int .i64 1, .func (.func 66) #[] #[.pointer (some ⟨g, 0, none⟩)]] W fun e w' => e = .returned (.bool true) ∧ Fr Non w w' ∧ ∃ v, Blk w' g 23 #[v] ∧ Vs sv w' v (colP [] (.mk h ks))) := Lib.hid (fun W g hF hg hB => by
    have h0 := allq_any (RcC w g (namP (.mk h ks))) stepC 66 g w
      (fun W s X hr q hq => by
        obtain ⟨h1, _, _, v, h2, h3, rfl⟩ := hr
        rcases hq with hq | hq
        · subst hq; exact ⟨h1, h2.lt⟩
        · exact h3.lt q hq)
      (fun W W' s X hr hf => by
        obtain ⟨h1, h2, h3, v, h4, h5, h6⟩ := hr
        exact ⟨h1, h2, h3, v, h4.fr hf (fun e => e), h5.non hf, h6⟩) Tryz.call66
      (fun p => ∀ x ∈ namP p, x ∈ namP (.mk h ks)) (fun h' ks' hp k hm x hx => hp x (by rw [namP]; exact List.mem_cons_of_mem _ (namL_mem hm x hx)))
      (fun W s X p t d dz a1 a2 a3 a4 a5 a6 a7 a8 => cols1_any w g (namP (.mk h ks)) (by rw [nam_len]; omega) W s X p t d dz a1 a2 a3 a4 a5 a6 a7 (.inr (a8 _ (by obtain ⟨h, ks⟩ := p; rw [namP]; exact List.mem_cons_self ..))))
      (.mk h ks) W [] (fun q => q = g ∨ (Value.slice none 0 0).ownBlock = some q) t 1 1 rfl hF ⟨hg, List.nodup_nil, (fun x hx => by cases hx), _, hB, ow_nil _ _, rfl⟩ hk hb hlen (by omega) (fun x hx => hx)
    refine h0.mono ?_
    rintro e w' ⟨rfl, f1, hs⟩
    rw [allC] at hs ⊢
    obtain ⟨X', _, _, _, v, h2, h3, _⟩ := hs _ rfl
    exact ⟨rfl, f1, v, h2, h3.vs⟩)
  have hmf : ∀ (fn : Fn) (first cap : Array Value) (w : World), (Instr.makeFunc fn first cap).run Tryz.prog w = .ok (.func fn first cap) w := fun _ _ _ _ => rfl
  generalize colP [] (.mk h ks) = cl at *
  have HF := Lib.hid F0
  clear hk hlen hdep hmay hcnt F0
  obtain ⟨ho, hc, hm, ⟨vn, vi, vt⟩, hkd, hp⟩ := h
  obtain ⟨A, nn, c⟩ := t
  unfold pdV pdC kidV at M1 HA ⊢
  dsimp only at M1 HA ⊢
  go_enter Tryz.func38, Tryz.ntmps38
  go_wp2_with fail
  refine M1.out.mono ?_
  rintro e w1 ⟨rfl, f1⟩
  have F1 := Lib.hid (HF.out.trans f1)
  have G1 := Lib.hid ((Fr.refl Non w1).alloc (.cells #[.slice none 0 0] 23))
  have PB1 := Lib.hid ((PB.out.fr f1 (fun e => e)).fr G1.out (fun e => e))
  obtain ⟨g0, g1, g2, g3, g4, g5, g6, g7, g8⟩ := pdB_cells PB1.out
  dsimp only at g0 g1 g2 g3 g4 g5 g6 g7 g8
  have HB := Lib.hid (HA.out _ w1.heap.size (F1.out.trans G1.out) F1.out.size (Blk.new w1 23 #[.slice none 0 0]))
  clear f1 M1 HA
  go_wp2_with fail
  refine HB.out.mono ?_
  rintro e w2 ⟨rfl, f2, v, hbv, hvs⟩
  have c0 := hbv.cell 0
  simp at c0
  obtain ⟨vA, vc, rfl⟩ := hvs.shape
  have HVS := Lib.hid hvs
  clear hvs hbv
  go_wp2
  go_ret
  exact ⟨_, rfl, HVS.out, f2⟩
end Go.Proofs.YtibopcceffncpaaGreatDoor
