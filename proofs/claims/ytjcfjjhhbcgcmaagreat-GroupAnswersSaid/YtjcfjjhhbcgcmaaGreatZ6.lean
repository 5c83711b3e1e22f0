/-
  Joined: Pred6, PredC, PredF, Qry2, Qry3, Qry5, MapS, Kol4, PredA, QryC
-/
import Derived.Lib.Zigzag
import Derived.Deep.QuietTactic
import Derived.BigQuiet
import Derived.Deep.RegionHeld3
import Derived.Deep.DrawnRows
import Derived.Shelf.Strings.Replace
import Derived.Shelf.Strconv.Itoa4
import Derived.Shelf.Strings.OnBuilder
import Derived.Test.YtjcfjjhhbcgcmaaGreatProg
import Derived.Lib.SmallJoins
import Derived.Lib.AppendIntMem
import Derived.Laws.StructEq
import Derived.Laws.Rows
import Derived.Laws.ResultCell
import Derived.Deep.RegionWith
import Derived.Test.YtjcfjjhhbcgcmaaGreatZ5
import Derived.Test.YtjcfjjhhbcgcmaaGreatZ4
import Derived.Test.YtjcfjjhhbcgcmaaGreatZ1
import Derived.Maps.OwnSet
import Derived.Maps.OwnOps
import Derived.Test.YtjcfjjhhbcgcmaaGreatZ2
set_option linter.unusedVariables false
set_option linter.unusedSimpArgs false
set_option maxRecDepth 100000
namespace Go.Proofs.YtjcfjjhhbcgcmaaGreat
open Go.RowKit
theorem Kd.elN {w w' : World} {s : Kv} {ps : List Pd} (h : Kd w s ps) (hf : Fr Non w w') (j : Nat) (hj : j < ps.length) :
    ∃ a t, s.A = some a ∧ PCells w' (a.add (j * 9)) ps[j].hd t ∧ Kd w t ps[j].kids ∧ I64b ps[j].hd.val.num := by
  obtain ⟨a, t, hA, hc, hk, hb⟩ := h.el j hj
  refine ⟨a, t, hA, ?_, hk, hb⟩
  obtain ⟨c0, c1, c2, c3, c4, c5, c6, c7, c8⟩ := hc
  have q : ∀ (p : Addr) (v : Value), w.cell? p = some v → w'.cell? p = some v := fun p v e => (hf.cell (World.block_lt_of_cell? w _ e) (fun e => e)).trans e
  exact ⟨q _ _ c0, q _ _ c1, q _ _ c2, q _ _ c3, q _ _ c4, q _ _ c5, q _ _ c6, q _ _ c7, q _ _ c8⟩
theorem sizeL_at {ks : List Pd} {k : Nat} (h : k < ks.length) (m : Int) (d : Nat) (n : Int) (hn : ¬ 16 < n) : sizeL (ks.drop k) m d n = sizeL (ks.drop (k + 1)) m d (n + sizeP ks[k] (m - n) d) := by
  rw [List.drop_eq_getElem_cons h, sizeL, if_neg hn]
theorem sizeL_end {ks : List Pd} {k : Nat} (h : ks.length ≤ k) (m : Int) (d : Nat) (n : Int) : sizeL (ks.drop k) m d n = n := by rw [List.drop_eq_nil_of_le h, sizeL]
set_option maxHeartbeats 2000000 in
theorem rsize_any (p : Pd) : ∀ (t : Kv) (m : Int) (d : Nat) (dz : Int) (w : World), dz = d → Kd w t p.kids → bigP p = true → -100 ≤ m → m ≤ 16 → d ≤ 100 →
    Calls Tryz.prog 108 #[pdV p.hd t, .int .i64 m, .int .i64 dz] w fun e w' => e = .returned (.int .i64 (sizeP p m d)) ∧ Fr Non w w' := by
  induction p using Pd.ind with
  | h hd ks ih =>
    intro t m d dz w hdz hk hlen hm1 hm2 hd1
    subst hdz
    have hn : t.n = ks.length := hk.len
    have hls := (bigP_mk hlen).1
    have F0 : Fr Non w (w.alloc (.cells (pdC hd t) 28)) := (Fr.refl Non w).alloc _
    have HB := Lib.hid (pd_new w _ hd t rfl)
    have HS : Hid (¬ (d < 1 ∨ m < 1) → sizeP (.mk hd ks) m d = sizeL ks m (d - 1) 1) := Lib.hid (fun h => by rw [sizeP, if_neg h])
    have HS0 : Hid ((d < 1 ∨ m < 1) → sizeP (.mk hd ks) m d = 17) := Lib.hid (fun h => by rw [sizeP, if_pos h])
    have HBd : Hid (∀ (k : Nat) (h : k < ks.length) (m' : Int), m' ≤ 16 → 1 ≤ sizeP ks[k] m' (d - 1) ∧ sizeP ks[k] m' (d - 1) ≤ 17 + 17 * (d - 1 : Nat)) := Lib.hid (fun k h m' hm' => (size_is ks[k] m' (d - 1) hm').2.2)
    have IH : Hid (1 ≤ d → ∀ k (h : k < ks.length) (W : World) (t' : Kv) (m' : Int), Kd W t' ks[k].kids → -100 ≤ m' → m' ≤ 16 →
        Calls Tryz.prog 108 #[pdV ks[k].hd t', .int .i64 m', .int .i64 ((d : Int) - 1)] W fun e w' => e = .returned (.int .i64 (sizeP ks[k] m' (d - 1))) ∧ Fr Non W w') :=
      Lib.hid (fun h1 k h W t' m' a b c => ih _ (List.getElem_mem h) t' m' (d - 1) _ W (by omega) a ((bigP_mk hlen).2.2.2.2 _ (List.getElem_mem h)) b c (by omega))
    generalize sizeP (.mk hd ks) m d = r at *
    have HK : Hid (Kd w t ks) := Lib.hid hk
    have HF := Lib.hid F0
    clear ih hk hlen F0
    obtain ⟨ho, hc, hm, ⟨vn, vi, vt⟩, hkd, hp⟩ := hd
    obtain ⟨A, n, c⟩ := t
    dsimp only at hn
    unfold pdV pdC kidV
    dsimp only [Pd.hd, Pd.kids]
    have HL := Lib.hid hn
    have hn20 : n ≤ 1000 := by omega
    clear hn hls
    by_cases h1 : d < 1
    · have HE := Lib.hid (HS0.out (.inl h1))
      clear HS HS0
      go_enter Tryz.func108, Tryz.ntmps108
      go_wp2
      go_ret
      exact ⟨ret_int HE.out.symm, HF.out⟩
    · by_cases h2 : m < 1
      · have HE := Lib.hid (HS0.out (.inr h2))
        clear HS HS0
        go_enter Tryz.func108, Tryz.ntmps108
        go_wp2
        go_ret
        exact ⟨ret_int HE.out.symm, HF.out⟩
      · have HE := Lib.hid (HS.out (by omega))
        have IH := Lib.hid (IH.out (by omega))
        clear HS HS0
        go_enter Tryz.func108, Tryz.ntmps108
        go_wp2
        go_loopw [7, 8] (fun v i wr => ∃ (k : Nat) (q : Int), k ≤ n ∧ i = .int .i64 k ∧ v = .int .i64 q ∧ 1 ≤ q ∧ q ≤ 4000 ∧ Hid (r = sizeL (ks.drop k) m (d - 1) q) ∧ Hid (Fr Non (w.alloc (.cells (pdC ⟨ho, hc, hm, ⟨vn, vi, vt⟩, hkd, hp⟩ ⟨A, n, c⟩) 28)) wr)) (fun _ i _ => n - (intOf i).toNat)
        case atStart => exact ⟨0, 1, Nat.zero_le _, rfl, rfl, by omega, by omega, HE, Lib.hid (Fr.refl _ _)⟩
        case round =>
          clear HE
          obtain ⟨k, q, hk, rfl, rfl, hq1, hq2, HE, FR⟩ := hrel
          have b8 := (HB.out.fr FR.out (fun e => e)).cell 8
          simp [pdC, kidV] at b8
          have HFw := Lib.hid (HF.out.trans FR.out)
          by_cases hlt : k < n
          · by_cases hq : q ≤ 16
            · have hlt2 : k < ks.length := by have := HL.out; omega
              obtain ⟨a, t, hA, hc2, hkk, _⟩ := HK.out.elN HFw.out k hlt2
              have HC := Lib.hid (IH.out k hlt2 wr t (m - q) (hkk.non HFw.out) (by omega) (by omega))
              have HY := Lib.hid (HE.out.trans (sizeL_at hlt2 m (d - 1) q (by omega)))
              have hbd := HBd.out k hlt2 (m - q) (by omega)
              have hs1 : 1 ≤ sizeP ks[k] (m - q) (d - 1) := hbd.1
              have hs2 : sizeP ks[k] (m - q) (d - 1) ≤ 3000 := by omega
              dsimp only at hA
              subst hA
              obtain ⟨c0, c1, c2, c3, c4, c5, c6, c7, c8⟩ := hc2
              clear hkk HE hbd
              generalize sizeP ks[k] (m - q) (d - 1) = z at *
              generalize ks[k].hd = x at *
              obtain ⟨xo, xc, xm, ⟨xn, xi, xt⟩, xk, xp⟩ := x
              obtain ⟨tA, tn, tc⟩ := t
              unfold pdV pdC kidV at HC
              dsimp only at HC c0 c1 c2 c3 c4 c5 c6 c7 c8
              go_wp2_with fail
              refine HC.out.mono ?_
              rintro e w2 ⟨rfl, f2⟩
              go_wp2
              go_roundw
              case rel => exact ⟨k + 1, q + z, by omega, by go_num, by go_num, by omega, by omega, HY, Lib.hid (FR.out.trans f2)⟩
              case measure => simp [intOf]; omega
            · have HE2 : Hid (r = q) := Lib.hid (HE.out.trans (sizeL_big _ m (d - 1) q (by omega)))
              clear HE
              go_wp2
              go_ret
              exact ⟨ret_int HE2.out.symm, HFw.out⟩
          · have HE2 : Hid (r = q) := Lib.hid (HE.out.trans (sizeL_end (by have := HL.out; omega) m (d - 1) q))
            clear HE
            go_wp2
            go_ret
            exact ⟨ret_int HE2.out.symm, HFw.out⟩
def baseOk (h : Ph) (n : Nat) : Bool :=
  if h.op = 1 then decide (n = 0) && peq h ⟨h.op, [], 0, zCl, 0, []⟩
  else if h.op = 2 then nameB h.col && decide (1 ≤ h.cmp ∧ h.cmp ≤ 6) && mayC h.kind false h.val && decide (n = 0) && peq h ⟨h.op, h.col, h.cmp, h.val, h.kind, []⟩
  else if h.op = 3 then nameB h.col && decide (n = 0) && peq h ⟨h.op, h.col, 0, zCl, 0, []⟩
  else if h.op = 4 then nameB h.col && decide (h.pat.length ≤ 40) && decide (n = 0) && peq h ⟨h.op, h.col, 0, zCl, 0, h.pat⟩
  else if h.op = 5 then decide (n = 1) && peq h ⟨h.op, [], 0, zCl, 0, []⟩
  else if h.op = 6 ∨ h.op = 7 then decide (1 < n) && peq h ⟨h.op, [], 0, zCl, 0, []⟩
  else false
def okk (op : Int) (x : Pd) : Bool := oneP x && !(decide (6 ≤ op) && x.hd.op == op)
theorem all_okk (op : Int) (l : List Pd) : l.all (okk op) = (l.all oneP && !(decide (6 ≤ op) && kidOp op l)) := by
  unfold kidOp
  induction l with
  | nil => simp
  | cons x l ih =>
    rw [List.all_cons, List.all_cons, List.any_cons, ih]
    unfold okk
    cases oneP x <;> cases decide (6 ≤ op) <;> cases (x.hd.op == op) <;> cases l.all oneP <;> cases l.any (fun k => k.hd.op == op) <;> rfl
theorem one_base (h : Ph) (ks : List Pd) (n : Nat) (hn : n = ks.length) : oneP (.mk h ks) = (baseOk h n && ks.all (okk h.op)) := by
  subst hn
  rw [oneP, oneL_all, all_okk]
  unfold hdOk baseOk bareH askOk peq
  by_cases h1 : h.op = 1
  · rw [if_pos h1, if_pos h1, decide_eq_false (show ¬ 6 ≤ h.op by omega)]; simp
  · rw [if_neg h1, if_neg h1]
    by_cases h2 : h.op = 2
    · rw [if_pos (.inl h2), if_pos h2, if_pos h2, decide_eq_false (show ¬ 6 ≤ h.op by omega)]
      simp only [Bool.false_and, Bool.not_false, Bool.and_true]
      congr 1
      cases nameB h.col <;> cases decide (1 ≤ h.cmp ∧ h.cmp ≤ 6) <;> cases mayC h.kind false h.val <;> cases decide (ks.length = 0) <;> simp
    · rw [if_neg h2, if_neg h2]
      by_cases h3 : h.op = 3
      · rw [if_pos (.inr (.inl h3)), if_pos h3, if_neg (show ¬ h.op = 4 by omega), decide_eq_false (show ¬ 6 ≤ h.op by omega)]
        simp only [Bool.false_and, Bool.not_false, Bool.and_true]
        congr 1
        cases nameB h.col <;> cases decide (ks.length = 0) <;> simp
      · rw [if_neg h3]
        by_cases h4 : h.op = 4
        · rw [if_pos (.inr (.inr h4)), if_pos h4, if_pos h4, decide_eq_false (show ¬ 6 ≤ h.op by omega)]
          simp only [Bool.false_and, Bool.not_false, Bool.and_true]
          congr 1
          cases nameB h.col <;> cases decide (h.pat.length ≤ 40) <;> cases decide (ks.length = 0) <;> simp
        · rw [if_neg (by omega), if_neg h4]
          by_cases h5 : h.op = 5
          · rw [if_pos h5, if_pos h5, decide_eq_false (show ¬ 6 ≤ h.op by omega)]; simp
          · rw [if_neg h5, if_neg h5]
            by_cases h6 : h.op = 6 ∨ h.op = 7
            · rw [if_pos h6, if_pos h6, decide_eq_true (show 6 ≤ h.op by omega)]
              simp only [Bool.true_and]
              cases kidOp h.op ks <;> cases ks.all oneP <;> simp
            · rw [if_neg h6, if_neg h6]; rfl
theorem all_no {op : Int} {ks : List Pd} {k : Nat} (h : k < ks.length) (hb : okk op ks[k] = false) : ks.all (okk op) = false := by
  rw [List.all_eq_false]; exact ⟨_, List.getElem_mem h, by rw [hb]; simp⟩
theorem all_yes {op : Int} {ks : List Pd} {k : Nat} (h : ks.length ≤ k) (hb : ∀ j (h : j < ks.length), j < k → okk op ks[j] = true) : ks.all (okk op) = true := by
  rw [List.all_eq_true]
  intro x hx
  obtain ⟨j, hj, rfl⟩ := List.mem_iff_getElem.1 hx
  exact hb j hj (by omega)
theorem okk_more {op : Int} {ks : List Pd} {k : Nat} (hb : ∀ j (h : j < ks.length), j < k → okk op ks[j] = true) (h : k < ks.length) (hk : okk op ks[k] = true) : ∀ j (h : j < ks.length), j < k + 1 → okk op ks[j] = true := by
  intro j hj hlt
  by_cases e : j = k
  · subst e; exact hk
  · exact hb j hj (by omega)
theorem three_new (w : World) (g : Nat) (a b d : Ph) (s t u : Kv) (hg : w.heap.size = g) :
    PdB (((w.alloc (.cells (pdC a s) 28)).alloc (.cells (pdC b t) 28)).alloc (.cells (pdC d u) 28)) g a s ∧
    PdB (((w.alloc (.cells (pdC a s) 28)).alloc (.cells (pdC b t) 28)).alloc (.cells (pdC d u) 28)) (g + 1) b t ∧
    PdB (((w.alloc (.cells (pdC a s) 28)).alloc (.cells (pdC b t) 28)).alloc (.cells (pdC d u) 28)) (g + 1 + 1) d u := by
  have h := pd2_new w g a b s t hg.symm
  refine ⟨h.1.fr ((Fr.refl Non _).alloc _) (fun e => e), h.2.fr ((Fr.refl Non _).alloc _) (fun e => e), pd_new _ _ d u (by simp; omega)⟩
set_option maxHeartbeats 8000000 in
theorem rone1_any (h0_ : Ph) (ks : List Pd) (t : Kv) (w : World) (hop : h0_.op = 1) (hk : Kd w t ks) (hl : ks.length ≤ 1000) (hcl : h0_.col.length ≤ 1000)
    (IH : Hid (∀ k (h : k < ks.length) (W : World) (t' : Kv), Kd W t' ks[k].kids → Calls Tryz.prog 109 #[pdV ks[k].hd t'] W fun e w' => e = .returned (.bool (oneP ks[k])) ∧ Fr Non W w')) :
    Calls Tryz.prog 109 #[pdV h0_ t] w fun e w' => e = .returned (.bool (oneP (.mk h0_ ks))) ∧ Fr Non w w' := by
  have hn : t.n = ks.length := hk.len
  have N1 := Lib.hid (fun W => rname_any h0_.col W (by omega))
  have M1 := Lib.hid (fun W => rmay_any h0_.kind false h0_.val W)
  have HE := Lib.hid (one_base h0_ ks t.n hn)
  generalize oneP (.mk h0_ ks) = r at *
  have HK : Hid (Kd w t ks) := Lib.hid hk
  have PB0 : Hid (∀ b d, PdB (((w.alloc (.cells (pdC h0_ t) 28)).alloc b).alloc d) w.heap.size h0_ t) := Lib.hid (fun b d => (pd_new w _ h0_ t rfl).fr (((Fr.refl Non _).alloc b).alloc d) (fun e => e))
  obtain ⟨op, col, cmp, ⟨vn, vi, vt⟩, kind, pat⟩ := h0_
  obtain ⟨A, n, c⟩ := t
  dsimp only at hn hop hcl HE
  have HL := Lib.hid hn
  have hn20 : n ≤ 1000 := by omega
  have hs := slen pat
  clear hn hk hl
  unfold pdV pdC kidV
  unfold clV clC at M1
  dsimp only at *
  subst hop
  have FL := Lib.hid (fun W => flat_any ⟨1, col, cmp, ⟨vn, vi, vt⟩, kind, pat⟩ ⟨1, [], 0, zCl, 0, []⟩ noKv noKv W)
  have HE0 : Hid (r = (baseOk ⟨1, col, cmp, ⟨vn, vi, vt⟩, kind, pat⟩ n && ks.all (okk 1))) := HE
  clear HE
  unfold pdV pdC kidV noKv at FL
  replace HE0 : Hid (r = (decide (n = 0) && peq ⟨1, col, cmp, ⟨vn, vi, vt⟩, kind, pat⟩ ⟨1, [], 0, zCl, 0, []⟩ && ks.all (okk 1))) := HE0
  generalize peq ⟨1, col, cmp, ⟨vn, vi, vt⟩, kind, pat⟩ ⟨1, [], 0, zCl, 0, []⟩ = q at *
  unfold zCl at FL
  dsimp only at FL
  clear N1 M1
  by_cases h0 : n = 0
  · subst h0
    have HE1 : Hid (r = (q && ks.all (okk 1))) := Lib.hid (by rw [HE0.out]; simp)
    clear HE0
    have HE0 := HE1
    clear HE1
    go_enter Tryz.func109, Tryz.ntmps109
    go_wp2_with fail
    refine (FL.out _).mono ?_
    rintro e w1 ⟨rfl, f1⟩
    have F1 := Lib.hid ((((((Fr.refl Non w).alloc _).alloc _).alloc _)).trans f1)
    have PB := Lib.hid (((PB0.out _ _)).fr f1 (fun e => e))
    have HK1 := HK
    obtain ⟨g0, g1, g2, g3, g4, g5, g6, g7, g8⟩ := pdB_cells PB.out
    dsimp only at g0 g1 g2 g3 g4 g5 g6 g7 g8
    clear f1 HK1
    cases q
    · go_wp2
      go_ret
      exact ⟨ret_boolE (by rw [HE0.out]; simp), F1.out⟩
    · have HE : Hid (r = ks.all (okk 1)) := Lib.hid (by rw [HE0.out]; simp)
      clear HE0
      go_wp2
      go_loopw [5] (fun i wr => ∃ k : Nat, k ≤ 0 ∧ i = .int .i64 k ∧ Hid (∀ j (h : j < ks.length), j < k → okk 1 ks[j] = true) ∧ Hid (Fr Non w1 wr)) (fun i _ => 0 - (intOf i).toNat)
      case atStart => exact ⟨0, Nat.zero_le _, rfl, Lib.hid (fun _ _ h => by omega), Lib.hid (Fr.refl _ _)⟩
      case round =>
        clear g0 g1 g2 g3 g4 g5 g6 g7 g8
        obtain ⟨k, hk, rfl, HT, FR⟩ := hrel
        have FW := Lib.hid (F1.out.trans FR.out)
        by_cases hlt : k < 0
        · exact absurd hlt (by omega)
        · have b8 := (PB.out.fr FR.out (fun e => e)).cell 8
          simp [pdC, kidV] at b8
          have HE2 := Lib.hid (all_yes (op := 1) (by have := HL.out; omega) HT.out)
          clear HT
          go_wp2
          go_ret
          exact ⟨ret_boolE (by rw [HE.out, HE2.out]), FW.out⟩
  · have HE1 : Hid (r = false) := Lib.hid (by rw [HE0.out, decide_eq_false h0]; simp)
    have hb : 0 < n := by omega
    clear HE0 h0
    go_enter Tryz.func109, Tryz.ntmps109
    go_wp2
    go_ret
    exact ⟨ret_boolE HE1.out.symm, (((Fr.refl Non w).alloc _).alloc _).alloc _⟩
set_option maxHeartbeats 8000000 in
theorem rone2_any (h0_ : Ph) (ks : List Pd) (t : Kv) (w : World) (hop : h0_.op = 2) (hk : Kd w t ks) (hl : ks.length ≤ 1000) (hcl : h0_.col.length ≤ 1000)
    (IH : Hid (∀ k (h : k < ks.length) (W : World) (t' : Kv), Kd W t' ks[k].kids → Calls Tryz.prog 109 #[pdV ks[k].hd t'] W fun e w' => e = .returned (.bool (oneP ks[k])) ∧ Fr Non W w')) :
    Calls Tryz.prog 109 #[pdV h0_ t] w fun e w' => e = .returned (.bool (oneP (.mk h0_ ks))) ∧ Fr Non w w' := by
  have hn : t.n = ks.length := hk.len
  have N1 := Lib.hid (fun W => rname_any h0_.col W (by omega))
  have M1 := Lib.hid (fun W => rmay_any h0_.kind false h0_.val W)
  have HE := Lib.hid (one_base h0_ ks t.n hn)
  generalize oneP (.mk h0_ ks) = r at *
  have HK : Hid (Kd w t ks) := Lib.hid hk
  have PB0 : Hid (∀ b d, PdB (((w.alloc (.cells (pdC h0_ t) 28)).alloc b).alloc d) w.heap.size h0_ t) := Lib.hid (fun b d => (pd_new w _ h0_ t rfl).fr (((Fr.refl Non _).alloc b).alloc d) (fun e => e))
  obtain ⟨op, col, cmp, ⟨vn, vi, vt⟩, kind, pat⟩ := h0_
  obtain ⟨A, n, c⟩ := t
  dsimp only at hn hop hcl HE
  have HL := Lib.hid hn
  have hn20 : n ≤ 1000 := by omega
  have hs := slen pat
  clear hn hk hl
  unfold pdV pdC kidV
  unfold clV clC at M1
  dsimp only at *
  subst hop
  have FL := Lib.hid (fun W => flat_any ⟨2, col, cmp, ⟨vn, vi, vt⟩, kind, pat⟩ ⟨2, col, cmp, ⟨vn, vi, vt⟩, kind, []⟩ noKv noKv W)
  have HE0 : Hid (r = (baseOk ⟨2, col, cmp, ⟨vn, vi, vt⟩, kind, pat⟩ n && ks.all (okk 2))) := HE
  clear HE
  unfold pdV pdC kidV noKv at FL
  replace HE0 : Hid (r = (nameB col && decide (1 ≤ cmp ∧ cmp ≤ 6) && mayC kind false ⟨vn, vi, vt⟩ && decide (n = 0) && peq ⟨2, col, cmp, ⟨vn, vi, vt⟩, kind, pat⟩ ⟨2, col, cmp, ⟨vn, vi, vt⟩, kind, []⟩ && ks.all (okk 2))) := HE0
  generalize peq ⟨2, col, cmp, ⟨vn, vi, vt⟩, kind, pat⟩ ⟨2, col, cmp, ⟨vn, vi, vt⟩, kind, []⟩ = q at *
  dsimp only at FL
  generalize nameB col = b1 at *
  generalize mayC kind false ⟨vn, vi, vt⟩ = b2 at *
  cases b1
  · have HE1 : Hid (r = false) := Lib.hid (by rw [HE0.out]; simp)
    clear HE0
    go_enter Tryz.func109, Tryz.ntmps109
    go_wp2_with fail
    refine (N1.out _).mono ?_
    rintro e wn ⟨rfl, fn⟩
    go_wp2
    go_ret
    exact ⟨ret_boolE HE1.out.symm, ((((Fr.refl Non w).alloc _).alloc _).alloc _).trans fn⟩
  · by_cases h1 : 1 ≤ cmp
    · by_cases h6 : cmp ≤ 6
      · cases b2
        · have HE1 : Hid (r = false) := Lib.hid (by rw [HE0.out]; simp)
          clear HE0
          go_enter Tryz.func109, Tryz.ntmps109
          go_wp2_with fail
          refine (N1.out _).mono ?_
          rintro e wn ⟨rfl, fn⟩
          have FN : Hid (Fr Non w wn) := Lib.hid (((((Fr.refl Non w).alloc _).alloc _).alloc _).trans fn)
          have Q := three_new w w.heap.size ⟨2, col, cmp, ⟨vn, vi, vt⟩, kind, pat⟩ ⟨2, col, cmp, ⟨vn, vi, vt⟩, kind, pat⟩ ⟨2, col, cmp, ⟨vn, vi, vt⟩, kind, []⟩ ⟨A, n, c⟩ noKv noKv rfl
          have PBn : Hid (PdB wn w.heap.size ⟨2, col, cmp, ⟨vn, vi, vt⟩, kind, pat⟩ ⟨A, n, c⟩) := Lib.hid (Q.1.fr fn (fun e => e))
          have PB3 : Hid (PdB wn (w.heap.size + 1) ⟨2, col, cmp, ⟨vn, vi, vt⟩, kind, pat⟩ noKv) := Lib.hid (Q.2.1.fr fn (fun e => e))
          have PB4 : Hid (PdB wn (w.heap.size + 1 + 1) ⟨2, col, cmp, ⟨vn, vi, vt⟩, kind, []⟩ noKv) := Lib.hid (Q.2.2.fr fn (fun e => e))
          clear Q fn
          obtain ⟨g0, g1, g2, g3, g4, g5, g6, g7, g8⟩ := pdB_cells PBn.out
          dsimp only at g0 g1 g2 g3 g4 g5 g6 g7 g8
          obtain ⟨d0, d1, d2, d3, d4, d5, d6, d7, d8⟩ := pdB_cells PB3.out
          obtain ⟨e0, e1, e2, e3, e4, e5, e6, e7, e8⟩ := pdB_cells PB4.out
          dsimp only at d0 d1 d2 d3 d4 d5 d6 d7 d8 e0 e1 e2 e3 e4 e5 e6 e7 e8
          go_wp2_with fail
          refine (M1.out _).mono ?_
          rintro e wm ⟨rfl, fm⟩
          go_wp2
          go_ret
          exact ⟨ret_boolE HE1.out.symm, FN.out.trans fm⟩
        · have HE9 : Hid (r = (decide (n = 0) && q && ks.all (okk 2))) := Lib.hid (by rw [HE0.out, decide_eq_true (show 1 ≤ cmp ∧ cmp ≤ 6 from ⟨h1, h6⟩)]; simp)
          clear HE0
          have HE0 := HE9
          clear HE9
          by_cases h0 : n = 0
          · subst h0
            have HE1 : Hid (r = (q && ks.all (okk 2))) := Lib.hid (by rw [HE0.out]; simp)
            clear HE0
            have HE0 := HE1
            clear HE1
            go_enter Tryz.func109, Tryz.ntmps109
            go_wp2_with fail
            refine (N1.out _).mono ?_
            rintro e wn ⟨rfl, fn⟩
            have FN : Hid (Fr Non w wn) := Lib.hid (((((Fr.refl Non w).alloc _).alloc _).alloc _).trans fn)
            have Q := three_new w w.heap.size ⟨2, col, cmp, ⟨vn, vi, vt⟩, kind, pat⟩ ⟨2, col, cmp, ⟨vn, vi, vt⟩, kind, pat⟩ ⟨2, col, cmp, ⟨vn, vi, vt⟩, kind, []⟩ ⟨A, 0, c⟩ noKv noKv rfl
            have PBn : Hid (PdB wn w.heap.size ⟨2, col, cmp, ⟨vn, vi, vt⟩, kind, pat⟩ ⟨A, 0, c⟩) := Lib.hid (Q.1.fr fn (fun e => e))
            have PB3 : Hid (PdB wn (w.heap.size + 1) ⟨2, col, cmp, ⟨vn, vi, vt⟩, kind, pat⟩ noKv) := Lib.hid (Q.2.1.fr fn (fun e => e))
            have PB4 : Hid (PdB wn (w.heap.size + 1 + 1) ⟨2, col, cmp, ⟨vn, vi, vt⟩, kind, []⟩ noKv) := Lib.hid (Q.2.2.fr fn (fun e => e))
            clear Q fn
            obtain ⟨g0, g1, g2, g3, g4, g5, g6, g7, g8⟩ := pdB_cells PBn.out
            dsimp only at g0 g1 g2 g3 g4 g5 g6 g7 g8
            obtain ⟨d0, d1, d2, d3, d4, d5, d6, d7, d8⟩ := pdB_cells PB3.out
            obtain ⟨e0, e1, e2, e3, e4, e5, e6, e7, e8⟩ := pdB_cells PB4.out
            dsimp only at d0 d1 d2 d3 d4 d5 d6 d7 d8 e0 e1 e2 e3 e4 e5 e6 e7 e8
            go_wp2_with fail
            refine (M1.out _).mono ?_
            rintro e wm ⟨rfl, fm⟩
            have FM := Lib.hid (FN.out.trans fm)
            have PBm := Lib.hid (PBn.out.fr fm (fun e => e))
            have PB5 := Lib.hid (PB3.out.fr fm (fun e => e))
            have PB6 := Lib.hid (PB4.out.fr fm (fun e => e))
            clear g0 g1 g2 g3 g4 g5 g6 g7 g8 d0 d1 d2 d3 d4 d5 d6 d7 d8 e0 e1 e2 e3 e4 e5 e6 e7 e8 fm
            obtain ⟨g0, g1, g2, g3, g4, g5, g6, g7, g8⟩ := pdB_cells PBm.out
            obtain ⟨d0, d1, d2, d3, d4, d5, d6, d7, d8⟩ := pdB_cells PB5.out
            obtain ⟨e0, e1, e2, e3, e4, e5, e6, e7, e8⟩ := pdB_cells PB6.out
            dsimp only at g0 g1 g2 g3 g4 g5 g6 g7 g8 d0 d1 d2 d3 d4 d5 d6 d7 d8 e0 e1 e2 e3 e4 e5 e6 e7 e8
            go_wp2_with fail
            refine (FL.out _).mono ?_
            rintro e w1 ⟨rfl, f1⟩
            have F1 := Lib.hid ((FM.out).trans f1)
            have PB := Lib.hid ((PBm.out).fr f1 (fun e => e))
            have HK1 := HK
            obtain ⟨g0, g1, g2, g3, g4, g5, g6, g7, g8⟩ := pdB_cells PB.out
            dsimp only at g0 g1 g2 g3 g4 g5 g6 g7 g8
            clear f1 HK1
            cases q
            · go_wp2
              go_ret
              exact ⟨ret_boolE (by rw [HE0.out]; simp), F1.out⟩
            · have HE : Hid (r = ks.all (okk 2)) := Lib.hid (by rw [HE0.out]; simp)
              clear HE0
              go_wp2
              go_loopw [5] (fun i wr => ∃ k : Nat, k ≤ 0 ∧ i = .int .i64 k ∧ Hid (∀ j (h : j < ks.length), j < k → okk 2 ks[j] = true) ∧ Hid (Fr Non w1 wr)) (fun i _ => 0 - (intOf i).toNat)
              case atStart => exact ⟨0, Nat.zero_le _, rfl, Lib.hid (fun _ _ h => by omega), Lib.hid (Fr.refl _ _)⟩
              case round =>
                clear g0 g1 g2 g3 g4 g5 g6 g7 g8
                obtain ⟨k, hk, rfl, HT, FR⟩ := hrel
                have FW := Lib.hid (F1.out.trans FR.out)
                by_cases hlt : k < 0
                · exact absurd hlt (by omega)
                · have b8 := (PB.out.fr FR.out (fun e => e)).cell 8
                  simp [pdC, kidV] at b8
                  have HE2 := Lib.hid (all_yes (op := 2) (by have := HL.out; omega) HT.out)
                  clear HT
                  go_wp2
                  go_ret
                  exact ⟨ret_boolE (by rw [HE.out, HE2.out]), FW.out⟩
          · have HE1 : Hid (r = false) := Lib.hid (by rw [HE0.out, decide_eq_false h0]; simp)
            have hb : 0 < n := by omega
            clear HE0 h0
            go_enter Tryz.func109, Tryz.ntmps109
            go_wp2_with fail
            refine (N1.out _).mono ?_
            rintro e wn ⟨rfl, fn⟩
            have FN : Hid (Fr Non w wn) := Lib.hid (((((Fr.refl Non w).alloc _).alloc _).alloc _).trans fn)
            have Q := three_new w w.heap.size ⟨2, col, cmp, ⟨vn, vi, vt⟩, kind, pat⟩ ⟨2, col, cmp, ⟨vn, vi, vt⟩, kind, pat⟩ ⟨2, col, cmp, ⟨vn, vi, vt⟩, kind, []⟩ ⟨A, n, c⟩ noKv noKv rfl
            have PBn : Hid (PdB wn w.heap.size ⟨2, col, cmp, ⟨vn, vi, vt⟩, kind, pat⟩ ⟨A, n, c⟩) := Lib.hid (Q.1.fr fn (fun e => e))
            have PB3 : Hid (PdB wn (w.heap.size + 1) ⟨2, col, cmp, ⟨vn, vi, vt⟩, kind, pat⟩ noKv) := Lib.hid (Q.2.1.fr fn (fun e => e))
            have PB4 : Hid (PdB wn (w.heap.size + 1 + 1) ⟨2, col, cmp, ⟨vn, vi, vt⟩, kind, []⟩ noKv) := Lib.hid (Q.2.2.fr fn (fun e => e))
            clear Q fn
            obtain ⟨g0, g1, g2, g3, g4, g5, g6, g7, g8⟩ := pdB_cells PBn.out
            dsimp only at g0 g1 g2 g3 g4 g5 g6 g7 g8
            obtain ⟨d0, d1, d2, d3, d4, d5, d6, d7, d8⟩ := pdB_cells PB3.out
            obtain ⟨e0, e1, e2, e3, e4, e5, e6, e7, e8⟩ := pdB_cells PB4.out
            dsimp only at d0 d1 d2 d3 d4 d5 d6 d7 d8 e0 e1 e2 e3 e4 e5 e6 e7 e8
            go_wp2_with fail
            refine (M1.out _).mono ?_
            rintro e wm ⟨rfl, fm⟩
            have FM := Lib.hid (FN.out.trans fm)
            have PBm := Lib.hid (PBn.out.fr fm (fun e => e))
            have PB5 := Lib.hid (PB3.out.fr fm (fun e => e))
            have PB6 := Lib.hid (PB4.out.fr fm (fun e => e))
            clear g0 g1 g2 g3 g4 g5 g6 g7 g8 d0 d1 d2 d3 d4 d5 d6 d7 d8 e0 e1 e2 e3 e4 e5 e6 e7 e8 fm
            obtain ⟨g0, g1, g2, g3, g4, g5, g6, g7, g8⟩ := pdB_cells PBm.out
            obtain ⟨d0, d1, d2, d3, d4, d5, d6, d7, d8⟩ := pdB_cells PB5.out
            obtain ⟨e0, e1, e2, e3, e4, e5, e6, e7, e8⟩ := pdB_cells PB6.out
            dsimp only at g0 g1 g2 g3 g4 g5 g6 g7 g8 d0 d1 d2 d3 d4 d5 d6 d7 d8 e0 e1 e2 e3 e4 e5 e6 e7 e8
            go_wp2
            go_ret
            exact ⟨ret_boolE HE1.out.symm, FM.out⟩
      · have HE1 : Hid (r = false) := Lib.hid (by rw [HE0.out, decide_eq_false (show ¬ (1 ≤ cmp ∧ cmp ≤ 6) from fun e => h6 e.2)]; simp)
        clear HE0
        go_enter Tryz.func109, Tryz.ntmps109
        go_wp2_with fail
        refine (N1.out _).mono ?_
        rintro e wn ⟨rfl, fn⟩
        have FN : Hid (Fr Non w wn) := Lib.hid (((((Fr.refl Non w).alloc _).alloc _).alloc _).trans fn)
        have Q := three_new w w.heap.size ⟨2, col, cmp, ⟨vn, vi, vt⟩, kind, pat⟩ ⟨2, col, cmp, ⟨vn, vi, vt⟩, kind, pat⟩ ⟨2, col, cmp, ⟨vn, vi, vt⟩, kind, []⟩ ⟨A, n, c⟩ noKv noKv rfl
        have PBn : Hid (PdB wn w.heap.size ⟨2, col, cmp, ⟨vn, vi, vt⟩, kind, pat⟩ ⟨A, n, c⟩) := Lib.hid (Q.1.fr fn (fun e => e))
        have PB3 : Hid (PdB wn (w.heap.size + 1) ⟨2, col, cmp, ⟨vn, vi, vt⟩, kind, pat⟩ noKv) := Lib.hid (Q.2.1.fr fn (fun e => e))
        have PB4 : Hid (PdB wn (w.heap.size + 1 + 1) ⟨2, col, cmp, ⟨vn, vi, vt⟩, kind, []⟩ noKv) := Lib.hid (Q.2.2.fr fn (fun e => e))
        clear Q fn
        obtain ⟨g0, g1, g2, g3, g4, g5, g6, g7, g8⟩ := pdB_cells PBn.out
        dsimp only at g0 g1 g2 g3 g4 g5 g6 g7 g8
        obtain ⟨d0, d1, d2, d3, d4, d5, d6, d7, d8⟩ := pdB_cells PB3.out
        obtain ⟨e0, e1, e2, e3, e4, e5, e6, e7, e8⟩ := pdB_cells PB4.out
        dsimp only at d0 d1 d2 d3 d4 d5 d6 d7 d8 e0 e1 e2 e3 e4 e5 e6 e7 e8
        go_wp2
        go_ret
        exact ⟨ret_boolE HE1.out.symm, FN.out⟩
    · have HE1 : Hid (r = false) := Lib.hid (by rw [HE0.out, decide_eq_false (show ¬ (1 ≤ cmp ∧ cmp ≤ 6) from fun e => h1 e.1)]; simp)
      clear HE0
      go_enter Tryz.func109, Tryz.ntmps109
      go_wp2_with fail
      refine (N1.out _).mono ?_
      rintro e wn ⟨rfl, fn⟩
      have FN : Hid (Fr Non w wn) := Lib.hid (((((Fr.refl Non w).alloc _).alloc _).alloc _).trans fn)
      have Q := three_new w w.heap.size ⟨2, col, cmp, ⟨vn, vi, vt⟩, kind, pat⟩ ⟨2, col, cmp, ⟨vn, vi, vt⟩, kind, pat⟩ ⟨2, col, cmp, ⟨vn, vi, vt⟩, kind, []⟩ ⟨A, n, c⟩ noKv noKv rfl
      have PBn : Hid (PdB wn w.heap.size ⟨2, col, cmp, ⟨vn, vi, vt⟩, kind, pat⟩ ⟨A, n, c⟩) := Lib.hid (Q.1.fr fn (fun e => e))
      have PB3 : Hid (PdB wn (w.heap.size + 1) ⟨2, col, cmp, ⟨vn, vi, vt⟩, kind, pat⟩ noKv) := Lib.hid (Q.2.1.fr fn (fun e => e))
      have PB4 : Hid (PdB wn (w.heap.size + 1 + 1) ⟨2, col, cmp, ⟨vn, vi, vt⟩, kind, []⟩ noKv) := Lib.hid (Q.2.2.fr fn (fun e => e))
      clear Q fn
      obtain ⟨g0, g1, g2, g3, g4, g5, g6, g7, g8⟩ := pdB_cells PBn.out
      dsimp only at g0 g1 g2 g3 g4 g5 g6 g7 g8
      obtain ⟨d0, d1, d2, d3, d4, d5, d6, d7, d8⟩ := pdB_cells PB3.out
      obtain ⟨e0, e1, e2, e3, e4, e5, e6, e7, e8⟩ := pdB_cells PB4.out
      dsimp only at d0 d1 d2 d3 d4 d5 d6 d7 d8 e0 e1 e2 e3 e4 e5 e6 e7 e8
      go_wp2
      go_ret
      exact ⟨ret_boolE HE1.out.symm, FN.out⟩
set_option maxHeartbeats 8000000 in
theorem rone3_any (h0_ : Ph) (ks : List Pd) (t : Kv) (w : World) (hop : h0_.op = 3) (hk : Kd w t ks) (hl : ks.length ≤ 1000) (hcl : h0_.col.length ≤ 1000)
    (IH : Hid (∀ k (h : k < ks.length) (W : World) (t' : Kv), Kd W t' ks[k].kids → Calls Tryz.prog 109 #[pdV ks[k].hd t'] W fun e w' => e = .returned (.bool (oneP ks[k])) ∧ Fr Non W w')) :
    Calls Tryz.prog 109 #[pdV h0_ t] w fun e w' => e = .returned (.bool (oneP (.mk h0_ ks))) ∧ Fr Non w w' := by
  have hn : t.n = ks.length := hk.len
  have N1 := Lib.hid (fun W => rname_any h0_.col W (by omega))
  have M1 := Lib.hid (fun W => rmay_any h0_.kind false h0_.val W)
  have HE := Lib.hid (one_base h0_ ks t.n hn)
  generalize oneP (.mk h0_ ks) = r at *
  have HK : Hid (Kd w t ks) := Lib.hid hk
  have PB0 : Hid (∀ b d, PdB (((w.alloc (.cells (pdC h0_ t) 28)).alloc b).alloc d) w.heap.size h0_ t) := Lib.hid (fun b d => (pd_new w _ h0_ t rfl).fr (((Fr.refl Non _).alloc b).alloc d) (fun e => e))
  obtain ⟨op, col, cmp, ⟨vn, vi, vt⟩, kind, pat⟩ := h0_
  obtain ⟨A, n, c⟩ := t
  dsimp only at hn hop hcl HE
  have HL := Lib.hid hn
  have hn20 : n ≤ 1000 := by omega
  have hs := slen pat
  clear hn hk hl
  unfold pdV pdC kidV
  unfold clV clC at M1
  dsimp only at *
  subst hop
  have FL := Lib.hid (fun W => flat_any ⟨3, col, cmp, ⟨vn, vi, vt⟩, kind, pat⟩ ⟨3, col, 0, zCl, 0, []⟩ noKv noKv W)
  have HE0 : Hid (r = (baseOk ⟨3, col, cmp, ⟨vn, vi, vt⟩, kind, pat⟩ n && ks.all (okk 3))) := HE
  clear HE
  unfold pdV pdC kidV noKv at FL
  replace HE0 : Hid (r = (nameB col && decide (n = 0) && peq ⟨3, col, cmp, ⟨vn, vi, vt⟩, kind, pat⟩ ⟨3, col, 0, zCl, 0, []⟩ && ks.all (okk 3))) := HE0
  generalize peq ⟨3, col, cmp, ⟨vn, vi, vt⟩, kind, pat⟩ ⟨3, col, 0, zCl, 0, []⟩ = q at *
  unfold zCl at FL
  dsimp only at FL
  clear M1
  generalize nameB col = b1 at *
  cases b1
  · have HE1 : Hid (r = false) := Lib.hid (by rw [HE0.out]; simp)
    clear HE0
    go_enter Tryz.func109, Tryz.ntmps109
    go_wp2_with fail
    refine (N1.out _).mono ?_
    rintro e wn ⟨rfl, fn⟩
    go_wp2
    go_ret
    exact ⟨ret_boolE HE1.out.symm, ((((Fr.refl Non w).alloc _).alloc _).alloc _).trans fn⟩
  · have HE9 : Hid (r = (decide (n = 0) && q && ks.all (okk 3))) := Lib.hid (by rw [HE0.out]; simp)
    clear HE0
    have HE0 := HE9
    clear HE9
    by_cases h0 : n = 0
    · subst h0
      have HE1 : Hid (r = (q && ks.all (okk 3))) := Lib.hid (by rw [HE0.out]; simp)
      clear HE0
      have HE0 := HE1
      clear HE1
      go_enter Tryz.func109, Tryz.ntmps109
      go_wp2_with fail
      refine (N1.out _).mono ?_
      rintro e wn ⟨rfl, fn⟩
      have FN : Hid (Fr Non w wn) := Lib.hid (((((Fr.refl Non w).alloc _).alloc _).alloc _).trans fn)
      have Q := three_new w w.heap.size ⟨3, col, cmp, ⟨vn, vi, vt⟩, kind, pat⟩ ⟨3, col, cmp, ⟨vn, vi, vt⟩, kind, pat⟩ ⟨3, col, 0, ⟨false, 0, []⟩, 0, []⟩ ⟨A, 0, c⟩ noKv noKv rfl
      have PBn : Hid (PdB wn w.heap.size ⟨3, col, cmp, ⟨vn, vi, vt⟩, kind, pat⟩ ⟨A, 0, c⟩) := Lib.hid (Q.1.fr fn (fun e => e))
      have PB3 : Hid (PdB wn (w.heap.size + 1) ⟨3, col, cmp, ⟨vn, vi, vt⟩, kind, pat⟩ noKv) := Lib.hid (Q.2.1.fr fn (fun e => e))
      have PB4 : Hid (PdB wn (w.heap.size + 1 + 1) ⟨3, col, 0, ⟨false, 0, []⟩, 0, []⟩ noKv) := Lib.hid (Q.2.2.fr fn (fun e => e))
      clear Q fn
      obtain ⟨g0, g1, g2, g3, g4, g5, g6, g7, g8⟩ := pdB_cells PBn.out
      dsimp only at g0 g1 g2 g3 g4 g5 g6 g7 g8
      obtain ⟨d0, d1, d2, d3, d4, d5, d6, d7, d8⟩ := pdB_cells PB3.out
      obtain ⟨e0, e1, e2, e3, e4, e5, e6, e7, e8⟩ := pdB_cells PB4.out
      dsimp only at d0 d1 d2 d3 d4 d5 d6 d7 d8 e0 e1 e2 e3 e4 e5 e6 e7 e8
      go_wp2_with fail
      refine (FL.out _).mono ?_
      rintro e w1 ⟨rfl, f1⟩
      have F1 := Lib.hid ((FN.out).trans f1)
      have PB := Lib.hid ((PBn.out).fr f1 (fun e => e))
      have HK1 := HK
      obtain ⟨g0, g1, g2, g3, g4, g5, g6, g7, g8⟩ := pdB_cells PB.out
      dsimp only at g0 g1 g2 g3 g4 g5 g6 g7 g8
      clear f1 HK1
      cases q
      · go_wp2
        go_ret
        exact ⟨ret_boolE (by rw [HE0.out]; simp), F1.out⟩
      · have HE : Hid (r = ks.all (okk 3)) := Lib.hid (by rw [HE0.out]; simp)
        clear HE0
        go_wp2
        go_loopw [5] (fun i wr => ∃ k : Nat, k ≤ 0 ∧ i = .int .i64 k ∧ Hid (∀ j (h : j < ks.length), j < k → okk 3 ks[j] = true) ∧ Hid (Fr Non w1 wr)) (fun i _ => 0 - (intOf i).toNat)
        case atStart => exact ⟨0, Nat.zero_le _, rfl, Lib.hid (fun _ _ h => by omega), Lib.hid (Fr.refl _ _)⟩
        case round =>
          clear g0 g1 g2 g3 g4 g5 g6 g7 g8
          obtain ⟨k, hk, rfl, HT, FR⟩ := hrel
          have FW := Lib.hid (F1.out.trans FR.out)
          by_cases hlt : k < 0
          · exact absurd hlt (by omega)
          · have b8 := (PB.out.fr FR.out (fun e => e)).cell 8
            simp [pdC, kidV] at b8
            have HE2 := Lib.hid (all_yes (op := 3) (by have := HL.out; omega) HT.out)
            clear HT
            go_wp2
            go_ret
            exact ⟨ret_boolE (by rw [HE.out, HE2.out]), FW.out⟩
    · have HE1 : Hid (r = false) := Lib.hid (by rw [HE0.out, decide_eq_false h0]; simp)
      have hb : 0 < n := by omega
      clear HE0 h0
      go_enter Tryz.func109, Tryz.ntmps109
      go_wp2_with fail
      refine (N1.out _).mono ?_
      rintro e wn ⟨rfl, fn⟩
      have FN : Hid (Fr Non w wn) := Lib.hid (((((Fr.refl Non w).alloc _).alloc _).alloc _).trans fn)
      have Q := three_new w w.heap.size ⟨3, col, cmp, ⟨vn, vi, vt⟩, kind, pat⟩ ⟨3, col, cmp, ⟨vn, vi, vt⟩, kind, pat⟩ ⟨3, col, 0, ⟨false, 0, []⟩, 0, []⟩ ⟨A, n, c⟩ noKv noKv rfl
      have PBn : Hid (PdB wn w.heap.size ⟨3, col, cmp, ⟨vn, vi, vt⟩, kind, pat⟩ ⟨A, n, c⟩) := Lib.hid (Q.1.fr fn (fun e => e))
      have PB3 : Hid (PdB wn (w.heap.size + 1) ⟨3, col, cmp, ⟨vn, vi, vt⟩, kind, pat⟩ noKv) := Lib.hid (Q.2.1.fr fn (fun e => e))
      have PB4 : Hid (PdB wn (w.heap.size + 1 + 1) ⟨3, col, 0, ⟨false, 0, []⟩, 0, []⟩ noKv) := Lib.hid (Q.2.2.fr fn (fun e => e))
      clear Q fn
      obtain ⟨g0, g1, g2, g3, g4, g5, g6, g7, g8⟩ := pdB_cells PBn.out
      dsimp only at g0 g1 g2 g3 g4 g5 g6 g7 g8
      obtain ⟨d0, d1, d2, d3, d4, d5, d6, d7, d8⟩ := pdB_cells PB3.out
      obtain ⟨e0, e1, e2, e3, e4, e5, e6, e7, e8⟩ := pdB_cells PB4.out
      dsimp only at d0 d1 d2 d3 d4 d5 d6 d7 d8 e0 e1 e2 e3 e4 e5 e6 e7 e8
      go_wp2
      go_ret
      exact ⟨ret_boolE HE1.out.symm, FN.out⟩
set_option maxHeartbeats 8000000 in
theorem rone4_any (h0_ : Ph) (ks : List Pd) (t : Kv) (w : World) (hop : h0_.op = 4) (hk : Kd w t ks) (hl : ks.length ≤ 1000) (hcl : h0_.col.length ≤ 1000)
    (IH : Hid (∀ k (h : k < ks.length) (W : World) (t' : Kv), Kd W t' ks[k].kids → Calls Tryz.prog 109 #[pdV ks[k].hd t'] W fun e w' => e = .returned (.bool (oneP ks[k])) ∧ Fr Non W w')) :
    Calls Tryz.prog 109 #[pdV h0_ t] w fun e w' => e = .returned (.bool (oneP (.mk h0_ ks))) ∧ Fr Non w w' := by
  have hn : t.n = ks.length := hk.len
  have N1 := Lib.hid (fun W => rname_any h0_.col W (by omega))
  have M1 := Lib.hid (fun W => rmay_any h0_.kind false h0_.val W)
  have HE := Lib.hid (one_base h0_ ks t.n hn)
  generalize oneP (.mk h0_ ks) = r at *
  have HK : Hid (Kd w t ks) := Lib.hid hk
  have PB0 : Hid (∀ b d, PdB (((w.alloc (.cells (pdC h0_ t) 28)).alloc b).alloc d) w.heap.size h0_ t) := Lib.hid (fun b d => (pd_new w _ h0_ t rfl).fr (((Fr.refl Non _).alloc b).alloc d) (fun e => e))
  obtain ⟨op, col, cmp, ⟨vn, vi, vt⟩, kind, pat⟩ := h0_
  obtain ⟨A, n, c⟩ := t
  dsimp only at hn hop hcl HE
  have HL := Lib.hid hn
  have hn20 : n ≤ 1000 := by omega
  have hs := slen pat
  clear hn hk hl
  unfold pdV pdC kidV
  unfold clV clC at M1
  dsimp only at *
  subst hop
  have FL := Lib.hid (fun W => flat_any ⟨4, col, cmp, ⟨vn, vi, vt⟩, kind, pat⟩ ⟨4, col, 0, zCl, 0, pat⟩ noKv noKv W)
  have HE0 : Hid (r = (baseOk ⟨4, col, cmp, ⟨vn, vi, vt⟩, kind, pat⟩ n && ks.all (okk 4))) := HE
  clear HE
  unfold pdV pdC kidV noKv at FL
  replace HE0 : Hid (r = (nameB col && decide (pat.length ≤ 40) && decide (n = 0) && peq ⟨4, col, cmp, ⟨vn, vi, vt⟩, kind, pat⟩ ⟨4, col, 0, zCl, 0, pat⟩ && ks.all (okk 4))) := HE0
  generalize peq ⟨4, col, cmp, ⟨vn, vi, vt⟩, kind, pat⟩ ⟨4, col, 0, zCl, 0, pat⟩ = q at *
  unfold zCl at FL
  dsimp only at FL
  clear M1
  generalize nameB col = b1 at *
  cases b1
  · have HE1 : Hid (r = false) := Lib.hid (by rw [HE0.out]; simp)
    clear HE0
    go_enter Tryz.func109, Tryz.ntmps109
    go_wp2_with fail
    refine (N1.out _).mono ?_
    rintro e wn ⟨rfl, fn⟩
    go_wp2
    go_ret
    exact ⟨ret_boolE HE1.out.symm, ((((Fr.refl Non w).alloc _).alloc _).alloc _).trans fn⟩
  · by_cases h40 : pat.length ≤ 40
    · have hpl : ¬ 40 < pat.length := by omega
      have HE9 : Hid (r = (decide (n = 0) && q && ks.all (okk 4))) := Lib.hid (by rw [HE0.out, decide_eq_true h40]; simp)
      clear HE0
      have HE0 := HE9
      clear HE9
      by_cases h0 : n = 0
      · subst h0
        have HE1 : Hid (r = (q && ks.all (okk 4))) := Lib.hid (by rw [HE0.out]; simp)
        clear HE0
        have HE0 := HE1
        clear HE1
        go_enter Tryz.func109, Tryz.ntmps109
        go_wp2_with fail
        refine (N1.out _).mono ?_
        rintro e wn ⟨rfl, fn⟩
        have FN : Hid (Fr Non w wn) := Lib.hid (((((Fr.refl Non w).alloc _).alloc _).alloc _).trans fn)
        have Q := three_new w w.heap.size ⟨4, col, cmp, ⟨vn, vi, vt⟩, kind, pat⟩ ⟨4, col, cmp, ⟨vn, vi, vt⟩, kind, pat⟩ ⟨4, col, 0, ⟨false, 0, []⟩, 0, pat⟩ ⟨A, 0, c⟩ noKv noKv rfl
        have PBn : Hid (PdB wn w.heap.size ⟨4, col, cmp, ⟨vn, vi, vt⟩, kind, pat⟩ ⟨A, 0, c⟩) := Lib.hid (Q.1.fr fn (fun e => e))
        have PB3 : Hid (PdB wn (w.heap.size + 1) ⟨4, col, cmp, ⟨vn, vi, vt⟩, kind, pat⟩ noKv) := Lib.hid (Q.2.1.fr fn (fun e => e))
        have PB4 : Hid (PdB wn (w.heap.size + 1 + 1) ⟨4, col, 0, ⟨false, 0, []⟩, 0, pat⟩ noKv) := Lib.hid (Q.2.2.fr fn (fun e => e))
        clear Q fn
        obtain ⟨g0, g1, g2, g3, g4, g5, g6, g7, g8⟩ := pdB_cells PBn.out
        dsimp only at g0 g1 g2 g3 g4 g5 g6 g7 g8
        obtain ⟨d0, d1, d2, d3, d4, d5, d6, d7, d8⟩ := pdB_cells PB3.out
        obtain ⟨e0, e1, e2, e3, e4, e5, e6, e7, e8⟩ := pdB_cells PB4.out
        dsimp only at d0 d1 d2 d3 d4 d5 d6 d7 d8 e0 e1 e2 e3 e4 e5 e6 e7 e8
        go_wp2_with fail
        refine (FL.out _).mono ?_
        rintro e w1 ⟨rfl, f1⟩
        have F1 := Lib.hid ((FN.out).trans f1)
        have PB := Lib.hid ((PBn.out).fr f1 (fun e => e))
        have HK1 := HK
        obtain ⟨g0, g1, g2, g3, g4, g5, g6, g7, g8⟩ := pdB_cells PB.out
        dsimp only at g0 g1 g2 g3 g4 g5 g6 g7 g8
        clear f1 HK1
        cases q
        · go_wp2
          go_ret
          exact ⟨ret_boolE (by rw [HE0.out]; simp), F1.out⟩
        · have HE : Hid (r = ks.all (okk 4)) := Lib.hid (by rw [HE0.out]; simp)
          clear HE0
          go_wp2
          go_loopw [5] (fun i wr => ∃ k : Nat, k ≤ 0 ∧ i = .int .i64 k ∧ Hid (∀ j (h : j < ks.length), j < k → okk 4 ks[j] = true) ∧ Hid (Fr Non w1 wr)) (fun i _ => 0 - (intOf i).toNat)
          case atStart => exact ⟨0, Nat.zero_le _, rfl, Lib.hid (fun _ _ h => by omega), Lib.hid (Fr.refl _ _)⟩
          case round =>
            clear g0 g1 g2 g3 g4 g5 g6 g7 g8
            obtain ⟨k, hk, rfl, HT, FR⟩ := hrel
            have FW := Lib.hid (F1.out.trans FR.out)
            by_cases hlt : k < 0
            · exact absurd hlt (by omega)
            · have b8 := (PB.out.fr FR.out (fun e => e)).cell 8
              simp [pdC, kidV] at b8
              have HE2 := Lib.hid (all_yes (op := 4) (by have := HL.out; omega) HT.out)
              clear HT
              go_wp2
              go_ret
              exact ⟨ret_boolE (by rw [HE.out, HE2.out]), FW.out⟩
      · have HE1 : Hid (r = false) := Lib.hid (by rw [HE0.out, decide_eq_false h0]; simp)
        have hb : 0 < n := by omega
        clear HE0 h0
        go_enter Tryz.func109, Tryz.ntmps109
        go_wp2_with fail
        refine (N1.out _).mono ?_
        rintro e wn ⟨rfl, fn⟩
        have FN : Hid (Fr Non w wn) := Lib.hid (((((Fr.refl Non w).alloc _).alloc _).alloc _).trans fn)
        have Q := three_new w w.heap.size ⟨4, col, cmp, ⟨vn, vi, vt⟩, kind, pat⟩ ⟨4, col, cmp, ⟨vn, vi, vt⟩, kind, pat⟩ ⟨4, col, 0, ⟨false, 0, []⟩, 0, pat⟩ ⟨A, n, c⟩ noKv noKv rfl
        have PBn : Hid (PdB wn w.heap.size ⟨4, col, cmp, ⟨vn, vi, vt⟩, kind, pat⟩ ⟨A, n, c⟩) := Lib.hid (Q.1.fr fn (fun e => e))
        have PB3 : Hid (PdB wn (w.heap.size + 1) ⟨4, col, cmp, ⟨vn, vi, vt⟩, kind, pat⟩ noKv) := Lib.hid (Q.2.1.fr fn (fun e => e))
        have PB4 : Hid (PdB wn (w.heap.size + 1 + 1) ⟨4, col, 0, ⟨false, 0, []⟩, 0, pat⟩ noKv) := Lib.hid (Q.2.2.fr fn (fun e => e))
        clear Q fn
        obtain ⟨g0, g1, g2, g3, g4, g5, g6, g7, g8⟩ := pdB_cells PBn.out
        dsimp only at g0 g1 g2 g3 g4 g5 g6 g7 g8
        obtain ⟨d0, d1, d2, d3, d4, d5, d6, d7, d8⟩ := pdB_cells PB3.out
        obtain ⟨e0, e1, e2, e3, e4, e5, e6, e7, e8⟩ := pdB_cells PB4.out
        dsimp only at d0 d1 d2 d3 d4 d5 d6 d7 d8 e0 e1 e2 e3 e4 e5 e6 e7 e8
        go_wp2
        go_ret
        exact ⟨ret_boolE HE1.out.symm, FN.out⟩
    · have hpl : 40 < pat.length := by omega
      have HE1 : Hid (r = false) := Lib.hid (by rw [HE0.out, decide_eq_false h40]; simp)
      clear HE0
      go_enter Tryz.func109, Tryz.ntmps109
      go_wp2_with fail
      refine (N1.out _).mono ?_
      rintro e wn ⟨rfl, fn⟩
      have FN : Hid (Fr Non w wn) := Lib.hid (((((Fr.refl Non w).alloc _).alloc _).alloc _).trans fn)
      have Q := three_new w w.heap.size ⟨4, col, cmp, ⟨vn, vi, vt⟩, kind, pat⟩ ⟨4, col, cmp, ⟨vn, vi, vt⟩, kind, pat⟩ ⟨4, col, 0, ⟨false, 0, []⟩, 0, pat⟩ ⟨A, n, c⟩ noKv noKv rfl
      have PBn : Hid (PdB wn w.heap.size ⟨4, col, cmp, ⟨vn, vi, vt⟩, kind, pat⟩ ⟨A, n, c⟩) := Lib.hid (Q.1.fr fn (fun e => e))
      have PB3 : Hid (PdB wn (w.heap.size + 1) ⟨4, col, cmp, ⟨vn, vi, vt⟩, kind, pat⟩ noKv) := Lib.hid (Q.2.1.fr fn (fun e => e))
      have PB4 : Hid (PdB wn (w.heap.size + 1 + 1) ⟨4, col, 0, ⟨false, 0, []⟩, 0, pat⟩ noKv) := Lib.hid (Q.2.2.fr fn (fun e => e))
      clear Q fn
      obtain ⟨g0, g1, g2, g3, g4, g5, g6, g7, g8⟩ := pdB_cells PBn.out
      dsimp only at g0 g1 g2 g3 g4 g5 g6 g7 g8
      obtain ⟨d0, d1, d2, d3, d4, d5, d6, d7, d8⟩ := pdB_cells PB3.out
      obtain ⟨e0, e1, e2, e3, e4, e5, e6, e7, e8⟩ := pdB_cells PB4.out
      dsimp only at d0 d1 d2 d3 d4 d5 d6 d7 d8 e0 e1 e2 e3 e4 e5 e6 e7 e8
      go_wp2
      go_ret
      exact ⟨ret_boolE HE1.out.symm, FN.out⟩
end Go.Proofs.YtjcfjjhhbcgcmaaGreat

namespace Go.Proofs.YtjcfjjhhbcgcmaaGreat
open Go.RowKit
theorem Kd.num {w : World} {s : Kv} {ps : List Pd} (h : Kd w s ps) : numL ps := by
  induction h with
  | mk s ns ps hl hN hh hb hk ih =>
    rw [numL_all]
    intro p hp
    obtain ⟨j, hj, rfl⟩ := List.mem_iff_getElem.1 hp
    have e := ih j (by omega) hj
    have b := hb j hj
    generalize ps[j] = p at *
    obtain ⟨h, ks⟩ := p
    exact ⟨b, e⟩
end Go.Proofs.YtjcfjjhhbcgcmaaGreat

namespace Go.Proofs.YtjcfjjhhbcgcmaaGreat
open Go.RowKit
set_option maxHeartbeats 2000000 in
theorem pidxs_any (v : Value) (l : List Tx) (x : Tx) (w : World) (hv : Vs sv w v l) (hl : l.length ≤ 1000) :
    Calls Tryz.prog 131 #[v, .string ⟨x.toArray⟩] w fun e w' => ∃ z : Int, e = .returned (.int .i64 z) ∧ decide (0 ≤ z) = decide (x ∈ l) ∧ Fr Non w w' := by
  obtain ⟨A, c, rfl, hlc, hn, hcell⟩ := hv
  have HC := Lib.hid hcell
  have HN := Lib.hid hn
  clear hcell hn
  go_enter Tryz.func131, Tryz.ntmps131
  go_wp2
  go_loopw [8] (fun i wr => ∃ (k : Nat), k ≤ l.length ∧ i = .int .i64 k ∧ Hid (∀ j (h : j < l.length), j < k → l[j] ≠ x) ∧ Hid (Fr Non w wr)) (fun i _ => l.length - (intOf i).toNat)
  case atStart => exact ⟨0, Nat.zero_le _, rfl, Lib.hid (fun _ _ h => by omega), Lib.hid (Fr.refl _ _)⟩
  case round =>
    obtain ⟨k, hk, rfl, HT, FR⟩ := hrel
    by_cases hlt : k < l.length
    · cases A with
      | none => have := HN.out rfl; omega
      | some a =>
        have c0 := (FR.out.cell (World.block_lt_of_cell? _ _ (HC.out a rfl k hlt)) (fun e => e)).trans (HC.out a rfl k hlt)
        unfold sv at c0
        have HX : Hid (l[k] = x → x ∈ l) := Lib.hid (fun e => by rw [← e]; exact List.getElem_mem hlt)
        have HY : Hid (l[k] ≠ x → ∀ j (h : j < l.length), j < k + 1 → l[j] ≠ x) := Lib.hid (fun e j hj hjk => by
          by_cases ee : j = k
          · subst ee; exact e
          · exact HT.out j hj (by omega))
        clear HT
        generalize l[k] = y at *
        by_cases he : y = x
        · have HE := Lib.hid (HX.out he)
          subst he
          clear HX HY
          go_wp2
          go_ret
          exact ⟨_, rfl, by rw [decide_eq_true HE.out]; exact decide_eq_true (by omega), FR.out⟩
        · have hb : (x == y) = false := by rw [beq_eq_false_iff_ne]; exact fun e => he e.symm
          have HE := Lib.hid (HY.out he)
          clear HX HY he
          go_wp2
          go_roundw
          case rel => exact ⟨k + 1, by omega, by go_num, HE, FR⟩
          case measure => simp [intOf]; omega
    · have HE : Hid (¬ x ∈ l) := Lib.hid (fun hx => by
        obtain ⟨j, hj, e⟩ := List.mem_iff_getElem.1 hx
        exact HT.out j hj (by omega) e)
      clear HT
      go_wp2
      go_ret
      exact ⟨_, rfl, by rw [decide_eq_false HE.out]; rfl, FR.out⟩
theorem pconts_any (v : Value) (l : List Tx) (x : Tx) (w : World) (hv : Vs sv w v l) (hl : l.length ≤ 1000) :
    Calls Tryz.prog 113 #[v, .string ⟨x.toArray⟩] w fun e w' => e = .returned (.bool (decide (x ∈ l))) ∧ Fr Non w w' := by
  have h0 := Lib.hid (pidxs_any v l x w hv hl)
  obtain ⟨A, c, rfl⟩ := hv.shape
  clear hv
  go_enter Tryz.func113, Tryz.ntmps113
  go_wp2_with fail
  refine h0.out.mono ?_
  rintro e w1 ⟨z, rfl, hz, f1⟩
  go_wp2
  go_ret
  exact ⟨rfl, f1⟩
end Go.Proofs.YtjcfjjhhbcgcmaaGreat

namespace Go.Proofs.YtjcfjjhhbcgcmaaGreat
open Go.RowKit
theorem mynot_any (a : Ag) (w : World) (hl : a.col.length ≤ 1000000000) :
    Calls Tryz.prog 84 #[agV a] w fun e w' => e = .returned (.bool (!agB a)) ∧ Fr Non w w' := by
  have N := fun W => sname_any a.col W hl
  have HF : Hid (Fr Non w (w.alloc (.cells #[.int .i64 a.op, .string ⟨a.col.toArray⟩] 50))) := Lib.hid ((Fr.refl Non w).alloc _)
  have HE0 : Hid (agB a = if a.op = 1 then decide (a.col = []) else decide (2 ≤ a.op ∧ a.op ≤ 5) && nameB a.col) := Lib.hid rfl
  obtain ⟨o, c⟩ := a
  unfold agV
  dsimp only at *
  generalize agB _ = r at *
  by_cases h1 : o = 1
  · subst h1
    clear N
    by_cases h0 : c = []
    · subst h0
      have HE : Hid (r = true) := Lib.hid (by rw [HE0.out]; rfl)
      clear HE0
      go_enter Tryz.func84, Tryz.ntmps84
      go_wp2
      go_ret
      exact ⟨ret_boolE (by rw [HE.out]; rfl), HF.out⟩
    · have hb : (c == []) = false := by rw [beq_eq_false_iff_ne]; exact h0
      have HE : Hid (r = false) := Lib.hid (by rw [HE0.out, if_pos rfl]; exact decide_eq_false h0)
      clear HE0 h0
      go_enter Tryz.func84, Tryz.ntmps84
      go_wp2
      go_ret
      exact ⟨ret_boolE (by rw [HE.out]; rfl), HF.out⟩
  · have hb1 : (o == 1) = false := by rw [beq_eq_false_iff_ne]; exact h1
    by_cases h2 : o < 2
    · have HE : Hid (r = false) := Lib.hid (by rw [HE0.out, if_neg h1, decide_eq_false (by omega)]; rfl)
      clear HE0 N
      go_enter Tryz.func84, Tryz.ntmps84
      go_wp2
      go_ret
      exact ⟨ret_boolE (by rw [HE.out]; rfl), HF.out⟩
    · by_cases h5 : 5 < o
      · have HE : Hid (r = false) := Lib.hid (by rw [HE0.out, if_neg h1, decide_eq_false (by omega)]; rfl)
        clear HE0 N
        go_enter Tryz.func84, Tryz.ntmps84
        go_wp2
        go_ret
        exact ⟨ret_boolE (by rw [HE.out]; rfl), HF.out⟩
      · have HE : Hid (r = nameB c) := Lib.hid (by rw [HE0.out, if_neg h1, decide_eq_true (by omega)]; rfl)
        generalize nameB c = b at *
        clear HE0
        replace N := Lib.hid N
        go_enter Tryz.func84, Tryz.ntmps84
        go_wp2_with fail
        refine (N.out _).mono ?_
        rintro e w1 ⟨rfl, f1⟩
        go_wp2
        go_ret
        exact ⟨ret_boolE (by rw [HE.out]), HF.out.trans f1⟩
def badA (a : Ag) : Bool := !agB a
theorem any_moreG {α : Type} {p : α → Bool} {l : List α} {k : Nat} (h : k < l.length) (h1 : (l.take k).any p = false) (h2 : p l[k] = false) : (l.take (k + 1)).any p = false := by
  rw [List.take_succ_eq_append_getElem h, List.any_append, h1]; simp [h2]
theorem any_allG {α : Type} {p : α → Bool} {l : List α} : (l.any fun a => !p a) = !(l.all p) := by
  induction l with
  | nil => rfl
  | cons x l ih => rw [List.any_cons, List.all_cons, ih]; cases p x <;> rfl
theorem gidx_any (v : Value) (l : List Ag) (w : World) (hv : Gs w v l) (hl : l.length ≤ 1000000000) (hb : ∀ c ∈ l, c.col.length ≤ 1000000000) :
    Calls Tryz.prog 90 #[v, .func (.func 84) #[] #[]] w fun e w' => ∃ z : Int, e = .returned (.int .i64 z) ∧ decide (0 ≤ z) = l.any badA ∧ Fr Non w w' := by
  obtain ⟨A, c, rfl, hlc, hn, hcell⟩ := hv
  have HC := Lib.hid hcell
  have HN := Lib.hid hn
  have HB := Lib.hid hb
  clear hcell hn hb
  go_enter Tryz.func90, Tryz.ntmps90
  go_wp2
  go_loopw [8] (fun i wr => ∃ (k : Nat), k ≤ l.length ∧ i = .int .i64 k ∧ Hid ((l.take k).any badA = false) ∧ Fr Non w wr) (fun i _ => l.length - (intOf i).toNat)
  case atStart => exact ⟨0, Nat.zero_le _, rfl, Lib.hid rfl, Fr.refl _ _⟩
  case round =>
    obtain ⟨k, hk, rfl, hne, hfr⟩ := hrel
    by_cases hlt : k < l.length
    · cases A with
      | none => have := HN.out rfl; omega
      | some a =>
        obtain ⟨hc0, hc1⟩ := ag_lit ((HC.out a rfl k hlt).non hfr)
        have HY := Lib.hid (fun h => any_moreG hlt hne.out h)
        have HX : Hid (badA l[k] = true → l.any badA = true) := Lib.hid (fun h => List.any_eq_true.2 ⟨_, List.getElem_mem hlt, h⟩)
        have M := fun W => mynot_any l[k] W (HB.out _ (List.getElem_mem hlt))
        clear hne
        change ∀ W, Calls _ _ _ W (fun e w' => e = .returned (.bool (badA l[k])) ∧ Fr Non W w') at M
        generalize l[k] = x at *
        obtain ⟨xo, xn⟩ := x
        unfold agV at M
        dsimp only at hc0 hc1 HY HX M
        have HF := Lib.hid hfr
        clear hfr
        cases hx : badA ⟨xo, xn⟩
        · have HE := Lib.hid (HY.out hx)
          simp only [hx] at M
          replace M := Lib.hid M
          clear HX HY hx
          go_wp2_with fail
          refine (M.out _).mono ?_
          rintro e w2 ⟨rfl, f2⟩
          go_wp2
          go_roundw
          case rel => exact ⟨k + 1, by omega, by go_num, HE, HF.out.trans f2⟩
          case measure => simp [intOf]; omega
        · have HE := Lib.hid (HX.out hx)
          simp only [hx] at M
          replace M := Lib.hid M
          clear HX HY hx
          go_wp2_with fail
          refine (M.out _).mono ?_
          rintro e w2 ⟨rfl, f2⟩
          go_wp2
          go_ret
          exact ⟨_, rfl, by rw [HE.out]; exact decide_eq_true (by omega), HF.out.trans f2⟩
    · have HE : Hid (l.any badA = false) := Lib.hid (by have := hne.out; rwa [List.take_of_length_le (by omega)] at this)
      clear hne
      go_wp2
      go_ret
      exact ⟨_, rfl, by rw [HE.out]; rfl, hfr⟩
theorem gconts_any (v : Value) (l : List Ag) (w : World) (hv : Gs w v l) (hl : l.length ≤ 1000000000) (hb : ∀ c ∈ l, c.col.length ≤ 1000000000) :
    Calls Tryz.prog 63 #[v, .func (.func 84) #[] #[]] w fun e w' => e = .returned (.bool (!(l.all agB))) ∧ Fr Non w w' := by
  have h0 := Lib.hid (gidx_any v l w hv hl hb)
  obtain ⟨A, c, rfl⟩ := hv.shape
  clear hv hb
  go_enter Tryz.func63, Tryz.ntmps63
  go_wp2_with fail
  refine h0.out.mono ?_
  rintro e w1 ⟨z, rfl, hz, f1⟩
  go_wp2
  go_ret
  exact ⟨ret_boolE any_allG, f1⟩
def unlK (l : List Tx) (k : Nat) : Prop := (l.take k).all nameB = true ∧ (l.take k).Nodup
theorem unlK_zero (l : List Tx) : unlK l 0 := ⟨rfl, List.nodup_nil⟩
theorem unlK_more {l : List Tx} {k : Nat} (h : k < l.length) (hu : unlK l k) (h1 : nameB l[k] = true) (h2 : ¬ l[k] ∈ l.take k) : unlK l (k + 1) := by
  unfold unlK
  rw [List.take_succ_eq_append_getElem h, List.all_append, List.nodup_append, hu.1]
  refine ⟨by simp [h1], hu.2, by simp, fun a ha b hb e => ?_⟩
  obtain rfl := List.mem_singleton.1 hb
  exact h2 (e ▸ ha)
theorem unlK_all {l : List Tx} {k : Nat} (h : l.length ≤ k) (hu : unlK l k) : unlB l = true := by
  unfold unlK at hu
  rw [List.take_of_length_le h] at hu
  unfold unlB
  rw [hu.1, decide_eq_true hu.2]; rfl
theorem unl_bad {l : List Tx} {k : Nat} (h : k < l.length) (h1 : nameB l[k] = false) : unlB l = false := by
  unfold unlB
  have : l.all nameB = false := by
    rw [List.all_eq_false]
    exact ⟨_, List.getElem_mem h, by rw [h1]; simp⟩
  rw [this]; rfl
theorem unl_dup {l : List Tx} {k : Nat} (h : k < l.length) (h1 : l[k] ∈ l.take k) : unlB l = false := by
  unfold unlB
  have : ¬ l.Nodup := by
    intro hn
    obtain ⟨j, hj, e⟩ := List.mem_iff_getElem.1 h1
    rw [List.length_take] at hj
    rw [List.getElem_take] at e
    have := (List.getElem_inj hn).1 e
    omega
  rw [decide_eq_false this, Bool.and_false]
set_option maxHeartbeats 1000000 in
theorem unln_any (v : Value) (l : List Tx) (w : World) (hv : Vs sv w v l) (hl : l.length ≤ 1000) (hb : ∀ x ∈ l, x.length ≤ 1000000000) :
    Calls Tryz.prog 83 #[v] w fun e w' => e = .returned (.bool (unlB l)) ∧ Fr Non w w' := by
  have HV := Lib.hid hv
  obtain ⟨A, c, rfl, hlc, hn, hcell⟩ := hv
  have HC := Lib.hid hcell
  have HN := Lib.hid hn
  have HB := Lib.hid hb
  have HLC := Lib.hid hlc
  clear hcell hn hb hlc
  go_enter Tryz.func83, Tryz.ntmps83
  go_wp2
  go_loopw [7] (fun i wr => ∃ (k : Nat), k ≤ l.length ∧ i = .int .i64 k ∧ Hid (unlK l k) ∧ Hid (Fr Non w wr)) (fun i _ => l.length - (intOf i).toNat)
  case atStart => exact ⟨0, Nat.zero_le _, rfl, Lib.hid (unlK_zero l), Lib.hid (Fr.refl _ _)⟩
  case round =>
    obtain ⟨k, hk, rfl, HT, FR⟩ := hrel
    by_cases hlt : k < l.length
    · cases A with
      | none => have := HN.out rfl; have := HLC.out; omega
      | some a =>
        have c0 := (FR.out.cell (World.block_lt_of_cell? _ _ (HC.out a rfl k hlt)) (fun e => e)).trans (HC.out a rfl k hlt)
        unfold sv at c0
        have HX := Lib.hid (fun e => unl_bad hlt e)
        have HX2 := Lib.hid (fun e => unl_dup hlt e)
        have HY := Lib.hid (fun e e2 => unlK_more hlt HT.out e e2)
        have N := Lib.hid (fun W => sname_any l[k] W (HB.out _ (List.getElem_mem hlt)))
        obtain ⟨A', c', hrun, hvs, -⟩ := slice_hiG el_str (some a) l.length c k .i64 (k : Int) rfl (by omega) HLC.out
        have HP := Lib.hid (fun W (hf : Fr Non w W) => pconts_any _ (l.take k) l[k] W (hvs sv W l rfl (HV.out.non hf)) (by rw [List.length_take]; omega))
        clear HT hvs
        generalize l[k] = y at *
        generalize l.take k = m at *
        cases hy : nameB y
        · have HE := Lib.hid (HX.out hy)
          rw [hy] at N
          clear HX HX2 HY HP hy hrun
          go_wp2_with fail
          refine (N.out _).mono ?_
          rintro e w1 ⟨rfl, f1⟩
          go_wp2
          go_ret
          exact ⟨ret_boolE HE.out.symm, FR.out.trans f1⟩
        · by_cases hin : y ∈ m
          · have HE := Lib.hid (HX2.out hin)
            rw [hy] at N
            rw [decide_eq_true hin] at HP
            clear HX HX2 HY hy hin
            go_wp2_with fail
            refine (N.out _).mono ?_
            rintro e w1 ⟨rfl, f1⟩
            have F1 := Lib.hid (FR.out.trans f1)
            clear f1
            go_wp2_with fail
            refine (HP.out _ F1.out).mono ?_
            rintro e w2 ⟨rfl, f2⟩
            go_wp2
            go_ret
            exact ⟨ret_boolE HE.out.symm, F1.out.trans f2⟩
          · have HE := Lib.hid (HY.out hy hin)
            rw [hy] at N
            rw [decide_eq_false hin] at HP
            clear HX HX2 HY hy hin
            go_wp2_with fail
            refine (N.out _).mono ?_
            rintro e w1 ⟨rfl, f1⟩
            have F1 := Lib.hid (FR.out.trans f1)
            clear f1
            go_wp2_with fail
            refine (HP.out _ F1.out).mono ?_
            rintro e w2 ⟨rfl, f2⟩
            go_wp2
            go_roundw
            case rel => exact ⟨k + 1, by omega, by go_num, HE, Lib.hid (F1.out.trans f2)⟩
            case measure => simp [intOf]; omega
    · have HE := Lib.hid (unlK_all (by omega) HT.out)
      clear HT
      go_wp2
      go_ret
      exact ⟨ret_boolE HE.out.symm, FR.out⟩
end Go.Proofs.YtjcfjjhhbcgcmaaGreat

namespace Go.Proofs.YtjcfjjhhbcgcmaaGreat
open Go.RowKit
set_option maxHeartbeats 1000000 in
theorem mplain_any (q : Qy) (c : Value) (s : Kv) (g : Value) (w : World) (hq : QyS w q c s g) (hs : BgQ q) :
    Calls Tryz.prog 54 #[qyV q c s g] w fun e w' => e = .returned (.bool (plainQ q)) ∧ Fr Non w w' := by
  have Q0 := Lib.hid (Qin.new hq)
  have U := Lib.hid (fun W (h : QyS W q c s g) => unln_any c q.cols W h.cols (by have := hs.cols; omega) (fun x hx => by have := hs.names x hx; omega))
  have HE0 : Hid (plainQ q = (decide (q.aggs.length = 0) && (decide (q.by_ = []) && (decide (q.cols.length ≤ 6) && unlB q.cols)))) := Lib.hid rfl
  have hlc := hs.cols
  have hlg := hs.aggs
  generalize plainQ q = r at *
  generalize unlB q.cols = bu at *
  obtain ⟨cA, cc, hce⟩ := hq.cols.shape
  obtain ⟨gA, gc, hge⟩ := hq.aggs.shape
  clear hq hs
  obtain ⟨tab, cols, ⟨⟨wo, wc, wm, ⟨wn, wi, wt⟩, wk, wp⟩, wks⟩, aggs, by_⟩ := q
  obtain ⟨sA, sn, sc⟩ := s
  dsimp only at hce hge
  subst hce
  subst hge
  unfold qyV qyC kidV at *
  dsimp only [Pd.hd, Pd.kids] at *
  by_cases ha : aggs.length = 0
  · have hab : ((aggs.length : Int) == 0) = true := by rw [beq_iff_eq]; omega
    by_cases hb : by_ = []
    · subst hb
      by_cases h6 : cols.length ≤ 6
      · have HE : Hid (r = bu) := Lib.hid (by rw [HE0.out, decide_eq_true ha, decide_eq_true h6]; rfl)
        clear HE0 ha
        go_enter Tryz.func54, Tryz.ntmps54
        go_wp2_with fail
        refine (U.out _ Q0.out.sls).mono ?_
        rintro e w1 ⟨rfl, f1⟩
        go_wp2
        go_ret
        exact ⟨ret_boolE HE.out.symm, Q0.out.fr.trans f1⟩
      · have HE : Hid (r = false) := Lib.hid (by rw [HE0.out, decide_eq_false h6]; simp)
        clear HE0 ha U
        go_enter Tryz.func54, Tryz.ntmps54
        go_wp2
        go_ret
        exact ⟨ret_boolE HE.out.symm, Q0.out.fr⟩
    · have hbb : (by_ == []) = false := by rw [beq_eq_false_iff_ne]; exact hb
      have HE : Hid (r = false) := Lib.hid (by rw [HE0.out, decide_eq_false hb]; simp)
      clear HE0 ha U hb
      go_enter Tryz.func54, Tryz.ntmps54
      go_wp2
      go_ret
      exact ⟨ret_boolE HE.out.symm, Q0.out.fr⟩
  · have hab : ((aggs.length : Int) == 0) = false := by rw [beq_eq_false_iff_ne]; omega
    have HE : Hid (r = false) := Lib.hid (by rw [HE0.out, decide_eq_false ha]; rfl)
    clear HE0 U
    go_enter Tryz.func54, Tryz.ntmps54
    go_wp2
    go_ret
    exact ⟨ret_boolE HE.out.symm, Q0.out.fr⟩
set_option maxHeartbeats 1000000 in
theorem mfold_any (q : Qy) (c : Value) (s : Kv) (g : Value) (w : World) (hq : QyS w q c s g) (hs : BgQ q) :
    Calls Tryz.prog 55 #[qyV q c s g] w fun e w' => e = .returned (.bool (foldQ q)) ∧ Fr Non w w' := by
  have Q0 := Lib.hid (Qin.new hq)
  have G := Lib.hid (fun W (h : QyS W q c s g) => gconts_any g q.aggs W h.aggs (by have := hs.aggs; omega) (fun x hx => by have := hs.acol x hx; omega))
  have N := Lib.hid (fun W => sname_any q.by_ W (by have := hs.by_; omega))
  have HE0 : Hid (foldQ q = (decide (0 < q.aggs.length) && (decide (q.aggs.length ≤ 4) && (q.aggs.all agB && (decide (q.cols.length = 0) && (decide (q.by_ = []) || nameB q.by_)))))) := Lib.hid rfl
  have hlc := hs.cols
  have hlg := hs.aggs
  generalize foldQ q = r at *
  generalize q.aggs.all agB = ba at *
  generalize nameB q.by_ = bn at *
  obtain ⟨cA, cc, hce⟩ := hq.cols.shape
  obtain ⟨gA, gc, hge⟩ := hq.aggs.shape
  clear hq hs
  obtain ⟨tab, cols, ⟨⟨wo, wc, wm, ⟨wn, wi, wt⟩, wk, wp⟩, wks⟩, aggs, by_⟩ := q
  obtain ⟨sA, sn, sc⟩ := s
  dsimp only at hce hge
  subst hce
  subst hge
  unfold qyV qyC kidV at *
  dsimp only [Pd.hd, Pd.kids] at *
  by_cases ha : aggs.length = 0
  · have HE : Hid (r = false) := Lib.hid (by rw [HE0.out, decide_eq_false (by omega)]; rfl)
    have ha0 : (aggs.length : Int) ≤ 0 := by omega
    clear HE0 G N ha
    go_enter Tryz.func55, Tryz.ntmps55
    go_wp2
    go_ret
    exact ⟨ret_boolE HE.out.symm, Q0.out.fr⟩
  · by_cases h4 : aggs.length ≤ 4
    · cases ba
      · have HE : Hid (r = false) := Lib.hid (by rw [HE0.out]; simp)
        clear HE0 N
        go_enter Tryz.func55, Tryz.ntmps55
        go_wp2_with fail
        refine (G.out _ Q0.out.sls).mono ?_
        rintro e w1 ⟨rfl, f1⟩
        have Q1 := Lib.hid (Q0.out.non f1)
        clear f1
        go_wp2
        go_ret
        exact ⟨ret_boolE HE.out.symm, Q1.out.fr⟩
      · by_cases hc : cols.length = 0
        · have hcb : ((cols.length : Int) == 0) = true := by rw [beq_iff_eq]; omega
          by_cases hb : by_ = []
          · have HE : Hid (r = true) := Lib.hid (by rw [HE0.out, decide_eq_true (show 0 < aggs.length by omega), decide_eq_true h4, decide_eq_true hc, decide_eq_true hb]; rfl)
            clear HE0 N hc
            subst hb
            go_enter Tryz.func55, Tryz.ntmps55
            go_wp2_with fail
            refine (G.out _ Q0.out.sls).mono ?_
            rintro e w1 ⟨rfl, f1⟩
            have Q1 := Lib.hid (Q0.out.non f1)
            clear f1
            obtain ⟨g0, g1, g2, g3, g4, g5, g6, g7, g8, g9, g10, g11, g12⟩ := Q1.out.cells
            dsimp only [Pd.hd, Pd.kids] at g0 g1 g2 g3 g4 g5 g6 g7 g8 g9 g10 g11 g12
            go_wp2
            go_ret
            exact ⟨ret_boolE HE.out.symm, Q1.out.fr⟩
          · have hbb : (by_ == []) = false := by rw [beq_eq_false_iff_ne]; exact hb
            have HE : Hid (r = bn) := Lib.hid (by rw [HE0.out, decide_eq_true (show 0 < aggs.length by omega), decide_eq_true h4, decide_eq_true hc, decide_eq_false hb]; rfl)
            clear HE0 hb hc
            go_enter Tryz.func55, Tryz.ntmps55
            go_wp2_with fail
            refine (G.out _ Q0.out.sls).mono ?_
            rintro e w1 ⟨rfl, f1⟩
            have Q1 := Lib.hid (Q0.out.non f1)
            clear f1
            obtain ⟨g0, g1, g2, g3, g4, g5, g6, g7, g8, g9, g10, g11, g12⟩ := Q1.out.cells
            dsimp only [Pd.hd, Pd.kids] at g0 g1 g2 g3 g4 g5 g6 g7 g8 g9 g10 g11 g12
            go_wp2_with fail
            refine (N.out _).mono ?_
            rintro e w2 ⟨rfl, f2⟩
            go_wp2
            go_ret
            exact ⟨ret_boolE HE.out.symm, Q1.out.fr.trans f2⟩
        · have hcb : ((cols.length : Int) == 0) = false := by rw [beq_eq_false_iff_ne]; omega
          have HE : Hid (r = false) := Lib.hid (by rw [HE0.out, decide_eq_false hc]; simp)
          clear HE0 N hc
          go_enter Tryz.func55, Tryz.ntmps55
          go_wp2_with fail
          refine (G.out _ Q0.out.sls).mono ?_
          rintro e w1 ⟨rfl, f1⟩
          have Q1 := Lib.hid (Q0.out.non f1)
          clear f1
          obtain ⟨g0, g1, g2, g3, g4, g5, g6, g7, g8, g9, g10, g11, g12⟩ := Q1.out.cells
          dsimp only [Pd.hd, Pd.kids] at g0 g1 g2 g3 g4 g5 g6 g7 g8 g9 g10 g11 g12
          go_wp2
          go_ret
          exact ⟨ret_boolE HE.out.symm, Q1.out.fr⟩
    · have HE : Hid (r = false) := Lib.hid (by rw [HE0.out, decide_eq_false h4]; simp)
      clear HE0 G N
      go_enter Tryz.func55, Tryz.ntmps55
      go_wp2
      go_ret
      exact ⟨ret_boolE HE.out.symm, Q0.out.fr⟩
set_option maxHeartbeats 2000000 in
theorem qmay_big (q : Qy) (c : Value) (s : Kv) (g : Value) (w : World) (hq : QyS w q c s g) (hs : BgQ q) :
    Calls Tryz.prog 36 #[qyV q c s g] w fun e w' => e = .returned (.bool (mayQ q)) ∧ Fr Non w w' := by
  have Q0 := Lib.hid (Qin.new hq)
  have N := Lib.hid (fun W => sname_any q.tab W (by have := hs.tab; omega))
  have P := Lib.hid (fun W (h : QyS W q c s g) => pmay_big q.whr.hd s q.whr.kids W h.kids h.num (by rw [← Pd.eta]; exact hs.lens) (by rw [← Pd.eta]; exact hs.deep))
  rw [← Pd.eta] at P
  have A1 := Lib.hid (fun W (h : QyS W q c s g) => mplain_any q c s g W h hs)
  have A2 := Lib.hid (fun W (h : QyS W q c s g) => mfold_any q c s g W h hs)
  have HE : Hid (mayQ q = (nameB q.tab && (mayP q.whr && (plainQ q || foldQ q)))) := Lib.hid rfl
  generalize mayQ q = r at *
  generalize nameB q.tab = b1 at *
  generalize mayP q.whr = b2 at *
  generalize plainQ q = b3 at *
  generalize foldQ q = b4 at *
  unfold pdV pdC at P
  obtain ⟨cA, cc, hce⟩ := hq.cols.shape
  obtain ⟨gA, gc, hge⟩ := hq.aggs.shape
  clear hq hs
  obtain ⟨tab, cols, ⟨⟨wo, wc, wm, ⟨wn, wi, wt⟩, wk, wp⟩, wks⟩, aggs, by_⟩ := q
  obtain ⟨sA, sn, sc⟩ := s
  dsimp only at hce hge
  subst hce
  subst hge
  unfold qyV qyC kidV at *
  dsimp only [Pd.hd, Pd.kids] at *
  go_enter Tryz.func36, Tryz.ntmps36
  go_wp2_with fail
  refine (N.out _).mono ?_
  rintro e w1 ⟨rfl, f1⟩
  have Q1 := Lib.hid (Q0.out.non f1)
  clear f1
  obtain ⟨g0, g1, g2, g3, g4, g5, g6, g7, g8, g9, g10, g11, g12⟩ := Q1.out.cells
  dsimp only [Pd.hd, Pd.kids] at g0 g1 g2 g3 g4 g5 g6 g7 g8 g9 g10 g11 g12
  cases b1
  · go_wp2
    go_ret
    exact ⟨ret_boolE HE.out.symm, Q1.out.fr⟩
  · go_wp2_with fail
    refine (P.out _ Q1.out.sls).mono ?_
    rintro e w2 ⟨rfl, f2⟩
    have Q2 := Lib.hid (Q1.out.non f2)
    clear f2
    clear g0 g1 g2 g3 g4 g5 g6 g7 g8 g9 g10 g11 g12
    obtain ⟨g0, g1, g2, g3, g4, g5, g6, g7, g8, g9, g10, g11, g12⟩ := Q2.out.cells
    dsimp only [Pd.hd, Pd.kids] at g0 g1 g2 g3 g4 g5 g6 g7 g8 g9 g10 g11 g12
    cases b2
    · go_wp2
      go_ret
      exact ⟨ret_boolE HE.out.symm, Q2.out.fr⟩
    · go_wp2_with fail
      refine (A1.out _ Q2.out.sls).mono ?_
      rintro e w3 ⟨rfl, f3⟩
      have Q3 := Lib.hid (Q2.out.non f3)
      clear f3
      clear g0 g1 g2 g3 g4 g5 g6 g7 g8 g9 g10 g11 g12
      obtain ⟨g0, g1, g2, g3, g4, g5, g6, g7, g8, g9, g10, g11, g12⟩ := Q3.out.cells
      dsimp only [Pd.hd, Pd.kids] at g0 g1 g2 g3 g4 g5 g6 g7 g8 g9 g10 g11 g12
      cases b3
      · go_wp2_with fail
        refine (A2.out _ Q3.out.sls).mono ?_
        rintro e w4 ⟨rfl, f4⟩
        have Q4 := Lib.hid (Q3.out.non f4)
        clear f4
        go_wp2
        go_ret
        exact ⟨ret_boolE HE.out.symm, Q4.out.fr⟩
      · go_wp2
        go_ret
        exact ⟨ret_boolE HE.out.symm, Q3.out.fr⟩
theorem qmay_any (q : Qy) (c : Value) (s : Kv) (g : Value) (w : World) (hq : QyS w q c s g) (hs : SmQ q) :
    Calls Tryz.prog 36 #[qyV q c s g] w fun e w' => e = .returned (.bool (mayQ q)) ∧ Fr Non w w' := qmay_big q c s g w hq hs.big
end Go.Proofs.YtjcfjjhhbcgcmaaGreat

namespace Go.Proofs.YtjcfjjhhbcgcmaaGreat
open Go.RowKit
theorem cloneS_any (v : Value) (l : List Tx) (w : World) (h : Vs sv w v l) (hl : l.length < 1000000000) :
    Calls Tryz.prog 89 #[v] w fun e w' => ∃ u, e = .returned u ∧ Ow sv 9 w' w.heap.size u l ∧ Fr Non w w' := by
  have HB := Lib.hid h
  have hq := fun (W : World) (a : Option Addr) (n c : Nat) => Lib.run_eql_slice_nil (P := Tryz.prog) W 23 9 a n c 0 0 Tryz.underlying23
  obtain ⟨A, c, rfl, hlc, hn, _⟩ := h
  cases A with
  | none =>
    have hc : c = 0 := hn rfl
    subst hc
    have hl0 : l = [] := List.eq_nil_of_length_eq_zero (by omega)
    subst hl0
    go_enter Tryz.func89, Tryz.ntmps89
    go_wp2
    go_ret
    exact ⟨_, rfl, ow_nil _ _, Fr.refl _ _⟩
  | some a =>
    clear hn
    go_enter Tryz.func89, Tryz.ntmps89
    go_wp2_with (at_builtin; refine wpList_appG el_str sv_one rfl (.tmp 5) (.tmp 6) rfl w.heap.size (.slice (some ⟨w.heap.size, 0, none⟩) 0 0) (.slice (some a) l.length c) [] l rfl (ow_lit0 _ _ _ rfl (Nat.le_refl _)) rfl (HB.out.non ((Fr.refl _ _).alloc _)) (by simp; omega) (by simp) ?_; intro v3 w3 hown hf3)
    go_ret
    refine ⟨_, rfl, by simpa using hown, ((Fr.refl Non w).alloc _).fresh hf3 (fun k hk => by simp [Value.ownBlock] at hk; omega)⟩
theorem wants_any (q : Qy) (c : Value) (s : Kv) (g : Value) (w : World) (hq : QyS w q c s g) (hs : SmQ q) :
    Calls Tryz.prog 87 #[qyV q c s g] w fun e w' => e = .returned (.bool (allQ q)) ∧ Fr Non w w' := by
  have Q0 := Lib.hid (Qin.new hq)
  have HE0 : Hid (allQ q = (decide (q.cols.length = 0) && decide (q.aggs.length = 0))) := Lib.hid rfl
  have hlc := hs.cols
  have hlg := hs.aggs
  generalize allQ q = r at *
  obtain ⟨cA, cc, hce⟩ := hq.cols.shape
  obtain ⟨gA, gc, hge⟩ := hq.aggs.shape
  clear hq hs
  obtain ⟨tab, cols, ⟨⟨wo, wc, wm, ⟨wn, wi, wt⟩, wk, wp⟩, wks⟩, aggs, by_⟩ := q
  obtain ⟨sA, sn, sc⟩ := s
  dsimp only at hce hge
  subst hce
  subst hge
  unfold qyV qyC kidV at *
  dsimp only [Pd.hd, Pd.kids] at *
  by_cases hc : cols.length = 0
  · have hcb : ((cols.length : Int) == 0) = true := by rw [beq_iff_eq]; omega
    by_cases hg : aggs.length = 0
    · have hgb : ((aggs.length : Int) == 0) = true := by rw [beq_iff_eq]; omega
      have HE : Hid (r = true) := Lib.hid (by rw [HE0.out, decide_eq_true hc, decide_eq_true hg]; rfl)
      clear HE0 hc hg
      go_enter Tryz.func87, Tryz.ntmps87
      go_wp2
      go_ret
      exact ⟨ret_boolE HE.out.symm, Q0.out.fr⟩
    · have hgb : ((aggs.length : Int) == 0) = false := by rw [beq_eq_false_iff_ne]; omega
      have HE : Hid (r = false) := Lib.hid (by rw [HE0.out, decide_eq_true hc, decide_eq_false hg]; rfl)
      clear HE0 hc hg
      go_enter Tryz.func87, Tryz.ntmps87
      go_wp2
      go_ret
      exact ⟨ret_boolE HE.out.symm, Q0.out.fr⟩
  · have hcb : ((cols.length : Int) == 0) = false := by rw [beq_eq_false_iff_ne]; omega
    have HE : Hid (r = false) := Lib.hid (by rw [HE0.out, decide_eq_false hc]; rfl)
    clear HE0 hc
    go_enter Tryz.func87, Tryz.ntmps87
    go_wp2
    go_ret
    exact ⟨ret_boolE HE.out.symm, Q0.out.fr⟩
end Go.Proofs.YtjcfjjhhbcgcmaaGreat

namespace Go.Proofs.YtjcfjjhhbcgcmaaGreat
open Go.RowKit Go.Maps
def cntU : List Tx → Nat
  | [] => 0
  | y :: r => if y ∈ r then cntU r else cntU r + 1
theorem cntU_le (l : List Tx) : cntU l ≤ l.length := by
  induction l with
  | nil => exact Nat.le_refl _
  | cons y r ih =>
    unfold cntU
    rw [List.length_cons]
    split <;> omega
theorem cntU_all (l : List Tx) : cntU l = l.length ↔ l.Nodup := by
  induction l with
  | nil => simp [cntU]
  | cons y r ih =>
    have := cntU_le r
    unfold cntU
    rw [List.length_cons, List.nodup_cons]
    split
    · rename_i h
      constructor
      · intro e; omega
      · intro e; exact absurd h e.1
    · rename_i h
      rw [← ih]
      constructor
      · intro e; exact ⟨h, by omega⟩
      · intro e; omega
def MapS (w : World) (b n : Nat) (ks : List Tx) : Prop :=
  ∃ D : DataW Unit, w.ownsMap Tryz.prog 9 (plainElem Tryz.prog 3) b n D ∧ (∀ x, has D (.string x) = decide (x ∈ ks)) ∧ Maps.size D = cntU ks
theorem MapS.lt {w : World} {b n : Nat} {ks : List Tx} (h : MapS w b n ks) : b < w.heap.size := by
  obtain ⟨D, h1, _⟩ := h; exact h1.lt
theorem MapS.fr {S : Nat → Prop} {w w' : World} {b n : Nat} {ks : List Tx} (h : MapS w b n ks) (hf : Fr S w w') (hn : ¬ S b) : MapS w' b n ks := by
  obtain ⟨D, h1, h2, h3⟩ := h
  have hlt := h1.lt
  obtain ⟨es, clock, hb, F, hs, hD⟩ := h1
  exact ⟨D, ⟨es, clock, (hf.block b hlt hn).trans hb, F, hs, hD⟩, h2, h3⟩
theorem MapS.made (w : World) : MapS (w.alloc (.map #[] 0)) w.heap.size 0 [] :=
  ⟨.map [], World.ownsMap_made w _ _ _, fun x => by simp [has], rfl⟩
theorem keyLitS (x : Tx) : WideAt.IsKeyLit (.string x) := trivial
theorem keyStrS {x : Tx} (hx : x.length ≤ maxLen) : keyOf Tryz.prog 9 (.string ⟨x.toArray⟩) = some (.string x) := by
  have := Go.WideMaps.keyOf_string_mk (P := Tryz.prog) Tryz.underlying9 (s := ⟨x.toArray⟩) (by simpa [ByteArray.size] using hx)
  simpa using this
theorem MapS.put {w w' : World} {b n : Nat} {ks : List Tx} {D : DataW Unit} (h1 : w.ownsMap Tryz.prog 9 (plainElem Tryz.prog 3) b n D) (h2 : ∀ x, has D (.string x) = decide (x ∈ ks)) (h3 : Maps.size D = cntU ks)
    (y : Tx) (v : Int) (h : w'.ownsMap Tryz.prog 9 (plainElem Tryz.prog 3) b (n + 1) (D.put (.string y) (.lit (.int .i64 v)))) : MapS w' b (n + 1) (y :: ks) := by
  have hm := h1.isMap
  refine ⟨_, h, fun x => ?_, ?_⟩
  · by_cases he : x = y
    · subst he; rw [has_put_same hm (keyLitS x)]; simp
    · rw [has_put_other (by simpa using he), h2]; simp [he]
  · rw [Maps.size_put (h1.tidy (string_keyed Tryz.underlying9)), h2, h3]
    rw [show cntU (y :: ks) = if y ∈ ks then cntU ks else cntU ks + 1 from rfl]
    by_cases hy : y ∈ ks <;> simp [hy]
theorem wpList_putS (w : World) {ops : Array Oper} {rest : List Oper} {o : Oper} {a : Act} {Q : Exit → Act → World → Prop} (hg : o.guard = none) (m x v : Operand) (hop : o.op = Op.mapUpdate 111 m x v)
    (b n : Nat) (ks : List Tx) (hm : a.eval m = .map (some b)) (hown : MapS w b n ks) (hn : n ≤ 1000000000) (y : Tx) (z : Int) (hx : a.eval x = .string ⟨y.toArray⟩) (hv : a.eval v = .int .i64 z)
    (hy : y.length ≤ 9223372036854775807) (hz1 : -9223372036854775808 ≤ z) (hz2 : z ≤ 9223372036854775807)
    (hK : ∀ w', MapS w' b (n + 1) (y :: ks) → Fr (One b) w w' → wpList Tryz.prog ops Q rest (a.put o.dst undef) w') : wpList Tryz.prog ops Q (o :: rest) a w := by
  obtain ⟨D, h1, h2, h3⟩ := hown
  refine wpList_mapUpdate_own w hg m x v 111 hop 9 3 (string_keyed Tryz.underlying9) Tryz.underlying111 _ b n D hm h1 (by unfold maxLen; omega) _ _ (.string y) hx hv (keyStrS (by simpa [maxLen] using hy)) (.lit (.int .i64 z)) [] (plainElem_int Tryz.underlying3 (WalkArith.wf_i64 ⟨hz1, hz2⟩)) ?_
  intro w' hw' hg'
  exact hK w' (MapS.put h1 h2 h3 y z hw') ((Fr.of_grown hg').mono fun k _ e => by simpa [One, eq_comm] using e)
theorem MapS.len {w : World} {b n : Nat} {ks : List Tx} (h : MapS w b n ks) (ty : TypeId) : (Builtin.len_ #[111] ty #[.map (some b)]).run Tryz.prog w = .ok (.int .i64 (cntU ks)) w := by
  obtain ⟨D, h1, h2, h3⟩ := h
  rw [← h3]
  exact h1.len Tryz.underlying111 ty
end Go.Proofs.YtjcfjjhhbcgcmaaGreat

namespace Go.Proofs.YtjcfjjhhbcgcmaaGreat
open Go.RowKit
theorem mayC_nullT (ty : Int) : mayC ty true ⟨true, 0, []⟩ = isTy ty := by rw [mayC_null]; simp [ceq]
theorem ktype_any (ty : Int) (w : World) : Calls Tryz.prog 86 #[.int .i64 ty] w fun e w' => e = .returned (.bool (isTy ty)) ∧ Fr Non w w' := by
  have M := fun W => may_any ty true ⟨true, 0, []⟩ W
  rw [mayC_nullT] at M
  unfold clV clC at M
  dsimp only at M
  go_enter Tryz.func86, Tryz.ntmps86
  go_wp2_with fail
  refine (M _).mono ?_
  rintro e w1 ⟨rfl, f1⟩
  go_wp2
  go_ret
  exact ⟨rfl, f1⟩
theorem maynot_any (c : Co) (w : World) (hc : c.name.length ≤ 1000000000) : Calls Tryz.prog 57 #[coV c] w fun e w' => e = .returned (.bool (badC c)) ∧ Fr Non w w' := by
  obtain ⟨n, ty, nl⟩ := c
  have M := fun W => sname_any n W hc
  have T := fun W => ktype_any ty W
  have b0 := co_new w ⟨n, ty, nl⟩
  have g0 : _ = _ := b0.cell 0
  simp at g0
  unfold badC coV coC
  dsimp only
  cases hn : nameB n
  · simp only [hn] at M
    replace M := Lib.hid M
    clear T
    go_enter Tryz.func57, Tryz.ntmps57
    go_wp2_with fail
    refine (M.out _).mono ?_
    rintro e w1 ⟨rfl, f1⟩
    go_wp2
    go_ret
    exact ⟨rfl, ((Fr.refl _ _).alloc _).trans f1⟩
  · simp only [hn] at M
    replace M := Lib.hid M
    replace T := Lib.hid T
    replace b0 : Hid (CoB _ _ _) := Lib.hid b0
    go_enter Tryz.func57, Tryz.ntmps57
    go_wp2_with fail
    refine (M.out _).mono ?_
    rintro e w1 ⟨rfl, f1⟩
    have g1 := (b0.out.fr f1 (fun e => e)).cell 1
    simp at g1
    go_wp2_with fail
    refine (T.out _).mono ?_
    rintro e w2 ⟨rfl, f2⟩
    go_wp2
    go_ret
    exact ⟨ret_boolE (by simp), (((Fr.refl _ _).alloc _).trans f1).trans f2⟩
theorem idx_any (v : Value) (l : List Co) (w : World) (hv : Ks w v l) (hl : l.length ≤ 1000000000) (hb : ∀ c ∈ l, c.name.length ≤ 1000000000) :
    Calls Tryz.prog 85 #[v, .func (.func 57) #[] #[]] w fun e w' => ∃ z : Int, e = .returned (.int .i64 z) ∧ decide (0 ≤ z) = l.any badC ∧ Fr Non w w' := by
  obtain ⟨A, c, rfl, hlc, hn, hcell⟩ := hv
  have HC := Lib.hid hcell
  have HN := Lib.hid hn
  have HB := Lib.hid hb
  clear hcell hn hb
  go_enter Tryz.func85, Tryz.ntmps85
  go_wp2
  go_loopw [8] (fun i wr => ∃ (k : Nat), k ≤ l.length ∧ i = .int .i64 k ∧ Hid ((l.take k).any badC = false) ∧ Fr Non w wr) (fun i _ => l.length - (intOf i).toNat)
  case atStart => exact ⟨0, Nat.zero_le _, rfl, Lib.hid rfl, Fr.refl _ _⟩
  case round =>
    obtain ⟨k, hk, rfl, hne, hfr⟩ := hrel
    by_cases hlt : k < l.length
    · cases A with
      | none => have := HN.out rfl; omega
      | some a =>
        obtain ⟨hc0, hc1, hc2⟩ := co_lit ((HC.out a rfl k hlt).non hfr)
        have HY := Lib.hid (fun h => any_more hlt hne.out h)
        have HX : Hid (badC l[k] = true → l.any badC = true) := Lib.hid (fun h => List.any_eq_true.2 ⟨_, List.getElem_mem hlt, h⟩)
        have M := fun W => maynot_any l[k] W (HB.out _ (List.getElem_mem hlt))
        clear hne
        generalize l[k] = x at *
        obtain ⟨xn, xt, xb⟩ := x
        unfold coV coC at M
        dsimp only at hc0 hc1 hc2 HY HX M
        have HF := Lib.hid hfr
        clear hfr
        cases hx : badC ⟨xn, xt, xb⟩
        · have HE := Lib.hid (HY.out hx)
          simp only [hx] at M
          replace M := Lib.hid M
          clear HX HY hx
          go_wp2_with fail
          refine (M.out _).mono ?_
          rintro e w2 ⟨rfl, f2⟩
          go_wp2
          go_roundw
          case rel => exact ⟨k + 1, by omega, by go_num, HE, HF.out.trans f2⟩
          case measure => simp [intOf]; omega
        · have HE := Lib.hid (HX.out hx)
          simp only [hx] at M
          replace M := Lib.hid M
          clear HX HY hx
          go_wp2_with fail
          refine (M.out _).mono ?_
          rintro e w2 ⟨rfl, f2⟩
          go_wp2
          go_ret
          exact ⟨_, rfl, by rw [HE.out]; exact decide_eq_true (by omega), HF.out.trans f2⟩
    · have HE : Hid (l.any badC = false) := Lib.hid (by have := hne.out; rwa [List.take_of_length_le (by omega)] at this)
      clear hne
      go_wp2
      go_ret
      exact ⟨_, rfl, by rw [HE.out]; rfl, hfr⟩
theorem contains_any (v : Value) (l : List Co) (w : World) (hv : Ks w v l) (hl : l.length ≤ 1000000000) (hb : ∀ c ∈ l, c.name.length ≤ 1000000000) :
    Calls Tryz.prog 56 #[v, .func (.func 57) #[] #[]] w fun e w' => e = .returned (.bool (l.any badC)) ∧ Fr Non w w' := by
  have h0 := Lib.hid (idx_any v l w hv hl hb)
  clear hv hb
  go_enter Tryz.func56, Tryz.ntmps56
  go_wp2_with fail
  refine h0.out.mono ?_
  rintro e w1 ⟨z, rfl, hz, f1⟩
  go_wp2
  go_ret
  exact ⟨rfl, f1⟩
def nmsR (l : List Co) (k : Nat) : List Tx := (namesC (l.take k)).reverse
theorem nmsR_more {l : List Co} {k : Nat} (h : k < l.length) : nmsR l (k + 1) = l[k].name :: nmsR l k := by
  unfold nmsR namesC
  rw [List.take_succ_eq_append_getElem h, List.map_append, List.reverse_append]; rfl
theorem nmsR_all {l : List Co} {k : Nat} (h : k = l.length) : decide ((cntU (nmsR l k) : Int) = l.length) = decide ((namesC l).Nodup) := by
  subst h
  unfold nmsR
  rw [List.take_length]
  have h1 := cntU_all (namesC l).reverse
  rw [List.length_reverse, (List.reverse_perm (namesC l)).nodup_iff] at h1
  have h2 : (namesC l).length = l.length := by unfold namesC; rw [List.length_map]
  rw [h2] at h1
  rw [decide_eq_decide, ← h1]
  omega
set_option maxHeartbeats 1000000 in
theorem unlike_any (v : Value) (l : List Co) (w : World) (hv : Ks w v l) (hl : l.length ≤ 1000000000) (hb : ∀ c ∈ l, c.name.length ≤ 1000000000) :
    Calls Tryz.prog 58 #[v] w fun e w' => e = .returned (.bool (decide ((namesC l).Nodup))) ∧ Fr Non w w' := by
  obtain ⟨A, c, rfl, hlc, hn, hcell⟩ := hv
  have HC := Lib.hid hcell
  have HN := Lib.hid hn
  have HB := Lib.hid hb
  clear hcell hn hb
  have hmm := @run_makeMap Tryz.prog
  go_enter Tryz.func58, Tryz.ntmps58
  go_wp2
  have hm0 := MapS.made w
  have hf0 : Fr Non w (w.alloc (.map #[] 0)) := (Fr.refl _ _).alloc _
  go_loopw [9] (fun i wr => ∃ (k : Nat), k ≤ l.length ∧ i = .int .i64 k ∧ MapS wr w.heap.size k (nmsR l k) ∧ Fr Non w wr) (fun i _ => l.length - (intOf i).toNat)
  case atStart => exact ⟨0, Nat.zero_le _, rfl, hm0, hf0⟩
  case round =>
    clear hm0 hf0
    obtain ⟨k, hk, rfl, hm, hfr⟩ := hrel
    by_cases hlt : k < l.length
    · cases A with
      | none => have := HN.out rfl; omega
      | some a =>
        obtain ⟨hc0, hc1, hc2⟩ := co_lit ((HC.out a rfl k hlt).non hfr)
        have HM := Lib.hid (nmsR_more hlt)
        have hxl := HB.out _ (List.getElem_mem hlt)
        generalize l[k] = x at *
        obtain ⟨xn, xt, xb⟩ := x
        dsimp only at hc0 hc1 hc2 HM hxl
        have f1 := (Fr.refl Non wr).alloc (.cells #[.string ⟨xn.toArray⟩, .int .i64 xt, .bool xb] 56)
        have hm1 := Lib.hid (hm.fr f1 (fun e => e))
        have HF := Lib.hid (hfr.trans f1)
        have g0 := (co_new wr ⟨xn, xt, xb⟩).cell 0
        simp at g0
        clear hm hfr f1
        go_wp2_with (at_mapUpdate; refine wpList_putS _ rfl _ _ _ rfl w.heap.size k (nmsR l k) rfl hm1.out (by omega) xn (k : Int) rfl rfl (by omega) (by omega) (by omega) ?_; intro w1 hm2 hf2)
        go_roundw
        case rel => exact ⟨k + 1, by omega, by go_num, by rw [HM.out]; exact hm2, HF.out.fresh hf2 (fun q hq => by have : q = w.heap.size := hq; omega)⟩
        case measure => simp [intOf]; omega
    · have HE := Lib.hid (nmsR_all (l := l) (k := k) (by omega))
      have hlen := fun ty => hm.len ty
      clear hm
      go_wp2
      go_ret
      exact ⟨ret_boolE HE.out, hfr⟩
set_option maxHeartbeats 1000000 in
theorem scheck_any (v : Value) (l : List Co) (w : World) (hv : Ks w v l) (hl : l.length ≤ 1000000000) (hb : ∀ c ∈ l, c.name.length ≤ 1000000000) :
    Calls Tryz.prog 37 #[v] w fun e w' => e = .returned (.int .i64 (chkC l)) ∧ Fr Non w w' := by
  obtain ⟨A, c, rfl⟩ := hv.shape
  have HV := Lib.hid hv
  have C1 := Lib.hid (contains_any _ l w hv hl hb)
  have U1 := fun W h => unlike_any (.slice A l.length c) l W h hl hb
  replace U1 := Lib.hid U1
  clear hv hb
  by_cases h0 : l.length = 0
  · have H := Lib.hid (chk_none h0)
    go_enter Tryz.func37, Tryz.ntmps37
    go_wp2
    go_ret
    exact ⟨ret_int H.out.symm, Fr.refl _ _⟩
  · have h0b : ((l.length : Int) == 0) = false := by rw [beq_eq_false_iff_ne]; omega
    have H0 := Lib.hid h0
    clear h0
    cases ha : l.any badC
    · have HA := Lib.hid ha
      rw [ha] at C1
      clear ha
      by_cases hd : (namesC l).Nodup
      · have HD := Lib.hid hd
        rw [decide_eq_true hd] at U1
        clear hd
        by_cases h6 : 6 < l.length
        · have H := Lib.hid (chk_many H0.out HA.out HD.out h6)
          go_enter Tryz.func37, Tryz.ntmps37
          go_wp2_with fail
          refine C1.out.mono ?_
          rintro e w1 ⟨rfl, f1⟩
          go_wp2_with fail
          refine (U1.out _ (HV.out.non f1)).mono ?_
          rintro e w2 ⟨rfl, f2⟩
          go_wp2
          go_ret
          exact ⟨ret_int H.out.symm, f1.trans f2⟩
        · have H := Lib.hid (chk_ok H0.out HA.out HD.out h6)
          go_enter Tryz.func37, Tryz.ntmps37
          go_wp2_with fail
          refine C1.out.mono ?_
          rintro e w1 ⟨rfl, f1⟩
          go_wp2_with fail
          refine (U1.out _ (HV.out.non f1)).mono ?_
          rintro e w2 ⟨rfl, f2⟩
          go_wp2
          go_ret
          exact ⟨ret_int H.out.symm, f1.trans f2⟩
      · have H := Lib.hid (chk_dup hd)
        rw [decide_eq_false hd] at U1
        clear hd
        go_enter Tryz.func37, Tryz.ntmps37
        go_wp2_with fail
        refine C1.out.mono ?_
        rintro e w1 ⟨rfl, f1⟩
        go_wp2_with fail
        refine (U1.out _ (HV.out.non f1)).mono ?_
        rintro e w2 ⟨rfl, f2⟩
        go_wp2
        go_ret
        exact ⟨ret_int H.out.symm, f1.trans f2⟩
    · have H := Lib.hid (chk_any ha)
      rw [ha] at C1
      clear ha
      go_enter Tryz.func37, Tryz.ntmps37
      go_wp2_with fail
      refine C1.out.mono ?_
      rintro e w1 ⟨rfl, f1⟩
      go_wp2
      go_ret
      exact ⟨ret_int H.out.symm, f1⟩
end Go.Proofs.YtjcfjjhhbcgcmaaGreat

namespace Go.Proofs.YtjcfjjhhbcgcmaaGreat
open Go.RowKit
theorem okS_nil {cols : List Co} {h : Ph} (e : h.col = []) : okT cols h = true := by unfold okT; rw [if_pos e]
theorem okS_none {cols : List Co} {h : Ph} (e : ¬ h.col = []) (f : findC cols h.col = none) : okT cols h = false := by unfold okT; rw [if_neg e, f]
theorem okS_some {cols : List Co} {h : Ph} {k : Nat} (e : ¬ h.col = []) (f : findC cols h.col = some k) (hk : k < cols.length) : okT cols h = if h.op = 2 then cols[k].ty == h.kind else if h.op = 4 then cols[k].ty == 3 else true := by
  unfold okT; rw [if_neg e, f]
  simp [hk]
theorem Ks.findS {w : World} {A : Option Addr} {n c : Nat} {cols : List Co} (h : Ks w (.slice A n c) cols) (k : Nat) (hk : k < cols.length) :
    ∃ a, A = some a ∧ n = cols.length ∧ w.cell? { block := (a.add (k * 3)).block, off := (a.add (k * 3)).off + 1 } = some (.int .i64 cols[k].ty) := by
  have hnl : n = cols.length := by
    obtain ⟨A0, c0, he⟩ := h.shape
    simp only [Value.slice.injEq] at he
    exact he.2.1
  obtain ⟨a, ha, hn, _, hc⟩ := Ns.addr h (by omega)
  exact ⟨a, ha, hn, (co_lit (hc k hk)).2.1⟩
set_option maxHeartbeats 4000000 in
theorem suits_any (cols : List Co) (hcl : cols.length ≤ 1000) (v : Value) (h : Ph) (t : Kv) (w : World) (hv : Ks w v cols) :
    Calls Tryz.prog 61 #[v, pdV h t] w fun e w' => e = .returned (.bool (okT cols h)) ∧ Fr Non w w' := by
  have F0 : Fr Non w (w.alloc (.cells (pdC h t) 28)) := (Fr.refl Non w).alloc _
  have HB := Lib.hid (pd_new w _ h t rfl)
  have FC := Lib.hid (fun W hw => sfind_any v cols h.col W hw (by omega))
  have HO1 := Lib.hid (fun e => okS_nil (cols := cols) (h := h) e)
  have HO2 := Lib.hid (fun e f => okS_none (cols := cols) (h := h) e f)
  have HO3 := Lib.hid (fun k e f hk => okS_some (cols := cols) (h := h) (k := k) e f hk)
  have HFL := Lib.hid (fun k (e : findC cols h.col = some k) => find_lt e)
  obtain ⟨vA, vc, hve⟩ := hv.shape
  have HV : Hid (Ks _ v cols) := Lib.hid (hv.non F0)
  have HF := Lib.hid F0
  clear F0 hv
  obtain ⟨ho, hc, hm, ⟨vn, vi, vt⟩, hkd, hp⟩ := h
  obtain ⟨A, n, c⟩ := t
  dsimp only at HO1 HO2 HO3 FC HFL
  unfold pdV
  unfold pdC kidV
  dsimp only
  subst hve
  generalize okT cols _ = r at *
  by_cases h0 : hc = []
  · subst h0
    have HE := Lib.hid (HO1.out rfl)
    clear HO1 HO2 HO3 FC HFL
    go_enter Tryz.func61, Tryz.ntmps61
    go_wp2
    go_ret
    exact ⟨ret_boolE HE.out.symm, HF.out⟩
  · have hb : (hc == []) = false := by rw [beq_eq_false_iff_ne]; exact h0
    cases hf : findC cols hc with
    | none =>
      have HE := Lib.hid (HO2.out h0 hf)
      simp only [hf] at FC
      clear HO1 HO2 HO3 HFL hf h0
      go_enter Tryz.func61, Tryz.ntmps61
      go_wp2_with fail
      refine (FC.out _ HV.out).mono ?_
      rintro e w1 ⟨rfl, f1⟩
      unfold findV
      go_wp2
      go_ret
      exact ⟨ret_boolE HE.out.symm, HF.out.trans f1⟩
    | some q =>
      have hql := HFL.out q hf
      have HO4 := Lib.hid (HO3.out q h0 hf hql)
      simp only [hf] at FC
      clear HO1 HO2 HO3 HFL hf h0
      have hqn : ((q : Int) < 0) = False := by simp
      by_cases h2 : ho = 2
      · subst h2
        have HE : Hid (r = (cols[q].ty == hkd)) := Lib.hid (by rw [HO4.out, if_pos rfl])
        clear HO4
        go_enter Tryz.func61, Tryz.ntmps61
        go_wp2_with fail
        refine (FC.out _ HV.out).mono ?_
        rintro e w1 ⟨rfl, f1⟩
        obtain ⟨g0, g1, g2, g3, g4, g5, g6, g7, g8⟩ := pdB_cells (HB.out.fr f1 (fun e => e))
        dsimp only at g0 g1 g2 g3 g4 g5 g6 g7 g8
        obtain ⟨ca, rfl, hcn, hct⟩ := Ks.findS (HV.out.non f1) q hql
        generalize cols[q].ty = ct at *
        have F1 := Lib.hid (HF.out.trans f1)
        clear f1 hcn
        unfold findV
        dsimp only
        go_wp2
        go_quiet (fail)
        go_wp2
        go_ret
        exact ⟨ret_boolE HE.out.symm, F1.out.drewN _⟩
      · by_cases h4 : ho = 4
        · subst h4
          have HE : Hid (r = (cols[q].ty == 3)) := Lib.hid (by rw [HO4.out, if_neg h2, if_pos rfl])
          clear HO4
          go_enter Tryz.func61, Tryz.ntmps61
          go_wp2_with fail
          refine (FC.out _ HV.out).mono ?_
          rintro e w1 ⟨rfl, f1⟩
          obtain ⟨g0, g1, g2, g3, g4, g5, g6, g7, g8⟩ := pdB_cells (HB.out.fr f1 (fun e => e))
          dsimp only at g0 g1 g2 g3 g4 g5 g6 g7 g8
          obtain ⟨ca, rfl, hcn, hct⟩ := Ks.findS (HV.out.non f1) q hql
          generalize cols[q].ty = ct at *
          have F1 := Lib.hid (HF.out.trans f1)
          clear f1 hcn
          unfold findV
          dsimp only
          go_wp2
          go_ret
          exact ⟨ret_boolE HE.out.symm, F1.out⟩
        · have HE : Hid (r = true) := Lib.hid (by rw [HO4.out, if_neg h2, if_neg h4])
          have hb3 : (ho == 2) = false := by rw [beq_eq_false_iff_ne]; exact h2
          have hb4 : (ho == 4) = false := by rw [beq_eq_false_iff_ne]; exact h4
          clear HO4
          go_enter Tryz.func61, Tryz.ntmps61
          go_wp2_with fail
          refine (FC.out _ HV.out).mono ?_
          rintro e w1 ⟨rfl, f1⟩
          obtain ⟨g0, g1, g2, g3, g4, g5, g6, g7, g8⟩ := pdB_cells (HB.out.fr f1 (fun e => e))
          dsimp only at g0 g1 g2 g3 g4 g5 g6 g7 g8
          have F1 := Lib.hid (HF.out.trans f1)
          clear f1
          unfold findV
          dsimp only
          go_wp2
          go_ret
          exact ⟨ret_boolE HE.out.symm, F1.out⟩
def RcT (cols : List Co) (v : Value) (g : Nat) (W : World) (_ : Unit) (X : Nat → Prop) : Prop := Blk W g 22 #[v] ∧ Ks W v cols ∧ X = Non
set_option maxHeartbeats 2000000 in
theorem fits1_any (cols : List Co) (hcl : cols.length ≤ 1000) (v : Value) (w0 : World) (g : Nat) : Asks (RcT cols v g) (stepT cols) 60 g w0 := by
  intro W u X p t d dz hdz hF hr hk hb hlen hdep
  subst hdz
  obtain ⟨h, ks⟩ := p
  obtain ⟨hB, hV, rfl⟩ := hr
  dsimp only [Pd.hd, Pd.kids] at hk hb ⊢
  have F0 : Fr Non W (W.alloc (.cells (pdC h t) 28)) := (Fr.refl Non W).alloc _
  have S1 := Lib.hid (suits_any cols hcl v h t _ (hV.non F0))
  have hc0 := (hB.fr F0 (fun e => e)).cell 0
  have hgl := hB.lt
  have HS : Hid (stepT cols u (.mk h ks) d = bif okT cols h then some () else none) := Lib.hid (by unfold stepT; show (if okT cols h = true then some () else none) = _; cases okT cols h <;> rfl)
  have HB := Lib.hid hB
  have HV := Lib.hid hV
  have HF0 := Lib.hid F0
  obtain ⟨vA, vc, hve⟩ := hV.shape
  simp at hc0
  generalize stepT cols u _ d = r at *
  generalize okT cols h = b at *
  clear hk hlen hdep hB hV F0 hF
  obtain ⟨ho, hc, hm, ⟨vn, vi, vt⟩, hkd, hp⟩ := h
  obtain ⟨A, nn, c⟩ := t
  subst hve
  unfold pdV pdC kidV at S1 ⊢
  unfold pdC kidV at hc0
  dsimp only at S1 hc0 ⊢
  go_enter Tryz.func60, Tryz.ntmps60
  go_wp2_with fail
  refine S1.out.mono ?_
  rintro e w1 ⟨rfl, f1⟩
  go_wp2
  go_ret
  have f2 := HF0.out.trans f1
  refine ⟨by rw [HS.out]; cases b <;> rfl, f2, fun s' hs => ⟨Non, ⟨HB.out.fr f2 (fun e => e), HV.out.non f2, rfl⟩, fun q hq => .inl hq⟩⟩
set_option maxHeartbeats 4000000 in
theorem pfits_big (cols : List Co) (hcl : cols.length ≤ 1000) (hcb : ∀ c ∈ cols, c.name.length ≤ 1000) (v : Value) (h : Ph) (t : Kv) (ks : List Pd) (w : World) (hv : Ks w v cols) (hk : Kd w t ks) (hb : I64b h.val.num) (hlen : bigP (.mk h ks) = true) (hdep : depP (.mk h ks) ≤ 100) :
    Calls Tryz.prog 38 #[v, pdV h t] w fun e w' => e = .returned (.int .i64 (fitP cols (.mk h ks))) ∧ Fr Non w w' := by
  have F0 : Fr Non w ((w.alloc (.cells #[v] 22)).alloc (.cells (pdC h t) 28)) := ((Fr.refl Non w).alloc _).alloc _
  have e1 : (w.alloc (.cells #[v] 22)).heap.size = w.heap.size + 1 := by simp
  have PB := pd_new (w.alloc (.cells #[v] 22)) _ h t rfl
  rw [e1] at PB
  have VB : Blk ((w.alloc (.cells #[v] 22)).alloc (.cells (pdC h t) 28)) w.heap.size 22 #[v] := (Blk.new _ _ _).fr ((Fr.refl Non _).alloc _) (fun e => e)
  have M1 := Lib.hid (fun W hk => pmay_big h t ks W hk hb hlen hdep)
  have C1 := Lib.hid (fun W hv => scheck_any v cols W hv (by omega) (fun c hc => by have := hcb c hc; omega))
  have A1 : Hid (∀ W, Blk W w.heap.size 22 #[v] → Ks W v cols → Fr Non w W → Calls Tryz.prog 59 #[pdV h t, .int .i64 1, .func (.func 60) #[] #[.pointer (some ⟨w.heap.size, 0, none⟩)]] W fun e w' => e = .returned (.bool (typP cols (.mk h ks))) ∧ Fr Non W w') := Lib.hid (fun W hB hV hF => by
    have h0 := all_any (RcT cols v w.heap.size) (stepT cols) 60 w.heap.size w
      (fun W s X hr q hq => by obtain ⟨_, _, rfl⟩ := hr; exact hq.elim)
      (fun W W' s X hr hf => ⟨hr.1.fr hf (fun e => e), hr.2.1.non hf, hr.2.2⟩) Tryz.call60 (fits1_any cols hcl v w w.heap.size) (.mk h ks)
      W () Non t 1 1 rfl hF ⟨hB, hV, rfl⟩ hk hb hlen (by omega)
    refine h0.mono ?_
    rintro e w' ⟨rfl, f1, _⟩
    rw [allT]
    exact ⟨by cases typP cols (.mk h ks) <;> rfl, f1⟩)
  have HE0 : Hid (fitP cols (.mk h ks) = if mayP (.mk h ks) = false ∨ ¬ chkC cols = 0 then 1 else if typP cols (.mk h ks) = true then 0 else 10) := Lib.hid rfl
  have hmf : ∀ (fn : Fn) (first cap : Array Value) (w : World), (Instr.makeFunc fn first cap).run Tryz.prog w = .ok (.func fn first cap) w := fun _ _ _ _ => rfl
  generalize fitP cols (.mk h ks) = r at *
  generalize mayP (.mk h ks) = b1 at *
  generalize typP cols (.mk h ks) = b2 at *
  generalize chkC cols = z at *
  have HK := Lib.hid (hk.non F0)
  have HV : Hid (Ks _ v cols) := Lib.hid (hv.non F0)
  obtain ⟨vA, vc, hve⟩ := hv.shape
  have F0 := Lib.hid F0
  have PB := Lib.hid PB
  have VB := Lib.hid VB
  clear hk hlen hv hdep e1
  obtain ⟨ho, hc, hm, ⟨vn, vi, vt⟩, hkd, hp⟩ := h
  obtain ⟨A, nn, c⟩ := t
  subst hve
  unfold pdV pdC kidV at *
  dsimp only at *
  cases b1
  · have HE : Hid (r = 1) := Lib.hid (by rw [HE0.out, if_pos (.inl rfl)])
    clear HE0 A1
    go_enter Tryz.func38, Tryz.ntmps38
    go_wp2_with fail
    refine (M1.out _ HK.out).mono ?_
    rintro e w1 ⟨rfl, f1⟩
    go_wp2
    go_ret
    exact ⟨ret_int HE.out.symm, F0.out.trans f1⟩
  · go_enter Tryz.func38, Tryz.ntmps38
    go_wp2_with fail
    refine (M1.out _ HK.out).mono ?_
    rintro e w1 ⟨rfl, f1⟩
    have PB1 := Lib.hid (PB.out.fr f1 (fun e => e))
    have VB1 := Lib.hid (VB.out.fr f1 (fun e => e))
    have HV1 : Hid (Ks w1 _ cols) := Lib.hid (HV.out.non f1)
    have F1 := Lib.hid (F0.out.trans f1)
    have c0 := VB1.out.cell 0
    simp at c0
    clear f1 M1 HK HV PB VB F0
    go_wp2_with fail
    refine (C1.out _ HV1.out).mono ?_
    rintro e w2 ⟨rfl, f2⟩
    have PB2 := Lib.hid (PB1.out.fr f2 (fun e => e))
    have VB2 := Lib.hid (VB1.out.fr f2 (fun e => e))
    have HV2 : Hid (Ks w2 _ cols) := Lib.hid (HV1.out.non f2)
    have F2 := Lib.hid (F1.out.trans f2)
    clear f2 C1 PB1 VB1 HV1 F1 c0
    by_cases hz : z = 0
    · subst hz
      have HE : Hid (r = if b2 = true then 0 else 10) := Lib.hid (by rw [HE0.out, if_neg (by simp)])
      obtain ⟨g0, g1, g2, g3, g4, g5, g6, g7, g8⟩ := pdB_cells PB2.out
      dsimp only at g0 g1 g2 g3 g4 g5 g6 g7 g8
      clear HE0
      go_wp2_with fail
      refine (A1.out _ VB2.out HV2.out F2.out).mono ?_
      rintro e w3 ⟨rfl, f3⟩
      cases b2
      · go_wp2
        go_ret
        exact ⟨ret_int HE.out.symm, F2.out.trans f3⟩
      · go_wp2
        go_ret
        exact ⟨ret_int HE.out.symm, F2.out.trans f3⟩
    · have HE : Hid (r = 1) := Lib.hid (by rw [HE0.out, if_pos (.inr hz)])
      have hb : (z != 0) = true := by rw [bne_iff_ne]; exact hz
      clear HE0 A1
      go_wp2
      go_ret
      exact ⟨ret_int HE.out.symm, F2.out⟩
theorem pfits_any (cols : List Co) (hcl : cols.length ≤ 1000) (hcb : ∀ c ∈ cols, c.name.length ≤ 1000) (v : Value) (h : Ph) (t : Kv) (ks : List Pd) (w : World) (hv : Ks w v cols) (hk : Kd w t ks) (hb : I64b h.val.num) (hlen : lenP (.mk h ks) = true) (hdep : depP (.mk h ks) ≤ 9) :
    Calls Tryz.prog 38 #[v, pdV h t] w fun e w' => e = .returned (.int .i64 (fitP cols (.mk h ks))) ∧ Fr Non w w' := pfits_big cols hcl hcb v h t ks w hv hk hb (big_of_len _ hlen) (by omega)
end Go.Proofs.YtjcfjjhhbcgcmaaGreat

namespace Go.Proofs.YtjcfjjhhbcgcmaaGreat
open Go.RowKit
theorem heads_more {l : List Co} {k : Nat} (h : k < l.length) : namesC (l.take (k + 1)) = namesC (l.take k) ++ [l[k].name] := by
  unfold namesC
  rw [List.take_succ_eq_append_getElem h, List.map_append]; rfl
theorem namesC_len (l : List Co) : (namesC l).length = l.length := by unfold namesC; rw [List.length_map]
theorem heads_any (v : Value) (l : List Co) (w : World) (hv : Ks w v l) (hl : l.length ≤ 1000) :
    Calls Tryz.prog 88 #[v] w fun e w' => ∃ u, e = .returned u ∧ Ow sv 9 w' w.heap.size u (namesC l) ∧ Fr Non w w' := by
  obtain ⟨A, c, rfl, hlc, hn, hcell⟩ := hv
  have HC := Lib.hid hcell
  have HN := Lib.hid hn
  clear hcell hn
  have HO0 : Hid (Ow sv 9 w w.heap.size (.slice none 0 0) (namesC (l.take 0))) := Lib.hid (ow_nil _ _)
  go_enter Tryz.func88, Tryz.ntmps88
  go_wp2
  go_loopw [3, 8] (fun u i wr => ∃ k : Nat, k ≤ l.length ∧ i = .int .i64 k ∧ Hid (Ow sv 9 wr w.heap.size u (namesC (l.take k))) ∧ Hid (Fr Non w wr)) (fun _ i _ => l.length - (intOf i).toNat)
  case atStart => exact ⟨0, Nat.zero_le _, rfl, HO0, Lib.hid (Fr.refl _ _)⟩
  case round =>
    clear HO0
    rename_i u i wr
    obtain ⟨k, hk, rfl, HO, FR⟩ := hrel
    obtain ⟨uA, uc, hue⟩ := HO.out.shape
    have hun : (namesC (l.take k)).length = k := by rw [namesC_len, List.length_take]; omega
    rw [hun] at hue
    subst hue
    by_cases hlt : k < l.length
    · cases A with
      | none => have := HN.out rfl; omega
      | some a =>
        obtain ⟨hc0, hc1, hc2⟩ := co_lit ((HC.out a rfl k hlt).non FR.out)
        have HY := Lib.hid (heads_more hlt)
        generalize l[k] = x at *
        obtain ⟨xn, xt, xb⟩ := x
        dsimp only at hc0 hc1 hc2 HY
        generalize namesC (l.take k) = tl at *
        have HLK := Lib.hid hun
        clear hun
        have G1 := Lib.hid ((Fr.refl Non wr).alloc (.cells #[.string ⟨xn.toArray⟩, .int .i64 xt, .bool xb] 56))
        have hO2 := Lib.hid (HO.out.non G1.out)
        have F2 := Lib.hid (FR.out.trans G1.out)
        have hsz : w.heap.size ≤ (wr.alloc (.cells #[.string ⟨xn.toArray⟩, .int .i64 xt, .bool xb] 56)).heap.size := F2.out.size
        go_wp2_with (at_builtin; refine wpList_pushS rfl (.tmp 12) (.tmp 15) rfl w.heap.size _ tl rfl hO2.out _ xn rfl _ rfl (by simp) (by have := HLK.out; omega) hsz ?_; intro v3 w3 hown3 hfr3)
        have HO3 := Lib.hid hown3
        have F3 : Hid (Fr Non w w3) := Lib.hid (F2.out.fresh hfr3 (fun q hq => (hO2.out.lt q hq).1))
        clear hown3 hfr3
        go_roundw
        case rel => exact ⟨k + 1, by omega, by go_num, by rw [HY.out]; exact HO3, F3⟩
        case measure => simp [intOf]; omega
    · have hT : l.take k = l := List.take_of_length_le (by omega)
      rw [hT] at HO
      go_wp2
      go_ret
      exact ⟨_, rfl, HO.out, FR.out⟩
theorem agN_more {l : List Ag} {k : Nat} (h : k < l.length) : agN (l.take (k + 1)) = agN (l.take k) ++ (if l[k].op = 1 then [] else [l[k].col]) := by
  unfold agN
  rw [List.take_succ_eq_append_getElem h, List.filter_append, List.map_append]
  congr 1
  by_cases e : l[k].op = 1 <;> simp [e]
theorem agN_len (l : List Ag) : (agN l).length ≤ l.length := by
  unfold agN
  rw [List.length_map]
  exact List.length_filter_le _ _
set_option maxHeartbeats 2000000 in
theorem named_any (v : Value) (cs : List Co) (q : Qy) (c : Value) (s : Kv) (g : Value) (w : World) (hv : Ks w v cs) (hcl : cs.length ≤ 1000) (hq : QyS w q c s g) (hs : SmQ q) :
    Calls Tryz.prog 62 #[v, qyV q c s g] w fun e w' => ∃ u, e = .returned u ∧ Ow sv 9 w' w.heap.size u (namedQ cs q) ∧ Fr Non w w' := by
  have Q0 := Lib.hid (Qin.new hq)
  have HS := Lib.hid hq
  have A1 := Lib.hid (fun W (h : QyS W q c s g) => wants_any q c s g W h hs)
  have H1 := Lib.hid (fun W (hf : Fr Non w W) => heads_any v cs W (hv.non hf) hcl)
  have C1 := Lib.hid (fun W (h : QyS W q c s g) => cloneS_any c q.cols W h.cols (by have := hs.cols; omega))
  have HA : Hid (allQ q = true → namedQ cs q = namesC cs) := Lib.hid (fun e => if_pos e)
  have HB : Hid (allQ q = false → namedQ cs q = q.cols ++ agN q.aggs ++ byN q.by_) := Lib.hid (fun e => if_neg (by rw [e]; simp))
  have hlc := hs.cols
  have hlg := hs.aggs
  generalize namedQ cs q = r at *
  generalize allQ q = ba at *
  clear hs
  obtain ⟨cA, cc, hce⟩ := hq.cols.shape
  obtain ⟨gA, gc, hge⟩ := hq.aggs.shape
  clear hq
  obtain ⟨tab, cols, ⟨⟨wo, wc, wm, ⟨wn, wi, wt⟩, wk, wp⟩, wks⟩, aggs, by_⟩ := q
  obtain ⟨sA, sn, sc⟩ := s
  obtain ⟨vA, vc, hve⟩ := hv.shape
  dsimp only at hce hge
  subst hce
  subst hge
  subst hve
  unfold qyV qyC kidV at *
  dsimp only [Pd.hd, Pd.kids] at *
  clear hv
  go_enter Tryz.func62, Tryz.ntmps62
  go_wp2_with fail
  refine (A1.out _ Q0.out.sls).mono ?_
  rintro e w1 ⟨rfl, f1⟩
  have Q1 := Lib.hid (Q0.out.non f1)
  clear f1
  cases ba
  rotate_left
  · have HE := Lib.hid (HA.out rfl)
    clear HA HB C1
    go_wp2_with fail
    refine (H1.out _ Q1.out.fr).mono ?_
    rintro e w2 ⟨u2, rfl, ho2, f2⟩
    have F2 := Lib.hid (Q1.out.fr.trans f2)
    have HO2 : Hid (Ow sv 9 w2 w.heap.size u2 r) := Lib.hid (by rw [HE.out]; exact ho2.mono Q1.out.fr.size)
    clear f2 ho2
    go_wp2
    go_ret
    exact ⟨_, rfl, HO2.out, F2.out⟩
  · have HE := Lib.hid (HB.out rfl)
    clear HA HB H1
    obtain ⟨g0, g1, g2, g3, g4, g5, g6, g7, g8, g9, g10, g11, g12⟩ := Q1.out.cells
    dsimp only [Pd.hd, Pd.kids] at g0 g1 g2 g3 g4 g5 g6 g7 g8 g9 g10 g11 g12
    go_wp2_with fail
    refine (C1.out _ Q1.out.sls).mono ?_
    rintro e w2 ⟨u2, rfl, ho2, f2⟩
    have Q2 := Lib.hid (Q1.out.non f2)
    have HO2 : Hid (Ow sv 9 w2 (w.heap.size + 1) u2 (cols ++ agN (aggs.take 0))) := Lib.hid (by
      have h := ho2.mono (B' := w.heap.size + 1) (by have := Q1.out.blk.lt; omega)
      simpa [agN] using h)
    clear f2 ho2
    clear g0 g1 g2 g3 g4 g5 g6 g7 g8 g9 g10 g11 g12
    obtain ⟨g0, g1, g2, g3, g4, g5, g6, g7, g8, g9, g10, g11, g12⟩ := Q2.out.cells
    dsimp only [Pd.hd, Pd.kids] at g0 g1 g2 g3 g4 g5 g6 g7 g8 g9 g10 g11 g12
    go_wp2
    clear g0 g1 g2 g3 g4 g5 g6 g7 g8 g9 g10 g11 g12
    go_loopw [5, 18] (fun u i wr => ∃ k : Nat, k ≤ aggs.length ∧ i = .int .i64 k ∧ Hid (Ow sv 9 wr (w.heap.size + 1) u (cols ++ agN (aggs.take k))) ∧ Hid (Qin w w.heap.size ⟨tab, cols, ⟨⟨wo, wc, wm, ⟨wn, wi, wt⟩, wk, wp⟩, wks⟩, aggs, by_⟩ (.slice cA cols.length cc) ⟨sA, sn, sc⟩ (.slice gA aggs.length gc) wr)) (fun _ i _ => aggs.length - (intOf i).toNat)
    case atStart => exact ⟨0, Nat.zero_le _, rfl, HO2, Q2⟩
    case round =>
      clear HO2 Q0 Q1 Q2
      rename_i u i wr
      obtain ⟨k, hk, rfl, HO, QR⟩ := hrel
      obtain ⟨uA, uc, hue⟩ := HO.out.shape
      have hlk : (cols ++ agN (aggs.take k)).length ≤ 40 := by
        rw [List.length_append]
        have := agN_len (aggs.take k)
        rw [List.length_take] at this
        omega
      generalize hun : (cols ++ agN (aggs.take k)).length = un at *
      subst hue
      by_cases hlt : k < aggs.length
      · obtain ⟨a, rfl, _, d0, d1⟩ := Ns.gat QR.out.sls.aggs k hlt
        have HY := Lib.hid (agN_more hlt)
        dsimp only at d0 d1
        generalize hx : aggs[k] = x at *
        clear hx
        obtain ⟨xo, xn⟩ := x
        dsimp only at d0 d1 HY
        have HY2 : Hid (cols ++ agN (aggs.take (k + 1)) = (cols ++ agN (aggs.take k)) ++ (if xo = 1 then [] else [xn])) := Lib.hid (by rw [HY.out, List.append_assoc])
        generalize cols ++ agN (aggs.take k) = tl at *
        have HLK := Lib.hid (show tl.length ≤ 40 by omega)
        clear hun hlk HY
        have G1 := Lib.hid ((Fr.refl Non wr).alloc (.cells #[.int .i64 xo, .string ⟨xn.toArray⟩] 50))
        have Q3 := Lib.hid (QR.out.non G1.out)
        have hO3 := Lib.hid (HO.out.non G1.out)
        by_cases h1 : xo = 1
        · have HE4 : Hid (cols ++ agN (aggs.take (k + 1)) = tl) := Lib.hid (by rw [HY2.out, if_pos h1, List.append_nil])
          clear HY2
          subst h1
          go_wp2
          go_roundw
          case rel => exact ⟨k + 1, by omega, by go_num, by rw [HE4.out]; exact hO3, Q3⟩
          case measure => simp [intOf]; omega
        · have h1b : (xo != 1) = true := by rw [bne_iff_ne]; exact h1
          have HE4 : Hid (cols ++ agN (aggs.take (k + 1)) = tl ++ [xn]) := Lib.hid (by rw [HY2.out, if_neg h1])
          clear HY2 h1
          have hsz : w.heap.size + 1 ≤ (wr.alloc (.cells #[.int .i64 xo, .string ⟨xn.toArray⟩] 50)).heap.size := by have := Q3.out.blk.lt; omega
          go_wp2_with (at_builtin; refine wpList_pushS rfl (.tmp 25) (.tmp 28) rfl (w.heap.size + 1) _ tl rfl hO3.out _ xn rfl _ rfl (by simp) (by have := HLK.out; omega) hsz ?_; intro v4 w4 hown4 hfr4)
          have HO4 := Lib.hid hown4
          have F4 : Hid (Fr Non w w4) := Lib.hid (Q3.out.fr.fresh hfr4 (fun q hq => by have := (hO3.out.lt q hq).1; omega))
          have Q4 : Hid (Qin w w.heap.size ⟨tab, cols, ⟨⟨wo, wc, wm, ⟨wn, wi, wt⟩, wk, wp⟩, wks⟩, aggs, by_⟩ (.slice cA cols.length cc) ⟨sA, sn, sc⟩ (.slice (some a) aggs.length gc) w4) := Lib.hid ⟨F4.out, Q3.out.blk.fr hfr4 (fun e => by have := (hO3.out.lt _ e).1; omega), HS.out.non F4.out⟩
          clear hown4 hfr4
          go_roundw
          case rel => exact ⟨k + 1, by omega, by go_num, by rw [HE4.out]; exact HO4, Q4⟩
          case measure => simp [intOf]; omega
      · have hT : aggs.take k = aggs := List.take_of_length_le (by omega)
        rw [hT] at HO hun
        have HLK := Lib.hid (show (cols ++ agN aggs).length ≤ 40 by omega)
        generalize cols ++ agN aggs = tl at *
        obtain ⟨g0, g1, g2, g3, g4, g5, g6, g7, g8, g9, g10, g11, g12⟩ := QR.out.cells
        dsimp only [Pd.hd, Pd.kids] at g0 g1 g2 g3 g4 g5 g6 g7 g8 g9 g10 g11 g12
        by_cases hb : by_ = []
        · have HE2 : Hid (r = tl) := Lib.hid (by rw [HE.out, hb]; simp [byN])
          clear HE
          subst hb
          go_wp2
          go_ret
          exact ⟨_, rfl, by rw [HE2.out]; exact HO.out.mono (by omega), QR.out.fr⟩
        · have hbb : (by_ == []) = false := by rw [beq_eq_false_iff_ne]; exact hb
          have hbb2 : (by_ != []) = true := by rw [bne_iff_ne]; exact hb
          have HE2 : Hid (r = tl ++ [by_]) := Lib.hid (by rw [HE.out]; unfold byN; rw [if_neg hb])
          have hsz : w.heap.size + 1 ≤ wr.heap.size := by have := QR.out.blk.lt; omega
          clear HE hb hun hlk
          go_wp2_with (at_builtin; refine wpList_pushG el_str sv_one rfl (.tmp 34) (.tmp 37) rfl (w.heap.size + 1) _ tl rfl HO.out _ by_ rfl rfl (by have := HLK.out; omega) hsz ?_; intro v4 w4 hown4 hfr4)
          have F4 : Hid (Fr Non w w4) := Lib.hid (QR.out.fr.fresh hfr4 (fun q hq => by have := (HO.out.lt q hq).1; omega))
          go_ret
          exact ⟨_, rfl, by rw [HE2.out]; exact hown4.mono (by omega), F4.out⟩
end Go.Proofs.YtjcfjjhhbcgcmaaGreat
