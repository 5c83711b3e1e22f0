/-
  Joined: Layer 17: what is asked of a predicate and of all within it: the function that calls itself, over any closure; the first of the three closures; May. · Layer 17: May, the program's. · Layer 15: words on runes and on a text's iterator; the walks of glob.small, glob.Fold, firkinref15.Fold. · Layer 17: which predicates may be, the document's. · Layer 17: the text of a predicate, the program's. · Layer 17: the columns of a predicate, both programs'. · Layer 18: which queries there may be, the program's. · Layer 18: which queries there may be, the program's: a plain one, one of aggregates. · Layer 18: which queries there may be, the program's: what is asked for, as queries have it. · A map of texts to whole numbers of the call's own: which texts it has, and how many; made, written, counted. · Layer 12: which columns a table may have, the program's. · Layer 17: Fits, the program's. · Layer 18: which queries there may be, the program's: which columns a query names, whether they suit it, the program's. · Layer 18: which queries there may be, the program's: whether a query suits columns, the program's. · Layer 12: which columns a table may have, the document's; the law's words; the example. · Layer 17: the document's May, Small, typed, Fits.
-/
import Derived.Lib.Zigzag
import Derived.Deep.RegionHeld3
import Derived.Deep.QuietTactic
import Derived.BigQuiet
import Derived.Deep.DrawnRows
import Derived.Shelf.Strings.Replace
import Derived.Shelf.Strconv.Itoa4
import Derived.Shelf.Strings.OnBuilder
import Derived.Test.YtjcfjjhhbcgcmaaGreatProg
import Derived.Lib.SmallJoins
import Derived.Lib.AppendIntMem
import Derived.Laws.StructEq
import Derived.Laws.Rows
import Derived.Laws.ResultCell
import Derived.BigRegion
import Derived.Deep.RegionWith
import Derived.Test.YtjcfjjhhbcgcmaaGreatZ2
import Derived.Test.YtjcfjjhhbcgcmaaGreatZ1
import Derived.Lib.OthersKept
import Derived.Maps.OwnSet
import Derived.Maps.OwnOps

namespace Go.Proofs.YtjcfjjhhbcgcmaaGreat
set_option linter.unusedVariables false
set_option linter.unusedSimpArgs false
set_option maxRecDepth 100000
open Go.RowKit

theorem allL_at {σ : Type} {f : σ → Pd → Nat → Option σ} {ks : List Pd} {k : Nat} (h : k < ks.length) (s : σ) (d : Nat) : allL f (ks.drop k) s d = (allP f ks[k] s d).bind fun s' => allL f (ks.drop (k + 1)) s' d := by
  rw [List.drop_eq_getElem_cons h, allL]
theorem allL_end {σ : Type} {f : σ → Pd → Nat → Option σ} {ks : List Pd} {k : Nat} (h : ks.length ≤ k) (s : σ) (d : Nat) : allL f (ks.drop k) s d = some s := by
  rw [List.drop_eq_nil_of_le h, allL]

/-- how an asking ends: by what f says; of the old blocks those of X may have changed -/
def AskEnd {σ : Type} (R : World → σ → (Nat → Prop) → Prop) (r : Option σ) (X : Nat → Prop) (W : World) (e : Ending) (w' : World) : Prop :=
  e = .returned (.bool r.isSome) ∧ Fr X W w' ∧ ∀ s', r = some s' → ∃ X', R w' s' X' ∧ ∀ q, X' q → X q ∨ W.heap.size ≤ q
/-- what the function asked does -/
def Asks {σ : Type} (R : World → σ → (Nat → Prop) → Prop) (f : σ → Pd → Nat → Option σ) (F g : Nat) (w0 : World) : Prop :=
  ∀ (W : World) (s : σ) (X : Nat → Prop) (p : Pd) (t : Kv) (d : Nat) (dz : Int), dz = d → Fr Non w0 W → R W s X → Kd w0 t p.kids → I64b p.hd.val.num → bigP p = true → d + depP p ≤ 1000 →
    Calls Tryz.prog F #[pdV p.hd t, .int .i64 dz, .pointer (some ⟨g, 0, none⟩)] W (AskEnd R (f s p d) X W)
set_option maxHeartbeats 4000000 in
theorem all_any {σ : Type} (R : World → σ → (Nat → Prop) → Prop) (f : σ → Pd → Nat → Option σ) (F g : Nat) (w0 : World)
    (hlt : ∀ W s X, R W s X → ∀ q, X q → w0.heap.size ≤ q ∧ q < W.heap.size) (hR : ∀ W W' s X, R W s X → Fr Non W W' → R W' s X) (hcf : ∀ args W, (callFunc F args).run Tryz.prog W = .ok (.enter F args) W) (hask : Asks R f F g w0) (p : Pd) :
    ∀ (W : World) (s : σ) (X : Nat → Prop) (t : Kv) (d : Nat) (dz : Int), dz = d → Fr Non w0 W → R W s X → Kd w0 t p.kids → I64b p.hd.val.num → bigP p = true → d + depP p ≤ 1000 →
    Calls Tryz.prog 59 #[pdV p.hd t, .int .i64 dz, .func (.func F) #[] #[.pointer (some ⟨g, 0, none⟩)]] W (AskEnd R (allP f p s d) X W) := by
  induction p using Pd.ind with
  | h hd ks ih =>
    intro W s X t d dz hdz hF hr hk hb hlen hdep
    subst hdz
    have hn : t.n = ks.length := hk.len
    have hls := (bigP_mk hlen).1
    have hdd : d ≤ 999 := by have := dep_pos (.mk hd ks); omega
    have F1 : Fr Non W (W.alloc (.cells (pdC hd t) 28)) := (Fr.refl Non W).alloc _
    have hr1 := hR _ _ _ _ hr F1
    have A1 := hask _ s X (.mk hd ks) t d (d : Int) rfl (hF.trans F1) hr1 hk hb hlen hdep
    have hXb : ¬ X W.heap.size := fun h => by have := (hlt _ _ _ hr _ h).2; omega
    have B0 := Lib.hid (pd_new W _ hd t rfl)
    have HS : Hid (allP f (.mk hd ks) s d = (f s (.mk hd ks) d).bind fun s' => allL f ks s' (d + 1)) := Lib.hid (by rw [allP])
    generalize f s (.mk hd ks) d = r at *
    generalize allP f (.mk hd ks) s d = r0 at *
    have IH : Hid (∀ k (h : k < ks.length) (W' : World) (s' : σ) (X' : Nat → Prop) (t' : Kv), Fr Non w0 W' → R W' s' X' → Kd w0 t' ks[k].kids → I64b ks[k].hd.val.num →
        Calls Tryz.prog 59 #[pdV ks[k].hd t', .int .i64 ((d : Int) + 1), .func (.func F) #[] #[.pointer (some ⟨g, 0, none⟩)]] W' (AskEnd R (allP f ks[k] s' (d + 1)) X' W')) :=
      Lib.hid (fun k h W' s' X' t' a b c e => ih _ (List.getElem_mem h) W' s' X' t' (d + 1) _ (by simp) a b c e ((bigP_mk hlen).2.2.2.2 _ (List.getElem_mem h)) (by
        rw [depP] at hdep
        have := depL_mem (List.getElem_mem h)
        omega))
    have HKd : Hid (Kd w0 t ks) := Lib.hid hk
    have HF := Lib.hid hF
    have HLT := Lib.hid hlt
    have HR := Lib.hid hR
    have HR0 := Lib.hid hr
    have HF1 := Lib.hid F1
    clear ih hk hb hlen hdep hask hlt hR hr hr1 hF F1
    obtain ⟨ho, hc, hm, ⟨vn, vi, vt⟩, hkd, hp⟩ := hd
    obtain ⟨A, n, c⟩ := t
    dsimp only at hn
    subst hn
    unfold pdV pdC kidV at A1 ⊢
    dsimp only [Pd.hd, Pd.kids] at A1 ⊢
    have A1 := Lib.hid A1
    go_enter Tryz.func59, Tryz.ntmps59
    go_wp2_with fail
    refine A1.out.mono ?_
    rintro e w1 ⟨rfl, f1, hs1⟩
    have HS1 := Lib.hid hs1
    have g8 := (B0.out.fr f1 hXb).cell 8
    simp [pdC, kidV] at g8
    have FX : Hid (Fr X W w1) := Lib.hid (HF1.out.any.trans f1)
    have hsz : W.heap.size ≤ w1.heap.size := FX.out.size
    clear hs1 f1 A1 hXb
    cases r with
    | none =>
      have HE : Hid (r0 = none) := Lib.hid (by rw [HS.out]; rfl)
      go_wp2
      go_ret
      exact ⟨by rw [HE.out]; rfl, FX.out, fun s' h => by rw [HE.out] at h; cases h⟩
    | some s1 =>
      have HE : Hid (r0 = allL f ks s1 (d + 1)) := Lib.hid (by rw [HS.out]; rfl)
      clear HS
      obtain ⟨X1, hr1, hx1⟩ := HS1.out s1 rfl
      have hx2 : ∀ q, X1 q → X q ∨ W.heap.size ≤ q := fun q hq => (hx1 q hq).imp id (fun h => Nat.le_trans HF1.out.size h)
      clear hx1 HS1
      have HR1 := Lib.hid hr1
      have HX2 := Lib.hid hx2
      clear hr1 hx2
      go_wp2
      go_loopw [17] (fun i wr => ∃ (k : Nat) (sk : σ) (Xk : Nat → Prop), k ≤ ks.length ∧ i = .int .i64 k ∧ Hid (r0 = allL f (ks.drop k) sk (d + 1)) ∧ Hid (R wr sk Xk) ∧ Hid (Fr X W wr) ∧ Hid (∀ q, Xk q → X q ∨ W.heap.size ≤ q)) (fun i _ => ks.length - (intOf i).toNat)
      case atStart => exact ⟨0, s1, X1, Nat.zero_le _, rfl, HE, HR1, FX, HX2⟩
      case round =>
        clear HE HR1 FX HX2 g8 hsz
        obtain ⟨k, sk, Xk, hk, rfl, HE, HR1, FX, HX2⟩ := hrel
        have hFw : Hid (Fr Non w0 wr) := Lib.hid (HF.out.join FX.out (fun q hq h => absurd (HLT.out _ _ _ HR0.out q h).1 (by omega)))
        by_cases hlt : k < ks.length
        · obtain ⟨a, t, hA, hc2, hkk, hbb⟩ := HKd.out.el k hlt
          have hc3 : PCells wr (a.add (k * 9)) ks[k].hd t := by
            obtain ⟨a', t', hA', hc', _, _⟩ := (HKd.out.non hFw.out).el k hlt
            dsimp only at hA hA'
            obtain rfl := Option.some.inj (hA.symm.trans hA')
            have e : t' = t := by
              have x1 := hc'.2.2.2.2.2.2.2.2
              have x2 := hc2.2.2.2.2.2.2.2.2
              have hbl : (a.add (k * 9)).block < w0.heap.size := World.block_lt_of_cell? w0 _ hc2.1
              have x3 := hFw.out.cell (p := { block := (a.add (k * 9)).block, off := (a.add (k * 9)).off + 8 }) hbl (fun e => e)
              rw [x3, x2] at x1
              simp only [Option.some.injEq, Value.slice.injEq] at x1
              obtain ⟨y1, y2, y3⟩ := x1
              cases t; cases t'; simp_all
            rw [e] at hc'; exact hc'
          clear hc2
          dsimp only at hA
          subst hA
          obtain ⟨c0, c1, c2, c3, c4, c5, c6, c7, c8⟩ := hc3
          have HC := Lib.hid (fun W' s' X' a b => IH.out k hlt W' s' X' t a b hkk hbb)
          have HY := Lib.hid (HE.out.trans (allL_at hlt sk (d + 1)))
          clear hkk hbb HE
          generalize allP f ks[k] = ff at *
          generalize ks[k].hd = x at *
          obtain ⟨xo, xc, xm, ⟨xn, xi, xt⟩, xk, xp⟩ := x
          obtain ⟨tA, tn, tc⟩ := t
          dsimp only at c0 c1 c2 c3 c4 c5 c6 c7 c8
          have G1 := Lib.hid ((Fr.refl Non wr).alloc (.cells #[.int .i64 xo, .string ⟨xc.toArray⟩, .int .i64 xm, .bool xn, .int .i64 xi, .string ⟨xt.toArray⟩, .int .i64 xk, .string ⟨xp.toArray⟩, .slice tA tn tc] 28))
          have HC2 := Lib.hid (HC.out _ sk Xk (hFw.out.trans G1.out) (HR.out _ _ _ _ HR1.out G1.out))
          have hXl := HLT.out _ _ _ HR1.out
          have HXl := Lib.hid hXl
          clear HC hXl
          unfold pdV pdC kidV at HC2
          dsimp only at HC2
          generalize ff sk (d + 1) = rr at *
          go_wp2_with fail
          refine HC2.out.mono ?_
          rintro e w2 ⟨rfl, f2, hs2⟩
          have HS2 := Lib.hid hs2
          have FX2 : Hid (Fr X W w2) := Lib.hid (FX.out.join (G1.out.any.trans f2) (fun q hq h => by
            rcases HX2.out q h with h | h
            · exact h
            · omega))
          have hsz2 : W.heap.size ≤ wr.heap.size := FX.out.size
          clear hs2 f2 HC2
          cases rr with
          | none =>
            have HE : Hid (r0 = none) := Lib.hid HY.out
            clear HY HS2
            go_wp2
            go_ret
            exact ⟨by rw [HE.out]; rfl, FX2.out, fun s' h => by rw [HE.out] at h; cases h⟩
          | some s2 =>
            obtain ⟨X2, hr2, hx2⟩ := HS2.out s2 rfl
            have HE : Hid (r0 = allL f (ks.drop (k + 1)) s2 (d + 1)) := Lib.hid HY.out
            have HR2 := Lib.hid hr2
            have HX3 : Hid (∀ q, X2 q → X q ∨ W.heap.size ≤ q) := Lib.hid (fun q hq => by
              rcases hx2 q hq with h | h
              · exact HX2.out q h
              · refine .inr (Nat.le_trans hsz2 (Nat.le_trans G1.out.size h)))
            clear HY HS2 hr2 hx2
            go_wp2
            go_roundw
            case rel => exact ⟨k + 1, s2, X2, by omega, by go_num, HE, HR2, FX2, HX3⟩
            case measure => simp [intOf]; omega
        · have HE2 : Hid (r0 = some sk) := Lib.hid (HE.out.trans (allL_end (by omega) sk (d + 1)))
          clear HE
          go_wp2
          go_ret
          exact ⟨by rw [HE2.out]; rfl, FX.out, fun s' h => by
            rw [HE2.out] at h
            obtain rfl := Option.some.inj h
            exact ⟨Xk, HR1.out, HX2.out⟩⟩
end Go.Proofs.YtjcfjjhhbcgcmaaGreat


namespace Go.Proofs.YtjcfjjhhbcgcmaaGreat
set_option linter.unusedVariables false
set_option linter.unusedSimpArgs false
set_option maxRecDepth 100000
open Go.RowKit

/-- the count lies in block g -/
def RcM (w0 : World) (g : Nat) (W : World) (n : Nat) (X : Nat → Prop) : Prop := Blk W g 3 #[.int .i64 n] ∧ n ≤ 16 ∧ X = One g ∧ w0.heap.size ≤ g
theorem stepM_no {n : Nat} {p : Pd} {d : Nat} (h : ¬ (n + 1 ≤ 16 ∧ d ≤ 6)) : stepM n p d = none := by unfold stepM; rw [if_neg (fun e => h ⟨e.1, e.2.1⟩)]
theorem stepM_by {n : Nat} {p : Pd} {d : Nat} (h : n + 1 ≤ 16 ∧ d ≤ 6) : stepM n p d = bif hdOk p.hd p.kids then some (n + 1) else none := by
  unfold stepM
  cases hd : hdOk p.hd p.kids
  · rw [if_neg (by simp)]; rfl
  · rw [if_pos ⟨h.1, h.2, rfl⟩]; rfl
set_option maxHeartbeats 2000000 in
theorem may1_any (w0 : World) (g : Nat) : Asks (RcM w0 g) stepM 81 g w0 := by
  intro W n X p t d dz hdz hF hr hk hb hlen hdep
  subst hdz
  obtain ⟨h, ks⟩ := p
  obtain ⟨hB, hn16, rfl, hg0⟩ := hr
  dsimp only [Pd.hd, Pd.kids] at hk hb ⊢
  have hls := bigP_mk hlen
  have F0 : Fr Non W (W.alloc (.cells (pdC h t) 28)) := (Fr.refl Non W).alloc _
  have hB1 := hB.fr F0 (fun e => e)
  have hf0 := hB1.frozen 0
  have hc0 := hB1.cell 0
  have hB2 := (hB.set 0 (.int .i64 ((n : Int) + 1))).fr ((Fr.refl Non _).alloc (.cells (pdC h t) 28)) (fun e => e)
  have hc2 := hB2.cell 0
  have hgl := hB.lt
  have G2 : Fr (One g) W ((W.setCell ⟨g, 0, none⟩ (.int .i64 ((n : Int) + 1))).alloc (.cells (pdC h t) 28)) := ((Fr.refl (One g) W).set1 0 _).alloc _
  have P2 : PdB ((W.setCell ⟨g, 0, none⟩ (.int .i64 ((n : Int) + 1))).alloc (.cells (pdC h t) 28)) W.heap.size h t :=
    pd_new _ _ h t (by simp [World.setCell])
  obtain ⟨g0, g1, g2, g3, g4, g5, g6, g7, g8⟩ := pdB_cells P2
  have hkw : Kd ((W.setCell ⟨g, 0, none⟩ (.int .i64 ((n : Int) + 1))).alloc (.cells (pdC h t) 28)) t ks := hk.non (hF.join G2 (fun q hq e => by have : q = g := e; omega))
  have M := Lib.hid (alone_any h t ks _ hkw (by omega) (by omega))
  have HG := Lib.hid G2
  have HB2 := Lib.hid hB2
  have HN := Lib.hid (fun e => stepM_no (n := n) (p := .mk h ks) (d := d) e)
  have HY := Lib.hid (fun e => stepM_by (n := n) (p := .mk h ks) (d := d) e)
  simp at hc0 hc2
  clear hk hB hB1 hB2 P2 hkw F0 G2 hlen hdep hls hF
  obtain ⟨ho, hc, hm, ⟨vn, vi, vt⟩, hkd, hp⟩ := h
  obtain ⟨A, nn, c⟩ := t
  unfold pdV pdC kidV at *
  dsimp only at *
  by_cases h1 : n + 1 ≤ 16
  · by_cases h6 : d ≤ 6
    · have HE := Lib.hid (HY.out ⟨h1, h6⟩)
      clear HY HN
      generalize stepM n _ d = r at *
      dsimp only [Pd.hd, Pd.kids] at HE
      generalize hdOk _ ks = b at *
      go_enter Tryz.func81, Tryz.ntmps81
      go_wp2_with fail
      refine M.out.mono ?_
      rintro e w1 ⟨rfl, f1⟩
      go_wp2
      go_ret
      refine ⟨by rw [HE.out]; cases b <;> rfl, HG.out.then f1, fun s' hs => ?_⟩
      rw [HE.out] at hs
      cases b
      · cases hs
      · obtain rfl := Option.some.inj hs
        exact ⟨One g, ⟨HB2.out.fr f1 (fun e => e), h1, rfl, hg0⟩, fun q hq => .inl hq⟩
    · have HE := Lib.hid (HN.out (by omega))
      have hd1 : decide ((n : Int) + 1 ≤ 16) = true := decide_eq_true (by omega)
      have hd2 : decide ((d : Int) ≤ 6) = false := decide_eq_false (by omega)
      clear HY HN M
      generalize stepM n _ d = r at *
      go_enter Tryz.func81, Tryz.ntmps81
      go_wp2
      go_ret
      exact ⟨by rw [HE.out]; rfl, HG.out, fun s' hs => by rw [HE.out] at hs; cases hs⟩
  · have HE := Lib.hid (HN.out (by omega))
    have hd1 : decide ((n : Int) + 1 ≤ 16) = false := decide_eq_false (by omega)
    clear HY HN M
    generalize stepM n _ d = r at *
    go_enter Tryz.func81, Tryz.ntmps81
    go_wp2
    go_ret
    exact ⟨by rw [HE.out]; rfl, HG.out, fun s' hs => by rw [HE.out] at hs; cases hs⟩

set_option maxHeartbeats 2000000 in
theorem pmay_big (h : Ph) (t : Kv) (ks : List Pd) (w : World) (hk : Kd w t ks) (hb : I64b h.val.num) (hlen : bigP (.mk h ks) = true) (hdep : depP (.mk h ks) ≤ 100) :
    Calls Tryz.prog 53 #[pdV h t] w fun e w' => e = .returned (.bool (mayP (.mk h ks))) ∧ Fr Non w w' := by
  have F0 : Fr Non w (w.alloc (.cells (pdC h t) 28)) := (Fr.refl Non w).alloc _
  have F1 : Fr Non w ((w.alloc (.cells (pdC h t) 28)).alloc (.cells #[.int .i64 0] 3)) := F0.alloc _
  have e1 : (w.alloc (.cells (pdC h t) 28)).heap.size = w.heap.size + 1 := by simp
  have b2 := Blk.new (w.alloc (.cells (pdC h t) 28)) 3 #[.int .i64 0]
  rw [e1] at b2
  have hR0 : RcM w (w.heap.size + 1) ((w.alloc (.cells (pdC h t) 28)).alloc (.cells #[.int .i64 0] 3)) 0 (One (w.heap.size + 1)) := ⟨b2, by omega, rfl, by omega⟩
  have A1 := all_any (RcM w (w.heap.size + 1)) stepM 81 (w.heap.size + 1) w
    (fun W s X hr q hq => by
      obtain ⟨a, b, rfl, c⟩ := hr
      obtain rfl : q = w.heap.size + 1 := hq
      exact ⟨c, a.lt⟩)
    (fun W W' s X hr hf => ⟨hr.1.fr hf (fun e => e), hr.2⟩) Tryz.call81 (may1_any w (w.heap.size + 1)) (.mk h ks)
    _ 0 _ t 1 1 rfl F1 hR0 hk hb hlen (by omega)
  have HM : Hid ((allP stepM (.mk h ks) 0 1).isSome = mayP (.mk h ks)) := Lib.hid (may_all _)
  generalize allP stepM (.mk h ks) 0 1 = r at *
  dsimp only [Pd.hd, Pd.kids] at A1
  have A1 := Lib.hid A1
  have F1 := Lib.hid F1
  have P0 : PdB ((w.alloc (.cells (pdC h t) 28)).alloc (.cells #[.int .i64 0] 3)) w.heap.size h t := (pd_new w _ h t rfl).fr ((Fr.refl Non _).alloc _) (fun e => e)
  obtain ⟨g0, g1, g2, g3, g4, g5, g6, g7, g8⟩ := pdB_cells P0
  have hmf : ∀ (fn : Fn) (first cap : Array Value) (w : World), (Instr.makeFunc fn first cap).run Tryz.prog w = .ok (.func fn first cap) w := fun _ _ _ _ => rfl
  clear hk F0 hR0 b2 e1 P0 hlen hdep
  obtain ⟨ho, hc, hm, ⟨vn, vi, vt⟩, hkd, hp⟩ := h
  obtain ⟨A, nn, c⟩ := t
  unfold pdV pdC kidV at *
  dsimp only at *
  go_enter Tryz.func53, Tryz.ntmps53
  go_wp2_with fail
  refine A1.out.mono ?_
  rintro e w1 ⟨rfl, f1, _⟩
  go_wp2
  go_ret
  exact ⟨ret_boolE HM.out, F1.out.join f1 (fun q hq e => by have : q = w.heap.size + 1 := e; omega)⟩
end Go.Proofs.YtjcfjjhhbcgcmaaGreat


namespace Go.Proofs.YtjcfjjhhbcgcmaaGreat
set_option linter.unusedVariables false
set_option linter.unusedSimpArgs false
set_option maxRecDepth 100000
open Go.RowKit

/-- a rune's cell -/
def ruv (n : Nat) : Value := .int .i32 (n : Int)
theorem ruv_one (n : Nat) : (ruv n).oneCell' = true := rfl
theorem el_rune : El 104 21 (.int .i32 0) 4 := ⟨Tryz.underlying104, by kernel_rfl, rfl, by decide, by kernel_rfl, fun _ => by kernel_rfl⟩

/-- in block k lies an iterator over the text l, at place p -/
def ItU (w : World) (k : Nat) (l : List UInt8) (p : Nat) : Prop := w.heap[k]? = some (.stringIter ⟨l.toArray⟩ p)
theorem sizeU (l : List UInt8) : ByteArray.size ⟨l.toArray⟩ = l.length := by simp [ByteArray.size]
theorem ItU.new (w : World) (l : List UInt8) : ItU (w.iter ⟨l.toArray⟩ 0) w.heap.size l 0 := World.iter_heap w _ 0
theorem ItU.pos {w : World} {k p : Nat} {l : List UInt8} (h : ItU w k l p) : w.iterPos k = p := by
  unfold ItU at h; simp [World.iterPos, h]
theorem ItU.lt {w : World} {k p : Nat} {l : List UInt8} (h : ItU w k l p) : k < w.heap.size := (Array.getElem?_eq_some_iff.1 h).1
theorem ItU.fr {S : Nat → Prop} {w w' : World} {k p : Nat} {l : List UInt8} (h : ItU w k l p) (hf : Fr S w w') (hn : ¬ S k) : ItU w' k l p := (hf.block k h.lt hn).trans h
theorem fr_iterAt (w : World) (k : Nat) (s : ByteArray) (p : Nat) : Fr (One k) w (w.iterAt k s p) :=
  ⟨rfl, rfl, rfl, by rw [Lib.iterAt_size]; exact Nat.le_refl _, fun j _ hj => Lib.iterAt_other w k j s p hj⟩
/-- a step of the range -/
theorem nextU (wr : World) (k p : Nat) (l : List UInt8) (h : ItU wr k l p) (hp : p < l.length) :
    ∃ W, (∀ ty, (Instr.next (.pointer (some ⟨k, 0, none⟩)) true ty).run Tryz.prog wr = .ok (.tuple #[.bool true, .int .i64 p, .int .i32 ((dcU (l.drop p)).1 : Int)]) W) ∧
      ItU W k l (p + (dcU (l.drop p)).2) ∧ Fr (One k) wr W := by
  refine ⟨wr.iterAt k ⟨l.toArray⟩ (p + (dcU (l.drop p)).2), fun ty => ?_, Lib.iterAt_heap wr k _ p _ h, fr_iterAt _ _ _ _⟩
  rw [← dcU_at]
  exact Lib.run_next_any_at wr k _ p ty h (by rw [sizeU]; exact hp)
theorem nextU_end (wr : World) (k p : Nat) (l : List UInt8) (h : ItU wr k l p) (hp : ¬ p < l.length) (ty : TypeId) :
    (Instr.next (.pointer (some ⟨k, 0, none⟩)) true ty).run Tryz.prog wr = .ok (.tuple #[.bool false]) wr :=
  Lib.run_next_end_at wr k _ p ty h (by rw [sizeU]; exact hp)
theorem okU_le {r : Nat} (h : okU r) : r ≤ 1114111 := by unfold okU at h; omega

theorem smU_lt {r : Nat} (h1 : 65 ≤ r) (h2 : r ≤ 90) : smU r = r + 32 := by unfold smU; rw [if_pos ⟨h1, h2⟩]
theorem smU_lo {r : Nat} (h1 : r < 65) : smU r = r := by unfold smU; rw [if_neg (by omega)]
theorem smU_hi {r : Nat} (h1 : 90 < r) : smU r = r := by unfold smU; rw [if_neg (by omega)]

theorem gsmall_any (r : Nat) (w : World) (hr : r ≤ 1114111) : Calls Tryz.prog 156 #[.int .i32 r] w fun e w' => e = .returned (.int .i32 (smU r : Nat)) ∧ w = w' := by
  by_cases h1 : 65 ≤ r
  · by_cases h2 : r ≤ 90
    · have H := Lib.hid (smU_lt h1 h2)
      have hb1 : decide ((65 : Int) ≤ (r : Int)) = true := by simp; omega
      have hb2 : decide ((r : Int) ≤ 90) = true := by simp; omega
      have hw1 : IntKind.i32.wrap ((r : Int) - 65) = (r : Int) - 65 := by simp [IntKind.wrap, IntKind.bits, IntKind.signed]; omega
      have hw2 : IntKind.i32.wrap ((r : Int) - 65 + 97) = ((r + 32 : Nat) : Int) := by simp [IntKind.wrap, IntKind.bits, IntKind.signed]; omega
      clear h1 h2
      go_enter Tryz.func156, Tryz.ntmps156
      go_wp2
      go_ret
      exact ⟨ret_int (by rw [H.out]; push_cast; omega), rfl⟩
    · have H := Lib.hid (smU_hi (r := r) (by omega))
      have hb1 : decide ((65 : Int) ≤ (r : Int)) = true := by simp; omega
      have hb2 : decide ((r : Int) ≤ 90) = false := by simp; omega
      clear h1 h2
      go_enter Tryz.func156, Tryz.ntmps156
      go_wp2
      go_ret
      exact ⟨ret_int (by rw [H.out]), rfl⟩
  · have H := Lib.hid (smU_lo (r := r) (by omega))
    have hb1 : decide ((65 : Int) ≤ (r : Int)) = false := by simp; omega
    clear h1
    go_enter Tryz.func156, Tryz.ntmps156
    go_wp2
    go_ret
    exact ⟨ret_int (by rw [H.out]), rfl⟩

/-- so many runes are folded -/
def fdU (l : List UInt8) (k : Nat) (d : List Nat) : Prop := foldU l = d ++ (runesU (l.drop k)).map smU ∧ d.length ≤ k
theorem fdU_zero (l : List UInt8) : fdU l 0 [] := ⟨by simp [foldU], by simp⟩
theorem fdU_more {l : List UInt8} {k : Nat} {d : List Nat} (h : fdU l k d) (hk : k < l.length) : fdU l (k + (dcU (l.drop k)).2) (d ++ [smU (dcU (l.drop k)).1]) ∧ 1 ≤ (dcU (l.drop k)).2 ∧ k + (dcU (l.drop k)).2 ≤ l.length ∧ okU (dcU (l.drop k)).1 := by
  have hne : l.drop k ≠ [] := by intro e; have := congrArg List.length e; simp at this; omega
  have hw := dcU_w hne
  rw [List.length_drop] at hw
  refine ⟨⟨?_, ?_⟩, hw.1, by omega, dcU_ok _⟩
  · rw [h.1, runesU_drop hk]; simp
  · have := h.2; rw [List.length_append]; simp; omega
theorem fdU_end {l : List UInt8} {k : Nat} {d : List Nat} (h : fdU l k d) (hk : ¬ k < l.length) : d = foldU l := by rw [h.1, runesU_end hk]; simp

set_option maxHeartbeats 1000000 in
theorem gfold_any (l : List UInt8) (w : World) (hl : l.length ≤ 1000000000) : Calls Tryz.prog 135 #[.string ⟨l.toArray⟩] w fun e w' => ∃ u, e = .returned u ∧ Ow ruv 21 w' w.heap.size u (foldU l) ∧ Fr Non w w' := by
  go_enter Tryz.func135, Tryz.ntmps135
  go_wp2
  go_loopw [3] (fun v wr => ∃ k d, k ≤ l.length ∧ ItU wr w.heap.size l k ∧ Ow ruv 21 wr (w.heap.size + 1) v d ∧ Fr Non w wr ∧ Hid (fdU l k d)) (fun _ wr => l.length - wr.iterPos w.heap.size)
  case atStart => exact ⟨0, [], by omega, ItU.new w l, ow_nil _ _, (Fr.refl _ _).alloc _, Lib.hid (fdU_zero l)⟩
  case round =>
    obtain ⟨k, d, hk, hit, hown, hfr, hd⟩ := hrel
    have hp0 := hit.pos
    by_cases hlt : k < l.length
    · obtain ⟨hm, hw1, hw2, hok⟩ := fdU_more hd.out hlt
      obtain ⟨W, hnx, hitW, hfW⟩ := nextU wr w.heap.size k l hit hlt
      have HSm := Lib.hid (fun V => gsmall_any (dcU (l.drop k)).1 V (okU_le hok))
      have hownW := hown.fr hfW (fun q hq e => by have := (hown.lt q hq).1; have : q = w.heap.size := e; omega)
      have hfrW := hfr.fresh hfW (fun q e => by have : q = w.heap.size := e; omega)
      have hdl := hd.out.2
      have HM := Lib.hid hm
      clear hd hit hown hfr hfW hok hm
      generalize (dcU (l.drop k)).1 = r at *
      generalize hq : k + (dcU (l.drop k)).2 = q at *
      have hkq : k < q := by omega
      clear hq hw1
      go_wp2_with fail
      refine (HSm.out _).mono ?_
      rintro e w1 ⟨rfl, rfl⟩
      clear HSm
      have hB := hitW.lt
      go_wp2_with (at_builtin; refine wpList_pushG el_rune ruv_one rfl (.tmp 11) (.tmp 14) rfl (w.heap.size + 1) _ d rfl hownW _ (smU r) rfl rfl (by omega) (by omega) ?_; intro v5 w5 hown5 hf5)
      have hit5 := hitW.fr hf5 (fun e => by have := (hownW.lt _ e).1; omega)
      have hfr5 := hfrW.fresh hf5 (fun q hq => by have := (hownW.lt q hq).1; omega)
      go_roundw
      case rel => exact ⟨q, _, hw2, hit5, hown5, hfr5, HM⟩
      case measure => rw [hp0, hit5.pos]; omega
    · have hnx := fun ty => nextU_end wr w.heap.size k l hit hlt ty
      have HE := Lib.hid (fdU_end hd.out hlt)
      clear hd
      go_wp2
      go_ret
      exact ⟨_, rfl, by rw [← HE.out]; exact hown.mono (by omega), hfr⟩

end Go.Proofs.YtjcfjjhhbcgcmaaGreat


namespace Go.Proofs.YtjcfjjhhbcgcmaaGreat
set_option linter.unusedVariables false
set_option linter.unusedSimpArgs false
set_option maxRecDepth 100000
open Go.RowKit

/-- an element's slice is what it was -/
theorem Kd.elN {w w' : World} {s : Kv} {ps : List Pd} (h : Kd w s ps) (hf : Fr Non w w') (j : Nat) (hj : j < ps.length) :
    ∃ a t, s.A = some a ∧ PCells w' (a.add (j * 9)) ps[j].hd t ∧ Kd w t ps[j].kids ∧ I64b ps[j].hd.val.num := by
  obtain ⟨a, t, hA, hc, hk, hb⟩ := h.el j hj
  refine ⟨a, t, hA, ?_, hk, hb⟩
  obtain ⟨c0, c1, c2, c3, c4, c5, c6, c7, c8⟩ := hc
  have q : ∀ (p : Addr) (v : Value), w.cell? p = some v → w'.cell? p = some v := fun p v e => (hf.cell (World.block_lt_of_cell? w _ e) (fun e => e)).trans e
  exact ⟨q _ _ c0, q _ _ c1, q _ _ c2, q _ _ c3, q _ _ c4, q _ _ c5, q _ _ c6, q _ _ c7, q _ _ c8⟩

/-! ### How many -/
/-! ### One -/
end Go.Proofs.YtjcfjjhhbcgcmaaGreat


namespace Go.Proofs.YtjcfjjhhbcgcmaaGreat
set_option linter.unusedVariables false
set_option linter.unusedSimpArgs false
set_option maxRecDepth 100000
open Go.RowKit

/-! ### The text -/
theorem Kd.num {w : World} {s : Kv} {ps : List Pd} (h : Kd w s ps) : numL ps := by
  induction h with
  | mk s ns ps hl hN hh hb hk ih =>
    rw [numL_all]
    intro p hp
    obtain ⟨j, hj, rfl⟩ := List.mem_iff_getElem.1 hp
    have e := ih j (by omega) hj
    have b := hb j hj
    generalize ps[j] = p at *
    obtain ⟨h, ks⟩ := p
    exact ⟨b, e⟩
end Go.Proofs.YtjcfjjhhbcgcmaaGreat


namespace Go.Proofs.YtjcfjjhhbcgcmaaGreat
set_option linter.unusedVariables false
set_option linter.unusedSimpArgs false
set_option maxRecDepth 100000
open Go.RowKit

/-! ### Asked of all: what is handed on may lie anew each time; of the predicates a condition -/
/-! ### Which names there are -/
/-! ### Where a text is -/
set_option maxHeartbeats 2000000 in
theorem pidxs_any (v : Value) (l : List Tx) (x : Tx) (w : World) (hv : Vs sv w v l) (hl : l.length ≤ 1000) :
    Calls Tryz.prog 131 #[v, .string ⟨x.toArray⟩] w fun e w' => ∃ z : Int, e = .returned (.int .i64 z) ∧ decide (0 ≤ z) = decide (x ∈ l) ∧ Fr Non w w' := by
  obtain ⟨A, c, rfl, hlc, hn, hcell⟩ := hv
  have HC := Lib.hid hcell
  have HN := Lib.hid hn
  clear hcell hn
  go_enter Tryz.func131, Tryz.ntmps131
  go_wp2
  go_loopw [8] (fun i wr => ∃ (k : Nat), k ≤ l.length ∧ i = .int .i64 k ∧ Hid (∀ j (h : j < l.length), j < k → l[j] ≠ x) ∧ Hid (Fr Non w wr)) (fun i _ => l.length - (intOf i).toNat)
  case atStart => exact ⟨0, Nat.zero_le _, rfl, Lib.hid (fun _ _ h => by omega), Lib.hid (Fr.refl _ _)⟩
  case round =>
    obtain ⟨k, hk, rfl, HT, FR⟩ := hrel
    by_cases hlt : k < l.length
    · cases A with
      | none => have := HN.out rfl; omega
      | some a =>
        have c0 := (FR.out.cell (World.block_lt_of_cell? _ _ (HC.out a rfl k hlt)) (fun e => e)).trans (HC.out a rfl k hlt)
        unfold sv at c0
        have HX : Hid (l[k] = x → x ∈ l) := Lib.hid (fun e => by rw [← e]; exact List.getElem_mem hlt)
        have HY : Hid (l[k] ≠ x → ∀ j (h : j < l.length), j < k + 1 → l[j] ≠ x) := Lib.hid (fun e j hj hjk => by
          by_cases ee : j = k
          · subst ee; exact e
          · exact HT.out j hj (by omega))
        clear HT
        generalize l[k] = y at *
        by_cases he : y = x
        · have HE := Lib.hid (HX.out he)
          subst he
          clear HX HY
          go_wp2
          go_ret
          exact ⟨_, rfl, by rw [decide_eq_true HE.out]; exact decide_eq_true (by omega), FR.out⟩
        · have hb : (x == y) = false := by rw [beq_eq_false_iff_ne]; exact fun e => he e.symm
          have HE := Lib.hid (HY.out he)
          clear HX HY he
          go_wp2
          go_roundw
          case rel => exact ⟨k + 1, by omega, by go_num, HE, FR⟩
          case measure => simp [intOf]; omega
    · have HE : Hid (¬ x ∈ l) := Lib.hid (fun hx => by
        obtain ⟨j, hj, e⟩ := List.mem_iff_getElem.1 hx
        exact HT.out j hj (by omega) e)
      clear HT
      go_wp2
      go_ret
      exact ⟨_, rfl, by rw [decide_eq_false HE.out]; rfl, FR.out⟩
theorem pconts_any (v : Value) (l : List Tx) (x : Tx) (w : World) (hv : Vs sv w v l) (hl : l.length ≤ 1000) :
    Calls Tryz.prog 113 #[v, .string ⟨x.toArray⟩] w fun e w' => e = .returned (.bool (decide (x ∈ l))) ∧ Fr Non w w' := by
  have h0 := Lib.hid (pidxs_any v l x w hv hl)
  obtain ⟨A, c, rfl⟩ := hv.shape
  clear hv
  go_enter Tryz.func113, Tryz.ntmps113
  go_wp2_with fail
  refine h0.out.mono ?_
  rintro e w1 ⟨z, rfl, hz, f1⟩
  go_wp2
  go_ret
  exact ⟨rfl, f1⟩

/-! ### The program's -/
end Go.Proofs.YtjcfjjhhbcgcmaaGreat


namespace Go.Proofs.YtjcfjjhhbcgcmaaGreat
set_option linter.unusedVariables false
set_option linter.unusedSimpArgs false
set_option maxRecDepth 100000
open Go.RowKit

theorem mynot_any (a : Ag) (w : World) (hl : a.col.length ≤ 1000000000) :
    Calls Tryz.prog 84 #[agV a] w fun e w' => e = .returned (.bool (!agB a)) ∧ Fr Non w w' := by
  have N := fun W => sname_any a.col W hl
  have HF : Hid (Fr Non w (w.alloc (.cells #[.int .i64 a.op, .string ⟨a.col.toArray⟩] 50))) := Lib.hid ((Fr.refl Non w).alloc _)
  have HE0 : Hid (agB a = if a.op = 1 then decide (a.col = []) else decide (2 ≤ a.op ∧ a.op ≤ 5) && nameB a.col) := Lib.hid rfl
  obtain ⟨o, c⟩ := a
  unfold agV
  dsimp only at *
  generalize agB _ = r at *
  by_cases h1 : o = 1
  · subst h1
    clear N
    by_cases h0 : c = []
    · subst h0
      have HE : Hid (r = true) := Lib.hid (by rw [HE0.out]; rfl)
      clear HE0
      go_enter Tryz.func84, Tryz.ntmps84
      go_wp2
      go_ret
      exact ⟨ret_boolE (by rw [HE.out]; rfl), HF.out⟩
    · have hb : (c == []) = false := by rw [beq_eq_false_iff_ne]; exact h0
      have HE : Hid (r = false) := Lib.hid (by rw [HE0.out, if_pos rfl]; exact decide_eq_false h0)
      clear HE0 h0
      go_enter Tryz.func84, Tryz.ntmps84
      go_wp2
      go_ret
      exact ⟨ret_boolE (by rw [HE.out]; rfl), HF.out⟩
  · have hb1 : (o == 1) = false := by rw [beq_eq_false_iff_ne]; exact h1
    by_cases h2 : o < 2
    · have HE : Hid (r = false) := Lib.hid (by rw [HE0.out, if_neg h1, decide_eq_false (by omega)]; rfl)
      clear HE0 N
      go_enter Tryz.func84, Tryz.ntmps84
      go_wp2
      go_ret
      exact ⟨ret_boolE (by rw [HE.out]; rfl), HF.out⟩
    · by_cases h5 : 5 < o
      · have HE : Hid (r = false) := Lib.hid (by rw [HE0.out, if_neg h1, decide_eq_false (by omega)]; rfl)
        clear HE0 N
        go_enter Tryz.func84, Tryz.ntmps84
        go_wp2
        go_ret
        exact ⟨ret_boolE (by rw [HE.out]; rfl), HF.out⟩
      · have HE : Hid (r = nameB c) := Lib.hid (by rw [HE0.out, if_neg h1, decide_eq_true (by omega)]; rfl)
        generalize nameB c = b at *
        clear HE0
        replace N := Lib.hid N
        go_enter Tryz.func84, Tryz.ntmps84
        go_wp2_with fail
        refine (N.out _).mono ?_
        rintro e w1 ⟨rfl, f1⟩
        go_wp2
        go_ret
        exact ⟨ret_boolE (by rw [HE.out]), HF.out.trans f1⟩

def badA (a : Ag) : Bool := !agB a
theorem any_moreG {α : Type} {p : α → Bool} {l : List α} {k : Nat} (h : k < l.length) (h1 : (l.take k).any p = false) (h2 : p l[k] = false) : (l.take (k + 1)).any p = false := by
  rw [List.take_succ_eq_append_getElem h, List.any_append, h1]; simp [h2]
theorem any_allG {α : Type} {p : α → Bool} {l : List α} : (l.any fun a => !p a) = !(l.all p) := by
  induction l with
  | nil => rfl
  | cons x l ih => rw [List.any_cons, List.all_cons, ih]; cases p x <;> rfl
theorem gidx_any (v : Value) (l : List Ag) (w : World) (hv : Gs w v l) (hl : l.length ≤ 1000000000) (hb : ∀ c ∈ l, c.col.length ≤ 1000000000) :
    Calls Tryz.prog 90 #[v, .func (.func 84) #[] #[]] w fun e w' => ∃ z : Int, e = .returned (.int .i64 z) ∧ decide (0 ≤ z) = l.any badA ∧ Fr Non w w' := by
  obtain ⟨A, c, rfl, hlc, hn, hcell⟩ := hv
  have HC := Lib.hid hcell
  have HN := Lib.hid hn
  have HB := Lib.hid hb
  clear hcell hn hb
  go_enter Tryz.func90, Tryz.ntmps90
  go_wp2
  go_loopw [8] (fun i wr => ∃ (k : Nat), k ≤ l.length ∧ i = .int .i64 k ∧ Hid ((l.take k).any badA = false) ∧ Fr Non w wr) (fun i _ => l.length - (intOf i).toNat)
  case atStart => exact ⟨0, Nat.zero_le _, rfl, Lib.hid rfl, Fr.refl _ _⟩
  case round =>
    obtain ⟨k, hk, rfl, hne, hfr⟩ := hrel
    by_cases hlt : k < l.length
    · cases A with
      | none => have := HN.out rfl; omega
      | some a =>
        obtain ⟨hc0, hc1⟩ := ag_lit ((HC.out a rfl k hlt).non hfr)
        have HY := Lib.hid (fun h => any_moreG hlt hne.out h)
        have HX : Hid (badA l[k] = true → l.any badA = true) := Lib.hid (fun h => List.any_eq_true.2 ⟨_, List.getElem_mem hlt, h⟩)
        have M := fun W => mynot_any l[k] W (HB.out _ (List.getElem_mem hlt))
        clear hne
        change ∀ W, Calls _ _ _ W (fun e w' => e = .returned (.bool (badA l[k])) ∧ Fr Non W w') at M
        generalize l[k] = x at *
        obtain ⟨xo, xn⟩ := x
        unfold agV at M
        dsimp only at hc0 hc1 HY HX M
        have HF := Lib.hid hfr
        clear hfr
        cases hx : badA ⟨xo, xn⟩
        · have HE := Lib.hid (HY.out hx)
          simp only [hx] at M
          replace M := Lib.hid M
          clear HX HY hx
          go_wp2_with fail
          refine (M.out _).mono ?_
          rintro e w2 ⟨rfl, f2⟩
          go_wp2
          go_roundw
          case rel => exact ⟨k + 1, by omega, by go_num, HE, HF.out.trans f2⟩
          case measure => simp [intOf]; omega
        · have HE := Lib.hid (HX.out hx)
          simp only [hx] at M
          replace M := Lib.hid M
          clear HX HY hx
          go_wp2_with fail
          refine (M.out _).mono ?_
          rintro e w2 ⟨rfl, f2⟩
          go_wp2
          go_ret
          exact ⟨_, rfl, by rw [HE.out]; exact decide_eq_true (by omega), HF.out.trans f2⟩
    · have HE : Hid (l.any badA = false) := Lib.hid (by have := hne.out; rwa [List.take_of_length_le (by omega)] at this)
      clear hne
      go_wp2
      go_ret
      exact ⟨_, rfl, by rw [HE.out]; rfl, hfr⟩
theorem gconts_any (v : Value) (l : List Ag) (w : World) (hv : Gs w v l) (hl : l.length ≤ 1000000000) (hb : ∀ c ∈ l, c.col.length ≤ 1000000000) :
    Calls Tryz.prog 63 #[v, .func (.func 84) #[] #[]] w fun e w' => e = .returned (.bool (!(l.all agB))) ∧ Fr Non w w' := by
  have h0 := Lib.hid (gidx_any v l w hv hl hb)
  obtain ⟨A, c, rfl⟩ := hv.shape
  clear hv hb
  go_enter Tryz.func63, Tryz.ntmps63
  go_wp2_with fail
  refine h0.out.mono ?_
  rintro e w1 ⟨z, rfl, hz, f1⟩
  go_wp2
  go_ret
  exact ⟨ret_boolE any_allG, f1⟩

/-! ### Names, each once -/
def unlK (l : List Tx) (k : Nat) : Prop := (l.take k).all nameB = true ∧ (l.take k).Nodup
theorem unlK_zero (l : List Tx) : unlK l 0 := ⟨rfl, List.nodup_nil⟩
theorem unlK_more {l : List Tx} {k : Nat} (h : k < l.length) (hu : unlK l k) (h1 : nameB l[k] = true) (h2 : ¬ l[k] ∈ l.take k) : unlK l (k + 1) := by
  unfold unlK
  rw [List.take_succ_eq_append_getElem h, List.all_append, List.nodup_append, hu.1]
  refine ⟨by simp [h1], hu.2, by simp, fun a ha b hb e => ?_⟩
  obtain rfl := List.mem_singleton.1 hb
  exact h2 (e ▸ ha)
theorem unlK_all {l : List Tx} {k : Nat} (h : l.length ≤ k) (hu : unlK l k) : unlB l = true := by
  unfold unlK at hu
  rw [List.take_of_length_le h] at hu
  unfold unlB
  rw [hu.1, decide_eq_true hu.2]; rfl
theorem unl_bad {l : List Tx} {k : Nat} (h : k < l.length) (h1 : nameB l[k] = false) : unlB l = false := by
  unfold unlB
  have : l.all nameB = false := by
    rw [List.all_eq_false]
    exact ⟨_, List.getElem_mem h, by rw [h1]; simp⟩
  rw [this]; rfl
theorem unl_dup {l : List Tx} {k : Nat} (h : k < l.length) (h1 : l[k] ∈ l.take k) : unlB l = false := by
  unfold unlB
  have : ¬ l.Nodup := by
    intro hn
    obtain ⟨j, hj, e⟩ := List.mem_iff_getElem.1 h1
    rw [List.length_take] at hj
    rw [List.getElem_take] at e
    have := (List.getElem_inj hn).1 e
    omega
  rw [decide_eq_false this, Bool.and_false]
set_option maxHeartbeats 1000000 in
theorem unln_any (v : Value) (l : List Tx) (w : World) (hv : Vs sv w v l) (hl : l.length ≤ 1000) (hb : ∀ x ∈ l, x.length ≤ 1000000000) :
    Calls Tryz.prog 83 #[v] w fun e w' => e = .returned (.bool (unlB l)) ∧ Fr Non w w' := by
  have HV := Lib.hid hv
  obtain ⟨A, c, rfl, hlc, hn, hcell⟩ := hv
  have HC := Lib.hid hcell
  have HN := Lib.hid hn
  have HB := Lib.hid hb
  have HLC := Lib.hid hlc
  clear hcell hn hb hlc
  go_enter Tryz.func83, Tryz.ntmps83
  go_wp2
  go_loopw [7] (fun i wr => ∃ (k : Nat), k ≤ l.length ∧ i = .int .i64 k ∧ Hid (unlK l k) ∧ Hid (Fr Non w wr)) (fun i _ => l.length - (intOf i).toNat)
  case atStart => exact ⟨0, Nat.zero_le _, rfl, Lib.hid (unlK_zero l), Lib.hid (Fr.refl _ _)⟩
  case round =>
    obtain ⟨k, hk, rfl, HT, FR⟩ := hrel
    by_cases hlt : k < l.length
    · cases A with
      | none => have := HN.out rfl; have := HLC.out; omega
      | some a =>
        have c0 := (FR.out.cell (World.block_lt_of_cell? _ _ (HC.out a rfl k hlt)) (fun e => e)).trans (HC.out a rfl k hlt)
        unfold sv at c0
        have HX := Lib.hid (fun e => unl_bad hlt e)
        have HX2 := Lib.hid (fun e => unl_dup hlt e)
        have HY := Lib.hid (fun e e2 => unlK_more hlt HT.out e e2)
        have N := Lib.hid (fun W => sname_any l[k] W (HB.out _ (List.getElem_mem hlt)))
        obtain ⟨A', c', hrun, hvs, -⟩ := slice_hiG el_str (some a) l.length c k .i64 (k : Int) rfl (by omega) HLC.out
        have HP := Lib.hid (fun W (hf : Fr Non w W) => pconts_any _ (l.take k) l[k] W (hvs sv W l rfl (HV.out.non hf)) (by rw [List.length_take]; omega))
        clear HT hvs
        generalize l[k] = y at *
        generalize l.take k = m at *
        cases hy : nameB y
        · have HE := Lib.hid (HX.out hy)
          rw [hy] at N
          clear HX HX2 HY HP hy hrun
          go_wp2_with fail
          refine (N.out _).mono ?_
          rintro e w1 ⟨rfl, f1⟩
          go_wp2
          go_ret
          exact ⟨ret_boolE HE.out.symm, FR.out.trans f1⟩
        · by_cases hin : y ∈ m
          · have HE := Lib.hid (HX2.out hin)
            rw [hy] at N
            rw [decide_eq_true hin] at HP
            clear HX HX2 HY hy hin
            go_wp2_with fail
            refine (N.out _).mono ?_
            rintro e w1 ⟨rfl, f1⟩
            have F1 := Lib.hid (FR.out.trans f1)
            clear f1
            go_wp2_with fail
            refine (HP.out _ F1.out).mono ?_
            rintro e w2 ⟨rfl, f2⟩
            go_wp2
            go_ret
            exact ⟨ret_boolE HE.out.symm, F1.out.trans f2⟩
          · have HE := Lib.hid (HY.out hy hin)
            rw [hy] at N
            rw [decide_eq_false hin] at HP
            clear HX HX2 HY hy hin
            go_wp2_with fail
            refine (N.out _).mono ?_
            rintro e w1 ⟨rfl, f1⟩
            have F1 := Lib.hid (FR.out.trans f1)
            clear f1
            go_wp2_with fail
            refine (HP.out _ F1.out).mono ?_
            rintro e w2 ⟨rfl, f2⟩
            go_wp2
            go_roundw
            case rel => exact ⟨k + 1, by omega, by go_num, HE, Lib.hid (F1.out.trans f2)⟩
            case measure => simp [intOf]; omega
    · have HE := Lib.hid (unlK_all (by omega) HT.out)
      clear HT
      go_wp2
      go_ret
      exact ⟨ret_boolE HE.out.symm, FR.out⟩
end Go.Proofs.YtjcfjjhhbcgcmaaGreat


namespace Go.Proofs.YtjcfjjhhbcgcmaaGreat
set_option linter.unusedVariables false
set_option linter.unusedSimpArgs false
set_option maxRecDepth 100000
open Go.RowKit

set_option maxHeartbeats 1000000 in
theorem mplain_any (q : Qy) (c : Value) (s : Kv) (g : Value) (w : World) (hq : QyS w q c s g) (hs : BgQ q) :
    Calls Tryz.prog 54 #[qyV q c s g] w fun e w' => e = .returned (.bool (plainQ q)) ∧ Fr Non w w' := by
  have Q0 := Lib.hid (Qin.new hq)
  have U := Lib.hid (fun W (h : QyS W q c s g) => unln_any c q.cols W h.cols (by have := hs.cols; omega) (fun x hx => by have := hs.names x hx; omega))
  have HE0 : Hid (plainQ q = (decide (q.aggs.length = 0) && (decide (q.by_ = []) && (decide (q.cols.length ≤ 6) && unlB q.cols)))) := Lib.hid rfl
  have hlc := hs.cols
  have hlg := hs.aggs
  generalize plainQ q = r at *
  generalize unlB q.cols = bu at *
  obtain ⟨cA, cc, hce⟩ := hq.cols.shape
  obtain ⟨gA, gc, hge⟩ := hq.aggs.shape
  clear hq hs
  obtain ⟨tab, cols, ⟨⟨wo, wc, wm, ⟨wn, wi, wt⟩, wk, wp⟩, wks⟩, aggs, by_⟩ := q
  obtain ⟨sA, sn, sc⟩ := s
  dsimp only at hce hge
  subst hce
  subst hge
  unfold qyV qyC kidV at *
  dsimp only [Pd.hd, Pd.kids] at *
  by_cases ha : aggs.length = 0
  · have hab : ((aggs.length : Int) == 0) = true := by rw [beq_iff_eq]; omega
    by_cases hb : by_ = []
    · subst hb
      by_cases h6 : cols.length ≤ 6
      · have HE : Hid (r = bu) := Lib.hid (by rw [HE0.out, decide_eq_true ha, decide_eq_true h6]; rfl)
        clear HE0 ha
        go_enter Tryz.func54, Tryz.ntmps54
        go_wp2_with fail
        refine (U.out _ Q0.out.sls).mono ?_
        rintro e w1 ⟨rfl, f1⟩
        go_wp2
        go_ret
        exact ⟨ret_boolE HE.out.symm, Q0.out.fr.trans f1⟩
      · have HE : Hid (r = false) := Lib.hid (by rw [HE0.out, decide_eq_false h6]; simp)
        clear HE0 ha U
        go_enter Tryz.func54, Tryz.ntmps54
        go_wp2
        go_ret
        exact ⟨ret_boolE HE.out.symm, Q0.out.fr⟩
    · have hbb : (by_ == []) = false := by rw [beq_eq_false_iff_ne]; exact hb
      have HE : Hid (r = false) := Lib.hid (by rw [HE0.out, decide_eq_false hb]; simp)
      clear HE0 ha U hb
      go_enter Tryz.func54, Tryz.ntmps54
      go_wp2
      go_ret
      exact ⟨ret_boolE HE.out.symm, Q0.out.fr⟩
  · have hab : ((aggs.length : Int) == 0) = false := by rw [beq_eq_false_iff_ne]; omega
    have HE : Hid (r = false) := Lib.hid (by rw [HE0.out, decide_eq_false ha]; rfl)
    clear HE0 U
    go_enter Tryz.func54, Tryz.ntmps54
    go_wp2
    go_ret
    exact ⟨ret_boolE HE.out.symm, Q0.out.fr⟩

set_option maxHeartbeats 1000000 in
theorem mfold_any (q : Qy) (c : Value) (s : Kv) (g : Value) (w : World) (hq : QyS w q c s g) (hs : BgQ q) :
    Calls Tryz.prog 55 #[qyV q c s g] w fun e w' => e = .returned (.bool (foldQ q)) ∧ Fr Non w w' := by
  have Q0 := Lib.hid (Qin.new hq)
  have G := Lib.hid (fun W (h : QyS W q c s g) => gconts_any g q.aggs W h.aggs (by have := hs.aggs; omega) (fun x hx => by have := hs.acol x hx; omega))
  have N := Lib.hid (fun W => sname_any q.by_ W (by have := hs.by_; omega))
  have HE0 : Hid (foldQ q = (decide (0 < q.aggs.length) && (decide (q.aggs.length ≤ 4) && (q.aggs.all agB && (decide (q.cols.length = 0) && (decide (q.by_ = []) || nameB q.by_)))))) := Lib.hid rfl
  have hlc := hs.cols
  have hlg := hs.aggs
  generalize foldQ q = r at *
  generalize q.aggs.all agB = ba at *
  generalize nameB q.by_ = bn at *
  obtain ⟨cA, cc, hce⟩ := hq.cols.shape
  obtain ⟨gA, gc, hge⟩ := hq.aggs.shape
  clear hq hs
  obtain ⟨tab, cols, ⟨⟨wo, wc, wm, ⟨wn, wi, wt⟩, wk, wp⟩, wks⟩, aggs, by_⟩ := q
  obtain ⟨sA, sn, sc⟩ := s
  dsimp only at hce hge
  subst hce
  subst hge
  unfold qyV qyC kidV at *
  dsimp only [Pd.hd, Pd.kids] at *
  by_cases ha : aggs.length = 0
  · have HE : Hid (r = false) := Lib.hid (by rw [HE0.out, decide_eq_false (by omega)]; rfl)
    have ha0 : (aggs.length : Int) ≤ 0 := by omega
    clear HE0 G N ha
    go_enter Tryz.func55, Tryz.ntmps55
    go_wp2
    go_ret
    exact ⟨ret_boolE HE.out.symm, Q0.out.fr⟩
  · by_cases h4 : aggs.length ≤ 4
    · cases ba
      · have HE : Hid (r = false) := Lib.hid (by rw [HE0.out]; simp)
        clear HE0 N
        go_enter Tryz.func55, Tryz.ntmps55
        go_wp2_with fail
        refine (G.out _ Q0.out.sls).mono ?_
        rintro e w1 ⟨rfl, f1⟩
        have Q1 := Lib.hid (Q0.out.non f1)
        clear f1
        go_wp2
        go_ret
        exact ⟨ret_boolE HE.out.symm, Q1.out.fr⟩
      · by_cases hc : cols.length = 0
        · have hcb : ((cols.length : Int) == 0) = true := by rw [beq_iff_eq]; omega
          by_cases hb : by_ = []
          · have HE : Hid (r = true) := Lib.hid (by rw [HE0.out, decide_eq_true (show 0 < aggs.length by omega), decide_eq_true h4, decide_eq_true hc, decide_eq_true hb]; rfl)
            clear HE0 N hc
            subst hb
            go_enter Tryz.func55, Tryz.ntmps55
            go_wp2_with fail
            refine (G.out _ Q0.out.sls).mono ?_
            rintro e w1 ⟨rfl, f1⟩
            have Q1 := Lib.hid (Q0.out.non f1)
            clear f1
            obtain ⟨g0, g1, g2, g3, g4, g5, g6, g7, g8, g9, g10, g11, g12⟩ := Q1.out.cells
            dsimp only [Pd.hd, Pd.kids] at g0 g1 g2 g3 g4 g5 g6 g7 g8 g9 g10 g11 g12
            go_wp2
            go_ret
            exact ⟨ret_boolE HE.out.symm, Q1.out.fr⟩
          · have hbb : (by_ == []) = false := by rw [beq_eq_false_iff_ne]; exact hb
            have HE : Hid (r = bn) := Lib.hid (by rw [HE0.out, decide_eq_true (show 0 < aggs.length by omega), decide_eq_true h4, decide_eq_true hc, decide_eq_false hb]; rfl)
            clear HE0 hb hc
            go_enter Tryz.func55, Tryz.ntmps55
            go_wp2_with fail
            refine (G.out _ Q0.out.sls).mono ?_
            rintro e w1 ⟨rfl, f1⟩
            have Q1 := Lib.hid (Q0.out.non f1)
            clear f1
            obtain ⟨g0, g1, g2, g3, g4, g5, g6, g7, g8, g9, g10, g11, g12⟩ := Q1.out.cells
            dsimp only [Pd.hd, Pd.kids] at g0 g1 g2 g3 g4 g5 g6 g7 g8 g9 g10 g11 g12
            go_wp2_with fail
            refine (N.out _).mono ?_
            rintro e w2 ⟨rfl, f2⟩
            go_wp2
            go_ret
            exact ⟨ret_boolE HE.out.symm, Q1.out.fr.trans f2⟩
        · have hcb : ((cols.length : Int) == 0) = false := by rw [beq_eq_false_iff_ne]; omega
          have HE : Hid (r = false) := Lib.hid (by rw [HE0.out, decide_eq_false hc]; simp)
          clear HE0 N hc
          go_enter Tryz.func55, Tryz.ntmps55
          go_wp2_with fail
          refine (G.out _ Q0.out.sls).mono ?_
          rintro e w1 ⟨rfl, f1⟩
          have Q1 := Lib.hid (Q0.out.non f1)
          clear f1
          obtain ⟨g0, g1, g2, g3, g4, g5, g6, g7, g8, g9, g10, g11, g12⟩ := Q1.out.cells
          dsimp only [Pd.hd, Pd.kids] at g0 g1 g2 g3 g4 g5 g6 g7 g8 g9 g10 g11 g12
          go_wp2
          go_ret
          exact ⟨ret_boolE HE.out.symm, Q1.out.fr⟩
    · have HE : Hid (r = false) := Lib.hid (by rw [HE0.out, decide_eq_false h4]; simp)
      clear HE0 G N
      go_enter Tryz.func55, Tryz.ntmps55
      go_wp2
      go_ret
      exact ⟨ret_boolE HE.out.symm, Q0.out.fr⟩

set_option maxHeartbeats 2000000 in
theorem qmay_big (q : Qy) (c : Value) (s : Kv) (g : Value) (w : World) (hq : QyS w q c s g) (hs : BgQ q) :
    Calls Tryz.prog 36 #[qyV q c s g] w fun e w' => e = .returned (.bool (mayQ q)) ∧ Fr Non w w' := by
  have Q0 := Lib.hid (Qin.new hq)
  have N := Lib.hid (fun W => sname_any q.tab W (by have := hs.tab; omega))
  have P := Lib.hid (fun W (h : QyS W q c s g) => pmay_big q.whr.hd s q.whr.kids W h.kids h.num (by rw [← Pd.eta]; exact hs.lens) (by rw [← Pd.eta]; exact hs.deep))
  rw [← Pd.eta] at P
  have A1 := Lib.hid (fun W (h : QyS W q c s g) => mplain_any q c s g W h hs)
  have A2 := Lib.hid (fun W (h : QyS W q c s g) => mfold_any q c s g W h hs)
  have HE : Hid (mayQ q = (nameB q.tab && (mayP q.whr && (plainQ q || foldQ q)))) := Lib.hid rfl
  generalize mayQ q = r at *
  generalize nameB q.tab = b1 at *
  generalize mayP q.whr = b2 at *
  generalize plainQ q = b3 at *
  generalize foldQ q = b4 at *
  unfold pdV pdC at P
  obtain ⟨cA, cc, hce⟩ := hq.cols.shape
  obtain ⟨gA, gc, hge⟩ := hq.aggs.shape
  clear hq hs
  obtain ⟨tab, cols, ⟨⟨wo, wc, wm, ⟨wn, wi, wt⟩, wk, wp⟩, wks⟩, aggs, by_⟩ := q
  obtain ⟨sA, sn, sc⟩ := s
  dsimp only at hce hge
  subst hce
  subst hge
  unfold qyV qyC kidV at *
  dsimp only [Pd.hd, Pd.kids] at *
  go_enter Tryz.func36, Tryz.ntmps36
  go_wp2_with fail
  refine (N.out _).mono ?_
  rintro e w1 ⟨rfl, f1⟩
  have Q1 := Lib.hid (Q0.out.non f1)
  clear f1
  obtain ⟨g0, g1, g2, g3, g4, g5, g6, g7, g8, g9, g10, g11, g12⟩ := Q1.out.cells
  dsimp only [Pd.hd, Pd.kids] at g0 g1 g2 g3 g4 g5 g6 g7 g8 g9 g10 g11 g12
  cases b1
  · go_wp2
    go_ret
    exact ⟨ret_boolE HE.out.symm, Q1.out.fr⟩
  · go_wp2_with fail
    refine (P.out _ Q1.out.sls).mono ?_
    rintro e w2 ⟨rfl, f2⟩
    have Q2 := Lib.hid (Q1.out.non f2)
    clear f2
    clear g0 g1 g2 g3 g4 g5 g6 g7 g8 g9 g10 g11 g12
    obtain ⟨g0, g1, g2, g3, g4, g5, g6, g7, g8, g9, g10, g11, g12⟩ := Q2.out.cells
    dsimp only [Pd.hd, Pd.kids] at g0 g1 g2 g3 g4 g5 g6 g7 g8 g9 g10 g11 g12
    cases b2
    · go_wp2
      go_ret
      exact ⟨ret_boolE HE.out.symm, Q2.out.fr⟩
    · go_wp2_with fail
      refine (A1.out _ Q2.out.sls).mono ?_
      rintro e w3 ⟨rfl, f3⟩
      have Q3 := Lib.hid (Q2.out.non f3)
      clear f3
      clear g0 g1 g2 g3 g4 g5 g6 g7 g8 g9 g10 g11 g12
      obtain ⟨g0, g1, g2, g3, g4, g5, g6, g7, g8, g9, g10, g11, g12⟩ := Q3.out.cells
      dsimp only [Pd.hd, Pd.kids] at g0 g1 g2 g3 g4 g5 g6 g7 g8 g9 g10 g11 g12
      cases b3
      · go_wp2_with fail
        refine (A2.out _ Q3.out.sls).mono ?_
        rintro e w4 ⟨rfl, f4⟩
        have Q4 := Lib.hid (Q3.out.non f4)
        clear f4
        go_wp2
        go_ret
        exact ⟨ret_boolE HE.out.symm, Q4.out.fr⟩
      · go_wp2
        go_ret
        exact ⟨ret_boolE HE.out.symm, Q3.out.fr⟩
theorem qmay_any (q : Qy) (c : Value) (s : Kv) (g : Value) (w : World) (hq : QyS w q c s g) (hs : SmQ q) :
    Calls Tryz.prog 36 #[qyV q c s g] w fun e w' => e = .returned (.bool (mayQ q)) ∧ Fr Non w w' := qmay_big q c s g w hq hs.big
end Go.Proofs.YtjcfjjhhbcgcmaaGreat


namespace Go.Proofs.YtjcfjjhhbcgcmaaGreat
set_option linter.unusedVariables false
set_option linter.unusedSimpArgs false
set_option maxRecDepth 100000
open Go.RowKit

theorem cloneS_any (v : Value) (l : List Tx) (w : World) (h : Vs sv w v l) (hl : l.length < 1000000000) :
    Calls Tryz.prog 89 #[v] w fun e w' => ∃ u, e = .returned u ∧ Ow sv 9 w' w.heap.size u l ∧ Fr Non w w' := by
  have HB := Lib.hid h
  have hq := fun (W : World) (a : Option Addr) (n c : Nat) => Lib.run_eql_slice_nil (P := Tryz.prog) W 23 9 a n c 0 0 Tryz.underlying23
  obtain ⟨A, c, rfl, hlc, hn, _⟩ := h
  cases A with
  | none =>
    have hc : c = 0 := hn rfl
    subst hc
    have hl0 : l = [] := List.eq_nil_of_length_eq_zero (by omega)
    subst hl0
    go_enter Tryz.func89, Tryz.ntmps89
    go_wp2
    go_ret
    exact ⟨_, rfl, ow_nil _ _, Fr.refl _ _⟩
  | some a =>
    clear hn
    go_enter Tryz.func89, Tryz.ntmps89
    go_wp2_with (at_builtin; refine wpList_appG el_str sv_one rfl (.tmp 5) (.tmp 6) rfl w.heap.size (.slice (some ⟨w.heap.size, 0, none⟩) 0 0) (.slice (some a) l.length c) [] l rfl (ow_lit0 _ _ _ rfl (Nat.le_refl _)) rfl (HB.out.non ((Fr.refl _ _).alloc _)) (by simp; omega) (by simp) ?_; intro v3 w3 hown hf3)
    go_ret
    refine ⟨_, rfl, by simpa using hown, ((Fr.refl Non w).alloc _).fresh hf3 (fun k hk => by simp [Value.ownBlock] at hk; omega)⟩

theorem wants_any (q : Qy) (c : Value) (s : Kv) (g : Value) (w : World) (hq : QyS w q c s g) (hs : SmQ q) :
    Calls Tryz.prog 87 #[qyV q c s g] w fun e w' => e = .returned (.bool (allQ q)) ∧ Fr Non w w' := by
  have Q0 := Lib.hid (Qin.new hq)
  have HE0 : Hid (allQ q = (decide (q.cols.length = 0) && decide (q.aggs.length = 0))) := Lib.hid rfl
  have hlc := hs.cols
  have hlg := hs.aggs
  generalize allQ q = r at *
  obtain ⟨cA, cc, hce⟩ := hq.cols.shape
  obtain ⟨gA, gc, hge⟩ := hq.aggs.shape
  clear hq hs
  obtain ⟨tab, cols, ⟨⟨wo, wc, wm, ⟨wn, wi, wt⟩, wk, wp⟩, wks⟩, aggs, by_⟩ := q
  obtain ⟨sA, sn, sc⟩ := s
  dsimp only at hce hge
  subst hce
  subst hge
  unfold qyV qyC kidV at *
  dsimp only [Pd.hd, Pd.kids] at *
  by_cases hc : cols.length = 0
  · have hcb : ((cols.length : Int) == 0) = true := by rw [beq_iff_eq]; omega
    by_cases hg : aggs.length = 0
    · have hgb : ((aggs.length : Int) == 0) = true := by rw [beq_iff_eq]; omega
      have HE : Hid (r = true) := Lib.hid (by rw [HE0.out, decide_eq_true hc, decide_eq_true hg]; rfl)
      clear HE0 hc hg
      go_enter Tryz.func87, Tryz.ntmps87
      go_wp2
      go_ret
      exact ⟨ret_boolE HE.out.symm, Q0.out.fr⟩
    · have hgb : ((aggs.length : Int) == 0) = false := by rw [beq_eq_false_iff_ne]; omega
      have HE : Hid (r = false) := Lib.hid (by rw [HE0.out, decide_eq_true hc, decide_eq_false hg]; rfl)
      clear HE0 hc hg
      go_enter Tryz.func87, Tryz.ntmps87
      go_wp2
      go_ret
      exact ⟨ret_boolE HE.out.symm, Q0.out.fr⟩
  · have hcb : ((cols.length : Int) == 0) = false := by rw [beq_eq_false_iff_ne]; omega
    have HE : Hid (r = false) := Lib.hid (by rw [HE0.out, decide_eq_false hc]; rfl)
    clear HE0 hc
    go_enter Tryz.func87, Tryz.ntmps87
    go_wp2
    go_ret
    exact ⟨ret_boolE HE.out.symm, Q0.out.fr⟩

end Go.Proofs.YtjcfjjhhbcgcmaaGreat


namespace Go.Proofs.YtjcfjjhhbcgcmaaGreat
set_option linter.unusedVariables false
set_option linter.unusedSimpArgs false
set_option maxRecDepth 100000
open Go.RowKit Go.Maps

/-- how many unlike ones -/
def cntU : List Tx → Nat
  | [] => 0
  | y :: r => if y ∈ r then cntU r else cntU r + 1
theorem cntU_le (l : List Tx) : cntU l ≤ l.length := by
  induction l with
  | nil => exact Nat.le_refl _
  | cons y r ih =>
    unfold cntU
    rw [List.length_cons]
    split <;> omega
theorem cntU_all (l : List Tx) : cntU l = l.length ↔ l.Nodup := by
  induction l with
  | nil => simp [cntU]
  | cons y r ih =>
    have := cntU_le r
    unfold cntU
    rw [List.length_cons, List.nodup_cons]
    split
    · rename_i h
      constructor
      · intro e; omega
      · intro e; exact absurd h e.1
    · rename_i h
      rw [← ih]
      constructor
      · intro e; exact ⟨h, by omega⟩
      · intro e; omega

/-- block b is a map of at most n texts: those of ks -/
def MapS (w : World) (b n : Nat) (ks : List Tx) : Prop :=
  ∃ D : DataW Unit, w.ownsMap Tryz.prog 9 (plainElem Tryz.prog 3) b n D ∧ (∀ x, has D (.string x) = decide (x ∈ ks)) ∧ Maps.size D = cntU ks
theorem MapS.lt {w : World} {b n : Nat} {ks : List Tx} (h : MapS w b n ks) : b < w.heap.size := by
  obtain ⟨D, h1, _⟩ := h; exact h1.lt
theorem MapS.fr {S : Nat → Prop} {w w' : World} {b n : Nat} {ks : List Tx} (h : MapS w b n ks) (hf : Fr S w w') (hn : ¬ S b) : MapS w' b n ks := by
  obtain ⟨D, h1, h2, h3⟩ := h
  have hlt := h1.lt
  obtain ⟨es, clock, hb, F, hs, hD⟩ := h1
  exact ⟨D, ⟨es, clock, (hf.block b hlt hn).trans hb, F, hs, hD⟩, h2, h3⟩
theorem MapS.made (w : World) : MapS (w.alloc (.map #[] 0)) w.heap.size 0 [] :=
  ⟨.map [], World.ownsMap_made w _ _ _, fun x => by simp [has], rfl⟩

theorem keyLitS (x : Tx) : WideAt.IsKeyLit (.string x) := trivial
theorem keyStrS {x : Tx} (hx : x.length ≤ maxLen) : keyOf Tryz.prog 9 (.string ⟨x.toArray⟩) = some (.string x) := by
  have := Go.WideMaps.keyOf_string_mk (P := Tryz.prog) Tryz.underlying9 (s := ⟨x.toArray⟩) (by simpa [ByteArray.size] using hx)
  simpa using this
theorem MapS.put {w w' : World} {b n : Nat} {ks : List Tx} {D : DataW Unit} (h1 : w.ownsMap Tryz.prog 9 (plainElem Tryz.prog 3) b n D) (h2 : ∀ x, has D (.string x) = decide (x ∈ ks)) (h3 : Maps.size D = cntU ks)
    (y : Tx) (v : Int) (h : w'.ownsMap Tryz.prog 9 (plainElem Tryz.prog 3) b (n + 1) (D.put (.string y) (.lit (.int .i64 v)))) : MapS w' b (n + 1) (y :: ks) := by
  have hm := h1.isMap
  refine ⟨_, h, fun x => ?_, ?_⟩
  · by_cases he : x = y
    · subst he; rw [has_put_same hm (keyLitS x)]; simp
    · rw [has_put_other (by simpa using he), h2]; simp [he]
  · rw [Maps.size_put (h1.tidy (string_keyed Tryz.underlying9)), h2, h3]
    rw [show cntU (y :: ks) = if y ∈ ks then cntU ks else cntU ks + 1 from rfl]
    by_cases hy : y ∈ ks <;> simp [hy]

/-- 'm[y] = v' -/
theorem wpList_putS (w : World) {ops : Array Oper} {rest : List Oper} {o : Oper} {a : Act} {Q : Exit → Act → World → Prop} (hg : o.guard = none) (m x v : Operand) (hop : o.op = Op.mapUpdate 111 m x v)
    (b n : Nat) (ks : List Tx) (hm : a.eval m = .map (some b)) (hown : MapS w b n ks) (hn : n ≤ 1000000000) (y : Tx) (z : Int) (hx : a.eval x = .string ⟨y.toArray⟩) (hv : a.eval v = .int .i64 z)
    (hy : y.length ≤ 9223372036854775807) (hz1 : -9223372036854775808 ≤ z) (hz2 : z ≤ 9223372036854775807)
    (hK : ∀ w', MapS w' b (n + 1) (y :: ks) → Fr (One b) w w' → wpList Tryz.prog ops Q rest (a.put o.dst undef) w') : wpList Tryz.prog ops Q (o :: rest) a w := by
  obtain ⟨D, h1, h2, h3⟩ := hown
  refine wpList_mapUpdate_own w hg m x v 111 hop 9 3 (string_keyed Tryz.underlying9) Tryz.underlying111 _ b n D hm h1 (by unfold maxLen; omega) _ _ (.string y) hx hv (keyStrS (by simpa [maxLen] using hy)) (.lit (.int .i64 z)) [] (plainElem_int Tryz.underlying3 (WalkArith.wf_i64 ⟨hz1, hz2⟩)) ?_
  intro w' hw' hg'
  exact hK w' (MapS.put h1 h2 h3 y z hw') ((Fr.of_grown hg').mono fun k _ e => by simpa [One, eq_comm] using e)
/-- 'len(m)' -/
theorem MapS.len {w : World} {b n : Nat} {ks : List Tx} (h : MapS w b n ks) (ty : TypeId) : (Builtin.len_ #[111] ty #[.map (some b)]).run Tryz.prog w = .ok (.int .i64 (cntU ks)) w := by
  obtain ⟨D, h1, h2, h3⟩ := h
  rw [← h3]
  exact h1.len Tryz.underlying111 ty
end Go.Proofs.YtjcfjjhhbcgcmaaGreat


namespace Go.Proofs.YtjcfjjhhbcgcmaaGreat
set_option linter.unusedVariables false
set_option linter.unusedSimpArgs false
set_option maxRecDepth 100000
open Go.RowKit

theorem mayC_nullT (ty : Int) : mayC ty true ⟨true, 0, []⟩ = isTy ty := by rw [mayC_null]; simp [ceq]
theorem ktype_any (ty : Int) (w : World) : Calls Tryz.prog 86 #[.int .i64 ty] w fun e w' => e = .returned (.bool (isTy ty)) ∧ Fr Non w w' := by
  have M := fun W => may_any ty true ⟨true, 0, []⟩ W
  rw [mayC_nullT] at M
  unfold clV clC at M
  dsimp only at M
  go_enter Tryz.func86, Tryz.ntmps86
  go_wp2_with fail
  refine (M _).mono ?_
  rintro e w1 ⟨rfl, f1⟩
  go_wp2
  go_ret
  exact ⟨rfl, f1⟩

theorem maynot_any (c : Co) (w : World) (hc : c.name.length ≤ 1000000000) : Calls Tryz.prog 57 #[coV c] w fun e w' => e = .returned (.bool (badC c)) ∧ Fr Non w w' := by
  obtain ⟨n, ty, nl⟩ := c
  have M := fun W => sname_any n W hc
  have T := fun W => ktype_any ty W
  have b0 := co_new w ⟨n, ty, nl⟩
  have g0 : _ = _ := b0.cell 0
  simp at g0
  unfold badC coV coC
  dsimp only
  cases hn : nameB n
  · simp only [hn] at M
    replace M := Lib.hid M
    clear T
    go_enter Tryz.func57, Tryz.ntmps57
    go_wp2_with fail
    refine (M.out _).mono ?_
    rintro e w1 ⟨rfl, f1⟩
    go_wp2
    go_ret
    exact ⟨rfl, ((Fr.refl _ _).alloc _).trans f1⟩
  · simp only [hn] at M
    replace M := Lib.hid M
    replace T := Lib.hid T
    replace b0 : Hid (CoB _ _ _) := Lib.hid b0
    go_enter Tryz.func57, Tryz.ntmps57
    go_wp2_with fail
    refine (M.out _).mono ?_
    rintro e w1 ⟨rfl, f1⟩
    have g1 := (b0.out.fr f1 (fun e => e)).cell 1
    simp at g1
    go_wp2_with fail
    refine (T.out _).mono ?_
    rintro e w2 ⟨rfl, f2⟩
    go_wp2
    go_ret
    exact ⟨ret_boolE (by simp), (((Fr.refl _ _).alloc _).trans f1).trans f2⟩

theorem idx_any (v : Value) (l : List Co) (w : World) (hv : Ks w v l) (hl : l.length ≤ 1000000000) (hb : ∀ c ∈ l, c.name.length ≤ 1000000000) :
    Calls Tryz.prog 85 #[v, .func (.func 57) #[] #[]] w fun e w' => ∃ z : Int, e = .returned (.int .i64 z) ∧ decide (0 ≤ z) = l.any badC ∧ Fr Non w w' := by
  obtain ⟨A, c, rfl, hlc, hn, hcell⟩ := hv
  have HC := Lib.hid hcell
  have HN := Lib.hid hn
  have HB := Lib.hid hb
  clear hcell hn hb
  go_enter Tryz.func85, Tryz.ntmps85
  go_wp2
  go_loopw [8] (fun i wr => ∃ (k : Nat), k ≤ l.length ∧ i = .int .i64 k ∧ Hid ((l.take k).any badC = false) ∧ Fr Non w wr) (fun i _ => l.length - (intOf i).toNat)
  case atStart => exact ⟨0, Nat.zero_le _, rfl, Lib.hid rfl, Fr.refl _ _⟩
  case round =>
    obtain ⟨k, hk, rfl, hne, hfr⟩ := hrel
    by_cases hlt : k < l.length
    · cases A with
      | none => have := HN.out rfl; omega
      | some a =>
        obtain ⟨hc0, hc1, hc2⟩ := co_lit ((HC.out a rfl k hlt).non hfr)
        have HY := Lib.hid (fun h => any_more hlt hne.out h)
        have HX : Hid (badC l[k] = true → l.any badC = true) := Lib.hid (fun h => List.any_eq_true.2 ⟨_, List.getElem_mem hlt, h⟩)
        have M := fun W => maynot_any l[k] W (HB.out _ (List.getElem_mem hlt))
        clear hne
        generalize l[k] = x at *
        obtain ⟨xn, xt, xb⟩ := x
        unfold coV coC at M
        dsimp only at hc0 hc1 hc2 HY HX M
        have HF := Lib.hid hfr
        clear hfr
        cases hx : badC ⟨xn, xt, xb⟩
        · have HE := Lib.hid (HY.out hx)
          simp only [hx] at M
          replace M := Lib.hid M
          clear HX HY hx
          go_wp2_with fail
          refine (M.out _).mono ?_
          rintro e w2 ⟨rfl, f2⟩
          go_wp2
          go_roundw
          case rel => exact ⟨k + 1, by omega, by go_num, HE, HF.out.trans f2⟩
          case measure => simp [intOf]; omega
        · have HE := Lib.hid (HX.out hx)
          simp only [hx] at M
          replace M := Lib.hid M
          clear HX HY hx
          go_wp2_with fail
          refine (M.out _).mono ?_
          rintro e w2 ⟨rfl, f2⟩
          go_wp2
          go_ret
          exact ⟨_, rfl, by rw [HE.out]; exact decide_eq_true (by omega), HF.out.trans f2⟩
    · have HE : Hid (l.any badC = false) := Lib.hid (by have := hne.out; rwa [List.take_of_length_le (by omega)] at this)
      clear hne
      go_wp2
      go_ret
      exact ⟨_, rfl, by rw [HE.out]; rfl, hfr⟩
theorem contains_any (v : Value) (l : List Co) (w : World) (hv : Ks w v l) (hl : l.length ≤ 1000000000) (hb : ∀ c ∈ l, c.name.length ≤ 1000000000) :
    Calls Tryz.prog 56 #[v, .func (.func 57) #[] #[]] w fun e w' => e = .returned (.bool (l.any badC)) ∧ Fr Non w w' := by
  have h0 := Lib.hid (idx_any v l w hv hl hb)
  clear hv hb
  go_enter Tryz.func56, Tryz.ntmps56
  go_wp2_with fail
  refine h0.out.mono ?_
  rintro e w1 ⟨z, rfl, hz, f1⟩
  go_wp2
  go_ret
  exact ⟨rfl, f1⟩

/-- the names up to k, the last one first -/
def nmsR (l : List Co) (k : Nat) : List Tx := (namesC (l.take k)).reverse
theorem nmsR_more {l : List Co} {k : Nat} (h : k < l.length) : nmsR l (k + 1) = l[k].name :: nmsR l k := by
  unfold nmsR namesC
  rw [List.take_succ_eq_append_getElem h, List.map_append, List.reverse_append]; rfl
theorem nmsR_all {l : List Co} {k : Nat} (h : k = l.length) : decide ((cntU (nmsR l k) : Int) = l.length) = decide ((namesC l).Nodup) := by
  subst h
  unfold nmsR
  rw [List.take_length]
  have h1 := cntU_all (namesC l).reverse
  rw [List.length_reverse, (List.reverse_perm (namesC l)).nodup_iff] at h1
  have h2 : (namesC l).length = l.length := by unfold namesC; rw [List.length_map]
  rw [h2] at h1
  rw [decide_eq_decide, ← h1]
  omega

set_option maxHeartbeats 1000000 in
theorem unlike_any (v : Value) (l : List Co) (w : World) (hv : Ks w v l) (hl : l.length ≤ 1000000000) (hb : ∀ c ∈ l, c.name.length ≤ 1000000000) :
    Calls Tryz.prog 58 #[v] w fun e w' => e = .returned (.bool (decide ((namesC l).Nodup))) ∧ Fr Non w w' := by
  obtain ⟨A, c, rfl, hlc, hn, hcell⟩ := hv
  have HC := Lib.hid hcell
  have HN := Lib.hid hn
  have HB := Lib.hid hb
  clear hcell hn hb
  have hmm := @run_makeMap Tryz.prog
  go_enter Tryz.func58, Tryz.ntmps58
  go_wp2
  have hm0 := MapS.made w
  have hf0 : Fr Non w (w.alloc (.map #[] 0)) := (Fr.refl _ _).alloc _
  go_loopw [9] (fun i wr => ∃ (k : Nat), k ≤ l.length ∧ i = .int .i64 k ∧ MapS wr w.heap.size k (nmsR l k) ∧ Fr Non w wr) (fun i _ => l.length - (intOf i).toNat)
  case atStart => exact ⟨0, Nat.zero_le _, rfl, hm0, hf0⟩
  case round =>
    clear hm0 hf0
    obtain ⟨k, hk, rfl, hm, hfr⟩ := hrel
    by_cases hlt : k < l.length
    · cases A with
      | none => have := HN.out rfl; omega
      | some a =>
        obtain ⟨hc0, hc1, hc2⟩ := co_lit ((HC.out a rfl k hlt).non hfr)
        have HM := Lib.hid (nmsR_more hlt)
        have hxl := HB.out _ (List.getElem_mem hlt)
        generalize l[k] = x at *
        obtain ⟨xn, xt, xb⟩ := x
        dsimp only at hc0 hc1 hc2 HM hxl
        have f1 := (Fr.refl Non wr).alloc (.cells #[.string ⟨xn.toArray⟩, .int .i64 xt, .bool xb] 56)
        have hm1 := Lib.hid (hm.fr f1 (fun e => e))
        have HF := Lib.hid (hfr.trans f1)
        have g0 := (co_new wr ⟨xn, xt, xb⟩).cell 0
        simp at g0
        clear hm hfr f1
        go_wp2_with (at_mapUpdate; refine wpList_putS _ rfl _ _ _ rfl w.heap.size k (nmsR l k) rfl hm1.out (by omega) xn (k : Int) rfl rfl (by omega) (by omega) (by omega) ?_; intro w1 hm2 hf2)
        go_roundw
        case rel => exact ⟨k + 1, by omega, by go_num, by rw [HM.out]; exact hm2, HF.out.fresh hf2 (fun q hq => by have : q = w.heap.size := hq; omega)⟩
        case measure => simp [intOf]; omega
    · have HE := Lib.hid (nmsR_all (l := l) (k := k) (by omega))
      have hlen := fun ty => hm.len ty
      clear hm
      go_wp2
      go_ret
      exact ⟨ret_boolE HE.out, hfr⟩

set_option maxHeartbeats 1000000 in
theorem scheck_any (v : Value) (l : List Co) (w : World) (hv : Ks w v l) (hl : l.length ≤ 1000000000) (hb : ∀ c ∈ l, c.name.length ≤ 1000000000) :
    Calls Tryz.prog 37 #[v] w fun e w' => e = .returned (.int .i64 (chkC l)) ∧ Fr Non w w' := by
  obtain ⟨A, c, rfl⟩ := hv.shape
  have HV := Lib.hid hv
  have C1 := Lib.hid (contains_any _ l w hv hl hb)
  have U1 := fun W h => unlike_any (.slice A l.length c) l W h hl hb
  replace U1 := Lib.hid U1
  clear hv hb
  by_cases h0 : l.length = 0
  · have H := Lib.hid (chk_none h0)
    go_enter Tryz.func37, Tryz.ntmps37
    go_wp2
    go_ret
    exact ⟨ret_int H.out.symm, Fr.refl _ _⟩
  · have h0b : ((l.length : Int) == 0) = false := by rw [beq_eq_false_iff_ne]; omega
    have H0 := Lib.hid h0
    clear h0
    cases ha : l.any badC
    · have HA := Lib.hid ha
      rw [ha] at C1
      clear ha
      by_cases hd : (namesC l).Nodup
      · have HD := Lib.hid hd
        rw [decide_eq_true hd] at U1
        clear hd
        by_cases h6 : 6 < l.length
        · have H := Lib.hid (chk_many H0.out HA.out HD.out h6)
          go_enter Tryz.func37, Tryz.ntmps37
          go_wp2_with fail
          refine C1.out.mono ?_
          rintro e w1 ⟨rfl, f1⟩
          go_wp2_with fail
          refine (U1.out _ (HV.out.non f1)).mono ?_
          rintro e w2 ⟨rfl, f2⟩
          go_wp2
          go_ret
          exact ⟨ret_int H.out.symm, f1.trans f2⟩
        · have H := Lib.hid (chk_ok H0.out HA.out HD.out h6)
          go_enter Tryz.func37, Tryz.ntmps37
          go_wp2_with fail
          refine C1.out.mono ?_
          rintro e w1 ⟨rfl, f1⟩
          go_wp2_with fail
          refine (U1.out _ (HV.out.non f1)).mono ?_
          rintro e w2 ⟨rfl, f2⟩
          go_wp2
          go_ret
          exact ⟨ret_int H.out.symm, f1.trans f2⟩
      · have H := Lib.hid (chk_dup hd)
        rw [decide_eq_false hd] at U1
        clear hd
        go_enter Tryz.func37, Tryz.ntmps37
        go_wp2_with fail
        refine C1.out.mono ?_
        rintro e w1 ⟨rfl, f1⟩
        go_wp2_with fail
        refine (U1.out _ (HV.out.non f1)).mono ?_
        rintro e w2 ⟨rfl, f2⟩
        go_wp2
        go_ret
        exact ⟨ret_int H.out.symm, f1.trans f2⟩
    · have H := Lib.hid (chk_any ha)
      rw [ha] at C1
      clear ha
      go_enter Tryz.func37, Tryz.ntmps37
      go_wp2_with fail
      refine C1.out.mono ?_
      rintro e w1 ⟨rfl, f1⟩
      go_wp2
      go_ret
      exact ⟨ret_int H.out.symm, f1⟩
end Go.Proofs.YtjcfjjhhbcgcmaaGreat


namespace Go.Proofs.YtjcfjjhhbcgcmaaGreat
set_option linter.unusedVariables false
set_option linter.unusedSimpArgs false
set_option maxRecDepth 100000
open Go.RowKit

theorem okS_nil {cols : List Co} {h : Ph} (e : h.col = []) : okT cols h = true := by unfold okT; rw [if_pos e]
theorem okS_none {cols : List Co} {h : Ph} (e : ¬ h.col = []) (f : findC cols h.col = none) : okT cols h = false := by unfold okT; rw [if_neg e, f]
theorem okS_some {cols : List Co} {h : Ph} {k : Nat} (e : ¬ h.col = []) (f : findC cols h.col = some k) (hk : k < cols.length) : okT cols h = if h.op = 2 then cols[k].ty == h.kind else if h.op = 4 then cols[k].ty == 3 else true := by
  unfold okT; rw [if_neg e, f]
  simp [hk]
theorem Ks.findS {w : World} {A : Option Addr} {n c : Nat} {cols : List Co} (h : Ks w (.slice A n c) cols) (k : Nat) (hk : k < cols.length) :
    ∃ a, A = some a ∧ n = cols.length ∧ w.cell? { block := (a.add (k * 3)).block, off := (a.add (k * 3)).off + 1 } = some (.int .i64 cols[k].ty) := by
  have hnl : n = cols.length := by
    obtain ⟨A0, c0, he⟩ := h.shape
    simp only [Value.slice.injEq] at he
    exact he.2.1
  obtain ⟨a, ha, hn, _, hc⟩ := Ns.addr h (by omega)
  exact ⟨a, ha, hn, (co_lit (hc k hk)).2.1⟩
set_option maxHeartbeats 4000000 in
theorem suits_any (cols : List Co) (hcl : cols.length ≤ 1000) (v : Value) (h : Ph) (t : Kv) (w : World) (hv : Ks w v cols) :
    Calls Tryz.prog 61 #[v, pdV h t] w fun e w' => e = .returned (.bool (okT cols h)) ∧ Fr Non w w' := by
  have F0 : Fr Non w (w.alloc (.cells (pdC h t) 28)) := (Fr.refl Non w).alloc _
  have HB := Lib.hid (pd_new w _ h t rfl)
  have FC := Lib.hid (fun W hw => sfind_any v cols h.col W hw (by omega))
  have HO1 := Lib.hid (fun e => okS_nil (cols := cols) (h := h) e)
  have HO2 := Lib.hid (fun e f => okS_none (cols := cols) (h := h) e f)
  have HO3 := Lib.hid (fun k e f hk => okS_some (cols := cols) (h := h) (k := k) e f hk)
  have HFL := Lib.hid (fun k (e : findC cols h.col = some k) => find_lt e)
  obtain ⟨vA, vc, hve⟩ := hv.shape
  have HV : Hid (Ks _ v cols) := Lib.hid (hv.non F0)
  have HF := Lib.hid F0
  clear F0 hv
  obtain ⟨ho, hc, hm, ⟨vn, vi, vt⟩, hkd, hp⟩ := h
  obtain ⟨A, n, c⟩ := t
  dsimp only at HO1 HO2 HO3 FC HFL
  unfold pdV
  unfold pdC kidV
  dsimp only
  subst hve
  generalize okT cols _ = r at *
  by_cases h0 : hc = []
  · subst h0
    have HE := Lib.hid (HO1.out rfl)
    clear HO1 HO2 HO3 FC HFL
    go_enter Tryz.func61, Tryz.ntmps61
    go_wp2
    go_ret
    exact ⟨ret_boolE HE.out.symm, HF.out⟩
  · have hb : (hc == []) = false := by rw [beq_eq_false_iff_ne]; exact h0
    cases hf : findC cols hc with
    | none =>
      have HE := Lib.hid (HO2.out h0 hf)
      simp only [hf] at FC
      clear HO1 HO2 HO3 HFL hf h0
      go_enter Tryz.func61, Tryz.ntmps61
      go_wp2_with fail
      refine (FC.out _ HV.out).mono ?_
      rintro e w1 ⟨rfl, f1⟩
      unfold findV
      go_wp2
      go_ret
      exact ⟨ret_boolE HE.out.symm, HF.out.trans f1⟩
    | some q =>
      have hql := HFL.out q hf
      have HO4 := Lib.hid (HO3.out q h0 hf hql)
      simp only [hf] at FC
      clear HO1 HO2 HO3 HFL hf h0
      have hqn : ((q : Int) < 0) = False := by simp
      by_cases h2 : ho = 2
      · subst h2
        have HE : Hid (r = (cols[q].ty == hkd)) := Lib.hid (by rw [HO4.out, if_pos rfl])
        clear HO4
        go_enter Tryz.func61, Tryz.ntmps61
        go_wp2_with fail
        refine (FC.out _ HV.out).mono ?_
        rintro e w1 ⟨rfl, f1⟩
        obtain ⟨g0, g1, g2, g3, g4, g5, g6, g7, g8⟩ := pdB_cells (HB.out.fr f1 (fun e => e))
        dsimp only at g0 g1 g2 g3 g4 g5 g6 g7 g8
        obtain ⟨ca, rfl, hcn, hct⟩ := Ks.findS (HV.out.non f1) q hql
        generalize cols[q].ty = ct at *
        have F1 := Lib.hid (HF.out.trans f1)
        clear f1 hcn
        unfold findV
        dsimp only
        go_wp2
        go_quiet (fail)
        go_wp2
        go_ret
        exact ⟨ret_boolE HE.out.symm, F1.out.drewN _⟩
      · by_cases h4 : ho = 4
        · subst h4
          have HE : Hid (r = (cols[q].ty == 3)) := Lib.hid (by rw [HO4.out, if_neg h2, if_pos rfl])
          clear HO4
          go_enter Tryz.func61, Tryz.ntmps61
          go_wp2_with fail
          refine (FC.out _ HV.out).mono ?_
          rintro e w1 ⟨rfl, f1⟩
          obtain ⟨g0, g1, g2, g3, g4, g5, g6, g7, g8⟩ := pdB_cells (HB.out.fr f1 (fun e => e))
          dsimp only at g0 g1 g2 g3 g4 g5 g6 g7 g8
          obtain ⟨ca, rfl, hcn, hct⟩ := Ks.findS (HV.out.non f1) q hql
          generalize cols[q].ty = ct at *
          have F1 := Lib.hid (HF.out.trans f1)
          clear f1 hcn
          unfold findV
          dsimp only
          go_wp2
          go_ret
          exact ⟨ret_boolE HE.out.symm, F1.out⟩
        · have HE : Hid (r = true) := Lib.hid (by rw [HO4.out, if_neg h2, if_neg h4])
          have hb3 : (ho == 2) = false := by rw [beq_eq_false_iff_ne]; exact h2
          have hb4 : (ho == 4) = false := by rw [beq_eq_false_iff_ne]; exact h4
          clear HO4
          go_enter Tryz.func61, Tryz.ntmps61
          go_wp2_with fail
          refine (FC.out _ HV.out).mono ?_
          rintro e w1 ⟨rfl, f1⟩
          obtain ⟨g0, g1, g2, g3, g4, g5, g6, g7, g8⟩ := pdB_cells (HB.out.fr f1 (fun e => e))
          dsimp only at g0 g1 g2 g3 g4 g5 g6 g7 g8
          have F1 := Lib.hid (HF.out.trans f1)
          clear f1
          unfold findV
          dsimp only
          go_wp2
          go_ret
          exact ⟨ret_boolE HE.out.symm, F1.out⟩

/-- the columns' variable lies in block g -/
def RcT (cols : List Co) (v : Value) (g : Nat) (W : World) (_ : Unit) (X : Nat → Prop) : Prop := Blk W g 22 #[v] ∧ Ks W v cols ∧ X = Non
set_option maxHeartbeats 2000000 in
theorem fits1_any (cols : List Co) (hcl : cols.length ≤ 1000) (v : Value) (w0 : World) (g : Nat) : Asks (RcT cols v g) (stepT cols) 60 g w0 := by
  intro W u X p t d dz hdz hF hr hk hb hlen hdep
  subst hdz
  obtain ⟨h, ks⟩ := p
  obtain ⟨hB, hV, rfl⟩ := hr
  dsimp only [Pd.hd, Pd.kids] at hk hb ⊢
  have F0 : Fr Non W (W.alloc (.cells (pdC h t) 28)) := (Fr.refl Non W).alloc _
  have S1 := Lib.hid (suits_any cols hcl v h t _ (hV.non F0))
  have hc0 := (hB.fr F0 (fun e => e)).cell 0
  have hgl := hB.lt
  have HS : Hid (stepT cols u (.mk h ks) d = bif okT cols h then some () else none) := Lib.hid (by unfold stepT; show (if okT cols h = true then some () else none) = _; cases okT cols h <;> rfl)
  have HB := Lib.hid hB
  have HV := Lib.hid hV
  have HF0 := Lib.hid F0
  obtain ⟨vA, vc, hve⟩ := hV.shape
  simp at hc0
  generalize stepT cols u _ d = r at *
  generalize okT cols h = b at *
  clear hk hlen hdep hB hV F0 hF
  obtain ⟨ho, hc, hm, ⟨vn, vi, vt⟩, hkd, hp⟩ := h
  obtain ⟨A, nn, c⟩ := t
  subst hve
  unfold pdV pdC kidV at S1 ⊢
  unfold pdC kidV at hc0
  dsimp only at S1 hc0 ⊢
  go_enter Tryz.func60, Tryz.ntmps60
  go_wp2_with fail
  refine S1.out.mono ?_
  rintro e w1 ⟨rfl, f1⟩
  go_wp2
  go_ret
  have f2 := HF0.out.trans f1
  refine ⟨by rw [HS.out]; cases b <;> rfl, f2, fun s' hs => ⟨Non, ⟨HB.out.fr f2 (fun e => e), HV.out.non f2, rfl⟩, fun q hq => .inl hq⟩⟩

set_option maxHeartbeats 4000000 in
theorem pfits_big (cols : List Co) (hcl : cols.length ≤ 1000) (hcb : ∀ c ∈ cols, c.name.length ≤ 1000) (v : Value) (h : Ph) (t : Kv) (ks : List Pd) (w : World) (hv : Ks w v cols) (hk : Kd w t ks) (hb : I64b h.val.num) (hlen : bigP (.mk h ks) = true) (hdep : depP (.mk h ks) ≤ 100) :
    Calls Tryz.prog 38 #[v, pdV h t] w fun e w' => e = .returned (.int .i64 (fitP cols (.mk h ks))) ∧ Fr Non w w' := by
  have F0 : Fr Non w ((w.alloc (.cells #[v] 22)).alloc (.cells (pdC h t) 28)) := ((Fr.refl Non w).alloc _).alloc _
  have e1 : (w.alloc (.cells #[v] 22)).heap.size = w.heap.size + 1 := by simp
  have PB := pd_new (w.alloc (.cells #[v] 22)) _ h t rfl
  rw [e1] at PB
  have VB : Blk ((w.alloc (.cells #[v] 22)).alloc (.cells (pdC h t) 28)) w.heap.size 22 #[v] := (Blk.new _ _ _).fr ((Fr.refl Non _).alloc _) (fun e => e)
  have M1 := Lib.hid (fun W hk => pmay_big h t ks W hk hb hlen hdep)
  have C1 := Lib.hid (fun W hv => scheck_any v cols W hv (by omega) (fun c hc => by have := hcb c hc; omega))
  have A1 : Hid (∀ W, Blk W w.heap.size 22 #[v] → Ks W v cols → Fr Non w W → Calls Tryz.prog 59 #[pdV h t, .int .i64 1, .func (.func 60) #[] #[.pointer (some ⟨w.heap.size, 0, none⟩)]] W fun e w' => e = .returned (.bool (typP cols (.mk h ks))) ∧ Fr Non W w') := Lib.hid (fun W hB hV hF => by
    have h0 := all_any (RcT cols v w.heap.size) (stepT cols) 60 w.heap.size w
      (fun W s X hr q hq => by obtain ⟨_, _, rfl⟩ := hr; exact hq.elim)
      (fun W W' s X hr hf => ⟨hr.1.fr hf (fun e => e), hr.2.1.non hf, hr.2.2⟩) Tryz.call60 (fits1_any cols hcl v w w.heap.size) (.mk h ks)
      W () Non t 1 1 rfl hF ⟨hB, hV, rfl⟩ hk hb hlen (by omega)
    refine h0.mono ?_
    rintro e w' ⟨rfl, f1, _⟩
    rw [allT]
    exact ⟨by cases typP cols (.mk h ks) <;> rfl, f1⟩)
  have HE0 : Hid (fitP cols (.mk h ks) = if mayP (.mk h ks) = false ∨ ¬ chkC cols = 0 then 1 else if typP cols (.mk h ks) = true then 0 else 10) := Lib.hid rfl
  have hmf : ∀ (fn : Fn) (first cap : Array Value) (w : World), (Instr.makeFunc fn first cap).run Tryz.prog w = .ok (.func fn first cap) w := fun _ _ _ _ => rfl
  generalize fitP cols (.mk h ks) = r at *
  generalize mayP (.mk h ks) = b1 at *
  generalize typP cols (.mk h ks) = b2 at *
  generalize chkC cols = z at *
  have HK := Lib.hid (hk.non F0)
  have HV : Hid (Ks _ v cols) := Lib.hid (hv.non F0)
  obtain ⟨vA, vc, hve⟩ := hv.shape
  have F0 := Lib.hid F0
  have PB := Lib.hid PB
  have VB := Lib.hid VB
  clear hk hlen hv hdep e1
  obtain ⟨ho, hc, hm, ⟨vn, vi, vt⟩, hkd, hp⟩ := h
  obtain ⟨A, nn, c⟩ := t
  subst hve
  unfold pdV pdC kidV at *
  dsimp only at *
  cases b1
  · have HE : Hid (r = 1) := Lib.hid (by rw [HE0.out, if_pos (.inl rfl)])
    clear HE0 A1
    go_enter Tryz.func38, Tryz.ntmps38
    go_wp2_with fail
    refine (M1.out _ HK.out).mono ?_
    rintro e w1 ⟨rfl, f1⟩
    go_wp2
    go_ret
    exact ⟨ret_int HE.out.symm, F0.out.trans f1⟩
  · go_enter Tryz.func38, Tryz.ntmps38
    go_wp2_with fail
    refine (M1.out _ HK.out).mono ?_
    rintro e w1 ⟨rfl, f1⟩
    have PB1 := Lib.hid (PB.out.fr f1 (fun e => e))
    have VB1 := Lib.hid (VB.out.fr f1 (fun e => e))
    have HV1 : Hid (Ks w1 _ cols) := Lib.hid (HV.out.non f1)
    have F1 := Lib.hid (F0.out.trans f1)
    have c0 := VB1.out.cell 0
    simp at c0
    clear f1 M1 HK HV PB VB F0
    go_wp2_with fail
    refine (C1.out _ HV1.out).mono ?_
    rintro e w2 ⟨rfl, f2⟩
    have PB2 := Lib.hid (PB1.out.fr f2 (fun e => e))
    have VB2 := Lib.hid (VB1.out.fr f2 (fun e => e))
    have HV2 : Hid (Ks w2 _ cols) := Lib.hid (HV1.out.non f2)
    have F2 := Lib.hid (F1.out.trans f2)
    clear f2 C1 PB1 VB1 HV1 F1 c0
    by_cases hz : z = 0
    · subst hz
      have HE : Hid (r = if b2 = true then 0 else 10) := Lib.hid (by rw [HE0.out, if_neg (by simp)])
      obtain ⟨g0, g1, g2, g3, g4, g5, g6, g7, g8⟩ := pdB_cells PB2.out
      dsimp only at g0 g1 g2 g3 g4 g5 g6 g7 g8
      clear HE0
      go_wp2_with fail
      refine (A1.out _ VB2.out HV2.out F2.out).mono ?_
      rintro e w3 ⟨rfl, f3⟩
      cases b2
      · go_wp2
        go_ret
        exact ⟨ret_int HE.out.symm, F2.out.trans f3⟩
      · go_wp2
        go_ret
        exact ⟨ret_int HE.out.symm, F2.out.trans f3⟩
    · have HE : Hid (r = 1) := Lib.hid (by rw [HE0.out, if_pos (.inr hz)])
      have hb : (z != 0) = true := by rw [bne_iff_ne]; exact hz
      clear HE0 A1
      go_wp2
      go_ret
      exact ⟨ret_int HE.out.symm, F2.out⟩

theorem pfits_any (cols : List Co) (hcl : cols.length ≤ 1000) (hcb : ∀ c ∈ cols, c.name.length ≤ 1000) (v : Value) (h : Ph) (t : Kv) (ks : List Pd) (w : World) (hv : Ks w v cols) (hk : Kd w t ks) (hb : I64b h.val.num) (hlen : lenP (.mk h ks) = true) (hdep : depP (.mk h ks) ≤ 9) :
    Calls Tryz.prog 38 #[v, pdV h t] w fun e w' => e = .returned (.int .i64 (fitP cols (.mk h ks))) ∧ Fr Non w w' := pfits_big cols hcl hcb v h t ks w hv hk hb (big_of_len _ hlen) (by omega)
end Go.Proofs.YtjcfjjhhbcgcmaaGreat


namespace Go.Proofs.YtjcfjjhhbcgcmaaGreat
set_option linter.unusedVariables false
set_option linter.unusedSimpArgs false
set_option maxRecDepth 100000
open Go.RowKit

theorem heads_more {l : List Co} {k : Nat} (h : k < l.length) : namesC (l.take (k + 1)) = namesC (l.take k) ++ [l[k].name] := by
  unfold namesC
  rw [List.take_succ_eq_append_getElem h, List.map_append]; rfl
theorem namesC_len (l : List Co) : (namesC l).length = l.length := by unfold namesC; rw [List.length_map]
theorem heads_any (v : Value) (l : List Co) (w : World) (hv : Ks w v l) (hl : l.length ≤ 1000) :
    Calls Tryz.prog 88 #[v] w fun e w' => ∃ u, e = .returned u ∧ Ow sv 9 w' w.heap.size u (namesC l) ∧ Fr Non w w' := by
  obtain ⟨A, c, rfl, hlc, hn, hcell⟩ := hv
  have HC := Lib.hid hcell
  have HN := Lib.hid hn
  clear hcell hn
  have HO0 : Hid (Ow sv 9 w w.heap.size (.slice none 0 0) (namesC (l.take 0))) := Lib.hid (ow_nil _ _)
  go_enter Tryz.func88, Tryz.ntmps88
  go_wp2
  go_loopw [3, 8] (fun u i wr => ∃ k : Nat, k ≤ l.length ∧ i = .int .i64 k ∧ Hid (Ow sv 9 wr w.heap.size u (namesC (l.take k))) ∧ Hid (Fr Non w wr)) (fun _ i _ => l.length - (intOf i).toNat)
  case atStart => exact ⟨0, Nat.zero_le _, rfl, HO0, Lib.hid (Fr.refl _ _)⟩
  case round =>
    clear HO0
    rename_i u i wr
    obtain ⟨k, hk, rfl, HO, FR⟩ := hrel
    obtain ⟨uA, uc, hue⟩ := HO.out.shape
    have hun : (namesC (l.take k)).length = k := by rw [namesC_len, List.length_take]; omega
    rw [hun] at hue
    subst hue
    by_cases hlt : k < l.length
    · cases A with
      | none => have := HN.out rfl; omega
      | some a =>
        obtain ⟨hc0, hc1, hc2⟩ := co_lit ((HC.out a rfl k hlt).non FR.out)
        have HY := Lib.hid (heads_more hlt)
        generalize l[k] = x at *
        obtain ⟨xn, xt, xb⟩ := x
        dsimp only at hc0 hc1 hc2 HY
        generalize namesC (l.take k) = tl at *
        have HLK := Lib.hid hun
        clear hun
        have G1 := Lib.hid ((Fr.refl Non wr).alloc (.cells #[.string ⟨xn.toArray⟩, .int .i64 xt, .bool xb] 56))
        have hO2 := Lib.hid (HO.out.non G1.out)
        have F2 := Lib.hid (FR.out.trans G1.out)
        have hsz : w.heap.size ≤ (wr.alloc (.cells #[.string ⟨xn.toArray⟩, .int .i64 xt, .bool xb] 56)).heap.size := F2.out.size
        go_wp2_with (at_builtin; refine wpList_pushS rfl (.tmp 12) (.tmp 15) rfl w.heap.size _ tl rfl hO2.out _ xn rfl _ rfl (by simp) (by have := HLK.out; omega) hsz ?_; intro v3 w3 hown3 hfr3)
        have HO3 := Lib.hid hown3
        have F3 : Hid (Fr Non w w3) := Lib.hid (F2.out.fresh hfr3 (fun q hq => (hO2.out.lt q hq).1))
        clear hown3 hfr3
        go_roundw
        case rel => exact ⟨k + 1, by omega, by go_num, by rw [HY.out]; exact HO3, F3⟩
        case measure => simp [intOf]; omega
    · have hT : l.take k = l := List.take_of_length_le (by omega)
      rw [hT] at HO
      go_wp2
      go_ret
      exact ⟨_, rfl, HO.out, FR.out⟩

theorem agN_more {l : List Ag} {k : Nat} (h : k < l.length) : agN (l.take (k + 1)) = agN (l.take k) ++ (if l[k].op = 1 then [] else [l[k].col]) := by
  unfold agN
  rw [List.take_succ_eq_append_getElem h, List.filter_append, List.map_append]
  congr 1
  by_cases e : l[k].op = 1 <;> simp [e]
theorem agN_len (l : List Ag) : (agN l).length ≤ l.length := by
  unfold agN
  rw [List.length_map]
  exact List.length_filter_le _ _
set_option maxHeartbeats 2000000 in
theorem named_any (v : Value) (cs : List Co) (q : Qy) (c : Value) (s : Kv) (g : Value) (w : World) (hv : Ks w v cs) (hcl : cs.length ≤ 1000) (hq : QyS w q c s g) (hs : SmQ q) :
    Calls Tryz.prog 62 #[v, qyV q c s g] w fun e w' => ∃ u, e = .returned u ∧ Ow sv 9 w' w.heap.size u (namedQ cs q) ∧ Fr Non w w' := by
  have Q0 := Lib.hid (Qin.new hq)
  have HS := Lib.hid hq
  have A1 := Lib.hid (fun W (h : QyS W q c s g) => wants_any q c s g W h hs)
  have H1 := Lib.hid (fun W (hf : Fr Non w W) => heads_any v cs W (hv.non hf) hcl)
  have C1 := Lib.hid (fun W (h : QyS W q c s g) => cloneS_any c q.cols W h.cols (by have := hs.cols; omega))
  have HA : Hid (allQ q = true → namedQ cs q = namesC cs) := Lib.hid (fun e => if_pos e)
  have HB : Hid (allQ q = false → namedQ cs q = q.cols ++ agN q.aggs ++ byN q.by_) := Lib.hid (fun e => if_neg (by rw [e]; simp))
  have hlc := hs.cols
  have hlg := hs.aggs
  generalize namedQ cs q = r at *
  generalize allQ q = ba at *
  clear hs
  obtain ⟨cA, cc, hce⟩ := hq.cols.shape
  obtain ⟨gA, gc, hge⟩ := hq.aggs.shape
  clear hq
  obtain ⟨tab, cols, ⟨⟨wo, wc, wm, ⟨wn, wi, wt⟩, wk, wp⟩, wks⟩, aggs, by_⟩ := q
  obtain ⟨sA, sn, sc⟩ := s
  obtain ⟨vA, vc, hve⟩ := hv.shape
  dsimp only at hce hge
  subst hce
  subst hge
  subst hve
  unfold qyV qyC kidV at *
  dsimp only [Pd.hd, Pd.kids] at *
  clear hv
  go_enter Tryz.func62, Tryz.ntmps62
  go_wp2_with fail
  refine (A1.out _ Q0.out.sls).mono ?_
  rintro e w1 ⟨rfl, f1⟩
  have Q1 := Lib.hid (Q0.out.non f1)
  clear f1
  cases ba
  rotate_left
  · have HE := Lib.hid (HA.out rfl)
    clear HA HB C1
    go_wp2_with fail
    refine (H1.out _ Q1.out.fr).mono ?_
    rintro e w2 ⟨u2, rfl, ho2, f2⟩
    have F2 := Lib.hid (Q1.out.fr.trans f2)
    have HO2 : Hid (Ow sv 9 w2 w.heap.size u2 r) := Lib.hid (by rw [HE.out]; exact ho2.mono Q1.out.fr.size)
    clear f2 ho2
    go_wp2
    go_ret
    exact ⟨_, rfl, HO2.out, F2.out⟩
  · have HE := Lib.hid (HB.out rfl)
    clear HA HB H1
    obtain ⟨g0, g1, g2, g3, g4, g5, g6, g7, g8, g9, g10, g11, g12⟩ := Q1.out.cells
    dsimp only [Pd.hd, Pd.kids] at g0 g1 g2 g3 g4 g5 g6 g7 g8 g9 g10 g11 g12
    go_wp2_with fail
    refine (C1.out _ Q1.out.sls).mono ?_
    rintro e w2 ⟨u2, rfl, ho2, f2⟩
    have Q2 := Lib.hid (Q1.out.non f2)
    have HO2 : Hid (Ow sv 9 w2 (w.heap.size + 1) u2 (cols ++ agN (aggs.take 0))) := Lib.hid (by
      have h := ho2.mono (B' := w.heap.size + 1) (by have := Q1.out.blk.lt; omega)
      simpa [agN] using h)
    clear f2 ho2
    clear g0 g1 g2 g3 g4 g5 g6 g7 g8 g9 g10 g11 g12
    obtain ⟨g0, g1, g2, g3, g4, g5, g6, g7, g8, g9, g10, g11, g12⟩ := Q2.out.cells
    dsimp only [Pd.hd, Pd.kids] at g0 g1 g2 g3 g4 g5 g6 g7 g8 g9 g10 g11 g12
    go_wp2
    clear g0 g1 g2 g3 g4 g5 g6 g7 g8 g9 g10 g11 g12
    go_loopw [5, 18] (fun u i wr => ∃ k : Nat, k ≤ aggs.length ∧ i = .int .i64 k ∧ Hid (Ow sv 9 wr (w.heap.size + 1) u (cols ++ agN (aggs.take k))) ∧ Hid (Qin w w.heap.size ⟨tab, cols, ⟨⟨wo, wc, wm, ⟨wn, wi, wt⟩, wk, wp⟩, wks⟩, aggs, by_⟩ (.slice cA cols.length cc) ⟨sA, sn, sc⟩ (.slice gA aggs.length gc) wr)) (fun _ i _ => aggs.length - (intOf i).toNat)
    case atStart => exact ⟨0, Nat.zero_le _, rfl, HO2, Q2⟩
    case round =>
      clear HO2 Q0 Q1 Q2
      rename_i u i wr
      obtain ⟨k, hk, rfl, HO, QR⟩ := hrel
      obtain ⟨uA, uc, hue⟩ := HO.out.shape
      have hlk : (cols ++ agN (aggs.take k)).length ≤ 40 := by
        rw [List.length_append]
        have := agN_len (aggs.take k)
        rw [List.length_take] at this
        omega
      generalize hun : (cols ++ agN (aggs.take k)).length = un at *
      subst hue
      by_cases hlt : k < aggs.length
      · obtain ⟨a, rfl, _, d0, d1⟩ := Ns.gat QR.out.sls.aggs k hlt
        have HY := Lib.hid (agN_more hlt)
        dsimp only at d0 d1
        generalize hx : aggs[k] = x at *
        clear hx
        obtain ⟨xo, xn⟩ := x
        dsimp only at d0 d1 HY
        have HY2 : Hid (cols ++ agN (aggs.take (k + 1)) = (cols ++ agN (aggs.take k)) ++ (if xo = 1 then [] else [xn])) := Lib.hid (by rw [HY.out, List.append_assoc])
        generalize cols ++ agN (aggs.take k) = tl at *
        have HLK := Lib.hid (show tl.length ≤ 40 by omega)
        clear hun hlk HY
        have G1 := Lib.hid ((Fr.refl Non wr).alloc (.cells #[.int .i64 xo, .string ⟨xn.toArray⟩] 50))
        have Q3 := Lib.hid (QR.out.non G1.out)
        have hO3 := Lib.hid (HO.out.non G1.out)
        by_cases h1 : xo = 1
        · have HE4 : Hid (cols ++ agN (aggs.take (k + 1)) = tl) := Lib.hid (by rw [HY2.out, if_pos h1, List.append_nil])
          clear HY2
          subst h1
          go_wp2
          go_roundw
          case rel => exact ⟨k + 1, by omega, by go_num, by rw [HE4.out]; exact hO3, Q3⟩
          case measure => simp [intOf]; omega
        · have h1b : (xo != 1) = true := by rw [bne_iff_ne]; exact h1
          have HE4 : Hid (cols ++ agN (aggs.take (k + 1)) = tl ++ [xn]) := Lib.hid (by rw [HY2.out, if_neg h1])
          clear HY2 h1
          have hsz : w.heap.size + 1 ≤ (wr.alloc (.cells #[.int .i64 xo, .string ⟨xn.toArray⟩] 50)).heap.size := by have := Q3.out.blk.lt; omega
          go_wp2_with (at_builtin; refine wpList_pushS rfl (.tmp 25) (.tmp 28) rfl (w.heap.size + 1) _ tl rfl hO3.out _ xn rfl _ rfl (by simp) (by have := HLK.out; omega) hsz ?_; intro v4 w4 hown4 hfr4)
          have HO4 := Lib.hid hown4
          have F4 : Hid (Fr Non w w4) := Lib.hid (Q3.out.fr.fresh hfr4 (fun q hq => by have := (hO3.out.lt q hq).1; omega))
          have Q4 : Hid (Qin w w.heap.size ⟨tab, cols, ⟨⟨wo, wc, wm, ⟨wn, wi, wt⟩, wk, wp⟩, wks⟩, aggs, by_⟩ (.slice cA cols.length cc) ⟨sA, sn, sc⟩ (.slice (some a) aggs.length gc) w4) := Lib.hid ⟨F4.out, Q3.out.blk.fr hfr4 (fun e => by have := (hO3.out.lt _ e).1; omega), HS.out.non F4.out⟩
          clear hown4 hfr4
          go_roundw
          case rel => exact ⟨k + 1, by omega, by go_num, by rw [HE4.out]; exact HO4, Q4⟩
          case measure => simp [intOf]; omega
      · have hT : aggs.take k = aggs := List.take_of_length_le (by omega)
        rw [hT] at HO hun
        have HLK := Lib.hid (show (cols ++ agN aggs).length ≤ 40 by omega)
        generalize cols ++ agN aggs = tl at *
        obtain ⟨g0, g1, g2, g3, g4, g5, g6, g7, g8, g9, g10, g11, g12⟩ := QR.out.cells
        dsimp only [Pd.hd, Pd.kids] at g0 g1 g2 g3 g4 g5 g6 g7 g8 g9 g10 g11 g12
        by_cases hb : by_ = []
        · have HE2 : Hid (r = tl) := Lib.hid (by rw [HE.out, hb]; simp [byN])
          clear HE
          subst hb
          go_wp2
          go_ret
          exact ⟨_, rfl, by rw [HE2.out]; exact HO.out.mono (by omega), QR.out.fr⟩
        · have hbb : (by_ == []) = false := by rw [beq_eq_false_iff_ne]; exact hb
          have hbb2 : (by_ != []) = true := by rw [bne_iff_ne]; exact hb
          have HE2 : Hid (r = tl ++ [by_]) := Lib.hid (by rw [HE.out]; unfold byN; rw [if_neg hb])
          have hsz : w.heap.size + 1 ≤ wr.heap.size := by have := QR.out.blk.lt; omega
          clear HE hb hun hlk
          go_wp2_with (at_builtin; refine wpList_pushG el_str sv_one rfl (.tmp 34) (.tmp 37) rfl (w.heap.size + 1) _ tl rfl HO.out _ by_ rfl rfl (by have := HLK.out; omega) hsz ?_; intro v4 w4 hown4 hfr4)
          have F4 : Hid (Fr Non w w4) := Lib.hid (QR.out.fr.fresh hfr4 (fun q hq => by have := (HO.out.lt q hq).1; omega))
          go_ret
          exact ⟨_, rfl, by rw [HE2.out]; exact hown4.mono (by omega), F4.out⟩
end Go.Proofs.YtjcfjjhhbcgcmaaGreat


namespace Go.Proofs.YtjcfjjhhbcgcmaaGreat
set_option linter.unusedVariables false
set_option linter.unusedSimpArgs false
set_option maxRecDepth 100000
open Go.RowKit

theorem find_val (cs : List Co) (n : Tx) : ∃ (k : Nat) (b : Bool), findV (findC cs n) = .tuple #[.int .i64 k, .bool b] ∧ k = (findC cs n).getD 0 ∧ b = hasC cs n := by
  unfold hasC
  cases findC cs n with
  | none => exact ⟨0, false, rfl, rfl, rfl⟩
  | some k => exact ⟨k, true, rfl, rfl, rfl⟩
theorem find_dlt {cs : List Co} (n : Tx) (h : 0 < cs.length) : (findC cs n).getD 0 < cs.length := by
  cases hf : findC cs n with
  | none => exact h
  | some k => exact find_lt hf
set_option maxHeartbeats 1000000 in
theorem sum1_any (v : Value) (cs : List Co) (b : Nat) (a : Ag) (w : World) (hb : Blk w b 22 #[v]) (hv : Ks w v cs) (hcl : cs.length ≤ 1000) (h0 : 0 < cs.length) :
    Calls Tryz.prog 64 #[agV a, .pointer (some ⟨b, 0, none⟩)] w fun e w' => e = .returned (.bool (sumN cs a)) ∧ Fr Non w w' := by
  have F0 : Fr Non w (w.alloc (.cells #[.int .i64 a.op, .string ⟨a.col.toArray⟩] 50)) := (Fr.refl Non w).alloc _
  have B0 := Lib.hid (ag_new w _ a rfl)
  have HB0 := Lib.hid (hb.fr F0 (fun e => e))
  have hV := Lib.hid (hv.non F0)
  have F := Lib.hid (fun W (h : Ks W v cs) => sfind_any v cs a.col W h (by omega))
  obtain ⟨k, bb, hfv, hk, -⟩ := find_val cs a.col
  rw [hfv] at F
  have hkl : k < cs.length := by rw [hk]; exact find_dlt a.col h0
  have HE0 : Hid (sumN cs a = (decide (a.op = 3) && decide (cs[k].ty ≠ 1))) := Lib.hid (by
    unfold sumN
    rw [← hk, List.getElem?_eq_getElem hkl])
  have HF := Lib.hid F0
  have hbl := hb.lt
  obtain ⟨vA, vc, hve⟩ := hv.shape
  clear hfv hk F0 hv hb
  obtain ⟨o, c⟩ := a
  unfold agV
  dsimp only at *
  subst hve
  generalize sumN cs _ = r at *
  have c0 := HB0.out.cell 0
  simp at c0
  go_enter Tryz.func64, Tryz.ntmps64
  go_wp2_with fail
  refine (F.out _ hV.out).mono ?_
  rintro e w1 ⟨rfl, f1⟩
  obtain ⟨g0, g1⟩ := agB_cells (B0.out.fr f1 (fun e => e))
  have c1 := (HB0.out.fr f1 (fun e => e)).cell 0
  simp at c1
  obtain ⟨ca, rfl, hcn, hct⟩ := Ks.findS (hV.out.non f1) k hkl
  generalize cs[k].ty = ct at *
  have F1 := Lib.hid (HF.out.trans f1)
  clear f1 hcn c0
  by_cases h3 : o = 3
  · have HE : Hid (r = decide (ct ≠ 1)) := Lib.hid (by rw [HE0.out, decide_eq_true h3, Bool.true_and])
    clear HE0
    subst h3
    by_cases hc1 : ct = 1
    · have HE2 : Hid (r = false) := Lib.hid (by rw [HE.out]; exact decide_eq_false (fun e => e hc1))
      have hcb : (ct != 1) = false := by rw [hc1]; rfl
      clear HE hc1
      go_wp2
      go_ret
      exact ⟨ret_boolE HE2.out.symm, F1.out⟩
    · have HE2 : Hid (r = true) := Lib.hid (by rw [HE.out]; exact decide_eq_true hc1)
      have hcb : (ct != 1) = true := by rw [bne_iff_ne]; exact hc1
      clear HE hc1
      go_wp2
      go_ret
      exact ⟨ret_boolE HE2.out.symm, F1.out⟩
  · have h3b : (o == 3) = false := by rw [beq_eq_false_iff_ne]; exact h3
    have HE : Hid (r = false) := Lib.hid (by rw [HE0.out, decide_eq_false h3, Bool.false_and])
    clear HE0 h3
    go_wp2
    go_ret
    exact ⟨ret_boolE HE.out.symm, F1.out⟩
theorem sidx_any (cs : List Co) (b : Nat) (v : Value) (l : List Ag) (w : World) (hv : Gs w v l) (hl : l.length ≤ 1000000000) (HM : Hid (∀ k (h : k < l.length) W, Fr Non w W → Calls Tryz.prog 64 #[agV l[k], .pointer (some ⟨b, 0, none⟩)] W fun e w' => e = .returned (.bool (sumN cs l[k])) ∧ Fr Non W w')) :
    Calls Tryz.prog 90 #[v, .func (.func 64) #[] #[.pointer (some ⟨b, 0, none⟩)]] w fun e w' => ∃ z : Int, e = .returned (.int .i64 z) ∧ decide (0 ≤ z) = l.any (sumN cs) ∧ Fr Non w w' := by
  obtain ⟨A, c, rfl, hlc, hn, hcell⟩ := hv
  have HC := Lib.hid hcell
  have HN := Lib.hid hn
  clear hcell hn
  go_enter Tryz.func90, Tryz.ntmps90
  go_wp2
  go_loopw [8] (fun i wr => ∃ (k : Nat), k ≤ l.length ∧ i = .int .i64 k ∧ Hid ((l.take k).any (sumN cs) = false) ∧ Fr Non w wr) (fun i _ => l.length - (intOf i).toNat)
  case atStart => exact ⟨0, Nat.zero_le _, rfl, Lib.hid rfl, Fr.refl _ _⟩
  case round =>
    obtain ⟨k, hk, rfl, hne, hfr⟩ := hrel
    by_cases hlt : k < l.length
    · cases A with
      | none => have := HN.out rfl; omega
      | some a =>
        obtain ⟨hc0, hc1⟩ := ag_lit ((HC.out a rfl k hlt).non hfr)
        have HY := Lib.hid (fun h => any_moreG hlt hne.out h)
        have HX : Hid (sumN cs l[k] = true → l.any (sumN cs) = true) := Lib.hid (fun h => List.any_eq_true.2 ⟨_, List.getElem_mem hlt, h⟩)
        have M := fun W (hf : Fr Non wr W) => HM.out k hlt W (hfr.trans hf)
        clear hne
        generalize l[k] = x at *
        obtain ⟨xo, xn⟩ := x
        unfold agV at M
        dsimp only at hc0 hc1 HY HX M
        have HF := Lib.hid hfr
        clear hfr
        cases hx : sumN cs ⟨xo, xn⟩
        · have HE := Lib.hid (HY.out hx)
          simp only [hx] at M
          replace M := Lib.hid M
          clear HX HY hx
          go_wp2_with fail
          refine (M.out _ (Fr.refl _ _)).mono ?_
          rintro e w2 ⟨rfl, f2⟩
          go_wp2
          go_roundw
          case rel => exact ⟨k + 1, by omega, by go_num, HE, HF.out.trans f2⟩
          case measure => simp [intOf]; omega
        · have HE := Lib.hid (HX.out hx)
          simp only [hx] at M
          replace M := Lib.hid M
          clear HX HY hx
          go_wp2_with fail
          refine (M.out _ (Fr.refl _ _)).mono ?_
          rintro e w2 ⟨rfl, f2⟩
          go_wp2
          go_ret
          exact ⟨_, rfl, by rw [HE.out]; exact decide_eq_true (by omega), HF.out.trans f2⟩
    · have HE : Hid (l.any (sumN cs) = false) := Lib.hid (by have := hne.out; rwa [List.take_of_length_le (by omega)] at this)
      clear hne
      go_wp2
      go_ret
      exact ⟨_, rfl, by rw [HE.out]; rfl, hfr⟩
theorem sconts_any (cs : List Co) (b : Nat) (v : Value) (l : List Ag) (w : World) (hv : Gs w v l) (hl : l.length ≤ 1000000000) (HM : Hid (∀ k (h : k < l.length) W, Fr Non w W → Calls Tryz.prog 64 #[agV l[k], .pointer (some ⟨b, 0, none⟩)] W fun e w' => e = .returned (.bool (sumN cs l[k])) ∧ Fr Non W w')) :
    Calls Tryz.prog 63 #[v, .func (.func 64) #[] #[.pointer (some ⟨b, 0, none⟩)]] w fun e w' => e = .returned (.bool (l.any (sumN cs))) ∧ Fr Non w w' := by
  have h0 := Lib.hid (sidx_any cs b v l w hv hl HM)
  obtain ⟨A, c, rfl⟩ := hv.shape
  clear hv HM
  go_enter Tryz.func63, Tryz.ntmps63
  go_wp2_with fail
  refine h0.out.mono ?_
  rintro e w1 ⟨z, rfl, hz, f1⟩
  go_wp2
  go_ret
  exact ⟨rfl, f1⟩


theorem Qin.new1 {w : World} {q : Qy} {c : Value} {s : Kv} {g : Value} (h : QyS w q c s g) (o : Obj) : Qin w (w.heap.size + 1) q c s g ((w.alloc o).alloc (.cells (qyC q c s g) 31)) := by
  have F0 : Fr Non w (w.alloc o) := (Fr.refl Non w).alloc _
  have F1 : Fr Non (w.alloc o) ((w.alloc o).alloc (.cells (qyC q c s g) 31)) := (Fr.refl Non _).alloc _
  exact ⟨F0.trans F1, qy_new _ _ q c s g (by simp), h.non (F0.trans F1)⟩
theorem named_len (cs : List Co) {q : Qy} (hs : SmQ q) (hcl : cs.length ≤ 1000) : (namedQ cs q).length ≤ 1031 := by
  unfold namedQ
  split
  · rw [namesC_len]; omega
  · rw [List.length_append, List.length_append]
    have h1 := agN_len q.aggs
    have h2 := hs.cols
    have h3 := hs.aggs
    have h4 : (byN q.by_).length ≤ 1 := by unfold byN; split <;> simp
    omega
set_option maxHeartbeats 2000000 in
theorem qsuits_any (v : Value) (cs : List Co) (q : Qy) (c : Value) (s : Kv) (g : Value) (w : World) (hv : Ks w v cs) (hcl : cs.length ≤ 1000) (h0 : 0 < cs.length) (hq : QyS w q c s g) (hs : SmQ q) :
    Calls Tryz.prog 39 #[v, qyV q c s g] w fun e w' => e = .returned (.bool (suitQ cs q)) ∧ Fr Non w w' := by
  have Q0 := Lib.hid (Qin.new1 hq (.cells #[v] 22))
  have B0 : Hid (Blk ((w.alloc (.cells #[v] 22)).alloc (.cells (qyC q c s g) 31)) w.heap.size 22 #[v]) := Lib.hid ((Blk.new _ _ _).fr ((Fr.refl Non _).alloc _) (fun e => e))
  have HV0 := Lib.hid hv
  have N1 := Lib.hid (fun W (hf : Fr Non w W) (h : QyS W q c s g) => named_any v cs q c s g W (hv.non hf) hcl h hs)
  have F := Lib.hid (fun (n : Tx) W (hf : Fr Non w W) => sfind_any v cs n W (hv.non hf) (by omega))
  have S1 := Lib.hid (fun W (hf : Fr Non w W) (h : QyS W q c s g) (hb : Blk W w.heap.size 22 #[v]) => sconts_any cs w.heap.size g q.aggs W h.aggs (by have := hs.aggs; omega) (Lib.hid fun k _ W2 hf2 => sum1_any v cs w.heap.size q.aggs[k] W2 (hb.fr hf2 (fun e => e)) (hv.non (hf.trans hf2)) hcl h0))
  have HE0 : Hid (suitQ cs q = ((namedQ cs q).all (hasC cs) && !(q.aggs.any (sumN cs)))) := Lib.hid rfl
  have hmf : ∀ (fn : Fn) (first cap : Array Value) (w : World), (Instr.makeFunc fn first cap).run Tryz.prog w = .ok (.func fn first cap) w := fun _ _ _ _ => rfl
  have hnl := named_len cs hs hcl
  generalize suitQ cs q = r at *
  generalize namedQ cs q = ns at *
  generalize q.aggs.any (sumN cs) = bs at *
  clear hs
  obtain ⟨cA, cc, hce⟩ := hq.cols.shape
  obtain ⟨gA, gc, hge⟩ := hq.aggs.shape
  clear hq
  obtain ⟨tab, cols, ⟨⟨wo, wc, wm, ⟨wn, wi, wt⟩, wk, wp⟩, wks⟩, aggs, by_⟩ := q
  obtain ⟨sA, sn, sc⟩ := s
  obtain ⟨vA, vc, hve⟩ := hv.shape
  dsimp only at hce hge
  subst hce
  subst hge
  subst hve
  unfold qyV qyC kidV at *
  dsimp only [Pd.hd, Pd.kids] at *
  clear hv
  have c0 := B0.out.cell 0
  simp at c0
  go_enter Tryz.func39, Tryz.ntmps39
  go_wp2_with fail
  refine (N1.out _ Q0.out.fr Q0.out.sls).mono ?_
  rintro e w1 ⟨u1, rfl, ho1, f1⟩
  have Q1 := Lib.hid (Q0.out.non f1)
  have B1 := Lib.hid (B0.out.fr f1 (fun e => e))
  have HO1 := Lib.hid ho1.vs
  obtain ⟨uA, uc, rfl⟩ := ho1.shape
  clear f1 ho1 c0 Q0 B0 N1
  go_wp2
  go_loopw [13] (fun i wr => ∃ k : Nat, k ≤ ns.length ∧ i = .int .i64 k ∧ Hid ((ns.take k).all (hasC cs) = true) ∧ Hid (Qin w (w.heap.size + 1) ⟨tab, cols, ⟨⟨wo, wc, wm, ⟨wn, wi, wt⟩, wk, wp⟩, wks⟩, aggs, by_⟩ (.slice cA cols.length cc) ⟨sA, sn, sc⟩ (.slice gA aggs.length gc) wr) ∧ Hid (Blk wr w.heap.size 22 #[.slice vA cs.length vc]) ∧ Hid (Vs sv wr (.slice uA ns.length uc) ns)) (fun i _ => ns.length - (intOf i).toNat)
  case atStart => exact ⟨0, Nat.zero_le _, rfl, Lib.hid rfl, Q1, B1, HO1⟩
  case round =>
    clear Q1 B1 HO1
    obtain ⟨k, hk, rfl, HT, QR, BR, OR⟩ := hrel
    have c0 := BR.out.cell 0
    simp at c0
    by_cases hlt : k < ns.length
    · obtain ⟨a, rfl, _, _, hel⟩ := OR.out.addr (show 0 < ns.length by omega)
      have d0 := hel k hlt
      unfold sv at d0
      have HX : Hid (hasC cs ns[k] = false → r = false) := Lib.hid (fun e => by
        have : ns.all (hasC cs) = false := by rw [List.all_eq_false]; exact ⟨_, List.getElem_mem hlt, by rw [e]; simp⟩
        rw [HE0.out, this]; rfl)
      have HY : Hid (hasC cs ns[k] = true → (ns.take (k + 1)).all (hasC cs) = true) := Lib.hid (fun e => by
        rw [List.take_succ_eq_append_getElem hlt, List.all_append, HT.out]; simp [e])
      have FN := Lib.hid (F.out ns[k])
      clear HT hel
      generalize ns[k] = y at *
      obtain ⟨k0, bb, hfv, -, hbb⟩ := find_val cs y
      rw [hfv] at FN
      rw [← hbb] at HX HY
      clear hfv hbb
      cases bb
      · have HE := Lib.hid (HX.out rfl)
        clear HX HY
        go_wp2_with fail
        refine (FN.out _ QR.out.fr).mono ?_
        rintro e w2 ⟨rfl, f2⟩
        go_wp2
        go_ret
        exact ⟨ret_boolE HE.out.symm, QR.out.fr.trans f2⟩
      · have HE := Lib.hid (HY.out rfl)
        clear HX HY
        go_wp2_with fail
        refine (FN.out _ QR.out.fr).mono ?_
        rintro e w2 ⟨rfl, f2⟩
        have Q2 := Lib.hid (QR.out.non f2)
        have B2 := Lib.hid (BR.out.fr f2 (fun e => e))
        have O2 := Lib.hid (OR.out.non f2)
        clear f2
        go_wp2
        go_roundw
        case rel => exact ⟨k + 1, by omega, by go_num, HE, Q2, B2, O2⟩
        case measure => simp [intOf]; omega
    · have HE : Hid (r = !bs) := Lib.hid (by
        have h := HT.out
        rw [List.take_of_length_le (by omega)] at h
        rw [HE0.out, h, Bool.true_and])
      clear HE0 HT
      obtain ⟨g0, g1, g2, g3, g4, g5, g6, g7, g8, g9, g10, g11, g12⟩ := QR.out.cells
      dsimp only [Pd.hd, Pd.kids] at g0 g1 g2 g3 g4 g5 g6 g7 g8 g9 g10 g11 g12
      go_wp2_with fail
      refine (S1.out _ QR.out.fr QR.out.sls BR.out).mono ?_
      rintro e w2 ⟨rfl, f2⟩
      go_wp2
      go_ret
      exact ⟨ret_boolE HE.out.symm, QR.out.fr.trans f2⟩

set_option maxHeartbeats 2000000 in
theorem qfits_any (v : Value) (cs : List Co) (q : Qy) (c : Value) (s : Kv) (g : Value) (w : World) (hv : Ks w v cs) (hcl : cs.length ≤ 1000) (hcb : ∀ c ∈ cs, c.name.length ≤ 1000) (hq : QyS w q c s g) (hs : SmQ q) :
    Calls Tryz.prog 21 #[v, qyV q c s g] w fun e w' => e = .returned (.int .i64 (fitQ cs q)) ∧ Fr Non w w' := by
  have Q0 := Lib.hid (Qin.new hq)
  have M1 := Lib.hid (fun W (h : QyS W q c s g) => qmay_any q c s g W h hs)
  have C1 := Lib.hid (fun W (hf : Fr Non w W) => scheck_any v cs W (hv.non hf) (by omega) (fun c hc => by have := hcb c hc; omega))
  have P1 := Lib.hid (fun W (hf : Fr Non w W) (h : QyS W q c s g) => pfits_any cs hcl hcb v q.whr.hd s q.whr.kids W (hv.non hf) h.kids h.num (by rw [← Pd.eta]; exact hs.lens) (by rw [← Pd.eta]; exact hs.deep))
  rw [← Pd.eta] at P1
  have S1 : Hid (chkC cs = 0 → ∀ W, Fr Non w W → QyS W q c s g → Calls Tryz.prog 39 #[v, qyV q c s g] W fun e w' => e = .returned (.bool (suitQ cs q)) ∧ Fr Non W w') := Lib.hid (fun e W hf h => qsuits_any v cs q c s g W (hv.non hf) hcl (by have := (chk_is e).1; omega) h hs)
  have HE0 : Hid (fitQ cs q = if mayQ q = false ∨ ¬ chkC cs = 0 then 1 else if typP cs q.whr = true ∧ suitQ cs q = true then 0 else 10) := Lib.hid rfl
  have HP : Hid (mayQ q = true → chkC cs = 0 → fitP cs q.whr = if typP cs q.whr = true then 0 else 10) := Lib.hid (fun e e2 => by
    unfold fitP
    rw [if_neg (by rw [(may_parts e).2, e2]; simp)])
  generalize fitQ cs q = r at *
  generalize mayQ q = bm at *
  generalize suitQ cs q = bs at *
  generalize typP cs q.whr = bt at *
  generalize fitP cs q.whr = fp at *
  generalize chkC cs = z at *
  unfold pdV pdC at P1
  clear hs
  obtain ⟨cA, cc, hce⟩ := hq.cols.shape
  obtain ⟨gA, gc, hge⟩ := hq.aggs.shape
  clear hq
  obtain ⟨tab, cols, ⟨⟨wo, wc, wm, ⟨wn, wi, wt⟩, wk, wp⟩, wks⟩, aggs, by_⟩ := q
  obtain ⟨sA, sn, sc⟩ := s
  obtain ⟨vA, vc, hve⟩ := hv.shape
  dsimp only at hce hge
  subst hce
  subst hge
  subst hve
  unfold qyV qyC kidV at *
  dsimp only [Pd.hd, Pd.kids] at *
  clear hv
  go_enter Tryz.func21, Tryz.ntmps21
  go_wp2_with fail
  refine (M1.out _ Q0.out.sls).mono ?_
  rintro e w1 ⟨rfl, f1⟩
  have Q1 := Lib.hid (Q0.out.non f1)
  clear f1
  cases bm
  · have HE : Hid (r = 1) := Lib.hid (by rw [HE0.out, if_pos (.inl rfl)])
    clear HE0 HP S1
    go_wp2
    go_ret
    exact ⟨ret_int HE.out.symm, Q1.out.fr⟩
  · go_wp2_with fail
    refine (C1.out _ Q1.out.fr).mono ?_
    rintro e w2 ⟨rfl, f2⟩
    have Q2 := Lib.hid (Q1.out.non f2)
    clear f2
    obtain ⟨g0, g1, g2, g3, g4, g5, g6, g7, g8, g9, g10, g11, g12⟩ := Q2.out.cells
    dsimp only [Pd.hd, Pd.kids] at g0 g1 g2 g3 g4 g5 g6 g7 g8 g9 g10 g11 g12
    by_cases hz : z = 0
    · have HP2 := Lib.hid (HP.out (by trivial) hz)
      have HE2 : Hid (r = if bt = true ∧ bs = true then 0 else 10) := Lib.hid (by rw [HE0.out, if_neg (by rw [hz]; simp)])
      have S2 := Lib.hid (S1.out hz)
      clear HE0 HP S1
      subst hz
      go_wp2_with fail
      refine (P1.out _ Q2.out.fr Q2.out.sls).mono ?_
      rintro e w3 ⟨rfl, f3⟩
      have Q3 := Lib.hid (Q2.out.non f3)
      clear f3
      clear g0 g1 g2 g3 g4 g5 g6 g7 g8 g9 g10 g11 g12
      obtain ⟨g0, g1, g2, g3, g4, g5, g6, g7, g8, g9, g10, g11, g12⟩ := Q3.out.cells
      dsimp only [Pd.hd, Pd.kids] at g0 g1 g2 g3 g4 g5 g6 g7 g8 g9 g10 g11 g12
      cases bt
      · have hfp : fp = 10 := by rw [HP2.out]; rfl
        have HE : Hid (r = 10) := Lib.hid (by rw [HE2.out]; simp)
        clear HE2 HP2 S2
        subst hfp
        go_wp2
        go_ret
        exact ⟨ret_int HE.out.symm, Q3.out.fr⟩
      · have hfp : fp = 0 := by rw [HP2.out]; rfl
        clear HP2
        subst hfp
        go_wp2_with fail
        refine (S2.out _ Q3.out.fr Q3.out.sls).mono ?_
        rintro e w4 ⟨rfl, f4⟩
        have Q4 := Lib.hid (Q3.out.non f4)
        clear f4
        cases bs
        · have HE : Hid (r = 10) := Lib.hid (by rw [HE2.out]; simp)
          clear HE2
          go_wp2
          go_ret
          exact ⟨ret_int HE.out.symm, Q4.out.fr⟩
        · have HE : Hid (r = 0) := Lib.hid (by rw [HE2.out]; simp)
          clear HE2
          go_wp2
          go_ret
          exact ⟨ret_int HE.out.symm, Q4.out.fr⟩
    · have hzb : (z != 0) = true := by rw [bne_iff_ne]; exact hz
      have HE : Hid (r = 1) := Lib.hid (by rw [HE0.out, if_pos (.inr hz)])
      clear HE0 HP S1 hz
      go_wp2
      go_ret
      exact ⟨ret_int HE.out.symm, Q2.out.fr⟩
end Go.Proofs.YtjcfjjhhbcgcmaaGreat


namespace Go.Proofs.YtjcfjjhhbcgcmaaGreat
set_option linter.unusedVariables false
set_option linter.unusedSimpArgs false
set_option maxRecDepth 100000
open Go.RowKit

set_option maxHeartbeats 1000000 in
theorem ksmall_any (v : Value) (l : List Co) (w : World) (hv : Ks w v l) :
    Calls Tryz.prog 19 #[v] w fun e w' => ∃ b, e = .returned (.bool b) ∧ (b = true → l.length ≤ 20 ∧ ∀ c ∈ l, c.name.length ≤ 100) ∧ Fr Non w w' := by
  obtain ⟨A, c, rfl, hlc, hn, hcell⟩ := hv
  have HC := Lib.hid hcell
  have HN := Lib.hid hn
  clear hcell hn
  go_enter Tryz.func19, Tryz.ntmps19
  go_wp2
  go_loopw [3] (fun i wr => ∃ (k : Nat), k ≤ l.length ∧ k ≤ 30 ∧ i = .int .i64 k ∧ Hid (∀ j (h : j < l.length), j < k → l[j].name.length ≤ 100) ∧ Fr Non w wr) (fun i _ => 30 - (intOf i).toNat)
  case atStart => exact ⟨0, Nat.zero_le _, Nat.zero_le _, rfl, Lib.hid (fun _ _ h => by omega), Fr.refl _ _⟩
  case round =>
    obtain ⟨k, hk, hk2, rfl, HS, hfr⟩ := hrel
    by_cases hlt : k < l.length
    · by_cases h30 : k < 30
      · cases A with
        | none => have := HN.out rfl; omega
        | some a =>
          obtain ⟨hc0, hc1, hc2⟩ := co_lit ((HC.out a rfl k hlt).non hfr)
          have HY : Hid (l[k].name.length ≤ 100 → ∀ j (h : j < l.length), j < k + 1 → l[j].name.length ≤ 100) := Lib.hid (fun h j hj hjk => by
            by_cases e : j = k
            · subst e; exact h
            · exact HS.out j hj (by omega))
          clear HS
          generalize l[k] = x at *
          obtain ⟨xn, xi, xt⟩ := x
          dsimp only at hc0 hc1 hc2 HY
          have hs := slenN xn
          by_cases hx : 100 < xn.length
          · go_wp2
            go_ret
            exact ⟨false, rfl, (fun h => by cases h), hfr⟩
          · have H := Lib.hid (HY.out (by omega))
            clear HY
            go_wp2
            go_roundw
            case rel => exact ⟨k + 1, by omega, by omega, by go_num, H, hfr⟩
            case measure => simp [intOf]; omega
      · go_wp2
        go_ret
        exact ⟨_, rfl, (fun h => by have := of_decide_eq_true h; omega), hfr⟩
    · have H : Hid (∀ c ∈ l, c.name.length ≤ 100) := Lib.hid (fun c hc => by
        obtain ⟨j, hj, rfl⟩ := List.mem_iff_getElem.1 hc
        exact HS.out j hj (by omega))
      clear HS
      go_wp2
      go_ret
      exact ⟨_, rfl, (fun h => ⟨by have := of_decide_eq_true h; omega, H.out⟩), hfr⟩

end Go.Proofs.YtjcfjjhhbcgcmaaGreat


namespace Go.Proofs.YtjcfjjhhbcgcmaaGreat
set_option linter.unusedVariables false
set_option linter.unusedSimpArgs false
set_option maxRecDepth 100000
open Go.RowKit

/-! ### Small -/
theorem lenP_is (h : Ph) (ks : List Pd) : lenP (.mk h ks) = (lenH h ks.length && ks.all lenP) := by rw [lenP, lenL_all]
theorem depL_is {ks : List Pd} {m : Nat} (h : ∀ x ∈ ks, depP x ≤ m) : depL ks ≤ m := by
  induction ks with
  | nil => rw [depL]; omega
  | cons x r ih => rw [depL]; have := h x (List.mem_cons_self ..); have := ih (fun y hy => h y (List.mem_cons_of_mem _ hy)); omega
/-- yes only if P -/
def SmEnd (P : Prop) (e : Ending) : Prop := ∃ b, e = .returned (.bool b) ∧ (b = true → P)
set_option maxHeartbeats 4000000 in
theorem rpsmall_any (p : Pd) : ∀ (t : Kv) (m : Nat) (mz : Int) (w : World), mz = m → m ≤ 1000 → Kd w t p.kids →
    Calls Tryz.prog 20 #[pdV p.hd t, .int .i64 mz] w fun e w' => SmEnd (lenP p = true ∧ depP p ≤ m) e ∧ Fr Non w w' := by
  induction p using Pd.ind with
  | h hd ks ih =>
    intro t m mz w hmz hm1 hk
    subst hmz
    have hn : t.n = ks.length := hk.len
    have F0 : Fr Non w (w.alloc (.cells (pdC hd t) 28)) := (Fr.refl Non w).alloc _
    have HB := Lib.hid (pd_new w _ hd t rfl)
    have HE : Hid (lenH hd ks.length = true → 1 ≤ m → (∀ j (h : j < ks.length), lenP ks[j] = true ∧ depP ks[j] ≤ m - 1) → lenP (.mk hd ks) = true ∧ depP (.mk hd ks) ≤ m) := Lib.hid (fun a b c => by
      refine ⟨?_, ?_⟩
      · rw [lenP_is, a, Bool.true_and, List.all_eq_true]
        intro x hx
        obtain ⟨j, hj, rfl⟩ := List.mem_iff_getElem.1 hx
        exact (c j hj).1
      · have : depL ks ≤ m - 1 := depL_is (fun x hx => by obtain ⟨j, hj, rfl⟩ := List.mem_iff_getElem.1 hx; exact (c j hj).2)
        rw [depP]; omega)
    have IH : Hid (1 ≤ m → ∀ k (h : k < ks.length) (W : World) (t' : Kv), Kd W t' ks[k].kids →
        Calls Tryz.prog 20 #[pdV ks[k].hd t', .int .i64 ((m : Int) - 1)] W fun e w' => SmEnd (lenP ks[k] = true ∧ depP ks[k] ≤ m - 1) e ∧ Fr Non W w') :=
      Lib.hid (fun h1 k h W t' a => ih _ (List.getElem_mem h) t' (m - 1) _ W (by omega) (by omega) a)
    have HK : Hid (Kd w t ks) := Lib.hid hk
    have HF := Lib.hid F0
    have HLH : Hid (∀ a b c d, a = hd.col.length → b = hd.pat.length → c = hd.val.txt.length → d = ks.length → d ≤ 20 → a ≤ 100 → b ≤ 100 → c ≤ 100 → lenH hd ks.length = true) := Lib.hid (fun a b c d e1 e2 e3 e4 h1 h2 h3 h4 => by unfold lenH; exact decide_eq_true ⟨by omega, by omega, by omega, by omega⟩)
    generalize lenH hd ks.length = lh at *
    generalize lenP (.mk hd ks) = r at *
    generalize depP (.mk hd ks) = dd at *
    clear ih hk F0
    obtain ⟨ho, hc, hm, ⟨vn, vi, vt⟩, hkd, hp⟩ := hd
    obtain ⟨A, n, c⟩ := t
    dsimp only at hn
    have HL := Lib.hid hn
    have s1 := slen hc
    have s2 := slen hp
    have s3 := slen vt
    dsimp only at HLH
    unfold pdV pdC kidV
    dsimp only [Pd.hd, Pd.kids]
    clear hn
    by_cases h1 : m < 1
    · clear HE IH HLH
      go_enter Tryz.func20, Tryz.ntmps20
      go_wp2
      go_ret
      exact ⟨⟨_, rfl, fun h => by cases h⟩, HF.out⟩
    · have IH := Lib.hid (IH.out (by omega))
      by_cases h2 : 20 < n
      · clear HE IH HLH
        go_enter Tryz.func20, Tryz.ntmps20
        go_wp2
        go_ret
        exact ⟨⟨_, rfl, fun h => by cases h⟩, HF.out⟩
      · by_cases h3 : 100 < hc.length
        · clear HE IH HLH
          go_enter Tryz.func20, Tryz.ntmps20
          go_wp2
          go_ret
          exact ⟨⟨_, rfl, fun h => by cases h⟩, HF.out⟩
        · by_cases h4 : 100 < hp.length
          · clear HE IH HLH
            go_enter Tryz.func20, Tryz.ntmps20
            go_wp2
            go_ret
            exact ⟨⟨_, rfl, fun h => by cases h⟩, HF.out⟩
          · by_cases h5 : 100 < vt.length
            · clear HE IH HLH
              go_enter Tryz.func20, Tryz.ntmps20
              go_wp2
              go_ret
              exact ⟨⟨_, rfl, fun h => by cases h⟩, HF.out⟩
            · have HE1 := Lib.hid (HE.out (HLH.out _ _ _ n rfl rfl rfl HL.out (by omega) (by omega) (by omega) (by omega)) (by omega))
              clear HE HLH
              go_enter Tryz.func20, Tryz.ntmps20
              go_wp2
              go_loopw [5] (fun i wr => ∃ k : Nat, k ≤ n ∧ i = .int .i64 k ∧ Hid (∀ j (h : j < ks.length), j < k → lenP ks[j] = true ∧ depP ks[j] ≤ m - 1) ∧ Hid (Fr Non (w.alloc (.cells (pdC ⟨ho, hc, hm, ⟨vn, vi, vt⟩, hkd, hp⟩ ⟨A, n, c⟩) 28)) wr)) (fun i _ => n - (intOf i).toNat)
              case atStart => exact ⟨0, Nat.zero_le _, rfl, Lib.hid (fun _ _ h => by omega), Lib.hid (Fr.refl _ _)⟩
              case round =>
                obtain ⟨k, hk, rfl, HT, FR⟩ := hrel
                have b8 := (HB.out.fr FR.out (fun e => e)).cell 8
                simp [pdC, kidV] at b8
                have HFw := Lib.hid (HF.out.trans FR.out)
                by_cases hlt : k < n
                · have hlt2 : k < ks.length := by have := HL.out; omega
                  obtain ⟨a, t, hA, hc2, hkk, _⟩ := HK.out.elN HFw.out k hlt2
                  have HC := Lib.hid (IH.out k hlt2 wr t (hkk.non HFw.out))
                  have HY : Hid (lenP ks[k] = true ∧ depP ks[k] ≤ m - 1 → ∀ j (h : j < ks.length), j < k + 1 → lenP ks[j] = true ∧ depP ks[j] ≤ m - 1) := Lib.hid (fun e j hj hjk => by
                    by_cases ee : j = k
                    · subst ee; exact e
                    · exact HT.out j hj (by omega))
                  dsimp only at hA
                  subst hA
                  obtain ⟨c0, c1, c2, c3, c4, c5, c6, c7, c8⟩ := hc2
                  clear hkk HT
                  generalize lenP ks[k] = y1 at *
                  generalize depP ks[k] = y2 at *
                  generalize ks[k].hd = x at *
                  obtain ⟨xo, xc, xm, ⟨xn, xi, xt⟩, xk, xp⟩ := x
                  obtain ⟨tA, tn, tc⟩ := t
                  unfold pdV pdC kidV at HC
                  dsimp only at HC c0 c1 c2 c3 c4 c5 c6 c7 c8
                  go_wp2_with fail
                  refine HC.out.mono ?_
                  rintro e w2 ⟨⟨b, rfl, hb⟩, f2⟩
                  have HB2 := Lib.hid hb
                  clear hb
                  cases b
                  · go_wp2
                    go_ret
                    exact ⟨⟨_, rfl, fun h => by cases h⟩, HFw.out.trans f2⟩
                  · have HT := Lib.hid (HY.out (HB2.out rfl))
                    clear HB2 HY
                    go_wp2
                    go_roundw
                    case rel => exact ⟨k + 1, by omega, by go_num, HT, Lib.hid (FR.out.trans f2)⟩
                    case measure => simp [intOf]; omega
                · have HE2 := Lib.hid (HE1.out (fun j hj => HT.out j hj (by have := HL.out; omega)))
                  clear HE1 HT
                  go_wp2
                  go_ret
                  exact ⟨⟨_, rfl, fun _ => HE2.out⟩, HFw.out⟩
end Go.Proofs.YtjcfjjhhbcgcmaaGreat
