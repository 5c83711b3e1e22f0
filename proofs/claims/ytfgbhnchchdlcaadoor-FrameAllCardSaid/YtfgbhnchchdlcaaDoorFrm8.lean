/-
  Layer 3: the walk of frame.All, a range over the iterator frame.frames.
-/
import Derived.Test.YtfgbhnchchdlcaaDoorFrm7
import Derived.Deep.RegionHeld3
namespace Go.Proofs.YtfgbhnchchdlcaaDoor
set_option linter.unusedVariables false
set_option linter.unusedSimpArgs false
open Go.RowKit Go.Shelf
attribute [local go_sem] Oper.semAt_some

theorem fframes_any (v : Value) (w : World) (hv : v.oneCell' = true) : Calls Tryd.prog 26 #[v] w fun e w' => e = .returned (.func (.func 34) #[] #[.pointer (some ⟨w.heap.size, 0, none⟩)]) ∧ (w.alloc (.cells #[v] 22)) = w' := by
  cases v <;> (try simp [Value.oneCell'] at hv)
  all_goals
    go_enter Tryd.func26, Tryd.ntmps26
    go_wp2
    go_ret
    exact ⟨rfl, rfl⟩

/-- an append in a region that draws, kept whole till a law is offered -/
structure AppG (F : Fence) (n : Nat) (P : Program) (o : Oper) (a : Act) (w : World) (K : Act → World → Prop) (Q : Exit → Act → World → Prop) : Prop where
  out : Oper.wpIn F n P o a w K Q
@[reducible] def isApp (o : Oper) : Bool := match o.op with
  | .call c => (match c.callee with
    | .builtin .append => true
    | _ => false)
  | _ => false
theorem app_hold {F : Fence} {n : Nat} {P : Program} {o : Oper} {a : Act} {w : World} {K : Act → World → Prop} {Q : Exit → Act → World → Prop} (h : isApp o = true) : Oper.wpIn F n P o a w K Q = AppG F n P o a w K Q := propext ⟨AppG.mk, AppG.out⟩
attribute [local go_sem ↓] app_hold
attribute [local go_sem] isApp

theorem appG_pushs {F : Fence} {n : Nat} {w0 : World} {o : Oper} {a : Act} {K : Act → World → Prop} {Q : Exit → Act → World → Prop} (s x : Operand)
    (ho : o.op = .call { callee := .builtin .append, args := #[s, x], argTypes := #[32, 32] })
    (B : Nat) (v u : Value) (ls : List (List UInt8)) (l : List UInt8) (hs : a.eval s = v) (hown : Owns w0 B v ls) (hu : Own w0 B u l) (hx : a.eval x = .slice (some ⟨w0.heap.size, 0, none⟩) 1 1)
    (hl : ls.length < 1099511627776) (hB : B ≤ w0.heap.size)
    (h : ∀ v' w', Owns w' B v' (ls ++ [l]) → Fr (fun k => v.ownBlock = some k) w0 w' → K (a.put o.dst v') w') :
    AppG F n Tryd.prog o a (w0.alloc (.cells #[u] 22)) K Q := by
  obtain ⟨v', w', hr, h1, h2⟩ := run_pushs o.type w0 B v u ls l hown hu hl hB w0.heap.size rfl
  refine ⟨?_⟩
  unfold Oper.wpIn
  refine ⟨?_, ?_⟩
  · simp [Oper.about, ho, resolve, Target.leads, Sem.run_pure]
  · rw [Oper.semAt_plain F _ _ (by rw [ho]; intro c hc'; cases hc')]
    simp [execOp, ho, resolve, invoke, builtin, hs, hx, hr, Result.andThen]
    exact h v' w' h1 h2

theorem boxed_own {t : TypeId} {B : Nat} {v : Value} {W W' : World} {row : Option Nat} (h : Boxed W B t v) (hg : W.grownBy W' row) (hr : ∀ r, row = some r → ∃ o : Obj, W.heap[r]? = some o ∧ o.isCells = false) : Boxed W' B t v :=
  h.kept hg (fun e => by
    obtain ⟨o, ho, hc⟩ := hr B e.symm
    rw [show W.heap[B]? = _ from h] at ho; cases ho; cases hc)
theorem owns_own {B : Nat} {v : Value} {ls : List (List UInt8)} {W W' : World} {row : Option Nat} (h : Owns W B v ls) (hg : W.grownBy W' row) (hr : ∀ r, row = some r → ∃ o : Obj, W.heap[r]? = some o ∧ o.isCells = false) : Owns W' B v ls :=
  h.keep fun k cur hc _ => hg.block k (by rcases hc with e | e <;> exact (Array.getElem?_eq_some_iff.1 e).1) fun e => by
    obtain ⟨o, ho, hcc⟩ := hr k e.symm
    rcases hc with h1 | h1 <;> (rw [h1] at ho; cases ho; cases hcc)
theorem boxed_fr {t : TypeId} {B : Nat} {v : Value} {W W' : World} {S : Nat → Prop} (h : Boxed W B t v) (hf : Fr S W W') (hn : ¬ S B) : Boxed W' B t v := (hf.block B h.lt hn).trans h
theorem boxed_not {t E : TypeId} {B : Nat} {v : Value} {W : World} (h : Boxed W B t v) (hne : t ≠ E) (cur : Array Value) : W.heap[B]? ≠ some (.cells cur E (0, 0)) := by
  rw [show W.heap[B]? = _ from h]
  intro e
  simp only [Option.some.injEq, Obj.cells.injEq] at e
  exact hne e.2.1
theorem keeps_of_fr {S : Nat → Prop} {W W' : World} (hf : Fr S W W') (hS : ∀ k, S k → k < W.heap.size → ∃ cs t fz, W.heap[k]? = some (.cells cs t fz)) : KeepsOthers W W' :=
  ⟨hf.size, fun k o hk ho => by
    have hlt := (Array.getElem?_eq_some_iff.1 hk).1
    by_cases hs : S k
    · obtain ⟨cs, t, fz, e⟩ := hS k hs hlt
      rw [e] at hk; cases hk; cases ho
    · rw [hf.block k hlt hs]; exact hk⟩
theorem below_of_fr {S : Nat → Prop} {W W' : World} {n₀ : Nat} (hf : Fr S W W') (hn : n₀ ≤ W.heap.size) (hS : ∀ k, S k → n₀ ≤ k) : Below n₀ W W' :=
  ⟨hf.os, hf.tape, hf.output, hf.size, fun k hk => hf.block k (by omega) fun e => by have := hS k e; omega⟩

theorem not_own {W : World} {B n0 : Nat} {u v : Value} {t : TypeId} {ls : List (List UInt8)} (h4 : Boxed W n0 t v) (ho : Owns W B u ls) (ht : t ≠ 22) : u.ownBlock ≠ some n0 := by
  intro e
  obtain ⟨vs, h1, _⟩ := ho
  obtain ⟨cur, hc⟩ := row_kind h1 n0 e
  exact boxed_not h4 ht cur hc

theorem body_end {WL W w1 w2 : World} {B n0 : Nat} {u v2 : Value} {k m : Int} {ls : List (List UInt8)} {l : List UInt8} (h4 : Boxed W n0 32 u) (ho : Owns W n0 u ls) (h5 : Boxed W (n0 + 1) 3 (.int .i64 k)) (hb : Below n0 WL W)
    (hn : n0 + 3 ≤ WL.heap.size) (hf1 : Fr Non W w1) (hf2 : Fr (fun k => u.ownBlock = some k) w1 w2) (ho2 : Owns w2 n0 v2 (ls ++ [l])) :
    KeepsFrom B W ((w2.setCell ⟨n0, 0, none⟩ v2).setCell ⟨n0 + 1, 0, none⟩ (.int .i64 m)) ∧ Below n0 W ((w2.setCell ⟨n0, 0, none⟩ v2).setCell ⟨n0 + 1, 0, none⟩ (.int .i64 m)) ∧
      ((∃ u, Boxed ((w2.setCell ⟨n0, 0, none⟩ v2).setCell ⟨n0 + 1, 0, none⟩ (.int .i64 m)) n0 32 u ∧ Owns ((w2.setCell ⟨n0, 0, none⟩ v2).setCell ⟨n0 + 1, 0, none⟩ (.int .i64 m)) n0 u (ls ++ [l])) ∧
        Boxed ((w2.setCell ⟨n0, 0, none⟩ v2).setCell ⟨n0 + 1, 0, none⟩ (.int .i64 m)) (n0 + 1) 3 (.int .i64 m) ∧ Below n0 WL ((w2.setCell ⟨n0, 0, none⟩ v2).setCell ⟨n0 + 1, 0, none⟩ (.int .i64 m))) := by
  have hs := hb.size
  have hne4 := not_own h4 ho (by decide)
  have hne5 := not_own h5 ho (by decide)
  have b41 : Boxed w1 n0 32 u := boxed_fr h4 hf1 (fun e => e)
  have b42 : Boxed w2 n0 32 u := boxed_fr b41 hf2 hne4
  have b52 : Boxed w2 (n0 + 1) 3 (.int .i64 k) := boxed_fr (boxed_fr h5 hf1 (fun e => e)) hf2 hne5
  have f3 : Fr (One n0) w2 (w2.setCell ⟨n0, 0, none⟩ v2) := (Fr.refl _ _).set1 0 v2
  have f4 : Fr (One (n0 + 1)) (w2.setCell ⟨n0, 0, none⟩ v2) ((w2.setCell ⟨n0, 0, none⟩ v2).setCell ⟨n0 + 1, 0, none⟩ (.int .i64 m)) := (Fr.refl _ _).set1 0 _
  have b43 : Boxed (w2.setCell ⟨n0, 0, none⟩ v2) n0 32 v2 := b42.set v2
  have b53 : Boxed (w2.setCell ⟨n0, 0, none⟩ v2) (n0 + 1) 3 (.int .i64 k) := boxed_fr b52 f3 (fun e => by have : n0 + 1 = n0 := e; omega)
  have b44 := boxed_fr b43 f4 (fun e => by have : n0 = n0 + 1 := e; omega)
  have b54 := b53.set (.int .i64 m)
  have o3 : Owns (w2.setCell ⟨n0, 0, none⟩ v2) n0 v2 (ls ++ [l]) := ho2.fr f3 (fun k cur e => by
    obtain rfl : k = n0 := e
    exact ⟨boxed_not b42 (by decide) cur, boxed_not b42 (by decide) cur⟩)
  have o4 := o3.fr f4 (fun k cur e => by
    obtain rfl : k = n0 + 1 := e
    exact ⟨boxed_not b53 (by decide) cur, boxed_not b53 (by decide) cur⟩)
  have fall : Fr (fun k => k = n0 ∨ k = n0 + 1 ∨ u.ownBlock = some k) W ((w2.setCell ⟨n0, 0, none⟩ v2).setCell ⟨n0 + 1, 0, none⟩ (.int .i64 m)) :=
    ((((hf1.any).join hf2 (fun k _ e => .inr (.inr e))).join f3 (fun k _ e => .inl e)).join f4 (fun k _ e => .inr (.inl e)))
  have hB : Below n0 W ((w2.setCell ⟨n0, 0, none⟩ v2).setCell ⟨n0 + 1, 0, none⟩ (.int .i64 m)) := below_of_fr fall (by omega) (fun k e => by
    rcases e with rfl | rfl | e
    · exact Nat.le_refl _
    · omega
    · exact (ho.lt k e).1)
  refine ⟨(keeps_of_fr fall (fun k e hlt => ?_)).from _, hB, ⟨v2, b44, o4⟩, b54, hb.trans hB⟩
  rcases e with rfl | rfl | e
  · exact ⟨_, _, _, h4⟩
  · exact ⟨_, _, _, h5⟩
  · obtain ⟨vs, h1, _⟩ := ho
    obtain ⟨cur, hc⟩ := row_kind h1 k e
    exact ⟨_, _, _, hc⟩

set_option maxRecDepth 100000 in
set_option maxHeartbeats 4000000 in
theorem fall_any (v : Value) (l : List UInt8) (w : World) (hv : Bs w v l) (hvl : ∀ k, v.ownBlock = some k → k < w.heap.size) (ht : Tab w) (hl : l.length < 1000000000) :
    Calls Tryd.prog 14 #[v] w fun e w' => ∃ u, e = .returned (.tuple #[u, .int .i64 (allN l.length l)]) ∧ Owns w' w.heap.size u (allB l.length l) ∧ Below w.heap.size w w' := by
  have HB := Lib.hid hv
  have HVL := Lib.hid hvl
  have HT := Lib.hid ht
  obtain ⟨A, c, rfl, _⟩ := hv
  clear hvl ht
  refine (callsIn_wide (n := 7)).1 ?_
  refine callsIn_of_wp_marks Tryd.func14 rfl trivial ?_ rfl
  simp only [Tryd.ntmps14, List.size_toArray, List.length_cons, List.length_nil, Nat.reduceAdd, Nat.reduceSub, Array.replicate_succ, Array.replicate_zero, List.push_toArray, List.append_toArray, List.nil_append, List.cons_append]
  gi_wp2_with (refine ⟨trivial, ?_⟩; gi_at_call 26; refine (callsIn_wide.2 (fframes_any _ _ rfl)).mono ?_; rintro e w1 ⟨rfl, rfl⟩)
  obtain ⟨WL, hWL⟩ : ∃ WL, ((w.alloc (.cells #[.slice none 0 0] 32)).alloc (.cells #[.int .i64 0] 3)).alloc (.cells #[.slice A l.length c] 22) = WL := ⟨_, rfl⟩
  have hfL : Fr Non w WL := by rw [← hWL]; exact (((Fr.refl _ w).alloc _).alloc _).alloc _
  have hsz : WL.heap.size = w.heap.size + 3 := by rw [← hWL]; simp
  have hx4 : Boxed WL w.heap.size 32 (.slice none 0 0) := by
    rw [← hWL]; exact ((Boxed.new w 32 (.slice none 0 0)).alloc _).alloc _
  have hx5 : Boxed WL (w.heap.size + 1) 3 (.int .i64 0) := by
    rw [← hWL]
    have h := Boxed.new (w.alloc (.cells #[.slice none 0 0] 32)) 3 (.int .i64 0)
    rw [World.size_alloc] at h
    exact h.alloc _
  have hx6 : Boxed WL (w.heap.size + 1 + 1) 22 (.slice A l.length c) := by
    rw [← hWL]
    have h := Boxed.new ((w.alloc (.cells #[.slice none 0 0] 32)).alloc (.cells #[.int .i64 0] 3)) 22 (.slice A l.length c)
    rw [World.size_alloc, World.size_alloc] at h
    exact h
  have hbL : Below w.heap.size w WL := hfL.belowOf _ (Nat.le_refl _)
  have hvL : ∀ W, Below w.heap.size WL W → Bs W (.slice A l.length c) l := fun W hb => HB.out.keep fun k hk hlt => (hbL.trans hb).block k hlt
  rw [hWL]
  clear hWL
  refine wpIn_rangeFunc_ownG rfl (by decide) (gf := 34) (lb := #[.pointer (some ⟨w.heap.size + 1 + 1, 0, none⟩)]) rfl trivial (enters_of Tryd.func34 (by kernel_rfl) rfl)
    (frames_stops 6 (by decide) (w.heap.size + 1 + 1) w.heap.size (.slice A l.length c) l WL (by omega) hx6.cell hvL HVL.out (HT.out.non hfL) HT.out.lt hl) belowK_t (belowK_b (by omega)) (Below.refl _ _) (fun _ => rfl)
    (fun xs W => (∃ u, Boxed W w.heap.size 32 u ∧ Owns W w.heap.size u (pcs xs)) ∧ Boxed W (w.heap.size + 1) 3 (.int .i64 (pcn xs)) ∧ Below w.heap.size WL W)
    (fun _ _ _ => False)
    ?hI (fun _ _ _ _ _ h _ _ => h.elim)
    ⟨⟨_, hx4, owns_nil _ _⟩, hx5, Below.refl _ _⟩
    (fun x => { tmps := #[.slice A l.length c, undef, .slice none 0 0, .int .i64 0, .pointer (some ⟨w.heap.size, 0, none⟩), .pointer (some ⟨w.heap.size + 1, 0, none⟩), x.1.1, .int .i64 (x.1.2.2 : Nat), .slice A l.length c,
        .func (.func 34) #[] #[.pointer (some ⟨w.heap.size + 1 + 1, 0, none⟩)], x.1.1, .int .i64 (x.1.2.2 : Nat), undef, undef, undef, undef, undef, undef, undef, undef, undef, undef], defers := [] }) ?assign ?body ?done ?stop
  case hI =>
    intro xs X Y row ⟨⟨u, h1, h2⟩, h3, h4⟩ hg hr
    exact ⟨⟨u, boxed_own h1 hg fun r e => (hr r e).2, owns_own h2 hg fun r e => (hr r e).2⟩, boxed_own h3 hg fun r e => (hr r e).2, h4.grown hg (by have := h4.size; omega) fun r e => by have := (hr r e).1; omega⟩
  case assign =>
    intro r x W K hK
    gi_wp2
    exact hK
  case stop =>
    rintro D cc xs W _ _ h _
    exact h.elim
  case body =>
    rintro r xs x W ⟨⟨u, h4, ho⟩, h5, hb⟩ hlen
    have hpn := pcn_le xs
    have hps : (pcs xs).length = xs.length := by simp [pcs]
    have hx3 := x.2.2.2
    have hxs : x.size = x.1.2.2 := rfl
    have hxb : x.bytes = x.1.2.1 := rfl
    have HXB := Lib.hid (x.2.1 W hb)
    have HXL := Lib.hid (show x.1.2.1.length < 140737488355328 by have := x.2.2.1; omega)
    have HPS := Lib.hid (show pcs (xs ++ [x]) = pcs xs ++ [x.1.2.1] by rw [pcs_snoc, hxb])
    have HPN := Lib.hid (show pcn (xs ++ [x]) = pcn xs + x.1.2.2 by rw [pcn_snoc, hxs])
    have hsum : (pcn xs : Int) + (x.1.2.2 : Nat) ≤ 9223372036854775807 := by omega
    have HPL := Lib.hid (show (pcs xs).length < 1099511627776 by omega)
    have hws := hb.size
    clear hxs hxb hps hpn
    obtain ⟨Ax, cx, hxv⟩ := HXB.out.shape
    rw [hxv] at HXB ⊢
    have c4 := h4.cell
    have f4 := h4.frozen
    have c5 := h5.cell
    have f5 := h5.frozen
    have H4 := Lib.hid h4
    have H5 := Lib.hid h5
    have HO := Lib.hid ho
    have HBW := Lib.hid hb
    have hmx : Tryd.prog.follows .mixedOrders = true := by kernel_rfl
    clear h4 h5 ho hb
    generalize x.1.2.1 = xb at *
    generalize x.1.2.2 = xn at *
    generalize pcs xs = ps at *
    generalize pcn xs = pn at *
    gi_wp2
    gi_region_with_o (first | (refine ⟨trivial, ?_⟩; gi_at_call 21; refine (CallsIn.inRound r (callsIn_wide.2 (clone_any _ xb _ (HXB.out.drewN _) HXL.out))).mono ?_; rintro e w1 ⟨u1, rfl, hu1, hf1⟩; obtain ⟨A1, c1, rfl⟩ := hu1.bs.shape; have hfW : Fr Non W w1 := ⟨hf1.os, hf1.tape, hf1.output, hf1.size, hf1.block⟩; have b41 := boxed_fr H4.out hfW (fun e => e); have c41 := b41.cell; have c43 := (b41.alloc (.cells #[.slice A1 xb.length c1] 22)).cell) | (refine appG_pushs _ _ rfl w.heap.size u _ ps xb rfl (HO.out.non hfW) (hu1.mono (by simp; omega)) rfl HPL.out (by have := hf1.size; simp at this; omega) ?_; intro v2 w2 ho2 hf2; obtain ⟨A2, c2, rfl⟩ := ho2.shape; have b42 := boxed_fr (boxed_fr H4.out hfW (fun e => e)) hf2 (not_own H4.out HO.out (by decide)); have b52 := boxed_fr (boxed_fr H5.out hfW (fun e => e)) hf2 (not_own H5.out HO.out (by decide)); have c42 := b42.cell; have f42 := b42.frozen; have c52 := b52.cell; have f52 := b52.frozen))
    all_goals
      have b53 := boxed_fr b52 (show Fr (One w.heap.size) w2 (w2.setCell ⟨w.heap.size, 0, none⟩ (.slice A2 (ps ++ [xb]).length c2)) from (Fr.refl _ _).set1 0 _) (fun e => by have : w.heap.size + 1 = w.heap.size := e; omega)
      have c53 := b53.cell
      have f53 := b53.frozen
      have HEND := Lib.hid (body_end (m := (pn : Int) + xn) (B := WL.heap.size) H4.out HO.out H5.out HBW.out (by omega) hfW hf2 ho2)
      simp only [List.length_append, List.length_cons, List.length_nil, Nat.zero_add] at c53 f53 HEND
      clear c43 c41 b41 b42 b52 b53 c42 f42 c52 f52 ho2 hf2 hfW hu1 hf1
      gi_wp2
      simp only [ownPostG]
      rw [HPS.out, HPN.out, Int.natCast_add]
      exact HEND.out
  case done =>
    rintro D xs W hD ⟨hp1, hp2⟩ ⟨⟨u, h4, ho⟩, h5, hb⟩ hK
    have c4 := h4.cell
    have c5 := h5.cell
    have hmx : Tryd.prog.follows .mixedOrders = true := by kernel_rfl
    gi_wp2
    refine wpIn_mono ?_ (fun e a w h => NoPanic.imp e a w h)
    gi_region_with_o (fail)
    all_goals refine NoPanic.normal ?_
    all_goals gi_wp2
    all_goals
      refine ⟨by simp, .inl ⟨_, _, rfl, run_takeDeferred (w := W.drew) hK, ?_⟩⟩
      refine ⟨_, results_tmp2 rfl _ _ _, u, ?_, ?_, ?_⟩
      · rw [← hp2]; rfl
      · rw [← hp1]
        exact owns_own (W := W.drew) (ho.non (Fr.drew (Fr.refl _ _))) (grownBy_putObj' W.drew D (.deferred none)) (fun r e => by cases e; exact ⟨_, hK, rfl⟩)
      · exact ((hbL.trans hb).trans ((Below.refl _ W).drew)).trans (belowK_b (w := w) (Nat.le_refl _) W.drew D _ _ (by omega) hK rfl rfl)
end Go.Proofs.YtfgbhnchchdlcaaDoor
