/-
  Joined: Wld4
-/
import Derived.Lib.Zigzag
import Derived.Deep.QuietTactic
import Derived.BigQuiet
import Derived.Deep.RegionHeld3
import Derived.Deep.DrawnRows
import Derived.Laws.StructEq
import Derived.Laws.Rows
import Derived.Laws.ResultCell
import Derived.Test.YtpepapadbmkjiaaZ3
set_option linter.unusedVariables false
set_option linter.unusedSimpArgs false
set_option maxRecDepth 100000
namespace Go.Proofs.Ytpepapadbmkjiaa
open Go.RowKit
section
variable {P : Program} {ops : Array Oper} {Q : Exit → Act → World → Prop} {md : Region.Mode} {S : World → Prop} {last : Nat}
theorem wpAnyK_two {i j : Nat} {oi oj : Oper} {fuel : Nat} {listed : Array Bool} {a : Act} {w : World} (hr : Region.ready md ops listed = [i, j]) (hi : ops[i]? = some oi) (hj : ops[j]? = some oj)
    (h1 : ∀ K' : Act → World → Prop, Shut (∀ a w, (i ≠ last → S w) → wpAnyK P md ops Q S last fuel (listed.setIfInBounds i true) a w → K' a w) → if Region.wanted oi (yielded ops a.tmps) = true then Oper.wp P oi a w K' Q else K' (a.put oi.dst undef) w)
    (h2 : ∀ K' : Act → World → Prop, Shut (∀ a w, (j ≠ last → S w) → wpAnyK P md ops Q S last fuel (listed.setIfInBounds j true) a w → K' a w) → if Region.wanted oj (yielded ops a.tmps) = true then Oper.wp P oj a w K' Q else K' (a.put oj.dst undef) w) :
    wpAnyK P md ops Q S last (fuel + 1) listed a w := by
  refine ⟨fun h0 => absurd (hr.symm.trans h0) (by simp), fun k hk => ?_⟩
  rw [hr] at hk
  rcases List.mem_cons.1 hk with rfl | hk
  · exact wpOp_step hi (fun K' hK => h1 K' (fun a w hS hW => hK a w ⟨hS, hW⟩))
  · obtain rfl := List.mem_singleton.1 hk
    exact wpOp_step hj (fun K' hK => h2 K' (fun a w hS hW => hK a w ⟨hS, hW⟩))
theorem wpAnyK_first2 {i k : Nat} {oi : Oper} {v : Value} (hi : ops[i]? = some oi) (hsel : ∀ (j : Nat) (o : Oper) cs b, ops[j]? = some o → o.op ≠ .select cs b)
    (hQ : ∀ c a w, Q (.panic c) (a.put oi.dst v) w → Q (.panic c) a w) (hw : Region.waitsFor md ops last k = true) (hw2 : Region.waitsFor md ops k i = true) (hl : i ≠ last) :
    ∀ (fuel : Nat) (listed : Array Bool) (a : Act) (w : World), listed.getD k true = false →
      (∀ j oj, ops[j]? = some oj → j ≠ i → listed.getD j true = false → (∀ e ∈ oj.after, Region.binds md e = true → e.on ≠ i) → oi.apart ops oj = true) →
      i ∈ Region.ready md ops listed → YieldsIf P ops S oi v a → S w →
      wpAnyK P md ops Q S last fuel (listed.setIfInBounds i true) (a.put oi.dst v) w → wpAnyK P md ops Q S last (fuel + 1) listed a w := by
  have waits : ∀ {m n : Nat} {listed : Array Bool}, Region.waitsFor md ops m n = true → m ∈ Region.ready md ops listed → listed.getD n true = false → False := by
    intro m n listed hw hm hn
    obtain ⟨oj', hj', e, he, hb, hon⟩ := Region.waitsFor_spec hw
    obtain ⟨_, oj, hoj, hall⟩ := mem_ready.1 hm
    obtain rfl : oj' = oj := Option.some.inj (hj'.symm.trans hoj)
    have h1 := hall e he hb
    rw [hon] at h1
    rcases Nat.lt_or_ge n listed.size with h' | h'
    · simp [h'] at hn h1; rw [hn] at h1; cases h1
    · simp [Array.getD, Nat.not_lt.2 h'] at hn
  intro fuel
  induction fuel with
  | zero =>
    intro listed a w hk _ hr hy hS H
    refine ⟨fun h => (by rw [h] at hr; cases hr), fun j hj => ?_⟩
    by_cases hji : j = i
    · subst hji; exact hy.wpOp hi hS ⟨fun _ => hS, H⟩
    · have := ready_mono hj hji
      rw [H.1] at this
      cases this
  | succ fuel ih =>
    intro listed a w hk hfree hr hy hS H
    refine ⟨fun h => (by rw [h] at hr; cases hr), fun j hj => ?_⟩
    by_cases hji : j = i
    · subst hji; exact hy.wpOp hi hS ⟨fun _ => hS, H⟩
    · have h1 := H.2 j (ready_mono hj hji)
      obtain ⟨hjun, oj, hoj, hall⟩ := mem_ready.1 hj
      have hiun := (mem_ready.1 hr).1
      have hnot : ∀ e ∈ oj.after, Region.binds md e = true → e.on ≠ i := fun e he hb heq => by
        have h1 := hall e he hb
        have h0 := (mem_ready.1 hr).1
        rw [heq] at h1
        rcases Nat.lt_or_ge i listed.size with h' | h'
        · simp [h'] at h0 h1; rw [h0] at h1; cases h1
        · simp [Array.getElem?_eq_none h'] at h1
      have hjl : j ≠ last := fun e => waits hw (e ▸ hj) hk
      have hjk : j ≠ k := fun e => waits hw2 (e ▸ hj) hiun
      have h2 := wpOp_putIf hoj (hfree j oj hoj hji hjun hnot) (fun cs b => hsel i oi cs b hi) (fun cs b => hsel j oj cs b hoj) hQ hy h1
      have hfree' : ∀ k ok, ops[k]? = some ok → k ≠ i → (listed.setIfInBounds j true).getD k true = false →
          (∀ e ∈ ok.after, Region.binds md e = true → e.on ≠ i) → oi.apart ops ok = true := fun k ok hk hki hun hno => by
        refine hfree k ok hk hki ?_ hno
        by_cases hjk : j = k
        · subst hjk; exact hjun
        · rw [getD_set_ne true hjk] at hun; exact hun
      refine wpOp_mono (fun a' w' h3 => ⟨h3.2.1, ih (listed.setIfInBounds j true) a' w' (by rw [getD_set_ne true hjk]; exact hk) hfree' (ready_mono hr (Ne.symm hji)) h3.1 (h3.2.1 hjl) ?_⟩) h2
      rw [Array.setIfInBounds_comm _ _ hji]
      exact h3.2.2
theorem wpAnyK_take2 {i : Nat} (k : Nat) {oi : Oper} {v : Value} {fuel : Nat} {listed : Array Bool} {a : Act} {w : World} (hi : ops[i]? = some oi)
    (hs : Region.noSelect ops = true) (hf : Region.free md ops listed i = true) (hr : (Region.ready md ops listed).contains i = true)
    (hQ : ∀ c a w, Q (.panic c) (a.put oi.dst v) w → Q (.panic c) a w) (hw : Region.waitsFor md ops last k = true) (hw2 : Region.waitsFor md ops k i = true) (hk : (listed.getD k true == false) = true) (hl : i ≠ last) (hy : YieldsIf P ops S oi v a) (hS : S w)
    (h : wpAnyK P md ops Q S last fuel (listed.setIfInBounds i true) (a.put oi.dst v) w) : wpAnyK P md ops Q S last (fuel + 1) listed a w :=
  wpAnyK_first2 hi (Region.noSelect_spec hs) hQ hw hw2 hl fuel listed a w (by simpa using hk) (Region.free_spec hi hf) (by simpa using hr) hy hS h
end
theorem el_bs24 : El 67 23 (.slice none 0 0) 24 := ⟨Try.underlying67, by kernel_rfl, rfl, by decide, by kernel_rfl, fun _ => by kernel_rfl⟩
theorem vs1_lt {α : Type} {f : α → Value} {w : World} {g : Nat} {l : List α} (h : Vs f w (.slice (some ⟨g, 0, none⟩) 1 1) l) : g < w.heap.size := by
  obtain ⟨a, ha, hl, -, hc⟩ := h.addr (by decide)
  cases ha
  have := World.block_lt_of_cell? _ _ (hc 0 (by omega))
  rwa [add_block] at this
theorem ow_unlike {α β : Type} {f : α → Value} {f' : β → Value} {E E' : TypeId} {w : World} {B B' : Nat} {v u : Value} {l : List α} {m : List β} (h : Ow f E w B v l) (h' : Ow f' E' w B' u m) (hE : E ≠ E') : ∀ q, v.ownBlock = some q → u.ownBlock = some q → False := fun q h1 h2 => by
  obtain ⟨c1, e1⟩ := h.kind q h1
  obtain ⟨c2, e2⟩ := h'.kind q h2
  rw [e1] at e2
  simp only [Option.some.injEq, Obj.cells.injEq] at e2
  exact hE e2.2.1
theorem sl_of {α : Type} {f : α → Value} {w : World} {v : Value} {l : List α} (h : Vs f w v l) : ∃ A n c, v = .slice A n c := by
  obtain ⟨A, c, rfl⟩ := h.shape
  exact ⟨A, _, c, rfl⟩
set_option maxHeartbeats 16000000 in
theorem wlay_any (g : Nat) (x : Tx) (v : Value) (b : List UInt8) (w : World) (hv : ∀ W', Fr (One g) w W' → Bs W' v b) (hbl : b.length ≤ 1048576) (h : WdB w g (-1) false 1 1) : Calls Try.prog 53 #[ptr g, .string ⟨x.toArray⟩, v] w fun e w' => e = .returned (.tuple #[]) ∧ Fr (One g) w w' := by
  have hB := Lib.hid h
  have hl := h.lt
  have HV := Lib.hid hv
  obtain ⟨Ab, cb, rfl⟩ := Vs.shape (f := bv) (hv w (Fr.refl _ _))
  clear hv
  go_enter Try.func53, Try.ntmps53
  go_wp2_with fail
  refine (wdrop_any g x (-1) false 1 1 w hB.out).mono ?_
  rintro e w1 ⟨rfl, rfl⟩
  obtain ⟨c0, c1, c2, c3, c4, c5, c6, z0, z1, z2, z3, z4, z5, z6⟩ := h.facts
  clear h
  go_wp2
  go_loopw [6] (fun i wr => i = .int .i64 0 ∧ wr = w) (fun _ _ => 0)
  case atStart => exact ⟨rfl, rfl⟩
  case round =>
    obtain ⟨rfl, rfl⟩ := hrel
    go_wp2
    clear c1 c2 c3 c4 c5 c6 z0 z1 z2 z3 z4 z5 z6
    obtain ⟨A2, k2, hr1, hv1, ho1⟩ := slice_hiG el_str none 0 0 0 .i64 0 rfl (Nat.le_refl _) (Nat.le_refl _)
    obtain ⟨A3, k3, hr2, hv2, ho2⟩ := slice_loG el_str none 0 0 0 .i64 0 rfl (Nat.le_refl _) (Nat.le_refl _)
    simp only [Nat.sub_zero] at hr2
    have HV1 : Hid (∀ W, Vs sv W (.slice A2 0 k2) []) := Lib.hid (fun W => hv1 sv W [] rfl (Vs.nil_ W))
    have HV2 : Hid (∀ W, Vs sv W (.slice A3 0 k3) []) := Lib.hid (fun W => hv2 sv W [] rfl (Vs.nil_ W))
    clear hv1 hv2 ho1 ho2
    refine wp_region_K (fun W' => W'.cell? ⟨g, 0, none⟩ = some (.slice none 0 0)) 21 (by kernel_rfl) ?_
    have hHeld : (fun W' => W'.cell? ⟨g, 0, none⟩ = some (.slice none 0 0)) (wr.drew) := c0
    refine wpAnyK_take (i := 0) (oi := ⟨some 30, _, _, _, _, none⟩) (v := ?v21) rfl (by kernel_rfl) (by kernel_rfl) (by kernel_rfl) (fun _ _ _ h => h) (by kernel_rfl) (by decide) (Or.inl ⟨by rfl, ?hy21⟩) (by assumption) ?rest21
    case hy21 => (intro wS hSw; (try dsimp only at hSw); go_simp; (try with_reducible rfl))
    (try simp only [Act.put, zA, zB, zC])
    refine wpAnyK_take (i := 2) (oi := ⟨some 32, _, _, _, _, none⟩) (v := ?v22) rfl (by kernel_rfl) (by kernel_rfl) (by kernel_rfl) (fun _ _ _ h => h) (by kernel_rfl) (by decide) (Or.inl ⟨by rfl, ?hy22⟩) (by assumption) ?rest22
    case hy22 => (intro wS hSw; (try dsimp only at hSw); go_simp; (try with_reducible rfl))
    (try simp only [Act.put, zA, zB, zC])
    refine wpAnyK_take (i := 3) (oi := ⟨some 33, _, _, _, _, none⟩) (v := ?v23) rfl (by kernel_rfl) (by kernel_rfl) (by kernel_rfl) (fun _ _ _ h => h) (by kernel_rfl) (by decide) (Or.inl ⟨by rfl, ?hy23⟩) (by assumption) ?rest23
    case hy23 => (intro wS hSw; (try dsimp only at hSw); go_simp; (try with_reducible rfl))
    (try simp only [Act.put, zA, zB, zC])
    refine wpAnyK_take (i := 4) (oi := ⟨some 34, _, _, _, _, none⟩) (v := ?v24) rfl (by kernel_rfl) (by kernel_rfl) (by kernel_rfl) (fun _ _ _ h => h) (by kernel_rfl) (by decide) (Or.inl ⟨by rfl, ?hy24⟩) (by assumption) ?rest24
    case hy24 => (intro wS hSw; (try dsimp only at hSw); go_simp; (try with_reducible rfl))
    (try simp only [Act.put, zA, zB, zC])
    refine wpAnyK_take (i := 5) (oi := ⟨some 35, _, _, _, _, none⟩) (v := ?v25) rfl (by kernel_rfl) (by kernel_rfl) (by kernel_rfl) (fun _ _ _ h => h) (by kernel_rfl) (by decide) (Or.inl ⟨by rfl, ?hy25⟩) (by assumption) ?rest25
    case hy25 => (intro wS hSw; (try dsimp only at hSw); go_simp; (try with_reducible rfl))
    (try simp only [Act.put, zA, zB, zC])
    refine wpAnyK_take (i := 6) (oi := ⟨some 36, _, _, _, _, none⟩) (v := ?v26) rfl (by kernel_rfl) (by kernel_rfl) (by kernel_rfl) (fun _ _ _ h => h) (by kernel_rfl) (by decide) (Or.inl ⟨by rfl, ?hy26⟩) (by assumption) ?rest26
    case hy26 => (intro wS hSw; (try dsimp only at hSw); go_simp; (try with_reducible rfl))
    (try simp only [Act.put, zA, zB, zC])
    refine wpAnyK_take (i := 7) (oi := ⟨some 37, _, _, _, _, none⟩) (v := ?v27) rfl (by kernel_rfl) (by kernel_rfl) (by kernel_rfl) (fun _ _ _ h => h) (by kernel_rfl) (by decide) (Or.inl ⟨by rfl, ?hy27⟩) (by assumption) ?rest27
    case hy27 => (intro wS hSw; (try dsimp only at hSw); go_simp; (try with_reducible rfl))
    (try simp only [Act.put, zA, zB, zC])
    refine wpAnyK_take (i := 9) (oi := ⟨some 39, _, _, _, _, none⟩) (v := ?v28) rfl (by kernel_rfl) (by kernel_rfl) (by kernel_rfl) (fun _ _ _ h => h) (by kernel_rfl) (by decide) (Or.inl ⟨by rfl, ?hy28⟩) (by assumption) ?rest28
    case hy28 => (intro wS hSw; (try dsimp only at hSw); go_simp; (try with_reducible rfl))
    (try simp only [Act.put, zA, zB, zC])
    refine wpAnyK_take (i := 12) (oi := ⟨some 42, _, _, _, _, none⟩) (v := ?v29) rfl (by kernel_rfl) (by kernel_rfl) (by kernel_rfl) (fun _ _ _ h => h) (by kernel_rfl) (by decide) (Or.inl ⟨by rfl, ?hy29⟩) (by assumption) ?rest29
    case hy29 => (intro wS hSw; (try dsimp only at hSw); go_simp; (try with_reducible rfl))
    (try simp only [Act.put, zA, zB, zC])
    refine wpAnyK_take (i := 13) (oi := ⟨some 43, _, _, _, _, none⟩) (v := ?v30) rfl (by kernel_rfl) (by kernel_rfl) (by kernel_rfl) (fun _ _ _ h => h) (by kernel_rfl) (by decide) (Or.inl ⟨by rfl, ?hy30⟩) (by assumption) ?rest30
    case hy30 => (intro wS hSw; (try dsimp only at hSw); go_simp; (try with_reducible rfl))
    (try simp only [Act.put, zA, zB, zC])
    refine wpAnyK_take (i := 14) (oi := ⟨some 44, _, _, _, _, none⟩) (v := ?v31) rfl (by kernel_rfl) (by kernel_rfl) (by kernel_rfl) (fun _ _ _ h => h) (by kernel_rfl) (by decide) (Or.inl ⟨by rfl, ?hy31⟩) (by assumption) ?rest31
    case hy31 => (intro wS hSw; (try dsimp only at hSw); go_simp; (try with_reducible rfl))
    (try simp only [Act.put, zA, zB, zC])
    refine wpAnyK_take (i := 15) (oi := ⟨some 45, _, _, _, _, none⟩) (v := ?v32) rfl (by kernel_rfl) (by kernel_rfl) (by kernel_rfl) (fun _ _ _ h => h) (by kernel_rfl) (by decide) (Or.inl ⟨by rfl, ?hy32⟩) (by assumption) ?rest32
    case hy32 => (intro wS hSw; (try dsimp only at hSw); go_simp; (try with_reducible rfl))
    (try simp only [Act.put, zA, zB, zC])
    refine wpAnyK_take (i := 16) (oi := ⟨some 46, _, _, _, _, none⟩) (v := ?v33) rfl (by kernel_rfl) (by kernel_rfl) (by kernel_rfl) (fun _ _ _ h => h) (by kernel_rfl) (by decide) (Or.inl ⟨by rfl, ?hy33⟩) (by assumption) ?rest33
    case hy33 => (intro wS hSw; (try dsimp only at hSw); go_simp; (try with_reducible rfl))
    (try simp only [Act.put, zA, zB, zC])
    refine wpAnyK_take (i := 17) (oi := ⟨some 47, _, _, _, _, none⟩) (v := ?v34) rfl (by kernel_rfl) (by kernel_rfl) (by kernel_rfl) (fun _ _ _ h => h) (by kernel_rfl) (by decide) (Or.inl ⟨by rfl, ?hy34⟩) (by assumption) ?rest34
    case hy34 => (intro wS hSw; (try dsimp only at hSw); go_simp; (try with_reducible rfl))
    (try simp only [Act.put, zA, zB, zC])
    obtain ⟨V0, hV0⟩ : ∃ V, V = wr.drew := ⟨_, rfl⟩
    rw [← hV0] at hHeld ⊢
    have F0 : Fr Non V0 V0 := Fr.refl _ _
    obtain ⟨B, hB0⟩ : ∃ B, V0.heap.size = B := ⟨_, rfl⟩
    have HC0 := Lib.hid hHeld
    have FW0 : Hid (Fr (One g) wr V0) := Lib.hid (by rw [hV0]; exact (Fr.refl _ _).drew)
    have HBB : Hid (WdB V0 g (-1) false 1 1) := Lib.hid (by rw [hV0]; exact hB.out.drew)
    clear hV0
    replace hB0 := Lib.hid hB0
    refine wpAnyK_two (i := 1) (j := 10) (oi := ⟨some 31, _, _, _, _, none⟩) (oj := ⟨some 40, _, _, _, _, none⟩) (by kernel_rfl) rfl rfl (fun K hK => ?_) (fun K hK => ?_)
    · obtain ⟨GX, hGX⟩ : ∃ G, V0.heap.size = G := ⟨_, rfl⟩
      obtain ⟨V1, hV1⟩ : ∃ W, W = V0.alloc (.cells #[] 9) := ⟨_, rfl⟩
      have fs : Fr Non V0 V1 := by rw [hV1]; exact (Fr.refl Non _).alloc _
      have HX : Ow sv 9 V1 B (.slice (some ⟨GX, 0, none⟩) 0 0) [] := by rw [hV1]; exact ow_lit0 V0 B GX hGX.symm (by have := hB0.out; have := F0.size; omega)
      have F1 : Fr Non V0 V1 := F0.trans fs
      go_simp
      try rw [hGX]
      rw [← hV1]
      refine hK.out _ _ (fun _ => by exact F1.at0 HC0.out) ?_
      clear hK K
      (try simp only [Act.put, zA, zB, zC])
      clear fs hV1
      refine wpAnyK_two (i := 8) (j := 10) (oi := ⟨some 38, _, _, _, _, none⟩) (oj := ⟨some 40, _, _, _, _, none⟩) (by kernel_rfl) rfl rfl (fun K hK => ?_) (fun K hK => ?_)
      · refine step_appG el_str sv_one rfl (.tmp 31) (.tmp 37) rfl B (.slice (some ⟨GX, 0, none⟩) 0 0) (.slice A2 0 k2) [] [] rfl HX rfl (HV1.out _) (by simp) (by have := hB0.out; have := F1.size; omega) ?_
        intro vX1 V2 HXn fs
        have F2 : Fr Non V0 V2 := F1.fresh fs (fun q e => by have := hB0.out; have := (HX.lt q e).1; omega)
        have HX0 := HX
        replace HX := HXn
        refine hK.out _ _ (fun _ => by exact F2.at0 HC0.out) ?_
        clear hK K
        (try simp only [Act.put, zA, zB, zC])
        clear fs HX0 HXn
        refine wpAnyK_one (i := 10) (o := ⟨some 40, _, _, _, _, none⟩) (by kernel_rfl) rfl (fun K hK => ?_)
        obtain ⟨GZ, hGZ⟩ : ∃ G, V2.heap.size = G := ⟨_, rfl⟩
        obtain ⟨V3, hV3⟩ : ∃ W, W = V2.alloc (.cells #[.string ⟨x.toArray⟩] 9) := ⟨_, rfl⟩
        have fs : Fr Non V2 V3 := by rw [hV3]; exact (Fr.refl Non _).alloc _
        have hXZ : ∀ q, vX1.ownBlock = some q → (Value.slice (some ⟨GZ, 0, none⟩) 1 1).ownBlock = some q → False := fun q h1 h2 => by have := (HX.lt q h1).2; simp [Value.ownBlock] at h2; omega
        replace HX := HX.non fs
        have HZ : Vs sv V3 (.slice (some ⟨GZ, 0, none⟩) 1 1) [x] := by rw [hV3, ← hGZ]; exact vs_row (f := sv) V2 [x] 9 (0, 0)
        have F3 : Fr Non V0 V3 := F2.trans fs
        go_simp
        try rw [hGZ]
        rw [← hV3]
        refine hK.out _ _ (fun _ => by exact F3.at0 HC0.out) ?_
        clear hK K
        (try simp only [Act.put, zA, zB, zC])
        clear fs hV3
        refine wpAnyK_one (i := 11) (o := ⟨some 41, _, _, _, _, none⟩) (by kernel_rfl) rfl (fun K hK => ?_)
        try clear hXZ
        refine step_appG el_str sv_one rfl (.tmp 38) (.tmp 40) rfl B vX1 (.slice (some ⟨GZ, 0, none⟩) 1 1) ([] ++ []) [x] rfl HX rfl (HZ) (by simp) (by have := hB0.out; have := F3.size; omega) ?_
        intro vX2 V4 HXn fs
        have F4 : Fr Non V0 V4 := F3.fresh fs (fun q e => by have := hB0.out; have := (HX.lt q e).1; omega)
        have HX0 := HX
        replace HX := HXn
        refine hK.out _ _ (fun _ => by exact F4.at0 HC0.out) ?_
        clear hK K
        (try simp only [Act.put, zA, zB, zC])
        clear fs HX0 HXn
        refine wpAnyK_one (i := 18) (o := ⟨some 48, _, _, _, _, none⟩) (by kernel_rfl) rfl (fun K hK => ?_)
        refine step_appG el_str sv_one rfl (.tmp 41) (.tmp 47) rfl B vX2 (.slice A3 0 k3) ([] ++ [] ++ [x]) [] rfl HX rfl (HV2.out _) (by simp) (by have := hB0.out; have := F4.size; omega) ?_
        intro vX3 V5 HXn fs
        have F5 : Fr Non V0 V5 := F4.fresh fs (fun q e => by have := hB0.out; have := (HX.lt q e).1; omega)
        have HX0 := HX
        replace HX := HXn
        refine hK.out _ _ (fun _ => by exact F5.at0 HC0.out) ?_
        clear hK K
        (try simp only [Act.put, zA, zB, zC])
        clear fs HX0 HXn
        have HBE := HBB.out.fr F5 (fun e => e)
        have zz := HBE.frozen 0
        have FE := FW0.out.trans (Fr.any (S := One g) F5)
        obtain ⟨AX, cX, rfl⟩ := HX.vs.shape
        clear HX
        have hHeld : (fun W' : World => W'.cell? ⟨g, 0, none⟩ = some (.slice none 0 0)) V5 := F5.at0 HC0.out
        refine wpAnyK_take2 20 (i := 19) (oi := ⟨some 49, _, _, _, _, none⟩) (v := ?v35) rfl (by kernel_rfl) (by kernel_rfl) (by kernel_rfl) (fun _ _ _ h => h) (by kernel_rfl) (by kernel_rfl) (by kernel_rfl) (by decide) (Or.inl ⟨by rfl, ?hy35⟩) (by assumption) ?rest35
        case hy35 => (intro wS hSw; (try dsimp only at hSw); go_simp; (try with_reducible rfl))
        (try simp only [Act.put, zA, zB, zC])
        refine wpAnyK_take (i := 20) (oi := ⟨some 50, _, _, _, _, none⟩) (v := ?v36) rfl (by kernel_rfl) (by kernel_rfl) (by kernel_rfl) (fun _ _ _ h => h) (by kernel_rfl) (by decide) (Or.inl ⟨by rfl, ?hy36⟩) (by assumption) ?rest36
        case hy36 => (intro wS hSw; (try dsimp only at hSw); go_simp; (try with_reducible rfl))
        (try simp only [Act.put, zA, zB, zC])
        refine wpAnyK_one (i := 21) (o := ⟨none, _, _, _, _, none⟩) (by kernel_rfl) rfl (fun K hK => ?_)
        replace hHeld : V5.cell? ⟨g, 0, none⟩ = some (.slice none 0 0) := hHeld
        go_simp
        refine hK.out _ _ (fun h => absurd rfl h) ?_
        clear hK K
        (try simp only [Act.put, zA, zB, zC])
        refine wpAnyK_done (by kernel_rfl) ?_ _
        have FZ := Lib.hid (FE.set1 0 (.slice AX 1 cX))
        have HBZ := Lib.hid (HBE.set 0 (.slice AX 1 cX))
        clear HBE zz FE hHeld
        obtain ⟨W5, hW5⟩ : ∃ W, V5.setCell ⟨g, 0, none⟩ (.slice AX 1 cX) = W := ⟨_, rfl⟩
        rw [hW5] at FZ HBZ
        try rw [hW5]
        have FW5 := FZ
        have HB5 := HBZ
        clear hW5 FZ HBZ HBB HC0 FW0 HV1 HV2 hr1 hr2 hB0 F5
        have d1 : W5.cell? ⟨g, 1, none⟩ = some (.slice none 0 0) := HB5.out.cell 1
        have hl5 := HB5.out.lt
        obtain ⟨A2', k2', hr1, hv1, ho1⟩ := slice_hiG el_bs24 none 0 0 0 .i64 0 rfl (Nat.le_refl _) (Nat.le_refl _)
        obtain ⟨A3', k3', hr2, hv2, ho2⟩ := slice_loG el_bs24 none 0 0 0 .i64 0 rfl (Nat.le_refl _) (Nat.le_refl _)
        simp only [Nat.sub_zero] at hr2
        have HV1 : Hid (∀ W, Vs slV W (.slice A2' 0 k2') []) := Lib.hid (fun W => hv1 slV W [] rfl (Vs.nil_ W))
        have HV2 : Hid (∀ W, Vs slV W (.slice A3' 0 k3') []) := Lib.hid (fun W => hv2 slV W [] rfl (Vs.nil_ W))
        clear hv1 hv2 ho1 ho2
        go_wp2
        refine wp_region_K (fun W' => W'.cell? ⟨g, 1, none⟩ = some (.slice none 0 0)) 23 (by kernel_rfl) ?_
        have hHeld : (fun W' => W'.cell? ⟨g, 1, none⟩ = some (.slice none 0 0)) (W5.drew) := d1
        refine wpAnyK_take (i := 0) (oi := ⟨some 51, _, _, _, _, none⟩) (v := ?v10001) rfl (by kernel_rfl) (by kernel_rfl) (by kernel_rfl) (fun _ _ _ h => h) (by kernel_rfl) (by decide) (Or.inl ⟨by rfl, ?hy10001⟩) (by assumption) ?rest10001
        case hy10001 => (intro wS hSw; (try dsimp only at hSw); go_simp; (try with_reducible rfl))
        (try simp only [Act.put, zA, zB, zC])
        refine wpAnyK_take (i := 2) (oi := ⟨some 53, _, _, _, _, none⟩) (v := ?v10002) rfl (by kernel_rfl) (by kernel_rfl) (by kernel_rfl) (fun _ _ _ h => h) (by kernel_rfl) (by decide) (Or.inl ⟨by rfl, ?hy10002⟩) (by assumption) ?rest10002
        case hy10002 => (intro wS hSw; (try dsimp only at hSw); go_simp; (try with_reducible rfl))
        (try simp only [Act.put, zA, zB, zC])
        refine wpAnyK_take (i := 3) (oi := ⟨some 54, _, _, _, _, none⟩) (v := ?v10003) rfl (by kernel_rfl) (by kernel_rfl) (by kernel_rfl) (fun _ _ _ h => h) (by kernel_rfl) (by decide) (Or.inl ⟨by rfl, ?hy10003⟩) (by assumption) ?rest10003
        case hy10003 => (intro wS hSw; (try dsimp only at hSw); go_simp; (try with_reducible rfl))
        (try simp only [Act.put, zA, zB, zC])
        refine wpAnyK_take (i := 4) (oi := ⟨some 55, _, _, _, _, none⟩) (v := ?v10004) rfl (by kernel_rfl) (by kernel_rfl) (by kernel_rfl) (fun _ _ _ h => h) (by kernel_rfl) (by decide) (Or.inl ⟨by rfl, ?hy10004⟩) (by assumption) ?rest10004
        case hy10004 => (intro wS hSw; (try dsimp only at hSw); go_simp; (try with_reducible rfl))
        (try simp only [Act.put, zA, zB, zC])
        refine wpAnyK_take (i := 5) (oi := ⟨some 56, _, _, _, _, none⟩) (v := ?v10005) rfl (by kernel_rfl) (by kernel_rfl) (by kernel_rfl) (fun _ _ _ h => h) (by kernel_rfl) (by decide) (Or.inl ⟨by rfl, ?hy10005⟩) (by assumption) ?rest10005
        case hy10005 => (intro wS hSw; (try dsimp only at hSw); go_simp; (try with_reducible rfl))
        (try simp only [Act.put, zA, zB, zC])
        refine wpAnyK_take (i := 6) (oi := ⟨some 57, _, _, _, _, none⟩) (v := ?v10006) rfl (by kernel_rfl) (by kernel_rfl) (by kernel_rfl) (fun _ _ _ h => h) (by kernel_rfl) (by decide) (Or.inl ⟨by rfl, ?hy10006⟩) (by assumption) ?rest10006
        case hy10006 => (intro wS hSw; (try dsimp only at hSw); go_simp; (try with_reducible rfl))
        (try simp only [Act.put, zA, zB, zC])
        refine wpAnyK_take (i := 7) (oi := ⟨some 58, _, _, _, _, none⟩) (v := ?v10007) rfl (by kernel_rfl) (by kernel_rfl) (by kernel_rfl) (fun _ _ _ h => h) (by kernel_rfl) (by decide) (Or.inl ⟨by rfl, ?hy10007⟩) (by assumption) ?rest10007
        case hy10007 => (intro wS hSw; (try dsimp only at hSw); go_simp; (try with_reducible rfl))
        (try simp only [Act.put, zA, zB, zC])
        refine wpAnyK_take (i := 10) (oi := ⟨some 61, _, _, _, _, none⟩) (v := ?v10008) rfl (by kernel_rfl) (by kernel_rfl) (by kernel_rfl) (fun _ _ _ h => h) (by kernel_rfl) (by decide) (Or.inl ⟨by rfl, ?hy10008⟩) (by assumption) ?rest10008
        case hy10008 => (intro wS hSw; (try dsimp only at hSw); go_simp; (try with_reducible rfl))
        (try simp only [Act.put, zA, zB, zC])
        refine wpAnyK_take (i := 14) (oi := ⟨some 65, _, _, _, _, none⟩) (v := ?v10009) rfl (by kernel_rfl) (by kernel_rfl) (by kernel_rfl) (fun _ _ _ h => h) (by kernel_rfl) (by decide) (Or.inl ⟨by rfl, ?hy10009⟩) (by assumption) ?rest10009
        case hy10009 => (intro wS hSw; (try dsimp only at hSw); go_simp; (try with_reducible rfl))
        (try simp only [Act.put, zA, zB, zC])
        refine wpAnyK_take (i := 15) (oi := ⟨some 66, _, _, _, _, none⟩) (v := ?v10010) rfl (by kernel_rfl) (by kernel_rfl) (by kernel_rfl) (fun _ _ _ h => h) (by kernel_rfl) (by decide) (Or.inl ⟨by rfl, ?hy10010⟩) (by assumption) ?rest10010
        case hy10010 => (intro wS hSw; (try dsimp only at hSw); go_simp; (try with_reducible rfl))
        (try simp only [Act.put, zA, zB, zC])
        refine wpAnyK_take (i := 16) (oi := ⟨some 67, _, _, _, _, none⟩) (v := ?v10011) rfl (by kernel_rfl) (by kernel_rfl) (by kernel_rfl) (fun _ _ _ h => h) (by kernel_rfl) (by decide) (Or.inl ⟨by rfl, ?hy10011⟩) (by assumption) ?rest10011
        case hy10011 => (intro wS hSw; (try dsimp only at hSw); go_simp; (try with_reducible rfl))
        (try simp only [Act.put, zA, zB, zC])
        refine wpAnyK_take (i := 17) (oi := ⟨some 68, _, _, _, _, none⟩) (v := ?v10012) rfl (by kernel_rfl) (by kernel_rfl) (by kernel_rfl) (fun _ _ _ h => h) (by kernel_rfl) (by decide) (Or.inl ⟨by rfl, ?hy10012⟩) (by assumption) ?rest10012
        case hy10012 => (intro wS hSw; (try dsimp only at hSw); go_simp; (try with_reducible rfl))
        (try simp only [Act.put, zA, zB, zC])
        refine wpAnyK_take (i := 18) (oi := ⟨some 69, _, _, _, _, none⟩) (v := ?v10013) rfl (by kernel_rfl) (by kernel_rfl) (by kernel_rfl) (fun _ _ _ h => h) (by kernel_rfl) (by decide) (Or.inl ⟨by rfl, ?hy10013⟩) (by assumption) ?rest10013
        case hy10013 => (intro wS hSw; (try dsimp only at hSw); go_simp; (try with_reducible rfl))
        (try simp only [Act.put, zA, zB, zC])
        refine wpAnyK_take (i := 19) (oi := ⟨some 70, _, _, _, _, none⟩) (v := ?v10014) rfl (by kernel_rfl) (by kernel_rfl) (by kernel_rfl) (fun _ _ _ h => h) (by kernel_rfl) (by decide) (Or.inl ⟨by rfl, ?hy10014⟩) (by assumption) ?rest10014
        case hy10014 => (intro wS hSw; (try dsimp only at hSw); go_simp; (try with_reducible rfl))
        (try simp only [Act.put, zA, zB, zC])
        obtain ⟨V0, hV0⟩ : ∃ V, V = W5.drew := ⟨_, rfl⟩
        rw [← hV0] at hHeld ⊢
        have F0 : Fr Non V0 V0 := Fr.refl _ _
        obtain ⟨B, hB0⟩ : ∃ B, V0.heap.size = B := ⟨_, rfl⟩
        have HC0 := Lib.hid hHeld
        have FW0 : Hid (Fr (One g) wr V0) := Lib.hid (by rw [hV0]; exact FW5.out.drew)
        have HBB := Lib.hid (show Blk V0 g 69 _ by rw [hV0]; exact HB5.out.drew)
        have HB : Hid (Bs V0 (.slice Ab b.length cb) b) := Lib.hid (by rw [hV0]; exact Vs.drew (HV.out _ FW5.out))
        clear hV0
        replace hB0 := Lib.hid hB0
        refine wpAnyK_two (i := 1) (j := 9) (oi := ⟨some 52, _, _, _, _, none⟩) (oj := ⟨some 60, _, _, _, _, none⟩) (by kernel_rfl) rfl rfl (fun K hK => ?_) (fun K hK => ?_)
        · obtain ⟨GX, hGX⟩ : ∃ G, V0.heap.size = G := ⟨_, rfl⟩
          obtain ⟨V1, hV1⟩ : ∃ W, W = V0.alloc (.cells #[] 23) := ⟨_, rfl⟩
          have fs : Fr Non V0 V1 := by rw [hV1]; exact (Fr.refl Non _).alloc _
          have HX : Ow slV 23 V1 B (.slice (some ⟨GX, 0, none⟩) 0 0) [] := by rw [hV1]; exact ow_lit0 V0 B GX hGX.symm (by have := hB0.out; have := F0.size; omega)
          have F1 : Fr Non V0 V1 := F0.trans fs
          go_simp
          try rw [hGX]
          rw [← hV1]
          refine hK.out _ _ (fun _ => by exact F1.at0 HC0.out) ?_
          clear hK K
          (try simp only [Act.put, zA, zB, zC])
          clear fs hV1
          refine wpAnyK_two (i := 8) (j := 9) (oi := ⟨some 59, _, _, _, _, none⟩) (oj := ⟨some 60, _, _, _, _, none⟩) (by kernel_rfl) rfl rfl (fun K hK => ?_) (fun K hK => ?_)
          · refine step_appG el_bs24 slV_one rfl (.tmp 52) (.tmp 58) rfl B (.slice (some ⟨GX, 0, none⟩) 0 0) (.slice A2' 0 k2') [] [] rfl HX rfl (HV1.out _) (by simp) (by have := hB0.out; have := F1.size; omega) ?_
            intro vX1 V2 HXn fs
            have F2 : Fr Non V0 V2 := F1.fresh fs (fun q e => by have := hB0.out; have := (HX.lt q e).1; omega)
            have HX0 := HX
            replace HX := HXn
            refine hK.out _ _ (fun _ => by exact F2.at0 HC0.out) ?_
            clear hK K
            (try simp only [Act.put, zA, zB, zC])
            clear fs HX0 HXn
            refine wpAnyK_one (i := 9) (o := ⟨some 60, _, _, _, _, none⟩) (by kernel_rfl) rfl (fun K hK => ?_)
            obtain ⟨GY, hGY⟩ : ∃ G, V2.heap.size = G := ⟨_, rfl⟩
            obtain ⟨V3, hV3⟩ : ∃ W, W = V2.alloc (.cells #[] 5) := ⟨_, rfl⟩
            have fs : Fr Non V2 V3 := by rw [hV3]; exact (Fr.refl Non _).alloc _
            replace HX := HX.non fs
            have HY : Ow bv 5 V3 B (.slice (some ⟨GY, 0, none⟩) 0 0) [] := by rw [hV3]; exact ow_lit0 V2 B GY hGY.symm (by have := hB0.out; have := F2.size; omega)
            have F3 : Fr Non V0 V3 := F2.trans fs
            go_simp
            try rw [hGY]
            rw [← hV3]
            refine hK.out _ _ (fun _ => by exact F3.at0 HC0.out) ?_
            clear hK K
            (try simp only [Act.put, zA, zB, zC])
            clear fs hV3
            refine wpAnyK_one (i := 11) (o := ⟨some 62, _, _, _, _, none⟩) (by kernel_rfl) rfl (fun K hK => ?_)
            refine step_appG el_u8 bv_oneC rfl (.tmp 60) (.tmp 61) rfl B (.slice (some ⟨GY, 0, none⟩) 0 0) (.slice Ab b.length cb) [] b rfl HY rfl (HB.out.vs.non F3) (by simp; omega) (by have := hB0.out; have := F3.size; omega) ?_
            intro vY1 V4 HYn fs
            have F4 : Fr Non V0 V4 := F3.fresh fs (fun q e => by have := hB0.out; have := (HY.lt q e).1; omega)
            have HY0 := HY
            replace HX := HX.fr fs (fun q hq e => ow_unlike HY0 HX (by decide) q e hq)
            replace HY := HYn
            refine hK.out _ _ (fun _ => by exact F4.at0 HC0.out) ?_
            clear hK K
            (try simp only [Act.put, zA, zB, zC])
            clear fs HY0 HYn
            refine wpAnyK_one (i := 12) (o := ⟨some 63, _, _, _, _, none⟩) (by kernel_rfl) rfl (fun K hK => ?_)
            obtain ⟨AY, nY, cY, rfl⟩ : ∃ A n c, vY1 = .slice A n c := sl_of HY.vs
            obtain ⟨GZ, hGZ⟩ : ∃ G, V4.heap.size = G := ⟨_, rfl⟩
            obtain ⟨V5, hV5⟩ : ∃ W, W = V4.alloc (.cells #[.slice AY nY cY] 23) := ⟨_, rfl⟩
            have fs : Fr Non V4 V5 := by rw [hV5]; exact (Fr.refl Non _).alloc _
            have hXZ : ∀ q, vX1.ownBlock = some q → (Value.slice (some ⟨GZ, 0, none⟩) 1 1).ownBlock = some q → False := fun q h1 h2 => by have := (HX.lt q h1).2; simp [Value.ownBlock] at h2; omega
            replace HX := HX.non fs
            replace HY := HY.non fs
            have HZ : Vs slV V5 (.slice (some ⟨GZ, 0, none⟩) 1 1) [(⟨AY, nY, cY⟩ : Sl)] := by rw [hV5, ← hGZ]; exact vs_row (f := slV) V4 [(⟨AY, nY, cY⟩ : Sl)] 23 (0, 0)
            have F5 : Fr Non V0 V5 := F4.trans fs
            go_simp
            try rw [hGZ]
            rw [← hV5]
            refine hK.out _ _ (fun _ => by exact F5.at0 HC0.out) ?_
            clear hK K
            (try simp only [Act.put, zA, zB, zC])
            clear fs hV5
            refine wpAnyK_one (i := 13) (o := ⟨some 64, _, _, _, _, none⟩) (by kernel_rfl) rfl (fun K hK => ?_)
            try clear hXZ
            refine step_appG el_bs24 slV_one rfl (.tmp 59) (.tmp 63) rfl B vX1 (.slice (some ⟨GZ, 0, none⟩) 1 1) ([] ++ []) [(⟨AY, nY, cY⟩ : Sl)] rfl HX rfl (HZ) (by simp) (by have := hB0.out; have := F5.size; omega) ?_
            intro vX2 V6 HXn fs
            have F6 : Fr Non V0 V6 := F5.fresh fs (fun q e => by have := hB0.out; have := (HX.lt q e).1; omega)
            have HX0 := HX
            replace HX := HXn
            refine hK.out _ _ (fun _ => by exact F6.at0 HC0.out) ?_
            clear hK K
            (try simp only [Act.put, zA, zB, zC])
            clear fs HX0 HXn
            refine wpAnyK_one (i := 20) (o := ⟨some 71, _, _, _, _, none⟩) (by kernel_rfl) rfl (fun K hK => ?_)
            refine step_appG el_bs24 slV_one rfl (.tmp 64) (.tmp 70) rfl B vX2 (.slice A3' 0 k3') ([] ++ [] ++ [(⟨AY, nY, cY⟩ : Sl)]) [] rfl HX rfl (HV2.out _) (by simp) (by have := hB0.out; have := F6.size; omega) ?_
            intro vX3 V7 HXn fs
            have F7 : Fr Non V0 V7 := F6.fresh fs (fun q e => by have := hB0.out; have := (HX.lt q e).1; omega)
            have HX0 := HX
            replace HX := HXn
            refine hK.out _ _ (fun _ => by exact F7.at0 HC0.out) ?_
            clear hK K
            (try simp only [Act.put, zA, zB, zC])
            clear fs HX0 HXn
            have HBE := HBB.out.fr F7 (fun e => e)
            have zz := HBE.frozen 1
            have FE := FW0.out.trans (Fr.any (S := One g) F7)
            obtain ⟨AX, cX, rfl⟩ := HX.vs.shape
            clear HX
            have hHeld : (fun W' : World => W'.cell? ⟨g, 1, none⟩ = some (.slice none 0 0)) V7 := F7.at0 HC0.out
            refine wpAnyK_take2 22 (i := 21) (oi := ⟨some 72, _, _, _, _, none⟩) (v := ?v10015) rfl (by kernel_rfl) (by kernel_rfl) (by kernel_rfl) (fun _ _ _ h => h) (by kernel_rfl) (by kernel_rfl) (by kernel_rfl) (by decide) (Or.inl ⟨by rfl, ?hy10015⟩) (by assumption) ?rest10015
            case hy10015 => (intro wS hSw; (try dsimp only at hSw); go_simp; (try with_reducible rfl))
            (try simp only [Act.put, zA, zB, zC])
            refine wpAnyK_take (i := 22) (oi := ⟨some 73, _, _, _, _, none⟩) (v := ?v10016) rfl (by kernel_rfl) (by kernel_rfl) (by kernel_rfl) (fun _ _ _ h => h) (by kernel_rfl) (by decide) (Or.inl ⟨by rfl, ?hy10016⟩) (by assumption) ?rest10016
            case hy10016 => (intro wS hSw; (try dsimp only at hSw); go_simp; (try with_reducible rfl))
            (try simp only [Act.put, zA, zB, zC])
            refine wpAnyK_one (i := 23) (o := ⟨none, _, _, _, _, none⟩) (by kernel_rfl) rfl (fun K hK => ?_)
            replace hHeld : V7.cell? ⟨g, 1, none⟩ = some (.slice none 0 0) := hHeld
            go_simp
            refine hK.out _ _ (fun h => absurd rfl h) ?_
            clear hK K
            (try simp only [Act.put, zA, zB, zC])
            refine wpAnyK_done (by kernel_rfl) ?_ _
            have FZ := Lib.hid (FE.set1 1 (.slice AX 1 cX))
            clear HBE zz FE hHeld
            go_wp2
            first | exact bodyPost_end (results_none rfl _ _ _) rfl ⟨rfl, FZ.out⟩ | exact bodyPost_ret (results_none rfl _ _ _) rfl ⟨rfl, FZ.out⟩
          · obtain ⟨GY, hGY⟩ : ∃ G, V1.heap.size = G := ⟨_, rfl⟩
            obtain ⟨V2, hV2⟩ : ∃ W, W = V1.alloc (.cells #[] 5) := ⟨_, rfl⟩
            have fs : Fr Non V1 V2 := by rw [hV2]; exact (Fr.refl Non _).alloc _
            replace HX := HX.non fs
            have HY : Ow bv 5 V2 B (.slice (some ⟨GY, 0, none⟩) 0 0) [] := by rw [hV2]; exact ow_lit0 V1 B GY hGY.symm (by have := hB0.out; have := F1.size; omega)
            have F2 : Fr Non V0 V2 := F1.trans fs
            go_simp
            try rw [hGY]
            rw [← hV2]
            refine hK.out _ _ (fun _ => by exact F2.at0 HC0.out) ?_
            clear hK K
            (try simp only [Act.put, zA, zB, zC])
            clear fs hV2
            refine wpAnyK_one (i := 8) (o := ⟨some 59, _, _, _, _, none⟩) (by kernel_rfl) rfl (fun K hK => ?_)
            refine step_appG el_bs24 slV_one rfl (.tmp 52) (.tmp 58) rfl B (.slice (some ⟨GX, 0, none⟩) 0 0) (.slice A2' 0 k2') [] [] rfl HX rfl (HV1.out _) (by simp) (by have := hB0.out; have := F2.size; omega) ?_
            intro vX1 V3 HXn fs
            have F3 : Fr Non V0 V3 := F2.fresh fs (fun q e => by have := hB0.out; have := (HX.lt q e).1; omega)
            have HX0 := HX
            replace HY := HY.fr fs (fun q hq e => ow_unlike HX0 HY (by decide) q e hq)
            replace HX := HXn
            refine hK.out _ _ (fun _ => by exact F3.at0 HC0.out) ?_
            clear hK K
            (try simp only [Act.put, zA, zB, zC])
            clear fs HX0 HXn
            refine wpAnyK_one (i := 11) (o := ⟨some 62, _, _, _, _, none⟩) (by kernel_rfl) rfl (fun K hK => ?_)
            refine step_appG el_u8 bv_oneC rfl (.tmp 60) (.tmp 61) rfl B (.slice (some ⟨GY, 0, none⟩) 0 0) (.slice Ab b.length cb) [] b rfl HY rfl (HB.out.vs.non F3) (by simp; omega) (by have := hB0.out; have := F3.size; omega) ?_
            intro vY1 V4 HYn fs
            have F4 : Fr Non V0 V4 := F3.fresh fs (fun q e => by have := hB0.out; have := (HY.lt q e).1; omega)
            have HY0 := HY
            replace HX := HX.fr fs (fun q hq e => ow_unlike HY0 HX (by decide) q e hq)
            replace HY := HYn
            refine hK.out _ _ (fun _ => by exact F4.at0 HC0.out) ?_
            clear hK K
            (try simp only [Act.put, zA, zB, zC])
            clear fs HY0 HYn
            refine wpAnyK_one (i := 12) (o := ⟨some 63, _, _, _, _, none⟩) (by kernel_rfl) rfl (fun K hK => ?_)
            obtain ⟨AY, nY, cY, rfl⟩ : ∃ A n c, vY1 = .slice A n c := sl_of HY.vs
            obtain ⟨GZ, hGZ⟩ : ∃ G, V4.heap.size = G := ⟨_, rfl⟩
            obtain ⟨V5, hV5⟩ : ∃ W, W = V4.alloc (.cells #[.slice AY nY cY] 23) := ⟨_, rfl⟩
            have fs : Fr Non V4 V5 := by rw [hV5]; exact (Fr.refl Non _).alloc _
            have hXZ : ∀ q, vX1.ownBlock = some q → (Value.slice (some ⟨GZ, 0, none⟩) 1 1).ownBlock = some q → False := fun q h1 h2 => by have := (HX.lt q h1).2; simp [Value.ownBlock] at h2; omega
            replace HX := HX.non fs
            replace HY := HY.non fs
            have HZ : Vs slV V5 (.slice (some ⟨GZ, 0, none⟩) 1 1) [(⟨AY, nY, cY⟩ : Sl)] := by rw [hV5, ← hGZ]; exact vs_row (f := slV) V4 [(⟨AY, nY, cY⟩ : Sl)] 23 (0, 0)
            have F5 : Fr Non V0 V5 := F4.trans fs
            go_simp
            try rw [hGZ]
            rw [← hV5]
            refine hK.out _ _ (fun _ => by exact F5.at0 HC0.out) ?_
            clear hK K
            (try simp only [Act.put, zA, zB, zC])
            clear fs hV5
            refine wpAnyK_one (i := 13) (o := ⟨some 64, _, _, _, _, none⟩) (by kernel_rfl) rfl (fun K hK => ?_)
            try clear hXZ
            refine step_appG el_bs24 slV_one rfl (.tmp 59) (.tmp 63) rfl B vX1 (.slice (some ⟨GZ, 0, none⟩) 1 1) ([] ++ []) [(⟨AY, nY, cY⟩ : Sl)] rfl HX rfl (HZ) (by simp) (by have := hB0.out; have := F5.size; omega) ?_
            intro vX2 V6 HXn fs
            have F6 : Fr Non V0 V6 := F5.fresh fs (fun q e => by have := hB0.out; have := (HX.lt q e).1; omega)
            have HX0 := HX
            replace HX := HXn
            refine hK.out _ _ (fun _ => by exact F6.at0 HC0.out) ?_
            clear hK K
            (try simp only [Act.put, zA, zB, zC])
            clear fs HX0 HXn
            refine wpAnyK_one (i := 20) (o := ⟨some 71, _, _, _, _, none⟩) (by kernel_rfl) rfl (fun K hK => ?_)
            refine step_appG el_bs24 slV_one rfl (.tmp 64) (.tmp 70) rfl B vX2 (.slice A3' 0 k3') ([] ++ [] ++ [(⟨AY, nY, cY⟩ : Sl)]) [] rfl HX rfl (HV2.out _) (by simp) (by have := hB0.out; have := F6.size; omega) ?_
            intro vX3 V7 HXn fs
            have F7 : Fr Non V0 V7 := F6.fresh fs (fun q e => by have := hB0.out; have := (HX.lt q e).1; omega)
            have HX0 := HX
            replace HX := HXn
            refine hK.out _ _ (fun _ => by exact F7.at0 HC0.out) ?_
            clear hK K
            (try simp only [Act.put, zA, zB, zC])
            clear fs HX0 HXn
            have HBE := HBB.out.fr F7 (fun e => e)
            have zz := HBE.frozen 1
            have FE := FW0.out.trans (Fr.any (S := One g) F7)
            obtain ⟨AX, cX, rfl⟩ := HX.vs.shape
            clear HX
            have hHeld : (fun W' : World => W'.cell? ⟨g, 1, none⟩ = some (.slice none 0 0)) V7 := F7.at0 HC0.out
            refine wpAnyK_take2 22 (i := 21) (oi := ⟨some 72, _, _, _, _, none⟩) (v := ?v10017) rfl (by kernel_rfl) (by kernel_rfl) (by kernel_rfl) (fun _ _ _ h => h) (by kernel_rfl) (by kernel_rfl) (by kernel_rfl) (by decide) (Or.inl ⟨by rfl, ?hy10017⟩) (by assumption) ?rest10017
            case hy10017 => (intro wS hSw; (try dsimp only at hSw); go_simp; (try with_reducible rfl))
            (try simp only [Act.put, zA, zB, zC])
            refine wpAnyK_take (i := 22) (oi := ⟨some 73, _, _, _, _, none⟩) (v := ?v10018) rfl (by kernel_rfl) (by kernel_rfl) (by kernel_rfl) (fun _ _ _ h => h) (by kernel_rfl) (by decide) (Or.inl ⟨by rfl, ?hy10018⟩) (by assumption) ?rest10018
            case hy10018 => (intro wS hSw; (try dsimp only at hSw); go_simp; (try with_reducible rfl))
            (try simp only [Act.put, zA, zB, zC])
            refine wpAnyK_one (i := 23) (o := ⟨none, _, _, _, _, none⟩) (by kernel_rfl) rfl (fun K hK => ?_)
            replace hHeld : V7.cell? ⟨g, 1, none⟩ = some (.slice none 0 0) := hHeld
            go_simp
            refine hK.out _ _ (fun h => absurd rfl h) ?_
            clear hK K
            (try simp only [Act.put, zA, zB, zC])
            refine wpAnyK_done (by kernel_rfl) ?_ _
            have FZ := Lib.hid (FE.set1 1 (.slice AX 1 cX))
            clear HBE zz FE hHeld
            go_wp2
            first | exact bodyPost_end (results_none rfl _ _ _) rfl ⟨rfl, FZ.out⟩ | exact bodyPost_ret (results_none rfl _ _ _) rfl ⟨rfl, FZ.out⟩
        · obtain ⟨GY, hGY⟩ : ∃ G, V0.heap.size = G := ⟨_, rfl⟩
          obtain ⟨V1, hV1⟩ : ∃ W, W = V0.alloc (.cells #[] 5) := ⟨_, rfl⟩
          have fs : Fr Non V0 V1 := by rw [hV1]; exact (Fr.refl Non _).alloc _
          have HY : Ow bv 5 V1 B (.slice (some ⟨GY, 0, none⟩) 0 0) [] := by rw [hV1]; exact ow_lit0 V0 B GY hGY.symm (by have := hB0.out; have := F0.size; omega)
          have F1 : Fr Non V0 V1 := F0.trans fs
          go_simp
          try rw [hGY]
          rw [← hV1]
          refine hK.out _ _ (fun _ => by exact F1.at0 HC0.out) ?_
          clear hK K
          (try simp only [Act.put, zA, zB, zC])
          clear fs hV1
          refine wpAnyK_one (i := 1) (o := ⟨some 52, _, _, _, _, none⟩) (by kernel_rfl) rfl (fun K hK => ?_)
          obtain ⟨GX, hGX⟩ : ∃ G, V1.heap.size = G := ⟨_, rfl⟩
          obtain ⟨V2, hV2⟩ : ∃ W, W = V1.alloc (.cells #[] 23) := ⟨_, rfl⟩
          have fs : Fr Non V1 V2 := by rw [hV2]; exact (Fr.refl Non _).alloc _
          replace HY := HY.non fs
          have HX : Ow slV 23 V2 B (.slice (some ⟨GX, 0, none⟩) 0 0) [] := by rw [hV2]; exact ow_lit0 V1 B GX hGX.symm (by have := hB0.out; have := F1.size; omega)
          have F2 : Fr Non V0 V2 := F1.trans fs
          go_simp
          try rw [hGX]
          rw [← hV2]
          refine hK.out _ _ (fun _ => by exact F2.at0 HC0.out) ?_
          clear hK K
          (try simp only [Act.put, zA, zB, zC])
          clear fs hV2
          refine wpAnyK_one (i := 8) (o := ⟨some 59, _, _, _, _, none⟩) (by kernel_rfl) rfl (fun K hK => ?_)
          refine step_appG el_bs24 slV_one rfl (.tmp 52) (.tmp 58) rfl B (.slice (some ⟨GX, 0, none⟩) 0 0) (.slice A2' 0 k2') [] [] rfl HX rfl (HV1.out _) (by simp) (by have := hB0.out; have := F2.size; omega) ?_
          intro vX1 V3 HXn fs
          have F3 : Fr Non V0 V3 := F2.fresh fs (fun q e => by have := hB0.out; have := (HX.lt q e).1; omega)
          have HX0 := HX
          replace HY := HY.fr fs (fun q hq e => ow_unlike HX0 HY (by decide) q e hq)
          replace HX := HXn
          refine hK.out _ _ (fun _ => by exact F3.at0 HC0.out) ?_
          clear hK K
          (try simp only [Act.put, zA, zB, zC])
          clear fs HX0 HXn
          refine wpAnyK_one (i := 11) (o := ⟨some 62, _, _, _, _, none⟩) (by kernel_rfl) rfl (fun K hK => ?_)
          refine step_appG el_u8 bv_oneC rfl (.tmp 60) (.tmp 61) rfl B (.slice (some ⟨GY, 0, none⟩) 0 0) (.slice Ab b.length cb) [] b rfl HY rfl (HB.out.vs.non F3) (by simp; omega) (by have := hB0.out; have := F3.size; omega) ?_
          intro vY1 V4 HYn fs
          have F4 : Fr Non V0 V4 := F3.fresh fs (fun q e => by have := hB0.out; have := (HY.lt q e).1; omega)
          have HY0 := HY
          replace HX := HX.fr fs (fun q hq e => ow_unlike HY0 HX (by decide) q e hq)
          replace HY := HYn
          refine hK.out _ _ (fun _ => by exact F4.at0 HC0.out) ?_
          clear hK K
          (try simp only [Act.put, zA, zB, zC])
          clear fs HY0 HYn
          refine wpAnyK_one (i := 12) (o := ⟨some 63, _, _, _, _, none⟩) (by kernel_rfl) rfl (fun K hK => ?_)
          obtain ⟨AY, nY, cY, rfl⟩ : ∃ A n c, vY1 = .slice A n c := sl_of HY.vs
          obtain ⟨GZ, hGZ⟩ : ∃ G, V4.heap.size = G := ⟨_, rfl⟩
          obtain ⟨V5, hV5⟩ : ∃ W, W = V4.alloc (.cells #[.slice AY nY cY] 23) := ⟨_, rfl⟩
          have fs : Fr Non V4 V5 := by rw [hV5]; exact (Fr.refl Non _).alloc _
          have hXZ : ∀ q, vX1.ownBlock = some q → (Value.slice (some ⟨GZ, 0, none⟩) 1 1).ownBlock = some q → False := fun q h1 h2 => by have := (HX.lt q h1).2; simp [Value.ownBlock] at h2; omega
          replace HY := HY.non fs
          replace HX := HX.non fs
          have HZ : Vs slV V5 (.slice (some ⟨GZ, 0, none⟩) 1 1) [(⟨AY, nY, cY⟩ : Sl)] := by rw [hV5, ← hGZ]; exact vs_row (f := slV) V4 [(⟨AY, nY, cY⟩ : Sl)] 23 (0, 0)
          have F5 : Fr Non V0 V5 := F4.trans fs
          go_simp
          try rw [hGZ]
          rw [← hV5]
          refine hK.out _ _ (fun _ => by exact F5.at0 HC0.out) ?_
          clear hK K
          (try simp only [Act.put, zA, zB, zC])
          clear fs hV5
          refine wpAnyK_one (i := 13) (o := ⟨some 64, _, _, _, _, none⟩) (by kernel_rfl) rfl (fun K hK => ?_)
          try clear hXZ
          refine step_appG el_bs24 slV_one rfl (.tmp 59) (.tmp 63) rfl B vX1 (.slice (some ⟨GZ, 0, none⟩) 1 1) ([] ++ []) [(⟨AY, nY, cY⟩ : Sl)] rfl HX rfl (HZ) (by simp) (by have := hB0.out; have := F5.size; omega) ?_
          intro vX2 V6 HXn fs
          have F6 : Fr Non V0 V6 := F5.fresh fs (fun q e => by have := hB0.out; have := (HX.lt q e).1; omega)
          have HX0 := HX
          replace HX := HXn
          refine hK.out _ _ (fun _ => by exact F6.at0 HC0.out) ?_
          clear hK K
          (try simp only [Act.put, zA, zB, zC])
          clear fs HX0 HXn
          refine wpAnyK_one (i := 20) (o := ⟨some 71, _, _, _, _, none⟩) (by kernel_rfl) rfl (fun K hK => ?_)
          refine step_appG el_bs24 slV_one rfl (.tmp 64) (.tmp 70) rfl B vX2 (.slice A3' 0 k3') ([] ++ [] ++ [(⟨AY, nY, cY⟩ : Sl)]) [] rfl HX rfl (HV2.out _) (by simp) (by have := hB0.out; have := F6.size; omega) ?_
          intro vX3 V7 HXn fs
          have F7 : Fr Non V0 V7 := F6.fresh fs (fun q e => by have := hB0.out; have := (HX.lt q e).1; omega)
          have HX0 := HX
          replace HX := HXn
          refine hK.out _ _ (fun _ => by exact F7.at0 HC0.out) ?_
          clear hK K
          (try simp only [Act.put, zA, zB, zC])
          clear fs HX0 HXn
          have HBE := HBB.out.fr F7 (fun e => e)
          have zz := HBE.frozen 1
          have FE := FW0.out.trans (Fr.any (S := One g) F7)
          obtain ⟨AX, cX, rfl⟩ := HX.vs.shape
          clear HX
          have hHeld : (fun W' : World => W'.cell? ⟨g, 1, none⟩ = some (.slice none 0 0)) V7 := F7.at0 HC0.out
          refine wpAnyK_take2 22 (i := 21) (oi := ⟨some 72, _, _, _, _, none⟩) (v := ?v10019) rfl (by kernel_rfl) (by kernel_rfl) (by kernel_rfl) (fun _ _ _ h => h) (by kernel_rfl) (by kernel_rfl) (by kernel_rfl) (by decide) (Or.inl ⟨by rfl, ?hy10019⟩) (by assumption) ?rest10019
          case hy10019 => (intro wS hSw; (try dsimp only at hSw); go_simp; (try with_reducible rfl))
          (try simp only [Act.put, zA, zB, zC])
          refine wpAnyK_take (i := 22) (oi := ⟨some 73, _, _, _, _, none⟩) (v := ?v10020) rfl (by kernel_rfl) (by kernel_rfl) (by kernel_rfl) (fun _ _ _ h => h) (by kernel_rfl) (by decide) (Or.inl ⟨by rfl, ?hy10020⟩) (by assumption) ?rest10020
          case hy10020 => (intro wS hSw; (try dsimp only at hSw); go_simp; (try with_reducible rfl))
          (try simp only [Act.put, zA, zB, zC])
          refine wpAnyK_one (i := 23) (o := ⟨none, _, _, _, _, none⟩) (by kernel_rfl) rfl (fun K hK => ?_)
          replace hHeld : V7.cell? ⟨g, 1, none⟩ = some (.slice none 0 0) := hHeld
          go_simp
          refine hK.out _ _ (fun h => absurd rfl h) ?_
          clear hK K
          (try simp only [Act.put, zA, zB, zC])
          refine wpAnyK_done (by kernel_rfl) ?_ _
          have FZ := Lib.hid (FE.set1 1 (.slice AX 1 cX))
          clear HBE zz FE hHeld
          go_wp2
          first | exact bodyPost_end (results_none rfl _ _ _) rfl ⟨rfl, FZ.out⟩ | exact bodyPost_ret (results_none rfl _ _ _) rfl ⟨rfl, FZ.out⟩
      · obtain ⟨GZ, hGZ⟩ : ∃ G, V1.heap.size = G := ⟨_, rfl⟩
        obtain ⟨V2, hV2⟩ : ∃ W, W = V1.alloc (.cells #[.string ⟨x.toArray⟩] 9) := ⟨_, rfl⟩
        have fs : Fr Non V1 V2 := by rw [hV2]; exact (Fr.refl Non _).alloc _
        have hXZ : ∀ q, (Value.slice (some ⟨GX, 0, none⟩) 0 0).ownBlock = some q → (Value.slice (some ⟨GZ, 0, none⟩) 1 1).ownBlock = some q → False := fun q h1 h2 => by have := (HX.lt q h1).2; simp [Value.ownBlock] at h2; omega
        replace HX := HX.non fs
        have HZ : Vs sv V2 (.slice (some ⟨GZ, 0, none⟩) 1 1) [x] := by rw [hV2, ← hGZ]; exact vs_row (f := sv) V1 [x] 9 (0, 0)
        have F2 : Fr Non V0 V2 := F1.trans fs
        go_simp
        try rw [hGZ]
        rw [← hV2]
        refine hK.out _ _ (fun _ => by exact F2.at0 HC0.out) ?_
        clear hK K
        (try simp only [Act.put, zA, zB, zC])
        clear fs hV2
        refine wpAnyK_one (i := 8) (o := ⟨some 38, _, _, _, _, none⟩) (by kernel_rfl) rfl (fun K hK => ?_)
        refine step_appG el_str sv_one rfl (.tmp 31) (.tmp 37) rfl B (.slice (some ⟨GX, 0, none⟩) 0 0) (.slice A2 0 k2) [] [] rfl HX rfl (HV1.out _) (by simp) (by have := hB0.out; have := F2.size; omega) ?_
        intro vX1 V3 HXn fs
        have F3 : Fr Non V0 V3 := F2.fresh fs (fun q e => by have := hB0.out; have := (HX.lt q e).1; omega)
        have HX0 := HX
        replace HZ := HZ.fr fs (fun q hq e => hXZ q e hq)
        replace HX := HXn
        refine hK.out _ _ (fun _ => by exact F3.at0 HC0.out) ?_
        clear hK K
        (try simp only [Act.put, zA, zB, zC])
        clear fs HX0 HXn
        clear hXZ
        refine wpAnyK_one (i := 11) (o := ⟨some 41, _, _, _, _, none⟩) (by kernel_rfl) rfl (fun K hK => ?_)
        try clear hXZ
        refine step_appG el_str sv_one rfl (.tmp 38) (.tmp 40) rfl B vX1 (.slice (some ⟨GZ, 0, none⟩) 1 1) ([] ++ []) [x] rfl HX rfl (HZ) (by simp) (by have := hB0.out; have := F3.size; omega) ?_
        intro vX2 V4 HXn fs
        have F4 : Fr Non V0 V4 := F3.fresh fs (fun q e => by have := hB0.out; have := (HX.lt q e).1; omega)
        have HX0 := HX
        replace HX := HXn
        refine hK.out _ _ (fun _ => by exact F4.at0 HC0.out) ?_
        clear hK K
        (try simp only [Act.put, zA, zB, zC])
        clear fs HX0 HXn
        refine wpAnyK_one (i := 18) (o := ⟨some 48, _, _, _, _, none⟩) (by kernel_rfl) rfl (fun K hK => ?_)
        refine step_appG el_str sv_one rfl (.tmp 41) (.tmp 47) rfl B vX2 (.slice A3 0 k3) ([] ++ [] ++ [x]) [] rfl HX rfl (HV2.out _) (by simp) (by have := hB0.out; have := F4.size; omega) ?_
        intro vX3 V5 HXn fs
        have F5 : Fr Non V0 V5 := F4.fresh fs (fun q e => by have := hB0.out; have := (HX.lt q e).1; omega)
        have HX0 := HX
        replace HX := HXn
        refine hK.out _ _ (fun _ => by exact F5.at0 HC0.out) ?_
        clear hK K
        (try simp only [Act.put, zA, zB, zC])
        clear fs HX0 HXn
        have HBE := HBB.out.fr F5 (fun e => e)
        have zz := HBE.frozen 0
        have FE := FW0.out.trans (Fr.any (S := One g) F5)
        obtain ⟨AX, cX, rfl⟩ := HX.vs.shape
        clear HX
        have hHeld : (fun W' : World => W'.cell? ⟨g, 0, none⟩ = some (.slice none 0 0)) V5 := F5.at0 HC0.out
        refine wpAnyK_take2 20 (i := 19) (oi := ⟨some 49, _, _, _, _, none⟩) (v := ?v37) rfl (by kernel_rfl) (by kernel_rfl) (by kernel_rfl) (fun _ _ _ h => h) (by kernel_rfl) (by kernel_rfl) (by kernel_rfl) (by decide) (Or.inl ⟨by rfl, ?hy37⟩) (by assumption) ?rest37
        case hy37 => (intro wS hSw; (try dsimp only at hSw); go_simp; (try with_reducible rfl))
        (try simp only [Act.put, zA, zB, zC])
        refine wpAnyK_take (i := 20) (oi := ⟨some 50, _, _, _, _, none⟩) (v := ?v38) rfl (by kernel_rfl) (by kernel_rfl) (by kernel_rfl) (fun _ _ _ h => h) (by kernel_rfl) (by decide) (Or.inl ⟨by rfl, ?hy38⟩) (by assumption) ?rest38
        case hy38 => (intro wS hSw; (try dsimp only at hSw); go_simp; (try with_reducible rfl))
        (try simp only [Act.put, zA, zB, zC])
        refine wpAnyK_one (i := 21) (o := ⟨none, _, _, _, _, none⟩) (by kernel_rfl) rfl (fun K hK => ?_)
        replace hHeld : V5.cell? ⟨g, 0, none⟩ = some (.slice none 0 0) := hHeld
        go_simp
        refine hK.out _ _ (fun h => absurd rfl h) ?_
        clear hK K
        (try simp only [Act.put, zA, zB, zC])
        refine wpAnyK_done (by kernel_rfl) ?_ _
        have FZ := Lib.hid (FE.set1 0 (.slice AX 1 cX))
        have HBZ := Lib.hid (HBE.set 0 (.slice AX 1 cX))
        clear HBE zz FE hHeld
        obtain ⟨W5, hW5⟩ : ∃ W, V5.setCell ⟨g, 0, none⟩ (.slice AX 1 cX) = W := ⟨_, rfl⟩
        rw [hW5] at FZ HBZ
        try rw [hW5]
        have FW5 := FZ
        have HB5 := HBZ
        clear hW5 FZ HBZ HBB HC0 FW0 HV1 HV2 hr1 hr2 hB0 F5
        have d1 : W5.cell? ⟨g, 1, none⟩ = some (.slice none 0 0) := HB5.out.cell 1
        have hl5 := HB5.out.lt
        obtain ⟨A2', k2', hr1, hv1, ho1⟩ := slice_hiG el_bs24 none 0 0 0 .i64 0 rfl (Nat.le_refl _) (Nat.le_refl _)
        obtain ⟨A3', k3', hr2, hv2, ho2⟩ := slice_loG el_bs24 none 0 0 0 .i64 0 rfl (Nat.le_refl _) (Nat.le_refl _)
        simp only [Nat.sub_zero] at hr2
        have HV1 : Hid (∀ W, Vs slV W (.slice A2' 0 k2') []) := Lib.hid (fun W => hv1 slV W [] rfl (Vs.nil_ W))
        have HV2 : Hid (∀ W, Vs slV W (.slice A3' 0 k3') []) := Lib.hid (fun W => hv2 slV W [] rfl (Vs.nil_ W))
        clear hv1 hv2 ho1 ho2
        go_wp2
        refine wp_region_K (fun W' => W'.cell? ⟨g, 1, none⟩ = some (.slice none 0 0)) 23 (by kernel_rfl) ?_
        have hHeld : (fun W' => W'.cell? ⟨g, 1, none⟩ = some (.slice none 0 0)) (W5.drew) := d1
        refine wpAnyK_take (i := 0) (oi := ⟨some 51, _, _, _, _, none⟩) (v := ?v20001) rfl (by kernel_rfl) (by kernel_rfl) (by kernel_rfl) (fun _ _ _ h => h) (by kernel_rfl) (by decide) (Or.inl ⟨by rfl, ?hy20001⟩) (by assumption) ?rest20001
        case hy20001 => (intro wS hSw; (try dsimp only at hSw); go_simp; (try with_reducible rfl))
        (try simp only [Act.put, zA, zB, zC])
        refine wpAnyK_take (i := 2) (oi := ⟨some 53, _, _, _, _, none⟩) (v := ?v20002) rfl (by kernel_rfl) (by kernel_rfl) (by kernel_rfl) (fun _ _ _ h => h) (by kernel_rfl) (by decide) (Or.inl ⟨by rfl, ?hy20002⟩) (by assumption) ?rest20002
        case hy20002 => (intro wS hSw; (try dsimp only at hSw); go_simp; (try with_reducible rfl))
        (try simp only [Act.put, zA, zB, zC])
        refine wpAnyK_take (i := 3) (oi := ⟨some 54, _, _, _, _, none⟩) (v := ?v20003) rfl (by kernel_rfl) (by kernel_rfl) (by kernel_rfl) (fun _ _ _ h => h) (by kernel_rfl) (by decide) (Or.inl ⟨by rfl, ?hy20003⟩) (by assumption) ?rest20003
        case hy20003 => (intro wS hSw; (try dsimp only at hSw); go_simp; (try with_reducible rfl))
        (try simp only [Act.put, zA, zB, zC])
        refine wpAnyK_take (i := 4) (oi := ⟨some 55, _, _, _, _, none⟩) (v := ?v20004) rfl (by kernel_rfl) (by kernel_rfl) (by kernel_rfl) (fun _ _ _ h => h) (by kernel_rfl) (by decide) (Or.inl ⟨by rfl, ?hy20004⟩) (by assumption) ?rest20004
        case hy20004 => (intro wS hSw; (try dsimp only at hSw); go_simp; (try with_reducible rfl))
        (try simp only [Act.put, zA, zB, zC])
        refine wpAnyK_take (i := 5) (oi := ⟨some 56, _, _, _, _, none⟩) (v := ?v20005) rfl (by kernel_rfl) (by kernel_rfl) (by kernel_rfl) (fun _ _ _ h => h) (by kernel_rfl) (by decide) (Or.inl ⟨by rfl, ?hy20005⟩) (by assumption) ?rest20005
        case hy20005 => (intro wS hSw; (try dsimp only at hSw); go_simp; (try with_reducible rfl))
        (try simp only [Act.put, zA, zB, zC])
        refine wpAnyK_take (i := 6) (oi := ⟨some 57, _, _, _, _, none⟩) (v := ?v20006) rfl (by kernel_rfl) (by kernel_rfl) (by kernel_rfl) (fun _ _ _ h => h) (by kernel_rfl) (by decide) (Or.inl ⟨by rfl, ?hy20006⟩) (by assumption) ?rest20006
        case hy20006 => (intro wS hSw; (try dsimp only at hSw); go_simp; (try with_reducible rfl))
        (try simp only [Act.put, zA, zB, zC])
        refine wpAnyK_take (i := 7) (oi := ⟨some 58, _, _, _, _, none⟩) (v := ?v20007) rfl (by kernel_rfl) (by kernel_rfl) (by kernel_rfl) (fun _ _ _ h => h) (by kernel_rfl) (by decide) (Or.inl ⟨by rfl, ?hy20007⟩) (by assumption) ?rest20007
        case hy20007 => (intro wS hSw; (try dsimp only at hSw); go_simp; (try with_reducible rfl))
        (try simp only [Act.put, zA, zB, zC])
        refine wpAnyK_take (i := 10) (oi := ⟨some 61, _, _, _, _, none⟩) (v := ?v20008) rfl (by kernel_rfl) (by kernel_rfl) (by kernel_rfl) (fun _ _ _ h => h) (by kernel_rfl) (by decide) (Or.inl ⟨by rfl, ?hy20008⟩) (by assumption) ?rest20008
        case hy20008 => (intro wS hSw; (try dsimp only at hSw); go_simp; (try with_reducible rfl))
        (try simp only [Act.put, zA, zB, zC])
        refine wpAnyK_take (i := 14) (oi := ⟨some 65, _, _, _, _, none⟩) (v := ?v20009) rfl (by kernel_rfl) (by kernel_rfl) (by kernel_rfl) (fun _ _ _ h => h) (by kernel_rfl) (by decide) (Or.inl ⟨by rfl, ?hy20009⟩) (by assumption) ?rest20009
        case hy20009 => (intro wS hSw; (try dsimp only at hSw); go_simp; (try with_reducible rfl))
        (try simp only [Act.put, zA, zB, zC])
        refine wpAnyK_take (i := 15) (oi := ⟨some 66, _, _, _, _, none⟩) (v := ?v20010) rfl (by kernel_rfl) (by kernel_rfl) (by kernel_rfl) (fun _ _ _ h => h) (by kernel_rfl) (by decide) (Or.inl ⟨by rfl, ?hy20010⟩) (by assumption) ?rest20010
        case hy20010 => (intro wS hSw; (try dsimp only at hSw); go_simp; (try with_reducible rfl))
        (try simp only [Act.put, zA, zB, zC])
        refine wpAnyK_take (i := 16) (oi := ⟨some 67, _, _, _, _, none⟩) (v := ?v20011) rfl (by kernel_rfl) (by kernel_rfl) (by kernel_rfl) (fun _ _ _ h => h) (by kernel_rfl) (by decide) (Or.inl ⟨by rfl, ?hy20011⟩) (by assumption) ?rest20011
        case hy20011 => (intro wS hSw; (try dsimp only at hSw); go_simp; (try with_reducible rfl))
        (try simp only [Act.put, zA, zB, zC])
        refine wpAnyK_take (i := 17) (oi := ⟨some 68, _, _, _, _, none⟩) (v := ?v20012) rfl (by kernel_rfl) (by kernel_rfl) (by kernel_rfl) (fun _ _ _ h => h) (by kernel_rfl) (by decide) (Or.inl ⟨by rfl, ?hy20012⟩) (by assumption) ?rest20012
        case hy20012 => (intro wS hSw; (try dsimp only at hSw); go_simp; (try with_reducible rfl))
        (try simp only [Act.put, zA, zB, zC])
        refine wpAnyK_take (i := 18) (oi := ⟨some 69, _, _, _, _, none⟩) (v := ?v20013) rfl (by kernel_rfl) (by kernel_rfl) (by kernel_rfl) (fun _ _ _ h => h) (by kernel_rfl) (by decide) (Or.inl ⟨by rfl, ?hy20013⟩) (by assumption) ?rest20013
        case hy20013 => (intro wS hSw; (try dsimp only at hSw); go_simp; (try with_reducible rfl))
        (try simp only [Act.put, zA, zB, zC])
        refine wpAnyK_take (i := 19) (oi := ⟨some 70, _, _, _, _, none⟩) (v := ?v20014) rfl (by kernel_rfl) (by kernel_rfl) (by kernel_rfl) (fun _ _ _ h => h) (by kernel_rfl) (by decide) (Or.inl ⟨by rfl, ?hy20014⟩) (by assumption) ?rest20014
        case hy20014 => (intro wS hSw; (try dsimp only at hSw); go_simp; (try with_reducible rfl))
        (try simp only [Act.put, zA, zB, zC])
        obtain ⟨V0, hV0⟩ : ∃ V, V = W5.drew := ⟨_, rfl⟩
        rw [← hV0] at hHeld ⊢
        have F0 : Fr Non V0 V0 := Fr.refl _ _
        obtain ⟨B, hB0⟩ : ∃ B, V0.heap.size = B := ⟨_, rfl⟩
        have HC0 := Lib.hid hHeld
        have FW0 : Hid (Fr (One g) wr V0) := Lib.hid (by rw [hV0]; exact FW5.out.drew)
        have HBB := Lib.hid (show Blk V0 g 69 _ by rw [hV0]; exact HB5.out.drew)
        have HB : Hid (Bs V0 (.slice Ab b.length cb) b) := Lib.hid (by rw [hV0]; exact Vs.drew (HV.out _ FW5.out))
        clear hV0
        replace hB0 := Lib.hid hB0
        refine wpAnyK_two (i := 1) (j := 9) (oi := ⟨some 52, _, _, _, _, none⟩) (oj := ⟨some 60, _, _, _, _, none⟩) (by kernel_rfl) rfl rfl (fun K hK => ?_) (fun K hK => ?_)
        · obtain ⟨GX, hGX⟩ : ∃ G, V0.heap.size = G := ⟨_, rfl⟩
          obtain ⟨V1, hV1⟩ : ∃ W, W = V0.alloc (.cells #[] 23) := ⟨_, rfl⟩
          have fs : Fr Non V0 V1 := by rw [hV1]; exact (Fr.refl Non _).alloc _
          have HX : Ow slV 23 V1 B (.slice (some ⟨GX, 0, none⟩) 0 0) [] := by rw [hV1]; exact ow_lit0 V0 B GX hGX.symm (by have := hB0.out; have := F0.size; omega)
          have F1 : Fr Non V0 V1 := F0.trans fs
          go_simp
          try rw [hGX]
          rw [← hV1]
          refine hK.out _ _ (fun _ => by exact F1.at0 HC0.out) ?_
          clear hK K
          (try simp only [Act.put, zA, zB, zC])
          clear fs hV1
          refine wpAnyK_two (i := 8) (j := 9) (oi := ⟨some 59, _, _, _, _, none⟩) (oj := ⟨some 60, _, _, _, _, none⟩) (by kernel_rfl) rfl rfl (fun K hK => ?_) (fun K hK => ?_)
          · refine step_appG el_bs24 slV_one rfl (.tmp 52) (.tmp 58) rfl B (.slice (some ⟨GX, 0, none⟩) 0 0) (.slice A2' 0 k2') [] [] rfl HX rfl (HV1.out _) (by simp) (by have := hB0.out; have := F1.size; omega) ?_
            intro vX1 V2 HXn fs
            have F2 : Fr Non V0 V2 := F1.fresh fs (fun q e => by have := hB0.out; have := (HX.lt q e).1; omega)
            have HX0 := HX
            replace HX := HXn
            refine hK.out _ _ (fun _ => by exact F2.at0 HC0.out) ?_
            clear hK K
            (try simp only [Act.put, zA, zB, zC])
            clear fs HX0 HXn
            refine wpAnyK_one (i := 9) (o := ⟨some 60, _, _, _, _, none⟩) (by kernel_rfl) rfl (fun K hK => ?_)
            obtain ⟨GY, hGY⟩ : ∃ G, V2.heap.size = G := ⟨_, rfl⟩
            obtain ⟨V3, hV3⟩ : ∃ W, W = V2.alloc (.cells #[] 5) := ⟨_, rfl⟩
            have fs : Fr Non V2 V3 := by rw [hV3]; exact (Fr.refl Non _).alloc _
            replace HX := HX.non fs
            have HY : Ow bv 5 V3 B (.slice (some ⟨GY, 0, none⟩) 0 0) [] := by rw [hV3]; exact ow_lit0 V2 B GY hGY.symm (by have := hB0.out; have := F2.size; omega)
            have F3 : Fr Non V0 V3 := F2.trans fs
            go_simp
            try rw [hGY]
            rw [← hV3]
            refine hK.out _ _ (fun _ => by exact F3.at0 HC0.out) ?_
            clear hK K
            (try simp only [Act.put, zA, zB, zC])
            clear fs hV3
            refine wpAnyK_one (i := 11) (o := ⟨some 62, _, _, _, _, none⟩) (by kernel_rfl) rfl (fun K hK => ?_)
            refine step_appG el_u8 bv_oneC rfl (.tmp 60) (.tmp 61) rfl B (.slice (some ⟨GY, 0, none⟩) 0 0) (.slice Ab b.length cb) [] b rfl HY rfl (HB.out.vs.non F3) (by simp; omega) (by have := hB0.out; have := F3.size; omega) ?_
            intro vY1 V4 HYn fs
            have F4 : Fr Non V0 V4 := F3.fresh fs (fun q e => by have := hB0.out; have := (HY.lt q e).1; omega)
            have HY0 := HY
            replace HX := HX.fr fs (fun q hq e => ow_unlike HY0 HX (by decide) q e hq)
            replace HY := HYn
            refine hK.out _ _ (fun _ => by exact F4.at0 HC0.out) ?_
            clear hK K
            (try simp only [Act.put, zA, zB, zC])
            clear fs HY0 HYn
            refine wpAnyK_one (i := 12) (o := ⟨some 63, _, _, _, _, none⟩) (by kernel_rfl) rfl (fun K hK => ?_)
            obtain ⟨AY, nY, cY, rfl⟩ : ∃ A n c, vY1 = .slice A n c := sl_of HY.vs
            obtain ⟨GZ, hGZ⟩ : ∃ G, V4.heap.size = G := ⟨_, rfl⟩
            obtain ⟨V5, hV5⟩ : ∃ W, W = V4.alloc (.cells #[.slice AY nY cY] 23) := ⟨_, rfl⟩
            have fs : Fr Non V4 V5 := by rw [hV5]; exact (Fr.refl Non _).alloc _
            have hXZ : ∀ q, vX1.ownBlock = some q → (Value.slice (some ⟨GZ, 0, none⟩) 1 1).ownBlock = some q → False := fun q h1 h2 => by have := (HX.lt q h1).2; simp [Value.ownBlock] at h2; omega
            replace HX := HX.non fs
            replace HY := HY.non fs
            have HZ : Vs slV V5 (.slice (some ⟨GZ, 0, none⟩) 1 1) [(⟨AY, nY, cY⟩ : Sl)] := by rw [hV5, ← hGZ]; exact vs_row (f := slV) V4 [(⟨AY, nY, cY⟩ : Sl)] 23 (0, 0)
            have F5 : Fr Non V0 V5 := F4.trans fs
            go_simp
            try rw [hGZ]
            rw [← hV5]
            refine hK.out _ _ (fun _ => by exact F5.at0 HC0.out) ?_
            clear hK K
            (try simp only [Act.put, zA, zB, zC])
            clear fs hV5
            refine wpAnyK_one (i := 13) (o := ⟨some 64, _, _, _, _, none⟩) (by kernel_rfl) rfl (fun K hK => ?_)
            try clear hXZ
            refine step_appG el_bs24 slV_one rfl (.tmp 59) (.tmp 63) rfl B vX1 (.slice (some ⟨GZ, 0, none⟩) 1 1) ([] ++ []) [(⟨AY, nY, cY⟩ : Sl)] rfl HX rfl (HZ) (by simp) (by have := hB0.out; have := F5.size; omega) ?_
            intro vX2 V6 HXn fs
            have F6 : Fr Non V0 V6 := F5.fresh fs (fun q e => by have := hB0.out; have := (HX.lt q e).1; omega)
            have HX0 := HX
            replace HX := HXn
            refine hK.out _ _ (fun _ => by exact F6.at0 HC0.out) ?_
            clear hK K
            (try simp only [Act.put, zA, zB, zC])
            clear fs HX0 HXn
            refine wpAnyK_one (i := 20) (o := ⟨some 71, _, _, _, _, none⟩) (by kernel_rfl) rfl (fun K hK => ?_)
            refine step_appG el_bs24 slV_one rfl (.tmp 64) (.tmp 70) rfl B vX2 (.slice A3' 0 k3') ([] ++ [] ++ [(⟨AY, nY, cY⟩ : Sl)]) [] rfl HX rfl (HV2.out _) (by simp) (by have := hB0.out; have := F6.size; omega) ?_
            intro vX3 V7 HXn fs
            have F7 : Fr Non V0 V7 := F6.fresh fs (fun q e => by have := hB0.out; have := (HX.lt q e).1; omega)
            have HX0 := HX
            replace HX := HXn
            refine hK.out _ _ (fun _ => by exact F7.at0 HC0.out) ?_
            clear hK K
            (try simp only [Act.put, zA, zB, zC])
            clear fs HX0 HXn
            have HBE := HBB.out.fr F7 (fun e => e)
            have zz := HBE.frozen 1
            have FE := FW0.out.trans (Fr.any (S := One g) F7)
            obtain ⟨AX, cX, rfl⟩ := HX.vs.shape
            clear HX
            have hHeld : (fun W' : World => W'.cell? ⟨g, 1, none⟩ = some (.slice none 0 0)) V7 := F7.at0 HC0.out
            refine wpAnyK_take2 22 (i := 21) (oi := ⟨some 72, _, _, _, _, none⟩) (v := ?v20015) rfl (by kernel_rfl) (by kernel_rfl) (by kernel_rfl) (fun _ _ _ h => h) (by kernel_rfl) (by kernel_rfl) (by kernel_rfl) (by decide) (Or.inl ⟨by rfl, ?hy20015⟩) (by assumption) ?rest20015
            case hy20015 => (intro wS hSw; (try dsimp only at hSw); go_simp; (try with_reducible rfl))
            (try simp only [Act.put, zA, zB, zC])
            refine wpAnyK_take (i := 22) (oi := ⟨some 73, _, _, _, _, none⟩) (v := ?v20016) rfl (by kernel_rfl) (by kernel_rfl) (by kernel_rfl) (fun _ _ _ h => h) (by kernel_rfl) (by decide) (Or.inl ⟨by rfl, ?hy20016⟩) (by assumption) ?rest20016
            case hy20016 => (intro wS hSw; (try dsimp only at hSw); go_simp; (try with_reducible rfl))
            (try simp only [Act.put, zA, zB, zC])
            refine wpAnyK_one (i := 23) (o := ⟨none, _, _, _, _, none⟩) (by kernel_rfl) rfl (fun K hK => ?_)
            replace hHeld : V7.cell? ⟨g, 1, none⟩ = some (.slice none 0 0) := hHeld
            go_simp
            refine hK.out _ _ (fun h => absurd rfl h) ?_
            clear hK K
            (try simp only [Act.put, zA, zB, zC])
            refine wpAnyK_done (by kernel_rfl) ?_ _
            have FZ := Lib.hid (FE.set1 1 (.slice AX 1 cX))
            clear HBE zz FE hHeld
            go_wp2
            first | exact bodyPost_end (results_none rfl _ _ _) rfl ⟨rfl, FZ.out⟩ | exact bodyPost_ret (results_none rfl _ _ _) rfl ⟨rfl, FZ.out⟩
          · obtain ⟨GY, hGY⟩ : ∃ G, V1.heap.size = G := ⟨_, rfl⟩
            obtain ⟨V2, hV2⟩ : ∃ W, W = V1.alloc (.cells #[] 5) := ⟨_, rfl⟩
            have fs : Fr Non V1 V2 := by rw [hV2]; exact (Fr.refl Non _).alloc _
            replace HX := HX.non fs
            have HY : Ow bv 5 V2 B (.slice (some ⟨GY, 0, none⟩) 0 0) [] := by rw [hV2]; exact ow_lit0 V1 B GY hGY.symm (by have := hB0.out; have := F1.size; omega)
            have F2 : Fr Non V0 V2 := F1.trans fs
            go_simp
            try rw [hGY]
            rw [← hV2]
            refine hK.out _ _ (fun _ => by exact F2.at0 HC0.out) ?_
            clear hK K
            (try simp only [Act.put, zA, zB, zC])
            clear fs hV2
            refine wpAnyK_one (i := 8) (o := ⟨some 59, _, _, _, _, none⟩) (by kernel_rfl) rfl (fun K hK => ?_)
            refine step_appG el_bs24 slV_one rfl (.tmp 52) (.tmp 58) rfl B (.slice (some ⟨GX, 0, none⟩) 0 0) (.slice A2' 0 k2') [] [] rfl HX rfl (HV1.out _) (by simp) (by have := hB0.out; have := F2.size; omega) ?_
            intro vX1 V3 HXn fs
            have F3 : Fr Non V0 V3 := F2.fresh fs (fun q e => by have := hB0.out; have := (HX.lt q e).1; omega)
            have HX0 := HX
            replace HY := HY.fr fs (fun q hq e => ow_unlike HX0 HY (by decide) q e hq)
            replace HX := HXn
            refine hK.out _ _ (fun _ => by exact F3.at0 HC0.out) ?_
            clear hK K
            (try simp only [Act.put, zA, zB, zC])
            clear fs HX0 HXn
            refine wpAnyK_one (i := 11) (o := ⟨some 62, _, _, _, _, none⟩) (by kernel_rfl) rfl (fun K hK => ?_)
            refine step_appG el_u8 bv_oneC rfl (.tmp 60) (.tmp 61) rfl B (.slice (some ⟨GY, 0, none⟩) 0 0) (.slice Ab b.length cb) [] b rfl HY rfl (HB.out.vs.non F3) (by simp; omega) (by have := hB0.out; have := F3.size; omega) ?_
            intro vY1 V4 HYn fs
            have F4 : Fr Non V0 V4 := F3.fresh fs (fun q e => by have := hB0.out; have := (HY.lt q e).1; omega)
            have HY0 := HY
            replace HX := HX.fr fs (fun q hq e => ow_unlike HY0 HX (by decide) q e hq)
            replace HY := HYn
            refine hK.out _ _ (fun _ => by exact F4.at0 HC0.out) ?_
            clear hK K
            (try simp only [Act.put, zA, zB, zC])
            clear fs HY0 HYn
            refine wpAnyK_one (i := 12) (o := ⟨some 63, _, _, _, _, none⟩) (by kernel_rfl) rfl (fun K hK => ?_)
            obtain ⟨AY, nY, cY, rfl⟩ : ∃ A n c, vY1 = .slice A n c := sl_of HY.vs
            obtain ⟨GZ, hGZ⟩ : ∃ G, V4.heap.size = G := ⟨_, rfl⟩
            obtain ⟨V5, hV5⟩ : ∃ W, W = V4.alloc (.cells #[.slice AY nY cY] 23) := ⟨_, rfl⟩
            have fs : Fr Non V4 V5 := by rw [hV5]; exact (Fr.refl Non _).alloc _
            have hXZ : ∀ q, vX1.ownBlock = some q → (Value.slice (some ⟨GZ, 0, none⟩) 1 1).ownBlock = some q → False := fun q h1 h2 => by have := (HX.lt q h1).2; simp [Value.ownBlock] at h2; omega
            replace HX := HX.non fs
            replace HY := HY.non fs
            have HZ : Vs slV V5 (.slice (some ⟨GZ, 0, none⟩) 1 1) [(⟨AY, nY, cY⟩ : Sl)] := by rw [hV5, ← hGZ]; exact vs_row (f := slV) V4 [(⟨AY, nY, cY⟩ : Sl)] 23 (0, 0)
            have F5 : Fr Non V0 V5 := F4.trans fs
            go_simp
            try rw [hGZ]
            rw [← hV5]
            refine hK.out _ _ (fun _ => by exact F5.at0 HC0.out) ?_
            clear hK K
            (try simp only [Act.put, zA, zB, zC])
            clear fs hV5
            refine wpAnyK_one (i := 13) (o := ⟨some 64, _, _, _, _, none⟩) (by kernel_rfl) rfl (fun K hK => ?_)
            try clear hXZ
            refine step_appG el_bs24 slV_one rfl (.tmp 59) (.tmp 63) rfl B vX1 (.slice (some ⟨GZ, 0, none⟩) 1 1) ([] ++ []) [(⟨AY, nY, cY⟩ : Sl)] rfl HX rfl (HZ) (by simp) (by have := hB0.out; have := F5.size; omega) ?_
            intro vX2 V6 HXn fs
            have F6 : Fr Non V0 V6 := F5.fresh fs (fun q e => by have := hB0.out; have := (HX.lt q e).1; omega)
            have HX0 := HX
            replace HX := HXn
            refine hK.out _ _ (fun _ => by exact F6.at0 HC0.out) ?_
            clear hK K
            (try simp only [Act.put, zA, zB, zC])
            clear fs HX0 HXn
            refine wpAnyK_one (i := 20) (o := ⟨some 71, _, _, _, _, none⟩) (by kernel_rfl) rfl (fun K hK => ?_)
            refine step_appG el_bs24 slV_one rfl (.tmp 64) (.tmp 70) rfl B vX2 (.slice A3' 0 k3') ([] ++ [] ++ [(⟨AY, nY, cY⟩ : Sl)]) [] rfl HX rfl (HV2.out _) (by simp) (by have := hB0.out; have := F6.size; omega) ?_
            intro vX3 V7 HXn fs
            have F7 : Fr Non V0 V7 := F6.fresh fs (fun q e => by have := hB0.out; have := (HX.lt q e).1; omega)
            have HX0 := HX
            replace HX := HXn
            refine hK.out _ _ (fun _ => by exact F7.at0 HC0.out) ?_
            clear hK K
            (try simp only [Act.put, zA, zB, zC])
            clear fs HX0 HXn
            have HBE := HBB.out.fr F7 (fun e => e)
            have zz := HBE.frozen 1
            have FE := FW0.out.trans (Fr.any (S := One g) F7)
            obtain ⟨AX, cX, rfl⟩ := HX.vs.shape
            clear HX
            have hHeld : (fun W' : World => W'.cell? ⟨g, 1, none⟩ = some (.slice none 0 0)) V7 := F7.at0 HC0.out
            refine wpAnyK_take2 22 (i := 21) (oi := ⟨some 72, _, _, _, _, none⟩) (v := ?v20017) rfl (by kernel_rfl) (by kernel_rfl) (by kernel_rfl) (fun _ _ _ h => h) (by kernel_rfl) (by kernel_rfl) (by kernel_rfl) (by decide) (Or.inl ⟨by rfl, ?hy20017⟩) (by assumption) ?rest20017
            case hy20017 => (intro wS hSw; (try dsimp only at hSw); go_simp; (try with_reducible rfl))
            (try simp only [Act.put, zA, zB, zC])
            refine wpAnyK_take (i := 22) (oi := ⟨some 73, _, _, _, _, none⟩) (v := ?v20018) rfl (by kernel_rfl) (by kernel_rfl) (by kernel_rfl) (fun _ _ _ h => h) (by kernel_rfl) (by decide) (Or.inl ⟨by rfl, ?hy20018⟩) (by assumption) ?rest20018
            case hy20018 => (intro wS hSw; (try dsimp only at hSw); go_simp; (try with_reducible rfl))
            (try simp only [Act.put, zA, zB, zC])
            refine wpAnyK_one (i := 23) (o := ⟨none, _, _, _, _, none⟩) (by kernel_rfl) rfl (fun K hK => ?_)
            replace hHeld : V7.cell? ⟨g, 1, none⟩ = some (.slice none 0 0) := hHeld
            go_simp
            refine hK.out _ _ (fun h => absurd rfl h) ?_
            clear hK K
            (try simp only [Act.put, zA, zB, zC])
            refine wpAnyK_done (by kernel_rfl) ?_ _
            have FZ := Lib.hid (FE.set1 1 (.slice AX 1 cX))
            clear HBE zz FE hHeld
            go_wp2
            first | exact bodyPost_end (results_none rfl _ _ _) rfl ⟨rfl, FZ.out⟩ | exact bodyPost_ret (results_none rfl _ _ _) rfl ⟨rfl, FZ.out⟩
        · obtain ⟨GY, hGY⟩ : ∃ G, V0.heap.size = G := ⟨_, rfl⟩
          obtain ⟨V1, hV1⟩ : ∃ W, W = V0.alloc (.cells #[] 5) := ⟨_, rfl⟩
          have fs : Fr Non V0 V1 := by rw [hV1]; exact (Fr.refl Non _).alloc _
          have HY : Ow bv 5 V1 B (.slice (some ⟨GY, 0, none⟩) 0 0) [] := by rw [hV1]; exact ow_lit0 V0 B GY hGY.symm (by have := hB0.out; have := F0.size; omega)
          have F1 : Fr Non V0 V1 := F0.trans fs
          go_simp
          try rw [hGY]
          rw [← hV1]
          refine hK.out _ _ (fun _ => by exact F1.at0 HC0.out) ?_
          clear hK K
          (try simp only [Act.put, zA, zB, zC])
          clear fs hV1
          refine wpAnyK_one (i := 1) (o := ⟨some 52, _, _, _, _, none⟩) (by kernel_rfl) rfl (fun K hK => ?_)
          obtain ⟨GX, hGX⟩ : ∃ G, V1.heap.size = G := ⟨_, rfl⟩
          obtain ⟨V2, hV2⟩ : ∃ W, W = V1.alloc (.cells #[] 23) := ⟨_, rfl⟩
          have fs : Fr Non V1 V2 := by rw [hV2]; exact (Fr.refl Non _).alloc _
          replace HY := HY.non fs
          have HX : Ow slV 23 V2 B (.slice (some ⟨GX, 0, none⟩) 0 0) [] := by rw [hV2]; exact ow_lit0 V1 B GX hGX.symm (by have := hB0.out; have := F1.size; omega)
          have F2 : Fr Non V0 V2 := F1.trans fs
          go_simp
          try rw [hGX]
          rw [← hV2]
          refine hK.out _ _ (fun _ => by exact F2.at0 HC0.out) ?_
          clear hK K
          (try simp only [Act.put, zA, zB, zC])
          clear fs hV2
          refine wpAnyK_one (i := 8) (o := ⟨some 59, _, _, _, _, none⟩) (by kernel_rfl) rfl (fun K hK => ?_)
          refine step_appG el_bs24 slV_one rfl (.tmp 52) (.tmp 58) rfl B (.slice (some ⟨GX, 0, none⟩) 0 0) (.slice A2' 0 k2') [] [] rfl HX rfl (HV1.out _) (by simp) (by have := hB0.out; have := F2.size; omega) ?_
          intro vX1 V3 HXn fs
          have F3 : Fr Non V0 V3 := F2.fresh fs (fun q e => by have := hB0.out; have := (HX.lt q e).1; omega)
          have HX0 := HX
          replace HY := HY.fr fs (fun q hq e => ow_unlike HX0 HY (by decide) q e hq)
          replace HX := HXn
          refine hK.out _ _ (fun _ => by exact F3.at0 HC0.out) ?_
          clear hK K
          (try simp only [Act.put, zA, zB, zC])
          clear fs HX0 HXn
          refine wpAnyK_one (i := 11) (o := ⟨some 62, _, _, _, _, none⟩) (by kernel_rfl) rfl (fun K hK => ?_)
          refine step_appG el_u8 bv_oneC rfl (.tmp 60) (.tmp 61) rfl B (.slice (some ⟨GY, 0, none⟩) 0 0) (.slice Ab b.length cb) [] b rfl HY rfl (HB.out.vs.non F3) (by simp; omega) (by have := hB0.out; have := F3.size; omega) ?_
          intro vY1 V4 HYn fs
          have F4 : Fr Non V0 V4 := F3.fresh fs (fun q e => by have := hB0.out; have := (HY.lt q e).1; omega)
          have HY0 := HY
          replace HX := HX.fr fs (fun q hq e => ow_unlike HY0 HX (by decide) q e hq)
          replace HY := HYn
          refine hK.out _ _ (fun _ => by exact F4.at0 HC0.out) ?_
          clear hK K
          (try simp only [Act.put, zA, zB, zC])
          clear fs HY0 HYn
          refine wpAnyK_one (i := 12) (o := ⟨some 63, _, _, _, _, none⟩) (by kernel_rfl) rfl (fun K hK => ?_)
          obtain ⟨AY, nY, cY, rfl⟩ : ∃ A n c, vY1 = .slice A n c := sl_of HY.vs
          obtain ⟨GZ, hGZ⟩ : ∃ G, V4.heap.size = G := ⟨_, rfl⟩
          obtain ⟨V5, hV5⟩ : ∃ W, W = V4.alloc (.cells #[.slice AY nY cY] 23) := ⟨_, rfl⟩
          have fs : Fr Non V4 V5 := by rw [hV5]; exact (Fr.refl Non _).alloc _
          have hXZ : ∀ q, vX1.ownBlock = some q → (Value.slice (some ⟨GZ, 0, none⟩) 1 1).ownBlock = some q → False := fun q h1 h2 => by have := (HX.lt q h1).2; simp [Value.ownBlock] at h2; omega
          replace HY := HY.non fs
          replace HX := HX.non fs
          have HZ : Vs slV V5 (.slice (some ⟨GZ, 0, none⟩) 1 1) [(⟨AY, nY, cY⟩ : Sl)] := by rw [hV5, ← hGZ]; exact vs_row (f := slV) V4 [(⟨AY, nY, cY⟩ : Sl)] 23 (0, 0)
          have F5 : Fr Non V0 V5 := F4.trans fs
          go_simp
          try rw [hGZ]
          rw [← hV5]
          refine hK.out _ _ (fun _ => by exact F5.at0 HC0.out) ?_
          clear hK K
          (try simp only [Act.put, zA, zB, zC])
          clear fs hV5
          refine wpAnyK_one (i := 13) (o := ⟨some 64, _, _, _, _, none⟩) (by kernel_rfl) rfl (fun K hK => ?_)
          try clear hXZ
          refine step_appG el_bs24 slV_one rfl (.tmp 59) (.tmp 63) rfl B vX1 (.slice (some ⟨GZ, 0, none⟩) 1 1) ([] ++ []) [(⟨AY, nY, cY⟩ : Sl)] rfl HX rfl (HZ) (by simp) (by have := hB0.out; have := F5.size; omega) ?_
          intro vX2 V6 HXn fs
          have F6 : Fr Non V0 V6 := F5.fresh fs (fun q e => by have := hB0.out; have := (HX.lt q e).1; omega)
          have HX0 := HX
          replace HX := HXn
          refine hK.out _ _ (fun _ => by exact F6.at0 HC0.out) ?_
          clear hK K
          (try simp only [Act.put, zA, zB, zC])
          clear fs HX0 HXn
          refine wpAnyK_one (i := 20) (o := ⟨some 71, _, _, _, _, none⟩) (by kernel_rfl) rfl (fun K hK => ?_)
          refine step_appG el_bs24 slV_one rfl (.tmp 64) (.tmp 70) rfl B vX2 (.slice A3' 0 k3') ([] ++ [] ++ [(⟨AY, nY, cY⟩ : Sl)]) [] rfl HX rfl (HV2.out _) (by simp) (by have := hB0.out; have := F6.size; omega) ?_
          intro vX3 V7 HXn fs
          have F7 : Fr Non V0 V7 := F6.fresh fs (fun q e => by have := hB0.out; have := (HX.lt q e).1; omega)
          have HX0 := HX
          replace HX := HXn
          refine hK.out _ _ (fun _ => by exact F7.at0 HC0.out) ?_
          clear hK K
          (try simp only [Act.put, zA, zB, zC])
          clear fs HX0 HXn
          have HBE := HBB.out.fr F7 (fun e => e)
          have zz := HBE.frozen 1
          have FE := FW0.out.trans (Fr.any (S := One g) F7)
          obtain ⟨AX, cX, rfl⟩ := HX.vs.shape
          clear HX
          have hHeld : (fun W' : World => W'.cell? ⟨g, 1, none⟩ = some (.slice none 0 0)) V7 := F7.at0 HC0.out
          refine wpAnyK_take2 22 (i := 21) (oi := ⟨some 72, _, _, _, _, none⟩) (v := ?v20019) rfl (by kernel_rfl) (by kernel_rfl) (by kernel_rfl) (fun _ _ _ h => h) (by kernel_rfl) (by kernel_rfl) (by kernel_rfl) (by decide) (Or.inl ⟨by rfl, ?hy20019⟩) (by assumption) ?rest20019
          case hy20019 => (intro wS hSw; (try dsimp only at hSw); go_simp; (try with_reducible rfl))
          (try simp only [Act.put, zA, zB, zC])
          refine wpAnyK_take (i := 22) (oi := ⟨some 73, _, _, _, _, none⟩) (v := ?v20020) rfl (by kernel_rfl) (by kernel_rfl) (by kernel_rfl) (fun _ _ _ h => h) (by kernel_rfl) (by decide) (Or.inl ⟨by rfl, ?hy20020⟩) (by assumption) ?rest20020
          case hy20020 => (intro wS hSw; (try dsimp only at hSw); go_simp; (try with_reducible rfl))
          (try simp only [Act.put, zA, zB, zC])
          refine wpAnyK_one (i := 23) (o := ⟨none, _, _, _, _, none⟩) (by kernel_rfl) rfl (fun K hK => ?_)
          replace hHeld : V7.cell? ⟨g, 1, none⟩ = some (.slice none 0 0) := hHeld
          go_simp
          refine hK.out _ _ (fun h => absurd rfl h) ?_
          clear hK K
          (try simp only [Act.put, zA, zB, zC])
          refine wpAnyK_done (by kernel_rfl) ?_ _
          have FZ := Lib.hid (FE.set1 1 (.slice AX 1 cX))
          clear HBE zz FE hHeld
          go_wp2
          first | exact bodyPost_end (results_none rfl _ _ _) rfl ⟨rfl, FZ.out⟩ | exact bodyPost_ret (results_none rfl _ _ _) rfl ⟨rfl, FZ.out⟩
    · obtain ⟨GZ, hGZ⟩ : ∃ G, V0.heap.size = G := ⟨_, rfl⟩
      obtain ⟨V1, hV1⟩ : ∃ W, W = V0.alloc (.cells #[.string ⟨x.toArray⟩] 9) := ⟨_, rfl⟩
      have fs : Fr Non V0 V1 := by rw [hV1]; exact (Fr.refl Non _).alloc _
      have HZ : Vs sv V1 (.slice (some ⟨GZ, 0, none⟩) 1 1) [x] := by rw [hV1, ← hGZ]; exact vs_row (f := sv) V0 [x] 9 (0, 0)
      have F1 : Fr Non V0 V1 := F0.trans fs
      go_simp
      try rw [hGZ]
      rw [← hV1]
      refine hK.out _ _ (fun _ => by exact F1.at0 HC0.out) ?_
      clear hK K
      (try simp only [Act.put, zA, zB, zC])
      clear fs hV1
      refine wpAnyK_one (i := 1) (o := ⟨some 31, _, _, _, _, none⟩) (by kernel_rfl) rfl (fun K hK => ?_)
      obtain ⟨GX, hGX⟩ : ∃ G, V1.heap.size = G := ⟨_, rfl⟩
      obtain ⟨V2, hV2⟩ : ∃ W, W = V1.alloc (.cells #[] 9) := ⟨_, rfl⟩
      have fs : Fr Non V1 V2 := by rw [hV2]; exact (Fr.refl Non _).alloc _
      have hXZ : ∀ q, (Value.slice (some ⟨GX, 0, none⟩) 0 0).ownBlock = some q → (Value.slice (some ⟨GZ, 0, none⟩) 1 1).ownBlock = some q → False := fun q h1 h2 => by have := vs1_lt HZ; simp [Value.ownBlock] at h1 h2; omega
      replace HZ := HZ.non fs
      have HX : Ow sv 9 V2 B (.slice (some ⟨GX, 0, none⟩) 0 0) [] := by rw [hV2]; exact ow_lit0 V1 B GX hGX.symm (by have := hB0.out; have := F1.size; omega)
      have F2 : Fr Non V0 V2 := F1.trans fs
      go_simp
      try rw [hGX]
      rw [← hV2]
      refine hK.out _ _ (fun _ => by exact F2.at0 HC0.out) ?_
      clear hK K
      (try simp only [Act.put, zA, zB, zC])
      clear fs hV2
      refine wpAnyK_one (i := 8) (o := ⟨some 38, _, _, _, _, none⟩) (by kernel_rfl) rfl (fun K hK => ?_)
      refine step_appG el_str sv_one rfl (.tmp 31) (.tmp 37) rfl B (.slice (some ⟨GX, 0, none⟩) 0 0) (.slice A2 0 k2) [] [] rfl HX rfl (HV1.out _) (by simp) (by have := hB0.out; have := F2.size; omega) ?_
      intro vX1 V3 HXn fs
      have F3 : Fr Non V0 V3 := F2.fresh fs (fun q e => by have := hB0.out; have := (HX.lt q e).1; omega)
      have HX0 := HX
      replace HZ := HZ.fr fs (fun q hq e => hXZ q e hq)
      replace HX := HXn
      refine hK.out _ _ (fun _ => by exact F3.at0 HC0.out) ?_
      clear hK K
      (try simp only [Act.put, zA, zB, zC])
      clear fs HX0 HXn
      clear hXZ
      refine wpAnyK_one (i := 11) (o := ⟨some 41, _, _, _, _, none⟩) (by kernel_rfl) rfl (fun K hK => ?_)
      try clear hXZ
      refine step_appG el_str sv_one rfl (.tmp 38) (.tmp 40) rfl B vX1 (.slice (some ⟨GZ, 0, none⟩) 1 1) ([] ++ []) [x] rfl HX rfl (HZ) (by simp) (by have := hB0.out; have := F3.size; omega) ?_
      intro vX2 V4 HXn fs
      have F4 : Fr Non V0 V4 := F3.fresh fs (fun q e => by have := hB0.out; have := (HX.lt q e).1; omega)
      have HX0 := HX
      replace HX := HXn
      refine hK.out _ _ (fun _ => by exact F4.at0 HC0.out) ?_
      clear hK K
      (try simp only [Act.put, zA, zB, zC])
      clear fs HX0 HXn
      refine wpAnyK_one (i := 18) (o := ⟨some 48, _, _, _, _, none⟩) (by kernel_rfl) rfl (fun K hK => ?_)
      refine step_appG el_str sv_one rfl (.tmp 41) (.tmp 47) rfl B vX2 (.slice A3 0 k3) ([] ++ [] ++ [x]) [] rfl HX rfl (HV2.out _) (by simp) (by have := hB0.out; have := F4.size; omega) ?_
      intro vX3 V5 HXn fs
      have F5 : Fr Non V0 V5 := F4.fresh fs (fun q e => by have := hB0.out; have := (HX.lt q e).1; omega)
      have HX0 := HX
      replace HX := HXn
      refine hK.out _ _ (fun _ => by exact F5.at0 HC0.out) ?_
      clear hK K
      (try simp only [Act.put, zA, zB, zC])
      clear fs HX0 HXn
      have HBE := HBB.out.fr F5 (fun e => e)
      have zz := HBE.frozen 0
      have FE := FW0.out.trans (Fr.any (S := One g) F5)
      obtain ⟨AX, cX, rfl⟩ := HX.vs.shape
      clear HX
      have hHeld : (fun W' : World => W'.cell? ⟨g, 0, none⟩ = some (.slice none 0 0)) V5 := F5.at0 HC0.out
      refine wpAnyK_take2 20 (i := 19) (oi := ⟨some 49, _, _, _, _, none⟩) (v := ?v39) rfl (by kernel_rfl) (by kernel_rfl) (by kernel_rfl) (fun _ _ _ h => h) (by kernel_rfl) (by kernel_rfl) (by kernel_rfl) (by decide) (Or.inl ⟨by rfl, ?hy39⟩) (by assumption) ?rest39
      case hy39 => (intro wS hSw; (try dsimp only at hSw); go_simp; (try with_reducible rfl))
      (try simp only [Act.put, zA, zB, zC])
      refine wpAnyK_take (i := 20) (oi := ⟨some 50, _, _, _, _, none⟩) (v := ?v40) rfl (by kernel_rfl) (by kernel_rfl) (by kernel_rfl) (fun _ _ _ h => h) (by kernel_rfl) (by decide) (Or.inl ⟨by rfl, ?hy40⟩) (by assumption) ?rest40
      case hy40 => (intro wS hSw; (try dsimp only at hSw); go_simp; (try with_reducible rfl))
      (try simp only [Act.put, zA, zB, zC])
      refine wpAnyK_one (i := 21) (o := ⟨none, _, _, _, _, none⟩) (by kernel_rfl) rfl (fun K hK => ?_)
      replace hHeld : V5.cell? ⟨g, 0, none⟩ = some (.slice none 0 0) := hHeld
      go_simp
      refine hK.out _ _ (fun h => absurd rfl h) ?_
      clear hK K
      (try simp only [Act.put, zA, zB, zC])
      refine wpAnyK_done (by kernel_rfl) ?_ _
      have FZ := Lib.hid (FE.set1 0 (.slice AX 1 cX))
      have HBZ := Lib.hid (HBE.set 0 (.slice AX 1 cX))
      clear HBE zz FE hHeld
      obtain ⟨W5, hW5⟩ : ∃ W, V5.setCell ⟨g, 0, none⟩ (.slice AX 1 cX) = W := ⟨_, rfl⟩
      rw [hW5] at FZ HBZ
      try rw [hW5]
      have FW5 := FZ
      have HB5 := HBZ
      clear hW5 FZ HBZ HBB HC0 FW0 HV1 HV2 hr1 hr2 hB0 F5
      have d1 : W5.cell? ⟨g, 1, none⟩ = some (.slice none 0 0) := HB5.out.cell 1
      have hl5 := HB5.out.lt
      obtain ⟨A2', k2', hr1, hv1, ho1⟩ := slice_hiG el_bs24 none 0 0 0 .i64 0 rfl (Nat.le_refl _) (Nat.le_refl _)
      obtain ⟨A3', k3', hr2, hv2, ho2⟩ := slice_loG el_bs24 none 0 0 0 .i64 0 rfl (Nat.le_refl _) (Nat.le_refl _)
      simp only [Nat.sub_zero] at hr2
      have HV1 : Hid (∀ W, Vs slV W (.slice A2' 0 k2') []) := Lib.hid (fun W => hv1 slV W [] rfl (Vs.nil_ W))
      have HV2 : Hid (∀ W, Vs slV W (.slice A3' 0 k3') []) := Lib.hid (fun W => hv2 slV W [] rfl (Vs.nil_ W))
      clear hv1 hv2 ho1 ho2
      go_wp2
      refine wp_region_K (fun W' => W'.cell? ⟨g, 1, none⟩ = some (.slice none 0 0)) 23 (by kernel_rfl) ?_
      have hHeld : (fun W' => W'.cell? ⟨g, 1, none⟩ = some (.slice none 0 0)) (W5.drew) := d1
      refine wpAnyK_take (i := 0) (oi := ⟨some 51, _, _, _, _, none⟩) (v := ?v30001) rfl (by kernel_rfl) (by kernel_rfl) (by kernel_rfl) (fun _ _ _ h => h) (by kernel_rfl) (by decide) (Or.inl ⟨by rfl, ?hy30001⟩) (by assumption) ?rest30001
      case hy30001 => (intro wS hSw; (try dsimp only at hSw); go_simp; (try with_reducible rfl))
      (try simp only [Act.put, zA, zB, zC])
      refine wpAnyK_take (i := 2) (oi := ⟨some 53, _, _, _, _, none⟩) (v := ?v30002) rfl (by kernel_rfl) (by kernel_rfl) (by kernel_rfl) (fun _ _ _ h => h) (by kernel_rfl) (by decide) (Or.inl ⟨by rfl, ?hy30002⟩) (by assumption) ?rest30002
      case hy30002 => (intro wS hSw; (try dsimp only at hSw); go_simp; (try with_reducible rfl))
      (try simp only [Act.put, zA, zB, zC])
      refine wpAnyK_take (i := 3) (oi := ⟨some 54, _, _, _, _, none⟩) (v := ?v30003) rfl (by kernel_rfl) (by kernel_rfl) (by kernel_rfl) (fun _ _ _ h => h) (by kernel_rfl) (by decide) (Or.inl ⟨by rfl, ?hy30003⟩) (by assumption) ?rest30003
      case hy30003 => (intro wS hSw; (try dsimp only at hSw); go_simp; (try with_reducible rfl))
      (try simp only [Act.put, zA, zB, zC])
      refine wpAnyK_take (i := 4) (oi := ⟨some 55, _, _, _, _, none⟩) (v := ?v30004) rfl (by kernel_rfl) (by kernel_rfl) (by kernel_rfl) (fun _ _ _ h => h) (by kernel_rfl) (by decide) (Or.inl ⟨by rfl, ?hy30004⟩) (by assumption) ?rest30004
      case hy30004 => (intro wS hSw; (try dsimp only at hSw); go_simp; (try with_reducible rfl))
      (try simp only [Act.put, zA, zB, zC])
      refine wpAnyK_take (i := 5) (oi := ⟨some 56, _, _, _, _, none⟩) (v := ?v30005) rfl (by kernel_rfl) (by kernel_rfl) (by kernel_rfl) (fun _ _ _ h => h) (by kernel_rfl) (by decide) (Or.inl ⟨by rfl, ?hy30005⟩) (by assumption) ?rest30005
      case hy30005 => (intro wS hSw; (try dsimp only at hSw); go_simp; (try with_reducible rfl))
      (try simp only [Act.put, zA, zB, zC])
      refine wpAnyK_take (i := 6) (oi := ⟨some 57, _, _, _, _, none⟩) (v := ?v30006) rfl (by kernel_rfl) (by kernel_rfl) (by kernel_rfl) (fun _ _ _ h => h) (by kernel_rfl) (by decide) (Or.inl ⟨by rfl, ?hy30006⟩) (by assumption) ?rest30006
      case hy30006 => (intro wS hSw; (try dsimp only at hSw); go_simp; (try with_reducible rfl))
      (try simp only [Act.put, zA, zB, zC])
      refine wpAnyK_take (i := 7) (oi := ⟨some 58, _, _, _, _, none⟩) (v := ?v30007) rfl (by kernel_rfl) (by kernel_rfl) (by kernel_rfl) (fun _ _ _ h => h) (by kernel_rfl) (by decide) (Or.inl ⟨by rfl, ?hy30007⟩) (by assumption) ?rest30007
      case hy30007 => (intro wS hSw; (try dsimp only at hSw); go_simp; (try with_reducible rfl))
      (try simp only [Act.put, zA, zB, zC])
      refine wpAnyK_take (i := 10) (oi := ⟨some 61, _, _, _, _, none⟩) (v := ?v30008) rfl (by kernel_rfl) (by kernel_rfl) (by kernel_rfl) (fun _ _ _ h => h) (by kernel_rfl) (by decide) (Or.inl ⟨by rfl, ?hy30008⟩) (by assumption) ?rest30008
      case hy30008 => (intro wS hSw; (try dsimp only at hSw); go_simp; (try with_reducible rfl))
      (try simp only [Act.put, zA, zB, zC])
      refine wpAnyK_take (i := 14) (oi := ⟨some 65, _, _, _, _, none⟩) (v := ?v30009) rfl (by kernel_rfl) (by kernel_rfl) (by kernel_rfl) (fun _ _ _ h => h) (by kernel_rfl) (by decide) (Or.inl ⟨by rfl, ?hy30009⟩) (by assumption) ?rest30009
      case hy30009 => (intro wS hSw; (try dsimp only at hSw); go_simp; (try with_reducible rfl))
      (try simp only [Act.put, zA, zB, zC])
      refine wpAnyK_take (i := 15) (oi := ⟨some 66, _, _, _, _, none⟩) (v := ?v30010) rfl (by kernel_rfl) (by kernel_rfl) (by kernel_rfl) (fun _ _ _ h => h) (by kernel_rfl) (by decide) (Or.inl ⟨by rfl, ?hy30010⟩) (by assumption) ?rest30010
      case hy30010 => (intro wS hSw; (try dsimp only at hSw); go_simp; (try with_reducible rfl))
      (try simp only [Act.put, zA, zB, zC])
      refine wpAnyK_take (i := 16) (oi := ⟨some 67, _, _, _, _, none⟩) (v := ?v30011) rfl (by kernel_rfl) (by kernel_rfl) (by kernel_rfl) (fun _ _ _ h => h) (by kernel_rfl) (by decide) (Or.inl ⟨by rfl, ?hy30011⟩) (by assumption) ?rest30011
      case hy30011 => (intro wS hSw; (try dsimp only at hSw); go_simp; (try with_reducible rfl))
      (try simp only [Act.put, zA, zB, zC])
      refine wpAnyK_take (i := 17) (oi := ⟨some 68, _, _, _, _, none⟩) (v := ?v30012) rfl (by kernel_rfl) (by kernel_rfl) (by kernel_rfl) (fun _ _ _ h => h) (by kernel_rfl) (by decide) (Or.inl ⟨by rfl, ?hy30012⟩) (by assumption) ?rest30012
      case hy30012 => (intro wS hSw; (try dsimp only at hSw); go_simp; (try with_reducible rfl))
      (try simp only [Act.put, zA, zB, zC])
      refine wpAnyK_take (i := 18) (oi := ⟨some 69, _, _, _, _, none⟩) (v := ?v30013) rfl (by kernel_rfl) (by kernel_rfl) (by kernel_rfl) (fun _ _ _ h => h) (by kernel_rfl) (by decide) (Or.inl ⟨by rfl, ?hy30013⟩) (by assumption) ?rest30013
      case hy30013 => (intro wS hSw; (try dsimp only at hSw); go_simp; (try with_reducible rfl))
      (try simp only [Act.put, zA, zB, zC])
      refine wpAnyK_take (i := 19) (oi := ⟨some 70, _, _, _, _, none⟩) (v := ?v30014) rfl (by kernel_rfl) (by kernel_rfl) (by kernel_rfl) (fun _ _ _ h => h) (by kernel_rfl) (by decide) (Or.inl ⟨by rfl, ?hy30014⟩) (by assumption) ?rest30014
      case hy30014 => (intro wS hSw; (try dsimp only at hSw); go_simp; (try with_reducible rfl))
      (try simp only [Act.put, zA, zB, zC])
      obtain ⟨V0, hV0⟩ : ∃ V, V = W5.drew := ⟨_, rfl⟩
      rw [← hV0] at hHeld ⊢
      have F0 : Fr Non V0 V0 := Fr.refl _ _
      obtain ⟨B, hB0⟩ : ∃ B, V0.heap.size = B := ⟨_, rfl⟩
      have HC0 := Lib.hid hHeld
      have FW0 : Hid (Fr (One g) wr V0) := Lib.hid (by rw [hV0]; exact FW5.out.drew)
      have HBB := Lib.hid (show Blk V0 g 69 _ by rw [hV0]; exact HB5.out.drew)
      have HB : Hid (Bs V0 (.slice Ab b.length cb) b) := Lib.hid (by rw [hV0]; exact Vs.drew (HV.out _ FW5.out))
      clear hV0
      replace hB0 := Lib.hid hB0
      refine wpAnyK_two (i := 1) (j := 9) (oi := ⟨some 52, _, _, _, _, none⟩) (oj := ⟨some 60, _, _, _, _, none⟩) (by kernel_rfl) rfl rfl (fun K hK => ?_) (fun K hK => ?_)
      · obtain ⟨GX, hGX⟩ : ∃ G, V0.heap.size = G := ⟨_, rfl⟩
        obtain ⟨V1, hV1⟩ : ∃ W, W = V0.alloc (.cells #[] 23) := ⟨_, rfl⟩
        have fs : Fr Non V0 V1 := by rw [hV1]; exact (Fr.refl Non _).alloc _
        have HX : Ow slV 23 V1 B (.slice (some ⟨GX, 0, none⟩) 0 0) [] := by rw [hV1]; exact ow_lit0 V0 B GX hGX.symm (by have := hB0.out; have := F0.size; omega)
        have F1 : Fr Non V0 V1 := F0.trans fs
        go_simp
        try rw [hGX]
        rw [← hV1]
        refine hK.out _ _ (fun _ => by exact F1.at0 HC0.out) ?_
        clear hK K
        (try simp only [Act.put, zA, zB, zC])
        clear fs hV1
        refine wpAnyK_two (i := 8) (j := 9) (oi := ⟨some 59, _, _, _, _, none⟩) (oj := ⟨some 60, _, _, _, _, none⟩) (by kernel_rfl) rfl rfl (fun K hK => ?_) (fun K hK => ?_)
        · refine step_appG el_bs24 slV_one rfl (.tmp 52) (.tmp 58) rfl B (.slice (some ⟨GX, 0, none⟩) 0 0) (.slice A2' 0 k2') [] [] rfl HX rfl (HV1.out _) (by simp) (by have := hB0.out; have := F1.size; omega) ?_
          intro vX1 V2 HXn fs
          have F2 : Fr Non V0 V2 := F1.fresh fs (fun q e => by have := hB0.out; have := (HX.lt q e).1; omega)
          have HX0 := HX
          replace HX := HXn
          refine hK.out _ _ (fun _ => by exact F2.at0 HC0.out) ?_
          clear hK K
          (try simp only [Act.put, zA, zB, zC])
          clear fs HX0 HXn
          refine wpAnyK_one (i := 9) (o := ⟨some 60, _, _, _, _, none⟩) (by kernel_rfl) rfl (fun K hK => ?_)
          obtain ⟨GY, hGY⟩ : ∃ G, V2.heap.size = G := ⟨_, rfl⟩
          obtain ⟨V3, hV3⟩ : ∃ W, W = V2.alloc (.cells #[] 5) := ⟨_, rfl⟩
          have fs : Fr Non V2 V3 := by rw [hV3]; exact (Fr.refl Non _).alloc _
          replace HX := HX.non fs
          have HY : Ow bv 5 V3 B (.slice (some ⟨GY, 0, none⟩) 0 0) [] := by rw [hV3]; exact ow_lit0 V2 B GY hGY.symm (by have := hB0.out; have := F2.size; omega)
          have F3 : Fr Non V0 V3 := F2.trans fs
          go_simp
          try rw [hGY]
          rw [← hV3]
          refine hK.out _ _ (fun _ => by exact F3.at0 HC0.out) ?_
          clear hK K
          (try simp only [Act.put, zA, zB, zC])
          clear fs hV3
          refine wpAnyK_one (i := 11) (o := ⟨some 62, _, _, _, _, none⟩) (by kernel_rfl) rfl (fun K hK => ?_)
          refine step_appG el_u8 bv_oneC rfl (.tmp 60) (.tmp 61) rfl B (.slice (some ⟨GY, 0, none⟩) 0 0) (.slice Ab b.length cb) [] b rfl HY rfl (HB.out.vs.non F3) (by simp; omega) (by have := hB0.out; have := F3.size; omega) ?_
          intro vY1 V4 HYn fs
          have F4 : Fr Non V0 V4 := F3.fresh fs (fun q e => by have := hB0.out; have := (HY.lt q e).1; omega)
          have HY0 := HY
          replace HX := HX.fr fs (fun q hq e => ow_unlike HY0 HX (by decide) q e hq)
          replace HY := HYn
          refine hK.out _ _ (fun _ => by exact F4.at0 HC0.out) ?_
          clear hK K
          (try simp only [Act.put, zA, zB, zC])
          clear fs HY0 HYn
          refine wpAnyK_one (i := 12) (o := ⟨some 63, _, _, _, _, none⟩) (by kernel_rfl) rfl (fun K hK => ?_)
          obtain ⟨AY, nY, cY, rfl⟩ : ∃ A n c, vY1 = .slice A n c := sl_of HY.vs
          obtain ⟨GZ, hGZ⟩ : ∃ G, V4.heap.size = G := ⟨_, rfl⟩
          obtain ⟨V5, hV5⟩ : ∃ W, W = V4.alloc (.cells #[.slice AY nY cY] 23) := ⟨_, rfl⟩
          have fs : Fr Non V4 V5 := by rw [hV5]; exact (Fr.refl Non _).alloc _
          have hXZ : ∀ q, vX1.ownBlock = some q → (Value.slice (some ⟨GZ, 0, none⟩) 1 1).ownBlock = some q → False := fun q h1 h2 => by have := (HX.lt q h1).2; simp [Value.ownBlock] at h2; omega
          replace HX := HX.non fs
          replace HY := HY.non fs
          have HZ : Vs slV V5 (.slice (some ⟨GZ, 0, none⟩) 1 1) [(⟨AY, nY, cY⟩ : Sl)] := by rw [hV5, ← hGZ]; exact vs_row (f := slV) V4 [(⟨AY, nY, cY⟩ : Sl)] 23 (0, 0)
          have F5 : Fr Non V0 V5 := F4.trans fs
          go_simp
          try rw [hGZ]
          rw [← hV5]
          refine hK.out _ _ (fun _ => by exact F5.at0 HC0.out) ?_
          clear hK K
          (try simp only [Act.put, zA, zB, zC])
          clear fs hV5
          refine wpAnyK_one (i := 13) (o := ⟨some 64, _, _, _, _, none⟩) (by kernel_rfl) rfl (fun K hK => ?_)
          try clear hXZ
          refine step_appG el_bs24 slV_one rfl (.tmp 59) (.tmp 63) rfl B vX1 (.slice (some ⟨GZ, 0, none⟩) 1 1) ([] ++ []) [(⟨AY, nY, cY⟩ : Sl)] rfl HX rfl (HZ) (by simp) (by have := hB0.out; have := F5.size; omega) ?_
          intro vX2 V6 HXn fs
          have F6 : Fr Non V0 V6 := F5.fresh fs (fun q e => by have := hB0.out; have := (HX.lt q e).1; omega)
          have HX0 := HX
          replace HX := HXn
          refine hK.out _ _ (fun _ => by exact F6.at0 HC0.out) ?_
          clear hK K
          (try simp only [Act.put, zA, zB, zC])
          clear fs HX0 HXn
          refine wpAnyK_one (i := 20) (o := ⟨some 71, _, _, _, _, none⟩) (by kernel_rfl) rfl (fun K hK => ?_)
          refine step_appG el_bs24 slV_one rfl (.tmp 64) (.tmp 70) rfl B vX2 (.slice A3' 0 k3') ([] ++ [] ++ [(⟨AY, nY, cY⟩ : Sl)]) [] rfl HX rfl (HV2.out _) (by simp) (by have := hB0.out; have := F6.size; omega) ?_
          intro vX3 V7 HXn fs
          have F7 : Fr Non V0 V7 := F6.fresh fs (fun q e => by have := hB0.out; have := (HX.lt q e).1; omega)
          have HX0 := HX
          replace HX := HXn
          refine hK.out _ _ (fun _ => by exact F7.at0 HC0.out) ?_
          clear hK K
          (try simp only [Act.put, zA, zB, zC])
          clear fs HX0 HXn
          have HBE := HBB.out.fr F7 (fun e => e)
          have zz := HBE.frozen 1
          have FE := FW0.out.trans (Fr.any (S := One g) F7)
          obtain ⟨AX, cX, rfl⟩ := HX.vs.shape
          clear HX
          have hHeld : (fun W' : World => W'.cell? ⟨g, 1, none⟩ = some (.slice none 0 0)) V7 := F7.at0 HC0.out
          refine wpAnyK_take2 22 (i := 21) (oi := ⟨some 72, _, _, _, _, none⟩) (v := ?v30015) rfl (by kernel_rfl) (by kernel_rfl) (by kernel_rfl) (fun _ _ _ h => h) (by kernel_rfl) (by kernel_rfl) (by kernel_rfl) (by decide) (Or.inl ⟨by rfl, ?hy30015⟩) (by assumption) ?rest30015
          case hy30015 => (intro wS hSw; (try dsimp only at hSw); go_simp; (try with_reducible rfl))
          (try simp only [Act.put, zA, zB, zC])
          refine wpAnyK_take (i := 22) (oi := ⟨some 73, _, _, _, _, none⟩) (v := ?v30016) rfl (by kernel_rfl) (by kernel_rfl) (by kernel_rfl) (fun _ _ _ h => h) (by kernel_rfl) (by decide) (Or.inl ⟨by rfl, ?hy30016⟩) (by assumption) ?rest30016
          case hy30016 => (intro wS hSw; (try dsimp only at hSw); go_simp; (try with_reducible rfl))
          (try simp only [Act.put, zA, zB, zC])
          refine wpAnyK_one (i := 23) (o := ⟨none, _, _, _, _, none⟩) (by kernel_rfl) rfl (fun K hK => ?_)
          replace hHeld : V7.cell? ⟨g, 1, none⟩ = some (.slice none 0 0) := hHeld
          go_simp
          refine hK.out _ _ (fun h => absurd rfl h) ?_
          clear hK K
          (try simp only [Act.put, zA, zB, zC])
          refine wpAnyK_done (by kernel_rfl) ?_ _
          have FZ := Lib.hid (FE.set1 1 (.slice AX 1 cX))
          clear HBE zz FE hHeld
          go_wp2
          first | exact bodyPost_end (results_none rfl _ _ _) rfl ⟨rfl, FZ.out⟩ | exact bodyPost_ret (results_none rfl _ _ _) rfl ⟨rfl, FZ.out⟩
        · obtain ⟨GY, hGY⟩ : ∃ G, V1.heap.size = G := ⟨_, rfl⟩
          obtain ⟨V2, hV2⟩ : ∃ W, W = V1.alloc (.cells #[] 5) := ⟨_, rfl⟩
          have fs : Fr Non V1 V2 := by rw [hV2]; exact (Fr.refl Non _).alloc _
          replace HX := HX.non fs
          have HY : Ow bv 5 V2 B (.slice (some ⟨GY, 0, none⟩) 0 0) [] := by rw [hV2]; exact ow_lit0 V1 B GY hGY.symm (by have := hB0.out; have := F1.size; omega)
          have F2 : Fr Non V0 V2 := F1.trans fs
          go_simp
          try rw [hGY]
          rw [← hV2]
          refine hK.out _ _ (fun _ => by exact F2.at0 HC0.out) ?_
          clear hK K
          (try simp only [Act.put, zA, zB, zC])
          clear fs hV2
          refine wpAnyK_one (i := 8) (o := ⟨some 59, _, _, _, _, none⟩) (by kernel_rfl) rfl (fun K hK => ?_)
          refine step_appG el_bs24 slV_one rfl (.tmp 52) (.tmp 58) rfl B (.slice (some ⟨GX, 0, none⟩) 0 0) (.slice A2' 0 k2') [] [] rfl HX rfl (HV1.out _) (by simp) (by have := hB0.out; have := F2.size; omega) ?_
          intro vX1 V3 HXn fs
          have F3 : Fr Non V0 V3 := F2.fresh fs (fun q e => by have := hB0.out; have := (HX.lt q e).1; omega)
          have HX0 := HX
          replace HY := HY.fr fs (fun q hq e => ow_unlike HX0 HY (by decide) q e hq)
          replace HX := HXn
          refine hK.out _ _ (fun _ => by exact F3.at0 HC0.out) ?_
          clear hK K
          (try simp only [Act.put, zA, zB, zC])
          clear fs HX0 HXn
          refine wpAnyK_one (i := 11) (o := ⟨some 62, _, _, _, _, none⟩) (by kernel_rfl) rfl (fun K hK => ?_)
          refine step_appG el_u8 bv_oneC rfl (.tmp 60) (.tmp 61) rfl B (.slice (some ⟨GY, 0, none⟩) 0 0) (.slice Ab b.length cb) [] b rfl HY rfl (HB.out.vs.non F3) (by simp; omega) (by have := hB0.out; have := F3.size; omega) ?_
          intro vY1 V4 HYn fs
          have F4 : Fr Non V0 V4 := F3.fresh fs (fun q e => by have := hB0.out; have := (HY.lt q e).1; omega)
          have HY0 := HY
          replace HX := HX.fr fs (fun q hq e => ow_unlike HY0 HX (by decide) q e hq)
          replace HY := HYn
          refine hK.out _ _ (fun _ => by exact F4.at0 HC0.out) ?_
          clear hK K
          (try simp only [Act.put, zA, zB, zC])
          clear fs HY0 HYn
          refine wpAnyK_one (i := 12) (o := ⟨some 63, _, _, _, _, none⟩) (by kernel_rfl) rfl (fun K hK => ?_)
          obtain ⟨AY, nY, cY, rfl⟩ : ∃ A n c, vY1 = .slice A n c := sl_of HY.vs
          obtain ⟨GZ, hGZ⟩ : ∃ G, V4.heap.size = G := ⟨_, rfl⟩
          obtain ⟨V5, hV5⟩ : ∃ W, W = V4.alloc (.cells #[.slice AY nY cY] 23) := ⟨_, rfl⟩
          have fs : Fr Non V4 V5 := by rw [hV5]; exact (Fr.refl Non _).alloc _
          have hXZ : ∀ q, vX1.ownBlock = some q → (Value.slice (some ⟨GZ, 0, none⟩) 1 1).ownBlock = some q → False := fun q h1 h2 => by have := (HX.lt q h1).2; simp [Value.ownBlock] at h2; omega
          replace HX := HX.non fs
          replace HY := HY.non fs
          have HZ : Vs slV V5 (.slice (some ⟨GZ, 0, none⟩) 1 1) [(⟨AY, nY, cY⟩ : Sl)] := by rw [hV5, ← hGZ]; exact vs_row (f := slV) V4 [(⟨AY, nY, cY⟩ : Sl)] 23 (0, 0)
          have F5 : Fr Non V0 V5 := F4.trans fs
          go_simp
          try rw [hGZ]
          rw [← hV5]
          refine hK.out _ _ (fun _ => by exact F5.at0 HC0.out) ?_
          clear hK K
          (try simp only [Act.put, zA, zB, zC])
          clear fs hV5
          refine wpAnyK_one (i := 13) (o := ⟨some 64, _, _, _, _, none⟩) (by kernel_rfl) rfl (fun K hK => ?_)
          try clear hXZ
          refine step_appG el_bs24 slV_one rfl (.tmp 59) (.tmp 63) rfl B vX1 (.slice (some ⟨GZ, 0, none⟩) 1 1) ([] ++ []) [(⟨AY, nY, cY⟩ : Sl)] rfl HX rfl (HZ) (by simp) (by have := hB0.out; have := F5.size; omega) ?_
          intro vX2 V6 HXn fs
          have F6 : Fr Non V0 V6 := F5.fresh fs (fun q e => by have := hB0.out; have := (HX.lt q e).1; omega)
          have HX0 := HX
          replace HX := HXn
          refine hK.out _ _ (fun _ => by exact F6.at0 HC0.out) ?_
          clear hK K
          (try simp only [Act.put, zA, zB, zC])
          clear fs HX0 HXn
          refine wpAnyK_one (i := 20) (o := ⟨some 71, _, _, _, _, none⟩) (by kernel_rfl) rfl (fun K hK => ?_)
          refine step_appG el_bs24 slV_one rfl (.tmp 64) (.tmp 70) rfl B vX2 (.slice A3' 0 k3') ([] ++ [] ++ [(⟨AY, nY, cY⟩ : Sl)]) [] rfl HX rfl (HV2.out _) (by simp) (by have := hB0.out; have := F6.size; omega) ?_
          intro vX3 V7 HXn fs
          have F7 : Fr Non V0 V7 := F6.fresh fs (fun q e => by have := hB0.out; have := (HX.lt q e).1; omega)
          have HX0 := HX
          replace HX := HXn
          refine hK.out _ _ (fun _ => by exact F7.at0 HC0.out) ?_
          clear hK K
          (try simp only [Act.put, zA, zB, zC])
          clear fs HX0 HXn
          have HBE := HBB.out.fr F7 (fun e => e)
          have zz := HBE.frozen 1
          have FE := FW0.out.trans (Fr.any (S := One g) F7)
          obtain ⟨AX, cX, rfl⟩ := HX.vs.shape
          clear HX
          have hHeld : (fun W' : World => W'.cell? ⟨g, 1, none⟩ = some (.slice none 0 0)) V7 := F7.at0 HC0.out
          refine wpAnyK_take2 22 (i := 21) (oi := ⟨some 72, _, _, _, _, none⟩) (v := ?v30017) rfl (by kernel_rfl) (by kernel_rfl) (by kernel_rfl) (fun _ _ _ h => h) (by kernel_rfl) (by kernel_rfl) (by kernel_rfl) (by decide) (Or.inl ⟨by rfl, ?hy30017⟩) (by assumption) ?rest30017
          case hy30017 => (intro wS hSw; (try dsimp only at hSw); go_simp; (try with_reducible rfl))
          (try simp only [Act.put, zA, zB, zC])
          refine wpAnyK_take (i := 22) (oi := ⟨some 73, _, _, _, _, none⟩) (v := ?v30018) rfl (by kernel_rfl) (by kernel_rfl) (by kernel_rfl) (fun _ _ _ h => h) (by kernel_rfl) (by decide) (Or.inl ⟨by rfl, ?hy30018⟩) (by assumption) ?rest30018
          case hy30018 => (intro wS hSw; (try dsimp only at hSw); go_simp; (try with_reducible rfl))
          (try simp only [Act.put, zA, zB, zC])
          refine wpAnyK_one (i := 23) (o := ⟨none, _, _, _, _, none⟩) (by kernel_rfl) rfl (fun K hK => ?_)
          replace hHeld : V7.cell? ⟨g, 1, none⟩ = some (.slice none 0 0) := hHeld
          go_simp
          refine hK.out _ _ (fun h => absurd rfl h) ?_
          clear hK K
          (try simp only [Act.put, zA, zB, zC])
          refine wpAnyK_done (by kernel_rfl) ?_ _
          have FZ := Lib.hid (FE.set1 1 (.slice AX 1 cX))
          clear HBE zz FE hHeld
          go_wp2
          first | exact bodyPost_end (results_none rfl _ _ _) rfl ⟨rfl, FZ.out⟩ | exact bodyPost_ret (results_none rfl _ _ _) rfl ⟨rfl, FZ.out⟩
      · obtain ⟨GY, hGY⟩ : ∃ G, V0.heap.size = G := ⟨_, rfl⟩
        obtain ⟨V1, hV1⟩ : ∃ W, W = V0.alloc (.cells #[] 5) := ⟨_, rfl⟩
        have fs : Fr Non V0 V1 := by rw [hV1]; exact (Fr.refl Non _).alloc _
        have HY : Ow bv 5 V1 B (.slice (some ⟨GY, 0, none⟩) 0 0) [] := by rw [hV1]; exact ow_lit0 V0 B GY hGY.symm (by have := hB0.out; have := F0.size; omega)
        have F1 : Fr Non V0 V1 := F0.trans fs
        go_simp
        try rw [hGY]
        rw [← hV1]
        refine hK.out _ _ (fun _ => by exact F1.at0 HC0.out) ?_
        clear hK K
        (try simp only [Act.put, zA, zB, zC])
        clear fs hV1
        refine wpAnyK_one (i := 1) (o := ⟨some 52, _, _, _, _, none⟩) (by kernel_rfl) rfl (fun K hK => ?_)
        obtain ⟨GX, hGX⟩ : ∃ G, V1.heap.size = G := ⟨_, rfl⟩
        obtain ⟨V2, hV2⟩ : ∃ W, W = V1.alloc (.cells #[] 23) := ⟨_, rfl⟩
        have fs : Fr Non V1 V2 := by rw [hV2]; exact (Fr.refl Non _).alloc _
        replace HY := HY.non fs
        have HX : Ow slV 23 V2 B (.slice (some ⟨GX, 0, none⟩) 0 0) [] := by rw [hV2]; exact ow_lit0 V1 B GX hGX.symm (by have := hB0.out; have := F1.size; omega)
        have F2 : Fr Non V0 V2 := F1.trans fs
        go_simp
        try rw [hGX]
        rw [← hV2]
        refine hK.out _ _ (fun _ => by exact F2.at0 HC0.out) ?_
        clear hK K
        (try simp only [Act.put, zA, zB, zC])
        clear fs hV2
        refine wpAnyK_one (i := 8) (o := ⟨some 59, _, _, _, _, none⟩) (by kernel_rfl) rfl (fun K hK => ?_)
        refine step_appG el_bs24 slV_one rfl (.tmp 52) (.tmp 58) rfl B (.slice (some ⟨GX, 0, none⟩) 0 0) (.slice A2' 0 k2') [] [] rfl HX rfl (HV1.out _) (by simp) (by have := hB0.out; have := F2.size; omega) ?_
        intro vX1 V3 HXn fs
        have F3 : Fr Non V0 V3 := F2.fresh fs (fun q e => by have := hB0.out; have := (HX.lt q e).1; omega)
        have HX0 := HX
        replace HY := HY.fr fs (fun q hq e => ow_unlike HX0 HY (by decide) q e hq)
        replace HX := HXn
        refine hK.out _ _ (fun _ => by exact F3.at0 HC0.out) ?_
        clear hK K
        (try simp only [Act.put, zA, zB, zC])
        clear fs HX0 HXn
        refine wpAnyK_one (i := 11) (o := ⟨some 62, _, _, _, _, none⟩) (by kernel_rfl) rfl (fun K hK => ?_)
        refine step_appG el_u8 bv_oneC rfl (.tmp 60) (.tmp 61) rfl B (.slice (some ⟨GY, 0, none⟩) 0 0) (.slice Ab b.length cb) [] b rfl HY rfl (HB.out.vs.non F3) (by simp; omega) (by have := hB0.out; have := F3.size; omega) ?_
        intro vY1 V4 HYn fs
        have F4 : Fr Non V0 V4 := F3.fresh fs (fun q e => by have := hB0.out; have := (HY.lt q e).1; omega)
        have HY0 := HY
        replace HX := HX.fr fs (fun q hq e => ow_unlike HY0 HX (by decide) q e hq)
        replace HY := HYn
        refine hK.out _ _ (fun _ => by exact F4.at0 HC0.out) ?_
        clear hK K
        (try simp only [Act.put, zA, zB, zC])
        clear fs HY0 HYn
        refine wpAnyK_one (i := 12) (o := ⟨some 63, _, _, _, _, none⟩) (by kernel_rfl) rfl (fun K hK => ?_)
        obtain ⟨AY, nY, cY, rfl⟩ : ∃ A n c, vY1 = .slice A n c := sl_of HY.vs
        obtain ⟨GZ, hGZ⟩ : ∃ G, V4.heap.size = G := ⟨_, rfl⟩
        obtain ⟨V5, hV5⟩ : ∃ W, W = V4.alloc (.cells #[.slice AY nY cY] 23) := ⟨_, rfl⟩
        have fs : Fr Non V4 V5 := by rw [hV5]; exact (Fr.refl Non _).alloc _
        have hXZ : ∀ q, vX1.ownBlock = some q → (Value.slice (some ⟨GZ, 0, none⟩) 1 1).ownBlock = some q → False := fun q h1 h2 => by have := (HX.lt q h1).2; simp [Value.ownBlock] at h2; omega
        replace HY := HY.non fs
        replace HX := HX.non fs
        have HZ : Vs slV V5 (.slice (some ⟨GZ, 0, none⟩) 1 1) [(⟨AY, nY, cY⟩ : Sl)] := by rw [hV5, ← hGZ]; exact vs_row (f := slV) V4 [(⟨AY, nY, cY⟩ : Sl)] 23 (0, 0)
        have F5 : Fr Non V0 V5 := F4.trans fs
        go_simp
        try rw [hGZ]
        rw [← hV5]
        refine hK.out _ _ (fun _ => by exact F5.at0 HC0.out) ?_
        clear hK K
        (try simp only [Act.put, zA, zB, zC])
        clear fs hV5
        refine wpAnyK_one (i := 13) (o := ⟨some 64, _, _, _, _, none⟩) (by kernel_rfl) rfl (fun K hK => ?_)
        try clear hXZ
        refine step_appG el_bs24 slV_one rfl (.tmp 59) (.tmp 63) rfl B vX1 (.slice (some ⟨GZ, 0, none⟩) 1 1) ([] ++ []) [(⟨AY, nY, cY⟩ : Sl)] rfl HX rfl (HZ) (by simp) (by have := hB0.out; have := F5.size; omega) ?_
        intro vX2 V6 HXn fs
        have F6 : Fr Non V0 V6 := F5.fresh fs (fun q e => by have := hB0.out; have := (HX.lt q e).1; omega)
        have HX0 := HX
        replace HX := HXn
        refine hK.out _ _ (fun _ => by exact F6.at0 HC0.out) ?_
        clear hK K
        (try simp only [Act.put, zA, zB, zC])
        clear fs HX0 HXn
        refine wpAnyK_one (i := 20) (o := ⟨some 71, _, _, _, _, none⟩) (by kernel_rfl) rfl (fun K hK => ?_)
        refine step_appG el_bs24 slV_one rfl (.tmp 64) (.tmp 70) rfl B vX2 (.slice A3' 0 k3') ([] ++ [] ++ [(⟨AY, nY, cY⟩ : Sl)]) [] rfl HX rfl (HV2.out _) (by simp) (by have := hB0.out; have := F6.size; omega) ?_
        intro vX3 V7 HXn fs
        have F7 : Fr Non V0 V7 := F6.fresh fs (fun q e => by have := hB0.out; have := (HX.lt q e).1; omega)
        have HX0 := HX
        replace HX := HXn
        refine hK.out _ _ (fun _ => by exact F7.at0 HC0.out) ?_
        clear hK K
        (try simp only [Act.put, zA, zB, zC])
        clear fs HX0 HXn
        have HBE := HBB.out.fr F7 (fun e => e)
        have zz := HBE.frozen 1
        have FE := FW0.out.trans (Fr.any (S := One g) F7)
        obtain ⟨AX, cX, rfl⟩ := HX.vs.shape
        clear HX
        have hHeld : (fun W' : World => W'.cell? ⟨g, 1, none⟩ = some (.slice none 0 0)) V7 := F7.at0 HC0.out
        refine wpAnyK_take2 22 (i := 21) (oi := ⟨some 72, _, _, _, _, none⟩) (v := ?v30019) rfl (by kernel_rfl) (by kernel_rfl) (by kernel_rfl) (fun _ _ _ h => h) (by kernel_rfl) (by kernel_rfl) (by kernel_rfl) (by decide) (Or.inl ⟨by rfl, ?hy30019⟩) (by assumption) ?rest30019
        case hy30019 => (intro wS hSw; (try dsimp only at hSw); go_simp; (try with_reducible rfl))
        (try simp only [Act.put, zA, zB, zC])
        refine wpAnyK_take (i := 22) (oi := ⟨some 73, _, _, _, _, none⟩) (v := ?v30020) rfl (by kernel_rfl) (by kernel_rfl) (by kernel_rfl) (fun _ _ _ h => h) (by kernel_rfl) (by decide) (Or.inl ⟨by rfl, ?hy30020⟩) (by assumption) ?rest30020
        case hy30020 => (intro wS hSw; (try dsimp only at hSw); go_simp; (try with_reducible rfl))
        (try simp only [Act.put, zA, zB, zC])
        refine wpAnyK_one (i := 23) (o := ⟨none, _, _, _, _, none⟩) (by kernel_rfl) rfl (fun K hK => ?_)
        replace hHeld : V7.cell? ⟨g, 1, none⟩ = some (.slice none 0 0) := hHeld
        go_simp
        refine hK.out _ _ (fun h => absurd rfl h) ?_
        clear hK K
        (try simp only [Act.put, zA, zB, zC])
        refine wpAnyK_done (by kernel_rfl) ?_ _
        have FZ := Lib.hid (FE.set1 1 (.slice AX 1 cX))
        clear HBE zz FE hHeld
        go_wp2
        first | exact bodyPost_end (results_none rfl _ _ _) rfl ⟨rfl, FZ.out⟩ | exact bodyPost_ret (results_none rfl _ _ _) rfl ⟨rfl, FZ.out⟩
end Go.Proofs.Ytpepapadbmkjiaa
