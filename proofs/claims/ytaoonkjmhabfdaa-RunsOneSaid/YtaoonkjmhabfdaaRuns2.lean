/-
  Layer 5: the walks of firkinref05.Put, firkinref05.Same.
-/
import Derived.Test.YtaoonkjmhabfdaaRuns1
namespace Go.Proofs.Ytaoonkjmhabfdaa
set_option linter.unusedVariables false
set_option linter.unusedSimpArgs false
open Go.RowKit

/-- append of bytes onto bytes of the call's own, as one step of a region that draws -/
theorem step_app {w : World} {ops : Array Oper} {o : Oper} {a : Act} {K : Act → World → Prop} {Q : Exit → Act → World → Prop} {E : Prop} (hgd : o.guard = none) (s x : Operand)
    (ho : o.op = .call { callee := .builtin .append, args := #[s, x], argTypes := #[24, 24] })
    (B : Nat) (v y : Value) (l m : List UInt8) (hs : a.eval s = v) (hown : Own w B v l) (hx : a.eval x = y) (hy : Bs w y m)
    (hl : l.length + m.length < 140737488355328) (hB : B ≤ w.heap.size)
    (h : ∀ v' w', Own w' B v' (l ++ m) → Fr (fun k => v.ownBlock = some k) w w' → K (a.put o.dst v') w') : if Region.wanted o (yielded ops a.tmps) = true then Oper.wp Try.prog o a w K Q else E := by
  have hw : Region.wanted o (yielded ops a.tmps) = true := by simp [Region.wanted, hgd]
  rw [if_pos hw]
  exact wp_app s x ho B v y l m hs hown hx hy hl hB h

set_option maxHeartbeats 4000000 in
theorem rrnput_any (v : Value) (l : List Int) (w : World) (hv : Vs iv w v l) (hl : l.length ≤ 1000000) (hx : ∀ x ∈ l, I64 x) :
    Calls Try.prog 10 #[v] w fun e w' => ∃ u, e = .returned u ∧ Own w' w.heap.size u (putR l) ∧ Fr Non w w' := by
  obtain ⟨A, c, rfl, hlc, hn, hcell⟩ := hv
  have HC := Lib.hid hcell
  have HN := Lib.hid hn
  have HX := Lib.hid hx
  clear hcell hn hx
  go_enter Try.func10, Try.ntmps10
  go_wp2
  go_loopw [3, 4] (fun b i wr => ∃ (k : Nat) (bs : List UInt8), k ≤ l.length ∧ i = .int .i64 k ∧ Hid (putR l = bs ++ putR (l.drop k)) ∧ bs.length ≤ 20 * k ∧ Own wr w.heap.size b bs ∧ Fr Non w wr) (fun _ i _ => l.length - (intOf i).toNat)
  case atStart => exact ⟨0, [], Nat.zero_le _, rfl, Lib.hid (by simp), by simp, own_lit0 _ _ _ rfl (Nat.le_refl _), (Fr.refl _ _).alloc _⟩
  case round =>
    obtain ⟨k, bs, hk, rfl, HP, hbs, hown, hfr⟩ := hrel
    by_cases hlt : k < l.length
    · cases A with
      | none => have := HN.out rfl; omega
      | some a =>
        have hc0 := HC.out a rfl k hlt
        have hdr := drop_cons l k hlt
        have hxx := HX.out l[k] (List.getElem_mem hlt)
        generalize l[k] = x at *
        have hP := HP.out
        rw [hdr, putR_cons] at hP
        have hrl := runN_le x (l.drop (k + 1))
        rw [List.length_drop] at hrl
        have hdd : (l.drop (k + 1)).drop (runN x (l.drop (k + 1))) = l.drop (k + (runN x (l.drop (k + 1)) + 1)) := by rw [List.drop_drop]; congr 1; omega
        rw [hdd] at hP
        have HP2 := Lib.hid hP
        have hat : ∀ j, k ≤ j → j < k + (runN x (l.drop (k + 1)) + 1) → l[j]? = some x := by
          intro j h1 h2
          have e : l[j]? = (l.drop k)[j - k]? := by rw [List.getElem?_drop]; congr 1; omega
          rw [e, hdr]
          cases hd : j - k with
          | zero => rfl
          | succ t =>
            rw [List.getElem?_cons_succ]
            exact runN_at x _ t (by omega)
        have hen : l[k + (runN x (l.drop (k + 1)) + 1)]? ≠ some x := by
          have := runN_end x (l.drop (k + 1))
          rw [List.getElem?_drop] at this
          rwa [show k + (runN x (l.drop (k + 1)) + 1) = k + 1 + runN x (l.drop (k + 1)) by omega]
        have HA := Lib.hid hat
        have HE := Lib.hid hen
        have hc1 : wr.cell? (a.add k) = some (iv x) := (hfr.cell (World.block_lt_of_cell? w _ hc0) (fun e => e)).trans hc0
        unfold iv at hc1 hc0
        clear hP hdr hdd HP hat hen
        generalize runN x (l.drop (k + 1)) = q at *
        have H64 : Hid (q < two64) := Lib.hid (by unfold two64; omega)
        have hl10 : (Lib.uvarint q).length ≤ 10 := Lib.uvarint_length64 H64.out
        have hz10 := uvarint_zig10 hxx
        go_wp2
        go_loopw [5] (fun i wx => ∃ j : Nat, k ≤ j ∧ j ≤ k + (q + 1) ∧ i = .int .i64 j ∧ ∃ n, wx = wr.drewN n) (fun i _ => l.length - (intOf i).toNat)
        case atStart => exact ⟨k, Nat.le_refl _, by omega, rfl, 0, rfl⟩
        case round =>
          obtain ⟨j, hj1, hj, rfl, n, rfl⟩ := hrel
          by_cases hjl : j < l.length
          · have g1 : wr.cell? (a.add j) = some (iv l[j]) := (hfr.cell (World.block_lt_of_cell? w _ (HC.out a rfl j hjl)) (fun e => e)).trans (HC.out a rfl j hjl)
            unfold iv at g1
            by_cases hxe : l[j] = x
            · rw [hxe] at g1
              have hjq : j < k + (q + 1) := by
                rcases Nat.lt_or_ge j (k + (q + 1)) with h | h
                · exact h
                · exfalso
                  have h1 := HE.out
                  rw [show k + (q + 1) = j by omega] at h1
                  exact h1 (by rw [List.getElem?_eq_getElem hjl, hxe])
              have hxx : (x == x) = true := by simp
              clear hxe
              go_wp2
              go_quiet (fail)
              go_wp2
              go_roundw
              case rel => exact ⟨j + 1, by omega, by omega, by go_num, _, rfl⟩
              case measure => simp [intOf]; omega
            · have hxx2 : (l[j] == x) = false := by rw [beq_eq_false_iff_ne]; exact hxe
              have hjq : j = k + (q + 1) := by
                rcases Nat.lt_or_ge j (k + (q + 1)) with h | h
                · exfalso
                  have h1 := HA.out j hj1 h
                  rw [List.getElem?_eq_getElem hjl] at h1
                  exact hxe (by simpa using h1)
                · omega
              have HJ := Lib.hid hjq
              clear hxe hjq
              generalize l[j] = y at *
              go_wp2
              go_quiet (fail)
              go_wp2
              obtain ⟨W, hW⟩ : ∃ W, (wr.drewN n).drewN nq = W := ⟨_, rfl⟩
              have hownW : Own W.drew w.heap.size u3 bs := by rw [← hW]; exact hown
              have hfrW : Fr Non w W.drew := by rw [← hW]; exact ((hfr.drewN n).drewN nq).drew
              have hcW : W.drew.cell? (a.add k) = some (.int .i64 x) := by rw [← hW]; exact hc1
              have e1 : IntKind.i64.wrap ((j : Int) - k) = (q : Int) + 1 := by rw [HJ.out]; exact (IntWalk.i64_in _ ⟨by omega, by omega⟩).trans (by push_cast; omega)
              have e2 : IntKind.i64.wrap (q : Int) = q := IntWalk.i64_in _ ⟨by omega, by omega⟩
              have e3 : IntKind.u64.wrap (q : Int) = q := IntWalk.u64_in _ ⟨by omega, by omega⟩
              rw [hW]
              clear hown hfr hc1 hW
              go_region_held3 (fun W => W.cell? (a.add k) = some (.int .i64 x)) (first | exact hcW | exact c2 | exact c3 | exact c4 | exact c5) (first | (go_at_call 22; refine (rnum_any q _ H64.out).mono ?_; rintro e w2 ⟨v2, rfl, hown2, hf2⟩; have hfr2 := hfrW.trans hf2; have c2 := (hf2.cell (p := a.add k) (World.block_lt_of_cell? _ _ hcW) (fun e => e)).trans hcW) | (refine step_app rfl (.tmp 29) (.tmp 35) (by rfl) w.heap.size u3 v2 bs (Lib.uvarint q) (by rfl) (hownW.non hf2) (by rfl) hown2.bs (by omega) hfr2.size ?_; intro v3 w3 hown3 hf3; have hfr3 := hfr2.fresh hf3 (fun k hk => (hownW.lt k hk).1); have c3 := (hfr3.cell (World.block_lt_of_cell? w _ hc0) (fun e => e)).trans hc0) | (go_at_call 23; refine (rint_any x _ hxx.1 hxx.2).mono ?_; rintro e w4 ⟨v4, rfl, hown4, hf4⟩; have hfr4 := hfr3.trans hf4; have c4 := (hf4.cell (p := a.add k) (World.block_lt_of_cell? _ _ c3) (fun e => e)).trans c3) | (refine step_app rfl (.tmp 36) (.tmp 41) (by rfl) w.heap.size v3 v4 (bs ++ Lib.uvarint q) (Lib.uvarint (zig x)) (by rfl) (hown3.non hf4) (by rfl) hown4.bs (by rw [List.length_append]; omega) hfr4.size ?_; intro v5 w5 hown5 hf5; have hfr5 := hfr4.fresh hf5 (fun k hk => (hown3.lt k hk).1); have c5 := (hfr5.cell (World.block_lt_of_cell? w _ hc0) (fun e => e)).trans hc0))
              go_wp2
              go_roundw
              case rel => exact ⟨k + (q + 1), bs ++ Lib.uvarint q ++ Lib.uvarint (zig x), by omega, by rw [HJ.out], Lib.hid (by rw [HP2.out]; unfold oneR; simp [List.append_assoc]), by simp only [List.length_append]; omega, hown5, hfr5⟩
              case measure => rw [HJ.out]; simp [intOf]; omega
          · have hd : decide ((j : Int) < l.length) = false := by simp; omega
            have hjq : j = k + (q + 1) := by omega
            have HJ := Lib.hid hjq
            clear hjq
            go_wp2
            go_quiet (fail)
            go_wp2
            obtain ⟨W, hW⟩ : ∃ W, (wr.drewN n).drewN nq = W := ⟨_, rfl⟩
            have hownW : Own W.drew w.heap.size u3 bs := by rw [← hW]; exact hown
            have hfrW : Fr Non w W.drew := by rw [← hW]; exact ((hfr.drewN n).drewN nq).drew
            have hcW : W.drew.cell? (a.add k) = some (.int .i64 x) := by rw [← hW]; exact hc1
            have e1 : IntKind.i64.wrap ((j : Int) - k) = (q : Int) + 1 := by rw [HJ.out]; exact (IntWalk.i64_in _ ⟨by omega, by omega⟩).trans (by push_cast; omega)
            have e2 : IntKind.i64.wrap (q : Int) = q := IntWalk.i64_in _ ⟨by omega, by omega⟩
            have e3 : IntKind.u64.wrap (q : Int) = q := IntWalk.u64_in _ ⟨by omega, by omega⟩
            rw [hW]
            clear hown hfr hc1 hW
            go_region_held3 (fun W => W.cell? (a.add k) = some (.int .i64 x)) (first | exact hcW | exact c2 | exact c3 | exact c4 | exact c5) (first | (go_at_call 22; refine (rnum_any q _ H64.out).mono ?_; rintro e w2 ⟨v2, rfl, hown2, hf2⟩; have hfr2 := hfrW.trans hf2; have c2 := (hf2.cell (p := a.add k) (World.block_lt_of_cell? _ _ hcW) (fun e => e)).trans hcW) | (refine step_app rfl (.tmp 29) (.tmp 35) (by rfl) w.heap.size u3 v2 bs (Lib.uvarint q) (by rfl) (hownW.non hf2) (by rfl) hown2.bs (by omega) hfr2.size ?_; intro v3 w3 hown3 hf3; have hfr3 := hfr2.fresh hf3 (fun k hk => (hownW.lt k hk).1); have c3 := (hfr3.cell (World.block_lt_of_cell? w _ hc0) (fun e => e)).trans hc0) | (go_at_call 23; refine (rint_any x _ hxx.1 hxx.2).mono ?_; rintro e w4 ⟨v4, rfl, hown4, hf4⟩; have hfr4 := hfr3.trans hf4; have c4 := (hf4.cell (p := a.add k) (World.block_lt_of_cell? _ _ c3) (fun e => e)).trans c3) | (refine step_app rfl (.tmp 36) (.tmp 41) (by rfl) w.heap.size v3 v4 (bs ++ Lib.uvarint q) (Lib.uvarint (zig x)) (by rfl) (hown3.non hf4) (by rfl) hown4.bs (by rw [List.length_append]; omega) hfr4.size ?_; intro v5 w5 hown5 hf5; have hfr5 := hfr4.fresh hf5 (fun k hk => (hown3.lt k hk).1); have c5 := (hfr5.cell (World.block_lt_of_cell? w _ hc0) (fun e => e)).trans hc0))
            go_wp2
            go_roundw
            case rel => exact ⟨k + (q + 1), bs ++ Lib.uvarint q ++ Lib.uvarint (zig x), by omega, by rw [HJ.out], Lib.hid (by rw [HP2.out]; unfold oneR; simp [List.append_assoc]), by simp only [List.length_append]; omega, hown5, hfr5⟩
            case measure => rw [HJ.out]; simp [intOf]; omega
    · obtain rfl : k = l.length := by omega
      have hP := HP.out
      rw [List.drop_length, putR_nil, List.append_nil] at hP
      have HP2 := Lib.hid hP
      clear hP
      go_wp2
      go_ret
      exact ⟨_, rfl, by rw [HP2.out]; exact hown, hfr⟩
theorem take_neS {α : Type} {a b : List α} {k : Nat} (hk : k < a.length) (hk2 : k < b.length) (h : a[k] ≠ b[k]) : a ≠ b := by
  intro e; subst e; exact h rfl
theorem take_eqS {α : Type} {a b : List α} {k : Nat} (hk : k < a.length) (hk2 : k < b.length) (h : a.take k = b.take k) (he : a[k] = b[k]) : a.take (k + 1) = b.take (k + 1) := by
  rw [List.take_succ_eq_append_getElem hk, List.take_succ_eq_append_getElem hk2, h, he]

set_option maxHeartbeats 1000000 in
theorem i64s_any (v1 v2 : Value) (l1 l2 : List Int) (w : World) (h1 : Vs iv w v1 l1) (h2 : Vs iv w v2 l2) (hl1 : l1.length ≤ 9223372036854775807) (hl2 : l2.length ≤ 9223372036854775807) :
    Calls Try.prog 11 #[v1, v2] w fun e w' => e = .returned (.bool (l1 == l2)) ∧ Fr Non w w' := by
  obtain ⟨A1, c1, rfl, hc1, hn1, hcell1⟩ := h1
  obtain ⟨A2, c2, rfl, hc2, hn2, hcell2⟩ := h2
  have HN1 := Lib.hid hn1
  have HN2 := Lib.hid hn2
  have HC1 := Lib.hid hcell1
  have HC2 := Lib.hid hcell2
  clear hn1 hn2 hcell1 hcell2
  by_cases hlen : l1.length = l2.length
  · have HL := Lib.hid hlen
    have hb : ((l1.length : Int) != l2.length) = false := by rw [hlen]; simp
    have hle : l1.length ≤ l2.length := by omega
    have hge : l2.length ≤ l1.length := by omega
    clear hlen
    go_enter Try.func11, Try.ntmps11
    go_wp2
    go_loopw [5] (fun i wr => ∃ k : Nat, k ≤ l1.length ∧ i = .int .i64 k ∧ Hid (l1.take k = l2.take k) ∧ ∃ n, wr = w.drewN n) (fun i _ => l1.length - (intOf i).toNat)
    case atStart => exact ⟨0, Nat.zero_le _, rfl, Lib.hid rfl, 0, rfl⟩
    case round =>
      obtain ⟨k, hk, rfl, HT, n, rfl⟩ := hrel
      by_cases hlt : k < l1.length
      · cases A1 with
        | none => have := HN1.out rfl; omega
        | some a1 =>
          cases A2 with
          | none => have := HN2.out rfl; omega
          | some a2 =>
            have g1 : w.cell? (a1.add k) = some (iv l1[k]) := HC1.out a1 rfl k hlt
            have g2 : w.cell? (a2.add k) = some (iv (l2[k]'(by omega))) := HC2.out a2 rfl k (by omega)
            unfold iv at g1 g2
            by_cases he : l1[k] = l2[k]'(by omega)
            · have HE := Lib.hid (take_eqS hlt (by omega) HT.out he)
              rw [← he] at g2
              clear he
              generalize l1[k] = x at *
              have hx : (x != x) = false := by simp
              go_wp2
              go_quiet (fail)
              go_wp2
              go_roundw
              case rel => exact ⟨k + 1, by omega, by go_num, HE, _, rfl⟩
              case measure => simp [intOf]; omega
            · have HE := Lib.hid (take_neS hlt (by omega) he)
              have hx : (l1[k] != l2[k]'(by omega)) = true := by rw [bne_iff_ne]; exact he
              clear he
              generalize l1[k] = x at *
              generalize l2[k]'(by omega) = y at *
              go_wp2
              go_quiet (fail)
              go_wp2
              go_ret
              exact ⟨ret_boolE (beq_eq_false_iff_ne.2 HE.out).symm, ((Fr.refl _ _).drewN _).drewN _⟩
      · have HE : Hid (l1 = l2) := Lib.hid (by
          have := HT.out
          rwa [List.take_of_length_le (by omega), List.take_of_length_le (by omega)] at this)
        go_wp2
        go_ret
        exact ⟨ret_boolE (beq_iff_eq.2 HE.out).symm, (Fr.refl _ _).drewN _⟩
  · have hb : ((l1.length : Int) != l2.length) = true := by rw [bne_iff_ne]; omega
    have HE : Hid (l1 ≠ l2) := Lib.hid (fun e => hlen (by rw [e]))
    clear hlen
    go_enter Try.func11, Try.ntmps11
    go_wp2
    go_ret
    exact ⟨ret_boolE (beq_eq_false_iff_ne.2 HE.out).symm, Fr.refl _ _⟩
end Go.Proofs.Ytaoonkjmhabfdaa
