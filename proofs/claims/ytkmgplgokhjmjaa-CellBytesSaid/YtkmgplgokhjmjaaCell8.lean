/-
  Layer 9: a cell's bytes are read as it; the walk of the law on the bytes.
-/
import Derived.Test.YtkmgplgokhjmjaaCell5
import Derived.Test.YtkmgplgokhjmjaaCell7
import Derived.Test.YtkmgplgokhjmjaaMathTxt
namespace Go.Proofs.Ytkmgplgokhjmjaa
set_option linter.unusedVariables false
set_option linter.unusedSimpArgs false
set_option maxRecDepth 100000
open Go.RowKit

theorem most_own {n : Nat} {m : Int} (hn : (n : Int) ≤ m) (h2 : n < two64) (r : List UInt8) : mostV (Lib.uvarint n ++ r) m = n ∧ mostR (Lib.uvarint n ++ r) m = r ∧ mostB (Lib.uvarint n ++ r) m = false := by
  obtain ⟨h1, h3, h4, _⟩ := rest_some (rd_own h2 r)
  have hm : mostOk (Lib.uvarint n ++ r) m = true := decide_eq_true ⟨by omega, by rw [h4]; exact hn⟩
  unfold mostV mostR mostB
  rw [hm]
  simp only [if_true, h1, h3, h4]
  exact ⟨trivial, trivial, trivial⟩
theorem uv_zero : Lib.uvarint 0 = [0] := by rw [Lib.uvarint_small (by omega)]; rfl
theorem uv_one : Lib.uvarint 1 = [1] := by rw [Lib.uvarint_small (by omega)]; rfl

/-- a cell that may be is read again out of its bytes -/
theorem tkC_own {ty : Int} {c : Cl} (hc : ClOk c) (hm : mayC ty true c = true) (r : List UInt8) : tkC ty (cellB ty c ++ r) = (c, r, false) := by
  have hrd : rdC ty (cellB ty c ++ r) = (c, r, false) := by
    obtain ⟨n, i, t⟩ := c
    have ht : ty = 1 ∨ ty = 2 ∨ ty = 3 := by
      by_cases h1 : ty = 1
      · exact .inl h1
      · by_cases h2 : ty = 2
        · exact .inr (.inl h2)
        · by_cases h3 : ty = 3
          · exact .inr (.inr h3)
          · rw [mayC_no h1 h2 h3] at hm; cases hm
    cases n
    · have h1 := fun x => most_own (n := 1) (m := 1) (by omega) (by decide) x
      rw [uv_one] at h1
      have hl := hc.lo; have hh := hc.hi
      dsimp only at hl hh
      by_cases h3 : ty = 3
      · subst h3
        simp [mayC, isTy] at hm
        obtain ⟨h0, h40⟩ := hm
        rw [cellB_txt rfl, List.append_assoc]
        obtain ⟨e1, e2, e3⟩ := h1 (textB t ++ r)
        obtain ⟨x1, x2, x3⟩ := txt_own (t := t) (r := r) (m := 40) (by omega) (by unfold two64; omega)
        rw [rdC_txt (by rw [e1]; decide), e2, x1, x2, x3, h0]
      · have h12 : ty = 1 ∨ ty = 2 := by omega
        have ht0 : t = [] := by
          rcases h12 with h | h <;> subst h <;> simp [mayC, isTy] at hm
          · exact hm
          · exact hm.1
        subst ht0
        rw [cellB_num rfl h12, List.append_assoc]
        obtain ⟨e1, e2, e3⟩ := h1 (Lib.uvarint (zig i) ++ r)
        obtain ⟨x1, x2, x3, _⟩ := rest_some (rd_own (zig_lt hl hh) r)
        rw [rdC_num (by rw [e1]; decide) h12, e2, x1, x2, x3, unzig_zig]
    · have h1 := most_own (n := 0) (m := 1) (by omega) (by decide) r
      rw [uv_zero] at h1
      have hz : i = 0 ∧ t = [] := by
        rcases ht with h | h | h <;> subst h <;> simp [mayC, isTy] at hm <;> exact hm
      obtain ⟨rfl, rfl⟩ := hz
      rw [cellB_null rfl, rdC_null h1.1, h1.2.1, h1.2.2]
  unfold tkC
  rw [hrd, if_pos ⟨rfl, hm⟩]

/-- behind an operation more may be held than ahead of it -/
theorem wpAnyH_more {P : Program} {md : Region.Mode} {ops : Array Oper} {Q : Exit → Act → World → Prop} {S S' : World → Prop} (h : ∀ w, S' w → S w) :
    ∀ (fuel : Nat) (listed : Array Bool) (a : Act) (w : World), wpAnyH P md ops Q S' fuel listed a w → wpAnyH P md ops Q S fuel listed a w
  | 0, _, _, _, hw => hw
  | fuel + 1, _, _, _, hw => ⟨hw.1, fun i hi => wpOp_mono (fun a' w' h' => ⟨h w' h'.1, wpAnyH_more h fuel _ a' w' h'.2⟩) (hw.2 i hi)⟩

set_option maxHeartbeats 4000000 in
theorem cellBytes_walk (ty : Int) (c : Cl) (v : Value) (b : List UInt8) (w : World) (hcl : -9223372036854775808 ≤ c.num ∧ c.num ≤ 9223372036854775807) (hv : Bs w v b) (hvl : ∀ k, v.ownBlock = some k → k < w.heap.size) :
    Calls Try.prog 4 #[.int .i64 ty, clV c, v] w fun e w' => e = .returned (.bool true) ∧ Below w.heap.size w w' := by
  have H0 := cl_new w c
  have HF0 := (Fr.refl Non w).alloc (.cells #[.bool c.null, .int .i64 c.num, .string ⟨c.txt.toArray⟩] 23)
  have s1 := fun W => csmall_any c W
  have HV := Lib.hid hv
  have HVl := Lib.hid hvl
  have HL0 := Lib.hid hcl
  obtain ⟨A, k, rfl⟩ := hv.shape
  clear hv hvl
  unfold clV clC at *
  by_cases hs1 : c.txt.length ≤ 200
  · rw [decide_eq_true hs1] at s1
    by_cases hb : b.length ≤ 200
    · have hok : ClOk c := ⟨hcl.1, hcl.2, by omega⟩
      have HOk := Lib.hid hok
      have P1 := fun W => cput_any ty c W hok
      have P2 := fun W => rcput_any ty c W hok
      have M1 := fun W => rmay_any ty true c W
      unfold clV clC at P1 P2 M1
      have p1 := Lib.hid P1
      have p2 := Lib.hid P2
      have m1 := Lib.hid M1
      clear P1 P2 M1 hok hcl
      have q1 := fun W => run_neq_cl W (tkC ty b).1 (tkC ty b).1
      have q2 := fun W => run_eql_cl W c c
      simp only [ceq_self] at q1 q2
      go_enter Try.func4, Try.ntmps4
      go_wp2_with fail
      generalize w.alloc (.cells #[.bool c.null, .int .i64 c.num, .string ⟨c.txt.toArray⟩] 23) = W0 at *
      generalize hg : w.heap.size = g at *
      obtain ⟨a0, a1, a2, _⟩ := ClB.facts H0
      refine (s1 _).mono ?_
      rintro e w1 ⟨rfl, f1⟩
      have hc1 : ClB w1 g c := H0.fr f1 (fun e => e)
      clear a0 a1 a2
      obtain ⟨a0, a1, a2, _⟩ := hc1.facts
      go_wp2_with fail
      refine (p1.out _).mono ?_
      rintro e w2 ⟨v2, rfl, hown2, f2⟩
      obtain ⟨A2, k2, rfl⟩ := hown2.shape
      have F2 := (HF0.trans f1).trans f2
      go_wp2_with fail
      refine (from_any _ b w2 (HV.out.non F2)).mono ?_
      rintro e w3 ⟨rfl, s3, f3⟩
      have F3 := F2.trans f3
      have hlt3 := s3.1.lt
      have hc3 : ClB w3 g c := (hc1.fr f2 (fun e => e)).fr f3 (fun e => e)
      have hbox := (Fr.refl Non w3).alloc (.cells #[.slice A b.length k, .bool false] 36)
      have S4 : SAt (w3.alloc (.cells #[.slice A b.length k, .bool false] 36)) w3.heap.size (GeS g) b false :=
        ⟨_, Blk.new _ _ _, (HV.out.non F3).non hbox, (fun q hq e => by have := HVl.out q hq; unfold GeS at e; omega), by have := F3.size; unfold GeS; omega, fun h => by cases h⟩
      have s4 := s3.fr hbox (fun e => e)
      have F4 := F3.trans hbox
      have hc4 : ClB _ g c := hc3.fr hbox (fun e => e)
      have hx4 := (hown2.bs.non f3).non hbox
      have hlt4 := S4.lt
      have hx2 := hown2.lt
      have hgg : g < w2.heap.size := (show ClB w2 g c from hc1.fr f2 (fun e => e)).lt
      go_wp2
      generalize w3.alloc (.cells #[.slice A b.length k, .bool false] 36) = W4 at *
      generalize hgs : w2.heap.size = gs at *
      generalize hgw : w3.heap.size = gw at *
      have hgs0 : g ≠ gs := by omega
      have hgw0 : g ≠ gw := by omega
      have hgsw : gs ≠ gw := by omega
      have hS5 : ∀ W : World, W0.heap.size ≤ W.heap.size → ∀ q, W.heap.size ≤ q → GeS g q := fun W h q hq => by have := HF0.size; unfold GeS; omega
      have T1 := fun W (h : Src W gs b false) => ctake_any gs b false ty W h
      have T2 := fun W (h : SAt W gw (GeS g) b false) (h' : W0.heap.size ≤ W.heap.size) => rctake_any gw (GeS g) b false ty W h (by omega) (hS5 W h')
      have hcD : ClB W4.drew g c := hc4
      have hsD : Src W4.drew gs b false := s4
      have hSD : SAt W4.drew gw (GeS g) b false := S4
      have hxD : Bs W4.drew (.slice A2 (cellB ty c).length k2) (cellB ty c) := hx4
      have hFD : Fr Non w W4.drew := F4.drew
      have hzD : W0.heap.size ≤ W4.drew.heap.size := by have h1 := f1.size; have h2 := f2.size; have h3 := f3.size; have h4 := hbox.size; show W0.heap.size ≤ W4.heap.size; omega
      have hzg : gw < W4.heap.size := hlt4
      generalize tkC ty b = x at *
      obtain ⟨⟨xn, xi, xt⟩, lx, bx⟩ := x
      unfold clV clC at T1 T2
      dsimp only at T1 T2 q1
      have t1 := Lib.hid T1
      have t2 := Lib.hid T2
      have hS6 := Lib.hid hS5
      have n1 : (cellB ty c == cellB ty c) = true := by simp
      have n2 : ((!bx) == bx) = false := by cases bx <;> rfl
      have n3 : ((lx.length : Int) != lx.length) = false := by simp
      have hx2g : ∀ q, (Value.slice A2 (cellB ty c).length k2).ownBlock = some q → q ≠ gs := fun q hq e => by have := (hx2 q hq).2; omega
      have hx2w : ∀ q, (Value.slice A2 (cellB ty c).length k2).ownBlock = some q → q ≠ gw := fun q hq e => by have := (hx2 q hq).2; omega
      clear T1 T2 hS5 hc4 s4 S4 hx4 F4 a0 a1 a2 hc3 s3 hown2 hbox f1 f2 f3 F2 F3 hc1 H0 HF0 s1
      obtain ⟨a0, a1, a2, _⟩ := hcD.facts
      refine wp_region_held_drew (S := (fun W => W.cell? ⟨g, 0, none⟩ = some (.bool c.null) ∧ W.cell? ⟨g, 1, none⟩ = some (.int .i64 c.num) ∧ W.cell? ⟨g, 2, none⟩ = some (.string ⟨c.txt.toArray⟩))) (by kernel_rfl) ⟨a0, a1, a2⟩ (fun hHeld => ?_)
      refine wpAnyH_take (i := 0) (oi := ⟨some 28, _, _, _, _, none⟩) (v := ?v1) rfl (by kernel_rfl) (by kernel_rfl) (by kernel_rfl) (fun _ _ _ h => h) (Or.inl ⟨by rfl, ?hy1⟩) (by assumption) ?rest1
      case hy1 => (intro wS hSw; (try dsimp only at hSw); go_simp; (try with_reducible rfl))
      (try simp only [Act.put, List.setIfInBounds_toArray, List.set_cons_zero, List.set_cons_succ])
      refine wpAnyH_take (i := 1) (oi := ⟨some 29, _, _, _, _, none⟩) (v := ?v2) rfl (by kernel_rfl) (by kernel_rfl) (by kernel_rfl) (fun _ _ _ h => h) (Or.inl ⟨by rfl, ?hy2⟩) (by assumption) ?rest2
      case hy2 => (intro wS hSw; (try dsimp only at hSw); go_simp; (try with_reducible rfl))
      (try simp only [Act.put, List.setIfInBounds_toArray, List.set_cons_zero, List.set_cons_succ])
      refine wpAnyH_take (i := 2) (oi := ⟨some 30, _, _, _, _, none⟩) (v := ?v3) rfl (by kernel_rfl) (by kernel_rfl) (by kernel_rfl) (fun _ _ _ h => h) (Or.inl ⟨by rfl, ?hy3⟩) (by assumption) ?rest3
      case hy3 => (intro wS hSw; (try dsimp only at hSw); go_simp; (try with_reducible rfl))
      (try simp only [Act.put, List.setIfInBounds_toArray, List.set_cons_zero, List.set_cons_succ])
      refine wpAnyH_ready (rs := [3]) (by kernel_rfl) (by simp) ?_
      refine AllReadyH.cons (o := ⟨some 31, _, _, _, _, none⟩) rfl (fun K hK => ?_) AllReadyH.nil
      go_simp
      go_at_call 16
      refine (p2.out _).mono ?_
      rintro e w5 ⟨v5, rfl, hown5, f5⟩
      obtain ⟨A5, k5, rfl⟩ := hown5.shape
      have hc5 : ClB w5 g c := hcD.fr f5 (fun e => e)
      have hs5 := hsD.fr f5 (fun e => e)
      have hS5 := hSD.non f5
      have hx5 := hxD.non f5
      have hy5 := hown5.bs
      have hz5 := f5.size
      obtain ⟨b0, b1, b2, _⟩ := hc5.facts
      go_wp2_with fail
      refine hK.out _ _ ⟨b0, b1, b2⟩ (fun hHeld => ?_)
      clear hK K
      (try simp only [Act.put, List.setIfInBounds_toArray, List.set_cons_zero, List.set_cons_succ])
      refine wpAnyH_ready (rs := [4]) (by kernel_rfl) (by simp) ?_
      refine AllReadyH.cons (o := ⟨some 32, _, _, _, _, none⟩) rfl (fun K hK => ?_) AllReadyH.nil
      go_simp
      go_at_call 15
      refine (same_any _ _ (cellB ty c) (cellB ty c) _ hx5 hy5).mono ?_
      rintro e w6 ⟨rfl, rfl⟩
      go_wp2_with fail
      refine hK.out _ _ ⟨b0, b1, b2⟩ (fun hHeld => ?_)
      clear hK K
      (try simp only [Act.put, List.setIfInBounds_toArray, List.set_cons_zero, List.set_cons_succ])
      refine wpAnyH_take (i := 5) (oi := ⟨some 33, _, _, _, _, none⟩) (v := ?v4) rfl (by kernel_rfl) (by kernel_rfl) (by kernel_rfl) (fun _ _ _ h => h) (Or.inl ⟨by rfl, ?hy4⟩) (by assumption) ?rest4
      case hy4 => (intro wS hSw; (try dsimp only at hSw); go_simp; (try with_reducible rfl))
      (try simp only [Act.put, List.setIfInBounds_toArray, List.set_cons_zero, List.set_cons_succ])
      refine wpAnyH_take (i := 6) (oi := ⟨some 34, _, _, _, _, none⟩) (v := ?v5) rfl (by kernel_rfl) (by kernel_rfl) (by kernel_rfl) (fun _ _ _ h => h) (Or.inl ⟨by rfl, ?hy5⟩) (by assumption) ?rest5
      case hy5 => (intro wS hSw; (try dsimp only at hSw); go_simp; (try with_reducible rfl))
      (try simp only [Act.put, List.setIfInBounds_toArray, List.set_cons_zero, List.set_cons_succ])
      refine wpAnyH_take (i := 7) (oi := ⟨some 35, _, _, _, _, some (6, false)⟩) (v := ?v6) rfl (by kernel_rfl) (by kernel_rfl) (by kernel_rfl) (fun _ _ _ h => h) (Or.inl ⟨by rfl, ?hy6⟩) (by assumption) ?rest6
      case hy6 => (intro wS hSw; (try dsimp only at hSw); go_simp; (try with_reducible rfl))
      (try simp only [Act.put, List.setIfInBounds_toArray, List.set_cons_zero, List.set_cons_succ])
      refine wpAnyH_take (i := 8) (oi := ⟨some 36, _, _, _, _, some (6, false)⟩) (v := ?v7) rfl (by kernel_rfl) (by kernel_rfl) (by kernel_rfl) (fun _ _ _ h => h) (Or.inl ⟨by rfl, ?hy7⟩) (by assumption) ?rest7
      case hy7 => (intro wS hSw; (try dsimp only at hSw); go_simp; (try with_reducible rfl))
      (try simp only [Act.put, List.setIfInBounds_toArray, List.set_cons_zero, List.set_cons_succ])
      refine wpAnyH_take (i := 10) (oi := ⟨some 38, _, _, _, _, some (6, false)⟩) (v := ?v8) rfl (by kernel_rfl) (by kernel_rfl) (by kernel_rfl) (fun _ _ _ h => h) (Or.inl ⟨by rfl, ?hy8⟩) (by assumption) ?rest8
      case hy8 => (intro wS hSw; (try dsimp only at hSw); go_simp; (try with_reducible rfl))
      (try simp only [Act.put, List.setIfInBounds_toArray, List.set_cons_zero, List.set_cons_succ])
      refine wpAnyH_take (i := 11) (oi := ⟨some 39, _, _, _, _, some (6, false)⟩) (v := ?v9) rfl (by kernel_rfl) (by kernel_rfl) (by kernel_rfl) (fun _ _ _ h => h) (Or.inl ⟨by rfl, ?hy9⟩) (by assumption) ?rest9
      case hy9 => (intro wS hSw; (try dsimp only at hSw); go_simp; (try with_reducible rfl))
      (try simp only [Act.put, List.setIfInBounds_toArray, List.set_cons_zero, List.set_cons_succ])
      refine wpAnyH_ready (rs := [9]) (by kernel_rfl) (by simp) ?_
      refine AllReadyH.cons (o := ⟨some 37, _, _, _, _, some (6, false)⟩) rfl (fun K hK => ?_) AllReadyH.nil
      go_simp
      go_at_call 17
      refine (t1.out _ hs5).mono ?_
      rintro e w6 ⟨rfl, s6, f6⟩
      have hc6 : ClB w6 g c := hc5.fr f6 (fun e => hgs0 e)
      have hT6 := hS5.fr f6 (fun e => hgsw e.symm) (fun q e => by rw [show q = gs from e]; unfold GeS; omega)
      have hz6 := f6.size
      obtain ⟨d0, d1, d2, _⟩ := hc6.facts
      go_wp2_with fail
      refine hK.out _ _ ⟨d0, d1, d2⟩ (fun hHeld => ?_)
      clear hK K
      (try simp only [Act.put, List.setIfInBounds_toArray, List.set_cons_zero, List.set_cons_succ])
      refine wpAnyH_ready (rs := [12]) (by kernel_rfl) (by simp) ?_
      refine AllReadyH.cons (o := ⟨some 40, _, _, _, _, some (6, false)⟩) rfl (fun K hK => ?_) AllReadyH.nil
      go_simp
      go_at_call 18
      refine (t2.out _ hT6 (by omega)).mono ?_
      rintro e w7 ⟨rfl, s7, f7⟩
      have hc7 : ClB w7 g c := hc6.fr f7 (fun e => hgw0 e)
      have hs7 := s6.fr f7 (fun e => hgsw e)
      obtain ⟨A7, k7, u0, u1, _⟩ := s7.cells
      obtain ⟨e0, e1, e2, _⟩ := hc7.facts
      go_wp2_with fail
      refine hK.out _ _ ⟨e0, e1, e2⟩ (fun hHeld => ?_)
      clear hK K
      (try simp only [Act.put, List.setIfInBounds_toArray, List.set_cons_zero, List.set_cons_succ])
      refine wpAnyH_more (S' := (fun W => W.cell? ⟨gw, 0, none⟩ = some (.slice A7 lx.length k7) ∧ W.cell? ⟨gw, 1, none⟩ = some (.bool bx) ∧ W.cell? ⟨g, 0, none⟩ = some (.bool c.null) ∧ W.cell? ⟨g, 1, none⟩ = some (.int .i64 c.num) ∧ W.cell? ⟨g, 2, none⟩ = some (.string ⟨c.txt.toArray⟩))) (fun W h => h.2.2) _ _ _ _ ?_
      have hMore := And.intro u0 (And.intro u1 hHeld)
      refine wpAnyH_take (i := 13) (oi := ⟨some 41, _, _, _, _, some (6, false)⟩) (v := ?v10) rfl (by kernel_rfl) (by kernel_rfl) (by kernel_rfl) (fun _ _ _ h => h) (Or.inl ⟨by rfl, ?hy10⟩) (by assumption) ?rest10
      case hy10 => (intro wS hSw; (try dsimp only at hSw); go_simp; (try with_reducible rfl))
      (try simp only [Act.put, List.setIfInBounds_toArray, List.set_cons_zero, List.set_cons_succ])
      refine wpAnyH_take (i := 14) (oi := ⟨some 42, _, _, _, _, none⟩) (v := ?v11) rfl (by kernel_rfl) (by kernel_rfl) (by kernel_rfl) (fun _ _ _ h => h) (Or.inl ⟨by rfl, ?hy11⟩) (by assumption) ?rest11
      case hy11 => (intro wS hSw; (try dsimp only at hSw); go_simp; (try with_reducible rfl))
      (try simp only [Act.put, List.setIfInBounds_toArray, List.set_cons_zero, List.set_cons_succ])
      refine wpAnyH_take (i := 15) (oi := ⟨some 43, _, _, _, _, none⟩) (v := ?v12) rfl (by kernel_rfl) (by kernel_rfl) (by kernel_rfl) (fun _ _ _ h => h) (Or.inl ⟨by rfl, ?hy12⟩) (by assumption) ?rest12
      case hy12 => (intro wS hSw; (try dsimp only at hSw); go_simp; (try with_reducible rfl))
      (try simp only [Act.put, List.setIfInBounds_toArray, List.set_cons_zero, List.set_cons_succ])
      refine wpAnyH_take (i := 16) (oi := ⟨some 44, _, _, _, _, some (15, false)⟩) (v := ?v13) rfl (by kernel_rfl) (by kernel_rfl) (by kernel_rfl) (fun _ _ _ h => h) (Or.inl ⟨by rfl, ?hy13⟩) (by assumption) ?rest13
      case hy13 => (intro wS hSw; (try dsimp only at hSw); go_simp; (try with_reducible rfl))
      (try simp only [Act.put, List.setIfInBounds_toArray, List.set_cons_zero, List.set_cons_succ])
      refine wpAnyH_take (i := 18) (oi := ⟨some 46, _, _, _, _, some (15, false)⟩) (v := ?v14) rfl (by kernel_rfl) (by kernel_rfl) (by kernel_rfl) (fun _ _ _ h => h) (Or.inl ⟨by rfl, ?hy14⟩) (by assumption) ?rest14
      case hy14 => (intro wS hSw; (try dsimp only at hSw); go_simp; (try with_reducible rfl))
      (try simp only [Act.put, List.setIfInBounds_toArray, List.set_cons_zero, List.set_cons_succ])
      refine wpAnyH_take (i := 19) (oi := ⟨some 47, _, _, _, _, some (15, false)⟩) (v := ?v15) rfl (by kernel_rfl) (by kernel_rfl) (by kernel_rfl) (fun _ _ _ h => h) (Or.inl ⟨by rfl, ?hy15⟩) (by assumption) ?rest15
      case hy15 => (intro wS hSw; (try dsimp only at hSw); go_simp; (try with_reducible rfl))
      (try simp only [Act.put, List.setIfInBounds_toArray, List.set_cons_zero, List.set_cons_succ])
      refine wpAnyH_take (i := 20) (oi := ⟨some 48, _, _, _, _, some (15, false)⟩) (v := ?v16) rfl (by kernel_rfl) (by kernel_rfl) (by kernel_rfl) (fun _ _ _ h => h) (Or.inl ⟨by rfl, ?hy16⟩) (by assumption) ?rest16
      case hy16 => (intro wS hSw; (try dsimp only at hSw); go_simp; (try with_reducible rfl))
      (try simp only [Act.put, List.setIfInBounds_toArray, List.set_cons_zero, List.set_cons_succ])
      refine wpAnyH_take (i := 21) (oi := ⟨some 49, _, _, _, _, some (15, false)⟩) (v := ?v17) rfl (by kernel_rfl) (by kernel_rfl) (by kernel_rfl) (fun _ _ _ h => h) (Or.inl ⟨by rfl, ?hy17⟩) (by assumption) ?rest17
      case hy17 => (intro wS hSw; (try dsimp only at hSw); go_simp; (try with_reducible rfl))
      (try simp only [Act.put, List.setIfInBounds_toArray, List.set_cons_zero, List.set_cons_succ])
      refine wpAnyH_ready (rs := [17]) (by kernel_rfl) (by simp) ?_
      refine AllReadyH.cons (o := ⟨some 45, _, _, _, _, some (15, false)⟩) rfl (fun K hK => ?_) AllReadyH.nil
      go_simp
      go_at_call 19
      refine (ok_any _ _ _ _ hs7).mono ?_
      rintro e w8 ⟨rfl, rfl⟩
      go_wp2_with fail
      refine hK.out _ _ hMore (fun hHeld => ?_)
      clear hK K
      (try simp only [Act.put, List.setIfInBounds_toArray, List.set_cons_zero, List.set_cons_succ])
      refine wpAnyH_take (i := 22) (oi := ⟨some 50, _, _, _, _, some (15, false)⟩) (v := ?v18) rfl (by kernel_rfl) (by kernel_rfl) (by kernel_rfl) (fun _ _ _ h => h) (Or.inl ⟨by rfl, ?hy18⟩) (by assumption) ?rest18
      case hy18 => (intro wS hSw; (try dsimp only at hSw); go_simp; (try with_reducible rfl))
      (try simp only [Act.put, List.setIfInBounds_toArray, List.set_cons_zero, List.set_cons_succ])
      refine wpAnyH_take (i := 23) (oi := ⟨some 51, _, _, _, _, none⟩) (v := ?v19) rfl (by kernel_rfl) (by kernel_rfl) (by kernel_rfl) (fun _ _ _ h => h) (Or.inl ⟨by rfl, ?hy19⟩) (by assumption) ?rest19
      case hy19 => (intro wS hSw; (try dsimp only at hSw); go_simp; (try with_reducible rfl))
      (try simp only [Act.put, List.setIfInBounds_toArray, List.set_cons_zero, List.set_cons_succ])
      refine wpAnyH_take (i := 24) (oi := ⟨some 52, _, _, _, _, none⟩) (v := ?v20) rfl (by kernel_rfl) (by kernel_rfl) (by kernel_rfl) (fun _ _ _ h => h) (Or.inl ⟨by rfl, ?hy20⟩) (by assumption) ?rest20
      case hy20 => (intro wS hSw; (try dsimp only at hSw); go_simp; (try with_reducible rfl))
      (try simp only [Act.put, List.setIfInBounds_toArray, List.set_cons_zero, List.set_cons_succ])
      refine wpAnyH_take (i := 25) (oi := ⟨some 53, _, _, _, _, some (24, false)⟩) (v := ?v21) rfl (by kernel_rfl) (by kernel_rfl) (by kernel_rfl) (fun _ _ _ h => h) (Or.inl ⟨by rfl, ?hy21⟩) (by assumption) ?rest21
      case hy21 => (intro wS hSw; (try dsimp only at hSw); go_simp; (try with_reducible rfl))
      (try simp only [Act.put, List.setIfInBounds_toArray, List.set_cons_zero, List.set_cons_succ])
      refine wpAnyH_take (i := 27) (oi := ⟨some 55, _, _, _, _, some (24, false)⟩) (v := ?v22) rfl (by kernel_rfl) (by kernel_rfl) (by kernel_rfl) (fun _ _ _ h => h) (Or.inl ⟨by rfl, ?hy22⟩) (by assumption) ?rest22
      case hy22 => (intro wS hSw; (try dsimp only at hSw); go_simp; (try with_reducible rfl))
      (try simp only [Act.put, List.setIfInBounds_toArray, List.set_cons_zero, List.set_cons_succ])
      refine wpAnyH_take (i := 28) (oi := ⟨some 56, _, _, _, _, some (24, false)⟩) (v := ?v23) rfl (by kernel_rfl) (by kernel_rfl) (by kernel_rfl) (fun _ _ _ h => h) (Or.inl ⟨by rfl, ?hy23⟩) (by assumption) ?rest23
      case hy23 => (intro wS hSw; (try dsimp only at hSw); go_simp; (try with_reducible rfl))
      (try simp only [Act.put, List.setIfInBounds_toArray, List.set_cons_zero, List.set_cons_succ])
      refine wpAnyH_take (i := 29) (oi := ⟨some 57, _, _, _, _, some (24, false)⟩) (v := ?v24) rfl (by kernel_rfl) (by kernel_rfl) (by kernel_rfl) (fun _ _ _ h => h) (Or.inl ⟨by rfl, ?hy24⟩) (by assumption) ?rest24
      case hy24 => (intro wS hSw; (try dsimp only at hSw); go_simp; (try with_reducible rfl))
      (try simp only [Act.put, List.setIfInBounds_toArray, List.set_cons_zero, List.set_cons_succ])
      refine wpAnyH_take (i := 30) (oi := ⟨some 58, _, _, _, _, some (24, false)⟩) (v := ?v25) rfl (by kernel_rfl) (by kernel_rfl) (by kernel_rfl) (fun _ _ _ h => h) (Or.inl ⟨by rfl, ?hy25⟩) (by assumption) ?rest25
      case hy25 => (intro wS hSw; (try dsimp only at hSw); go_simp; (try with_reducible rfl))
      (try simp only [Act.put, List.setIfInBounds_toArray, List.set_cons_zero, List.set_cons_succ])
      refine wpAnyH_take (i := 31) (oi := ⟨some 59, _, _, _, _, some (24, false)⟩) (v := ?v26) rfl (by kernel_rfl) (by kernel_rfl) (by kernel_rfl) (fun _ _ _ h => h) (Or.inl ⟨by rfl, ?hy26⟩) (by assumption) ?rest26
      case hy26 => (intro wS hSw; (try dsimp only at hSw); go_simp; (try with_reducible rfl))
      (try simp only [Act.put, List.setIfInBounds_toArray, List.set_cons_zero, List.set_cons_succ])
      refine wpAnyH_ready (rs := [26]) (by kernel_rfl) (by simp) ?_
      refine AllReadyH.cons (o := ⟨some 54, _, _, _, _, some (24, false)⟩) rfl (fun K hK => ?_) AllReadyH.nil
      go_simp
      go_at_call 20
      refine (left_any _ _ _ _ hs7).mono ?_
      rintro e w8 ⟨rfl, rfl⟩
      go_wp2_with fail
      refine hK.out _ _ hMore (fun hHeld => ?_)
      clear hK K
      (try simp only [Act.put, List.setIfInBounds_toArray, List.set_cons_zero, List.set_cons_succ])
      refine wpAnyH_take (i := 32) (oi := ⟨some 60, _, _, _, _, some (24, false)⟩) (v := ?v27) rfl (by kernel_rfl) (by kernel_rfl) (by kernel_rfl) (fun _ _ _ h => h) (Or.inl ⟨by rfl, ?hy27⟩) (by assumption) ?rest27
      case hy27 => (intro wS hSw; (try dsimp only at hSw); go_simp; (try with_reducible rfl))
      (try simp only [Act.put, List.setIfInBounds_toArray, List.set_cons_zero, List.set_cons_succ])
      refine wpAnyH_take (i := 33) (oi := ⟨some 61, _, _, _, _, none⟩) (v := ?v28) rfl (by kernel_rfl) (by kernel_rfl) (by kernel_rfl) (fun _ _ _ h => h) (Or.inl ⟨by rfl, ?hy28⟩) (by assumption) ?rest28
      case hy28 => (intro wS hSw; (try dsimp only at hSw); go_simp; (try with_reducible rfl))
      (try simp only [Act.put, List.setIfInBounds_toArray, List.set_cons_zero, List.set_cons_succ])
      refine wpAnyH_done (by kernel_rfl) ?_ _
      go_wp2_with fail
      have F5 := (hFD.trans f5)
      have F7 : Fr Non w w7 := (F5.fresh f6 (fun q e => by rw [show q = gs from e]; omega)).fresh f7 (fun q e => by rw [show q = gw from e]; omega)
      cases hm : mayC ty true c
      · have M := m1.out w7
        rw [hm] at M
        refine M.mono ?_
        rintro e w8 ⟨rfl, f8⟩
        go_wp2_with fail
        refine (cellive_any _).mono ?_
        rintro e w9 ⟨rfl, f9⟩
        go_wp2
        go_ret
        exact ⟨rfl, ((F7.trans f8).trans f9).below⟩
      · have M := m1.out w7
        rw [hm] at M
        have HTk := Lib.hid (tkC_own HOk.out hm [])
        refine M.mono ?_
        rintro e w8 ⟨rfl, f8⟩
        have hx8 := (((hxD.non f5).fr f6 (fun q hq e => hx2g q hq e)).fr f7 (fun q hq e => hx2w q hq e)).non f8
        have hc8 : ClB w8 g c := hc7.fr f8 (fun e => e)
        go_wp2_with fail
        refine (from_any _ _ w8 hx8).mono ?_
        rintro e w9 ⟨rfl, s9, f9⟩
        have hc9 : ClB w9.drew g c := (show ClB w9 g c from hc8.fr f9 (fun e => e))
        have F9 : Fr Non w w9.drew := ((F7.trans f8).trans f9).drew
        have hg9 : g < w8.heap.size := hc8.lt
        have hgn : g ≠ w8.heap.size := by omega
        have hTk := fun W (h : Src W w8.heap.size (cellB ty c) false) => ctake_any w8.heap.size (cellB ty c) false ty W h
        rw [show cellB ty c = cellB ty c ++ [] by simp, HTk.out] at hTk
        rw [List.append_nil] at hTk
        dsimp only at hTk
        unfold clV clC at hTk
        have t3 := Lib.hid hTk
        have s9D : Src w9.drew w8.heap.size (cellB ty c) false := s9
        clear hTk a0 a1 a2 b0 b1 b2 d0 d1 d2 e0 e1 e2 u0 u1 hMore hHeld
        generalize hgb : w8.heap.size = gb at *
        obtain ⟨a0, a1, a2, _⟩ := hc9.facts
        go_wp2
        refine wp_region_held_drew (S := (fun W => W.cell? ⟨g, 0, none⟩ = some (.bool c.null) ∧ W.cell? ⟨g, 1, none⟩ = some (.int .i64 c.num) ∧ W.cell? ⟨g, 2, none⟩ = some (.string ⟨c.txt.toArray⟩))) (by kernel_rfl) ⟨a0, a1, a2⟩ (fun hHeld => ?_)
        refine wpAnyH_take (i := 0) (oi := ⟨some 69, _, _, _, _, none⟩) (v := ?v29) rfl (by kernel_rfl) (by kernel_rfl) (by kernel_rfl) (fun _ _ _ h => h) (Or.inl ⟨by rfl, ?hy29⟩) (by assumption) ?rest29
        case hy29 => (intro wS hSw; (try dsimp only at hSw); go_simp; (try with_reducible rfl))
        (try simp only [Act.put, List.setIfInBounds_toArray, List.set_cons_zero, List.set_cons_succ])
        refine wpAnyH_take (i := 1) (oi := ⟨some 70, _, _, _, _, none⟩) (v := ?v30) rfl (by kernel_rfl) (by kernel_rfl) (by kernel_rfl) (fun _ _ _ h => h) (Or.inl ⟨by rfl, ?hy30⟩) (by assumption) ?rest30
        case hy30 => (intro wS hSw; (try dsimp only at hSw); go_simp; (try with_reducible rfl))
        (try simp only [Act.put, List.setIfInBounds_toArray, List.set_cons_zero, List.set_cons_succ])
        refine wpAnyH_take (i := 3) (oi := ⟨some 72, _, _, _, _, none⟩) (v := ?v31) rfl (by kernel_rfl) (by kernel_rfl) (by kernel_rfl) (fun _ _ _ h => h) (Or.inl ⟨by rfl, ?hy31⟩) (by assumption) ?rest31
        case hy31 => (intro wS hSw; (try dsimp only at hSw); go_simp; (try with_reducible rfl))
        (try simp only [Act.put, List.setIfInBounds_toArray, List.set_cons_zero, List.set_cons_succ])
        refine wpAnyH_ready (rs := [2]) (by kernel_rfl) (by simp) ?_
        refine AllReadyH.cons (o := ⟨some 71, _, _, _, _, none⟩) rfl (fun K hK => ?_) AllReadyH.nil
        go_simp
        go_at_call 17
        refine (t3.out _ s9D).mono ?_
        rintro e w10 ⟨rfl, s10, f10⟩
        have hc10 : ClB w10 g c := hc9.fr f10 (fun e => hgn e)
        obtain ⟨b0, b1, b2, _⟩ := hc10.facts
        go_wp2_with fail
        refine hK.out _ _ ⟨b0, b1, b2⟩ (fun hHeld => ?_)
        clear hK K
        (try simp only [Act.put, List.setIfInBounds_toArray, List.set_cons_zero, List.set_cons_succ])
        refine wpAnyH_take (i := 4) (oi := ⟨some 73, _, _, _, _, none⟩) (v := ?v32) rfl (by kernel_rfl) (by kernel_rfl) (by kernel_rfl) (fun _ _ _ h => h) (Or.inl ⟨by rfl, ?hy32⟩) (by assumption) ?rest32
        case hy32 => (intro wS hSw; (try dsimp only at hSw); go_simp; (try with_reducible rfl))
        (try simp only [Act.put, List.setIfInBounds_toArray, List.set_cons_zero, List.set_cons_succ])
        refine wpAnyH_take (i := 5) (oi := ⟨some 74, _, _, _, _, none⟩) (v := ?v33) rfl (by kernel_rfl) (by kernel_rfl) (by kernel_rfl) (fun _ _ _ h => h) (Or.inl ⟨by rfl, ?hy33⟩) (by assumption) ?rest33
        case hy33 => (intro wS hSw; (try dsimp only at hSw); go_simp; (try with_reducible rfl))
        (try simp only [Act.put, List.setIfInBounds_toArray, List.set_cons_zero, List.set_cons_succ])
        refine wpAnyH_take (i := 6) (oi := ⟨some 75, _, _, _, _, some (5, true)⟩) (v := ?v34) rfl (by kernel_rfl) (by kernel_rfl) (by kernel_rfl) (fun _ _ _ h => h) (Or.inl ⟨by rfl, ?hy34⟩) (by assumption) ?rest34
        case hy34 => (intro wS hSw; (try dsimp only at hSw); go_simp; (try with_reducible rfl))
        (try simp only [Act.put, List.setIfInBounds_toArray, List.set_cons_zero, List.set_cons_succ])
        refine wpAnyH_ready (rs := [7]) (by kernel_rfl) (by simp) ?_
        refine AllReadyH.cons (o := ⟨some 76, _, _, _, _, some (5, true)⟩) rfl (fun K hK => ?_) AllReadyH.nil
        go_simp
        go_at_call 21
        refine (end_any _ _ _ _ s10).mono ?_
        rintro e w11 ⟨rfl, rfl⟩
        go_wp2_with fail
        refine hK.out _ _ ⟨b0, b1, b2⟩ (fun hHeld => ?_)
        clear hK K
        (try simp only [Act.put, List.setIfInBounds_toArray, List.set_cons_zero, List.set_cons_succ])
        refine wpAnyH_take (i := 8) (oi := ⟨some 77, _, _, _, _, none⟩) (v := ?v35) rfl (by kernel_rfl) (by kernel_rfl) (by kernel_rfl) (fun _ _ _ h => h) (Or.inl ⟨by rfl, ?hy35⟩) (by assumption) ?rest35
        case hy35 => (intro wS hSw; (try dsimp only at hSw); go_simp; (try with_reducible rfl))
        (try simp only [Act.put, List.setIfInBounds_toArray, List.set_cons_zero, List.set_cons_succ])
        refine wpAnyH_take (i := 9) (oi := ⟨some 78, _, _, _, _, none⟩) (v := ?v36) rfl (by kernel_rfl) (by kernel_rfl) (by kernel_rfl) (fun _ _ _ h => h) (Or.inl ⟨by rfl, ?hy36⟩) (by assumption) ?rest36
        case hy36 => (intro wS hSw; (try dsimp only at hSw); go_simp; (try with_reducible rfl))
        (try simp only [Act.put, List.setIfInBounds_toArray, List.set_cons_zero, List.set_cons_succ])
        have f10' := F9.fresh f10 (fun q e => by rw [show q = gb from e]; omega)
        refine wpAnyH_ready (rs := [10]) (by kernel_rfl) (by simp) ?_
        refine AllReadyH.cons (o := ⟨some 79, _, _, _, _, some (9, true)⟩) rfl (fun K hK => ?_) AllReadyH.nil
        go_simp
        go_at_call 7
        refine (cellive_any _).mono ?_
        rintro e w12 ⟨rfl, f12⟩
        have hc12 : ClB w12 g c := hc10.fr f12 (fun e => e)
        obtain ⟨d0, d1, d2, _⟩ := hc12.facts
        go_wp2_with fail
        refine hK.out _ _ ⟨d0, d1, d2⟩ (fun hHeld => ?_)
        clear hK K
        (try simp only [Act.put, List.setIfInBounds_toArray, List.set_cons_zero, List.set_cons_succ])
        refine wpAnyH_take (i := 11) (oi := ⟨some 80, _, _, _, _, none⟩) (v := ?v37) rfl (by kernel_rfl) (by kernel_rfl) (by kernel_rfl) (fun _ _ _ h => h) (Or.inl ⟨by rfl, ?hy37⟩) (by assumption) ?rest37
        case hy37 => (intro wS hSw; (try dsimp only at hSw); go_simp; (try with_reducible rfl))
        (try simp only [Act.put, List.setIfInBounds_toArray, List.set_cons_zero, List.set_cons_succ])
        refine wpAnyH_take (i := 12) (oi := ⟨some 6, _, _, _, _, none⟩) (v := ?v38) rfl (by kernel_rfl) (by kernel_rfl) (by kernel_rfl) (fun _ _ _ h => h) (Or.inl ⟨by rfl, ?hy38⟩) (by assumption) ?rest38
        case hy38 => (intro wS hSw; (try dsimp only at hSw); go_simp; (try with_reducible rfl))
        (try simp only [Act.put, List.setIfInBounds_toArray, List.set_cons_zero, List.set_cons_succ])
        refine wpAnyH_done (by kernel_rfl) ?_ _
        go_wp2
        go_ret
        exact ⟨rfl, (f10'.trans f12).below⟩
    · clear hs1 hcl
      have hb' : ¬ (b.length : Int) ≤ 200 := by omega
      go_enter Try.func4, Try.ntmps4
      go_wp2_with fail
      refine (s1 _).mono ?_
      rintro e w1 ⟨rfl, f1⟩
      go_wp2_with fail
      refine (cellive_any _).mono ?_
      rintro e w9 ⟨rfl, f9⟩
      go_wp2
      go_ret
      exact ⟨rfl, ((HF0.trans f1).trans f9).below⟩
  · rw [decide_eq_false hs1] at s1
    clear hs1 hcl
    go_enter Try.func4, Try.ntmps4
    go_wp2_with fail
    refine (s1 _).mono ?_
    rintro e w1 ⟨rfl, f1⟩
    go_wp2_with fail
    refine (cellive_any _).mono ?_
    rintro e w9 ⟨rfl, f9⟩
    go_wp2
    go_ret
    exact ⟨rfl, ((HF0.trans f1).trans f9).below⟩
end Go.Proofs.Ytkmgplgokhjmjaa
