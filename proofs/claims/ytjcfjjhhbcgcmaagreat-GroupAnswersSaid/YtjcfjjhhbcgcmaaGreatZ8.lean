/-
  Joined: Pred7
-/
import Derived.Lib.Zigzag
import Derived.Deep.QuietTactic
import Derived.BigQuiet
import Derived.Deep.RegionHeld3
import Derived.Deep.DrawnRows
import Derived.Shelf.Strings.Replace
import Derived.Shelf.Strconv.Itoa4
import Derived.Shelf.Strings.OnBuilder
import Derived.Test.YtjcfjjhhbcgcmaaGreatProg
import Derived.Lib.SmallJoins
import Derived.Lib.AppendIntMem
import Derived.Laws.StructEq
import Derived.Laws.Rows
import Derived.Laws.ResultCell
import Derived.Deep.RegionWith
import Derived.Test.YtjcfjjhhbcgcmaaGreatZ6
import Derived.Test.YtjcfjjhhbcgcmaaGreatZ7
set_option linter.unusedVariables false
set_option linter.unusedSimpArgs false
set_option maxRecDepth 100000
namespace Go.Proofs.YtjcfjjhhbcgcmaaGreat
open Go.RowKit
set_option maxHeartbeats 8000000 in
theorem rone5_any (h0_ : Ph) (ks : List Pd) (t : Kv) (w : World) (hop : h0_.op = 5) (hk : Kd w t ks) (hl : ks.length ≤ 1000) (hcl : h0_.col.length ≤ 1000)
    (IH : Hid (∀ k (h : k < ks.length) (W : World) (t' : Kv), Kd W t' ks[k].kids → Calls Tryz.prog 109 #[pdV ks[k].hd t'] W fun e w' => e = .returned (.bool (oneP ks[k])) ∧ Fr Non W w')) :
    Calls Tryz.prog 109 #[pdV h0_ t] w fun e w' => e = .returned (.bool (oneP (.mk h0_ ks))) ∧ Fr Non w w' := by
  have hn : t.n = ks.length := hk.len
  have N1 := Lib.hid (fun W => rname_any h0_.col W (by omega))
  have M1 := Lib.hid (fun W => rmay_any h0_.kind false h0_.val W)
  have HE := Lib.hid (one_base h0_ ks t.n hn)
  generalize oneP (.mk h0_ ks) = r at *
  have HK : Hid (Kd w t ks) := Lib.hid hk
  have PB0 : Hid (∀ b d, PdB (((w.alloc (.cells (pdC h0_ t) 28)).alloc b).alloc d) w.heap.size h0_ t) := Lib.hid (fun b d => (pd_new w _ h0_ t rfl).fr (((Fr.refl Non _).alloc b).alloc d) (fun e => e))
  obtain ⟨op, col, cmp, ⟨vn, vi, vt⟩, kind, pat⟩ := h0_
  obtain ⟨A, n, c⟩ := t
  dsimp only at hn hop hcl HE
  have HL := Lib.hid hn
  have hn20 : n ≤ 1000 := by omega
  have hs := slen pat
  clear hn hk hl
  unfold pdV pdC kidV
  unfold clV clC at M1
  dsimp only at *
  subst hop
  have FL := Lib.hid (fun W => flat_any ⟨5, col, cmp, ⟨vn, vi, vt⟩, kind, pat⟩ ⟨5, [], 0, zCl, 0, []⟩ noKv noKv W)
  have HE0 : Hid (r = (baseOk ⟨5, col, cmp, ⟨vn, vi, vt⟩, kind, pat⟩ n && ks.all (okk 5))) := HE
  clear HE
  unfold pdV pdC kidV noKv at FL
  replace HE0 : Hid (r = (decide (n = 1) && peq ⟨5, col, cmp, ⟨vn, vi, vt⟩, kind, pat⟩ ⟨5, [], 0, zCl, 0, []⟩ && ks.all (okk 5))) := HE0
  generalize peq ⟨5, col, cmp, ⟨vn, vi, vt⟩, kind, pat⟩ ⟨5, [], 0, zCl, 0, []⟩ = q at *
  unfold zCl at FL
  dsimp only at FL
  clear N1 M1
  by_cases h0 : n = 1
  · subst h0
    have HE1 : Hid (r = (q && ks.all (okk 5))) := Lib.hid (by rw [HE0.out]; simp)
    clear HE0
    have HE0 := HE1
    clear HE1
    go_enter Tryz.func109, Tryz.ntmps109
    go_wp2_with fail
    refine (FL.out _).mono ?_
    rintro e w1 ⟨rfl, f1⟩
    have F1 := Lib.hid ((((((Fr.refl Non w).alloc _).alloc _).alloc _)).trans f1)
    have PB := Lib.hid (((PB0.out _ _)).fr f1 (fun e => e))
    have HK1 := HK
    obtain ⟨g0, g1, g2, g3, g4, g5, g6, g7, g8⟩ := pdB_cells PB.out
    dsimp only at g0 g1 g2 g3 g4 g5 g6 g7 g8
    clear f1 HK1
    cases q
    · go_wp2
      go_ret
      exact ⟨ret_boolE (by rw [HE0.out]; simp), F1.out⟩
    · have HE : Hid (r = ks.all (okk 5)) := Lib.hid (by rw [HE0.out]; simp)
      clear HE0
      go_wp2
      go_loopw [5] (fun i wr => ∃ k : Nat, k ≤ 1 ∧ i = .int .i64 k ∧ Hid (∀ j (h : j < ks.length), j < k → okk 5 ks[j] = true) ∧ Hid (Fr Non w1 wr)) (fun i _ => 1 - (intOf i).toNat)
      case atStart => exact ⟨0, Nat.zero_le _, rfl, Lib.hid (fun _ _ h => by omega), Lib.hid (Fr.refl _ _)⟩
      case round =>
        clear g0 g1 g2 g3 g4 g5 g6 g7 g8
        obtain ⟨k, hk, rfl, HT, FR⟩ := hrel
        have FW := Lib.hid (F1.out.trans FR.out)
        by_cases hlt : k < 1
        · have hlt2 : k < ks.length := by have := HL.out; omega
          obtain ⟨a, t, hA, hc2, hkk, _⟩ := HK.out.elN FW.out.drew k hlt2
          have HCw := Lib.hid (IH.out k hlt2 wr.drew t (hkk.non FW.out.drew))
          obtain ⟨b0, b1, b2, b3, b4, b5, b6, b7, b8⟩ := pdB_cells (PB.out.fr FR.out (fun e => e))
          have HY := Lib.hid (fun e => okk_more (op := 5) HT.out hlt2 e)
          have HX := Lib.hid (fun e => all_no (op := 5) hlt2 e)
          dsimp only at hA b0 b8
          subst hA
          have q0 : wr.drew.cell? ⟨w.heap.size, 0, none⟩ = _ := b0
          have q1 : wr.drew.cell? ⟨w.heap.size, 8, none⟩ = _ := b8
          obtain ⟨q2, q3, q4, q5, q6, q7, q8, q9, q10⟩ := hc2
          clear hkk HT b1 b2 b3 b4 b5 b6 b7
          have HD : Hid (okk 5 ks[k] = (oneP ks[k] && !(decide (6 ≤ (5 : Int)) && ks[k].hd.op == 5))) := Lib.hid rfl
          generalize ho : oneP ks[k] = b at *
          generalize okk 5 ks[k] = bb at *
          clear ho
          generalize ks[k].hd = x at *
          obtain ⟨xo, xc, xm, ⟨xn, xi, xt⟩, xk, xp⟩ := x
          obtain ⟨tA, tn, tc⟩ := t
          unfold pdV pdC kidV at HCw
          dsimp only at HCw q2 q3 q4 q5 q6 q7 q8 q9 q10 HD
          cases b
          · have HE2 := Lib.hid (HX.out (by rw [HD.out]; rfl))
            have HC := HCw
            clear HX HY HCw HD
            go_wp2
            refine wp_region_held_drew (S := (fun W => W.cell? ⟨w.heap.size, 0, none⟩ = some (.int .i64 5) ∧ W.cell? ⟨w.heap.size, 8, none⟩ = some (.slice (some a) 1 c) ∧ W.cell? (a.add (k * 9)) = some (.int .i64 xo) ∧ W.cell? { block := (a.add (k * 9)).block, off := (a.add (k * 9)).off + 1 } = some (.string ⟨xc.toArray⟩) ∧ W.cell? { block := (a.add (k * 9)).block, off := (a.add (k * 9)).off + 2 } = some (.int .i64 xm) ∧ W.cell? { block := (a.add (k * 9)).block, off := (a.add (k * 9)).off + 3 } = some (.bool xn) ∧ W.cell? { block := (a.add (k * 9)).block, off := (a.add (k * 9)).off + 4 } = some (.int .i64 xi) ∧ W.cell? { block := (a.add (k * 9)).block, off := (a.add (k * 9)).off + 5 } = some (.string ⟨xt.toArray⟩) ∧ W.cell? { block := (a.add (k * 9)).block, off := (a.add (k * 9)).off + 6 } = some (.int .i64 xk) ∧ W.cell? { block := (a.add (k * 9)).block, off := (a.add (k * 9)).off + 7 } = some (.string ⟨xp.toArray⟩) ∧ W.cell? { block := (a.add (k * 9)).block, off := (a.add (k * 9)).off + 8 } = some (.slice tA tn tc))) (by kernel_rfl) (by exact ⟨q0, q1, q2, q3, q4, q5, q6, q7, q8, q9, q10⟩) (fun hHeld => ?_)
            refine wpAnyH_take (i := 0) (oi := ⟨some 115, _, _, _, _, none⟩) (v := ?v1) rfl (by kernel_rfl) (by kernel_rfl) (by kernel_rfl) (fun _ _ _ h => h) (Or.inl ⟨by rfl, ?hy1⟩) (by assumption) ?rest1
            case hy1 => (intro wS hSw; (try dsimp only at hSw); go_simp; (try with_reducible rfl))
            (try simp only [Act.put, zA, zB, zC])
            refine wpAnyH_take (i := 1) (oi := ⟨some 116, _, _, _, _, none⟩) (v := ?v2) rfl (by kernel_rfl) (by kernel_rfl) (by kernel_rfl) (fun _ _ _ h => h) (Or.inl ⟨by rfl, ?hy2⟩) (by assumption) ?rest2
            case hy2 => (intro wS hSw; (try dsimp only at hSw); go_simp; (try with_reducible rfl))
            (try simp only [Act.put, zA, zB, zC])
            refine wpAnyH_take (i := 2) (oi := ⟨some 117, _, _, _, _, none⟩) (v := ?v3) rfl (by kernel_rfl) (by kernel_rfl) (by kernel_rfl) (fun _ _ _ h => h) (Or.inl ⟨by rfl, ?hy3⟩) (by assumption) ?rest3
            case hy3 => (intro wS hSw; (try dsimp only at hSw); go_simp; (try with_reducible rfl))
            (try simp only [Act.put, zA, zB, zC])
            refine wpAnyH_take (i := 3) (oi := ⟨some 118, _, _, _, _, none⟩) (v := ?v4) rfl (by kernel_rfl) (by kernel_rfl) (by kernel_rfl) (fun _ _ _ h => h) (Or.inl ⟨by rfl, ?hy4⟩) (by assumption) ?rest4
            case hy4 => (intro wS hSw; (try dsimp only at hSw); go_simp; (try with_reducible rfl))
            (try simp only [Act.put, zA, zB, zC])
            refine wpAnyH_take (i := 4) (oi := ⟨some 119, _, _, _, _, none⟩) (v := ?v5) rfl (by kernel_rfl) (by kernel_rfl) (by kernel_rfl) (fun _ _ _ h => h) (Or.inl ⟨by rfl, ?hy5⟩) (by assumption) ?rest5
            case hy5 => (intro wS hSw; (try dsimp only at hSw); go_simp; (try with_reducible rfl))
            (try simp only [Act.put, zA, zB, zC])
            refine wpAnyH_ready (rs := [5]) (by kernel_rfl) (by simp) ?_
            refine AllReadyH.cons (o := ⟨some 120, _, _, _, _, none⟩) rfl (fun K hK => ?_) AllReadyH.nil
            go_simp
            go_at_call 109
            (with_reducible refine HC.out.mono ?_)
            rintro e w3 ⟨rfl, f3⟩
            have u0 := (f3.cell (World.block_lt_of_cell? _ _ q0) (fun e => e)).trans q0
            have u1 := (f3.cell (World.block_lt_of_cell? _ _ q1) (fun e => e)).trans q1
            have u2 := (f3.cell (World.block_lt_of_cell? _ _ q2) (fun e => e)).trans q2
            have u3 := (f3.cell (World.block_lt_of_cell? _ _ q3) (fun e => e)).trans q3
            have u4 := (f3.cell (World.block_lt_of_cell? _ _ q4) (fun e => e)).trans q4
            have u5 := (f3.cell (World.block_lt_of_cell? _ _ q5) (fun e => e)).trans q5
            have u6 := (f3.cell (World.block_lt_of_cell? _ _ q6) (fun e => e)).trans q6
            have u7 := (f3.cell (World.block_lt_of_cell? _ _ q7) (fun e => e)).trans q7
            have u8 := (f3.cell (World.block_lt_of_cell? _ _ q8) (fun e => e)).trans q8
            have u9 := (f3.cell (World.block_lt_of_cell? _ _ q9) (fun e => e)).trans q9
            have u10 := (f3.cell (World.block_lt_of_cell? _ _ q10) (fun e => e)).trans q10
            go_wp2_with fail
            refine hK.out _ _ (by exact ⟨u0, u1, u2, u3, u4, u5, u6, u7, u8, u9, u10⟩) (fun hHeld => ?_)
            clear hK K
            (try simp only [Act.put, zA, zB, zC])
            refine wpAnyH_take (i := 6) (oi := ⟨some 121, _, _, _, _, none⟩) (v := ?v6) rfl (by kernel_rfl) (by kernel_rfl) (by kernel_rfl) (fun _ _ _ h => h) (Or.inl ⟨by rfl, ?hy6⟩) (by assumption) ?rest6
            case hy6 => (intro wS hSw; (try dsimp only at hSw); go_simp; (try with_reducible rfl))
            (try simp only [Act.put, zA, zB, zC])
            refine wpAnyH_take (i := 7) (oi := ⟨some 122, _, _, _, _, none⟩) (v := ?v7) rfl (by kernel_rfl) (by kernel_rfl) (by kernel_rfl) (fun _ _ _ h => h) (Or.inl ⟨by rfl, ?hy7⟩) (by assumption) ?rest7
            case hy7 => (intro wS hSw; (try dsimp only at hSw); go_simp; (try with_reducible rfl))
            (try simp only [Act.put, zA, zB, zC])
            refine wpAnyH_take (i := 8) (oi := ⟨some 123, _, _, _, _, some (7, false)⟩) (v := undef) rfl (by kernel_rfl) (by kernel_rfl) (by kernel_rfl) (fun _ _ _ h => h) (Or.inr ⟨by rfl, rfl⟩) (by assumption) ?_
            (try simp only [Act.put, zA, zB, zC])
            refine wpAnyH_take (i := 9) (oi := ⟨some 124, _, _, _, _, some (7, false)⟩) (v := undef) rfl (by kernel_rfl) (by kernel_rfl) (by kernel_rfl) (fun _ _ _ h => h) (Or.inr ⟨by rfl, rfl⟩) (by assumption) ?_
            (try simp only [Act.put, zA, zB, zC])
            refine wpAnyH_take (i := 10) (oi := ⟨some 125, _, _, _, _, some (7, false)⟩) (v := undef) rfl (by kernel_rfl) (by kernel_rfl) (by kernel_rfl) (fun _ _ _ h => h) (Or.inr ⟨by rfl, rfl⟩) (by assumption) ?_
            (try simp only [Act.put, zA, zB, zC])
            refine wpAnyH_take (i := 11) (oi := ⟨some 126, _, _, _, _, some (7, false)⟩) (v := undef) rfl (by kernel_rfl) (by kernel_rfl) (by kernel_rfl) (fun _ _ _ h => h) (Or.inr ⟨by rfl, rfl⟩) (by assumption) ?_
            (try simp only [Act.put, zA, zB, zC])
            refine wpAnyH_take (i := 12) (oi := ⟨some 127, _, _, _, _, some (11, true)⟩) (v := undef) rfl (by kernel_rfl) (by kernel_rfl) (by kernel_rfl) (fun _ _ _ h => h) (Or.inr ⟨by rfl, rfl⟩) (by assumption) ?_
            (try simp only [Act.put, zA, zB, zC])
            refine wpAnyH_take (i := 13) (oi := ⟨some 128, _, _, _, _, some (11, true)⟩) (v := undef) rfl (by kernel_rfl) (by kernel_rfl) (by kernel_rfl) (fun _ _ _ h => h) (Or.inr ⟨by rfl, rfl⟩) (by assumption) ?_
            (try simp only [Act.put, zA, zB, zC])
            refine wpAnyH_take (i := 14) (oi := ⟨some 129, _, _, _, _, some (11, true)⟩) (v := undef) rfl (by kernel_rfl) (by kernel_rfl) (by kernel_rfl) (fun _ _ _ h => h) (Or.inr ⟨by rfl, rfl⟩) (by assumption) ?_
            (try simp only [Act.put, zA, zB, zC])
            refine wpAnyH_take (i := 15) (oi := ⟨some 130, _, _, _, _, some (11, true)⟩) (v := undef) rfl (by kernel_rfl) (by kernel_rfl) (by kernel_rfl) (fun _ _ _ h => h) (Or.inr ⟨by rfl, rfl⟩) (by assumption) ?_
            (try simp only [Act.put, zA, zB, zC])
            refine wpAnyH_take (i := 16) (oi := ⟨some 131, _, _, _, _, some (11, true)⟩) (v := undef) rfl (by kernel_rfl) (by kernel_rfl) (by kernel_rfl) (fun _ _ _ h => h) (Or.inr ⟨by rfl, rfl⟩) (by assumption) ?_
            (try simp only [Act.put, zA, zB, zC])
            refine wpAnyH_take (i := 17) (oi := ⟨some 132, _, _, _, _, some (11, true)⟩) (v := undef) rfl (by kernel_rfl) (by kernel_rfl) (by kernel_rfl) (fun _ _ _ h => h) (Or.inr ⟨by rfl, rfl⟩) (by assumption) ?_
            (try simp only [Act.put, zA, zB, zC])
            refine wpAnyH_take (i := 18) (oi := ⟨some 133, _, _, _, _, some (11, true)⟩) (v := undef) rfl (by kernel_rfl) (by kernel_rfl) (by kernel_rfl) (fun _ _ _ h => h) (Or.inr ⟨by rfl, rfl⟩) (by assumption) ?_
            (try simp only [Act.put, zA, zB, zC])
            refine wpAnyH_take (i := 19) (oi := ⟨some 134, _, _, _, _, some (11, true)⟩) (v := undef) rfl (by kernel_rfl) (by kernel_rfl) (by kernel_rfl) (fun _ _ _ h => h) (Or.inr ⟨by rfl, rfl⟩) (by assumption) ?_
            (try simp only [Act.put, zA, zB, zC])
            refine wpAnyH_take (i := 20) (oi := ⟨some 135, _, _, _, _, some (11, true)⟩) (v := undef) rfl (by kernel_rfl) (by kernel_rfl) (by kernel_rfl) (fun _ _ _ h => h) (Or.inr ⟨by rfl, rfl⟩) (by assumption) ?_
            (try simp only [Act.put, zA, zB, zC])
            refine wpAnyH_take (i := 21) (oi := ⟨some 136, _, _, _, _, some (7, false)⟩) (v := undef) rfl (by kernel_rfl) (by kernel_rfl) (by kernel_rfl) (fun _ _ _ h => h) (Or.inr ⟨by rfl, rfl⟩) (by assumption) ?_
            (try simp only [Act.put, zA, zB, zC])
            refine wpAnyH_take (i := 22) (oi := ⟨some 137, _, _, _, _, none⟩) (v := ?v8) rfl (by kernel_rfl) (by kernel_rfl) (by kernel_rfl) (fun _ _ _ h => h) (Or.inl ⟨by rfl, ?hy8⟩) (by assumption) ?rest8
            case hy8 => (intro wS hSw; (try dsimp only at hSw); go_simp; (try with_reducible rfl))
            (try simp only [Act.put, zA, zB, zC])
            refine wpAnyH_done (by kernel_rfl) ?_ _
            clear q0 u0 q1 u1 q2 u2 q3 u3 q4 u4 q5 u5 q6 u6 q7 u7 q8 u8 q9 u9 q10 u10
            go_wp2
            go_ret
            exact ⟨ret_boolE (by rw [HE.out, HE2.out]), FW.out.drew.trans f3⟩
          · have HE2 := Lib.hid (HY.out (by rw [HD.out]; rfl))
            have HC := HCw
            clear HX HY HCw HD
            go_wp2
            refine wp_region_held_drew (S := (fun W => W.cell? ⟨w.heap.size, 0, none⟩ = some (.int .i64 5) ∧ W.cell? ⟨w.heap.size, 8, none⟩ = some (.slice (some a) 1 c) ∧ W.cell? (a.add (k * 9)) = some (.int .i64 xo) ∧ W.cell? { block := (a.add (k * 9)).block, off := (a.add (k * 9)).off + 1 } = some (.string ⟨xc.toArray⟩) ∧ W.cell? { block := (a.add (k * 9)).block, off := (a.add (k * 9)).off + 2 } = some (.int .i64 xm) ∧ W.cell? { block := (a.add (k * 9)).block, off := (a.add (k * 9)).off + 3 } = some (.bool xn) ∧ W.cell? { block := (a.add (k * 9)).block, off := (a.add (k * 9)).off + 4 } = some (.int .i64 xi) ∧ W.cell? { block := (a.add (k * 9)).block, off := (a.add (k * 9)).off + 5 } = some (.string ⟨xt.toArray⟩) ∧ W.cell? { block := (a.add (k * 9)).block, off := (a.add (k * 9)).off + 6 } = some (.int .i64 xk) ∧ W.cell? { block := (a.add (k * 9)).block, off := (a.add (k * 9)).off + 7 } = some (.string ⟨xp.toArray⟩) ∧ W.cell? { block := (a.add (k * 9)).block, off := (a.add (k * 9)).off + 8 } = some (.slice tA tn tc))) (by kernel_rfl) (by exact ⟨q0, q1, q2, q3, q4, q5, q6, q7, q8, q9, q10⟩) (fun hHeld => ?_)
            refine wpAnyH_take (i := 0) (oi := ⟨some 115, _, _, _, _, none⟩) (v := ?v9) rfl (by kernel_rfl) (by kernel_rfl) (by kernel_rfl) (fun _ _ _ h => h) (Or.inl ⟨by rfl, ?hy9⟩) (by assumption) ?rest9
            case hy9 => (intro wS hSw; (try dsimp only at hSw); go_simp; (try with_reducible rfl))
            (try simp only [Act.put, zA, zB, zC])
            refine wpAnyH_take (i := 1) (oi := ⟨some 116, _, _, _, _, none⟩) (v := ?v10) rfl (by kernel_rfl) (by kernel_rfl) (by kernel_rfl) (fun _ _ _ h => h) (Or.inl ⟨by rfl, ?hy10⟩) (by assumption) ?rest10
            case hy10 => (intro wS hSw; (try dsimp only at hSw); go_simp; (try with_reducible rfl))
            (try simp only [Act.put, zA, zB, zC])
            refine wpAnyH_take (i := 2) (oi := ⟨some 117, _, _, _, _, none⟩) (v := ?v11) rfl (by kernel_rfl) (by kernel_rfl) (by kernel_rfl) (fun _ _ _ h => h) (Or.inl ⟨by rfl, ?hy11⟩) (by assumption) ?rest11
            case hy11 => (intro wS hSw; (try dsimp only at hSw); go_simp; (try with_reducible rfl))
            (try simp only [Act.put, zA, zB, zC])
            refine wpAnyH_take (i := 3) (oi := ⟨some 118, _, _, _, _, none⟩) (v := ?v12) rfl (by kernel_rfl) (by kernel_rfl) (by kernel_rfl) (fun _ _ _ h => h) (Or.inl ⟨by rfl, ?hy12⟩) (by assumption) ?rest12
            case hy12 => (intro wS hSw; (try dsimp only at hSw); go_simp; (try with_reducible rfl))
            (try simp only [Act.put, zA, zB, zC])
            refine wpAnyH_take (i := 4) (oi := ⟨some 119, _, _, _, _, none⟩) (v := ?v13) rfl (by kernel_rfl) (by kernel_rfl) (by kernel_rfl) (fun _ _ _ h => h) (Or.inl ⟨by rfl, ?hy13⟩) (by assumption) ?rest13
            case hy13 => (intro wS hSw; (try dsimp only at hSw); go_simp; (try with_reducible rfl))
            (try simp only [Act.put, zA, zB, zC])
            refine wpAnyH_ready (rs := [5]) (by kernel_rfl) (by simp) ?_
            refine AllReadyH.cons (o := ⟨some 120, _, _, _, _, none⟩) rfl (fun K hK => ?_) AllReadyH.nil
            go_simp
            go_at_call 109
            (with_reducible refine HC.out.mono ?_)
            rintro e w3 ⟨rfl, f3⟩
            have u0 := (f3.cell (World.block_lt_of_cell? _ _ q0) (fun e => e)).trans q0
            have u1 := (f3.cell (World.block_lt_of_cell? _ _ q1) (fun e => e)).trans q1
            have u2 := (f3.cell (World.block_lt_of_cell? _ _ q2) (fun e => e)).trans q2
            have u3 := (f3.cell (World.block_lt_of_cell? _ _ q3) (fun e => e)).trans q3
            have u4 := (f3.cell (World.block_lt_of_cell? _ _ q4) (fun e => e)).trans q4
            have u5 := (f3.cell (World.block_lt_of_cell? _ _ q5) (fun e => e)).trans q5
            have u6 := (f3.cell (World.block_lt_of_cell? _ _ q6) (fun e => e)).trans q6
            have u7 := (f3.cell (World.block_lt_of_cell? _ _ q7) (fun e => e)).trans q7
            have u8 := (f3.cell (World.block_lt_of_cell? _ _ q8) (fun e => e)).trans q8
            have u9 := (f3.cell (World.block_lt_of_cell? _ _ q9) (fun e => e)).trans q9
            have u10 := (f3.cell (World.block_lt_of_cell? _ _ q10) (fun e => e)).trans q10
            go_wp2_with fail
            refine hK.out _ _ (by exact ⟨u0, u1, u2, u3, u4, u5, u6, u7, u8, u9, u10⟩) (fun hHeld => ?_)
            clear hK K
            (try simp only [Act.put, zA, zB, zC])
            refine wpAnyH_take (i := 6) (oi := ⟨some 121, _, _, _, _, none⟩) (v := ?v14) rfl (by kernel_rfl) (by kernel_rfl) (by kernel_rfl) (fun _ _ _ h => h) (Or.inl ⟨by rfl, ?hy14⟩) (by assumption) ?rest14
            case hy14 => (intro wS hSw; (try dsimp only at hSw); go_simp; (try with_reducible rfl))
            (try simp only [Act.put, zA, zB, zC])
            refine wpAnyH_take (i := 7) (oi := ⟨some 122, _, _, _, _, none⟩) (v := ?v15) rfl (by kernel_rfl) (by kernel_rfl) (by kernel_rfl) (fun _ _ _ h => h) (Or.inl ⟨by rfl, ?hy15⟩) (by assumption) ?rest15
            case hy15 => (intro wS hSw; (try dsimp only at hSw); go_simp; (try with_reducible rfl))
            (try simp only [Act.put, zA, zB, zC])
            refine wpAnyH_take (i := 8) (oi := ⟨some 123, _, _, _, _, some (7, false)⟩) (v := ?v16) rfl (by kernel_rfl) (by kernel_rfl) (by kernel_rfl) (fun _ _ _ h => h) (Or.inl ⟨by rfl, ?hy16⟩) (by assumption) ?rest16
            case hy16 => (intro wS hSw; (try dsimp only at hSw); go_simp; (try with_reducible rfl))
            (try simp only [Act.put, zA, zB, zC])
            refine wpAnyH_take (i := 9) (oi := ⟨some 124, _, _, _, _, some (7, false)⟩) (v := ?v17) rfl (by kernel_rfl) (by kernel_rfl) (by kernel_rfl) (fun _ _ _ h => h) (Or.inl ⟨by rfl, ?hy17⟩) (by assumption) ?rest17
            case hy17 => (intro wS hSw; (try dsimp only at hSw); go_simp; (try with_reducible rfl))
            (try simp only [Act.put, zA, zB, zC])
            refine wpAnyH_take (i := 10) (oi := ⟨some 125, _, _, _, _, some (7, false)⟩) (v := ?v18) rfl (by kernel_rfl) (by kernel_rfl) (by kernel_rfl) (fun _ _ _ h => h) (Or.inl ⟨by rfl, ?hy18⟩) (by assumption) ?rest18
            case hy18 => (intro wS hSw; (try dsimp only at hSw); go_simp; (try with_reducible rfl))
            (try simp only [Act.put, zA, zB, zC])
            refine wpAnyH_take (i := 11) (oi := ⟨some 126, _, _, _, _, some (7, false)⟩) (v := ?v19) rfl (by kernel_rfl) (by kernel_rfl) (by kernel_rfl) (fun _ _ _ h => h) (Or.inl ⟨by rfl, ?hy19⟩) (by assumption) ?rest19
            case hy19 => (intro wS hSw; (try dsimp only at hSw); go_simp; (try with_reducible rfl))
            (try simp only [Act.put, zA, zB, zC])
            refine wpAnyH_take (i := 12) (oi := ⟨some 127, _, _, _, _, some (11, true)⟩) (v := undef) rfl (by kernel_rfl) (by kernel_rfl) (by kernel_rfl) (fun _ _ _ h => h) (Or.inr ⟨by rfl, rfl⟩) (by assumption) ?_
            (try simp only [Act.put, zA, zB, zC])
            refine wpAnyH_take (i := 13) (oi := ⟨some 128, _, _, _, _, some (11, true)⟩) (v := undef) rfl (by kernel_rfl) (by kernel_rfl) (by kernel_rfl) (fun _ _ _ h => h) (Or.inr ⟨by rfl, rfl⟩) (by assumption) ?_
            (try simp only [Act.put, zA, zB, zC])
            refine wpAnyH_take (i := 14) (oi := ⟨some 129, _, _, _, _, some (11, true)⟩) (v := undef) rfl (by kernel_rfl) (by kernel_rfl) (by kernel_rfl) (fun _ _ _ h => h) (Or.inr ⟨by rfl, rfl⟩) (by assumption) ?_
            (try simp only [Act.put, zA, zB, zC])
            refine wpAnyH_take (i := 15) (oi := ⟨some 130, _, _, _, _, some (11, true)⟩) (v := undef) rfl (by kernel_rfl) (by kernel_rfl) (by kernel_rfl) (fun _ _ _ h => h) (Or.inr ⟨by rfl, rfl⟩) (by assumption) ?_
            (try simp only [Act.put, zA, zB, zC])
            refine wpAnyH_take (i := 16) (oi := ⟨some 131, _, _, _, _, some (11, true)⟩) (v := undef) rfl (by kernel_rfl) (by kernel_rfl) (by kernel_rfl) (fun _ _ _ h => h) (Or.inr ⟨by rfl, rfl⟩) (by assumption) ?_
            (try simp only [Act.put, zA, zB, zC])
            refine wpAnyH_take (i := 17) (oi := ⟨some 132, _, _, _, _, some (11, true)⟩) (v := undef) rfl (by kernel_rfl) (by kernel_rfl) (by kernel_rfl) (fun _ _ _ h => h) (Or.inr ⟨by rfl, rfl⟩) (by assumption) ?_
            (try simp only [Act.put, zA, zB, zC])
            refine wpAnyH_take (i := 18) (oi := ⟨some 133, _, _, _, _, some (11, true)⟩) (v := undef) rfl (by kernel_rfl) (by kernel_rfl) (by kernel_rfl) (fun _ _ _ h => h) (Or.inr ⟨by rfl, rfl⟩) (by assumption) ?_
            (try simp only [Act.put, zA, zB, zC])
            refine wpAnyH_take (i := 19) (oi := ⟨some 134, _, _, _, _, some (11, true)⟩) (v := undef) rfl (by kernel_rfl) (by kernel_rfl) (by kernel_rfl) (fun _ _ _ h => h) (Or.inr ⟨by rfl, rfl⟩) (by assumption) ?_
            (try simp only [Act.put, zA, zB, zC])
            refine wpAnyH_take (i := 20) (oi := ⟨some 135, _, _, _, _, some (11, true)⟩) (v := undef) rfl (by kernel_rfl) (by kernel_rfl) (by kernel_rfl) (fun _ _ _ h => h) (Or.inr ⟨by rfl, rfl⟩) (by assumption) ?_
            (try simp only [Act.put, zA, zB, zC])
            refine wpAnyH_take (i := 21) (oi := ⟨some 136, _, _, _, _, some (7, false)⟩) (v := ?v20) rfl (by kernel_rfl) (by kernel_rfl) (by kernel_rfl) (fun _ _ _ h => h) (Or.inl ⟨by rfl, ?hy20⟩) (by assumption) ?rest20
            case hy20 => (intro wS hSw; (try dsimp only at hSw); go_simp; (try with_reducible rfl))
            (try simp only [Act.put, zA, zB, zC])
            refine wpAnyH_take (i := 22) (oi := ⟨some 137, _, _, _, _, none⟩) (v := ?v21) rfl (by kernel_rfl) (by kernel_rfl) (by kernel_rfl) (fun _ _ _ h => h) (Or.inl ⟨by rfl, ?hy21⟩) (by assumption) ?rest21
            case hy21 => (intro wS hSw; (try dsimp only at hSw); go_simp; (try with_reducible rfl))
            (try simp only [Act.put, zA, zB, zC])
            refine wpAnyH_done (by kernel_rfl) ?_ _
            clear q0 u0 q1 u1 q2 u2 q3 u3 q4 u4 q5 u5 q6 u6 q7 u7 q8 u8 q9 u9 q10 u10
            go_wp2
            go_roundw
            case rel => exact ⟨k + 1, by omega, by go_num, HE2, Lib.hid (FR.out.drew.trans f3)⟩
            case measure => simp [intOf]; omega
        · have b8 := (PB.out.fr FR.out (fun e => e)).cell 8
          simp [pdC, kidV] at b8
          have HE2 := Lib.hid (all_yes (op := 5) (by have := HL.out; omega) HT.out)
          clear HT
          go_wp2
          go_ret
          exact ⟨ret_boolE (by rw [HE.out, HE2.out]), FW.out⟩
  · have HE1 : Hid (r = false) := Lib.hid (by rw [HE0.out, decide_eq_false h0]; simp)
    have hb : ((n : Int) != 1) = true := by rw [bne_iff_ne]; omega
    clear HE0 h0
    go_enter Tryz.func109, Tryz.ntmps109
    go_wp2
    go_ret
    exact ⟨ret_boolE HE1.out.symm, (((Fr.refl Non w).alloc _).alloc _).alloc _⟩
set_option maxHeartbeats 8000000 in
theorem rone6_any (h0_ : Ph) (ks : List Pd) (t : Kv) (w : World) (hop : h0_.op = 6) (hk : Kd w t ks) (hl : ks.length ≤ 1000) (hcl : h0_.col.length ≤ 1000)
    (IH : Hid (∀ k (h : k < ks.length) (W : World) (t' : Kv), Kd W t' ks[k].kids → Calls Tryz.prog 109 #[pdV ks[k].hd t'] W fun e w' => e = .returned (.bool (oneP ks[k])) ∧ Fr Non W w')) :
    Calls Tryz.prog 109 #[pdV h0_ t] w fun e w' => e = .returned (.bool (oneP (.mk h0_ ks))) ∧ Fr Non w w' := by
  have hn : t.n = ks.length := hk.len
  have N1 := Lib.hid (fun W => rname_any h0_.col W (by omega))
  have M1 := Lib.hid (fun W => rmay_any h0_.kind false h0_.val W)
  have HE := Lib.hid (one_base h0_ ks t.n hn)
  generalize oneP (.mk h0_ ks) = r at *
  have HK : Hid (Kd w t ks) := Lib.hid hk
  have PB0 : Hid (∀ b d, PdB (((w.alloc (.cells (pdC h0_ t) 28)).alloc b).alloc d) w.heap.size h0_ t) := Lib.hid (fun b d => (pd_new w _ h0_ t rfl).fr (((Fr.refl Non _).alloc b).alloc d) (fun e => e))
  obtain ⟨op, col, cmp, ⟨vn, vi, vt⟩, kind, pat⟩ := h0_
  obtain ⟨A, n, c⟩ := t
  dsimp only at hn hop hcl HE
  have HL := Lib.hid hn
  have hn20 : n ≤ 1000 := by omega
  have hs := slen pat
  clear hn hk hl
  unfold pdV pdC kidV
  unfold clV clC at M1
  dsimp only at *
  subst hop
  have FL := Lib.hid (fun W => flat_any ⟨6, col, cmp, ⟨vn, vi, vt⟩, kind, pat⟩ ⟨6, [], 0, zCl, 0, []⟩ noKv noKv W)
  have HE0 : Hid (r = (baseOk ⟨6, col, cmp, ⟨vn, vi, vt⟩, kind, pat⟩ n && ks.all (okk 6))) := HE
  clear HE
  unfold pdV pdC kidV noKv at FL
  replace HE0 : Hid (r = (decide (1 < n) && peq ⟨6, col, cmp, ⟨vn, vi, vt⟩, kind, pat⟩ ⟨6, [], 0, zCl, 0, []⟩ && ks.all (okk 6))) := HE0
  generalize peq ⟨6, col, cmp, ⟨vn, vi, vt⟩, kind, pat⟩ ⟨6, [], 0, zCl, 0, []⟩ = q at *
  unfold zCl at FL
  dsimp only at FL
  clear N1 M1
  by_cases h0 : 1 < n
  · have hb : ¬ n < 2 := by omega
    have HE1 : Hid (r = (q && ks.all (okk 6))) := Lib.hid (by rw [HE0.out, decide_eq_true h0]; simp)
    clear HE0
    have HE0 := HE1
    clear HE1
    go_enter Tryz.func109, Tryz.ntmps109
    go_wp2_with fail
    refine (FL.out _).mono ?_
    rintro e w1 ⟨rfl, f1⟩
    have F1 := Lib.hid ((((((Fr.refl Non w).alloc _).alloc _).alloc _)).trans f1)
    have PB := Lib.hid (((PB0.out _ _)).fr f1 (fun e => e))
    have HK1 := HK
    obtain ⟨g0, g1, g2, g3, g4, g5, g6, g7, g8⟩ := pdB_cells PB.out
    dsimp only at g0 g1 g2 g3 g4 g5 g6 g7 g8
    clear f1 HK1
    cases q
    · go_wp2
      go_ret
      exact ⟨ret_boolE (by rw [HE0.out]; simp), F1.out⟩
    · have HE : Hid (r = ks.all (okk 6)) := Lib.hid (by rw [HE0.out]; simp)
      clear HE0
      go_wp2
      go_loopw [5] (fun i wr => ∃ k : Nat, k ≤ n ∧ i = .int .i64 k ∧ Hid (∀ j (h : j < ks.length), j < k → okk 6 ks[j] = true) ∧ Hid (Fr Non w1 wr)) (fun i _ => n - (intOf i).toNat)
      case atStart => exact ⟨0, Nat.zero_le _, rfl, Lib.hid (fun _ _ h => by omega), Lib.hid (Fr.refl _ _)⟩
      case round =>
        clear g0 g1 g2 g3 g4 g5 g6 g7 g8
        obtain ⟨k, hk, rfl, HT, FR⟩ := hrel
        have FW := Lib.hid (F1.out.trans FR.out)
        by_cases hlt : k < n
        · have hlt2 : k < ks.length := by have := HL.out; omega
          obtain ⟨a, t, hA, hc2, hkk, _⟩ := HK.out.elN FW.out.drew k hlt2
          have HCw := Lib.hid (IH.out k hlt2 wr.drew t (hkk.non FW.out.drew))
          obtain ⟨b0, b1, b2, b3, b4, b5, b6, b7, b8⟩ := pdB_cells (PB.out.fr FR.out (fun e => e))
          have HY := Lib.hid (fun e => okk_more (op := 6) HT.out hlt2 e)
          have HX := Lib.hid (fun e => all_no (op := 6) hlt2 e)
          dsimp only at hA b0 b8
          subst hA
          have q0 : wr.drew.cell? ⟨w.heap.size, 0, none⟩ = _ := b0
          have q1 : wr.drew.cell? ⟨w.heap.size, 8, none⟩ = _ := b8
          obtain ⟨q2, q3, q4, q5, q6, q7, q8, q9, q10⟩ := hc2
          clear hkk HT b1 b2 b3 b4 b5 b6 b7
          have HD : Hid (okk 6 ks[k] = (oneP ks[k] && !(decide (6 ≤ (6 : Int)) && ks[k].hd.op == 6))) := Lib.hid rfl
          generalize ho : oneP ks[k] = b at *
          generalize okk 6 ks[k] = bb at *
          clear ho
          generalize ks[k].hd = x at *
          obtain ⟨xo, xc, xm, ⟨xn, xi, xt⟩, xk, xp⟩ := x
          obtain ⟨tA, tn, tc⟩ := t
          unfold pdV pdC kidV at HCw
          dsimp only at HCw q2 q3 q4 q5 q6 q7 q8 q9 q10 HD
          cases b
          · have HE2 := Lib.hid (HX.out (by rw [HD.out]; rfl))
            have HC := HCw
            clear HX HY HCw HD
            go_wp2
            refine wp_region_held_drew (S := (fun W => W.cell? ⟨w.heap.size, 0, none⟩ = some (.int .i64 6) ∧ W.cell? ⟨w.heap.size, 8, none⟩ = some (.slice (some a) n c) ∧ W.cell? (a.add (k * 9)) = some (.int .i64 xo) ∧ W.cell? { block := (a.add (k * 9)).block, off := (a.add (k * 9)).off + 1 } = some (.string ⟨xc.toArray⟩) ∧ W.cell? { block := (a.add (k * 9)).block, off := (a.add (k * 9)).off + 2 } = some (.int .i64 xm) ∧ W.cell? { block := (a.add (k * 9)).block, off := (a.add (k * 9)).off + 3 } = some (.bool xn) ∧ W.cell? { block := (a.add (k * 9)).block, off := (a.add (k * 9)).off + 4 } = some (.int .i64 xi) ∧ W.cell? { block := (a.add (k * 9)).block, off := (a.add (k * 9)).off + 5 } = some (.string ⟨xt.toArray⟩) ∧ W.cell? { block := (a.add (k * 9)).block, off := (a.add (k * 9)).off + 6 } = some (.int .i64 xk) ∧ W.cell? { block := (a.add (k * 9)).block, off := (a.add (k * 9)).off + 7 } = some (.string ⟨xp.toArray⟩) ∧ W.cell? { block := (a.add (k * 9)).block, off := (a.add (k * 9)).off + 8 } = some (.slice tA tn tc))) (by kernel_rfl) (by exact ⟨q0, q1, q2, q3, q4, q5, q6, q7, q8, q9, q10⟩) (fun hHeld => ?_)
            refine wpAnyH_take (i := 0) (oi := ⟨some 115, _, _, _, _, none⟩) (v := ?v22) rfl (by kernel_rfl) (by kernel_rfl) (by kernel_rfl) (fun _ _ _ h => h) (Or.inl ⟨by rfl, ?hy22⟩) (by assumption) ?rest22
            case hy22 => (intro wS hSw; (try dsimp only at hSw); go_simp; (try with_reducible rfl))
            (try simp only [Act.put, zA, zB, zC])
            refine wpAnyH_take (i := 1) (oi := ⟨some 116, _, _, _, _, none⟩) (v := ?v23) rfl (by kernel_rfl) (by kernel_rfl) (by kernel_rfl) (fun _ _ _ h => h) (Or.inl ⟨by rfl, ?hy23⟩) (by assumption) ?rest23
            case hy23 => (intro wS hSw; (try dsimp only at hSw); go_simp; (try with_reducible rfl))
            (try simp only [Act.put, zA, zB, zC])
            refine wpAnyH_take (i := 2) (oi := ⟨some 117, _, _, _, _, none⟩) (v := ?v24) rfl (by kernel_rfl) (by kernel_rfl) (by kernel_rfl) (fun _ _ _ h => h) (Or.inl ⟨by rfl, ?hy24⟩) (by assumption) ?rest24
            case hy24 => (intro wS hSw; (try dsimp only at hSw); go_simp; (try with_reducible rfl))
            (try simp only [Act.put, zA, zB, zC])
            refine wpAnyH_take (i := 3) (oi := ⟨some 118, _, _, _, _, none⟩) (v := ?v25) rfl (by kernel_rfl) (by kernel_rfl) (by kernel_rfl) (fun _ _ _ h => h) (Or.inl ⟨by rfl, ?hy25⟩) (by assumption) ?rest25
            case hy25 => (intro wS hSw; (try dsimp only at hSw); go_simp; (try with_reducible rfl))
            (try simp only [Act.put, zA, zB, zC])
            refine wpAnyH_take (i := 4) (oi := ⟨some 119, _, _, _, _, none⟩) (v := ?v26) rfl (by kernel_rfl) (by kernel_rfl) (by kernel_rfl) (fun _ _ _ h => h) (Or.inl ⟨by rfl, ?hy26⟩) (by assumption) ?rest26
            case hy26 => (intro wS hSw; (try dsimp only at hSw); go_simp; (try with_reducible rfl))
            (try simp only [Act.put, zA, zB, zC])
            refine wpAnyH_ready (rs := [5]) (by kernel_rfl) (by simp) ?_
            refine AllReadyH.cons (o := ⟨some 120, _, _, _, _, none⟩) rfl (fun K hK => ?_) AllReadyH.nil
            go_simp
            go_at_call 109
            (with_reducible refine HC.out.mono ?_)
            rintro e w3 ⟨rfl, f3⟩
            have u0 := (f3.cell (World.block_lt_of_cell? _ _ q0) (fun e => e)).trans q0
            have u1 := (f3.cell (World.block_lt_of_cell? _ _ q1) (fun e => e)).trans q1
            have u2 := (f3.cell (World.block_lt_of_cell? _ _ q2) (fun e => e)).trans q2
            have u3 := (f3.cell (World.block_lt_of_cell? _ _ q3) (fun e => e)).trans q3
            have u4 := (f3.cell (World.block_lt_of_cell? _ _ q4) (fun e => e)).trans q4
            have u5 := (f3.cell (World.block_lt_of_cell? _ _ q5) (fun e => e)).trans q5
            have u6 := (f3.cell (World.block_lt_of_cell? _ _ q6) (fun e => e)).trans q6
            have u7 := (f3.cell (World.block_lt_of_cell? _ _ q7) (fun e => e)).trans q7
            have u8 := (f3.cell (World.block_lt_of_cell? _ _ q8) (fun e => e)).trans q8
            have u9 := (f3.cell (World.block_lt_of_cell? _ _ q9) (fun e => e)).trans q9
            have u10 := (f3.cell (World.block_lt_of_cell? _ _ q10) (fun e => e)).trans q10
            go_wp2_with fail
            refine hK.out _ _ (by exact ⟨u0, u1, u2, u3, u4, u5, u6, u7, u8, u9, u10⟩) (fun hHeld => ?_)
            clear hK K
            (try simp only [Act.put, zA, zB, zC])
            refine wpAnyH_take (i := 6) (oi := ⟨some 121, _, _, _, _, none⟩) (v := ?v27) rfl (by kernel_rfl) (by kernel_rfl) (by kernel_rfl) (fun _ _ _ h => h) (Or.inl ⟨by rfl, ?hy27⟩) (by assumption) ?rest27
            case hy27 => (intro wS hSw; (try dsimp only at hSw); go_simp; (try with_reducible rfl))
            (try simp only [Act.put, zA, zB, zC])
            refine wpAnyH_take (i := 7) (oi := ⟨some 122, _, _, _, _, none⟩) (v := ?v28) rfl (by kernel_rfl) (by kernel_rfl) (by kernel_rfl) (fun _ _ _ h => h) (Or.inl ⟨by rfl, ?hy28⟩) (by assumption) ?rest28
            case hy28 => (intro wS hSw; (try dsimp only at hSw); go_simp; (try with_reducible rfl))
            (try simp only [Act.put, zA, zB, zC])
            refine wpAnyH_take (i := 8) (oi := ⟨some 123, _, _, _, _, some (7, false)⟩) (v := undef) rfl (by kernel_rfl) (by kernel_rfl) (by kernel_rfl) (fun _ _ _ h => h) (Or.inr ⟨by rfl, rfl⟩) (by assumption) ?_
            (try simp only [Act.put, zA, zB, zC])
            refine wpAnyH_take (i := 9) (oi := ⟨some 124, _, _, _, _, some (7, false)⟩) (v := undef) rfl (by kernel_rfl) (by kernel_rfl) (by kernel_rfl) (fun _ _ _ h => h) (Or.inr ⟨by rfl, rfl⟩) (by assumption) ?_
            (try simp only [Act.put, zA, zB, zC])
            refine wpAnyH_take (i := 10) (oi := ⟨some 125, _, _, _, _, some (7, false)⟩) (v := undef) rfl (by kernel_rfl) (by kernel_rfl) (by kernel_rfl) (fun _ _ _ h => h) (Or.inr ⟨by rfl, rfl⟩) (by assumption) ?_
            (try simp only [Act.put, zA, zB, zC])
            refine wpAnyH_take (i := 11) (oi := ⟨some 126, _, _, _, _, some (7, false)⟩) (v := undef) rfl (by kernel_rfl) (by kernel_rfl) (by kernel_rfl) (fun _ _ _ h => h) (Or.inr ⟨by rfl, rfl⟩) (by assumption) ?_
            (try simp only [Act.put, zA, zB, zC])
            refine wpAnyH_take (i := 12) (oi := ⟨some 127, _, _, _, _, some (11, true)⟩) (v := undef) rfl (by kernel_rfl) (by kernel_rfl) (by kernel_rfl) (fun _ _ _ h => h) (Or.inr ⟨by rfl, rfl⟩) (by assumption) ?_
            (try simp only [Act.put, zA, zB, zC])
            refine wpAnyH_take (i := 13) (oi := ⟨some 128, _, _, _, _, some (11, true)⟩) (v := undef) rfl (by kernel_rfl) (by kernel_rfl) (by kernel_rfl) (fun _ _ _ h => h) (Or.inr ⟨by rfl, rfl⟩) (by assumption) ?_
            (try simp only [Act.put, zA, zB, zC])
            refine wpAnyH_take (i := 14) (oi := ⟨some 129, _, _, _, _, some (11, true)⟩) (v := undef) rfl (by kernel_rfl) (by kernel_rfl) (by kernel_rfl) (fun _ _ _ h => h) (Or.inr ⟨by rfl, rfl⟩) (by assumption) ?_
            (try simp only [Act.put, zA, zB, zC])
            refine wpAnyH_take (i := 15) (oi := ⟨some 130, _, _, _, _, some (11, true)⟩) (v := undef) rfl (by kernel_rfl) (by kernel_rfl) (by kernel_rfl) (fun _ _ _ h => h) (Or.inr ⟨by rfl, rfl⟩) (by assumption) ?_
            (try simp only [Act.put, zA, zB, zC])
            refine wpAnyH_take (i := 16) (oi := ⟨some 131, _, _, _, _, some (11, true)⟩) (v := undef) rfl (by kernel_rfl) (by kernel_rfl) (by kernel_rfl) (fun _ _ _ h => h) (Or.inr ⟨by rfl, rfl⟩) (by assumption) ?_
            (try simp only [Act.put, zA, zB, zC])
            refine wpAnyH_take (i := 17) (oi := ⟨some 132, _, _, _, _, some (11, true)⟩) (v := undef) rfl (by kernel_rfl) (by kernel_rfl) (by kernel_rfl) (fun _ _ _ h => h) (Or.inr ⟨by rfl, rfl⟩) (by assumption) ?_
            (try simp only [Act.put, zA, zB, zC])
            refine wpAnyH_take (i := 18) (oi := ⟨some 133, _, _, _, _, some (11, true)⟩) (v := undef) rfl (by kernel_rfl) (by kernel_rfl) (by kernel_rfl) (fun _ _ _ h => h) (Or.inr ⟨by rfl, rfl⟩) (by assumption) ?_
            (try simp only [Act.put, zA, zB, zC])
            refine wpAnyH_take (i := 19) (oi := ⟨some 134, _, _, _, _, some (11, true)⟩) (v := undef) rfl (by kernel_rfl) (by kernel_rfl) (by kernel_rfl) (fun _ _ _ h => h) (Or.inr ⟨by rfl, rfl⟩) (by assumption) ?_
            (try simp only [Act.put, zA, zB, zC])
            refine wpAnyH_take (i := 20) (oi := ⟨some 135, _, _, _, _, some (11, true)⟩) (v := undef) rfl (by kernel_rfl) (by kernel_rfl) (by kernel_rfl) (fun _ _ _ h => h) (Or.inr ⟨by rfl, rfl⟩) (by assumption) ?_
            (try simp only [Act.put, zA, zB, zC])
            refine wpAnyH_take (i := 21) (oi := ⟨some 136, _, _, _, _, some (7, false)⟩) (v := undef) rfl (by kernel_rfl) (by kernel_rfl) (by kernel_rfl) (fun _ _ _ h => h) (Or.inr ⟨by rfl, rfl⟩) (by assumption) ?_
            (try simp only [Act.put, zA, zB, zC])
            refine wpAnyH_take (i := 22) (oi := ⟨some 137, _, _, _, _, none⟩) (v := ?v29) rfl (by kernel_rfl) (by kernel_rfl) (by kernel_rfl) (fun _ _ _ h => h) (Or.inl ⟨by rfl, ?hy29⟩) (by assumption) ?rest29
            case hy29 => (intro wS hSw; (try dsimp only at hSw); go_simp; (try with_reducible rfl))
            (try simp only [Act.put, zA, zB, zC])
            refine wpAnyH_done (by kernel_rfl) ?_ _
            clear q0 u0 q1 u1 q2 u2 q3 u3 q4 u4 q5 u5 q6 u6 q7 u7 q8 u8 q9 u9 q10 u10
            go_wp2
            go_ret
            exact ⟨ret_boolE (by rw [HE.out, HE2.out]), FW.out.drew.trans f3⟩
          · have HC := HCw
            clear HCw
            cases hx : (xo == 6)
            · have HE2 := Lib.hid (HY.out (by rw [HD.out, hx]; rfl))
              clear HX HY HD
              go_wp2
              refine wp_region_held_drew (S := (fun W => W.cell? ⟨w.heap.size, 0, none⟩ = some (.int .i64 6) ∧ W.cell? ⟨w.heap.size, 8, none⟩ = some (.slice (some a) n c) ∧ W.cell? (a.add (k * 9)) = some (.int .i64 xo) ∧ W.cell? { block := (a.add (k * 9)).block, off := (a.add (k * 9)).off + 1 } = some (.string ⟨xc.toArray⟩) ∧ W.cell? { block := (a.add (k * 9)).block, off := (a.add (k * 9)).off + 2 } = some (.int .i64 xm) ∧ W.cell? { block := (a.add (k * 9)).block, off := (a.add (k * 9)).off + 3 } = some (.bool xn) ∧ W.cell? { block := (a.add (k * 9)).block, off := (a.add (k * 9)).off + 4 } = some (.int .i64 xi) ∧ W.cell? { block := (a.add (k * 9)).block, off := (a.add (k * 9)).off + 5 } = some (.string ⟨xt.toArray⟩) ∧ W.cell? { block := (a.add (k * 9)).block, off := (a.add (k * 9)).off + 6 } = some (.int .i64 xk) ∧ W.cell? { block := (a.add (k * 9)).block, off := (a.add (k * 9)).off + 7 } = some (.string ⟨xp.toArray⟩) ∧ W.cell? { block := (a.add (k * 9)).block, off := (a.add (k * 9)).off + 8 } = some (.slice tA tn tc))) (by kernel_rfl) (by exact ⟨q0, q1, q2, q3, q4, q5, q6, q7, q8, q9, q10⟩) (fun hHeld => ?_)
              refine wpAnyH_take (i := 0) (oi := ⟨some 115, _, _, _, _, none⟩) (v := ?v30) rfl (by kernel_rfl) (by kernel_rfl) (by kernel_rfl) (fun _ _ _ h => h) (Or.inl ⟨by rfl, ?hy30⟩) (by assumption) ?rest30
              case hy30 => (intro wS hSw; (try dsimp only at hSw); go_simp; (try with_reducible rfl))
              (try simp only [Act.put, zA, zB, zC])
              refine wpAnyH_take (i := 1) (oi := ⟨some 116, _, _, _, _, none⟩) (v := ?v31) rfl (by kernel_rfl) (by kernel_rfl) (by kernel_rfl) (fun _ _ _ h => h) (Or.inl ⟨by rfl, ?hy31⟩) (by assumption) ?rest31
              case hy31 => (intro wS hSw; (try dsimp only at hSw); go_simp; (try with_reducible rfl))
              (try simp only [Act.put, zA, zB, zC])
              refine wpAnyH_take (i := 2) (oi := ⟨some 117, _, _, _, _, none⟩) (v := ?v32) rfl (by kernel_rfl) (by kernel_rfl) (by kernel_rfl) (fun _ _ _ h => h) (Or.inl ⟨by rfl, ?hy32⟩) (by assumption) ?rest32
              case hy32 => (intro wS hSw; (try dsimp only at hSw); go_simp; (try with_reducible rfl))
              (try simp only [Act.put, zA, zB, zC])
              refine wpAnyH_take (i := 3) (oi := ⟨some 118, _, _, _, _, none⟩) (v := ?v33) rfl (by kernel_rfl) (by kernel_rfl) (by kernel_rfl) (fun _ _ _ h => h) (Or.inl ⟨by rfl, ?hy33⟩) (by assumption) ?rest33
              case hy33 => (intro wS hSw; (try dsimp only at hSw); go_simp; (try with_reducible rfl))
              (try simp only [Act.put, zA, zB, zC])
              refine wpAnyH_take (i := 4) (oi := ⟨some 119, _, _, _, _, none⟩) (v := ?v34) rfl (by kernel_rfl) (by kernel_rfl) (by kernel_rfl) (fun _ _ _ h => h) (Or.inl ⟨by rfl, ?hy34⟩) (by assumption) ?rest34
              case hy34 => (intro wS hSw; (try dsimp only at hSw); go_simp; (try with_reducible rfl))
              (try simp only [Act.put, zA, zB, zC])
              refine wpAnyH_ready (rs := [5]) (by kernel_rfl) (by simp) ?_
              refine AllReadyH.cons (o := ⟨some 120, _, _, _, _, none⟩) rfl (fun K hK => ?_) AllReadyH.nil
              go_simp
              go_at_call 109
              (with_reducible refine HC.out.mono ?_)
              rintro e w3 ⟨rfl, f3⟩
              have u0 := (f3.cell (World.block_lt_of_cell? _ _ q0) (fun e => e)).trans q0
              have u1 := (f3.cell (World.block_lt_of_cell? _ _ q1) (fun e => e)).trans q1
              have u2 := (f3.cell (World.block_lt_of_cell? _ _ q2) (fun e => e)).trans q2
              have u3 := (f3.cell (World.block_lt_of_cell? _ _ q3) (fun e => e)).trans q3
              have u4 := (f3.cell (World.block_lt_of_cell? _ _ q4) (fun e => e)).trans q4
              have u5 := (f3.cell (World.block_lt_of_cell? _ _ q5) (fun e => e)).trans q5
              have u6 := (f3.cell (World.block_lt_of_cell? _ _ q6) (fun e => e)).trans q6
              have u7 := (f3.cell (World.block_lt_of_cell? _ _ q7) (fun e => e)).trans q7
              have u8 := (f3.cell (World.block_lt_of_cell? _ _ q8) (fun e => e)).trans q8
              have u9 := (f3.cell (World.block_lt_of_cell? _ _ q9) (fun e => e)).trans q9
              have u10 := (f3.cell (World.block_lt_of_cell? _ _ q10) (fun e => e)).trans q10
              go_wp2_with fail
              refine hK.out _ _ (by exact ⟨u0, u1, u2, u3, u4, u5, u6, u7, u8, u9, u10⟩) (fun hHeld => ?_)
              clear hK K
              (try simp only [Act.put, zA, zB, zC])
              refine wpAnyH_take (i := 6) (oi := ⟨some 121, _, _, _, _, none⟩) (v := ?v35) rfl (by kernel_rfl) (by kernel_rfl) (by kernel_rfl) (fun _ _ _ h => h) (Or.inl ⟨by rfl, ?hy35⟩) (by assumption) ?rest35
              case hy35 => (intro wS hSw; (try dsimp only at hSw); go_simp; (try with_reducible rfl))
              (try simp only [Act.put, zA, zB, zC])
              refine wpAnyH_take (i := 7) (oi := ⟨some 122, _, _, _, _, none⟩) (v := ?v36) rfl (by kernel_rfl) (by kernel_rfl) (by kernel_rfl) (fun _ _ _ h => h) (Or.inl ⟨by rfl, ?hy36⟩) (by assumption) ?rest36
              case hy36 => (intro wS hSw; (try dsimp only at hSw); go_simp; (try with_reducible rfl))
              (try simp only [Act.put, zA, zB, zC])
              refine wpAnyH_take (i := 8) (oi := ⟨some 123, _, _, _, _, some (7, false)⟩) (v := ?v37) rfl (by kernel_rfl) (by kernel_rfl) (by kernel_rfl) (fun _ _ _ h => h) (Or.inl ⟨by rfl, ?hy37⟩) (by assumption) ?rest37
              case hy37 => (intro wS hSw; (try dsimp only at hSw); go_simp; (try with_reducible rfl))
              (try simp only [Act.put, zA, zB, zC])
              refine wpAnyH_take (i := 9) (oi := ⟨some 124, _, _, _, _, some (7, false)⟩) (v := ?v38) rfl (by kernel_rfl) (by kernel_rfl) (by kernel_rfl) (fun _ _ _ h => h) (Or.inl ⟨by rfl, ?hy38⟩) (by assumption) ?rest38
              case hy38 => (intro wS hSw; (try dsimp only at hSw); go_simp; (try with_reducible rfl))
              (try simp only [Act.put, zA, zB, zC])
              refine wpAnyH_take (i := 10) (oi := ⟨some 125, _, _, _, _, some (7, false)⟩) (v := ?v39) rfl (by kernel_rfl) (by kernel_rfl) (by kernel_rfl) (fun _ _ _ h => h) (Or.inl ⟨by rfl, ?hy39⟩) (by assumption) ?rest39
              case hy39 => (intro wS hSw; (try dsimp only at hSw); go_simp; (try with_reducible rfl))
              (try simp only [Act.put, zA, zB, zC])
              refine wpAnyH_take (i := 11) (oi := ⟨some 126, _, _, _, _, some (7, false)⟩) (v := ?v40) rfl (by kernel_rfl) (by kernel_rfl) (by kernel_rfl) (fun _ _ _ h => h) (Or.inl ⟨by rfl, ?hy40⟩) (by assumption) ?rest40
              case hy40 => (intro wS hSw; (try dsimp only at hSw); go_simp; (try with_reducible rfl))
              (try simp only [Act.put, zA, zB, zC])
              refine wpAnyH_take (i := 12) (oi := ⟨some 127, _, _, _, _, some (11, true)⟩) (v := ?v41) rfl (by kernel_rfl) (by kernel_rfl) (by kernel_rfl) (fun _ _ _ h => h) (Or.inl ⟨by rfl, ?hy41⟩) (by assumption) ?rest41
              case hy41 => (intro wS hSw; (try dsimp only at hSw); go_simp; (try with_reducible rfl))
              (try simp only [Act.put, zA, zB, zC])
              refine wpAnyH_take (i := 13) (oi := ⟨some 128, _, _, _, _, some (11, true)⟩) (v := ?v42) rfl (by kernel_rfl) (by kernel_rfl) (by kernel_rfl) (fun _ _ _ h => h) (Or.inl ⟨by rfl, ?hy42⟩) (by assumption) ?rest42
              case hy42 => (intro wS hSw; (try dsimp only at hSw); go_simp; (try with_reducible rfl))
              (try simp only [Act.put, zA, zB, zC])
              refine wpAnyH_take (i := 14) (oi := ⟨some 129, _, _, _, _, some (11, true)⟩) (v := ?v43) rfl (by kernel_rfl) (by kernel_rfl) (by kernel_rfl) (fun _ _ _ h => h) (Or.inl ⟨by rfl, ?hy43⟩) (by assumption) ?rest43
              case hy43 => (intro wS hSw; (try dsimp only at hSw); go_simp; (try with_reducible rfl))
              (try simp only [Act.put, zA, zB, zC])
              refine wpAnyH_take (i := 15) (oi := ⟨some 130, _, _, _, _, some (11, true)⟩) (v := ?v44) rfl (by kernel_rfl) (by kernel_rfl) (by kernel_rfl) (fun _ _ _ h => h) (Or.inl ⟨by rfl, ?hy44⟩) (by assumption) ?rest44
              case hy44 => (intro wS hSw; (try dsimp only at hSw); go_simp; (try with_reducible rfl))
              (try simp only [Act.put, zA, zB, zC])
              refine wpAnyH_take (i := 16) (oi := ⟨some 131, _, _, _, _, some (11, true)⟩) (v := ?v45) rfl (by kernel_rfl) (by kernel_rfl) (by kernel_rfl) (fun _ _ _ h => h) (Or.inl ⟨by rfl, ?hy45⟩) (by assumption) ?rest45
              case hy45 => (intro wS hSw; (try dsimp only at hSw); go_simp; (try with_reducible rfl))
              (try simp only [Act.put, zA, zB, zC])
              refine wpAnyH_take (i := 17) (oi := ⟨some 132, _, _, _, _, some (11, true)⟩) (v := ?v46) rfl (by kernel_rfl) (by kernel_rfl) (by kernel_rfl) (fun _ _ _ h => h) (Or.inl ⟨by rfl, ?hy46⟩) (by assumption) ?rest46
              case hy46 => (intro wS hSw; (try dsimp only at hSw); go_simp; (try with_reducible rfl))
              (try simp only [Act.put, zA, zB, zC])
              refine wpAnyH_take (i := 18) (oi := ⟨some 133, _, _, _, _, some (11, true)⟩) (v := ?v47) rfl (by kernel_rfl) (by kernel_rfl) (by kernel_rfl) (fun _ _ _ h => h) (Or.inl ⟨by rfl, ?hy47⟩) (by assumption) ?rest47
              case hy47 => (intro wS hSw; (try dsimp only at hSw); go_simp; (try with_reducible rfl))
              (try simp only [Act.put, zA, zB, zC])
              refine wpAnyH_take (i := 19) (oi := ⟨some 134, _, _, _, _, some (11, true)⟩) (v := ?v48) rfl (by kernel_rfl) (by kernel_rfl) (by kernel_rfl) (fun _ _ _ h => h) (Or.inl ⟨by rfl, ?hy48⟩) (by assumption) ?rest48
              case hy48 => (intro wS hSw; (try dsimp only at hSw); go_simp; (try with_reducible rfl))
              (try simp only [Act.put, zA, zB, zC])
              refine wpAnyH_take (i := 20) (oi := ⟨some 135, _, _, _, _, some (11, true)⟩) (v := ?v49) rfl (by kernel_rfl) (by kernel_rfl) (by kernel_rfl) (fun _ _ _ h => h) (Or.inl ⟨by rfl, ?hy49⟩) (by assumption) ?rest49
              case hy49 => (intro wS hSw; (try dsimp only at hSw); go_simp; (try with_reducible rfl))
              (try simp only [Act.put, zA, zB, zC])
              refine wpAnyH_take (i := 21) (oi := ⟨some 136, _, _, _, _, some (7, false)⟩) (v := ?v50) rfl (by kernel_rfl) (by kernel_rfl) (by kernel_rfl) (fun _ _ _ h => h) (Or.inl ⟨by rfl, ?hy50⟩) (by assumption) ?rest50
              case hy50 => (intro wS hSw; (try dsimp only at hSw); go_simp; (try with_reducible rfl))
              (try simp only [Act.put, zA, zB, zC])
              refine wpAnyH_take (i := 22) (oi := ⟨some 137, _, _, _, _, none⟩) (v := ?v51) rfl (by kernel_rfl) (by kernel_rfl) (by kernel_rfl) (fun _ _ _ h => h) (Or.inl ⟨by rfl, ?hy51⟩) (by assumption) ?rest51
              case hy51 => (intro wS hSw; (try dsimp only at hSw); go_simp; (try with_reducible rfl))
              (try simp only [Act.put, zA, zB, zC])
              refine wpAnyH_done (by kernel_rfl) ?_ _
              clear q0 u0 q1 u1 q2 u2 q3 u3 q4 u4 q5 u5 q6 u6 q7 u7 q8 u8 q9 u9 q10 u10
              go_wp2
              go_roundw
              case rel => exact ⟨k + 1, by omega, by go_num, HE2, Lib.hid (FR.out.drew.trans f3)⟩
              case measure => simp [intOf]; omega
            · have HE2 := Lib.hid (HX.out (by rw [HD.out, hx]; rfl))
              clear HX HY HD
              go_wp2
              refine wp_region_held_drew (S := (fun W => W.cell? ⟨w.heap.size, 0, none⟩ = some (.int .i64 6) ∧ W.cell? ⟨w.heap.size, 8, none⟩ = some (.slice (some a) n c) ∧ W.cell? (a.add (k * 9)) = some (.int .i64 xo) ∧ W.cell? { block := (a.add (k * 9)).block, off := (a.add (k * 9)).off + 1 } = some (.string ⟨xc.toArray⟩) ∧ W.cell? { block := (a.add (k * 9)).block, off := (a.add (k * 9)).off + 2 } = some (.int .i64 xm) ∧ W.cell? { block := (a.add (k * 9)).block, off := (a.add (k * 9)).off + 3 } = some (.bool xn) ∧ W.cell? { block := (a.add (k * 9)).block, off := (a.add (k * 9)).off + 4 } = some (.int .i64 xi) ∧ W.cell? { block := (a.add (k * 9)).block, off := (a.add (k * 9)).off + 5 } = some (.string ⟨xt.toArray⟩) ∧ W.cell? { block := (a.add (k * 9)).block, off := (a.add (k * 9)).off + 6 } = some (.int .i64 xk) ∧ W.cell? { block := (a.add (k * 9)).block, off := (a.add (k * 9)).off + 7 } = some (.string ⟨xp.toArray⟩) ∧ W.cell? { block := (a.add (k * 9)).block, off := (a.add (k * 9)).off + 8 } = some (.slice tA tn tc))) (by kernel_rfl) (by exact ⟨q0, q1, q2, q3, q4, q5, q6, q7, q8, q9, q10⟩) (fun hHeld => ?_)
              refine wpAnyH_take (i := 0) (oi := ⟨some 115, _, _, _, _, none⟩) (v := ?v52) rfl (by kernel_rfl) (by kernel_rfl) (by kernel_rfl) (fun _ _ _ h => h) (Or.inl ⟨by rfl, ?hy52⟩) (by assumption) ?rest52
              case hy52 => (intro wS hSw; (try dsimp only at hSw); go_simp; (try with_reducible rfl))
              (try simp only [Act.put, zA, zB, zC])
              refine wpAnyH_take (i := 1) (oi := ⟨some 116, _, _, _, _, none⟩) (v := ?v53) rfl (by kernel_rfl) (by kernel_rfl) (by kernel_rfl) (fun _ _ _ h => h) (Or.inl ⟨by rfl, ?hy53⟩) (by assumption) ?rest53
              case hy53 => (intro wS hSw; (try dsimp only at hSw); go_simp; (try with_reducible rfl))
              (try simp only [Act.put, zA, zB, zC])
              refine wpAnyH_take (i := 2) (oi := ⟨some 117, _, _, _, _, none⟩) (v := ?v54) rfl (by kernel_rfl) (by kernel_rfl) (by kernel_rfl) (fun _ _ _ h => h) (Or.inl ⟨by rfl, ?hy54⟩) (by assumption) ?rest54
              case hy54 => (intro wS hSw; (try dsimp only at hSw); go_simp; (try with_reducible rfl))
              (try simp only [Act.put, zA, zB, zC])
              refine wpAnyH_take (i := 3) (oi := ⟨some 118, _, _, _, _, none⟩) (v := ?v55) rfl (by kernel_rfl) (by kernel_rfl) (by kernel_rfl) (fun _ _ _ h => h) (Or.inl ⟨by rfl, ?hy55⟩) (by assumption) ?rest55
              case hy55 => (intro wS hSw; (try dsimp only at hSw); go_simp; (try with_reducible rfl))
              (try simp only [Act.put, zA, zB, zC])
              refine wpAnyH_take (i := 4) (oi := ⟨some 119, _, _, _, _, none⟩) (v := ?v56) rfl (by kernel_rfl) (by kernel_rfl) (by kernel_rfl) (fun _ _ _ h => h) (Or.inl ⟨by rfl, ?hy56⟩) (by assumption) ?rest56
              case hy56 => (intro wS hSw; (try dsimp only at hSw); go_simp; (try with_reducible rfl))
              (try simp only [Act.put, zA, zB, zC])
              refine wpAnyH_ready (rs := [5]) (by kernel_rfl) (by simp) ?_
              refine AllReadyH.cons (o := ⟨some 120, _, _, _, _, none⟩) rfl (fun K hK => ?_) AllReadyH.nil
              go_simp
              go_at_call 109
              (with_reducible refine HC.out.mono ?_)
              rintro e w3 ⟨rfl, f3⟩
              have u0 := (f3.cell (World.block_lt_of_cell? _ _ q0) (fun e => e)).trans q0
              have u1 := (f3.cell (World.block_lt_of_cell? _ _ q1) (fun e => e)).trans q1
              have u2 := (f3.cell (World.block_lt_of_cell? _ _ q2) (fun e => e)).trans q2
              have u3 := (f3.cell (World.block_lt_of_cell? _ _ q3) (fun e => e)).trans q3
              have u4 := (f3.cell (World.block_lt_of_cell? _ _ q4) (fun e => e)).trans q4
              have u5 := (f3.cell (World.block_lt_of_cell? _ _ q5) (fun e => e)).trans q5
              have u6 := (f3.cell (World.block_lt_of_cell? _ _ q6) (fun e => e)).trans q6
              have u7 := (f3.cell (World.block_lt_of_cell? _ _ q7) (fun e => e)).trans q7
              have u8 := (f3.cell (World.block_lt_of_cell? _ _ q8) (fun e => e)).trans q8
              have u9 := (f3.cell (World.block_lt_of_cell? _ _ q9) (fun e => e)).trans q9
              have u10 := (f3.cell (World.block_lt_of_cell? _ _ q10) (fun e => e)).trans q10
              go_wp2_with fail
              refine hK.out _ _ (by exact ⟨u0, u1, u2, u3, u4, u5, u6, u7, u8, u9, u10⟩) (fun hHeld => ?_)
              clear hK K
              (try simp only [Act.put, zA, zB, zC])
              refine wpAnyH_take (i := 6) (oi := ⟨some 121, _, _, _, _, none⟩) (v := ?v57) rfl (by kernel_rfl) (by kernel_rfl) (by kernel_rfl) (fun _ _ _ h => h) (Or.inl ⟨by rfl, ?hy57⟩) (by assumption) ?rest57
              case hy57 => (intro wS hSw; (try dsimp only at hSw); go_simp; (try with_reducible rfl))
              (try simp only [Act.put, zA, zB, zC])
              refine wpAnyH_take (i := 7) (oi := ⟨some 122, _, _, _, _, none⟩) (v := ?v58) rfl (by kernel_rfl) (by kernel_rfl) (by kernel_rfl) (fun _ _ _ h => h) (Or.inl ⟨by rfl, ?hy58⟩) (by assumption) ?rest58
              case hy58 => (intro wS hSw; (try dsimp only at hSw); go_simp; (try with_reducible rfl))
              (try simp only [Act.put, zA, zB, zC])
              refine wpAnyH_take (i := 8) (oi := ⟨some 123, _, _, _, _, some (7, false)⟩) (v := ?v59) rfl (by kernel_rfl) (by kernel_rfl) (by kernel_rfl) (fun _ _ _ h => h) (Or.inl ⟨by rfl, ?hy59⟩) (by assumption) ?rest59
              case hy59 => (intro wS hSw; (try dsimp only at hSw); go_simp; (try with_reducible rfl))
              (try simp only [Act.put, zA, zB, zC])
              refine wpAnyH_take (i := 9) (oi := ⟨some 124, _, _, _, _, some (7, false)⟩) (v := ?v60) rfl (by kernel_rfl) (by kernel_rfl) (by kernel_rfl) (fun _ _ _ h => h) (Or.inl ⟨by rfl, ?hy60⟩) (by assumption) ?rest60
              case hy60 => (intro wS hSw; (try dsimp only at hSw); go_simp; (try with_reducible rfl))
              (try simp only [Act.put, zA, zB, zC])
              refine wpAnyH_take (i := 10) (oi := ⟨some 125, _, _, _, _, some (7, false)⟩) (v := ?v61) rfl (by kernel_rfl) (by kernel_rfl) (by kernel_rfl) (fun _ _ _ h => h) (Or.inl ⟨by rfl, ?hy61⟩) (by assumption) ?rest61
              case hy61 => (intro wS hSw; (try dsimp only at hSw); go_simp; (try with_reducible rfl))
              (try simp only [Act.put, zA, zB, zC])
              refine wpAnyH_take (i := 11) (oi := ⟨some 126, _, _, _, _, some (7, false)⟩) (v := ?v62) rfl (by kernel_rfl) (by kernel_rfl) (by kernel_rfl) (fun _ _ _ h => h) (Or.inl ⟨by rfl, ?hy62⟩) (by assumption) ?rest62
              case hy62 => (intro wS hSw; (try dsimp only at hSw); go_simp; (try with_reducible rfl))
              (try simp only [Act.put, zA, zB, zC])
              refine wpAnyH_take (i := 12) (oi := ⟨some 127, _, _, _, _, some (11, true)⟩) (v := ?v63) rfl (by kernel_rfl) (by kernel_rfl) (by kernel_rfl) (fun _ _ _ h => h) (Or.inl ⟨by rfl, ?hy63⟩) (by assumption) ?rest63
              case hy63 => (intro wS hSw; (try dsimp only at hSw); go_simp; (try with_reducible rfl))
              (try simp only [Act.put, zA, zB, zC])
              refine wpAnyH_take (i := 13) (oi := ⟨some 128, _, _, _, _, some (11, true)⟩) (v := ?v64) rfl (by kernel_rfl) (by kernel_rfl) (by kernel_rfl) (fun _ _ _ h => h) (Or.inl ⟨by rfl, ?hy64⟩) (by assumption) ?rest64
              case hy64 => (intro wS hSw; (try dsimp only at hSw); go_simp; (try with_reducible rfl))
              (try simp only [Act.put, zA, zB, zC])
              refine wpAnyH_take (i := 14) (oi := ⟨some 129, _, _, _, _, some (11, true)⟩) (v := ?v65) rfl (by kernel_rfl) (by kernel_rfl) (by kernel_rfl) (fun _ _ _ h => h) (Or.inl ⟨by rfl, ?hy65⟩) (by assumption) ?rest65
              case hy65 => (intro wS hSw; (try dsimp only at hSw); go_simp; (try with_reducible rfl))
              (try simp only [Act.put, zA, zB, zC])
              refine wpAnyH_take (i := 15) (oi := ⟨some 130, _, _, _, _, some (11, true)⟩) (v := ?v66) rfl (by kernel_rfl) (by kernel_rfl) (by kernel_rfl) (fun _ _ _ h => h) (Or.inl ⟨by rfl, ?hy66⟩) (by assumption) ?rest66
              case hy66 => (intro wS hSw; (try dsimp only at hSw); go_simp; (try with_reducible rfl))
              (try simp only [Act.put, zA, zB, zC])
              refine wpAnyH_take (i := 16) (oi := ⟨some 131, _, _, _, _, some (11, true)⟩) (v := ?v67) rfl (by kernel_rfl) (by kernel_rfl) (by kernel_rfl) (fun _ _ _ h => h) (Or.inl ⟨by rfl, ?hy67⟩) (by assumption) ?rest67
              case hy67 => (intro wS hSw; (try dsimp only at hSw); go_simp; (try with_reducible rfl))
              (try simp only [Act.put, zA, zB, zC])
              refine wpAnyH_take (i := 17) (oi := ⟨some 132, _, _, _, _, some (11, true)⟩) (v := ?v68) rfl (by kernel_rfl) (by kernel_rfl) (by kernel_rfl) (fun _ _ _ h => h) (Or.inl ⟨by rfl, ?hy68⟩) (by assumption) ?rest68
              case hy68 => (intro wS hSw; (try dsimp only at hSw); go_simp; (try with_reducible rfl))
              (try simp only [Act.put, zA, zB, zC])
              refine wpAnyH_take (i := 18) (oi := ⟨some 133, _, _, _, _, some (11, true)⟩) (v := ?v69) rfl (by kernel_rfl) (by kernel_rfl) (by kernel_rfl) (fun _ _ _ h => h) (Or.inl ⟨by rfl, ?hy69⟩) (by assumption) ?rest69
              case hy69 => (intro wS hSw; (try dsimp only at hSw); go_simp; (try with_reducible rfl))
              (try simp only [Act.put, zA, zB, zC])
              refine wpAnyH_take (i := 19) (oi := ⟨some 134, _, _, _, _, some (11, true)⟩) (v := ?v70) rfl (by kernel_rfl) (by kernel_rfl) (by kernel_rfl) (fun _ _ _ h => h) (Or.inl ⟨by rfl, ?hy70⟩) (by assumption) ?rest70
              case hy70 => (intro wS hSw; (try dsimp only at hSw); go_simp; (try with_reducible rfl))
              (try simp only [Act.put, zA, zB, zC])
              refine wpAnyH_take (i := 20) (oi := ⟨some 135, _, _, _, _, some (11, true)⟩) (v := ?v71) rfl (by kernel_rfl) (by kernel_rfl) (by kernel_rfl) (fun _ _ _ h => h) (Or.inl ⟨by rfl, ?hy71⟩) (by assumption) ?rest71
              case hy71 => (intro wS hSw; (try dsimp only at hSw); go_simp; (try with_reducible rfl))
              (try simp only [Act.put, zA, zB, zC])
              refine wpAnyH_take (i := 21) (oi := ⟨some 136, _, _, _, _, some (7, false)⟩) (v := ?v72) rfl (by kernel_rfl) (by kernel_rfl) (by kernel_rfl) (fun _ _ _ h => h) (Or.inl ⟨by rfl, ?hy72⟩) (by assumption) ?rest72
              case hy72 => (intro wS hSw; (try dsimp only at hSw); go_simp; (try with_reducible rfl))
              (try simp only [Act.put, zA, zB, zC])
              refine wpAnyH_take (i := 22) (oi := ⟨some 137, _, _, _, _, none⟩) (v := ?v73) rfl (by kernel_rfl) (by kernel_rfl) (by kernel_rfl) (fun _ _ _ h => h) (Or.inl ⟨by rfl, ?hy73⟩) (by assumption) ?rest73
              case hy73 => (intro wS hSw; (try dsimp only at hSw); go_simp; (try with_reducible rfl))
              (try simp only [Act.put, zA, zB, zC])
              refine wpAnyH_done (by kernel_rfl) ?_ _
              clear q0 u0 q1 u1 q2 u2 q3 u3 q4 u4 q5 u5 q6 u6 q7 u7 q8 u8 q9 u9 q10 u10
              go_wp2
              go_ret
              exact ⟨ret_boolE (by rw [HE.out, HE2.out]), FW.out.drew.trans f3⟩
        · have b8 := (PB.out.fr FR.out (fun e => e)).cell 8
          simp [pdC, kidV] at b8
          have HE2 := Lib.hid (all_yes (op := 6) (by have := HL.out; omega) HT.out)
          clear HT
          go_wp2
          go_ret
          exact ⟨ret_boolE (by rw [HE.out, HE2.out]), FW.out⟩
  · have HE1 : Hid (r = false) := Lib.hid (by rw [HE0.out, decide_eq_false h0]; simp)
    have hb : n < 2 := by omega
    clear HE0
    go_enter Tryz.func109, Tryz.ntmps109
    go_wp2
    go_ret
    exact ⟨ret_boolE HE1.out.symm, (((Fr.refl Non w).alloc _).alloc _).alloc _⟩
set_option maxHeartbeats 8000000 in
theorem rone7_any (h0_ : Ph) (ks : List Pd) (t : Kv) (w : World) (hop : h0_.op = 7) (hk : Kd w t ks) (hl : ks.length ≤ 1000) (hcl : h0_.col.length ≤ 1000)
    (IH : Hid (∀ k (h : k < ks.length) (W : World) (t' : Kv), Kd W t' ks[k].kids → Calls Tryz.prog 109 #[pdV ks[k].hd t'] W fun e w' => e = .returned (.bool (oneP ks[k])) ∧ Fr Non W w')) :
    Calls Tryz.prog 109 #[pdV h0_ t] w fun e w' => e = .returned (.bool (oneP (.mk h0_ ks))) ∧ Fr Non w w' := by
  have hn : t.n = ks.length := hk.len
  have N1 := Lib.hid (fun W => rname_any h0_.col W (by omega))
  have M1 := Lib.hid (fun W => rmay_any h0_.kind false h0_.val W)
  have HE := Lib.hid (one_base h0_ ks t.n hn)
  generalize oneP (.mk h0_ ks) = r at *
  have HK : Hid (Kd w t ks) := Lib.hid hk
  have PB0 : Hid (∀ b d, PdB (((w.alloc (.cells (pdC h0_ t) 28)).alloc b).alloc d) w.heap.size h0_ t) := Lib.hid (fun b d => (pd_new w _ h0_ t rfl).fr (((Fr.refl Non _).alloc b).alloc d) (fun e => e))
  obtain ⟨op, col, cmp, ⟨vn, vi, vt⟩, kind, pat⟩ := h0_
  obtain ⟨A, n, c⟩ := t
  dsimp only at hn hop hcl HE
  have HL := Lib.hid hn
  have hn20 : n ≤ 1000 := by omega
  have hs := slen pat
  clear hn hk hl
  unfold pdV pdC kidV
  unfold clV clC at M1
  dsimp only at *
  subst hop
  have FL := Lib.hid (fun W => flat_any ⟨7, col, cmp, ⟨vn, vi, vt⟩, kind, pat⟩ ⟨7, [], 0, zCl, 0, []⟩ noKv noKv W)
  have HE0 : Hid (r = (baseOk ⟨7, col, cmp, ⟨vn, vi, vt⟩, kind, pat⟩ n && ks.all (okk 7))) := HE
  clear HE
  unfold pdV pdC kidV noKv at FL
  replace HE0 : Hid (r = (decide (1 < n) && peq ⟨7, col, cmp, ⟨vn, vi, vt⟩, kind, pat⟩ ⟨7, [], 0, zCl, 0, []⟩ && ks.all (okk 7))) := HE0
  generalize peq ⟨7, col, cmp, ⟨vn, vi, vt⟩, kind, pat⟩ ⟨7, [], 0, zCl, 0, []⟩ = q at *
  unfold zCl at FL
  dsimp only at FL
  clear N1 M1
  by_cases h0 : 1 < n
  · have hb : ¬ n < 2 := by omega
    have HE1 : Hid (r = (q && ks.all (okk 7))) := Lib.hid (by rw [HE0.out, decide_eq_true h0]; simp)
    clear HE0
    have HE0 := HE1
    clear HE1
    go_enter Tryz.func109, Tryz.ntmps109
    go_wp2_with fail
    refine (FL.out _).mono ?_
    rintro e w1 ⟨rfl, f1⟩
    have F1 := Lib.hid ((((((Fr.refl Non w).alloc _).alloc _).alloc _)).trans f1)
    have PB := Lib.hid (((PB0.out _ _)).fr f1 (fun e => e))
    have HK1 := HK
    obtain ⟨g0, g1, g2, g3, g4, g5, g6, g7, g8⟩ := pdB_cells PB.out
    dsimp only at g0 g1 g2 g3 g4 g5 g6 g7 g8
    clear f1 HK1
    cases q
    · go_wp2
      go_ret
      exact ⟨ret_boolE (by rw [HE0.out]; simp), F1.out⟩
    · have HE : Hid (r = ks.all (okk 7)) := Lib.hid (by rw [HE0.out]; simp)
      clear HE0
      go_wp2
      go_loopw [5] (fun i wr => ∃ k : Nat, k ≤ n ∧ i = .int .i64 k ∧ Hid (∀ j (h : j < ks.length), j < k → okk 7 ks[j] = true) ∧ Hid (Fr Non w1 wr)) (fun i _ => n - (intOf i).toNat)
      case atStart => exact ⟨0, Nat.zero_le _, rfl, Lib.hid (fun _ _ h => by omega), Lib.hid (Fr.refl _ _)⟩
      case round =>
        clear g0 g1 g2 g3 g4 g5 g6 g7 g8
        obtain ⟨k, hk, rfl, HT, FR⟩ := hrel
        have FW := Lib.hid (F1.out.trans FR.out)
        by_cases hlt : k < n
        · have hlt2 : k < ks.length := by have := HL.out; omega
          obtain ⟨a, t, hA, hc2, hkk, _⟩ := HK.out.elN FW.out.drew k hlt2
          have HCw := Lib.hid (IH.out k hlt2 wr.drew t (hkk.non FW.out.drew))
          obtain ⟨b0, b1, b2, b3, b4, b5, b6, b7, b8⟩ := pdB_cells (PB.out.fr FR.out (fun e => e))
          have HY := Lib.hid (fun e => okk_more (op := 7) HT.out hlt2 e)
          have HX := Lib.hid (fun e => all_no (op := 7) hlt2 e)
          dsimp only at hA b0 b8
          subst hA
          have q0 : wr.drew.cell? ⟨w.heap.size, 0, none⟩ = _ := b0
          have q1 : wr.drew.cell? ⟨w.heap.size, 8, none⟩ = _ := b8
          obtain ⟨q2, q3, q4, q5, q6, q7, q8, q9, q10⟩ := hc2
          clear hkk HT b1 b2 b3 b4 b5 b6 b7
          have HD : Hid (okk 7 ks[k] = (oneP ks[k] && !(decide (6 ≤ (7 : Int)) && ks[k].hd.op == 7))) := Lib.hid rfl
          generalize ho : oneP ks[k] = b at *
          generalize okk 7 ks[k] = bb at *
          clear ho
          generalize ks[k].hd = x at *
          obtain ⟨xo, xc, xm, ⟨xn, xi, xt⟩, xk, xp⟩ := x
          obtain ⟨tA, tn, tc⟩ := t
          unfold pdV pdC kidV at HCw
          dsimp only at HCw q2 q3 q4 q5 q6 q7 q8 q9 q10 HD
          cases b
          · have HE2 := Lib.hid (HX.out (by rw [HD.out]; rfl))
            have HC := HCw
            clear HX HY HCw HD
            go_wp2
            refine wp_region_held_drew (S := (fun W => W.cell? ⟨w.heap.size, 0, none⟩ = some (.int .i64 7) ∧ W.cell? ⟨w.heap.size, 8, none⟩ = some (.slice (some a) n c) ∧ W.cell? (a.add (k * 9)) = some (.int .i64 xo) ∧ W.cell? { block := (a.add (k * 9)).block, off := (a.add (k * 9)).off + 1 } = some (.string ⟨xc.toArray⟩) ∧ W.cell? { block := (a.add (k * 9)).block, off := (a.add (k * 9)).off + 2 } = some (.int .i64 xm) ∧ W.cell? { block := (a.add (k * 9)).block, off := (a.add (k * 9)).off + 3 } = some (.bool xn) ∧ W.cell? { block := (a.add (k * 9)).block, off := (a.add (k * 9)).off + 4 } = some (.int .i64 xi) ∧ W.cell? { block := (a.add (k * 9)).block, off := (a.add (k * 9)).off + 5 } = some (.string ⟨xt.toArray⟩) ∧ W.cell? { block := (a.add (k * 9)).block, off := (a.add (k * 9)).off + 6 } = some (.int .i64 xk) ∧ W.cell? { block := (a.add (k * 9)).block, off := (a.add (k * 9)).off + 7 } = some (.string ⟨xp.toArray⟩) ∧ W.cell? { block := (a.add (k * 9)).block, off := (a.add (k * 9)).off + 8 } = some (.slice tA tn tc))) (by kernel_rfl) (by exact ⟨q0, q1, q2, q3, q4, q5, q6, q7, q8, q9, q10⟩) (fun hHeld => ?_)
            refine wpAnyH_take (i := 0) (oi := ⟨some 115, _, _, _, _, none⟩) (v := ?v74) rfl (by kernel_rfl) (by kernel_rfl) (by kernel_rfl) (fun _ _ _ h => h) (Or.inl ⟨by rfl, ?hy74⟩) (by assumption) ?rest74
            case hy74 => (intro wS hSw; (try dsimp only at hSw); go_simp; (try with_reducible rfl))
            (try simp only [Act.put, zA, zB, zC])
            refine wpAnyH_take (i := 1) (oi := ⟨some 116, _, _, _, _, none⟩) (v := ?v75) rfl (by kernel_rfl) (by kernel_rfl) (by kernel_rfl) (fun _ _ _ h => h) (Or.inl ⟨by rfl, ?hy75⟩) (by assumption) ?rest75
            case hy75 => (intro wS hSw; (try dsimp only at hSw); go_simp; (try with_reducible rfl))
            (try simp only [Act.put, zA, zB, zC])
            refine wpAnyH_take (i := 2) (oi := ⟨some 117, _, _, _, _, none⟩) (v := ?v76) rfl (by kernel_rfl) (by kernel_rfl) (by kernel_rfl) (fun _ _ _ h => h) (Or.inl ⟨by rfl, ?hy76⟩) (by assumption) ?rest76
            case hy76 => (intro wS hSw; (try dsimp only at hSw); go_simp; (try with_reducible rfl))
            (try simp only [Act.put, zA, zB, zC])
            refine wpAnyH_take (i := 3) (oi := ⟨some 118, _, _, _, _, none⟩) (v := ?v77) rfl (by kernel_rfl) (by kernel_rfl) (by kernel_rfl) (fun _ _ _ h => h) (Or.inl ⟨by rfl, ?hy77⟩) (by assumption) ?rest77
            case hy77 => (intro wS hSw; (try dsimp only at hSw); go_simp; (try with_reducible rfl))
            (try simp only [Act.put, zA, zB, zC])
            refine wpAnyH_take (i := 4) (oi := ⟨some 119, _, _, _, _, none⟩) (v := ?v78) rfl (by kernel_rfl) (by kernel_rfl) (by kernel_rfl) (fun _ _ _ h => h) (Or.inl ⟨by rfl, ?hy78⟩) (by assumption) ?rest78
            case hy78 => (intro wS hSw; (try dsimp only at hSw); go_simp; (try with_reducible rfl))
            (try simp only [Act.put, zA, zB, zC])
            refine wpAnyH_ready (rs := [5]) (by kernel_rfl) (by simp) ?_
            refine AllReadyH.cons (o := ⟨some 120, _, _, _, _, none⟩) rfl (fun K hK => ?_) AllReadyH.nil
            go_simp
            go_at_call 109
            (with_reducible refine HC.out.mono ?_)
            rintro e w3 ⟨rfl, f3⟩
            have u0 := (f3.cell (World.block_lt_of_cell? _ _ q0) (fun e => e)).trans q0
            have u1 := (f3.cell (World.block_lt_of_cell? _ _ q1) (fun e => e)).trans q1
            have u2 := (f3.cell (World.block_lt_of_cell? _ _ q2) (fun e => e)).trans q2
            have u3 := (f3.cell (World.block_lt_of_cell? _ _ q3) (fun e => e)).trans q3
            have u4 := (f3.cell (World.block_lt_of_cell? _ _ q4) (fun e => e)).trans q4
            have u5 := (f3.cell (World.block_lt_of_cell? _ _ q5) (fun e => e)).trans q5
            have u6 := (f3.cell (World.block_lt_of_cell? _ _ q6) (fun e => e)).trans q6
            have u7 := (f3.cell (World.block_lt_of_cell? _ _ q7) (fun e => e)).trans q7
            have u8 := (f3.cell (World.block_lt_of_cell? _ _ q8) (fun e => e)).trans q8
            have u9 := (f3.cell (World.block_lt_of_cell? _ _ q9) (fun e => e)).trans q9
            have u10 := (f3.cell (World.block_lt_of_cell? _ _ q10) (fun e => e)).trans q10
            go_wp2_with fail
            refine hK.out _ _ (by exact ⟨u0, u1, u2, u3, u4, u5, u6, u7, u8, u9, u10⟩) (fun hHeld => ?_)
            clear hK K
            (try simp only [Act.put, zA, zB, zC])
            refine wpAnyH_take (i := 6) (oi := ⟨some 121, _, _, _, _, none⟩) (v := ?v79) rfl (by kernel_rfl) (by kernel_rfl) (by kernel_rfl) (fun _ _ _ h => h) (Or.inl ⟨by rfl, ?hy79⟩) (by assumption) ?rest79
            case hy79 => (intro wS hSw; (try dsimp only at hSw); go_simp; (try with_reducible rfl))
            (try simp only [Act.put, zA, zB, zC])
            refine wpAnyH_take (i := 7) (oi := ⟨some 122, _, _, _, _, none⟩) (v := ?v80) rfl (by kernel_rfl) (by kernel_rfl) (by kernel_rfl) (fun _ _ _ h => h) (Or.inl ⟨by rfl, ?hy80⟩) (by assumption) ?rest80
            case hy80 => (intro wS hSw; (try dsimp only at hSw); go_simp; (try with_reducible rfl))
            (try simp only [Act.put, zA, zB, zC])
            refine wpAnyH_take (i := 8) (oi := ⟨some 123, _, _, _, _, some (7, false)⟩) (v := undef) rfl (by kernel_rfl) (by kernel_rfl) (by kernel_rfl) (fun _ _ _ h => h) (Or.inr ⟨by rfl, rfl⟩) (by assumption) ?_
            (try simp only [Act.put, zA, zB, zC])
            refine wpAnyH_take (i := 9) (oi := ⟨some 124, _, _, _, _, some (7, false)⟩) (v := undef) rfl (by kernel_rfl) (by kernel_rfl) (by kernel_rfl) (fun _ _ _ h => h) (Or.inr ⟨by rfl, rfl⟩) (by assumption) ?_
            (try simp only [Act.put, zA, zB, zC])
            refine wpAnyH_take (i := 10) (oi := ⟨some 125, _, _, _, _, some (7, false)⟩) (v := undef) rfl (by kernel_rfl) (by kernel_rfl) (by kernel_rfl) (fun _ _ _ h => h) (Or.inr ⟨by rfl, rfl⟩) (by assumption) ?_
            (try simp only [Act.put, zA, zB, zC])
            refine wpAnyH_take (i := 11) (oi := ⟨some 126, _, _, _, _, some (7, false)⟩) (v := undef) rfl (by kernel_rfl) (by kernel_rfl) (by kernel_rfl) (fun _ _ _ h => h) (Or.inr ⟨by rfl, rfl⟩) (by assumption) ?_
            (try simp only [Act.put, zA, zB, zC])
            refine wpAnyH_take (i := 12) (oi := ⟨some 127, _, _, _, _, some (11, true)⟩) (v := undef) rfl (by kernel_rfl) (by kernel_rfl) (by kernel_rfl) (fun _ _ _ h => h) (Or.inr ⟨by rfl, rfl⟩) (by assumption) ?_
            (try simp only [Act.put, zA, zB, zC])
            refine wpAnyH_take (i := 13) (oi := ⟨some 128, _, _, _, _, some (11, true)⟩) (v := undef) rfl (by kernel_rfl) (by kernel_rfl) (by kernel_rfl) (fun _ _ _ h => h) (Or.inr ⟨by rfl, rfl⟩) (by assumption) ?_
            (try simp only [Act.put, zA, zB, zC])
            refine wpAnyH_take (i := 14) (oi := ⟨some 129, _, _, _, _, some (11, true)⟩) (v := undef) rfl (by kernel_rfl) (by kernel_rfl) (by kernel_rfl) (fun _ _ _ h => h) (Or.inr ⟨by rfl, rfl⟩) (by assumption) ?_
            (try simp only [Act.put, zA, zB, zC])
            refine wpAnyH_take (i := 15) (oi := ⟨some 130, _, _, _, _, some (11, true)⟩) (v := undef) rfl (by kernel_rfl) (by kernel_rfl) (by kernel_rfl) (fun _ _ _ h => h) (Or.inr ⟨by rfl, rfl⟩) (by assumption) ?_
            (try simp only [Act.put, zA, zB, zC])
            refine wpAnyH_take (i := 16) (oi := ⟨some 131, _, _, _, _, some (11, true)⟩) (v := undef) rfl (by kernel_rfl) (by kernel_rfl) (by kernel_rfl) (fun _ _ _ h => h) (Or.inr ⟨by rfl, rfl⟩) (by assumption) ?_
            (try simp only [Act.put, zA, zB, zC])
            refine wpAnyH_take (i := 17) (oi := ⟨some 132, _, _, _, _, some (11, true)⟩) (v := undef) rfl (by kernel_rfl) (by kernel_rfl) (by kernel_rfl) (fun _ _ _ h => h) (Or.inr ⟨by rfl, rfl⟩) (by assumption) ?_
            (try simp only [Act.put, zA, zB, zC])
            refine wpAnyH_take (i := 18) (oi := ⟨some 133, _, _, _, _, some (11, true)⟩) (v := undef) rfl (by kernel_rfl) (by kernel_rfl) (by kernel_rfl) (fun _ _ _ h => h) (Or.inr ⟨by rfl, rfl⟩) (by assumption) ?_
            (try simp only [Act.put, zA, zB, zC])
            refine wpAnyH_take (i := 19) (oi := ⟨some 134, _, _, _, _, some (11, true)⟩) (v := undef) rfl (by kernel_rfl) (by kernel_rfl) (by kernel_rfl) (fun _ _ _ h => h) (Or.inr ⟨by rfl, rfl⟩) (by assumption) ?_
            (try simp only [Act.put, zA, zB, zC])
            refine wpAnyH_take (i := 20) (oi := ⟨some 135, _, _, _, _, some (11, true)⟩) (v := undef) rfl (by kernel_rfl) (by kernel_rfl) (by kernel_rfl) (fun _ _ _ h => h) (Or.inr ⟨by rfl, rfl⟩) (by assumption) ?_
            (try simp only [Act.put, zA, zB, zC])
            refine wpAnyH_take (i := 21) (oi := ⟨some 136, _, _, _, _, some (7, false)⟩) (v := undef) rfl (by kernel_rfl) (by kernel_rfl) (by kernel_rfl) (fun _ _ _ h => h) (Or.inr ⟨by rfl, rfl⟩) (by assumption) ?_
            (try simp only [Act.put, zA, zB, zC])
            refine wpAnyH_take (i := 22) (oi := ⟨some 137, _, _, _, _, none⟩) (v := ?v81) rfl (by kernel_rfl) (by kernel_rfl) (by kernel_rfl) (fun _ _ _ h => h) (Or.inl ⟨by rfl, ?hy81⟩) (by assumption) ?rest81
            case hy81 => (intro wS hSw; (try dsimp only at hSw); go_simp; (try with_reducible rfl))
            (try simp only [Act.put, zA, zB, zC])
            refine wpAnyH_done (by kernel_rfl) ?_ _
            clear q0 u0 q1 u1 q2 u2 q3 u3 q4 u4 q5 u5 q6 u6 q7 u7 q8 u8 q9 u9 q10 u10
            go_wp2
            go_ret
            exact ⟨ret_boolE (by rw [HE.out, HE2.out]), FW.out.drew.trans f3⟩
          · have HC := HCw
            clear HCw
            cases hx : (xo == 7)
            · have HE2 := Lib.hid (HY.out (by rw [HD.out, hx]; rfl))
              clear HX HY HD
              go_wp2
              refine wp_region_held_drew (S := (fun W => W.cell? ⟨w.heap.size, 0, none⟩ = some (.int .i64 7) ∧ W.cell? ⟨w.heap.size, 8, none⟩ = some (.slice (some a) n c) ∧ W.cell? (a.add (k * 9)) = some (.int .i64 xo) ∧ W.cell? { block := (a.add (k * 9)).block, off := (a.add (k * 9)).off + 1 } = some (.string ⟨xc.toArray⟩) ∧ W.cell? { block := (a.add (k * 9)).block, off := (a.add (k * 9)).off + 2 } = some (.int .i64 xm) ∧ W.cell? { block := (a.add (k * 9)).block, off := (a.add (k * 9)).off + 3 } = some (.bool xn) ∧ W.cell? { block := (a.add (k * 9)).block, off := (a.add (k * 9)).off + 4 } = some (.int .i64 xi) ∧ W.cell? { block := (a.add (k * 9)).block, off := (a.add (k * 9)).off + 5 } = some (.string ⟨xt.toArray⟩) ∧ W.cell? { block := (a.add (k * 9)).block, off := (a.add (k * 9)).off + 6 } = some (.int .i64 xk) ∧ W.cell? { block := (a.add (k * 9)).block, off := (a.add (k * 9)).off + 7 } = some (.string ⟨xp.toArray⟩) ∧ W.cell? { block := (a.add (k * 9)).block, off := (a.add (k * 9)).off + 8 } = some (.slice tA tn tc))) (by kernel_rfl) (by exact ⟨q0, q1, q2, q3, q4, q5, q6, q7, q8, q9, q10⟩) (fun hHeld => ?_)
              refine wpAnyH_take (i := 0) (oi := ⟨some 115, _, _, _, _, none⟩) (v := ?v82) rfl (by kernel_rfl) (by kernel_rfl) (by kernel_rfl) (fun _ _ _ h => h) (Or.inl ⟨by rfl, ?hy82⟩) (by assumption) ?rest82
              case hy82 => (intro wS hSw; (try dsimp only at hSw); go_simp; (try with_reducible rfl))
              (try simp only [Act.put, zA, zB, zC])
              refine wpAnyH_take (i := 1) (oi := ⟨some 116, _, _, _, _, none⟩) (v := ?v83) rfl (by kernel_rfl) (by kernel_rfl) (by kernel_rfl) (fun _ _ _ h => h) (Or.inl ⟨by rfl, ?hy83⟩) (by assumption) ?rest83
              case hy83 => (intro wS hSw; (try dsimp only at hSw); go_simp; (try with_reducible rfl))
              (try simp only [Act.put, zA, zB, zC])
              refine wpAnyH_take (i := 2) (oi := ⟨some 117, _, _, _, _, none⟩) (v := ?v84) rfl (by kernel_rfl) (by kernel_rfl) (by kernel_rfl) (fun _ _ _ h => h) (Or.inl ⟨by rfl, ?hy84⟩) (by assumption) ?rest84
              case hy84 => (intro wS hSw; (try dsimp only at hSw); go_simp; (try with_reducible rfl))
              (try simp only [Act.put, zA, zB, zC])
              refine wpAnyH_take (i := 3) (oi := ⟨some 118, _, _, _, _, none⟩) (v := ?v85) rfl (by kernel_rfl) (by kernel_rfl) (by kernel_rfl) (fun _ _ _ h => h) (Or.inl ⟨by rfl, ?hy85⟩) (by assumption) ?rest85
              case hy85 => (intro wS hSw; (try dsimp only at hSw); go_simp; (try with_reducible rfl))
              (try simp only [Act.put, zA, zB, zC])
              refine wpAnyH_take (i := 4) (oi := ⟨some 119, _, _, _, _, none⟩) (v := ?v86) rfl (by kernel_rfl) (by kernel_rfl) (by kernel_rfl) (fun _ _ _ h => h) (Or.inl ⟨by rfl, ?hy86⟩) (by assumption) ?rest86
              case hy86 => (intro wS hSw; (try dsimp only at hSw); go_simp; (try with_reducible rfl))
              (try simp only [Act.put, zA, zB, zC])
              refine wpAnyH_ready (rs := [5]) (by kernel_rfl) (by simp) ?_
              refine AllReadyH.cons (o := ⟨some 120, _, _, _, _, none⟩) rfl (fun K hK => ?_) AllReadyH.nil
              go_simp
              go_at_call 109
              (with_reducible refine HC.out.mono ?_)
              rintro e w3 ⟨rfl, f3⟩
              have u0 := (f3.cell (World.block_lt_of_cell? _ _ q0) (fun e => e)).trans q0
              have u1 := (f3.cell (World.block_lt_of_cell? _ _ q1) (fun e => e)).trans q1
              have u2 := (f3.cell (World.block_lt_of_cell? _ _ q2) (fun e => e)).trans q2
              have u3 := (f3.cell (World.block_lt_of_cell? _ _ q3) (fun e => e)).trans q3
              have u4 := (f3.cell (World.block_lt_of_cell? _ _ q4) (fun e => e)).trans q4
              have u5 := (f3.cell (World.block_lt_of_cell? _ _ q5) (fun e => e)).trans q5
              have u6 := (f3.cell (World.block_lt_of_cell? _ _ q6) (fun e => e)).trans q6
              have u7 := (f3.cell (World.block_lt_of_cell? _ _ q7) (fun e => e)).trans q7
              have u8 := (f3.cell (World.block_lt_of_cell? _ _ q8) (fun e => e)).trans q8
              have u9 := (f3.cell (World.block_lt_of_cell? _ _ q9) (fun e => e)).trans q9
              have u10 := (f3.cell (World.block_lt_of_cell? _ _ q10) (fun e => e)).trans q10
              go_wp2_with fail
              refine hK.out _ _ (by exact ⟨u0, u1, u2, u3, u4, u5, u6, u7, u8, u9, u10⟩) (fun hHeld => ?_)
              clear hK K
              (try simp only [Act.put, zA, zB, zC])
              refine wpAnyH_take (i := 6) (oi := ⟨some 121, _, _, _, _, none⟩) (v := ?v87) rfl (by kernel_rfl) (by kernel_rfl) (by kernel_rfl) (fun _ _ _ h => h) (Or.inl ⟨by rfl, ?hy87⟩) (by assumption) ?rest87
              case hy87 => (intro wS hSw; (try dsimp only at hSw); go_simp; (try with_reducible rfl))
              (try simp only [Act.put, zA, zB, zC])
              refine wpAnyH_take (i := 7) (oi := ⟨some 122, _, _, _, _, none⟩) (v := ?v88) rfl (by kernel_rfl) (by kernel_rfl) (by kernel_rfl) (fun _ _ _ h => h) (Or.inl ⟨by rfl, ?hy88⟩) (by assumption) ?rest88
              case hy88 => (intro wS hSw; (try dsimp only at hSw); go_simp; (try with_reducible rfl))
              (try simp only [Act.put, zA, zB, zC])
              refine wpAnyH_take (i := 8) (oi := ⟨some 123, _, _, _, _, some (7, false)⟩) (v := ?v89) rfl (by kernel_rfl) (by kernel_rfl) (by kernel_rfl) (fun _ _ _ h => h) (Or.inl ⟨by rfl, ?hy89⟩) (by assumption) ?rest89
              case hy89 => (intro wS hSw; (try dsimp only at hSw); go_simp; (try with_reducible rfl))
              (try simp only [Act.put, zA, zB, zC])
              refine wpAnyH_take (i := 9) (oi := ⟨some 124, _, _, _, _, some (7, false)⟩) (v := ?v90) rfl (by kernel_rfl) (by kernel_rfl) (by kernel_rfl) (fun _ _ _ h => h) (Or.inl ⟨by rfl, ?hy90⟩) (by assumption) ?rest90
              case hy90 => (intro wS hSw; (try dsimp only at hSw); go_simp; (try with_reducible rfl))
              (try simp only [Act.put, zA, zB, zC])
              refine wpAnyH_take (i := 10) (oi := ⟨some 125, _, _, _, _, some (7, false)⟩) (v := ?v91) rfl (by kernel_rfl) (by kernel_rfl) (by kernel_rfl) (fun _ _ _ h => h) (Or.inl ⟨by rfl, ?hy91⟩) (by assumption) ?rest91
              case hy91 => (intro wS hSw; (try dsimp only at hSw); go_simp; (try with_reducible rfl))
              (try simp only [Act.put, zA, zB, zC])
              refine wpAnyH_take (i := 11) (oi := ⟨some 126, _, _, _, _, some (7, false)⟩) (v := ?v92) rfl (by kernel_rfl) (by kernel_rfl) (by kernel_rfl) (fun _ _ _ h => h) (Or.inl ⟨by rfl, ?hy92⟩) (by assumption) ?rest92
              case hy92 => (intro wS hSw; (try dsimp only at hSw); go_simp; (try with_reducible rfl))
              (try simp only [Act.put, zA, zB, zC])
              refine wpAnyH_take (i := 12) (oi := ⟨some 127, _, _, _, _, some (11, true)⟩) (v := ?v93) rfl (by kernel_rfl) (by kernel_rfl) (by kernel_rfl) (fun _ _ _ h => h) (Or.inl ⟨by rfl, ?hy93⟩) (by assumption) ?rest93
              case hy93 => (intro wS hSw; (try dsimp only at hSw); go_simp; (try with_reducible rfl))
              (try simp only [Act.put, zA, zB, zC])
              refine wpAnyH_take (i := 13) (oi := ⟨some 128, _, _, _, _, some (11, true)⟩) (v := ?v94) rfl (by kernel_rfl) (by kernel_rfl) (by kernel_rfl) (fun _ _ _ h => h) (Or.inl ⟨by rfl, ?hy94⟩) (by assumption) ?rest94
              case hy94 => (intro wS hSw; (try dsimp only at hSw); go_simp; (try with_reducible rfl))
              (try simp only [Act.put, zA, zB, zC])
              refine wpAnyH_take (i := 14) (oi := ⟨some 129, _, _, _, _, some (11, true)⟩) (v := ?v95) rfl (by kernel_rfl) (by kernel_rfl) (by kernel_rfl) (fun _ _ _ h => h) (Or.inl ⟨by rfl, ?hy95⟩) (by assumption) ?rest95
              case hy95 => (intro wS hSw; (try dsimp only at hSw); go_simp; (try with_reducible rfl))
              (try simp only [Act.put, zA, zB, zC])
              refine wpAnyH_take (i := 15) (oi := ⟨some 130, _, _, _, _, some (11, true)⟩) (v := ?v96) rfl (by kernel_rfl) (by kernel_rfl) (by kernel_rfl) (fun _ _ _ h => h) (Or.inl ⟨by rfl, ?hy96⟩) (by assumption) ?rest96
              case hy96 => (intro wS hSw; (try dsimp only at hSw); go_simp; (try with_reducible rfl))
              (try simp only [Act.put, zA, zB, zC])
              refine wpAnyH_take (i := 16) (oi := ⟨some 131, _, _, _, _, some (11, true)⟩) (v := ?v97) rfl (by kernel_rfl) (by kernel_rfl) (by kernel_rfl) (fun _ _ _ h => h) (Or.inl ⟨by rfl, ?hy97⟩) (by assumption) ?rest97
              case hy97 => (intro wS hSw; (try dsimp only at hSw); go_simp; (try with_reducible rfl))
              (try simp only [Act.put, zA, zB, zC])
              refine wpAnyH_take (i := 17) (oi := ⟨some 132, _, _, _, _, some (11, true)⟩) (v := ?v98) rfl (by kernel_rfl) (by kernel_rfl) (by kernel_rfl) (fun _ _ _ h => h) (Or.inl ⟨by rfl, ?hy98⟩) (by assumption) ?rest98
              case hy98 => (intro wS hSw; (try dsimp only at hSw); go_simp; (try with_reducible rfl))
              (try simp only [Act.put, zA, zB, zC])
              refine wpAnyH_take (i := 18) (oi := ⟨some 133, _, _, _, _, some (11, true)⟩) (v := ?v99) rfl (by kernel_rfl) (by kernel_rfl) (by kernel_rfl) (fun _ _ _ h => h) (Or.inl ⟨by rfl, ?hy99⟩) (by assumption) ?rest99
              case hy99 => (intro wS hSw; (try dsimp only at hSw); go_simp; (try with_reducible rfl))
              (try simp only [Act.put, zA, zB, zC])
              refine wpAnyH_take (i := 19) (oi := ⟨some 134, _, _, _, _, some (11, true)⟩) (v := ?v100) rfl (by kernel_rfl) (by kernel_rfl) (by kernel_rfl) (fun _ _ _ h => h) (Or.inl ⟨by rfl, ?hy100⟩) (by assumption) ?rest100
              case hy100 => (intro wS hSw; (try dsimp only at hSw); go_simp; (try with_reducible rfl))
              (try simp only [Act.put, zA, zB, zC])
              refine wpAnyH_take (i := 20) (oi := ⟨some 135, _, _, _, _, some (11, true)⟩) (v := ?v101) rfl (by kernel_rfl) (by kernel_rfl) (by kernel_rfl) (fun _ _ _ h => h) (Or.inl ⟨by rfl, ?hy101⟩) (by assumption) ?rest101
              case hy101 => (intro wS hSw; (try dsimp only at hSw); go_simp; (try with_reducible rfl))
              (try simp only [Act.put, zA, zB, zC])
              refine wpAnyH_take (i := 21) (oi := ⟨some 136, _, _, _, _, some (7, false)⟩) (v := ?v102) rfl (by kernel_rfl) (by kernel_rfl) (by kernel_rfl) (fun _ _ _ h => h) (Or.inl ⟨by rfl, ?hy102⟩) (by assumption) ?rest102
              case hy102 => (intro wS hSw; (try dsimp only at hSw); go_simp; (try with_reducible rfl))
              (try simp only [Act.put, zA, zB, zC])
              refine wpAnyH_take (i := 22) (oi := ⟨some 137, _, _, _, _, none⟩) (v := ?v103) rfl (by kernel_rfl) (by kernel_rfl) (by kernel_rfl) (fun _ _ _ h => h) (Or.inl ⟨by rfl, ?hy103⟩) (by assumption) ?rest103
              case hy103 => (intro wS hSw; (try dsimp only at hSw); go_simp; (try with_reducible rfl))
              (try simp only [Act.put, zA, zB, zC])
              refine wpAnyH_done (by kernel_rfl) ?_ _
              clear q0 u0 q1 u1 q2 u2 q3 u3 q4 u4 q5 u5 q6 u6 q7 u7 q8 u8 q9 u9 q10 u10
              go_wp2
              go_roundw
              case rel => exact ⟨k + 1, by omega, by go_num, HE2, Lib.hid (FR.out.drew.trans f3)⟩
              case measure => simp [intOf]; omega
            · have HE2 := Lib.hid (HX.out (by rw [HD.out, hx]; rfl))
              clear HX HY HD
              go_wp2
              refine wp_region_held_drew (S := (fun W => W.cell? ⟨w.heap.size, 0, none⟩ = some (.int .i64 7) ∧ W.cell? ⟨w.heap.size, 8, none⟩ = some (.slice (some a) n c) ∧ W.cell? (a.add (k * 9)) = some (.int .i64 xo) ∧ W.cell? { block := (a.add (k * 9)).block, off := (a.add (k * 9)).off + 1 } = some (.string ⟨xc.toArray⟩) ∧ W.cell? { block := (a.add (k * 9)).block, off := (a.add (k * 9)).off + 2 } = some (.int .i64 xm) ∧ W.cell? { block := (a.add (k * 9)).block, off := (a.add (k * 9)).off + 3 } = some (.bool xn) ∧ W.cell? { block := (a.add (k * 9)).block, off := (a.add (k * 9)).off + 4 } = some (.int .i64 xi) ∧ W.cell? { block := (a.add (k * 9)).block, off := (a.add (k * 9)).off + 5 } = some (.string ⟨xt.toArray⟩) ∧ W.cell? { block := (a.add (k * 9)).block, off := (a.add (k * 9)).off + 6 } = some (.int .i64 xk) ∧ W.cell? { block := (a.add (k * 9)).block, off := (a.add (k * 9)).off + 7 } = some (.string ⟨xp.toArray⟩) ∧ W.cell? { block := (a.add (k * 9)).block, off := (a.add (k * 9)).off + 8 } = some (.slice tA tn tc))) (by kernel_rfl) (by exact ⟨q0, q1, q2, q3, q4, q5, q6, q7, q8, q9, q10⟩) (fun hHeld => ?_)
              refine wpAnyH_take (i := 0) (oi := ⟨some 115, _, _, _, _, none⟩) (v := ?v104) rfl (by kernel_rfl) (by kernel_rfl) (by kernel_rfl) (fun _ _ _ h => h) (Or.inl ⟨by rfl, ?hy104⟩) (by assumption) ?rest104
              case hy104 => (intro wS hSw; (try dsimp only at hSw); go_simp; (try with_reducible rfl))
              (try simp only [Act.put, zA, zB, zC])
              refine wpAnyH_take (i := 1) (oi := ⟨some 116, _, _, _, _, none⟩) (v := ?v105) rfl (by kernel_rfl) (by kernel_rfl) (by kernel_rfl) (fun _ _ _ h => h) (Or.inl ⟨by rfl, ?hy105⟩) (by assumption) ?rest105
              case hy105 => (intro wS hSw; (try dsimp only at hSw); go_simp; (try with_reducible rfl))
              (try simp only [Act.put, zA, zB, zC])
              refine wpAnyH_take (i := 2) (oi := ⟨some 117, _, _, _, _, none⟩) (v := ?v106) rfl (by kernel_rfl) (by kernel_rfl) (by kernel_rfl) (fun _ _ _ h => h) (Or.inl ⟨by rfl, ?hy106⟩) (by assumption) ?rest106
              case hy106 => (intro wS hSw; (try dsimp only at hSw); go_simp; (try with_reducible rfl))
              (try simp only [Act.put, zA, zB, zC])
              refine wpAnyH_take (i := 3) (oi := ⟨some 118, _, _, _, _, none⟩) (v := ?v107) rfl (by kernel_rfl) (by kernel_rfl) (by kernel_rfl) (fun _ _ _ h => h) (Or.inl ⟨by rfl, ?hy107⟩) (by assumption) ?rest107
              case hy107 => (intro wS hSw; (try dsimp only at hSw); go_simp; (try with_reducible rfl))
              (try simp only [Act.put, zA, zB, zC])
              refine wpAnyH_take (i := 4) (oi := ⟨some 119, _, _, _, _, none⟩) (v := ?v108) rfl (by kernel_rfl) (by kernel_rfl) (by kernel_rfl) (fun _ _ _ h => h) (Or.inl ⟨by rfl, ?hy108⟩) (by assumption) ?rest108
              case hy108 => (intro wS hSw; (try dsimp only at hSw); go_simp; (try with_reducible rfl))
              (try simp only [Act.put, zA, zB, zC])
              refine wpAnyH_ready (rs := [5]) (by kernel_rfl) (by simp) ?_
              refine AllReadyH.cons (o := ⟨some 120, _, _, _, _, none⟩) rfl (fun K hK => ?_) AllReadyH.nil
              go_simp
              go_at_call 109
              (with_reducible refine HC.out.mono ?_)
              rintro e w3 ⟨rfl, f3⟩
              have u0 := (f3.cell (World.block_lt_of_cell? _ _ q0) (fun e => e)).trans q0
              have u1 := (f3.cell (World.block_lt_of_cell? _ _ q1) (fun e => e)).trans q1
              have u2 := (f3.cell (World.block_lt_of_cell? _ _ q2) (fun e => e)).trans q2
              have u3 := (f3.cell (World.block_lt_of_cell? _ _ q3) (fun e => e)).trans q3
              have u4 := (f3.cell (World.block_lt_of_cell? _ _ q4) (fun e => e)).trans q4
              have u5 := (f3.cell (World.block_lt_of_cell? _ _ q5) (fun e => e)).trans q5
              have u6 := (f3.cell (World.block_lt_of_cell? _ _ q6) (fun e => e)).trans q6
              have u7 := (f3.cell (World.block_lt_of_cell? _ _ q7) (fun e => e)).trans q7
              have u8 := (f3.cell (World.block_lt_of_cell? _ _ q8) (fun e => e)).trans q8
              have u9 := (f3.cell (World.block_lt_of_cell? _ _ q9) (fun e => e)).trans q9
              have u10 := (f3.cell (World.block_lt_of_cell? _ _ q10) (fun e => e)).trans q10
              go_wp2_with fail
              refine hK.out _ _ (by exact ⟨u0, u1, u2, u3, u4, u5, u6, u7, u8, u9, u10⟩) (fun hHeld => ?_)
              clear hK K
              (try simp only [Act.put, zA, zB, zC])
              refine wpAnyH_take (i := 6) (oi := ⟨some 121, _, _, _, _, none⟩) (v := ?v109) rfl (by kernel_rfl) (by kernel_rfl) (by kernel_rfl) (fun _ _ _ h => h) (Or.inl ⟨by rfl, ?hy109⟩) (by assumption) ?rest109
              case hy109 => (intro wS hSw; (try dsimp only at hSw); go_simp; (try with_reducible rfl))
              (try simp only [Act.put, zA, zB, zC])
              refine wpAnyH_take (i := 7) (oi := ⟨some 122, _, _, _, _, none⟩) (v := ?v110) rfl (by kernel_rfl) (by kernel_rfl) (by kernel_rfl) (fun _ _ _ h => h) (Or.inl ⟨by rfl, ?hy110⟩) (by assumption) ?rest110
              case hy110 => (intro wS hSw; (try dsimp only at hSw); go_simp; (try with_reducible rfl))
              (try simp only [Act.put, zA, zB, zC])
              refine wpAnyH_take (i := 8) (oi := ⟨some 123, _, _, _, _, some (7, false)⟩) (v := ?v111) rfl (by kernel_rfl) (by kernel_rfl) (by kernel_rfl) (fun _ _ _ h => h) (Or.inl ⟨by rfl, ?hy111⟩) (by assumption) ?rest111
              case hy111 => (intro wS hSw; (try dsimp only at hSw); go_simp; (try with_reducible rfl))
              (try simp only [Act.put, zA, zB, zC])
              refine wpAnyH_take (i := 9) (oi := ⟨some 124, _, _, _, _, some (7, false)⟩) (v := ?v112) rfl (by kernel_rfl) (by kernel_rfl) (by kernel_rfl) (fun _ _ _ h => h) (Or.inl ⟨by rfl, ?hy112⟩) (by assumption) ?rest112
              case hy112 => (intro wS hSw; (try dsimp only at hSw); go_simp; (try with_reducible rfl))
              (try simp only [Act.put, zA, zB, zC])
              refine wpAnyH_take (i := 10) (oi := ⟨some 125, _, _, _, _, some (7, false)⟩) (v := ?v113) rfl (by kernel_rfl) (by kernel_rfl) (by kernel_rfl) (fun _ _ _ h => h) (Or.inl ⟨by rfl, ?hy113⟩) (by assumption) ?rest113
              case hy113 => (intro wS hSw; (try dsimp only at hSw); go_simp; (try with_reducible rfl))
              (try simp only [Act.put, zA, zB, zC])
              refine wpAnyH_take (i := 11) (oi := ⟨some 126, _, _, _, _, some (7, false)⟩) (v := ?v114) rfl (by kernel_rfl) (by kernel_rfl) (by kernel_rfl) (fun _ _ _ h => h) (Or.inl ⟨by rfl, ?hy114⟩) (by assumption) ?rest114
              case hy114 => (intro wS hSw; (try dsimp only at hSw); go_simp; (try with_reducible rfl))
              (try simp only [Act.put, zA, zB, zC])
              refine wpAnyH_take (i := 12) (oi := ⟨some 127, _, _, _, _, some (11, true)⟩) (v := ?v115) rfl (by kernel_rfl) (by kernel_rfl) (by kernel_rfl) (fun _ _ _ h => h) (Or.inl ⟨by rfl, ?hy115⟩) (by assumption) ?rest115
              case hy115 => (intro wS hSw; (try dsimp only at hSw); go_simp; (try with_reducible rfl))
              (try simp only [Act.put, zA, zB, zC])
              refine wpAnyH_take (i := 13) (oi := ⟨some 128, _, _, _, _, some (11, true)⟩) (v := ?v116) rfl (by kernel_rfl) (by kernel_rfl) (by kernel_rfl) (fun _ _ _ h => h) (Or.inl ⟨by rfl, ?hy116⟩) (by assumption) ?rest116
              case hy116 => (intro wS hSw; (try dsimp only at hSw); go_simp; (try with_reducible rfl))
              (try simp only [Act.put, zA, zB, zC])
              refine wpAnyH_take (i := 14) (oi := ⟨some 129, _, _, _, _, some (11, true)⟩) (v := ?v117) rfl (by kernel_rfl) (by kernel_rfl) (by kernel_rfl) (fun _ _ _ h => h) (Or.inl ⟨by rfl, ?hy117⟩) (by assumption) ?rest117
              case hy117 => (intro wS hSw; (try dsimp only at hSw); go_simp; (try with_reducible rfl))
              (try simp only [Act.put, zA, zB, zC])
              refine wpAnyH_take (i := 15) (oi := ⟨some 130, _, _, _, _, some (11, true)⟩) (v := ?v118) rfl (by kernel_rfl) (by kernel_rfl) (by kernel_rfl) (fun _ _ _ h => h) (Or.inl ⟨by rfl, ?hy118⟩) (by assumption) ?rest118
              case hy118 => (intro wS hSw; (try dsimp only at hSw); go_simp; (try with_reducible rfl))
              (try simp only [Act.put, zA, zB, zC])
              refine wpAnyH_take (i := 16) (oi := ⟨some 131, _, _, _, _, some (11, true)⟩) (v := ?v119) rfl (by kernel_rfl) (by kernel_rfl) (by kernel_rfl) (fun _ _ _ h => h) (Or.inl ⟨by rfl, ?hy119⟩) (by assumption) ?rest119
              case hy119 => (intro wS hSw; (try dsimp only at hSw); go_simp; (try with_reducible rfl))
              (try simp only [Act.put, zA, zB, zC])
              refine wpAnyH_take (i := 17) (oi := ⟨some 132, _, _, _, _, some (11, true)⟩) (v := ?v120) rfl (by kernel_rfl) (by kernel_rfl) (by kernel_rfl) (fun _ _ _ h => h) (Or.inl ⟨by rfl, ?hy120⟩) (by assumption) ?rest120
              case hy120 => (intro wS hSw; (try dsimp only at hSw); go_simp; (try with_reducible rfl))
              (try simp only [Act.put, zA, zB, zC])
              refine wpAnyH_take (i := 18) (oi := ⟨some 133, _, _, _, _, some (11, true)⟩) (v := ?v121) rfl (by kernel_rfl) (by kernel_rfl) (by kernel_rfl) (fun _ _ _ h => h) (Or.inl ⟨by rfl, ?hy121⟩) (by assumption) ?rest121
              case hy121 => (intro wS hSw; (try dsimp only at hSw); go_simp; (try with_reducible rfl))
              (try simp only [Act.put, zA, zB, zC])
              refine wpAnyH_take (i := 19) (oi := ⟨some 134, _, _, _, _, some (11, true)⟩) (v := ?v122) rfl (by kernel_rfl) (by kernel_rfl) (by kernel_rfl) (fun _ _ _ h => h) (Or.inl ⟨by rfl, ?hy122⟩) (by assumption) ?rest122
              case hy122 => (intro wS hSw; (try dsimp only at hSw); go_simp; (try with_reducible rfl))
              (try simp only [Act.put, zA, zB, zC])
              refine wpAnyH_take (i := 20) (oi := ⟨some 135, _, _, _, _, some (11, true)⟩) (v := ?v123) rfl (by kernel_rfl) (by kernel_rfl) (by kernel_rfl) (fun _ _ _ h => h) (Or.inl ⟨by rfl, ?hy123⟩) (by assumption) ?rest123
              case hy123 => (intro wS hSw; (try dsimp only at hSw); go_simp; (try with_reducible rfl))
              (try simp only [Act.put, zA, zB, zC])
              refine wpAnyH_take (i := 21) (oi := ⟨some 136, _, _, _, _, some (7, false)⟩) (v := ?v124) rfl (by kernel_rfl) (by kernel_rfl) (by kernel_rfl) (fun _ _ _ h => h) (Or.inl ⟨by rfl, ?hy124⟩) (by assumption) ?rest124
              case hy124 => (intro wS hSw; (try dsimp only at hSw); go_simp; (try with_reducible rfl))
              (try simp only [Act.put, zA, zB, zC])
              refine wpAnyH_take (i := 22) (oi := ⟨some 137, _, _, _, _, none⟩) (v := ?v125) rfl (by kernel_rfl) (by kernel_rfl) (by kernel_rfl) (fun _ _ _ h => h) (Or.inl ⟨by rfl, ?hy125⟩) (by assumption) ?rest125
              case hy125 => (intro wS hSw; (try dsimp only at hSw); go_simp; (try with_reducible rfl))
              (try simp only [Act.put, zA, zB, zC])
              refine wpAnyH_done (by kernel_rfl) ?_ _
              clear q0 u0 q1 u1 q2 u2 q3 u3 q4 u4 q5 u5 q6 u6 q7 u7 q8 u8 q9 u9 q10 u10
              go_wp2
              go_ret
              exact ⟨ret_boolE (by rw [HE.out, HE2.out]), FW.out.drew.trans f3⟩
        · have b8 := (PB.out.fr FR.out (fun e => e)).cell 8
          simp [pdC, kidV] at b8
          have HE2 := Lib.hid (all_yes (op := 7) (by have := HL.out; omega) HT.out)
          clear HT
          go_wp2
          go_ret
          exact ⟨ret_boolE (by rw [HE.out, HE2.out]), FW.out⟩
  · have HE1 : Hid (r = false) := Lib.hid (by rw [HE0.out, decide_eq_false h0]; simp)
    have hb : n < 2 := by omega
    clear HE0
    go_enter Tryz.func109, Tryz.ntmps109
    go_wp2
    go_ret
    exact ⟨ret_boolE HE1.out.symm, (((Fr.refl Non w).alloc _).alloc _).alloc _⟩
set_option maxHeartbeats 8000000 in
theorem rone0_any (h0_ : Ph) (ks : List Pd) (t : Kv) (w : World) (hop : ¬ h0_.op = 1 ∧ ¬ h0_.op = 2 ∧ ¬ h0_.op = 3 ∧ ¬ h0_.op = 4 ∧ ¬ h0_.op = 5 ∧ ¬ h0_.op = 6 ∧ ¬ h0_.op = 7) (hk : Kd w t ks) (hl : ks.length ≤ 1000) (hcl : h0_.col.length ≤ 1000)
    (IH : Hid (∀ k (h : k < ks.length) (W : World) (t' : Kv), Kd W t' ks[k].kids → Calls Tryz.prog 109 #[pdV ks[k].hd t'] W fun e w' => e = .returned (.bool (oneP ks[k])) ∧ Fr Non W w')) :
    Calls Tryz.prog 109 #[pdV h0_ t] w fun e w' => e = .returned (.bool (oneP (.mk h0_ ks))) ∧ Fr Non w w' := by
  have hn : t.n = ks.length := hk.len
  have N1 := Lib.hid (fun W => rname_any h0_.col W (by omega))
  have M1 := Lib.hid (fun W => rmay_any h0_.kind false h0_.val W)
  have HE := Lib.hid (one_base h0_ ks t.n hn)
  generalize oneP (.mk h0_ ks) = r at *
  have HK : Hid (Kd w t ks) := Lib.hid hk
  have PB0 : Hid (∀ b d, PdB (((w.alloc (.cells (pdC h0_ t) 28)).alloc b).alloc d) w.heap.size h0_ t) := Lib.hid (fun b d => (pd_new w _ h0_ t rfl).fr (((Fr.refl Non _).alloc b).alloc d) (fun e => e))
  obtain ⟨op, col, cmp, ⟨vn, vi, vt⟩, kind, pat⟩ := h0_
  obtain ⟨A, n, c⟩ := t
  dsimp only at hn hop hcl HE
  have HL := Lib.hid hn
  have hn20 : n ≤ 1000 := by omega
  have hs := slen pat
  clear hn hk hl
  unfold pdV pdC kidV
  unfold clV clC at M1
  dsimp only at *
  obtain ⟨h1, h2, h3, h4, h5, h6, h7⟩ := hop
  have HE1 : Hid (r = false) := Lib.hid (by rw [HE.out]; unfold baseOk; simp [h1, h2, h3, h4, h5, h6, h7])
  clear HE N1 M1
  go_enter Tryz.func109, Tryz.ntmps109
  go_wp2
  go_ret
  exact ⟨ret_boolE HE1.out.symm, (((Fr.refl Non w).alloc _).alloc _).alloc _⟩
theorem ronep_any (p : Pd) : ∀ (t : Kv) (w : World), Kd w t p.kids → bigP p = true →
    Calls Tryz.prog 109 #[pdV p.hd t] w fun e w' => e = .returned (.bool (oneP p)) ∧ Fr Non w w' := by
  induction p using Pd.ind with
  | h hd ks ih =>
    intro t w hk hlen
    have hls := bigP_mk hlen
    have IH : Hid (∀ k (h : k < ks.length) (W : World) (t' : Kv), Kd W t' ks[k].kids → Calls Tryz.prog 109 #[pdV ks[k].hd t'] W fun e w' => e = .returned (.bool (oneP ks[k])) ∧ Fr Non W w') :=
      Lib.hid (fun k h W t' hk' => ih _ (List.getElem_mem h) t' W hk' (hls.2.2.2.2 _ (List.getElem_mem h)))
    by_cases h1 : hd.op = 1
    · exact rone1_any hd ks t w h1 hk hls.1 hls.2.1 IH
    · by_cases h2 : hd.op = 2
      · exact rone2_any hd ks t w h2 hk hls.1 hls.2.1 IH
      · by_cases h3 : hd.op = 3
        · exact rone3_any hd ks t w h3 hk hls.1 hls.2.1 IH
        · by_cases h4 : hd.op = 4
          · exact rone4_any hd ks t w h4 hk hls.1 hls.2.1 IH
          · by_cases h5 : hd.op = 5
            · exact rone5_any hd ks t w h5 hk hls.1 hls.2.1 IH
            · by_cases h6 : hd.op = 6
              · exact rone6_any hd ks t w h6 hk hls.1 hls.2.1 IH
              · by_cases h7 : hd.op = 7
                · exact rone7_any hd ks t w h7 hk hls.1 hls.2.1 IH
                · exact rone0_any hd ks t w ⟨h1, h2, h3, h4, h5, h6, h7⟩ hk hls.1 hls.2.1 IH
end Go.Proofs.YtjcfjjhhbcgcmaaGreat
