/-
  Layer 7: the walk of tight.Put.
-/
import Derived.Test.YtdniififoahlaaaTight2
import Derived.Test.YtdniififoahlaaaLen64
import Derived.Test.YtdniififoahlaaaLib1
namespace Go.Proofs.Ytdniififoahlaaa
set_option linter.unusedVariables false
set_option linter.unusedSimpArgs false
open Go.RowKit

theorem cell_al {w : World} {p : Addr} {u : Value} {o : Obj} (h : w.cell? p = some u) : (w.alloc o).cell? p = some u :=
  (((Fr.refl Non w).alloc o).cell (World.block_lt_of_cell? w _ h) (fun e => e)).trans h

theorem bs_byte (w2 : World) {k : Nat} (hk : k ≤ 64) : Bs (w2.alloc (.cells #[.int .u8 ((k : Int) % 256)] 5)) (.slice (some ⟨w2.heap.size, 0, none⟩) 1 1) [k.toUInt8] := by
  have := bs_row w2 [k.toUInt8]
  simp only [List.map_cons, List.map_nil, bv, small64 hk] at this
  rw [show (k : Int) % 256 = (k : Int) by omega]
  exact this
/-- the three parts of what Put answers, as they lie ahead of the call of Concat -/
theorem parts_put {w2 : World} {B : Nat} {x z : Value} {t : TypeId} {l n : List UInt8} {k : Nat} (hk : k ≤ 64) (hx : Own w2 B x l) (hz : Bs w2 z n) :
    Parts ((w2.alloc (.cells #[.int .u8 ((k : Int) % 256)] 5)).alloc (.cells #[x, .slice (some ⟨w2.heap.size, 0, none⟩) 1 1, z] t)) (w2.heap.size + 1) [x, .slice (some ⟨w2.heap.size, 0, none⟩) 1 1, z] [l, [k.toUInt8], n] := by
  have hf : Fr Non w2 (w2.alloc (.cells #[.int .u8 ((k : Int) % 256)] 5)) := (Fr.refl _ _).alloc _
  have hy := bs_byte w2 hk
  have h := Parts.three (t := t) (hx.bs.non hf) hy (hz.non hf)
  rwa [show (w2.alloc (.cells #[.int .u8 ((k : Int) % 256)] 5)).heap.size = w2.heap.size + 1 by simp] at h

set_option maxHeartbeats 4000000 in
theorem tput_any (v : Value) (l : List Int) (w : World) (hv : Vs iv w v l) (hx : ∀ x ∈ l, I64 x) (hl : l.length ≤ 1000000) :
    Calls Try.prog 23 #[v] w fun e w' => ∃ u, e = .returned u ∧ Own w' w.heap.size u (putT l) ∧ Fr Non w w' := by
  have HV := Lib.hid hv
  have HX := Lib.hid hx
  clear hx
  obtain ⟨A, c, rfl, hlc, hn, hcell⟩ := hv
  have HN := Lib.hid hn
  have HC := Lib.hid hcell
  clear hn hcell
  by_cases h0 : l.length = 0
  · have hl0 : l = [] := List.eq_nil_of_length_eq_zero h0
    subst hl0
    go_enter Try.func23, Try.ntmps23
    go_wp2
    go_ret
    exact ⟨_, rfl, own_nil _ _, Fr.refl _ _⟩
  · have hpos : 0 < l.length := by omega
    have h64 := least_i64 HX.out
    have HLo := Lib.hid h64
    have HHi := Lib.hid (great_i64 HX.out)
    go_enter Try.func23, Try.ntmps23
    go_wp2_with fail
    refine (tmin_any _ l w HV.out hpos (by omega)).mono ?_
    rintro e w1 ⟨rfl, rfl⟩
    go_wp2_with fail
    have hB1 : Blk (w.alloc (.cells #[.slice none 0 0, .int .i64 0, .int .i64 (leastOf l), .int .i64 0] 66)) w.heap.size 66 #[.slice none 0 0, .int .i64 0, .int .i64 (leastOf l), .int .i64 0] := Blk.new _ _ _
    have hf1 : Fr Non w (w.alloc (.cells #[.slice none 0 0, .int .i64 0, .int .i64 (leastOf l), .int .i64 0] 66)) := (Fr.refl _ _).alloc _
    have hz1 : (w.alloc (.cells #[.slice none 0 0, .int .i64 0, .int .i64 (leastOf l), .int .i64 0] 66)).heap.size = w.heap.size + 1 := by simp
    generalize w.alloc (.cells #[.slice none 0 0, .int .i64 0, .int .i64 (leastOf l), .int .i64 0] 66) = W1 at *
    generalize hg : w.heap.size = g at *
    have hv1 := (HV.out.non hf1).drew
    have c2 : W1.drew.cell? ⟨g, 2, none⟩ = some (.int .i64 (leastOf l)) := hB1.cell 2
    have c3 : W1.drew.cell? ⟨g, 3, none⟩ = some (.int .i64 0) := hB1.cell 3
    have f3 : W1.drew.frozen? ⟨g, 3, none⟩ = false := hB1.frozen 3
    have hle : leastOf l ≤ greatOf l := Int.le_trans (least_le l 0 hpos) (great_ge l 0 hpos)
    have e1 := u64_diff HHi.out HLo.out hle
    have hd := diff_lt HX.out
    have HLen := Lib.hid (fun W => len64_any (greatOf l - leastOf l).toNat W hd)
    have HMax := Lib.hid (tmax_any _ l _ hv1 hpos (by omega))
    have hB2 := (hB1.set 3 (.int .i64 (Lib.bitLen (greatOf l - leastOf l).toNat : Nat))).drew
    have d2 : (W1.setCell ⟨g, 3, none⟩ (.int .i64 (Lib.bitLen (greatOf l - leastOf l).toNat : Nat))).drew.cell? ⟨g, 2, none⟩ = some (.int .i64 (leastOf l)) := hB2.cell 2
    have HB1 := Lib.hid hB1
    have HB2 := Lib.hid hB2
    have HF1 := Lib.hid hf1
    clear hd hle hB1 hB2 hf1 hv1
    generalize hD : (greatOf l - leastOf l).toNat = d at *
    have HD := Lib.hid hD
    clear hD
    go_region_held3 (fun W => W.cell? ⟨g, 2, none⟩ = some (.int .i64 (leastOf l))) (first | exact c2 | exact d2) (first | (go_at_call 48; refine HMax.out.mono ?_; rintro e w2 ⟨rfl, rfl⟩) | (go_at_call 47; refine (HLen.out _).mono ?_; rintro e w2 ⟨rfl, rfl⟩))
    have hB2 := HB2.out
    have hf2 : Fr Non w (W1.setCell ⟨g, 3, none⟩ (.int .i64 (Lib.bitLen d : Nat))).drew := (HF1.out.setCell (p := ⟨g, 3, none⟩) (fun h => by have h : g < w.heap.size := h; omega) _).drew
    have hz2 : (W1.setCell ⟨g, 3, none⟩ (.int .i64 (Lib.bitLen d : Nat))).drew.heap.size = g + 1 := by simpa using hz1
    clear c2 c3 f3 d2 e1
    generalize (W1.setCell ⟨g, 3, none⟩ (.int .i64 (Lib.bitLen d : Nat))).drew = W2 at *
    have hk64 := width_le HX.out
    have HW := Lib.hid (show width l = Lib.bitLen d by unfold width; rw [HD.out])
    rw [HW.out] at hk64
    generalize Lib.bitLen d = k at *
    have c3 : W2.cell? ⟨g, 3, none⟩ = some (.int .i64 (k : Nat)) := hB2.cell 3
    have c0 : W2.cell? ⟨g, 0, none⟩ = some (.slice none 0 0) := hB2.cell 0
    have f0 := hB2.frozen 0
    have HB3 := Lib.hid hB2
    have HF3 := Lib.hid hf2
    clear hB2 hf2
    go_wp2_with fail
    refine (tsize_any l.length k W2 hl (by omega)).mono ?_
    rintro e w2 ⟨rfl, rfl⟩
    generalize hNN : need (l.length * k) = N at *
    have hN9 : N ≤ 100000000 := by rw [← hNN]; have := Nat.mul_le_mul hl hk64; unfold need; omega
    have HNN := Lib.hid hNN
    clear hNN
    go_wp2_with (at_make; refine wpList_mkfullG el_u8 (f := bv) (0 : UInt8) rfl rfl _ _ rfl _ _ _ _ N rfl rfl rfl rfl (by omega) ?_; intro w3 hown3 hf3; rw [hz2] at hown3 ⊢; have b3 := HB3.out.fr hf3 (fun e => e); have c3 : w3.cell? ⟨g, 3, none⟩ = some (.int .i64 (k : Nat)) := b3.cell 3; have c0 : w3.cell? ⟨g, 0, none⟩ = some (.slice none 0 0) := b3.cell 0; have f0 := b3.frozen 0; have HB4 := Lib.hid b3; clear b3; have HO3 := Lib.hid hown3; clear hown3)
    have HL := Lib.hid (show N = need (allB k (leastOf l) l).length by rw [allB_length, HNN.out])
    have HLn := Lib.hid (allB_length k (leastOf l) l)
    have HLk : Hid (l.length * k ≤ 100000000) := Lib.hid (by have := Nat.mul_le_mul hl hk64; omega)
    have hgw : ¬ g < w.heap.size := by omega
    have hBs := HB4.out.set 0 (.slice (some ⟨g + 1, 0, none⟩) N N)
    have hos := HO3.out.fr ((Fr.refl (One g) w3).set1 0 (.slice (some ⟨g + 1, 0, none⟩) N N)) (fun q hq e => by simp [Value.ownBlock] at hq; have : q = g := e; omega)
    have hfs : Fr Non w (w3.setCell ⟨g, 0, none⟩ (.slice (some ⟨g + 1, 0, none⟩) N N)) := (HF3.out.trans hf3).setCell (p := ⟨g, 0, none⟩) (fun h => hgw h) _
    have hp0 : pk (allB k (leastOf l) l) (0 * k) = List.replicate N 0 := by rw [Nat.zero_mul, pk_zero, ← HL.out]
    rw [← hp0] at hos
    clear hf3 hp0 c0 c3 f0
    go_loopw [31] (fun i wr => ∃ j : Nat, j ≤ l.length ∧ i = .int .i64 j ∧ Blk wr g 66 #[.slice (some ⟨g + 1, 0, none⟩) N N, .int .i64 (j * k : Nat), .int .i64 (leastOf l), .int .i64 k] ∧ Ow bv 5 wr (g + 1) (.slice (some ⟨g + 1, 0, none⟩) N N) (pk (allB k (leastOf l) l) (j * k)) ∧ Fr Non w wr) (fun i _ => l.length - (intOf i).toNat)
    case atStart => exact ⟨0, Nat.zero_le _, rfl, by rw [Nat.zero_mul]; exact hBs, hos, hfs⟩
    case round =>
      clear hBs hos hfs
      obtain ⟨j, hj, rfl, hB, hown, hfr⟩ := hrel
      by_cases hlt : j < l.length
      · cases A with
        | none => have := HN.out rfl; omega
        | some a =>
          have hc0 := HC.out a rfl j hlt
          have hc1 : wr.cell? (a.add j) = some (iv l[j]) := (hfr.cell (World.block_lt_of_cell? w _ hc0) (fun e => e)).trans hc0
          unfold iv at hc1
          have hadd := sadd_any g (g + 1) (g + 1) N (allB k (leastOf l) l) (j * k) k l[j] (leastOf l) wr hB hown HL.out (by omega) (by rw [HLn.out]; exact HLk.out) (HX.out _ (by simp)) HLo.out (least_le l j hlt)
            (by rw [HLn.out]; have := Nat.mul_le_mul_right k (show j + 1 ≤ l.length by omega); rw [Nat.add_mul, Nat.one_mul] at this; exact this)
            (fun i hi => by
              have hp : j * k + i < (allB k (leastOf l) l).length := by rw [HLn.out]; exact place_lt hi hlt
              rw [List.getElem?_eq_getElem hp, allB_at (leastOf l) l hi hlt hp])
            hk64
          have HA := Lib.hid hadd
          have HFr := Lib.hid hfr
          clear hadd hc0 hB hown hfr
          generalize l[j] = x at *
          go_wp2_with fail
          refine HA.out.mono ?_
          rintro e w5 ⟨rfl, hB5, hown5, hf5⟩
          go_wp2
          go_roundw
          case rel =>
            have e : j * k + k = (j + 1) * k := by rw [Nat.add_mul, Nat.one_mul]
            rw [e] at hB5 hown5
            exact ⟨j + 1, by omega, by go_num, hB5, hown5, HFr.out.fresh hf5 (fun q hq => by rcases hq with h | h <;> omega)⟩
          case measure => simp [intOf]; omega
      · obtain rfl : j = l.length := by omega
        rw [pk_all _ (by rw [HLn.out]; exact Nat.le_refl _)] at hown
        have d0 : wr.drew.cell? ⟨g, 0, none⟩ = some (.slice (some ⟨g + 1, 0, none⟩) N N) := hB.cell 0
        have d2 : wr.drew.cell? ⟨g, 2, none⟩ = some (.int .i64 (leastOf l)) := hB.cell 2
        have d3 : wr.drew.cell? ⟨g, 3, none⟩ = some (.int .i64 (k : Nat)) := hB.cell 3
        have HO := Lib.hid hown
        have HF := Lib.hid hfr.drew
        have HF0 := Lib.hid hfr
        have HBk := Lib.hid hB
        have hgr := hB.lt
        have ek : IntKind.u8.wrap (k : Int) = ((k.toUInt8.toNat : Nat) : Int) := by rw [small64 hk64, IntKind.wrap_u8]; omega
        have HLt : Hid ([Lib.uvarint (zig (leastOf l)), [k.toUInt8], packB (allB k (leastOf l) l)].flatten.length < 1099511627776) := Lib.hid (by
          have := Lib.uvarint_length64 (zig_lt h64.1 h64.2)
          simp only [List.flatten_cons, List.flatten_nil, List.length_append, List.length_nil, packB_length, ← HL.out, List.length_cons]
          omega)
        have HPt : Hid ([Lib.uvarint (zig (leastOf l)), [k.toUInt8], packB (allB k (leastOf l) l)].flatten = putT l) := Lib.hid (by
          rw [putT_some (by intro e; rw [e] at hpos; simp at hpos), HW.out]
          simp)
        have hgr2 : g < (wr.alloc (.cells #[.int .u8 ((k : Int) % 256)] 5)).drew.heap.size := by show g < (wr.alloc (.cells #[.int .u8 ((k : Int) % 256)] 5)).heap.size; simp; omega
        have HY := Lib.hid (bs_byte wr hk64)
        clear hown hfr hB
        go_wp2_with fail
        go_region_held3 (fun W => W.cell? ⟨g, 0, none⟩ = some (.slice (some ⟨g + 1, 0, none⟩) N N) ∧ W.cell? ⟨g, 2, none⟩ = some (.int .i64 (leastOf l)) ∧ W.cell? ⟨g, 3, none⟩ = some (.int .i64 (k : Nat))) (first | exact ⟨d0, d2, d3⟩ | exact ⟨cell_al (w := wr) d0, cell_al (w := wr) d2, cell_al (w := wr) d3⟩ | exact ⟨q0, q2, q3⟩ | exact ⟨cell_al q0, cell_al q2, cell_al q3⟩ | exact ⟨cell_al (cell_al q0), cell_al (cell_al q2), cell_al (cell_al q3)⟩ | exact ⟨z0, z2, z3⟩) (first | (go_at_call 51; refine (vint_any (leastOf l) _ h64.1 h64.2).mono ?_; rintro e w2 ⟨v1, rfl, hown1, hf1⟩; obtain ⟨A1, c1, rfl⟩ := hown1.bs.shape; have q0 := (hf1.cell (p := ⟨g, 0, none⟩) hgr (fun e => e)).trans d0; have q2 := (hf1.cell (p := ⟨g, 2, none⟩) hgr (fun e => e)).trans d2; have q3 := (hf1.cell (p := ⟨g, 3, none⟩) hgr (fun e => e)).trans d3) | (go_at_call 51; refine (vint_any (leastOf l) _ h64.1 h64.2).mono ?_; rintro e w2 ⟨v1, rfl, hown1, hfb⟩; obtain ⟨A1, c1, rfl⟩ := hown1.bs.shape; have q0 := (hfb.cell (p := ⟨g, 0, none⟩) hgr2 (fun e => e)).trans (cell_al (w := wr) d0); have q2 := (hfb.cell (p := ⟨g, 2, none⟩) hgr2 (fun e => e)).trans (cell_al (w := wr) d2); have q3 := (hfb.cell (p := ⟨g, 3, none⟩) hgr2 (fun e => e)).trans (cell_al (w := wr) d3)) | (go_at_call 21; refine (concat_any (w2.heap.size + 1) 3 3 _ [Lib.uvarint (zig (leastOf l)), [k.toUInt8], packB (allB k (leastOf l) l)] _ rfl (by omega) (parts_put hk64 hown1 (HO.out.vs.bs.drew.non hf1)) HLt.out).mono ?_; rintro e w4 ⟨v4, rfl, hown4, hf4⟩; have z0 := (hf4.cell (p := ⟨g, 0, none⟩) (World.block_lt_of_cell? _ _ (cell_al (cell_al q0))) (fun e => e)).trans (cell_al (cell_al q0)); have z2 := (hf4.cell (p := ⟨g, 2, none⟩) (World.block_lt_of_cell? _ _ (cell_al (cell_al q2))) (fun e => e)).trans (cell_al (cell_al q2)); have z3 := (hf4.cell (p := ⟨g, 3, none⟩) (World.block_lt_of_cell? _ _ (cell_al (cell_al q3))) (fun e => e)).trans (cell_al (cell_al q3))) | (go_at_call 21; refine (concat_any w2.heap.size 3 3 _ [Lib.uvarint (zig (leastOf l)), [k.toUInt8], packB (allB k (leastOf l) l)] _ rfl (by omega) (Parts.three hown1.bs (HY.out.drew.non hfb) ((HO.out.vs.bs.non ((Fr.refl Non _).alloc _)).drew.non hfb)) HLt.out).mono ?_; rintro e w4 ⟨v4, rfl, hown4, hf4⟩; have z0 := (hf4.cell (p := ⟨g, 0, none⟩) (World.block_lt_of_cell? _ _ (cell_al q0)) (fun e => e)).trans (cell_al q0); have z2 := (hf4.cell (p := ⟨g, 2, none⟩) (World.block_lt_of_cell? _ _ (cell_al q2)) (fun e => e)).trans (cell_al q2); have z3 := (hf4.cell (p := ⟨g, 3, none⟩) (World.block_lt_of_cell? _ _ (cell_al q3)) (fun e => e)).trans (cell_al q3)))
        · go_wp2
          go_ret
          rw [HPt.out] at hown4
          have hfin := (((HF.out.trans hf1).alloc (.cells #[.int .u8 ((k : Int) % 256)] 5)).alloc (.cells #[.slice A1 (Lib.uvarint (zig (leastOf l))).length c1, .slice (some ⟨w2.heap.size, 0, none⟩) 1 1, .slice (some ⟨g + 1, 0, none⟩) N N] 25))
          refine ⟨v4, rfl, ?_, hfin.trans hf4⟩
          have := hown4.mono (B' := w.heap.size) hfin.size
          rwa [hg] at this ⊢
        · go_wp2
          go_ret
          rw [HPt.out] at hown4
          have hfin := ((((HF0.out.alloc (.cells #[.int .u8 ((k : Int) % 256)] 5)).drew).trans hfb).alloc (.cells #[.slice A1 (Lib.uvarint (zig (leastOf l))).length c1, .slice (some ⟨wr.heap.size, 0, none⟩) 1 1, .slice (some ⟨g + 1, 0, none⟩) N N] 25))
          refine ⟨v4, rfl, ?_, hfin.trans hf4⟩
          have := hown4.mono (B' := w.heap.size) hfin.size
          rwa [hg] at this ⊢
end Go.Proofs.Ytdniififoahlaaa
