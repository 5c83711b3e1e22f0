/-
  Layer 7: the walks of the strip's put and get, the pack's add and tell.
-/
import Derived.Test.YtdniififoahlaaaTight1
import Derived.Test.YtdniififoahlaaaVint5
import Derived.Deep.RegionWith
import Derived.Deep.RegionHeld3
import Derived.BigRegion
namespace Go.Proofs.Ytdniififoahlaaa
set_option linter.unusedVariables false
set_option linter.unusedSimpArgs false
open Go.RowKit

/-- two blocks -/
def Two (g r : Nat) : Nat → Prop := fun q => q = g ∨ q = r

theorem bit_lt8 (q t : Nat) (ht : t < 8) (hq : q < 2 ^ t) (b : Bool) : q + b.toNat * 2 ^ t < 256 := by
  have := pow8 ht
  cases b <;> simp <;> omega
theorem or_bit (x j q t : Nat) (hx : x < 18446744073709551616) (ht : t < 8) (hq : q < 2 ^ t) :
    bits BinOp.or IntKind.u8 (q : Int) (bits BinOp.and IntKind.u64 ((x : Int) / 2 ^ j) 1 % 256 * 2 ^ t % 256) = ((q + (x.testBit j).toNat * 2 ^ t : Nat) : Int) := by
  have hd : (x : Int) / 2 ^ j = ((x / 2 ^ j : Nat) : Int) := by push_cast; rfl
  have hl : x / 2 ^ j < 18446744073709551616 := Nat.lt_of_le_of_lt (Nat.div_le_self _ _) hx
  have hb : (x.testBit j).toNat = x / 2 ^ j % 2 := Nat.toNat_testBit x j
  rw [hb, hd]
  generalize x / 2 ^ j = y at *
  rw [Lib.u64_and1 _ (by omega) (by omega)]
  have h2 : (y : Int) % 2 = ((y % 2 : Nat) : Int) := by push_cast; rfl
  have h3 : y % 2 < 2 := Nat.mod_lt _ (by decide)
  rw [h2]
  generalize y % 2 = b at *
  have all : ∀ b : Fin 2, ∀ t : Fin 8, ∀ q : Fin 128, q.1 < 2 ^ t.1 → bits .or .u8 (q.1 : Int) ((b.1 : Int) % 256 * 2 ^ t.1 % 256) = ((q.1 + b.1 * 2 ^ t.1 : Nat) : Int) := by decide +kernel
  have := pow8 ht
  exact all ⟨b, h3⟩ ⟨t, ht⟩ ⟨q, by omega⟩ hq

set_option maxHeartbeats 4000000 in
theorem sput_any (g r B N : Nat) (L : List Bool) (p k x : Nat) (lo wd : Value) (w : World)
    (hB : Blk w g 66 #[.slice (some ⟨r, 0, none⟩) N N, .int .i64 p, lo, wd])
    (hown : Ow bv 5 w B (.slice (some ⟨r, 0, none⟩) N N) (pk L p)) (hN : N = need L.length) (hgr : g ≠ r) (hL : L.length ≤ 100000000)
    (hx : x < 18446744073709551616) (hk : p + k ≤ L.length) (hbits : ∀ i, i < k → L[p + i]? = some (x.testBit i)) (hk64 : k ≤ 64) :
    Calls Try.prog 68 #[ptr g, .int .u64 x, .int .i64 k] w fun e w' => e = .returned (.tuple #[]) ∧
      Blk w' g 66 #[.slice (some ⟨r, 0, none⟩) N N, .int .i64 (p + k : Nat), lo, wd] ∧ Ow bv 5 w' B (.slice (some ⟨r, 0, none⟩) N N) (pk L (p + k)) ∧ Fr (Two g r) w w' := by
  have HN := Lib.hid hN
  have HB := Lib.hid hbits
  have hnl : L.length ≤ 8 * N := by rw [hN]; unfold need; omega
  clear hN hbits
  go_enter Try.func68, Try.ntmps68
  go_wp2
  go_loopw [8] (fun i wr => ∃ j : Nat, j ≤ k ∧ i = .int .i64 j ∧ Blk wr g 66 #[.slice (some ⟨r, 0, none⟩) N N, .int .i64 (p + j : Nat), lo, wd] ∧ Ow bv 5 wr B (.slice (some ⟨r, 0, none⟩) N N) (pk L (p + j)) ∧ Fr (Two g r) w wr) (fun i _ => k - (intOf i).toNat)
  case atStart => exact ⟨0, Nat.zero_le _, rfl, hB, hown, Fr.refl _ _⟩
  case round =>
    obtain ⟨j, hj, rfl, hB, hown, hfr⟩ := hrel
    by_cases hlt : j < k
    · have hpl : p + j < L.length := by omega
      have c0 : wr.cell? ⟨g, 0, none⟩ = some (.slice (some ⟨r, 0, none⟩) N N) := hB.cell 0
      have c1 : wr.cell? ⟨g, 1, none⟩ = some (.int .i64 (p + j : Nat)) := hB.cell 1
      have f1 := hB.frozen 1
      have hq := hown.cell (by rw [pk_length, HN.out]) ((p + j) / 8) _ (pk_at L hpl)
      have hfz := hown.frozen (by rw [pk_length, HN.out]) ((p + j) / 8)
      have hidx : (p + j) / 8 < N := by omega
      have hql := pkn_lt L hpl
      have HS := Lib.hid (show pk L (p + j + 1) = (pk L (p + j)).set ((p + j) / 8) (pkn L (p + j) ((p + j) / 8) + (x.testBit j).toNat * 2 ^ ((p + j) % 8)).toUInt8 by
        rw [pk_step L hpl]
        have h1 := HB.out j hlt
        rw [List.getElem?_eq_getElem hpl] at h1
        rw [show L[p + j] = x.testBit j by simpa using h1])
      unfold bv at hq
      rw [small8 (pkn_lt8 _ _ _)] at hq
      have HBk := Lib.hid hB
      have HO := Lib.hid hown
      have HF := Lib.hid hfr
      clear hB hown hfr
      generalize hQ : pkn L (p + j) ((p + j) / 8) = q at *
      have HQ := Lib.hid hQ
      clear hQ
      generalize hP : p + j = P at *
      have HP := Lib.hid hP
      clear hP
      go_wp2
      go_region
      have e1 : bits BinOp.or IntKind.u8 (q : Int) (bits BinOp.and IntKind.u64 ((x : Int) / 2 ^ j) 1 % 256 * 2 ^ (P % 8) % 256) = ((q + (x.testBit j).toNat * 2 ^ (P % 8) : Nat) : Int) := or_bit x j q (P % 8) (by omega) (by omega) hql
      have hs := (HO.out.store (by rw [pk_length, HN.out]) (P / 8) (q + (x.testBit j).toNat * 2 ^ (P % 8)).toUInt8).drew
      unfold bv at hs
      rw [small8 (bit_lt8 q (P % 8) (by omega) hql _), ← e1, ← HS.out] at hs
      have hfs : Fr (One r) wr (wr.setCell ⟨r, P / 8, none⟩ (.int .u8 (bits BinOp.or IntKind.u8 (q : Int) (bits BinOp.and IntKind.u64 ((x : Int) / 2 ^ j) 1 % 256 * 2 ^ (P % 8) % 256)))).drew := ((Fr.refl _ _).set1 _ _).drew
      have hB2 := HBk.out.fr hfs (fun e => hgr e)
      generalize (wr.setCell ⟨r, P / 8, none⟩ (.int .u8 (bits BinOp.or IntKind.u8 (q : Int) (bits BinOp.and IntKind.u64 ((x : Int) / 2 ^ j) 1 % 256 * 2 ^ (P % 8) % 256)))).drew = W at *
      have c1' : W.cell? ⟨g, 1, none⟩ = some (.int .i64 (P : Nat)) := hB2.cell 1
      have f1' := hB2.frozen 1
      have HB2 := Lib.hid hB2
      have HS2 := Lib.hid hs
      have HF2 := Lib.hid ((HF.out.mono (fun q _ h => h)).trans (hfs.mono (fun q _ h => .inr h)))
      clear hs hfs hB2 e1 c0 c1 f1 hq hfz
      go_wp2
      go_roundw
      case rel =>
        refine ⟨j + 1, by omega, by go_num, ?_, ?_, HF2.out.setCell (fun _ => .inl rfl) _⟩
        · have := HB2.out.set 1 (.int .i64 ((P : Int) + 1))
          rw [show p + (j + 1) = P + 1 by rw [← HP.out]; omega]
          exact this
        · have := HS2.out.fr ((Fr.refl (One g) W).set1 1 (.int .i64 ((P : Int) + 1))) (fun q hq e => hgr (by simp [Value.ownBlock] at hq; rw [hq]; exact e.symm))
          rw [show p + (j + 1) = P + 1 by rw [← HP.out]; omega]
          exact this
      case measure => simp [intOf]; omega
    · obtain rfl : j = k := by omega
      go_wp2
      go_end0
      exact ⟨rfl, hB, hown, hfr⟩

theorem u64_diff {x lo : Int} (hx : I64 x) (hlo : I64 lo) (h : lo ≤ x) : IntKind.u64.wrap (IntKind.u64.wrap x - IntKind.u64.wrap lo) = (((x - lo).toNat : Nat) : Int) := by
  unfold I64 at hx hlo
  simp only [IntKind.wrap_u64]
  omega

set_option maxHeartbeats 4000000 in
theorem sadd_any (g r B N : Nat) (L : List Bool) (p k : Nat) (x lo : Int) (w : World)
    (hB : Blk w g 66 #[.slice (some ⟨r, 0, none⟩) N N, .int .i64 p, .int .i64 lo, .int .i64 k])
    (hown : Ow bv 5 w B (.slice (some ⟨r, 0, none⟩) N N) (pk L p)) (hN : N = need L.length) (hgr : g ≠ r) (hL : L.length ≤ 100000000)
    (hx : I64 x) (hlo : I64 lo) (hle : lo ≤ x) (hk : p + k ≤ L.length) (hbits : ∀ i, i < k → L[p + i]? = some ((x - lo).toNat.testBit i)) (hk64 : k ≤ 64) :
    Calls Try.prog 50 #[ptr g, .int .i64 x] w fun e w' => e = .returned (.tuple #[]) ∧
      Blk w' g 66 #[.slice (some ⟨r, 0, none⟩) N N, .int .i64 (p + k : Nat), .int .i64 lo, .int .i64 k] ∧ Ow bv 5 w' B (.slice (some ⟨r, 0, none⟩) N N) (pk L (p + k)) ∧ Fr (Two g r) w w' := by
  have hu : (x - lo).toNat < 18446744073709551616 := by unfold I64 at hx hlo; omega
  have hsp := sput_any g r B N L p k (x - lo).toNat (.int .i64 lo) (.int .i64 k) w.drew hB.drew hown.drew hN hgr hL hu hk hbits hk64
  have e1 := u64_diff hx hlo hle
  have c2 : w.drew.cell? ⟨g, 2, none⟩ = some (.int .i64 lo) := hB.cell 2
  have c3 : w.drew.cell? ⟨g, 3, none⟩ = some (.int .i64 (k : Nat)) := hB.cell 3
  have HP := Lib.hid hsp
  clear hsp hbits hB hown hx hlo hle hN hL
  generalize (x - lo).toNat = u at *
  go_enter Try.func50, Try.ntmps50
  go_wp2
  go_region_held3 (fun W => W.cell? ⟨g, 2, none⟩ = some (.int .i64 lo) ∧ W.cell? ⟨g, 3, none⟩ = some (.int .i64 (k : Nat))) (first | exact ⟨c2, c3⟩ | exact ⟨d2, d3⟩) (first | (go_at_call 68; refine HP.out.mono ?_; rintro e w2 ⟨rfl, hB2, hown2, hf2⟩; have d2 : w2.cell? ⟨g, 2, none⟩ = some (.int .i64 lo) := hB2.cell 2; have d3 : w2.cell? ⟨g, 3, none⟩ = some (.int .i64 (k : Nat)) := hB2.cell 3))
  go_wp2
  go_end0
  exact ⟨rfl, hB2, hown2, ((Fr.refl _ _).drew).trans hf2⟩

theorem or_low64 (a b i : Nat) (ha : a < 2 ^ i) (hb : b < 2) (hi : i < 64) : a ||| (b * 2 ^ i) = a + b * 2 ^ i := by
  rw [Nat.add_comm, Nat.mul_comm b, Nat.or_comm]
  exact (Nat.two_pow_add_eq_or_of_lt ha b).symm
theorem and_one8 (q : Nat) (h : q < 256) : bits .and .u8 (q : Int) 1 = ((q % 2 : Nat) : Int) := by
  have all : ∀ q : Fin 256, bits .and .u8 (q.1 : Int) 1 = ((q.1 % 2 : Nat) : Int) := by decide +kernel
  exact all ⟨q, h⟩
theorem bit_cell (held : List UInt8) (p : Nat) (c : UInt8) (hc : held[p / 8]? = some c) : bits .and .u8 ((c.toNat : Int) / 2 ^ (p % 8)) 1 = (((bitOf held p).toNat : Nat) : Int) := by
  have hd : (c.toNat : Int) / 2 ^ (p % 8) = ((c.toNat / 2 ^ (p % 8) : Nat) : Int) := by push_cast; rfl
  rw [hd, and_one8 _ (Nat.lt_of_le_of_lt (Nat.div_le_self _ _) c.toNat_lt), ← Nat.toNat_testBit]
  unfold bitOf
  rw [List.getD_eq_getElem?_getD, hc]
  rfl
theorem num_mod (X b i : Nat) (hX : X < 2 ^ i) (hb : b < 2) :
    bits .or .u64 ((X % 18446744073709551616 : Nat) : Int) (IntKind.u64.wrap (IntKind.u64.wrap (b : Int) * 2 ^ min i 64)) = (((X + b * 2 ^ i) % 18446744073709551616 : Nat) : Int) := by
  rw [IntWalk.u64_in (b : Int) ⟨by omega, by omega⟩]
  have hc : (b : Int) * 2 ^ min i 64 = ((b * 2 ^ min i 64 : Nat) : Int) := by push_cast; rfl
  have hm : ∀ y : Nat, IntKind.u64.wrap (y : Int) = ((y % 18446744073709551616 : Nat) : Int) := by intro y; rw [IntKind.wrap_u64]; omega
  rw [hc, hm]
  rw [bits_or_u64_nat _ _ (Nat.mod_lt _ (by decide)) (Nat.mod_lt _ (by decide))]
  congr 1
  by_cases h : i < 64
  · rw [show min i 64 = i by omega]
    have h1 : 2 ^ i ≤ 2 ^ 63 := Nat.pow_le_pow_right (by decide) (by omega)
    have h2 : b * 2 ^ i ≤ 2 ^ i := by
      have := Nat.mul_le_mul_right (2 ^ i) (show b ≤ 1 by omega)
      omega
    have e := or_low64 X b i hX hb h
    generalize 2 ^ i = Y at *
    rw [Nat.mod_eq_of_lt (show X < 18446744073709551616 by omega), Nat.mod_eq_of_lt (show b * Y < 18446744073709551616 by omega), e, Nat.mod_eq_of_lt (by omega)]
  · obtain ⟨q, rfl⟩ : ∃ q, i = 64 + q := ⟨i - 64, by omega⟩
    rw [show min (64 + q) 64 = 64 by omega, Nat.pow_add, show (2 : Nat) ^ 64 = 18446744073709551616 by decide, Nat.mul_mod_left, Nat.or_zero, Nat.mul_comm 18446744073709551616, ← Nat.mul_assoc, Nat.add_mul_mod_self_right]
theorem num_step (held : List UInt8) (p i : Nat) (c : UInt8) (hc : held[(p + i) / 8]? = some c) :
    bits .or .u64 ((numT held p i % 18446744073709551616 : Nat) : Int) (IntKind.u64.wrap (IntKind.u64.wrap (bits .and .u8 ((c.toNat : Int) / 2 ^ ((p + i) % 8)) 1) * 2 ^ min i 64)) = ((numT held p (i + 1) % 18446744073709551616 : Nat) : Int) := by
  rw [bit_cell held (p + i) c hc, num_mod _ _ _ (numT_lt held p i) (by cases bitOf held (p + i) <;> decide), numT_succ]

set_option maxHeartbeats 4000000 in
theorem sget_any (g p k : Nat) (v : Value) (held : List UInt8) (lo wd : Value) (w : World)
    (hB : Blk w g 66 #[v, .int .i64 p, lo, wd]) (hv : Vs bv w v held) (hvg : 0 < held.length → ∀ q, v.ownBlock = some q → q ≠ g)
    (hk : p + k ≤ 8 * held.length) (hl : held.length ≤ 100000000) (hk8 : k ≤ 255) :
    Calls Try.prog 71 #[ptr g, .int .i64 k] w fun e w' => e = .returned (.int .u64 (numT held p k % 18446744073709551616 : Nat)) ∧
      Blk w' g 66 #[v, .int .i64 (p + k : Nat), lo, wd] ∧ Fr (One g) w w' := by
  obtain ⟨A, c, rfl, hlc, hn, hcell⟩ := hv
  have HC := Lib.hid hcell
  have HN := Lib.hid hn
  have HG := Lib.hid hvg
  have HV := Lib.hid (show Vs bv w (.slice A held.length c) held from ⟨A, c, rfl, hlc, hn, hcell⟩)
  clear hcell hn hvg
  go_enter Try.func71, Try.ntmps71
  go_wp2
  go_loopw [5, 8] (fun x i wr => ∃ j : Nat, j ≤ k ∧ i = .int .i64 j ∧ x = .int .u64 (numT held p j % 18446744073709551616 : Nat) ∧ Blk wr g 66 #[.slice A held.length c, .int .i64 (p + j : Nat), lo, wd] ∧ Fr (One g) w wr) (fun _ i _ => k - (intOf i).toNat)
  case atStart => exact ⟨0, Nat.zero_le _, rfl, rfl, hB, Fr.refl _ _⟩
  case round =>
    obtain ⟨j, hj, rfl, rfl, hB, hfr⟩ := hrel
    by_cases hlt : j < k
    · have hpl : (p + j) / 8 < held.length := by omega
      cases A with
      | none => have := HN.out rfl; omega
      | some a =>
        have c0 : wr.cell? ⟨g, 0, none⟩ = some (.slice (some a) held.length c) := hB.cell 0
        have c1 : wr.cell? ⟨g, 1, none⟩ = some (.int .i64 (p + j : Nat)) := hB.cell 1
        have f1 := hB.frozen 1
        have hq : wr.cell? (a.add ((p + j) / 8)) = some (bv (held[(p + j) / 8]'hpl)) := by
          obtain ⟨a', ha', _, _, hq⟩ := (HV.out.fr hfr (fun q hq e => HG.out (by omega) q hq e)).addr (by omega)
          obtain rfl : a = a' := by simpa using ha'
          exact hq ((p + j) / 8) hpl
        have hst := num_step held p j (held[(p + j) / 8]'hpl) (List.getElem?_eq_getElem hpl)
        have HS := Lib.hid hst
        clear hst
        unfold bv at hq
        have hx8 := held[(p + j) / 8].toNat_lt
        have HBk := Lib.hid hB
        have HF := Lib.hid hfr
        clear hB hfr
        generalize held[(p + j) / 8] = cb at *
        generalize hX : numT held p j % 18446744073709551616 = X at *
        have HX := Lib.hid hX
        clear hX
        generalize hP : p + j = P at *
        have HP := Lib.hid hP
        clear hP
        go_wp2
        go_region
        have c1' : wr.drew.cell? ⟨g, 1, none⟩ = some (.int .i64 (P : Nat)) := c1
        have f1' : wr.drew.frozen? ⟨g, 1, none⟩ = false := f1
        generalize hW : wr.drew = W at *
        have hBW : Blk W g 66 #[.slice (some a) held.length c, .int .i64 (P : Nat), lo, wd] := by rw [← hW]; exact HBk.out
        have hFW : Fr (One g) w W := by rw [← hW]; exact HF.out.drew
        have HBW := Lib.hid hBW
        have HFW := Lib.hid hFW
        clear hBW hFW hW
        go_wp2
        go_roundw
        case rel =>
          refine ⟨j + 1, by omega, by go_num, ?_, ?_, HFW.out.set1 _ _⟩
          · rw [HS.out]
          · have := HBW.out.set 1 (.int .i64 ((P : Int) + 1))
            rw [show p + (j + 1) = P + 1 by rw [← HP.out]; omega]
            exact this
        case measure => simp [intOf]; omega
    · obtain rfl : j = k := by omega
      go_wp2
      go_ret
      exact ⟨rfl, hB, hfr⟩

theorem tell_eq (lo : Int) (n : Nat) : IntKind.i64.wrap (IntKind.u64.wrap (IntKind.u64.wrap lo + ((n % 18446744073709551616 : Nat) : Int))) = w6 (lo + (n : Int)) := by
  unfold w6
  simp only [IntKind.wrap_u64, IntKind.wrap_i64]
  omega

set_option maxHeartbeats 4000000 in
theorem stell_any (g p k : Nat) (v : Value) (held : List UInt8) (lo : Int) (w : World)
    (hB : Blk w g 66 #[v, .int .i64 p, .int .i64 lo, .int .i64 k]) (hv : Vs bv w v held) (hvg : 0 < held.length → ∀ q, v.ownBlock = some q → q ≠ g)
    (hk : p + k ≤ 8 * held.length) (hl : held.length ≤ 100000000) (hk8 : k ≤ 255) :
    Calls Try.prog 57 #[ptr g] w fun e w' => e = .returned (.int .i64 (w6 (lo + (numT held p k : Nat)))) ∧
      Blk w' g 66 #[v, .int .i64 (p + k : Nat), .int .i64 lo, .int .i64 k] ∧ Fr (One g) w w' := by
  have HP := Lib.hid (sget_any g p k v held (.int .i64 lo) (.int .i64 k) w.drew hB.drew hv.drew hvg hk hl hk8)
  have HT := Lib.hid (tell_eq lo (numT held p k))
  have c2 : w.drew.cell? ⟨g, 2, none⟩ = some (.int .i64 lo) := hB.cell 2
  have c3 : w.drew.cell? ⟨g, 3, none⟩ = some (.int .i64 (k : Nat)) := hB.cell 3
  clear hB hv hvg hl
  generalize hM : numT held p k % 18446744073709551616 = m at *
  have HM := Lib.hid hM
  clear hM
  go_enter Try.func57, Try.ntmps57
  go_wp2
  go_region_held3 (fun W => W.cell? ⟨g, 2, none⟩ = some (.int .i64 lo) ∧ W.cell? ⟨g, 3, none⟩ = some (.int .i64 (k : Nat))) (first | exact ⟨c2, c3⟩ | exact ⟨d2, d3⟩) (first | (go_at_call 71; refine HP.out.mono ?_; rintro e w2 ⟨rfl, hB2, hf2⟩; have d2 : w2.cell? ⟨g, 2, none⟩ = some (.int .i64 lo) := hB2.cell 2; have d3 : w2.cell? ⟨g, 3, none⟩ = some (.int .i64 (k : Nat)) := hB2.cell 3))
  go_wp2
  go_ret
  exact ⟨ret_int HT.out, hB2, ((Fr.refl _ _).drew).trans hf2⟩
end Go.Proofs.Ytdniififoahlaaa
