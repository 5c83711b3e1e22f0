/-
  Joined: Layer 7: the walks of the strip's put and get, the pack's add and tell. · Layer 7: the walk of tight.Put. · Layer 7: the walk of tight.open. · Layer 7: the walk of tight.Get. · Layer 7: the walk of firkinref07.Put. · Layer 8: the walk of the document's words. · Layer 7: firkinref07.Same; the example; the laws TightPuts, TightGets, TightOne, walked. · Layer 8: the walk of the document's Put. · Layer 8: the walk of dict.Put.
-/
import Derived.Deep.RegionHeld3
import Derived.Test.YtheefloegbkflaaGreatDoorZ3
import Derived.Test.YtheefloegbkflaaGreatDoorZ2
import Derived.Deep.RegionWith
import Derived.BigRegion
import Derived.Test.YtheefloegbkflaaGreatDoorLen64
import Derived.WalkMore
import Derived.Laws.ResultCell

namespace Go.Proofs.YtheefloegbkflaaGreatDoor
set_option linter.unusedVariables false
set_option linter.unusedSimpArgs false
set_option maxRecDepth 100000
open Go.RowKit

/-- two blocks -/
def Two (g r : Nat) : Nat → Prop := fun q => q = g ∨ q = r

theorem bit_lt8 (q t : Nat) (ht : t < 8) (hq : q < 2 ^ t) (b : Bool) : q + b.toNat * 2 ^ t < 256 := by
  have := pow8 ht
  cases b <;> simp <;> omega
theorem or_bit (x j q t : Nat) (hx : x < 18446744073709551616) (ht : t < 8) (hq : q < 2 ^ t) :
    bits BinOp.or IntKind.u8 (q : Int) (bits BinOp.and IntKind.u64 ((x : Int) / 2 ^ j) 1 % 256 * 2 ^ t % 256) = ((q + (x.testBit j).toNat * 2 ^ t : Nat) : Int) := by
  have hd : (x : Int) / 2 ^ j = ((x / 2 ^ j : Nat) : Int) := by push_cast; rfl
  have hl : x / 2 ^ j < 18446744073709551616 := Nat.lt_of_le_of_lt (Nat.div_le_self _ _) hx
  have hb : (x.testBit j).toNat = x / 2 ^ j % 2 := Nat.toNat_testBit x j
  rw [hb, hd]
  generalize x / 2 ^ j = y at *
  rw [Lib.u64_and1 _ (by omega) (by omega)]
  have h2 : (y : Int) % 2 = ((y % 2 : Nat) : Int) := by push_cast; rfl
  have h3 : y % 2 < 2 := Nat.mod_lt _ (by decide)
  rw [h2]
  generalize y % 2 = b at *
  have all : ∀ b : Fin 2, ∀ t : Fin 8, ∀ q : Fin 128, q.1 < 2 ^ t.1 → bits .or .u8 (q.1 : Int) ((b.1 : Int) % 256 * 2 ^ t.1 % 256) = ((q.1 + b.1 * 2 ^ t.1 : Nat) : Int) := by decide +kernel
  have := pow8 ht
  exact all ⟨b, h3⟩ ⟨t, ht⟩ ⟨q, by omega⟩ hq

set_option maxHeartbeats 4000000 in
theorem sput_any (g r B N : Nat) (L : List Bool) (p k x : Nat) (lo wd : Value) (w : World)
    (hB : Blk w g 172 #[.slice (some ⟨r, 0, none⟩) N N, .int .i64 p, lo, wd])
    (hown : Ow bv 5 w B (.slice (some ⟨r, 0, none⟩) N N) (pk L p)) (hN : N = need L.length) (hgr : g ≠ r) (hL : L.length ≤ 100000000)
    (hx : x < 18446744073709551616) (hk : p + k ≤ L.length) (hbits : ∀ i, i < k → L[p + i]? = some (x.testBit i)) (hk64 : k ≤ 64) :
    Calls Tryz.prog 179 #[ptr g, .int .u64 x, .int .i64 k] w fun e w' => e = .returned (.tuple #[]) ∧
      Blk w' g 172 #[.slice (some ⟨r, 0, none⟩) N N, .int .i64 (p + k : Nat), lo, wd] ∧ Ow bv 5 w' B (.slice (some ⟨r, 0, none⟩) N N) (pk L (p + k)) ∧ Fr (Two g r) w w' := by
  have HN := Lib.hid hN
  have HB := Lib.hid hbits
  have hnl : L.length ≤ 8 * N := by rw [hN]; unfold need; omega
  clear hN hbits
  go_enter Tryz.func179, Tryz.ntmps179
  go_wp2
  go_loopw [8] (fun i wr => ∃ j : Nat, j ≤ k ∧ i = .int .i64 j ∧ Blk wr g 172 #[.slice (some ⟨r, 0, none⟩) N N, .int .i64 (p + j : Nat), lo, wd] ∧ Ow bv 5 wr B (.slice (some ⟨r, 0, none⟩) N N) (pk L (p + j)) ∧ Fr (Two g r) w wr) (fun i _ => k - (intOf i).toNat)
  case atStart => exact ⟨0, Nat.zero_le _, rfl, hB, hown, Fr.refl _ _⟩
  case round =>
    obtain ⟨j, hj, rfl, hB, hown, hfr⟩ := hrel
    by_cases hlt : j < k
    · have hpl : p + j < L.length := by omega
      have c0 : wr.cell? ⟨g, 0, none⟩ = some (.slice (some ⟨r, 0, none⟩) N N) := hB.cell 0
      have c1 : wr.cell? ⟨g, 1, none⟩ = some (.int .i64 (p + j : Nat)) := hB.cell 1
      have f1 := hB.frozen 1
      have hq := hown.cell (by rw [pk_length, HN.out]) ((p + j) / 8) _ (pk_at L hpl)
      have hfz := hown.frozen (by rw [pk_length, HN.out]) ((p + j) / 8)
      have hidx : (p + j) / 8 < N := by omega
      have hql := pkn_lt L hpl
      have HS := Lib.hid (show pk L (p + j + 1) = (pk L (p + j)).set ((p + j) / 8) (pkn L (p + j) ((p + j) / 8) + (x.testBit j).toNat * 2 ^ ((p + j) % 8)).toUInt8 by
        rw [pk_step L hpl]
        have h1 := HB.out j hlt
        rw [List.getElem?_eq_getElem hpl] at h1
        rw [show L[p + j] = x.testBit j by simpa using h1])
      unfold bv at hq
      rw [small8 (pkn_lt8 _ _ _)] at hq
      have HBk := Lib.hid hB
      have HO := Lib.hid hown
      have HF := Lib.hid hfr
      clear hB hown hfr
      generalize hQ : pkn L (p + j) ((p + j) / 8) = q at *
      have HQ := Lib.hid hQ
      clear hQ
      generalize hP : p + j = P at *
      have HP := Lib.hid hP
      clear hP
      go_wp2
      go_region
      have e1 : bits BinOp.or IntKind.u8 (q : Int) (bits BinOp.and IntKind.u64 ((x : Int) / 2 ^ j) 1 % 256 * 2 ^ (P % 8) % 256) = ((q + (x.testBit j).toNat * 2 ^ (P % 8) : Nat) : Int) := or_bit x j q (P % 8) (by omega) (by omega) hql
      have hs := (HO.out.store (by rw [pk_length, HN.out]) (P / 8) (q + (x.testBit j).toNat * 2 ^ (P % 8)).toUInt8).drew
      unfold bv at hs
      rw [small8 (bit_lt8 q (P % 8) (by omega) hql _), ← e1, ← HS.out] at hs
      have hfs : Fr (One r) wr (wr.setCell ⟨r, P / 8, none⟩ (.int .u8 (bits BinOp.or IntKind.u8 (q : Int) (bits BinOp.and IntKind.u64 ((x : Int) / 2 ^ j) 1 % 256 * 2 ^ (P % 8) % 256)))).drew := ((Fr.refl _ _).set1 _ _).drew
      have hB2 := HBk.out.fr hfs (fun e => hgr e)
      generalize (wr.setCell ⟨r, P / 8, none⟩ (.int .u8 (bits BinOp.or IntKind.u8 (q : Int) (bits BinOp.and IntKind.u64 ((x : Int) / 2 ^ j) 1 % 256 * 2 ^ (P % 8) % 256)))).drew = W at *
      have c1' : W.cell? ⟨g, 1, none⟩ = some (.int .i64 (P : Nat)) := hB2.cell 1
      have f1' := hB2.frozen 1
      have HB2 := Lib.hid hB2
      have HS2 := Lib.hid hs
      have HF2 := Lib.hid ((HF.out.mono (fun q _ h => h)).trans (hfs.mono (fun q _ h => .inr h)))
      clear hs hfs hB2 e1 c0 c1 f1 hq hfz
      go_wp2
      go_roundw
      case rel =>
        refine ⟨j + 1, by omega, by go_num, ?_, ?_, HF2.out.setCell (fun _ => .inl rfl) _⟩
        · have := HB2.out.set 1 (.int .i64 ((P : Int) + 1))
          rw [show p + (j + 1) = P + 1 by rw [← HP.out]; omega]
          exact this
        · have := HS2.out.fr ((Fr.refl (One g) W).set1 1 (.int .i64 ((P : Int) + 1))) (fun q hq e => hgr (by simp [Value.ownBlock] at hq; rw [hq]; exact e.symm))
          rw [show p + (j + 1) = P + 1 by rw [← HP.out]; omega]
          exact this
      case measure => simp [intOf]; omega
    · obtain rfl : j = k := by omega
      go_wp2
      go_end0
      exact ⟨rfl, hB, hown, hfr⟩

theorem u64_diff {x lo : Int} (hx : I64 x) (hlo : I64 lo) (h : lo ≤ x) : IntKind.u64.wrap (IntKind.u64.wrap x - IntKind.u64.wrap lo) = (((x - lo).toNat : Nat) : Int) := by
  unfold I64 at hx hlo
  simp only [IntKind.wrap_u64]
  omega

set_option maxHeartbeats 4000000 in
theorem sadd_any (g r B N : Nat) (L : List Bool) (p k : Nat) (x lo : Int) (w : World)
    (hB : Blk w g 172 #[.slice (some ⟨r, 0, none⟩) N N, .int .i64 p, .int .i64 lo, .int .i64 k])
    (hown : Ow bv 5 w B (.slice (some ⟨r, 0, none⟩) N N) (pk L p)) (hN : N = need L.length) (hgr : g ≠ r) (hL : L.length ≤ 100000000)
    (hx : I64 x) (hlo : I64 lo) (hle : lo ≤ x) (hk : p + k ≤ L.length) (hbits : ∀ i, i < k → L[p + i]? = some ((x - lo).toNat.testBit i)) (hk64 : k ≤ 64) :
    Calls Tryz.prog 156 #[ptr g, .int .i64 x] w fun e w' => e = .returned (.tuple #[]) ∧
      Blk w' g 172 #[.slice (some ⟨r, 0, none⟩) N N, .int .i64 (p + k : Nat), .int .i64 lo, .int .i64 k] ∧ Ow bv 5 w' B (.slice (some ⟨r, 0, none⟩) N N) (pk L (p + k)) ∧ Fr (Two g r) w w' := by
  have hu : (x - lo).toNat < 18446744073709551616 := by unfold I64 at hx hlo; omega
  have hsp := sput_any g r B N L p k (x - lo).toNat (.int .i64 lo) (.int .i64 k) w.drew hB.drew hown.drew hN hgr hL hu hk hbits hk64
  have e1 := u64_diff hx hlo hle
  have c2 : w.drew.cell? ⟨g, 2, none⟩ = some (.int .i64 lo) := hB.cell 2
  have c3 : w.drew.cell? ⟨g, 3, none⟩ = some (.int .i64 (k : Nat)) := hB.cell 3
  have HP := Lib.hid hsp
  clear hsp hbits hB hown hx hlo hle hN hL
  generalize (x - lo).toNat = u at *
  go_enter Tryz.func156, Tryz.ntmps156
  go_wp2
  go_region_held3 (fun W => W.cell? ⟨g, 2, none⟩ = some (.int .i64 lo) ∧ W.cell? ⟨g, 3, none⟩ = some (.int .i64 (k : Nat))) (first | exact ⟨c2, c3⟩ | exact ⟨d2, d3⟩) (first | (go_at_call 179; refine HP.out.mono ?_; rintro e w2 ⟨rfl, hB2, hown2, hf2⟩; have d2 : w2.cell? ⟨g, 2, none⟩ = some (.int .i64 lo) := hB2.cell 2; have d3 : w2.cell? ⟨g, 3, none⟩ = some (.int .i64 (k : Nat)) := hB2.cell 3))
  go_wp2
  go_end0
  exact ⟨rfl, hB2, hown2, ((Fr.refl _ _).drew).trans hf2⟩

theorem or_low64 (a b i : Nat) (ha : a < 2 ^ i) (hb : b < 2) (hi : i < 64) : a ||| (b * 2 ^ i) = a + b * 2 ^ i := by
  rw [Nat.add_comm, Nat.mul_comm b, Nat.or_comm]
  exact (Nat.two_pow_add_eq_or_of_lt ha b).symm
theorem and_one8 (q : Nat) (h : q < 256) : bits .and .u8 (q : Int) 1 = ((q % 2 : Nat) : Int) := by
  have all : ∀ q : Fin 256, bits .and .u8 (q.1 : Int) 1 = ((q.1 % 2 : Nat) : Int) := by decide +kernel
  exact all ⟨q, h⟩
theorem bit_cell (held : List UInt8) (p : Nat) (c : UInt8) (hc : held[p / 8]? = some c) : bits .and .u8 ((c.toNat : Int) / 2 ^ (p % 8)) 1 = (((bitOf held p).toNat : Nat) : Int) := by
  have hd : (c.toNat : Int) / 2 ^ (p % 8) = ((c.toNat / 2 ^ (p % 8) : Nat) : Int) := by push_cast; rfl
  rw [hd, and_one8 _ (Nat.lt_of_le_of_lt (Nat.div_le_self _ _) c.toNat_lt), ← Nat.toNat_testBit]
  unfold bitOf
  rw [List.getD_eq_getElem?_getD, hc]
  rfl
theorem num_mod (X b i : Nat) (hX : X < 2 ^ i) (hb : b < 2) :
    bits .or .u64 ((X % 18446744073709551616 : Nat) : Int) (IntKind.u64.wrap (IntKind.u64.wrap (b : Int) * 2 ^ min i 64)) = (((X + b * 2 ^ i) % 18446744073709551616 : Nat) : Int) := by
  rw [IntWalk.u64_in (b : Int) ⟨by omega, by omega⟩]
  have hc : (b : Int) * 2 ^ min i 64 = ((b * 2 ^ min i 64 : Nat) : Int) := by push_cast; rfl
  have hm : ∀ y : Nat, IntKind.u64.wrap (y : Int) = ((y % 18446744073709551616 : Nat) : Int) := by intro y; rw [IntKind.wrap_u64]; omega
  rw [hc, hm]
  rw [bits_or_u64_nat _ _ (Nat.mod_lt _ (by decide)) (Nat.mod_lt _ (by decide))]
  congr 1
  by_cases h : i < 64
  · rw [show min i 64 = i by omega]
    have h1 : 2 ^ i ≤ 2 ^ 63 := Nat.pow_le_pow_right (by decide) (by omega)
    have h2 : b * 2 ^ i ≤ 2 ^ i := by
      have := Nat.mul_le_mul_right (2 ^ i) (show b ≤ 1 by omega)
      omega
    have e := or_low64 X b i hX hb h
    generalize 2 ^ i = Y at *
    rw [Nat.mod_eq_of_lt (show X < 18446744073709551616 by omega), Nat.mod_eq_of_lt (show b * Y < 18446744073709551616 by omega), e, Nat.mod_eq_of_lt (by omega)]
  · obtain ⟨q, rfl⟩ : ∃ q, i = 64 + q := ⟨i - 64, by omega⟩
    rw [show min (64 + q) 64 = 64 by omega, Nat.pow_add, show (2 : Nat) ^ 64 = 18446744073709551616 by decide, Nat.mul_mod_left, Nat.or_zero, Nat.mul_comm 18446744073709551616, ← Nat.mul_assoc, Nat.add_mul_mod_self_right]
theorem num_step (held : List UInt8) (p i : Nat) (c : UInt8) (hc : held[(p + i) / 8]? = some c) :
    bits .or .u64 ((numT held p i % 18446744073709551616 : Nat) : Int) (IntKind.u64.wrap (IntKind.u64.wrap (bits .and .u8 ((c.toNat : Int) / 2 ^ ((p + i) % 8)) 1) * 2 ^ min i 64)) = ((numT held p (i + 1) % 18446744073709551616 : Nat) : Int) := by
  rw [bit_cell held (p + i) c hc, num_mod _ _ _ (numT_lt held p i) (by cases bitOf held (p + i) <;> decide), numT_succ]

set_option maxHeartbeats 4000000 in
theorem sget_any (g p k : Nat) (v : Value) (held : List UInt8) (lo wd : Value) (w : World)
    (hB : Blk w g 172 #[v, .int .i64 p, lo, wd]) (hv : Vs bv w v held) (hvg : 0 < held.length → ∀ q, v.ownBlock = some q → q ≠ g)
    (hk : p + k ≤ 8 * held.length) (hl : held.length ≤ 100000000) (hk8 : k ≤ 255) :
    Calls Tryz.prog 180 #[ptr g, .int .i64 k] w fun e w' => e = .returned (.int .u64 (numT held p k % 18446744073709551616 : Nat)) ∧
      Blk w' g 172 #[v, .int .i64 (p + k : Nat), lo, wd] ∧ Fr (One g) w w' := by
  obtain ⟨A, c, rfl, hlc, hn, hcell⟩ := hv
  have HC := Lib.hid hcell
  have HN := Lib.hid hn
  have HG := Lib.hid hvg
  have HV := Lib.hid (show Vs bv w (.slice A held.length c) held from ⟨A, c, rfl, hlc, hn, hcell⟩)
  clear hcell hn hvg
  go_enter Tryz.func180, Tryz.ntmps180
  go_wp2
  go_loopw [5, 8] (fun x i wr => ∃ j : Nat, j ≤ k ∧ i = .int .i64 j ∧ x = .int .u64 (numT held p j % 18446744073709551616 : Nat) ∧ Blk wr g 172 #[.slice A held.length c, .int .i64 (p + j : Nat), lo, wd] ∧ Fr (One g) w wr) (fun _ i _ => k - (intOf i).toNat)
  case atStart => exact ⟨0, Nat.zero_le _, rfl, rfl, hB, Fr.refl _ _⟩
  case round =>
    obtain ⟨j, hj, rfl, rfl, hB, hfr⟩ := hrel
    by_cases hlt : j < k
    · have hpl : (p + j) / 8 < held.length := by omega
      cases A with
      | none => have := HN.out rfl; omega
      | some a =>
        have c0 : wr.cell? ⟨g, 0, none⟩ = some (.slice (some a) held.length c) := hB.cell 0
        have c1 : wr.cell? ⟨g, 1, none⟩ = some (.int .i64 (p + j : Nat)) := hB.cell 1
        have f1 := hB.frozen 1
        have hq : wr.cell? (a.add ((p + j) / 8)) = some (bv (held[(p + j) / 8]'hpl)) := by
          obtain ⟨a', ha', _, _, hq⟩ := (HV.out.fr hfr (fun q hq e => HG.out (by omega) q hq e)).addr (by omega)
          obtain rfl : a = a' := by simpa using ha'
          exact hq ((p + j) / 8) hpl
        have hst := num_step held p j (held[(p + j) / 8]'hpl) (List.getElem?_eq_getElem hpl)
        have HS := Lib.hid hst
        clear hst
        unfold bv at hq
        have hx8 := held[(p + j) / 8].toNat_lt
        have HBk := Lib.hid hB
        have HF := Lib.hid hfr
        clear hB hfr
        generalize held[(p + j) / 8] = cb at *
        generalize hX : numT held p j % 18446744073709551616 = X at *
        have HX := Lib.hid hX
        clear hX
        generalize hP : p + j = P at *
        have HP := Lib.hid hP
        clear hP
        go_wp2
        go_region
        have c1' : wr.drew.cell? ⟨g, 1, none⟩ = some (.int .i64 (P : Nat)) := c1
        have f1' : wr.drew.frozen? ⟨g, 1, none⟩ = false := f1
        generalize hW : wr.drew = W at *
        have hBW : Blk W g 172 #[.slice (some a) held.length c, .int .i64 (P : Nat), lo, wd] := by rw [← hW]; exact HBk.out
        have hFW : Fr (One g) w W := by rw [← hW]; exact HF.out.drew
        have HBW := Lib.hid hBW
        have HFW := Lib.hid hFW
        clear hBW hFW hW
        go_wp2
        go_roundw
        case rel =>
          refine ⟨j + 1, by omega, by go_num, ?_, ?_, HFW.out.set1 _ _⟩
          · rw [HS.out]
          · have := HBW.out.set 1 (.int .i64 ((P : Int) + 1))
            rw [show p + (j + 1) = P + 1 by rw [← HP.out]; omega]
            exact this
        case measure => simp [intOf]; omega
    · obtain rfl : j = k := by omega
      go_wp2
      go_ret
      exact ⟨rfl, hB, hfr⟩

theorem tell_eq (lo : Int) (n : Nat) : IntKind.i64.wrap (IntKind.u64.wrap (IntKind.u64.wrap lo + ((n % 18446744073709551616 : Nat) : Int))) = w6 (lo + (n : Int)) := by
  unfold w6
  simp only [IntKind.wrap_u64, IntKind.wrap_i64]
  omega

set_option maxHeartbeats 4000000 in
theorem stell_any (g p k : Nat) (v : Value) (held : List UInt8) (lo : Int) (w : World)
    (hB : Blk w g 172 #[v, .int .i64 p, .int .i64 lo, .int .i64 k]) (hv : Vs bv w v held) (hvg : 0 < held.length → ∀ q, v.ownBlock = some q → q ≠ g)
    (hk : p + k ≤ 8 * held.length) (hl : held.length ≤ 100000000) (hk8 : k ≤ 255) :
    Calls Tryz.prog 158 #[ptr g] w fun e w' => e = .returned (.int .i64 (w6 (lo + (numT held p k : Nat)))) ∧
      Blk w' g 172 #[v, .int .i64 (p + k : Nat), .int .i64 lo, .int .i64 k] ∧ Fr (One g) w w' := by
  have HP := Lib.hid (sget_any g p k v held (.int .i64 lo) (.int .i64 k) w.drew hB.drew hv.drew hvg hk hl hk8)
  have HT := Lib.hid (tell_eq lo (numT held p k))
  have c2 : w.drew.cell? ⟨g, 2, none⟩ = some (.int .i64 lo) := hB.cell 2
  have c3 : w.drew.cell? ⟨g, 3, none⟩ = some (.int .i64 (k : Nat)) := hB.cell 3
  clear hB hv hvg hl
  generalize hM : numT held p k % 18446744073709551616 = m at *
  have HM := Lib.hid hM
  clear hM
  go_enter Tryz.func158, Tryz.ntmps158
  go_wp2
  go_region_held3 (fun W => W.cell? ⟨g, 2, none⟩ = some (.int .i64 lo) ∧ W.cell? ⟨g, 3, none⟩ = some (.int .i64 (k : Nat))) (first | exact ⟨c2, c3⟩ | exact ⟨d2, d3⟩) (first | (go_at_call 180; refine HP.out.mono ?_; rintro e w2 ⟨rfl, hB2, hf2⟩; have d2 : w2.cell? ⟨g, 2, none⟩ = some (.int .i64 lo) := hB2.cell 2; have d3 : w2.cell? ⟨g, 3, none⟩ = some (.int .i64 (k : Nat)) := hB2.cell 3))
  go_wp2
  go_ret
  exact ⟨ret_int HT.out, hB2, ((Fr.refl _ _).drew).trans hf2⟩
end Go.Proofs.YtheefloegbkflaaGreatDoor


namespace Go.Proofs.YtheefloegbkflaaGreatDoor
set_option linter.unusedVariables false
set_option linter.unusedSimpArgs false
set_option maxRecDepth 100000
open Go.RowKit

theorem cell_al {w : World} {p : Addr} {u : Value} {o : Obj} (h : w.cell? p = some u) : (w.alloc o).cell? p = some u :=
  (((Fr.refl Non w).alloc o).cell (World.block_lt_of_cell? w _ h) (fun e => e)).trans h

theorem bs_byte (w2 : World) {k : Nat} (hk : k ≤ 64) : Bs (w2.alloc (.cells #[.int .u8 ((k : Int) % 256)] 5)) (.slice (some ⟨w2.heap.size, 0, none⟩) 1 1) [k.toUInt8] := by
  have := bs_row w2 [k.toUInt8]
  simp only [List.map_cons, List.map_nil, bv, small64 hk] at this
  rw [show (k : Int) % 256 = (k : Int) by omega]
  exact this
/-- the three parts of what Put answers, as they lie ahead of the call of Concat -/
theorem parts_put {w2 : World} {B : Nat} {x z : Value} {t : TypeId} {l n : List UInt8} {k : Nat} (hk : k ≤ 64) (hx : Own w2 B x l) (hz : Bs w2 z n) :
    Parts ((w2.alloc (.cells #[.int .u8 ((k : Int) % 256)] 5)).alloc (.cells #[x, .slice (some ⟨w2.heap.size, 0, none⟩) 1 1, z] t)) (w2.heap.size + 1) [x, .slice (some ⟨w2.heap.size, 0, none⟩) 1 1, z] [l, [k.toUInt8], n] := by
  have hf : Fr Non w2 (w2.alloc (.cells #[.int .u8 ((k : Int) % 256)] 5)) := (Fr.refl _ _).alloc _
  have hy := bs_byte w2 hk
  have h := Parts.three (t := t) (hx.bs.non hf) hy (hz.non hf)
  rwa [show (w2.alloc (.cells #[.int .u8 ((k : Int) % 256)] 5)).heap.size = w2.heap.size + 1 by simp] at h

set_option maxHeartbeats 4000000 in
theorem tput_any (v : Value) (l : List Int) (w : World) (hv : Vs iv w v l) (hx : ∀ x ∈ l, I64 x) (hl : l.length ≤ 1000000) :
    Calls Tryz.prog 103 #[v] w fun e w' => ∃ u, e = .returned u ∧ Own w' w.heap.size u (putT l) ∧ Fr Non w w' := by
  have HV := Lib.hid hv
  have HX := Lib.hid hx
  clear hx
  obtain ⟨A, c, rfl, hlc, hn, hcell⟩ := hv
  have HN := Lib.hid hn
  have HC := Lib.hid hcell
  clear hn hcell
  by_cases h0 : l.length = 0
  · have hl0 : l = [] := List.eq_nil_of_length_eq_zero h0
    subst hl0
    go_enter Tryz.func103, Tryz.ntmps103
    go_wp2
    go_ret
    exact ⟨_, rfl, own_nil _ _, Fr.refl _ _⟩
  · have hpos : 0 < l.length := by omega
    have h64 := least_i64 HX.out
    have HLo := Lib.hid h64
    have HHi := Lib.hid (great_i64 HX.out)
    go_enter Tryz.func103, Tryz.ntmps103
    go_wp2_with fail
    refine (tmin_any _ l w HV.out hpos (by omega)).mono ?_
    rintro e w1 ⟨rfl, rfl⟩
    go_wp2_with fail
    have hB1 : Blk (w.alloc (.cells #[.slice none 0 0, .int .i64 0, .int .i64 (leastOf l), .int .i64 0] 172)) w.heap.size 172 #[.slice none 0 0, .int .i64 0, .int .i64 (leastOf l), .int .i64 0] := Blk.new _ _ _
    have hf1 : Fr Non w (w.alloc (.cells #[.slice none 0 0, .int .i64 0, .int .i64 (leastOf l), .int .i64 0] 172)) := (Fr.refl _ _).alloc _
    have hz1 : (w.alloc (.cells #[.slice none 0 0, .int .i64 0, .int .i64 (leastOf l), .int .i64 0] 172)).heap.size = w.heap.size + 1 := by simp
    generalize w.alloc (.cells #[.slice none 0 0, .int .i64 0, .int .i64 (leastOf l), .int .i64 0] 172) = W1 at *
    generalize hg : w.heap.size = g at *
    have hv1 := (HV.out.non hf1).drew
    have c2 : W1.drew.cell? ⟨g, 2, none⟩ = some (.int .i64 (leastOf l)) := hB1.cell 2
    have c3 : W1.drew.cell? ⟨g, 3, none⟩ = some (.int .i64 0) := hB1.cell 3
    have f3 : W1.drew.frozen? ⟨g, 3, none⟩ = false := hB1.frozen 3
    have hle : leastOf l ≤ greatOf l := Int.le_trans (least_le l 0 hpos) (great_ge l 0 hpos)
    have e1 := u64_diff HHi.out HLo.out hle
    have hd := diff_lt HX.out
    have HLen := Lib.hid (fun W => len64_any (greatOf l - leastOf l).toNat W hd)
    have HMax := Lib.hid (tmax_any _ l _ hv1 hpos (by omega))
    have hB2 := (hB1.set 3 (.int .i64 (Lib.bitLen (greatOf l - leastOf l).toNat : Nat))).drew
    have d2 : (W1.setCell ⟨g, 3, none⟩ (.int .i64 (Lib.bitLen (greatOf l - leastOf l).toNat : Nat))).drew.cell? ⟨g, 2, none⟩ = some (.int .i64 (leastOf l)) := hB2.cell 2
    have HB1 := Lib.hid hB1
    have HB2 := Lib.hid hB2
    have HF1 := Lib.hid hf1
    clear hd hle hB1 hB2 hf1 hv1
    generalize hD : (greatOf l - leastOf l).toNat = d at *
    have HD := Lib.hid hD
    clear hD
    go_region_held3 (fun W => W.cell? ⟨g, 2, none⟩ = some (.int .i64 (leastOf l))) (first | exact c2 | exact d2) (first | (go_at_call 154; refine HMax.out.mono ?_; rintro e w2 ⟨rfl, rfl⟩) | (go_at_call 153; refine (HLen.out _).mono ?_; rintro e w2 ⟨rfl, rfl⟩))
    have hB2 := HB2.out
    have hf2 : Fr Non w (W1.setCell ⟨g, 3, none⟩ (.int .i64 (Lib.bitLen d : Nat))).drew := (HF1.out.setCell (p := ⟨g, 3, none⟩) (fun h => by have h : g < w.heap.size := h; omega) _).drew
    have hz2 : (W1.setCell ⟨g, 3, none⟩ (.int .i64 (Lib.bitLen d : Nat))).drew.heap.size = g + 1 := by simpa using hz1
    clear c2 c3 f3 d2 e1
    generalize (W1.setCell ⟨g, 3, none⟩ (.int .i64 (Lib.bitLen d : Nat))).drew = W2 at *
    have hk64 := width_le HX.out
    have HW := Lib.hid (show width l = Lib.bitLen d by unfold width; rw [HD.out])
    rw [HW.out] at hk64
    generalize Lib.bitLen d = k at *
    have c3 : W2.cell? ⟨g, 3, none⟩ = some (.int .i64 (k : Nat)) := hB2.cell 3
    have c0 : W2.cell? ⟨g, 0, none⟩ = some (.slice none 0 0) := hB2.cell 0
    have f0 := hB2.frozen 0
    have HB3 := Lib.hid hB2
    have HF3 := Lib.hid hf2
    clear hB2 hf2
    go_wp2_with fail
    refine (tsize_any l.length k W2 hl (by omega)).mono ?_
    rintro e w2 ⟨rfl, rfl⟩
    generalize hNN : need (l.length * k) = N at *
    have hN9 : N ≤ 100000000 := by rw [← hNN]; have := Nat.mul_le_mul hl hk64; unfold need; omega
    have HNN := Lib.hid hNN
    clear hNN
    go_wp2_with (at_make; refine wpList_mkfullG el_u8 (f := bv) (0 : UInt8) rfl rfl _ _ rfl _ _ _ _ N rfl rfl rfl rfl (by omega) ?_; intro w3 hown3 hf3; rw [hz2] at hown3 ⊢; have b3 := HB3.out.fr hf3 (fun e => e); have c3 : w3.cell? ⟨g, 3, none⟩ = some (.int .i64 (k : Nat)) := b3.cell 3; have c0 : w3.cell? ⟨g, 0, none⟩ = some (.slice none 0 0) := b3.cell 0; have f0 := b3.frozen 0; have HB4 := Lib.hid b3; clear b3; have HO3 := Lib.hid hown3; clear hown3)
    have HL := Lib.hid (show N = need (allB k (leastOf l) l).length by rw [allB_length, HNN.out])
    have HLn := Lib.hid (allB_length k (leastOf l) l)
    have HLk : Hid (l.length * k ≤ 100000000) := Lib.hid (by have := Nat.mul_le_mul hl hk64; omega)
    have hgw : ¬ g < w.heap.size := by omega
    have hBs := HB4.out.set 0 (.slice (some ⟨g + 1, 0, none⟩) N N)
    have hos := HO3.out.fr ((Fr.refl (One g) w3).set1 0 (.slice (some ⟨g + 1, 0, none⟩) N N)) (fun q hq e => by simp [Value.ownBlock] at hq; have : q = g := e; omega)
    have hfs : Fr Non w (w3.setCell ⟨g, 0, none⟩ (.slice (some ⟨g + 1, 0, none⟩) N N)) := (HF3.out.trans hf3).setCell (p := ⟨g, 0, none⟩) (fun h => hgw h) _
    have hp0 : pk (allB k (leastOf l) l) (0 * k) = List.replicate N 0 := by rw [Nat.zero_mul, pk_zero, ← HL.out]
    rw [← hp0] at hos
    clear hf3 hp0 c0 c3 f0
    go_loopw [31] (fun i wr => ∃ j : Nat, j ≤ l.length ∧ i = .int .i64 j ∧ Blk wr g 172 #[.slice (some ⟨g + 1, 0, none⟩) N N, .int .i64 (j * k : Nat), .int .i64 (leastOf l), .int .i64 k] ∧ Ow bv 5 wr (g + 1) (.slice (some ⟨g + 1, 0, none⟩) N N) (pk (allB k (leastOf l) l) (j * k)) ∧ Fr Non w wr) (fun i _ => l.length - (intOf i).toNat)
    case atStart => exact ⟨0, Nat.zero_le _, rfl, by rw [Nat.zero_mul]; exact hBs, hos, hfs⟩
    case round =>
      clear hBs hos hfs
      obtain ⟨j, hj, rfl, hB, hown, hfr⟩ := hrel
      by_cases hlt : j < l.length
      · cases A with
        | none => have := HN.out rfl; omega
        | some a =>
          have hc0 := HC.out a rfl j hlt
          have hc1 : wr.cell? (a.add j) = some (iv l[j]) := (hfr.cell (World.block_lt_of_cell? w _ hc0) (fun e => e)).trans hc0
          unfold iv at hc1
          have hadd := sadd_any g (g + 1) (g + 1) N (allB k (leastOf l) l) (j * k) k l[j] (leastOf l) wr hB hown HL.out (by omega) (by rw [HLn.out]; exact HLk.out) (HX.out _ (by simp)) HLo.out (least_le l j hlt)
            (by rw [HLn.out]; have := Nat.mul_le_mul_right k (show j + 1 ≤ l.length by omega); rw [Nat.add_mul, Nat.one_mul] at this; exact this)
            (fun i hi => by
              have hp : j * k + i < (allB k (leastOf l) l).length := by rw [HLn.out]; exact place_lt hi hlt
              rw [List.getElem?_eq_getElem hp, allB_at (leastOf l) l hi hlt hp])
            hk64
          have HA := Lib.hid hadd
          have HFr := Lib.hid hfr
          clear hadd hc0 hB hown hfr
          generalize l[j] = x at *
          go_wp2_with fail
          refine HA.out.mono ?_
          rintro e w5 ⟨rfl, hB5, hown5, hf5⟩
          go_wp2
          go_roundw
          case rel =>
            have e : j * k + k = (j + 1) * k := by rw [Nat.add_mul, Nat.one_mul]
            rw [e] at hB5 hown5
            exact ⟨j + 1, by omega, by go_num, hB5, hown5, HFr.out.fresh hf5 (fun q hq => by rcases hq with h | h <;> omega)⟩
          case measure => simp [intOf]; omega
      · obtain rfl : j = l.length := by omega
        rw [pk_all _ (by rw [HLn.out]; exact Nat.le_refl _)] at hown
        have d0 : wr.drew.cell? ⟨g, 0, none⟩ = some (.slice (some ⟨g + 1, 0, none⟩) N N) := hB.cell 0
        have d2 : wr.drew.cell? ⟨g, 2, none⟩ = some (.int .i64 (leastOf l)) := hB.cell 2
        have d3 : wr.drew.cell? ⟨g, 3, none⟩ = some (.int .i64 (k : Nat)) := hB.cell 3
        have HO := Lib.hid hown
        have HF := Lib.hid hfr.drew
        have HF0 := Lib.hid hfr
        have HBk := Lib.hid hB
        have hgr := hB.lt
        have ek : IntKind.u8.wrap (k : Int) = ((k.toUInt8.toNat : Nat) : Int) := by rw [small64 hk64, IntKind.wrap_u8]; omega
        have HLt : Hid ([Lib.uvarint (zig (leastOf l)), [k.toUInt8], packB (allB k (leastOf l) l)].flatten.length < 1099511627776) := Lib.hid (by
          have := Lib.uvarint_length64 (zig_lt h64.1 h64.2)
          simp only [List.flatten_cons, List.flatten_nil, List.length_append, List.length_nil, packB_length, ← HL.out, List.length_cons]
          omega)
        have HPt : Hid ([Lib.uvarint (zig (leastOf l)), [k.toUInt8], packB (allB k (leastOf l) l)].flatten = putT l) := Lib.hid (by
          rw [putT_some (by intro e; rw [e] at hpos; simp at hpos), HW.out]
          simp)
        have hgr2 : g < (wr.alloc (.cells #[.int .u8 ((k : Int) % 256)] 5)).drew.heap.size := by show g < (wr.alloc (.cells #[.int .u8 ((k : Int) % 256)] 5)).heap.size; simp; omega
        have HY := Lib.hid (bs_byte wr hk64)
        clear hown hfr hB
        go_wp2_with fail
        go_region_held3 (fun W => W.cell? ⟨g, 0, none⟩ = some (.slice (some ⟨g + 1, 0, none⟩) N N) ∧ W.cell? ⟨g, 2, none⟩ = some (.int .i64 (leastOf l)) ∧ W.cell? ⟨g, 3, none⟩ = some (.int .i64 (k : Nat))) (first | exact ⟨d0, d2, d3⟩ | exact ⟨cell_al (w := wr) d0, cell_al (w := wr) d2, cell_al (w := wr) d3⟩ | exact ⟨q0, q2, q3⟩ | exact ⟨cell_al q0, cell_al q2, cell_al q3⟩ | exact ⟨cell_al (cell_al q0), cell_al (cell_al q2), cell_al (cell_al q3)⟩ | exact ⟨z0, z2, z3⟩) (first | (go_at_call 115; refine (vint_any (leastOf l) _ h64.1 h64.2).mono ?_; rintro e w2 ⟨v1, rfl, hown1, hf1⟩; obtain ⟨A1, c1, rfl⟩ := hown1.bs.shape; have q0 := (hf1.cell (p := ⟨g, 0, none⟩) hgr (fun e => e)).trans d0; have q2 := (hf1.cell (p := ⟨g, 2, none⟩) hgr (fun e => e)).trans d2; have q3 := (hf1.cell (p := ⟨g, 3, none⟩) hgr (fun e => e)).trans d3) | (go_at_call 115; refine (vint_any (leastOf l) _ h64.1 h64.2).mono ?_; rintro e w2 ⟨v1, rfl, hown1, hfb⟩; obtain ⟨A1, c1, rfl⟩ := hown1.bs.shape; have q0 := (hfb.cell (p := ⟨g, 0, none⟩) hgr2 (fun e => e)).trans (cell_al (w := wr) d0); have q2 := (hfb.cell (p := ⟨g, 2, none⟩) hgr2 (fun e => e)).trans (cell_al (w := wr) d2); have q3 := (hfb.cell (p := ⟨g, 3, none⟩) hgr2 (fun e => e)).trans (cell_al (w := wr) d3)) | (go_at_call 52; refine (concat_any (w2.heap.size + 1) 3 3 _ [Lib.uvarint (zig (leastOf l)), [k.toUInt8], packB (allB k (leastOf l) l)] _ rfl (by omega) (parts_put hk64 hown1 (HO.out.vs.bs.drew.non hf1)) HLt.out).mono ?_; rintro e w4 ⟨v4, rfl, hown4, hf4⟩; have z0 := (hf4.cell (p := ⟨g, 0, none⟩) (World.block_lt_of_cell? _ _ (cell_al (cell_al q0))) (fun e => e)).trans (cell_al (cell_al q0)); have z2 := (hf4.cell (p := ⟨g, 2, none⟩) (World.block_lt_of_cell? _ _ (cell_al (cell_al q2))) (fun e => e)).trans (cell_al (cell_al q2)); have z3 := (hf4.cell (p := ⟨g, 3, none⟩) (World.block_lt_of_cell? _ _ (cell_al (cell_al q3))) (fun e => e)).trans (cell_al (cell_al q3))) | (go_at_call 52; refine (concat_any w2.heap.size 3 3 _ [Lib.uvarint (zig (leastOf l)), [k.toUInt8], packB (allB k (leastOf l) l)] _ rfl (by omega) (Parts.three hown1.bs (HY.out.drew.non hfb) ((HO.out.vs.bs.non ((Fr.refl Non _).alloc _)).drew.non hfb)) HLt.out).mono ?_; rintro e w4 ⟨v4, rfl, hown4, hf4⟩; have z0 := (hf4.cell (p := ⟨g, 0, none⟩) (World.block_lt_of_cell? _ _ (cell_al q0)) (fun e => e)).trans (cell_al q0); have z2 := (hf4.cell (p := ⟨g, 2, none⟩) (World.block_lt_of_cell? _ _ (cell_al q2)) (fun e => e)).trans (cell_al q2); have z3 := (hf4.cell (p := ⟨g, 3, none⟩) (World.block_lt_of_cell? _ _ (cell_al q3)) (fun e => e)).trans (cell_al q3)))
        · go_wp2
          go_ret
          rw [HPt.out] at hown4
          have hfin := (((HF.out.trans hf1).alloc (.cells #[.int .u8 ((k : Int) % 256)] 5)).alloc (.cells #[.slice A1 (Lib.uvarint (zig (leastOf l))).length c1, .slice (some ⟨w2.heap.size, 0, none⟩) 1 1, .slice (some ⟨g + 1, 0, none⟩) N N] 26))
          refine ⟨v4, rfl, ?_, hfin.trans hf4⟩
          have := hown4.mono (B' := w.heap.size) hfin.size
          rwa [hg] at this ⊢
        · go_wp2
          go_ret
          rw [HPt.out] at hown4
          have hfin := ((((HF0.out.alloc (.cells #[.int .u8 ((k : Int) % 256)] 5)).drew).trans hfb).alloc (.cells #[.slice A1 (Lib.uvarint (zig (leastOf l))).length c1, .slice (some ⟨wr.heap.size, 0, none⟩) 1 1, .slice (some ⟨g + 1, 0, none⟩) N N] 26))
          refine ⟨v4, rfl, ?_, hfin.trans hf4⟩
          have := hown4.mono (B' := w.heap.size) hfin.size
          rwa [hg] at this ⊢
end Go.Proofs.YtheefloegbkflaaGreatDoor


namespace Go.Proofs.YtheefloegbkflaaGreatDoor
set_option linter.unusedVariables false
set_option linter.unusedSimpArgs false
set_option maxRecDepth 100000
open Go.RowKit

theorem cut_none : cutT [] 1 = [] ∧ cutR [] 1 = [] ∧ cutB [] true 1 = true ∧ cutB [] false 1 = true := by decide
theorem cut_one (c : UInt8) (r : List UInt8) : cutT (c :: r) 1 = [c] ∧ cutR (c :: r) 1 = r ∧ cutB (c :: r) false 1 = false := by
  unfold cutT cutR cutB cutOk
  rw [decide_eq_true (by simp; omega)]
  exact ⟨rfl, rfl, rfl⟩
theorem cut_all (r : List UInt8) : cutT r (r.length : Nat) = r ∧ cutR r (r.length : Nat) = [] ∧ cutB r false (r.length : Nat) = false := by
  unfold cutT cutR cutB cutOk
  rw [decide_eq_true (by simp)]
  simp

/-- a call's end where its first result lies in a cell: a struct in a block of its own -/
theorem ret_cell {fn : Func} {p u : Tmp} {ty : TypeId} (h : fn.results = #[.cell p ty, .tmp u]) (tmps : Array Value) (w : World) (g : Nat) (t : TypeId) (cs : Array Value)
    (hp : tmps.getD p undef = .pointer (some ⟨g, 0, none⟩)) (hg : Blk w g t cs)
    (hl : (loadVar ty ⟨g, 0, none⟩).run Tryz.prog w = .ok (.agg cs) w) :
    (results fn tmps).run Tryz.prog w = .ok (.tuple #[.agg cs, tmps.getD u undef]) w := by
  rw [results_cell_tmp h, hp]
  simp [asAddr, hl, Result.andThen]
theorem load_pack {w : World} {g : Nat} {cs : Array Value} (hg : Blk w g 172 cs) (h4 : cs.size = 4) : (loadVar 172 ⟨g, 0, none⟩).run Tryz.prog w = .ok (.agg cs) w :=
  run_loadVar_row w g 172 172 cs (0, 0) _ hg Tryz.underlying172 rfl (by rw [h4]; kernel_rfl)

/-- what open answers where it fails -/
def noPack : Value := .agg #[.slice none 0 0, .int .i64 0, .int .i64 0, .int .i64 0]

set_option maxHeartbeats 4000000 in
theorem topen_none (v : Value) (b : List UInt8) (n : Nat) (w : World) (hv : Bs w v b) (hn : n ≤ 4096) (hp : parse b = none) :
    Calls Tryz.prog 157 #[v, .int .i64 n] w fun e w' => e = .returned (.tuple #[noPack, .bool false]) ∧ Fr Non w w' := by
  have HV := Lib.hid hv
  obtain ⟨A, c, rfl, _⟩ := hv
  have hcase : Hid (rest b = [] ∧ cutB (rest b) (fell b) 1 = true) := Lib.hid (by
    unfold parse at hp
    cases hr : rd 0 0 b with
    | none => obtain ⟨h1, h2, _⟩ := rest_none hr; rw [h1, h2]; exact ⟨rfl, cut_none.2.2.1⟩
    | some y =>
      obtain ⟨z, r⟩ := y
      rw [hr] at hp
      cases r with
      | nil => obtain ⟨h1, h2, _⟩ := rest_some hr; rw [h1, h2]; exact ⟨rfl, cut_none.2.2.2⟩
      | cons c r => cases hp)
  clear hp
  go_enter Tryz.func157, Tryz.ntmps157
  go_wp2_with fail
  have hB0 : Blk (w.alloc (.cells #[.slice none 0 0, .int .i64 0, .int .i64 0, .int .i64 0] 172)) w.heap.size 172 #[.slice none 0 0, .int .i64 0, .int .i64 0, .int .i64 0] := Blk.new _ _ _
  have f0 : Fr Non w (w.alloc (.cells #[.slice none 0 0, .int .i64 0, .int .i64 0, .int .i64 0] 172)) := (Fr.refl _ _).alloc _
  have hz : (w.alloc (.cells #[.slice none 0 0, .int .i64 0, .int .i64 0, .int .i64 0] 172)).heap.size = w.heap.size + 1 := by simp
  generalize w.alloc (.cells #[.slice none 0 0, .int .i64 0, .int .i64 0, .int .i64 0] 172) = W0 at *
  have h1 := from_any _ b W0 (HV.out.non f0)
  rw [hz] at h1
  generalize hR : w.heap.size = R at *
  refine h1.mono ?_
  rintro e w1 ⟨rfl, s1, f1⟩
  have hB1 := hB0.fr f1 (fun e => e)
  have f01 := f0.trans f1
  clear h1 hB0 f0 f1
  go_wp2_with fail
  refine (sint_any (R + 1) b false w1 s1).mono ?_
  rintro e w2 ⟨rfl, s2, f2⟩
  have hB2 := hB1.fr f2 (fun e => by have : R = R + 1 := e; omega)
  have f02 := f01.fresh f2 (fun q hq => by have : q = R + 1 := hq; omega)
  have hz2 := s2.1.lt
  have hF2 := (Fr.refl Non w2).alloc (.cells #[.slice none 0 0, .int .i64 0, .int .i64 (unzig (fstN b)), .int .i64 0] 172)
  have f03 := f02.trans hF2
  have s3 := s2.fr hF2 (fun e => e)
  have hB3 := hB2.fr hF2 (fun e => e)
  clear hB1 f01 f2 hB2 f02 hF2 s2 s1
  go_wp2_with fail
  refine (take_any (R + 1) (rest b) (fell b) 1 _ s3).mono ?_
  rintro e w4 ⟨v4, rfl, hb4, hn4, s4, f4⟩
  rw [hcase.out.2] at s4
  have hB4 := hB3.fr f4 (fun e => by have : R = R + 1 := e; omega)
  have f04 := f03.fresh f4 (fun q hq => by have : q = R + 1 := hq; omega)
  clear hB3 s3 f4 f03
  go_wp2_with fail
  refine (ok_any (R + 1) _ _ w4 s4).mono ?_
  rintro e w5 ⟨rfl, rfl⟩
  have HB4 := Lib.hid hB4
  have HF4 := Lib.hid f04
  have hfz := hB4.frozen
  have hc0 : w4.cell? ⟨R, 0, none⟩ = some (.slice none 0 0) := hB4.cell 0
  have hc1 : w4.cell? ⟨R, 1, none⟩ = some (.int .i64 0) := hB4.cell 1
  have hc2 : w4.cell? ⟨R, 2, none⟩ = some (.int .i64 0) := hB4.cell 2
  have hc3 : w4.cell? ⟨R, 3, none⟩ = some (.int .i64 0) := hB4.cell 3
  have fz0 := hfz 0
  have fz1 := hfz 1
  have fz2 := hfz 2
  have fz3 := hfz 3
  clear hfz hB4 f04 hn4 hb4
  go_wp2
  (try simp only [Exit.inBlock, Exit.then])
  have hBe : Blk ((((w4.setCell ⟨R, 0, none⟩ (.slice none 0 0)).setCell ⟨R, 1, none⟩ (.int .i64 0)).setCell ⟨R, 2, none⟩ (.int .i64 0)).setCell ⟨R, 3, none⟩ (.int .i64 0)) R 172 #[.slice none 0 0, .int .i64 0, .int .i64 0, .int .i64 0] :=
    (((HB4.out.set 0 _).set 1 _).set 2 _).set 3 _
  have hn : ∀ i : Nat, ¬ (⟨R, i, none⟩ : Addr).block < w.heap.size := fun i h => by have h : R < w.heap.size := h; omega
  refine bodyPost_ret (v := .tuple #[noPack, .bool false]) (ret_cell (p := 4) (u := 5) (ty := 172) rfl _ _ R _ _ rfl hBe (load_pack hBe rfl)) rfl ⟨rfl, ?_⟩
  exact (((HF4.out.setCell (fun h => absurd h (hn 0)) _).setCell (fun h => absurd h (hn 1)) _).setCell (fun h => absurd h (hn 2)) _).setCell (fun h => absurd h (hn 3)) _

set_option maxHeartbeats 4000000 in
theorem topen_some (v : Value) (b : List UInt8) (n : Nat) (lo : Int) (k : Nat) (r : List UInt8) (w : World) (hv : Bs w v b) (hn : n ≤ 4096) (hbl : b.length ≤ 100000000) (hp : parse b = some (lo, k, r)) :
    Calls Tryz.prog 157 #[v, .int .i64 n] w fun e w' => ∃ u, e = .returned (.tuple #[.agg #[u, .int .i64 0, .int .i64 lo, .int .i64 k], .bool (decide (r.length = need (n * k)))]) ∧ Bs w' u r ∧ (∀ q, u.ownBlock = some q → w.heap.size ≤ q) ∧ k ≤ 255 ∧ r.length ≤ b.length ∧ Fr Non w w' := by
  have HV := Lib.hid hv
  obtain ⟨A, c, rfl, _⟩ := hv
  obtain ⟨ch, hch⟩ : ∃ ch : UInt8, rest b = ch :: r ∧ fell b = false ∧ unzig (fstN b) = lo ∧ ch.toNat = k ∧ r.length ≤ b.length := by
    unfold parse at hp
    cases hr : rd 0 0 b with
    | none => rw [hr] at hp; cases hp
    | some y =>
      obtain ⟨z, q⟩ := y
      obtain ⟨h1, h2, h3, _⟩ := rest_some hr
      have h4 := rd_len (by omega) hr
      rw [hr] at hp
      cases q with
      | nil => cases hp
      | cons ch q =>
        simp only [Option.some.injEq, Prod.mk.injEq] at hp
        obtain ⟨e1, e2, e3⟩ := hp
        subst e1 e2 e3
        exact ⟨ch, h1, h2, by rw [h3], rfl, by simp at h4; omega⟩
  obtain ⟨hr1, hr2, hr3, hr4, hr5⟩ := hch
  have hk8 : k ≤ 255 := by rw [← hr4]; have := ch.toNat_lt; omega
  have HR := Lib.hid hr1
  have HL := Lib.hid hr3
  have HK := Lib.hid hr4
  clear hp hr1 hr3 hr4
  go_enter Tryz.func157, Tryz.ntmps157
  go_wp2_with fail
  have hB0 : Blk (w.alloc (.cells #[.slice none 0 0, .int .i64 0, .int .i64 0, .int .i64 0] 172)) w.heap.size 172 #[.slice none 0 0, .int .i64 0, .int .i64 0, .int .i64 0] := Blk.new _ _ _
  have f0 : Fr Non w (w.alloc (.cells #[.slice none 0 0, .int .i64 0, .int .i64 0, .int .i64 0] 172)) := (Fr.refl _ _).alloc _
  have hz : (w.alloc (.cells #[.slice none 0 0, .int .i64 0, .int .i64 0, .int .i64 0] 172)).heap.size = w.heap.size + 1 := by simp
  generalize w.alloc (.cells #[.slice none 0 0, .int .i64 0, .int .i64 0, .int .i64 0] 172) = W0 at *
  have h1 := from_any _ b W0 (HV.out.non f0)
  rw [hz] at h1
  generalize hR : w.heap.size = R at *
  refine h1.mono ?_
  rintro e w1 ⟨rfl, s1, f1⟩
  have hB1 := hB0.fr f1 (fun e => e)
  have f01 := f0.trans f1
  clear h1 hB0 f0 f1
  go_wp2_with fail
  have h2 := sint_any (R + 1) b false w1 s1
  rw [HL.out, HR.out, hr2] at h2
  refine h2.mono ?_
  rintro e w2 ⟨rfl, s2, f2⟩
  clear h2
  have hB2 := hB1.fr f2 (fun e => by have : R = R + 1 := e; omega)
  have f02 := f01.fresh f2 (fun q hq => by have : q = R + 1 := hq; omega)
  have hz2 := s2.1.lt
  have hF2 := (Fr.refl Non w2).alloc (.cells #[.slice none 0 0, .int .i64 0, .int .i64 (lo), .int .i64 0] 172)
  have f03 := f02.trans hF2
  have s3 := s2.fr hF2 (fun e => e)
  have hB3 := hB2.fr hF2 (fun e => e)
  clear hB1 f01 f2 hB2 f02 hF2 s2 s1
  have hP2 : Blk (w2.alloc (.cells #[.slice none 0 0, .int .i64 0, .int .i64 lo, .int .i64 0] 172)) w2.heap.size 172 #[.slice none 0 0, .int .i64 0, .int .i64 lo, .int .i64 0] := Blk.new _ _ _
  go_wp2_with fail
  have h3 := take_any (R + 1) (ch :: r) false 1 _ s3
  rw [(cut_one ch r).1, (cut_one ch r).2.1, (cut_one ch r).2.2] at h3
  refine h3.mono ?_
  rintro e w4 ⟨v4, rfl, hb4, hn4, s4, f4⟩
  clear h3
  have hB4 := hB3.fr f4 (fun e => by have : R = R + 1 := e; omega)
  have hP4 := hP2.fr f4 (fun e => by have : w2.heap.size = R + 1 := e; omega)
  have f04 := f03.fresh f4 (fun q hq => by have : q = R + 1 := hq; omega)
  clear hB3 s3 f4 f03 hP2
  generalize hG : w2.heap.size = G at *
  go_wp2_with fail
  refine (ok_any (R + 1) _ _ w4 s4).mono ?_
  rintro e w5 ⟨rfl, rfl⟩
  have hcw : ∃ a c4, v4 = .slice (some a) 1 c4 ∧ w4.cell? a = some (.int .u8 (k : Nat)) := by
    obtain ⟨A4, c4, rfl, _⟩ := hb4.shape
    obtain ⟨a, rfl, _, _, h⟩ := hb4.vs.addr (by simp)
    refine ⟨a, c4, rfl, ?_⟩
    have := h 0 (by simp)
    simpa [bv, HK.out, Addr.add] using this
  obtain ⟨a, c4, rfl, hca⟩ := hcw
  have p3 : w4.cell? ⟨G, 3, none⟩ = some (.int .i64 0) := hP4.cell 3
  have fp3 := hP4.frozen 3
  have hGw : ¬ G < w.heap.size := by omega
  have hRw : ¬ R < w.heap.size := by omega
  have hP5 := hP4.set 3 (.int .i64 (k : Nat))
  have s5 := s4.fr ((Fr.refl (One G) w4).set1 3 (.int .i64 (k : Nat))) (fun e => by have : R + 1 = G := e; omega)
  have hB5 := hB4.fr ((Fr.refl (One G) w4).set1 3 (.int .i64 (k : Nat))) (fun e => by have : R = G := e; omega)
  have f05 : Fr Non w (w4.setCell ⟨G, 3, none⟩ (.int .i64 (k : Nat))) := f04.setCell (p := ⟨G, 3, none⟩) (fun h => hGw h) _
  clear hb4 hn4 hP4 s4 hB4 f04
  go_wp2_with fail
  clear p3 fp3 hca
  generalize w4.setCell ⟨G, 3, none⟩ (.int .i64 (k : Nat)) = w5 at *
  refine (left_any (R + 1) _ _ w5 s5).mono ?_
  rintro e w6 ⟨rfl, rfl⟩
  go_wp2_with fail
  have h6 := take_any (R + 1) r false (r.length : Nat) w5 s5
  rw [(cut_all r).1, (cut_all r).2.1, (cut_all r).2.2] at h6
  refine h6.mono ?_
  rintro e w6 ⟨v6, rfl, hb6, hn6, s6, f6⟩
  obtain ⟨A6, c6, rfl⟩ := hb6.shape
  have hB6 := hB5.fr f6 (fun e => by have : R = R + 1 := e; omega)
  have hP6 := hP5.fr f6 (fun e => by have : G = R + 1 := e; omega)
  have f06 := f05.fresh f6 (fun q hq => by have : q = R + 1 := hq; omega)
  have hn7 : ∀ q, (Value.slice A6 r.length c6).ownBlock = some q → q ≠ G ∧ q ≠ R ∧ w.heap.size ≤ q := fun q hq => by
    have h1 := hn6 q hq
    have h2 := hP5.lt
    have h3 := hB5.lt
    exact ⟨by omega, by omega, by omega⟩
  have p0 : w6.cell? ⟨G, 0, none⟩ = some (.slice none 0 0) := hP6.cell 0
  have fp0 := hP6.frozen 0
  have hP7 := hP6.set 0 (.slice A6 r.length c6)
  have hF7 := (Fr.refl (One G) w6).set1 0 (.slice A6 r.length c6)
  have hB7 := hB6.fr hF7 (fun e => by have : R = G := e; omega)
  have hb7 := hb6.fr hF7 (fun q hq e => (hn7 q hq).1 e)
  have f07 : Fr Non w (w6.setCell ⟨G, 0, none⟩ (.slice A6 r.length c6)) := f06.setCell (p := ⟨G, 0, none⟩) (fun h => hGw h) _
  have HN7 := Lib.hid hn7
  clear h6 hb6 hn6 s6 f6 hB6 hP6 f06 hn7 hF7 hP5 hB5 f05 s5
  go_wp2_with fail
  clear p0 fp0
  generalize w6.setCell ⟨G, 0, none⟩ (.slice A6 r.length c6) = w7 at *
  have hP8 : Blk w7 G 172 #[.slice A6 r.length c6, .int .i64 0, .int .i64 lo, .int .i64 (k : Nat)] := hP7
  have c0 : w7.drew.cell? ⟨G, 0, none⟩ = some (.slice A6 r.length c6) := hP8.cell 0
  have c1 : w7.drew.cell? ⟨G, 1, none⟩ = some (.int .i64 0) := hP8.cell 1
  have c2 : w7.drew.cell? ⟨G, 2, none⟩ = some (.int .i64 lo) := hP8.cell 2
  have c3 : w7.drew.cell? ⟨G, 3, none⟩ = some (.int .i64 (k : Nat)) := hP8.cell 3
  have s0 : w7.cell? ⟨R, 0, none⟩ = some (.slice none 0 0) := hB7.cell 0
  have fs0 : w7.frozen? ⟨R, 0, none⟩ = false := hB7.frozen 0
  have s1 : w7.cell? ⟨R, 1, none⟩ = some (.int .i64 0) := hB7.cell 1
  have fs1 : w7.frozen? ⟨R, 1, none⟩ = false := hB7.frozen 1
  have s2 : w7.cell? ⟨R, 2, none⟩ = some (.int .i64 0) := hB7.cell 2
  have fs2 : w7.frozen? ⟨R, 2, none⟩ = false := hB7.frozen 2
  have s3 : w7.cell? ⟨R, 3, none⟩ = some (.int .i64 0) := hB7.cell 3
  have fs3 : w7.frozen? ⟨R, 3, none⟩ = false := hB7.frozen 3
  have hB9 : Blk ((((w7.setCell ⟨R, 0, none⟩ (.slice A6 r.length c6)).setCell ⟨R, 1, none⟩ (.int .i64 0)).setCell ⟨R, 2, none⟩ (.int .i64 lo)).setCell ⟨R, 3, none⟩ (.int .i64 (k : Nat))).drew R 172 #[.slice A6 r.length c6, .int .i64 0, .int .i64 lo, .int .i64 (k : Nat)] :=
    ((((hB7.set 0 _).set 1 _).set 2 _).set 3 _).drew
  have hF9 : Fr (One R) w7 ((((w7.setCell ⟨R, 0, none⟩ (.slice A6 r.length c6)).setCell ⟨R, 1, none⟩ (.int .i64 0)).setCell ⟨R, 2, none⟩ (.int .i64 lo)).setCell ⟨R, 3, none⟩ (.int .i64 (k : Nat))).drew := (((((Fr.refl (One R) w7).set1 0 _).set1 1 _).set1 2 _).set1 3 _).drew
  have hP9 := hP8.fr hF9 (fun e => by have : G = R := e; omega)
  have k0 : (((((w7.setCell ⟨R, 0, none⟩ (.slice A6 r.length c6)).setCell ⟨R, 1, none⟩ (.int .i64 0)).setCell ⟨R, 2, none⟩ (.int .i64 lo)).setCell ⟨R, 3, none⟩ (.int .i64 (k : Nat))).drew).cell? ⟨G, 0, none⟩ = some (.slice A6 r.length c6) := hP9.cell 0
  have k1 : (((((w7.setCell ⟨R, 0, none⟩ (.slice A6 r.length c6)).setCell ⟨R, 1, none⟩ (.int .i64 0)).setCell ⟨R, 2, none⟩ (.int .i64 lo)).setCell ⟨R, 3, none⟩ (.int .i64 (k : Nat))).drew).cell? ⟨G, 1, none⟩ = some (.int .i64 0) := hP9.cell 1
  have k2 : (((((w7.setCell ⟨R, 0, none⟩ (.slice A6 r.length c6)).setCell ⟨R, 1, none⟩ (.int .i64 0)).setCell ⟨R, 2, none⟩ (.int .i64 lo)).setCell ⟨R, 3, none⟩ (.int .i64 (k : Nat))).drew).cell? ⟨G, 2, none⟩ = some (.int .i64 lo) := hP9.cell 2
  have k3 : (((((w7.setCell ⟨R, 0, none⟩ (.slice A6 r.length c6)).setCell ⟨R, 1, none⟩ (.int .i64 0)).setCell ⟨R, 2, none⟩ (.int .i64 lo)).setCell ⟨R, 3, none⟩ (.int .i64 (k : Nat))).drew).cell? ⟨G, 3, none⟩ = some (.int .i64 (k : Nat)) := hP9.cell 3
  have HB9 := Lib.hid hB9
  have HF9 := Lib.hid (f07.fresh hF9 (fun q hq => by have : q = R := hq; omega))
  have Hb9 := Lib.hid (hb7.fr hF9 (fun q hq e => (HN7.out q hq).2.1 e))
  clear hB9 hF9 hP9
  have HSz := Lib.hid (fun W => tsize_any n k W (by omega) (by omega))
  clear hP7 hP8 hB7 hb7 f07
  go_region_held3 (fun W => W.cell? ⟨G, 0, none⟩ = some (.slice A6 r.length c6) ∧ W.cell? ⟨G, 1, none⟩ = some (.int .i64 0) ∧ W.cell? ⟨G, 2, none⟩ = some (.int .i64 lo) ∧ W.cell? ⟨G, 3, none⟩ = some (.int .i64 (k : Nat))) (first | exact ⟨c0, c1, c2, c3⟩ | exact ⟨k0, k1, k2, k3⟩) (first | (go_at_call 155; refine (HSz.out _).mono ?_; rintro e w8 ⟨rfl, rfl⟩))
  go_wp2
  (try simp only [Exit.inBlock, Exit.then])
  have hbe : ((r.length : Int) == (need (n * k) : Nat)) = decide (r.length = need (n * k)) := by
    rw [Bool.eq_iff_iff, beq_iff_eq, decide_eq_true_iff]; omega
  rw [hbe]
  refine bodyPost_ret (v := .tuple #[.agg #[.slice A6 r.length c6, .int .i64 0, .int .i64 lo, .int .i64 (k : Nat)], .bool (decide (r.length = need (n * k)))]) (ret_cell (p := 4) (u := 5) (ty := 172) rfl _ _ R _ _ rfl HB9.out (load_pack HB9.out rfl)) rfl ?_
  exact ⟨_, rfl, Hb9.out, fun q hq => (HN7.out q hq).2.2, hk8, hr5, HF9.out⟩
end Go.Proofs.YtheefloegbkflaaGreatDoor


namespace Go.Proofs.YtheefloegbkflaaGreatDoor
set_option linter.unusedVariables false
set_option linter.unusedSimpArgs false
set_option maxRecDepth 100000
open Go.RowKit

theorem getM_low {b : List UInt8} {n : Int} (h : n < 0) : getM b n = none := by unfold getM; rw [if_pos (by omega), getZ_neg h]
theorem getM_big {b : List UInt8} {n : Int} (h : 4096 < n) : getM b n = none := by unfold getM; rw [if_neg (by omega)]
theorem getM_pos {b : List UInt8} {n : Nat} (h : 0 < n) (h2 : n ≤ 4096) : getM b n = getT b n := by unfold getM; rw [if_pos (by omega), getZ_pos h]

/-- a slice that has an element lies in a block that is there -/
theorem vs_lt {α : Type} {f : α → Value} {w : World} {v : Value} {l : List α} (h : Vs f w v l) (h0 : 0 < l.length) : ∀ q, v.ownBlock = some q → q < w.heap.size := by
  obtain ⟨A, c, rfl⟩ := h.shape
  obtain ⟨a, rfl, _, _, hc⟩ := h.addr h0
  intro q hq
  have := World.block_lt_of_cell? w _ (hc 0 h0)
  rw [add_block] at this
  simp [Value.ownBlock] at hq
  omega
/-- one that has none reads the same in every world -/
theorem vs_keep0 {α : Type} {f : α → Value} {w w' : World} {v : Value} {l : List α} (h : Vs f w v l) (hk : 0 < l.length → ∀ k, v.ownBlock = some k → k < w.heap.size → w'.heap[k]? = w.heap[k]?) : Vs f w' v l := by
  by_cases h0 : 0 < l.length
  · exact h.keep (hk h0)
  · obtain ⟨A, c, rfl, h1, h2, h3⟩ := h
    exact ⟨A, c, rfl, h1, h2, fun a ha j hj => absurd hj (by omega)⟩

set_option maxHeartbeats 4000000 in
theorem tget_any (v : Value) (b : List UInt8) (n : Int) (w : World) (hv : Bs w v b) (hl : b.length ≤ 100000000) (h1 : -9223372036854775808 ≤ n) (h2 : n ≤ 9223372036854775807) :
    Calls Tryz.prog 104 #[v, .int .i64 n] w fun e w' => Gtn w' w.heap.size (getM b n) e ∧ Fr Non w w' := by
  have HV := Lib.hid hv
  obtain ⟨A, c, rfl, _⟩ := hv
  by_cases hn0 : n < 0
  · have hd : decide (n ≤ 0) = true := by simp; omega
    have hz : (n == 0) = false := by rw [beq_eq_false_iff_ne]; omega
    have HG := Lib.hid (getM_low (b := b) hn0)
    clear hn0
    go_enter Tryz.func104, Tryz.ntmps104
    go_wp2
    go_ret2
    exact ⟨gtn_no HG.out, Fr.refl _ _⟩
  · by_cases hn4 : 4096 < n
    · have hd : decide (n ≤ 0) = false := by simp; omega
      have hd4 : decide (4096 < n) = true := by simpa using hn4
      have hz : (n == 0) = false := by rw [beq_eq_false_iff_ne]; omega
      have HG := Lib.hid (getM_big (b := b) hn4)
      clear hn0 hn4
      go_enter Tryz.func104, Tryz.ntmps104
      go_wp2
      go_ret2
      exact ⟨gtn_no HG.out, Fr.refl _ _⟩
    · obtain ⟨m, rfl⟩ := Int.eq_ofNat_of_zero_le (show 0 ≤ n by omega)
      have hm4 : m ≤ 4096 := by omega
      clear h1 h2 hn0 hn4
      by_cases hm0 : m = 0
      · subst hm0
        cases b with
        | nil =>
          have HG : Hid (getM [] ((0 : Nat) : Int) = some []) := Lib.hid rfl
          go_enter Tryz.func104, Tryz.ntmps104
          go_wp2
          go_ret2
          exact ⟨gtn_yes HG.out (ow_nil _ _), Fr.refl _ _⟩
        | cons b0 b1 =>
          have HG : Hid (getM (b0 :: b1) ((0 : Nat) : Int) = none) := Lib.hid rfl
          have hb : ((((b0 :: b1).length : Nat) : Int) == 0) = false := by rw [beq_eq_false_iff_ne]; simp; omega
          generalize b0 :: b1 = b at *
          go_enter Tryz.func104, Tryz.ntmps104
          go_wp2
          go_ret2
          exact ⟨gtn_no HG.out, Fr.refl _ _⟩
      · have hpos : 0 < m := by omega
        have hd : decide ((m : Int) ≤ 0) = false := by simp; omega
        have hd4 : decide (4096 < (m : Int)) = false := by simp; omega
        have HG := Lib.hid (getM_pos (b := b) hpos hm4)
        clear hm0
        cases hp : parse b with
        | none =>
          have HR := Lib.hid (HG.out.trans (getT_none hp))
          have ho := topen_none _ b m w HV.out hm4 hp
          clear hp
          go_enter Tryz.func104, Tryz.ntmps104
          go_wp2_with fail
          refine ho.mono ?_
          rintro e w1 ⟨rfl, f1⟩
          unfold noPack
          go_wp2
          go_ret2
          exact ⟨gtn_no HR.out, f1.alloc _⟩
        | some y =>
          obtain ⟨lo, k, r⟩ := y
          have ho := topen_some _ b m lo k r w HV.out hm4 hl hp
          by_cases hlen : r.length = need (m * k)
          · rw [decide_eq_true hlen] at ho
            have HP := Lib.hid hp
            have HL := Lib.hid hlen
            clear hp hlen
            go_enter Tryz.func104, Tryz.ntmps104
            go_wp2_with fail
            refine ho.mono ?_
            rintro e w1 ⟨u, rfl, hb1, hn1, hk8, hrb, f1⟩
            obtain ⟨A1, c1, rfl⟩ := hb1.shape
            have hP2 : Blk (w1.alloc (.cells #[.slice A1 r.length c1, .int .i64 0, .int .i64 lo, .int .i64 (k : Nat)] 172)) w1.heap.size 172 #[.slice A1 r.length c1, .int .i64 0, .int .i64 lo, .int .i64 (k : Nat)] := Blk.new _ _ _
            have f2 : Fr Non w (w1.alloc (.cells #[.slice A1 r.length c1, .int .i64 0, .int .i64 lo, .int .i64 (k : Nat)] 172)) := f1.alloc _
            have hb2 := hb1.non ((Fr.refl Non w1).alloc (.cells #[.slice A1 r.length c1, .int .i64 0, .int .i64 lo, .int .i64 (k : Nat)] 172))
            have hz2 : (w1.alloc (.cells #[.slice A1 r.length c1, .int .i64 0, .int .i64 lo, .int .i64 (k : Nat)] 172)).heap.size = w1.heap.size + 1 := by simp
            have hu1 : 0 < r.length → ∀ q, (Value.slice A1 r.length c1).ownBlock = some q → q < w1.heap.size := fun hr0 => vs_lt hb1.vs hr0
            have hw1 := f1.size
            clear hb1 f1
            go_wp2_with (at_make; refine wpList_mkfullG el_i64 (f := iv) (0 : Int) rfl rfl _ _ rfl _ _ _ _ m rfl rfl rfl rfl (by omega) ?_; intro w3 hown3 hf3; rw [hz2] at hown3 ⊢)
            have hP3 := hP2.fr hf3 (fun e => e)
            have hb3 := hb2.vs.non hf3
            have f3 := f2.trans hf3
            have hs3 := hf3.size
            have hN9 : r.length ≤ 100000000 := by omega
            have hN8 : m * k ≤ 8 * r.length := by rw [HL.out]; unfold need; omega
            generalize hPP : w1.heap.size = P at *
            rw [← partT_zero r lo k m] at hown3
            rw [hz2] at hs3
            have hPw : w.heap.size ≤ P := hw1
            clear hP2 hb2 f2 hz2 hf3
            go_loopw [35] (fun i wr => ∃ j : Nat, j ≤ m ∧ i = .int .i64 j ∧ Blk wr P 172 #[.slice A1 r.length c1, .int .i64 (j * k : Nat), .int .i64 lo, .int .i64 (k : Nat)] ∧ Ow iv 2 wr (P + 1) (.slice (some ⟨P + 1, 0, none⟩) m m) (partT r lo k m j) ∧ Vs bv wr (.slice A1 r.length c1) r ∧ Fr Non w wr) (fun i _ => m - (intOf i).toNat)
            case atStart => exact ⟨0, Nat.zero_le _, rfl, by rw [Nat.zero_mul]; exact hP3, hown3, hb3, f3⟩
            case round =>
              clear hP3 hown3 hb3 f3
              obtain ⟨j, hj, rfl, hP, hown, hb, hfr⟩ := hrel
              by_cases hlt : j < m
              · have hpl : j * k + k ≤ 8 * r.length := by
                  have h1 := Nat.mul_le_mul_right k (show j + 1 ≤ m by omega)
                  rw [Nat.add_mul, Nat.one_mul] at h1
                  omega
                have hT := stell_any P (j * k) k _ r lo wr hP hb (fun h0 q hq e => by have := hu1 h0 q hq; omega) hpl hN9 hk8
                have HST := Lib.hid (partT_step r lo k m j hlt)
                have hx0 := hown.cell (partT_length _ _ _ _ _).symm j ((partT r lo k m j)[j]'(by rw [partT_length]; exact hlt)) (by simp [partT_length, hlt])
                have hz0 := hown.frozen (partT_length _ _ _ _ _).symm j
                have hgr := hP.lt
                have hql := (hown.lt (P + 1) rfl).2
                have HO := Lib.hid hown
                have HB := Lib.hid hb
                have HF := Lib.hid hfr
                unfold iv at hx0
                generalize (partT r lo k m j)[j]'(by rw [partT_length]; exact hlt) = x0 at *
                generalize w6 (lo + (numT r (j * k) k : Nat)) = x at *
                clear hP hown hb hfr
                go_wp2_with fail
                refine hT.mono ?_
                rintro e w5 ⟨rfl, hP5, hf5⟩
                have hx5 := (hf5.cell (p := ⟨P + 1, j, none⟩) hql (fun e => by have : P + 1 = P := e; omega)).trans hx0
                have hown5 := HO.out.fr hf5 (fun q hq e => by simp [Value.ownBlock] at hq; have : q = P := e; omega)
                have hz5 := hown5.frozen (partT_length _ _ _ _ _).symm j
                have hs5 := hf5.size
                have hb5 := vs_keep0 HB.out (w' := w5) (fun h0 q hq hqs => hf5.block q hqs (fun e => by have := hu1 h0 q hq; have : q = P := e; omega))
                have hf5n := HF.out.fresh hf5 (fun q hq => by have : q = P := hq; omega)
                have HP5 := Lib.hid hP5
                have HO5 := Lib.hid hown5
                have HB5 := Lib.hid hb5
                have HF5 := Lib.hid hf5n
                clear hT hP5 hown5 hb5 hf5n hf5 hx0 hz0
                go_wp2
                go_roundw
                case rel =>
                  have hFs := (Fr.refl (One (P + 1)) w5).set1 j (.int .i64 x)
                  refine ⟨j + 1, by omega, by go_num, ?_, ?_, ?_, ?_⟩
                  · have := HP5.out.fr hFs (fun e => by have : P = P + 1 := e; omega)
                    rwa [show j * k + k = (j + 1) * k by rw [Nat.add_mul, Nat.one_mul]] at this
                  · rw [HST.out]
                    exact HO5.out.store (partT_length _ _ _ _ _).symm j x
                  · exact vs_keep0 HB5.out (fun h0 q hq hqs => hFs.block q hqs (fun e => by have := hu1 h0 q hq; have : q = P + 1 := e; omega))
                  · exact HF5.out.fresh hFs (fun q hq => by have : q = P + 1 := hq; omega)
                case measure => simp [intOf]; omega
              · obtain rfl : j = m := by omega
                rw [partT_all] at hown
                have HRl := Lib.hid (readT_length r lo k j)
                have HP0 := Lib.hid (tput_any _ (readT r lo k j) wr hown.vs (readT_i64 _ _ _ _) (by rw [HRl.out]; omega))
                have HO := Lib.hid (hown.mono (B' := w.heap.size) (by omega))
                have HF := Lib.hid hfr
                clear hP hown hb hfr
                by_cases he : putT (readT r lo k j) = b
                · have HR := Lib.hid (HG.out.trans (getT_yes HP.out HL.out he))
                  have hbb : (putT (readT r lo k j) == b) = true := by simp [he]
                  clear he
                  go_wp2_with fail
                  refine HP0.out.mono ?_
                  rintro e w6 ⟨u6, rfl, hown6, hf6⟩
                  go_wp2_with fail
                  refine (equal_any _ _ _ b w6 hown6.bs (HV.out.non (HF.out.trans hf6))).mono ?_
                  rintro e w7 ⟨rfl, rfl⟩
                  go_wp2
                  go_ret2
                  exact ⟨gtn_yes HR.out (HO.out.non hf6), HF.out.trans hf6⟩
                · have HR := Lib.hid (HG.out.trans (getT_ne HP.out he))
                  have hbb : (putT (readT r lo k j) == b) = false := by simp [he]
                  clear he
                  go_wp2_with fail
                  refine HP0.out.mono ?_
                  rintro e w6 ⟨u6, rfl, hown6, hf6⟩
                  go_wp2_with fail
                  refine (equal_any _ _ _ b w6 hown6.bs (HV.out.non (HF.out.trans hf6))).mono ?_
                  rintro e w7 ⟨rfl, rfl⟩
                  go_wp2
                  go_ret2
                  exact ⟨gtn_no HR.out, HF.out.trans hf6⟩
          · rw [decide_eq_false hlen] at ho
            have HR := Lib.hid (HG.out.trans (getT_len hp hlen))
            clear hp hlen
            go_enter Tryz.func104, Tryz.ntmps104
            go_wp2_with fail
            refine ho.mono ?_
            rintro e w1 ⟨u, rfl, hb1, hn1, hk8, hrb, f1⟩
            obtain ⟨A1, c1, rfl⟩ := hb1.shape
            clear hb1 hn1
            go_wp2
            go_ret2
            exact ⟨gtn_no HR.out, f1.alloc _⟩
end Go.Proofs.YtheefloegbkflaaGreatDoor


namespace Go.Proofs.YtheefloegbkflaaGreatDoor
set_option linter.unusedVariables false
set_option linter.unusedSimpArgs false
set_option maxRecDepth 100000
open Go.RowKit

theorem set_app {α : Type} (H Z : List α) (i : Nat) (x : α) : (H ++ Z).set (H.length + i) x = H ++ Z.set i x := by
  rw [List.set_append_right _ _ (by omega), Nat.add_sub_cancel_left]
theorem add_bit (q y t : Nat) (ht : t < 8) (hq : q < 2 ^ t) : ((q : Int) + (y : Int) % 2 * 2 ^ t) % 256 = ((q + y % 2 * 2 ^ t : Nat) : Int) := by
  have h2 : (y : Int) % 2 = ((y % 2 : Nat) : Int) := by push_cast; rfl
  have h3 : y % 2 < 2 := Nat.mod_lt _ (by decide)
  rw [h2]
  generalize y % 2 = b at *
  have all : ∀ b : Fin 2, ∀ t : Fin 8, ∀ q : Fin 128, q.1 < 2 ^ t.1 → ((q.1 : Int) + (b.1 : Int) * 2 ^ t.1) % 256 = ((q.1 + b.1 * 2 ^ t.1 : Nat) : Int) := by decide +kernel
  have := pow8 ht
  exact all ⟨b, h3⟩ ⟨t, ht⟩ ⟨q, by omega⟩ hq

set_option maxHeartbeats 4000000 in
theorem rtput_any (v : Value) (l : List Int) (w : World) (hv : Vs iv w v l) (hx : ∀ x ∈ l, I64 x) (hl : l.length ≤ 1000000) :
    Calls Tryz.prog 123 #[v] w fun e w' => ∃ u, e = .returned u ∧ Own w' w.heap.size u (putT l) ∧ Fr Non w w' := by
  have HV := Lib.hid hv
  have HX := Lib.hid hx
  clear hx
  obtain ⟨A, c, rfl, hlc, hn, hcell⟩ := hv
  have HN := Lib.hid hn
  have HC := Lib.hid hcell
  clear hn hcell
  by_cases h0 : l.length = 0
  · have hl0 : l = [] := List.eq_nil_of_length_eq_zero h0
    subst hl0
    go_enter Tryz.func123, Tryz.ntmps123
    go_wp2
    go_ret
    exact ⟨_, rfl, own_nil _ _, Fr.refl _ _⟩
  · have hpos : 0 < l.length := by omega
    cases A with
    | none => have := HN.out rfl; omega
    | some a =>
      have g0 : w.cell? a = some (.int .i64 l[0]) := by
        have := HC.out a rfl 0 hpos
        simpa [Addr.add, iv] using this
      have HS1 := Lib.hid (loT_succ l)
      have HS2 := Lib.hid (hiT_succ l)
      have H01 : Hid (loT l 0 = l[0]) := Lib.hid (by
        rw [loT_zero]
        cases l with
        | nil => simp at hpos
        | cons x l => rfl)
      have H02 : Hid (hiT l 0 = l[0]) := Lib.hid (by
        rw [hiT_zero]
        cases l with
        | nil => simp at hpos
        | cons x l => rfl)
      go_enter Tryz.func123, Tryz.ntmps123
      go_wp2
      go_quiet (fail)
      go_wp2
      go_loopw [3, 4, 5] (fun x y i wr => ∃ j : Nat, j ≤ l.length ∧ i = .int .i64 j ∧ x = .int .i64 (loT l j) ∧ y = .int .i64 (hiT l j) ∧ ∃ n, wr = w.drewN n) (fun _ _ i _ => l.length - (intOf i).toNat)
      case atStart => exact ⟨0, Nat.zero_le _, rfl, by rw [H01.out], by rw [H02.out], _, rfl⟩
      case round =>
        obtain ⟨j, hj, rfl, rfl, rfl, n, rfl⟩ := hrel
        by_cases hlt : j < l.length
        · have g1 : w.cell? (a.add j) = some (iv l[j]) := HC.out a rfl j hlt
          have hs1 := Lib.hid (HS1.out j hlt)
          have hs2 := Lib.hid (HS2.out j hlt)
          unfold iv at g1
          clear g0
          generalize l[j] = x at *
          by_cases c1 : x < loT l j
          all_goals
            by_cases c2 : hiT l j < x
            all_goals
              go_wp2
              go_roundw
              case rel => exact ⟨j + 1, by omega, by go_num, by rw [hs1.out]; congr 1; omega, by rw [hs2.out]; congr 1; omega, _, rfl⟩
              case measure => simp [intOf]; omega
        · have hjl : j = l.length := by omega
          subst hjl
          have hHi : Hid (hiT l l.length = greatOf l) := Lib.hid rfl
          have hLo : Hid (loT l l.length = leastOf l) := Lib.hid rfl
          rw [hHi.out, hLo.out]
          have f1 : Fr Non w (w.drewN n) := (Fr.refl _ _).drewN n
          generalize w.drewN n = W1 at *
          have hle : leastOf l ≤ greatOf l := Int.le_trans (least_le l 0 hpos) (great_ge l 0 hpos)
          have hi64 := great_i64 HX.out
          have h64 := least_i64 HX.out
          have e1 := u64_diff hi64 h64 hle
          have hd := diff_lt HX.out
          have hk64 := width_le HX.out
          have HW := Lib.hid (show width l = Lib.bitLen (greatOf l - leastOf l).toNat from rfl)
          rw [HW.out] at hk64
          clear hle hi64 H01 H02 HS1 HS2 hHi hLo g0 hj hlt
          generalize (greatOf l - leastOf l).toNat = d at *
          go_wp2_with fail
          refine (tneed_any d W1 hd).mono ?_
          rintro e w2 ⟨rfl, rfl⟩
          generalize Lib.bitLen d = k at *
          clear hd e1
          go_wp2_with fail
          refine (rint_any (leastOf l) W1 h64.1 h64.2).mono ?_
          rintro e w2 ⟨v2, rfl, hown2, f2⟩
          obtain ⟨A2, c2, rfl⟩ := hown2.bs.shape
          have hul := Lib.uvarint_length64 (zig_lt h64.1 h64.2)
          have hB2 := Nat.le_trans f1.size f2.size
          have hown2 := hown2.mono (B' := w.heap.size) f1.size
          have f02 := f1.trans f2
          go_wp2_with (at_builtin; refine wpList_pushG el_u8 bv_oneC rfl (.tmp 54) (.tmp 57) rfl w.heap.size _ (Lib.uvarint (zig (leastOf l))) rfl hown2.ow _ k.toUInt8 (by unfold bv; rw [small64 hk64]) rfl (by omega) hB2 ?_; intro v3 w3 hown3 f3)
          have f03 := f02.fresh f3 (fun q hq => (hown2.lt q hq).1)
          have HPt : Hid (putT l = (Lib.uvarint (zig (leastOf l)) ++ [k.toUInt8]) ++ packB (allB k (leastOf l) l)) := Lib.hid (by
            rw [putT_some (by intro e; rw [e] at hpos; simp at hpos), HW.out]
            simp)
          have hHl : (Lib.uvarint (zig (leastOf l)) ++ [k.toUInt8]).length ≤ 11 := by rw [List.length_append, List.length_singleton]; omega
          have HLn := Lib.hid (allB_length k (leastOf l) l)
          have hLk : l.length * k ≤ 100000000 := by have := Nat.mul_le_mul hl hk64; omega
          have HLat : Hid (∀ (i t : Nat) (hi : i < l.length), t < k → (allB k (leastOf l) l)[i * k + t]? = some ((l[i] - leastOf l).toNat.testBit t)) := Lib.hid (fun i t hi ht => by
            have hp : i * k + t < (allB k (leastOf l) l).length := by rw [HLn.out]; exact place_lt ht hi
            rw [List.getElem?_eq_getElem hp, allB_at (leastOf l) l ht hi hp])
          have HLo := Lib.hid h64
          have HLe := Lib.hid (least_le l)
          have HWk : Hid (∀ i, i < l.length → i * k + k ≤ l.length * k) := Lib.hid (fun i hi => by
            have h1 := Nat.mul_le_mul_right k (show i + 1 ≤ l.length by omega)
            rwa [Nat.add_mul, Nat.one_mul] at h1)
          clear hown2 f2 f3 f02 f1 h64 hul hB2
          generalize Lib.uvarint (zig (leastOf l)) ++ [k.toUInt8] = H at *
          generalize allB k (leastOf l) l = L at *
          generalize leastOf l = lo at *
          go_loopw [7, 8, 9] (fun x y i wr => ∃ j : Nat, j ≤ l.length ∧ i = .int .i64 j ∧ y = .int .i64 (j * k : Nat) ∧ Ow bv 5 wr w.heap.size x (H ++ packB (L.take (j * k))) ∧ Fr Non w wr) (fun _ _ i _ => l.length - (intOf i).toNat)
          case atStart => exact ⟨0, Nat.zero_le _, rfl, by rw [Nat.zero_mul]; rfl, by rw [Nat.zero_mul, List.take_zero, show packB [] = [] from rfl, List.append_nil]; exact hown3, f03⟩
          case round =>
            clear hown3 f03
            obtain ⟨j, hj, rfl, rfl, hown, hfr⟩ := hrel
            by_cases hlt : j < l.length
            · have hc0 := HC.out a rfl j hlt
              have hc1 : wr.cell? (a.add j) = some (iv l[j]) := (hfr.cell (World.block_lt_of_cell? w _ hc0) (fun e => e)).trans hc0
              unfold iv at hc1
              have hxx := HX.out l[j] (by simp)
              have hle := HLe.out j hlt
              have hlo := HLo.out
              have e1 := u64_diff hxx hlo hle
              have HB := Lib.hid (fun t ht => HLat.out j t hlt ht)
              have hu64 : (l[j] - lo).toNat < 18446744073709551616 := by unfold I64 at hxx hlo; omega
              have hjk := HWk.out j hlt
              obtain ⟨A4, c4, rfl⟩ := hown.shape
              clear hxx hle hlo hc0
              generalize l[j] = x at *
              generalize (x - lo).toNat = u at *
              generalize hJ : j * k = J at *
              have HJ := Lib.hid hJ
              clear hJ
              go_wp2
              go_loopw [7, 8, 10, 11] (fun x y z i wr => ∃ t : Nat, t ≤ k ∧ i = .int .i64 t ∧ y = .int .i64 (J + t : Nat) ∧ z = .int .u64 (u / 2 ^ t : Nat) ∧ Ow bv 5 wr w.heap.size x (H ++ packB (L.take (J + t))) ∧ Fr Non w wr) (fun _ _ _ i _ => k - (intOf i).toNat)
              case atStart => exact ⟨0, Nat.zero_le _, rfl, rfl, by simp, hown, hfr⟩
              case round =>
                clear hown hfr
                obtain ⟨t, ht, rfl, rfl, rfl, hown, hfr⟩ := hrel
                by_cases htk : t < k
                · generalize hP : J + t = P at *
                  have hpl : P < L.length := by rw [HLn.out]; omega
                  have hbit : L[P] = u.testBit t := (by
                    have h1 := HB.out t htk
                    rw [hP, List.getElem?_eq_getElem hpl] at h1
                    simpa using h1)
                  have HP := Lib.hid hP
                  have HLl := Lib.hid hpl
                  have hm := Lib.hid (pk_more L hpl)
                  have hst := packB_step L hpl
                  rw [hbit] at hst
                  have HST := Lib.hid hst
                  have HSet := Lib.hid (fun x => set_app H (pk (L.take (P + 1)) P) (P / 8) x)
                  have hlen : Hid ((H ++ pk (L.take (P + 1)) P).length = H.length + P / 8 + 1) := Lib.hid (by rw [List.length_append, pk_length, take_len L hpl]; unfold need; omega)
                  have hat : Hid ((H ++ pk (L.take (P + 1)) P)[H.length + P / 8]? = some (pkn (L.take (P + 1)) P (P / 8)).toUInt8) := Lib.hid (by
                    rw [List.getElem?_append_right (by omega), Nat.add_sub_cancel_left]
                    exact pk_at _ (by rw [take_len L hpl]; omega))
                  have hql0 := Lib.hid (pkn_lt (L.take (P + 1)) (p := P) (by rw [take_len L hpl]; omega))
                  have hPb : P ≤ 100000000 := by rw [HLn.out] at hpl; omega
                  have hu2 : u / 2 ^ t < 18446744073709551616 := Nat.lt_of_le_of_lt (Nat.div_le_self _ _) hu64
                  have hbn : Hid ((u.testBit t).toNat = u / 2 ^ t % 2) := Lib.hid (Nat.toNat_testBit u t)
                  have hun : Hid (u / 2 ^ (t + 1) = u / 2 ^ t / 2) := Lib.hid (by rw [Nat.pow_succ, Nat.div_div_eq_div_mul])
                  generalize u / 2 ^ t = y at *
                  clear hP hst hbit hpl
                  by_cases h8 : P % 8 = 0
                  · have hb8 : ((P : Int) % 8 == 0) = true := by rw [beq_iff_eq]; omega
                    have hme := hm.out
                    rw [if_pos h8] at hme
                    have HME := Lib.hid hme
                    have hB := hfr.size
                    have hsm : (H ++ packB (L.take P)).length < 1099511627776 := by
                      have h1 := hlen.out
                      rw [HME.out] at h1
                      simp only [List.length_append, List.length_cons, List.length_nil] at h1 ⊢
                      omega
                    obtain ⟨A5, c5, rfl⟩ := hown.shape
                    clear hme h8
                    go_wp2_with (at_builtin; refine wpList_pushG el_u8 bv_oneC rfl (.tmp 81) (.tmp 82) rfl w.heap.size _ (H ++ packB (L.take P)) rfl hown _ (0 : UInt8) rfl rfl hsm hB ?_; intro v5 w5 hown5 hf5)
                    all_goals
                      have hZ : Ow bv 5 w5 w.heap.size v5 (H ++ pk (L.take (P + 1)) P) := by rw [HME.out, ← List.append_assoc]; exact hown5
                      have hfZ := hfr.fresh hf5 (fun q hq => (hown.lt q hq).1)
                      clear hown5 hf5 hown hfr
                      obtain ⟨g2, cap, rfl, hg2, hg2s, _, _⟩ := hZ.row (by rw [hlen.out]; omega)
                      rw [hlen.out] at hZ ⊢
                      have hq := hZ.cell hlen.out.symm (H.length + P / 8) _ hat.out
                      have hfz := hZ.frozen hlen.out.symm (H.length + P / 8)
                      unfold bv at hq
                      rw [small8 (pkn_lt8 _ _ _)] at hq
                      have hql := hql0.out
                      have HZ := Lib.hid hZ
                      have HF := Lib.hid hfZ
                      have hMb : H.length + P / 8 ≤ 1000000000 := by omega
                      clear hZ hfZ
                      generalize hQ : pkn (L.take (P + 1)) P (P / 8) = q at *
                      have HQ := Lib.hid hQ
                      clear hQ
                      generalize hM : H.length + P / 8 = M at *
                      have HM := Lib.hid hM
                      clear hM
                      have e2 : IntKind.i64.wrap (M : Int) = M := IntWalk.i64_in _ ⟨by omega, by omega⟩
                      go_wp2
                      go_region
                      have hs := (HZ.out.store hlen.out.symm M (q + (u.testBit t).toNat * 2 ^ (P % 8)).toUInt8).drew
                      rw [HSet.out, ← HST.out] at hs
                      unfold bv at hs
                      rw [small8 (bit_lt8 q (P % 8) (by omega) hql _), hbn.out, ← add_bit q y (P % 8) (by omega) hql] at hs
                      have hFs : Fr Non w (w5.setCell ⟨g2, M, none⟩ (.int .u8 (((q : Int) + (y : Int) % 2 * 2 ^ (P % 8)) % 256))).drew := (HF.out.setCell (p := ⟨g2, M, none⟩) (fun h => by have h : g2 < w.heap.size := h; omega) _).drew
                      have HS := Lib.hid hs
                      have HFS := Lib.hid hFs
                      clear hs hFs hq hfz
                      generalize (w5.setCell ⟨g2, M, none⟩ (.int .u8 (((q : Int) + (y : Int) % 2 * 2 ^ (P % 8)) % 256))).drew = W7 at *
                      go_wp2
                      go_roundw
                      case rel =>
                        refine ⟨t + 1, by omega, by go_num, by rw [← HP.out]; go_num, by rw [hun.out]; go_num, ?_, HFS.out⟩
                        rw [show J + (t + 1) = P + 1 by rw [← HP.out]; omega]
                        exact HS.out
                      case measure => simp [intOf]; omega
                  · have hb8 : ((P : Int) % 8 == 0) = false := by rw [beq_eq_false_iff_ne]; omega
                    have hme := hm.out
                    rw [if_neg h8] at hme
                    rw [← hme] at hown
                    have hZ := hown
                    have hfZ := hfr
                    clear hown hfr hme h8
                    obtain ⟨g2, cap, rfl, hg2, hg2s, _, _⟩ := hZ.row (by rw [hlen.out]; omega)
                    rw [hlen.out] at hZ ⊢
                    have hq := hZ.cell hlen.out.symm (H.length + P / 8) _ hat.out
                    have hfz := hZ.frozen hlen.out.symm (H.length + P / 8)
                    unfold bv at hq
                    rw [small8 (pkn_lt8 _ _ _)] at hq
                    have hql := hql0.out
                    have HZ := Lib.hid hZ
                    have HF := Lib.hid hfZ
                    have hMb : H.length + P / 8 ≤ 1000000000 := by omega
                    clear hZ hfZ
                    generalize hQ : pkn (L.take (P + 1)) P (P / 8) = q at *
                    have HQ := Lib.hid hQ
                    clear hQ
                    generalize hM : H.length + P / 8 = M at *
                    have HM := Lib.hid hM
                    clear hM
                    have e2 : IntKind.i64.wrap (M : Int) = M := IntWalk.i64_in _ ⟨by omega, by omega⟩
                    go_wp2
                    go_region
                    have hs := (HZ.out.store hlen.out.symm M (q + (u.testBit t).toNat * 2 ^ (P % 8)).toUInt8).drew
                    rw [HSet.out, ← HST.out] at hs
                    unfold bv at hs
                    rw [small8 (bit_lt8 q (P % 8) (by omega) hql _), hbn.out, ← add_bit q y (P % 8) (by omega) hql] at hs
                    have hFs : Fr Non w (wr.setCell ⟨g2, M, none⟩ (.int .u8 (((q : Int) + (y : Int) % 2 * 2 ^ (P % 8)) % 256))).drew := (HF.out.setCell (p := ⟨g2, M, none⟩) (fun h => by have h : g2 < w.heap.size := h; omega) _).drew
                    have HS := Lib.hid hs
                    have HFS := Lib.hid hFs
                    clear hs hFs hq hfz
                    generalize (wr.setCell ⟨g2, M, none⟩ (.int .u8 (((q : Int) + (y : Int) % 2 * 2 ^ (P % 8)) % 256))).drew = W7 at *
                    go_wp2
                    go_roundw
                    case rel =>
                      refine ⟨t + 1, by omega, by go_num, by rw [← HP.out]; go_num, by rw [hun.out]; go_num, ?_, HFS.out⟩
                      rw [show J + (t + 1) = P + 1 by rw [← HP.out]; omega]
                      exact HS.out
                    case measure => simp [intOf]; omega
                · obtain rfl : t = k := by omega
                  obtain ⟨A5, c5, rfl⟩ := hown.shape
                  go_wp2
                  go_roundw
                  case rel =>
                    have e : J + t = (j + 1) * t := by rw [← HJ.out, Nat.add_mul, Nat.one_mul]
                    exact ⟨j + 1, by omega, by go_num, by rw [← e], by rw [← e]; exact hown, hfr⟩
                  case measure => simp [intOf]; omega
            · obtain rfl : j = l.length := by omega
              rw [List.take_of_length_le (by rw [HLn.out]; exact Nat.le_refl _), ← HPt.out] at hown
              obtain ⟨A5, c5, rfl⟩ := hown.shape
              go_wp2
              go_ret
              exact ⟨_, rfl, hown.own, hfr⟩
end Go.Proofs.YtheefloegbkflaaGreatDoor


namespace Go.Proofs.YtheefloegbkflaaGreatDoor
set_option linter.unusedVariables false
set_option linter.unusedSimpArgs false
set_option maxRecDepth 100000
open Go.RowKit

set_option maxHeartbeats 4000000 in
theorem rwords_any (v : Value) (l : List Tx) (w : World) (hv : Vs sv w v l) (hl : l.length ≤ 1000000) :
    Calls Tryz.prog 169 #[v] w fun e w' => ∃ u, e = .returned u ∧ Ow sv 9 w' w.heap.size u (uniq l) ∧ Fr Non w w' := by
  obtain ⟨A, c, rfl, hlc, hn, hcell⟩ := hv
  have HN := Lib.hid hn
  have HC := Lib.hid hcell
  clear hn hcell
  go_enter Tryz.func169, Tryz.ntmps169
  go_wp2
  have hown0 := ow_lit0 (f := sv) (E := 9) w w.heap.size w.heap.size rfl (Nat.le_refl _)
  have hf0 : Fr Non w (w.alloc (.cells #[] 9)) := (Fr.refl _ _).alloc _
  go_loopw [3, 4] (fun b i wr => ∃ k : Nat, k ≤ l.length ∧ i = .int .i64 k ∧ Ow sv 9 wr w.heap.size b (uniq (l.take k)) ∧ Fr Non w wr) (fun _ i _ => l.length - (intOf i).toNat)
  case atStart => exact ⟨0, Nat.zero_le _, rfl, hown0, hf0⟩
  case round =>
    clear hown0 hf0
    obtain ⟨k, hk, rfl, hown, hfr⟩ := hrel
    by_cases hlt : k < l.length
    · cases A with
      | none => have := HN.out rfl; omega
      | some a =>
        have g0 : w.cell? (a.add k) = some (sv l[k]) := HC.out a rfl k hlt
        have g1 : wr.cell? (a.add k) = some (sv l[k]) := (hfr.cell (World.block_lt_of_cell? w _ g0) (fun e => e)).trans g0
        unfold sv at g1 g0
        have HS := Lib.hid (uniq_take l k hlt)
        have HU := Lib.hid (uniq_length (l.take k))
        generalize l[k] = x at *
        generalize uniq (l.take k) = o at *
        have hol : o.length ≤ k := by have := HU.out; rw [List.length_take] at this; omega
        obtain ⟨A1, c1, hu3⟩ := hown.shape
        subst hu3
        have HW := Lib.hid (lowW_le o x)
        have HLt := Lib.hid (fun (i : Nat) (h1 : i < lowW o x) (h2 : i < o.length) => lowW_lt (o := o) (x := x) h1 h2)
        have HEn := Lib.hid (fun (h : lowW o x < o.length) => lowW_end h)
        go_wp2
        go_loopw [5] (fun i wx => ∃ j : Nat, j ≤ lowW o x ∧ i = .int .i64 j ∧ ∃ n, wx = wr.drewN n) (fun i _ => o.length - (intOf i).toNat)
        case atStart => exact ⟨0, Nat.zero_le _, rfl, 0, rfl⟩
        case round =>
          obtain ⟨j, hj, rfl, n, rfl⟩ := hrel
          have hjo : j ≤ o.length := Nat.le_trans hj HW.out
          by_cases hjl : j < lowW o x
          · have hjo2 : j < o.length := Nat.lt_of_lt_of_le hjl HW.out
            obtain ⟨b, rfl, _, _, hcb⟩ := hown.vs.addr (by omega : 0 < o.length)
            have g2 : wr.cell? (b.add j) = some (sv o[j]) := hcb j hjo2
            unfold sv at g2
            have h3 := HLt.out j hjl hjo2
            have HJ := Lib.hid hjl
            have h4 : Op.bytesLess o[j] x = true := by rw [bless]; simpa using h3
            clear hcb hjl h3
            generalize o[j] = y at *
            go_wp2
            go_quiet (fail)
            go_wp2
            go_roundw
            case rel => exact ⟨j + 1, by have := HJ.out; omega, by go_num, _, rfl⟩
            case measure => simp [intOf]; omega
          · have hj2 : j = lowW o x := by omega
            have hEn := HEn.out
            rw [← hj2] at hEn
            have HJ := Lib.hid hj2
            clear hjl hj2
            have hs1 := slice_hiG el_str A1 o.length c1 j .i64 (j : Int) rfl hjo (by obtain ⟨_, _, he, h, _⟩ := hown.vs; simp only [Value.slice.injEq] at he; omega)
            have hs2 := slice_loG el_str A1 o.length c1 j .i64 (j : Int) rfl hjo (by obtain ⟨_, _, he, h, _⟩ := hown.vs; simp only [Value.slice.injEq] at he; omega)
            obtain ⟨A2, c2, hr1, hv1, ho1⟩ := hs1
            obtain ⟨A3, c3, hr2, hv2, ho2⟩ := hs2
            by_cases hin : ∃ h : j < o.length, o[j] = x
            · obtain ⟨h1, h2⟩ := hin
              have HI := Lib.hid (show insW o x = o by
                unfold insW
                rw [← HJ.out, if_pos]
                rw [List.getElem?_eq_getElem h1, h2])
              obtain ⟨b, rfl, _, _, hcb⟩ := hown.vs.addr (by omega : 0 < o.length)
              have g2 : wr.cell? (b.add j) = some (sv o[j]) := hcb j h1
              unfold sv at g2
              rw [h2] at g2
              have h4 : Op.bytesLess x x = false := by rw [bless]; simp
              have h5 : (x == x) = true := by simp
              have HOw := Lib.hid hown
              have HFw := Lib.hid hfr
              clear hcb h2 hEn hr1 hr2 hv1 hv2 ho1 ho2 hown hfr
              go_wp2
              go_quiet (fail)
              go_wp2
              go_quiet (fail)
              go_wp2
              go_roundw
              case rel => exact ⟨k + 1, by omega, by go_num, by rw [HS.out, HI.out]; exact HOw.out, HFw.out.drewN _⟩
              case measure => simp [intOf]; omega
            · have hor : (∃ h : j < o.length, ¬ o[j] < x ∧ o[j] ≠ x) ∨ j = o.length := by
                rcases Nat.lt_or_ge j o.length with h | h
                · exact .inl ⟨h, hEn h, fun e => hin ⟨h, e⟩⟩
                · exact .inr (by omega)
              have HI := Lib.hid (show insW o x = o.take j ++ x :: o.drop j by
                unfold insW
                rw [← HJ.out, if_neg]
                intro e
                exact hin ⟨(List.getElem?_eq_some_iff.1 e).1, (List.getElem?_eq_some_iff.1 e).2⟩)
              have HR1 := Lib.hid hr1
              have HR2 := Lib.hid hr2
              have HV1 := Lib.hid (fun W h => hv1 sv W o rfl h)
              have HV2 := Lib.hid (fun W h => hv2 sv W o rfl h)
              have HO1 := Lib.hid ho1
              have HO2 := Lib.hid ho2
              clear hEn hin hr1 hr2 hv1 hv2 ho1 ho2
              have HOw := Lib.hid (fun n1 n2 n3 => (show Ow sv 9 (((wr.drewN n1).drewN n2).drewN n3).drew w.heap.size (.slice A1 o.length c1) o from hown))
              have HFw := Lib.hid (fun n1 n2 n3 => (((hfr.drewN n1).drewN n2).drewN n3).drew)
              have HCw := Lib.hid (fun n1 n2 n3 => (show (((wr.drewN n1).drewN n2).drewN n3).drew.cell? (a.add k) = some (.string ⟨x.toArray⟩) from g1))
              rcases hor with ⟨h1, h2, h3⟩ | hor
              focus
                obtain ⟨b, rfl, _, _, hcb⟩ := hown.vs.addr (by omega : 0 < o.length)
                have g2 : wr.cell? (b.add j) = some (sv o[j]) := hcb j h1
                unfold sv at g2
                have h4 : Op.bytesLess o[j] x = false := by rw [bless]; simpa using h2
                have h5 : (o[j] == x) = false := by rw [beq_eq_false_iff_ne]; exact h3
                clear h2 h3 hcb
                generalize o[j] = y at *
                go_wp2
                go_quiet (fail)
                go_wp2
                go_quiet (fail)
                go_wp2
              rotate_left
              focus
                have hd : decide (j < o.length) = false := by rw [hor]; simp
                have hd2 : decide ((j : Int) < o.length) = false := by rw [hor]; simp
                have HOR := Lib.hid hor
                clear hor
                go_wp2
                go_quiet (fail)
                go_wp2
                go_quiet (fail)
                go_wp2
              all_goals
                rename_i nq1
                obtain ⟨W, hW⟩ : ∃ W, ((wr.drewN n).drewN nq1).drewN nq = W := ⟨_, rfl⟩
                have hOw := HOw.out n nq1 nq
                have hFw := HFw.out n nq1 nq
                have cW := HCw.out n nq1 nq
                have hr1 := HR1.out
                have hr2 := HR2.out
                rw [hW] at hOw hFw cW ⊢
                replace cW := (show W.cell? (a.add k) = some (.string ⟨x.toArray⟩) from cW)
                have HOW := Lib.hid (show Ow sv 9 W w.heap.size _ o from hOw)
                clear hown hfr g1 g0 hW hOw
                have hWs : w.heap.size ≤ W.heap.size := hFw.size
                have fa : Fr Non W (W.alloc (.cells #[] 9)) := (Fr.refl _ _).alloc _
                have fx : Fr Non W (W.alloc (.cells #[.string ⟨x.toArray⟩] 9)) := (Fr.refl _ _).alloc _
                have fc : Fr Non W ((W.alloc (.cells #[] 9)).alloc (.cells #[.string ⟨x.toArray⟩] 9)) := ((Fr.refl _ _).alloc _).alloc _
                have fb : Fr Non W ((W.alloc (.cells #[.string ⟨x.toArray⟩] 9)).alloc (.cells #[] 9)) := ((Fr.refl _ _).alloc _).alloc _
                have oa : Ow sv 9 (W.alloc (.cells #[] 9)) W.heap.size (.slice (some ⟨W.heap.size, 0, none⟩) 0 0) [] := ow_lit0 W _ _ rfl (Nat.le_refl _)
                have oc : Ow sv 9 ((W.alloc (.cells #[] 9)).alloc (.cells #[.string ⟨x.toArray⟩] 9)) W.heap.size (.slice (some ⟨W.heap.size, 0, none⟩) 0 0) [] := oa.alloc _
                have ob : Ow sv 9 ((W.alloc (.cells #[.string ⟨x.toArray⟩] 9)).alloc (.cells #[] 9)) W.heap.size (.slice (some ⟨W.heap.size + 1, 0, none⟩) 0 0) [] := ow_lit0 (W.alloc (.cells #[.string ⟨x.toArray⟩] 9)) _ _ (by simp) (by omega)
                have xc : Vs sv ((W.alloc (.cells #[] 9)).alloc (.cells #[.string ⟨x.toArray⟩] 9)) (.slice (some ⟨W.heap.size + 1, 0, none⟩) 1 1) [x] := by
                  have := vs_row (f := sv) (W.alloc (.cells #[] 9)) [x] 9 (0, 0)
                  rwa [show (W.alloc (.cells #[] 9)).heap.size = W.heap.size + 1 by simp] at this
                have xb : Vs sv ((W.alloc (.cells #[.string ⟨x.toArray⟩] 9)).alloc (.cells #[] 9)) (.slice (some ⟨W.heap.size, 0, none⟩) 1 1) [x] := (vs_row (f := sv) W [x] 9 (0, 0)).non ((Fr.refl _ _).alloc _)
                have HZ1 : Hid (([] : List Tx).length + (o.take j).length < 1099511627776) := Lib.hid (by rw [List.length_take]; simp only [List.length_nil]; omega)
                have HZ2 : Hid (([] ++ o.take j).length + ([x] : List Tx).length < 1099511627776) := Lib.hid (by rw [List.length_append, List.length_take]; simp only [List.length_nil, List.length_cons]; omega)
                have HZ3 : Hid (([] ++ o.take j ++ [x]).length + (o.drop j).length < 1099511627776) := Lib.hid (by rw [List.length_append, List.length_append, List.length_take, List.length_drop]; simp only [List.length_nil, List.length_cons]; omega)
                have HOA := Lib.hid oa
                have HOB := Lib.hid ob
                have HOC := Lib.hid oc
                have HXB := Lib.hid xb.drew
                have HXC := Lib.hid xc.drew
                have HFW := Lib.hid hFw
                have HFA := Lib.hid fa.drew
                have HFB := Lib.hid fb.drew
                have HFC := Lib.hid fc.drew
                clear oa ob oc xb xc fa fb fc fx hFw
                go_region_held3 (fun W => W.cell? (a.add k) = some (.string ⟨x.toArray⟩)) (first | exact cW | exact cell_al (w := W) cW | exact cell_al (w := W.alloc (.cells #[] 9)) (cell_al (w := W) cW) | exact cell_al (w := W.alloc (.cells #[.string ⟨x.toArray⟩] 9)) (cell_al (w := W) cW) | exact q1 | exact cell_al q1 | exact q2 | exact q3 | fail) (first
                  | (refine step_appG el_str sv_one rfl (.tmp 45) (.tmp 48) rfl W.heap.size (.slice (some ⟨W.heap.size, 0, none⟩) 0 0) (.slice A2 j c2) [] (o.take j) rfl HOA.out rfl (HV1.out _ (HOW.out.vs.non HFA.out)) HZ1.out HFA.out.size ?_; intro v1 w1 own1 f1; have fW1 := HFA.out.fresh f1 (fun q hq => (HOA.out.lt q hq).1); have q1 := (fW1.cell (World.block_lt_of_cell? W _ cW) (fun e => e)).trans cW)
                  | (refine step_appG el_str sv_one rfl (.tmp 45) (.tmp 48) rfl W.heap.size (.slice (some ⟨W.heap.size + 1, 0, none⟩) 0 0) (.slice A2 j c2) [] (o.take j) rfl HOB.out rfl (HV1.out _ (HOW.out.vs.non HFB.out)) HZ1.out HFB.out.size ?_; intro v1 w1 own1 f1; have fW1 := HFB.out.fresh f1 (fun q hq => (HOB.out.lt q hq).1); have q1 := (fW1.cell (World.block_lt_of_cell? W _ cW) (fun e => e)).trans cW; have x1 := HXB.out.fr f1 (fun q hq e => by simp [Value.ownBlock] at hq e; omega))
                  | (refine step_appG el_str sv_one rfl (.tmp 45) (.tmp 48) rfl W.heap.size (.slice (some ⟨W.heap.size, 0, none⟩) 0 0) (.slice A2 j c2) [] (o.take j) rfl HOC.out rfl (HV1.out _ (HOW.out.vs.non HFC.out)) HZ1.out HFC.out.size ?_; intro v1 w1 own1 f1; have fW1 := HFC.out.fresh f1 (fun q hq => (HOC.out.lt q hq).1); have q1 := (fW1.cell (World.block_lt_of_cell? W _ cW) (fun e => e)).trans cW; have x1 := HXC.out.fr f1 (fun q hq e => by simp [Value.ownBlock] at hq e; omega))
                  | (refine step_appG el_str sv_one rfl (.tmp 49) (.tmp 54) rfl W.heap.size v1 _ ([] ++ o.take j) [x] rfl own1 rfl x1 HZ2.out fW1.size ?_; intro v2 w2 own2 f2; have fW2 := fW1.fresh f2 (fun q hq => (own1.lt q hq).1); have q2 := (fW2.cell (World.block_lt_of_cell? W _ cW) (fun e => e)).trans cW)
                  | (refine step_appG el_str sv_one rfl (.tmp 49) (.tmp 54) rfl W.heap.size v1 (.slice (some ⟨w1.heap.size, 0, none⟩) 1 1) ([] ++ o.take j) [x] rfl (own1.alloc _) rfl (vs_row (f := sv) w1 [x] 9 (0, 0)) HZ2.out (fW1.alloc (.cells #[.string ⟨x.toArray⟩] 9)).size ?_; intro v2 w2 own2 f2; have fW2 := (fW1.alloc (.cells #[.string ⟨x.toArray⟩] 9)).fresh f2 (fun q hq => (own1.lt q hq).1); have q2 := (fW2.cell (World.block_lt_of_cell? W _ cW) (fun e => e)).trans cW)
                  | (refine step_appG el_str sv_one rfl (.tmp 55) (.tmp 58) rfl W.heap.size v2 (.slice A3 (o.length - j) c3) ([] ++ o.take j ++ [x]) (o.drop j) rfl own2 rfl (HV2.out _ (HOW.out.vs.non fW2)) HZ3.out fW2.size ?_; intro v3 w3 own3 f3; have fW3 := fW2.fresh f3 (fun q hq => (own2.lt q hq).1); have q3 := (fW3.cell (World.block_lt_of_cell? W _ cW) (fun e => e)).trans cW))
                all_goals
                  go_wp2
                  go_roundw
                  case rel =>
                    have hfin : Ow sv 9 w3 w.heap.size v3 (o.take j ++ x :: o.drop j) := by
                      have := own3.mono (B' := w.heap.size) hWs
                      simpa using this
                    exact ⟨k + 1, by omega, by go_num, by rw [HS.out, HI.out]; exact hfin, Fr.trans (show Fr Non w W from ⟨HFW.out.os, HFW.out.tape, HFW.out.output, HFW.out.size, HFW.out.block⟩) fW3⟩
                  case measure => simp [intOf]; omega
    · have hT : l.take k = l := List.take_of_length_le (by omega)
      rw [hT] at hown
      clear hT
      go_wp2
      go_ret
      exact ⟨_, rfl, hown, hfr⟩
end Go.Proofs.YtheefloegbkflaaGreatDoor


namespace Go.Proofs.YtheefloegbkflaaGreatDoor
set_option linter.unusedVariables false
set_option linter.unusedSimpArgs false
set_option maxRecDepth 100000
open Go.RowKit

theorem putT_len {l : List Int} (hx : ∀ x ∈ l, I64 x) : (putT l).length ≤ 20 + 8 * l.length := by
  by_cases h : l = []
  · subst h; simp [putT]
  · have hz := least_i64 hx
    have h1 := Lib.uvarint_length64 (zig_lt hz.1 hz.2)
    have h2 := Nat.mul_le_mul_left l.length (width_le hx)
    rw [putT_some h, List.length_append, List.length_cons, packB_length, allB_length]
    unfold need
    omega
end Go.Proofs.YtheefloegbkflaaGreatDoor


namespace Go.Proofs.YtheefloegbkflaaGreatDoor
set_option linter.unusedVariables false
set_option linter.unusedSimpArgs false
set_option maxRecDepth 100000
open Go.RowKit

/-- the places of x among the first j of u -/
def plcW (u : List Tx) (x : Tx) (j : Nat) : List Int := if u.idxOf x < j then [(u.idxOf x : Int)] else []
theorem plcW_zero (u : List Tx) (x : Tx) : plcW u x 0 = [] := by unfold plcW; rw [if_neg (by omega)]
theorem plcW_hit {u : List Tx} {x : Tx} {j : Nat} (hj : j < u.length) (hn : u.Nodup) (h : u[j] = x) : plcW u x (j + 1) = plcW u x j ++ [(j : Int)] := by
  have hi : u.idxOf x = j := by rw [← h]; exact hn.idxOf_getElem j hj
  unfold plcW
  rw [hi, if_pos (by omega), if_neg (by omega)]; rfl
theorem plcW_miss {u : List Tx} {x : Tx} {j : Nat} (hj : j < u.length) (h : u[j] ≠ x) : plcW u x (j + 1) = plcW u x j := by
  have hi : u.idxOf x ≠ j := fun e => h (by subst e; exact List.getElem_idxOf hj)
  unfold plcW
  by_cases hlt : u.idxOf x < j
  · rw [if_pos hlt, if_pos (by omega)]
  · rw [if_neg hlt, if_neg (by omega)]
theorem plcW_all {u : List Tx} {x : Tx} (h : x ∈ u) : plcW u x u.length = [(u.idxOf x : Int)] := by
  unfold plcW; rw [if_pos (List.idxOf_lt_length_of_mem h)]
theorem placesD_take (l : List Tx) (k : Nat) (h : k < l.length) : (placesD l).take (k + 1) = (placesD l).take k ++ [((uniq l).idxOf l[k] : Int)] := by
  unfold placesD
  rw [← List.map_take, ← List.map_take, List.take_succ_eq_append_getElem h, List.map_append]
  rfl

set_option maxHeartbeats 4000000 in
theorem rxput_any (v : Value) (l : List Tx) (w : World) (hv : Vs sv w v l) (hl : l.length ≤ 10000) (hx : ∀ x ∈ l, x.length < 1048576) (hb : (plainB (uniq l)).length < 137438953472) :
    Calls Tryz.prog 125 #[v] w fun e w' => ∃ u, e = .returned u ∧ Own w' w.heap.size u (dictB l) ∧ Fr Non w w' := by
  have HV := Lib.hid hv
  have HX := Lib.hid (show ∀ x ∈ uniq l, x.length < 1048576 from fun x h => hx x ((uniq_mem l x).1 h))
  have HB := Lib.hid hb
  have HUl := uniq_length l
  have HND := Lib.hid (rising_nodup (uniq_rising l))
  have HME := Lib.hid (fun x => (uniq_mem l x).2)
  have HPT := Lib.hid (placesD_take l)
  have HPI := Lib.hid (placesD_i64 (l := l) (by omega))
  have HPL := Lib.hid (placesD_length l)
  have HD := Lib.hid (show dictB l = Lib.uvarint (uniq l).length ++ (plainB (uniq l) ++ putT (placesD l)) from rfl)
  clear hx hb
  obtain ⟨A, c, rfl, hlc, hn, hcell⟩ := hv
  have HN := Lib.hid hn
  have HC := Lib.hid hcell
  clear hn hcell
  go_enter Tryz.func125, Tryz.ntmps125
  go_wp2_with fail
  refine (rwords_any _ l w HV.out (by omega)).mono ?_
  rintro e w1 ⟨v1, rfl, hown1, hf1⟩
  generalize hU : uniq l = u at *
  clear hU
  have HW1 := Lib.hid hown1
  have HF1 := Lib.hid hf1
  obtain ⟨A1, c1, rfl⟩ := hown1.shape
  have h1le := hf1.size
  clear hown1 hf1
  go_wp2
  have hown0 := ow_lit0 (f := iv) (E := 2) w1 w1.heap.size w1.heap.size rfl (Nat.le_refl _)
  have hf0 : Fr Non w1 (w1.alloc (.cells #[] 2)) := (Fr.refl _ _).alloc _
  go_loopw [4, 5] (fun b i wr => ∃ k : Nat, k ≤ l.length ∧ i = .int .i64 k ∧ Ow iv 2 wr w1.heap.size b ((placesD l).take k) ∧ Fr Non w1 wr) (fun _ i _ => l.length - (intOf i).toNat)
  case atStart => exact ⟨0, Nat.zero_le _, rfl, hown0, hf0⟩
  case round =>
    clear hown0 hf0
    obtain ⟨k, hk, rfl, hown, hfr⟩ := hrel
    by_cases hlt : k < l.length
    · cases A with
      | none => have := HN.out rfl; omega
      | some a =>
        have g0 : w.cell? (a.add k) = some (sv l[k]) := HC.out a rfl k hlt
        have g1 : wr.cell? (a.add k) = some (sv l[k]) := ((HF1.out.trans hfr).cell (World.block_lt_of_cell? w _ g0) (fun e => e)).trans g0
        have HG0 := Lib.hid g0
        unfold sv at g1
        have HP1 := Lib.hid (HPT.out k hlt)
        have HMx := Lib.hid (HME.out l[k] (List.getElem_mem hlt))
        have hFl : ((placesD l).take k).length ≤ k := List.length_take_le _ _
        clear g0
        unfold sv at HG0
        generalize l[k] = x at *
        generalize (placesD l).take k = F at *
        go_wp2
        go_loopw [4, 6] (fun b i wx => ∃ j : Nat, j ≤ u.length ∧ i = .int .i64 j ∧ Ow iv 2 wx w1.heap.size b (F ++ plcW u x j) ∧ Fr Non w1 wx) (fun _ i _ => u.length - (intOf i).toNat)
        case atStart => exact ⟨0, Nat.zero_le _, rfl, by rw [plcW_zero, List.append_nil]; exact hown, hfr⟩
        case round =>
          clear hown hfr g1
          obtain ⟨j, hj, rfl, hown, hfr⟩ := hrel
          by_cases hju : j < u.length
          · obtain ⟨b, rfl, _, _, hcb⟩ := (HW1.out.vs.non hfr).addr (by omega : 0 < u.length)
            have g2 : wr.cell? (b.add j) = some (sv u[j]) := hcb j hju
            have g1 : wr.cell? (a.add k) = some (.string ⟨x.toArray⟩) := ((HF1.out.trans hfr).cell (World.block_lt_of_cell? w _ HG0.out) (fun e => e)).trans HG0.out
            unfold sv at g2
            clear hcb
            have hpl : (F ++ plcW u x j).length < 1099511627776 := by
              rw [List.length_append]
              unfold plcW
              split <;> simp <;> omega
            by_cases he : u[j] = x
            · have hbe : (u[j] == x) = true := by rw [he]; simp
              have HE := Lib.hid (plcW_hit hju HND.out he)
              have HO := Lib.hid hown
              have HFr := Lib.hid hfr
              clear he hown hfr
              generalize u[j] = y at *
              go_wp2
              go_quiet (fail)
              go_wp2_with (refine wpList_pushG el_i64 iv_oneC rfl (.tmp 31) (.tmp 33) rfl w1.heap.size u4 (F ++ plcW u x j) rfl (HO.out.drewN _) _ (j : Int) rfl rfl hpl (HFr.out.drewN _).size ?_; intro v' w' hown' hfr')
              go_roundw
              case rel => exact ⟨j + 1, by omega, by go_num, by rw [HE.out, ← List.append_assoc]; exact hown', (HFr.out.drewN _).fresh hfr' fun q hq => (HO.out.lt q hq).1⟩
              case measure => simp [intOf]; omega
            · have hbe : (u[j] == x) = false := by rw [beq_eq_false_iff_ne]; exact he
              have HE := Lib.hid (plcW_miss hju he)
              clear he
              generalize u[j] = y at *
              go_wp2
              go_quiet (fail)
              go_wp2
              go_roundw
              case rel => exact ⟨j + 1, by omega, by go_num, by rw [HE.out]; exact hown, hfr.drewN _⟩
              case measure => simp [intOf]; omega
          · obtain rfl : j = u.length := by omega
            rw [plcW_all (HMx.out), ← HP1.out] at hown
            go_wp2
            go_roundw
            case rel => exact ⟨k + 1, by omega, by go_num, hown, hfr⟩
            case measure => simp [intOf]; omega
    · have hT : (placesD l).take k = placesD l := List.take_of_length_le (by rw [HPL.out]; omega)
      rw [hT] at hown
      clear hT
      have HO := Lib.hid hown
      have HFr := Lib.hid hfr
      clear hown hfr
      have hu64 : u.length < two64 := by unfold two64; omega
      have HU := Lib.hid hu64
      have huw : IntKind.u64.wrap (u.length : Int) = u.length := IntWalk.u64_in _ ⟨by omega, by omega⟩
      clear hu64
      go_wp2_with fail
      refine (rnum_any u.length wr HU.out).mono ?_
      rintro e w2 ⟨v2, rfl, hown2, hf2⟩
      go_wp2_with fail
      refine (rplain_any _ u w2 ((HW1.out.vs.non HFr.out).non hf2) (by omega) HX.out HB.out).mono ?_
      rintro e w3 ⟨v3, rfl, hown3, hf3⟩
      have hown2' := hown2.non hf3
      have hl10 : (Lib.uvarint u.length).length ≤ 10 := Lib.uvarint_length64 HU.out
      have hs1 : (Lib.uvarint u.length).length + (plainB u).length < 140737488355328 := by have := HB.out; omega
      have hB3 : wr.heap.size ≤ w3.heap.size := Nat.le_trans hf2.size hf3.size
      go_wp2_with (at_builtin; refine wpList_app rfl (.tmp 38) (.tmp 40) rfl wr.heap.size v2 v3 _ _ rfl hown2' rfl hown3.bs hs1 hB3 ?_; intro v4 w4 hown4 hf4)
      have hfr4 : Fr Non wr w4 := (hf2.trans hf3).fresh hf4 (fun q hq => (hown2.lt q hq).1)
      refine (rtput_any _ _ w4 (HO.out.vs.non hfr4) HPI.out (by rw [HPL.out]; omega)).mono ?_
      rintro e w5 ⟨v5, rfl, hown5, hf5⟩
      have hown4' := hown4.non hf5
      have hs2 : (Lib.uvarint u.length ++ plainB u).length + (putT (placesD l)).length < 140737488355328 := by
        have h1 := putT_len HPI.out
        have h2 := HPL.out
        have h3 := HB.out
        rw [List.length_append]; omega
      go_wp2_with (at_builtin; refine wpList_app rfl (.tmp 41) (.tmp 43) rfl wr.heap.size v4 v5 _ _ rfl hown4' rfl hown5.bs hs2 (Nat.le_trans hfr4.size hf5.size) ?_; intro v6 w6 hown6 hf6)
      go_ret
      have hfin : Fr Non w wr := HF1.out.trans HFr.out
      refine ⟨_, rfl, ?_, (hfin.trans (hfr4.trans hf5)).fresh hf6 (fun q hq => Nat.le_trans hfin.size (hown4'.lt q hq).1)⟩
      rw [HD.out, ← List.append_assoc]
      exact hown6.mono hfin.size
end Go.Proofs.YtheefloegbkflaaGreatDoor


namespace Go.Proofs.YtheefloegbkflaaGreatDoor
set_option linter.unusedVariables false
set_option linter.unusedSimpArgs false
set_option maxRecDepth 100000
open Go.RowKit Go.Maps Go.Sort

theorem sort_rising {ss : List Tx} (hn : ss.Nodup) : Rising (ss.mergeSort leB) := by
  have tr : ∀ a b c : Tx, leB a b = true → leB b c = true → leB a c = true := fun a b c h1 h2 => by simp only [leB, decide_eq_true_eq] at *; exact List.le_trans h1 h2
  have to : ∀ a b : Tx, (leB a b || leB b a) = true := fun a b => by simp only [leB, Bool.or_eq_true, decide_eq_true_eq]; exact List.le_total a b
  have h1 := List.pairwise_mergeSort tr to ss
  have h2 : (ss.mergeSort leB).Nodup := (List.mergeSort_perm ss leB).nodup_iff.2 hn
  refine (h1.and h2).imp ?_
  intro a b ⟨h3, h4⟩
  simp only [leB, decide_eq_true_eq] at h3
  rcases List.le_iff_lt_or_eq.1 h3 with h | h
  · exact h
  · exact absurd h h4
theorem sort_uniq {ss l : List Tx} (hn : ss.Nodup) (hm : ∀ x, x ∈ ss ↔ x ∈ l) : ss.mergeSort leB = uniq l :=
  rising_one (sort_rising hn) (uniq_rising l) fun x => by rw [(List.mergeSort_perm ss leB).mem_iff, hm, uniq_mem]

/-- what the map says when k of u's texts have their places -/
def gW (u : List Tx) (k : Nat) (x : Tx) : Int := if u.idxOf x < k then (u.idxOf x : Int) else 0
theorem gW_zero (u : List Tx) (x : Tx) : gW u 0 x = 0 := by unfold gW; rw [if_neg (by omega)]
theorem gW_step {u : List Tx} {k : Nat} (hk : k < u.length) (hn : u.Nodup) (x : Tx) : gW u (k + 1) x = if x = u[k] then (k : Int) else gW u k x := by
  have hi : u.idxOf u[k] = k := hn.idxOf_getElem k hk
  unfold gW
  by_cases he : x = u[k]
  · rw [if_pos he, he, hi, if_pos (by omega)]
  · rw [if_neg he]
    have hne : u.idxOf x ≠ k := fun e => he (by subst e; exact (List.getElem_idxOf hk).symm)
    by_cases hlt : u.idxOf x < k
    · rw [if_pos hlt, if_pos (by omega)]
    · rw [if_neg hlt, if_neg (by omega)]
theorem gW_all {u : List Tx} {x : Tx} (h : x ∈ u) : gW u u.length x = (u.idxOf x : Int) := by
  unfold gW; rw [if_pos (List.idxOf_lt_length_of_mem h)]
/-- the places, the first k of them laid -/
def laidD (l : List Tx) (k : Nat) : List Int := (placesD l).take k ++ List.replicate (l.length - k) 0
theorem laidD_zero (l : List Tx) : laidD l 0 = List.replicate l.length 0 := by simp [laidD]
theorem laidD_all (l : List Tx) : laidD l l.length = placesD l := by
  unfold laidD; rw [List.take_of_length_le (by rw [placesD_length]; exact Nat.le_refl _)]; simp
theorem laidD_length (l : List Tx) (k : Nat) (hk : k ≤ l.length) : (laidD l k).length = l.length := by
  unfold laidD; rw [List.length_append, List.length_take, placesD_length, List.length_replicate]; omega
theorem laidD_step (l : List Tx) (k : Nat) (hk : k < l.length) : laidD l (k + 1) = (laidD l k).set k ((uniq l).idxOf l[k] : Int) := by
  have hl : ((placesD l).take k).length = k := by rw [List.length_take, placesD_length]; omega
  unfold laidD
  rw [placesD_take l k hk, show l.length - k = (l.length - (k + 1)) + 1 by omega, List.replicate_succ, List.set_append_right _ _ (by omega), hl, Nat.sub_self]
  simp

theorem mem_take_succ {l : List Tx} {k : Nat} (h : k < l.length) (x : Tx) : x ∈ l.take (k + 1) ↔ x ∈ l[k] :: l.take k := by
  rw [List.take_succ_eq_append_getElem h, List.mem_append, List.mem_cons]; simp [or_comm]

set_option maxHeartbeats 4000000 in
theorem xput_any (v : Value) (l : List Tx) (w : World) (hv : Vs sv w v l) (hl : l.length ≤ 10000) (hx : ∀ x ∈ l, x.length < 1048576) (hb : (plainB (uniq l)).length < 137438953472) :
    Calls Tryz.prog 108 #[v] w fun e w' => ∃ u, e = .returned u ∧ Own w' w.heap.size u (dictB l) ∧ Fr Non w w' := by
  have HXL := Lib.hid hx
  have HX := Lib.hid (show ∀ x ∈ uniq l, x.length < 1048576 from fun x h => hx x ((uniq_mem l x).1 h))
  have HB := Lib.hid hb
  have HUl := Lib.hid (uniq_length l)
  have HND := Lib.hid (rising_nodup (uniq_rising l))
  have HME := Lib.hid (fun x => uniq_mem l x)
  have HPI := Lib.hid (placesD_i64 (l := l) (by omega))
  have HPL := Lib.hid (placesD_length l)
  have HSU := Lib.hid (fun (ss : List Tx) h1 h2 => sort_uniq (ss := ss) (l := l) h1 h2)
  have HMT := Lib.hid (fun k h => mem_take_succ (l := l) (k := k) h)
  have HLL := Lib.hid (laidD_length l)
  have HLS := Lib.hid (laidD_step l)
  have HL0 := Lib.hid (laidD_zero l)
  have HLA := Lib.hid (laidD_all l)
  have HD := Lib.hid (show dictB l = Lib.uvarint (uniq l).length ++ (plainB (uniq l) ++ putT (placesD l)) from rfl)
  clear hx hb
  obtain ⟨A, c, rfl, hlc, hn, hcell⟩ := hv
  have HN := Lib.hid hn
  have HC := Lib.hid hcell
  clear hn hcell
  have hmm := @run_makeMap Tryz.prog
  go_enter Tryz.func108, Tryz.ntmps108
  go_wp2
  have hm0 := MapW.made w (fun _ => 0)
  have hf0 : Fr Non w (w.alloc (.map #[] 0)) := (Fr.refl _ _).alloc _
  go_loopw [15] (fun i wr => ∃ k : Nat, k ≤ l.length ∧ i = .int .i64 k ∧ MapW wr w.heap.size k (l.take k) (fun _ => 0) ∧ Fr Non w wr) (fun i _ => l.length - (intOf i).toNat)
  case atStart => exact ⟨0, Nat.zero_le _, rfl, hm0, hf0⟩
  case round =>
    clear hm0 hf0
    obtain ⟨k, hk, rfl, hm, hfr⟩ := hrel
    by_cases hlt : k < l.length
    · cases A with
      | none => have := HN.out rfl; omega
      | some a =>
        have g0 : w.cell? (a.add k) = some (sv l[k]) := HC.out a rfl k hlt
        have g1 : wr.cell? (a.add k) = some (sv l[k]) := (hfr.cell (World.block_lt_of_cell? w _ g0) (fun e => e)).trans g0
        unfold sv at g1
        have hxl := HXL.out l[k] (List.getElem_mem hlt)
        have HM := Lib.hid (HMT.out k hlt)
        have HFr := Lib.hid hfr
        clear g0 hfr
        generalize l[k] = x at *
        go_wp2_with (at_mapUpdate; refine wpList_putM _ rfl _ _ _ rfl w.heap.size k (l.take k) (fun _ => 0) rfl hm (by omega) x 0 rfl rfl (by omega) (by omega) (by omega) ?_; intro w1 hm1 hf1)
        go_roundw
        case rel => exact ⟨k + 1, by omega, by go_num, hm1.congr HM.out (fun y _ => by simp), HFr.out.fresh hf1 (fun q hq => by have : q = w.heap.size := hq; omega)⟩
        case measure => simp [intOf]; omega
    · rename World => W1
      have hT : l.take k = l := List.take_of_length_le (by omega)
      rw [hT] at hm
      obtain rfl : k = l.length := by omega
      clear hT
      have HFr := Lib.hid hfr
      have hbl := hm.lt
      obtain ⟨D, h1, h2, h3⟩ := hm
      have hsz : Maps.size D ≤ l.length := h1.size_le
      have HM := Lib.hid (show MapW W1 w.heap.size l.length l (fun _ => 0) from ⟨D, h1, h2, h3⟩)
      have HK := Lib.hid (fun (ss : List Tx) (hp : ss.Perm (strKeys D)) => MapW.keys (g := fun _ => 0) h1 h2 hp)
      have hkeys := callsIn_wide.1 (mkeys_int64 (some w.heap.size) W1)
      have hsort := callsIn_wide.1 (msorted_int64 w.heap.size l.length D _ W1 h1 (by unfold maxLen; omega) (by omega))
      have HSo := Lib.hid hsort
      clear h1 h2 h3 hfr hsort
      go_wp2_with fail
      refine hkeys.mono ?_
      rintro e w1 ⟨rfl, hw1⟩
      subst hw1
      clear hkeys
      go_wp2_with fail
      refine HSo.out.mono ?_
      rintro e w2 ⟨v2, ss, rfl, hperm, hrow, hnil, hb2⟩
      obtain ⟨hnd, hmem⟩ := HK.out ss hperm
      have hU := HSU.out ss hnd hmem
      have hf1 : Fr Non W1 (W1.alloc (.cells #[.map (some w.heap.size)] 179)) := (Fr.refl _ _).alloc _
      have hf2 := hf1.trans (Fr.of_below hb2)
      have hul : ss.length = (uniq l).length := by rw [← hU, List.length_mergeSort]
      have how : Ow sv 9 w2 W1.heap.size v2 (uniq l) := by
        have h := row_mono hrow hf1.size
        unfold Ow
        rw [← hul, ← hU]
        exact h
      clear hrow hnil hb2 hperm hnd hmem hU hul hf1 hsz
      have hm2 := (HM.out.non hf2).congr (g' := gW (uniq l) 0) (ks' := l) (fun x => Iff.rfl) (fun x _ => gW_zero _ x)
      have hfw2 := HFr.out.trans hf2
      generalize hUU : uniq l = u at *
      clear hUU
      have HU := Lib.hid HUl.out
      have hul := HUl.out
      have HGS := Lib.hid (fun k (hk : k < u.length) => gW_step hk HND.out)
      obtain ⟨A2, c2, rfl⟩ := how.shape
      have HOw2 := Lib.hid how
      have HM2 := Lib.hid hm2
      have HF2 := Lib.hid hfw2
      have hle2 := hf2.size
      clear how hm2 hfw2 hf2 HFr HM
      go_wp2
      go_loopw [27] (fun i wx => ∃ j : Nat, j ≤ u.length ∧ i = .int .i64 j ∧ MapW wx w.heap.size (l.length + j) l (gW u j) ∧ Ow sv 9 wx W1.heap.size (.slice A2 u.length c2) u ∧ Fr Non w wx) (fun i _ => u.length - (intOf i).toNat)
      case atStart => exact ⟨0, Nat.zero_le _, rfl, HM2.out, HOw2.out, HF2.out⟩
      case round =>
        obtain ⟨j, hj, rfl, hm, how, hfr⟩ := hrel
        by_cases hju : j < u.length
        · obtain ⟨b, rfl, _, _, hcb⟩ := how.vs.addr (by omega : 0 < u.length)
          have g2 : wr.cell? (b.add j) = some (sv u[j]) := hcb j hju
          unfold sv at g2
          have hxl := HX.out u[j] (List.getElem_mem hju)
          have HG := Lib.hid (HGS.out j hju)
          have HMm := Lib.hid ((HME.out u[j]).1 (List.getElem_mem hju))
          have HO := Lib.hid how
          have HFr := Lib.hid hfr
          clear hcb how hfr
          generalize u[j] = x at *
          go_wp2_with (at_mapUpdate; refine wpList_putM _ rfl _ _ _ rfl w.heap.size (l.length + j) l (gW u j) rfl hm (by omega) x (j : Int) rfl rfl (by omega) (by omega) (by omega) ?_; intro w5 hm5 hf5)
          go_roundw
          case rel => exact ⟨j + 1, by omega, by go_num, hm5.congr (fun y => by rw [List.mem_cons]; exact ⟨.inr, fun h => h.elim (fun e => by rw [e]; exact HMm.out) id⟩) (fun y _ => HG.out y), HO.out.fr hf5 (fun q hq e => by have h1 := (HO.out.lt q hq).1; have h2 : q = w.heap.size := e; omega), HFr.out.fresh hf5 (fun q hq => by have : q = w.heap.size := hq; omega)⟩
          case measure => simp [intOf]; omega
        · rename World => W2
          obtain rfl : j = u.length := by omega
          have HM := Lib.hid hm
          have HO := Lib.hid how
          have HFr := Lib.hid hfr
          have HGA := Lib.hid (fun (x : Tx) (h : x ∈ l) => gW_all ((HME.out x).2 h))
          have hbW := hm.lt
          clear hm how hfr
          go_wp2_with (at_make; refine wpList_mkfullG el_i64 (f := iv) (0 : Int) rfl rfl _ _ rfl _ _ _ _ l.length rfl rfl rfl rfl (by omega) ?_; intro W3 hown3 hf3; have HO3 := Lib.hid hown3; have HF3 := Lib.hid hf3; clear hown3 hf3)
          rw [← HL0.out] at HO3
          have HM3 := Lib.hid (HM.out.non HF3.out)
          have HS3 := Lib.hid (HO.out.non HF3.out)
          have HFw3 := Lib.hid (HFr.out.trans HF3.out)
          have hle3 := HFw3.out.size
          have hle23 := HF3.out.size
          go_loopw [41] (fun i wx => ∃ q : Nat, q ≤ l.length ∧ i = .int .i64 q ∧ MapW wx w.heap.size (l.length + u.length) l (gW u u.length) ∧ Ow sv 9 wx W1.heap.size (.slice A2 u.length c2) u ∧ Ow iv 2 wx W2.heap.size (.slice (some ⟨W2.heap.size, 0, none⟩) l.length l.length) (laidD l q) ∧ Fr Non w wx) (fun i _ => l.length - (intOf i).toNat)
          case atStart => exact ⟨0, Nat.zero_le _, rfl, HM3.out, HS3.out, HO3.out, HFw3.out⟩
          case round =>
            obtain ⟨q, hq, rfl, hm, how, hat, hfr⟩ := hrel
            by_cases hlt : q < l.length
            · cases A with
              | none => have := HN.out rfl; omega
              | some a =>
                have g0 : w.cell? (a.add q) = some (sv l[q]) := HC.out a rfl q hlt
                have g1 : wr.cell? (a.add q) = some (sv l[q]) := (hfr.cell (World.block_lt_of_cell? w _ g0) (fun e => e)).trans g0
                unfold sv at g1
                have hxl := HXL.out l[q] (List.getElem_mem hlt)
                have hlook := hm.look (y := l[q]) (List.getElem_mem hlt) (by omega)
                rw [HGA.out _ (List.getElem_mem hlt)] at hlook
                have HLs := Lib.hid (HLS.out q hlt)
                have hll := HLL.out q hq
                have cq : wr.cell? ⟨W2.heap.size, q, none⟩ = some (iv (laidD l q)[q]) := hat.cell hll.symm q _ (List.getElem?_eq_getElem (by omega))
                have fq := hat.frozen hll.symm q
                have HAt := Lib.hid hat
                have HMm := Lib.hid hm
                have HOo := Lib.hid how
                have HFf := Lib.hid hfr
                have HLl := Lib.hid hll
                clear g0 hm how hat hfr
                unfold iv at cq
                generalize (laidD l q)[q] = old at *
                clear hll
                generalize u.idxOf l[q] = ix at *
                generalize l[q] = x at *
                go_wp2
                go_roundw
                case rel =>
                  have hst := HAt.out.store HLl.out.symm q (ix : Int)
                  have hf : Fr (One W2.heap.size) wr (wr.setCell ⟨W2.heap.size, q, none⟩ (.int .i64 ix)) := (Fr.refl (One W2.heap.size) wr).set1 q _
                  exact ⟨q + 1, by omega, by go_num, HMm.out.fr hf (fun e => by have h : w.heap.size = W2.heap.size := e; omega), HOo.out.fr hf (fun k hk e => by have h1 := (HO.out.lt k hk).2; have h2 : k = W2.heap.size := e; omega), by rw [HLs.out]; exact hst, HFf.out.fresh hf (fun k hk => by have h2 : k = W2.heap.size := hk; omega)⟩
                case measure => simp [intOf]; omega
            · rename World => W4
              obtain rfl : q = l.length := by omega
              rw [HLA.out] at hat
              have HAt := Lib.hid hat
              have HOo := Lib.hid how
              have HFf := Lib.hid hfr
              have hu64 : u.length < two64 := by unfold two64; omega
              have HU64 := Lib.hid hu64
              have huw : IntKind.u64.wrap (u.length : Int) = u.length := IntWalk.u64_in _ ⟨by omega, by omega⟩
              clear hu64 hat how hfr hm
              go_wp2_with fail
              refine (vnum_any u.length W4 HU64.out).mono ?_
              rintro e w5 ⟨v5, rfl, hown5, hf5⟩
              obtain ⟨A5, c5, rfl⟩ := hown5.shape
              go_wp2_with fail
              refine (plain_any _ u w5 (HOo.out.vs.non hf5) (by omega) HX.out HB.out).mono ?_
              rintro e w6 ⟨v6, rfl, hown6, hf6⟩
              obtain ⟨A6, c6, rfl⟩ := hown6.shape
              go_wp2_with fail
              refine (tput_any _ (placesD l) w6 ((HAt.out.vs.non hf5).non hf6) HPI.out (by rw [HPL.out]; omega)).mono ?_
              rintro e w7 ⟨v7, rfl, hown7, hf7⟩
              obtain ⟨A7, c7, rfl⟩ := hown7.shape
              have HP3 := Lib.hid (Parts.three (t := 26) ((hown5.bs.non hf6).non hf7) (hown6.bs.non hf7) hown7.bs)
              have hfl : [Lib.uvarint u.length, plainB u, putT (placesD l)].flatten.length < 1099511627776 := by
                have h1 := putT_len HPI.out
                have h2 := HPL.out
                have h3 := HB.out
                have h4 : (Lib.uvarint u.length).length ≤ 10 := Lib.uvarint_length64 HU64.out
                simp only [List.flatten_cons, List.flatten_nil, List.length_append, List.length_nil]
                omega
              have HFl := Lib.hid hfl
              clear hfl
              go_wp2_with fail
              refine (concat_any w7.heap.size 3 3 _ [Lib.uvarint u.length, plainB u, putT (placesD l)] _ rfl (by omega) HP3.out HFl.out).mono ?_
              rintro e w8 ⟨v8, rfl, hown8, hf8⟩
              go_wp2
              go_ret
              have hfin := ((HFf.out.trans hf5).trans hf6).trans hf7
              refine ⟨v8, rfl, ?_, hfin.trans (((Fr.refl Non w7).alloc _).trans hf8)⟩
              rw [HD.out]
              have hle := hfin.size
              have := hown8.mono (B' := w.heap.size) (by simp; omega)
              simpa using this
end Go.Proofs.YtheefloegbkflaaGreatDoor
