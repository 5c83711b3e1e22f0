/-
  Layer 8: the walks of dict.take, dict.pick, dict.Texts.
-/
import Derived.Test.YtdniififoahlaaaDict3
namespace Go.Proofs.Ytdniififoahlaaa
set_option linter.unusedVariables false
set_option linter.unusedSimpArgs false
set_option maxRecDepth 100000
open Go.RowKit

/-- what Get and Texts answer: nothing and false, or the texts and true -/
def Gtx (w : World) (B : Nat) (o : Option (List Tx)) (e : Ending) : Prop :=
  (o = none ∧ e = .returned (.tuple #[.slice none 0 0, .bool false])) ∨ (∃ l u, o = some l ∧ e = .returned (.tuple #[u, .bool true]) ∧ Ow sv 9 w B u l)
theorem gtx_no {w : World} {B : Nat} {o : Option (List Tx)} (h : o = none) : Gtx w B o (.returned (.tuple #[.slice none 0 0, .bool false])) := .inl ⟨h, rfl⟩
theorem gtx_yes {w : World} {B : Nat} {o : Option (List Tx)} {l : List Tx} {u : Value} (h : o = some l) (hu : Ow sv 9 w B u l) : Gtx w B o (.returned (.tuple #[u, .bool true])) := .inr ⟨l, u, h, rfl, hu⟩

/-- the first k of n texts laid -/
def partX (l : List Tx) (n k : Nat) : List Tx := l.take k ++ List.replicate (n - k) []
theorem partX_zero (l : List Tx) (n : Nat) : partX l n 0 = List.replicate n [] := by simp [partX]
theorem partX_length {l : List Tx} {n k : Nat} (hk : k ≤ n) (hl : k ≤ l.length) : (partX l n k).length = n := by
  unfold partX; rw [List.length_append, List.length_take, List.length_replicate]; omega
theorem partX_all {l : List Tx} {n : Nat} (hl : l.length = n) : partX l n n = l := by
  unfold partX; rw [List.take_of_length_le (by omega)]; simp
theorem partX_step {l : List Tx} {n k : Nat} (hk : k < n) (hl : k < l.length) : partX l n (k + 1) = (partX l n k).set k l[k] := by
  have h1 : (l.take k).length = k := by rw [List.length_take]; omega
  unfold partX
  rw [show n - k = (n - (k + 1)) + 1 by omega, List.replicate_succ, List.set_append_right _ _ (by omega), h1, Nat.sub_self, List.take_succ_eq_append_getElem hl]
  simp only [List.set_cons_zero, List.append_assoc, List.singleton_append]
theorem tks_take (m : Int) (b : List UInt8) (k : Nat) : ∀ j, (tks m b (k + j)).take k = tks m b k
  | 0 => List.take_of_length_le (by rw [tks_length]; exact Nat.le_refl _)
  | j + 1 => by
    show (tks m b (k + j) ++ [_]).take k = _
    rw [List.take_append_of_le_length (by rw [tks_length]; omega), tks_take m b k j]
theorem tks_at (m : Int) (b : List UInt8) {n k : Nat} (hk : k < n) (h : k < (tks m b n).length) : (tks m b n)[k] = txtT (tkR m b k) m := by
  obtain ⟨j, rfl⟩ : ∃ j, n = k + 1 + j := ⟨n - (k + 1), by omega⟩
  have h1 := tks_take m b (k + 1) j
  have h2 : (tks m b (k + 1 + j))[k] = ((tks m b (k + 1 + j)).take (k + 1))[k]'(by rw [List.length_take]; omega) := by rw [List.getElem_take]
  rw [h2]
  simp only [h1, tks]
  rw [List.getElem_append_right (by rw [tks_length]; exact Nat.le_refl _)]
  simp

set_option maxHeartbeats 4000000 in
theorem dtake_any (g : Nat) (b : List UInt8) (bad : Bool) (n : Nat) (m : Int) (w : World) (h : Src w g b bad) (hn : n ≤ 1000000) (hm : m ≤ 9223372036854775807) :
    Calls Try.prog 25 #[ptr g, .int .i64 n, .int .i64 m] w fun e w' => e = .returned (.slice (some ⟨w.heap.size, 0, none⟩) n n) ∧ Ow sv 9 w' w.heap.size (.slice (some ⟨w.heap.size, 0, none⟩) n n) (tks m b n) ∧ Src w' g (tkR m b n) (tkB m b bad n) ∧ Fr (One g) w w' := by
  have HH := Lib.hid h
  have hgw := h.1.lt
  have HST := Lib.hid (fun k (hk : k < n) => partX_step (l := tks m b n) hk (by rw [tks_length]; exact hk))
  have HPL := Lib.hid (fun k (hk : k ≤ n) => partX_length (l := tks m b n) hk (by rw [tks_length]; exact hk))
  have HAT := Lib.hid (fun k (hk : k < n) => tks_at m b hk (by rw [tks_length]; exact hk))
  have HZ := Lib.hid (partX_zero (tks m b n) n)
  have HA := Lib.hid (partX_all (tks_length m b n))
  have HTL := Lib.hid (tks_length m b n)
  clear h
  go_enter Try.func25, Try.ntmps25
  go_wp2_with (at_make; refine wpList_mkfullG el_str (f := sv) ([] : Tx) rfl rfl _ _ rfl _ _ _ _ n rfl rfl rfl rfl (by omega) ?_; intro w1 hown1 hf1; have HO1 := Lib.hid hown1; have HF1 := Lib.hid hf1; clear hown1 hf1)
  rw [← HZ.out] at HO1
  have HS1 := Lib.hid (HH.out.fr HF1.out (fun e => e))
  have hle1 := HF1.out.size
  go_loopw [13] (fun i wx => ∃ k : Nat, k ≤ n ∧ i = .int .i64 k ∧ Ow sv 9 wx w.heap.size (.slice (some ⟨w.heap.size, 0, none⟩) n n) (partX (tks m b n) n k) ∧ Src wx g (tkR m b k) (tkB m b bad k) ∧ Fr (One g) w wx) (fun i _ => n - (intOf i).toNat)
  case atStart => exact ⟨0, Nat.zero_le _, rfl, HO1.out, HS1.out, HF1.out.mono (fun _ _ e => e.elim)⟩
  case round =>
    obtain ⟨k, hk, rfl, hown, hs, hfr⟩ := hrel
    by_cases hlt : k < n
    · have htx := stext_any g _ _ m wr hs hm
      have HL := Lib.hid (HPL.out k hk)
      have HO := Lib.hid hown
      have HFr := Lib.hid hfr
      have HS2 := Lib.hid (HST.out k hlt)
      have HA2 := Lib.hid (HAT.out k hlt)
      have hx0 : k < (partX (tks m b n) n k).length := by rw [HL.out]; exact hlt
      have hex : ∃ y, (partX (tks m b n) n k)[k]? = some y := ⟨_, List.getElem?_eq_getElem hx0⟩
      obtain ⟨old, hold⟩ := hex
      have HX0 := Lib.hid hold
      clear hold
      have hsz := hfr.size
      clear hown hs hfr hx0
      go_wp2_with fail
      refine htx.mono ?_
      rintro e w2 ⟨rfl, hs2, hf2⟩
      have ho2 := HO.out.fr hf2 (fun q hq e => by have h1 := (HO.out.lt q hq).1; have h2 : q = g := e; omega)
      have cq := ho2.cell HL.out.symm k _ HX0.out
      have fq := ho2.frozen HL.out.symm k
      unfold sv at cq
      have HO2 := Lib.hid ho2
      have HS3 := Lib.hid hs2
      clear ho2 hs2 htx
      go_wp2
      go_roundw
      case rel =>
        have hst := HO2.out.store HL.out.symm k (txtT (tkR m b k) m)
        have hf : Fr (One w.heap.size) w2 (w2.setCell ⟨w.heap.size, k, none⟩ (sv (txtT (tkR m b k) m))) := (Fr.refl (One w.heap.size) w2).set1 k _
        refine ⟨k + 1, by omega, by go_num, ?_, HS3.out.fr hf (fun e => by have h : g = w.heap.size := e; omega), (HFr.out.trans hf2).fresh hf (fun q hq => by have h2 : q = w.heap.size := hq; omega)⟩
        rw [HS2.out, HA2.out]; exact hst
      case measure => simp [intOf]; omega
    · obtain rfl : k = n := by omega
      rw [HA.out] at hown
      go_wp2
      go_ret
      exact ⟨rfl, hown, hs, hfr⟩

theorem pickD_none {u : List Tx} {l : List Int} {a : Int} (h : a ∈ l) (hn : a < 0 ∨ (u.length : Int) ≤ a) : pickD u l = none := by
  unfold pickD
  rw [if_neg]
  intro hc
  have := hc a h
  omega
theorem pickD_some {u : List Tx} {l : List Int} (h : ∀ a ∈ l, 0 ≤ a ∧ a < (u.length : Int)) : pickD u l = some (l.map fun a => u.getD a.toNat []) := by
  unfold pickD
  rw [if_pos h]

set_option maxHeartbeats 4000000 in
theorem pick_any (v1 v2 : Value) (u : List Tx) (l : List Int) (w : World) (h1 : Vs sv w v1 u) (h2 : Vs iv w v2 l) (hl : l.length ≤ 1000000) (hu : u.length ≤ 1000000) :
    Calls Try.prog 31 #[v1, v2] w fun e w' => Gtx w' w.heap.size (pickD u l) e ∧ Fr Non w w' := by
  have HV1 := Lib.hid h1
  have HV2 := Lib.hid h2
  obtain ⟨A1, c1, rfl⟩ := h1.shape
  obtain ⟨A2, c2, rfl⟩ := h2.shape
  have HST := Lib.hid (fun k (hk : k < l.length) => partX_step (l := l.map fun a => u.getD a.toNat []) (n := l.length) hk (by rw [List.length_map]; exact hk))
  have HPL := Lib.hid (fun k (hk : k ≤ l.length) => partX_length (l := l.map fun a => u.getD a.toNat []) (n := l.length) hk (by rw [List.length_map]; exact hk))
  have HZ := Lib.hid (partX_zero (l.map fun a => u.getD a.toNat []) l.length)
  have HA := Lib.hid (partX_all (l := l.map fun a => u.getD a.toNat []) (n := l.length) (by rw [List.length_map]))
  clear h1 h2
  go_enter Try.func31, Try.ntmps31
  go_wp2_with (at_make; refine wpList_mkfullG el_str (f := sv) ([] : Tx) rfl rfl _ _ rfl _ _ _ _ l.length rfl rfl rfl rfl (by omega) ?_; intro w1 hown1 hf1; have HO1 := Lib.hid hown1; have HF1 := Lib.hid hf1; clear hown1 hf1)
  rw [← HZ.out] at HO1
  have hle1 := HF1.out.size
  go_loopw [14] (fun i wx => ∃ k : Nat, k ≤ l.length ∧ i = .int .i64 k ∧ Hid (∀ a ∈ l.take k, 0 ≤ a ∧ a < (u.length : Int)) ∧ Ow sv 9 wx w.heap.size (.slice (some ⟨w.heap.size, 0, none⟩) l.length l.length) (partX (l.map fun a => u.getD a.toNat []) l.length k) ∧ Fr Non w wx) (fun i _ => l.length - (intOf i).toNat)
  case atStart => exact ⟨0, Nat.zero_le _, rfl, Lib.hid (fun a h => by simp at h), HO1.out, HF1.out⟩
  case round =>
    obtain ⟨k, hk, rfl, HIn, hown, hfr⟩ := hrel
    by_cases hlt : k < l.length
    · obtain ⟨b, rfl, _, _, hcb⟩ := (HV2.out.non hfr).addr (by omega : 0 < l.length)
      have g2 : wr.cell? (b.add k) = some (iv l[k]) := hcb k hlt
      unfold iv at g2
      have HMm := Lib.hid (List.getElem_mem hlt)
      clear hcb
      by_cases hneg : l[k] < 0
      · have hd : decide (l[k] < 0) = true := by simpa using hneg
        have HNo := Lib.hid (pickD_none (u := u) HMm.out (.inl hneg))
        clear hneg
        generalize l[k] = z at *
        go_wp2
        go_ret2
        exact ⟨gtx_no HNo.out, hfr⟩
      · by_cases hbig : (u.length : Int) ≤ l[k]
        · have hd : decide (l[k] < 0) = false := by simpa using hneg
          have hd2 : decide ((u.length : Int) ≤ l[k]) = true := by simpa using hbig
          have hd3 : decide (l[k] ≥ (u.length : Int)) = true := by simpa using hbig
          have HNo := Lib.hid (pickD_none (u := u) HMm.out (.inr hbig))
          clear hbig hneg
          generalize l[k] = z at *
          go_wp2
          go_ret2
          exact ⟨gtx_no HNo.out, hfr⟩
        · have HIn2 : Hid (∀ a ∈ l.take (k + 1), 0 ≤ a ∧ a < (u.length : Int)) := Lib.hid (by
            intro a ha
            rw [List.take_succ_eq_append_getElem hlt, List.mem_append] at ha
            rcases ha with ha | ha
            · exact HIn.out a ha
            · obtain rfl : a = l[k] := by simpa using ha
              omega)
          obtain ⟨p, hp⟩ := Int.eq_ofNat_of_zero_le (show 0 ≤ l[k] by omega)
          have HS2 := Lib.hid (HST.out k hlt)
          have HE : Hid ((l.map fun a => u.getD a.toNat [])[k]'(by rw [List.length_map]; exact hlt) = u.getD p []) := Lib.hid (by rw [List.getElem_map, hp]; rfl)
          have HL := Lib.hid (HPL.out k hk)
          rw [hp] at g2 hbig hneg
          clear hp HMm
          have hpu : p < u.length := by omega
          obtain ⟨d, rfl, _, _, hcd⟩ := (HV1.out.non hfr).addr (by omega : 0 < u.length)
          have g3 : wr.cell? (d.add p) = some (sv u[p]) := hcd p hpu
          have HU : Hid (u.getD p [] = u[p]) := Lib.hid (List.getElem_eq_getD (h := hpu) []).symm
          unfold sv at g3
          clear hcd hbig hneg
          have hx0 : k < (partX (l.map fun a => u.getD a.toNat []) l.length k).length := by rw [HL.out]; exact hlt
          have hex : ∃ y, (partX (l.map fun a => u.getD a.toNat []) l.length k)[k]? = some y := ⟨_, List.getElem?_eq_getElem hx0⟩
          obtain ⟨old, hold⟩ := hex
          have cq := hown.cell HL.out.symm k _ hold
          have fq := hown.frozen HL.out.symm k
          unfold sv at cq
          have HO := Lib.hid hown
          have HFr := Lib.hid hfr
          clear hown hfr hold hx0
          generalize u[p] = x at *
          go_wp2
          go_roundw
          case rel =>
            have hst := HO.out.store HL.out.symm k x
            have hf : Fr (One w.heap.size) wr (wr.setCell ⟨w.heap.size, k, none⟩ (.string ⟨x.toArray⟩)) := (Fr.refl (One w.heap.size) wr).set1 k _
            refine ⟨k + 1, by omega, by go_num, HIn2, ?_, HFr.out.fresh hf (fun q hq => by have h2 : q = w.heap.size := hq; omega)⟩
            rw [HS2.out, HE.out, HU.out]; exact hst
          case measure => simp [intOf]; omega
    · obtain rfl : k = l.length := by omega
      rw [HA.out] at hown
      have HYes := Lib.hid (pickD_some (u := u) (l := l) (by have := HIn.out; rwa [List.take_length] at this))
      go_wp2
      go_ret2
      exact ⟨gtx_yes HYes.out hown, hfr⟩

set_option maxHeartbeats 2000000 in
theorem texts_any (v : Value) (b : List UInt8) (n m : Int) (w : World) (hv : Bs w v b) (h1 : -9223372036854775808 ≤ n) (h2 : n ≤ 9223372036854775807) (hm : m ≤ 9223372036854775807) :
    Calls Try.prog 10 #[v, .int .i64 n, .int .i64 m] w fun e w' => Gtx w' w.heap.size (textsM b n m) e ∧ Fr Non w w' := by
  have HV := Lib.hid hv
  by_cases hn0 : n < 0
  · have hd : decide (n < 0) = true := by simpa using hn0
    have HNo : Hid (textsM b n m = none) := Lib.hid (by unfold textsM; rw [if_neg (by omega)])
    clear hn0 hv
    go_enter Try.func10, Try.ntmps10
    go_wp2
    go_ret2
    exact ⟨gtx_no HNo.out, Fr.refl _ _⟩
  · by_cases hn4 : 4096 < n
    · have hd : decide (n < 0) = false := by simpa using hn0
      have hd4 : decide (4096 < n) = true := by simpa using hn4
      have HNo : Hid (textsM b n m = none) := Lib.hid (by unfold textsM; rw [if_neg (by omega)])
      clear hn0 hv hn4
      go_enter Try.func10, Try.ntmps10
      go_wp2
      go_ret2
      exact ⟨gtx_no HNo.out, Fr.refl _ _⟩
    · obtain ⟨k, rfl⟩ := Int.eq_ofNat_of_zero_le (show 0 ≤ n by omega)
      have hk4 : k ≤ 4096 := by omega
      have hd : decide ((k : Int) < 0) = false := by simp
      have hd4 : decide (4096 < (k : Int)) = false := by simp; omega
      have HT : Hid (textsM b k m = if tkB m b false k = false ∧ tkR m b k = [] then some (tks m b k) else none) := Lib.hid (by
        unfold textsM
        simp only [Int.toNat_natCast]
        by_cases hc : tkB m b false k = false ∧ tkR m b k = []
        · rw [if_pos hc, if_pos ⟨by omega, by omega, hc.1, hc.2⟩]
        · rw [if_neg hc, if_neg (fun h => hc ⟨h.2.2.1, h.2.2.2⟩)])
      clear hn0 hv hn4 h1 h2
      go_enter Try.func10, Try.ntmps10
      go_wp2_with fail
      refine (from_any v b w HV.out).mono ?_
      rintro e w1 ⟨rfl, hs1, hf1⟩
      go_wp2_with fail
      refine (dtake_any w.heap.size b false k m w1 hs1 (by omega) hm).mono ?_
      rintro e w2 ⟨rfl, hown2, hs2, hf2⟩
      have hfr2 : Fr Non w w2 := hf1.fresh hf2 (fun q hq => by have h2 : q = w.heap.size := hq; omega)
      have hend := end_any _ _ _ w2 hs2
      by_cases hc : tkB m b false k = false ∧ tkR m b k = []
      · have HY := Lib.hid (HT.out.trans (if_pos hc))
        rw [hc.1, hc.2] at hend
        clear hc
        go_wp2_with fail
        refine hend.mono ?_
        rintro e w3 ⟨rfl, rfl⟩
        go_wp2
        go_ret2
        exact ⟨gtx_yes HY.out (hown2.mono hf1.size), hfr2⟩
      · have HNo := Lib.hid (HT.out.trans (if_neg hc))
        have hb : (!tkB m b false k && (tkR m b k).isEmpty) = false := by
          rw [Bool.eq_false_iff]
          intro e
          simp at e
          exact hc e
        rw [hb] at hend
        clear hc hb
        go_wp2_with fail
        refine hend.mono ?_
        rintro e w3 ⟨rfl, rfl⟩
        go_wp2
        go_ret2
        exact ⟨gtx_no HNo.out, hfr2⟩
end Go.Proofs.Ytdniififoahlaaa
