/-
  Joined: Layer 8: the walks of dict.take, dict.pick, dict.Texts. · Layer 8: the walk of dict.Get. · Layer 10: the closures that put and get cells by their numbers. · Layer 10: the closures that put and get cells by their texts. · Layer 10: the ways: chunk.ofNumbers, ofTexts, ways. · Layer 10: chunk.shortest, read. · Layer 4: the walks of bitv.need, bitv.Pack, firkinref04.Pack. · Layer 4: the walks of bitv.Unpack, firkinref04.Unpack. · Layer 4: the walks of bitv.Count, Places, Or, the document's Places, Or, Same, Ints. · Layer 10: chunk.Kind, open.
-/
import Derived.Deep.RegionHeld3
import Derived.Test.YtheefloegbkflaaGreatDoorZ4
import Derived.Test.YtheefloegbkflaaGreatDoorZ3
import Derived.Laws.EntriesVeiled
import Derived.Test.YtheefloegbkflaaGreatDoorZ1
import Derived.Test.YtheefloegbkflaaGreatDoorZ2
import Derived.Deep.RegionWith
import Derived.Deep.QuietTactic
import Derived.BigQuiet
import Derived.OwnWalk

namespace Go.Proofs.YtheefloegbkflaaGreatDoor
set_option linter.unusedVariables false
set_option linter.unusedSimpArgs false
set_option maxRecDepth 100000
open Go.RowKit

/-- what Get and Texts answer: nothing and false, or the texts and true -/
def Gtx (w : World) (B : Nat) (o : Option (List Tx)) (e : Ending) : Prop :=
  (o = none ∧ e = .returned (.tuple #[.slice none 0 0, .bool false])) ∨ (∃ l u, o = some l ∧ e = .returned (.tuple #[u, .bool true]) ∧ Ow sv 9 w B u l)
theorem gtx_no {w : World} {B : Nat} {o : Option (List Tx)} (h : o = none) : Gtx w B o (.returned (.tuple #[.slice none 0 0, .bool false])) := .inl ⟨h, rfl⟩
theorem gtx_yes {w : World} {B : Nat} {o : Option (List Tx)} {l : List Tx} {u : Value} (h : o = some l) (hu : Ow sv 9 w B u l) : Gtx w B o (.returned (.tuple #[u, .bool true])) := .inr ⟨l, u, h, rfl, hu⟩

/-- the first k of n texts laid -/
def partX (l : List Tx) (n k : Nat) : List Tx := l.take k ++ List.replicate (n - k) []
theorem partX_zero (l : List Tx) (n : Nat) : partX l n 0 = List.replicate n [] := by simp [partX]
theorem partX_length {l : List Tx} {n k : Nat} (hk : k ≤ n) (hl : k ≤ l.length) : (partX l n k).length = n := by
  unfold partX; rw [List.length_append, List.length_take, List.length_replicate]; omega
theorem partX_all {l : List Tx} {n : Nat} (hl : l.length = n) : partX l n n = l := by
  unfold partX; rw [List.take_of_length_le (by omega)]; simp
theorem partX_step {l : List Tx} {n k : Nat} (hk : k < n) (hl : k < l.length) : partX l n (k + 1) = (partX l n k).set k l[k] := by
  have h1 : (l.take k).length = k := by rw [List.length_take]; omega
  unfold partX
  rw [show n - k = (n - (k + 1)) + 1 by omega, List.replicate_succ, List.set_append_right _ _ (by omega), h1, Nat.sub_self, List.take_succ_eq_append_getElem hl]
  simp only [List.set_cons_zero, List.append_assoc, List.singleton_append]
theorem tks_take (m : Int) (b : List UInt8) (k : Nat) : ∀ j, (tks m b (k + j)).take k = tks m b k
  | 0 => List.take_of_length_le (by rw [tks_length]; exact Nat.le_refl _)
  | j + 1 => by
    show (tks m b (k + j) ++ [_]).take k = _
    rw [List.take_append_of_le_length (by rw [tks_length]; omega), tks_take m b k j]
theorem tks_at (m : Int) (b : List UInt8) {n k : Nat} (hk : k < n) (h : k < (tks m b n).length) : (tks m b n)[k] = txtT (tkR m b k) m := by
  obtain ⟨j, rfl⟩ : ∃ j, n = k + 1 + j := ⟨n - (k + 1), by omega⟩
  have h1 := tks_take m b (k + 1) j
  have h2 : (tks m b (k + 1 + j))[k] = ((tks m b (k + 1 + j)).take (k + 1))[k]'(by rw [List.length_take]; omega) := by rw [List.getElem_take]
  rw [h2]
  simp only [h1, tks]
  rw [List.getElem_append_right (by rw [tks_length]; exact Nat.le_refl _)]
  simp

set_option maxHeartbeats 4000000 in
theorem dtake_any (g : Nat) (b : List UInt8) (bad : Bool) (n : Nat) (m : Int) (w : World) (h : Src w g b bad) (hn : n ≤ 1000000) (hm : m ≤ 9223372036854775807) :
    Calls Tryz.prog 161 #[ptr g, .int .i64 n, .int .i64 m] w fun e w' => e = .returned (.slice (some ⟨w.heap.size, 0, none⟩) n n) ∧ Ow sv 9 w' w.heap.size (.slice (some ⟨w.heap.size, 0, none⟩) n n) (tks m b n) ∧ Src w' g (tkR m b n) (tkB m b bad n) ∧ Fr (One g) w w' := by
  have HH := Lib.hid h
  have hgw := h.1.lt
  have HST := Lib.hid (fun k (hk : k < n) => partX_step (l := tks m b n) hk (by rw [tks_length]; exact hk))
  have HPL := Lib.hid (fun k (hk : k ≤ n) => partX_length (l := tks m b n) hk (by rw [tks_length]; exact hk))
  have HAT := Lib.hid (fun k (hk : k < n) => tks_at m b hk (by rw [tks_length]; exact hk))
  have HZ := Lib.hid (partX_zero (tks m b n) n)
  have HA := Lib.hid (partX_all (tks_length m b n))
  have HTL := Lib.hid (tks_length m b n)
  clear h
  go_enter Tryz.func161, Tryz.ntmps161
  go_wp2_with (at_make; refine wpList_mkfullG el_str (f := sv) ([] : Tx) rfl rfl _ _ rfl _ _ _ _ n rfl rfl rfl rfl (by omega) ?_; intro w1 hown1 hf1; have HO1 := Lib.hid hown1; have HF1 := Lib.hid hf1; clear hown1 hf1)
  rw [← HZ.out] at HO1
  have HS1 := Lib.hid (HH.out.fr HF1.out (fun e => e))
  have hle1 := HF1.out.size
  go_loopw [13] (fun i wx => ∃ k : Nat, k ≤ n ∧ i = .int .i64 k ∧ Ow sv 9 wx w.heap.size (.slice (some ⟨w.heap.size, 0, none⟩) n n) (partX (tks m b n) n k) ∧ Src wx g (tkR m b k) (tkB m b bad k) ∧ Fr (One g) w wx) (fun i _ => n - (intOf i).toNat)
  case atStart => exact ⟨0, Nat.zero_le _, rfl, HO1.out, HS1.out, HF1.out.mono (fun _ _ e => e.elim)⟩
  case round =>
    obtain ⟨k, hk, rfl, hown, hs, hfr⟩ := hrel
    by_cases hlt : k < n
    · have htx := stext_any g _ _ m wr hs hm
      have HL := Lib.hid (HPL.out k hk)
      have HO := Lib.hid hown
      have HFr := Lib.hid hfr
      have HS2 := Lib.hid (HST.out k hlt)
      have HA2 := Lib.hid (HAT.out k hlt)
      have hx0 : k < (partX (tks m b n) n k).length := by rw [HL.out]; exact hlt
      have hex : ∃ y, (partX (tks m b n) n k)[k]? = some y := ⟨_, List.getElem?_eq_getElem hx0⟩
      obtain ⟨old, hold⟩ := hex
      have HX0 := Lib.hid hold
      clear hold
      have hsz := hfr.size
      clear hown hs hfr hx0
      go_wp2_with fail
      refine htx.mono ?_
      rintro e w2 ⟨rfl, hs2, hf2⟩
      have ho2 := HO.out.fr hf2 (fun q hq e => by have h1 := (HO.out.lt q hq).1; have h2 : q = g := e; omega)
      have cq := ho2.cell HL.out.symm k _ HX0.out
      have fq := ho2.frozen HL.out.symm k
      unfold sv at cq
      have HO2 := Lib.hid ho2
      have HS3 := Lib.hid hs2
      clear ho2 hs2 htx
      go_wp2
      go_roundw
      case rel =>
        have hst := HO2.out.store HL.out.symm k (txtT (tkR m b k) m)
        have hf : Fr (One w.heap.size) w2 (w2.setCell ⟨w.heap.size, k, none⟩ (sv (txtT (tkR m b k) m))) := (Fr.refl (One w.heap.size) w2).set1 k _
        refine ⟨k + 1, by omega, by go_num, ?_, HS3.out.fr hf (fun e => by have h : g = w.heap.size := e; omega), (HFr.out.trans hf2).fresh hf (fun q hq => by have h2 : q = w.heap.size := hq; omega)⟩
        rw [HS2.out, HA2.out]; exact hst
      case measure => simp [intOf]; omega
    · obtain rfl : k = n := by omega
      rw [HA.out] at hown
      go_wp2
      go_ret
      exact ⟨rfl, hown, hs, hfr⟩

theorem pickD_none {u : List Tx} {l : List Int} {a : Int} (h : a ∈ l) (hn : a < 0 ∨ (u.length : Int) ≤ a) : pickD u l = none := by
  unfold pickD
  rw [if_neg]
  intro hc
  have := hc a h
  omega
theorem pickD_some {u : List Tx} {l : List Int} (h : ∀ a ∈ l, 0 ≤ a ∧ a < (u.length : Int)) : pickD u l = some (l.map fun a => u.getD a.toNat []) := by
  unfold pickD
  rw [if_pos h]

set_option maxHeartbeats 4000000 in
theorem pick_any (v1 v2 : Value) (u : List Tx) (l : List Int) (w : World) (h1 : Vs sv w v1 u) (h2 : Vs iv w v2 l) (hl : l.length ≤ 1000000) (hu : u.length ≤ 1000000) :
    Calls Tryz.prog 164 #[v1, v2] w fun e w' => Gtx w' w.heap.size (pickD u l) e ∧ Fr Non w w' := by
  have HV1 := Lib.hid h1
  have HV2 := Lib.hid h2
  obtain ⟨A1, c1, rfl⟩ := h1.shape
  obtain ⟨A2, c2, rfl⟩ := h2.shape
  have HST := Lib.hid (fun k (hk : k < l.length) => partX_step (l := l.map fun a => u.getD a.toNat []) (n := l.length) hk (by rw [List.length_map]; exact hk))
  have HPL := Lib.hid (fun k (hk : k ≤ l.length) => partX_length (l := l.map fun a => u.getD a.toNat []) (n := l.length) hk (by rw [List.length_map]; exact hk))
  have HZ := Lib.hid (partX_zero (l.map fun a => u.getD a.toNat []) l.length)
  have HA := Lib.hid (partX_all (l := l.map fun a => u.getD a.toNat []) (n := l.length) (by rw [List.length_map]))
  clear h1 h2
  go_enter Tryz.func164, Tryz.ntmps164
  go_wp2_with (at_make; refine wpList_mkfullG el_str (f := sv) ([] : Tx) rfl rfl _ _ rfl _ _ _ _ l.length rfl rfl rfl rfl (by omega) ?_; intro w1 hown1 hf1; have HO1 := Lib.hid hown1; have HF1 := Lib.hid hf1; clear hown1 hf1)
  rw [← HZ.out] at HO1
  have hle1 := HF1.out.size
  go_loopw [14] (fun i wx => ∃ k : Nat, k ≤ l.length ∧ i = .int .i64 k ∧ Hid (∀ a ∈ l.take k, 0 ≤ a ∧ a < (u.length : Int)) ∧ Ow sv 9 wx w.heap.size (.slice (some ⟨w.heap.size, 0, none⟩) l.length l.length) (partX (l.map fun a => u.getD a.toNat []) l.length k) ∧ Fr Non w wx) (fun i _ => l.length - (intOf i).toNat)
  case atStart => exact ⟨0, Nat.zero_le _, rfl, Lib.hid (fun a h => by simp at h), HO1.out, HF1.out⟩
  case round =>
    obtain ⟨k, hk, rfl, HIn, hown, hfr⟩ := hrel
    by_cases hlt : k < l.length
    · obtain ⟨b, rfl, _, _, hcb⟩ := (HV2.out.non hfr).addr (by omega : 0 < l.length)
      have g2 : wr.cell? (b.add k) = some (iv l[k]) := hcb k hlt
      unfold iv at g2
      have HMm := Lib.hid (List.getElem_mem hlt)
      clear hcb
      by_cases hneg : l[k] < 0
      · have hd : decide (l[k] < 0) = true := by simpa using hneg
        have HNo := Lib.hid (pickD_none (u := u) HMm.out (.inl hneg))
        clear hneg
        generalize l[k] = z at *
        go_wp2
        go_ret2
        exact ⟨gtx_no HNo.out, hfr⟩
      · by_cases hbig : (u.length : Int) ≤ l[k]
        · have hd : decide (l[k] < 0) = false := by simpa using hneg
          have hd2 : decide ((u.length : Int) ≤ l[k]) = true := by simpa using hbig
          have hd3 : decide (l[k] ≥ (u.length : Int)) = true := by simpa using hbig
          have HNo := Lib.hid (pickD_none (u := u) HMm.out (.inr hbig))
          clear hbig hneg
          generalize l[k] = z at *
          go_wp2
          go_ret2
          exact ⟨gtx_no HNo.out, hfr⟩
        · have HIn2 : Hid (∀ a ∈ l.take (k + 1), 0 ≤ a ∧ a < (u.length : Int)) := Lib.hid (by
            intro a ha
            rw [List.take_succ_eq_append_getElem hlt, List.mem_append] at ha
            rcases ha with ha | ha
            · exact HIn.out a ha
            · obtain rfl : a = l[k] := by simpa using ha
              omega)
          obtain ⟨p, hp⟩ := Int.eq_ofNat_of_zero_le (show 0 ≤ l[k] by omega)
          have HS2 := Lib.hid (HST.out k hlt)
          have HE : Hid ((l.map fun a => u.getD a.toNat [])[k]'(by rw [List.length_map]; exact hlt) = u.getD p []) := Lib.hid (by rw [List.getElem_map, hp]; rfl)
          have HL := Lib.hid (HPL.out k hk)
          rw [hp] at g2 hbig hneg
          clear hp HMm
          have hpu : p < u.length := by omega
          obtain ⟨d, rfl, _, _, hcd⟩ := (HV1.out.non hfr).addr (by omega : 0 < u.length)
          have g3 : wr.cell? (d.add p) = some (sv u[p]) := hcd p hpu
          have HU : Hid (u.getD p [] = u[p]) := Lib.hid (List.getElem_eq_getD (h := hpu) []).symm
          unfold sv at g3
          clear hcd hbig hneg
          have hx0 : k < (partX (l.map fun a => u.getD a.toNat []) l.length k).length := by rw [HL.out]; exact hlt
          have hex : ∃ y, (partX (l.map fun a => u.getD a.toNat []) l.length k)[k]? = some y := ⟨_, List.getElem?_eq_getElem hx0⟩
          obtain ⟨old, hold⟩ := hex
          have cq := hown.cell HL.out.symm k _ hold
          have fq := hown.frozen HL.out.symm k
          unfold sv at cq
          have HO := Lib.hid hown
          have HFr := Lib.hid hfr
          clear hown hfr hold hx0
          generalize u[p] = x at *
          go_wp2
          go_roundw
          case rel =>
            have hst := HO.out.store HL.out.symm k x
            have hf : Fr (One w.heap.size) wr (wr.setCell ⟨w.heap.size, k, none⟩ (.string ⟨x.toArray⟩)) := (Fr.refl (One w.heap.size) wr).set1 k _
            refine ⟨k + 1, by omega, by go_num, HIn2, ?_, HFr.out.fresh hf (fun q hq => by have h2 : q = w.heap.size := hq; omega)⟩
            rw [HS2.out, HE.out, HU.out]; exact hst
          case measure => simp [intOf]; omega
    · obtain rfl : k = l.length := by omega
      rw [HA.out] at hown
      have HYes := Lib.hid (pickD_some (u := u) (l := l) (by have := HIn.out; rwa [List.take_length] at this))
      go_wp2
      go_ret2
      exact ⟨gtx_yes HYes.out hown, hfr⟩

set_option maxHeartbeats 2000000 in
theorem texts_any (v : Value) (b : List UInt8) (n m : Int) (w : World) (hv : Bs w v b) (h1 : -9223372036854775808 ≤ n) (h2 : n ≤ 9223372036854775807) (hm : m ≤ 9223372036854775807) :
    Calls Tryz.prog 107 #[v, .int .i64 n, .int .i64 m] w fun e w' => Gtx w' w.heap.size (textsM b n m) e ∧ Fr Non w w' := by
  have HV := Lib.hid hv
  by_cases hn0 : n < 0
  · have hd : decide (n < 0) = true := by simpa using hn0
    have HNo : Hid (textsM b n m = none) := Lib.hid (by unfold textsM; rw [if_neg (by omega)])
    clear hn0 hv
    go_enter Tryz.func107, Tryz.ntmps107
    go_wp2
    go_ret2
    exact ⟨gtx_no HNo.out, Fr.refl _ _⟩
  · by_cases hn4 : 4096 < n
    · have hd : decide (n < 0) = false := by simpa using hn0
      have hd4 : decide (4096 < n) = true := by simpa using hn4
      have HNo : Hid (textsM b n m = none) := Lib.hid (by unfold textsM; rw [if_neg (by omega)])
      clear hn0 hv hn4
      go_enter Tryz.func107, Tryz.ntmps107
      go_wp2
      go_ret2
      exact ⟨gtx_no HNo.out, Fr.refl _ _⟩
    · obtain ⟨k, rfl⟩ := Int.eq_ofNat_of_zero_le (show 0 ≤ n by omega)
      have hk4 : k ≤ 4096 := by omega
      have hd : decide ((k : Int) < 0) = false := by simp
      have hd4 : decide (4096 < (k : Int)) = false := by simp; omega
      have HT : Hid (textsM b k m = if tkB m b false k = false ∧ tkR m b k = [] then some (tks m b k) else none) := Lib.hid (by
        unfold textsM
        simp only [Int.toNat_natCast]
        by_cases hc : tkB m b false k = false ∧ tkR m b k = []
        · rw [if_pos hc, if_pos ⟨by omega, by omega, hc.1, hc.2⟩]
        · rw [if_neg hc, if_neg (fun h => hc ⟨h.2.2.1, h.2.2.2⟩)])
      clear hn0 hv hn4 h1 h2
      go_enter Tryz.func107, Tryz.ntmps107
      go_wp2_with fail
      refine (from_any v b w HV.out).mono ?_
      rintro e w1 ⟨rfl, hs1, hf1⟩
      go_wp2_with fail
      refine (dtake_any w.heap.size b false k m w1 hs1 (by omega) hm).mono ?_
      rintro e w2 ⟨rfl, hown2, hs2, hf2⟩
      have hfr2 : Fr Non w w2 := hf1.fresh hf2 (fun q hq => by have h2 : q = w.heap.size := hq; omega)
      have hend := end_any _ _ _ w2 hs2
      by_cases hc : tkB m b false k = false ∧ tkR m b k = []
      · have HY := Lib.hid (HT.out.trans (if_pos hc))
        rw [hc.1, hc.2] at hend
        clear hc
        go_wp2_with fail
        refine hend.mono ?_
        rintro e w3 ⟨rfl, rfl⟩
        go_wp2
        go_ret2
        exact ⟨gtx_yes HY.out (hown2.mono hf1.size), hfr2⟩
      · have HNo := Lib.hid (HT.out.trans (if_neg hc))
        have hb : (!tkB m b false k && (tkR m b k).isEmpty) = false := by
          rw [Bool.eq_false_iff]
          intro e
          simp at e
          exact hc e
        rw [hb] at hend
        clear hc hb
        go_wp2_with fail
        refine hend.mono ?_
        rintro e w3 ⟨rfl, rfl⟩
        go_wp2
        go_ret2
        exact ⟨gtx_no HNo.out, hfr2⟩
end Go.Proofs.YtheefloegbkflaaGreatDoor


namespace Go.Proofs.YtheefloegbkflaaGreatDoor
set_option linter.unusedVariables false
set_option linter.unusedSimpArgs false
set_option maxRecDepth 100000
open Go.RowKit

theorem mostV_le {b : List UInt8} {K : Int} (h : 0 ≤ K) : (mostV b K : Int) ≤ K := by
  unfold mostV
  by_cases hm : mostOk b K = true
  · rw [if_pos hm]; exact (of_decide_eq_true hm).2
  · rw [if_neg hm]; exact h
theorem mostRx_len (b : List UInt8) (K : Int) : (mostR b K).length ≤ b.length := by
  unfold mostR
  split
  · exact rest_le b
  · simp
theorem pickD_len {u : List Tx} {at_ : List Int} {l : List Tx} (h : pickD u at_ = some l) : l.length = at_.length := by
  unfold pickD at h
  split at h
  · obtain rfl := Option.some.inj h
    rw [List.length_map]
  · cases h
theorem pickD_mem {u : List Tx} {at_ : List Int} {l : List Tx} (h : pickD u at_ = some l) : ∀ x ∈ l, x ∈ u := by
  unfold pickD at h
  split at h
  · rename_i hc
    obtain rfl := Option.some.inj h
    intro x hx
    obtain ⟨a, ha, rfl⟩ := List.mem_map.1 hx
    have h1 := hc a ha
    rw [← List.getElem_eq_getD (h := by omega)]
    exact List.getElem_mem _
  · cases h
theorem getM_len {b : List UInt8} {n : Int} {l : List Int} (h : getM b n = some l) : (l.length : Int) = n ∧ n ≤ 4096 := by
  unfold getM at h
  split at h
  · exact ⟨(getZ_is h).2.1, by omega⟩
  · cases h
theorem plainB_uniq {l : List Tx} {B : Nat} (hl : l.length ≤ 10000) (hx : ∀ x ∈ l, x.length ≤ B) (hB : B ≤ 1000000) : (plainB (uniq l)).length < 137438953472 := by
  have h1 := plainB_bound (l := uniq l) (B := B) (fun x h => hx x ((uniq_mem l x).1 h)) (by unfold two64; omega)
  have h2 := uniq_length l
  have h3 := Nat.mul_le_mul (show (uniq l).length ≤ 10000 by omega) (show B + 10 ≤ 1000010 by omega)
  omega

set_option maxHeartbeats 4000000 in
theorem xget_any (v : Value) (b : List UInt8) (n m : Int) (w : World) (hv : Bs w v b) (hvl : ∀ k, v.ownBlock = some k → k < w.heap.size) (hl : b.length ≤ 1000000) (h1 : -9223372036854775808 ≤ n) (h2 : n ≤ 9223372036854775807) (hm : m ≤ 9223372036854775807) :
    Calls Tryz.prog 109 #[v, .int .i64 n, .int .i64 m] w fun e w' => Gtx w' w.heap.size (dgetM b n m) e ∧ Fr Non w w' := by
  have HV := Lib.hid hv
  by_cases hn0 : n < 0
  · have hd : decide (n < 0) = true := by simpa using hn0
    have HNo : Hid (dgetM b n m = none) := Lib.hid (by unfold dgetM; rw [if_pos (.inl hn0)])
    clear hn0 hv
    go_enter Tryz.func109, Tryz.ntmps109
    go_wp2
    go_ret2
    exact ⟨gtx_no HNo.out, Fr.refl _ _⟩
  · by_cases hn4 : 4096 < n
    · have hd : decide (n < 0) = false := by simpa using hn0
      have hd4 : decide (4096 < n) = true := by simpa using hn4
      have HNo : Hid (dgetM b n m = none) := Lib.hid (by unfold dgetM; rw [if_pos (.inr hn4)])
      clear hn0 hv hn4
      go_enter Tryz.func109, Tryz.ntmps109
      go_wp2
      go_ret2
      exact ⟨gtx_no HNo.out, Fr.refl _ _⟩
    · obtain ⟨k, rfl⟩ := Int.eq_ofNat_of_zero_le (show 0 ≤ n by omega)
      have hk4 : k ≤ 4096 := by omega
      have hd : decide ((k : Int) < 0) = false := by simp
      have hd4 : decide (4096 < (k : Int)) = false := by simp; omega
      have HT : Hid (dgetM b k m = dgetK k b k m) := Lib.hid (by unfold dgetM; rw [if_neg (by omega)])
      obtain ⟨A, c, rfl⟩ := hv.shape
      have hkm : ((k : Int) + 1) - 1 = k := by omega
      have HKM := Lib.hid hkm
      have hcv := mostV_le (b := b) (K := (k : Int)) (by omega)
      have HRl := Lib.hid (mostRx_len b k)
      clear hn0 hv hn4 h1 h2 hkm
      go_enter Tryz.func109, Tryz.ntmps109
      go_wp2_with fail
      refine (from_any _ b w HV.out).mono ?_
      rintro e w1 ⟨rfl, hs1, hf1⟩
      have hbel := below_any w.heap.size b false ((k : Int) + 1) w1 hs1 (by omega)
      rw [HKM.out] at hbel
      go_wp2_with fail
      refine hbel.mono ?_
      rintro e w2 ⟨rfl, hs2, hf2⟩
      clear hbel
      have hCC : dgetK k b k m = (match getM (tkR m (mostR b k) (mostV b k)) k with
        | none => none
        | some at_ => match pickD (tks m (mostR b k) (mostV b k)) at_ with
          | none => none
          | some l => if dictB l = b then some l else none) := rfl
      rw [hCC] at HT
      clear hCC
      have HRl2 := HRl.out
      generalize mostV b k = q at *
      generalize mostR b k = r at *
      generalize mostB b k = bad at *
      go_wp2_with fail
      refine (dtake_any _ r bad q m w2 hs2 (by omega) hm).mono ?_
      rintro e w3 ⟨rfl, hown3, hs3, hf3⟩
      have hRt := tkR_len m r q
      have HKl := Lib.hid (tks_len m r q)
      have HKn := Lib.hid (tks_length m r q)
      generalize tks m r q = u at *
      generalize tkR m r q = t at *
      generalize tkB m r bad q = bad2 at *
      have hlft := left_any _ _ _ w3 hs3
      go_wp2_with fail
      refine hlft.mono ?_
      rintro e w4 ⟨rfl, rfl⟩
      have htk := take_any _ _ _ (t.length : Int) w3 hs3
      rw [(cut_all t).1] at htk
      clear hlft
      go_wp2_with fail
      refine htk.mono ?_
      rintro e w4 ⟨v4, rfl, hbs4, hnew4, hs4, hf4⟩
      clear htk
      have hu4 := hown3.vs.fr hf4 (fun y hy e => by have h1 := (hown3.lt y hy).1; have h2 : y = w.heap.size := e; have := hf1.size; have := hf2.size; have := hs1.1.lt; omega)
      have hfr4 : Fr Non w w4 := ((hf1.fresh hf2 (fun y hy => by have h2 : y = w.heap.size := hy; omega)).fresh hf3 (fun y hy => by have h2 : y = w.heap.size := hy; omega)).fresh hf4 (fun y hy => by have h2 : y = w.heap.size := hy; omega)
      have HU4 := Lib.hid hu4
      have HF4 := Lib.hid hfr4
      clear hu4 hs4 hf4 hnew4 hown3 hs3 hf3 hs2 hf2 hs1 hf1 hfr4
      have htg := tget_any v4 t (k : Int) w4 hbs4 (by omega) (by omega) (by omega)
      cases hg : getM t (k : Int) with
      | none =>
        rw [hg] at htg HT
        clear hg
        go_wp2_with fail
        refine htg.mono ?_
        rintro e w5 ⟨hgt, hf5⟩
        rcases hgt with ⟨_, rfl⟩ | ⟨_, _, h, _⟩
        · go_wp2
          go_ret2
          exact ⟨gtx_no HT.out, HF4.out.trans hf5⟩
        · cases h
      | some at_ =>
        rw [hg] at htg HT
        have hal := getM_len hg
        clear hg
        go_wp2_with fail
        refine htg.mono ?_
        rintro e w5 ⟨hgt, hf5⟩
        rcases hgt with ⟨h, _⟩ | ⟨at2, v5, he, rfl, hown5⟩
        · cases h
        · obtain rfl : at_ = at2 := by simpa using he
          clear he htg
          obtain ⟨A5, c5, rfl⟩ := hown5.shape
          have hpk := pick_any _ _ u at_ w5 (HU4.out.non hf5) hown5.vs (by omega) (by rw [HKn.out]; omega)
          have HF5 := Lib.hid (HF4.out.trans hf5)
          clear hown5 hf5
          cases hp : pickD u at_ with
          | none =>
            simp only [hp] at HT
            rw [hp] at hpk
            clear hp
            go_wp2_with fail
            refine hpk.mono ?_
            rintro e w6 ⟨hgt, hf6⟩
            rcases hgt with ⟨_, rfl⟩ | ⟨_, _, h, _⟩
            · go_wp2
              go_ret2
              exact ⟨gtx_no HT.out, HF5.out.trans hf6⟩
            · cases h
          | some lx =>
            simp only [hp] at HT
            rw [hp] at hpk
            have hxl : lx.length ≤ 4096 := by have := pickD_len hp; omega
            have HXm := Lib.hid (pickD_mem hp)
            clear hp
            have HXl : Hid (∀ x ∈ lx, x.length ≤ b.length) := Lib.hid (fun x hx => Nat.le_trans (HKl.out x (HXm.out x hx)) HRl2)
            go_wp2_with fail
            refine hpk.mono ?_
            rintro e w6 ⟨hgt, hf6⟩
            rcases hgt with ⟨h, _⟩ | ⟨lx2, v6, he, rfl, hown6⟩
            · cases h
            · obtain rfl : lx = lx2 := by simpa using he
              clear he hpk
              obtain ⟨A6, c6, rfl⟩ := hown6.shape
              have HF6 := Lib.hid (HF5.out.trans hf6)
              have HO6 := Lib.hid hown6
              have hdp := xput_any _ lx w6 hown6.vs (by omega) (fun x hx => by have := HXl.out x hx; omega) (plainB_uniq (by omega) HXl.out (by omega))
              have HB6 := Lib.hid ((HF6.out.size))
              have hB56 := hf6.size
              have HB5 := Lib.hid (HF5.out.size)
              clear hown6 hf6
              go_wp2_with fail
              refine hdp.mono ?_
              rintro e w7 ⟨v7, rfl, hown7, hf7⟩
              clear hdp
              have heq := equal_any v7 _ (dictB lx) b w7 hown7.bs (HV.out.non (HF6.out.trans hf7))
              have hO7 := (HO6.out.non hf7).mono (B' := w.heap.size) HB5.out
              have HO7 := Lib.hid hO7
              have HF7 := Lib.hid (HF6.out.trans hf7)
              clear hown7 hf7 hO7
              by_cases hd : dictB lx = b
              · rw [if_pos hd] at HT
                have hbb : (dictB lx == b) = true := by rw [hd]; simp
                rw [hbb] at heq
                clear hd hbb
                go_wp2_with fail
                refine heq.mono ?_
                rintro e w8 ⟨rfl, rfl⟩
                go_wp2
                go_ret2
                exact ⟨gtx_yes HT.out HO7.out, HF7.out⟩
              · rw [if_neg hd] at HT
                have hbb : (dictB lx == b) = false := by rw [beq_eq_false_iff_ne]; exact hd
                rw [hbb] at heq
                clear hd hbb
                go_wp2_with fail
                refine heq.mono ?_
                rintro e w8 ⟨rfl, rfl⟩
                go_wp2
                go_ret2
                exact ⟨gtx_no HT.out, HF7.out⟩
end Go.Proofs.YtheefloegbkflaaGreatDoor


namespace Go.Proofs.YtheefloegbkflaaGreatDoor
set_option linter.unusedVariables false
set_option linter.unusedSimpArgs false
set_option maxRecDepth 100000
open Go.RowKit

/-- what a way's get hands back -/
def Gtc (w : World) (B : Nat) (o : Option (List Cl)) (e : Ending) : Prop :=
  (o = none ∧ ∃ u l, e = .returned (.tuple #[u, .bool false]) ∧ Oc w B u l) ∨ (∃ l u, o = some l ∧ e = .returned (.tuple #[u, .bool true]) ∧ Oc w B u l)
def OkNum (l : List Int) : Prop := ∀ x ∈ l, I64 x
/-- F puts numbers in way k -/
def PutNum (k F : Nat) : Prop := (∀ args W, (callFunc F args).run Tryz.prog W = .ok (.enter F args) W) ∧ ∀ (v : Value) (l : List Int) (w : World), Vs iv w v l → l.length ≤ 4096 → OkNum l →
    Calls Tryz.prog F #[v] w fun e w' => ∃ u, e = .returned u ∧ Own w' w.heap.size u (numW k l) ∧ Fr Non w w'
def GetNum (k F : Nat) : Prop := (∀ args W, (callFunc F args).run Tryz.prog W = .ok (.enter F args) W) ∧ ∀ (v : Value) (b : List UInt8) (n : Nat) (w : World), Bs w v b → (∀ q, v.ownBlock = some q → q < w.heap.size) → b.length ≤ 100000 → n ≤ 4096 →
    Calls Tryz.prog F #[v, .int .i64 n] w fun e w' => Gtn w' w.heap.size (numG k b n) e ∧ Fr Non w w'
theorem putNum1 : PutNum 1 97 := ⟨Tryz.call97, fun v l w hv hl hx => each_any v l w hv (by omega) hx⟩
theorem putNum2 : PutNum 2 99 := ⟨Tryz.call99, fun v l w hv hl hx => rnput_any v l w hv (by omega) hx⟩
theorem putNum3 : PutNum 3 101 := ⟨Tryz.call101, fun v l w hv hl hx => dput_any v l w hv (by omega)⟩
theorem putNum4 : PutNum 4 103 := ⟨Tryz.call103, fun v l w hv hl hx => tput_any v l w hv hx (by omega)⟩
theorem getNum1 : GetNum 1 98 := ⟨Tryz.call98, fun v b n w hv _ hl hn => geach_any v b n w hv (by omega)⟩
theorem getNum2 : GetNum 2 100 := ⟨Tryz.call100, fun v b n w hv _ hl hn => rnget_any v b n w hv (by omega) (by omega) (by omega)⟩
theorem getNum3 : GetNum 3 102 := ⟨Tryz.call102, fun v b n w hv _ hl hn => dget_any v b n w hv (by omega) (by omega) (by omega)⟩
theorem getNum4 : GetNum 4 104 := ⟨Tryz.call104, fun v b n w hv _ hl hn => tget_any v b n w hv (by omega) (by omega) (by omega)⟩

theorem map_take_num (l : List Cl) (k : Nat) (h : k < l.length) : (l.take (k + 1)).map Cl.num = (l.take k).map Cl.num ++ [l[k].num] := by
  rw [List.take_succ_eq_append_getElem h, List.map_append]; rfl

set_option maxHeartbeats 4000000 in
/-- the put of a way: F puts them -/
theorem cput_num (k : Nat) (F : Nat) (hF : PutNum k F) (g : Nat) (v : Value) (l : List Cl) (w : World) (hb : Blk w g 144 #[.func (.func F) #[] #[]]) (hv : Cs w v l) (hl : l.length ≤ 4096) (hx : OkNum (l.map Cl.num)) :
    Calls Tryz.prog 146 #[v, ptr g] w fun e w' => ∃ u, e = .returned u ∧ Own w' w.heap.size u (numW k (l.map Cl.num)) ∧ Fr Non w w' := by
  obtain ⟨A, c, rfl, hlc, hn, hcell⟩ := hv
  have HC := Lib.hid hcell
  have HN := Lib.hid hn
  have HB := Lib.hid hb
  have HX := Lib.hid hx
  have HF := Lib.hid hF
  clear hcell hn hb hx hF
  go_enter Tryz.func146, Tryz.ntmps146
  go_wp2_with (at_make; refine wpList_mkfullG el_i64 (f := iv) (0 : Int) rfl rfl _ _ rfl _ _ _ _ l.length rfl rfl rfl rfl (by omega) ?_; intro w2 hown2 hfr2)
  have hbl := HB.out.lt
  generalize hg : w.heap.size = r at *
  have hgl := Nat.le_of_eq hg
  have hgl2 := Nat.le_of_eq hg.symm
  clear hg
  have HS := Lib.hid hgl
  go_loopw [12] (fun i wr => ∃ (k : Nat), k ≤ l.length ∧ i = .int .i64 k ∧ Ow iv 2 wr r (.slice (some ⟨r, 0, none⟩) l.length l.length) ((l.take k).map Cl.num ++ List.replicate (l.length - k) (0 : Int)) ∧ Fr Non w wr) (fun i _ => l.length - (intOf i).toNat)
  case atStart => exact ⟨0, Nat.zero_le _, rfl, hown2, hfr2⟩
  case round =>
    clear hown2 hfr2
    obtain ⟨j, hj, rfl, hN, hfr⟩ := hrel
    by_cases hlt : j < l.length
    · cases A with
      | none => have := HN.out rfl; omega
      | some a =>
        obtain ⟨hc0, hc1, hc2⟩ := (hfr.at3 (HC.out a rfl j hlt)).lit
        have hlj : ((l.take j).map Cl.num).length = j := by rw [List.length_map, List.length_take]; omega
        have HL := Lib.hid (show l.length = ((l.take j).map Cl.num ++ List.replicate (l.length - j) (0 : Int)).length by rw [List.length_append, hlj, List.length_replicate]; omega)
        have hat := rep_at ((l.take j).map Cl.num) (l.length - j) (0 : Int) (by omega)
        have hset := rep_set ((l.take j).map Cl.num) (l.length - j) (0 : Int) l[j].num (by omega)
        rw [hlj] at hat hset
        rw [show l.length - j - 1 = l.length - (j + 1) by omega, ← map_take_num l j hlt] at hset
        have hcb := hN.cell HL.out j _ hat
        have hfb := hN.frozen HL.out j
        unfold iv at hcb
        have hbk : r < wr.heap.size := (hN.lt r rfl).2
        have K1 := Lib.hid (show ∀ X : Obj, Ow iv 2 ((wr.setCell ⟨r, j, none⟩ (iv l[j].num)).alloc X) r (.slice (some ⟨r, 0, none⟩) l.length l.length) ((l.take (j + 1)).map Cl.num ++ List.replicate (l.length - (j + 1)) (0 : Int)) ∧ Fr Non w ((wr.setCell ⟨r, j, none⟩ (iv l[j].num)).alloc X) from fun X => by
          refine ⟨?_, ?_⟩
          · rw [← hset]; exact (hN.store HL.out j l[j].num).alloc X
          · exact (hfr.fresh ((Fr.refl (One r) _).set1 j _) (fun q e => by have h1 : q = r := e; have := HS.out; omega)).alloc X)
        clear hN hat hset hlj
        generalize l[j] = x at *
        obtain ⟨xn, xi, xt⟩ := x
        obtain ⟨k1, k2⟩ := K1.out (.cells #[.bool xn, .int .i64 xi, .string ⟨xt.toArray⟩] 54)
        have k1 := Lib.hid k1
        have k2 := Lib.hid k2
        clear K1
        go_wp2_with fail
        go_roundw
        case rel => exact ⟨j + 1, by omega, by go_num, k1.out, k2.out⟩
        case measure => simp [intOf]; omega
    · obtain rfl : j = l.length := by omega
      rw [Nat.sub_self, List.replicate_zero, List.append_nil, List.take_length] at hN
      have hb1 := HB.out.fr hfr (fun e => e)
      have hc1 := hb1.cell 0
      simp at hc1
      have HO := Lib.hid hN
      have hcf := HF.out.1
      have H0 := Lib.hid (HF.out.2 (.slice (some ⟨r, 0, none⟩) l.length l.length) (l.map Cl.num) wr hN.vs (by rw [List.length_map]; exact hl) HX.out)
      clear hN hb1
      go_wp2_with fail
      refine H0.out.mono ?_
      rintro e w5 ⟨u, rfl, hown5, hf5⟩
      have hfr5 := hfr.trans hf5
      go_wp2
      go_ret
      exact ⟨_, rfl, hown5.mono (by have := HS.out; have := hfr.size; omega), hfr5⟩

set_option maxHeartbeats 4000000 in
/-- the get of a way: F gets them -/
theorem cget_num (k : Nat) (F : Nat) (hF : GetNum k F) (g : Nat) (v : Value) (b : List UInt8) (n : Nat) (w : World) (hb : Blk w g 145 #[.func (.func F) #[] #[]]) (hv : Bs w v b) (hvl : ∀ q, v.ownBlock = some q → q < w.heap.size) (hl : b.length ≤ 100000) (hn : n ≤ 4096) :
    Calls Tryz.prog 147 #[v, .int .i64 n, ptr g] w fun e w' => Gtc w' w.heap.size ((numG k b n).map (List.map numC)) e ∧ Fr Non w w' := by
  have hcf := hF.1
  have H0 := Lib.hid (hF.2 v b n w hv hvl hl hn)
  have HG := Lib.hid (fun l (h : numG k b n = some l) => (numG_is h).2.1)
  have hc1 := hb.cell 0
  simp at hc1
  clear hb hF hv hvl
  go_enter Tryz.func147, Tryz.ntmps147
  go_wp2_with fail
  refine H0.out.mono ?_
  rintro e w1 ⟨hG, hf1⟩
  obtain ⟨u, l, ok, rfl, hu, hlen, ho⟩ : ∃ u l ok, e = .returned (.tuple #[u, .bool ok]) ∧ Vs iv w1 u l ∧ l.length ≤ 4096 ∧ numG k b n = (if ok = true then some l else none) := by
    rcases hG with ⟨h1, rfl⟩ | ⟨l, u, h1, rfl, hown⟩
    · exact ⟨_, [], false, rfl, Vs.nil_ _, by simp, h1⟩
    · exact ⟨u, l, true, rfl, hown.vs, by rw [HG.out l h1]; exact hn, h1⟩
  obtain ⟨A, c, rfl, hlc, hnn, hcell⟩ := hu
  have HC := Lib.hid hcell
  have HN := Lib.hid hnn
  have HO := Lib.hid ho
  clear hcell hnn ho H0 HG hG hc1
  go_wp2_with (at_make; refine wpList_mkC rfl _ _ rfl _ _ _ _ l.length rfl rfl rfl rfl (by omega) ?_; intro w2 hown2 hfr2)
  have hs1 := hf1.size
  have hfr3 := hf1.trans hfr2
  have HF2 := Lib.hid hfr2
  generalize hg : w1.heap.size = r at *
  have hgl := Nat.le_of_eq hg
  clear hg hfr2
  have HS := Lib.hid hs1
  go_loopw [24] (fun i wr => ∃ (j : Nat), j ≤ l.length ∧ i = .int .i64 j ∧ Oc wr r (.slice (some ⟨r, 0, none⟩) l.length l.length) ((l.take j).map numC ++ List.replicate (l.length - j) ⟨false, 0, []⟩) ∧ Fr Non w wr ∧ Fr Non w1 wr) (fun i _ => l.length - (intOf i).toNat)
  case atStart => exact ⟨0, Nat.zero_le _, rfl, hown2, hfr3, HF2.out⟩
  case round =>
    clear hown2 hfr3 HF2
    obtain ⟨j, hj, rfl, hN, hfr, hfr1⟩ := hrel
    by_cases hlt : j < l.length
    · cases A with
      | none => have := HN.out rfl; omega
      | some a =>
        have hct := (hfr1.cell (World.block_lt_of_cell? w1 _ (HC.out a rfl j hlt)) (fun e => e)).trans (HC.out a rfl j hlt)
        unfold iv at hct
        have hlj : ((l.take j).map numC).length = j := by rw [List.length_map, List.length_take]; omega
        have HL := Lib.hid (show l.length = ((l.take j).map numC ++ List.replicate (l.length - j) (⟨false, 0, []⟩ : Cl)).length by rw [List.length_append, hlj, List.length_replicate]; omega)
        have hat := rep_at ((l.take j).map numC) (l.length - j) (⟨false, 0, []⟩ : Cl) (by omega)
        have hset := rep_set ((l.take j).map numC) (l.length - j) (⟨false, 0, []⟩ : Cl) (numC l[j]) (by omega)
        rw [hlj] at hat hset
        have hmt : (l.take j).map numC ++ [numC l[j]] = (l.take (j + 1)).map numC := by rw [List.take_succ_eq_append_getElem hlt, List.map_append]; rfl
        rw [show l.length - j - 1 = l.length - (j + 1) by omega, hmt] at hset
        obtain ⟨e0, e1, e2⟩ := hN.el HL.out j _ hat
        have f0 := hN.frozen HL.out (j * 3 + 1)
        have hbk : r < wr.heap.size := (hN.lt r rfl).2
        have hO2 := hN.put1 HL.out j _ hat l[j]
        have hO2' : Oc (wr.setCell ⟨r, j * 3 + 1, none⟩ (iv l[j])) r (.slice (some ⟨r, 0, none⟩) l.length l.length) ((l.take (j + 1)).map numC ++ List.replicate (l.length - (j + 1)) ⟨false, 0, []⟩) := by
          rw [← hset]; exact hO2
        have HO2 := Lib.hid hO2'
        have hfr2 := Lib.hid (hfr.fresh ((Fr.refl (One r) wr).set1 (j * 3 + 1) (iv l[j])) (fun q e => by have h1 : q = r := e; have := HS.out; omega))
        have hfr12 := Lib.hid (hfr1.fresh ((Fr.refl (One r) wr).set1 (j * 3 + 1) (iv l[j])) (fun q e => by have h1 : q = r := e; omega))
        clear hN hat hset hlj hmt hO2 hO2'
        generalize l[j] = x at *
        go_wp2_with fail
        go_roundw
        case rel => exact ⟨j + 1, by omega, by go_num, HO2.out, hfr2.out, hfr12.out⟩
        case measure => simp [intOf]; omega
    · obtain rfl : j = l.length := by omega
      rw [Nat.sub_self, List.replicate_zero, List.append_nil, List.take_length] at hN
      go_wp2
      go_ret2
      refine ⟨?_, hfr⟩
      cases ok with
      | true => exact .inr ⟨l.map numC, _, by rw [HO.out]; rfl, rfl, hN.mono HS.out⟩
      | false => exact .inl ⟨by rw [HO.out]; rfl, _, _, rfl, hN.mono HS.out⟩
end Go.Proofs.YtheefloegbkflaaGreatDoor


namespace Go.Proofs.YtheefloegbkflaaGreatDoor
set_option linter.unusedVariables false
set_option linter.unusedSimpArgs false
set_option maxRecDepth 100000
open Go.RowKit

def OkTxt (l : List Tx) : Prop := ∀ x ∈ l, x.length ≤ 1000
theorem txt_small {l : List Tx} (h : OkTxt l) (hl : l.length ≤ 4096) : (plainB l).length < 137438953472 := by
  have h1 := plainB_bound h (by unfold two64; omega)
  have h2 := Nat.mul_le_mul hl (Nat.le_refl (1000 + 10))
  omega
/-- F puts texts in way k -/
def PutTxt (k F : Nat) : Prop := (∀ args W, (callFunc F args).run Tryz.prog W = .ok (.enter F args) W) ∧ ∀ (v : Value) (l : List Tx) (w : World), Vs sv w v l → l.length ≤ 4096 → OkTxt l →
    Calls Tryz.prog F #[v] w fun e w' => ∃ u, e = .returned u ∧ Own w' w.heap.size u (txtW k l) ∧ Fr Non w w'
def GetTxt (k F : Nat) : Prop := (∀ args W, (callFunc F args).run Tryz.prog W = .ok (.enter F args) W) ∧ ∀ (v : Value) (b : List UInt8) (n : Nat) (w : World), Bs w v b → (∀ q, v.ownBlock = some q → q < w.heap.size) → b.length ≤ 100000 → n ≤ 4096 →
    Calls Tryz.prog F #[v, .int .i64 n, .int .i64 40] w fun e w' => Gtx w' w.heap.size (txtG k b n) e ∧ Fr Non w w'
theorem putTxt5 : PutTxt 5 106 := ⟨Tryz.call106, fun v l w hv hl hx => plain_any v l w hv (by omega) (fun x h => by have := hx x h; omega) (txt_small hx hl)⟩
theorem putTxt6 : PutTxt 6 108 := ⟨Tryz.call108, fun v l w hv hl hx => xput_any v l w hv (by omega) (fun x h => by have := hx x h; omega)
  (txt_small (fun x h => hx x ((uniq_mem l x).1 h)) (by have := uniq_length l; omega))⟩
theorem getTxt5 : GetTxt 5 107 := ⟨Tryz.call107, fun v b n w hv _ hl hn => texts_any v b n 40 w hv (by omega) (by omega) (by omega)⟩
theorem getTxt6 : GetTxt 6 109 := ⟨Tryz.call109, fun v b n w hv hvl hl hn => xget_any v b n 40 w hv hvl (by omega) (by omega) (by omega) (by omega)⟩
theorem txtG_len {k : Nat} {b : List UInt8} {n : Nat} {l : List Tx} (h : txtG k b n = some l) : True ∧ l.length = n ∧ True := ⟨trivial, (txtG_is h).2, trivial⟩

theorem map_take_txt (l : List Cl) (k : Nat) (h : k < l.length) : (l.take (k + 1)).map Cl.txt = (l.take k).map Cl.txt ++ [l[k].txt] := by
  rw [List.take_succ_eq_append_getElem h, List.map_append]; rfl

set_option maxHeartbeats 4000000 in
/-- the put of a way: F puts them -/
theorem cput_txt (k : Nat) (F : Nat) (hF : PutTxt k F) (g : Nat) (v : Value) (l : List Cl) (w : World) (hb : Blk w g 147 #[.func (.func F) #[] #[]]) (hv : Cs w v l) (hl : l.length ≤ 4096) (hx : OkTxt (l.map Cl.txt)) :
    Calls Tryz.prog 159 #[v, ptr g] w fun e w' => ∃ u, e = .returned u ∧ Own w' w.heap.size u (txtW k (l.map Cl.txt)) ∧ Fr Non w w' := by
  obtain ⟨A, c, rfl, hlc, hn, hcell⟩ := hv
  have HC := Lib.hid hcell
  have HN := Lib.hid hn
  have HB := Lib.hid hb
  have HX := Lib.hid hx
  have HF := Lib.hid hF
  clear hcell hn hb hx hF
  go_enter Tryz.func159, Tryz.ntmps159
  go_wp2_with (at_make; refine wpList_mkfullG el_str (f := sv) ([] : Tx) rfl rfl _ _ rfl _ _ _ _ l.length rfl rfl rfl rfl (by omega) ?_; intro w2 hown2 hfr2)
  have hbl := HB.out.lt
  generalize hg : w.heap.size = r at *
  have hgl := Nat.le_of_eq hg
  have hgl2 := Nat.le_of_eq hg.symm
  clear hg
  have HS := Lib.hid hgl
  go_loopw [12] (fun i wr => ∃ (k : Nat), k ≤ l.length ∧ i = .int .i64 k ∧ Ow sv 9 wr r (.slice (some ⟨r, 0, none⟩) l.length l.length) ((l.take k).map Cl.txt ++ List.replicate (l.length - k) ([] : Tx)) ∧ Fr Non w wr) (fun i _ => l.length - (intOf i).toNat)
  case atStart => exact ⟨0, Nat.zero_le _, rfl, hown2, hfr2⟩
  case round =>
    clear hown2 hfr2
    obtain ⟨j, hj, rfl, hN, hfr⟩ := hrel
    by_cases hlt : j < l.length
    · cases A with
      | none => have := HN.out rfl; omega
      | some a =>
        obtain ⟨hc0, hc1, hc2⟩ := (hfr.at3 (HC.out a rfl j hlt)).lit
        have hlj : ((l.take j).map Cl.txt).length = j := by rw [List.length_map, List.length_take]; omega
        have HL := Lib.hid (show l.length = ((l.take j).map Cl.txt ++ List.replicate (l.length - j) ([] : Tx)).length by rw [List.length_append, hlj, List.length_replicate]; omega)
        have hat := rep_at ((l.take j).map Cl.txt) (l.length - j) ([] : Tx) (by omega)
        have hset := rep_set ((l.take j).map Cl.txt) (l.length - j) ([] : Tx) l[j].txt (by omega)
        rw [hlj] at hat hset
        rw [show l.length - j - 1 = l.length - (j + 1) by omega, ← map_take_txt l j hlt] at hset
        have hcb := hN.cell HL.out j _ hat
        have hfb := hN.frozen HL.out j
        unfold sv at hcb
        have hbk : r < wr.heap.size := (hN.lt r rfl).2
        have K1 := Lib.hid (show ∀ X : Obj, Ow sv 9 ((wr.setCell ⟨r, j, none⟩ (sv l[j].txt)).alloc X) r (.slice (some ⟨r, 0, none⟩) l.length l.length) ((l.take (j + 1)).map Cl.txt ++ List.replicate (l.length - (j + 1)) ([] : Tx)) ∧ Fr Non w ((wr.setCell ⟨r, j, none⟩ (sv l[j].txt)).alloc X) from fun X => by
          refine ⟨?_, ?_⟩
          · rw [← hset]; exact (hN.store HL.out j l[j].txt).alloc X
          · exact (hfr.fresh ((Fr.refl (One r) _).set1 j _) (fun q e => by have h1 : q = r := e; have := HS.out; omega)).alloc X)
        clear hN hat hset hlj
        generalize l[j] = x at *
        obtain ⟨xn, xi, xt⟩ := x
        obtain ⟨k1, k2⟩ := K1.out (.cells #[.bool xn, .int .i64 xi, .string ⟨xt.toArray⟩] 54)
        have k1 := Lib.hid k1
        have k2 := Lib.hid k2
        clear K1
        go_wp2_with fail
        go_roundw
        case rel => exact ⟨j + 1, by omega, by go_num, k1.out, k2.out⟩
        case measure => simp [intOf]; omega
    · obtain rfl : j = l.length := by omega
      rw [Nat.sub_self, List.replicate_zero, List.append_nil, List.take_length] at hN
      have hb1 := HB.out.fr hfr (fun e => e)
      have hc1 := hb1.cell 0
      simp at hc1
      have HO := Lib.hid hN
      have hcf := HF.out.1
      have H0 := Lib.hid (HF.out.2 (.slice (some ⟨r, 0, none⟩) l.length l.length) (l.map Cl.txt) wr hN.vs (by rw [List.length_map]; exact hl) HX.out)
      clear hN hb1
      go_wp2_with fail
      refine H0.out.mono ?_
      rintro e w5 ⟨u, rfl, hown5, hf5⟩
      have hfr5 := hfr.trans hf5
      go_wp2
      go_ret
      exact ⟨_, rfl, hown5.mono (by have := HS.out; have := hfr.size; omega), hfr5⟩

set_option maxHeartbeats 4000000 in
/-- the get of a way: F gets them -/
theorem cget_txt (k : Nat) (F : Nat) (hF : GetTxt k F) (g : Nat) (v : Value) (b : List UInt8) (n : Nat) (w : World) (hb : Blk w g 148 #[.func (.func F) #[] #[]]) (hv : Bs w v b) (hvl : ∀ q, v.ownBlock = some q → q < w.heap.size) (hl : b.length ≤ 100000) (hn : n ≤ 4096) :
    Calls Tryz.prog 160 #[v, .int .i64 n, ptr g] w fun e w' => Gtc w' w.heap.size ((txtG k b n).map (List.map txtC)) e ∧ Fr Non w w' := by
  have hcf := hF.1
  have H0 := Lib.hid (hF.2 v b n w hv hvl hl hn)
  have HG := Lib.hid (fun l (h : txtG k b n = some l) => (txtG_len h).2.1)
  have hc1 := hb.cell 0
  simp at hc1
  clear hb hF hv hvl
  go_enter Tryz.func160, Tryz.ntmps160
  go_wp2_with fail
  refine H0.out.mono ?_
  rintro e w1 ⟨hG, hf1⟩
  obtain ⟨u, l, ok, rfl, hu, hlen, ho⟩ : ∃ u l ok, e = .returned (.tuple #[u, .bool ok]) ∧ Vs sv w1 u l ∧ l.length ≤ 4096 ∧ txtG k b n = (if ok = true then some l else none) := by
    rcases hG with ⟨h1, rfl⟩ | ⟨l, u, h1, rfl, hown⟩
    · exact ⟨_, [], false, rfl, Vs.nil_ _, by simp, h1⟩
    · exact ⟨u, l, true, rfl, hown.vs, by rw [HG.out l h1]; exact hn, h1⟩
  obtain ⟨A, c, rfl, hlc, hnn, hcell⟩ := hu
  have HC := Lib.hid hcell
  have HN := Lib.hid hnn
  have HO := Lib.hid ho
  clear hcell hnn ho H0 HG hG hc1
  go_wp2_with (at_make; refine wpList_mkC rfl _ _ rfl _ _ _ _ l.length rfl rfl rfl rfl (by omega) ?_; intro w2 hown2 hfr2)
  have hs1 := hf1.size
  have hfr3 := hf1.trans hfr2
  have HF2 := Lib.hid hfr2
  generalize hg : w1.heap.size = r at *
  have hgl := Nat.le_of_eq hg
  clear hg hfr2
  have HS := Lib.hid hs1
  go_loopw [24] (fun i wr => ∃ (j : Nat), j ≤ l.length ∧ i = .int .i64 j ∧ Oc wr r (.slice (some ⟨r, 0, none⟩) l.length l.length) ((l.take j).map txtC ++ List.replicate (l.length - j) ⟨false, 0, []⟩) ∧ Fr Non w wr ∧ Fr Non w1 wr) (fun i _ => l.length - (intOf i).toNat)
  case atStart => exact ⟨0, Nat.zero_le _, rfl, hown2, hfr3, HF2.out⟩
  case round =>
    clear hown2 hfr3 HF2
    obtain ⟨j, hj, rfl, hN, hfr, hfr1⟩ := hrel
    by_cases hlt : j < l.length
    · cases A with
      | none => have := HN.out rfl; omega
      | some a =>
        have hct := (hfr1.cell (World.block_lt_of_cell? w1 _ (HC.out a rfl j hlt)) (fun e => e)).trans (HC.out a rfl j hlt)
        unfold sv at hct
        have hlj : ((l.take j).map txtC).length = j := by rw [List.length_map, List.length_take]; omega
        have HL := Lib.hid (show l.length = ((l.take j).map txtC ++ List.replicate (l.length - j) (⟨false, 0, []⟩ : Cl)).length by rw [List.length_append, hlj, List.length_replicate]; omega)
        have hat := rep_at ((l.take j).map txtC) (l.length - j) (⟨false, 0, []⟩ : Cl) (by omega)
        have hset := rep_set ((l.take j).map txtC) (l.length - j) (⟨false, 0, []⟩ : Cl) (txtC l[j]) (by omega)
        rw [hlj] at hat hset
        have hmt : (l.take j).map txtC ++ [txtC l[j]] = (l.take (j + 1)).map txtC := by rw [List.take_succ_eq_append_getElem hlt, List.map_append]; rfl
        rw [show l.length - j - 1 = l.length - (j + 1) by omega, hmt] at hset
        obtain ⟨e0, e1, e2⟩ := hN.el HL.out j _ hat
        have f0 := hN.frozen HL.out (j * 3 + 2)
        have hbk : r < wr.heap.size := (hN.lt r rfl).2
        have hO2 := hN.put2 HL.out j _ hat l[j]
        have hO2' : Oc (wr.setCell ⟨r, j * 3 + 2, none⟩ (sv l[j])) r (.slice (some ⟨r, 0, none⟩) l.length l.length) ((l.take (j + 1)).map txtC ++ List.replicate (l.length - (j + 1)) ⟨false, 0, []⟩) := by
          rw [← hset]; exact hO2
        have HO2 := Lib.hid hO2'
        have hfr2 := Lib.hid (hfr.fresh ((Fr.refl (One r) wr).set1 (j * 3 + 2) (sv l[j])) (fun q e => by have h1 : q = r := e; have := HS.out; omega))
        have hfr12 := Lib.hid (hfr1.fresh ((Fr.refl (One r) wr).set1 (j * 3 + 2) (sv l[j])) (fun q e => by have h1 : q = r := e; omega))
        clear hN hat hset hlj hmt hO2 hO2'
        generalize l[j] = x at *
        go_wp2_with fail
        go_roundw
        case rel => exact ⟨j + 1, by omega, by go_num, HO2.out, hfr2.out, hfr12.out⟩
        case measure => simp [intOf]; omega
    · obtain rfl : j = l.length := by omega
      rw [Nat.sub_self, List.replicate_zero, List.append_nil, List.take_length] at hN
      go_wp2
      go_ret2
      refine ⟨?_, hfr⟩
      cases ok with
      | true => exact .inr ⟨l.map txtC, _, by rw [HO.out]; rfl, rfl, hN.mono HS.out⟩
      | false => exact .inl ⟨by rw [HO.out]; rfl, _, _, rfl, hN.mono HS.out⟩
end Go.Proofs.YtheefloegbkflaaGreatDoor


namespace Go.Proofs.YtheefloegbkflaaGreatDoor
set_option linter.unusedVariables false
set_option linter.unusedSimpArgs false
set_option maxRecDepth 100000
open Go.RowKit

/-- cells that may be put -/
def OkL (l : List Cl) : Prop := ∀ c ∈ l, I64 c.num ∧ c.txt.length ≤ 1000
/-- a way: what it puts and gets, in every world that has kept what stood -/
def Way (w : World) (k : Nat) (vp vg : Value) : Prop :=
  ∃ Fp Fg gp gg, vp = .func (.func Fp) #[] #[ptr gp] ∧ vg = .func (.func Fg) #[] #[ptr gg] ∧
    (∀ args W, (callFunc Fp args).run Tryz.prog W = .ok (.enter Fp args) W) ∧ (∀ args W, (callFunc Fg args).run Tryz.prog W = .ok (.enter Fg args) W) ∧
    (∀ W v l, Fr Non w W → Cs W v l → l.length ≤ 4096 → OkL l → Calls Tryz.prog Fp #[v, ptr gp] W fun e w' => ∃ u, e = .returned u ∧ Own w' W.heap.size u (wayB k l) ∧ Fr Non W w') ∧
    (∀ W v b (n : Nat), Fr Non w W → Bs W v b → (∀ q, v.ownBlock = some q → q < W.heap.size) → b.length ≤ 100000 → n ≤ 4096 → Calls Tryz.prog Fg #[v, .int .i64 n, ptr gg] W fun e w' => Gtc w' W.heap.size (wayG k b n) e ∧ Fr Non W w')
theorem Way.fr {w w' : World} {k : Nat} {vp vg : Value} (h : Way w k vp vg) (hf : Fr Non w w') : Way w' k vp vg := by
  obtain ⟨Fp, Fg, gp, gg, h1, h2, h3, h4, h5, h6⟩ := h
  exact ⟨Fp, Fg, gp, gg, h1, h2, h3, h4, fun W v l hW => h5 W v l (hf.trans hW), fun W v b n hW => h6 W v b n (hf.trans hW)⟩
theorem way_num {w : World} {k F G gp gg : Nat} (hk : k ≤ 4) (hF : PutNum k F) (hG : GetNum k G) (hp : Blk w gp 144 #[.func (.func F) #[] #[]]) (hg : Blk w gg 145 #[.func (.func G) #[] #[]]) :
    Way w k (.func (.func 146) #[] #[ptr gp]) (.func (.func 147) #[] #[ptr gg]) := by
  refine ⟨_, _, gp, gg, rfl, rfl, Tryz.call146, Tryz.call147, fun W v l hW hv hl hx => ?_, fun W v b n hW hv hvl hl hn => ?_⟩
  · have := cput_num k F hF gp v l W (hp.fr hW (fun e => e)) hv hl (fun x hx' => by obtain ⟨c, hc, rfl⟩ := List.mem_map.1 hx'; exact (hx c hc).1)
    unfold wayB; rw [if_pos hk]; exact this
  · have := cget_num k G hG gg v b n W (hg.fr hW (fun e => e)) hv hvl hl hn
    unfold wayG; rw [if_pos hk]; exact this
theorem way_txt {w : World} {k F G gp gg : Nat} (hk : ¬ k ≤ 4) (hF : PutTxt k F) (hG : GetTxt k G) (hp : Blk w gp 147 #[.func (.func F) #[] #[]]) (hg : Blk w gg 148 #[.func (.func G) #[] #[]]) :
    Way w k (.func (.func 159) #[] #[ptr gp]) (.func (.func 160) #[] #[ptr gg]) := by
  refine ⟨_, _, gp, gg, rfl, rfl, Tryz.call159, Tryz.call160, fun W v l hW hv hl hx => ?_, fun W v b n hW hv hvl hl hn => ?_⟩
  · have := cput_txt k F hF gp v l W (hp.fr hW (fun e => e)) hv hl (fun x hx' => by obtain ⟨c, hc, rfl⟩ := List.mem_map.1 hx'; exact (hx c hc).2)
    unfold wayB; rw [if_neg hk]; exact this
  · have := cget_txt k G hG gg v b n W (hg.fr hW (fun e => e)) hv hvl hl hn
    unfold wayG; rw [if_neg hk]; exact this

/-- a call's end where its one result is a way in a block -/
theorem ret_way {fn : Func} {p : Tmp} (h : fn.results = #[.cell p 142]) (tmps : Array Value) (w : World) (g : Nat) (a b c : Value)
    (hp : tmps.getD p undef = .pointer (some ⟨g, 0, none⟩)) (hg : Blk w g 142 #[a, b, c]) : (results fn tmps).run Tryz.prog w = .ok (.agg #[a, b, c]) w :=
  results_cell_row h tmps w g 142 _ (0, 0) _ hp hg Tryz.underlying142 rfl (by kernel_rfl)

set_option maxHeartbeats 1000000 in
theorem ofNum_any (k F G : Nat) (hk : k ≤ 4) (hF : PutNum k F) (hG : GetNum k G) (w : World) :
    Calls Tryz.prog 96 #[.int .i64 k, .func (.func F) #[] #[], .func (.func G) #[] #[]] w fun e w' => ∃ vp vg, e = .returned (.agg #[.int .i64 k, vp, vg]) ∧ Way w' k vp vg ∧ Fr Non w w' := by
  have hmf : ∀ (fn : Fn) (first cap : Array Value) (w : World), (Instr.makeFunc fn first cap).run Tryz.prog w = .ok (.func fn first cap) w := fun _ _ _ _ => rfl
  have HK := Lib.hid hk
  clear hk
  have e1 : (w.alloc (.cells #[.func (.func F) #[] #[]] 144)).heap.size = w.heap.size + 1 := by simp
  have e2 : ((w.alloc (.cells #[.func (.func F) #[] #[]] 144)).alloc (.cells #[.func (.func G) #[] #[]] 145)).heap.size = w.heap.size + 1 + 1 := by simp
  have b1 := ((Blk.new w 144 #[.func (.func F) #[] #[]]).fr (((Fr.refl Non _).alloc (.cells #[.func (.func G) #[] #[]] 145)).alloc (.cells #[.int .i64 k, .func (.func 146) #[] #[ptr w.heap.size], .func (.func 147) #[] #[ptr (w.heap.size + 1)]] 142)) (fun e => e))
  have b2 := ((Blk.new (w.alloc (.cells #[.func (.func F) #[] #[]] 144)) 145 #[.func (.func G) #[] #[]]).fr ((Fr.refl Non _).alloc (.cells #[.int .i64 k, .func (.func 146) #[] #[ptr w.heap.size], .func (.func 147) #[] #[ptr (w.heap.size + 1)]] 142)) (fun e => e))
  have b3 := Blk.new ((w.alloc (.cells #[.func (.func F) #[] #[]] 144)).alloc (.cells #[.func (.func G) #[] #[]] 145)) 142 #[.int .i64 k, .func (.func 146) #[] #[ptr w.heap.size], .func (.func 147) #[] #[ptr (w.heap.size + 1)]]
  rw [e1] at b2
  rw [e2] at b3
  have W0 := way_num HK.out hF hG b1 b2
  have HW := Lib.hid W0
  have HB := Lib.hid b3
  clear b1 b2 b3 W0 e1 e2 hF hG
  go_enter Tryz.func96, Tryz.ntmps96
  go_wp2
  exact bodyPost_ret (v := .agg #[.int .i64 k, .func (.func 146) #[] #[ptr w.heap.size], .func (.func 147) #[] #[ptr (w.heap.size + 1)]]) (ret_way (p := 6) rfl _ _ (w.heap.size + 1 + 1) _ _ _ rfl HB.out) rfl ⟨_, _, rfl, HW.out, (((Fr.refl _ _).alloc _).alloc _).alloc _⟩
set_option maxHeartbeats 1000000 in
theorem ofTxt_any (k F G : Nat) (hk : ¬ k ≤ 4) (hF : PutTxt k F) (hG : GetTxt k G) (w : World) :
    Calls Tryz.prog 105 #[.int .i64 k, .func (.func F) #[] #[], .func (.func G) #[] #[]] w fun e w' => ∃ vp vg, e = .returned (.agg #[.int .i64 k, vp, vg]) ∧ Way w' k vp vg ∧ Fr Non w w' := by
  have hmf : ∀ (fn : Fn) (first cap : Array Value) (w : World), (Instr.makeFunc fn first cap).run Tryz.prog w = .ok (.func fn first cap) w := fun _ _ _ _ => rfl
  have HK := Lib.hid hk
  clear hk
  have e1 : (w.alloc (.cells #[.func (.func F) #[] #[]] 147)).heap.size = w.heap.size + 1 := by simp
  have e2 : ((w.alloc (.cells #[.func (.func F) #[] #[]] 147)).alloc (.cells #[.func (.func G) #[] #[]] 148)).heap.size = w.heap.size + 1 + 1 := by simp
  have b1 := ((Blk.new w 147 #[.func (.func F) #[] #[]]).fr (((Fr.refl Non _).alloc (.cells #[.func (.func G) #[] #[]] 148)).alloc (.cells #[.int .i64 k, .func (.func 159) #[] #[ptr w.heap.size], .func (.func 160) #[] #[ptr (w.heap.size + 1)]] 142)) (fun e => e))
  have b2 := ((Blk.new (w.alloc (.cells #[.func (.func F) #[] #[]] 147)) 148 #[.func (.func G) #[] #[]]).fr ((Fr.refl Non _).alloc (.cells #[.int .i64 k, .func (.func 159) #[] #[ptr w.heap.size], .func (.func 160) #[] #[ptr (w.heap.size + 1)]] 142)) (fun e => e))
  have b3 := Blk.new ((w.alloc (.cells #[.func (.func F) #[] #[]] 147)).alloc (.cells #[.func (.func G) #[] #[]] 148)) 142 #[.int .i64 k, .func (.func 159) #[] #[ptr w.heap.size], .func (.func 160) #[] #[ptr (w.heap.size + 1)]]
  rw [e1] at b2
  rw [e2] at b3
  have W0 := way_txt HK.out hF hG b1 b2
  have HW := Lib.hid W0
  have HB := Lib.hid b3
  clear b1 b2 b3 W0 e1 e2 hF hG
  go_enter Tryz.func105, Tryz.ntmps105
  go_wp2
  exact bodyPost_ret (v := .agg #[.int .i64 k, .func (.func 159) #[] #[ptr w.heap.size], .func (.func 160) #[] #[ptr (w.heap.size + 1)]]) (ret_way (p := 6) rfl _ _ (w.heap.size + 1 + 1) _ _ _ rfl HB.out) rfl ⟨_, _, rfl, HW.out, (((Fr.refl _ _).alloc _).alloc _).alloc _⟩

/-- a slice of ways -/
def Ws (w : World) (v : Value) (ks : List Nat) : Prop :=
  (v = .slice none 0 0 ∧ ks = []) ∨ ∃ g, v = .slice (some ⟨g, 0, none⟩) ks.length ks.length ∧ ∀ j (h : j < ks.length), ∃ vp vg,
    w.cell? ⟨g, j * 3, none⟩ = some (.int .i64 (ks[j] : Nat)) ∧ w.cell? ⟨g, j * 3 + 1, none⟩ = some vp ∧ w.cell? ⟨g, j * 3 + 2, none⟩ = some vg ∧ Way w ks[j] vp vg
theorem Ws.fr {w w' : World} {v : Value} {ks : List Nat} (h : Ws w v ks) (hf : Fr Non w w') : Ws w' v ks := by
  rcases h with h | ⟨g, h1, h2⟩
  · exact .inl h
  · refine .inr ⟨g, h1, fun j hj => ?_⟩
    obtain ⟨vp, vg, c0, c1, c2, c3⟩ := h2 j hj
    exact ⟨vp, vg, (hf.cell (World.block_lt_of_cell? w _ c0) (fun e => e)).trans c0, (hf.cell (World.block_lt_of_cell? w _ c1) (fun e => e)).trans c1, (hf.cell (World.block_lt_of_cell? w _ c2) (fun e => e)).trans c2, c3.fr hf⟩

set_option maxHeartbeats 4000000 in
theorem ways_any (ty : Int) (w : World) : Calls Tryz.prog 57 #[.int .i64 ty] w fun e w' => ∃ v, e = .returned v ∧ Ws w' v (waysOf ty) ∧ Fr Non w w' := by
  have n1 := Lib.hid (show ∀ W, Calls Tryz.prog 96 #[.int .i64 1, .func (.func 97) #[] #[], .func (.func 98) #[] #[]] W fun e w' => ∃ vp vg, e = .returned (.agg #[.int .i64 1, vp, vg]) ∧ Way w' 1 vp vg ∧ Fr Non W w' from fun W => ofNum_any 1 _ _ (by omega) putNum1 getNum1 W)
  have n2 := Lib.hid (show ∀ W, Calls Tryz.prog 96 #[.int .i64 2, .func (.func 99) #[] #[], .func (.func 100) #[] #[]] W fun e w' => ∃ vp vg, e = .returned (.agg #[.int .i64 2, vp, vg]) ∧ Way w' 2 vp vg ∧ Fr Non W w' from fun W => ofNum_any 2 _ _ (by omega) putNum2 getNum2 W)
  have n3 := Lib.hid (show ∀ W, Calls Tryz.prog 96 #[.int .i64 3, .func (.func 101) #[] #[], .func (.func 102) #[] #[]] W fun e w' => ∃ vp vg, e = .returned (.agg #[.int .i64 3, vp, vg]) ∧ Way w' 3 vp vg ∧ Fr Non W w' from fun W => ofNum_any 3 _ _ (by omega) putNum3 getNum3 W)
  have n4 := Lib.hid (show ∀ W, Calls Tryz.prog 96 #[.int .i64 4, .func (.func 103) #[] #[], .func (.func 104) #[] #[]] W fun e w' => ∃ vp vg, e = .returned (.agg #[.int .i64 4, vp, vg]) ∧ Way w' 4 vp vg ∧ Fr Non W w' from fun W => ofNum_any 4 _ _ (by omega) putNum4 getNum4 W)
  have n5 := Lib.hid (show ∀ W, Calls Tryz.prog 105 #[.int .i64 5, .func (.func 106) #[] #[], .func (.func 107) #[] #[]] W fun e w' => ∃ vp vg, e = .returned (.agg #[.int .i64 5, vp, vg]) ∧ Way w' 5 vp vg ∧ Fr Non W w' from fun W => ofTxt_any 5 _ _ (by omega) putTxt5 getTxt5 W)
  have n6 := Lib.hid (show ∀ W, Calls Tryz.prog 105 #[.int .i64 6, .func (.func 108) #[] #[], .func (.func 109) #[] #[]] W fun e w' => ∃ vp vg, e = .returned (.agg #[.int .i64 6, vp, vg]) ∧ Way w' 6 vp vg ∧ Fr Non W w' from fun W => ofTxt_any 6 _ _ (by omega) putTxt6 getTxt6 W)
  by_cases h12 : ty = 1 ∨ ty = 2
  · rcases h12 with rfl | rfl
    · go_enter Tryz.func57, Tryz.ntmps57
      go_wp2_with fail
      refine (n1.out _).mono ?_
      rintro e w1 ⟨p1, g1, rfl, W1, f1⟩
      have H1 := Lib.hid W1
      have F1 := Lib.hid f1
      clear W1 f1
      go_wp2_with fail
      refine (n2.out _).mono ?_
      rintro e w2 ⟨p2, g2, rfl, W2, f2⟩
      have H2 := Lib.hid W2
      have F2 := Lib.hid f2
      clear W2 f2
      go_wp2_with fail
      refine (n3.out _).mono ?_
      rintro e w3 ⟨p3, g3, rfl, W3, f3⟩
      have H3 := Lib.hid W3
      have F3 := Lib.hid f3
      clear W3 f3
      go_wp2_with fail
      refine (n4.out _).mono ?_
      rintro e w4 ⟨p4, g4, rfl, W4, f4⟩
      have H4 := Lib.hid W4
      have F4 := Lib.hid f4
      clear W4 f4
      go_wp2_with fail
      go_ret
      have B := Blk.new w4 142 #[.int .i64 1, p1, g1, .int .i64 2, p2, g2, .int .i64 3, p3, g3, .int .i64 4, p4, g4]
      have A1 := (Fr.refl Non w4).alloc (.cells #[.int .i64 1, p1, g1, .int .i64 2, p2, g2, .int .i64 3, p3, g3, .int .i64 4, p4, g4] 142)
      refine ⟨_, rfl, .inr ⟨w4.heap.size, rfl, fun j hj => ?_⟩, ((((F1.out).trans F2.out).trans F3.out).trans F4.out).alloc _⟩
      match j, hj with
      | 0, _ => exact ⟨p1, g1, B.cell 0, B.cell 1, B.cell 2, ((((H1.out).fr F2.out).fr F3.out).fr F4.out).fr A1⟩
      | 1, _ => exact ⟨p2, g2, B.cell 3, B.cell 4, B.cell 5, (((H2.out).fr F3.out).fr F4.out).fr A1⟩
      | 2, _ => exact ⟨p3, g3, B.cell 6, B.cell 7, B.cell 8, ((H3.out).fr F4.out).fr A1⟩
      | 3, _ => exact ⟨p4, g4, B.cell 9, B.cell 10, B.cell 11, (H4.out).fr A1⟩
      | j + 4, hj => simp [waysOf] at hj; omega
    · go_enter Tryz.func57, Tryz.ntmps57
      go_wp2_with fail
      refine (n1.out _).mono ?_
      rintro e w1 ⟨p1, g1, rfl, W1, f1⟩
      have H1 := Lib.hid W1
      have F1 := Lib.hid f1
      clear W1 f1
      go_wp2_with fail
      refine (n2.out _).mono ?_
      rintro e w2 ⟨p2, g2, rfl, W2, f2⟩
      have H2 := Lib.hid W2
      have F2 := Lib.hid f2
      clear W2 f2
      go_wp2_with fail
      refine (n3.out _).mono ?_
      rintro e w3 ⟨p3, g3, rfl, W3, f3⟩
      have H3 := Lib.hid W3
      have F3 := Lib.hid f3
      clear W3 f3
      go_wp2_with fail
      refine (n4.out _).mono ?_
      rintro e w4 ⟨p4, g4, rfl, W4, f4⟩
      have H4 := Lib.hid W4
      have F4 := Lib.hid f4
      clear W4 f4
      go_wp2_with fail
      go_ret
      have B := Blk.new w4 142 #[.int .i64 1, p1, g1, .int .i64 2, p2, g2, .int .i64 3, p3, g3, .int .i64 4, p4, g4]
      have A1 := (Fr.refl Non w4).alloc (.cells #[.int .i64 1, p1, g1, .int .i64 2, p2, g2, .int .i64 3, p3, g3, .int .i64 4, p4, g4] 142)
      refine ⟨_, rfl, .inr ⟨w4.heap.size, rfl, fun j hj => ?_⟩, ((((F1.out).trans F2.out).trans F3.out).trans F4.out).alloc _⟩
      match j, hj with
      | 0, _ => exact ⟨p1, g1, B.cell 0, B.cell 1, B.cell 2, ((((H1.out).fr F2.out).fr F3.out).fr F4.out).fr A1⟩
      | 1, _ => exact ⟨p2, g2, B.cell 3, B.cell 4, B.cell 5, (((H2.out).fr F3.out).fr F4.out).fr A1⟩
      | 2, _ => exact ⟨p3, g3, B.cell 6, B.cell 7, B.cell 8, ((H3.out).fr F4.out).fr A1⟩
      | 3, _ => exact ⟨p4, g4, B.cell 9, B.cell 10, B.cell 11, (H4.out).fr A1⟩
      | j + 4, hj => simp [waysOf] at hj; omega
  · by_cases h3 : ty = 3
    · subst h3
      go_enter Tryz.func57, Tryz.ntmps57
      go_wp2_with fail
      refine (n5.out _).mono ?_
      rintro e w5 ⟨p5, g5, rfl, W5, f5⟩
      have H5 := Lib.hid W5
      have F5 := Lib.hid f5
      clear W5 f5
      go_wp2_with fail
      refine (n6.out _).mono ?_
      rintro e w6 ⟨p6, g6, rfl, W6, f6⟩
      have H6 := Lib.hid W6
      have F6 := Lib.hid f6
      clear W6 f6
      go_wp2_with fail
      go_ret
      have B := Blk.new w6 142 #[.int .i64 5, p5, g5, .int .i64 6, p6, g6]
      have A1 := (Fr.refl Non w6).alloc (.cells #[.int .i64 5, p5, g5, .int .i64 6, p6, g6] 142)
      refine ⟨_, rfl, .inr ⟨w6.heap.size, rfl, fun j hj => ?_⟩, ((F5.out).trans F6.out).alloc _⟩
      match j, hj with
      | 0, _ => exact ⟨p5, g5, B.cell 0, B.cell 1, B.cell 2, ((H5.out).fr F6.out).fr A1⟩
      | 1, _ => exact ⟨p6, g6, B.cell 3, B.cell 4, B.cell 5, (H6.out).fr A1⟩
      | j + 2, hj => simp [waysOf] at hj; omega
    · have HW := Lib.hid (waysOf_no (ty := ty) (by omega) (by omega) h3)
      have hd : (ty == 1) = false := by simp; omega
      have hd2 : (ty == 2) = false := by simp; omega
      have hd3 : (ty == 3) = false := by simp; omega
      clear h12 h3
      go_enter Tryz.func57, Tryz.ntmps57
      go_wp2_with fail
      go_ret
      exact ⟨_, rfl, by rw [HW.out]; exact .inl ⟨rfl, rfl⟩, Fr.refl _ _⟩
end Go.Proofs.YtheefloegbkflaaGreatDoor


namespace Go.Proofs.YtheefloegbkflaaGreatDoor
set_option linter.unusedVariables false
set_option linter.unusedSimpArgs false
set_option maxRecDepth 100000
open Go.RowKit

theorem shortC_drop (l : List Cl) (ks : List Nat) (j : Nat) (h : j < ks.length) (n : Nat) (b : List UInt8) :
    shortC l (ks.drop j) (n, b) = shortC l (ks.drop (j + 1)) (if n = 0 ∨ (wayB ks[j] l).length < b.length then (ks[j], wayB ks[j] l) else (n, b)) := by
  rw [List.drop_eq_getElem_cons h, shortC]

set_option maxHeartbeats 4000000 in
theorem shortest_any (v v2 : Value) (ks : List Nat) (l : List Cl) (w : World) (hv : Ws w v ks) (h2 : Cs w v2 l) (hks : ks.length ≤ 100) (hk1 : ∀ k ∈ ks, k ≤ 100) (hl : l.length ≤ 4096) (hx : OkL l) :
    Calls Tryz.prog 56 #[v, v2] w fun e w' => ∃ u, e = .returned (.tuple #[.int .i64 ((shortC l ks (0, [])).1 : Nat), u]) ∧ Own w' w.heap.size u (shortC l ks (0, [])).2 ∧ Fr Non w w' := by
  have HV := Lib.hid hv
  have H2 := Lib.hid h2
  have HX := Lib.hid hx
  have HK := Lib.hid hk1
  obtain ⟨A, hA⟩ : ∃ A, v = .slice A ks.length ks.length := by
    rcases hv with ⟨rfl, rfl⟩ | ⟨g, rfl, _⟩
    · exact ⟨none, rfl⟩
    · exact ⟨_, rfl⟩
  subst hA
  clear hv h2 hx hk1
  go_enter Tryz.func56, Tryz.ntmps56
  go_wp2
  go_loopw [6, 7, 13] (fun m b i wr => ∃ (j N : Nat) (Bt : List UInt8), j ≤ ks.length ∧ i = .int .i64 j ∧ m = .int .i64 N ∧ N ≤ 100 ∧ shortC l ks (0, []) = shortC l (ks.drop j) (N, Bt) ∧ Own wr w.heap.size b Bt ∧ Fr Non w wr) (fun _ _ i _ => ks.length - (intOf i).toNat)
  case atStart => exact ⟨0, 0, [], Nat.zero_le _, rfl, rfl, by omega, rfl, own_nil _ _, Fr.refl _ _⟩
  case round =>
    obtain ⟨j, N, Bt, hj, rfl, rfl, hN, hS, hown, hfr⟩ := hrel
    have HS := Lib.hid hS
    have HO := Lib.hid hown
    obtain ⟨Ab, cb, hub⟩ := hown.bs.shape
    subst hub
    clear hS hown
    by_cases hlt : j < ks.length
    · rcases HV.out with ⟨_, h0⟩ | ⟨g, he, hway⟩
      · rw [h0] at hlt; exact absurd hlt (by simp)
      · simp only [Value.slice.injEq] at he
        obtain ⟨rfl, _⟩ := he
        obtain ⟨vp, vg, c0, c1, c2, hw⟩ := hway j hlt
        have b0 := World.block_lt_of_cell? w _ c0
        have d0 := (hfr.cell b0 (fun e => e)).trans c0
        have d1 := (hfr.cell (World.block_lt_of_cell? w _ c1) (fun e => e)).trans c1
        have d2 := (hfr.cell (World.block_lt_of_cell? w _ c2) (fun e => e)).trans c2
        clear c0 c1 c2 b0 hway
        have HD := Lib.hid (shortC_drop l ks j hlt N Bt)
        have hkk := HK.out ks[j] (List.getElem_mem hlt)
        have hwr := hw.fr hfr
        clear hw
        generalize ks[j] = k at *
        obtain ⟨Fp, Fg, gp, gg, rfl, rfl, hcf, hcg, hput, hget⟩ := hwr
        have HP := Lib.hid hput
        clear hput hget hcg
        go_wp2_with fail
        have hW := (Fr.refl Non wr).alloc (.cells #[.int .i64 k, .func (.func Fp) #[] #[ptr gp], .func (.func Fg) #[] #[ptr gg]] 142)
        refine (HP.out _ v2 l hW (H2.out.non (hfr.trans hW)) hl HX.out).mono ?_
        rintro e w5 ⟨v5, rfl, hown5, hf5⟩
        have hb5 := (Blk.new wr 142 #[.int .i64 k, .func (.func Fp) #[] #[ptr gp], .func (.func Fg) #[] #[ptr gg]]).fr hf5 (fun e => e)
        have d3 := hb5.cell 0
        simp at d3
        have hfr5 := (hfr.trans hW).trans hf5
        have HF5 := Lib.hid hfr5
        have HO1 := Lib.hid (HO.out.non (hW.trans hf5))
        obtain ⟨A5, c5, rfl⟩ := hown5.bs.shape
        have HO5 := Lib.hid (hown5.mono (hfr.trans hW).size)
        clear hown5 hf5 hb5 hfr5 hW HO HP hcf d0 d1 d2 hfr
        generalize wayB k l = y at *
        by_cases h0 : N = 0
        · subst h0
          have hD := HD.out
          rw [if_pos (.inl rfl)] at hD
          have HD2 := Lib.hid (HS.out.trans hD)
          clear hD HD HS
          go_wp2_with fail
          go_roundw
          case rel => exact ⟨j + 1, k, y, by omega, by go_num, rfl, hkk, HD2.out, HO5.out, HF5.out⟩
          case measure => simp [intOf]; omega
        · have e0 : ((N : Int) == 0) = false := by simpa using h0
          by_cases hc : y.length < Bt.length
          · have hD := HD.out
            rw [if_pos (.inr hc)] at hD
            have HD2 := Lib.hid (HS.out.trans hD)
            have e1 : decide (y.length < Bt.length) = true := by simpa using hc
            clear hD HD HS hc h0
            go_wp2_with fail
            go_roundw
            case rel => exact ⟨j + 1, k, y, by omega, by go_num, rfl, hkk, HD2.out, HO5.out, HF5.out⟩
            case measure => simp [intOf]; omega
          · have hD := HD.out
            rw [if_neg (by omega)] at hD
            have HD2 := Lib.hid (HS.out.trans hD)
            have e1 : decide (y.length < Bt.length) = false := by simpa using hc
            clear hD HD HS hc h0
            go_wp2_with fail
            go_roundw
            case rel => exact ⟨j + 1, N, Bt, by omega, by go_num, rfl, hN, HD2.out, HO1.out, HF5.out⟩
            case measure => simp [intOf]; omega
    · obtain rfl : j = ks.length := by omega
      have hS := HS.out
      rw [List.drop_length] at hS
      have HS2 := Lib.hid hS
      clear hS
      go_wp2
      go_ret2
      exact ⟨.slice Ab Bt.length cb, by rw [HS2.out]; rfl, by rw [HS2.out]; exact HO.out, hfr⟩

theorem Gtc.mono {w : World} {B B' : Nat} {o : Option (List Cl)} {e : Ending} (h : Gtc w B o e) (hB : B' ≤ B) : Gtc w B' o e := by
  rcases h with ⟨h1, u, l, h2, h3⟩ | ⟨l, u, h1, h2, h3⟩
  · exact .inl ⟨h1, u, l, h2, h3.mono hB⟩
  · exact .inr ⟨l, u, h1, h2, h3.mono hB⟩
theorem waysOf_len (ty : Int) : (waysOf ty).length ≤ 4 := by
  unfold waysOf
  split
  · simp
  · split <;> simp
theorem notin_take_succ {l : List Nat} {j k : Nat} (h : j < l.length) (hn : k ∉ l.take j) (hk : l[j] ≠ k) : k ∉ l.take (j + 1) := by
  rw [List.take_succ_eq_append_getElem h]
  intro hm
  rcases List.mem_append.1 hm with h | h
  · exact hn h
  · simp at h; exact hk h.symm

set_option maxHeartbeats 4000000 in
theorem read_any (ty : Int) (k : Nat) (v : Value) (b : List UInt8) (n : Nat) (w : World) (hv : Bs w v b) (hvl : ∀ q, v.ownBlock = some q → q < w.heap.size) (hl : b.length ≤ 100000) (hn : n ≤ 4096) :
    Calls Tryz.prog 86 #[.int .i64 ty, .int .i64 k, v, .int .i64 n] w fun e w' => Gtc w' w.heap.size (readC ty k b n) e ∧ Fr Non w w' := by
  have HB := Lib.hid hv
  have HL := Lib.hid hvl
  have H0 := Lib.hid (ways_any ty w)
  clear hv hvl
  go_enter Tryz.func86, Tryz.ntmps86
  go_wp2_with fail
  refine H0.out.mono ?_
  rintro e w1 ⟨vs, rfl, hw1, hf1⟩
  have hlen := waysOf_len ty
  have HR := Lib.hid (fun h => readC_no (ty := ty) (k := k) (n := n) (b := b) h)
  have HY := Lib.hid (fun (h1 : k ∈ waysOf ty) (l : List Cl) h2 h3 => readC_yes (ty := ty) (k := k) (n := n) (b := b) (l := l) h1 h2 h3)
  generalize hks : waysOf ty = ks at *
  have HV := Lib.hid hw1
  have HF1 := Lib.hid hf1
  obtain ⟨A, hA⟩ : ∃ A, vs = .slice A ks.length ks.length := by
    rcases hw1 with ⟨rfl, rfl⟩ | ⟨g, rfl, _⟩
    · exact ⟨none, rfl⟩
    · exact ⟨_, rfl⟩
  subst hA
  clear hw1 hf1 hks H0
  go_wp2
  go_loopw [17] (fun i wr => ∃ (j : Nat), j ≤ ks.length ∧ i = .int .i64 j ∧ k ∉ ks.take j ∧ Fr Non w1 wr) (fun i _ => ks.length - (intOf i).toNat)
  case atStart => exact ⟨0, Nat.zero_le _, rfl, by simp, Fr.refl _ _⟩
  case round =>
    obtain ⟨j, hj, rfl, hnot, hfr⟩ := hrel
    have HN := Lib.hid hnot
    clear hnot
    by_cases hlt : j < ks.length
    · rcases HV.out with ⟨_, h0⟩ | ⟨g, he, hway⟩
      · rw [h0] at hlt; exact absurd hlt (by simp)
      · simp only [Value.slice.injEq] at he
        obtain ⟨rfl, _⟩ := he
        obtain ⟨vp, vg, c0, c1, c2, hw⟩ := hway j hlt
        have b0 := World.block_lt_of_cell? w1 _ c0
        have d0 := (hfr.cell b0 (fun e => e)).trans c0
        have d1 := (hfr.cell (World.block_lt_of_cell? w1 _ c1) (fun e => e)).trans c1
        have d2 := (hfr.cell (World.block_lt_of_cell? w1 _ c2) (fun e => e)).trans c2
        clear c0 c1 c2 b0 hway
        have HM := Lib.hid (List.getElem_mem hlt)
        have HT := Lib.hid (fun h => notin_take_succ hlt HN.out h)
        have hwr := hw.fr hfr
        clear hw
        generalize ks[j] = m at *
        obtain ⟨Fp, Fg, gp, gg, rfl, rfl, hcf, hcg, hput, hget⟩ := hwr
        have HG := Lib.hid hget
        clear hput hget hcf
        have hW := (Fr.refl Non wr).alloc (.cells #[.int .i64 m, .func (.func Fp) #[] #[ptr gp], .func (.func Fg) #[] #[ptr gg]] 142)
        have HW := Lib.hid hW
        clear hW
        by_cases hm : m = k
        · subst hm
          clear HT HN
          go_wp2_with fail
          refine (HG.out _ v b n HW.out (HB.out.non ((HF1.out.trans hfr).trans HW.out)) (fun q hq => Nat.lt_of_lt_of_le (HL.out q hq) ((HF1.out.trans hfr).trans HW.out).size) hl hn).mono ?_
          rintro e w5 ⟨hG, hf5⟩
          have HF5 := Lib.hid (((HF1.out.trans hfr).trans HW.out).trans hf5)
          rcases (hG.mono (((HF1.out.trans hfr).trans HW.out).size)) with ⟨h1, u, l, rfl, h2⟩ | ⟨l, u, h1, rfl, h2⟩
          · have HE := Lib.hid (readC_none (ty := ty) h1)
            have HU := Lib.hid h2
            clear h1 h2 hG hf5
            go_wp2_with fail
            go_ret2
            exact ⟨.inl ⟨HE.out, _, _, rfl, HU.out⟩, HF5.out⟩
          · have hll := (wayG_is h1).2.1
            have HU := Lib.hid h2
            have HE := Lib.hid (HY.out HM.out l h1)
            have HE2 := Lib.hid (readC_bad (ty := ty) h1)
            have HC := Lib.hid (mayL_any ty false u l w5 h2.cs (by omega))
            clear h1 h2 hG hf5
            go_wp2_with fail
            refine HC.out.mono ?_
            rintro e w6 ⟨rfl, hf6⟩
            have HF6 := Lib.hid (HF5.out.trans hf6)
            have HU6 := Lib.hid (HU.out.non hf6)
            clear hf6
            cases ha : l.all (mayC ty false)
            · have HE3 := Lib.hid (HE2.out ha)
              go_wp2_with fail
              go_ret2
              exact ⟨.inl ⟨HE3.out, _, _, rfl, HU6.out⟩, HF6.out⟩
            · have HE3 := Lib.hid (HE.out ha)
              go_wp2_with fail
              go_ret2
              exact ⟨.inr ⟨_, _, HE3.out, rfl, HU6.out⟩, HF6.out⟩
        · have e0 : ((m : Int) == (k : Int)) = false := by simp; omega
          have HT2 := Lib.hid (HT.out hm)
          clear hm HT HN HM
          have HF := Lib.hid (hfr.trans HW.out)
          go_wp2_with fail
          go_roundw
          case rel => exact ⟨j + 1, by omega, by go_num, HT2.out, HF.out⟩
          case measure => simp [intOf]; omega
    · obtain rfl : j = ks.length := by omega
      have hN := HN.out
      rw [List.take_length] at hN
      have HE := Lib.hid (HR.out hN)
      clear hN HR HN
      go_wp2
      go_ret2
      exact ⟨.inl ⟨HE.out, _, [], rfl, oc_nil _ _⟩, HF1.out.trans hfr⟩
end Go.Proofs.YtheefloegbkflaaGreatDoor


namespace Go.Proofs.YtheefloegbkflaaGreatDoor
set_option linter.unusedVariables false
set_option linter.unusedSimpArgs false
set_option maxRecDepth 100000
open Go.RowKit

theorem need_any (n : Nat) (w : World) (hn : n ≤ 9223372036854775807) :
    Calls Tryz.prog 110 #[.int .i64 n] w fun e w' => e = .returned (.int .i64 (need n : Nat)) ∧ w = w' := by
  by_cases h : n % 8 = 0
  · have HN := Lib.hid (show need n = n / 8 by unfold need; omega)
    have h' : decide (0 < (n : Int) % 8) = false := by simp; omega
    clear h
    go_enter Tryz.func110, Tryz.ntmps110
    go_wp2
    go_ret
    exact ⟨ret_int (by rw [HN.out]; omega), rfl⟩
  · have HN := Lib.hid (show need n = n / 8 + 1 by unfold need; omega)
    have h' : decide (0 < (n : Int) % 8) = true := by simp; omega
    clear h
    go_enter Tryz.func110, Tryz.ntmps110
    go_wp2
    go_ret
    exact ⟨ret_int (by rw [HN.out]; omega), rfl⟩

theorem or_low (q t : Nat) (ht : t < 8) (hq : q < 2 ^ t) : bits .or .u8 (q : Int) (2 ^ t % 256) = ((q + 2 ^ t : Nat) : Int) := by
  have all : ∀ t : Fin 8, ∀ q : Fin 128, q.1 < 2 ^ t.1 → bits .or .u8 (q.1 : Int) (2 ^ t.1 % 256) = ((q.1 + 2 ^ t.1 : Nat) : Int) := by decide +kernel
  have := pow8 ht
  exact all ⟨t, ht⟩ ⟨q, by omega⟩ hq
theorem add_low (q t : Nat) (ht : t < 8) (hq : q < 2 ^ t) : ((q : Int) + 2 ^ t) % 256 = ((q + 2 ^ t : Nat) : Int) := by
  have all : ∀ t : Fin 8, ∀ q : Fin 128, q.1 < 2 ^ t.1 → ((q.1 : Int) + 2 ^ t.1) % 256 = ((q.1 + 2 ^ t.1 : Nat) : Int) := by decide +kernel
  have := pow8 ht
  exact all ⟨t, ht⟩ ⟨q, by omega⟩ hq
theorem or_lt8 (q t : Nat) (ht : t < 8) (hq : q < 2 ^ t) : q + 2 ^ t < 256 := by have := pow8 ht; omega

set_option maxHeartbeats 1000000 in
theorem pack_any (v : Value) (l : List Bool) (w : World) (hv : Vs tv w v l) (hl : l.length ≤ 1000000) :
    Calls Tryz.prog 58 #[v] w fun e w' => ∃ u, e = .returned u ∧ Own w' w.heap.size u (packB l) ∧ Fr Non w w' := by
  have HV := Lib.hid hv
  obtain ⟨A, c, rfl, hlc, hn, hcell⟩ := hv
  have HC := Lib.hid hcell
  have HN := Lib.hid hn
  have hnb : need l.length ≤ l.length := by unfold need; omega
  clear hcell hn
  go_enter Tryz.func58, Tryz.ntmps58
  go_wp2_with fail
  refine (need_any l.length w (by omega)).mono ?_
  rintro e w' ⟨rfl, rfl⟩
  go_wp2_with (at_make; refine wpList_mkfullG el_u8 (f := bv) (0 : UInt8) rfl rfl _ _ rfl _ _ _ _ (need l.length) rfl rfl rfl rfl (by omega) ?_; intro w1 hown1 hfr1)
  go_loopw [13] (fun i wr => ∃ j : Nat, j ≤ need l.length ∧ i = .int .i64 j ∧ Ow bv 5 wr w.heap.size (.slice (some ⟨w.heap.size, 0, none⟩) (need l.length) (need l.length)) (pk l (8 * j)) ∧ Fr Non w wr) (fun i _ => need l.length - (intOf i).toNat)
  case atStart => exact ⟨0, Nat.zero_le _, rfl, by rw [Nat.mul_zero, pk_zero]; exact hown1, hfr1⟩
  case round =>
    obtain ⟨j, hj, rfl, hown, hfr⟩ := hrel
    by_cases hlt : j < need l.length
    · have h8 : 8 * j < l.length := by unfold need at hlt; omega
      obtain ⟨A', c', hrun, hbs, hob⟩ := slice_loG el_bool A l.length c (8 * j) .i64 ((j : Int) * 8) (by push_cast; omega) (by omega) hlc
      have HV' := Lib.hid (hbs tv w l rfl HV.out)
      clear hbs
      have HF := Lib.hid hfr
      have key : ∀ t, t < 8 → t < l.length - 8 * j → ∃ a, A' = some a ∧ w.cell? (a.add t) = some (tv (l.getD (8 * j + t) false)) := by
        intro t _ ht
        obtain ⟨a, rfl, _, _, hc⟩ := HV'.out.addr (by omega)
        refine ⟨a, rfl, ?_⟩
        rw [hc t (by simp; omega)]
        simp [List.getD_eq_getElem?_getD, show 8 * j + t < l.length by omega]
      have HK := Lib.hid key
      clear key
      obtain ⟨m, hm8, hml, hm1, hm⟩ : ∃ m, m ≤ 8 ∧ m ≤ l.length - 8 * j ∧ 0 < m ∧ (m = 8 ∨ m = l.length - 8 * j) := by
        by_cases h7 : 8 ≤ l.length - 8 * j
        · exact ⟨8, by omega, by omega, by omega, .inl rfl⟩
        · exact ⟨l.length - 8 * j, by omega, by omega, by omega, .inr rfl⟩
      have hnext : pk l (8 * j + m) = pk l (8 * (j + 1)) := by
        rcases hm with rfl | rfl
        · rw [show 8 * (j + 1) = 8 * j + 8 by omega]
        · by_cases h : l.length = 8 * (j + 1)
          · congr 1; omega
          · rw [pk_all l (show l.length ≤ 8 * j + (l.length - 8 * j) by omega)]
            by_cases h2 : l.length ≤ 8 * (j + 1)
            · rw [pk_all l h2]
            · omega
      have HX := Lib.hid hnext
      clear hnext
      have hmi : min 8 (l.length - 8 * j) ≤ m := by omega
      have hme := Lib.hid hm
      clear hm
      by_cases h7 : 8 ≤ l.length - 8 * j
      all_goals
        go_wp2
        go_loopw [23] (fun i wr => ∃ t : Nat, t ≤ m ∧ i = .int .i64 t ∧ Ow bv 5 wr w.heap.size (.slice (some ⟨w.heap.size, 0, none⟩) (need l.length) (need l.length)) (pk l (8 * j + t)) ∧ Fr Non w wr) (fun i _ => 8 - (intOf i).toNat)
        case atStart => exact ⟨0, Nat.zero_le _, rfl, hown, hfr⟩
        case round =>
          obtain ⟨t, ht, rfl, hown, hfr⟩ := hrel
          have hmf := hme.out
          by_cases hlt : t < m
          · have h8 : 8 * j + t < l.length := by omega
            obtain ⟨a, rfl, hc0⟩ := HK.out t (by omega) (by omega)
            have hq := hown.cell (pk_length _ _).symm j _ (by have := pk_at l h8; rwa [show (8 * j + t) / 8 = j by omega] at this)
            have hfz := hown.frozen (pk_length _ _).symm j
            have hql := pkn_lt l h8
            rw [show (8 * j + t) / 8 = j by omega, show (8 * j + t) % 8 = t by omega] at hql
            have hor := or_low _ t (by omega) hql
            have hys := pk_yes l h8
            have hno := pk_no l h8
            rw [show (8 * j + t) / 8 = j by omega, show (8 * j + t) % 8 = t by omega] at hys
            unfold bv at hq
            rw [small8 (pkn_lt8 _ _ _)] at hq
            have hc1 : wr.cell? (a.add t) = some (tv (l.getD (8 * j + t) false)) := (hfr.cell (World.block_lt_of_cell? w _ hc0) (fun e => e)).trans hc0
            have hge : l.getD (8 * j + t) false = l[8 * j + t] := by simp [List.getD_eq_getElem?_getD, h8]
            rw [hge] at hc1
            have HO := Lib.hid hown
            have HFr := Lib.hid hfr
            have hq9 := pkn_lt8 l (8 * j + t) j
            clear hown hfr hmf hown1 hfr1 HF hge hc0
            cases hb : l[8 * j + t] with
            | false =>
              rw [hb] at hc1
              unfold tv at hc1
              have HB := Lib.hid (hno hb)
              clear hb hno hys hor
              go_wp2
              go_roundw
              case rel => exact ⟨t + 1, by omega, by go_num, by rw [show 8 * j + (t + 1) = 8 * j + t + 1 by omega, HB.out]; exact HO.out, HFr.out⟩
              case measure => simp [intOf]; omega
            | true =>
              rw [hb] at hc1
              unfold tv at hc1
              have HB := Lib.hid (hys hb)
              have HR := Lib.hid hor
              clear hb hno hys hor
              generalize hQ : pkn l (8 * j + t) j = q at *
              have HQ := Lib.hid hQ
              clear hQ
              go_wp2
              go_region
              go_wp2
              go_roundw
              case rel =>
                refine ⟨t + 1, by omega, by go_num, ?_, (HFr.out.setCell (fun h => by simp at h) _).drew⟩
                rw [show 8 * j + (t + 1) = 8 * j + t + 1 by omega, HB.out, HR.out]
                have hs := (HO.out.store (pk_length _ _).symm j (q + 2 ^ t).toUInt8).drew
                unfold bv at hs
                rwa [small8 (or_lt8 q t (by omega) hql)] at hs
              case measure => simp [intOf]; omega
          · obtain rfl : t = m := by omega
            rw [HX.out] at hown
            clear hmf
            go_wp2
            go_roundw
            case rel => exact ⟨j + 1, by omega, by go_num, hown, hfr⟩
            case measure => simp [intOf]; omega
    · obtain rfl : j = need l.length := by omega
      rw [pk_all l (by unfold need; omega)] at hown
      go_wp2
      go_ret
      exact ⟨_, rfl, hown.own, hfr⟩

set_option maxHeartbeats 1000000 in
theorem rpack_any (v : Value) (l : List Bool) (w : World) (hv : Vs tv w v l) (hl : l.length ≤ 1000000) :
    Calls Tryz.prog 68 #[v] w fun e w' => ∃ u, e = .returned u ∧ Own w' w.heap.size u (packB l) ∧ Fr Non w w' := by
  have HV := Lib.hid hv
  obtain ⟨A, c, rfl, hlc, hn, hcell⟩ := hv
  have HC := Lib.hid hcell
  have HN := Lib.hid hn
  have hnb : need l.length ≤ l.length := by unfold need; omega
  have h8 : 8 * need l.length < l.length + 8 ∧ l.length ≤ 8 * need l.length := by unfold need; omega
  clear hcell hn
  go_enter Tryz.func68, Tryz.ntmps68
  go_wp2
  go_loopw [3] (fun x wr => ∃ k : Nat, k ≤ need l.length ∧ Ow bv 5 wr w.heap.size x (List.replicate k 0) ∧ Fr Non w wr) (fun x _ => need l.length - slLen x)
  case atStart => exact ⟨0, Nat.zero_le _, ow_lit0 _ _ _ rfl (Nat.le_refl _), (Fr.refl _ _).alloc _⟩
  case round =>
    obtain ⟨k, hk, hown, hfr⟩ := hrel
    have hB := hfr.size
    by_cases hlt : k < need l.length
    · obtain ⟨A1, c1, rfl⟩ := hown.shape
      rw [List.length_replicate] at hown ⊢
      have h1 : 8 * k < l.length := by omega
      go_wp2_with (at_builtin; refine wpList_pushG el_u8 bv_oneC rfl (.tmp 12) (.tmp 13) rfl w.heap.size _ (List.replicate k 0) rfl hown _ (0 : UInt8) rfl rfl (by simp; omega) hB ?_; intro v2 w2 hown2 hfr2)
      go_roundw
      case rel => exact ⟨k + 1, by omega, by rw [List.replicate_succ']; exact hown2, hfr.fresh hfr2 fun q hq => (hown.lt q hq).1⟩
      case measure => rw [slLen_vs hown2.vs]; simp [slLen]; omega
    · obtain rfl : k = need l.length := by omega
      by_cases h0 : 0 < l.length
      · have hpos : 0 < (List.replicate (need l.length) (0 : UInt8)).length := by simp; omega
        obtain ⟨g, c1, rfl, hg1, hg2, hc1, _⟩ := hown.row hpos
        rw [List.length_replicate] at hown hc1 ⊢
        rw [← pk_zero] at hown
        clear hpos
        go_wp2
        go_loopw [4] (fun i wr => ∃ p : Nat, p ≤ l.length ∧ i = .int .i64 p ∧ Ow bv 5 wr w.heap.size (.slice (some ⟨g, 0, none⟩) (need l.length) c1) (pk l p) ∧ Fr Non w wr) (fun i _ => l.length - (intOf i).toNat)
        case atStart => exact ⟨0, Nat.zero_le _, rfl, hown, hfr⟩
        case round =>
          obtain ⟨p, hp, rfl, hown', hfr'⟩ := hrel
          have HO := Lib.hid hown'
          have HF := Lib.hid hfr'
          by_cases hlt : p < l.length
          · cases A with
            | none => have := HN.out rfl; omega
            | some a =>
              have hc0 := HC.out a rfl p hlt
              have hcl : wr.cell? (a.add p) = some (tv l[p]) := (hfr'.cell (World.block_lt_of_cell? w _ hc0) (fun e => e)).trans hc0
              have hq := hown'.cell (pk_length _ _).symm (p / 8) _ (pk_at l hlt)
              have hfz := hown'.frozen (pk_length _ _).symm (p / 8)
              have hql := pkn_lt l hlt
              have hys := pk_yes l hlt
              have hno := pk_no l hlt
              unfold bv at hq
              rw [small8 (pkn_lt8 _ _ _)] at hq
              clear hown' hfr' hown hfr hc0
              cases hb : l[p] with
              | false =>
                rw [hb] at hcl
                unfold tv at hcl
                have HB := Lib.hid (hno hb)
                clear hb hno hys
                go_wp2
                go_roundw
                case rel => exact ⟨p + 1, by omega, by go_num, by rw [HB.out]; exact HO.out, HF.out⟩
                case measure => simp [intOf]; omega
              | true =>
                rw [hb] at hcl
                unfold tv at hcl
                have HB := Lib.hid (hys hb)
                clear hb hno hys
                generalize hQ : pkn l p (p / 8) = q at *
                have HQ := Lib.hid hQ
                clear hQ
                have hp8 : p / 8 < need l.length := by unfold need; omega
                go_wp2
                go_region
                go_wp2
                go_roundw
                case rel =>
                  refine ⟨p + 1, by omega, by go_num, ?_, (HF.out.setCell (fun h => by simp at h; omega) _).drew⟩
                  rw [HB.out, add_low q (p % 8) (by omega) hql]
                  have hs := (HO.out.store (pk_length _ _).symm (p / 8) (q + 2 ^ (p % 8)).toUInt8).drew
                  unfold bv at hs
                  rwa [small8 (or_lt8 q (p % 8) (by omega) hql)] at hs
                case measure => simp [intOf]; omega
          · rw [pk_all l (by omega)] at hown'
            go_wp2
            go_ret
            exact ⟨_, rfl, hown'.own, hfr'⟩
      · obtain ⟨A1, c1, rfl⟩ := hown.shape
        rw [List.length_replicate] at hown ⊢
        rw [← pk_zero, pk_all l (show l.length ≤ 0 by omega)] at hown
        have HO := Lib.hid hown
        have hl0 : l.length ≤ 0 := by omega
        have hn0 : need l.length ≤ 0 := by omega
        clear hown
        go_wp2
        go_loop [4] (fun i => i = .int .i64 0) (fun _ => 0)
        case atStart => rfl
        case round =>
          subst hrel
          go_wp2
          go_ret
          exact ⟨_, rfl, HO.out.own, hfr⟩
end Go.Proofs.YtheefloegbkflaaGreatDoor


namespace Go.Proofs.YtheefloegbkflaaGreatDoor
set_option linter.unusedVariables false
set_option linter.unusedSimpArgs false
set_option maxRecDepth 100000
open Go.RowKit

/-- what unpacking answers: nothing and false, or the truths and true -/
def Unp (w : World) (B : Nat) (b : List UInt8) (n : Int) (e : Ending) (w' : World) : Prop :=
  (¬ (0 ≤ n ∧ Fit b n.toNat) ∧ e = .returned (.tuple #[.slice none 0 0, .bool false])) ∨
  ((0 ≤ n ∧ Fit b n.toNat) ∧ ∃ u, e = .returned (.tuple #[u, .bool true]) ∧ Ow tv 4 w' B u (unp b n.toNat))

theorem testBit_divI (x t : Nat) : (((x / 2 ^ t % 2 : Nat) : Int) == 1) = x.testBit t := by
  rw [← testBit_div]
  generalize x / 2 ^ t % 2 = r
  rw [Bool.eq_iff_iff, beq_iff_eq, beq_iff_eq]
  omega
theorem and_one (q : Nat) (h : q < 256) : bits .and .u8 (q : Int) 1 = ((q % 2 : Nat) : Int) := by
  have all : ∀ q : Fin 256, bits .and .u8 (q.1 : Int) 1 = ((q.1 % 2 : Nat) : Int) := by decide +kernel
  exact all ⟨q, h⟩

set_option maxHeartbeats 2000000 in
theorem unpack_any (v : Value) (b : List UInt8) (n : Int) (w : World) (hv : Bs w v b) (hl : b.length ≤ 100000) (h1 : -9223372036854775808 ≤ n) (h2 : n ≤ 9223372036854775807) :
    Calls Tryz.prog 138 #[v, .int .i64 n] w fun e w' => Unp w w.heap.size b n e w' ∧ Fr Non w w' := by
  have HV := Lib.hid hv.vs
  obtain ⟨A, c, rfl, hlc, hn, hcell⟩ := hv
  have HC := Lib.hid hcell
  have HN := Lib.hid hn
  clear hcell hn
  by_cases hn0 : n < 0
  · have hb : decide (n < 0) = true := by simpa using hn0
    go_enter Tryz.func138, Tryz.ntmps138
    go_wp2
    go_ret2
    exact ⟨.inl ⟨by omega, rfl⟩, Fr.refl _ _⟩
  · obtain ⟨m, rfl⟩ := Int.eq_ofNat_of_zero_le (show 0 ≤ n by omega)
    have hb : decide ((m : Int) < 0) = false := by simp
    by_cases hlen : b.length = need m
    · have HB := Lib.hid hlen
      have hne : ((b.length : Int) != (need m : Nat)) = false := by rw [hlen]; simp
      have hm8 : m ≤ 8 * b.length ∧ 8 * b.length < m + 8 := by rw [hlen]; unfold need; omega
      clear hlen hn0
      go_enter Tryz.func138, Tryz.ntmps138
      go_wp2_with fail
      refine (need_any m w (by omega)).mono ?_
      rintro e w' ⟨rfl, rfl⟩
      go_wp2_with (at_make; refine wpList_mkG tv el_bool rfl _ _ rfl _ _ _ m rfl rfl rfl (by omega) ?_; intro v1 w1 hown1 hfr1)
      clear hne
      go_loopw [6, 22] (fun x i wr => ∃ j : Nat, j ≤ b.length ∧ i = .int .i64 j ∧ Ow tv 4 wr w.heap.size x (unp b (min m (8 * j))) ∧ Hid (∀ i, i < 8 * j → m ≤ i → bitOf b i = false) ∧ Fr Non w wr) (fun _ i _ => b.length - (intOf i).toNat)
      case atStart => exact ⟨0, Nat.zero_le _, rfl, by rw [Nat.mul_zero, Nat.min_eq_right (Nat.zero_le _)]; exact hown1, Lib.hid (fun i hi => by omega), hfr1⟩
      case round =>
        obtain ⟨j, hj, rfl, hown, HG, hfr⟩ := hrel
        by_cases hlt : j < b.length
        · have h8 : 8 * j < m := by omega
          rw [show min m (8 * j) = 8 * j by omega] at hown
          obtain ⟨A1, c1, rfl⟩ := hown.shape
          rw [unp_length] at hown ⊢
          cases A with
          | none => have := HN.out rfl; omega
          | some a =>
            have hc0 := HC.out a rfl j hlt
            have hc1 : wr.cell? (a.add j) = some (bv b[j]) := (hfr.cell (World.block_lt_of_cell? w _ hc0) (fun e => e)).trans hc0
            have HX := Lib.hid (fun t ht => bit_byte b j t hlt ht)
            have hx := b[j].toNat_lt
            unfold bv at hc1
            clear hc0 hown1 hfr1
            generalize b[j] = xb at *
            have hex : ∃ r, r ≤ 8 ∧ r ≤ m - 8 * j ∧ 0 < r ∧ min 8 (m - 8 * j) ≤ r := ⟨min 8 (m - 8 * j), by omega, by omega, by omega, by omega⟩
            obtain ⟨r, hr8, hrm, hr1, hr⟩ := hex
            by_cases h7 : 8 ≤ m - 8 * j
            all_goals
              go_wp2
              go_loopw [6, 8, 34] (fun x q i wr => ∃ t : Nat, t ≤ r ∧ i = .int .i64 t ∧ q = .int .u8 (xb.toNat / 2 ^ t : Nat) ∧ Ow tv 4 wr w.heap.size x (unp b (8 * j + t)) ∧ Fr Non w wr) (fun _ _ i _ => 8 - (intOf i).toNat)
              case atStart => exact ⟨0, Nat.zero_le _, rfl, by simp, hown, hfr⟩
              case round =>
                obtain ⟨t, ht, rfl, rfl, hown, hfr⟩ := hrel
                have hB := hfr.size
                by_cases htr : t < r
                · obtain ⟨A2, c2, rfl⟩ := hown.shape
                  rw [unp_length] at hown ⊢
                  have hlq : xb.toNat / 2 ^ t < 256 := Nat.lt_of_le_of_lt (Nat.div_le_self _ _) hx
                  have HT := Lib.hid (show (bits .and .u8 ((xb.toNat / 2 ^ t : Nat) : Int) 1 == 1) = bitOf b (8 * j + t) by rw [HX.out t (by omega), and_one _ hlq]; exact testBit_divI _ _)
                  have HQ := Lib.hid (show xb.toNat / 2 ^ (t + 1) = xb.toNat / 2 ^ t / 2 by rw [Nat.pow_succ, Nat.div_div_eq_div_mul])
                  generalize hq : xb.toNat / 2 ^ t = q at *
                  clear hq
                  go_wp2_with (at_builtin; refine wpList_pushG el_bool tv_one rfl (.tmp 36) (.tmp 40) rfl w.heap.size _ (unp b (8 * j + t)) rfl hown _ (bitOf b (8 * j + t)) (congrArg Value.bool HT.out) rfl (by rw [unp_length]; omega) hB ?_; intro v2 w2 hown2 hfr2)
                  go_roundw
                  case rel => exact ⟨t + 1, by omega, by go_num, by rw [HQ.out]; go_num, by rw [show 8 * j + (t + 1) = 8 * j + t + 1 by omega, unp_succ]; exact hown2, hfr.fresh hfr2 fun q hq => (hown.lt q hq).1⟩
                  case measure => simp [intOf]; omega
                · obtain rfl : t = r := by omega
                  have HL : Hid (∀ i, xb.toNat / 2 ^ t = 0 → t ≤ i → xb.toNat.testBit i = false) := Lib.hid (fun i h hi => left_zero _ _ _ h hi)
                  have HS := Lib.hid (left_some xb.toNat t)
                  have hq0 : t = 8 → xb.toNat / 2 ^ t = 0 := fun e => by subst e; simp; omega
                  have hlq : xb.toNat / 2 ^ t < 256 := Nat.lt_of_le_of_lt (Nat.div_le_self _ _) hx
                  generalize xb.toNat / 2 ^ t = q at *
                  by_cases hz : q = 0
                  · have hzz := Lib.hid hz
                    have ht0 : ((q : Int) != 0) = false := by rw [hz]; rfl
                    clear hz hq0
                    go_wp2
                    go_roundw
                    case rel =>
                      refine ⟨j + 1, by omega, by go_num, ?_, Lib.hid ?_, hfr⟩
                      · rw [show min m (8 * (j + 1)) = 8 * j + t by omega]; exact hown
                      · intro i hi hmi
                        by_cases hij : i < 8 * j
                        · exact HG.out i hij hmi
                        · have := HX.out (i - 8 * j) (by omega)
                          rw [show 8 * j + (i - 8 * j) = i by omega] at this
                          rw [this]
                          exact HL.out _ hzz.out (by omega)
                    case measure => simp [intOf]; omega
                  · have ht0 : ((q : Int) != 0) = true := by
                      rw [bne_iff_ne]; exact fun e => hz (by exact_mod_cast e)
                    have Hz := Lib.hid hz
                    have Hq0 := Lib.hid hq0
                    clear hz hq0
                    go_wp2
                    go_ret2
                    refine ⟨.inl ⟨fun h => ?_, rfl⟩, hfr⟩
                    obtain ⟨i, hi, hbi⟩ := HS.out Hz.out
                    have hi8 : i < 8 := by
                      rcases Nat.lt_or_ge i 8 with h | h
                      · exact h
                      · rw [u8_testBit xb h] at hbi; cases hbi
                    have ht8 : t ≠ 8 := fun e => Hz.out (Hq0.out e)
                    have h1 := HX.out i hi8
                    have h2 := h.2.2 (8 * j + i) (by simp; omega)
                    rw [h1, hbi] at h2
                    cases h2
        · obtain rfl : j = b.length := by omega
          rw [show min m (8 * b.length) = m by omega] at hown
          go_wp2
          go_ret2
          refine ⟨.inr ⟨⟨by omega, fit_of (by simpa using HB.out) (by simpa using HG.out)⟩, _, rfl, ?_⟩, hfr⟩
          simpa using hown
    · have hne : ((b.length : Int) != (need m : Nat)) = true := by simp; omega
      go_enter Tryz.func138, Tryz.ntmps138
      go_wp2_with fail
      refine (need_any m w (by omega)).mono ?_
      rintro e w' ⟨rfl, rfl⟩
      go_wp2
      go_ret2
      exact ⟨.inl ⟨fun h => hlen h.2.1, rfl⟩, Fr.refl _ _⟩
end Go.Proofs.YtheefloegbkflaaGreatDoor


namespace Go.Proofs.YtheefloegbkflaaGreatDoor
set_option linter.unusedVariables false
set_option linter.unusedSimpArgs false
set_option maxRecDepth 100000
open Go.RowKit

theorem ret_bool {a b : Bool} (h : a = b) : Ending.returned (.bool a) = .returned (.bool b) := by rw [h]
theorem take_ne {α : Type} [DecidableEq α] {a b : List α} {k : Nat} (hk : k < a.length) (hk2 : k < b.length) (h : a[k] ≠ b[k]) : a ≠ b := by
  intro e; subst e; exact h rfl
theorem take_eq_succ {α : Type} {a b : List α} {k : Nat} (hk : k < a.length) (hk2 : k < b.length) (h : a.take k = b.take k) (he : a[k] = b[k]) : a.take (k + 1) = b.take (k + 1) := by
  rw [List.take_succ_eq_append_getElem hk, List.take_succ_eq_append_getElem hk2, h, he]

set_option maxHeartbeats 1000000 in
theorem count_any (v : Value) (l : List Bool) (w : World) (hv : Vs tv w v l) (hl : l.length ≤ 9223372036854775807) :
    Calls Tryz.prog 88 #[v] w fun e w' => e = .returned (.int .i64 (cnt l : Nat)) ∧ w = w' := by
  obtain ⟨A, c, rfl, hlc, hn, hcell⟩ := hv
  have HC := Lib.hid hcell
  have HN := Lib.hid hn
  clear hcell hn
  go_enter Tryz.func88, Tryz.ntmps88
  go_wp2
  go_loop [3, 8] (fun n i => ∃ k : Nat, k ≤ l.length ∧ i = .int .i64 k ∧ n = .int .i64 (cnt (l.take k) : Nat)) (fun _ i => l.length - (intOf i).toNat)
  case atStart => exact ⟨0, Nat.zero_le _, rfl, rfl⟩
  case round =>
    obtain ⟨k, hk, rfl, rfl⟩ := hrel
    have hc := cnt_le (l.take k)
    rw [List.length_take] at hc
    by_cases hlt : k < l.length
    · cases A with
      | none => have := HN.out rfl; omega
      | some a =>
        have g1 : w.cell? (a.add k) = some (tv l[k]) := HC.out a rfl k hlt
        have HS := Lib.hid (cnt_snoc l k hlt)
        unfold tv at g1
        generalize l[k] = x at *
        generalize cnt (l.take k) = n at *
        cases x
        all_goals
          go_wp2
          go_round
          case rel => exact ⟨k + 1, by omega, by go_num, by rw [HS.out]; go_num⟩
          case measure => simp [intOf]; omega
    · have HE := Lib.hid (show l.take k = l from List.take_of_length_le (by omega))
      go_wp2
      go_ret
      exact ⟨ret_int (by rw [HE.out]), rfl⟩

end Go.Proofs.YtheefloegbkflaaGreatDoor


namespace Go.Proofs.YtheefloegbkflaaGreatDoor
set_option linter.unusedVariables false
set_option linter.unusedSimpArgs false
set_option maxRecDepth 100000
open Go.RowKit

theorem andNot8 (c : Nat) (h : c < 256) : bits .andNot .u8 (c : Int) 8 = ((c % 8 + 16 * (c / 16) : Nat) : Int) := by
  have all : ∀ q : Fin 256, bits .andNot .u8 (q.1 : Int) 8 = ((q.1 % 8 + 16 * (q.1 / 16) : Nat) : Int) := by decide +kernel
  exact all ⟨c, h⟩
theorem and8 (c : Nat) (h : c < 256) : bits .and .u8 (c : Int) 8 = ((c / 8 % 2 * 8 : Nat) : Int) := by
  have all : ∀ q : Fin 256, bits .and .u8 (q.1 : Int) 8 = ((q.1 / 8 % 2 * 8 : Nat) : Int) := by decide +kernel
  exact all ⟨c, h⟩

theorem add0 (a : Addr) : a.add 0 = a := by
  obtain ⟨B, o, e⟩ := a
  cases e <;> rfl
theorem kind_any (v : Value) (b : List UInt8) (w : World) (hv : Bs w v b) (hl : b.length ≤ 1000000) :
    Calls Tryz.prog 87 #[v] w fun e w' => e = .returned (.int .i64 (kindB b : Nat)) ∧ w = w' := by
  obtain ⟨A, c, rfl, hlc, hn, hcell⟩ := hv
  cases b with
  | nil =>
    clear hlc hn hcell
    go_enter Tryz.func87, Tryz.ntmps87
    go_wp2
    go_ret
    exact ⟨rfl, rfl⟩
  | cons x r =>
    cases A with
    | none => have := hn rfl; simp at hlc; omega
    | some a =>
      have g0 : w.cell? (a.add 0) = some (bv x) := hcell a rfl 0 (by simp)
      have g1 : w.cell? a = some (bv x) := by rw [add0 a] at g0; exact g0
      have hb := andNot8 x.toNat x.toNat_lt
      have hx := x.toNat_lt
      have hk : kindB (x :: r) = kindC x := rfl
      unfold bv at g0 g1
      rw [hk]
      clear hlc hn hcell hk
      unfold kindC
      generalize x.toNat = q at *
      have hbig : ((r.length : Int) + 1 == 0) = false := by rw [beq_eq_false_iff_ne]; omega
      by_cases h1 : q % 8 + 16 * (q / 16) < 1
      · have d1 : decide (((q % 8 + 16 * (q / 16) : Nat) : Int) < 1) = true := by simp only [decide_eq_true_eq]; omega
        rw [if_neg (by omega)]
        have hzb : q % 8 + 16 * (q / 16) < 1000 := by omega
        clear h1 hx
        generalize q % 8 + 16 * (q / 16) = z at *
        go_enter Tryz.func87, Tryz.ntmps87
        go_wp2
        go_ret
        exact ⟨rfl, rfl⟩
      · have d1 : decide (((q % 8 + 16 * (q / 16) : Nat) : Int) < 1) = false := by simp only [decide_eq_false_iff_not]; omega
        by_cases h6 : 6 < q % 8 + 16 * (q / 16)
        · have d6 : decide (6 < ((q % 8 + 16 * (q / 16) : Nat) : Int)) = true := by simp only [decide_eq_true_eq]; omega
          rw [if_neg (by omega)]
          have hzb : q % 8 + 16 * (q / 16) < 1000 := by omega
          clear h1 hx
          generalize q % 8 + 16 * (q / 16) = z at *
          go_enter Tryz.func87, Tryz.ntmps87
          go_wp2
          go_ret
          exact ⟨rfl, rfl⟩
        · have d6 : decide (6 < ((q % 8 + 16 * (q / 16) : Nat) : Int)) = false := by simp only [decide_eq_false_iff_not]; omega
          have hz : q % 8 + 16 * (q / 16) = q % 8 := by omega
          rw [if_pos (by omega)]
          have h8 : q % 8 < 8 := by omega
          have hb2 : bits .andNot .u8 (q : Int) 8 = ((q % 8 : Nat) : Int) := by rw [hb, hz]
          have d12 : decide (((q % 8 : Nat) : Int) < 1) = false := by rw [← hz]; exact d1
          have d62 : decide (6 < ((q % 8 : Nat) : Int)) = false := by rw [← hz]; exact d6
          clear h1 hx hz hb d1 d6 h6
          generalize q % 8 = z at *
          go_enter Tryz.func87, Tryz.ntmps87
          go_wp2
          go_ret
          exact ⟨rfl, rfl⟩

/-- '[]byte(s)': the new bytes lie in a block that is there -/
theorem wpList_strbytesL {w : World} {ops : Array Oper} {rest : List Oper} {o : Oper} {a : Act} {Q : Exit → Act → World → Prop} (hgd : o.guard = none) (x : Operand)
    (ho : o.op = .convert 9 26 x) (m : List UInt8) (hx : a.eval x = .string ⟨m.toArray⟩)
    (h : ∀ v' w', Bs w' v' m → Fr Non w w' → (∀ k, v'.ownBlock = some k → w.heap.size ≤ k ∧ k < w'.heap.size) → wpList Tryz.prog ops Q rest (a.put o.dst v') w') : wpList Tryz.prog ops Q (o :: rest) a w := by
  have hm : ByteArray.size ⟨m.toArray⟩ = m.length := by simp [ByteArray.size]
  have hrun := run_bytes_of_string (P := Tryz.prog) w 9 26 5 ⟨m.toArray⟩ Tryz.underlying9 Tryz.underlying26 Tryz.underlying5
  refine wpList_plain hgd fun K hK => ?_
  unfold Oper.wp
  simp [execOp, ho, hx, hrun, Result.andThen]
  refine hK _ _ (h _ _ ?_ (((Fr.refl _ _).drew).alloc _) ?_)
  · rw [hm]
    refine ⟨_, _, rfl, grownCap_ge _ _ _ _, (fun h => by cases h), fun a ha j hj => ?_⟩
    cases ha
    have hA : (⟨w.heap.size, 0, none⟩ : Addr).add j = ⟨w.drew.heap.size, j, none⟩ := by rw [Addr.add_lit]; simp
    rw [hA, World.cell?_alloc_mark, bytesRow_at _ _ _ (by simpa using hj)]
    simp [bv]
  · intro k hk
    simp [Value.ownBlock] at hk
    subst hk
    exact ⟨Nat.le_refl _, by simp⟩
theorem take_lt (g : Nat) (l : List UInt8) (bad : Bool) (n : Int) (w : World) (h : Src w g l bad) :
    Calls Tryz.prog 137 #[ptr g, .int .i64 n] w fun e w' => ∃ v, e = .returned v ∧ Bs w' v (cutT l n) ∧ (∀ k, v.ownBlock = some k → k < w'.heap.size) ∧ Src w' g (cutR l n) (cutB l bad n) ∧ Fr (One g) w w' := by
  have h0 := cut_any g l bad n w h
  clear h
  go_enter Tryz.func137, Tryz.ntmps137
  go_wp2_with fail
  refine h0.mono ?_
  rintro e w1 ⟨rfl, hs1, hf1⟩
  go_wp2_with (refine wpList_strbytesL rfl _ rfl (cutT l n) rfl ?_; intro v2 w2 hbs2 hfr2 hnew2)
  go_ret
  exact ⟨v2, rfl, hbs2, fun k hk => (hnew2 k hk).2, hs1.fr hfr2 (fun e => e), hf1.then hfr2⟩

/-- 'make([]E, n)' as a run, in every world -/
theorem mk_all {α : Type} {f : α → Value} {E T : TypeId} {z : Value} {by_ : Nat} (hE : El T E z by_) (y : α) (hy : f y = z) (n : Nat) (hn : n ≤ 1099511627776) :
    ∃ F : World → World, ∀ W, (Instr.makeSlice T (.int .i64 (n : Int)) (.int .i64 (n : Int))).run Tryz.prog W = .ok (.slice (some ⟨W.heap.size, 0, none⟩) n n) (F W) ∧ Ow f E (F W) W.heap.size (.slice (some ⟨W.heap.size, 0, none⟩) n n) (List.replicate n y) ∧ Fr Non W (F W) := by
  have h : ∀ W, ∃ w', (Instr.makeSlice T (.int .i64 (n : Int)) (.int .i64 (n : Int))).run Tryz.prog W = .ok (.slice (some ⟨W.heap.size, 0, none⟩) n n) w' ∧ Ow f E w' W.heap.size (.slice (some ⟨W.heap.size, 0, none⟩) n n) (List.replicate n y) ∧ Fr Non W w' := by
    intro W
    obtain ⟨i, hi, hz0, hz1, hz2⟩ := info_parts hE.info
    have hs' := hE.small
    have hbl : by_ * n ≤ 70368744177664 := by
      have := Nat.mul_le_mul hs' hn
      omega
    obtain ⟨w', hrun, h1, h2⟩ := run_make_full (P := Tryz.prog) W W.heap.size T E i z 1 hE.under hi hz0 hz1 .i64 .i64 n (by rw [hz2]; omega) (by unfold maxLen; omega) (Nat.le_refl _)
    refine ⟨w', hrun, ?_, ((Fr.of_grown h2).mono fun k _ e => by cases e)⟩
    unfold Ow
    rw [hE.cells, Nat.mul_one, toList_madeCells_one] at h1
    rw [List.length_replicate, List.map_replicate, hy]
    exact h1
  exact ⟨fun W => Classical.choose (h W), fun W => Classical.choose_spec (h W)⟩

/-- what opening answers -/
def Opn (w : World) (B : Nat) (o : Option (List Bool × List UInt8)) (e : Ending) : Prop :=
  (o = none ∧ ∃ t r, e = .returned (.tuple #[t, r, .bool false])) ∨
  ∃ nulls rest t r, o = some (nulls, rest) ∧ e = .returned (.tuple #[t, r, .bool true]) ∧ Ow tv 4 w B t nulls ∧ Bs w r rest ∧ ∀ q, r.ownBlock = some q → q < w.heap.size
theorem cutT_all (l : List UInt8) : cutT l l.length = l := by unfold cutT cutOk; simp
theorem cutR_all (l : List UInt8) : cutR l l.length = [] := by unfold cutR cutOk; simp
theorem cutB_all (l : List UInt8) (bad : Bool) : cutB l bad l.length = bad := by unfold cutB cutOk; simp
theorem cut1T (x : UInt8) (r : List UInt8) : cutT (x :: r) 1 = [x] := by
  unfold cutT cutOk
  rw [decide_eq_true (by rw [List.length_cons]; omega), if_pos rfl]; rfl
theorem cut1R (x : UInt8) (r : List UInt8) : cutR (x :: r) 1 = r := by
  unfold cutR cutOk
  rw [decide_eq_true (by rw [List.length_cons]; omega), if_pos rfl]; rfl
theorem cut1B (x : UInt8) (r : List UInt8) : cutB (x :: r) false 1 = false := by
  unfold cutB cutOk
  rw [decide_eq_true (by rw [List.length_cons]; omega), if_pos rfl]
theorem openC_nil (n : Nat) : openC [] n = none := rfl
theorem openC_none {c : UInt8} (r : List UInt8) (n : Nat) (h : someN c = false) : openC (c :: r) n = some (List.replicate n false, r) := by
  show (if someN c = false then _ else _) = _
  rw [if_pos h]
theorem openC_yes {c : UInt8} {r : List UInt8} {n : Nat} (h : someN c = true) (hk : need n ≤ r.length) (hf : Fit (r.take (need n)) n) (hc : 0 < cnt (unp (r.take (need n)) n)) : openC (c :: r) n = some (unp (r.take (need n)) n, r.drop (need n)) := by
  show (if someN c = false then _ else if _ then _ else _) = _
  rw [if_neg (by rw [h]; simp), if_pos ⟨hk, fun i _ hi => hf.2 i hi, hc⟩]
theorem openC_no {c : UInt8} {r : List UInt8} {n : Nat} (h : someN c = true) (hn : ¬ (need n ≤ r.length ∧ Fit (r.take (need n)) n ∧ 0 < cnt (unp (r.take (need n)) n))) : openC (c :: r) n = none := by
  show (if someN c = false then _ else if _ then _ else _) = _
  rw [if_neg (by rw [h]; simp), if_neg ?_]
  rintro ⟨h1, h2, h3⟩
  have hlen : (r.take (need n)).length = need n := by rw [List.length_take]; omega
  exact hn ⟨h1, fit_of hlen (fun i hi => by rw [hlen] at hi; exact h2 i hi), h3⟩

set_option maxHeartbeats 4000000 in
theorem open_any (v : Value) (b : List UInt8) (n : Nat) (w : World) (hv : Bs w v b) (hl : b.length ≤ 100000) (hn : n ≤ 4096) :
    Calls Tryz.prog 85 #[v, .int .i64 n] w fun e w' => Opn w' w.heap.size (openC b n) e ∧ Fr Non w w' := by
  have HB := Lib.hid hv
  clear hv
  go_enter Tryz.func85, Tryz.ntmps85
  go_wp2_with fail
  refine (from_any v b w HB.out).mono ?_
  rintro e w1 ⟨rfl, hs1, hf1⟩
  have HF1 := Lib.hid hf1
  generalize hg : w.heap.size = g at *
  have HGz := Lib.hid (Nat.le_of_eq hg)
  clear hg hf1
  go_wp2_with fail
  refine (take_lt g b false 1 w1 hs1).mono ?_
  rintro e w2 ⟨v2, rfl, hb2, hq2, hs2, hf2⟩
  have HF2 := Lib.hid (HF1.out.fresh hf2 (fun q e => by have : q = g := e; have := HGz.out; omega))
  clear hs1 hf2 hq2 HF1 HB
  cases b with
  | nil =>
    have hs := Lib.hid (show Src w2 g [] true from hs2)
    obtain ⟨A2, c2, rfl, _⟩ := hb2
    clear hs2
    go_wp2_with fail
    refine (ok_any g [] true w2 hs.out).mono ?_
    rintro e w3 ⟨rfl, rfl⟩
    go_wp2_with fail
    have hgl : ∀ q, One g q → w.heap.size ≤ q := fun q e => by have : q = g := e; have := HGz.out; omega
    have hcb : cutB ([] : List UInt8) true 0 = true := rfl
    obtain ⟨F, hF⟩ := mk_all el_bool false rfl n (by omega)
    have HF := Lib.hid hF
    have hrun := fun W => (HF.out W).1
    have src := hs.out.drew
    have srcF := fun W (h : Src W g [] true) => h.fr (HF.out W).2.2 (fun e => e)
    clear hF
    go_region_held3 (fun _ => True) (exact trivial) (first
      | (go_at_call 81; refine (left_any _ _ _ _ src).mono ?_; rintro e w4 ⟨rfl, rfl⟩)
      | (go_at_call 81; refine (left_any _ _ _ _ (srcF _ src)).mono ?_; rintro e w4 ⟨rfl, rfl⟩)
      | (go_at_call 137; refine (take_lt _ _ _ _ _ src).mono ?_; rintro e w4 ⟨v4, rfl, hb4, hq4, src4, hf4⟩)
      | (go_at_call 137; refine (take_lt _ _ _ _ _ (srcF _ src)).mono ?_; rintro e w4 ⟨v4, rfl, hb4, hq4, src4, hf4⟩)
      | (go_at_call 80; refine (ok_any _ _ _ _ src4).mono ?_; rintro e w6 ⟨rfl, rfl⟩)
      | (go_at_call 80; refine (ok_any _ _ _ _ (src4.fr (HF.out _).2.2 (fun e => e))).mono ?_; rintro e w6 ⟨rfl, rfl⟩))
    all_goals
      go_wp2
      go_ret3
      first
        | exact ⟨.inl ⟨openC_nil n, _, _, rfl⟩, (HF2.out.drew.trans (HF.out _).2.2).fresh hf4 hgl⟩
        | exact ⟨.inl ⟨openC_nil n, _, _, rfl⟩, (HF2.out.drew.fresh hf4 hgl).trans (HF.out _).2.2⟩
  | cons x r =>
    have hs := Lib.hid (show Src w2 g r false from by rw [cut1R, cut1B] at hs2; exact hs2)
    have hb3 : Bs w2 v2 [x] := by rw [cut1T] at hb2; exact hb2
    clear hs2 hb2
    obtain ⟨A2, c2, rfl, hlc2, hn2, hc2⟩ := hb3
    cases A2 with
    | none => have := hn2 rfl; simp at hlc2; omega
    | some a =>
      have g0 : w2.cell? (a.add 0) = some (bv x) := hc2 a rfl 0 (by simp)
      have g1 : w2.cell? a = some (bv x) := by rw [add0 a] at g0; exact g0
      have h8 := and8 x.toNat x.toNat_lt
      clear hn2 hc2
      unfold bv at g0 g1
      have HSx : someN x = (x.toNat / 8 % 2 == 1) := rfl
      have HY := Lib.hid (fun h1 h2 h3 h4 => openC_yes (c := x) (r := r) (n := n) h1 h2 h3 h4)
      have HNo := Lib.hid (fun h1 h2 => openC_no (c := x) (r := r) (n := n) h1 h2)
      have HNe := Lib.hid (fun h => openC_none (c := x) r n h)
      have hgl : ∀ q, One g q → w.heap.size ≤ q := fun q e => by have : q = g := e; have := HGz.out; omega
      have hgw : g < w2.heap.size := hs.out.1.lt
      have hrl : r.length ≤ 100000 := by simp at hl; omega
      generalize someN x = sx at *
      generalize x.toNat = q at *
      rcases (show q / 8 % 2 = 0 ∨ q / 8 % 2 = 1 by omega) with hq0 | hq0
      · have h80 : bits .and .u8 (q : Int) 8 = 0 := by rw [h8, hq0]; rfl
        have hsx : sx = false := by rw [HSx, hq0]; rfl
        have HOO := Lib.hid (HNe.out hsx)
        clear h8 hq0 HSx hsx HY HNo HNe hl
        go_wp2_with fail
        refine (ok_any g r false w2 hs.out).mono ?_
        rintro e w3 ⟨rfl, rfl⟩
        go_wp2_with fail
        have hcb := cutB_all r false
        have hsz2 : w.heap.size ≤ w2.drew.heap.size := HF2.out.size
        have hgn : ∀ q, (Value.slice (some ⟨w2.drew.heap.size, 0, none⟩) n n).ownBlock = some q → ¬ One g q := fun q hq e => by
          have e2 : q = g := e
          have e3 : w2.heap.size = q := by simpa [Value.ownBlock] using hq
          omega
        obtain ⟨F, hF⟩ := mk_all el_bool false rfl n (by omega)
        have HF := Lib.hid hF
        have hrun := fun W => (HF.out W).1
        have src := hs.out.drew
        have srcF := fun W (h : Src W g r false) => h.fr (HF.out W).2.2 (fun e => e)
        clear hF
        go_region_held3 (fun _ => True) (exact trivial) (first
          | (go_at_call 81; refine (left_any _ _ _ _ src).mono ?_; rintro e w4 ⟨rfl, rfl⟩)
          | (go_at_call 81; refine (left_any _ _ _ _ (srcF _ src)).mono ?_; rintro e w4 ⟨rfl, rfl⟩)
          | (go_at_call 137; refine (take_lt _ _ _ _ _ src).mono ?_; rintro e w4 ⟨v4, rfl, hb4, hq4, src4, hf4⟩)
          | (go_at_call 137; refine (take_lt _ _ _ _ _ (srcF _ src)).mono ?_; rintro e w4 ⟨v4, rfl, hb4, hq4, src4, hf4⟩)
          | (go_at_call 80; refine (ok_any _ _ _ _ src4).mono ?_; rintro e w6 ⟨rfl, rfl⟩)
          | (go_at_call 80; refine (ok_any _ _ _ _ (src4.fr (HF.out _).2.2 (fun e => e))).mono ?_; rintro e w6 ⟨rfl, rfl⟩))
        all_goals
          go_wp2
          go_ret3
          first
            | exact ⟨.inr ⟨_, _, _, _, HOO.out, rfl, ((HF.out w2.drew).2.1.fr hf4 hgn).mono hsz2, by rw [cutT_all] at hb4; exact hb4, hq4⟩, (HF2.out.drew.trans (HF.out _).2.2).fresh hf4 hgl⟩
            | exact ⟨.inr ⟨_, _, _, _, HOO.out, rfl, (HF.out _).2.1.mono ((HF2.out.drew.fresh hf4 hgl).size), by rw [cutT_all] at hb4; exact hb4.non (HF.out _).2.2, fun k hk => Nat.lt_of_lt_of_le (hq4 k hk) (HF.out _).2.2.size⟩, (HF2.out.drew.fresh hf4 hgl).trans (HF.out _).2.2⟩
      · have h81 : bits .and .u8 (q : Int) 8 = 8 := by rw [h8, hq0]; rfl
        have hsx : sx = true := by rw [HSx, hq0]; rfl
        have HSX := Lib.hid hsx
        clear h8 hq0 HSx hsx HNe hl
        go_wp2_with fail
        refine (ok_any g r false w2 hs.out).mono ?_
        rintro e w3 ⟨rfl, rfl⟩
        have hTk : ∀ z : Int, z = (need n : Nat) → Calls Tryz.prog 137 #[ptr g, .int .i64 z] w2 fun e w' => ∃ v, e = .returned v ∧ Bs w' v (cutT r (need n : Nat)) ∧ (∀ k, v.ownBlock = some k → k < w'.heap.size) ∧ Src w' g (cutR r (need n : Nat)) (cutB r false (need n : Nat)) ∧ Fr (One g) w2 w' := fun z hz => by
          subst hz
          exact take_lt g r false _ w2 hs.out
        have HTk := Lib.hid hTk
        clear hTk
        go_wp2_with fail
        refine (HTk.out _ ?_).mono ?_
        · unfold need; first | omega | (push_cast; omega)
        rintro e w4 ⟨v4, rfl, hb4, hq4, src4, hf4⟩
        by_cases hk : need n ≤ r.length
        · have eT : cutT r (need n : Nat) = r.take (need n) := by unfold cutT cutOk; rw [decide_eq_true (by omega), if_pos rfl, Int.toNat_natCast]
          have eR : cutR r (need n : Nat) = r.drop (need n) := by unfold cutR cutOk; rw [decide_eq_true (by omega), if_pos rfl, Int.toNat_natCast]
          have eB : cutB r false (need n : Nat) = false := by unfold cutB cutOk; rw [decide_eq_true (by omega), if_pos rfl]
          rw [eT] at hb4
          rw [eR, eB] at src4
          clear eT eR eB
          have hdl : (r.drop (need n)).length ≤ 100000 := by rw [List.length_drop]; omega
          have htl : (r.take (need n)).length ≤ 100000 := by rw [List.length_take]; omega
          have HYY := Lib.hid (fun h3 h4 => HY.out HSX.out hk h3 h4)
          have HNN := Lib.hid (fun h2 => HNo.out HSX.out h2)
          have HF4 := Lib.hid (HF2.out.fresh hf4 hgl)
          have HS4 := Lib.hid src4
          have hgw4 : g < w4.heap.size := src4.1.lt
          have HUn := Lib.hid (unpack_any v4 _ n w4 hb4 htl (by omega) (by omega))
          have hcle := cnt_le (unp (r.take (need n)) n)
          rw [unp_length] at hcle
          clear hb4 hq4 src4 hf4 HY HNo HSX HTk hk
          generalize hT : r.take (need n) = T at *
          generalize hD : r.drop (need n) = D at *
          go_wp2_with fail
          refine HUn.out.mono ?_
          rintro e w5 ⟨hU, hf5⟩
          have HS5 := Lib.hid (HS4.out.fr hf5 (fun e => e))
          have HF5 := Lib.hid (HF4.out.trans hf5)
          have hgw5 := Lib.hid HS5.out.1.lt
          rcases hU with ⟨hno, rfl⟩ | ⟨⟨_, hfit⟩, u5, rfl, ho5⟩
          · have HOO := Lib.hid (HNN.out fun h => hno ⟨by omega, by simpa using h.2.1⟩)
            clear hno HYY HNN HS4 HUn hf5 hcle
            go_wp2_with fail
            refine (left_any g D false w5 HS5.out).mono ?_
            rintro e w6 ⟨rfl, rfl⟩
            go_wp2_with fail
            refine (take_lt g D false _ w5 HS5.out).mono ?_
            rintro e w6 ⟨v6, rfl, hb6, hq6, src6, hf6⟩
            have HF6 := Lib.hid (HF5.out.fresh hf6 hgl)
            clear hb6 hq6 hf6
            go_wp2_with fail
            go_ret3
            exact ⟨.inl ⟨HOO.out, _, _, rfl⟩, HF6.out⟩
          · rw [Int.toNat_natCast] at hfit ho5
            have HO5 := Lib.hid ho5
            have HYZ := Lib.hid (fun h => HYY.out hfit h)
            have HNZ := Lib.hid (fun (h : ¬ 0 < cnt (unp T n)) => HNN.out fun h' => h h'.2.2)
            have hul : (unp T n).length ≤ 9223372036854775807 := by rw [unp_length]; omega
            clear hfit ho5 HYY HNN HS4 HUn hf5
            generalize unp T n = U at *
            go_wp2_with fail
            refine (left_any g D false w5 HS5.out).mono ?_
            rintro e w6 ⟨rfl, rfl⟩
            go_wp2_with fail
            refine (take_lt g D false _ w5 HS5.out).mono ?_
            rintro e w6 ⟨v6, rfl, hb6, hq6, src6, hf6⟩
            rw [cutT_all] at hb6
            rw [cutR_all, cutB_all] at src6
            have HF6 := Lib.hid (HF5.out.fresh hf6 hgl)
            have HO6 := Lib.hid ((HO5.out.mono (Nat.le_trans HF4.out.size (Nat.le_refl _))).fr hf6 (fun q hq e => by have h7 := (HO5.out.lt q hq).1; have h8 : q = g := e; omega))
            have HB6 := Lib.hid hb6
            have HQ6 := Lib.hid hq6
            clear hb6 hq6 hf6 HO5
            go_wp2_with fail
            refine (ok_any g [] false w6 src6).mono ?_
            rintro e w7 ⟨rfl, rfl⟩
            go_wp2_with fail
            refine (count_any u5 U w6 HO6.out.vs hul).mono ?_
            rintro e w7 ⟨rfl, rfl⟩
            by_cases hc : 0 < cnt U
            · have HOO := Lib.hid (HYZ.out hc)
              have dc : decide (0 < cnt U) = true := by simp only [decide_eq_true_eq]; omega
              clear HYZ HNZ hc
              go_wp2_with fail
              go_ret3
              exact ⟨.inr ⟨_, _, _, _, HOO.out, rfl, HO6.out, HB6.out, HQ6.out⟩, HF6.out⟩
            · have HOO := Lib.hid (HNZ.out hc)
              have dc : decide (0 < cnt U) = false := by simp only [decide_eq_false_iff_not]; omega
              clear HYZ HNZ hc
              go_wp2_with fail
              go_ret3
              exact ⟨.inl ⟨HOO.out, _, _, rfl⟩, HF6.out⟩
        · have eT : cutT r (need n : Nat) = [] := by unfold cutT cutOk; rw [decide_eq_false (by omega)]; rfl
          have eR : cutR r (need n : Nat) = [] := by unfold cutR cutOk; rw [decide_eq_false (by omega)]; rfl
          have eB : cutB r false (need n : Nat) = true := by unfold cutB cutOk; rw [decide_eq_false (by omega)]; rfl
          rw [eT] at hb4
          rw [eR, eB] at src4
          clear eT eR eB
          have HOO := Lib.hid (HNo.out HSX.out fun h => hk h.1)
          have HF4 := Lib.hid (HF2.out.fresh hf4 hgl)
          have HS4 := Lib.hid src4
          have HUn := Lib.hid (unpack_any v4 _ n w4 hb4 (by simp) (by omega) (by omega))
          have hn0 : 0 < need n := by omega
          clear hb4 hq4 src4 hf4 HY HNo HSX HTk hk
          go_wp2_with fail
          refine HUn.out.mono ?_
          rintro e w5 ⟨hU, hf5⟩
          have HS5 := Lib.hid (HS4.out.fr hf5 (fun e => e))
          have HF5 := Lib.hid (HF4.out.trans hf5)
          rcases hU with ⟨hno, rfl⟩ | ⟨⟨_, hfit⟩, u5, rfl, ho5⟩
          · clear hno HS4 HUn hf5
            go_wp2_with fail
            refine (left_any g [] true w5 HS5.out).mono ?_
            rintro e w6 ⟨rfl, rfl⟩
            go_wp2_with fail
            refine (take_lt g [] true _ w5 HS5.out).mono ?_
            rintro e w6 ⟨v6, rfl, hb6, hq6, src6, hf6⟩
            have HF6 := Lib.hid (HF5.out.fresh hf6 hgl)
            clear hb6 hq6 hf6
            go_wp2_with fail
            go_ret3
            exact ⟨.inl ⟨HOO.out, _, _, rfl⟩, HF6.out⟩
          · rw [Int.toNat_natCast] at hfit
            have := hfit.1
            simp at this
            omega
end Go.Proofs.YtheefloegbkflaaGreatDoor
