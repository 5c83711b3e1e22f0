/-
  Joined: Layer 12: which columns a table may have, the document's; the law's words; the example. · Layer 13: a column of rows, both programs'; why there is no segment. · Layer 12: columns read, the program's. · Layer 11: the example; which lists are small, and may be; two zones compared. · Layer 13: chunks as values; a footer's words in a block. · Layer 13: what a footer says, the program's reading of it. · Layer 2: the walks of crc.shift, crc.More, crc.Of, firkinref02.More, firkinref02.Of. · Layer 2: the walks of crc.Of, of the law's example, and of the law CrcOf. · Layer 3: the walks of frame.sum, frame.Put, firkinref03.Put, frame.length, firkinlaw03.num. · Layer 3: the walks of frame.length, frame.first, frame.Get. · Layer 13: a footer read, the program's. · Append of bytes onto bytes of the call's own: the row stays in its block, or moves to a new one (so two rows that grow stay apart).
-/
import Derived.Deep.RegionHeld3
import Derived.Lib.SmallJoins
import Derived.Test.YtheefloegbkflaaGreatDoorZ8
import Derived.BigQuiet
import Derived.Test.YtheefloegbkflaaGreatDoorZ1
import Derived.Test.YtheefloegbkflaaGreatDoorZ7
import Derived.Test.YtheefloegbkflaaGreatDoorZ3
import Derived.Laws.StructEq
import Derived.Test.YtheefloegbkflaaGreatDoorZ4
import Derived.Test.YtheefloegbkflaaGreatDoorZ6
import Derived.Laws.BitsAllLaws
import Derived.LoopTactic
import Derived.IntWalk
import Derived.Deep.DeepCutAuto
import Derived.Deep.QuietTactic
import Derived.Lib.SlBytesConst
import Derived.Deep.RegionWith
import Derived.ArgAppend
import Derived.Deep.DeepAppendRoom

namespace Go.Proofs.YtheefloegbkflaaGreatDoor
set_option linter.unusedVariables false
set_option linter.unusedSimpArgs false
set_option maxRecDepth 100000
open Go.RowKit

theorem badC_no {n : Tx} {ty : Int} {nl : Bool} (h : nameB n = true) (h1 : ¬ ty < 1) (h2 : ¬ 3 < ty) : badC ⟨n, ty, nl⟩ = false := by
  unfold badC; dsimp only; rw [h]
  have : isTy ty = true := by simp [isTy]; omega
  rw [this]; rfl
theorem badC_name {n : Tx} {ty : Int} {nl : Bool} (h : nameB n = false) : badC ⟨n, ty, nl⟩ = true := by
  unfold badC; dsimp only; rw [h]; rfl
theorem badC_ty {n : Tx} {ty : Int} {nl : Bool} (h : ty < 1 ∨ 3 < ty) : badC ⟨n, ty, nl⟩ = true := by
  unfold badC; dsimp only
  have : isTy ty = false := by simp [isTy]; omega
  rw [this]; simp

set_option maxHeartbeats 2000000 in
theorem rcheck_any (v : Value) (l : List Co) (w : World) (hv : Ks w v l) (hl : l.length ≤ 1000000000) (hb : ∀ c ∈ l, c.name.length ≤ 1000000000) :
    Calls Tryz.prog 32 #[v] w fun e w' => e = .returned (.int .i64 (chkC l)) ∧ Fr Non w w' := by
  obtain ⟨A, c, rfl, hlc, hn, hcell⟩ := hv
  have HC := Lib.hid hcell
  have HN := Lib.hid hn
  have HB := Lib.hid hb
  clear hcell hn hb
  go_enter Tryz.func32, Tryz.ntmps32
  go_wp2
  go_loopw [3] (fun i wr => ∃ (k : Nat), k ≤ l.length ∧ i = .int .i64 k ∧ Hid ((l.take k).any badC = false) ∧ Hid ((namesC (l.take k)).Nodup) ∧ Fr Non w wr) (fun i _ => l.length - (intOf i).toNat)
  case atStart => exact ⟨0, Nat.zero_le _, rfl, Lib.hid rfl, Lib.hid (by simp [namesC]), Fr.refl _ _⟩
  case round =>
    obtain ⟨k, hk, rfl, hany, hnd, hfr⟩ := hrel
    by_cases hlt : k < l.length
    · cases A with
      | none => have := HN.out rfl; omega
      | some a =>
        have HF := Lib.hid hfr
        obtain ⟨hc0, hc1, hc2⟩ := co_lit ((HC.out a rfl k hlt).non hfr)
        have HX : Hid (badC l[k] = true → chkC l = 1) := Lib.hid (fun h => chk_bad hlt h)
        have HY : Hid (badC l[k] = false → (l.take (k + 1)).any badC = false) := Lib.hid (fun h => any_more hlt hany.out h)
        have HD : Hid (∀ j (hj : j < l.length), j < k → l[j].name = l[k].name → chkC l = 1) := Lib.hid (fun j hj hjk h => chk_dup (nodup_not hlt hjk h))
        have HU : Hid ((∀ j (hj : j < l.length), j < k → l[j].name ≠ l[k].name) → (namesC (l.take (k + 1))).Nodup) := Lib.hid (fun h => nodup_more hlt hnd.out h)
        have M := fun W => rname_any l[k].name W (HB.out _ (List.getElem_mem hlt))
        have HK := Lib.hid (HC.out a rfl k hlt)
        clear hany hnd hfr
        generalize l[k] = x at *
        obtain ⟨xn, xt, xb⟩ := x
        dsimp only at hc0 hc1 hc2 HX HY HD HU M
        cases hm : nameB xn
        · have HE := Lib.hid (HX.out (badC_name hm))
          simp only [hm] at M
          replace M := Lib.hid M
          clear HX HY HD HU hm
          go_wp2_with fail
          refine (M.out _).mono ?_
          rintro e w1 ⟨rfl, f1⟩
          go_wp2
          go_ret
          exact ⟨ret_int HE.out.symm, HF.out.trans f1⟩
        · have HM := Lib.hid hm
          simp only [hm] at M
          replace M := Lib.hid M
          clear hm
          go_wp2_with fail
          refine (M.out _).mono ?_
          rintro e w1 ⟨rfl, f1⟩
          have hF1 := HF.out.trans f1
          clear hc0 hc1 hc2
          obtain ⟨hc0, hc1, hc2⟩ := co_lit (HK.out.non hF1)
          dsimp only at hc0 hc1 hc2
          replace hF1 := Lib.hid hF1
          clear HF f1 M
          by_cases t1 : xt < 1
          · have HE := Lib.hid (HX.out (badC_ty (.inl t1)))
            clear HX HY HD HU
            go_wp2
            go_ret
            exact ⟨ret_int HE.out.symm, hF1.out⟩
          · by_cases t3 : 3 < xt
            · have HE := Lib.hid (HX.out (badC_ty (.inr t3)))
              clear HX HY HD HU
              go_wp2
              go_ret
              exact ⟨ret_int HE.out.symm, hF1.out⟩
            · have HE := Lib.hid (HY.out (badC_no HM.out t1 t3))
              clear HX HY
              go_wp2
              go_loopw [4] (fun i wx => ∃ q : Nat, q ≤ k ∧ i = .int .i64 q ∧ Hid (∀ j (hj : j < l.length), j < q → l[j].name ≠ xn) ∧ ∃ n, wx = w1.drewN n) (fun i _ => k - (intOf i).toNat)
              case atStart => exact ⟨0, Nat.zero_le _, rfl, Lib.hid (fun _ _ h => by omega), 0, rfl⟩
              case round =>
                obtain ⟨q, hq, rfl, hne, n, rfl⟩ := hrel
                by_cases hqk : q < k
                · have hql : q < l.length := by omega
                  have HZ : Hid (l[q].name = xn → chkC l = 1) := Lib.hid (HD.out q hql hqk)
                  have HW := Lib.hid (fun h => ne_more hql hne.out h)
                  obtain ⟨y0, y1, y2⟩ := co_lit ((HC.out a rfl q hql).non hF1.out)
                  clear hne
                  generalize l[q] = y at *
                  obtain ⟨yn, yt, yb⟩ := y
                  dsimp only at y0 y1 y2 HZ HW
                  by_cases he : yn = xn
                  · have H := Lib.hid (HZ.out he)
                    have hbe : (yn == xn) = true := by rw [beq_iff_eq]; exact he
                    clear HZ HW he
                    go_wp2
                    go_quiet (fail)
                    go_wp2
                    go_ret
                    exact ⟨ret_int H.out.symm, (hF1.out.drewN n).drewN _⟩
                  · have H := Lib.hid (HW.out he)
                    have hbe : (yn == xn) = false := by rw [beq_eq_false_iff_ne]; exact he
                    clear HZ HW he
                    go_wp2
                    go_quiet (fail)
                    go_wp2
                    go_roundw
                    case rel => exact ⟨q + 1, by omega, by go_num, H, _, rfl⟩
                    case measure => simp [intOf]; omega
                · have H := Lib.hid (HU.out (fun j hj hjk => hne.out j hj (by omega)))
                  clear HU HD hne
                  go_wp2
                  go_roundw
                  case rel => exact ⟨k + 1, by omega, by go_num, HE, H, hF1.out.drewN n⟩
                  case measure => simp [intOf]; omega
    · have HA : Hid (l.any badC = false) := Lib.hid (by have := hany.out; rwa [List.take_of_length_le (by omega)] at this)
      have HD : Hid ((namesC l).Nodup) := Lib.hid (by have := hnd.out; rwa [List.take_of_length_le (by omega)] at this)
      clear hany hnd
      by_cases h0 : l.length = 0
      · have H := Lib.hid (chk_none h0)
        go_wp2
        go_ret
        exact ⟨ret_int H.out.symm, hfr⟩
      · have h0b : ((l.length : Int) == 0) = false := by rw [beq_eq_false_iff_ne]; omega
        have H0 := Lib.hid h0
        clear h0
        by_cases h6 : 6 < l.length
        · have H := Lib.hid (chk_many H0.out HA.out HD.out h6)
          go_wp2
          go_ret
          exact ⟨ret_int H.out.symm, hfr⟩
        · have H := Lib.hid (chk_ok H0.out HA.out HD.out h6)
          go_wp2
          go_ret
          exact ⟨ret_int H.out.symm, hfr⟩

set_option maxHeartbeats 1000000 in
theorem ksmall_any (v : Value) (l : List Co) (w : World) (hv : Ks w v l) :
    Calls Tryz.prog 14 #[v] w fun e w' => ∃ b, e = .returned (.bool b) ∧ (b = true → l.length ≤ 20 ∧ ∀ c ∈ l, c.name.length ≤ 100) ∧ Fr Non w w' := by
  obtain ⟨A, c, rfl, hlc, hn, hcell⟩ := hv
  have HC := Lib.hid hcell
  have HN := Lib.hid hn
  clear hcell hn
  go_enter Tryz.func14, Tryz.ntmps14
  go_wp2
  go_loopw [3] (fun i wr => ∃ (k : Nat), k ≤ l.length ∧ k ≤ 30 ∧ i = .int .i64 k ∧ Hid (∀ j (h : j < l.length), j < k → l[j].name.length ≤ 100) ∧ Fr Non w wr) (fun i _ => 30 - (intOf i).toNat)
  case atStart => exact ⟨0, Nat.zero_le _, Nat.zero_le _, rfl, Lib.hid (fun _ _ h => by omega), Fr.refl _ _⟩
  case round =>
    obtain ⟨k, hk, hk2, rfl, HS, hfr⟩ := hrel
    by_cases hlt : k < l.length
    · by_cases h30 : k < 30
      · cases A with
        | none => have := HN.out rfl; omega
        | some a =>
          obtain ⟨hc0, hc1, hc2⟩ := co_lit ((HC.out a rfl k hlt).non hfr)
          have HY : Hid (l[k].name.length ≤ 100 → ∀ j (h : j < l.length), j < k + 1 → l[j].name.length ≤ 100) := Lib.hid (fun h j hj hjk => by
            by_cases e : j = k
            · subst e; exact h
            · exact HS.out j hj (by omega))
          clear HS
          generalize l[k] = x at *
          obtain ⟨xn, xi, xt⟩ := x
          dsimp only at hc0 hc1 hc2 HY
          have hs := slenN xn
          by_cases hx : 100 < xn.length
          · go_wp2
            go_ret
            exact ⟨false, rfl, (fun h => by cases h), hfr⟩
          · have H := Lib.hid (HY.out (by omega))
            clear HY
            go_wp2
            go_roundw
            case rel => exact ⟨k + 1, by omega, by omega, by go_num, H, hfr⟩
            case measure => simp [intOf]; omega
      · go_wp2
        go_ret
        exact ⟨_, rfl, (fun h => by have := of_decide_eq_true h; omega), hfr⟩
    · have H : Hid (∀ c ∈ l, c.name.length ≤ 100) := Lib.hid (fun c hc => by
        obtain ⟨j, hj, rfl⟩ := List.mem_iff_getElem.1 hc
        exact HS.out j hj (by omega))
      clear HS
      go_wp2
      go_ret
      exact ⟨_, rfl, (fun h => ⟨by have := of_decide_eq_true h; omega, H.out⟩), hfr⟩

theorem chkC_a : chkC [⟨[97], 1, false⟩] = 0 := by decide +kernel

end Go.Proofs.YtheefloegbkflaaGreatDoor


namespace Go.Proofs.YtheefloegbkflaaGreatDoor
set_option linter.unusedVariables false
set_option linter.unusedSimpArgs false
set_option maxRecDepth 100000
open Go.RowKit

theorem colC_at (rs : List (List Cl)) (p k : Nat) (h : k < rs.length) (hp : p < rs[k].length) : (colC rs p)[k]? = some rs[k][p] := by
  unfold colC
  rw [List.getElem?_map, List.getElem?_eq_getElem h]
  simp [hp]
theorem colC_take (rs : List (List Cl)) (p k : Nat) (h : k < rs.length) (hp : p < rs[k].length) : (colC rs p).take (k + 1) = (colC rs p).take k ++ [rs[k][p]] := by
  have hl : k < (colC rs p).length := by rw [colC_length]; exact h
  rw [List.take_succ_eq_append_getElem hl]
  have := colC_at rs p k h hp
  rw [List.getElem?_eq_getElem hl] at this
  rw [Option.some.inj this]

set_option maxHeartbeats 4000000 in
theorem across_any (v : Value) (rs : List (List Cl)) (p : Nat) (w : World) (hv : Rs w v rs) (hl : rs.length ≤ 1000000) (hp : ∀ r ∈ rs, p < r.length) :
    Calls Tryz.prog 27 #[v, .int .i64 p] w fun e w' => ∃ u, e = .returned u ∧ Oc w' w.heap.size u (colC rs p) ∧ Fr Non w w' := by
  obtain ⟨A, c, rfl⟩ := hv.shape
  have HV := Lib.hid hv
  have HP := Lib.hid hp
  clear hv hp
  go_enter Tryz.func27, Tryz.ntmps27
  go_wp2_with (at_make; refine wpList_mkC rfl _ _ rfl _ _ _ _ rs.length rfl rfl rfl rfl (by omega) ?_; intro w2 hown2 hfr2)
  generalize hg : w.heap.size = g at *
  have hgl := Nat.le_of_eq hg
  clear hg
  have HS := Lib.hid hgl
  go_loopw [13] (fun i wr => ∃ (k : Nat) (D : List Cl), k ≤ rs.length ∧ i = .int .i64 k ∧ Hid (D = (colC rs p).take k) ∧ Oc wr g (.slice (some ⟨g, 0, none⟩) rs.length rs.length) (D ++ List.replicate (rs.length - k) noCl) ∧ Fr Non w wr) (fun i _ => rs.length - (intOf i).toNat)
  case atStart => exact ⟨0, [], Nat.zero_le _, rfl, Lib.hid rfl, hown2, hfr2⟩
  case round =>
    clear hown2 hfr2
    obtain ⟨k, D, hk, rfl, HT, hO, hfr⟩ := hrel
    by_cases hlt : k < rs.length
    · have hpk := HP.out rs[k] (List.getElem_mem hlt)
      obtain ⟨a, A', c', rfl, _, hc1, hc2⟩ := (HV.out.non hfr).el k hlt
      have HT2 : Hid (D ++ [rs[k][p]] = (colC rs p).take (k + 1)) := Lib.hid (by rw [colC_take rs p k hlt hpk, HT.out])
      have hD : D.length = k := by rw [HT.out, List.length_take, colC_length]; omega
      have hlen : rs.length = (D ++ List.replicate (rs.length - k) noCl).length := by simp; omega
      have hat : (D ++ List.replicate (rs.length - k) noCl)[k]? = some noCl := by
        have := rep_at D (rs.length - k) noCl (by omega)
        rw [hD] at this; exact this
      have hset : ∀ x : Cl, (D ++ List.replicate (rs.length - k) noCl).set k x = (D ++ [x]) ++ List.replicate (rs.length - (k + 1)) noCl := fun x => by
        have := rep_set D (rs.length - k) noCl x (by omega)
        rw [hD, show rs.length - k - 1 = rs.length - (k + 1) by omega] at this; exact this
      generalize rs[k] = r at *
      have hr0 : 0 < r.length := by omega
      obtain ⟨a', rfl, _, _, hel⟩ := hc2.addr hr0
      obtain ⟨q0, q1, q2⟩ := (hel p hpk).lit
      obtain ⟨e0, e1, e2⟩ := hO.el hlen k _ hat
      have f0 := hO.frozen hlen (k * 3)
      have f1 := hO.frozen hlen (k * 3 + 1)
      have f2 := hO.frozen hlen (k * 3 + 2)
      have hgw : g < wr.heap.size := (hO.lt g rfl).2
      have hO2 := hO.put3 hlen k (by omega) r[p]
      rw [hset] at hO2
      have HO2 := Lib.hid hO2
      generalize r[p] = x at *
      have hfr2 := Lib.hid (hfr.fresh ((((Fr.refl (One g) wr).set1 (k * 3) (.bool x.null)).set1 (k * 3 + 1) (.int .i64 x.num)).set1 (k * 3 + 2) (.string ⟨x.txt.toArray⟩)) (fun q e => by have : q = g := e; have := HS.out; omega))
      obtain ⟨xn, xi, xt⟩ := x
      clear hO2 hO HT hel hset hc2 hlen hat hD hfr
      go_wp2
      go_roundw
      case rel => exact ⟨k + 1, _, by omega, by go_num, HT2, HO2.out, hfr2.out⟩
      case measure => simp [intOf]; omega
    · obtain rfl : k = rs.length := by omega
      have hE : D = colC rs p := by rw [HT.out, List.take_of_length_le (by rw [colC_length]; exact Nat.le_refl _)]
      rw [Nat.sub_self, List.replicate_zero, List.append_nil, hE] at hO
      clear HT
      go_wp2
      go_ret
      exact ⟨_, rfl, hO.mono HS.out, hfr⟩

set_option maxHeartbeats 1000000 in
theorem fault_any (v1 v2 : Value) (cols : List Co) (rows : List (List Cl)) (w : World) (h1 : Ks w v1 cols) (h2 : Rs w v2 rows) (hl : cols.length ≤ 1000000000) (hb : ∀ c ∈ cols, c.name.length ≤ 1000000000) (hr : rows.length ≤ 1000000000) :
    Calls Tryz.prog 25 #[v1, v2] w fun e w' => e = .returned (.int .i64 (segE cols rows)) ∧ Fr Non w w' := by
  obtain ⟨A, c, rfl⟩ := h2.shape
  have H1 := Lib.hid h1
  have H2 := Lib.hid h2
  have HCk := Lib.hid (scheck_any v1 cols w h1 hl hb)
  have HE : Hid (segE cols rows = if chkC cols ≠ 0 ∨ rows.length = 0 then 1 else if 200 < rows.length then 4 else if rows.all (rowB cols) = true then 0 else 10) := Lib.hid rfl
  clear h1 h2 hb
  generalize segE cols rows = E at *
  go_enter Tryz.func25, Tryz.ntmps25
  go_wp2_with fail
  refine HCk.out.mono ?_
  rintro e w1 ⟨rfl, f1⟩
  have F1 := Lib.hid f1
  clear f1 HCk
  by_cases hc : chkC cols = 0
  · have hcb : ((chkC cols) != 0) = false := by rw [hc]; rfl
    by_cases h0 : rows.length = 0
    · have hz : ((rows.length : Int) == 0) = true := by rw [h0]; rfl
      have HE1 : Hid (E = 1) := Lib.hid (by rw [HE.out, if_pos (.inr h0)])
      clear HE h0 hc
      go_wp2
      go_ret
      rw [HE1.out]
      exact ⟨rfl, F1.out⟩
    · have hz : ((rows.length : Int) == 0) = false := by rw [beq_eq_false_iff_ne]; omega
      by_cases h200 : 200 < rows.length
      · have hd : decide (200 < (rows.length : Int)) = true := by simp; omega
        have HE1 : Hid (E = 4) := Lib.hid (by rw [HE.out, if_neg (by omega), if_pos h200])
        clear HE h0 hc h200
        go_wp2
        go_ret
        rw [HE1.out]
        exact ⟨rfl, F1.out⟩
      · have hd : decide (200 < (rows.length : Int)) = false := by simp; omega
        have HE1 : Hid (E = if rows.all (rowB cols) = true then 0 else 10) := Lib.hid (by rw [HE.out, if_neg (by omega), if_neg h200])
        clear HE h0 hc h200
        go_wp2
        go_loopw [20] (fun i wr => ∃ k : Nat, k ≤ rows.length ∧ i = .int .i64 k ∧ Hid ((rows.take k).all (rowB cols) = true) ∧ Fr Non w wr) (fun i _ => rows.length - (intOf i).toNat)
        case atStart => exact ⟨0, Nat.zero_le _, rfl, Lib.hid rfl, F1.out⟩
        case round =>
          clear F1
          obtain ⟨k, hk, rfl, HA, hF⟩ := hrel
          by_cases hlt : k < rows.length
          · obtain ⟨a, A', c', rfl, _, hc1, hc2⟩ := (H2.out.non hF).el k hlt
            have HR := Lib.hid (srow_any v1 _ cols rows[k] wr (H1.out.non hF) hc2 hl)
            have HF := Lib.hid hF
            have HM : Hid (rowB cols rows[k] = true → (rows.take (k + 1)).all (rowB cols) = true) := Lib.hid (fun h => by rw [List.take_succ_eq_append_getElem hlt, List.all_append, HA.out]; simp [h])
            have HX : Hid (rowB cols rows[k] = false → rows.all (rowB cols) = false) := Lib.hid (fun h => List.all_eq_false.2 ⟨rows[k], List.getElem_mem hlt, by simp [h]⟩)
            generalize rows[k] = r at *
            clear hc2 hF HA
            cases hb : rowB cols r with
            | true =>
              have HM2 := Lib.hid (HM.out hb)
              rw [hb] at HR
              clear hb HM HX
              go_wp2_with fail
              refine HR.out.mono ?_
              rintro e w2 ⟨rfl, f2⟩
              have HF2 := Lib.hid (HF.out.trans f2)
              clear HR f2 HF
              go_wp2
              go_roundw
              case rel => exact ⟨k + 1, by omega, by go_num, HM2, HF2.out⟩
              case measure => simp [intOf]; omega
            | false =>
              have HE2 : Hid (E = 10) := Lib.hid (by rw [HE1.out, HX.out hb]; rfl)
              rw [hb] at HR
              clear hb HM HX HE1
              go_wp2_with fail
              refine HR.out.mono ?_
              rintro e w2 ⟨rfl, f2⟩
              have HF2 := Lib.hid (HF.out.trans f2)
              clear HR f2 HF
              go_wp2
              go_ret
              rw [HE2.out]
              exact ⟨rfl, HF2.out⟩
          · have HE2 : Hid (E = 0) := Lib.hid (by
              have h := HA.out
              rw [List.take_of_length_le (by omega)] at h
              rw [HE1.out, if_pos h])
            have HF := Lib.hid hF
            clear HE1 HA hF
            go_wp2
            go_ret
            rw [HE2.out]
            exact ⟨rfl, HF.out⟩
  · have hcb : ((chkC cols) != 0) = true := by rw [bne_iff_ne]; exact hc
    have HE1 : Hid (E = 1) := Lib.hid (by rw [HE.out, if_pos (.inl hc)])
    clear HE hc
    go_wp2
    go_ret
    rw [HE1.out]
    exact ⟨rfl, F1.out⟩
end Go.Proofs.YtheefloegbkflaaGreatDoor


namespace Go.Proofs.YtheefloegbkflaaGreatDoor
set_option linter.unusedVariables false
set_option linter.unusedSimpArgs false
set_option maxRecDepth 100000
open Go.RowKit

theorem no_other {α : Type} {f : α → List Value} {k : Nat} {E t : TypeId} {w : World} {B g : Nat} {v : Value} {l : List α} {cs : Array Value} (h : No f k E w B v l) (hb : Blk w g t cs) (hne : E ≠ t) : ∀ b, v.ownBlock = some b → b ≠ g := by
  rintro b hk rfl
  obtain ⟨cur, h1⟩ := h.kind b hk
  unfold Blk at hb
  rw [hb] at h1
  simp at h1
  exact hne h1.2.symm
end Go.Proofs.YtheefloegbkflaaGreatDoor


namespace Go.Proofs.YtheefloegbkflaaGreatDoor
set_option linter.unusedVariables false
set_option linter.unusedSimpArgs false
set_option maxRecDepth 100000
open Go.RowKit

theorem zeq_dec (a b : Zn) : zeq a b = (decide (a.rows = b.rows) && (decide (a.nulls = b.nulls) && (decide (a.low.null = b.low.null) && (decide (a.low.num = b.low.num) && (decide (a.low.txt = b.low.txt) && (decide (a.high.null = b.high.null) && (decide (a.high.num = b.high.num) && decide (a.high.txt = b.high.txt)))))))) := by
  rw [zeq_parts, Bool.eq_iff_iff]
  simp
theorem ite_andn (W : World) (p : Prop) [Decidable p] (x : Bool) : (if p then Result.ok (Value.bool x) W else Result.ok (Value.bool true) W) = Result.ok (Value.bool (!(decide p && !x))) W := by
  by_cases hp : p <;> simp [hp]
set_option maxHeartbeats 1000000 in
theorem run_neq_zn (W : World) (a b : Zn) : (binOp .neq 56 (.agg #[.int .i64 a.rows, .int .i64 a.nulls, .bool a.low.null, .int .i64 a.low.num, .string ⟨a.low.txt.toArray⟩, .bool a.high.null, .int .i64 a.high.num, .string ⟨a.high.txt.toArray⟩]) (.agg #[.int .i64 b.rows, .int .i64 b.nulls, .bool b.low.null, .int .i64 b.low.num, .string ⟨b.low.txt.toArray⟩, .bool b.high.null, .int .i64 b.high.num, .string ⟨b.high.txt.toArray⟩])).run Tryz.prog W = .ok (.bool (!zeq a b)) W := by
  rw [zeq_dec]
  obtain ⟨ar, an, ⟨aln, ali, alt⟩, ⟨ahn, ahi, aht⟩⟩ := a
  obtain ⟨br, bn, ⟨bln, bli, blt⟩, ⟨bhn, bhi, bht⟩⟩ := b
  dsimp only
  go_simp
  simp only [ite_andn, Bool.and_true, Bool.not_not, Bool.not_false, Bool.not_true, Bool.not_and]

end Go.Proofs.YtheefloegbkflaaGreatDoor


namespace Go.Proofs.YtheefloegbkflaaGreatDoor
set_option linter.unusedVariables false
set_option linter.unusedSimpArgs false
set_option maxRecDepth 100000
open Go.RowKit

def chL (c : Ch) : List Value := [.int .i64 c.off, .int .i64 c.len, .int .i64 c.zn.rows, .int .i64 c.zn.nulls, .bool c.zn.low.null, .int .i64 c.zn.low.num, .string ⟨c.zn.low.txt.toArray⟩, .bool c.zn.high.null, .int .i64 c.zn.high.num, .string ⟨c.zn.high.txt.toArray⟩]
theorem fd_ch : Fd chL 10 := ⟨fun _ => rfl, fun x u hu => by simp [chL] at hu; rcases hu with rfl | rfl | rfl | rfl | rfl | rfl | rfl | rfl | rfl | rfl <;> rfl, by omega, by omega⟩
theorem eln_ch : Eln 38 58 (.agg #[.int .i64 0, .int .i64 0, .int .i64 0, .int .i64 0, .bool false, .int .i64 0, .string ⟨#[]⟩, .bool false, .int .i64 0, .string ⟨#[]⟩]) 10 96 := ⟨Tryz.underlying38, by kernel_rfl, rfl, by decide⟩
abbrev Hs (w : World) (v : Value) (l : List Ch) : Prop := Ns chL 10 w v l
abbrev Ho (w : World) (B : Nat) (v : Value) (l : List Ch) : Prop := No chL 10 58 w B v l
/-- a footer's words in a block -/
abbrev FtB (w : World) (g : Nat) (R : Int) (u : Value) : Prop := Blk w g 40 #[.int .i64 R, u]
theorem load_foot {w : World} {g : Nat} {cs : Array Value} (hg : Blk w g 40 cs) (h2 : cs.size = 2) : (loadVar 40 ⟨g, 0, none⟩).run Tryz.prog w = .ok (.agg cs) w :=
  run_loadVar_row w g 40 40 cs (0, 0) _ hg Tryz.underlying40 rfl (by rw [h2]; kernel_rfl)
theorem ch_ne_src : 58 ≠ 120 := by decide
theorem ch_ne_foot : 58 ≠ 40 := by decide
theorem ks_lit {w : World} {a : Addr} {n c : Nat} {l : List Co} (h : Ks w (.slice (some a) n c) l) (k : Nat) (x : Co) (hx : l[k]? = some x) :
    w.cell? (a.add (k * 3)) = some (.string ⟨x.name.toArray⟩) ∧ w.cell? { block := (a.add (k * 3)).block, off := (a.add (k * 3)).off + 1 } = some (.int .i64 x.ty) ∧ w.cell? { block := (a.add (k * 3)).block, off := (a.add (k * 3)).off + 2 } = some (.bool x.nl) := by
  obtain ⟨a', e, hat⟩ := h.at_ k x hx
  cases e
  exact co_lit hat
end Go.Proofs.YtheefloegbkflaaGreatDoor


namespace Go.Proofs.YtheefloegbkflaaGreatDoor
set_option linter.unusedVariables false
set_option linter.unusedSimpArgs false
set_option maxRecDepth 100000
open Go.RowKit

set_option maxHeartbeats 8000000 in
theorem stake_any (g : Nat) (says : List UInt8) (bad : Bool) (v : Value) (cols : List Co) (w : World) (h : Src w g says bad) (hv : Ks w v cols) (hne : ∀ q, v.ownBlock = some q → q ≠ g) (hl : cols.length ≤ 6) :
    Calls Tryz.prog 42 #[ptr g, v] w fun e w' => ∃ u l0 b0, ((mostV says 200 = 0 ∧ l0 = [] ∧ b0 = true) ∨ (mostV says 200 ≠ 0 ∧ l0 = mostR says 200 ∧ b0 = mostB says 200)) ∧
      e = .returned (.tuple #[.agg #[.int .i64 (mostV says 200 : Nat), u], .int .i64 ((rdSays (mostV says 200) (cols.map Co.ty) 0 l0 b0).2.1 : Nat)]) ∧
      Ho w' w.heap.size u (rdSays (mostV says 200) (cols.map Co.ty) 0 l0 b0).1 ∧ Src w' g (rdSays (mostV says 200) (cols.map Co.ty) 0 l0 b0).2.2.1 (rdSays (mostV says 200) (cols.map Co.ty) 0 l0 b0).2.2.2 ∧ Fr (One g) w w' := by
  obtain ⟨A, c, rfl⟩ := hv.shape
  have HV := Lib.hid hv
  have HNe := Lib.hid hne
  have hg := h.1.lt
  have hB4 : FtB (w.alloc (.cells #[.int .i64 0, .slice none 0 0] 40)) w.heap.size 0 (.slice none 0 0) := Blk.new _ _ _
  have f0 := (Fr.refl (One g) w).alloc (.cells #[.int .i64 0, .slice none 0 0] 40)
  have hs0 := h.fr ((Fr.refl Non w).alloc (.cells #[.int .i64 0, .slice none 0 0] 40)) (fun e => e)
  have hz : (w.alloc (.cells #[.int .i64 0, .slice none 0 0] 40)).heap.size = w.heap.size + 1 := by simp
  have h0 := below_any g says bad 201 _ hs0 (by omega)
  rw [show (201 : Int) - 1 = 200 by rfl] at h0
  have hm := mostK_le says (show (0 : Int) ≤ 200 by omega)
  have hgt := hB4.lt
  clear h hv hne hs0
  generalize mostV says 200 = R at *
  generalize mostR says 200 = l1 at *
  generalize mostB says 200 = b1 at *
  go_enter Tryz.func42, Tryz.ntmps42
  go_wp2_with fail
  generalize w.alloc (.cells #[.int .i64 0, .slice none 0 0] 40) = W0 at *
  refine h0.mono ?_
  rintro e w1 ⟨rfl, s1, f1⟩
  clear h0
  have hwg : w.heap.size ≠ g := by omega
  have hB41 := hB4.fr f1 (fun e => hwg e)
  have F1 := f0.trans f1
  have fa := (Fr.refl Non w1).alloc (.cells #[.int .i64 (R : Int), .slice none 0 0] 40)
  have hB6 : FtB (w1.alloc (.cells #[.int .i64 (R : Int), .slice none 0 0] 40)) w1.heap.size (R : Int) (.slice none 0 0) := Blk.new _ _ _
  have hB42 := hB41.fr fa (fun e => e)
  have s2 := s1.fr fa (fun e => e)
  have F2 := F1.then fa
  have hw1 := F1.size
  have hgt1 := hB41.lt
  have hg1 := s1.1.lt
  have hc60 : (w1.alloc (.cells #[.int .i64 (R : Int), .slice none 0 0] 40)).cell? ⟨w1.heap.size, 0, none⟩ = some (.int .i64 R) := hB6.cell 0
  clear hB4 f0 f1 hB41 F1 fa s1 hz hgt
  have hg6 : w1.heap.size ≠ w.heap.size := by omega
  have hg6' : w1.heap.size ≠ g := by omega
  clear hgt1
  by_cases hR : R = 0
  · have hRb : ((R : Int) == 0) = true := by rw [hR]; rfl
    have HF := Lib.hid (fail_any g l1 b1 _ s2)
    have hR0 := Lib.hid hR
    clear s2 hR
    go_wp2_with fail
    refine HF.out.mono ?_
    rintro e w3 ⟨rfl, s3, f3⟩
    have hB43 := hB42.fr f3 (fun e => hwg e)
    have hB63 := hB6.fr f3 (fun e => hg6' e)
    have F3 := F2.trans f3
    clear HF hB42 hB6 F2 f3 hc60 hRb
    have HE : Hid (rdSays (R : Int) (cols.map Co.ty) 0 [] true = rdSays (R : Int) (cols.map Co.ty) 0 [] true) := Lib.hid rfl
    generalize hX : rdSays (R : Int) (cols.map Co.ty) 0 [] true = X at *
    have HX := Lib.hid hX
    clear HE hX
    have hlm : (cols.map Co.ty).length = cols.length := by simp
    have HM : Hid (∀ k (h : k < cols.length), (cols.map Co.ty)[k]'(by rw [hlm]; exact h) = cols[k].ty) := Lib.hid (fun k h => by simp)
    go_wp2
    generalize w1.heap.size = g6 at *
    go_loopw [7, 22] (fun x i wr => ∃ (k at_ : Nat) (D : List Ch) (q : List UInt8) (bad' : Bool) (u : Value), k ≤ cols.length ∧ i = .int .i64 k ∧ x = .int .i64 at_ ∧ Hid (ToS R (cols.map Co.ty) [] true k D at_ q bad') ∧ Src wr g q bad' ∧ FtB wr w.heap.size 0 (.slice none 0 0) ∧ FtB wr g6 R u ∧ Ho wr w.heap.size u D ∧ Fr (One g) w wr) (fun _ i _ => cols.length - (intOf i).toNat)
    case atStart => exact ⟨0, 0, [], [], true, .slice none 0 0, Nat.zero_le _, rfl, rfl, Lib.hid (toS_zero _ _ _ _), s3, hB43, hB63, no_nil _ _, F3⟩
    case round =>
      clear s3 hB43 hB63 F3
      obtain ⟨k, at_, D, q, bad', u, hk, rfl, rfl, HT, hs, hB4, hB6, hO, hF⟩ := hrel
      have hD6 : D.length ≤ 6 := by have := HT.out.len; omega
      have hbig := HT.out.big
      obtain ⟨Au, cu, rfl⟩ := (hO.ns fd_ch).shape
      have hg6lt := hB6.lt
      have hw0lt := hB4.lt
      have hglt := hs.1.lt
      by_cases hlt : k < cols.length
      · have HVr := HV.out.fr hF (fun b hb e => HNe.out b hb e)
        obtain ⟨a, rfl, _⟩ := HVr.at_ k cols[k] (List.getElem?_eq_getElem hlt)
        obtain ⟨c0, c1, c2⟩ := ks_lit HVr k cols[k] (List.getElem?_eq_getElem hlt)
        have HT2 := Lib.hid (toS_step HT.out (by rw [hlm]; exact hlt))
        rw [HM.out k hlt] at HT2
        have hm2 := mostK_le q (show (0 : Int) ≤ 1048576 by omega)
        have T1 := Lib.hid (fun W (s : Src W g q bad') => below_any g q bad' 1048577 W s (by omega))
        rw [show (1048577 : Int) - 1 = 1048576 by rfl] at T1
        have T2 := Lib.hid (fun W s => ztake_any g (mostR q 1048576) (mostB q 1048576) cols[k].ty W s)
        have HSay : Hid (rdSay (R : Int) cols[k].ty q = if (tkZ cols[k].ty (mostR q 1048576)).1.rows = (R : Int) then (tkZ cols[k].ty (mostR q 1048576)).2 else ([], true)) := Lib.hid rfl
        generalize rdSay (R : Int) cols[k].ty q = sy at *
        generalize tkZ cols[k].ty (mostR q 1048576) = tz at *
        generalize mostV q 1048576 = m at *
        generalize mostR q 1048576 = q1 at *
        generalize mostB q 1048576 = bq at *
        generalize cols[k] = cc at *
        obtain ⟨nm, ty, nl⟩ := cc
        obtain ⟨z, q2, bad2⟩ := tz
        dsimp only at c0 c1 c2 HT2 T2 HSay
        unfold znV znC at T2
        have fa := (Fr.refl Non wr).alloc (.cells #[.string ⟨nm.toArray⟩, .int .i64 ty, .bool nl] 69)
        have b3 := co_new wr ⟨nm, ty, nl⟩
        have hs3 := hs.fr fa (fun e => e)
        have hB43 := hB4.fr fa (fun e => e)
        have hB63 := hB6.fr fa (fun e => e)
        have hO3 := hO.non fa
        have hF3 := hF.then fa
        have hz3 : (wr.alloc (.cells #[.string ⟨nm.toArray⟩, .int .i64 ty, .bool nl] 69)).heap.size = wr.heap.size + 1 := by simp
        replace T1 := Lib.hid (T1.out _ hs3)
        replace b3 : Hid (CoB _ _ _) := Lib.hid b3
        replace hB43 : Hid (FtB _ _ _ _) := Lib.hid hB43
        replace hB63 : Hid (FtB _ _ _ _) := Lib.hid hB63
        replace hO3 := Lib.hid hO3
        replace hF3 := Lib.hid hF3
        have hwr := hF.size
        clear hs hB4 hB6 hO hF fa HVr HT hs3
        go_wp2_with fail
        refine T1.out.mono ?_
        rintro e w4 ⟨rfl, s4, f4⟩
        generalize hgc : wr.heap.size = gc at *
        have hcg : gc ≠ g := by omega
        have b4 : CoB w4 gc ⟨nm, ty, nl⟩ := b3.out.fr f4 (fun e => hcg e)
        have hB44 := hB43.out.fr f4 (fun e => hwg e)
        have hB64 := hB63.out.fr f4 (fun e => hg6' e)
        have hO4 := hO3.out.fr f4 (fun b hb e => by have h1 : b = g := e; have := (hO3.out.lt b hb).1; omega)
        have hF4 := hF3.out.trans f4
        have d1 : w4.cell? ⟨gc, 1, none⟩ = some (.int .i64 ty) := b4.cell 1
        replace T2 := Lib.hid (T2.out _ s4)
        have hF4' := Lib.hid hF4
        have hsz4 := hF4.size
        have hgc4 := b4.lt
        have hB44 : Hid (FtB _ _ _ _) := Lib.hid hB44
        have hB64 : Hid (FtB _ _ _ _) := Lib.hid hB64
        have hO4 := Lib.hid hO4
        clear T1 b3 hB43 hB63 hO3 hF3 b4 hF4 f4 s4 c0 c1 c2
        go_wp2_with fail
        refine T2.out.mono ?_
        rintro e w5 ⟨rfl, s5, f5⟩
        have hB45 := hB44.out.fr f5 (fun e => hwg e)
        have hB65 := hB64.out.fr f5 (fun e => hg6' e)
        have hO5 := hO4.out.fr f5 (fun b hb e => by have h1 : b = g := e; have := (hO4.out.lt b hb).1; omega)
        have hF5 := hF4'.out.trans f5
        have hf5s := f5.size
        have ga := (Fr.refl Non w5).alloc (.cells (znC z) 56)
        have zb : ZnB (w5.alloc (.cells (znC z) 56)) w5.heap.size z := Blk.new _ _ _
        have s6 := s5.fr ga (fun e => e)
        have hB46 := hB45.fr ga (fun e => e)
        have hB66 := hB65.fr ga (fun e => e)
        have hO6 := hO5.non ga
        have hF6 := hF5.then ga
        have hgz5 : g6 < w5.heap.size := by omega
        unfold znC at zb ga s6 hB46 hB66 hO6 hF6
        have z0 : (w5.alloc (.cells #[.int .i64 z.rows, .int .i64 z.nulls, .bool z.low.null, .int .i64 z.low.num, .string ⟨z.low.txt.toArray⟩, .bool z.high.null, .int .i64 z.high.num, .string ⟨z.high.txt.toArray⟩] 56)).cell? ⟨w5.heap.size, 0, none⟩ = some (.int .i64 z.rows) := zb.cell 0
        have z60 : (w5.alloc (.cells #[.int .i64 z.rows, .int .i64 z.nulls, .bool z.low.null, .int .i64 z.low.num, .string ⟨z.low.txt.toArray⟩, .bool z.high.null, .int .i64 z.high.num, .string ⟨z.high.txt.toArray⟩] 56)).cell? ⟨g6, 0, none⟩ = some (.int .i64 R) := hB66.cell 0
        clear T2 hB44 hB64 hO4 hF4' hB45 hB65 hO5 hF5 ga s5 d1 hgc f5
        have hzg : w5.heap.size ≠ g := by omega
        have hmm : IntKind.i64.wrap ((at_ : Int) + m) = (at_ + m : Nat) := by rw [IntWalk.i64_in _ ⟨by omega, by omega⟩]; push_cast; rfl
        by_cases hzr : z.rows = (R : Int)
        · have hzb : (z.rows != (R : Int)) = false := by rw [hzr]; simp
          have HSy2 : Hid (sy = (q2, bad2)) := Lib.hid (by rw [HSay.out, if_pos hzr])
          clear hzr
          have hsW := s6
          have y0 : (w5.alloc (.cells #[.int .i64 z.rows, .int .i64 z.nulls, .bool z.low.null, .int .i64 z.low.num, .string ⟨z.low.txt.toArray⟩, .bool z.high.null, .int .i64 z.high.num, .string ⟨z.high.txt.toArray⟩] 56)).cell? ⟨w5.heap.size, 0, none⟩ = some (.int .i64 z.rows) := zb.cell 0
          have y1 : (w5.alloc (.cells #[.int .i64 z.rows, .int .i64 z.nulls, .bool z.low.null, .int .i64 z.low.num, .string ⟨z.low.txt.toArray⟩, .bool z.high.null, .int .i64 z.high.num, .string ⟨z.high.txt.toArray⟩] 56)).cell? ⟨w5.heap.size, 1, none⟩ = some (.int .i64 z.nulls) := zb.cell 1
          have y2 : (w5.alloc (.cells #[.int .i64 z.rows, .int .i64 z.nulls, .bool z.low.null, .int .i64 z.low.num, .string ⟨z.low.txt.toArray⟩, .bool z.high.null, .int .i64 z.high.num, .string ⟨z.high.txt.toArray⟩] 56)).cell? ⟨w5.heap.size, 2, none⟩ = some (.bool z.low.null) := zb.cell 2
          have y3 : (w5.alloc (.cells #[.int .i64 z.rows, .int .i64 z.nulls, .bool z.low.null, .int .i64 z.low.num, .string ⟨z.low.txt.toArray⟩, .bool z.high.null, .int .i64 z.high.num, .string ⟨z.high.txt.toArray⟩] 56)).cell? ⟨w5.heap.size, 3, none⟩ = some (.int .i64 z.low.num) := zb.cell 3
          have y4 : (w5.alloc (.cells #[.int .i64 z.rows, .int .i64 z.nulls, .bool z.low.null, .int .i64 z.low.num, .string ⟨z.low.txt.toArray⟩, .bool z.high.null, .int .i64 z.high.num, .string ⟨z.high.txt.toArray⟩] 56)).cell? ⟨w5.heap.size, 4, none⟩ = some (.string ⟨z.low.txt.toArray⟩) := zb.cell 4
          have y5 : (w5.alloc (.cells #[.int .i64 z.rows, .int .i64 z.nulls, .bool z.low.null, .int .i64 z.low.num, .string ⟨z.low.txt.toArray⟩, .bool z.high.null, .int .i64 z.high.num, .string ⟨z.high.txt.toArray⟩] 56)).cell? ⟨w5.heap.size, 5, none⟩ = some (.bool z.high.null) := zb.cell 5
          have y6 : (w5.alloc (.cells #[.int .i64 z.rows, .int .i64 z.nulls, .bool z.low.null, .int .i64 z.low.num, .string ⟨z.low.txt.toArray⟩, .bool z.high.null, .int .i64 z.high.num, .string ⟨z.high.txt.toArray⟩] 56)).cell? ⟨w5.heap.size, 6, none⟩ = some (.int .i64 z.high.num) := zb.cell 6
          have y7 : (w5.alloc (.cells #[.int .i64 z.rows, .int .i64 z.nulls, .bool z.low.null, .int .i64 z.low.num, .string ⟨z.low.txt.toArray⟩, .bool z.high.null, .int .i64 z.high.num, .string ⟨z.high.txt.toArray⟩] 56)).cell? ⟨w5.heap.size, 7, none⟩ = some (.string ⟨z.high.txt.toArray⟩) := zb.cell 7
          have k1 : (w5.alloc (.cells #[.int .i64 z.rows, .int .i64 z.nulls, .bool z.low.null, .int .i64 z.low.num, .string ⟨z.low.txt.toArray⟩, .bool z.high.null, .int .i64 z.high.num, .string ⟨z.high.txt.toArray⟩] 56)).cell? ⟨g6, 1, none⟩ = some (.slice Au D.length cu) := hB66.cell 1
          have hsz := hF6.size
          have HB4 : Hid (FtB _ _ _ _) := Lib.hid hB46
          have HB6 : Hid (FtB _ _ _ _) := Lib.hid hB66
          have HO := Lib.hid hO6
          have HF := Lib.hid hF6
          have HS := Lib.hid hsW
          clear hB46 hB66 hO6 hF6 hsW zb
          go_wp2_with (at_builtin; refine wpList_pushN fd_ch eln_ch rfl (.tmp 40) (.tmp 45) rfl w.heap.size _ D rfl HO.out ⟨at_, m, z⟩ #[.int .i64 (at_ : Int), .int .i64 (m : Int), .int .i64 z.rows, .int .i64 z.nulls, .bool z.low.null, .int .i64 z.low.num, .string ⟨z.low.txt.toArray⟩, .bool z.high.null, .int .i64 z.high.num, .string ⟨z.high.txt.toArray⟩] rfl _ rfl (by simp) (by omega) hsz ?_; intro v8 w8 hO8 f8; obtain ⟨A8, n8, c8, rfl⟩ : ∃ A n c, v8 = Value.slice A n c := (by obtain ⟨A, c, h⟩ := (hO8.ns fd_ch).shape; exact ⟨A, _, c, h⟩); have hB68 : FtB w8 g6 R (.slice Au D.length cu) := HB6.out.fr f8 (fun e => no_other HO.out HB6.out ch_ne_foot _ e rfl); have x1 : w8.cell? ⟨g6, 1, none⟩ = some (.slice Au D.length cu) := hB68.cell 1; have x1f := hB68.frozen 1)
          have f8t := f8
          have hB48 := HB4.out.fr f8 (fun e => no_other HO.out HB4.out ch_ne_foot _ e rfl)
          have hS8 := HS.out.fr f8 (fun e => no_other HO.out HS.out.1 ch_ne_src _ e rfl)
          have hF8 := HF.out.fresh f8 (fun b hb => (HO.out.lt b hb).1)
          have fs := (Fr.refl (One g6) w8).set1 1 (.slice A8 n8 c8)
          have hB69 : FtB (w8.setCell ⟨g6, 1, none⟩ (.slice A8 n8 c8)) g6 R (.slice A8 n8 c8) := hB68.set 1 _
          have hO9 := hO8.fr fs (fun b hb e => no_other hO8 hB68 ch_ne_foot b hb e)
          have hB49 := hB48.fr fs (fun e => hg6 e.symm)
          have hS9 := hS8.fr fs (fun e => hg6' e.symm)
          have hF9 := hF8.fresh fs (fun b e => by have h1 : b = g6 := e; omega)
          rw [HSy2.out] at HT2
          go_roundw
          case rel => exact ⟨k + 1, at_ + m, _, _, _, .slice A8 n8 c8, by omega, by go_num, (by first | rfl | (push_cast; rfl) | (rw [← hmm])), HT2, hS9, hB49, hB69, hO9, hF9⟩
          case measure => simp [intOf]; omega
        · have hzb : (z.rows != (R : Int)) = true := by rw [bne_iff_ne]; exact hzr
          have HSy2 : Hid (sy = ([], true)) := Lib.hid (by rw [HSay.out, if_neg hzr])
          clear hzr
          have HFl := Lib.hid (fail_any g q2 bad2 _ s6)
          have zb' : Hid (Blk _ _ _ _) := Lib.hid zb
          have hB46' : Hid (FtB _ _ _ _) := Lib.hid hB46
          have hB66' : Hid (FtB _ _ _ _) := Lib.hid hB66
          have hO6' := Lib.hid hO6
          have hF6' := Lib.hid hF6
          clear s6 zb hB46 hB66 hO6 hF6
          go_wp2_with fail
          refine HFl.out.mono ?_
          rintro e w7 ⟨rfl, hsW, f7⟩
          have zb := zb'.out.fr f7 (fun e => hzg e)
          have hB46 := hB46'.out.fr f7 (fun e => hwg e)
          have hB66 := hB66'.out.fr f7 (fun e => hg6' e)
          have hO6 := hO6'.out.fr f7 (fun b hb e => by have h1 : b = g := e; have := (hO6'.out.lt b hb).1; omega)
          have hF6 := hF6'.out.trans f7
          clear HFl zb' hB46' hB66' hO6' hF6' f7 z0 z60
          have y0 : w7.cell? ⟨w5.heap.size, 0, none⟩ = some (.int .i64 z.rows) := zb.cell 0
          have y1 : w7.cell? ⟨w5.heap.size, 1, none⟩ = some (.int .i64 z.nulls) := zb.cell 1
          have y2 : w7.cell? ⟨w5.heap.size, 2, none⟩ = some (.bool z.low.null) := zb.cell 2
          have y3 : w7.cell? ⟨w5.heap.size, 3, none⟩ = some (.int .i64 z.low.num) := zb.cell 3
          have y4 : w7.cell? ⟨w5.heap.size, 4, none⟩ = some (.string ⟨z.low.txt.toArray⟩) := zb.cell 4
          have y5 : w7.cell? ⟨w5.heap.size, 5, none⟩ = some (.bool z.high.null) := zb.cell 5
          have y6 : w7.cell? ⟨w5.heap.size, 6, none⟩ = some (.int .i64 z.high.num) := zb.cell 6
          have y7 : w7.cell? ⟨w5.heap.size, 7, none⟩ = some (.string ⟨z.high.txt.toArray⟩) := zb.cell 7
          have k1 : w7.cell? ⟨g6, 1, none⟩ = some (.slice Au D.length cu) := hB66.cell 1
          have hsz := hF6.size
          have HB4 : Hid (FtB _ _ _ _) := Lib.hid hB46
          have HB6 : Hid (FtB _ _ _ _) := Lib.hid hB66
          have HO := Lib.hid hO6
          have HF := Lib.hid hF6
          have HS := Lib.hid hsW
          clear hB46 hB66 hO6 hF6 hsW zb
          go_wp2_with (at_builtin; refine wpList_pushN fd_ch eln_ch rfl (.tmp 40) (.tmp 45) rfl w.heap.size _ D rfl HO.out ⟨at_, m, z⟩ #[.int .i64 (at_ : Int), .int .i64 (m : Int), .int .i64 z.rows, .int .i64 z.nulls, .bool z.low.null, .int .i64 z.low.num, .string ⟨z.low.txt.toArray⟩, .bool z.high.null, .int .i64 z.high.num, .string ⟨z.high.txt.toArray⟩] rfl _ rfl (by simp) (by omega) hsz ?_; intro v8 w8 hO8 f8; obtain ⟨A8, n8, c8, rfl⟩ : ∃ A n c, v8 = Value.slice A n c := (by obtain ⟨A, c, h⟩ := (hO8.ns fd_ch).shape; exact ⟨A, _, c, h⟩); have hB68 : FtB w8 g6 R (.slice Au D.length cu) := HB6.out.fr f8 (fun e => no_other HO.out HB6.out ch_ne_foot _ e rfl); have x1 : w8.cell? ⟨g6, 1, none⟩ = some (.slice Au D.length cu) := hB68.cell 1; have x1f := hB68.frozen 1)
          have f8t := f8
          have hB48 := HB4.out.fr f8 (fun e => no_other HO.out HB4.out ch_ne_foot _ e rfl)
          have hS8 := HS.out.fr f8 (fun e => no_other HO.out HS.out.1 ch_ne_src _ e rfl)
          have hF8 := HF.out.fresh f8 (fun b hb => (HO.out.lt b hb).1)
          have fs := (Fr.refl (One g6) w8).set1 1 (.slice A8 n8 c8)
          have hB69 : FtB (w8.setCell ⟨g6, 1, none⟩ (.slice A8 n8 c8)) g6 R (.slice A8 n8 c8) := hB68.set 1 _
          have hO9 := hO8.fr fs (fun b hb e => no_other hO8 hB68 ch_ne_foot b hb e)
          have hB49 := hB48.fr fs (fun e => hg6 e.symm)
          have hS9 := hS8.fr fs (fun e => hg6' e.symm)
          have hF9 := hF8.fresh fs (fun b e => by have h1 : b = g6 := e; omega)
          rw [HSy2.out] at HT2
          go_roundw
          case rel => exact ⟨k + 1, at_ + m, _, _, _, .slice A8 n8 c8, by omega, by go_num, (by first | rfl | (push_cast; rfl) | (rw [← hmm])), HT2, hS9, hB49, hB69, hO9, hF9⟩
          case measure => simp [intOf]; omega
      · have hE := toS_end HT.out (show (cols.map Co.ty).length ≤ k by rw [hlm]; omega)
        rw [HX.out] at hE
        have HE2 := Lib.hid hE
        clear hE HT
        have HB4 : Hid (FtB _ _ _ _) := Lib.hid hB4
        have HO := Lib.hid hO
        have HF := Lib.hid hF
        have HS := Lib.hid hs
        have k0 : wr.cell? ⟨g6, 0, none⟩ = some (.int .i64 R) := hB6.cell 0
        have k1 : wr.cell? ⟨g6, 1, none⟩ = some (.slice Au D.length cu) := hB6.cell 1
        have e0 : wr.cell? ⟨w.heap.size, 0, none⟩ = some (.int .i64 0) := hB4.cell 0
        have e1 : wr.cell? ⟨w.heap.size, 1, none⟩ = some (.slice none 0 0) := hB4.cell 1
        have fz0 := hB4.frozen 0
        have fz1 := hB4.frozen 1
        clear hB4 hB6 hO hF hs
        go_wp2
        (try simp only [Exit.inBlock, Exit.then])
        have hBe : Blk ((wr.setCell ⟨w.heap.size, 0, none⟩ (.int .i64 R)).setCell ⟨w.heap.size, 1, none⟩ (.slice Au D.length cu)) w.heap.size 40 #[.int .i64 R, .slice Au D.length cu] := (HB4.out.set 0 _).set 1 _
        have fs := ((Fr.refl (One w.heap.size) wr).set1 0 (.int .i64 (R : Int))).set1 1 (.slice Au D.length cu)
        refine bodyPost_ret (v := .tuple #[.agg #[.int .i64 R, .slice Au D.length cu], .int .i64 at_]) (ret_cell (p := 4) (u := 5) (ty := 40) rfl _ _ w.heap.size _ _ rfl hBe (load_foot hBe rfl)) rfl ?_
        refine ⟨.slice Au D.length cu, [], true, .inl ⟨hR0.out, rfl, rfl⟩, ?_, ?_, ?_, HF.out.fresh fs (fun b e => Nat.le_of_eq (show w.heap.size = b from e.symm))⟩
        · rw [HX.out, HE2.out]
        · rw [HX.out, HE2.out]; exact HO.out.fr fs (fun b hb e => no_other HO.out HB4.out ch_ne_foot b hb e)
        · rw [HX.out, HE2.out]; exact HS.out.fr fs (fun e => hwg e.symm)
  · have hRb : ((R : Int) == 0) = false := by rw [beq_eq_false_iff_ne]; omega
    have hR0 := Lib.hid hR
    have hB43 := hB42
    have hB63 := hB6
    have s3 := s2
    have F3 := F2
    clear hB42 hB6 F2 s2 hR
    have HE : Hid (rdSays (R : Int) (cols.map Co.ty) 0 l1 b1 = rdSays (R : Int) (cols.map Co.ty) 0 l1 b1) := Lib.hid rfl
    generalize hX : rdSays (R : Int) (cols.map Co.ty) 0 l1 b1 = X at *
    have HX := Lib.hid hX
    clear HE hX
    have hlm : (cols.map Co.ty).length = cols.length := by simp
    have HM : Hid (∀ k (h : k < cols.length), (cols.map Co.ty)[k]'(by rw [hlm]; exact h) = cols[k].ty) := Lib.hid (fun k h => by simp)
    go_wp2
    generalize w1.heap.size = g6 at *
    go_loopw [7, 22] (fun x i wr => ∃ (k at_ : Nat) (D : List Ch) (q : List UInt8) (bad' : Bool) (u : Value), k ≤ cols.length ∧ i = .int .i64 k ∧ x = .int .i64 at_ ∧ Hid (ToS R (cols.map Co.ty) l1 b1 k D at_ q bad') ∧ Src wr g q bad' ∧ FtB wr w.heap.size 0 (.slice none 0 0) ∧ FtB wr g6 R u ∧ Ho wr w.heap.size u D ∧ Fr (One g) w wr) (fun _ i _ => cols.length - (intOf i).toNat)
    case atStart => exact ⟨0, 0, [], l1, b1, .slice none 0 0, Nat.zero_le _, rfl, rfl, Lib.hid (toS_zero _ _ _ _), s3, hB43, hB63, no_nil _ _, F3⟩
    case round =>
      clear s3 hB43 hB63 F3
      obtain ⟨k, at_, D, q, bad', u, hk, rfl, rfl, HT, hs, hB4, hB6, hO, hF⟩ := hrel
      have hD6 : D.length ≤ 6 := by have := HT.out.len; omega
      have hbig := HT.out.big
      obtain ⟨Au, cu, rfl⟩ := (hO.ns fd_ch).shape
      have hg6lt := hB6.lt
      have hw0lt := hB4.lt
      have hglt := hs.1.lt
      by_cases hlt : k < cols.length
      · have HVr := HV.out.fr hF (fun b hb e => HNe.out b hb e)
        obtain ⟨a, rfl, _⟩ := HVr.at_ k cols[k] (List.getElem?_eq_getElem hlt)
        obtain ⟨c0, c1, c2⟩ := ks_lit HVr k cols[k] (List.getElem?_eq_getElem hlt)
        have HT2 := Lib.hid (toS_step HT.out (by rw [hlm]; exact hlt))
        rw [HM.out k hlt] at HT2
        have hm2 := mostK_le q (show (0 : Int) ≤ 1048576 by omega)
        have T1 := Lib.hid (fun W (s : Src W g q bad') => below_any g q bad' 1048577 W s (by omega))
        rw [show (1048577 : Int) - 1 = 1048576 by rfl] at T1
        have T2 := Lib.hid (fun W s => ztake_any g (mostR q 1048576) (mostB q 1048576) cols[k].ty W s)
        have HSay : Hid (rdSay (R : Int) cols[k].ty q = if (tkZ cols[k].ty (mostR q 1048576)).1.rows = (R : Int) then (tkZ cols[k].ty (mostR q 1048576)).2 else ([], true)) := Lib.hid rfl
        generalize rdSay (R : Int) cols[k].ty q = sy at *
        generalize tkZ cols[k].ty (mostR q 1048576) = tz at *
        generalize mostV q 1048576 = m at *
        generalize mostR q 1048576 = q1 at *
        generalize mostB q 1048576 = bq at *
        generalize cols[k] = cc at *
        obtain ⟨nm, ty, nl⟩ := cc
        obtain ⟨z, q2, bad2⟩ := tz
        dsimp only at c0 c1 c2 HT2 T2 HSay
        unfold znV znC at T2
        have fa := (Fr.refl Non wr).alloc (.cells #[.string ⟨nm.toArray⟩, .int .i64 ty, .bool nl] 69)
        have b3 := co_new wr ⟨nm, ty, nl⟩
        have hs3 := hs.fr fa (fun e => e)
        have hB43 := hB4.fr fa (fun e => e)
        have hB63 := hB6.fr fa (fun e => e)
        have hO3 := hO.non fa
        have hF3 := hF.then fa
        have hz3 : (wr.alloc (.cells #[.string ⟨nm.toArray⟩, .int .i64 ty, .bool nl] 69)).heap.size = wr.heap.size + 1 := by simp
        replace T1 := Lib.hid (T1.out _ hs3)
        replace b3 : Hid (CoB _ _ _) := Lib.hid b3
        replace hB43 : Hid (FtB _ _ _ _) := Lib.hid hB43
        replace hB63 : Hid (FtB _ _ _ _) := Lib.hid hB63
        replace hO3 := Lib.hid hO3
        replace hF3 := Lib.hid hF3
        have hwr := hF.size
        clear hs hB4 hB6 hO hF fa HVr HT hs3
        go_wp2_with fail
        refine T1.out.mono ?_
        rintro e w4 ⟨rfl, s4, f4⟩
        generalize hgc : wr.heap.size = gc at *
        have hcg : gc ≠ g := by omega
        have b4 : CoB w4 gc ⟨nm, ty, nl⟩ := b3.out.fr f4 (fun e => hcg e)
        have hB44 := hB43.out.fr f4 (fun e => hwg e)
        have hB64 := hB63.out.fr f4 (fun e => hg6' e)
        have hO4 := hO3.out.fr f4 (fun b hb e => by have h1 : b = g := e; have := (hO3.out.lt b hb).1; omega)
        have hF4 := hF3.out.trans f4
        have d1 : w4.cell? ⟨gc, 1, none⟩ = some (.int .i64 ty) := b4.cell 1
        replace T2 := Lib.hid (T2.out _ s4)
        have hF4' := Lib.hid hF4
        have hsz4 := hF4.size
        have hgc4 := b4.lt
        have hB44 : Hid (FtB _ _ _ _) := Lib.hid hB44
        have hB64 : Hid (FtB _ _ _ _) := Lib.hid hB64
        have hO4 := Lib.hid hO4
        clear T1 b3 hB43 hB63 hO3 hF3 b4 hF4 f4 s4 c0 c1 c2
        go_wp2_with fail
        refine T2.out.mono ?_
        rintro e w5 ⟨rfl, s5, f5⟩
        have hB45 := hB44.out.fr f5 (fun e => hwg e)
        have hB65 := hB64.out.fr f5 (fun e => hg6' e)
        have hO5 := hO4.out.fr f5 (fun b hb e => by have h1 : b = g := e; have := (hO4.out.lt b hb).1; omega)
        have hF5 := hF4'.out.trans f5
        have hf5s := f5.size
        have ga := (Fr.refl Non w5).alloc (.cells (znC z) 56)
        have zb : ZnB (w5.alloc (.cells (znC z) 56)) w5.heap.size z := Blk.new _ _ _
        have s6 := s5.fr ga (fun e => e)
        have hB46 := hB45.fr ga (fun e => e)
        have hB66 := hB65.fr ga (fun e => e)
        have hO6 := hO5.non ga
        have hF6 := hF5.then ga
        have hgz5 : g6 < w5.heap.size := by omega
        unfold znC at zb ga s6 hB46 hB66 hO6 hF6
        have z0 : (w5.alloc (.cells #[.int .i64 z.rows, .int .i64 z.nulls, .bool z.low.null, .int .i64 z.low.num, .string ⟨z.low.txt.toArray⟩, .bool z.high.null, .int .i64 z.high.num, .string ⟨z.high.txt.toArray⟩] 56)).cell? ⟨w5.heap.size, 0, none⟩ = some (.int .i64 z.rows) := zb.cell 0
        have z60 : (w5.alloc (.cells #[.int .i64 z.rows, .int .i64 z.nulls, .bool z.low.null, .int .i64 z.low.num, .string ⟨z.low.txt.toArray⟩, .bool z.high.null, .int .i64 z.high.num, .string ⟨z.high.txt.toArray⟩] 56)).cell? ⟨g6, 0, none⟩ = some (.int .i64 R) := hB66.cell 0
        clear T2 hB44 hB64 hO4 hF4' hB45 hB65 hO5 hF5 ga s5 d1 hgc f5
        have hzg : w5.heap.size ≠ g := by omega
        have hmm : IntKind.i64.wrap ((at_ : Int) + m) = (at_ + m : Nat) := by rw [IntWalk.i64_in _ ⟨by omega, by omega⟩]; push_cast; rfl
        by_cases hzr : z.rows = (R : Int)
        · have hzb : (z.rows != (R : Int)) = false := by rw [hzr]; simp
          have HSy2 : Hid (sy = (q2, bad2)) := Lib.hid (by rw [HSay.out, if_pos hzr])
          clear hzr
          have hsW := s6
          have y0 : (w5.alloc (.cells #[.int .i64 z.rows, .int .i64 z.nulls, .bool z.low.null, .int .i64 z.low.num, .string ⟨z.low.txt.toArray⟩, .bool z.high.null, .int .i64 z.high.num, .string ⟨z.high.txt.toArray⟩] 56)).cell? ⟨w5.heap.size, 0, none⟩ = some (.int .i64 z.rows) := zb.cell 0
          have y1 : (w5.alloc (.cells #[.int .i64 z.rows, .int .i64 z.nulls, .bool z.low.null, .int .i64 z.low.num, .string ⟨z.low.txt.toArray⟩, .bool z.high.null, .int .i64 z.high.num, .string ⟨z.high.txt.toArray⟩] 56)).cell? ⟨w5.heap.size, 1, none⟩ = some (.int .i64 z.nulls) := zb.cell 1
          have y2 : (w5.alloc (.cells #[.int .i64 z.rows, .int .i64 z.nulls, .bool z.low.null, .int .i64 z.low.num, .string ⟨z.low.txt.toArray⟩, .bool z.high.null, .int .i64 z.high.num, .string ⟨z.high.txt.toArray⟩] 56)).cell? ⟨w5.heap.size, 2, none⟩ = some (.bool z.low.null) := zb.cell 2
          have y3 : (w5.alloc (.cells #[.int .i64 z.rows, .int .i64 z.nulls, .bool z.low.null, .int .i64 z.low.num, .string ⟨z.low.txt.toArray⟩, .bool z.high.null, .int .i64 z.high.num, .string ⟨z.high.txt.toArray⟩] 56)).cell? ⟨w5.heap.size, 3, none⟩ = some (.int .i64 z.low.num) := zb.cell 3
          have y4 : (w5.alloc (.cells #[.int .i64 z.rows, .int .i64 z.nulls, .bool z.low.null, .int .i64 z.low.num, .string ⟨z.low.txt.toArray⟩, .bool z.high.null, .int .i64 z.high.num, .string ⟨z.high.txt.toArray⟩] 56)).cell? ⟨w5.heap.size, 4, none⟩ = some (.string ⟨z.low.txt.toArray⟩) := zb.cell 4
          have y5 : (w5.alloc (.cells #[.int .i64 z.rows, .int .i64 z.nulls, .bool z.low.null, .int .i64 z.low.num, .string ⟨z.low.txt.toArray⟩, .bool z.high.null, .int .i64 z.high.num, .string ⟨z.high.txt.toArray⟩] 56)).cell? ⟨w5.heap.size, 5, none⟩ = some (.bool z.high.null) := zb.cell 5
          have y6 : (w5.alloc (.cells #[.int .i64 z.rows, .int .i64 z.nulls, .bool z.low.null, .int .i64 z.low.num, .string ⟨z.low.txt.toArray⟩, .bool z.high.null, .int .i64 z.high.num, .string ⟨z.high.txt.toArray⟩] 56)).cell? ⟨w5.heap.size, 6, none⟩ = some (.int .i64 z.high.num) := zb.cell 6
          have y7 : (w5.alloc (.cells #[.int .i64 z.rows, .int .i64 z.nulls, .bool z.low.null, .int .i64 z.low.num, .string ⟨z.low.txt.toArray⟩, .bool z.high.null, .int .i64 z.high.num, .string ⟨z.high.txt.toArray⟩] 56)).cell? ⟨w5.heap.size, 7, none⟩ = some (.string ⟨z.high.txt.toArray⟩) := zb.cell 7
          have k1 : (w5.alloc (.cells #[.int .i64 z.rows, .int .i64 z.nulls, .bool z.low.null, .int .i64 z.low.num, .string ⟨z.low.txt.toArray⟩, .bool z.high.null, .int .i64 z.high.num, .string ⟨z.high.txt.toArray⟩] 56)).cell? ⟨g6, 1, none⟩ = some (.slice Au D.length cu) := hB66.cell 1
          have hsz := hF6.size
          have HB4 : Hid (FtB _ _ _ _) := Lib.hid hB46
          have HB6 : Hid (FtB _ _ _ _) := Lib.hid hB66
          have HO := Lib.hid hO6
          have HF := Lib.hid hF6
          have HS := Lib.hid hsW
          clear hB46 hB66 hO6 hF6 hsW zb
          go_wp2_with (at_builtin; refine wpList_pushN fd_ch eln_ch rfl (.tmp 40) (.tmp 45) rfl w.heap.size _ D rfl HO.out ⟨at_, m, z⟩ #[.int .i64 (at_ : Int), .int .i64 (m : Int), .int .i64 z.rows, .int .i64 z.nulls, .bool z.low.null, .int .i64 z.low.num, .string ⟨z.low.txt.toArray⟩, .bool z.high.null, .int .i64 z.high.num, .string ⟨z.high.txt.toArray⟩] rfl _ rfl (by simp) (by omega) hsz ?_; intro v8 w8 hO8 f8; obtain ⟨A8, n8, c8, rfl⟩ : ∃ A n c, v8 = Value.slice A n c := (by obtain ⟨A, c, h⟩ := (hO8.ns fd_ch).shape; exact ⟨A, _, c, h⟩); have hB68 : FtB w8 g6 R (.slice Au D.length cu) := HB6.out.fr f8 (fun e => no_other HO.out HB6.out ch_ne_foot _ e rfl); have x1 : w8.cell? ⟨g6, 1, none⟩ = some (.slice Au D.length cu) := hB68.cell 1; have x1f := hB68.frozen 1)
          have f8t := f8
          have hB48 := HB4.out.fr f8 (fun e => no_other HO.out HB4.out ch_ne_foot _ e rfl)
          have hS8 := HS.out.fr f8 (fun e => no_other HO.out HS.out.1 ch_ne_src _ e rfl)
          have hF8 := HF.out.fresh f8 (fun b hb => (HO.out.lt b hb).1)
          have fs := (Fr.refl (One g6) w8).set1 1 (.slice A8 n8 c8)
          have hB69 : FtB (w8.setCell ⟨g6, 1, none⟩ (.slice A8 n8 c8)) g6 R (.slice A8 n8 c8) := hB68.set 1 _
          have hO9 := hO8.fr fs (fun b hb e => no_other hO8 hB68 ch_ne_foot b hb e)
          have hB49 := hB48.fr fs (fun e => hg6 e.symm)
          have hS9 := hS8.fr fs (fun e => hg6' e.symm)
          have hF9 := hF8.fresh fs (fun b e => by have h1 : b = g6 := e; omega)
          rw [HSy2.out] at HT2
          go_roundw
          case rel => exact ⟨k + 1, at_ + m, _, _, _, .slice A8 n8 c8, by omega, by go_num, (by first | rfl | (push_cast; rfl) | (rw [← hmm])), HT2, hS9, hB49, hB69, hO9, hF9⟩
          case measure => simp [intOf]; omega
        · have hzb : (z.rows != (R : Int)) = true := by rw [bne_iff_ne]; exact hzr
          have HSy2 : Hid (sy = ([], true)) := Lib.hid (by rw [HSay.out, if_neg hzr])
          clear hzr
          have HFl := Lib.hid (fail_any g q2 bad2 _ s6)
          have zb' : Hid (Blk _ _ _ _) := Lib.hid zb
          have hB46' : Hid (FtB _ _ _ _) := Lib.hid hB46
          have hB66' : Hid (FtB _ _ _ _) := Lib.hid hB66
          have hO6' := Lib.hid hO6
          have hF6' := Lib.hid hF6
          clear s6 zb hB46 hB66 hO6 hF6
          go_wp2_with fail
          refine HFl.out.mono ?_
          rintro e w7 ⟨rfl, hsW, f7⟩
          have zb := zb'.out.fr f7 (fun e => hzg e)
          have hB46 := hB46'.out.fr f7 (fun e => hwg e)
          have hB66 := hB66'.out.fr f7 (fun e => hg6' e)
          have hO6 := hO6'.out.fr f7 (fun b hb e => by have h1 : b = g := e; have := (hO6'.out.lt b hb).1; omega)
          have hF6 := hF6'.out.trans f7
          clear HFl zb' hB46' hB66' hO6' hF6' f7 z0 z60
          have y0 : w7.cell? ⟨w5.heap.size, 0, none⟩ = some (.int .i64 z.rows) := zb.cell 0
          have y1 : w7.cell? ⟨w5.heap.size, 1, none⟩ = some (.int .i64 z.nulls) := zb.cell 1
          have y2 : w7.cell? ⟨w5.heap.size, 2, none⟩ = some (.bool z.low.null) := zb.cell 2
          have y3 : w7.cell? ⟨w5.heap.size, 3, none⟩ = some (.int .i64 z.low.num) := zb.cell 3
          have y4 : w7.cell? ⟨w5.heap.size, 4, none⟩ = some (.string ⟨z.low.txt.toArray⟩) := zb.cell 4
          have y5 : w7.cell? ⟨w5.heap.size, 5, none⟩ = some (.bool z.high.null) := zb.cell 5
          have y6 : w7.cell? ⟨w5.heap.size, 6, none⟩ = some (.int .i64 z.high.num) := zb.cell 6
          have y7 : w7.cell? ⟨w5.heap.size, 7, none⟩ = some (.string ⟨z.high.txt.toArray⟩) := zb.cell 7
          have k1 : w7.cell? ⟨g6, 1, none⟩ = some (.slice Au D.length cu) := hB66.cell 1
          have hsz := hF6.size
          have HB4 : Hid (FtB _ _ _ _) := Lib.hid hB46
          have HB6 : Hid (FtB _ _ _ _) := Lib.hid hB66
          have HO := Lib.hid hO6
          have HF := Lib.hid hF6
          have HS := Lib.hid hsW
          clear hB46 hB66 hO6 hF6 hsW zb
          go_wp2_with (at_builtin; refine wpList_pushN fd_ch eln_ch rfl (.tmp 40) (.tmp 45) rfl w.heap.size _ D rfl HO.out ⟨at_, m, z⟩ #[.int .i64 (at_ : Int), .int .i64 (m : Int), .int .i64 z.rows, .int .i64 z.nulls, .bool z.low.null, .int .i64 z.low.num, .string ⟨z.low.txt.toArray⟩, .bool z.high.null, .int .i64 z.high.num, .string ⟨z.high.txt.toArray⟩] rfl _ rfl (by simp) (by omega) hsz ?_; intro v8 w8 hO8 f8; obtain ⟨A8, n8, c8, rfl⟩ : ∃ A n c, v8 = Value.slice A n c := (by obtain ⟨A, c, h⟩ := (hO8.ns fd_ch).shape; exact ⟨A, _, c, h⟩); have hB68 : FtB w8 g6 R (.slice Au D.length cu) := HB6.out.fr f8 (fun e => no_other HO.out HB6.out ch_ne_foot _ e rfl); have x1 : w8.cell? ⟨g6, 1, none⟩ = some (.slice Au D.length cu) := hB68.cell 1; have x1f := hB68.frozen 1)
          have f8t := f8
          have hB48 := HB4.out.fr f8 (fun e => no_other HO.out HB4.out ch_ne_foot _ e rfl)
          have hS8 := HS.out.fr f8 (fun e => no_other HO.out HS.out.1 ch_ne_src _ e rfl)
          have hF8 := HF.out.fresh f8 (fun b hb => (HO.out.lt b hb).1)
          have fs := (Fr.refl (One g6) w8).set1 1 (.slice A8 n8 c8)
          have hB69 : FtB (w8.setCell ⟨g6, 1, none⟩ (.slice A8 n8 c8)) g6 R (.slice A8 n8 c8) := hB68.set 1 _
          have hO9 := hO8.fr fs (fun b hb e => no_other hO8 hB68 ch_ne_foot b hb e)
          have hB49 := hB48.fr fs (fun e => hg6 e.symm)
          have hS9 := hS8.fr fs (fun e => hg6' e.symm)
          have hF9 := hF8.fresh fs (fun b e => by have h1 : b = g6 := e; omega)
          rw [HSy2.out] at HT2
          go_roundw
          case rel => exact ⟨k + 1, at_ + m, _, _, _, .slice A8 n8 c8, by omega, by go_num, (by first | rfl | (push_cast; rfl) | (rw [← hmm])), HT2, hS9, hB49, hB69, hO9, hF9⟩
          case measure => simp [intOf]; omega
      · have hE := toS_end HT.out (show (cols.map Co.ty).length ≤ k by rw [hlm]; omega)
        rw [HX.out] at hE
        have HE2 := Lib.hid hE
        clear hE HT
        have HB4 : Hid (FtB _ _ _ _) := Lib.hid hB4
        have HO := Lib.hid hO
        have HF := Lib.hid hF
        have HS := Lib.hid hs
        have k0 : wr.cell? ⟨g6, 0, none⟩ = some (.int .i64 R) := hB6.cell 0
        have k1 : wr.cell? ⟨g6, 1, none⟩ = some (.slice Au D.length cu) := hB6.cell 1
        have e0 : wr.cell? ⟨w.heap.size, 0, none⟩ = some (.int .i64 0) := hB4.cell 0
        have e1 : wr.cell? ⟨w.heap.size, 1, none⟩ = some (.slice none 0 0) := hB4.cell 1
        have fz0 := hB4.frozen 0
        have fz1 := hB4.frozen 1
        clear hB4 hB6 hO hF hs
        go_wp2
        (try simp only [Exit.inBlock, Exit.then])
        have hBe : Blk ((wr.setCell ⟨w.heap.size, 0, none⟩ (.int .i64 R)).setCell ⟨w.heap.size, 1, none⟩ (.slice Au D.length cu)) w.heap.size 40 #[.int .i64 R, .slice Au D.length cu] := (HB4.out.set 0 _).set 1 _
        have fs := ((Fr.refl (One w.heap.size) wr).set1 0 (.int .i64 (R : Int))).set1 1 (.slice Au D.length cu)
        refine bodyPost_ret (v := .tuple #[.agg #[.int .i64 R, .slice Au D.length cu], .int .i64 at_]) (ret_cell (p := 4) (u := 5) (ty := 40) rfl _ _ w.heap.size _ _ rfl hBe (load_foot hBe rfl)) rfl ?_
        refine ⟨.slice Au D.length cu, l1, b1, .inr ⟨hR0.out, rfl, rfl⟩, ?_, ?_, ?_, HF.out.fresh fs (fun b e => Nat.le_of_eq (show w.heap.size = b from e.symm))⟩
        · rw [HX.out, HE2.out]
        · rw [HX.out, HE2.out]; exact HO.out.fr fs (fun b hb e => no_other HO.out HB4.out ch_ne_foot b hb e)
        · rw [HX.out, HE2.out]; exact HS.out.fr fs (fun e => hwg e.symm)
end Go.Proofs.YtheefloegbkflaaGreatDoor


namespace Go.Proofs.YtheefloegbkflaaGreatDoor
set_option linter.unusedVariables false
set_option linter.unusedSimpArgs false
set_option maxRecDepth 100000
open Go.RowKit

/-- the table of the program's lies where it was laid -/
def Tab (w : World) : Prop := ∀ i, i < 16 → w.cell? ⟨0, i, none⟩ = some (.int .u32 (half i))
theorem Tab.fr {S : Nat → Prop} {w w' : World} (h : Tab w) (hf : Fr S w w') (hn : ¬ S 0) : Tab w' := fun i hi => by
  have := h i hi
  rw [← this]
  exact hf.cell (p := ⟨_, i, none⟩) (World.block_lt_of_cell? w _ this) hn
theorem Tab.non {w w' : World} (h : Tab w) (hf : Fr Non w w') : Tab w' := h.fr hf fun e => e
theorem Tab.lt {w : World} (h : Tab w) : 0 < w.heap.size := World.block_lt_of_cell? w _ (h 0 (by decide))

theorem shift_any (s : Nat) (w : World) (hs : s < 4294967296) (ht : Tab w) :
    Calls Tryz.prog 176 #[.int .u32 s] w fun e w' => e = .returned (.int .u32 (st (st (st (st s))) : Nat)) ∧ w = w' := by
  have h1 := ht (s % 16) (Nat.mod_lt _ (by decide))
  have HX := Lib.hid (show bits .xor .u32 ((s / 16 : Nat) : Int) ((half (s % 16) : Nat) : Int) = ((st (st (st (st s))) : Nat) : Int) by rw [u32_xor_nat _ _ (by omega) (half_st _ (Nat.mod_lt _ (by decide))).2, st4_half])
  clear ht
  go_enter Tryz.func176, Tryz.ntmps176
  go_wp2
  go_ret
  exact ⟨ret_int HX.out, rfl⟩

theorem turn_l (s : Nat) (h : s < 4294967296) : bits .xor .u32 IntKind.u32.max (s : Int) = ((s ^^^ 4294967295 : Nat) : Int) := by
  have := u32_xor_nat 4294967295 s (by omega) h
  rw [Nat.xor_comm] at this
  exact this
theorem turn_r (s : Nat) (h : s < 4294967296) : bits .xor .u32 (s : Int) 4294967295 = ((s ^^^ 4294967295 : Nat) : Int) := u32_xor_nat s 4294967295 h (by omega)
theorem byte_in (s : Nat) (b : UInt8) (h : s < 4294967296) : bits .xor .u32 (s : Int) ((b.toNat : Int) % 4294967296) = ((s ^^^ b.toNat : Nat) : Int) := by
  have hb := u8_lt b
  rw [Int.emod_eq_of_lt (by omega) (by omega)]
  exact u32_xor_nat s b.toNat h (by omega)

set_option maxHeartbeats 400000 in
theorem more_any (s : Nat) (v : Value) (l : List UInt8) (w : World) (hs : s < 4294967296) (hv : Bs w v l) (ht : Tab w) (hl : l.length ≤ 9223372036854775807) :
    Calls Tryz.prog 145 #[.int .u32 s, v] w fun e w' => e = .returned (.int .u32 (sumOf s l : Nat)) ∧ w = w' := by
  have HB := Lib.hid hv
  obtain ⟨A, c, rfl, hlc, hn, hcell⟩ := hv
  have HC := Lib.hid hcell
  have HN := Lib.hid hn
  have HT := Lib.hid ht
  have HS := Lib.hid (turn_l s hs)
  have HL := Lib.hid (turn_lt hs)
  clear hcell hn ht hs
  go_enter Tryz.func145, Tryz.ntmps145
  go_wp2
  go_loop [5, 12] (fun x i => ∃ k : Nat, k ≤ l.length ∧ i = .int .i64 k ∧ x = .int .u32 (run (s ^^^ 4294967295) (l.take k) : Nat)) (fun _ i => l.length - (intOf i).toNat)
  case atStart => exact ⟨0, Nat.zero_le _, rfl, by rw [HS.out]; rfl⟩
  case round =>
    obtain ⟨k, hk, rfl, rfl⟩ := hrel
    by_cases hlt : k < l.length
    · cases A with
      | none => have := HN.out rfl; omega
      | some ad =>
        have hc1 : w.cell? (ad.add k) = some (.int .u8 (l[k].toNat : Int)) := HC.out ad rfl k hlt
        have hr := run_lt (l.take k) HL.out
        have HX := Lib.hid (byte_in _ l[k] hr)
        have HR := Lib.hid (show run (s ^^^ 4294967295) (l.take (k + 1)) = by1 (run (s ^^^ 4294967295) (l.take k)) l[k] by
          rw [List.take_succ_eq_append_getElem hlt, run_snoc])
        have HY := Lib.hid (xor8_lt hr l[k])
        clear hr
        go_wp2_with fail
        rw [HX.out]
        refine (shift_any _ w HY.out HT.out).mono ?_
        rintro e w1 ⟨rfl, rfl⟩
        go_wp2_with fail
        refine (shift_any _ w (st_lt (st_lt (st_lt (st_lt HY.out)))) HT.out).mono ?_
        rintro e w1 ⟨rfl, rfl⟩
        go_wp2_with fail
        go_round
        case rel => exact ⟨k + 1, by omega, by go_num, by rw [HR.out]; rfl⟩
        case measure => simp [intOf]; omega
    · have HE := Lib.hid (show l.take k = l by rw [List.take_of_length_le (by omega)])
      have HX := Lib.hid (turn_l _ (run_lt (l.take k) HL.out))
      go_wp2
      go_ret
      exact ⟨ret_int (by rw [HX.out, HE.out]; rfl), rfl⟩

def stI : Nat → Nat → Nat
  | 0, s => s
  | n + 1, s => st (stI n s)
theorem stI_lt {s : Nat} (h : s < 4294967296) : ∀ n, stI n s < 4294967296
  | 0 => h
  | n + 1 => st_lt (stI_lt h n)
theorem st_odd {q : Nat} (h : q < 4294967296) (ho : q % 2 = 1) : bits .xor .u32 ((q : Int) / 2) 2197175160 = ((st q : Nat) : Int) := by
  have e : (q : Int) / 2 = ((q / 2 : Nat) : Int) := by omega
  rw [e]
  unfold st; rw [if_pos ho]
  exact u32_xor_nat (q / 2) 2197175160 (by omega) (by omega)
theorem st_even {q : Nat} (ho : ¬ q % 2 = 1) : (q : Int) / 2 = ((st q : Nat) : Int) := by
  unfold st; rw [if_neg ho]; omega

set_option maxHeartbeats 1000000 in
theorem rmore_any (s : Nat) (v : Value) (l : List UInt8) (w : World) (hs : s < 4294967296) (hv : Bs w v l) (hl : l.length ≤ 9223372036854775807) :
    Calls Tryz.prog 119 #[.int .u32 s, v] w fun e w' => e = .returned (.int .u32 (sumOf s l : Nat)) ∧ w = w' := by
  have HB := Lib.hid hv
  obtain ⟨A, c, rfl, hlc, hn, hcell⟩ := hv
  have HC := Lib.hid hcell
  have HN := Lib.hid hn
  have HS := Lib.hid (turn_r s hs)
  have HL := Lib.hid (turn_lt hs)
  clear hcell hn hs
  go_enter Tryz.func119, Tryz.ntmps119
  go_wp2
  go_loop [5, 6] (fun x i => ∃ k : Nat, k ≤ l.length ∧ i = .int .i64 k ∧ x = .int .u32 (run (s ^^^ 4294967295) (l.take k) : Nat)) (fun _ i => l.length - (intOf i).toNat)
  case atStart => exact ⟨0, Nat.zero_le _, rfl, by rw [HS.out]; rfl⟩
  case round =>
    obtain ⟨k, hk, rfl, rfl⟩ := hrel
    by_cases hlt : k < l.length
    · cases A with
      | none => have := HN.out rfl; omega
      | some ad =>
        have hc1 : w.cell? (ad.add k) = some (.int .u8 (l[k].toNat : Int)) := HC.out ad rfl k hlt
        have hr := run_lt (l.take k) HL.out
        have HX := Lib.hid (byte_in _ l[k] hr)
        have HR := Lib.hid (show run (s ^^^ 4294967295) (l.take (k + 1)) = by1 (run (s ^^^ 4294967295) (l.take k)) l[k] by
          rw [List.take_succ_eq_append_getElem hlt, run_snoc])
        have HY := Lib.hid (xor8_lt hr l[k])
        clear hr
        go_wp2
        go_loop [5, 7] (fun x i => ∃ j : Nat, j ≤ 8 ∧ i = .int .i64 j ∧ x = .int .u32 (stI j (run (s ^^^ 4294967295) (l.take k) ^^^ l[k].toNat) : Nat)) (fun _ i => 8 - (intOf i).toNat)
        case atStart => exact ⟨0, Nat.zero_le _, rfl, by rw [HX.out]; rfl⟩
        case round =>
          obtain ⟨j, hj, rfl, rfl⟩ := hrel
          by_cases hjl : j < 8
          · have hq := stI_lt HY.out j
            generalize hQ : stI j (run (s ^^^ 4294967295) (l.take k) ^^^ l[k].toNat) = q at hq ⊢
            have HQ := Lib.hid hQ
            clear hQ
            by_cases ho : q % 2 = 1
            · have HO := Lib.hid (st_odd hq ho)
              have ht : (((q : Int) % 2) == 1) = true := by rw [beq_iff_eq]; omega
              clear ho
              go_wp2
              go_round
              case rel => exact ⟨j + 1, by omega, by go_num, by rw [HO.out, ← HQ.out]; rfl⟩
              case measure => simp [intOf]; omega
            · have HO := Lib.hid (st_even ho)
              have ht : (((q : Int) % 2) == 1) = false := by rw [beq_eq_false_iff_ne]; omega
              clear ho
              go_wp2
              go_round
              case rel => exact ⟨j + 1, by omega, by go_num, by rw [HO.out, ← HQ.out]; rfl⟩
              case measure => simp [intOf]; omega
          · obtain rfl : j = 8 := by omega
            go_wp2
            go_round
            case rel => exact ⟨k + 1, by omega, by go_num, by rw [HR.out]; rfl⟩
            case measure => simp [intOf]; omega
    · have HE := Lib.hid (show l.take k = l by rw [List.take_of_length_le (by omega)])
      have HX := Lib.hid (turn_r _ (run_lt (l.take k) HL.out))
      go_wp2
      go_ret
      exact ⟨ret_int (by rw [HX.out, HE.out]; rfl), rfl⟩

theorem rof_any (v : Value) (l : List UInt8) (w : World) (hv : Bs w v l) (hl : l.length ≤ 9223372036854775807) :
    Calls Tryz.prog 65 #[v] w fun e w' => e = .returned (.int .u32 (sumOf 0 l : Nat)) ∧ w = w' := by
  have HB := Lib.hid hv
  clear hv
  go_enter Tryz.func65, Tryz.ntmps65
  go_wp2_with fail
  refine (rmore_any 0 v l w (by decide) HB.out hl).mono ?_
  rintro e w1 ⟨rfl, rfl⟩
  go_wp2
  go_ret
  exact ⟨rfl, rfl⟩
end Go.Proofs.YtheefloegbkflaaGreatDoor


namespace Go.Proofs.YtheefloegbkflaaGreatDoor
set_option linter.unusedVariables false
set_option linter.unusedSimpArgs false
set_option maxRecDepth 100000
open Go.RowKit

set_option maxHeartbeats 400000 in
theorem of_any (v : Value) (ls : List (List UInt8)) (w : World) (hv : Bss w v ls) (ht : Tab w) (hn : ls.length ≤ 9223372036854775807) (hl : ∀ l ∈ ls, l.length ≤ 9223372036854775807) :
    Calls Tryz.prog 95 #[v] w fun e w' => e = .returned (.int .u32 (sumOf 0 ls.flatten : Nat)) ∧ w = w' := by
  obtain ⟨A, c, rfl, hlc, hnn, hcell⟩ := hv
  have HC := Lib.hid hcell
  have HN := Lib.hid hnn
  have HT := Lib.hid ht
  have HL := Lib.hid hl
  clear hcell hnn ht hl
  go_enter Tryz.func95, Tryz.ntmps95
  go_wp2
  go_loop [3, 8] (fun x i => ∃ k : Nat, k ≤ ls.length ∧ i = .int .i64 k ∧ x = .int .u32 (sumOf 0 (ls.take k).flatten : Nat)) (fun _ i => ls.length - (intOf i).toNat)
  case atStart => exact ⟨0, Nat.zero_le _, rfl, by rw [List.take_zero, List.flatten_nil, sumOf_nil]; rfl⟩
  case round =>
    obtain ⟨k, hk, rfl, rfl⟩ := hrel
    by_cases hlt : k < ls.length
    · cases A with
      | none => have := HN.out rfl; omega
      | some ad =>
        obtain ⟨u, hu, hb⟩ := HC.out ad rfl k hlt
        have HB := Lib.hid hb
        have HR := Lib.hid (show sumOf 0 (ls.take (k + 1)).flatten = sumOf (sumOf 0 (ls.take k).flatten) ls[k] by
          rw [List.take_succ_eq_append_getElem hlt, List.flatten_append, sumOf_app]; simp)
        clear hb
        go_wp2_with fail
        refine (more_any _ u _ w (sumOf_lt _ (by decide)) HB.out HT.out (HL.out _ (List.getElem_mem _))).mono ?_
        rintro e w1 ⟨rfl, rfl⟩
        go_wp2_with fail
        go_round
        case rel => exact ⟨k + 1, by omega, by go_num, by rw [HR.out]⟩
        case measure => simp [intOf]; omega
    · have HE := Lib.hid (show ls.take k = ls by rw [List.take_of_length_le (by omega)])
      go_wp2
      go_ret
      exact ⟨ret_int (by rw [HE.out]), rfl⟩

theorem of_one (g : Nat) (v : Value) (l : List UInt8) (w : World) (hg : g = w.heap.size) (hv : Bs w v l) (ht : Tab w) (hl : l.length ≤ 9223372036854775807) :
    Calls Tryz.prog 95 #[.slice (some ⟨g, 0, none⟩) 1 1] (w.alloc (.cells #[v] 26)) fun e w' => e = .returned (.int .u32 (sumOf 0 l : Nat)) ∧ (w.alloc (.cells #[v] 26)) = w' := by
  subst hg
  refine (of_any _ [l] _ (bss_one w v l _ hv) (ht.non ((Fr.refl _ _).alloc _)) (by simp) (by simpa using hl)).mono ?_
  rintro e w1 ⟨rfl, rfl⟩
  exact ⟨ret_int (by simp), rfl⟩

end Go.Proofs.YtheefloegbkflaaGreatDoor


namespace Go.Proofs.YtheefloegbkflaaGreatDoor
set_option linter.unusedVariables false
set_option linter.unusedSimpArgs false
set_option maxRecDepth 100000
open Go.RowKit

/-- bytes laid as a literal -/
theorem own_lit (w : World) (B g : Nat) (l : List UInt8) (cs : Array Value) (hcs : cs.toList = l.map bv) (hg : g = w.heap.size) (hB : B ≤ g) (hm : l.length ≤ maxLen) : Own (w.alloc (.cells cs 5)) B (.slice (some ⟨g, 0, none⟩) l.length l.length) l := by
  subst hg
  unfold Own
  rw [← hcs]
  exact World.ownsRow_lit w cs l.length hB hm (by have := congrArg List.length hcs; simpa using this)

theorem sum4_cells (n : Nat) (z0 z1 z2 z3 : Int) (h0 : z0 = ((n % 256 : Nat) : Int)) (h1 : z1 = ((n / 256 % 256 : Nat) : Int)) (h2 : z2 = ((n / 65536 % 256 : Nat) : Int)) (h3 : z3 = ((n / 16777216 % 256 : Nat) : Int)) :
    (#[.int .u8 z0, .int .u8 z1, .int .u8 z2, .int .u8 z3] : Array Value).toList = (sum4 n).map bv := by
  subst h0 h1 h2 h3
  have a0 : n % 256 < 256 := Nat.mod_lt _ (by decide)
  have a1 : n / 256 % 256 < 256 := Nat.mod_lt _ (by decide)
  have a2 : n / 65536 % 256 < 256 := Nat.mod_lt _ (by decide)
  have a3 : n / 16777216 % 256 < 256 := Nat.mod_lt _ (by decide)
  simp only [sum4, List.map_cons, List.map_nil, bv, toNat_small a0, toNat_small a1, toNat_small a2, toNat_small a3]

set_option maxHeartbeats 400000 in
theorem fsum_any (v : Value) (l : List UInt8) (w : World) (hv : Bs w v l) (ht : Tab w) (hl : l.length ≤ 9223372036854775807) :
    Calls Tryz.prog 53 #[v] w fun e w' => ∃ u, e = .returned u ∧ Own w' w.heap.size u (sum4 (sumOf 0 l)) ∧ Fr Non w w' := by
  have HB := Lib.hid hv
  have HT := Lib.hid ht
  have Hs := Lib.hid (sumOf_lt l (s := 0) (by decide))
  obtain ⟨A, c, rfl, _⟩ := hv
  clear ht
  go_enter Tryz.func53, Tryz.ntmps53
  go_wp2_with fail
  refine (of_one _ _ _ _ rfl HB.out HT.out hl).mono ?_
  rintro e w1 ⟨rfl, rfl⟩
  have hn := Hs.out
  generalize hS : sumOf 0 l = n at *
  have HS := Lib.hid hS
  clear hS
  go_wp2
  go_ret
  refine ⟨.slice (some ⟨w.heap.size + 1, 0, none⟩) 4 4, rfl, ?_, ((Fr.refl _ _).alloc _).alloc _⟩
  rw [HS.out]
  refine own_lit (w.alloc (.cells #[.slice A l.length c] 26)) w.heap.size (w.heap.size + 1) (sum4 n) _ (sum4_cells n _ _ _ _ ?_ ?_ ?_ ?_) (by simp) (by simp) (by rw [sum4_length]; unfold maxLen; omega) <;> omega

set_option maxHeartbeats 1000000 in
theorem fput_any (v : Value) (l : List UInt8) (w : World) (hv : Bs w v l) (ht : Tab w) (hl : l.length < 549755813888) :
    Calls Tryz.prog 28 #[v] w fun e w' => ∃ u, e = .returned u ∧ Own w' w.heap.size u (frameB l) ∧ Fr Non w w' := by
  have HB := Lib.hid hv
  have HT := Lib.hid ht
  have Hn := Lib.hid (show l.length < two64 by unfold two64; omega)
  obtain ⟨A, c, rfl, _⟩ := hv
  clear ht
  go_enter Tryz.func28, Tryz.ntmps28
  go_wp2_with fail
  refine (vnum_any l.length w Hn.out).mono ?_
  rintro e w1 ⟨v1, rfl, hown1, hfr1⟩
  obtain ⟨A1, c1, rfl⟩ := hown1.bs.shape
  go_wp2_with fail
  refine (fsum_any _ l w1 (HB.out.non hfr1) (HT.out.non hfr1) (by omega)).mono ?_
  rintro e w2 ⟨v2, rfl, hown2, hfr2⟩
  obtain ⟨A2, c2, rfl⟩ := hown2.bs.shape
  go_wp2_with fail
  refine (concat_any w2.heap.size 3 3 [.slice A1 (Lib.uvarint l.length).length c1, .slice A2 (sum4 (sumOf 0 l)).length c2, .slice A l.length c] [Lib.uvarint l.length, sum4 (sumOf 0 l), l] _ rfl (by omega) (Parts.three (hown1.bs.non hfr2) hown2.bs (HB.out.non (hfr1.trans hfr2))) ?_).mono ?_
  · have := Lib.uvarint_length64 Hn.out
    simp [sum4_length]; omega
  · rintro e w3 ⟨v3, rfl, hown3, hfr3⟩
    go_wp2
    go_ret
    refine ⟨v3, rfl, ?_, ((hfr1.then hfr2).alloc _).then hfr3⟩
    have h := hown3.mono (B' := w.heap.size) (by have := hfr1.size; have := hfr2.size; simp; omega)
    simpa [frameB] using h

/-- the head: how many bytes are to come, and how many bytes that number has -/
theorem min3 (l : List UInt8) : (l.take 3).length = min l.length 3 := by rw [List.length_take]; omega

end Go.Proofs.YtheefloegbkflaaGreatDoor


namespace Go.Proofs.YtheefloegbkflaaGreatDoor
set_option linter.unusedVariables false
set_option linter.unusedSimpArgs false
set_option maxRecDepth 100000
open Go.RowKit

theorem ret_two {v : Value} {k : IntKind} {a b : Int} (h : a = b) : Ending.returned (.tuple #[v, .int k a]) = .returned (.tuple #[v, .int k b]) := by rw [h]
theorem Bs.drewN {w : World} {v : Value} {l : List UInt8} (h : Bs w v l) (n : Nat) : Bs (w.drewN n) v l := h
theorem Tab.drewN {w : World} (h : Tab w) (n : Nat) : Tab (w.drewN n) := h
theorem ret_three {v : Value} {k j : IntKind} {a b c d : Int} (h : a = b) (h2 : c = d) : Ending.returned (.tuple #[v, .int k a, .int j c]) = .returned (.tuple #[v, .int k b, .int j d]) := by rw [h, h2]
/-- a slice's beginning -/
theorem Bs.pre {w : World} {A : Option Addr} {n c k : Nat} {l : List UInt8} (h : Bs w (.slice A n c) l) (hk : k ≤ n) : Bs w (.slice A k c) (l.take k) := by
  obtain ⟨A0, c0, he, h1, h2, h3⟩ := h
  simp only [Value.slice.injEq] at he
  obtain ⟨rfl, rfl, rfl⟩ := he
  have hl : (l.take k).length = k := by rw [List.length_take]; omega
  refine ⟨A, c, by rw [hl], by rw [hl]; omega, h2, fun a ha j hj => ?_⟩
  rw [h3 a ha j (by rw [hl] at hj; omega)]
  simp

set_option maxHeartbeats 1000000 in
theorem flength_any (v : Value) (l : List UInt8) (w : World) (hv : Bs w v l) (hl : l.length ≤ 9223372036854775807) :
    Calls Tryz.prog 131 #[v] w fun e w' => e = .returned (.tuple #[.int .i64 (hN l), .int .i64 (hS l)]) ∧ Fr Non w w' := by
  have HB := Lib.hid hv
  obtain ⟨A, c, rfl, hlc, _⟩ := hv
  have h0 : Calls Tryz.prog 26 #[.int .u64 1048576] w _ := vnum_any 1048576 w (by unfold two64; omega)
  have H3 := Lib.hid (head3 l)
  have HL := Lib.hid (min3 l)
  have key : ∀ (w1 : World) (n : Nat), n = (l.take 3).length → Fr Non w w1 → Bs w1 (.slice A n c) (l.take 3) := by
    intro w1 n hn hf
    subst hn
    rw [HL.out]
    have := (HB.out.non hf).pre (k := min l.length 3) (by omega)
    rwa [List.take_eq_take_iff.2 (show min (min l.length 3) l.length = min 3 l.length by omega)] at this
  have HK := Lib.hid key
  clear key
  have HA := Lib.hid (fun (W : World) o => (Fr.refl Non W).alloc o)
  have goal2 : ∀ n : Nat, n = (l.take 3).length → (n = 3 ∧ 3 < l.length ∨ n = l.length ∧ ¬ 3 < l.length) → Calls Tryz.prog 131 #[.slice A l.length c] w fun e w' => e = .returned (.tuple #[.int .i64 (hN l), .int .i64 (hS l)]) ∧ Fr Non w w' := by
    intro n hn hc
    have HN := Lib.hid hn
    clear hn
    rcases hc with ⟨rfl, h3⟩ | ⟨rfl, h3⟩
    all_goals
      go_enter Tryz.func131, Tryz.ntmps131
      go_wp2_with fail
      refine h0.mono ?_
      rintro e w1 ⟨v1, rfl, hown1, hfr1⟩
      obtain ⟨A1, c1, rfl⟩ := hown1.bs.shape
      rw [uv_big20]
      have HF1 := Lib.hid hfr1
      clear hown1 hfr1 h0
      have h3' : (3 : Int) < l.length ∨ ¬ (3 : Int) < l.length := by omega
      go_wp2_with fail
      refine (from_any _ (l.take 3) w1 (HK.out _ _ (by first | exact HN.out | (rw [List.length_take]; omega)) HF1.out)).mono ?_
      rintro e w2 ⟨rfl, hs2, hf2⟩
      go_wp2_with fail
      refine (below_any w1.heap.size (l.take 3) false 1048577 w2 hs2 (by omega)).mono ?_
      rintro e w3 ⟨rfl, hs3, hf3⟩
      have hf : Fr Non w w3 := (HF1.out.trans hf2).fresh hf3 (fun k hk => by have e : k = w1.heap.size := hk; have := HF1.out.size; omega)
      have HF := Lib.hid hf
      clear hf hf2 hf3 hs2
      rw [show (1048577 : Int) - 1 = 1048576 by omega] at hs3 ⊢
      have HS := Lib.hid hs3
      go_wp2_with fail
      refine (ok_any _ _ _ w3 HS.out).mono ?_
      rintro e w4 ⟨rfl, rfl⟩
      rcases H3.out with ⟨e1, e2, e3⟩ | ⟨e1, e2, e3, e4⟩
      · rw [e1]
        have HE := Lib.hid (And.intro e2 e3)
        clear e2 e3 e1
        go_wp2_with fail
        go_ret2
        rw [HE.out.1, HE.out.2]
        exact ⟨rfl, HF.out⟩
      · rw [e1, e2]
        have HE := Lib.hid (And.intro e3 HN.out)
        clear e2 e3 e4 e1
        generalize hs2 : hS l = s at *
        generalize hm2 : hN l = m at *
        have HS2 := Lib.hid hs2
        have HM2 := Lib.hid hm2
        clear hs2 hm2
        go_wp2_with fail
        refine (left_any _ _ _ w3 HS.out).mono ?_
        rintro e w5 ⟨rfl, rfl⟩
        have HQ : Hid (_ = s + (mostR (l.take 3) 1048576).length) := Lib.hid (HE.out.2.trans HE.out.1)
        clear HE HS hs3
        generalize (mostR (l.take 3) 1048576).length = r at *
        have hb : r ≤ l.length := by have := HQ.out; have := min3 l; omega
        go_wp2_with fail
        go_ret2
        refine ⟨?_, HF.out⟩
        rw [HM2.out, HS2.out]
        refine ret_two ?_
        have := HQ.out; omega
  by_cases h3 : 3 < l.length
  · exact goal2 3 (by rw [HL.out]; omega) (.inl ⟨rfl, h3⟩)
  · exact goal2 l.length (by rw [HL.out]; omega) (.inr ⟨rfl, h3⟩)
theorem slice_lh (A : Option Addr) (n c k m : Nat) (kl kh : IntKind) (z y : Int) (hz : z = (k : Int)) (hy : y = (m : Int)) (hk : k ≤ m) (hm : m ≤ n) (hn : n ≤ c) :
    ∃ A' c', (∀ W, (Instr.slice 26 (.slice A n c) (some (.int kl z)) (some (.int kh y)) none).run Tryz.prog W = .ok (.slice A' (m - k) c') W) ∧
      (∀ W l, l.length = n → Bs W (.slice A n c) l → Bs W (.slice A' (m - k) c') ((l.drop k).take (m - k))) ∧ (Value.slice A' (m - k) c').ownBlock = (Value.slice A n c).ownBlock := by
  subst hz hy
  refine ⟨if c = k then A else A.map (·.add k), c - k, fun W => ?_, ?_, ?_⟩
  · rw [run_slice_any W 26 A n c Tryz.underlying26]
    have hb : (Instr.sliceBounds true n c (some (.int kl (k : Int))) (some (.int kh (m : Int))) none).run Tryz.prog W = .ok (k, m, c) W := by
      simp [Instr.sliceBounds, run_sliceBound, hk, show m ≤ c by omega]
    rw [hb]
    simp only [Result.andThen_ok, sz_u8]
    simp [sliced]
  · rintro W l hl ⟨A0, c0, he, h1, h2, h3⟩
    simp only [Value.slice.injEq] at he
    obtain ⟨rfl, hl', rfl⟩ := he
    have hlen : ((l.drop k).take (m - k)).length = m - k := by rw [List.length_take, List.length_drop]; omega
    refine ⟨if c = k then A else A.map (·.add k), c - k, by rw [hlen], by rw [hlen]; omega, fun e => ?_, fun a ha j hj => ?_⟩
    · split at e
      · have := h2 e; omega
      · have := h2 (by simpa using e); omega
    · rw [hlen] at hj
      rw [if_neg (by omega)] at ha
      cases A with
      | none => cases ha
      | some b =>
        obtain rfl : b.add k = a := by simpa using ha
        rw [add_add, h3 b rfl (k + j) (by omega)]
        simp
  · split
    · cases A <;> rfl
    · cases A <;> simp [Value.ownBlock, add_block]

set_option maxHeartbeats 1000000 in
theorem ffirst_any (v : Value) (l : List UInt8) (w : World) (hv : Bs w v l) (ht : Tab w) (hl : l.length < 1099511627776) :
    Calls Tryz.prog 75 #[v] w fun e w' => ∃ u, e = .returned (.tuple #[u, .int .i64 (gN l), .int .i64 (gE l)]) ∧ Bs w' u (gB l) ∧ Fr Non w w' ∧ ∀ k, u.ownBlock = some k → v.ownBlock = some k := by
  have HB := Lib.hid hv
  have HT := Lib.hid ht
  obtain ⟨A, c, rfl, hlc, _⟩ := hv
  clear ht
  have h0 := flength_any _ l w HB.out (by omega)
  have hs0 := hS_le l
  have hn0 := hN_le l
  by_cases hf : fits l = true
  · have hb := of_decide_eq_true (show decide (hS l ≠ 0 ∧ hS l + 4 + hN l ≤ l.length) = true from hf)
    have HF := Lib.hid hf
    have HGB : Hid (bodyF l = (l.drop (hS l + 4)).take (hN l)) := Lib.hid rfl
    have HGS : Hid (sumOk l = ((l.drop (hS l)).take 4 == sum4 (sumOf 0 (bodyF l)))) := Lib.hid rfl
    clear hf
    generalize hs2 : hS l = s at *
    generalize hm2 : hN l = m at *
    have HS2 := Lib.hid hs2
    have HM2 := Lib.hid hm2
    clear hs2 hm2
    obtain ⟨A1, c1, hrun1, hbs1, how1⟩ := slice_lh A l.length c (s + 4) (s + 4 + m) .i64 .i64 ((s : Int) + 4) ((s : Int) + 4 + m) (by omega) (by omega) (by omega) (by omega) hlc
    obtain ⟨ad, rfl⟩ : ∃ ad, A = some ad := by
      cases A with
      | some ad => exact ⟨ad, rfl⟩
      | none =>
        obtain ⟨_, _, he, h1, h2, _⟩ := HB.out
        simp only [Value.slice.injEq] at he
        obtain ⟨rfl, _, rfl⟩ := he
        have := h2 rfl
        omega
    have hbs2 : ∀ W, Bs W (.slice (some ad) l.length c) l → Bs W (.slice (some (ad.add s)) 4 (c - s)) ((l.drop s).take 4) := by
      rintro W ⟨A0, c0, he, h1, h2, h3⟩
      simp only [Value.slice.injEq] at he
      obtain ⟨rfl, hl', rfl⟩ := he
      have hlen : ((l.drop s).take 4).length = 4 := by rw [List.length_take, List.length_drop]; omega
      refine ⟨some (ad.add s), c - s, by rw [hlen], by rw [hlen]; omega, (fun h => by cases h), fun a ha j hj => ?_⟩
      cases ha
      rw [hlen] at hj
      rw [add_add, h3 ad rfl (s + j) (by omega)]
      simp
    rw [show s + 4 + m - (s + 4) = m by omega] at hrun1 hbs1 how1
    have H1 := Lib.hid (fun W h => hbs1 W l rfl h)
    have H2 := Lib.hid hbs2
    have HO := Lib.hid how1
    clear hbs1 hbs2 how1
    have hz : ((s : Int) == 0) = false := by rw [beq_eq_false_iff_ne]; omega
    go_enter Tryz.func75, Tryz.ntmps75
    go_wp2_with fail
    refine h0.mono ?_
    rintro e w1 ⟨rfl, hfr⟩
    have HB1 := Lib.hid (HB.out.non hfr)
    have HT1 := Lib.hid (HT.out.non hfr)
    have HFR := Lib.hid hfr
    clear hfr h0
    go_wp2_with fail
    have Hb := Lib.hid (H1.out _ HB1.out)
    have HbL := Lib.hid (show ((l.drop (s + 4)).take m).length ≤ 9223372036854775807 by rw [List.length_take]; omega)
    have t1 : (0 : Int) ≤ s + 4 := by omega
    have t6 : IntKind.i64.wrap ((s : Int) + 4) = s + 4 := IntWalk.i64_in _ ⟨by omega, by omega⟩
    have t2 : ((s : Int) + 4).toNat = s + 4 := by omega
    have t3 : ¬ (c = s) := by omega
    have t4 : s + 4 ≤ c := by omega
    have t5 : (s : Int) + 4 ≤ c := by omega
    clear hrun1
    go_region_with (first | (go_at_call 53; refine (fsum_any _ _ _ (Hb.out.drewN _) (HT1.out.drewN _) HbL.out).mono ?_; rintro e w3 ⟨v3, rfl, hown3, hfr3⟩) | (go_at_call 132; refine (equal_any _ _ _ _ _ (H2.out _ ((HB1.out.drewN _).non hfr3)) hown3.bs).mono ?_; rintro e w4 ⟨rfl, rfl⟩))
    all_goals
      have hfr : Fr Non w w3 := HFR.out.trans (w1 := w1) ⟨hfr3.os, hfr3.tape, hfr3.output, hfr3.size, hfr3.block⟩
      have HR := Lib.hid hfr
      have HBb := Lib.hid (Hb.out.non (w' := w3) ⟨hfr3.os, hfr3.tape, hfr3.output, hfr3.size, hfr3.block⟩)
      clear hfr hown3 hfr3
      rw [← HGB.out]
      rw [← HGB.out] at HBb
      rw [← HGS.out]
      have HF2 := Lib.hid (show gE l = (if sumOk l then 0 else 13) ∧ gB l = (if sumOk l then bodyF l else []) ∧ gN l = (if sumOk l then hS l + 4 + hN l else 0) by
        unfold gE gB gN; rw [HF.out]; exact ⟨rfl, rfl, rfl⟩)
      cases hq : sumOk l
      · go_wp2
        go_ret3
        rw [HF2.out.1, HF2.out.2.1, HF2.out.2.2, hq]
        exact ⟨_, rfl, Bs.nil_ _, HR.out, fun k hk => by cases hk⟩
      · go_wp2
        go_ret3
        rw [HF2.out.1, HF2.out.2.1, HF2.out.2.2, hq, HS2.out, HM2.out]
        refine ⟨.slice A1 m c1, ?_, HBb.out, HR.out, fun k hk => by rw [← HO.out]; exact hk⟩
        exact ret_three (by simp) (by simp)
  · have hf' : fits l = false := by simpa using hf
    have HF2 := Lib.hid (show gE l = 2 ∧ gB l = [] ∧ gN l = 0 by unfold gE gB gN; rw [hf']; exact ⟨rfl, rfl, rfl⟩)
    have hb : ¬ (hS l ≠ 0 ∧ hS l + 4 + hN l ≤ l.length) := of_decide_eq_false hf'
    clear hf hf'
    have fin : ∀ w', Fr Non w w' → ∃ u, Ending.returned (.tuple #[.slice none 0 0, .int .i64 0, .int .i64 2]) = Ending.returned (.tuple #[u, .int .i64 (gN l), .int .i64 (gE l)]) ∧ Bs w' u (gB l) ∧ Fr Non w w' ∧ ∀ k, u.ownBlock = some k → (Value.slice A l.length c).ownBlock = some k := by
      intro w' h
      rw [HF2.out.1, HF2.out.2.1, HF2.out.2.2]
      exact ⟨_, rfl, Bs.nil_ _, h, fun k hk => by cases hk⟩
    have FIN := Lib.hid fin
    clear fin HF2
    generalize hS l = s at *
    generalize hN l = m at *
    by_cases h0s : s = 0
    · subst h0s
      go_enter Tryz.func75, Tryz.ntmps75
      go_wp2_with fail
      refine h0.mono ?_
      rintro e w1 ⟨rfl, hfr⟩
      go_wp2
      go_ret3
      exact FIN.out _ hfr
    · have hz : ((s : Int) == 0) = false := by rw [beq_eq_false_iff_ne]; omega
      have hlt : (l.length : Int) < s + 4 + m := by omega
      go_enter Tryz.func75, Tryz.ntmps75
      go_wp2_with fail
      refine h0.mono ?_
      rintro e w1 ⟨rfl, hfr⟩
      go_wp2
      go_ret3
      exact FIN.out _ hfr

theorem fget_any (v : Value) (l : List UInt8) (w : World) (hv : Bs w v l) (ht : Tab w) (hl : l.length < 1099511627776) :
    Calls Tryz.prog 40 #[v] w fun e w' => ∃ u, e = .returned (.tuple #[u, .int .i64 (gN l), .int .i64 (gE l)]) ∧ Own w' w.heap.size u (gB l) ∧ Fr Non w w' := by
  have h0 := ffirst_any v l w hv ht hl
  have hb : Hid ((gB l).length < 140737488355328) := Lib.hid (by
    unfold gB; split
    · unfold bodyF; rw [List.length_take]; have := hN_le l; omega
    · simp)
  clear hv ht
  go_enter Tryz.func40, Tryz.ntmps40
  go_wp2_with fail
  refine h0.mono ?_
  rintro e w1 ⟨u, rfl, hu, hf, _⟩
  go_wp2_with fail
  refine (clone_any u _ w1 hu hb.out).mono ?_
  rintro e w2 ⟨u2, rfl, hown, hf2⟩
  go_wp2
  go_ret3
  exact ⟨u2, rfl, hown.mono hf.size, hf.trans hf2⟩
end Go.Proofs.YtheefloegbkflaaGreatDoor


namespace Go.Proofs.YtheefloegbkflaaGreatDoor
set_option linter.unusedVariables false
set_option linter.unusedSimpArgs false
set_option maxRecDepth 100000
open Go.RowKit

/-- what Read answers -/
def RdR (w : World) (B : Nat) (cols : List Co) (b : List UInt8) (size : Int) (e : Ending) : Prop :=
  ∃ u, e = .returned (.tuple #[.agg #[.int .i64 ((readF cols b size).2.1 : Nat), u], .int .i64 (readF cols b size).1]) ∧ Ho w B u (readF cols b size).2.2
theorem rdR_no {w : World} {B : Nat} {cols : List Co} {b : List UInt8} {size e0 : Int} (h : readF cols b size = (e0, 0, [])) : RdR w B cols b size (.returned (.tuple #[.agg #[.int .i64 0, .slice none 0 0], .int .i64 e0])) :=
  ⟨.slice none 0 0, by rw [h]; rfl, by rw [h]; exact no_nil _ _⟩
theorem rdR_yes {w : World} {B R : Nat} {cols : List Co} {b : List UInt8} {size : Int} {D : List Ch} {u : Value} (h : readF cols b size = (0, R, D)) (hu : Ho w B u D) : RdR w B cols b size (.returned (.tuple #[.agg #[.int .i64 (R : Int), u], .int .i64 0])) :=
  ⟨u, by rw [h], by rw [h]; exact hu⟩
theorem rdSays_big (R : Int) : ∀ (tys : List Int) (at_ : Nat) (l : List UInt8) (b : Bool), (rdSays R tys at_ l b).2.1 ≤ at_ + tys.length * 1048576
  | [], at_, l, b => by unfold rdSays; simp
  | ty :: tys, at_, l, b => by
    have hm := mostK_le l (show (0 : Int) ≤ 1048576 by omega)
    have ih := rdSays_big R tys (at_ + mostV l 1048576) (rdSay R ty l).1 (rdSay R ty l).2
    unfold rdSays
    rw [List.length_cons]
    dsimp only
    omega
/-- what makes a footer one, and what doesn't -/
theorem readF_ok {cols : List Co} {b : List UInt8} {size : Int} {D : List Ch} {at_ : Nat} (hc : chkC cols = 0) (hg : gE b = 0) (hX : rdF cols b = (D, at_, [], false)) (hR : mostV (gB b) 200 ≠ 0) (h1 : gN b = b.length) (h2 : size = (at_ : Int) + b.length) : readF cols b size = (0, mostV (gB b) 200, D) := by
  have hgd : goodF cols b size = true := by
    unfold goodF
    rw [hX]
    exact decide_eq_true ⟨h1, hR, rfl, rfl, by dsimp only; rw [h2]; push_cast; rfl⟩
  rw [readF_yes hc hg hgd, hX]; rfl
theorem readF_bad {cols : List Co} {b : List UInt8} {size : Int} {D : List Ch} {at_ : Nat} {q : List UInt8} {bad : Bool} (hc : chkC cols = 0) (hg : gE b = 0) (hX : rdF cols b = (D, at_, q, bad)) (h : ¬ (mostV (gB b) 200 ≠ 0 ∧ (!bad && q.isEmpty) = true ∧ gN b = b.length ∧ size = (at_ : Int) + b.length)) : readF cols b size = (2, 0, []) := by
  refine readF_no hc hg ?_
  unfold goodF
  rw [hX]
  refine decide_eq_false fun ⟨g1, g2, g3, g4, g5⟩ => h ⟨g2, ?_, g1, ?_⟩
  · dsimp only at g3 g4
    rw [g3, g4]; rfl
  · rw [← g5]; push_cast; rfl

set_option maxHeartbeats 8000000 in
theorem sread_any (v1 v2 : Value) (cols : List Co) (b : List UInt8) (size : Int) (w : World) (h1 : Ks w v1 cols) (hv : Bs w v2 b) (ht : Tab w) (hvl : ∀ q, v1.ownBlock = some q → q < w.heap.size) (hl : cols.length ≤ 1000000000) (hn : ∀ c ∈ cols, c.name.length ≤ 1000000000) (hb : b.length ≤ 1000000000) :
    Calls Tryz.prog 15 #[v1, v2, .int .i64 size] w fun e w' => RdR w' w.heap.size cols b size e ∧ Fr Non w w' := by
  obtain ⟨A1, c1, rfl⟩ := h1.shape
  obtain ⟨A, c, rfl⟩ := hv.shape
  have H1 := Lib.hid h1
  have HV := Lib.hid hv
  have HT := Lib.hid ht
  have HVl := Lib.hid hvl
  have hB0 : FtB (w.alloc (.cells #[.int .i64 0, .slice none 0 0] 40)) w.heap.size 0 (.slice none 0 0) := Blk.new _ _ _
  have f0 := (Fr.refl Non w).alloc (.cells #[.int .i64 0, .slice none 0 0] 40)
  have hgt := hB0.lt
  have HCk := Lib.hid (scheck_any _ cols _ (h1.non f0) hl hn)
  have HGet := Lib.hid (fun W (hf : Fr Non w W) => fget_any _ b W (hv.non hf) (ht.non hf) (by omega))
  have HBig := Lib.hid (fun l0 b0 => rdSays_big (mostV (gB b) 200) (cols.map Co.ty) 0 l0 b0)
  have HX : Hid (rdF cols b = rdSays (mostV (gB b) 200) (cols.map Co.ty) 0 (mostR (gB b) 200) (mostB (gB b) 200)) := Lib.hid rfl
  have HBd := Lib.hid (rdSays_bad (mostV (gB b) 200) (cols.map Co.ty) 0)
  have hm := mostK_le (gB b) (show (0 : Int) ≤ 200 by omega)
  have hgE : ((gE b : Nat) : Int) = 0 ∨ ((gE b : Nat) : Int) ≠ 0 := Decidable.em _
  clear h1 hv ht hvl
  go_enter Tryz.func15, Tryz.ntmps15
  go_wp2_with fail
  generalize hgf : w.heap.size = gf at *
  have HGf := Lib.hid (Nat.le_of_eq hgf)
  have HGf2 := Lib.hid (Nat.le_of_eq hgf.symm)
  clear hgf
  refine HCk.out.mono ?_
  rintro e w1 ⟨rfl, f1⟩
  have hB1 := hB0.fr f1 (fun e => e)
  have F1 := f0.trans f1
  have hsz1 := f1.size
  clear HCk hB0 f0 f1
  by_cases hc : chkC cols = 0
  · have hcb : ((chkC cols) != 0) = false := by rw [hc]; rfl
    have HC := Lib.hid hc
    have hc6 := (chk_is hc).2.2.2
    have HF1 := Lib.hid F1
    have HB1 : Hid (FtB _ _ _ _) := Lib.hid hB1
    have HGet1 := Lib.hid (HGet.out w1 F1)
    clear hc F1 hB1 HGet
    go_wp2_with fail
    refine HGet1.out.mono ?_
    rintro e w2 ⟨u2, rfl, ho2, f2⟩
    have hB2 : FtB w2 gf _ _ := HB1.out.fr f2 (fun e => e)
    have F2 := HF1.out.trans f2
    have hgs2 := f2.size
    have hgf2 := hB2.lt
    have HBs2 := Lib.hid ho2.bs
    obtain ⟨A2, c2, rfl⟩ := ho2.bs.shape
    have HRF := Lib.hid (fun (e0 : Int) (h : readF cols b size = (e0, 0, [])) W B => rdR_no (w := W) (B := B) h)
    clear HGet1 HF1 HB1 f2 ho2
    by_cases hg : gE b = 0
    · have hgb : (((gE b : Nat) : Int) != 0) = false := by rw [hg]; rfl
      have HG := Lib.hid hg
      have HF2 := Lib.hid F2
      have HB2 : Hid (FtB _ _ _ _) := Lib.hid hB2
      have HFr := Lib.hid (from_any _ (gB b) w2 HBs2.out)
      clear hg F2 hB2 hgE
      go_wp2_with fail
      refine HFr.out.mono ?_
      rintro e w3 ⟨rfl, s3, f3⟩
      have hB3 : FtB w3 gf _ _ := HB2.out.fr f3 (fun e => e)
      have F3 := HF2.out.trans f3
      have hlt3 := s3.1.lt
      have TK := Lib.hid (stake_any w2.heap.size (gB b) false _ cols w3 s3 (H1.out.non F3) (fun q hq => by have := HVl.out q hq; have := HGf.out; omega) hc6)
      have HF3 := Lib.hid F3
      have HB3 : Hid (FtB _ _ _ _) := Lib.hid hB3
      have hgs3 := f3.size
      clear HFr F3 hB3 s3 f3 HBs2 HB2 HF2
      generalize hG : w2.heap.size = g at *
      have hgg : gf ≠ g := by omega
      clear hG
      go_wp2_with fail
      refine TK.out.mono ?_
      rintro e w4 ⟨u4, l0, b0, hcase, rfl, ho4, s4, f4⟩
      have hbig := HBig.out l0 b0
      rw [List.length_map] at hbig
      have HXX : Hid ((mostV (gB b) 200 = 0 ∧ (rdSays (mostV (gB b) 200) (cols.map Co.ty) 0 l0 b0).2.2.2 = true) ∨ (mostV (gB b) 200 ≠ 0 ∧ rdF cols b = rdSays (mostV (gB b) 200) (cols.map Co.ty) 0 l0 b0)) := Lib.hid (by
        rcases hcase with ⟨r0, rfl, rfl⟩ | ⟨r0, rfl, rfl⟩
        · exact .inl ⟨r0, HBd.out⟩
        · exact .inr ⟨r0, HX.out⟩)
      clear hcase HBig HX HBd TK
      have hB4 : FtB w4 gf _ _ := HB3.out.fr f4 (fun e => hgg e)
      have F4 := HF3.out.fresh f4 (fun q e => by have h1 : q = g := e; have := HGf.out; omega)
      generalize rdSays (mostV (gB b) 200) (cols.map Co.ty) 0 l0 b0 = X at *
      obtain ⟨D, at_, q, bad⟩ := X
      dsimp only at hbig ho4 s4 HXX
      generalize hRm : mostV (gB b) 200 = R at *
      have hfa := (Fr.refl Non w4).alloc (.cells #[.int .i64 (R : Int), u4] 40)
      obtain ⟨A4, n4, c4, rfl⟩ : ∃ A n c, u4 = Value.slice A n c := by obtain ⟨A, c, h⟩ := (ho4.ns fd_ch).shape; exact ⟨A, _, c, h⟩
      have hBn : FtB (w4.alloc (.cells #[.int .i64 (R : Int), .slice A4 n4 c4] 40)) w4.heap.size R (.slice A4 n4 c4) := Blk.new _ _ _
      have s5 := s4.fr hfa (fun e => e)
      have hB5 := hB4.fr hfa (fun e => e)
      have F5 := F4.trans hfa
      have HEn := Lib.hid (end_any g q bad _ s5)
      have hgl4 := hB4.lt
      have HB5 : Hid (FtB _ _ _ _) := Lib.hid hB5
      have HF5 := Lib.hid F5
      have HBn : Hid (FtB _ _ _ _) := Lib.hid hBn
      have HO := Lib.hid (ho4.mono (show gf ≤ w3.heap.size by omega))
      have HRm := Lib.hid hRm
      clear hB4 F4 f4 s4 ho4 HF3 HB3 hfa hB5 F5 s5 hBn hRm
      go_wp2_with fail
      refine HEn.out.mono ?_
      rintro e w5 ⟨rfl, hw5⟩
      rw [hw5] at HB5 HF5 HBn
      have HO5 : Hid (Ho w5 gf (.slice A4 n4 c4) D) := Lib.hid (by rw [← hw5]; exact HO.out.alloc _)
      generalize hgn : w4.heap.size = gn at *
      clear hw5 HEn HO
      have hgn2 : gf ≠ gn := by omega
      have hBn := HBn.out
      have k0 : w5.cell? ⟨gn, 0, none⟩ = some (.int .i64 R) := hBn.cell 0
      have k1 : w5.cell? ⟨gn, 1, none⟩ = some (.slice A4 n4 c4) := hBn.cell 1
      have HNo := Lib.hid (fun (h : ¬ (R ≠ 0 ∧ (!bad && q.isEmpty) = true ∧ gN b = b.length ∧ size = (at_ : Int) + b.length)) => show readF cols b size = (2, 0, []) from by
        rcases HXX.out with ⟨r0, hb1⟩ | ⟨r0, hX⟩
        · refine readF_no HC.out HG.out ?_
          unfold goodF
          refine decide_eq_false fun ⟨_, g2, _⟩ => g2 ?_
          unfold rowsF
          rw [HRm.out]; exact r0
        · exact readF_bad HC.out HG.out hX (by rw [HRm.out]; exact h))
      have hB6 := HB5.out
      have F6 := HF5.out
      clear HB5 HF5 hBn
      cases hE : (!bad && q.isEmpty) with
      | false =>
        have HNo2 := Lib.hid (HNo.out (by rw [hE]; rintro ⟨_, h, _⟩; cases h))
        clear HNo HXX hE
        have e0 : w5.cell? ⟨gf, 0, none⟩ = some (.int .i64 0) := hB6.cell 0
        have e1 : w5.cell? ⟨gf, 1, none⟩ = some (.slice none 0 0) := hB6.cell 1
        have z0 := hB6.frozen 0
        have z1 := hB6.frozen 1
        have HBx : Hid (Blk _ _ _ _) := Lib.hid hB6
        have HFx := Lib.hid F6
        clear hB6 F6
        go_wp2
        (try simp only [Exit.inBlock, Exit.then])
        have hBe : Blk ((w5.setCell ⟨gf, 0, none⟩ (.int .i64 0)).setCell ⟨gf, 1, none⟩ (.slice none 0 0)) gf 40 #[.int .i64 0, .slice none 0 0] := (HBx.out.set 0 _).set 1 _
        have fs := ((Fr.refl (One gf) w5).set1 0 (.int .i64 0)).set1 1 (.slice none 0 0)
        refine bodyPost_ret (v := .tuple #[.agg #[.int .i64 0, .slice none 0 0], .int .i64 2]) (ret_cell (p := 6) (u := 7) (ty := 40) rfl _ _ gf _ _ rfl hBe (load_foot hBe rfl)) rfl ?_
        refine ⟨?_, HFx.out.fresh fs (fun q e => by have h1 : q = gf := e; have := HGf.out; omega)⟩
        exact HRF.out 2 HNo2.out _ _
      | true =>
        by_cases hN : gN b = b.length
        · have hNb : (((gN b : Nat) : Int) != b.length) = false := by rw [hN]; simp
          by_cases hS : size = (at_ : Int) + b.length
          · have hSb : (size != (at_ : Int) + b.length) = false := by rw [hS]; simp
            have hYes : Hid (readF cols b size = (0, R, D)) := Lib.hid (by
              rcases HXX.out with ⟨r0, hb1⟩ | ⟨r0, hX⟩
              · rw [hb1] at hE; simp at hE
              · simp at hE
                rw [hE.1, hE.2] at hX
                rw [← HRm.out]
                exact readF_ok HC.out HG.out hX (by rw [HRm.out]; exact r0) hN hS)
            clear HNo HXX hE hN hS
            have e0 : w5.cell? ⟨gf, 0, none⟩ = some (.int .i64 0) := hB6.cell 0
            have e1 : w5.cell? ⟨gf, 1, none⟩ = some (.slice none 0 0) := hB6.cell 1
            have z0 := hB6.frozen 0
            have z1 := hB6.frozen 1
            have HBx : Hid (Blk _ _ _ _) := Lib.hid hB6
            have HFx := Lib.hid F6
            clear hB6 F6
            go_wp2
            (try simp only [Exit.inBlock, Exit.then])
            have hBe : Blk ((w5.setCell ⟨gf, 0, none⟩ (.int .i64 R)).setCell ⟨gf, 1, none⟩ (.slice A4 n4 c4)) gf 40 #[.int .i64 R, .slice A4 n4 c4] := (HBx.out.set 0 _).set 1 _
            have fs := ((Fr.refl (One gf) w5).set1 0 (.int .i64 (R : Int))).set1 1 (.slice A4 n4 c4)
            refine bodyPost_ret (v := .tuple #[.agg #[.int .i64 R, .slice A4 n4 c4], .int .i64 0]) (ret_cell (p := 6) (u := 7) (ty := 40) rfl _ _ gf _ _ rfl hBe (load_foot hBe rfl)) rfl ?_
            refine ⟨rdR_yes hYes.out ((HO5.out.fr fs (fun b hb e => no_other HO5.out HBx.out ch_ne_foot b hb e)).mono HGf.out), HFx.out.fresh fs (fun q e => by have h1 : q = gf := e; have := HGf.out; omega)⟩
          · have hSb : (size != (at_ : Int) + b.length) = true := by rw [bne_iff_ne]; exact hS
            have HNo2 := Lib.hid (HNo.out (by rintro ⟨_, _, _, h⟩; exact hS h))
            clear HNo HXX hE hN hS
            have e0 : w5.cell? ⟨gf, 0, none⟩ = some (.int .i64 0) := hB6.cell 0
            have e1 : w5.cell? ⟨gf, 1, none⟩ = some (.slice none 0 0) := hB6.cell 1
            have z0 := hB6.frozen 0
            have z1 := hB6.frozen 1
            have HBx : Hid (Blk _ _ _ _) := Lib.hid hB6
            have HFx := Lib.hid F6
            clear hB6 F6
            go_wp2
            (try simp only [Exit.inBlock, Exit.then])
            have hBe : Blk ((w5.setCell ⟨gf, 0, none⟩ (.int .i64 0)).setCell ⟨gf, 1, none⟩ (.slice none 0 0)) gf 40 #[.int .i64 0, .slice none 0 0] := (HBx.out.set 0 _).set 1 _
            have fs := ((Fr.refl (One gf) w5).set1 0 (.int .i64 0)).set1 1 (.slice none 0 0)
            refine bodyPost_ret (v := .tuple #[.agg #[.int .i64 0, .slice none 0 0], .int .i64 2]) (ret_cell (p := 6) (u := 7) (ty := 40) rfl _ _ gf _ _ rfl hBe (load_foot hBe rfl)) rfl ?_
            refine ⟨?_, HFx.out.fresh fs (fun q e => by have h1 : q = gf := e; have := HGf.out; omega)⟩
            exact HRF.out 2 HNo2.out _ _
        · have hNb : (((gN b : Nat) : Int) != b.length) = true := by rw [bne_iff_ne]; omega
          have HNo2 := Lib.hid (HNo.out (by rintro ⟨_, _, h, _⟩; exact hN h))
          clear HNo HXX hE hN
          have e0 : w5.cell? ⟨gf, 0, none⟩ = some (.int .i64 0) := hB6.cell 0
          have e1 : w5.cell? ⟨gf, 1, none⟩ = some (.slice none 0 0) := hB6.cell 1
          have z0 := hB6.frozen 0
          have z1 := hB6.frozen 1
          have HBx : Hid (Blk _ _ _ _) := Lib.hid hB6
          have HFx := Lib.hid F6
          clear hB6 F6
          go_wp2
          (try simp only [Exit.inBlock, Exit.then])
          have hBe : Blk ((w5.setCell ⟨gf, 0, none⟩ (.int .i64 0)).setCell ⟨gf, 1, none⟩ (.slice none 0 0)) gf 40 #[.int .i64 0, .slice none 0 0] := (HBx.out.set 0 _).set 1 _
          have fs := ((Fr.refl (One gf) w5).set1 0 (.int .i64 0)).set1 1 (.slice none 0 0)
          refine bodyPost_ret (v := .tuple #[.agg #[.int .i64 0, .slice none 0 0], .int .i64 2]) (ret_cell (p := 6) (u := 7) (ty := 40) rfl _ _ gf _ _ rfl hBe (load_foot hBe rfl)) rfl ?_
          refine ⟨?_, HFx.out.fresh fs (fun q e => by have h1 : q = gf := e; have := HGf.out; omega)⟩
          exact HRF.out 2 HNo2.out _ _
    · have hgb : (((gE b : Nat) : Int) != 0) = true := by rw [bne_iff_ne]; omega
      have HNo2 := Lib.hid (readF_frame size HC.out hg)
      clear hg hgE
      have e0 : w2.cell? ⟨gf, 0, none⟩ = some (.int .i64 0) := hB2.cell 0
      have e1 : w2.cell? ⟨gf, 1, none⟩ = some (.slice none 0 0) := hB2.cell 1
      have z0 := hB2.frozen 0
      have z1 := hB2.frozen 1
      have HBx : Hid (Blk _ _ _ _) := Lib.hid hB2
      have HFx := Lib.hid F2
      clear hB2 F2
      go_wp2
      (try simp only [Exit.inBlock, Exit.then])
      have hBe : Blk ((w2.setCell ⟨gf, 0, none⟩ (.int .i64 0)).setCell ⟨gf, 1, none⟩ (.slice none 0 0)) gf 40 #[.int .i64 0, .slice none 0 0] := (HBx.out.set 0 _).set 1 _
      have fs := ((Fr.refl (One gf) w2).set1 0 (.int .i64 0)).set1 1 (.slice none 0 0)
      refine bodyPost_ret (v := .tuple #[.agg #[.int .i64 0, .slice none 0 0], .int .i64 (gE b : Nat)]) (ret_cell (p := 6) (u := 7) (ty := 40) rfl _ _ gf _ _ rfl hBe (load_foot hBe rfl)) rfl ?_
      refine ⟨?_, HFx.out.fresh fs (fun q e => by have h1 : q = gf := e; have := HGf.out; omega)⟩
      exact HRF.out _ HNo2.out _ _
  · have hcb : ((chkC cols) != 0) = true := by rw [bne_iff_ne]; exact hc
    have HNo2 := Lib.hid (readF_arg b size hc)
    clear hc
    have e0 : w1.cell? ⟨gf, 0, none⟩ = some (.int .i64 0) := hB1.cell 0
    have e1 : w1.cell? ⟨gf, 1, none⟩ = some (.slice none 0 0) := hB1.cell 1
    have z0 := hB1.frozen 0
    have z1 := hB1.frozen 1
    have HBx : Hid (Blk _ _ _ _) := Lib.hid hB1
    have HFx := Lib.hid F1
    clear hB1 F1
    go_wp2
    (try simp only [Exit.inBlock, Exit.then])
    have hBe : Blk ((w1.setCell ⟨gf, 0, none⟩ (.int .i64 0)).setCell ⟨gf, 1, none⟩ (.slice none 0 0)) gf 40 #[.int .i64 0, .slice none 0 0] := (HBx.out.set 0 _).set 1 _
    have fs := ((Fr.refl (One gf) w1).set1 0 (.int .i64 0)).set1 1 (.slice none 0 0)
    refine bodyPost_ret (v := .tuple #[.agg #[.int .i64 0, .slice none 0 0], .int .i64 1]) (ret_cell (p := 6) (u := 7) (ty := 40) rfl _ _ gf _ _ rfl hBe (load_foot hBe rfl)) rfl ?_
    refine ⟨?_, HFx.out.fresh fs (fun q e => by have h1 : q = gf := e; have := HGf.out; omega)⟩
    exact rdR_no HNo2.out
end Go.Proofs.YtheefloegbkflaaGreatDoor


namespace Go.Proofs.YtheefloegbkflaaGreatDoor
set_option linter.unusedVariables false
set_option linter.unusedSimpArgs false
set_option maxRecDepth 100000
open Go.RowKit

/-- where a row lies behind an append: in its old block, or in a new one -/
def Wh (w : World) (v v' : Value) : Prop := v'.ownBlock = v.ownBlock ∨ ∀ k, v'.ownBlock = some k → w.heap.size ≤ k
theorem run_append_wh {P : Program} (w : World) (base : Nat) (t ty e : TypeId) (i : TypeInfo) (z : Value) (size bytes : Nat) (ht : P.underlying t = some (.slice e)) (hi : P.info? e = some i) (hz : i.zero = some z)
    (hsize : i.size = size) (hby : i.bytes = bytes) (hzs : z.cells.size = size) (hsz : 0 < size)
    (v : Value) (n : Nat) (xs : List Value) (hown : w.ownsRow base e size v n xs)
    (a : Addr) (m c : Nat) (news : List Value) (hl : news.length = m * size) (hnews : ∀ j u, news[j]? = some u → w.cell? (a.add j) = some u) (h1 : ∀ u ∈ news, u.oneCell' = true)
    (h63 : n + m ≤ maxLen) (hbytes : (n + m) * bytes ≤ 140737488355328) (hbase : base ≤ w.heap.size) :
    ∃ v' w', (Builtin.append_ #[t, t] ty #[v, .slice (some a) m c]).run P w = .ok v' w' ∧ w'.ownsRow base e size v' (n + m) (xs ++ news) ∧ w.grownBy w' v.ownBlock ∧ Wh w v v' := by
  have up : ∀ v' w' ys, World.ownsRow w' w.heap.size e size v' (n + m) ys → World.ownsRow w' base e size v' (n + m) ys := by
    intro v' w' ys h
    refine ⟨h.1, ?_⟩
    rcases h.2 with h2 | ⟨g, cap, cur, hv, hb, r⟩
    · exact .inl h2
    · exact .inr ⟨g, cap, cur, hv, by omega, r⟩
  rcases hown.2 with ⟨rfl, h0⟩ | ⟨g, cap, cur, rfl, hbg, hg, hnc, hcm, hcs, htk⟩
  · have hown2 : w.ownsRow w.heap.size e size (.slice none 0 0) n xs := ⟨hown.1, .inl ⟨rfl, h0⟩⟩
    obtain ⟨v', w', hr, r1, r2, _⟩ := run_append_own (P := P) w w.heap.size t ty e i z size bytes ht hi hz hsize hby hzs hsz _ n xs hown2 a m c news hl hnews h1 h63 hbytes (Nat.le_refl _)
    exact ⟨v', w', hr, up v' w' _ r1, r2, .inr fun k hk => (World.ownsRow.lt r1 k hk).1⟩
  · by_cases hroom : n + m ≤ cap
    · obtain ⟨w', hr, r1, r2⟩ := run_append_own_spare (P := P) w base t ty e i size ht hi hsize g n cap xs hown a m c news hl hnews h1 hroom
      exact ⟨_, w', hr, r1, r2, .inl rfl⟩
    · obtain ⟨v', w', hr, r1, r2⟩ := run_append_arg_grows (P := P) w t ty e i z size bytes ht hi hz hsize hby hzs hsz ⟨g, 0, none⟩ n cap xs hown.1 (fun j u hj => World.ownsRow.cells hown rfl j u hj) a m c news hl hnews (by omega) h63 hbytes
      refine ⟨v', w', hr, up v' w' _ r1, ⟨r2.os, r2.tape, r2.output, r2.size, fun k hk _ => r2.block k hk (fun e => by cases e)⟩, .inr fun k hk => (World.ownsRow.lt r1 k hk).1⟩

/-- append of bytes onto bytes of the call's own, out of a slice -/
theorem wp_app2 {w : World} {o : Oper} {a : Act} {K : Act → World → Prop} {Q : Exit → Act → World → Prop} (s x : Operand)
    (ho : o.op = .call { callee := .builtin .append, args := #[s, x], argTypes := #[26, 26] })
    (B : Nat) (v y : Value) (l m : List UInt8) (hs : a.eval s = v) (hown : Own w B v l) (hx : a.eval x = y) (hy : Bs w y m)
    (hl : l.length + m.length < 140737488355328) (hB : B ≤ w.heap.size)
    (h : ∀ v' w', Own w' B v' (l ++ m) → Fr (fun k => v.ownBlock = some k) w w' → Wh w v v' → K (a.put o.dst v') w') : o.wp Tryz.prog a w K Q := by
  obtain ⟨i, hi, hz0, hz1, hz2⟩ := info_parts info_u8
  obtain ⟨A, c, rfl, hmc, hn, hcells⟩ := hy
  cases A with
  | some ad =>
    obtain ⟨v', w', hr, h1, h2, h3⟩ := run_append_wh (P := Tryz.prog) w B 26 o.type 5 i _ 1 1 Tryz.underlying26 hi hz0 hz1 hz2 rfl (by omega) v l.length (l.map bv) hown ad m.length c (m.map bv) (by simp) (by
      intro j u hu
      have hj : j < m.length := by simpa using (List.getElem?_eq_some_iff.1 hu).1
      rw [hcells ad rfl j hj]
      simpa [hj] using hu) (bv_one m) (by unfold maxLen; omega) (by omega) hB
    unfold Oper.wp
    have hx' : a.eval x = .slice (some ad) m.length c := hx
    simp only [execOp, ho, resolve, invoke, builtin, Sem.run_bind, Sem.run_pure, Result.andThen_ok, List.map_toArray, List.map_cons, List.map_nil, hs, hx', hr]
    refine h v' w' ?_ (Fr.of_grown h2) h3
    unfold Own; simpa using h1
  | none =>
    have hm : m = [] := List.eq_nil_of_length_eq_zero (by have := hn rfl; omega)
    subst hm
    have hc : c = 0 := hn rfl
    subst hc
    have hrun := run_append_owned_none (P := Tryz.prog) (w := w) B 26 o.type 5 i 1 Tryz.underlying26 hi v l.length (l.map bv) hown
    unfold Oper.wp
    have hx' : a.eval x = .slice none 0 0 := hx
    simp [execOp, ho, resolve, invoke, builtin, hs, hx', hrun, Result.andThen]
    exact h v w (by simpa using hown) (Fr.refl _ _) (.inl rfl)
theorem wpList_app2 {w : World} {ops : Array Oper} {rest : List Oper} {o : Oper} {a : Act} {Q : Exit → Act → World → Prop} (hgd : o.guard = none) (s x : Operand)
    (ho : o.op = .call { callee := .builtin .append, args := #[s, x], argTypes := #[26, 26] })
    (B : Nat) (v y : Value) (l m : List UInt8) (hs : a.eval s = v) (hown : Own w B v l) (hx : a.eval x = y) (hy : Bs w y m)
    (hl : l.length + m.length < 140737488355328) (hB : B ≤ w.heap.size)
    (h : ∀ v' w', Own w' B v' (l ++ m) → Fr (fun k => v.ownBlock = some k) w w' → Wh w v v' → wpList Tryz.prog ops Q rest (a.put o.dst v') w') : wpList Tryz.prog ops Q (o :: rest) a w :=
  wpList_plain hgd fun _ hK => wp_app2 s x ho B v y l m hs hown hx hy hl hB fun v' w' h1 h2 h3 => hK _ _ (h v' w' h1 h2 h3)
/-- append as one step of a region that draws -/
theorem step_app2 {w : World} {ops : Array Oper} {o : Oper} {a : Act} {K : Act → World → Prop} {Q : Exit → Act → World → Prop} {E : Prop} (hgd : o.guard = none) (s x : Operand)
    (ho : o.op = .call { callee := .builtin .append, args := #[s, x], argTypes := #[26, 26] })
    (B : Nat) (v y : Value) (l m : List UInt8) (hs : a.eval s = v) (hown : Own w B v l) (hx : a.eval x = y) (hy : Bs w y m)
    (hl : l.length + m.length < 140737488355328) (hB : B ≤ w.heap.size)
    (h : ∀ v' w', Own w' B v' (l ++ m) → Fr (fun k => v.ownBlock = some k) w w' → Wh w v v' → K (a.put o.dst v') w') : if Region.wanted o (yielded ops a.tmps) = true then Oper.wp Tryz.prog o a w K Q else E := by
  have hw : Region.wanted o (yielded ops a.tmps) = true := by simp [Region.wanted, hgd]
  rw [if_pos hw]
  exact wp_app2 s x ho B v y l m hs hown hx hy hl hB h

/-- two rows are apart -/
def Far (v u : Value) : Prop := ∀ k, v.ownBlock = some k → u.ownBlock ≠ some k
theorem Far.symm {v u : Value} (h : Far v u) : Far u v := fun k h1 h2 => h k h2 h1
theorem far_nil (v : Value) : Far (.slice none 0 0) v := fun k h => by cases h
/-- the one that grew stays apart from one that stood -/
theorem Far.wh {w : World} {v v' u : Value} (h : Far v u) (hw : Wh w v v') (hu : ∀ k, u.ownBlock = some k → k < w.heap.size) : Far v' u := by
  intro k hk hk'
  rcases hw with e | e
  · rw [e] at hk; exact h k hk hk'
  · have := e k hk; have := hu k hk'; omega
end Go.Proofs.YtheefloegbkflaaGreatDoor
