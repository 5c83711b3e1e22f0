/-
  Joined: Layer 12: which columns a table may have, the document's; the law's words; the example. · Layer 17: the document's May, Small, typed, Fits. · Layer 18: which queries there may be, the program's: the document's. · Layer 18: which queries there may be, the program's: a query's text, the document's. · slices.Sorted(maps.Keys(m)) at a map of whole numbers to whole numbers: each is one application of a contract of the library. · A map of whole numbers to whole numbers of the call's own: which it has; made, asked, written, its keys. · Layer 18: which queries there may be, the program's: which columns a query needs, the program's.
-/
import Derived.Lib.Zigzag
import Derived.Lib.DecodeN
import Derived.Laws.RangeAny
import Derived.Laws.Cover4
import Derived.Laws.Cover1
import Derived.Deep.QuietTactic
import Derived.BigQuiet
import Derived.Deep.RegionHeld3
import Derived.Deep.DrawnRows
import Derived.Lib.SmallJoins
import Derived.Lib.AppendIntMem
import Derived.Laws.StructEq
import Derived.Laws.Rows
import Derived.Laws.ResultCell
import Derived.Deep.RegionWith
import Derived.Test.YtibopcceffncpaaGreatDoorZ4
import Derived.Test.YtibopcceffncpaaGreatDoorZ5
import Derived.Test.YtibopcceffncpaaGreatDoorZ2
import Derived.Shelf.SlIterI.Nil
import Derived.Shelf.SortM.Plain
import Derived.Shelf.SortM.SortNone
import Derived.Test.YtibopcceffncpaaGreatDoorZ1
import Derived.Maps.OwnSet
import Derived.Maps.OwnOps
import Derived.Test.YtibopcceffncpaaGreatDoorZ3

namespace Go.Proofs.YtibopcceffncpaaGreatDoor
set_option linter.unusedVariables false
set_option linter.unusedSimpArgs false
set_option maxRecDepth 100000
open Go.RowKit

theorem badC_no {n : Tx} {ty : Int} {nl : Bool} (h : nameB n = true) (h1 : ¬ ty < 1) (h2 : ¬ 3 < ty) : badC ⟨n, ty, nl⟩ = false := by
  unfold badC; dsimp only; rw [h]
  have : isTy ty = true := by simp [isTy]; omega
  rw [this]; rfl
theorem badC_name {n : Tx} {ty : Int} {nl : Bool} (h : nameB n = false) : badC ⟨n, ty, nl⟩ = true := by
  unfold badC; dsimp only; rw [h]; rfl
theorem badC_ty {n : Tx} {ty : Int} {nl : Bool} (h : ty < 1 ∨ 3 < ty) : badC ⟨n, ty, nl⟩ = true := by
  unfold badC; dsimp only
  have : isTy ty = false := by simp [isTy]; omega
  rw [this]; simp

set_option maxHeartbeats 2000000 in
theorem rcheck_any (v : Value) (l : List Co) (w : World) (hv : Ks w v l) (hl : l.length ≤ 1000000000) (hb : ∀ c ∈ l, c.name.length ≤ 1000000000) :
    Calls Tryz.prog 30 #[v] w fun e w' => e = .returned (.int .i64 (chkC l)) ∧ Fr Non w w' := by
  obtain ⟨A, c, rfl, hlc, hn, hcell⟩ := hv
  have HC := Lib.hid hcell
  have HN := Lib.hid hn
  have HB := Lib.hid hb
  clear hcell hn hb
  go_enter Tryz.func30, Tryz.ntmps30
  go_wp2
  go_loopw [3] (fun i wr => ∃ (k : Nat), k ≤ l.length ∧ i = .int .i64 k ∧ Hid ((l.take k).any badC = false) ∧ Hid ((namesC (l.take k)).Nodup) ∧ Fr Non w wr) (fun i _ => l.length - (intOf i).toNat)
  case atStart => exact ⟨0, Nat.zero_le _, rfl, Lib.hid rfl, Lib.hid (by simp [namesC]), Fr.refl _ _⟩
  case round =>
    obtain ⟨k, hk, rfl, hany, hnd, hfr⟩ := hrel
    by_cases hlt : k < l.length
    · cases A with
      | none => have := HN.out rfl; omega
      | some a =>
        have HF := Lib.hid hfr
        obtain ⟨hc0, hc1, hc2⟩ := co_lit ((HC.out a rfl k hlt).non hfr)
        have HX : Hid (badC l[k] = true → chkC l = 1) := Lib.hid (fun h => chk_bad hlt h)
        have HY : Hid (badC l[k] = false → (l.take (k + 1)).any badC = false) := Lib.hid (fun h => any_more hlt hany.out h)
        have HD : Hid (∀ j (hj : j < l.length), j < k → l[j].name = l[k].name → chkC l = 1) := Lib.hid (fun j hj hjk h => chk_dup (nodup_not hlt hjk h))
        have HU : Hid ((∀ j (hj : j < l.length), j < k → l[j].name ≠ l[k].name) → (namesC (l.take (k + 1))).Nodup) := Lib.hid (fun h => nodup_more hlt hnd.out h)
        have M := fun W => rname_any l[k].name W (HB.out _ (List.getElem_mem hlt))
        have HK := Lib.hid (HC.out a rfl k hlt)
        clear hany hnd hfr
        generalize l[k] = x at *
        obtain ⟨xn, xt, xb⟩ := x
        dsimp only at hc0 hc1 hc2 HX HY HD HU M
        cases hm : nameB xn
        · have HE := Lib.hid (HX.out (badC_name hm))
          simp only [hm] at M
          replace M := Lib.hid M
          clear HX HY HD HU hm
          go_wp2_with fail
          refine (M.out _).mono ?_
          rintro e w1 ⟨rfl, f1⟩
          go_wp2
          go_ret
          exact ⟨ret_int HE.out.symm, HF.out.trans f1⟩
        · have HM := Lib.hid hm
          simp only [hm] at M
          replace M := Lib.hid M
          clear hm
          go_wp2_with fail
          refine (M.out _).mono ?_
          rintro e w1 ⟨rfl, f1⟩
          have hF1 := HF.out.trans f1
          clear hc0 hc1 hc2
          obtain ⟨hc0, hc1, hc2⟩ := co_lit (HK.out.non hF1)
          dsimp only at hc0 hc1 hc2
          replace hF1 := Lib.hid hF1
          clear HF f1 M
          by_cases t1 : xt < 1
          · have HE := Lib.hid (HX.out (badC_ty (.inl t1)))
            clear HX HY HD HU
            go_wp2
            go_ret
            exact ⟨ret_int HE.out.symm, hF1.out⟩
          · by_cases t3 : 3 < xt
            · have HE := Lib.hid (HX.out (badC_ty (.inr t3)))
              clear HX HY HD HU
              go_wp2
              go_ret
              exact ⟨ret_int HE.out.symm, hF1.out⟩
            · have HE := Lib.hid (HY.out (badC_no HM.out t1 t3))
              clear HX HY
              go_wp2
              go_loopw [4] (fun i wx => ∃ q : Nat, q ≤ k ∧ i = .int .i64 q ∧ Hid (∀ j (hj : j < l.length), j < q → l[j].name ≠ xn) ∧ ∃ n, wx = w1.drewN n) (fun i _ => k - (intOf i).toNat)
              case atStart => exact ⟨0, Nat.zero_le _, rfl, Lib.hid (fun _ _ h => by omega), 0, rfl⟩
              case round =>
                obtain ⟨q, hq, rfl, hne, n, rfl⟩ := hrel
                by_cases hqk : q < k
                · have hql : q < l.length := by omega
                  have HZ : Hid (l[q].name = xn → chkC l = 1) := Lib.hid (HD.out q hql hqk)
                  have HW := Lib.hid (fun h => ne_more hql hne.out h)
                  obtain ⟨y0, y1, y2⟩ := co_lit ((HC.out a rfl q hql).non hF1.out)
                  clear hne
                  generalize l[q] = y at *
                  obtain ⟨yn, yt, yb⟩ := y
                  dsimp only at y0 y1 y2 HZ HW
                  by_cases he : yn = xn
                  · have H := Lib.hid (HZ.out he)
                    have hbe : (yn == xn) = true := by rw [beq_iff_eq]; exact he
                    clear HZ HW he
                    go_wp2
                    go_quiet (fail)
                    go_wp2
                    go_ret
                    exact ⟨ret_int H.out.symm, (hF1.out.drewN n).drewN _⟩
                  · have H := Lib.hid (HW.out he)
                    have hbe : (yn == xn) = false := by rw [beq_eq_false_iff_ne]; exact he
                    clear HZ HW he
                    go_wp2
                    go_quiet (fail)
                    go_wp2
                    go_roundw
                    case rel => exact ⟨q + 1, by omega, by go_num, H, _, rfl⟩
                    case measure => simp [intOf]; omega
                · have H := Lib.hid (HU.out (fun j hj hjk => hne.out j hj (by omega)))
                  clear HU HD hne
                  go_wp2
                  go_roundw
                  case rel => exact ⟨k + 1, by omega, by go_num, HE, H, hF1.out.drewN n⟩
                  case measure => simp [intOf]; omega
    · have HA : Hid (l.any badC = false) := Lib.hid (by have := hany.out; rwa [List.take_of_length_le (by omega)] at this)
      have HD : Hid ((namesC l).Nodup) := Lib.hid (by have := hnd.out; rwa [List.take_of_length_le (by omega)] at this)
      clear hany hnd
      by_cases h0 : l.length = 0
      · have H := Lib.hid (chk_none h0)
        go_wp2
        go_ret
        exact ⟨ret_int H.out.symm, hfr⟩
      · have h0b : ((l.length : Int) == 0) = false := by rw [beq_eq_false_iff_ne]; omega
        have H0 := Lib.hid h0
        clear h0
        by_cases h6 : 6 < l.length
        · have H := Lib.hid (chk_many H0.out HA.out HD.out h6)
          go_wp2
          go_ret
          exact ⟨ret_int H.out.symm, hfr⟩
        · have H := Lib.hid (chk_ok H0.out HA.out HD.out h6)
          go_wp2
          go_ret
          exact ⟨ret_int H.out.symm, hfr⟩

set_option maxHeartbeats 1000000 in
theorem ksmall_any (v : Value) (l : List Co) (w : World) (hv : Ks w v l) :
    Calls Tryz.prog 4 #[v] w fun e w' => ∃ b, e = .returned (.bool b) ∧ (b = true → l.length ≤ 20 ∧ ∀ c ∈ l, c.name.length ≤ 100) ∧ Fr Non w w' := by
  obtain ⟨A, c, rfl, hlc, hn, hcell⟩ := hv
  have HC := Lib.hid hcell
  have HN := Lib.hid hn
  clear hcell hn
  go_enter Tryz.func4, Tryz.ntmps4
  go_wp2
  go_loopw [3] (fun i wr => ∃ (k : Nat), k ≤ l.length ∧ k ≤ 30 ∧ i = .int .i64 k ∧ Hid (∀ j (h : j < l.length), j < k → l[j].name.length ≤ 100) ∧ Fr Non w wr) (fun i _ => 30 - (intOf i).toNat)
  case atStart => exact ⟨0, Nat.zero_le _, Nat.zero_le _, rfl, Lib.hid (fun _ _ h => by omega), Fr.refl _ _⟩
  case round =>
    obtain ⟨k, hk, hk2, rfl, HS, hfr⟩ := hrel
    by_cases hlt : k < l.length
    · by_cases h30 : k < 30
      · cases A with
        | none => have := HN.out rfl; omega
        | some a =>
          obtain ⟨hc0, hc1, hc2⟩ := co_lit ((HC.out a rfl k hlt).non hfr)
          have HY : Hid (l[k].name.length ≤ 100 → ∀ j (h : j < l.length), j < k + 1 → l[j].name.length ≤ 100) := Lib.hid (fun h j hj hjk => by
            by_cases e : j = k
            · subst e; exact h
            · exact HS.out j hj (by omega))
          clear HS
          generalize l[k] = x at *
          obtain ⟨xn, xi, xt⟩ := x
          dsimp only at hc0 hc1 hc2 HY
          have hs := slenN xn
          by_cases hx : 100 < xn.length
          · go_wp2
            go_ret
            exact ⟨false, rfl, (fun h => by cases h), hfr⟩
          · have H := Lib.hid (HY.out (by omega))
            clear HY
            go_wp2
            go_roundw
            case rel => exact ⟨k + 1, by omega, by omega, by go_num, H, hfr⟩
            case measure => simp [intOf]; omega
      · go_wp2
        go_ret
        exact ⟨_, rfl, (fun h => by have := of_decide_eq_true h; omega), hfr⟩
    · have H : Hid (∀ c ∈ l, c.name.length ≤ 100) := Lib.hid (fun c hc => by
        obtain ⟨j, hj, rfl⟩ := List.mem_iff_getElem.1 hc
        exact HS.out j hj (by omega))
      clear HS
      go_wp2
      go_ret
      exact ⟨_, rfl, (fun h => ⟨by have := of_decide_eq_true h; omega, H.out⟩), hfr⟩

end Go.Proofs.YtibopcceffncpaaGreatDoor


namespace Go.Proofs.YtibopcceffncpaaGreatDoor
set_option linter.unusedVariables false
set_option linter.unusedSimpArgs false
set_option maxRecDepth 100000
open Go.RowKit

set_option maxHeartbeats 2000000 in
theorem rpmay_any (h : Ph) (t : Kv) (ks : List Pd) (w : World) (hk : Kd w t ks) (hlen : lenP (.mk h ks) = true) :
    Calls Tryz.prog 25 #[pdV h t] w fun e w' => e = .returned (.bool (mayP (.mk h ks))) ∧ Fr Non w w' := by
  have F0 : Fr Non w (w.alloc (.cells (pdC h t) 28)) := (Fr.refl Non w).alloc _
  have HM := Lib.hid (may_size (.mk h ks))
  have C1 := rsize_any (.mk h ks) t 16 6 6 _ rfl (hk.non F0) hlen (by omega) (by omega) (by omega)
  have C2 := Lib.hid (fun W hk => ronep_any (.mk h ks) t W hk hlen)
  have PB := Lib.hid (pd_new w _ h t rfl)
  have hs := (size_is (.mk h ks) 16 6 (by omega)).2.2
  generalize sizeP (.mk h ks) 16 6 = z at *
  generalize mayP (.mk h ks) = r at *
  generalize oneP (.mk h ks) = b at *
  dsimp only [Pd.hd, Pd.kids] at C1 C2
  have C1 := Lib.hid C1
  have HK := Lib.hid (hk.non F0)
  have F0 := Lib.hid F0
  clear hk hlen
  obtain ⟨ho, hc, hm, ⟨vn, vi, vt⟩, hkd, hp⟩ := h
  obtain ⟨A, nn, c⟩ := t
  unfold pdV pdC kidV at *
  dsimp only at *
  by_cases h16 : z ≤ 16
  · have HE : Hid (r = b) := Lib.hid (by rw [← HM.out, decide_eq_true h16]; rfl)
    clear HM
    go_enter Tryz.func25, Tryz.ntmps25
    go_wp2_with fail
    refine C1.out.mono ?_
    rintro e w1 ⟨rfl, f1⟩
    obtain ⟨g0, g1, g2, g3, g4, g5, g6, g7, g8⟩ := pdB_cells (PB.out.fr f1 (fun e => e))
    dsimp only at g0 g1 g2 g3 g4 g5 g6 g7 g8
    have HK1 := Lib.hid (HK.out.non f1)
    have F1 := Lib.hid (F0.out.trans f1)
    clear f1
    go_wp2_with fail
    refine (C2.out _ HK1.out).mono ?_
    rintro e w2 ⟨rfl, f2⟩
    go_wp2
    go_ret
    exact ⟨ret_boolE HE.out.symm, F1.out.trans f2⟩
  · have HE : Hid (r = false) := Lib.hid (by rw [← HM.out, decide_eq_false h16]; rfl)
    clear HM
    go_enter Tryz.func25, Tryz.ntmps25
    go_wp2_with fail
    refine C1.out.mono ?_
    rintro e w1 ⟨rfl, f1⟩
    go_wp2
    go_ret
    exact ⟨ret_boolE HE.out.symm, F0.out.trans f1⟩

/-! ### Small -/
theorem lenP_is (h : Ph) (ks : List Pd) : lenP (.mk h ks) = (lenH h ks.length && ks.all lenP) := by rw [lenP, lenL_all]
theorem depL_is {ks : List Pd} {m : Nat} (h : ∀ x ∈ ks, depP x ≤ m) : depL ks ≤ m := by
  induction ks with
  | nil => rw [depL]; omega
  | cons x r ih => rw [depL]; have := h x (List.mem_cons_self ..); have := ih (fun y hy => h y (List.mem_cons_of_mem _ hy)); omega
/-- yes only if P -/
def SmEnd (P : Prop) (e : Ending) : Prop := ∃ b, e = .returned (.bool b) ∧ (b = true → P)
set_option maxHeartbeats 4000000 in
theorem rpsmall_any (p : Pd) : ∀ (t : Kv) (m : Nat) (mz : Int) (w : World), mz = m → m ≤ 1000 → Kd w t p.kids →
    Calls Tryz.prog 18 #[pdV p.hd t, .int .i64 mz] w fun e w' => SmEnd (lenP p = true ∧ depP p ≤ m) e ∧ Fr Non w w' := by
  induction p using Pd.ind with
  | h hd ks ih =>
    intro t m mz w hmz hm1 hk
    subst hmz
    have hn : t.n = ks.length := hk.len
    have F0 : Fr Non w (w.alloc (.cells (pdC hd t) 28)) := (Fr.refl Non w).alloc _
    have HB := Lib.hid (pd_new w _ hd t rfl)
    have HE : Hid (lenH hd ks.length = true → 1 ≤ m → (∀ j (h : j < ks.length), lenP ks[j] = true ∧ depP ks[j] ≤ m - 1) → lenP (.mk hd ks) = true ∧ depP (.mk hd ks) ≤ m) := Lib.hid (fun a b c => by
      refine ⟨?_, ?_⟩
      · rw [lenP_is, a, Bool.true_and, List.all_eq_true]
        intro x hx
        obtain ⟨j, hj, rfl⟩ := List.mem_iff_getElem.1 hx
        exact (c j hj).1
      · have : depL ks ≤ m - 1 := depL_is (fun x hx => by obtain ⟨j, hj, rfl⟩ := List.mem_iff_getElem.1 hx; exact (c j hj).2)
        rw [depP]; omega)
    have IH : Hid (1 ≤ m → ∀ k (h : k < ks.length) (W : World) (t' : Kv), Kd W t' ks[k].kids →
        Calls Tryz.prog 18 #[pdV ks[k].hd t', .int .i64 ((m : Int) - 1)] W fun e w' => SmEnd (lenP ks[k] = true ∧ depP ks[k] ≤ m - 1) e ∧ Fr Non W w') :=
      Lib.hid (fun h1 k h W t' a => ih _ (List.getElem_mem h) t' (m - 1) _ W (by omega) (by omega) a)
    have HK : Hid (Kd w t ks) := Lib.hid hk
    have HF := Lib.hid F0
    have HLH : Hid (∀ a b c d, a = hd.col.length → b = hd.pat.length → c = hd.val.txt.length → d = ks.length → d ≤ 20 → a ≤ 100 → b ≤ 100 → c ≤ 100 → lenH hd ks.length = true) := Lib.hid (fun a b c d e1 e2 e3 e4 h1 h2 h3 h4 => by unfold lenH; exact decide_eq_true ⟨by omega, by omega, by omega, by omega⟩)
    generalize lenH hd ks.length = lh at *
    generalize lenP (.mk hd ks) = r at *
    generalize depP (.mk hd ks) = dd at *
    clear ih hk F0
    obtain ⟨ho, hc, hm, ⟨vn, vi, vt⟩, hkd, hp⟩ := hd
    obtain ⟨A, n, c⟩ := t
    dsimp only at hn
    have HL := Lib.hid hn
    have s1 := slen hc
    have s2 := slen hp
    have s3 := slen vt
    dsimp only at HLH
    unfold pdV pdC kidV
    dsimp only [Pd.hd, Pd.kids]
    clear hn
    by_cases h1 : m < 1
    · clear HE IH HLH
      go_enter Tryz.func18, Tryz.ntmps18
      go_wp2
      go_ret
      exact ⟨⟨_, rfl, fun h => by cases h⟩, HF.out⟩
    · have IH := Lib.hid (IH.out (by omega))
      by_cases h2 : 20 < n
      · clear HE IH HLH
        go_enter Tryz.func18, Tryz.ntmps18
        go_wp2
        go_ret
        exact ⟨⟨_, rfl, fun h => by cases h⟩, HF.out⟩
      · by_cases h3 : 100 < hc.length
        · clear HE IH HLH
          go_enter Tryz.func18, Tryz.ntmps18
          go_wp2
          go_ret
          exact ⟨⟨_, rfl, fun h => by cases h⟩, HF.out⟩
        · by_cases h4 : 100 < hp.length
          · clear HE IH HLH
            go_enter Tryz.func18, Tryz.ntmps18
            go_wp2
            go_ret
            exact ⟨⟨_, rfl, fun h => by cases h⟩, HF.out⟩
          · by_cases h5 : 100 < vt.length
            · clear HE IH HLH
              go_enter Tryz.func18, Tryz.ntmps18
              go_wp2
              go_ret
              exact ⟨⟨_, rfl, fun h => by cases h⟩, HF.out⟩
            · have HE1 := Lib.hid (HE.out (HLH.out _ _ _ n rfl rfl rfl HL.out (by omega) (by omega) (by omega) (by omega)) (by omega))
              clear HE HLH
              go_enter Tryz.func18, Tryz.ntmps18
              go_wp2
              go_loopw [5] (fun i wr => ∃ k : Nat, k ≤ n ∧ i = .int .i64 k ∧ Hid (∀ j (h : j < ks.length), j < k → lenP ks[j] = true ∧ depP ks[j] ≤ m - 1) ∧ Hid (Fr Non (w.alloc (.cells (pdC ⟨ho, hc, hm, ⟨vn, vi, vt⟩, hkd, hp⟩ ⟨A, n, c⟩) 28)) wr)) (fun i _ => n - (intOf i).toNat)
              case atStart => exact ⟨0, Nat.zero_le _, rfl, Lib.hid (fun _ _ h => by omega), Lib.hid (Fr.refl _ _)⟩
              case round =>
                obtain ⟨k, hk, rfl, HT, FR⟩ := hrel
                have b8 := (HB.out.fr FR.out (fun e => e)).cell 8
                simp [pdC, kidV] at b8
                have HFw := Lib.hid (HF.out.trans FR.out)
                by_cases hlt : k < n
                · have hlt2 : k < ks.length := by have := HL.out; omega
                  obtain ⟨a, t, hA, hc2, hkk, _⟩ := HK.out.elN HFw.out k hlt2
                  have HC := Lib.hid (IH.out k hlt2 wr t (hkk.non HFw.out))
                  have HY : Hid (lenP ks[k] = true ∧ depP ks[k] ≤ m - 1 → ∀ j (h : j < ks.length), j < k + 1 → lenP ks[j] = true ∧ depP ks[j] ≤ m - 1) := Lib.hid (fun e j hj hjk => by
                    by_cases ee : j = k
                    · subst ee; exact e
                    · exact HT.out j hj (by omega))
                  dsimp only at hA
                  subst hA
                  obtain ⟨c0, c1, c2, c3, c4, c5, c6, c7, c8⟩ := hc2
                  clear hkk HT
                  generalize lenP ks[k] = y1 at *
                  generalize depP ks[k] = y2 at *
                  generalize ks[k].hd = x at *
                  obtain ⟨xo, xc, xm, ⟨xn, xi, xt⟩, xk, xp⟩ := x
                  obtain ⟨tA, tn, tc⟩ := t
                  unfold pdV pdC kidV at HC
                  dsimp only at HC c0 c1 c2 c3 c4 c5 c6 c7 c8
                  go_wp2_with fail
                  refine HC.out.mono ?_
                  rintro e w2 ⟨⟨b, rfl, hb⟩, f2⟩
                  have HB2 := Lib.hid hb
                  clear hb
                  cases b
                  · go_wp2
                    go_ret
                    exact ⟨⟨_, rfl, fun h => by cases h⟩, HFw.out.trans f2⟩
                  · have HT := Lib.hid (HY.out (HB2.out rfl))
                    clear HB2 HY
                    go_wp2
                    go_roundw
                    case rel => exact ⟨k + 1, by omega, by go_num, HT, Lib.hid (FR.out.trans f2)⟩
                    case measure => simp [intOf]; omega
                · have HE2 := Lib.hid (HE1.out (fun j hj => HT.out j hj (by have := HL.out; omega)))
                  clear HE1 HT
                  go_wp2
                  go_ret
                  exact ⟨⟨_, rfl, fun _ => HE2.out⟩, HFw.out⟩
end Go.Proofs.YtibopcceffncpaaGreatDoor


namespace Go.Proofs.YtibopcceffncpaaGreatDoor
set_option linter.unusedVariables false
set_option linter.unusedSimpArgs false
set_option maxRecDepth 100000
open Go.RowKit

theorem rag_any (a : Ag) (w : World) (hl : a.col.length ≤ 1000000000) :
    Calls Tryz.prog 26 #[agV a] w fun e w' => e = .returned (.bool (agB a)) ∧ Fr Non w w' := by
  have N := fun W => rname_any a.col W hl
  have HF : Hid (Fr Non w (w.alloc (.cells #[.int .i64 a.op, .string ⟨a.col.toArray⟩] 48))) := Lib.hid ((Fr.refl Non w).alloc _)
  have HE0 : Hid (agB a = if a.op = 1 then decide (a.col = []) else decide (2 ≤ a.op ∧ a.op ≤ 5) && nameB a.col) := Lib.hid rfl
  obtain ⟨o, c⟩ := a
  unfold agV
  dsimp only at *
  generalize agB _ = r at *
  by_cases h1 : o = 1
  · subst h1
    clear N
    by_cases h0 : c = []
    · subst h0
      have HE : Hid (r = true) := Lib.hid (by rw [HE0.out]; rfl)
      clear HE0
      go_enter Tryz.func26, Tryz.ntmps26
      go_wp2
      go_ret
      exact ⟨ret_boolE HE.out.symm, HF.out⟩
    · have hb : (c == []) = false := by rw [beq_eq_false_iff_ne]; exact h0
      have HE : Hid (r = false) := Lib.hid (by rw [HE0.out, if_pos rfl]; exact decide_eq_false h0)
      clear HE0 h0
      go_enter Tryz.func26, Tryz.ntmps26
      go_wp2
      go_ret
      exact ⟨ret_boolE HE.out.symm, HF.out⟩
  · have hb1 : (o == 1) = false := by rw [beq_eq_false_iff_ne]; exact h1
    by_cases h2 : o < 2
    · have HE : Hid (r = false) := Lib.hid (by rw [HE0.out, if_neg h1, decide_eq_false (by omega)]; rfl)
      clear HE0 N
      go_enter Tryz.func26, Tryz.ntmps26
      go_wp2
      go_ret
      exact ⟨ret_boolE HE.out.symm, HF.out⟩
    · by_cases h5 : 5 < o
      · have HE : Hid (r = false) := Lib.hid (by rw [HE0.out, if_neg h1, decide_eq_false (by omega)]; rfl)
        clear HE0 N
        go_enter Tryz.func26, Tryz.ntmps26
        go_wp2
        go_ret
        exact ⟨ret_boolE HE.out.symm, HF.out⟩
      · have HE : Hid (r = nameB c) := Lib.hid (by rw [HE0.out, if_neg h1, decide_eq_true (by omega)]; rfl)
        generalize nameB c = b at *
        clear HE0
        replace N := Lib.hid N
        go_enter Tryz.func26, Tryz.ntmps26
        go_wp2_with fail
        refine (N.out _).mono ?_
        rintro e w1 ⟨rfl, f1⟩
        go_wp2
        go_ret
        exact ⟨ret_boolE HE.out.symm, HF.out.trans f1⟩

theorem all_moreG {α : Type} {p : α → Bool} {l : List α} {k : Nat} (h : k < l.length) (h1 : (l.take k).all p = true) (h2 : p l[k] = true) : (l.take (k + 1)).all p = true := by
  rw [List.take_succ_eq_append_getElem h, List.all_append, h1]; simp [h2]
theorem all_badG {α : Type} {p : α → Bool} {l : List α} {k : Nat} (h : k < l.length) (h2 : p l[k] = false) : l.all p = false := by
  rw [List.all_eq_false]; exact ⟨_, List.getElem_mem h, by rw [h2]; simp⟩
theorem all_endG {α : Type} {p : α → Bool} {l : List α} {k : Nat} (h : l.length ≤ k) (h1 : (l.take k).all p = true) : l.all p = true := by rwa [List.take_of_length_le h] at h1
theorem not_in {l : List Tx} {k : Nat} (h : k < l.length) (hn : ∀ j (hj : j < l.length), j < k → l[j] ≠ l[k]) : ¬ l[k] ∈ l.take k := by
  intro hm
  obtain ⟨j, hj, e⟩ := List.mem_iff_getElem.1 hm
  rw [List.length_take] at hj
  rw [List.getElem_take] at e
  exact hn j (by omega) (by omega) e
theorem is_in {l : List Tx} {k j : Nat} (h : k < l.length) (hj : j < k) (e : l[j] = l[k]) : l[k] ∈ l.take k := by
  rw [← e]
  exact List.mem_iff_getElem.2 ⟨j, by rw [List.length_take]; omega, by rw [List.getElem_take]⟩
set_option maxHeartbeats 2000000 in
theorem rqmay_any (q : Qy) (c : Value) (s : Kv) (g : Value) (w : World) (hq : QyS w q c s g) (hs : SmQ q) :
    Calls Tryz.prog 8 #[qyV q c s g] w fun e w' => e = .returned (.bool (mayQ q)) ∧ Fr Non w w' := by
  have Q0 := Lib.hid (Qin.new hq)
  have N := Lib.hid (fun W => rname_any q.tab W (by have := hs.tab; omega))
  have NB := Lib.hid (fun W => rname_any q.by_ W (by have := hs.by_; omega))
  have NC := Lib.hid (fun k (h : k < q.cols.length) W => rname_any q.cols[k] W (by have := hs.names _ (List.getElem_mem h); omega))
  have GA := Lib.hid (fun k (h : k < q.aggs.length) W => rag_any q.aggs[k] W (by have := hs.acol _ (List.getElem_mem h); omega))
  have P := Lib.hid (fun W (h : QyS W q c s g) => rpmay_any q.whr.hd s q.whr.kids W h.kids (by rw [← Pd.eta]; exact hs.lens))
  rw [← Pd.eta] at P
  have HE0 : Hid (mayQ q = (nameB q.tab && (mayP q.whr && (decide (q.cols.length ≤ 6 ∧ q.aggs.length ≤ 4) && (unlB q.cols && (if q.aggs.length = 0 then decide (q.by_ = []) else q.aggs.all agB && (decide (q.cols.length = 0) && (decide (q.by_ = []) || nameB q.by_)))))))) := Lib.hid (may_doc q)
  generalize mayQ q = r at *
  generalize nameB q.tab = b1 at *
  generalize mayP q.whr = b2 at *
  generalize nameB q.by_ = bn at *
  have hlc := hs.cols
  have hlg := hs.aggs
  unfold pdV pdC at P
  obtain ⟨cA, cc, hce⟩ := hq.cols.shape
  obtain ⟨gA, gc, hge⟩ := hq.aggs.shape
  clear hq hs
  obtain ⟨tab, cols, ⟨⟨wo, wc, wm, ⟨wn, wi, wt⟩, wk, wp⟩, wks⟩, aggs, by_⟩ := q
  obtain ⟨sA, sn, sc⟩ := s
  dsimp only at hce hge
  subst hce
  subst hge
  unfold qyV qyC kidV at *
  dsimp only [Pd.hd, Pd.kids] at *
  go_enter Tryz.func8, Tryz.ntmps8
  go_wp2_with fail
  refine (N.out _).mono ?_
  rintro e w1 ⟨rfl, f1⟩
  have Q1 := Lib.hid (Q0.out.non f1)
  clear f1
  cases b1
  · have HE : Hid (r = false) := Lib.hid (by rw [HE0.out]; rfl)
    clear HE0
    go_wp2
    go_ret
    exact ⟨ret_boolE HE.out.symm, Q1.out.fr⟩
  · obtain ⟨g0, g1, g2, g3, g4, g5, g6, g7, g8, g9, g10, g11, g12⟩ := Q1.out.cells
    dsimp only [Pd.hd, Pd.kids] at g0 g1 g2 g3 g4 g5 g6 g7 g8 g9 g10 g11 g12
    go_wp2_with fail
    refine (P.out _ Q1.out.sls).mono ?_
    rintro e w2 ⟨rfl, f2⟩
    have Q2 := Lib.hid (Q1.out.non f2)
    clear f2
    clear g0 g1 g2 g3 g4 g5 g6 g7 g8 g9 g10 g11 g12
    obtain ⟨g0, g1, g2, g3, g4, g5, g6, g7, g8, g9, g10, g11, g12⟩ := Q2.out.cells
    dsimp only [Pd.hd, Pd.kids] at g0 g1 g2 g3 g4 g5 g6 g7 g8 g9 g10 g11 g12
    cases b2
    · have HE : Hid (r = false) := Lib.hid (by rw [HE0.out]; rfl)
      clear HE0
      go_wp2
      go_ret
      exact ⟨ret_boolE HE.out.symm, Q2.out.fr⟩
    · by_cases h6 : 6 < cols.length
      · have HE : Hid (r = false) := Lib.hid (by rw [HE0.out, decide_eq_false (by omega)]; rfl)
        clear HE0
        go_wp2
        go_ret
        exact ⟨ret_boolE HE.out.symm, Q2.out.fr⟩
      · by_cases h4 : 4 < aggs.length
        · have HE : Hid (r = false) := Lib.hid (by rw [HE0.out, decide_eq_false (by omega)]; rfl)
          clear HE0
          go_wp2
          go_ret
          exact ⟨ret_boolE HE.out.symm, Q2.out.fr⟩
        · have HU : Hid (unlB cols = false → r = false) := Lib.hid (fun e => by rw [HE0.out, e]; simp)
          have HE1 : Hid (unlB cols = true → r = (if aggs.length = 0 then decide (by_ = []) else aggs.all agB && (decide (cols.length = 0) && (decide (by_ = []) || bn)))) := Lib.hid (fun e => by rw [HE0.out, e, decide_eq_true (by omega)]; rfl)
          clear HE0 N P
          go_wp2
          clear g0 g1 g2 g3 g4 g5 g6 g7 g8 g9 g10 g11 g12
          go_loopw [3] (fun i wr => ∃ k : Nat, k ≤ cols.length ∧ i = .int .i64 k ∧ Hid (unlK cols k) ∧ Hid (Qin w w.heap.size ⟨tab, cols, ⟨⟨wo, wc, wm, ⟨wn, wi, wt⟩, wk, wp⟩, wks⟩, aggs, by_⟩ (.slice cA cols.length cc) ⟨sA, sn, sc⟩ (.slice gA aggs.length gc) wr)) (fun i _ => cols.length - (intOf i).toNat)
          case atStart => exact ⟨0, Nat.zero_le _, rfl, Lib.hid (unlK_zero _), Q2⟩
          case round =>
            clear Q0 Q1 Q2
            obtain ⟨k, hk, rfl, HT, QR⟩ := hrel
            obtain ⟨g0, g1, g2, g3, g4, g5, g6, g7, g8, g9, g10, g11, g12⟩ := QR.out.cells
            dsimp only [Pd.hd, Pd.kids] at g0 g1 g2 g3 g4 g5 g6 g7 g8 g9 g10 g11 g12
            by_cases hlt : k < cols.length
            · obtain ⟨a, rfl, _, hcc, hel⟩ := QR.out.sls.cols.addr (show 0 < cols.length by omega)
              have c0 := hel k hlt
              unfold sv at c0
              have HX := Lib.hid (fun e => HU.out (unl_bad hlt e))
              have HX2 : Hid (∀ j (hj : j < cols.length), j < k → cols[j] = cols[k] → r = false) := Lib.hid (fun j _ hj e => HU.out (unl_dup hlt (is_in hlt hj e)))
              have HY := Lib.hid (fun e e2 => unlK_more hlt HT.out e (not_in hlt e2))
              have NK := Lib.hid (NC.out k hlt)
              clear HT hel
              generalize hy : cols[k] = y at *
              have HYE := Lib.hid hy
              clear hy
              cases hn : nameB y
              · have HE := Lib.hid (HX.out hn)
                rw [hn] at NK
                clear HX HX2 HY hn
                go_wp2_with fail
                refine (NK.out _).mono ?_
                rintro e w3 ⟨rfl, f3⟩
                go_wp2
                go_ret
                exact ⟨ret_boolE HE.out.symm, QR.out.fr.trans f3⟩
              · have HY1 := Lib.hid (HY.out hn)
                rw [hn] at NK
                clear HX HY hn
                go_wp2_with fail
                refine (NK.out _).mono ?_
                rintro e w3 ⟨rfl, f3⟩
                have Q3 := Lib.hid (QR.out.non f3)
                clear f3 QR g0 g1 g2 g3 g4 g5 g6 g7 g8 g9 g10 g11 g12 c0
                obtain ⟨g0, g1, g2, g3, g4, g5, g6, g7, g8, g9, g10, g11, g12⟩ := Q3.out.cells
                dsimp only [Pd.hd, Pd.kids] at g0 g1 g2 g3 g4 g5 g6 g7 g8 g9 g10 g11 g12
                clear g0 g2 g3 g4 g5 g6 g7 g8 g9 g10 g11 g12
                obtain ⟨a2, ha2, _, _, hel2⟩ := Q3.out.sls.cols.addr (show 0 < cols.length by omega)
                obtain rfl := Option.some.inj ha2
                have HEL := Lib.hid hel2
                have c1 := hel2 k hlt
                unfold sv at c1
                try dsimp only at c1
                rw [HYE.out] at c1
                clear hel2 ha2
                go_wp2
                go_loopw [4] (fun i wx => ∃ m : Nat, m ≤ k ∧ i = .int .i64 m ∧ Hid (∀ j (hj : j < cols.length), j < m → cols[j] ≠ y) ∧ ∃ n, wx = w3.drewN n) (fun i _ => k - (intOf i).toNat)
                case atStart => exact ⟨0, Nat.zero_le _, rfl, Lib.hid (fun _ _ h => by omega), 0, rfl⟩
                case round =>
                  obtain ⟨m, hm, rfl, hne, n, rfl⟩ := hrel
                  by_cases hmk : m < k
                  · have hml : m < cols.length := by omega
                    have c2 := HEL.out m hml
                    unfold sv at c2
                    try dsimp only at c2
                    have HZ := Lib.hid (HX2.out m hml hmk)
                    have HW : Hid (cols[m] ≠ y → ∀ j (hj : j < cols.length), j < m + 1 → cols[j] ≠ y) := Lib.hid (fun e j hj hjm => by
                      by_cases ee : j = m
                      · subst ee; exact e
                      · exact hne.out j hj (by omega))
                    clear hne
                    generalize cols[m] = z at *
                    by_cases he : z = y
                    · have HE := Lib.hid (HZ.out he)
                      have hbe : (z == y) = true := by rw [beq_iff_eq]; exact he
                      clear HZ HW he
                      go_wp2
                      go_quiet (fail)
                      go_wp2
                      go_ret
                      exact ⟨ret_boolE HE.out.symm, (Q3.out.fr.drewN n).drewN _⟩
                    · have HE := Lib.hid (HW.out he)
                      have hbe : (z == y) = false := by rw [beq_eq_false_iff_ne]; exact he
                      clear HZ HW he
                      go_wp2
                      go_quiet (fail)
                      go_wp2
                      go_roundw
                      case rel => exact ⟨m + 1, by omega, by go_num, HE, _, rfl⟩
                      case measure => simp [intOf]; omega
                  · have HE := Lib.hid (HY1.out (fun j hj hjk => hne.out j hj (by omega)))
                    clear HX2 HY1 hne
                    go_wp2
                    go_roundw
                    case rel => exact ⟨k + 1, by omega, by go_num, HE, Lib.hid (Q3.out.non ((Fr.refl Non w3).drewN n))⟩
                    case measure => simp [intOf]; omega
            · have HE2 := Lib.hid (HE1.out (unlK_all (by omega) HT.out))
              clear HT HU HE1 NC
              by_cases ha : aggs.length = 0
              · have hab : ((aggs.length : Int) == 0) = true := by rw [beq_iff_eq]; omega
                by_cases hb : by_ = []
                · have HE : Hid (r = true) := Lib.hid (by rw [HE2.out, if_pos ha]; exact decide_eq_true hb)
                  clear HE2 ha
                  subst hb
                  go_wp2
                  go_ret
                  exact ⟨ret_boolE HE.out.symm, QR.out.fr⟩
                · have hbb : (by_ == []) = false := by rw [beq_eq_false_iff_ne]; exact hb
                  have HE : Hid (r = false) := Lib.hid (by rw [HE2.out, if_pos ha]; exact decide_eq_false hb)
                  clear HE2 ha hb
                  go_wp2
                  go_ret
                  exact ⟨ret_boolE HE.out.symm, QR.out.fr⟩
              · have hab : ((aggs.length : Int) == 0) = false := by rw [beq_eq_false_iff_ne]; omega
                have HAB : Hid (aggs.all agB = false → r = false) := Lib.hid (fun e => by rw [HE2.out, if_neg ha, e]; rfl)
                have HAY : Hid (aggs.all agB = true → r = (decide (cols.length = 0) && (decide (by_ = []) || bn))) := Lib.hid (fun e => by rw [HE2.out, if_neg ha, e]; rfl)
                clear HE2 ha
                go_wp2
                clear g0 g1 g2 g3 g4 g5 g6 g7 g8 g9 g10 g11 g12
                rename World => W5
                go_loopw [5] (fun i wr => ∃ k : Nat, k ≤ aggs.length ∧ i = .int .i64 k ∧ Hid ((aggs.take k).all agB = true) ∧ Hid (Qin w w.heap.size ⟨tab, cols, ⟨⟨wo, wc, wm, ⟨wn, wi, wt⟩, wk, wp⟩, wks⟩, aggs, by_⟩ (.slice cA cols.length cc) ⟨sA, sn, sc⟩ (.slice gA aggs.length gc) wr)) (fun i _ => aggs.length - (intOf i).toNat)
                case atStart => exact ⟨0, Nat.zero_le _, rfl, Lib.hid rfl, QR⟩
                case round =>
                  clear QR hlt hk hab
                  obtain ⟨k, hk, rfl, HT, QR⟩ := hrel
                  obtain ⟨g0, g1, g2, g3, g4, g5, g6, g7, g8, g9, g10, g11, g12⟩ := QR.out.cells
                  dsimp only [Pd.hd, Pd.kids] at g0 g1 g2 g3 g4 g5 g6 g7 g8 g9 g10 g11 g12
                  by_cases hlt : k < aggs.length
                  · obtain ⟨a, rfl, _, d0, d1⟩ := Ns.gat QR.out.sls.aggs k hlt
                    have HX := Lib.hid (fun e => HAB.out (all_badG hlt e))
                    have HY := Lib.hid (fun e => all_moreG hlt HT.out e)
                    have M := GA.out k hlt
                    dsimp only at d0 d1 M
                    clear HT
                    generalize aggs[k] = x at *
                    obtain ⟨xo, xn⟩ := x
                    unfold agV at M
                    dsimp only at d0 d1 HX HY M
                    generalize agB ⟨xo, xn⟩ = bx at *
                    replace M := Lib.hid M
                    cases bx
                    · have HE := Lib.hid (HX.out rfl)
                      clear HX HY
                      go_wp2_with fail
                      refine (M.out _).mono ?_
                      rintro e w3 ⟨rfl, f3⟩
                      go_wp2
                      go_ret
                      exact ⟨ret_boolE HE.out.symm, QR.out.fr.trans f3⟩
                    · have HE := Lib.hid (HY.out rfl)
                      clear HX HY
                      go_wp2_with fail
                      refine (M.out _).mono ?_
                      rintro e w3 ⟨rfl, f3⟩
                      go_wp2
                      go_roundw
                      case rel => exact ⟨k + 1, by omega, by go_num, HE, Lib.hid (QR.out.non f3)⟩
                      case measure => simp [intOf]; omega
                  · have HE2 := Lib.hid (HAY.out (all_endG (by omega) HT.out))
                    clear HT HAB HAY GA
                    by_cases hc : cols.length = 0
                    · have hcb : ((cols.length : Int) == 0) = true := by rw [beq_iff_eq]; omega
                      by_cases hb : by_ = []
                      · have HE : Hid (r = true) := Lib.hid (by rw [HE2.out, decide_eq_true hc, decide_eq_true hb]; rfl)
                        clear HE2 hc NB
                        subst hb
                        go_wp2
                        go_ret
                        exact ⟨ret_boolE HE.out.symm, QR.out.fr⟩
                      · have hbb : (by_ == []) = false := by rw [beq_eq_false_iff_ne]; exact hb
                        have HE : Hid (r = bn) := Lib.hid (by rw [HE2.out, decide_eq_true hc, decide_eq_false hb]; rfl)
                        clear HE2 hc hb
                        go_wp2_with fail
                        refine (NB.out _).mono ?_
                        rintro e w3 ⟨rfl, f3⟩
                        go_wp2
                        go_ret
                        exact ⟨ret_boolE HE.out.symm, QR.out.fr.trans f3⟩
                    · have hcb : ((cols.length : Int) == 0) = false := by rw [beq_eq_false_iff_ne]; omega
                      have HE : Hid (r = false) := Lib.hid (by rw [HE2.out, decide_eq_false hc]; rfl)
                      clear HE2 hc NB
                      go_wp2
                      go_ret
                      exact ⟨ret_boolE HE.out.symm, QR.out.fr⟩
end Go.Proofs.YtibopcceffncpaaGreatDoor


namespace Go.Proofs.YtibopcceffncpaaGreatDoor
set_option linter.unusedVariables false
set_option linter.unusedSimpArgs false
set_option maxRecDepth 100000
open Go.RowKit

set_option maxHeartbeats 1000000 in
theorem rtold_any (a : Ag) (w : World) (ha : agB a = true) (hl : a.col.length ≤ 100) :
    Calls Tryz.prog 36 #[agV a] w fun e w' => e = .returned (.string ⟨(toldA a).toArray⟩) ∧ Fr Non w w' := by
  have F0 : Fr Non w (w.alloc (.cells #[.int .i64 a.op, .string ⟨a.col.toArray⟩] 48)) := (Fr.refl Non w).alloc _
  have HF := Lib.hid F0
  have HA := ag_is ha
  have HE0 : Hid (toldA a = if a.op = 1 then [99, 111, 117, 110, 116, 40, 42, 41] else wordA a.op ++ [40] ++ a.col ++ [41]) := Lib.hid rfl
  clear ha F0
  obtain ⟨o, c⟩ := a
  unfold agV
  dsimp only at *
  generalize toldA _ = r at *
  rcases HA with ⟨h1, h2⟩ | ⟨h1, h2, h3, -⟩
  · subst h1
    subst h2
    have HE := Lib.hid (HE0.out.trans (if_pos rfl))
    clear HE0
    go_enter Tryz.func36, Tryz.ntmps36
    go_wp2
    go_ret
    exact ⟨strE (by rw [HE.out] <;> simp), HF.out⟩
  · have HE := Lib.hid (HE0.out.trans (if_neg h1))
    clear HE0
    have hop : o = 2 ∨ o = 3 ∨ o = 4 ∨ o = 5 := by omega
    clear h1 h2 h3
    rcases hop with rfl | rfl | rfl | rfl
    · have HE2 : Hid (r = [104, 97, 115] ++ [40] ++ c ++ [41]) := HE
      have s1 := fun W => sadd [104, 97, 115] [40] (by simp) W
      have s2 := fun W => sadd ([104, 97, 115] ++ [40]) c (by simp; omega) W
      have s3 := fun W => sadd ([104, 97, 115] ++ [40] ++ c) [41] (by simp; omega) W
      simp only [List.cons_append, List.nil_append] at s1 s2 s3
      clear HE
      go_enter Tryz.func36, Tryz.ntmps36
      go_wp2
      go_region
      go_wp2
      go_ret
      exact ⟨strE (by rw [HE2.out] <;> simp), (HF.out.alloc _).drew⟩
    · have HE2 : Hid (r = [115, 117, 109] ++ [40] ++ c ++ [41]) := HE
      have s1 := fun W => sadd [115, 117, 109] [40] (by simp) W
      have s2 := fun W => sadd ([115, 117, 109] ++ [40]) c (by simp; omega) W
      have s3 := fun W => sadd ([115, 117, 109] ++ [40] ++ c) [41] (by simp; omega) W
      simp only [List.cons_append, List.nil_append] at s1 s2 s3
      clear HE
      go_enter Tryz.func36, Tryz.ntmps36
      go_wp2
      go_region
      go_wp2
      go_ret
      exact ⟨strE (by rw [HE2.out] <;> simp), (HF.out.alloc _).drew⟩
    · have HE2 : Hid (r = [109, 105, 110] ++ [40] ++ c ++ [41]) := HE
      have s1 := fun W => sadd [109, 105, 110] [40] (by simp) W
      have s2 := fun W => sadd ([109, 105, 110] ++ [40]) c (by simp; omega) W
      have s3 := fun W => sadd ([109, 105, 110] ++ [40] ++ c) [41] (by simp; omega) W
      simp only [List.cons_append, List.nil_append] at s1 s2 s3
      clear HE
      go_enter Tryz.func36, Tryz.ntmps36
      go_wp2
      go_region
      go_wp2
      go_ret
      exact ⟨strE (by rw [HE2.out] <;> simp), (HF.out.alloc _).drew⟩
    · have HE2 : Hid (r = [109, 97, 120] ++ [40] ++ c ++ [41]) := HE
      have s1 := fun W => sadd [109, 97, 120] [40] (by simp) W
      have s2 := fun W => sadd ([109, 97, 120] ++ [40]) c (by simp; omega) W
      have s3 := fun W => sadd ([109, 97, 120] ++ [40] ++ c) [41] (by simp; omega) W
      simp only [List.cons_append, List.nil_append] at s1 s2 s3
      clear HE
      go_enter Tryz.func36, Tryz.ntmps36
      go_wp2
      go_region
      go_wp2
      go_ret
      exact ⟨strE (by rw [HE2.out] <;> simp), (HF.out.alloc _).drew⟩

theorem Ow.at {w : World} {B : Nat} {A : Option Addr} {n c : Nat} {l : List Tx} (h : Ow sv 9 w B (.slice A n c) l) (k : Nat) (hk : k < l.length) : ∃ a, A = some a ∧ w.cell? (a.add k) = some (.string ⟨l[k].toArray⟩) := by
  obtain ⟨A', c', he⟩ := h.shape
  simp only [Value.slice.injEq] at he
  obtain ⟨rfl, rfl, rfl⟩ := he
  obtain ⟨a, ha, _, _, hel⟩ := h.vs.addr (show 0 < l.length by omega)
  exact ⟨a, ha, hel k hk⟩
end Go.Proofs.YtibopcceffncpaaGreatDoor


namespace Go.Proofs.YtibopcceffncpaaGreatDoor
set_option linter.unusedVariables false
set_option linter.unusedSimpArgs false
set_option maxRecDepth 100000
open Go.RowKit Go.Maps Go.Sort Go.Shelf

theorem sortsI_in (m : Nat) : AnyZI.SortsIn Tryz.prog lay_sdi_ren Fence.wide m :=
  ⟨fun blk off cap ss W hH hblk hsz => callsIn_wide.2 (AnyM.slices_Sort_int lay_sti blk off cap ss W hH hblk hsz),
   fun p cap W => callsIn_wide.2 (AnyM.slices_Sort_int_none lay_sti p cap W)⟩
theorem mkeysI_any (mb : Option Nat) (W : World) : CallsIn Fence.wide 5 Tryz.prog 41 #[.map mb] W fun e w' => e = .returned (.func (.func 70) #[] #[.pointer (some ⟨W.heap.size, 0, none⟩)]) ∧ w' = W.alloc (.cells #[.map mb] 62) :=
  AnyZI.keys_in lay_kyi Fence.wide 5 trivial rfl mb W
set_option maxHeartbeats 1000000 in
theorem msortedI_any {H : Type} (b nn : Nat) (D0 : DataW H) (R : Value → Option (DataW H × List MemPlace)) (w : World) (hown : w.ownsMap Tryz.prog 3 R b nn D0) (hmax : Maps.size D0 ≤ maxLen) (hbytes : Maps.size D0 * 8 ≤ 140737488355328) :
    CallsIn Fence.wide 5 Tryz.prog 40 #[.func (.func 70) #[] #[.pointer (some ⟨w.heap.size, 0, none⟩)]] (w.alloc (.cells #[.map (some b)] 62)) fun e w' => ∃ (v : Value) (ss : List Int), e = .returned v ∧ ss.Perm (intKeys D0) ∧
      w'.ownsRow (w.alloc (.cells #[.map (some b)] 62)).heap.size 3 1 v ss.length ((ss.mergeSort (fun x y => decide (x ≤ y))).map encZ) ∧ (v = .slice none 0 0 ↔ ss = []) ∧ Below (w.alloc (.cells #[.map (some b)] 62)).heap.size (w.alloc (.cells #[.map (some b)] 62)) w' := by
  have hbl := hown.lt
  have hseq : SeqGives Fence.wide 2 Tryz.prog 70 #[.pointer (some ⟨w.heap.size, 0, none⟩)] encZ (fun ss => ss.Perm (intKeys D0)) (Maps.size D0) (w.alloc (.cells #[.map (some b)] 62)) :=
    AnyZI.keys_gives (ρ := lay_kyi_ren) { lay_kyi with } Fence.wide _ trivial rfl (by omega) w.heap.size b nn D0 _ (by simp) (by simp) (by
      obtain ⟨es, clock, hb, Ft, hs, hD⟩ := hown
      exact ⟨es, clock, (Below.heap_alloc _ _ b hbl).trans hb, Ft, hs, hD⟩)
  exact AnyZI.sorted_in lay_sdi Fence.wide 5 trivial trivial trivial trivial rfl (by omega) (sortsI_in _) (enters_of Tryz.func69 (by kernel_rfl) rfl) 70 #[.pointer (some ⟨w.heap.size, 0, none⟩)] trivial (enters_of Tryz.func70 (by kernel_rfl) rfl) _ _ hmax hbytes _ hseq
end Go.Proofs.YtibopcceffncpaaGreatDoor


namespace Go.Proofs.YtibopcceffncpaaGreatDoor
set_option linter.unusedVariables false
set_option linter.unusedSimpArgs false
set_option maxRecDepth 100000
open Go.RowKit Go.Maps Go.Sort

/-- block b is a map of at most n numbers: those of ks -/
def MapI (w : World) (b n : Nat) (ks : List Int) : Prop :=
  ∃ D : DataW Unit, w.ownsMap Tryz.prog 3 (plainElem Tryz.prog 3) b n D ∧ ∀ x, has D (.int .i64 x) = decide (x ∈ ks)
theorem MapI.lt {w : World} {b n : Nat} {ks : List Int} (h : MapI w b n ks) : b < w.heap.size := by
  obtain ⟨D, h1, _⟩ := h; exact h1.lt
theorem MapI.fr {S : Nat → Prop} {w w' : World} {b n : Nat} {ks : List Int} (h : MapI w b n ks) (hf : Fr S w w') (hn : ¬ S b) : MapI w' b n ks := by
  obtain ⟨D, h1, h2⟩ := h
  have hlt := h1.lt
  obtain ⟨es, clock, hb, F, hs, hD⟩ := h1
  exact ⟨D, ⟨es, clock, (hf.block b hlt hn).trans hb, F, hs, hD⟩, h2⟩
theorem MapI.made (w : World) : MapI (w.alloc (.map #[] 0)) w.heap.size 0 [] :=
  ⟨.map [], World.ownsMap_made w _ _ _, fun x => by simp [has]⟩
theorem keyLitI (x : Int) : WideAt.IsKeyLit (.int .i64 x) := trivial
theorem keyIntI {x : Int} (h1 : -9223372036854775808 ≤ x) (h2 : x ≤ 9223372036854775807) : keyOf Tryz.prog 3 (.int .i64 x) = some (.int .i64 x) := keyOf_int_mk Tryz.underlying3 (WalkArith.wf_i64 ⟨h1, h2⟩)
/-- 'm[y]', whichever -/
theorem MapI.look {w : World} {b n : Nat} {ks : List Int} (h : MapI w b n ks) {y : Int} (h1 : -9223372036854775808 ≤ y) (h2 : y ≤ 9223372036854775807) :
    ∃ c : Int, -9223372036854775808 ≤ c ∧ c ≤ 9223372036854775807 ∧ (Instr.lookup 62 (.map (some b)) (.int .i64 y) false).run Tryz.prog w = .ok (.int .i64 c) w := by
  obtain ⟨D, g1, _⟩ := h
  obtain ⟨c, hr, _, hw⟩ := g1.lookup_int (int_keyed Tryz.underlying3) Tryz.underlying62 Tryz.underlying3 (Tryz.zeroValue3 w) (keyIntI h1 h2)
  have : -9223372036854775808 ≤ c ∧ c ≤ 9223372036854775807 := by
    simp only [Lit.wf, Bool.and_eq_true, decide_eq_true_eq] at hw
    rw [show IntKind.i64.min = -9223372036854775808 from by decide, show IntKind.i64.max = 9223372036854775807 from by decide] at hw
    exact hw
  exact ⟨c, this.1, this.2, hr⟩
/-- 'm[y] = v' -/
theorem wpList_putI (w : World) {ops : Array Oper} {rest : List Oper} {o : Oper} {a : Act} {Q : Exit → Act → World → Prop} (hg : o.guard = none) (m x v : Operand) (hop : o.op = Op.mapUpdate 62 m x v)
    (b n : Nat) (ks : List Int) (hm : a.eval m = .map (some b)) (hown : MapI w b n ks) (hn : n < 1000000000) (y : Int) (z : Int) (hx : a.eval x = .int .i64 y) (hv : a.eval v = .int .i64 z)
    (hy1 : -9223372036854775808 ≤ y) (hy2 : y ≤ 9223372036854775807) (hz : (Lit.int .i64 z).wf = true)
    (hK : ∀ w', MapI w' b (n + 1) (y :: ks) → Fr (One b) w w' → wpList Tryz.prog ops Q rest (a.put o.dst undef) w') : wpList Tryz.prog ops Q (o :: rest) a w := by
  obtain ⟨D, h1, h2⟩ := hown
  refine wpList_mapUpdate_own w hg m x v 62 hop 3 3 (int_keyed Tryz.underlying3) Tryz.underlying62 _ b n D hm h1 (by unfold maxLen; omega) _ _ (.int .i64 y) hx hv (keyIntI hy1 hy2) (.lit (.int .i64 z)) [] (plainElem_int Tryz.underlying3 hz) ?_
  intro w' hw' hg'
  refine hK w' ⟨_, hw', fun u => ?_⟩ ((Fr.of_grown hg').mono fun k _ e => by simpa [One, eq_comm] using e)
  by_cases he : u = y
  · subst he; rw [has_put_same h1.isMap (keyLitI u)]; simp
  · rw [has_put_other (by simpa using he), h2]; simp [he]
/-- the keys, in whatever order -/
theorem MapI.keys {w : World} {b n : Nat} {ks : List Int} {D : DataW Unit} (h1 : w.ownsMap Tryz.prog 3 (plainElem Tryz.prog 3) b n D) (h2 : ∀ x, has D (.int .i64 x) = decide (x ∈ ks)) {ss : List Int} (hp : ss.Perm (intKeys D)) : ss.Nodup ∧ ∀ x, x ∈ ss ↔ x ∈ ks := by
  have ht := h1.tidy (int_keyed Tryz.underlying3)
  obtain ⟨es, rfl, hpw⟩ := ht
  obtain ⟨es', he, hk⟩ := h1.keysOf
  obtain rfl : es = es' := by simpa using he
  have hks : ∀ p ∈ es, ∃ x, p.1 = .int .i64 x := by
    intro p hp'
    obtain ⟨key, hkey⟩ := hk p hp'
    obtain ⟨x, _, hx, _⟩ := Maps.keyOf_i64 Tryz.underlying3 hkey
    exact ⟨x, hx⟩
  have hnd : (intKeys (.map es : DataW Unit)).Nodup := by
    show (es.map fun p => Go.intOf p.1).Nodup
    refine List.pairwise_map.2 (hpw.imp_of_mem fun {p q} hp' hq' hne e => hne ?_)
    obtain ⟨a, ha⟩ := hks p hp'
    obtain ⟨b, hb⟩ := hks q hq'
    rw [ha, hb] at e ⊢
    exact congrArg _ e
  refine ⟨hp.nodup_iff.2 hnd, fun x => ?_⟩
  rw [hp.mem_iff]
  have h3 := h2 x
  rw [has_eq] at h3
  have h4 : es.any (fun p => p.1.sameKey (.int .i64 x)) = true ↔ x ∈ ks := by rw [h3]; simp
  rw [← h4, List.any_eq_true]
  show x ∈ es.map (fun p => Go.intOf p.1) ↔ _
  rw [List.mem_map]
  constructor
  · rintro ⟨p, hp', rfl⟩
    obtain ⟨y, hy⟩ := hks p hp'
    exact ⟨p, hp', by rw [hy]; exact WideAt.sameKey_self (keyLitI y)⟩
  · rintro ⟨p, hp', h5⟩
    exact ⟨p, hp', by rw [WideAt.sameKey_eq h5]; rfl⟩
end Go.Proofs.YtibopcceffncpaaGreatDoor


namespace Go.Proofs.YtibopcceffncpaaGreatDoor
set_option linter.unusedVariables false
set_option linter.unusedSimpArgs false
set_option maxRecDepth 100000
open Go.RowKit

/-- the places of the names up to k, the last one first -/
def plR (cs : List Co) (l : List Tx) (k : Nat) : List Int := ((l.take k).map (plcC cs)).reverse
theorem plR_more {cs : List Co} {l : List Tx} {k : Nat} (h : k < l.length) : plR cs l (k + 1) = plcC cs l[k] :: plR cs l k := by
  unfold plR
  rw [List.take_succ_eq_append_getElem h, List.map_append, List.reverse_append]; rfl
theorem sort_is {ss l ks : List Int} (hnd : ss.Nodup) (hm : ∀ x, x ∈ ss ↔ x ∈ ks) (hl : l.Pairwise (· < ·)) (hlm : ∀ x, x ∈ l ↔ x ∈ ks) : ss.mergeSort (fun x y => decide (x ≤ y)) = l := by
  have tr : ∀ a b c : Int, decide (a ≤ b) = true → decide (b ≤ c) = true → decide (a ≤ c) = true := fun a b c h1 h2 => by simp only [decide_eq_true_eq] at *; omega
  have to : ∀ a b : Int, (decide (a ≤ b) || decide (b ≤ a)) = true := fun a b => by simp only [Bool.or_eq_true, decide_eq_true_eq]; omega
  have hp := List.mergeSort_perm ss (fun x y => decide (x ≤ y))
  have h1 := List.pairwise_mergeSort tr to ss
  have h2 : (ss.mergeSort (fun x y => decide (x ≤ y))).Nodup := hp.nodup_iff.2 hnd
  refine sorted_same ?_ hl (fun x => by rw [hp.mem_iff, hm, hlm])
  refine (h1.and h2).imp ?_
  intro a b h
  have := of_decide_eq_true h.1
  have := h.2
  omega
theorem needs_is {cs : List Co} {q : Qy} (h : fitQ cs q = 0) {ss : List Int} (hnd : ss.Nodup) (hm : ∀ x, x ∈ ss ↔ x ∈ plR cs (namedQ cs q ++ colP [] q.whr) (namedQ cs q ++ colP [] q.whr).length) : ss.mergeSort (fun x y => decide (x ≤ y)) = needsQ cs q := by
  unfold needsQ
  rw [if_pos h]
  refine sort_is hnd hm (need_sorted _ _ _) (fun x => ?_)
  rw [need_mem (chk_is (fit_may h).2).2.2.1 (fit_all h)]
  unfold plR needN
  rw [List.take_length, List.mem_reverse]
set_option maxHeartbeats 1500000 in
theorem qneeds_any (v : Value) (cs : List Co) (q : Qy) (c : Value) (s : Kv) (g : Value) (w : World) (hv : Ks w v cs) (hcl : cs.length ≤ 1000) (hcb : ∀ c ∈ cs, c.name.length ≤ 1000) (hq : QyS w q c s g) (hs : SmQ q) :
    Calls Tryz.prog 16 #[v, qyV q c s g] w fun e w' => ∃ u, e = .returned u ∧ Vs iv w' u (needsQ cs q) ∧ Fr Non w w' := by
  have Q0 := Lib.hid (Qin.new hq)
  have HS := Lib.hid hq
  have M1 := Lib.hid (fun W (hf : Fr Non w W) (h : QyS W q c s g) => qfits_any v cs q c s g W (hv.non hf) hcl hcb h hs)
  have N1 := Lib.hid (fun W (hf : Fr Non w W) (h : QyS W q c s g) => named_any v cs q c s g W (hv.non hf) hcl h hs)
  have F := Lib.hid (fun (n : Tx) W (hf : Fr Non w W) => sfind_any v cs n W (hv.non hf) (by omega))
  have P1 : Hid (fitQ cs q = 0 → ∀ W, QyS W q c s g → Calls Tryz.prog 38 #[pdV q.whr.hd s] W fun e w' => ∃ v, e = .returned v ∧ Vs sv w' v (colP [] q.whr) ∧ Fr Non W w') := Lib.hid (fun e W h => by
    have h9 := pcols_any q.whr.hd s q.whr.kids W h.kids h.num (by rw [← Pd.eta]; exact hs.lens) (by rw [← Pd.eta]; exact hs.deep) (by rw [← Pd.eta]; exact (may_parts (fit_may e).1).2)
    rwa [← Pd.eta] at h9)
  have HE0 : Hid (¬ fitQ cs q = 0 → needsQ cs q = []) := Lib.hid (fun e => if_neg e)
  have HE1 : Hid (fitQ cs q = 0 → ∀ ss : List Int, ss.Nodup → (∀ x, x ∈ ss ↔ x ∈ plR cs (namedQ cs q ++ colP [] q.whr) (namedQ cs q ++ colP [] q.whr).length) → ss.mergeSort (fun x y => decide (x ≤ y)) = needsQ cs q) := Lib.hid (fun e ss a b => needs_is e a b)
  have HNL0 : Hid (fitQ cs q = 0 → (namedQ cs q).length + (colP [] q.whr).length ≤ 2000) := Lib.hid (fun e => by
    have h1 := named_len cs hs hcl
    have h2 := colP_len q.whr []
    have h3 := (may_parts (fit_may e).1).2
    unfold mayP at h3
    rw [Bool.and_eq_true, decide_eq_true_eq] at h3
    simp only [List.length_nil] at h2
    omega)
  have hmm := @run_makeMap Tryz.prog
  generalize needsQ cs q = r at *
  generalize fitQ cs q = z at *
  generalize namedQ cs q = ns at *
  generalize colP [] q.whr = ps at *
  unfold pdV pdC at P1
  clear hs
  obtain ⟨cA, cc, hce⟩ := hq.cols.shape
  obtain ⟨gA, gc, hge⟩ := hq.aggs.shape
  clear hq
  obtain ⟨tab, cols, ⟨⟨wo, wc, wm, ⟨wn, wi, wt⟩, wk, wp⟩, wks⟩, aggs, by_⟩ := q
  obtain ⟨sA, sn, sc⟩ := s
  obtain ⟨vA, vc, hve⟩ := hv.shape
  dsimp only at hce hge
  subst hce
  subst hge
  subst hve
  unfold qyV qyC kidV at *
  dsimp only [Pd.hd, Pd.kids] at *
  clear hv
  go_enter Tryz.func16, Tryz.ntmps16
  go_wp2_with fail
  refine (M1.out _ Q0.out.fr Q0.out.sls).mono ?_
  rintro e w1 ⟨rfl, f1⟩
  have Q1 := Lib.hid (Q0.out.non f1)
  clear f1
  by_cases hz : z = 0
  · have HE := Lib.hid (HE1.out hz)
    have P2 := Lib.hid (P1.out hz)
    have HNL := Lib.hid (HNL0.out hz)
    clear HE0 HE1 P1 HNL0
    subst hz
    have HW1 := Lib.hid Q1.out.blk.lt
    go_wp2
    have fd : Fr Non w1 ((w1.alloc (.map #[] 0)).drew) := ((Fr.refl Non w1).alloc _).drew
    have Qd := Lib.hid (Q1.out.non fd)
    have HMd : Hid (MapI ((w1.alloc (.map #[] 0)).drew) w1.heap.size 0 []) := Lib.hid ((MapI.made w1).fr (Fr.refl Non _).drew (fun e => e))
    clear fd
    obtain ⟨g0, g1, g2, g3, g4, g5, g6, g7, g8, g9, g10, g11, g12⟩ := Qd.out.cells
    dsimp only [Pd.hd, Pd.kids] at g0 g1 g2 g3 g4 g5 g6 g7 g8 g9 g10 g11 g12
    refine wp_region_held_drew (S := (fun W' => W'.cell? ⟨w.heap.size, 0, none⟩ = some (.string ⟨tab.toArray⟩) ∧ W'.cell? ⟨w.heap.size, 1, none⟩ = some (.slice cA cols.length cc) ∧ W'.cell? ⟨w.heap.size, 2, none⟩ = some (.int .i64 wo) ∧ W'.cell? ⟨w.heap.size, 3, none⟩ = some (.string ⟨wc.toArray⟩) ∧ W'.cell? ⟨w.heap.size, 4, none⟩ = some (.int .i64 wm) ∧ W'.cell? ⟨w.heap.size, 5, none⟩ = some (.bool wn) ∧ W'.cell? ⟨w.heap.size, 6, none⟩ = some (.int .i64 wi) ∧ W'.cell? ⟨w.heap.size, 7, none⟩ = some (.string ⟨wt.toArray⟩) ∧ W'.cell? ⟨w.heap.size, 8, none⟩ = some (.int .i64 wk) ∧ W'.cell? ⟨w.heap.size, 9, none⟩ = some (.string ⟨wp.toArray⟩) ∧ W'.cell? ⟨w.heap.size, 10, none⟩ = some (.slice sA sn sc) ∧ W'.cell? ⟨w.heap.size, 11, none⟩ = some (.slice gA aggs.length gc) ∧ W'.cell? ⟨w.heap.size, 12, none⟩ = some (.string ⟨by_.toArray⟩))) (by kernel_rfl) (by exact ⟨g0, g1, g2, g3, g4, g5, g6, g7, g8, g9, g10, g11, g12⟩) (fun hHeld => ?_)
    refine wpAnyH_take (i := 0) (oi := ⟨some 15, _, _, _, _, none⟩) (v := ?v1) rfl (by kernel_rfl) (by kernel_rfl) (by kernel_rfl) (fun _ _ _ h => h) (Or.inl ⟨by rfl, ?hy1⟩) (by assumption) ?rest1
    case hy1 => (intro wS hSw; (try dsimp only at hSw); go_simp; (try with_reducible rfl))
    (try simp only [Act.put, List.setIfInBounds_toArray, List.set_cons_zero, List.set_cons_succ])
    refine wpAnyH_take (i := 1) (oi := ⟨some 16, _, _, _, _, none⟩) (v := ?v2) rfl (by kernel_rfl) (by kernel_rfl) (by kernel_rfl) (fun _ _ _ h => h) (Or.inl ⟨by rfl, ?hy2⟩) (by assumption) ?rest2
    case hy2 => (intro wS hSw; (try dsimp only at hSw); go_simp; (try with_reducible rfl))
    (try simp only [Act.put, List.setIfInBounds_toArray, List.set_cons_zero, List.set_cons_succ])
    refine wpAnyH_take (i := 3) (oi := ⟨some 18, _, _, _, _, none⟩) (v := ?v3) rfl (by kernel_rfl) (by kernel_rfl) (by kernel_rfl) (fun _ _ _ h => h) (Or.inl ⟨by rfl, ?hy3⟩) (by assumption) ?rest3
    case hy3 => (intro wS hSw; (try dsimp only at hSw); go_simp; (try with_reducible rfl))
    (try simp only [Act.put, List.setIfInBounds_toArray, List.set_cons_zero, List.set_cons_succ])
    refine wpAnyH_take (i := 4) (oi := ⟨some 19, _, _, _, _, none⟩) (v := ?v4) rfl (by kernel_rfl) (by kernel_rfl) (by kernel_rfl) (fun _ _ _ h => h) (Or.inl ⟨by rfl, ?hy4⟩) (by assumption) ?rest4
    case hy4 => (intro wS hSw; (try dsimp only at hSw); go_simp; (try with_reducible rfl))
    (try simp only [Act.put, List.setIfInBounds_toArray, List.set_cons_zero, List.set_cons_succ])
    refine wpAnyH_take (i := 8) (oi := ⟨some 23, _, _, _, _, none⟩) (v := ?v5) rfl (by kernel_rfl) (by kernel_rfl) (by kernel_rfl) (fun _ _ _ h => h) (Or.inl ⟨by rfl, ?hy5⟩) (by assumption) ?rest5
    case hy5 => (intro wS hSw; (try dsimp only at hSw); go_simp; (try with_reducible rfl))
    (try simp only [Act.put, List.setIfInBounds_toArray, List.set_cons_zero, List.set_cons_succ])
    refine wpAnyH_ready (rs := [2]) (by kernel_rfl) (by simp) ?_
    refine AllReadyH.cons (o := ⟨some 17, _, _, _, _, none⟩) rfl (fun K hK => ?_) AllReadyH.nil
    go_simp
    go_at_call 37
    refine (N1.out _ Qd.out.fr Qd.out.sls).mono ?_
    rintro e w5 ⟨u5, rfl, ho5, f5⟩
    have Q5 := Lib.hid (Qd.out.non f5)
    have HM5 := Lib.hid (HMd.out.fr f5 (fun e => e))
    have HO5 : Hid (Ow sv 9 w5 (w1.heap.size + 1) u5 ns) := Lib.hid (ho5.mono (by simp))
    clear f5 ho5
    clear g0 g1 g2 g3 g4 g5 g6 g7 g8 g9 g10 g11 g12
    obtain ⟨g0, g1, g2, g3, g4, g5, g6, g7, g8, g9, g10, g11, g12⟩ := Q5.out.cells
    dsimp only [Pd.hd, Pd.kids] at g0 g1 g2 g3 g4 g5 g6 g7 g8 g9 g10 g11 g12
    go_wp2_with fail
    refine hK.out _ _ (by exact ⟨g0, g1, g2, g3, g4, g5, g6, g7, g8, g9, g10, g11, g12⟩) (fun hHeld => ?_)
    clear hK K
    (try simp only [Act.put, List.setIfInBounds_toArray, List.set_cons_zero, List.set_cons_succ])
    refine wpAnyH_ready (rs := [5]) (by kernel_rfl) (by simp) ?_
    refine AllReadyH.cons (o := ⟨some 20, _, _, _, _, none⟩) rfl (fun K hK => ?_) AllReadyH.nil
    go_simp
    go_at_call 38
    refine (P2.out _ Q5.out.sls).mono ?_
    rintro e w6 ⟨u6, rfl, hv6, f6⟩
    have Q6 := Lib.hid (Q5.out.non f6)
    have HM6 := Lib.hid (HM5.out.fr f6 (fun e => e))
    have HO6 := Lib.hid (HO5.out.non f6)
    have HV6 := Lib.hid hv6
    clear f6 hv6
    clear g0 g1 g2 g3 g4 g5 g6 g7 g8 g9 g10 g11 g12
    obtain ⟨g0, g1, g2, g3, g4, g5, g6, g7, g8, g9, g10, g11, g12⟩ := Q6.out.cells
    dsimp only [Pd.hd, Pd.kids] at g0 g1 g2 g3 g4 g5 g6 g7 g8 g9 g10 g11 g12
    go_wp2_with fail
    refine hK.out _ _ (by exact ⟨g0, g1, g2, g3, g4, g5, g6, g7, g8, g9, g10, g11, g12⟩) (fun hHeld => ?_)
    clear hK K
    (try simp only [Act.put, List.setIfInBounds_toArray, List.set_cons_zero, List.set_cons_succ])
    refine wpAnyH_ready (rs := [6]) (by kernel_rfl) (by simp) ?_
    refine AllReadyH.cons (o := ⟨some 21, _, _, _, _, none⟩) rfl (fun K hK => ?_) AllReadyH.nil
    refine wp_appG el_str sv_one (.tmp 17) (.tmp 20) rfl (w1.heap.size + 1) u5 u6 ns ps rfl HO6.out rfl HV6.out (by have := HNL.out; omega) (by have := HM6.out.lt; omega) ?_
    intro v7 w7 hown7 hfr7
    have F7 : Hid (Fr Non w w7) := Lib.hid (Q6.out.fr.fresh hfr7 (fun q hq => by have h1 := (HO6.out.lt q hq).1; have h2 := HW1.out; omega))
    have HM7 := Lib.hid (HM6.out.fr hfr7 (fun e => by have h1 := (HO6.out.lt _ e).1; omega))
    have Q7 : Hid (Qin w w.heap.size ⟨tab, cols, ⟨⟨wo, wc, wm, ⟨wn, wi, wt⟩, wk, wp⟩, wks⟩, aggs, by_⟩ (.slice cA cols.length cc) ⟨sA, sn, sc⟩ (.slice gA aggs.length gc) w7) := Lib.hid ⟨F7.out, Q6.out.blk.fr hfr7 (fun e => by have h1 := (HO6.out.lt _ e).1; have h2 := HW1.out; omega), HS.out.non F7.out⟩
    have HO7 := Lib.hid hown7
    clear hown7 hfr7
    clear g0 g1 g2 g3 g4 g5 g6 g7 g8 g9 g10 g11 g12
    obtain ⟨g0, g1, g2, g3, g4, g5, g6, g7, g8, g9, g10, g11, g12⟩ := Q7.out.cells
    dsimp only [Pd.hd, Pd.kids] at g0 g1 g2 g3 g4 g5 g6 g7 g8 g9 g10 g11 g12
    obtain ⟨uA, uc, hue⟩ := HO7.out.shape
    subst hue
    refine hK.out _ _ (by exact ⟨g0, g1, g2, g3, g4, g5, g6, g7, g8, g9, g10, g11, g12⟩) (fun hHeld => ?_)
    clear hK K
    (try simp only [Act.put, List.setIfInBounds_toArray, List.set_cons_zero, List.set_cons_succ])
    refine wpAnyH_take (i := 7) (oi := ⟨some 22, _, _, _, _, none⟩) (v := ?v6) rfl (by kernel_rfl) (by kernel_rfl) (by kernel_rfl) (fun _ _ _ h => h) (Or.inl ⟨by rfl, ?hy6⟩) (by assumption) ?rest6
    case hy6 => (intro wS hSw; (try dsimp only at hSw); go_simp; (try with_reducible rfl))
    (try simp only [Act.put, List.setIfInBounds_toArray, List.set_cons_zero, List.set_cons_succ])
    refine wpAnyH_done (by kernel_rfl) ?_ _
    clear g0 g1 g2 g3 g4 g5 g6 g7 g8 g9 g10 g11 g12
    obtain ⟨l, hl⟩ : ∃ l, l = ns ++ ps := ⟨_, rfl⟩
    have HLL : Hid (l.length ≤ 2000) := Lib.hid (by rw [hl, List.length_append]; exact HNL.out)
    rw [← hl] at HE HO7
    have hll : (ns ++ ps).length = l.length := by rw [hl]
    have hll2 : ((ns.length : Int) + (ps.length : Int)) = (l.length : Int) := by rw [hl]; simp
    rw [hll, hll2]
    clear hll hll2 hl HNL HO6 HM6 HO5 HM5 HMd HV6 Q5 Q6 Qd Q7
    go_wp2
    go_loopw [23] (fun i wr => ∃ k : Nat, k ≤ l.length ∧ i = .int .i64 k ∧ Hid (MapI wr w1.heap.size k (plR cs l k)) ∧ Hid (Fr Non w wr) ∧ Hid (Ow sv 9 wr (w1.heap.size + 1) (.slice uA l.length uc) l)) (fun i _ => l.length - (intOf i).toNat)
    case atStart => exact ⟨0, Nat.zero_le _, rfl, HM7, F7, HO7⟩
    case round =>
      clear HM7 F7 HO7
      obtain ⟨k, hk, rfl, HM, FR, HO⟩ := hrel
      by_cases hlt : k < l.length
      · obtain ⟨a, rfl, d0⟩ := HO.out.at k hlt
        have HY := Lib.hid (plR_more (cs := cs) hlt)
        have FN := Lib.hid (F.out l[k])
        generalize l[k] = y at *
        obtain ⟨k0, bb, hfv, hk0, -⟩ := find_val cs y
        rw [hfv] at FN
        have HY2 : Hid (plR cs l (k + 1) = (k0 : Int) :: plR cs l k) := Lib.hid (by rw [HY.out]; unfold plcC; rw [hk0])
        have hk0b : k0 < 1000001 := by
          rw [hk0]
          cases hf : findC cs y with
          | none => simp
          | some j => have := find_lt hf; simp; omega
        clear hfv hk0 HY
        go_wp2_with fail
        refine (FN.out _ FR.out).mono ?_
        rintro e w2 ⟨rfl, f2⟩
        have HM2 := Lib.hid (HM.out.fr f2 (fun e => e))
        have HO2 := Lib.hid (HO.out.non f2)
        have F2 := Lib.hid (FR.out.trans f2)
        obtain ⟨cz, hcz1, hcz2, hlook⟩ := HM2.out.look (y := (k0 : Int)) (by omega) (by omega)
        have hkl : k < 1000000000 := by have := HLL.out; omega
        clear f2
        go_wp2_with (at_mapUpdate; refine wpList_putI _ rfl _ _ _ rfl w1.heap.size k (plR cs l k) rfl HM2.out hkl (k0 : Int) _ rfl rfl (by omega) (by omega) (by first | exact RowKit.wrap64_wf _ | (refine WalkArith.wf_i64 ?_; omega)) ?_; intro w3 hm3 hf3)
        have HM3 := Lib.hid hm3
        have F3 : Hid (Fr Non w w3) := Lib.hid (F2.out.fresh hf3 (fun q hq => by have : q = w1.heap.size := hq; have := HW1.out; omega))
        have HO3 := Lib.hid (HO2.out.fr hf3 (fun q hq e => by have h1 := (HO2.out.lt q hq).1; have : q = w1.heap.size := e; omega))
        clear hm3 hf3 hlook
        go_roundw
        case rel => exact ⟨k + 1, by omega, by go_num, by rw [HY2.out]; exact HM3, F3, HO3⟩
        case measure => simp [intOf]; omega
      · obtain rfl : k = l.length := by omega
        rename World => W1
        obtain ⟨D, h1, h2⟩ := HM.out
        have hsz : Maps.size D ≤ l.length := h1.size_le
        have hl2 := HLL.out
        have HK := Lib.hid (fun (ss : List Int) (hp : ss.Perm (intKeys D)) => MapI.keys h1 h2 hp)
        have hkeys := Lib.hid (callsIn_wide.1 (mkeysI_any (some w1.heap.size) W1))
        have HSo := Lib.hid (callsIn_wide.1 (msortedI_any w1.heap.size l.length D _ W1 h1 (by unfold maxLen; omega) (by omega)))
        clear h1 h2 hsz
        go_wp2_with fail
        refine hkeys.out.mono ?_
        rintro e w2 ⟨rfl, hw2⟩
        subst hw2
        go_wp2_with fail
        refine HSo.out.mono ?_
        rintro e w3 ⟨v3, ss, rfl, hperm, hrow, hnil, hb3⟩
        obtain ⟨hnd, hmem⟩ := HK.out ss hperm
        have hU := HE.out ss hnd hmem
        have hf2 : Fr Non W1 (W1.alloc (.cells #[.map (some w1.heap.size)] 62)) := (Fr.refl _ _).alloc _
        have hf3 := hf2.trans (Fr.of_below hb3)
        have hul : ss.length = r.length := by rw [← hU, List.length_mergeSort]
        have how : Ow iv 3 w3 W1.heap.size v3 r := by
          have h := row_mono hrow hf2.size
          unfold Ow
          rw [← hul, ← hU]
          exact h
        have HV9 := Lib.hid how.vs
        have F9 := Lib.hid (FR.out.trans hf3)
        clear hrow hnil hb3 hperm hnd hmem hU hul hf2 hf3 how
        go_wp2
        go_ret
        exact ⟨_, rfl, HV9.out, F9.out⟩
  · have HE := Lib.hid (HE0.out hz)
    have hzb : (z != 0) = true := by rw [bne_iff_ne]; exact hz
    clear HE0 HE1 P1 HNL0 hz
    go_wp2
    go_ret
    exact ⟨_, rfl, by rw [HE.out]; exact Vs.nil_ _, Q1.out.fr⟩
end Go.Proofs.YtibopcceffncpaaGreatDoor
