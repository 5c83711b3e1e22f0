/-
  Joined: Layer 10: are lists of cells the same?; the document's read. · Layer 11: the zone of a list's cells, the document's. · Layer 13: rows as a segment, the document's. · Layer 13: rows compared; which arguments are small; the example; the walk of the law on what is built. · Layer 3: the walks of firkinref03.Get, of the law's example, and of the law FramePuts. · Layer 13: a footer read, the document's.
-/
import Derived.Deep.RegionHeld3
import Derived.Lib.SmallJoins
import Derived.Test.YtheefloegbkflaaGreatDoorZ6
import Derived.Test.YtheefloegbkflaaGreatDoorZ10
import Derived.Test.YtheefloegbkflaaGreatDoorZ4
import Derived.Deep.QuietTactic
import Derived.Test.YtheefloegbkflaaGreatDoorZ7
import Derived.Test.YtheefloegbkflaaGreatDoorZ9
import Derived.Test.YtheefloegbkflaaGreatDoorZ3
import Derived.BigQuiet
import Derived.Test.YtheefloegbkflaaGreatDoorZ8
import Derived.Deep.MidRow

namespace Go.Proofs.YtheefloegbkflaaGreatDoor
set_option linter.unusedVariables false
set_option linter.unusedSimpArgs false
set_option maxRecDepth 100000
open Go.RowKit

set_option maxHeartbeats 1000000 in
theorem call_any (v1 v2 : Value) (l1 l2 : List Cl) (w : World) (h1 : Cs w v1 l1) (h2 : Cs w v2 l2) (hl1 : l1.length ≤ 9223372036854775807) (hl2 : l2.length ≤ 9223372036854775807) :
    Calls Tryz.prog 21 #[v1, v2] w fun e w' => e = .returned (.bool (decide (l1 = l2))) ∧ Fr Non w w' := by
  obtain ⟨A1, c1, rfl, hc1, hn1, hcell1⟩ := h1
  obtain ⟨A2, c2, rfl, hc2, hn2, hcell2⟩ := h2
  have HN1 := Lib.hid hn1
  have HN2 := Lib.hid hn2
  have HC1 := Lib.hid hcell1
  have HC2 := Lib.hid hcell2
  clear hn1 hn2 hcell1 hcell2
  by_cases hlen : l1.length = l2.length
  · have HL := Lib.hid hlen
    have hb : ((l1.length : Int) != l2.length) = false := by rw [hlen]; simp
    have hle : l1.length ≤ l2.length := by omega
    have hge : l2.length ≤ l1.length := by omega
    clear hlen
    go_enter Tryz.func21, Tryz.ntmps21
    go_wp2
    go_loopw [5] (fun i wr => ∃ k : Nat, k ≤ l1.length ∧ i = .int .i64 k ∧ Hid (l1.take k = l2.take k) ∧ ∃ n, wr = w.drewN n) (fun i _ => l1.length - (intOf i).toNat)
    case atStart => exact ⟨0, Nat.zero_le _, rfl, Lib.hid rfl, 0, rfl⟩
    case round =>
      obtain ⟨k, hk, rfl, HT, n, rfl⟩ := hrel
      by_cases hlt : k < l1.length
      · cases A1 with
        | none => have := HN1.out rfl; omega
        | some a1 =>
          cases A2 with
          | none => have := HN2.out rfl; omega
          | some a2 =>
            obtain ⟨g0, g1, g2⟩ := (HC1.out a1 rfl k hlt).lit
            obtain ⟨d0, d1, d2⟩ := (HC2.out a2 rfl k (by omega)).lit
            by_cases he : l1[k] = l2[k]'(by omega)
            · have HE := Lib.hid (take_eq_succ hlt (by omega) HT.out he)
              rw [← he] at d0 d1 d2
              clear he
              generalize l1[k] = x at *
              have hx := fun W => run_neq_cl W x x
              rw [ceq_self] at hx
              obtain ⟨xn, xi, xt⟩ := x
              go_wp2
              go_quiet (fail)
              go_wp2
              go_roundw
              case rel => exact ⟨k + 1, by omega, by go_num, HE, _, rfl⟩
              case measure => simp [intOf]; omega
            · have HE := Lib.hid (take_ne hlt (by omega) he)
              have hc : ceq l1[k] (l2[k]'(by omega)) = false := by unfold ceq; exact decide_eq_false he
              clear he
              generalize l1[k] = x at *
              generalize l2[k]'(by omega) = y at *
              have hx := fun W => run_neq_cl W x y
              rw [hc] at hx
              clear hc
              obtain ⟨xn, xi, xt⟩ := x
              obtain ⟨yn, yi, yt⟩ := y
              go_wp2
              go_quiet (fail)
              go_wp2
              go_ret
              exact ⟨ret_bool (decide_eq_false HE.out).symm, ((Fr.refl _ _).drewN _).drewN _⟩
      · have HE : Hid (l1 = l2) := Lib.hid (by
          have := HT.out
          rwa [List.take_of_length_le (by omega), List.take_of_length_le (by omega)] at this)
        go_wp2
        go_ret
        exact ⟨ret_bool (decide_eq_true HE.out).symm, (Fr.refl _ _).drewN _⟩
  · have hb : ((l1.length : Int) != l2.length) = true := by rw [bne_iff_ne]; omega
    have HE : Hid (l1 ≠ l2) := Lib.hid (fun e => hlen (by rw [e]))
    clear hlen
    go_enter Tryz.func21, Tryz.ntmps21
    go_wp2
    go_ret
    exact ⟨ret_bool (decide_eq_false HE.out).symm, Fr.refl _ _⟩

theorem ow_nilG {α : Type} (f : α → Value) (E : TypeId) (w : World) (B : Nat) : Ow f E w B (.slice none 0 0) [] := ⟨by simp, .inl ⟨rfl, rfl⟩⟩
theorem mapN_take (l : List Int) (k : Nat) (h : k < l.length) : (l.take (k + 1)).map numC = (l.take k).map numC ++ [numC l[k]] := by
  rw [List.take_succ_eq_append_getElem h, List.map_append]; rfl
theorem mapX_take (l : List Tx) (k : Nat) (h : k < l.length) : (l.take (k + 1)).map txtC = (l.take k).map txtC ++ [txtC l[k]] := by
  rw [List.take_succ_eq_append_getElem h, List.map_append]; rfl
theorem i64_ne_s : 2 ≠ 88 := by decide
theorem cell_ne_i64 : 54 ≠ 2 := by decide
theorem cell_ne_str : 54 ≠ 9 := by decide
/-- 'a list, and whether it is one' -/
def TwoL {α : Type} (f : α → Value) (E : TypeId) (w : World) (B : Nat) (o : Option (List α)) (e : Ending) : Prop :=
  ∃ u l ok, e = .returned (.tuple #[u, .bool ok]) ∧ Ow f E w B u l ∧ l.length ≤ 400 ∧ o = (if ok = true then some l else none)
theorem two_n {w : World} {B : Nat} {o : Option (List Int)} {e : Ending} (h : Gtn w B o e) (hl : ∀ l, o = some l → l.length ≤ 400) : TwoL iv 2 w B o e := by
  rcases h with ⟨h1, rfl⟩ | ⟨l, u, h1, rfl, hown⟩
  · exact ⟨_, [], false, rfl, ow_nilG _ _ _ _, by simp, h1⟩
  · exact ⟨u, l, true, rfl, hown, hl l h1, h1⟩
theorem two_x {w : World} {B : Nat} {o : Option (List Tx)} {e : Ending} (h : Gtx w B o e) (hl : ∀ l, o = some l → l.length ≤ 400) : TwoL sv 9 w B o e := by
  rcases h with ⟨h1, rfl⟩ | ⟨l, u, h1, rfl, hown⟩
  · exact ⟨_, [], false, rfl, ow_nilG _ _ _ _, by simp, h1⟩
  · exact ⟨u, l, true, rfl, hown, hl l h1, h1⟩

set_option maxHeartbeats 4000000 in
theorem rread1_any (v : Value) (b : List UInt8) (n : Nat) (w : World) (hv : Bs w v b) (hvl : ∀ q, v.ownBlock = some q → q < w.heap.size) (hl : b.length ≤ 100000) (hn : n ≤ 400) :
    Calls Tryz.prog 92 #[.int .i64 1, v, .int .i64 n] w fun e w' => Gtc w' w.heap.size (wayG 1 b n) e ∧ Fr Non w w' := by
  have HV := Lib.hid hv
  have HVl := Lib.hid hvl
  clear hv hvl
  have HW := Lib.hid (show wayG 1 b n = (numG 1 b n).map (List.map numC) from rfl)
  have HLn := Lib.hid (fun l (h : numG 1 b n = some l) => show l.length ≤ 400 by have := (numG_is h).2.1; omega)
  obtain ⟨Av, cv, rfl⟩ := HV.out.shape
  go_enter Tryz.func92, Tryz.ntmps92
  have hO0 : Oc (w.alloc (.cells #[] 54)) w.heap.size (.slice (some ⟨w.heap.size, 0, none⟩) 0 0) [] := oc_lit0 w w.heap.size w.heap.size rfl (Nat.le_refl _)
  have HO0 := Lib.hid hO0
  clear hO0
  have hO1 := HO0.out.alloc (.cells #[] 2)
  have HO1 := Lib.hid hO1
  have HF0 := Lib.hid (((Fr.refl Non w).alloc (.cells #[] 54)).alloc (.cells #[] 2))
  clear hO1 HO0
  have S0 : ∀ W v (g : Nat), Bs W v b → (∀ q, v.ownBlock = some q → q < g) → g ≤ W.heap.size → SAt (W.alloc (.cells #[v, .bool false] 88)) W.heap.size (GeN g) b false := fun W v g hv hvl hg => ⟨v, Blk.new _ _ _, hv.non ((Fr.refl _ _).alloc _), fun q hq e => by have := hvl q hq; unfold GeN at e; omega, hg, fun h => by cases h⟩
  have HS := Lib.hid S0
  clear S0
  go_wp2
  have s1 := HS.out _ _ w.heap.size (HV.out.non HF0.out) (fun q hq => HVl.out q hq) HF0.out.size
  have hI1 : Ow iv 2 ((w.alloc (.cells #[] 54)).alloc (.cells #[] 2)) w.heap.size (.slice (some ⟨w.heap.size + 1, 0, none⟩) 0 0) [] := ow_lit0 _ _ _ (by simp) (by omega)
  have hI2 := hI1.non ((Fr.refl _ _).alloc (.cells #[.slice Av b.length cv, .bool false] 88))
  have hO2 := HO1.out.alloc (.cells #[.slice Av b.length cv, .bool false] 88)
  have f2 := HF0.out.alloc (.cells #[.slice Av b.length cv, .bool false] 88)
  rw [show ((w.alloc (.cells #[] 54)).alloc (.cells #[] 2)).heap.size = w.heap.size + 2 by simp] at s1
  clear hI1 HO1 HF0 HS HV HVl
  generalize hgg : w.heap.size = g at *
  have HG := Lib.hid hgg
  clear hgg
  go_loopw [12, 15] (fun x i wr => ∃ (k : Nat) (L : List Int) (q : List UInt8) (bad : Bool), k ≤ n ∧ i = .int .i64 k ∧ Hid (ToO n b k L q bad) ∧ SAt wr (g + 2) (GeN g) q bad ∧ q.length ≤ b.length ∧ Ow iv 2 wr g x L ∧ Oc wr g (.slice (some ⟨g, 0, none⟩) 0 0) [] ∧ Fr Non w wr) (fun _ i _ => n - (intOf i).toNat)
  case atStart => exact ⟨0, [], b, false, Nat.zero_le _, rfl, Lib.hid (toO_zero n b), s1, Nat.le_refl _, hI2, hO2, f2⟩
  case round =>
    clear s1 hI2 hO2 f2
    obtain ⟨k, L, q, bad, hk, rfl, HT, hs, hq, hI, hO, hfr⟩ := hrel
    have hL := HT.out.1
    by_cases hlt : k < n
    · have HT2 := Lib.hid (fun h => toO_step HT.out h hlt)
      have hbq : bad = true → q = [] := by obtain ⟨_, _, _, _, _, h⟩ := hs; exact h
      have HT3 := Lib.hid (HT2.out hbq)
      have hql := rest_le q
      obtain ⟨_, _, _, _, _, _, hblk, _⟩ := hs.cells
      have HBl := Lib.hid hblk
      clear HT HT2 hbq hblk
      go_wp2_with fail
      refine (rsint_any (g + 2) (GeN g) q bad wr hs (by omega)).mono ?_
      rintro e w4 ⟨rfl, s4, f4⟩
      have hI4 := hI.fr f4 (fun p hp e => by have h1 : p = g + 2 := e; exact ow_other hI HBl.out i64_ne_s p hp h1)
      have hO4 := hO.fr f4 (fun p hp e => by have h1 : p = g + 2 := e; have h2 : g = p := (by simpa [Value.ownBlock] using hp); omega)
      have hfr4 := hfr.fresh f4 (fun p e => by have h1 : p = g + 2 := e; have := HG.out; omega)
      have HO4 := Lib.hid hO4
      have hgz := (hO4.lt g rfl).2
      obtain ⟨_, _, _, _, _, _, hblk, _⟩ := s4.cells
      have HBl := Lib.hid hblk
      have HS4 := Lib.hid s4
      clear hI hO hfr hs f4 hO4 hblk s4
      generalize unzig (fstN q) = z at *
      go_wp2_with (at_builtin; refine wpList_pushG el_i64 iv_oneC rfl (.tmp 62) (.tmp 65) rfl g _ L rfl hI4 _ z rfl rfl (by omega) (by omega) ?_; intro v5 w5 hI5 f5)
      have hO5 := HO4.out.fr f5 (fun p hp e => oc_other HO4.out hI4 cell_ne_i64 p hp e)
      have s5 := HS4.out.fr f5 (fun e => ow_other hI4 HBl.out i64_ne_s _ e rfl) (fun p hp => (hI4.lt p hp).1)
      have hfr5 := hfr4.fresh f5 (fun p hp => by have := (hI4.lt p hp).1; have := HG.out; omega)
      go_roundw
      case rel => exact ⟨k + 1, _, _, _, by omega, by go_num, HT3, s5, by omega, hI5, hO5, hfr5⟩
      case measure => simp [intOf]; omega
    · obtain rfl : k = n := by omega
      have HO := Lib.hid (toO_end HT.out)
      have hlen : L.length ≤ 400 := by omega
      obtain ⟨A, c, rfl⟩ := hI.shape
      have HI := Lib.hid hI
      clear HT hI hL
      go_wp2_with fail
      refine (rend_any (g + 2) (GeN g) q bad wr hs).mono ?_
      rintro e w5 ⟨rfl, rfl⟩
      have HU := HI
      have HOo := Lib.hid hO
      have HFr := Lib.hid hfr
      clear hs hO hfr HI
      have HW2 := HW.out
      rw [show numG 1 b k = gOnes k b from rfl] at HW2
      have HW := Lib.hid HW2
      clear HW2
      generalize (!bad && q.isEmpty) = ok at *
      go_wp2
      go_loopw [8, 16] (fun o i wr => ∃ (k : Nat), k ≤ L.length ∧ i = .int .i64 k ∧ Oc wr g o ((L.take k).map numC) ∧ Ow iv 2 wr g (.slice A L.length c) L ∧ Fr Non w wr) (fun _ i _ => L.length - (intOf i).toNat)
      case atStart => exact ⟨0, Nat.zero_le _, rfl, HOo.out, HU.out, HFr.out⟩
      case round =>
        clear HOo HU HFr
        obtain ⟨j, hj, rfl, hO, hU, hfr⟩ := hrel
        by_cases hlt : j < L.length
        · obtain ⟨ad, hA, _, _, hcell⟩ := hU.vs.addr (by omega)
          subst hA
          have hc0 := hcell j hlt
          unfold iv at hc0
          have HT := Lib.hid (mapN_take L j hlt)
          have hlk : ((L.take j).map numC).length ≤ 400 := by rw [List.length_map, List.length_take]; omega
          have hB := hfr.size
          clear hcell
          generalize L[j] = x at *
          go_wp2_with (at_builtin; refine wpList_pushC rfl (.tmp 99) (.tmp 105) rfl g _ _ rfl hO (numC x) _ _ _ rfl rfl rfl _ rfl (by simp) (by omega) (by have := HG.out; omega) ?_; intro v6 w6 hown6 hf6)
          have hU6 := hU.fr hf6 (fun q hq e => oc_other hO hU cell_ne_i64 q e hq)
          have hfr6 := hfr.fresh hf6 (fun q hq => by have := (hO.lt q hq).1; have := HG.out; omega)
          go_roundw
          case rel => exact ⟨j + 1, by omega, by go_num, by rw [HT.out]; exact hown6, hU6, hfr6⟩
          case measure => simp [intOf]; omega
        · obtain rfl : j = L.length := by omega
          rw [List.take_length] at hO
          go_wp2
          go_ret2
          refine ⟨?_, hfr⟩
          rw [HW.out, HO.out]
          cases ok with
          | true => exact .inr ⟨L.map numC, _, rfl, rfl, hO.mono (by have := HG.out; omega)⟩
          | false => exact .inl ⟨rfl, _, _, rfl, hO.mono (by have := HG.out; omega)⟩

set_option maxHeartbeats 4000000 in
theorem rread2_any (v : Value) (b : List UInt8) (n : Nat) (w : World) (hv : Bs w v b) (hvl : ∀ q, v.ownBlock = some q → q < w.heap.size) (hl : b.length ≤ 100000) (hn : n ≤ 400) :
    Calls Tryz.prog 92 #[.int .i64 2, v, .int .i64 n] w fun e w' => Gtc w' w.heap.size (wayG 2 b n) e ∧ Fr Non w w' := by
  have HV := Lib.hid hv
  have HVl := Lib.hid hvl
  clear hv hvl
  have HW := Lib.hid (show wayG 2 b n = (numG 2 b n).map (List.map numC) from rfl)
  have HLn := Lib.hid (fun l (h : numG 2 b n = some l) => show l.length ≤ 400 by have := (numG_is h).2.1; omega)
  obtain ⟨Av, cv, rfl⟩ := HV.out.shape
  go_enter Tryz.func92, Tryz.ntmps92
  have hO0 : Oc (w.alloc (.cells #[] 54)) w.heap.size (.slice (some ⟨w.heap.size, 0, none⟩) 0 0) [] := oc_lit0 w w.heap.size w.heap.size rfl (Nat.le_refl _)
  have HO0 := Lib.hid hO0
  clear hO0
  have hO1 := HO0.out.alloc (.cells #[] 2)
  have HO1 := Lib.hid hO1
  have HF0 := Lib.hid (((Fr.refl Non w).alloc (.cells #[] 54)).alloc (.cells #[] 2))
  clear hO1 HO0
  go_wp2_with fail
  refine (rrnget_any _ b n _ (HV.out.non HF0.out) (fun q hq => Nat.lt_of_lt_of_le (HVl.out q hq) HF0.out.size) (by omega) (by omega) (by omega)).mono ?_
  rintro e w1 ⟨hG, hf1⟩
  obtain ⟨u, l, ok, rfl, hu, hlen, ho⟩ := two_n hG (HLn.out)
  have HFr := Lib.hid (HF0.out.trans hf1)
  have HOo := Lib.hid (HO1.out.non hf1)
  have hmn := HF0.out.size
  clear HO1 hf1
  have HU := Lib.hid (hu.mono hmn)
  have HO : Hid (numG 2 b n = if ok = true then some l else none) := Lib.hid ho
  obtain ⟨A, c, rfl⟩ := hu.shape
  clear hu ho hG HLn hmn HV HVl
  generalize hgg : w.heap.size = g at *
  have HG := Lib.hid hgg
  clear hgg
  go_wp2
  go_loopw [8, 16] (fun o i wr => ∃ (k : Nat), k ≤ l.length ∧ i = .int .i64 k ∧ Oc wr g o ((l.take k).map numC) ∧ Ow iv 2 wr g (.slice A l.length c) l ∧ Fr Non w wr) (fun _ i _ => l.length - (intOf i).toNat)
  case atStart => exact ⟨0, Nat.zero_le _, rfl, HOo.out, HU.out, HFr.out⟩
  case round =>
    clear HOo HU HFr
    obtain ⟨j, hj, rfl, hO, hU, hfr⟩ := hrel
    by_cases hlt : j < l.length
    · obtain ⟨ad, hA, _, _, hcell⟩ := hU.vs.addr (by omega)
      subst hA
      have hc0 := hcell j hlt
      unfold iv at hc0
      have HT := Lib.hid (mapN_take l j hlt)
      have hlk : ((l.take j).map numC).length ≤ 400 := by rw [List.length_map, List.length_take]; omega
      have hB := hfr.size
      clear hcell
      generalize l[j] = x at *
      go_wp2_with (at_builtin; refine wpList_pushC rfl (.tmp 99) (.tmp 105) rfl g _ _ rfl hO (numC x) _ _ _ rfl rfl rfl _ rfl (by simp) (by omega) (by have := HG.out; omega) ?_; intro v6 w6 hown6 hf6)
      have hU6 := hU.fr hf6 (fun q hq e => oc_other hO hU cell_ne_i64 q e hq)
      have hfr6 := hfr.fresh hf6 (fun q hq => by have := (hO.lt q hq).1; have := HG.out; omega)
      go_roundw
      case rel => exact ⟨j + 1, by omega, by go_num, by rw [HT.out]; exact hown6, hU6, hfr6⟩
      case measure => simp [intOf]; omega
    · obtain rfl : j = l.length := by omega
      rw [List.take_length] at hO
      go_wp2
      go_ret2
      refine ⟨?_, hfr⟩
      rw [HW.out, HO.out]
      cases ok with
      | true => exact .inr ⟨l.map numC, _, rfl, rfl, hO.mono (by have := HG.out; omega)⟩
      | false => exact .inl ⟨rfl, _, _, rfl, hO.mono (by have := HG.out; omega)⟩

set_option maxHeartbeats 4000000 in
theorem rread3_any (v : Value) (b : List UInt8) (n : Nat) (w : World) (hv : Bs w v b) (hvl : ∀ q, v.ownBlock = some q → q < w.heap.size) (hl : b.length ≤ 100000) (hn : n ≤ 400) :
    Calls Tryz.prog 92 #[.int .i64 3, v, .int .i64 n] w fun e w' => Gtc w' w.heap.size (wayG 3 b n) e ∧ Fr Non w w' := by
  have HV := Lib.hid hv
  have HVl := Lib.hid hvl
  clear hv hvl
  have HW := Lib.hid (show wayG 3 b n = (numG 3 b n).map (List.map numC) from rfl)
  have HLn := Lib.hid (fun l (h : numG 3 b n = some l) => show l.length ≤ 400 by have := (numG_is h).2.1; omega)
  obtain ⟨Av, cv, rfl⟩ := HV.out.shape
  go_enter Tryz.func92, Tryz.ntmps92
  have hO0 : Oc (w.alloc (.cells #[] 54)) w.heap.size (.slice (some ⟨w.heap.size, 0, none⟩) 0 0) [] := oc_lit0 w w.heap.size w.heap.size rfl (Nat.le_refl _)
  have HO0 := Lib.hid hO0
  clear hO0
  have hO1 := HO0.out.alloc (.cells #[] 2)
  have HO1 := Lib.hid hO1
  have HF0 := Lib.hid (((Fr.refl Non w).alloc (.cells #[] 54)).alloc (.cells #[] 2))
  clear hO1 HO0
  go_wp2_with fail
  refine (rdget_any _ b n _ (HV.out.non HF0.out) (fun q hq => Nat.lt_of_lt_of_le (HVl.out q hq) HF0.out.size) (by omega) (by omega) (by omega)).mono ?_
  rintro e w1 ⟨hG, hf1⟩
  obtain ⟨u, l, ok, rfl, hu, hlen, ho⟩ := two_n hG (HLn.out)
  have HFr := Lib.hid (HF0.out.trans hf1)
  have HOo := Lib.hid (HO1.out.non hf1)
  have hmn := HF0.out.size
  clear HO1 hf1
  have HU := Lib.hid (hu.mono hmn)
  have HO : Hid (numG 3 b n = if ok = true then some l else none) := Lib.hid ho
  obtain ⟨A, c, rfl⟩ := hu.shape
  clear hu ho hG HLn hmn HV HVl
  generalize hgg : w.heap.size = g at *
  have HG := Lib.hid hgg
  clear hgg
  go_wp2
  go_loopw [8, 16] (fun o i wr => ∃ (k : Nat), k ≤ l.length ∧ i = .int .i64 k ∧ Oc wr g o ((l.take k).map numC) ∧ Ow iv 2 wr g (.slice A l.length c) l ∧ Fr Non w wr) (fun _ i _ => l.length - (intOf i).toNat)
  case atStart => exact ⟨0, Nat.zero_le _, rfl, HOo.out, HU.out, HFr.out⟩
  case round =>
    clear HOo HU HFr
    obtain ⟨j, hj, rfl, hO, hU, hfr⟩ := hrel
    by_cases hlt : j < l.length
    · obtain ⟨ad, hA, _, _, hcell⟩ := hU.vs.addr (by omega)
      subst hA
      have hc0 := hcell j hlt
      unfold iv at hc0
      have HT := Lib.hid (mapN_take l j hlt)
      have hlk : ((l.take j).map numC).length ≤ 400 := by rw [List.length_map, List.length_take]; omega
      have hB := hfr.size
      clear hcell
      generalize l[j] = x at *
      go_wp2_with (at_builtin; refine wpList_pushC rfl (.tmp 99) (.tmp 105) rfl g _ _ rfl hO (numC x) _ _ _ rfl rfl rfl _ rfl (by simp) (by omega) (by have := HG.out; omega) ?_; intro v6 w6 hown6 hf6)
      have hU6 := hU.fr hf6 (fun q hq e => oc_other hO hU cell_ne_i64 q e hq)
      have hfr6 := hfr.fresh hf6 (fun q hq => by have := (hO.lt q hq).1; have := HG.out; omega)
      go_roundw
      case rel => exact ⟨j + 1, by omega, by go_num, by rw [HT.out]; exact hown6, hU6, hfr6⟩
      case measure => simp [intOf]; omega
    · obtain rfl : j = l.length := by omega
      rw [List.take_length] at hO
      go_wp2
      go_ret2
      refine ⟨?_, hfr⟩
      rw [HW.out, HO.out]
      cases ok with
      | true => exact .inr ⟨l.map numC, _, rfl, rfl, hO.mono (by have := HG.out; omega)⟩
      | false => exact .inl ⟨rfl, _, _, rfl, hO.mono (by have := HG.out; omega)⟩

set_option maxHeartbeats 4000000 in
theorem rread4_any (v : Value) (b : List UInt8) (n : Nat) (w : World) (hv : Bs w v b) (hvl : ∀ q, v.ownBlock = some q → q < w.heap.size) (hl : b.length ≤ 100000) (hn : n ≤ 400) :
    Calls Tryz.prog 92 #[.int .i64 4, v, .int .i64 n] w fun e w' => Gtc w' w.heap.size (wayG 4 b n) e ∧ Fr Non w w' := by
  have HV := Lib.hid hv
  have HVl := Lib.hid hvl
  clear hv hvl
  have HW := Lib.hid (show wayG 4 b n = (numG 4 b n).map (List.map numC) from rfl)
  have HLn := Lib.hid (fun l (h : numG 4 b n = some l) => show l.length ≤ 400 by have := (numG_is h).2.1; omega)
  obtain ⟨Av, cv, rfl⟩ := HV.out.shape
  go_enter Tryz.func92, Tryz.ntmps92
  have hO0 : Oc (w.alloc (.cells #[] 54)) w.heap.size (.slice (some ⟨w.heap.size, 0, none⟩) 0 0) [] := oc_lit0 w w.heap.size w.heap.size rfl (Nat.le_refl _)
  have HO0 := Lib.hid hO0
  clear hO0
  have hO1 := HO0.out.alloc (.cells #[] 2)
  have HO1 := Lib.hid hO1
  have HF0 := Lib.hid (((Fr.refl Non w).alloc (.cells #[] 54)).alloc (.cells #[] 2))
  clear hO1 HO0
  go_wp2_with fail
  refine (rtget_any _ b n _ (HV.out.non HF0.out) (fun q hq => Nat.lt_of_lt_of_le (HVl.out q hq) HF0.out.size) (by omega) (by omega) (by omega)).mono ?_
  rintro e w1 ⟨hG, hf1⟩
  rw [← getM_small (by omega)] at hG
  obtain ⟨u, l, ok, rfl, hu, hlen, ho⟩ := two_n hG (HLn.out)
  have HFr := Lib.hid (HF0.out.trans hf1)
  have HOo := Lib.hid (HO1.out.non hf1)
  have hmn := HF0.out.size
  clear HO1 hf1
  have HU := Lib.hid (hu.mono hmn)
  have HO : Hid (numG 4 b n = if ok = true then some l else none) := Lib.hid ho
  obtain ⟨A, c, rfl⟩ := hu.shape
  clear hu ho hG HLn hmn HV HVl
  generalize hgg : w.heap.size = g at *
  have HG := Lib.hid hgg
  clear hgg
  go_wp2
  go_loopw [8, 16] (fun o i wr => ∃ (k : Nat), k ≤ l.length ∧ i = .int .i64 k ∧ Oc wr g o ((l.take k).map numC) ∧ Ow iv 2 wr g (.slice A l.length c) l ∧ Fr Non w wr) (fun _ i _ => l.length - (intOf i).toNat)
  case atStart => exact ⟨0, Nat.zero_le _, rfl, HOo.out, HU.out, HFr.out⟩
  case round =>
    clear HOo HU HFr
    obtain ⟨j, hj, rfl, hO, hU, hfr⟩ := hrel
    by_cases hlt : j < l.length
    · obtain ⟨ad, hA, _, _, hcell⟩ := hU.vs.addr (by omega)
      subst hA
      have hc0 := hcell j hlt
      unfold iv at hc0
      have HT := Lib.hid (mapN_take l j hlt)
      have hlk : ((l.take j).map numC).length ≤ 400 := by rw [List.length_map, List.length_take]; omega
      have hB := hfr.size
      clear hcell
      generalize l[j] = x at *
      go_wp2_with (at_builtin; refine wpList_pushC rfl (.tmp 99) (.tmp 105) rfl g _ _ rfl hO (numC x) _ _ _ rfl rfl rfl _ rfl (by simp) (by omega) (by have := HG.out; omega) ?_; intro v6 w6 hown6 hf6)
      have hU6 := hU.fr hf6 (fun q hq e => oc_other hO hU cell_ne_i64 q e hq)
      have hfr6 := hfr.fresh hf6 (fun q hq => by have := (hO.lt q hq).1; have := HG.out; omega)
      go_roundw
      case rel => exact ⟨j + 1, by omega, by go_num, by rw [HT.out]; exact hown6, hU6, hfr6⟩
      case measure => simp [intOf]; omega
    · obtain rfl : j = l.length := by omega
      rw [List.take_length] at hO
      go_wp2
      go_ret2
      refine ⟨?_, hfr⟩
      rw [HW.out, HO.out]
      cases ok with
      | true => exact .inr ⟨l.map numC, _, rfl, rfl, hO.mono (by have := HG.out; omega)⟩
      | false => exact .inl ⟨rfl, _, _, rfl, hO.mono (by have := HG.out; omega)⟩

set_option maxHeartbeats 4000000 in
theorem rread5_any (v : Value) (b : List UInt8) (n : Nat) (w : World) (hv : Bs w v b) (hvl : ∀ q, v.ownBlock = some q → q < w.heap.size) (hl : b.length ≤ 100000) (hn : n ≤ 400) :
    Calls Tryz.prog 92 #[.int .i64 5, v, .int .i64 n] w fun e w' => Gtc w' w.heap.size (wayG 5 b n) e ∧ Fr Non w w' := by
  have HV := Lib.hid hv
  have HVl := Lib.hid hvl
  clear hv hvl
  have HW := Lib.hid (show wayG 5 b n = (txtG 5 b n).map (List.map txtC) from rfl)
  have HLn := Lib.hid (fun l (h : txtG 5 b n = some l) => show l.length ≤ 400 by have := (txtG_is h).2; omega)
  obtain ⟨Av, cv, rfl⟩ := HV.out.shape
  go_enter Tryz.func92, Tryz.ntmps92
  have hO0 : Oc (w.alloc (.cells #[] 54)) w.heap.size (.slice (some ⟨w.heap.size, 0, none⟩) 0 0) [] := oc_lit0 w w.heap.size w.heap.size rfl (Nat.le_refl _)
  have HO0 := Lib.hid hO0
  clear hO0
  have HO1 := HO0
  have HF0 := Lib.hid ((Fr.refl Non w).alloc (.cells #[] 54))
  clear HO0
  go_wp2_with fail
  refine (rtexts_any _ b n 40 _ (HV.out.non HF0.out) (fun q hq => Nat.lt_of_lt_of_le (HVl.out q hq) HF0.out.size) (by omega) (by omega) (by omega) (by omega)).mono ?_
  rintro e w1 ⟨hG, hf1⟩
  obtain ⟨u, l, ok, rfl, hu, hlen, ho⟩ := two_x hG (HLn.out)
  have HFr := Lib.hid (HF0.out.trans hf1)
  have HOo := Lib.hid (HO1.out.non hf1)
  have hmn := HF0.out.size
  clear HO1 hf1
  have HU := Lib.hid (hu.mono hmn)
  have HO : Hid (txtG 5 b n = if ok = true then some l else none) := Lib.hid ho
  obtain ⟨A, c, rfl⟩ := hu.shape
  clear hu ho hG HLn hmn HV HVl
  generalize hgg : w.heap.size = g at *
  have HG := Lib.hid hgg
  clear hgg
  go_wp2
  go_loopw [8, 11] (fun o i wr => ∃ (k : Nat), k ≤ l.length ∧ i = .int .i64 k ∧ Oc wr g o ((l.take k).map txtC) ∧ Ow sv 9 wr g (.slice A l.length c) l ∧ Fr Non w wr) (fun _ i _ => l.length - (intOf i).toNat)
  case atStart => exact ⟨0, Nat.zero_le _, rfl, HOo.out, HU.out, HFr.out⟩
  case round =>
    clear HOo HU HFr
    obtain ⟨j, hj, rfl, hO, hU, hfr⟩ := hrel
    by_cases hlt : j < l.length
    · obtain ⟨ad, hA, _, _, hcell⟩ := hU.vs.addr (by omega)
      subst hA
      have hc0 := hcell j hlt
      unfold sv at hc0
      have HT := Lib.hid (mapX_take l j hlt)
      have hlk : ((l.take j).map txtC).length ≤ 400 := by rw [List.length_map, List.length_take]; omega
      have hB := hfr.size
      clear hcell
      generalize l[j] = x at *
      go_wp2_with (at_builtin; refine wpList_pushC rfl (.tmp 40) (.tmp 46) rfl g _ _ rfl hO (txtC x) _ _ _ rfl rfl rfl _ rfl (by simp) (by omega) (by have := HG.out; omega) ?_; intro v6 w6 hown6 hf6)
      have hU6 := hU.fr hf6 (fun q hq e => oc_other hO hU cell_ne_str q e hq)
      have hfr6 := hfr.fresh hf6 (fun q hq => by have := (hO.lt q hq).1; have := HG.out; omega)
      go_roundw
      case rel => exact ⟨j + 1, by omega, by go_num, by rw [HT.out]; exact hown6, hU6, hfr6⟩
      case measure => simp [intOf]; omega
    · obtain rfl : j = l.length := by omega
      rw [List.take_length] at hO
      go_wp2
      go_ret2
      refine ⟨?_, hfr⟩
      rw [HW.out, HO.out]
      cases ok with
      | true => exact .inr ⟨l.map txtC, _, rfl, rfl, hO.mono (by have := HG.out; omega)⟩
      | false => exact .inl ⟨rfl, _, _, rfl, hO.mono (by have := HG.out; omega)⟩

set_option maxHeartbeats 4000000 in
theorem rread6_any (v : Value) (b : List UInt8) (n : Nat) (w : World) (hv : Bs w v b) (hvl : ∀ q, v.ownBlock = some q → q < w.heap.size) (hl : b.length ≤ 100000) (hn : n ≤ 400) :
    Calls Tryz.prog 92 #[.int .i64 6, v, .int .i64 n] w fun e w' => Gtc w' w.heap.size (wayG 6 b n) e ∧ Fr Non w w' := by
  have HV := Lib.hid hv
  have HVl := Lib.hid hvl
  clear hv hvl
  have HW := Lib.hid (show wayG 6 b n = (txtG 6 b n).map (List.map txtC) from rfl)
  have HLn := Lib.hid (fun l (h : txtG 6 b n = some l) => show l.length ≤ 400 by have := (txtG_is h).2; omega)
  obtain ⟨Av, cv, rfl⟩ := HV.out.shape
  go_enter Tryz.func92, Tryz.ntmps92
  have hO0 : Oc (w.alloc (.cells #[] 54)) w.heap.size (.slice (some ⟨w.heap.size, 0, none⟩) 0 0) [] := oc_lit0 w w.heap.size w.heap.size rfl (Nat.le_refl _)
  have HO0 := Lib.hid hO0
  clear hO0
  have HO1 := HO0
  have HF0 := Lib.hid ((Fr.refl Non w).alloc (.cells #[] 54))
  clear HO0
  go_wp2_with fail
  refine (rtexts_any _ b n 40 _ (HV.out.non HF0.out) (fun q hq => Nat.lt_of_lt_of_le (HVl.out q hq) HF0.out.size) (by omega) (by omega) (by omega) (by omega)).mono ?_
  rintro e w1 ⟨hG, hf1⟩
  have HF1 := Lib.hid (HF0.out.trans hf1)
  have HO1b := Lib.hid (HO1.out.non hf1)
  clear HO1
  obtain ⟨u0, l0, ok0, rfl, hu0, _, _⟩ := two_x hG (fun l h => show l.length ≤ 400 by have := (textsM_is h).2.1; omega)
  clear hG hu0
  go_wp2_with fail
  refine (rxget_any _ b n 40 _ (HV.out.non HF1.out) (fun q hq => Nat.lt_of_lt_of_le (HVl.out q hq) HF1.out.size) (by omega) (by omega) (by omega) (by omega)).mono ?_
  rintro e w2 ⟨hG, hf2⟩
  rw [rgetM_is (by omega)] at hG
  obtain ⟨u, l, ok, rfl, hu, hlen, ho⟩ := two_x hG (HLn.out)
  have HFr := Lib.hid (HF1.out.trans hf2)
  have HOo := Lib.hid (HO1b.out.non hf2)
  have hmn := HF1.out.size
  clear HO1b hf1 hf2
  have HU := Lib.hid (hu.mono hmn)
  have HO : Hid (txtG 6 b n = if ok = true then some l else none) := Lib.hid ho
  obtain ⟨A, c, rfl⟩ := hu.shape
  clear hu ho hG HLn hmn HV HVl
  generalize hgg : w.heap.size = g at *
  have HG := Lib.hid hgg
  clear hgg
  go_wp2
  go_loopw [8, 11] (fun o i wr => ∃ (k : Nat), k ≤ l.length ∧ i = .int .i64 k ∧ Oc wr g o ((l.take k).map txtC) ∧ Ow sv 9 wr g (.slice A l.length c) l ∧ Fr Non w wr) (fun _ i _ => l.length - (intOf i).toNat)
  case atStart => exact ⟨0, Nat.zero_le _, rfl, HOo.out, HU.out, HFr.out⟩
  case round =>
    clear HOo HU HFr
    obtain ⟨j, hj, rfl, hO, hU, hfr⟩ := hrel
    by_cases hlt : j < l.length
    · obtain ⟨ad, hA, _, _, hcell⟩ := hU.vs.addr (by omega)
      subst hA
      have hc0 := hcell j hlt
      unfold sv at hc0
      have HT := Lib.hid (mapX_take l j hlt)
      have hlk : ((l.take j).map txtC).length ≤ 400 := by rw [List.length_map, List.length_take]; omega
      have hB := hfr.size
      clear hcell
      generalize l[j] = x at *
      go_wp2_with (at_builtin; refine wpList_pushC rfl (.tmp 40) (.tmp 46) rfl g _ _ rfl hO (txtC x) _ _ _ rfl rfl rfl _ rfl (by simp) (by omega) (by have := HG.out; omega) ?_; intro v6 w6 hown6 hf6)
      have hU6 := hU.fr hf6 (fun q hq e => oc_other hO hU cell_ne_str q e hq)
      have hfr6 := hfr.fresh hf6 (fun q hq => by have := (hO.lt q hq).1; have := HG.out; omega)
      go_roundw
      case rel => exact ⟨j + 1, by omega, by go_num, by rw [HT.out]; exact hown6, hU6, hfr6⟩
      case measure => simp [intOf]; omega
    · obtain rfl : j = l.length := by omega
      rw [List.take_length] at hO
      go_wp2
      go_ret2
      refine ⟨?_, hfr⟩
      rw [HW.out, HO.out]
      cases ok with
      | true => exact .inr ⟨l.map txtC, _, rfl, rfl, hO.mono (by have := HG.out; omega)⟩
      | false => exact .inl ⟨rfl, _, _, rfl, hO.mono (by have := HG.out; omega)⟩
end Go.Proofs.YtheefloegbkflaaGreatDoor


namespace Go.Proofs.YtheefloegbkflaaGreatDoor
set_option linter.unusedVariables false
set_option linter.unusedSimpArgs false
set_option maxRecDepth 100000
open Go.RowKit

theorem At3.frs {S : Nat → Prop} {w w' : World} {a : Addr} {c : Cl} (h : At3 w a c) (hf : Fr S w w') (hn : ¬ S a.block) : At3 w' a c :=
  h.keep (hf.block _ (World.block_lt_of_cell? w _ h.c0) hn)
theorem At3.drew {w : World} {a : Addr} {c : Cl} (h : At3 w a c) : At3 w.drew a c := ⟨h.c0, h.c1, h.c2⟩
/-- what the loop of the document's holds: the element, the zone, the result's block -/
structure ROf (w : World) (ad : Addr) (R : Nat) (x : Cl) (z : Zn) : Prop where
  el : At3 w ad x
  zn : ZnB w (R + 1) z
  out : ZnB w R noZn
theorem ROf.non {w w' : World} {ad : Addr} {R : Nat} {x : Cl} {z : Zn} (h : ROf w ad R x z) (hf : Fr Non w w') : ROf w' ad R x z := ⟨h.el.frs hf (fun e => e), h.zn.fr hf (fun e => e), h.out.fr hf (fun e => e)⟩
theorem ROf.drew {w : World} {ad : Addr} {R : Nat} {x : Cl} {z : Zn} (h : ROf w ad R x z) : ROf w.drew ad R x z := ⟨h.el.drew, h.zn, h.out⟩
theorem ROf.low {w : World} {ad : Addr} {R : Nat} {x : Cl} {z : Zn} (h : ROf w ad R x z) (hd : ad.block ≠ R + 1) (c : Cl) : ROf (setLow w (R + 1) c.null c.num c.txt) ad R x ⟨z.rows, z.nulls, c, z.high⟩ :=
  ⟨h.el.frs (setLow_fr _ _ _ _ _) hd, setLow_B h.zn c, h.out.fr (setLow_fr _ _ _ _ _) (fun e => by have : R = R + 1 := e; omega)⟩
theorem ROf.high {w : World} {ad : Addr} {R : Nat} {x : Cl} {z : Zn} (h : ROf w ad R x z) (hd : ad.block ≠ R + 1) (c : Cl) : ROf (setHigh w (R + 1) c.null c.num c.txt) ad R x ⟨z.rows, z.nulls, z.low, c⟩ :=
  ⟨h.el.frs (setHigh_fr _ _ _ _ _) hd, setHigh_B h.zn c, h.out.fr (setHigh_fr _ _ _ _ _) (fun e => by have : R = R + 1 := e; omega)⟩

set_option maxHeartbeats 4000000 in
theorem rzof_any (v : Value) (l : List Cl) (w : World) (hv : Cs w v l) (hvl : ∀ q, v.ownBlock = some q → q < w.heap.size) (hl : l.length ≤ 1000000) :
    Calls Tryz.prog 38 #[v] w fun e w' => ∃ z, e = .returned (znV z) ∧ IsOf l z ∧ Fr Non w w' := by
  obtain ⟨A, c, rfl, hlc, hn, hcell⟩ := hv
  have HC := Lib.hid hcell
  have HN := Lib.hid hn
  clear hcell hn
  have f0 : Fr Non w _ := ((Fr.refl Non w).alloc (.cells (znC noZn) 56)).alloc (.cells (znC ⟨l.length, 0, noCl, noCl⟩) 56)
  have hA : ZnB (w.alloc (.cells (znC noZn) 56)) w.heap.size noZn := Blk.new _ _ _
  have hB : ZnB ((w.alloc (.cells (znC noZn) 56)).alloc (.cells (znC ⟨l.length, 0, noCl, noCl⟩) 56)) (w.alloc (.cells (znC noZn) 56)).heap.size ⟨l.length, 0, noCl, noCl⟩ := Blk.new _ _ _
  have hsz : (w.alloc (.cells (znC noZn) 56)).heap.size = w.heap.size + 1 := by simp
  rw [hsz] at hB
  have hA2 : ZnB ((w.alloc (.cells (znC noZn) 56)).alloc (.cells (znC ⟨l.length, 0, noCl, noCl⟩) 56)) w.heap.size noZn := hA.fr ((Fr.refl Non _).alloc _) (fun e => e)
  have J0 := Lib.hid (jinv_start l.length 0)
  clear hA hsz
  unfold znC noZn noCl at *
  dsimp only at *
  replace f0 := Lib.hid f0
  replace hB := Lib.hid hB
  replace hA2 := Lib.hid hA2
  go_enter Tryz.func38, Tryz.ntmps38
  go_wp2
  generalize hw : w.heap.size = R at *
  have HW := Lib.hid (Nat.le_of_eq hw)
  have hVL := hvl
  clear hw hvl
  go_loopw [4] (fun i wr => ∃ (k : Nat) (z : Zn), k ≤ l.length ∧ i = .int .i64 k ∧ JInv l.length (nulC (l.take k)) (liveC (l.take k)) z (decide (z.nulls = k)) ∧ ZnB wr (R + 1) z ∧ ZnB wr R noZn ∧ Fr Non w wr) (fun i _ => l.length - (intOf i).toNat)
  case atStart => exact ⟨0, _, Nat.zero_le _, rfl, J0.out, hB.out, hA2.out, f0.out⟩
  case round =>
    clear hA2 hB f0 J0
    obtain ⟨k, z, hk, rfl, hJ, hZ, hO, hF⟩ := hrel
    by_cases hlt : k < l.length
    · cases A with
      | none => have := HN.out rfl; omega
      | some a =>
        have hel := hF.at3 (HC.out a rfl k hlt)
        have hbd : (a.add (k * 3)).block < R := by rw [add_block]; exact hVL a.block rfl
        have HY := Lib.hid (jinv_yes hlt hJ)
        have HX := Lib.hid (jinv_no hlt hJ)
        obtain ⟨hn0, hn1⟩ := jinv_le (Nat.le_of_lt hlt) hJ
        clear hJ
        generalize l[k] = x at *
        have hN : ROf wr (a.add (k * 3)) R x z := ⟨hel, hZ, hO⟩
        have had : (a.add (k * 3)).block ≠ R + 1 := by omega
        clear hel hZ hO
        obtain ⟨xn, xi, xt⟩ := x
        cases xn
        · replace HX := Lib.hid (HX.out rfl)
          clear HY
          have O1 := fun W => rorder_any ⟨false, xi, xt⟩ z.low W
          have O2 := fun W => rorder_any ⟨false, xi, xt⟩ z.high W
          have HZ : noteZ (decide (z.nulls = k)) z ⟨false, xi, xt⟩ = ⟨z.rows, z.nulls, if (decide (z.nulls = k) || decide (ordC ⟨false, xi, xt⟩ z.low < 0)) = true then ⟨false, xi, xt⟩ else z.low, if (decide (z.nulls = k) || decide (0 < ordC ⟨false, xi, xt⟩ z.high)) = true then ⟨false, xi, xt⟩ else z.high⟩ := rfl
          generalize ordC ⟨false, xi, xt⟩ z.low = x at *
          generalize ordC ⟨false, xi, xt⟩ z.high = y at *
          unfold clV clC at O1 O2
          dsimp only at O1 O2
          replace O1 := Lib.hid O1
          replace O2 := Lib.hid O2
          replace HZ := Lib.hid HZ
          obtain ⟨c0, c1, c2⟩ := hN.el.lit
          dsimp only at c0 c1 c2
          have z1 : wr.cell? ⟨R + 1, 1, none⟩ = some (.int .i64 z.nulls) := hN.zn.cell 1
          by_cases hfi : z.nulls = k
          · have HZ1 : Hid (noteZ (decide (z.nulls = k)) z ⟨false, xi, xt⟩ = ⟨z.rows, z.nulls, ⟨false, xi, xt⟩, ⟨false, xi, xt⟩⟩) := Lib.hid (by rw [HZ.out, decide_eq_true hfi]; rfl)
            have HE : Hid (JInv l.length (nulC (l.take (k + 1))) (liveC (l.take (k + 1))) ⟨z.rows, z.nulls, ⟨false, xi, xt⟩, ⟨false, xi, xt⟩⟩ (decide (z.nulls = (k + 1 : Nat)))) := Lib.hid (by rw [HZ1.out] at HX; have := HX.out; rwa [show decide (z.nulls = ((k + 1 : Nat) : Int)) = false from decide_eq_false (by omega)])
            have hd : (z.nulls == (k : Int)) = true := by simpa using hfi
            clear HZ HZ1 HX O1 O2 hfi
            go_wp2
            clear c0 c1 c2 z1
            go_region
            replace hN := hN.drew
            replace hF := hF.drew
            generalize wr.drew = V1 at *
            have hL : ROf (setLow V1 (R + 1) false xi xt) (a.add (k * 3)) R ⟨false, xi, xt⟩ ⟨z.rows, z.nulls, ⟨false, xi, xt⟩, z.high⟩ := hN.low had ⟨false, xi, xt⟩
            have FF : Fr Non w (setLow V1 (R + 1) false xi xt) := hF.fresh (setLow_fr V1 (R + 1) false xi xt) (fun q e => by have : q = R + 1 := e; have := HW.out; omega)
            replace hL := Lib.hid hL
            replace FF := Lib.hid FF
            obtain ⟨y0, y1, y2, y3, y4, y5, y6, y7⟩ := znB_froz hN.zn
            obtain ⟨a0, a1, a2, a3, a4, a5, a6, a7⟩ := znB_cells hN.zn
            obtain ⟨c0, c1, c2⟩ := hN.el.lit
            dsimp only at c0 c1 c2
            clear hN hF
            unfold setLow at hL FF
            go_wp2
            clear y0 y1 y2 y3 y4 y5 y6 y7 a0 a1 a2 a3 a4 a5 a6 a7 c0 c1 c2
            generalize ((V1.setCell ⟨R + 1, 2, none⟩ (.bool false)).setCell ⟨R + 1, 3, none⟩ (.int .i64 xi)).setCell ⟨R + 1, 4, none⟩ (.string ⟨xt.toArray⟩) = V at *
            have hN := hL.out
            have hF := FF.out
            clear hL FF
            go_region
            replace hN := hN.drew
            replace hF := hF.drew
            generalize V.drew = V2 at *
            have hL : ROf (setHigh V2 (R + 1) false xi xt) (a.add (k * 3)) R ⟨false, xi, xt⟩ ⟨z.rows, z.nulls, ⟨false, xi, xt⟩, ⟨false, xi, xt⟩⟩ := hN.high had ⟨false, xi, xt⟩
            have FF : Fr Non w (setHigh V2 (R + 1) false xi xt) := hF.fresh (setHigh_fr V2 (R + 1) false xi xt) (fun q e => by have : q = R + 1 := e; have := HW.out; omega)
            replace hL := Lib.hid hL
            replace FF := Lib.hid FF
            obtain ⟨y0, y1, y2, y3, y4, y5, y6, y7⟩ := znB_froz hN.zn
            obtain ⟨a0, a1, a2, a3, a4, a5, a6, a7⟩ := znB_cells hN.zn
            obtain ⟨c0, c1, c2⟩ := hN.el.lit
            dsimp only at c0 c1 c2
            clear hN hF
            unfold setHigh at hL FF
            go_wp2
            go_roundw
            case rel => exact ⟨k + 1, _, by omega, by go_num, HE.out, hL.out.zn, hL.out.out, FF.out⟩
            case measure => simp [intOf]; omega
          · have hd : (z.nulls == (k : Int)) = false := by simpa using hfi
            have HFI : Hid (¬ z.nulls = (k : Int)) := Lib.hid hfi
            clear hfi
            go_wp2
            clear c0 c1 c2 z1
            generalize wr = V at *
            replace hN := hN.drew
            replace hF := hF.drew
            obtain ⟨s0, s1, s2⟩ := At3.lit (hN).el
            have s3 : (V.drew).cell? ⟨R + 1, 2, none⟩ = some (.bool z.low.null) := (hN).zn.cell 2
            have s4 : (V.drew).cell? ⟨R + 1, 3, none⟩ = some (.int .i64 z.low.num) := (hN).zn.cell 3
            have s5 : (V.drew).cell? ⟨R + 1, 4, none⟩ = some (.string ⟨z.low.txt.toArray⟩) := (hN).zn.cell 4
            dsimp only at s0 s1 s2
            go_region_held3 (fun W => W.cell? (a.add (k * 3)) = some (.bool false) ∧ W.cell? { block := (a.add (k * 3)).block, off := (a.add (k * 3)).off + 1 } = some (.int .i64 xi) ∧ W.cell? { block := (a.add (k * 3)).block, off := (a.add (k * 3)).off + 2 } = some (.string ⟨xt.toArray⟩) ∧ W.cell? ⟨R + 1, 2, none⟩ = some (.bool z.low.null) ∧ W.cell? ⟨R + 1, 3, none⟩ = some (.int .i64 z.low.num) ∧ W.cell? ⟨R + 1, 4, none⟩ = some (.string ⟨z.low.txt.toArray⟩)) (first | exact ⟨s0, s1, s2, s3, s4, s5⟩ | exact ⟨t0, t1, t2, t3, t4, t5⟩) (first | (go_at_call 71; (with_reducible refine (O1.out _).mono ?_); rintro e w4 ⟨rfl, f4⟩; have hN4 := hN.non f4; have hF4 := hF.then f4; obtain ⟨t0, t1, t2⟩ := At3.lit (hN4).el; have t3 : (w4).cell? ⟨R + 1, 2, none⟩ = some (.bool z.low.null) := (hN4).zn.cell 2; have t4 : (w4).cell? ⟨R + 1, 3, none⟩ = some (.int .i64 z.low.num) := (hN4).zn.cell 3; have t5 : (w4).cell? ⟨R + 1, 4, none⟩ = some (.string ⟨z.low.txt.toArray⟩) := (hN4).zn.cell 4; dsimp only at t0 t1 t2))
            clear s0 s1 s2 s3 s4 s5 t0 t1 t2 t3 t4 t5 f4 hN hF
            have hN := hN4
            have hF := hF4
            clear hN4 hF4
            clear O1
            by_cases hx : x < 0
            · have HZ0 : Hid (noteZ (decide (z.nulls = k)) z ⟨false, xi, xt⟩ = ⟨z.rows, z.nulls, ⟨false, xi, xt⟩, if (false || decide (0 < y)) = true then ⟨false, xi, xt⟩ else z.high⟩) := Lib.hid (by rw [HZ.out, decide_eq_true hx, decide_eq_false HFI.out]; rfl)
              have hd1 : decide (x < 0) = true := decide_eq_true hx
              clear HZ
              generalize w4 = V1 at *
              have hL : ROf (setLow V1 (R + 1) false xi xt) (a.add (k * 3)) R ⟨false, xi, xt⟩ ⟨z.rows, z.nulls, ⟨false, xi, xt⟩, z.high⟩ := hN.low had ⟨false, xi, xt⟩
              have FF : Fr Non w (setLow V1 (R + 1) false xi xt) := hF.fresh (setLow_fr V1 (R + 1) false xi xt) (fun q e => by have : q = R + 1 := e; have := HW.out; omega)
              replace hL := Lib.hid hL
              replace FF := Lib.hid FF
              obtain ⟨y0, y1, y2, y3, y4, y5, y6, y7⟩ := znB_froz hN.zn
              obtain ⟨a0, a1, a2, a3, a4, a5, a6, a7⟩ := znB_cells hN.zn
              obtain ⟨c0, c1, c2⟩ := hN.el.lit
              dsimp only at c0 c1 c2
              clear hN hF
              unfold setLow at hL FF
              go_wp2
              clear y0 y1 y2 y3 y4 y5 y6 y7 a0 a1 a2 a3 a4 a5 a6 a7 c0 c1 c2
              generalize ((V1.setCell ⟨R + 1, 2, none⟩ (.bool false)).setCell ⟨R + 1, 3, none⟩ (.int .i64 xi)).setCell ⟨R + 1, 4, none⟩ (.string ⟨xt.toArray⟩) = V at *
              have hN := hL.out
              have hF := FF.out
              clear hL FF
              replace hN := hN.drew
              replace hF := hF.drew
              obtain ⟨s0, s1, s2⟩ := At3.lit (hN).el
              have s3 : (V.drew).cell? ⟨R + 1, 5, none⟩ = some (.bool z.high.null) := (hN).zn.cell 5
              have s4 : (V.drew).cell? ⟨R + 1, 6, none⟩ = some (.int .i64 z.high.num) := (hN).zn.cell 6
              have s5 : (V.drew).cell? ⟨R + 1, 7, none⟩ = some (.string ⟨z.high.txt.toArray⟩) := (hN).zn.cell 7
              dsimp only at s0 s1 s2
              go_region_held3 (fun W => W.cell? (a.add (k * 3)) = some (.bool false) ∧ W.cell? { block := (a.add (k * 3)).block, off := (a.add (k * 3)).off + 1 } = some (.int .i64 xi) ∧ W.cell? { block := (a.add (k * 3)).block, off := (a.add (k * 3)).off + 2 } = some (.string ⟨xt.toArray⟩) ∧ W.cell? ⟨R + 1, 5, none⟩ = some (.bool z.high.null) ∧ W.cell? ⟨R + 1, 6, none⟩ = some (.int .i64 z.high.num) ∧ W.cell? ⟨R + 1, 7, none⟩ = some (.string ⟨z.high.txt.toArray⟩)) (first | exact ⟨s0, s1, s2, s3, s4, s5⟩ | exact ⟨t0, t1, t2, t3, t4, t5⟩) (first | (go_at_call 71; (with_reducible refine (O2.out _).mono ?_); rintro e w4 ⟨rfl, f4⟩; have hN4 := hN.non f4; have hF4 := hF.then f4; obtain ⟨t0, t1, t2⟩ := At3.lit (hN4).el; have t3 : (w4).cell? ⟨R + 1, 5, none⟩ = some (.bool z.high.null) := (hN4).zn.cell 5; have t4 : (w4).cell? ⟨R + 1, 6, none⟩ = some (.int .i64 z.high.num) := (hN4).zn.cell 6; have t5 : (w4).cell? ⟨R + 1, 7, none⟩ = some (.string ⟨z.high.txt.toArray⟩) := (hN4).zn.cell 7; dsimp only at t0 t1 t2))
              clear s0 s1 s2 s3 s4 s5 t0 t1 t2 t3 t4 t5 f4 hN hF
              have hN := hN4
              have hF := hF4
              clear hN4 hF4
              by_cases hy : 0 < y
              · have HZ1 : Hid (noteZ (decide (z.nulls = k)) z ⟨false, xi, xt⟩ = ⟨z.rows, z.nulls, ⟨false, xi, xt⟩, ⟨false, xi, xt⟩⟩) := Lib.hid (by rw [HZ0.out, decide_eq_true hy]; rfl)
                have HE : Hid (JInv l.length (nulC (l.take (k + 1))) (liveC (l.take (k + 1))) ⟨z.rows, z.nulls, ⟨false, xi, xt⟩, ⟨false, xi, xt⟩⟩ (decide (z.nulls = (k + 1 : Nat)))) := Lib.hid (by rw [HZ1.out] at HX; have := HX.out; rwa [show decide (z.nulls = ((k + 1 : Nat) : Int)) = false from decide_eq_false (by omega)])
                have hd2 : decide (0 < y) = true := decide_eq_true hy
                clear HZ0 HZ1 HX O2
                generalize w4 = V1 at *
                have hL : ROf (setHigh V1 (R + 1) false xi xt) (a.add (k * 3)) R ⟨false, xi, xt⟩ ⟨z.rows, z.nulls, ⟨false, xi, xt⟩, ⟨false, xi, xt⟩⟩ := hN.high had ⟨false, xi, xt⟩
                have FF : Fr Non w (setHigh V1 (R + 1) false xi xt) := hF.fresh (setHigh_fr V1 (R + 1) false xi xt) (fun q e => by have : q = R + 1 := e; have := HW.out; omega)
                replace hL := Lib.hid hL
                replace FF := Lib.hid FF
                obtain ⟨y0, y1, y2, y3, y4, y5, y6, y7⟩ := znB_froz hN.zn
                obtain ⟨a0, a1, a2, a3, a4, a5, a6, a7⟩ := znB_cells hN.zn
                obtain ⟨c0, c1, c2⟩ := hN.el.lit
                dsimp only at c0 c1 c2
                clear hN hF
                unfold setHigh at hL FF
                go_wp2
                go_roundw
                case rel => exact ⟨k + 1, _, by omega, by go_num, HE.out, hL.out.zn, hL.out.out, FF.out⟩
                case measure => simp [intOf]; omega
              · have HZ1 : Hid (noteZ (decide (z.nulls = k)) z ⟨false, xi, xt⟩ = ⟨z.rows, z.nulls, ⟨false, xi, xt⟩, z.high⟩) := Lib.hid (by rw [HZ0.out, decide_eq_false hy]; rfl)
                have HE : Hid (JInv l.length (nulC (l.take (k + 1))) (liveC (l.take (k + 1))) ⟨z.rows, z.nulls, ⟨false, xi, xt⟩, z.high⟩ (decide (z.nulls = (k + 1 : Nat)))) := Lib.hid (by rw [HZ1.out] at HX; have := HX.out; rwa [show decide (z.nulls = ((k + 1 : Nat) : Int)) = false from decide_eq_false (by omega)])
                have hd2 : decide (0 < y) = false := decide_eq_false hy
                clear HZ0 HZ1 HX O2
                replace hN := Lib.hid hN
                replace hF := Lib.hid hF
                go_wp2
                go_roundw
                case rel => exact ⟨k + 1, _, by omega, by go_num, HE.out, hN.out.zn, hN.out.out, hF.out⟩
                case measure => simp [intOf]; omega
            · have HZ0 : Hid (noteZ (decide (z.nulls = k)) z ⟨false, xi, xt⟩ = ⟨z.rows, z.nulls, z.low, if (false || decide (0 < y)) = true then ⟨false, xi, xt⟩ else z.high⟩) := Lib.hid (by rw [HZ.out, decide_eq_false hx, decide_eq_false HFI.out]; rfl)
              have hd1 : decide (x < 0) = false := decide_eq_false hx
              clear HZ
              generalize w4 = V at *
              go_wp2
              replace hN := hN.drew
              replace hF := hF.drew
              obtain ⟨s0, s1, s2⟩ := At3.lit (hN).el
              have s3 : (V.drew).cell? ⟨R + 1, 5, none⟩ = some (.bool z.high.null) := (hN).zn.cell 5
              have s4 : (V.drew).cell? ⟨R + 1, 6, none⟩ = some (.int .i64 z.high.num) := (hN).zn.cell 6
              have s5 : (V.drew).cell? ⟨R + 1, 7, none⟩ = some (.string ⟨z.high.txt.toArray⟩) := (hN).zn.cell 7
              dsimp only at s0 s1 s2
              go_region_held3 (fun W => W.cell? (a.add (k * 3)) = some (.bool false) ∧ W.cell? { block := (a.add (k * 3)).block, off := (a.add (k * 3)).off + 1 } = some (.int .i64 xi) ∧ W.cell? { block := (a.add (k * 3)).block, off := (a.add (k * 3)).off + 2 } = some (.string ⟨xt.toArray⟩) ∧ W.cell? ⟨R + 1, 5, none⟩ = some (.bool z.high.null) ∧ W.cell? ⟨R + 1, 6, none⟩ = some (.int .i64 z.high.num) ∧ W.cell? ⟨R + 1, 7, none⟩ = some (.string ⟨z.high.txt.toArray⟩)) (first | exact ⟨s0, s1, s2, s3, s4, s5⟩ | exact ⟨t0, t1, t2, t3, t4, t5⟩) (first | (go_at_call 71; (with_reducible refine (O2.out _).mono ?_); rintro e w4 ⟨rfl, f4⟩; have hN4 := hN.non f4; have hF4 := hF.then f4; obtain ⟨t0, t1, t2⟩ := At3.lit (hN4).el; have t3 : (w4).cell? ⟨R + 1, 5, none⟩ = some (.bool z.high.null) := (hN4).zn.cell 5; have t4 : (w4).cell? ⟨R + 1, 6, none⟩ = some (.int .i64 z.high.num) := (hN4).zn.cell 6; have t5 : (w4).cell? ⟨R + 1, 7, none⟩ = some (.string ⟨z.high.txt.toArray⟩) := (hN4).zn.cell 7; dsimp only at t0 t1 t2))
              clear s0 s1 s2 s3 s4 s5 t0 t1 t2 t3 t4 t5 f4 hN hF
              have hN := hN4
              have hF := hF4
              clear hN4 hF4
              by_cases hy : 0 < y
              · have HZ1 : Hid (noteZ (decide (z.nulls = k)) z ⟨false, xi, xt⟩ = ⟨z.rows, z.nulls, z.low, ⟨false, xi, xt⟩⟩) := Lib.hid (by rw [HZ0.out, decide_eq_true hy]; rfl)
                have HE : Hid (JInv l.length (nulC (l.take (k + 1))) (liveC (l.take (k + 1))) ⟨z.rows, z.nulls, z.low, ⟨false, xi, xt⟩⟩ (decide (z.nulls = (k + 1 : Nat)))) := Lib.hid (by rw [HZ1.out] at HX; have := HX.out; rwa [show decide (z.nulls = ((k + 1 : Nat) : Int)) = false from decide_eq_false (by omega)])
                have hd2 : decide (0 < y) = true := decide_eq_true hy
                clear HZ0 HZ1 HX O2
                generalize w4 = V1 at *
                have hL : ROf (setHigh V1 (R + 1) false xi xt) (a.add (k * 3)) R ⟨false, xi, xt⟩ ⟨z.rows, z.nulls, z.low, ⟨false, xi, xt⟩⟩ := hN.high had ⟨false, xi, xt⟩
                have FF : Fr Non w (setHigh V1 (R + 1) false xi xt) := hF.fresh (setHigh_fr V1 (R + 1) false xi xt) (fun q e => by have : q = R + 1 := e; have := HW.out; omega)
                replace hL := Lib.hid hL
                replace FF := Lib.hid FF
                obtain ⟨y0, y1, y2, y3, y4, y5, y6, y7⟩ := znB_froz hN.zn
                obtain ⟨a0, a1, a2, a3, a4, a5, a6, a7⟩ := znB_cells hN.zn
                obtain ⟨c0, c1, c2⟩ := hN.el.lit
                dsimp only at c0 c1 c2
                clear hN hF
                unfold setHigh at hL FF
                go_wp2
                go_roundw
                case rel => exact ⟨k + 1, _, by omega, by go_num, HE.out, hL.out.zn, hL.out.out, FF.out⟩
                case measure => simp [intOf]; omega
              · have HZ1 : Hid (noteZ (decide (z.nulls = k)) z ⟨false, xi, xt⟩ = ⟨z.rows, z.nulls, z.low, z.high⟩) := Lib.hid (by rw [HZ0.out, decide_eq_false hy]; rfl)
                have HE : Hid (JInv l.length (nulC (l.take (k + 1))) (liveC (l.take (k + 1))) ⟨z.rows, z.nulls, z.low, z.high⟩ (decide (z.nulls = (k + 1 : Nat)))) := Lib.hid (by rw [HZ1.out] at HX; have := HX.out; rwa [show decide (z.nulls = ((k + 1 : Nat) : Int)) = false from decide_eq_false (by omega)])
                have hd2 : decide (0 < y) = false := decide_eq_false hy
                clear HZ0 HZ1 HX O2
                replace hN := Lib.hid hN
                replace hF := Lib.hid hF
                go_wp2
                go_roundw
                case rel => exact ⟨k + 1, _, by omega, by go_num, HE.out, hN.out.zn, hN.out.out, hF.out⟩
                case measure => simp [intOf]; omega
        · replace HY := Lib.hid (HY.out rfl)
          clear HX
          have HE : Hid (JInv l.length (nulC (l.take (k + 1))) (liveC (l.take (k + 1))) ⟨z.rows, z.nulls + 1, z.low, z.high⟩ (decide (z.nulls + 1 = (k + 1 : Nat)))) := Lib.hid (by have := HY.out; rwa [show decide (z.nulls + 1 = ((k + 1 : Nat) : Int)) = decide (z.nulls = (k : Int)) by simp only [decide_eq_decide]; omega])
          obtain ⟨c0, c1, c2⟩ := hN.el.lit
          dsimp only at c0 c1 c2
          have z1 : wr.cell? ⟨R + 1, 1, none⟩ = some (.int .i64 z.nulls) := hN.zn.cell 1
          have y1 := hN.zn.frozen 1
          have f2 := (Fr.refl (One (R + 1)) wr).set1 1 (.int .i64 (z.nulls + 1))
          have hZ2 : Hid (ZnB _ (R + 1) ⟨z.rows, z.nulls + 1, z.low, z.high⟩) := Lib.hid (setNul_B hN.zn (z.nulls + 1))
          have hO2 : Hid (ZnB _ R noZn) := Lib.hid (hN.out.fr f2 (fun e => by have : R = R + 1 := e; omega))
          have hF2 := Lib.hid (hF.fresh f2 (fun q e => by have : q = R + 1 := e; have := HW.out; omega))
          clear HY hN f2 hF
          go_wp2
          go_roundw
          case rel => exact ⟨k + 1, _, by omega, by go_num, HE.out, hZ2.out, hO2.out, hF2.out⟩
          case measure => simp [intOf]; omega
    · obtain rfl : k = l.length := by omega
      rw [List.take_length] at hJ
      have HE := Lib.hid (jinv_end hJ)
      obtain ⟨y0, y1, y2, y3, y4, y5, y6, y7⟩ := znB_froz hO
      obtain ⟨b0, b1, b2, b3, b4, b5, b6, b7⟩ := znB_cells hO
      obtain ⟨a0, a1, a2, a3, a4, a5, a6, a7⟩ := znB_cells hZ
      have HA := Lib.hid (setZn_B hO z)
      have HF := Lib.hid (hF.fresh (setZn_fr wr R z) (fun q e => by have : q = R := e; have := HW.out; omega))
      clear hJ hZ hO hF
      go_wp2
      exact bodyPost_ret (v := znV z) (ret_zn (p := 2) rfl _ _ R z rfl HA.out) rfl ⟨z, rfl, HE.out, HF.out⟩
end Go.Proofs.YtheefloegbkflaaGreatDoor


namespace Go.Proofs.YtheefloegbkflaaGreatDoor
set_option linter.unusedVariables false
set_option linter.unusedSimpArgs false
set_option maxRecDepth 100000
open Go.RowKit


theorem rzoneF_any (v : Value) (l : List Cl) (w : World) (hv : Cs w v l) (hvl : ∀ q, v.ownBlock = some q → q < w.heap.size) (hl : l.length ≤ 1000000) :
    Calls Tryz.prog 38 #[v] w fun e w' => e = .returned (znV (zoneF l)) ∧ Fr Non w w' :=
  (rzof_any v l w hv hvl hl).mono fun e w' ⟨z, he, hz, hf⟩ => ⟨by rw [he, hz.eqF], hf⟩

end Go.Proofs.YtheefloegbkflaaGreatDoor


namespace Go.Proofs.YtheefloegbkflaaGreatDoor
set_option linter.unusedVariables false
set_option linter.unusedSimpArgs false
set_option maxRecDepth 100000
open Go.RowKit

theorem snum13_any (z : Int) (w : World) : Calls Tryz.prog 10 #[.int .i64 z] w fun e w' => e = .returned (.int .i64 z) ∧ w = w' := by
  go_enter Tryz.func10, Tryz.ntmps10
  go_wp2
  go_ret
  exact ⟨rfl, rfl⟩

set_option maxHeartbeats 2000000 in
theorem rrows9_any (v1 v2 : Value) (a b : List (List Cl)) (w : World) (h1 : Rs w v1 a) (h2 : Rs w v2 b) (hl1 : a.length ≤ 1000000000) (hl2 : b.length ≤ 1000000000) (ha : ∀ r ∈ a, r.length ≤ 9223372036854775807) (hb : ∀ r ∈ b, r.length ≤ 9223372036854775807) :
    Calls Tryz.prog 13 #[v1, v2] w fun e w' => e = .returned (.bool (decide (a = b))) ∧ Fr Non w w' := by
  obtain ⟨A1, c1, rfl⟩ := h1.shape
  obtain ⟨A2, c2, rfl⟩ := h2.shape
  have H1 := Lib.hid h1
  have H2 := Lib.hid h2
  have HA := Lib.hid ha
  have HB := Lib.hid hb
  clear h1 h2 ha hb
  by_cases hlen : a.length = b.length
  · have hb : ((a.length : Int) != b.length) = false := by rw [hlen]; simp
    have hle : a.length ≤ b.length := by omega
    have hge : b.length ≤ a.length := by omega
    clear hlen
    go_enter Tryz.func13, Tryz.ntmps13
    go_wp2
    go_loopw [5] (fun i wr => ∃ k : Nat, k ≤ a.length ∧ i = .int .i64 k ∧ Hid (a.take k = b.take k) ∧ Fr Non w wr) (fun i _ => a.length - (intOf i).toNat)
    case atStart => exact ⟨0, Nat.zero_le _, rfl, Lib.hid rfl, Fr.refl _ _⟩
    case round =>
      clear hb
      obtain ⟨k, hk, rfl, HT, hF⟩ := hrel
      by_cases hlt : k < a.length
      · have hlt2 : k < b.length := by omega
        have hFd : Fr Non w wr.drew := hF.drew
        obtain ⟨a1, A1', c1', rfl, _, q1, hc1⟩ := (H1.out.non hFd).el k hlt
        obtain ⟨a2, A2', c2', rfl, _, q2, hc2⟩ := (H2.out.non hFd).el k hlt2
        have CA := call_any _ _ a[k] b[k] wr.drew hc1 hc2 (HA.out _ (List.getElem_mem hlt)) (HB.out _ (List.getElem_mem hlt2))
        have HFd := Lib.hid hFd
        by_cases he : a[k] = b[k]
        · have HE2 := Lib.hid (take_eq_succ hlt hlt2 HT.out he)
          rw [decide_eq_true he] at CA
          replace CA := Lib.hid CA
          clear hc1 hc2 hFd hF HT he
          generalize a[k] = x at *
          generalize b[k] = y at *
          go_wp2
          go_region_held3 (fun W => W.cell? (a1.add k) = some (.slice A1' x.length c1') ∧ W.cell? (a2.add k) = some (.slice A2' y.length c2')) (first | exact ⟨q1, q2⟩ | exact ⟨q3, q4⟩ | fail) (first | (go_at_call 21; (with_reducible refine CA.out.mono ?_); rintro e w3 ⟨rfl, f3⟩; have q3 := (f3.cell (World.block_lt_of_cell? _ _ q1) (fun e => e)).trans q1; have q4 := (f3.cell (World.block_lt_of_cell? _ _ q2) (fun e => e)).trans q2))
          have F3 := HFd.out.trans f3
          go_wp2
          go_roundw
          case rel => exact ⟨k + 1, by omega, by go_num, HE2, F3⟩
          case measure => simp [intOf]; omega
        · have HN2 : Hid (decide (a = b) = false) := Lib.hid (decide_eq_false (fun h => take_ne hlt hlt2 he (by rw [h])))
          rw [decide_eq_false he] at CA
          replace CA := Lib.hid CA
          clear hc1 hc2 hFd hF HT he
          generalize a[k] = x at *
          generalize b[k] = y at *
          go_wp2
          go_region_held3 (fun W => W.cell? (a1.add k) = some (.slice A1' x.length c1') ∧ W.cell? (a2.add k) = some (.slice A2' y.length c2')) (first | exact ⟨q1, q2⟩ | exact ⟨q3, q4⟩ | fail) (first | (go_at_call 21; (with_reducible refine CA.out.mono ?_); rintro e w3 ⟨rfl, f3⟩; have q3 := (f3.cell (World.block_lt_of_cell? _ _ q1) (fun e => e)).trans q1; have q4 := (f3.cell (World.block_lt_of_cell? _ _ q2) (fun e => e)).trans q2))
          have F3 := HFd.out.trans f3
          go_wp2
          go_ret
          rw [HN2.out]
          exact ⟨rfl, F3⟩
      · have hab : a = b := by
          have h := HT.out
          rwa [List.take_of_length_le (by omega), List.take_of_length_le (by omega)] at h
        have HD : Hid (decide (a = b) = true) := Lib.hid (decide_eq_true hab)
        clear HT hab
        go_wp2
        go_ret
        rw [HD.out]
        exact ⟨rfl, hF⟩
  · have hb : ((a.length : Int) != b.length) = true := by rw [bne_iff_ne]; omega
    have HD : Hid (decide (a = b) = false) := Lib.hid (decide_eq_false (fun h => hlen (by rw [h])))
    clear hlen
    go_enter Tryz.func13, Tryz.ntmps13
    go_wp2
    go_ret
    rw [HD.out]
    exact ⟨rfl, Fr.refl _ _⟩

/-! ### What is built -/
theorem segE_zero {cols : List Co} {rows : List (List Cl)} (h : segE cols rows = 0) : chkC cols = 0 ∧ 1 ≤ rows.length ∧ rows.length ≤ 200 ∧ rows.all (rowB cols) = true := by
  unfold segE at h
  split at h
  · cases h
  · rename_i h1
    split at h
    · cases h
    · split at h
      · rename_i h2 h3
        refine ⟨?_, ?_, by omega, h3⟩
        · exact Classical.byContradiction fun e => h1 (.inl e)
        · have : ¬ rows.length = 0 := fun e => h1 (.inr e)
          omega
      · cases h
theorem seg_all {cols : List Co} {rows : List (List Cl)} (h : segE cols rows = 0) (hi : ∀ r ∈ rows, ∀ c ∈ r, I64 c.num) : (segF rows.length (kls cols rows)).length ≤ 63000 ∧ rowsR cols (segF rows.length (kls cols rows)) (footF rows.length (kls cols rows)).length = (0, rows) := by
  obtain ⟨h1, h2, h3, h4⟩ := segE_zero h
  exact ⟨seg_len (kls_ok h1 h4 hi) h3 (by rw [kls_length]; exact (chk_is h1).2.2.2), rowsR_own h1 h4 hi h3 h2⟩
theorem segE_ex : segE [⟨[97], 1, false⟩] [[⟨false, 5, []⟩]] = 0 := by
  unfold segE
  rw [if_neg (by rintro (h | h); exact h chkC_a; cases h), if_neg (by decide), if_pos (by decide +kernel)]

set_option maxHeartbeats 4000000 in
theorem slive13_any (w : World) (ht : Tab w) : Calls Tryz.prog 7 #[] w fun e w' => e = .returned (.bool true) ∧ Fr Non w w' := by
  have f1 := (Fr.refl Non w).alloc (.cells #[.string ⟨#[97]⟩, .int .i64 1, .bool false] 69)
  have f2 := f1.alloc (.cells #[.bool false, .int .i64 5, .string ⟨#[]⟩] 54)
  have f3 := f2.alloc (.cells #[.slice (some ⟨w.heap.size + 1, 0, none⟩) 1 1] 59)
  have k1 : Ks (((w.alloc (.cells #[.string ⟨#[97]⟩, .int .i64 1, .bool false] 69)).alloc (.cells #[.bool false, .int .i64 5, .string ⟨#[]⟩] 54)).alloc (.cells #[.slice (some ⟨w.heap.size + 1, 0, none⟩) 1 1] 59)) (.slice (some ⟨w.heap.size, 0, none⟩) 1 1) [⟨[97], 1, false⟩] :=
    ((((no_lit (E := 69) fd_co w 0 _ [⟨[97], 1, false⟩] #[.string ⟨#[97]⟩, .int .i64 1, .bool false] rfl rfl (Nat.zero_le _) (by decide)).alloc _).alloc _).ns fd_co)
  have c1 := (oc_lit (w.alloc (.cells #[.string ⟨#[97]⟩, .int .i64 1, .bool false] 69)) 0 (w.heap.size + 1) [⟨false, 5, []⟩] #[.bool false, .int .i64 5, .string ⟨#[]⟩] rfl (by simp) (Nat.zero_le _) (by decide)).alloc (.cells #[.slice (some ⟨w.heap.size + 1, 0, none⟩) 1 1] 59)
  have o1 := ow_lit (f := slV) (E := 59) ((w.alloc (.cells #[.string ⟨#[97]⟩, .int .i64 1, .bool false] 69)).alloc (.cells #[.bool false, .int .i64 5, .string ⟨#[]⟩] 54)) 0 (w.heap.size + 2) [⟨some ⟨w.heap.size + 1, 0, none⟩, 1, 1⟩] #[.slice (some ⟨w.heap.size + 1, 0, none⟩) 1 1] rfl (by simp) (Nat.zero_le _) (by unfold maxLen; simp)
  have r1 : Ro (((w.alloc (.cells #[.string ⟨#[97]⟩, .int .i64 1, .bool false] 69)).alloc (.cells #[.bool false, .int .i64 5, .string ⟨#[]⟩] 54)).alloc (.cells #[.slice (some ⟨w.heap.size + 1, 0, none⟩) 1 1] 59)) 0 (.slice (some ⟨w.heap.size + 2, 0, none⟩) 1 1) [[⟨false, 5, []⟩]] :=
    ⟨_, rfl, o1, fun i a b => by
      obtain rfl : i = 0 := by simpa using a
      exact c1⟩
  have hi : ∀ r ∈ ([[⟨false, 5, []⟩]] : List (List Cl)), ∀ c ∈ r, I64 c.num := by
    intro r hr c hc
    simp at hr
    subst hr
    simp at hc
    subst hc
    unfold I64; decide
  have HBu := Lib.hid (build_any _ _ [⟨[97], 1, false⟩] [[⟨false, 5, []⟩]] _ k1 r1.rs (ht.non f3) (by decide) (by intro c hc; simp at hc; subst hc; decide) (by decide) hi)
  have hs := seg_all segE_ex hi
  have HK := Lib.hid k1
  have HF3 := Lib.hid f3
  have HT := Lib.hid ht
  have HRo := Lib.hid (fun W (hf : Fr Non w W) (h1 : Ks W (.slice (some ⟨w.heap.size, 0, none⟩) 1 1) [⟨[97], 1, false⟩]) (hlt : w.heap.size < W.heap.size) (u : Value) (hu : Bs W u (segF 1 (kls [⟨[97], 1, false⟩] [[⟨false, 5, []⟩]]))) => srows_any _ u [⟨[97], 1, false⟩] _ ((footF 1 (kls [⟨[97], 1, false⟩] [[⟨false, 5, []⟩]])).length : Nat) W h1 hu (ht.non hf) (fun q hq => by have h2 : w.heap.size = q := (by simpa [Value.ownBlock] using hq); omega) (by decide) (by intro c hc; simp at hc; subst hc; decide) (Nat.le_trans (show (segF 1 (kls [⟨[97], 1, false⟩] [[⟨false, 5, []⟩]])).length ≤ 63000 from hs.1) (by decide)))
  have HRR := Lib.hid hs.2
  unfold BldR at HBu
  clear f1 f2 f3 k1 c1 o1 r1 hs
  go_enter Tryz.func7, Tryz.ntmps7
  go_wp2_with fail
  refine HBu.out.mono ?_
  rintro e w4 ⟨hB, f4⟩
  rcases hB with ⟨_, u4, rfl, ho4⟩ | ⟨hne, _⟩
  · have HF4 := Lib.hid (HF3.out.trans f4)
    have hlt4 : w.heap.size < w4.heap.size := by have h := f4.size; simp at h; omega
    have HRo4 := HRo.out w4 HF4.out (HK.out.non f4) hlt4 u4 ho4.bs
    obtain ⟨A4, n4, c4, rfl⟩ : ∃ A n c, u4 = Value.slice A n c := by obtain ⟨A, c, h⟩ := ho4.bs.shape; exact ⟨A, _, c, h⟩
    have HRR' := HRR.out
    simp only [List.length_cons, List.length_nil, Nat.zero_add] at HRR'
    rw [HRR'] at HRo4
    unfold RowR at HRo4
    dsimp only at HRo4
    have HRo5 := Lib.hid HRo4
    clear HBu f4 ho4 HRo HRo4 HRR'
    go_wp2_with fail
    refine HRo5.out.mono ?_
    rintro e w5 ⟨⟨u5, rfl, ho5⟩, f5⟩
    have HF5 := Lib.hid (HF4.out.trans f5)
    obtain ⟨A5, c5, rfl⟩ : ∃ A c, u5 = .slice A 1 c := ho5.shape
    obtain ⟨a5, A6, c6, rfl, -, q1', hc1'⟩ := ho5.rs.el 0 (by decide)
    have q1 : w5.cell? (a5.add 0) = some (.slice A6 1 c6) := q1'
    have hc1 : Cs w5 (.slice A6 1 c6) [⟨false, 5, []⟩] := hc1'
    obtain ⟨a6, rfl, -, -, hel⟩ := hc1.addr (by decide)
    obtain ⟨p0, p1, p2⟩ := (hel 0 (by decide)).lit
    simp only [List.getElem_cons_zero, Nat.zero_mul] at p0 p1 p2
    have q1b := q1
    rw [add0 a5] at q1b
    have p1b := p1
    rw [add0 a6] at p1b
    clear q1' hc1' q1 p0 p1 p2
    have HN := Lib.hid (fun z W => snum13_any z W)
    clear HRo5 f5 ho5 hc1 hel
    go_wp2_with fail
    refine (HN.out _ _).mono ?_
    rintro e w6 ⟨rfl, rfl⟩
    go_wp2_with fail
    refine (HN.out _ _).mono ?_
    rintro e w7 ⟨rfl, rfl⟩
    go_wp2
    go_ret
    exact ⟨rfl, HF5.out⟩
  · exact absurd segE_ex hne
end Go.Proofs.YtheefloegbkflaaGreatDoor


namespace Go.Proofs.YtheefloegbkflaaGreatDoor
set_option linter.unusedVariables false
set_option linter.unusedSimpArgs false
set_option maxRecDepth 100000
open Go.RowKit

theorem SAt.new {w : World} {v : Value} {l : List UInt8} (h : Bs w v l) (hl : ∀ k, v.ownBlock = some k → k < w.heap.size) :
    SAt (w.alloc (.cells #[v, .bool false] 88)) w.heap.size (One w.heap.size) l false :=
  ⟨v, Blk.new w _ _, h.non ((Fr.refl _ _).alloc _), (fun k hk e => by have := hl k hk; have e' : k = w.heap.size := e; omega), rfl, fun h => by cases h⟩

theorem Own.drewN {w : World} {B : Nat} {v : Value} {l : List UInt8} (h : Own w B v l) (n : Nat) : Own (w.drewN n) B v l := h

theorem num4_int (a b c d : UInt8) : ((num4 a b c d : Nat) : Int) = (a.toNat : Int) + 256 * b.toNat + 65536 * c.toNat + 16777216 * d.toNat := by
  unfold num4; omega

set_option maxHeartbeats 1000000 in
theorem rgetO_any (v : Value) (l : List UInt8) (w : World) (hv : Bs w v l) (hvl : ∀ k, v.ownBlock = some k → k < w.heap.size) (hl : l.length < 1000000000) :
    Calls Tryz.prog 44 #[v] w fun e w' => ∃ u, e = .returned (.tuple #[u, .int .i64 (gN l), .int .i64 (gE l)]) ∧ Own w' w.heap.size u (gB l) ∧ Fr Non w w' := by
  have HB := Lib.hid hv
  have HS0 := Lib.hid (SAt.new hv hvl)
  have HA := Lib.hid (fun (W : World) o => (Fr.refl Non W).alloc o)
  obtain ⟨A, c, rfl, hlc, _⟩ := hv
  clear hvl
  have HRB := Lib.hid (ref_bad l)
  have hml : (mostR l 1048576).length ≤ l.length := by
    unfold mostR; split
    · exact rest_le l
    · simp
  have hcl : ∀ q : List UInt8, q.length ≤ l.length → (cutR q 4).length ≤ l.length := by
    intro q hq; unfold cutR; split
    · rw [List.length_drop]; omega
    · simp
  have HM := Lib.hid (show (mostR l 1048576).length < 1000000000 by omega)
  have HC := Lib.hid (show (cutR (mostR l 1048576) 4).length < 1000000000 by have := hcl _ hml; omega)
  clear hml hcl
  go_enter Tryz.func44, Tryz.ntmps44
  go_wp2_with fail
  refine (rbelow_any w.heap.size (One w.heap.size) l false 1048577 _ HS0.out hl (by omega)).mono ?_
  rintro e w1 ⟨rfl, hs1, hf1⟩
  rw [show (1048577 : Int) - 1 = 1048576 by omega] at hs1 ⊢
  have h1s := hf1.size
  simp at h1s
  have hg1 : ∀ k, One w.heap.size k → w.heap.size ≤ k := fun k e => by have e' : k = w.heap.size := e; omega
  have hF1 : Fr Non w w1 := (HA.out _ _).fresh hf1 hg1
  clear hf1
  go_wp2_with fail
  refine (rtake_any w.heap.size (One w.heap.size) _ _ 4 w1 hs1 HM.out).mono ?_
  rintro e w2 ⟨v2, rfl, hb2, hn2, hs2, hf2⟩
  have h2s := hf2.size
  have hF2 : Fr Non w w2 := hF1.fresh hf2 hg1
  clear hf2 hs1
  go_wp2_with fail
  refine (rtakeO_any w.heap.size (One w.heap.size) _ _ _ w2 hs2 HC.out).mono ?_
  rintro e w3 ⟨v3, rfl, hb3, hs3, hf3⟩
  rw [HRB.out] at hs3
  have hb2' : Bs w3 v2 _ := hb2.fr hf3 (fun k hk e => by have := hn2 k hk; have e' : k = w.heap.size := e; omega)
  have hF3 : Fr Non w w3 := hF2.fresh hf3 hg1
  have HF3 := Lib.hid hF3
  have hb3 := hb3.mono (B' := w.heap.size) (by omega)
  clear hf3 hs2 hb2 hn2 hF1 hF2 hF3
  obtain ⟨A3, c3, k0, k1, _, _, _, _, _, _⟩ := hs3.cells
  by_cases hf : fits l = true
  · obtain ⟨r1, r2, r3, r4, r5, r6⟩ := ref_fit hf
    rw [r1] at hb2'
    rw [r4] at hb3
    rw [hf] at k1
    simp at k1
    have HGE := Lib.hid (show gE l = (if sumOk l then 0 else 13) ∧ gB l = (if sumOk l then bodyF l else []) ∧ gN l = (if sumOk l then hS l + 4 + hN l else 0) by
        unfold gE gB gN; rw [hf]; exact ⟨rfl, rfl, rfl⟩)
    have HSO : Hid (sumOk l = ((l.drop (hS l)).take 4 == sum4 (sumOf 0 (bodyF l)))) := Lib.hid rfl
    have hbd := of_decide_eq_true (show decide (hS l ≠ 0 ∧ hS l + 4 + hN l ≤ l.length) = true from hf)
    have hk0 : (cutR (cutR (mostR l 1048576) 4) (mostV l 1048576)).length = l.length - (hS l + 4 + hN l) := by rw [r5, List.length_drop]
    rw [hk0] at k0
    have HBL := Lib.hid (show (bodyF l).length ≤ 9223372036854775807 by unfold bodyF; rw [List.length_take]; have := hN_le l; omega)
    clear r1 r3 r4 r5 r6 hf hk0 HRB HM HC HS0
    generalize (l.drop (hS l)).take 4 = q at *
    match q, r2 with
    | [q0, q1, q2, q3], _ =>
      have HB3 := Lib.hid hb3
      have HB2 := Lib.hid hb2'
      obtain ⟨A2, c2, rfl, hc2, hnil, hcell⟩ := hb2'
      obtain ⟨A4, c4, rfl⟩ := hb3.bs.shape
      clear hb3
      cases A2 with
      | none => have := hnil rfl; simp at hc2; omega
      | some ad =>
        have e0 := hcell ad rfl 0 (by simp)
        have e1 := hcell ad rfl 1 (by simp)
        have e2 := hcell ad rfl 2 (by simp)
        have e3 := hcell ad rfl 3 (by simp)
        simp only [bv, Addr.add_zero', Addr.add_succ', List.getElem_cons_zero, List.getElem_cons_succ, Nat.zero_add, Nat.reduceAdd] at e0 e1 e2 e3
        have b0 : q0.toNat < 256 := q0.toNat_lt
        have b1 : q1.toNat < 256 := q1.toNat_lt
        have b2 : q2.toNat < 256 := q2.toNat_lt
        have b3 : q3.toNat < 256 := q3.toNat_lt
        have HNI := Lib.hid (num4_int q0 q1 q2 q3)
        clear hcell hnil hc2
        generalize q0.toNat = n0 at *
        generalize q1.toNat = n1 at *
        generalize q2.toNat = n2 at *
        generalize q3.toNat = n3 at *
        have v0 : IntKind.u32.wrap (n0 : Int) = n0 := IntWalk.u32_in _ ⟨by omega, by omega⟩
        have v1 : IntKind.u32.wrap (n1 : Int) = n1 := IntWalk.u32_in _ ⟨by omega, by omega⟩
        have v2 : IntKind.u32.wrap (n2 : Int) = n2 := IntWalk.u32_in _ ⟨by omega, by omega⟩
        have v3 : IntKind.u32.wrap (n3 : Int) = n3 := IntWalk.u32_in _ ⟨by omega, by omega⟩
        have w1' : IntKind.u32.wrap (256 * (n1 : Int)) = 256 * n1 := IntWalk.u32_in _ ⟨by omega, by omega⟩
        have w2' : IntKind.u32.wrap (65536 * (n2 : Int)) = 65536 * n2 := IntWalk.u32_in _ ⟨by omega, by omega⟩
        have w3' : IntKind.u32.wrap (16777216 * (n3 : Int)) = 16777216 * n3 := IntWalk.u32_in _ ⟨by omega, by omega⟩
        have w4' : IntKind.u32.wrap ((n0 : Int) + 256 * n1) = n0 + 256 * n1 := IntWalk.u32_in _ ⟨by omega, by omega⟩
        have w5' : IntKind.u32.wrap ((n0 : Int) + 256 * n1 + 65536 * n2) = n0 + 256 * n1 + 65536 * n2 := IntWalk.u32_in _ ⟨by omega, by omega⟩
        have w6' : IntKind.u32.wrap ((n0 : Int) + 256 * n1 + 65536 * n2 + 16777216 * n3) = n0 + 256 * n1 + 65536 * n2 + 16777216 * n3 := IntWalk.u32_in _ ⟨by omega, by omega⟩
        go_wp2_with fail
        go_quiet (fail)
        rw [← HNI.out]
        have HX := Lib.hid (num4_is q0 q1 q2 q3 (sumOf 0 (bodyF l)) (sumOf_lt _ (by decide)))
        clear e0 e1 e2 e3 v0 v1 v2 v3 w1' w2' w3' w4' w5' w6' HNI
        generalize num4 q0 q1 q2 q3 = p at *
        go_wp2_with fail
        refine (rof_any _ (bodyF l) _ (HB3.out.bs.drewN _) HBL.out).mono ?_
        rintro e w5 ⟨rfl, rfl⟩
        cases hq : sumOk l
        · have hpn : ¬ (p = sumOf 0 (bodyF l)) := by
            intro h
            have h2 := HX.out.1 h
            have h3 := HSO.out
            rw [hq, h2] at h3
            simp at h3
          have hne : (((p : Nat) : Int) != ((sumOf 0 (bodyF l) : Nat) : Int)) = true := by
            rw [bne_iff_ne]; omega
          clear hpn
          go_wp2_with fail
          go_ret3
          rw [HGE.out.1, HGE.out.2.1, HGE.out.2.2, hq]
          exact ⟨_, rfl, own_nil _ _, HF3.out.drewN _⟩
        · have hpn : p = sumOf 0 (bodyF l) := by
            apply HX.out.2
            have h3 := HSO.out
            rw [hq] at h3
            exact (beq_iff_eq.1 h3.symm)
          have hne : (((p : Nat) : Int) != ((sumOf 0 (bodyF l) : Nat) : Int)) = false := by
            rw [bne_eq_false_iff_eq]; omega
          have HP := Lib.hid hpn
          clear hpn
          generalize sumOf 0 (bodyF l) = sb at *
          generalize hsz : hS l + 4 + hN l = sz at *
          have HZ := Lib.hid hsz
          clear hsz
          have hsz2 : sz ≤ l.length := hbd.2
          have hsub : IntKind.i64.wrap ((l.length : Int) - ((l.length - sz : Nat) : Int)) = sz := by rw [IntWalk.i64_in _ ⟨by omega, by omega⟩]; omega
          go_wp2_with fail
          go_quiet (fail)
          go_wp2
          go_ret3
          rw [HGE.out.1, HGE.out.2.1, HGE.out.2.2, hq]
          refine ⟨.slice A4 (bodyF l).length c4, ?_, (HB3.out.drewN _).drewN _, (HF3.out.drewN _).drewN _⟩
          exact ret_three (by simp) (by simp)
  · have hf' : fits l = false := by simpa using hf
    rw [hf'] at k1
    have HF2 := Lib.hid (show gE l = 2 ∧ gB l = [] ∧ gN l = 0 by unfold gE gB gN; rw [hf']; exact ⟨rfl, rfl, rfl⟩)
    clear hf hf' HRB HM HC HS0
    simp at k1
    go_wp2_with fail
    go_ret3
    rw [HF2.out.1, HF2.out.2.1, HF2.out.2.2]
    exact ⟨_, rfl, own_nil _ _, HF3.out⟩

end Go.Proofs.YtheefloegbkflaaGreatDoor


namespace Go.Proofs.YtheefloegbkflaaGreatDoor
set_option linter.unusedVariables false
set_option linter.unusedSimpArgs false
set_option maxRecDepth 100000
open Go.RowKit

theorem SAt.ltS {w : World} {g : Nat} {S : Nat → Prop} {l : List UInt8} {bad : Bool} (h : SAt w g S l bad) : g < w.heap.size := by
  obtain ⟨v, h1, _⟩ := h; exact h1.lt
theorem SAt.nilS {w : World} {g : Nat} {S : Nat → Prop} {l : List UInt8} {bad : Bool} (h : SAt w g S l bad) : bad = true → l = [] := by
  obtain ⟨_, _, _, _, _, h⟩ := h; exact h
abbrev RfB (w : World) (g : Nat) (R : Int) (u : Value) : Prop := Blk w g 43 #[.int .i64 R, u]
theorem load_feet {w : World} {g : Nat} {cs : Array Value} (hg : Blk w g 43 cs) (h2 : cs.size = 2) : (loadVar 43 ⟨g, 0, none⟩).run Tryz.prog w = .ok (.agg cs) w :=
  run_loadVar_row w g 43 43 cs (0, 0) _ hg Tryz.underlying43 rfl (by rw [h2]; kernel_rfl)
theorem ch_ne_rfoot : 58 ≠ 43 := by decide
/-- the zone's cells stored into a chunk -/
def st2c (w : World) (g : Nat) (r n : Int) : World := (w.setCell ⟨g, 2, none⟩ (.int .i64 r)).setCell ⟨g, 3, none⟩ (.int .i64 n)
def st3l (w : World) (g : Nat) (c : Cl) : World := ((w.setCell ⟨g, 4, none⟩ (.bool c.null)).setCell ⟨g, 5, none⟩ (.int .i64 c.num)).setCell ⟨g, 6, none⟩ (.string ⟨c.txt.toArray⟩)
def st3h (w : World) (g : Nat) (c : Cl) : World := ((w.setCell ⟨g, 7, none⟩ (.bool c.null)).setCell ⟨g, 8, none⟩ (.int .i64 c.num)).setCell ⟨g, 9, none⟩ (.string ⟨c.txt.toArray⟩)
theorem st2c_B {w : World} {g : Nat} {t : TypeId} {a0 a1 a2 a3 a4 a5 a6 a7 a8 a9 : Value} (h : Blk w g t #[a0, a1, a2, a3, a4, a5, a6, a7, a8, a9]) (r n : Int) : Blk (st2c w g r n) g t #[a0, a1, .int .i64 r, .int .i64 n, a4, a5, a6, a7, a8, a9] := (h.set 2 _).set 3 _
theorem st3l_B {w : World} {g : Nat} {t : TypeId} {a0 a1 a2 a3 a4 a5 a6 a7 a8 a9 : Value} (h : Blk w g t #[a0, a1, a2, a3, a4, a5, a6, a7, a8, a9]) (c : Cl) : Blk (st3l w g c) g t #[a0, a1, a2, a3, .bool c.null, .int .i64 c.num, .string ⟨c.txt.toArray⟩, a7, a8, a9] := ((h.set 4 _).set 5 _).set 6 _
theorem st3h_B {w : World} {g : Nat} {t : TypeId} {a0 a1 a2 a3 a4 a5 a6 a7 a8 a9 : Value} (h : Blk w g t #[a0, a1, a2, a3, a4, a5, a6, a7, a8, a9]) (c : Cl) : Blk (st3h w g c) g t #[a0, a1, a2, a3, a4, a5, a6, .bool c.null, .int .i64 c.num, .string ⟨c.txt.toArray⟩] := ((h.set 7 _).set 8 _).set 9 _
def setZc (w : World) (g : Nat) (z : Zn) : World := st3h (st3l (st2c w g z.rows z.nulls) g z.low) g z.high
theorem zc_one (z : Zn) : (#[.int .i64 z.rows, .int .i64 z.nulls, .bool z.low.null, .int .i64 z.low.num, .string ⟨z.low.txt.toArray⟩, .bool z.high.null, .int .i64 z.high.num, .string ⟨z.high.txt.toArray⟩] : Array Value).all (·.oneCell') = true :=
  all_oneCell_toArray (by intro v hv; simp at hv; rcases hv with rfl | rfl | rfl | rfl | rfl | rfl | rfl | rfl <;> rfl)
theorem zc_size : (Tryz.prog.info? 56).map (·.size) = some 8 := by kernel_rfl
theorem setZc_fr (w : World) (g : Nat) (z : Zn) : Fr (One g) w (setZc w g z) := ((((((((Fr.refl (One g) w).set1 2 _).set1 3 _).set1 4 _).set1 5 _).set1 6 _).set1 7 _).set1 8 _).set1 9 _
theorem there_ck {w : World} {g : Nat} {t : TypeId} {a0 a1 a2 a3 a4 a5 a6 a7 a8 a9 : Value} (h : Blk w g t #[a0, a1, a2, a3, a4, a5, a6, a7, a8, a9]) : w.there g 2 8 := fun j hj => by
  refine ⟨?_, h.frozen _⟩
  rw [h.cell]
  have : 2 + j < 10 := by omega
  simp [this]
theorem setZc_B {w : World} {g : Nat} {t : TypeId} {a0 a1 a2 a3 a4 a5 a6 a7 a8 a9 : Value} (h : Blk w g t #[a0, a1, a2, a3, a4, a5, a6, a7, a8, a9]) (z : Zn) : Blk (setZc w g z) g t #[a0, a1, .int .i64 z.rows, .int .i64 z.nulls, .bool z.low.null, .int .i64 z.low.num, .string ⟨z.low.txt.toArray⟩, .bool z.high.null, .int .i64 z.high.num, .string ⟨z.high.txt.toArray⟩] :=
  st3h_B (st3l_B (st2c_B h z.rows z.nulls) z.low) z.high

theorem tkZ_sm (ty : Int) (l : List UInt8) : (tkZ ty l).2.1.length ≤ l.length := by
  unfold tkZ
  split
  · unfold rdZ
    have h1 := mostR_sm l 4096
    have h2 := mostR_sm (mostR l 4096) 4096
    split
    · have h3 := tkC_sm ty (mostR (mostR l 4096) 4096)
      have h4 := tkC_sm ty (tkC ty (mostR (mostR l 4096) 4096)).2.1
      dsimp only
      omega
    · dsimp only; omega
  · simp
theorem rdSay_sm (R ty : Int) (l : List UInt8) : (rdSay R ty l).1.length ≤ l.length := by
  have h1 := tkZ_sm ty (mostR l 1048576)
  have h2 := mostR_sm l 1048576
  unfold rdSay
  split
  · omega
  · simp
theorem gB_len (l : List UInt8) : (gB l).length ≤ l.length := by
  unfold gB bodyF
  split
  · rw [List.length_take, List.length_drop]; omega
  · simp
theorem readF_fail {cols : List Co} {b : List UInt8} {size : Int} (hc : chkC cols = 0) (hg : gE b = 0) (h : (rdF cols b).2.2.2 = true) : readF cols b size = (2, 0, []) := by
  refine readF_no hc hg ?_
  unfold goodF
  exact decide_eq_false fun ⟨_, _, g3, _⟩ => by rw [h] at g3; cases g3

set_option maxHeartbeats 16000000 in
theorem rread13_any (v1 v2 : Value) (cols : List Co) (b : List UInt8) (size : Int) (w : World) (h1 : Ks w v1 cols) (hv : Bs w v2 b) (hvl : ∀ q, v1.ownBlock = some q → q < w.heap.size) (hbl : ∀ q, v2.ownBlock = some q → q < w.heap.size) (hl : cols.length ≤ 1000000000) (hn : ∀ c ∈ cols, c.name.length ≤ 1000000000) (hb : b.length ≤ 100000000) :
    Calls Tryz.prog 16 #[v1, v2, .int .i64 size] w fun e w' => RdR w' w.heap.size cols b size e ∧ Fr Non w w' := by
  obtain ⟨A1, c1, rfl⟩ := h1.shape
  obtain ⟨A, c, rfl⟩ := hv.shape
  have H1 := Lib.hid h1
  have HV := Lib.hid hv
  have HVl := Lib.hid hvl
  have hB0 : RfB (w.alloc (.cells #[.int .i64 0, .slice none 0 0] 43)) w.heap.size 0 (.slice none 0 0) := Blk.new _ _ _
  have f0 := (Fr.refl Non w).alloc (.cells #[.int .i64 0, .slice none 0 0] 43)
  have hgt := hB0.lt
  have HCk := Lib.hid (rcheck_any _ cols _ (h1.non f0) hl hn)
  have HGet := Lib.hid (fun W (hf : Fr Non w W) => rgetO_any _ b W (hv.non hf) (fun q hq => Nat.lt_of_lt_of_le (hbl q hq) hf.size) (by omega))
  have hm := mostK_le (gB b) (show (0 : Int) ≤ 200 by omega)
  have hgl := gB_len b
  have HX : Hid (rdF cols b = rdSays (mostV (gB b) 200) (cols.map Co.ty) 0 (mostR (gB b) 200) (mostB (gB b) 200)) := Lib.hid rfl
  clear h1 hv hvl hbl
  go_enter Tryz.func16, Tryz.ntmps16
  go_wp2_with fail
  generalize hgf : w.heap.size = gf at *
  have HGf := Lib.hid (Nat.le_of_eq hgf)
  have hgf0 : w.heap.size ≤ gf := HGf.out
  clear hgf
  refine HCk.out.mono ?_
  rintro e w1 ⟨rfl, f1⟩
  have hB1 := hB0.fr f1 (fun e => e)
  have F1 := f0.trans f1
  have hsz1 := f1.size
  clear HCk hB0 f0 f1
  by_cases hc : chkC cols = 0
  · have hcb : ((chkC cols) != 0) = false := by rw [hc]; rfl
    have HC := Lib.hid hc
    have hc6 := (chk_is hc).2.2.2
    have HF1 := Lib.hid F1
    have HB1 : Hid (RfB _ _ _ _) := Lib.hid hB1
    have HGet1 := Lib.hid (HGet.out w1 F1)
    clear hc F1 hB1 HGet
    go_wp2_with fail
    refine HGet1.out.mono ?_
    rintro e w2 ⟨u2, rfl, ho2, f2⟩
    have hB2 : RfB w2 gf _ _ := HB1.out.fr f2 (fun e => e)
    have F2 := HF1.out.trans f2
    have hgs2 := f2.size
    have hgf2 := hB2.lt
    have HBs2 := Lib.hid ho2.bs
    have HLt2 := Lib.hid ho2.lt
    obtain ⟨A2, c2, rfl⟩ := ho2.bs.shape
    have HRF := Lib.hid (fun (e0 : Int) (h : readF cols b size = (e0, 0, [])) W B => rdR_no (w := W) (B := B) h)
    clear HGet1 HF1 HB1 f2 ho2
    by_cases hg : gE b = 0
    · have hgb : (((gE b : Nat) : Int) != 0) = false := by rw [hg]; rfl
      have HG := Lib.hid hg
      have fa := (Fr.refl Non w2).alloc (.cells #[.slice A2 (gB b).length c2, .bool false] 88)
      have S3 : SAt (w2.alloc (.cells #[.slice A2 (gB b).length c2, .bool false] 88)) w2.heap.size (GeS w2.heap.size) (gB b) false :=
        ⟨_, Blk.new _ _ _, HBs2.out.non fa, (fun q hq e => by have := (HLt2.out q hq).2; unfold GeS at e; omega), by unfold GeS; omega, fun h => by cases h⟩
      have hB3 : RfB _ gf _ _ := hB2.fr fa (fun e => e)
      have F3 := F2.trans fa
      have h0 := rbelow_any _ _ _ _ 201 _ S3 (by omega) (by omega)
      rw [show (201 : Int) - 1 = 200 by rfl] at h0
      have hlt3 := S3.ltS
      have hrl := mostR_sm (gB b) 200
      have HRe : Hid (mostV (gB b) 200 = mostV (gB b) 200) := Lib.hid rfl
      generalize hRm : mostV (gB b) 200 = R at *
      have HRm := Lib.hid hRm
      generalize mostR (gB b) 200 = l1 at *
      generalize mostB (gB b) 200 = b1 at *
      replace h0 := Lib.hid h0
      replace F3 := Lib.hid F3
      replace hB3 : Hid (RfB _ _ _ _) := Lib.hid hB3
      clear hg F2 hB2 fa S3 HBs2 HLt2 hRm HRe
      go_wp2_with fail
      refine h0.out.mono ?_
      rintro e w4 ⟨rfl, s4, f4⟩
      have hsz4 := f4.size
      have hgg : gf ≠ w2.heap.size := by omega
      have hB4 : RfB w4 gf _ _ := hB3.out.fr f4 (fun e => hgg e)
      have F4 := F3.out.fresh f4 (fun q e => by have h1 : q = w2.heap.size := e; omega)
      have ga := (Fr.refl Non w4).alloc (.cells #[.int .i64 (R : Int), .slice none 0 0] 43)
      have hBn : RfB (w4.alloc (.cells #[.int .i64 (R : Int), .slice none 0 0] 43)) w4.heap.size R (.slice none 0 0) := Blk.new _ _ _
      have hB5 := hB4.fr ga (fun e => e)
      have F5 := F4.trans ga
      have s5 := s4.fr ga (fun e => e) (fun q e => e.elim)
      have hlm : (cols.map Co.ty).length = cols.length := by simp
      have HM : Hid (∀ k (h : k < cols.length), (cols.map Co.ty)[k]'(by rw [hlm]; exact h) = cols[k].ty) := Lib.hid (fun k h => by simp)
      clear h0 F3 hB3 hB4 F4 s4 f4 ga
      go_wp2
      generalize hG : w2.heap.size = g at *
      generalize hG6 : w4.heap.size = g6 at *
      have hg6 : g6 ≠ gf := by omega
      have hg6' : g6 ≠ g := by omega
      have HG6 := Lib.hid (Nat.le_of_eq hG6.symm)
      clear hG hG6
      go_loopw [13, 14] (fun x i wr => ∃ (k at_ : Nat) (D : List Ch) (q : List UInt8) (bad' : Bool) (u : Value), k ≤ cols.length ∧ i = .int .i64 k ∧ x = .int .i64 at_ ∧ Hid (ToS R (cols.map Co.ty) l1 b1 k D at_ q bad') ∧ SAt wr g (GeS g) q bad' ∧ q.length ≤ l1.length ∧ RfB wr gf 0 (.slice none 0 0) ∧ RfB wr g6 R u ∧ Ho wr (g + 1) u D ∧ Fr Non w wr ∧ g6 < wr.heap.size) (fun _ i _ => cols.length - (intOf i).toNat)
      case atStart => exact ⟨0, 0, [], l1, b1, .slice none 0 0, Nat.zero_le _, rfl, rfl, Lib.hid (toS_zero _ _ _ _), s5, Nat.le_refl _, hB5, hBn, no_nil _ _, F5, hBn.lt⟩
      case round =>
        clear s5 hB5 hBn F5
        obtain ⟨k, at_, D, q, bad', u, hk, rfl, rfl, HT, hs, hql, hB4, hB6, hO, hF, hgr⟩ := hrel
        have hD6 : D.length ≤ 6 := by have := HT.out.len; omega
        have hbig := HT.out.big
        obtain ⟨Au, nu, cu, rfl⟩ : ∃ A n c, u = Value.slice A n c := by obtain ⟨A, c, h⟩ := (hO.ns fd_ch).shape; exact ⟨A, _, c, h⟩
        obtain ⟨As, cs_, sc0, sc1, sf0, _⟩ := hs.cells
        have hglt := hs.ltS
        have hw0lt := hB4.lt
        cases bad' with
        | false =>
          by_cases hlt : k < cols.length
          · have HVr := H1.out.non hF
            obtain ⟨a, rfl, _⟩ := HVr.at_ k cols[k] (List.getElem?_eq_getElem hlt)
            have HTy := Lib.hid (fun W (hf : Fr Non w W) => (ks_lit (H1.out.non hf) k cols[k] (List.getElem?_eq_getElem hlt)).2.1)
            have HT2 := Lib.hid (toS_step HT.out (by rw [hlm]; exact hlt))
            rw [HM.out k hlt] at HT2
            have hm2 := mostK_le q (show (0 : Int) ≤ 1048576 by omega)
            have T1 := Lib.hid (rbelow_any g (GeS g) q false 1048577 wr hs (by omega) (by omega))
            rw [show (1048577 : Int) - 1 = 1048576 by rfl] at T1
            have hq1 := mostR_sm q 1048576
            have T2 := Lib.hid (fun W s (hg : g ≤ W.heap.size) => rztake_any g (GeS g) (mostR q 1048576) (mostB q 1048576) cols[k].ty W s (by omega) (fun q hq => by unfold GeS; omega))
            have HSay : Hid (rdSay (R : Int) cols[k].ty q = if (tkZ cols[k].ty (mostR q 1048576)).1.rows = (R : Int) then (tkZ cols[k].ty (mostR q 1048576)).2 else ([], true)) := Lib.hid rfl
            have hsl := rdSay_sm R cols[k].ty q
            generalize rdSay (R : Int) cols[k].ty q = sy at *
            generalize tkZ cols[k].ty (mostR q 1048576) = tz at *
            generalize mostV q 1048576 = m at *
            generalize mostR q 1048576 = q1 at *
            generalize mostB q 1048576 = bq at *
            generalize cols[k] = cc at *
            obtain ⟨nm, ty, nl⟩ := cc
            obtain ⟨z, q2, bad2⟩ := tz
            dsimp only at HT2 T2 HSay HTy
            unfold znV znC at T2
            replace hB4 : Hid (RfB _ _ _ _) := Lib.hid hB4
            replace hB6 : Hid (RfB _ _ _ _) := Lib.hid hB6
            replace hO := Lib.hid hO
            replace hF := Lib.hid hF
            have HULt := Lib.hid hO.out.lt
            clear hs HVr HT
            go_wp2_with fail
            refine T1.out.mono ?_
            rintro e w4 ⟨rfl, s4, f4⟩
            have hB44 := hB4.out.fr f4 (fun e => hgg e)
            have hB64 := hB6.out.fr f4 (fun e => hg6' e)
            have hO4 := hO.out.fr f4 (fun b hb e => by have h1 : b = g := e; have := (hO.out.lt b hb).1; omega)
            have hF4 := hF.out.fresh f4 (fun q e => by have h1 : q = g := e; omega)
            have hsz4 := f4.size
            have CK : Blk (w4.alloc (.cells #[.int .i64 (at_ : Int), .int .i64 (m : Int), .int .i64 0, .int .i64 0, .bool false, .int .i64 0, .string ⟨#[]⟩, .bool false, .int .i64 0, .string ⟨#[]⟩] 58)) w4.heap.size 58 #[.int .i64 (at_ : Int), .int .i64 (m : Int), .int .i64 0, .int .i64 0, .bool false, .int .i64 0, .string ⟨#[]⟩, .bool false, .int .i64 0, .string ⟨#[]⟩] := Blk.new _ _ _
            have fa := (Fr.refl Non w4).alloc (.cells #[.int .i64 (at_ : Int), .int .i64 (m : Int), .int .i64 0, .int .i64 0, .bool false, .int .i64 0, .string ⟨#[]⟩, .bool false, .int .i64 0, .string ⟨#[]⟩] 58)
            have hB45 := hB44.fr fa (fun e => e)
            have hB65 := hB64.fr fa (fun e => e)
            have hO5 := hO4.non fa
            have hF5 := hF4.trans fa
            have s5 := s4.fr fa (fun e => e) (fun q e => e.elim)
            have c5 := HTy.out _ hF5
            have hz5 : (w4.alloc (.cells #[.int .i64 (at_ : Int), .int .i64 (m : Int), .int .i64 0, .int .i64 0, .bool false, .int .i64 0, .string ⟨#[]⟩, .bool false, .int .i64 0, .string ⟨#[]⟩] 58)).heap.size = w4.heap.size + 1 := by simp
            have T25 := Lib.hid (T2.out _ s5 (by omega))
            replace hB45 : Hid (RfB _ _ _ _) := Lib.hid hB45
            replace hB65 : Hid (RfB _ _ _ _) := Lib.hid hB65
            replace hO5 := Lib.hid hO5
            replace hF5 := Lib.hid hF5
            have CK5 : Hid (Blk _ _ _ _) := Lib.hid CK
            clear T1 T2 hB4 hB6 hO hF f4 hB44 hB64 hO4 hF4 fa s4 s5 CK sc0 sc1 sf0
            go_wp2_with fail
            refine T25.out.mono ?_
            rintro e w6 ⟨rfl, s6, f6⟩
            generalize hgc : w4.heap.size = gc at *
            have hgcg : gc ≠ g := by omega
            have hgcf : gc ≠ gf := by omega
            have hgc6 : gc ≠ g6 := by omega
            have CK6 := CK5.out.fr f6 (fun e => hgcg e)
            have hB46 := hB45.out.fr f6 (fun e => hgg e)
            have hB66 := hB65.out.fr f6 (fun e => hg6' e)
            have hO6 := hO5.out.fr f6 (fun b hb e => by have h1 : b = g := e; have := (hO5.out.lt b hb).1; omega)
            have hF6 := hF5.out.fresh f6 (fun q e => by have h1 : q = g := e; omega)
            have hsz6 := f6.size
            have hgl6 := CK6.lt
            have HTh : Hid (w6.there gc 2 (#[.int .i64 z.rows, .int .i64 z.nulls, .bool z.low.null, .int .i64 z.low.num, .string ⟨z.low.txt.toArray⟩, .bool z.high.null, .int .i64 z.high.num, .string ⟨z.high.txt.toArray⟩] : Array Value).size) := Lib.hid (there_ck CK6)
            have CK7 : Hid (Blk (w6.setCells gc 2 (#[.int .i64 z.rows, .int .i64 z.nulls, .bool z.low.null, .int .i64 z.low.num, .string ⟨z.low.txt.toArray⟩, .bool z.high.null, .int .i64 z.high.num, .string ⟨z.high.txt.toArray⟩] : Array Value).toList) gc 58 #[.int .i64 (at_ : Int), .int .i64 (m : Int), .int .i64 z.rows, .int .i64 z.nulls, .bool z.low.null, .int .i64 z.low.num, .string ⟨z.low.txt.toArray⟩, .bool z.high.null, .int .i64 z.high.num, .string ⟨z.high.txt.toArray⟩]) := Lib.hid (setZc_B CK6 z)
            have fs : Fr (One gc) w6 (w6.setCells gc 2 (#[.int .i64 z.rows, .int .i64 z.nulls, .bool z.low.null, .int .i64 z.low.num, .string ⟨z.low.txt.toArray⟩, .bool z.high.null, .int .i64 z.high.num, .string ⟨z.high.txt.toArray⟩] : Array Value).toList) := setZc_fr w6 gc z
            have hB47 : Hid (RfB _ _ _ _) := Lib.hid (hB46.fr fs (fun e => hgcf e.symm))
            have hB67 : Hid (RfB _ _ _ _) := Lib.hid (hB66.fr fs (fun e => hgc6 e.symm))
            have hO7 := Lib.hid (hO6.fr fs (fun b hb e => by have h1 : b = gc := e; have := (HULt.out b hb).2; omega))
            have hF7 := Lib.hid (hF6.fresh fs (fun q e => by have h1 : q = gc := e; omega))
            have s7 := Lib.hid (s6.fr fs (fun e => hgcg e.symm) (fun q e => by have h1 : q = gc := e; unfold GeS; omega))
            have hsz7 := Lib.hid fs.size
            have hmm : IntKind.i64.wrap ((at_ : Int) + m) = (at_ + m : Nat) := by rw [IntWalk.i64_in _ ⟨by omega, by omega⟩]; push_cast; rfl
            clear T25 hB45 hB65 hO5 hF5 CK5 f6 hB46 hB66 hO6 hF6 s6 c5 CK6 fs
            by_cases hzr : z.rows = (R : Int)
            · have hzb : (z.rows != (R : Int)) = false := by rw [hzr]; simp
              have HSy2 : Hid (sy = (q2, bad2)) := Lib.hid (by rw [HSay.out, if_pos hzr])
              clear hzr
              go_wp2_with (first | (refine wpList_store_mid rfl 56 (.tmp 60) (.tmp 59) rfl gc 2 #[.int .i64 z.rows, .int .i64 z.nulls, .bool z.low.null, .int .i64 z.low.num, .string ⟨z.low.txt.toArray⟩, .bool z.high.null, .int .i64 z.high.num, .string ⟨z.high.txt.toArray⟩] rfl rfl HTh.out zc_size (zc_one z) ?_; generalize w6.setCells gc 2 (#[.int .i64 z.rows, .int .i64 z.nulls, .bool z.low.null, .int .i64 z.low.num, .string ⟨z.low.txt.toArray⟩, .bool z.high.null, .int .i64 z.high.num, .string ⟨z.high.txt.toArray⟩] : Array Value).toList = w7 at *; have y0 : w7.cell? ⟨gc, 0, none⟩ = some (.int .i64 (at_ : Int)) := CK7.out.cell 0; have y1 : w7.cell? ⟨gc, 1, none⟩ = some (.int .i64 (m : Int)) := CK7.out.cell 1; have y2 : w7.cell? ⟨gc, 2, none⟩ = some (.int .i64 z.rows) := CK7.out.cell 2; have y3 : w7.cell? ⟨gc, 3, none⟩ = some (.int .i64 z.nulls) := CK7.out.cell 3; have y4 : w7.cell? ⟨gc, 4, none⟩ = some (.bool z.low.null) := CK7.out.cell 4; have y5 : w7.cell? ⟨gc, 5, none⟩ = some (.int .i64 z.low.num) := CK7.out.cell 5; have y6 : w7.cell? ⟨gc, 6, none⟩ = some (.string ⟨z.low.txt.toArray⟩) := CK7.out.cell 6; have y7 : w7.cell? ⟨gc, 7, none⟩ = some (.bool z.high.null) := CK7.out.cell 7; have y8 : w7.cell? ⟨gc, 8, none⟩ = some (.int .i64 z.high.num) := CK7.out.cell 8; have y9 : w7.cell? ⟨gc, 9, none⟩ = some (.string ⟨z.high.txt.toArray⟩) := CK7.out.cell 9; have x60 : w7.cell? ⟨g6, 0, none⟩ = some (.int .i64 R) := hB67.out.cell 0; have x61 : w7.cell? ⟨g6, 1, none⟩ = some (.slice Au nu cu) := hB67.out.cell 1; have hgz : g + 1 ≤ w7.heap.size := (by have := hsz7.out; omega)) | (at_builtin; refine wpList_pushN fd_ch eln_ch rfl (.tmp 74) (.tmp 76) rfl (g + 1) _ D rfl hO7.out ⟨at_, m, z⟩ #[.int .i64 (at_ : Int), .int .i64 (m : Int), .int .i64 z.rows, .int .i64 z.nulls, .bool z.low.null, .int .i64 z.low.num, .string ⟨z.low.txt.toArray⟩, .bool z.high.null, .int .i64 z.high.num, .string ⟨z.high.txt.toArray⟩] rfl _ rfl rfl (by omega) hgz ?_; intro v9 w9 hO9 f9; obtain ⟨A9, n9, c9, rfl⟩ : ∃ A n c, v9 = Value.slice A n c := (by obtain ⟨A, c, h⟩ := (hO9.ns fd_ch).shape; exact ⟨A, _, c, h⟩); have hB69 : RfB w9 g6 R (.slice Au nu cu) := (hB67.out).fr f9 (fun e => no_other hO7.out hB67.out ch_ne_rfoot _ e rfl); have x1 : w9.cell? ⟨g6, 1, none⟩ = some (.slice Au nu cu) := hB69.cell 1; have x1f := hB69.frozen 1))
              have hB49 := hB47.out.fr f9 (fun e => no_other hO7.out hB47.out ch_ne_rfoot _ e rfl)
              have hS9 := s7.out.fr f9 (fun e => by have := (hO7.out.lt _ e).1; omega) (fun b hb => by have := (hO7.out.lt b hb).1; unfold GeS; omega)
              have hF9 := hF7.out.fresh f9 (fun b hb => by have := (hO7.out.lt b hb).1; omega)
              have hz9 := f9.size
              have fs := (Fr.refl (One g6) w9).set1 1 (.slice A9 n9 c9)
              have hBa : RfB (w9.setCell ⟨g6, 1, none⟩ (.slice A9 n9 c9)) g6 R (.slice A9 n9 c9) := hB69.set 1 _
              have hOa := hO9.fr fs (fun b hb e => no_other hO9 hB69 ch_ne_rfoot b hb e)
              have hB4a := hB49.fr fs (fun e => hg6 e.symm)
              have hSa := hS9.fr fs (fun e => hg6' e.symm) (fun q e => by have h1 : q = g6 := e; unfold GeS; omega)
              have hFa := hF9.fresh fs (fun b e => by have h1 : b = g6 := e; omega)
              have hla := hBa.lt
              rw [HSy2.out] at HT2 hsl

              go_roundw
              case rel => exact ⟨k + 1, at_ + m, _, _, _, .slice A9 n9 c9, by omega, by go_num, (by first | rfl | (push_cast; rfl) | (rw [← hmm])), HT2, hSa, Nat.le_trans hsl hql, hB4a, hBa, hOa, hFa, hla⟩
              case measure => simp [intOf]; omega
            · have hzb : (z.rows != (R : Int)) = true := by rw [bne_iff_ne]; exact hzr
              have HSy2 : Hid (sy = ([], true)) := Lib.hid (by rw [HSay.out, if_neg hzr])
              clear hzr
              go_wp2_with (refine wpList_store_mid rfl 56 (.tmp 60) (.tmp 59) rfl gc 2 #[.int .i64 z.rows, .int .i64 z.nulls, .bool z.low.null, .int .i64 z.low.num, .string ⟨z.low.txt.toArray⟩, .bool z.high.null, .int .i64 z.high.num, .string ⟨z.high.txt.toArray⟩] rfl rfl HTh.out zc_size (zc_one z) ?_; generalize w6.setCells gc 2 (#[.int .i64 z.rows, .int .i64 z.nulls, .bool z.low.null, .int .i64 z.low.num, .string ⟨z.low.txt.toArray⟩, .bool z.high.null, .int .i64 z.high.num, .string ⟨z.high.txt.toArray⟩] : Array Value).toList = w7 at *; have y0 : w7.cell? ⟨gc, 0, none⟩ = some (.int .i64 (at_ : Int)) := CK7.out.cell 0; have y1 : w7.cell? ⟨gc, 1, none⟩ = some (.int .i64 (m : Int)) := CK7.out.cell 1; have y2 : w7.cell? ⟨gc, 2, none⟩ = some (.int .i64 z.rows) := CK7.out.cell 2; have y3 : w7.cell? ⟨gc, 3, none⟩ = some (.int .i64 z.nulls) := CK7.out.cell 3; have y4 : w7.cell? ⟨gc, 4, none⟩ = some (.bool z.low.null) := CK7.out.cell 4; have y5 : w7.cell? ⟨gc, 5, none⟩ = some (.int .i64 z.low.num) := CK7.out.cell 5; have y6 : w7.cell? ⟨gc, 6, none⟩ = some (.string ⟨z.low.txt.toArray⟩) := CK7.out.cell 6; have y7 : w7.cell? ⟨gc, 7, none⟩ = some (.bool z.high.null) := CK7.out.cell 7; have y8 : w7.cell? ⟨gc, 8, none⟩ = some (.int .i64 z.high.num) := CK7.out.cell 8; have y9 : w7.cell? ⟨gc, 9, none⟩ = some (.string ⟨z.high.txt.toArray⟩) := CK7.out.cell 9; have x60 : w7.cell? ⟨g6, 0, none⟩ = some (.int .i64 R) := hB67.out.cell 0; have x61 : w7.cell? ⟨g6, 1, none⟩ = some (.slice Au nu cu) := hB67.out.cell 1; have hgz : g + 1 ≤ w7.heap.size := (by have := hsz7.out; omega))
              have CK7' : Hid (Blk _ _ _ _) := Lib.hid CK7.out
              have HFl := rfail_any g (GeS g) q2 bad2 w7 s7.out
              refine HFl.mono ?_
              rintro e w8 ⟨rfl, s8, f8⟩
              have ck8 := CK7.out.fr f8 (fun e => hgcg e)
              have b48 := hB47.out.fr f8 (fun e => hgg e)
              have b68 := hB67.out.fr f8 (fun e => hg6' e)
              have o8 := hO7.out.fr f8 (fun b hb e => by have h1 : b = g := e; have := (HULt.out b hb).1; omega)
              have F8 := hF7.out.fresh f8 (fun q e => by have h1 : q = g := e; omega)
              have hsz8 := f8.size
              clear HFl CK7' f8 y0 y1 y2 y3 y4 y5 y6 y7 y8 y9 x60 x61 CK7 hB47 hB67 hO7 hF7 s7
              have p0 : w8.cell? ⟨gc, 0, none⟩ = some (.int .i64 (at_ : Int)) := ck8.cell 0
              have p1 : w8.cell? ⟨gc, 1, none⟩ = some (.int .i64 (m : Int)) := ck8.cell 1
              have p2 : w8.cell? ⟨gc, 2, none⟩ = some (.int .i64 z.rows) := ck8.cell 2
              have p3 : w8.cell? ⟨gc, 3, none⟩ = some (.int .i64 z.nulls) := ck8.cell 3
              have p4 : w8.cell? ⟨gc, 4, none⟩ = some (.bool z.low.null) := ck8.cell 4
              have p5 : w8.cell? ⟨gc, 5, none⟩ = some (.int .i64 z.low.num) := ck8.cell 5
              have p6 : w8.cell? ⟨gc, 6, none⟩ = some (.string ⟨z.low.txt.toArray⟩) := ck8.cell 6
              have p7 : w8.cell? ⟨gc, 7, none⟩ = some (.bool z.high.null) := ck8.cell 7
              have p8 : w8.cell? ⟨gc, 8, none⟩ = some (.int .i64 z.high.num) := ck8.cell 8
              have p9 : w8.cell? ⟨gc, 9, none⟩ = some (.string ⟨z.high.txt.toArray⟩) := ck8.cell 9
              have q61 : w8.cell? ⟨g6, 1, none⟩ = some (.slice Au nu cu) := b68.cell 1
              have hgz : g + 1 ≤ w8.heap.size := by omega
              have HB4 : Hid (RfB _ _ _ _) := Lib.hid b48
              have HB6 : Hid (RfB _ _ _ _) := Lib.hid b68
              have HO := Lib.hid o8
              have HF := Lib.hid F8
              have HS := Lib.hid s8
              clear ck8 b48 b68 o8 F8 s8
              go_wp2_with (at_builtin; refine wpList_pushN fd_ch eln_ch rfl (.tmp 74) (.tmp 76) rfl (g + 1) _ D rfl HO.out ⟨at_, m, z⟩ #[.int .i64 (at_ : Int), .int .i64 (m : Int), .int .i64 z.rows, .int .i64 z.nulls, .bool z.low.null, .int .i64 z.low.num, .string ⟨z.low.txt.toArray⟩, .bool z.high.null, .int .i64 z.high.num, .string ⟨z.high.txt.toArray⟩] rfl _ rfl rfl (by omega) hgz ?_; intro v9 w9 hO9 f9; obtain ⟨A9, n9, c9, rfl⟩ : ∃ A n c, v9 = Value.slice A n c := (by obtain ⟨A, c, h⟩ := (hO9.ns fd_ch).shape; exact ⟨A, _, c, h⟩); have hB69 : RfB w9 g6 R (.slice Au nu cu) := (HB6.out).fr f9 (fun e => no_other HO.out HB6.out ch_ne_rfoot _ e rfl); have x1 : w9.cell? ⟨g6, 1, none⟩ = some (.slice Au nu cu) := hB69.cell 1; have x1f := hB69.frozen 1)
              have hB49 := HB4.out.fr f9 (fun e => no_other HO.out HB4.out ch_ne_rfoot _ e rfl)
              have hS9 := HS.out.fr f9 (fun e => by have := (HO.out.lt _ e).1; omega) (fun b hb => by have := (HO.out.lt b hb).1; unfold GeS; omega)
              have hF9 := HF.out.fresh f9 (fun b hb => by have := (HO.out.lt b hb).1; omega)
              have hz9 := f9.size
              have fs := (Fr.refl (One g6) w9).set1 1 (.slice A9 n9 c9)
              have hBa : RfB (w9.setCell ⟨g6, 1, none⟩ (.slice A9 n9 c9)) g6 R (.slice A9 n9 c9) := hB69.set 1 _
              have hOa := hO9.fr fs (fun b hb e => no_other hO9 hB69 ch_ne_rfoot b hb e)
              have hB4a := hB49.fr fs (fun e => hg6 e.symm)
              have hSa := hS9.fr fs (fun e => hg6' e.symm) (fun q e => by have h1 : q = g6 := e; unfold GeS; omega)
              have hFa := hF9.fresh fs (fun b e => by have h1 : b = g6 := e; omega)
              have hla := hBa.lt
              rw [HSy2.out] at HT2 hsl

              go_roundw
              case rel => exact ⟨k + 1, at_ + m, _, _, _, .slice A9 n9 c9, by omega, by go_num, (by first | rfl | (push_cast; rfl) | (rw [← hmm])), HT2, hSa, Nat.le_trans hsl hql, hB4a, hBa, hOa, hFa, hla⟩
              case measure => simp [intOf]; omega
          · have hE := toS_end HT.out (show (cols.map Co.ty).length ≤ k by rw [hlm]; omega)
            rw [← HX.out] at hE
            have HXd := Lib.hid hE
            have HEn := Lib.hid (rend_any g _ _ _ wr hs)
            have HNo := Lib.hid (fun (h : ¬ (R ≠ 0 ∧ (!false && q.isEmpty) = true ∧ gN b = b.length ∧ size = (at_ : Int) + b.length)) => readF_bad HC.out HG.out HXd.out (by rw [HRm.out]; exact h))
            have HYes := Lib.hid (fun (h1 : q = []) (h2 : R ≠ 0) (h3 : gN b = b.length) (h4 : size = (at_ : Int) + b.length) => readF_ok (D := D) (at_ := at_) HC.out HG.out (by rw [HXd.out, h1]) (by rw [HRm.out]; exact h2) h3 h4)
            rw [HRm.out] at HYes
            have HF := Lib.hid hF
            have HB4 : Hid (RfB _ _ _ _) := Lib.hid hB4
            have HB6 : Hid (RfB _ _ _ _) := Lib.hid hB6
            have HO := Lib.hid hO
            clear HT hE HXd hs hB4 hB6 hO hF
            by_cases hN : gN b = b.length
            · have hNb : (((gN b : Nat) : Int) != b.length) = false := by rw [hN]; simp
              cases hE : (!false && q.isEmpty) with
              | false =>
                have HNo2 := Lib.hid (HNo.out (by rw [hE]; rintro ⟨_, h, _⟩; cases h))
                rw [hE] at HEn
                clear HNo HYes hE hN
                go_wp2_with fail
                refine HEn.out.mono ?_
                rintro e w5 ⟨rfl, hw5⟩
                rw [hw5] at HB4 HF
                have hB6 := HB4.out
                have F6 := HF.out
                clear HB4 HF hw5 HEn HB6 HO
                have e0 : w5.cell? ⟨gf, 0, none⟩ = some (.int .i64 0) := hB6.cell 0
                have e1 : w5.cell? ⟨gf, 1, none⟩ = some (.slice none 0 0) := hB6.cell 1
                have z0 := hB6.frozen 0
                have z1 := hB6.frozen 1
                have HBx : Hid (Blk _ _ _ _) := Lib.hid hB6
                have HFx := Lib.hid F6
                clear hB6 F6
                go_wp2
                (try simp only [Exit.inBlock, Exit.then])
                have hBe : Blk ((w5.setCell ⟨gf, 0, none⟩ (.int .i64 0)).setCell ⟨gf, 1, none⟩ (.slice none 0 0)) gf 43 #[.int .i64 0, .slice none 0 0] := (HBx.out.set 0 _).set 1 _
                have fs := ((Fr.refl (One gf) w5).set1 0 (.int .i64 0)).set1 1 (.slice none 0 0)
                refine bodyPost_ret (v := .tuple #[.agg #[.int .i64 0, .slice none 0 0], .int .i64 2]) (ret_cell (p := 6) (u := 7) (ty := 43) rfl _ _ gf _ _ rfl hBe (load_feet hBe rfl)) rfl ?_
                refine ⟨?_, HFx.out.fresh fs (fun q e => by have h1 : q = gf := e; have := HGf.out; omega)⟩
                exact HRF.out 2 HNo2.out _ _
              | true =>
                have hq0 : q = [] := by simpa using hE
                rw [hE] at HEn
                have HQ := Lib.hid hq0
                clear hq0
                by_cases hR0 : R = 0
                · have hRb : ((R : Int) == 0) = true := by rw [hR0]; rfl
                  have HNo2 := Lib.hid (HNo.out (by rintro ⟨h, _⟩; exact h hR0))
                  clear HNo HYes hE hN hR0
                  go_wp2_with fail
                  refine HEn.out.mono ?_
                  rintro e w5 ⟨rfl, hw5⟩
                  rw [hw5] at HB4 HF HB6
                  have hB6 := HB4.out
                  have F6 := HF.out
                  have m0 : w5.cell? ⟨g6, 0, none⟩ = some (.int .i64 R) := HB6.out.cell 0
                  clear HB4 HF hw5 HEn HB6 HO
                  have e0 : w5.cell? ⟨gf, 0, none⟩ = some (.int .i64 0) := hB6.cell 0
                  have e1 : w5.cell? ⟨gf, 1, none⟩ = some (.slice none 0 0) := hB6.cell 1
                  have z0 := hB6.frozen 0
                  have z1 := hB6.frozen 1
                  have HBx : Hid (Blk _ _ _ _) := Lib.hid hB6
                  have HFx := Lib.hid F6
                  clear hB6 F6
                  go_wp2
                  (try simp only [Exit.inBlock, Exit.then])
                  have hBe : Blk ((w5.setCell ⟨gf, 0, none⟩ (.int .i64 0)).setCell ⟨gf, 1, none⟩ (.slice none 0 0)) gf 43 #[.int .i64 0, .slice none 0 0] := (HBx.out.set 0 _).set 1 _
                  have fs := ((Fr.refl (One gf) w5).set1 0 (.int .i64 0)).set1 1 (.slice none 0 0)
                  refine bodyPost_ret (v := .tuple #[.agg #[.int .i64 0, .slice none 0 0], .int .i64 2]) (ret_cell (p := 6) (u := 7) (ty := 43) rfl _ _ gf _ _ rfl hBe (load_feet hBe rfl)) rfl ?_
                  refine ⟨?_, HFx.out.fresh fs (fun q e => by have h1 : q = gf := e; have := HGf.out; omega)⟩
                  exact HRF.out 2 HNo2.out _ _
                · have hRb : ((R : Int) == 0) = false := by rw [beq_eq_false_iff_ne]; omega
                  by_cases hS : size = (at_ : Int) + b.length
                  · have hSb : ((at_ : Int) + b.length != size) = false := by rw [hS]; simp
                    have hYes := Lib.hid (HYes.out HQ.out hR0 hN hS)
                    clear HNo HYes hE hN hS hR0
                    go_wp2_with fail
                    refine HEn.out.mono ?_
                    rintro e w5 ⟨rfl, hw5⟩
                    rw [hw5] at HB4 HF HB6 HO
                    have m0 : w5.cell? ⟨g6, 0, none⟩ = some (.int .i64 R) := HB6.out.cell 0
                    have m1 : w5.cell? ⟨g6, 1, none⟩ = some (.slice Au nu cu) := HB6.out.cell 1
                    have e0 : w5.cell? ⟨gf, 0, none⟩ = some (.int .i64 0) := HB4.out.cell 0
                    have e1 : w5.cell? ⟨gf, 1, none⟩ = some (.slice none 0 0) := HB4.out.cell 1
                    have z0 := HB4.out.frozen 0
                    have z1 := HB4.out.frozen 1
                    clear hw5 HEn HB6
                    go_wp2
                    (try simp only [Exit.inBlock, Exit.then])
                    have hBe : Blk ((w5.setCell ⟨gf, 0, none⟩ (.int .i64 R)).setCell ⟨gf, 1, none⟩ (.slice Au nu cu)) gf 43 #[.int .i64 R, .slice Au nu cu] := (HB4.out.set 0 _).set 1 _
                    have fs := ((Fr.refl (One gf) w5).set1 0 (.int .i64 (R : Int))).set1 1 (.slice Au nu cu)
                    refine bodyPost_ret (v := .tuple #[.agg #[.int .i64 R, .slice Au nu cu], .int .i64 0]) (ret_cell (p := 6) (u := 7) (ty := 43) rfl _ _ gf _ _ rfl hBe (load_feet hBe rfl)) rfl ?_
                    refine ⟨rdR_yes hYes.out ((HO.out.fr fs (fun b hb e => no_other HO.out HB4.out ch_ne_rfoot b hb e)).mono (by have := HGf.out; omega)), HF.out.fresh fs (fun q e => by have h1 : q = gf := e; have := HGf.out; omega)⟩
                  · have hSb : ((at_ : Int) + b.length != size) = true := by rw [bne_iff_ne]; exact fun e => hS e.symm
                    have HNo2 := Lib.hid (HNo.out (by rintro ⟨_, _, _, h⟩; exact hS h))
                    clear HNo HYes hE hN hS hR0
                    go_wp2_with fail
                    refine HEn.out.mono ?_
                    rintro e w5 ⟨rfl, hw5⟩
                    rw [hw5] at HB4 HF HB6
                    have hB6 := HB4.out
                    have F6 := HF.out
                    have m0 : w5.cell? ⟨g6, 0, none⟩ = some (.int .i64 R) := HB6.out.cell 0
                    clear HB4 HF hw5 HEn HB6 HO
                    have e0 : w5.cell? ⟨gf, 0, none⟩ = some (.int .i64 0) := hB6.cell 0
                    have e1 : w5.cell? ⟨gf, 1, none⟩ = some (.slice none 0 0) := hB6.cell 1
                    have z0 := hB6.frozen 0
                    have z1 := hB6.frozen 1
                    have HBx : Hid (Blk _ _ _ _) := Lib.hid hB6
                    have HFx := Lib.hid F6
                    clear hB6 F6
                    go_wp2
                    (try simp only [Exit.inBlock, Exit.then])
                    have hBe : Blk ((w5.setCell ⟨gf, 0, none⟩ (.int .i64 0)).setCell ⟨gf, 1, none⟩ (.slice none 0 0)) gf 43 #[.int .i64 0, .slice none 0 0] := (HBx.out.set 0 _).set 1 _
                    have fs := ((Fr.refl (One gf) w5).set1 0 (.int .i64 0)).set1 1 (.slice none 0 0)
                    refine bodyPost_ret (v := .tuple #[.agg #[.int .i64 0, .slice none 0 0], .int .i64 2]) (ret_cell (p := 6) (u := 7) (ty := 43) rfl _ _ gf _ _ rfl hBe (load_feet hBe rfl)) rfl ?_
                    refine ⟨?_, HFx.out.fresh fs (fun q e => by have h1 : q = gf := e; have := HGf.out; omega)⟩
                    exact HRF.out 2 HNo2.out _ _
            · have hNb : (((gN b : Nat) : Int) != b.length) = true := by rw [bne_iff_ne]; omega
              have HNo2 := Lib.hid (HNo.out (by rintro ⟨_, _, h, _⟩; exact hN h))
              clear HNo HYes hN
              have hB6 := HB4.out
              have F6 := HF.out
              clear HB4 HF HEn HB6 HO
              have e0 : wr.cell? ⟨gf, 0, none⟩ = some (.int .i64 0) := hB6.cell 0
              have e1 : wr.cell? ⟨gf, 1, none⟩ = some (.slice none 0 0) := hB6.cell 1
              have z0 := hB6.frozen 0
              have z1 := hB6.frozen 1
              have HBx : Hid (Blk _ _ _ _) := Lib.hid hB6
              have HFx := Lib.hid F6
              clear hB6 F6
              go_wp2
              (try simp only [Exit.inBlock, Exit.then])
              have hBe : Blk ((wr.setCell ⟨gf, 0, none⟩ (.int .i64 0)).setCell ⟨gf, 1, none⟩ (.slice none 0 0)) gf 43 #[.int .i64 0, .slice none 0 0] := (HBx.out.set 0 _).set 1 _
              have fs := ((Fr.refl (One gf) wr).set1 0 (.int .i64 0)).set1 1 (.slice none 0 0)
              refine bodyPost_ret (v := .tuple #[.agg #[.int .i64 0, .slice none 0 0], .int .i64 2]) (ret_cell (p := 6) (u := 7) (ty := 43) rfl _ _ gf _ _ rfl hBe (load_feet hBe rfl)) rfl ?_
              refine ⟨?_, HFx.out.fresh fs (fun q e => by have h1 : q = gf := e; have := HGf.out; omega)⟩
              exact HRF.out 2 HNo2.out _ _
        | true =>
          have HBad : Hid ((rdF cols b).2.2.2 = true) := Lib.hid (by rw [HX.out]; exact toS_fail HT.out rfl (hs.nilS))
          by_cases hlt : k < cols.length
          · have HNo2 := Lib.hid (readF_fail (size := size) HC.out HG.out HBad.out)
            have HEn := Lib.hid (rend_any g _ _ _ wr hs)
            have HF := Lib.hid hF
            have HB4 : Hid (RfB _ _ _ _) := Lib.hid hB4
            clear HT HBad hs hB4 hB6 hO hF
            by_cases hN : gN b = b.length
            · have hNb : (((gN b : Nat) : Int) != b.length) = false := by rw [hN]; simp
              clear hN
              go_wp2_with fail
              refine HEn.out.mono ?_
              rintro e w5 ⟨rfl, hw5⟩
              rw [hw5] at HB4 HF
              have hB6 := HB4.out
              have F6 := HF.out
              clear HB4 HF hw5 HEn
              have e0 : w5.cell? ⟨gf, 0, none⟩ = some (.int .i64 0) := hB6.cell 0
              have e1 : w5.cell? ⟨gf, 1, none⟩ = some (.slice none 0 0) := hB6.cell 1
              have z0 := hB6.frozen 0
              have z1 := hB6.frozen 1
              have HBx : Hid (Blk _ _ _ _) := Lib.hid hB6
              have HFx := Lib.hid F6
              clear hB6 F6
              go_wp2
              (try simp only [Exit.inBlock, Exit.then])
              have hBe : Blk ((w5.setCell ⟨gf, 0, none⟩ (.int .i64 0)).setCell ⟨gf, 1, none⟩ (.slice none 0 0)) gf 43 #[.int .i64 0, .slice none 0 0] := (HBx.out.set 0 _).set 1 _
              have fs := ((Fr.refl (One gf) w5).set1 0 (.int .i64 0)).set1 1 (.slice none 0 0)
              refine bodyPost_ret (v := .tuple #[.agg #[.int .i64 0, .slice none 0 0], .int .i64 2]) (ret_cell (p := 6) (u := 7) (ty := 43) rfl _ _ gf _ _ rfl hBe (load_feet hBe rfl)) rfl ?_
              refine ⟨?_, HFx.out.fresh fs (fun q e => by have h1 : q = gf := e; have := HGf.out; omega)⟩
              exact HRF.out 2 HNo2.out _ _
            · have hNb : (((gN b : Nat) : Int) != b.length) = true := by rw [bne_iff_ne]; omega
              clear hN
              have hB6 := HB4.out
              have F6 := HF.out
              clear HB4 HF HEn
              have e0 : wr.cell? ⟨gf, 0, none⟩ = some (.int .i64 0) := hB6.cell 0
              have e1 : wr.cell? ⟨gf, 1, none⟩ = some (.slice none 0 0) := hB6.cell 1
              have z0 := hB6.frozen 0
              have z1 := hB6.frozen 1
              have HBx : Hid (Blk _ _ _ _) := Lib.hid hB6
              have HFx := Lib.hid F6
              clear hB6 F6
              go_wp2
              (try simp only [Exit.inBlock, Exit.then])
              have hBe : Blk ((wr.setCell ⟨gf, 0, none⟩ (.int .i64 0)).setCell ⟨gf, 1, none⟩ (.slice none 0 0)) gf 43 #[.int .i64 0, .slice none 0 0] := (HBx.out.set 0 _).set 1 _
              have fs := ((Fr.refl (One gf) wr).set1 0 (.int .i64 0)).set1 1 (.slice none 0 0)
              refine bodyPost_ret (v := .tuple #[.agg #[.int .i64 0, .slice none 0 0], .int .i64 2]) (ret_cell (p := 6) (u := 7) (ty := 43) rfl _ _ gf _ _ rfl hBe (load_feet hBe rfl)) rfl ?_
              refine ⟨?_, HFx.out.fresh fs (fun q e => by have h1 : q = gf := e; have := HGf.out; omega)⟩
              exact HRF.out 2 HNo2.out _ _
          · have HNo2 := Lib.hid (readF_fail (size := size) HC.out HG.out HBad.out)
            have HEn := Lib.hid (rend_any g _ _ _ wr hs)
            have HF := Lib.hid hF
            have HB4 : Hid (RfB _ _ _ _) := Lib.hid hB4
            clear HT HBad hs hB4 hB6 hO hF
            by_cases hN : gN b = b.length
            · have hNb : (((gN b : Nat) : Int) != b.length) = false := by rw [hN]; simp
              clear hN
              go_wp2_with fail
              refine HEn.out.mono ?_
              rintro e w5 ⟨rfl, hw5⟩
              rw [hw5] at HB4 HF
              have hB6 := HB4.out
              have F6 := HF.out
              clear HB4 HF hw5 HEn
              have e0 : w5.cell? ⟨gf, 0, none⟩ = some (.int .i64 0) := hB6.cell 0
              have e1 : w5.cell? ⟨gf, 1, none⟩ = some (.slice none 0 0) := hB6.cell 1
              have z0 := hB6.frozen 0
              have z1 := hB6.frozen 1
              have HBx : Hid (Blk _ _ _ _) := Lib.hid hB6
              have HFx := Lib.hid F6
              clear hB6 F6
              go_wp2
              (try simp only [Exit.inBlock, Exit.then])
              have hBe : Blk ((w5.setCell ⟨gf, 0, none⟩ (.int .i64 0)).setCell ⟨gf, 1, none⟩ (.slice none 0 0)) gf 43 #[.int .i64 0, .slice none 0 0] := (HBx.out.set 0 _).set 1 _
              have fs := ((Fr.refl (One gf) w5).set1 0 (.int .i64 0)).set1 1 (.slice none 0 0)
              refine bodyPost_ret (v := .tuple #[.agg #[.int .i64 0, .slice none 0 0], .int .i64 2]) (ret_cell (p := 6) (u := 7) (ty := 43) rfl _ _ gf _ _ rfl hBe (load_feet hBe rfl)) rfl ?_
              refine ⟨?_, HFx.out.fresh fs (fun q e => by have h1 : q = gf := e; have := HGf.out; omega)⟩
              exact HRF.out 2 HNo2.out _ _
            · have hNb : (((gN b : Nat) : Int) != b.length) = true := by rw [bne_iff_ne]; omega
              clear hN
              have hB6 := HB4.out
              have F6 := HF.out
              clear HB4 HF HEn
              have e0 : wr.cell? ⟨gf, 0, none⟩ = some (.int .i64 0) := hB6.cell 0
              have e1 : wr.cell? ⟨gf, 1, none⟩ = some (.slice none 0 0) := hB6.cell 1
              have z0 := hB6.frozen 0
              have z1 := hB6.frozen 1
              have HBx : Hid (Blk _ _ _ _) := Lib.hid hB6
              have HFx := Lib.hid F6
              clear hB6 F6
              go_wp2
              (try simp only [Exit.inBlock, Exit.then])
              have hBe : Blk ((wr.setCell ⟨gf, 0, none⟩ (.int .i64 0)).setCell ⟨gf, 1, none⟩ (.slice none 0 0)) gf 43 #[.int .i64 0, .slice none 0 0] := (HBx.out.set 0 _).set 1 _
              have fs := ((Fr.refl (One gf) wr).set1 0 (.int .i64 0)).set1 1 (.slice none 0 0)
              refine bodyPost_ret (v := .tuple #[.agg #[.int .i64 0, .slice none 0 0], .int .i64 2]) (ret_cell (p := 6) (u := 7) (ty := 43) rfl _ _ gf _ _ rfl hBe (load_feet hBe rfl)) rfl ?_
              refine ⟨?_, HFx.out.fresh fs (fun q e => by have h1 : q = gf := e; have := HGf.out; omega)⟩
              exact HRF.out 2 HNo2.out _ _
    · have hgb : (((gE b : Nat) : Int) != 0) = true := by rw [bne_iff_ne]; omega
      have HNo2 := Lib.hid (readF_frame size HC.out hg)
      clear hg
      have e0 : w2.cell? ⟨gf, 0, none⟩ = some (.int .i64 0) := hB2.cell 0
      have e1 : w2.cell? ⟨gf, 1, none⟩ = some (.slice none 0 0) := hB2.cell 1
      have z0 := hB2.frozen 0
      have z1 := hB2.frozen 1
      have HBx : Hid (Blk _ _ _ _) := Lib.hid hB2
      have HFx := Lib.hid F2
      clear hB2 F2
      go_wp2
      (try simp only [Exit.inBlock, Exit.then])
      have hBe : Blk ((w2.setCell ⟨gf, 0, none⟩ (.int .i64 0)).setCell ⟨gf, 1, none⟩ (.slice none 0 0)) gf 43 #[.int .i64 0, .slice none 0 0] := (HBx.out.set 0 _).set 1 _
      have fs := ((Fr.refl (One gf) w2).set1 0 (.int .i64 0)).set1 1 (.slice none 0 0)
      refine bodyPost_ret (v := .tuple #[.agg #[.int .i64 0, .slice none 0 0], .int .i64 (gE b : Nat)]) (ret_cell (p := 6) (u := 7) (ty := 43) rfl _ _ gf _ _ rfl hBe (load_feet hBe rfl)) rfl ?_
      refine ⟨?_, HFx.out.fresh fs (fun q e => by have h1 : q = gf := e; have := HGf.out; omega)⟩
      exact HRF.out _ HNo2.out _ _
  · have hcb : ((chkC cols) != 0) = true := by rw [bne_iff_ne]; exact hc
    have HNo2 := Lib.hid (readF_arg b size hc)
    clear hc
    have e0 : w1.cell? ⟨gf, 0, none⟩ = some (.int .i64 0) := hB1.cell 0
    have e1 : w1.cell? ⟨gf, 1, none⟩ = some (.slice none 0 0) := hB1.cell 1
    have z0 := hB1.frozen 0
    have z1 := hB1.frozen 1
    have HBx : Hid (Blk _ _ _ _) := Lib.hid hB1
    have HFx := Lib.hid F1
    clear hB1 F1
    go_wp2
    (try simp only [Exit.inBlock, Exit.then])
    have hBe : Blk ((w1.setCell ⟨gf, 0, none⟩ (.int .i64 0)).setCell ⟨gf, 1, none⟩ (.slice none 0 0)) gf 43 #[.int .i64 0, .slice none 0 0] := (HBx.out.set 0 _).set 1 _
    have fs := ((Fr.refl (One gf) w1).set1 0 (.int .i64 0)).set1 1 (.slice none 0 0)
    refine bodyPost_ret (v := .tuple #[.agg #[.int .i64 0, .slice none 0 0], .int .i64 1]) (ret_cell (p := 6) (u := 7) (ty := 43) rfl _ _ gf _ _ rfl hBe (load_feet hBe rfl)) rfl ?_
    refine ⟨?_, HFx.out.fresh fs (fun q e => by have h1 : q = gf := e; have := HGf.out; omega)⟩
    exact rdR_no HNo2.out
end Go.Proofs.YtheefloegbkflaaGreatDoor
