/-
  Joined: Layer 10: chunk.Get; chunk.Put of cells that may be. · Layer 9: the order of cells, both programs'. · Layer 11: a zone as a value; which zones there may be, and which cells they have, both programs'. · Layer 11: what a zone of cells is: how many, how many null, the least and the greatest of the others. Nothing of the program. · Layer 10: what is put is got again; nothing of the program. · Layer 2's plain mathematics: the sum of bytes, bit by bit; four bits at once by a table; a difference is carried on and never dies. No program is named here. · Layer 3 in plain numbers and lists: a frame's bytes; what a frame's head says; what is got; what is told of a changed body; all frames one behind the other. · Slices of structs of k one-celled fields, of any type: what one reads as (Ns), a row of the call's own (No), and the steps over them: made, stored into, append of one, append of many, opened. · Layer 12: a column as a value; slices of columns; two compared. · Names: which texts may be one; nothing of the program. · Columns: which there may be, where one is, which rows; their bytes, and what is read of bytes; nothing of the program. · Columns' bytes, and what is read of bytes; nothing of the program. · Layer 11: which zones there may be, both programs'. · Layer 9: a cell's bytes, both programs'.
-/
import Derived.Deep.RegionHeld3
import Derived.Test.YtheefloegbkflaaGreatDoorZ5
import Derived.Test.YtheefloegbkflaaGreatDoorZ1
import Derived.Laws.Cover1
import Derived.Test.YtheefloegbkflaaGreatDoorZ2
import Derived.Test.YtheefloegbkflaaGreatDoorZ3
import Derived.BigFrame
import Derived.Laws.StructEq
import Derived.Laws.Rows
import Derived.Laws.ResultCell

namespace Go.Proofs.YtheefloegbkflaaGreatDoor
set_option linter.unusedVariables false
set_option linter.unusedSimpArgs false
set_option maxRecDepth 100000
open Go.RowKit

/-- what chunk.Get answers -/
def Gec (w : World) (B : Nat) (o : Option (List Cl)) (e : Ending) : Prop :=
  (o = none ∧ e = .returned (.tuple #[.slice none 0 0, .bool false])) ∨ ∃ l u, o = some l ∧ e = .returned (.tuple #[u, .bool true]) ∧ Oc w B u l

set_option maxHeartbeats 4000000 in
theorem get_cl (ty n : Int) (v : Value) (b : List UInt8) (w : World) (hv : Bs w v b) (hl : b.length ≤ 100000) :
    Calls Tryz.prog 49 #[.int .i64 ty, v, .int .i64 n] w fun e w' => Gec w' w.heap.size (getC ty b n) e ∧ Fr Non w w' := by
  have HB := Lib.hid hv
  clear hv
  by_cases h0 : n < 0
  · have HG := Lib.hid (getC_out (ty := ty) (b := b) (.inl h0))
    have d0 : decide (n < 0) = true := by simpa using h0
    clear h0
    go_enter Tryz.func49, Tryz.ntmps49
    go_wp2
    go_ret2
    exact ⟨.inl ⟨HG.out, rfl⟩, Fr.refl _ _⟩
  · have d0 : decide (n < 0) = false := by simpa using h0
    by_cases h4 : 4096 < n
    · have HG := Lib.hid (getC_out (ty := ty) (b := b) (.inr h4))
      have d4 : decide (4096 < n) = true := by simpa using h4
      clear h0 h4
      go_enter Tryz.func49, Tryz.ntmps49
      go_wp2
      go_ret2
      exact ⟨.inl ⟨HG.out, rfl⟩, Fr.refl _ _⟩
    · have d4 : decide (4096 < n) = false := by simpa using h4
      obtain ⟨m, rfl⟩ : ∃ m : Nat, n = (m : Int) := ⟨n.toNat, by omega⟩
      have hm : m ≤ 4096 := by omega
      clear h0 h4
      have HO := Lib.hid (open_any v b m w HB.out hl hm)
      have HSh := Lib.hid (fun h => getC_shut (ty := ty) (b := b) (n := m) h)
      have HOp := Lib.hid (fun nulls r h => getC_open (ty := ty) (b := b) (r := r) (n := m) (nulls := nulls) hm h)
      generalize getC ty b m = G at *
      go_enter Tryz.func49, Tryz.ntmps49
      go_wp2_with fail
      refine HO.out.mono ?_
      rintro e w1 ⟨ho, hf1⟩
      have HF1 := Lib.hid hf1
      clear hf1 HO
      rcases ho with ⟨h0, t, r, rfl⟩ | ⟨nulls, rest, t, r, h0, rfl, hown, hbr, hq⟩
      · have HG := Lib.hid (HSh.out h0)
        clear h0 HSh HOp
        go_wp2_with fail
        go_ret2
        exact ⟨.inl ⟨HG.out, rfl⟩, HF1.out⟩
      · have HG := Lib.hid (HOp.out nulls rest h0)
        have hlen := openC_length h0
        have hL := openC_len h0
        have hrl : rest.length ≤ 100000 := by omega
        have hcn := cnt_le nulls
        have HT := Lib.hid hown
        have HR := Lib.hid hbr
        have HQ := Lib.hid hq
        clear h0 HSh HOp hown hbr hq hL
        have HBk := Lib.hid (kind_any v b w1 (HB.out.non HF1.out) (by omega))
        go_wp2_with fail
        refine HBk.out.mono ?_
        rintro e w2 ⟨rfl, rfl⟩
        clear HBk
        have HCt := Lib.hid (count_any t nulls w1 HT.out.vs (by omega))
        go_wp2_with fail
        refine HCt.out.mono ?_
        rintro e w2 ⟨rfl, rfl⟩
        clear HCt
        have HRd : Hid (∀ z : Int, z = (m : Int) - (cnt nulls : Nat) → Calls Tryz.prog 86 #[.int .i64 ty, .int .i64 (kindB b : Nat), r, .int .i64 z] w1 fun e w' => Gtc w' w1.heap.size (readC ty (kindB b) rest (m - cnt nulls)) e ∧ Fr Non w1 w') := by
          refine Lib.hid fun z hz => ?_
          obtain rfl : z = ((m - cnt nulls : Nat) : Int) := by omega
          exact read_any ty (kindB b) r rest (m - cnt nulls) w1 HR.out HQ.out hrl (by omega)
        have HLn : Hid (∀ o, readC ty (kindB b) rest (m - cnt nulls) = some o → o.length + cnt nulls = nulls.length) := Lib.hid fun o ho => by
          have := (wayG_is (readC_is ho).2.1).2.1
          omega
        generalize readC ty (kindB b) rest (m - cnt nulls) = R at *
        generalize kindB b = kk at *
        generalize hcc : cnt nulls = cc at *
        have hcl : cc ≤ m := by omega
        have hnl : nulls.length ≤ 1000000 := by omega
        have HCC := Lib.hid hcc
        clear hcc hlen hcn
        go_wp2_with fail
        refine (HRd.out _ ?_).mono ?_
        · first | rfl | (push_cast; omega)
        rintro e w2 ⟨hG, hf2⟩
        have HF2 := Lib.hid hf2
        clear hf2 HRd
        rcases hG with ⟨h1, u, l, rfl, h2⟩ | ⟨l, u, h1, rfl, h2⟩
        · have HG2 : Hid (G = none) := Lib.hid (by rw [HG.out, h1]; rfl)
          clear h1 h2
          go_wp2_with fail
          go_ret2
          exact ⟨.inl ⟨HG2.out, rfl⟩, HF1.out.trans HF2.out⟩
        · have HG2 : Hid (G = some (joinC nulls l)) := Lib.hid (by rw [HG.out, h1]; rfl)
          have HJ := Lib.hid (join_cl t u nulls l w2 (HT.out.vs.non HF2.out) h2.cs hnl (by rw [HCC.out]; exact HLn.out l h1))
          clear h1 h2
          go_wp2_with fail
          refine HJ.out.mono ?_
          rintro e w3 ⟨u3, rfl, ho3, hf3⟩
          have HO3 := Lib.hid (ho3.mono (HF1.out.trans HF2.out).size)
          have HF3 := Lib.hid ((HF1.out.trans HF2.out).trans hf3)
          clear ho3 hf3
          go_wp2
          go_ret2
          exact ⟨.inr ⟨_, _, HG2.out, rfl, HO3.out⟩, HF3.out⟩

theorem waysOf_good {ty : Int} (h : isTy ty = true) : waysOf ty ≠ [] := by
  unfold isTy at h
  unfold waysOf
  split
  · simp
  · split
    · simp
    · simp at h; omega
theorem okL_may {ty : Int} {l : List Cl} (h : ∀ c ∈ l, mayC ty true c = true ∧ I64 c.num) : OkL (othersC l) := by
  intro c hc
  have := h c (List.mem_filter.1 hc).1
  refine ⟨this.2, ?_⟩
  have h2 := this.1
  unfold mayC at h2
  simp only [Bool.and_eq_true] at h2
  obtain ⟨_, h2⟩ := h2
  split at h2
  · simp at h2
    rw [h2.2]
    simp
  · split at h2
    · simp at h2
      omega
    · simp at h2
      rw [h2.1]
      simp

theorem shortC_in (l : List Cl) : ∀ (ks : List Nat) (n : Nat) (b : List UInt8), (shortC l ks (n, b)).1 ∈ n :: ks
  | [], n, b => by simp [shortC]
  | k :: ks, n, b => by
    rw [shortC]
    split
    · exact List.mem_cons_of_mem n (shortC_in l ks k (wayB k l))
    · have := shortC_in l ks n b
      rcases List.mem_cons.1 this with h | h
      · rw [h]; simp
      · simp [h]
theorem bs_byteZ (w2 : World) {k : Nat} (hk : k ≤ 64) {z : Int} (hz : z = (k : Int)) : Bs (w2.alloc (.cells #[.int .u8 z] 5)) (.slice (some ⟨w2.heap.size, 0, none⟩) 1 1) [k.toUInt8] := by
  have := bs_row w2 [k.toUInt8]
  simp only [List.map_cons, List.map_nil, bv, small64 hk] at this
  rw [hz]
  exact this
theorem parts_byte2 {w2 : World} {B : Nat} {x : Value} {t : TypeId} {n : List UInt8} {k : Nat} (hk : k ≤ 64) {z : Int} (hz : z = (k : Int)) (hx : Own w2 B x n) :
    Parts ((w2.alloc (.cells #[.int .u8 z] 5)).alloc (.cells #[.slice (some ⟨w2.heap.size, 0, none⟩) 1 1, x] t)) (w2.heap.size + 1) [.slice (some ⟨w2.heap.size, 0, none⟩) 1 1, x] [[k.toUInt8], n] := by
  have hf : Fr Non w2 (w2.alloc (.cells #[.int .u8 z] 5)) := (Fr.refl _ _).alloc _
  have h := Parts.two (t := t) (bs_byteZ w2 hk hz) (hx.bs.non hf)
  rwa [show (w2.alloc (.cells #[.int .u8 z] 5)).heap.size = w2.heap.size + 1 by simp] at h
theorem byte_fl2 (x : UInt8) (m : List UInt8) : [[x], m].flatten = x :: m := by simp
theorem byte_fl3 (x : UInt8) (m n : List UInt8) : [[x], m, n].flatten = x :: (m ++ n) := by simp

set_option maxHeartbeats 4000000 in
theorem put_cl (ty : Int) (v : Value) (l : List Cl) (w : World) (hv : Cs w v l) (hm : ∀ c ∈ l, mayC ty true c = true ∧ I64 c.num) (hl : l.length ≤ 4096) (hb : (putC ty l).length ≤ 1000000) (hpos : 0 < (putC ty l).length) :
    Calls Tryz.prog 29 #[.int .i64 ty, v] w fun e w' => ∃ u, e = .returned u ∧ Own w' w.heap.size u (putC ty l) ∧ Fr Non w w' := by
  have HV := Lib.hid hv
  have HO := Lib.hid (okL_may hm)
  have HAll : Hid (l.all (mayC ty true) = true) := Lib.hid (List.all_eq_true.2 fun c hc => (hm c hc).1)
  have hof : (othersC l).length ≤ l.length := List.length_filter_le _ _
  have hwp := waysOf_pos ty
  have hwl := waysOf_len ty
  have HMay := Lib.hid (mayL_any ty true v l w hv (by omega))
  rw [HAll.out] at HMay
  have d4 : decide (4096 < (l.length : Int)) = false := by simp; omega
  obtain ⟨A, c, rfl⟩ : ∃ A c, v = .slice A l.length c := by obtain ⟨A, c, h, _⟩ := hv; exact ⟨A, c, h⟩
  have HPart := Lib.hid (fun W (h : Cs W (.slice A l.length c) l) => part_any (.slice A l.length c) l W h (by omega))
  have HSh := Lib.hid (fun W v3 o (h1 : Ws W v3 (waysOf ty)) (h2 : Cs W o (othersC l)) => shortest_any v3 o (waysOf ty) (othersC l) W h1 h2 (by omega) (fun k hk => by have := hwp k hk; omega) (by omega) HO.out)
  have HWays := Lib.hid (fun W => ways_any ty W)
  have hP : putC ty l = if (shortC (othersC l) (waysOf ty) (0, [])).1 = 0 then []
      else if (othersC l).length = l.length then (shortC (othersC l) (waysOf ty) (0, [])).1.toUInt8 :: (shortC (othersC l) (waysOf ty) (0, [])).2
      else ((shortC (othersC l) (waysOf ty) (0, [])).1 + 8).toUInt8 :: (packB (nullsC l) ++ (shortC (othersC l) (waysOf ty) (0, [])).2) := rfl
  have hk6 : (shortC (othersC l) (waysOf ty) (0, [])).1 ≤ 6 := by
    rcases List.mem_cons.1 (shortC_in (othersC l) (waysOf ty) 0 []) with h | h
    · omega
    · exact (hwp _ h).2
  have hnl : (nullsC l).length ≤ 1000000 := by unfold nullsC; rw [List.length_map]; omega
  generalize putC ty l = P at *
  generalize shortC (othersC l) (waysOf ty) (0, []) = sh at *
  obtain ⟨k, y⟩ := sh
  dsimp only at hP hk6 HSh
  generalize waysOf ty = ks at *
  generalize othersC l = os at *
  generalize nullsC l = nl at *
  have hk0 : k ≠ 0 := by
    intro h
    rw [if_pos h] at hP
    subst hP
    simp at hpos
  rw [if_neg hk0] at hP
  have hk64 : k ≤ 64 := by omega
  have e0 : ((k : Int) == 0) = false := by rw [beq_eq_false_iff_ne]; omega
  have HP := Lib.hid hP
  clear hv hm HAll hP hwp hwl HO hpos hk0
  go_enter Tryz.func29, Tryz.ntmps29
  go_wp2_with fail
  refine HMay.out.mono ?_
  rintro e w1 ⟨rfl, hf1⟩
  have HF1 := Lib.hid hf1
  clear hf1 HMay
  go_wp2_with fail
  refine (HPart.out w1 (HV.out.non HF1.out)).mono ?_
  rintro e w2 ⟨t, o, rfl, ht, ho, hf2⟩
  have HT := Lib.hid ht
  have HOo := Lib.hid ho
  have HF2 := Lib.hid (HF1.out.trans hf2)
  clear ht ho hf2 HPart
  go_wp2_with fail
  refine (HWays.out w2).mono ?_
  rintro e w3 ⟨v3, rfl, hw3, hf3⟩
  have HW3 := Lib.hid hw3
  have HF3 := Lib.hid hf3
  clear hw3 hf3
  go_wp2_with fail
  refine (HSh.out w3 v3 o HW3.out (HOo.out.cs.non HF3.out)).mono ?_
  rintro e w4 ⟨u4, rfl, ho4, hf4⟩
  obtain ⟨A4, c4, rfl⟩ := ho4.bs.shape
  have HO4 := Lib.hid ho4
  have HT4 := Lib.hid ((HT.out.non HF3.out).non hf4)
  have HF4 := Lib.hid ((HF2.out.trans HF3.out).trans hf4)
  obtain ⟨Ao, co, rfl⟩ : ∃ A c, o = .slice A os.length c := by obtain ⟨A, c, h, _⟩ := HOo.out.cs; exact ⟨A, c, h⟩
  clear ho4 hf4 HSh HWays HV HW3 HOo HT
  by_cases hs : os.length = l.length
  · have hP := HP.out
    rw [if_pos hs] at hP
    have es : ((os.length : Int) == l.length) = true := by rw [hs]; simp
    have hcl : [[k.toUInt8], y].flatten.length < 1099511627776 := by rw [byte_fl2, ← hP]; omega
    have HP2 := Lib.hid hP
    have HCl := Lib.hid hcl
    clear HP hP hcl hs hb
    go_wp2_with fail
    refine (concat_any (w4.heap.size + 1) 2 2 _ [[k.toUInt8], y] _ rfl (by omega) (parts_byte2 hk64 rfl HO4.out) HCl.out).mono ?_
    rintro e w5 ⟨u5, rfl, ho5, hf5⟩
    go_wp2
    go_ret
    refine ⟨u5, rfl, ?_, ?_⟩
    · rw [byte_fl2, ← HP2.out] at ho5
      exact ho5.mono ((HF4.out.alloc _).alloc _).size
    · exact ((HF4.out.alloc _).alloc _).trans hf5
  · have hP := HP.out
    rw [if_neg hs] at hP
    have es : ((os.length : Int) == l.length) = false := by rw [beq_eq_false_iff_ne]; omega
    have hcl : [[(k + 8).toUInt8], packB nl, y].flatten.length < 1099511627776 := by rw [byte_fl3, ← hP]; omega
    have HP2 := Lib.hid hP
    have HCl := Lib.hid hcl
    clear HP hP hcl hs hb
    go_wp2_with fail
    refine (pack_any t nl _ (HT4.out.vs.non ((Fr.refl _ _).alloc _)) hnl).mono ?_
    rintro e w5 ⟨u5, rfl, ho5, hf5⟩
    have hb5 := bs_byteZ w4 (k := k + 8) (by omega) (z := (k : Int) + 8) (by push_cast; rfl)
    have HF5 := Lib.hid (((Fr.refl Non w4).alloc (.cells #[.int .u8 ((k : Int) + 8)] 5)).trans hf5)
    have HB5 := Lib.hid (hb5.non hf5)
    have HY5 := Lib.hid (HO4.out.bs.non HF5.out)
    have HO5 := Lib.hid ho5
    obtain ⟨A5, c5, rfl⟩ := ho5.bs.shape
    clear hb5 hf5 ho5
    go_wp2_with fail
    refine (concat_any w5.heap.size 3 3 _ [[(k + 8).toUInt8], packB nl, y] _ rfl (by omega) (Parts.three HB5.out HO5.out.bs HY5.out) HCl.out).mono ?_
    rintro e w6 ⟨u6, rfl, ho6, hf6⟩
    go_wp2
    go_ret
    have hF := ((HF4.out.trans HF5.out).alloc _).trans hf6
    refine ⟨u6, rfl, ?_, hF⟩
    rw [byte_fl3, ← HP2.out] at ho6
    exact ho6.mono (((HF4.out.trans HF5.out).alloc _).size)
end Go.Proofs.YtheefloegbkflaaGreatDoor


namespace Go.Proofs.YtheefloegbkflaaGreatDoor
set_option linter.unusedVariables false
set_option linter.unusedSimpArgs false
set_option maxRecDepth 100000
open Go.RowKit

theorem nani_any (x : Int) (w : World) : Calls Tryz.prog 185 #[.int .i64 x] w fun e w' => e = .returned (.bool false) ∧ w = w' := by
  have h : (x != x) = false := by simp
  go_enter Tryz.func185, Tryz.ntmps185
  go_wp2
  go_ret
  exact ⟨ret_boolE (by simp), rfl⟩
theorem nant_any (x : Tx) (w : World) : Calls Tryz.prog 186 #[.string ⟨x.toArray⟩] w fun e w' => e = .returned (.bool false) ∧ w = w' := by
  go_enter Tryz.func186, Tryz.ntmps186
  go_wp2
  go_ret
  exact ⟨ret_boolE (by simp), rfl⟩

theorem cmpi_any (x y : Int) (w : World) : Calls Tryz.prog 165 #[.int .i64 x, .int .i64 y] w fun e w' => e = .returned (.int .i64 (cmpI x y)) ∧ w = w' := by
  go_enter Tryz.func165, Tryz.ntmps165
  go_wp2_with fail
  refine (nani_any x w).mono ?_
  rintro e w1 ⟨rfl, rfl⟩
  go_wp2_with fail
  refine (nani_any y w).mono ?_
  rintro e w1 ⟨rfl, rfl⟩
  go_wp2
  all_goals
    go_ret
    exact ⟨ret_int (by unfold cmpI; first | (rw [if_pos (by omega)]; done) | (rw [if_neg (by omega), if_pos (by omega)]; done) | (rw [if_neg (by omega), if_neg (by omega)]; done)), rfl⟩

/-- Go's '<' both ways, decided -/
theorem less_lt {x y : Tx} (h : x < y) : Op.bytesLess x y = true := by rw [bless]; simpa using h
theorem less_gt {x y : Tx} (h : y < x) : Op.bytesLess x y = false ∧ (x == y) = false := by
  refine ⟨by rw [bless]; simpa using fun e => List.lt_irrefl x (List.lt_trans e h), beq_eq_false_iff_ne.2 fun e => ?_⟩
  subst e; exact List.lt_irrefl x h
theorem less_self (x : Tx) : Op.bytesLess x x = false := by rw [bless]; simp

theorem cmpt_any (x y : Tx) (w : World) : Calls Tryz.prog 166 #[.string ⟨x.toArray⟩, .string ⟨y.toArray⟩] w fun e w' => e = .returned (.int .i64 (cmpT x y)) ∧ w = w' := by
  rcases tx_tri x y with hl | hl | hl
  · have h1 := less_lt hl
    have H := Lib.hid (cmpT_lt hl)
    clear hl
    go_enter Tryz.func166, Tryz.ntmps166
    go_wp2_with fail
    refine (nant_any x w).mono ?_
    rintro e w1 ⟨rfl, rfl⟩
    go_wp2_with fail
    refine (nant_any y w).mono ?_
    rintro e w1 ⟨rfl, rfl⟩
    go_wp2
    go_ret
    exact ⟨ret_int (by rw [H.out]), rfl⟩
  · subst hl
    have h1 := less_self x
    have H := Lib.hid (cmpT_self x)
    go_enter Tryz.func166, Tryz.ntmps166
    go_wp2_with fail
    refine (nant_any x w).mono ?_
    rintro e w1 ⟨rfl, rfl⟩
    go_wp2_with fail
    refine (nant_any x w).mono ?_
    rintro e w1 ⟨rfl, rfl⟩
    go_wp2
    go_ret
    exact ⟨ret_int (by rw [H.out]), rfl⟩
  · obtain ⟨h1, h2⟩ := less_gt hl
    have H := Lib.hid (cmpT_gt hl)
    clear hl
    go_enter Tryz.func166, Tryz.ntmps166
    go_wp2_with fail
    refine (nant_any x w).mono ?_
    rintro e w1 ⟨rfl, rfl⟩
    go_wp2_with fail
    refine (nant_any y w).mono ?_
    rintro e w1 ⟨rfl, rfl⟩
    go_wp2
    go_ret
    exact ⟨ret_int (by rw [H.out]), rfl⟩

/-! ### The order -/
def ordC (a b : Cl) : Int := if a.null && !b.null then -1 else if b.null && !a.null then 1 else if a.num = b.num then cmpT a.txt b.txt else cmpI a.num b.num
theorem cmpI_lt {x y : Int} (h : x < y) : cmpI x y = -1 := by unfold cmpI; rw [if_pos h]
theorem cmpI_gt {x y : Int} (h : y < x) : cmpI x y = 1 := by unfold cmpI; rw [if_neg (by omega), if_pos h]
theorem ordC_null {a b : Cl} (h : a.null = b.null) : ordC a b = if a.num = b.num then cmpT a.txt b.txt else cmpI a.num b.num := by
  unfold ordC
  cases ha : a.null <;> rw [ha] at h <;> simp [← h]
theorem ordC_mk (n : Bool) (i j : Int) (s t : Tx) : ordC ⟨n, i, s⟩ ⟨n, j, t⟩ = if i = j then cmpT s t else cmpI i j := ordC_null (a := ⟨n, i, s⟩) (b := ⟨n, j, t⟩) rfl
theorem ordC_tf {a b : Cl} (h : a.null = true) (h' : b.null = false) : ordC a b = -1 := by unfold ordC; rw [h, h']; rfl
theorem ordC_ft {a b : Cl} (h : a.null = false) (h' : b.null = true) : ordC a b = 1 := by unfold ordC; rw [h, h']; rfl
theorem ordC_neg (a b : Cl) : ordC b a = -ordC a b := by
  cases ha : a.null <;> cases hb : b.null
  · rw [ordC_null (ha.trans hb.symm), ordC_null (hb.trans ha.symm)]
    by_cases h : a.num = b.num
    · rw [if_pos h, if_pos h.symm, cmpT_neg]
    · rw [if_neg h, if_neg (fun e => h e.symm)]
      unfold cmpI
      split <;> split <;> first | rfl | omega | (split <;> first | rfl | omega)
  · rw [ordC_ft ha hb, ordC_tf hb ha]
  · rw [ordC_tf ha hb, ordC_ft hb ha]; rfl
  · rw [ordC_null (ha.trans hb.symm), ordC_null (hb.trans ha.symm)]
    by_cases h : a.num = b.num
    · rw [if_pos h, if_pos h.symm, cmpT_neg]
    · rw [if_neg h, if_neg (fun e => h e.symm)]
      unfold cmpI
      split <;> split <;> first | rfl | omega | (split <;> first | rfl | omega)
theorem cmpI_zero {x y : Int} (h : cmpI x y = 0) : x = y := by
  unfold cmpI at h
  split at h
  · omega
  · split at h <;> omega
theorem ordC_zero (a b : Cl) : (ordC a b == 0) = ceq a b := by
  rw [Bool.eq_iff_iff, beq_iff_eq]
  obtain ⟨an, ai, at_⟩ := a
  obtain ⟨bn, bi, bt⟩ := b
  simp only [ceq, decide_eq_true_eq, Cl.mk.injEq]
  cases an <;> cases bn
  · rw [ordC_mk]
    by_cases h : ai = bi
    · simp only [h, if_true]; rw [cmpT_zero]; simp
    · simp only [h, if_false]
      exact ⟨fun e => absurd (cmpI_zero e) h, fun e => absurd e.2.1 (by simp)⟩
  · rw [ordC_ft rfl rfl]; simp
  · rw [ordC_tf rfl rfl]; simp
  · rw [ordC_mk]
    by_cases h : ai = bi
    · simp only [h, if_true]; rw [cmpT_zero]; simp
    · simp only [h, if_false]
      exact ⟨fun e => absurd (cmpI_zero e) h, fun e => absurd e.2.1 (by simp)⟩
theorem cmpI_le {x y : Int} : cmpI x y ≤ 0 ↔ x ≤ y := by
  unfold cmpI
  split
  · omega
  · split <;> omega
theorem ordC_trans {a b c : Cl} (h1 : ordC a b ≤ 0) (h2 : ordC b c ≤ 0) : ordC a c ≤ 0 := by
  have step : ∀ {a b c : Cl}, a.null = b.null → b.null = c.null → ordC a b ≤ 0 → ordC b c ≤ 0 → ordC a c ≤ 0 := by
    intro a b c hab hbc h1 h2
    rw [ordC_null hab] at h1
    rw [ordC_null hbc] at h2
    rw [ordC_null (hab.trans hbc)]
    by_cases e1 : a.num = b.num <;> by_cases e2 : b.num = c.num
    · rw [if_pos e1] at h1; rw [if_pos e2] at h2; rw [if_pos (e1.trans e2)]; exact cmpT_trans h1 h2
    · rw [if_neg e2] at h2
      rw [if_neg (fun e => e2 (e1 ▸ e)), e1]; exact h2
    · rw [if_neg e1] at h1
      rw [if_neg (fun e => e1 (e.trans e2.symm)), ← e2]; exact h1
    · rw [if_neg e1, cmpI_le] at h1
      rw [if_neg e2, cmpI_le] at h2
      rw [if_neg (by omega), cmpI_le]; omega
  cases ha : a.null <;> cases hb : b.null <;> cases hc : c.null
  · exact step (ha.trans hb.symm) (hb.trans hc.symm) h1 h2
  · rw [ordC_ft hb hc] at h2; omega
  · rw [ordC_ft ha hb] at h1; omega
  · rw [ordC_ft ha hb] at h1; omega
  · rw [ordC_tf ha hc]; omega
  · rw [ordC_ft hb hc] at h2; omega
  · rw [ordC_tf ha hc]; omega
  · exact step (ha.trans hb.symm) (hb.trans hc.symm) h1 h2
set_option maxHeartbeats 1000000 in
theorem order_any (a b : Cl) (w : World) : Calls Tryz.prog 114 #[clV a, clV b] w fun e w' => e = .returned (.int .i64 (ordC a b)) ∧ Fr Non w w' := by
  obtain ⟨an, ai, at_⟩ := a
  obtain ⟨bn, bi, bt⟩ := b
  unfold clV clC
  cases an <;> cases bn
  case false.true =>
    go_enter Tryz.func114, Tryz.ntmps114
    go_wp2
    go_ret
    exact ⟨rfl, ((Fr.refl _ _).alloc _).alloc _⟩
  case true.false =>
    go_enter Tryz.func114, Tryz.ntmps114
    go_wp2
    go_ret
    exact ⟨rfl, ((Fr.refl _ _).alloc _).alloc _⟩
  all_goals
    by_cases h : ai = bi
    · have HI := Lib.hid h
      have hb : (ai != bi) = false := by rw [h]; simp
      clear h
      go_enter Tryz.func114, Tryz.ntmps114
      go_wp2_with fail
      refine (cmpt_any at_ bt _).mono ?_
      rintro e w1 ⟨rfl, rfl⟩
      go_wp2
      go_ret
      exact ⟨ret_int (by rw [ordC_mk]; exact (if_pos HI.out).symm), ((Fr.refl _ _).alloc _).alloc _⟩
    · have HI := Lib.hid h
      have hb : (ai != bi) = true := by simpa using h
      clear h
      go_enter Tryz.func114, Tryz.ntmps114
      go_wp2_with fail
      refine (cmpi_any ai bi _).mono ?_
      rintro e w1 ⟨rfl, rfl⟩
      go_wp2
      go_ret
      exact ⟨ret_int (by rw [ordC_mk]; exact (if_neg HI.out).symm), ((Fr.refl _ _).alloc _).alloc _⟩

theorem ordC_of_lt {n : Bool} {i j : Int} {s t : Tx} (h : i < j) : ordC ⟨n, i, s⟩ ⟨n, j, t⟩ = -1 := by
  rw [ordC_mk]; simp only [show ¬ i = j by omega, if_false]; exact cmpI_lt h
theorem ordC_of_gt {n : Bool} {i j : Int} {s t : Tx} (h : j < i) : ordC ⟨n, i, s⟩ ⟨n, j, t⟩ = 1 := by
  rw [ordC_mk]; simp only [show ¬ i = j by omega, if_false]; exact cmpI_gt h
theorem ordC_of_eq {n : Bool} {i : Int} {s t : Tx} : ordC ⟨n, i, s⟩ ⟨n, i, t⟩ = cmpT s t := by rw [ordC_mk]; simp

set_option maxHeartbeats 1000000 in
theorem rorder_any (a b : Cl) (w : World) : Calls Tryz.prog 71 #[clV a, clV b] w fun e w' => e = .returned (.int .i64 (ordC a b)) ∧ Fr Non w w' := by
  obtain ⟨an, ai, at_⟩ := a
  obtain ⟨bn, bi, bt⟩ := b
  unfold clV clC
  cases an <;> cases bn
  case false.true =>
    go_enter Tryz.func71, Tryz.ntmps71
    go_wp2
    go_ret
    exact ⟨rfl, ((Fr.refl _ _).alloc _).alloc _⟩
  case true.false =>
    go_enter Tryz.func71, Tryz.ntmps71
    go_wp2
    go_ret
    exact ⟨rfl, ((Fr.refl _ _).alloc _).alloc _⟩
  all_goals
    rcases Int.lt_trichotomy ai bi with h | h | h
    · go_enter Tryz.func71, Tryz.ntmps71
      go_wp2
      go_ret
      exact ⟨ret_int (ordC_of_lt h).symm, ((Fr.refl _ _).alloc _).alloc _⟩
    · subst h
      rcases tx_tri at_ bt with hl | hl | hl
      · have h1 := less_lt hl
        have H := Lib.hid (cmpT_lt hl)
        clear hl
        go_enter Tryz.func71, Tryz.ntmps71
        go_wp2
        go_ret
        exact ⟨ret_int (by rw [ordC_of_eq, H.out]), ((Fr.refl _ _).alloc _).alloc _⟩
      · subst hl
        have h1 := less_self at_
        have H := Lib.hid (cmpT_self at_)
        go_enter Tryz.func71, Tryz.ntmps71
        go_wp2
        go_ret
        exact ⟨ret_int (by rw [ordC_of_eq, H.out]), ((Fr.refl _ _).alloc _).alloc _⟩
      · obtain ⟨h1, h2⟩ := less_gt hl
        have H := Lib.hid (cmpT_gt hl)
        clear hl
        go_enter Tryz.func71, Tryz.ntmps71
        go_wp2
        go_ret
        exact ⟨ret_int (by rw [ordC_of_eq, H.out]), ((Fr.refl _ _).alloc _).alloc _⟩
    · go_enter Tryz.func71, Tryz.ntmps71
      go_wp2
      go_ret
      exact ⟨ret_int (ordC_of_gt h).symm, ((Fr.refl _ _).alloc _).alloc _⟩
end Go.Proofs.YtheefloegbkflaaGreatDoor


namespace Go.Proofs.YtheefloegbkflaaGreatDoor
set_option linter.unusedVariables false
set_option linter.unusedSimpArgs false
set_option maxRecDepth 100000
open Go.RowKit

/-- a zone: how many cells, how many of them null, the least and the greatest of the others -/
structure Zn where
  rows : Int
  nulls : Int
  low : Cl
  high : Cl
  deriving DecidableEq
/-- its cells, and its value -/
def znC (z : Zn) : Array Value := #[.int .i64 z.rows, .int .i64 z.nulls, .bool z.low.null, .int .i64 z.low.num, .string ⟨z.low.txt.toArray⟩, .bool z.high.null, .int .i64 z.high.num, .string ⟨z.high.txt.toArray⟩]
def znV (z : Zn) : Value := .agg (znC z)
def noCl : Cl := ⟨false, 0, []⟩
def noZn : Zn := ⟨0, 0, noCl, noCl⟩
def zeq (a b : Zn) : Bool := decide (a = b)
theorem zeq_self (a : Zn) : zeq a a = true := by simp [zeq]
theorem zeq_parts (a b : Zn) : zeq a b = (a.rows == b.rows && (a.nulls == b.nulls && (a.low.null == b.low.null && (a.low.num == b.low.num && (a.low.txt == b.low.txt && (a.high.null == b.high.null && (a.high.num == b.high.num && a.high.txt == b.high.txt))))))) := by
  obtain ⟨ar, an, ⟨aln, ali, alt⟩, ⟨ahn, ahi, aht⟩⟩ := a
  obtain ⟨br, bn, ⟨bln, bli, blt⟩, ⟨bhn, bhi, bht⟩⟩ := b
  unfold zeq
  rw [Bool.eq_iff_iff]
  simp [and_assoc]

/-- the zone z lies in block g -/
abbrev ZnB (w : World) (g : Nat) (z : Zn) : Prop := Blk w g 56 (znC z)
/-- what a walk asks of it -/
def ZCells (w : World) (g : Nat) (z : Zn) : Prop :=
  w.cell? ⟨g, 0, none⟩ = some (.int .i64 z.rows) ∧ w.cell? ⟨g, 1, none⟩ = some (.int .i64 z.nulls) ∧
  w.cell? ⟨g, 2, none⟩ = some (.bool z.low.null) ∧ w.cell? ⟨g, 3, none⟩ = some (.int .i64 z.low.num) ∧ w.cell? ⟨g, 4, none⟩ = some (.string ⟨z.low.txt.toArray⟩) ∧
  w.cell? ⟨g, 5, none⟩ = some (.bool z.high.null) ∧ w.cell? ⟨g, 6, none⟩ = some (.int .i64 z.high.num) ∧ w.cell? ⟨g, 7, none⟩ = some (.string ⟨z.high.txt.toArray⟩)
def ZFroz (w : World) (g : Nat) : Prop :=
  w.frozen? ⟨g, 0, none⟩ = false ∧ w.frozen? ⟨g, 1, none⟩ = false ∧ w.frozen? ⟨g, 2, none⟩ = false ∧ w.frozen? ⟨g, 3, none⟩ = false ∧
  w.frozen? ⟨g, 4, none⟩ = false ∧ w.frozen? ⟨g, 5, none⟩ = false ∧ w.frozen? ⟨g, 6, none⟩ = false ∧ w.frozen? ⟨g, 7, none⟩ = false
theorem znB_cells {w : World} {g : Nat} {z : Zn} (h : ZnB w g z) : ZCells w g z :=
  ⟨h.cell 0, h.cell 1, h.cell 2, h.cell 3, h.cell 4, h.cell 5, h.cell 6, h.cell 7⟩
theorem znB_froz {w : World} {g : Nat} {z : Zn} (h : ZnB w g z) : ZFroz w g :=
  ⟨h.frozen 0, h.frozen 1, h.frozen 2, h.frozen 3, h.frozen 4, h.frozen 5, h.frozen 6, h.frozen 7⟩
/-- a zone, and behind it a cell -/
structure ZnCl (w : World) (g : Nat) (z : Zn) (c : Cl) : Prop where
  one : ZnB w g z
  two : ClB w (g + 1) c
theorem ZnCl.non {w w' : World} {g : Nat} {z : Zn} {c : Cl} (h : ZnCl w g z c) (hf : Fr Non w w') : ZnCl w' g z c := ⟨h.one.fr hf (fun e => e), h.two.fr hf (fun e => e)⟩
/-! ### Which zones there may be -/
/-- is there a least and a greatest? -/
def bndZ (z : Zn) : Bool := decide (z.nulls < z.rows)
def cntZ (z : Zn) : Bool := decide (0 ≤ z.nulls ∧ z.nulls ≤ z.rows ∧ z.rows ≤ 4096)
def mayZ (ty : Int) (z : Zn) : Bool :=
  cntZ z && isTy ty && (if bndZ z then mayC ty false z.low && mayC ty false z.high && decide (ordC z.low z.high ≤ 0) else ceq z.low noCl && ceq z.high noCl)
theorem bnd_any (z : Zn) (w : World) : Calls Tryz.prog 60 #[znV z] w fun e w' => e = .returned (.bool (bndZ z)) ∧ Fr Non w w' := by
  unfold znV znC
  go_enter Tryz.func60, Tryz.ntmps60
  go_wp2
  go_ret
  exact ⟨rfl, (Fr.refl _ _).alloc _⟩

theorem cnt_zn (z : Zn) (w : World) : Calls Tryz.prog 111 #[znV z] w fun e w' => e = .returned (.bool (cntZ z)) ∧ Fr Non w w' := by
  unfold znV znC
  go_enter Tryz.func111, Tryz.ntmps111
  go_wp2
  all_goals
    go_ret
    exact ⟨ret_boolE (by unfold cntZ; first | (simp_all; done) | (simp_all; omega) | (simp; omega)), (Fr.refl _ _).alloc _⟩

theorem ist_zn (ty : Int) (w : World) : Calls Tryz.prog 112 #[.int .i64 ty] w fun e w' => e = .returned (.bool (isTy ty)) ∧ Fr Non w w' := by
  have HM := Lib.hid (may_any ty true ⟨true, 0, []⟩ w)
  have e1 : mayC ty true ⟨true, 0, []⟩ = isTy ty := by simp [mayC]
  rw [e1] at HM
  clear e1
  go_enter Tryz.func112, Tryz.ntmps112
  go_wp2_with fail
  refine HM.out.mono ?_
  rintro e w1 ⟨rfl, f1⟩
  go_wp2
  go_ret
  exact ⟨rfl, f1⟩
end Go.Proofs.YtheefloegbkflaaGreatDoor


namespace Go.Proofs.YtheefloegbkflaaGreatDoor
set_option linter.unusedVariables false
set_option linter.unusedSimpArgs false
set_option maxRecDepth 100000
open Go.RowKit

def liveC (l : List Cl) : List Cl := l.filter (fun c => !c.null)
def nulC (l : List Cl) : Nat := (l.filter (fun c => c.null)).length
theorem nulC_rest (l : List Cl) : nulC l + (liveC l).length = l.length := by
  unfold nulC liveC
  induction l with
  | nil => rfl
  | cons c l ih => cases h : c.null <;> simp [h] <;> omega
theorem liveC_app (l m : List Cl) : liveC (l ++ m) = liveC l ++ liveC m := by simp [liveC]
theorem nulC_app (l m : List Cl) : nulC (l ++ m) = nulC l + nulC m := by simp [nulC]
theorem liveC_null {c : Cl} (h : c.null = true) : liveC [c] = [] := by simp [liveC, h]
theorem liveC_one {c : Cl} (h : c.null = false) : liveC [c] = [c] := by simp [liveC, h]
theorem nulC_null {c : Cl} (h : c.null = true) : nulC [c] = 1 := by simp [nulC, h]
theorem nulC_one {c : Cl} (h : c.null = false) : nulC [c] = 0 := by simp [nulC, h]
theorem mem_liveC {l : List Cl} {c : Cl} : c ∈ liveC l ↔ c ∈ l ∧ c.null = false := by simp [liveC]

/-- lo and hi are the least and the greatest of l -/
def Bnds (l : List Cl) (lo hi : Cl) : Prop := (l = [] ∧ lo = noCl ∧ hi = noCl) ∨ (lo ∈ l ∧ hi ∈ l ∧ ∀ c ∈ l, ordC lo c ≤ 0 ∧ ordC c hi ≤ 0)
theorem ordC_self (a : Cl) : ordC a a = 0 := by
  have := ordC_zero a a
  rw [ceq_self] at this; simpa using this
theorem ordC_asym {a b : Cl} (h1 : ordC a b ≤ 0) (h2 : ordC b a ≤ 0) : a = b := by
  rw [ordC_neg a b] at h2
  have := ordC_zero a b
  rw [show ordC a b = 0 by omega] at this
  exact ceq_is this.symm
theorem bnds_uniq {l : List Cl} {lo hi lo' hi' : Cl} (h : Bnds l lo hi) (h' : Bnds l lo' hi') : lo = lo' ∧ hi = hi' := by
  rcases h with ⟨e, h1, h2⟩ | ⟨h1, h2, h3⟩
  · rcases h' with ⟨_, h1', h2'⟩ | ⟨h1', _, _⟩
    · exact ⟨h1.trans h1'.symm, h2.trans h2'.symm⟩
    · rw [e] at h1'; cases h1'
  · rcases h' with ⟨e, _, _⟩ | ⟨h1', h2', h3'⟩
    · rw [e] at h1; cases h1
    · exact ⟨ordC_asym (h3 _ h1').1 (h3' _ h1).1, ordC_asym (h3' _ h2).2 (h3 _ h2').2⟩
theorem bnds_step {l : List Cl} {lo hi : Cl} (h : Bnds l lo hi) (c : Cl) :
    Bnds (l ++ [c]) (if (l.isEmpty || decide (ordC c lo < 0)) = true then c else lo) (if (l.isEmpty || decide (0 < ordC c hi)) = true then c else hi) := by
  rcases h with ⟨rfl, _, _⟩ | ⟨h1, h2, h3⟩
  · right
    simp [ordC_self]
  · right
    have he : l.isEmpty = false := by cases l with
      | nil => cases h1
      | cons _ _ => rfl
    rw [he]
    simp only [Bool.false_or, decide_eq_true_eq]
    refine ⟨?_, ?_, ?_⟩
    · split <;> simp [h1]
    · split <;> simp [h2]
    · intro d hd
      rw [List.mem_append, List.mem_singleton] at hd
      have n1 := ordC_neg c lo
      have n2 := ordC_neg c hi
      rcases hd with hd | rfl
      · obtain ⟨q1, q2⟩ := h3 d hd
        constructor
        · split
          · exact ordC_trans (by omega) q1
          · exact q1
        · split
          · exact ordC_trans q2 (by omega)
          · exact q2
      · constructor
        · split
          · exact Int.le_of_eq (ordC_self _)
          · omega
        · split
          · exact Int.le_of_eq (ordC_self _)
          · omega

/-- a zone with one cell more noted -/
def noteZ (first : Bool) (z : Zn) (c : Cl) : Zn :=
  ⟨z.rows, z.nulls, if (first || decide (ordC c z.low < 0)) = true then c else z.low, if (first || decide (0 < ordC c z.high)) = true then c else z.high⟩
/-- z bounds l, which is empty if first is so -/
structure JInv (r n : Int) (l : List Cl) (z : Zn) (first : Bool) : Prop where
  rows : z.rows = r
  nulls : z.nulls = n
  first : first = l.isEmpty
  bnds : Bnds l z.low z.high
theorem jinv_start (r n : Int) : JInv r n [] ⟨r, n, noCl, noCl⟩ true := ⟨rfl, rfl, rfl, .inl ⟨rfl, rfl, rfl⟩⟩
theorem jinv_note {r n : Int} {l : List Cl} {z : Zn} {first : Bool} (h : JInv r n l z first) (c : Cl) : JInv r n (l ++ [c]) (noteZ first z c) false := by
  obtain ⟨h1, h2, rfl, h4⟩ := h
  exact ⟨h1, h2, by simp, bnds_step h4 c⟩
theorem jinv_null {r n m : Int} {l : List Cl} {z : Zn} {first : Bool} (h : JInv r n l z first) (hm : m = n + 1) : JInv r m l ⟨z.rows, z.nulls + 1, z.low, z.high⟩ first :=
  ⟨h.rows, by rw [hm, ← h.nulls], h.first, h.bnds⟩

/-- z is the zone of l -/
structure IsOf (l : List Cl) (z : Zn) : Prop where
  rows : z.rows = l.length
  nulls : z.nulls = nulC l
  bnds : Bnds (liveC l) z.low z.high
theorem isOf_uniq {l : List Cl} {z y : Zn} (h : IsOf l z) (h' : IsOf l y) : z = y := by
  obtain ⟨e1, e2⟩ := bnds_uniq h.bnds h'.bnds
  have e3 := h.rows.trans h'.rows.symm
  have e4 := h.nulls.trans h'.nulls.symm
  obtain ⟨r, n, lo, hi⟩ := z
  obtain ⟨r', n', lo', hi'⟩ := y
  dsimp only at *
  rw [e1, e2, e3, e4]
theorem jinv_end {l : List Cl} {z : Zn} {first : Bool} (h : JInv l.length (nulC l) (liveC l) z first) : IsOf l z := ⟨h.rows, h.nulls, h.bnds⟩
theorem jinv_yes {n : Int} {l : List Cl} {z : Zn} {first : Bool} {k : Nat} (hk : k < l.length) (h : JInv n (nulC (l.take k)) (liveC (l.take k)) z first) (hn : l[k].null = true) :
    JInv n (nulC (l.take (k + 1))) (liveC (l.take (k + 1))) ⟨z.rows, z.nulls + 1, z.low, z.high⟩ first := by
  rw [List.take_succ_eq_append_getElem hk, liveC_app, nulC_app, liveC_null hn, nulC_null hn, List.append_nil]
  exact jinv_null h (by simp)
theorem jinv_no {n : Int} {l : List Cl} {z : Zn} {first : Bool} {k : Nat} (hk : k < l.length) (h : JInv n (nulC (l.take k)) (liveC (l.take k)) z first) (hn : l[k].null = false) :
    JInv n (nulC (l.take (k + 1))) (liveC (l.take (k + 1))) (noteZ first z l[k]) false := by
  rw [List.take_succ_eq_append_getElem hk, liveC_app, nulC_app, liveC_one hn, nulC_one hn]
  exact jinv_note h _
theorem jinv_le {n : Int} {l : List Cl} {z : Zn} {first : Bool} {k : Nat} (hk : k ≤ l.length) (h : JInv n (nulC (l.take k)) (liveC (l.take k)) z first) : 0 ≤ z.nulls ∧ z.nulls ≤ k := by
  have e := nulC_rest (l.take k)
  rw [List.length_take, Nat.min_eq_left hk] at e
  rw [h.nulls]
  omega

/-! ### What follows -/
theorem isOf_bnd {l : List Cl} {z : Zn} (h : IsOf l z) : bndZ z = !(liveC l).isEmpty := by
  have e := nulC_rest l
  unfold bndZ
  rw [h.rows, h.nulls]
  cases hr : liveC l with
  | nil => rw [hr] at e; simp at e; simp; omega
  | cons a m => rw [hr] at e; simp at e; simp; omega
theorem mayC_false {ty : Int} {c : Cl} (h : mayC ty true c = true) (hn : c.null = false) : mayC ty false c = true := by
  unfold mayC at *
  rw [hn] at h ⊢
  exact h
theorem isOf_may {ty : Int} {l : List Cl} {z : Zn} (h : IsOf l z) (ht : isTy ty = true) (hm : ∀ c ∈ l, mayC ty true c = true) (hl : l.length ≤ 4096) : mayZ ty z = true := by
  have e := nulC_rest l
  have hc : cntZ z = true := decide_eq_true (by rw [h.rows, h.nulls]; omega)
  unfold mayZ
  rw [hc, ht, isOf_bnd h]
  rcases h.bnds with ⟨q, q1, q2⟩ | ⟨h1, h2, h3⟩
  · rw [q, q1, q2]; simp [ceq_self]
  · have he : (liveC l).isEmpty = false := by cases hx : liveC l with
      | nil => rw [hx] at h1; cases h1
      | cons _ _ => rfl
    rw [he]
    obtain ⟨m1, n1⟩ := mem_liveC.1 h1
    obtain ⟨m2, n2⟩ := mem_liveC.1 h2
    simp [mayC_false (hm _ m1) n1, mayC_false (hm _ m2) n2, (h3 _ h2).1]
end Go.Proofs.YtheefloegbkflaaGreatDoor


namespace Go.Proofs.YtheefloegbkflaaGreatDoor
set_option linter.unusedVariables false
set_option linter.unusedSimpArgs false
set_option maxRecDepth 100000
open Go.RowKit

theorem gOnes_put : ∀ (l : List Int), (∀ x ∈ l, I64 x) → gOnes l.length (onesN l) = some l
  | [], _ => gOnes_nil
  | x :: l, h => by
    have hx := h x (by simp)
    rw [onesN_cons, List.length_cons, gOnes_some (rd_own (zig_lt hx.1 hx.2) _), unzig_zig, gOnes_put l (fun y hy => h y (by simp [hy]))]
    rfl
theorem numG_put {k : Nat} {l : List Int} (hl : l.length ≤ 4096) (hx : ∀ x ∈ l, I64 x) : numG k (numW k l) l.length = some l := by
  unfold numG numW
  by_cases h1 : k = 1
  · simp only [if_pos h1]; exact gOnes_put l hx
  · simp only [if_neg h1]
    by_cases h2 : k = 2
    · simp only [if_pos h2]; exact gtM_put hl hx
    · simp only [if_neg h2]
      by_cases h3 : k = 3
      · simp only [if_pos h3]; exact gdz_put hx
      · simp only [if_neg h3]; exact getM_put hl hx
theorem txtG_put {k : Nat} {l : List Tx} (hl : l.length ≤ 4096) (hx : ∀ x ∈ l, x.length ≤ 40) : txtG k (txtW k l) l.length = some l := by
  have hu : ∀ x ∈ l, (x.length : Int) ≤ 40 ∧ x.length < two64 := fun x h => by have := hx x h; unfold two64; omega
  unfold txtG txtW
  by_cases h1 : k = 5
  · simp only [if_pos h1]; exact textsM_own hl hu
  · simp only [if_neg h1]; exact dgetM_own hl hu
/-- what cells that are not null are, by type -/
theorem mayC_parts {ty : Int} {c : Cl} (h : mayC ty false c = true) : c.null = false ∧ (ty = 1 ∨ ty = 2 ∨ ty = 3) ∧ (ty ≠ 3 → c = numC c.num) ∧ (ty = 3 → c = txtC c.txt ∧ c.txt.length ≤ 40) := by
  obtain ⟨n, i, t⟩ := c
  unfold mayC isTy at h
  cases n with
  | true => simp at h
  | false =>
    simp only [Bool.and_eq_true, Bool.or_eq_true, beq_iff_eq, Bool.false_eq_true, if_false] at h
    obtain ⟨h1, h2⟩ := h
    refine ⟨rfl, by omega, fun h3 => ?_, fun h3 => ?_⟩
    · rw [if_neg h3] at h2
      simp at h2
      unfold numC
      rw [h2.1]
    · rw [if_pos h3] at h2
      simp at h2
      unfold txtC
      exact ⟨by rw [h2.1], h2.2⟩
theorem wayG_put {ty : Int} {k : Nat} {l : List Cl} (hk : k ∈ waysOf ty) (hl : l.length ≤ 4096) (hm : ∀ c ∈ l, mayC ty false c = true ∧ I64 c.num) : wayG k (wayB k l) l.length = some l := by
  unfold wayG wayB
  have hty : (ty = 3 ∧ 5 ≤ k) ∨ (ty ≠ 3 ∧ k ≤ 4) := by
    unfold waysOf at hk
    split at hk
    · simp at hk; omega
    · split at hk
      · simp at hk; omega
      · simp at hk
  rcases hty with ⟨h3, h5⟩ | ⟨h3, h4⟩
  · rw [if_neg (by omega), if_neg (by omega)]
    have e : l.map (fun c => txtC c.txt) = l := by
      have : ∀ c ∈ l, (fun c : Cl => txtC c.txt) c = id c := fun c hc => ((mayC_parts (hm c hc).1).2.2.2 h3).1.symm
      rw [List.map_congr_left this, List.map_id]
    have := txtG_put (k := k) (l := l.map Cl.txt) (by rw [List.length_map]; exact hl) (fun x hx => by
      obtain ⟨c, hc, rfl⟩ := List.mem_map.1 hx
      exact ((mayC_parts (hm c hc).1).2.2.2 h3).2)
    rw [List.length_map] at this
    rw [this, Option.map_some, List.map_map]
    exact congrArg some e
  · rw [if_pos h4, if_pos h4]
    have e : l.map (fun c => numC c.num) = l := by
      have : ∀ c ∈ l, (fun c : Cl => numC c.num) c = id c := fun c hc => ((mayC_parts (hm c hc).1).2.2.1 h3).symm
      rw [List.map_congr_left this, List.map_id]
    have := numG_put (k := k) (l := l.map Cl.num) (by rw [List.length_map]; exact hl) (fun x hx => by
      obtain ⟨c, hc, rfl⟩ := List.mem_map.1 hx
      exact (hm c hc).2)
    rw [List.length_map] at this
    rw [this, Option.map_some, List.map_map]
    exact congrArg some e
/-- which way is taken -/
theorem shortC_way (l : List Cl) : ∀ (ks : List Nat) (n : Nat) (b : List UInt8), shortC l ks (n, b) = (n, b) ∨ ∃ k ∈ ks, shortC l ks (n, b) = (k, wayB k l)
  | [], n, b => .inl rfl
  | k :: ks, n, b => by
    rw [shortC]
    split
    · rcases shortC_way l ks k (wayB k l) with h | ⟨j, hj, h⟩
      · exact .inr ⟨k, by simp, h⟩
      · exact .inr ⟨j, by simp [hj], h⟩
    · rcases shortC_way l ks n b with h | ⟨j, hj, h⟩
      · exact .inl h
      · exact .inr ⟨j, by simp [hj], h⟩
theorem shortC_some (l : List Cl) {ks : List Nat} (h : ks ≠ []) (h0 : ∀ k ∈ ks, k ≠ 0) : ∃ k ∈ ks, shortC l ks (0, []) = (k, wayB k l) := by
  rcases shortC_way l ks 0 [] with h1 | h1
  · obtain ⟨k, hk⟩ := List.exists_mem_of_ne_nil ks h
    have := ((shortC_le l ks 0 [] h0).2 k hk).2
    rw [h1] at this
    exact absurd rfl this
  · exact h1
theorem cnt_others : ∀ l : List Cl, (othersC l).length + cnt (nullsC l) = l.length
  | [] => rfl
  | c :: l => by
    have ih := cnt_others l
    unfold othersC nullsC at *
    rw [List.map_cons, cnt_cons, List.filter_cons]
    cases hn : c.null <;> simp <;> omega
theorem joinC_own {ty : Int} : ∀ l : List Cl, (∀ c ∈ l, mayC ty true c = true) → joinC (nullsC l) (othersC l) = l
  | [], _ => rfl
  | c :: l, h => by
    have ih := joinC_own l fun x hx => h x (by simp [hx])
    have hc := h c (by simp)
    obtain ⟨n, i, t⟩ := c
    unfold nullsC othersC at *
    cases n with
    | true =>
      unfold mayC at hc
      simp at hc
      obtain ⟨_, rfl, rfl⟩ := hc
      rw [List.map_cons, List.filter_cons]
      simp only [Bool.not_true, Bool.false_eq_true, if_false]
      unfold joinC
      rw [ih]
    | false =>
      rw [List.map_cons, List.filter_cons]
      simp only [Bool.not_false, if_true]
      unfold joinC
      simp only [List.headD_cons, List.tail_cons]
      rw [ih]
theorem nullsC_none {l : List Cl} (h : (othersC l).length = l.length) : nullsC l = List.replicate l.length false := by
  have h0 := cnt_others l
  have hz : cnt (nullsC l) = 0 := by omega
  refine List.eq_replicate_iff.2 ⟨by simp [nullsC], fun b hb => ?_⟩
  unfold cnt at hz
  have := List.filter_eq_nil_iff.1 (List.eq_nil_of_length_eq_zero hz) b hb
  simpa using this
theorem u8_small {k : Nat} (h : k < 256) : k.toUInt8.toNat = k := small8 h
/-- what is put is got -/
theorem getC_put {ty : Int} {l : List Cl} (ht : isTy ty = true) (hl : l.length ≤ 4096) (hm : ∀ c ∈ l, mayC ty true c = true ∧ I64 c.num) : getC ty (putC ty l) l.length = some l := by
  have hw := waysOf_good ht
  obtain ⟨k, hk, hsh⟩ := shortC_some (othersC l) hw (fun k hk => by have := waysOf_pos ty k hk; omega)
  obtain ⟨k1, k6⟩ := waysOf_pos ty k hk
  have ho : ∀ c ∈ othersC l, mayC ty false c = true ∧ I64 c.num := by
    intro c hc
    obtain ⟨h1, h2⟩ := List.mem_filter.1 hc
    exact ⟨mayC_false (hm c h1).1 (by simpa using h2), (hm c h1).2⟩
  have hol : (othersC l).length ≤ l.length := List.length_filter_le _ _
  have hg := wayG_put hk (l := othersC l) (by omega) ho
  have hr := readC_yes hk hg (List.all_eq_true.2 fun c hc => (ho c hc).1)
  have hj := joinC_own l fun c hc => (hm c hc).1
  have hcn := cnt_others l
  unfold putC
  rw [hsh]
  dsimp only
  rw [if_neg (by omega)]
  by_cases hs : (othersC l).length = l.length
  · rw [if_pos hs]
    have hx : k.toUInt8.toNat = k := u8_small (by omega)
    have hn := openC_none (c := k.toUInt8) (wayB k (othersC l)) l.length (by unfold someN; rw [hx, beq_eq_false_iff_ne]; omega)
    have hkd : kindB (k.toUInt8 :: wayB k (othersC l)) = k := by
      show kindC k.toUInt8 = k
      unfold kindC; rw [hx, if_pos (by omega)]; omega
    rw [getC_open hl hn, hkd, ← nullsC_none hs, show l.length - cnt (nullsC l) = (othersC l).length by omega, hr, Option.map_some, hj]
  · rw [if_neg hs]
    have hx : (k + 8).toUInt8.toNat = k + 8 := u8_small (by omega)
    have hpl : (packB (nullsC l)).length = need l.length := by rw [packB_length]; unfold nullsC; rw [List.length_map]
    have hnl : (nullsC l).length = l.length := by simp [nullsC]
    have htk : (packB (nullsC l) ++ wayB k (othersC l)).take (need l.length) = packB (nullsC l) := by rw [← hpl, List.take_left]
    have hdr : (packB (nullsC l) ++ wayB k (othersC l)).drop (need l.length) = wayB k (othersC l) := by rw [← hpl, List.drop_left]
    have hun : unp (packB (nullsC l)) l.length = nullsC l := by rw [← hnl]; exact unp_pack _
    have hn := openC_yes (c := (k + 8).toUInt8) (r := packB (nullsC l) ++ wayB k (othersC l)) (n := l.length) (by unfold someN; rw [hx, beq_iff_eq]; omega) (by rw [List.length_append]; omega)
      (by rw [htk, ← hnl]; exact pack_fit _) (by rw [htk, hun]; omega)
    rw [htk, hdr, hun] at hn
    have hkd : kindB ((k + 8).toUInt8 :: (packB (nullsC l) ++ wayB k (othersC l))) = k := by
      show kindC (k + 8).toUInt8 = k
      unfold kindC; rw [hx, if_pos (by omega)]; omega
    rw [getC_open hl hn, hkd, show l.length - cnt (nullsC l) = (othersC l).length by omega, hr, Option.map_some, hj]
theorem putC_pos {ty : Int} {l : List Cl} (ht : isTy ty = true) : 0 < (putC ty l).length := by
  obtain ⟨k, hk, hsh⟩ := shortC_some (othersC l) (waysOf_good ht) (fun k hk => by have := waysOf_pos ty k hk; omega)
  have := waysOf_pos ty k hk
  unfold putC
  rw [hsh]
  dsimp only
  rw [if_neg (by omega)]
  split <;> simp
/-- how many bytes it has at most -/
theorem putC_len {ty : Int} {l : List Cl} (ht : isTy ty = true) (hm : ∀ c ∈ l, mayC ty true c = true ∧ I64 c.num) : (putC ty l).length ≤ 2 + 51 * l.length := by
  have ho : ∀ c ∈ othersC l, mayC ty false c = true ∧ I64 c.num := by
    intro c hc
    obtain ⟨h1, h2⟩ := List.mem_filter.1 hc
    exact ⟨mayC_false (hm c h1).1 (by simpa using h2), (hm c h1).2⟩
  have hol : (othersC l).length ≤ l.length := List.length_filter_le _ _
  have hle := (shortC_le (othersC l) (waysOf ty) 0 [] (fun k hk => by have := waysOf_pos ty k hk; omega)).2
  have hb : (shortC (othersC l) (waysOf ty) (0, [])).2.length ≤ 50 * l.length := by
    by_cases h3 : ty = 3
    · have h := (hle 5 (by rw [h3, waysOf_txt]; simp)).1
      have h2 := plainB_bound (l := (othersC l).map Cl.txt) (B := 40) (fun x hx => by
        obtain ⟨c, hc, rfl⟩ := List.mem_map.1 hx
        exact ((mayC_parts (ho c hc).1).2.2.2 h3).2) (by unfold two64; omega)
      rw [List.length_map] at h2
      have e : wayB 5 (othersC l) = plainB ((othersC l).map Cl.txt) := rfl
      rw [e] at h
      omega
    · have h12 : ty = 1 ∨ ty = 2 := by simp [isTy] at ht; omega
      have h := (hle 1 (by rw [waysOf_num h12]; simp)).1
      have h2 := onesN_len ((othersC l).map Cl.num) (fun x hx => by
        obtain ⟨c, hc, rfl⟩ := List.mem_map.1 hx
        exact (ho c hc).2)
      rw [List.length_map] at h2
      have e : wayB 1 (othersC l) = onesN ((othersC l).map Cl.num) := rfl
      rw [e] at h
      omega
  have hpl : (packB (nullsC l)).length = need l.length := by rw [packB_length]; unfold nullsC; rw [List.length_map]
  have hnd : need l.length ≤ l.length + 1 := by unfold need; omega
  unfold putC
  generalize shortC (othersC l) (waysOf ty) (0, []) = sh at *
  split
  · simp
  · split
    · rw [List.length_cons]; omega
    · rw [List.length_cons, List.length_append]; omega

end Go.Proofs.YtheefloegbkflaaGreatDoor


namespace Go.Proofs.YtheefloegbkflaaGreatDoor
set_option linter.unusedVariables false
set_option linter.unusedSimpArgs false
set_option maxRecDepth 100000

/-- one bit goes out -/
def st (s : Nat) : Nat := if s % 2 = 1 then s / 2 ^^^ 2197175160 else s / 2
def st8 (s : Nat) : Nat := st (st (st (st (st (st (st (st s)))))))
/-- a byte goes in -/
def by1 (s : Nat) (b : UInt8) : Nat := st8 (s ^^^ b.toNat)
def run (s : Nat) (l : List UInt8) : Nat := l.foldl by1 s
/-- the sum that goes on from a sum -/
def sumOf (s : Nat) (l : List UInt8) : Nat := run (s ^^^ 4294967295) l ^^^ 4294967295

def halfTab : List Int := [0, 274646895, 549293790, 820201905, 1098587580, 1361435347, 1640403810, 1905808397, 2197175160, 2460548119, 2722870694, 2987750089, 3280807620, 3553878443, 3811616794, 4084100981]
def half (i : Nat) : Nat := (halfTab.getD i 0).toNat

theorem xor_mod2 (a b : Nat) : (a ^^^ b) % 2 = if a % 2 = b % 2 then 0 else 1 := by
  have h := Nat.xor_mod_two_eq_one (a := a) (b := b)
  have ha : a % 2 < 2 := Nat.mod_lt _ (by decide)
  have hb : b % 2 < 2 := Nat.mod_lt _ (by decide)
  have hc : (a ^^^ b) % 2 < 2 := Nat.mod_lt _ (by decide)
  by_cases e : a % 2 = b % 2
  · rw [if_pos e]
    by_cases h1 : (a ^^^ b) % 2 = 1
    · have := h.1 h1; omega
    · omega
  · rw [if_neg e]
    apply h.2
    omega
theorem xor_div2 (a b : Nat) : (a ^^^ b) / 2 = a / 2 ^^^ b / 2 := by
  have := Nat.shiftRight_xor_distrib (a := a) (b := b) (i := 1)
  simpa [Nat.shiftRight_eq_div_pow] using this
theorem xor_xor (a b : Nat) : a ^^^ b ^^^ b = a := by rw [Nat.xor_assoc, Nat.xor_self, Nat.xor_zero]

theorem st_xor (a b : Nat) : st (a ^^^ b) = st a ^^^ st b := by
  unfold st
  rw [xor_mod2, xor_div2]
  rcases Nat.mod_two_eq_zero_or_one a with h1 | h1 <;> rcases Nat.mod_two_eq_zero_or_one b with h2 | h2 <;> rw [h1, h2]
  · simp
  · simp [Nat.xor_assoc]
  · simp [Nat.xor_assoc, Nat.xor_comm (b / 2)]
  · simp only [if_true, if_neg (show ¬ (0 : Nat) = 1 by decide)]
    rw [Nat.xor_assoc (a / 2), Nat.xor_comm 2197175160, Nat.xor_assoc (b / 2), Nat.xor_self, Nat.xor_zero]
theorem st8_xor (a b : Nat) : st8 (a ^^^ b) = st8 a ^^^ st8 b := by unfold st8; simp only [st_xor]
theorem st_lt {s : Nat} (h : s < 4294967296) : st s < 4294967296 := by
  unfold st; split
  · exact Nat.xor_lt_two_pow (n := 32) (by omega) (by omega)
  · omega
theorem st8_lt {s : Nat} (h : s < 4294967296) : st8 s < 4294967296 := st_lt (st_lt (st_lt (st_lt (st_lt (st_lt (st_lt (st_lt h)))))))
theorem u8_lt (b : UInt8) : b.toNat < 256 := b.toNat_lt
theorem xor8_lt {s : Nat} (h : s < 4294967296) (b : UInt8) : s ^^^ b.toNat < 4294967296 := Nat.xor_lt_two_pow (n := 32) h (by have := u8_lt b; omega)
theorem by1_lt {s : Nat} (h : s < 4294967296) (b : UInt8) : by1 s b < 4294967296 := st8_lt (xor8_lt h b)
theorem run_lt : ∀ (l : List UInt8) {s : Nat}, s < 4294967296 → run s l < 4294967296
  | [], _, h => h
  | b :: l, _, h => run_lt l (by1_lt h b)
theorem turn_lt {s : Nat} (h : s < 4294967296) : s ^^^ 4294967295 < 4294967296 := Nat.xor_lt_two_pow (n := 32) h (by omega)
theorem sumOf_lt (l : List UInt8) {s : Nat} (h : s < 4294967296) : sumOf s l < 4294967296 := turn_lt (run_lt l (turn_lt h))
theorem run_app (s : Nat) (l m : List UInt8) : run s (l ++ m) = run (run s l) m := List.foldl_append ..
theorem run_snoc (s : Nat) (l : List UInt8) (b : UInt8) : run s (l ++ [b]) = by1 (run s l) b := by rw [run_app]; rfl
theorem sumOf_app (s : Nat) (l m : List UInt8) : sumOf s (l ++ m) = sumOf (sumOf s l) m := by
  unfold sumOf; rw [run_app, xor_xor]
theorem sumOf_nil (s : Nat) : sumOf s [] = s := xor_xor _ _

/-! ### Four bits at once -/
theorem st_two (q : Nat) : st (2 * q) = q := by
  unfold st; rw [if_neg (by omega)]; omega
theorem half_st (r : Nat) (h : r < 16) : st (st (st (st r))) = half r ∧ half r < 4294967296 := by
  have all : ∀ r : Fin 16, st (st (st (st r.1))) = half r.1 ∧ half r.1 < 4294967296 := by decide
  exact all ⟨r, h⟩
theorem part16 (s : Nat) : s = 2 * (2 * (2 * (2 * (s / 16)))) ^^^ s % 16 := by
  have h : 2 * (2 * (2 * (2 * (s / 16)))) = (s / 16) <<< 4 := by rw [Nat.shiftLeft_eq]; omega
  rw [h]
  apply Nat.eq_of_testBit_eq
  intro i
  rw [Nat.testBit_xor, Nat.testBit_shiftLeft, show (16 : Nat) = 2 ^ 4 from rfl, Nat.testBit_div_two_pow, Nat.testBit_mod_two_pow]
  by_cases hi : 4 ≤ i
  · simp [hi, Nat.not_lt.2 hi]
  · simp [hi, Nat.lt_of_not_le hi]
theorem st4_half (s : Nat) : st (st (st (st s))) = s / 16 ^^^ half (s % 16) := by
  conv => lhs; rw [part16 s]
  simp only [st_xor, st_two]
  rw [(half_st _ (Nat.mod_lt _ (by decide))).1]

/-! ### Differences -/
theorem st_ne {s : Nat} (h : s < 4294967296) (hz : s ≠ 0) : st s ≠ 0 := by
  unfold st; split
  · intro e
    have : s / 2 = 2197175160 := by
      have := congrArg (· ^^^ 2197175160) e
      simpa [xor_xor] using this
    omega
  · omega
theorem st8_ne {s : Nat} (h : s < 4294967296) (hz : s ≠ 0) : st8 s ≠ 0 := by
  have h1 := st_lt h; have h2 := st_lt h1; have h3 := st_lt h2; have h4 := st_lt h3; have h5 := st_lt h4; have h6 := st_lt h5; have h7 := st_lt h6
  exact st_ne h7 (st_ne h6 (st_ne h5 (st_ne h4 (st_ne h3 (st_ne h2 (st_ne h1 (st_ne h hz)))))))
/-- what is behind carries a difference on -/
theorem run_diff : ∀ (l : List UInt8) (s d : Nat), run (s ^^^ d) l = run s l ^^^ (l.foldl (fun d _ => st8 d) d)
  | [], _, _ => rfl
  | b :: l, s, d => by
    show run (st8 (s ^^^ d ^^^ b.toNat)) l = run (st8 (s ^^^ b.toNat)) l ^^^ _
    rw [Nat.xor_assoc, Nat.xor_comm d, ← Nat.xor_assoc, st8_xor]
    exact run_diff l _ _
theorem carry_ne : ∀ (l : List UInt8) {d : Nat}, d < 4294967296 → d ≠ 0 → l.foldl (fun d _ => st8 d) d ≠ 0
  | [], _, _, h => h
  | _ :: l, _, hd, h => carry_ne l (st8_lt hd) (st8_ne hd h)
theorem carry_zero : ∀ (l : List UInt8), l.foldl (fun d _ => st8 d) 0 = 0
  | [] => rfl
  | _ :: l => by show l.foldl (fun d _ => st8 d) (st8 0) = 0; rw [show st8 0 = 0 from by decide]; exact carry_zero l

/-- the bytes that turn, as one number -/
def numOf : List UInt8 → Nat
  | [] => 0
  | x :: xs => x.toNat ^^^ 256 * numOf xs
def stN : Nat → Nat → Nat
  | 0, d => d
  | n + 1, d => stN n (st8 d)
theorem st8_256 (q : Nat) : st8 (256 * q) = q := by
  have : 256 * q = 2 * (2 * (2 * (2 * (2 * (2 * (2 * (2 * q))))))) := by omega
  unfold st8; rw [this]; simp only [st_two]
def xors (l xs : List UInt8) : List UInt8 := List.zipWith (· ^^^ ·) l xs
theorem run_xors : ∀ (l xs : List UInt8) (s d : Nat), l.length = xs.length → run (s ^^^ d) (xors l xs) = run s l ^^^ stN l.length (d ^^^ numOf xs)
  | [], [], _, _, _ => by simp [run, xors, stN, numOf]
  | b :: l, x :: xs, s, d, h => by
    show run (st8 (s ^^^ d ^^^ (b ^^^ x).toNat)) (xors l xs) = run (st8 (s ^^^ b.toNat)) l ^^^ stN l.length (st8 (d ^^^ (x.toNat ^^^ 256 * numOf xs)))
    have e : s ^^^ d ^^^ (b ^^^ x).toNat = (s ^^^ b.toNat) ^^^ (d ^^^ x.toNat) := by
      rw [UInt8.toNat_xor]; ac_rfl
    rw [e, st8_xor, run_xors l xs _ _ (by simpa using h), ← Nat.xor_assoc, st8_xor (d ^^^ x.toNat), st8_256]
theorem stN_ne : ∀ (n : Nat) {d : Nat}, d < 4294967296 → d ≠ 0 → stN n d ≠ 0
  | 0, _, _, h => h
  | n + 1, _, hd, h => stN_ne n (st8_lt hd) (st8_ne hd h)
theorem stN_lt : ∀ (n : Nat) {d : Nat}, d < 4294967296 → stN n d < 4294967296
  | 0, _, h => h
  | n + 1, _, h => stN_lt n (st8_lt h)
theorem stN_zero : ∀ (n : Nat), stN n 0 = 0
  | 0 => rfl
  | n + 1 => by show stN n (st8 0) = 0; rw [show st8 0 = 0 from by decide]; exact stN_zero n
theorem xor_add256 (x : UInt8) (q : Nat) : x.toNat ^^^ 256 * q = x.toNat + 256 * q := by
  have hx := u8_lt x
  have h := Nat.shiftLeft_add_eq_or_of_lt (a := q) (b := x.toNat) (i := 8) (by omega)
  apply Nat.eq_of_testBit_eq
  intro i
  rw [Nat.add_comm, show 256 * q = q <<< 8 by rw [Nat.shiftLeft_eq]; omega, h, Nat.testBit_xor, Nat.testBit_or]
  by_cases hi : 8 ≤ i
  · have : Nat.testBit x.toNat i = false := Nat.testBit_lt_two_pow (Nat.lt_of_lt_of_le hx (show 2 ^ 8 ≤ 2 ^ i from Nat.pow_le_pow_right (by decide) hi))
    simp [this]
  · have : Nat.testBit (q <<< 8) i = false := by rw [Nat.testBit_shiftLeft]; simp [hi]
    simp [this]
theorem numOf_lt : ∀ (xs : List UInt8), numOf xs < 256 ^ xs.length
  | [] => by decide
  | x :: xs => by
    have := numOf_lt xs
    have hx := u8_lt x
    show x.toNat ^^^ 256 * numOf xs < 256 ^ (xs.length + 1)
    rw [xor_add256, Nat.pow_succ]; omega
theorem numOf_zero : ∀ (xs : List UInt8), numOf xs = 0 ↔ ∀ x ∈ xs, x = 0
  | [] => by simp [numOf]
  | x :: xs => by
    have ih := numOf_zero xs
    show x.toNat ^^^ 256 * numOf xs = 0 ↔ _
    rw [xor_add256, List.forall_mem_cons, ← ih, ← UInt8.toNat_inj]
    simp; omega

/-- up to four neighbours are turned: another sum -/
theorem tells (p l xs r : List UInt8) (h : l.length = xs.length) (h4 : xs.length ≤ 4) (s : Nat) :
    sumOf s (p ++ (l ++ r)) = sumOf s (p ++ (xors l xs ++ r)) ↔ ∀ x ∈ xs, x = 0 := by
  have hN : numOf xs < 4294967296 := Nat.lt_of_lt_of_le (numOf_lt xs) (Nat.le_trans (Nat.pow_le_pow_right (by decide) h4) (by decide))
  rw [← numOf_zero]
  unfold sumOf
  rw [run_app, run_app, run_app, run_app]
  generalize run (s ^^^ 4294967295) p = A
  have e := run_xors l xs A 0 h
  rw [Nat.xor_zero, Nat.zero_xor] at e
  rw [e, run_diff r]
  generalize run (run A l) r = B
  constructor
  · intro e
    apply Decidable.byContradiction
    intro hz
    have h1 := carry_ne r (stN_lt l.length hN) (stN_ne l.length hN hz)
    apply h1
    have := congrArg (· ^^^ 4294967295) e
    simp only [xor_xor] at this
    have h2 := congrArg (B ^^^ ·) this
    simp only [Nat.xor_self, ← Nat.xor_assoc, Nat.zero_xor] at h2
    exact h2.symm
  · intro e
    rw [e, stN_zero, carry_zero, Nat.xor_zero]

/-! ### The bytes as the law turns them, one by one -/
def mk (b xs : List UInt8) (a k : Nat) : List UInt8 := b.take a ++ (xors ((b.drop a).take k) (xs.take k) ++ b.drop (a + k))
theorem xors_length (l xs : List UInt8) : (xors l xs).length = min l.length xs.length := by simp [xors]
theorem mk_length (b xs : List UInt8) (a k : Nat) (h1 : a + k ≤ b.length) (h2 : k ≤ xs.length) : (mk b xs a k).length = b.length := by
  unfold mk; simp [xors_length]; omega
theorem mk_tells (b xs : List UInt8) (a k : Nat) (h1 : a + k ≤ b.length) (h2 : k ≤ xs.length) (h4 : k ≤ 4) (s : Nat) : sumOf s b = sumOf s (mk b xs a k) ↔ ∀ x ∈ xs.take k, x = 0 := by
  have e : b = b.take a ++ ((b.drop a).take k ++ b.drop (a + k)) := by
    rw [← List.drop_drop, List.take_append_drop, List.take_append_drop]
  have := tells (b.take a) ((b.drop a).take k) (xs.take k) (b.drop (a + k)) (by simp; omega) (by simp; omega) s
  rw [← e] at this
  exact this

end Go.Proofs.YtheefloegbkflaaGreatDoor


namespace Go.Proofs.YtheefloegbkflaaGreatDoor
set_option linter.unusedVariables false
set_option linter.unusedSimpArgs false
set_option maxRecDepth 100000

/-- a sum as four bytes, the lowest first -/
def sum4 (n : Nat) : List UInt8 := [(n % 256).toUInt8, (n / 256 % 256).toUInt8, (n / 65536 % 256).toUInt8, (n / 16777216 % 256).toUInt8]
theorem sum4_length (n : Nat) : (sum4 n).length = 4 := rfl
theorem u8_eq_of {a b : Nat} (ha : a < 256) (hb : b < 256) (h : a.toUInt8 = b.toUInt8) : a = b := by
  have := congrArg UInt8.toNat h
  rwa [toNat_small ha, toNat_small hb] at this
theorem sum4_inj {a b : Nat} (ha : a < 4294967296) (hb : b < 4294967296) (h : sum4 a = sum4 b) : a = b := by
  unfold sum4 at h
  simp only [List.cons.injEq, and_true] at h
  obtain ⟨h0, h1, h2, h3⟩ := h
  have e0 := u8_eq_of (by omega) (by omega) h0
  have e1 := u8_eq_of (by omega) (by omega) h1
  have e2 := u8_eq_of (by omega) (by omega) h2
  have e3 := u8_eq_of (by omega) (by omega) h3
  omega
/-- a frame's bytes -/
def frameB (l : List UInt8) : List UInt8 := Lib.uvarint l.length ++ (sum4 (sumOf 0 l) ++ l)
/-- the number that a frame's head says, and how many bytes it has: 0, if there is none -/
def hN (l : List UInt8) : Nat := match rd 0 0 l with | none => 0 | some (n, _) => if n ≤ 1048576 then n else 0
def hS (l : List UInt8) : Nat := match rd 0 0 l with | none => 0 | some (n, r) => if n ≤ 1048576 then l.length - r.length else 0
def fits (l : List UInt8) : Bool := decide (hS l ≠ 0 ∧ hS l + 4 + hN l ≤ l.length)
def bodyF (l : List UInt8) : List UInt8 := (l.drop (hS l + 4)).take (hN l)
def sumOk (l : List UInt8) : Bool := (l.drop (hS l)).take 4 == sum4 (sumOf 0 (bodyF l))
def gE (l : List UInt8) : Nat := if fits l then (if sumOk l then 0 else 13) else 2
def gB (l : List UInt8) : List UInt8 := if fits l && sumOk l then bodyF l else []
def gN (l : List UInt8) : Nat := if fits l && sumOk l then hS l + 4 + hN l else 0

theorem uv_len3 {n : Nat} (h : n < 2097152) : (Lib.uvarint n).length ≤ 3 := by
  by_cases h1 : n < 128
  · rw [Lib.uvarint_small h1]; simp
  · rw [Lib.uvarint_big (by omega)]
    by_cases h2 : n / 128 < 128
    · rw [Lib.uvarint_small h2]; simp
    · rw [Lib.uvarint_big (by omega)]
      rw [Lib.uvarint_small (by omega)]; simp
theorem uv_pos (n : Nat) : 1 ≤ (Lib.uvarint n).length := by
  by_cases h1 : n < 128
  · rw [Lib.uvarint_small h1]; simp
  · rw [Lib.uvarint_big (by omega)]; simp
theorem uv_big20 : (Lib.uvarint 1048576).length = 3 := by decide +kernel

theorem hS_le (l : List UInt8) : hS l ≤ l.length := by
  unfold hS; split
  · omega
  · split <;> omega
theorem hN_le (l : List UInt8) : hN l ≤ 1048576 := by
  unfold hN; split
  · omega
  · split <;> omega
theorem head_some {l : List UInt8} {n : Nat} {r : List UInt8} (h : rd 0 0 l = some (n, r)) (hn : n ≤ 1048576) : hN l = n ∧ hS l = l.length - r.length := by
  unfold hN hS; rw [h]; simp [hn]
theorem head_big {l : List UInt8} {n : Nat} {r : List UInt8} (h : rd 0 0 l = some (n, r)) (hn : ¬ n ≤ 1048576) : hN l = 0 ∧ hS l = 0 := by
  unfold hN hS; rw [h]; simp [hn]
theorem head_none {l : List UInt8} (h : rd 0 0 l = none) : hN l = 0 ∧ hS l = 0 := by
  unfold hN hS; rw [h]; exact ⟨rfl, rfl⟩
theorem head_own {n : Nat} (hn : n ≤ 1048576) (r : List UInt8) : hN (Lib.uvarint n ++ r) = n ∧ hS (Lib.uvarint n ++ r) = (Lib.uvarint n).length := by
  have h := rd_own (n := n) (by unfold two64; omega) r
  have h2 := head_some h hn
  refine ⟨h2.1, ?_⟩
  rw [h2.2, List.length_append]; omega

/-- three bytes are enough to tell a head -/
theorem head3 (l : List UInt8) : (mostB (l.take 3) 1048576 = true ∧ hN l = 0 ∧ hS l = 0) ∨
    (mostB (l.take 3) 1048576 = false ∧ mostV (l.take 3) 1048576 = hN l ∧ (l.take 3).length = hS l + (mostR (l.take 3) 1048576).length ∧ 1 ≤ hS l) := by
  cases h3 : rd 0 0 (l.take 3) with
  | none =>
    left
    obtain ⟨h31, h32, h33, h34⟩ := rest_none h3
    refine ⟨?_, ?_⟩
    · unfold mostB; split
      · exact h32
      · rfl
    · cases h : rd 0 0 l with
      | none => exact head_none h
      | some p =>
        obtain ⟨n, r⟩ := p
        by_cases hn : n ≤ 1048576
        · exfalso
          have hl := rd_is h
          have h1 := uv_len3 (n := n) (by omega)
          have ht : l.take 3 = Lib.uvarint n ++ r.take (3 - (Lib.uvarint n).length) := by
            rw [hl, List.take_append, List.take_of_length_le h1]
          rw [ht, rd_own (by unfold two64; omega)] at h3
          cases h3
        · exact head_big h hn
  | some p =>
    obtain ⟨n, r⟩ := p
    obtain ⟨h31, h32, h33, h34⟩ := rest_some h3
    have hlt := rd_lt h3
    have ht := rd_is h3
    have hl : l = Lib.uvarint n ++ (r ++ l.drop 3) := by
      rw [← List.append_assoc, ← ht, List.take_append_drop]
    have h : rd 0 0 l = some (n, r ++ l.drop 3) := by
      conv => lhs; rw [hl]
      exact rd_own hlt _
    by_cases hn : n ≤ 1048576
    · right
      have hok : mostOk (l.take 3) 1048576 = true := by unfold mostOk; rw [decide_eq_true]; rw [h33]; omega
      have hh := head_some h hn
      have hlen : (l.take 3).length = (Lib.uvarint n).length + r.length := by rw [ht, List.length_append]
      have hlen2 : l.length = (Lib.uvarint n).length + (r.length + (l.drop 3).length) := by
        conv => lhs; rw [hl]
        simp only [List.length_append]
      have hp := uv_pos n
      refine ⟨?_, ?_, ?_, ?_⟩
      · unfold mostB; rw [if_pos hok]; exact h32
      · unfold mostV; rw [if_pos hok, h33, hh.1]
      · unfold mostR; rw [if_pos hok, h31, hh.2, List.length_append]; omega
      · rw [hh.2, List.length_append]; omega
    · left
      have hok : mostOk (l.take 3) 1048576 = false := by unfold mostOk; rw [decide_eq_false]; rw [h33]; omega
      refine ⟨?_, head_big h hn⟩
      unfold mostB; rw [hok]; rfl

/-! ### What is put is got -/
theorem parts_of {n : Nat} (hn : n ≤ 1048576) (q c more : List UInt8) (hq : q.length = 4) (hc : c.length = n) :
    hN (Lib.uvarint n ++ (q ++ (c ++ more))) = n ∧ hS (Lib.uvarint n ++ (q ++ (c ++ more))) = (Lib.uvarint n).length ∧ fits (Lib.uvarint n ++ (q ++ (c ++ more))) = true ∧ bodyF (Lib.uvarint n ++ (q ++ (c ++ more))) = c ∧
      sumOk (Lib.uvarint n ++ (q ++ (c ++ more))) = (q == sum4 (sumOf 0 c)) := by
  obtain ⟨h1, h2⟩ := head_own hn (q ++ (c ++ more))
  have hp := uv_pos n
  have hb : bodyF (Lib.uvarint n ++ (q ++ (c ++ more))) = c := by
    unfold bodyF
    rw [h1, h2, ← List.drop_drop, List.drop_left, ← hq, List.drop_left, ← hc, List.take_left]
  refine ⟨h1, h2, ?_, hb, ?_⟩
  · unfold fits; rw [h1, h2, decide_eq_true]; simp only [List.length_append]; omega
  · unfold sumOk
    rw [hb, h2, List.drop_left, ← hq, List.take_left]
theorem frame_length (l : List UInt8) : (frameB l).length = (Lib.uvarint l.length).length + 4 + l.length := by
  unfold frameB; simp only [List.length_append, sum4_length]; omega
theorem got_own {l : List UInt8} (hl : l.length ≤ 1048576) (more : List UInt8) : gE (frameB l ++ more) = 0 ∧ gB (frameB l ++ more) = l ∧ gN (frameB l ++ more) = (frameB l).length := by
  have e : frameB l ++ more = Lib.uvarint l.length ++ (sum4 (sumOf 0 l) ++ (l ++ more)) := by unfold frameB; simp only [List.append_assoc]
  obtain ⟨h1, h2, h3, h4, h5⟩ := parts_of hl (sum4 (sumOf 0 l)) l more rfl rfl
  have h6 : sumOk (frameB l ++ more) = true := by rw [e, h5, beq_self_eq_true]
  rw [← e] at h1 h2 h3 h4
  unfold gE gB gN
  rw [h3, h6]
  refine ⟨rfl, h4, ?_⟩
  rw [frame_length]
  simp [h1, h2]

/-! ### What is told of a changed body -/
theorem mk_behind (p b xs : List UInt8) (a k : Nat) : mk (p ++ b) xs (p.length + a) k = p ++ mk b xs a k := by
  unfold mk
  have e1 : (p ++ b).take (p.length + a) = p ++ b.take a := by rw [List.take_append, List.take_of_length_le (by omega)]; simp
  have e2 : (p ++ b).drop (p.length + a) = b.drop a := by rw [List.drop_append, List.drop_of_length_le (by omega)]; simp
  have e3 : (p ++ b).drop (p.length + a + k) = b.drop (a + k) := by rw [Nat.add_assoc, List.drop_append, List.drop_of_length_le (by omega)]; simp
  rw [e1, e2, e3, List.append_assoc]
theorem told {l xs : List UInt8} (hl : l.length ≤ 1048576) (a k : Nat) (h1 : a + k ≤ l.length) (h2 : k ≤ xs.length) (h4 : k ≤ 4) (hk : 0 < k) (hx : ∀ h : 0 < xs.length, xs[0] ≠ 0) :
    gE (mk (frameB l) xs ((frameB l).length - l.length + a) k) = 13 := by
  have hlen := frame_length l
  have e0 : frameB l = (Lib.uvarint l.length ++ sum4 (sumOf 0 l)) ++ l := by unfold frameB; rw [List.append_assoc]
  have el : (frameB l).length - l.length = (Lib.uvarint l.length ++ sum4 (sumOf 0 l)).length := by rw [List.length_append, sum4_length]; omega
  have e : mk (frameB l) xs ((frameB l).length - l.length + a) k = Lib.uvarint l.length ++ (sum4 (sumOf 0 l) ++ (mk l xs a k ++ [])) := by
    rw [el, e0, mk_behind, List.append_nil, List.append_assoc]
  obtain ⟨h1', h2', h3', h4', h5'⟩ := parts_of hl (sum4 (sumOf 0 l)) (mk l xs a k) [] rfl (mk_length l xs a k h1 h2)
  have hne : sum4 (sumOf 0 l) ≠ sum4 (sumOf 0 (mk l xs a k)) := by
    intro h
    have h := sum4_inj (sumOf_lt _ (by decide)) (sumOf_lt _ (by decide)) h
    have := (mk_tells l xs a k h1 h2 h4 0).1 h
    have h0 : 0 < xs.length := by omega
    exact hx h0 (this xs[0] (by
      rw [List.mem_take_iff_getElem]
      exact ⟨0, by omega, rfl⟩))
  rw [e]
  unfold gE
  rw [h3', h5', beq_eq_false_iff_ne.2 hne]
  rfl
/-! ### Frames one behind the other -/
def allF : Nat → List UInt8 → List (List UInt8)
  | 0, _ => []
  | f + 1, l => if gE l = 0 then gB l :: allF f (l.drop (gN l)) else []
def allN : Nat → List UInt8 → Nat
  | 0, _ => 0
  | f + 1, l => if gE l = 0 then gN l + allN f (l.drop (gN l)) else 0

theorem gE_zero {l : List UInt8} (h : gE l = 0) : 5 ≤ gN l ∧ gN l ≤ l.length := by
  unfold gE at h
  unfold gN
  cases hf : fits l
  · rw [hf] at h; simp at h
  · cases hs : sumOk l
    · rw [hf, hs] at h; simp at h
    · simp
      have := of_decide_eq_true (show decide (hS l ≠ 0 ∧ hS l + 4 + hN l ≤ l.length) = true from hf)
      omega
theorem all_step {f : Nat} {l : List UInt8} (h : gE l = 0) (hf : l.length ≤ f) : ∃ f', allF f l = gB l :: allF f' (l.drop (gN l)) ∧ allN f l = gN l + allN f' (l.drop (gN l)) ∧ (l.drop (gN l)).length ≤ f' ∧ f = f' + 1 := by
  have h2 := gE_zero h
  cases f with
  | zero => omega
  | succ f =>
    refine ⟨f, ?_, ?_, by rw [List.length_drop]; omega, rfl⟩
    · rw [allF, if_pos h]
    · rw [allN, if_pos h]
/-- where the frames of l have come so far: pre has been told, and what follows begins at pos -/
def Sofar (l : List UInt8) (pre : List (List UInt8)) (pos : Nat) : Prop :=
  pos ≤ l.length ∧ ∃ f, allF l.length l = pre ++ allF f (l.drop pos) ∧ allN l.length l = pos + allN f (l.drop pos) ∧ (l.drop pos).length ≤ f
theorem Sofar.step {l : List UInt8} {pre : List (List UInt8)} {pos : Nat} (h : Sofar l pre pos) (hg : gE (l.drop pos) = 0) : Sofar l (pre ++ [gB (l.drop pos)]) (pos + gN (l.drop pos)) := by
  obtain ⟨h0, f, h1, h2, h3⟩ := h
  obtain ⟨f', e1, e2, e3, _⟩ := all_step hg h3
  have hz := gE_zero hg
  rw [List.length_drop] at hz
  rw [List.drop_drop] at e1 e2 e3
  exact ⟨by omega, f', by rw [h1, e1]; simp, by rw [h2, e2]; omega, e3⟩
end Go.Proofs.YtheefloegbkflaaGreatDoor


namespace Go.Proofs.YtheefloegbkflaaGreatDoor
set_option linter.unusedVariables false
set_option linter.unusedSimpArgs false
set_option maxRecDepth 100000
open Go.ChangeShapes Go.WideShapes Go.ChangeAt Go.RowKit

/-- f: an element's cells, k of them -/
structure Fd {α : Type} (f : α → List Value) (k : Nat) : Prop where
  len : ∀ x, (f x).length = k
  one : ∀ x, ∀ u ∈ f x, u.oneCell' = true
  pos : 0 < k
  small : k ≤ 64

section
variable {α : Type} {f : α → List Value} {k : Nat}

theorem catN_len (h : Fd f k) (l : List α) : (l.flatMap f).length = l.length * k := by
  induction l with
  | nil => simp
  | cons c l ih => rw [List.flatMap_cons, List.length_append, ih, h.len, List.length_cons, Nat.succ_mul, Nat.add_comm]
theorem catN_at (h : Fd f k) (l : List α) (j i : Nat) (hj : j < l.length) (hi : i < k) : (l.flatMap f)[j * k + i]? = (f l[j])[i]? := by
  induction l generalizing j with
  | nil => cases hj
  | cons c l ih =>
    rw [List.flatMap_cons]
    cases j with
    | zero => rw [List.getElem?_append_left (by rw [h.len]; omega)]; simp
    | succ j =>
      rw [Nat.succ_mul, List.getElem?_append_right (by rw [h.len]; omega)]
      rw [show j * k + k + i - (f c).length = j * k + i by rw [h.len]; omega]
      exact ih j (by simpa using hj)
theorem catN_one (h : Fd f k) (l : List α) : ∀ u ∈ l.flatMap f, u.oneCell' = true := by
  intro u hu
  obtain ⟨c, _, hc⟩ := List.mem_flatMap.1 hu
  exact h.one c u hc
theorem catN_set (h : Fd f k) (l : List α) (j i : Nat) (u : Value) (x y : α) (hj : l[j]? = some y) (hi : i < k) (hx : f x = (f y).set i u) : (l.set j x).flatMap f = (l.flatMap f).set (j * k + i) u := by
  induction l generalizing j with
  | nil => simp at hj
  | cons d l ih =>
    cases j with
    | zero =>
      obtain rfl : d = y := by simpa using hj
      rw [List.set_cons_zero, List.flatMap_cons, List.flatMap_cons, hx, List.set_append_left _ _ (by rw [h.len]; omega)]
      simp
    | succ j =>
      rw [List.set_cons_succ, List.flatMap_cons, List.flatMap_cons, ih j (by simpa using hj), Nat.succ_mul]
      rw [List.set_append_right _ _ (by rw [h.len]; omega), show j * k + k + i - (f d).length = j * k + i by rw [h.len]; omega]

/-- cells, one behind the other, that hold us -/
def AtN (w : World) (a : Addr) (us : List Value) : Prop := ∀ (i : Nat) (u : Value), us[i]? = some u → w.cell? (a.add i) = some u
theorem AtN.keep {w w' : World} {a : Addr} {us : List Value} (h : AtN w a us) (hk : a.block < w.heap.size → w'.heap[a.block]? = w.heap[a.block]?) : AtN w' a us := by
  intro i u hu
  have h1 := h i u hu
  have hb := World.block_lt_of_cell? w _ h1
  rw [add_block] at hb
  rw [← h1]
  exact World.cell?_of_block (by rw [add_block]; exact hk hb)
theorem AtN.non {w w' : World} {a : Addr} {us : List Value} (h : AtN w a us) (hf : Fr Non w w') : AtN w' a us := h.keep fun hb => hf.block _ hb (fun e => e)

/-- the slice v reads as the list l, each element's cells being f of it -/
def Ns (f : α → List Value) (k : Nat) (w : World) (v : Value) (l : List α) : Prop :=
  ∃ A c, v = .slice A l.length c ∧ l.length ≤ c ∧ (A = none → c = 0) ∧ ∀ a, A = some a → ∀ j (h : j < l.length), AtN w (a.add (j * k)) (f l[j])
/-- a row of the call's own, from block B on, of elements of type E -/
def No (f : α → List Value) (k : Nat) (E : TypeId) (w : World) (B : Nat) (v : Value) (l : List α) : Prop := w.ownsRow B E k v l.length (l.flatMap f)

theorem Ns.nil_ (w : World) : Ns f k w (.slice none 0 0) [] := ⟨none, 0, rfl, Nat.le_refl _, fun _ => rfl, fun _ h => by cases h⟩
theorem Ns.keep {w w' : World} {v : Value} {l : List α} (h : Ns f k w v l) (hk : ∀ b, v.ownBlock = some b → b < w.heap.size → w'.heap[b]? = w.heap[b]?) : Ns f k w' v l := by
  obtain ⟨A, c, rfl, h1, h2, h3⟩ := h
  refine ⟨A, c, rfl, h1, h2, fun a ha j hj => ?_⟩
  subst ha
  refine (h3 a rfl j hj).keep fun hb => ?_
  rw [add_block] at hb ⊢
  exact hk _ rfl hb
theorem Ns.fr {S : Nat → Prop} {w w' : World} {v : Value} {l : List α} (h : Ns f k w v l) (hf : Fr S w w') (hn : ∀ b, v.ownBlock = some b → ¬ S b) : Ns f k w' v l :=
  h.keep fun b hb hlt => hf.block b hlt (hn b hb)
theorem Ns.non {w w' : World} {v : Value} {l : List α} (h : Ns f k w v l) (hf : Fr Non w w') : Ns f k w' v l := h.fr hf fun _ _ e => e
theorem Ns.drew {w : World} {v : Value} {l : List α} (h : Ns f k w v l) : Ns f k w.drew v l := h.keep fun _ _ _ => rfl
theorem Ns.drewN {w : World} {v : Value} {l : List α} (h : Ns f k w v l) (n : Nat) : Ns f k (w.drewN n) v l := h.keep fun _ _ _ => rfl
theorem Ns.shape {w : World} {v : Value} {l : List α} (h : Ns f k w v l) : ∃ A c, v = .slice A l.length c := by
  obtain ⟨A, c, rfl, _⟩ := h; exact ⟨A, c, rfl⟩
theorem Ns.addr {w : World} {A : Option Addr} {n c : Nat} {l : List α} (h : Ns f k w (.slice A n c) l) (hl : 0 < n) : ∃ a, A = some a ∧ n = l.length ∧ n ≤ c ∧ ∀ j (h : j < l.length), AtN w (a.add (j * k)) (f l[j]) := by
  obtain ⟨A0, c0, he, h1, h2, h3⟩ := h
  simp only [Value.slice.injEq] at he
  obtain ⟨rfl, rfl, rfl⟩ := he
  cases A with
  | none => have := h2 rfl; omega
  | some a => exact ⟨a, rfl, rfl, h1, h3 a rfl⟩
/-- the element at j -/
theorem Ns.at_ {w : World} {A : Option Addr} {n c : Nat} {l : List α} (h : Ns f k w (.slice A n c) l) (j : Nat) (x : α) (hx : l[j]? = some x) : ∃ a, A = some a ∧ AtN w (a.add (j * k)) (f x) := by
  obtain ⟨hj, rfl⟩ := List.getElem?_eq_some_iff.1 hx
  obtain ⟨A0, c0, he, h1, h2, h3⟩ := h
  simp only [Value.slice.injEq] at he
  obtain ⟨rfl, rfl, rfl⟩ := he
  cases A with
  | none => have := h2 rfl; omega
  | some a => exact ⟨a, rfl, h3 a rfl j hj⟩

variable {E : TypeId}
theorem no_nil (w : World) (B : Nat) : No f k E w B (.slice none 0 0) [] := ⟨by simp, .inl ⟨rfl, rfl⟩⟩
theorem No.lt {w : World} {B : Nat} {v : Value} {l : List α} (h : No f k E w B v l) : ∀ b, v.ownBlock = some b → B ≤ b ∧ b < w.heap.size := World.ownsRow.lt h
theorem No.ns (hF : Fd f k) {w : World} {B : Nat} {v : Value} {l : List α} (h : No f k E w B v l) : Ns f k w v l := by
  rcases h.2 with ⟨rfl, h0⟩ | ⟨g, cap, cur, rfl, _, _, hle, _, _, _⟩
  · have hl : l = [] := List.eq_nil_of_length_eq_zero h0
    subst hl; exact Ns.nil_ w
  · refine ⟨_, cap, rfl, hle, (fun h => by cases h), fun a ha j hj i u hu => ?_⟩
    cases ha
    have hi : i < k := by rw [← hF.len l[j]]; exact (List.getElem?_eq_some_iff.1 hu).1
    rw [add_add]
    exact World.ownsRow.cells h (g := g) rfl (j * k + i) _ ((catN_at hF l j i hj hi).trans hu)
theorem No.keep {w w' : World} {B : Nat} {v : Value} {l : List α} (h : No f k E w B v l) (hk : ∀ b, v.ownBlock = some b → w'.heap[b]? = w.heap[b]?) : No f k E w' B v l := by
  refine ⟨h.1, ?_⟩
  rcases h.2 with h2 | ⟨g, cap, cur, hv, hb, hg, r⟩
  · exact .inl h2
  · exact .inr ⟨g, cap, cur, hv, hb, by rw [hk g (by rw [hv]; rfl)]; exact hg, r⟩
theorem No.fr {S : Nat → Prop} {w w' : World} {B : Nat} {v : Value} {l : List α} (h : No f k E w B v l) (hf : Fr S w w') (hn : ∀ b, v.ownBlock = some b → ¬ S b) : No f k E w' B v l :=
  h.keep fun b hb => hf.block b (h.lt b hb).2 (hn b hb)
theorem No.non {w w' : World} {B : Nat} {v : Value} {l : List α} (h : No f k E w B v l) (hf : Fr Non w w') : No f k E w' B v l := h.fr hf fun _ _ e => e
theorem No.alloc {w : World} {B : Nat} {v : Value} {l : List α} (h : No f k E w B v l) (o : Obj) : No f k E (w.alloc o) B v l := h.non ((Fr.refl _ _).alloc o)
theorem No.drew {w : World} {B : Nat} {v : Value} {l : List α} (h : No f k E w B v l) : No f k E w.drew B v l := h
theorem No.mono {w : World} {B B' : Nat} {v : Value} {l : List α} (h : No f k E w B v l) (hB : B' ≤ B) : No f k E w B' v l := by
  refine ⟨h.1, ?_⟩
  rcases h.2 with h2 | ⟨g, cap, cur, hv, hb, r⟩
  · exact .inl h2
  · exact .inr ⟨g, cap, cur, hv, by omega, r⟩
theorem No.kind {w : World} {B : Nat} {v : Value} {l : List α} (h : No f k E w B v l) : ∀ b, v.ownBlock = some b → ∃ cur, w.heap[b]? = some (.cells cur E (0, 0)) := by
  intro b hk
  rcases h.2 with ⟨rfl, _⟩ | ⟨g, cap, cur, rfl, _, hg, _⟩
  · cases hk
  · obtain rfl : g = b := by simpa [Value.ownBlock] using hk
    exact ⟨cur, hg⟩
theorem No.row {w : World} {B : Nat} {v : Value} {l : List α} (h : No f k E w B v l) (hn : 0 < l.length) : ∃ g cap, v = .slice (some ⟨g, 0, none⟩) l.length cap ∧ B ≤ g ∧ g < w.heap.size ∧ l.length ≤ cap ∧ cap ≤ maxLen := by
  rcases h.2 with ⟨rfl, h0⟩ | ⟨g, cap, cur, rfl, hb, hg, hle, hm, _⟩
  · omega
  · exact ⟨g, cap, rfl, hb, (Array.getElem?_eq_some_iff.1 hg).1, hle, hm⟩
/-- what a walk asks of a row's element at j -/
theorem No.el (hF : Fd f k) {w : World} {B g n cap : Nat} {l : List α} (h : No f k E w B (.slice (some ⟨g, 0, none⟩) n cap) l) (hn : n = l.length) (j i : Nat) (x : α) (u : Value) (hx : l[j]? = some x) (hu : (f x)[i]? = some u) : w.cell? ⟨g, j * k + i, none⟩ = some u := by
  subst hn
  obtain ⟨hj, rfl⟩ := List.getElem?_eq_some_iff.1 hx
  have hi : i < k := by rw [← hF.len l[j]]; exact (List.getElem?_eq_some_iff.1 hu).1
  have hjk : (j + 1) * k ≤ l.length * k := Nat.mul_le_mul_right k hj
  rw [Nat.succ_mul] at hjk
  rw [World.ownsRow.cellAt h (j * k + i) (by omega), catN_at hF l j i hj hi]
  exact hu
theorem No.frozen {w : World} {B g n cap : Nat} {l : List α} (h : No f k E w B (.slice (some ⟨g, 0, none⟩) n cap) l) (hn : n = l.length) (j : Nat) : w.frozen? ⟨g, j, none⟩ = false := by
  subst hn; exact World.ownsRow.frozenAt h j
/-- one value stored -/
theorem No.put (hF : Fd f k) {w : World} {B g n cap : Nat} {l : List α} (h : No f k E w B (.slice (some ⟨g, 0, none⟩) n cap) l) (hn : n = l.length) (j i : Nat) (x y : α) (u : Value) (hy : l[j]? = some y) (hi : i < k) (hx : f x = (f y).set i u) :
    No f k E (w.setCell ⟨g, j * k + i, none⟩ u) B (.slice (some ⟨g, 0, none⟩) n cap) (l.set j x) := by
  subst hn
  unfold No
  rw [List.length_set, catN_set hF l j i u x y hy hi hx]
  exact (World.ownsRow.stored h (j * k + i) u).1
theorem no_lit (hF : Fd f k) (w : World) (B g : Nat) (l : List α) (cs : Array Value) (hcs : cs.toList = l.flatMap f) (hg : g = w.heap.size) (hB : B ≤ g) (hm : l.length ≤ 1000000) : No f k E (w.alloc (.cells cs E)) B (.slice (some ⟨g, 0, none⟩) l.length l.length) l := by
  subst hg
  have h := World.ownsRow_lit (e := E) (size := k) w cs l.length hB (by unfold maxLen; omega) (by rw [← Array.length_toList, hcs, catN_len hF])
  rw [hcs] at h
  exact h
/-- T: slices of E, whose elements have k cells; z: E's value of noughts -/
structure Eln (T E : TypeId) (z : Value) (k by_ : Nat) : Prop where
  under : Tryz.prog.underlying T = some (.slice E)
  info : (Tryz.prog.info? E).map (fun i => (i.zero, i.size, i.bytes)) = some (some z, k, by_)
  cells : z.cells.size = k
  small : by_ ≤ 512
variable {T : TypeId} {z : Value} {by_ : Nat}
/-- append of a slice's elements: the operation alone -/
theorem wp_appN (hF : Fd f k) (hE : Eln T E z k by_) {w : World} {o : Oper} {a : Act} {K : Act → World → Prop} {Q : Exit → Act → World → Prop} (s x : Operand)
    (ho : o.op = .call { callee := .builtin .append, args := #[s, x], argTypes := #[T, T] })
    (B : Nat) (v y : Value) (l m : List α) (hs : a.eval s = v) (hown : No f k E w B v l) (hx : a.eval x = y) (hy : Ns f k w y m)
    (hl : l.length + m.length < 68719476736) (hB : B ≤ w.heap.size)
    (h : ∀ v' w', No f k E w' B v' (l ++ m) → Fr (fun b => v.ownBlock = some b) w w' → K (a.put o.dst v') w') : o.wp Tryz.prog a w K Q := by
  obtain ⟨ii, hi, hz0, hz1, hz2⟩ := info_parts hE.info
  have hs' := hE.small
  have hk' := hF.small
  have hbl : (l.length + m.length) * by_ ≤ 35184372088832 := by
    have := Nat.mul_le_mul (show l.length + m.length ≤ 68719476736 by omega) hs'
    omega
  have hbk : (l.length + m.length) * k ≤ 4398046511104 := by
    have := Nat.mul_le_mul (show l.length + m.length ≤ 68719476736 by omega) hk'
    omega
  obtain ⟨A, c, rfl, hmc, hn, hcells⟩ := hy
  cases A with
  | some ad =>
    refine wp_append_own w s x T ho B E ii z k by_ hE.under hi hz0 hz1 hz2 hE.cells hF.pos v l.length (l.flatMap f) hs hown ad m.length c (m.flatMap f) hx (catN_len hF m) ?_ (catN_one hF m) (by unfold maxLen; omega) (by omega) hB ?_
    · intro j u hu
      have hp := hF.pos
      have hj : j < m.length * k := by rw [← catN_len hF]; exact (List.getElem?_eq_some_iff.1 hu).1
      have hd : j / k < m.length := Nat.div_lt_of_lt_mul (by rw [Nat.mul_comm]; exact hj)
      have hat := catN_at hF m (j / k) (j % k) hd (Nat.mod_lt _ hp)
      have ej : j / k * k + j % k = j := by rw [Nat.mul_comm]; exact Nat.div_add_mod j k
      rw [ej, hu] at hat
      have h3 := hcells ad rfl (j / k) hd (j % k) u hat.symm
      rw [add_add, ej] at h3
      exact h3
    · intro v' w' h1 h2 _
      refine h v' w' ?_ (Fr.of_grown h2)
      unfold No
      rw [List.flatMap_append, List.length_append]
      exact h1
  | none =>
    have hm : m = [] := List.eq_nil_of_length_eq_zero (by have := hn rfl; omega)
    subst hm
    have hc : c = 0 := hn rfl
    subst hc
    have hrun := run_append_owned_none (P := Tryz.prog) (w := w) B T o.type E ii k hE.under hi v l.length (l.flatMap f) hown
    unfold Oper.wp
    have hx' : a.eval x = .slice none 0 0 := hx
    simp [execOp, ho, resolve, invoke, builtin, hs, hx', hrun, Result.andThen]
    exact h v w (by simpa using hown) (Fr.refl _ _)
/-- append of one element, which was stored in a new block first -/
theorem wpList_pushN (hF : Fd f k) (hE : Eln T E z k by_) {w0 : World} {ops : Array Oper} {rest : List Oper} {o : Oper} {a : Act} {Q : Exit → Act → World → Prop} (hgd : o.guard = none) (s x : Operand)
    (ho : o.op = .call { callee := .builtin .append, args := #[s, x], argTypes := #[T, T] })
    (B : Nat) (v : Value) (l : List α) (hs : a.eval s = v) (hown : No f k E w0 B v l) (y : α) (cs : Array Value) (hcs : cs.toList = f y) (g : Nat) (hx : a.eval x = .slice (some ⟨g, 0, none⟩) 1 1) (hg : g = w0.heap.size)
    (hl : l.length < 68719476735) (hB : B ≤ w0.heap.size)
    (h : ∀ v' w', No f k E w' B v' (l ++ [y]) → Fr (fun b => v.ownBlock = some b) w0 w' → wpList Tryz.prog ops Q rest (a.put o.dst v') w') :
    wpList Tryz.prog ops Q (o :: rest) a (w0.alloc (.cells cs E)) := by
  subst hg
  have hlit : No f k E (w0.alloc (.cells cs E)) 0 (.slice (some ⟨w0.heap.size, 0, none⟩) 1 1) [y] := no_lit hF w0 0 _ [y] cs (by simpa using hcs) rfl (Nat.zero_le _) (by simp)
  refine wpList_plain hgd fun _ hK => wp_appN hF hE s x ho B v _ l [y] hs (hown.alloc _) hx (hlit.ns hF) (by simp; omega) (by simp; omega) fun v' w' h1 h2 => hK _ _ (h v' w' h1 (((Fr.refl _ _).alloc _).join h2 fun _ _ e => e))

/-- an argument opened -/
theorem ns_in (hF : Fd f k) {T E : TypeId} (hT : Tryz.prog.underlying T = some (.slice E)) (hc : Tryz.prog.cellsOf E = k) {H : Type} {enc : TypeId × Value → H} {W : World} {base : Nat} {v : Value} {d : DataW H} {p : List MemPlace}
    (pr : α → Prop) (each : ∀ n cs y, cs.length = k → DataW.trod enc Tryz.prog W 0 (fun _ => true) true n E cs = some y → ∃ x, cs = f x ∧ pr x)
    (hv : Value.okWide Tryz.prog W .any base T v) (h : DataW.Trod enc Tryz.prog W 0 (fun _ => true) true T v d p) : ∃ l, Ns f k W v l ∧ l.length ≤ 9223372036854775807 ∧ (∀ x ∈ l, pr x) ∧ ∀ b, v.ownBlock = some b → b < W.heap.size := by
  have hlt : ∀ b, v.ownBlock = some b → b < W.heap.size := by
    rcases slice_in hT hv with rfl | ⟨b, o, n, c, rfl, _, hb⟩
    · intro k hk; cases hk
    · intro k hk
      obtain rfl : b = k := by simpa [Value.ownBlock] using hk
      exact hb
  obtain ⟨A, n, c, rfl⟩ := okWide_slice hT hv
  obtain ⟨fuel, hf⟩ := h
  rcases Go.Deep.open_slice hT hf with ⟨hcs, _⟩ | ⟨a, len, cap, m, q, D, Pl, hcs, _, hl, hm, hmm, _, hr⟩
  · simp [Value.cells] at hcs
    obtain ⟨rfl, rfl, rfl⟩ := hcs
    exact ⟨[], Ns.nil_ W, by simp, by simp, hlt⟩
  · simp [Value.cells] at hcs
    obtain ⟨rfl, rfl, rfl⟩ := hcs
    have hnm : n ≤ m := by rw [hmm]; simp; exact hl
    obtain ⟨l, hll, hls⟩ := choose_listG (fun i (x : α) => AtN W (a.add (i * k)) (f x) ∧ pr x) n (by
      intro i hi
      obtain ⟨cs', h1, h2⟩ := hr i (by omega)
      rw [hc] at h1
      obtain ⟨_, hlen, hcell⟩ := World.cells?_some h1
      obtain ⟨x, rfl, hp⟩ := each _ _ _ hlen h2
      refine ⟨x, fun j u hu => ?_, hp⟩
      rw [hcell j (by rw [← hF.len x]; exact (List.getElem?_eq_some_iff.1 hu).1)]
      exact hu)
    subst hll
    refine ⟨l, ⟨some a, c, rfl, hl, (fun h => by cases h), fun b hb j hj => ?_⟩, by unfold maxLen at hm; omega, fun x hx => ?_, hlt⟩
    · cases hb
      exact (hls j hj).1
    · obtain ⟨j, hj, rfl⟩ := List.mem_iff_getElem.1 hx
      exact (hls j hj).2
end
end Go.Proofs.YtheefloegbkflaaGreatDoor


namespace Go.Proofs.YtheefloegbkflaaGreatDoor
set_option linter.unusedVariables false
set_option linter.unusedSimpArgs false
set_option maxRecDepth 100000
open Go.RowKit

/-- a column: its name, its type, whether its cells may be null -/
structure Co where
  name : List UInt8
  ty : Int
  nl : Bool
  deriving DecidableEq
def coL (c : Co) : List Value := [.string ⟨c.name.toArray⟩, .int .i64 c.ty, .bool c.nl]
def coC (c : Co) : Array Value := #[.string ⟨c.name.toArray⟩, .int .i64 c.ty, .bool c.nl]
def coV (c : Co) : Value := .agg (coC c)
def noCo : Co := ⟨[], 0, false⟩
theorem fd_co : Fd coL 3 := ⟨fun _ => rfl, fun x u hu => by simp [coL] at hu; rcases hu with rfl | rfl | rfl <;> rfl, by omega, by omega⟩
abbrev Ks (w : World) (v : Value) (l : List Co) : Prop := Ns coL 3 w v l
/-- as a walk spells them -/
theorem co_lit {w : World} {a : Addr} {c : Co} (h : AtN w a (coL c)) : w.cell? a = some (.string ⟨c.name.toArray⟩) ∧ w.cell? { block := a.block, off := a.off + 1 } = some (.int .i64 c.ty) ∧ w.cell? { block := a.block, off := a.off + 2 } = some (.bool c.nl) :=
  ⟨h 0 _ rfl, h 1 _ rfl, h 2 _ rfl⟩
/-- the column c lies in block g -/
abbrev CoB (w : World) (g : Nat) (c : Co) : Prop := Blk w g 69 #[.string ⟨c.name.toArray⟩, .int .i64 c.ty, .bool c.nl]
theorem co_new (w : World) (c : Co) : CoB (w.alloc (.cells #[.string ⟨c.name.toArray⟩, .int .i64 c.ty, .bool c.nl] 69)) w.heap.size c := Blk.new _ _ _
end Go.Proofs.YtheefloegbkflaaGreatDoor


namespace Go.Proofs.YtheefloegbkflaaGreatDoor
set_option linter.unusedVariables false
set_option linter.unusedSimpArgs false
set_option maxRecDepth 100000
open Go.RowKit

/-- a letter, a digit -/
def ltrI (r : Int) : Bool := decide (97 ≤ r) && decide (r ≤ 122)
def dgtI (r : Int) : Bool := decide (48 ≤ r) && decide (r ≤ 57)
/-- may r stand at j? -/
def okI (j : Nat) (r : Int) : Bool := ltrI r || (decide (j ≠ 0) && (dgtI r || decide (r = 95)))
/-- the words of queries -/
def wordsL : List (List UInt8) := [[97, 110, 100], [111, 114], [110, 111, 116], [105, 115], [110, 117, 108, 108], [108, 105, 107, 101], [116, 114, 117, 101], [102, 97, 108, 115, 101], [115, 101, 108, 101, 99, 116], [102, 114, 111, 109], [119, 104, 101, 114, 101], [103, 114, 111, 117, 112], [98, 121], [97, 108, 108], [99, 111, 117, 110, 116], [104, 97, 115], [115, 117, 109], [109, 105, 110], [109, 97, 120]]
def nmOk (l : List UInt8) : Prop := ∀ j (h : j < l.length), okI j (l[j]).toNat = true
instance (l : List UInt8) : Decidable (nmOk l) := inferInstanceAs (Decidable (∀ j (h : j < l.length), okI j (l[j]).toNat = true))
/-- may l be a name? -/
def nameB (l : List UInt8) : Bool := decide (1 ≤ l.length ∧ l.length ≤ 12 ∧ l ∉ wordsL ∧ nmOk l)

theorem name_yes {l : List UInt8} (h1 : 1 ≤ l.length) (h2 : l.length ≤ 12) (h3 : l ∉ wordsL) (h4 : nmOk l) : nameB l = true := decide_eq_true ⟨h1, h2, h3, h4⟩
theorem name_nil {l : List UInt8} (h : l.length = 0) : nameB l = false := decide_eq_false fun h' => by omega
theorem name_long {l : List UInt8} (h : 12 < l.length) : nameB l = false := decide_eq_false fun h' => by omega
theorem name_word {l : List UInt8} (h : l ∈ wordsL) : nameB l = false := decide_eq_false fun h' => h'.2.2.1 h
theorem name_bad {l : List UInt8} {j : Nat} (h : j < l.length) (hb : okI j (l[j]).toNat = false) : nameB l = false := decide_eq_false fun h' => by
  have := h'.2.2.2 j h; rw [hb] at this; cases this
theorem okI_high {j : Nat} {r : Int} (h : 128 ≤ r) : okI j r = false := by
  unfold okI ltrI dgtI
  rw [decide_eq_false (show ¬ r ≤ 122 by omega), decide_eq_false (show ¬ r ≤ 57 by omega), decide_eq_false (show ¬ r = 95 by omega)]
  simp
end Go.Proofs.YtheefloegbkflaaGreatDoor


namespace Go.Proofs.YtheefloegbkflaaGreatDoor
set_option linter.unusedVariables false
set_option linter.unusedSimpArgs false
set_option maxRecDepth 100000
open Go.RowKit

/-- no table may have c -/
def badC (c : Co) : Bool := !(nameB c.name && isTy c.ty)
def namesC (l : List Co) : List Tx := l.map Co.name
/-- what is wrong with l: 0, nothing; 1, 4 -/
def chkC (l : List Co) : Int := if l.length = 0 ∨ l.any badC = true ∨ ¬ (namesC l).Nodup then 1 else if 6 < l.length then 4 else 0
theorem chk_bad {l : List Co} {k : Nat} (h : k < l.length) (hb : badC l[k] = true) : chkC l = 1 := if_pos (.inr (.inl (List.any_eq_true.2 ⟨_, List.getElem_mem h, hb⟩)))
theorem chk_any {l : List Co} (hb : l.any badC = true) : chkC l = 1 := if_pos (.inr (.inl hb))
theorem chk_dup {l : List Co} (h : ¬ (namesC l).Nodup) : chkC l = 1 := if_pos (.inr (.inr h))
theorem chk_none {l : List Co} (h : l.length = 0) : chkC l = 1 := if_pos (.inl h)
theorem chk_many {l : List Co} (h0 : ¬ l.length = 0) (h1 : l.any badC = false) (h2 : (namesC l).Nodup) (h3 : 6 < l.length) : chkC l = 4 := by
  unfold chkC; rw [if_neg (by rintro (h | h | h); exact h0 h; rw [h1] at h; cases h; exact h h2), if_pos h3]
theorem chk_ok {l : List Co} (h0 : ¬ l.length = 0) (h1 : l.any badC = false) (h2 : (namesC l).Nodup) (h3 : ¬ 6 < l.length) : chkC l = 0 := by
  unfold chkC; rw [if_neg (by rintro (h | h | h); exact h0 h; rw [h1] at h; cases h; exact h h2), if_neg h3]
theorem chk_is {l : List Co} (h : chkC l = 0) : ¬ l.length = 0 ∧ l.any badC = false ∧ (namesC l).Nodup ∧ l.length ≤ 6 := by
  unfold chkC at h
  split at h
  · cases h
  · rename_i h1
    split at h
    · cases h
    · refine ⟨fun e => h1 (.inl e), ?_, ?_, by omega⟩
      · cases hb : l.any badC
        · rfl
        · exact absurd (.inr (.inl hb)) h1
      · exact Classical.byContradiction fun e => h1 (.inr (.inr e))
/-- the names up to k are unlike, and so is k's -/
theorem nodup_more {l : List Co} {k : Nat} (h : k < l.length) (h1 : (namesC (l.take k)).Nodup) (h2 : ∀ j (hj : j < l.length), j < k → l[j].name ≠ l[k].name) : (namesC (l.take (k + 1))).Nodup := by
  unfold namesC
  rw [List.take_succ_eq_append_getElem h, List.map_append, List.nodup_append]
  refine ⟨h1, by simp, ?_⟩
  intro a ha b hb
  obtain ⟨c, hc, rfl⟩ := List.mem_map.1 ha
  obtain rfl : l[k].name = b := by rw [List.map_cons, List.map_nil, List.mem_singleton] at hb; exact hb.symm
  obtain ⟨j, hj, rfl⟩ := List.mem_iff_getElem.1 hc
  rw [List.length_take] at hj
  rw [List.getElem_take]
  exact h2 j (by omega) (by omega)
theorem nodup_not {l : List Co} {j k : Nat} (hk : k < l.length) (hj : j < k) (h : l[j].name = l[k].name) : ¬ (namesC l).Nodup := by
  intro hn
  have h1 : (namesC l)[j]'(by unfold namesC; rw [List.length_map]; omega) = (namesC l)[k]'(by unfold namesC; rw [List.length_map]; omega) := by
    unfold namesC; rw [List.getElem_map, List.getElem_map]; exact h
  have := (List.getElem_inj hn).1 h1
  omega
theorem any_more {l : List Co} {k : Nat} (h : k < l.length) (h1 : (l.take k).any badC = false) (h2 : badC l[k] = false) : (l.take (k + 1)).any badC = false := by
  rw [List.take_succ_eq_append_getElem h, List.any_append, h1]; simp [h2]

theorem ne_more {l : List Co} {n : Tx} {k : Nat} (h : k < l.length) (ha : ∀ j (hj : j < l.length), j < k → l[j].name ≠ n) (hb : l[k].name ≠ n) : ∀ j (hj : j < l.length), j < k + 1 → l[j].name ≠ n := by
  intro j hj hlt
  by_cases e : j = k
  · subst e; exact hb
  · exact ha j hj (by omega)

/-- may row be one of a table with these columns? -/
def rowB (l : List Co) (row : List Cl) : Bool := decide (l.length = row.length ∧ ∀ j (h : j < l.length) (h2 : j < row.length), mayC l[j].ty l[j].nl row[j] = true)
theorem row_len {l : List Co} {row : List Cl} (h : ¬ l.length = row.length) : rowB l row = false := decide_eq_false fun h' => h h'.1
theorem row_bad {l : List Co} {row : List Cl} {j : Nat} (h : j < l.length) (h2 : j < row.length) (hb : mayC l[j].ty l[j].nl row[j] = false) : rowB l row = false := decide_eq_false fun h' => by
  have := h'.2 j h h2; rw [hb] at this; cases this
theorem row_yes {l : List Co} {row : List Cl} (h : l.length = row.length) (h2 : ∀ j (h : j < l.length) (h2 : j < row.length), mayC l[j].ty l[j].nl row[j] = true) : rowB l row = true := decide_eq_true ⟨h, h2⟩
theorem row_more {l : List Co} {row : List Cl} {k : Nat} (h : k < l.length) (h2 : k < row.length) (ha : ∀ j (h : j < l.length) (h2 : j < row.length), j < k → mayC l[j].ty l[j].nl row[j] = true) (hb : mayC l[k].ty l[k].nl row[k] = true) :
    ∀ j (h : j < l.length) (h2 : j < row.length), j < k + 1 → mayC l[j].ty l[j].nl row[j] = true := by
  intro j hj hj2 hlt
  by_cases e : j = k
  · subst e; exact hb
  · exact ha j hj hj2 (by omega)
end Go.Proofs.YtheefloegbkflaaGreatDoor


namespace Go.Proofs.YtheefloegbkflaaGreatDoor
set_option linter.unusedVariables false
set_option linter.unusedSimpArgs false
set_option maxRecDepth 100000
open Go.RowKit

/-- what a column is, beside its name, as a number -/
def numK (c : Co) : Nat := 2 * c.ty.toNat + (if c.nl then 1 else 0)
/-- columns that may be, each -/
structure CoOk (c : Co) : Prop where
  lo : 1 ≤ c.ty
  hi : c.ty ≤ 3
  len : c.name.length ≤ 12
theorem isTy_bd {ty : Int} (h : isTy ty = true) : 1 ≤ ty ∧ ty ≤ 3 := by simp [isTy] at h; omega
theorem badC_ok {c : Co} (h : badC c = false) : CoOk c := by
  unfold badC at h
  have h1 : nameB c.name = true ∧ isTy c.ty = true := by revert h; cases nameB c.name <;> cases isTy c.ty <;> simp
  obtain ⟨b1, b2⟩ := isTy_bd h1.2
  exact ⟨b1, b2, (of_decide_eq_true h1.1).2.1⟩
theorem chk_each {l : List Co} (h : chkC l = 0) : ∀ c ∈ l, CoOk c := by
  intro c hc
  have h1 := (chk_is h).2.1
  refine badC_ok ?_
  cases hb : badC c
  · rfl
  · rw [List.any_eq_true.2 ⟨c, hc, hb⟩] at h1; cases h1
theorem CoOk.num {c : Co} (h : CoOk c) : numK c ≤ 7 := by
  obtain ⟨h1, h2, _⟩ := h
  unfold numK; split <;> omega
/-! ### What is read -/
theorem mostK_le (l : List UInt8) {m : Int} (hm : 0 ≤ m) : (mostV l m : Int) ≤ m := by
  unfold mostV
  split
  · rename_i h; exact (of_decide_eq_true h).2
  · exact hm
theorem most_nil (m : Int) : mostV [] m = 0 ∧ mostR [] m = [] ∧ mostB [] m = true := by
  unfold mostV mostR mostB
  split <;> exact ⟨rfl, rfl, rfl⟩
/-! ### What is put is taken -/
end Go.Proofs.YtheefloegbkflaaGreatDoor


namespace Go.Proofs.YtheefloegbkflaaGreatDoor
set_option linter.unusedVariables false
set_option linter.unusedSimpArgs false
set_option maxRecDepth 100000
open Go.RowKit

theorem ceq_no (c : Cl) (w : World) : Calls Tryz.prog 113 #[clV c, .agg #[.bool false, .int .i64 0, .string ⟨#[]⟩]] w fun e w' => e = .returned (.bool (ceq c noCl)) ∧ Fr Non w w' := csame_any c noCl w
/-- which zones, of a type's -/
theorem mayZ_is (ty : Int) (z : Zn) : mayZ ty z = (cntZ z && (isTy ty && (if bndZ z then mayC ty false z.low && (mayC ty false z.high && decide (ordC z.low z.high ≤ 0)) else ceq z.low noCl && ceq z.high noCl))) := by
  unfold mayZ
  cases cntZ z <;> cases isTy ty <;> cases bndZ z <;> simp [Bool.and_assoc]
set_option maxHeartbeats 1000000 in
theorem zmay_any (ty : Int) (z : Zn) (w : World) : Calls Tryz.prog 59 #[.int .i64 ty, znV z] w fun e w' => e = .returned (.bool (mayZ ty z)) ∧ Fr Non w w' := by
  have h0 : ZnB (w.alloc (.cells (znC z) 56)) w.heap.size z := Blk.new _ _ _
  have F0 : Fr Non w _ := (Fr.refl Non w).alloc (.cells (znC z) 56)
  have C1 := fun W => cnt_zn z W
  have T1 := fun W => ist_zn ty W
  have B1 := fun W => bnd_any z W
  have S1 := fun W => ceq_no z.low W
  have S2 := fun W => ceq_no z.high W
  have M1 := fun W => may_any ty false z.low W
  have M2 := fun W => may_any ty false z.high W
  have O1 := fun W => order_any z.low z.high W
  have HR := Lib.hid (mayZ_is ty z)
  unfold ZnB at h0
  unfold znV clV at *
  have h0 : Hid (ZnB _ w.heap.size z) := Lib.hid h0
  unfold znC clC at *
  have F0 := Lib.hid F0
  generalize cntZ z = c at *
  generalize isTy ty = t at *
  generalize bndZ z = b at *
  generalize ceq z.low noCl = e1 at *
  generalize ceq z.high noCl = e2 at *
  generalize mayC ty false z.low = m1 at *
  generalize mayC ty false z.high = m2 at *
  generalize ordC z.low z.high = x at *
  go_enter Tryz.func59, Tryz.ntmps59
  go_wp2_with fail
  refine (C1 _).mono ?_
  rintro e w1 ⟨rfl, f1⟩
  have h1 := h0.out.fr f1 (fun e => e)
  have F1 := Lib.hid (F0.out.trans f1)
  obtain ⟨a0, a1, a2, a3, a4, a5, a6, a7⟩ := znB_cells h1
  have h1 := Lib.hid h1
  clear f1
  clear C1
  cases c
  · clear T1 B1 S1 S2 M1 M2 O1
    go_wp2
    go_ret
    exact ⟨ret_boolE (by rw [HR.out]; rfl), F1.out⟩
  · skip
    go_wp2_with fail
    refine (T1 _).mono ?_
    rintro e w2 ⟨rfl, f2⟩
    have h2 := h1.out.fr f2 (fun e => e)
    have F2 := Lib.hid (F1.out.trans f2)
    clear a0 a1 a2 a3 a4 a5 a6 a7
    obtain ⟨a0, a1, a2, a3, a4, a5, a6, a7⟩ := znB_cells h2
    have h2 := Lib.hid h2
    clear f2
    clear T1
    cases t
    · clear B1 S1 S2 M1 M2 O1
      go_wp2
      go_ret
      exact ⟨ret_boolE (by rw [HR.out]; rfl), F2.out⟩
    · skip
      go_wp2_with fail
      refine (B1 _).mono ?_
      rintro e w3 ⟨rfl, f3⟩
      have h3 := h2.out.fr f3 (fun e => e)
      have F3 := Lib.hid (F2.out.trans f3)
      clear a0 a1 a2 a3 a4 a5 a6 a7
      obtain ⟨a0, a1, a2, a3, a4, a5, a6, a7⟩ := znB_cells h3
      have h3 := Lib.hid h3
      clear f3
      clear B1
      cases b
      · clear M1 M2 O1
        go_wp2_with fail
        refine (S1 _).mono ?_
        rintro e w4 ⟨rfl, f4⟩
        have h4 := h3.out.fr f4 (fun e => e)
        have F4 := Lib.hid (F3.out.trans f4)
        clear a0 a1 a2 a3 a4 a5 a6 a7
        obtain ⟨a0, a1, a2, a3, a4, a5, a6, a7⟩ := znB_cells h4
        have h4 := Lib.hid h4
        clear f4
        clear S1
        cases e1
        · clear S2
          go_wp2
          go_ret
          exact ⟨ret_boolE (by rw [HR.out]; rfl), F4.out⟩
        · skip
          go_wp2_with fail
          refine (S2 _).mono ?_
          rintro e w5 ⟨rfl, f5⟩
          have h5 := h4.out.fr f5 (fun e => e)
          have F5 := Lib.hid (F4.out.trans f5)
          clear a0 a1 a2 a3 a4 a5 a6 a7
          obtain ⟨a0, a1, a2, a3, a4, a5, a6, a7⟩ := znB_cells h5
          have h5 := Lib.hid h5
          clear f5
          go_wp2
          go_ret
          exact ⟨ret_boolE (by rw [HR.out]; rfl), F5.out⟩
      · clear S1 S2
        go_wp2_with fail
        refine (M1 _).mono ?_
        rintro e w4 ⟨rfl, f4⟩
        have h4 := h3.out.fr f4 (fun e => e)
        have F4 := Lib.hid (F3.out.trans f4)
        clear a0 a1 a2 a3 a4 a5 a6 a7
        obtain ⟨a0, a1, a2, a3, a4, a5, a6, a7⟩ := znB_cells h4
        have h4 := Lib.hid h4
        clear f4
        clear M1
        cases m1
        · clear M2 O1
          go_wp2
          go_ret
          exact ⟨ret_boolE (by rw [HR.out]; rfl), F4.out⟩
        · skip
          go_wp2_with fail
          refine (M2 _).mono ?_
          rintro e w5 ⟨rfl, f5⟩
          have h5 := h4.out.fr f5 (fun e => e)
          have F5 := Lib.hid (F4.out.trans f5)
          clear a0 a1 a2 a3 a4 a5 a6 a7
          obtain ⟨a0, a1, a2, a3, a4, a5, a6, a7⟩ := znB_cells h5
          have h5 := Lib.hid h5
          clear f5
          clear M2
          cases m2
          · clear O1
            go_wp2
            go_ret
            exact ⟨ret_boolE (by rw [HR.out]; rfl), F5.out⟩
          · skip
            go_wp2_with fail
            refine (O1 _).mono ?_
            rintro e w6 ⟨rfl, f6⟩
            have h6 := h5.out.fr f6 (fun e => e)
            have F6 := Lib.hid (F5.out.trans f6)
            clear a0 a1 a2 a3 a4 a5 a6 a7
            obtain ⟨a0, a1, a2, a3, a4, a5, a6, a7⟩ := znB_cells h6
            have h6 := Lib.hid h6
            clear f6
            go_wp2
            go_ret
            exact ⟨ret_boolE (by rw [HR.out]; rfl), F6.out⟩

set_option maxHeartbeats 1000000 in
theorem rzmay_any (ty : Int) (z : Zn) (w : World) : Calls Tryz.prog 69 #[.int .i64 ty, znV z] w fun e w' => e = .returned (.bool (mayZ ty z)) ∧ Fr Non w w' := by
  have h0 : ZnB (w.alloc (.cells (znC z) 56)) w.heap.size z := Blk.new _ _ _
  have F0 : Fr Non w _ := (Fr.refl Non w).alloc (.cells (znC z) 56)
  have M1 := fun W => rmay_any ty false z.low W
  have M2 := fun W => rmay_any ty false z.high W
  have O1 := fun W => rorder_any z.low z.high W
  have q1 := fun W => run_eql_cl W z.low noCl
  have q2 := fun W => run_eql_cl W z.high noCl
  have HR0 := Lib.hid (mayZ_is ty z)
  unfold ZnB at h0
  unfold znV clV at *
  have h0 : Hid (ZnB _ w.heap.size z) := Lib.hid h0
  unfold znC clC at *
  have F0 := Lib.hid F0
  unfold noCl at q1 q2
  dsimp only at q1 q2
  by_cases g : ty < 1 ∨ 3 < ty ∨ z.rows < 0 ∨ 4096 < z.rows ∨ z.nulls < 0 ∨ z.rows < z.nulls
  · have HR : Hid (mayZ ty z = false) := Lib.hid (by
      rw [HR0.out]
      rcases g with g | g | g
      · rw [show isTy ty = false by simp [isTy]; omega]; simp
      · rw [show isTy ty = false by simp [isTy]; omega]; simp
      · rw [show cntZ z = false from decide_eq_false (by omega)]; simp)
    clear HR0 M1 M2 O1 q1 q2
    by_cases g0 : ty < 1
    · clear g
      go_enter Tryz.func69, Tryz.ntmps69
      go_wp2
      go_ret
      exact ⟨ret_boolE HR.out.symm, F0.out⟩
    · skip
      by_cases g1 : 3 < ty
      · clear g
        go_enter Tryz.func69, Tryz.ntmps69
        go_wp2
        go_ret
        exact ⟨ret_boolE HR.out.symm, F0.out⟩
      · skip
        by_cases g2 : z.rows < 0
        · clear g
          go_enter Tryz.func69, Tryz.ntmps69
          go_wp2
          go_ret
          exact ⟨ret_boolE HR.out.symm, F0.out⟩
        · skip
          by_cases g3 : 4096 < z.rows
          · clear g
            go_enter Tryz.func69, Tryz.ntmps69
            go_wp2
            go_ret
            exact ⟨ret_boolE HR.out.symm, F0.out⟩
          · skip
            by_cases g4 : z.nulls < 0
            · clear g
              go_enter Tryz.func69, Tryz.ntmps69
              go_wp2
              go_ret
              exact ⟨ret_boolE HR.out.symm, F0.out⟩
            · skip
              have g5 : z.rows < z.nulls := by omega
              clear g
              go_enter Tryz.func69, Tryz.ntmps69
              go_wp2
              go_ret
              exact ⟨ret_boolE HR.out.symm, F0.out⟩
  · have d0 : isTy ty = true := by simp [isTy]; omega
    have d1 : cntZ z = true := decide_eq_true (by omega)
    have g0 : ¬ ty < 1 := by omega
    have g1 : ¬ 3 < ty := by omega
    have g2 : ¬ z.rows < 0 := by omega
    have g3 : ¬ 4096 < z.rows := by omega
    have g4 : ¬ z.nulls < 0 := by omega
    have g5 : ¬ z.rows < z.nulls := by omega
    have HR : Hid (mayZ ty z = (if bndZ z then mayC ty false z.low && (mayC ty false z.high && decide (ordC z.low z.high ≤ 0)) else ceq z.low noCl && ceq z.high noCl)) := Lib.hid (by rw [HR0.out, d0, d1]; simp)
    clear HR0 d0 d1 g
    have HN : noCl = ⟨false, 0, []⟩ := rfl
    rw [HN] at HR
    clear HN
    generalize ceq z.low ⟨false, 0, []⟩ = e1 at *
    generalize ceq z.high ⟨false, 0, []⟩ = e2 at *
    generalize mayC ty false z.low = m1 at *
    generalize mayC ty false z.high = m2 at *
    generalize ordC z.low z.high = x at *
    by_cases gb : z.nulls = z.rows
    · have HE : Hid (mayZ ty z = (e1 && e2)) := Lib.hid (by rw [HR.out, show bndZ z = false from decide_eq_false (by omega)]; rfl)
      clear HR M1 M2 O1
      have g6 : (z.nulls == z.rows) = true := by simpa using gb
      clear gb
      go_enter Tryz.func69, Tryz.ntmps69
      cases e1
      all_goals
        go_wp2
        go_ret
        exact ⟨ret_boolE (by rw [HE.out]; rfl), F0.out⟩
    · have HE : Hid (mayZ ty z = (m1 && (m2 && decide (x ≤ 0)))) := Lib.hid (by rw [HR.out, show bndZ z = true from decide_eq_true (by omega)]; rfl)
      clear HR q1 q2
      have g6 : (z.nulls == z.rows) = false := by simpa using gb
      clear gb
      go_enter Tryz.func69, Tryz.ntmps69
      go_wp2_with fail
      refine (M1 _).mono ?_
      rintro e w4 ⟨rfl, f4⟩
      have h4 := h0.out.fr f4 (fun e => e)
      have F4 := Lib.hid (F0.out.trans f4)
      obtain ⟨a0, a1, a2, a3, a4, a5, a6, a7⟩ := znB_cells h4
      have h4 := Lib.hid h4
      clear f4
      clear M1
      cases m1
      · clear M2 O1
        go_wp2
        go_ret
        exact ⟨ret_boolE (by rw [HE.out]; rfl), F4.out⟩
      · skip
        go_wp2_with fail
        refine (M2 _).mono ?_
        rintro e w5 ⟨rfl, f5⟩
        have h5 := h4.out.fr f5 (fun e => e)
        have F5 := Lib.hid (F4.out.trans f5)
        clear a0 a1 a2 a3 a4 a5 a6 a7
        obtain ⟨a0, a1, a2, a3, a4, a5, a6, a7⟩ := znB_cells h5
        have h5 := Lib.hid h5
        clear f5
        clear M2
        cases m2
        · clear O1
          go_wp2
          go_ret
          exact ⟨ret_boolE (by rw [HE.out]; rfl), F5.out⟩
        · skip
          go_wp2_with fail
          refine (O1 _).mono ?_
          rintro e w6 ⟨rfl, f6⟩
          have h6 := h5.out.fr f6 (fun e => e)
          have F6 := Lib.hid (F5.out.trans f6)
          clear a0 a1 a2 a3 a4 a5 a6 a7
          obtain ⟨a0, a1, a2, a3, a4, a5, a6, a7⟩ := znB_cells h6
          have h6 := Lib.hid h6
          clear f6
          go_wp2
          go_ret
          exact ⟨ret_boolE (by rw [HE.out]; rfl), F6.out⟩
end Go.Proofs.YtheefloegbkflaaGreatDoor


namespace Go.Proofs.YtheefloegbkflaaGreatDoor
set_option linter.unusedVariables false
set_option linter.unusedSimpArgs false
set_option maxRecDepth 100000
open Go.RowKit

/-- a cell's bytes -/
def cellB (ty : Int) (c : Cl) : List UInt8 := if c.null then [0] else if ty = 1 ∨ ty = 2 then [1] ++ Lib.uvarint (zig c.num) else if ty = 3 then [1] ++ textB c.txt else [1]
theorem cellB_null {ty : Int} {c : Cl} (h : c.null = true) : cellB ty c = [0] := by unfold cellB; rw [if_pos h]
theorem cellB_num {ty : Int} {c : Cl} (h : c.null = false) (ht : ty = 1 ∨ ty = 2) : cellB ty c = [1] ++ Lib.uvarint (zig c.num) := by unfold cellB; rw [h, if_neg (by simp), if_pos ht]
theorem cellB_txt {c : Cl} (h : c.null = false) : cellB 3 c = [1] ++ textB c.txt := by unfold cellB; rw [h, if_neg (by simp), if_neg (by omega), if_pos rfl]
theorem cellB_no {ty : Int} {c : Cl} (h : c.null = false) (h1 : ¬ ty = 1) (h2 : ¬ ty = 2) (h3 : ¬ ty = 3) : cellB ty c = [1] := by unfold cellB; rw [h, if_neg (by simp), if_neg (by omega), if_neg h3]

theorem textB_lt {t : Tx} (h : t.length < 1048576) : (textB t).length < 1048586 := by
  have := Lib.uvarint_length64 (show t.length < 18446744073709551616 by omega)
  unfold textB; rw [List.length_append]; omega

theorem own_one (w : World) (B : Nat) (z : Int) (b : UInt8) (hz : z = b.toNat) (hB : B ≤ w.heap.size) : Own (w.alloc (.cells #[.int .u8 z] 5)) B (.slice (some ⟨w.heap.size, 0, none⟩) 1 1) [b] := by
  subst hz
  exact (ow_lit w B w.heap.size [b] _ rfl rfl hB (by unfold maxLen; simp)).own

/-- a cell that there can be -/
structure ClOk (c : Cl) : Prop where
  lo : -9223372036854775808 ≤ c.num
  hi : c.num ≤ 9223372036854775807
  len : c.txt.length < 1048576

set_option maxHeartbeats 1000000 in
theorem cput_any (ty : Int) (c : Cl) (w : World) (hc : ClOk c) : Calls Tryz.prog 61 #[.int .i64 ty, clV c] w fun e w' => ∃ v, e = .returned v ∧ Own w' w.heap.size v (cellB ty c) ∧ Fr Non w w' := by
  obtain ⟨n, i, t⟩ := c
  obtain ⟨hlo, hhi, hlen⟩ := hc
  have H1 := Lib.hid hlo
  have H2 := Lib.hid hhi
  have H3 := Lib.hid hlen
  clear hlo hhi hlen
  unfold clV clC
  have hfa : Fr Non w (w.alloc (.cells #[.bool n, .int .i64 i, .string ⟨t.toArray⟩] 54)) := (Fr.refl _ _).alloc _
  cases n
  · have hl := own_one (w.alloc (.cells #[.bool false, .int .i64 i, .string ⟨t.toArray⟩] 54)) w.heap.size 1 1 rfl (by simp)
    have hfb := hfa.alloc (.cells #[.int .u8 1] 5)
    have hsz : (w.alloc (.cells #[.bool false, .int .i64 i, .string ⟨t.toArray⟩] 54)).heap.size = w.heap.size + 1 := by simp
    rw [hsz] at hl
    have HL := Lib.hid hl
    clear hl hsz
    by_cases h1 : ty = 1 ∨ ty = 2
    · have HE := Lib.hid (cellB_num (ty := ty) (c := ⟨false, i, t⟩) rfl h1)
      rcases h1 with h | h
      all_goals
        subst h
        go_enter Tryz.func61, Tryz.ntmps61
        go_wp2_with fail
        refine (vint_any i _ H1.out H2.out).mono ?_
        rintro e w1 ⟨v1, rfl, hown1, hf1⟩
        have hb1 := hfb.trans hf1
        have hs1 := hb1.size
        have hlz := Lib.uvarint_length64 (zig_lt H1.out H2.out)
        go_wp2_with (at_builtin; refine wpList_app rfl (.tmp 14) (.tmp 17) rfl w.heap.size _ v1 [1] (Lib.uvarint (zig i)) rfl (HL.out.non hf1) rfl hown1.bs (by simp; omega) hs1 ?_; intro v2 w2 hown2 hf2)
        go_ret
        exact ⟨v2, rfl, by rw [HE.out]; exact hown2, hb1.fresh hf2 (fun k hk => ((HL.out.non hf1).lt k hk).1)⟩
    · by_cases h3 : ty = 3
      · subst h3
        have HE := Lib.hid (cellB_txt (c := ⟨false, i, t⟩) rfl)
        clear h1
        go_enter Tryz.func61, Tryz.ntmps61
        go_wp2_with fail
        refine (vtext_any t _ H3.out).mono ?_
        rintro e w1 ⟨v1, rfl, hown1, hf1⟩
        have hb1 := hfb.trans hf1
        have hs1 := hb1.size
        have hlz := textB_lt H3.out
        go_wp2_with (at_builtin; refine wpList_app rfl (.tmp 21) (.tmp 24) rfl w.heap.size _ v1 [1] (textB t) rfl (HL.out.non hf1) rfl hown1.bs (by simp; omega) hs1 ?_; intro v2 w2 hown2 hf2)
        go_ret
        exact ⟨v2, rfl, by rw [HE.out]; exact hown2, hb1.fresh hf2 (fun k hk => ((HL.out.non hf1).lt k hk).1)⟩
      · have h1' : ¬ ty = 1 := fun e => h1 (.inl e)
        have h2' : ¬ ty = 2 := fun e => h1 (.inr e)
        have HE := Lib.hid (cellB_no (ty := ty) (c := ⟨false, i, t⟩) rfl h1' h2' h3)
        clear h1
        go_enter Tryz.func61, Tryz.ntmps61
        go_wp2
        go_ret
        exact ⟨_, rfl, by rw [HE.out]; exact HL.out, hfb⟩
  · have hl := own_one (w.alloc (.cells #[.bool true, .int .i64 i, .string ⟨t.toArray⟩] 54)) w.heap.size 0 0 rfl (by simp)
    have hfb := hfa.alloc (.cells #[.int .u8 0] 5)
    have hsz : (w.alloc (.cells #[.bool true, .int .i64 i, .string ⟨t.toArray⟩] 54)).heap.size = w.heap.size + 1 := by simp
    rw [hsz] at hl
    have HL := Lib.hid hl
    clear hl hsz
    go_enter Tryz.func61, Tryz.ntmps61
    go_wp2
    go_ret
    exact ⟨_, rfl, by rw [cellB_null rfl]; exact HL.out, hfb⟩

set_option maxHeartbeats 1000000 in
theorem rcput_any (ty : Int) (c : Cl) (w : World) (hc : ClOk c) : Calls Tryz.prog 70 #[.int .i64 ty, clV c] w fun e w' => ∃ v, e = .returned v ∧ Own w' w.heap.size v (cellB ty c) ∧ Fr Non w w' := by
  obtain ⟨n, i, t⟩ := c
  obtain ⟨hlo, hhi, hlen⟩ := hc
  have H1 := Lib.hid hlo
  have H2 := Lib.hid hhi
  have H3 := Lib.hid hlen
  clear hlo hhi hlen
  unfold clV clC
  have hfa : Fr Non w (w.alloc (.cells #[.bool n, .int .i64 i, .string ⟨t.toArray⟩] 54)) := (Fr.refl _ _).alloc _
  cases n
  · have hl := own_one (w.alloc (.cells #[.bool false, .int .i64 i, .string ⟨t.toArray⟩] 54)) w.heap.size 1 1 rfl (by simp)
    have hfb := hfa.alloc (.cells #[.int .u8 1] 5)
    have hsz : (w.alloc (.cells #[.bool false, .int .i64 i, .string ⟨t.toArray⟩] 54)).heap.size = w.heap.size + 1 := by simp
    rw [hsz] at hl
    have HL := Lib.hid hl
    clear hl hsz
    by_cases h1 : ty = 1 ∨ ty = 2
    · have HE := Lib.hid (cellB_num (ty := ty) (c := ⟨false, i, t⟩) rfl h1)
      rcases h1 with h | h
      all_goals
        subst h
        go_enter Tryz.func70, Tryz.ntmps70
        go_wp2_with fail
        refine (rint_any i _ H1.out H2.out).mono ?_
        rintro e w1 ⟨v1, rfl, hown1, hf1⟩
        have hb1 := hfb.trans hf1
        have hs1 := hb1.size
        have hlz := Lib.uvarint_length64 (zig_lt H1.out H2.out)
        go_wp2_with (at_builtin; refine wpList_app rfl (.tmp 12) (.tmp 15) rfl w.heap.size _ v1 [1] (Lib.uvarint (zig i)) rfl (HL.out.non hf1) rfl hown1.bs (by simp; omega) hs1 ?_; intro v2 w2 hown2 hf2)
        go_ret
        exact ⟨v2, rfl, by rw [HE.out]; exact hown2, hb1.fresh hf2 (fun k hk => ((HL.out.non hf1).lt k hk).1)⟩
    · by_cases h3 : ty = 3
      · subst h3
        have HE := Lib.hid (cellB_txt (c := ⟨false, i, t⟩) rfl)
        clear h1
        go_enter Tryz.func70, Tryz.ntmps70
        go_wp2_with fail
        refine (rtext_any t _ H3.out).mono ?_
        rintro e w1 ⟨v1, rfl, hown1, hf1⟩
        have hb1 := hfb.trans hf1
        have hs1 := hb1.size
        have hlz := textB_lt H3.out
        go_wp2_with (at_builtin; refine wpList_app rfl (.tmp 19) (.tmp 22) rfl w.heap.size _ v1 [1] (textB t) rfl (HL.out.non hf1) rfl hown1.bs (by simp; omega) hs1 ?_; intro v2 w2 hown2 hf2)
        go_ret
        exact ⟨v2, rfl, by rw [HE.out]; exact hown2, hb1.fresh hf2 (fun k hk => ((HL.out.non hf1).lt k hk).1)⟩
      · have h1' : ¬ ty = 1 := fun e => h1 (.inl e)
        have h2' : ¬ ty = 2 := fun e => h1 (.inr e)
        have HE := Lib.hid (cellB_no (ty := ty) (c := ⟨false, i, t⟩) rfl h1' h2' h3)
        clear h1
        go_enter Tryz.func70, Tryz.ntmps70
        go_wp2
        go_ret
        exact ⟨_, rfl, by rw [HE.out]; exact HL.out, hfb⟩
  · have hl := own_one (w.alloc (.cells #[.bool true, .int .i64 i, .string ⟨t.toArray⟩] 54)) w.heap.size 0 0 rfl (by simp)
    have hfb := hfa.alloc (.cells #[.int .u8 0] 5)
    have hsz : (w.alloc (.cells #[.bool true, .int .i64 i, .string ⟨t.toArray⟩] 54)).heap.size = w.heap.size + 1 := by simp
    rw [hsz] at hl
    have HL := Lib.hid hl
    clear hl hsz
    go_enter Tryz.func70, Tryz.ntmps70
    go_wp2
    go_ret
    exact ⟨_, rfl, by rw [cellB_null rfl]; exact HL.out, hfb⟩
end Go.Proofs.YtheefloegbkflaaGreatDoor
