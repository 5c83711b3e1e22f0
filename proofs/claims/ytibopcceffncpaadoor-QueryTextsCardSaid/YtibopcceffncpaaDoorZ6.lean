/-
  Joined: Layer 18: which queries there may be, the program's: a query's text, the document's. · Layer 17: the page's example. · Layer 18: which queries there may be, the program's: the example; small queries. · Layer 18: which queries there may be, the program's: the walk of the law on texts. · A row's frame that hands the world's shape on. · Arguments opened: a cell by value; a value of each type. · Slices of cells: what one reads as (Cs), a row of the call's own (Oc), and the steps over them. · Arguments opened: a slice of cells. · Layer 17: the variables that a row lists, opened; a predicate opened. · Layer 18: the variables that a row lists, opened; a query opened.
-/
import Derived.Laws.StructEq
import Derived.Laws.Rows
import Derived.Laws.ResultCell
import Derived.Lib.Zigzag
import Derived.Lib.DecodeN
import Derived.Laws.RangeAny
import Derived.Laws.Cover4
import Derived.Laws.Cover1
import Derived.Deep.QuietTactic
import Derived.BigQuiet
import Derived.Deep.RegionHeld3
import Derived.Deep.DrawnRows
import Derived.Lib.SmallJoins
import Derived.Lib.AppendIntMem
import Derived.Test.YtibopcceffncpaaDoorZ5
import Derived.Test.YtibopcceffncpaaDoorZ3
import Derived.Test.YtibopcceffncpaaDoorRows
import Derived.Test.YtibopcceffncpaaDoorZ1
import Derived.LaidMore
import Derived.Lay
import Derived.Handed
import Derived.Shelf.Vars
import Derived.OpenShut
import Derived.Stop.Joined
import Derived.ProofKit
import Derived.Test.YtibopcceffncpaaDoorZ2
import Derived.Stop.LaidErr
import Derived.Lib.LaidTab

namespace Go.Proofs.YtibopcceffncpaaDoor
set_option linter.unusedVariables false
set_option linter.unusedSimpArgs false
set_option maxRecDepth 100000
open Go.RowKit

set_option maxHeartbeats 1000000 in
theorem rtold_any (a : Ag) (w : World) (ha : agB a = true) (hl : a.col.length ≤ 100) :
    Calls Tryd.prog 18 #[agV a] w fun e w' => e = .returned (.string ⟨(toldA a).toArray⟩) ∧ Fr Non w w' := by
  have F0 : Fr Non w (w.alloc (.cells #[.int .i64 a.op, .string ⟨a.col.toArray⟩] 36)) := (Fr.refl Non w).alloc _
  have HF := Lib.hid F0
  have HA := ag_is ha
  have HE0 : Hid (toldA a = if a.op = 1 then [99, 111, 117, 110, 116, 40, 42, 41] else wordA a.op ++ [40] ++ a.col ++ [41]) := Lib.hid rfl
  clear ha F0
  obtain ⟨o, c⟩ := a
  unfold agV
  dsimp only at *
  generalize toldA _ = r at *
  rcases HA with ⟨h1, h2⟩ | ⟨h1, h2, h3, -⟩
  · subst h1
    subst h2
    have HE := Lib.hid (HE0.out.trans (if_pos rfl))
    clear HE0
    go_enter Tryd.func18, Tryd.ntmps18
    go_wp2
    go_ret
    exact ⟨strE (by rw [HE.out] <;> simp), HF.out⟩
  · have HE := Lib.hid (HE0.out.trans (if_neg h1))
    clear HE0
    have hop : o = 2 ∨ o = 3 ∨ o = 4 ∨ o = 5 := by omega
    clear h1 h2 h3
    rcases hop with rfl | rfl | rfl | rfl
    · have HE2 : Hid (r = [104, 97, 115] ++ [40] ++ c ++ [41]) := HE
      have s1 := fun W => sadd [104, 97, 115] [40] (by simp) W
      have s2 := fun W => sadd ([104, 97, 115] ++ [40]) c (by simp; omega) W
      have s3 := fun W => sadd ([104, 97, 115] ++ [40] ++ c) [41] (by simp; omega) W
      simp only [List.cons_append, List.nil_append] at s1 s2 s3
      clear HE
      go_enter Tryd.func18, Tryd.ntmps18
      go_wp2
      go_region
      go_wp2
      go_ret
      exact ⟨strE (by rw [HE2.out] <;> simp), (HF.out.alloc _).drew⟩
    · have HE2 : Hid (r = [115, 117, 109] ++ [40] ++ c ++ [41]) := HE
      have s1 := fun W => sadd [115, 117, 109] [40] (by simp) W
      have s2 := fun W => sadd ([115, 117, 109] ++ [40]) c (by simp; omega) W
      have s3 := fun W => sadd ([115, 117, 109] ++ [40] ++ c) [41] (by simp; omega) W
      simp only [List.cons_append, List.nil_append] at s1 s2 s3
      clear HE
      go_enter Tryd.func18, Tryd.ntmps18
      go_wp2
      go_region
      go_wp2
      go_ret
      exact ⟨strE (by rw [HE2.out] <;> simp), (HF.out.alloc _).drew⟩
    · have HE2 : Hid (r = [109, 105, 110] ++ [40] ++ c ++ [41]) := HE
      have s1 := fun W => sadd [109, 105, 110] [40] (by simp) W
      have s2 := fun W => sadd ([109, 105, 110] ++ [40]) c (by simp; omega) W
      have s3 := fun W => sadd ([109, 105, 110] ++ [40] ++ c) [41] (by simp; omega) W
      simp only [List.cons_append, List.nil_append] at s1 s2 s3
      clear HE
      go_enter Tryd.func18, Tryd.ntmps18
      go_wp2
      go_region
      go_wp2
      go_ret
      exact ⟨strE (by rw [HE2.out] <;> simp), (HF.out.alloc _).drew⟩
    · have HE2 : Hid (r = [109, 97, 120] ++ [40] ++ c ++ [41]) := HE
      have s1 := fun W => sadd [109, 97, 120] [40] (by simp) W
      have s2 := fun W => sadd ([109, 97, 120] ++ [40]) c (by simp; omega) W
      have s3 := fun W => sadd ([109, 97, 120] ++ [40] ++ c) [41] (by simp; omega) W
      simp only [List.cons_append, List.nil_append] at s1 s2 s3
      clear HE
      go_enter Tryd.func18, Tryd.ntmps18
      go_wp2
      go_region
      go_wp2
      go_ret
      exact ⟨strE (by rw [HE2.out] <;> simp), (HF.out.alloc _).drew⟩

theorem joinG_more {l : List Tx} {k : Nat} (sep : Tx) (h : k < l.length) : Lib.join (l.take (k + 1)) sep = if k = 0 then l[k] else Lib.join (l.take k) sep ++ sep ++ l[k] := by
  rw [List.take_succ_eq_append_getElem h, join_more, List.length_take, Nat.min_eq_left (by omega)]
theorem joinG_len (l : List Tx) (k : Nat) : (Lib.join (l.take k) comT).length ≤ (Lib.join l comT).length := by
  have := inter_pre comT (l.take k) (l.drop k)
  rwa [List.take_append_drop] at this
theorem asked_nil {q : Qy} : (askedQ q).length = 0 ↔ allQ q = true := by
  unfold askedQ allQ
  rw [List.length_append, List.length_map, Bool.and_eq_true, decide_eq_true_eq, decide_eq_true_eq]
  omega
/-- the text up to the columns -/
def upT (b : Tx) (l : List Tx) (k : Nat) : Tx := b ++ Lib.join (l.take k) comT
theorem upT_zero (b : Tx) (l : List Tx) : upT b l 0 = b := by unfold upT; rw [List.take_zero]; simp [Lib.join, List.intercalate]
theorem upT_one {b : Tx} {l : List Tx} (h : 0 < l.length) : upT b l 1 = b ++ l[0] := by unfold upT; rw [show 1 = 0 + 1 from rfl, joinG_more comT h, if_pos rfl]
theorem upT_more {b : Tx} {l : List Tx} {k : Nat} (h : k < l.length) (h0 : ¬ k = 0) : upT b l (k + 1) = upT b l k ++ comT ++ l[k] := by unfold upT; rw [joinG_more comT h, if_neg h0]; simp
theorem upT_all (b : Tx) {l : List Tx} {k : Nat} (h : l.length ≤ k) : upT b l k = b ++ Lib.join l comT := by unfold upT; rw [List.take_of_length_le h]
theorem upT_len {b : Tx} {l : List Tx} (k : Nat) (hb : b.length ≤ 8) (hl : (Lib.join l comT).length ≤ 6150) : (upT b l k).length ≤ 6158 := by
  unfold upT
  have := joinG_len l k
  rw [List.length_append]
  omega
theorem Ow.at {w : World} {B : Nat} {A : Option Addr} {n c : Nat} {l : List Tx} (h : Ow sv 9 w B (.slice A n c) l) (k : Nat) (hk : k < l.length) : ∃ a, A = some a ∧ w.cell? (a.add k) = some (.string ⟨l[k].toArray⟩) := by
  obtain ⟨A', c', he⟩ := h.shape
  simp only [Value.slice.injEq] at he
  obtain ⟨rfl, rfl, rfl⟩ := he
  obtain ⟨a, ha, _, _, hel⟩ := h.vs.addr (show 0 < l.length by omega)
  exact ⟨a, ha, hel k hk⟩
set_option maxHeartbeats 2000000 in
theorem rqtext_any (q : Qy) (c : Value) (s : Kv) (g : Value) (w : World) (hq : QyS w q c s g) (hs : SmQ q) :
    Calls Tryd.prog 8 #[qyV q c s g] w fun e w' => e = .returned (.string ⟨(TextQ q).toArray⟩) ∧ Fr Non w w' := by
  have Q0 := Lib.hid (Qin.new hq)
  have HS := Lib.hid hq
  have M1 := Lib.hid (fun W (h : QyS W q c s g) => rqmay_any q c s g W h hs)
  have CA : Hid (mayQ q = true → ∀ k (h : k < q.aggs.length) W, Calls Tryd.prog 18 #[agV q.aggs[k]] W fun e w' => e = .returned (.string ⟨(toldA q.aggs[k]).toArray⟩) ∧ Fr Non W w') := Lib.hid (fun hm k h W => rtold_any q.aggs[k] W (may_ags hm _ (List.getElem_mem h)) (hs.acol _ (List.getElem_mem h)))
  have P1 := Lib.hid (fun W (h : QyS W q c s g) => rpText_any q.whr.hd s q.whr.kids W h.kids h.num (by rw [← Pd.eta]; exact hs.lens))
  rw [← Pd.eta] at P1
  have htx := textP_le hs hq.nums
  have hal := asked_len hs
  have HAL := Lib.hid hal.2
  have hal1 := hal.1
  have hjl := joinQ_len _ hal.1 hal.2
  have HE0 : Hid (TextQ q = if mayQ q = true then textQ q else []) := Lib.hid rfl
  have HT : Hid (mayQ q = true → textQ q = selT ++ listQ q ++ fromT ++ q.tab ++ whrT q.whr ++ grpT q.by_) := Lib.hid (fun e => rfl)
  have HW1 : Hid (q.whr.hd.op = 1 → whrT q.whr = []) := Lib.hid (fun e => if_pos e)
  have HW0 : Hid (mayQ q = true → ¬ q.whr.hd.op = 1 → whrT q.whr = whereT ++ TextP q.whr) := Lib.hid (fun e h => by unfold whrT TextP; rw [if_neg h, if_pos (may_parts e).2])
  have HA : Hid ((askedQ q).length = 0 → listQ q = [42]) := Lib.hid (fun e => if_pos (asked_nil.1 e))
  have HJ : Hid (¬ (askedQ q).length = 0 → listQ q = Lib.join (askedQ q) comT) := Lib.hid (fun e => if_neg (fun h => e (asked_nil.2 h)))
  have HAS : Hid (askedQ q = q.cols ++ q.aggs.map toldA) := Lib.hid rfl
  have htl := hs.tab
  have hbl := hs.by_
  have hlc := hs.cols
  have hlg := hs.aggs
  generalize TextQ q = r at *
  generalize textQ q = rt at *
  generalize whrT q.whr = wt_ at *
  generalize mayQ q = bm at *
  generalize listQ q = L at *
  generalize TextP q.whr = tx at *
  generalize askedQ q = al at *
  clear hal
  unfold pdV pdC at P1
  obtain ⟨cA, cc, hce⟩ := hq.cols.shape
  obtain ⟨gA, gc, hge⟩ := hq.aggs.shape
  clear hq hs
  obtain ⟨tab, cols, ⟨⟨wo, wc, wm, ⟨wn, wi, wt⟩, wk, wp⟩, wks⟩, aggs, by_⟩ := q
  obtain ⟨sA, sn, sc⟩ := s
  dsimp only at hce hge
  subst hce
  subst hge
  unfold qyV qyC kidV at *
  dsimp only [Pd.hd, Pd.kids] at *
  cases bm
  · have HE : Hid (r = []) := Lib.hid (by rw [HE0.out, if_neg (by simp)])
    clear HE0 HT
    go_enter Tryd.func8, Tryd.ntmps8
    go_wp2_with fail
    refine (M1.out _ Q0.out.sls).mono ?_
    rintro e w1 ⟨rfl, f1⟩
    have Q1 := Lib.hid (Q0.out.non f1)
    clear f1
    go_wp2
    go_ret
    exact ⟨strE (by rw [HE.out] <;> simp), Q1.out.fr⟩
  · have HE1 := Lib.hid ((HE0.out.trans (if_pos rfl)).trans (HT.out rfl))
    have CB := Lib.hid (CA.out rfl)
    have HW2 := Lib.hid (HW0.out rfl)
    clear HE0 HT CA HW0
    go_enter Tryd.func8, Tryd.ntmps8
    go_wp2_with fail
    refine (M1.out _ Q0.out.sls).mono ?_
    rintro e w1 ⟨rfl, f1⟩
    have Q1 := Lib.hid (Q0.out.non f1)
    clear f1
    obtain ⟨g0, g1, g2, g3, g4, g5, g6, g7, g8, g9, g10, g11, g12⟩ := Q1.out.cells
    dsimp only [Pd.hd, Pd.kids] at g0 g1 g2 g3 g4 g5 g6 g7 g8 g9 g10 g11 g12
    have hs1 := Q1.out.fr.size
    have hb1 := Q1.out.blk.lt
    have HV1 : Hid (Vs sv w1 (.slice cA cols.length cc) cols) := Lib.hid Q1.out.sls.cols
    go_wp2_with (at_builtin; refine wpList_appG el_str sv_one rfl (.tmp 10) (.tmp 12) rfl (w.heap.size + 1) (.slice (some ⟨w1.heap.size, 0, none⟩) 0 0) (.slice cA cols.length cc) [] cols rfl (ow_lit0 _ _ _ rfl (by omega)) rfl (HV1.out.non ((Fr.refl _ _).alloc _)) (by simp; omega) (by simp; omega) ?_; intro v2 w2 hown2 hf2)
    have f2 : Fr Non w1 w2 := ((Fr.refl Non w1).alloc _).fresh hf2 (fun k hk => by simp [Value.ownBlock] at hk; omega)
    have Q2 := Lib.hid (Q1.out.non f2)
    have HO2 : Hid (Ow sv 9 w2 (w.heap.size + 1) v2 (cols ++ (aggs.take 0).map toldA)) := Lib.hid (by simpa using hown2)
    clear hown2 hf2 f2 hs1 hb1 HV1
    clear g0 g1 g2 g3 g4 g5 g6 g7 g8 g9 g10 g11 g12
    go_wp2
    go_loopw [3, 4] (fun u i wr => ∃ k : Nat, k ≤ aggs.length ∧ i = .int .i64 k ∧ Hid (Ow sv 9 wr (w.heap.size + 1) u (cols ++ (aggs.take k).map toldA)) ∧ Hid (Qin w w.heap.size ⟨tab, cols, ⟨⟨wo, wc, wm, ⟨wn, wi, wt⟩, wk, wp⟩, wks⟩, aggs, by_⟩ (.slice cA cols.length cc) ⟨sA, sn, sc⟩ (.slice gA aggs.length gc) wr)) (fun _ i _ => aggs.length - (intOf i).toNat)
    case atStart => exact ⟨0, Nat.zero_le _, rfl, HO2, Q2⟩
    case round =>
      clear HO2 Q0 Q1 Q2
      rename_i u i wr
      obtain ⟨k, hk, rfl, HO, QR⟩ := hrel
      obtain ⟨uA, uc, hue⟩ := HO.out.shape
      have hlk : (cols ++ (aggs.take k).map toldA).length ≤ 40 := by rw [List.length_append, List.length_map, List.length_take]; omega
      generalize hun : (cols ++ (aggs.take k).map toldA).length = un at *
      subst hue
      obtain ⟨g0, g1, g2, g3, g4, g5, g6, g7, g8, g9, g10, g11, g12⟩ := QR.out.cells
      dsimp only [Pd.hd, Pd.kids] at g0 g1 g2 g3 g4 g5 g6 g7 g8 g9 g10 g11 g12
      by_cases hlt : k < aggs.length
      · obtain ⟨a, rfl, _, d0, d1⟩ := Ns.gat QR.out.sls.aggs k hlt
        have HY := Lib.hid (told_more (q := cols) hlt)
        have M := CB.out k hlt
        dsimp only at d0 d1 M
        generalize hx : aggs[k] = x at *
        clear hx
        obtain ⟨xo, xn⟩ := x
        unfold agV at M
        dsimp only at d0 d1 HY M
        replace M := Lib.hid M
        generalize toldA ⟨xo, xn⟩ = y at *
        generalize cols ++ (aggs.take k).map toldA = tl at *
        have HLK := Lib.hid (show tl.length ≤ 40 by omega)
        clear hun hlk
        go_wp2_with fail
        refine (M.out _).mono ?_
        rintro e w3 ⟨rfl, f3⟩
        have Q3 := Lib.hid (QR.out.non f3)
        have hO3 := Lib.hid (HO.out.non f3)
        have hsz : w.heap.size + 1 ≤ w3.heap.size := by have := Q3.out.blk.lt; omega
        clear f3 g0 g1 g2 g3 g4 g5 g6 g7 g8 g9 g10 g11 g12
        go_wp2_with (at_builtin; refine wpList_pushG el_str sv_one rfl (.tmp 21) (.tmp 28) rfl (w.heap.size + 1) _ tl rfl hO3.out _ y rfl rfl (by have := HLK.out; omega) hsz ?_; intro v4 w4 hown4 hfr4)
        have HO4 := Lib.hid hown4
        have F4 : Hid (Fr Non w w4) := Lib.hid (Q3.out.fr.fresh hfr4 (fun q hq => by have := (hO3.out.lt q hq).1; omega))
        have Q4 : Hid (Qin w w.heap.size ⟨tab, cols, ⟨⟨wo, wc, wm, ⟨wn, wi, wt⟩, wk, wp⟩, wks⟩, aggs, by_⟩ (.slice cA cols.length cc) ⟨sA, sn, sc⟩ (.slice (some a) aggs.length gc) w4) := Lib.hid ⟨F4.out, Q3.out.blk.fr hfr4 (fun e => by have := (hO3.out.lt _ e).1; omega), HS.out.non F4.out⟩
        clear hown4 hfr4
        go_roundw
        case rel => exact ⟨k + 1, by omega, by go_num, by rw [HY.out]; exact HO4, Q4⟩
        case measure => simp [intOf]; omega
      · have hT : aggs.take k = aggs := List.take_of_length_le (by omega)
        rw [hT, ← HAS.out] at HO hun
        subst hun
        clear HAS hT hlk CB
        rename World => w2
        obtain ⟨bs, hbs⟩ : ∃ bs, bs = (if al.length = 0 then selT ++ [42] else selT) := ⟨_, rfl⟩
        have hbsl : bs.length ≤ 8 := by rw [hbs]; split <;> decide
        have HLQ : Hid (selT ++ L = bs ++ Lib.join al comT) := Lib.hid (by
          rw [hbs]
          split
          · rename_i h0
            rw [HA.out h0, List.eq_nil_of_length_eq_zero h0]
            simp [Lib.join, List.intercalate]
          · rename_i h0
            rw [HJ.out h0])
        have HB1 : Hid (al.length = 0 → bs = [115, 101, 108, 101, 99, 116, 32, 42]) := Lib.hid (fun e => by rw [hbs, if_pos e]; rfl)
        have HB2 : Hid (¬ al.length = 0 → bs = [115, 101, 108, 101, 99, 116, 32]) := Lib.hid (fun e => by rw [hbs, if_neg e]; rfl)
        clear hbs HA HJ
        by_cases h0 : al.length = 0
        · have h0b : ((al.length : Int) == 0) = true := by rw [beq_iff_eq]; omega
          obtain rfl := HB1.out h0
          clear HB1 HB2 h0
          have s0 := fun W => sadd [115, 101, 108, 101, 99, 116, 32] [42] (by simp) W
          simp only [List.cons_append, List.nil_append] at s0
          go_wp2
          clear g0 g1 g2 g3 g4 g5 g6 g7 g8 g9 g10 g11 g12
          go_loopw [5, 6] (fun sv_ i wr => ∃ k : Nat, k ≤ al.length ∧ i = .int .i64 k ∧ (∃ t, sv_ = .string ⟨t.toArray⟩ ∧ Hid (t = upT [115, 101, 108, 101, 99, 116, 32, 42] al k)) ∧ Hid (Ow sv 9 wr (w.heap.size + 1) (.slice uA al.length uc) al) ∧ Hid (Qin w w.heap.size ⟨tab, cols, ⟨⟨wo, wc, wm, ⟨wn, wi, wt⟩, wk, wp⟩, wks⟩, aggs, by_⟩ (.slice cA cols.length cc) ⟨sA, sn, sc⟩ (.slice gA aggs.length gc) wr)) (fun _ i _ => al.length - (intOf i).toNat)
          case atStart => exact ⟨0, Nat.zero_le _, rfl, ⟨_, rfl, Lib.hid (upT_zero _ _).symm⟩, HO, QR⟩
          case round =>
            clear HO QR
            rename_i s_ i wr
            obtain ⟨j, hj, rfl, ⟨t, rfl, HTE⟩, HO, QR⟩ := hrel
            have htl2 : t.length ≤ 6158 := by rw [HTE.out]; exact upT_len j hbsl hjl
            by_cases hlt2 : j < al.length
            · obtain ⟨b, rfl, c0⟩ := HO.out.at j hlt2
              have hyl := HAL.out _ (List.getElem_mem hlt2)
              by_cases hj0 : j = 0
              · have HY : Hid (upT [115, 101, 108, 101, 99, 116, 32, 42] al (j + 1) = t ++ al[j]) := Lib.hid (by subst hj0; rw [HTE.out, upT_one hlt2, upT_zero])
                have hjb : (j : Int) ≤ 0 := by omega
                clear hj0
                generalize al[j] = y at *
                have s1 := fun W => sadd t y (by omega) W
                go_wp2
                go_roundw
                case rel => exact ⟨j + 1, by omega, by go_num, ⟨_, rfl, Lib.hid HY.out.symm⟩, HO, QR⟩
                case measure => simp [intOf]; omega
              · have HY : Hid (upT [115, 101, 108, 101, 99, 116, 32, 42] al (j + 1) = t ++ comT ++ al[j]) := Lib.hid (by rw [HTE.out, upT_more hlt2 hj0])
                generalize al[j] = y at *
                obtain ⟨t5, ht5⟩ : ∃ t5, t5 = t ++ comT := ⟨_, rfl⟩
                have l5 : t5.length ≤ 6160 := by rw [ht5]; simp [comT]; omega
                have s1 : ∀ W, (Op.stringOp BinOp.add ⟨t.toArray⟩ ⟨#[44, 32]⟩).run Tryd.prog W = .ok (.string ⟨t5.toArray⟩) W := fun W => by rw [ht5]; exact sadd t comT (by simp [comT]; omega) W
                rw [← ht5] at HY
                clear ht5
                have s2 := fun W => sadd t5 y (by omega) W
                have hjb : (0 : Int) < (j : Int) := by omega
                go_wp2
                go_roundw
                case rel => exact ⟨j + 1, by omega, by go_num, ⟨_, rfl, Lib.hid HY.out.symm⟩, HO, QR⟩
                case measure => simp [intOf]; omega
            · have HTA : Hid (t = selT ++ L) := Lib.hid (by rw [HTE.out, upT_all _ (by omega), HLQ.out])
              clear HTE HLQ HO HAL
              obtain ⟨t2, ht2⟩ : ∃ t2, t2 = t ++ fromT := ⟨_, rfl⟩
              obtain ⟨t3, ht3⟩ : ∃ t3, t3 = t2 ++ tab := ⟨_, rfl⟩
              obtain ⟨t4, ht4⟩ : ∃ t4, t4 = t3 ++ whereT := ⟨_, rfl⟩
              obtain ⟨t6, ht6⟩ : ∃ t6, t6 = t4 ++ tx := ⟨_, rfl⟩
              obtain ⟨u3, hu3⟩ : ∃ u3, u3 = t3 ++ groupT := ⟨_, rfl⟩
              obtain ⟨u6, hu6⟩ : ∃ u6, u6 = t6 ++ groupT := ⟨_, rfl⟩
              have l2 : t2.length ≤ 6170 := by rw [ht2]; simp [fromT]; omega
              have l3 : t3.length ≤ 6270 := by rw [ht3]; simp; omega
              have l4 : t4.length ≤ 6280 := by rw [ht4]; simp [whereT]; omega
              have l6 : t6.length ≤ 12680 := by rw [ht6]; simp; omega
              have l7 : u3.length ≤ 6290 := by rw [hu3]; simp [groupT]; omega
              have l8 : u6.length ≤ 12700 := by rw [hu6]; simp [groupT]; omega
              have s2 : ∀ W, (Op.stringOp BinOp.add ⟨t.toArray⟩ ⟨#[32, 102, 114, 111, 109, 32]⟩).run Tryd.prog W = .ok (.string ⟨t2.toArray⟩) W := fun W => by rw [ht2]; exact sadd t fromT (by first | omega | (simp [selT, fromT, whereT, groupT]; omega)) W
              have s3 : ∀ W, (Op.stringOp BinOp.add ⟨t2.toArray⟩ ⟨tab.toArray⟩).run Tryd.prog W = .ok (.string ⟨t3.toArray⟩) W := fun W => by rw [ht3]; exact sadd t2 tab (by first | omega | (simp [selT, fromT, whereT, groupT]; omega)) W
              have s4 : ∀ W, (Op.stringOp BinOp.add ⟨t3.toArray⟩ ⟨#[32, 119, 104, 101, 114, 101, 32]⟩).run Tryd.prog W = .ok (.string ⟨t4.toArray⟩) W := fun W => by rw [ht4]; exact sadd t3 whereT (by first | omega | (simp [selT, fromT, whereT, groupT]; omega)) W
              have s6 : ∀ W, (Op.stringOp BinOp.add ⟨t4.toArray⟩ ⟨tx.toArray⟩).run Tryd.prog W = .ok (.string ⟨t6.toArray⟩) W := fun W => by rw [ht6]; exact sadd t4 tx (by first | omega | (simp [selT, fromT, whereT, groupT]; omega)) W
              have s7 : ∀ W, (Op.stringOp BinOp.add ⟨t3.toArray⟩ ⟨#[32, 103, 114, 111, 117, 112, 32, 98, 121, 32]⟩).run Tryd.prog W = .ok (.string ⟨u3.toArray⟩) W := fun W => by rw [hu3]; exact sadd t3 groupT (by first | omega | (simp [selT, fromT, whereT, groupT]; omega)) W
              have s8 : ∀ W, (Op.stringOp BinOp.add ⟨t6.toArray⟩ ⟨#[32, 103, 114, 111, 117, 112, 32, 98, 121, 32]⟩).run Tryd.prog W = .ok (.string ⟨u6.toArray⟩) W := fun W => by rw [hu6]; exact sadd t6 groupT (by first | omega | (simp [selT, fromT, whereT, groupT]; omega)) W
              have s9 := fun W => sadd u3 by_ (by omega) W
              have s10 := fun W => sadd u6 by_ (by omega) W
              have HE2 : Hid (r = (if wo = 1 then t3 else t6) ++ grpT by_) := Lib.hid (by
                rw [HE1.out, ht6, ht4, ht3, ht2, HTA.out]
                by_cases e : wo = 1
                · rw [HW1.out e, if_pos e]; simp
                · rw [HW2.out e, if_neg e]; simp)
              have HG3 : Hid (¬ by_ = [] → t3 ++ grpT by_ = u3 ++ by_) := Lib.hid (fun e => by rw [hu3]; unfold grpT; rw [if_neg e]; simp)
              have HG6 : Hid (¬ by_ = [] → t6 ++ grpT by_ = u6 ++ by_) := Lib.hid (fun e => by rw [hu6]; unfold grpT; rw [if_neg e]; simp)
              have HG0 : Hid (∀ x : Tx, x ++ grpT [] = x) := Lib.hid (fun x => by unfold grpT; simp)
              clear ht2 ht3 ht4 ht6 hu3 hu6 l2 l3 l4 l6 l7 l8 HTA HE1 HW2 HW1
              obtain ⟨g0, g1, g2, g3, g4, g5, g6, g7, g8, g9, g10, g11, g12⟩ := QR.out.cells
              dsimp only [Pd.hd, Pd.kids] at g0 g1 g2 g3 g4 g5 g6 g7 g8 g9 g10 g11 g12
              by_cases hwo : wo = 1
              · subst hwo
                by_cases hby : by_ = []
                · subst hby
                  have HE : Hid (r = t3) := Lib.hid (by rw [HE2.out, if_pos rfl, HG0.out])
                  clear HE2 HG3 HG6 HG0
                  go_wp2
                  go_ret
                  exact ⟨strE (by rw [HE.out] <;> simp), QR.out.fr⟩
                · have hbb : (by_ == []) = false := by rw [beq_eq_false_iff_ne]; exact hby
                  have hbb2 : (by_ != []) = true := by rw [bne_iff_ne]; exact hby
                  have HE : Hid (r = u3 ++ by_) := Lib.hid (by rw [HE2.out, if_pos rfl, HG3.out hby])
                  clear HE2 HG3 HG6 HG0 hby
                  go_wp2
                  go_ret
                  exact ⟨strE (by rw [HE.out] <;> simp), QR.out.fr⟩
              · have hwb : (wo != 1) = true := by rw [bne_iff_ne]; exact hwo
                by_cases hby : by_ = []
                · subst hby
                  have HE : Hid (r = t6) := Lib.hid (by rw [HE2.out, if_neg hwo, HG0.out])
                  clear HE2 HG3 HG6 HG0 hwo
                  go_wp2_with fail
                  refine (P1.out _ QR.out.sls).mono ?_
                  rintro e w8 ⟨rfl, f8⟩
                  have Q8 := Lib.hid (QR.out.non f8)
                  clear f8
                  clear g0 g1 g2 g3 g4 g5 g6 g7 g8 g9 g10 g11 g12
                  obtain ⟨g0, g1, g2, g3, g4, g5, g6, g7, g8, g9, g10, g11, g12⟩ := Q8.out.cells
                  dsimp only [Pd.hd, Pd.kids] at g0 g1 g2 g3 g4 g5 g6 g7 g8 g9 g10 g11 g12
                  go_wp2
                  go_ret
                  exact ⟨strE (by rw [HE.out] <;> simp), Q8.out.fr⟩
                · have hbb : (by_ == []) = false := by rw [beq_eq_false_iff_ne]; exact hby
                  have hbb2 : (by_ != []) = true := by rw [bne_iff_ne]; exact hby
                  have HE : Hid (r = u6 ++ by_) := Lib.hid (by rw [HE2.out, if_neg hwo, HG6.out hby])
                  clear HE2 HG3 HG6 HG0 hby hwo
                  go_wp2_with fail
                  refine (P1.out _ QR.out.sls).mono ?_
                  rintro e w8 ⟨rfl, f8⟩
                  have Q8 := Lib.hid (QR.out.non f8)
                  clear f8
                  clear g0 g1 g2 g3 g4 g5 g6 g7 g8 g9 g10 g11 g12
                  obtain ⟨g0, g1, g2, g3, g4, g5, g6, g7, g8, g9, g10, g11, g12⟩ := Q8.out.cells
                  dsimp only [Pd.hd, Pd.kids] at g0 g1 g2 g3 g4 g5 g6 g7 g8 g9 g10 g11 g12
                  go_wp2
                  go_ret
                  exact ⟨strE (by rw [HE.out] <;> simp), Q8.out.fr⟩
        · have h0b : ((al.length : Int) == 0) = false := by rw [beq_eq_false_iff_ne]; omega
          obtain rfl := HB2.out h0
          clear HB1 HB2 h0
          go_wp2
          clear g0 g1 g2 g3 g4 g5 g6 g7 g8 g9 g10 g11 g12
          go_loopw [5, 6] (fun sv_ i wr => ∃ k : Nat, k ≤ al.length ∧ i = .int .i64 k ∧ (∃ t, sv_ = .string ⟨t.toArray⟩ ∧ Hid (t = upT [115, 101, 108, 101, 99, 116, 32] al k)) ∧ Hid (Ow sv 9 wr (w.heap.size + 1) (.slice uA al.length uc) al) ∧ Hid (Qin w w.heap.size ⟨tab, cols, ⟨⟨wo, wc, wm, ⟨wn, wi, wt⟩, wk, wp⟩, wks⟩, aggs, by_⟩ (.slice cA cols.length cc) ⟨sA, sn, sc⟩ (.slice gA aggs.length gc) wr)) (fun _ i _ => al.length - (intOf i).toNat)
          case atStart => exact ⟨0, Nat.zero_le _, rfl, ⟨_, rfl, Lib.hid (upT_zero _ _).symm⟩, HO, QR⟩
          case round =>
            clear HO QR
            rename_i s_ i wr
            obtain ⟨j, hj, rfl, ⟨t, rfl, HTE⟩, HO, QR⟩ := hrel
            have htl2 : t.length ≤ 6158 := by rw [HTE.out]; exact upT_len j hbsl hjl
            by_cases hlt2 : j < al.length
            · obtain ⟨b, rfl, c0⟩ := HO.out.at j hlt2
              have hyl := HAL.out _ (List.getElem_mem hlt2)
              by_cases hj0 : j = 0
              · have HY : Hid (upT [115, 101, 108, 101, 99, 116, 32] al (j + 1) = t ++ al[j]) := Lib.hid (by subst hj0; rw [HTE.out, upT_one hlt2, upT_zero])
                have hjb : (j : Int) ≤ 0 := by omega
                clear hj0
                generalize al[j] = y at *
                have s1 := fun W => sadd t y (by omega) W
                go_wp2
                go_roundw
                case rel => exact ⟨j + 1, by omega, by go_num, ⟨_, rfl, Lib.hid HY.out.symm⟩, HO, QR⟩
                case measure => simp [intOf]; omega
              · have HY : Hid (upT [115, 101, 108, 101, 99, 116, 32] al (j + 1) = t ++ comT ++ al[j]) := Lib.hid (by rw [HTE.out, upT_more hlt2 hj0])
                generalize al[j] = y at *
                obtain ⟨t5, ht5⟩ : ∃ t5, t5 = t ++ comT := ⟨_, rfl⟩
                have l5 : t5.length ≤ 6160 := by rw [ht5]; simp [comT]; omega
                have s1 : ∀ W, (Op.stringOp BinOp.add ⟨t.toArray⟩ ⟨#[44, 32]⟩).run Tryd.prog W = .ok (.string ⟨t5.toArray⟩) W := fun W => by rw [ht5]; exact sadd t comT (by simp [comT]; omega) W
                rw [← ht5] at HY
                clear ht5
                have s2 := fun W => sadd t5 y (by omega) W
                have hjb : (0 : Int) < (j : Int) := by omega
                go_wp2
                go_roundw
                case rel => exact ⟨j + 1, by omega, by go_num, ⟨_, rfl, Lib.hid HY.out.symm⟩, HO, QR⟩
                case measure => simp [intOf]; omega
            · have HTA : Hid (t = selT ++ L) := Lib.hid (by rw [HTE.out, upT_all _ (by omega), HLQ.out])
              clear HTE HLQ HO HAL
              obtain ⟨t2, ht2⟩ : ∃ t2, t2 = t ++ fromT := ⟨_, rfl⟩
              obtain ⟨t3, ht3⟩ : ∃ t3, t3 = t2 ++ tab := ⟨_, rfl⟩
              obtain ⟨t4, ht4⟩ : ∃ t4, t4 = t3 ++ whereT := ⟨_, rfl⟩
              obtain ⟨t6, ht6⟩ : ∃ t6, t6 = t4 ++ tx := ⟨_, rfl⟩
              obtain ⟨u3, hu3⟩ : ∃ u3, u3 = t3 ++ groupT := ⟨_, rfl⟩
              obtain ⟨u6, hu6⟩ : ∃ u6, u6 = t6 ++ groupT := ⟨_, rfl⟩
              have l2 : t2.length ≤ 6170 := by rw [ht2]; simp [fromT]; omega
              have l3 : t3.length ≤ 6270 := by rw [ht3]; simp; omega
              have l4 : t4.length ≤ 6280 := by rw [ht4]; simp [whereT]; omega
              have l6 : t6.length ≤ 12680 := by rw [ht6]; simp; omega
              have l7 : u3.length ≤ 6290 := by rw [hu3]; simp [groupT]; omega
              have l8 : u6.length ≤ 12700 := by rw [hu6]; simp [groupT]; omega
              have s2 : ∀ W, (Op.stringOp BinOp.add ⟨t.toArray⟩ ⟨#[32, 102, 114, 111, 109, 32]⟩).run Tryd.prog W = .ok (.string ⟨t2.toArray⟩) W := fun W => by rw [ht2]; exact sadd t fromT (by first | omega | (simp [selT, fromT, whereT, groupT]; omega)) W
              have s3 : ∀ W, (Op.stringOp BinOp.add ⟨t2.toArray⟩ ⟨tab.toArray⟩).run Tryd.prog W = .ok (.string ⟨t3.toArray⟩) W := fun W => by rw [ht3]; exact sadd t2 tab (by first | omega | (simp [selT, fromT, whereT, groupT]; omega)) W
              have s4 : ∀ W, (Op.stringOp BinOp.add ⟨t3.toArray⟩ ⟨#[32, 119, 104, 101, 114, 101, 32]⟩).run Tryd.prog W = .ok (.string ⟨t4.toArray⟩) W := fun W => by rw [ht4]; exact sadd t3 whereT (by first | omega | (simp [selT, fromT, whereT, groupT]; omega)) W
              have s6 : ∀ W, (Op.stringOp BinOp.add ⟨t4.toArray⟩ ⟨tx.toArray⟩).run Tryd.prog W = .ok (.string ⟨t6.toArray⟩) W := fun W => by rw [ht6]; exact sadd t4 tx (by first | omega | (simp [selT, fromT, whereT, groupT]; omega)) W
              have s7 : ∀ W, (Op.stringOp BinOp.add ⟨t3.toArray⟩ ⟨#[32, 103, 114, 111, 117, 112, 32, 98, 121, 32]⟩).run Tryd.prog W = .ok (.string ⟨u3.toArray⟩) W := fun W => by rw [hu3]; exact sadd t3 groupT (by first | omega | (simp [selT, fromT, whereT, groupT]; omega)) W
              have s8 : ∀ W, (Op.stringOp BinOp.add ⟨t6.toArray⟩ ⟨#[32, 103, 114, 111, 117, 112, 32, 98, 121, 32]⟩).run Tryd.prog W = .ok (.string ⟨u6.toArray⟩) W := fun W => by rw [hu6]; exact sadd t6 groupT (by first | omega | (simp [selT, fromT, whereT, groupT]; omega)) W
              have s9 := fun W => sadd u3 by_ (by omega) W
              have s10 := fun W => sadd u6 by_ (by omega) W
              have HE2 : Hid (r = (if wo = 1 then t3 else t6) ++ grpT by_) := Lib.hid (by
                rw [HE1.out, ht6, ht4, ht3, ht2, HTA.out]
                by_cases e : wo = 1
                · rw [HW1.out e, if_pos e]; simp
                · rw [HW2.out e, if_neg e]; simp)
              have HG3 : Hid (¬ by_ = [] → t3 ++ grpT by_ = u3 ++ by_) := Lib.hid (fun e => by rw [hu3]; unfold grpT; rw [if_neg e]; simp)
              have HG6 : Hid (¬ by_ = [] → t6 ++ grpT by_ = u6 ++ by_) := Lib.hid (fun e => by rw [hu6]; unfold grpT; rw [if_neg e]; simp)
              have HG0 : Hid (∀ x : Tx, x ++ grpT [] = x) := Lib.hid (fun x => by unfold grpT; simp)
              clear ht2 ht3 ht4 ht6 hu3 hu6 l2 l3 l4 l6 l7 l8 HTA HE1 HW2 HW1
              obtain ⟨g0, g1, g2, g3, g4, g5, g6, g7, g8, g9, g10, g11, g12⟩ := QR.out.cells
              dsimp only [Pd.hd, Pd.kids] at g0 g1 g2 g3 g4 g5 g6 g7 g8 g9 g10 g11 g12
              by_cases hwo : wo = 1
              · subst hwo
                by_cases hby : by_ = []
                · subst hby
                  have HE : Hid (r = t3) := Lib.hid (by rw [HE2.out, if_pos rfl, HG0.out])
                  clear HE2 HG3 HG6 HG0
                  go_wp2
                  go_ret
                  exact ⟨strE (by rw [HE.out] <;> simp), QR.out.fr⟩
                · have hbb : (by_ == []) = false := by rw [beq_eq_false_iff_ne]; exact hby
                  have hbb2 : (by_ != []) = true := by rw [bne_iff_ne]; exact hby
                  have HE : Hid (r = u3 ++ by_) := Lib.hid (by rw [HE2.out, if_pos rfl, HG3.out hby])
                  clear HE2 HG3 HG6 HG0 hby
                  go_wp2
                  go_ret
                  exact ⟨strE (by rw [HE.out] <;> simp), QR.out.fr⟩
              · have hwb : (wo != 1) = true := by rw [bne_iff_ne]; exact hwo
                by_cases hby : by_ = []
                · subst hby
                  have HE : Hid (r = t6) := Lib.hid (by rw [HE2.out, if_neg hwo, HG0.out])
                  clear HE2 HG3 HG6 HG0 hwo
                  go_wp2_with fail
                  refine (P1.out _ QR.out.sls).mono ?_
                  rintro e w8 ⟨rfl, f8⟩
                  have Q8 := Lib.hid (QR.out.non f8)
                  clear f8
                  clear g0 g1 g2 g3 g4 g5 g6 g7 g8 g9 g10 g11 g12
                  obtain ⟨g0, g1, g2, g3, g4, g5, g6, g7, g8, g9, g10, g11, g12⟩ := Q8.out.cells
                  dsimp only [Pd.hd, Pd.kids] at g0 g1 g2 g3 g4 g5 g6 g7 g8 g9 g10 g11 g12
                  go_wp2
                  go_ret
                  exact ⟨strE (by rw [HE.out] <;> simp), Q8.out.fr⟩
                · have hbb : (by_ == []) = false := by rw [beq_eq_false_iff_ne]; exact hby
                  have hbb2 : (by_ != []) = true := by rw [bne_iff_ne]; exact hby
                  have HE : Hid (r = u6 ++ by_) := Lib.hid (by rw [HE2.out, if_neg hwo, HG6.out hby])
                  clear HE2 HG3 HG6 HG0 hby hwo
                  go_wp2_with fail
                  refine (P1.out _ QR.out.sls).mono ?_
                  rintro e w8 ⟨rfl, f8⟩
                  have Q8 := Lib.hid (QR.out.non f8)
                  clear f8
                  clear g0 g1 g2 g3 g4 g5 g6 g7 g8 g9 g10 g11 g12
                  obtain ⟨g0, g1, g2, g3, g4, g5, g6, g7, g8, g9, g10, g11, g12⟩ := Q8.out.cells
                  dsimp only [Pd.hd, Pd.kids] at g0 g1 g2 g3 g4 g5 g6 g7 g8 g9 g10 g11 g12
                  go_wp2
                  go_ret
                  exact ⟨strE (by rw [HE.out] <;> simp), Q8.out.fr⟩
end Go.Proofs.YtibopcceffncpaaDoor


namespace Go.Proofs.YtibopcceffncpaaDoor
set_option linter.unusedVariables false
set_option linter.unusedSimpArgs false
set_option maxRecDepth 100000
open Go.RowKit


theorem itoa_5 : Lib.itoa 5 = [53] := by
  rw [show (5 : Int) = ((5 : Nat) : Int) from rfl, itoa_up, Lib.decDigits, dif_pos (by decide)]; rfl
end Go.Proofs.YtibopcceffncpaaDoor


namespace Go.Proofs.YtibopcceffncpaaDoor
set_option linter.unusedVariables false
set_option linter.unusedSimpArgs false
set_option maxRecDepth 100000
open Go.RowKit

def exQP : Pd := .mk ⟨2, [97], 5, ⟨false, 5, []⟩, 1, []⟩ []
def exQ : Qy := ⟨[116], [], exQP, [⟨1, []⟩, ⟨3, [97]⟩], [98]⟩
theorem exQ_may : mayQ exQ = true := by decide +kernel
theorem exQ_textP : textP exQP = [97, 32, 62, 32, 53] := by
  unfold exQP
  rw [tx_2 rfl]
  show [97] ++ [32] ++ markB 5 ++ [32] ++ valT 1 ⟨false, 5, []⟩ = _
  rw [val_1, itoa_5]
  rfl
theorem exQ_text : TextQ exQ = [115, 101, 108, 101, 99, 116, 32, 99, 111, 117, 110, 116, 40, 42, 41, 44, 32, 115, 117, 109, 40, 97, 41, 32, 102, 114, 111, 109, 32, 116, 32, 119, 104, 101, 114, 101, 32, 97, 32, 62, 32, 53, 32, 103, 114, 111, 117, 112, 32, 98, 121, 32, 98] := by
  unfold TextQ
  rw [if_pos exQ_may]
  unfold textQ whrT
  rw [show exQ.whr = exQP from rfl, if_neg (by decide), exQ_textP]
  decide +kernel
theorem exQ_sm : SmQ exQ := ⟨by decide, by decide, by decide, by decide, by decide, by decide, by decide +kernel, by decide +kernel⟩
theorem exQ_s (w : World) (o : Obj) : QyS ((w.alloc (.cells #[.int .i64 1, .string ⟨#[]⟩, .int .i64 3, .string ⟨#[97]⟩] 36)).alloc o) exQ (.slice none 0 0) noKv (.slice (some ⟨w.heap.size, 0, none⟩) 2 2) :=
  ⟨Vs.nil_ _, Kd.nil_ _, ((no_lit (E := 36) fd_ag w 0 w.heap.size [⟨1, []⟩, ⟨3, [97]⟩] #[.int .i64 1, .string ⟨#[]⟩, .int .i64 3, .string ⟨#[97]⟩] rfl rfl (Nat.zero_le _) (by decide)).ns fd_ag).non ((Fr.refl _ _).alloc _), ⟨by decide, by decide⟩⟩
set_option maxHeartbeats 1000000 in
theorem qlive_any (w : World) (hW : Lq w) : Calls Tryd.prog 6 #[] w fun e w' => e = .returned (.bool true) ∧ Fr Non w w' := by
  have M := Lib.hid (fun W (h : QyS W exQ (.slice none 0 0) noKv (.slice (some ⟨w.heap.size, 0, none⟩) 2 2)) (hf : Fr Non w W) => qtext_any exQ (.slice none 0 0) noKv (.slice (some ⟨w.heap.size, 0, none⟩) 2 2) W h exQ_sm (hW.non hf))
  rw [exQ_text] at M
  have HS := Lib.hid (exQ_s w)
  unfold qyV qyC kidV noKv exQ exQP at M
  dsimp only [Pd.hd, Pd.kids] at M
  go_enter Tryd.func6, Tryd.ntmps6
  go_wp2_with fail
  refine (M.out _ (HS.out _) (((Fr.refl Non w).alloc _).alloc _)).mono ?_
  rintro e w1 ⟨rfl, f1⟩
  go_wp2
  go_ret
  exact ⟨ret_boolE (by simp), (((Fr.refl Non w).alloc _).alloc _).trans f1⟩

theorem end_no {P : Prop} : SmEnd P (.returned (.bool false)) := ⟨false, rfl, fun h => by cases h⟩
set_option maxHeartbeats 2000000 in
theorem rqsmall_any (q : Qy) (c : Value) (s : Kv) (g : Value) (w : World) (hq : QyS w q c s g) :
    Calls Tryd.prog 5 #[qyV q c s g] w fun e w' => SmEnd (SmQ q) e ∧ Fr Non w w' := by
  have Q0 := Lib.hid (Qin.new hq)
  have P := Lib.hid (fun W (h : QyS W q c s g) => rpsmall_any q.whr s 9 9 W rfl (by omega) h.kids)
  have HE0 : Hid ((q.cols.length ≤ 15 ∧ ∀ x ∈ q.cols, x.length ≤ 100) → (q.aggs.length ≤ 15 ∧ ∀ a ∈ q.aggs, a.col.length ≤ 100) → q.tab.length ≤ 100 → q.by_.length ≤ 100 → (lenP q.whr = true ∧ depP q.whr ≤ 9) → SmQ q) := Lib.hid (fun a b c d e => ⟨a.1, a.2, b.1, b.2, c, d, e.1, e.2⟩)
  generalize SmQ q = R at *
  unfold pdV pdC at P
  obtain ⟨cA, cc, hce⟩ := hq.cols.shape
  obtain ⟨gA, gc, hge⟩ := hq.aggs.shape
  clear hq
  obtain ⟨tab, cols, ⟨⟨wo, wc, wm, ⟨wn, wi, wt⟩, wk, wp⟩, wks⟩, aggs, by_⟩ := q
  obtain ⟨sA, sn, sc⟩ := s
  dsimp only at hce hge
  subst hce
  subst hge
  unfold qyV qyC kidV at *
  dsimp only [Pd.hd, Pd.kids] at *
  go_enter Tryd.func5, Tryd.ntmps5
  go_wp2
  go_loopw [3] (fun i wr => ∃ k : Nat, k ≤ cols.length ∧ k ≤ 20 ∧ i = .int .i64 k ∧ Hid (∀ j (h : j < cols.length), j < k → cols[j].length ≤ 100) ∧ Hid (Qin w w.heap.size ⟨tab, cols, ⟨⟨wo, wc, wm, ⟨wn, wi, wt⟩, wk, wp⟩, wks⟩, aggs, by_⟩ (.slice cA cols.length cc) ⟨sA, sn, sc⟩ (.slice gA aggs.length gc) wr)) (fun i _ => 20 - (intOf i).toNat)
  case atStart => exact ⟨0, Nat.zero_le _, Nat.zero_le _, rfl, Lib.hid (fun _ _ h => by omega), Q0⟩
  case round =>
    clear Q0
    obtain ⟨k, hk, hk2, rfl, HS, QR⟩ := hrel
    obtain ⟨g0, g1, g2, g3, g4, g5, g6, g7, g8, g9, g10, g11, g12⟩ := QR.out.cells
    dsimp only [Pd.hd, Pd.kids] at g0 g1 g2 g3 g4 g5 g6 g7 g8 g9 g10 g11 g12
    by_cases hlt : k < cols.length
    · by_cases h20 : k < 20
      · obtain ⟨a, rfl, _, _, hel⟩ := QR.out.sls.cols.addr (show 0 < cols.length by omega)
        have c0 := hel k hlt
        unfold sv at c0
        have HY : Hid (cols[k].length ≤ 100 → ∀ j (h : j < cols.length), j < k + 1 → cols[j].length ≤ 100) := Lib.hid (fun h j hj hjk => by
          by_cases e : j = k
          · subst e; exact h
          · exact HS.out j hj (by omega))
        clear HS hel
        try dsimp only at c0
        generalize cols[k] = y at *
        have hsl := slenN y
        by_cases hy : 100 < y.length
        · go_wp2
          go_ret
          exact ⟨end_no, QR.out.fr⟩
        · have H := Lib.hid (HY.out (by omega))
          clear HY
          go_wp2
          go_roundw
          case rel => exact ⟨k + 1, by omega, by omega, by go_num, H, QR⟩
          case measure => simp [intOf]; omega
      · have HN : Hid (¬ cols.length ≤ 15) := Lib.hid (by omega)
        clear HS
        rename World => W1
        go_wp2
        clear g0 g1 g2 g3 g4 g5 g6 g7 g8 g9 g10 g11 g12
        go_loopw [4] (fun i wr => ∃ k : Nat, k ≤ aggs.length ∧ k ≤ 20 ∧ i = .int .i64 k ∧ Hid (∀ j (h : j < aggs.length), j < k → aggs[j].col.length ≤ 100) ∧ Hid (Qin w w.heap.size ⟨tab, cols, ⟨⟨wo, wc, wm, ⟨wn, wi, wt⟩, wk, wp⟩, wks⟩, aggs, by_⟩ (.slice cA cols.length cc) ⟨sA, sn, sc⟩ (.slice gA aggs.length gc) wr)) (fun i _ => 20 - (intOf i).toNat)
        case atStart => exact ⟨0, Nat.zero_le _, Nat.zero_le _, rfl, Lib.hid (fun _ _ h => by omega), QR⟩
        case round =>
          clear QR
          obtain ⟨m, hm, hm2, rfl, HS2, QR⟩ := hrel
          obtain ⟨g0, g1, g2, g3, g4, g5, g6, g7, g8, g9, g10, g11, g12⟩ := QR.out.cells
          dsimp only [Pd.hd, Pd.kids] at g0 g1 g2 g3 g4 g5 g6 g7 g8 g9 g10 g11 g12
          by_cases hlt2 : m < aggs.length
          · by_cases h202 : m < 20
            · obtain ⟨b, rfl, _, d0, d1⟩ := Ns.gat QR.out.sls.aggs m hlt2
              have HY : Hid (aggs[m].col.length ≤ 100 → ∀ j (h : j < aggs.length), j < m + 1 → aggs[j].col.length ≤ 100) := Lib.hid (fun h j hj hjk => by
                by_cases e : j = m
                · subst e; exact h
                · exact HS2.out j hj (by omega))
              clear HS2
              try dsimp only at d0 d1
              generalize aggs[m] = x at *
              obtain ⟨xo, xn⟩ := x
              dsimp only at d0 d1 HY
              have hsl := slenN xn
              by_cases hy : 100 < xn.length
              · go_wp2
                go_ret
                exact ⟨end_no, QR.out.fr⟩
              · have H2 := Lib.hid (HY.out (by omega))
                clear HY
                go_wp2
                go_roundw
                case rel => exact ⟨m + 1, by omega, by omega, by go_num, H2, QR⟩
                case measure => simp [intOf]; omega
            · have HN2 : Hid (¬ aggs.length ≤ 15) := Lib.hid (by omega)
              have hc15 : ¬ cols.length ≤ 15 := HN.out
              go_wp2
              go_ret
              exact ⟨end_no, QR.out.fr⟩
          · have H2 : Hid (∀ a ∈ aggs, a.col.length ≤ 100) := Lib.hid (fun x hx => by
              obtain ⟨j, hj, rfl⟩ := List.mem_iff_getElem.1 hx
              exact HS2.out j hj (by omega))
            have hc15 : ¬ cols.length ≤ 15 := HN.out
            go_wp2
            go_ret
            exact ⟨end_no, QR.out.fr⟩
    · have H : Hid (∀ x ∈ cols, x.length ≤ 100) := Lib.hid (fun x hx => by
        obtain ⟨j, hj, rfl⟩ := List.mem_iff_getElem.1 hx
        exact HS.out j hj (by omega))
      clear HS
      rename World => W1
      go_wp2
      clear g0 g1 g2 g3 g4 g5 g6 g7 g8 g9 g10 g11 g12
      go_loopw [4] (fun i wr => ∃ k : Nat, k ≤ aggs.length ∧ k ≤ 20 ∧ i = .int .i64 k ∧ Hid (∀ j (h : j < aggs.length), j < k → aggs[j].col.length ≤ 100) ∧ Hid (Qin w w.heap.size ⟨tab, cols, ⟨⟨wo, wc, wm, ⟨wn, wi, wt⟩, wk, wp⟩, wks⟩, aggs, by_⟩ (.slice cA cols.length cc) ⟨sA, sn, sc⟩ (.slice gA aggs.length gc) wr)) (fun i _ => 20 - (intOf i).toNat)
      case atStart => exact ⟨0, Nat.zero_le _, Nat.zero_le _, rfl, Lib.hid (fun _ _ h => by omega), QR⟩
      case round =>
        clear QR
        obtain ⟨m, hm, hm2, rfl, HS2, QR⟩ := hrel
        obtain ⟨g0, g1, g2, g3, g4, g5, g6, g7, g8, g9, g10, g11, g12⟩ := QR.out.cells
        dsimp only [Pd.hd, Pd.kids] at g0 g1 g2 g3 g4 g5 g6 g7 g8 g9 g10 g11 g12
        by_cases hlt2 : m < aggs.length
        · by_cases h202 : m < 20
          · obtain ⟨b, rfl, _, d0, d1⟩ := Ns.gat QR.out.sls.aggs m hlt2
            have HY : Hid (aggs[m].col.length ≤ 100 → ∀ j (h : j < aggs.length), j < m + 1 → aggs[j].col.length ≤ 100) := Lib.hid (fun h j hj hjk => by
              by_cases e : j = m
              · subst e; exact h
              · exact HS2.out j hj (by omega))
            clear HS2
            try dsimp only at d0 d1
            generalize aggs[m] = x at *
            obtain ⟨xo, xn⟩ := x
            dsimp only at d0 d1 HY
            have hsl := slenN xn
            by_cases hy : 100 < xn.length
            · go_wp2
              go_ret
              exact ⟨end_no, QR.out.fr⟩
            · have H2 := Lib.hid (HY.out (by omega))
              clear HY
              go_wp2
              go_roundw
              case rel => exact ⟨m + 1, by omega, by omega, by go_num, H2, QR⟩
              case measure => simp [intOf]; omega
          · have HN2 : Hid (¬ aggs.length ≤ 15) := Lib.hid (by omega)
            by_cases hc15 : cols.length ≤ 15
            · have hg15 : ¬ aggs.length ≤ 15 := HN2.out
              go_wp2
              go_ret
              exact ⟨end_no, QR.out.fr⟩
            · go_wp2
              go_ret
              exact ⟨end_no, QR.out.fr⟩
        · have H2 : Hid (∀ a ∈ aggs, a.col.length ≤ 100) := Lib.hid (fun x hx => by
            obtain ⟨j, hj, rfl⟩ := List.mem_iff_getElem.1 hx
            exact HS2.out j hj (by omega))
          have st := slenN tab
          have sb := slenN by_
          by_cases hc15 : cols.length ≤ 15
          · by_cases hg15 : aggs.length ≤ 15
            · by_cases ht : tab.length ≤ 100
              · by_cases hb : by_.length ≤ 100
                · go_wp2_with fail
                  refine (P.out _ QR.out.sls).mono ?_
                  rintro e w5 ⟨⟨b5, rfl, hb5⟩, f5⟩
                  have HB5 := Lib.hid hb5
                  clear hb5
                  have HR : Hid (b5 = true → R) := Lib.hid (fun e => HE0.out ⟨hc15, H.out⟩ ⟨hg15, H2.out⟩ ht hb (HB5.out e))
                  go_wp2
                  go_ret
                  exact ⟨⟨_, rfl, HR.out⟩, QR.out.fr.trans f5⟩
                · go_wp2
                  go_ret
                  exact ⟨end_no, QR.out.fr⟩
              · go_wp2
                go_ret
                exact ⟨end_no, QR.out.fr⟩
            · go_wp2
              go_ret
              exact ⟨end_no, QR.out.fr⟩
          · go_wp2
            go_ret
            exact ⟨end_no, QR.out.fr⟩
end Go.Proofs.YtibopcceffncpaaDoor


namespace Go.Proofs.YtibopcceffncpaaDoor
set_option linter.unusedVariables false
set_option linter.unusedSimpArgs false
set_option maxRecDepth 100000
open Go.RowKit

set_option maxHeartbeats 4000000 in
theorem queryTexts_walk (q : Qy) (c : Value) (s : Kv) (g : Value) (W : World) (hW : Lq W) (hq : QyS W q c s g) :
    Calls Tryd.prog 3 #[qyV q c s g] W fun e w' => e = .returned (.bool true) ∧ Below W.heap.size W w' := by
  have Q0 := Lib.hid (Qin.new hq)
  have HW0 := Lib.hid (hW.non Q0.out.fr)
  have S := Lib.hid (fun W (h : QyS W q c s g) => rqsmall_any q c s g W h)
  have HT1 : Hid (SmQ q → ∀ W, QyS W q c s g → Lq W → Calls Tryd.prog 7 #[qyV q c s g] W fun e w' => e = .returned (.string ⟨(TextQ q).toArray⟩) ∧ Fr Non W w') := Lib.hid (fun hs W h hw => qtext_any q c s g W h hs hw)
  have HT2 : Hid (SmQ q → ∀ W, QyS W q c s g → Calls Tryd.prog 8 #[qyV q c s g] W fun e w' => e = .returned (.string ⟨(TextQ q).toArray⟩) ∧ Fr Non W w') := Lib.hid (fun hs W h => rqtext_any q c s g W h hs)
  generalize SmQ q = P at *
  generalize TextQ q = tx at *
  obtain ⟨cA, cc, hce⟩ := hq.cols.shape
  obtain ⟨gA, gc, hge⟩ := hq.aggs.shape
  clear hq hW
  obtain ⟨tab, cols, ⟨⟨wo, wc, wm, ⟨wn, wi, wt⟩, wk, wp⟩, wks⟩, aggs, by_⟩ := q
  obtain ⟨sA, sn, sc⟩ := s
  dsimp only at hce hge
  subst hce
  subst hge
  unfold qyV qyC kidV at *
  dsimp only [Pd.hd, Pd.kids] at *
  go_enter Tryd.func3, Tryd.ntmps3
  go_wp2_with fail
  refine (S.out _ Q0.out.sls).mono ?_
  rintro e w1 ⟨⟨b1, rfl, hb1⟩, f1⟩
  have HB1 := Lib.hid hb1
  have Q1 := Lib.hid (Q0.out.non f1)
  have HW1 := Lib.hid (HW0.out.non f1)
  clear f1 hb1 S
  cases b1
  · clear HT1 HT2
    go_wp2_with fail
    refine (qlive_any _ HW1.out).mono ?_
    rintro e w9 ⟨rfl, f9⟩
    go_wp2
    go_ret
    exact ⟨rfl, (Q1.out.fr.trans f9).below⟩
  · have hp := HB1.out rfl
    have T1 := Lib.hid (HT1.out hp)
    have T2 := Lib.hid (HT2.out hp)
    clear HT1 HT2 HB1 hp
    go_wp2
    have Qd := Lib.hid Q1.out.drew
    have HWd := Lib.hid (HW1.out.non (Fr.refl Non w1).drew)
    obtain ⟨g0, g1, g2, g3, g4, g5, g6, g7, g8, g9, g10, g11, g12⟩ := Qd.out.cells
    dsimp only [Pd.hd, Pd.kids] at g0 g1 g2 g3 g4 g5 g6 g7 g8 g9 g10 g11 g12
    refine wp_region_held_drew (S := (fun W' => W'.cell? ⟨W.heap.size, 0, none⟩ = some (.string ⟨tab.toArray⟩) ∧ W'.cell? ⟨W.heap.size, 1, none⟩ = some (.slice cA cols.length cc) ∧ W'.cell? ⟨W.heap.size, 2, none⟩ = some (.int .i64 wo) ∧ W'.cell? ⟨W.heap.size, 3, none⟩ = some (.string ⟨wc.toArray⟩) ∧ W'.cell? ⟨W.heap.size, 4, none⟩ = some (.int .i64 wm) ∧ W'.cell? ⟨W.heap.size, 5, none⟩ = some (.bool wn) ∧ W'.cell? ⟨W.heap.size, 6, none⟩ = some (.int .i64 wi) ∧ W'.cell? ⟨W.heap.size, 7, none⟩ = some (.string ⟨wt.toArray⟩) ∧ W'.cell? ⟨W.heap.size, 8, none⟩ = some (.int .i64 wk) ∧ W'.cell? ⟨W.heap.size, 9, none⟩ = some (.string ⟨wp.toArray⟩) ∧ W'.cell? ⟨W.heap.size, 10, none⟩ = some (.slice sA sn sc) ∧ W'.cell? ⟨W.heap.size, 11, none⟩ = some (.slice gA aggs.length gc) ∧ W'.cell? ⟨W.heap.size, 12, none⟩ = some (.string ⟨by_.toArray⟩))) (by kernel_rfl) (by exact ⟨g0, g1, g2, g3, g4, g5, g6, g7, g8, g9, g10, g11, g12⟩) (fun hHeld => ?_)
    refine wpAnyH_take (i := 0) (oi := ⟨some 7, _, _, _, _, none⟩) (v := ?v1) rfl (by kernel_rfl) (by kernel_rfl) (by kernel_rfl) (fun _ _ _ h => h) (Or.inl ⟨by rfl, ?hy1⟩) (by assumption) ?rest1
    case hy1 => (intro wS hSw; (try dsimp only at hSw); go_simp; (try with_reducible rfl))
    (try simp only [Act.put, List.setIfInBounds_toArray, List.set_cons_zero, List.set_cons_succ])
    refine wpAnyH_take (i := 2) (oi := ⟨some 9, _, _, _, _, none⟩) (v := ?v2) rfl (by kernel_rfl) (by kernel_rfl) (by kernel_rfl) (fun _ _ _ h => h) (Or.inl ⟨by rfl, ?hy2⟩) (by assumption) ?rest2
    case hy2 => (intro wS hSw; (try dsimp only at hSw); go_simp; (try with_reducible rfl))
    (try simp only [Act.put, List.setIfInBounds_toArray, List.set_cons_zero, List.set_cons_succ])
    refine wpAnyH_ready (rs := [1]) (by kernel_rfl) (by simp) ?_
    refine AllReadyH.cons (o := ⟨some 8, _, _, _, _, none⟩) rfl (fun K hK => ?_) AllReadyH.nil
    go_simp
    go_at_call 7
    refine (T1.out _ Qd.out.sls HWd.out).mono ?_
    rintro e w5 ⟨rfl, f5⟩
    have Q5 := Lib.hid (Qd.out.non f5)
    have HW5 := Lib.hid (HWd.out.non f5)
    clear g0 g1 g2 g3 g4 g5 g6 g7 g8 g9 g10 g11 g12
    obtain ⟨g0, g1, g2, g3, g4, g5, g6, g7, g8, g9, g10, g11, g12⟩ := Q5.out.cells
    dsimp only [Pd.hd, Pd.kids] at g0 g1 g2 g3 g4 g5 g6 g7 g8 g9 g10 g11 g12
    go_wp2_with fail
    refine hK.out _ _ (by exact ⟨g0, g1, g2, g3, g4, g5, g6, g7, g8, g9, g10, g11, g12⟩) (fun hHeld => ?_)
    clear hK K
    (try simp only [Act.put, List.setIfInBounds_toArray, List.set_cons_zero, List.set_cons_succ])
    refine wpAnyH_ready (rs := [3]) (by kernel_rfl) (by simp) ?_
    refine AllReadyH.cons (o := ⟨some 10, _, _, _, _, none⟩) rfl (fun K hK => ?_) AllReadyH.nil
    go_simp
    go_at_call 8
    refine (T2.out _ Q5.out.sls).mono ?_
    rintro e w6 ⟨rfl, f6⟩
    have Q6 := Lib.hid (Q5.out.non f6)
    have HW6 := Lib.hid (HW5.out.non f6)
    clear g0 g1 g2 g3 g4 g5 g6 g7 g8 g9 g10 g11 g12
    obtain ⟨g0, g1, g2, g3, g4, g5, g6, g7, g8, g9, g10, g11, g12⟩ := Q6.out.cells
    dsimp only [Pd.hd, Pd.kids] at g0 g1 g2 g3 g4 g5 g6 g7 g8 g9 g10 g11 g12
    go_wp2_with fail
    refine hK.out _ _ (by exact ⟨g0, g1, g2, g3, g4, g5, g6, g7, g8, g9, g10, g11, g12⟩) (fun hHeld => ?_)
    clear hK K
    (try simp only [Act.put, List.setIfInBounds_toArray, List.set_cons_zero, List.set_cons_succ])
    refine wpAnyH_take (i := 4) (oi := ⟨some 11, _, _, _, _, none⟩) (v := ?v3) rfl (by kernel_rfl) (by kernel_rfl) (by kernel_rfl) (fun _ _ _ h => h) (Or.inl ⟨by rfl, ?hy3⟩) (by assumption) ?rest3
    case hy3 => (intro wS hSw; (try dsimp only at hSw); go_simp; (try with_reducible rfl))
    (try simp only [Act.put, List.setIfInBounds_toArray, List.set_cons_zero, List.set_cons_succ])
    refine wpAnyH_take (i := 5) (oi := ⟨some 12, _, _, _, _, none⟩) (v := ?v4) rfl (by kernel_rfl) (by kernel_rfl) (by kernel_rfl) (fun _ _ _ h => h) (Or.inl ⟨by rfl, ?hy4⟩) (by assumption) ?rest4
    case hy4 => (intro wS hSw; (try dsimp only at hSw); go_simp; (try with_reducible rfl))
    (try simp only [Act.put, List.setIfInBounds_toArray, List.set_cons_zero, List.set_cons_succ])
    refine wpAnyH_ready (rs := [6]) (by kernel_rfl) (by simp) ?_
    refine AllReadyH.cons (o := ⟨some 13, _, _, _, _, some (5, true)⟩) rfl (fun K hK => ?_) AllReadyH.nil
    go_simp
    go_at_call 6
    refine (qlive_any _ HW6.out).mono ?_
    rintro e w7 ⟨rfl, f7⟩
    have Q7 := Lib.hid (Q6.out.non f7)
    have HW7 := Lib.hid (HW6.out.non f7)
    clear g0 g1 g2 g3 g4 g5 g6 g7 g8 g9 g10 g11 g12
    obtain ⟨g0, g1, g2, g3, g4, g5, g6, g7, g8, g9, g10, g11, g12⟩ := Q7.out.cells
    dsimp only [Pd.hd, Pd.kids] at g0 g1 g2 g3 g4 g5 g6 g7 g8 g9 g10 g11 g12
    go_wp2_with fail
    refine hK.out _ _ (by exact ⟨g0, g1, g2, g3, g4, g5, g6, g7, g8, g9, g10, g11, g12⟩) (fun hHeld => ?_)
    clear hK K
    (try simp only [Act.put, List.setIfInBounds_toArray, List.set_cons_zero, List.set_cons_succ])
    refine wpAnyH_take (i := 7) (oi := ⟨some 14, _, _, _, _, none⟩) (v := ?v5) rfl (by kernel_rfl) (by kernel_rfl) (by kernel_rfl) (fun _ _ _ h => h) (Or.inl ⟨by rfl, ?hy5⟩) (by assumption) ?rest5
    case hy5 => (intro wS hSw; (try dsimp only at hSw); go_simp; (try with_reducible rfl))
    (try simp only [Act.put, List.setIfInBounds_toArray, List.set_cons_zero, List.set_cons_succ])
    refine wpAnyH_take (i := 8) (oi := ⟨some 2, _, _, _, _, none⟩) (v := ?v6) rfl (by kernel_rfl) (by kernel_rfl) (by kernel_rfl) (fun _ _ _ h => h) (Or.inl ⟨by rfl, ?hy6⟩) (by assumption) ?rest6
    case hy6 => (intro wS hSw; (try dsimp only at hSw); go_simp; (try with_reducible rfl))
    (try simp only [Act.put, List.setIfInBounds_toArray, List.set_cons_zero, List.set_cons_succ])
    refine wpAnyH_done (by kernel_rfl) ?_ _
    go_wp2
    go_ret
    exact ⟨rfl, Q7.out.fr.below⟩
end Go.Proofs.YtibopcceffncpaaDoor


namespace Go.Proofs.YtibopcceffncpaaDoor
set_option linter.unusedVariables false
set_option linter.unusedSimpArgs false
set_option maxRecDepth 100000
open Go.ChangeShapes Go.WideShapes Go.ChangeAt Go.RowKit

/-- a call's contract, by what the row says and by what the world's shape says -/
theorem handed_shaped {H : Type} {enc : TypeId × Value → H} {a : Assume} {C : Checked} {os : Os} {f : FuncId} {fn : Func} {s : ChangeSpec} {conds : List PathCond} {apart fresh handsOn again : Bool} {X : World → Array Value → Prop}
    (hX : ∀ (w w' : World) (args : Array Value), w.heap = w'.heap → X w args → X w' args)
    (own : ownKnob C.prog.godebug = none) (started : os.Started) (noInit : C.prog.inits.idxOf? f = none) (hfn : C.prog.funcs[f]? = some fn)
    (witness : ∃ (w : World) (tape : Tape) (i : Input), w.os = os ∧ (w.forCall tape i).Shaped C.prog ∧ i.vars = [] ∧ Input.okWide C.prog (w.forCall tape i) .any w.heap.size f i ∧
      ((s.pre enc C.prog fn conds apart (w.forCall tape i).memory i.args ∧ X (w.forCall tape i).memory i.args) ∧ sizedMet enc C.prog fn (OpenSpec.ofChange s) apart (w.forCall tape i).memory i.args) ∧ a.holds C.prog (lone (Frame.enter C.prog f i.args .normal) [] (w.forCall tape i)))
    (contract : ∀ (W : World) (base : Nat) (args : Array Value) (ds gs : List (DataW H)) (before : List MemPlace),
      (∀ (j : Nat) t v, fn.params[j]? = some t → args[j]? = some v → Value.okWide C.prog W .any base t v) →
      DataW.Whole enc C.prog fn.params.toList s.vars apart W args.toList ds gs before → W.ShapedOpen C.prog → X W args →
      Calls C.prog f args W fun e W' => ∃ v, e = .returned v ∧ s.post enc C.prog fn apart fresh handsOn again W args v W') :
    ReturnsInHanded a C os f .any (fun w args => (s.pre enc C.prog fn conds apart w args ∧ X w args) ∧ sizedMet enc C.prog fn (OpenSpec.ofChange s) apart w args) (s.post enc C.prog fn apart fresh handsOn again) := by
  refine returnsInHanded_of_calls own started noInit witness ?_
  intro w tape i _ hsh _ hok hpre hholds
  obtain ⟨_, _, _, fn', hfn', _, _, _, _, hval⟩ := hok
  obtain rfl : fn' = fn := Option.some.inj (hfn'.symm.trans hfn)
  obtain ⟨⟨⟨ds, gs, before, hw, _⟩, hx⟩, _⟩ := hpre
  refine (contract (w.forCall tape i) w.heap.size i.args ds gs before hval (DataW.Whole.of_heap (w' := w.forCall tape i) (by rfl) hw) hsh (hX _ _ _ (by rfl) hx)).mono fun e W' ⟨v, he, hp⟩ => ?_
  subst he
  exact ChangeSpec.post_blind hp

end Go.Proofs.YtibopcceffncpaaDoor


namespace Go.Proofs.YtibopcceffncpaaDoor
set_option linter.unusedVariables false
set_option linter.unusedSimpArgs false
set_option maxRecDepth 100000
open Go.Joins Go.ChangeShapes Go.WideShapes Go.ChangeAt Go.RowKit Go.Deep

/-- a cell within its fields' ranges -/
structure ClWf (c : Cl) : Prop where
  lo : -9223372036854775808 ≤ c.num
  hi : c.num ≤ 9223372036854775807
  len : c.txt.length ≤ 9223372036854775807
end Go.Proofs.YtibopcceffncpaaDoor


namespace Go.Proofs.YtibopcceffncpaaDoor
set_option linter.unusedVariables false
set_option linter.unusedSimpArgs false
set_option maxRecDepth 100000
open Go.RowKit

/-- a cell's three values, and those of many -/
def clL (c : Cl) : List Value := [.bool c.null, .int .i64 c.num, .string ⟨c.txt.toArray⟩]
def clsL (l : List Cl) : List Value := l.flatMap clL
theorem clsL_cons (c : Cl) (l : List Cl) : clsL (c :: l) = clL c ++ clsL l := by simp [clsL]
theorem clsL_at (l : List Cl) (j : Nat) (i : Nat) (hj : j < l.length) (hi : i < 3) : (clsL l)[j * 3 + i]? = (clL l[j])[i]? := by
  induction l generalizing j with
  | nil => cases hj
  | cons c l ih =>
    rw [clsL_cons]
    cases j with
    | zero => rw [List.getElem?_append_left (by simp [clL]; omega)]; simp
    | succ j =>
      rw [List.getElem?_append_right (by simp [clL]; omega)]
      rw [show (j + 1) * 3 + i - (clL c).length = j * 3 + i by simp [clL]; omega]
      exact ih j (by simpa using hj)
/-- three cells, one behind the other, that hold c -/
structure At3 (w : World) (a : Addr) (c : Cl) : Prop where
  c0 : w.cell? a = some (.bool c.null)
  c1 : w.cell? (a.add 1) = some (.int .i64 c.num)
  c2 : w.cell? (a.add 2) = some (.string ⟨c.txt.toArray⟩)

/-- the slice v reads as the cells l -/
def Cs (w : World) (v : Value) (l : List Cl) : Prop :=
  ∃ A c, v = .slice A l.length c ∧ l.length ≤ c ∧ (A = none → c = 0) ∧ ∀ a, A = some a → ∀ j (h : j < l.length), At3 w (a.add (j * 3)) l[j]
/-- a row of the call's own, from block B on -/
def Oc (w : World) (B : Nat) (v : Value) (l : List Cl) : Prop := w.ownsRow B 24 3 v l.length (clsL l)

theorem At3.keep {w w' : World} {a : Addr} {c : Cl} (h : At3 w a c) (hk : w'.heap[a.block]? = w.heap[a.block]?) : At3 w' a c := by
  obtain ⟨h0, h1, h2⟩ := h
  exact ⟨by rw [← h0]; exact World.cell?_of_block hk, by rw [← h1]; exact World.cell?_of_block (by rw [add_block]; exact hk), by rw [← h2]; exact World.cell?_of_block (by rw [add_block]; exact hk)⟩

theorem Cs.nil_ (w : World) : Cs w (.slice none 0 0) [] := ⟨none, 0, rfl, Nat.le_refl _, fun _ => rfl, fun _ h => by cases h⟩
theorem Cs.keep {w w' : World} {v : Value} {l : List Cl} (h : Cs w v l) (hk : ∀ k, v.ownBlock = some k → k < w.heap.size → w'.heap[k]? = w.heap[k]?) : Cs w' v l := by
  obtain ⟨A, c, rfl, h1, h2, h3⟩ := h
  refine ⟨A, c, rfl, h1, h2, fun a ha j hj => ?_⟩
  have := h3 a ha j hj
  subst ha
  have hb := World.block_lt_of_cell? w _ this.c0
  refine this.keep ?_
  rw [add_block] at hb ⊢
  exact hk _ rfl hb
theorem Cs.fr {S : Nat → Prop} {w w' : World} {v : Value} {l : List Cl} (h : Cs w v l) (hf : Fr S w w') (hn : ∀ k, v.ownBlock = some k → ¬ S k) : Cs w' v l :=
  h.keep fun k hk hlt => hf.block k hlt (hn k hk)
theorem Cs.non {w w' : World} {v : Value} {l : List Cl} (h : Cs w v l) (hf : Fr Non w w') : Cs w' v l := h.fr hf fun _ _ e => e
theorem Cs.drew {w : World} {v : Value} {l : List Cl} (h : Cs w v l) : Cs w.drew v l := h.keep fun _ _ _ => rfl
theorem Cs.shape {w : World} {v : Value} {l : List Cl} (h : Cs w v l) : ∃ A c, v = .slice A l.length c := by
  obtain ⟨A, c, rfl, _⟩ := h; exact ⟨A, c, rfl⟩
theorem Cs.addr {w : World} {A : Option Addr} {n c : Nat} {l : List Cl} (h : Cs w (.slice A n c) l) (hl : 0 < n) : ∃ a, A = some a ∧ n = l.length ∧ n ≤ c ∧ ∀ j (h : j < l.length), At3 w (a.add (j * 3)) l[j] := by
  obtain ⟨A0, c0, he, h1, h2, h3⟩ := h
  simp only [Value.slice.injEq] at he
  obtain ⟨rfl, rfl, rfl⟩ := he
  cases A with
  | none => have := h2 rfl; omega
  | some a => exact ⟨a, rfl, rfl, h1, h3 a rfl⟩
/-- what a walk asks of the element at j -/
theorem Cs.el {w : World} {a : Addr} {n c : Nat} {l : List Cl} (h : Cs w (.slice (some a) n c) l) (j : Nat) (x : Cl) (hx : l[j]? = some x) :
    w.cell? (a.add (j * 3)) = some (.bool x.null) ∧ w.cell? ((a.add (j * 3)).add 1) = some (.int .i64 x.num) ∧ w.cell? ((a.add (j * 3)).add 2) = some (.string ⟨x.txt.toArray⟩) := by
  obtain ⟨A0, c0, he, h1, h2, h3⟩ := h
  simp only [Value.slice.injEq] at he
  obtain ⟨rfl, rfl, rfl⟩ := he
  obtain ⟨hj, rfl⟩ := List.getElem?_eq_some_iff.1 hx
  have := h3 a rfl j hj
  exact ⟨this.c0, this.c1, this.c2⟩

/-- as a walk spells them -/
theorem At3.lit {w : World} {a : Addr} {c : Cl} (h : At3 w a c) : w.cell? a = some (.bool c.null) ∧ w.cell? { block := a.block, off := a.off + 1 } = some (.int .i64 c.num) ∧ w.cell? { block := a.block, off := a.off + 2 } = some (.string ⟨c.txt.toArray⟩) := ⟨h.c0, h.c1, h.c2⟩
theorem Oc.lt {w : World} {B : Nat} {v : Value} {l : List Cl} (h : Oc w B v l) : ∀ k, v.ownBlock = some k → B ≤ k ∧ k < w.heap.size := World.ownsRow.lt h
theorem Oc.cs {w : World} {B : Nat} {v : Value} {l : List Cl} (h : Oc w B v l) : Cs w v l := by
  rcases h.2 with ⟨rfl, h0⟩ | ⟨g, cap, cur, rfl, _, _, hle, _, _, _⟩
  · have hl : l = [] := List.eq_nil_of_length_eq_zero h0
    subst hl; exact Cs.nil_ w
  · refine ⟨_, cap, rfl, hle, (fun h => by cases h), fun a ha j hj => ?_⟩
    cases ha
    have H := fun i hi => World.ownsRow.cells h (g := g) rfl (j * 3 + i) _ ((clsL_at l j i hj hi).trans (List.getElem?_eq_getElem (by simp [clL]; omega)))
    refine ⟨?_, ?_, ?_⟩
    · have := H 0 (by omega); simpa [clL] using this
    · rw [add_add]; have := H 1 (by omega); simpa [clL] using this
    · rw [add_add]; have := H 2 (by omega); simpa [clL] using this
theorem Oc.shape {w : World} {B : Nat} {v : Value} {l : List Cl} (h : Oc w B v l) : ∃ A c, v = .slice A l.length c := h.cs.shape
theorem Oc.keep {w w' : World} {B : Nat} {v : Value} {l : List Cl} (h : Oc w B v l) (hk : ∀ k, v.ownBlock = some k → w'.heap[k]? = w.heap[k]?) : Oc w' B v l := by
  refine ⟨h.1, ?_⟩
  rcases h.2 with h2 | ⟨g, cap, cur, hv, hb, hg, r⟩
  · exact .inl h2
  · exact .inr ⟨g, cap, cur, hv, hb, by rw [hk g (by rw [hv]; rfl)]; exact hg, r⟩
theorem Oc.fr {S : Nat → Prop} {w w' : World} {B : Nat} {v : Value} {l : List Cl} (h : Oc w B v l) (hf : Fr S w w') (hn : ∀ k, v.ownBlock = some k → ¬ S k) : Oc w' B v l :=
  h.keep fun k hk => hf.block k (h.lt k hk).2 (hn k hk)
theorem Oc.non {w w' : World} {B : Nat} {v : Value} {l : List Cl} (h : Oc w B v l) (hf : Fr Non w w') : Oc w' B v l := h.fr hf fun _ _ e => e
theorem Oc.alloc {w : World} {B : Nat} {v : Value} {l : List Cl} (h : Oc w B v l) (o : Obj) : Oc (w.alloc o) B v l := h.non ((Fr.refl _ _).alloc o)
theorem Oc.drew {w : World} {B : Nat} {v : Value} {l : List Cl} (h : Oc w B v l) : Oc w.drew B v l := h
theorem Oc.mono {w : World} {B B' : Nat} {v : Value} {l : List Cl} (h : Oc w B v l) (hB : B' ≤ B) : Oc w B' v l := by
  refine ⟨h.1, ?_⟩
  rcases h.2 with h2 | ⟨g, cap, cur, hv, hb, r⟩
  · exact .inl h2
  · exact .inr ⟨g, cap, cur, hv, by omega, r⟩
theorem Oc.kind {w : World} {B : Nat} {v : Value} {l : List Cl} (h : Oc w B v l) : ∀ k, v.ownBlock = some k → ∃ cur, w.heap[k]? = some (.cells cur 24 (0, 0)) := by
  intro k hk
  rcases h.2 with ⟨rfl, _⟩ | ⟨g, cap, cur, rfl, _, hg, _⟩
  · cases hk
  · obtain rfl : g = k := by simpa [Value.ownBlock] using hk
    exact ⟨cur, hg⟩
theorem Oc.row {w : World} {B : Nat} {v : Value} {l : List Cl} (h : Oc w B v l) (hn : 0 < l.length) : ∃ g cap, v = .slice (some ⟨g, 0, none⟩) l.length cap ∧ B ≤ g ∧ g < w.heap.size ∧ l.length ≤ cap ∧ cap ≤ maxLen := by
  rcases h.2 with ⟨rfl, h0⟩ | ⟨g, cap, cur, rfl, hb, hg, hle, hm, _⟩
  · omega
  · exact ⟨g, cap, rfl, hb, (Array.getElem?_eq_some_iff.1 hg).1, hle, hm⟩
/-- what a walk asks of a row's element at j -/
theorem Oc.el {w : World} {B g n cap : Nat} {l : List Cl} (h : Oc w B (.slice (some ⟨g, 0, none⟩) n cap) l) (hn : n = l.length) (j : Nat) (x : Cl) (hx : l[j]? = some x) :
    w.cell? ⟨g, j * 3, none⟩ = some (.bool x.null) ∧ w.cell? ⟨g, j * 3 + 1, none⟩ = some (.int .i64 x.num) ∧ w.cell? ⟨g, j * 3 + 2, none⟩ = some (.string ⟨x.txt.toArray⟩) := by
  subst hn
  obtain ⟨hj, rfl⟩ := List.getElem?_eq_some_iff.1 hx
  refine ⟨?_, ?_, ?_⟩
  · rw [World.ownsRow.cellAt h (j * 3) (by omega)]; have := clsL_at l j 0 hj (by omega); simpa [clL] using this
  · rw [World.ownsRow.cellAt h (j * 3 + 1) (by omega)]; have := clsL_at l j 1 hj (by omega); simpa [clL] using this
  · rw [World.ownsRow.cellAt h (j * 3 + 2) (by omega)]; have := clsL_at l j 2 hj (by omega); simpa [clL] using this
theorem Oc.frozen {w : World} {B g n cap : Nat} {l : List Cl} (h : Oc w B (.slice (some ⟨g, 0, none⟩) n cap) l) (hn : n = l.length) (j : Nat) : w.frozen? ⟨g, j, none⟩ = false := by
  subst hn; exact World.ownsRow.frozenAt h j
/-! ### Steps -/
end Go.Proofs.YtibopcceffncpaaDoor


namespace Go.Proofs.YtibopcceffncpaaDoor
set_option linter.unusedVariables false
set_option linter.unusedSimpArgs false
set_option maxRecDepth 100000
open Go.Joins Go.ChangeShapes Go.WideShapes Go.ChangeAt Go.RowKit Go.Deep

theorem cof_bool : Tryd.prog.cellsOf 4 = 1 := by kernel_rfl
theorem cof_i64 : Tryd.prog.cellsOf 2 = 1 := by kernel_rfl
theorem cof_int : Tryd.prog.cellsOf 3 = 1 := by kernel_rfl
theorem cof_str : Tryd.prog.cellsOf 9 = 1 := by kernel_rfl
theorem cof_cl : Tryd.prog.cellsOf 24 = 3 := by kernel_rfl
/-- three cells that are read as a cell -/
theorem cl_cells {H : Type} {enc : TypeId × Value → H} {W : World} {n : Nat} {x : DataW H × List MemPlace} {c2 c3 c4 : Value}
    (h : DataW.trod enc Tryd.prog W 0 (fun _ => true) true n 24 [c2, c3, c4] = some x) : ∃ c : Cl, c2 = .bool c.null ∧ c3 = .int .i64 c.num ∧ c4 = .string ⟨c.txt.toArray⟩ ∧ ClWf c := by
  obtain ⟨y0, y1, y2, m, rfl, _, h0, h1, h2⟩ := trod_struct3 Tryd.underlying24 h
  simp only [cof_bool, cof_i64, cof_str, List.drop_zero, List.drop_succ_cons, List.take_succ_cons, List.take_zero] at h0 h1 h2
  obtain ⟨b, e0, _⟩ := DataW.trod_bool Tryd.underlying4 h0
  obtain rfl := (List.cons.inj e0).1
  obtain ⟨i, e1, _, hi⟩ := DataW.trod_int Tryd.underlying2 h1
  obtain rfl := (List.cons.inj e1).1
  obtain ⟨s, e2, _, hs⟩ := DataW.trod_string Tryd.underlying9 h2
  obtain rfl := (List.cons.inj e2).1
  have hb := wf_i64_bd hi
  exact ⟨⟨b, i, s.data.toList⟩, rfl, rfl, by simp, ⟨hb.1, hb.2, by simpa [maxLen] using hs⟩⟩
end Go.Proofs.YtibopcceffncpaaDoor


namespace Go.Proofs.YtibopcceffncpaaDoor
set_option linter.unusedVariables false
set_option linter.unusedSimpArgs false
set_option maxRecDepth 100000
open Go.Joins Go.ChangeShapes Go.WideShapes Go.ChangeAt Go.RowKit Go.Deep

theorem powp_data : (Rows.laid_internal_strconv_uint64pow10 : DataW Unit) = Lib.tabData .u64 Lib.pow10Tab := by kernel_rfl
def cmpsD : List (DataW Unit) := cmpsL.map fun l => .lit (.string l)
theorem cmps_data : (Rows.laid_firkin_pred_marks : DataW Unit) = .agg cmpsD := by kernel_rfl
theorem cmps_in {W : World} {r : List (String × DataW Unit)} (h : laidMet Tryd.prog (("firkin/pred.marks", Rows.laid_firkin_pred_marks) :: r) W) : ∀ j (h : j < cmpsL.length), W.cell? ⟨1, j, none⟩ = some (.string ⟨cmpsL[j].toArray⟩) := by
  intro j hj
  rw [cmps_data] at h
  obtain ⟨ps, ⟨g, t, cs, fuel, p, q, hg, ht, hv, hd, _, _⟩, _, _⟩ := h
  obtain rfl := Option.some.inj ((show Tryd.prog.globalNamed "firkin/pred.marks" = some 1 by kernel_rfl).symm.trans hg)
  obtain rfl := Option.some.inj ((show (Tryd.prog.globals[1]?).map (·.type) = some 68 by kernel_rfl).symm.trans ht)
  obtain ⟨xs, m, _, ex, _, hl, hel⟩ := DataW.trod_array Tryd.underlying68 hd
  have c9 : Tryd.prog.cellsOf 9 = 1 := by kernel_rfl
  have hj10 : j < 7 := hj
  have hE := hel j hj10
  rw [c9, Nat.mul_one, List.getElem?_eq_getElem (by omega)] at hE
  obtain ⟨s, e1, e2, _⟩ := DataW.trod_string Tryd.underlying9 hE
  have e3 : (xs.map (·.1)) = cmpsD := (DataW.agg.inj (Prod.mk.inj ex).1).symm
  have e4 : (xs.map (·.1))[j]? = cmpsD[j]? := by rw [e3]
  unfold cmpsD at e4
  obtain ⟨m', hm⟩ : ∃ m', cmpsL[j]? = some m' := ⟨_, List.getElem?_eq_getElem hj⟩
  rw [List.getElem?_map, List.getElem?_map, List.getElem?_eq_getElem (by omega : j < xs.length), hm, e2] at e4
  have hs : s.data.toList = m' := by simpa using e4
  rw [World.var?_cell hg hv j, (List.getElem?_eq_some_iff.1 hm).2, ← hs]
  have : cs.toList[j]? = some (.string s) := by
    have h0 : ((cs.toList.drop j).take 1)[0]? = some (.string s) := by rw [e1]; rfl
    simpa using h0
  simpa using this
/-! ### A world in which they lie so -/
/-! ### A predicate opened -/
theorem cof_pd : Tryd.prog.cellsOf 27 = 9 := by kernel_rfl
theorem cof_pds : Tryd.prog.cellsOf 25 = 1 := by kernel_rfl
theorem pd_trod {H : Type} {enc : TypeId × Value → H} {W : World} : ∀ (N fuel : Nat) (cs : List Value) (x : DataW H × List MemPlace), SizeOf.sizeOf x.1 ≤ N →
    DataW.trod enc Tryd.prog W 0 (fun _ => true) true fuel 27 cs = some x → ∃ (h : Ph) (s : Kv) (ks : List Pd), cs = pdL (h, s) ∧ Kd W s ks ∧ I64b h.val.num := by
  intro N
  induction N with
  | zero =>
    intro fuel cs x hx h
    obtain ⟨xs, n, rfl, hxe, _⟩ := DataW.trod_struct Tryd.underlying27 h
    rw [hxe] at hx
    simp only [DataW.agg.sizeOf_spec] at hx
    omega
  | succ N ih =>
    intro fuel cs x hx h
    obtain ⟨xs, n, rfl, hxe, hlen, hxl, hall⟩ := DataW.trod_struct Tryd.underlying27 h
    rw [cof_pd] at hlen
    have hxl7 : xs.length = 7 := hxl
    rw [hxe] at hx
    simp only [DataW.agg.sizeOf_spec] at hx
    match cs, hlen with
    | [v0, v1, v2, v3, v4, v5, v6, v7, v8], _ =>
      have f0 : DataW.trod enc Tryd.prog W 0 (fun _ => true) true n 3 (List.take (Tryd.prog.cellsOf 3) (List.drop 0 [v0, v1, v2, v3, v4, v5, v6, v7, v8])) = xs[0]? := hall 0 _ rfl
      have f1 : DataW.trod enc Tryd.prog W 0 (fun _ => true) true n 9 (List.take (Tryd.prog.cellsOf 9) (List.drop 1 [v0, v1, v2, v3, v4, v5, v6, v7, v8])) = xs[1]? := hall 1 _ rfl
      have f2 : DataW.trod enc Tryd.prog W 0 (fun _ => true) true n 3 (List.take (Tryd.prog.cellsOf 3) (List.drop 2 [v0, v1, v2, v3, v4, v5, v6, v7, v8])) = xs[2]? := hall 2 _ rfl
      have f3 : DataW.trod enc Tryd.prog W 0 (fun _ => true) true n 24 (List.take (Tryd.prog.cellsOf 24) (List.drop 3 [v0, v1, v2, v3, v4, v5, v6, v7, v8])) = xs[3]? := hall 3 _ rfl
      have f4 : DataW.trod enc Tryd.prog W 0 (fun _ => true) true n 3 (List.take (Tryd.prog.cellsOf 3) (List.drop 6 [v0, v1, v2, v3, v4, v5, v6, v7, v8])) = xs[4]? := hall 4 _ rfl
      have f5 : DataW.trod enc Tryd.prog W 0 (fun _ => true) true n 9 (List.take (Tryd.prog.cellsOf 9) (List.drop 7 [v0, v1, v2, v3, v4, v5, v6, v7, v8])) = xs[5]? := hall 5 _ rfl
      have f6 : DataW.trod enc Tryd.prog W 0 (fun _ => true) true n 25 (List.take (Tryd.prog.cellsOf 25) (List.drop 8 [v0, v1, v2, v3, v4, v5, v6, v7, v8])) = xs[6]? := hall 6 _ rfl
      rw [List.getElem?_eq_getElem (by omega)] at f0 f1 f2 f3 f4 f5 f6
      simp only [cof_int, cof_str, cof_cl, cof_pds, List.drop_zero, List.drop_succ_cons, List.take_succ_cons, List.take_zero] at f0 f1 f2 f3 f4 f5 f6
      obtain ⟨i0, e0, _, w0⟩ := DataW.trod_int Tryd.underlying3 f0
      obtain rfl := (List.cons.inj e0).1
      obtain ⟨s1, e1, _, _⟩ := DataW.trod_string Tryd.underlying9 f1
      obtain rfl := (List.cons.inj e1).1
      obtain ⟨i2, e2, _, _⟩ := DataW.trod_int Tryd.underlying3 f2
      obtain rfl := (List.cons.inj e2).1
      obtain ⟨c, rfl, rfl, rfl, hc⟩ := cl_cells f3
      obtain ⟨i4, e4, _, _⟩ := DataW.trod_int Tryd.underlying3 f4
      obtain rfl := (List.cons.inj e4).1
      obtain ⟨s5, e5, _, _⟩ := DataW.trod_string Tryd.underlying9 f5
      obtain rfl := (List.cons.inj e5).1
      have hy : SizeOf.sizeOf xs[6].1 < SizeOf.sizeOf (xs.map fun x => x.fst) := List.sizeOf_lt_of_mem (List.mem_map.2 ⟨xs[6], List.getElem_mem _, rfl⟩)
      refine (?_ : ∃ (s : Kv) (ks : List Pd), v8 = kidV s ∧ Kd W s ks).elim fun s hs => ?_
      · rcases Go.Deep.open_slice Tryd.underlying25 f6 with ⟨hcs, _⟩ | ⟨a, len, cap, m, q, D, Pl, hcs, _, hl, hm, hmm, hye, hr⟩
        · obtain rfl := (List.cons.inj hcs).1
          exact ⟨noKv, [], rfl, Kd.nil_ W⟩
        · obtain rfl := (List.cons.inj hcs).1
          have hnm : len ≤ m := by rw [hmm]; simp; exact hl
          have hyx : xs[6].1 = DataW.slice ((List.range len).map D) ((List.range (m - len)).map fun j => D (len + j)) := (Prod.mk.inj (show (xs[6].1, xs[6].2) = _ from hye)).1
          rw [hyx] at hy
          simp only [DataW.slice.sizeOf_spec] at hy
          obtain ⟨l, hll, hls⟩ := choose_listG (fun i (z : (Ph × Kv) × List Pd) => AtN W (a.add (i * 9)) (pdL z.1) ∧ Kd W z.1.2 z.2 ∧ I64b z.1.1.val.num) len (by
            intro i hi
            obtain ⟨cs', h1, h2⟩ := hr i (by omega)
            rw [cof_pd] at h1
            obtain ⟨_, hlen', hcell⟩ := World.cells?_some h1
            have hd : SizeOf.sizeOf (D i) < SizeOf.sizeOf ((List.range len).map D) := List.sizeOf_lt_of_mem (List.mem_map.2 ⟨i, List.mem_range.2 hi, rfl⟩)
            obtain ⟨h', s', ks', rfl, hk', hb'⟩ := ih _ _ _ (show SizeOf.sizeOf (D i, Pl i).1 ≤ N by show SizeOf.sizeOf (D i) ≤ N; omega) h2
            refine ⟨((h', s'), ks'), fun j u hu => ?_, hk', hb'⟩
            rw [hcell j (by have := (List.getElem?_eq_some_iff.1 hu).1; simpa [pdL] using this)]
            exact hu)
          subst hll
          refine ⟨⟨some a, l.length, cap⟩, l.map fun z => .mk z.1.1 z.2, rfl, .mk _ (l.map Prod.fst) _ (by simp) ⟨some a, cap, by simp [kidV], by simpa using hl, (fun h => by cases h), fun b hb j hj => ?_⟩ (fun i h1 h2 => by simp [Pd.hd]) (fun i h2 => ?_) (fun i h1 h2 => ?_)⟩
          · cases hb
            have hj' : j < l.length := by simpa using hj
            simpa using (hls j hj').1
          · have hj' : i < l.length := by simpa using h2
            simpa [Pd.hd] using (hls i hj').2.2
          · have hj' : i < l.length := by simpa using h1
            simpa [Pd.kids] using (hls i hj').2.1
      · obtain ⟨ks, rfl, hk⟩ := hs
        exact ⟨⟨i0, s1.data.toList, i2, c, i4, s5.data.toList⟩, s, ks, by simp [pdL], hk, ⟨hc.lo, hc.hi⟩⟩
end Go.Proofs.YtibopcceffncpaaDoor


namespace Go.Proofs.YtibopcceffncpaaDoor
set_option linter.unusedVariables false
set_option linter.unusedSimpArgs false
set_option maxRecDepth 100000
open Go.Joins Go.ChangeShapes Go.WideShapes Go.ChangeAt Go.RowKit Go.Deep

/-- the list of the rows of this layer -/
abbrev laid18 : List (String × DataW Unit) := [("math/bits.deBruijn32tab", Rows.laid_math_bits_deBruijn32tab), ("math/bits.deBruijn64tab", Rows.laid_math_bits_deBruijn64tab), ("internal/strconv.uint64pow10", Rows.laid_internal_strconv_uint64pow10), ("unicode/utf8.acceptRanges", Rows.laid_unicode_utf8_acceptRanges), ("firkin/pred.marks", Rows.laid_firkin_pred_marks), ("firkin/query.calls", Rows.laid_firkin_query_calls), ("unicode/utf8.first", Rows.laid_unicode_utf8_first)]
def callsD : List (DataW Unit) := callsL.map fun l => .lit (.string l)
theorem calls_data : (Rows.laid_firkin_query_calls : DataW Unit) = .agg callsD := by kernel_rfl
theorem calls_in {W : World} {r : List (String × DataW Unit)} (h : laidMet Tryd.prog (("firkin/query.calls", Rows.laid_firkin_query_calls) :: r) W) : ∀ j (h : j < callsL.length), W.cell? ⟨0, j, none⟩ = some (.string ⟨callsL[j].toArray⟩) := by
  intro j hj
  rw [calls_data] at h
  obtain ⟨ps, ⟨g, t, cs, fuel, p, q, hg, ht, hv, hd, _, _⟩, _, _⟩ := h
  obtain rfl := Option.some.inj ((show Tryd.prog.globalNamed "firkin/query.calls" = some 0 by kernel_rfl).symm.trans hg)
  obtain rfl := Option.some.inj ((show (Tryd.prog.globals[0]?).map (·.type) = some 67 by kernel_rfl).symm.trans ht)
  obtain ⟨xs, m, _, ex, _, hl, hel⟩ := DataW.trod_array Tryd.underlying67 hd
  have c9 : Tryd.prog.cellsOf 9 = 1 := by kernel_rfl
  have hj10 : j < 6 := hj
  have hE := hel j hj10
  rw [c9, Nat.mul_one, List.getElem?_eq_getElem (by omega)] at hE
  obtain ⟨s, e1, e2, _⟩ := DataW.trod_string Tryd.underlying9 hE
  have e3 : (xs.map (·.1)) = callsD := (DataW.agg.inj (Prod.mk.inj ex).1).symm
  have e4 : (xs.map (·.1))[j]? = callsD[j]? := by rw [e3]
  unfold callsD at e4
  obtain ⟨m', hm⟩ : ∃ m', callsL[j]? = some m' := ⟨_, List.getElem?_eq_getElem hj⟩
  rw [List.getElem?_map, List.getElem?_map, List.getElem?_eq_getElem (by omega : j < xs.length), hm, e2] at e4
  have hs : s.data.toList = m' := by simpa using e4
  rw [World.var?_cell hg hv j, (List.getElem?_eq_some_iff.1 hm).2, ← hs]
  have : cs.toList[j]? = some (.string s) := by
    have h0 : ((cs.toList.drop j).take 1)[0]? = some (.string s) := by rw [e1]; rfl
    simpa using h0
  simpa using this
theorem lq_in {W : World} (h : laidMetH Tryd.prog laid18 W) (hs : W.ShapedOpen Tryd.prog) : Lq W := by
  rw [MakeChecks.laidMetH_plain _ _ _ (by kernel_rfl)] at h
  have h2 := h.tail.tail
  have h5 := h2.tail.tail
  refine ⟨⟨cmps_in h5, cell_of_shapedOpen_int hs (by decide +kernel) (t := 3) (zero := #[.int .i64 0]) (by kernel_rfl) rfl (by kernel_rfl) (by kernel_rfl) Tryd.underlying3, ?_⟩, calls_in h5.tail⟩
  exact Lib.tabIs_of_head (n := 20) (show Tryd.prog.globalNamed "internal/strconv.uint64pow10" = some 3 by kernel_rfl)
      (show (Tryd.prog.globals[3]?).map (·.type) = some 106 by kernel_rfl) Tryd.underlying106 Tryd.underlying91 (by kernel_rfl) (by kernel_rfl) (by rw [powp_data] at h2; exact h2)

/-! ### A world in which they lie so -/
theorem laid18_shaped (os : Os) : (World.laidAll Tryd.prog os laid18).Shaped Tryd.prog := World.shaped_of_ZipB (by kernel_rfl) (by kernel_rfl)
theorem laid18_met (os : Os) (args : Array Value) : laidMetH Tryd.prog laid18 ((World.laidAll Tryd.prog os laid18).forCall (fun _ _ => 0) ⟨#[], args, []⟩).memory := by
  rw [MakeChecks.laidMetH_plain _ _ _ (by kernel_rfl)]
  exact laidMet_laidAll _ (by kernel_rfl) (by kernel_rfl)

/-! ### A query opened -/
theorem vs_trod {α : Type} {f : α → Value} {T E : TypeId} (hT : Tryd.prog.underlying T = some (.slice E)) (hc : Tryd.prog.cellsOf E = 1) {H : Type} {enc : TypeId × Value → H} {W : World} {fuel : Nat} {cs : List Value} {x : DataW H × List MemPlace}
    (each : ∀ n V y, DataW.trod enc Tryd.prog W 0 (fun _ => true) true n E [V] = some y → ∃ x, V = f x)
    (hf : DataW.trod enc Tryd.prog W 0 (fun _ => true) true fuel T cs = some x) : ∃ v l, cs = [v] ∧ Vs f W v l := by
  rcases Go.Deep.open_slice1 hT hc hf with ⟨hcs, _⟩ | ⟨a, len, cap, m, k, V, D, Pl, hcs, _, hl, hm, hmm, _, hr⟩
  · exact ⟨_, [], hcs, Vs.nil_ W⟩
  · have hnm : len ≤ m := by rw [hmm]; simp; exact hl
    obtain ⟨l, hll, hls⟩ := choose_listG (fun i x => W.cell? (a.add i) = some (f x)) len (by
      intro i hi
      obtain ⟨h1, h2⟩ := hr i (by omega)
      obtain ⟨x, hx⟩ := each _ _ _ h2
      exact ⟨x, by rw [h1, hx]⟩)
    subst hll
    refine ⟨_, l, hcs, ⟨some a, cap, rfl, hl, (fun h => by cases h), fun b hb j hj => ?_⟩⟩
    cases hb
    exact hls j hj
theorem ns_trod {α : Type} {f : α → List Value} {k : Nat} (hF : Fd f k) {T E : TypeId} (hT : Tryd.prog.underlying T = some (.slice E)) (hc : Tryd.prog.cellsOf E = k) {H : Type} {enc : TypeId × Value → H} {W : World} {fuel : Nat} {cs : List Value} {x : DataW H × List MemPlace}
    (each : ∀ n cs y, cs.length = k → DataW.trod enc Tryd.prog W 0 (fun _ => true) true n E cs = some y → ∃ x, cs = f x)
    (hf : DataW.trod enc Tryd.prog W 0 (fun _ => true) true fuel T cs = some x) : ∃ v l, cs = [v] ∧ Ns f k W v l := by
  rcases Go.Deep.open_slice hT hf with ⟨hcs, _⟩ | ⟨a, len, cap, m, q, D, Pl, hcs, _, hl, hm, hmm, _, hr⟩
  · exact ⟨_, [], hcs, Ns.nil_ W⟩
  · have hnm : len ≤ m := by rw [hmm]; simp; exact hl
    obtain ⟨l, hll, hls⟩ := choose_listG (fun i (x : α) => AtN W (a.add (i * k)) (f x)) len (by
      intro i hi
      obtain ⟨cs', h1, h2⟩ := hr i (by omega)
      rw [hc] at h1
      obtain ⟨_, hlen, hcell⟩ := World.cells?_some h1
      obtain ⟨x, rfl⟩ := each _ _ _ hlen h2
      refine ⟨x, fun j u hu => ?_⟩
      rw [hcell j (by rw [← hF.len x]; exact (List.getElem?_eq_some_iff.1 hu).1)]
      exact hu)
    subst hll
    refine ⟨_, l, hcs, ⟨some a, cap, rfl, hl, (fun h => by cases h), fun b hb j hj => ?_⟩⟩
    cases hb
    exact hls j hj
theorem cof_ag : Tryd.prog.cellsOf 36 = 2 := by kernel_rfl
theorem cof_qy : Tryd.prog.cellsOf 30 = 13 := by kernel_rfl
theorem cof_strs : Tryd.prog.cellsOf 22 = 1 := by kernel_rfl
theorem cof_ags : Tryd.prog.cellsOf 28 = 1 := by kernel_rfl
theorem ag_trod {H : Type} {enc : TypeId × Value → H} {W : World} {n : Nat} {cs : List Value} {y : DataW H × List MemPlace} (hl : cs.length = 2) (h : DataW.trod enc Tryd.prog W 0 (fun _ => true) true n 36 cs = some y) : ∃ x : Ag, cs = agL x := by
  obtain ⟨xs, n, rfl, hxe, hlen, hxl, hall⟩ := DataW.trod_struct Tryd.underlying36 h
  have hxl2 : xs.length = 2 := hxl
  match cs, hl with
  | [v0, v1], _ =>
    have f0 : DataW.trod enc Tryd.prog W 0 (fun _ => true) true n 3 (List.take (Tryd.prog.cellsOf 3) (List.drop 0 [v0, v1])) = xs[0]? := hall 0 _ rfl
    have f1 : DataW.trod enc Tryd.prog W 0 (fun _ => true) true n 9 (List.take (Tryd.prog.cellsOf 9) (List.drop 1 [v0, v1])) = xs[1]? := hall 1 _ rfl
    rw [List.getElem?_eq_getElem (by omega)] at f0 f1
    simp only [cof_int, cof_str, List.drop_zero, List.drop_succ_cons, List.take_succ_cons, List.take_zero] at f0 f1
    obtain ⟨i0, e0, _, w0⟩ := DataW.trod_int Tryd.underlying3 f0
    obtain rfl := (List.cons.inj e0).1
    obtain ⟨s1, e1, _, _⟩ := DataW.trod_string Tryd.underlying9 f1
    obtain rfl := (List.cons.inj e1).1
    exact ⟨⟨i0, s1.data.toList⟩, by simp [agL]⟩
set_option maxHeartbeats 1000000 in
theorem qy_in {H : Type} {enc : TypeId × Value → H} {W : World} {base : Nat} {v : Value} {d : DataW H} {p : List MemPlace} (hv : Value.okWide Tryd.prog W .any base 30 v)
    (h : DataW.Trod enc Tryd.prog W 0 (fun _ => true) true 30 v d p) : ∃ (q : Qy) (c : Value) (s : Kv) (g : Value), v = qyV q c s g ∧ QyS W q c s g := by
  obtain ⟨cs, rfl, hsz⟩ := okWide_struct Tryd.underlying30 hv
  obtain ⟨fuel, hf⟩ := h
  obtain ⟨xs, n, rfl, hxe, hlen, hxl, hall⟩ := DataW.trod_struct Tryd.underlying30 hf
  obtain ⟨cl⟩ := cs
  have hcl : cl.length = 13 := by
    have : (Array.mk cl).size = 13 := hsz.trans cof_qy
    simpa using this
  have hxl5 : xs.length = 5 := hxl
  clear hxe hlen hxl hv hf hsz
  match cl, hcl with
  | [v0, v1, v2, v3, v4, v5, v6, v7, v8, v9, v10, v11, v12], _ =>
    have f0 : DataW.trod enc Tryd.prog W 0 (fun _ => true) true n 9 (List.take (Tryd.prog.cellsOf 9) (List.drop 0 [v0, v1, v2, v3, v4, v5, v6, v7, v8, v9, v10, v11, v12])) = xs[0]? := hall 0 _ rfl
    have f1 : DataW.trod enc Tryd.prog W 0 (fun _ => true) true n 22 (List.take (Tryd.prog.cellsOf 22) (List.drop 1 [v0, v1, v2, v3, v4, v5, v6, v7, v8, v9, v10, v11, v12])) = xs[1]? := hall 1 _ rfl
    have f2 : DataW.trod enc Tryd.prog W 0 (fun _ => true) true n 27 (List.take (Tryd.prog.cellsOf 27) (List.drop 2 [v0, v1, v2, v3, v4, v5, v6, v7, v8, v9, v10, v11, v12])) = xs[2]? := hall 2 _ rfl
    have f3 : DataW.trod enc Tryd.prog W 0 (fun _ => true) true n 28 (List.take (Tryd.prog.cellsOf 28) (List.drop 11 [v0, v1, v2, v3, v4, v5, v6, v7, v8, v9, v10, v11, v12])) = xs[3]? := hall 3 _ rfl
    have f4 : DataW.trod enc Tryd.prog W 0 (fun _ => true) true n 9 (List.take (Tryd.prog.cellsOf 9) (List.drop 12 [v0, v1, v2, v3, v4, v5, v6, v7, v8, v9, v10, v11, v12])) = xs[4]? := hall 4 _ rfl
    rw [List.getElem?_eq_getElem (by omega)] at f0 f1 f2 f3 f4
    simp only [cof_str, cof_strs, cof_pd, cof_ags, List.drop_zero, List.drop_succ_cons, List.take_succ_cons, List.take_zero] at f0 f1 f2 f3 f4
    obtain ⟨s0, e0, _, _⟩ := DataW.trod_string Tryd.underlying9 f0
    obtain rfl := (List.cons.inj e0).1
    obtain ⟨c, l, e1, hc⟩ := vs_trod (f := sv) Tryd.underlying22 (by kernel_rfl) (fun n V y hy => by
      obtain ⟨b, e, _, hw⟩ := DataW.trod_string Tryd.underlying9 hy
      exact ⟨b.data.toList, by simpa [sv] using e⟩) f1
    obtain rfl := (List.cons.inj e1).1
    obtain ⟨hd, ks, ps, e2, hk, hb⟩ := pd_trod _ _ _ _ (Nat.le_refl _) f2
    obtain ⟨g, gl, e3, hg⟩ := ns_trod fd_ag Tryd.underlying28 cof_ag (fun n cs y hl hy => ag_trod hl hy) f3
    obtain rfl := (List.cons.inj e3).1
    obtain ⟨s4, e4, _, _⟩ := DataW.trod_string Tryd.underlying9 f4
    obtain rfl := (List.cons.inj e4).1
    unfold pdL at e2
    simp only [List.cons.injEq, and_true] at e2
    obtain ⟨rfl, rfl, rfl, rfl, rfl, rfl, rfl, rfl, rfl⟩ := e2
    exact ⟨⟨s0.data.toList, l, .mk hd ps, gl, s4.data.toList⟩, v1, ks, v11, by simp [qyV, qyC, Pd.hd], ⟨hc, hk, hg, hb⟩⟩
end Go.Proofs.YtibopcceffncpaaDoor
