/-
  Joined: Layer 18: which queries there may be, the program's: a query's text, the program's. · Layer 17: the page's example. · Layer 18: which queries there may be, the program's: the example; small queries. · Predicates' texts read again: a reader of texts (of lists of bytes, by so many steps), which reads each predicate's text as the predicate: so unlike ones have unlike texts. Nothing of the program. · Unlike queries have unlike texts; nothing of the program. · Layer 18: which queries there may be, the program's: the walk of the law that unlike queries have unlike texts. · A row's frame that hands the world's shape on. · Arguments opened: a cell by value; a value of each type. · Slices of cells: what one reads as (Cs), a row of the call's own (Oc), and the steps over them. · Arguments opened: a slice of cells.
-/
import Derived.Laws.StructEq
import Derived.Laws.Rows
import Derived.Laws.ResultCell
import Derived.Lib.Zigzag
import Derived.Lib.DecodeN
import Derived.Laws.RangeAny
import Derived.Laws.Cover4
import Derived.Laws.Cover1
import Derived.Deep.QuietTactic
import Derived.BigQuiet
import Derived.Deep.RegionHeld3
import Derived.Deep.DrawnRows
import Derived.Lib.SmallJoins
import Derived.Lib.AppendIntMem
import Derived.Test.YtibopcceffncpaaDoorZ5
import Derived.Test.YtibopcceffncpaaDoorZ3
import Derived.Test.YtibopcceffncpaaDoorZ1
import Derived.Test.YtibopcceffncpaaDoorRows
import Derived.LaidMore
import Derived.Lay
import Derived.Handed
import Derived.Shelf.Vars
import Derived.OpenShut
import Derived.Stop.Joined
import Derived.ProofKit

namespace Go.Proofs.YtibopcceffncpaaDoor
set_option linter.unusedVariables false
set_option linter.unusedSimpArgs false
set_option maxRecDepth 100000
open Go.RowKit

theorem pd_num {w : World} {h : Ph} {s : Kv} {ks : List Pd} (hk : Kd w s ks) (hb : I64b h.val.num) : numP (.mk h ks) := ⟨hb, hk.num⟩
theorem textP_le {q : Qy} (h : SmQ q) (hn : numP q.whr) : (TextP q.whr).length ≤ 6400 := by
  unfold TextP
  split
  · rename_i b
    have a := text_len q.whr hn h.lens
    unfold mayP at b
    simp only [Bool.and_eq_true, decide_eq_true_eq] at b
    omega
  · simp
theorem listQ_len {q : Qy} (h : SmQ q) : (listQ q).length ≤ 6150 := by
  unfold listQ
  split
  · decide
  · exact joinQ_len _ (asked_len h).1 (asked_len h).2
theorem may_ags {q : Qy} (h : mayQ q = true) : ∀ a ∈ q.aggs, agB a = true := by
  rcases may_kinds h with ⟨h1, _⟩ | ⟨_, _, h3, _⟩
  · rw [h1]; simp
  · exact h3
theorem QyS.nums {w : World} {q : Qy} {c : Value} {s : Kv} {g : Value} (h : QyS w q c s g) : numP q.whr := by
  have := pd_num (h := q.whr.hd) h.kids h.num
  rwa [← Pd.eta] at this
set_option maxHeartbeats 4000000 in
theorem qtext_any (q : Qy) (c : Value) (s : Kv) (g : Value) (w : World) (hq : QyS w q c s g) (hs : SmQ q) (hW : Lq w) :
    Calls Tryd.prog 7 #[qyV q c s g] w fun e w' => e = .returned (.string ⟨(TextQ q).toArray⟩) ∧ Fr Non w w' := by
  have Q0 := Lib.hid (Qin.new hq)
  have M1 := Lib.hid (fun W (h : QyS W q c s g) => qmay_any q c s g W h hs)
  have A1 := Lib.hid (fun W (h : QyS W q c s g) => wants_any q c s g W h hs)
  have K1 : Hid (mayQ q = true → ∀ W, QyS W q c s g → Fr Non w W → Calls Tryd.prog 16 #[qyV q c s g] W fun e w' => ∃ v, e = .returned v ∧ Ow sv 9 w' W.heap.size v (askedQ q) ∧ Fr Non W w') := Lib.hid (fun hm W h hf => asked_any q c s g W h hs (hW.non hf) (may_ags hm))
  have J1 := Lib.hid (fun W v B (h : Ow sv 9 W B v (askedQ q)) (hf : Fr Non w W) => pjoin_any v (askedQ q) comT B W h (by have := joinQ_len _ (asked_len hs).1 (asked_len hs).2; omega) (by have := (asked_len hs).1; omega))
  have P1 := Lib.hid (fun W (h : QyS W q c s g) (hf : Fr Non w W) => pText_any q.whr.hd s q.whr.kids W (hW.non hf).lp h.kids h.num (by rw [← Pd.eta]; exact hs.lens) (by rw [← Pd.eta]; exact hs.deep))
  rw [← Pd.eta] at P1
  have htx := textP_le hs hq.nums
  have hlq := listQ_len hs
  have HE0 : Hid (TextQ q = if mayQ q = true then textQ q else []) := Lib.hid rfl
  have HT : Hid (mayQ q = true → textQ q = selT ++ listQ q ++ fromT ++ q.tab ++ (if q.whr.hd.op = 1 then [] else whereT ++ TextP q.whr) ++ grpT q.by_) := Lib.hid (fun e => by unfold textQ whrT TextP; rw [if_pos (may_parts e).2])
  have HA : Hid (allQ q = true → listQ q = [42]) := Lib.hid (fun e => if_pos e)
  have HJ : Hid (allQ q = false → listQ q = Lib.join (askedQ q) comT) := Lib.hid (fun e => if_neg (by rw [e]; simp))
  have htl := hs.tab
  have hbl := hs.by_
  generalize TextQ q = r at *
  generalize textQ q = rt at *
  generalize mayQ q = bm at *
  generalize allQ q = ba at *
  generalize listQ q = L at *
  generalize Lib.join (askedQ q) comT = J at *
  generalize TextP q.whr = tx at *
  unfold comT at J1
  unfold pdV pdC at P1
  obtain ⟨cA, cc, hce⟩ := hq.cols.shape
  obtain ⟨gA, gc, hge⟩ := hq.aggs.shape
  clear hq hs hW
  obtain ⟨tab, cols, ⟨⟨wo, wc, wm, ⟨wn, wi, wt⟩, wk, wp⟩, wks⟩, aggs, by_⟩ := q
  obtain ⟨sA, sn, sc⟩ := s
  dsimp only at hce hge
  subst hce
  subst hge
  unfold qyV qyC kidV at *
  dsimp only [Pd.hd, Pd.kids] at *
  cases bm
  · have HE : Hid (r = []) := Lib.hid (by rw [HE0.out, if_neg (by simp)])
    clear HE0 HT
    go_enter Tryd.func7, Tryd.ntmps7
    go_wp2_with fail
    refine (M1.out _ Q0.out.sls).mono ?_
    rintro e w1 ⟨rfl, f1⟩
    have Q1 := Lib.hid (Q0.out.non f1)
    clear f1
    go_wp2
    go_ret
    exact ⟨strE (by rw [HE.out] <;> simp), Q1.out.fr⟩
  · have HE1 := Lib.hid ((HE0.out.trans (if_pos rfl)).trans (HT.out rfl))
    clear HE0 HT
    obtain ⟨t1, ht1⟩ : ∃ t1, t1 = selT ++ L := ⟨_, rfl⟩
    obtain ⟨t2, ht2⟩ : ∃ t2, t2 = t1 ++ fromT := ⟨_, rfl⟩
    obtain ⟨t3, ht3⟩ : ∃ t3, t3 = t2 ++ tab := ⟨_, rfl⟩
    obtain ⟨u1, hu1⟩ : ∃ u1, u1 = whereT ++ tx := ⟨_, rfl⟩
    obtain ⟨t4, ht4⟩ : ∃ t4, t4 = t3 ++ u1 := ⟨_, rfl⟩
    obtain ⟨v1, hv1⟩ : ∃ v1, v1 = groupT ++ by_ := ⟨_, rfl⟩
    have l1 : t1.length ≤ 6157 := by rw [ht1]; simp [selT]; omega
    have l2 : t2.length ≤ 6163 := by rw [ht2]; simp [fromT]; omega
    have l3 : t3.length ≤ 6263 := by rw [ht3]; simp; omega
    have lu : u1.length ≤ 6407 := by rw [hu1]; simp [whereT]; omega
    have l4 : t4.length ≤ 12670 := by rw [ht4]; simp; omega
    have lv : v1.length ≤ 110 := by rw [hv1]; simp [groupT]; omega
    have s1 : ∀ W, (Op.stringOp BinOp.add ⟨#[115, 101, 108, 101, 99, 116, 32]⟩ ⟨L.toArray⟩).run Tryd.prog W = .ok (.string ⟨t1.toArray⟩) W := fun W => by rw [ht1]; exact sadd selT L (by first | omega | (simp [selT, fromT, whereT, groupT]; omega)) W
    have s2 : ∀ W, (Op.stringOp BinOp.add ⟨t1.toArray⟩ ⟨#[32, 102, 114, 111, 109, 32]⟩).run Tryd.prog W = .ok (.string ⟨t2.toArray⟩) W := fun W => by rw [ht2]; exact sadd t1 fromT (by first | omega | (simp [selT, fromT, whereT, groupT]; omega)) W
    have s3 : ∀ W, (Op.stringOp BinOp.add ⟨t2.toArray⟩ ⟨tab.toArray⟩).run Tryd.prog W = .ok (.string ⟨t3.toArray⟩) W := fun W => by rw [ht3]; exact sadd t2 tab (by first | omega | (simp [selT, fromT, whereT, groupT]; omega)) W
    have s4 : ∀ W, (Op.stringOp BinOp.add ⟨#[32, 119, 104, 101, 114, 101, 32]⟩ ⟨tx.toArray⟩).run Tryd.prog W = .ok (.string ⟨u1.toArray⟩) W := fun W => by rw [hu1]; exact sadd whereT tx (by first | omega | (simp [selT, fromT, whereT, groupT]; omega)) W
    have s5 : ∀ W, (Op.stringOp BinOp.add ⟨t3.toArray⟩ ⟨u1.toArray⟩).run Tryd.prog W = .ok (.string ⟨t4.toArray⟩) W := fun W => by rw [ht4]; exact sadd t3 u1 (by first | omega | (simp [selT, fromT, whereT, groupT]; omega)) W
    have s6 : ∀ W, (Op.stringOp BinOp.add ⟨#[32, 103, 114, 111, 117, 112, 32, 98, 121, 32]⟩ ⟨by_.toArray⟩).run Tryd.prog W = .ok (.string ⟨v1.toArray⟩) W := fun W => by rw [hv1]; exact sadd groupT by_ (by first | omega | (simp [selT, fromT, whereT, groupT]; omega)) W
    have s7 : ∀ W, (Op.stringOp BinOp.add ⟨t3.toArray⟩ ⟨v1.toArray⟩).run Tryd.prog W = .ok (.string ⟨(t3 ++ v1).toArray⟩) W := fun W => sadd t3 v1 (by omega) W
    have s8 : ∀ W, (Op.stringOp BinOp.add ⟨t4.toArray⟩ ⟨v1.toArray⟩).run Tryd.prog W = .ok (.string ⟨(t4 ++ v1).toArray⟩) W := fun W => sadd t4 v1 (by omega) W
    have HE2 : Hid (r = t3 ++ (if wo = 1 then [] else u1) ++ grpT by_) := Lib.hid (by rw [HE1.out, ht3, ht2, ht1, hu1]; rfl)
    have HG1 : Hid (¬ by_ = [] → grpT by_ = v1) := Lib.hid (fun e => by rw [hv1]; exact if_neg e)
    have HG0 : Hid (grpT [] = []) := Lib.hid rfl
    have HT4 : Hid (t4 = t3 ++ u1) := Lib.hid ht4
    have K2 := Lib.hid (K1.out rfl)
    clear K1 HE1 ht1 ht2 ht3 hu1 ht4 hv1 l1 l2 l3 l4 lu lv
    cases ba
    rotate_left
    · have hL : L = [42] := HA.out rfl
      clear HA HJ K2 J1
      subst hL
      by_cases hwo : wo = 1
      · subst hwo
        by_cases hby : by_ = []
        · subst hby
          have HE : Hid (r = t3) := Lib.hid (by rw [HE2.out, if_pos rfl, HG0.out] <;> simp)
          clear HE2 HG1 HG0 HT4
          go_enter Tryd.func7, Tryd.ntmps7
          go_wp2_with fail
          refine (M1.out _ Q0.out.sls).mono ?_
          rintro e w1 ⟨rfl, f1⟩
          have Q1 := Lib.hid (Q0.out.non f1)
          clear f1
          obtain ⟨g0, g1, g2, g3, g4, g5, g6, g7, g8, g9, g10, g11, g12⟩ := Q1.out.cells
          dsimp only [Pd.hd, Pd.kids] at g0 g1 g2 g3 g4 g5 g6 g7 g8 g9 g10 g11 g12
          go_wp2_with fail
          refine (A1.out _ Q1.out.sls).mono ?_
          rintro e w2 ⟨rfl, f2⟩
          have Q2 := Lib.hid (Q1.out.non f2)
          clear f2
          clear g0 g1 g2 g3 g4 g5 g6 g7 g8 g9 g10 g11 g12
          obtain ⟨g0, g1, g2, g3, g4, g5, g6, g7, g8, g9, g10, g11, g12⟩ := Q2.out.cells
          dsimp only [Pd.hd, Pd.kids] at g0 g1 g2 g3 g4 g5 g6 g7 g8 g9 g10 g11 g12
          go_wp2
          go_ret
          exact ⟨strE (by rw [HE.out] <;> simp), Q2.out.fr⟩
        · have hbb : (by_ == []) = false := by rw [beq_eq_false_iff_ne]; exact hby
          have hbb2 : (by_ != []) = true := by rw [bne_iff_ne]; exact hby
          have HE : Hid (r = t3 ++ v1) := Lib.hid (by rw [HE2.out, if_pos rfl, HG1.out hby] <;> simp)
          clear HE2 HG1 HG0 HT4 hby
          go_enter Tryd.func7, Tryd.ntmps7
          go_wp2_with fail
          refine (M1.out _ Q0.out.sls).mono ?_
          rintro e w1 ⟨rfl, f1⟩
          have Q1 := Lib.hid (Q0.out.non f1)
          clear f1
          obtain ⟨g0, g1, g2, g3, g4, g5, g6, g7, g8, g9, g10, g11, g12⟩ := Q1.out.cells
          dsimp only [Pd.hd, Pd.kids] at g0 g1 g2 g3 g4 g5 g6 g7 g8 g9 g10 g11 g12
          go_wp2_with fail
          refine (A1.out _ Q1.out.sls).mono ?_
          rintro e w2 ⟨rfl, f2⟩
          have Q2 := Lib.hid (Q1.out.non f2)
          clear f2
          clear g0 g1 g2 g3 g4 g5 g6 g7 g8 g9 g10 g11 g12
          obtain ⟨g0, g1, g2, g3, g4, g5, g6, g7, g8, g9, g10, g11, g12⟩ := Q2.out.cells
          dsimp only [Pd.hd, Pd.kids] at g0 g1 g2 g3 g4 g5 g6 g7 g8 g9 g10 g11 g12
          go_wp2
          go_ret
          exact ⟨strE (by rw [HE.out] <;> simp), Q2.out.fr⟩
      · have hwb : (wo != 1) = true := by rw [bne_iff_ne]; exact hwo
        by_cases hby : by_ = []
        · subst hby
          have HE : Hid (r = t4) := Lib.hid (by rw [HE2.out, if_neg hwo, HG0.out] <;> rw [HT4.out] <;> simp)
          clear HE2 HG1 HG0 HT4 hwo
          go_enter Tryd.func7, Tryd.ntmps7
          go_wp2_with fail
          refine (M1.out _ Q0.out.sls).mono ?_
          rintro e w1 ⟨rfl, f1⟩
          have Q1 := Lib.hid (Q0.out.non f1)
          clear f1
          obtain ⟨g0, g1, g2, g3, g4, g5, g6, g7, g8, g9, g10, g11, g12⟩ := Q1.out.cells
          dsimp only [Pd.hd, Pd.kids] at g0 g1 g2 g3 g4 g5 g6 g7 g8 g9 g10 g11 g12
          go_wp2_with fail
          refine (A1.out _ Q1.out.sls).mono ?_
          rintro e w2 ⟨rfl, f2⟩
          have Q2 := Lib.hid (Q1.out.non f2)
          clear f2
          clear g0 g1 g2 g3 g4 g5 g6 g7 g8 g9 g10 g11 g12
          obtain ⟨g0, g1, g2, g3, g4, g5, g6, g7, g8, g9, g10, g11, g12⟩ := Q2.out.cells
          dsimp only [Pd.hd, Pd.kids] at g0 g1 g2 g3 g4 g5 g6 g7 g8 g9 g10 g11 g12
          go_wp2_with fail
          refine (P1.out _ Q2.out.sls Q2.out.fr).mono ?_
          rintro e w3 ⟨rfl, f3⟩
          have Q3 := Lib.hid (Q2.out.non f3)
          clear f3
          clear g0 g1 g2 g3 g4 g5 g6 g7 g8 g9 g10 g11 g12
          obtain ⟨g0, g1, g2, g3, g4, g5, g6, g7, g8, g9, g10, g11, g12⟩ := Q3.out.cells
          dsimp only [Pd.hd, Pd.kids] at g0 g1 g2 g3 g4 g5 g6 g7 g8 g9 g10 g11 g12
          go_wp2
          go_ret
          exact ⟨strE (by rw [HE.out] <;> simp), Q3.out.fr⟩
        · have hbb : (by_ == []) = false := by rw [beq_eq_false_iff_ne]; exact hby
          have hbb2 : (by_ != []) = true := by rw [bne_iff_ne]; exact hby
          have HE : Hid (r = t4 ++ v1) := Lib.hid (by rw [HE2.out, if_neg hwo, HG1.out hby] <;> rw [HT4.out] <;> simp)
          clear HE2 HG1 HG0 HT4 hby hwo
          go_enter Tryd.func7, Tryd.ntmps7
          go_wp2_with fail
          refine (M1.out _ Q0.out.sls).mono ?_
          rintro e w1 ⟨rfl, f1⟩
          have Q1 := Lib.hid (Q0.out.non f1)
          clear f1
          obtain ⟨g0, g1, g2, g3, g4, g5, g6, g7, g8, g9, g10, g11, g12⟩ := Q1.out.cells
          dsimp only [Pd.hd, Pd.kids] at g0 g1 g2 g3 g4 g5 g6 g7 g8 g9 g10 g11 g12
          go_wp2_with fail
          refine (A1.out _ Q1.out.sls).mono ?_
          rintro e w2 ⟨rfl, f2⟩
          have Q2 := Lib.hid (Q1.out.non f2)
          clear f2
          clear g0 g1 g2 g3 g4 g5 g6 g7 g8 g9 g10 g11 g12
          obtain ⟨g0, g1, g2, g3, g4, g5, g6, g7, g8, g9, g10, g11, g12⟩ := Q2.out.cells
          dsimp only [Pd.hd, Pd.kids] at g0 g1 g2 g3 g4 g5 g6 g7 g8 g9 g10 g11 g12
          go_wp2_with fail
          refine (P1.out _ Q2.out.sls Q2.out.fr).mono ?_
          rintro e w3 ⟨rfl, f3⟩
          have Q3 := Lib.hid (Q2.out.non f3)
          clear f3
          clear g0 g1 g2 g3 g4 g5 g6 g7 g8 g9 g10 g11 g12
          obtain ⟨g0, g1, g2, g3, g4, g5, g6, g7, g8, g9, g10, g11, g12⟩ := Q3.out.cells
          dsimp only [Pd.hd, Pd.kids] at g0 g1 g2 g3 g4 g5 g6 g7 g8 g9 g10 g11 g12
          go_wp2
          go_ret
          exact ⟨strE (by rw [HE.out] <;> simp), Q3.out.fr⟩
    · have hL : L = J := HJ.out rfl
      clear HA HJ
      subst hL
      by_cases hwo : wo = 1
      · subst hwo
        by_cases hby : by_ = []
        · subst hby
          have HE : Hid (r = t3) := Lib.hid (by rw [HE2.out, if_pos rfl, HG0.out] <;> simp)
          clear HE2 HG1 HG0 HT4
          go_enter Tryd.func7, Tryd.ntmps7
          go_wp2_with fail
          refine (M1.out _ Q0.out.sls).mono ?_
          rintro e w1 ⟨rfl, f1⟩
          have Q1 := Lib.hid (Q0.out.non f1)
          clear f1
          obtain ⟨g0, g1, g2, g3, g4, g5, g6, g7, g8, g9, g10, g11, g12⟩ := Q1.out.cells
          dsimp only [Pd.hd, Pd.kids] at g0 g1 g2 g3 g4 g5 g6 g7 g8 g9 g10 g11 g12
          go_wp2_with fail
          refine (A1.out _ Q1.out.sls).mono ?_
          rintro e w2 ⟨rfl, f2⟩
          have Q2 := Lib.hid (Q1.out.non f2)
          clear f2
          clear g0 g1 g2 g3 g4 g5 g6 g7 g8 g9 g10 g11 g12
          obtain ⟨g0, g1, g2, g3, g4, g5, g6, g7, g8, g9, g10, g11, g12⟩ := Q2.out.cells
          dsimp only [Pd.hd, Pd.kids] at g0 g1 g2 g3 g4 g5 g6 g7 g8 g9 g10 g11 g12
          go_wp2_with fail
          refine (K2.out _ Q2.out.sls Q2.out.fr).mono ?_
          rintro e w3 ⟨v3, rfl, ho3, f3⟩
          have Q3 := Lib.hid (Q2.out.non f3)
          have HO3 := Lib.hid ho3
          clear f3 ho3
          clear g0 g1 g2 g3 g4 g5 g6 g7 g8 g9 g10 g11 g12
          go_wp2_with fail
          refine (J1.out _ _ _ HO3.out Q3.out.fr).mono ?_
          rintro e w4 ⟨rfl, f4⟩
          have Q4 := Lib.hid (Q3.out.non f4)
          clear f4
          obtain ⟨g0, g1, g2, g3, g4, g5, g6, g7, g8, g9, g10, g11, g12⟩ := Q4.out.cells
          dsimp only [Pd.hd, Pd.kids] at g0 g1 g2 g3 g4 g5 g6 g7 g8 g9 g10 g11 g12
          go_wp2
          go_ret
          exact ⟨strE (by rw [HE.out] <;> simp), Q4.out.fr⟩
        · have hbb : (by_ == []) = false := by rw [beq_eq_false_iff_ne]; exact hby
          have hbb2 : (by_ != []) = true := by rw [bne_iff_ne]; exact hby
          have HE : Hid (r = t3 ++ v1) := Lib.hid (by rw [HE2.out, if_pos rfl, HG1.out hby] <;> simp)
          clear HE2 HG1 HG0 HT4 hby
          go_enter Tryd.func7, Tryd.ntmps7
          go_wp2_with fail
          refine (M1.out _ Q0.out.sls).mono ?_
          rintro e w1 ⟨rfl, f1⟩
          have Q1 := Lib.hid (Q0.out.non f1)
          clear f1
          obtain ⟨g0, g1, g2, g3, g4, g5, g6, g7, g8, g9, g10, g11, g12⟩ := Q1.out.cells
          dsimp only [Pd.hd, Pd.kids] at g0 g1 g2 g3 g4 g5 g6 g7 g8 g9 g10 g11 g12
          go_wp2_with fail
          refine (A1.out _ Q1.out.sls).mono ?_
          rintro e w2 ⟨rfl, f2⟩
          have Q2 := Lib.hid (Q1.out.non f2)
          clear f2
          clear g0 g1 g2 g3 g4 g5 g6 g7 g8 g9 g10 g11 g12
          obtain ⟨g0, g1, g2, g3, g4, g5, g6, g7, g8, g9, g10, g11, g12⟩ := Q2.out.cells
          dsimp only [Pd.hd, Pd.kids] at g0 g1 g2 g3 g4 g5 g6 g7 g8 g9 g10 g11 g12
          go_wp2_with fail
          refine (K2.out _ Q2.out.sls Q2.out.fr).mono ?_
          rintro e w3 ⟨v3, rfl, ho3, f3⟩
          have Q3 := Lib.hid (Q2.out.non f3)
          have HO3 := Lib.hid ho3
          clear f3 ho3
          clear g0 g1 g2 g3 g4 g5 g6 g7 g8 g9 g10 g11 g12
          go_wp2_with fail
          refine (J1.out _ _ _ HO3.out Q3.out.fr).mono ?_
          rintro e w4 ⟨rfl, f4⟩
          have Q4 := Lib.hid (Q3.out.non f4)
          clear f4
          obtain ⟨g0, g1, g2, g3, g4, g5, g6, g7, g8, g9, g10, g11, g12⟩ := Q4.out.cells
          dsimp only [Pd.hd, Pd.kids] at g0 g1 g2 g3 g4 g5 g6 g7 g8 g9 g10 g11 g12
          go_wp2
          go_ret
          exact ⟨strE (by rw [HE.out] <;> simp), Q4.out.fr⟩
      · have hwb : (wo != 1) = true := by rw [bne_iff_ne]; exact hwo
        by_cases hby : by_ = []
        · subst hby
          have HE : Hid (r = t4) := Lib.hid (by rw [HE2.out, if_neg hwo, HG0.out] <;> rw [HT4.out] <;> simp)
          clear HE2 HG1 HG0 HT4 hwo
          go_enter Tryd.func7, Tryd.ntmps7
          go_wp2_with fail
          refine (M1.out _ Q0.out.sls).mono ?_
          rintro e w1 ⟨rfl, f1⟩
          have Q1 := Lib.hid (Q0.out.non f1)
          clear f1
          obtain ⟨g0, g1, g2, g3, g4, g5, g6, g7, g8, g9, g10, g11, g12⟩ := Q1.out.cells
          dsimp only [Pd.hd, Pd.kids] at g0 g1 g2 g3 g4 g5 g6 g7 g8 g9 g10 g11 g12
          go_wp2_with fail
          refine (A1.out _ Q1.out.sls).mono ?_
          rintro e w2 ⟨rfl, f2⟩
          have Q2 := Lib.hid (Q1.out.non f2)
          clear f2
          clear g0 g1 g2 g3 g4 g5 g6 g7 g8 g9 g10 g11 g12
          obtain ⟨g0, g1, g2, g3, g4, g5, g6, g7, g8, g9, g10, g11, g12⟩ := Q2.out.cells
          dsimp only [Pd.hd, Pd.kids] at g0 g1 g2 g3 g4 g5 g6 g7 g8 g9 g10 g11 g12
          go_wp2_with fail
          refine (K2.out _ Q2.out.sls Q2.out.fr).mono ?_
          rintro e w3 ⟨v3, rfl, ho3, f3⟩
          have Q3 := Lib.hid (Q2.out.non f3)
          have HO3 := Lib.hid ho3
          clear f3 ho3
          clear g0 g1 g2 g3 g4 g5 g6 g7 g8 g9 g10 g11 g12
          go_wp2_with fail
          refine (J1.out _ _ _ HO3.out Q3.out.fr).mono ?_
          rintro e w4 ⟨rfl, f4⟩
          have Q4 := Lib.hid (Q3.out.non f4)
          clear f4
          obtain ⟨g0, g1, g2, g3, g4, g5, g6, g7, g8, g9, g10, g11, g12⟩ := Q4.out.cells
          dsimp only [Pd.hd, Pd.kids] at g0 g1 g2 g3 g4 g5 g6 g7 g8 g9 g10 g11 g12
          go_wp2_with fail
          refine (P1.out _ Q4.out.sls Q4.out.fr).mono ?_
          rintro e w5 ⟨rfl, f5⟩
          have Q5 := Lib.hid (Q4.out.non f5)
          clear f5
          clear g0 g1 g2 g3 g4 g5 g6 g7 g8 g9 g10 g11 g12
          obtain ⟨g0, g1, g2, g3, g4, g5, g6, g7, g8, g9, g10, g11, g12⟩ := Q5.out.cells
          dsimp only [Pd.hd, Pd.kids] at g0 g1 g2 g3 g4 g5 g6 g7 g8 g9 g10 g11 g12
          go_wp2
          go_ret
          exact ⟨strE (by rw [HE.out] <;> simp), Q5.out.fr⟩
        · have hbb : (by_ == []) = false := by rw [beq_eq_false_iff_ne]; exact hby
          have hbb2 : (by_ != []) = true := by rw [bne_iff_ne]; exact hby
          have HE : Hid (r = t4 ++ v1) := Lib.hid (by rw [HE2.out, if_neg hwo, HG1.out hby] <;> rw [HT4.out] <;> simp)
          clear HE2 HG1 HG0 HT4 hby hwo
          go_enter Tryd.func7, Tryd.ntmps7
          go_wp2_with fail
          refine (M1.out _ Q0.out.sls).mono ?_
          rintro e w1 ⟨rfl, f1⟩
          have Q1 := Lib.hid (Q0.out.non f1)
          clear f1
          obtain ⟨g0, g1, g2, g3, g4, g5, g6, g7, g8, g9, g10, g11, g12⟩ := Q1.out.cells
          dsimp only [Pd.hd, Pd.kids] at g0 g1 g2 g3 g4 g5 g6 g7 g8 g9 g10 g11 g12
          go_wp2_with fail
          refine (A1.out _ Q1.out.sls).mono ?_
          rintro e w2 ⟨rfl, f2⟩
          have Q2 := Lib.hid (Q1.out.non f2)
          clear f2
          clear g0 g1 g2 g3 g4 g5 g6 g7 g8 g9 g10 g11 g12
          obtain ⟨g0, g1, g2, g3, g4, g5, g6, g7, g8, g9, g10, g11, g12⟩ := Q2.out.cells
          dsimp only [Pd.hd, Pd.kids] at g0 g1 g2 g3 g4 g5 g6 g7 g8 g9 g10 g11 g12
          go_wp2_with fail
          refine (K2.out _ Q2.out.sls Q2.out.fr).mono ?_
          rintro e w3 ⟨v3, rfl, ho3, f3⟩
          have Q3 := Lib.hid (Q2.out.non f3)
          have HO3 := Lib.hid ho3
          clear f3 ho3
          clear g0 g1 g2 g3 g4 g5 g6 g7 g8 g9 g10 g11 g12
          go_wp2_with fail
          refine (J1.out _ _ _ HO3.out Q3.out.fr).mono ?_
          rintro e w4 ⟨rfl, f4⟩
          have Q4 := Lib.hid (Q3.out.non f4)
          clear f4
          obtain ⟨g0, g1, g2, g3, g4, g5, g6, g7, g8, g9, g10, g11, g12⟩ := Q4.out.cells
          dsimp only [Pd.hd, Pd.kids] at g0 g1 g2 g3 g4 g5 g6 g7 g8 g9 g10 g11 g12
          go_wp2_with fail
          refine (P1.out _ Q4.out.sls Q4.out.fr).mono ?_
          rintro e w5 ⟨rfl, f5⟩
          have Q5 := Lib.hid (Q4.out.non f5)
          clear f5
          clear g0 g1 g2 g3 g4 g5 g6 g7 g8 g9 g10 g11 g12
          obtain ⟨g0, g1, g2, g3, g4, g5, g6, g7, g8, g9, g10, g11, g12⟩ := Q5.out.cells
          dsimp only [Pd.hd, Pd.kids] at g0 g1 g2 g3 g4 g5 g6 g7 g8 g9 g10 g11 g12
          go_wp2
          go_ret
          exact ⟨strE (by rw [HE.out] <;> simp), Q5.out.fr⟩
end Go.Proofs.YtibopcceffncpaaDoor


namespace Go.Proofs.YtibopcceffncpaaDoor
set_option linter.unusedVariables false
set_option linter.unusedSimpArgs false
set_option maxRecDepth 100000
open Go.RowKit


theorem itoa_5 : Lib.itoa 5 = [53] := by
  rw [show (5 : Int) = ((5 : Nat) : Int) from rfl, itoa_up, Lib.decDigits, dif_pos (by decide)]; rfl
end Go.Proofs.YtibopcceffncpaaDoor


namespace Go.Proofs.YtibopcceffncpaaDoor
set_option linter.unusedVariables false
set_option linter.unusedSimpArgs false
set_option maxRecDepth 100000
open Go.RowKit

def exQP : Pd := .mk ⟨2, [97], 5, ⟨false, 5, []⟩, 1, []⟩ []
def exQ : Qy := ⟨[116], [], exQP, [⟨1, []⟩, ⟨3, [97]⟩], [98]⟩
theorem exQ_may : mayQ exQ = true := by decide +kernel
theorem exQ_textP : textP exQP = [97, 32, 62, 32, 53] := by
  unfold exQP
  rw [tx_2 rfl]
  show [97] ++ [32] ++ markB 5 ++ [32] ++ valT 1 ⟨false, 5, []⟩ = _
  rw [val_1, itoa_5]
  rfl
theorem exQ_text : TextQ exQ = [115, 101, 108, 101, 99, 116, 32, 99, 111, 117, 110, 116, 40, 42, 41, 44, 32, 115, 117, 109, 40, 97, 41, 32, 102, 114, 111, 109, 32, 116, 32, 119, 104, 101, 114, 101, 32, 97, 32, 62, 32, 53, 32, 103, 114, 111, 117, 112, 32, 98, 121, 32, 98] := by
  unfold TextQ
  rw [if_pos exQ_may]
  unfold textQ whrT
  rw [show exQ.whr = exQP from rfl, if_neg (by decide), exQ_textP]
  decide +kernel
theorem exQ_sm : SmQ exQ := ⟨by decide, by decide, by decide, by decide, by decide, by decide, by decide +kernel, by decide +kernel⟩
theorem exQ_s (w : World) (o : Obj) : QyS ((w.alloc (.cells #[.int .i64 1, .string ⟨#[]⟩, .int .i64 3, .string ⟨#[97]⟩] 36)).alloc o) exQ (.slice none 0 0) noKv (.slice (some ⟨w.heap.size, 0, none⟩) 2 2) :=
  ⟨Vs.nil_ _, Kd.nil_ _, ((no_lit (E := 36) fd_ag w 0 w.heap.size [⟨1, []⟩, ⟨3, [97]⟩] #[.int .i64 1, .string ⟨#[]⟩, .int .i64 3, .string ⟨#[97]⟩] rfl rfl (Nat.zero_le _) (by decide)).ns fd_ag).non ((Fr.refl _ _).alloc _), ⟨by decide, by decide⟩⟩
set_option maxHeartbeats 1000000 in
theorem qlive_any (w : World) (hW : Lq w) : Calls Tryd.prog 6 #[] w fun e w' => e = .returned (.bool true) ∧ Fr Non w w' := by
  have M := Lib.hid (fun W (h : QyS W exQ (.slice none 0 0) noKv (.slice (some ⟨w.heap.size, 0, none⟩) 2 2)) (hf : Fr Non w W) => qtext_any exQ (.slice none 0 0) noKv (.slice (some ⟨w.heap.size, 0, none⟩) 2 2) W h exQ_sm (hW.non hf))
  rw [exQ_text] at M
  have HS := Lib.hid (exQ_s w)
  unfold qyV qyC kidV noKv exQ exQP at M
  dsimp only [Pd.hd, Pd.kids] at M
  go_enter Tryd.func6, Tryd.ntmps6
  go_wp2_with fail
  refine (M.out _ (HS.out _) (((Fr.refl Non w).alloc _).alloc _)).mono ?_
  rintro e w1 ⟨rfl, f1⟩
  go_wp2
  go_ret
  exact ⟨ret_boolE (by simp), (((Fr.refl Non w).alloc _).alloc _).trans f1⟩

theorem end_no {P : Prop} : SmEnd P (.returned (.bool false)) := ⟨false, rfl, fun h => by cases h⟩
set_option maxHeartbeats 2000000 in
theorem rqsmall_any (q : Qy) (c : Value) (s : Kv) (g : Value) (w : World) (hq : QyS w q c s g) :
    Calls Tryd.prog 5 #[qyV q c s g] w fun e w' => SmEnd (SmQ q) e ∧ Fr Non w w' := by
  have Q0 := Lib.hid (Qin.new hq)
  have P := Lib.hid (fun W (h : QyS W q c s g) => rpsmall_any q.whr s 9 9 W rfl (by omega) h.kids)
  have HE0 : Hid ((q.cols.length ≤ 15 ∧ ∀ x ∈ q.cols, x.length ≤ 100) → (q.aggs.length ≤ 15 ∧ ∀ a ∈ q.aggs, a.col.length ≤ 100) → q.tab.length ≤ 100 → q.by_.length ≤ 100 → (lenP q.whr = true ∧ depP q.whr ≤ 9) → SmQ q) := Lib.hid (fun a b c d e => ⟨a.1, a.2, b.1, b.2, c, d, e.1, e.2⟩)
  generalize SmQ q = R at *
  unfold pdV pdC at P
  obtain ⟨cA, cc, hce⟩ := hq.cols.shape
  obtain ⟨gA, gc, hge⟩ := hq.aggs.shape
  clear hq
  obtain ⟨tab, cols, ⟨⟨wo, wc, wm, ⟨wn, wi, wt⟩, wk, wp⟩, wks⟩, aggs, by_⟩ := q
  obtain ⟨sA, sn, sc⟩ := s
  dsimp only at hce hge
  subst hce
  subst hge
  unfold qyV qyC kidV at *
  dsimp only [Pd.hd, Pd.kids] at *
  go_enter Tryd.func5, Tryd.ntmps5
  go_wp2
  go_loopw [3] (fun i wr => ∃ k : Nat, k ≤ cols.length ∧ k ≤ 20 ∧ i = .int .i64 k ∧ Hid (∀ j (h : j < cols.length), j < k → cols[j].length ≤ 100) ∧ Hid (Qin w w.heap.size ⟨tab, cols, ⟨⟨wo, wc, wm, ⟨wn, wi, wt⟩, wk, wp⟩, wks⟩, aggs, by_⟩ (.slice cA cols.length cc) ⟨sA, sn, sc⟩ (.slice gA aggs.length gc) wr)) (fun i _ => 20 - (intOf i).toNat)
  case atStart => exact ⟨0, Nat.zero_le _, Nat.zero_le _, rfl, Lib.hid (fun _ _ h => by omega), Q0⟩
  case round =>
    clear Q0
    obtain ⟨k, hk, hk2, rfl, HS, QR⟩ := hrel
    obtain ⟨g0, g1, g2, g3, g4, g5, g6, g7, g8, g9, g10, g11, g12⟩ := QR.out.cells
    dsimp only [Pd.hd, Pd.kids] at g0 g1 g2 g3 g4 g5 g6 g7 g8 g9 g10 g11 g12
    by_cases hlt : k < cols.length
    · by_cases h20 : k < 20
      · obtain ⟨a, rfl, _, _, hel⟩ := QR.out.sls.cols.addr (show 0 < cols.length by omega)
        have c0 := hel k hlt
        unfold sv at c0
        have HY : Hid (cols[k].length ≤ 100 → ∀ j (h : j < cols.length), j < k + 1 → cols[j].length ≤ 100) := Lib.hid (fun h j hj hjk => by
          by_cases e : j = k
          · subst e; exact h
          · exact HS.out j hj (by omega))
        clear HS hel
        try dsimp only at c0
        generalize cols[k] = y at *
        have hsl := slenN y
        by_cases hy : 100 < y.length
        · go_wp2
          go_ret
          exact ⟨end_no, QR.out.fr⟩
        · have H := Lib.hid (HY.out (by omega))
          clear HY
          go_wp2
          go_roundw
          case rel => exact ⟨k + 1, by omega, by omega, by go_num, H, QR⟩
          case measure => simp [intOf]; omega
      · have HN : Hid (¬ cols.length ≤ 15) := Lib.hid (by omega)
        clear HS
        rename World => W1
        go_wp2
        clear g0 g1 g2 g3 g4 g5 g6 g7 g8 g9 g10 g11 g12
        go_loopw [4] (fun i wr => ∃ k : Nat, k ≤ aggs.length ∧ k ≤ 20 ∧ i = .int .i64 k ∧ Hid (∀ j (h : j < aggs.length), j < k → aggs[j].col.length ≤ 100) ∧ Hid (Qin w w.heap.size ⟨tab, cols, ⟨⟨wo, wc, wm, ⟨wn, wi, wt⟩, wk, wp⟩, wks⟩, aggs, by_⟩ (.slice cA cols.length cc) ⟨sA, sn, sc⟩ (.slice gA aggs.length gc) wr)) (fun i _ => 20 - (intOf i).toNat)
        case atStart => exact ⟨0, Nat.zero_le _, Nat.zero_le _, rfl, Lib.hid (fun _ _ h => by omega), QR⟩
        case round =>
          clear QR
          obtain ⟨m, hm, hm2, rfl, HS2, QR⟩ := hrel
          obtain ⟨g0, g1, g2, g3, g4, g5, g6, g7, g8, g9, g10, g11, g12⟩ := QR.out.cells
          dsimp only [Pd.hd, Pd.kids] at g0 g1 g2 g3 g4 g5 g6 g7 g8 g9 g10 g11 g12
          by_cases hlt2 : m < aggs.length
          · by_cases h202 : m < 20
            · obtain ⟨b, rfl, _, d0, d1⟩ := Ns.gat QR.out.sls.aggs m hlt2
              have HY : Hid (aggs[m].col.length ≤ 100 → ∀ j (h : j < aggs.length), j < m + 1 → aggs[j].col.length ≤ 100) := Lib.hid (fun h j hj hjk => by
                by_cases e : j = m
                · subst e; exact h
                · exact HS2.out j hj (by omega))
              clear HS2
              try dsimp only at d0 d1
              generalize aggs[m] = x at *
              obtain ⟨xo, xn⟩ := x
              dsimp only at d0 d1 HY
              have hsl := slenN xn
              by_cases hy : 100 < xn.length
              · go_wp2
                go_ret
                exact ⟨end_no, QR.out.fr⟩
              · have H2 := Lib.hid (HY.out (by omega))
                clear HY
                go_wp2
                go_roundw
                case rel => exact ⟨m + 1, by omega, by omega, by go_num, H2, QR⟩
                case measure => simp [intOf]; omega
            · have HN2 : Hid (¬ aggs.length ≤ 15) := Lib.hid (by omega)
              have hc15 : ¬ cols.length ≤ 15 := HN.out
              go_wp2
              go_ret
              exact ⟨end_no, QR.out.fr⟩
          · have H2 : Hid (∀ a ∈ aggs, a.col.length ≤ 100) := Lib.hid (fun x hx => by
              obtain ⟨j, hj, rfl⟩ := List.mem_iff_getElem.1 hx
              exact HS2.out j hj (by omega))
            have hc15 : ¬ cols.length ≤ 15 := HN.out
            go_wp2
            go_ret
            exact ⟨end_no, QR.out.fr⟩
    · have H : Hid (∀ x ∈ cols, x.length ≤ 100) := Lib.hid (fun x hx => by
        obtain ⟨j, hj, rfl⟩ := List.mem_iff_getElem.1 hx
        exact HS.out j hj (by omega))
      clear HS
      rename World => W1
      go_wp2
      clear g0 g1 g2 g3 g4 g5 g6 g7 g8 g9 g10 g11 g12
      go_loopw [4] (fun i wr => ∃ k : Nat, k ≤ aggs.length ∧ k ≤ 20 ∧ i = .int .i64 k ∧ Hid (∀ j (h : j < aggs.length), j < k → aggs[j].col.length ≤ 100) ∧ Hid (Qin w w.heap.size ⟨tab, cols, ⟨⟨wo, wc, wm, ⟨wn, wi, wt⟩, wk, wp⟩, wks⟩, aggs, by_⟩ (.slice cA cols.length cc) ⟨sA, sn, sc⟩ (.slice gA aggs.length gc) wr)) (fun i _ => 20 - (intOf i).toNat)
      case atStart => exact ⟨0, Nat.zero_le _, Nat.zero_le _, rfl, Lib.hid (fun _ _ h => by omega), QR⟩
      case round =>
        clear QR
        obtain ⟨m, hm, hm2, rfl, HS2, QR⟩ := hrel
        obtain ⟨g0, g1, g2, g3, g4, g5, g6, g7, g8, g9, g10, g11, g12⟩ := QR.out.cells
        dsimp only [Pd.hd, Pd.kids] at g0 g1 g2 g3 g4 g5 g6 g7 g8 g9 g10 g11 g12
        by_cases hlt2 : m < aggs.length
        · by_cases h202 : m < 20
          · obtain ⟨b, rfl, _, d0, d1⟩ := Ns.gat QR.out.sls.aggs m hlt2
            have HY : Hid (aggs[m].col.length ≤ 100 → ∀ j (h : j < aggs.length), j < m + 1 → aggs[j].col.length ≤ 100) := Lib.hid (fun h j hj hjk => by
              by_cases e : j = m
              · subst e; exact h
              · exact HS2.out j hj (by omega))
            clear HS2
            try dsimp only at d0 d1
            generalize aggs[m] = x at *
            obtain ⟨xo, xn⟩ := x
            dsimp only at d0 d1 HY
            have hsl := slenN xn
            by_cases hy : 100 < xn.length
            · go_wp2
              go_ret
              exact ⟨end_no, QR.out.fr⟩
            · have H2 := Lib.hid (HY.out (by omega))
              clear HY
              go_wp2
              go_roundw
              case rel => exact ⟨m + 1, by omega, by omega, by go_num, H2, QR⟩
              case measure => simp [intOf]; omega
          · have HN2 : Hid (¬ aggs.length ≤ 15) := Lib.hid (by omega)
            by_cases hc15 : cols.length ≤ 15
            · have hg15 : ¬ aggs.length ≤ 15 := HN2.out
              go_wp2
              go_ret
              exact ⟨end_no, QR.out.fr⟩
            · go_wp2
              go_ret
              exact ⟨end_no, QR.out.fr⟩
        · have H2 : Hid (∀ a ∈ aggs, a.col.length ≤ 100) := Lib.hid (fun x hx => by
            obtain ⟨j, hj, rfl⟩ := List.mem_iff_getElem.1 hx
            exact HS2.out j hj (by omega))
          have st := slenN tab
          have sb := slenN by_
          by_cases hc15 : cols.length ≤ 15
          · by_cases hg15 : aggs.length ≤ 15
            · by_cases ht : tab.length ≤ 100
              · by_cases hb : by_.length ≤ 100
                · go_wp2_with fail
                  refine (P.out _ QR.out.sls).mono ?_
                  rintro e w5 ⟨⟨b5, rfl, hb5⟩, f5⟩
                  have HB5 := Lib.hid hb5
                  clear hb5
                  have HR : Hid (b5 = true → R) := Lib.hid (fun e => HE0.out ⟨hc15, H.out⟩ ⟨hg15, H2.out⟩ ht hb (HB5.out e))
                  go_wp2
                  go_ret
                  exact ⟨⟨_, rfl, HR.out⟩, QR.out.fr.trans f5⟩
                · go_wp2
                  go_ret
                  exact ⟨end_no, QR.out.fr⟩
              · go_wp2
                go_ret
                exact ⟨end_no, QR.out.fr⟩
            · go_wp2
              go_ret
              exact ⟨end_no, QR.out.fr⟩
          · go_wp2
            go_ret
            exact ⟨end_no, QR.out.fr⟩
end Go.Proofs.YtibopcceffncpaaDoor


namespace Go.Proofs.YtibopcceffncpaaDoor
set_option linter.unusedVariables false
set_option linter.unusedSimpArgs false
set_option maxRecDepth 100000
open Go.RowKit

/-! ### A word -/
def wcB (c : UInt8) : Bool := decide (c ≠ 32 ∧ c ≠ 41)
/-- nothing, or what ends a word -/
def EndW (r : Tx) : Prop := r = [] ∨ ∃ c r', r = c :: r' ∧ wcB c = false
theorem endW_nil : EndW [] := .inl rfl
theorem endW_32 (r : Tx) : EndW (32 :: r) := .inr ⟨_, _, rfl, by decide⟩
theorem endW_41 (r : Tx) : EndW (41 :: r) := .inr ⟨_, _, rfl, by decide⟩
theorem endW_not {r : Tx} (h : EndW r) : r.head? ≠ some 39 := by
  rcases h with rfl | ⟨c, r', rfl, hc⟩
  · simp
  · intro e
    simp only [List.head?_cons, Option.some.injEq] at e
    subst e
    revert hc
    decide
theorem tw_word {w r : Tx} (hw : ∀ c ∈ w, wcB c = true) (hr : EndW r) : (w ++ r).takeWhile wcB = w ∧ (w ++ r).dropWhile wcB = r := by
  induction w with
  | nil =>
    rcases hr with rfl | ⟨c, r', rfl, hc⟩
    · exact ⟨rfl, rfl⟩
    · simp [hc]
  | cons c w ih =>
    have h1 := hw c (List.mem_cons_self ..)
    obtain ⟨a, b⟩ := ih (fun x hx => hw x (List.mem_cons_of_mem _ hx))
    simp [h1, a, b]

/-! ### Values -/
def valR (l : Tx) : Option ((Int × Cl) × Tx) :=
  if l.head? = some 39 then (qtB l.tail).map fun x => ((3, ⟨false, 0, x.1⟩), l.tail.drop x.2)
  else if l.takeWhile wcB = [116, 114, 117, 101] then some ((2, ⟨false, 1, []⟩), l.dropWhile wcB)
  else if l.takeWhile wcB = [102, 97, 108, 115, 101] then some ((2, ⟨false, 0, []⟩), l.dropWhile wcB)
  else (valB (l.takeWhile wcB)).map fun n => ((1, ⟨false, n, []⟩), l.dropWhile wcB)
theorem itoa_by (v : Int) (h : I64b v) : ∀ c ∈ Lib.itoa v, c = 45 ∨ digB c = true := by
  intro c hc
  rcases itoa_shape h rfl with ⟨_, h2, _, _⟩ | ⟨d, h1, _, h2, _, _⟩
  · exact .inr (List.all_eq_true.1 h2 c hc)
  · rw [h1] at hc
    rcases List.mem_cons.1 hc with rfl | hc
    · exact .inl rfl
    · exact .inr (List.all_eq_true.1 h2 c hc)
theorem itoa_hd1 (v : Int) (h : I64b v) : ∃ c r, Lib.itoa v = c :: r := by
  have : 1 ≤ (Lib.itoa v).length := by
    rcases itoa_shape h rfl with ⟨_, _, h3, _⟩ | ⟨d, h1, _, _, _, _⟩
    · exact h3
    · rw [h1]; simp
  cases e : Lib.itoa v with
  | nil => rw [e] at this; simp at this
  | cons c r => exact ⟨c, r, rfl⟩
theorem num_wc {c : UInt8} (h : c = 45 ∨ digB c = true) : wcB c = true ∧ c ≠ 39 ∧ c ≠ 116 ∧ c ≠ 102 := by
  rcases h with rfl | h
  · decide
  · simp only [digB, decide_eq_true_eq] at h
    refine ⟨decide_eq_true ⟨?_, ?_⟩, ?_, ?_, ?_⟩ <;> (rintro rfl; revert h; decide)
theorem valR_ok {k : Int} {c : Cl} {r : Tx} (hm : mayC k false c = true) (hn : I64b c.num) (hr : EndW r) : valR (valT k c ++ r) = some ((k, c), r) := by
  obtain ⟨n, i, t⟩ := c
  unfold mayC at hm
  rw [Bool.and_eq_true] at hm
  obtain ⟨ht, hm⟩ := hm
  cases n
  · rw [if_neg (by simp)] at hm
    dsimp only at hm hn
    unfold isTy at ht
    by_cases h3 : k = 3
    · subst h3
      rw [if_pos rfl, Bool.and_eq_true, beq_iff_eq] at hm
      obtain ⟨rfl, _⟩ := hm
      show valR (quoT t ++ r) = _
      unfold quoT valR
      rw [if_pos (by simp)]
      have e : (39 :: dblB t ++ [39] ++ r).tail = dblB t ++ 39 :: r := by simp
      rw [e, qt_dbl t r (endW_not hr)]
      simp
    · rw [if_neg h3, Bool.and_eq_true] at hm
      obtain ⟨hte, hm⟩ := hm
      obtain rfl : t = [] := by simpa using hte
      by_cases h1 : k = 1
      · subst h1
        show valR (Lib.itoa i ++ r) = _
        have hb := itoa_by i hn
        obtain ⟨c, q, hq⟩ := itoa_hd1 i hn
        have hc := num_wc (hb c (by rw [hq]; exact List.mem_cons_self ..))
        obtain ⟨a, b⟩ := tw_word (fun c hc => (num_wc (hb c hc)).1) hr
        unfold valR
        rw [a, b, if_neg (by rw [hq]; simpa using hc.2.1), if_neg (by rw [hq]; simp [hc.2.2.1]), if_neg (by rw [hq]; simp [hc.2.2.2]), valB_itoa hn]
        rfl
      · have h2 : k = 2 := by
          simp only [Bool.or_eq_true, beq_iff_eq] at ht
          omega
        subst h2
        have hi : i = 0 ∨ i = 1 := by
          simp only [Bool.or_eq_true, beq_iff_eq] at hm
          omega
        rcases hi with rfl | rfl
        · show valR ([102, 97, 108, 115, 101] ++ r) = _
          obtain ⟨a, b⟩ := tw_word (w := [102, 97, 108, 115, 101]) (by decide) hr
          unfold valR
          rw [a, b, if_neg (by simp), if_neg (by decide), if_pos rfl]
        · show valR ([116, 114, 117, 101] ++ r) = _
          obtain ⟨a, b⟩ := tw_word (w := [116, 114, 117, 101]) (by decide) hr
          unfold valR
          rw [a, b, if_neg (by simp), if_pos rfl]
  · rw [if_pos rfl] at hm
    simp at hm

/-! ### The reader -/
def markR (w : Tx) : Int := if w = [61] then 1 else if w = [60, 62] then 2 else if w = [60] then 3 else if w = [60, 61] then 4 else if w = [62] then 5 else 6
def bare (op : Int) : Ph := ⟨op, [], 0, zCl, 0, []⟩
/-- what stands between 'or's -/
def grp : Pd → List (Bool × Pd) → List (List Pd)
  | u, [] => [[u]]
  | u, (true, v) :: r => match grp v r with
    | g :: gs => (u :: g) :: gs
    | [] => []
  | u, (false, v) :: r => [u] :: grp v r
def mkA : List Pd → Pd
  | [p] => p
  | ps => .mk (bare 6) ps
def unch (u : Pd) (cs : List (Bool × Pd)) : Pd := match grp u cs with
  | [g] => mkA g
  | gs => .mk (bare 7) (gs.map mkA)
mutual
def prsU : Nat → Tx → Option (Pd × Tx)
  | 0, _ => none
  | f + 1, l =>
    if l.head? = some 40 then (prsE f l.tail).bind fun x => if x.2.head? = some 41 then some (x.1, x.2.tail) else none
    else if l.takeWhile wcB = [97, 108, 108] then some (.mk (bare 1) [], l.dropWhile wcB)
    else if l.takeWhile wcB = [110, 111, 116] then (prsU f ((l.dropWhile wcB).drop 1)).bind fun x => some (.mk (bare 5) [x.1], x.2)
    else if ((l.dropWhile wcB).drop 1).takeWhile wcB = [105, 115] then some (.mk ⟨3, l.takeWhile wcB, 0, zCl, 0, []⟩ [], (((l.dropWhile wcB).drop 1).dropWhile wcB).drop 5)
    else if ((l.dropWhile wcB).drop 1).takeWhile wcB = [108, 105, 107, 101] then
      (qtB ((((l.dropWhile wcB).drop 1).dropWhile wcB).drop 2)).bind fun x => some (.mk ⟨4, l.takeWhile wcB, 0, zCl, 0, x.1⟩ [], ((((l.dropWhile wcB).drop 1).dropWhile wcB).drop 2).drop x.2)
    else (valR ((((l.dropWhile wcB).drop 1).dropWhile wcB).drop 1)).bind fun x => some (.mk ⟨2, l.takeWhile wcB, markR (((l.dropWhile wcB).drop 1).takeWhile wcB), x.1.2, x.1.1, []⟩ [], x.2)
def prsE : Nat → Tx → Option (Pd × Tx)
  | 0, _ => none
  | f + 1, l => (prsU f l).bind fun x => some (unch x.1 (prsC f x.2).1, (prsC f x.2).2)
def prsC : Nat → Tx → List (Bool × Pd) × Tx
  | 0, r => ([], r)
  | f + 1, r =>
    if andT.isPrefixOf r then match prsU f (r.drop 5) with
      | some x => ((true, x.1) :: (prsC f x.2).1, (prsC f x.2).2)
      | none => ([], r)
    else if orT.isPrefixOf r then match prsU f (r.drop 4) with
      | some x => ((false, x.1) :: (prsC f x.2).1, (prsC f x.2).2)
      | none => ([], r)
    else ([], r)
end

/-! ### Groups -/
theorem grp_and (us : List Pd) : ∀ u, grp u (us.map fun v => (true, v)) = [u :: us] := by
  induction us with
  | nil => intro u; rfl
  | cons v us ih => intro u; rw [List.map_cons, grp, ih v]
theorem grp_or (us : List Pd) (v : Pd) (r : List (Bool × Pd)) : ∀ u, grp u ((us.map fun v => (true, v)) ++ (false, v) :: r) = (u :: us) :: grp v r := by
  induction us with
  | nil => intro u; rfl
  | cons x us ih => intro u; rw [List.map_cons, List.cons_append, grp, ih x]
/-- a kid of 'or', as what 'and' joins -/
def cjP (k : Pd) : Pd × List Pd := if k.hd.op = 6 then (match k.kids with | u :: us => (u, us) | [] => (k, [])) else (k, [])
def chn (ks : List Pd) : List (Bool × Pd) := ks.flatMap fun k => (false, (cjP k).1) :: (cjP k).2.map fun v => (true, v)
theorem grp_chn (ks : List Pd) : ∀ k, grp (cjP k).1 (((cjP k).2.map fun v => (true, v)) ++ chn ks) = ((k :: ks).map fun x => (cjP x).1 :: (cjP x).2) := by
  induction ks with
  | nil => intro k; unfold chn; rw [List.flatMap_nil, List.append_nil, grp_and]; rfl
  | cons y ks ih =>
    intro k
    have e : chn (y :: ks) = (false, (cjP y).1) :: (((cjP y).2.map fun v => (true, v)) ++ chn ks) := by unfold chn; rw [List.flatMap_cons]; rfl
    rw [e, grp_or, ih y]; rfl

/-! ### Shapes -/
theorem bare_is {h : Ph} (e : bareH h = true) : h = bare h.op := by
  unfold bareH at e
  exact of_decide_eq_true e
def Shape (h : Ph) (ks : List Pd) : Prop :=
  (h = bare 1 ∧ ks = []) ∨ (∃ col cmp val kind, h = ⟨2, col, cmp, val, kind, []⟩ ∧ ks = [] ∧ nameB col = true ∧ 1 ≤ cmp ∧ cmp ≤ 6 ∧ mayC kind false val = true) ∨
  (∃ col, h = ⟨3, col, 0, zCl, 0, []⟩ ∧ ks = [] ∧ nameB col = true) ∨ (∃ col pat, h = ⟨4, col, 0, zCl, 0, pat⟩ ∧ ks = [] ∧ nameB col = true) ∨
  (∃ k, h = bare 5 ∧ ks = [k]) ∨ (h = bare 6 ∧ 1 < ks.length ∧ ∀ k ∈ ks, k.hd.op ≠ 6) ∨ (h = bare 7 ∧ 1 < ks.length ∧ ∀ k ∈ ks, k.hd.op ≠ 7)
theorem kidOp_no {op : Int} {ks : List Pd} (h : kidOp op ks = false) : ∀ k ∈ ks, k.hd.op ≠ op := by
  intro k hk e
  unfold kidOp at h
  rw [List.any_eq_false] at h
  exact h k hk (by simpa using e)
theorem shape_of {h : Ph} {ks : List Pd} (e : hdOk h ks = true) : Shape h ks := by
  unfold hdOk at e
  unfold Shape
  split at e
  · rename_i h1
    rw [Bool.and_eq_true, decide_eq_true_eq] at e
    have := bare_is e.2
    rw [h1] at this
    exact .inl ⟨this, List.eq_nil_of_length_eq_zero e.1⟩
  · split at e
    · rename_i h1 h2
      rw [Bool.and_eq_true, decide_eq_true_eq] at e
      have hk := List.eq_nil_of_length_eq_zero e.1
      have e2 := e.2
      unfold askOk at e2
      rw [Bool.and_eq_true] at e2
      obtain ⟨op, col, cmp, val, kind, pat⟩ := h
      dsimp only at h2 e2
      rcases h2 with rfl | rfl | rfl
      · rw [if_pos rfl, Bool.and_eq_true, Bool.and_eq_true, decide_eq_true_eq, decide_eq_true_eq] at e2
        obtain ⟨a, ⟨b, c⟩, d⟩ := e2
        exact .inr (.inl ⟨_, _, _, _, d, hk, a, b.1, b.2, c⟩)
      · rw [if_neg (by decide), if_neg (by decide), decide_eq_true_eq] at e2
        exact .inr (.inr (.inl ⟨_, e2.2, hk, e2.1⟩))
      · rw [if_neg (by decide), if_pos rfl, Bool.and_eq_true, decide_eq_true_eq, decide_eq_true_eq] at e2
        exact .inr (.inr (.inr (.inl ⟨_, _, e2.2.2, hk, e2.1⟩)))
    · split at e
      · rename_i h5
        rw [Bool.and_eq_true, decide_eq_true_eq] at e
        have := bare_is e.2
        rw [h5] at this
        obtain ⟨k, hk⟩ := List.length_eq_one_iff.1 e.1
        exact .inr (.inr (.inr (.inr (.inl ⟨k, this, hk⟩))))
      · split at e
        · rename_i h6
          rw [Bool.and_eq_true, Bool.and_eq_true, decide_eq_true_eq] at e
          obtain ⟨⟨a, b⟩, c⟩ := e
          have hb := bare_is b
          have hk := kidOp_no (by simpa using c)
          rcases h6 with h6 | h6
          · rw [h6] at hb hk
            exact .inr (.inr (.inr (.inr (.inr (.inl ⟨hb, a, hk⟩)))))
          · rw [h6] at hb hk
            exact .inr (.inr (.inr (.inr (.inr (.inr ⟨hb, a, hk⟩)))))
        · cases e
theorem name_wc {l : Tx} (h : nameB l = true) : l ≠ [] ∧ (∀ c ∈ l, wcB c = true ∧ c ≠ 40) ∧ l ≠ [97, 108, 108] ∧ l ≠ [110, 111, 116] := by
  have e := of_decide_eq_true h
  refine ⟨fun e0 => by rw [e0] at e; simp at e, fun c hc => ?_, fun e0 => ?_, fun e0 => ?_⟩
  · obtain ⟨j, hj, rfl⟩ := List.mem_iff_getElem.1 hc
    have := e.2.2.2 j hj
    have hb : ∀ c : UInt8, okI j c.toNat = true → (wcB c = true ∧ c ≠ 40) := by
      intro c hc
      have hne : ∀ n : UInt8, n.toNat < 48 → c ≠ n := by
        rintro n hn rfl
        unfold okI ltrI dgtI at hc
        simp only [Bool.or_eq_true, Bool.and_eq_true, decide_eq_true_eq] at hc
        omega
      exact ⟨decide_eq_true ⟨hne 32 (by decide), hne 41 (by decide)⟩, hne 40 (by decide)⟩
    exact hb _ this
  · rw [e0] at h; revert h; decide +kernel
  · rw [e0] at h; revert h; decide +kernel
theorem markR_ok {n : Int} (h1 : 1 ≤ n) (h6 : n ≤ 6) : markR (markB n) = n ∧ (∀ c ∈ markB n, wcB c = true) ∧ markB n ≠ [105, 115] ∧ markB n ≠ [108, 105, 107, 101] := by
  have : n = 1 ∨ n = 2 ∨ n = 3 ∨ n = 4 ∨ n = 5 ∨ n = 6 := by omega
  rcases this with rfl | rfl | rfl | rfl | rfl | rfl <;> decide

/-! ### Read again -/
def bT (k : Pd) : Tx := brkP [6, 7] k
def sepT (b : Bool) : Tx := if b then andT else orT
def runT (cs : List (Bool × Pd)) : Tx := cs.flatMap fun x => sepT x.1 ++ bT x.2
def EndE (r : Tx) : Prop := r = [] ∨ (∃ r', r = 41 :: r') ∨ ∃ r', r = 32 :: 103 :: r'
theorem EndE.w {r : Tx} (h : EndE r) : EndW r := by
  rcases h with rfl | ⟨r', rfl⟩ | ⟨r', rfl⟩
  · exact endW_nil
  · exact endW_41 _
  · exact endW_32 _
def PU (p : Pd) : Prop := ∀ f r, 3 * cntP p ≤ f → EndW r → prsU f (bT p ++ r) = some (p, r)
def PE (p : Pd) : Prop := ∀ f r, 3 * cntP p ≤ f + 1 → EndE r → prsE f (textP p ++ r) = some (p, r)
/-- one that stands without brackets -/
def PA (p : Pd) : Prop := ∀ f r, 3 * cntP p ≤ f + 2 → EndW r → prsU f (textP p ++ r) = some (p, r)
theorem runT_end (cs : List (Bool × Pd)) {r : Tx} (h : EndE r) : EndW (runT cs ++ r) := by
  cases cs with
  | nil => exact h.w
  | cons x cs =>
    unfold runT
    rw [List.flatMap_cons]
    unfold sepT
    split
    · exact endW_32 _
    · exact endW_32 _
def sumC (cs : List (Bool × Pd)) : Nat := (cs.map fun x => cntP x.2).sum
theorem and_pre (l : Tx) : andT.isPrefixOf (andT ++ l) = true := by simp [andT, List.isPrefixOf]
theorem or_not (l : Tx) : andT.isPrefixOf (orT ++ l) = false := by simp [andT, orT, List.isPrefixOf]
theorem or_pre (l : Tx) : orT.isPrefixOf (orT ++ l) = true := by simp [orT, List.isPrefixOf]
theorem end_not {r : Tx} (h : EndE r) : andT.isPrefixOf r = false ∧ orT.isPrefixOf r = false := by
  rcases h with rfl | ⟨r', rfl⟩ | ⟨r', rfl⟩
  · decide
  · simp [andT, orT, List.isPrefixOf]
  · simp [andT, orT, List.isPrefixOf]
theorem prsC_end (f : Nat) {r : Tx} (h : EndE r) : prsC f r = ([], r) := by
  cases f with
  | zero => rw [prsC]
  | succ f => rw [prsC, (end_not h).1, (end_not h).2]; rfl
theorem prsC_ok (cs : List (Bool × Pd)) (hcs : ∀ x ∈ cs, PU x.2) : ∀ (f : Nat) (r : Tx), 3 * sumC cs + 1 ≤ f → EndE r → prsC f (runT cs ++ r) = (cs, r) := by
  induction cs with
  | nil => intro f r _ hr; exact prsC_end f hr
  | cons x cs ih =>
    intro f r hf hr
    obtain ⟨b, u⟩ := x
    have hs : sumC ((b, u) :: cs) = cntP u + sumC cs := by unfold sumC; simp
    have hp := cnt_pos u
    obtain ⟨f, rfl⟩ : ∃ g, f = g + 1 := ⟨f - 1, by omega⟩
    have hu := hcs (b, u) (List.mem_cons_self ..) f (runT cs ++ r) (by dsimp only; omega) (runT_end cs hr)
    have hc := ih (fun y hy => hcs y (List.mem_cons_of_mem _ hy)) f r (by omega) hr
    have e : runT ((b, u) :: cs) ++ r = sepT b ++ (bT u ++ (runT cs ++ r)) := by unfold runT; rw [List.flatMap_cons]; simp
    rw [e, prsC]
    dsimp only at hu
    cases b
    · rw [show sepT false = orT from rfl, or_not, or_pre, show (orT ++ (bT u ++ (runT cs ++ r))).drop 4 = bT u ++ (runT cs ++ r) from rfl, hu]
      simp [hc]
    · rw [show sepT true = andT from rfl, and_pre, show (andT ++ (bT u ++ (runT cs ++ r))).drop 5 = bT u ++ (runT cs ++ r) from rfl, hu]
      simp [hc]
/-- a chain -/
theorem prsE_chain (u : Pd) (cs : List (Bool × Pd)) (hu : PU u) (hcs : ∀ x ∈ cs, PU x.2) (f : Nat) (r : Tx) (hf : 3 * (cntP u + sumC cs) + 2 ≤ f) (hr : EndE r) : prsE f (bT u ++ runT cs ++ r) = some (unch u cs, r) := by
  obtain ⟨f, rfl⟩ : ∃ g, f = g + 1 := ⟨f - 1, by omega⟩
  have hp := cnt_pos u
  rw [prsE, List.append_assoc, hu f (runT cs ++ r) (by omega) (runT_end cs hr), Option.bind_some, prsC_ok cs hcs f r (by omega) hr]
theorem bT_atom {p : Pd} (h : p.hd.op ≠ 6 ∧ p.hd.op ≠ 7) : bT p = textP p := by
  unfold bT brkP brk
  rw [if_neg (by simp [h.1, h.2])]
theorem bT_br {p : Pd} (h : p.hd.op = 6 ∨ p.hd.op = 7) : bT p = 40 :: (textP p ++ [41]) := by
  unfold bT brkP brk
  rw [if_pos (by simpa using h)]
  rfl
theorem pu_of (p : Pd) (hE : PE p) (hA : p.hd.op ≠ 6 ∧ p.hd.op ≠ 7 → PA p) : PU p := by
  intro f r hf hr
  by_cases h : p.hd.op = 6 ∨ p.hd.op = 7
  · have hp := cnt_pos p
    obtain ⟨f, rfl⟩ : ∃ g, f = g + 1 := ⟨f - 1, by omega⟩
    rw [bT_br h, prsU, if_pos (by simp)]
    have e : ((40 :: (textP p ++ [41])) ++ r).tail = textP p ++ 41 :: r := by simp
    rw [e, hE f (41 :: r) (by omega) (.inr (.inl ⟨_, rfl⟩))]
    simp
  · have h2 : p.hd.op ≠ 6 ∧ p.hd.op ≠ 7 := ⟨fun e => h (.inl e), fun e => h (.inr e)⟩
    rw [bT_atom h2]
    exact hA h2 f r (by omega) hr
theorem pe_atom (p : Pd) (hA : PA p) : PE p := by
  intro f r hf hr
  have hp := cnt_pos p
  obtain ⟨f, rfl⟩ : ∃ g, f = g + 1 := ⟨f - 1, by omega⟩
  rw [prsE, hA f r (by omega) hr.w, Option.bind_some, prsC_end f hr]
  rfl
theorem join_run (b : Bool) (u : Pd) (us : List Pd) : Lib.join ((u :: us).map bT) (sepT b) = bT u ++ runT (us.map fun v => (b, v)) := by
  unfold Lib.join runT
  induction us generalizing u with
  | nil => simp [List.intercalate]
  | cons v us ih =>
    have e : List.intercalate (sepT b) ((u :: v :: us).map bT) = bT u ++ sepT b ++ List.intercalate (sepT b) ((v :: us).map bT) := by simp [List.intercalate]
    rw [e, ih v]
    simp
theorem pa_all : PA (.mk (bare 1) []) := by
  intro f r hf hr
  rw [cntP, cntL] at hf
  obtain ⟨f, rfl⟩ : ∃ g, f = g + 1 := ⟨f - 1, by omega⟩
  have e : textP (.mk (bare 1) []) = [97, 108, 108] := by rw [textP, textL]; rfl
  obtain ⟨a, b⟩ := tw_word (w := [97, 108, 108]) (by decide) hr
  rw [e, prsU, if_neg (by simp), a, b, if_pos rfl]
theorem head_ne {c : Tx} (h : nameB c = true) (r : Tx) : (c ++ r).head? ≠ some 40 := by
  obtain ⟨h1, h2, _⟩ := name_wc h
  cases c with
  | nil => exact absurd rfl h1
  | cons x c => simpa using (h2 x (List.mem_cons_self ..)).2
theorem pa_nul {col : Tx} (hn : nameB col = true) : PA (.mk ⟨3, col, 0, zCl, 0, []⟩ []) := by
  intro f r hf hr
  rw [cntP, cntL] at hf
  obtain ⟨f, rfl⟩ : ∃ g, f = g + 1 := ⟨f - 1, by omega⟩
  have e : textP (.mk ⟨3, col, 0, zCl, 0, []⟩ []) ++ r = col ++ (32 :: ([105, 115] ++ (32 :: ([110, 117, 108, 108] ++ r)))) := by rw [textP, textL]; simp [textH]
  obtain ⟨h1, h2, h3, h4⟩ := name_wc hn
  obtain ⟨a, b⟩ := tw_word (w := col) (fun c hc => (h2 c hc).1) (endW_32 ([105, 115] ++ (32 :: ([110, 117, 108, 108] ++ r))))
  obtain ⟨a2, b2⟩ := tw_word (w := [105, 115]) (by decide) (endW_32 ([110, 117, 108, 108] ++ r))
  rw [e, prsU, if_neg (head_ne hn _), a, b, if_neg h3, if_neg h4, show (32 :: ([105, 115] ++ (32 :: ([110, 117, 108, 108] ++ r)))).drop 1 = [105, 115] ++ (32 :: ([110, 117, 108, 108] ++ r)) from rfl, a2, b2, if_pos rfl]
  rfl
theorem pa_like {col pat : Tx} (hn : nameB col = true) : PA (.mk ⟨4, col, 0, zCl, 0, pat⟩ []) := by
  intro f r hf hr
  rw [cntP, cntL] at hf
  obtain ⟨f, rfl⟩ : ∃ g, f = g + 1 := ⟨f - 1, by omega⟩
  have e : textP (.mk ⟨4, col, 0, zCl, 0, pat⟩ []) ++ r = col ++ (32 :: ([108, 105, 107, 101] ++ (32 :: 39 :: (dblB pat ++ 39 :: r)))) := by rw [textP, textL]; simp [textH, quoT]
  obtain ⟨h1, h2, h3, h4⟩ := name_wc hn
  obtain ⟨a, b⟩ := tw_word (w := col) (fun c hc => (h2 c hc).1) (endW_32 ([108, 105, 107, 101] ++ (32 :: 39 :: (dblB pat ++ 39 :: r))))
  obtain ⟨a2, b2⟩ := tw_word (w := [108, 105, 107, 101]) (by decide) (endW_32 (39 :: (dblB pat ++ 39 :: r)))
  rw [e, prsU, if_neg (head_ne hn _), a, b, if_neg h3, if_neg h4, show (32 :: ([108, 105, 107, 101] ++ (32 :: 39 :: (dblB pat ++ 39 :: r)))).drop 1 = [108, 105, 107, 101] ++ (32 :: 39 :: (dblB pat ++ 39 :: r)) from rfl, a2, b2, if_neg (by decide), if_pos rfl,
    show (32 :: 39 :: (dblB pat ++ 39 :: r)).drop 2 = dblB pat ++ 39 :: r from rfl, qt_dbl pat r (endW_not hr)]
  simp
theorem pa_cmp {col : Tx} {cmp : Int} {val : Cl} {kind : Int} (hn : nameB col = true) (h1 : 1 ≤ cmp) (h6 : cmp ≤ 6) (hm : mayC kind false val = true) (hv : I64b val.num) : PA (.mk ⟨2, col, cmp, val, kind, []⟩ []) := by
  intro f r hf hr
  rw [cntP, cntL] at hf
  obtain ⟨f, rfl⟩ : ∃ g, f = g + 1 := ⟨f - 1, by omega⟩
  have e : textP (.mk ⟨2, col, cmp, val, kind, []⟩ []) ++ r = col ++ (32 :: (markB cmp ++ (32 :: (valT kind val ++ r)))) := by rw [textP, textL]; simp [textH]
  obtain ⟨_, h2, h3, h4⟩ := name_wc hn
  obtain ⟨m1, m2, m3, m4⟩ := markR_ok h1 h6
  obtain ⟨a, b⟩ := tw_word (w := col) (fun c hc => (h2 c hc).1) (endW_32 (markB cmp ++ (32 :: (valT kind val ++ r))))
  obtain ⟨a2, b2⟩ := tw_word (w := markB cmp) m2 (endW_32 (valT kind val ++ r))
  rw [e, prsU, if_neg (head_ne hn _), a, b, if_neg h3, if_neg h4, show (32 :: (markB cmp ++ (32 :: (valT kind val ++ r)))).drop 1 = markB cmp ++ (32 :: (valT kind val ++ r)) from rfl, a2, b2, if_neg m3, if_neg m4,
    show (32 :: (valT kind val ++ r)).drop 1 = valT kind val ++ r from rfl, valR_ok hm hv hr, m1]
  rfl
theorem pa_not {k : Pd} (hk : PU k) : PA (.mk (bare 5) [k]) := by
  intro f r hf hr
  rw [cntP, cntL, cntL] at hf
  have hp := cnt_pos k
  obtain ⟨f, rfl⟩ : ∃ g, f = g + 1 := ⟨f - 1, by omega⟩
  have e : textP (.mk (bare 5) [k]) ++ r = [110, 111, 116] ++ (32 :: (bT k ++ r)) := by
    rw [textP, textL, textL]
    show ([110, 111, 116, 32] ++ brk [6, 7] (k.hd.op, textP k)) ++ r = _
    simp [bT, brkP]
  obtain ⟨a, b⟩ := tw_word (w := [110, 111, 116]) (by decide) (endW_32 (bT k ++ r))
  rw [e, prsU, if_neg (by simp), a, b, if_neg (by decide), if_pos rfl, show (32 :: (bT k ++ r)).drop 1 = bT k ++ r from rfl, hk f r (by omega) hr]
  rfl
theorem text_and (ks : List Pd) (h : ∀ k ∈ ks, k.hd.op ≠ 6) : textP (.mk (bare 6) ks) = Lib.join (ks.map bT) andT := by
  rw [textP]
  show Lib.join ((textL ks).map (brk [7])) andT = _
  rw [textL_brk]
  congr 1
  apply List.map_congr_left
  intro k hk
  unfold bT brkP brk
  have := h k hk
  by_cases h7 : k.hd.op = 7
  · rw [if_pos (by simp [h7]), if_pos (by simp [h7])]
  · rw [if_neg (by simp [h7]), if_neg (by simp [h7, this])]
theorem text_or (ks : List Pd) : textP (.mk (bare 7) ks) = Lib.join (ks.map textP) orT := by
  rw [textP]
  show Lib.join ((textL ks).map (brk [])) orT = _
  rw [textL_brk]
  rfl
theorem sum_map (b : Bool) (us : List Pd) : sumC (us.map fun v => (b, v)) = cntL us := by
  unfold sumC
  induction us with
  | nil => rfl
  | cons u us ih => rw [List.map_cons, List.map_cons, List.sum_cons, ih, cntL]
theorem pe_and {ks : List Pd} (h2 : 1 < ks.length) (h6 : ∀ k ∈ ks, k.hd.op ≠ 6) (hk : ∀ k ∈ ks, PU k) : PE (.mk (bare 6) ks) := by
  intro f r hf hr
  match ks, h2 with
  | u :: v :: us, _ =>
    rw [cntP, cntL] at hf
    rw [text_and _ h6, show andT = sepT true from rfl, join_run, prsE_chain u _ (hk u (List.mem_cons_self ..)) (fun x hx => by
      obtain ⟨y, hy, rfl⟩ := List.mem_map.1 hx
      exact hk y (List.mem_cons_of_mem _ hy)) f r (by rw [sum_map]; omega) hr]
    unfold unch
    rw [grp_and]
    rfl
/-- a kid of 'or' -/
theorem cj_text {k : Pd} (h7 : k.hd.op ≠ 7) (h1 : oneP k = true) : textP k = bT (cjP k).1 ++ runT ((cjP k).2.map fun v => (true, v)) ∧ mkA ((cjP k).1 :: (cjP k).2) = k ∧ cntP (cjP k).1 + cntL (cjP k).2 ≤ cntP k := by
  obtain ⟨h, ks⟩ := k
  rw [oneP, Bool.and_eq_true] at h1
  have hs := shape_of h1.1
  unfold cjP
  by_cases h6 : h.op = 6
  · rw [if_pos (show (Pd.mk h ks).hd.op = 6 from h6)]
    unfold Shape at hs
    rcases hs with ⟨rfl, _⟩ | ⟨_, _, _, _, rfl, _⟩ | ⟨_, rfl, _⟩ | ⟨_, _, rfl, _⟩ | ⟨_, rfl, _⟩ | ⟨rfl, h2, hk⟩ | ⟨rfl, _⟩
    · exact absurd (show (1 : Int) = 6 from h6) (by decide)
    · exact absurd (show (2 : Int) = 6 from h6) (by decide)
    · exact absurd (show (3 : Int) = 6 from h6) (by decide)
    · exact absurd (show (4 : Int) = 6 from h6) (by decide)
    · exact absurd (show (5 : Int) = 6 from h6) (by decide)
    · match ks, h2 with
      | u :: v :: us, _ =>
        refine ⟨?_, rfl, ?_⟩
        · rw [text_and _ hk, show andT = sepT true from rfl, join_run]; rfl
        · show cntP u + cntL (v :: us) ≤ _
          simp only [cntP, cntL]; omega
    · exact absurd (show (7 : Int) = 6 from h6) (by decide)
  · rw [if_neg (show ¬ (Pd.mk h ks).hd.op = 6 from h6)]
    refine ⟨?_, rfl, by show cntP (Pd.mk h ks) + cntL [] ≤ cntP (Pd.mk h ks); rw [cntL]; omega⟩
    rw [bT_atom (p := .mk h ks) ⟨h6, h7⟩]
    simp [runT]
theorem or_run (ks : List Pd) (h : ∀ k ∈ ks, k.hd.op ≠ 7 ∧ oneP k = true) : ∀ k, k.hd.op ≠ 7 → oneP k = true → Lib.join ((k :: ks).map textP) orT = bT (cjP k).1 ++ runT (((cjP k).2.map fun v => (true, v)) ++ chn ks) := by
  induction ks with
  | nil =>
    intro k h7 h1
    have e : Lib.join ([k].map textP) orT = textP k := by simp [Lib.join, List.intercalate]
    rw [e, (cj_text h7 h1).1]
    unfold chn
    simp
  | cons y ks ih =>
    intro k h7 h1
    have e : Lib.join ((k :: y :: ks).map textP) orT = textP k ++ orT ++ Lib.join ((y :: ks).map textP) orT := by simp [Lib.join, List.intercalate]
    have hy := h y (List.mem_cons_self ..)
    rw [e, ih (fun x hx => h x (List.mem_cons_of_mem _ hx)) y hy.1 hy.2, (cj_text h7 h1).1]
    have e2 : chn (y :: ks) = (false, (cjP y).1) :: (((cjP y).2.map fun v => (true, v)) ++ chn ks) := by unfold chn; rw [List.flatMap_cons]; rfl
    rw [e2]
    unfold runT
    simp [sepT]
theorem chn_sum (ks : List Pd) (h : ∀ k ∈ ks, k.hd.op ≠ 7 ∧ oneP k = true) : sumC (chn ks) ≤ cntL ks := by
  induction ks with
  | nil => exact Nat.le_refl _
  | cons y ks ih =>
    have hy := h y (List.mem_cons_self ..)
    have e2 : chn (y :: ks) = (false, (cjP y).1) :: (((cjP y).2.map fun v => (true, v)) ++ chn ks) := by unfold chn; rw [List.flatMap_cons]; rfl
    have h1 := ih (fun x hx => h x (List.mem_cons_of_mem _ hx))
    have h2 := (cj_text hy.1 hy.2).2.2
    have h3 := sum_map true (cjP y).2
    rw [e2, cntL]
    unfold sumC at *
    rw [List.map_cons, List.sum_cons, List.map_append, List.sum_append, h3]
    dsimp only
    omega
theorem pe_or {ks : List Pd} (h2 : 1 < ks.length) (h7 : ∀ k ∈ ks, k.hd.op ≠ 7) (h1 : ∀ k ∈ ks, oneP k = true) (hk : ∀ k ∈ ks, PU (cjP k).1 ∧ ∀ v ∈ (cjP k).2, PU v) : PE (.mk (bare 7) ks) := by
  intro f r hf hr
  match ks, h2 with
  | k :: y :: ks, _ =>
    rw [cntP, cntL] at hf
    have hk0 := hk k (List.mem_cons_self ..)
    have hkk := cj_text (h7 k (List.mem_cons_self ..)) (h1 k (List.mem_cons_self ..))
    have hss := chn_sum (y :: ks) (fun x hx => ⟨h7 x (List.mem_cons_of_mem _ hx), h1 x (List.mem_cons_of_mem _ hx)⟩)
    have hsum : sumC (((cjP k).2.map fun v => (true, v)) ++ chn (y :: ks)) = cntL (cjP k).2 + sumC (chn (y :: ks)) := by
      have := sum_map true (cjP k).2
      unfold sumC at *
      rw [List.map_append, List.sum_append, this]
    rw [text_or, or_run (y :: ks) (fun x hx => ⟨h7 x (List.mem_cons_of_mem _ hx), h1 x (List.mem_cons_of_mem _ hx)⟩) k (h7 k (List.mem_cons_self ..)) (h1 k (List.mem_cons_self ..)),
      prsE_chain (cjP k).1 _ hk0.1 (fun x hx => by
        rcases List.mem_append.1 hx with hx | hx
        · obtain ⟨v, hv, rfl⟩ := List.mem_map.1 hx
          exact hk0.2 v hv
        · unfold chn at hx
          obtain ⟨z, hz, hx⟩ := List.mem_flatMap.1 hx
          have hkz := hk z (List.mem_cons_of_mem _ hz)
          rcases List.mem_cons.1 hx with rfl | hx
          · exact hkz.1
          · obtain ⟨v, hv, rfl⟩ := List.mem_map.1 hx
            exact hkz.2 v hv) f r (by rw [hsum]; omega) hr]
    unfold unch
    rw [grp_chn, List.map_cons, List.map_cons]
    show some (Pd.mk (bare 7) ((((cjP k).1 :: (cjP k).2) :: ((cjP y).1 :: (cjP y).2) :: ks.map fun x => (cjP x).1 :: (cjP x).2).map mkA), r) = _
    congr 2
    have e : ((((cjP k).1 :: (cjP k).2) :: ((cjP y).1 :: (cjP y).2) :: ks.map fun x => (cjP x).1 :: (cjP x).2).map mkA) = (k :: y :: ks).map fun x => mkA ((cjP x).1 :: (cjP x).2) := by simp
    rw [e]
    congr 1
    exact (List.map_congr_left (g := id) fun x hx => (cj_text (h7 x hx) (h1 x hx)).2.1).trans (List.map_id _)
theorem read_all (p : Pd) : oneP p = true → numP p → PU p ∧ PE p ∧ ∀ k ∈ p.kids, PU k := by
  induction p using Pd.ind with
  | h hd ks ih =>
    intro h1 hn
    rw [oneP, Bool.and_eq_true, oneL_all] at h1
    rw [numP] at hn
    have hone := List.all_eq_true.1 h1.2
    have hnum := (numL_all ks).1 hn.2
    have hkid : ∀ k ∈ ks, PU k := fun k hk => (ih k hk (hone k hk) (hnum k hk)).1
    have hs := shape_of h1.1
    have key : PE (.mk hd ks) ∧ (hd.op ≠ 6 ∧ hd.op ≠ 7 → PA (.mk hd ks)) := by
      unfold Shape at hs
      rcases hs with ⟨rfl, rfl⟩ | ⟨col, cmp, val, kind, rfl, rfl, a, b, c, d⟩ | ⟨col, rfl, rfl, a⟩ | ⟨col, pat, rfl, rfl, a⟩ | ⟨k, rfl, rfl⟩ | ⟨rfl, h2, h6⟩ | ⟨rfl, h2, h7⟩
      · exact ⟨pe_atom _ pa_all, fun _ => pa_all⟩
      · have := pa_cmp a b c d hn.1
        exact ⟨pe_atom _ this, fun _ => this⟩
      · exact ⟨pe_atom _ (pa_nul a), fun _ => pa_nul a⟩
      · exact ⟨pe_atom _ (pa_like a), fun _ => pa_like a⟩
      · have := pa_not (hkid k (List.mem_cons_self ..))
        exact ⟨pe_atom _ this, fun _ => this⟩
      · exact ⟨pe_and h2 h6 hkid, fun e => absurd rfl e.1⟩
      · refine ⟨pe_or h2 h7 hone (fun k hk => ?_), fun e => absurd rfl e.2⟩
        unfold cjP
        by_cases h6 : k.hd.op = 6
        · rw [if_pos h6]
          have hkk := (ih k hk (hone k hk) (hnum k hk)).2.2
          generalize hq : k.kids = q at *
          match q with
          | [] => exact ⟨hkid k hk, fun v hv => by cases hv⟩
          | u :: us => exact ⟨hkk u (List.mem_cons_self ..), fun v hv => hkk v (List.mem_cons_of_mem _ hv)⟩
        · rw [if_neg h6]
          exact ⟨hkid k hk, fun v hv => by cases hv⟩
    exact ⟨pu_of _ key.1 key.2, key.1, hkid⟩
end Go.Proofs.YtibopcceffncpaaDoor


namespace Go.Proofs.YtibopcceffncpaaDoor
set_option linter.unusedVariables false
set_option linter.unusedSimpArgs false
set_option maxRecDepth 100000
open Go.RowKit

/-- what may lie in an item: no blank, no comma -/
def itB (c : UInt8) : Bool := decide (c ≠ 32 ∧ c ≠ 44)
theorem sep_split (x y r s : Tx) (c d : UInt8) (hx : ∀ b ∈ x, itB b = true) (hy : ∀ b ∈ y, itB b = true) (hc : itB c = false) (hd : itB d = false) (h : x ++ c :: r = y ++ d :: s) : x = y ∧ c = d ∧ r = s := by
  induction x generalizing y with
  | nil =>
    cases y with
    | nil =>
      simp only [List.nil_append, List.cons.injEq] at h
      exact ⟨rfl, h.1, h.2⟩
    | cons b y =>
      simp only [List.nil_append, List.cons_append, List.cons.injEq] at h
      have := hy b (List.mem_cons_self ..)
      rw [← h.1, hc] at this
      cases this
  | cons a x ih =>
    cases y with
    | nil =>
      simp only [List.nil_append, List.cons_append, List.cons.injEq] at h
      have := hx a (List.mem_cons_self ..)
      rw [h.1, hd] at this
      cases this
    | cons b y =>
      simp only [List.cons_append, List.cons.injEq] at h
      obtain ⟨e1, e2, e3⟩ := ih y (fun z hz => hx z (List.mem_cons_of_mem _ hz)) (fun z hz => hy z (List.mem_cons_of_mem _ hz)) h.2
      exact ⟨by rw [h.1, e1], e2, e3⟩
theorem join_one (x : Tx) : Lib.join [x] comT = x := by simp [Lib.join, List.intercalate]
theorem join_two (x y : Tx) (r : List Tx) : Lib.join (x :: y :: r) comT = x ++ 44 :: 32 :: Lib.join (y :: r) comT := by simp [Lib.join, List.intercalate, comT]
theorem join_split : ∀ (xs ys : List Tx) (r s : Tx), xs ≠ [] → ys ≠ [] → (∀ x ∈ xs, ∀ b ∈ x, itB b = true) → (∀ x ∈ ys, ∀ b ∈ x, itB b = true) → Lib.join xs comT ++ 32 :: r = Lib.join ys comT ++ 32 :: s → xs = ys ∧ r = s := by
  intro xs
  induction xs with
  | nil => intro ys r s h; exact absurd rfl h
  | cons x xs ih =>
    intro ys r s _ hy hx hys h
    cases ys with
    | nil => exact absurd rfl hy
    | cons y ys =>
      have bx := hx x (List.mem_cons_self ..)
      have by' := hys y (List.mem_cons_self ..)
      cases xs with
      | nil =>
        cases ys with
        | nil =>
          rw [join_one, join_one] at h
          obtain ⟨e1, _, e3⟩ := sep_split x y r s 32 32 bx by' (by decide) (by decide) h
          exact ⟨by rw [e1], e3⟩
        | cons y2 ys =>
          rw [join_one, join_two, List.append_assoc] at h
          obtain ⟨_, e2, _⟩ := sep_split x y _ _ 32 44 bx by' (by decide) (by decide) h
          exact absurd e2 (by decide)
      | cons x2 xs =>
        cases ys with
        | nil =>
          rw [join_one, join_two, List.append_assoc] at h
          obtain ⟨_, e2, _⟩ := sep_split x y _ _ 44 32 bx by' (by decide) (by decide) h
          exact absurd e2 (by decide)
        | cons y2 ys =>
          rw [join_two, join_two] at h
          simp only [List.append_assoc, List.cons_append] at h
          obtain ⟨e1, _, e3⟩ := sep_split x y _ _ 44 44 bx by' (by decide) (by decide) h
          replace e3 := (List.cons.inj e3).2
          obtain ⟨e4, e5⟩ := ih (y2 :: ys) r s (by simp) (by simp) (fun z hz => hx z (List.mem_cons_of_mem _ hz)) (fun z hz => hys z (List.mem_cons_of_mem _ hz)) e3
          exact ⟨by rw [e1, e4], e5⟩

/-- a name's bytes -/
theorem name_it {l : Tx} (h : nameB l = true) : ∀ c ∈ l, itB c = true ∧ c ≠ 40 ∧ c ≠ 42 := by
  have e := of_decide_eq_true h
  intro c hc
  obtain ⟨j, hj, rfl⟩ := List.mem_iff_getElem.1 hc
  have := e.2.2.2 j hj
  have hb : ∀ c : UInt8, okI j c.toNat = true → (itB c = true ∧ c ≠ 40 ∧ c ≠ 42) := by
    intro c hc
    have hne : ∀ n : UInt8, n.toNat < 48 → c ≠ n := by
      rintro n hn rfl
      unfold okI ltrI dgtI at hc
      simp only [Bool.or_eq_true, Bool.and_eq_true, decide_eq_true_eq] at hc
      omega
    exact ⟨decide_eq_true ⟨hne 32 (by decide), hne 44 (by decide)⟩, hne 40 (by decide), hne 42 (by decide)⟩
  exact hb _ this
theorem word_it (op : Int) : ∀ c ∈ wordA op, itB c = true := by
  unfold wordA
  split
  · decide
  · split
    · decide
    · split
      · decide
      · split <;> decide
theorem told_it {a : Ag} (h : agB a = true) : ∀ c ∈ toldA a, itB c = true := by
  unfold toldA
  rcases ag_is h with ⟨h1, _⟩ | ⟨h1, _, _, h4⟩
  · rw [if_pos h1]; decide
  · rw [if_neg h1]
    intro c hc
    simp only [List.mem_append, List.mem_singleton] at hc
    rcases hc with ((hc | hc) | hc) | hc
    · exact word_it _ c hc
    · subst hc; decide
    · exact (name_it h4 c hc).1
    · subst hc; decide
theorem told_40 (a : Ag) : (40 : UInt8) ∈ toldA a := by
  unfold toldA
  split
  · decide
  · simp
theorem told_inj {a b : Ag} (ha : agB a = true) (hb : agB b = true) (h : toldA a = toldA b) : a = b := by
  obtain ⟨o, c⟩ := a
  obtain ⟨p, d⟩ := b
  unfold toldA at h
  rcases ag_is ha with ⟨h1, h2⟩ | ⟨h1, h2, h3, h4⟩ <;> rcases ag_is hb with ⟨g1, g2⟩ | ⟨g1, g2, g3, g4⟩ <;> dsimp only at *
  · rw [h1, h2, g1, g2]
  · rw [if_pos h1, if_neg g1] at h
    have : p = 2 ∨ p = 3 ∨ p = 4 ∨ p = 5 := by omega
    rcases this with rfl | rfl | rfl | rfl <;> simp [wordA] at h
  · rw [if_neg h1, if_pos g1] at h
    have : o = 2 ∨ o = 3 ∨ o = 4 ∨ o = 5 := by omega
    rcases this with rfl | rfl | rfl | rfl <;> simp [wordA] at h
  · rw [if_neg h1, if_neg g1] at h
    have e1 : o = 2 ∨ o = 3 ∨ o = 4 ∨ o = 5 := by omega
    have e2 : p = 2 ∨ p = 3 ∨ p = 4 ∨ p = 5 := by omega
    rcases e1 with rfl | rfl | rfl | rfl <;> rcases e2 with rfl | rfl | rfl | rfl <;> simp [wordA] at h <;> simp [h]
theorem map_told {l m : List Ag} (hl : ∀ a ∈ l, agB a = true) (hm : ∀ a ∈ m, agB a = true) (h : l.map toldA = m.map toldA) : l = m := by
  induction l generalizing m with
  | nil =>
    cases m with
    | nil => rfl
    | cons b m => simp at h
  | cons a l ih =>
    cases m with
    | nil => simp at h
    | cons b m =>
      rw [List.map_cons, List.map_cons, List.cons.injEq] at h
      rw [told_inj (hl a (List.mem_cons_self ..)) (hm b (List.mem_cons_self ..)) h.1, ih (fun x hx => hl x (List.mem_cons_of_mem _ hx)) (fun x hx => hm x (List.mem_cons_of_mem _ hx)) h.2]

def itemsQ (q : Qy) : List Tx := if allQ q = true then [[42]] else askedQ q
theorem list_items (q : Qy) : listQ q = Lib.join (itemsQ q) comT := by
  unfold listQ itemsQ
  split
  · rw [join_one]
  · rfl
theorem all_is {q : Qy} : allQ q = true ↔ q.cols = [] ∧ q.aggs = [] := by
  unfold allQ
  rw [Bool.and_eq_true, decide_eq_true_eq, decide_eq_true_eq, List.length_eq_zero_iff, List.length_eq_zero_iff]
theorem items_ne (q : Qy) : itemsQ q ≠ [] := by
  unfold itemsQ
  split
  · simp
  · rename_i h
    intro e
    unfold askedQ at e
    rw [List.append_eq_nil_iff, List.map_eq_nil_iff] at e
    exact h (all_is.2 e)
theorem unl_name {l : List Tx} (h : unlB l = true) : ∀ x ∈ l, nameB x = true := by
  unfold unlB at h
  rw [Bool.and_eq_true, List.all_eq_true] at h
  exact h.1
theorem items_it {q : Qy} (h : mayQ q = true) : ∀ x ∈ itemsQ q, ∀ c ∈ x, itB c = true := by
  unfold itemsQ
  split
  · decide
  · intro x hx
    unfold askedQ at hx
    rcases may_kinds h with ⟨h1, _, _, h4⟩ | ⟨_, _, h3, h4, _⟩
    · rw [h1] at hx
      simp only [List.map_nil, List.append_nil] at hx
      exact fun c hc => (name_it (unl_name h4 x hx) c hc).1
    · rw [h4, List.nil_append] at hx
      obtain ⟨a, ha, rfl⟩ := List.mem_map.1 hx
      exact told_it (h3 a ha)
theorem items_inj {a b : Qy} (ha : mayQ a = true) (hb : mayQ b = true) (h : itemsQ a = itemsQ b) : a.cols = b.cols ∧ a.aggs = b.aggs := by
  have pl : ∀ q : Qy, q.aggs = [] → unlB q.cols = true → ∀ x ∈ itemsQ q, (40 : UInt8) ∉ x := by
    intro q h1 h2 x hx hc
    unfold itemsQ at hx
    split at hx
    · obtain rfl := List.mem_singleton.1 hx
      revert hc; decide
    · unfold askedQ at hx
      rw [h1, List.map_nil, List.append_nil] at hx
      exact (name_it (unl_name h2 x hx) 40 hc).2.1 rfl
  have fo : ∀ q : Qy, q.aggs ≠ [] → q.cols = [] → itemsQ q = q.aggs.map toldA := by
    intro q h1 h2
    unfold itemsQ
    rw [if_neg (fun e => h1 (all_is.1 e).2)]
    unfold askedQ
    rw [h2]; rfl
  have pf : ∀ p q : Qy, p.aggs = [] → unlB p.cols = true → q.aggs ≠ [] → q.cols = [] → itemsQ p ≠ itemsQ q := by
    intro p q h1 h2 h3 h4 e
    obtain ⟨z, r, hz⟩ := List.exists_cons_of_ne_nil h3
    have : toldA z ∈ itemsQ p := by rw [e, fo q h3 h4, hz]; simp
    exact pl p h1 h2 _ this (told_40 z)
  rcases may_kinds ha with ⟨a1, a2, a3, a4⟩ | ⟨a1, a2, a3, a4, a5⟩ <;> rcases may_kinds hb with ⟨b1, b2, b3, b4⟩ | ⟨b1, b2, b3, b4, b5⟩
  · refine ⟨?_, by rw [a1, b1]⟩
    have star : ∀ q : Qy, unlB q.cols = true → [42] ∈ q.cols → False := by
      intro q h1 h2
      exact (name_it (unl_name h1 _ h2) 42 (by simp)).2.2 rfl
    unfold itemsQ askedQ at h
    rw [a1, b1] at h
    simp only [List.map_nil, List.append_nil] at h
    split at h
    · rename_i e1
      split at h
      · rename_i e2
        rw [(all_is.1 e1).1, (all_is.1 e2).1]
      · exact (star b b4 (by rw [← h]; simp)).elim
    · split at h
      · exact (star a a4 (by rw [h]; simp)).elim
      · exact h
  · exact absurd h (pf a b a1 a4 b1 b4)
  · exact absurd h.symm (pf b a b1 b4 a1 a4)
  · refine ⟨by rw [a4, b4], ?_⟩
    rw [fo a a1 a4, fo b b1 b4] at h
    exact map_told a3 b3 h

theorem grp_end (b : Tx) : EndE (grpT b) := by
  unfold grpT
  split
  · exact .inl rfl
  · exact .inr (.inr ⟨_, rfl⟩)
theorem grp_inj {a b : Tx} (h : grpT a = grpT b) : a = b := by
  unfold grpT at h
  split at h
  · rename_i ea
    split at h
    · rename_i eb; rw [ea, eb]
    · simp [groupT] at h
  · split at h
    · simp [groupT] at h
    · exact List.append_cancel_left h
theorem tail_end (p : Pd) (b : Tx) : EndW (whrT p ++ grpT b) := by
  unfold whrT
  split
  · rw [List.nil_append]; exact (grp_end b).w
  · exact endW_32 _
theorem may_one {p : Pd} (h : mayP p = true) : oneP p = true := by
  unfold mayP at h
  rw [Bool.and_eq_true] at h
  exact h.2
theorem all_one {p : Pd} (h : oneP p = true) (h1 : p.hd.op = 1) : p = .mk (bare 1) [] := by
  obtain ⟨hd, ks⟩ := p
  rw [oneP, Bool.and_eq_true] at h
  dsimp only [Pd.hd] at h1
  rcases shape_of h.1 with ⟨rfl, rfl⟩ | ⟨_, _, _, _, rfl, _⟩ | ⟨_, rfl, _⟩ | ⟨_, _, rfl, _⟩ | ⟨_, rfl, _⟩ | ⟨rfl, _⟩ | ⟨rfl, _⟩
  · rfl
  all_goals exact absurd h1 (by simp [bare])
theorem tail_inj {p q : Pd} {a b : Tx} (hp : mayP p = true) (hq : mayP q = true) (np : numP p) (nq : numP q) (h : whrT p ++ grpT a = whrT q ++ grpT b) : p = q ∧ a = b := by
  have unl : ∀ (x : Tx) (p : Pd) (r : Tx), grpT x ≠ whereT ++ textP p ++ r := by
    intro x p r e
    unfold grpT at e
    split at e
    · simp [whereT] at e
    · simp [whereT, groupT] at e
  unfold whrT at h
  by_cases h1 : p.hd.op = 1
  · rw [if_pos h1, List.nil_append] at h
    by_cases h2 : q.hd.op = 1
    · rw [if_pos h2, List.nil_append] at h
      exact ⟨by rw [all_one (may_one hp) h1, all_one (may_one hq) h2], grp_inj h⟩
    · rw [if_neg h2] at h
      exact absurd h (unl _ _ _)
  · rw [if_neg h1] at h
    by_cases h2 : q.hd.op = 1
    · rw [if_pos h2, List.nil_append] at h
      exact absurd h.symm (unl _ _ _)
    · rw [if_neg h2, List.append_assoc, List.append_assoc] at h
      have h3 := List.append_cancel_left h
      have ra := (read_all p (may_one hp) np).2.1 (3 * cntP p + 3 * cntP q) (grpT a) (by omega) (grp_end a)
      have rb := (read_all q (may_one hq) nq).2.1 (3 * cntP p + 3 * cntP q) (grpT b) (by omega) (grp_end b)
      rw [h3, rb] at ra
      have e := Prod.mk.inj (Option.some.inj ra)
      exact ⟨e.1.symm, grp_inj e.2.symm⟩
theorem textQ_inj (a b : Qy) (ma : mayQ a = true) (mb : mayQ b = true) (na : numP a.whr) (nb : numP b.whr) (h : textQ a = textQ b) : a = b := by
  unfold textQ at h
  rw [list_items, list_items] at h
  simp only [List.append_assoc] at h
  have h1 := List.append_cancel_left h
  obtain ⟨e1, h2⟩ := join_split _ _ _ _ (items_ne a) (items_ne b) (items_it ma) (items_it mb) (show Lib.join (itemsQ a) comT ++ 32 :: ([102, 114, 111, 109, 32] ++ (a.tab ++ (whrT a.whr ++ grpT a.by_))) = Lib.join (itemsQ b) comT ++ 32 :: ([102, 114, 111, 109, 32] ++ (b.tab ++ (whrT b.whr ++ grpT b.by_))) from h1)
  have h3 := List.append_cancel_left h2
  obtain ⟨ta, wa⟩ := may_parts ma
  obtain ⟨tb, wb⟩ := may_parts mb
  have t1 := tw_word (fun c hc => ((name_wc ta).2.1 c hc).1) (tail_end a.whr a.by_)
  have t2 := tw_word (fun c hc => ((name_wc tb).2.1 c hc).1) (tail_end b.whr b.by_)
  rw [h3] at t1
  have e2 : a.tab = b.tab := t1.1.symm.trans t2.1
  have e3 := t1.2.symm.trans t2.2
  obtain ⟨e4, e5⟩ := tail_inj wa wb na nb e3
  obtain ⟨e6, e7⟩ := items_inj ma mb e1
  obtain ⟨t, c, w, g, y⟩ := a
  obtain ⟨t', c', w', g', y'⟩ := b
  dsimp only at e2 e4 e5 e6 e7
  rw [e2, e4, e5, e6, e7]
theorem text_oneQ (a b : Qy) (ma : mayQ a = true) (mb : mayQ b = true) (na : numP a.whr) (nb : numP b.whr) : (TextQ a == TextQ b) = sameQ a b := by
  unfold TextQ
  rw [if_pos ma, if_pos mb, Bool.eq_iff_iff, beq_iff_eq, sameQ_iff]
  exact ⟨textQ_inj a b ma mb na nb, fun e => by rw [e]⟩
end Go.Proofs.YtibopcceffncpaaDoor


namespace Go.Proofs.YtibopcceffncpaaDoor
set_option linter.unusedVariables false
set_option linter.unusedSimpArgs false
set_option maxRecDepth 100000
open Go.RowKit

set_option maxHeartbeats 8000000 in
theorem queryOne_walk (q : Qy) (c : Value) (s : Kv) (g : Value) (q2 : Qy) (c2 : Value) (s2 : Kv) (g2 : Value) (W : World) (hW : Lq W) (hq : QyS W q c s g) (hq2 : QyS W q2 c2 s2 g2) :
    Calls Tryd.prog 4 #[qyV q c s g, qyV q2 c2 s2 g2] W fun e w' => e = .returned (.bool true) ∧ Below W.heap.size W w' := by
  have QR0 := Qin.new2 hq hq2
  have Q0 := Lib.hid QR0.1
  have R0 := Lib.hid QR0.2
  have HW0 := Lib.hid (hW.non Q0.out.fr)
  have S1 := Lib.hid (fun W (h : QyS W q c s g) => rqsmall_any q c s g W h)
  have S2 := Lib.hid (fun W (h : QyS W q2 c2 s2 g2) => rqsmall_any q2 c2 s2 g2 W h)
  have HT1 : Hid (SmQ q → ∀ W, QyS W q c s g → Lq W → Calls Tryd.prog 7 #[qyV q c s g] W fun e w' => e = .returned (.string ⟨(TextQ q).toArray⟩) ∧ Fr Non W w') := Lib.hid (fun hs W h hw => qtext_any q c s g W h hs hw)
  have HT2 : Hid (SmQ q2 → ∀ W, QyS W q2 c2 s2 g2 → Lq W → Calls Tryd.prog 7 #[qyV q2 c2 s2 g2] W fun e w' => e = .returned (.string ⟨(TextQ q2).toArray⟩) ∧ Fr Non W w') := Lib.hid (fun hs W h hw => qtext_any q2 c2 s2 g2 W h hs hw)
  have HM1 : Hid (SmQ q → ∀ W, QyS W q c s g → Calls Tryd.prog 11 #[qyV q c s g] W fun e w' => e = .returned (.bool (mayQ q)) ∧ Fr Non W w') := Lib.hid (fun hs W h => rqmay_any q c s g W h hs)
  have HM2 : Hid (SmQ q2 → ∀ W, QyS W q2 c2 s2 g2 → Calls Tryd.prog 11 #[qyV q2 c2 s2 g2] W fun e w' => e = .returned (.bool (mayQ q2)) ∧ Fr Non W w') := Lib.hid (fun hs W h => rqmay_any q2 c2 s2 g2 W h hs)
  have HE1 : Hid (SmQ q → ∀ W, QyS W q c s g → QyS W q2 c2 s2 g2 → Calls Tryd.prog 9 #[qyV q c s g, qyV q2 c2 s2 g2] W fun e w' => e = .returned (.bool (sameQ q q2)) ∧ Fr Non W w') := Lib.hid (fun hs W h h2 => qsame_any q c s g q2 c2 s2 g2 W h h2 hs)
  have HE2 : Hid (SmQ q → ∀ W, QyS W q c s g → QyS W q2 c2 s2 g2 → Calls Tryd.prog 10 #[qyV q c s g, qyV q2 c2 s2 g2] W fun e w' => e = .returned (.bool (sameQ q q2)) ∧ Fr Non W w') := Lib.hid (fun hs W h h2 => rqsame_any q c s g q2 c2 s2 g2 W h h2 hs)
  have HE3 : Hid (SmQ q → ∀ W, QyS W q c s g → Calls Tryd.prog 9 #[qyV q c s g, qyV q c s g] W fun e w' => e = .returned (.bool true) ∧ Fr Non W w') := Lib.hid (fun hs W h => by
    have c := qsame_any q c s g q c s g W h h hs
    rw [sameQ_self] at c
    exact c)
  have HIN : Hid (mayQ q = true → mayQ q2 = true → (TextQ q == TextQ q2) = sameQ q q2) := Lib.hid (fun a b => text_oneQ q q2 a b hq.nums hq2.nums)
  generalize SmQ q = P1 at *
  generalize SmQ q2 = P2 at *
  generalize mayQ q = m1 at *
  generalize mayQ q2 = m2 at *
  generalize TextQ q = x1 at *
  generalize TextQ q2 = x2 at *
  generalize sameQ q q2 = sb at *
  clear QR0
  obtain ⟨cA, cc, hce⟩ := hq.cols.shape
  obtain ⟨gA, gc, hge⟩ := hq.aggs.shape
  obtain ⟨cA2, cc2, hce2⟩ := hq2.cols.shape
  obtain ⟨gA2, gc2, hge2⟩ := hq2.aggs.shape
  clear hq hq2 hW
  obtain ⟨tab, cols, ⟨⟨wo, wc, wm, ⟨wn, wi, wt⟩, wk, wp⟩, wks⟩, aggs, by_⟩ := q
  obtain ⟨tab2, cols2, ⟨⟨wo2, wc2, wm2, ⟨wn2, wi2, wt2⟩, wk2, wp2⟩, wks2⟩, aggs2, by2_⟩ := q2
  obtain ⟨sA, sn, sc⟩ := s
  obtain ⟨sA2, sn2, sc2⟩ := s2
  dsimp only at hce hge hce2 hge2
  subst hce
  subst hge
  subst hce2
  subst hge2
  unfold qyV qyC kidV at *
  dsimp only [Pd.hd, Pd.kids] at *
  go_enter Tryd.func4, Tryd.ntmps4
  go_wp2_with fail
  refine (S1.out _ Q0.out.sls).mono ?_
  rintro e w1 ⟨⟨b1, rfl, hb1⟩, f1⟩
  have HQ1 := Lib.hid hb1
  have Q1 := Lib.hid (Q0.out.non f1)
  have HW1 := Lib.hid (HW0.out.non f1)
  have R1 := Lib.hid (R0.out.non f1)
  obtain ⟨g0, g1, g2, g3, g4, g5, g6, g7, g8, g9, g10, g11, g12⟩ := Q1.out.cells
  dsimp only [Pd.hd, Pd.kids] at g0 g1 g2 g3 g4 g5 g6 g7 g8 g9 g10 g11 g12
  obtain ⟨k0, k1, k2, k3, k4, k5, k6, k7, k8, k9, k10, k11, k12⟩ := R1.out.cells
  dsimp only [Pd.hd, Pd.kids] at k0 k1 k2 k3 k4 k5 k6 k7 k8 k9 k10 k11 k12
  clear f1 hb1 S1
  cases b1
  · clear HT1 HT2 HM1 HM2 HE1 HE2 HE3 S2 HIN
    go_wp2_with fail
    refine (qlive_any _ HW1.out).mono ?_
    rintro e w9 ⟨rfl, f9⟩
    go_wp2
    go_ret
    exact ⟨rfl, (Q1.out.fr.trans f9).below⟩
  · go_wp2_with fail
    refine (S2.out _ R1.out.sls).mono ?_
    rintro e w2 ⟨⟨b2, rfl, hb2⟩, f2⟩
    have HQ2 := Lib.hid hb2
    have Q2 := Lib.hid (Q1.out.non f2)
    have HW2 := Lib.hid (HW1.out.non f2)
    have R2 := Lib.hid (R1.out.non f2)
    clear g0 g1 g2 g3 g4 g5 g6 g7 g8 g9 g10 g11 g12 k0 k1 k2 k3 k4 k5 k6 k7 k8 k9 k10 k11 k12
    obtain ⟨g0, g1, g2, g3, g4, g5, g6, g7, g8, g9, g10, g11, g12⟩ := Q2.out.cells
    dsimp only [Pd.hd, Pd.kids] at g0 g1 g2 g3 g4 g5 g6 g7 g8 g9 g10 g11 g12
    obtain ⟨k0, k1, k2, k3, k4, k5, k6, k7, k8, k9, k10, k11, k12⟩ := R2.out.cells
    dsimp only [Pd.hd, Pd.kids] at k0 k1 k2 k3 k4 k5 k6 k7 k8 k9 k10 k11 k12
    clear f2 hb2 S2
    cases b2
    · clear HT1 HT2 HM1 HM2 HE1 HE2 HE3 HIN
      go_wp2_with fail
      refine (qlive_any _ HW2.out).mono ?_
      rintro e w9 ⟨rfl, f9⟩
      go_wp2
      go_ret
      exact ⟨rfl, (Q2.out.fr.trans f9).below⟩
    · have hp1 := HQ1.out (by trivial)
      have hp2 := HQ2.out (by trivial)
      have T1 := Lib.hid (HT1.out hp1)
      have T2 := Lib.hid (HT2.out hp2)
      have M1 := Lib.hid (HM1.out hp1)
      have M2 := Lib.hid (HM2.out hp2)
      have E1 := Lib.hid (HE1.out hp1)
      have E2 := Lib.hid (HE2.out hp1)
      have E3 := Lib.hid (HE3.out hp1)
      clear HT1 HT2 HM1 HM2 HE1 HE2 HE3 HQ1 HQ2 hp1 hp2
      go_wp2
      have Qd := Lib.hid Q2.out.drew
      have Rd := Lib.hid R2.out.drew
      have HWd := Lib.hid (HW2.out.non (Fr.refl Non w2).drew)
      clear g0 g1 g2 g3 g4 g5 g6 g7 g8 g9 g10 g11 g12 k0 k1 k2 k3 k4 k5 k6 k7 k8 k9 k10 k11 k12
      obtain ⟨g0, g1, g2, g3, g4, g5, g6, g7, g8, g9, g10, g11, g12⟩ := Qd.out.cells
      dsimp only [Pd.hd, Pd.kids] at g0 g1 g2 g3 g4 g5 g6 g7 g8 g9 g10 g11 g12
      obtain ⟨k0, k1, k2, k3, k4, k5, k6, k7, k8, k9, k10, k11, k12⟩ := Rd.out.cells
      dsimp only [Pd.hd, Pd.kids] at k0 k1 k2 k3 k4 k5 k6 k7 k8 k9 k10 k11 k12
      refine wp_region_held_drew (S := (fun W' => W'.cell? ⟨W.heap.size, 0, none⟩ = some (.string ⟨tab.toArray⟩) ∧ W'.cell? ⟨W.heap.size, 1, none⟩ = some (.slice cA cols.length cc) ∧ W'.cell? ⟨W.heap.size, 2, none⟩ = some (.int .i64 wo) ∧ W'.cell? ⟨W.heap.size, 3, none⟩ = some (.string ⟨wc.toArray⟩) ∧ W'.cell? ⟨W.heap.size, 4, none⟩ = some (.int .i64 wm) ∧ W'.cell? ⟨W.heap.size, 5, none⟩ = some (.bool wn) ∧ W'.cell? ⟨W.heap.size, 6, none⟩ = some (.int .i64 wi) ∧ W'.cell? ⟨W.heap.size, 7, none⟩ = some (.string ⟨wt.toArray⟩) ∧ W'.cell? ⟨W.heap.size, 8, none⟩ = some (.int .i64 wk) ∧ W'.cell? ⟨W.heap.size, 9, none⟩ = some (.string ⟨wp.toArray⟩) ∧ W'.cell? ⟨W.heap.size, 10, none⟩ = some (.slice sA sn sc) ∧ W'.cell? ⟨W.heap.size, 11, none⟩ = some (.slice gA aggs.length gc) ∧ W'.cell? ⟨W.heap.size, 12, none⟩ = some (.string ⟨by_.toArray⟩) ∧ W'.cell? ⟨W.heap.size + 1, 0, none⟩ = some (.string ⟨tab2.toArray⟩) ∧ W'.cell? ⟨W.heap.size + 1, 1, none⟩ = some (.slice cA2 cols2.length cc2) ∧ W'.cell? ⟨W.heap.size + 1, 2, none⟩ = some (.int .i64 wo2) ∧ W'.cell? ⟨W.heap.size + 1, 3, none⟩ = some (.string ⟨wc2.toArray⟩) ∧ W'.cell? ⟨W.heap.size + 1, 4, none⟩ = some (.int .i64 wm2) ∧ W'.cell? ⟨W.heap.size + 1, 5, none⟩ = some (.bool wn2) ∧ W'.cell? ⟨W.heap.size + 1, 6, none⟩ = some (.int .i64 wi2) ∧ W'.cell? ⟨W.heap.size + 1, 7, none⟩ = some (.string ⟨wt2.toArray⟩) ∧ W'.cell? ⟨W.heap.size + 1, 8, none⟩ = some (.int .i64 wk2) ∧ W'.cell? ⟨W.heap.size + 1, 9, none⟩ = some (.string ⟨wp2.toArray⟩) ∧ W'.cell? ⟨W.heap.size + 1, 10, none⟩ = some (.slice sA2 sn2 sc2) ∧ W'.cell? ⟨W.heap.size + 1, 11, none⟩ = some (.slice gA2 aggs2.length gc2) ∧ W'.cell? ⟨W.heap.size + 1, 12, none⟩ = some (.string ⟨by2_.toArray⟩))) (by kernel_rfl) (by exact ⟨g0, g1, g2, g3, g4, g5, g6, g7, g8, g9, g10, g11, g12, k0, k1, k2, k3, k4, k5, k6, k7, k8, k9, k10, k11, k12⟩) (fun hHeld => ?_)
      refine wpAnyH_take (i := 0) (oi := ⟨some 14, _, _, _, _, none⟩) (v := ?v7) rfl (by kernel_rfl) (by kernel_rfl) (by kernel_rfl) (fun _ _ _ h => h) (Or.inl ⟨by rfl, ?hy7⟩) (by assumption) ?rest7
      case hy7 => (intro wS hSw; (try dsimp only at hSw); go_simp; (try with_reducible rfl))
      (try simp only [Act.put, List.setIfInBounds_toArray, List.set_cons_zero, List.set_cons_succ])
      refine wpAnyH_take (i := 1) (oi := ⟨some 15, _, _, _, _, none⟩) (v := ?v8) rfl (by kernel_rfl) (by kernel_rfl) (by kernel_rfl) (fun _ _ _ h => h) (Or.inl ⟨by rfl, ?hy8⟩) (by assumption) ?rest8
      case hy8 => (intro wS hSw; (try dsimp only at hSw); go_simp; (try with_reducible rfl))
      (try simp only [Act.put, List.setIfInBounds_toArray, List.set_cons_zero, List.set_cons_succ])
      refine wpAnyH_take (i := 3) (oi := ⟨some 17, _, _, _, _, none⟩) (v := ?v9) rfl (by kernel_rfl) (by kernel_rfl) (by kernel_rfl) (fun _ _ _ h => h) (Or.inl ⟨by rfl, ?hy9⟩) (by assumption) ?rest9
      case hy9 => (intro wS hSw; (try dsimp only at hSw); go_simp; (try with_reducible rfl))
      (try simp only [Act.put, List.setIfInBounds_toArray, List.set_cons_zero, List.set_cons_succ])
      refine wpAnyH_take (i := 4) (oi := ⟨some 18, _, _, _, _, none⟩) (v := ?v10) rfl (by kernel_rfl) (by kernel_rfl) (by kernel_rfl) (fun _ _ _ h => h) (Or.inl ⟨by rfl, ?hy10⟩) (by assumption) ?rest10
      case hy10 => (intro wS hSw; (try dsimp only at hSw); go_simp; (try with_reducible rfl))
      (try simp only [Act.put, List.setIfInBounds_toArray, List.set_cons_zero, List.set_cons_succ])
      refine wpAnyH_ready (rs := [2]) (by kernel_rfl) (by simp) ?_
      refine AllReadyH.cons (o := ⟨some 16, _, _, _, _, none⟩) rfl (fun K hK => ?_) AllReadyH.nil
      go_simp
      go_at_call 9
      refine (E1.out _ Qd.out.sls Rd.out.sls).mono ?_
      rintro e w5 ⟨rfl, f5⟩
      have Q5 := Lib.hid (Qd.out.non f5)
      have HW5 := Lib.hid (HWd.out.non f5)
      have R5 := Lib.hid (Rd.out.non f5)
      clear g0 g1 g2 g3 g4 g5 g6 g7 g8 g9 g10 g11 g12 k0 k1 k2 k3 k4 k5 k6 k7 k8 k9 k10 k11 k12
      obtain ⟨g0, g1, g2, g3, g4, g5, g6, g7, g8, g9, g10, g11, g12⟩ := Q5.out.cells
      dsimp only [Pd.hd, Pd.kids] at g0 g1 g2 g3 g4 g5 g6 g7 g8 g9 g10 g11 g12
      obtain ⟨k0, k1, k2, k3, k4, k5, k6, k7, k8, k9, k10, k11, k12⟩ := R5.out.cells
      dsimp only [Pd.hd, Pd.kids] at k0 k1 k2 k3 k4 k5 k6 k7 k8 k9 k10 k11 k12
      go_wp2_with fail
      refine hK.out _ _ (by exact ⟨g0, g1, g2, g3, g4, g5, g6, g7, g8, g9, g10, g11, g12, k0, k1, k2, k3, k4, k5, k6, k7, k8, k9, k10, k11, k12⟩) (fun hHeld => ?_)
      clear hK K
      (try simp only [Act.put, List.setIfInBounds_toArray, List.set_cons_zero, List.set_cons_succ])
      refine wpAnyH_ready (rs := [5]) (by kernel_rfl) (by simp) ?_
      refine AllReadyH.cons (o := ⟨some 19, _, _, _, _, none⟩) rfl (fun K hK => ?_) AllReadyH.nil
      go_simp
      go_at_call 10
      refine (E2.out _ Q5.out.sls R5.out.sls).mono ?_
      rintro e w6 ⟨rfl, f6⟩
      have Q6 := Lib.hid (Q5.out.non f6)
      have HW6 := Lib.hid (HW5.out.non f6)
      have R6 := Lib.hid (R5.out.non f6)
      clear g0 g1 g2 g3 g4 g5 g6 g7 g8 g9 g10 g11 g12 k0 k1 k2 k3 k4 k5 k6 k7 k8 k9 k10 k11 k12
      obtain ⟨g0, g1, g2, g3, g4, g5, g6, g7, g8, g9, g10, g11, g12⟩ := Q6.out.cells
      dsimp only [Pd.hd, Pd.kids] at g0 g1 g2 g3 g4 g5 g6 g7 g8 g9 g10 g11 g12
      obtain ⟨k0, k1, k2, k3, k4, k5, k6, k7, k8, k9, k10, k11, k12⟩ := R6.out.cells
      dsimp only [Pd.hd, Pd.kids] at k0 k1 k2 k3 k4 k5 k6 k7 k8 k9 k10 k11 k12
      go_wp2_with fail
      refine hK.out _ _ (by exact ⟨g0, g1, g2, g3, g4, g5, g6, g7, g8, g9, g10, g11, g12, k0, k1, k2, k3, k4, k5, k6, k7, k8, k9, k10, k11, k12⟩) (fun hHeld => ?_)
      clear hK K
      (try simp only [Act.put, List.setIfInBounds_toArray, List.set_cons_zero, List.set_cons_succ])
      refine wpAnyH_take (i := 6) (oi := ⟨some 20, _, _, _, _, none⟩) (v := ?v11) rfl (by kernel_rfl) (by kernel_rfl) (by kernel_rfl) (fun _ _ _ h => h) (Or.inl ⟨by rfl, ?hy11⟩) (by assumption) ?rest11
      case hy11 => (intro wS hSw; (try dsimp only at hSw); go_simp; (try with_reducible rfl))
      (try simp only [Act.put, List.setIfInBounds_toArray, List.set_cons_zero, List.set_cons_succ])
      refine wpAnyH_take (i := 7) (oi := ⟨some 21, _, _, _, _, none⟩) (v := ?v12) rfl (by kernel_rfl) (by kernel_rfl) (by kernel_rfl) (fun _ _ _ h => h) (Or.inl ⟨by rfl, ?hy12⟩) (by assumption) ?rest12
      case hy12 => (intro wS hSw; (try dsimp only at hSw); go_simp; (try with_reducible rfl))
      (try simp only [Act.put, List.setIfInBounds_toArray, List.set_cons_zero, List.set_cons_succ])
      refine wpAnyH_take (i := 8) (oi := ⟨some 22, _, _, _, _, some (7, false)⟩) (v := ?v13) rfl (by kernel_rfl) (by kernel_rfl) (by kernel_rfl) (fun _ _ _ h => h) (Or.inl ⟨by rfl, ?hy13⟩) (by assumption) ?rest13
      case hy13 => (intro wS hSw; (try dsimp only at hSw); go_simp; (try with_reducible rfl))
      (try simp only [Act.put, List.setIfInBounds_toArray, List.set_cons_zero, List.set_cons_succ])
      refine wpAnyH_take (i := 9) (oi := ⟨some 23, _, _, _, _, some (7, false)⟩) (v := ?v14) rfl (by kernel_rfl) (by kernel_rfl) (by kernel_rfl) (fun _ _ _ h => h) (Or.inl ⟨by rfl, ?hy14⟩) (by assumption) ?rest14
      case hy14 => (intro wS hSw; (try dsimp only at hSw); go_simp; (try with_reducible rfl))
      (try simp only [Act.put, List.setIfInBounds_toArray, List.set_cons_zero, List.set_cons_succ])
      refine wpAnyH_ready (rs := [10]) (by kernel_rfl) (by simp) ?_
      refine AllReadyH.cons (o := ⟨some 24, _, _, _, _, some (7, false)⟩) rfl (fun K hK => ?_) AllReadyH.nil
      go_simp
      go_at_call 9
      refine (E3.out _ Q6.out.sls).mono ?_
      rintro e w7 ⟨rfl, f7⟩
      have Q7 := Lib.hid (Q6.out.non f7)
      have HW7 := Lib.hid (HW6.out.non f7)
      have R7 := Lib.hid (R6.out.non f7)
      clear g0 g1 g2 g3 g4 g5 g6 g7 g8 g9 g10 g11 g12 k0 k1 k2 k3 k4 k5 k6 k7 k8 k9 k10 k11 k12
      obtain ⟨g0, g1, g2, g3, g4, g5, g6, g7, g8, g9, g10, g11, g12⟩ := Q7.out.cells
      dsimp only [Pd.hd, Pd.kids] at g0 g1 g2 g3 g4 g5 g6 g7 g8 g9 g10 g11 g12
      obtain ⟨k0, k1, k2, k3, k4, k5, k6, k7, k8, k9, k10, k11, k12⟩ := R7.out.cells
      dsimp only [Pd.hd, Pd.kids] at k0 k1 k2 k3 k4 k5 k6 k7 k8 k9 k10 k11 k12
      go_wp2_with fail
      refine hK.out _ _ (by exact ⟨g0, g1, g2, g3, g4, g5, g6, g7, g8, g9, g10, g11, g12, k0, k1, k2, k3, k4, k5, k6, k7, k8, k9, k10, k11, k12⟩) (fun hHeld => ?_)
      clear hK K
      (try simp only [Act.put, List.setIfInBounds_toArray, List.set_cons_zero, List.set_cons_succ])
      refine wpAnyH_take (i := 11) (oi := ⟨some 25, _, _, _, _, some (7, false)⟩) (v := ?v15) rfl (by kernel_rfl) (by kernel_rfl) (by kernel_rfl) (fun _ _ _ h => h) (Or.inl ⟨by rfl, ?hy15⟩) (by assumption) ?rest15
      case hy15 => (intro wS hSw; (try dsimp only at hSw); go_simp; (try with_reducible rfl))
      (try simp only [Act.put, List.setIfInBounds_toArray, List.set_cons_zero, List.set_cons_succ])
      refine wpAnyH_take (i := 12) (oi := ⟨some 26, _, _, _, _, none⟩) (v := ?v16) rfl (by kernel_rfl) (by kernel_rfl) (by kernel_rfl) (fun _ _ _ h => h) (Or.inl ⟨by rfl, ?hy16⟩) (by assumption) ?rest16
      case hy16 => (intro wS hSw; (try dsimp only at hSw); go_simp; (try with_reducible rfl))
      (try simp only [Act.put, List.setIfInBounds_toArray, List.set_cons_zero, List.set_cons_succ])
      refine wpAnyH_done (by kernel_rfl) ?_ _
      go_wp2_with fail
      refine (M1.out _ Q7.out.sls).mono ?_
      rintro e w8 ⟨rfl, f8⟩
      have Q8 := Lib.hid (Q7.out.non f8)
      have HW8 := Lib.hid (HW7.out.non f8)
      have R8 := Lib.hid (R7.out.non f8)
      clear g0 g1 g2 g3 g4 g5 g6 g7 g8 g9 g10 g11 g12 k0 k1 k2 k3 k4 k5 k6 k7 k8 k9 k10 k11 k12
      obtain ⟨g0, g1, g2, g3, g4, g5, g6, g7, g8, g9, g10, g11, g12⟩ := Q8.out.cells
      dsimp only [Pd.hd, Pd.kids] at g0 g1 g2 g3 g4 g5 g6 g7 g8 g9 g10 g11 g12
      obtain ⟨k0, k1, k2, k3, k4, k5, k6, k7, k8, k9, k10, k11, k12⟩ := R8.out.cells
      dsimp only [Pd.hd, Pd.kids] at k0 k1 k2 k3 k4 k5 k6 k7 k8 k9 k10 k11 k12
      clear f8
      cases m1
      · clear T1 T2 M2 E1 E2 E3 HIN
        go_wp2_with fail
        refine (qlive_any _ HW8.out).mono ?_
        rintro e w9 ⟨rfl, f9⟩
        go_wp2
        go_ret
        exact ⟨rfl, (Q8.out.fr.trans f9).below⟩
      · go_wp2_with fail
        refine (M2.out _ R8.out.sls).mono ?_
        rintro e w9 ⟨rfl, f9⟩
        have Q9 := Lib.hid (Q8.out.non f9)
        have HW9 := Lib.hid (HW8.out.non f9)
        have R9 := Lib.hid (R8.out.non f9)
        clear g0 g1 g2 g3 g4 g5 g6 g7 g8 g9 g10 g11 g12 k0 k1 k2 k3 k4 k5 k6 k7 k8 k9 k10 k11 k12
        obtain ⟨g0, g1, g2, g3, g4, g5, g6, g7, g8, g9, g10, g11, g12⟩ := Q9.out.cells
        dsimp only [Pd.hd, Pd.kids] at g0 g1 g2 g3 g4 g5 g6 g7 g8 g9 g10 g11 g12
        obtain ⟨k0, k1, k2, k3, k4, k5, k6, k7, k8, k9, k10, k11, k12⟩ := R9.out.cells
        dsimp only [Pd.hd, Pd.kids] at k0 k1 k2 k3 k4 k5 k6 k7 k8 k9 k10 k11 k12
        clear f9
        cases m2
        · clear T1 T2 E1 E2 E3 HIN
          go_wp2_with fail
          refine (qlive_any _ HW9.out).mono ?_
          rintro e w9 ⟨rfl, f9⟩
          go_wp2
          go_ret
          exact ⟨rfl, (Q9.out.fr.trans f9).below⟩
        · have hin := HIN.out (by trivial) (by trivial)
          have hin2 : ((x1 == x2) == sb) = true := by rw [hin]; simp
          go_wp2
          have Qh := Lib.hid Q9.out.drew
          have Rh := Lib.hid R9.out.drew
          have HWh := Lib.hid (HW9.out.non (Fr.refl Non w9).drew)
          clear g0 g1 g2 g3 g4 g5 g6 g7 g8 g9 g10 g11 g12 k0 k1 k2 k3 k4 k5 k6 k7 k8 k9 k10 k11 k12
          obtain ⟨g0, g1, g2, g3, g4, g5, g6, g7, g8, g9, g10, g11, g12⟩ := Qh.out.cells
          dsimp only [Pd.hd, Pd.kids] at g0 g1 g2 g3 g4 g5 g6 g7 g8 g9 g10 g11 g12
          obtain ⟨k0, k1, k2, k3, k4, k5, k6, k7, k8, k9, k10, k11, k12⟩ := Rh.out.cells
          dsimp only [Pd.hd, Pd.kids] at k0 k1 k2 k3 k4 k5 k6 k7 k8 k9 k10 k11 k12
          refine wp_region_held_drew (S := (fun W' => W'.cell? ⟨W.heap.size, 0, none⟩ = some (.string ⟨tab.toArray⟩) ∧ W'.cell? ⟨W.heap.size, 1, none⟩ = some (.slice cA cols.length cc) ∧ W'.cell? ⟨W.heap.size, 2, none⟩ = some (.int .i64 wo) ∧ W'.cell? ⟨W.heap.size, 3, none⟩ = some (.string ⟨wc.toArray⟩) ∧ W'.cell? ⟨W.heap.size, 4, none⟩ = some (.int .i64 wm) ∧ W'.cell? ⟨W.heap.size, 5, none⟩ = some (.bool wn) ∧ W'.cell? ⟨W.heap.size, 6, none⟩ = some (.int .i64 wi) ∧ W'.cell? ⟨W.heap.size, 7, none⟩ = some (.string ⟨wt.toArray⟩) ∧ W'.cell? ⟨W.heap.size, 8, none⟩ = some (.int .i64 wk) ∧ W'.cell? ⟨W.heap.size, 9, none⟩ = some (.string ⟨wp.toArray⟩) ∧ W'.cell? ⟨W.heap.size, 10, none⟩ = some (.slice sA sn sc) ∧ W'.cell? ⟨W.heap.size, 11, none⟩ = some (.slice gA aggs.length gc) ∧ W'.cell? ⟨W.heap.size, 12, none⟩ = some (.string ⟨by_.toArray⟩) ∧ W'.cell? ⟨W.heap.size + 1, 0, none⟩ = some (.string ⟨tab2.toArray⟩) ∧ W'.cell? ⟨W.heap.size + 1, 1, none⟩ = some (.slice cA2 cols2.length cc2) ∧ W'.cell? ⟨W.heap.size + 1, 2, none⟩ = some (.int .i64 wo2) ∧ W'.cell? ⟨W.heap.size + 1, 3, none⟩ = some (.string ⟨wc2.toArray⟩) ∧ W'.cell? ⟨W.heap.size + 1, 4, none⟩ = some (.int .i64 wm2) ∧ W'.cell? ⟨W.heap.size + 1, 5, none⟩ = some (.bool wn2) ∧ W'.cell? ⟨W.heap.size + 1, 6, none⟩ = some (.int .i64 wi2) ∧ W'.cell? ⟨W.heap.size + 1, 7, none⟩ = some (.string ⟨wt2.toArray⟩) ∧ W'.cell? ⟨W.heap.size + 1, 8, none⟩ = some (.int .i64 wk2) ∧ W'.cell? ⟨W.heap.size + 1, 9, none⟩ = some (.string ⟨wp2.toArray⟩) ∧ W'.cell? ⟨W.heap.size + 1, 10, none⟩ = some (.slice sA2 sn2 sc2) ∧ W'.cell? ⟨W.heap.size + 1, 11, none⟩ = some (.slice gA2 aggs2.length gc2) ∧ W'.cell? ⟨W.heap.size + 1, 12, none⟩ = some (.string ⟨by2_.toArray⟩))) (by kernel_rfl) (by exact ⟨g0, g1, g2, g3, g4, g5, g6, g7, g8, g9, g10, g11, g12, k0, k1, k2, k3, k4, k5, k6, k7, k8, k9, k10, k11, k12⟩) (fun hHeld => ?_)
          refine wpAnyH_take (i := 0) (oi := ⟨some 36, _, _, _, _, none⟩) (v := ?v17) rfl (by kernel_rfl) (by kernel_rfl) (by kernel_rfl) (fun _ _ _ h => h) (Or.inl ⟨by rfl, ?hy17⟩) (by assumption) ?rest17
          case hy17 => (intro wS hSw; (try dsimp only at hSw); go_simp; (try with_reducible rfl))
          (try simp only [Act.put, List.setIfInBounds_toArray, List.set_cons_zero, List.set_cons_succ])
          refine wpAnyH_take (i := 2) (oi := ⟨some 38, _, _, _, _, none⟩) (v := ?v18) rfl (by kernel_rfl) (by kernel_rfl) (by kernel_rfl) (fun _ _ _ h => h) (Or.inl ⟨by rfl, ?hy18⟩) (by assumption) ?rest18
          case hy18 => (intro wS hSw; (try dsimp only at hSw); go_simp; (try with_reducible rfl))
          (try simp only [Act.put, List.setIfInBounds_toArray, List.set_cons_zero, List.set_cons_succ])
          refine wpAnyH_take (i := 5) (oi := ⟨some 41, _, _, _, _, none⟩) (v := ?v19) rfl (by kernel_rfl) (by kernel_rfl) (by kernel_rfl) (fun _ _ _ h => h) (Or.inl ⟨by rfl, ?hy19⟩) (by assumption) ?rest19
          case hy19 => (intro wS hSw; (try dsimp only at hSw); go_simp; (try with_reducible rfl))
          (try simp only [Act.put, List.setIfInBounds_toArray, List.set_cons_zero, List.set_cons_succ])
          refine wpAnyH_take (i := 6) (oi := ⟨some 42, _, _, _, _, none⟩) (v := ?v20) rfl (by kernel_rfl) (by kernel_rfl) (by kernel_rfl) (fun _ _ _ h => h) (Or.inl ⟨by rfl, ?hy20⟩) (by assumption) ?rest20
          case hy20 => (intro wS hSw; (try dsimp only at hSw); go_simp; (try with_reducible rfl))
          (try simp only [Act.put, List.setIfInBounds_toArray, List.set_cons_zero, List.set_cons_succ])
          refine wpAnyH_ready (rs := [1]) (by kernel_rfl) (by simp) ?_
          refine AllReadyH.cons (o := ⟨some 37, _, _, _, _, none⟩) rfl (fun K hK => ?_) AllReadyH.nil
          go_simp
          go_at_call 7
          refine (T1.out _ Qh.out.sls HWh.out).mono ?_
          rintro e w10 ⟨rfl, f10⟩
          have Q10 := Lib.hid (Qh.out.non f10)
          have HW10 := Lib.hid (HWh.out.non f10)
          have R10 := Lib.hid (Rh.out.non f10)
          clear g0 g1 g2 g3 g4 g5 g6 g7 g8 g9 g10 g11 g12 k0 k1 k2 k3 k4 k5 k6 k7 k8 k9 k10 k11 k12
          obtain ⟨g0, g1, g2, g3, g4, g5, g6, g7, g8, g9, g10, g11, g12⟩ := Q10.out.cells
          dsimp only [Pd.hd, Pd.kids] at g0 g1 g2 g3 g4 g5 g6 g7 g8 g9 g10 g11 g12
          obtain ⟨k0, k1, k2, k3, k4, k5, k6, k7, k8, k9, k10, k11, k12⟩ := R10.out.cells
          dsimp only [Pd.hd, Pd.kids] at k0 k1 k2 k3 k4 k5 k6 k7 k8 k9 k10 k11 k12
          go_wp2_with fail
          refine hK.out _ _ (by exact ⟨g0, g1, g2, g3, g4, g5, g6, g7, g8, g9, g10, g11, g12, k0, k1, k2, k3, k4, k5, k6, k7, k8, k9, k10, k11, k12⟩) (fun hHeld => ?_)
          clear hK K
          (try simp only [Act.put, List.setIfInBounds_toArray, List.set_cons_zero, List.set_cons_succ])
          refine wpAnyH_ready (rs := [3]) (by kernel_rfl) (by simp) ?_
          refine AllReadyH.cons (o := ⟨some 39, _, _, _, _, none⟩) rfl (fun K hK => ?_) AllReadyH.nil
          go_simp
          go_at_call 7
          refine (T2.out _ R10.out.sls HW10.out).mono ?_
          rintro e w11 ⟨rfl, f11⟩
          have Q11 := Lib.hid (Q10.out.non f11)
          have HW11 := Lib.hid (HW10.out.non f11)
          have R11 := Lib.hid (R10.out.non f11)
          clear g0 g1 g2 g3 g4 g5 g6 g7 g8 g9 g10 g11 g12 k0 k1 k2 k3 k4 k5 k6 k7 k8 k9 k10 k11 k12
          obtain ⟨g0, g1, g2, g3, g4, g5, g6, g7, g8, g9, g10, g11, g12⟩ := Q11.out.cells
          dsimp only [Pd.hd, Pd.kids] at g0 g1 g2 g3 g4 g5 g6 g7 g8 g9 g10 g11 g12
          obtain ⟨k0, k1, k2, k3, k4, k5, k6, k7, k8, k9, k10, k11, k12⟩ := R11.out.cells
          dsimp only [Pd.hd, Pd.kids] at k0 k1 k2 k3 k4 k5 k6 k7 k8 k9 k10 k11 k12
          go_wp2_with fail
          refine hK.out _ _ (by exact ⟨g0, g1, g2, g3, g4, g5, g6, g7, g8, g9, g10, g11, g12, k0, k1, k2, k3, k4, k5, k6, k7, k8, k9, k10, k11, k12⟩) (fun hHeld => ?_)
          clear hK K
          (try simp only [Act.put, List.setIfInBounds_toArray, List.set_cons_zero, List.set_cons_succ])
          refine wpAnyH_take (i := 4) (oi := ⟨some 40, _, _, _, _, none⟩) (v := ?v21) rfl (by kernel_rfl) (by kernel_rfl) (by kernel_rfl) (fun _ _ _ h => h) (Or.inl ⟨by rfl, ?hy21⟩) (by assumption) ?rest21
          case hy21 => (intro wS hSw; (try dsimp only at hSw); go_simp; (try with_reducible rfl))
          (try simp only [Act.put, List.setIfInBounds_toArray, List.set_cons_zero, List.set_cons_succ])
          refine wpAnyH_ready (rs := [7]) (by kernel_rfl) (by simp) ?_
          refine AllReadyH.cons (o := ⟨some 43, _, _, _, _, none⟩) rfl (fun K hK => ?_) AllReadyH.nil
          go_simp
          go_at_call 10
          refine (E2.out _ Q11.out.sls R11.out.sls).mono ?_
          rintro e w12 ⟨rfl, f12⟩
          have Q12 := Lib.hid (Q11.out.non f12)
          have HW12 := Lib.hid (HW11.out.non f12)
          have R12 := Lib.hid (R11.out.non f12)
          clear g0 g1 g2 g3 g4 g5 g6 g7 g8 g9 g10 g11 g12 k0 k1 k2 k3 k4 k5 k6 k7 k8 k9 k10 k11 k12
          obtain ⟨g0, g1, g2, g3, g4, g5, g6, g7, g8, g9, g10, g11, g12⟩ := Q12.out.cells
          dsimp only [Pd.hd, Pd.kids] at g0 g1 g2 g3 g4 g5 g6 g7 g8 g9 g10 g11 g12
          obtain ⟨k0, k1, k2, k3, k4, k5, k6, k7, k8, k9, k10, k11, k12⟩ := R12.out.cells
          dsimp only [Pd.hd, Pd.kids] at k0 k1 k2 k3 k4 k5 k6 k7 k8 k9 k10 k11 k12
          go_wp2_with fail
          refine hK.out _ _ (by exact ⟨g0, g1, g2, g3, g4, g5, g6, g7, g8, g9, g10, g11, g12, k0, k1, k2, k3, k4, k5, k6, k7, k8, k9, k10, k11, k12⟩) (fun hHeld => ?_)
          clear hK K
          (try simp only [Act.put, List.setIfInBounds_toArray, List.set_cons_zero, List.set_cons_succ])
          refine wpAnyH_take (i := 8) (oi := ⟨some 44, _, _, _, _, none⟩) (v := ?v22) rfl (by kernel_rfl) (by kernel_rfl) (by kernel_rfl) (fun _ _ _ h => h) (Or.inl ⟨by rfl, ?hy22⟩) (by assumption) ?rest22
          case hy22 => (intro wS hSw; (try dsimp only at hSw); go_simp; (try with_reducible rfl))
          (try simp only [Act.put, List.setIfInBounds_toArray, List.set_cons_zero, List.set_cons_succ])
          refine wpAnyH_take (i := 9) (oi := ⟨some 45, _, _, _, _, none⟩) (v := ?v23) rfl (by kernel_rfl) (by kernel_rfl) (by kernel_rfl) (fun _ _ _ h => h) (Or.inl ⟨by rfl, ?hy23⟩) (by assumption) ?rest23
          case hy23 => (intro wS hSw; (try dsimp only at hSw); go_simp; (try with_reducible rfl))
          (try simp only [Act.put, List.setIfInBounds_toArray, List.set_cons_zero, List.set_cons_succ])
          refine wpAnyH_ready (rs := [10]) (by kernel_rfl) (by simp) ?_
          refine AllReadyH.cons (o := ⟨some 46, _, _, _, _, some (9, true)⟩) rfl (fun K hK => ?_) AllReadyH.nil
          go_simp
          go_at_call 6
          refine (qlive_any _ HW12.out).mono ?_
          rintro e w13 ⟨rfl, f13⟩
          have Q13 := Lib.hid (Q12.out.non f13)
          have HW13 := Lib.hid (HW12.out.non f13)
          have R13 := Lib.hid (R12.out.non f13)
          clear g0 g1 g2 g3 g4 g5 g6 g7 g8 g9 g10 g11 g12 k0 k1 k2 k3 k4 k5 k6 k7 k8 k9 k10 k11 k12
          obtain ⟨g0, g1, g2, g3, g4, g5, g6, g7, g8, g9, g10, g11, g12⟩ := Q13.out.cells
          dsimp only [Pd.hd, Pd.kids] at g0 g1 g2 g3 g4 g5 g6 g7 g8 g9 g10 g11 g12
          obtain ⟨k0, k1, k2, k3, k4, k5, k6, k7, k8, k9, k10, k11, k12⟩ := R13.out.cells
          dsimp only [Pd.hd, Pd.kids] at k0 k1 k2 k3 k4 k5 k6 k7 k8 k9 k10 k11 k12
          go_wp2_with fail
          refine hK.out _ _ (by exact ⟨g0, g1, g2, g3, g4, g5, g6, g7, g8, g9, g10, g11, g12, k0, k1, k2, k3, k4, k5, k6, k7, k8, k9, k10, k11, k12⟩) (fun hHeld => ?_)
          clear hK K
          (try simp only [Act.put, List.setIfInBounds_toArray, List.set_cons_zero, List.set_cons_succ])
          refine wpAnyH_take (i := 11) (oi := ⟨some 47, _, _, _, _, none⟩) (v := ?v24) rfl (by kernel_rfl) (by kernel_rfl) (by kernel_rfl) (fun _ _ _ h => h) (Or.inl ⟨by rfl, ?hy24⟩) (by assumption) ?rest24
          case hy24 => (intro wS hSw; (try dsimp only at hSw); go_simp; (try with_reducible rfl))
          (try simp only [Act.put, List.setIfInBounds_toArray, List.set_cons_zero, List.set_cons_succ])
          refine wpAnyH_take (i := 12) (oi := ⟨some 4, _, _, _, _, none⟩) (v := ?v25) rfl (by kernel_rfl) (by kernel_rfl) (by kernel_rfl) (fun _ _ _ h => h) (Or.inl ⟨by rfl, ?hy25⟩) (by assumption) ?rest25
          case hy25 => (intro wS hSw; (try dsimp only at hSw); go_simp; (try with_reducible rfl))
          (try simp only [Act.put, List.setIfInBounds_toArray, List.set_cons_zero, List.set_cons_succ])
          refine wpAnyH_done (by kernel_rfl) ?_ _
          go_wp2
          go_ret
          exact ⟨rfl, Q13.out.fr.below⟩
end Go.Proofs.YtibopcceffncpaaDoor


namespace Go.Proofs.YtibopcceffncpaaDoor
set_option linter.unusedVariables false
set_option linter.unusedSimpArgs false
set_option maxRecDepth 100000
open Go.ChangeShapes Go.WideShapes Go.ChangeAt Go.RowKit

/-- a call's contract, by what the row says and by what the world's shape says -/
theorem handed_shaped {H : Type} {enc : TypeId × Value → H} {a : Assume} {C : Checked} {os : Os} {f : FuncId} {fn : Func} {s : ChangeSpec} {conds : List PathCond} {apart fresh handsOn again : Bool} {X : World → Array Value → Prop}
    (hX : ∀ (w w' : World) (args : Array Value), w.heap = w'.heap → X w args → X w' args)
    (own : ownKnob C.prog.godebug = none) (started : os.Started) (noInit : C.prog.inits.idxOf? f = none) (hfn : C.prog.funcs[f]? = some fn)
    (witness : ∃ (w : World) (tape : Tape) (i : Input), w.os = os ∧ (w.forCall tape i).Shaped C.prog ∧ i.vars = [] ∧ Input.okWide C.prog (w.forCall tape i) .any w.heap.size f i ∧
      ((s.pre enc C.prog fn conds apart (w.forCall tape i).memory i.args ∧ X (w.forCall tape i).memory i.args) ∧ sizedMet enc C.prog fn (OpenSpec.ofChange s) apart (w.forCall tape i).memory i.args) ∧ a.holds C.prog (lone (Frame.enter C.prog f i.args .normal) [] (w.forCall tape i)))
    (contract : ∀ (W : World) (base : Nat) (args : Array Value) (ds gs : List (DataW H)) (before : List MemPlace),
      (∀ (j : Nat) t v, fn.params[j]? = some t → args[j]? = some v → Value.okWide C.prog W .any base t v) →
      DataW.Whole enc C.prog fn.params.toList s.vars apart W args.toList ds gs before → W.ShapedOpen C.prog → X W args →
      Calls C.prog f args W fun e W' => ∃ v, e = .returned v ∧ s.post enc C.prog fn apart fresh handsOn again W args v W') :
    ReturnsInHanded a C os f .any (fun w args => (s.pre enc C.prog fn conds apart w args ∧ X w args) ∧ sizedMet enc C.prog fn (OpenSpec.ofChange s) apart w args) (s.post enc C.prog fn apart fresh handsOn again) := by
  refine returnsInHanded_of_calls own started noInit witness ?_
  intro w tape i _ hsh _ hok hpre hholds
  obtain ⟨_, _, _, fn', hfn', _, _, _, _, hval⟩ := hok
  obtain rfl : fn' = fn := Option.some.inj (hfn'.symm.trans hfn)
  obtain ⟨⟨⟨ds, gs, before, hw, _⟩, hx⟩, _⟩ := hpre
  refine (contract (w.forCall tape i) w.heap.size i.args ds gs before hval (DataW.Whole.of_heap (w' := w.forCall tape i) (by rfl) hw) hsh (hX _ _ _ (by rfl) hx)).mono fun e W' ⟨v, he, hp⟩ => ?_
  subst he
  exact ChangeSpec.post_blind hp

end Go.Proofs.YtibopcceffncpaaDoor


namespace Go.Proofs.YtibopcceffncpaaDoor
set_option linter.unusedVariables false
set_option linter.unusedSimpArgs false
set_option maxRecDepth 100000
open Go.Joins Go.ChangeShapes Go.WideShapes Go.ChangeAt Go.RowKit Go.Deep

/-- a cell within its fields' ranges -/
structure ClWf (c : Cl) : Prop where
  lo : -9223372036854775808 ≤ c.num
  hi : c.num ≤ 9223372036854775807
  len : c.txt.length ≤ 9223372036854775807
end Go.Proofs.YtibopcceffncpaaDoor


namespace Go.Proofs.YtibopcceffncpaaDoor
set_option linter.unusedVariables false
set_option linter.unusedSimpArgs false
set_option maxRecDepth 100000
open Go.RowKit

/-- a cell's three values, and those of many -/
def clL (c : Cl) : List Value := [.bool c.null, .int .i64 c.num, .string ⟨c.txt.toArray⟩]
def clsL (l : List Cl) : List Value := l.flatMap clL
theorem clsL_cons (c : Cl) (l : List Cl) : clsL (c :: l) = clL c ++ clsL l := by simp [clsL]
theorem clsL_at (l : List Cl) (j : Nat) (i : Nat) (hj : j < l.length) (hi : i < 3) : (clsL l)[j * 3 + i]? = (clL l[j])[i]? := by
  induction l generalizing j with
  | nil => cases hj
  | cons c l ih =>
    rw [clsL_cons]
    cases j with
    | zero => rw [List.getElem?_append_left (by simp [clL]; omega)]; simp
    | succ j =>
      rw [List.getElem?_append_right (by simp [clL]; omega)]
      rw [show (j + 1) * 3 + i - (clL c).length = j * 3 + i by simp [clL]; omega]
      exact ih j (by simpa using hj)
/-- three cells, one behind the other, that hold c -/
structure At3 (w : World) (a : Addr) (c : Cl) : Prop where
  c0 : w.cell? a = some (.bool c.null)
  c1 : w.cell? (a.add 1) = some (.int .i64 c.num)
  c2 : w.cell? (a.add 2) = some (.string ⟨c.txt.toArray⟩)

/-- the slice v reads as the cells l -/
def Cs (w : World) (v : Value) (l : List Cl) : Prop :=
  ∃ A c, v = .slice A l.length c ∧ l.length ≤ c ∧ (A = none → c = 0) ∧ ∀ a, A = some a → ∀ j (h : j < l.length), At3 w (a.add (j * 3)) l[j]
/-- a row of the call's own, from block B on -/
def Oc (w : World) (B : Nat) (v : Value) (l : List Cl) : Prop := w.ownsRow B 24 3 v l.length (clsL l)

theorem At3.keep {w w' : World} {a : Addr} {c : Cl} (h : At3 w a c) (hk : w'.heap[a.block]? = w.heap[a.block]?) : At3 w' a c := by
  obtain ⟨h0, h1, h2⟩ := h
  exact ⟨by rw [← h0]; exact World.cell?_of_block hk, by rw [← h1]; exact World.cell?_of_block (by rw [add_block]; exact hk), by rw [← h2]; exact World.cell?_of_block (by rw [add_block]; exact hk)⟩

theorem Cs.nil_ (w : World) : Cs w (.slice none 0 0) [] := ⟨none, 0, rfl, Nat.le_refl _, fun _ => rfl, fun _ h => by cases h⟩
theorem Cs.keep {w w' : World} {v : Value} {l : List Cl} (h : Cs w v l) (hk : ∀ k, v.ownBlock = some k → k < w.heap.size → w'.heap[k]? = w.heap[k]?) : Cs w' v l := by
  obtain ⟨A, c, rfl, h1, h2, h3⟩ := h
  refine ⟨A, c, rfl, h1, h2, fun a ha j hj => ?_⟩
  have := h3 a ha j hj
  subst ha
  have hb := World.block_lt_of_cell? w _ this.c0
  refine this.keep ?_
  rw [add_block] at hb ⊢
  exact hk _ rfl hb
theorem Cs.fr {S : Nat → Prop} {w w' : World} {v : Value} {l : List Cl} (h : Cs w v l) (hf : Fr S w w') (hn : ∀ k, v.ownBlock = some k → ¬ S k) : Cs w' v l :=
  h.keep fun k hk hlt => hf.block k hlt (hn k hk)
theorem Cs.non {w w' : World} {v : Value} {l : List Cl} (h : Cs w v l) (hf : Fr Non w w') : Cs w' v l := h.fr hf fun _ _ e => e
theorem Cs.drew {w : World} {v : Value} {l : List Cl} (h : Cs w v l) : Cs w.drew v l := h.keep fun _ _ _ => rfl
theorem Cs.shape {w : World} {v : Value} {l : List Cl} (h : Cs w v l) : ∃ A c, v = .slice A l.length c := by
  obtain ⟨A, c, rfl, _⟩ := h; exact ⟨A, c, rfl⟩
theorem Cs.addr {w : World} {A : Option Addr} {n c : Nat} {l : List Cl} (h : Cs w (.slice A n c) l) (hl : 0 < n) : ∃ a, A = some a ∧ n = l.length ∧ n ≤ c ∧ ∀ j (h : j < l.length), At3 w (a.add (j * 3)) l[j] := by
  obtain ⟨A0, c0, he, h1, h2, h3⟩ := h
  simp only [Value.slice.injEq] at he
  obtain ⟨rfl, rfl, rfl⟩ := he
  cases A with
  | none => have := h2 rfl; omega
  | some a => exact ⟨a, rfl, rfl, h1, h3 a rfl⟩
/-- what a walk asks of the element at j -/
theorem Cs.el {w : World} {a : Addr} {n c : Nat} {l : List Cl} (h : Cs w (.slice (some a) n c) l) (j : Nat) (x : Cl) (hx : l[j]? = some x) :
    w.cell? (a.add (j * 3)) = some (.bool x.null) ∧ w.cell? ((a.add (j * 3)).add 1) = some (.int .i64 x.num) ∧ w.cell? ((a.add (j * 3)).add 2) = some (.string ⟨x.txt.toArray⟩) := by
  obtain ⟨A0, c0, he, h1, h2, h3⟩ := h
  simp only [Value.slice.injEq] at he
  obtain ⟨rfl, rfl, rfl⟩ := he
  obtain ⟨hj, rfl⟩ := List.getElem?_eq_some_iff.1 hx
  have := h3 a rfl j hj
  exact ⟨this.c0, this.c1, this.c2⟩

/-- as a walk spells them -/
theorem At3.lit {w : World} {a : Addr} {c : Cl} (h : At3 w a c) : w.cell? a = some (.bool c.null) ∧ w.cell? { block := a.block, off := a.off + 1 } = some (.int .i64 c.num) ∧ w.cell? { block := a.block, off := a.off + 2 } = some (.string ⟨c.txt.toArray⟩) := ⟨h.c0, h.c1, h.c2⟩
theorem Oc.lt {w : World} {B : Nat} {v : Value} {l : List Cl} (h : Oc w B v l) : ∀ k, v.ownBlock = some k → B ≤ k ∧ k < w.heap.size := World.ownsRow.lt h
theorem Oc.cs {w : World} {B : Nat} {v : Value} {l : List Cl} (h : Oc w B v l) : Cs w v l := by
  rcases h.2 with ⟨rfl, h0⟩ | ⟨g, cap, cur, rfl, _, _, hle, _, _, _⟩
  · have hl : l = [] := List.eq_nil_of_length_eq_zero h0
    subst hl; exact Cs.nil_ w
  · refine ⟨_, cap, rfl, hle, (fun h => by cases h), fun a ha j hj => ?_⟩
    cases ha
    have H := fun i hi => World.ownsRow.cells h (g := g) rfl (j * 3 + i) _ ((clsL_at l j i hj hi).trans (List.getElem?_eq_getElem (by simp [clL]; omega)))
    refine ⟨?_, ?_, ?_⟩
    · have := H 0 (by omega); simpa [clL] using this
    · rw [add_add]; have := H 1 (by omega); simpa [clL] using this
    · rw [add_add]; have := H 2 (by omega); simpa [clL] using this
theorem Oc.shape {w : World} {B : Nat} {v : Value} {l : List Cl} (h : Oc w B v l) : ∃ A c, v = .slice A l.length c := h.cs.shape
theorem Oc.keep {w w' : World} {B : Nat} {v : Value} {l : List Cl} (h : Oc w B v l) (hk : ∀ k, v.ownBlock = some k → w'.heap[k]? = w.heap[k]?) : Oc w' B v l := by
  refine ⟨h.1, ?_⟩
  rcases h.2 with h2 | ⟨g, cap, cur, hv, hb, hg, r⟩
  · exact .inl h2
  · exact .inr ⟨g, cap, cur, hv, hb, by rw [hk g (by rw [hv]; rfl)]; exact hg, r⟩
theorem Oc.fr {S : Nat → Prop} {w w' : World} {B : Nat} {v : Value} {l : List Cl} (h : Oc w B v l) (hf : Fr S w w') (hn : ∀ k, v.ownBlock = some k → ¬ S k) : Oc w' B v l :=
  h.keep fun k hk => hf.block k (h.lt k hk).2 (hn k hk)
theorem Oc.non {w w' : World} {B : Nat} {v : Value} {l : List Cl} (h : Oc w B v l) (hf : Fr Non w w') : Oc w' B v l := h.fr hf fun _ _ e => e
theorem Oc.alloc {w : World} {B : Nat} {v : Value} {l : List Cl} (h : Oc w B v l) (o : Obj) : Oc (w.alloc o) B v l := h.non ((Fr.refl _ _).alloc o)
theorem Oc.drew {w : World} {B : Nat} {v : Value} {l : List Cl} (h : Oc w B v l) : Oc w.drew B v l := h
theorem Oc.mono {w : World} {B B' : Nat} {v : Value} {l : List Cl} (h : Oc w B v l) (hB : B' ≤ B) : Oc w B' v l := by
  refine ⟨h.1, ?_⟩
  rcases h.2 with h2 | ⟨g, cap, cur, hv, hb, r⟩
  · exact .inl h2
  · exact .inr ⟨g, cap, cur, hv, by omega, r⟩
theorem Oc.kind {w : World} {B : Nat} {v : Value} {l : List Cl} (h : Oc w B v l) : ∀ k, v.ownBlock = some k → ∃ cur, w.heap[k]? = some (.cells cur 24 (0, 0)) := by
  intro k hk
  rcases h.2 with ⟨rfl, _⟩ | ⟨g, cap, cur, rfl, _, hg, _⟩
  · cases hk
  · obtain rfl : g = k := by simpa [Value.ownBlock] using hk
    exact ⟨cur, hg⟩
theorem Oc.row {w : World} {B : Nat} {v : Value} {l : List Cl} (h : Oc w B v l) (hn : 0 < l.length) : ∃ g cap, v = .slice (some ⟨g, 0, none⟩) l.length cap ∧ B ≤ g ∧ g < w.heap.size ∧ l.length ≤ cap ∧ cap ≤ maxLen := by
  rcases h.2 with ⟨rfl, h0⟩ | ⟨g, cap, cur, rfl, hb, hg, hle, hm, _⟩
  · omega
  · exact ⟨g, cap, rfl, hb, (Array.getElem?_eq_some_iff.1 hg).1, hle, hm⟩
/-- what a walk asks of a row's element at j -/
theorem Oc.el {w : World} {B g n cap : Nat} {l : List Cl} (h : Oc w B (.slice (some ⟨g, 0, none⟩) n cap) l) (hn : n = l.length) (j : Nat) (x : Cl) (hx : l[j]? = some x) :
    w.cell? ⟨g, j * 3, none⟩ = some (.bool x.null) ∧ w.cell? ⟨g, j * 3 + 1, none⟩ = some (.int .i64 x.num) ∧ w.cell? ⟨g, j * 3 + 2, none⟩ = some (.string ⟨x.txt.toArray⟩) := by
  subst hn
  obtain ⟨hj, rfl⟩ := List.getElem?_eq_some_iff.1 hx
  refine ⟨?_, ?_, ?_⟩
  · rw [World.ownsRow.cellAt h (j * 3) (by omega)]; have := clsL_at l j 0 hj (by omega); simpa [clL] using this
  · rw [World.ownsRow.cellAt h (j * 3 + 1) (by omega)]; have := clsL_at l j 1 hj (by omega); simpa [clL] using this
  · rw [World.ownsRow.cellAt h (j * 3 + 2) (by omega)]; have := clsL_at l j 2 hj (by omega); simpa [clL] using this
theorem Oc.frozen {w : World} {B g n cap : Nat} {l : List Cl} (h : Oc w B (.slice (some ⟨g, 0, none⟩) n cap) l) (hn : n = l.length) (j : Nat) : w.frozen? ⟨g, j, none⟩ = false := by
  subst hn; exact World.ownsRow.frozenAt h j
/-! ### Steps -/
end Go.Proofs.YtibopcceffncpaaDoor


namespace Go.Proofs.YtibopcceffncpaaDoor
set_option linter.unusedVariables false
set_option linter.unusedSimpArgs false
set_option maxRecDepth 100000
open Go.Joins Go.ChangeShapes Go.WideShapes Go.ChangeAt Go.RowKit Go.Deep

theorem cof_bool : Tryd.prog.cellsOf 4 = 1 := by kernel_rfl
theorem cof_i64 : Tryd.prog.cellsOf 2 = 1 := by kernel_rfl
theorem cof_int : Tryd.prog.cellsOf 3 = 1 := by kernel_rfl
theorem cof_str : Tryd.prog.cellsOf 9 = 1 := by kernel_rfl
theorem cof_cl : Tryd.prog.cellsOf 24 = 3 := by kernel_rfl
/-- three cells that are read as a cell -/
theorem cl_cells {H : Type} {enc : TypeId × Value → H} {W : World} {n : Nat} {x : DataW H × List MemPlace} {c2 c3 c4 : Value}
    (h : DataW.trod enc Tryd.prog W 0 (fun _ => true) true n 24 [c2, c3, c4] = some x) : ∃ c : Cl, c2 = .bool c.null ∧ c3 = .int .i64 c.num ∧ c4 = .string ⟨c.txt.toArray⟩ ∧ ClWf c := by
  obtain ⟨y0, y1, y2, m, rfl, _, h0, h1, h2⟩ := trod_struct3 Tryd.underlying24 h
  simp only [cof_bool, cof_i64, cof_str, List.drop_zero, List.drop_succ_cons, List.take_succ_cons, List.take_zero] at h0 h1 h2
  obtain ⟨b, e0, _⟩ := DataW.trod_bool Tryd.underlying4 h0
  obtain rfl := (List.cons.inj e0).1
  obtain ⟨i, e1, _, hi⟩ := DataW.trod_int Tryd.underlying2 h1
  obtain rfl := (List.cons.inj e1).1
  obtain ⟨s, e2, _, hs⟩ := DataW.trod_string Tryd.underlying9 h2
  obtain rfl := (List.cons.inj e2).1
  have hb := wf_i64_bd hi
  exact ⟨⟨b, i, s.data.toList⟩, rfl, rfl, by simp, ⟨hb.1, hb.2, by simpa [maxLen] using hs⟩⟩
end Go.Proofs.YtibopcceffncpaaDoor
