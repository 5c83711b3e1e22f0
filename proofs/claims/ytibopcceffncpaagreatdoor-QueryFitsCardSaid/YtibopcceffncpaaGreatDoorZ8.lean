/-
  Joined: Layer 18: which queries there may be, the program's: which columns a query fits, the document's. · Layer 18: which queries there may be, the program's: what stands above the answer, the document's. · Layer 17: the columns of a predicate, the document's. · Layer 18: which queries there may be, the program's: which columns a query needs, the document's. · Layer 17: the page's example. · Layer 18: which queries there may be, the program's: the example; small queries.
-/
import Derived.Lib.Zigzag
import Derived.Lib.DecodeN
import Derived.Laws.RangeAny
import Derived.Laws.Cover4
import Derived.Laws.Cover1
import Derived.Deep.QuietTactic
import Derived.BigQuiet
import Derived.Deep.RegionHeld3
import Derived.Deep.DrawnRows
import Derived.Lib.SmallJoins
import Derived.Lib.AppendIntMem
import Derived.Laws.StructEq
import Derived.Laws.Rows
import Derived.Laws.ResultCell
import Derived.Deep.RegionWith
import Derived.Test.YtibopcceffncpaaGreatDoorZ4
import Derived.Test.YtibopcceffncpaaGreatDoorZ6
import Derived.Test.YtibopcceffncpaaGreatDoorZ7
import Derived.Test.YtibopcceffncpaaGreatDoorZ3

namespace Go.Proofs.YtibopcceffncpaaGreatDoor
set_option linter.unusedVariables false
set_option linter.unusedSimpArgs false
set_option maxRecDepth 100000
open Go.RowKit

theorem find_int (cs : List Co) (n : Tx) : (hasC cs n = false ∧ findI (findC cs n) = -1 ∧ findC cs n = none) ∨ ∃ k : Nat, findC cs n = some k ∧ hasC cs n = true ∧ findI (findC cs n) = (k : Int) := by
  unfold hasC
  cases hf : findC cs n with
  | none => exact .inl ⟨rfl, rfl, rfl⟩
  | some k => exact .inr ⟨k, rfl, rfl, rfl⟩
theorem agT_one {cs : List Co} {a : Ag} (h : a.op = 1) : agT cs a = true := by unfold agT; rw [decide_eq_true h]; rfl
theorem agT_none {cs : List Co} {a : Ag} (h : ¬ a.op = 1) (hf : findC cs a.col = none) : agT cs a = false := by unfold agT; rw [decide_eq_false h, hf]; rfl
theorem agT_some {cs : List Co} {a : Ag} {k : Nat} (h : ¬ a.op = 1) (hf : findC cs a.col = some k) (hk : k < cs.length) : agT cs a = (!decide (a.op = 3) || decide (cs[k].ty = 1)) := by
  unfold agT
  rw [decide_eq_false h, hf]
  simp only [Bool.false_or]
  rw [List.getElem?_eq_getElem hk]
set_option maxHeartbeats 4000000 in
theorem rqfits_any (v : Value) (cs : List Co) (q : Qy) (c : Value) (s : Kv) (g : Value) (w : World) (hv : Ks w v cs) (hcl : cs.length ≤ 1000) (hcb : ∀ c ∈ cs, c.name.length ≤ 1000) (hq : QyS w q c s g) (hs : SmQ q) :
    Calls Tryz.prog 11 #[v, qyV q c s g] w fun e w' => e = .returned (.int .i64 (fitQ cs q)) ∧ Fr Non w w' := by
  have Q0 := Lib.hid (Qin.new hq)
  have HV := Lib.hid hv
  have M1 := Lib.hid (fun W (h : QyS W q c s g) => rqmay_any q c s g W h hs)
  have C1 := Lib.hid (fun W (hf : Fr Non w W) => rcheck_any v cs W (hv.non hf) (by omega) (fun c hc => by have := hcb c hc; omega))
  have P1 := Lib.hid (fun W (hf : Fr Non w W) (h : QyS W q c s g) => rfits_any cs hcl hcb v q.whr.hd s q.whr.kids W (hv.non hf) h.kids (by rw [← Pd.eta]; exact hs.lens))
  rw [← Pd.eta] at P1
  have F := Lib.hid (fun (n : Tx) W (hf : Fr Non w W) => rfind_any v cs n W (hv.non hf) (by omega))
  have HE0 : Hid (fitQ cs q = if mayQ q = false ∨ ¬ chkC cs = 0 then 1 else if typP cs q.whr = true ∧ suitQ cs q = true then 0 else 10) := Lib.hid rfl
  have HSD : Hid (mayQ q = true → suitQ cs q = ((decide (q.by_ = []) || hasC cs q.by_) && (q.cols.all (hasC cs) && q.aggs.all (agT cs)))) := Lib.hid (fun e => suit_doc cs q e)
  have HP : Hid (mayQ q = true → chkC cs = 0 → fitP cs q.whr = if typP cs q.whr = true then 0 else 10) := Lib.hid (fun e e2 => by
    unfold fitP
    rw [if_neg (by rw [(may_parts e).2, e2]; simp)])
  have hlc := hs.cols
  have hlg := hs.aggs
  generalize fitQ cs q = r at *
  generalize mayQ q = bm at *
  generalize suitQ cs q = bs at *
  generalize typP cs q.whr = bt at *
  generalize fitP cs q.whr = fp at *
  generalize chkC cs = z at *
  unfold pdV pdC at P1
  clear hs
  obtain ⟨cA, cc, hce⟩ := hq.cols.shape
  obtain ⟨gA, gc, hge⟩ := hq.aggs.shape
  clear hq
  obtain ⟨tab, cols, ⟨⟨wo, wc, wm, ⟨wn, wi, wt⟩, wk, wp⟩, wks⟩, aggs, by_⟩ := q
  obtain ⟨sA, sn, sc⟩ := s
  obtain ⟨vA, vc, hve⟩ := hv.shape
  dsimp only at hce hge
  subst hce
  subst hge
  subst hve
  unfold qyV qyC kidV at *
  dsimp only [Pd.hd, Pd.kids] at *
  clear hv
  go_enter Tryz.func11, Tryz.ntmps11
  go_wp2_with fail
  refine (M1.out _ Q0.out.sls).mono ?_
  rintro e w1 ⟨rfl, f1⟩
  have Q1 := Lib.hid (Q0.out.non f1)
  clear f1
  cases bm
  · have HE : Hid (r = 1) := Lib.hid (by rw [HE0.out, if_pos (.inl rfl)])
    clear HE0 HP HSD
    go_wp2
    go_ret
    exact ⟨ret_int HE.out.symm, Q1.out.fr⟩
  · go_wp2_with fail
    refine (C1.out _ Q1.out.fr).mono ?_
    rintro e w2 ⟨rfl, f2⟩
    have Q2 := Lib.hid (Q1.out.non f2)
    clear f2
    obtain ⟨g0, g1, g2, g3, g4, g5, g6, g7, g8, g9, g10, g11, g12⟩ := Q2.out.cells
    dsimp only [Pd.hd, Pd.kids] at g0 g1 g2 g3 g4 g5 g6 g7 g8 g9 g10 g11 g12
    by_cases hz : z = 0
    · have HP2 := Lib.hid (HP.out (by trivial) hz)
      have HS2 := Lib.hid (HSD.out (by trivial))
      have HE2 : Hid (r = if bt = true ∧ bs = true then 0 else 10) := Lib.hid (by rw [HE0.out, if_neg (by rw [hz]; simp)])
      clear HE0 HP HSD
      subst hz
      go_wp2_with fail
      refine (P1.out _ Q2.out.fr Q2.out.sls).mono ?_
      rintro e w3 ⟨rfl, f3⟩
      have Q3 := Lib.hid (Q2.out.non f3)
      clear f3
      clear g0 g1 g2 g3 g4 g5 g6 g7 g8 g9 g10 g11 g12
      obtain ⟨g0, g1, g2, g3, g4, g5, g6, g7, g8, g9, g10, g11, g12⟩ := Q3.out.cells
      dsimp only [Pd.hd, Pd.kids] at g0 g1 g2 g3 g4 g5 g6 g7 g8 g9 g10 g11 g12
      cases bt
      · have hfp : fp = 10 := by rw [HP2.out]; rfl
        have HE : Hid (r = 10) := Lib.hid (by rw [HE2.out]; simp)
        clear HE2 HP2 HS2
        subst hfp
        go_wp2
        go_ret
        exact ⟨ret_int HE.out.symm, Q3.out.fr⟩
      · have hfp : fp = 0 := by rw [HP2.out]; rfl
        have HR0 : Hid (r = if ((decide (by_ = []) || hasC cs by_) && (cols.all (hasC cs) && aggs.all (agT cs))) = true then 0 else 10) := Lib.hid (by rw [HE2.out, HS2.out]; simp)
        clear HP2 HE2 HS2
        subst hfp
        by_cases hb : by_ = []
        · have HR : Hid (r = if (cols.all (hasC cs) && aggs.all (agT cs)) = true then 0 else 10) := Lib.hid (by rw [HR0.out, decide_eq_true hb, Bool.true_or, Bool.true_and])
          clear HR0
          subst hb
          go_wp2
          clear g0 g1 g2 g3 g4 g5 g6 g7 g8 g9 g10 g11 g12
          go_loopw [5] (fun i wr => ∃ k : Nat, k ≤ cols.length ∧ i = .int .i64 k ∧ Hid ((cols.take k).all (hasC cs) = true) ∧ Hid (Qin w w.heap.size ⟨tab, cols, ⟨⟨wo, wc, wm, ⟨wn, wi, wt⟩, wk, wp⟩, wks⟩, aggs, []⟩ (.slice cA cols.length cc) ⟨sA, sn, sc⟩ (.slice gA aggs.length gc) wr)) (fun i _ => cols.length - (intOf i).toNat)
          case atStart => exact ⟨0, Nat.zero_le _, rfl, Lib.hid rfl, Q3⟩
          case round =>
            obtain ⟨k, hk, rfl, HT, QR⟩ := hrel
            obtain ⟨g0, g1, g2, g3, g4, g5, g6, g7, g8, g9, g10, g11, g12⟩ := QR.out.cells
            dsimp only [Pd.hd, Pd.kids] at g0 g1 g2 g3 g4 g5 g6 g7 g8 g9 g10 g11 g12
            by_cases hlt : k < cols.length
            · obtain ⟨a, rfl, _, _, hel⟩ := QR.out.sls.cols.addr (show 0 < cols.length by omega)
              have c0 := hel k hlt
              unfold sv at c0
              have HX : Hid (hasC cs cols[k] = false → r = 10) := Lib.hid (fun e => by rw [HR.out, all_badG hlt e]; simp)
              have HY : Hid (hasC cs cols[k] = true → (cols.take (k + 1)).all (hasC cs) = true) := Lib.hid (fun e => all_moreG hlt HT.out e)
              have FK := Lib.hid (F.out cols[k])
              clear HT hel
              try dsimp only at c0
              generalize cols[k] = y at *
              rcases find_int cs y with ⟨h1, h2, -⟩ | ⟨k0, -, h1, h2⟩
              · rw [h2] at FK
                have HE := Lib.hid (HX.out h1)
                clear HX HY h1 h2
                go_wp2_with fail
                refine (FK.out _ QR.out.fr).mono ?_
                rintro e w6 ⟨rfl, f6⟩
                go_wp2
                go_ret
                exact ⟨ret_int HE.out.symm, QR.out.fr.trans f6⟩
              · rw [h2] at FK
                have HE := Lib.hid (HY.out h1)
                clear HX HY h1 h2
                go_wp2_with fail
                refine (FK.out _ QR.out.fr).mono ?_
                rintro e w6 ⟨rfl, f6⟩
                have Q6 := Lib.hid (QR.out.non f6)
                clear f6
                go_wp2
                go_roundw
                case rel => exact ⟨k + 1, by omega, by go_num, HE, Q6⟩
                case measure => simp [intOf]; omega
            · have HR2 : Hid (r = if aggs.all (agT cs) = true then 0 else 10) := Lib.hid (by rw [HR.out, all_endG (by omega) HT.out]; simp)
              clear HR HT
              rename World => W1
              go_wp2
              clear g0 g1 g2 g3 g4 g5 g6 g7 g8 g9 g10 g11 g12
              go_loopw [6] (fun i wr => ∃ k : Nat, k ≤ aggs.length ∧ i = .int .i64 k ∧ Hid ((aggs.take k).all (agT cs) = true) ∧ Hid (Qin w w.heap.size ⟨tab, cols, ⟨⟨wo, wc, wm, ⟨wn, wi, wt⟩, wk, wp⟩, wks⟩, aggs, []⟩ (.slice cA cols.length cc) ⟨sA, sn, sc⟩ (.slice gA aggs.length gc) wr)) (fun i _ => aggs.length - (intOf i).toNat)
              case atStart => exact ⟨0, Nat.zero_le _, rfl, Lib.hid rfl, QR⟩
              case round =>
                clear QR
                obtain ⟨m, hm, rfl, HT, QR⟩ := hrel
                obtain ⟨g0, g1, g2, g3, g4, g5, g6, g7, g8, g9, g10, g11, g12⟩ := QR.out.cells
                dsimp only [Pd.hd, Pd.kids] at g0 g1 g2 g3 g4 g5 g6 g7 g8 g9 g10 g11 g12
                by_cases hlt2 : m < aggs.length
                · obtain ⟨a, rfl, _, d0, d1⟩ := Ns.gat QR.out.sls.aggs m hlt2
                  have HX : Hid (agT cs aggs[m] = false → r = 10) := Lib.hid (fun e => by rw [HR2.out, all_badG hlt2 e]; simp)
                  have HY : Hid (agT cs aggs[m] = true → (aggs.take (m + 1)).all (agT cs) = true) := Lib.hid (fun e => all_moreG hlt2 HT.out e)
                  have HAGS := Lib.hid QR.out.sls.aggs
                  clear HT
                  try dsimp only at d0 d1
                  generalize hx : aggs[m] = x at *
                  have HXE := Lib.hid hx
                  clear hx
                  obtain ⟨xo, xn⟩ := x
                  dsimp only at d0 d1 HX HY
                  have FK := Lib.hid (F.out xn)
                  have again : Hid (∀ W2, Fr Non wr W2 → W2.cell? (a.add (m * 2)) = some (.int .i64 xo)) := Lib.hid (fun W2 hf => by
                    obtain ⟨a2, ha2, _, e0, _⟩ := Ns.gat (HAGS.out.non hf) m hlt2
                    obtain rfl := Option.some.inj ha2
                    rw [HXE.out] at e0
                    exact e0)
                  clear HAGS HXE
                  rcases find_int cs xn with ⟨h1, h2, h3⟩ | ⟨k0, h3, h1, h2⟩
                  · rw [h2] at FK
                    by_cases ho : xo = 1
                    · have HE := Lib.hid (HY.out (agT_one ho))
                      clear HX HY h1 h2 h3
                      subst ho
                      go_wp2_with fail
                      refine (FK.out _ QR.out.fr).mono ?_
                      rintro e w6 ⟨rfl, f6⟩
                      have Q6 := Lib.hid (QR.out.non f6)
                      have d2 := again.out _ f6
                      clear f6 d0 d1
                      clear g0 g1 g2 g3 g4 g5 g6 g7 g8 g9 g10 g11 g12
                      obtain ⟨g0, g1, g2, g3, g4, g5, g6, g7, g8, g9, g10, g11, g12⟩ := Q6.out.cells
                      dsimp only [Pd.hd, Pd.kids] at g0 g1 g2 g3 g4 g5 g6 g7 g8 g9 g10 g11 g12
                      go_wp2
                      go_roundw
                      case rel => exact ⟨m + 1, by omega, by go_num, HE, Q6⟩
                      case measure => simp [intOf]; omega
                    · have HE := Lib.hid (HX.out (agT_none ho h3))
                      have hob : (xo != 1) = true := by rw [bne_iff_ne]; exact ho
                      clear HX HY h1 h2 h3 ho
                      go_wp2_with fail
                      refine (FK.out _ QR.out.fr).mono ?_
                      rintro e w6 ⟨rfl, f6⟩
                      have Q6 := Lib.hid (QR.out.non f6)
                      have d2 := again.out _ f6
                      clear f6 d0 d1
                      clear g0 g1 g2 g3 g4 g5 g6 g7 g8 g9 g10 g11 g12
                      obtain ⟨g0, g1, g2, g3, g4, g5, g6, g7, g8, g9, g10, g11, g12⟩ := Q6.out.cells
                      dsimp only [Pd.hd, Pd.kids] at g0 g1 g2 g3 g4 g5 g6 g7 g8 g9 g10 g11 g12
                      go_wp2
                      go_ret
                      exact ⟨ret_int HE.out.symm, Q6.out.fr⟩
                  · rw [h2] at FK
                    have hk0 := find_lt h3
                    by_cases ho : xo = 1
                    · have HE := Lib.hid (HY.out (agT_one ho))
                      clear HX HY h1 h2 h3 hk0
                      subst ho
                      go_wp2_with fail
                      refine (FK.out _ QR.out.fr).mono ?_
                      rintro e w6 ⟨rfl, f6⟩
                      have Q6 := Lib.hid (QR.out.non f6)
                      have d2 := again.out _ f6
                      clear f6 d0 d1
                      clear g0 g1 g2 g3 g4 g5 g6 g7 g8 g9 g10 g11 g12
                      obtain ⟨g0, g1, g2, g3, g4, g5, g6, g7, g8, g9, g10, g11, g12⟩ := Q6.out.cells
                      dsimp only [Pd.hd, Pd.kids] at g0 g1 g2 g3 g4 g5 g6 g7 g8 g9 g10 g11 g12
                      go_wp2
                      go_roundw
                      case rel => exact ⟨m + 1, by omega, by go_num, HE, Q6⟩
                      case measure => simp [intOf]; omega
                    · have HT3 : Hid (agT cs ⟨xo, xn⟩ = (!decide (xo = 3) || decide (cs[k0].ty = 1))) := Lib.hid (agT_some ho h3 hk0)
                      have hob : (xo != 1) = true := by rw [bne_iff_ne]; exact ho
                      clear h1 h2 h3 ho
                      go_wp2_with fail
                      refine (FK.out _ QR.out.fr).mono ?_
                      rintro e w6 ⟨rfl, f6⟩
                      have Q6 := Lib.hid (QR.out.non f6)
                      have d2 := again.out _ f6
                      obtain ⟨ca, rfl, hcn, hct⟩ := Ks.findS (HV.out.non Q6.out.fr) k0 hk0
                      generalize cs[k0].ty = ct at *
                      clear f6 d0 d1 hcn
                      clear g0 g1 g2 g3 g4 g5 g6 g7 g8 g9 g10 g11 g12
                      obtain ⟨g0, g1, g2, g3, g4, g5, g6, g7, g8, g9, g10, g11, g12⟩ := Q6.out.cells
                      dsimp only [Pd.hd, Pd.kids] at g0 g1 g2 g3 g4 g5 g6 g7 g8 g9 g10 g11 g12
                      by_cases h33 : xo = 3
                      · subst h33
                        by_cases hc1 : ct = 1
                        · have HE := Lib.hid (HY.out (by rw [HT3.out, decide_eq_true hc1, Bool.or_true]))
                          clear HX HY HT3
                          subst hc1
                          go_wp2
                          go_roundw
                          case rel => exact ⟨m + 1, by omega, by go_num, HE, Q6⟩
                          case measure => simp [intOf]; omega
                        · have HE := Lib.hid (HX.out (by rw [HT3.out, decide_eq_false hc1]; rfl))
                          have hcb : (ct != 1) = true := by rw [bne_iff_ne]; exact hc1
                          clear HX HY HT3 hc1
                          go_wp2
                          go_ret
                          exact ⟨ret_int HE.out.symm, Q6.out.fr⟩
                      · have HE := Lib.hid (HY.out (by rw [HT3.out, decide_eq_false h33]; rfl))
                        have h33b : (xo == 3) = false := by rw [beq_eq_false_iff_ne]; exact h33
                        clear HX HY HT3 h33
                        go_wp2
                        go_roundw
                        case rel => exact ⟨m + 1, by omega, by go_num, HE, Q6⟩
                        case measure => simp [intOf]; omega
                · have HE : Hid (r = 0) := Lib.hid (by rw [HR2.out, all_endG (by omega) HT.out]; rfl)
                  clear HR2 HT
                  go_wp2
                  go_ret
                  exact ⟨ret_int HE.out.symm, QR.out.fr⟩
        · have hbb : (by_ == []) = false := by rw [beq_eq_false_iff_ne]; exact hb
          have hbb2 : (by_ != []) = true := by rw [bne_iff_ne]; exact hb
          have HR1 : Hid (r = if (hasC cs by_ && (cols.all (hasC cs) && aggs.all (agT cs))) = true then 0 else 10) := Lib.hid (by rw [HR0.out, decide_eq_false hb, Bool.false_or])
          clear HR0 hb
          have FB := Lib.hid (F.out by_)
          rcases find_int cs by_ with ⟨h1, h2, -⟩ | ⟨kb, -, h1, h2⟩
          · rw [h2] at FB
            have HE : Hid (r = 10) := Lib.hid (by rw [HR1.out, h1]; rfl)
            clear HR1 h1 h2
            go_wp2_with fail
            refine (FB.out _ Q3.out.fr).mono ?_
            rintro e w4 ⟨rfl, f4⟩
            go_wp2
            go_ret
            exact ⟨ret_int HE.out.symm, Q3.out.fr.trans f4⟩
          · rw [h2] at FB
            have HR : Hid (r = if (cols.all (hasC cs) && aggs.all (agT cs)) = true then 0 else 10) := Lib.hid (by rw [HR1.out, h1, Bool.true_and])
            clear HR1 h1 h2
            go_wp2_with fail
            refine (FB.out _ Q3.out.fr).mono ?_
            rintro e w4 ⟨rfl, f4⟩
            have Q4 := Lib.hid (Q3.out.non f4)
            clear f4
            clear g0 g1 g2 g3 g4 g5 g6 g7 g8 g9 g10 g11 g12
            obtain ⟨g0, g1, g2, g3, g4, g5, g6, g7, g8, g9, g10, g11, g12⟩ := Q4.out.cells
            dsimp only [Pd.hd, Pd.kids] at g0 g1 g2 g3 g4 g5 g6 g7 g8 g9 g10 g11 g12
            go_wp2
            clear g0 g1 g2 g3 g4 g5 g6 g7 g8 g9 g10 g11 g12
            go_loopw [5] (fun i wr => ∃ k : Nat, k ≤ cols.length ∧ i = .int .i64 k ∧ Hid ((cols.take k).all (hasC cs) = true) ∧ Hid (Qin w w.heap.size ⟨tab, cols, ⟨⟨wo, wc, wm, ⟨wn, wi, wt⟩, wk, wp⟩, wks⟩, aggs, by_⟩ (.slice cA cols.length cc) ⟨sA, sn, sc⟩ (.slice gA aggs.length gc) wr)) (fun i _ => cols.length - (intOf i).toNat)
            case atStart => exact ⟨0, Nat.zero_le _, rfl, Lib.hid rfl, Q4⟩
            case round =>
              obtain ⟨k, hk, rfl, HT, QR⟩ := hrel
              obtain ⟨g0, g1, g2, g3, g4, g5, g6, g7, g8, g9, g10, g11, g12⟩ := QR.out.cells
              dsimp only [Pd.hd, Pd.kids] at g0 g1 g2 g3 g4 g5 g6 g7 g8 g9 g10 g11 g12
              by_cases hlt : k < cols.length
              · obtain ⟨a, rfl, _, _, hel⟩ := QR.out.sls.cols.addr (show 0 < cols.length by omega)
                have c0 := hel k hlt
                unfold sv at c0
                have HX : Hid (hasC cs cols[k] = false → r = 10) := Lib.hid (fun e => by rw [HR.out, all_badG hlt e]; simp)
                have HY : Hid (hasC cs cols[k] = true → (cols.take (k + 1)).all (hasC cs) = true) := Lib.hid (fun e => all_moreG hlt HT.out e)
                have FK := Lib.hid (F.out cols[k])
                clear HT hel
                try dsimp only at c0
                generalize cols[k] = y at *
                rcases find_int cs y with ⟨h1, h2, -⟩ | ⟨k0, -, h1, h2⟩
                · rw [h2] at FK
                  have HE := Lib.hid (HX.out h1)
                  clear HX HY h1 h2
                  go_wp2_with fail
                  refine (FK.out _ QR.out.fr).mono ?_
                  rintro e w6 ⟨rfl, f6⟩
                  go_wp2
                  go_ret
                  exact ⟨ret_int HE.out.symm, QR.out.fr.trans f6⟩
                · rw [h2] at FK
                  have HE := Lib.hid (HY.out h1)
                  clear HX HY h1 h2
                  go_wp2_with fail
                  refine (FK.out _ QR.out.fr).mono ?_
                  rintro e w6 ⟨rfl, f6⟩
                  have Q6 := Lib.hid (QR.out.non f6)
                  clear f6
                  go_wp2
                  go_roundw
                  case rel => exact ⟨k + 1, by omega, by go_num, HE, Q6⟩
                  case measure => simp [intOf]; omega
              · have HR2 : Hid (r = if aggs.all (agT cs) = true then 0 else 10) := Lib.hid (by rw [HR.out, all_endG (by omega) HT.out]; simp)
                clear HR HT
                rename World => W1
                go_wp2
                clear g0 g1 g2 g3 g4 g5 g6 g7 g8 g9 g10 g11 g12
                go_loopw [6] (fun i wr => ∃ k : Nat, k ≤ aggs.length ∧ i = .int .i64 k ∧ Hid ((aggs.take k).all (agT cs) = true) ∧ Hid (Qin w w.heap.size ⟨tab, cols, ⟨⟨wo, wc, wm, ⟨wn, wi, wt⟩, wk, wp⟩, wks⟩, aggs, by_⟩ (.slice cA cols.length cc) ⟨sA, sn, sc⟩ (.slice gA aggs.length gc) wr)) (fun i _ => aggs.length - (intOf i).toNat)
                case atStart => exact ⟨0, Nat.zero_le _, rfl, Lib.hid rfl, QR⟩
                case round =>
                  clear QR
                  obtain ⟨m, hm, rfl, HT, QR⟩ := hrel
                  obtain ⟨g0, g1, g2, g3, g4, g5, g6, g7, g8, g9, g10, g11, g12⟩ := QR.out.cells
                  dsimp only [Pd.hd, Pd.kids] at g0 g1 g2 g3 g4 g5 g6 g7 g8 g9 g10 g11 g12
                  by_cases hlt2 : m < aggs.length
                  · obtain ⟨a, rfl, _, d0, d1⟩ := Ns.gat QR.out.sls.aggs m hlt2
                    have HX : Hid (agT cs aggs[m] = false → r = 10) := Lib.hid (fun e => by rw [HR2.out, all_badG hlt2 e]; simp)
                    have HY : Hid (agT cs aggs[m] = true → (aggs.take (m + 1)).all (agT cs) = true) := Lib.hid (fun e => all_moreG hlt2 HT.out e)
                    have HAGS := Lib.hid QR.out.sls.aggs
                    clear HT
                    try dsimp only at d0 d1
                    generalize hx : aggs[m] = x at *
                    have HXE := Lib.hid hx
                    clear hx
                    obtain ⟨xo, xn⟩ := x
                    dsimp only at d0 d1 HX HY
                    have FK := Lib.hid (F.out xn)
                    have again : Hid (∀ W2, Fr Non wr W2 → W2.cell? (a.add (m * 2)) = some (.int .i64 xo)) := Lib.hid (fun W2 hf => by
                      obtain ⟨a2, ha2, _, e0, _⟩ := Ns.gat (HAGS.out.non hf) m hlt2
                      obtain rfl := Option.some.inj ha2
                      rw [HXE.out] at e0
                      exact e0)
                    clear HAGS HXE
                    rcases find_int cs xn with ⟨h1, h2, h3⟩ | ⟨k0, h3, h1, h2⟩
                    · rw [h2] at FK
                      by_cases ho : xo = 1
                      · have HE := Lib.hid (HY.out (agT_one ho))
                        clear HX HY h1 h2 h3
                        subst ho
                        go_wp2_with fail
                        refine (FK.out _ QR.out.fr).mono ?_
                        rintro e w6 ⟨rfl, f6⟩
                        have Q6 := Lib.hid (QR.out.non f6)
                        have d2 := again.out _ f6
                        clear f6 d0 d1
                        clear g0 g1 g2 g3 g4 g5 g6 g7 g8 g9 g10 g11 g12
                        obtain ⟨g0, g1, g2, g3, g4, g5, g6, g7, g8, g9, g10, g11, g12⟩ := Q6.out.cells
                        dsimp only [Pd.hd, Pd.kids] at g0 g1 g2 g3 g4 g5 g6 g7 g8 g9 g10 g11 g12
                        go_wp2
                        go_roundw
                        case rel => exact ⟨m + 1, by omega, by go_num, HE, Q6⟩
                        case measure => simp [intOf]; omega
                      · have HE := Lib.hid (HX.out (agT_none ho h3))
                        have hob : (xo != 1) = true := by rw [bne_iff_ne]; exact ho
                        clear HX HY h1 h2 h3 ho
                        go_wp2_with fail
                        refine (FK.out _ QR.out.fr).mono ?_
                        rintro e w6 ⟨rfl, f6⟩
                        have Q6 := Lib.hid (QR.out.non f6)
                        have d2 := again.out _ f6
                        clear f6 d0 d1
                        clear g0 g1 g2 g3 g4 g5 g6 g7 g8 g9 g10 g11 g12
                        obtain ⟨g0, g1, g2, g3, g4, g5, g6, g7, g8, g9, g10, g11, g12⟩ := Q6.out.cells
                        dsimp only [Pd.hd, Pd.kids] at g0 g1 g2 g3 g4 g5 g6 g7 g8 g9 g10 g11 g12
                        go_wp2
                        go_ret
                        exact ⟨ret_int HE.out.symm, Q6.out.fr⟩
                    · rw [h2] at FK
                      have hk0 := find_lt h3
                      by_cases ho : xo = 1
                      · have HE := Lib.hid (HY.out (agT_one ho))
                        clear HX HY h1 h2 h3 hk0
                        subst ho
                        go_wp2_with fail
                        refine (FK.out _ QR.out.fr).mono ?_
                        rintro e w6 ⟨rfl, f6⟩
                        have Q6 := Lib.hid (QR.out.non f6)
                        have d2 := again.out _ f6
                        clear f6 d0 d1
                        clear g0 g1 g2 g3 g4 g5 g6 g7 g8 g9 g10 g11 g12
                        obtain ⟨g0, g1, g2, g3, g4, g5, g6, g7, g8, g9, g10, g11, g12⟩ := Q6.out.cells
                        dsimp only [Pd.hd, Pd.kids] at g0 g1 g2 g3 g4 g5 g6 g7 g8 g9 g10 g11 g12
                        go_wp2
                        go_roundw
                        case rel => exact ⟨m + 1, by omega, by go_num, HE, Q6⟩
                        case measure => simp [intOf]; omega
                      · have HT3 : Hid (agT cs ⟨xo, xn⟩ = (!decide (xo = 3) || decide (cs[k0].ty = 1))) := Lib.hid (agT_some ho h3 hk0)
                        have hob : (xo != 1) = true := by rw [bne_iff_ne]; exact ho
                        clear h1 h2 h3 ho
                        go_wp2_with fail
                        refine (FK.out _ QR.out.fr).mono ?_
                        rintro e w6 ⟨rfl, f6⟩
                        have Q6 := Lib.hid (QR.out.non f6)
                        have d2 := again.out _ f6
                        obtain ⟨ca, rfl, hcn, hct⟩ := Ks.findS (HV.out.non Q6.out.fr) k0 hk0
                        generalize cs[k0].ty = ct at *
                        clear f6 d0 d1 hcn
                        clear g0 g1 g2 g3 g4 g5 g6 g7 g8 g9 g10 g11 g12
                        obtain ⟨g0, g1, g2, g3, g4, g5, g6, g7, g8, g9, g10, g11, g12⟩ := Q6.out.cells
                        dsimp only [Pd.hd, Pd.kids] at g0 g1 g2 g3 g4 g5 g6 g7 g8 g9 g10 g11 g12
                        by_cases h33 : xo = 3
                        · subst h33
                          by_cases hc1 : ct = 1
                          · have HE := Lib.hid (HY.out (by rw [HT3.out, decide_eq_true hc1, Bool.or_true]))
                            clear HX HY HT3
                            subst hc1
                            go_wp2
                            go_roundw
                            case rel => exact ⟨m + 1, by omega, by go_num, HE, Q6⟩
                            case measure => simp [intOf]; omega
                          · have HE := Lib.hid (HX.out (by rw [HT3.out, decide_eq_false hc1]; rfl))
                            have hcb : (ct != 1) = true := by rw [bne_iff_ne]; exact hc1
                            clear HX HY HT3 hc1
                            go_wp2
                            go_ret
                            exact ⟨ret_int HE.out.symm, Q6.out.fr⟩
                        · have HE := Lib.hid (HY.out (by rw [HT3.out, decide_eq_false h33]; rfl))
                          have h33b : (xo == 3) = false := by rw [beq_eq_false_iff_ne]; exact h33
                          clear HX HY HT3 h33
                          go_wp2
                          go_roundw
                          case rel => exact ⟨m + 1, by omega, by go_num, HE, Q6⟩
                          case measure => simp [intOf]; omega
                  · have HE : Hid (r = 0) := Lib.hid (by rw [HR2.out, all_endG (by omega) HT.out]; rfl)
                    clear HR2 HT
                    go_wp2
                    go_ret
                    exact ⟨ret_int HE.out.symm, QR.out.fr⟩
    · have hzb : (z != 0) = true := by rw [bne_iff_ne]; exact hz
      have HE : Hid (r = 1) := Lib.hid (by rw [HE0.out, if_pos (.inr hz)])
      clear HE0 HP HSD hz
      go_wp2
      go_ret
      exact ⟨ret_int HE.out.symm, Q2.out.fr⟩
end Go.Proofs.YtibopcceffncpaaGreatDoor


namespace Go.Proofs.YtibopcceffncpaaGreatDoor
set_option linter.unusedVariables false
set_option linter.unusedSimpArgs false
set_option maxRecDepth 100000
open Go.RowKit

theorem names_if (cs : List Co) (q : Qy) : (if allQ q = true then namesC cs else []) = (if q.aggs.length = 0 ∧ q.cols.length = 0 then namesC cs else []) := by
  unfold allQ
  by_cases h1 : q.aggs.length = 0 <;> by_cases h2 : q.cols.length = 0 <;> simp [h1, h2]
theorem Ks.nm {w : World} {A : Option Addr} {n c : Nat} {cols : List Co} (h : Ks w (.slice A n c) cols) (k : Nat) (hk : k < cols.length) : ∃ a, A = some a ∧ n = cols.length ∧ w.cell? (a.add (k * 3)) = some (.string ⟨cols[k].name.toArray⟩) := by
  obtain ⟨A', c', he, hl, hn, hcell⟩ := h
  simp only [Value.slice.injEq] at he
  obtain ⟨rfl, rfl, rfl⟩ := he
  cases A with
  | none => have := hn rfl; omega
  | some a => exact ⟨a, rfl, rfl, (co_lit (hcell a rfl k hk)).1⟩
set_option maxHeartbeats 1500000 in
theorem rqnames_any (v : Value) (cs : List Co) (q : Qy) (c : Value) (s : Kv) (g : Value) (w : World) (hv : Ks w v cs) (hcl : cs.length ≤ 1000) (hcb : ∀ c ∈ cs, c.name.length ≤ 1000) (hq : QyS w q c s g) (hs : SmQ q) :
    Calls Tryz.prog 14 #[v, qyV q c s g] w fun e w' => ∃ u, e = .returned u ∧ Vs sv w' u (namesQ cs q) ∧ Fr Non w w' := by
  have Q0 := Lib.hid (Qin.new hq)
  have HS := Lib.hid hq
  have HV := Lib.hid hv
  have M1 := Lib.hid (fun W (hf : Fr Non w W) (h : QyS W q c s g) => rqfits_any v cs q c s g W (hv.non hf) hcl hcb h hs)
  have CA : Hid (fitQ cs q = 0 → ∀ k (h : k < q.aggs.length) W, Calls Tryz.prog 36 #[agV q.aggs[k]] W fun e w' => e = .returned (.string ⟨(toldA q.aggs[k]).toArray⟩) ∧ Fr Non W w') := Lib.hid (fun hm k h W => rtold_any q.aggs[k] W (may_ags (fit_may hm).1 _ (List.getElem_mem h)) (hs.acol _ (List.getElem_mem h)))
  have HE0 : Hid (¬ fitQ cs q = 0 → namesQ cs q = []) := Lib.hid (fun e => if_neg e)
  have HE1 : Hid (fitQ cs q = 0 → namesQ cs q = q.cols ++ (if q.aggs.length = 0 ∧ q.cols.length = 0 then namesC cs else []) ++ byN q.by_ ++ q.aggs.map toldA) := Lib.hid (fun e => by
    rw [names_doc, if_pos e]
    unfold namesD
    rw [names_if])
  have hlc := hs.cols
  have hlg := hs.aggs
  generalize namesQ cs q = r at *
  generalize fitQ cs q = z at *
  clear hs
  obtain ⟨cA, cc, hce⟩ := hq.cols.shape
  obtain ⟨gA, gc, hge⟩ := hq.aggs.shape
  clear hq
  obtain ⟨tab, cols, ⟨⟨wo, wc, wm, ⟨wn, wi, wt⟩, wk, wp⟩, wks⟩, aggs, by_⟩ := q
  obtain ⟨sA, sn, sc⟩ := s
  obtain ⟨vA, vc, hve⟩ := hv.shape
  dsimp only at hce hge
  subst hce
  subst hge
  subst hve
  unfold qyV qyC kidV at *
  dsimp only [Pd.hd, Pd.kids] at *
  clear hv
  go_enter Tryz.func14, Tryz.ntmps14
  go_wp2_with fail
  refine (M1.out _ Q0.out.fr Q0.out.sls).mono ?_
  rintro e w1 ⟨rfl, f1⟩
  have Q1 := Lib.hid (Q0.out.non f1)
  clear f1
  by_cases hz : z = 0
  · have HE2 := Lib.hid (HE1.out hz)
    have CB := Lib.hid (CA.out hz)
    clear HE0 HE1 CA
    subst hz
    obtain ⟨g0, g1, g2, g3, g4, g5, g6, g7, g8, g9, g10, g11, g12⟩ := Q1.out.cells
    dsimp only [Pd.hd, Pd.kids] at g0 g1 g2 g3 g4 g5 g6 g7 g8 g9 g10 g11 g12
    by_cases h1 : aggs.length = 0
    · by_cases h2 : cols.length = 0
      · obtain rfl := List.eq_nil_of_length_eq_zero h1
        obtain rfl := List.eq_nil_of_length_eq_zero h2
        have HR1 : Hid (r = namesC cs ++ byN by_) := Lib.hid (by rw [HE2.out, if_pos ⟨rfl, rfl⟩]; simp)
        have HV1 : Hid (Vs sv w1 (.slice cA 0 cc) []) := Lib.hid Q1.out.sls.cols
        clear HE2 h1 h2 CB
        have hb1 := Q1.out.blk.lt
        go_wp2_with (at_builtin; refine wpList_appG el_str sv_one rfl (.tmp 12) (.tmp 14) rfl (w.heap.size + 1) (.slice (some ⟨w1.heap.size, 0, none⟩) 0 0) (.slice cA 0 cc) [] [] rfl (ow_lit0 _ _ _ rfl (by have := Q1.out.blk.lt; omega)) rfl (HV1.out.non ((Fr.refl _ _).alloc _)) (by simp <;> omega) (by have := Q1.out.blk.lt; simp <;> omega) ?_; intro v2 w2 hown2 hf2; have f2 : Fr Non w1 w2 := ((Fr.refl Non w1).alloc _).fresh hf2 (fun k hk => by simp [Value.ownBlock] at hk; have := Q1.out.blk.lt; omega); have Q2 := Lib.hid (Q1.out.non f2); have HO2 : Hid (Ow sv 9 w2 (w.heap.size + 1) v2 []) := Lib.hid (by simpa using hown2); clear hown2 hf2 f2 hb1; clear g0 g1 g2 g3 g4 g5 g6 g7 g8 g9 g10 g11 g12; obtain ⟨g0, g1, g2, g3, g4, g5, g6, g7, g8, g9, g10, g11, g12⟩ := Q2.out.cells; dsimp only [Pd.hd, Pd.kids] at g0 g1 g2 g3 g4 g5 g6 g7 g8 g9 g10 g11 g12; obtain ⟨tA, tc, hte⟩ := HO2.out.shape; subst hte)
        clear g0 g1 g2 g3 g4 g5 g6 g7 g8 g9 g10 g11 g12
        go_loopw [5, 6] (fun u i wr => ∃ k : Nat, k ≤ cs.length ∧ i = .int .i64 k ∧ Hid (Ow sv 9 wr (w.heap.size + 1) u (namesC (cs.take k))) ∧ Hid (Qin w w.heap.size ⟨tab, [], ⟨⟨wo, wc, wm, ⟨wn, wi, wt⟩, wk, wp⟩, wks⟩, [], by_⟩ (.slice cA 0 cc) ⟨sA, sn, sc⟩ (.slice gA 0 gc) wr)) (fun _ i _ => cs.length - (intOf i).toNat)
        case atStart => exact ⟨0, Nat.zero_le _, rfl, HO2, Q2⟩
        case round =>
          clear HO2 Q2
          rename_i u i wr
          obtain ⟨k, hk, rfl, HO, QR⟩ := hrel
          obtain ⟨uA, uc, hue⟩ := HO.out.shape
          have hlk : (namesC (cs.take k)).length ≤ 1000 := by rw [namesC_len, List.length_take]; omega
          generalize hun : (namesC (cs.take k)).length = un at *
          subst hue
          by_cases hlt : k < cs.length
          · obtain ⟨a, rfl, _, hc0⟩ := Ks.nm (HV.out.non QR.out.fr) k hlt
            have HY : Hid (namesC (cs.take (k + 1)) = namesC (cs.take k) ++ [cs[k].name]) := Lib.hid (heads_more hlt)
            generalize cs[k].name = xn at *
            generalize namesC (cs.take k) = t2 at *
            have HLK := Lib.hid (show t2.length ≤ 1100 by omega)
            have hsz : w.heap.size + 1 ≤ wr.heap.size := by have := QR.out.blk.lt; omega
            clear hun hlk
            go_wp2_with (at_builtin; refine wpList_pushG el_str sv_one rfl (.tmp 31) (.tmp 37) rfl (w.heap.size + 1) _ t2 rfl HO.out _ xn rfl rfl (by have := HLK.out; omega) hsz ?_; intro v4 w4 hown4 hfr4)
            have HO4 := Lib.hid hown4
            have F4 : Hid (Fr Non w w4) := Lib.hid (QR.out.fr.fresh hfr4 (fun q hq => by have := (HO.out.lt q hq).1; omega))
            have Q4 : Hid (Qin w w.heap.size ⟨tab, [], ⟨⟨wo, wc, wm, ⟨wn, wi, wt⟩, wk, wp⟩, wks⟩, [], by_⟩ (.slice cA 0 cc) ⟨sA, sn, sc⟩ (.slice gA 0 gc) w4) := Lib.hid ⟨F4.out, QR.out.blk.fr hfr4 (fun e => by have := (HO.out.lt _ e).1; omega), HS.out.non F4.out⟩
            clear hown4 hfr4
            go_roundw
            case rel => exact ⟨k + 1, by omega, by go_num, by rw [HY.out]; exact HO4, Q4⟩
            case measure => simp [intOf]; omega
          · have hT : cs.take k = cs := List.take_of_length_le (by omega)
            rw [hT] at HO hun
            have HTL0 : Hid ((namesC cs).length ≤ 1100) := Lib.hid (by omega)
            obtain ⟨tl, htl⟩ : ∃ tl, tl = namesC cs := ⟨_, rfl⟩
            have HR : Hid (r = tl ++ byN by_) := Lib.hid (by rw [htl]; exact HR1.out)
            rw [← htl] at HO hun HTL0
            clear HR1 hT htl
            rename World => W1
            obtain ⟨g0, g1, g2, g3, g4, g5, g6, g7, g8, g9, g10, g11, g12⟩ := QR.out.cells
            dsimp only [Pd.hd, Pd.kids] at g0 g1 g2 g3 g4 g5 g6 g7 g8 g9 g10 g11 g12
            by_cases hb : by_ = []
            · subst hb
              have HE : Hid (r = tl) := Lib.hid (by rw [HR.out]; simp [byN])
              have HTL := Lib.hid (show tl.length ≤ 1200 by have := HTL0.out; omega)
              clear HR HTL0
              go_wp2
              clear g0 g1 g2 g3 g4 g5 g6 g7 g8 g9 g10 g11 g12
              go_loopw [5, 7] (fun u i wr => i = .int .i64 0 ∧ Hid (Ow sv 9 wr (w.heap.size + 1) u tl) ∧ Hid (Qin w w.heap.size ⟨tab, [], ⟨⟨wo, wc, wm, ⟨wn, wi, wt⟩, wk, wp⟩, wks⟩, [], []⟩ (.slice cA 0 cc) ⟨sA, sn, sc⟩ (.slice gA 0 gc) wr)) (fun _ i _ => 0)
              case atStart => exact ⟨rfl, HO, QR⟩
              case round =>
                clear HO QR
                rename_i u i wr
                obtain ⟨rfl, HO, QR⟩ := hrel
                obtain ⟨uA, uc, hue⟩ := HO.out.shape
                subst hue
                obtain ⟨g0, g1, g2, g3, g4, g5, g6, g7, g8, g9, g10, g11, g12⟩ := QR.out.cells
                dsimp only [Pd.hd, Pd.kids] at g0 g1 g2 g3 g4 g5 g6 g7 g8 g9 g10 g11 g12
                go_wp2
                go_ret
                exact ⟨_, rfl, by rw [HE.out]; exact HO.out.vs, QR.out.fr⟩
            · have hbb : (by_ == []) = false := by rw [beq_eq_false_iff_ne]; exact hb
              have hbb2 : (by_ != []) = true := by rw [bne_iff_ne]; exact hb
              obtain ⟨tm, htm⟩ : ∃ tm, tm = tl ++ [by_] := ⟨_, rfl⟩
              have HE : Hid (r = tm) := Lib.hid (by rw [HR.out, htm]; unfold byN; rw [if_neg hb] <;> simp)
              clear HR hb
              go_wp2_with (at_builtin; refine wpList_pushG el_str sv_one rfl (.tmp 42) (.tmp 45) rfl (w.heap.size + 1) _ tl rfl HO.out _ by_ rfl rfl (by have := HTL0.out; omega) (by have := QR.out.blk.lt; omega) ?_; intro v7 w7 hown7 hfr7)
              have F7 : Hid (Fr Non w w7) := Lib.hid (QR.out.fr.fresh hfr7 (fun q hq => by have := (HO.out.lt q hq).1; omega))
              have Q7 : Hid (Qin w w.heap.size ⟨tab, [], ⟨⟨wo, wc, wm, ⟨wn, wi, wt⟩, wk, wp⟩, wks⟩, [], by_⟩ (.slice cA 0 cc) ⟨sA, sn, sc⟩ (.slice gA 0 gc) w7) := Lib.hid ⟨F7.out, QR.out.blk.fr hfr7 (fun e => by have := (HO.out.lt _ e).1; omega), HS.out.non F7.out⟩
              have HTL : Hid (tm.length ≤ 1300) := Lib.hid (by have := HTL0.out; rw [htm, List.length_append]; simp; omega)
              have HO7 : Hid (Ow sv 9 w7 (w.heap.size + 1) v7 tm) := Lib.hid (by rw [htm]; exact hown7)
              clear hown7 hfr7 HO QR HTL0 htm
              clear g0 g1 g2 g3 g4 g5 g6 g7 g8 g9 g10 g11 g12
              go_loopw [5, 7] (fun u i wr => i = .int .i64 0 ∧ Hid (Ow sv 9 wr (w.heap.size + 1) u tm) ∧ Hid (Qin w w.heap.size ⟨tab, [], ⟨⟨wo, wc, wm, ⟨wn, wi, wt⟩, wk, wp⟩, wks⟩, [], by_⟩ (.slice cA 0 cc) ⟨sA, sn, sc⟩ (.slice gA 0 gc) wr)) (fun _ i _ => 0)
              case atStart => exact ⟨rfl, HO7, Q7⟩
              case round =>
                clear HO7 Q7
                rename_i u i wr
                obtain ⟨rfl, HO, QR⟩ := hrel
                obtain ⟨uA, uc, hue⟩ := HO.out.shape
                subst hue
                obtain ⟨g0, g1, g2, g3, g4, g5, g6, g7, g8, g9, g10, g11, g12⟩ := QR.out.cells
                dsimp only [Pd.hd, Pd.kids] at g0 g1 g2 g3 g4 g5 g6 g7 g8 g9 g10 g11 g12
                go_wp2
                go_ret
                exact ⟨_, rfl, by rw [HE.out]; exact HO.out.vs, QR.out.fr⟩
      · have h2b : ((cols.length : Int) == 0) = false := by rw [beq_eq_false_iff_ne]; omega
        obtain rfl := List.eq_nil_of_length_eq_zero h1
        have HR : Hid (r = cols ++ byN by_) := Lib.hid (by rw [HE2.out, if_neg (fun h => h2 h.2)]; simp)
        clear HE2 h1 h2 CB
        obtain ⟨tl, htl⟩ : ∃ tl, tl = cols := ⟨_, rfl⟩
        rw [← htl] at HR
        have HTL0 : Hid (tl.length ≤ 1100) := Lib.hid (by rw [htl]; omega)
        have HV1 : Hid (Vs sv w1 (.slice cA cols.length cc) cols) := Lib.hid Q1.out.sls.cols
        have hb1 := Q1.out.blk.lt
        by_cases hb : by_ = []
        · subst hb
          have HE : Hid (r = tl) := Lib.hid (by rw [HR.out]; simp [byN])
          have HTL := Lib.hid (show tl.length ≤ 1200 by have := HTL0.out; omega)
          clear HR HTL0
          go_wp2_with (at_builtin; refine wpList_appG el_str sv_one rfl (.tmp 12) (.tmp 14) rfl (w.heap.size + 1) (.slice (some ⟨w1.heap.size, 0, none⟩) 0 0) (.slice cA cols.length cc) [] cols rfl (ow_lit0 _ _ _ rfl (by have := Q1.out.blk.lt; omega)) rfl (HV1.out.non ((Fr.refl _ _).alloc _)) (by simp <;> omega) (by have := Q1.out.blk.lt; simp <;> omega) ?_; intro v2 w2 hown2 hf2; have f2 : Fr Non w1 w2 := ((Fr.refl Non w1).alloc _).fresh hf2 (fun k hk => by simp [Value.ownBlock] at hk; have := Q1.out.blk.lt; omega); have Q2 := Lib.hid (Q1.out.non f2); have HO2 : Hid (Ow sv 9 w2 (w.heap.size + 1) v2 tl) := Lib.hid (by simpa [htl] using hown2); clear hown2 hf2 f2 hb1; clear g0 g1 g2 g3 g4 g5 g6 g7 g8 g9 g10 g11 g12; obtain ⟨g0, g1, g2, g3, g4, g5, g6, g7, g8, g9, g10, g11, g12⟩ := Q2.out.cells; dsimp only [Pd.hd, Pd.kids] at g0 g1 g2 g3 g4 g5 g6 g7 g8 g9 g10 g11 g12; obtain ⟨tA, tc, hte⟩ := HO2.out.shape; have hle : tl.length = cols.length := (by rw [htl]); rw [hle] at hte; clear hle; subst hte)
          clear g0 g1 g2 g3 g4 g5 g6 g7 g8 g9 g10 g11 g12
          go_loopw [5, 7] (fun u i wr => i = .int .i64 0 ∧ Hid (Ow sv 9 wr (w.heap.size + 1) u tl) ∧ Hid (Qin w w.heap.size ⟨tab, cols, ⟨⟨wo, wc, wm, ⟨wn, wi, wt⟩, wk, wp⟩, wks⟩, [], []⟩ (.slice cA cols.length cc) ⟨sA, sn, sc⟩ (.slice gA 0 gc) wr)) (fun _ i _ => 0)
          case atStart => exact ⟨rfl, HO2, Q2⟩
          case round =>
            clear HO2 Q2
            rename_i u i wr
            obtain ⟨rfl, HO, QR⟩ := hrel
            obtain ⟨uA, uc, hue⟩ := HO.out.shape
            subst hue
            obtain ⟨g0, g1, g2, g3, g4, g5, g6, g7, g8, g9, g10, g11, g12⟩ := QR.out.cells
            dsimp only [Pd.hd, Pd.kids] at g0 g1 g2 g3 g4 g5 g6 g7 g8 g9 g10 g11 g12
            go_wp2
            go_ret
            exact ⟨_, rfl, by rw [HE.out]; exact HO.out.vs, QR.out.fr⟩
        · have hbb : (by_ == []) = false := by rw [beq_eq_false_iff_ne]; exact hb
          have hbb2 : (by_ != []) = true := by rw [bne_iff_ne]; exact hb
          obtain ⟨tm, htm⟩ : ∃ tm, tm = tl ++ [by_] := ⟨_, rfl⟩
          have HE : Hid (r = tm) := Lib.hid (by rw [HR.out, htm]; unfold byN; rw [if_neg hb] <;> simp)
          clear HR hb
          go_wp2_with (first | (at_builtin; refine wpList_appG el_str sv_one rfl (.tmp 12) (.tmp 14) rfl (w.heap.size + 1) (.slice (some ⟨w1.heap.size, 0, none⟩) 0 0) (.slice cA cols.length cc) [] cols rfl (ow_lit0 _ _ _ rfl (by have := Q1.out.blk.lt; omega)) rfl (HV1.out.non ((Fr.refl _ _).alloc _)) (by simp <;> omega) (by have := Q1.out.blk.lt; simp <;> omega) ?_; intro v2 w2 hown2 hf2; have f2 : Fr Non w1 w2 := ((Fr.refl Non w1).alloc _).fresh hf2 (fun k hk => by simp [Value.ownBlock] at hk; have := Q1.out.blk.lt; omega); have Q2 := Lib.hid (Q1.out.non f2); have HO2 : Hid (Ow sv 9 w2 (w.heap.size + 1) v2 tl) := Lib.hid (by simpa [htl] using hown2); clear hown2 hf2 f2 hb1; clear g0 g1 g2 g3 g4 g5 g6 g7 g8 g9 g10 g11 g12; obtain ⟨g0, g1, g2, g3, g4, g5, g6, g7, g8, g9, g10, g11, g12⟩ := Q2.out.cells; dsimp only [Pd.hd, Pd.kids] at g0 g1 g2 g3 g4 g5 g6 g7 g8 g9 g10 g11 g12; obtain ⟨tA, tc, hte⟩ := HO2.out.shape; have hle : tl.length = cols.length := (by rw [htl]); rw [hle] at hte; clear hle; subst hte) | (at_builtin; refine wpList_pushG el_str sv_one rfl (.tmp 42) (.tmp 45) rfl (w.heap.size + 1) _ tl rfl HO2.out _ by_ rfl rfl (by have := HTL0.out; omega) (by have := Q2.out.blk.lt; omega) ?_; intro v7 w7 hown7 hfr7))
          have F7 : Hid (Fr Non w w7) := Lib.hid (Q2.out.fr.fresh hfr7 (fun q hq => by have := (HO2.out.lt q hq).1; omega))
          have Q7 : Hid (Qin w w.heap.size ⟨tab, cols, ⟨⟨wo, wc, wm, ⟨wn, wi, wt⟩, wk, wp⟩, wks⟩, [], by_⟩ (.slice cA cols.length cc) ⟨sA, sn, sc⟩ (.slice gA 0 gc) w7) := Lib.hid ⟨F7.out, Q2.out.blk.fr hfr7 (fun e => by have := (HO2.out.lt _ e).1; omega), HS.out.non F7.out⟩
          have HTL : Hid (tm.length ≤ 1300) := Lib.hid (by have := HTL0.out; rw [htm, List.length_append]; simp; omega)
          have HO7 : Hid (Ow sv 9 w7 (w.heap.size + 1) v7 tm) := Lib.hid (by rw [htm]; exact hown7)
          clear hown7 hfr7 HO2 Q2 HTL0 htm
          clear g0 g1 g2 g3 g4 g5 g6 g7 g8 g9 g10 g11 g12
          go_loopw [5, 7] (fun u i wr => i = .int .i64 0 ∧ Hid (Ow sv 9 wr (w.heap.size + 1) u tm) ∧ Hid (Qin w w.heap.size ⟨tab, cols, ⟨⟨wo, wc, wm, ⟨wn, wi, wt⟩, wk, wp⟩, wks⟩, [], by_⟩ (.slice cA cols.length cc) ⟨sA, sn, sc⟩ (.slice gA 0 gc) wr)) (fun _ i _ => 0)
          case atStart => exact ⟨rfl, HO7, Q7⟩
          case round =>
            clear HO7 Q7
            rename_i u i wr
            obtain ⟨rfl, HO, QR⟩ := hrel
            obtain ⟨uA, uc, hue⟩ := HO.out.shape
            subst hue
            obtain ⟨g0, g1, g2, g3, g4, g5, g6, g7, g8, g9, g10, g11, g12⟩ := QR.out.cells
            dsimp only [Pd.hd, Pd.kids] at g0 g1 g2 g3 g4 g5 g6 g7 g8 g9 g10 g11 g12
            go_wp2
            go_ret
            exact ⟨_, rfl, by rw [HE.out]; exact HO.out.vs, QR.out.fr⟩
    · have h1b : ((aggs.length : Int) == 0) = false := by rw [beq_eq_false_iff_ne]; omega
      have HR : Hid (r = cols ++ byN by_ ++ aggs.map toldA) := Lib.hid (by rw [HE2.out, if_neg (fun h => h1 h.1)]; simp)
      clear HE2 h1
      obtain ⟨tl, htl⟩ : ∃ tl, tl = cols := ⟨_, rfl⟩
      rw [← htl] at HR
      have HTL0 : Hid (tl.length ≤ 1100) := Lib.hid (by rw [htl]; omega)
      have HV1 : Hid (Vs sv w1 (.slice cA cols.length cc) cols) := Lib.hid Q1.out.sls.cols
      have hb1 := Q1.out.blk.lt
      by_cases hb : by_ = []
      · subst hb
        have HE : Hid (r = tl ++ aggs.map toldA) := Lib.hid (by rw [HR.out]; simp [byN])
        have HTL := Lib.hid (show tl.length ≤ 1200 by have := HTL0.out; omega)
        clear HR HTL0
        go_wp2_with (at_builtin; refine wpList_appG el_str sv_one rfl (.tmp 12) (.tmp 14) rfl (w.heap.size + 1) (.slice (some ⟨w1.heap.size, 0, none⟩) 0 0) (.slice cA cols.length cc) [] cols rfl (ow_lit0 _ _ _ rfl (by have := Q1.out.blk.lt; omega)) rfl (HV1.out.non ((Fr.refl _ _).alloc _)) (by simp <;> omega) (by have := Q1.out.blk.lt; simp <;> omega) ?_; intro v2 w2 hown2 hf2; have f2 : Fr Non w1 w2 := ((Fr.refl Non w1).alloc _).fresh hf2 (fun k hk => by simp [Value.ownBlock] at hk; have := Q1.out.blk.lt; omega); have Q2 := Lib.hid (Q1.out.non f2); have HO2 : Hid (Ow sv 9 w2 (w.heap.size + 1) v2 tl) := Lib.hid (by simpa [htl] using hown2); clear hown2 hf2 f2 hb1; clear g0 g1 g2 g3 g4 g5 g6 g7 g8 g9 g10 g11 g12; obtain ⟨g0, g1, g2, g3, g4, g5, g6, g7, g8, g9, g10, g11, g12⟩ := Q2.out.cells; dsimp only [Pd.hd, Pd.kids] at g0 g1 g2 g3 g4 g5 g6 g7 g8 g9 g10 g11 g12; obtain ⟨tA, tc, hte⟩ := HO2.out.shape; have hle : tl.length = cols.length := (by rw [htl]); rw [hle] at hte; clear hle; subst hte)
        clear g0 g1 g2 g3 g4 g5 g6 g7 g8 g9 g10 g11 g12
        go_loopw [5, 7] (fun u i wr => ∃ k : Nat, k ≤ aggs.length ∧ i = .int .i64 k ∧ Hid (Ow sv 9 wr (w.heap.size + 1) u (tl ++ (aggs.take k).map toldA)) ∧ Hid (Qin w w.heap.size ⟨tab, cols, ⟨⟨wo, wc, wm, ⟨wn, wi, wt⟩, wk, wp⟩, wks⟩, aggs, []⟩ (.slice cA cols.length cc) ⟨sA, sn, sc⟩ (.slice gA aggs.length gc) wr)) (fun _ i _ => aggs.length - (intOf i).toNat)
        case atStart => exact ⟨0, Nat.zero_le _, rfl, Lib.hid (by simpa using HO2.out), Q2⟩
        case round =>
          clear HO2 Q2
          rename_i u i wr
          obtain ⟨k, hk, rfl, HO, QR⟩ := hrel
          obtain ⟨uA, uc, hue⟩ := HO.out.shape
          have hlk : (tl ++ (aggs.take k).map toldA).length ≤ 2000 := by have := HTL.out; rw [List.length_append, List.length_map, List.length_take]; omega
          generalize hun : (tl ++ (aggs.take k).map toldA).length = un at *
          subst hue
          obtain ⟨g0, g1, g2, g3, g4, g5, g6, g7, g8, g9, g10, g11, g12⟩ := QR.out.cells
          dsimp only [Pd.hd, Pd.kids] at g0 g1 g2 g3 g4 g5 g6 g7 g8 g9 g10 g11 g12
          by_cases hlt : k < aggs.length
          · obtain ⟨a, rfl, _, d0, d1⟩ := Ns.gat QR.out.sls.aggs k hlt
            have HY := Lib.hid (told_more (q := tl) hlt)
            have M := CB.out k hlt
            try dsimp only at d0 d1 M
            generalize hx : aggs[k] = x at *
            clear hx
            obtain ⟨xo, xn⟩ := x
            unfold agV at M
            dsimp only at d0 d1 HY M
            replace M := Lib.hid M
            generalize toldA ⟨xo, xn⟩ = y at *
            generalize tl ++ (aggs.take k).map toldA = t2 at *
            have HLK := Lib.hid (show t2.length ≤ 2000 by omega)
            clear hun hlk
            go_wp2_with fail
            refine (M.out _).mono ?_
            rintro e w3 ⟨rfl, f3⟩
            have Q3 := Lib.hid (QR.out.non f3)
            have hO3 := Lib.hid (HO.out.non f3)
            have hsz : w.heap.size + 1 ≤ w3.heap.size := by have := Q3.out.blk.lt; omega
            clear f3
            clear g0 g1 g2 g3 g4 g5 g6 g7 g8 g9 g10 g11 g12
            go_wp2_with (at_builtin; refine wpList_pushG el_str sv_one rfl (.tmp 54) (.tmp 61) rfl (w.heap.size + 1) _ t2 rfl hO3.out _ y rfl rfl (by have := HLK.out; omega) hsz ?_; intro v4 w4 hown4 hfr4)
            have HO4 := Lib.hid hown4
            have F4 : Hid (Fr Non w w4) := Lib.hid (Q3.out.fr.fresh hfr4 (fun q hq => by have := (hO3.out.lt q hq).1; omega))
            have Q4 : Hid (Qin w w.heap.size ⟨tab, cols, ⟨⟨wo, wc, wm, ⟨wn, wi, wt⟩, wk, wp⟩, wks⟩, aggs, []⟩ (.slice cA cols.length cc) ⟨sA, sn, sc⟩ (.slice (some a) aggs.length gc) w4) := Lib.hid ⟨F4.out, Q3.out.blk.fr hfr4 (fun e => by have := (hO3.out.lt _ e).1; omega), HS.out.non F4.out⟩
            clear hown4 hfr4
            go_roundw
            case rel => exact ⟨k + 1, by omega, by go_num, by rw [HY.out]; exact HO4, Q4⟩
            case measure => simp [intOf]; omega
          · have hT : aggs.take k = aggs := List.take_of_length_le (by omega)
            rw [hT, ← HE.out] at HO
            go_wp2
            go_ret
            exact ⟨_, rfl, HO.out.vs, QR.out.fr⟩
      · have hbb : (by_ == []) = false := by rw [beq_eq_false_iff_ne]; exact hb
        have hbb2 : (by_ != []) = true := by rw [bne_iff_ne]; exact hb
        obtain ⟨tm, htm⟩ : ∃ tm, tm = tl ++ [by_] := ⟨_, rfl⟩
        have HE : Hid (r = tm ++ aggs.map toldA) := Lib.hid (by rw [HR.out, htm]; unfold byN; rw [if_neg hb] <;> simp)
        clear HR hb
        go_wp2_with (first | (at_builtin; refine wpList_appG el_str sv_one rfl (.tmp 12) (.tmp 14) rfl (w.heap.size + 1) (.slice (some ⟨w1.heap.size, 0, none⟩) 0 0) (.slice cA cols.length cc) [] cols rfl (ow_lit0 _ _ _ rfl (by have := Q1.out.blk.lt; omega)) rfl (HV1.out.non ((Fr.refl _ _).alloc _)) (by simp <;> omega) (by have := Q1.out.blk.lt; simp <;> omega) ?_; intro v2 w2 hown2 hf2; have f2 : Fr Non w1 w2 := ((Fr.refl Non w1).alloc _).fresh hf2 (fun k hk => by simp [Value.ownBlock] at hk; have := Q1.out.blk.lt; omega); have Q2 := Lib.hid (Q1.out.non f2); have HO2 : Hid (Ow sv 9 w2 (w.heap.size + 1) v2 tl) := Lib.hid (by simpa [htl] using hown2); clear hown2 hf2 f2 hb1; clear g0 g1 g2 g3 g4 g5 g6 g7 g8 g9 g10 g11 g12; obtain ⟨g0, g1, g2, g3, g4, g5, g6, g7, g8, g9, g10, g11, g12⟩ := Q2.out.cells; dsimp only [Pd.hd, Pd.kids] at g0 g1 g2 g3 g4 g5 g6 g7 g8 g9 g10 g11 g12; obtain ⟨tA, tc, hte⟩ := HO2.out.shape; have hle : tl.length = cols.length := (by rw [htl]); rw [hle] at hte; clear hle; subst hte) | (at_builtin; refine wpList_pushG el_str sv_one rfl (.tmp 42) (.tmp 45) rfl (w.heap.size + 1) _ tl rfl HO2.out _ by_ rfl rfl (by have := HTL0.out; omega) (by have := Q2.out.blk.lt; omega) ?_; intro v7 w7 hown7 hfr7))
        have F7 : Hid (Fr Non w w7) := Lib.hid (Q2.out.fr.fresh hfr7 (fun q hq => by have := (HO2.out.lt q hq).1; omega))
        have Q7 : Hid (Qin w w.heap.size ⟨tab, cols, ⟨⟨wo, wc, wm, ⟨wn, wi, wt⟩, wk, wp⟩, wks⟩, aggs, by_⟩ (.slice cA cols.length cc) ⟨sA, sn, sc⟩ (.slice gA aggs.length gc) w7) := Lib.hid ⟨F7.out, Q2.out.blk.fr hfr7 (fun e => by have := (HO2.out.lt _ e).1; omega), HS.out.non F7.out⟩
        have HTL : Hid (tm.length ≤ 1300) := Lib.hid (by have := HTL0.out; rw [htm, List.length_append]; simp; omega)
        have HO7 : Hid (Ow sv 9 w7 (w.heap.size + 1) v7 tm) := Lib.hid (by rw [htm]; exact hown7)
        clear hown7 hfr7 HO2 Q2 HTL0 htm
        clear g0 g1 g2 g3 g4 g5 g6 g7 g8 g9 g10 g11 g12
        go_loopw [5, 7] (fun u i wr => ∃ k : Nat, k ≤ aggs.length ∧ i = .int .i64 k ∧ Hid (Ow sv 9 wr (w.heap.size + 1) u (tm ++ (aggs.take k).map toldA)) ∧ Hid (Qin w w.heap.size ⟨tab, cols, ⟨⟨wo, wc, wm, ⟨wn, wi, wt⟩, wk, wp⟩, wks⟩, aggs, by_⟩ (.slice cA cols.length cc) ⟨sA, sn, sc⟩ (.slice gA aggs.length gc) wr)) (fun _ i _ => aggs.length - (intOf i).toNat)
        case atStart => exact ⟨0, Nat.zero_le _, rfl, Lib.hid (by simpa using HO7.out), Q7⟩
        case round =>
          clear HO7 Q7
          rename_i u i wr
          obtain ⟨k, hk, rfl, HO, QR⟩ := hrel
          obtain ⟨uA, uc, hue⟩ := HO.out.shape
          have hlk : (tm ++ (aggs.take k).map toldA).length ≤ 2000 := by have := HTL.out; rw [List.length_append, List.length_map, List.length_take]; omega
          generalize hun : (tm ++ (aggs.take k).map toldA).length = un at *
          subst hue
          obtain ⟨g0, g1, g2, g3, g4, g5, g6, g7, g8, g9, g10, g11, g12⟩ := QR.out.cells
          dsimp only [Pd.hd, Pd.kids] at g0 g1 g2 g3 g4 g5 g6 g7 g8 g9 g10 g11 g12
          by_cases hlt : k < aggs.length
          · obtain ⟨a, rfl, _, d0, d1⟩ := Ns.gat QR.out.sls.aggs k hlt
            have HY := Lib.hid (told_more (q := tm) hlt)
            have M := CB.out k hlt
            try dsimp only at d0 d1 M
            generalize hx : aggs[k] = x at *
            clear hx
            obtain ⟨xo, xn⟩ := x
            unfold agV at M
            dsimp only at d0 d1 HY M
            replace M := Lib.hid M
            generalize toldA ⟨xo, xn⟩ = y at *
            generalize tm ++ (aggs.take k).map toldA = t2 at *
            have HLK := Lib.hid (show t2.length ≤ 2000 by omega)
            clear hun hlk
            go_wp2_with fail
            refine (M.out _).mono ?_
            rintro e w3 ⟨rfl, f3⟩
            have Q3 := Lib.hid (QR.out.non f3)
            have hO3 := Lib.hid (HO.out.non f3)
            have hsz : w.heap.size + 1 ≤ w3.heap.size := by have := Q3.out.blk.lt; omega
            clear f3
            clear g0 g1 g2 g3 g4 g5 g6 g7 g8 g9 g10 g11 g12
            go_wp2_with (at_builtin; refine wpList_pushG el_str sv_one rfl (.tmp 54) (.tmp 61) rfl (w.heap.size + 1) _ t2 rfl hO3.out _ y rfl rfl (by have := HLK.out; omega) hsz ?_; intro v4 w4 hown4 hfr4)
            have HO4 := Lib.hid hown4
            have F4 : Hid (Fr Non w w4) := Lib.hid (Q3.out.fr.fresh hfr4 (fun q hq => by have := (hO3.out.lt q hq).1; omega))
            have Q4 : Hid (Qin w w.heap.size ⟨tab, cols, ⟨⟨wo, wc, wm, ⟨wn, wi, wt⟩, wk, wp⟩, wks⟩, aggs, by_⟩ (.slice cA cols.length cc) ⟨sA, sn, sc⟩ (.slice (some a) aggs.length gc) w4) := Lib.hid ⟨F4.out, Q3.out.blk.fr hfr4 (fun e => by have := (hO3.out.lt _ e).1; omega), HS.out.non F4.out⟩
            clear hown4 hfr4
            go_roundw
            case rel => exact ⟨k + 1, by omega, by go_num, by rw [HY.out]; exact HO4, Q4⟩
            case measure => simp [intOf]; omega
          · have hT : aggs.take k = aggs := List.take_of_length_le (by omega)
            rw [hT, ← HE.out] at HO
            go_wp2
            go_ret
            exact ⟨_, rfl, HO.out.vs, QR.out.fr⟩
  · have HE := Lib.hid (HE0.out hz)
    have hzb : (z != 0) = true := by rw [bne_iff_ne]; exact hz
    clear HE0 HE1 CA hz
    go_wp2
    go_ret
    exact ⟨_, rfl, by rw [HE.out]; exact Vs.nil_ _, Q1.out.fr⟩
end Go.Proofs.YtibopcceffncpaaGreatDoor


namespace Go.Proofs.YtibopcceffncpaaGreatDoor
set_option linter.unusedVariables false
set_option linter.unusedSimpArgs false
set_option maxRecDepth 100000
open Go.RowKit

theorem colL_at {ks : List Pd} {k : Nat} (h : k < ks.length) (l : List Tx) : colL l (ks.drop k) = colL (colP l ks[k]) (ks.drop (k + 1)) := by rw [List.drop_eq_getElem_cons h, colL]
theorem colL_end {ks : List Pd} {k : Nat} (h : ks.length ≤ k) (l : List Tx) : colL l (ks.drop k) = l := by rw [List.drop_eq_nil_of_le h, colL]
/-- a row of texts, from block B on -/
def Sr (B : Nat) (W : World) (q : Nat) : Prop := B ≤ q ∧ ∃ cur, W.heap[q]? = some (.cells cur 9 (0, 0))
theorem fr_sr {B : Nat} {W W1 W2 : World} (h : Fr (Sr B W) W W1) (h2 : Fr (Sr B W1) W1 W2) : Fr (Sr B W) W W2 := by
  refine h.join h2 (fun q hq ⟨h3, cur, h4⟩ => ?_)
  refine Classical.byContradiction fun hn => hn ⟨h3, cur, ?_⟩
  rw [← h.block q hq hn]; exact h4
theorem fr_own {B : Nat} {W W1 : World} {v : Value} {l : List Tx} (ho : Ow sv 9 W B v l) (h : Fr (fun q => v.ownBlock = some q) W W1) : Fr (Sr B W) W W1 :=
  h.mono fun q _ e => ⟨(ho.lt q e).1, ho.kind q e⟩
theorem sr_pd {B : Nat} {W : World} {g : Nat} {h : Ph} {s : Kv} (e : PdB W g h s) : ¬ Sr B W g := by
  rintro ⟨_, cur, h1⟩
  unfold PdB Blk at e
  rw [e] at h1
  simp at h1
theorem in_more {l : List Tx} {x : Tx} {k : Nat} (h : k < l.length) : decide (x ∈ l.take (k + 1)) = (decide (x ∈ l.take k) || (l[k] == x)) := by
  rw [List.take_succ_eq_append_getElem h, Bool.eq_iff_iff, decide_eq_true_eq, List.mem_append, Bool.or_eq_true, decide_eq_true_eq, List.mem_singleton, beq_iff_eq]
  exact ⟨fun h => h.imp id Eq.symm, fun h => h.imp id Eq.symm⟩
set_option maxHeartbeats 8000000 in
theorem rcols_any (w0 : World) (p : Pd) : ∀ (l : List Tx) (v : Value) (w : World) (t : Kv), Fr Non w0 w → Ow sv 9 w w0.heap.size v l → l.length + cntP p ≤ 1000 → Kd w0 t p.kids → lenP p = true →
    Calls Tryz.prog 42 #[v, pdV p.hd t] w fun e w' => ∃ v', e = .returned v' ∧ Ow sv 9 w' w0.heap.size v' (colP l p) ∧ Fr (Sr w0.heap.size w) w w' := by
  induction p using Pd.ind with
  | h hd ks ih =>
    intro l v w t hF hO hlen hk hl
    dsimp only [Pd.hd, Pd.kids] at hk ⊢
    have hls := lenP_mk hl
    have hn := hk.len
    have hcnt := hlen
    rw [cntP] at hcnt
    have hal := addC_len l hd
    have IH : Hid (∀ k (h : k < ks.length) (l' : List Tx) (v' : Value) (W : World) (t' : Kv), Fr Non w0 W → Ow sv 9 W w0.heap.size v' l' → l'.length + cntP ks[k] ≤ 1000 → Kd w0 t' ks[k].kids →
        Calls Tryz.prog 42 #[v', pdV ks[k].hd t'] W fun e w' => ∃ u, e = .returned u ∧ Ow sv 9 w' w0.heap.size u (colP l' ks[k]) ∧ Fr (Sr w0.heap.size W) W w') :=
      Lib.hid (fun k h l' v' W t' a b c d => ih _ (List.getElem_mem h) l' v' W t' a b c d (hls.2.2.2.2 _ (List.getElem_mem h)))
    have HE0 : Hid (colP l (.mk hd ks) = colL (addC l hd) ks) := Lib.hid (by rw [colP])
    have HAN := Lib.hid (fun e => addC_no (l := l) (h := hd) e)
    have HAY := Lib.hid (fun e f => addC_yes (l := l) (h := hd) e f)
    have PB0 := pd_new w _ hd t rfl
    have F0 : Fr Non w (w.alloc (.cells (pdC hd t) 28)) := (Fr.refl Non w).alloc _
    have HO := Lib.hid (hO.non F0)
    have FR := Lib.hid (F0.any (S := Sr w0.heap.size w))
    have PB := Lib.hid PB0
    have HF := Lib.hid hF
    have HK := Lib.hid hk
    generalize colP l (.mk hd ks) = rr at *
    obtain ⟨vA, vc, hve⟩ := hO.shape
    have hls1 := hls.1
    have hsz0 : w0.heap.size ≤ w.heap.size := hF.size
    clear ih hk hl hls hF hO F0 PB0 hlen
    obtain ⟨ho, hc, hm, ⟨vn, vi, vt⟩, hkd, hp⟩ := hd
    obtain ⟨A, n, c⟩ := t
    dsimp only at hn HAN HAY
    have HL := Lib.hid hn
    have hn20 : n ≤ 20 := by omega
    clear hn hls1
    subst hve
    unfold pdV
    by_cases h0 : hc = []
    · have HE : Hid (rr = colL l ks) := Lib.hid (by rw [HE0.out, HAN.out (.inl h0)])
      subst h0
      clear HE0 HAN HAY
      unfold pdC kidV
      dsimp only
      go_enter Tryz.func42, Tryz.ntmps42
      go_wp2
      have HQ0 : Hid (rr = colL l (ks.drop 0)) := HE
      have HN0 : Hid ((l).length + cntL (ks.drop 0) ≤ 1000) := Lib.hid (by rw [List.drop_zero]; omega)
      go_loopw [0, 7] (fun u i wr => ∃ (k : Nat) (lk : List Tx), k ≤ n ∧ i = .int .i64 k ∧ Hid (Ow sv 9 wr w0.heap.size u lk) ∧ Hid (rr = colL lk (ks.drop k)) ∧ Hid (lk.length + cntL (ks.drop k) ≤ 1000) ∧ Hid (Fr (Sr w0.heap.size w) w wr) ∧ Hid (PdB wr w.heap.size ⟨ho, [], hm, ⟨vn, vi, vt⟩, hkd, hp⟩ ⟨A, n, c⟩)) (fun _ i _ => n - (intOf i).toNat)
      case atStart => exact ⟨0, l, Nat.zero_le _, rfl, HO, HQ0, HN0, FR, PB⟩
      case round =>
        rename_i u i wr
        obtain ⟨k, lk, hk, rfl, HOk, HQ, HN, FRk, PBk⟩ := hrel
        have b8 := PBk.out.cell 8
        simp [pdC, kidV] at b8
        have HFw : Hid (Fr Non w0 wr) := Lib.hid (HF.out.fresh FRk.out (fun q hq => hq.1))
        obtain ⟨uA, uc, hue⟩ := HOk.out.shape
        subst hue
        by_cases hlt : k < n
        · have hlt2 : k < ks.length := by have := HL.out; omega
          obtain ⟨a, t, hA, hc2, hkk, _⟩ := HK.out.elN HFw.out k hlt2
          have HC := Lib.hid (IH.out k hlt2 lk _ wr t HFw.out HOk.out (by have := HN.out; rw [List.drop_eq_getElem_cons hlt2, cntL] at this; omega) hkk)
          have HQ2 := Lib.hid (HQ.out.trans (colL_at hlt2 lk))
          have HN2 : Hid ((colP lk ks[k]).length + cntL (ks.drop (k + 1)) ≤ 1000) := Lib.hid (by
            have h1 := HN.out
            rw [List.drop_eq_getElem_cons hlt2, cntL] at h1
            have h2 := colP_len ks[k] lk
            omega)
          dsimp only at hA
          subst hA
          obtain ⟨c0, c1, c2, c3, c4, c5, c6, c7, c8⟩ := hc2
          clear hkk HQ HN
          generalize colP lk ks[k] = l2 at *
          generalize ks[k].hd = x at *
          obtain ⟨xo, xc, xm, ⟨xn, xi, xt⟩, xk, xp⟩ := x
          obtain ⟨tA, tn, tc⟩ := t
          unfold pdV pdC kidV at HC
          dsimp only at HC c0 c1 c2 c3 c4 c5 c6 c7 c8
          go_wp2_with fail
          refine HC.out.mono ?_
          rintro e w2 ⟨v', rfl, hown2, f2⟩
          have HO5 := Lib.hid hown2
          have FR5 := Lib.hid (fr_sr FRk.out f2)
          have PB5 := Lib.hid (PBk.out.fr f2 (sr_pd PBk.out))
          clear hown2 f2 HC
          go_wp2
          go_roundw
          case rel => exact ⟨k + 1, l2, by omega, by go_num, HO5, HQ2, HN2, FR5, PB5⟩
          case measure => simp [intOf]; omega
        · have HR : Hid (rr = lk) := Lib.hid (HQ.out.trans (colL_end (by have := HL.out; omega) lk))
          clear HQ
          go_wp2
          go_ret
          exact ⟨_, rfl, by rw [HR.out]; exact HOk.out, FRk.out⟩
    · have hb1 : (hc == []) = false := by rw [beq_eq_false_iff_ne]; exact h0
      have HP0 : Hid (∀ k (h : k < l.length), ∃ a, vA = some a ∧ (w.alloc (.cells (pdC ⟨ho, hc, hm, ⟨vn, vi, vt⟩, hkd, hp⟩ ⟨A, n, c⟩) 28)).cell? (a.add k) = some (.string ⟨l[k].toArray⟩)) := Lib.hid (fun k h => by
        obtain ⟨a, ha, _, _, hcl⟩ := HO.out.vs.addr (by omega)
        exact ⟨a, ha, hcl k h⟩)
      have HB0 : Hid (false = decide (hc ∈ l.take 0)) := Lib.hid (by simp)
      unfold pdC kidV
      dsimp only
      go_enter Tryz.func42, Tryz.ntmps42
      go_wp2
      go_loopw [5, 6] (fun x i wr => ∃ (k : Nat) (b : Bool), k ≤ l.length ∧ i = .int .i64 k ∧ x = .bool b ∧ Hid (b = decide (hc ∈ l.take k)) ∧ Hid (Fr Non (w.alloc (.cells (pdC ⟨ho, hc, hm, ⟨vn, vi, vt⟩, hkd, hp⟩ ⟨A, n, c⟩) 28)) wr)) (fun _ i _ => l.length - (intOf i).toNat)
      case atStart => exact ⟨0, false, Nat.zero_le _, rfl, rfl, HB0, Lib.hid (Fr.refl _ _)⟩
      case round =>
        clear HB0
        obtain ⟨k, b, hk, rfl, rfl, HB, F1⟩ := hrel
        have hl1000 : l.length ≤ 1000 := by omega
        have HPw := Lib.hid (PB.out.fr F1.out (fun e => e))
        by_cases hlt : k < l.length
        · obtain ⟨a, ha, hcl⟩ := HP0.out k hlt
          subst ha
          have q2 : wr.drew.cell? (a.add k) = _ := (F1.out.drew.cell (World.block_lt_of_cell? _ _ hcl) (fun e => e)).trans hcl
          have q1 : wr.drew.cell? ⟨w.heap.size, 1, none⟩ = _ := (HPw.out.drew).cell 1
          simp [pdC] at q1
          have HB2 := Lib.hid (in_more (x := hc) hlt)
          clear hcl
          generalize l[k] = y at *
          cases b
          · cases hy : (y == hc)
            · have HB3 : Hid (false = decide (hc ∈ l.take (k + 1))) := Lib.hid (by rw [HB2.out, ← HB.out, hy]; rfl)
              clear HB HB2
              go_wp2
              refine wp_region_held_drew (S := (fun W => W.cell? ⟨w.heap.size, 1, none⟩ = some (.string ⟨hc.toArray⟩) ∧ W.cell? (a.add k) = some (.string ⟨y.toArray⟩))) (by kernel_rfl) (by exact ⟨q1, q2⟩) (fun hHeld => ?_)
              refine wpAnyH_take (i := 0) (oi := ⟨some 17, _, _, _, _, none⟩) (v := ?v1) rfl (by kernel_rfl) (by kernel_rfl) (by kernel_rfl) (fun _ _ _ h => h) (Or.inl ⟨by rfl, ?hy1⟩) (by assumption) ?rest1
              case hy1 => (intro wS hSw; (try dsimp only at hSw); go_simp; (try with_reducible rfl))
              (try simp only [Act.put, List.setIfInBounds_toArray, List.set_cons_zero, List.set_cons_succ])
              refine wpAnyH_take (i := 1) (oi := ⟨some 18, _, _, _, _, none⟩) (v := ?v2) rfl (by kernel_rfl) (by kernel_rfl) (by kernel_rfl) (fun _ _ _ h => h) (Or.inl ⟨by rfl, ?hy2⟩) (by assumption) ?rest2
              case hy2 => (intro wS hSw; (try dsimp only at hSw); go_simp; (try with_reducible rfl))
              (try simp only [Act.put, List.setIfInBounds_toArray, List.set_cons_zero, List.set_cons_succ])
              refine wpAnyH_take (i := 2) (oi := ⟨some 19, _, _, _, _, some (1, false)⟩) (v := ?v3) rfl (by kernel_rfl) (by kernel_rfl) (by kernel_rfl) (fun _ _ _ h => h) (Or.inl ⟨by rfl, ?hy3⟩) (by assumption) ?rest3
              case hy3 => (intro wS hSw; (try dsimp only at hSw); go_simp; (try with_reducible rfl))
              (try simp only [Act.put, List.setIfInBounds_toArray, List.set_cons_zero, List.set_cons_succ])
              refine wpAnyH_take (i := 3) (oi := ⟨some 20, _, _, _, _, some (1, false)⟩) (v := ?v4) rfl (by kernel_rfl) (by kernel_rfl) (by kernel_rfl) (fun _ _ _ h => h) (Or.inl ⟨by rfl, ?hy4⟩) (by assumption) ?rest4
              case hy4 => (intro wS hSw; (try dsimp only at hSw); go_simp; (try with_reducible rfl))
              (try simp only [Act.put, List.setIfInBounds_toArray, List.set_cons_zero, List.set_cons_succ])
              refine wpAnyH_take (i := 4) (oi := ⟨some 21, _, _, _, _, some (1, false)⟩) (v := ?v5) rfl (by kernel_rfl) (by kernel_rfl) (by kernel_rfl) (fun _ _ _ h => h) (Or.inl ⟨by rfl, ?hy5⟩) (by assumption) ?rest5
              case hy5 => (intro wS hSw; (try dsimp only at hSw); go_simp; (try with_reducible rfl))
              (try simp only [Act.put, List.setIfInBounds_toArray, List.set_cons_zero, List.set_cons_succ])
              refine wpAnyH_take (i := 5) (oi := ⟨some 22, _, _, _, _, some (1, false)⟩) (v := ?v6) rfl (by kernel_rfl) (by kernel_rfl) (by kernel_rfl) (fun _ _ _ h => h) (Or.inl ⟨by rfl, ?hy6⟩) (by assumption) ?rest6
              case hy6 => (intro wS hSw; (try dsimp only at hSw); go_simp; (try with_reducible rfl))
              (try simp only [Act.put, List.setIfInBounds_toArray, List.set_cons_zero, List.set_cons_succ])
              refine wpAnyH_take (i := 6) (oi := ⟨some 23, _, _, _, _, some (1, false)⟩) (v := ?v7) rfl (by kernel_rfl) (by kernel_rfl) (by kernel_rfl) (fun _ _ _ h => h) (Or.inl ⟨by rfl, ?hy7⟩) (by assumption) ?rest7
              case hy7 => (intro wS hSw; (try dsimp only at hSw); go_simp; (try with_reducible rfl))
              (try simp only [Act.put, List.setIfInBounds_toArray, List.set_cons_zero, List.set_cons_succ])
              refine wpAnyH_take (i := 7) (oi := ⟨some 24, _, _, _, _, some (1, false)⟩) (v := ?v8) rfl (by kernel_rfl) (by kernel_rfl) (by kernel_rfl) (fun _ _ _ h => h) (Or.inl ⟨by rfl, ?hy8⟩) (by assumption) ?rest8
              case hy8 => (intro wS hSw; (try dsimp only at hSw); go_simp; (try with_reducible rfl))
              (try simp only [Act.put, List.setIfInBounds_toArray, List.set_cons_zero, List.set_cons_succ])
              refine wpAnyH_take (i := 8) (oi := ⟨some 25, _, _, _, _, some (1, false)⟩) (v := ?v9) rfl (by kernel_rfl) (by kernel_rfl) (by kernel_rfl) (fun _ _ _ h => h) (Or.inl ⟨by rfl, ?hy9⟩) (by assumption) ?rest9
              case hy9 => (intro wS hSw; (try dsimp only at hSw); go_simp; (try with_reducible rfl))
              (try simp only [Act.put, List.setIfInBounds_toArray, List.set_cons_zero, List.set_cons_succ])
              refine wpAnyH_take (i := 9) (oi := ⟨some 26, _, _, _, _, none⟩) (v := ?v10) rfl (by kernel_rfl) (by kernel_rfl) (by kernel_rfl) (fun _ _ _ h => h) (Or.inl ⟨by rfl, ?hy10⟩) (by assumption) ?rest10
              case hy10 => (intro wS hSw; (try dsimp only at hSw); go_simp; (try with_reducible rfl))
              (try simp only [Act.put, List.setIfInBounds_toArray, List.set_cons_zero, List.set_cons_succ])
              refine wpAnyH_take (i := 10) (oi := ⟨some 5, _, _, _, _, none⟩) (v := ?v11) rfl (by kernel_rfl) (by kernel_rfl) (by kernel_rfl) (fun _ _ _ h => h) (Or.inl ⟨by rfl, ?hy11⟩) (by assumption) ?rest11
              case hy11 => (intro wS hSw; (try dsimp only at hSw); go_simp; (try with_reducible rfl))
              (try simp only [Act.put, List.setIfInBounds_toArray, List.set_cons_zero, List.set_cons_succ])
              refine wpAnyH_done (by kernel_rfl) ?_ _
              go_wp2
              go_roundw
              case rel => exact ⟨k + 1, false, by omega, by go_num, rfl, HB3, Lib.hid F1.out.drew⟩
              case measure => simp [intOf]; omega
            · have HB3 : Hid (true = decide (hc ∈ l.take (k + 1))) := Lib.hid (by rw [HB2.out, ← HB.out, hy]; rfl)
              clear HB HB2
              go_wp2
              refine wp_region_held_drew (S := (fun W => W.cell? ⟨w.heap.size, 1, none⟩ = some (.string ⟨hc.toArray⟩) ∧ W.cell? (a.add k) = some (.string ⟨y.toArray⟩))) (by kernel_rfl) (by exact ⟨q1, q2⟩) (fun hHeld => ?_)
              refine wpAnyH_take (i := 0) (oi := ⟨some 17, _, _, _, _, none⟩) (v := ?v12) rfl (by kernel_rfl) (by kernel_rfl) (by kernel_rfl) (fun _ _ _ h => h) (Or.inl ⟨by rfl, ?hy12⟩) (by assumption) ?rest12
              case hy12 => (intro wS hSw; (try dsimp only at hSw); go_simp; (try with_reducible rfl))
              (try simp only [Act.put, List.setIfInBounds_toArray, List.set_cons_zero, List.set_cons_succ])
              refine wpAnyH_take (i := 1) (oi := ⟨some 18, _, _, _, _, none⟩) (v := ?v13) rfl (by kernel_rfl) (by kernel_rfl) (by kernel_rfl) (fun _ _ _ h => h) (Or.inl ⟨by rfl, ?hy13⟩) (by assumption) ?rest13
              case hy13 => (intro wS hSw; (try dsimp only at hSw); go_simp; (try with_reducible rfl))
              (try simp only [Act.put, List.setIfInBounds_toArray, List.set_cons_zero, List.set_cons_succ])
              refine wpAnyH_take (i := 2) (oi := ⟨some 19, _, _, _, _, some (1, false)⟩) (v := ?v14) rfl (by kernel_rfl) (by kernel_rfl) (by kernel_rfl) (fun _ _ _ h => h) (Or.inl ⟨by rfl, ?hy14⟩) (by assumption) ?rest14
              case hy14 => (intro wS hSw; (try dsimp only at hSw); go_simp; (try with_reducible rfl))
              (try simp only [Act.put, List.setIfInBounds_toArray, List.set_cons_zero, List.set_cons_succ])
              refine wpAnyH_take (i := 3) (oi := ⟨some 20, _, _, _, _, some (1, false)⟩) (v := ?v15) rfl (by kernel_rfl) (by kernel_rfl) (by kernel_rfl) (fun _ _ _ h => h) (Or.inl ⟨by rfl, ?hy15⟩) (by assumption) ?rest15
              case hy15 => (intro wS hSw; (try dsimp only at hSw); go_simp; (try with_reducible rfl))
              (try simp only [Act.put, List.setIfInBounds_toArray, List.set_cons_zero, List.set_cons_succ])
              refine wpAnyH_take (i := 4) (oi := ⟨some 21, _, _, _, _, some (1, false)⟩) (v := ?v16) rfl (by kernel_rfl) (by kernel_rfl) (by kernel_rfl) (fun _ _ _ h => h) (Or.inl ⟨by rfl, ?hy16⟩) (by assumption) ?rest16
              case hy16 => (intro wS hSw; (try dsimp only at hSw); go_simp; (try with_reducible rfl))
              (try simp only [Act.put, List.setIfInBounds_toArray, List.set_cons_zero, List.set_cons_succ])
              refine wpAnyH_take (i := 5) (oi := ⟨some 22, _, _, _, _, some (1, false)⟩) (v := ?v17) rfl (by kernel_rfl) (by kernel_rfl) (by kernel_rfl) (fun _ _ _ h => h) (Or.inl ⟨by rfl, ?hy17⟩) (by assumption) ?rest17
              case hy17 => (intro wS hSw; (try dsimp only at hSw); go_simp; (try with_reducible rfl))
              (try simp only [Act.put, List.setIfInBounds_toArray, List.set_cons_zero, List.set_cons_succ])
              refine wpAnyH_take (i := 6) (oi := ⟨some 23, _, _, _, _, some (1, false)⟩) (v := ?v18) rfl (by kernel_rfl) (by kernel_rfl) (by kernel_rfl) (fun _ _ _ h => h) (Or.inl ⟨by rfl, ?hy18⟩) (by assumption) ?rest18
              case hy18 => (intro wS hSw; (try dsimp only at hSw); go_simp; (try with_reducible rfl))
              (try simp only [Act.put, List.setIfInBounds_toArray, List.set_cons_zero, List.set_cons_succ])
              refine wpAnyH_take (i := 7) (oi := ⟨some 24, _, _, _, _, some (1, false)⟩) (v := ?v19) rfl (by kernel_rfl) (by kernel_rfl) (by kernel_rfl) (fun _ _ _ h => h) (Or.inl ⟨by rfl, ?hy19⟩) (by assumption) ?rest19
              case hy19 => (intro wS hSw; (try dsimp only at hSw); go_simp; (try with_reducible rfl))
              (try simp only [Act.put, List.setIfInBounds_toArray, List.set_cons_zero, List.set_cons_succ])
              refine wpAnyH_take (i := 8) (oi := ⟨some 25, _, _, _, _, some (1, false)⟩) (v := ?v20) rfl (by kernel_rfl) (by kernel_rfl) (by kernel_rfl) (fun _ _ _ h => h) (Or.inl ⟨by rfl, ?hy20⟩) (by assumption) ?rest20
              case hy20 => (intro wS hSw; (try dsimp only at hSw); go_simp; (try with_reducible rfl))
              (try simp only [Act.put, List.setIfInBounds_toArray, List.set_cons_zero, List.set_cons_succ])
              refine wpAnyH_take (i := 9) (oi := ⟨some 26, _, _, _, _, none⟩) (v := ?v21) rfl (by kernel_rfl) (by kernel_rfl) (by kernel_rfl) (fun _ _ _ h => h) (Or.inl ⟨by rfl, ?hy21⟩) (by assumption) ?rest21
              case hy21 => (intro wS hSw; (try dsimp only at hSw); go_simp; (try with_reducible rfl))
              (try simp only [Act.put, List.setIfInBounds_toArray, List.set_cons_zero, List.set_cons_succ])
              refine wpAnyH_take (i := 10) (oi := ⟨some 5, _, _, _, _, none⟩) (v := ?v22) rfl (by kernel_rfl) (by kernel_rfl) (by kernel_rfl) (fun _ _ _ h => h) (Or.inl ⟨by rfl, ?hy22⟩) (by assumption) ?rest22
              case hy22 => (intro wS hSw; (try dsimp only at hSw); go_simp; (try with_reducible rfl))
              (try simp only [Act.put, List.setIfInBounds_toArray, List.set_cons_zero, List.set_cons_succ])
              refine wpAnyH_done (by kernel_rfl) ?_ _
              go_wp2
              go_roundw
              case rel => exact ⟨k + 1, true, by omega, by go_num, rfl, HB3, Lib.hid F1.out.drew⟩
              case measure => simp [intOf]; omega
          · have HB3 : Hid (true = decide (hc ∈ l.take (k + 1))) := Lib.hid (by rw [HB2.out, ← HB.out]; rfl)
            clear HB HB2
            go_wp2
            refine wp_region_held_drew (S := (fun W => W.cell? ⟨w.heap.size, 1, none⟩ = some (.string ⟨hc.toArray⟩) ∧ W.cell? (a.add k) = some (.string ⟨y.toArray⟩))) (by kernel_rfl) (by exact ⟨q1, q2⟩) (fun hHeld => ?_)
            refine wpAnyH_take (i := 0) (oi := ⟨some 17, _, _, _, _, none⟩) (v := ?v23) rfl (by kernel_rfl) (by kernel_rfl) (by kernel_rfl) (fun _ _ _ h => h) (Or.inl ⟨by rfl, ?hy23⟩) (by assumption) ?rest23
            case hy23 => (intro wS hSw; (try dsimp only at hSw); go_simp; (try with_reducible rfl))
            (try simp only [Act.put, List.setIfInBounds_toArray, List.set_cons_zero, List.set_cons_succ])
            refine wpAnyH_take (i := 1) (oi := ⟨some 18, _, _, _, _, none⟩) (v := ?v24) rfl (by kernel_rfl) (by kernel_rfl) (by kernel_rfl) (fun _ _ _ h => h) (Or.inl ⟨by rfl, ?hy24⟩) (by assumption) ?rest24
            case hy24 => (intro wS hSw; (try dsimp only at hSw); go_simp; (try with_reducible rfl))
            (try simp only [Act.put, List.setIfInBounds_toArray, List.set_cons_zero, List.set_cons_succ])
            refine wpAnyH_take (i := 2) (oi := ⟨some 19, _, _, _, _, some (1, false)⟩) (v := undef) rfl (by kernel_rfl) (by kernel_rfl) (by kernel_rfl) (fun _ _ _ h => h) (Or.inr ⟨by rfl, rfl⟩) (by assumption) ?_
            (try simp only [Act.put, List.setIfInBounds_toArray, List.set_cons_zero, List.set_cons_succ])
            refine wpAnyH_take (i := 3) (oi := ⟨some 20, _, _, _, _, some (1, false)⟩) (v := undef) rfl (by kernel_rfl) (by kernel_rfl) (by kernel_rfl) (fun _ _ _ h => h) (Or.inr ⟨by rfl, rfl⟩) (by assumption) ?_
            (try simp only [Act.put, List.setIfInBounds_toArray, List.set_cons_zero, List.set_cons_succ])
            refine wpAnyH_take (i := 4) (oi := ⟨some 21, _, _, _, _, some (1, false)⟩) (v := undef) rfl (by kernel_rfl) (by kernel_rfl) (by kernel_rfl) (fun _ _ _ h => h) (Or.inr ⟨by rfl, rfl⟩) (by assumption) ?_
            (try simp only [Act.put, List.setIfInBounds_toArray, List.set_cons_zero, List.set_cons_succ])
            refine wpAnyH_take (i := 5) (oi := ⟨some 22, _, _, _, _, some (1, false)⟩) (v := undef) rfl (by kernel_rfl) (by kernel_rfl) (by kernel_rfl) (fun _ _ _ h => h) (Or.inr ⟨by rfl, rfl⟩) (by assumption) ?_
            (try simp only [Act.put, List.setIfInBounds_toArray, List.set_cons_zero, List.set_cons_succ])
            refine wpAnyH_take (i := 6) (oi := ⟨some 23, _, _, _, _, some (1, false)⟩) (v := undef) rfl (by kernel_rfl) (by kernel_rfl) (by kernel_rfl) (fun _ _ _ h => h) (Or.inr ⟨by rfl, rfl⟩) (by assumption) ?_
            (try simp only [Act.put, List.setIfInBounds_toArray, List.set_cons_zero, List.set_cons_succ])
            refine wpAnyH_take (i := 7) (oi := ⟨some 24, _, _, _, _, some (1, false)⟩) (v := undef) rfl (by kernel_rfl) (by kernel_rfl) (by kernel_rfl) (fun _ _ _ h => h) (Or.inr ⟨by rfl, rfl⟩) (by assumption) ?_
            (try simp only [Act.put, List.setIfInBounds_toArray, List.set_cons_zero, List.set_cons_succ])
            refine wpAnyH_take (i := 8) (oi := ⟨some 25, _, _, _, _, some (1, false)⟩) (v := undef) rfl (by kernel_rfl) (by kernel_rfl) (by kernel_rfl) (fun _ _ _ h => h) (Or.inr ⟨by rfl, rfl⟩) (by assumption) ?_
            (try simp only [Act.put, List.setIfInBounds_toArray, List.set_cons_zero, List.set_cons_succ])
            refine wpAnyH_take (i := 9) (oi := ⟨some 26, _, _, _, _, none⟩) (v := ?v25) rfl (by kernel_rfl) (by kernel_rfl) (by kernel_rfl) (fun _ _ _ h => h) (Or.inl ⟨by rfl, ?hy25⟩) (by assumption) ?rest25
            case hy25 => (intro wS hSw; (try dsimp only at hSw); go_simp; (try with_reducible rfl))
            (try simp only [Act.put, List.setIfInBounds_toArray, List.set_cons_zero, List.set_cons_succ])
            refine wpAnyH_take (i := 10) (oi := ⟨some 5, _, _, _, _, none⟩) (v := ?v26) rfl (by kernel_rfl) (by kernel_rfl) (by kernel_rfl) (fun _ _ _ h => h) (Or.inl ⟨by rfl, ?hy26⟩) (by assumption) ?rest26
            case hy26 => (intro wS hSw; (try dsimp only at hSw); go_simp; (try with_reducible rfl))
            (try simp only [Act.put, List.setIfInBounds_toArray, List.set_cons_zero, List.set_cons_succ])
            refine wpAnyH_done (by kernel_rfl) ?_ _
            go_wp2
            go_roundw
            case rel => exact ⟨k + 1, true, by omega, by go_num, rfl, HB3, Lib.hid F1.out.drew⟩
            case measure => simp [intOf]; omega
        · have HB4 : Hid (b = decide (hc ∈ l)) := Lib.hid (by rw [HB.out, List.take_of_length_le (by omega)])
          have HO1 := Lib.hid (HO.out.non F1.out)
          have FR1 := Lib.hid (FR.out.then F1.out)
          clear HB HO FR PB HP0
          cases b
          · have hni : ¬ hc ∈ l := of_decide_eq_false HB4.out.symm
            have HE : Hid (rr = colL (l ++ [hc]) ks) := Lib.hid (by rw [HE0.out, HAY.out h0 hni])
            clear HE0 HAN HAY HB4 hni h0
            have g1 := HPw.out.cell 1
            simp [pdC] at g1
            have hszr : w0.heap.size ≤ wr.heap.size := Nat.le_trans hsz0 FR1.out.size
            go_wp2_with (at_builtin; refine wpList_pushG el_str sv_one rfl (.tmp 29) (.tmp 32) rfl w0.heap.size _ l rfl HO1.out _ hc rfl rfl (by omega) hszr ?_; intro v3 w3 hown3 hfr3)
            have HO3 := Lib.hid hown3
            have FR3 := Lib.hid (fr_sr FR1.out (fr_own HO1.out hfr3))
            have PB3 := Lib.hid (HPw.out.fr (fr_own HO1.out hfr3) (sr_pd HPw.out))
            clear hown3 hfr3 g1
            try go_wp2
            have HQ0 : Hid (rr = colL (l ++ [hc]) (ks.drop 0)) := HE
            have HN0 : Hid (((l ++ [hc])).length + cntL (ks.drop 0) ≤ 1000) := Lib.hid (by rw [List.drop_zero, List.length_append]; simp; omega)
            go_loopw [0, 7] (fun u i wr => ∃ (k : Nat) (lk : List Tx), k ≤ n ∧ i = .int .i64 k ∧ Hid (Ow sv 9 wr w0.heap.size u lk) ∧ Hid (rr = colL lk (ks.drop k)) ∧ Hid (lk.length + cntL (ks.drop k) ≤ 1000) ∧ Hid (Fr (Sr w0.heap.size w) w wr) ∧ Hid (PdB wr w.heap.size ⟨ho, hc, hm, ⟨vn, vi, vt⟩, hkd, hp⟩ ⟨A, n, c⟩)) (fun _ i _ => n - (intOf i).toNat)
            case atStart => exact ⟨0, (l ++ [hc]), Nat.zero_le _, rfl, HO3, HQ0, HN0, FR3, PB3⟩
            case round =>
              rename_i u i wr
              obtain ⟨k, lk, hk, rfl, HOk, HQ, HN, FRk, PBk⟩ := hrel
              have b8 := PBk.out.cell 8
              simp [pdC, kidV] at b8
              have HFw : Hid (Fr Non w0 wr) := Lib.hid (HF.out.fresh FRk.out (fun q hq => hq.1))
              obtain ⟨uA, uc, hue⟩ := HOk.out.shape
              subst hue
              by_cases hlt : k < n
              · have hlt2 : k < ks.length := by have := HL.out; omega
                obtain ⟨a, t, hA, hc2, hkk, _⟩ := HK.out.elN HFw.out k hlt2
                have HC := Lib.hid (IH.out k hlt2 lk _ wr t HFw.out HOk.out (by have := HN.out; rw [List.drop_eq_getElem_cons hlt2, cntL] at this; omega) hkk)
                have HQ2 := Lib.hid (HQ.out.trans (colL_at hlt2 lk))
                have HN2 : Hid ((colP lk ks[k]).length + cntL (ks.drop (k + 1)) ≤ 1000) := Lib.hid (by
                  have h1 := HN.out
                  rw [List.drop_eq_getElem_cons hlt2, cntL] at h1
                  have h2 := colP_len ks[k] lk
                  omega)
                dsimp only at hA
                subst hA
                obtain ⟨c0, c1, c2, c3, c4, c5, c6, c7, c8⟩ := hc2
                clear hkk HQ HN
                generalize colP lk ks[k] = l2 at *
                generalize ks[k].hd = x at *
                obtain ⟨xo, xc, xm, ⟨xn, xi, xt⟩, xk, xp⟩ := x
                obtain ⟨tA, tn, tc⟩ := t
                unfold pdV pdC kidV at HC
                dsimp only at HC c0 c1 c2 c3 c4 c5 c6 c7 c8
                go_wp2_with fail
                refine HC.out.mono ?_
                rintro e w2 ⟨v', rfl, hown2, f2⟩
                have HO5 := Lib.hid hown2
                have FR5 := Lib.hid (fr_sr FRk.out f2)
                have PB5 := Lib.hid (PBk.out.fr f2 (sr_pd PBk.out))
                clear hown2 f2 HC
                go_wp2
                go_roundw
                case rel => exact ⟨k + 1, l2, by omega, by go_num, HO5, HQ2, HN2, FR5, PB5⟩
                case measure => simp [intOf]; omega
              · have HR : Hid (rr = lk) := Lib.hid (HQ.out.trans (colL_end (by have := HL.out; omega) lk))
                clear HQ
                go_wp2
                go_ret
                exact ⟨_, rfl, by rw [HR.out]; exact HOk.out, FRk.out⟩
          · have hin : hc ∈ l := of_decide_eq_true HB4.out.symm
            have HE : Hid (rr = colL l ks) := Lib.hid (by rw [HE0.out, HAN.out (.inr hin)])
            clear HE0 HAN HAY HB4 hin h0
            go_wp2
            have HQ0 : Hid (rr = colL l (ks.drop 0)) := HE
            have HN0 : Hid ((l).length + cntL (ks.drop 0) ≤ 1000) := Lib.hid (by rw [List.drop_zero]; omega)
            go_loopw [0, 7] (fun u i wr => ∃ (k : Nat) (lk : List Tx), k ≤ n ∧ i = .int .i64 k ∧ Hid (Ow sv 9 wr w0.heap.size u lk) ∧ Hid (rr = colL lk (ks.drop k)) ∧ Hid (lk.length + cntL (ks.drop k) ≤ 1000) ∧ Hid (Fr (Sr w0.heap.size w) w wr) ∧ Hid (PdB wr w.heap.size ⟨ho, hc, hm, ⟨vn, vi, vt⟩, hkd, hp⟩ ⟨A, n, c⟩)) (fun _ i _ => n - (intOf i).toNat)
            case atStart => exact ⟨0, l, Nat.zero_le _, rfl, HO1, HQ0, HN0, FR1, HPw⟩
            case round =>
              rename_i u i wr
              obtain ⟨k, lk, hk, rfl, HOk, HQ, HN, FRk, PBk⟩ := hrel
              have b8 := PBk.out.cell 8
              simp [pdC, kidV] at b8
              have HFw : Hid (Fr Non w0 wr) := Lib.hid (HF.out.fresh FRk.out (fun q hq => hq.1))
              obtain ⟨uA, uc, hue⟩ := HOk.out.shape
              subst hue
              by_cases hlt : k < n
              · have hlt2 : k < ks.length := by have := HL.out; omega
                obtain ⟨a, t, hA, hc2, hkk, _⟩ := HK.out.elN HFw.out k hlt2
                have HC := Lib.hid (IH.out k hlt2 lk _ wr t HFw.out HOk.out (by have := HN.out; rw [List.drop_eq_getElem_cons hlt2, cntL] at this; omega) hkk)
                have HQ2 := Lib.hid (HQ.out.trans (colL_at hlt2 lk))
                have HN2 : Hid ((colP lk ks[k]).length + cntL (ks.drop (k + 1)) ≤ 1000) := Lib.hid (by
                  have h1 := HN.out
                  rw [List.drop_eq_getElem_cons hlt2, cntL] at h1
                  have h2 := colP_len ks[k] lk
                  omega)
                dsimp only at hA
                subst hA
                obtain ⟨c0, c1, c2, c3, c4, c5, c6, c7, c8⟩ := hc2
                clear hkk HQ HN
                generalize colP lk ks[k] = l2 at *
                generalize ks[k].hd = x at *
                obtain ⟨xo, xc, xm, ⟨xn, xi, xt⟩, xk, xp⟩ := x
                obtain ⟨tA, tn, tc⟩ := t
                unfold pdV pdC kidV at HC
                dsimp only at HC c0 c1 c2 c3 c4 c5 c6 c7 c8
                go_wp2_with fail
                refine HC.out.mono ?_
                rintro e w2 ⟨v', rfl, hown2, f2⟩
                have HO5 := Lib.hid hown2
                have FR5 := Lib.hid (fr_sr FRk.out f2)
                have PB5 := Lib.hid (PBk.out.fr f2 (sr_pd PBk.out))
                clear hown2 f2 HC
                go_wp2
                go_roundw
                case rel => exact ⟨k + 1, l2, by omega, by go_num, HO5, HQ2, HN2, FR5, PB5⟩
                case measure => simp [intOf]; omega
              · have HR : Hid (rr = lk) := Lib.hid (HQ.out.trans (colL_end (by have := HL.out; omega) lk))
                clear HQ
                go_wp2
                go_ret
                exact ⟨_, rfl, by rw [HR.out]; exact HOk.out, FRk.out⟩
end Go.Proofs.YtibopcceffncpaaGreatDoor


namespace Go.Proofs.YtibopcceffncpaaGreatDoor
set_option linter.unusedVariables false
set_option linter.unusedSimpArgs false
set_option maxRecDepth 100000
open Go.RowKit

set_option maxHeartbeats 2500000 in
theorem rqneeds_any (v : Value) (cs : List Co) (q : Qy) (c : Value) (s : Kv) (g : Value) (w : World) (hv : Ks w v cs) (hcl : cs.length ≤ 1000) (hcb : ∀ c ∈ cs, c.name.length ≤ 1000) (hq : QyS w q c s g) (hs : SmQ q) :
    Calls Tryz.prog 17 #[v, qyV q c s g] w fun e w' => ∃ u, e = .returned u ∧ Vs iv w' u (needsQ cs q) ∧ Fr Non w w' := by
  have Q0 := Lib.hid (Qin.new hq)
  have HS := Lib.hid hq
  have HV := Lib.hid hv
  have M1 := Lib.hid (fun W (hf : Fr Non w W) (h : QyS W q c s g) => rqfits_any v cs q c s g W (hv.non hf) hcl hcb h hs)
  have P1 : Hid (fitQ cs q = 0 → ∀ W, QyS W q c s g → Calls Tryz.prog 42 #[.slice none 0 0, pdV q.whr.hd s] W fun e w' => ∃ v, e = .returned v ∧ Ow sv 9 w' W.heap.size v (colP [] q.whr) ∧ Fr Non W w') := Lib.hid (fun e W h => by
    have h3 := (may_parts (fit_may e).1).2
    unfold mayP at h3
    rw [Bool.and_eq_true, decide_eq_true_eq] at h3
    refine (rcols_any W q.whr [] (.slice none 0 0) W s (Fr.refl _ _) (ow_nil _ _) (by simp only [List.length_nil]; omega) h.kids hs.lens).mono ?_
    rintro e w' ⟨u, he, hu, hf⟩
    exact ⟨u, he, hu, (Fr.refl Non W).fresh hf (fun q hq => hq.1)⟩)
  have HE0 : Hid (¬ fitQ cs q = 0 → needsQ cs q = []) := Lib.hid (fun e => if_neg e)
  have HE1 : Hid (fitQ cs q = 0 → needsQ cs q = needL cs q cs.length) := Lib.hid (fun e => if_pos e)
  have HI0 : Hid (fitQ cs q = 0 → ∀ k (h : k < cs.length), isN cs q k = (decide (cs[k].name = q.by_) || allQ q || decide (cs[k].name ∈ colP [] q.whr) || decide (cs[k].name ∈ q.cols) || decide (cs[k].name ∈ q.aggs.map Ag.col))) := Lib.hid (fun e k h => is_doc e h)
  have HNM : Hid (∀ k, needL cs q (k + 1) = needL cs q k ++ if isN cs q k = true then [(k : Int)] else []) := Lib.hid (fun k => need_more k)
  have HNLEN : Hid (∀ k, (needL cs q k).length ≤ k) := Lib.hid (need_len cs q)
  have HPL : Hid (fitQ cs q = 0 → (colP [] q.whr).length ≤ 1000) := Lib.hid (fun e => by
    have h2 := colP_len q.whr []
    have h3 := (may_parts (fit_may e).1).2
    unfold mayP at h3
    rw [Bool.and_eq_true, decide_eq_true_eq] at h3
    simp only [List.length_nil] at h2
    omega)
  have HNZ : Hid (needL cs q 0 = []) := Lib.hid rfl
  have HBA : Hid (allQ q = (decide (q.cols.length = 0) && decide (q.aggs.length = 0))) := Lib.hid rfl
  have hlc := hs.cols
  have hlg := hs.aggs
  generalize needsQ cs q = r at *
  generalize fitQ cs q = z at *
  generalize needL cs q = nl at *
  generalize isN cs q = isn at *
  generalize allQ q = ba at *
  generalize colP [] q.whr = ps at *
  unfold pdV pdC at P1
  clear hs
  obtain ⟨cA, cc, hce⟩ := hq.cols.shape
  obtain ⟨gA, gc, hge⟩ := hq.aggs.shape
  clear hq
  obtain ⟨tab, cols, ⟨⟨wo, wc, wm, ⟨wn, wi, wt⟩, wk, wp⟩, wks⟩, aggs, by_⟩ := q
  obtain ⟨sA, sn, sc⟩ := s
  obtain ⟨vA, vc, hve⟩ := hv.shape
  dsimp only at hce hge
  subst hce
  subst hge
  subst hve
  unfold qyV qyC kidV at *
  dsimp only [Pd.hd, Pd.kids] at *
  clear hv
  go_enter Tryz.func17, Tryz.ntmps17
  go_wp2_with fail
  refine (M1.out _ Q0.out.fr Q0.out.sls).mono ?_
  rintro e w1 ⟨rfl, f1⟩
  have Q1 := Lib.hid (Q0.out.non f1)
  clear f1
  by_cases hz : z = 0
  · have HE := Lib.hid (HE1.out hz)
    have P2 := Lib.hid (P1.out hz)
    have HI := Lib.hid (HI0.out hz)
    have hpl := HPL.out hz
    clear HPL
    clear HE0 HE1 P1 HI0
    subst hz
    obtain ⟨g0, g1, g2, g3, g4, g5, g6, g7, g8, g9, g10, g11, g12⟩ := Q1.out.cells
    dsimp only [Pd.hd, Pd.kids] at g0 g1 g2 g3 g4 g5 g6 g7 g8 g9 g10 g11 g12
    go_wp2_with fail
    refine (P2.out _ Q1.out.sls).mono ?_
    rintro e w2 ⟨u2, rfl, ho2, f2⟩
    have Q2 := Lib.hid (Q1.out.non f2)
    have HUL : Hid (∀ k, u2.ownBlock = some k → k < w2.heap.size) := Lib.hid (fun k hk => (ho2.lt k hk).2)
    have HW2 := Lib.hid Q2.out.blk.lt
    have HV2 := Lib.hid ho2.vs
    obtain ⟨pA, pc, hpe⟩ := ho2.shape
    subst hpe
    have HO0 : Hid (Ow iv 3 (w2.alloc (.cells #[] 3)) w2.heap.size (.slice (some ⟨w2.heap.size, 0, none⟩) 0 0) (nl 0)) := Lib.hid (by rw [HNZ.out]; exact ow_lit0 _ _ _ rfl (Nat.le_refl _))
    have Q3 := Lib.hid (Q2.out.non ((Fr.refl Non w2).alloc (.cells #[] 3)))
    have HV3 := Lib.hid (HV2.out.non ((Fr.refl Non w2).alloc (.cells #[] 3)))
    clear ho2 f2 HNZ
    clear g0 g1 g2 g3 g4 g5 g6 g7 g8 g9 g10 g11 g12
    go_wp2
    go_loopw [6, 7] (fun u i wr => ∃ k : Nat, k ≤ cs.length ∧ i = .int .i64 k ∧ Hid (Ow iv 3 wr w2.heap.size u (nl k)) ∧ Hid (Qin w w.heap.size ⟨tab, cols, ⟨⟨wo, wc, wm, ⟨wn, wi, wt⟩, wk, wp⟩, wks⟩, aggs, by_⟩ (.slice cA cols.length cc) ⟨sA, sn, sc⟩ (.slice gA aggs.length gc) wr) ∧ Hid (Vs sv wr (.slice pA ps.length pc) ps) ∧ Hid (w2.heap.size ≤ wr.heap.size)) (fun _ i _ => cs.length - (intOf i).toNat)
    case atStart => exact ⟨0, Nat.zero_le _, rfl, HO0, Q3, HV3, Lib.hid (by simp)⟩
    case round =>
      clear HO0 Q3 HV3 Q2 HV2 Q1 Q0
      rename_i u i wr
      obtain ⟨k, hk, rfl, HO, QR, VR, HSZ⟩ := hrel
      by_cases hlt : k < cs.length
      · obtain ⟨a, rfl, _, hc0⟩ := Ks.nm (HV.out.non QR.out.fr) k hlt
        have HIK := Lib.hid (HI.out k hlt)
        have HNL2 := Lib.hid (HNM.out k)
        have HCO := Lib.hid QR.out.sls.cols
        have HAG := Lib.hid QR.out.sls.aggs
        generalize cs[k].name = nm at *
        obtain ⟨bz, hbz⟩ : ∃ bz, bz = (decide (nm = by_) || ba) := ⟨_, rfl⟩
        have HIK2 : Hid (isn k = (bz || decide (nm ∈ ps) || decide (nm ∈ cols) || decide (nm ∈ aggs.map Ag.col))) := Lib.hid (by rw [hbz]; exact HIK.out)
        have HBZ := Lib.hid hbz
        clear hbz HIK
        obtain ⟨g0, g1, g2, g3, g4, g5, g6, g7, g8, g9, g10, g11, g12⟩ := QR.out.cells
        dsimp only [Pd.hd, Pd.kids] at g0 g1 g2 g3 g4 g5 g6 g7 g8 g9 g10 g11 g12
        have c4 : nm = by_ ∨ (¬ nm = by_ ∧ ¬ aggs.length = 0) ∨ (¬ nm = by_ ∧ aggs.length = 0 ∧ ¬ cols.length = 0) ∨ (¬ nm = by_ ∧ aggs.length = 0 ∧ cols.length = 0) := by
          by_cases h1 : nm = by_
          · exact .inl h1
          · by_cases h2 : aggs.length = 0
            · by_cases h3 : cols.length = 0
              · exact .inr (.inr (.inr ⟨h1, h2, h3⟩))
              · exact .inr (.inr (.inl ⟨h1, h2, h3⟩))
            · exact .inr (.inl ⟨h1, h2⟩)
        rcases c4 with h1 | ⟨h1, h2⟩ | ⟨h1, h2, h3⟩ | ⟨h1, h2, h3⟩
        focus
          have HB0 : Hid (bz = true) := Lib.hid (by rw [HBZ.out, decide_eq_true h1]; rfl)
          clear HBZ HBA
          subst h1
          go_wp2
        rotate_left
        focus
          have HB0 : Hid (bz = false) := Lib.hid (by rw [HBZ.out, HBA.out, decide_eq_false h1, decide_eq_false h2]; simp)
          have hnb : (nm == by_) = false := by rw [beq_eq_false_iff_ne]; exact h1
          have hab : ((aggs.length : Int) == 0) = false := by rw [beq_eq_false_iff_ne]; omega
          clear HBZ HBA h1 h2
          go_wp2
          clear hnb hab
        rotate_left
        focus
          have HB0 : Hid (bz = false) := Lib.hid (by rw [HBZ.out, HBA.out, decide_eq_false h1, decide_eq_false h3]; simp)
          have hnb : (nm == by_) = false := by rw [beq_eq_false_iff_ne]; exact h1
          have hab : ((aggs.length : Int) == 0) = true := by rw [beq_iff_eq]; omega
          have hcb : ((cols.length : Int) == 0) = false := by rw [beq_eq_false_iff_ne]; omega
          clear HBZ HBA h1 h2 h3
          go_wp2
          clear hnb hab hcb
        rotate_left
        focus
          have HB0 : Hid (bz = true) := Lib.hid (by rw [HBZ.out, HBA.out, decide_eq_true h2, decide_eq_true h3]; simp)
          have hnb : (nm == by_) = false := by rw [beq_eq_false_iff_ne]; exact h1
          have hab : ((aggs.length : Int) == 0) = true := by rw [beq_iff_eq]; omega
          have hcb : ((cols.length : Int) == 0) = true := by rw [beq_iff_eq]; omega
          clear HBZ HBA h1 h2 h3
          go_wp2
          clear hnb hab hcb
        rotate_left
        all_goals
          go_loopw [9, 10] (fun b i wx => ∃ m : Nat, m ≤ ps.length ∧ i = .int .i64 m ∧ (∃ bb, b = .bool bb ∧ Hid (bb = (bz || decide (nm ∈ (ps).take m)))) ∧ wx = wr) (fun _ i _ => ps.length - (intOf i).toNat)
          case atStart => exact ⟨0, Nat.zero_le _, rfl, ⟨_, rfl, Lib.hid (by rw [HB0.out]; simp)⟩, rfl⟩
          case round =>
            clear HB0
            obtain ⟨m, hm, rfl, ⟨bb, rfl, HB⟩, rfl⟩ := hrel
            by_cases hlt2 : m < ps.length
            · obtain ⟨a1, rfl, _, _, hel⟩ := VR.out.addr (show 0 < ps.length by omega)
              have d0 := hel m hlt2
              unfold sv at d0
              clear hel
              have HN : Hid ((bb || (ps[m] == nm)) = (bz || decide (nm ∈ (ps).take (m + 1)))) := Lib.hid (by rw [HB.out, in_more (l := ps) hlt2, Bool.or_assoc])
              clear HB
              generalize ps[m] = y at *
              cases bb
              · by_cases he : y = nm
                · have HN2 : Hid (true = (bz || decide (nm ∈ (ps).take (m + 1)))) := Lib.hid (by rw [← HN.out]; simp [he])
                  have hbe : (y == nm) = true := by rw [beq_iff_eq]; exact he
                  clear HN he
                  have hbe2 := Lib.hid hbe
                  go_wp2
                  go_roundw
                  case rel => exact ⟨m + 1, by omega, by go_num, ⟨_, rfl, Lib.hid (by rw [← HN2.out]; try simp)⟩, by trivial⟩
                  case measure => simp [intOf]; omega
                · have HN2 : Hid (false = (bz || decide (nm ∈ (ps).take (m + 1)))) := Lib.hid (by rw [← HN.out]; simp [he])
                  have hbe : (y == nm) = false := by rw [beq_eq_false_iff_ne]; exact he
                  clear HN he
                  go_wp2
                  go_roundw
                  case rel => exact ⟨m + 1, by omega, by go_num, ⟨_, rfl, Lib.hid (by rw [← HN2.out]; try simp)⟩, by trivial⟩
                  case measure => simp [intOf]; omega
              · have HN2 : Hid (true = (bz || decide (nm ∈ (ps).take (m + 1)))) := Lib.hid (by rw [← HN.out]; rfl)
                clear HN
                go_wp2
                go_roundw
                case rel => exact ⟨m + 1, by omega, by go_num, ⟨_, rfl, Lib.hid HN2.out⟩, by trivial⟩
                case measure => simp [intOf]; omega
            · have HB1 : Hid (bb = (bz || decide (nm ∈ ps))) := Lib.hid (by rw [HB.out, List.take_of_length_le (by omega)])
              clear HB
              have HB0 := HB1
              clear HB1
              go_wp2
              go_loopw [9, 11] (fun b i wx => ∃ m : Nat, m ≤ cols.length ∧ i = .int .i64 m ∧ (∃ bb, b = .bool bb ∧ Hid (bb = (bz || decide (nm ∈ ps) || decide (nm ∈ (cols).take m)))) ∧ wx = wr) (fun _ i _ => cols.length - (intOf i).toNat)
              case atStart => exact ⟨0, Nat.zero_le _, rfl, ⟨_, rfl, Lib.hid (by rw [HB0.out]; simp)⟩, rfl⟩
              case round =>
                clear HB0
                obtain ⟨m, hm, rfl, ⟨bb, rfl, HB⟩, rfl⟩ := hrel
                by_cases hlt2 : m < cols.length
                · obtain ⟨a1, rfl, _, _, hel⟩ := HCO.out.addr (show 0 < cols.length by omega)
                  have d0 := hel m hlt2
                  unfold sv at d0
                  clear hel
                  try dsimp only at d0
                  have HN : Hid ((bb || (cols[m] == nm)) = (bz || decide (nm ∈ ps) || decide (nm ∈ (cols).take (m + 1)))) := Lib.hid (by rw [HB.out, in_more (l := cols) hlt2, Bool.or_assoc])
                  clear HB
                  generalize cols[m] = y at *
                  cases bb
                  · by_cases he : y = nm
                    · have HN2 : Hid (true = (bz || decide (nm ∈ ps) || decide (nm ∈ (cols).take (m + 1)))) := Lib.hid (by rw [← HN.out]; simp [he])
                      have hbe : (y == nm) = true := by rw [beq_iff_eq]; exact he
                      clear HN he
                      have hbe2 := Lib.hid hbe
                      go_wp2
                      go_roundw
                      case rel => exact ⟨m + 1, by omega, by go_num, ⟨_, rfl, Lib.hid (by rw [← HN2.out]; try simp)⟩, by trivial⟩
                      case measure => simp [intOf]; omega
                    · have HN2 : Hid (false = (bz || decide (nm ∈ ps) || decide (nm ∈ (cols).take (m + 1)))) := Lib.hid (by rw [← HN.out]; simp [he])
                      have hbe : (y == nm) = false := by rw [beq_eq_false_iff_ne]; exact he
                      clear HN he
                      go_wp2
                      go_roundw
                      case rel => exact ⟨m + 1, by omega, by go_num, ⟨_, rfl, Lib.hid (by rw [← HN2.out]; try simp)⟩, by trivial⟩
                      case measure => simp [intOf]; omega
                  · have HN2 : Hid (true = (bz || decide (nm ∈ ps) || decide (nm ∈ (cols).take (m + 1)))) := Lib.hid (by rw [← HN.out]; rfl)
                    clear HN
                    go_wp2
                    go_roundw
                    case rel => exact ⟨m + 1, by omega, by go_num, ⟨_, rfl, Lib.hid HN2.out⟩, by trivial⟩
                    case measure => simp [intOf]; omega
                · have HB1 : Hid (bb = (bz || decide (nm ∈ ps) || decide (nm ∈ cols))) := Lib.hid (by rw [HB.out, List.take_of_length_le (by omega)])
                  clear HB
                  have HB0 := HB1
                  clear HB1
                  go_wp2
                  go_loopw [9, 12] (fun b i wx => ∃ m : Nat, m ≤ aggs.length ∧ i = .int .i64 m ∧ (∃ bb, b = .bool bb ∧ Hid (bb = (bz || decide (nm ∈ ps) || decide (nm ∈ cols) || decide (nm ∈ (aggs.map Ag.col).take m)))) ∧ wx = wr) (fun _ i _ => aggs.length - (intOf i).toNat)
                  case atStart => exact ⟨0, Nat.zero_le _, rfl, ⟨_, rfl, Lib.hid (by rw [HB0.out]; simp)⟩, rfl⟩
                  case round =>
                    clear HB0
                    obtain ⟨m, hm, rfl, ⟨bb, rfl, HB⟩, rfl⟩ := hrel
                    by_cases hlt2 : m < aggs.length
                    · obtain ⟨gA1, rfl, _, d0, d1⟩ := Ns.gat HAG.out m hlt2
                      try dsimp only at d0 d1
                      have HN : Hid ((bb || (aggs[m].col == nm)) = (bz || decide (nm ∈ ps) || decide (nm ∈ cols) || decide (nm ∈ (aggs.map Ag.col).take (m + 1)))) := Lib.hid (by rw [HB.out, in_more (l := aggs.map Ag.col) (by simpa using hlt2), Bool.or_assoc]; congr 2; simp)
                      clear HB
                      generalize aggs[m].col = y at *
                      cases bb
                      · by_cases he : y = nm
                        · have HN2 : Hid (true = (bz || decide (nm ∈ ps) || decide (nm ∈ cols) || decide (nm ∈ (aggs.map Ag.col).take (m + 1)))) := Lib.hid (by rw [← HN.out]; simp [he])
                          have hbe : (y == nm) = true := by rw [beq_iff_eq]; exact he
                          clear HN he
                          have hbe2 := Lib.hid hbe
                          go_wp2
                          go_roundw
                          case rel => exact ⟨m + 1, by omega, by go_num, ⟨_, rfl, Lib.hid (by rw [← HN2.out]; try simp)⟩, by trivial⟩
                          case measure => simp [intOf]; omega
                        · have HN2 : Hid (false = (bz || decide (nm ∈ ps) || decide (nm ∈ cols) || decide (nm ∈ (aggs.map Ag.col).take (m + 1)))) := Lib.hid (by rw [← HN.out]; simp [he])
                          have hbe : (y == nm) = false := by rw [beq_eq_false_iff_ne]; exact he
                          clear HN he
                          go_wp2
                          go_roundw
                          case rel => exact ⟨m + 1, by omega, by go_num, ⟨_, rfl, Lib.hid (by rw [← HN2.out]; try simp)⟩, by trivial⟩
                          case measure => simp [intOf]; omega
                      · have HN2 : Hid (true = (bz || decide (nm ∈ ps) || decide (nm ∈ cols) || decide (nm ∈ (aggs.map Ag.col).take (m + 1)))) := Lib.hid (by rw [← HN.out]; rfl)
                        clear HN
                        go_wp2
                        go_roundw
                        case rel => exact ⟨m + 1, by omega, by go_num, ⟨_, rfl, Lib.hid HN2.out⟩, by trivial⟩
                        case measure => simp [intOf]; omega
                    · have HB1 : Hid (bb = (bz || decide (nm ∈ ps) || decide (nm ∈ cols) || decide (nm ∈ aggs.map Ag.col))) := Lib.hid (by rw [HB.out, List.take_of_length_le (by simp; omega)])
                      clear HB
                      obtain ⟨oA, oc, hoe⟩ := HO.out.shape
                      have hnk := HNLEN.out k
                      generalize hon : (nl k).length = on at *
                      subst hoe
                      cases bb
                      · have HE9 : Hid (nl (k + 1) = nl k) := Lib.hid (by rw [HNL2.out, HIK2.out, ← HB1.out]; simp)
                        go_wp2
                        go_roundw
                        case rel => exact ⟨k + 1, by omega, by go_num, by rw [HE9.out]; exact HO, QR, VR, HSZ⟩
                        case measure => simp [intOf]; omega
                      · have HE9 : Hid (nl (k + 1) = nl k ++ [(k : Int)]) := Lib.hid (by rw [HNL2.out, HIK2.out, ← HB1.out]; simp)
                        have hsz := HSZ.out
                        go_wp2_with (at_builtin; refine wpList_pushG el_int iv_oneC rfl (.tmp 99) (.tmp 101) rfl w2.heap.size _ (nl k) rfl HO.out _ (k : Int) rfl rfl (by omega) hsz ?_; intro v4 w4 hown4 hfr4)
                        have HO4 := Lib.hid hown4
                        have F4 : Hid (Fr Non w w4) := Lib.hid (QR.out.fr.fresh hfr4 (fun q hq => by have h1 := (HO.out.lt q hq).1; have h2 := HW2.out; omega))
                        have Q4 := Lib.hid (Qin.mk F4.out (QR.out.blk.fr hfr4 (fun e => by have h1 := (HO.out.lt _ e).1; have h2 := HW2.out; omega)) (HS.out.non F4.out))
                        have V4 := Lib.hid (VR.out.fr hfr4 (fun q hq e => by have h1 := (HO.out.lt _ e).1; have h2 := HUL.out q hq; omega))
                        have S4 : Hid (w2.heap.size ≤ w4.heap.size) := Lib.hid (Nat.le_trans hsz hfr4.size)
                        clear hown4 hfr4
                        go_roundw
                        case rel => exact ⟨k + 1, by omega, by go_num, by rw [HE9.out]; exact HO4, Q4, V4, S4⟩
                        case measure => simp [intOf]; omega
      · have hT : k = cs.length := by omega
        have HE9 : Hid (r = nl k) := Lib.hid (by rw [HE.out, hT])
        clear hT
        go_wp2
        go_ret
        exact ⟨_, rfl, by rw [HE9.out]; exact HO.out.vs, QR.out.fr⟩
  · have HE := Lib.hid (HE0.out hz)
    have hzb : (z != 0) = true := by rw [bne_iff_ne]; exact hz
    clear HE0 HE1 P1 HI0 hz
    go_wp2
    go_ret
    exact ⟨_, rfl, by rw [HE.out]; exact Vs.nil_ _, Q1.out.fr⟩
end Go.Proofs.YtibopcceffncpaaGreatDoor


namespace Go.Proofs.YtibopcceffncpaaGreatDoor
set_option linter.unusedVariables false
set_option linter.unusedSimpArgs false
set_option maxRecDepth 100000
open Go.RowKit


theorem itoa_5 : Lib.itoa 5 = [53] := by
  rw [show (5 : Int) = ((5 : Nat) : Int) from rfl, itoa_up, Lib.decDigits, dif_pos (by decide)]; rfl
end Go.Proofs.YtibopcceffncpaaGreatDoor


namespace Go.Proofs.YtibopcceffncpaaGreatDoor
set_option linter.unusedVariables false
set_option linter.unusedSimpArgs false
set_option maxRecDepth 100000
open Go.RowKit

def exQP : Pd := .mk ⟨2, [97], 5, ⟨false, 5, []⟩, 1, []⟩ []
def exQ : Qy := ⟨[116], [], exQP, [⟨1, []⟩, ⟨3, [97]⟩], [98]⟩
theorem exQ_may : mayQ exQ = true := by decide +kernel
theorem exQ_textP : textP exQP = [97, 32, 62, 32, 53] := by
  unfold exQP
  rw [tx_2 rfl]
  show [97] ++ [32] ++ markB 5 ++ [32] ++ valT 1 ⟨false, 5, []⟩ = _
  rw [val_1, itoa_5]
  rfl
theorem exQ_text : TextQ exQ = [115, 101, 108, 101, 99, 116, 32, 99, 111, 117, 110, 116, 40, 42, 41, 44, 32, 115, 117, 109, 40, 97, 41, 32, 102, 114, 111, 109, 32, 116, 32, 119, 104, 101, 114, 101, 32, 97, 32, 62, 32, 53, 32, 103, 114, 111, 117, 112, 32, 98, 121, 32, 98] := by
  unfold TextQ
  rw [if_pos exQ_may]
  unfold textQ whrT
  rw [show exQ.whr = exQP from rfl, if_neg (by decide), exQ_textP]
  decide +kernel
theorem exQ_sm : SmQ exQ := ⟨by decide, by decide, by decide, by decide, by decide, by decide, by decide +kernel, by decide +kernel⟩
theorem exQ_s (w : World) (o : Obj) : QyS ((w.alloc (.cells #[.int .i64 1, .string ⟨#[]⟩, .int .i64 3, .string ⟨#[97]⟩] 48)).alloc o) exQ (.slice none 0 0) noKv (.slice (some ⟨w.heap.size, 0, none⟩) 2 2) :=
  ⟨Vs.nil_ _, Kd.nil_ _, ((no_lit (E := 48) fd_ag w 0 w.heap.size [⟨1, []⟩, ⟨3, [97]⟩] #[.int .i64 1, .string ⟨#[]⟩, .int .i64 3, .string ⟨#[97]⟩] rfl rfl (Nat.zero_le _) (by decide)).ns fd_ag).non ((Fr.refl _ _).alloc _), ⟨by decide, by decide⟩⟩
set_option maxHeartbeats 1000000 in
theorem qlive_any (w : World) (hW : Lq w) : Calls Tryz.prog 6 #[] w fun e w' => e = .returned (.bool true) ∧ Fr Non w w' := by
  have M := Lib.hid (fun W (h : QyS W exQ (.slice none 0 0) noKv (.slice (some ⟨w.heap.size, 0, none⟩) 2 2)) (hf : Fr Non w W) => qtext_any exQ (.slice none 0 0) noKv (.slice (some ⟨w.heap.size, 0, none⟩) 2 2) W h exQ_sm (hW.non hf))
  rw [exQ_text] at M
  have HS := Lib.hid (exQ_s w)
  unfold qyV qyC kidV noKv exQ exQP at M
  dsimp only [Pd.hd, Pd.kids] at M
  go_enter Tryz.func6, Tryz.ntmps6
  go_wp2_with fail
  refine (M.out _ (HS.out _) (((Fr.refl Non w).alloc _).alloc _)).mono ?_
  rintro e w1 ⟨rfl, f1⟩
  go_wp2
  go_ret
  exact ⟨ret_boolE (by simp), (((Fr.refl Non w).alloc _).alloc _).trans f1⟩

theorem end_no {P : Prop} : SmEnd P (.returned (.bool false)) := ⟨false, rfl, fun h => by cases h⟩
set_option maxHeartbeats 2000000 in
theorem rqsmall_any (q : Qy) (c : Value) (s : Kv) (g : Value) (w : World) (hq : QyS w q c s g) :
    Calls Tryz.prog 5 #[qyV q c s g] w fun e w' => SmEnd (SmQ q) e ∧ Fr Non w w' := by
  have Q0 := Lib.hid (Qin.new hq)
  have P := Lib.hid (fun W (h : QyS W q c s g) => rpsmall_any q.whr s 9 9 W rfl (by omega) h.kids)
  have HE0 : Hid ((q.cols.length ≤ 15 ∧ ∀ x ∈ q.cols, x.length ≤ 100) → (q.aggs.length ≤ 15 ∧ ∀ a ∈ q.aggs, a.col.length ≤ 100) → q.tab.length ≤ 100 → q.by_.length ≤ 100 → (lenP q.whr = true ∧ depP q.whr ≤ 9) → SmQ q) := Lib.hid (fun a b c d e => ⟨a.1, a.2, b.1, b.2, c, d, e.1, e.2⟩)
  generalize SmQ q = R at *
  unfold pdV pdC at P
  obtain ⟨cA, cc, hce⟩ := hq.cols.shape
  obtain ⟨gA, gc, hge⟩ := hq.aggs.shape
  clear hq
  obtain ⟨tab, cols, ⟨⟨wo, wc, wm, ⟨wn, wi, wt⟩, wk, wp⟩, wks⟩, aggs, by_⟩ := q
  obtain ⟨sA, sn, sc⟩ := s
  dsimp only at hce hge
  subst hce
  subst hge
  unfold qyV qyC kidV at *
  dsimp only [Pd.hd, Pd.kids] at *
  go_enter Tryz.func5, Tryz.ntmps5
  go_wp2
  go_loopw [3] (fun i wr => ∃ k : Nat, k ≤ cols.length ∧ k ≤ 20 ∧ i = .int .i64 k ∧ Hid (∀ j (h : j < cols.length), j < k → cols[j].length ≤ 100) ∧ Hid (Qin w w.heap.size ⟨tab, cols, ⟨⟨wo, wc, wm, ⟨wn, wi, wt⟩, wk, wp⟩, wks⟩, aggs, by_⟩ (.slice cA cols.length cc) ⟨sA, sn, sc⟩ (.slice gA aggs.length gc) wr)) (fun i _ => 20 - (intOf i).toNat)
  case atStart => exact ⟨0, Nat.zero_le _, Nat.zero_le _, rfl, Lib.hid (fun _ _ h => by omega), Q0⟩
  case round =>
    clear Q0
    obtain ⟨k, hk, hk2, rfl, HS, QR⟩ := hrel
    obtain ⟨g0, g1, g2, g3, g4, g5, g6, g7, g8, g9, g10, g11, g12⟩ := QR.out.cells
    dsimp only [Pd.hd, Pd.kids] at g0 g1 g2 g3 g4 g5 g6 g7 g8 g9 g10 g11 g12
    by_cases hlt : k < cols.length
    · by_cases h20 : k < 20
      · obtain ⟨a, rfl, _, _, hel⟩ := QR.out.sls.cols.addr (show 0 < cols.length by omega)
        have c0 := hel k hlt
        unfold sv at c0
        have HY : Hid (cols[k].length ≤ 100 → ∀ j (h : j < cols.length), j < k + 1 → cols[j].length ≤ 100) := Lib.hid (fun h j hj hjk => by
          by_cases e : j = k
          · subst e; exact h
          · exact HS.out j hj (by omega))
        clear HS hel
        try dsimp only at c0
        generalize cols[k] = y at *
        have hsl := slenN y
        by_cases hy : 100 < y.length
        · go_wp2
          go_ret
          exact ⟨end_no, QR.out.fr⟩
        · have H := Lib.hid (HY.out (by omega))
          clear HY
          go_wp2
          go_roundw
          case rel => exact ⟨k + 1, by omega, by omega, by go_num, H, QR⟩
          case measure => simp [intOf]; omega
      · have HN : Hid (¬ cols.length ≤ 15) := Lib.hid (by omega)
        clear HS
        rename World => W1
        go_wp2
        clear g0 g1 g2 g3 g4 g5 g6 g7 g8 g9 g10 g11 g12
        go_loopw [4] (fun i wr => ∃ k : Nat, k ≤ aggs.length ∧ k ≤ 20 ∧ i = .int .i64 k ∧ Hid (∀ j (h : j < aggs.length), j < k → aggs[j].col.length ≤ 100) ∧ Hid (Qin w w.heap.size ⟨tab, cols, ⟨⟨wo, wc, wm, ⟨wn, wi, wt⟩, wk, wp⟩, wks⟩, aggs, by_⟩ (.slice cA cols.length cc) ⟨sA, sn, sc⟩ (.slice gA aggs.length gc) wr)) (fun i _ => 20 - (intOf i).toNat)
        case atStart => exact ⟨0, Nat.zero_le _, Nat.zero_le _, rfl, Lib.hid (fun _ _ h => by omega), QR⟩
        case round =>
          clear QR
          obtain ⟨m, hm, hm2, rfl, HS2, QR⟩ := hrel
          obtain ⟨g0, g1, g2, g3, g4, g5, g6, g7, g8, g9, g10, g11, g12⟩ := QR.out.cells
          dsimp only [Pd.hd, Pd.kids] at g0 g1 g2 g3 g4 g5 g6 g7 g8 g9 g10 g11 g12
          by_cases hlt2 : m < aggs.length
          · by_cases h202 : m < 20
            · obtain ⟨b, rfl, _, d0, d1⟩ := Ns.gat QR.out.sls.aggs m hlt2
              have HY : Hid (aggs[m].col.length ≤ 100 → ∀ j (h : j < aggs.length), j < m + 1 → aggs[j].col.length ≤ 100) := Lib.hid (fun h j hj hjk => by
                by_cases e : j = m
                · subst e; exact h
                · exact HS2.out j hj (by omega))
              clear HS2
              try dsimp only at d0 d1
              generalize aggs[m] = x at *
              obtain ⟨xo, xn⟩ := x
              dsimp only at d0 d1 HY
              have hsl := slenN xn
              by_cases hy : 100 < xn.length
              · go_wp2
                go_ret
                exact ⟨end_no, QR.out.fr⟩
              · have H2 := Lib.hid (HY.out (by omega))
                clear HY
                go_wp2
                go_roundw
                case rel => exact ⟨m + 1, by omega, by omega, by go_num, H2, QR⟩
                case measure => simp [intOf]; omega
            · have HN2 : Hid (¬ aggs.length ≤ 15) := Lib.hid (by omega)
              have hc15 : ¬ cols.length ≤ 15 := HN.out
              go_wp2
              go_ret
              exact ⟨end_no, QR.out.fr⟩
          · have H2 : Hid (∀ a ∈ aggs, a.col.length ≤ 100) := Lib.hid (fun x hx => by
              obtain ⟨j, hj, rfl⟩ := List.mem_iff_getElem.1 hx
              exact HS2.out j hj (by omega))
            have hc15 : ¬ cols.length ≤ 15 := HN.out
            go_wp2
            go_ret
            exact ⟨end_no, QR.out.fr⟩
    · have H : Hid (∀ x ∈ cols, x.length ≤ 100) := Lib.hid (fun x hx => by
        obtain ⟨j, hj, rfl⟩ := List.mem_iff_getElem.1 hx
        exact HS.out j hj (by omega))
      clear HS
      rename World => W1
      go_wp2
      clear g0 g1 g2 g3 g4 g5 g6 g7 g8 g9 g10 g11 g12
      go_loopw [4] (fun i wr => ∃ k : Nat, k ≤ aggs.length ∧ k ≤ 20 ∧ i = .int .i64 k ∧ Hid (∀ j (h : j < aggs.length), j < k → aggs[j].col.length ≤ 100) ∧ Hid (Qin w w.heap.size ⟨tab, cols, ⟨⟨wo, wc, wm, ⟨wn, wi, wt⟩, wk, wp⟩, wks⟩, aggs, by_⟩ (.slice cA cols.length cc) ⟨sA, sn, sc⟩ (.slice gA aggs.length gc) wr)) (fun i _ => 20 - (intOf i).toNat)
      case atStart => exact ⟨0, Nat.zero_le _, Nat.zero_le _, rfl, Lib.hid (fun _ _ h => by omega), QR⟩
      case round =>
        clear QR
        obtain ⟨m, hm, hm2, rfl, HS2, QR⟩ := hrel
        obtain ⟨g0, g1, g2, g3, g4, g5, g6, g7, g8, g9, g10, g11, g12⟩ := QR.out.cells
        dsimp only [Pd.hd, Pd.kids] at g0 g1 g2 g3 g4 g5 g6 g7 g8 g9 g10 g11 g12
        by_cases hlt2 : m < aggs.length
        · by_cases h202 : m < 20
          · obtain ⟨b, rfl, _, d0, d1⟩ := Ns.gat QR.out.sls.aggs m hlt2
            have HY : Hid (aggs[m].col.length ≤ 100 → ∀ j (h : j < aggs.length), j < m + 1 → aggs[j].col.length ≤ 100) := Lib.hid (fun h j hj hjk => by
              by_cases e : j = m
              · subst e; exact h
              · exact HS2.out j hj (by omega))
            clear HS2
            try dsimp only at d0 d1
            generalize aggs[m] = x at *
            obtain ⟨xo, xn⟩ := x
            dsimp only at d0 d1 HY
            have hsl := slenN xn
            by_cases hy : 100 < xn.length
            · go_wp2
              go_ret
              exact ⟨end_no, QR.out.fr⟩
            · have H2 := Lib.hid (HY.out (by omega))
              clear HY
              go_wp2
              go_roundw
              case rel => exact ⟨m + 1, by omega, by omega, by go_num, H2, QR⟩
              case measure => simp [intOf]; omega
          · have HN2 : Hid (¬ aggs.length ≤ 15) := Lib.hid (by omega)
            by_cases hc15 : cols.length ≤ 15
            · have hg15 : ¬ aggs.length ≤ 15 := HN2.out
              go_wp2
              go_ret
              exact ⟨end_no, QR.out.fr⟩
            · go_wp2
              go_ret
              exact ⟨end_no, QR.out.fr⟩
        · have H2 : Hid (∀ a ∈ aggs, a.col.length ≤ 100) := Lib.hid (fun x hx => by
            obtain ⟨j, hj, rfl⟩ := List.mem_iff_getElem.1 hx
            exact HS2.out j hj (by omega))
          have st := slenN tab
          have sb := slenN by_
          by_cases hc15 : cols.length ≤ 15
          · by_cases hg15 : aggs.length ≤ 15
            · by_cases ht : tab.length ≤ 100
              · by_cases hb : by_.length ≤ 100
                · go_wp2_with fail
                  refine (P.out _ QR.out.sls).mono ?_
                  rintro e w5 ⟨⟨b5, rfl, hb5⟩, f5⟩
                  have HB5 := Lib.hid hb5
                  clear hb5
                  have HR : Hid (b5 = true → R) := Lib.hid (fun e => HE0.out ⟨hc15, H.out⟩ ⟨hg15, H2.out⟩ ht hb (HB5.out e))
                  go_wp2
                  go_ret
                  exact ⟨⟨_, rfl, HR.out⟩, QR.out.fr.trans f5⟩
                · go_wp2
                  go_ret
                  exact ⟨end_no, QR.out.fr⟩
              · go_wp2
                go_ret
                exact ⟨end_no, QR.out.fr⟩
            · go_wp2
              go_ret
              exact ⟨end_no, QR.out.fr⟩
          · go_wp2
            go_ret
            exact ⟨end_no, QR.out.fr⟩
end Go.Proofs.YtibopcceffncpaaGreatDoor
