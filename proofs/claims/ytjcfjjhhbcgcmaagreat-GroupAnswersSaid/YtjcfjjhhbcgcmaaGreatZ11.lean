/-
  Joined: QryG, Kol3, Glob2, Glob3, Glob5, Ev1, Ev2, Ev3
-/
import Derived.Lib.Zigzag
import Derived.Deep.QuietTactic
import Derived.BigQuiet
import Derived.Deep.RegionHeld3
import Derived.Deep.DrawnRows
import Derived.Shelf.Strings.Replace
import Derived.Shelf.Strconv.Itoa4
import Derived.Shelf.Strings.OnBuilder
import Derived.Test.YtjcfjjhhbcgcmaaGreatProg
import Derived.Lib.SmallJoins
import Derived.Lib.AppendIntMem
import Derived.Laws.StructEq
import Derived.Laws.Rows
import Derived.Laws.ResultCell
import Derived.Deep.RegionWith
import Derived.Test.YtjcfjjhhbcgcmaaGreatZ7
import Derived.Test.YtjcfjjhhbcgcmaaGreatZ9
import Derived.Test.YtjcfjjhhbcgcmaaGreatZ10
import Derived.Test.YtjcfjjhhbcgcmaaGreatZ2
import Derived.Test.YtjcfjjhhbcgcmaaGreatZ1
import Derived.Test.YtjcfjjhhbcgcmaaGreatZ5
import Derived.BigRegion
import Derived.Test.YtjcfjjhhbcgcmaaGreatZ4
import Derived.Test.YtjcfjjhhbcgcmaaGreatZ6
set_option linter.unusedVariables false
set_option linter.unusedSimpArgs false
set_option maxRecDepth 100000
namespace Go.Proofs.YtjcfjjhhbcgcmaaGreat
open Go.RowKit
theorem find_int (cs : List Co) (n : Tx) : (hasC cs n = false ∧ findI (findC cs n) = -1 ∧ findC cs n = none) ∨ ∃ k : Nat, findC cs n = some k ∧ hasC cs n = true ∧ findI (findC cs n) = (k : Int) := by
  unfold hasC
  cases hf : findC cs n with
  | none => exact .inl ⟨rfl, rfl, rfl⟩
  | some k => exact .inr ⟨k, rfl, rfl, rfl⟩
theorem agT_one {cs : List Co} {a : Ag} (h : a.op = 1) : agT cs a = true := by unfold agT; rw [decide_eq_true h]; rfl
theorem agT_none {cs : List Co} {a : Ag} (h : ¬ a.op = 1) (hf : findC cs a.col = none) : agT cs a = false := by unfold agT; rw [decide_eq_false h, hf]; rfl
theorem agT_some {cs : List Co} {a : Ag} {k : Nat} (h : ¬ a.op = 1) (hf : findC cs a.col = some k) (hk : k < cs.length) : agT cs a = (!decide (a.op = 3) || decide (cs[k].ty = 1)) := by
  unfold agT
  rw [decide_eq_false h, hf]
  simp only [Bool.false_or]
  rw [List.getElem?_eq_getElem hk]
set_option maxHeartbeats 4000000 in
theorem rqfits_any (v : Value) (cs : List Co) (q : Qy) (c : Value) (s : Kv) (g : Value) (w : World) (hv : Ks w v cs) (hcl : cs.length ≤ 1000) (hcb : ∀ c ∈ cs, c.name.length ≤ 1000) (hq : QyS w q c s g) (hs : SmQ q) :
    Calls Tryz.prog 25 #[v, qyV q c s g] w fun e w' => e = .returned (.int .i64 (fitQ cs q)) ∧ Fr Non w w' := by
  have Q0 := Lib.hid (Qin.new hq)
  have HV := Lib.hid hv
  have M1 := Lib.hid (fun W (h : QyS W q c s g) => rqmay_any q c s g W h hs)
  have C1 := Lib.hid (fun W (hf : Fr Non w W) => rcheck_any v cs W (hv.non hf) (by omega) (fun c hc => by have := hcb c hc; omega))
  have P1 := Lib.hid (fun W (hf : Fr Non w W) (h : QyS W q c s g) => rfits_any cs hcl hcb v q.whr.hd s q.whr.kids W (hv.non hf) h.kids (by rw [← Pd.eta]; exact hs.lens))
  rw [← Pd.eta] at P1
  have F := Lib.hid (fun (n : Tx) W (hf : Fr Non w W) => rfind_any v cs n W (hv.non hf) (by omega))
  have HE0 : Hid (fitQ cs q = if mayQ q = false ∨ ¬ chkC cs = 0 then 1 else if typP cs q.whr = true ∧ suitQ cs q = true then 0 else 10) := Lib.hid rfl
  have HSD : Hid (mayQ q = true → suitQ cs q = ((decide (q.by_ = []) || hasC cs q.by_) && (q.cols.all (hasC cs) && q.aggs.all (agT cs)))) := Lib.hid (fun e => suit_doc cs q e)
  have HP : Hid (mayQ q = true → chkC cs = 0 → fitP cs q.whr = if typP cs q.whr = true then 0 else 10) := Lib.hid (fun e e2 => by
    unfold fitP
    rw [if_neg (by rw [(may_parts e).2, e2]; simp)])
  have hlc := hs.cols
  have hlg := hs.aggs
  generalize fitQ cs q = r at *
  generalize mayQ q = bm at *
  generalize suitQ cs q = bs at *
  generalize typP cs q.whr = bt at *
  generalize fitP cs q.whr = fp at *
  generalize chkC cs = z at *
  unfold pdV pdC at P1
  clear hs
  obtain ⟨cA, cc, hce⟩ := hq.cols.shape
  obtain ⟨gA, gc, hge⟩ := hq.aggs.shape
  clear hq
  obtain ⟨tab, cols, ⟨⟨wo, wc, wm, ⟨wn, wi, wt⟩, wk, wp⟩, wks⟩, aggs, by_⟩ := q
  obtain ⟨sA, sn, sc⟩ := s
  obtain ⟨vA, vc, hve⟩ := hv.shape
  dsimp only at hce hge
  subst hce
  subst hge
  subst hve
  unfold qyV qyC kidV at *
  dsimp only [Pd.hd, Pd.kids] at *
  clear hv
  go_enter Tryz.func25, Tryz.ntmps25
  go_wp2_with fail
  refine (M1.out _ Q0.out.sls).mono ?_
  rintro e w1 ⟨rfl, f1⟩
  have Q1 := Lib.hid (Q0.out.non f1)
  clear f1
  cases bm
  · have HE : Hid (r = 1) := Lib.hid (by rw [HE0.out, if_pos (.inl rfl)])
    clear HE0 HP HSD
    go_wp2
    go_ret
    exact ⟨ret_int HE.out.symm, Q1.out.fr⟩
  · go_wp2_with fail
    refine (C1.out _ Q1.out.fr).mono ?_
    rintro e w2 ⟨rfl, f2⟩
    have Q2 := Lib.hid (Q1.out.non f2)
    clear f2
    obtain ⟨g0, g1, g2, g3, g4, g5, g6, g7, g8, g9, g10, g11, g12⟩ := Q2.out.cells
    dsimp only [Pd.hd, Pd.kids] at g0 g1 g2 g3 g4 g5 g6 g7 g8 g9 g10 g11 g12
    by_cases hz : z = 0
    · have HP2 := Lib.hid (HP.out (by trivial) hz)
      have HS2 := Lib.hid (HSD.out (by trivial))
      have HE2 : Hid (r = if bt = true ∧ bs = true then 0 else 10) := Lib.hid (by rw [HE0.out, if_neg (by rw [hz]; simp)])
      clear HE0 HP HSD
      subst hz
      go_wp2_with fail
      refine (P1.out _ Q2.out.fr Q2.out.sls).mono ?_
      rintro e w3 ⟨rfl, f3⟩
      have Q3 := Lib.hid (Q2.out.non f3)
      clear f3
      clear g0 g1 g2 g3 g4 g5 g6 g7 g8 g9 g10 g11 g12
      obtain ⟨g0, g1, g2, g3, g4, g5, g6, g7, g8, g9, g10, g11, g12⟩ := Q3.out.cells
      dsimp only [Pd.hd, Pd.kids] at g0 g1 g2 g3 g4 g5 g6 g7 g8 g9 g10 g11 g12
      cases bt
      · have hfp : fp = 10 := by rw [HP2.out]; rfl
        have HE : Hid (r = 10) := Lib.hid (by rw [HE2.out]; simp)
        clear HE2 HP2 HS2
        subst hfp
        go_wp2
        go_ret
        exact ⟨ret_int HE.out.symm, Q3.out.fr⟩
      · have hfp : fp = 0 := by rw [HP2.out]; rfl
        have HR0 : Hid (r = if ((decide (by_ = []) || hasC cs by_) && (cols.all (hasC cs) && aggs.all (agT cs))) = true then 0 else 10) := Lib.hid (by rw [HE2.out, HS2.out]; simp)
        clear HP2 HE2 HS2
        subst hfp
        by_cases hb : by_ = []
        · have HR : Hid (r = if (cols.all (hasC cs) && aggs.all (agT cs)) = true then 0 else 10) := Lib.hid (by rw [HR0.out, decide_eq_true hb, Bool.true_or, Bool.true_and])
          clear HR0
          subst hb
          go_wp2
          clear g0 g1 g2 g3 g4 g5 g6 g7 g8 g9 g10 g11 g12
          go_loopw [5] (fun i wr => ∃ k : Nat, k ≤ cols.length ∧ i = .int .i64 k ∧ Hid ((cols.take k).all (hasC cs) = true) ∧ Hid (Qin w w.heap.size ⟨tab, cols, ⟨⟨wo, wc, wm, ⟨wn, wi, wt⟩, wk, wp⟩, wks⟩, aggs, []⟩ (.slice cA cols.length cc) ⟨sA, sn, sc⟩ (.slice gA aggs.length gc) wr)) (fun i _ => cols.length - (intOf i).toNat)
          case atStart => exact ⟨0, Nat.zero_le _, rfl, Lib.hid rfl, Q3⟩
          case round =>
            obtain ⟨k, hk, rfl, HT, QR⟩ := hrel
            obtain ⟨g0, g1, g2, g3, g4, g5, g6, g7, g8, g9, g10, g11, g12⟩ := QR.out.cells
            dsimp only [Pd.hd, Pd.kids] at g0 g1 g2 g3 g4 g5 g6 g7 g8 g9 g10 g11 g12
            by_cases hlt : k < cols.length
            · obtain ⟨a, rfl, _, _, hel⟩ := QR.out.sls.cols.addr (show 0 < cols.length by omega)
              have c0 := hel k hlt
              unfold sv at c0
              have HX : Hid (hasC cs cols[k] = false → r = 10) := Lib.hid (fun e => by rw [HR.out, all_badG hlt e]; simp)
              have HY : Hid (hasC cs cols[k] = true → (cols.take (k + 1)).all (hasC cs) = true) := Lib.hid (fun e => all_moreG hlt HT.out e)
              have FK := Lib.hid (F.out cols[k])
              clear HT hel
              try dsimp only at c0
              generalize cols[k] = y at *
              rcases find_int cs y with ⟨h1, h2, -⟩ | ⟨k0, -, h1, h2⟩
              · rw [h2] at FK
                have HE := Lib.hid (HX.out h1)
                clear HX HY h1 h2
                go_wp2_with fail
                refine (FK.out _ QR.out.fr).mono ?_
                rintro e w6 ⟨rfl, f6⟩
                go_wp2
                go_ret
                exact ⟨ret_int HE.out.symm, QR.out.fr.trans f6⟩
              · rw [h2] at FK
                have HE := Lib.hid (HY.out h1)
                clear HX HY h1 h2
                go_wp2_with fail
                refine (FK.out _ QR.out.fr).mono ?_
                rintro e w6 ⟨rfl, f6⟩
                have Q6 := Lib.hid (QR.out.non f6)
                clear f6
                go_wp2
                go_roundw
                case rel => exact ⟨k + 1, by omega, by go_num, HE, Q6⟩
                case measure => simp [intOf]; omega
            · have HR2 : Hid (r = if aggs.all (agT cs) = true then 0 else 10) := Lib.hid (by rw [HR.out, all_endG (by omega) HT.out]; simp)
              clear HR HT
              rename World => W1
              go_wp2
              clear g0 g1 g2 g3 g4 g5 g6 g7 g8 g9 g10 g11 g12
              go_loopw [6] (fun i wr => ∃ k : Nat, k ≤ aggs.length ∧ i = .int .i64 k ∧ Hid ((aggs.take k).all (agT cs) = true) ∧ Hid (Qin w w.heap.size ⟨tab, cols, ⟨⟨wo, wc, wm, ⟨wn, wi, wt⟩, wk, wp⟩, wks⟩, aggs, []⟩ (.slice cA cols.length cc) ⟨sA, sn, sc⟩ (.slice gA aggs.length gc) wr)) (fun i _ => aggs.length - (intOf i).toNat)
              case atStart => exact ⟨0, Nat.zero_le _, rfl, Lib.hid rfl, QR⟩
              case round =>
                clear QR
                obtain ⟨m, hm, rfl, HT, QR⟩ := hrel
                obtain ⟨g0, g1, g2, g3, g4, g5, g6, g7, g8, g9, g10, g11, g12⟩ := QR.out.cells
                dsimp only [Pd.hd, Pd.kids] at g0 g1 g2 g3 g4 g5 g6 g7 g8 g9 g10 g11 g12
                by_cases hlt2 : m < aggs.length
                · obtain ⟨a, rfl, _, d0, d1⟩ := Ns.gat QR.out.sls.aggs m hlt2
                  have HX : Hid (agT cs aggs[m] = false → r = 10) := Lib.hid (fun e => by rw [HR2.out, all_badG hlt2 e]; simp)
                  have HY : Hid (agT cs aggs[m] = true → (aggs.take (m + 1)).all (agT cs) = true) := Lib.hid (fun e => all_moreG hlt2 HT.out e)
                  have HAGS := Lib.hid QR.out.sls.aggs
                  clear HT
                  try dsimp only at d0 d1
                  generalize hx : aggs[m] = x at *
                  have HXE := Lib.hid hx
                  clear hx
                  obtain ⟨xo, xn⟩ := x
                  dsimp only at d0 d1 HX HY
                  have FK := Lib.hid (F.out xn)
                  have again : Hid (∀ W2, Fr Non wr W2 → W2.cell? (a.add (m * 2)) = some (.int .i64 xo)) := Lib.hid (fun W2 hf => by
                    obtain ⟨a2, ha2, _, e0, _⟩ := Ns.gat (HAGS.out.non hf) m hlt2
                    obtain rfl := Option.some.inj ha2
                    rw [HXE.out] at e0
                    exact e0)
                  clear HAGS HXE
                  rcases find_int cs xn with ⟨h1, h2, h3⟩ | ⟨k0, h3, h1, h2⟩
                  · rw [h2] at FK
                    by_cases ho : xo = 1
                    · have HE := Lib.hid (HY.out (agT_one ho))
                      clear HX HY h1 h2 h3
                      subst ho
                      go_wp2_with fail
                      refine (FK.out _ QR.out.fr).mono ?_
                      rintro e w6 ⟨rfl, f6⟩
                      have Q6 := Lib.hid (QR.out.non f6)
                      have d2 := again.out _ f6
                      clear f6 d0 d1
                      clear g0 g1 g2 g3 g4 g5 g6 g7 g8 g9 g10 g11 g12
                      obtain ⟨g0, g1, g2, g3, g4, g5, g6, g7, g8, g9, g10, g11, g12⟩ := Q6.out.cells
                      dsimp only [Pd.hd, Pd.kids] at g0 g1 g2 g3 g4 g5 g6 g7 g8 g9 g10 g11 g12
                      go_wp2
                      go_roundw
                      case rel => exact ⟨m + 1, by omega, by go_num, HE, Q6⟩
                      case measure => simp [intOf]; omega
                    · have HE := Lib.hid (HX.out (agT_none ho h3))
                      have hob : (xo != 1) = true := by rw [bne_iff_ne]; exact ho
                      clear HX HY h1 h2 h3 ho
                      go_wp2_with fail
                      refine (FK.out _ QR.out.fr).mono ?_
                      rintro e w6 ⟨rfl, f6⟩
                      have Q6 := Lib.hid (QR.out.non f6)
                      have d2 := again.out _ f6
                      clear f6 d0 d1
                      clear g0 g1 g2 g3 g4 g5 g6 g7 g8 g9 g10 g11 g12
                      obtain ⟨g0, g1, g2, g3, g4, g5, g6, g7, g8, g9, g10, g11, g12⟩ := Q6.out.cells
                      dsimp only [Pd.hd, Pd.kids] at g0 g1 g2 g3 g4 g5 g6 g7 g8 g9 g10 g11 g12
                      go_wp2
                      go_ret
                      exact ⟨ret_int HE.out.symm, Q6.out.fr⟩
                  · rw [h2] at FK
                    have hk0 := find_lt h3
                    by_cases ho : xo = 1
                    · have HE := Lib.hid (HY.out (agT_one ho))
                      clear HX HY h1 h2 h3 hk0
                      subst ho
                      go_wp2_with fail
                      refine (FK.out _ QR.out.fr).mono ?_
                      rintro e w6 ⟨rfl, f6⟩
                      have Q6 := Lib.hid (QR.out.non f6)
                      have d2 := again.out _ f6
                      clear f6 d0 d1
                      clear g0 g1 g2 g3 g4 g5 g6 g7 g8 g9 g10 g11 g12
                      obtain ⟨g0, g1, g2, g3, g4, g5, g6, g7, g8, g9, g10, g11, g12⟩ := Q6.out.cells
                      dsimp only [Pd.hd, Pd.kids] at g0 g1 g2 g3 g4 g5 g6 g7 g8 g9 g10 g11 g12
                      go_wp2
                      go_roundw
                      case rel => exact ⟨m + 1, by omega, by go_num, HE, Q6⟩
                      case measure => simp [intOf]; omega
                    · have HT3 : Hid (agT cs ⟨xo, xn⟩ = (!decide (xo = 3) || decide (cs[k0].ty = 1))) := Lib.hid (agT_some ho h3 hk0)
                      have hob : (xo != 1) = true := by rw [bne_iff_ne]; exact ho
                      clear h1 h2 h3 ho
                      go_wp2_with fail
                      refine (FK.out _ QR.out.fr).mono ?_
                      rintro e w6 ⟨rfl, f6⟩
                      have Q6 := Lib.hid (QR.out.non f6)
                      have d2 := again.out _ f6
                      obtain ⟨ca, rfl, hcn, hct⟩ := Ks.findS (HV.out.non Q6.out.fr) k0 hk0
                      generalize cs[k0].ty = ct at *
                      clear f6 d0 d1 hcn
                      clear g0 g1 g2 g3 g4 g5 g6 g7 g8 g9 g10 g11 g12
                      obtain ⟨g0, g1, g2, g3, g4, g5, g6, g7, g8, g9, g10, g11, g12⟩ := Q6.out.cells
                      dsimp only [Pd.hd, Pd.kids] at g0 g1 g2 g3 g4 g5 g6 g7 g8 g9 g10 g11 g12
                      by_cases h33 : xo = 3
                      · subst h33
                        by_cases hc1 : ct = 1
                        · have HE := Lib.hid (HY.out (by rw [HT3.out, decide_eq_true hc1, Bool.or_true]))
                          clear HX HY HT3
                          subst hc1
                          go_wp2
                          go_roundw
                          case rel => exact ⟨m + 1, by omega, by go_num, HE, Q6⟩
                          case measure => simp [intOf]; omega
                        · have HE := Lib.hid (HX.out (by rw [HT3.out, decide_eq_false hc1]; rfl))
                          have hcb : (ct != 1) = true := by rw [bne_iff_ne]; exact hc1
                          clear HX HY HT3 hc1
                          go_wp2
                          go_ret
                          exact ⟨ret_int HE.out.symm, Q6.out.fr⟩
                      · have HE := Lib.hid (HY.out (by rw [HT3.out, decide_eq_false h33]; rfl))
                        have h33b : (xo == 3) = false := by rw [beq_eq_false_iff_ne]; exact h33
                        clear HX HY HT3 h33
                        go_wp2
                        go_roundw
                        case rel => exact ⟨m + 1, by omega, by go_num, HE, Q6⟩
                        case measure => simp [intOf]; omega
                · have HE : Hid (r = 0) := Lib.hid (by rw [HR2.out, all_endG (by omega) HT.out]; rfl)
                  clear HR2 HT
                  go_wp2
                  go_ret
                  exact ⟨ret_int HE.out.symm, QR.out.fr⟩
        · have hbb : (by_ == []) = false := by rw [beq_eq_false_iff_ne]; exact hb
          have hbb2 : (by_ != []) = true := by rw [bne_iff_ne]; exact hb
          have HR1 : Hid (r = if (hasC cs by_ && (cols.all (hasC cs) && aggs.all (agT cs))) = true then 0 else 10) := Lib.hid (by rw [HR0.out, decide_eq_false hb, Bool.false_or])
          clear HR0 hb
          have FB := Lib.hid (F.out by_)
          rcases find_int cs by_ with ⟨h1, h2, -⟩ | ⟨kb, -, h1, h2⟩
          · rw [h2] at FB
            have HE : Hid (r = 10) := Lib.hid (by rw [HR1.out, h1]; rfl)
            clear HR1 h1 h2
            go_wp2_with fail
            refine (FB.out _ Q3.out.fr).mono ?_
            rintro e w4 ⟨rfl, f4⟩
            go_wp2
            go_ret
            exact ⟨ret_int HE.out.symm, Q3.out.fr.trans f4⟩
          · rw [h2] at FB
            have HR : Hid (r = if (cols.all (hasC cs) && aggs.all (agT cs)) = true then 0 else 10) := Lib.hid (by rw [HR1.out, h1, Bool.true_and])
            clear HR1 h1 h2
            go_wp2_with fail
            refine (FB.out _ Q3.out.fr).mono ?_
            rintro e w4 ⟨rfl, f4⟩
            have Q4 := Lib.hid (Q3.out.non f4)
            clear f4
            clear g0 g1 g2 g3 g4 g5 g6 g7 g8 g9 g10 g11 g12
            obtain ⟨g0, g1, g2, g3, g4, g5, g6, g7, g8, g9, g10, g11, g12⟩ := Q4.out.cells
            dsimp only [Pd.hd, Pd.kids] at g0 g1 g2 g3 g4 g5 g6 g7 g8 g9 g10 g11 g12
            go_wp2
            clear g0 g1 g2 g3 g4 g5 g6 g7 g8 g9 g10 g11 g12
            go_loopw [5] (fun i wr => ∃ k : Nat, k ≤ cols.length ∧ i = .int .i64 k ∧ Hid ((cols.take k).all (hasC cs) = true) ∧ Hid (Qin w w.heap.size ⟨tab, cols, ⟨⟨wo, wc, wm, ⟨wn, wi, wt⟩, wk, wp⟩, wks⟩, aggs, by_⟩ (.slice cA cols.length cc) ⟨sA, sn, sc⟩ (.slice gA aggs.length gc) wr)) (fun i _ => cols.length - (intOf i).toNat)
            case atStart => exact ⟨0, Nat.zero_le _, rfl, Lib.hid rfl, Q4⟩
            case round =>
              obtain ⟨k, hk, rfl, HT, QR⟩ := hrel
              obtain ⟨g0, g1, g2, g3, g4, g5, g6, g7, g8, g9, g10, g11, g12⟩ := QR.out.cells
              dsimp only [Pd.hd, Pd.kids] at g0 g1 g2 g3 g4 g5 g6 g7 g8 g9 g10 g11 g12
              by_cases hlt : k < cols.length
              · obtain ⟨a, rfl, _, _, hel⟩ := QR.out.sls.cols.addr (show 0 < cols.length by omega)
                have c0 := hel k hlt
                unfold sv at c0
                have HX : Hid (hasC cs cols[k] = false → r = 10) := Lib.hid (fun e => by rw [HR.out, all_badG hlt e]; simp)
                have HY : Hid (hasC cs cols[k] = true → (cols.take (k + 1)).all (hasC cs) = true) := Lib.hid (fun e => all_moreG hlt HT.out e)
                have FK := Lib.hid (F.out cols[k])
                clear HT hel
                try dsimp only at c0
                generalize cols[k] = y at *
                rcases find_int cs y with ⟨h1, h2, -⟩ | ⟨k0, -, h1, h2⟩
                · rw [h2] at FK
                  have HE := Lib.hid (HX.out h1)
                  clear HX HY h1 h2
                  go_wp2_with fail
                  refine (FK.out _ QR.out.fr).mono ?_
                  rintro e w6 ⟨rfl, f6⟩
                  go_wp2
                  go_ret
                  exact ⟨ret_int HE.out.symm, QR.out.fr.trans f6⟩
                · rw [h2] at FK
                  have HE := Lib.hid (HY.out h1)
                  clear HX HY h1 h2
                  go_wp2_with fail
                  refine (FK.out _ QR.out.fr).mono ?_
                  rintro e w6 ⟨rfl, f6⟩
                  have Q6 := Lib.hid (QR.out.non f6)
                  clear f6
                  go_wp2
                  go_roundw
                  case rel => exact ⟨k + 1, by omega, by go_num, HE, Q6⟩
                  case measure => simp [intOf]; omega
              · have HR2 : Hid (r = if aggs.all (agT cs) = true then 0 else 10) := Lib.hid (by rw [HR.out, all_endG (by omega) HT.out]; simp)
                clear HR HT
                rename World => W1
                go_wp2
                clear g0 g1 g2 g3 g4 g5 g6 g7 g8 g9 g10 g11 g12
                go_loopw [6] (fun i wr => ∃ k : Nat, k ≤ aggs.length ∧ i = .int .i64 k ∧ Hid ((aggs.take k).all (agT cs) = true) ∧ Hid (Qin w w.heap.size ⟨tab, cols, ⟨⟨wo, wc, wm, ⟨wn, wi, wt⟩, wk, wp⟩, wks⟩, aggs, by_⟩ (.slice cA cols.length cc) ⟨sA, sn, sc⟩ (.slice gA aggs.length gc) wr)) (fun i _ => aggs.length - (intOf i).toNat)
                case atStart => exact ⟨0, Nat.zero_le _, rfl, Lib.hid rfl, QR⟩
                case round =>
                  clear QR
                  obtain ⟨m, hm, rfl, HT, QR⟩ := hrel
                  obtain ⟨g0, g1, g2, g3, g4, g5, g6, g7, g8, g9, g10, g11, g12⟩ := QR.out.cells
                  dsimp only [Pd.hd, Pd.kids] at g0 g1 g2 g3 g4 g5 g6 g7 g8 g9 g10 g11 g12
                  by_cases hlt2 : m < aggs.length
                  · obtain ⟨a, rfl, _, d0, d1⟩ := Ns.gat QR.out.sls.aggs m hlt2
                    have HX : Hid (agT cs aggs[m] = false → r = 10) := Lib.hid (fun e => by rw [HR2.out, all_badG hlt2 e]; simp)
                    have HY : Hid (agT cs aggs[m] = true → (aggs.take (m + 1)).all (agT cs) = true) := Lib.hid (fun e => all_moreG hlt2 HT.out e)
                    have HAGS := Lib.hid QR.out.sls.aggs
                    clear HT
                    try dsimp only at d0 d1
                    generalize hx : aggs[m] = x at *
                    have HXE := Lib.hid hx
                    clear hx
                    obtain ⟨xo, xn⟩ := x
                    dsimp only at d0 d1 HX HY
                    have FK := Lib.hid (F.out xn)
                    have again : Hid (∀ W2, Fr Non wr W2 → W2.cell? (a.add (m * 2)) = some (.int .i64 xo)) := Lib.hid (fun W2 hf => by
                      obtain ⟨a2, ha2, _, e0, _⟩ := Ns.gat (HAGS.out.non hf) m hlt2
                      obtain rfl := Option.some.inj ha2
                      rw [HXE.out] at e0
                      exact e0)
                    clear HAGS HXE
                    rcases find_int cs xn with ⟨h1, h2, h3⟩ | ⟨k0, h3, h1, h2⟩
                    · rw [h2] at FK
                      by_cases ho : xo = 1
                      · have HE := Lib.hid (HY.out (agT_one ho))
                        clear HX HY h1 h2 h3
                        subst ho
                        go_wp2_with fail
                        refine (FK.out _ QR.out.fr).mono ?_
                        rintro e w6 ⟨rfl, f6⟩
                        have Q6 := Lib.hid (QR.out.non f6)
                        have d2 := again.out _ f6
                        clear f6 d0 d1
                        clear g0 g1 g2 g3 g4 g5 g6 g7 g8 g9 g10 g11 g12
                        obtain ⟨g0, g1, g2, g3, g4, g5, g6, g7, g8, g9, g10, g11, g12⟩ := Q6.out.cells
                        dsimp only [Pd.hd, Pd.kids] at g0 g1 g2 g3 g4 g5 g6 g7 g8 g9 g10 g11 g12
                        go_wp2
                        go_roundw
                        case rel => exact ⟨m + 1, by omega, by go_num, HE, Q6⟩
                        case measure => simp [intOf]; omega
                      · have HE := Lib.hid (HX.out (agT_none ho h3))
                        have hob : (xo != 1) = true := by rw [bne_iff_ne]; exact ho
                        clear HX HY h1 h2 h3 ho
                        go_wp2_with fail
                        refine (FK.out _ QR.out.fr).mono ?_
                        rintro e w6 ⟨rfl, f6⟩
                        have Q6 := Lib.hid (QR.out.non f6)
                        have d2 := again.out _ f6
                        clear f6 d0 d1
                        clear g0 g1 g2 g3 g4 g5 g6 g7 g8 g9 g10 g11 g12
                        obtain ⟨g0, g1, g2, g3, g4, g5, g6, g7, g8, g9, g10, g11, g12⟩ := Q6.out.cells
                        dsimp only [Pd.hd, Pd.kids] at g0 g1 g2 g3 g4 g5 g6 g7 g8 g9 g10 g11 g12
                        go_wp2
                        go_ret
                        exact ⟨ret_int HE.out.symm, Q6.out.fr⟩
                    · rw [h2] at FK
                      have hk0 := find_lt h3
                      by_cases ho : xo = 1
                      · have HE := Lib.hid (HY.out (agT_one ho))
                        clear HX HY h1 h2 h3 hk0
                        subst ho
                        go_wp2_with fail
                        refine (FK.out _ QR.out.fr).mono ?_
                        rintro e w6 ⟨rfl, f6⟩
                        have Q6 := Lib.hid (QR.out.non f6)
                        have d2 := again.out _ f6
                        clear f6 d0 d1
                        clear g0 g1 g2 g3 g4 g5 g6 g7 g8 g9 g10 g11 g12
                        obtain ⟨g0, g1, g2, g3, g4, g5, g6, g7, g8, g9, g10, g11, g12⟩ := Q6.out.cells
                        dsimp only [Pd.hd, Pd.kids] at g0 g1 g2 g3 g4 g5 g6 g7 g8 g9 g10 g11 g12
                        go_wp2
                        go_roundw
                        case rel => exact ⟨m + 1, by omega, by go_num, HE, Q6⟩
                        case measure => simp [intOf]; omega
                      · have HT3 : Hid (agT cs ⟨xo, xn⟩ = (!decide (xo = 3) || decide (cs[k0].ty = 1))) := Lib.hid (agT_some ho h3 hk0)
                        have hob : (xo != 1) = true := by rw [bne_iff_ne]; exact ho
                        clear h1 h2 h3 ho
                        go_wp2_with fail
                        refine (FK.out _ QR.out.fr).mono ?_
                        rintro e w6 ⟨rfl, f6⟩
                        have Q6 := Lib.hid (QR.out.non f6)
                        have d2 := again.out _ f6
                        obtain ⟨ca, rfl, hcn, hct⟩ := Ks.findS (HV.out.non Q6.out.fr) k0 hk0
                        generalize cs[k0].ty = ct at *
                        clear f6 d0 d1 hcn
                        clear g0 g1 g2 g3 g4 g5 g6 g7 g8 g9 g10 g11 g12
                        obtain ⟨g0, g1, g2, g3, g4, g5, g6, g7, g8, g9, g10, g11, g12⟩ := Q6.out.cells
                        dsimp only [Pd.hd, Pd.kids] at g0 g1 g2 g3 g4 g5 g6 g7 g8 g9 g10 g11 g12
                        by_cases h33 : xo = 3
                        · subst h33
                          by_cases hc1 : ct = 1
                          · have HE := Lib.hid (HY.out (by rw [HT3.out, decide_eq_true hc1, Bool.or_true]))
                            clear HX HY HT3
                            subst hc1
                            go_wp2
                            go_roundw
                            case rel => exact ⟨m + 1, by omega, by go_num, HE, Q6⟩
                            case measure => simp [intOf]; omega
                          · have HE := Lib.hid (HX.out (by rw [HT3.out, decide_eq_false hc1]; rfl))
                            have hcb : (ct != 1) = true := by rw [bne_iff_ne]; exact hc1
                            clear HX HY HT3 hc1
                            go_wp2
                            go_ret
                            exact ⟨ret_int HE.out.symm, Q6.out.fr⟩
                        · have HE := Lib.hid (HY.out (by rw [HT3.out, decide_eq_false h33]; rfl))
                          have h33b : (xo == 3) = false := by rw [beq_eq_false_iff_ne]; exact h33
                          clear HX HY HT3 h33
                          go_wp2
                          go_roundw
                          case rel => exact ⟨m + 1, by omega, by go_num, HE, Q6⟩
                          case measure => simp [intOf]; omega
                  · have HE : Hid (r = 0) := Lib.hid (by rw [HR2.out, all_endG (by omega) HT.out]; rfl)
                    clear HR2 HT
                    go_wp2
                    go_ret
                    exact ⟨ret_int HE.out.symm, QR.out.fr⟩
    · have hzb : (z != 0) = true := by rw [bne_iff_ne]; exact hz
      have HE : Hid (r = 1) := Lib.hid (by rw [HE0.out, if_pos (.inr hz)])
      clear HE0 HP HSD hz
      go_wp2
      go_ret
      exact ⟨ret_int HE.out.symm, Q2.out.fr⟩
end Go.Proofs.YtjcfjjhhbcgcmaaGreat

namespace Go.Proofs.YtjcfjjhhbcgcmaaGreat
open Go.RowKit
structure RowAt (w : World) (g : Nat) (a : Addr) (x : Co) (y : Cl) : Prop where
  col : CoB w g x
  row : At3 w a y
theorem RowAt.non {w w' : World} {g : Nat} {a : Addr} {x : Co} {y : Cl} (h : RowAt w g a x y) (hf : Fr Non w w') : RowAt w' g a x y := ⟨h.col.fr hf (fun e => e), hf.at3 h.row⟩
set_option maxHeartbeats 4000000 in
theorem srow_any (v1 v2 : Value) (l : List Co) (row : List Cl) (w : World) (h1 : Ks w v1 l) (h2 : Cs w v2 row) (hl : l.length ≤ 1000000000) :
    Calls Tryz.prog 65 #[v1, v2] w fun e w' => e = .returned (.bool (rowB l row)) ∧ Fr Non w w' := by
  obtain ⟨A1, c1, rfl, hc1, hn1, hcell1⟩ := h1
  obtain ⟨A2, c2, rfl, hc2, hn2, hcell2⟩ := h2
  have HN1 := Lib.hid hn1
  have HN2 := Lib.hid hn2
  have HC1 := Lib.hid hcell1
  have HC2 := Lib.hid hcell2
  clear hn1 hn2 hcell1 hcell2
  by_cases hlen : l.length = row.length
  · have HL := Lib.hid hlen
    have hb : ((row.length : Int) != l.length) = false := by rw [hlen]; simp
    have hle : l.length ≤ row.length := by omega
    have hge : row.length ≤ l.length := by omega
    clear hlen
    go_enter Tryz.func65, Tryz.ntmps65
    go_wp2
    go_loopw [14] (fun i wr => ∃ k : Nat, k ≤ l.length ∧ i = .int .i64 k ∧ Hid (∀ j (h : j < l.length) (h2 : j < row.length), j < k → mayC l[j].ty l[j].nl row[j] = true) ∧ Fr Non w wr) (fun i _ => l.length - (intOf i).toNat)
    case atStart => exact ⟨0, Nat.zero_le _, rfl, Lib.hid (fun _ _ _ h => by omega), Fr.refl _ _⟩
    case round =>
      obtain ⟨k, hk, rfl, HT, hfr⟩ := hrel
      by_cases hlt : k < l.length
      · cases A1 with
        | none => have := HN1.out rfl; omega
        | some a1 =>
          cases A2 with
          | none => have := HN2.out rfl; omega
          | some a2 =>
            have hlt2 : k < row.length := by omega
            obtain ⟨g0, g1, g2⟩ := co_lit ((HC1.out a1 rfl k hlt).non hfr)
            have hr := hfr.at3 (HC2.out a2 rfl k hlt2)
            have HY := Lib.hid (fun h => row_more hlt hlt2 HT.out h)
            have HX := Lib.hid (fun h => row_bad hlt hlt2 h)
            clear HT
            generalize l[k] = x at *
            generalize row[k] = y at *
            obtain ⟨xn, xt, xb⟩ := x
            obtain ⟨yn, yt, yb⟩ := y
            dsimp only at g0 g1 g2 HY HX
            have f1 := (Fr.refl Non wr).alloc (.cells #[.string ⟨xn.toArray⟩, .int .i64 xt, .bool xb] 56)
            have hD : RowAt _ wr.heap.size _ _ _ := ⟨co_new wr ⟨xn, xt, xb⟩, f1.at3 hr⟩
            have FD := Lib.hid (hfr.trans f1)
            replace hD := Lib.hid hD
            clear hr f1 hfr
            go_wp2
            obtain ⟨V, hV⟩ : ∃ V, wr.alloc (.cells #[.string ⟨xn.toArray⟩, .int .i64 xt, .bool xb] 56) = V := ⟨_, rfl⟩
            rw [hV] at hD FD ⊢
            clear hV
            have hD := hD.out
            have FD := FD.out
            generalize wr.heap.size = g at *
            replace hD : RowAt V.drew g _ _ _ := ⟨hD.col, hD.row.keep rfl⟩
            replace FD := FD.drew
            have M := fun W => may_any xt xb ⟨yn, yt, yb⟩ W
            unfold clV clC at M
            dsimp only at M
            replace M := Lib.hid M
            have t1 : V.drew.cell? ⟨g, 1, none⟩ = some (.int .i64 xt) := hD.col.cell 1
            have t2 : V.drew.cell? ⟨g, 2, none⟩ = some (.bool xb) := hD.col.cell 2
            obtain ⟨t3, t4, t5⟩ := hD.row.lit
            dsimp only at t3 t4 t5
            replace hD := Lib.hid hD
            replace FD := Lib.hid FD
            go_region_held3 (fun W => W.cell? ⟨g, 1, none⟩ = some (.int .i64 xt) ∧ W.cell? ⟨g, 2, none⟩ = some (.bool xb) ∧ W.cell? (a2.add (k * 3)) = some (.bool yn) ∧ W.cell? { block := (a2.add (k * 3)).block, off := (a2.add (k * 3)).off + 1 } = some (.int .i64 yt) ∧ W.cell? { block := (a2.add (k * 3)).block, off := (a2.add (k * 3)).off + 2 } = some (.string ⟨yb.toArray⟩)) (first | exact ⟨t1, t2, t3, t4, t5⟩ | exact ⟨u1, u2, u3, u4, u5⟩ | fail) (first | (go_at_call 91; refine (M.out _).mono ?_; rintro e w4 ⟨rfl, f4⟩; have F4 := Lib.hid (FD.out.trans f4); have h4 := hD.out.non f4; have u1 : w4.cell? ⟨g, 1, none⟩ = some (.int .i64 xt) := h4.col.cell 1; have u2 : w4.cell? ⟨g, 2, none⟩ = some (.bool xb) := h4.col.cell 2; obtain ⟨u3, u4, u5⟩ := h4.row.lit))
            clear u1 u2 u3 u4 u5 h4 f4 t1 t2 t3 t4 t5 hD FD M
            cases hM : mayC xt xb ⟨yn, yt, yb⟩
            · have HE := Lib.hid (HX.out hM)
              clear HX HY hM
              go_wp2
              go_ret
              exact ⟨ret_boolE HE.out.symm, F4.out⟩
            · have HE := Lib.hid (HY.out hM)
              clear HX HY hM
              go_wp2
              go_roundw
              case rel => exact ⟨k + 1, by omega, by go_num, HE, F4.out⟩
              case measure => simp [intOf]; omega
      · have HE := Lib.hid (row_yes HL.out (fun j h h2 => HT.out j h h2 (by omega)))
        clear HT
        go_wp2
        go_ret
        exact ⟨ret_boolE HE.out.symm, hfr⟩
  · have hb : ((row.length : Int) != l.length) = true := by rw [bne_iff_ne]; omega
    have HE := Lib.hid (row_len hlen)
    clear hlen
    go_enter Tryz.func65, Tryz.ntmps65
    go_wp2
    go_ret
    exact ⟨ret_boolE HE.out.symm, Fr.refl _ _⟩
set_option maxHeartbeats 4000000 in
theorem rrow_any (v1 v2 : Value) (l : List Co) (row : List Cl) (w : World) (h1 : Ks w v1 l) (h2 : Cs w v2 row) (hl : l.length ≤ 1000000000) :
    Calls Tryz.prog 26 #[v1, v2] w fun e w' => e = .returned (.bool (rowB l row)) ∧ Fr Non w w' := by
  obtain ⟨A1, c1, rfl, hc1, hn1, hcell1⟩ := h1
  obtain ⟨A2, c2, rfl, hc2, hn2, hcell2⟩ := h2
  have HN1 := Lib.hid hn1
  have HN2 := Lib.hid hn2
  have HC1 := Lib.hid hcell1
  have HC2 := Lib.hid hcell2
  clear hn1 hn2 hcell1 hcell2
  by_cases hlen : l.length = row.length
  · have HL := Lib.hid hlen
    have hb : ((l.length : Int) != row.length) = false := by rw [hlen]; simp
    have hle : l.length ≤ row.length := by omega
    have hge : row.length ≤ l.length := by omega
    clear hlen
    go_enter Tryz.func26, Tryz.ntmps26
    go_wp2
    go_loopw [5] (fun i wr => ∃ k : Nat, k ≤ l.length ∧ i = .int .i64 k ∧ Hid (∀ j (h : j < l.length) (h2 : j < row.length), j < k → mayC l[j].ty l[j].nl row[j] = true) ∧ Fr Non w wr) (fun i _ => l.length - (intOf i).toNat)
    case atStart => exact ⟨0, Nat.zero_le _, rfl, Lib.hid (fun _ _ _ h => by omega), Fr.refl _ _⟩
    case round =>
      obtain ⟨k, hk, rfl, HT, hfr⟩ := hrel
      by_cases hlt : k < l.length
      · cases A1 with
        | none => have := HN1.out rfl; omega
        | some a1 =>
          cases A2 with
          | none => have := HN2.out rfl; omega
          | some a2 =>
            have hlt2 : k < row.length := by omega
            obtain ⟨g0, g1, g2⟩ := co_lit ((HC1.out a1 rfl k hlt).non hfr)
            have hr := hfr.at3 (HC2.out a2 rfl k hlt2)
            have HY := Lib.hid (fun h => row_more hlt hlt2 HT.out h)
            have HX := Lib.hid (fun h => row_bad hlt hlt2 h)
            clear HT
            generalize l[k] = x at *
            generalize row[k] = y at *
            obtain ⟨xn, xt, xb⟩ := x
            obtain ⟨yn, yt, yb⟩ := y
            dsimp only at g0 g1 g2 HY HX
            have FD := Lib.hid hfr.drew
            have M := fun W => rmay_any xt xb ⟨yn, yt, yb⟩ W
            unfold clV clC at M
            dsimp only at M
            replace M := Lib.hid M
            obtain ⟨t3, t4, t5⟩ := (hr.keep (w' := wr.drew) rfl).lit
            replace g1 : wr.drew.cell? _ = _ := g1
            replace g2 : wr.drew.cell? _ = _ := g2
            clear g0 hr hfr
            dsimp only at t3 t4 t5
            go_wp2
            go_region_held3 (fun W => W.cell? { block := (a1.add (k * 3)).block, off := (a1.add (k * 3)).off + 1 } = some (.int .i64 xt) ∧ W.cell? { block := (a1.add (k * 3)).block, off := (a1.add (k * 3)).off + 2 } = some (.bool xb) ∧ W.cell? (a2.add (k * 3)) = some (.bool yn) ∧ W.cell? { block := (a2.add (k * 3)).block, off := (a2.add (k * 3)).off + 1 } = some (.int .i64 yt) ∧ W.cell? { block := (a2.add (k * 3)).block, off := (a2.add (k * 3)).off + 2 } = some (.string ⟨yb.toArray⟩)) (first | exact ⟨g1, g2, t3, t4, t5⟩ | exact ⟨u1, u2, u3, u4, u5⟩ | fail) (first | (go_at_call 16; refine (M.out _).mono ?_; rintro e w4 ⟨rfl, f4⟩; have F4 := Lib.hid (FD.out.trans f4); have u1 := (f4.cell (World.block_lt_of_cell? _ _ g1) (fun e => e)).trans g1; have u2 := (f4.cell (World.block_lt_of_cell? _ _ g2) (fun e => e)).trans g2; have u3 := (f4.cell (World.block_lt_of_cell? _ _ t3) (fun e => e)).trans t3; have u4 := (f4.cell (World.block_lt_of_cell? _ _ t4) (fun e => e)).trans t4; have u5 := (f4.cell (World.block_lt_of_cell? _ _ t5) (fun e => e)).trans t5))
            clear u1 u2 u3 u4 u5 f4 g1 g2 t3 t4 t5 FD M
            cases hM : mayC xt xb ⟨yn, yt, yb⟩
            · have HE := Lib.hid (HX.out hM)
              clear HX HY hM
              go_wp2
              go_ret
              exact ⟨ret_boolE HE.out.symm, F4.out⟩
            · have HE := Lib.hid (HY.out hM)
              clear HX HY hM
              go_wp2
              go_roundw
              case rel => exact ⟨k + 1, by omega, by go_num, HE, F4.out⟩
              case measure => simp [intOf]; omega
      · have HE := Lib.hid (row_yes HL.out (fun j h h2 => HT.out j h h2 (by omega)))
        clear HT
        go_wp2
        go_ret
        exact ⟨ret_boolE HE.out.symm, hfr⟩
  · have hb : ((l.length : Int) != row.length) = true := by rw [bne_iff_ne]; omega
    have HE := Lib.hid (row_len hlen)
    clear hlen
    go_enter Tryz.func26, Tryz.ntmps26
    go_wp2
    go_ret
    exact ⟨ret_boolE HE.out.symm, Fr.refl _ _⟩
end Go.Proofs.YtjcfjjhhbcgcmaaGreat

namespace Go.Proofs.YtjcfjjhhbcgcmaaGreat
open Go.RowKit
theorem ow_not_it {α : Type} {f : α → Value} {E : TypeId} {w : World} {B : Nat} {v : Value} {d : List α} (h : Ow f E w B v d) {k p : Nat} {l : List UInt8} (hi : ItU w k l p) : ¬ v.ownBlock = some k := by
  intro e
  obtain ⟨cur, hc⟩ := h.kind k e
  unfold ItU at hi
  rw [hi] at hc
  cases hc
set_option maxHeartbeats 1000000 in
theorem rgfold_any (l : List UInt8) (w : World) (hl : l.length ≤ 1000000000) : Calls Tryz.prog 77 #[.string ⟨l.toArray⟩] w fun e w' => ∃ u, e = .returned u ∧ Ow ruv 21 w' w.heap.size u (foldU l) ∧ Fr Non w w' := by
  go_enter Tryz.func77, Tryz.ntmps77
  go_wp2
  have hst := (ow_lit0 (f := ruv) (E := 21) w w.heap.size w.heap.size rfl (Nat.le_refl _))
  have hit0 := ItU.new (w.alloc (.cells #[] 21)) l
  have hf0 : Fr Non w ((w.alloc (.cells #[] 21)).iter ⟨l.toArray⟩ 0) := ((Fr.refl Non w).alloc _).alloc _
  rw [show (w.alloc (.cells #[] 21)).heap.size = w.heap.size + 1 by simp] at hit0
  go_loopw [3] (fun v wr => ∃ k d, k ≤ l.length ∧ ItU wr (w.heap.size + 1) l k ∧ Ow ruv 21 wr w.heap.size v d ∧ Fr Non w wr ∧ Hid (fdU l k d)) (fun _ wr => l.length - wr.iterPos (w.heap.size + 1))
  case atStart => exact ⟨0, [], by omega, hit0, hst.alloc _, hf0, Lib.hid (fdU_zero l)⟩
  case round =>
    clear hst hit0 hf0
    obtain ⟨k, d, hk, hit, hown, hfr, hd⟩ := hrel
    have hp0 := hit.pos
    by_cases hlt : k < l.length
    · obtain ⟨hm, hw1, hw2, hok⟩ := fdU_more hd.out hlt
      obtain ⟨W, hnx, hitW, hfW⟩ := nextU wr (w.heap.size + 1) k l hit hlt
      have hnot := ow_not_it hown hit
      have hownW := hown.fr hfW (fun q hq e => hnot (by rw [hq, show q = w.heap.size + 1 from e]))
      have hfrW := hfr.fresh hfW (fun q e => by have : q = w.heap.size + 1 := e; omega)
      have hdl := hd.out.2
      have HM := Lib.hid hm
      have hr := okU_le hok
      clear hd hit hown hfr hfW hok hm hnot
      generalize (dcU (l.drop k)).1 = r at *
      generalize hq : k + (dcU (l.drop k)).2 = q at *
      have hkq : k < q := by omega
      have hB := hitW.lt
      clear hq hw1
      by_cases h1 : 65 ≤ r
      · have hb1 : decide ((65 : Int) ≤ (r : Int)) = true := by simp; omega
        by_cases h2 : r ≤ 90
        · rw [smU_lt h1 h2] at HM
          have hb2 : decide ((r : Int) ≤ 90) = true := by simp; omega
          have hw1 : IntKind.i32.wrap ((r : Int) - 65) = (r : Int) - 65 := by simp [IntKind.wrap, IntKind.bits, IntKind.signed]; omega
          have hw2 : IntKind.i32.wrap ((r : Int) - 65 + 97) = ((r + 32 : Nat) : Int) := by simp [IntKind.wrap, IntKind.bits, IntKind.signed]; omega
          clear h1 h2
          go_wp2_with (at_builtin; refine wpList_pushG el_rune ruv_one rfl (.tmp 21) (.tmp 23) rfl w.heap.size _ d rfl hownW _ (r + 32) rfl rfl (by omega) (by omega) ?_; intro v5 w5 hown5 hf5)
          have hnotW := ow_not_it hownW hitW
          have hit5 := hitW.fr hf5 hnotW
          have hfr5 := hfrW.fresh hf5 (fun q hq => by have := (hownW.lt q hq).1; omega)
          go_roundw
          case rel => exact ⟨q, _, by omega, hit5, hown5, hfr5, HM⟩
          case measure => rw [hp0, hit5.pos]; omega
        · rw [smU_hi (by omega)] at HM
          have hb2 : decide ((r : Int) ≤ 90) = false := by simp; omega
          clear h1 h2
          go_wp2_with (at_builtin; refine wpList_pushG el_rune ruv_one rfl (.tmp 21) (.tmp 23) rfl w.heap.size _ d rfl hownW _ r rfl rfl (by omega) (by omega) ?_; intro v5 w5 hown5 hf5)
          have hnotW := ow_not_it hownW hitW
          have hit5 := hitW.fr hf5 hnotW
          have hfr5 := hfrW.fresh hf5 (fun q hq => by have := (hownW.lt q hq).1; omega)
          go_roundw
          case rel => exact ⟨q, _, by omega, hit5, hown5, hfr5, HM⟩
          case measure => rw [hp0, hit5.pos]; omega
      · rw [smU_lo (by omega)] at HM
        have hb1 : decide ((65 : Int) ≤ (r : Int)) = false := by simp; omega
        clear h1
        go_wp2_with (at_builtin; refine wpList_pushG el_rune ruv_one rfl (.tmp 21) (.tmp 23) rfl w.heap.size _ d rfl hownW _ r rfl rfl (by omega) (by omega) ?_; intro v5 w5 hown5 hf5)
        have hnotW := ow_not_it hownW hitW
        have hit5 := hitW.fr hf5 hnotW
        have hfr5 := hfrW.fresh hf5 (fun q hq => by have := (hownW.lt q hq).1; omega)
        go_roundw
        case rel => exact ⟨q, _, by omega, hit5, hown5, hfr5, HM⟩
        case measure => rw [hp0, hit5.pos]; omega
    · have hnx := fun ty => nextU_end wr (w.heap.size + 1) k l hit hlt ty
      have HE := Lib.hid (fdU_end hd.out hlt)
      clear hd
      go_wp2
      go_ret
      exact ⟨_, rfl, by rw [← HE.out]; exact hown, hfr⟩
theorem empty_any (v : Value) (p : List Nat) (w : World) (hv : Vs ruv w v p) (hl : p.length ≤ 1000000000) : Calls Tryz.prog 155 #[v] w fun e w' => e = .returned (.bool (mtG p [])) ∧ w = w' := by
  rw [mtG_empty]
  obtain ⟨A, c, rfl, hlc, hn, hcell⟩ := hv
  have HC := Lib.hid hcell
  have HN := Lib.hid hn
  clear hcell hn
  go_enter Tryz.func155, Tryz.ntmps155
  go_wp2
  go_loop [7] (fun i => ∃ k : Nat, k ≤ p.length ∧ i = .int .i64 k ∧ Hid (∀ j (hj : j < p.length), j < k → p[j] = 37)) (fun i => p.length - (intOf i).toNat)
  case atStart => exact ⟨0, by omega, rfl, Lib.hid (fun _ _ h => by omega)⟩
  case round =>
    obtain ⟨k, hk, rfl, hok⟩ := hrel
    by_cases hlt : k < p.length
    · cases A with
      | none => have := HN.out rfl; omega
      | some a =>
        have hce := HC.out a rfl k hlt
        unfold ruv at hce
        by_cases h : p[k] = 37
        · have HM : Hid (∀ j (hj : j < p.length), j < k + 1 → p[j] = 37) := Lib.hid (fun j hj hlt2 => by
            by_cases e : j = k
            · subst e; exact h
            · exact hok.out j hj (by omega))
          have hb : ((p[k] : Nat) : Int) = 37 := by omega
          rw [hb] at hce
          clear h hb hok
          go_wp2
          go_roundw
          case rel => exact ⟨k + 1, by omega, by go_num, HM⟩
          case measure => simp [intOf]; omega
        · have HX : Hid (p.all (fun c => c == 37) = false) := Lib.hid (by
            rw [Bool.eq_false_iff]; intro e
            exact h (by simpa using List.all_eq_true.1 e _ (List.getElem_mem hlt)))
          have hb : (((p[k] : Nat) : Int) == 37) = false := by rw [beq_eq_false_iff_ne]; omega
          clear h hok
          generalize p[k] = x at *
          go_wp2
          go_ret
          exact ⟨ret_boolE HX.out.symm, rfl⟩
    · have HX : Hid (p.all (fun c => c == 37) = true) := Lib.hid (by
        rw [List.all_eq_true]; intro x hx
        obtain ⟨j, hj, rfl⟩ := List.mem_iff_getElem.1 hx
        simpa using hok.out j hj (by omega))
      clear hok
      go_wp2
      go_ret
      exact ⟨ret_boolE HX.out.symm, rfl⟩
end Go.Proofs.YtjcfjjhhbcgcmaaGreat

namespace Go.Proofs.YtjcfjjhhbcgcmaaGreat
open Go.RowKit
def msG (P T a k : Nat) : Nat := (T - k) * (P + 1) + (P - a)
theorem msG_at {P T a k : Nat} (ha : a < P) : msG P T (a + 1) k < msG P T a k := by unfold msG; omega
theorem msG_more {P T a k p : Nat} (ha : a < P) (hk : k ≤ p) : msG P T (a + 1) p < msG P T a k := by
  unfold msG
  have := Nat.mul_le_mul_right (P + 1) (show T - p ≤ T - k by omega)
  omega
theorem msG_back {P T a b k : Nat} (hk : k < T) : msG P T b (k + 1) < msG P T a k := by
  unfold msG
  have e : T - k = (T - (k + 1)) + 1 := by omega
  rw [e, Nat.succ_mul]
  omega
theorem stG_k {P T : List Nat} {a p k : Nat} {back : Int} (h : stG P T a p back k) : k ≤ p ∧ (back < 0 ∨ ∃ b : Nat, back = b ∧ b ≤ a) := by
  rcases h with ⟨h0, h1, _⟩ | ⟨b, h0, h1, h2, _⟩
  · exact ⟨by omega, .inl (by omega)⟩
  · exact ⟨h2, .inr ⟨b, h0, h1⟩⟩
set_option maxHeartbeats 2000000 in
theorem matches_any (v u : Value) (P T : List Nat) (w : World) (hv : Vs ruv w v P) (hu : Vs ruv w u T) (hl : P.length ≤ 1000000000) (hlt : T.length ≤ 1000000000) :
    Calls Tryz.prog 134 #[v, u] w fun e w' => e = .returned (.bool (mtG P T)) ∧ Fr Non w w' := by
  have HV := Lib.hid hv
  have HU := Lib.hid hu
  obtain ⟨A, c, rfl, hlc, hn, hcell⟩ := hv
  obtain ⟨A2, c2, rfl, hlc2, hn2, hcell2⟩ := hu
  have HC := Lib.hid hcell
  have HC2 := Lib.hid hcell2
  have HN := Lib.hid hn
  have HN2 := Lib.hid hn2
  clear hcell hn hcell2 hn2
  go_enter Tryz.func134, Tryz.ntmps134
  go_wp2
  go_loopw [5, 6, 7, 8] (fun ia ip ib ik wr => ∃ (a p k : Nat) (back : Int), a ≤ P.length ∧ p ≤ T.length ∧ ia = .int .i64 a ∧ ip = .int .i64 p ∧ ib = .int .i64 back ∧ ik = .int .i64 k ∧ Hid (stG P T a p back k) ∧ Fr Non w wr) (fun ia _ _ ik _ => msG P.length T.length (intOf ia).toNat (intOf ik).toNat)
  case atStart => exact ⟨0, 0, 0, -1, by omega, by omega, rfl, rfl, rfl, rfl, Lib.hid (stG_start P T), Fr.refl _ _⟩
  case round =>
    obtain ⟨a, p, k, back, ha, hp, rfl, rfl, rfl, rfl, hst, hfr⟩ := hrel
    obtain ⟨hkp, hba⟩ := stG_k hst.out
    have HB := Lib.hid hba
    have HF := Lib.hid hfr
    clear hba hfr
    by_cases hpl : p < T.length
    · obtain ⟨q2, rfl⟩ : ∃ q, A2 = some q := by
        cases A2 with
        | none => have := HN2.out rfl; omega
        | some q => exact ⟨q, rfl⟩
      have hcT := HF.out.cell (World.block_lt_of_cell? w _ (HC2.out q2 rfl p hpl)) (fun e => e) |>.trans (HC2.out q2 rfl p hpl)
      unfold ruv at hcT
      -- behind the last any, or nowhere
      by_cases hal : a < P.length
      · obtain ⟨q1, rfl⟩ : ∃ q, A = some q := by
          cases A with
          | none => have := HN.out rfl; omega
          | some q => exact ⟨q, rfl⟩
        have hcP := HF.out.cell (World.block_lt_of_cell? w _ (HC.out q1 rfl a hal)) (fun e => e) |>.trans (HC.out q1 rfl a hal)
        unfold ruv at hcP
        by_cases h37 : P[a] = 37
        · have HS := Lib.hid (stG_many hst.out hal hp h37)
          have HM := Lib.hid (msG_more (P := P.length) (T := T.length) hal hkp)
          have hb : ((P[a] : Nat) : Int) = 37 := by omega
          rw [hb] at hcP
          clear hb h37 hst
          go_wp2
          go_roundw
          case rel => exact ⟨a + 1, p, p, ((a + 1 : Nat) : Int), by omega, hp, by go_num, rfl, by go_num, rfl, HS, HF.out⟩
          case measure => simpa [intOf] using HM.out
        · have hb : (((P[a] : Nat) : Int) == 37) = false := by rw [beq_eq_false_iff_ne]; omega
          by_cases hm : P[a] = 95 ∨ P[a] = T[p]
          · have HS := Lib.hid (stG_one hst.out hal hpl h37 hm)
            have HM := Lib.hid (msG_at (P := P.length) (T := T.length) (k := k) hal)
            clear h37 hst HB
            by_cases h95 : P[a] = 95
            · have hb2 : ((P[a] : Nat) : Int) = 95 := by omega
              rw [hb2] at hcP
              clear hb hb2 h95 hm
              generalize T[p] = x at *
              go_wp2
              go_quiet (fail)
              go_wp2
              go_roundw
              case rel => exact ⟨a + 1, p + 1, k, back, by omega, by omega, by go_num, by go_num, rfl, rfl, HS, HF.out.drewN _⟩
              case measure => simpa [intOf] using HM.out
            · have hb2 : (((P[a] : Nat) : Int) == 95) = false := by rw [beq_eq_false_iff_ne]; omega
              have hx : T[p] = P[a] := by rcases hm with h | h; exact absurd h h95; exact h.symm
              rw [hx] at hcT
              clear h95 hm hx
              generalize P[a] = x at *
              go_wp2
              go_quiet (fail)
              go_wp2
              go_roundw
              case rel => exact ⟨a + 1, p + 1, k, back, by omega, by omega, by go_num, by go_num, rfl, rfl, HS, HF.out.drewN _⟩
              case measure => simpa [intOf] using HM.out
          · have hno := mtG_stop hpl (fun _ => ⟨h37, fun e => hm (.inl e), fun e => hm (.inr e)⟩)
            have hb2 : (((P[a] : Nat) : Int) == 95) = false := by rw [beq_eq_false_iff_ne]; intro e; exact hm (.inl (by omega))
            have hb3 : (((P[a] : Nat) : Int) == ((T[p] : Nat) : Int)) = false := by rw [beq_eq_false_iff_ne]; intro e; exact hm (.inr (by omega))
            rcases HB.out with hneg | ⟨b, rfl, hble⟩
            · have HX := Lib.hid (stG_no hst.out hneg hno)
              have hb4 : decide ((0 : Int) ≤ back) = false := by simp; omega
              clear h37 hm hst HB hno hneg
              generalize P[a] = x at *
              generalize T[p] = y at *
              go_wp2
              go_quiet (fail)
              go_wp2
              go_ret
              exact ⟨ret_boolE HX.out.symm, HF.out.drewN _⟩
            · have HS := Lib.hid (stG_back hst.out hpl hno).1
              have HM := Lib.hid (msG_back (P := P.length) (T := T.length) (a := a) (b := b) (k := k) (by omega))
              clear h37 hm hst HB hno
              generalize P[a] = x at *
              generalize T[p] = y at *
              go_wp2
              go_quiet (fail)
              go_wp2
              go_roundw
              case rel => exact ⟨b, k + 1, k + 1, (b : Int), by omega, by omega, rfl, by go_num, rfl, by go_num, HS, HF.out.drewN _⟩
              case measure => simpa [intOf] using HM.out
      · have hno := mtG_stop (P := P) (a := a) hpl (fun h => absurd h hal)
        rcases HB.out with hneg | ⟨b, rfl, hble⟩
        · have HX := Lib.hid (stG_no hst.out hneg hno)
          have hb4 : decide ((0 : Int) ≤ back) = false := by simp; omega
          clear hst HB hno hneg
          generalize T[p] = y at *
          go_wp2
          go_quiet (fail)
          go_wp2
          go_ret
          exact ⟨ret_boolE HX.out.symm, HF.out.drewN _⟩
        · have HS := Lib.hid (stG_back hst.out hpl hno).1
          have HM := Lib.hid (msG_back (P := P.length) (T := T.length) (a := a) (b := b) (k := k) (by omega))
          clear hst HB hno
          generalize T[p] = y at *
          go_wp2
          go_quiet (fail)
          go_wp2
          go_roundw
          case rel => exact ⟨b, k + 1, k + 1, (b : Int), by omega, by omega, rfl, by go_num, rfl, by go_num, HS, HF.out.drewN _⟩
          case measure => simpa [intOf] using HM.out
    · obtain rfl : p = T.length := by omega
      have HX := Lib.hid (stG_end hst.out ha)
      obtain ⟨A', c', hrun, hvs, _⟩ := slice_loG el_rune A P.length c a .i64 (a : Int) rfl ha hlc
      have hv2 := hvs ruv wr P rfl (HV.out.non HF.out)
      have HE := Lib.hid (empty_any _ _ wr hv2 (by rw [List.length_drop]; omega))
      clear hst HB hvs hv2
      go_wp2_with fail
      refine HE.out.mono ?_
      rintro e w1 ⟨rfl, rfl⟩
      go_wp2
      go_ret
      exact ⟨ret_boolE HX.out.symm, HF.out⟩
theorem gmatch_any (p s : List UInt8) (w : World) (hp : p.length ≤ 1000000000) (hs : s.length ≤ 1000000000) :
    Calls Tryz.prog 118 #[.string ⟨p.toArray⟩, .string ⟨s.toArray⟩] w fun e w' => e = .returned (.bool (matchU p s)) ∧ Fr Non w w' := by
  have HP := Lib.hid (fun W => gfold_any p W hp)
  have HS := Lib.hid (fun W => gfold_any s W hs)
  have hpl := foldU_le p
  have hsl := foldU_le s
  have HM := Lib.hid (fun v u W (h1 : Vs ruv W v (foldU p)) (h2 : Vs ruv W u (foldU s)) => matches_any v u _ _ W h1 h2 (by omega) (by omega))
  clear hpl hsl
  unfold matchU
  generalize foldU p = P at *
  generalize foldU s = T at *
  go_enter Tryz.func118, Tryz.ntmps118
  go_wp2_with fail
  refine (HP.out _).mono ?_
  rintro e w1 ⟨u1, rfl, o1, f1⟩
  go_wp2_with fail
  refine (HS.out _).mono ?_
  rintro e w2 ⟨u2, rfl, o2, f2⟩
  have H2 := Lib.hid (HM.out u1 u2 w2 (o1.vs.non f2) o2.vs)
  have F2 := Lib.hid (f1.trans f2)
  clear HP HS HM o1 o2 f1 f2
  go_wp2_with fail
  refine H2.out.mono ?_
  rintro e w3 ⟨rfl, f3⟩
  go_wp2
  go_ret
  exact ⟨rfl, F2.out.trans f3⟩
end Go.Proofs.YtjcfjjhhbcgcmaaGreat

namespace Go.Proofs.YtjcfjjhhbcgcmaaGreat
open Go.RowKit
theorem canK_many {q T : List Nat} {k : Nat} {b : Bool} (hk : k ≤ T.length) (hb : b = (mtG q (T.take k) || (decide (0 < k) && mtG (q ++ [37]) (T.take (k - 1))))) : (canK (q ++ [37]) T k).set k b = canK (q ++ [37]) T (k + 1) :=
  canK_set _ _ _ _ hk (by rw [mtG_snoc_many _ _ _ hk, hb])
theorem canK_one {q T : List Nat} {c k : Nat} {b : Bool} (hc : c ≠ 37) (hk : k ≤ T.length) (hb : b = (decide (0 < k) && mtG q (T.take (k - 1)) && (c == 95 || c == T.getD (k - 1) 0))) : (canK (q ++ [c]) T k).set k b = canK (q ++ [c]) T (k + 1) :=
  canK_set _ _ _ _ hk (by rw [mtG_snoc_one _ _ _ _ hc hk, hb])
theorem canK_cur (q T : List Nat) (k : Nat) (hk : k ≤ T.length) : (canK q T k)[k]? = some false := by
  unfold canK
  rw [List.getElem?_append_right (by rw [List.length_take, canG_len]; omega), List.length_take, canG_len, List.getElem?_replicate, if_pos (by omega)]
set_option maxHeartbeats 4000000 in
theorem rgmatch_any (p s : List UInt8) (w : World) (hp : p.length ≤ 1000000) (hs : s.length ≤ 1000000) :
    Calls Tryz.prog 49 #[.string ⟨p.toArray⟩, .string ⟨s.toArray⟩] w fun e w' => e = .returned (.bool (matchU p s)) ∧ Fr Non w w' := by
  have HP := Lib.hid (fun W => rgfold_any p W (by omega))
  have HS := Lib.hid (fun W => rgfold_any s W (by omega))
  have hpl := foldU_le p
  have hsl := foldU_le s
  unfold matchU
  generalize foldU p = P at *
  generalize foldU s = T at *
  have hpP : P.length ≤ 1000000 := by omega
  have hpT : T.length ≤ 1000000 := by omega
  clear hpl hsl
  go_enter Tryz.func49, Tryz.ntmps49
  go_wp2_with fail
  refine (HP.out _).mono ?_
  rintro e w1 ⟨u1, rfl, o1, f1⟩
  go_wp2_with fail
  refine (HS.out _).mono ?_
  rintro e w2 ⟨u2, rfl, o2, f2⟩
  have HV1 := Lib.hid (o1.vs.non f2)
  have HV2 := Lib.hid o2.vs
  have HF2 := Lib.hid (f1.trans f2)
  have hn1 := HV1.out
  have hn2 := HV2.out
  clear HP HS o1 o2 f1 f2
  obtain ⟨A1, c1, rfl, hc1, hnn1, hcell1⟩ := hn1
  obtain ⟨A2, c2, rfl, hc2, hnn2, hcell2⟩ := hn2
  have HC1 := Lib.hid hcell1
  have HC2 := Lib.hid hcell2
  have HN1 := Lib.hid hnn1
  have HN2 := Lib.hid hnn2
  clear hcell1 hcell2 hnn1 hnn2
  go_wp2_with (at_make; refine wpList_mkfullG el_bool (f := tv) false rfl rfl _ _ rfl _ _ _ _ (T.length + 1) rfl rfl rfl rfl (by omega) ?_; intro w3 hown3 hfr3; have hce : w3.cell? ⟨w2.heap.size, 0, none⟩ = some (.bool false) := hown3.cell (by simp) 0 false (by simp); have hfz := hown3.frozen (by simp) 0; have hst := hown3.store (by simp) 0 true; rw [← canG_nil] at hst; have HO3 := Lib.hid hst; have hF4 : Fr Non w2 (w3.setCell ⟨w2.heap.size, 0, none⟩ (tv true)) := hfr3.setCell (p := ⟨w2.heap.size, 0, none⟩) (fun h => absurd h (Nat.lt_irrefl _)) _; have HF4 := Lib.hid hF4; clear hst hfr3 hown3 hF4)
  go_loopw [7, 8] (fun vc vi wr => ∃ i : Nat, i ≤ P.length ∧ vi = .int .i64 i ∧ Ow tv 4 wr w2.heap.size vc (canG (P.take i) T) ∧ Fr Non w2 wr) (fun _ vi _ => P.length - (intOf vi).toNat)
  case atStart => exact ⟨0, by omega, rfl, HO3.out, HF4.out⟩
  case round =>
    clear HO3 HF4
    rename World => wo
    obtain ⟨i, hi, rfl, hown, hfr⟩ := hrel
    obtain ⟨g0, cap, rfl, hg0, hg0s, hcl, _⟩ := hown.row (by rw [canG_len]; omega)
    rw [canG_len] at hcl hown
    rw [canG_len]
    have HF := Lib.hid hfr
    have HC := Lib.hid hown
    clear hown hfr
    by_cases hlt : i < P.length
    · obtain ⟨q1, rfl⟩ : ∃ q, A1 = some q := by
        cases A1 with
        | none => have := HN1.out rfl; omega
        | some q => exact ⟨q, rfl⟩
      have HTk := Lib.hid (take_snocG hlt)
      obtain ⟨c, hc⟩ : ∃ c, P[i] = c := ⟨_, rfl⟩
      have hcP := HC1.out q1 rfl i hlt
      rw [hc] at hcP HTk
      have HcP := Lib.hid hcP
      clear hcP hc
      obtain ⟨Q, hQ⟩ : ∃ Q, P.take i = Q := ⟨_, rfl⟩
      rw [hQ] at HTk HC
      clear hQ
      go_wp2_with (at_make; refine wpList_mkfullG el_bool (f := tv) false rfl rfl _ _ rfl _ _ _ _ (T.length + 1) rfl rfl rfl rfl (by omega) ?_; intro w4 hown4 hfr4; have HO4 := Lib.hid hown4; have HF4 := Lib.hid hfr4; clear hown4 hfr4)
      clear hce hfz
      go_loopw [10] (fun vk wr => ∃ k : Nat, k ≤ T.length + 1 ∧ vk = .int .i64 k ∧ Ow tv 4 wr wo.heap.size (.slice (some ⟨wo.heap.size, 0, none⟩) (T.length + 1) (T.length + 1)) (canK (Q ++ [c]) T k) ∧ Fr Non wo wr) (fun vk _ => T.length + 1 - (intOf vk).toNat)
      case atStart => exact ⟨0, by omega, rfl, by rw [canK_zero]; exact HO4.out, HF4.out⟩
      case round =>
        clear HO4 HF4
        obtain ⟨k, hk, rfl, hown, hfr⟩ := hrel
        have HFx := Lib.hid hfr
        have HOx := Lib.hid hown
        clear hown hfr
        by_cases hlk : k < T.length + 1
        · have hkT : k ≤ T.length := by omega
          have hnK : wr.cell? ⟨wo.heap.size, k, none⟩ = some (.bool false) := HOx.out.cell (canK_len _ _ _ hk).symm k false (canK_cur _ _ _ hkT)
          have hzK := HOx.out.frozen (canK_len _ _ _ hk).symm k
          have HST := Lib.hid (fun b => HOx.out.store (canK_len _ _ _ hk).symm k b)
          have HFS : Hid (∀ b, Fr Non wo (wr.setCell ⟨wo.heap.size, k, none⟩ (tv b))) := Lib.hid (fun b => HFx.out.setCell (p := ⟨wo.heap.size, k, none⟩) (fun h => absurd h (Nat.lt_irrefl _)) _)
          have hcP := HF.out.trans HFx.out |>.cell (World.block_lt_of_cell? _ _ HcP.out) (fun e => e) |>.trans HcP.out
          have HCx := Lib.hid (HC.out.non HFx.out)
          unfold ruv at hcP
          unfold tv at HST HFS
          by_cases h37 : c = 37
          · subst h37
            have hcK := HCx.out.cell (canG_len _ _).symm k _ (canG_get Q T k hkT)
            unfold tv at hcK
            cases hm : mtG Q (T.take k) with
            | true =>
              have HS := Lib.hid (canK_many (q := Q) hkT (b := true) (by rw [hm]; rfl))
              rw [hm] at hcK
              clear hm
              go_wp2
              go_roundw
              case rel => exact ⟨k + 1, by omega, by go_num, by rw [← HS.out]; exact HST.out true, HFS.out true⟩
              case measure => simp [intOf]; omega
            | false =>
              rw [hm] at hcK
              cases k with
              | zero =>
                have HS := Lib.hid (canK_many (q := Q) hkT (b := false) (by rw [hm]; rfl))
                clear hm
                go_wp2
                go_roundw
                case rel => exact ⟨0 + 1, by omega, by go_num, by rw [← HS.out]; exact HST.out false, HFS.out false⟩
                case measure => simp [intOf]
              | succ m =>
                have hcM : wr.cell? ⟨wo.heap.size, m, none⟩ = some (.bool (mtG (Q ++ [37]) (T.take m))) := HOx.out.cell (canK_len _ _ _ hk).symm m _ (canK_at _ _ _ _ (by omega) (by omega))
                have HS := Lib.hid (canK_many (q := Q) hkT (b := mtG (Q ++ [37]) (T.take m)) (by rw [hm]; simp))
                clear hm
                generalize mtG (Q ++ [37]) (T.take m) = b at *
                go_wp2
                go_roundw
                case rel => exact ⟨m + 1 + 1, by omega, by go_num, by rw [← HS.out]; exact HST.out b, HFS.out b⟩
                case measure => simp [intOf]; omega
          · have hb : ((c : Int) == 37) = false := by rw [beq_eq_false_iff_ne]; omega
            cases k with
            | zero =>
              have HS := Lib.hid (canK_one (q := Q) h37 hkT (b := false) rfl)
              clear h37
              go_wp2
              go_region
              go_wp2
              go_roundw
              case rel => exact ⟨0 + 1, by omega, by go_num, by rw [← HS.out]; exact (HST.out false).drew, (HFS.out false).drew⟩
              case measure => simp [intOf]
            | succ m =>
              have hcM := HCx.out.cell (canG_len _ _).symm m _ (canG_get Q T m (by omega))
              unfold tv at hcM
              have hmT : m < T.length := by omega
              obtain ⟨q2, rfl⟩ : ∃ q, A2 = some q := by
                cases A2 with
                | none => have := HN2.out rfl; omega
                | some q => exact ⟨q, rfl⟩
              have hc2x := HC2.out q2 rfl m hmT
              have hcT := HF.out.trans HFx.out |>.cell (World.block_lt_of_cell? _ _ hc2x) (fun e => e) |>.trans hc2x
              unfold ruv at hcT
              clear hc2x
              have hgd : T.getD m 0 = T[m] := by simp [List.getD_eq_getElem?_getD, hmT]
              cases hm : mtG Q (T.take m) with
              | false =>
                have HS := Lib.hid (canK_one (q := Q) (T := T) (k := m + 1) h37 hkT (b := false) (by rw [Nat.add_sub_cancel, hm]; simp))
                rw [hm] at hcM
                clear hm h37 hgd
                generalize T[m] = x at *
                go_wp2
                go_region
                go_wp2
                go_roundw
                case rel => exact ⟨m + 1 + 1, by omega, by go_num, by rw [← HS.out]; exact (HST.out false).drew, (HFS.out false).drew⟩
                case measure => simp [intOf]; omega
              | true =>
                rw [hm] at hcM
                by_cases h95 : c = 95
                · have HS := Lib.hid (canK_one (q := Q) (T := T) (k := m + 1) h37 hkT (b := true) (by rw [Nat.add_sub_cancel, hm, h95]; simp))
                  have hb2 : ((c : Int) == 95) = true := by rw [beq_iff_eq]; omega
                  clear hm h37 hgd h95
                  generalize T[m] = x at *
                  go_wp2
                  go_region
                  go_wp2
                  go_roundw
                  case rel => exact ⟨m + 1 + 1, by omega, by go_num, by rw [← HS.out]; exact (HST.out true).drew, (HFS.out true).drew⟩
                  case measure => simp [intOf]; omega
                · have hb2 : ((c : Int) == 95) = false := by rw [beq_eq_false_iff_ne]; omega
                  have HS := Lib.hid (canK_one (q := Q) (T := T) (k := m + 1) h37 hkT (b := c == T[m]) (by rw [Nat.add_sub_cancel, hm, hgd, beq_eq_false_iff_ne.2 h95]; simp))
                  by_cases hx : c = T[m]
                  · rw [beq_iff_eq.2 hx] at HS
                    rw [← hx] at hcT
                    clear hm h37 hgd h95 hx
                    go_wp2
                    go_region
                    go_wp2
                    go_roundw
                    case rel => exact ⟨m + 1 + 1, by omega, by go_num, by rw [← HS.out]; exact (HST.out true).drew, (HFS.out true).drew⟩
                    case measure => simp [intOf]; omega
                  · rw [beq_eq_false_iff_ne.2 hx] at HS
                    have hb3 : ((c : Int) == ((T[m] : Nat) : Int)) = false := by rw [beq_eq_false_iff_ne]; omega
                    clear hm h37 hgd h95 hx
                    generalize T[m] = x at *
                    go_wp2
                    go_region
                    go_wp2
                    go_roundw
                    case rel => exact ⟨m + 1 + 1, by omega, by go_num, by rw [← HS.out]; exact (HST.out false).drew, (HFS.out false).drew⟩
                    case measure => simp [intOf]; omega
        · obtain rfl : k = T.length + 1 := by omega
          have HN := Lib.hid HOx.out
          rw [canK_all, ← HTk.out] at HN
          go_wp2
          go_roundw
          case rel => exact ⟨i + 1, by omega, by go_num, HN.out.mono (HF.out.size), HF.out.trans HFx.out⟩
          case measure => simp [intOf]; omega
    · obtain rfl : i = P.length := by omega
      rw [List.take_length] at HC
      have hcK := HC.out.cell (canG_len _ _).symm T.length _ (canG_last P T)
      unfold tv at hcK
      have HE := Lib.hid ((HF2.out.trans HF.out))
      clear hce hfz
      go_wp2
      go_ret
      exact ⟨rfl, HE.out⟩
end Go.Proofs.YtjcfjjhhbcgcmaaGreat

namespace Go.Proofs.YtjcfjjhhbcgcmaaGreat
open Go.RowKit
theorem etold_any (b : Bool) (w : World) : Calls Tryz.prog 95 #[.bool b] w fun e w' => e = .returned (.int .i64 (yesI b)) ∧ w = w' := by
  cases b
  all_goals
    go_enter Tryz.func95, Tryz.ntmps95
    go_wp2
    go_ret
    exact ⟨rfl, rfl⟩
theorem ryes_any (b : Bool) (w : World) : Calls Tryz.prog 47 #[.bool b] w fun e w' => e = .returned (.int .i64 (yesI b)) ∧ w = w' := by
  cases b
  all_goals
    go_enter Tryz.func47, Tryz.ntmps47
    go_wp2
    go_ret
    exact ⟨rfl, rfl⟩
theorem erank_any (b : Bool) (w : World) : Calls Tryz.prog 133 #[.bool b] w fun e w' => e = .returned (.int .i64 (bitI b)) ∧ w = w' := by
  cases b
  all_goals
    go_enter Tryz.func133, Tryz.ntmps133
    go_wp2
    go_ret
    exact ⟨rfl, rfl⟩
theorem enot_any (t : Int) (w : World) : Calls Tryz.prog 97 #[.int .i64 t] w fun e w' => e = .returned (.int .i64 (notI t)) ∧ w = w' := by
  by_cases h1 : t = 1
  · subst h1
    go_enter Tryz.func97, Tryz.ntmps97
    go_wp2
    go_ret
    exact ⟨rfl, rfl⟩
  · by_cases h0 : t = 0
    · subst h0
      go_enter Tryz.func97, Tryz.ntmps97
      go_wp2
      go_ret
      exact ⟨rfl, rfl⟩
    · have b1 : (t == 1) = false := by rw [beq_eq_false_iff_ne]; exact h1
      have b0 : (t == 0) = false := by rw [beq_eq_false_iff_ne]; exact h0
      have HE : Hid (notI t = 2) := Lib.hid (by unfold notI; rw [if_neg h1, if_neg h0])
      clear h1 h0
      go_enter Tryz.func97, Tryz.ntmps97
      go_wp2
      go_ret
      exact ⟨ret_int HE.out.symm, rfl⟩
theorem agr_6 {op : Int} (n : Int) (h1 : op ≠ 1) (h2 : op ≠ 2) (h3 : op ≠ 3) (h4 : op ≠ 4) (h5 : op ≠ 5) : agrI op n = decide (0 ≤ n) := by unfold agrI; rw [if_neg h1, if_neg h2, if_neg h3, if_neg h4, if_neg h5]
theorem eagrees_any (op n : Int) (w : World) : Calls Tryz.prog 116 #[.int .i64 op, .int .i64 n] w fun e w' => e = .returned (.bool (agrI op n)) ∧ w = w' := by
  by_cases h1 : op = 1
  · subst h1
    go_enter Tryz.func116, Tryz.ntmps116
    go_wp2
    go_ret
    exact ⟨rfl, rfl⟩
  by_cases h2 : op = 2
  · subst h2
    go_enter Tryz.func116, Tryz.ntmps116
    go_wp2
    go_ret
    exact ⟨rfl, rfl⟩
  by_cases h3 : op = 3
  · subst h3
    go_enter Tryz.func116, Tryz.ntmps116
    go_wp2
    go_ret
    exact ⟨rfl, rfl⟩
  by_cases h4 : op = 4
  · subst h4
    go_enter Tryz.func116, Tryz.ntmps116
    go_wp2
    go_ret
    exact ⟨rfl, rfl⟩
  by_cases h5 : op = 5
  · subst h5
    go_enter Tryz.func116, Tryz.ntmps116
    go_wp2
    go_ret
    exact ⟨rfl, rfl⟩
  have HE := Lib.hid (agr_6 n h1 h2 h3 h4 h5)
  have b1 : (op == 1) = false := by rw [beq_eq_false_iff_ne]; exact h1
  have b2 : (op == 2) = false := by rw [beq_eq_false_iff_ne]; exact h2
  have b3 : (op == 3) = false := by rw [beq_eq_false_iff_ne]; exact h3
  have b4 : (op == 4) = false := by rw [beq_eq_false_iff_ne]; exact h4
  have b5 : (op == 5) = false := by rw [beq_eq_false_iff_ne]; exact h5
  clear h1 h2 h3 h4 h5
  go_enter Tryz.func116, Tryz.ntmps116
  go_wp2
  go_ret
  exact ⟨ret_boolE HE.out.symm, rfl⟩
theorem nanj_any (x : Int) (w : World) : Calls Tryz.prog 154 #[.int .i64 x] w fun e w' => e = .returned (.bool false) ∧ w = w' := by
  have h : (x != x) = false := by simp
  go_enter Tryz.func154, Tryz.ntmps154
  go_wp2
  go_ret
  exact ⟨ret_boolE (by simp), rfl⟩
theorem cmpj_any (x y : Int) (w : World) : Calls Tryz.prog 132 #[.int .i64 x, .int .i64 y] w fun e w' => e = .returned (.int .i64 (cmpI x y)) ∧ w = w' := by
  go_enter Tryz.func132, Tryz.ntmps132
  go_wp2_with fail
  refine (nanj_any x w).mono ?_
  rintro e w1 ⟨rfl, rfl⟩
  go_wp2_with fail
  refine (nanj_any y w).mono ?_
  rintro e w1 ⟨rfl, rfl⟩
  go_wp2
  all_goals
    go_ret
    exact ⟨ret_int (by unfold cmpI; first | (rw [if_pos (by omega)]; done) | (rw [if_neg (by omega), if_pos (by omega)]; done) | (rw [if_neg (by omega), if_neg (by omega)]; done)), rfl⟩
set_option maxHeartbeats 1000000 in
theorem eorder_any (a b : An) (h : AnT a b) (w : World) : Calls Tryz.prog 117 #[anV a, anV b] w fun e w' => e = .returned (.int .i64 (anO a b)) ∧ Fr Non w w' := by
  cases h with
  | int i j =>
    have A1 := fun W v => as_int_int W v
    have A2 := fun W v => is_int W v
    have HC := Lib.hid (fun W => cmpi_any i j W)
    simp only [anV, anO]
    generalize cmpI i j = z at *
    go_enter Tryz.func117, Tryz.ntmps117
    go_wp2_with fail
    refine (HC.out _).mono ?_
    rintro e w1 ⟨rfl, rfl⟩
    go_wp2
    go_ret
    exact ⟨rfl, Fr.refl _ _⟩
  | bool x y =>
    have A1 := fun W v => as_bool_int W v
    have A3 := fun W v => as_bool_bool W v
    have A2 := fun W v => is_bool W v
    have HC := Lib.hid (fun W => cmpj_any (bitI x) (bitI y) W)
    have HX := Lib.hid (fun W => erank_any x W)
    have HY := Lib.hid (fun W => erank_any y W)
    simp only [anV, anO]
    generalize cmpI _ _ = z at *
    generalize bitI x = x1 at *
    generalize bitI y = y1 at *
    go_enter Tryz.func117, Tryz.ntmps117
    go_wp2
    go_quiet (first | (go_at_call 133; exact quietly (HX.out _)) | (go_at_call 133; exact quietly (HY.out _)) | (go_at_call 132; exact quietly (HC.out _)))
    go_wp2
    go_ret
    exact ⟨rfl, (Fr.refl _ _).drewN _⟩
  | text s t =>
    have A1 := fun W v => as_str_int W v
    have A3 := fun W v => as_str_bool W v
    have A2 := fun W v => is_str W v
    have HC := Lib.hid (fun W => cmpt_any s t W)
    simp only [anV, anO]
    generalize cmpT s t = z at *
    go_enter Tryz.func117, Tryz.ntmps117
    go_wp2
    go_quiet (first | (go_at_call 106; exact quietly (HC.out _)))
    go_wp2
    go_ret
    exact ⟨rfl, (Fr.refl _ _).drewN _⟩
end Go.Proofs.YtjcfjjhhbcgcmaaGreat

namespace Go.Proofs.YtjcfjjhhbcgcmaaGreat
open Go.RowKit
theorem ecompared_any (ty : Int) (nl : Bool) (op : Int) (c v : Cl) (w : World) (hc : mayC ty nl c = true) (hv : mayC ty false v = true) :
    Calls Tryz.prog 92 #[anV (toA ty c), anV (toA ty v), .int .i64 op] w fun e w' => e = .returned (.int .i64 (cmpR op c v)) ∧ Fr Non w w' := by
  cases hn : c.null
  · obtain ⟨hT, hO⟩ := an_two hc hv hn (may_null hv)
    have HC := Lib.hid (fun W => eorder_any _ _ hT W)
    rw [hO] at HC
    have HA := Lib.hid (fun n W => eagrees_any op n W)
    have HY := Lib.hid (fun b W => etold_any b W)
    have HE : Hid (cmpR op c v = yesI (agrI op (ordC c v))) := Lib.hid (by unfold cmpR; rw [hn]; rfl)
    have hN := fun W u x => not_nil W u x
    have hsh : ∃ u x, anV (toA ty c) = .iface u x := by
      generalize toA ty c = a at hT
      generalize toA ty v = b at hT
      cases hT <;> exact ⟨_, _, rfl⟩
    obtain ⟨u, x, hux⟩ := hsh
    rw [hux] at HC ⊢
    generalize anV (toA ty v) = y at *
    generalize ordC c v = n at *
    clear hO hT hux hn hc hv
    go_enter Tryz.func92, Tryz.ntmps92
    go_wp2_with fail
    refine (HC.out _).mono ?_
    rintro e w1 ⟨rfl, f1⟩
    go_wp2_with fail
    refine (HA.out _ _).mono ?_
    rintro e w2 ⟨rfl, rfl⟩
    go_wp2_with fail
    refine (HY.out _ _).mono ?_
    rintro e w3 ⟨rfl, rfl⟩
    go_wp2
    go_ret
    exact ⟨ret_int HE.out.symm, f1⟩
  · have HE : Hid (cmpR op c v = 2) := Lib.hid (by unfold cmpR; rw [hn]; rfl)
    rw [toA_null hn]
    generalize anV (toA ty v) = y at *
    unfold anV
    have hN := fun W => nil_nil W
    clear hn hc hv
    go_enter Tryz.func92, Tryz.ntmps92
    go_wp2
    go_ret
    exact ⟨ret_int HE.out.symm, Fr.refl _ _⟩
theorem as_nil_str (W : World) : (Instr.typeAssert .nilIface 20 9 true).run Tryz.prog W = .ok (.tuple #[.string ⟨#[]⟩, .bool false]) W := by kernel_rfl
theorem eliked_any (nl : Bool) (c : Cl) (p : Tx) (w : World) (hc : mayC 3 nl c = true) (hp : p.length ≤ 1000) :
    Calls Tryz.prog 96 #[anV (toA 3 c), .string ⟨p.toArray⟩] w fun e w' => e = .returned (.int .i64 (likR c p)) ∧ Fr Non w w' := by
  cases hn : c.null
  · have ht := mayC_text hc
    have HG := Lib.hid (fun W => gmatch_any p c.txt W (by omega) (by omega))
    have HY := Lib.hid (fun b W => etold_any b W)
    have HE : Hid (likR c p = yesI (matchU p c.txt)) := Lib.hid (by unfold likR; rw [hn]; rfl)
    have hA := fun W v => as_str_str W v
    have ht3 : toA 3 c = .text c.txt := by unfold toA; rw [hn]; rfl
    rw [ht3]
    unfold anV
    generalize c.txt = t at *
    generalize matchU p t = b at *
    clear hn hc ht ht3
    go_enter Tryz.func96, Tryz.ntmps96
    go_wp2_with fail
    refine (HG.out _).mono ?_
    rintro e w1 ⟨rfl, f1⟩
    go_wp2_with fail
    refine (HY.out _ _).mono ?_
    rintro e w2 ⟨rfl, rfl⟩
    go_wp2
    go_ret
    exact ⟨ret_int HE.out.symm, f1⟩
  · have HE : Hid (likR c p = 2) := Lib.hid (by unfold likR; rw [hn]; rfl)
    rw [toA_null hn]
    unfold anV
    have hA := fun W => as_nil_str W
    clear hn hc
    go_enter Tryz.func96, Tryz.ntmps96
    go_wp2
    go_ret
    exact ⟨ret_int HE.out.symm, Fr.refl _ _⟩
def recV (v1 v2 : Value) : Value := .agg #[v1, v2]
set_option maxHeartbeats 2000000 in
theorem evalue_any (v1 v2 : Value) (cols : List Co) (row : List Cl) (n : Tx) (k : Nat) (w : World) (h1 : Ks w v1 cols) (h2 : Cs w v2 row) (hcl : cols.length ≤ 1000) (hk : k < cols.length) (hk2 : k < row.length) (hf : findC cols n = some k) :
    Calls Tryz.prog 93 #[recV v1 v2, .string ⟨n.toArray⟩] w fun e w' => e = .returned (anV (toA cols[k].ty row[k])) ∧ Fr Non w w' := by
  obtain ⟨A1, c1, rfl⟩ := h1.shape
  obtain ⟨A2, c2, rfl⟩ := h2.shape
  have F0 : Fr Non w (w.alloc (.cells #[.slice A1 cols.length c1, .slice A2 row.length c2] 94)) := (Fr.refl Non w).alloc _
  have RB : Blk (w.alloc (.cells #[.slice A1 cols.length c1, .slice A2 row.length c2] 94)) w.heap.size 94 #[.slice A1 cols.length c1, .slice A2 row.length c2] := Blk.new _ _ _
  have FC := Lib.hid (fun W h => sfind_any (.slice A1 cols.length c1) cols n W h (by omega))
  rw [hf] at FC
  have HK1 : Hid (Ks _ (.slice A1 cols.length c1) cols) := Lib.hid (h1.non F0)
  have HC2 := Lib.hid (h2.non F0)
  replace F0 := Lib.hid F0
  replace RB := Lib.hid RB
  have HX := fun W => ato_any cols[k].ty row[k] W
  generalize anV (toA cols[k].ty row[k]) = r at *
  replace HX := Lib.hid HX
  unfold recV
  have g0 := RB.out.cell 0
  simp at g0
  clear h1 h2 hf
  go_enter Tryz.func93, Tryz.ntmps93
  go_wp2_with fail
  refine (FC.out _ HK1.out).mono ?_
  rintro e w1 ⟨rfl, f1⟩
  have RB1 := Lib.hid (RB.out.fr f1 (fun e => e))
  have HK2 : Hid (Ks w1 (.slice A1 cols.length c1) cols) := Lib.hid (HK1.out.non f1)
  have HC3 := Lib.hid (HC2.out.non f1)
  have F1 := Lib.hid (F0.out.trans f1).drew
  clear f1 HK1 HC2 RB F0 FC g0
  obtain ⟨a1, rfl, -, t1⟩ := Ks.findS HK2.out k (by omega)
  obtain ⟨a2, rfl, -, -, hel⟩ := HC3.out.addr (show 0 < row.length by omega)
  obtain ⟨t3, t4, t5⟩ := (hel k (by omega)).lit
  have t6 := RB1.out.cell 0
  have t7 := RB1.out.cell 1
  simp at t6 t7
  generalize cols[k].ty = ty at *
  generalize row[k] = c at *
  obtain ⟨yn, yt, yb⟩ := c
  unfold clV clC at HX
  dsimp only at t3 t4 t5 HX
  unfold findV
  replace t1 : w1.drew.cell? _ = _ := t1
  replace t3 : w1.drew.cell? _ = _ := t3
  replace t4 : w1.drew.cell? _ = _ := t4
  replace t5 : w1.drew.cell? _ = _ := t5
  replace t6 : w1.drew.cell? _ = _ := t6
  replace t7 : w1.drew.cell? _ = _ := t7
  clear hel HK2 HC3 RB1
  generalize w.heap.size = g at *
  go_wp2
  go_region_held3 (fun W => W.cell? ⟨g, 0, none⟩ = some (.slice (some a1) cols.length c1) ∧ W.cell? ⟨g, 1, none⟩ = some (.slice (some a2) row.length c2) ∧ W.cell? { block := (a1.add (k * 3)).block, off := (a1.add (k * 3)).off + 1 } = some (.int .i64 ty) ∧ W.cell? (a2.add (k * 3)) = some (.bool yn) ∧ W.cell? { block := (a2.add (k * 3)).block, off := (a2.add (k * 3)).off + 1 } = some (.int .i64 yt) ∧ W.cell? { block := (a2.add (k * 3)).block, off := (a2.add (k * 3)).off + 2 } = some (.string ⟨yb.toArray⟩)) (first | exact ⟨t6, t7, t1, t3, t4, t5⟩ | exact ⟨u6, u7, u1, u3, u4, u5⟩ | fail) (first | (go_at_call 94; refine (HX.out _).mono ?_; rintro e w4 ⟨rfl, f4⟩; have F4 := Lib.hid (F1.out.trans f4); have u1 := (f4.cell (World.block_lt_of_cell? _ _ t1) (fun e => e)).trans t1; have u3 := (f4.cell (World.block_lt_of_cell? _ _ t3) (fun e => e)).trans t3; have u4 := (f4.cell (World.block_lt_of_cell? _ _ t4) (fun e => e)).trans t4; have u5 := (f4.cell (World.block_lt_of_cell? _ _ t5) (fun e => e)).trans t5; have u6 := (f4.cell (World.block_lt_of_cell? _ _ t6) (fun e => e)).trans t6; have u7 := (f4.cell (World.block_lt_of_cell? _ _ t7) (fun e => e)).trans t7))
  clear u1 u3 u4 u5 u6 u7 f4 t1 t3 t4 t5 t6 t7 HX F1
  go_wp2
  go_ret
  exact ⟨rfl, F4.out⟩
theorem rcmp_any (a b : Cl) (op : Int) (w : World) : Calls Tryz.prog 48 #[clV a, .int .i64 op, clV b] w fun e w' => e = .returned (.bool (agrI op (ordC a b))) ∧ Fr Non w w' := by
  have HO := Lib.hid (fun W => rorder_any a b W)
  have F0 : Fr Non w ((w.alloc (.cells (clC a) 25)).alloc (.cells (clC b) 25)) := ((Fr.refl _ _).alloc _).alloc _
  replace F0 := Lib.hid F0
  generalize ordC a b = n at *
  obtain ⟨an, ai, at_⟩ := a
  obtain ⟨bn, bi, bt⟩ := b
  unfold clV clC at *
  dsimp only at *
  by_cases h1 : op = 1
  · subst h1
    go_enter Tryz.func48, Tryz.ntmps48
    go_wp2_with fail
    refine (HO.out _).mono ?_
    rintro e w1 ⟨rfl, f1⟩
    have F1 := Lib.hid (F0.out.trans f1)
    clear f1
    go_wp2
    go_ret
    exact ⟨rfl, F1.out⟩
  by_cases h2 : op = 2
  · subst h2
    go_enter Tryz.func48, Tryz.ntmps48
    go_wp2_with fail
    refine (HO.out _).mono ?_
    rintro e w1 ⟨rfl, f1⟩
    have F1 := Lib.hid (F0.out.trans f1)
    clear f1
    go_wp2
    go_ret
    exact ⟨rfl, F1.out⟩
  by_cases h3 : op = 3
  · subst h3
    go_enter Tryz.func48, Tryz.ntmps48
    go_wp2_with fail
    refine (HO.out _).mono ?_
    rintro e w1 ⟨rfl, f1⟩
    have F1 := Lib.hid (F0.out.trans f1)
    clear f1
    go_wp2
    go_ret
    exact ⟨rfl, F1.out⟩
  by_cases h4 : op = 4
  · subst h4
    go_enter Tryz.func48, Tryz.ntmps48
    go_wp2_with fail
    refine (HO.out _).mono ?_
    rintro e w1 ⟨rfl, f1⟩
    have F1 := Lib.hid (F0.out.trans f1)
    clear f1
    go_wp2
    go_ret
    exact ⟨rfl, F1.out⟩
  by_cases h5 : op = 5
  · subst h5
    go_enter Tryz.func48, Tryz.ntmps48
    go_wp2_with fail
    refine (HO.out _).mono ?_
    rintro e w1 ⟨rfl, f1⟩
    have F1 := Lib.hid (F0.out.trans f1)
    clear f1
    go_wp2
    go_ret
    exact ⟨rfl, F1.out⟩
  have HE := Lib.hid (agr_6 n h1 h2 h3 h4 h5)
  have b1 : (op == 1) = false := by rw [beq_eq_false_iff_ne]; exact h1
  have b2 : (op == 2) = false := by rw [beq_eq_false_iff_ne]; exact h2
  have b3 : (op == 3) = false := by rw [beq_eq_false_iff_ne]; exact h3
  have b4 : (op == 4) = false := by rw [beq_eq_false_iff_ne]; exact h4
  have b5 : (op == 5) = false := by rw [beq_eq_false_iff_ne]; exact h5
  clear h1 h2 h3 h4 h5
  go_enter Tryz.func48, Tryz.ntmps48
  go_wp2_with fail
  refine (HO.out _).mono ?_
  rintro e w1 ⟨rfl, f1⟩
  have F1 := Lib.hid (F0.out.trans f1)
  clear f1
  go_wp2
  go_ret
  exact ⟨ret_boolE HE.out.symm, F1.out⟩
end Go.Proofs.YtjcfjjhhbcgcmaaGreat

namespace Go.Proofs.YtjcfjjhhbcgcmaaGreat
open Go.RowKit
set_option maxHeartbeats 4000000 in
theorem echain_of (v1 v2 : Value) (cols : List Co) (row : List Cl) (ks : List Pd) (s k0 : Int) (t : Kv) (w : World) (h1 : Ks w v1 cols) (h2 : Cs w v2 row) (hk : Kd w t ks) (hl : ks.length ≤ 1000)
    (IH : Hid (∀ j (h : j < ks.length) (W : World) (t' : Kv), Ks W v1 cols → Cs W v2 row → Kd W t' ks[j].kids → Calls Tryz.prog 66 #[recV v1 v2, pdV ks[j].hd t'] W fun e w' => e = .returned (.int .i64 (truP cols row ks[j])) ∧ Fr Non W w')) :
    Calls Tryz.prog 98 #[recV v1 v2, kidV t, .int .i64 s, .int .i64 k0] w fun e w' => e = .returned (.int .i64 (chnI s k0 (ks.map (truP cols row)))) ∧ Fr Non w w' := by
  have hn := hk.len
  obtain ⟨A1, c1, rfl⟩ := h1.shape
  obtain ⟨A2, c2, rfl⟩ := h2.shape
  have HV : Hid (Ks w (.slice A1 cols.length c1) cols) := Lib.hid h1
  have HC := Lib.hid h2
  have HK := Lib.hid hk
  have F0 : Fr Non w (w.alloc (.cells #[.slice A1 cols.length c1, .slice A2 row.length c2] 94)) := (Fr.refl Non w).alloc _
  have RB : Blk (w.alloc (.cells #[.slice A1 cols.length c1, .slice A2 row.length c2] 94)) w.heap.size 94 #[.slice A1 cols.length c1, .slice A2 row.length c2] := Blk.new _ _ _
  replace F0 := Lib.hid F0
  replace RB := Lib.hid RB
  unfold recV at *
  clear h1 h2 hk
  obtain ⟨A, n, c⟩ := t
  dsimp only at hn
  have hn9 : n ≤ 1000 := by omega
  have HL := Lib.hid hn
  clear hn hl
  unfold kidV
  dsimp only
  have HE0 : Hid (∀ j is, ChnTo s k0 (ks.map (truP cols row)) j is → n ≤ j → chnI s k0 (ks.map (truP cols row)) = is) := Lib.hid (fun j is h hj => chn_end h (by rw [List.length_map]; have := HL.out; omega))
  have HE1 : Hid (∀ j (h : j < ks.length), truP cols row ks[j] = s → chnI s k0 (ks.map (truP cols row)) = s) := Lib.hid (fun j h e => chn_at (j := j) (by rw [List.length_map]; exact h) (by rw [List.getElem_map]; exact e))
  have HE2 : Hid (∀ j is (h : j < ks.length), ChnTo s k0 (ks.map (truP cols row)) j is → truP cols row ks[j] ≠ s → ChnTo s k0 (ks.map (truP cols row)) (j + 1) (if truP cols row ks[j] = 2 then 2 else is)) := Lib.hid (fun j is h e h1 => by
    have := chn_more (j := j) e (by rw [List.length_map]; exact h) (by rw [List.getElem_map]; exact h1)
    rw [List.getElem_map] at this; exact this)
  have HS0 : Hid (ChnTo s k0 (ks.map (truP cols row)) 0 k0) := Lib.hid (chn_start _ _ _)
  generalize chnI s k0 (ks.map (truP cols row)) = r at *
  generalize ks.map (truP cols row) = L at *
  go_enter Tryz.func98, Tryz.ntmps98
  go_wp2
  go_loopw [9, 15] (fun u i wr => ∃ (k : Nat) (is : Int), k ≤ n ∧ i = .int .i64 k ∧ u = .int .i64 is ∧ Hid (ChnTo s k0 L k is) ∧ Hid (Fr Non (w.alloc (.cells #[.slice A1 cols.length c1, .slice A2 row.length c2] 94)) wr)) (fun _ i _ => n - (intOf i).toNat)
  case atStart => exact ⟨0, k0, Nat.zero_le _, rfl, rfl, HS0, Lib.hid (Fr.refl _ _)⟩
  case round =>
    clear HS0
    obtain ⟨k, is, hk, rfl, rfl, HT, FR⟩ := hrel
    have HFw := Lib.hid (F0.out.trans FR.out)
    by_cases hlt : k < n
    · have hlt2 : k < ks.length := by have := HL.out; omega
      obtain ⟨a, t, hA, hc2, hkk, _⟩ := HK.out.elN HFw.out k hlt2
      have HCa : Hid (∀ W, Fr Non wr W → Calls Tryz.prog 66 #[.agg #[.slice A1 cols.length c1, .slice A2 row.length c2], pdV ks[k].hd t] W fun e w' => e = .returned (.int .i64 (truP cols row ks[k])) ∧ Fr Non W w') :=
        Lib.hid (fun W hf => IH.out k hlt2 W t (HV.out.non (HFw.out.trans hf)) (HC.out.non (HFw.out.trans hf)) (hkk.non (HFw.out.trans hf)))
      have HY := Lib.hid (fun e => HE1.out k hlt2 e)
      have HX := Lib.hid (fun e => HE2.out k is hlt2 HT.out e)
      dsimp only at hA
      subst hA
      obtain ⟨c0, c1_, c2_, c3, c4, c5, c6, c7, c8⟩ := hc2
      clear hkk HT HE0 HE1 HE2
      generalize truP cols row ks[k] = y at *
      generalize ks[k].hd = x at *
      have F1 : Fr Non wr (wr.alloc (.cells (pdC x t) 28)) := (Fr.refl Non wr).alloc _
      replace HCa := Lib.hid (HCa.out _ F1)
      have HB := Lib.hid (pd_new wr _ x t rfl)
      have RB1 := Lib.hid (RB.out.fr (FR.out.trans F1) (fun e => e))
      replace F1 := Lib.hid F1
      obtain ⟨xo, xc, xm, ⟨xn, xi, xt⟩, xk, xp⟩ := x
      obtain ⟨tA, tn, tc⟩ := t
      unfold pdV pdC kidV at *
      dsimp only at *
      have r0 := RB1.out.cell 0
      have r1 := RB1.out.cell 1
      simp at r0 r1
      obtain ⟨b0, b1, b2, b3, b4, b5, b6, b7, b8⟩ := pdB_cells HB.out
      dsimp only at b0 b1 b2 b3 b4 b5 b6 b7 b8
      by_cases hs : y = s
      · have HE := Lib.hid (HY.out hs)
        have hb : (y == s) = true := by rw [beq_iff_eq]; exact hs
        clear HX HY
        go_wp2_with fail
        refine HCa.out.mono ?_
        rintro e w2 ⟨rfl, f2⟩
        clear HCa
        go_wp2
        go_ret
        exact ⟨ret_int HE.out.symm, HFw.out.trans (F1.out.trans f2)⟩
      · have hb : (y == s) = false := by rw [beq_eq_false_iff_ne]; exact hs
        have HE := Lib.hid (HX.out hs)
        clear HX HY hs
        by_cases h2 : y = 2
        · subst h2
          rw [if_pos rfl] at HE
          go_wp2_with fail
          refine HCa.out.mono ?_
          rintro e w2 ⟨rfl, f2⟩
          clear HCa
          go_wp2
          go_roundw
          case rel => exact ⟨k + 1, 2, by omega, by go_num, rfl, HE, Lib.hid (FR.out.trans (F1.out.trans f2))⟩
          case measure => simp [intOf]; omega
        · rw [if_neg h2] at HE
          have hb2 : (y == 2) = false := by rw [beq_eq_false_iff_ne]; exact h2
          clear h2
          go_wp2_with fail
          refine HCa.out.mono ?_
          rintro e w2 ⟨rfl, f2⟩
          clear HCa
          go_wp2
          go_roundw
          case rel => exact ⟨k + 1, is, by omega, by go_num, rfl, HE, Lib.hid (FR.out.trans (F1.out.trans f2))⟩
          case measure => simp [intOf]; omega
    · have HE := Lib.hid (HE0.out k is HT.out (by omega))
      clear HT HE0 HE1 HE2
      go_wp2
      go_ret
      exact ⟨ret_int HE.out.symm, HFw.out⟩
end Go.Proofs.YtjcfjjhhbcgcmaaGreat
