/-
  Joined: Layer 20: the walk of EvalJoins. · Arguments opened: a cell by value; a value of each type. · Arguments opened: a slice of cells. · Layer 17: an argument opened: a predicate. · Arguments opened: an array of two predicates, by value. · Arguments opened: a slice of columns. · Arguments opened: a slice of slices of cells.
-/
import Derived.Lib.Zigzag
import Derived.Laws.Rows
import Derived.Laws.ResultCell
import Derived.BigRegion
import Derived.Test.YtnbhgkolfapblaaZ3
import Derived.Deep.RegionHeld3
import Derived.Test.YtnbhgkolfapblaaZ1
import Derived.Lib.SmallJoins
import Derived.Test.YtnbhgkolfapblaaZ2
import Derived.OpenShut
import Derived.Stop.Joined
import Derived.ProofKit

namespace Go.Proofs.Ytnbhgkolfapblaa
set_option linter.unusedVariables false
set_option linter.unusedSimpArgs false
set_option maxRecDepth 100000
open Go.RowKit

set_option maxHeartbeats 8000000 in
theorem evalJoins_walk (v0 v2 : Value) (cols : List Co) (h h' : Ph) (t t' : Kv) (ks ks' : List Pd) (rows : List (List Cl)) (w : World) (h0 : Ks w v0 cols) (hk : Kd w t ks) (hk' : Kd w t' ks') (hb : I64b h.val.num) (hb' : I64b h'.val.num) (h2 : Rs w v2 rows) :
    Calls Try.prog 5 #[v0, p2V h t h' t', v2] w fun e w' => e = .returned (.bool true) ∧ Below w.heap.size w w' := by
  have F00 : Fr Non w (w.alloc (.cells (p2C h t h' t') 46)) := (Fr.refl Non w).alloc _
  have PB0 : Blk (w.alloc (.cells (p2C h t h' t') 46)) w.heap.size 46 (p2C h t h' t') := Blk.new _ _ _
  have S1 := Lib.hid (small13_any v0 v2 cols rows _ (h0.non F00) (h2.non F00))
  have S2 := Lib.hid (fun W hk => rpsmall_any (.mk h ks) t 9 9 W rfl (by omega) hk)
  have S3 := Lib.hid (fun W hk => rpsmall_any (.mk h' ks') t' 9 9 W rfl (by omega) hk)
  obtain ⟨NA, hNA⟩ : ∃ N : Int → List Cl → Int × Int, ∀ o row, rowE cols (jA o (.mk h ks) (.mk h' ks')) row = N o row := ⟨_, fun _ _ => rfl⟩
  obtain ⟨NB, hNB⟩ : ∃ N : Int → List Cl → Int × Int, ∀ o row, rowE cols (jB o (.mk h ks) (.mk h' ks')) row = N o row := ⟨_, fun _ _ => rfl⟩
  have A3 : Hid (lenP (.mk h ks) = true → depP (.mk h ks) ≤ 9 → lenP (.mk h' ks') = true → depP (.mk h' ks') ≤ 9 → (cols.length ≤ 20 ∧ (∀ c ∈ cols, c.name.length ≤ 100) ∧ rows.length ≤ 210) → ∀ o v s row W, Fr Non w W → Cs W v row → Kd W s [.mk (hOp o) [.mk h ks, .mk h' ks']] → Calls Try.prog 13 #[v0, pdV (hOp 5) s, v] W fun e w' => e = .returned (twoV (NA o row)) ∧ Fr Non W w') :=
    Lib.hid (fun a b a' b' c o v s row W hf hv hk2 => by
      have e := erow_any v0 v cols row (by omega) (fun x hx => by have := c.2.1 x hx; omega) (hOp 5) [.mk (hOp o) [.mk h ks, .mk h' ks']] s W (h0.non hf) hv hk2 (hOp_num _) (big_one _ (big_two _ (big_of_len _ a) (big_of_len _ a'))) (by rw [dep_one, dep_two]; omega)
      have e2 := hNA o row
      unfold jA at e2
      rw [e2] at e; exact e)
  have A4 : Hid (lenP (.mk h ks) = true → depP (.mk h ks) ≤ 9 → lenP (.mk h' ks') = true → depP (.mk h' ks') ≤ 9 → (cols.length ≤ 20 ∧ (∀ c ∈ cols, c.name.length ≤ 100) ∧ rows.length ≤ 210) → ∀ o v s row W, Fr Non w W → Cs W v row → Kd W s [.mk (hOp 5) [.mk h ks], .mk (hOp 5) [.mk h' ks']] → Calls Try.prog 13 #[v0, pdV (hOp o) s, v] W fun e w' => e = .returned (twoV (NB o row)) ∧ Fr Non W w') :=
    Lib.hid (fun a b a' b' c o v s row W hf hv hk2 => by
      have e := erow_any v0 v cols row (by omega) (fun x hx => by have := c.2.1 x hx; omega) (hOp o) [.mk (hOp 5) [.mk h ks], .mk (hOp 5) [.mk h' ks']] s W (h0.non hf) hv hk2 (hOp_num _) (big_two _ (big_one _ (big_of_len _ a)) (big_one _ (big_of_len _ a'))) (by rw [dep_two, dep_one, dep_one]; omega)
      have e2 := hNB o row
      unfold jB at e2
      rw [e2] at e; exact e)
  have HQ6 : Hid (∀ row, (NA 6 row).2 = 0 → (NB 7 row).2 = 0 → (NA 6 row).1 = (NB 7 row).1) := Lib.hid (fun row => by rw [← hNA, ← hNB]; exact joins_eq (join_67 ..))
  have HQ7 : Hid (∀ row, (NA 7 row).2 = 0 → (NB 6 row).2 = 0 → (NA 7 row).1 = (NB 6 row).1) := Lib.hid (fun row => by rw [← hNA, ← hNB]; exact joins_eq (join_76 ..))
  clear hNA hNB
  -- the slices' trees
  have KL : Hid (∀ W, Fr Non w W → ∀ g, g = W.heap.size → Kd (W.alloc (.cells (p2C h t h' t') 27)) ⟨some ⟨g, 0, none⟩, 2, 2⟩ [.mk h ks, .mk h' ks']) := Lib.hid (fun W hf g hg => kd_two W g hg h h' t t' ks ks' hb hb' (hk.non hf) (hk'.non hf) _ rfl)
  dsimp only [Pd.hd, Pd.kids] at S2 S3
  generalize lenP (.mk h ks) = lb at *
  generalize depP (.mk h ks) = db at *
  generalize lenP (.mk h' ks') = lb' at *
  generalize depP (.mk h' ks') = db' at *
  have HK : Hid (Kd w t ks) := Lib.hid hk
  have HK' : Hid (Kd w t' ks') := Lib.hid hk'
  generalize Pd.mk h ks = p at *
  generalize Pd.mk h' ks' = p' at *
  have HR : Hid (Rs w v2 rows) := Lib.hid h2
  have HN := Lib.hid (fun z W => num20_any z W)
  obtain ⟨A0, c0, rfl⟩ := h0.shape
  obtain ⟨A2_, c2, rfl⟩ := h2.shape
  replace F00 := Lib.hid F00
  replace PB0 := Lib.hid PB0
  clear hk hk' h0 h2 hb hb'
  obtain ⟨ho, hc, hm, ⟨vn, vi, vt⟩, hkd, hp⟩ := h
  obtain ⟨A, n, c⟩ := t
  obtain ⟨ho', hc', hm', ⟨vn', vi', vt'⟩, hkd', hp'⟩ := h'
  obtain ⟨A', n', c'⟩ := t'
  unfold pdV at *
  unfold pdC hOp zCl at A3 A4
  unfold pdC at S2 S3
  unfold kidV at A3 A4 S2 S3
  unfold p2V
  unfold p2C kidV at *
  dsimp only at *
  generalize hg : w.heap.size = g at *
  go_enter Try.func5, Try.ntmps5
  go_wp2_with fail
  refine S1.out.mono ?_
  rintro e w1 ⟨⟨s1, rfl, hs1⟩, f1⟩
  have HB1 := Lib.hid hs1
  have PB1 := Lib.hid (PB0.out.fr f1 (fun e => e))
  have F1 := Lib.hid (F00.out.trans f1)
  clear f1 hs1 S1
  cases s1
  · clear A3 A4 S2 S3 HB1 KL
    go_wp2_with fail
    refine (live20_any _).mono ?_
    rintro e w9 ⟨rfl, f9⟩
    go_wp2
    go_ret
    exact ⟨rfl, (F1.out.trans f9).below.mono (by omega)⟩
  · obtain ⟨⟨b0, b1, b2, b3, b4, b5, b6, b7, b8⟩, d0, d1, d2, d3, d4, d5, d6, d7, d8⟩ := p2_cells (h := ⟨ho, hc, hm, ⟨vn, vi, vt⟩, hkd, hp⟩) (s := ⟨A, n, c⟩) (h' := ⟨ho', hc', hm', ⟨vn', vi', vt'⟩, hkd', hp'⟩) (s' := ⟨A', n', c'⟩) PB1.out
    dsimp only at b0 b1 b2 b3 b4 b5 b6 b7 b8 d0 d1 d2 d3 d4 d5 d6 d7 d8
    go_wp2_with fail
    refine (S2.out _ (HK.out.non F1.out)).mono ?_
    rintro e w2 ⟨⟨s2, rfl, hs2⟩, f2⟩
    have HB2 := Lib.hid hs2
    have PB2 := Lib.hid (PB1.out.fr f2 (fun e => e))
    have F2 := Lib.hid (F1.out.trans f2)
    clear f2 hs2 S2 b0 b1 b2 b3 b4 b5 b6 b7 b8 d0 d1 d2 d3 d4 d5 d6 d7 d8
    cases s2
    · clear A3 A4 S3 HB1 HB2 KL
      go_wp2_with fail
      refine (live20_any _).mono ?_
      rintro e w9 ⟨rfl, f9⟩
      go_wp2
      go_ret
      exact ⟨rfl, (F2.out.trans f9).below.mono (by omega)⟩
    · obtain ⟨⟨b0, b1, b2, b3, b4, b5, b6, b7, b8⟩, d0, d1, d2, d3, d4, d5, d6, d7, d8⟩ := p2_cells (h := ⟨ho, hc, hm, ⟨vn, vi, vt⟩, hkd, hp⟩) (s := ⟨A, n, c⟩) (h' := ⟨ho', hc', hm', ⟨vn', vi', vt'⟩, hkd', hp'⟩) (s' := ⟨A', n', c'⟩) PB2.out
      dsimp only at b0 b1 b2 b3 b4 b5 b6 b7 b8 d0 d1 d2 d3 d4 d5 d6 d7 d8
      go_wp2_with fail
      refine (S3.out _ (HK'.out.non F2.out)).mono ?_
      rintro e w3 ⟨⟨s3, rfl, hs3⟩, f3⟩
      have HB3 := Lib.hid hs3
      have PB3 := Lib.hid (PB2.out.fr f3 (fun e => e))
      have F3 := Lib.hid (F2.out.trans f3)
      clear f3 hs3 S3 b0 b1 b2 b3 b4 b5 b6 b7 b8 d0 d1 d2 d3 d4 d5 d6 d7 d8
      cases s3
      · clear A3 A4 HB1 HB2 HB3 KL
        go_wp2_with fail
        refine (live20_any _).mono ?_
        rintro e w9 ⟨rfl, f9⟩
        go_wp2
        go_ret
        exact ⟨rfl, (F3.out.trans f9).below.mono (by omega)⟩
      · obtain ⟨hl1, hd1⟩ := HB2.out (by trivial)
        obtain ⟨hl2, hd2⟩ := HB3.out (by trivial)
        have hcl := HB1.out (by trivial)
        have M3 := Lib.hid (A3.out hl1 hd1 hl2 hd2 hcl)
        have M4 := Lib.hid (A4.out hl1 hd1 hl2 hd2 hcl)
        have hrl : rows.length ≤ 210 := hcl.2.2
        clear A3 A4 HB1 HB2 HB3 hl1 hd1 hl2 hd2 hcl
        have KL3 := Lib.hid (KL.out w3 F3.out _ rfl)
        clear KL
        obtain ⟨⟨b0, b1, b2, b3, b4, b5, b6, b7, b8⟩, d0, d1, d2, d3, d4, d5, d6, d7, d8⟩ := p2_cells (h := ⟨ho, hc, hm, ⟨vn, vi, vt⟩, hkd, hp⟩) (s := ⟨A, n, c⟩) (h' := ⟨ho', hc', hm', ⟨vn', vi', vt'⟩, hkd', hp'⟩) (s' := ⟨A', n', c'⟩) PB3.out
        dsimp only at b0 b1 b2 b3 b4 b5 b6 b7 b8 d0 d1 d2 d3 d4 d5 d6 d7 d8
        go_wp2
        have F4 := Lib.hid (F3.out.alloc (.cells #[.int .i64 ho, .string ⟨hc.toArray⟩, .int .i64 hm, .bool vn, .int .i64 vi, .string ⟨vt.toArray⟩, .int .i64 hkd, .string ⟨hp.toArray⟩, .slice A n c, .int .i64 ho', .string ⟨hc'.toArray⟩, .int .i64 hm', .bool vn', .int .i64 vi', .string ⟨vt'.toArray⟩, .int .i64 hkd', .string ⟨hp'.toArray⟩, .slice A' n' c'] 27))
        clear b0 b1 b2 b3 b4 b5 b6 b7 b8 d0 d1 d2 d3 d4 d5 d6 d7 d8 PB0 PB1 PB2 PB3 F00 F1 F2 F3 HK HK'
        generalize w3.alloc (.cells #[.int .i64 ho, .string ⟨hc.toArray⟩, .int .i64 hm, .bool vn, .int .i64 vi, .string ⟨vt.toArray⟩, .int .i64 hkd, .string ⟨hp.toArray⟩, .slice A n c, .int .i64 ho', .string ⟨hc'.toArray⟩, .int .i64 hm', .bool vn', .int .i64 vi', .string ⟨vt'.toArray⟩, .int .i64 hkd', .string ⟨hp'.toArray⟩, .slice A' n' c'] 27) = w4 at *
        generalize w3.heap.size = g4 at *
        have ff5 : Fr Non w4 (w4.alloc (.cells #[.int .i64 5, .string ⟨#[]⟩, .int .i64 0, .bool false, .int .i64 0, .string ⟨#[]⟩, .int .i64 0, .string ⟨#[]⟩, .slice (some ⟨g4, 0, none⟩) 1 2, .int .i64 5, .string ⟨#[]⟩, .int .i64 0, .bool false, .int .i64 0, .string ⟨#[]⟩, .int .i64 0, .string ⟨#[]⟩, .slice (some ⟨g4, 9, none⟩) 1 1] 27)).drew := ((Fr.refl Non w4).alloc _).drew
        have KN5 : Hid (Kd (w4.alloc (.cells #[.int .i64 5, .string ⟨#[]⟩, .int .i64 0, .bool false, .int .i64 0, .string ⟨#[]⟩, .int .i64 0, .string ⟨#[]⟩, .slice (some ⟨g4, 0, none⟩) 1 2, .int .i64 5, .string ⟨#[]⟩, .int .i64 0, .bool false, .int .i64 0, .string ⟨#[]⟩, .int .i64 0, .string ⟨#[]⟩, .slice (some ⟨g4, 9, none⟩) 1 1] 27)).drew ⟨some ⟨w4.heap.size, 0, none⟩, 2, 2⟩ [.mk (hOp 5) [p], .mk (hOp 5) [p']]) := Lib.hid ((kd_nots KL3.out).non (Fr.refl Non _).drew)
        have KL5 := Lib.hid (KL3.out.non ff5)
        have F5 := Lib.hid (F4.out.trans ff5)
        clear ff5 KL3 F4
        go_region
        generalize (w4.alloc (.cells #[.int .i64 5, .string ⟨#[]⟩, .int .i64 0, .bool false, .int .i64 0, .string ⟨#[]⟩, .int .i64 0, .string ⟨#[]⟩, .slice (some ⟨g4, 0, none⟩) 1 2, .int .i64 5, .string ⟨#[]⟩, .int .i64 0, .bool false, .int .i64 0, .string ⟨#[]⟩, .int .i64 0, .string ⟨#[]⟩, .slice (some ⟨g4, 9, none⟩) 1 1] 27)).drew = w5 at *
        generalize w4.heap.size = g5 at *
        go_wp2
        go_loopw [9] (fun i wr => (i = .int .i64 0 ∨ i = .int .i64 1 ∨ i = .int .i64 2) ∧ Hid (Fr Non w5 wr)) (fun i _ => 2 - (intOf i).toNat)
        case atStart => exact ⟨.inl rfl, Lib.hid (Fr.refl _ _)⟩
        case round =>
          obtain ⟨hk3, FR⟩ := hrel
          have F6 := Lib.hid (F5.out.trans FR.out)
          rcases hk3 with rfl | rfl | rfl
          · rename World => wr
            have PA := Lib.hid (jW_a wr 6 7 g4 g5)
            have PC := Lib.hid (jW_b wr 6 7 g4 g5)
            have FW := Lib.hid (jW_fr wr 6 7 g4 g5)
            have KA := Lib.hid (jW_k (KL5.out.non FR.out) 6 7 g5)
            have KN := Lib.hid (KN5.out.non (FR.out.trans FW.out))
            have HQ := Lib.hid HQ6.out
            unfold jW pdC kidV hOp zCl at PA PC FW
            have KA2 : Hid (Kd (((wr.alloc (.cells #[.int .i64 6, .string ⟨#[]⟩, .int .i64 0, .bool false, .int .i64 0, .string ⟨#[]⟩, .int .i64 0, .string ⟨#[]⟩, .slice (some ⟨g4, 0, none⟩) 2 2] 27)).alloc (.cells #[.int .i64 5, .string ⟨#[]⟩, .int .i64 0, .bool false, .int .i64 0, .string ⟨#[]⟩, .int .i64 0, .string ⟨#[]⟩, .slice (some ⟨wr.heap.size, 0, none⟩) 1 1] 27)).alloc (.cells #[.int .i64 7, .string ⟨#[]⟩, .int .i64 0, .bool false, .int .i64 0, .string ⟨#[]⟩, .int .i64 0, .string ⟨#[]⟩, .slice (some ⟨g5, 0, none⟩) 2 2] 27)) ⟨some ⟨wr.heap.size, 0, none⟩, 1, 1⟩ [.mk (hOp 6) [p, p']]) := KA
            have KN2 : Hid (Kd (((wr.alloc (.cells #[.int .i64 6, .string ⟨#[]⟩, .int .i64 0, .bool false, .int .i64 0, .string ⟨#[]⟩, .int .i64 0, .string ⟨#[]⟩, .slice (some ⟨g4, 0, none⟩) 2 2] 27)).alloc (.cells #[.int .i64 5, .string ⟨#[]⟩, .int .i64 0, .bool false, .int .i64 0, .string ⟨#[]⟩, .int .i64 0, .string ⟨#[]⟩, .slice (some ⟨wr.heap.size, 0, none⟩) 1 1] 27)).alloc (.cells #[.int .i64 7, .string ⟨#[]⟩, .int .i64 0, .bool false, .int .i64 0, .string ⟨#[]⟩, .int .i64 0, .string ⟨#[]⟩, .slice (some ⟨g5, 0, none⟩) 2 2] 27)) ⟨some ⟨g5, 0, none⟩, 2, 2⟩ [.mk (hOp 5) [p], .mk (hOp 5) [p']]) := KN
            clear KA KN HQ6 HQ7
            dsimp only at PA PC FW
            go_wp2
            generalize hW3 : ((wr.alloc (.cells #[.int .i64 6, .string ⟨#[]⟩, .int .i64 0, .bool false, .int .i64 0, .string ⟨#[]⟩, .int .i64 0, .string ⟨#[]⟩, .slice (some ⟨g4, 0, none⟩) 2 2] 27)).alloc (.cells #[.int .i64 5, .string ⟨#[]⟩, .int .i64 0, .bool false, .int .i64 0, .string ⟨#[]⟩, .int .i64 0, .string ⟨#[]⟩, .slice (some ⟨wr.heap.size, 0, none⟩) 1 1] 27)).alloc (.cells #[.int .i64 7, .string ⟨#[]⟩, .int .i64 0, .bool false, .int .i64 0, .string ⟨#[]⟩, .int .i64 0, .string ⟨#[]⟩, .slice (some ⟨g5, 0, none⟩) 2 2] 27) = W3 at *
            generalize hgr : wr.heap.size = gr at *
            go_loopw [12] (fun i wi => ∃ j : Nat, j ≤ rows.length ∧ i = .int .i64 j ∧ Hid (Fr Non W3 wi)) (fun i _ => rows.length - (intOf i).toNat)
            case atStart => exact ⟨0, Nat.zero_le _, rfl, Lib.hid (Fr.refl _ _)⟩
            case round =>
              rename World => wi
              obtain ⟨j, hj, rfl, FI⟩ := hrel
              by_cases hlt : j < rows.length
              · have FJ7 := Lib.hid (F6.out.trans (FW.out.trans FI.out))
                obtain ⟨a, Ar, cr, rfl, -, q7, hc1⟩ := (HR.out.non FJ7.out).el j hlt
                have PA7 := Lib.hid (PA.out.fr FI.out (fun e => e))
                have PC7 := Lib.hid (PC.out.fr FI.out (fun e => e))
                have G3 := Lib.hid (M3.out 6 _ _ rows[j] wi.drew FJ7.out.drew (hc1.non (Fr.refl Non wi).drew) (KA2.out.non FI.out.drew))
                have G4 := Lib.hid (fun W (hf : Fr Non wi W) => M4.out 7 _ _ rows[j] W (FJ7.out.trans hf) (hc1.non hf) (KN2.out.non (FI.out.trans hf)))
                have HQj := Lib.hid (HQ.out rows[j])
                clear M3 M4 hc1 HQ KA2 KN2
                generalize NA 6 rows[j] = y at *
                generalize NB 7 rows[j] = z at *
                obtain ⟨y1, y2⟩ := y
                obtain ⟨z1, z2⟩ := z
                unfold twoV at G3 G4
                dsimp only at G3 G4
                obtain ⟨b0, b1, b2, b3, b4, b5, b6, b7, b8⟩ := pdB_cells PA7.out
                obtain ⟨d0, d1, d2, d3, d4, d5, d6, d7, d8⟩ := pdB_cells PC7.out
                dsimp only [hOp, zCl] at b0 b1 b2 b3 b4 b5 b6 b7 b8 d0 d1 d2 d3 d4 d5 d6 d7 d8
                go_wp2
                refine wp_region_held_drew (S := (fun W' => W'.cell? ⟨gr + 1, 0, none⟩ = some (.int .i64 5) ∧ W'.cell? ⟨gr + 1, 1, none⟩ = some (.string ⟨#[]⟩) ∧ W'.cell? ⟨gr + 1, 2, none⟩ = some (.int .i64 0) ∧ W'.cell? ⟨gr + 1, 3, none⟩ = some (.bool false) ∧ W'.cell? ⟨gr + 1, 4, none⟩ = some (.int .i64 0) ∧ W'.cell? ⟨gr + 1, 5, none⟩ = some (.string ⟨#[]⟩) ∧ W'.cell? ⟨gr + 1, 6, none⟩ = some (.int .i64 0) ∧ W'.cell? ⟨gr + 1, 7, none⟩ = some (.string ⟨#[]⟩) ∧ W'.cell? ⟨gr + 1, 8, none⟩ = some (.slice (some ⟨gr, 0, none⟩) 1 1) ∧ W'.cell? ⟨gr + 1 + 1, 0, none⟩ = some (.int .i64 7) ∧ W'.cell? ⟨gr + 1 + 1, 1, none⟩ = some (.string ⟨#[]⟩) ∧ W'.cell? ⟨gr + 1 + 1, 2, none⟩ = some (.int .i64 0) ∧ W'.cell? ⟨gr + 1 + 1, 3, none⟩ = some (.bool false) ∧ W'.cell? ⟨gr + 1 + 1, 4, none⟩ = some (.int .i64 0) ∧ W'.cell? ⟨gr + 1 + 1, 5, none⟩ = some (.string ⟨#[]⟩) ∧ W'.cell? ⟨gr + 1 + 1, 6, none⟩ = some (.int .i64 0) ∧ W'.cell? ⟨gr + 1 + 1, 7, none⟩ = some (.string ⟨#[]⟩) ∧ W'.cell? ⟨gr + 1 + 1, 8, none⟩ = some (.slice (some ⟨g5, 0, none⟩) 2 2) ∧ W'.cell? (a.add j) = some (.slice Ar rows[j].length cr))) (by kernel_rfl) (by exact ⟨b0, b1, b2, b3, b4, b5, b6, b7, b8, d0, d1, d2, d3, d4, d5, d6, d7, d8, q7⟩) (fun hHeld => ?_)
                refine wpAnyH_take (i := 0) (oi := ⟨some 67, _, _, _, _, none⟩) (v := ?v1) rfl (by kernel_rfl) (by kernel_rfl) (by kernel_rfl) (fun _ _ _ h => h) (Or.inl ⟨by rfl, ?hy1⟩) (by assumption) ?rest1
                case hy1 => (intro wS hSw; (try dsimp only at hSw); go_simp; (try with_reducible rfl))
                (try simp only [Act.put, List.setIfInBounds_toArray, List.set_cons_zero, List.set_cons_succ])
                refine wpAnyH_take (i := 1) (oi := ⟨some 68, _, _, _, _, none⟩) (v := ?v2) rfl (by kernel_rfl) (by kernel_rfl) (by kernel_rfl) (fun _ _ _ h => h) (Or.inl ⟨by rfl, ?hy2⟩) (by assumption) ?rest2
                case hy2 => (intro wS hSw; (try dsimp only at hSw); go_simp; (try with_reducible rfl))
                (try simp only [Act.put, List.setIfInBounds_toArray, List.set_cons_zero, List.set_cons_succ])
                refine wpAnyH_take (i := 2) (oi := ⟨some 69, _, _, _, _, none⟩) (v := ?v3) rfl (by kernel_rfl) (by kernel_rfl) (by kernel_rfl) (fun _ _ _ h => h) (Or.inl ⟨by rfl, ?hy3⟩) (by assumption) ?rest3
                case hy3 => (intro wS hSw; (try dsimp only at hSw); go_simp; (try with_reducible rfl))
                (try simp only [Act.put, List.setIfInBounds_toArray, List.set_cons_zero, List.set_cons_succ])
                refine wpAnyH_take (i := 3) (oi := ⟨some 70, _, _, _, _, none⟩) (v := ?v4) rfl (by kernel_rfl) (by kernel_rfl) (by kernel_rfl) (fun _ _ _ h => h) (Or.inl ⟨by rfl, ?hy4⟩) (by assumption) ?rest4
                case hy4 => (intro wS hSw; (try dsimp only at hSw); go_simp; (try with_reducible rfl))
                (try simp only [Act.put, List.setIfInBounds_toArray, List.set_cons_zero, List.set_cons_succ])
                refine wpAnyH_take (i := 4) (oi := ⟨some 71, _, _, _, _, none⟩) (v := ?v5) rfl (by kernel_rfl) (by kernel_rfl) (by kernel_rfl) (fun _ _ _ h => h) (Or.inl ⟨by rfl, ?hy5⟩) (by assumption) ?rest5
                case hy5 => (intro wS hSw; (try dsimp only at hSw); go_simp; (try with_reducible rfl))
                (try simp only [Act.put, List.setIfInBounds_toArray, List.set_cons_zero, List.set_cons_succ])
                refine wpAnyH_take (i := 5) (oi := ⟨some 72, _, _, _, _, none⟩) (v := ?v6) rfl (by kernel_rfl) (by kernel_rfl) (by kernel_rfl) (fun _ _ _ h => h) (Or.inl ⟨by rfl, ?hy6⟩) (by assumption) ?rest6
                case hy6 => (intro wS hSw; (try dsimp only at hSw); go_simp; (try with_reducible rfl))
                (try simp only [Act.put, List.setIfInBounds_toArray, List.set_cons_zero, List.set_cons_succ])
                refine wpAnyH_ready (rs := [6]) (by kernel_rfl) (by simp) ?_
                refine AllReadyH.cons (o := ⟨some 73, _, _, _, _, none⟩) rfl (fun K hK => ?_) AllReadyH.nil
                go_simp
                go_at_call 13
                refine (G3.out).mono ?_
                rintro e w8 ⟨rfl, f8⟩
                have ff8 := (Fr.refl Non wi).drew.trans f8
                have PA8 := Lib.hid (PA7.out.fr ff8 (fun e => e))
                have PC8 := Lib.hid (PC7.out.fr ff8 (fun e => e))
                have q8 := (ff8.cell (World.block_lt_of_cell? _ _ q7) (fun e => e)).trans q7
                have FJ8 := Lib.hid (FJ7.out.trans ff8)
                clear b0 b1 b2 b3 b4 b5 b6 b7 b8 d0 d1 d2 d3 d4 d5 d6 d7 d8
                obtain ⟨b0, b1, b2, b3, b4, b5, b6, b7, b8⟩ := pdB_cells PA8.out
                obtain ⟨d0, d1, d2, d3, d4, d5, d6, d7, d8⟩ := pdB_cells PC8.out
                dsimp only [hOp, zCl] at b0 b1 b2 b3 b4 b5 b6 b7 b8 d0 d1 d2 d3 d4 d5 d6 d7 d8

                go_wp2_with fail
                refine hK.out _ _ (by exact ⟨b0, b1, b2, b3, b4, b5, b6, b7, b8, d0, d1, d2, d3, d4, d5, d6, d7, d8, q8⟩) (fun hHeld => ?_)
                clear hK K
                (try simp only [Act.put, List.setIfInBounds_toArray, List.set_cons_zero, List.set_cons_succ])
                refine wpAnyH_take (i := 7) (oi := ⟨some 66, _, _, _, _, none⟩) (v := ?v7) rfl (by kernel_rfl) (by kernel_rfl) (by kernel_rfl) (fun _ _ _ h => h) (Or.inl ⟨by rfl, ?hy7⟩) (by assumption) ?rest7
                case hy7 => (intro wS hSw; (try dsimp only at hSw); go_simp; (try with_reducible rfl))
                (try simp only [Act.put, List.setIfInBounds_toArray, List.set_cons_zero, List.set_cons_succ])
                refine wpAnyH_take (i := 8) (oi := ⟨some 74, _, _, _, _, none⟩) (v := ?v8) rfl (by kernel_rfl) (by kernel_rfl) (by kernel_rfl) (fun _ _ _ h => h) (Or.inl ⟨by rfl, ?hy8⟩) (by assumption) ?rest8
                case hy8 => (intro wS hSw; (try dsimp only at hSw); go_simp; (try with_reducible rfl))
                (try simp only [Act.put, List.setIfInBounds_toArray, List.set_cons_zero, List.set_cons_succ])
                refine wpAnyH_take (i := 9) (oi := ⟨some 75, _, _, _, _, none⟩) (v := ?v9) rfl (by kernel_rfl) (by kernel_rfl) (by kernel_rfl) (fun _ _ _ h => h) (Or.inl ⟨by rfl, ?hy9⟩) (by assumption) ?rest9
                case hy9 => (intro wS hSw; (try dsimp only at hSw); go_simp; (try with_reducible rfl))
                (try simp only [Act.put, List.setIfInBounds_toArray, List.set_cons_zero, List.set_cons_succ])
                refine wpAnyH_take (i := 10) (oi := ⟨some 13, _, _, _, _, none⟩) (v := ?v10) rfl (by kernel_rfl) (by kernel_rfl) (by kernel_rfl) (fun _ _ _ h => h) (Or.inl ⟨by rfl, ?hy10⟩) (by assumption) ?rest10
                case hy10 => (intro wS hSw; (try dsimp only at hSw); go_simp; (try with_reducible rfl))
                (try simp only [Act.put, List.setIfInBounds_toArray, List.set_cons_zero, List.set_cons_succ])
                refine wpAnyH_take (i := 11) (oi := ⟨some 14, _, _, _, _, none⟩) (v := ?v11) rfl (by kernel_rfl) (by kernel_rfl) (by kernel_rfl) (fun _ _ _ h => h) (Or.inl ⟨by rfl, ?hy11⟩) (by assumption) ?rest11
                case hy11 => (intro wS hSw; (try dsimp only at hSw); go_simp; (try with_reducible rfl))
                (try simp only [Act.put, List.setIfInBounds_toArray, List.set_cons_zero, List.set_cons_succ])
                refine wpAnyH_done (by kernel_rfl) ?_ _
                have FV := Lib.hid (show Fr Non wi w8 from ff8)
                clear ff8 f8 q7 hHeld
                go_wp2
                refine wp_region_held_drew (S := (fun W' => W'.cell? ⟨gr + 1, 0, none⟩ = some (.int .i64 5) ∧ W'.cell? ⟨gr + 1, 1, none⟩ = some (.string ⟨#[]⟩) ∧ W'.cell? ⟨gr + 1, 2, none⟩ = some (.int .i64 0) ∧ W'.cell? ⟨gr + 1, 3, none⟩ = some (.bool false) ∧ W'.cell? ⟨gr + 1, 4, none⟩ = some (.int .i64 0) ∧ W'.cell? ⟨gr + 1, 5, none⟩ = some (.string ⟨#[]⟩) ∧ W'.cell? ⟨gr + 1, 6, none⟩ = some (.int .i64 0) ∧ W'.cell? ⟨gr + 1, 7, none⟩ = some (.string ⟨#[]⟩) ∧ W'.cell? ⟨gr + 1, 8, none⟩ = some (.slice (some ⟨gr, 0, none⟩) 1 1) ∧ W'.cell? ⟨gr + 1 + 1, 0, none⟩ = some (.int .i64 7) ∧ W'.cell? ⟨gr + 1 + 1, 1, none⟩ = some (.string ⟨#[]⟩) ∧ W'.cell? ⟨gr + 1 + 1, 2, none⟩ = some (.int .i64 0) ∧ W'.cell? ⟨gr + 1 + 1, 3, none⟩ = some (.bool false) ∧ W'.cell? ⟨gr + 1 + 1, 4, none⟩ = some (.int .i64 0) ∧ W'.cell? ⟨gr + 1 + 1, 5, none⟩ = some (.string ⟨#[]⟩) ∧ W'.cell? ⟨gr + 1 + 1, 6, none⟩ = some (.int .i64 0) ∧ W'.cell? ⟨gr + 1 + 1, 7, none⟩ = some (.string ⟨#[]⟩) ∧ W'.cell? ⟨gr + 1 + 1, 8, none⟩ = some (.slice (some ⟨g5, 0, none⟩) 2 2) ∧ W'.cell? (a.add j) = some (.slice Ar rows[j].length cr))) (by kernel_rfl) (by exact ⟨b0, b1, b2, b3, b4, b5, b6, b7, b8, d0, d1, d2, d3, d4, d5, d6, d7, d8, q8⟩) (fun hHeld => ?_)
                refine wpAnyH_take (i := 0) (oi := ⟨some 77, _, _, _, _, none⟩) (v := ?v12) rfl (by kernel_rfl) (by kernel_rfl) (by kernel_rfl) (fun _ _ _ h => h) (Or.inl ⟨by rfl, ?hy12⟩) (by assumption) ?rest12
                case hy12 => (intro wS hSw; (try dsimp only at hSw); go_simp; (try with_reducible rfl))
                (try simp only [Act.put, List.setIfInBounds_toArray, List.set_cons_zero, List.set_cons_succ])
                refine wpAnyH_take (i := 1) (oi := ⟨some 78, _, _, _, _, none⟩) (v := ?v13) rfl (by kernel_rfl) (by kernel_rfl) (by kernel_rfl) (fun _ _ _ h => h) (Or.inl ⟨by rfl, ?hy13⟩) (by assumption) ?rest13
                case hy13 => (intro wS hSw; (try dsimp only at hSw); go_simp; (try with_reducible rfl))
                (try simp only [Act.put, List.setIfInBounds_toArray, List.set_cons_zero, List.set_cons_succ])
                refine wpAnyH_take (i := 2) (oi := ⟨some 79, _, _, _, _, none⟩) (v := ?v14) rfl (by kernel_rfl) (by kernel_rfl) (by kernel_rfl) (fun _ _ _ h => h) (Or.inl ⟨by rfl, ?hy14⟩) (by assumption) ?rest14
                case hy14 => (intro wS hSw; (try dsimp only at hSw); go_simp; (try with_reducible rfl))
                (try simp only [Act.put, List.setIfInBounds_toArray, List.set_cons_zero, List.set_cons_succ])
                refine wpAnyH_take (i := 3) (oi := ⟨some 80, _, _, _, _, none⟩) (v := ?v15) rfl (by kernel_rfl) (by kernel_rfl) (by kernel_rfl) (fun _ _ _ h => h) (Or.inl ⟨by rfl, ?hy15⟩) (by assumption) ?rest15
                case hy15 => (intro wS hSw; (try dsimp only at hSw); go_simp; (try with_reducible rfl))
                (try simp only [Act.put, List.setIfInBounds_toArray, List.set_cons_zero, List.set_cons_succ])
                refine wpAnyH_take (i := 4) (oi := ⟨some 81, _, _, _, _, none⟩) (v := ?v16) rfl (by kernel_rfl) (by kernel_rfl) (by kernel_rfl) (fun _ _ _ h => h) (Or.inl ⟨by rfl, ?hy16⟩) (by assumption) ?rest16
                case hy16 => (intro wS hSw; (try dsimp only at hSw); go_simp; (try with_reducible rfl))
                (try simp only [Act.put, List.setIfInBounds_toArray, List.set_cons_zero, List.set_cons_succ])
                refine wpAnyH_take (i := 5) (oi := ⟨some 82, _, _, _, _, none⟩) (v := ?v17) rfl (by kernel_rfl) (by kernel_rfl) (by kernel_rfl) (fun _ _ _ h => h) (Or.inl ⟨by rfl, ?hy17⟩) (by assumption) ?rest17
                case hy17 => (intro wS hSw; (try dsimp only at hSw); go_simp; (try with_reducible rfl))
                (try simp only [Act.put, List.setIfInBounds_toArray, List.set_cons_zero, List.set_cons_succ])
                refine wpAnyH_ready (rs := [6]) (by kernel_rfl) (by simp) ?_
                refine AllReadyH.cons (o := ⟨some 83, _, _, _, _, none⟩) rfl (fun K hK => ?_) AllReadyH.nil
                go_simp
                go_at_call 13
                refine (G4.out _ FV.out.drew).mono ?_
                rintro e w9 ⟨rfl, f9⟩
                have ff9 := (Fr.refl Non w8).drew.trans f9
                have PA9 := Lib.hid (PA8.out.fr ff9 (fun e => e))
                have PC9 := Lib.hid (PC8.out.fr ff9 (fun e => e))
                have q9 := (ff9.cell (World.block_lt_of_cell? _ _ q8) (fun e => e)).trans q8
                have FJ9 := Lib.hid (FJ8.out.trans ff9)
                clear b0 b1 b2 b3 b4 b5 b6 b7 b8 d0 d1 d2 d3 d4 d5 d6 d7 d8
                obtain ⟨b0, b1, b2, b3, b4, b5, b6, b7, b8⟩ := pdB_cells PA9.out
                obtain ⟨d0, d1, d2, d3, d4, d5, d6, d7, d8⟩ := pdB_cells PC9.out
                dsimp only [hOp, zCl] at b0 b1 b2 b3 b4 b5 b6 b7 b8 d0 d1 d2 d3 d4 d5 d6 d7 d8

                go_wp2_with fail
                refine hK.out _ _ (by exact ⟨b0, b1, b2, b3, b4, b5, b6, b7, b8, d0, d1, d2, d3, d4, d5, d6, d7, d8, q9⟩) (fun hHeld => ?_)
                clear hK K
                (try simp only [Act.put, List.setIfInBounds_toArray, List.set_cons_zero, List.set_cons_succ])
                refine wpAnyH_take (i := 7) (oi := ⟨some 76, _, _, _, _, none⟩) (v := ?v18) rfl (by kernel_rfl) (by kernel_rfl) (by kernel_rfl) (fun _ _ _ h => h) (Or.inl ⟨by rfl, ?hy18⟩) (by assumption) ?rest18
                case hy18 => (intro wS hSw; (try dsimp only at hSw); go_simp; (try with_reducible rfl))
                (try simp only [Act.put, List.setIfInBounds_toArray, List.set_cons_zero, List.set_cons_succ])
                refine wpAnyH_take (i := 8) (oi := ⟨some 84, _, _, _, _, none⟩) (v := ?v19) rfl (by kernel_rfl) (by kernel_rfl) (by kernel_rfl) (fun _ _ _ h => h) (Or.inl ⟨by rfl, ?hy19⟩) (by assumption) ?rest19
                case hy19 => (intro wS hSw; (try dsimp only at hSw); go_simp; (try with_reducible rfl))
                (try simp only [Act.put, List.setIfInBounds_toArray, List.set_cons_zero, List.set_cons_succ])
                refine wpAnyH_take (i := 9) (oi := ⟨some 85, _, _, _, _, none⟩) (v := ?v20) rfl (by kernel_rfl) (by kernel_rfl) (by kernel_rfl) (fun _ _ _ h => h) (Or.inl ⟨by rfl, ?hy20⟩) (by assumption) ?rest20
                case hy20 => (intro wS hSw; (try dsimp only at hSw); go_simp; (try with_reducible rfl))
                (try simp only [Act.put, List.setIfInBounds_toArray, List.set_cons_zero, List.set_cons_succ])
                refine wpAnyH_take (i := 10) (oi := ⟨some 15, _, _, _, _, none⟩) (v := ?v21) rfl (by kernel_rfl) (by kernel_rfl) (by kernel_rfl) (fun _ _ _ h => h) (Or.inl ⟨by rfl, ?hy21⟩) (by assumption) ?rest21
                case hy21 => (intro wS hSw; (try dsimp only at hSw); go_simp; (try with_reducible rfl))
                (try simp only [Act.put, List.setIfInBounds_toArray, List.set_cons_zero, List.set_cons_succ])
                refine wpAnyH_take (i := 11) (oi := ⟨some 16, _, _, _, _, none⟩) (v := ?v22) rfl (by kernel_rfl) (by kernel_rfl) (by kernel_rfl) (fun _ _ _ h => h) (Or.inl ⟨by rfl, ?hy22⟩) (by assumption) ?rest22
                case hy22 => (intro wS hSw; (try dsimp only at hSw); go_simp; (try with_reducible rfl))
                (try simp only [Act.put, List.setIfInBounds_toArray, List.set_cons_zero, List.set_cons_succ])
                refine wpAnyH_done (by kernel_rfl) ?_ _
                have FX := Lib.hid (FI.out.trans (FV.out.trans ff9))
                have HT := HQj.out
                clear ff9 f9 q8 q9 hHeld HQj b0 b1 b2 b3 b4 b5 b6 b7 b8 d0 d1 d2 d3 d4 d5 d6 d7 d8
                by_cases hy : y2 = 0
                · subst hy
                  by_cases hz : z2 = 0
                  · subst hz
                    have h12 := HT rfl rfl
                    subst h12
                    clear HT
                    go_wp2_with fail
                    refine (HN.out _ _).mono ?_
                    rintro e wn ⟨rfl, rfl⟩
                    go_wp2_with fail
                    refine (HN.out _ _).mono ?_
                    rintro e wn ⟨rfl, rfl⟩
                    go_wp2
                    go_roundw
                    case rel => exact ⟨j + 1, by omega, by go_num, FX⟩
                    case measure => simp [intOf]; omega
                  · have hzb : (z2 == 0) = false := by rw [beq_eq_false_iff_ne]; exact hz
                    clear HT hz
                    go_wp2_with fail
                    refine (HN.out _ _).mono ?_
                    rintro e wn ⟨rfl, rfl⟩
                    go_wp2_with fail
                    refine (HN.out _ _).mono ?_
                    rintro e wn ⟨rfl, rfl⟩
                    go_wp2
                    go_roundw
                    case rel => exact ⟨j + 1, by omega, by go_num, FX⟩
                    case measure => simp [intOf]; omega
                · have hyb : (y2 == 0) = false := by rw [beq_eq_false_iff_ne]; exact hy
                  clear HT hy
                  go_wp2_with fail
                  refine (HN.out _ _).mono ?_
                  rintro e wn ⟨rfl, rfl⟩
                  go_wp2
                  go_roundw
                  case rel => exact ⟨j + 1, by omega, by go_num, FX⟩
                  case measure => simp [intOf]; omega
              · have FX := Lib.hid (FR.out.trans (FW.out.trans FI.out))
                clear M3 M4 HQ KA2 KN2
                go_wp2
                go_roundw
                case rel => exact ⟨.inr (.inl rfl), FX⟩
                case measure => simp [intOf]
          · rename World => wr
            have PA := Lib.hid (jW_a wr 7 6 g4 g5)
            have PC := Lib.hid (jW_b wr 7 6 g4 g5)
            have FW := Lib.hid (jW_fr wr 7 6 g4 g5)
            have KA := Lib.hid (jW_k (KL5.out.non FR.out) 7 6 g5)
            have KN := Lib.hid (KN5.out.non (FR.out.trans FW.out))
            have HQ := Lib.hid HQ7.out
            unfold jW pdC kidV hOp zCl at PA PC FW
            have KA2 : Hid (Kd (((wr.alloc (.cells #[.int .i64 7, .string ⟨#[]⟩, .int .i64 0, .bool false, .int .i64 0, .string ⟨#[]⟩, .int .i64 0, .string ⟨#[]⟩, .slice (some ⟨g4, 0, none⟩) 2 2] 27)).alloc (.cells #[.int .i64 5, .string ⟨#[]⟩, .int .i64 0, .bool false, .int .i64 0, .string ⟨#[]⟩, .int .i64 0, .string ⟨#[]⟩, .slice (some ⟨wr.heap.size, 0, none⟩) 1 1] 27)).alloc (.cells #[.int .i64 6, .string ⟨#[]⟩, .int .i64 0, .bool false, .int .i64 0, .string ⟨#[]⟩, .int .i64 0, .string ⟨#[]⟩, .slice (some ⟨g5, 0, none⟩) 2 2] 27)) ⟨some ⟨wr.heap.size, 0, none⟩, 1, 1⟩ [.mk (hOp 7) [p, p']]) := KA
            have KN2 : Hid (Kd (((wr.alloc (.cells #[.int .i64 7, .string ⟨#[]⟩, .int .i64 0, .bool false, .int .i64 0, .string ⟨#[]⟩, .int .i64 0, .string ⟨#[]⟩, .slice (some ⟨g4, 0, none⟩) 2 2] 27)).alloc (.cells #[.int .i64 5, .string ⟨#[]⟩, .int .i64 0, .bool false, .int .i64 0, .string ⟨#[]⟩, .int .i64 0, .string ⟨#[]⟩, .slice (some ⟨wr.heap.size, 0, none⟩) 1 1] 27)).alloc (.cells #[.int .i64 6, .string ⟨#[]⟩, .int .i64 0, .bool false, .int .i64 0, .string ⟨#[]⟩, .int .i64 0, .string ⟨#[]⟩, .slice (some ⟨g5, 0, none⟩) 2 2] 27)) ⟨some ⟨g5, 0, none⟩, 2, 2⟩ [.mk (hOp 5) [p], .mk (hOp 5) [p']]) := KN
            clear KA KN HQ6 HQ7
            dsimp only at PA PC FW
            go_wp2
            generalize hW3 : ((wr.alloc (.cells #[.int .i64 7, .string ⟨#[]⟩, .int .i64 0, .bool false, .int .i64 0, .string ⟨#[]⟩, .int .i64 0, .string ⟨#[]⟩, .slice (some ⟨g4, 0, none⟩) 2 2] 27)).alloc (.cells #[.int .i64 5, .string ⟨#[]⟩, .int .i64 0, .bool false, .int .i64 0, .string ⟨#[]⟩, .int .i64 0, .string ⟨#[]⟩, .slice (some ⟨wr.heap.size, 0, none⟩) 1 1] 27)).alloc (.cells #[.int .i64 6, .string ⟨#[]⟩, .int .i64 0, .bool false, .int .i64 0, .string ⟨#[]⟩, .int .i64 0, .string ⟨#[]⟩, .slice (some ⟨g5, 0, none⟩) 2 2] 27) = W3 at *
            generalize hgr : wr.heap.size = gr at *
            go_loopw [12] (fun i wi => ∃ j : Nat, j ≤ rows.length ∧ i = .int .i64 j ∧ Hid (Fr Non W3 wi)) (fun i _ => rows.length - (intOf i).toNat)
            case atStart => exact ⟨0, Nat.zero_le _, rfl, Lib.hid (Fr.refl _ _)⟩
            case round =>
              rename World => wi
              obtain ⟨j, hj, rfl, FI⟩ := hrel
              by_cases hlt : j < rows.length
              · have FJ7 := Lib.hid (F6.out.trans (FW.out.trans FI.out))
                obtain ⟨a, Ar, cr, rfl, -, q7, hc1⟩ := (HR.out.non FJ7.out).el j hlt
                have PA7 := Lib.hid (PA.out.fr FI.out (fun e => e))
                have PC7 := Lib.hid (PC.out.fr FI.out (fun e => e))
                have G3 := Lib.hid (M3.out 7 _ _ rows[j] wi.drew FJ7.out.drew (hc1.non (Fr.refl Non wi).drew) (KA2.out.non FI.out.drew))
                have G4 := Lib.hid (fun W (hf : Fr Non wi W) => M4.out 6 _ _ rows[j] W (FJ7.out.trans hf) (hc1.non hf) (KN2.out.non (FI.out.trans hf)))
                have HQj := Lib.hid (HQ.out rows[j])
                clear M3 M4 hc1 HQ KA2 KN2
                generalize NA 7 rows[j] = y at *
                generalize NB 6 rows[j] = z at *
                obtain ⟨y1, y2⟩ := y
                obtain ⟨z1, z2⟩ := z
                unfold twoV at G3 G4
                dsimp only at G3 G4
                obtain ⟨b0, b1, b2, b3, b4, b5, b6, b7, b8⟩ := pdB_cells PA7.out
                obtain ⟨d0, d1, d2, d3, d4, d5, d6, d7, d8⟩ := pdB_cells PC7.out
                dsimp only [hOp, zCl] at b0 b1 b2 b3 b4 b5 b6 b7 b8 d0 d1 d2 d3 d4 d5 d6 d7 d8
                go_wp2
                refine wp_region_held_drew (S := (fun W' => W'.cell? ⟨gr + 1, 0, none⟩ = some (.int .i64 5) ∧ W'.cell? ⟨gr + 1, 1, none⟩ = some (.string ⟨#[]⟩) ∧ W'.cell? ⟨gr + 1, 2, none⟩ = some (.int .i64 0) ∧ W'.cell? ⟨gr + 1, 3, none⟩ = some (.bool false) ∧ W'.cell? ⟨gr + 1, 4, none⟩ = some (.int .i64 0) ∧ W'.cell? ⟨gr + 1, 5, none⟩ = some (.string ⟨#[]⟩) ∧ W'.cell? ⟨gr + 1, 6, none⟩ = some (.int .i64 0) ∧ W'.cell? ⟨gr + 1, 7, none⟩ = some (.string ⟨#[]⟩) ∧ W'.cell? ⟨gr + 1, 8, none⟩ = some (.slice (some ⟨gr, 0, none⟩) 1 1) ∧ W'.cell? ⟨gr + 1 + 1, 0, none⟩ = some (.int .i64 6) ∧ W'.cell? ⟨gr + 1 + 1, 1, none⟩ = some (.string ⟨#[]⟩) ∧ W'.cell? ⟨gr + 1 + 1, 2, none⟩ = some (.int .i64 0) ∧ W'.cell? ⟨gr + 1 + 1, 3, none⟩ = some (.bool false) ∧ W'.cell? ⟨gr + 1 + 1, 4, none⟩ = some (.int .i64 0) ∧ W'.cell? ⟨gr + 1 + 1, 5, none⟩ = some (.string ⟨#[]⟩) ∧ W'.cell? ⟨gr + 1 + 1, 6, none⟩ = some (.int .i64 0) ∧ W'.cell? ⟨gr + 1 + 1, 7, none⟩ = some (.string ⟨#[]⟩) ∧ W'.cell? ⟨gr + 1 + 1, 8, none⟩ = some (.slice (some ⟨g5, 0, none⟩) 2 2) ∧ W'.cell? (a.add j) = some (.slice Ar rows[j].length cr))) (by kernel_rfl) (by exact ⟨b0, b1, b2, b3, b4, b5, b6, b7, b8, d0, d1, d2, d3, d4, d5, d6, d7, d8, q7⟩) (fun hHeld => ?_)
                refine wpAnyH_take (i := 0) (oi := ⟨some 67, _, _, _, _, none⟩) (v := ?v23) rfl (by kernel_rfl) (by kernel_rfl) (by kernel_rfl) (fun _ _ _ h => h) (Or.inl ⟨by rfl, ?hy23⟩) (by assumption) ?rest23
                case hy23 => (intro wS hSw; (try dsimp only at hSw); go_simp; (try with_reducible rfl))
                (try simp only [Act.put, List.setIfInBounds_toArray, List.set_cons_zero, List.set_cons_succ])
                refine wpAnyH_take (i := 1) (oi := ⟨some 68, _, _, _, _, none⟩) (v := ?v24) rfl (by kernel_rfl) (by kernel_rfl) (by kernel_rfl) (fun _ _ _ h => h) (Or.inl ⟨by rfl, ?hy24⟩) (by assumption) ?rest24
                case hy24 => (intro wS hSw; (try dsimp only at hSw); go_simp; (try with_reducible rfl))
                (try simp only [Act.put, List.setIfInBounds_toArray, List.set_cons_zero, List.set_cons_succ])
                refine wpAnyH_take (i := 2) (oi := ⟨some 69, _, _, _, _, none⟩) (v := ?v25) rfl (by kernel_rfl) (by kernel_rfl) (by kernel_rfl) (fun _ _ _ h => h) (Or.inl ⟨by rfl, ?hy25⟩) (by assumption) ?rest25
                case hy25 => (intro wS hSw; (try dsimp only at hSw); go_simp; (try with_reducible rfl))
                (try simp only [Act.put, List.setIfInBounds_toArray, List.set_cons_zero, List.set_cons_succ])
                refine wpAnyH_take (i := 3) (oi := ⟨some 70, _, _, _, _, none⟩) (v := ?v26) rfl (by kernel_rfl) (by kernel_rfl) (by kernel_rfl) (fun _ _ _ h => h) (Or.inl ⟨by rfl, ?hy26⟩) (by assumption) ?rest26
                case hy26 => (intro wS hSw; (try dsimp only at hSw); go_simp; (try with_reducible rfl))
                (try simp only [Act.put, List.setIfInBounds_toArray, List.set_cons_zero, List.set_cons_succ])
                refine wpAnyH_take (i := 4) (oi := ⟨some 71, _, _, _, _, none⟩) (v := ?v27) rfl (by kernel_rfl) (by kernel_rfl) (by kernel_rfl) (fun _ _ _ h => h) (Or.inl ⟨by rfl, ?hy27⟩) (by assumption) ?rest27
                case hy27 => (intro wS hSw; (try dsimp only at hSw); go_simp; (try with_reducible rfl))
                (try simp only [Act.put, List.setIfInBounds_toArray, List.set_cons_zero, List.set_cons_succ])
                refine wpAnyH_take (i := 5) (oi := ⟨some 72, _, _, _, _, none⟩) (v := ?v28) rfl (by kernel_rfl) (by kernel_rfl) (by kernel_rfl) (fun _ _ _ h => h) (Or.inl ⟨by rfl, ?hy28⟩) (by assumption) ?rest28
                case hy28 => (intro wS hSw; (try dsimp only at hSw); go_simp; (try with_reducible rfl))
                (try simp only [Act.put, List.setIfInBounds_toArray, List.set_cons_zero, List.set_cons_succ])
                refine wpAnyH_ready (rs := [6]) (by kernel_rfl) (by simp) ?_
                refine AllReadyH.cons (o := ⟨some 73, _, _, _, _, none⟩) rfl (fun K hK => ?_) AllReadyH.nil
                go_simp
                go_at_call 13
                refine (G3.out).mono ?_
                rintro e w8 ⟨rfl, f8⟩
                have ff8 := (Fr.refl Non wi).drew.trans f8
                have PA8 := Lib.hid (PA7.out.fr ff8 (fun e => e))
                have PC8 := Lib.hid (PC7.out.fr ff8 (fun e => e))
                have q8 := (ff8.cell (World.block_lt_of_cell? _ _ q7) (fun e => e)).trans q7
                have FJ8 := Lib.hid (FJ7.out.trans ff8)
                clear b0 b1 b2 b3 b4 b5 b6 b7 b8 d0 d1 d2 d3 d4 d5 d6 d7 d8
                obtain ⟨b0, b1, b2, b3, b4, b5, b6, b7, b8⟩ := pdB_cells PA8.out
                obtain ⟨d0, d1, d2, d3, d4, d5, d6, d7, d8⟩ := pdB_cells PC8.out
                dsimp only [hOp, zCl] at b0 b1 b2 b3 b4 b5 b6 b7 b8 d0 d1 d2 d3 d4 d5 d6 d7 d8

                go_wp2_with fail
                refine hK.out _ _ (by exact ⟨b0, b1, b2, b3, b4, b5, b6, b7, b8, d0, d1, d2, d3, d4, d5, d6, d7, d8, q8⟩) (fun hHeld => ?_)
                clear hK K
                (try simp only [Act.put, List.setIfInBounds_toArray, List.set_cons_zero, List.set_cons_succ])
                refine wpAnyH_take (i := 7) (oi := ⟨some 66, _, _, _, _, none⟩) (v := ?v29) rfl (by kernel_rfl) (by kernel_rfl) (by kernel_rfl) (fun _ _ _ h => h) (Or.inl ⟨by rfl, ?hy29⟩) (by assumption) ?rest29
                case hy29 => (intro wS hSw; (try dsimp only at hSw); go_simp; (try with_reducible rfl))
                (try simp only [Act.put, List.setIfInBounds_toArray, List.set_cons_zero, List.set_cons_succ])
                refine wpAnyH_take (i := 8) (oi := ⟨some 74, _, _, _, _, none⟩) (v := ?v30) rfl (by kernel_rfl) (by kernel_rfl) (by kernel_rfl) (fun _ _ _ h => h) (Or.inl ⟨by rfl, ?hy30⟩) (by assumption) ?rest30
                case hy30 => (intro wS hSw; (try dsimp only at hSw); go_simp; (try with_reducible rfl))
                (try simp only [Act.put, List.setIfInBounds_toArray, List.set_cons_zero, List.set_cons_succ])
                refine wpAnyH_take (i := 9) (oi := ⟨some 75, _, _, _, _, none⟩) (v := ?v31) rfl (by kernel_rfl) (by kernel_rfl) (by kernel_rfl) (fun _ _ _ h => h) (Or.inl ⟨by rfl, ?hy31⟩) (by assumption) ?rest31
                case hy31 => (intro wS hSw; (try dsimp only at hSw); go_simp; (try with_reducible rfl))
                (try simp only [Act.put, List.setIfInBounds_toArray, List.set_cons_zero, List.set_cons_succ])
                refine wpAnyH_take (i := 10) (oi := ⟨some 13, _, _, _, _, none⟩) (v := ?v32) rfl (by kernel_rfl) (by kernel_rfl) (by kernel_rfl) (fun _ _ _ h => h) (Or.inl ⟨by rfl, ?hy32⟩) (by assumption) ?rest32
                case hy32 => (intro wS hSw; (try dsimp only at hSw); go_simp; (try with_reducible rfl))
                (try simp only [Act.put, List.setIfInBounds_toArray, List.set_cons_zero, List.set_cons_succ])
                refine wpAnyH_take (i := 11) (oi := ⟨some 14, _, _, _, _, none⟩) (v := ?v33) rfl (by kernel_rfl) (by kernel_rfl) (by kernel_rfl) (fun _ _ _ h => h) (Or.inl ⟨by rfl, ?hy33⟩) (by assumption) ?rest33
                case hy33 => (intro wS hSw; (try dsimp only at hSw); go_simp; (try with_reducible rfl))
                (try simp only [Act.put, List.setIfInBounds_toArray, List.set_cons_zero, List.set_cons_succ])
                refine wpAnyH_done (by kernel_rfl) ?_ _
                have FV := Lib.hid (show Fr Non wi w8 from ff8)
                clear ff8 f8 q7 hHeld
                go_wp2
                refine wp_region_held_drew (S := (fun W' => W'.cell? ⟨gr + 1, 0, none⟩ = some (.int .i64 5) ∧ W'.cell? ⟨gr + 1, 1, none⟩ = some (.string ⟨#[]⟩) ∧ W'.cell? ⟨gr + 1, 2, none⟩ = some (.int .i64 0) ∧ W'.cell? ⟨gr + 1, 3, none⟩ = some (.bool false) ∧ W'.cell? ⟨gr + 1, 4, none⟩ = some (.int .i64 0) ∧ W'.cell? ⟨gr + 1, 5, none⟩ = some (.string ⟨#[]⟩) ∧ W'.cell? ⟨gr + 1, 6, none⟩ = some (.int .i64 0) ∧ W'.cell? ⟨gr + 1, 7, none⟩ = some (.string ⟨#[]⟩) ∧ W'.cell? ⟨gr + 1, 8, none⟩ = some (.slice (some ⟨gr, 0, none⟩) 1 1) ∧ W'.cell? ⟨gr + 1 + 1, 0, none⟩ = some (.int .i64 6) ∧ W'.cell? ⟨gr + 1 + 1, 1, none⟩ = some (.string ⟨#[]⟩) ∧ W'.cell? ⟨gr + 1 + 1, 2, none⟩ = some (.int .i64 0) ∧ W'.cell? ⟨gr + 1 + 1, 3, none⟩ = some (.bool false) ∧ W'.cell? ⟨gr + 1 + 1, 4, none⟩ = some (.int .i64 0) ∧ W'.cell? ⟨gr + 1 + 1, 5, none⟩ = some (.string ⟨#[]⟩) ∧ W'.cell? ⟨gr + 1 + 1, 6, none⟩ = some (.int .i64 0) ∧ W'.cell? ⟨gr + 1 + 1, 7, none⟩ = some (.string ⟨#[]⟩) ∧ W'.cell? ⟨gr + 1 + 1, 8, none⟩ = some (.slice (some ⟨g5, 0, none⟩) 2 2) ∧ W'.cell? (a.add j) = some (.slice Ar rows[j].length cr))) (by kernel_rfl) (by exact ⟨b0, b1, b2, b3, b4, b5, b6, b7, b8, d0, d1, d2, d3, d4, d5, d6, d7, d8, q8⟩) (fun hHeld => ?_)
                refine wpAnyH_take (i := 0) (oi := ⟨some 77, _, _, _, _, none⟩) (v := ?v34) rfl (by kernel_rfl) (by kernel_rfl) (by kernel_rfl) (fun _ _ _ h => h) (Or.inl ⟨by rfl, ?hy34⟩) (by assumption) ?rest34
                case hy34 => (intro wS hSw; (try dsimp only at hSw); go_simp; (try with_reducible rfl))
                (try simp only [Act.put, List.setIfInBounds_toArray, List.set_cons_zero, List.set_cons_succ])
                refine wpAnyH_take (i := 1) (oi := ⟨some 78, _, _, _, _, none⟩) (v := ?v35) rfl (by kernel_rfl) (by kernel_rfl) (by kernel_rfl) (fun _ _ _ h => h) (Or.inl ⟨by rfl, ?hy35⟩) (by assumption) ?rest35
                case hy35 => (intro wS hSw; (try dsimp only at hSw); go_simp; (try with_reducible rfl))
                (try simp only [Act.put, List.setIfInBounds_toArray, List.set_cons_zero, List.set_cons_succ])
                refine wpAnyH_take (i := 2) (oi := ⟨some 79, _, _, _, _, none⟩) (v := ?v36) rfl (by kernel_rfl) (by kernel_rfl) (by kernel_rfl) (fun _ _ _ h => h) (Or.inl ⟨by rfl, ?hy36⟩) (by assumption) ?rest36
                case hy36 => (intro wS hSw; (try dsimp only at hSw); go_simp; (try with_reducible rfl))
                (try simp only [Act.put, List.setIfInBounds_toArray, List.set_cons_zero, List.set_cons_succ])
                refine wpAnyH_take (i := 3) (oi := ⟨some 80, _, _, _, _, none⟩) (v := ?v37) rfl (by kernel_rfl) (by kernel_rfl) (by kernel_rfl) (fun _ _ _ h => h) (Or.inl ⟨by rfl, ?hy37⟩) (by assumption) ?rest37
                case hy37 => (intro wS hSw; (try dsimp only at hSw); go_simp; (try with_reducible rfl))
                (try simp only [Act.put, List.setIfInBounds_toArray, List.set_cons_zero, List.set_cons_succ])
                refine wpAnyH_take (i := 4) (oi := ⟨some 81, _, _, _, _, none⟩) (v := ?v38) rfl (by kernel_rfl) (by kernel_rfl) (by kernel_rfl) (fun _ _ _ h => h) (Or.inl ⟨by rfl, ?hy38⟩) (by assumption) ?rest38
                case hy38 => (intro wS hSw; (try dsimp only at hSw); go_simp; (try with_reducible rfl))
                (try simp only [Act.put, List.setIfInBounds_toArray, List.set_cons_zero, List.set_cons_succ])
                refine wpAnyH_take (i := 5) (oi := ⟨some 82, _, _, _, _, none⟩) (v := ?v39) rfl (by kernel_rfl) (by kernel_rfl) (by kernel_rfl) (fun _ _ _ h => h) (Or.inl ⟨by rfl, ?hy39⟩) (by assumption) ?rest39
                case hy39 => (intro wS hSw; (try dsimp only at hSw); go_simp; (try with_reducible rfl))
                (try simp only [Act.put, List.setIfInBounds_toArray, List.set_cons_zero, List.set_cons_succ])
                refine wpAnyH_ready (rs := [6]) (by kernel_rfl) (by simp) ?_
                refine AllReadyH.cons (o := ⟨some 83, _, _, _, _, none⟩) rfl (fun K hK => ?_) AllReadyH.nil
                go_simp
                go_at_call 13
                refine (G4.out _ FV.out.drew).mono ?_
                rintro e w9 ⟨rfl, f9⟩
                have ff9 := (Fr.refl Non w8).drew.trans f9
                have PA9 := Lib.hid (PA8.out.fr ff9 (fun e => e))
                have PC9 := Lib.hid (PC8.out.fr ff9 (fun e => e))
                have q9 := (ff9.cell (World.block_lt_of_cell? _ _ q8) (fun e => e)).trans q8
                have FJ9 := Lib.hid (FJ8.out.trans ff9)
                clear b0 b1 b2 b3 b4 b5 b6 b7 b8 d0 d1 d2 d3 d4 d5 d6 d7 d8
                obtain ⟨b0, b1, b2, b3, b4, b5, b6, b7, b8⟩ := pdB_cells PA9.out
                obtain ⟨d0, d1, d2, d3, d4, d5, d6, d7, d8⟩ := pdB_cells PC9.out
                dsimp only [hOp, zCl] at b0 b1 b2 b3 b4 b5 b6 b7 b8 d0 d1 d2 d3 d4 d5 d6 d7 d8

                go_wp2_with fail
                refine hK.out _ _ (by exact ⟨b0, b1, b2, b3, b4, b5, b6, b7, b8, d0, d1, d2, d3, d4, d5, d6, d7, d8, q9⟩) (fun hHeld => ?_)
                clear hK K
                (try simp only [Act.put, List.setIfInBounds_toArray, List.set_cons_zero, List.set_cons_succ])
                refine wpAnyH_take (i := 7) (oi := ⟨some 76, _, _, _, _, none⟩) (v := ?v40) rfl (by kernel_rfl) (by kernel_rfl) (by kernel_rfl) (fun _ _ _ h => h) (Or.inl ⟨by rfl, ?hy40⟩) (by assumption) ?rest40
                case hy40 => (intro wS hSw; (try dsimp only at hSw); go_simp; (try with_reducible rfl))
                (try simp only [Act.put, List.setIfInBounds_toArray, List.set_cons_zero, List.set_cons_succ])
                refine wpAnyH_take (i := 8) (oi := ⟨some 84, _, _, _, _, none⟩) (v := ?v41) rfl (by kernel_rfl) (by kernel_rfl) (by kernel_rfl) (fun _ _ _ h => h) (Or.inl ⟨by rfl, ?hy41⟩) (by assumption) ?rest41
                case hy41 => (intro wS hSw; (try dsimp only at hSw); go_simp; (try with_reducible rfl))
                (try simp only [Act.put, List.setIfInBounds_toArray, List.set_cons_zero, List.set_cons_succ])
                refine wpAnyH_take (i := 9) (oi := ⟨some 85, _, _, _, _, none⟩) (v := ?v42) rfl (by kernel_rfl) (by kernel_rfl) (by kernel_rfl) (fun _ _ _ h => h) (Or.inl ⟨by rfl, ?hy42⟩) (by assumption) ?rest42
                case hy42 => (intro wS hSw; (try dsimp only at hSw); go_simp; (try with_reducible rfl))
                (try simp only [Act.put, List.setIfInBounds_toArray, List.set_cons_zero, List.set_cons_succ])
                refine wpAnyH_take (i := 10) (oi := ⟨some 15, _, _, _, _, none⟩) (v := ?v43) rfl (by kernel_rfl) (by kernel_rfl) (by kernel_rfl) (fun _ _ _ h => h) (Or.inl ⟨by rfl, ?hy43⟩) (by assumption) ?rest43
                case hy43 => (intro wS hSw; (try dsimp only at hSw); go_simp; (try with_reducible rfl))
                (try simp only [Act.put, List.setIfInBounds_toArray, List.set_cons_zero, List.set_cons_succ])
                refine wpAnyH_take (i := 11) (oi := ⟨some 16, _, _, _, _, none⟩) (v := ?v44) rfl (by kernel_rfl) (by kernel_rfl) (by kernel_rfl) (fun _ _ _ h => h) (Or.inl ⟨by rfl, ?hy44⟩) (by assumption) ?rest44
                case hy44 => (intro wS hSw; (try dsimp only at hSw); go_simp; (try with_reducible rfl))
                (try simp only [Act.put, List.setIfInBounds_toArray, List.set_cons_zero, List.set_cons_succ])
                refine wpAnyH_done (by kernel_rfl) ?_ _
                have FX := Lib.hid (FI.out.trans (FV.out.trans ff9))
                have HT := HQj.out
                clear ff9 f9 q8 q9 hHeld HQj b0 b1 b2 b3 b4 b5 b6 b7 b8 d0 d1 d2 d3 d4 d5 d6 d7 d8
                by_cases hy : y2 = 0
                · subst hy
                  by_cases hz : z2 = 0
                  · subst hz
                    have h12 := HT rfl rfl
                    subst h12
                    clear HT
                    go_wp2_with fail
                    refine (HN.out _ _).mono ?_
                    rintro e wn ⟨rfl, rfl⟩
                    go_wp2_with fail
                    refine (HN.out _ _).mono ?_
                    rintro e wn ⟨rfl, rfl⟩
                    go_wp2
                    go_roundw
                    case rel => exact ⟨j + 1, by omega, by go_num, FX⟩
                    case measure => simp [intOf]; omega
                  · have hzb : (z2 == 0) = false := by rw [beq_eq_false_iff_ne]; exact hz
                    clear HT hz
                    go_wp2_with fail
                    refine (HN.out _ _).mono ?_
                    rintro e wn ⟨rfl, rfl⟩
                    go_wp2_with fail
                    refine (HN.out _ _).mono ?_
                    rintro e wn ⟨rfl, rfl⟩
                    go_wp2
                    go_roundw
                    case rel => exact ⟨j + 1, by omega, by go_num, FX⟩
                    case measure => simp [intOf]; omega
                · have hyb : (y2 == 0) = false := by rw [beq_eq_false_iff_ne]; exact hy
                  clear HT hy
                  go_wp2_with fail
                  refine (HN.out _ _).mono ?_
                  rintro e wn ⟨rfl, rfl⟩
                  go_wp2
                  go_roundw
                  case rel => exact ⟨j + 1, by omega, by go_num, FX⟩
                  case measure => simp [intOf]; omega
              · have FX := Lib.hid (FR.out.trans (FW.out.trans FI.out))
                clear M3 M4 HQ KA2 KN2
                go_wp2
                go_roundw
                case rel => exact ⟨.inr (.inr rfl), FX⟩
                case measure => simp [intOf]
          · clear M3 M4 HQ6 HQ7
            go_wp2_with fail
            refine (live20_any _).mono ?_
            rintro e w9 ⟨rfl, f9⟩
            go_wp2
            go_ret
            exact ⟨rfl, (F6.out.trans f9).below.mono (by omega)⟩
end Go.Proofs.Ytnbhgkolfapblaa


namespace Go.Proofs.Ytnbhgkolfapblaa
set_option linter.unusedVariables false
set_option linter.unusedSimpArgs false
set_option maxRecDepth 100000
open Go.Joins Go.ChangeShapes Go.WideShapes Go.ChangeAt Go.RowKit Go.Deep

/-- a cell within its fields' ranges -/
structure ClWf (c : Cl) : Prop where
  lo : -9223372036854775808 ≤ c.num
  hi : c.num ≤ 9223372036854775807
  len : c.txt.length ≤ 9223372036854775807
end Go.Proofs.Ytnbhgkolfapblaa


namespace Go.Proofs.Ytnbhgkolfapblaa
set_option linter.unusedVariables false
set_option linter.unusedSimpArgs false
set_option maxRecDepth 100000
open Go.Joins Go.ChangeShapes Go.WideShapes Go.ChangeAt Go.RowKit Go.Deep

theorem cof_bool : Try.prog.cellsOf 4 = 1 := by kernel_rfl
theorem cof_i64 : Try.prog.cellsOf 2 = 1 := by kernel_rfl
theorem cof_int : Try.prog.cellsOf 3 = 1 := by kernel_rfl
theorem cof_str : Try.prog.cellsOf 9 = 1 := by kernel_rfl
theorem cof_cl : Try.prog.cellsOf 24 = 3 := by kernel_rfl
/-- three cells that are read as a cell -/
theorem cl_cells {H : Type} {enc : TypeId × Value → H} {W : World} {n : Nat} {x : DataW H × List MemPlace} {c2 c3 c4 : Value}
    (h : DataW.trod enc Try.prog W 0 (fun _ => true) true n 24 [c2, c3, c4] = some x) : ∃ c : Cl, c2 = .bool c.null ∧ c3 = .int .i64 c.num ∧ c4 = .string ⟨c.txt.toArray⟩ ∧ ClWf c := by
  obtain ⟨y0, y1, y2, m, rfl, _, h0, h1, h2⟩ := trod_struct3 Try.underlying24 h
  simp only [cof_bool, cof_i64, cof_str, List.drop_zero, List.drop_succ_cons, List.take_succ_cons, List.take_zero] at h0 h1 h2
  obtain ⟨b, e0, _⟩ := DataW.trod_bool Try.underlying4 h0
  obtain rfl := (List.cons.inj e0).1
  obtain ⟨i, e1, _, hi⟩ := DataW.trod_int Try.underlying2 h1
  obtain rfl := (List.cons.inj e1).1
  obtain ⟨s, e2, _, hs⟩ := DataW.trod_string Try.underlying9 h2
  obtain rfl := (List.cons.inj e2).1
  have hb := wf_i64_bd hi
  exact ⟨⟨b, i, s.data.toList⟩, rfl, rfl, by simp, ⟨hb.1, hb.2, by simpa [maxLen] using hs⟩⟩
end Go.Proofs.Ytnbhgkolfapblaa


namespace Go.Proofs.Ytnbhgkolfapblaa
set_option linter.unusedVariables false
set_option linter.unusedSimpArgs false
set_option maxRecDepth 100000
open Go.Joins Go.ChangeShapes Go.WideShapes Go.ChangeAt Go.RowKit Go.Deep

/-! ### A predicate opened -/
theorem cof_pd : Try.prog.cellsOf 27 = 9 := by kernel_rfl
theorem cof_pds : Try.prog.cellsOf 25 = 1 := by kernel_rfl
theorem pd_trod {H : Type} {enc : TypeId × Value → H} {W : World} : ∀ (N fuel : Nat) (cs : List Value) (x : DataW H × List MemPlace), SizeOf.sizeOf x.1 ≤ N →
    DataW.trod enc Try.prog W 0 (fun _ => true) true fuel 27 cs = some x → ∃ (h : Ph) (s : Kv) (ks : List Pd), cs = pdL (h, s) ∧ Kd W s ks ∧ I64b h.val.num := by
  intro N
  induction N with
  | zero =>
    intro fuel cs x hx h
    obtain ⟨xs, n, rfl, hxe, _⟩ := DataW.trod_struct Try.underlying27 h
    rw [hxe] at hx
    simp only [DataW.agg.sizeOf_spec] at hx
    omega
  | succ N ih =>
    intro fuel cs x hx h
    obtain ⟨xs, n, rfl, hxe, hlen, hxl, hall⟩ := DataW.trod_struct Try.underlying27 h
    rw [cof_pd] at hlen
    have hxl7 : xs.length = 7 := hxl
    rw [hxe] at hx
    simp only [DataW.agg.sizeOf_spec] at hx
    match cs, hlen with
    | [v0, v1, v2, v3, v4, v5, v6, v7, v8], _ =>
      have f0 : DataW.trod enc Try.prog W 0 (fun _ => true) true n 3 (List.take (Try.prog.cellsOf 3) (List.drop 0 [v0, v1, v2, v3, v4, v5, v6, v7, v8])) = xs[0]? := hall 0 _ rfl
      have f1 : DataW.trod enc Try.prog W 0 (fun _ => true) true n 9 (List.take (Try.prog.cellsOf 9) (List.drop 1 [v0, v1, v2, v3, v4, v5, v6, v7, v8])) = xs[1]? := hall 1 _ rfl
      have f2 : DataW.trod enc Try.prog W 0 (fun _ => true) true n 3 (List.take (Try.prog.cellsOf 3) (List.drop 2 [v0, v1, v2, v3, v4, v5, v6, v7, v8])) = xs[2]? := hall 2 _ rfl
      have f3 : DataW.trod enc Try.prog W 0 (fun _ => true) true n 24 (List.take (Try.prog.cellsOf 24) (List.drop 3 [v0, v1, v2, v3, v4, v5, v6, v7, v8])) = xs[3]? := hall 3 _ rfl
      have f4 : DataW.trod enc Try.prog W 0 (fun _ => true) true n 3 (List.take (Try.prog.cellsOf 3) (List.drop 6 [v0, v1, v2, v3, v4, v5, v6, v7, v8])) = xs[4]? := hall 4 _ rfl
      have f5 : DataW.trod enc Try.prog W 0 (fun _ => true) true n 9 (List.take (Try.prog.cellsOf 9) (List.drop 7 [v0, v1, v2, v3, v4, v5, v6, v7, v8])) = xs[5]? := hall 5 _ rfl
      have f6 : DataW.trod enc Try.prog W 0 (fun _ => true) true n 25 (List.take (Try.prog.cellsOf 25) (List.drop 8 [v0, v1, v2, v3, v4, v5, v6, v7, v8])) = xs[6]? := hall 6 _ rfl
      rw [List.getElem?_eq_getElem (by omega)] at f0 f1 f2 f3 f4 f5 f6
      simp only [cof_int, cof_str, cof_cl, cof_pds, List.drop_zero, List.drop_succ_cons, List.take_succ_cons, List.take_zero] at f0 f1 f2 f3 f4 f5 f6
      obtain ⟨i0, e0, _, w0⟩ := DataW.trod_int Try.underlying3 f0
      obtain rfl := (List.cons.inj e0).1
      obtain ⟨s1, e1, _, _⟩ := DataW.trod_string Try.underlying9 f1
      obtain rfl := (List.cons.inj e1).1
      obtain ⟨i2, e2, _, _⟩ := DataW.trod_int Try.underlying3 f2
      obtain rfl := (List.cons.inj e2).1
      obtain ⟨c, rfl, rfl, rfl, hc⟩ := cl_cells f3
      obtain ⟨i4, e4, _, _⟩ := DataW.trod_int Try.underlying3 f4
      obtain rfl := (List.cons.inj e4).1
      obtain ⟨s5, e5, _, _⟩ := DataW.trod_string Try.underlying9 f5
      obtain rfl := (List.cons.inj e5).1
      have hy : SizeOf.sizeOf xs[6].1 < SizeOf.sizeOf (xs.map fun x => x.fst) := List.sizeOf_lt_of_mem (List.mem_map.2 ⟨xs[6], List.getElem_mem _, rfl⟩)
      refine (?_ : ∃ (s : Kv) (ks : List Pd), v8 = kidV s ∧ Kd W s ks).elim fun s hs => ?_
      · rcases Go.Deep.open_slice Try.underlying25 f6 with ⟨hcs, _⟩ | ⟨a, len, cap, m, q, D, Pl, hcs, _, hl, hm, hmm, hye, hr⟩
        · obtain rfl := (List.cons.inj hcs).1
          exact ⟨noKv, [], rfl, Kd.nil_ W⟩
        · obtain rfl := (List.cons.inj hcs).1
          have hnm : len ≤ m := by rw [hmm]; simp; exact hl
          have hyx : xs[6].1 = DataW.slice ((List.range len).map D) ((List.range (m - len)).map fun j => D (len + j)) := (Prod.mk.inj (show (xs[6].1, xs[6].2) = _ from hye)).1
          rw [hyx] at hy
          simp only [DataW.slice.sizeOf_spec] at hy
          obtain ⟨l, hll, hls⟩ := choose_listG (fun i (z : (Ph × Kv) × List Pd) => AtN W (a.add (i * 9)) (pdL z.1) ∧ Kd W z.1.2 z.2 ∧ I64b z.1.1.val.num) len (by
            intro i hi
            obtain ⟨cs', h1, h2⟩ := hr i (by omega)
            rw [cof_pd] at h1
            obtain ⟨_, hlen', hcell⟩ := World.cells?_some h1
            have hd : SizeOf.sizeOf (D i) < SizeOf.sizeOf ((List.range len).map D) := List.sizeOf_lt_of_mem (List.mem_map.2 ⟨i, List.mem_range.2 hi, rfl⟩)
            obtain ⟨h', s', ks', rfl, hk', hb'⟩ := ih _ _ _ (show SizeOf.sizeOf (D i, Pl i).1 ≤ N by show SizeOf.sizeOf (D i) ≤ N; omega) h2
            refine ⟨((h', s'), ks'), fun j u hu => ?_, hk', hb'⟩
            rw [hcell j (by have := (List.getElem?_eq_some_iff.1 hu).1; simpa [pdL] using this)]
            exact hu)
          subst hll
          refine ⟨⟨some a, l.length, cap⟩, l.map fun z => .mk z.1.1 z.2, rfl, .mk _ (l.map Prod.fst) _ (by simp) ⟨some a, cap, by simp [kidV], by simpa using hl, (fun h => by cases h), fun b hb j hj => ?_⟩ (fun i h1 h2 => by simp [Pd.hd]) (fun i h2 => ?_) (fun i h1 h2 => ?_)⟩
          · cases hb
            have hj' : j < l.length := by simpa using hj
            simpa using (hls j hj').1
          · have hj' : i < l.length := by simpa using h2
            simpa [Pd.hd] using (hls i hj').2.2
          · have hj' : i < l.length := by simpa using h1
            simpa [Pd.kids] using (hls i hj').2.1
      · obtain ⟨ks, rfl, hk⟩ := hs
        exact ⟨⟨i0, s1.data.toList, i2, c, i4, s5.data.toList⟩, s, ks, by simp [pdL], hk, ⟨hc.lo, hc.hi⟩⟩
end Go.Proofs.Ytnbhgkolfapblaa


namespace Go.Proofs.Ytnbhgkolfapblaa
set_option linter.unusedVariables false
set_option linter.unusedSimpArgs false
set_option maxRecDepth 100000
open Go.Joins Go.ChangeShapes Go.WideShapes Go.ChangeAt Go.RowKit Go.Deep

theorem pd2_in {H : Type} {enc : TypeId × Value → H} {W : World} {base : Nat} {v : Value} {d : DataW H} {p : List MemPlace} (hv : Value.okWide Try.prog W .any base 46 v)
    (h : DataW.Trod enc Try.prog W 0 (fun _ => true) true 46 v d p) : ∃ (h : Ph) (s : Kv) (ks : List Pd) (h' : Ph) (s' : Kv) (ks' : List Pd), v = p2V h s h' s' ∧ Kd W s ks ∧ I64b h.val.num ∧ Kd W s' ks' ∧ I64b h'.val.num := by
  unfold Value.okWide at hv
  rw [Try.underlying46] at hv
  obtain ⟨cs, rfl, hsz, _⟩ := hv
  obtain ⟨fuel, hf⟩ := h
  obtain ⟨xs, n, _, _, hlen, hxl, hall⟩ := DataW.trod_array Try.underlying46 hf
  have hxl2 : xs.length = 2 := hxl
  have e0 := hall 0 (by omega)
  have e1 := hall 1 (by omega)
  rw [List.getElem?_eq_getElem (by omega)] at e0 e1
  rw [cof_pd] at e0 e1
  obtain ⟨h0, s0, k0, q0, d0, b0⟩ := pd_trod _ _ _ _ (Nat.le_refl _) e0
  obtain ⟨h1, s1, k1, q1, d1, b1⟩ := pd_trod _ _ _ _ (Nat.le_refl _) e1
  refine ⟨h0, s0, k0, h1, s1, k1, ?_, d0, b0, d1, b1⟩
  have hl : cs.toList.length = 18 := by rw [Array.length_toList]; exact hsz.trans (show Try.prog.cellsOf 46 = 18 by kernel_rfl)
  have e2 : cs.toList = pdL (h0, s0) ++ pdL (h1, s1) := by
    rw [← q0, ← q1]
    simp only [Nat.zero_mul, List.drop_zero, Nat.one_mul, Value.cells]
    rw [List.take_of_length_le (l := List.drop 9 _) (by rw [List.length_drop]; omega)]
    exact (List.take_append_drop 9 _).symm
  unfold p2V
  congr 1
  apply Array.ext'
  rw [e2]; rfl
end Go.Proofs.Ytnbhgkolfapblaa


namespace Go.Proofs.Ytnbhgkolfapblaa
set_option linter.unusedVariables false
set_option linter.unusedSimpArgs false
set_option maxRecDepth 100000
open Go.Joins Go.ChangeShapes Go.WideShapes Go.ChangeAt Go.RowKit Go.Deep

theorem cof_co : Try.prog.cellsOf 51 = 3 := by kernel_rfl
/-- a column within its fields' ranges -/
structure CoWf (c : Co) : Prop where
  lo : -9223372036854775808 ≤ c.ty
  hi : c.ty ≤ 9223372036854775807
  len : c.name.length ≤ 9223372036854775807
/-- three cells that are read as a column -/
theorem co_cells {H : Type} {enc : TypeId × Value → H} {W : World} {n : Nat} {x : DataW H × List MemPlace} {c2 c3 c4 : Value}
    (h : DataW.trod enc Try.prog W 0 (fun _ => true) true n 51 [c2, c3, c4] = some x) : ∃ c : Co, c2 = .string ⟨c.name.toArray⟩ ∧ c3 = .int .i64 c.ty ∧ c4 = .bool c.nl ∧ CoWf c := by
  obtain ⟨y0, y1, y2, m, rfl, _, h0, h1, h2⟩ := trod_struct3 Try.underlying51 h
  simp only [cof_bool, cof_int, cof_str, List.drop_zero, List.drop_succ_cons, List.take_succ_cons, List.take_zero] at h0 h1 h2
  obtain ⟨s, e0, _, hs⟩ := DataW.trod_string Try.underlying9 h0
  obtain rfl := (List.cons.inj e0).1
  obtain ⟨i, e1, _, hi⟩ := DataW.trod_int Try.underlying3 h1
  obtain rfl := (List.cons.inj e1).1
  obtain ⟨b, e2, _⟩ := DataW.trod_bool Try.underlying4 h2
  obtain rfl := (List.cons.inj e2).1
  have hb := wf_i64_bd hi
  exact ⟨⟨s.data.toList, i, b⟩, by simp, rfl, rfl, ⟨hb.1, hb.2, by simpa [maxLen] using hs⟩⟩
theorem ks_in {H : Type} {enc : TypeId × Value → H} {W : World} {base : Nat} {v : Value} {d : DataW H} {p : List MemPlace} (hv : Value.okWide Try.prog W .any base 22 v)
    (h : DataW.Trod enc Try.prog W 0 (fun _ => true) true 22 v d p) : ∃ l, Ks W v l ∧ l.length ≤ 9223372036854775807 ∧ (∀ c ∈ l, CoWf c) ∧ ∀ k, v.ownBlock = some k → k < W.heap.size :=
  ns_in fd_co Try.underlying22 cof_co CoWf (fun n cs y hl hy => by
    match cs, hl with
    | [v0, v1, v2], _ =>
      obtain ⟨c, rfl, rfl, rfl, hw⟩ := co_cells hy
      exact ⟨c, rfl, hw⟩) hv h
end Go.Proofs.Ytnbhgkolfapblaa


namespace Go.Proofs.Ytnbhgkolfapblaa
set_option linter.unusedVariables false
set_option linter.unusedSimpArgs false
set_option maxRecDepth 100000
open Go.Joins Go.ChangeShapes Go.WideShapes Go.ChangeAt Go.RowKit Go.Deep

theorem cof_row : Try.prog.cellsOf 42 = 1 := by kernel_rfl
theorem bytes_cl : Try.prog.bytesOf 24 = 32 := by kernel_rfl
/-- an element's weights are the slice's -/
theorem weights_elem {H : Type} {P : Program} {t e : TypeId} (hu : P.underlying t = some (.slice e)) : ∀ {elems spare : List (DataW H)} {d : DataW H} {n : Nat}, d ∈ elems → n ∈ d.weights P e → n ∈ (DataW.slice elems spare).weights P t := by
  intro elems spare d n hd hn
  have all : ∀ {l : List (DataW H)}, d ∈ l → n ∈ DataW.weightsAll P e l := by
    intro l hl
    induction l with
    | nil => cases hl
    | cons x r ih =>
      simp only [DataW.weightsAll, List.mem_append]
      rcases List.mem_cons.1 hl with rfl | hl
      · exact .inl hn
      · exact .inr (ih hl)
  simp only [DataW.weights, hu, List.mem_cons, List.mem_append]
  exact .inr (.inl (all hd))
/-- a slice of cells in a cell of another one -/
theorem cs_trod {H : Type} {enc : TypeId × Value → H} {W : World} {n : Nat} {x : DataW H × List MemPlace} {v : Value}
    (h : DataW.trod enc Try.prog W 0 (fun _ => true) true n 42 [v] = some x) : ∃ (s : Sl) (l : List Cl), v = slV s ∧ s.n = l.length ∧ Cs W (slV s) l ∧ l.length ≤ 9223372036854775807 ∧ (∀ c ∈ l, ClWf c) ∧ ((∀ n ∈ x.1.weights Try.prog 42, n ≤ reachBytes) → l.length ≤ 4398046511103) := by
  rcases Go.Deep.open_slice Try.underlying42 h with ⟨hcs, _⟩ | ⟨a, len, cap, m, k, D, Pl, hcs, _, hl, hm, hmm, hx, hr⟩
  · obtain rfl := (List.cons.inj hcs).1
    exact ⟨noSl, [], rfl, rfl, Cs.nil_ W, by simp, by simp, fun _ => by simp⟩
  · obtain rfl := (List.cons.inj hcs).1
    have hnm : len ≤ m := by rw [hmm]; simp; exact hl
    obtain ⟨l, hll, hls⟩ := choose_listG (fun i (x : Cl) => At3 W (a.add (i * 3)) x ∧ ClWf x) len (by
      intro i hi
      obtain ⟨cs', h1, h2⟩ := hr i (by omega)
      rw [cof_cl] at h1
      obtain ⟨_, hlen, hcell⟩ := World.cells?_some h1
      match cs', hlen with
      | [v0, v1, v2], _ =>
        obtain ⟨c, rfl, rfl, rfl, hw⟩ := cl_cells h2
        have e0 := hcell 0 (by omega)
        have e1 := hcell 1 (by omega)
        have e2 := hcell 2 (by omega)
        exact ⟨c, ⟨by simpa [add_add] using e0, by simpa using e1, by simpa using e2⟩, hw⟩)
    subst hll
    refine ⟨⟨some a, l.length, cap⟩, l, rfl, rfl, ⟨some a, cap, rfl, hl, (fun h => by cases h), fun b hb j hj => ?_⟩, by unfold maxLen at hm; omega, fun x hx => ?_, fun hz => ?_⟩
    · cases hb
      exact (hls j hj).1
    · obtain ⟨j, hj, rfl⟩ := List.mem_iff_getElem.1 hx
      exact (hls j hj).2
    · have := hz ((((List.range l.length).map D).length + ((List.range (m - l.length)).map fun j => D (l.length + j)).length) * Try.prog.bytesOf 24) (by rw [hx]; simp [DataW.weights, Try.underlying42])
      rw [bytes_cl] at this
      simp only [List.length_map, List.length_range, reachBytes] at this
      omega
theorem rs_inS {H : Type} {enc : TypeId × Value → H} {W : World} {base : Nat} {v : Value} {d : DataW H} {p : List MemPlace} (hv : Value.okWide Try.prog W .any base 28 v)
    (h : DataW.Trod enc Try.prog W 0 (fun _ => true) true 28 v d p) : ∃ rs, Rs W v rs ∧ rs.length ≤ 9223372036854775807 ∧ (∀ r ∈ rs, r.length ≤ 9223372036854775807 ∧ ∀ c ∈ r, ClWf c) ∧ (∀ k, v.ownBlock = some k → k < W.heap.size) ∧ ((∀ n ∈ d.weights Try.prog 28, n ≤ reachBytes) → ∀ r ∈ rs, r.length ≤ 4398046511103) := by
  have hT := Try.underlying28
  have hlt : ∀ k, v.ownBlock = some k → k < W.heap.size := by
    rcases slice_in hT hv with rfl | ⟨b, o, n, c, rfl, _, hb⟩
    · intro k hk; cases hk
    · intro k hk
      obtain rfl : b = k := by simpa [Value.ownBlock] using hk
      exact hb
  obtain ⟨A, n, c, rfl⟩ := okWide_slice hT hv
  obtain ⟨fuel, hf⟩ := h
  rcases Go.Deep.open_slice hT hf with ⟨hcs, _⟩ | ⟨a, len, cap, m, k, D, Pl, hcs, _, hl, hm, hmm, hx, hr⟩
  · simp [Value.cells] at hcs
    obtain ⟨rfl, rfl, rfl⟩ := hcs
    exact ⟨[], Rs.nil_ W, by simp, by simp, hlt, fun _ => by simp⟩
  · simp [Value.cells] at hcs
    obtain ⟨rfl, rfl, rfl⟩ := hcs
    have hnm : n ≤ m := by rw [hmm]; simp; exact hl
    obtain ⟨l, hll, hls⟩ := choose_listG (fun i (x : Sl × List Cl) => W.cell? (a.add i) = some (slV x.1) ∧ Cs W (slV x.1) x.2 ∧ x.2.length ≤ 9223372036854775807 ∧ (∀ c ∈ x.2, ClWf c) ∧ ((∀ n ∈ d.weights Try.prog 28, n ≤ reachBytes) → x.2.length ≤ 4398046511103)) n (by
      intro i hi
      obtain ⟨cs', h1, h2⟩ := hr i (by omega)
      rw [cof_row] at h1
      obtain ⟨_, hlen, hcell⟩ := World.cells?_some h1
      match cs', hlen with
      | [v0], _ =>
        obtain ⟨s, l, rfl, _, hc, h3, h4, h5⟩ := cs_trod h2
        have e0 := hcell 0 (by omega)
        exact ⟨(s, l), by simpa [add_add] using e0, hc, h3, h4, fun hz => h5 fun q hq => hz q (by rw [(Prod.mk.inj hx).1]; exact weights_elem Try.underlying28 (List.mem_map.2 ⟨i, List.mem_range.2 hi, rfl⟩) hq)⟩)
    subst hll
    refine ⟨l.map Prod.snd, ⟨l.map Prod.fst, by simp, ⟨some a, c, by simp, by simpa using hl, (fun h => by cases h), fun b hb j hj => ?_⟩, fun i a b => ?_⟩, by unfold maxLen at hm; simp; omega, fun x hx => ?_, hlt, fun hz x hx => ?_⟩
    · cases hb
      have hj' : j < l.length := by simpa using hj
      simpa using (hls j hj').1
    · have hj' : i < l.length := by simpa using a
      simpa using (hls i hj').2.1
    · obtain ⟨y, hy, rfl⟩ := List.mem_map.1 hx
      obtain ⟨j, hj, rfl⟩ := List.mem_iff_getElem.1 hy
      exact ⟨(hls j hj).2.2.1, (hls j hj).2.2.2.1⟩
    · obtain ⟨y, hy, rfl⟩ := List.mem_map.1 hx
      obtain ⟨j, hj, rfl⟩ := List.mem_iff_getElem.1 hy
      exact (hls j hj).2.2.2.2 hz
theorem rs_in {H : Type} {enc : TypeId × Value → H} {W : World} {base : Nat} {v : Value} {d : DataW H} {p : List MemPlace} (hv : Value.okWide Try.prog W .any base 28 v)
    (h : DataW.Trod enc Try.prog W 0 (fun _ => true) true 28 v d p) : ∃ rs, Rs W v rs ∧ rs.length ≤ 9223372036854775807 ∧ (∀ r ∈ rs, r.length ≤ 9223372036854775807 ∧ ∀ c ∈ r, ClWf c) ∧ ∀ k, v.ownBlock = some k → k < W.heap.size := by
  obtain ⟨rs, h1, h2, h3, h4, _⟩ := rs_inS hv h
  exact ⟨rs, h1, h2, h3, h4⟩
end Go.Proofs.Ytnbhgkolfapblaa
