/-
  Joined: Layer 13: what a footer says, the program's reading of it. · Layer 2: the walks of crc.shift, crc.More, crc.Of, firkinref02.More, firkinref02.Of. · Layer 2: the walks of crc.Of, of the law's example, and of the law CrcOf. · Layer 3: the walks of frame.sum, frame.Put, firkinref03.Put, frame.length, firkinlaw03.num. · Layer 3: the walks of frame.length, frame.first, frame.Get. · Layer 13: a footer read, the program's. · Append of bytes onto bytes of the call's own: the row stays in its block, or moves to a new one (so two rows that grow stay apart). · Layer 13: chunks as values; rows as a segment, the program's.
-/
import Derived.Deep.RegionHeld3
import Derived.StillTail
import Derived.Test.YtheefloegbkflaaGreatDoorZ8
import Derived.Test.YtheefloegbkflaaGreatDoorZ6
import Derived.Laws.BitsAllLaws
import Derived.LoopTactic
import Derived.IntWalk
import Derived.Deep.DeepCutAuto
import Derived.Deep.QuietTactic
import Derived.BigQuiet
import Derived.Lib.SlBytesConst
import Derived.Test.YtheefloegbkflaaGreatDoorZ4
import Derived.Deep.RegionWith
import Derived.Test.YtheefloegbkflaaGreatDoorZ1
import Derived.ArgAppend
import Derived.Deep.DeepAppendRoom
import Derived.Test.YtheefloegbkflaaGreatDoorZ7

namespace Go.Proofs.YtheefloegbkflaaGreatDoor
set_option linter.unusedVariables false
set_option linter.unusedSimpArgs false
set_option maxRecDepth 100000
open Go.RowKit

set_option maxHeartbeats 8000000 in
theorem stake_any (g : Nat) (says : List UInt8) (bad : Bool) (v : Value) (cols : List Co) (w : World) (h : Src w g says bad) (hv : Ks w v cols) (hne : ∀ q, v.ownBlock = some q → q ≠ g) (hl : cols.length ≤ 6) :
    Calls Tryz.prog 42 #[ptr g, v] w fun e w' => ∃ u l0 b0, ((mostV says 200 = 0 ∧ l0 = [] ∧ b0 = true) ∨ (mostV says 200 ≠ 0 ∧ l0 = mostR says 200 ∧ b0 = mostB says 200)) ∧
      e = .returned (.tuple #[.agg #[.int .i64 (mostV says 200 : Nat), u], .int .i64 ((rdSays (mostV says 200) (cols.map Co.ty) 0 l0 b0).2.1 : Nat)]) ∧
      Ho w' w.heap.size u (rdSays (mostV says 200) (cols.map Co.ty) 0 l0 b0).1 ∧ Src w' g (rdSays (mostV says 200) (cols.map Co.ty) 0 l0 b0).2.2.1 (rdSays (mostV says 200) (cols.map Co.ty) 0 l0 b0).2.2.2 ∧ Fr (One g) w w' := by
  obtain ⟨A, c, rfl⟩ := hv.shape
  have HV := Lib.hid hv
  have HNe := Lib.hid hne
  have hg := h.1.lt
  have hB4 : FtB (w.alloc (.cells #[.int .i64 0, .slice none 0 0] 40)) w.heap.size 0 (.slice none 0 0) := Blk.new _ _ _
  have f0 := (Fr.refl (One g) w).alloc (.cells #[.int .i64 0, .slice none 0 0] 40)
  have hs0 := h.fr ((Fr.refl Non w).alloc (.cells #[.int .i64 0, .slice none 0 0] 40)) (fun e => e)
  have hz : (w.alloc (.cells #[.int .i64 0, .slice none 0 0] 40)).heap.size = w.heap.size + 1 := by simp
  have h0 := below_any g says bad 201 _ hs0 (by omega)
  rw [show (201 : Int) - 1 = 200 by rfl] at h0
  have hm := mostK_le says (show (0 : Int) ≤ 200 by omega)
  have hgt := hB4.lt
  clear h hv hne hs0
  generalize mostV says 200 = R at *
  generalize mostR says 200 = l1 at *
  generalize mostB says 200 = b1 at *
  go_enter Tryz.func42, Tryz.ntmps42
  go_wp2_with fail
  generalize w.alloc (.cells #[.int .i64 0, .slice none 0 0] 40) = W0 at *
  refine h0.mono ?_
  rintro e w1 ⟨rfl, s1, f1⟩
  clear h0
  have hwg : w.heap.size ≠ g := by omega
  have hB41 := hB4.fr f1 (fun e => hwg e)
  have F1 := f0.trans f1
  have fa := (Fr.refl Non w1).alloc (.cells #[.int .i64 (R : Int), .slice none 0 0] 40)
  have hB6 : FtB (w1.alloc (.cells #[.int .i64 (R : Int), .slice none 0 0] 40)) w1.heap.size (R : Int) (.slice none 0 0) := Blk.new _ _ _
  have hB42 := hB41.fr fa (fun e => e)
  have s2 := s1.fr fa (fun e => e)
  have F2 := F1.then fa
  have hw1 := F1.size
  have hgt1 := hB41.lt
  have hg1 := s1.1.lt
  have hc60 : (w1.alloc (.cells #[.int .i64 (R : Int), .slice none 0 0] 40)).cell? ⟨w1.heap.size, 0, none⟩ = some (.int .i64 R) := hB6.cell 0
  clear hB4 f0 f1 hB41 F1 fa s1 hz hgt
  have hg6 : w1.heap.size ≠ w.heap.size := by omega
  have hg6' : w1.heap.size ≠ g := by omega
  clear hgt1
  by_cases hR : R = 0
  · have hRb : ((R : Int) == 0) = true := by rw [hR]; rfl
    have HF := Lib.hid (fail_any g l1 b1 _ s2)
    have hR0 := Lib.hid hR
    clear s2 hR
    go_wp2_with fail
    refine HF.out.mono ?_
    rintro e w3 ⟨rfl, s3, f3⟩
    have hB43 := hB42.fr f3 (fun e => hwg e)
    have hB63 := hB6.fr f3 (fun e => hg6' e)
    have F3 := F2.trans f3
    clear HF hB42 hB6 F2 f3 hc60 hRb
    have HE : Hid (rdSays (R : Int) (cols.map Co.ty) 0 [] true = rdSays (R : Int) (cols.map Co.ty) 0 [] true) := Lib.hid rfl
    generalize hX : rdSays (R : Int) (cols.map Co.ty) 0 [] true = X at *
    have HX := Lib.hid hX
    clear HE hX
    have hlm : (cols.map Co.ty).length = cols.length := by simp
    have HM : Hid (∀ k (h : k < cols.length), (cols.map Co.ty)[k]'(by rw [hlm]; exact h) = cols[k].ty) := Lib.hid (fun k h => by simp)
    go_wp2
    generalize w1.heap.size = g6 at *
    go_loopw [7, 22] (fun x i wr => ∃ (k at_ : Nat) (D : List Ch) (q : List UInt8) (bad' : Bool) (u : Value), k ≤ cols.length ∧ i = .int .i64 k ∧ x = .int .i64 at_ ∧ Hid (ToS R (cols.map Co.ty) [] true k D at_ q bad') ∧ Src wr g q bad' ∧ FtB wr w.heap.size 0 (.slice none 0 0) ∧ FtB wr g6 R u ∧ Ho wr w.heap.size u D ∧ Fr (One g) w wr) (fun _ i _ => cols.length - (intOf i).toNat)
    case atStart => exact ⟨0, 0, [], [], true, .slice none 0 0, Nat.zero_le _, rfl, rfl, Lib.hid (toS_zero _ _ _ _), s3, hB43, hB63, no_nil _ _, F3⟩
    case round =>
      clear s3 hB43 hB63 F3
      obtain ⟨k, at_, D, q, bad', u, hk, rfl, rfl, HT, hs, hB4, hB6, hO, hF⟩ := hrel
      have hD6 : D.length ≤ 6 := by have := HT.out.len; omega
      have hbig := HT.out.big
      obtain ⟨Au, cu, rfl⟩ := (hO.ns fd_ch).shape
      have hg6lt := hB6.lt
      have hw0lt := hB4.lt
      have hglt := hs.1.lt
      by_cases hlt : k < cols.length
      · have HVr := HV.out.fr hF (fun b hb e => HNe.out b hb e)
        obtain ⟨a, rfl, _⟩ := HVr.at_ k cols[k] (List.getElem?_eq_getElem hlt)
        obtain ⟨c0, c1, c2⟩ := ks_lit HVr k cols[k] (List.getElem?_eq_getElem hlt)
        have HT2 := Lib.hid (toS_step HT.out (by rw [hlm]; exact hlt))
        rw [HM.out k hlt] at HT2
        have hm2 := mostK_le q (show (0 : Int) ≤ 1048576 by omega)
        have T1 := Lib.hid (fun W (s : Src W g q bad') => below_any g q bad' 1048577 W s (by omega))
        rw [show (1048577 : Int) - 1 = 1048576 by rfl] at T1
        have T2 := Lib.hid (fun W s => ztake_any g (mostR q 1048576) (mostB q 1048576) cols[k].ty W s)
        have HSay : Hid (rdSay (R : Int) cols[k].ty q = if (tkZ cols[k].ty (mostR q 1048576)).1.rows = (R : Int) then (tkZ cols[k].ty (mostR q 1048576)).2 else ([], true)) := Lib.hid rfl
        generalize rdSay (R : Int) cols[k].ty q = sy at *
        generalize tkZ cols[k].ty (mostR q 1048576) = tz at *
        generalize mostV q 1048576 = m at *
        generalize mostR q 1048576 = q1 at *
        generalize mostB q 1048576 = bq at *
        generalize cols[k] = cc at *
        obtain ⟨nm, ty, nl⟩ := cc
        obtain ⟨z, q2, bad2⟩ := tz
        dsimp only at c0 c1 c2 HT2 T2 HSay
        unfold znV znC at T2
        have fa := (Fr.refl Non wr).alloc (.cells #[.string ⟨nm.toArray⟩, .int .i64 ty, .bool nl] 69)
        have b3 := co_new wr ⟨nm, ty, nl⟩
        have hs3 := hs.fr fa (fun e => e)
        have hB43 := hB4.fr fa (fun e => e)
        have hB63 := hB6.fr fa (fun e => e)
        have hO3 := hO.non fa
        have hF3 := hF.then fa
        have hz3 : (wr.alloc (.cells #[.string ⟨nm.toArray⟩, .int .i64 ty, .bool nl] 69)).heap.size = wr.heap.size + 1 := by simp
        replace T1 := Lib.hid (T1.out _ hs3)
        replace b3 : Hid (CoB _ _ _) := Lib.hid b3
        replace hB43 : Hid (FtB _ _ _ _) := Lib.hid hB43
        replace hB63 : Hid (FtB _ _ _ _) := Lib.hid hB63
        replace hO3 := Lib.hid hO3
        replace hF3 := Lib.hid hF3
        have hwr := hF.size
        clear hs hB4 hB6 hO hF fa HVr HT hs3
        go_wp2_with fail
        refine T1.out.mono ?_
        rintro e w4 ⟨rfl, s4, f4⟩
        generalize hgc : wr.heap.size = gc at *
        have hcg : gc ≠ g := by omega
        have b4 : CoB w4 gc ⟨nm, ty, nl⟩ := b3.out.fr f4 (fun e => hcg e)
        have hB44 := hB43.out.fr f4 (fun e => hwg e)
        have hB64 := hB63.out.fr f4 (fun e => hg6' e)
        have hO4 := hO3.out.fr f4 (fun b hb e => by have h1 : b = g := e; have := (hO3.out.lt b hb).1; omega)
        have hF4 := hF3.out.trans f4
        have d1 : w4.cell? ⟨gc, 1, none⟩ = some (.int .i64 ty) := b4.cell 1
        replace T2 := Lib.hid (T2.out _ s4)
        have hF4' := Lib.hid hF4
        have hsz4 := hF4.size
        have hgc4 := b4.lt
        have hB44 : Hid (FtB _ _ _ _) := Lib.hid hB44
        have hB64 : Hid (FtB _ _ _ _) := Lib.hid hB64
        have hO4 := Lib.hid hO4
        clear T1 b3 hB43 hB63 hO3 hF3 b4 hF4 f4 s4 c0 c1 c2
        go_wp2_with fail
        refine T2.out.mono ?_
        rintro e w5 ⟨rfl, s5, f5⟩
        have hB45 := hB44.out.fr f5 (fun e => hwg e)
        have hB65 := hB64.out.fr f5 (fun e => hg6' e)
        have hO5 := hO4.out.fr f5 (fun b hb e => by have h1 : b = g := e; have := (hO4.out.lt b hb).1; omega)
        have hF5 := hF4'.out.trans f5
        have hf5s := f5.size
        have ga := (Fr.refl Non w5).alloc (.cells (znC z) 56)
        have zb : ZnB (w5.alloc (.cells (znC z) 56)) w5.heap.size z := Blk.new _ _ _
        have s6 := s5.fr ga (fun e => e)
        have hB46 := hB45.fr ga (fun e => e)
        have hB66 := hB65.fr ga (fun e => e)
        have hO6 := hO5.non ga
        have hF6 := hF5.then ga
        have hgz5 : g6 < w5.heap.size := by omega
        unfold znC at zb ga s6 hB46 hB66 hO6 hF6
        have z0 : (w5.alloc (.cells #[.int .i64 z.rows, .int .i64 z.nulls, .bool z.low.null, .int .i64 z.low.num, .string ⟨z.low.txt.toArray⟩, .bool z.high.null, .int .i64 z.high.num, .string ⟨z.high.txt.toArray⟩] 56)).cell? ⟨w5.heap.size, 0, none⟩ = some (.int .i64 z.rows) := zb.cell 0
        have z60 : (w5.alloc (.cells #[.int .i64 z.rows, .int .i64 z.nulls, .bool z.low.null, .int .i64 z.low.num, .string ⟨z.low.txt.toArray⟩, .bool z.high.null, .int .i64 z.high.num, .string ⟨z.high.txt.toArray⟩] 56)).cell? ⟨g6, 0, none⟩ = some (.int .i64 R) := hB66.cell 0
        clear T2 hB44 hB64 hO4 hF4' hB45 hB65 hO5 hF5 ga s5 d1 hgc f5
        have hzg : w5.heap.size ≠ g := by omega
        have hmm : IntKind.i64.wrap ((at_ : Int) + m) = (at_ + m : Nat) := by rw [IntWalk.i64_in _ ⟨by omega, by omega⟩]; push_cast; rfl
        by_cases hzr : z.rows = (R : Int)
        · have hzb : (z.rows != (R : Int)) = false := by rw [hzr]; simp
          have HSy2 : Hid (sy = (q2, bad2)) := Lib.hid (by rw [HSay.out, if_pos hzr])
          clear hzr
          have hsW := s6
          have y0 : (w5.alloc (.cells #[.int .i64 z.rows, .int .i64 z.nulls, .bool z.low.null, .int .i64 z.low.num, .string ⟨z.low.txt.toArray⟩, .bool z.high.null, .int .i64 z.high.num, .string ⟨z.high.txt.toArray⟩] 56)).cell? ⟨w5.heap.size, 0, none⟩ = some (.int .i64 z.rows) := zb.cell 0
          have y1 : (w5.alloc (.cells #[.int .i64 z.rows, .int .i64 z.nulls, .bool z.low.null, .int .i64 z.low.num, .string ⟨z.low.txt.toArray⟩, .bool z.high.null, .int .i64 z.high.num, .string ⟨z.high.txt.toArray⟩] 56)).cell? ⟨w5.heap.size, 1, none⟩ = some (.int .i64 z.nulls) := zb.cell 1
          have y2 : (w5.alloc (.cells #[.int .i64 z.rows, .int .i64 z.nulls, .bool z.low.null, .int .i64 z.low.num, .string ⟨z.low.txt.toArray⟩, .bool z.high.null, .int .i64 z.high.num, .string ⟨z.high.txt.toArray⟩] 56)).cell? ⟨w5.heap.size, 2, none⟩ = some (.bool z.low.null) := zb.cell 2
          have y3 : (w5.alloc (.cells #[.int .i64 z.rows, .int .i64 z.nulls, .bool z.low.null, .int .i64 z.low.num, .string ⟨z.low.txt.toArray⟩, .bool z.high.null, .int .i64 z.high.num, .string ⟨z.high.txt.toArray⟩] 56)).cell? ⟨w5.heap.size, 3, none⟩ = some (.int .i64 z.low.num) := zb.cell 3
          have y4 : (w5.alloc (.cells #[.int .i64 z.rows, .int .i64 z.nulls, .bool z.low.null, .int .i64 z.low.num, .string ⟨z.low.txt.toArray⟩, .bool z.high.null, .int .i64 z.high.num, .string ⟨z.high.txt.toArray⟩] 56)).cell? ⟨w5.heap.size, 4, none⟩ = some (.string ⟨z.low.txt.toArray⟩) := zb.cell 4
          have y5 : (w5.alloc (.cells #[.int .i64 z.rows, .int .i64 z.nulls, .bool z.low.null, .int .i64 z.low.num, .string ⟨z.low.txt.toArray⟩, .bool z.high.null, .int .i64 z.high.num, .string ⟨z.high.txt.toArray⟩] 56)).cell? ⟨w5.heap.size, 5, none⟩ = some (.bool z.high.null) := zb.cell 5
          have y6 : (w5.alloc (.cells #[.int .i64 z.rows, .int .i64 z.nulls, .bool z.low.null, .int .i64 z.low.num, .string ⟨z.low.txt.toArray⟩, .bool z.high.null, .int .i64 z.high.num, .string ⟨z.high.txt.toArray⟩] 56)).cell? ⟨w5.heap.size, 6, none⟩ = some (.int .i64 z.high.num) := zb.cell 6
          have y7 : (w5.alloc (.cells #[.int .i64 z.rows, .int .i64 z.nulls, .bool z.low.null, .int .i64 z.low.num, .string ⟨z.low.txt.toArray⟩, .bool z.high.null, .int .i64 z.high.num, .string ⟨z.high.txt.toArray⟩] 56)).cell? ⟨w5.heap.size, 7, none⟩ = some (.string ⟨z.high.txt.toArray⟩) := zb.cell 7
          have k1 : (w5.alloc (.cells #[.int .i64 z.rows, .int .i64 z.nulls, .bool z.low.null, .int .i64 z.low.num, .string ⟨z.low.txt.toArray⟩, .bool z.high.null, .int .i64 z.high.num, .string ⟨z.high.txt.toArray⟩] 56)).cell? ⟨g6, 1, none⟩ = some (.slice Au D.length cu) := hB66.cell 1
          have hsz := hF6.size
          have HB4 : Hid (FtB _ _ _ _) := Lib.hid hB46
          have HB6 : Hid (FtB _ _ _ _) := Lib.hid hB66
          have HO := Lib.hid hO6
          have HF := Lib.hid hF6
          have HS := Lib.hid hsW
          clear hB46 hB66 hO6 hF6 hsW zb
          go_wp2_with (at_builtin; refine wpList_pushN fd_ch eln_ch rfl (.tmp 40) (.tmp 45) rfl w.heap.size _ D rfl HO.out ⟨at_, m, z⟩ #[.int .i64 (at_ : Int), .int .i64 (m : Int), .int .i64 z.rows, .int .i64 z.nulls, .bool z.low.null, .int .i64 z.low.num, .string ⟨z.low.txt.toArray⟩, .bool z.high.null, .int .i64 z.high.num, .string ⟨z.high.txt.toArray⟩] rfl _ rfl (by simp) (by omega) hsz ?_; intro v8 w8 hO8 f8; obtain ⟨A8, n8, c8, rfl⟩ : ∃ A n c, v8 = Value.slice A n c := (by obtain ⟨A, c, h⟩ := (hO8.ns fd_ch).shape; exact ⟨A, _, c, h⟩); have hB68 : FtB w8 g6 R (.slice Au D.length cu) := HB6.out.fr f8 (fun e => no_other HO.out HB6.out ch_ne_foot _ e rfl); have x1 : w8.cell? ⟨g6, 1, none⟩ = some (.slice Au D.length cu) := hB68.cell 1; have x1f := hB68.frozen 1)
          have f8t := f8
          have hB48 := HB4.out.fr f8 (fun e => no_other HO.out HB4.out ch_ne_foot _ e rfl)
          have hS8 := HS.out.fr f8 (fun e => no_other HO.out HS.out.1 ch_ne_src _ e rfl)
          have hF8 := HF.out.fresh f8 (fun b hb => (HO.out.lt b hb).1)
          have fs := (Fr.refl (One g6) w8).set1 1 (.slice A8 n8 c8)
          have hB69 : FtB (w8.setCell ⟨g6, 1, none⟩ (.slice A8 n8 c8)) g6 R (.slice A8 n8 c8) := hB68.set 1 _
          have hO9 := hO8.fr fs (fun b hb e => no_other hO8 hB68 ch_ne_foot b hb e)
          have hB49 := hB48.fr fs (fun e => hg6 e.symm)
          have hS9 := hS8.fr fs (fun e => hg6' e.symm)
          have hF9 := hF8.fresh fs (fun b e => by have h1 : b = g6 := e; omega)
          rw [HSy2.out] at HT2
          go_roundw
          case rel => exact ⟨k + 1, at_ + m, _, _, _, .slice A8 n8 c8, by omega, by go_num, (by first | rfl | (push_cast; rfl) | (rw [← hmm])), HT2, hS9, hB49, hB69, hO9, hF9⟩
          case measure => simp [intOf]; omega
        · have hzb : (z.rows != (R : Int)) = true := by rw [bne_iff_ne]; exact hzr
          have HSy2 : Hid (sy = ([], true)) := Lib.hid (by rw [HSay.out, if_neg hzr])
          clear hzr
          have HFl := Lib.hid (fail_any g q2 bad2 _ s6)
          have zb' : Hid (Blk _ _ _ _) := Lib.hid zb
          have hB46' : Hid (FtB _ _ _ _) := Lib.hid hB46
          have hB66' : Hid (FtB _ _ _ _) := Lib.hid hB66
          have hO6' := Lib.hid hO6
          have hF6' := Lib.hid hF6
          clear s6 zb hB46 hB66 hO6 hF6
          go_wp2_with fail
          refine HFl.out.mono ?_
          rintro e w7 ⟨rfl, hsW, f7⟩
          have zb := zb'.out.fr f7 (fun e => hzg e)
          have hB46 := hB46'.out.fr f7 (fun e => hwg e)
          have hB66 := hB66'.out.fr f7 (fun e => hg6' e)
          have hO6 := hO6'.out.fr f7 (fun b hb e => by have h1 : b = g := e; have := (hO6'.out.lt b hb).1; omega)
          have hF6 := hF6'.out.trans f7
          clear HFl zb' hB46' hB66' hO6' hF6' f7 z0 z60
          have y0 : w7.cell? ⟨w5.heap.size, 0, none⟩ = some (.int .i64 z.rows) := zb.cell 0
          have y1 : w7.cell? ⟨w5.heap.size, 1, none⟩ = some (.int .i64 z.nulls) := zb.cell 1
          have y2 : w7.cell? ⟨w5.heap.size, 2, none⟩ = some (.bool z.low.null) := zb.cell 2
          have y3 : w7.cell? ⟨w5.heap.size, 3, none⟩ = some (.int .i64 z.low.num) := zb.cell 3
          have y4 : w7.cell? ⟨w5.heap.size, 4, none⟩ = some (.string ⟨z.low.txt.toArray⟩) := zb.cell 4
          have y5 : w7.cell? ⟨w5.heap.size, 5, none⟩ = some (.bool z.high.null) := zb.cell 5
          have y6 : w7.cell? ⟨w5.heap.size, 6, none⟩ = some (.int .i64 z.high.num) := zb.cell 6
          have y7 : w7.cell? ⟨w5.heap.size, 7, none⟩ = some (.string ⟨z.high.txt.toArray⟩) := zb.cell 7
          have k1 : w7.cell? ⟨g6, 1, none⟩ = some (.slice Au D.length cu) := hB66.cell 1
          have hsz := hF6.size
          have HB4 : Hid (FtB _ _ _ _) := Lib.hid hB46
          have HB6 : Hid (FtB _ _ _ _) := Lib.hid hB66
          have HO := Lib.hid hO6
          have HF := Lib.hid hF6
          have HS := Lib.hid hsW
          clear hB46 hB66 hO6 hF6 hsW zb
          go_wp2_with (at_builtin; refine wpList_pushN fd_ch eln_ch rfl (.tmp 40) (.tmp 45) rfl w.heap.size _ D rfl HO.out ⟨at_, m, z⟩ #[.int .i64 (at_ : Int), .int .i64 (m : Int), .int .i64 z.rows, .int .i64 z.nulls, .bool z.low.null, .int .i64 z.low.num, .string ⟨z.low.txt.toArray⟩, .bool z.high.null, .int .i64 z.high.num, .string ⟨z.high.txt.toArray⟩] rfl _ rfl (by simp) (by omega) hsz ?_; intro v8 w8 hO8 f8; obtain ⟨A8, n8, c8, rfl⟩ : ∃ A n c, v8 = Value.slice A n c := (by obtain ⟨A, c, h⟩ := (hO8.ns fd_ch).shape; exact ⟨A, _, c, h⟩); have hB68 : FtB w8 g6 R (.slice Au D.length cu) := HB6.out.fr f8 (fun e => no_other HO.out HB6.out ch_ne_foot _ e rfl); have x1 : w8.cell? ⟨g6, 1, none⟩ = some (.slice Au D.length cu) := hB68.cell 1; have x1f := hB68.frozen 1)
          have f8t := f8
          have hB48 := HB4.out.fr f8 (fun e => no_other HO.out HB4.out ch_ne_foot _ e rfl)
          have hS8 := HS.out.fr f8 (fun e => no_other HO.out HS.out.1 ch_ne_src _ e rfl)
          have hF8 := HF.out.fresh f8 (fun b hb => (HO.out.lt b hb).1)
          have fs := (Fr.refl (One g6) w8).set1 1 (.slice A8 n8 c8)
          have hB69 : FtB (w8.setCell ⟨g6, 1, none⟩ (.slice A8 n8 c8)) g6 R (.slice A8 n8 c8) := hB68.set 1 _
          have hO9 := hO8.fr fs (fun b hb e => no_other hO8 hB68 ch_ne_foot b hb e)
          have hB49 := hB48.fr fs (fun e => hg6 e.symm)
          have hS9 := hS8.fr fs (fun e => hg6' e.symm)
          have hF9 := hF8.fresh fs (fun b e => by have h1 : b = g6 := e; omega)
          rw [HSy2.out] at HT2
          go_roundw
          case rel => exact ⟨k + 1, at_ + m, _, _, _, .slice A8 n8 c8, by omega, by go_num, (by first | rfl | (push_cast; rfl) | (rw [← hmm])), HT2, hS9, hB49, hB69, hO9, hF9⟩
          case measure => simp [intOf]; omega
      · have hE := toS_end HT.out (show (cols.map Co.ty).length ≤ k by rw [hlm]; omega)
        rw [HX.out] at hE
        have HE2 := Lib.hid hE
        clear hE HT
        have HB4 : Hid (FtB _ _ _ _) := Lib.hid hB4
        have HO := Lib.hid hO
        have HF := Lib.hid hF
        have HS := Lib.hid hs
        have k0 : wr.cell? ⟨g6, 0, none⟩ = some (.int .i64 R) := hB6.cell 0
        have k1 : wr.cell? ⟨g6, 1, none⟩ = some (.slice Au D.length cu) := hB6.cell 1
        have e0 : wr.cell? ⟨w.heap.size, 0, none⟩ = some (.int .i64 0) := hB4.cell 0
        have e1 : wr.cell? ⟨w.heap.size, 1, none⟩ = some (.slice none 0 0) := hB4.cell 1
        have fz0 := hB4.frozen 0
        have fz1 := hB4.frozen 1
        clear hB4 hB6 hO hF hs
        go_wp2
        (try simp only [Exit.inBlock, Exit.then])
        have hBe : Blk ((wr.setCell ⟨w.heap.size, 0, none⟩ (.int .i64 R)).setCell ⟨w.heap.size, 1, none⟩ (.slice Au D.length cu)) w.heap.size 40 #[.int .i64 R, .slice Au D.length cu] := (HB4.out.set 0 _).set 1 _
        have fs := ((Fr.refl (One w.heap.size) wr).set1 0 (.int .i64 (R : Int))).set1 1 (.slice Au D.length cu)
        refine bodyPost_ret (v := .tuple #[.agg #[.int .i64 R, .slice Au D.length cu], .int .i64 at_]) (ret_cell (p := 4) (u := 5) (ty := 40) rfl _ _ w.heap.size _ _ rfl hBe (load_foot hBe rfl)) rfl ?_
        refine ⟨.slice Au D.length cu, [], true, .inl ⟨hR0.out, rfl, rfl⟩, ?_, ?_, ?_, HF.out.fresh fs (fun b e => Nat.le_of_eq (show w.heap.size = b from e.symm))⟩
        · rw [HX.out, HE2.out]
        · rw [HX.out, HE2.out]; exact HO.out.fr fs (fun b hb e => no_other HO.out HB4.out ch_ne_foot b hb e)
        · rw [HX.out, HE2.out]; exact HS.out.fr fs (fun e => hwg e.symm)
  · have hRb : ((R : Int) == 0) = false := by rw [beq_eq_false_iff_ne]; omega
    have hR0 := Lib.hid hR
    have hB43 := hB42
    have hB63 := hB6
    have s3 := s2
    have F3 := F2
    clear hB42 hB6 F2 s2 hR
    have HE : Hid (rdSays (R : Int) (cols.map Co.ty) 0 l1 b1 = rdSays (R : Int) (cols.map Co.ty) 0 l1 b1) := Lib.hid rfl
    generalize hX : rdSays (R : Int) (cols.map Co.ty) 0 l1 b1 = X at *
    have HX := Lib.hid hX
    clear HE hX
    have hlm : (cols.map Co.ty).length = cols.length := by simp
    have HM : Hid (∀ k (h : k < cols.length), (cols.map Co.ty)[k]'(by rw [hlm]; exact h) = cols[k].ty) := Lib.hid (fun k h => by simp)
    go_wp2
    generalize w1.heap.size = g6 at *
    go_loopw [7, 22] (fun x i wr => ∃ (k at_ : Nat) (D : List Ch) (q : List UInt8) (bad' : Bool) (u : Value), k ≤ cols.length ∧ i = .int .i64 k ∧ x = .int .i64 at_ ∧ Hid (ToS R (cols.map Co.ty) l1 b1 k D at_ q bad') ∧ Src wr g q bad' ∧ FtB wr w.heap.size 0 (.slice none 0 0) ∧ FtB wr g6 R u ∧ Ho wr w.heap.size u D ∧ Fr (One g) w wr) (fun _ i _ => cols.length - (intOf i).toNat)
    case atStart => exact ⟨0, 0, [], l1, b1, .slice none 0 0, Nat.zero_le _, rfl, rfl, Lib.hid (toS_zero _ _ _ _), s3, hB43, hB63, no_nil _ _, F3⟩
    case round =>
      clear s3 hB43 hB63 F3
      obtain ⟨k, at_, D, q, bad', u, hk, rfl, rfl, HT, hs, hB4, hB6, hO, hF⟩ := hrel
      have hD6 : D.length ≤ 6 := by have := HT.out.len; omega
      have hbig := HT.out.big
      obtain ⟨Au, cu, rfl⟩ := (hO.ns fd_ch).shape
      have hg6lt := hB6.lt
      have hw0lt := hB4.lt
      have hglt := hs.1.lt
      by_cases hlt : k < cols.length
      · have HVr := HV.out.fr hF (fun b hb e => HNe.out b hb e)
        obtain ⟨a, rfl, _⟩ := HVr.at_ k cols[k] (List.getElem?_eq_getElem hlt)
        obtain ⟨c0, c1, c2⟩ := ks_lit HVr k cols[k] (List.getElem?_eq_getElem hlt)
        have HT2 := Lib.hid (toS_step HT.out (by rw [hlm]; exact hlt))
        rw [HM.out k hlt] at HT2
        have hm2 := mostK_le q (show (0 : Int) ≤ 1048576 by omega)
        have T1 := Lib.hid (fun W (s : Src W g q bad') => below_any g q bad' 1048577 W s (by omega))
        rw [show (1048577 : Int) - 1 = 1048576 by rfl] at T1
        have T2 := Lib.hid (fun W s => ztake_any g (mostR q 1048576) (mostB q 1048576) cols[k].ty W s)
        have HSay : Hid (rdSay (R : Int) cols[k].ty q = if (tkZ cols[k].ty (mostR q 1048576)).1.rows = (R : Int) then (tkZ cols[k].ty (mostR q 1048576)).2 else ([], true)) := Lib.hid rfl
        generalize rdSay (R : Int) cols[k].ty q = sy at *
        generalize tkZ cols[k].ty (mostR q 1048576) = tz at *
        generalize mostV q 1048576 = m at *
        generalize mostR q 1048576 = q1 at *
        generalize mostB q 1048576 = bq at *
        generalize cols[k] = cc at *
        obtain ⟨nm, ty, nl⟩ := cc
        obtain ⟨z, q2, bad2⟩ := tz
        dsimp only at c0 c1 c2 HT2 T2 HSay
        unfold znV znC at T2
        have fa := (Fr.refl Non wr).alloc (.cells #[.string ⟨nm.toArray⟩, .int .i64 ty, .bool nl] 69)
        have b3 := co_new wr ⟨nm, ty, nl⟩
        have hs3 := hs.fr fa (fun e => e)
        have hB43 := hB4.fr fa (fun e => e)
        have hB63 := hB6.fr fa (fun e => e)
        have hO3 := hO.non fa
        have hF3 := hF.then fa
        have hz3 : (wr.alloc (.cells #[.string ⟨nm.toArray⟩, .int .i64 ty, .bool nl] 69)).heap.size = wr.heap.size + 1 := by simp
        replace T1 := Lib.hid (T1.out _ hs3)
        replace b3 : Hid (CoB _ _ _) := Lib.hid b3
        replace hB43 : Hid (FtB _ _ _ _) := Lib.hid hB43
        replace hB63 : Hid (FtB _ _ _ _) := Lib.hid hB63
        replace hO3 := Lib.hid hO3
        replace hF3 := Lib.hid hF3
        have hwr := hF.size
        clear hs hB4 hB6 hO hF fa HVr HT hs3
        go_wp2_with fail
        refine T1.out.mono ?_
        rintro e w4 ⟨rfl, s4, f4⟩
        generalize hgc : wr.heap.size = gc at *
        have hcg : gc ≠ g := by omega
        have b4 : CoB w4 gc ⟨nm, ty, nl⟩ := b3.out.fr f4 (fun e => hcg e)
        have hB44 := hB43.out.fr f4 (fun e => hwg e)
        have hB64 := hB63.out.fr f4 (fun e => hg6' e)
        have hO4 := hO3.out.fr f4 (fun b hb e => by have h1 : b = g := e; have := (hO3.out.lt b hb).1; omega)
        have hF4 := hF3.out.trans f4
        have d1 : w4.cell? ⟨gc, 1, none⟩ = some (.int .i64 ty) := b4.cell 1
        replace T2 := Lib.hid (T2.out _ s4)
        have hF4' := Lib.hid hF4
        have hsz4 := hF4.size
        have hgc4 := b4.lt
        have hB44 : Hid (FtB _ _ _ _) := Lib.hid hB44
        have hB64 : Hid (FtB _ _ _ _) := Lib.hid hB64
        have hO4 := Lib.hid hO4
        clear T1 b3 hB43 hB63 hO3 hF3 b4 hF4 f4 s4 c0 c1 c2
        go_wp2_with fail
        refine T2.out.mono ?_
        rintro e w5 ⟨rfl, s5, f5⟩
        have hB45 := hB44.out.fr f5 (fun e => hwg e)
        have hB65 := hB64.out.fr f5 (fun e => hg6' e)
        have hO5 := hO4.out.fr f5 (fun b hb e => by have h1 : b = g := e; have := (hO4.out.lt b hb).1; omega)
        have hF5 := hF4'.out.trans f5
        have hf5s := f5.size
        have ga := (Fr.refl Non w5).alloc (.cells (znC z) 56)
        have zb : ZnB (w5.alloc (.cells (znC z) 56)) w5.heap.size z := Blk.new _ _ _
        have s6 := s5.fr ga (fun e => e)
        have hB46 := hB45.fr ga (fun e => e)
        have hB66 := hB65.fr ga (fun e => e)
        have hO6 := hO5.non ga
        have hF6 := hF5.then ga
        have hgz5 : g6 < w5.heap.size := by omega
        unfold znC at zb ga s6 hB46 hB66 hO6 hF6
        have z0 : (w5.alloc (.cells #[.int .i64 z.rows, .int .i64 z.nulls, .bool z.low.null, .int .i64 z.low.num, .string ⟨z.low.txt.toArray⟩, .bool z.high.null, .int .i64 z.high.num, .string ⟨z.high.txt.toArray⟩] 56)).cell? ⟨w5.heap.size, 0, none⟩ = some (.int .i64 z.rows) := zb.cell 0
        have z60 : (w5.alloc (.cells #[.int .i64 z.rows, .int .i64 z.nulls, .bool z.low.null, .int .i64 z.low.num, .string ⟨z.low.txt.toArray⟩, .bool z.high.null, .int .i64 z.high.num, .string ⟨z.high.txt.toArray⟩] 56)).cell? ⟨g6, 0, none⟩ = some (.int .i64 R) := hB66.cell 0
        clear T2 hB44 hB64 hO4 hF4' hB45 hB65 hO5 hF5 ga s5 d1 hgc f5
        have hzg : w5.heap.size ≠ g := by omega
        have hmm : IntKind.i64.wrap ((at_ : Int) + m) = (at_ + m : Nat) := by rw [IntWalk.i64_in _ ⟨by omega, by omega⟩]; push_cast; rfl
        by_cases hzr : z.rows = (R : Int)
        · have hzb : (z.rows != (R : Int)) = false := by rw [hzr]; simp
          have HSy2 : Hid (sy = (q2, bad2)) := Lib.hid (by rw [HSay.out, if_pos hzr])
          clear hzr
          have hsW := s6
          have y0 : (w5.alloc (.cells #[.int .i64 z.rows, .int .i64 z.nulls, .bool z.low.null, .int .i64 z.low.num, .string ⟨z.low.txt.toArray⟩, .bool z.high.null, .int .i64 z.high.num, .string ⟨z.high.txt.toArray⟩] 56)).cell? ⟨w5.heap.size, 0, none⟩ = some (.int .i64 z.rows) := zb.cell 0
          have y1 : (w5.alloc (.cells #[.int .i64 z.rows, .int .i64 z.nulls, .bool z.low.null, .int .i64 z.low.num, .string ⟨z.low.txt.toArray⟩, .bool z.high.null, .int .i64 z.high.num, .string ⟨z.high.txt.toArray⟩] 56)).cell? ⟨w5.heap.size, 1, none⟩ = some (.int .i64 z.nulls) := zb.cell 1
          have y2 : (w5.alloc (.cells #[.int .i64 z.rows, .int .i64 z.nulls, .bool z.low.null, .int .i64 z.low.num, .string ⟨z.low.txt.toArray⟩, .bool z.high.null, .int .i64 z.high.num, .string ⟨z.high.txt.toArray⟩] 56)).cell? ⟨w5.heap.size, 2, none⟩ = some (.bool z.low.null) := zb.cell 2
          have y3 : (w5.alloc (.cells #[.int .i64 z.rows, .int .i64 z.nulls, .bool z.low.null, .int .i64 z.low.num, .string ⟨z.low.txt.toArray⟩, .bool z.high.null, .int .i64 z.high.num, .string ⟨z.high.txt.toArray⟩] 56)).cell? ⟨w5.heap.size, 3, none⟩ = some (.int .i64 z.low.num) := zb.cell 3
          have y4 : (w5.alloc (.cells #[.int .i64 z.rows, .int .i64 z.nulls, .bool z.low.null, .int .i64 z.low.num, .string ⟨z.low.txt.toArray⟩, .bool z.high.null, .int .i64 z.high.num, .string ⟨z.high.txt.toArray⟩] 56)).cell? ⟨w5.heap.size, 4, none⟩ = some (.string ⟨z.low.txt.toArray⟩) := zb.cell 4
          have y5 : (w5.alloc (.cells #[.int .i64 z.rows, .int .i64 z.nulls, .bool z.low.null, .int .i64 z.low.num, .string ⟨z.low.txt.toArray⟩, .bool z.high.null, .int .i64 z.high.num, .string ⟨z.high.txt.toArray⟩] 56)).cell? ⟨w5.heap.size, 5, none⟩ = some (.bool z.high.null) := zb.cell 5
          have y6 : (w5.alloc (.cells #[.int .i64 z.rows, .int .i64 z.nulls, .bool z.low.null, .int .i64 z.low.num, .string ⟨z.low.txt.toArray⟩, .bool z.high.null, .int .i64 z.high.num, .string ⟨z.high.txt.toArray⟩] 56)).cell? ⟨w5.heap.size, 6, none⟩ = some (.int .i64 z.high.num) := zb.cell 6
          have y7 : (w5.alloc (.cells #[.int .i64 z.rows, .int .i64 z.nulls, .bool z.low.null, .int .i64 z.low.num, .string ⟨z.low.txt.toArray⟩, .bool z.high.null, .int .i64 z.high.num, .string ⟨z.high.txt.toArray⟩] 56)).cell? ⟨w5.heap.size, 7, none⟩ = some (.string ⟨z.high.txt.toArray⟩) := zb.cell 7
          have k1 : (w5.alloc (.cells #[.int .i64 z.rows, .int .i64 z.nulls, .bool z.low.null, .int .i64 z.low.num, .string ⟨z.low.txt.toArray⟩, .bool z.high.null, .int .i64 z.high.num, .string ⟨z.high.txt.toArray⟩] 56)).cell? ⟨g6, 1, none⟩ = some (.slice Au D.length cu) := hB66.cell 1
          have hsz := hF6.size
          have HB4 : Hid (FtB _ _ _ _) := Lib.hid hB46
          have HB6 : Hid (FtB _ _ _ _) := Lib.hid hB66
          have HO := Lib.hid hO6
          have HF := Lib.hid hF6
          have HS := Lib.hid hsW
          clear hB46 hB66 hO6 hF6 hsW zb
          go_wp2_with (at_builtin; refine wpList_pushN fd_ch eln_ch rfl (.tmp 40) (.tmp 45) rfl w.heap.size _ D rfl HO.out ⟨at_, m, z⟩ #[.int .i64 (at_ : Int), .int .i64 (m : Int), .int .i64 z.rows, .int .i64 z.nulls, .bool z.low.null, .int .i64 z.low.num, .string ⟨z.low.txt.toArray⟩, .bool z.high.null, .int .i64 z.high.num, .string ⟨z.high.txt.toArray⟩] rfl _ rfl (by simp) (by omega) hsz ?_; intro v8 w8 hO8 f8; obtain ⟨A8, n8, c8, rfl⟩ : ∃ A n c, v8 = Value.slice A n c := (by obtain ⟨A, c, h⟩ := (hO8.ns fd_ch).shape; exact ⟨A, _, c, h⟩); have hB68 : FtB w8 g6 R (.slice Au D.length cu) := HB6.out.fr f8 (fun e => no_other HO.out HB6.out ch_ne_foot _ e rfl); have x1 : w8.cell? ⟨g6, 1, none⟩ = some (.slice Au D.length cu) := hB68.cell 1; have x1f := hB68.frozen 1)
          have f8t := f8
          have hB48 := HB4.out.fr f8 (fun e => no_other HO.out HB4.out ch_ne_foot _ e rfl)
          have hS8 := HS.out.fr f8 (fun e => no_other HO.out HS.out.1 ch_ne_src _ e rfl)
          have hF8 := HF.out.fresh f8 (fun b hb => (HO.out.lt b hb).1)
          have fs := (Fr.refl (One g6) w8).set1 1 (.slice A8 n8 c8)
          have hB69 : FtB (w8.setCell ⟨g6, 1, none⟩ (.slice A8 n8 c8)) g6 R (.slice A8 n8 c8) := hB68.set 1 _
          have hO9 := hO8.fr fs (fun b hb e => no_other hO8 hB68 ch_ne_foot b hb e)
          have hB49 := hB48.fr fs (fun e => hg6 e.symm)
          have hS9 := hS8.fr fs (fun e => hg6' e.symm)
          have hF9 := hF8.fresh fs (fun b e => by have h1 : b = g6 := e; omega)
          rw [HSy2.out] at HT2
          go_roundw
          case rel => exact ⟨k + 1, at_ + m, _, _, _, .slice A8 n8 c8, by omega, by go_num, (by first | rfl | (push_cast; rfl) | (rw [← hmm])), HT2, hS9, hB49, hB69, hO9, hF9⟩
          case measure => simp [intOf]; omega
        · have hzb : (z.rows != (R : Int)) = true := by rw [bne_iff_ne]; exact hzr
          have HSy2 : Hid (sy = ([], true)) := Lib.hid (by rw [HSay.out, if_neg hzr])
          clear hzr
          have HFl := Lib.hid (fail_any g q2 bad2 _ s6)
          have zb' : Hid (Blk _ _ _ _) := Lib.hid zb
          have hB46' : Hid (FtB _ _ _ _) := Lib.hid hB46
          have hB66' : Hid (FtB _ _ _ _) := Lib.hid hB66
          have hO6' := Lib.hid hO6
          have hF6' := Lib.hid hF6
          clear s6 zb hB46 hB66 hO6 hF6
          go_wp2_with fail
          refine HFl.out.mono ?_
          rintro e w7 ⟨rfl, hsW, f7⟩
          have zb := zb'.out.fr f7 (fun e => hzg e)
          have hB46 := hB46'.out.fr f7 (fun e => hwg e)
          have hB66 := hB66'.out.fr f7 (fun e => hg6' e)
          have hO6 := hO6'.out.fr f7 (fun b hb e => by have h1 : b = g := e; have := (hO6'.out.lt b hb).1; omega)
          have hF6 := hF6'.out.trans f7
          clear HFl zb' hB46' hB66' hO6' hF6' f7 z0 z60
          have y0 : w7.cell? ⟨w5.heap.size, 0, none⟩ = some (.int .i64 z.rows) := zb.cell 0
          have y1 : w7.cell? ⟨w5.heap.size, 1, none⟩ = some (.int .i64 z.nulls) := zb.cell 1
          have y2 : w7.cell? ⟨w5.heap.size, 2, none⟩ = some (.bool z.low.null) := zb.cell 2
          have y3 : w7.cell? ⟨w5.heap.size, 3, none⟩ = some (.int .i64 z.low.num) := zb.cell 3
          have y4 : w7.cell? ⟨w5.heap.size, 4, none⟩ = some (.string ⟨z.low.txt.toArray⟩) := zb.cell 4
          have y5 : w7.cell? ⟨w5.heap.size, 5, none⟩ = some (.bool z.high.null) := zb.cell 5
          have y6 : w7.cell? ⟨w5.heap.size, 6, none⟩ = some (.int .i64 z.high.num) := zb.cell 6
          have y7 : w7.cell? ⟨w5.heap.size, 7, none⟩ = some (.string ⟨z.high.txt.toArray⟩) := zb.cell 7
          have k1 : w7.cell? ⟨g6, 1, none⟩ = some (.slice Au D.length cu) := hB66.cell 1
          have hsz := hF6.size
          have HB4 : Hid (FtB _ _ _ _) := Lib.hid hB46
          have HB6 : Hid (FtB _ _ _ _) := Lib.hid hB66
          have HO := Lib.hid hO6
          have HF := Lib.hid hF6
          have HS := Lib.hid hsW
          clear hB46 hB66 hO6 hF6 hsW zb
          go_wp2_with (at_builtin; refine wpList_pushN fd_ch eln_ch rfl (.tmp 40) (.tmp 45) rfl w.heap.size _ D rfl HO.out ⟨at_, m, z⟩ #[.int .i64 (at_ : Int), .int .i64 (m : Int), .int .i64 z.rows, .int .i64 z.nulls, .bool z.low.null, .int .i64 z.low.num, .string ⟨z.low.txt.toArray⟩, .bool z.high.null, .int .i64 z.high.num, .string ⟨z.high.txt.toArray⟩] rfl _ rfl (by simp) (by omega) hsz ?_; intro v8 w8 hO8 f8; obtain ⟨A8, n8, c8, rfl⟩ : ∃ A n c, v8 = Value.slice A n c := (by obtain ⟨A, c, h⟩ := (hO8.ns fd_ch).shape; exact ⟨A, _, c, h⟩); have hB68 : FtB w8 g6 R (.slice Au D.length cu) := HB6.out.fr f8 (fun e => no_other HO.out HB6.out ch_ne_foot _ e rfl); have x1 : w8.cell? ⟨g6, 1, none⟩ = some (.slice Au D.length cu) := hB68.cell 1; have x1f := hB68.frozen 1)
          have f8t := f8
          have hB48 := HB4.out.fr f8 (fun e => no_other HO.out HB4.out ch_ne_foot _ e rfl)
          have hS8 := HS.out.fr f8 (fun e => no_other HO.out HS.out.1 ch_ne_src _ e rfl)
          have hF8 := HF.out.fresh f8 (fun b hb => (HO.out.lt b hb).1)
          have fs := (Fr.refl (One g6) w8).set1 1 (.slice A8 n8 c8)
          have hB69 : FtB (w8.setCell ⟨g6, 1, none⟩ (.slice A8 n8 c8)) g6 R (.slice A8 n8 c8) := hB68.set 1 _
          have hO9 := hO8.fr fs (fun b hb e => no_other hO8 hB68 ch_ne_foot b hb e)
          have hB49 := hB48.fr fs (fun e => hg6 e.symm)
          have hS9 := hS8.fr fs (fun e => hg6' e.symm)
          have hF9 := hF8.fresh fs (fun b e => by have h1 : b = g6 := e; omega)
          rw [HSy2.out] at HT2
          go_roundw
          case rel => exact ⟨k + 1, at_ + m, _, _, _, .slice A8 n8 c8, by omega, by go_num, (by first | rfl | (push_cast; rfl) | (rw [← hmm])), HT2, hS9, hB49, hB69, hO9, hF9⟩
          case measure => simp [intOf]; omega
      · have hE := toS_end HT.out (show (cols.map Co.ty).length ≤ k by rw [hlm]; omega)
        rw [HX.out] at hE
        have HE2 := Lib.hid hE
        clear hE HT
        have HB4 : Hid (FtB _ _ _ _) := Lib.hid hB4
        have HO := Lib.hid hO
        have HF := Lib.hid hF
        have HS := Lib.hid hs
        have k0 : wr.cell? ⟨g6, 0, none⟩ = some (.int .i64 R) := hB6.cell 0
        have k1 : wr.cell? ⟨g6, 1, none⟩ = some (.slice Au D.length cu) := hB6.cell 1
        have e0 : wr.cell? ⟨w.heap.size, 0, none⟩ = some (.int .i64 0) := hB4.cell 0
        have e1 : wr.cell? ⟨w.heap.size, 1, none⟩ = some (.slice none 0 0) := hB4.cell 1
        have fz0 := hB4.frozen 0
        have fz1 := hB4.frozen 1
        clear hB4 hB6 hO hF hs
        go_wp2
        (try simp only [Exit.inBlock, Exit.then])
        have hBe : Blk ((wr.setCell ⟨w.heap.size, 0, none⟩ (.int .i64 R)).setCell ⟨w.heap.size, 1, none⟩ (.slice Au D.length cu)) w.heap.size 40 #[.int .i64 R, .slice Au D.length cu] := (HB4.out.set 0 _).set 1 _
        have fs := ((Fr.refl (One w.heap.size) wr).set1 0 (.int .i64 (R : Int))).set1 1 (.slice Au D.length cu)
        refine bodyPost_ret (v := .tuple #[.agg #[.int .i64 R, .slice Au D.length cu], .int .i64 at_]) (ret_cell (p := 4) (u := 5) (ty := 40) rfl _ _ w.heap.size _ _ rfl hBe (load_foot hBe rfl)) rfl ?_
        refine ⟨.slice Au D.length cu, l1, b1, .inr ⟨hR0.out, rfl, rfl⟩, ?_, ?_, ?_, HF.out.fresh fs (fun b e => Nat.le_of_eq (show w.heap.size = b from e.symm))⟩
        · rw [HX.out, HE2.out]
        · rw [HX.out, HE2.out]; exact HO.out.fr fs (fun b hb e => no_other HO.out HB4.out ch_ne_foot b hb e)
        · rw [HX.out, HE2.out]; exact HS.out.fr fs (fun e => hwg e.symm)
end Go.Proofs.YtheefloegbkflaaGreatDoor


namespace Go.Proofs.YtheefloegbkflaaGreatDoor
set_option linter.unusedVariables false
set_option linter.unusedSimpArgs false
set_option maxRecDepth 100000
open Go.RowKit

/-- the table of the program's lies where it was laid -/
def Tab (w : World) : Prop := ∀ i, i < 16 → w.cell? ⟨0, i, none⟩ = some (.int .u32 (half i))
theorem Tab.fr {S : Nat → Prop} {w w' : World} (h : Tab w) (hf : Fr S w w') (hn : ¬ S 0) : Tab w' := fun i hi => by
  have := h i hi
  rw [← this]
  exact hf.cell (p := ⟨_, i, none⟩) (World.block_lt_of_cell? w _ this) hn
theorem Tab.non {w w' : World} (h : Tab w) (hf : Fr Non w w') : Tab w' := h.fr hf fun e => e
theorem Tab.lt {w : World} (h : Tab w) : 0 < w.heap.size := World.block_lt_of_cell? w _ (h 0 (by decide))

theorem shift_any (s : Nat) (w : World) (hs : s < 4294967296) (ht : Tab w) :
    Calls Tryz.prog 176 #[.int .u32 s] w fun e w' => e = .returned (.int .u32 (st (st (st (st s))) : Nat)) ∧ w = w' := by
  have h1 := ht (s % 16) (Nat.mod_lt _ (by decide))
  have HX := Lib.hid (show bits .xor .u32 ((s / 16 : Nat) : Int) ((half (s % 16) : Nat) : Int) = ((st (st (st (st s))) : Nat) : Int) by rw [u32_xor_nat _ _ (by omega) (half_st _ (Nat.mod_lt _ (by decide))).2, st4_half])
  clear ht
  go_enter Tryz.func176, Tryz.ntmps176
  go_wp2
  go_ret
  exact ⟨ret_int HX.out, rfl⟩

theorem turn_l (s : Nat) (h : s < 4294967296) : bits .xor .u32 IntKind.u32.max (s : Int) = ((s ^^^ 4294967295 : Nat) : Int) := by
  have := u32_xor_nat 4294967295 s (by omega) h
  rw [Nat.xor_comm] at this
  exact this
theorem turn_r (s : Nat) (h : s < 4294967296) : bits .xor .u32 (s : Int) 4294967295 = ((s ^^^ 4294967295 : Nat) : Int) := u32_xor_nat s 4294967295 h (by omega)
theorem byte_in (s : Nat) (b : UInt8) (h : s < 4294967296) : bits .xor .u32 (s : Int) ((b.toNat : Int) % 4294967296) = ((s ^^^ b.toNat : Nat) : Int) := by
  have hb := u8_lt b
  rw [Int.emod_eq_of_lt (by omega) (by omega)]
  exact u32_xor_nat s b.toNat h (by omega)

set_option maxHeartbeats 400000 in
theorem more_any (s : Nat) (v : Value) (l : List UInt8) (w : World) (hs : s < 4294967296) (hv : Bs w v l) (ht : Tab w) (hl : l.length ≤ 9223372036854775807) :
    Calls Tryz.prog 145 #[.int .u32 s, v] w fun e w' => e = .returned (.int .u32 (sumOf s l : Nat)) ∧ w = w' := by
  have HB := Lib.hid hv
  obtain ⟨A, c, rfl, hlc, hn, hcell⟩ := hv
  have HC := Lib.hid hcell
  have HN := Lib.hid hn
  have HT := Lib.hid ht
  have HS := Lib.hid (turn_l s hs)
  have HL := Lib.hid (turn_lt hs)
  clear hcell hn ht hs
  go_enter Tryz.func145, Tryz.ntmps145
  go_wp2
  go_loop [5, 12] (fun x i => ∃ k : Nat, k ≤ l.length ∧ i = .int .i64 k ∧ x = .int .u32 (run (s ^^^ 4294967295) (l.take k) : Nat)) (fun _ i => l.length - (intOf i).toNat)
  case atStart => exact ⟨0, Nat.zero_le _, rfl, by rw [HS.out]; rfl⟩
  case round =>
    obtain ⟨k, hk, rfl, rfl⟩ := hrel
    by_cases hlt : k < l.length
    · cases A with
      | none => have := HN.out rfl; omega
      | some ad =>
        have hc1 : w.cell? (ad.add k) = some (.int .u8 (l[k].toNat : Int)) := HC.out ad rfl k hlt
        have hr := run_lt (l.take k) HL.out
        have HX := Lib.hid (byte_in _ l[k] hr)
        have HR := Lib.hid (show run (s ^^^ 4294967295) (l.take (k + 1)) = by1 (run (s ^^^ 4294967295) (l.take k)) l[k] by
          rw [List.take_succ_eq_append_getElem hlt, run_snoc])
        have HY := Lib.hid (xor8_lt hr l[k])
        clear hr
        go_wp2_with fail
        rw [HX.out]
        refine (shift_any _ w HY.out HT.out).mono ?_
        rintro e w1 ⟨rfl, rfl⟩
        go_wp2_with fail
        refine (shift_any _ w (st_lt (st_lt (st_lt (st_lt HY.out)))) HT.out).mono ?_
        rintro e w1 ⟨rfl, rfl⟩
        go_wp2_with fail
        go_round
        case rel => exact ⟨k + 1, by omega, by go_num, by rw [HR.out]; rfl⟩
        case measure => simp [intOf]; omega
    · have HE := Lib.hid (show l.take k = l by rw [List.take_of_length_le (by omega)])
      have HX := Lib.hid (turn_l _ (run_lt (l.take k) HL.out))
      go_wp2
      go_ret
      exact ⟨ret_int (by rw [HX.out, HE.out]; rfl), rfl⟩

def stI : Nat → Nat → Nat
  | 0, s => s
  | n + 1, s => st (stI n s)
theorem stI_lt {s : Nat} (h : s < 4294967296) : ∀ n, stI n s < 4294967296
  | 0 => h
  | n + 1 => st_lt (stI_lt h n)
theorem st_odd {q : Nat} (h : q < 4294967296) (ho : q % 2 = 1) : bits .xor .u32 ((q : Int) / 2) 2197175160 = ((st q : Nat) : Int) := by
  have e : (q : Int) / 2 = ((q / 2 : Nat) : Int) := by omega
  rw [e]
  unfold st; rw [if_pos ho]
  exact u32_xor_nat (q / 2) 2197175160 (by omega) (by omega)
theorem st_even {q : Nat} (ho : ¬ q % 2 = 1) : (q : Int) / 2 = ((st q : Nat) : Int) := by
  unfold st; rw [if_neg ho]; omega

set_option maxHeartbeats 1000000 in
theorem rmore_any (s : Nat) (v : Value) (l : List UInt8) (w : World) (hs : s < 4294967296) (hv : Bs w v l) (hl : l.length ≤ 9223372036854775807) :
    Calls Tryz.prog 119 #[.int .u32 s, v] w fun e w' => e = .returned (.int .u32 (sumOf s l : Nat)) ∧ w = w' := by
  have HB := Lib.hid hv
  obtain ⟨A, c, rfl, hlc, hn, hcell⟩ := hv
  have HC := Lib.hid hcell
  have HN := Lib.hid hn
  have HS := Lib.hid (turn_r s hs)
  have HL := Lib.hid (turn_lt hs)
  clear hcell hn hs
  go_enter Tryz.func119, Tryz.ntmps119
  go_wp2
  go_loop [5, 6] (fun x i => ∃ k : Nat, k ≤ l.length ∧ i = .int .i64 k ∧ x = .int .u32 (run (s ^^^ 4294967295) (l.take k) : Nat)) (fun _ i => l.length - (intOf i).toNat)
  case atStart => exact ⟨0, Nat.zero_le _, rfl, by rw [HS.out]; rfl⟩
  case round =>
    obtain ⟨k, hk, rfl, rfl⟩ := hrel
    by_cases hlt : k < l.length
    · cases A with
      | none => have := HN.out rfl; omega
      | some ad =>
        have hc1 : w.cell? (ad.add k) = some (.int .u8 (l[k].toNat : Int)) := HC.out ad rfl k hlt
        have hr := run_lt (l.take k) HL.out
        have HX := Lib.hid (byte_in _ l[k] hr)
        have HR := Lib.hid (show run (s ^^^ 4294967295) (l.take (k + 1)) = by1 (run (s ^^^ 4294967295) (l.take k)) l[k] by
          rw [List.take_succ_eq_append_getElem hlt, run_snoc])
        have HY := Lib.hid (xor8_lt hr l[k])
        clear hr
        go_wp2
        go_loop [5, 7] (fun x i => ∃ j : Nat, j ≤ 8 ∧ i = .int .i64 j ∧ x = .int .u32 (stI j (run (s ^^^ 4294967295) (l.take k) ^^^ l[k].toNat) : Nat)) (fun _ i => 8 - (intOf i).toNat)
        case atStart => exact ⟨0, Nat.zero_le _, rfl, by rw [HX.out]; rfl⟩
        case round =>
          obtain ⟨j, hj, rfl, rfl⟩ := hrel
          by_cases hjl : j < 8
          · have hq := stI_lt HY.out j
            generalize hQ : stI j (run (s ^^^ 4294967295) (l.take k) ^^^ l[k].toNat) = q at hq ⊢
            have HQ := Lib.hid hQ
            clear hQ
            by_cases ho : q % 2 = 1
            · have HO := Lib.hid (st_odd hq ho)
              have ht : (((q : Int) % 2) == 1) = true := by rw [beq_iff_eq]; omega
              clear ho
              go_wp2
              go_round
              case rel => exact ⟨j + 1, by omega, by go_num, by rw [HO.out, ← HQ.out]; rfl⟩
              case measure => simp [intOf]; omega
            · have HO := Lib.hid (st_even ho)
              have ht : (((q : Int) % 2) == 1) = false := by rw [beq_eq_false_iff_ne]; omega
              clear ho
              go_wp2
              go_round
              case rel => exact ⟨j + 1, by omega, by go_num, by rw [HO.out, ← HQ.out]; rfl⟩
              case measure => simp [intOf]; omega
          · obtain rfl : j = 8 := by omega
            go_wp2
            go_round
            case rel => exact ⟨k + 1, by omega, by go_num, by rw [HR.out]; rfl⟩
            case measure => simp [intOf]; omega
    · have HE := Lib.hid (show l.take k = l by rw [List.take_of_length_le (by omega)])
      have HX := Lib.hid (turn_r _ (run_lt (l.take k) HL.out))
      go_wp2
      go_ret
      exact ⟨ret_int (by rw [HX.out, HE.out]; rfl), rfl⟩

theorem rof_any (v : Value) (l : List UInt8) (w : World) (hv : Bs w v l) (hl : l.length ≤ 9223372036854775807) :
    Calls Tryz.prog 65 #[v] w fun e w' => e = .returned (.int .u32 (sumOf 0 l : Nat)) ∧ w = w' := by
  have HB := Lib.hid hv
  clear hv
  go_enter Tryz.func65, Tryz.ntmps65
  go_wp2_with fail
  refine (rmore_any 0 v l w (by decide) HB.out hl).mono ?_
  rintro e w1 ⟨rfl, rfl⟩
  go_wp2
  go_ret
  exact ⟨rfl, rfl⟩
end Go.Proofs.YtheefloegbkflaaGreatDoor


namespace Go.Proofs.YtheefloegbkflaaGreatDoor
set_option linter.unusedVariables false
set_option linter.unusedSimpArgs false
set_option maxRecDepth 100000
open Go.RowKit

set_option maxHeartbeats 400000 in
theorem of_any (v : Value) (ls : List (List UInt8)) (w : World) (hv : Bss w v ls) (ht : Tab w) (hn : ls.length ≤ 9223372036854775807) (hl : ∀ l ∈ ls, l.length ≤ 9223372036854775807) :
    Calls Tryz.prog 95 #[v] w fun e w' => e = .returned (.int .u32 (sumOf 0 ls.flatten : Nat)) ∧ w = w' := by
  obtain ⟨A, c, rfl, hlc, hnn, hcell⟩ := hv
  have HC := Lib.hid hcell
  have HN := Lib.hid hnn
  have HT := Lib.hid ht
  have HL := Lib.hid hl
  clear hcell hnn ht hl
  go_enter Tryz.func95, Tryz.ntmps95
  go_wp2
  go_loop [3, 8] (fun x i => ∃ k : Nat, k ≤ ls.length ∧ i = .int .i64 k ∧ x = .int .u32 (sumOf 0 (ls.take k).flatten : Nat)) (fun _ i => ls.length - (intOf i).toNat)
  case atStart => exact ⟨0, Nat.zero_le _, rfl, by rw [List.take_zero, List.flatten_nil, sumOf_nil]; rfl⟩
  case round =>
    obtain ⟨k, hk, rfl, rfl⟩ := hrel
    by_cases hlt : k < ls.length
    · cases A with
      | none => have := HN.out rfl; omega
      | some ad =>
        obtain ⟨u, hu, hb⟩ := HC.out ad rfl k hlt
        have HB := Lib.hid hb
        have HR := Lib.hid (show sumOf 0 (ls.take (k + 1)).flatten = sumOf (sumOf 0 (ls.take k).flatten) ls[k] by
          rw [List.take_succ_eq_append_getElem hlt, List.flatten_append, sumOf_app]; simp)
        clear hb
        go_wp2_with fail
        refine (more_any _ u _ w (sumOf_lt _ (by decide)) HB.out HT.out (HL.out _ (List.getElem_mem _))).mono ?_
        rintro e w1 ⟨rfl, rfl⟩
        go_wp2_with fail
        go_round
        case rel => exact ⟨k + 1, by omega, by go_num, by rw [HR.out]⟩
        case measure => simp [intOf]; omega
    · have HE := Lib.hid (show ls.take k = ls by rw [List.take_of_length_le (by omega)])
      go_wp2
      go_ret
      exact ⟨ret_int (by rw [HE.out]), rfl⟩

theorem of_one (g : Nat) (v : Value) (l : List UInt8) (w : World) (hg : g = w.heap.size) (hv : Bs w v l) (ht : Tab w) (hl : l.length ≤ 9223372036854775807) :
    Calls Tryz.prog 95 #[.slice (some ⟨g, 0, none⟩) 1 1] (w.alloc (.cells #[v] 26)) fun e w' => e = .returned (.int .u32 (sumOf 0 l : Nat)) ∧ (w.alloc (.cells #[v] 26)) = w' := by
  subst hg
  refine (of_any _ [l] _ (bss_one w v l _ hv) (ht.non ((Fr.refl _ _).alloc _)) (by simp) (by simpa using hl)).mono ?_
  rintro e w1 ⟨rfl, rfl⟩
  exact ⟨ret_int (by simp), rfl⟩

end Go.Proofs.YtheefloegbkflaaGreatDoor


namespace Go.Proofs.YtheefloegbkflaaGreatDoor
set_option linter.unusedVariables false
set_option linter.unusedSimpArgs false
set_option maxRecDepth 100000
open Go.RowKit

/-- bytes laid as a literal -/
theorem own_lit (w : World) (B g : Nat) (l : List UInt8) (cs : Array Value) (hcs : cs.toList = l.map bv) (hg : g = w.heap.size) (hB : B ≤ g) (hm : l.length ≤ maxLen) : Own (w.alloc (.cells cs 5)) B (.slice (some ⟨g, 0, none⟩) l.length l.length) l := by
  subst hg
  unfold Own
  rw [← hcs]
  exact World.ownsRow_lit w cs l.length hB hm (by have := congrArg List.length hcs; simpa using this)

theorem sum4_cells (n : Nat) (z0 z1 z2 z3 : Int) (h0 : z0 = ((n % 256 : Nat) : Int)) (h1 : z1 = ((n / 256 % 256 : Nat) : Int)) (h2 : z2 = ((n / 65536 % 256 : Nat) : Int)) (h3 : z3 = ((n / 16777216 % 256 : Nat) : Int)) :
    (#[.int .u8 z0, .int .u8 z1, .int .u8 z2, .int .u8 z3] : Array Value).toList = (sum4 n).map bv := by
  subst h0 h1 h2 h3
  have a0 : n % 256 < 256 := Nat.mod_lt _ (by decide)
  have a1 : n / 256 % 256 < 256 := Nat.mod_lt _ (by decide)
  have a2 : n / 65536 % 256 < 256 := Nat.mod_lt _ (by decide)
  have a3 : n / 16777216 % 256 < 256 := Nat.mod_lt _ (by decide)
  simp only [sum4, List.map_cons, List.map_nil, bv, toNat_small a0, toNat_small a1, toNat_small a2, toNat_small a3]

set_option maxHeartbeats 400000 in
theorem fsum_any (v : Value) (l : List UInt8) (w : World) (hv : Bs w v l) (ht : Tab w) (hl : l.length ≤ 9223372036854775807) :
    Calls Tryz.prog 53 #[v] w fun e w' => ∃ u, e = .returned u ∧ Own w' w.heap.size u (sum4 (sumOf 0 l)) ∧ Fr Non w w' := by
  have HB := Lib.hid hv
  have HT := Lib.hid ht
  have Hs := Lib.hid (sumOf_lt l (s := 0) (by decide))
  obtain ⟨A, c, rfl, _⟩ := hv
  clear ht
  go_enter Tryz.func53, Tryz.ntmps53
  go_wp2_with fail
  refine (of_one _ _ _ _ rfl HB.out HT.out hl).mono ?_
  rintro e w1 ⟨rfl, rfl⟩
  have hn := Hs.out
  generalize hS : sumOf 0 l = n at *
  have HS := Lib.hid hS
  clear hS
  go_wp2
  go_ret
  refine ⟨.slice (some ⟨w.heap.size + 1, 0, none⟩) 4 4, rfl, ?_, ((Fr.refl _ _).alloc _).alloc _⟩
  rw [HS.out]
  refine own_lit (w.alloc (.cells #[.slice A l.length c] 26)) w.heap.size (w.heap.size + 1) (sum4 n) _ (sum4_cells n _ _ _ _ ?_ ?_ ?_ ?_) (by simp) (by simp) (by rw [sum4_length]; unfold maxLen; omega) <;> omega

set_option maxHeartbeats 1000000 in
theorem fput_any (v : Value) (l : List UInt8) (w : World) (hv : Bs w v l) (ht : Tab w) (hl : l.length < 549755813888) :
    Calls Tryz.prog 28 #[v] w fun e w' => ∃ u, e = .returned u ∧ Own w' w.heap.size u (frameB l) ∧ Fr Non w w' := by
  have HB := Lib.hid hv
  have HT := Lib.hid ht
  have Hn := Lib.hid (show l.length < two64 by unfold two64; omega)
  obtain ⟨A, c, rfl, _⟩ := hv
  clear ht
  go_enter Tryz.func28, Tryz.ntmps28
  go_wp2_with fail
  refine (vnum_any l.length w Hn.out).mono ?_
  rintro e w1 ⟨v1, rfl, hown1, hfr1⟩
  obtain ⟨A1, c1, rfl⟩ := hown1.bs.shape
  go_wp2_with fail
  refine (fsum_any _ l w1 (HB.out.non hfr1) (HT.out.non hfr1) (by omega)).mono ?_
  rintro e w2 ⟨v2, rfl, hown2, hfr2⟩
  obtain ⟨A2, c2, rfl⟩ := hown2.bs.shape
  go_wp2_with fail
  refine (concat_any w2.heap.size 3 3 [.slice A1 (Lib.uvarint l.length).length c1, .slice A2 (sum4 (sumOf 0 l)).length c2, .slice A l.length c] [Lib.uvarint l.length, sum4 (sumOf 0 l), l] _ rfl (by omega) (Parts.three (hown1.bs.non hfr2) hown2.bs (HB.out.non (hfr1.trans hfr2))) ?_).mono ?_
  · have := Lib.uvarint_length64 Hn.out
    simp [sum4_length]; omega
  · rintro e w3 ⟨v3, rfl, hown3, hfr3⟩
    go_wp2
    go_ret
    refine ⟨v3, rfl, ?_, ((hfr1.then hfr2).alloc _).then hfr3⟩
    have h := hown3.mono (B' := w.heap.size) (by have := hfr1.size; have := hfr2.size; simp; omega)
    simpa [frameB] using h

/-- the head: how many bytes are to come, and how many bytes that number has -/
theorem min3 (l : List UInt8) : (l.take 3).length = min l.length 3 := by rw [List.length_take]; omega

end Go.Proofs.YtheefloegbkflaaGreatDoor


namespace Go.Proofs.YtheefloegbkflaaGreatDoor
set_option linter.unusedVariables false
set_option linter.unusedSimpArgs false
set_option maxRecDepth 100000
open Go.RowKit

theorem ret_two {v : Value} {k : IntKind} {a b : Int} (h : a = b) : Ending.returned (.tuple #[v, .int k a]) = .returned (.tuple #[v, .int k b]) := by rw [h]
theorem Bs.drewN {w : World} {v : Value} {l : List UInt8} (h : Bs w v l) (n : Nat) : Bs (w.drewN n) v l := h
theorem Tab.drewN {w : World} (h : Tab w) (n : Nat) : Tab (w.drewN n) := h
theorem ret_three {v : Value} {k j : IntKind} {a b c d : Int} (h : a = b) (h2 : c = d) : Ending.returned (.tuple #[v, .int k a, .int j c]) = .returned (.tuple #[v, .int k b, .int j d]) := by rw [h, h2]
/-- a slice's beginning -/
theorem Bs.pre {w : World} {A : Option Addr} {n c k : Nat} {l : List UInt8} (h : Bs w (.slice A n c) l) (hk : k ≤ n) : Bs w (.slice A k c) (l.take k) := by
  obtain ⟨A0, c0, he, h1, h2, h3⟩ := h
  simp only [Value.slice.injEq] at he
  obtain ⟨rfl, rfl, rfl⟩ := he
  have hl : (l.take k).length = k := by rw [List.length_take]; omega
  refine ⟨A, c, by rw [hl], by rw [hl]; omega, h2, fun a ha j hj => ?_⟩
  rw [h3 a ha j (by rw [hl] at hj; omega)]
  simp

set_option maxHeartbeats 1000000 in
theorem flength_any (v : Value) (l : List UInt8) (w : World) (hv : Bs w v l) (hl : l.length ≤ 9223372036854775807) :
    Calls Tryz.prog 131 #[v] w fun e w' => e = .returned (.tuple #[.int .i64 (hN l), .int .i64 (hS l)]) ∧ Fr Non w w' := by
  have HB := Lib.hid hv
  obtain ⟨A, c, rfl, hlc, _⟩ := hv
  have h0 : Calls Tryz.prog 26 #[.int .u64 1048576] w _ := vnum_any 1048576 w (by unfold two64; omega)
  have H3 := Lib.hid (head3 l)
  have HL := Lib.hid (min3 l)
  have key : ∀ (w1 : World) (n : Nat), n = (l.take 3).length → Fr Non w w1 → Bs w1 (.slice A n c) (l.take 3) := by
    intro w1 n hn hf
    subst hn
    rw [HL.out]
    have := (HB.out.non hf).pre (k := min l.length 3) (by omega)
    rwa [List.take_eq_take_iff.2 (show min (min l.length 3) l.length = min 3 l.length by omega)] at this
  have HK := Lib.hid key
  clear key
  have HA := Lib.hid (fun (W : World) o => (Fr.refl Non W).alloc o)
  have goal2 : ∀ n : Nat, n = (l.take 3).length → (n = 3 ∧ 3 < l.length ∨ n = l.length ∧ ¬ 3 < l.length) → Calls Tryz.prog 131 #[.slice A l.length c] w fun e w' => e = .returned (.tuple #[.int .i64 (hN l), .int .i64 (hS l)]) ∧ Fr Non w w' := by
    intro n hn hc
    have HN := Lib.hid hn
    clear hn
    rcases hc with ⟨rfl, h3⟩ | ⟨rfl, h3⟩
    all_goals
      go_enter Tryz.func131, Tryz.ntmps131
      go_wp2_with fail
      refine h0.mono ?_
      rintro e w1 ⟨v1, rfl, hown1, hfr1⟩
      obtain ⟨A1, c1, rfl⟩ := hown1.bs.shape
      rw [uv_big20]
      have HF1 := Lib.hid hfr1
      clear hown1 hfr1 h0
      have h3' : (3 : Int) < l.length ∨ ¬ (3 : Int) < l.length := by omega
      go_wp2_with fail
      refine (from_any _ (l.take 3) w1 (HK.out _ _ (by first | exact HN.out | (rw [List.length_take]; omega)) HF1.out)).mono ?_
      rintro e w2 ⟨rfl, hs2, hf2⟩
      go_wp2_with fail
      refine (below_any w1.heap.size (l.take 3) false 1048577 w2 hs2 (by omega)).mono ?_
      rintro e w3 ⟨rfl, hs3, hf3⟩
      have hf : Fr Non w w3 := (HF1.out.trans hf2).fresh hf3 (fun k hk => by have e : k = w1.heap.size := hk; have := HF1.out.size; omega)
      have HF := Lib.hid hf
      clear hf hf2 hf3 hs2
      rw [show (1048577 : Int) - 1 = 1048576 by omega] at hs3 ⊢
      have HS := Lib.hid hs3
      go_wp2_with fail
      refine (ok_any _ _ _ w3 HS.out).mono ?_
      rintro e w4 ⟨rfl, rfl⟩
      rcases H3.out with ⟨e1, e2, e3⟩ | ⟨e1, e2, e3, e4⟩
      · rw [e1]
        have HE := Lib.hid (And.intro e2 e3)
        clear e2 e3 e1
        go_wp2_with fail
        go_ret2
        rw [HE.out.1, HE.out.2]
        exact ⟨rfl, HF.out⟩
      · rw [e1, e2]
        have HE := Lib.hid (And.intro e3 HN.out)
        clear e2 e3 e4 e1
        generalize hs2 : hS l = s at *
        generalize hm2 : hN l = m at *
        have HS2 := Lib.hid hs2
        have HM2 := Lib.hid hm2
        clear hs2 hm2
        go_wp2_with fail
        refine (left_any _ _ _ w3 HS.out).mono ?_
        rintro e w5 ⟨rfl, rfl⟩
        have HQ : Hid (_ = s + (mostR (l.take 3) 1048576).length) := Lib.hid (HE.out.2.trans HE.out.1)
        clear HE HS hs3
        generalize (mostR (l.take 3) 1048576).length = r at *
        have hb : r ≤ l.length := by have := HQ.out; have := min3 l; omega
        go_wp2_with fail
        go_ret2
        refine ⟨?_, HF.out⟩
        rw [HM2.out, HS2.out]
        refine ret_two ?_
        have := HQ.out; omega
  by_cases h3 : 3 < l.length
  · exact goal2 3 (by rw [HL.out]; omega) (.inl ⟨rfl, h3⟩)
  · exact goal2 l.length (by rw [HL.out]; omega) (.inr ⟨rfl, h3⟩)
theorem slice_lh (A : Option Addr) (n c k m : Nat) (kl kh : IntKind) (z y : Int) (hz : z = (k : Int)) (hy : y = (m : Int)) (hk : k ≤ m) (hm : m ≤ n) (hn : n ≤ c) :
    ∃ A' c', (∀ W, (Instr.slice 26 (.slice A n c) (some (.int kl z)) (some (.int kh y)) none).run Tryz.prog W = .ok (.slice A' (m - k) c') W) ∧
      (∀ W l, l.length = n → Bs W (.slice A n c) l → Bs W (.slice A' (m - k) c') ((l.drop k).take (m - k))) ∧ (Value.slice A' (m - k) c').ownBlock = (Value.slice A n c).ownBlock := by
  subst hz hy
  refine ⟨if c = k then A else A.map (·.add k), c - k, fun W => ?_, ?_, ?_⟩
  · rw [run_slice_any W 26 A n c Tryz.underlying26]
    have hb : (Instr.sliceBounds true n c (some (.int kl (k : Int))) (some (.int kh (m : Int))) none).run Tryz.prog W = .ok (k, m, c) W := by
      simp [Instr.sliceBounds, run_sliceBound, hk, show m ≤ c by omega]
    rw [hb]
    simp only [Result.andThen_ok, sz_u8]
    simp [sliced]
  · rintro W l hl ⟨A0, c0, he, h1, h2, h3⟩
    simp only [Value.slice.injEq] at he
    obtain ⟨rfl, hl', rfl⟩ := he
    have hlen : ((l.drop k).take (m - k)).length = m - k := by rw [List.length_take, List.length_drop]; omega
    refine ⟨if c = k then A else A.map (·.add k), c - k, by rw [hlen], by rw [hlen]; omega, fun e => ?_, fun a ha j hj => ?_⟩
    · split at e
      · have := h2 e; omega
      · have := h2 (by simpa using e); omega
    · rw [hlen] at hj
      rw [if_neg (by omega)] at ha
      cases A with
      | none => cases ha
      | some b =>
        obtain rfl : b.add k = a := by simpa using ha
        rw [add_add, h3 b rfl (k + j) (by omega)]
        simp
  · split
    · cases A <;> rfl
    · cases A <;> simp [Value.ownBlock, add_block]

set_option maxHeartbeats 1000000 in
theorem ffirst_any (v : Value) (l : List UInt8) (w : World) (hv : Bs w v l) (ht : Tab w) (hl : l.length < 1099511627776) :
    Calls Tryz.prog 75 #[v] w fun e w' => ∃ u, e = .returned (.tuple #[u, .int .i64 (gN l), .int .i64 (gE l)]) ∧ Bs w' u (gB l) ∧ Fr Non w w' ∧ ∀ k, u.ownBlock = some k → v.ownBlock = some k := by
  have HB := Lib.hid hv
  have HT := Lib.hid ht
  obtain ⟨A, c, rfl, hlc, _⟩ := hv
  clear ht
  have h0 := flength_any _ l w HB.out (by omega)
  have hs0 := hS_le l
  have hn0 := hN_le l
  by_cases hf : fits l = true
  · have hb := of_decide_eq_true (show decide (hS l ≠ 0 ∧ hS l + 4 + hN l ≤ l.length) = true from hf)
    have HF := Lib.hid hf
    have HGB : Hid (bodyF l = (l.drop (hS l + 4)).take (hN l)) := Lib.hid rfl
    have HGS : Hid (sumOk l = ((l.drop (hS l)).take 4 == sum4 (sumOf 0 (bodyF l)))) := Lib.hid rfl
    clear hf
    generalize hs2 : hS l = s at *
    generalize hm2 : hN l = m at *
    have HS2 := Lib.hid hs2
    have HM2 := Lib.hid hm2
    clear hs2 hm2
    obtain ⟨A1, c1, hrun1, hbs1, how1⟩ := slice_lh A l.length c (s + 4) (s + 4 + m) .i64 .i64 ((s : Int) + 4) ((s : Int) + 4 + m) (by omega) (by omega) (by omega) (by omega) hlc
    obtain ⟨ad, rfl⟩ : ∃ ad, A = some ad := by
      cases A with
      | some ad => exact ⟨ad, rfl⟩
      | none =>
        obtain ⟨_, _, he, h1, h2, _⟩ := HB.out
        simp only [Value.slice.injEq] at he
        obtain ⟨rfl, _, rfl⟩ := he
        have := h2 rfl
        omega
    have hbs2 : ∀ W, Bs W (.slice (some ad) l.length c) l → Bs W (.slice (some (ad.add s)) 4 (c - s)) ((l.drop s).take 4) := by
      rintro W ⟨A0, c0, he, h1, h2, h3⟩
      simp only [Value.slice.injEq] at he
      obtain ⟨rfl, hl', rfl⟩ := he
      have hlen : ((l.drop s).take 4).length = 4 := by rw [List.length_take, List.length_drop]; omega
      refine ⟨some (ad.add s), c - s, by rw [hlen], by rw [hlen]; omega, (fun h => by cases h), fun a ha j hj => ?_⟩
      cases ha
      rw [hlen] at hj
      rw [add_add, h3 ad rfl (s + j) (by omega)]
      simp
    rw [show s + 4 + m - (s + 4) = m by omega] at hrun1 hbs1 how1
    have H1 := Lib.hid (fun W h => hbs1 W l rfl h)
    have H2 := Lib.hid hbs2
    have HO := Lib.hid how1
    clear hbs1 hbs2 how1
    have hz : ((s : Int) == 0) = false := by rw [beq_eq_false_iff_ne]; omega
    go_enter Tryz.func75, Tryz.ntmps75
    go_wp2_with fail
    refine h0.mono ?_
    rintro e w1 ⟨rfl, hfr⟩
    have HB1 := Lib.hid (HB.out.non hfr)
    have HT1 := Lib.hid (HT.out.non hfr)
    have HFR := Lib.hid hfr
    clear hfr h0
    go_wp2_with fail
    have Hb := Lib.hid (H1.out _ HB1.out)
    have HbL := Lib.hid (show ((l.drop (s + 4)).take m).length ≤ 9223372036854775807 by rw [List.length_take]; omega)
    have t1 : (0 : Int) ≤ s + 4 := by omega
    have t6 : IntKind.i64.wrap ((s : Int) + 4) = s + 4 := IntWalk.i64_in _ ⟨by omega, by omega⟩
    have t2 : ((s : Int) + 4).toNat = s + 4 := by omega
    have t3 : ¬ (c = s) := by omega
    have t4 : s + 4 ≤ c := by omega
    have t5 : (s : Int) + 4 ≤ c := by omega
    clear hrun1
    go_region_with (first | (go_at_call 53; refine (fsum_any _ _ _ (Hb.out.drewN _) (HT1.out.drewN _) HbL.out).mono ?_; rintro e w3 ⟨v3, rfl, hown3, hfr3⟩) | (go_at_call 132; refine (equal_any _ _ _ _ _ (H2.out _ ((HB1.out.drewN _).non hfr3)) hown3.bs).mono ?_; rintro e w4 ⟨rfl, rfl⟩))
    all_goals
      have hfr : Fr Non w w3 := HFR.out.trans (w1 := w1) ⟨hfr3.os, hfr3.tape, hfr3.output, hfr3.size, hfr3.block⟩
      have HR := Lib.hid hfr
      have HBb := Lib.hid (Hb.out.non (w' := w3) ⟨hfr3.os, hfr3.tape, hfr3.output, hfr3.size, hfr3.block⟩)
      clear hfr hown3 hfr3
      rw [← HGB.out]
      rw [← HGB.out] at HBb
      rw [← HGS.out]
      have HF2 := Lib.hid (show gE l = (if sumOk l then 0 else 13) ∧ gB l = (if sumOk l then bodyF l else []) ∧ gN l = (if sumOk l then hS l + 4 + hN l else 0) by
        unfold gE gB gN; rw [HF.out]; exact ⟨rfl, rfl, rfl⟩)
      cases hq : sumOk l
      · go_wp2
        go_ret3
        rw [HF2.out.1, HF2.out.2.1, HF2.out.2.2, hq]
        exact ⟨_, rfl, Bs.nil_ _, HR.out, fun k hk => by cases hk⟩
      · go_wp2
        go_ret3
        rw [HF2.out.1, HF2.out.2.1, HF2.out.2.2, hq, HS2.out, HM2.out]
        refine ⟨.slice A1 m c1, ?_, HBb.out, HR.out, fun k hk => by rw [← HO.out]; exact hk⟩
        exact ret_three (by simp) (by simp)
  · have hf' : fits l = false := by simpa using hf
    have HF2 := Lib.hid (show gE l = 2 ∧ gB l = [] ∧ gN l = 0 by unfold gE gB gN; rw [hf']; exact ⟨rfl, rfl, rfl⟩)
    have hb : ¬ (hS l ≠ 0 ∧ hS l + 4 + hN l ≤ l.length) := of_decide_eq_false hf'
    clear hf hf'
    have fin : ∀ w', Fr Non w w' → ∃ u, Ending.returned (.tuple #[.slice none 0 0, .int .i64 0, .int .i64 2]) = Ending.returned (.tuple #[u, .int .i64 (gN l), .int .i64 (gE l)]) ∧ Bs w' u (gB l) ∧ Fr Non w w' ∧ ∀ k, u.ownBlock = some k → (Value.slice A l.length c).ownBlock = some k := by
      intro w' h
      rw [HF2.out.1, HF2.out.2.1, HF2.out.2.2]
      exact ⟨_, rfl, Bs.nil_ _, h, fun k hk => by cases hk⟩
    have FIN := Lib.hid fin
    clear fin HF2
    generalize hS l = s at *
    generalize hN l = m at *
    by_cases h0s : s = 0
    · subst h0s
      go_enter Tryz.func75, Tryz.ntmps75
      go_wp2_with fail
      refine h0.mono ?_
      rintro e w1 ⟨rfl, hfr⟩
      go_wp2
      go_ret3
      exact FIN.out _ hfr
    · have hz : ((s : Int) == 0) = false := by rw [beq_eq_false_iff_ne]; omega
      have hlt : (l.length : Int) < s + 4 + m := by omega
      go_enter Tryz.func75, Tryz.ntmps75
      go_wp2_with fail
      refine h0.mono ?_
      rintro e w1 ⟨rfl, hfr⟩
      go_wp2
      go_ret3
      exact FIN.out _ hfr

theorem fget_any (v : Value) (l : List UInt8) (w : World) (hv : Bs w v l) (ht : Tab w) (hl : l.length < 1099511627776) :
    Calls Tryz.prog 40 #[v] w fun e w' => ∃ u, e = .returned (.tuple #[u, .int .i64 (gN l), .int .i64 (gE l)]) ∧ Own w' w.heap.size u (gB l) ∧ Fr Non w w' := by
  have h0 := ffirst_any v l w hv ht hl
  have hb : Hid ((gB l).length < 140737488355328) := Lib.hid (by
    unfold gB; split
    · unfold bodyF; rw [List.length_take]; have := hN_le l; omega
    · simp)
  clear hv ht
  go_enter Tryz.func40, Tryz.ntmps40
  go_wp2_with fail
  refine h0.mono ?_
  rintro e w1 ⟨u, rfl, hu, hf, _⟩
  go_wp2_with fail
  refine (clone_any u _ w1 hu hb.out).mono ?_
  rintro e w2 ⟨u2, rfl, hown, hf2⟩
  go_wp2
  go_ret3
  exact ⟨u2, rfl, hown.mono hf.size, hf.trans hf2⟩
end Go.Proofs.YtheefloegbkflaaGreatDoor


namespace Go.Proofs.YtheefloegbkflaaGreatDoor
set_option linter.unusedVariables false
set_option linter.unusedSimpArgs false
set_option maxRecDepth 100000
open Go.RowKit

/-- what Read answers -/
def RdR (w : World) (B : Nat) (cols : List Co) (b : List UInt8) (size : Int) (e : Ending) : Prop :=
  ∃ u, e = .returned (.tuple #[.agg #[.int .i64 ((readF cols b size).2.1 : Nat), u], .int .i64 (readF cols b size).1]) ∧ Ho w B u (readF cols b size).2.2
theorem rdR_no {w : World} {B : Nat} {cols : List Co} {b : List UInt8} {size e0 : Int} (h : readF cols b size = (e0, 0, [])) : RdR w B cols b size (.returned (.tuple #[.agg #[.int .i64 0, .slice none 0 0], .int .i64 e0])) :=
  ⟨.slice none 0 0, by rw [h]; rfl, by rw [h]; exact no_nil _ _⟩
theorem rdR_yes {w : World} {B R : Nat} {cols : List Co} {b : List UInt8} {size : Int} {D : List Ch} {u : Value} (h : readF cols b size = (0, R, D)) (hu : Ho w B u D) : RdR w B cols b size (.returned (.tuple #[.agg #[.int .i64 (R : Int), u], .int .i64 0])) :=
  ⟨u, by rw [h], by rw [h]; exact hu⟩
theorem rdSays_big (R : Int) : ∀ (tys : List Int) (at_ : Nat) (l : List UInt8) (b : Bool), (rdSays R tys at_ l b).2.1 ≤ at_ + tys.length * 1048576
  | [], at_, l, b => by unfold rdSays; simp
  | ty :: tys, at_, l, b => by
    have hm := mostK_le l (show (0 : Int) ≤ 1048576 by omega)
    have ih := rdSays_big R tys (at_ + mostV l 1048576) (rdSay R ty l).1 (rdSay R ty l).2
    unfold rdSays
    rw [List.length_cons]
    dsimp only
    omega
/-- what makes a footer one, and what doesn't -/
theorem readF_ok {cols : List Co} {b : List UInt8} {size : Int} {D : List Ch} {at_ : Nat} (hc : chkC cols = 0) (hg : gE b = 0) (hX : rdF cols b = (D, at_, [], false)) (hR : mostV (gB b) 200 ≠ 0) (h1 : gN b = b.length) (h2 : size = (at_ : Int) + b.length) : readF cols b size = (0, mostV (gB b) 200, D) := by
  have hgd : goodF cols b size = true := by
    unfold goodF
    rw [hX]
    exact decide_eq_true ⟨h1, hR, rfl, rfl, by dsimp only; rw [h2]; push_cast; rfl⟩
  rw [readF_yes hc hg hgd, hX]; rfl
theorem readF_bad {cols : List Co} {b : List UInt8} {size : Int} {D : List Ch} {at_ : Nat} {q : List UInt8} {bad : Bool} (hc : chkC cols = 0) (hg : gE b = 0) (hX : rdF cols b = (D, at_, q, bad)) (h : ¬ (mostV (gB b) 200 ≠ 0 ∧ (!bad && q.isEmpty) = true ∧ gN b = b.length ∧ size = (at_ : Int) + b.length)) : readF cols b size = (2, 0, []) := by
  refine readF_no hc hg ?_
  unfold goodF
  rw [hX]
  refine decide_eq_false fun ⟨g1, g2, g3, g4, g5⟩ => h ⟨g2, ?_, g1, ?_⟩
  · dsimp only at g3 g4
    rw [g3, g4]; rfl
  · rw [← g5]; push_cast; rfl

set_option maxHeartbeats 8000000 in
theorem sread_any (v1 v2 : Value) (cols : List Co) (b : List UInt8) (size : Int) (w : World) (h1 : Ks w v1 cols) (hv : Bs w v2 b) (ht : Tab w) (hvl : ∀ q, v1.ownBlock = some q → q < w.heap.size) (hl : cols.length ≤ 1000000000) (hn : ∀ c ∈ cols, c.name.length ≤ 1000000000) (hb : b.length ≤ 1000000000) :
    Calls Tryz.prog 15 #[v1, v2, .int .i64 size] w fun e w' => RdR w' w.heap.size cols b size e ∧ Fr Non w w' := by
  obtain ⟨A1, c1, rfl⟩ := h1.shape
  obtain ⟨A, c, rfl⟩ := hv.shape
  have H1 := Lib.hid h1
  have HV := Lib.hid hv
  have HT := Lib.hid ht
  have HVl := Lib.hid hvl
  have hB0 : FtB (w.alloc (.cells #[.int .i64 0, .slice none 0 0] 40)) w.heap.size 0 (.slice none 0 0) := Blk.new _ _ _
  have f0 := (Fr.refl Non w).alloc (.cells #[.int .i64 0, .slice none 0 0] 40)
  have hgt := hB0.lt
  have HCk := Lib.hid (scheck_any _ cols _ (h1.non f0) hl hn)
  have HGet := Lib.hid (fun W (hf : Fr Non w W) => fget_any _ b W (hv.non hf) (ht.non hf) (by omega))
  have HBig := Lib.hid (fun l0 b0 => rdSays_big (mostV (gB b) 200) (cols.map Co.ty) 0 l0 b0)
  have HX : Hid (rdF cols b = rdSays (mostV (gB b) 200) (cols.map Co.ty) 0 (mostR (gB b) 200) (mostB (gB b) 200)) := Lib.hid rfl
  have HBd := Lib.hid (rdSays_bad (mostV (gB b) 200) (cols.map Co.ty) 0)
  have hm := mostK_le (gB b) (show (0 : Int) ≤ 200 by omega)
  have hgE : ((gE b : Nat) : Int) = 0 ∨ ((gE b : Nat) : Int) ≠ 0 := Decidable.em _
  clear h1 hv ht hvl
  go_enter Tryz.func15, Tryz.ntmps15
  go_wp2_with fail
  generalize hgf : w.heap.size = gf at *
  have HGf := Lib.hid (Nat.le_of_eq hgf)
  have HGf2 := Lib.hid (Nat.le_of_eq hgf.symm)
  clear hgf
  refine HCk.out.mono ?_
  rintro e w1 ⟨rfl, f1⟩
  have hB1 := hB0.fr f1 (fun e => e)
  have F1 := f0.trans f1
  have hsz1 := f1.size
  clear HCk hB0 f0 f1
  by_cases hc : chkC cols = 0
  · have hcb : ((chkC cols) != 0) = false := by rw [hc]; rfl
    have HC := Lib.hid hc
    have hc6 := (chk_is hc).2.2.2
    have HF1 := Lib.hid F1
    have HB1 : Hid (FtB _ _ _ _) := Lib.hid hB1
    have HGet1 := Lib.hid (HGet.out w1 F1)
    clear hc F1 hB1 HGet
    go_wp2_with fail
    refine HGet1.out.mono ?_
    rintro e w2 ⟨u2, rfl, ho2, f2⟩
    have hB2 : FtB w2 gf _ _ := HB1.out.fr f2 (fun e => e)
    have F2 := HF1.out.trans f2
    have hgs2 := f2.size
    have hgf2 := hB2.lt
    have HBs2 := Lib.hid ho2.bs
    obtain ⟨A2, c2, rfl⟩ := ho2.bs.shape
    have HRF := Lib.hid (fun (e0 : Int) (h : readF cols b size = (e0, 0, [])) W B => rdR_no (w := W) (B := B) h)
    clear HGet1 HF1 HB1 f2 ho2
    by_cases hg : gE b = 0
    · have hgb : (((gE b : Nat) : Int) != 0) = false := by rw [hg]; rfl
      have HG := Lib.hid hg
      have HF2 := Lib.hid F2
      have HB2 : Hid (FtB _ _ _ _) := Lib.hid hB2
      have HFr := Lib.hid (from_any _ (gB b) w2 HBs2.out)
      clear hg F2 hB2 hgE
      go_wp2_with fail
      refine HFr.out.mono ?_
      rintro e w3 ⟨rfl, s3, f3⟩
      have hB3 : FtB w3 gf _ _ := HB2.out.fr f3 (fun e => e)
      have F3 := HF2.out.trans f3
      have hlt3 := s3.1.lt
      have TK := Lib.hid (stake_any w2.heap.size (gB b) false _ cols w3 s3 (H1.out.non F3) (fun q hq => by have := HVl.out q hq; have := HGf.out; omega) hc6)
      have HF3 := Lib.hid F3
      have HB3 : Hid (FtB _ _ _ _) := Lib.hid hB3
      have hgs3 := f3.size
      clear HFr F3 hB3 s3 f3 HBs2 HB2 HF2
      generalize hG : w2.heap.size = g at *
      have hgg : gf ≠ g := by omega
      clear hG
      go_wp2_with fail
      refine TK.out.mono ?_
      rintro e w4 ⟨u4, l0, b0, hcase, rfl, ho4, s4, f4⟩
      have hbig := HBig.out l0 b0
      rw [List.length_map] at hbig
      have HXX : Hid ((mostV (gB b) 200 = 0 ∧ (rdSays (mostV (gB b) 200) (cols.map Co.ty) 0 l0 b0).2.2.2 = true) ∨ (mostV (gB b) 200 ≠ 0 ∧ rdF cols b = rdSays (mostV (gB b) 200) (cols.map Co.ty) 0 l0 b0)) := Lib.hid (by
        rcases hcase with ⟨r0, rfl, rfl⟩ | ⟨r0, rfl, rfl⟩
        · exact .inl ⟨r0, HBd.out⟩
        · exact .inr ⟨r0, HX.out⟩)
      clear hcase HBig HX HBd TK
      have hB4 : FtB w4 gf _ _ := HB3.out.fr f4 (fun e => hgg e)
      have F4 := HF3.out.fresh f4 (fun q e => by have h1 : q = g := e; have := HGf.out; omega)
      generalize rdSays (mostV (gB b) 200) (cols.map Co.ty) 0 l0 b0 = X at *
      obtain ⟨D, at_, q, bad⟩ := X
      dsimp only at hbig ho4 s4 HXX
      generalize hRm : mostV (gB b) 200 = R at *
      have hfa := (Fr.refl Non w4).alloc (.cells #[.int .i64 (R : Int), u4] 40)
      obtain ⟨A4, n4, c4, rfl⟩ : ∃ A n c, u4 = Value.slice A n c := by obtain ⟨A, c, h⟩ := (ho4.ns fd_ch).shape; exact ⟨A, _, c, h⟩
      have hBn : FtB (w4.alloc (.cells #[.int .i64 (R : Int), .slice A4 n4 c4] 40)) w4.heap.size R (.slice A4 n4 c4) := Blk.new _ _ _
      have s5 := s4.fr hfa (fun e => e)
      have hB5 := hB4.fr hfa (fun e => e)
      have F5 := F4.trans hfa
      have HEn := Lib.hid (end_any g q bad _ s5)
      have hgl4 := hB4.lt
      have HB5 : Hid (FtB _ _ _ _) := Lib.hid hB5
      have HF5 := Lib.hid F5
      have HBn : Hid (FtB _ _ _ _) := Lib.hid hBn
      have HO := Lib.hid (ho4.mono (show gf ≤ w3.heap.size by omega))
      have HRm := Lib.hid hRm
      clear hB4 F4 f4 s4 ho4 HF3 HB3 hfa hB5 F5 s5 hBn hRm
      go_wp2_with fail
      refine HEn.out.mono ?_
      rintro e w5 ⟨rfl, hw5⟩
      rw [hw5] at HB5 HF5 HBn
      have HO5 : Hid (Ho w5 gf (.slice A4 n4 c4) D) := Lib.hid (by rw [← hw5]; exact HO.out.alloc _)
      generalize hgn : w4.heap.size = gn at *
      clear hw5 HEn HO
      have hgn2 : gf ≠ gn := by omega
      have hBn := HBn.out
      have k0 : w5.cell? ⟨gn, 0, none⟩ = some (.int .i64 R) := hBn.cell 0
      have k1 : w5.cell? ⟨gn, 1, none⟩ = some (.slice A4 n4 c4) := hBn.cell 1
      have HNo := Lib.hid (fun (h : ¬ (R ≠ 0 ∧ (!bad && q.isEmpty) = true ∧ gN b = b.length ∧ size = (at_ : Int) + b.length)) => show readF cols b size = (2, 0, []) from by
        rcases HXX.out with ⟨r0, hb1⟩ | ⟨r0, hX⟩
        · refine readF_no HC.out HG.out ?_
          unfold goodF
          refine decide_eq_false fun ⟨_, g2, _⟩ => g2 ?_
          unfold rowsF
          rw [HRm.out]; exact r0
        · exact readF_bad HC.out HG.out hX (by rw [HRm.out]; exact h))
      have hB6 := HB5.out
      have F6 := HF5.out
      clear HB5 HF5 hBn
      cases hE : (!bad && q.isEmpty) with
      | false =>
        have HNo2 := Lib.hid (HNo.out (by rw [hE]; rintro ⟨_, h, _⟩; cases h))
        clear HNo HXX hE
        have e0 : w5.cell? ⟨gf, 0, none⟩ = some (.int .i64 0) := hB6.cell 0
        have e1 : w5.cell? ⟨gf, 1, none⟩ = some (.slice none 0 0) := hB6.cell 1
        have z0 := hB6.frozen 0
        have z1 := hB6.frozen 1
        have HBx : Hid (Blk _ _ _ _) := Lib.hid hB6
        have HFx := Lib.hid F6
        clear hB6 F6
        go_wp2
        (try simp only [Exit.inBlock, Exit.then])
        have hBe : Blk ((w5.setCell ⟨gf, 0, none⟩ (.int .i64 0)).setCell ⟨gf, 1, none⟩ (.slice none 0 0)) gf 40 #[.int .i64 0, .slice none 0 0] := (HBx.out.set 0 _).set 1 _
        have fs := ((Fr.refl (One gf) w5).set1 0 (.int .i64 0)).set1 1 (.slice none 0 0)
        refine bodyPost_ret (v := .tuple #[.agg #[.int .i64 0, .slice none 0 0], .int .i64 2]) (ret_cell (p := 6) (u := 7) (ty := 40) rfl _ _ gf _ _ rfl hBe (load_foot hBe rfl)) rfl ?_
        refine ⟨?_, HFx.out.fresh fs (fun q e => by have h1 : q = gf := e; have := HGf.out; omega)⟩
        exact HRF.out 2 HNo2.out _ _
      | true =>
        by_cases hN : gN b = b.length
        · have hNb : (((gN b : Nat) : Int) != b.length) = false := by rw [hN]; simp
          by_cases hS : size = (at_ : Int) + b.length
          · have hSb : (size != (at_ : Int) + b.length) = false := by rw [hS]; simp
            have hYes : Hid (readF cols b size = (0, R, D)) := Lib.hid (by
              rcases HXX.out with ⟨r0, hb1⟩ | ⟨r0, hX⟩
              · rw [hb1] at hE; simp at hE
              · simp at hE
                rw [hE.1, hE.2] at hX
                rw [← HRm.out]
                exact readF_ok HC.out HG.out hX (by rw [HRm.out]; exact r0) hN hS)
            clear HNo HXX hE hN hS
            have e0 : w5.cell? ⟨gf, 0, none⟩ = some (.int .i64 0) := hB6.cell 0
            have e1 : w5.cell? ⟨gf, 1, none⟩ = some (.slice none 0 0) := hB6.cell 1
            have z0 := hB6.frozen 0
            have z1 := hB6.frozen 1
            have HBx : Hid (Blk _ _ _ _) := Lib.hid hB6
            have HFx := Lib.hid F6
            clear hB6 F6
            go_wp2
            (try simp only [Exit.inBlock, Exit.then])
            have hBe : Blk ((w5.setCell ⟨gf, 0, none⟩ (.int .i64 R)).setCell ⟨gf, 1, none⟩ (.slice A4 n4 c4)) gf 40 #[.int .i64 R, .slice A4 n4 c4] := (HBx.out.set 0 _).set 1 _
            have fs := ((Fr.refl (One gf) w5).set1 0 (.int .i64 (R : Int))).set1 1 (.slice A4 n4 c4)
            refine bodyPost_ret (v := .tuple #[.agg #[.int .i64 R, .slice A4 n4 c4], .int .i64 0]) (ret_cell (p := 6) (u := 7) (ty := 40) rfl _ _ gf _ _ rfl hBe (load_foot hBe rfl)) rfl ?_
            refine ⟨rdR_yes hYes.out ((HO5.out.fr fs (fun b hb e => no_other HO5.out HBx.out ch_ne_foot b hb e)).mono HGf.out), HFx.out.fresh fs (fun q e => by have h1 : q = gf := e; have := HGf.out; omega)⟩
          · have hSb : (size != (at_ : Int) + b.length) = true := by rw [bne_iff_ne]; exact hS
            have HNo2 := Lib.hid (HNo.out (by rintro ⟨_, _, _, h⟩; exact hS h))
            clear HNo HXX hE hN hS
            have e0 : w5.cell? ⟨gf, 0, none⟩ = some (.int .i64 0) := hB6.cell 0
            have e1 : w5.cell? ⟨gf, 1, none⟩ = some (.slice none 0 0) := hB6.cell 1
            have z0 := hB6.frozen 0
            have z1 := hB6.frozen 1
            have HBx : Hid (Blk _ _ _ _) := Lib.hid hB6
            have HFx := Lib.hid F6
            clear hB6 F6
            go_wp2
            (try simp only [Exit.inBlock, Exit.then])
            have hBe : Blk ((w5.setCell ⟨gf, 0, none⟩ (.int .i64 0)).setCell ⟨gf, 1, none⟩ (.slice none 0 0)) gf 40 #[.int .i64 0, .slice none 0 0] := (HBx.out.set 0 _).set 1 _
            have fs := ((Fr.refl (One gf) w5).set1 0 (.int .i64 0)).set1 1 (.slice none 0 0)
            refine bodyPost_ret (v := .tuple #[.agg #[.int .i64 0, .slice none 0 0], .int .i64 2]) (ret_cell (p := 6) (u := 7) (ty := 40) rfl _ _ gf _ _ rfl hBe (load_foot hBe rfl)) rfl ?_
            refine ⟨?_, HFx.out.fresh fs (fun q e => by have h1 : q = gf := e; have := HGf.out; omega)⟩
            exact HRF.out 2 HNo2.out _ _
        · have hNb : (((gN b : Nat) : Int) != b.length) = true := by rw [bne_iff_ne]; omega
          have HNo2 := Lib.hid (HNo.out (by rintro ⟨_, _, h, _⟩; exact hN h))
          clear HNo HXX hE hN
          have e0 : w5.cell? ⟨gf, 0, none⟩ = some (.int .i64 0) := hB6.cell 0
          have e1 : w5.cell? ⟨gf, 1, none⟩ = some (.slice none 0 0) := hB6.cell 1
          have z0 := hB6.frozen 0
          have z1 := hB6.frozen 1
          have HBx : Hid (Blk _ _ _ _) := Lib.hid hB6
          have HFx := Lib.hid F6
          clear hB6 F6
          go_wp2
          (try simp only [Exit.inBlock, Exit.then])
          have hBe : Blk ((w5.setCell ⟨gf, 0, none⟩ (.int .i64 0)).setCell ⟨gf, 1, none⟩ (.slice none 0 0)) gf 40 #[.int .i64 0, .slice none 0 0] := (HBx.out.set 0 _).set 1 _
          have fs := ((Fr.refl (One gf) w5).set1 0 (.int .i64 0)).set1 1 (.slice none 0 0)
          refine bodyPost_ret (v := .tuple #[.agg #[.int .i64 0, .slice none 0 0], .int .i64 2]) (ret_cell (p := 6) (u := 7) (ty := 40) rfl _ _ gf _ _ rfl hBe (load_foot hBe rfl)) rfl ?_
          refine ⟨?_, HFx.out.fresh fs (fun q e => by have h1 : q = gf := e; have := HGf.out; omega)⟩
          exact HRF.out 2 HNo2.out _ _
    · have hgb : (((gE b : Nat) : Int) != 0) = true := by rw [bne_iff_ne]; omega
      have HNo2 := Lib.hid (readF_frame size HC.out hg)
      clear hg hgE
      have e0 : w2.cell? ⟨gf, 0, none⟩ = some (.int .i64 0) := hB2.cell 0
      have e1 : w2.cell? ⟨gf, 1, none⟩ = some (.slice none 0 0) := hB2.cell 1
      have z0 := hB2.frozen 0
      have z1 := hB2.frozen 1
      have HBx : Hid (Blk _ _ _ _) := Lib.hid hB2
      have HFx := Lib.hid F2
      clear hB2 F2
      go_wp2
      (try simp only [Exit.inBlock, Exit.then])
      have hBe : Blk ((w2.setCell ⟨gf, 0, none⟩ (.int .i64 0)).setCell ⟨gf, 1, none⟩ (.slice none 0 0)) gf 40 #[.int .i64 0, .slice none 0 0] := (HBx.out.set 0 _).set 1 _
      have fs := ((Fr.refl (One gf) w2).set1 0 (.int .i64 0)).set1 1 (.slice none 0 0)
      refine bodyPost_ret (v := .tuple #[.agg #[.int .i64 0, .slice none 0 0], .int .i64 (gE b : Nat)]) (ret_cell (p := 6) (u := 7) (ty := 40) rfl _ _ gf _ _ rfl hBe (load_foot hBe rfl)) rfl ?_
      refine ⟨?_, HFx.out.fresh fs (fun q e => by have h1 : q = gf := e; have := HGf.out; omega)⟩
      exact HRF.out _ HNo2.out _ _
  · have hcb : ((chkC cols) != 0) = true := by rw [bne_iff_ne]; exact hc
    have HNo2 := Lib.hid (readF_arg b size hc)
    clear hc
    have e0 : w1.cell? ⟨gf, 0, none⟩ = some (.int .i64 0) := hB1.cell 0
    have e1 : w1.cell? ⟨gf, 1, none⟩ = some (.slice none 0 0) := hB1.cell 1
    have z0 := hB1.frozen 0
    have z1 := hB1.frozen 1
    have HBx : Hid (Blk _ _ _ _) := Lib.hid hB1
    have HFx := Lib.hid F1
    clear hB1 F1
    go_wp2
    (try simp only [Exit.inBlock, Exit.then])
    have hBe : Blk ((w1.setCell ⟨gf, 0, none⟩ (.int .i64 0)).setCell ⟨gf, 1, none⟩ (.slice none 0 0)) gf 40 #[.int .i64 0, .slice none 0 0] := (HBx.out.set 0 _).set 1 _
    have fs := ((Fr.refl (One gf) w1).set1 0 (.int .i64 0)).set1 1 (.slice none 0 0)
    refine bodyPost_ret (v := .tuple #[.agg #[.int .i64 0, .slice none 0 0], .int .i64 1]) (ret_cell (p := 6) (u := 7) (ty := 40) rfl _ _ gf _ _ rfl hBe (load_foot hBe rfl)) rfl ?_
    refine ⟨?_, HFx.out.fresh fs (fun q e => by have h1 : q = gf := e; have := HGf.out; omega)⟩
    exact rdR_no HNo2.out
end Go.Proofs.YtheefloegbkflaaGreatDoor


namespace Go.Proofs.YtheefloegbkflaaGreatDoor
set_option linter.unusedVariables false
set_option linter.unusedSimpArgs false
set_option maxRecDepth 100000
open Go.RowKit

/-- where a row lies behind an append: in its old block, or in a new one -/
def Wh (w : World) (v v' : Value) : Prop := v'.ownBlock = v.ownBlock ∨ ∀ k, v'.ownBlock = some k → w.heap.size ≤ k
theorem run_append_wh {P : Program} (w : World) (base : Nat) (t ty e : TypeId) (i : TypeInfo) (z : Value) (size bytes : Nat) (ht : P.underlying t = some (.slice e)) (hi : P.info? e = some i) (hz : i.zero = some z)
    (hsize : i.size = size) (hby : i.bytes = bytes) (hzs : z.cells.size = size) (hsz : 0 < size)
    (v : Value) (n : Nat) (xs : List Value) (hown : w.ownsRow base e size v n xs)
    (a : Addr) (m c : Nat) (news : List Value) (hl : news.length = m * size) (hnews : ∀ j u, news[j]? = some u → w.cell? (a.add j) = some u) (h1 : ∀ u ∈ news, u.oneCell' = true)
    (h63 : n + m ≤ maxLen) (hbytes : (n + m) * bytes ≤ 140737488355328) (hbase : base ≤ w.heap.size) :
    ∃ v' w', (Builtin.append_ #[t, t] ty #[v, .slice (some a) m c]).run P w = .ok v' w' ∧ w'.ownsRow base e size v' (n + m) (xs ++ news) ∧ w.grownBy w' v.ownBlock ∧ Wh w v v' := by
  have up : ∀ v' w' ys, World.ownsRow w' w.heap.size e size v' (n + m) ys → World.ownsRow w' base e size v' (n + m) ys := by
    intro v' w' ys h
    refine ⟨h.1, ?_⟩
    rcases h.2 with h2 | ⟨g, cap, cur, hv, hb, r⟩
    · exact .inl h2
    · exact .inr ⟨g, cap, cur, hv, by omega, r⟩
  rcases hown.2 with ⟨rfl, h0⟩ | ⟨g, cap, cur, rfl, hbg, hg, hnc, hcm, hcs, htk⟩
  · have hown2 : w.ownsRow w.heap.size e size (.slice none 0 0) n xs := ⟨hown.1, .inl ⟨rfl, h0⟩⟩
    obtain ⟨v', w', hr, r1, r2, _⟩ := run_append_own (P := P) w w.heap.size t ty e i z size bytes ht hi hz hsize hby hzs hsz _ n xs hown2 a m c news hl hnews h1 h63 hbytes (Nat.le_refl _)
    exact ⟨v', w', hr, up v' w' _ r1, r2, .inr fun k hk => (World.ownsRow.lt r1 k hk).1⟩
  · by_cases hroom : n + m ≤ cap
    · obtain ⟨w', hr, r1, r2⟩ := run_append_own_spare (P := P) w base t ty e i size ht hi hsize g n cap xs hown a m c news hl hnews h1 hroom
      exact ⟨_, w', hr, r1, r2, .inl rfl⟩
    · obtain ⟨v', w', hr, r1, r2⟩ := run_append_arg_grows (P := P) w t ty e i z size bytes ht hi hz hsize hby hzs hsz ⟨g, 0, none⟩ n cap xs hown.1 (fun j u hj => World.ownsRow.cells hown rfl j u hj) a m c news hl hnews (by omega) h63 hbytes
      refine ⟨v', w', hr, up v' w' _ r1, ⟨r2.os, r2.tape, r2.output, r2.size, fun k hk _ => r2.block k hk (fun e => by cases e)⟩, .inr fun k hk => (World.ownsRow.lt r1 k hk).1⟩

/-- append of bytes onto bytes of the call's own, out of a slice -/
theorem wp_app2 {w : World} {o : Oper} {a : Act} {K : Act → World → Prop} {Q : Exit → Act → World → Prop} (s x : Operand)
    (ho : o.op = .call { callee := .builtin .append, args := #[s, x], argTypes := #[26, 26] })
    (B : Nat) (v y : Value) (l m : List UInt8) (hs : a.eval s = v) (hown : Own w B v l) (hx : a.eval x = y) (hy : Bs w y m)
    (hl : l.length + m.length < 140737488355328) (hB : B ≤ w.heap.size)
    (h : ∀ v' w', Own w' B v' (l ++ m) → Fr (fun k => v.ownBlock = some k) w w' → Wh w v v' → K (a.put o.dst v') w') : o.wp Tryz.prog a w K Q := by
  obtain ⟨i, hi, hz0, hz1, hz2⟩ := info_parts info_u8
  obtain ⟨A, c, rfl, hmc, hn, hcells⟩ := hy
  cases A with
  | some ad =>
    obtain ⟨v', w', hr, h1, h2, h3⟩ := run_append_wh (P := Tryz.prog) w B 26 o.type 5 i _ 1 1 Tryz.underlying26 hi hz0 hz1 hz2 rfl (by omega) v l.length (l.map bv) hown ad m.length c (m.map bv) (by simp) (by
      intro j u hu
      have hj : j < m.length := by simpa using (List.getElem?_eq_some_iff.1 hu).1
      rw [hcells ad rfl j hj]
      simpa [hj] using hu) (bv_one m) (by unfold maxLen; omega) (by omega) hB
    unfold Oper.wp
    have hx' : a.eval x = .slice (some ad) m.length c := hx
    simp only [execOp, ho, resolve, invoke, builtin, Sem.run_bind, Sem.run_pure, Result.andThen_ok, List.map_toArray, List.map_cons, List.map_nil, hs, hx', hr]
    refine h v' w' ?_ (Fr.of_grown h2) h3
    unfold Own; simpa using h1
  | none =>
    have hm : m = [] := List.eq_nil_of_length_eq_zero (by have := hn rfl; omega)
    subst hm
    have hc : c = 0 := hn rfl
    subst hc
    have hrun := run_append_owned_none (P := Tryz.prog) (w := w) B 26 o.type 5 i 1 Tryz.underlying26 hi v l.length (l.map bv) hown
    unfold Oper.wp
    have hx' : a.eval x = .slice none 0 0 := hx
    simp [execOp, ho, resolve, invoke, builtin, hs, hx', hrun, Result.andThen]
    exact h v w (by simpa using hown) (Fr.refl _ _) (.inl rfl)
theorem wpList_app2 {w : World} {ops : Array Oper} {rest : List Oper} {o : Oper} {a : Act} {Q : Exit → Act → World → Prop} (hgd : o.guard = none) (s x : Operand)
    (ho : o.op = .call { callee := .builtin .append, args := #[s, x], argTypes := #[26, 26] })
    (B : Nat) (v y : Value) (l m : List UInt8) (hs : a.eval s = v) (hown : Own w B v l) (hx : a.eval x = y) (hy : Bs w y m)
    (hl : l.length + m.length < 140737488355328) (hB : B ≤ w.heap.size)
    (h : ∀ v' w', Own w' B v' (l ++ m) → Fr (fun k => v.ownBlock = some k) w w' → Wh w v v' → wpList Tryz.prog ops Q rest (a.put o.dst v') w') : wpList Tryz.prog ops Q (o :: rest) a w :=
  wpList_plain hgd fun _ hK => wp_app2 s x ho B v y l m hs hown hx hy hl hB fun v' w' h1 h2 h3 => hK _ _ (h v' w' h1 h2 h3)
/-- append as one step of a region that draws -/
theorem step_app2 {w : World} {ops : Array Oper} {o : Oper} {a : Act} {K : Act → World → Prop} {Q : Exit → Act → World → Prop} {E : Prop} (hgd : o.guard = none) (s x : Operand)
    (ho : o.op = .call { callee := .builtin .append, args := #[s, x], argTypes := #[26, 26] })
    (B : Nat) (v y : Value) (l m : List UInt8) (hs : a.eval s = v) (hown : Own w B v l) (hx : a.eval x = y) (hy : Bs w y m)
    (hl : l.length + m.length < 140737488355328) (hB : B ≤ w.heap.size)
    (h : ∀ v' w', Own w' B v' (l ++ m) → Fr (fun k => v.ownBlock = some k) w w' → Wh w v v' → K (a.put o.dst v') w') : if Region.wanted o (yielded ops a.tmps) = true then Oper.wp Tryz.prog o a w K Q else E := by
  have hw : Region.wanted o (yielded ops a.tmps) = true := by simp [Region.wanted, hgd]
  rw [if_pos hw]
  exact wp_app2 s x ho B v y l m hs hown hx hy hl hB h

/-- two rows are apart -/
def Far (v u : Value) : Prop := ∀ k, v.ownBlock = some k → u.ownBlock ≠ some k
theorem Far.symm {v u : Value} (h : Far v u) : Far u v := fun k h1 h2 => h k h2 h1
theorem far_nil (v : Value) : Far (.slice none 0 0) v := fun k h => by cases h
/-- the one that grew stays apart from one that stood -/
theorem Far.wh {w : World} {v v' u : Value} (h : Far v u) (hw : Wh w v v') (hu : ∀ k, u.ownBlock = some k → k < w.heap.size) : Far v' u := by
  intro k hk hk'
  rcases hw with e | e
  · rw [e] at hk; exact h k hk hk'
  · have := e k hk; have := hu k hk'; omega
end Go.Proofs.YtheefloegbkflaaGreatDoor


namespace Go.Proofs.YtheefloegbkflaaGreatDoor
set_option linter.unusedVariables false
set_option linter.unusedSimpArgs false
set_option maxRecDepth 100000
open Go.RowKit

theorem zoneF_any (v : Value) (l : List Cl) (w : World) (hv : Cs w v l) (hl : l.length ≤ 1000000) :
    Calls Tryz.prog 31 #[v] w fun e w' => e = .returned (znV (zoneF l)) ∧ Fr Non w w' :=
  (zof_any v l w hv hl).mono fun e w' ⟨z, he, hz, hf⟩ => ⟨by rw [he, hz.eqF], hf⟩
theorem u8_ne_co : 5 ≠ 69 := by decide
theorem cell_ne_u8 : 54 ≠ 5 := by decide

/-- what Build answers -/
def BldR (w : World) (B : Nat) (cols : List Co) (rows : List (List Cl)) (e : Ending) : Prop :=
  (segE cols rows = 0 ∧ ∃ u, e = .returned (.tuple #[u, .int .i64 ((footF rows.length (kls cols rows)).length : Nat), .int .i64 0]) ∧ Own w B u (segF rows.length (kls cols rows))) ∨
  (segE cols rows ≠ 0 ∧ e = .returned (.tuple #[.slice none 0 0, .int .i64 0, .int .i64 (segE cols rows)]))
theorem bldR_ok {w : World} {B : Nat} {cols : List Co} {rows : List (List Cl)} {u : Value} {P : List Kl} {l fB : List UInt8} (h : segE cols rows = 0) (hP : kls cols rows = P) (hs : segF rows.length P = l) (hf : footF rows.length P = fB) (hu : Own w B u l) : BldR w B cols rows (.returned (.tuple #[u, .int .i64 (fB.length : Nat), .int .i64 0])) := by
  subst hs hf hP; exact .inl ⟨h, u, rfl, hu⟩

set_option maxHeartbeats 8000000 in
theorem build_any (v1 v2 : Value) (cols : List Co) (rows : List (List Cl)) (w : World) (h1 : Ks w v1 cols) (h2 : Rs w v2 rows) (ht : Tab w) (hl : cols.length ≤ 1000000000) (hb : ∀ c ∈ cols, c.name.length ≤ 1000000000) (hr : rows.length ≤ 1000000000) (hi : ∀ r ∈ rows, ∀ c ∈ r, I64 c.num) :
    Calls Tryz.prog 8 #[v1, v2] w fun e w' => BldR w' w.heap.size cols rows e ∧ Fr Non w w' := by
  obtain ⟨A, c, rfl⟩ := h2.shape
  obtain ⟨A1, c1, rfl⟩ := h1.shape
  have H1 := Lib.hid h1
  have H2 := Lib.hid h2
  have HTab := Lib.hid ht
  have HFl := Lib.hid (fault_any _ _ cols rows w h1 h2 hl hb hr)
  by_cases hE : segE cols rows = 0
  · rw [hE] at HFl
    have HE0 := Lib.hid hE
    have hE0 := hE
    unfold segE at hE0
    have hc : chkC cols = 0 := by
      by_cases h : chkC cols = 0
      · exact h
      · rw [if_pos (.inl h)] at hE0; cases hE0
    have hn0 : ¬ rows.length = 0 := by
      intro h
      rw [if_pos (.inr h)] at hE0; cases hE0
    rw [if_neg (by rintro (h | h); exact h hc; exact hn0 h)] at hE0
    have hn : rows.length ≤ 200 := by
      by_cases h : 200 < rows.length
      · rw [if_pos h] at hE0; cases hE0
      · omega
    rw [if_neg (by omega)] at hE0
    have hrb : rows.all (rowB cols) = true := by
      cases h : rows.all (rowB cols)
      · rw [h] at hE0; cases hE0
      · rfl
    have hPl := kls_length cols rows
    have HOk := Lib.hid (kls_ok hc hrb hi)
    have hc6 := (chk_is hc).2.2.2
    have HAt := Lib.hid (kls_at cols rows)
    have HCh := Lib.hid (fun k h => chunk_take (P := kls cols rows) (k := k) h)
    have HSy := Lib.hid (fun k h => says_take (P := kls cols rows) (k := k) rows.length h)
    have HPos : Hid (∀ r ∈ rows, r.length = cols.length) := Lib.hid (fun r hrm => (of_decide_eq_true (List.all_eq_true.1 hrb r hrm)).1.symm)
    have HS0 : Hid (saysF rows.length ((kls cols rows).take 0) = Lib.uvarint rows.length) := Lib.hid (by simp [saysF])
    have HCl := Lib.hid (fun k => chunks_len (P := (kls cols rows).take k) (fun p hp => HOk.out p (List.mem_of_mem_take hp)) hn)
    have HSl := Lib.hid (fun k => says_len (P := (kls cols rows).take k) (fun p hp => HOk.out p (List.mem_of_mem_take hp)) hn (by rw [List.length_take]; omega))
    generalize hKs : kls cols rows = P at *
    have HKs := Lib.hid hKs
    clear hKs
    clear h1 h2 ht hb hE hE0 hc hrb hi hl hr
    go_enter Tryz.func8, Tryz.ntmps8
    go_wp2_with fail
    refine HFl.out.mono ?_
    rintro e w1 ⟨rfl, f1⟩
    have F1 := Lib.hid f1
    clear HFl f1
    go_wp2_with fail
    refine (vnum_any rows.length w1 (by unfold two64; omega)).mono ?_
    rintro e w2 ⟨v2, rfl, ho2, f2⟩
    have F2 := F1.out.trans f2
    rw [← HS0.out] at ho2
    have ho2' := ho2.mono F1.out.size
    clear ho2 f2 F1
    go_wp2
    go_loopw [8, 9, 27] (fun b s i wr => ∃ k : Nat, k ≤ cols.length ∧ i = .int .i64 k ∧ Own wr w.heap.size b ((P.take k).flatMap chunkF) ∧ Own wr w.heap.size s (saysF rows.length (P.take k)) ∧ Far b s ∧ Fr Non w wr) (fun _ _ i _ => cols.length - (intOf i).toNat)
    case atStart => exact ⟨0, Nat.zero_le _, rfl, own_nil _ _, ho2', far_nil _, F2⟩
    case round =>
      clear ho2' F2
      obtain ⟨k, hk, rfl, hO1, hO2, hfar, hF⟩ := hrel
      by_cases hlt : k < cols.length
      · obtain ⟨a, rfl, hat⟩ := (H1.out.non hF).at_ k cols[k] (List.getElem?_eq_getElem hlt)
        have hkP : k < P.length := by omega
        have hok := HOk.out P[k] (List.getElem_mem hkP)
        have hPk := HAt.out k hlt hkP
        have hch := hok.chunk hn
        have hcl := HCl.out k
        have hsl := HSl.out k
        have HCh2 := Lib.hid (HCh.out k hkP)
        have HSy2 := Lib.hid (HSy.out k hkP)
        rw [List.length_take, Nat.min_eq_left (by omega)] at hcl
        rw [hPk] at hok hch HCh2 HSy2
        have hzz := zoneF_ok hok.cells
        have hmay := hok.may
        have hln := hok.len
        have hzt := zoneF_txt hok.cells
        have hzl := zoneB_len (ty := cols[k].ty) (z := zoneF (colC rows k)) ⟨hzt.1, hzt.2.2.1⟩ ⟨hzt.2.1, hzt.2.2.2⟩
        have AC := Lib.hid (fun W (hf : Fr Non w W) => across_any _ rows k W (H2.out.non hf) (by omega) (fun r hr => by rw [HPos.out r hr]; exact hlt))
        dsimp only at hch hmay hln hzz
        have hcf : chunkF (cols[k].ty, colC rows k) = frameB (putC cols[k].ty (colC rows k)) := rfl
        rw [hcf] at hch HCh2 HSy2
        clear hcf
        clear hPk hok hzt
        generalize cols[k] = cc at *
        generalize colC rows k = l at *
        generalize (P.take k).flatMap chunkF = bB at *
        generalize saysF rows.length (P.take k) = sB at *
        obtain ⟨q0, q1, q2⟩ := co_lit hat
        obtain ⟨nm, ty, nl⟩ := cc
        dsimp only at q0 q1 q2 hch hmay hzz hzl HCh2 HSy2
        have PC := Lib.hid (fun W v (hv : Cs W v l) => put_cl ty v l W hv hmay (by omega) (by omega) hch.1)
        have hB0 := hF.size
        have hf3 := hF.alloc (.cells #[.string ⟨nm.toArray⟩, .int .i64 ty, .bool nl] 69)
        have b3 := co_new wr ⟨nm, ty, nl⟩
        have ho13 := hO1.alloc (.cells #[.string ⟨nm.toArray⟩, .int .i64 ty, .bool nl] 69)
        have ho23 := hO2.alloc (.cells #[.string ⟨nm.toArray⟩, .int .i64 ty, .bool nl] 69)
        replace AC := Lib.hid (AC.out _ hf3)
        replace b3 : Hid (CoB _ _ _) := Lib.hid b3
        have HF3 := Lib.hid hf3
        have HO13 := Lib.hid ho13
        have HO23 := Lib.hid ho23
        have HFar := Lib.hid hfar
        have HZ := Lib.hid hzz
        obtain ⟨hch1, hch2, hch3⟩ := hch
        clear hat hF hO1 hO2 hfar hf3 ho13 ho23 hmay hzz HCh HSy HCl HSl HAt HOk
        go_wp2_with fail
        refine AC.out.mono ?_
        rintro e w4 ⟨u4, rfl, ho4, f4⟩
        have b4 : CoB w4 wr.heap.size ⟨nm, ty, nl⟩ := b3.out.fr f4 (fun e => e)
        have F4 := HF3.out.trans f4
        have ho14 := HO13.out.non f4
        have ho24 := HO23.out.non f4
        have c4 : w4.cell? ⟨wr.heap.size, 1, none⟩ = some (.int .i64 ty) := b4.cell 1
        have PC4 := Lib.hid (PC.out w4 u4 ho4.cs)
        have B4 : Hid (CoB w4 wr.heap.size ⟨nm, ty, nl⟩) := Lib.hid b4
        have HF4 := Lib.hid F4
        have HO14 := Lib.hid ho14
        have HO24 := Lib.hid ho24
        have HC4 := Lib.hid ho4
        clear AC PC b3 HF3 HO13 HO23 b4 F4 ho14 ho24 ho4 f4 q0 q1 q2
        go_wp2_with fail
        refine PC4.out.mono ?_
        rintro e w5 ⟨u5, rfl, ho5, f5⟩
        have HF5 := Lib.hid (HF4.out.trans f5)
        have FP := Lib.hid (fput_any u5 _ w5 ho5.bs (HTab.out.non HF5.out) (by omega))
        have f5' := Lib.hid f5
        clear PC4 c4 f5 ho5
        go_wp2_with fail
        refine FP.out.mono ?_
        rintro e w6 ⟨u6, rfl, ho6, f6⟩
        have f46 := f5'.out.trans f6
        have B6 : Hid (CoB w6 wr.heap.size ⟨nm, ty, nl⟩) := Lib.hid (B4.out.fr f46 (fun e => e))
        have HF6 := Lib.hid (HF4.out.trans f46)
        have HO16 := Lib.hid (HO14.out.non f46)
        have HO26 := Lib.hid (HO24.out.non f46)
        have HC6 := Lib.hid (HC4.out.non f46)
        have HLb6 := Lib.hid ho6.bs
        have hlt6 := Lib.hid ho6.lt
        obtain ⟨A6, c6, rfl⟩ := ho6.bs.shape
        have hsz6 := HF6.out.size
        clear FP f46 f5' B4 HF4 HF5 HO14 HO24 HC4 f6 ho6
        generalize frameB (putC ty l) = fB at *
        go_wp2_with (at_builtin; refine wpList_app2 rfl (.tmp 40) (.tmp 41) rfl w.heap.size _ _ bB fB rfl HO16.out rfl HLb6.out (by omega) hsz6 ?_; intro v7 w7 ho7 f7 wh7)
        have hgl6 : wr.heap.size < w6.heap.size := B6.out.lt
        have B7 : Hid (CoB w7 wr.heap.size ⟨nm, ty, nl⟩) := Lib.hid (B6.out.fr f7 (fun e => ow_other HO16.out.ow B6.out u8_ne_co _ e rfl))
        have HF7 := Lib.hid (HF6.out.fresh f7 (fun q hq => (HO16.out.lt q hq).1))
        have HO27 := Lib.hid (HO26.out.fr f7 (fun q hq e => HFar.out q e hq))
        have HC7 := Lib.hid (HC6.out.fr f7 (fun q hq e => oc_other HC6.out HO16.out.ow cell_ne_u8 q hq e))
        have Far7 := Lib.hid (HFar.out.wh wh7 (fun q hq => (HO26.out.lt q hq).2))
        have HO17 := Lib.hid ho7
        have NM := Lib.hid (vnum_any fB.length w7 (by unfold two64; omega))
        clear B6 HF6 HO16 HO26 HC6 HFar ho7 f7 wh7 HLb6 hlt6
        go_wp2_with fail
        refine NM.out.mono ?_
        rintro e w8 ⟨v8, rfl, ho8, f8⟩
        have HF8 := Lib.hid (HF7.out.trans f8)
        have B8 : Hid (CoB w8 wr.heap.size ⟨nm, ty, nl⟩) := Lib.hid (B7.out.fr f8 (fun e => e))
        have HO18 := Lib.hid (HO17.out.non f8)
        have HO28 := Lib.hid (HO27.out.non f8)
        have HC8 := Lib.hid (HC7.out.non f8)
        have HNb8 := Lib.hid ho8.bs
        have hsz8 := HF8.out.size
        have hul := Lib.uvarint_length64 (show fB.length < 18446744073709551616 by omega)
        clear NM HF7 B7 HO17 HO27 HC7 ho8 f8
        generalize Lib.uvarint fB.length = nB at *
        go_wp2_with (at_builtin; refine wpList_app2 rfl (.tmp 43) (.tmp 47) rfl w.heap.size _ v8 sB nB rfl HO28.out rfl HNb8.out (by omega) hsz8 ?_; intro v9 w9 ho9 f9 wh9)
        have B9 : CoB w9.drew wr.heap.size ⟨nm, ty, nl⟩ := B8.out.fr f9.drew (fun e => ow_other HO28.out.ow B8.out u8_ne_co _ e rfl)
        have F9 : Fr Non w w9.drew := HF8.out.fresh f9.drew (fun q hq => (HO28.out.lt q hq).1)
        have HO19 : Own w9.drew w.heap.size v7 (bB ++ fB) := HO18.out.fr f9.drew (fun q hq e => Far7.out q hq e)
        have HC9 : Oc w9.drew _ u4 l := HC8.out.fr f9.drew (fun q hq e => oc_other HC8.out HO28.out.ow cell_ne_u8 q hq e)
        have HO29 : Own w9.drew w.heap.size v9 (sB ++ nB) := ho9
        have Far9 := Lib.hid (Far7.out.symm.wh wh9 (fun q hq => (HO18.out.lt q hq).2))
        have c9 : w9.drew.cell? ⟨wr.heap.size, 1, none⟩ = some (.int .i64 ty) := B9.cell 1
        have ZO := Lib.hid (zoneF_any u4 l w9.drew HC9.cs (by omega))
        have ZP := Lib.hid (fun W => zput_any ty (zoneF l) W HZ.out.1 HZ.out.2)
        have B9' : Hid (CoB _ _ _) := Lib.hid B9
        have HF9 := Lib.hid F9
        have HO19 := Lib.hid HO19
        have HO29 := Lib.hid HO29
        have hsl2 : (sB ++ nB).length ≤ 1000 := by rw [List.length_append]; omega
        clear B8 HF8 HO18 HO28 HC8 Far7 ho9 f9 wh9 HNb8 B9 F9 HC9
        generalize zoneB ty (zoneF l) = zB at *
        generalize sB ++ nB = tB at *
        go_region_held3 (fun W => W.cell? ⟨wr.heap.size, 1, none⟩ = some (.int .i64 ty)) (first | exact c9 | exact c10 | exact c11 | exact c12 | fail) (first | (go_at_call 31; (with_reducible refine ZO.out.mono ?_); rintro e wa ⟨rfl, fa⟩; have B10 : CoB wa _ _ := B9'.out.fr fa (fun e => e); have c10 : wa.cell? ⟨wr.heap.size, 1, none⟩ = some (.int .i64 ty) := B10.cell 1) | (go_at_call 30; (with_reducible refine (ZP.out _).mono ?_); rintro e wb ⟨vb, rfl, hob, fb⟩; have fab := fa.trans fb; have B11 : CoB wb _ _ := B9'.out.fr fab (fun e => e); have c11 : wb.cell? ⟨wr.heap.size, 1, none⟩ = some (.int .i64 ty) := B11.cell 1; have HO2b := HO29.out.non fab; have Fb := HF9.out.trans fab; have hszb := Fb.size; have hobs := hob.bs) | (refine step_app2 rfl (.tmp 49) (.tmp 54) (by rfl) w.heap.size v9 vb tB zB (by rfl) HO2b (by rfl) hobs (by omega) hszb ?_; intro vc wc hoc fc whc; have B12 : CoB wc _ _ := B11.fr fc (fun e => ow_other HO2b.ow B11 u8_ne_co _ e rfl); have c12 : wc.cell? ⟨wr.heap.size, 1, none⟩ = some (.int .i64 ty) := B12.cell 1))
        have HO1b := HO19.out.non fab
        have HO1c := HO1b.fr fc (fun q hq e => Far9.out q e hq)
        have Fc := Fb.fresh fc (fun q hq => (HO2b.lt q hq).1)
        have farc : Far v7 vc := (Far9.out.wh whc (fun q hq => (HO1b.lt q hq).2)).symm
        have HRel := Lib.hid (And.intro HO1c (And.intro hoc (And.intro farc Fc)))
        clear HO1b HO1c Fc farc hoc HO2b Fb B11 B12 B10 c9 c10 c11 c12 fab fa fb fc whc hob hobs ZO ZP B9' HF9 HO19 HO29
        go_wp2
        go_roundw
        case rel => exact ⟨k + 1, by omega, by go_num, by rw [HCh2.out]; exact HRel.out.1, by rw [HSy2.out]; exact HRel.out.2.1, HRel.out.2.2.1, HRel.out.2.2.2⟩
        case measure => simp [intOf]; omega
      · have hkc : k = cols.length := by omega
        have htk : P.take k = P := List.take_of_length_le (by omega)
        have hsl := HSl.out k
        have hcl := HCl.out k
        rw [htk] at hO1 hO2 hsl hcl
        have HSeg : Hid (segF rows.length P = P.flatMap chunkF ++ frameB (saysF rows.length P)) := Lib.hid rfl
        have HFt : Hid (footF rows.length P = frameB (saysF rows.length P)) := Lib.hid rfl
        have hfl := Lib.uvarint_length64 (show (saysF rows.length P).length < 18446744073709551616 by omega)
        have hfb : (frameB (saysF rows.length P)).length ≤ 1000000 := by rw [frame_length]; omega
        have FP := Lib.hid (fput_any _ _ wr hO2.bs (HTab.out.non hF) (by omega))
        have HO1 := Lib.hid hO1
        have HF := Lib.hid hF
        have hPl6 : (P.flatMap chunkF).length ≤ 1000000 := by omega
        clear hO1 hO2 hfar hF HCh HSy HCl HSl HAt HOk hfl htk hkc hsl hcl
        generalize frameB (saysF rows.length P) = fB at *
        generalize P.flatMap chunkF = bB at *
        go_wp2_with fail
        refine FP.out.mono ?_
        rintro e w3 ⟨v3, rfl, ho3, f3⟩
        have HF3 := Lib.hid (HF.out.trans f3)
        have HO3 := Lib.hid (HO1.out.non f3)
        have hsz3 := HF3.out.size
        have HB3 := Lib.hid ho3.bs
        obtain ⟨A3, c3, rfl⟩ := ho3.bs.shape
        clear FP HF HO1 f3 ho3
        go_wp2_with (at_builtin; refine wpList_app2 rfl (.tmp 59) (.tmp 60) rfl w.heap.size _ _ bB fB rfl HO3.out rfl HB3.out (by omega) hsz3 ?_; intro v4 w4 ho4 f4 wh4)
        go_ret3
        exact ⟨bldR_ok HE0.out HKs.out HSeg.out HFt.out ho4, HF3.out.fresh f4 (fun q hq => (HO3.out.lt q hq).1)⟩
  · have HE : Hid (segE cols rows ≠ 0) := Lib.hid hE
    have heb : ((segE cols rows) != 0) = true := by rw [bne_iff_ne]; exact hE
    clear hE h1 h2 ht
    go_enter Tryz.func8, Tryz.ntmps8
    go_wp2_with fail
    refine HFl.out.mono ?_
    rintro e w1 ⟨rfl, f1⟩
    have F1 := Lib.hid f1
    clear HFl f1
    go_wp2
    go_ret3
    exact ⟨.inr ⟨HE.out, rfl⟩, F1.out⟩
end Go.Proofs.YtheefloegbkflaaGreatDoor
