/-
  Joined: Fold2, Fold3, HeldK, GrpV, GrpT
-/
import Derived.Lib.Zigzag
import Derived.Deep.QuietTactic
import Derived.BigQuiet
import Derived.Deep.RegionHeld3
import Derived.Deep.DrawnRows
import Derived.Shelf.Strings.Replace
import Derived.Shelf.Strconv.Itoa4
import Derived.Shelf.Strings.OnBuilder
import Derived.Test.YtjcfjjhhbcgcmaaGreatProg
import Derived.Lib.SmallJoins
import Derived.Lib.AppendIntMem
import Derived.Laws.StructEq
import Derived.Laws.Rows
import Derived.Laws.ResultCell
import Derived.Deep.RegionWith
import Derived.Test.YtjcfjjhhbcgcmaaGreatZ13
import Derived.Test.YtjcfjjhhbcgcmaaGreatZ1
import Derived.StillTail
import Derived.Test.YtjcfjjhhbcgcmaaGreatZ2
import Derived.Test.YtjcfjjhhbcgcmaaGreatZ7
import Derived.Test.YtjcfjjhhbcgcmaaGreatZ4
set_option linter.unusedVariables false
set_option linter.unusedSimpArgs false
set_option maxRecDepth 100000
namespace Go.Proofs.YtjcfjjhhbcgcmaaGreat
open Go.RowKit
theorem fnew_any (w : World) : Calls Tryz.prog 99 #[] w fun e w' => e = .returned (fsV noFs) ∧ Fr Non w w' := by
  have hB := Lib.hid (fs_new w noFs w.heap.size rfl)
  have F := Lib.hid ((Fr.refl Non w).alloc (.cells (fsC noFs) 122))
  unfold fsC noFs noCl at hB F
  dsimp only at hB F
  go_enter Tryz.func99, Tryz.ntmps99
  go_wp2
  exact bodyPost_ret (v := fsV noFs) (ret_fs (p := 0) rfl _ _ _ noFs (by rfl) hB.out) rfl ⟨rfl, F.out⟩
theorem fof_any (c : Cl) (w : World) : Calls Tryz.prog 120 #[clV c] w fun e w' => e = .returned (fsV (oneS c)) ∧ Fr Non w w' := by
  obtain ⟨n, i, t⟩ := c
  obtain ⟨W, hW⟩ : ∃ W, W = w.alloc (.cells #[.bool n, .int .i64 i, .string ⟨t.toArray⟩] 25) := ⟨_, rfl⟩
  have hC : ClB W w.heap.size ⟨n, i, t⟩ := by rw [hW]; exact cl_newG w ⟨n, i, t⟩ _ rfl
  have hs : W.heap.size = w.heap.size + 1 := by rw [hW]; simp
  have F0 : Fr Non w W := by rw [hW]; exact (Fr.refl Non w).alloc _
  have hB := Lib.hid (fs_new W (oneS ⟨n, i, t⟩) (w.heap.size + 1) hs)
  have F := Lib.hid (F0.alloc (.cells (fsC (oneS ⟨n, i, t⟩)) 122))
  obtain ⟨a0, a1, a2, -, -, -⟩ := hC.facts
  dsimp only at a0 a1 a2
  clear hC F0 hs
  unfold fsC oneS noCl at hB F
  unfold clV clC
  dsimp only at hB F ⊢
  cases n
  · simp only [Bool.false_eq_true, if_false] at hB F
    subst hW
    go_enter Tryz.func120, Tryz.ntmps120
    go_wp2
    exact bodyPost_ret (v := fsV (oneS ⟨false, i, t⟩)) (ret_fs (p := 2) rfl _ _ _ (oneS ⟨false, i, t⟩) (by rfl) hB.out) rfl ⟨rfl, F.out⟩
  · simp only [if_true] at hB F
    subst hW
    go_enter Tryz.func120, Tryz.ntmps120
    go_wp2
    exact bodyPost_ret (v := fsV (oneS ⟨true, i, t⟩)) (ret_fs (p := 2) rfl _ _ _ (oneS ⟨true, i, t⟩) (by rfl) hB.out) rfl ⟨rfl, F.out⟩
set_option maxHeartbeats 1000000 in
theorem fles_any (a b : Cl) (w : World) : Calls Tryz.prog 136 #[clV a, clV b] w fun e w' => e = .returned (clV (lesF a b)) ∧ Fr Non w w' := by
  have O := Lib.hid (fun W => order_any a b W)
  obtain ⟨o, ho⟩ : ∃ o, ordC a b = o := ⟨_, rfl⟩
  obtain ⟨an, ai, at_⟩ := a
  obtain ⟨bn, bi, bt⟩ := b
  rw [ho] at O
  obtain ⟨g, hg⟩ : ∃ g, w.heap.size = g := ⟨_, rfl⟩
  have hA0 := cl_newG w ⟨an, ai, at_⟩ g hg
  have F1 := (Fr.refl Non w).alloc (.cells #[.bool an, .int .i64 ai, .string ⟨at_.toArray⟩] 25)
  have s1 : (w.alloc (.cells #[.bool an, .int .i64 ai, .string ⟨at_.toArray⟩] 25)).heap.size = g + 1 := by simp [hg]
  have hB0 := cl_newG _ ⟨bn, bi, bt⟩ _ s1
  have F2 := (Fr.refl Non (w.alloc (.cells #[.bool an, .int .i64 ai, .string ⟨at_.toArray⟩] 25))).alloc (.cells #[.bool bn, .int .i64 bi, .string ⟨bt.toArray⟩] 25)
  have s2 : ((w.alloc (.cells #[.bool an, .int .i64 ai, .string ⟨at_.toArray⟩] 25)).alloc (.cells #[.bool bn, .int .i64 bi, .string ⟨bt.toArray⟩] 25)).heap.size = g + 2 := by simp [hg]
  have hR0 := cl_newG _ ⟨false, 0, []⟩ _ s2
  have F3 := (Fr.refl Non ((w.alloc (.cells #[.bool an, .int .i64 ai, .string ⟨at_.toArray⟩] 25)).alloc (.cells #[.bool bn, .int .i64 bi, .string ⟨bt.toArray⟩] 25))).alloc (.cells #[.bool false, .int .i64 0, .string ⟨([] : List UInt8).toArray⟩] 25)
  have hA := Lib.hid ((hA0.fr F2 (fun e => e)).fr F3 (fun e => e))
  have hB := Lib.hid (hB0.fr F3 (fun e => e))
  have hR := Lib.hid hR0
  have F := Lib.hid ((F1.trans F2).trans F3)
  clear hA0 hB0 hR0 F1 F2 F3 s1 s2
  dsimp only at hA hB hR
  unfold clV clC at *
  dsimp only at *
  by_cases hc : 0 < o
  · have hE : lesF ⟨an, ai, at_⟩ ⟨bn, bi, bt⟩ = ⟨bn, bi, bt⟩ := by unfold lesF; exact if_pos (show 0 < ordC _ _ from by rw [ho]; exact hc)
    replace hE := Lib.hid hE
    go_enter Tryz.func136, Tryz.ntmps136
    go_wp2_with fail
    refine (O.out _).mono ?_
    rintro e w4 ⟨rfl, f4⟩
    obtain ⟨a0, a1, a2, -, -, -⟩ := ClB.facts (c := ⟨an, ai, at_⟩) (hA.out.fr f4 (fun e => e))
    obtain ⟨b0, b1, b2, -, -, -⟩ := ClB.facts (c := ⟨bn, bi, bt⟩) (hB.out.fr f4 (fun e => e))
    have hR4 : ClB w4 (g + 2) ⟨false, 0, []⟩ := hR.out.fr f4 (fun e => e)
    obtain ⟨p0, p1, p2, z0, z1, z2⟩ := hR4.facts
    dsimp only at a0 a1 a2 b0 b1 b2 p0 p1 p2
    have HE := Lib.hid (setCl_B hR4 bn bi bt)
    have FE := Lib.hid ((F.out.trans f4).fresh (setCl_fr w4 (g + 2) bn bi bt) (fun k e => by have : k = g + 2 := e; omega))
    clear hR4 f4
    go_wp2
    exact bodyPost_ret (v := clV ⟨bn, bi, bt⟩) (ret_cl (p := 4) rfl _ _ (g + 2) ⟨bn, bi, bt⟩ (by rfl) HE.out) rfl ⟨by rw [hE.out]; rfl, FE.out⟩
  · have hE : lesF ⟨an, ai, at_⟩ ⟨bn, bi, bt⟩ = ⟨an, ai, at_⟩ := by unfold lesF; exact if_neg (show ¬ 0 < ordC _ _ from by rw [ho]; exact hc)
    replace hE := Lib.hid hE
    go_enter Tryz.func136, Tryz.ntmps136
    go_wp2_with fail
    refine (O.out _).mono ?_
    rintro e w4 ⟨rfl, f4⟩
    obtain ⟨a0, a1, a2, -, -, -⟩ := ClB.facts (c := ⟨an, ai, at_⟩) (hA.out.fr f4 (fun e => e))
    obtain ⟨b0, b1, b2, -, -, -⟩ := ClB.facts (c := ⟨bn, bi, bt⟩) (hB.out.fr f4 (fun e => e))
    have hR4 : ClB w4 (g + 2) ⟨false, 0, []⟩ := hR.out.fr f4 (fun e => e)
    obtain ⟨p0, p1, p2, z0, z1, z2⟩ := hR4.facts
    dsimp only at a0 a1 a2 b0 b1 b2 p0 p1 p2
    have HE := Lib.hid (setCl_B hR4 an ai at_)
    have FE := Lib.hid ((F.out.trans f4).fresh (setCl_fr w4 (g + 2) an ai at_) (fun k e => by have : k = g + 2 := e; omega))
    clear hR4 f4
    go_wp2
    exact bodyPost_ret (v := clV ⟨an, ai, at_⟩) (ret_cl (p := 4) rfl _ _ (g + 2) ⟨an, ai, at_⟩ (by rfl) HE.out) rfl ⟨by rw [hE.out]; rfl, FE.out⟩
set_option maxHeartbeats 1000000 in
theorem fgrt_any (a b : Cl) (w : World) : Calls Tryz.prog 137 #[clV a, clV b] w fun e w' => e = .returned (clV (grtF a b)) ∧ Fr Non w w' := by
  have O := Lib.hid (fun W => order_any a b W)
  obtain ⟨o, ho⟩ : ∃ o, ordC a b = o := ⟨_, rfl⟩
  obtain ⟨an, ai, at_⟩ := a
  obtain ⟨bn, bi, bt⟩ := b
  rw [ho] at O
  obtain ⟨g, hg⟩ : ∃ g, w.heap.size = g := ⟨_, rfl⟩
  have hA0 := cl_newG w ⟨an, ai, at_⟩ g hg
  have F1 := (Fr.refl Non w).alloc (.cells #[.bool an, .int .i64 ai, .string ⟨at_.toArray⟩] 25)
  have s1 : (w.alloc (.cells #[.bool an, .int .i64 ai, .string ⟨at_.toArray⟩] 25)).heap.size = g + 1 := by simp [hg]
  have hB0 := cl_newG _ ⟨bn, bi, bt⟩ _ s1
  have F2 := (Fr.refl Non (w.alloc (.cells #[.bool an, .int .i64 ai, .string ⟨at_.toArray⟩] 25))).alloc (.cells #[.bool bn, .int .i64 bi, .string ⟨bt.toArray⟩] 25)
  have s2 : ((w.alloc (.cells #[.bool an, .int .i64 ai, .string ⟨at_.toArray⟩] 25)).alloc (.cells #[.bool bn, .int .i64 bi, .string ⟨bt.toArray⟩] 25)).heap.size = g + 2 := by simp [hg]
  have hR0 := cl_newG _ ⟨false, 0, []⟩ _ s2
  have F3 := (Fr.refl Non ((w.alloc (.cells #[.bool an, .int .i64 ai, .string ⟨at_.toArray⟩] 25)).alloc (.cells #[.bool bn, .int .i64 bi, .string ⟨bt.toArray⟩] 25))).alloc (.cells #[.bool false, .int .i64 0, .string ⟨([] : List UInt8).toArray⟩] 25)
  have hA := Lib.hid ((hA0.fr F2 (fun e => e)).fr F3 (fun e => e))
  have hB := Lib.hid (hB0.fr F3 (fun e => e))
  have hR := Lib.hid hR0
  have F := Lib.hid ((F1.trans F2).trans F3)
  clear hA0 hB0 hR0 F1 F2 F3 s1 s2
  dsimp only at hA hB hR
  unfold clV clC at *
  dsimp only at *
  by_cases hc : o < 0
  · have hE : grtF ⟨an, ai, at_⟩ ⟨bn, bi, bt⟩ = ⟨bn, bi, bt⟩ := by unfold grtF; exact if_pos (show ordC _ _ < 0 from by rw [ho]; exact hc)
    replace hE := Lib.hid hE
    go_enter Tryz.func137, Tryz.ntmps137
    go_wp2_with fail
    refine (O.out _).mono ?_
    rintro e w4 ⟨rfl, f4⟩
    obtain ⟨a0, a1, a2, -, -, -⟩ := ClB.facts (c := ⟨an, ai, at_⟩) (hA.out.fr f4 (fun e => e))
    obtain ⟨b0, b1, b2, -, -, -⟩ := ClB.facts (c := ⟨bn, bi, bt⟩) (hB.out.fr f4 (fun e => e))
    have hR4 : ClB w4 (g + 2) ⟨false, 0, []⟩ := hR.out.fr f4 (fun e => e)
    obtain ⟨p0, p1, p2, z0, z1, z2⟩ := hR4.facts
    dsimp only at a0 a1 a2 b0 b1 b2 p0 p1 p2
    have HE := Lib.hid (setCl_B hR4 bn bi bt)
    have FE := Lib.hid ((F.out.trans f4).fresh (setCl_fr w4 (g + 2) bn bi bt) (fun k e => by have : k = g + 2 := e; omega))
    clear hR4 f4
    go_wp2
    exact bodyPost_ret (v := clV ⟨bn, bi, bt⟩) (ret_cl (p := 4) rfl _ _ (g + 2) ⟨bn, bi, bt⟩ (by rfl) HE.out) rfl ⟨by rw [hE.out]; rfl, FE.out⟩
  · have hE : grtF ⟨an, ai, at_⟩ ⟨bn, bi, bt⟩ = ⟨an, ai, at_⟩ := by unfold grtF; exact if_neg (show ¬ ordC _ _ < 0 from by rw [ho]; exact hc)
    replace hE := Lib.hid hE
    go_enter Tryz.func137, Tryz.ntmps137
    go_wp2_with fail
    refine (O.out _).mono ?_
    rintro e w4 ⟨rfl, f4⟩
    obtain ⟨a0, a1, a2, -, -, -⟩ := ClB.facts (c := ⟨an, ai, at_⟩) (hA.out.fr f4 (fun e => e))
    obtain ⟨b0, b1, b2, -, -, -⟩ := ClB.facts (c := ⟨bn, bi, bt⟩) (hB.out.fr f4 (fun e => e))
    have hR4 : ClB w4 (g + 2) ⟨false, 0, []⟩ := hR.out.fr f4 (fun e => e)
    obtain ⟨p0, p1, p2, z0, z1, z2⟩ := hR4.facts
    dsimp only at a0 a1 a2 b0 b1 b2 p0 p1 p2
    have HE := Lib.hid (setCl_B hR4 an ai at_)
    have FE := Lib.hid ((F.out.trans f4).fresh (setCl_fr w4 (g + 2) an ai at_) (fun k e => by have : k = g + 2 := e; omega))
    clear hR4 f4
    go_wp2
    exact bodyPost_ret (v := clV ⟨an, ai, at_⟩) (ret_cl (p := 4) rfl _ _ (g + 2) ⟨an, ai, at_⟩ (by rfl) HE.out) rfl ⟨by rw [hE.out]; rfl, FE.out⟩
theorem ftcnt_any (s : Fs) (w : World) : Calls Tryz.prog 138 #[fsV s] w fun e w' => e = .returned (clV ⟨false, s.cnt, []⟩) ∧ Fr Non w w' := by
  obtain ⟨a, b, c, d, ⟨ln, li, lt⟩, ⟨hn, hi, ht⟩⟩ := s
  obtain ⟨g, hg⟩ : ∃ g, w.heap.size = g := ⟨_, rfl⟩
  obtain ⟨W, hW⟩ : ∃ W, W = w.alloc (.cells #[.int .i64 a, .int .i64 b, .int .i64 c, .bool d, .bool ln, .int .i64 li, .string ⟨lt.toArray⟩, .bool hn, .int .i64 hi, .string ⟨ht.toArray⟩] 122) := ⟨_, rfl⟩
  have hS : FsB W g ⟨a, b, c, d, ⟨ln, li, lt⟩, ⟨hn, hi, ht⟩⟩ := by rw [hW]; exact fs_new w ⟨a, b, c, d, ⟨ln, li, lt⟩, ⟨hn, hi, ht⟩⟩ g hg
  have hs : W.heap.size = g + 1 := by rw [hW]; simp [hg]
  have F0 : Fr Non w W := by rw [hW]; exact (Fr.refl Non w).alloc _
  have hB := Lib.hid (cl_newG W ⟨false, a, []⟩ (g + 1) hs)
  have F := Lib.hid (F0.alloc (.cells #[.bool false, .int .i64 a, .string ⟨([] : List UInt8).toArray⟩] 25))
  obtain ⟨c0, c1, c2, c3, c4, c5, c6, c7, c8, c9⟩ := fsB_cells hS
  dsimp only at c0 c1 c2 c3 c4 c5 c6 c7 c8 c9
  clear hS F0 hs
  unfold fsV fsC
  dsimp only at hB F ⊢
  subst hW
  go_enter Tryz.func138, Tryz.ntmps138
  go_wp2
  exact bodyPost_ret (v := clV ⟨false, a, []⟩) (ret_cl (p := 2) rfl _ _ (g + 1) ⟨false, a, []⟩ (by simp [hg]) hB.out) rfl ⟨rfl, F.out⟩
theorem fthas_any (s : Fs) (w : World) : Calls Tryz.prog 139 #[fsV s] w fun e w' => e = .returned (clV ⟨false, s.has, []⟩) ∧ Fr Non w w' := by
  obtain ⟨a, b, c, d, ⟨ln, li, lt⟩, ⟨hn, hi, ht⟩⟩ := s
  obtain ⟨g, hg⟩ : ∃ g, w.heap.size = g := ⟨_, rfl⟩
  obtain ⟨W, hW⟩ : ∃ W, W = w.alloc (.cells #[.int .i64 a, .int .i64 b, .int .i64 c, .bool d, .bool ln, .int .i64 li, .string ⟨lt.toArray⟩, .bool hn, .int .i64 hi, .string ⟨ht.toArray⟩] 122) := ⟨_, rfl⟩
  have hS : FsB W g ⟨a, b, c, d, ⟨ln, li, lt⟩, ⟨hn, hi, ht⟩⟩ := by rw [hW]; exact fs_new w ⟨a, b, c, d, ⟨ln, li, lt⟩, ⟨hn, hi, ht⟩⟩ g hg
  have hs : W.heap.size = g + 1 := by rw [hW]; simp [hg]
  have F0 : Fr Non w W := by rw [hW]; exact (Fr.refl Non w).alloc _
  have hB := Lib.hid (cl_newG W ⟨false, b, []⟩ (g + 1) hs)
  have F := Lib.hid (F0.alloc (.cells #[.bool false, .int .i64 b, .string ⟨([] : List UInt8).toArray⟩] 25))
  obtain ⟨c0, c1, c2, c3, c4, c5, c6, c7, c8, c9⟩ := fsB_cells hS
  dsimp only at c0 c1 c2 c3 c4 c5 c6 c7 c8 c9
  clear hS F0 hs
  unfold fsV fsC
  dsimp only at hB F ⊢
  subst hW
  go_enter Tryz.func139, Tryz.ntmps139
  go_wp2
  exact bodyPost_ret (v := clV ⟨false, b, []⟩) (ret_cl (p := 2) rfl _ _ (g + 1) ⟨false, b, []⟩ (by simp [hg]) hB.out) rfl ⟨rfl, F.out⟩
set_option maxHeartbeats 1000000 in
theorem fifs_any (s : Fs) (x : Cl) (w : World) : Calls Tryz.prog 157 #[fsV s, clV x] w fun e w' => e = .returned (clV (sumS s x)) ∧ Fr Non w w' := by
  obtain ⟨cn, ci, ct⟩ := x
  obtain ⟨a, b, c, d, ⟨ln, li, lt⟩, ⟨hn, hi, ht⟩⟩ := s
  obtain ⟨g, hg⟩ : ∃ g, w.heap.size = g := ⟨_, rfl⟩
  obtain ⟨W, hW⟩ : ∃ W, W = w.alloc (.cells #[.int .i64 a, .int .i64 b, .int .i64 c, .bool d, .bool ln, .int .i64 li, .string ⟨lt.toArray⟩, .bool hn, .int .i64 hi, .string ⟨ht.toArray⟩] 122) := ⟨_, rfl⟩
  have hS : FsB W g ⟨a, b, c, d, ⟨ln, li, lt⟩, ⟨hn, hi, ht⟩⟩ := by rw [hW]; exact fs_new w ⟨a, b, c, d, ⟨ln, li, lt⟩, ⟨hn, hi, ht⟩⟩ g hg
  have hs : W.heap.size = g + 1 := by rw [hW]; simp [hg]
  have F0 : Fr Non w W := by rw [hW]; exact (Fr.refl Non w).alloc _
  obtain ⟨W2, hW2⟩ : ∃ W2, W2 = W.alloc (.cells #[.bool cn, .int .i64 ci, .string ⟨ct.toArray⟩] 25) := ⟨_, rfl⟩
  have hC : ClB W2 (g + 1) ⟨cn, ci, ct⟩ := by rw [hW2]; exact cl_newG W ⟨cn, ci, ct⟩ _ hs
  have hs2 : W2.heap.size = g + 2 := by rw [hW2]; simp [hs]
  have F1 : Fr Non W W2 := by rw [hW2]; exact (Fr.refl Non W).alloc _
  have F2 := F0.trans F1
  obtain ⟨c0, c1, c2, c3, c4, c5, c6, c7, c8, c9⟩ := fsB_cells (show FsB W2 g ⟨a, b, c, d, ⟨ln, li, lt⟩, ⟨hn, hi, ht⟩⟩ from hS.fr F1 (fun e => e))
  obtain ⟨a0, a1, a2, -, -, -⟩ := hC.facts
  dsimp only at c0 c1 c2 c3 c4 c5 c6 c7 c8 c9 a0 a1 a2
  clear hS hC F0 F1 hs
  unfold fsV fsC clV clC
  dsimp only
  cases d
  · have hB := Lib.hid (cl_newG W2 ⟨true, 0, []⟩ (g + 2) hs2)
    have F := Lib.hid (F2.alloc (.cells #[.bool true, .int .i64 0, .string ⟨([] : List UInt8).toArray⟩] 25))
    dsimp only at hB F
    subst hW2
    subst hW
    go_enter Tryz.func157, Tryz.ntmps157
    go_wp2
    exact bodyPost_ret (v := clV ⟨true, 0, []⟩) (ret_cl (p := 4) rfl _ _ (g + 2) ⟨true, 0, []⟩ (by simp [hg]) hB.out) rfl ⟨rfl, F.out⟩
  · have hB := Lib.hid (cl_newG W2 ⟨cn, ci, ct⟩ (g + 2) hs2)
    have F := Lib.hid (F2.alloc (.cells #[.bool cn, .int .i64 ci, .string ⟨ct.toArray⟩] 25))
    dsimp only at hB F
    subst hW2
    subst hW
    go_enter Tryz.func157, Tryz.ntmps157
    go_wp2
    exact bodyPost_ret (v := clV ⟨cn, ci, ct⟩) (ret_cl (p := 4) rfl _ _ (g + 2) ⟨cn, ci, ct⟩ (by simp [hg]) hB.out) rfl ⟨rfl, F.out⟩
set_option maxHeartbeats 1000000 in
theorem ftsum_any (s : Fs) (w : World) : Calls Tryz.prog 140 #[fsV s] w fun e w' => e = .returned (clV (sumS s ⟨false, s.sum, []⟩)) ∧ Fr Non w w' := by
  obtain ⟨a, b, c, d, ⟨ln, li, lt⟩, ⟨hn, hi, ht⟩⟩ := s
  obtain ⟨g, hg⟩ : ∃ g, w.heap.size = g := ⟨_, rfl⟩
  obtain ⟨W, hW⟩ : ∃ W, W = w.alloc (.cells #[.int .i64 a, .int .i64 b, .int .i64 c, .bool d, .bool ln, .int .i64 li, .string ⟨lt.toArray⟩, .bool hn, .int .i64 hi, .string ⟨ht.toArray⟩] 122) := ⟨_, rfl⟩
  have hS : FsB W g ⟨a, b, c, d, ⟨ln, li, lt⟩, ⟨hn, hi, ht⟩⟩ := by rw [hW]; exact fs_new w ⟨a, b, c, d, ⟨ln, li, lt⟩, ⟨hn, hi, ht⟩⟩ g hg
  have hs : W.heap.size = g + 1 := by rw [hW]; simp [hg]
  have F0 : Fr Non w W := by rw [hW]; exact (Fr.refl Non w).alloc _
  obtain ⟨c0, c1, c2, c3, c4, c5, c6, c7, c8, c9⟩ := fsB_cells hS
  dsimp only at c0 c1 c2 c3 c4 c5 c6 c7 c8 c9
  have hB0 := cl_newG W ⟨false, 0, []⟩ (g + 1) hs
  have FR := F0.alloc (.cells #[.bool false, .int .i64 0, .string ⟨([] : List UInt8).toArray⟩] 25)
  replace hB0 := Lib.hid hB0
  replace FR := Lib.hid FR
  have O := Lib.hid (fun W' => fifs_any ⟨a, b, c, d, ⟨ln, li, lt⟩, ⟨hn, hi, ht⟩⟩ ⟨false, c, []⟩ W')
  obtain ⟨r, hr⟩ : ∃ r, sumS ⟨a, b, c, d, ⟨ln, li, lt⟩, ⟨hn, hi, ht⟩⟩ ⟨false, c, []⟩ = r := ⟨_, rfl⟩
  rw [hr] at O
  dsimp only
  rw [hr]
  clear hr hS F0 hs
  obtain ⟨rn, ri, rt⟩ := r
  unfold clV clC at O ⊢
  unfold fsV fsC at O ⊢
  dsimp only at O hB0 FR ⊢
  subst hW
  go_enter Tryz.func140, Tryz.ntmps140
  go_wp2_with fail
  refine (O.out _).mono ?_
  rintro e w4 ⟨rfl, f4⟩
  have hB4 : ClB w4 (g + 1) ⟨false, 0, []⟩ := hB0.out.fr f4 (fun e => e)
  obtain ⟨p0, p1, p2, z0, z1, z2⟩ := hB4.facts
  dsimp only at p0 p1 p2
  have HE := Lib.hid (setCl_B hB4 rn ri rt)
  have FE := Lib.hid ((FR.out.trans f4).fresh (setCl_fr w4 (g + 1) rn ri rt) (fun k e => by have : k = g + 1 := e; omega))
  clear hB4 f4
  go_wp2
  exact bodyPost_ret (v := clV ⟨rn, ri, rt⟩) (ret_cl (p := 2) rfl _ _ (g + 1) ⟨rn, ri, rt⟩ (by simp [hg]) HE.out) rfl ⟨rfl, FE.out⟩
set_option maxHeartbeats 1000000 in
theorem ftlow_any (s : Fs) (w : World) : Calls Tryz.prog 141 #[fsV s] w fun e w' => e = .returned (clV (sumS s s.low)) ∧ Fr Non w w' := by
  obtain ⟨a, b, c, d, ⟨ln, li, lt⟩, ⟨hn, hi, ht⟩⟩ := s
  obtain ⟨g, hg⟩ : ∃ g, w.heap.size = g := ⟨_, rfl⟩
  obtain ⟨W, hW⟩ : ∃ W, W = w.alloc (.cells #[.int .i64 a, .int .i64 b, .int .i64 c, .bool d, .bool ln, .int .i64 li, .string ⟨lt.toArray⟩, .bool hn, .int .i64 hi, .string ⟨ht.toArray⟩] 122) := ⟨_, rfl⟩
  have hS : FsB W g ⟨a, b, c, d, ⟨ln, li, lt⟩, ⟨hn, hi, ht⟩⟩ := by rw [hW]; exact fs_new w ⟨a, b, c, d, ⟨ln, li, lt⟩, ⟨hn, hi, ht⟩⟩ g hg
  have hs : W.heap.size = g + 1 := by rw [hW]; simp [hg]
  have F0 : Fr Non w W := by rw [hW]; exact (Fr.refl Non w).alloc _
  obtain ⟨c0, c1, c2, c3, c4, c5, c6, c7, c8, c9⟩ := fsB_cells hS
  dsimp only at c0 c1 c2 c3 c4 c5 c6 c7 c8 c9
  have hB0 := cl_newG W ⟨false, 0, []⟩ (g + 1) hs
  have FR := F0.alloc (.cells #[.bool false, .int .i64 0, .string ⟨([] : List UInt8).toArray⟩] 25)
  replace hB0 := Lib.hid hB0
  replace FR := Lib.hid FR
  have O := Lib.hid (fun W' => fifs_any ⟨a, b, c, d, ⟨ln, li, lt⟩, ⟨hn, hi, ht⟩⟩ ⟨ln, li, lt⟩ W')
  obtain ⟨r, hr⟩ : ∃ r, sumS ⟨a, b, c, d, ⟨ln, li, lt⟩, ⟨hn, hi, ht⟩⟩ ⟨ln, li, lt⟩ = r := ⟨_, rfl⟩
  rw [hr] at O
  dsimp only
  rw [hr]
  clear hr hS F0 hs
  obtain ⟨rn, ri, rt⟩ := r
  unfold clV clC at O ⊢
  unfold fsV fsC at O ⊢
  dsimp only at O hB0 FR ⊢
  subst hW
  go_enter Tryz.func141, Tryz.ntmps141
  go_wp2_with fail
  refine (O.out _).mono ?_
  rintro e w4 ⟨rfl, f4⟩
  have hB4 : ClB w4 (g + 1) ⟨false, 0, []⟩ := hB0.out.fr f4 (fun e => e)
  obtain ⟨p0, p1, p2, z0, z1, z2⟩ := hB4.facts
  dsimp only at p0 p1 p2
  have HE := Lib.hid (setCl_B hB4 rn ri rt)
  have FE := Lib.hid ((FR.out.trans f4).fresh (setCl_fr w4 (g + 1) rn ri rt) (fun k e => by have : k = g + 1 := e; omega))
  clear hB4 f4
  go_wp2
  exact bodyPost_ret (v := clV ⟨rn, ri, rt⟩) (ret_cl (p := 2) rfl _ _ (g + 1) ⟨rn, ri, rt⟩ (by simp [hg]) HE.out) rfl ⟨rfl, FE.out⟩
set_option maxHeartbeats 1000000 in
theorem fthigh_any (s : Fs) (w : World) : Calls Tryz.prog 142 #[fsV s] w fun e w' => e = .returned (clV (sumS s s.high)) ∧ Fr Non w w' := by
  obtain ⟨a, b, c, d, ⟨ln, li, lt⟩, ⟨hn, hi, ht⟩⟩ := s
  obtain ⟨g, hg⟩ : ∃ g, w.heap.size = g := ⟨_, rfl⟩
  obtain ⟨W, hW⟩ : ∃ W, W = w.alloc (.cells #[.int .i64 a, .int .i64 b, .int .i64 c, .bool d, .bool ln, .int .i64 li, .string ⟨lt.toArray⟩, .bool hn, .int .i64 hi, .string ⟨ht.toArray⟩] 122) := ⟨_, rfl⟩
  have hS : FsB W g ⟨a, b, c, d, ⟨ln, li, lt⟩, ⟨hn, hi, ht⟩⟩ := by rw [hW]; exact fs_new w ⟨a, b, c, d, ⟨ln, li, lt⟩, ⟨hn, hi, ht⟩⟩ g hg
  have hs : W.heap.size = g + 1 := by rw [hW]; simp [hg]
  have F0 : Fr Non w W := by rw [hW]; exact (Fr.refl Non w).alloc _
  obtain ⟨c0, c1, c2, c3, c4, c5, c6, c7, c8, c9⟩ := fsB_cells hS
  dsimp only at c0 c1 c2 c3 c4 c5 c6 c7 c8 c9
  have hB0 := cl_newG W ⟨false, 0, []⟩ (g + 1) hs
  have FR := F0.alloc (.cells #[.bool false, .int .i64 0, .string ⟨([] : List UInt8).toArray⟩] 25)
  replace hB0 := Lib.hid hB0
  replace FR := Lib.hid FR
  have O := Lib.hid (fun W' => fifs_any ⟨a, b, c, d, ⟨ln, li, lt⟩, ⟨hn, hi, ht⟩⟩ ⟨hn, hi, ht⟩ W')
  obtain ⟨r, hr⟩ : ∃ r, sumS ⟨a, b, c, d, ⟨ln, li, lt⟩, ⟨hn, hi, ht⟩⟩ ⟨hn, hi, ht⟩ = r := ⟨_, rfl⟩
  rw [hr] at O
  dsimp only
  rw [hr]
  clear hr hS F0 hs
  obtain ⟨rn, ri, rt⟩ := r
  unfold clV clC at O ⊢
  unfold fsV fsC at O ⊢
  dsimp only at O hB0 FR ⊢
  subst hW
  go_enter Tryz.func142, Tryz.ntmps142
  go_wp2_with fail
  refine (O.out _).mono ?_
  rintro e w4 ⟨rfl, f4⟩
  have hB4 : ClB w4 (g + 1) ⟨false, 0, []⟩ := hB0.out.fr f4 (fun e => e)
  obtain ⟨p0, p1, p2, z0, z1, z2⟩ := hB4.facts
  dsimp only at p0 p1 p2
  have HE := Lib.hid (setCl_B hB4 rn ri rt)
  have FE := Lib.hid ((FR.out.trans f4).fresh (setCl_fr w4 (g + 1) rn ri rt) (fun k e => by have : k = g + 1 := e; omega))
  clear hB4 f4
  go_wp2
  exact bodyPost_ret (v := clV ⟨rn, ri, rt⟩) (ret_cl (p := 2) rfl _ _ (g + 1) ⟨rn, ri, rt⟩ (by simp [hg]) HE.out) rfl ⟨rfl, FE.out⟩
theorem ftype_any (op ty : Int) (w : World) : Calls Tryz.prog 34 #[.int .i64 op, .int .i64 ty] w fun e w' => e = .returned (.int .i64 (typF op ty)) ∧ w = w' := by
  go_enter Tryz.func34, Tryz.ntmps34
  go_wp2
  all_goals
    go_ret
    exact ⟨ret_int (by simp only [beq_iff_eq, beq_eq_false_iff_ne, ne_eq] at *; unfold typF; repeat' split; all_goals first | rfl | omega), rfl⟩
theorem fn_not_nil (W : World) (f : Nat) : (binOp .eql 140 (.func (.func f) #[] #[]) .nilFunc).run Tryz.prog W = .ok (.bool false) W := by kernel_rfl
theorem fn_nil_nil (W : World) : (binOp .eql 140 .nilFunc .nilFunc).run Tryz.prog W = .ok (.bool true) W := by kernel_rfl
def telFn (op : Int) : Value := if op = 1 then .func (.func 138) #[] #[] else if op = 2 then .func (.func 139) #[] #[] else if op = 3 then .func (.func 140) #[] #[] else if op = 4 then .func (.func 141) #[] #[] else if op = 5 then .func (.func 142) #[] #[] else .nilFunc
theorem ftel_any (op : Int) (w : World) : Calls Tryz.prog 121 #[.int .i64 op] w fun e w' => e = .returned (telFn op) ∧ w = w' := by
  go_enter Tryz.func121, Tryz.ntmps121
  go_wp2
  all_goals
    go_ret
    exact ⟨by simp only [beq_iff_eq, beq_eq_false_iff_ne, ne_eq] at *; unfold telFn; simp_all, rfl⟩
set_option maxHeartbeats 2000000 in
theorem fval_any (op : Int) (s : Fs) (w : World) : Calls Tryz.prog 101 #[fsV s, .int .i64 op] w fun e w' => e = .returned (clV (valS op s)) ∧ Fr Non w w' := by
  have hnn := fn_not_nil
  have hn0 := fn_nil_nil
  by_cases h : 1 ≤ op ∧ op ≤ 5
  · obtain rfl | rfl | rfl | rfl | rfl : op = 1 ∨ op = 2 ∨ op = 3 ∨ op = 4 ∨ op = 5 := by omega
    · rw [show valS 1 s = ⟨false, s.cnt, []⟩ from rfl]
      have O := Lib.hid (fun W' => ftcnt_any s W')
      have HT : Hid (∀ W', Calls Tryz.prog 121 #[.int .i64 1] W' fun e w' => e = .returned (.func (.func 138) #[] #[]) ∧ W' = w') := Lib.hid (fun W' => ftel_any 1 W')
      obtain ⟨r, hr⟩ : ∃ r : Cl, (⟨false, s.cnt, []⟩ : Cl) = r := ⟨_, rfl⟩
      rw [hr] at O ⊢
      clear hr
      obtain ⟨rn, ri, rt⟩ := r
      obtain ⟨a, b, c, d, ⟨ln, li, lt⟩, ⟨hn, hi, ht⟩⟩ := s
      obtain ⟨g, hg⟩ : ∃ g, w.heap.size = g := ⟨_, rfl⟩
      obtain ⟨W, hW⟩ : ∃ W, W = w.alloc (.cells #[.int .i64 a, .int .i64 b, .int .i64 c, .bool d, .bool ln, .int .i64 li, .string ⟨lt.toArray⟩, .bool hn, .int .i64 hi, .string ⟨ht.toArray⟩] 122) := ⟨_, rfl⟩
      have hS : FsB W g ⟨a, b, c, d, ⟨ln, li, lt⟩, ⟨hn, hi, ht⟩⟩ := by rw [hW]; exact fs_new w ⟨a, b, c, d, ⟨ln, li, lt⟩, ⟨hn, hi, ht⟩⟩ g hg
      have hs : W.heap.size = g + 1 := by rw [hW]; simp [hg]
      have F0 : Fr Non w W := by rw [hW]; exact (Fr.refl Non w).alloc _
      obtain ⟨c0, c1, c2, c3, c4, c5, c6, c7, c8, c9⟩ := fsB_cells hS
      dsimp only at c0 c1 c2 c3 c4 c5 c6 c7 c8 c9
      have hB0 := cl_newG W ⟨false, 0, []⟩ (g + 1) hs
      have FR := F0.alloc (.cells #[.bool false, .int .i64 0, .string ⟨([] : List UInt8).toArray⟩] 25)
      replace hB0 := Lib.hid hB0
      replace FR := Lib.hid FR
      clear hS F0 hs
      unfold clV clC at O ⊢
      unfold fsV fsC at O ⊢
      dsimp only at O hB0 FR ⊢
      subst hW
      go_enter Tryz.func101, Tryz.ntmps101
      go_wp2_with fail
      refine (HT.out _).mono ?_
      rintro e w1 ⟨rfl, rfl⟩
      go_wp2_with fail
      refine (O.out _).mono ?_
      rintro e w4 ⟨rfl, f4⟩
      have hB4 : ClB w4 (g + 1) ⟨false, 0, []⟩ := hB0.out.fr f4 (fun e => e)
      obtain ⟨p0, p1, p2, z0, z1, z2⟩ := hB4.facts
      dsimp only at p0 p1 p2
      have HE := Lib.hid (setCl_B hB4 rn ri rt)
      have FE := Lib.hid ((FR.out.trans f4).fresh (setCl_fr w4 (g + 1) rn ri rt) (fun k e => by have : k = g + 1 := e; omega))
      clear hB4 f4
      go_wp2
      exact bodyPost_ret (v := clV ⟨rn, ri, rt⟩) (ret_cl (p := 4) rfl _ _ (g + 1) ⟨rn, ri, rt⟩ (by simp [hg]) HE.out) rfl ⟨rfl, FE.out⟩
    · rw [show valS 2 s = ⟨false, s.has, []⟩ from rfl]
      have O := Lib.hid (fun W' => fthas_any s W')
      have HT : Hid (∀ W', Calls Tryz.prog 121 #[.int .i64 2] W' fun e w' => e = .returned (.func (.func 139) #[] #[]) ∧ W' = w') := Lib.hid (fun W' => ftel_any 2 W')
      obtain ⟨r, hr⟩ : ∃ r : Cl, (⟨false, s.has, []⟩ : Cl) = r := ⟨_, rfl⟩
      rw [hr] at O ⊢
      clear hr
      obtain ⟨rn, ri, rt⟩ := r
      obtain ⟨a, b, c, d, ⟨ln, li, lt⟩, ⟨hn, hi, ht⟩⟩ := s
      obtain ⟨g, hg⟩ : ∃ g, w.heap.size = g := ⟨_, rfl⟩
      obtain ⟨W, hW⟩ : ∃ W, W = w.alloc (.cells #[.int .i64 a, .int .i64 b, .int .i64 c, .bool d, .bool ln, .int .i64 li, .string ⟨lt.toArray⟩, .bool hn, .int .i64 hi, .string ⟨ht.toArray⟩] 122) := ⟨_, rfl⟩
      have hS : FsB W g ⟨a, b, c, d, ⟨ln, li, lt⟩, ⟨hn, hi, ht⟩⟩ := by rw [hW]; exact fs_new w ⟨a, b, c, d, ⟨ln, li, lt⟩, ⟨hn, hi, ht⟩⟩ g hg
      have hs : W.heap.size = g + 1 := by rw [hW]; simp [hg]
      have F0 : Fr Non w W := by rw [hW]; exact (Fr.refl Non w).alloc _
      obtain ⟨c0, c1, c2, c3, c4, c5, c6, c7, c8, c9⟩ := fsB_cells hS
      dsimp only at c0 c1 c2 c3 c4 c5 c6 c7 c8 c9
      have hB0 := cl_newG W ⟨false, 0, []⟩ (g + 1) hs
      have FR := F0.alloc (.cells #[.bool false, .int .i64 0, .string ⟨([] : List UInt8).toArray⟩] 25)
      replace hB0 := Lib.hid hB0
      replace FR := Lib.hid FR
      clear hS F0 hs
      unfold clV clC at O ⊢
      unfold fsV fsC at O ⊢
      dsimp only at O hB0 FR ⊢
      subst hW
      go_enter Tryz.func101, Tryz.ntmps101
      go_wp2_with fail
      refine (HT.out _).mono ?_
      rintro e w1 ⟨rfl, rfl⟩
      go_wp2_with fail
      refine (O.out _).mono ?_
      rintro e w4 ⟨rfl, f4⟩
      have hB4 : ClB w4 (g + 1) ⟨false, 0, []⟩ := hB0.out.fr f4 (fun e => e)
      obtain ⟨p0, p1, p2, z0, z1, z2⟩ := hB4.facts
      dsimp only at p0 p1 p2
      have HE := Lib.hid (setCl_B hB4 rn ri rt)
      have FE := Lib.hid ((FR.out.trans f4).fresh (setCl_fr w4 (g + 1) rn ri rt) (fun k e => by have : k = g + 1 := e; omega))
      clear hB4 f4
      go_wp2
      exact bodyPost_ret (v := clV ⟨rn, ri, rt⟩) (ret_cl (p := 4) rfl _ _ (g + 1) ⟨rn, ri, rt⟩ (by simp [hg]) HE.out) rfl ⟨rfl, FE.out⟩
    · rw [show valS 3 s = sumS s ⟨false, s.sum, []⟩ from rfl]
      have O := Lib.hid (fun W' => ftsum_any s W')
      have HT : Hid (∀ W', Calls Tryz.prog 121 #[.int .i64 3] W' fun e w' => e = .returned (.func (.func 140) #[] #[]) ∧ W' = w') := Lib.hid (fun W' => ftel_any 3 W')
      obtain ⟨r, hr⟩ : ∃ r : Cl, (sumS s ⟨false, s.sum, []⟩ : Cl) = r := ⟨_, rfl⟩
      rw [hr] at O ⊢
      clear hr
      obtain ⟨rn, ri, rt⟩ := r
      obtain ⟨a, b, c, d, ⟨ln, li, lt⟩, ⟨hn, hi, ht⟩⟩ := s
      obtain ⟨g, hg⟩ : ∃ g, w.heap.size = g := ⟨_, rfl⟩
      obtain ⟨W, hW⟩ : ∃ W, W = w.alloc (.cells #[.int .i64 a, .int .i64 b, .int .i64 c, .bool d, .bool ln, .int .i64 li, .string ⟨lt.toArray⟩, .bool hn, .int .i64 hi, .string ⟨ht.toArray⟩] 122) := ⟨_, rfl⟩
      have hS : FsB W g ⟨a, b, c, d, ⟨ln, li, lt⟩, ⟨hn, hi, ht⟩⟩ := by rw [hW]; exact fs_new w ⟨a, b, c, d, ⟨ln, li, lt⟩, ⟨hn, hi, ht⟩⟩ g hg
      have hs : W.heap.size = g + 1 := by rw [hW]; simp [hg]
      have F0 : Fr Non w W := by rw [hW]; exact (Fr.refl Non w).alloc _
      obtain ⟨c0, c1, c2, c3, c4, c5, c6, c7, c8, c9⟩ := fsB_cells hS
      dsimp only at c0 c1 c2 c3 c4 c5 c6 c7 c8 c9
      have hB0 := cl_newG W ⟨false, 0, []⟩ (g + 1) hs
      have FR := F0.alloc (.cells #[.bool false, .int .i64 0, .string ⟨([] : List UInt8).toArray⟩] 25)
      replace hB0 := Lib.hid hB0
      replace FR := Lib.hid FR
      clear hS F0 hs
      unfold clV clC at O ⊢
      unfold fsV fsC at O ⊢
      dsimp only at O hB0 FR ⊢
      subst hW
      go_enter Tryz.func101, Tryz.ntmps101
      go_wp2_with fail
      refine (HT.out _).mono ?_
      rintro e w1 ⟨rfl, rfl⟩
      go_wp2_with fail
      refine (O.out _).mono ?_
      rintro e w4 ⟨rfl, f4⟩
      have hB4 : ClB w4 (g + 1) ⟨false, 0, []⟩ := hB0.out.fr f4 (fun e => e)
      obtain ⟨p0, p1, p2, z0, z1, z2⟩ := hB4.facts
      dsimp only at p0 p1 p2
      have HE := Lib.hid (setCl_B hB4 rn ri rt)
      have FE := Lib.hid ((FR.out.trans f4).fresh (setCl_fr w4 (g + 1) rn ri rt) (fun k e => by have : k = g + 1 := e; omega))
      clear hB4 f4
      go_wp2
      exact bodyPost_ret (v := clV ⟨rn, ri, rt⟩) (ret_cl (p := 4) rfl _ _ (g + 1) ⟨rn, ri, rt⟩ (by simp [hg]) HE.out) rfl ⟨rfl, FE.out⟩
    · rw [show valS 4 s = sumS s s.low from rfl]
      have O := Lib.hid (fun W' => ftlow_any s W')
      have HT : Hid (∀ W', Calls Tryz.prog 121 #[.int .i64 4] W' fun e w' => e = .returned (.func (.func 141) #[] #[]) ∧ W' = w') := Lib.hid (fun W' => ftel_any 4 W')
      obtain ⟨r, hr⟩ : ∃ r : Cl, (sumS s s.low : Cl) = r := ⟨_, rfl⟩
      rw [hr] at O ⊢
      clear hr
      obtain ⟨rn, ri, rt⟩ := r
      obtain ⟨a, b, c, d, ⟨ln, li, lt⟩, ⟨hn, hi, ht⟩⟩ := s
      obtain ⟨g, hg⟩ : ∃ g, w.heap.size = g := ⟨_, rfl⟩
      obtain ⟨W, hW⟩ : ∃ W, W = w.alloc (.cells #[.int .i64 a, .int .i64 b, .int .i64 c, .bool d, .bool ln, .int .i64 li, .string ⟨lt.toArray⟩, .bool hn, .int .i64 hi, .string ⟨ht.toArray⟩] 122) := ⟨_, rfl⟩
      have hS : FsB W g ⟨a, b, c, d, ⟨ln, li, lt⟩, ⟨hn, hi, ht⟩⟩ := by rw [hW]; exact fs_new w ⟨a, b, c, d, ⟨ln, li, lt⟩, ⟨hn, hi, ht⟩⟩ g hg
      have hs : W.heap.size = g + 1 := by rw [hW]; simp [hg]
      have F0 : Fr Non w W := by rw [hW]; exact (Fr.refl Non w).alloc _
      obtain ⟨c0, c1, c2, c3, c4, c5, c6, c7, c8, c9⟩ := fsB_cells hS
      dsimp only at c0 c1 c2 c3 c4 c5 c6 c7 c8 c9
      have hB0 := cl_newG W ⟨false, 0, []⟩ (g + 1) hs
      have FR := F0.alloc (.cells #[.bool false, .int .i64 0, .string ⟨([] : List UInt8).toArray⟩] 25)
      replace hB0 := Lib.hid hB0
      replace FR := Lib.hid FR
      clear hS F0 hs
      unfold clV clC at O ⊢
      unfold fsV fsC at O ⊢
      dsimp only at O hB0 FR ⊢
      subst hW
      go_enter Tryz.func101, Tryz.ntmps101
      go_wp2_with fail
      refine (HT.out _).mono ?_
      rintro e w1 ⟨rfl, rfl⟩
      go_wp2_with fail
      refine (O.out _).mono ?_
      rintro e w4 ⟨rfl, f4⟩
      have hB4 : ClB w4 (g + 1) ⟨false, 0, []⟩ := hB0.out.fr f4 (fun e => e)
      obtain ⟨p0, p1, p2, z0, z1, z2⟩ := hB4.facts
      dsimp only at p0 p1 p2
      have HE := Lib.hid (setCl_B hB4 rn ri rt)
      have FE := Lib.hid ((FR.out.trans f4).fresh (setCl_fr w4 (g + 1) rn ri rt) (fun k e => by have : k = g + 1 := e; omega))
      clear hB4 f4
      go_wp2
      exact bodyPost_ret (v := clV ⟨rn, ri, rt⟩) (ret_cl (p := 4) rfl _ _ (g + 1) ⟨rn, ri, rt⟩ (by simp [hg]) HE.out) rfl ⟨rfl, FE.out⟩
    · rw [show valS 5 s = sumS s s.high from rfl]
      have O := Lib.hid (fun W' => fthigh_any s W')
      have HT : Hid (∀ W', Calls Tryz.prog 121 #[.int .i64 5] W' fun e w' => e = .returned (.func (.func 142) #[] #[]) ∧ W' = w') := Lib.hid (fun W' => ftel_any 5 W')
      obtain ⟨r, hr⟩ : ∃ r : Cl, (sumS s s.high : Cl) = r := ⟨_, rfl⟩
      rw [hr] at O ⊢
      clear hr
      obtain ⟨rn, ri, rt⟩ := r
      obtain ⟨a, b, c, d, ⟨ln, li, lt⟩, ⟨hn, hi, ht⟩⟩ := s
      obtain ⟨g, hg⟩ : ∃ g, w.heap.size = g := ⟨_, rfl⟩
      obtain ⟨W, hW⟩ : ∃ W, W = w.alloc (.cells #[.int .i64 a, .int .i64 b, .int .i64 c, .bool d, .bool ln, .int .i64 li, .string ⟨lt.toArray⟩, .bool hn, .int .i64 hi, .string ⟨ht.toArray⟩] 122) := ⟨_, rfl⟩
      have hS : FsB W g ⟨a, b, c, d, ⟨ln, li, lt⟩, ⟨hn, hi, ht⟩⟩ := by rw [hW]; exact fs_new w ⟨a, b, c, d, ⟨ln, li, lt⟩, ⟨hn, hi, ht⟩⟩ g hg
      have hs : W.heap.size = g + 1 := by rw [hW]; simp [hg]
      have F0 : Fr Non w W := by rw [hW]; exact (Fr.refl Non w).alloc _
      obtain ⟨c0, c1, c2, c3, c4, c5, c6, c7, c8, c9⟩ := fsB_cells hS
      dsimp only at c0 c1 c2 c3 c4 c5 c6 c7 c8 c9
      have hB0 := cl_newG W ⟨false, 0, []⟩ (g + 1) hs
      have FR := F0.alloc (.cells #[.bool false, .int .i64 0, .string ⟨([] : List UInt8).toArray⟩] 25)
      replace hB0 := Lib.hid hB0
      replace FR := Lib.hid FR
      clear hS F0 hs
      unfold clV clC at O ⊢
      unfold fsV fsC at O ⊢
      dsimp only at O hB0 FR ⊢
      subst hW
      go_enter Tryz.func101, Tryz.ntmps101
      go_wp2_with fail
      refine (HT.out _).mono ?_
      rintro e w1 ⟨rfl, rfl⟩
      go_wp2_with fail
      refine (O.out _).mono ?_
      rintro e w4 ⟨rfl, f4⟩
      have hB4 : ClB w4 (g + 1) ⟨false, 0, []⟩ := hB0.out.fr f4 (fun e => e)
      obtain ⟨p0, p1, p2, z0, z1, z2⟩ := hB4.facts
      dsimp only at p0 p1 p2
      have HE := Lib.hid (setCl_B hB4 rn ri rt)
      have FE := Lib.hid ((FR.out.trans f4).fresh (setCl_fr w4 (g + 1) rn ri rt) (fun k e => by have : k = g + 1 := e; omega))
      clear hB4 f4
      go_wp2
      exact bodyPost_ret (v := clV ⟨rn, ri, rt⟩) (ret_cl (p := 4) rfl _ _ (g + 1) ⟨rn, ri, rt⟩ (by simp [hg]) HE.out) rfl ⟨rfl, FE.out⟩
  · have ht : telFn op = .nilFunc := by unfold telFn; rw [if_neg (by omega), if_neg (by omega), if_neg (by omega), if_neg (by omega), if_neg (by omega)]
    have hv : valS op s = noCl := by unfold valS; rw [if_neg (by omega), if_neg (by omega), if_neg (by omega), if_neg (by omega), if_neg (by omega)]
    have hT := Lib.hid (fun W' => ftel_any op W')
    rw [ht] at hT
    rw [hv]
    clear ht hv h
    obtain ⟨a, b, c, d, ⟨ln, li, lt⟩, ⟨hn, hi, ht⟩⟩ := s
    obtain ⟨g, hg⟩ : ∃ g, w.heap.size = g := ⟨_, rfl⟩
    obtain ⟨W, hW⟩ : ∃ W, W = w.alloc (.cells #[.int .i64 a, .int .i64 b, .int .i64 c, .bool d, .bool ln, .int .i64 li, .string ⟨lt.toArray⟩, .bool hn, .int .i64 hi, .string ⟨ht.toArray⟩] 122) := ⟨_, rfl⟩
    have hS : FsB W g ⟨a, b, c, d, ⟨ln, li, lt⟩, ⟨hn, hi, ht⟩⟩ := by rw [hW]; exact fs_new w ⟨a, b, c, d, ⟨ln, li, lt⟩, ⟨hn, hi, ht⟩⟩ g hg
    have hs : W.heap.size = g + 1 := by rw [hW]; simp [hg]
    have F0 : Fr Non w W := by rw [hW]; exact (Fr.refl Non w).alloc _
    have hB0 := cl_newG W ⟨false, 0, []⟩ (g + 1) hs
    have FR := F0.alloc (.cells #[.bool false, .int .i64 0, .string ⟨([] : List UInt8).toArray⟩] 25)
    replace hB0 := Lib.hid hB0
    replace FR := Lib.hid FR
    clear hS F0 hs
    unfold clV clC noCl
    unfold fsV fsC
    dsimp only at hB0 FR ⊢
    subst hW
    go_enter Tryz.func101, Tryz.ntmps101
    go_wp2_with fail
    refine (hT.out _).mono ?_
    rintro e w1 ⟨rfl, rfl⟩
    go_wp2
    exact bodyPost_ret (v := clV ⟨false, 0, []⟩) (ret_cl (p := 4) rfl _ _ (g + 1) ⟨false, 0, []⟩ (by simp [hg]) hB0.out) rfl ⟨rfl, FR.out⟩
end Go.Proofs.YtjcfjjhhbcgcmaaGreat

namespace Go.Proofs.YtjcfjjhhbcgcmaaGreat
open Go.RowKit
theorem joinS_w (a b : Fs) : joinS a b = ⟨wrap64 (a.cnt + b.cnt), wrap64 (a.has + b.has), wrap64 (a.sum + b.sum), a.some || b.some,
    if a.some = false then b.low else if b.some = false then a.low else lesF a.low b.low,
    if a.some = false then b.high else if b.some = false then a.high else grtF a.high b.high⟩ := by
  unfold joinS
  rw [w6_wrap64, w6_wrap64, w6_wrap64]
set_option maxHeartbeats 4000000 in
theorem fjoin_a (ac ah au bc bh bu : Int) (sb : Bool) (aln ahn bln bhn : Bool) (ali ahi bli bhi : Int) (alt aht blt bht : List UInt8) (w : World) :
    Calls Tryz.prog 119 #[fsV ⟨ac, ah, au, false, ⟨aln, ali, alt⟩, ⟨ahn, ahi, aht⟩⟩, fsV ⟨bc, bh, bu, sb, ⟨bln, bli, blt⟩, ⟨bhn, bhi, bht⟩⟩] w fun e w' => e = .returned (fsV (joinS ⟨ac, ah, au, false, ⟨aln, ali, alt⟩, ⟨ahn, ahi, aht⟩⟩ ⟨bc, bh, bu, sb, ⟨bln, bli, blt⟩, ⟨bhn, bhi, bht⟩⟩)) ∧ Fr Non w w' := by
  have hE : Hid (joinS ⟨ac, ah, au, false, ⟨aln, ali, alt⟩, ⟨ahn, ahi, aht⟩⟩ ⟨bc, bh, bu, sb, ⟨bln, bli, blt⟩, ⟨bhn, bhi, bht⟩⟩ = ⟨wrap64 (ac + bc), wrap64 (ah + bh), wrap64 (au + bu), sb, ⟨bln, bli, blt⟩, ⟨bhn, bhi, bht⟩⟩) := Lib.hid (by rw [joinS_w]; rfl)
  obtain ⟨g, hg⟩ : ∃ g, w.heap.size = g := ⟨_, rfl⟩
  obtain ⟨W1, hW1⟩ : ∃ W, W = w.alloc (.cells #[.int .i64 ac, .int .i64 ah, .int .i64 au, .bool false, .bool aln, .int .i64 ali, .string ⟨alt.toArray⟩, .bool ahn, .int .i64 ahi, .string ⟨aht.toArray⟩] 122) := ⟨_, rfl⟩
  have A1 : FsB W1 g ⟨ac, ah, au, false, ⟨aln, ali, alt⟩, ⟨ahn, ahi, aht⟩⟩ := by rw [hW1]; exact fs_new w ⟨ac, ah, au, false, ⟨aln, ali, alt⟩, ⟨ahn, ahi, aht⟩⟩ g hg
  have s1 : W1.heap.size = g + 1 := by rw [hW1]; simp [hg]
  have F1 : Fr Non w W1 := by rw [hW1]; exact (Fr.refl Non w).alloc _
  obtain ⟨W2, hW2⟩ : ∃ W, W = W1.alloc (.cells #[.int .i64 bc, .int .i64 bh, .int .i64 bu, .bool sb, .bool bln, .int .i64 bli, .string ⟨blt.toArray⟩, .bool bhn, .int .i64 bhi, .string ⟨bht.toArray⟩] 122) := ⟨_, rfl⟩
  have B2 : FsB W2 (g + 1) ⟨bc, bh, bu, sb, ⟨bln, bli, blt⟩, ⟨bhn, bhi, bht⟩⟩ := by rw [hW2]; exact fs_new W1 ⟨bc, bh, bu, sb, ⟨bln, bli, blt⟩, ⟨bhn, bhi, bht⟩⟩ _ s1
  have s2 : W2.heap.size = g + 2 := by rw [hW2]; simp [s1]
  have F2 : Fr Non W1 W2 := by rw [hW2]; exact (Fr.refl Non W1).alloc _
  obtain ⟨W3, hW3⟩ : ∃ W, W = W2.alloc (.cells #[.int .i64 0, .int .i64 0, .int .i64 0, .bool false, .bool false, .int .i64 0, .string ⟨([] : List UInt8).toArray⟩, .bool false, .int .i64 0, .string ⟨([] : List UInt8).toArray⟩] 122) := ⟨_, rfl⟩
  have R3 : FsB W3 (g + 2) ⟨0, 0, 0, false, ⟨false, 0, []⟩, ⟨false, 0, []⟩⟩ := by rw [hW3]; exact fs_new W2 ⟨0, 0, 0, false, ⟨false, 0, []⟩, ⟨false, 0, []⟩⟩ _ s2
  have s3 : W3.heap.size = g + 3 := by rw [hW3]; simp [s2]
  have F3 : Fr Non W2 W3 := by rw [hW3]; exact (Fr.refl Non W2).alloc _
  obtain ⟨W0, hW0⟩ : ∃ W, W = W3.alloc (.cells #[.int .i64 (wrap64 (ac + bc)), .int .i64 (wrap64 (ah + bh)), .int .i64 (wrap64 (au + bu)), .bool sb, .bool false, .int .i64 0, .string ⟨([] : List UInt8).toArray⟩, .bool false, .int .i64 0, .string ⟨([] : List UInt8).toArray⟩] 122) := ⟨_, rfl⟩
  have JB : FsB W0 (g + 3) ⟨wrap64 (ac + bc), wrap64 (ah + bh), wrap64 (au + bu), sb, ⟨false, 0, []⟩, ⟨false, 0, []⟩⟩ := by rw [hW0]; exact fs_new W3 ⟨wrap64 (ac + bc), wrap64 (ah + bh), wrap64 (au + bu), sb, ⟨false, 0, []⟩, ⟨false, 0, []⟩⟩ _ s3
  have F4 : Fr Non W3 W0 := by rw [hW0]; exact (Fr.refl Non W3).alloc _
  obtain ⟨a0, a1, a2, a3, a4, a5, a6, a7, a8, a9⟩ := fsB_cells (show FsB W0 g ⟨ac, ah, au, false, ⟨aln, ali, alt⟩, ⟨ahn, ahi, aht⟩⟩ from ((A1.fr F2 (fun e => e)).fr F3 (fun e => e)).fr F4 (fun e => e))
  obtain ⟨b0, b1, b2, b3, b4, b5, b6, b7, b8, b9⟩ := fsB_cells (show FsB W0 (g + 1) ⟨bc, bh, bu, sb, ⟨bln, bli, blt⟩, ⟨bhn, bhi, bht⟩⟩ from (B2.fr F3 (fun e => e)).fr F4 (fun e => e))
  dsimp only at a0 a1 a2 a3 a4 a5 a6 a7 a8 a9 b0 b1 b2 b3 b4 b5 b6 b7 b8 b9
  have RB : Hid (FsB W0 (g + 2) ⟨0, 0, 0, false, ⟨false, 0, []⟩, ⟨false, 0, []⟩⟩) := Lib.hid (R3.fr F4 (fun e => e))
  have F0 := Lib.hid (((F1.trans F2).trans F3).trans F4)
  have HG := Lib.hid hg
  replace JB := Lib.hid JB
  clear A1 B2 R3 F1 F2 F3 F4 s1 s2 s3
  subst hW1 hW2 hW3
  unfold fsV fsC
  dsimp only
  go_enter Tryz.func119, Tryz.ntmps119
  go_wp2
  rw [← hW0]
  clear hW0
  clear a0 a1 a2 a3 a4 a5 a6 a7 a8 a9 b0 b1 b2 b3
  obtain ⟨V, hV⟩ : ∃ V, V = W0.drew := ⟨_, rfl⟩
  refine wp_region_held_drew (S := (fun W' => W'.cell? ⟨(g + 1), 4, none⟩ = some (.bool bln) ∧ W'.cell? ⟨(g + 1), 5, none⟩ = some (.int .i64 bli) ∧ W'.cell? ⟨(g + 1), 6, none⟩ = some (.string ⟨blt.toArray⟩) ∧ W'.cell? ⟨(g + 1), 7, none⟩ = some (.bool bhn) ∧ W'.cell? ⟨(g + 1), 8, none⟩ = some (.int .i64 bhi) ∧ W'.cell? ⟨(g + 1), 9, none⟩ = some (.string ⟨bht.toArray⟩))) (by kernel_rfl) (by exact ⟨b4, b5, b6, b7, b8, b9⟩) (fun hHeld => ?_)
  rw [← hV]
  rw [← hV] at hHeld
  have FV : Fr Non W0 V := by rw [hV]; exact (Fr.refl Non W0).drew
  clear hV
  replace b4 := FV.at0 b4
  replace b5 := FV.at0 b5
  replace b6 := FV.at0 b6
  replace b7 := FV.at0 b7
  replace b8 := FV.at0 b8
  replace b9 := FV.at0 b9
  have JV : FsB V (g + 3) ⟨wrap64 (ac + bc), wrap64 (ah + bh), wrap64 (au + bu), sb, ⟨false, 0, []⟩, ⟨false, 0, []⟩⟩ := JB.out.fr FV (fun e => e)
  have RV : FsB V (g + 2) ⟨0, 0, 0, false, ⟨false, 0, []⟩, ⟨false, 0, []⟩⟩ := RB.out.fr FV (fun e => e)
  refine wpAnyH_take (i := 0) (oi := ⟨some 44, _, _, _, _, none⟩) (v := ?v1) rfl (by kernel_rfl) (by kernel_rfl) (by kernel_rfl) (fun _ _ _ h => h) (Or.inl ⟨by rfl, ?hy1⟩) (by assumption) ?rest1
  case hy1 => (intro wS hSw; (try dsimp only at hSw); go_simp; (try with_reducible rfl))
  (try simp only [Act.put, zA, zB, zC])
  refine wpAnyH_take (i := 1) (oi := ⟨some 45, _, _, _, _, none⟩) (v := ?v2) rfl (by kernel_rfl) (by kernel_rfl) (by kernel_rfl) (fun _ _ _ h => h) (Or.inl ⟨by rfl, ?hy2⟩) (by assumption) ?rest2
  case hy2 => (intro wS hSw; (try dsimp only at hSw); go_simp; (try with_reducible rfl))
  (try simp only [Act.put, zA, zB, zC])
  refine wpAnyH_take (i := 2) (oi := ⟨some 46, _, _, _, _, none⟩) (v := ?v3) rfl (by kernel_rfl) (by kernel_rfl) (by kernel_rfl) (fun _ _ _ h => h) (Or.inl ⟨by rfl, ?hy3⟩) (by assumption) ?rest3
  case hy3 => (intro wS hSw; (try dsimp only at hSw); go_simp; (try with_reducible rfl))
  (try simp only [Act.put, zA, zB, zC])
  refine wpAnyH_take (i := 3) (oi := ⟨some 47, _, _, _, _, none⟩) (v := ?v4) rfl (by kernel_rfl) (by kernel_rfl) (by kernel_rfl) (fun _ _ _ h => h) (Or.inl ⟨by rfl, ?hy4⟩) (by assumption) ?rest4
  case hy4 => (intro wS hSw; (try dsimp only at hSw); go_simp; (try with_reducible rfl))
  (try simp only [Act.put, zA, zB, zC])
  refine wpAnyH_take (i := 4) (oi := ⟨some 48, _, _, _, _, none⟩) (v := ?v5) rfl (by kernel_rfl) (by kernel_rfl) (by kernel_rfl) (fun _ _ _ h => h) (Or.inl ⟨by rfl, ?hy5⟩) (by assumption) ?rest5
  case hy5 => (intro wS hSw; (try dsimp only at hSw); go_simp; (try with_reducible rfl))
  (try simp only [Act.put, zA, zB, zC])
  refine wpAnyH_ready (rs := [5]) (by kernel_rfl) (by simp) ?_
  refine AllReadyH.cons (o := ⟨none, _, _, _, _, none⟩) rfl (fun K hK => ?_) AllReadyH.nil
  obtain ⟨p0, p1, p2, p3, p4, p5, p6, p7, p8, p9⟩ := fsB_cells JV
  obtain ⟨z0, z1, z2, z3, z4, z5, z6, z7, z8, z9⟩ := fsB_froz JV
  dsimp only at p0 p1 p2 p3 p4 p5 p6 p7 p8 p9
  obtain ⟨W5, hW5⟩ : ∃ W, W = setFsL V (g + 3) bln bli blt := ⟨_, rfl⟩
  have sW5 : Fr (One (g + 3)) V W5 := by rw [hW5]; exact setFsL_fr _ _ _ _ _
  have JW5 := setFsL_B JV ⟨bln, bli, blt⟩
  dsimp only at JW5
  rw [← hW5] at JW5
  unfold setFsL at hW5
  go_simp
  rw [← hW5]
  clear hW5 p0 p1 p2 p3 p4 p5 p6 p7 p8 p9 z0 z1 z2 z3 z4 z5 z6 z7 z8 z9
  refine hK.out _ _ (by exact ⟨sW5.atO (by omega) b4, sW5.atO (by omega) b5, sW5.atO (by omega) b6, sW5.atO (by omega) b7, sW5.atO (by omega) b8, sW5.atO (by omega) b9⟩) (fun hHeld => ?_)
  clear hK K
  (try simp only [Act.put, zA, zB, zC])
  replace b4 := sW5.atO (by omega) b4
  replace b5 := sW5.atO (by omega) b5
  replace b6 := sW5.atO (by omega) b6
  replace b7 := sW5.atO (by omega) b7
  replace b8 := sW5.atO (by omega) b8
  replace b9 := sW5.atO (by omega) b9
  refine wpAnyH_take (i := 6) (oi := ⟨some 49, _, _, _, _, none⟩) (v := ?v6) rfl (by kernel_rfl) (by kernel_rfl) (by kernel_rfl) (fun _ _ _ h => h) (Or.inl ⟨by rfl, ?hy6⟩) (by assumption) ?rest6
  case hy6 => (intro wS hSw; (try dsimp only at hSw); go_simp; (try with_reducible rfl))
  (try simp only [Act.put, zA, zB, zC])
  refine wpAnyH_ready (rs := [7]) (by kernel_rfl) (by simp) ?_
  refine AllReadyH.cons (o := ⟨none, _, _, _, _, none⟩) rfl (fun K hK => ?_) AllReadyH.nil
  obtain ⟨p0, p1, p2, p3, p4, p5, p6, p7, p8, p9⟩ := fsB_cells JW5
  obtain ⟨z0, z1, z2, z3, z4, z5, z6, z7, z8, z9⟩ := fsB_froz JW5
  dsimp only at p0 p1 p2 p3 p4 p5 p6 p7 p8 p9
  obtain ⟨W6, hW6⟩ : ∃ W, W = setFsH W5 (g + 3) bhn bhi bht := ⟨_, rfl⟩
  have sW6 : Fr (One (g + 3)) W5 W6 := by rw [hW6]; exact setFsH_fr _ _ _ _ _
  have JW6 := setFsH_B JW5 ⟨bhn, bhi, bht⟩
  dsimp only at JW6
  rw [← hW6] at JW6
  unfold setFsH at hW6
  go_simp
  rw [← hW6]
  clear hW6 p0 p1 p2 p3 p4 p5 p6 p7 p8 p9 z0 z1 z2 z3 z4 z5 z6 z7 z8 z9
  refine hK.out _ _ (by exact ⟨sW6.atO (by omega) b4, sW6.atO (by omega) b5, sW6.atO (by omega) b6, sW6.atO (by omega) b7, sW6.atO (by omega) b8, sW6.atO (by omega) b9⟩) (fun hHeld => ?_)
  clear hK K
  (try simp only [Act.put, zA, zB, zC])
  replace b4 := sW6.atO (by omega) b4
  replace b5 := sW6.atO (by omega) b5
  replace b6 := sW6.atO (by omega) b6
  replace b7 := sW6.atO (by omega) b7
  replace b8 := sW6.atO (by omega) b8
  replace b9 := sW6.atO (by omega) b9
  refine wpAnyH_done (by kernel_rfl) ?_ _
  clear hHeld
  have RE : FsB W6 (g + 2) ⟨0, 0, 0, false, ⟨false, 0, []⟩, ⟨false, 0, []⟩⟩ := (RV.fr sW5 (fun k => by have : g + 2 = g + 3 := k; omega)).fr sW6 (fun k => by have : g + 2 = g + 3 := k; omega)
  have F6 := Lib.hid (F0.out.fresh ((FV.any.trans sW5).trans sW6) (fun k e => by have : k = g + 3 := e; have := HG.out; omega))
  obtain ⟨p0, p1, p2, p3, p4, p5, p6, p7, p8, p9⟩ := fsB_cells JW6
  obtain ⟨q0, q1, q2, q3, q4, q5, q6, q7, q8, q9⟩ := fsB_cells RE
  obtain ⟨z0, z1, z2, z3, z4, z5, z6, z7, z8, z9⟩ := fsB_froz RE
  dsimp only at p0 p1 p2 p3 p4 p5 p6 p7 p8 p9 q0 q1 q2 q3 q4 q5 q6 q7 q8 q9
  have HE := Lib.hid (setFs_B RE ⟨wrap64 (ac + bc), wrap64 (ah + bh), wrap64 (au + bu), sb, ⟨bln, bli, blt⟩, ⟨bhn, bhi, bht⟩⟩)
  have FE := Lib.hid (F6.out.fresh (setFs_fr W6 (g + 2) ⟨wrap64 (ac + bc), wrap64 (ah + bh), wrap64 (au + bu), sb, ⟨bln, bli, blt⟩, ⟨bhn, bhi, bht⟩⟩) (fun k e => by have : k = g + 2 := e; have := HG.out; omega))
  unfold setFs setFsN setFsL setFsH at HE FE
  dsimp only at HE FE
  clear JW6 RE F6 sW5 sW6 FV JV RV b4 b5 b6 b7 b8 b9
  go_wp2
  exact bodyPost_ret (v := fsV ⟨wrap64 (ac + bc), wrap64 (ah + bh), wrap64 (au + bu), sb, ⟨bln, bli, blt⟩, ⟨bhn, bhi, bht⟩⟩) (ret_fs (p := 4) rfl _ _ (g + 2) ⟨wrap64 (ac + bc), wrap64 (ah + bh), wrap64 (au + bu), sb, ⟨bln, bli, blt⟩, ⟨bhn, bhi, bht⟩⟩ (by rfl) HE.out) rfl ⟨by rw [hE.out]; rfl, FE.out⟩
set_option maxHeartbeats 4000000 in
theorem fjoin_b (ac ah au bc bh bu : Int) (aln ahn bln bhn : Bool) (ali ahi bli bhi : Int) (alt aht blt bht : List UInt8) (w : World) :
    Calls Tryz.prog 119 #[fsV ⟨ac, ah, au, true, ⟨aln, ali, alt⟩, ⟨ahn, ahi, aht⟩⟩, fsV ⟨bc, bh, bu, false, ⟨bln, bli, blt⟩, ⟨bhn, bhi, bht⟩⟩] w fun e w' => e = .returned (fsV (joinS ⟨ac, ah, au, true, ⟨aln, ali, alt⟩, ⟨ahn, ahi, aht⟩⟩ ⟨bc, bh, bu, false, ⟨bln, bli, blt⟩, ⟨bhn, bhi, bht⟩⟩)) ∧ Fr Non w w' := by
  have hE : Hid (joinS ⟨ac, ah, au, true, ⟨aln, ali, alt⟩, ⟨ahn, ahi, aht⟩⟩ ⟨bc, bh, bu, false, ⟨bln, bli, blt⟩, ⟨bhn, bhi, bht⟩⟩ = ⟨wrap64 (ac + bc), wrap64 (ah + bh), wrap64 (au + bu), true, ⟨aln, ali, alt⟩, ⟨ahn, ahi, aht⟩⟩) := Lib.hid (by rw [joinS_w]; rfl)
  obtain ⟨g, hg⟩ : ∃ g, w.heap.size = g := ⟨_, rfl⟩
  obtain ⟨W1, hW1⟩ : ∃ W, W = w.alloc (.cells #[.int .i64 ac, .int .i64 ah, .int .i64 au, .bool true, .bool aln, .int .i64 ali, .string ⟨alt.toArray⟩, .bool ahn, .int .i64 ahi, .string ⟨aht.toArray⟩] 122) := ⟨_, rfl⟩
  have A1 : FsB W1 g ⟨ac, ah, au, true, ⟨aln, ali, alt⟩, ⟨ahn, ahi, aht⟩⟩ := by rw [hW1]; exact fs_new w ⟨ac, ah, au, true, ⟨aln, ali, alt⟩, ⟨ahn, ahi, aht⟩⟩ g hg
  have s1 : W1.heap.size = g + 1 := by rw [hW1]; simp [hg]
  have F1 : Fr Non w W1 := by rw [hW1]; exact (Fr.refl Non w).alloc _
  obtain ⟨W2, hW2⟩ : ∃ W, W = W1.alloc (.cells #[.int .i64 bc, .int .i64 bh, .int .i64 bu, .bool false, .bool bln, .int .i64 bli, .string ⟨blt.toArray⟩, .bool bhn, .int .i64 bhi, .string ⟨bht.toArray⟩] 122) := ⟨_, rfl⟩
  have B2 : FsB W2 (g + 1) ⟨bc, bh, bu, false, ⟨bln, bli, blt⟩, ⟨bhn, bhi, bht⟩⟩ := by rw [hW2]; exact fs_new W1 ⟨bc, bh, bu, false, ⟨bln, bli, blt⟩, ⟨bhn, bhi, bht⟩⟩ _ s1
  have s2 : W2.heap.size = g + 2 := by rw [hW2]; simp [s1]
  have F2 : Fr Non W1 W2 := by rw [hW2]; exact (Fr.refl Non W1).alloc _
  obtain ⟨W3, hW3⟩ : ∃ W, W = W2.alloc (.cells #[.int .i64 0, .int .i64 0, .int .i64 0, .bool false, .bool false, .int .i64 0, .string ⟨([] : List UInt8).toArray⟩, .bool false, .int .i64 0, .string ⟨([] : List UInt8).toArray⟩] 122) := ⟨_, rfl⟩
  have R3 : FsB W3 (g + 2) ⟨0, 0, 0, false, ⟨false, 0, []⟩, ⟨false, 0, []⟩⟩ := by rw [hW3]; exact fs_new W2 ⟨0, 0, 0, false, ⟨false, 0, []⟩, ⟨false, 0, []⟩⟩ _ s2
  have s3 : W3.heap.size = g + 3 := by rw [hW3]; simp [s2]
  have F3 : Fr Non W2 W3 := by rw [hW3]; exact (Fr.refl Non W2).alloc _
  obtain ⟨W0, hW0⟩ : ∃ W, W = W3.alloc (.cells #[.int .i64 (wrap64 (ac + bc)), .int .i64 (wrap64 (ah + bh)), .int .i64 (wrap64 (au + bu)), .bool true, .bool false, .int .i64 0, .string ⟨([] : List UInt8).toArray⟩, .bool false, .int .i64 0, .string ⟨([] : List UInt8).toArray⟩] 122) := ⟨_, rfl⟩
  have JB : FsB W0 (g + 3) ⟨wrap64 (ac + bc), wrap64 (ah + bh), wrap64 (au + bu), true, ⟨false, 0, []⟩, ⟨false, 0, []⟩⟩ := by rw [hW0]; exact fs_new W3 ⟨wrap64 (ac + bc), wrap64 (ah + bh), wrap64 (au + bu), true, ⟨false, 0, []⟩, ⟨false, 0, []⟩⟩ _ s3
  have F4 : Fr Non W3 W0 := by rw [hW0]; exact (Fr.refl Non W3).alloc _
  obtain ⟨a0, a1, a2, a3, a4, a5, a6, a7, a8, a9⟩ := fsB_cells (show FsB W0 g ⟨ac, ah, au, true, ⟨aln, ali, alt⟩, ⟨ahn, ahi, aht⟩⟩ from ((A1.fr F2 (fun e => e)).fr F3 (fun e => e)).fr F4 (fun e => e))
  obtain ⟨b0, b1, b2, b3, b4, b5, b6, b7, b8, b9⟩ := fsB_cells (show FsB W0 (g + 1) ⟨bc, bh, bu, false, ⟨bln, bli, blt⟩, ⟨bhn, bhi, bht⟩⟩ from (B2.fr F3 (fun e => e)).fr F4 (fun e => e))
  dsimp only at a0 a1 a2 a3 a4 a5 a6 a7 a8 a9 b0 b1 b2 b3 b4 b5 b6 b7 b8 b9
  have RB : Hid (FsB W0 (g + 2) ⟨0, 0, 0, false, ⟨false, 0, []⟩, ⟨false, 0, []⟩⟩) := Lib.hid (R3.fr F4 (fun e => e))
  have F0 := Lib.hid (((F1.trans F2).trans F3).trans F4)
  have HG := Lib.hid hg
  replace JB := Lib.hid JB
  clear A1 B2 R3 F1 F2 F3 F4 s1 s2 s3
  subst hW1 hW2 hW3
  unfold fsV fsC
  dsimp only
  go_enter Tryz.func119, Tryz.ntmps119
  go_wp2
  rw [← hW0]
  clear hW0
  clear a0 a1 a2 a3 b0 b1 b2 b3 b4 b5 b6 b7 b8 b9
  obtain ⟨V, hV⟩ : ∃ V, V = W0.drew := ⟨_, rfl⟩
  refine wp_region_held_drew (S := (fun W' => W'.cell? ⟨g, 4, none⟩ = some (.bool aln) ∧ W'.cell? ⟨g, 5, none⟩ = some (.int .i64 ali) ∧ W'.cell? ⟨g, 6, none⟩ = some (.string ⟨alt.toArray⟩) ∧ W'.cell? ⟨g, 7, none⟩ = some (.bool ahn) ∧ W'.cell? ⟨g, 8, none⟩ = some (.int .i64 ahi) ∧ W'.cell? ⟨g, 9, none⟩ = some (.string ⟨aht.toArray⟩))) (by kernel_rfl) (by exact ⟨a4, a5, a6, a7, a8, a9⟩) (fun hHeld => ?_)
  rw [← hV]
  rw [← hV] at hHeld
  have FV : Fr Non W0 V := by rw [hV]; exact (Fr.refl Non W0).drew
  clear hV
  replace a4 := FV.at0 a4
  replace a5 := FV.at0 a5
  replace a6 := FV.at0 a6
  replace a7 := FV.at0 a7
  replace a8 := FV.at0 a8
  replace a9 := FV.at0 a9
  have JV : FsB V (g + 3) ⟨wrap64 (ac + bc), wrap64 (ah + bh), wrap64 (au + bu), true, ⟨false, 0, []⟩, ⟨false, 0, []⟩⟩ := JB.out.fr FV (fun e => e)
  have RV : FsB V (g + 2) ⟨0, 0, 0, false, ⟨false, 0, []⟩, ⟨false, 0, []⟩⟩ := RB.out.fr FV (fun e => e)
  refine wpAnyH_take (i := 0) (oi := ⟨some 54, _, _, _, _, none⟩) (v := ?v7) rfl (by kernel_rfl) (by kernel_rfl) (by kernel_rfl) (fun _ _ _ h => h) (Or.inl ⟨by rfl, ?hy7⟩) (by assumption) ?rest7
  case hy7 => (intro wS hSw; (try dsimp only at hSw); go_simp; (try with_reducible rfl))
  (try simp only [Act.put, zA, zB, zC])
  refine wpAnyH_take (i := 1) (oi := ⟨some 55, _, _, _, _, none⟩) (v := ?v8) rfl (by kernel_rfl) (by kernel_rfl) (by kernel_rfl) (fun _ _ _ h => h) (Or.inl ⟨by rfl, ?hy8⟩) (by assumption) ?rest8
  case hy8 => (intro wS hSw; (try dsimp only at hSw); go_simp; (try with_reducible rfl))
  (try simp only [Act.put, zA, zB, zC])
  refine wpAnyH_take (i := 2) (oi := ⟨some 56, _, _, _, _, none⟩) (v := ?v9) rfl (by kernel_rfl) (by kernel_rfl) (by kernel_rfl) (fun _ _ _ h => h) (Or.inl ⟨by rfl, ?hy9⟩) (by assumption) ?rest9
  case hy9 => (intro wS hSw; (try dsimp only at hSw); go_simp; (try with_reducible rfl))
  (try simp only [Act.put, zA, zB, zC])
  refine wpAnyH_take (i := 3) (oi := ⟨some 57, _, _, _, _, none⟩) (v := ?v10) rfl (by kernel_rfl) (by kernel_rfl) (by kernel_rfl) (fun _ _ _ h => h) (Or.inl ⟨by rfl, ?hy10⟩) (by assumption) ?rest10
  case hy10 => (intro wS hSw; (try dsimp only at hSw); go_simp; (try with_reducible rfl))
  (try simp only [Act.put, zA, zB, zC])
  refine wpAnyH_take (i := 4) (oi := ⟨some 58, _, _, _, _, none⟩) (v := ?v11) rfl (by kernel_rfl) (by kernel_rfl) (by kernel_rfl) (fun _ _ _ h => h) (Or.inl ⟨by rfl, ?hy11⟩) (by assumption) ?rest11
  case hy11 => (intro wS hSw; (try dsimp only at hSw); go_simp; (try with_reducible rfl))
  (try simp only [Act.put, zA, zB, zC])
  refine wpAnyH_ready (rs := [5]) (by kernel_rfl) (by simp) ?_
  refine AllReadyH.cons (o := ⟨none, _, _, _, _, none⟩) rfl (fun K hK => ?_) AllReadyH.nil
  obtain ⟨p0, p1, p2, p3, p4, p5, p6, p7, p8, p9⟩ := fsB_cells JV
  obtain ⟨z0, z1, z2, z3, z4, z5, z6, z7, z8, z9⟩ := fsB_froz JV
  dsimp only at p0 p1 p2 p3 p4 p5 p6 p7 p8 p9
  obtain ⟨W5, hW5⟩ : ∃ W, W = setFsL V (g + 3) aln ali alt := ⟨_, rfl⟩
  have sW5 : Fr (One (g + 3)) V W5 := by rw [hW5]; exact setFsL_fr _ _ _ _ _
  have JW5 := setFsL_B JV ⟨aln, ali, alt⟩
  dsimp only at JW5
  rw [← hW5] at JW5
  unfold setFsL at hW5
  go_simp
  rw [← hW5]
  clear hW5 p0 p1 p2 p3 p4 p5 p6 p7 p8 p9 z0 z1 z2 z3 z4 z5 z6 z7 z8 z9
  refine hK.out _ _ (by exact ⟨sW5.atO (by omega) a4, sW5.atO (by omega) a5, sW5.atO (by omega) a6, sW5.atO (by omega) a7, sW5.atO (by omega) a8, sW5.atO (by omega) a9⟩) (fun hHeld => ?_)
  clear hK K
  (try simp only [Act.put, zA, zB, zC])
  replace a4 := sW5.atO (by omega) a4
  replace a5 := sW5.atO (by omega) a5
  replace a6 := sW5.atO (by omega) a6
  replace a7 := sW5.atO (by omega) a7
  replace a8 := sW5.atO (by omega) a8
  replace a9 := sW5.atO (by omega) a9
  refine wpAnyH_take (i := 6) (oi := ⟨some 59, _, _, _, _, none⟩) (v := ?v12) rfl (by kernel_rfl) (by kernel_rfl) (by kernel_rfl) (fun _ _ _ h => h) (Or.inl ⟨by rfl, ?hy12⟩) (by assumption) ?rest12
  case hy12 => (intro wS hSw; (try dsimp only at hSw); go_simp; (try with_reducible rfl))
  (try simp only [Act.put, zA, zB, zC])
  refine wpAnyH_ready (rs := [7]) (by kernel_rfl) (by simp) ?_
  refine AllReadyH.cons (o := ⟨none, _, _, _, _, none⟩) rfl (fun K hK => ?_) AllReadyH.nil
  obtain ⟨p0, p1, p2, p3, p4, p5, p6, p7, p8, p9⟩ := fsB_cells JW5
  obtain ⟨z0, z1, z2, z3, z4, z5, z6, z7, z8, z9⟩ := fsB_froz JW5
  dsimp only at p0 p1 p2 p3 p4 p5 p6 p7 p8 p9
  obtain ⟨W6, hW6⟩ : ∃ W, W = setFsH W5 (g + 3) ahn ahi aht := ⟨_, rfl⟩
  have sW6 : Fr (One (g + 3)) W5 W6 := by rw [hW6]; exact setFsH_fr _ _ _ _ _
  have JW6 := setFsH_B JW5 ⟨ahn, ahi, aht⟩
  dsimp only at JW6
  rw [← hW6] at JW6
  unfold setFsH at hW6
  go_simp
  rw [← hW6]
  clear hW6 p0 p1 p2 p3 p4 p5 p6 p7 p8 p9 z0 z1 z2 z3 z4 z5 z6 z7 z8 z9
  refine hK.out _ _ (by exact ⟨sW6.atO (by omega) a4, sW6.atO (by omega) a5, sW6.atO (by omega) a6, sW6.atO (by omega) a7, sW6.atO (by omega) a8, sW6.atO (by omega) a9⟩) (fun hHeld => ?_)
  clear hK K
  (try simp only [Act.put, zA, zB, zC])
  replace a4 := sW6.atO (by omega) a4
  replace a5 := sW6.atO (by omega) a5
  replace a6 := sW6.atO (by omega) a6
  replace a7 := sW6.atO (by omega) a7
  replace a8 := sW6.atO (by omega) a8
  replace a9 := sW6.atO (by omega) a9
  refine wpAnyH_done (by kernel_rfl) ?_ _
  clear hHeld
  have RE : FsB W6 (g + 2) ⟨0, 0, 0, false, ⟨false, 0, []⟩, ⟨false, 0, []⟩⟩ := (RV.fr sW5 (fun k => by have : g + 2 = g + 3 := k; omega)).fr sW6 (fun k => by have : g + 2 = g + 3 := k; omega)
  have F6 := Lib.hid (F0.out.fresh ((FV.any.trans sW5).trans sW6) (fun k e => by have : k = g + 3 := e; have := HG.out; omega))
  obtain ⟨p0, p1, p2, p3, p4, p5, p6, p7, p8, p9⟩ := fsB_cells JW6
  obtain ⟨q0, q1, q2, q3, q4, q5, q6, q7, q8, q9⟩ := fsB_cells RE
  obtain ⟨z0, z1, z2, z3, z4, z5, z6, z7, z8, z9⟩ := fsB_froz RE
  dsimp only at p0 p1 p2 p3 p4 p5 p6 p7 p8 p9 q0 q1 q2 q3 q4 q5 q6 q7 q8 q9
  have HE := Lib.hid (setFs_B RE ⟨wrap64 (ac + bc), wrap64 (ah + bh), wrap64 (au + bu), true, ⟨aln, ali, alt⟩, ⟨ahn, ahi, aht⟩⟩)
  have FE := Lib.hid (F6.out.fresh (setFs_fr W6 (g + 2) ⟨wrap64 (ac + bc), wrap64 (ah + bh), wrap64 (au + bu), true, ⟨aln, ali, alt⟩, ⟨ahn, ahi, aht⟩⟩) (fun k e => by have : k = g + 2 := e; have := HG.out; omega))
  unfold setFs setFsN setFsL setFsH at HE FE
  dsimp only at HE FE
  clear JW6 RE F6 sW5 sW6 FV JV RV a4 a5 a6 a7 a8 a9
  go_wp2
  exact bodyPost_ret (v := fsV ⟨wrap64 (ac + bc), wrap64 (ah + bh), wrap64 (au + bu), true, ⟨aln, ali, alt⟩, ⟨ahn, ahi, aht⟩⟩) (ret_fs (p := 4) rfl _ _ (g + 2) ⟨wrap64 (ac + bc), wrap64 (ah + bh), wrap64 (au + bu), true, ⟨aln, ali, alt⟩, ⟨ahn, ahi, aht⟩⟩ (by rfl) HE.out) rfl ⟨by rw [hE.out]; rfl, FE.out⟩
set_option maxHeartbeats 4000000 in
theorem fjoin_c (ac ah au bc bh bu : Int) (aln ahn bln bhn : Bool) (ali ahi bli bhi : Int) (alt aht blt bht : List UInt8) (w : World) :
    Calls Tryz.prog 119 #[fsV ⟨ac, ah, au, true, ⟨aln, ali, alt⟩, ⟨ahn, ahi, aht⟩⟩, fsV ⟨bc, bh, bu, true, ⟨bln, bli, blt⟩, ⟨bhn, bhi, bht⟩⟩] w fun e w' => e = .returned (fsV (joinS ⟨ac, ah, au, true, ⟨aln, ali, alt⟩, ⟨ahn, ahi, aht⟩⟩ ⟨bc, bh, bu, true, ⟨bln, bli, blt⟩, ⟨bhn, bhi, bht⟩⟩)) ∧ Fr Non w w' := by
  have O1 := Lib.hid (fun W => fles_any ⟨aln, ali, alt⟩ ⟨bln, bli, blt⟩ W)
  have O2 := Lib.hid (fun W => fgrt_any ⟨ahn, ahi, aht⟩ ⟨bhn, bhi, bht⟩ W)
  have hE : joinS ⟨ac, ah, au, true, ⟨aln, ali, alt⟩, ⟨ahn, ahi, aht⟩⟩ ⟨bc, bh, bu, true, ⟨bln, bli, blt⟩, ⟨bhn, bhi, bht⟩⟩ = ⟨wrap64 (ac + bc), wrap64 (ah + bh), wrap64 (au + bu), true, lesF ⟨aln, ali, alt⟩ ⟨bln, bli, blt⟩, grtF ⟨ahn, ahi, aht⟩ ⟨bhn, bhi, bht⟩⟩ := by rw [joinS_w]; rfl
  rw [hE]
  clear hE
  obtain ⟨l, hl⟩ : ∃ l, lesF ⟨aln, ali, alt⟩ ⟨bln, bli, blt⟩ = l := ⟨_, rfl⟩
  obtain ⟨h, hh⟩ : ∃ h, grtF ⟨ahn, ahi, aht⟩ ⟨bhn, bhi, bht⟩ = h := ⟨_, rfl⟩
  rw [hl] at O1 ⊢
  rw [hh] at O2 ⊢
  clear hl hh
  obtain ⟨ln, li, lt⟩ := l
  obtain ⟨hn, hi, ht⟩ := h
  unfold clV clC at O1 O2
  dsimp only at O1 O2
  have hE := Lib.hid (rfl : (0 : Nat) = 0)
  obtain ⟨g, hg⟩ : ∃ g, w.heap.size = g := ⟨_, rfl⟩
  obtain ⟨W1, hW1⟩ : ∃ W, W = w.alloc (.cells #[.int .i64 ac, .int .i64 ah, .int .i64 au, .bool true, .bool aln, .int .i64 ali, .string ⟨alt.toArray⟩, .bool ahn, .int .i64 ahi, .string ⟨aht.toArray⟩] 122) := ⟨_, rfl⟩
  have A1 : FsB W1 g ⟨ac, ah, au, true, ⟨aln, ali, alt⟩, ⟨ahn, ahi, aht⟩⟩ := by rw [hW1]; exact fs_new w ⟨ac, ah, au, true, ⟨aln, ali, alt⟩, ⟨ahn, ahi, aht⟩⟩ g hg
  have s1 : W1.heap.size = g + 1 := by rw [hW1]; simp [hg]
  have F1 : Fr Non w W1 := by rw [hW1]; exact (Fr.refl Non w).alloc _
  obtain ⟨W2, hW2⟩ : ∃ W, W = W1.alloc (.cells #[.int .i64 bc, .int .i64 bh, .int .i64 bu, .bool true, .bool bln, .int .i64 bli, .string ⟨blt.toArray⟩, .bool bhn, .int .i64 bhi, .string ⟨bht.toArray⟩] 122) := ⟨_, rfl⟩
  have B2 : FsB W2 (g + 1) ⟨bc, bh, bu, true, ⟨bln, bli, blt⟩, ⟨bhn, bhi, bht⟩⟩ := by rw [hW2]; exact fs_new W1 ⟨bc, bh, bu, true, ⟨bln, bli, blt⟩, ⟨bhn, bhi, bht⟩⟩ _ s1
  have s2 : W2.heap.size = g + 2 := by rw [hW2]; simp [s1]
  have F2 : Fr Non W1 W2 := by rw [hW2]; exact (Fr.refl Non W1).alloc _
  obtain ⟨W3, hW3⟩ : ∃ W, W = W2.alloc (.cells #[.int .i64 0, .int .i64 0, .int .i64 0, .bool false, .bool false, .int .i64 0, .string ⟨([] : List UInt8).toArray⟩, .bool false, .int .i64 0, .string ⟨([] : List UInt8).toArray⟩] 122) := ⟨_, rfl⟩
  have R3 : FsB W3 (g + 2) ⟨0, 0, 0, false, ⟨false, 0, []⟩, ⟨false, 0, []⟩⟩ := by rw [hW3]; exact fs_new W2 ⟨0, 0, 0, false, ⟨false, 0, []⟩, ⟨false, 0, []⟩⟩ _ s2
  have s3 : W3.heap.size = g + 3 := by rw [hW3]; simp [s2]
  have F3 : Fr Non W2 W3 := by rw [hW3]; exact (Fr.refl Non W2).alloc _
  obtain ⟨W0, hW0⟩ : ∃ W, W = W3.alloc (.cells #[.int .i64 (wrap64 (ac + bc)), .int .i64 (wrap64 (ah + bh)), .int .i64 (wrap64 (au + bu)), .bool true, .bool false, .int .i64 0, .string ⟨([] : List UInt8).toArray⟩, .bool false, .int .i64 0, .string ⟨([] : List UInt8).toArray⟩] 122) := ⟨_, rfl⟩
  have JB : FsB W0 (g + 3) ⟨wrap64 (ac + bc), wrap64 (ah + bh), wrap64 (au + bu), true, ⟨false, 0, []⟩, ⟨false, 0, []⟩⟩ := by rw [hW0]; exact fs_new W3 ⟨wrap64 (ac + bc), wrap64 (ah + bh), wrap64 (au + bu), true, ⟨false, 0, []⟩, ⟨false, 0, []⟩⟩ _ s3
  have F4 : Fr Non W3 W0 := by rw [hW0]; exact (Fr.refl Non W3).alloc _
  obtain ⟨a0, a1, a2, a3, a4, a5, a6, a7, a8, a9⟩ := fsB_cells (show FsB W0 g ⟨ac, ah, au, true, ⟨aln, ali, alt⟩, ⟨ahn, ahi, aht⟩⟩ from ((A1.fr F2 (fun e => e)).fr F3 (fun e => e)).fr F4 (fun e => e))
  obtain ⟨b0, b1, b2, b3, b4, b5, b6, b7, b8, b9⟩ := fsB_cells (show FsB W0 (g + 1) ⟨bc, bh, bu, true, ⟨bln, bli, blt⟩, ⟨bhn, bhi, bht⟩⟩ from (B2.fr F3 (fun e => e)).fr F4 (fun e => e))
  dsimp only at a0 a1 a2 a3 a4 a5 a6 a7 a8 a9 b0 b1 b2 b3 b4 b5 b6 b7 b8 b9
  have RB : Hid (FsB W0 (g + 2) ⟨0, 0, 0, false, ⟨false, 0, []⟩, ⟨false, 0, []⟩⟩) := Lib.hid (R3.fr F4 (fun e => e))
  have F0 := Lib.hid (((F1.trans F2).trans F3).trans F4)
  have HG := Lib.hid hg
  replace JB := Lib.hid JB
  clear A1 B2 R3 F1 F2 F3 F4 s1 s2 s3
  subst hW1 hW2 hW3
  unfold fsV fsC
  dsimp only
  go_enter Tryz.func119, Tryz.ntmps119
  go_wp2
  rw [← hW0]
  clear hW0
  clear a0 a1 a2 a3 b0 b1 b2 b3
  obtain ⟨V, hV⟩ : ∃ V, V = W0.drew := ⟨_, rfl⟩
  refine wp_region_held_drew (S := (fun W' => W'.cell? ⟨g, 4, none⟩ = some (.bool aln) ∧ W'.cell? ⟨g, 5, none⟩ = some (.int .i64 ali) ∧ W'.cell? ⟨g, 6, none⟩ = some (.string ⟨alt.toArray⟩) ∧ W'.cell? ⟨g, 7, none⟩ = some (.bool ahn) ∧ W'.cell? ⟨g, 8, none⟩ = some (.int .i64 ahi) ∧ W'.cell? ⟨g, 9, none⟩ = some (.string ⟨aht.toArray⟩) ∧ W'.cell? ⟨(g + 1), 4, none⟩ = some (.bool bln) ∧ W'.cell? ⟨(g + 1), 5, none⟩ = some (.int .i64 bli) ∧ W'.cell? ⟨(g + 1), 6, none⟩ = some (.string ⟨blt.toArray⟩) ∧ W'.cell? ⟨(g + 1), 7, none⟩ = some (.bool bhn) ∧ W'.cell? ⟨(g + 1), 8, none⟩ = some (.int .i64 bhi) ∧ W'.cell? ⟨(g + 1), 9, none⟩ = some (.string ⟨bht.toArray⟩))) (by kernel_rfl) (by exact ⟨a4, a5, a6, a7, a8, a9, b4, b5, b6, b7, b8, b9⟩) (fun hHeld => ?_)
  rw [← hV]
  rw [← hV] at hHeld
  have FV : Fr Non W0 V := by rw [hV]; exact (Fr.refl Non W0).drew
  clear hV
  replace a4 := FV.at0 a4
  replace a5 := FV.at0 a5
  replace a6 := FV.at0 a6
  replace a7 := FV.at0 a7
  replace a8 := FV.at0 a8
  replace a9 := FV.at0 a9
  replace b4 := FV.at0 b4
  replace b5 := FV.at0 b5
  replace b6 := FV.at0 b6
  replace b7 := FV.at0 b7
  replace b8 := FV.at0 b8
  replace b9 := FV.at0 b9
  have JV : FsB V (g + 3) ⟨wrap64 (ac + bc), wrap64 (ah + bh), wrap64 (au + bu), true, ⟨false, 0, []⟩, ⟨false, 0, []⟩⟩ := JB.out.fr FV (fun e => e)
  have RV : FsB V (g + 2) ⟨0, 0, 0, false, ⟨false, 0, []⟩, ⟨false, 0, []⟩⟩ := RB.out.fr FV (fun e => e)
  refine wpAnyH_take (i := 0) (oi := ⟨some 28, _, _, _, _, none⟩) (v := ?v13) rfl (by kernel_rfl) (by kernel_rfl) (by kernel_rfl) (fun _ _ _ h => h) (Or.inl ⟨by rfl, ?hy13⟩) (by assumption) ?rest13
  case hy13 => (intro wS hSw; (try dsimp only at hSw); go_simp; (try with_reducible rfl))
  (try simp only [Act.put, zA, zB, zC])
  refine wpAnyH_take (i := 1) (oi := ⟨some 29, _, _, _, _, none⟩) (v := ?v14) rfl (by kernel_rfl) (by kernel_rfl) (by kernel_rfl) (fun _ _ _ h => h) (Or.inl ⟨by rfl, ?hy14⟩) (by assumption) ?rest14
  case hy14 => (intro wS hSw; (try dsimp only at hSw); go_simp; (try with_reducible rfl))
  (try simp only [Act.put, zA, zB, zC])
  refine wpAnyH_take (i := 2) (oi := ⟨some 30, _, _, _, _, none⟩) (v := ?v15) rfl (by kernel_rfl) (by kernel_rfl) (by kernel_rfl) (fun _ _ _ h => h) (Or.inl ⟨by rfl, ?hy15⟩) (by assumption) ?rest15
  case hy15 => (intro wS hSw; (try dsimp only at hSw); go_simp; (try with_reducible rfl))
  (try simp only [Act.put, zA, zB, zC])
  refine wpAnyH_take (i := 3) (oi := ⟨some 31, _, _, _, _, none⟩) (v := ?v16) rfl (by kernel_rfl) (by kernel_rfl) (by kernel_rfl) (fun _ _ _ h => h) (Or.inl ⟨by rfl, ?hy16⟩) (by assumption) ?rest16
  case hy16 => (intro wS hSw; (try dsimp only at hSw); go_simp; (try with_reducible rfl))
  (try simp only [Act.put, zA, zB, zC])
  refine wpAnyH_take (i := 5) (oi := ⟨some 33, _, _, _, _, none⟩) (v := ?v17) rfl (by kernel_rfl) (by kernel_rfl) (by kernel_rfl) (fun _ _ _ h => h) (Or.inl ⟨by rfl, ?hy17⟩) (by assumption) ?rest17
  case hy17 => (intro wS hSw; (try dsimp only at hSw); go_simp; (try with_reducible rfl))
  (try simp only [Act.put, zA, zB, zC])
  refine wpAnyH_take (i := 6) (oi := ⟨some 34, _, _, _, _, none⟩) (v := ?v18) rfl (by kernel_rfl) (by kernel_rfl) (by kernel_rfl) (fun _ _ _ h => h) (Or.inl ⟨by rfl, ?hy18⟩) (by assumption) ?rest18
  case hy18 => (intro wS hSw; (try dsimp only at hSw); go_simp; (try with_reducible rfl))
  (try simp only [Act.put, zA, zB, zC])
  refine wpAnyH_take (i := 7) (oi := ⟨some 35, _, _, _, _, none⟩) (v := ?v19) rfl (by kernel_rfl) (by kernel_rfl) (by kernel_rfl) (fun _ _ _ h => h) (Or.inl ⟨by rfl, ?hy19⟩) (by assumption) ?rest19
  case hy19 => (intro wS hSw; (try dsimp only at hSw); go_simp; (try with_reducible rfl))
  (try simp only [Act.put, zA, zB, zC])
  refine wpAnyH_take (i := 8) (oi := ⟨some 36, _, _, _, _, none⟩) (v := ?v20) rfl (by kernel_rfl) (by kernel_rfl) (by kernel_rfl) (fun _ _ _ h => h) (Or.inl ⟨by rfl, ?hy20⟩) (by assumption) ?rest20
  case hy20 => (intro wS hSw; (try dsimp only at hSw); go_simp; (try with_reducible rfl))
  (try simp only [Act.put, zA, zB, zC])
  refine wpAnyH_ready (rs := [4]) (by kernel_rfl) (by simp) ?_
  refine AllReadyH.cons (o := ⟨some 32, _, _, _, _, none⟩) rfl (fun K hK => ?_) AllReadyH.nil
  go_simp
  go_at_call 136
  refine (O1.out _).mono ?_
  rintro e X1 ⟨rfl, fX1⟩
  go_wp2_with fail
  refine hK.out _ _ (by exact ⟨fX1.at0 a4, fX1.at0 a5, fX1.at0 a6, fX1.at0 a7, fX1.at0 a8, fX1.at0 a9, fX1.at0 b4, fX1.at0 b5, fX1.at0 b6, fX1.at0 b7, fX1.at0 b8, fX1.at0 b9⟩) (fun hHeld => ?_)
  clear hK K
  (try simp only [Act.put, zA, zB, zC])
  replace a4 := fX1.at0 a4
  replace a5 := fX1.at0 a5
  replace a6 := fX1.at0 a6
  replace a7 := fX1.at0 a7
  replace a8 := fX1.at0 a8
  replace a9 := fX1.at0 a9
  replace b4 := fX1.at0 b4
  replace b5 := fX1.at0 b5
  replace b6 := fX1.at0 b6
  replace b7 := fX1.at0 b7
  replace b8 := fX1.at0 b8
  replace b9 := fX1.at0 b9
  refine wpAnyH_take (i := 10) (oi := ⟨some 38, _, _, _, _, none⟩) (v := ?v21) rfl (by kernel_rfl) (by kernel_rfl) (by kernel_rfl) (fun _ _ _ h => h) (Or.inl ⟨by rfl, ?hy21⟩) (by assumption) ?rest21
  case hy21 => (intro wS hSw; (try dsimp only at hSw); go_simp; (try with_reducible rfl))
  (try simp only [Act.put, zA, zB, zC])
  refine wpAnyH_ready (rs := [9]) (by kernel_rfl) (by simp) ?_
  refine AllReadyH.cons (o := ⟨some 37, _, _, _, _, none⟩) rfl (fun K hK => ?_) AllReadyH.nil
  go_simp
  go_at_call 137
  refine (O2.out _).mono ?_
  rintro e X2 ⟨rfl, fX2⟩
  go_wp2_with fail
  refine hK.out _ _ (by exact ⟨fX2.at0 a4, fX2.at0 a5, fX2.at0 a6, fX2.at0 a7, fX2.at0 a8, fX2.at0 a9, fX2.at0 b4, fX2.at0 b5, fX2.at0 b6, fX2.at0 b7, fX2.at0 b8, fX2.at0 b9⟩) (fun hHeld => ?_)
  clear hK K
  (try simp only [Act.put, zA, zB, zC])
  replace a4 := fX2.at0 a4
  replace a5 := fX2.at0 a5
  replace a6 := fX2.at0 a6
  replace a7 := fX2.at0 a7
  replace a8 := fX2.at0 a8
  replace a9 := fX2.at0 a9
  replace b4 := fX2.at0 b4
  replace b5 := fX2.at0 b5
  replace b6 := fX2.at0 b6
  replace b7 := fX2.at0 b7
  replace b8 := fX2.at0 b8
  replace b9 := fX2.at0 b9
  have JX : FsB X2 (g + 3) ⟨wrap64 (ac + bc), wrap64 (ah + bh), wrap64 (au + bu), true, ⟨false, 0, []⟩, ⟨false, 0, []⟩⟩ := (JV.fr fX1 (fun e => e)).fr fX2 (fun e => e)
  replace RV : FsB X2 (g + 2) ⟨0, 0, 0, false, ⟨false, 0, []⟩, ⟨false, 0, []⟩⟩ := (RV.fr fX1 (fun e => e)).fr fX2 (fun e => e)
  replace FV := (FV.trans fX1).trans fX2
  clear JV fX1 fX2
  refine wpAnyH_ready (rs := [11]) (by kernel_rfl) (by simp) ?_
  refine AllReadyH.cons (o := ⟨none, _, _, _, _, none⟩) rfl (fun K hK => ?_) AllReadyH.nil
  obtain ⟨p0, p1, p2, p3, p4, p5, p6, p7, p8, p9⟩ := fsB_cells JX
  obtain ⟨z0, z1, z2, z3, z4, z5, z6, z7, z8, z9⟩ := fsB_froz JX
  dsimp only at p0 p1 p2 p3 p4 p5 p6 p7 p8 p9
  obtain ⟨W5, hW5⟩ : ∃ W, W = setFsL X2 (g + 3) ln li lt := ⟨_, rfl⟩
  have sW5 : Fr (One (g + 3)) X2 W5 := by rw [hW5]; exact setFsL_fr _ _ _ _ _
  have JW5 := setFsL_B JX ⟨ln, li, lt⟩
  dsimp only at JW5
  rw [← hW5] at JW5
  unfold setFsL at hW5
  go_simp
  rw [← hW5]
  clear hW5 p0 p1 p2 p3 p4 p5 p6 p7 p8 p9 z0 z1 z2 z3 z4 z5 z6 z7 z8 z9
  refine hK.out _ _ (by exact ⟨sW5.atO (by omega) a4, sW5.atO (by omega) a5, sW5.atO (by omega) a6, sW5.atO (by omega) a7, sW5.atO (by omega) a8, sW5.atO (by omega) a9, sW5.atO (by omega) b4, sW5.atO (by omega) b5, sW5.atO (by omega) b6, sW5.atO (by omega) b7, sW5.atO (by omega) b8, sW5.atO (by omega) b9⟩) (fun hHeld => ?_)
  clear hK K
  (try simp only [Act.put, zA, zB, zC])
  replace a4 := sW5.atO (by omega) a4
  replace a5 := sW5.atO (by omega) a5
  replace a6 := sW5.atO (by omega) a6
  replace a7 := sW5.atO (by omega) a7
  replace a8 := sW5.atO (by omega) a8
  replace a9 := sW5.atO (by omega) a9
  replace b4 := sW5.atO (by omega) b4
  replace b5 := sW5.atO (by omega) b5
  replace b6 := sW5.atO (by omega) b6
  replace b7 := sW5.atO (by omega) b7
  replace b8 := sW5.atO (by omega) b8
  replace b9 := sW5.atO (by omega) b9
  refine wpAnyH_take (i := 12) (oi := ⟨some 39, _, _, _, _, none⟩) (v := ?v22) rfl (by kernel_rfl) (by kernel_rfl) (by kernel_rfl) (fun _ _ _ h => h) (Or.inl ⟨by rfl, ?hy22⟩) (by assumption) ?rest22
  case hy22 => (intro wS hSw; (try dsimp only at hSw); go_simp; (try with_reducible rfl))
  (try simp only [Act.put, zA, zB, zC])
  refine wpAnyH_ready (rs := [13]) (by kernel_rfl) (by simp) ?_
  refine AllReadyH.cons (o := ⟨none, _, _, _, _, none⟩) rfl (fun K hK => ?_) AllReadyH.nil
  obtain ⟨p0, p1, p2, p3, p4, p5, p6, p7, p8, p9⟩ := fsB_cells JW5
  obtain ⟨z0, z1, z2, z3, z4, z5, z6, z7, z8, z9⟩ := fsB_froz JW5
  dsimp only at p0 p1 p2 p3 p4 p5 p6 p7 p8 p9
  obtain ⟨W6, hW6⟩ : ∃ W, W = setFsH W5 (g + 3) hn hi ht := ⟨_, rfl⟩
  have sW6 : Fr (One (g + 3)) W5 W6 := by rw [hW6]; exact setFsH_fr _ _ _ _ _
  have JW6 := setFsH_B JW5 ⟨hn, hi, ht⟩
  dsimp only at JW6
  rw [← hW6] at JW6
  unfold setFsH at hW6
  go_simp
  rw [← hW6]
  clear hW6 p0 p1 p2 p3 p4 p5 p6 p7 p8 p9 z0 z1 z2 z3 z4 z5 z6 z7 z8 z9
  refine hK.out _ _ (by exact ⟨sW6.atO (by omega) a4, sW6.atO (by omega) a5, sW6.atO (by omega) a6, sW6.atO (by omega) a7, sW6.atO (by omega) a8, sW6.atO (by omega) a9, sW6.atO (by omega) b4, sW6.atO (by omega) b5, sW6.atO (by omega) b6, sW6.atO (by omega) b7, sW6.atO (by omega) b8, sW6.atO (by omega) b9⟩) (fun hHeld => ?_)
  clear hK K
  (try simp only [Act.put, zA, zB, zC])
  replace a4 := sW6.atO (by omega) a4
  replace a5 := sW6.atO (by omega) a5
  replace a6 := sW6.atO (by omega) a6
  replace a7 := sW6.atO (by omega) a7
  replace a8 := sW6.atO (by omega) a8
  replace a9 := sW6.atO (by omega) a9
  replace b4 := sW6.atO (by omega) b4
  replace b5 := sW6.atO (by omega) b5
  replace b6 := sW6.atO (by omega) b6
  replace b7 := sW6.atO (by omega) b7
  replace b8 := sW6.atO (by omega) b8
  replace b9 := sW6.atO (by omega) b9
  refine wpAnyH_done (by kernel_rfl) ?_ _
  clear hHeld
  have RE : FsB W6 (g + 2) ⟨0, 0, 0, false, ⟨false, 0, []⟩, ⟨false, 0, []⟩⟩ := (RV.fr sW5 (fun k => by have : g + 2 = g + 3 := k; omega)).fr sW6 (fun k => by have : g + 2 = g + 3 := k; omega)
  have F6 := Lib.hid (F0.out.fresh ((FV.any.trans sW5).trans sW6) (fun k e => by have : k = g + 3 := e; have := HG.out; omega))
  obtain ⟨p0, p1, p2, p3, p4, p5, p6, p7, p8, p9⟩ := fsB_cells JW6
  obtain ⟨q0, q1, q2, q3, q4, q5, q6, q7, q8, q9⟩ := fsB_cells RE
  obtain ⟨z0, z1, z2, z3, z4, z5, z6, z7, z8, z9⟩ := fsB_froz RE
  dsimp only at p0 p1 p2 p3 p4 p5 p6 p7 p8 p9 q0 q1 q2 q3 q4 q5 q6 q7 q8 q9
  have HE := Lib.hid (setFs_B RE ⟨wrap64 (ac + bc), wrap64 (ah + bh), wrap64 (au + bu), true, ⟨ln, li, lt⟩, ⟨hn, hi, ht⟩⟩)
  have FE := Lib.hid (F6.out.fresh (setFs_fr W6 (g + 2) ⟨wrap64 (ac + bc), wrap64 (ah + bh), wrap64 (au + bu), true, ⟨ln, li, lt⟩, ⟨hn, hi, ht⟩⟩) (fun k e => by have : k = g + 2 := e; have := HG.out; omega))
  unfold setFs setFsN setFsL setFsH at HE FE
  dsimp only at HE FE
  clear JW6 RE F6 sW5 sW6 FV RV JX a4 a5 a6 a7 a8 a9 b4 b5 b6 b7 b8 b9
  go_wp2
  exact bodyPost_ret (v := fsV ⟨wrap64 (ac + bc), wrap64 (ah + bh), wrap64 (au + bu), true, ⟨ln, li, lt⟩, ⟨hn, hi, ht⟩⟩) (ret_fs (p := 4) rfl _ _ (g + 2) ⟨wrap64 (ac + bc), wrap64 (ah + bh), wrap64 (au + bu), true, ⟨ln, li, lt⟩, ⟨hn, hi, ht⟩⟩ (by rfl) HE.out) rfl ⟨by rfl, FE.out⟩
theorem fjoin_any (a b : Fs) (w : World) : Calls Tryz.prog 119 #[fsV a, fsV b] w fun e w' => e = .returned (fsV (joinS a b)) ∧ Fr Non w w' := by
  obtain ⟨ac, ah, au, sa, ⟨aln, ali, alt⟩, ⟨ahn, ahi, aht⟩⟩ := a
  obtain ⟨bc, bh, bu, sb, ⟨bln, bli, blt⟩, ⟨bhn, bhi, bht⟩⟩ := b
  cases sa
  · exact fjoin_a ac ah au bc bh bu sb aln ahn bln bhn ali ahi bli bhi alt aht blt bht w
  · cases sb
    · exact fjoin_b ac ah au bc bh bu aln ahn bln bhn ali ahi bli bhi alt aht blt bht w
    · exact fjoin_c ac ah au bc bh bu aln ahn bln bhn ali ahi bli bhi alt aht blt bht w
set_option maxHeartbeats 4000000 in
theorem fadd_any (s : Fs) (x : Cl) (w : World) : Calls Tryz.prog 100 #[fsV s, clV x] w fun e w' => e = .returned (fsV (joinS s (oneS x))) ∧ Fr Non w w' := by
  have O1 := Lib.hid (fun W => fof_any x W)
  have O2 := Lib.hid (fun W => fjoin_any s (oneS x) W)
  obtain ⟨r, hr⟩ : ∃ r, joinS s (oneS x) = r := ⟨_, rfl⟩
  rw [hr] at O2 ⊢
  clear hr
  generalize oneS x = y at *
  obtain ⟨xn, xi, xt⟩ := x
  obtain ⟨ac, ah, au, sa, ⟨aln, ali, alt⟩, ⟨ahn, ahi, aht⟩⟩ := s
  obtain ⟨bc, bh, bu, sb, ⟨bln, bli, blt⟩, ⟨bhn, bhi, bht⟩⟩ := y
  obtain ⟨rc, rh, ru, sr, ⟨rln, rli, rlt⟩, ⟨rhn, rhi, rht⟩⟩ := r
  unfold clV clC at O1 ⊢
  unfold fsV fsC at O1 O2 ⊢
  dsimp only at O1 O2 ⊢
  obtain ⟨g, hg⟩ : ∃ g, w.heap.size = g := ⟨_, rfl⟩
  obtain ⟨W1, hW1⟩ : ∃ W, W = w.alloc (.cells #[.int .i64 ac, .int .i64 ah, .int .i64 au, .bool sa, .bool aln, .int .i64 ali, .string ⟨alt.toArray⟩, .bool ahn, .int .i64 ahi, .string ⟨aht.toArray⟩] 122) := ⟨_, rfl⟩
  have A1 : FsB W1 g ⟨ac, ah, au, sa, ⟨aln, ali, alt⟩, ⟨ahn, ahi, aht⟩⟩ := by rw [hW1]; exact fs_new w ⟨ac, ah, au, sa, ⟨aln, ali, alt⟩, ⟨ahn, ahi, aht⟩⟩ g hg
  have s1 : W1.heap.size = g + 1 := by rw [hW1]; simp [hg]
  have F1 : Fr Non w W1 := by rw [hW1]; exact (Fr.refl Non w).alloc _
  obtain ⟨W2, hW2⟩ : ∃ W, W = W1.alloc (.cells #[.bool xn, .int .i64 xi, .string ⟨xt.toArray⟩] 25) := ⟨_, rfl⟩
  have B2 : ClB W2 (g + 1) ⟨xn, xi, xt⟩ := by rw [hW2]; exact cl_newG W1 ⟨xn, xi, xt⟩ _ s1
  have s2 : W2.heap.size = g + 2 := by rw [hW2]; simp [s1]
  have F2 : Fr Non W1 W2 := by rw [hW2]; exact (Fr.refl Non W1).alloc _
  obtain ⟨W0, hW0⟩ : ∃ W, W = W2.alloc (.cells #[.int .i64 0, .int .i64 0, .int .i64 0, .bool false, .bool false, .int .i64 0, .string ⟨([] : List UInt8).toArray⟩, .bool false, .int .i64 0, .string ⟨([] : List UInt8).toArray⟩] 122) := ⟨_, rfl⟩
  have R3 : FsB W0 (g + 2) ⟨0, 0, 0, false, ⟨false, 0, []⟩, ⟨false, 0, []⟩⟩ := by rw [hW0]; exact fs_new W2 ⟨0, 0, 0, false, ⟨false, 0, []⟩, ⟨false, 0, []⟩⟩ _ s2
  have F3 : Fr Non W2 W0 := by rw [hW0]; exact (Fr.refl Non W2).alloc _
  obtain ⟨a0, a1, a2, a3, a4, a5, a6, a7, a8, a9⟩ := fsB_cells (show FsB W0 g ⟨ac, ah, au, sa, ⟨aln, ali, alt⟩, ⟨ahn, ahi, aht⟩⟩ from (A1.fr F2 (fun e => e)).fr F3 (fun e => e))
  obtain ⟨b0, b1, b2, -, -, -⟩ := ClB.facts (c := ⟨xn, xi, xt⟩) (B2.fr F3 (fun e => e))
  dsimp only at a0 a1 a2 a3 a4 a5 a6 a7 a8 a9 b0 b1 b2
  have RB := Lib.hid R3
  have F0 := Lib.hid ((F1.trans F2).trans F3)
  have HG := Lib.hid hg
  clear A1 B2 R3 F1 F2 F3 s1 s2
  subst hW1 hW2
  go_enter Tryz.func100, Tryz.ntmps100
  go_wp2
  rw [← hW0]
  clear hW0
  obtain ⟨V, hV⟩ : ∃ V, V = W0.drew := ⟨_, rfl⟩
  refine wp_region_held_drew (S := (fun W' => W'.cell? ⟨g, 0, none⟩ = some (.int .i64 ac) ∧ W'.cell? ⟨g, 1, none⟩ = some (.int .i64 ah) ∧ W'.cell? ⟨g, 2, none⟩ = some (.int .i64 au) ∧ W'.cell? ⟨g, 3, none⟩ = some (.bool sa) ∧ W'.cell? ⟨g, 4, none⟩ = some (.bool aln) ∧ W'.cell? ⟨g, 5, none⟩ = some (.int .i64 ali) ∧ W'.cell? ⟨g, 6, none⟩ = some (.string ⟨alt.toArray⟩) ∧ W'.cell? ⟨g, 7, none⟩ = some (.bool ahn) ∧ W'.cell? ⟨g, 8, none⟩ = some (.int .i64 ahi) ∧ W'.cell? ⟨g, 9, none⟩ = some (.string ⟨aht.toArray⟩) ∧ W'.cell? ⟨(g + 1), 0, none⟩ = some (.bool xn) ∧ W'.cell? ⟨(g + 1), 1, none⟩ = some (.int .i64 xi) ∧ W'.cell? ⟨(g + 1), 2, none⟩ = some (.string ⟨xt.toArray⟩))) (by kernel_rfl) (by exact ⟨a0, a1, a2, a3, a4, a5, a6, a7, a8, a9, b0, b1, b2⟩) (fun hHeld => ?_)
  rw [← hV]
  rw [← hV] at hHeld
  have FV : Fr Non W0 V := by rw [hV]; exact (Fr.refl Non W0).drew
  clear hV
  replace a0 := FV.at0 a0
  replace a1 := FV.at0 a1
  replace a2 := FV.at0 a2
  replace a3 := FV.at0 a3
  replace a4 := FV.at0 a4
  replace a5 := FV.at0 a5
  replace a6 := FV.at0 a6
  replace a7 := FV.at0 a7
  replace a8 := FV.at0 a8
  replace a9 := FV.at0 a9
  replace b0 := FV.at0 b0
  replace b1 := FV.at0 b1
  replace b2 := FV.at0 b2
  refine wpAnyH_take (i := 0) (oi := ⟨some 5, _, _, _, _, none⟩) (v := ?v23) rfl (by kernel_rfl) (by kernel_rfl) (by kernel_rfl) (fun _ _ _ h => h) (Or.inl ⟨by rfl, ?hy23⟩) (by assumption) ?rest23
  case hy23 => (intro wS hSw; (try dsimp only at hSw); go_simp; (try with_reducible rfl))
  (try simp only [Act.put, zA, zB, zC])
  refine wpAnyH_take (i := 1) (oi := ⟨some 6, _, _, _, _, none⟩) (v := ?v24) rfl (by kernel_rfl) (by kernel_rfl) (by kernel_rfl) (fun _ _ _ h => h) (Or.inl ⟨by rfl, ?hy24⟩) (by assumption) ?rest24
  case hy24 => (intro wS hSw; (try dsimp only at hSw); go_simp; (try with_reducible rfl))
  (try simp only [Act.put, zA, zB, zC])
  refine wpAnyH_ready (rs := [2]) (by kernel_rfl) (by simp) ?_
  refine AllReadyH.cons (o := ⟨some 7, _, _, _, _, none⟩) rfl (fun K hK => ?_) AllReadyH.nil
  go_simp
  go_at_call 120
  refine (O1.out _).mono ?_
  rintro e X1 ⟨rfl, fX1⟩
  go_wp2_with fail
  refine hK.out _ _ (by exact ⟨fX1.at0 a0, fX1.at0 a1, fX1.at0 a2, fX1.at0 a3, fX1.at0 a4, fX1.at0 a5, fX1.at0 a6, fX1.at0 a7, fX1.at0 a8, fX1.at0 a9, fX1.at0 b0, fX1.at0 b1, fX1.at0 b2⟩) (fun hHeld => ?_)
  clear hK K
  (try simp only [Act.put, zA, zB, zC])
  replace a0 := fX1.at0 a0
  replace a1 := fX1.at0 a1
  replace a2 := fX1.at0 a2
  replace a3 := fX1.at0 a3
  replace a4 := fX1.at0 a4
  replace a5 := fX1.at0 a5
  replace a6 := fX1.at0 a6
  replace a7 := fX1.at0 a7
  replace a8 := fX1.at0 a8
  replace a9 := fX1.at0 a9
  replace b0 := fX1.at0 b0
  replace b1 := fX1.at0 b1
  replace b2 := fX1.at0 b2
  refine wpAnyH_ready (rs := [3]) (by kernel_rfl) (by simp) ?_
  refine AllReadyH.cons (o := ⟨some 8, _, _, _, _, none⟩) rfl (fun K hK => ?_) AllReadyH.nil
  go_simp
  go_at_call 119
  refine (O2.out _).mono ?_
  rintro e X2 ⟨rfl, fX2⟩
  go_wp2_with fail
  refine hK.out _ _ (by exact ⟨fX2.at0 a0, fX2.at0 a1, fX2.at0 a2, fX2.at0 a3, fX2.at0 a4, fX2.at0 a5, fX2.at0 a6, fX2.at0 a7, fX2.at0 a8, fX2.at0 a9, fX2.at0 b0, fX2.at0 b1, fX2.at0 b2⟩) (fun hHeld => ?_)
  clear hK K
  (try simp only [Act.put, zA, zB, zC])
  replace a0 := fX2.at0 a0
  replace a1 := fX2.at0 a1
  replace a2 := fX2.at0 a2
  replace a3 := fX2.at0 a3
  replace a4 := fX2.at0 a4
  replace a5 := fX2.at0 a5
  replace a6 := fX2.at0 a6
  replace a7 := fX2.at0 a7
  replace a8 := fX2.at0 a8
  replace a9 := fX2.at0 a9
  replace b0 := fX2.at0 b0
  replace b1 := fX2.at0 b1
  replace b2 := fX2.at0 b2
  have RV : FsB X2 (g + 2) ⟨0, 0, 0, false, ⟨false, 0, []⟩, ⟨false, 0, []⟩⟩ := ((RB.out.fr FV (fun e => e)).fr fX1 (fun e => e)).fr fX2 (fun e => e)
  refine wpAnyH_ready (rs := [4]) (by kernel_rfl) (by simp) ?_
  refine AllReadyH.cons (o := ⟨none, _, _, _, _, none⟩) rfl (fun K hK => ?_) AllReadyH.nil
  obtain ⟨p0, p1, p2, p3, p4, p5, p6, p7, p8, p9⟩ := fsB_cells RV
  obtain ⟨z0, z1, z2, z3, z4, z5, z6, z7, z8, z9⟩ := fsB_froz RV
  dsimp only at p0 p1 p2 p3 p4 p5 p6 p7 p8 p9
  obtain ⟨W6, hW6⟩ : ∃ W, W = setFs X2 (g + 2) ⟨rc, rh, ru, sr, ⟨rln, rli, rlt⟩, ⟨rhn, rhi, rht⟩⟩ := ⟨_, rfl⟩
  have s6 : Fr (One (g + 2)) X2 W6 := by rw [hW6]; exact setFs_fr _ _ _
  have J6 := setFs_B RV ⟨rc, rh, ru, sr, ⟨rln, rli, rlt⟩, ⟨rhn, rhi, rht⟩⟩
  rw [← hW6] at J6
  unfold setFs setFsN setFsL setFsH at hW6
  dsimp only at hW6
  go_simp
  rw [← hW6]
  clear hW6 p0 p1 p2 p3 p4 p5 p6 p7 p8 p9 z0 z1 z2 z3 z4 z5 z6 z7 z8 z9
  refine hK.out _ _ (by exact ⟨s6.atO (by omega) a0, s6.atO (by omega) a1, s6.atO (by omega) a2, s6.atO (by omega) a3, s6.atO (by omega) a4, s6.atO (by omega) a5, s6.atO (by omega) a6, s6.atO (by omega) a7, s6.atO (by omega) a8, s6.atO (by omega) a9, s6.atO (by omega) b0, s6.atO (by omega) b1, s6.atO (by omega) b2⟩) (fun hHeld => ?_)
  clear hK K
  (try simp only [Act.put, zA, zB, zC])
  refine wpAnyH_done (by kernel_rfl) ?_ _
  have FE := Lib.hid (F0.out.fresh (((FV.trans fX1).trans fX2).any.trans s6) (fun k e => by have : k = g + 2 := e; have := HG.out; omega))
  replace J6 := Lib.hid J6
  clear hHeld FV fX1 fX2 s6 RV a0 a1 a2 a3 a4 a5 a6 a7 a8 a9 b0 b1 b2
  go_wp2
  exact bodyPost_ret (v := fsV ⟨rc, rh, ru, sr, ⟨rln, rli, rlt⟩, ⟨rhn, rhi, rht⟩⟩) (ret_fs (p := 4) rfl _ _ (g + 2) ⟨rc, rh, ru, sr, ⟨rln, rli, rlt⟩, ⟨rhn, rhi, rht⟩⟩ (by rfl) J6.out) rfl ⟨rfl, FE.out⟩
end Go.Proofs.YtjcfjjhhbcgcmaaGreat

namespace Go.Proofs.YtjcfjjhhbcgcmaaGreat
open Go.RowKit
section
variable {P : Program} {ops : Array Oper} {Q : Exit → Act → World → Prop} {md : Region.Mode} {S : World → Prop} {last : Nat}
def wpAnyK (P : Program) (md : Region.Mode) (ops : Array Oper) (Q : Exit → Act → World → Prop) (S : World → Prop) (last : Nat) : Nat → Array Bool → Act → World → Prop
  | 0, listed, a, w => Region.ready md ops listed = [] ∧ Q .normal a w
  | fuel + 1, listed, a, w =>
    (Region.ready md ops listed = [] → Q .normal a w) ∧
    ∀ i ∈ Region.ready md ops listed, wpOp P ops Q i (fun a' w' => (i ≠ last → S w') ∧ wpAnyK P md ops Q S last fuel (listed.setIfInBounds i true) a' w') a w
theorem wpAny_of_K : ∀ (fuel : Nat) (listed : Array Bool) (a : Act) (w : World), wpAnyK P md ops Q S last fuel listed a w → wpAny P md ops Q fuel listed a w
  | 0, _, _, _, h => h
  | fuel + 1, _, _, _, h => ⟨h.1, fun i hi => wpOp_mono (fun a' w' h' => wpAny_of_K fuel _ a' w' h'.2) (h.2 i hi)⟩
theorem wpAnyK_first {i : Nat} {oi : Oper} {v : Value} (hi : ops[i]? = some oi) (hsel : ∀ (j : Nat) (o : Oper) cs b, ops[j]? = some o → o.op ≠ .select cs b)
    (hQ : ∀ c a w, Q (.panic c) (a.put oi.dst v) w → Q (.panic c) a w) (hw : Region.waitsFor md ops last i = true) (hl : i ≠ last) :
    ∀ (fuel : Nat) (listed : Array Bool) (a : Act) (w : World),
      (∀ j oj, ops[j]? = some oj → j ≠ i → listed.getD j true = false → (∀ e ∈ oj.after, Region.binds md e = true → e.on ≠ i) → oi.apart ops oj = true) →
      i ∈ Region.ready md ops listed → YieldsIf P ops S oi v a → S w →
      wpAnyK P md ops Q S last fuel (listed.setIfInBounds i true) (a.put oi.dst v) w → wpAnyK P md ops Q S last (fuel + 1) listed a w := by
  intro fuel
  induction fuel with
  | zero =>
    intro listed a w _ hr hy hS H
    refine ⟨fun h => (by rw [h] at hr; cases hr), fun j hj => ?_⟩
    by_cases hji : j = i
    · subst hji; exact hy.wpOp hi hS ⟨fun _ => hS, H⟩
    · have := ready_mono hj hji
      rw [H.1] at this
      cases this
  | succ fuel ih =>
    intro listed a w hfree hr hy hS H
    refine ⟨fun h => (by rw [h] at hr; cases hr), fun j hj => ?_⟩
    by_cases hji : j = i
    · subst hji; exact hy.wpOp hi hS ⟨fun _ => hS, H⟩
    · have h1 := H.2 j (ready_mono hj hji)
      obtain ⟨hjun, oj, hoj, hall⟩ := mem_ready.1 hj
      have hnot : ∀ e ∈ oj.after, Region.binds md e = true → e.on ≠ i := fun e he hb heq => by
        have h1 := hall e he hb
        have h0 := (mem_ready.1 hr).1
        rw [heq] at h1
        rcases Nat.lt_or_ge i listed.size with h' | h'
        · simp [h'] at h0 h1; rw [h0] at h1; cases h1
        · simp [Array.getElem?_eq_none h'] at h1
      have hjl : j ≠ last := by
        intro e
        subst e
        obtain ⟨oj', hj', e, he, hb, hon⟩ := Region.waitsFor_spec hw
        obtain rfl : oj' = oj := Option.some.inj (hj'.symm.trans hoj)
        exact hnot e he hb hon
      have h2 := wpOp_putIf hoj (hfree j oj hoj hji hjun hnot) (fun cs b => hsel i oi cs b hi) (fun cs b => hsel j oj cs b hoj) hQ hy h1
      have hfree' : ∀ k ok, ops[k]? = some ok → k ≠ i → (listed.setIfInBounds j true).getD k true = false →
          (∀ e ∈ ok.after, Region.binds md e = true → e.on ≠ i) → oi.apart ops ok = true := fun k ok hk hki hun hno => by
        refine hfree k ok hk hki ?_ hno
        by_cases hjk : j = k
        · subst hjk; exact hjun
        · rw [getD_set_ne true hjk] at hun; exact hun
      refine wpOp_mono (fun a' w' h3 => ⟨h3.2.1, ih (listed.setIfInBounds j true) a' w' hfree' (ready_mono hr (Ne.symm hji)) h3.1 (h3.2.1 hjl) ?_⟩) h2
      rw [Array.setIfInBounds_comm _ _ hji]
      exact h3.2.2
theorem wpAnyK_take {i : Nat} {oi : Oper} {v : Value} {fuel : Nat} {listed : Array Bool} {a : Act} {w : World} (hi : ops[i]? = some oi)
    (hs : Region.noSelect ops = true) (hf : Region.free md ops listed i = true) (hr : (Region.ready md ops listed).contains i = true)
    (hQ : ∀ c a w, Q (.panic c) (a.put oi.dst v) w → Q (.panic c) a w) (hw : Region.waitsFor md ops last i = true) (hl : i ≠ last) (hy : YieldsIf P ops S oi v a) (hS : S w)
    (h : wpAnyK P md ops Q S last fuel (listed.setIfInBounds i true) (a.put oi.dst v) w) : wpAnyK P md ops Q S last (fuel + 1) listed a w :=
  wpAnyK_first hi (Region.noSelect_spec hs) hQ hw hl fuel listed a w (Region.free_spec hi hf) (by simpa using hr) hy hS h
theorem wpAnyK_one {i : Nat} {o : Oper} {fuel : Nat} {listed : Array Bool} {a : Act} {w : World} (hr : Region.ready md ops listed = [i]) (ho : ops[i]? = some o)
    (h : ∀ K' : Act → World → Prop, Shut (∀ a w, (i ≠ last → S w) → wpAnyK P md ops Q S last fuel (listed.setIfInBounds i true) a w → K' a w) → if Region.wanted o (yielded ops a.tmps) = true then Oper.wp P o a w K' Q else K' (a.put o.dst undef) w) :
    wpAnyK P md ops Q S last (fuel + 1) listed a w := by
  refine ⟨fun h0 => absurd (hr.symm.trans h0) (by simp), fun j hj => ?_⟩
  rw [hr] at hj
  obtain rfl := List.mem_singleton.1 hj
  exact wpOp_step ho (fun K' hK => h K' (fun a w hS hW => hK a w ⟨hS, hW⟩))
theorem wpAnyK_done {listed : Array Bool} {a : Act} {w : World} (hr : Region.ready md ops listed = []) (h : Q .normal a w) : ∀ fuel, wpAnyK P md ops Q S last fuel listed a w
  | 0 => ⟨hr, h⟩
  | _ + 1 => ⟨fun _ => h, by rw [hr]; simp⟩
theorem wp_region_K {id : Nat} {a : Act} {w : World} (S : World → Prop) (last : Nat) (hm : P.follows .mixedOrders = true)
    (h : wpAnyK P .any ops Q S last ops.size (Array.replicate ops.size false) a w.drew) : (Code.region id ops true).wp P Q a w :=
  wp_region_any hm (wpAny_of_K _ _ _ _ h)
end
end Go.Proofs.YtjcfjjhhbcgcmaaGreat

namespace Go.Proofs.YtjcfjjhhbcgcmaaGreat
open Go.RowKit
theorem gplace_any (v : Value) (cs : List Co) (n : Tx) (w : World) (hv : Ks w v cs) (hl : cs.length ≤ 1000000) :
    Calls Tryz.prog 35 #[v, .string ⟨n.toArray⟩] w fun e w' => e = .returned (.int .i64 (((findC cs n).getD 0 : Nat) : Int)) ∧ Fr Non w w' := by
  obtain ⟨k, b, h1, h2, h3⟩ := find_val cs n
  have HC := Lib.hid (sfind_any v cs n w hv (by omega))
  rw [h1] at HC
  rw [← h2]
  clear h1 h2 h3 hv
  go_enter Tryz.func35, Tryz.ntmps35
  go_wp2_with fail
  refine HC.out.mono ?_
  rintro e w1 ⟨rfl, f1⟩
  go_wp2
  go_ret
  exact ⟨rfl, f1⟩
set_option maxHeartbeats 4000000 in
theorem gvalue_any (op : Int) (v : Value) (rows : List (List Cl)) (p : Nat) (w : World) (hv : Rs w v rows) (hl : rows.length ≤ 100000) (hp : ∀ r ∈ rows, p < r.length) :
    Calls Tryz.prog 68 #[.int .i64 op, v, .int .i64 p] w fun e w' => e = .returned (clV (valF op (foC (colC rows p)))) ∧ Fr Non w w' := by
  obtain ⟨ps, hps, hpv, hpc⟩ := rs_pairs hv
  have hpl : ps.length ≤ 100000 := by rw [← hps, List.length_map] at hl; exact hl
  have HPP : Hid (∀ k (h : k < ps.length), p < ps[k].2.length) := Lib.hid (fun k h => hp _ (by rw [← hps]; exact List.mem_map.2 ⟨_, List.getElem_mem h, rfl⟩))
  have HCO : Hid (colC rows p = colC (ps.map Prod.snd) p) := Lib.hid (by rw [hps])
  rw [HCO.out]
  obtain ⟨A, c, hvv⟩ := hpv.shape
  rw [List.length_map] at hvv
  subst hvv
  have HV := Lib.hid hpv
  have HPC := Lib.hid hpc
  clear hpv hpc hv hp hps HCO hl
  obtain ⟨g, hg⟩ : ∃ g, w.heap.size = g := ⟨_, rfl⟩
  have hR : ClB (w.alloc (.cells #[.bool false, .int .i64 0, .string ⟨([] : List UInt8).toArray⟩] 25)) g ⟨false, 0, []⟩ := cl_newG w ⟨false, 0, []⟩ g hg
  have f0 : Fr Non w (w.alloc (.cells #[.bool false, .int .i64 0, .string ⟨([] : List UInt8).toArray⟩] 25)) := (Fr.refl Non w).alloc _
  have HN := Lib.hid (fun W => fnew_any W)
  have HG := Lib.hid hg
  replace hR := Lib.hid hR
  replace f0 := Lib.hid f0
  unfold fsV noFs noCl fsC at HN
  dsimp only at HN
  go_enter Tryz.func68, Tryz.ntmps68
  go_wp2_with fail
  refine (HN.out _).mono ?_
  rintro e w1 ⟨rfl, f1⟩
  obtain ⟨D, hD⟩ : ∃ D, w1.heap.size = D := ⟨_, rfl⟩
  have hgD : g < D := by have := (hR.out.fr f1 (fun e => e)).lt; omega
  have SB0 : FsB (w1.alloc (.cells #[.int .i64 0, .int .i64 0, .int .i64 0, .bool false, .bool false, .int .i64 0, .string ⟨([] : List UInt8).toArray⟩, .bool false, .int .i64 0, .string ⟨([] : List UInt8).toArray⟩] 122)) D noFs := fs_new w1 noFs D hD
  have f2 : Fr Non w1 (w1.alloc (.cells #[.int .i64 0, .int .i64 0, .int .i64 0, .bool false, .bool false, .int .i64 0, .string ⟨([] : List UInt8).toArray⟩, .bool false, .int .i64 0, .string ⟨([] : List UInt8).toArray⟩] 122)) := (Fr.refl Non w1).alloc _
  have RB0 := Lib.hid ((hR.out.fr f1 (fun e => e)).fr f2 (fun e => e))
  have FF0 := Lib.hid ((f0.out.trans f1).trans f2)
  replace SB0 := Lib.hid SB0
  have HD := Lib.hid hD
  clear hR f0 f1 f2 HN
  go_wp2
  go_loopw [13] (fun i wr => ∃ (k : Nat), k ≤ ps.length ∧ i = .int .i64 k ∧ Hid (FsB wr D (fsF (foC ((colC (ps.map Prod.snd) p).take k)))) ∧ Hid (ClB wr g ⟨false, 0, []⟩) ∧ Hid (Fr Non w wr)) (fun i _ => ps.length - (intOf i).toNat)
  case atStart => exact ⟨0, Nat.zero_le _, rfl, SB0, RB0, FF0⟩
  case round =>
    clear SB0 RB0 FF0
    obtain ⟨k, hk, rfl, SB, RB, FR⟩ := hrel
    by_cases hlt : k < ps.length
    · obtain ⟨ar, rfl, -, -, hel⟩ := (HV.out.non FR.out).addr (show 0 < ps.length by omega)
      have g0 := hel k (by rw [List.length_map]; exact hlt)
      rw [List.getElem_map] at g0
      clear hel
      have HPk := Lib.hid (HPP.out k hlt)
      have HCk : Hid (Cs wr (slV ps[k].1) ps[k].2) := Lib.hid ((HPC.out _ (List.getElem_mem hlt)).non FR.out)
      have HTk : Hid ((colC (ps.map Prod.snd) p).take (k + 1) = (colC (ps.map Prod.snd) p).take k ++ [ps[k].2[p]'(HPk.out)]) := Lib.hid (by
        rw [colC_take (ps.map Prod.snd) p k (by rw [List.length_map]; exact hlt) (by rw [List.getElem_map]; exact HPk.out)]
        simp only [List.getElem_map])
      have HLk : Hid (((colC (ps.map Prod.snd) p).take k).length ≤ 1000000) := Lib.hid (by rw [List.length_take]; omega)
      obtain ⟨L1, hL1⟩ : ∃ L1, (colC (ps.map Prod.snd) p).take (k + 1) = L1 := ⟨_, rfl⟩
      rw [hL1] at HTk
      replace hL1 := Lib.hid hL1
      generalize (colC (ps.map Prod.snd) p).take k = L0 at *
      generalize ps[k] = pk at *
      obtain ⟨⟨hA, hn, hc⟩, row⟩ := pk
      unfold slV at g0 HCk
      dsimp only at g0 HCk HPk HTk
      obtain ⟨A9, c9, e9⟩ := HCk.out.shape
      simp only [Value.slice.injEq] at e9
      obtain ⟨e91, e92, e93⟩ := e9
      subst e91 e92 e93
      have hpr := HPk.out
      obtain ⟨a, rfl, -, -, hel⟩ := HCk.out.addr (show 0 < row.length by omega)
      obtain ⟨t0, t1, t2⟩ := (hel p hpr).lit
      clear hel
      have HT := Lib.hid (fsF_snoc L0 row[p] HLk.out)
      have HC0 := Lib.hid (fun W => fadd_any (fsF (foC L0)) row[p] W)
      rw [HT.out, ← HTk.out] at HC0
      clear HT HTk HLk
      obtain ⟨r, hr⟩ : ∃ r, fsF (foC L1) = r := ⟨_, rfl⟩
      rw [hr] at HC0
      replace hr := Lib.hid hr
      generalize fsF (foC L0) = x at *
      generalize row[p] = q at *
      obtain ⟨cn, ci, ct⟩ := q
      obtain ⟨xc, xh, xu, xs, ⟨xln, xli, xlt⟩, ⟨xhn, xhi, xht⟩⟩ := x
      obtain ⟨rc, rh, ru, rs, ⟨rln, rli, rlt⟩, ⟨rhn, rhi, rht⟩⟩ := r
      have HC := HC0
      clear HC0 HCk
      unfold fsV fsC clV clC at HC
      dsimp only at *
      obtain ⟨s0, s1, s2, s3, s4, s5, s6, s7, s8, s9⟩ := fsB_cells SB.out
      dsimp only at s0 s1 s2 s3 s4 s5 s6 s7 s8 s9
      go_wp2
      refine wp_region_K (fun W' => W'.cell? ⟨D, 0, none⟩ = some (.int .i64 xc) ∧ W'.cell? ⟨D, 1, none⟩ = some (.int .i64 xh) ∧ W'.cell? ⟨D, 2, none⟩ = some (.int .i64 xu) ∧ W'.cell? ⟨D, 3, none⟩ = some (.bool xs) ∧ W'.cell? ⟨D, 4, none⟩ = some (.bool xln) ∧ W'.cell? ⟨D, 5, none⟩ = some (.int .i64 xli) ∧ W'.cell? ⟨D, 6, none⟩ = some (.string ⟨xlt.toArray⟩) ∧ W'.cell? ⟨D, 7, none⟩ = some (.bool xhn) ∧ W'.cell? ⟨D, 8, none⟩ = some (.int .i64 xhi) ∧ W'.cell? ⟨D, 9, none⟩ = some (.string ⟨xht.toArray⟩) ∧ W'.cell? (a.add (p * 3)) = some (.bool cn) ∧ W'.cell? { block := (a.add (p * 3)).block, off := (a.add (p * 3)).off + 1 } = some (.int .i64 ci) ∧ W'.cell? { block := (a.add (p * 3)).block, off := (a.add (p * 3)).off + 2 } = some (.string ⟨ct.toArray⟩)) 6 (by kernel_rfl) ?_
      obtain ⟨V, hV⟩ : ∃ V, V = wr.drew := ⟨_, rfl⟩
      rw [← hV]
      have FV : Fr Non wr V := by rw [hV]; exact (Fr.refl Non wr).drew
      clear hV
      have hHeld : (fun W' : World => W'.cell? ⟨D, 0, none⟩ = some (.int .i64 xc) ∧ W'.cell? ⟨D, 1, none⟩ = some (.int .i64 xh) ∧ W'.cell? ⟨D, 2, none⟩ = some (.int .i64 xu) ∧ W'.cell? ⟨D, 3, none⟩ = some (.bool xs) ∧ W'.cell? ⟨D, 4, none⟩ = some (.bool xln) ∧ W'.cell? ⟨D, 5, none⟩ = some (.int .i64 xli) ∧ W'.cell? ⟨D, 6, none⟩ = some (.string ⟨xlt.toArray⟩) ∧ W'.cell? ⟨D, 7, none⟩ = some (.bool xhn) ∧ W'.cell? ⟨D, 8, none⟩ = some (.int .i64 xhi) ∧ W'.cell? ⟨D, 9, none⟩ = some (.string ⟨xht.toArray⟩) ∧ W'.cell? (a.add (p * 3)) = some (.bool cn) ∧ W'.cell? { block := (a.add (p * 3)).block, off := (a.add (p * 3)).off + 1 } = some (.int .i64 ci) ∧ W'.cell? { block := (a.add (p * 3)).block, off := (a.add (p * 3)).off + 2 } = some (.string ⟨ct.toArray⟩)) V := (by exact ⟨FV.at0 s0, FV.at0 s1, FV.at0 s2, FV.at0 s3, FV.at0 s4, FV.at0 s5, FV.at0 s6, FV.at0 s7, FV.at0 s8, FV.at0 s9, FV.at0 t0, FV.at0 t1, FV.at0 t2⟩)
      refine wpAnyK_take (i := 0) (oi := ⟨some 17, _, _, _, _, none⟩) (v := ?v1) rfl (by kernel_rfl) (by kernel_rfl) (by kernel_rfl) (fun _ _ _ h => h) (by kernel_rfl) (by decide) (Or.inl ⟨by rfl, ?hy1⟩) (by assumption) ?rest1
      case hy1 => (intro wS hSw; (try dsimp only at hSw); go_simp; (try with_reducible rfl))
      (try simp only [Act.put, zA, zB, zC])
      refine wpAnyK_take (i := 1) (oi := ⟨some 18, _, _, _, _, none⟩) (v := ?v2) rfl (by kernel_rfl) (by kernel_rfl) (by kernel_rfl) (fun _ _ _ h => h) (by kernel_rfl) (by decide) (Or.inl ⟨by rfl, ?hy2⟩) (by assumption) ?rest2
      case hy2 => (intro wS hSw; (try dsimp only at hSw); go_simp; (try with_reducible rfl))
      (try simp only [Act.put, zA, zB, zC])
      refine wpAnyK_take (i := 2) (oi := ⟨some 19, _, _, _, _, none⟩) (v := ?v3) rfl (by kernel_rfl) (by kernel_rfl) (by kernel_rfl) (fun _ _ _ h => h) (by kernel_rfl) (by decide) (Or.inl ⟨by rfl, ?hy3⟩) (by assumption) ?rest3
      case hy3 => (intro wS hSw; (try dsimp only at hSw); go_simp; (try with_reducible rfl))
      (try simp only [Act.put, zA, zB, zC])
      refine wpAnyK_take (i := 3) (oi := ⟨some 20, _, _, _, _, none⟩) (v := ?v4) rfl (by kernel_rfl) (by kernel_rfl) (by kernel_rfl) (fun _ _ _ h => h) (by kernel_rfl) (by decide) (Or.inl ⟨by rfl, ?hy4⟩) (by assumption) ?rest4
      case hy4 => (intro wS hSw; (try dsimp only at hSw); go_simp; (try with_reducible rfl))
      (try simp only [Act.put, zA, zB, zC])
      refine wpAnyK_take (i := 4) (oi := ⟨some 21, _, _, _, _, none⟩) (v := ?v5) rfl (by kernel_rfl) (by kernel_rfl) (by kernel_rfl) (fun _ _ _ h => h) (by kernel_rfl) (by decide) (Or.inl ⟨by rfl, ?hy5⟩) (by assumption) ?rest5
      case hy5 => (intro wS hSw; (try dsimp only at hSw); go_simp; (try with_reducible rfl))
      (try simp only [Act.put, zA, zB, zC])
      refine wpAnyK_one (i := 5) (o := ⟨some 22, _, _, _, _, none⟩) (by kernel_rfl) rfl (fun K hK => ?_)
      go_simp
      go_at_call 100
      refine (HC.out _).mono ?_
      rintro e X2 ⟨rfl, fX⟩
      have fX' := FV.trans fX
      go_wp2_with fail
      refine hK.out _ _ (fun _ => (by exact ⟨fX'.at0 s0, fX'.at0 s1, fX'.at0 s2, fX'.at0 s3, fX'.at0 s4, fX'.at0 s5, fX'.at0 s6, fX'.at0 s7, fX'.at0 s8, fX'.at0 s9, fX'.at0 t0, fX'.at0 t1, fX'.at0 t2⟩)) ?_
      clear hK K
      (try simp only [Act.put, zA, zB, zC])
      have RV : FsB X2 D ⟨xc, xh, xu, xs, ⟨xln, xli, xlt⟩, ⟨xhn, xhi, xht⟩⟩ := SB.out.fr fX' (fun e => e)
      obtain ⟨p0, p1, p2, p3, p4, p5, p6, p7, p8, p9⟩ := fsB_cells RV
      obtain ⟨z0, z1, z2, z3, z4, z5, z6, z7, z8, z9⟩ := fsB_froz RV
      dsimp only at p0 p1 p2 p3 p4 p5 p6 p7 p8 p9
      obtain ⟨W6, hW6⟩ : ∃ W, W = setFs X2 D ⟨rc, rh, ru, rs, ⟨rln, rli, rlt⟩, ⟨rhn, rhi, rht⟩⟩ := ⟨_, rfl⟩
      have w6f : Fr (One D) X2 W6 := by rw [hW6]; exact setFs_fr _ _ _
      have J6 := setFs_B RV ⟨rc, rh, ru, rs, ⟨rln, rli, rlt⟩, ⟨rhn, rhi, rht⟩⟩
      rw [← hW6] at J6
      unfold setFs setFsN setFsL setFsH at hW6
      dsimp only at hW6
      refine wpAnyK_one (i := 6) (o := ⟨none, _, _, _, _, none⟩) (by kernel_rfl) rfl (fun K hK => ?_)
      go_simp
      rw [← hW6]
      clear hW6 p0 p1 p2 p3 p4 p5 p6 p7 p8 p9 z0 z1 z2 z3 z4 z5 z6 z7 z8 z9
      refine hK.out _ _ (fun h => absurd h (by simp)) ?_
      clear hK K
      (try simp only [Act.put, zA, zB, zC])
      refine wpAnyK_done (by kernel_rfl) ?_ _
      clear hHeld RV s0 s1 s2 s3 s4 s5 s6 s7 s8 s9 t0 t1 t2
      replace J6 := Lib.hid J6
      replace w6f := Lib.hid w6f
      replace fX := Lib.hid fX'
      clear fX' FV
      have F6 := Lib.hid (FR.out.fresh (fX.out.any.trans w6f.out) (fun q e => by have : q = D := e; have := HG.out; omega))
      have RB6 := Lib.hid ((RB.out.fr fX.out (fun e => e)).fr w6f.out (fun e => by have : g = D := e; omega))
      clear RB FR SB fX w6f g0 hpr
      go_wp2
      go_roundw
      case rel => exact ⟨k + 1, by omega, by go_num, by rw [hL1.out, hr.out]; exact J6, RB6, F6⟩
      case measure => simp [intOf]; omega
    · have hke : k = ps.length := by omega
      have hcl : (colC (ps.map Prod.snd) p).length = ps.length := by rw [colC_length, List.length_map]
      rw [hke, ← hcl, List.take_length] at SB
      have HVF : Hid (valS op (fsF (foC (colC (ps.map Prod.snd) p))) = valF op (foC (colC (ps.map Prod.snd) p))) := Lib.hid (valS_F op _)
      have HVa0 := Lib.hid (fun W => fval_any op (fsF (foC (colC (ps.map Prod.snd) p))) W)
      rw [HVF.out] at HVa0
      clear HVF hcl
      obtain ⟨y, hy⟩ : ∃ y, valF op (foC (colC (ps.map Prod.snd) p)) = y := ⟨_, rfl⟩
      rw [hy] at HVa0
      replace hy := Lib.hid hy
      generalize fsF (foC (colC (ps.map Prod.snd) p)) = x at *
      obtain ⟨yn, yi, yt⟩ := y
      obtain ⟨xc, xh, xu, xs, ⟨xln, xli, xlt⟩, ⟨xhn, xhi, xht⟩⟩ := x
      obtain ⟨s0, s1, s2, s3, s4, s5, s6, s7, s8, s9⟩ := fsB_cells SB.out
      dsimp only at s0 s1 s2 s3 s4 s5 s6 s7 s8 s9
      unfold fsV fsC clV clC at HVa0
      dsimp only at HVa0
      clear hke SB HV HPC HPP
      go_wp2_with fail
      refine (HVa0.out _).mono ?_
      rintro e w5 ⟨rfl, f5⟩
      have RB5 : ClB w5 g ⟨false, 0, []⟩ := RB.out.fr f5 (fun e => e)
      obtain ⟨p0, p1, p2, z0, z1, z2⟩ := ClB.facts RB5
      dsimp only at p0 p1 p2
      have HE := Lib.hid (setCl_B RB5 yn yi yt)
      have FE : Hid (Fr Non w (setCl w5 g yn yi yt)) := Lib.hid ((FR.out.trans f5).fresh (setCl_fr w5 g yn yi yt) (fun q e => by have : q = g := e; have := HG.out; omega))
      unfold setCl at HE FE
      clear RB RB5 FR f5 s0 s1 s2 s3 s4 s5 s6 s7 s8 s9
      go_wp2
      exact bodyPost_ret (v := clV ⟨yn, yi, yt⟩) (ret_cl (p := 6) rfl _ _ g ⟨yn, yi, yt⟩ (by rfl) HE.out) rfl ⟨by rw [hy.out], FE.out⟩
end Go.Proofs.YtjcfjjhhbcgcmaaGreat

namespace Go.Proofs.YtjcfjjhhbcgcmaaGreat
open Go.RowKit
def atC (l : List Cl) (k : Nat) : Cl := l.getD k noCl
theorem atC_at {l : List Cl} {k : Nat} (h : k < l.length) : atC l k = l[k] := by unfold atC; rw [List.getD_eq_getElem?_getD, List.getElem?_eq_getElem h]; rfl
def plI (pl : List Nat) : List Int := pl.map fun (n : Nat) => (n : Int)
theorem plI_len (pl : List Nat) : (plI pl).length = pl.length := by unfold plI; rw [List.length_map]
theorem plI_at {pl : List Nat} {k : Nat} (h : k < pl.length) (h2 : k < (plI pl).length) : (plI pl)[k] = (pl[k] : Int) := List.getElem_map (fun (n : Nat) => (n : Int))
set_option maxHeartbeats 2000000 in
theorem gtakenC_any (v pv : Value) (l : List Cl) (pl : List Nat) (w : World) (hv : Cs w v l) (hp : Vs iv w pv (plI pl)) (hpl : pl.length ≤ 100000) (hb : ∀ k ∈ pl, k < l.length) :
    Calls Tryz.prog 67 #[v, pv] w fun e w' => ∃ u, e = .returned u ∧ Oc w' w.heap.size u (pl.map (atC l)) ∧ Fr Non w w' := by
  obtain ⟨A0, c0, rfl⟩ := hv.shape
  obtain ⟨A1, c1, hpv⟩ := hp.shape
  rw [plI_len] at hpv
  subst hpv
  have HV := Lib.hid hv
  have HP := Lib.hid hp
  have HB := Lib.hid hb
  clear hv hp hb
  go_enter Tryz.func67, Tryz.ntmps67
  go_wp2
  go_loopw [5, 10] (fun x i wr => ∃ (k : Nat), k ≤ pl.length ∧ i = .int .i64 k ∧ Hid (Oc wr w.heap.size x ((pl.take k).map (atC l))) ∧ Hid (Fr Non w wr)) (fun _ i _ => pl.length - (intOf i).toNat)
  case atStart => exact ⟨0, Nat.zero_le _, rfl, Lib.hid (oc_nil _ _), Lib.hid (Fr.refl _ _)⟩
  case round =>
    obtain ⟨k, hk, rfl, HO, FR⟩ := hrel
    by_cases hlt : k < pl.length
    · obtain ⟨a1, rfl, -, -, hel⟩ := (HP.out.non FR.out).addr (show 0 < pl.length by omega)
      have g0 := hel k (by rw [plI_len]; exact hlt)
      rw [plI_at hlt] at g0
      clear hel
      have hbk := HB.out _ (List.getElem_mem hlt)
      have HM : Hid ((pl.take (k + 1)).map (atC l) = (pl.take k).map (atC l) ++ [l[pl[k]]]) := Lib.hid (by rw [List.take_succ_eq_append_getElem hlt, List.map_append, List.map_cons, List.map_nil, atC_at hbk])
      have HDl : Hid (((pl.take k).map (atC l)).length ≤ 100000) := Lib.hid (by rw [List.length_map, List.length_take]; omega)
      generalize (pl.take k).map (atC l) = D at *
      generalize pl[k] = m at *
      obtain ⟨a0, rfl, -, -, hel⟩ := (HV.out.non FR.out).addr (show 0 < l.length by omega)
      obtain ⟨t0, t1, t2⟩ := (hel m hbk).lit
      clear hel
      unfold iv at g0
      generalize l[m] = y at *
      obtain ⟨yn, yi, yt⟩ := y
      dsimp only at t0 t1 t2
      obtain ⟨Ax, cx, hx⟩ := HO.out.shape
      subst hx
      have hbs : w.heap.size ≤ wr.heap.size := FR.out.size
      go_wp2_with (at_builtin; refine wpList_pushC rfl (.tmp 14) (.tmp 19) rfl w.heap.size _ D rfl HO.out ⟨yn, yi, yt⟩ _ _ _ rfl rfl rfl _ rfl rfl (by have := HDl.out; omega) hbs ?_; intro v6 w6 hown6 hf6)
      have F6 := Lib.hid (FR.out.fresh hf6 (fun k e => (HO.out.lt k e).1))
      go_roundw
      case rel => exact ⟨k + 1, by omega, by go_num, by rw [HM.out]; exact Lib.hid hown6, F6⟩
      case measure => simp [intOf]; omega
    · have hke : k = pl.length := by omega
      rw [hke, List.take_length] at HO
      go_wp2
      go_ret
      exact ⟨_, rfl, HO.out, FR.out⟩
def atS (ps : List (Sl × List Cl)) (k : Nat) : Sl × List Cl := ps.getD k (noSl, [])
theorem atS_at {ps : List (Sl × List Cl)} {k : Nat} (h : k < ps.length) : atS ps k = ps[k] := by unfold atS; rw [List.getD_eq_getElem?_getD, List.getElem?_eq_getElem h]; rfl
set_option maxHeartbeats 2000000 in
theorem gtakenR_any (v pv : Value) (ps : List (Sl × List Cl)) (pl : List Nat) (w : World) (hv : Vs slV w v (ps.map Prod.fst)) (hp : Vs iv w pv (plI pl)) (hpl : pl.length ≤ 100000) (hb : ∀ k ∈ pl, k < ps.length) :
    Calls Tryz.prog 24 #[v, pv] w fun e w' => ∃ u, e = .returned u ∧ Ow slV 47 w' w.heap.size u ((pl.map (atS ps)).map Prod.fst) ∧ Fr Non w w' := by
  obtain ⟨A0, c0, hvv⟩ := hv.shape
  rw [List.length_map] at hvv
  subst hvv
  obtain ⟨A1, c1, hpv⟩ := hp.shape
  rw [plI_len] at hpv
  subst hpv
  have HV := Lib.hid hv
  have HP := Lib.hid hp
  have HB := Lib.hid hb
  clear hv hp hb
  go_enter Tryz.func24, Tryz.ntmps24
  go_wp2
  go_loopw [5, 10] (fun x i wr => ∃ (k : Nat), k ≤ pl.length ∧ i = .int .i64 k ∧ Hid (Ow slV 47 wr w.heap.size x (((pl.take k).map (atS ps)).map Prod.fst)) ∧ Hid (Fr Non w wr)) (fun _ i _ => pl.length - (intOf i).toNat)
  case atStart => exact ⟨0, Nat.zero_le _, rfl, Lib.hid (ow_nil _ _), Lib.hid (Fr.refl _ _)⟩
  case round =>
    obtain ⟨k, hk, rfl, HO, FR⟩ := hrel
    by_cases hlt : k < pl.length
    · obtain ⟨a1, rfl, -, -, hel⟩ := (HP.out.non FR.out).addr (show 0 < pl.length by omega)
      have g0 := hel k (by rw [plI_len]; exact hlt)
      rw [plI_at hlt] at g0
      clear hel
      have hbk := HB.out _ (List.getElem_mem hlt)
      have HM : Hid (((pl.take (k + 1)).map (atS ps)).map Prod.fst = ((pl.take k).map (atS ps)).map Prod.fst ++ [ps[pl[k]].1]) := Lib.hid (by rw [List.take_succ_eq_append_getElem hlt, List.map_append, List.map_append, List.map_cons, List.map_nil, atS_at hbk]; rfl)
      have HDl : Hid ((((pl.take k).map (atS ps)).map Prod.fst).length ≤ 100000) := Lib.hid (by rw [List.length_map, List.length_map, List.length_take]; omega)
      generalize ((pl.take k).map (atS ps)).map Prod.fst = D at *
      generalize pl[k] = m at *
      obtain ⟨a0, rfl, -, -, hel⟩ := (HV.out.non FR.out).addr (show 0 < ps.length by omega)
      have t0 := hel m (by rw [List.length_map]; exact hbk)
      rw [List.getElem_map] at t0
      clear hel
      unfold iv at g0
      generalize ps[m].1 = y at *
      obtain ⟨yA, yl, yc⟩ := y
      unfold slV at t0
      dsimp only at t0
      obtain ⟨Ax, cx, hx⟩ := HO.out.shape
      subst hx
      have hbs : w.heap.size ≤ wr.heap.size := FR.out.size
      go_wp2_with (at_builtin; refine wpList_pushG el_rows slV_one rfl (.tmp 14) (.tmp 19) rfl w.heap.size _ D rfl HO.out _ ⟨yA, yl, yc⟩ rfl rfl (by have := HDl.out; omega) hbs ?_; intro v6 w6 hown6 hf6)
      have F6 := Lib.hid (FR.out.fresh hf6 (fun k e => (HO.out.lt k e).1))
      go_roundw
      case rel => exact ⟨k + 1, by omega, by go_num, by rw [HM.out]; exact Lib.hid hown6, F6⟩
      case measure => simp [intOf]; omega
    · have hke : k = pl.length := by omega
      rw [hke, List.take_length] at HO
      go_wp2
      go_ret
      exact ⟨_, rfl, HO.out, FR.out⟩
set_option maxHeartbeats 2000000 in
theorem gplain_any (v pv : Value) (rows : List (List Cl)) (pl : List Nat) (w : World) (hv : Rs w v rows) (hp : Vs iv w pv (plI pl)) (hrl : rows.length ≤ 100000) (hpl : pl.length ≤ 100000) (hb : ∀ r ∈ rows, ∀ k ∈ pl, k < r.length) :
    Calls Tryz.prog 41 #[v, pv] w fun e w' => ∃ u, e = .returned u ∧ Ro w' w.heap.size u (rows.map fun r => pl.map (atC r)) ∧ Fr Non w w' := by
  obtain ⟨ps, hps, hpv, hpc⟩ := rs_pairs hv
  have hlen : ps.length = rows.length := by rw [← hps, List.length_map]
  obtain ⟨A0, c0, hvv⟩ := hpv.shape
  rw [List.length_map] at hvv
  subst hvv
  obtain ⟨A1, c1, hpv1⟩ := hp.shape
  rw [plI_len] at hpv1
  subst hpv1
  have HT : Hid (∀ k (h : k < ps.length) W, Fr Non w W → Calls Tryz.prog 67 #[slV ps[k].1, .slice A1 pl.length c1] W fun e w' => ∃ u, e = .returned u ∧ Oc w' W.heap.size u (pl.map (atC ps[k].2)) ∧ Fr Non W w') := Lib.hid (fun k h W hf =>
    gtakenC_any _ _ _ pl W ((hpc _ (List.getElem_mem h)).non hf) (hp.non hf) hpl (hb _ (by rw [← hps]; exact List.mem_map.2 ⟨_, List.getElem_mem h, rfl⟩)))
  have HR : Hid (rows = ps.map Prod.snd) := Lib.hid hps.symm
  have HV := Lib.hid hpv
  clear hv hp hb hpv hpc hps
  rw [HR.out]
  rw [HR.out, List.length_map] at hrl
  clear hlen HR
  go_enter Tryz.func41, Tryz.ntmps41
  go_wp2
  go_loopw [5, 10] (fun x i wr => ∃ (k : Nat), k ≤ ps.length ∧ i = .int .i64 k ∧ Hid (Ro wr w.heap.size x ((ps.take k).map fun p => pl.map (atC p.2))) ∧ Hid (Fr Non w wr)) (fun _ i _ => ps.length - (intOf i).toNat)
  case atStart => exact ⟨0, Nat.zero_le _, rfl, Lib.hid (ro_nil _ _), Lib.hid (Fr.refl _ _)⟩
  case round =>
    obtain ⟨k, hk, rfl, HO, FR⟩ := hrel
    by_cases hlt : k < ps.length
    · obtain ⟨a0, rfl, -, -, hel⟩ := (HV.out.non FR.out).addr (show 0 < ps.length by omega)
      have g0 := hel k (by rw [List.length_map]; exact hlt)
      rw [List.getElem_map] at g0
      clear hel
      have HTk := Lib.hid (HT.out k hlt)
      have HM : Hid ((ps.take (k + 1)).map (fun p => pl.map (atC p.2)) = (ps.take k).map (fun p => pl.map (atC p.2)) ++ [pl.map (atC ps[k].2)]) := Lib.hid (by rw [List.take_succ_eq_append_getElem hlt, List.map_append, List.map_cons, List.map_nil])
      have HDl : Hid (((ps.take k).map (fun p => pl.map (atC p.2))).length ≤ 100000) := Lib.hid (by rw [List.length_map, List.length_take]; omega)
      generalize (ps.take k).map (fun p => pl.map (atC p.2)) = D at *
      generalize pl.map (atC ps[k].2) = L at *
      generalize ps[k].1 = y at *
      obtain ⟨yA, yl, yc⟩ := y
      unfold slV at g0 HTk
      dsimp only at g0 HTk
      obtain ⟨Ax, cx, hx⟩ := HO.out.shape
      subst hx
      go_wp2_with fail
      refine (HTk.out _ FR.out).mono ?_
      rintro e w1 ⟨u, rfl, hu, f1⟩
      have F1 := Lib.hid (FR.out.trans f1)
      have HO1 := Lib.hid (HO.out.non f1)
      have HU := Lib.hid (hu.mono (B' := w.heap.size) FR.out.size)
      have hbs : w.heap.size ≤ w1.heap.size := F1.out.size
      obtain ⟨Au, cu, rfl⟩ := hu.shape
      clear hu f1
      go_wp2_with (at_builtin; refine wpList_pushRo rfl (.tmp 14) (.tmp 18) rfl w.heap.size _ D rfl HO1.out _ L HU.out rfl (by have := HDl.out; omega) hbs ?_; intro v6 w6 hown6 hf6)
      have F6 := Lib.hid (F1.out.fresh hf6 (fun k e => (HO1.out.lt k e).1))
      go_roundw
      case rel => exact ⟨k + 1, by omega, by go_num, by rw [HM.out]; exact Lib.hid hown6, F6⟩
      case measure => simp [intOf]; omega
    · have hke : k = ps.length := by omega
      rw [hke, List.take_length] at HO
      go_wp2
      go_ret
      exact ⟨_, rfl, by rw [List.map_map]; exact HO.out, FR.out⟩
end Go.Proofs.YtjcfjjhhbcgcmaaGreat
