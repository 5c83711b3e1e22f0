/-
  Joined: Layer 22: the walk of the law FoldOrders. · Arguments opened: a cell by value; a value of each type. · Arguments opened: a slice of cells.
-/
import Derived.Lib.Varint
import Derived.Lib.Zigzag
import Derived.Deep.RegionHeld3
import Derived.Test.YtincapmagennmaaZ2
import Derived.Test.YtincapmagennmaaZ1
import Derived.Lib.SmallJoins

namespace Go.Proofs.Ytincapmagennmaa
set_option linter.unusedVariables false
set_option linter.unusedSimpArgs false
set_option maxRecDepth 100000
open Go.RowKit

theorem oc_not_fs {w : World} {B g : Nat} {v : Value} {l : List Cl} {s : Fs} (h : Oc w B v l) (hs : FsB w g s) : ∀ k, v.ownBlock = some k → k ≠ g := by
  intro k hk e
  obtain ⟨cur, hc⟩ := h.kind k hk
  subst e
  have h2 : w.heap[k]? = some (.cells (fsC s) 28 (0, 0)) := hs
  rw [hc] at h2
  injection h2 with h2
  injection h2 with _ h2
  exact absurd h2 (by decide)

set_option maxHeartbeats 8000000 in
theorem foldOrders_walk (v1 v2 : Value) (l : List Cl) (m : List UInt8) (w : World) (h1 : Cs w v1 l) (h2 : Bs w v2 m) :
    Calls Try.prog 5 #[v1, v2] w fun e w' => e = .returned (.bool true) ∧ Below w.heap.size w w' := by
  obtain ⟨A1, c1, rfl⟩ := h1.shape
  obtain ⟨A2, c2, rfl⟩ := h2.shape
  have H1 := Lib.hid h1
  have H2 := Lib.hid h2
  clear h1 h2
  go_enter Try.func5, Try.ntmps5
  go_wp2_with fail
  refine (smallC_any _ l w H1.out).mono ?_
  rintro e w1 ⟨s1, rfl, hs1, f1⟩
  cases s1
  · clear hs1
    go_wp2_with fail
    refine (live22_any _).mono ?_
    rintro e wl ⟨rfl, fl⟩
    go_wp2
    go_ret
    exact ⟨rfl, (f1.trans fl).below⟩
  · have hl := hs1 rfl
    clear hs1
    replace f1 := Lib.hid f1
    by_cases hm : 200 < m.length
    · have hd : decide ((200 : Int) < (m.length : Int)) = true := decide_eq_true (by omega)
      clear hm
      go_wp2_with fail
      refine (live22_any _).mono ?_
      rintro e wl ⟨rfl, fl⟩
      go_wp2
      go_ret
      exact ⟨rfl, (f1.out.trans fl).below⟩
    · have hd : decide ((200 : Int) < (m.length : Int)) = false := decide_eq_false (by omega)
      have h1 := Lib.hid (H1.out.non (f1.out.alloc (.cells #[] 26)))
      have hO : Hid (Oc (w1.alloc (.cells #[] 26)) w1.heap.size (.slice (some ⟨w1.heap.size, 0, none⟩) 0 0) []) := Lib.hid (oc_lit0 w1 w1.heap.size w1.heap.size rfl (Nat.le_refl _))
      have FA := Lib.hid (f1.out.alloc (.cells #[] 26))
      have FW := Lib.hid f1.out.size
      clear f1
      have HN := Lib.hid (fun W => fnew_any W)
      unfold fsV noFs noCl fsC at HN
      dsimp only at HN
      go_wp2_with (at_builtin; refine wpList_appC (by rfl) (.tmp 19) (.tmp 20) rfl w1.heap.size (.slice (some ⟨w1.heap.size, 0, none⟩) 0 0) (.slice A1 l.length c1) [] l rfl hO.out rfl h1.out (by simp; omega) (by simp) ?_; intro v5 w5 own5 f5; have F5 := FA.out.fresh f5 (fun k hk => by have := (hO.out.lt k hk).1; have := FW.out; omega); have HO5 := Lib.hid own5; have HF5 := Lib.hid F5; have HS5 : Hid (w1.heap.size ≤ w5.heap.size) := Lib.hid (Nat.le_trans (by simp) f5.size); clear own5 f5 F5 hO h1 FA)
      refine (HN.out _).mono ?_
      rintro e w6 ⟨rfl, f6⟩
      obtain ⟨D, hD⟩ : ∃ D, w6.heap.size = D := ⟨_, rfl⟩
      have SB0 : Hid (FsB (w6.alloc (.cells #[.int .i64 0, .int .i64 0, .int .i64 0, .bool false, .bool false, .int .i64 0, .string ⟨([] : List UInt8).toArray⟩, .bool false, .int .i64 0, .string ⟨([] : List UInt8).toArray⟩] 28)) D noFs) := Lib.hid (fs_new w6 noFs D hD)
      have HO6 : Hid (Oc (w6.alloc (.cells #[.int .i64 0, .int .i64 0, .int .i64 0, .bool false, .bool false, .int .i64 0, .string ⟨([] : List UInt8).toArray⟩, .bool false, .int .i64 0, .string ⟨([] : List UInt8).toArray⟩] 28)) w1.heap.size v5 l) := Lib.hid (((HO5.out.non f6).alloc _))
      have FF6 := Lib.hid ((HF5.out.trans f6).alloc (.cells #[.int .i64 0, .int .i64 0, .int .i64 0, .bool false, .bool false, .int .i64 0, .string ⟨([] : List UInt8).toArray⟩, .bool false, .int .i64 0, .string ⟨([] : List UInt8).toArray⟩] 28))
      have HBD : Hid (w1.heap.size ≤ D) := Lib.hid (by have := HS5.out; have := f6.size; omega)
      have HWD : Hid (w.heap.size ≤ w1.heap.size) := FW
      clear f6 HO5 HF5 HS5 HN FW
      have HD := Lib.hid hD
      obtain ⟨B, hB⟩ : ∃ B, w1.heap.size = B := ⟨_, rfl⟩
      rw [hB] at HO6 HBD HWD
      have HP0 : Hid (([] ++ l).Perm l) := Lib.hid (List.Perm.refl _)
      obtain ⟨A5, c5, rfl⟩ := HO6.out.shape
      go_wp2
      clear hD hB
      generalize (Value.agg #[.int .i64 0, .int .i64 0, .int .i64 0, .bool false, .bool false, .int .i64 0, .string ⟨#[]⟩, .bool false, .int .i64 0, .string ⟨#[]⟩]) = zz
      go_loopw [5, 7] (fun x i wr => ∃ (done left : List Cl) (k : Nat), k + left.length = l.length ∧ i = .int .i64 k ∧ Oc wr B x left ∧ Hid ((done ++ left).Perm l) ∧ Hid (FsB wr D (fsF (foC done))) ∧ Hid (Fr Non w wr)) (fun x _ _ => slLen x)
      case atStart => exact ⟨[], l, 0, by omega, rfl, HO6.out, HP0, SB0, FF6⟩
      case round =>
        clear HO6 HP0 SB0 FF6
        obtain ⟨done, left, k, hk, rfl, hO, HP, SB, FR⟩ := hrel
        obtain ⟨Ax, cx, rfl⟩ := hO.shape
        have HO := Lib.hid hO
        clear hO
        by_cases hlt : 0 < left.length
        · by_cases hkm : k < m.length
          · obtain ⟨a2, e2, -, -, hm2⟩ := (H2.out.non FR.out).vs.addr (show 0 < m.length by omega)
            have q0 := hm2 k hkm
            clear hm2
            unfold bv at q0
            subst e2
            obtain ⟨j, hj, hjl⟩ : ∃ j : Nat, m[k].toNat % left.length = j ∧ j < left.length := ⟨_, rfl, Nat.mod_lt _ hlt⟩
            have hmod : (wrap64 (m[k].toNat : Int)).tmod (left.length : Int) = (j : Int) := by
              have h256 := m[k].toNat_lt
              rw [show wrap64 (m[k].toNat : Int) = (m[k].toNat : Int) by rw [w6_wrap64]; exact w6_small (by omega) (by omega), Int.tmod_eq_emod_of_nonneg (by omega), ← hj]
              rfl
            replace hmod := Lib.hid hmod
            clear hj
            have hle : left.length ≤ 100 := by omega
            have hdl : done.length ≤ 1000000 := by have := HP.out.length_eq; rw [List.length_append] at this; omega
            obtain ⟨a, e1, -, hcx, hel⟩ := HO.out.cs.addr hlt
            subst e1
            obtain ⟨t0, t1, t2⟩ := (hel j hjl).lit
            obtain ⟨A3, c3, hs3, hp3⟩ := slice_hiCs (some a) left.length cx j .i64 (j : Int) rfl (by omega) hcx
            obtain ⟨A4, c4, hs4, hp4⟩ := slice_loCs (some a) left.length cx (j + 1) .i64 ((j : Int) + 1) (by omega) (by omega) hcx
            have hwj : IntKind.i64.wrap ((j : Int) + 1) = (j : Int) + 1 := by rw [w6_wrap]; exact w6_small (by omega) (by omega)
            replace hp3 := Lib.hid hp3
            replace hp4 := Lib.hid hp4
            have HT := Lib.hid (fsF_snoc done left[j] hdl)
            have HC0 := Lib.hid (fun W => fadd_any (fsF (foC done)) left[j] W)
            have HP2 := Lib.hid (perm_take HP.out hjl)
            rw [HT.out] at HC0
            clear hel HT hdl HP
            obtain ⟨r, hr⟩ : ∃ r, fsF (foC (done ++ [left[j]])) = r := ⟨_, rfl⟩
            rw [hr] at HC0
            replace hr := Lib.hid hr
            generalize fsF (foC done) = x at *
            obtain ⟨q, hq⟩ : ∃ q, left[j] = q := ⟨_, rfl⟩
            rw [hq] at HC0 t0 t1 t2
            clear hq
            obtain ⟨cn, ci, ct⟩ := q
            obtain ⟨xc, xh, xu, xs, ⟨xln, xli, xlt⟩, ⟨xhn, xhi, xht⟩⟩ := x
            obtain ⟨rc, rh, ru, rs, ⟨rln, rli, rlt⟩, ⟨rhn, rhi, rht⟩⟩ := r
            have HC := HC0
            clear HC0
            unfold fsV fsC clV clC at HC
            dsimp only at HC t0 t1 t2
            obtain ⟨s0, s1, s2, s3, s4, s5, s6, s7, s8, s9⟩ := fsB_cells SB.out
            dsimp only at s0 s1 s2 s3 s4 s5 s6 s7 s8 s9
            go_wp2
            rw [hmod.out]
            clear q0
            refine wp_region_K (fun W' => W'.cell? ⟨D, 0, none⟩ = some (.int .i64 xc) ∧ W'.cell? ⟨D, 1, none⟩ = some (.int .i64 xh) ∧ W'.cell? ⟨D, 2, none⟩ = some (.int .i64 xu) ∧ W'.cell? ⟨D, 3, none⟩ = some (.bool xs) ∧ W'.cell? ⟨D, 4, none⟩ = some (.bool xln) ∧ W'.cell? ⟨D, 5, none⟩ = some (.int .i64 xli) ∧ W'.cell? ⟨D, 6, none⟩ = some (.string ⟨xlt.toArray⟩) ∧ W'.cell? ⟨D, 7, none⟩ = some (.bool xhn) ∧ W'.cell? ⟨D, 8, none⟩ = some (.int .i64 xhi) ∧ W'.cell? ⟨D, 9, none⟩ = some (.string ⟨xht.toArray⟩) ∧ W'.cell? (a.add (j * 3)) = some (.bool cn) ∧ W'.cell? { block := (a.add (j * 3)).block, off := (a.add (j * 3)).off + 1 } = some (.int .i64 ci) ∧ W'.cell? { block := (a.add (j * 3)).block, off := (a.add (j * 3)).off + 2 } = some (.string ⟨ct.toArray⟩)) 6 (by kernel_rfl) ?_
            obtain ⟨V, hV⟩ : ∃ V, V = wr.drew := ⟨_, rfl⟩
            rw [← hV]
            have FV : Fr Non wr V := by rw [hV]; exact (Fr.refl Non wr).drew
            clear hV
            have hHeld : (fun W' : World => W'.cell? ⟨D, 0, none⟩ = some (.int .i64 xc) ∧ W'.cell? ⟨D, 1, none⟩ = some (.int .i64 xh) ∧ W'.cell? ⟨D, 2, none⟩ = some (.int .i64 xu) ∧ W'.cell? ⟨D, 3, none⟩ = some (.bool xs) ∧ W'.cell? ⟨D, 4, none⟩ = some (.bool xln) ∧ W'.cell? ⟨D, 5, none⟩ = some (.int .i64 xli) ∧ W'.cell? ⟨D, 6, none⟩ = some (.string ⟨xlt.toArray⟩) ∧ W'.cell? ⟨D, 7, none⟩ = some (.bool xhn) ∧ W'.cell? ⟨D, 8, none⟩ = some (.int .i64 xhi) ∧ W'.cell? ⟨D, 9, none⟩ = some (.string ⟨xht.toArray⟩) ∧ W'.cell? (a.add (j * 3)) = some (.bool cn) ∧ W'.cell? { block := (a.add (j * 3)).block, off := (a.add (j * 3)).off + 1 } = some (.int .i64 ci) ∧ W'.cell? { block := (a.add (j * 3)).block, off := (a.add (j * 3)).off + 2 } = some (.string ⟨ct.toArray⟩)) V := (by exact ⟨FV.at0 s0, FV.at0 s1, FV.at0 s2, FV.at0 s3, FV.at0 s4, FV.at0 s5, FV.at0 s6, FV.at0 s7, FV.at0 s8, FV.at0 s9, FV.at0 t0, FV.at0 t1, FV.at0 t2⟩)
            refine wpAnyK_take (i := 0) (oi := ⟨some 40, _, _, _, _, none⟩) (v := ?v6) rfl (by kernel_rfl) (by kernel_rfl) (by kernel_rfl) (fun _ _ _ h => h) (by kernel_rfl) (by decide) (Or.inl ⟨by rfl, ?hy6⟩) (by assumption) ?rest6
            case hy6 => (intro wS hSw; (try dsimp only at hSw); go_simp; (try with_reducible rfl))
            (try simp only [Act.put, List.setIfInBounds_toArray, List.set_cons_zero, List.set_cons_succ])
            refine wpAnyK_take (i := 1) (oi := ⟨some 41, _, _, _, _, none⟩) (v := ?v7) rfl (by kernel_rfl) (by kernel_rfl) (by kernel_rfl) (fun _ _ _ h => h) (by kernel_rfl) (by decide) (Or.inl ⟨by rfl, ?hy7⟩) (by assumption) ?rest7
            case hy7 => (intro wS hSw; (try dsimp only at hSw); go_simp; (try with_reducible rfl))
            (try simp only [Act.put, List.setIfInBounds_toArray, List.set_cons_zero, List.set_cons_succ])
            refine wpAnyK_take (i := 2) (oi := ⟨some 42, _, _, _, _, none⟩) (v := ?v8) rfl (by kernel_rfl) (by kernel_rfl) (by kernel_rfl) (fun _ _ _ h => h) (by kernel_rfl) (by decide) (Or.inl ⟨by rfl, ?hy8⟩) (by assumption) ?rest8
            case hy8 => (intro wS hSw; (try dsimp only at hSw); go_simp; (try with_reducible rfl))
            (try simp only [Act.put, List.setIfInBounds_toArray, List.set_cons_zero, List.set_cons_succ])
            refine wpAnyK_take (i := 3) (oi := ⟨some 43, _, _, _, _, none⟩) (v := ?v9) rfl (by kernel_rfl) (by kernel_rfl) (by kernel_rfl) (fun _ _ _ h => h) (by kernel_rfl) (by decide) (Or.inl ⟨by rfl, ?hy9⟩) (by assumption) ?rest9
            case hy9 => (intro wS hSw; (try dsimp only at hSw); go_simp; (try with_reducible rfl))
            (try simp only [Act.put, List.setIfInBounds_toArray, List.set_cons_zero, List.set_cons_succ])
            refine wpAnyK_take (i := 4) (oi := ⟨some 44, _, _, _, _, none⟩) (v := ?v10) rfl (by kernel_rfl) (by kernel_rfl) (by kernel_rfl) (fun _ _ _ h => h) (by kernel_rfl) (by decide) (Or.inl ⟨by rfl, ?hy10⟩) (by assumption) ?rest10
            case hy10 => (intro wS hSw; (try dsimp only at hSw); go_simp; (try with_reducible rfl))
            (try simp only [Act.put, List.setIfInBounds_toArray, List.set_cons_zero, List.set_cons_succ])
            refine wpAnyK_one (i := 5) (o := ⟨some 45, _, _, _, _, none⟩) (by kernel_rfl) rfl (fun K hK => ?_)
            go_simp
            go_at_call 14
            refine (HC.out _).mono ?_
            rintro e X2 ⟨rfl, fX⟩
            have fX' := FV.trans fX
            go_wp2_with fail
            refine hK.out _ _ (fun _ => (by exact ⟨fX'.at0 s0, fX'.at0 s1, fX'.at0 s2, fX'.at0 s3, fX'.at0 s4, fX'.at0 s5, fX'.at0 s6, fX'.at0 s7, fX'.at0 s8, fX'.at0 s9, fX'.at0 t0, fX'.at0 t1, fX'.at0 t2⟩)) ?_
            clear hK K
            (try simp only [Act.put, List.setIfInBounds_toArray, List.set_cons_zero, List.set_cons_succ])
            have RV : FsB X2 D ⟨xc, xh, xu, xs, ⟨xln, xli, xlt⟩, ⟨xhn, xhi, xht⟩⟩ := SB.out.fr fX' (fun e => e)
            obtain ⟨p0, p1, p2, p3, p4, p5, p6, p7, p8, p9⟩ := fsB_cells RV
            obtain ⟨z0, z1, z2, z3, z4, z5, z6, z7, z8, z9⟩ := fsB_froz RV
            dsimp only at p0 p1 p2 p3 p4 p5 p6 p7 p8 p9
            obtain ⟨W6, hW6⟩ : ∃ W, W = setFs X2 D ⟨rc, rh, ru, rs, ⟨rln, rli, rlt⟩, ⟨rhn, rhi, rht⟩⟩ := ⟨_, rfl⟩
            have w6f : Fr (One D) X2 W6 := by rw [hW6]; exact setFs_fr _ _ _
            have J6 := setFs_B RV ⟨rc, rh, ru, rs, ⟨rln, rli, rlt⟩, ⟨rhn, rhi, rht⟩⟩
            rw [← hW6] at J6
            unfold setFs setFsN setFsL setFsH at hW6
            dsimp only at hW6
            refine wpAnyK_one (i := 6) (o := ⟨none, _, _, _, _, none⟩) (by kernel_rfl) rfl (fun K hK => ?_)
            go_simp
            rw [← hW6]
            clear hW6 p0 p1 p2 p3 p4 p5 p6 p7 p8 p9 z0 z1 z2 z3 z4 z5 z6 z7 z8 z9
            refine hK.out _ _ (fun h => absurd h (by simp)) ?_
            clear hK K
            (try simp only [Act.put, List.setIfInBounds_toArray, List.set_cons_zero, List.set_cons_succ])
            refine wpAnyK_done (by kernel_rfl) ?_ _
            clear hHeld RV s0 s1 s2 s3 s4 s5 s6 s7 s8 s9 t0 t1 t2
            replace J6 := Lib.hid J6
            replace w6f := Lib.hid w6f
            replace fX := Lib.hid fX'
            clear fX' FV
            have hDn := oc_not_fs HO.out SB.out
            have F6 := Lib.hid (FR.out.fresh (fX.out.any.trans w6f.out) (fun q e => by have : q = D := e; have := HBD.out; have := HWD.out; omega))
            have HO6 := Lib.hid ((HO.out.non fX.out).fr w6f.out (fun q e e2 => hDn q e e2))
            clear hDn FR HO SB fX w6f
            go_wp2
            obtain ⟨V2, hV2⟩ : ∃ V, V = W6.drew := ⟨_, rfl⟩
            refine wp_region_held_drew (S := (fun _ => True)) (by kernel_rfl) True.intro (fun hHeld => ?_)
            rw [← hV2]
            have FV2 : Fr Non W6 V2 := by rw [hV2]; exact (Fr.refl Non W6).drew
            clear hV2
            refine wpAnyH_take (i := 1) (oi := ⟨some 47, _, _, _, _, none⟩) (v := ?v11) rfl (by kernel_rfl) (by kernel_rfl) (by kernel_rfl) (fun _ _ _ h => h) (Or.inl ⟨by rfl, ?hy11⟩) (by assumption) ?rest11
            case hy11 => (intro wS hSw; (try dsimp only at hSw); go_simp; (try with_reducible rfl))
            (try simp only [Act.put, List.setIfInBounds_toArray, List.set_cons_zero, List.set_cons_succ])
            refine wpAnyH_take (i := 2) (oi := ⟨some 48, _, _, _, _, none⟩) (v := ?v12) rfl (by kernel_rfl) (by kernel_rfl) (by kernel_rfl) (fun _ _ _ h => h) (Or.inl ⟨by rfl, ?hy12⟩) (by assumption) ?rest12
            case hy12 => (intro wS hSw; (try dsimp only at hSw); go_simp; (try with_reducible rfl))
            (try simp only [Act.put, List.setIfInBounds_toArray, List.set_cons_zero, List.set_cons_succ])
            refine wpAnyH_take (i := 3) (oi := ⟨some 49, _, _, _, _, none⟩) (v := ?v13) rfl (by kernel_rfl) (by kernel_rfl) (by kernel_rfl) (fun _ _ _ h => h) (Or.inl ⟨by rfl, ?hy13⟩) (by assumption) ?rest13
            case hy13 => (intro wS hSw; (try dsimp only at hSw); go_simp; (try with_reducible rfl))
            (try simp only [Act.put, List.setIfInBounds_toArray, List.set_cons_zero, List.set_cons_succ])
            refine wpAnyH_take (i := 5) (oi := ⟨some 51, _, _, _, _, none⟩) (v := ?v14) rfl (by kernel_rfl) (by kernel_rfl) (by kernel_rfl) (fun _ _ _ h => h) (Or.inl ⟨by rfl, ?hy14⟩) (by assumption) ?rest14
            case hy14 => (intro wS hSw; (try dsimp only at hSw); go_simp; (try with_reducible rfl))
            (try simp only [Act.put, List.setIfInBounds_toArray, List.set_cons_zero, List.set_cons_succ])
            refine wpAnyH_take (i := 6) (oi := ⟨some 52, _, _, _, _, none⟩) (v := ?v15) rfl (by kernel_rfl) (by kernel_rfl) (by kernel_rfl) (fun _ _ _ h => h) (Or.inl ⟨by rfl, ?hy15⟩) (by assumption) ?rest15
            case hy15 => (intro wS hSw; (try dsimp only at hSw); go_simp; (try with_reducible rfl))
            (try simp only [Act.put, List.setIfInBounds_toArray, List.set_cons_zero, List.set_cons_succ])
            refine wpAnyH_take (i := 7) (oi := ⟨some 53, _, _, _, _, none⟩) (v := ?v16) rfl (by kernel_rfl) (by kernel_rfl) (by kernel_rfl) (fun _ _ _ h => h) (Or.inl ⟨by rfl, ?hy16⟩) (by assumption) ?rest16
            case hy16 => (intro wS hSw; (try dsimp only at hSw); go_simp; (try with_reducible rfl))
            (try simp only [Act.put, List.setIfInBounds_toArray, List.set_cons_zero, List.set_cons_succ])
            refine wpAnyH_take (i := 8) (oi := ⟨some 54, _, _, _, _, none⟩) (v := ?v17) rfl (by kernel_rfl) (by kernel_rfl) (by kernel_rfl) (fun _ _ _ h => h) (Or.inl ⟨by rfl, ?hy17⟩) (by assumption) ?rest17
            case hy17 => (intro wS hSw; (try dsimp only at hSw); go_simp; (try with_reducible rfl))
            (try simp only [Act.put, List.setIfInBounds_toArray, List.set_cons_zero, List.set_cons_succ])
            refine wpAnyH_ready (rs := [0]) (by kernel_rfl) (by simp) ?_
            refine AllReadyH.cons (o := ⟨some 46, _, _, _, _, none⟩) rfl (fun K hK => ?_) AllReadyH.nil
            obtain ⟨G, hG⟩ : ∃ G, V2.heap.size = G := ⟨_, rfl⟩
            obtain ⟨W7, hW7⟩ : ∃ W, W = V2.alloc (.cells #[] 26) := ⟨_, rfl⟩
            have HO7 : Oc W7 G (.slice (some ⟨G, 0, none⟩) 0 0) [] := by rw [hW7]; exact oc_lit0 V2 G G hG.symm (Nat.le_refl _)
            have F7 : Fr Non V2 W7 := by rw [hW7]; exact (Fr.refl Non V2).alloc _
            go_simp
            rw [← hW7]
            clear hW7
            refine hK.out _ _ True.intro (fun _ => ?_)
            clear hK K
            (try simp only [Act.put, List.setIfInBounds_toArray, List.set_cons_zero, List.set_cons_succ])
            refine wpAnyH_ready (rs := [4]) (by kernel_rfl) (by simp) ?_
            refine AllReadyH.cons (o := ⟨some 50, _, _, _, _, none⟩) rfl (fun K hK => ?_) AllReadyH.nil
            have HC3 : Cs W7 (.slice A3 j c3) (left.take j) := hp3.out W7 left (HO6.out.cs.non (FV2.trans F7))
            refine wp_appC (.tmp 46) (.tmp 49) rfl G (.slice (some ⟨G, 0, none⟩) 0 0) (.slice A3 j c3) [] (left.take j) rfl HO7 rfl HC3 (by simp; omega) (by have := F7.size; omega) ?_
            intro v8 W8 HO8 f8
            have F8 : Fr Non V2 W8 := F7.fresh f8 (fun q e => by have := (HO7.lt q e).1; omega)
            have hGW : G ≤ W8.heap.size := by have := F7.size; have := f8.size; omega
            refine hK.out _ _ True.intro (fun _ => ?_)
            clear hK K f8 HC3
            (try simp only [Act.put, List.setIfInBounds_toArray, List.set_cons_zero, List.set_cons_succ])
            refine wpAnyH_ready (rs := [9]) (by kernel_rfl) (by simp) ?_
            refine AllReadyH.cons (o := ⟨some 55, _, _, _, _, none⟩) rfl (fun K hK => ?_) AllReadyH.nil
            have HC4 : Cs W8 (.slice A4 (left.length - (j + 1)) c4) (left.drop (j + 1)) := hp4.out W8 left (HO6.out.cs.non (FV2.trans F8))
            refine wp_appC (.tmp 50) (.tmp 54) rfl G v8 (.slice A4 (left.length - (j + 1)) c4) ([] ++ left.take j) (left.drop (j + 1)) rfl HO8 rfl HC4 (by simp; omega) hGW ?_
            intro v9 W9 HO9 f9
            have F9 := Lib.hid (F8.fresh f9 (fun q e => by have := (HO8.lt q e).1; omega))
            refine hK.out _ _ True.intro (fun _ => ?_)
            clear hK K f9 HC4
            (try simp only [Act.put, List.setIfInBounds_toArray, List.set_cons_zero, List.set_cons_succ])
            refine wpAnyH_take (i := 10) (oi := ⟨some 5, _, _, _, _, none⟩) (v := ?v18) rfl (by kernel_rfl) (by kernel_rfl) (by kernel_rfl) (fun _ _ _ h => h) (Or.inl ⟨by rfl, ?hy18⟩) (by assumption) ?rest18
            case hy18 => (intro wS hSw; (try dsimp only at hSw); go_simp; (try with_reducible rfl))
            (try simp only [Act.put, List.setIfInBounds_toArray, List.set_cons_zero, List.set_cons_succ])
            refine wpAnyH_done (by kernel_rfl) ?_ _
            have hW6G : W6.heap.size ≤ G := by have := FV2.size; omega
            have FE := Lib.hid (F6.out.trans (FV2.trans F9.out))
            have SBE := Lib.hid (J6.out.fr (FV2.trans F9.out) (fun e => e))
            have HOE : Hid (Oc W9 B v9 (left.take j ++ left.drop (j + 1))) := Lib.hid (by
              have h9 := HO9
              rw [List.nil_append] at h9
              exact h9.mono (by have := HBD.out; have := J6.out.lt; omega))
            have hlen : (left.take j ++ left.drop (j + 1)).length + 1 = left.length := by simp; omega
            clear HO9 HO8 HO7 F7 F8 F9 FV2 F6 HO6 J6 hwj hs3 hs4 hp3 hp4 hG hGW hW6G hHeld
            obtain ⟨A9, c9, rfl⟩ := HOE.out.shape
            go_wp2
            go_roundw
            case rel => exact ⟨done ++ [left[j]], left.take j ++ left.drop (j + 1), k + 1, by omega, by go_num, HOE.out, HP2, by rw [hr.out]; exact SBE, FE⟩
            case measure => simp [slLen]; omega
          · obtain ⟨j, hj0, hjl⟩ : ∃ j : Nat, (j : Int) = 0 ∧ j < left.length := ⟨0, rfl, hlt⟩
            replace hj0 := Lib.hid hj0
            have hle : left.length ≤ 100 := by omega
            have hdl : done.length ≤ 1000000 := by have := HP.out.length_eq; rw [List.length_append] at this; omega
            obtain ⟨a, e1, -, hcx, hel⟩ := HO.out.cs.addr hlt
            subst e1
            obtain ⟨t0, t1, t2⟩ := (hel j hjl).lit
            obtain ⟨A3, c3, hs3, hp3⟩ := slice_hiCs (some a) left.length cx j .i64 (j : Int) rfl (by omega) hcx
            obtain ⟨A4, c4, hs4, hp4⟩ := slice_loCs (some a) left.length cx (j + 1) .i64 ((j : Int) + 1) (by omega) (by omega) hcx
            have hwj : IntKind.i64.wrap ((j : Int) + 1) = (j : Int) + 1 := by rw [w6_wrap]; exact w6_small (by omega) (by omega)
            replace hp3 := Lib.hid hp3
            replace hp4 := Lib.hid hp4
            have HT := Lib.hid (fsF_snoc done left[j] hdl)
            have HC0 := Lib.hid (fun W => fadd_any (fsF (foC done)) left[j] W)
            have HP2 := Lib.hid (perm_take HP.out hjl)
            rw [HT.out] at HC0
            clear hel HT hdl HP
            obtain ⟨r, hr⟩ : ∃ r, fsF (foC (done ++ [left[j]])) = r := ⟨_, rfl⟩
            rw [hr] at HC0
            replace hr := Lib.hid hr
            generalize fsF (foC done) = x at *
            obtain ⟨q, hq⟩ : ∃ q, left[j] = q := ⟨_, rfl⟩
            rw [hq] at HC0 t0 t1 t2
            clear hq
            obtain ⟨cn, ci, ct⟩ := q
            obtain ⟨xc, xh, xu, xs, ⟨xln, xli, xlt⟩, ⟨xhn, xhi, xht⟩⟩ := x
            obtain ⟨rc, rh, ru, rs, ⟨rln, rli, rlt⟩, ⟨rhn, rhi, rht⟩⟩ := r
            have HC := HC0
            clear HC0
            unfold fsV fsC clV clC at HC
            dsimp only at HC t0 t1 t2
            obtain ⟨s0, s1, s2, s3, s4, s5, s6, s7, s8, s9⟩ := fsB_cells SB.out
            dsimp only at s0 s1 s2 s3 s4 s5 s6 s7 s8 s9
            go_wp2
            rw [show (Value.int .i64 0) = .int .i64 (j : Int) by rw [hj0.out]]
            refine wp_region_K (fun W' => W'.cell? ⟨D, 0, none⟩ = some (.int .i64 xc) ∧ W'.cell? ⟨D, 1, none⟩ = some (.int .i64 xh) ∧ W'.cell? ⟨D, 2, none⟩ = some (.int .i64 xu) ∧ W'.cell? ⟨D, 3, none⟩ = some (.bool xs) ∧ W'.cell? ⟨D, 4, none⟩ = some (.bool xln) ∧ W'.cell? ⟨D, 5, none⟩ = some (.int .i64 xli) ∧ W'.cell? ⟨D, 6, none⟩ = some (.string ⟨xlt.toArray⟩) ∧ W'.cell? ⟨D, 7, none⟩ = some (.bool xhn) ∧ W'.cell? ⟨D, 8, none⟩ = some (.int .i64 xhi) ∧ W'.cell? ⟨D, 9, none⟩ = some (.string ⟨xht.toArray⟩) ∧ W'.cell? (a.add (j * 3)) = some (.bool cn) ∧ W'.cell? { block := (a.add (j * 3)).block, off := (a.add (j * 3)).off + 1 } = some (.int .i64 ci) ∧ W'.cell? { block := (a.add (j * 3)).block, off := (a.add (j * 3)).off + 2 } = some (.string ⟨ct.toArray⟩)) 6 (by kernel_rfl) ?_
            obtain ⟨V, hV⟩ : ∃ V, V = wr.drew := ⟨_, rfl⟩
            rw [← hV]
            have FV : Fr Non wr V := by rw [hV]; exact (Fr.refl Non wr).drew
            clear hV
            have hHeld : (fun W' : World => W'.cell? ⟨D, 0, none⟩ = some (.int .i64 xc) ∧ W'.cell? ⟨D, 1, none⟩ = some (.int .i64 xh) ∧ W'.cell? ⟨D, 2, none⟩ = some (.int .i64 xu) ∧ W'.cell? ⟨D, 3, none⟩ = some (.bool xs) ∧ W'.cell? ⟨D, 4, none⟩ = some (.bool xln) ∧ W'.cell? ⟨D, 5, none⟩ = some (.int .i64 xli) ∧ W'.cell? ⟨D, 6, none⟩ = some (.string ⟨xlt.toArray⟩) ∧ W'.cell? ⟨D, 7, none⟩ = some (.bool xhn) ∧ W'.cell? ⟨D, 8, none⟩ = some (.int .i64 xhi) ∧ W'.cell? ⟨D, 9, none⟩ = some (.string ⟨xht.toArray⟩) ∧ W'.cell? (a.add (j * 3)) = some (.bool cn) ∧ W'.cell? { block := (a.add (j * 3)).block, off := (a.add (j * 3)).off + 1 } = some (.int .i64 ci) ∧ W'.cell? { block := (a.add (j * 3)).block, off := (a.add (j * 3)).off + 2 } = some (.string ⟨ct.toArray⟩)) V := (by exact ⟨FV.at0 s0, FV.at0 s1, FV.at0 s2, FV.at0 s3, FV.at0 s4, FV.at0 s5, FV.at0 s6, FV.at0 s7, FV.at0 s8, FV.at0 s9, FV.at0 t0, FV.at0 t1, FV.at0 t2⟩)
            refine wpAnyK_take (i := 0) (oi := ⟨some 40, _, _, _, _, none⟩) (v := ?v19) rfl (by kernel_rfl) (by kernel_rfl) (by kernel_rfl) (fun _ _ _ h => h) (by kernel_rfl) (by decide) (Or.inl ⟨by rfl, ?hy19⟩) (by assumption) ?rest19
            case hy19 => (intro wS hSw; (try dsimp only at hSw); go_simp; (try with_reducible rfl))
            (try simp only [Act.put, List.setIfInBounds_toArray, List.set_cons_zero, List.set_cons_succ])
            refine wpAnyK_take (i := 1) (oi := ⟨some 41, _, _, _, _, none⟩) (v := ?v20) rfl (by kernel_rfl) (by kernel_rfl) (by kernel_rfl) (fun _ _ _ h => h) (by kernel_rfl) (by decide) (Or.inl ⟨by rfl, ?hy20⟩) (by assumption) ?rest20
            case hy20 => (intro wS hSw; (try dsimp only at hSw); go_simp; (try with_reducible rfl))
            (try simp only [Act.put, List.setIfInBounds_toArray, List.set_cons_zero, List.set_cons_succ])
            refine wpAnyK_take (i := 2) (oi := ⟨some 42, _, _, _, _, none⟩) (v := ?v21) rfl (by kernel_rfl) (by kernel_rfl) (by kernel_rfl) (fun _ _ _ h => h) (by kernel_rfl) (by decide) (Or.inl ⟨by rfl, ?hy21⟩) (by assumption) ?rest21
            case hy21 => (intro wS hSw; (try dsimp only at hSw); go_simp; (try with_reducible rfl))
            (try simp only [Act.put, List.setIfInBounds_toArray, List.set_cons_zero, List.set_cons_succ])
            refine wpAnyK_take (i := 3) (oi := ⟨some 43, _, _, _, _, none⟩) (v := ?v22) rfl (by kernel_rfl) (by kernel_rfl) (by kernel_rfl) (fun _ _ _ h => h) (by kernel_rfl) (by decide) (Or.inl ⟨by rfl, ?hy22⟩) (by assumption) ?rest22
            case hy22 => (intro wS hSw; (try dsimp only at hSw); go_simp; (try with_reducible rfl))
            (try simp only [Act.put, List.setIfInBounds_toArray, List.set_cons_zero, List.set_cons_succ])
            refine wpAnyK_take (i := 4) (oi := ⟨some 44, _, _, _, _, none⟩) (v := ?v23) rfl (by kernel_rfl) (by kernel_rfl) (by kernel_rfl) (fun _ _ _ h => h) (by kernel_rfl) (by decide) (Or.inl ⟨by rfl, ?hy23⟩) (by assumption) ?rest23
            case hy23 => (intro wS hSw; (try dsimp only at hSw); go_simp; (try with_reducible rfl))
            (try simp only [Act.put, List.setIfInBounds_toArray, List.set_cons_zero, List.set_cons_succ])
            refine wpAnyK_one (i := 5) (o := ⟨some 45, _, _, _, _, none⟩) (by kernel_rfl) rfl (fun K hK => ?_)
            go_simp
            go_at_call 14
            refine (HC.out _).mono ?_
            rintro e X2 ⟨rfl, fX⟩
            have fX' := FV.trans fX
            go_wp2_with fail
            refine hK.out _ _ (fun _ => (by exact ⟨fX'.at0 s0, fX'.at0 s1, fX'.at0 s2, fX'.at0 s3, fX'.at0 s4, fX'.at0 s5, fX'.at0 s6, fX'.at0 s7, fX'.at0 s8, fX'.at0 s9, fX'.at0 t0, fX'.at0 t1, fX'.at0 t2⟩)) ?_
            clear hK K
            (try simp only [Act.put, List.setIfInBounds_toArray, List.set_cons_zero, List.set_cons_succ])
            have RV : FsB X2 D ⟨xc, xh, xu, xs, ⟨xln, xli, xlt⟩, ⟨xhn, xhi, xht⟩⟩ := SB.out.fr fX' (fun e => e)
            obtain ⟨p0, p1, p2, p3, p4, p5, p6, p7, p8, p9⟩ := fsB_cells RV
            obtain ⟨z0, z1, z2, z3, z4, z5, z6, z7, z8, z9⟩ := fsB_froz RV
            dsimp only at p0 p1 p2 p3 p4 p5 p6 p7 p8 p9
            obtain ⟨W6, hW6⟩ : ∃ W, W = setFs X2 D ⟨rc, rh, ru, rs, ⟨rln, rli, rlt⟩, ⟨rhn, rhi, rht⟩⟩ := ⟨_, rfl⟩
            have w6f : Fr (One D) X2 W6 := by rw [hW6]; exact setFs_fr _ _ _
            have J6 := setFs_B RV ⟨rc, rh, ru, rs, ⟨rln, rli, rlt⟩, ⟨rhn, rhi, rht⟩⟩
            rw [← hW6] at J6
            unfold setFs setFsN setFsL setFsH at hW6
            dsimp only at hW6
            refine wpAnyK_one (i := 6) (o := ⟨none, _, _, _, _, none⟩) (by kernel_rfl) rfl (fun K hK => ?_)
            go_simp
            rw [← hW6]
            clear hW6 p0 p1 p2 p3 p4 p5 p6 p7 p8 p9 z0 z1 z2 z3 z4 z5 z6 z7 z8 z9
            refine hK.out _ _ (fun h => absurd h (by simp)) ?_
            clear hK K
            (try simp only [Act.put, List.setIfInBounds_toArray, List.set_cons_zero, List.set_cons_succ])
            refine wpAnyK_done (by kernel_rfl) ?_ _
            clear hHeld RV s0 s1 s2 s3 s4 s5 s6 s7 s8 s9 t0 t1 t2
            replace J6 := Lib.hid J6
            replace w6f := Lib.hid w6f
            replace fX := Lib.hid fX'
            clear fX' FV
            have hDn := oc_not_fs HO.out SB.out
            have F6 := Lib.hid (FR.out.fresh (fX.out.any.trans w6f.out) (fun q e => by have : q = D := e; have := HBD.out; have := HWD.out; omega))
            have HO6 := Lib.hid ((HO.out.non fX.out).fr w6f.out (fun q e e2 => hDn q e e2))
            clear hDn FR HO SB fX w6f
            go_wp2
            obtain ⟨V2, hV2⟩ : ∃ V, V = W6.drew := ⟨_, rfl⟩
            refine wp_region_held_drew (S := (fun _ => True)) (by kernel_rfl) True.intro (fun hHeld => ?_)
            rw [← hV2]
            have FV2 : Fr Non W6 V2 := by rw [hV2]; exact (Fr.refl Non W6).drew
            clear hV2
            refine wpAnyH_take (i := 1) (oi := ⟨some 47, _, _, _, _, none⟩) (v := ?v24) rfl (by kernel_rfl) (by kernel_rfl) (by kernel_rfl) (fun _ _ _ h => h) (Or.inl ⟨by rfl, ?hy24⟩) (by assumption) ?rest24
            case hy24 => (intro wS hSw; (try dsimp only at hSw); go_simp; (try with_reducible rfl))
            (try simp only [Act.put, List.setIfInBounds_toArray, List.set_cons_zero, List.set_cons_succ])
            refine wpAnyH_take (i := 2) (oi := ⟨some 48, _, _, _, _, none⟩) (v := ?v25) rfl (by kernel_rfl) (by kernel_rfl) (by kernel_rfl) (fun _ _ _ h => h) (Or.inl ⟨by rfl, ?hy25⟩) (by assumption) ?rest25
            case hy25 => (intro wS hSw; (try dsimp only at hSw); go_simp; (try with_reducible rfl))
            (try simp only [Act.put, List.setIfInBounds_toArray, List.set_cons_zero, List.set_cons_succ])
            refine wpAnyH_take (i := 3) (oi := ⟨some 49, _, _, _, _, none⟩) (v := ?v26) rfl (by kernel_rfl) (by kernel_rfl) (by kernel_rfl) (fun _ _ _ h => h) (Or.inl ⟨by rfl, ?hy26⟩) (by assumption) ?rest26
            case hy26 => (intro wS hSw; (try dsimp only at hSw); go_simp; (try with_reducible rfl))
            (try simp only [Act.put, List.setIfInBounds_toArray, List.set_cons_zero, List.set_cons_succ])
            refine wpAnyH_take (i := 5) (oi := ⟨some 51, _, _, _, _, none⟩) (v := ?v27) rfl (by kernel_rfl) (by kernel_rfl) (by kernel_rfl) (fun _ _ _ h => h) (Or.inl ⟨by rfl, ?hy27⟩) (by assumption) ?rest27
            case hy27 => (intro wS hSw; (try dsimp only at hSw); go_simp; (try with_reducible rfl))
            (try simp only [Act.put, List.setIfInBounds_toArray, List.set_cons_zero, List.set_cons_succ])
            refine wpAnyH_take (i := 6) (oi := ⟨some 52, _, _, _, _, none⟩) (v := ?v28) rfl (by kernel_rfl) (by kernel_rfl) (by kernel_rfl) (fun _ _ _ h => h) (Or.inl ⟨by rfl, ?hy28⟩) (by assumption) ?rest28
            case hy28 => (intro wS hSw; (try dsimp only at hSw); go_simp; (try with_reducible rfl))
            (try simp only [Act.put, List.setIfInBounds_toArray, List.set_cons_zero, List.set_cons_succ])
            refine wpAnyH_take (i := 7) (oi := ⟨some 53, _, _, _, _, none⟩) (v := ?v29) rfl (by kernel_rfl) (by kernel_rfl) (by kernel_rfl) (fun _ _ _ h => h) (Or.inl ⟨by rfl, ?hy29⟩) (by assumption) ?rest29
            case hy29 => (intro wS hSw; (try dsimp only at hSw); go_simp; (try with_reducible rfl))
            (try simp only [Act.put, List.setIfInBounds_toArray, List.set_cons_zero, List.set_cons_succ])
            refine wpAnyH_take (i := 8) (oi := ⟨some 54, _, _, _, _, none⟩) (v := ?v30) rfl (by kernel_rfl) (by kernel_rfl) (by kernel_rfl) (fun _ _ _ h => h) (Or.inl ⟨by rfl, ?hy30⟩) (by assumption) ?rest30
            case hy30 => (intro wS hSw; (try dsimp only at hSw); go_simp; (try with_reducible rfl))
            (try simp only [Act.put, List.setIfInBounds_toArray, List.set_cons_zero, List.set_cons_succ])
            refine wpAnyH_ready (rs := [0]) (by kernel_rfl) (by simp) ?_
            refine AllReadyH.cons (o := ⟨some 46, _, _, _, _, none⟩) rfl (fun K hK => ?_) AllReadyH.nil
            obtain ⟨G, hG⟩ : ∃ G, V2.heap.size = G := ⟨_, rfl⟩
            obtain ⟨W7, hW7⟩ : ∃ W, W = V2.alloc (.cells #[] 26) := ⟨_, rfl⟩
            have HO7 : Oc W7 G (.slice (some ⟨G, 0, none⟩) 0 0) [] := by rw [hW7]; exact oc_lit0 V2 G G hG.symm (Nat.le_refl _)
            have F7 : Fr Non V2 W7 := by rw [hW7]; exact (Fr.refl Non V2).alloc _
            go_simp
            rw [← hW7]
            clear hW7
            refine hK.out _ _ True.intro (fun _ => ?_)
            clear hK K
            (try simp only [Act.put, List.setIfInBounds_toArray, List.set_cons_zero, List.set_cons_succ])
            refine wpAnyH_ready (rs := [4]) (by kernel_rfl) (by simp) ?_
            refine AllReadyH.cons (o := ⟨some 50, _, _, _, _, none⟩) rfl (fun K hK => ?_) AllReadyH.nil
            have HC3 : Cs W7 (.slice A3 j c3) (left.take j) := hp3.out W7 left (HO6.out.cs.non (FV2.trans F7))
            refine wp_appC (.tmp 46) (.tmp 49) rfl G (.slice (some ⟨G, 0, none⟩) 0 0) (.slice A3 j c3) [] (left.take j) rfl HO7 rfl HC3 (by simp; omega) (by have := F7.size; omega) ?_
            intro v8 W8 HO8 f8
            have F8 : Fr Non V2 W8 := F7.fresh f8 (fun q e => by have := (HO7.lt q e).1; omega)
            have hGW : G ≤ W8.heap.size := by have := F7.size; have := f8.size; omega
            refine hK.out _ _ True.intro (fun _ => ?_)
            clear hK K f8 HC3
            (try simp only [Act.put, List.setIfInBounds_toArray, List.set_cons_zero, List.set_cons_succ])
            refine wpAnyH_ready (rs := [9]) (by kernel_rfl) (by simp) ?_
            refine AllReadyH.cons (o := ⟨some 55, _, _, _, _, none⟩) rfl (fun K hK => ?_) AllReadyH.nil
            have HC4 : Cs W8 (.slice A4 (left.length - (j + 1)) c4) (left.drop (j + 1)) := hp4.out W8 left (HO6.out.cs.non (FV2.trans F8))
            refine wp_appC (.tmp 50) (.tmp 54) rfl G v8 (.slice A4 (left.length - (j + 1)) c4) ([] ++ left.take j) (left.drop (j + 1)) rfl HO8 rfl HC4 (by simp; omega) hGW ?_
            intro v9 W9 HO9 f9
            have F9 := Lib.hid (F8.fresh f9 (fun q e => by have := (HO8.lt q e).1; omega))
            refine hK.out _ _ True.intro (fun _ => ?_)
            clear hK K f9 HC4
            (try simp only [Act.put, List.setIfInBounds_toArray, List.set_cons_zero, List.set_cons_succ])
            refine wpAnyH_take (i := 10) (oi := ⟨some 5, _, _, _, _, none⟩) (v := ?v31) rfl (by kernel_rfl) (by kernel_rfl) (by kernel_rfl) (fun _ _ _ h => h) (Or.inl ⟨by rfl, ?hy31⟩) (by assumption) ?rest31
            case hy31 => (intro wS hSw; (try dsimp only at hSw); go_simp; (try with_reducible rfl))
            (try simp only [Act.put, List.setIfInBounds_toArray, List.set_cons_zero, List.set_cons_succ])
            refine wpAnyH_done (by kernel_rfl) ?_ _
            have hW6G : W6.heap.size ≤ G := by have := FV2.size; omega
            have FE := Lib.hid (F6.out.trans (FV2.trans F9.out))
            have SBE := Lib.hid (J6.out.fr (FV2.trans F9.out) (fun e => e))
            have HOE : Hid (Oc W9 B v9 (left.take j ++ left.drop (j + 1))) := Lib.hid (by
              have h9 := HO9
              rw [List.nil_append] at h9
              exact h9.mono (by have := HBD.out; have := J6.out.lt; omega))
            have hlen : (left.take j ++ left.drop (j + 1)).length + 1 = left.length := by simp; omega
            clear HO9 HO8 HO7 F7 F8 F9 FV2 F6 HO6 J6 hwj hs3 hs4 hp3 hp4 hG hGW hW6G hHeld
            obtain ⟨A9, c9, rfl⟩ := HOE.out.shape
            go_wp2
            go_roundw
            case rel => exact ⟨done ++ [left[j]], left.take j ++ left.drop (j + 1), k + 1, by omega, by go_num, HOE.out, HP2, by rw [hr.out]; exact SBE, FE⟩
            case measure => simp [slLen]; omega
        · obtain rfl : left = [] := List.eq_nil_of_length_eq_zero (by omega)
          have hE : foC done = foC l := foC_perm (by have := HP.out; rwa [List.append_nil] at this)
          rw [hE] at SB
          have L1 := Lib.hid (fun W (hc : Cs W (.slice A1 l.length c1) l) => lfof_any _ l W hc (by omega))
          have HV := Lib.hid (fun z W => fval_any z (fsF (foC l)) W)
          generalize fsF (foC l) = x at *
          obtain ⟨N, hN⟩ : ∃ N : Int → Cl, ∀ z, valS z x = N z := ⟨_, fun _ => rfl⟩
          simp only [hN] at HV
          clear hN hE HP HO hk
          obtain ⟨xc, xh, xu, xs, ⟨xln, xli, xlt⟩, ⟨xhn, xhi, xht⟩⟩ := x
          unfold fsV fsC at L1 HV
          dsimp only at L1 HV
          go_wp2
          rw [List.length_nil]
          go_loopw [9] (fun i wq => ∃ (z : Int), -1 ≤ z ∧ z ≤ 7 ∧ i = .int .i64 z ∧ Hid (FsB wq D ⟨xc, xh, xu, xs, ⟨xln, xli, xlt⟩, ⟨xhn, xhi, xht⟩⟩) ∧ Hid (Fr Non w wq)) (fun i _ => (7 - intOf i).toNat)
          case atStart => exact ⟨-1, by omega, by omega, rfl, SB, FR⟩
          case round =>
            clear SB FR
            obtain ⟨z, hz1, hz2, rfl, SB, FR⟩ := hrel
            by_cases hlt : z ≤ 6
            · have HVk := Lib.hid (HV.out z)
              generalize N z = r at *
              obtain ⟨rn, ri, rt⟩ := r
              have hq : ∀ W, (binOp .neq 26 (.agg #[.bool rn, .int .i64 ri, .string ⟨rt.toArray⟩]) (.agg #[.bool rn, .int .i64 ri, .string ⟨rt.toArray⟩])).run Try.prog W = .ok (.bool false) W := fun W => by
                have := run_neq_cl W ⟨rn, ri, rt⟩ ⟨rn, ri, rt⟩
                rw [ceq_self] at this; exact this
              unfold clV clC at HVk
              dsimp only at HVk
              obtain ⟨s0, s1, s2, s3, s4, s5, s6, s7, s8, s9⟩ := fsB_cells SB.out
              dsimp only at s0 s1 s2 s3 s4 s5 s6 s7 s8 s9
              go_wp2_with fail
              refine (HVk.out _).mono ?_
              rintro e x1 ⟨rfl, g1⟩
              clear s0 s1 s2 s3 s4 s5 s6 s7 s8 s9
              replace SB := Lib.hid (SB.out.fr g1 (fun e => e))
              replace FR := Lib.hid (FR.out.trans g1)
              clear g1
              have hcs := Lib.hid (H1.out.non FR.out)
              go_wp2_with fail
              refine (L1.out _ hcs.out).mono ?_
              rintro e x2 ⟨rfl, g2⟩
              replace SB := Lib.hid (SB.out.fr g2 (fun e => e))
              replace FR := Lib.hid (FR.out.trans g2)
              clear g2 hcs
              go_wp2_with fail
              refine (HVk.out _).mono ?_
              rintro e x3 ⟨rfl, g3⟩
              replace SB : Hid (FsB x3 D ⟨xc, xh, xu, xs, ⟨xln, xli, xlt⟩, ⟨xhn, xhi, xht⟩⟩) := Lib.hid (SB.out.fr g3 (fun e => e))
              replace FR := Lib.hid (FR.out.trans g3)
              clear g3
              go_wp2
              go_roundw
              case rel => exact ⟨z + 1, by omega, by omega, by go_num, SB, FR⟩
              case measure => simp [intOf]; omega
            · have hz7 : z = 7 := by omega
              subst hz7
              go_wp2_with fail
              refine (live22_any _).mono ?_
              rintro e wl ⟨rfl, fl⟩
              go_wp2
              go_ret
              exact ⟨rfl, (FR.out.trans fl).below⟩
end Go.Proofs.Ytincapmagennmaa


namespace Go.Proofs.Ytincapmagennmaa
set_option linter.unusedVariables false
set_option linter.unusedSimpArgs false
set_option maxRecDepth 100000
open Go.Joins Go.ChangeShapes Go.WideShapes Go.ChangeAt Go.RowKit Go.Deep

/-- a cell within its fields' ranges -/
structure ClWf (c : Cl) : Prop where
  lo : -9223372036854775808 ≤ c.num
  hi : c.num ≤ 9223372036854775807
  len : c.txt.length ≤ 9223372036854775807
end Go.Proofs.Ytincapmagennmaa


namespace Go.Proofs.Ytincapmagennmaa
set_option linter.unusedVariables false
set_option linter.unusedSimpArgs false
set_option maxRecDepth 100000
open Go.Joins Go.ChangeShapes Go.WideShapes Go.ChangeAt Go.RowKit Go.Deep

theorem cof_bool : Try.prog.cellsOf 4 = 1 := by kernel_rfl
theorem cof_i64 : Try.prog.cellsOf 2 = 1 := by kernel_rfl
theorem cof_str : Try.prog.cellsOf 9 = 1 := by kernel_rfl
theorem cof_cl : Try.prog.cellsOf 26 = 3 := by kernel_rfl
/-- three cells that are read as a cell -/
theorem cl_cells {H : Type} {enc : TypeId × Value → H} {W : World} {n : Nat} {x : DataW H × List MemPlace} {c2 c3 c4 : Value}
    (h : DataW.trod enc Try.prog W 0 (fun _ => true) true n 26 [c2, c3, c4] = some x) : ∃ c : Cl, c2 = .bool c.null ∧ c3 = .int .i64 c.num ∧ c4 = .string ⟨c.txt.toArray⟩ ∧ ClWf c := by
  obtain ⟨y0, y1, y2, m, rfl, _, h0, h1, h2⟩ := trod_struct3 Try.underlying26 h
  simp only [cof_bool, cof_i64, cof_str, List.drop_zero, List.drop_succ_cons, List.take_succ_cons, List.take_zero] at h0 h1 h2
  obtain ⟨b, e0, _⟩ := DataW.trod_bool Try.underlying4 h0
  obtain rfl := (List.cons.inj e0).1
  obtain ⟨i, e1, _, hi⟩ := DataW.trod_int Try.underlying2 h1
  obtain rfl := (List.cons.inj e1).1
  obtain ⟨s, e2, _, hs⟩ := DataW.trod_string Try.underlying9 h2
  obtain rfl := (List.cons.inj e2).1
  have hb := wf_i64_bd hi
  exact ⟨⟨b, i, s.data.toList⟩, rfl, rfl, by simp, ⟨hb.1, hb.2, by simpa [maxLen] using hs⟩⟩
theorem cs_in {H : Type} {enc : TypeId × Value → H} {W : World} {base : Nat} {v : Value} {d : DataW H} {p : List MemPlace} (hv : Value.okWide Try.prog W .any base 22 v)
    (h : DataW.Trod enc Try.prog W 0 (fun _ => true) true 22 v d p) : ∃ l, Cs W v l ∧ l.length ≤ 9223372036854775807 ∧ (∀ c ∈ l, ClWf c) ∧ ∀ k, v.ownBlock = some k → k < W.heap.size := by
  have hT := Try.underlying22
  have hlt : ∀ k, v.ownBlock = some k → k < W.heap.size := by
    rcases slice_in hT hv with rfl | ⟨b, o, n, c, rfl, _, hb⟩
    · intro k hk; cases hk
    · intro k hk
      obtain rfl : b = k := by simpa [Value.ownBlock] using hk
      exact hb
  obtain ⟨A, n, c, rfl⟩ := okWide_slice hT hv
  obtain ⟨fuel, hf⟩ := h
  rcases Go.Deep.open_slice hT hf with ⟨hcs, _⟩ | ⟨a, len, cap, m, k, D, Pl, hcs, _, hl, hm, hmm, _, hr⟩
  · simp [Value.cells] at hcs
    obtain ⟨rfl, rfl, rfl⟩ := hcs
    exact ⟨[], Cs.nil_ W, by simp, by simp, hlt⟩
  · simp [Value.cells] at hcs
    obtain ⟨rfl, rfl, rfl⟩ := hcs
    have hnm : n ≤ m := by rw [hmm]; simp; exact hl
    obtain ⟨l, hll, hls⟩ := choose_listG (fun i (x : Cl) => At3 W (a.add (i * 3)) x ∧ ClWf x) n (by
      intro i hi
      obtain ⟨cs', h1, h2⟩ := hr i (by omega)
      rw [cof_cl] at h1
      obtain ⟨_, hlen, hcell⟩ := World.cells?_some h1
      match cs', hlen with
      | [v0, v1, v2], _ =>
        obtain ⟨c, rfl, rfl, rfl, hw⟩ := cl_cells h2
        have e0 := hcell 0 (by omega)
        have e1 := hcell 1 (by omega)
        have e2 := hcell 2 (by omega)
        exact ⟨c, ⟨by simpa [add_add] using e0, by simpa using e1, by simpa using e2⟩, hw⟩)
    subst hll
    refine ⟨l, ⟨some a, c, rfl, hl, (fun h => by cases h), fun b hb j hj => ?_⟩, by unfold maxLen at hm; omega, fun x hx => ?_, hlt⟩
    · cases hb
      exact (hls j hj).1
    · obtain ⟨j, hj, rfl⟩ := List.mem_iff_getElem.1 hx
      exact (hls j hj).2
end Go.Proofs.Ytincapmagennmaa
