/-
  Joined: Layer 19: the document's reader: what is asked for, whichever way; the end; the document's Where. · Layer 17: whether two are the same, both programs'. · Layer 19: the walk of ParseWhere. · A row's frame that hands the world's shape on. · Layer 16: the variables that a row lists, opened; a row's frame that hands the world's shape on.
-/
import Derived.Deep.Slices
import Derived.Laws.StructEq
import Derived.Laws.Rows
import Derived.Laws.ResultCell
import Derived.Lib.Zigzag
import Derived.Laws.Cover1
import Derived.Deep.QuietTactic
import Derived.BigQuiet
import Derived.Deep.RegionHeld3
import Derived.Deep.DrawnRows
import Derived.StillTail
import Derived.Test.YtipgaafgnefmdaaGreatDoorZ8
import Derived.Test.YtipgaafgnefmdaaGreatDoorZ4
import Derived.Test.YtipgaafgnefmdaaGreatDoorZ9
import Derived.Deep.RegionWith
import Derived.Deep.Cut
import Derived.Test.YtipgaafgnefmdaaGreatDoorZ6
import Derived.Test.YtipgaafgnefmdaaGreatDoorZ7
import Derived.Test.YtipgaafgnefmdaaGreatDoorRows
import Derived.Test.YtipgaafgnefmdaaGreatDoorZ1
import Derived.LaidMore
import Derived.Lay
import Derived.Handed
import Derived.Shelf.Vars
import Derived.OpenShut
import Derived.Stop.Joined
import Derived.ProofKit
import Derived.Test.YtipgaafgnefmdaaGreatDoorZ5
import Derived.Stop.LaidErr
import Derived.Lib.LaidTab

namespace Go.Proofs.YtipgaafgnefmdaaGreatDoor
set_option linter.unusedVariables false
set_option linter.unusedSimpArgs false
set_option maxRecDepth 100000
open Go.RowKit

theorem errK_place (σ : Sg) : onM σ errK = .error (placeX σ) := by cases σ <;> rfl
theorem TX.badc {B g : Nat} {w : World} {k : Int} (h : TX B g w (.error k)) : w.cell? ⟨g, 1, none⟩ = some (.bool true) ∧ w.cell? ⟨g, 2, none⟩ = some (.int .i64 k) ∧ g < w.heap.size := by
  obtain ⟨l, A, c, hR⟩ := h
  exact ⟨hR.cells.2.1, hR.cells.2.2.1, hR.blk.lt⟩
/-- where a reader stands when it is told that nothing more may be left -/
def endX (σ : Sg) : Sg := if kindX 0 σ = true then σ else .error (placeX σ)
theorem endX_yes {σ : Sg} (h : kindX 0 σ = true) : endX σ = σ := if_pos h
theorem endX_no {σ : Sg} (h : kindX 0 σ = false) : endX σ = .error (placeX σ) := if_neg (by simp [h])
theorem tend_any (B g : Nat) (σ : Sg) (w : World) (h : TX B g w σ) :
    Calls Tryz.prog 28 #[.pointer (some ⟨g, 0, none⟩)] w fun e w' => e = .returned (.tuple #[]) ∧ TX B g w' (endX σ) ∧ Fr (One g) w w' := by
  have FL := Lib.hid (xfail_any B g σ w h)
  rw [errK_place] at FL
  have HY := Lib.hid (fun e => endX_yes (σ := σ) e)
  have HN := Lib.hid (fun e => endX_no (σ := σ) e)
  have HT := Lib.hid h
  cases σ with
  | error z =>
    obtain ⟨c1, _⟩ := h.bad
    have HE := Lib.hid (HN.out rfl)
    clear h HT HY HN
    generalize endX (.error z) = E at *
    go_enter Tryz.func28, Tryz.ntmps28
    go_wp2_with fail
    refine FL.out.mono ?_
    rintro e w2 ⟨rfl, hT, hF⟩
    have HT2 := Lib.hid hT
    have HF2 := Lib.hid hF
    clear hT hF
    go_wp2
    go_end0
    exact ⟨rfl, by rw [HE.out]; exact HT2.out, HF2.out⟩
  | ok l =>
    obtain ⟨A, c, hR⟩ := h
    obtain ⟨a, rfl, t0, t1, t2, t3⟩ := hR.tok
    obtain ⟨c0, c1, c2, z0, z1, z2⟩ := hR.cells
    have hln := hR.fin.ne
    have HK : Hid (kindX 0 (.ok l) = decide ((hdT l).kind = 0)) := Lib.hid rfl
    clear hR
    generalize endX (.ok l) = E at *
    generalize kindX 0 (.ok l) = b at *
    generalize placeX (.ok l) = pl at *
    generalize hdT l = t at *
    obtain ⟨tk, tt, tn, ta⟩ := t
    dsimp only at *
    by_cases hk : tk = 0
    · have HE : Hid (b = true) := Lib.hid (by rw [HK.out, decide_eq_true hk])
      clear HK FL
      subst hk
      go_enter Tryz.func28, Tryz.ntmps28
      go_wp2
      go_end0
      exact ⟨rfl, by rw [HY.out HE.out]; exact HT.out, Fr.refl _ _⟩
    · have HE : Hid (b = false) := Lib.hid (by rw [HK.out, decide_eq_false hk])
      have hkb : (tk != 0) = true := by rw [bne_iff_ne]; exact hk
      clear HK hk
      go_enter Tryz.func28, Tryz.ntmps28
      go_wp2_with fail
      refine FL.out.mono ?_
      rintro e w2 ⟨rfl, hT, hF⟩
      have HT2 := Lib.hid hT
      have HF2 := Lib.hid hF
      clear hT hF
      go_wp2
      go_end0
      exact ⟨rfl, by rw [HN.out HE.out]; exact HT2.out, HF2.out⟩
set_option maxHeartbeats 4000000 in
theorem tWhere_any (s : Tx) (w : World) : Calls Tryz.prog 12 #[.string ⟨s.toArray⟩] w (TelP s w) := by
  have FA : Fr Non w (w.alloc (.cells #[.int .i64 0, .string ⟨#[]⟩, .int .i64 0, .bool false, .int .i64 0, .string ⟨#[]⟩, .int .i64 0, .string ⟨#[]⟩, .slice none 0 0] 28)) := (Fr.refl Non w).alloc _
  have A1 := Lib.hid (wordsR_any s (w.alloc (.cells #[.int .i64 0, .string ⟨#[]⟩, .int .i64 0, .bool false, .int .i64 0, .string ⟨#[]⟩, .int .i64 0, .string ⟨#[]⟩, .slice none 0 0] 28)))
  have HZ0 : Hid (PdB (w.alloc (.cells #[.int .i64 0, .string ⟨#[]⟩, .int .i64 0, .bool false, .int .i64 0, .string ⟨#[]⟩, .int .i64 0, .string ⟨#[]⟩, .slice none 0 0] 28)) w.heap.size noPd.hd noKv) := Lib.hid (pd_new w _ noPd.hd noKv rfl)
  have HFA := Lib.hid FA
  have T1 := Lib.hid (fun e => tp_err (s := s) e)
  have T2 := Lib.hid (fun e e2 => tp_no (s := s) e e2)
  have T3 := Lib.hid (fun e e2 => tp_yes (s := s) e e2)
  have HEN := Lib.hid (fun e => ws_end (s := s) e)
  clear FA
  generalize (wsB s).1 = l at *
  generalize (wsB s).2.1 = n1 at *
  generalize (wsB s).2.2 = n2 at *
  go_enter Tryz.func12, Tryz.ntmps12
  go_wp2_with fail
  refine A1.out.mono ?_
  rintro e w1 ⟨v, rfl, hTk, hF⟩
  have HZ1 := Lib.hid (HZ0.out.fr hF (fun e => e))
  have HF1 := Lib.hid (HFA.out.trans hF)
  have HS1 : Hid (w.heap.size + 1 ≤ w1.heap.size) := Lib.hid (by have := hF.size; simpa using this)
  have HTK := Lib.hid hTk
  clear hTk hF A1 HZ0 HFA
  by_cases he : n2 = 0
  · have HEND := Lib.hid (HEN.out he)
    have hb : ((n2 : Int) != 0) = false := by rw [bne_eq_false_iff_eq]; omega
    have T21 := Lib.hid (fun e2 => T2.out he e2)
    have T31 := Lib.hid (fun e2 => T3.out he e2)
    clear T1 T2 T3 HEN he
    obtain ⟨tA, tc, hv⟩ := HTK.out.shape
    subst hv
    have FB : Fr Non w1 (w1.alloc (.cells #[.slice tA l.length tc, .bool false, .int .i64 0] 57)) := (Fr.refl Non w1).alloc _
    have HTX : Hid (TX (w1.heap.size + 1) w1.heap.size (w1.alloc (.cells #[.slice tA l.length tc, .bool false, .int .i64 0] 57)) (.ok l)) := Lib.hid ⟨tA, tc, Blk.new w1 _ _, HTK.out.non FB, HEND.out, fun a ha => by
      subst ha
      obtain ⟨a', e1, _, _, hat⟩ := HTK.out.addr HEND.out.ne
      obtain rfl := Option.some.inj e1
      have hlt := World.block_lt_of_cell? _ _ (hat 0 HEND.out.ne 0 _ rfl)
      rw [show (a.add (0 * 4)).add 0 = a by cases a; rfl] at hlt
      exact ⟨by omega, by omega⟩, by omega, by simp⟩
    have HZ2 := Lib.hid (HZ1.out.fr FB (fun e => e))
    have HF2 := Lib.hid (HF1.out.trans FB)
    clear FB HZ1 HTK HEND HF1
    have RD := Lib.hid (tpred_any (w1.heap.size + 1) w1.heap.size _ (.ok l) HTX.out)
    have HON : Hid (onS (.ok l) (predK 6) = predK 6 l) := Lib.hid rfl
    rw [HON.out] at RD
    go_wp2_with fail
    refine RD.out.mono ?_
    rintro e w3 ⟨⟨q, v, rfl, ⟨k, rfl, hkd, hkb⟩, hT, hA⟩, hF⟩
    have HKD : Hid (KdS (fun b => w1.heap.size + 1 ≤ b) w3 k q.kids) := Lib.hid (hkd.imp fun b hb _ => by simpa using hb)
    have HKB := Lib.hid hkb
    clear hkd hkb
    have HZ3 := Lib.hid (HZ2.out.fr hF (fun e => by have : w.heap.size = w1.heap.size := e; have := HS1.out; omega))
    have HF3 := Lib.hid (HF2.out.fresh hF (fun k e => by have : k = w1.heap.size := e; have := HS1.out; omega))
    have HS3 : Hid (w1.heap.size + 1 ≤ w3.heap.size) := Lib.hid (by have := hF.size; simpa using this)
    have HT3 := Lib.hid hT
    have HA := Lib.hid hA
    clear hT hA hF RD HZ2 HF2 HTX HON
    obtain ⟨⟨xo, xc, xm, ⟨xn, xi, xt⟩, xk, xp⟩, xks⟩ := q
    obtain ⟨kA, kn, kc⟩ := k
    have FB : Fr Non w3 (w3.alloc (.cells #[.int .i64 xo, .string ⟨xc.toArray⟩, .int .i64 xm, .bool xn, .int .i64 xi, .string ⟨xt.toArray⟩, .int .i64 xk, .string ⟨xp.toArray⟩, .slice kA kn kc] 28)) := (Fr.refl Non w3).alloc _
    have HP4 : Hid (PdB (w3.alloc (.cells #[.int .i64 xo, .string ⟨xc.toArray⟩, .int .i64 xm, .bool xn, .int .i64 xi, .string ⟨xt.toArray⟩, .int .i64 xk, .string ⟨xp.toArray⟩, .slice kA kn kc] 28)) w3.heap.size ⟨xo, xc, xm, ⟨xn, xi, xt⟩, xk, xp⟩ ⟨kA, kn, kc⟩) := Lib.hid (pd_new w3 _ ⟨xo, xc, xm, ⟨xn, xi, xt⟩, xk, xp⟩ ⟨kA, kn, kc⟩ rfl)
    have HQ4 : Hid (KdS (fun b => w1.heap.size + 1 ≤ b) (w3.alloc (.cells #[.int .i64 xo, .string ⟨xc.toArray⟩, .int .i64 xm, .bool xn, .int .i64 xi, .string ⟨xt.toArray⟩, .int .i64 xk, .string ⟨xp.toArray⟩, .slice kA kn kc] 28)) ⟨kA, kn, kc⟩ xks) := Lib.hid (HKD.out.non FB)
    clear HKD
    unfold pdV pdC kidV
    dsimp only [Pd.hd, Pd.kids] at *
    have HZ4 := Lib.hid (HZ3.out.fr FB (fun e => e))
    have HF4 := Lib.hid (HF3.out.trans FB)
    have HT4 := Lib.hid (HT3.out.non FB)
    clear FB HZ3 HF3 HT3
    have EN := Lib.hid (tend_any (w1.heap.size + 1) w1.heap.size _ _ HT4.out)
    have HEY := Lib.hid (fun e => endX_yes (σ := dropV (predK 6 l)) e)
    have HEN2 := Lib.hid (fun e => endX_no (σ := dropV (predK 6 l)) e)
    generalize endX (dropV (predK 6 l)) = E at *
    generalize kindX 0 (dropV (predK 6 l)) = b at *
    go_wp2_with fail
    refine EN.out.mono ?_
    rintro e w5 ⟨rfl, hT, hF⟩
    have HZ5 := Lib.hid (HZ4.out.fr hF (fun e => by have : w.heap.size = w1.heap.size := e; have := HS1.out; omega))
    have HP5 := Lib.hid (HP4.out.fr hF (fun e => by have : w3.heap.size = w1.heap.size := e; have := HS3.out; omega))
    have HF5 := Lib.hid (HF4.out.fresh hF (fun k e => by have : k = w1.heap.size := e; have := HS1.out; omega))
    have HT5 := Lib.hid hT
    have HQ5 : Hid (KdS (fun b => w.heap.size + 1 ≤ b) w5 ⟨kA, kn, kc⟩ xks) := Lib.hid ((HQ4.out.fr hF (fun b hb _ e => by have : b = w1.heap.size := e; omega)).imp fun b hb _ => by have := HS1.out; omega)
    clear hT hF EN HZ4 HP4 HF4 HT4 HQ4
    cases b
    · have TE := Lib.hid (T21.out (by first | rfl | trivial))
      obtain ⟨cb, ca, cl_⟩ := TX.badc (k := placeX (dropV (predK 6 l))) (by rw [← HEN2.out (by first | rfl | trivial)]; exact HT5.out)
      clear T21 T31 HT5 HP5 HQ5 HA HEY HEN2
      generalize placeX (dropV (predK 6 l)) = pl at *
      obtain ⟨f0, f1, f2, f3, f4, f5, f6, f7, f8⟩ := pdB_frozen HZ5.out
      obtain ⟨r0, r1, r2, r3, r4, r5, r6, r7, r8⟩ := pdB_cells HZ5.out
      dsimp only [noKv, noPd, zCl, Pd.hd] at r0 r1 r2 r3 r4 r5 r6 r7 r8
      have E5 := Lib.hid (setPd_B HZ5.out noPd.hd noKv)
      have G5 := Lib.hid (HF5.out.fresh (setPd_fr w5 w.heap.size noPd.hd noKv) (fun k e => by have : k = w.heap.size := e; omega))
      clear HZ5
      unfold setPd kidV noKv noPd zCl at E5 G5
      dsimp only [Pd.hd] at E5 G5
      go_upto_region 8 with fail
      have hne1 : w.heap.size ≠ w1.heap.size := by have := HS1.out; omega
      have hne2 : w1.heap.size ≠ w.heap.size := by have := HS1.out; omega
      go_region
      all_goals (go_wp2; exact bodyPost_ret (ret_pd3 (p := 2) (u := 3) (v := 4) rfl _ _ w.heap.size noPd.hd noKv _ _ rfl rfl rfl E5.out.drew) rfl (TelP.none TE.out G5.out.drew))
    · obtain ⟨q0, r0, hx, hbg, hy1, hy2⟩ := T31.out (by first | rfl | trivial)
      obtain rfl := HA.out q0 r0 hx
      have HGD : Hid (w5.cell? ⟨w1.heap.size, 1, none⟩ = some (.bool false)) := Lib.hid (by
        have h5 := HT5.out
        rw [HEY.out (by first | rfl | trivial), hx] at h5
        exact h5.good.1)
      have cb := HGD.out
      have HY1 := Lib.hid hy1
      have HY2 := Lib.hid hy2
      have MY := Lib.hid (rpmay_big ⟨xo, xc, xm, ⟨xn, xi, xt⟩, xk, xp⟩ ⟨kA, kn, kc⟩ xks w5 HQ5.out.kd hbg.1)
      clear hx hy1 hy2 hbg T21 T31 HA HT5 HGD HEY HEN2
      generalize mayP (.mk ⟨xo, xc, xm, ⟨xn, xi, xt⟩, xk, xp⟩ xks) = m at *
      obtain ⟨p0, p1, p2, p3, p4, p5, p6, p7, p8⟩ := pdB_cells HP5.out
      dsimp only [Pd.hd] at p0 p1 p2 p3 p4 p5 p6 p7 p8
      unfold pdV pdC kidV at MY
      dsimp only at MY
      go_wp2_with fail
      refine MY.out.mono ?_
      rintro e w6 ⟨rfl, hF⟩
      have HZ6 := Lib.hid (HZ5.out.fr hF (fun e => e))
      have HP6 := Lib.hid (HP5.out.fr hF (fun e => e))
      have HF6 := Lib.hid (HF5.out.trans hF)
      have HQ6 := Lib.hid (HQ5.out.non hF)
      clear hF MY HZ5 HP5 HF5 HQ5 p0 p1 p2 p3 p4 p5 p6 p7 p8 cb
      cases m
      · have TE := Lib.hid (HY2.out (by first | rfl | trivial))
        clear HY1 HY2 HP6 HQ6
        obtain ⟨f0, f1, f2, f3, f4, f5, f6, f7, f8⟩ := pdB_frozen HZ6.out
        obtain ⟨r0, r1, r2, r3, r4, r5, r6, r7, r8⟩ := pdB_cells HZ6.out
        dsimp only [noKv, noPd, zCl, Pd.hd] at r0 r1 r2 r3 r4 r5 r6 r7 r8
        have E5 := Lib.hid (setPd_B HZ6.out noPd.hd noKv)
        have G5 := Lib.hid (HF6.out.fresh (setPd_fr w6 w.heap.size noPd.hd noKv) (fun k e => by have : k = w.heap.size := e; omega))
        clear HZ6
        unfold setPd kidV noKv noPd zCl at E5 G5
        dsimp only [Pd.hd] at E5 G5
        go_wp2
        exact bodyPost_ret (ret_pd3 (p := 2) (u := 3) (v := 4) rfl _ _ w.heap.size noPd.hd noKv _ _ rfl rfl rfl E5.out) rfl (TelP.none TE.out G5.out)
      · have TE := Lib.hid (HY1.out (by first | rfl | trivial))
        clear HY1 HY2
        obtain ⟨f0, f1, f2, f3, f4, f5, f6, f7, f8⟩ := pdB_frozen HZ6.out
        obtain ⟨r0, r1, r2, r3, r4, r5, r6, r7, r8⟩ := pdB_cells HZ6.out
        obtain ⟨p0, p1, p2, p3, p4, p5, p6, p7, p8⟩ := pdB_cells HP6.out
        dsimp only [noKv, noPd, zCl, Pd.hd] at r0 r1 r2 r3 r4 r5 r6 r7 r8 p0 p1 p2 p3 p4 p5 p6 p7 p8
        have E5 := Lib.hid (setPd_B HZ6.out ⟨xo, xc, xm, ⟨xn, xi, xt⟩, xk, xp⟩ ⟨kA, kn, kc⟩)
        have G5 := Lib.hid (HF6.out.fresh (setPd_fr w6 w.heap.size ⟨xo, xc, xm, ⟨xn, xi, xt⟩, xk, xp⟩ ⟨kA, kn, kc⟩) (fun k e => by have : k = w.heap.size := e; omega))
        have K5 := Lib.hid ((HQ6.out.fr (setPd_fr w6 w.heap.size ⟨xo, xc, xm, ⟨xn, xi, xt⟩, xk, xp⟩ ⟨kA, kn, kc⟩) (fun b hb _ e => by have : b = w.heap.size := e; omega)).imp (S' := fun b => w.heap.size ≤ b) fun b hb _ => by omega)
        clear HZ6 HP6
        unfold setPd kidV at E5 G5 K5
        dsimp only [Pd.hd] at E5 G5 K5
        go_wp2
        exact bodyPost_ret (ret_pd3 (p := 2) (u := 3) (v := 4) rfl _ _ w.heap.size ⟨xo, xc, xm, ⟨xn, xi, xt⟩, xk, xp⟩ ⟨kA, kn, kc⟩ _ _ rfl rfl rfl E5.out) rfl (TelP.some TE.out K5.out HKB.out G5.out)
  · have TE := Lib.hid (T1.out he)
    have hb : ((n2 : Int) != 0) = true := by rw [bne_iff_ne]; omega
    clear T1 T2 T3 HEN he HTK
    obtain ⟨f0, f1, f2, f3, f4, f5, f6, f7, f8⟩ := pdB_frozen HZ1.out
    obtain ⟨r0, r1, r2, r3, r4, r5, r6, r7, r8⟩ := pdB_cells HZ1.out
    dsimp only [noKv, noPd, zCl, Pd.hd] at r0 r1 r2 r3 r4 r5 r6 r7 r8
    have E5 := Lib.hid (setPd_B HZ1.out noPd.hd noKv)
    have G5 := Lib.hid (HF1.out.fresh (setPd_fr w1 w.heap.size noPd.hd noKv) (fun k e => by have : k = w.heap.size := e; omega))
    clear HZ1
    unfold setPd kidV noKv noPd zCl at E5 G5
    dsimp only [Pd.hd] at E5 G5
    go_wp2
    exact bodyPost_ret (ret_pd3 (p := 2) (u := 3) (v := 4) rfl _ _ w.heap.size noPd.hd noKv _ _ rfl rfl rfl E5.out) rfl (TelP.none TE.out G5.out)
end Go.Proofs.YtipgaafgnefmdaaGreatDoor


namespace Go.Proofs.YtipgaafgnefmdaaGreatDoor
set_option linter.unusedVariables false
set_option linter.unusedSimpArgs false
set_option maxRecDepth 100000
open Go.RowKit

theorem sameP_is (h h' : Ph) (ks ks' : List Pd) : sameP (.mk h ks) (.mk h' ks') = (peq h h' && sameL ks ks') := by rw [sameP]; rfl
theorem sameL_len {l m : List Pd} (h : ¬ l.length = m.length) : sameL l m = false := by
  rw [Bool.eq_false_iff]
  intro e
  exact h (by rw [(sameL_iff l m).1 e])
theorem sameL_at {l m : List Pd} {k : Nat} (h1 : k < l.length) (h2 : k < m.length) : sameL (l.drop k) (m.drop k) = (sameP l[k] m[k] && sameL (l.drop (k + 1)) (m.drop (k + 1))) := by
  rw [List.drop_eq_getElem_cons h1, List.drop_eq_getElem_cons h2, sameL]
theorem sameL_end {l m : List Pd} {k : Nat} (h1 : l.length ≤ k) (h2 : m.length ≤ k) : sameL (l.drop k) (m.drop k) = true := by
  rw [List.drop_eq_nil_of_le h1, List.drop_eq_nil_of_le h2, sameL]

set_option maxHeartbeats 8000000 in
theorem rpsame_any (p : Pd) : ∀ (q : Pd) (s t : Kv) (w : World), Kd w s p.kids → Kd w t q.kids → lenP p = true →
    Calls Tryz.prog 13 #[pdV p.hd s, pdV q.hd t] w fun e w' => e = .returned (.bool (sameP p q)) ∧ Fr Non w w' := by
  induction p using Pd.ind with
  | h hd ks ih =>
    rintro ⟨hd2, ms⟩ s t w hk hm hlen
    have hls := lenP_mk hlen
    dsimp only [Pd.hd, Pd.kids] at hk hm ⊢
    have hn1 := hk.len
    have hn2 := hm.len
    have IH : Hid (∀ k (h : k < ks.length) (j : Nat) (h2 : j < ms.length) (W : World) (s' t' : Kv), Kd W s' ks[k].kids → Kd W t' ms[j].kids → Calls Tryz.prog 13 #[pdV ks[k].hd s', pdV ms[j].hd t'] W fun e w' => e = .returned (.bool (sameP ks[k] ms[j])) ∧ Fr Non W w') := Lib.hid (fun k h j h2 W s' t' a b => ih _ (List.getElem_mem h) ms[j] s' t' W a b (hls.2.2.2.2 _ (List.getElem_mem h)))
    have A1 := Lib.hid (fun W => flat_any hd hd2 s t W)
    have PB := pd2_new w _ hd hd2 s t rfl
    have F0 : Fr Non w ((w.alloc (.cells (pdC hd s) 28)).alloc (.cells (pdC hd2 t) 28)) := ((Fr.refl Non w).alloc _).alloc _
    have HE0 := Lib.hid (sameP_is hd hd2 ks ms)
    have HS0 := Lib.hid (fun e => sameL_len (l := ks) (m := ms) e)
    have HS1 : Hid (sameL ks ms = sameL (ks.drop 0) (ms.drop 0)) := Lib.hid rfl
    generalize sameP (.mk hd ks) (.mk hd2 ms) = r at *
    generalize sameL ks ms = b0 at *
    generalize peq hd hd2 = q at *
    have HK := Lib.hid (hk.non F0)
    have HM := Lib.hid (hm.non F0)
    have PB := Lib.hid PB
    have F0 := Lib.hid F0
    have hls2 : ks.length ≤ 20 := hls.1
    clear ih hk hm hlen hls
    obtain ⟨ho, hc, hmm, ⟨vn, vi, vt⟩, hkd, hp⟩ := hd
    obtain ⟨go, gc, gm, ⟨un, ui, ut⟩, gkd, gp⟩ := hd2
    obtain ⟨A, n, c⟩ := s
    obtain ⟨A2, n2, c2⟩ := t
    dsimp only at hn1 hn2
    have hn20 : n ≤ 20 := by omega
    have HL1 := Lib.hid hn1
    have HL2 := Lib.hid hn2
    clear hn1 hn2 hls2
    unfold pdV pdC kidV at A1 ⊢
    dsimp only at A1 ⊢
    cases q
    · have HE : Hid (r = false) := Lib.hid (by rw [HE0.out]; rfl)
      clear HE0 IH HS0 HS1
      go_enter Tryz.func13, Tryz.ntmps13
      go_wp2_with fail
      refine (A1.out _).mono ?_
      rintro e w1 ⟨rfl, f1⟩
      go_wp2
      go_ret
      exact ⟨ret_boolE HE.out.symm, F0.out.trans f1⟩
    · have HE : Hid (r = b0) := Lib.hid (by rw [HE0.out]; rfl)
      clear HE0
      go_enter Tryz.func13, Tryz.ntmps13
      go_wp2_with fail
      refine (A1.out _).mono ?_
      rintro e w1 ⟨rfl, f1⟩
      have PB1 := Lib.hid (PB.out.1.fr f1 (fun e => e))
      have PB2 := Lib.hid (PB.out.2.fr f1 (fun e => e))
      have g8 := PB1.out.cell 8
      have h8 := PB2.out.cell 8
      simp [pdC, kidV] at g8 h8
      have HK1 := Lib.hid (HK.out.non f1)
      have HM1 := Lib.hid (HM.out.non f1)
      have F1 := Lib.hid (F0.out.trans f1)
      clear f1 PB HK HM F0 A1
      by_cases hne : n = n2
      · subst hne
        clear HS0
        go_wp2
        go_loopw [5] (fun i wr => ∃ k : Nat, k ≤ n ∧ i = .int .i64 k ∧ Hid (b0 = sameL (ks.drop k) (ms.drop k)) ∧ Hid (Fr Non w1 wr)) (fun i _ => n - (intOf i).toNat)
        case atStart => exact ⟨0, Nat.zero_le _, rfl, HS1, Lib.hid (Fr.refl _ _)⟩
        case round =>
          clear HS1 g8 h8
          obtain ⟨k, hk, rfl, HT, FR⟩ := hrel
          have g8 := (PB1.out.fr FR.out (fun e => e)).cell 8
          have h8 := (PB2.out.fr FR.out (fun e => e)).cell 8
          simp [pdC, kidV] at g8 h8
          by_cases hlt : k < n
          · have h1 : k < ks.length := by have := HL1.out; omega
            have h2 : k < ms.length := by have := HL2.out; omega
            obtain ⟨a, t, hA, hc, hkk, _⟩ := HK1.out.elN FR.out.drew k h1
            dsimp only at hA
            subst hA
            obtain ⟨a2, t2, hA2, hc2, hkk2, _⟩ := HM1.out.elN FR.out.drew k h2
            dsimp only at hA2
            subst hA2
            have q0 : wr.drew.cell? ⟨w.heap.size, 8, none⟩ = _ := g8
            have q1 : wr.drew.cell? ⟨w.heap.size + 1, 8, none⟩ = _ := h8
            obtain ⟨q2, q3, q4, q5, q6, q7, q8, q9, q10⟩ := hc
            obtain ⟨q11, q12, q13, q14, q15, q16, q17, q18, q19⟩ := hc2
            have HC := Lib.hid (IH.out k h1 k h2 wr.drew t t2 (hkk.non FR.out.drew) (hkk2.non FR.out.drew))
            have HY := Lib.hid (HT.out.trans (sameL_at h1 h2))
            clear hkk hkk2 HT
            generalize sameP ks[k] ms[k] = b at *
            generalize ks[k].hd = x at *
            generalize ms[k].hd = y at *
            obtain ⟨xo, xc, xm, ⟨xn, xi, xt⟩, xk, xp⟩ := x
            obtain ⟨yo, yc, ym, ⟨yn, yi, yt⟩, yk, yp⟩ := y
            obtain ⟨tA, tn, tc⟩ := t
            obtain ⟨uA, un, uc⟩ := t2
            unfold pdV pdC kidV at HC
            dsimp only at HC q2 q3 q4 q5 q6 q7 q8 q9 q10 q11 q12 q13 q14 q15 q16 q17 q18 q19
            cases b
            · have HE2 : Hid (r = false) := Lib.hid (by rw [HE.out, HY.out]; rfl)
              clear HY
              go_wp2
              refine wp_region_held_drew (S := (fun W => W.cell? ⟨w.heap.size, 8, none⟩ = some (.slice (some a) n c) ∧ W.cell? ⟨w.heap.size + 1, 8, none⟩ = some (.slice (some a2) n c2) ∧ W.cell? (a.add (k * 9)) = some (.int .i64 xo) ∧ W.cell? { block := (a.add (k * 9)).block, off := (a.add (k * 9)).off + 1 } = some (.string ⟨xc.toArray⟩) ∧ W.cell? { block := (a.add (k * 9)).block, off := (a.add (k * 9)).off + 2 } = some (.int .i64 xm) ∧ W.cell? { block := (a.add (k * 9)).block, off := (a.add (k * 9)).off + 3 } = some (.bool xn) ∧ W.cell? { block := (a.add (k * 9)).block, off := (a.add (k * 9)).off + 4 } = some (.int .i64 xi) ∧ W.cell? { block := (a.add (k * 9)).block, off := (a.add (k * 9)).off + 5 } = some (.string ⟨xt.toArray⟩) ∧ W.cell? { block := (a.add (k * 9)).block, off := (a.add (k * 9)).off + 6 } = some (.int .i64 xk) ∧ W.cell? { block := (a.add (k * 9)).block, off := (a.add (k * 9)).off + 7 } = some (.string ⟨xp.toArray⟩) ∧ W.cell? { block := (a.add (k * 9)).block, off := (a.add (k * 9)).off + 8 } = some (.slice tA tn tc) ∧ W.cell? (a2.add (k * 9)) = some (.int .i64 yo) ∧ W.cell? { block := (a2.add (k * 9)).block, off := (a2.add (k * 9)).off + 1 } = some (.string ⟨yc.toArray⟩) ∧ W.cell? { block := (a2.add (k * 9)).block, off := (a2.add (k * 9)).off + 2 } = some (.int .i64 ym) ∧ W.cell? { block := (a2.add (k * 9)).block, off := (a2.add (k * 9)).off + 3 } = some (.bool yn) ∧ W.cell? { block := (a2.add (k * 9)).block, off := (a2.add (k * 9)).off + 4 } = some (.int .i64 yi) ∧ W.cell? { block := (a2.add (k * 9)).block, off := (a2.add (k * 9)).off + 5 } = some (.string ⟨yt.toArray⟩) ∧ W.cell? { block := (a2.add (k * 9)).block, off := (a2.add (k * 9)).off + 6 } = some (.int .i64 yk) ∧ W.cell? { block := (a2.add (k * 9)).block, off := (a2.add (k * 9)).off + 7 } = some (.string ⟨yp.toArray⟩) ∧ W.cell? { block := (a2.add (k * 9)).block, off := (a2.add (k * 9)).off + 8 } = some (.slice uA un uc))) (by kernel_rfl) (by exact ⟨q0, q1, q2, q3, q4, q5, q6, q7, q8, q9, q10, q11, q12, q13, q14, q15, q16, q17, q18, q19⟩) (fun hHeld => ?_)
              refine wpAnyH_take (i := 0) (oi := ⟨some 26, _, _, _, _, none⟩) (v := ?v1) rfl (by kernel_rfl) (by kernel_rfl) (by kernel_rfl) (fun _ _ _ h => h) (Or.inl ⟨by rfl, ?hy1⟩) (by assumption) ?rest1
              case hy1 => (intro wS hSw; (try dsimp only at hSw); go_simp; (try with_reducible rfl))
              (try simp only [Act.put, List.setIfInBounds_toArray, List.set_cons_zero, List.set_cons_succ])
              refine wpAnyH_take (i := 1) (oi := ⟨some 27, _, _, _, _, none⟩) (v := ?v2) rfl (by kernel_rfl) (by kernel_rfl) (by kernel_rfl) (fun _ _ _ h => h) (Or.inl ⟨by rfl, ?hy2⟩) (by assumption) ?rest2
              case hy2 => (intro wS hSw; (try dsimp only at hSw); go_simp; (try with_reducible rfl))
              (try simp only [Act.put, List.setIfInBounds_toArray, List.set_cons_zero, List.set_cons_succ])
              refine wpAnyH_take (i := 2) (oi := ⟨some 28, _, _, _, _, none⟩) (v := ?v3) rfl (by kernel_rfl) (by kernel_rfl) (by kernel_rfl) (fun _ _ _ h => h) (Or.inl ⟨by rfl, ?hy3⟩) (by assumption) ?rest3
              case hy3 => (intro wS hSw; (try dsimp only at hSw); go_simp; (try with_reducible rfl))
              (try simp only [Act.put, List.setIfInBounds_toArray, List.set_cons_zero, List.set_cons_succ])
              refine wpAnyH_take (i := 3) (oi := ⟨some 29, _, _, _, _, none⟩) (v := ?v4) rfl (by kernel_rfl) (by kernel_rfl) (by kernel_rfl) (fun _ _ _ h => h) (Or.inl ⟨by rfl, ?hy4⟩) (by assumption) ?rest4
              case hy4 => (intro wS hSw; (try dsimp only at hSw); go_simp; (try with_reducible rfl))
              (try simp only [Act.put, List.setIfInBounds_toArray, List.set_cons_zero, List.set_cons_succ])
              refine wpAnyH_take (i := 4) (oi := ⟨some 30, _, _, _, _, none⟩) (v := ?v5) rfl (by kernel_rfl) (by kernel_rfl) (by kernel_rfl) (fun _ _ _ h => h) (Or.inl ⟨by rfl, ?hy5⟩) (by assumption) ?rest5
              case hy5 => (intro wS hSw; (try dsimp only at hSw); go_simp; (try with_reducible rfl))
              (try simp only [Act.put, List.setIfInBounds_toArray, List.set_cons_zero, List.set_cons_succ])
              refine wpAnyH_take (i := 5) (oi := ⟨some 31, _, _, _, _, none⟩) (v := ?v6) rfl (by kernel_rfl) (by kernel_rfl) (by kernel_rfl) (fun _ _ _ h => h) (Or.inl ⟨by rfl, ?hy6⟩) (by assumption) ?rest6
              case hy6 => (intro wS hSw; (try dsimp only at hSw); go_simp; (try with_reducible rfl))
              (try simp only [Act.put, List.setIfInBounds_toArray, List.set_cons_zero, List.set_cons_succ])
              refine wpAnyH_take (i := 6) (oi := ⟨some 32, _, _, _, _, none⟩) (v := ?v7) rfl (by kernel_rfl) (by kernel_rfl) (by kernel_rfl) (fun _ _ _ h => h) (Or.inl ⟨by rfl, ?hy7⟩) (by assumption) ?rest7
              case hy7 => (intro wS hSw; (try dsimp only at hSw); go_simp; (try with_reducible rfl))
              (try simp only [Act.put, List.setIfInBounds_toArray, List.set_cons_zero, List.set_cons_succ])
              refine wpAnyH_take (i := 7) (oi := ⟨some 33, _, _, _, _, none⟩) (v := ?v8) rfl (by kernel_rfl) (by kernel_rfl) (by kernel_rfl) (fun _ _ _ h => h) (Or.inl ⟨by rfl, ?hy8⟩) (by assumption) ?rest8
              case hy8 => (intro wS hSw; (try dsimp only at hSw); go_simp; (try with_reducible rfl))
              (try simp only [Act.put, List.setIfInBounds_toArray, List.set_cons_zero, List.set_cons_succ])
              refine wpAnyH_take (i := 8) (oi := ⟨some 34, _, _, _, _, none⟩) (v := ?v9) rfl (by kernel_rfl) (by kernel_rfl) (by kernel_rfl) (fun _ _ _ h => h) (Or.inl ⟨by rfl, ?hy9⟩) (by assumption) ?rest9
              case hy9 => (intro wS hSw; (try dsimp only at hSw); go_simp; (try with_reducible rfl))
              (try simp only [Act.put, List.setIfInBounds_toArray, List.set_cons_zero, List.set_cons_succ])
              refine wpAnyH_take (i := 9) (oi := ⟨some 35, _, _, _, _, none⟩) (v := ?v10) rfl (by kernel_rfl) (by kernel_rfl) (by kernel_rfl) (fun _ _ _ h => h) (Or.inl ⟨by rfl, ?hy10⟩) (by assumption) ?rest10
              case hy10 => (intro wS hSw; (try dsimp only at hSw); go_simp; (try with_reducible rfl))
              (try simp only [Act.put, List.setIfInBounds_toArray, List.set_cons_zero, List.set_cons_succ])
              refine wpAnyH_ready (rs := [10]) (by kernel_rfl) (by simp) ?_
              refine AllReadyH.cons (o := ⟨some 36, _, _, _, _, none⟩) rfl (fun K hK => ?_) AllReadyH.nil
              go_simp
              go_at_call 13
              (with_reducible refine HC.out.mono ?_)
              rintro e w3 ⟨rfl, f3⟩
              have u0 := (f3.cell (World.block_lt_of_cell? _ _ q0) (fun e => e)).trans q0
              have u1 := (f3.cell (World.block_lt_of_cell? _ _ q1) (fun e => e)).trans q1
              have u2 := (f3.cell (World.block_lt_of_cell? _ _ q2) (fun e => e)).trans q2
              have u3 := (f3.cell (World.block_lt_of_cell? _ _ q3) (fun e => e)).trans q3
              have u4 := (f3.cell (World.block_lt_of_cell? _ _ q4) (fun e => e)).trans q4
              have u5 := (f3.cell (World.block_lt_of_cell? _ _ q5) (fun e => e)).trans q5
              have u6 := (f3.cell (World.block_lt_of_cell? _ _ q6) (fun e => e)).trans q6
              have u7 := (f3.cell (World.block_lt_of_cell? _ _ q7) (fun e => e)).trans q7
              have u8 := (f3.cell (World.block_lt_of_cell? _ _ q8) (fun e => e)).trans q8
              have u9 := (f3.cell (World.block_lt_of_cell? _ _ q9) (fun e => e)).trans q9
              have u10 := (f3.cell (World.block_lt_of_cell? _ _ q10) (fun e => e)).trans q10
              have u11 := (f3.cell (World.block_lt_of_cell? _ _ q11) (fun e => e)).trans q11
              have u12 := (f3.cell (World.block_lt_of_cell? _ _ q12) (fun e => e)).trans q12
              have u13 := (f3.cell (World.block_lt_of_cell? _ _ q13) (fun e => e)).trans q13
              have u14 := (f3.cell (World.block_lt_of_cell? _ _ q14) (fun e => e)).trans q14
              have u15 := (f3.cell (World.block_lt_of_cell? _ _ q15) (fun e => e)).trans q15
              have u16 := (f3.cell (World.block_lt_of_cell? _ _ q16) (fun e => e)).trans q16
              have u17 := (f3.cell (World.block_lt_of_cell? _ _ q17) (fun e => e)).trans q17
              have u18 := (f3.cell (World.block_lt_of_cell? _ _ q18) (fun e => e)).trans q18
              have u19 := (f3.cell (World.block_lt_of_cell? _ _ q19) (fun e => e)).trans q19
              go_wp2_with fail
              refine hK.out _ _ (by exact ⟨u0, u1, u2, u3, u4, u5, u6, u7, u8, u9, u10, u11, u12, u13, u14, u15, u16, u17, u18, u19⟩) (fun hHeld => ?_)
              clear hK K
              (try simp only [Act.put, List.setIfInBounds_toArray, List.set_cons_zero, List.set_cons_succ])
              refine wpAnyH_take (i := 11) (oi := ⟨some 37, _, _, _, _, none⟩) (v := ?v11) rfl (by kernel_rfl) (by kernel_rfl) (by kernel_rfl) (fun _ _ _ h => h) (Or.inl ⟨by rfl, ?hy11⟩) (by assumption) ?rest11
              case hy11 => (intro wS hSw; (try dsimp only at hSw); go_simp; (try with_reducible rfl))
              (try simp only [Act.put, List.setIfInBounds_toArray, List.set_cons_zero, List.set_cons_succ])
              refine wpAnyH_done (by kernel_rfl) ?_ _
              clear q0 u0 q1 u1 q2 u2 q3 u3 q4 u4 q5 u5 q6 u6 q7 u7 q8 u8 q9 u9 q10 u10 q11 u11 q12 u12 q13 u13 q14 u14 q15 u15 q16 u16 q17 u17 q18 u18 q19 u19
              go_wp2
              go_ret
              exact ⟨ret_boolE HE2.out.symm, (F1.out.trans FR.out.drew).trans f3⟩
            · have HE2 : Hid (b0 = sameL (ks.drop (k + 1)) (ms.drop (k + 1))) := Lib.hid (by rw [HY.out]; rfl)
              clear HY
              go_wp2
              refine wp_region_held_drew (S := (fun W => W.cell? ⟨w.heap.size, 8, none⟩ = some (.slice (some a) n c) ∧ W.cell? ⟨w.heap.size + 1, 8, none⟩ = some (.slice (some a2) n c2) ∧ W.cell? (a.add (k * 9)) = some (.int .i64 xo) ∧ W.cell? { block := (a.add (k * 9)).block, off := (a.add (k * 9)).off + 1 } = some (.string ⟨xc.toArray⟩) ∧ W.cell? { block := (a.add (k * 9)).block, off := (a.add (k * 9)).off + 2 } = some (.int .i64 xm) ∧ W.cell? { block := (a.add (k * 9)).block, off := (a.add (k * 9)).off + 3 } = some (.bool xn) ∧ W.cell? { block := (a.add (k * 9)).block, off := (a.add (k * 9)).off + 4 } = some (.int .i64 xi) ∧ W.cell? { block := (a.add (k * 9)).block, off := (a.add (k * 9)).off + 5 } = some (.string ⟨xt.toArray⟩) ∧ W.cell? { block := (a.add (k * 9)).block, off := (a.add (k * 9)).off + 6 } = some (.int .i64 xk) ∧ W.cell? { block := (a.add (k * 9)).block, off := (a.add (k * 9)).off + 7 } = some (.string ⟨xp.toArray⟩) ∧ W.cell? { block := (a.add (k * 9)).block, off := (a.add (k * 9)).off + 8 } = some (.slice tA tn tc) ∧ W.cell? (a2.add (k * 9)) = some (.int .i64 yo) ∧ W.cell? { block := (a2.add (k * 9)).block, off := (a2.add (k * 9)).off + 1 } = some (.string ⟨yc.toArray⟩) ∧ W.cell? { block := (a2.add (k * 9)).block, off := (a2.add (k * 9)).off + 2 } = some (.int .i64 ym) ∧ W.cell? { block := (a2.add (k * 9)).block, off := (a2.add (k * 9)).off + 3 } = some (.bool yn) ∧ W.cell? { block := (a2.add (k * 9)).block, off := (a2.add (k * 9)).off + 4 } = some (.int .i64 yi) ∧ W.cell? { block := (a2.add (k * 9)).block, off := (a2.add (k * 9)).off + 5 } = some (.string ⟨yt.toArray⟩) ∧ W.cell? { block := (a2.add (k * 9)).block, off := (a2.add (k * 9)).off + 6 } = some (.int .i64 yk) ∧ W.cell? { block := (a2.add (k * 9)).block, off := (a2.add (k * 9)).off + 7 } = some (.string ⟨yp.toArray⟩) ∧ W.cell? { block := (a2.add (k * 9)).block, off := (a2.add (k * 9)).off + 8 } = some (.slice uA un uc))) (by kernel_rfl) (by exact ⟨q0, q1, q2, q3, q4, q5, q6, q7, q8, q9, q10, q11, q12, q13, q14, q15, q16, q17, q18, q19⟩) (fun hHeld => ?_)
              refine wpAnyH_take (i := 0) (oi := ⟨some 26, _, _, _, _, none⟩) (v := ?v12) rfl (by kernel_rfl) (by kernel_rfl) (by kernel_rfl) (fun _ _ _ h => h) (Or.inl ⟨by rfl, ?hy12⟩) (by assumption) ?rest12
              case hy12 => (intro wS hSw; (try dsimp only at hSw); go_simp; (try with_reducible rfl))
              (try simp only [Act.put, List.setIfInBounds_toArray, List.set_cons_zero, List.set_cons_succ])
              refine wpAnyH_take (i := 1) (oi := ⟨some 27, _, _, _, _, none⟩) (v := ?v13) rfl (by kernel_rfl) (by kernel_rfl) (by kernel_rfl) (fun _ _ _ h => h) (Or.inl ⟨by rfl, ?hy13⟩) (by assumption) ?rest13
              case hy13 => (intro wS hSw; (try dsimp only at hSw); go_simp; (try with_reducible rfl))
              (try simp only [Act.put, List.setIfInBounds_toArray, List.set_cons_zero, List.set_cons_succ])
              refine wpAnyH_take (i := 2) (oi := ⟨some 28, _, _, _, _, none⟩) (v := ?v14) rfl (by kernel_rfl) (by kernel_rfl) (by kernel_rfl) (fun _ _ _ h => h) (Or.inl ⟨by rfl, ?hy14⟩) (by assumption) ?rest14
              case hy14 => (intro wS hSw; (try dsimp only at hSw); go_simp; (try with_reducible rfl))
              (try simp only [Act.put, List.setIfInBounds_toArray, List.set_cons_zero, List.set_cons_succ])
              refine wpAnyH_take (i := 3) (oi := ⟨some 29, _, _, _, _, none⟩) (v := ?v15) rfl (by kernel_rfl) (by kernel_rfl) (by kernel_rfl) (fun _ _ _ h => h) (Or.inl ⟨by rfl, ?hy15⟩) (by assumption) ?rest15
              case hy15 => (intro wS hSw; (try dsimp only at hSw); go_simp; (try with_reducible rfl))
              (try simp only [Act.put, List.setIfInBounds_toArray, List.set_cons_zero, List.set_cons_succ])
              refine wpAnyH_take (i := 4) (oi := ⟨some 30, _, _, _, _, none⟩) (v := ?v16) rfl (by kernel_rfl) (by kernel_rfl) (by kernel_rfl) (fun _ _ _ h => h) (Or.inl ⟨by rfl, ?hy16⟩) (by assumption) ?rest16
              case hy16 => (intro wS hSw; (try dsimp only at hSw); go_simp; (try with_reducible rfl))
              (try simp only [Act.put, List.setIfInBounds_toArray, List.set_cons_zero, List.set_cons_succ])
              refine wpAnyH_take (i := 5) (oi := ⟨some 31, _, _, _, _, none⟩) (v := ?v17) rfl (by kernel_rfl) (by kernel_rfl) (by kernel_rfl) (fun _ _ _ h => h) (Or.inl ⟨by rfl, ?hy17⟩) (by assumption) ?rest17
              case hy17 => (intro wS hSw; (try dsimp only at hSw); go_simp; (try with_reducible rfl))
              (try simp only [Act.put, List.setIfInBounds_toArray, List.set_cons_zero, List.set_cons_succ])
              refine wpAnyH_take (i := 6) (oi := ⟨some 32, _, _, _, _, none⟩) (v := ?v18) rfl (by kernel_rfl) (by kernel_rfl) (by kernel_rfl) (fun _ _ _ h => h) (Or.inl ⟨by rfl, ?hy18⟩) (by assumption) ?rest18
              case hy18 => (intro wS hSw; (try dsimp only at hSw); go_simp; (try with_reducible rfl))
              (try simp only [Act.put, List.setIfInBounds_toArray, List.set_cons_zero, List.set_cons_succ])
              refine wpAnyH_take (i := 7) (oi := ⟨some 33, _, _, _, _, none⟩) (v := ?v19) rfl (by kernel_rfl) (by kernel_rfl) (by kernel_rfl) (fun _ _ _ h => h) (Or.inl ⟨by rfl, ?hy19⟩) (by assumption) ?rest19
              case hy19 => (intro wS hSw; (try dsimp only at hSw); go_simp; (try with_reducible rfl))
              (try simp only [Act.put, List.setIfInBounds_toArray, List.set_cons_zero, List.set_cons_succ])
              refine wpAnyH_take (i := 8) (oi := ⟨some 34, _, _, _, _, none⟩) (v := ?v20) rfl (by kernel_rfl) (by kernel_rfl) (by kernel_rfl) (fun _ _ _ h => h) (Or.inl ⟨by rfl, ?hy20⟩) (by assumption) ?rest20
              case hy20 => (intro wS hSw; (try dsimp only at hSw); go_simp; (try with_reducible rfl))
              (try simp only [Act.put, List.setIfInBounds_toArray, List.set_cons_zero, List.set_cons_succ])
              refine wpAnyH_take (i := 9) (oi := ⟨some 35, _, _, _, _, none⟩) (v := ?v21) rfl (by kernel_rfl) (by kernel_rfl) (by kernel_rfl) (fun _ _ _ h => h) (Or.inl ⟨by rfl, ?hy21⟩) (by assumption) ?rest21
              case hy21 => (intro wS hSw; (try dsimp only at hSw); go_simp; (try with_reducible rfl))
              (try simp only [Act.put, List.setIfInBounds_toArray, List.set_cons_zero, List.set_cons_succ])
              refine wpAnyH_ready (rs := [10]) (by kernel_rfl) (by simp) ?_
              refine AllReadyH.cons (o := ⟨some 36, _, _, _, _, none⟩) rfl (fun K hK => ?_) AllReadyH.nil
              go_simp
              go_at_call 13
              (with_reducible refine HC.out.mono ?_)
              rintro e w3 ⟨rfl, f3⟩
              have u0 := (f3.cell (World.block_lt_of_cell? _ _ q0) (fun e => e)).trans q0
              have u1 := (f3.cell (World.block_lt_of_cell? _ _ q1) (fun e => e)).trans q1
              have u2 := (f3.cell (World.block_lt_of_cell? _ _ q2) (fun e => e)).trans q2
              have u3 := (f3.cell (World.block_lt_of_cell? _ _ q3) (fun e => e)).trans q3
              have u4 := (f3.cell (World.block_lt_of_cell? _ _ q4) (fun e => e)).trans q4
              have u5 := (f3.cell (World.block_lt_of_cell? _ _ q5) (fun e => e)).trans q5
              have u6 := (f3.cell (World.block_lt_of_cell? _ _ q6) (fun e => e)).trans q6
              have u7 := (f3.cell (World.block_lt_of_cell? _ _ q7) (fun e => e)).trans q7
              have u8 := (f3.cell (World.block_lt_of_cell? _ _ q8) (fun e => e)).trans q8
              have u9 := (f3.cell (World.block_lt_of_cell? _ _ q9) (fun e => e)).trans q9
              have u10 := (f3.cell (World.block_lt_of_cell? _ _ q10) (fun e => e)).trans q10
              have u11 := (f3.cell (World.block_lt_of_cell? _ _ q11) (fun e => e)).trans q11
              have u12 := (f3.cell (World.block_lt_of_cell? _ _ q12) (fun e => e)).trans q12
              have u13 := (f3.cell (World.block_lt_of_cell? _ _ q13) (fun e => e)).trans q13
              have u14 := (f3.cell (World.block_lt_of_cell? _ _ q14) (fun e => e)).trans q14
              have u15 := (f3.cell (World.block_lt_of_cell? _ _ q15) (fun e => e)).trans q15
              have u16 := (f3.cell (World.block_lt_of_cell? _ _ q16) (fun e => e)).trans q16
              have u17 := (f3.cell (World.block_lt_of_cell? _ _ q17) (fun e => e)).trans q17
              have u18 := (f3.cell (World.block_lt_of_cell? _ _ q18) (fun e => e)).trans q18
              have u19 := (f3.cell (World.block_lt_of_cell? _ _ q19) (fun e => e)).trans q19
              go_wp2_with fail
              refine hK.out _ _ (by exact ⟨u0, u1, u2, u3, u4, u5, u6, u7, u8, u9, u10, u11, u12, u13, u14, u15, u16, u17, u18, u19⟩) (fun hHeld => ?_)
              clear hK K
              (try simp only [Act.put, List.setIfInBounds_toArray, List.set_cons_zero, List.set_cons_succ])
              refine wpAnyH_take (i := 11) (oi := ⟨some 37, _, _, _, _, none⟩) (v := ?v22) rfl (by kernel_rfl) (by kernel_rfl) (by kernel_rfl) (fun _ _ _ h => h) (Or.inl ⟨by rfl, ?hy22⟩) (by assumption) ?rest22
              case hy22 => (intro wS hSw; (try dsimp only at hSw); go_simp; (try with_reducible rfl))
              (try simp only [Act.put, List.setIfInBounds_toArray, List.set_cons_zero, List.set_cons_succ])
              refine wpAnyH_done (by kernel_rfl) ?_ _
              clear q0 u0 q1 u1 q2 u2 q3 u3 q4 u4 q5 u5 q6 u6 q7 u7 q8 u8 q9 u9 q10 u10 q11 u11 q12 u12 q13 u13 q14 u14 q15 u15 q16 u16 q17 u17 q18 u18 q19 u19
              go_wp2
              go_roundw
              case rel => exact ⟨k + 1, by omega, by go_num, HE2, Lib.hid (FR.out.drew.trans f3)⟩
              case measure => simp [intOf]; omega
          · have HE2 : Hid (r = true) := Lib.hid (HE.out.trans (HT.out.trans (sameL_end (by have := HL1.out; omega) (by have := HL2.out; omega))))
            clear HT
            go_wp2
            go_ret
            exact ⟨ret_boolE HE2.out.symm, F1.out.trans FR.out⟩
      · have hb : ((n : Int) != n2) = true := by rw [bne_iff_ne]; omega
        have HE2 : Hid (r = false) := Lib.hid (HE.out.trans (HS0.out (by have := HL1.out; have := HL2.out; omega)))
        clear hne HS0 HS1
        go_wp2
        go_ret
        exact ⟨ret_boolE HE2.out.symm, F1.out⟩
end Go.Proofs.YtipgaafgnefmdaaGreatDoor


namespace Go.Proofs.YtipgaafgnefmdaaGreatDoor
set_option linter.unusedVariables false
set_option linter.unusedSimpArgs false
set_option maxRecDepth 100000
open Go.RowKit

/-- the predicate lies in block b of a world that has come of w0 -/
structure Pin (w0 : World) (b : Nat) (h : Ph) (s : Kv) (ks : List Pd) (w : World) : Prop where
  fr : Fr Non w0 w
  blk : PdB w b h s
  kids : Kd w s ks
theorem Pin.non {w0 w w' : World} {b : Nat} {h : Ph} {s : Kv} {ks : List Pd} (e : Pin w0 b h s ks w) (hf : Fr Non w w') : Pin w0 b h s ks w' :=
  ⟨e.fr.trans hf, e.blk.fr hf (fun e => e), e.kids.non hf⟩
theorem Pin.cells {w0 w : World} {b : Nat} {h : Ph} {s : Kv} {ks : List Pd} (e : Pin w0 b h s ks w) : PBlk w b h s := pdB_cells e.blk
theorem pd_lay {w W : World} {h : Ph} {s : Kv} {ks : List Pd} (hf : Fr Non w W) (e : Kd W s ks) :
    Pin w W.heap.size h s ks (W.alloc (.cells (pdC h s) 28)) :=
  have hF : Fr Non W (W.alloc (.cells (pdC h s) 28)) := (Fr.refl Non W).alloc _
  ⟨hf.trans hF, pd_new W _ h s rfl, e.non hF⟩
theorem sameP_self (p : Pd) : sameP p p = true := (same_iff p p).2 rfl

set_option maxHeartbeats 4000000 in
theorem parseWhere_walk (s : Tx) (w : World) (hW : Lw w) :
    Calls Tryz.prog 4 #[.string ⟨s.toArray⟩] w fun e w' => e = .returned (.bool true) ∧ Below w.heap.size w w' := by
  have A1 := Lib.hid (pWhere_any s w hW)
  have A2 := Lib.hid (fun W (h : Fr Non w W) => tWhere_any s W)
  have HV := Lib.hid (fun W (h : Fr Non w W) => live19_any W (hW.non h))
  have HN := Lib.hid (fun n V => lnum19_any n V)
  have HE : Hid (∀ k k2 W, Kd W k (telP s).1.kids → Kd W k2 (telP s).1.kids → Calls Tryz.prog 13 #[pdV (telP s).1.hd k, pdV (telP s).1.hd k2] W fun e w' => e = .returned (.bool true) ∧ Fr Non W w') := Lib.hid (fun k k2 W h1 h2 => by
    have x := rpsame_any (telP s).1 (telP s).1 k k2 W h1 h2 (telP_len s)
    rw [sameP_self] at x
    exact x)
  clear hW
  unfold TelP at A1 A2
  by_cases h5 : 500 < s.length
  · have hb : decide ((500 : Int) < (s.length : Int)) = true := by simp; omega
    clear h5 A1 A2 HE HN
    go_enter Tryz.func4, Tryz.ntmps4
    go_wp2_with fail
    refine (HV.out _ (Fr.refl _ _)).mono ?_
    rintro e w9 ⟨rfl, f9⟩
    have HF := Lib.hid f9
    clear f9
    go_wp2
    go_ret
    exact ⟨rfl, HF.out.below⟩
  · have hb : decide ((500 : Int) < (s.length : Int)) = false := by simp; omega
    clear h5
    generalize (telP s).1 = q at *
    generalize (telP s).2.1 = n at *
    generalize (telP s).2.2 = er at *
    obtain ⟨⟨wo, wc, wm, ⟨wn, wi, wt⟩, wk, wp⟩, wks⟩ := q
    dsimp only [Pd.hd, Pd.kids] at A1 A2 HE
    go_enter Tryz.func4, Tryz.ntmps4
    go_wp2_with fail
    refine A1.out.mono ?_
    rintro e w1 ⟨k, rfl, hG, _, hF⟩
    obtain ⟨kA, kn, kc⟩ := k
    have Q1 := Lib.hid (pd_lay (h := ⟨wo, wc, wm, ⟨wn, wi, wt⟩, wk, wp⟩) hF hG.kd)
    clear hG hF A1
    unfold pdC kidV at Q1
    unfold pdV pdC kidV
    dsimp only [Pd.hd, Pd.kids] at Q1
    dsimp only [Pd.hd, Pd.kids]
    go_upto_region 4 with fail
    generalize w1.alloc (.cells #[.int .i64 wo, .string ⟨wc.toArray⟩, .int .i64 wm, .bool wn, .int .i64 wi, .string ⟨wt.toArray⟩, .int .i64 wk, .string ⟨wp.toArray⟩, .slice kA kn kc] 28) = W2 at *
    generalize w1.heap.size = b1 at *
    go_wp2_with fail
    refine (A2.out _ Q1.out.fr).mono ?_
    rintro e w2 ⟨k2, rfl, hG, _, hF⟩
    obtain ⟨kA2, kn2, kc2⟩ := k2
    have R2 := Lib.hid (pd_lay (h := ⟨wo, wc, wm, ⟨wn, wi, wt⟩, wk, wp⟩) hF hG.kd)
    have Q2 := Lib.hid ((Q1.out.non hF).non ((Fr.refl Non w2).alloc (.cells (pdC ⟨wo, wc, wm, ⟨wn, wi, wt⟩, wk, wp⟩ ⟨kA2, kn2, kc2⟩) 28)))
    have HS := Lib.hid (HE.out ⟨kA, kn, kc⟩ ⟨kA2, kn2, kc2⟩)
    clear hG hF A2 Q1 HE
    unfold pdC kidV at Q2 R2
    unfold pdV pdC kidV at HS
    unfold pdV pdC kidV
    dsimp only [Pd.hd, Pd.kids] at Q2 R2 HS
    dsimp only [Pd.hd, Pd.kids]
    go_upto_region 5 with fail
    generalize w2.alloc (.cells #[.int .i64 wo, .string ⟨wc.toArray⟩, .int .i64 wm, .bool wn, .int .i64 wi, .string ⟨wt.toArray⟩, .int .i64 wk, .string ⟨wp.toArray⟩, .slice kA2 kn2 kc2] 28) = W4 at *
    generalize w2.heap.size = b2 at *
    have Q4 := Q2
    have R4 := R2
    clear Q2 R2
    obtain ⟨g0, g1, g2, g3, g4, g5, g6, g7, g8⟩ := Q4.out.cells
    obtain ⟨k0, k1, k2, k3, k4, k5, k6, k7, k8⟩ := R4.out.cells
    dsimp only [Pd.hd, Pd.kids] at g0 g1 g2 g3 g4 g5 g6 g7 g8 k0 k1 k2 k3 k4 k5 k6 k7 k8
    go_wp2_with fail
    refine (HS.out _ Q4.out.kids R4.out.kids).mono ?_
    rintro e w5 ⟨rfl, f5⟩
    have Q5 := Lib.hid (Q4.out.non f5)
    have R5 := Lib.hid (R4.out.non f5)
    clear g0 g1 g2 g3 g4 g5 g6 g7 g8 k0 k1 k2 k3 k4 k5 k6 k7 k8
    obtain ⟨g0, g1, g2, g3, g4, g5, g6, g7, g8⟩ := Q5.out.cells
    obtain ⟨k0, k1, k2, k3, k4, k5, k6, k7, k8⟩ := R5.out.cells
    dsimp only [Pd.hd, Pd.kids] at g0 g1 g2 g3 g4 g5 g6 g7 g8 k0 k1 k2 k3 k4 k5 k6 k7 k8
    go_wp2_with fail
    refine (HN.out _ _).mono ?_
    rintro e w6 ⟨rfl, rfl⟩
    go_wp2_with fail
    refine (HV.out _ Q5.out.fr).mono ?_
    rintro e w7 ⟨rfl, f7⟩
    have HF := Lib.hid (Q5.out.fr.trans f7)
    clear f7
    go_wp2
    go_ret
    exact ⟨rfl, HF.out.below⟩
end Go.Proofs.YtipgaafgnefmdaaGreatDoor


namespace Go.Proofs.YtipgaafgnefmdaaGreatDoor
set_option linter.unusedVariables false
set_option linter.unusedSimpArgs false
set_option maxRecDepth 100000
open Go.ChangeShapes Go.WideShapes Go.ChangeAt Go.RowKit

/-- a call's contract, by what the row says and by what the world's shape says -/
theorem handed_shaped {H : Type} {enc : TypeId × Value → H} {a : Assume} {C : Checked} {os : Os} {f : FuncId} {fn : Func} {s : ChangeSpec} {conds : List PathCond} {apart fresh handsOn again : Bool} {X : World → Array Value → Prop}
    (hX : ∀ (w w' : World) (args : Array Value), w.heap = w'.heap → X w args → X w' args)
    (own : ownKnob C.prog.godebug = none) (started : os.Started) (noInit : C.prog.inits.idxOf? f = none) (hfn : C.prog.funcs[f]? = some fn)
    (witness : ∃ (w : World) (tape : Tape) (i : Input), w.os = os ∧ (w.forCall tape i).Shaped C.prog ∧ i.vars = [] ∧ Input.okWide C.prog (w.forCall tape i) .any w.heap.size f i ∧
      ((s.pre enc C.prog fn conds apart (w.forCall tape i).memory i.args ∧ X (w.forCall tape i).memory i.args) ∧ sizedMet enc C.prog fn (OpenSpec.ofChange s) apart (w.forCall tape i).memory i.args) ∧ a.holds C.prog (lone (Frame.enter C.prog f i.args .normal) [] (w.forCall tape i)))
    (contract : ∀ (W : World) (base : Nat) (args : Array Value) (ds gs : List (DataW H)) (before : List MemPlace),
      (∀ (j : Nat) t v, fn.params[j]? = some t → args[j]? = some v → Value.okWide C.prog W .any base t v) →
      DataW.Whole enc C.prog fn.params.toList s.vars apart W args.toList ds gs before → W.ShapedOpen C.prog → X W args →
      Calls C.prog f args W fun e W' => ∃ v, e = .returned v ∧ s.post enc C.prog fn apart fresh handsOn again W args v W') :
    ReturnsInHanded a C os f .any (fun w args => (s.pre enc C.prog fn conds apart w args ∧ X w args) ∧ sizedMet enc C.prog fn (OpenSpec.ofChange s) apart w args) (s.post enc C.prog fn apart fresh handsOn again) := by
  refine returnsInHanded_of_calls own started noInit witness ?_
  intro w tape i _ hsh _ hok hpre hholds
  obtain ⟨_, _, _, fn', hfn', _, _, _, _, hval⟩ := hok
  obtain rfl : fn' = fn := Option.some.inj (hfn'.symm.trans hfn)
  obtain ⟨⟨⟨ds, gs, before, hw, _⟩, hx⟩, _⟩ := hpre
  refine (contract (w.forCall tape i) w.heap.size i.args ds gs before hval (DataW.Whole.of_heap (w' := w.forCall tape i) (by rfl) hw) hsh (hX _ _ _ (by rfl) hx)).mono fun e W' ⟨v, he, hp⟩ => ?_
  subst he
  exact ChangeSpec.post_blind hp

end Go.Proofs.YtipgaafgnefmdaaGreatDoor


namespace Go.Proofs.YtipgaafgnefmdaaGreatDoor
set_option linter.unusedVariables false
set_option linter.unusedSimpArgs false
set_option maxRecDepth 100000
open Go.ChangeShapes Go.WideShapes Go.ChangeAt Go.RowKit

/-- the list of the rows of this layer -/
abbrev laid16 : List (String × DataW Unit) := [("math/bits.deBruijn32tab", Rows.laid_math_bits_deBruijn32tab), ("math/bits.deBruijn64tab", Rows.laid_math_bits_deBruijn64tab), ("internal/strconv.uint64pow10", Rows.laid_internal_strconv_uint64pow10), ("unicode/utf8.acceptRanges", Rows.laid_unicode_utf8_acceptRanges), ("strconv.ErrRange", Rows.laid_strconv_ErrRange), ("strconv.ErrSyntax", Rows.laid_strconv_ErrSyntax), ("firkin/word.marks", Rows.laid_firkin_word_marks), ("unicode/utf8.first", Rows.laid_unicode_utf8_first)]
theorem err_row (u : TypeId) (h : Tryz.prog.typeName? 3 u = some "*errors.errorString") : u = 170 :=
  typeName_ptr_named (nm := "errors.errorString") (by rw [show "*" ++ "errors.errorString" = "*errors.errorString" by decide]; kernel_rfl) (by kernel_rfl) (by decide) u (by rw [show "*" ++ "errors.errorString" = "*errors.errorString" by decide]; exact h)
theorem pow_data : (Rows.laid_internal_strconv_uint64pow10 : DataW Unit) = Lib.tabData .u64 Lib.pow10Tab := by kernel_rfl
def marksD : List (DataW Unit) := marksL.map fun l => .lit (.string l)
theorem marks_data : (Rows.laid_firkin_word_marks : DataW Unit) = .agg marksD := by kernel_rfl
theorem marks_in {W : World} {r : List (String × DataW Unit)} (h : laidMet Tryz.prog (("firkin/word.marks", Rows.laid_firkin_word_marks) :: r) W) : ∀ j (h : j < marksL.length), W.cell? ⟨0, j, none⟩ = some (.string ⟨marksL[j].toArray⟩) := by
  intro j hj
  rw [marks_data] at h
  obtain ⟨ps, ⟨g, t, cs, fuel, p, q, hg, ht, hv, hd, _, _⟩, _, _⟩ := h
  obtain rfl := Option.some.inj ((show Tryz.prog.globalNamed "firkin/word.marks" = some 0 by kernel_rfl).symm.trans hg)
  obtain rfl := Option.some.inj ((show (Tryz.prog.globals[0]?).map (·.type) = some 130 by kernel_rfl).symm.trans ht)
  obtain ⟨xs, m, _, ex, _, hl, hel⟩ := DataW.trod_array Tryz.underlying130 hd
  have c9 : Tryz.prog.cellsOf 9 = 1 := by kernel_rfl
  have hj10 : j < 10 := hj
  have hE := hel j hj10
  rw [c9, Nat.mul_one, List.getElem?_eq_getElem (by omega)] at hE
  obtain ⟨s, e1, e2, _⟩ := DataW.trod_string Tryz.underlying9 hE
  have e3 : (xs.map (·.1)) = marksD := (DataW.agg.inj (Prod.mk.inj ex).1).symm
  have e4 : (xs.map (·.1))[j]? = marksD[j]? := by rw [e3]
  unfold marksD at e4
  obtain ⟨m', hm⟩ : ∃ m', marksL[j]? = some m' := ⟨_, List.getElem?_eq_getElem hj⟩
  rw [List.getElem?_map, List.getElem?_map, List.getElem?_eq_getElem (by omega : j < xs.length), hm, e2] at e4
  have hs : s.data.toList = m' := by simpa using e4
  rw [World.var?_cell hg hv j, (List.getElem?_eq_some_iff.1 hm).2, ← hs]
  have : cs.toList[j]? = some (.string s) := by
    have h0 : ((cs.toList.drop j).take 1)[0]? = some (.string s) := by rw [e1]; rfl
    simpa using h0
  simpa using this
theorem lw_in {W : World} (h : laidMetH Tryz.prog laid16 W) (hs : W.ShapedOpen Tryz.prog) : Lw W := by
  rw [MakeChecks.laidMetH_plain _ _ _ (by kernel_rfl)] at h
  have h2 := h.tail.tail
  have h5 := h2.tail.tail
  have h7 := h5.tail.tail
  refine ⟨marks_in h7, cell_of_shapedOpen_int hs (by decide +kernel) (t := 3) (zero := #[.int .i64 0]) (by kernel_rfl) rfl (by kernel_rfl) (by kernel_rfl) Tryz.underlying3, ?_, ?_, ?_⟩
  · exact Lib.tabIs_of_head (n := 20) (show Tryz.prog.globalNamed "internal/strconv.uint64pow10" = some 3 by kernel_rfl)
      (show (Tryz.prog.globals[3]?).map (·.type) = some 175 by kernel_rfl) Tryz.underlying175 Tryz.underlying120 (by kernel_rfl) (by kernel_rfl) (by rw [pow_data] at h2; exact h2)
  · obtain ⟨a, s, hv, _⟩ := laid_sentinel h5.tail (show Tryz.prog.globalNamed "strconv.ErrSyntax" = some 1 by kernel_rfl) (show (Tryz.prog.globals[1]?).map (·.type) = some 126 by kernel_rfl) Tryz.underlying126 err_row Tryz.underlying170 Tryz.underlying172 rfl rfl Tryz.underlying9 (by kernel_rfl) (by kernel_rfl)
    exact ⟨_, _, hv⟩
  · obtain ⟨a, s, hv, _⟩ := laid_sentinel h5 (show Tryz.prog.globalNamed "strconv.ErrRange" = some 2 by kernel_rfl) (show (Tryz.prog.globals[2]?).map (·.type) = some 126 by kernel_rfl) Tryz.underlying126 err_row Tryz.underlying170 Tryz.underlying172 rfl rfl Tryz.underlying9 (by kernel_rfl) (by kernel_rfl)
    exact ⟨_, _, hv⟩

/-! ### A world in which they lie so -/
theorem laid16_shaped (os : Os) : (World.laidAll Tryz.prog os laid16).Shaped Tryz.prog := World.shaped_of_ZipB (by kernel_rfl) (by kernel_rfl)
theorem laid16_met (os : Os) (args : Array Value) : laidMetH Tryz.prog laid16 ((World.laidAll Tryz.prog os laid16).forCall (fun _ _ => 0) ⟨#[], args, []⟩).memory := by
  rw [MakeChecks.laidMetH_plain _ _ _ (by kernel_rfl)]
  exact laidMet_laidAll _ (by kernel_rfl) (by kernel_rfl)
end Go.Proofs.YtipgaafgnefmdaaGreatDoor
