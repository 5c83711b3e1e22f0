/-
  Joined: Grp2, W6
-/
import Derived.Lib.Zigzag
import Derived.Deep.QuietTactic
import Derived.BigQuiet
import Derived.Deep.RegionHeld3
import Derived.Deep.DrawnRows
import Derived.Shelf.Strings.Replace
import Derived.Shelf.Strconv.Itoa4
import Derived.Shelf.Strings.OnBuilder
import Derived.Test.YtjcfjjhhbcgcmaaGreatProg
import Derived.Lib.SmallJoins
import Derived.Lib.AppendIntMem
import Derived.Laws.StructEq
import Derived.Laws.Rows
import Derived.Laws.ResultCell
import Derived.Deep.RegionWith
import Derived.Test.YtjcfjjhhbcgcmaaGreatZ2
import Derived.Test.YtjcfjjhhbcgcmaaGreatZ1
set_option linter.unusedVariables false
set_option linter.unusedSimpArgs false
set_option maxRecDepth 100000
namespace Go.Proofs.YtjcfjjhhbcgcmaaGreat
open Go.RowKit
theorem cl_newQ (w : World) (c : Cl) (g : Nat) (hg : w.heap.size = g) : ClB (w.alloc (.cells #[.bool c.null, .int .i64 c.num, .string ⟨c.txt.toArray⟩] 25)) g c := by subst hg; exact cl_new _ _
theorem cs_lit1 {w : World} {g : Nat} {c : Cl} (h : ClB w g c) : Cs w (.slice (some ⟨g, 0, none⟩) 1 1) [c] := by
  refine ⟨some ⟨g, 0, none⟩, 1, rfl, Nat.le_refl _, (fun e => by cases e), fun a ha i hi => ?_⟩
  cases ha
  obtain rfl : i = 0 := by simpa using hi
  obtain ⟨e0, e1, e2, -⟩ := h.facts
  exact ⟨e0, e1, e2⟩
set_option maxHeartbeats 8000000 in
theorem dkeys_any (v : Value) (p : Nat) (rows : List (List Cl)) (w : World) (hv : Rs w v rows) (hrl : rows.length ≤ 100000) (hr : ∀ r ∈ rows, p < r.length) (hpl : p ≤ 1000000) :
    Calls Tryz.prog 31 #[v, .int .i64 p] w fun e w' => ∃ u, e = .returned u ∧ Oc w' w.heap.size u (keysC (colC rows p)) ∧ Fr Non w w' := by
  obtain ⟨A0, c0, rfl⟩ := hv.shape
  have HR := Lib.hid hv
  have HRl := Lib.hid hr
  clear hv hr
  obtain ⟨g, hg⟩ : ∃ g, w.heap.size = g := ⟨_, rfl⟩
  have HG := Lib.hid hg
  have HO0 : Hid (Oc (w.alloc (.cells #[] 25)) g (.slice (some ⟨g, 0, none⟩) 0 0) []) := Lib.hid (oc_lit0 w g g hg.symm (Nat.le_refl _))
  have F0 := Lib.hid ((Fr.refl Non w).alloc (.cells #[] 25))
  go_enter Tryz.func31, Tryz.ntmps31
  rw [hg]
  go_wp2
  clear hg
  go_loopw [5, 6] (fun x i wr => ∃ (i' : Nat), i' ≤ rows.length ∧ i = .int .i64 i' ∧ Oc wr g x (keysC ((colC rows p).take i')) ∧ Hid (Fr Non w wr)) (fun _ i _ => rows.length - (intOf i).toNat)
  case atStart => exact ⟨0, Nat.zero_le _, rfl, HO0.out, F0⟩
  case round =>
    clear HO0 F0
    obtain ⟨i, hi, rfl, hO, FR⟩ := hrel
    have HO := Lib.hid hO
    clear hO
    by_cases hlt : i < rows.length
    · have hpk : p < rows[i].length := HRl.out _ (List.getElem_mem hlt)
      obtain ⟨a0, A', c', hA', -, hc1, hc2⟩ := (HR.out.non FR.out).el i hlt
      subst hA'
      have HM : Hid (keysC ((colC rows p).take (i + 1)) = insK rows[i][p] (keysC ((colC rows p).take i))) := Lib.hid (by
        have hl : i < (colC rows p).length := by rw [colC_length]; exact hlt
        rw [keys_more hl]
        have := colC_at rows p i hlt hpk
        rw [List.getElem?_eq_getElem hl] at this
        rw [Option.some.inj this])
      have HKl : Hid ((keysC ((colC rows p).take i)).length ≤ 100000) := Lib.hid (by
        have := keys_len ((colC rows p).take i)
        rw [List.length_take, colC_length] at this
        omega)
      generalize keysC ((colC rows p).take i) = ks at *
      generalize rows[i] = r at *
      obtain ⟨a3, rfl, -, -, hel⟩ := hc2.addr (show 0 < r.length by omega)
      obtain ⟨q0, q1, q2⟩ := (hel p hpk).lit
      clear hel hc2
      generalize r[p] = x at *
      obtain ⟨cn, ci, ct⟩ := x
      dsimp only at q0 q1 q2
      obtain ⟨C, hC⟩ : ∃ C, wr.heap.size = C := ⟨_, rfl⟩
      have CB0 : Hid (ClB (wr.alloc (.cells #[.bool cn, .int .i64 ci, .string ⟨ct.toArray⟩] 25)) C ⟨cn, ci, ct⟩) := Lib.hid (cl_newQ wr ⟨cn, ci, ct⟩ C hC)
      have HO1 := Lib.hid (HO.out.alloc (.cells #[.bool cn, .int .i64 ci, .string ⟨ct.toArray⟩] 25))
      have F1 := Lib.hid (FR.out.alloc (.cells #[.bool cn, .int .i64 ci, .string ⟨ct.toArray⟩] 25))
      have HCg : Hid (g ≤ C) := Lib.hid (by have := FR.out.size; have := HG.out; omega)
      clear HO FR
      have hkl := HKl.out
      obtain ⟨Ak, ck, hkv⟩ := HO1.out.shape
      subst hkv
      have hck : ks.length ≤ ck := by
        obtain ⟨_, _, he, h, _⟩ := HO1.out.cs
        simp only [Value.slice.injEq] at he
        omega
      go_wp2
      clear q0 q1 q2 hC hc1
      go_loopw [8] (fun k wx => ∃ (j : Nat), j ≤ ks.length ∧ k = .int .i64 j ∧ Hid (∀ m (h : m < ks.length), m < j → ordC ks[m] ⟨cn, ci, ct⟩ < 0) ∧ Hid (ClB wx C ⟨cn, ci, ct⟩) ∧ Hid (Oc wx g (.slice Ak ks.length ck) ks) ∧ Hid (Fr Non w wx)) (fun k _ => ks.length - (intOf k).toNat)
      case atStart => exact ⟨0, Nat.zero_le _, rfl, Lib.hid (fun m _ h => by omega), CB0, HO1, F1⟩
      case round =>
        clear CB0 HO1 F1
        obtain ⟨j, hj, rfl, HLt, CB, HO, FX0⟩ := hrel
        rename World => wx
        obtain ⟨d0, d1, d2, -⟩ := CB.out.facts
        dsimp only at d0 d1 d2
        by_cases hjl : j < ks.length
        · obtain ⟨a, ha, -, -, hel⟩ := HO.out.cs.addr (show 0 < ks.length by omega)
          obtain ⟨e0, e1, e2⟩ := (hel j hjl).lit
          have HO2 := Lib.hid (fun W => rorder_any ks[j] ⟨cn, ci, ct⟩ W)
          subst ha
          clear hel
          obtain ⟨y, hy⟩ : ∃ y, ks[j] = y := ⟨_, rfl⟩
          obtain ⟨o, ho⟩ : ∃ o, ordC y ⟨cn, ci, ct⟩ = o := ⟨_, rfl⟩
          rw [hy] at e0 e1 e2 HO2
          rw [ho] at HO2
          replace hy := Lib.hid hy
          replace ho := Lib.hid ho
          obtain ⟨kn, ki, kt⟩ := y
          unfold clV clC at HO2
          dsimp only at HO2 e0 e1 e2
          by_cases hlo : o < 0
          · have hd : decide (o < 0) = true := decide_eq_true hlo
            go_wp2
            obtain ⟨V, hV⟩ : ∃ V, V = wx.drew := ⟨_, rfl⟩
            refine wp_region_held_drew (S := (fun W' => W'.cell? ⟨C, 0, none⟩ = some (.bool cn) ∧ W'.cell? ⟨C, 1, none⟩ = some (.int .i64 ci) ∧ W'.cell? ⟨C, 2, none⟩ = some (.string ⟨ct.toArray⟩) ∧ W'.cell? (a.add (j * 3)) = some (.bool kn) ∧ W'.cell? { block := (a.add (j * 3)).block, off := (a.add (j * 3)).off + 1 } = some (.int .i64 ki) ∧ W'.cell? { block := (a.add (j * 3)).block, off := (a.add (j * 3)).off + 2 } = some (.string ⟨kt.toArray⟩))) (by kernel_rfl) (by exact ⟨d0, d1, d2, e0, e1, e2⟩) (fun hHeld => ?_)
            rw [← hV]
            rw [← hV] at hHeld
            have FV : Fr Non wx V := by rw [hV]; exact (Fr.refl Non _).drew
            clear hV
            replace d0 := FV.at0 d0
            replace d1 := FV.at0 d1
            replace d2 := FV.at0 d2
            replace e0 := FV.at0 e0
            replace e1 := FV.at0 e1
            replace e2 := FV.at0 e2
            refine wpAnyH_take (i := 0) (oi := ⟨some 23, _, _, _, _, none⟩) (v := ?v1) rfl (by kernel_rfl) (by kernel_rfl) (by kernel_rfl) (fun _ _ _ h => h) (Or.inl ⟨by rfl, ?hy1⟩) (by assumption) ?rest1
            case hy1 => (intro wS hSw; (try dsimp only at hSw); go_simp; (try with_reducible rfl))
            (try simp only [Act.put, zA, zB, zC])
            refine wpAnyH_take (i := 1) (oi := ⟨some 24, _, _, _, _, none⟩) (v := ?v2) rfl (by kernel_rfl) (by kernel_rfl) (by kernel_rfl) (fun _ _ _ h => h) (Or.inl ⟨by rfl, ?hy2⟩) (by assumption) ?rest2
            case hy2 => (intro wS hSw; (try dsimp only at hSw); go_simp; (try with_reducible rfl))
            (try simp only [Act.put, zA, zB, zC])
            refine wpAnyH_take (i := 2) (oi := ⟨some 25, _, _, _, _, none⟩) (v := ?v3) rfl (by kernel_rfl) (by kernel_rfl) (by kernel_rfl) (fun _ _ _ h => h) (Or.inl ⟨by rfl, ?hy3⟩) (by assumption) ?rest3
            case hy3 => (intro wS hSw; (try dsimp only at hSw); go_simp; (try with_reducible rfl))
            (try simp only [Act.put, zA, zB, zC])
            refine wpAnyH_take (i := 3) (oi := ⟨some 26, _, _, _, _, none⟩) (v := ?v4) rfl (by kernel_rfl) (by kernel_rfl) (by kernel_rfl) (fun _ _ _ h => h) (Or.inl ⟨by rfl, ?hy4⟩) (by assumption) ?rest4
            case hy4 => (intro wS hSw; (try dsimp only at hSw); go_simp; (try with_reducible rfl))
            (try simp only [Act.put, zA, zB, zC])
            refine wpAnyH_take (i := 4) (oi := ⟨some 27, _, _, _, _, none⟩) (v := ?v5) rfl (by kernel_rfl) (by kernel_rfl) (by kernel_rfl) (fun _ _ _ h => h) (Or.inl ⟨by rfl, ?hy5⟩) (by assumption) ?rest5
            case hy5 => (intro wS hSw; (try dsimp only at hSw); go_simp; (try with_reducible rfl))
            (try simp only [Act.put, zA, zB, zC])
            refine wpAnyH_take (i := 5) (oi := ⟨some 28, _, _, _, _, some (4, true)⟩) (v := ?v6) rfl (by kernel_rfl) (by kernel_rfl) (by kernel_rfl) (fun _ _ _ h => h) (Or.inl ⟨by rfl, ?hy6⟩) (by assumption) ?rest6
            case hy6 => (intro wS hSw; (try dsimp only at hSw); go_simp; (try with_reducible rfl))
            (try simp only [Act.put, zA, zB, zC])
            refine wpAnyH_take (i := 6) (oi := ⟨some 29, _, _, _, _, some (4, true)⟩) (v := ?v7) rfl (by kernel_rfl) (by kernel_rfl) (by kernel_rfl) (fun _ _ _ h => h) (Or.inl ⟨by rfl, ?hy7⟩) (by assumption) ?rest7
            case hy7 => (intro wS hSw; (try dsimp only at hSw); go_simp; (try with_reducible rfl))
            (try simp only [Act.put, zA, zB, zC])
            refine wpAnyH_take (i := 7) (oi := ⟨some 30, _, _, _, _, some (4, true)⟩) (v := ?v8) rfl (by kernel_rfl) (by kernel_rfl) (by kernel_rfl) (fun _ _ _ h => h) (Or.inl ⟨by rfl, ?hy8⟩) (by assumption) ?rest8
            case hy8 => (intro wS hSw; (try dsimp only at hSw); go_simp; (try with_reducible rfl))
            (try simp only [Act.put, zA, zB, zC])
            refine wpAnyH_take (i := 8) (oi := ⟨some 31, _, _, _, _, some (4, true)⟩) (v := ?v9) rfl (by kernel_rfl) (by kernel_rfl) (by kernel_rfl) (fun _ _ _ h => h) (Or.inl ⟨by rfl, ?hy9⟩) (by assumption) ?rest9
            case hy9 => (intro wS hSw; (try dsimp only at hSw); go_simp; (try with_reducible rfl))
            (try simp only [Act.put, zA, zB, zC])
            refine wpAnyH_take (i := 9) (oi := ⟨some 32, _, _, _, _, some (4, true)⟩) (v := ?v10) rfl (by kernel_rfl) (by kernel_rfl) (by kernel_rfl) (fun _ _ _ h => h) (Or.inl ⟨by rfl, ?hy10⟩) (by assumption) ?rest10
            case hy10 => (intro wS hSw; (try dsimp only at hSw); go_simp; (try with_reducible rfl))
            (try simp only [Act.put, zA, zB, zC])
            refine wpAnyH_ready (rs := [10]) (by kernel_rfl) (by simp) ?_
            refine AllReadyH.cons (o := ⟨some 33, _, _, _, _, some (4, true)⟩) rfl (fun K hK => ?_) AllReadyH.nil
            go_simp
            go_at_call 17
            refine (HO2.out _).mono ?_
            rintro e w4 ⟨rfl, f4⟩
            go_wp2_with fail
            refine hK.out _ _ (by exact ⟨f4.at0 d0, f4.at0 d1, f4.at0 d2, f4.at0 e0, f4.at0 e1, f4.at0 e2⟩) (fun hHeld => ?_)
            clear hK K
            (try simp only [Act.put, zA, zB, zC])
            refine wpAnyH_take (i := 11) (oi := ⟨some 34, _, _, _, _, some (4, true)⟩) (v := ?v11) rfl (by kernel_rfl) (by kernel_rfl) (by kernel_rfl) (fun _ _ _ h => h) (Or.inl ⟨by rfl, ?hy11⟩) (by assumption) ?rest11
            case hy11 => (intro wS hSw; (try dsimp only at hSw); go_simp; (try with_reducible rfl))
            (try simp only [Act.put, zA, zB, zC])
            refine wpAnyH_take (i := 12) (oi := ⟨some 35, _, _, _, _, none⟩) (v := ?v12) rfl (by kernel_rfl) (by kernel_rfl) (by kernel_rfl) (fun _ _ _ h => h) (Or.inl ⟨by rfl, ?hy12⟩) (by assumption) ?rest12
            case hy12 => (intro wS hSw; (try dsimp only at hSw); go_simp; (try with_reducible rfl))
            (try simp only [Act.put, zA, zB, zC])
            refine wpAnyH_done (by kernel_rfl) ?_ _
            clear hHeld
            have FF := Lib.hid ((FX0.out.trans FV).trans f4)
            have CB4 : Hid (ClB w4 C ⟨cn, ci, ct⟩) := Lib.hid ((CB.out.fr FV (fun e => e)).fr f4 (fun e => e))
            have HO4 := Lib.hid ((HO.out.non FV).non f4)
            have HLt2 : Hid (∀ m (h : m < ks.length), m < j + 1 → ordC ks[m] ⟨cn, ci, ct⟩ < 0) := Lib.hid (fun m h hm => by
              by_cases e : m = j
              · subst e; rw [hy.out, ho.out]; exact hlo
              · exact HLt.out m h (by omega))
            clear d0 d1 d2 e0 e1 e2 FV f4 CB HO FX0 HLt HO2 hy ho
            go_wp2
            go_roundw
            case rel => exact ⟨j + 1, by omega, by go_num, HLt2, CB4, HO4, FF⟩
            case measure => simp [intOf]; omega
          · have hd : decide (o < 0) = false := decide_eq_false hlo
            go_wp2
            obtain ⟨V, hV⟩ : ∃ V, V = wx.drew := ⟨_, rfl⟩
            refine wp_region_held_drew (S := (fun W' => W'.cell? ⟨C, 0, none⟩ = some (.bool cn) ∧ W'.cell? ⟨C, 1, none⟩ = some (.int .i64 ci) ∧ W'.cell? ⟨C, 2, none⟩ = some (.string ⟨ct.toArray⟩) ∧ W'.cell? (a.add (j * 3)) = some (.bool kn) ∧ W'.cell? { block := (a.add (j * 3)).block, off := (a.add (j * 3)).off + 1 } = some (.int .i64 ki) ∧ W'.cell? { block := (a.add (j * 3)).block, off := (a.add (j * 3)).off + 2 } = some (.string ⟨kt.toArray⟩))) (by kernel_rfl) (by exact ⟨d0, d1, d2, e0, e1, e2⟩) (fun hHeld => ?_)
            rw [← hV]
            rw [← hV] at hHeld
            have FV : Fr Non wx V := by rw [hV]; exact (Fr.refl Non _).drew
            clear hV
            replace d0 := FV.at0 d0
            replace d1 := FV.at0 d1
            replace d2 := FV.at0 d2
            replace e0 := FV.at0 e0
            replace e1 := FV.at0 e1
            replace e2 := FV.at0 e2
            refine wpAnyH_take (i := 0) (oi := ⟨some 23, _, _, _, _, none⟩) (v := ?v69) rfl (by kernel_rfl) (by kernel_rfl) (by kernel_rfl) (fun _ _ _ h => h) (Or.inl ⟨by rfl, ?hy69⟩) (by assumption) ?rest69
            case hy69 => (intro wS hSw; (try dsimp only at hSw); go_simp; (try with_reducible rfl))
            (try simp only [Act.put, zA, zB, zC])
            refine wpAnyH_take (i := 1) (oi := ⟨some 24, _, _, _, _, none⟩) (v := ?v70) rfl (by kernel_rfl) (by kernel_rfl) (by kernel_rfl) (fun _ _ _ h => h) (Or.inl ⟨by rfl, ?hy70⟩) (by assumption) ?rest70
            case hy70 => (intro wS hSw; (try dsimp only at hSw); go_simp; (try with_reducible rfl))
            (try simp only [Act.put, zA, zB, zC])
            refine wpAnyH_take (i := 2) (oi := ⟨some 25, _, _, _, _, none⟩) (v := ?v71) rfl (by kernel_rfl) (by kernel_rfl) (by kernel_rfl) (fun _ _ _ h => h) (Or.inl ⟨by rfl, ?hy71⟩) (by assumption) ?rest71
            case hy71 => (intro wS hSw; (try dsimp only at hSw); go_simp; (try with_reducible rfl))
            (try simp only [Act.put, zA, zB, zC])
            refine wpAnyH_take (i := 3) (oi := ⟨some 26, _, _, _, _, none⟩) (v := ?v72) rfl (by kernel_rfl) (by kernel_rfl) (by kernel_rfl) (fun _ _ _ h => h) (Or.inl ⟨by rfl, ?hy72⟩) (by assumption) ?rest72
            case hy72 => (intro wS hSw; (try dsimp only at hSw); go_simp; (try with_reducible rfl))
            (try simp only [Act.put, zA, zB, zC])
            refine wpAnyH_take (i := 4) (oi := ⟨some 27, _, _, _, _, none⟩) (v := ?v73) rfl (by kernel_rfl) (by kernel_rfl) (by kernel_rfl) (fun _ _ _ h => h) (Or.inl ⟨by rfl, ?hy73⟩) (by assumption) ?rest73
            case hy73 => (intro wS hSw; (try dsimp only at hSw); go_simp; (try with_reducible rfl))
            (try simp only [Act.put, zA, zB, zC])
            refine wpAnyH_take (i := 5) (oi := ⟨some 28, _, _, _, _, some (4, true)⟩) (v := ?v74) rfl (by kernel_rfl) (by kernel_rfl) (by kernel_rfl) (fun _ _ _ h => h) (Or.inl ⟨by rfl, ?hy74⟩) (by assumption) ?rest74
            case hy74 => (intro wS hSw; (try dsimp only at hSw); go_simp; (try with_reducible rfl))
            (try simp only [Act.put, zA, zB, zC])
            refine wpAnyH_take (i := 6) (oi := ⟨some 29, _, _, _, _, some (4, true)⟩) (v := ?v75) rfl (by kernel_rfl) (by kernel_rfl) (by kernel_rfl) (fun _ _ _ h => h) (Or.inl ⟨by rfl, ?hy75⟩) (by assumption) ?rest75
            case hy75 => (intro wS hSw; (try dsimp only at hSw); go_simp; (try with_reducible rfl))
            (try simp only [Act.put, zA, zB, zC])
            refine wpAnyH_take (i := 7) (oi := ⟨some 30, _, _, _, _, some (4, true)⟩) (v := ?v76) rfl (by kernel_rfl) (by kernel_rfl) (by kernel_rfl) (fun _ _ _ h => h) (Or.inl ⟨by rfl, ?hy76⟩) (by assumption) ?rest76
            case hy76 => (intro wS hSw; (try dsimp only at hSw); go_simp; (try with_reducible rfl))
            (try simp only [Act.put, zA, zB, zC])
            refine wpAnyH_take (i := 8) (oi := ⟨some 31, _, _, _, _, some (4, true)⟩) (v := ?v77) rfl (by kernel_rfl) (by kernel_rfl) (by kernel_rfl) (fun _ _ _ h => h) (Or.inl ⟨by rfl, ?hy77⟩) (by assumption) ?rest77
            case hy77 => (intro wS hSw; (try dsimp only at hSw); go_simp; (try with_reducible rfl))
            (try simp only [Act.put, zA, zB, zC])
            refine wpAnyH_take (i := 9) (oi := ⟨some 32, _, _, _, _, some (4, true)⟩) (v := ?v78) rfl (by kernel_rfl) (by kernel_rfl) (by kernel_rfl) (fun _ _ _ h => h) (Or.inl ⟨by rfl, ?hy78⟩) (by assumption) ?rest78
            case hy78 => (intro wS hSw; (try dsimp only at hSw); go_simp; (try with_reducible rfl))
            (try simp only [Act.put, zA, zB, zC])
            refine wpAnyH_ready (rs := [10]) (by kernel_rfl) (by simp) ?_
            refine AllReadyH.cons (o := ⟨some 33, _, _, _, _, some (4, true)⟩) rfl (fun K hK => ?_) AllReadyH.nil
            go_simp
            go_at_call 17
            refine (HO2.out _).mono ?_
            rintro e w4 ⟨rfl, f4⟩
            go_wp2_with fail
            refine hK.out _ _ (by exact ⟨f4.at0 d0, f4.at0 d1, f4.at0 d2, f4.at0 e0, f4.at0 e1, f4.at0 e2⟩) (fun hHeld => ?_)
            clear hK K
            (try simp only [Act.put, zA, zB, zC])
            refine wpAnyH_take (i := 11) (oi := ⟨some 34, _, _, _, _, some (4, true)⟩) (v := ?v79) rfl (by kernel_rfl) (by kernel_rfl) (by kernel_rfl) (fun _ _ _ h => h) (Or.inl ⟨by rfl, ?hy79⟩) (by assumption) ?rest79
            case hy79 => (intro wS hSw; (try dsimp only at hSw); go_simp; (try with_reducible rfl))
            (try simp only [Act.put, zA, zB, zC])
            refine wpAnyH_take (i := 12) (oi := ⟨some 35, _, _, _, _, none⟩) (v := ?v80) rfl (by kernel_rfl) (by kernel_rfl) (by kernel_rfl) (fun _ _ _ h => h) (Or.inl ⟨by rfl, ?hy80⟩) (by assumption) ?rest80
            case hy80 => (intro wS hSw; (try dsimp only at hSw); go_simp; (try with_reducible rfl))
            (try simp only [Act.put, zA, zB, zC])
            refine wpAnyH_done (by kernel_rfl) ?_ _
            clear hHeld
            have FF := Lib.hid ((FX0.out.trans FV).trans f4)
            have CB4 : Hid (ClB w4 C ⟨cn, ci, ct⟩) := Lib.hid ((CB.out.fr FV (fun e => e)).fr f4 (fun e => e))
            have HO4 := Lib.hid ((HO.out.non FV).non f4)
            clear d0 d1 d2 e0 e1 e2
            obtain ⟨d0, d1, d2, -⟩ := CB4.out.facts
            obtain ⟨a', ha', -, -, hel⟩ := HO4.out.cs.addr (show 0 < ks.length by omega)
            obtain ⟨e0, e1, e2⟩ := (hel j hjl).lit
            obtain rfl := Option.some.inj ha'
            rw [hy.out] at e0 e1 e2
            dsimp only at d0 d1 d2 e0 e1 e2
            clear hel ha' FV f4 CB HO FX0 HO2
            have FX0 := FF
            have CB := CB4
            have HO := HO4
            clear FF CB4 HO4
            have hd5 : ((j : Int) == (ks.length : Int)) = false := by rw [beq_eq_false_iff_ne]; omega
            generalize w4 = wx4 at *
            clear wx
            rename World => wx
            by_cases hsm : (⟨kn, ki, kt⟩ : Cl) = ⟨cn, ci, ct⟩
            · have hq : ∀ W, (binOp .neq 25 (.agg #[.bool kn, .int .i64 ki, .string ⟨kt.toArray⟩]) (.agg #[.bool cn, .int .i64 ci, .string ⟨ct.toArray⟩])).run Tryz.prog W = .ok (.bool false) W := fun W => by
                have := run_neq_cl W ⟨kn, ki, kt⟩ ⟨cn, ci, ct⟩
                rw [show ceq (⟨kn, ki, kt⟩ : Cl) ⟨cn, ci, ct⟩ = true from by rw [hsm]; exact ceq_self _] at this; exact this
              have HI := Lib.hid (insK_there HLt.out hjl (hy.out.trans hsm))
              clear hsm hy ho HLt
              go_wp2
              obtain ⟨V9, hV9⟩ : ∃ V, V = wx.drew := ⟨_, rfl⟩
              refine wp_region_held_drew (S := (fun W' => W'.cell? ⟨C, 0, none⟩ = some (.bool cn) ∧ W'.cell? ⟨C, 1, none⟩ = some (.int .i64 ci) ∧ W'.cell? ⟨C, 2, none⟩ = some (.string ⟨ct.toArray⟩) ∧ W'.cell? (a.add (j * 3)) = some (.bool kn) ∧ W'.cell? { block := (a.add (j * 3)).block, off := (a.add (j * 3)).off + 1 } = some (.int .i64 ki) ∧ W'.cell? { block := (a.add (j * 3)).block, off := (a.add (j * 3)).off + 2 } = some (.string ⟨kt.toArray⟩))) (by kernel_rfl) (by exact ⟨d0, d1, d2, e0, e1, e2⟩) (fun hHeld => ?_)
              rw [← hV9]
              rw [← hV9] at hHeld
              have FV9 : Fr Non wx V9 := by rw [hV9]; exact (Fr.refl Non _).drew
              clear hV9
              replace d0 := FV9.at0 d0
              replace d1 := FV9.at0 d1
              replace d2 := FV9.at0 d2
              replace e0 := FV9.at0 e0
              replace e1 := FV9.at0 e1
              replace e2 := FV9.at0 e2
              refine wpAnyH_take (i := 0) (oi := ⟨some 38, _, _, _, _, none⟩) (v := ?v13) rfl (by kernel_rfl) (by kernel_rfl) (by kernel_rfl) (fun _ _ _ h => h) (Or.inl ⟨by rfl, ?hy13⟩) (by assumption) ?rest13
              case hy13 => (intro wS hSw; (try dsimp only at hSw); go_simp; (try with_reducible rfl))
              (try simp only [Act.put, zA, zB, zC])
              refine wpAnyH_take (i := 1) (oi := ⟨some 39, _, _, _, _, none⟩) (v := ?v14) rfl (by kernel_rfl) (by kernel_rfl) (by kernel_rfl) (fun _ _ _ h => h) (Or.inl ⟨by rfl, ?hy14⟩) (by assumption) ?rest14
              case hy14 => (intro wS hSw; (try dsimp only at hSw); go_simp; (try with_reducible rfl))
              (try simp only [Act.put, zA, zB, zC])
              refine wpAnyH_take (i := 2) (oi := ⟨some 40, _, _, _, _, none⟩) (v := ?v15) rfl (by kernel_rfl) (by kernel_rfl) (by kernel_rfl) (fun _ _ _ h => h) (Or.inl ⟨by rfl, ?hy15⟩) (by assumption) ?rest15
              case hy15 => (intro wS hSw; (try dsimp only at hSw); go_simp; (try with_reducible rfl))
              (try simp only [Act.put, zA, zB, zC])
              refine wpAnyH_take (i := 3) (oi := ⟨some 41, _, _, _, _, none⟩) (v := ?v16) rfl (by kernel_rfl) (by kernel_rfl) (by kernel_rfl) (fun _ _ _ h => h) (Or.inl ⟨by rfl, ?hy16⟩) (by assumption) ?rest16
              case hy16 => (intro wS hSw; (try dsimp only at hSw); go_simp; (try with_reducible rfl))
              (try simp only [Act.put, zA, zB, zC])
              refine wpAnyH_take (i := 4) (oi := ⟨some 42, _, _, _, _, none⟩) (v := ?v17) rfl (by kernel_rfl) (by kernel_rfl) (by kernel_rfl) (fun _ _ _ h => h) (Or.inl ⟨by rfl, ?hy17⟩) (by assumption) ?rest17
              case hy17 => (intro wS hSw; (try dsimp only at hSw); go_simp; (try with_reducible rfl))
              (try simp only [Act.put, zA, zB, zC])
              refine wpAnyH_take (i := 5) (oi := ⟨some 43, _, _, _, _, some (4, false)⟩) (v := ?v18) rfl (by kernel_rfl) (by kernel_rfl) (by kernel_rfl) (fun _ _ _ h => h) (Or.inl ⟨by rfl, ?hy18⟩) (by assumption) ?rest18
              case hy18 => (intro wS hSw; (try dsimp only at hSw); go_simp; (try with_reducible rfl))
              (try simp only [Act.put, zA, zB, zC])
              refine wpAnyH_take (i := 6) (oi := ⟨some 44, _, _, _, _, some (4, false)⟩) (v := ?v19) rfl (by kernel_rfl) (by kernel_rfl) (by kernel_rfl) (fun _ _ _ h => h) (Or.inl ⟨by rfl, ?hy19⟩) (by assumption) ?rest19
              case hy19 => (intro wS hSw; (try dsimp only at hSw); go_simp; (try with_reducible rfl))
              (try simp only [Act.put, zA, zB, zC])
              refine wpAnyH_take (i := 7) (oi := ⟨some 45, _, _, _, _, some (4, false)⟩) (v := ?v20) rfl (by kernel_rfl) (by kernel_rfl) (by kernel_rfl) (fun _ _ _ h => h) (Or.inl ⟨by rfl, ?hy20⟩) (by assumption) ?rest20
              case hy20 => (intro wS hSw; (try dsimp only at hSw); go_simp; (try with_reducible rfl))
              (try simp only [Act.put, zA, zB, zC])
              refine wpAnyH_take (i := 8) (oi := ⟨some 46, _, _, _, _, some (4, false)⟩) (v := ?v21) rfl (by kernel_rfl) (by kernel_rfl) (by kernel_rfl) (fun _ _ _ h => h) (Or.inl ⟨by rfl, ?hy21⟩) (by assumption) ?rest21
              case hy21 => (intro wS hSw; (try dsimp only at hSw); go_simp; (try with_reducible rfl))
              (try simp only [Act.put, zA, zB, zC])
              refine wpAnyH_take (i := 9) (oi := ⟨some 47, _, _, _, _, some (4, false)⟩) (v := ?v22) rfl (by kernel_rfl) (by kernel_rfl) (by kernel_rfl) (fun _ _ _ h => h) (Or.inl ⟨by rfl, ?hy22⟩) (by assumption) ?rest22
              case hy22 => (intro wS hSw; (try dsimp only at hSw); go_simp; (try with_reducible rfl))
              (try simp only [Act.put, zA, zB, zC])
              refine wpAnyH_take (i := 10) (oi := ⟨some 48, _, _, _, _, some (4, false)⟩) (v := ?v23) rfl (by kernel_rfl) (by kernel_rfl) (by kernel_rfl) (fun _ _ _ h => h) (Or.inl ⟨by rfl, ?hy23⟩) (by assumption) ?rest23
              case hy23 => (intro wS hSw; (try dsimp only at hSw); go_simp; (try with_reducible rfl))
              (try simp only [Act.put, zA, zB, zC])
              refine wpAnyH_take (i := 11) (oi := ⟨some 49, _, _, _, _, none⟩) (v := ?v24) rfl (by kernel_rfl) (by kernel_rfl) (by kernel_rfl) (fun _ _ _ h => h) (Or.inl ⟨by rfl, ?hy24⟩) (by assumption) ?rest24
              case hy24 => (intro wS hSw; (try dsimp only at hSw); go_simp; (try with_reducible rfl))
              (try simp only [Act.put, zA, zB, zC])
              refine wpAnyH_done (by kernel_rfl) ?_ _
              clear hHeld
              have FE := Lib.hid (FX0.out.trans FV9)
              have HOE := Lib.hid (HO.out.non FV9)
              clear FV9 FX0 HO CB d0 d1 d2 e0 e1 e2
              go_wp2
              go_roundw
              case rel => exact ⟨i + 1, by omega, by go_num, by rw [HM.out, HI.out]; exact HOE.out, FE⟩
              case measure => simp [intOf]; omega
            · have hq : ∀ W, (binOp .neq 25 (.agg #[.bool kn, .int .i64 ki, .string ⟨kt.toArray⟩]) (.agg #[.bool cn, .int .i64 ci, .string ⟨ct.toArray⟩])).run Tryz.prog W = .ok (.bool true) W := fun W => by
                have := run_neq_cl W ⟨kn, ki, kt⟩ ⟨cn, ci, ct⟩
                rw [show ceq ⟨kn, ki, kt⟩ ⟨cn, ci, ct⟩ = false from by simp [ceq]; simpa using hsm] at this; exact this
              have HI := Lib.hid (insK_new hj HLt.out (fun h => by rw [hy.out, ho.out]; omega) (fun h => by rw [hy.out]; exact hsm))
              clear hsm hy ho HLt
              go_wp2
              obtain ⟨V9, hV9⟩ : ∃ V, V = wx.drew := ⟨_, rfl⟩
              refine wp_region_held_drew (S := (fun W' => W'.cell? ⟨C, 0, none⟩ = some (.bool cn) ∧ W'.cell? ⟨C, 1, none⟩ = some (.int .i64 ci) ∧ W'.cell? ⟨C, 2, none⟩ = some (.string ⟨ct.toArray⟩) ∧ W'.cell? (a.add (j * 3)) = some (.bool kn) ∧ W'.cell? { block := (a.add (j * 3)).block, off := (a.add (j * 3)).off + 1 } = some (.int .i64 ki) ∧ W'.cell? { block := (a.add (j * 3)).block, off := (a.add (j * 3)).off + 2 } = some (.string ⟨kt.toArray⟩))) (by kernel_rfl) (by exact ⟨d0, d1, d2, e0, e1, e2⟩) (fun hHeld => ?_)
              rw [← hV9]
              rw [← hV9] at hHeld
              have FV9 : Fr Non wx V9 := by rw [hV9]; exact (Fr.refl Non _).drew
              clear hV9
              replace d0 := FV9.at0 d0
              replace d1 := FV9.at0 d1
              replace d2 := FV9.at0 d2
              replace e0 := FV9.at0 e0
              replace e1 := FV9.at0 e1
              replace e2 := FV9.at0 e2
              refine wpAnyH_take (i := 0) (oi := ⟨some 38, _, _, _, _, none⟩) (v := ?v25) rfl (by kernel_rfl) (by kernel_rfl) (by kernel_rfl) (fun _ _ _ h => h) (Or.inl ⟨by rfl, ?hy25⟩) (by assumption) ?rest25
              case hy25 => (intro wS hSw; (try dsimp only at hSw); go_simp; (try with_reducible rfl))
              (try simp only [Act.put, zA, zB, zC])
              refine wpAnyH_take (i := 1) (oi := ⟨some 39, _, _, _, _, none⟩) (v := ?v26) rfl (by kernel_rfl) (by kernel_rfl) (by kernel_rfl) (fun _ _ _ h => h) (Or.inl ⟨by rfl, ?hy26⟩) (by assumption) ?rest26
              case hy26 => (intro wS hSw; (try dsimp only at hSw); go_simp; (try with_reducible rfl))
              (try simp only [Act.put, zA, zB, zC])
              refine wpAnyH_take (i := 2) (oi := ⟨some 40, _, _, _, _, none⟩) (v := ?v27) rfl (by kernel_rfl) (by kernel_rfl) (by kernel_rfl) (fun _ _ _ h => h) (Or.inl ⟨by rfl, ?hy27⟩) (by assumption) ?rest27
              case hy27 => (intro wS hSw; (try dsimp only at hSw); go_simp; (try with_reducible rfl))
              (try simp only [Act.put, zA, zB, zC])
              refine wpAnyH_take (i := 3) (oi := ⟨some 41, _, _, _, _, none⟩) (v := ?v28) rfl (by kernel_rfl) (by kernel_rfl) (by kernel_rfl) (fun _ _ _ h => h) (Or.inl ⟨by rfl, ?hy28⟩) (by assumption) ?rest28
              case hy28 => (intro wS hSw; (try dsimp only at hSw); go_simp; (try with_reducible rfl))
              (try simp only [Act.put, zA, zB, zC])
              refine wpAnyH_take (i := 4) (oi := ⟨some 42, _, _, _, _, none⟩) (v := ?v29) rfl (by kernel_rfl) (by kernel_rfl) (by kernel_rfl) (fun _ _ _ h => h) (Or.inl ⟨by rfl, ?hy29⟩) (by assumption) ?rest29
              case hy29 => (intro wS hSw; (try dsimp only at hSw); go_simp; (try with_reducible rfl))
              (try simp only [Act.put, zA, zB, zC])
              refine wpAnyH_take (i := 5) (oi := ⟨some 43, _, _, _, _, some (4, false)⟩) (v := ?v30) rfl (by kernel_rfl) (by kernel_rfl) (by kernel_rfl) (fun _ _ _ h => h) (Or.inl ⟨by rfl, ?hy30⟩) (by assumption) ?rest30
              case hy30 => (intro wS hSw; (try dsimp only at hSw); go_simp; (try with_reducible rfl))
              (try simp only [Act.put, zA, zB, zC])
              refine wpAnyH_take (i := 6) (oi := ⟨some 44, _, _, _, _, some (4, false)⟩) (v := ?v31) rfl (by kernel_rfl) (by kernel_rfl) (by kernel_rfl) (fun _ _ _ h => h) (Or.inl ⟨by rfl, ?hy31⟩) (by assumption) ?rest31
              case hy31 => (intro wS hSw; (try dsimp only at hSw); go_simp; (try with_reducible rfl))
              (try simp only [Act.put, zA, zB, zC])
              refine wpAnyH_take (i := 7) (oi := ⟨some 45, _, _, _, _, some (4, false)⟩) (v := ?v32) rfl (by kernel_rfl) (by kernel_rfl) (by kernel_rfl) (fun _ _ _ h => h) (Or.inl ⟨by rfl, ?hy32⟩) (by assumption) ?rest32
              case hy32 => (intro wS hSw; (try dsimp only at hSw); go_simp; (try with_reducible rfl))
              (try simp only [Act.put, zA, zB, zC])
              refine wpAnyH_take (i := 8) (oi := ⟨some 46, _, _, _, _, some (4, false)⟩) (v := ?v33) rfl (by kernel_rfl) (by kernel_rfl) (by kernel_rfl) (fun _ _ _ h => h) (Or.inl ⟨by rfl, ?hy33⟩) (by assumption) ?rest33
              case hy33 => (intro wS hSw; (try dsimp only at hSw); go_simp; (try with_reducible rfl))
              (try simp only [Act.put, zA, zB, zC])
              refine wpAnyH_take (i := 9) (oi := ⟨some 47, _, _, _, _, some (4, false)⟩) (v := ?v34) rfl (by kernel_rfl) (by kernel_rfl) (by kernel_rfl) (fun _ _ _ h => h) (Or.inl ⟨by rfl, ?hy34⟩) (by assumption) ?rest34
              case hy34 => (intro wS hSw; (try dsimp only at hSw); go_simp; (try with_reducible rfl))
              (try simp only [Act.put, zA, zB, zC])
              refine wpAnyH_take (i := 10) (oi := ⟨some 48, _, _, _, _, some (4, false)⟩) (v := ?v35) rfl (by kernel_rfl) (by kernel_rfl) (by kernel_rfl) (fun _ _ _ h => h) (Or.inl ⟨by rfl, ?hy35⟩) (by assumption) ?rest35
              case hy35 => (intro wS hSw; (try dsimp only at hSw); go_simp; (try with_reducible rfl))
              (try simp only [Act.put, zA, zB, zC])
              refine wpAnyH_take (i := 11) (oi := ⟨some 49, _, _, _, _, none⟩) (v := ?v36) rfl (by kernel_rfl) (by kernel_rfl) (by kernel_rfl) (fun _ _ _ h => h) (Or.inl ⟨by rfl, ?hy36⟩) (by assumption) ?rest36
              case hy36 => (intro wS hSw; (try dsimp only at hSw); go_simp; (try with_reducible rfl))
              (try simp only [Act.put, zA, zB, zC])
              refine wpAnyH_done (by kernel_rfl) ?_ _
              clear hHeld e0 e1 e2
              have FX := FX0
              have F9 : Fr Non wx V9 := FV9
              have HO9 := HO.out.non F9
              replace FX := Lib.hid (FX.out.trans F9)
              have hBB : g ≤ V9.drew.heap.size := by have h1 := F9.size; have h2 := HCg.out; have h3 := CB.out.lt; have : V9.drew.heap.size = V9.heap.size := rfl; omega
              obtain ⟨A3, c3, hs3, hp3⟩ := slice_hiCs (some a) ks.length ck j .i64 (j : Int) rfl hj hck
              obtain ⟨A4, c4, hs4, hp4⟩ := slice_loCs (some a) ks.length ck j .i64 (j : Int) rfl hj hck
              replace hp3 := Lib.hid hp3
              replace hp4 := Lib.hid hp4
              go_wp2
              obtain ⟨V10, hV10⟩ : ∃ V, V = V9.drew := ⟨_, rfl⟩
              refine wp_region_held_drew (S := (fun W' => W'.cell? ⟨C, 0, none⟩ = some (.bool cn) ∧ W'.cell? ⟨C, 1, none⟩ = some (.int .i64 ci) ∧ W'.cell? ⟨C, 2, none⟩ = some (.string ⟨ct.toArray⟩))) (by kernel_rfl) (by exact ⟨d0, d1, d2⟩) (fun hHeld => ?_)
              rw [← hV10]
              rw [← hV10] at hHeld
              have F10 : Fr Non V9 V10 := by rw [hV10]; exact (Fr.refl Non _).drew
              clear hV10
              replace d0 := F10.at0 d0
              replace d1 := F10.at0 d1
              replace d2 := F10.at0 d2
              have F10z : Fr Non V10 V10 := Fr.refl _ _
              have HO10 := HO9.non F10
              obtain ⟨B, hB⟩ : ∃ B, V10.heap.size = B := ⟨_, rfl⟩
              replace hB := Lib.hid hB
              replace hBB : g ≤ B := by have h1 := F10.size; have : V9.drew.heap.size = V9.heap.size := rfl; have := hB.out; omega
              refine wpAnyH_take (i := 1) (oi := ⟨some 51, _, _, _, _, none⟩) (v := ?v37) rfl (by kernel_rfl) (by kernel_rfl) (by kernel_rfl) (fun _ _ _ h => h) (Or.inl ⟨by rfl, ?hy37⟩) (by assumption) ?rest37
              case hy37 => (intro wS hSw; (try dsimp only at hSw); go_simp; (try with_reducible rfl))
              (try simp only [Act.put, zA, zB, zC])
              refine wpAnyH_take (i := 2) (oi := ⟨some 52, _, _, _, _, none⟩) (v := ?v38) rfl (by kernel_rfl) (by kernel_rfl) (by kernel_rfl) (fun _ _ _ h => h) (Or.inl ⟨by rfl, ?hy38⟩) (by assumption) ?rest38
              case hy38 => (intro wS hSw; (try dsimp only at hSw); go_simp; (try with_reducible rfl))
              (try simp only [Act.put, zA, zB, zC])
              refine wpAnyH_take (i := 3) (oi := ⟨some 53, _, _, _, _, none⟩) (v := ?v39) rfl (by kernel_rfl) (by kernel_rfl) (by kernel_rfl) (fun _ _ _ h => h) (Or.inl ⟨by rfl, ?hy39⟩) (by assumption) ?rest39
              case hy39 => (intro wS hSw; (try dsimp only at hSw); go_simp; (try with_reducible rfl))
              (try simp only [Act.put, zA, zB, zC])
              refine wpAnyH_take (i := 5) (oi := ⟨some 55, _, _, _, _, none⟩) (v := ?v40) rfl (by kernel_rfl) (by kernel_rfl) (by kernel_rfl) (fun _ _ _ h => h) (Or.inl ⟨by rfl, ?hy40⟩) (by assumption) ?rest40
              case hy40 => (intro wS hSw; (try dsimp only at hSw); go_simp; (try with_reducible rfl))
              (try simp only [Act.put, zA, zB, zC])
              refine wpAnyH_take (i := 8) (oi := ⟨some 58, _, _, _, _, none⟩) (v := ?v41) rfl (by kernel_rfl) (by kernel_rfl) (by kernel_rfl) (fun _ _ _ h => h) (Or.inl ⟨by rfl, ?hy41⟩) (by assumption) ?rest41
              case hy41 => (intro wS hSw; (try dsimp only at hSw); go_simp; (try with_reducible rfl))
              (try simp only [Act.put, zA, zB, zC])
              refine wpAnyH_take (i := 9) (oi := ⟨some 59, _, _, _, _, none⟩) (v := ?v42) rfl (by kernel_rfl) (by kernel_rfl) (by kernel_rfl) (fun _ _ _ h => h) (Or.inl ⟨by rfl, ?hy42⟩) (by assumption) ?rest42
              case hy42 => (intro wS hSw; (try dsimp only at hSw); go_simp; (try with_reducible rfl))
              (try simp only [Act.put, zA, zB, zC])
              refine wpAnyH_take (i := 10) (oi := ⟨some 60, _, _, _, _, none⟩) (v := ?v43) rfl (by kernel_rfl) (by kernel_rfl) (by kernel_rfl) (fun _ _ _ h => h) (Or.inl ⟨by rfl, ?hy43⟩) (by assumption) ?rest43
              case hy43 => (intro wS hSw; (try dsimp only at hSw); go_simp; (try with_reducible rfl))
              (try simp only [Act.put, zA, zB, zC])
              refine wpAnyH_ready (rs := [0, 6]) (by kernel_rfl) (by simp) ?_
              refine AllReadyH.cons (o := ⟨some 50, _, _, _, _, none⟩) rfl (fun K hK => ?_) ?_
              · obtain ⟨G, hG⟩ : ∃ G, V10.heap.size = G := ⟨_, rfl⟩
                obtain ⟨X0, hX0⟩ : ∃ W, W = V10.alloc (.cells #[] 25) := ⟨_, rfl⟩
                have HOe : Oc X0 B (.slice (some ⟨G, 0, none⟩) 0 0) [] := by rw [hX0]; exact oc_lit0 V10 B G hG.symm (by have := F10z.size; have := hB.out; omega)
                have fs : Fr Non V10 X0 := by rw [hX0]; exact (Fr.refl Non _).alloc _
                have Fa : Fr Non V10 X0 := F10z.trans fs
                have hGs : B ≤ G := by have := F10z.size; have := hB.out; omega
                go_simp
                rw [← hX0]
                clear hX0 fs
                refine hK.out _ _ (by exact ⟨Fa.at0 d0, Fa.at0 d1, Fa.at0 d2⟩) (fun hHeld => ?_)
                clear hK K
                (try simp only [Act.put, zA, zB, zC])
                refine wpAnyH_ready (rs := [4, 6]) (by kernel_rfl) (by simp) ?_
                refine AllReadyH.cons (o := ⟨some 54, _, _, _, _, none⟩) rfl (fun K hK => ?_) ?_
                · have HC3 : Cs X0 (.slice A3 j c3) (ks.take j) := hp3.out X0 ks (HO10.cs.non Fa)
                  refine wp_appC (.tmp 50) (.tmp 53) rfl B (.slice (some ⟨G, 0, none⟩) 0 0) (.slice A3 j c3) [] (ks.take j) rfl HOe rfl HC3 (by simp; omega) (by have := Fa.size; have := hB.out; omega) ?_
                  intro v4 X4 HO4 fs
                  have Fb : Fr Non V10 X4 := Fa.fresh fs (fun q e => by have := (HOe.lt q e).1; have := hB.out; omega)
                  refine hK.out _ _ (by exact ⟨Fb.at0 d0, Fb.at0 d1, Fb.at0 d2⟩) (fun hHeld => ?_)
                  clear hK K
                  (try simp only [Act.put, zA, zB, zC])
                  clear fs HC3 HOe
                  refine wpAnyH_ready (rs := [6]) (by kernel_rfl) (by simp) ?_
                  refine AllReadyH.cons (o := ⟨some 56, _, _, _, _, none⟩) rfl (fun K hK => ?_) AllReadyH.nil
                  obtain ⟨H, hH⟩ : ∃ H, X4.heap.size = H := ⟨_, rfl⟩
                  obtain ⟨X6, hX6⟩ : ∃ W, W = X4.alloc (.cells #[.bool cn, .int .i64 ci, .string ⟨ct.toArray⟩] 25) := ⟨_, rfl⟩
                  have HB1 : ClB X6 H ⟨cn, ci, ct⟩ := by rw [hX6, ← hH]; exact cl_new _ ⟨cn, ci, ct⟩
                  have fs : Fr Non X4 X6 := by rw [hX6]; exact (Fr.refl Non _).alloc _
                  have Fc : Fr Non V10 X6 := Fb.trans fs
                  replace HO4 := HO4.non fs
                  go_simp
                  rw [← hX6]
                  clear hX6 fs
                  refine hK.out _ _ (by exact ⟨Fc.at0 d0, Fc.at0 d1, Fc.at0 d2⟩) (fun hHeld => ?_)
                  clear hK K
                  (try simp only [Act.put, zA, zB, zC])
                  refine wpAnyH_ready (rs := [7]) (by kernel_rfl) (by simp) ?_
                  refine AllReadyH.cons (o := ⟨some 57, _, _, _, _, none⟩) rfl (fun K hK => ?_) AllReadyH.nil
                  have HC7 : Cs X6 (.slice (some ⟨H, 0, none⟩) 1 1) [⟨cn, ci, ct⟩] := cs_lit1 HB1
                  refine wp_appC (.tmp 54) (.tmp 56) rfl B v4 (.slice (some ⟨H, 0, none⟩) 1 1) ([] ++ ks.take j) [⟨cn, ci, ct⟩] rfl HO4 rfl HC7 (by simp; omega) (by have := Fc.size; have := hB.out; omega) ?_
                  intro v7 X67 HO7 fs
                  have Fc7 : Fr Non V10 X67 := Fc.fresh fs (fun q e => by have := (HO4.lt q e).1; have := hB.out; omega)
                  refine hK.out _ _ (by exact ⟨Fc7.at0 d0, Fc7.at0 d1, Fc7.at0 d2⟩) (fun hHeld => ?_)
                  clear hK K
                  (try simp only [Act.put, zA, zB, zC])
                  clear fs HC7 HO4 HB1
                  refine wpAnyH_ready (rs := [11]) (by kernel_rfl) (by simp) ?_
                  refine AllReadyH.cons (o := ⟨some 61, _, _, _, _, none⟩) rfl (fun K hK => ?_) AllReadyH.nil
                  have HC11 : Cs X67 (.slice A4 (ks.length - j) c4) (ks.drop j) := hp4.out X67 ks (HO10.cs.non Fc7)
                  refine wp_appC (.tmp 57) (.tmp 60) rfl B v7 (.slice A4 (ks.length - j) c4) (([] ++ ks.take j) ++ [⟨cn, ci, ct⟩]) (ks.drop j) rfl HO7 rfl HC11 (by simp; omega) (by have := Fc7.size; have := hB.out; omega) ?_
                  intro v11 X611 HO11 fs
                  have Fc11 : Fr Non V10 X611 := Fc7.fresh fs (fun q e => by have := (HO7.lt q e).1; have := hB.out; omega)
                  refine hK.out _ _ (by exact ⟨Fc11.at0 d0, Fc11.at0 d1, Fc11.at0 d2⟩) (fun hHeld => ?_)
                  clear hK K
                  (try simp only [Act.put, zA, zB, zC])
                  clear fs HC11 HO7
                  refine wpAnyH_take (i := 12) (oi := ⟨some 5, _, _, _, _, none⟩) (v := ?v44) rfl (by kernel_rfl) (by kernel_rfl) (by kernel_rfl) (fun _ _ _ h => h) (Or.inl ⟨by rfl, ?hy44⟩) (by assumption) ?rest44
                  case hy44 => (intro wS hSw; (try dsimp only at hSw); go_simp; (try with_reducible rfl))
                  (try simp only [Act.put, zA, zB, zC])
                  refine wpAnyH_done (by kernel_rfl) ?_ _
                  have hE : (([] ++ ks.take j) ++ [⟨cn, ci, ct⟩]) ++ ks.drop j = insK ⟨cn, ci, ct⟩ ks := by rw [List.nil_append]; exact HI.out.symm
                  rw [hE] at HO11
                  have FE := Lib.hid ((FX.out.trans F10).trans Fc11)
                  have HOE := Lib.hid (HO11.mono hBB)
                  clear hHeld HO11 Fc11 hE
                  obtain ⟨A11, c11, rfl⟩ := HOE.out.shape
                  go_wp2
                  go_roundw
                  case rel => exact ⟨i + 1, by omega, by go_num, by rw [HM.out]; exact HOE.out, FE⟩
                  case measure => simp [intOf]; omega
                · refine AllReadyH.cons (o := ⟨some 56, _, _, _, _, none⟩) rfl (fun K hK => ?_) AllReadyH.nil
                  obtain ⟨H, hH⟩ : ∃ H, X0.heap.size = H := ⟨_, rfl⟩
                  obtain ⟨X6, hX6⟩ : ∃ W, W = X0.alloc (.cells #[.bool cn, .int .i64 ci, .string ⟨ct.toArray⟩] 25) := ⟨_, rfl⟩
                  have HB1 : ClB X6 H ⟨cn, ci, ct⟩ := by rw [hX6, ← hH]; exact cl_new _ ⟨cn, ci, ct⟩
                  have fs : Fr Non X0 X6 := by rw [hX6]; exact (Fr.refl Non _).alloc _
                  have Fb : Fr Non V10 X6 := Fa.trans fs
                  have hGH : G ≠ H := by have := (HOe.lt G rfl).2; omega
                  replace HOe : Oc X6 B (.slice (some ⟨G, 0, none⟩) 0 0) [] := HOe.non fs
                  go_simp
                  rw [← hX6]
                  clear hX6 fs
                  refine hK.out _ _ (by exact ⟨Fb.at0 d0, Fb.at0 d1, Fb.at0 d2⟩) (fun hHeld => ?_)
                  clear hK K
                  (try simp only [Act.put, zA, zB, zC])
                  refine wpAnyH_ready (rs := [4]) (by kernel_rfl) (by simp) ?_
                  refine AllReadyH.cons (o := ⟨some 54, _, _, _, _, none⟩) rfl (fun K hK => ?_) AllReadyH.nil
                  have HC3 : Cs X6 (.slice A3 j c3) (ks.take j) := hp3.out X6 ks (HO10.cs.non Fb)
                  refine wp_appC (.tmp 50) (.tmp 53) rfl B (.slice (some ⟨G, 0, none⟩) 0 0) (.slice A3 j c3) [] (ks.take j) rfl HOe rfl HC3 (by simp; omega) (by have := Fb.size; have := hB.out; omega) ?_
                  intro v4 X4 HO4 fs
                  have Fc : Fr Non V10 X4 := Fb.fresh fs (fun q e => by have := (HOe.lt q e).1; have := hB.out; omega)
                  replace HB1 : ClB X4 H ⟨cn, ci, ct⟩ := HB1.fr fs (fun e => by simp [Value.ownBlock] at e; omega)
                  refine hK.out _ _ (by exact ⟨Fc.at0 d0, Fc.at0 d1, Fc.at0 d2⟩) (fun hHeld => ?_)
                  clear hK K
                  (try simp only [Act.put, zA, zB, zC])
                  clear fs HC3 HOe
                  refine wpAnyH_ready (rs := [7]) (by kernel_rfl) (by simp) ?_
                  refine AllReadyH.cons (o := ⟨some 57, _, _, _, _, none⟩) rfl (fun K hK => ?_) AllReadyH.nil
                  have HC7 : Cs X4 (.slice (some ⟨H, 0, none⟩) 1 1) [⟨cn, ci, ct⟩] := cs_lit1 HB1
                  refine wp_appC (.tmp 54) (.tmp 56) rfl B v4 (.slice (some ⟨H, 0, none⟩) 1 1) ([] ++ ks.take j) [⟨cn, ci, ct⟩] rfl HO4 rfl HC7 (by simp; omega) (by have := Fc.size; have := hB.out; omega) ?_
                  intro v7 X47 HO7 fs
                  have Fc7 : Fr Non V10 X47 := Fc.fresh fs (fun q e => by have := (HO4.lt q e).1; have := hB.out; omega)
                  refine hK.out _ _ (by exact ⟨Fc7.at0 d0, Fc7.at0 d1, Fc7.at0 d2⟩) (fun hHeld => ?_)
                  clear hK K
                  (try simp only [Act.put, zA, zB, zC])
                  clear fs HC7 HO4 HB1
                  refine wpAnyH_ready (rs := [11]) (by kernel_rfl) (by simp) ?_
                  refine AllReadyH.cons (o := ⟨some 61, _, _, _, _, none⟩) rfl (fun K hK => ?_) AllReadyH.nil
                  have HC11 : Cs X47 (.slice A4 (ks.length - j) c4) (ks.drop j) := hp4.out X47 ks (HO10.cs.non Fc7)
                  refine wp_appC (.tmp 57) (.tmp 60) rfl B v7 (.slice A4 (ks.length - j) c4) (([] ++ ks.take j) ++ [⟨cn, ci, ct⟩]) (ks.drop j) rfl HO7 rfl HC11 (by simp; omega) (by have := Fc7.size; have := hB.out; omega) ?_
                  intro v11 X411 HO11 fs
                  have Fc11 : Fr Non V10 X411 := Fc7.fresh fs (fun q e => by have := (HO7.lt q e).1; have := hB.out; omega)
                  refine hK.out _ _ (by exact ⟨Fc11.at0 d0, Fc11.at0 d1, Fc11.at0 d2⟩) (fun hHeld => ?_)
                  clear hK K
                  (try simp only [Act.put, zA, zB, zC])
                  clear fs HC11 HO7
                  refine wpAnyH_take (i := 12) (oi := ⟨some 5, _, _, _, _, none⟩) (v := ?v45) rfl (by kernel_rfl) (by kernel_rfl) (by kernel_rfl) (fun _ _ _ h => h) (Or.inl ⟨by rfl, ?hy45⟩) (by assumption) ?rest45
                  case hy45 => (intro wS hSw; (try dsimp only at hSw); go_simp; (try with_reducible rfl))
                  (try simp only [Act.put, zA, zB, zC])
                  refine wpAnyH_done (by kernel_rfl) ?_ _
                  have hE : (([] ++ ks.take j) ++ [⟨cn, ci, ct⟩]) ++ ks.drop j = insK ⟨cn, ci, ct⟩ ks := by rw [List.nil_append]; exact HI.out.symm
                  rw [hE] at HO11
                  have FE := Lib.hid ((FX.out.trans F10).trans Fc11)
                  have HOE := Lib.hid (HO11.mono hBB)
                  clear hHeld HO11 Fc11 hE
                  obtain ⟨A11, c11, rfl⟩ := HOE.out.shape
                  go_wp2
                  go_roundw
                  case rel => exact ⟨i + 1, by omega, by go_num, by rw [HM.out]; exact HOE.out, FE⟩
                  case measure => simp [intOf]; omega
              · refine AllReadyH.cons (o := ⟨some 56, _, _, _, _, none⟩) rfl (fun K hK => ?_) AllReadyH.nil
                obtain ⟨H, hH⟩ : ∃ H, V10.heap.size = H := ⟨_, rfl⟩
                obtain ⟨X6, hX6⟩ : ∃ W, W = V10.alloc (.cells #[.bool cn, .int .i64 ci, .string ⟨ct.toArray⟩] 25) := ⟨_, rfl⟩
                have HB1 : ClB X6 H ⟨cn, ci, ct⟩ := by rw [hX6, ← hH]; exact cl_new _ ⟨cn, ci, ct⟩
                have fs : Fr Non V10 X6 := by rw [hX6]; exact (Fr.refl Non _).alloc _
                have Fa : Fr Non V10 X6 := F10z.trans fs
                go_simp
                rw [← hX6]
                clear hX6 fs
                refine hK.out _ _ (by exact ⟨Fa.at0 d0, Fa.at0 d1, Fa.at0 d2⟩) (fun hHeld => ?_)
                clear hK K
                (try simp only [Act.put, zA, zB, zC])
                refine wpAnyH_ready (rs := [0]) (by kernel_rfl) (by simp) ?_
                refine AllReadyH.cons (o := ⟨some 50, _, _, _, _, none⟩) rfl (fun K hK => ?_) AllReadyH.nil
                obtain ⟨G, hG⟩ : ∃ G, X6.heap.size = G := ⟨_, rfl⟩
                obtain ⟨X0, hX0⟩ : ∃ W, W = X6.alloc (.cells #[] 25) := ⟨_, rfl⟩
                have HOe : Oc X0 B (.slice (some ⟨G, 0, none⟩) 0 0) [] := by rw [hX0]; exact oc_lit0 X6 B G hG.symm (by have := Fa.size; have := hB.out; omega)
                have fs : Fr Non X6 X0 := by rw [hX0]; exact (Fr.refl Non _).alloc _
                have Fb : Fr Non V10 X0 := Fa.trans fs
                have hGs : B ≤ G := by have := Fa.size; have := hB.out; omega
                have hGH : G ≠ H := by have := HB1.lt; omega
                replace HB1 : ClB X0 H ⟨cn, ci, ct⟩ := HB1.fr fs (fun e => e)
                go_simp
                rw [← hX0]
                clear hX0 fs
                refine hK.out _ _ (by exact ⟨Fb.at0 d0, Fb.at0 d1, Fb.at0 d2⟩) (fun hHeld => ?_)
                clear hK K
                (try simp only [Act.put, zA, zB, zC])
                refine wpAnyH_ready (rs := [4]) (by kernel_rfl) (by simp) ?_
                refine AllReadyH.cons (o := ⟨some 54, _, _, _, _, none⟩) rfl (fun K hK => ?_) AllReadyH.nil
                have HC3 : Cs X0 (.slice A3 j c3) (ks.take j) := hp3.out X0 ks (HO10.cs.non Fb)
                refine wp_appC (.tmp 50) (.tmp 53) rfl B (.slice (some ⟨G, 0, none⟩) 0 0) (.slice A3 j c3) [] (ks.take j) rfl HOe rfl HC3 (by simp; omega) (by have := Fb.size; have := hB.out; omega) ?_
                intro v4 X4 HO4 fs
                have Fc : Fr Non V10 X4 := Fb.fresh fs (fun q e => by have := (HOe.lt q e).1; have := hB.out; omega)
                replace HB1 : ClB X4 H ⟨cn, ci, ct⟩ := HB1.fr fs (fun e => by simp [Value.ownBlock] at e; omega)
                refine hK.out _ _ (by exact ⟨Fc.at0 d0, Fc.at0 d1, Fc.at0 d2⟩) (fun hHeld => ?_)
                clear hK K
                (try simp only [Act.put, zA, zB, zC])
                clear fs HC3 HOe
                refine wpAnyH_ready (rs := [7]) (by kernel_rfl) (by simp) ?_
                refine AllReadyH.cons (o := ⟨some 57, _, _, _, _, none⟩) rfl (fun K hK => ?_) AllReadyH.nil
                have HC7 : Cs X4 (.slice (some ⟨H, 0, none⟩) 1 1) [⟨cn, ci, ct⟩] := cs_lit1 HB1
                refine wp_appC (.tmp 54) (.tmp 56) rfl B v4 (.slice (some ⟨H, 0, none⟩) 1 1) ([] ++ ks.take j) [⟨cn, ci, ct⟩] rfl HO4 rfl HC7 (by simp; omega) (by have := Fc.size; have := hB.out; omega) ?_
                intro v7 X47 HO7 fs
                have Fc7 : Fr Non V10 X47 := Fc.fresh fs (fun q e => by have := (HO4.lt q e).1; have := hB.out; omega)
                refine hK.out _ _ (by exact ⟨Fc7.at0 d0, Fc7.at0 d1, Fc7.at0 d2⟩) (fun hHeld => ?_)
                clear hK K
                (try simp only [Act.put, zA, zB, zC])
                clear fs HC7 HO4 HB1
                refine wpAnyH_ready (rs := [11]) (by kernel_rfl) (by simp) ?_
                refine AllReadyH.cons (o := ⟨some 61, _, _, _, _, none⟩) rfl (fun K hK => ?_) AllReadyH.nil
                have HC11 : Cs X47 (.slice A4 (ks.length - j) c4) (ks.drop j) := hp4.out X47 ks (HO10.cs.non Fc7)
                refine wp_appC (.tmp 57) (.tmp 60) rfl B v7 (.slice A4 (ks.length - j) c4) (([] ++ ks.take j) ++ [⟨cn, ci, ct⟩]) (ks.drop j) rfl HO7 rfl HC11 (by simp; omega) (by have := Fc7.size; have := hB.out; omega) ?_
                intro v11 X411 HO11 fs
                have Fc11 : Fr Non V10 X411 := Fc7.fresh fs (fun q e => by have := (HO7.lt q e).1; have := hB.out; omega)
                refine hK.out _ _ (by exact ⟨Fc11.at0 d0, Fc11.at0 d1, Fc11.at0 d2⟩) (fun hHeld => ?_)
                clear hK K
                (try simp only [Act.put, zA, zB, zC])
                clear fs HC11 HO7
                refine wpAnyH_take (i := 12) (oi := ⟨some 5, _, _, _, _, none⟩) (v := ?v46) rfl (by kernel_rfl) (by kernel_rfl) (by kernel_rfl) (fun _ _ _ h => h) (Or.inl ⟨by rfl, ?hy46⟩) (by assumption) ?rest46
                case hy46 => (intro wS hSw; (try dsimp only at hSw); go_simp; (try with_reducible rfl))
                (try simp only [Act.put, zA, zB, zC])
                refine wpAnyH_done (by kernel_rfl) ?_ _
                have hE : (([] ++ ks.take j) ++ [⟨cn, ci, ct⟩]) ++ ks.drop j = insK ⟨cn, ci, ct⟩ ks := by rw [List.nil_append]; exact HI.out.symm
                rw [hE] at HO11
                have FE := Lib.hid ((FX.out.trans F10).trans Fc11)
                have HOE := Lib.hid (HO11.mono hBB)
                clear hHeld HO11 Fc11 hE
                obtain ⟨A11, c11, rfl⟩ := HOE.out.shape
                go_wp2
                go_roundw
                case rel => exact ⟨i + 1, by omega, by go_num, by rw [HM.out]; exact HOE.out, FE⟩
                case measure => simp [intOf]; omega
        · have hje : j = ks.length := by omega
          have hd1 : decide (j < ks.length) = false := decide_eq_false hjl
          have hd2 : (j == ks.length) = true := by rw [hje]; simp
          have hd3 : decide ((j : Int) < (ks.length : Int)) = false := decide_eq_false (by omega)
          have hd4 : ((j : Int) == (ks.length : Int)) = true := by rw [hje]; simp
          have HI := Lib.hid (insK_new hj HLt.out (fun h => absurd h hjl) (fun h => absurd h hjl))
          clear hje HLt
          go_wp2
          obtain ⟨V, hV⟩ : ∃ V, V = wx.drew := ⟨_, rfl⟩
          refine wp_region_held_drew (S := (fun W' => W'.cell? ⟨C, 0, none⟩ = some (.bool cn) ∧ W'.cell? ⟨C, 1, none⟩ = some (.int .i64 ci) ∧ W'.cell? ⟨C, 2, none⟩ = some (.string ⟨ct.toArray⟩))) (by kernel_rfl) (by exact ⟨d0, d1, d2⟩) (fun hHeld => ?_)
          rw [← hV]
          rw [← hV] at hHeld
          have FV : Fr Non wx V := by rw [hV]; exact (Fr.refl Non _).drew
          clear hV
          replace d0 := FV.at0 d0
          replace d1 := FV.at0 d1
          replace d2 := FV.at0 d2
          refine wpAnyH_take (i := 0) (oi := ⟨some 23, _, _, _, _, none⟩) (v := ?v47) rfl (by kernel_rfl) (by kernel_rfl) (by kernel_rfl) (fun _ _ _ h => h) (Or.inl ⟨by rfl, ?hy47⟩) (by assumption) ?rest47
          case hy47 => (intro wS hSw; (try dsimp only at hSw); go_simp; (try with_reducible rfl))
          (try simp only [Act.put, zA, zB, zC])
          refine wpAnyH_take (i := 1) (oi := ⟨some 24, _, _, _, _, none⟩) (v := ?v48) rfl (by kernel_rfl) (by kernel_rfl) (by kernel_rfl) (fun _ _ _ h => h) (Or.inl ⟨by rfl, ?hy48⟩) (by assumption) ?rest48
          case hy48 => (intro wS hSw; (try dsimp only at hSw); go_simp; (try with_reducible rfl))
          (try simp only [Act.put, zA, zB, zC])
          refine wpAnyH_take (i := 2) (oi := ⟨some 25, _, _, _, _, none⟩) (v := ?v49) rfl (by kernel_rfl) (by kernel_rfl) (by kernel_rfl) (fun _ _ _ h => h) (Or.inl ⟨by rfl, ?hy49⟩) (by assumption) ?rest49
          case hy49 => (intro wS hSw; (try dsimp only at hSw); go_simp; (try with_reducible rfl))
          (try simp only [Act.put, zA, zB, zC])
          refine wpAnyH_take (i := 3) (oi := ⟨some 26, _, _, _, _, none⟩) (v := ?v50) rfl (by kernel_rfl) (by kernel_rfl) (by kernel_rfl) (fun _ _ _ h => h) (Or.inl ⟨by rfl, ?hy50⟩) (by assumption) ?rest50
          case hy50 => (intro wS hSw; (try dsimp only at hSw); go_simp; (try with_reducible rfl))
          (try simp only [Act.put, zA, zB, zC])
          refine wpAnyH_take (i := 4) (oi := ⟨some 27, _, _, _, _, none⟩) (v := ?v51) rfl (by kernel_rfl) (by kernel_rfl) (by kernel_rfl) (fun _ _ _ h => h) (Or.inl ⟨by rfl, ?hy51⟩) (by assumption) ?rest51
          case hy51 => (intro wS hSw; (try dsimp only at hSw); go_simp; (try with_reducible rfl))
          (try simp only [Act.put, zA, zB, zC])
          refine wpAnyH_take (i := 5) (oi := ⟨some 28, _, _, _, _, some (4, true)⟩) (v := undef) rfl (by kernel_rfl) (by kernel_rfl) (by kernel_rfl) (fun _ _ _ h => h) (Or.inr ⟨by rfl, rfl⟩) (by assumption) ?_
          (try simp only [Act.put, zA, zB, zC])
          refine wpAnyH_take (i := 6) (oi := ⟨some 29, _, _, _, _, some (4, true)⟩) (v := undef) rfl (by kernel_rfl) (by kernel_rfl) (by kernel_rfl) (fun _ _ _ h => h) (Or.inr ⟨by rfl, rfl⟩) (by assumption) ?_
          (try simp only [Act.put, zA, zB, zC])
          refine wpAnyH_take (i := 7) (oi := ⟨some 30, _, _, _, _, some (4, true)⟩) (v := undef) rfl (by kernel_rfl) (by kernel_rfl) (by kernel_rfl) (fun _ _ _ h => h) (Or.inr ⟨by rfl, rfl⟩) (by assumption) ?_
          (try simp only [Act.put, zA, zB, zC])
          refine wpAnyH_take (i := 8) (oi := ⟨some 31, _, _, _, _, some (4, true)⟩) (v := undef) rfl (by kernel_rfl) (by kernel_rfl) (by kernel_rfl) (fun _ _ _ h => h) (Or.inr ⟨by rfl, rfl⟩) (by assumption) ?_
          (try simp only [Act.put, zA, zB, zC])
          refine wpAnyH_take (i := 9) (oi := ⟨some 32, _, _, _, _, some (4, true)⟩) (v := undef) rfl (by kernel_rfl) (by kernel_rfl) (by kernel_rfl) (fun _ _ _ h => h) (Or.inr ⟨by rfl, rfl⟩) (by assumption) ?_
          (try simp only [Act.put, zA, zB, zC])
          refine wpAnyH_take (i := 10) (oi := ⟨some 33, _, _, _, _, some (4, true)⟩) (v := undef) rfl (by kernel_rfl) (by kernel_rfl) (by kernel_rfl) (fun _ _ _ h => h) (Or.inr ⟨by rfl, rfl⟩) (by assumption) ?_
          (try simp only [Act.put, zA, zB, zC])
          refine wpAnyH_take (i := 11) (oi := ⟨some 34, _, _, _, _, some (4, true)⟩) (v := undef) rfl (by kernel_rfl) (by kernel_rfl) (by kernel_rfl) (fun _ _ _ h => h) (Or.inr ⟨by rfl, rfl⟩) (by assumption) ?_
          (try simp only [Act.put, zA, zB, zC])
          refine wpAnyH_take (i := 12) (oi := ⟨some 35, _, _, _, _, none⟩) (v := ?v52) rfl (by kernel_rfl) (by kernel_rfl) (by kernel_rfl) (fun _ _ _ h => h) (Or.inl ⟨by rfl, ?hy52⟩) (by assumption) ?rest52
          case hy52 => (intro wS hSw; (try dsimp only at hSw); go_simp; (try with_reducible rfl))
          (try simp only [Act.put, zA, zB, zC])
          refine wpAnyH_done (by kernel_rfl) ?_ _
          clear hHeld
          have FF := Lib.hid (FX0.out.trans FV)
          have CB4 : Hid (ClB V C ⟨cn, ci, ct⟩) := Lib.hid (CB.out.fr FV (fun e => e))
          have HO4 := Lib.hid (HO.out.non FV)
          clear FV CB HO FX0
          have FX0 := FF
          have CB := CB4
          have HO := HO4
          clear FF CB4 HO4
          generalize V = V4 at *
          clear wx
          rename World => wx
          go_wp2
          obtain ⟨V9, hV9⟩ : ∃ V, V = wx.drew := ⟨_, rfl⟩
          refine wp_region_held_drew (S := (fun W' => W'.cell? ⟨C, 0, none⟩ = some (.bool cn) ∧ W'.cell? ⟨C, 1, none⟩ = some (.int .i64 ci) ∧ W'.cell? ⟨C, 2, none⟩ = some (.string ⟨ct.toArray⟩))) (by kernel_rfl) (by exact ⟨d0, d1, d2⟩) (fun hHeld => ?_)
          rw [← hV9]
          rw [← hV9] at hHeld
          have FV9 : Fr Non wx V9 := by rw [hV9]; exact (Fr.refl Non _).drew
          clear hV9
          replace d0 := FV9.at0 d0
          replace d1 := FV9.at0 d1
          replace d2 := FV9.at0 d2
          refine wpAnyH_take (i := 0) (oi := ⟨some 38, _, _, _, _, none⟩) (v := ?v53) rfl (by kernel_rfl) (by kernel_rfl) (by kernel_rfl) (fun _ _ _ h => h) (Or.inl ⟨by rfl, ?hy53⟩) (by assumption) ?rest53
          case hy53 => (intro wS hSw; (try dsimp only at hSw); go_simp; (try with_reducible rfl))
          (try simp only [Act.put, zA, zB, zC])
          refine wpAnyH_take (i := 1) (oi := ⟨some 39, _, _, _, _, none⟩) (v := ?v54) rfl (by kernel_rfl) (by kernel_rfl) (by kernel_rfl) (fun _ _ _ h => h) (Or.inl ⟨by rfl, ?hy54⟩) (by assumption) ?rest54
          case hy54 => (intro wS hSw; (try dsimp only at hSw); go_simp; (try with_reducible rfl))
          (try simp only [Act.put, zA, zB, zC])
          refine wpAnyH_take (i := 2) (oi := ⟨some 40, _, _, _, _, none⟩) (v := ?v55) rfl (by kernel_rfl) (by kernel_rfl) (by kernel_rfl) (fun _ _ _ h => h) (Or.inl ⟨by rfl, ?hy55⟩) (by assumption) ?rest55
          case hy55 => (intro wS hSw; (try dsimp only at hSw); go_simp; (try with_reducible rfl))
          (try simp only [Act.put, zA, zB, zC])
          refine wpAnyH_take (i := 3) (oi := ⟨some 41, _, _, _, _, none⟩) (v := ?v56) rfl (by kernel_rfl) (by kernel_rfl) (by kernel_rfl) (fun _ _ _ h => h) (Or.inl ⟨by rfl, ?hy56⟩) (by assumption) ?rest56
          case hy56 => (intro wS hSw; (try dsimp only at hSw); go_simp; (try with_reducible rfl))
          (try simp only [Act.put, zA, zB, zC])
          refine wpAnyH_take (i := 4) (oi := ⟨some 42, _, _, _, _, none⟩) (v := ?v57) rfl (by kernel_rfl) (by kernel_rfl) (by kernel_rfl) (fun _ _ _ h => h) (Or.inl ⟨by rfl, ?hy57⟩) (by assumption) ?rest57
          case hy57 => (intro wS hSw; (try dsimp only at hSw); go_simp; (try with_reducible rfl))
          (try simp only [Act.put, zA, zB, zC])
          refine wpAnyH_take (i := 5) (oi := ⟨some 43, _, _, _, _, some (4, false)⟩) (v := undef) rfl (by kernel_rfl) (by kernel_rfl) (by kernel_rfl) (fun _ _ _ h => h) (Or.inr ⟨by rfl, rfl⟩) (by assumption) ?_
          (try simp only [Act.put, zA, zB, zC])
          refine wpAnyH_take (i := 6) (oi := ⟨some 44, _, _, _, _, some (4, false)⟩) (v := undef) rfl (by kernel_rfl) (by kernel_rfl) (by kernel_rfl) (fun _ _ _ h => h) (Or.inr ⟨by rfl, rfl⟩) (by assumption) ?_
          (try simp only [Act.put, zA, zB, zC])
          refine wpAnyH_take (i := 7) (oi := ⟨some 45, _, _, _, _, some (4, false)⟩) (v := undef) rfl (by kernel_rfl) (by kernel_rfl) (by kernel_rfl) (fun _ _ _ h => h) (Or.inr ⟨by rfl, rfl⟩) (by assumption) ?_
          (try simp only [Act.put, zA, zB, zC])
          refine wpAnyH_take (i := 8) (oi := ⟨some 46, _, _, _, _, some (4, false)⟩) (v := undef) rfl (by kernel_rfl) (by kernel_rfl) (by kernel_rfl) (fun _ _ _ h => h) (Or.inr ⟨by rfl, rfl⟩) (by assumption) ?_
          (try simp only [Act.put, zA, zB, zC])
          refine wpAnyH_take (i := 9) (oi := ⟨some 47, _, _, _, _, some (4, false)⟩) (v := undef) rfl (by kernel_rfl) (by kernel_rfl) (by kernel_rfl) (fun _ _ _ h => h) (Or.inr ⟨by rfl, rfl⟩) (by assumption) ?_
          (try simp only [Act.put, zA, zB, zC])
          refine wpAnyH_take (i := 10) (oi := ⟨some 48, _, _, _, _, some (4, false)⟩) (v := undef) rfl (by kernel_rfl) (by kernel_rfl) (by kernel_rfl) (fun _ _ _ h => h) (Or.inr ⟨by rfl, rfl⟩) (by assumption) ?_
          (try simp only [Act.put, zA, zB, zC])
          refine wpAnyH_take (i := 11) (oi := ⟨some 49, _, _, _, _, none⟩) (v := ?v58) rfl (by kernel_rfl) (by kernel_rfl) (by kernel_rfl) (fun _ _ _ h => h) (Or.inl ⟨by rfl, ?hy58⟩) (by assumption) ?rest58
          case hy58 => (intro wS hSw; (try dsimp only at hSw); go_simp; (try with_reducible rfl))
          (try simp only [Act.put, zA, zB, zC])
          refine wpAnyH_done (by kernel_rfl) ?_ _
          clear hHeld
          have FX := FX0
          have F9 : Fr Non wx V9 := FV9
          have HO9 := HO.out.non F9
          replace FX := Lib.hid (FX.out.trans F9)
          have hBB : g ≤ V9.drew.heap.size := by have h1 := F9.size; have h2 := HCg.out; have h3 := CB.out.lt; have : V9.drew.heap.size = V9.heap.size := rfl; omega
          obtain ⟨A3, c3, hs3, hp3⟩ := slice_hiCs Ak ks.length ck j .i64 (j : Int) rfl hj hck
          obtain ⟨A4, c4, hs4, hp4⟩ := slice_loCs Ak ks.length ck j .i64 (j : Int) rfl hj hck
          replace hp3 := Lib.hid hp3
          replace hp4 := Lib.hid hp4
          go_wp2
          obtain ⟨V10, hV10⟩ : ∃ V, V = V9.drew := ⟨_, rfl⟩
          refine wp_region_held_drew (S := (fun W' => W'.cell? ⟨C, 0, none⟩ = some (.bool cn) ∧ W'.cell? ⟨C, 1, none⟩ = some (.int .i64 ci) ∧ W'.cell? ⟨C, 2, none⟩ = some (.string ⟨ct.toArray⟩))) (by kernel_rfl) (by exact ⟨d0, d1, d2⟩) (fun hHeld => ?_)
          rw [← hV10]
          rw [← hV10] at hHeld
          have F10 : Fr Non V9 V10 := by rw [hV10]; exact (Fr.refl Non _).drew
          clear hV10
          replace d0 := F10.at0 d0
          replace d1 := F10.at0 d1
          replace d2 := F10.at0 d2
          have F10z : Fr Non V10 V10 := Fr.refl _ _
          have HO10 := HO9.non F10
          obtain ⟨B, hB⟩ : ∃ B, V10.heap.size = B := ⟨_, rfl⟩
          replace hB := Lib.hid hB
          replace hBB : g ≤ B := by have h1 := F10.size; have : V9.drew.heap.size = V9.heap.size := rfl; have := hB.out; omega
          refine wpAnyH_take (i := 1) (oi := ⟨some 51, _, _, _, _, none⟩) (v := ?v59) rfl (by kernel_rfl) (by kernel_rfl) (by kernel_rfl) (fun _ _ _ h => h) (Or.inl ⟨by rfl, ?hy59⟩) (by assumption) ?rest59
          case hy59 => (intro wS hSw; (try dsimp only at hSw); go_simp; (try with_reducible rfl))
          (try simp only [Act.put, zA, zB, zC])
          refine wpAnyH_take (i := 2) (oi := ⟨some 52, _, _, _, _, none⟩) (v := ?v60) rfl (by kernel_rfl) (by kernel_rfl) (by kernel_rfl) (fun _ _ _ h => h) (Or.inl ⟨by rfl, ?hy60⟩) (by assumption) ?rest60
          case hy60 => (intro wS hSw; (try dsimp only at hSw); go_simp; (try with_reducible rfl))
          (try simp only [Act.put, zA, zB, zC])
          refine wpAnyH_take (i := 3) (oi := ⟨some 53, _, _, _, _, none⟩) (v := ?v61) rfl (by kernel_rfl) (by kernel_rfl) (by kernel_rfl) (fun _ _ _ h => h) (Or.inl ⟨by rfl, ?hy61⟩) (by assumption) ?rest61
          case hy61 => (intro wS hSw; (try dsimp only at hSw); go_simp; (try with_reducible rfl))
          (try simp only [Act.put, zA, zB, zC])
          refine wpAnyH_take (i := 5) (oi := ⟨some 55, _, _, _, _, none⟩) (v := ?v62) rfl (by kernel_rfl) (by kernel_rfl) (by kernel_rfl) (fun _ _ _ h => h) (Or.inl ⟨by rfl, ?hy62⟩) (by assumption) ?rest62
          case hy62 => (intro wS hSw; (try dsimp only at hSw); go_simp; (try with_reducible rfl))
          (try simp only [Act.put, zA, zB, zC])
          refine wpAnyH_take (i := 8) (oi := ⟨some 58, _, _, _, _, none⟩) (v := ?v63) rfl (by kernel_rfl) (by kernel_rfl) (by kernel_rfl) (fun _ _ _ h => h) (Or.inl ⟨by rfl, ?hy63⟩) (by assumption) ?rest63
          case hy63 => (intro wS hSw; (try dsimp only at hSw); go_simp; (try with_reducible rfl))
          (try simp only [Act.put, zA, zB, zC])
          refine wpAnyH_take (i := 9) (oi := ⟨some 59, _, _, _, _, none⟩) (v := ?v64) rfl (by kernel_rfl) (by kernel_rfl) (by kernel_rfl) (fun _ _ _ h => h) (Or.inl ⟨by rfl, ?hy64⟩) (by assumption) ?rest64
          case hy64 => (intro wS hSw; (try dsimp only at hSw); go_simp; (try with_reducible rfl))
          (try simp only [Act.put, zA, zB, zC])
          refine wpAnyH_take (i := 10) (oi := ⟨some 60, _, _, _, _, none⟩) (v := ?v65) rfl (by kernel_rfl) (by kernel_rfl) (by kernel_rfl) (fun _ _ _ h => h) (Or.inl ⟨by rfl, ?hy65⟩) (by assumption) ?rest65
          case hy65 => (intro wS hSw; (try dsimp only at hSw); go_simp; (try with_reducible rfl))
          (try simp only [Act.put, zA, zB, zC])
          refine wpAnyH_ready (rs := [0, 6]) (by kernel_rfl) (by simp) ?_
          refine AllReadyH.cons (o := ⟨some 50, _, _, _, _, none⟩) rfl (fun K hK => ?_) ?_
          · obtain ⟨G, hG⟩ : ∃ G, V10.heap.size = G := ⟨_, rfl⟩
            obtain ⟨X0, hX0⟩ : ∃ W, W = V10.alloc (.cells #[] 25) := ⟨_, rfl⟩
            have HOe : Oc X0 B (.slice (some ⟨G, 0, none⟩) 0 0) [] := by rw [hX0]; exact oc_lit0 V10 B G hG.symm (by have := F10z.size; have := hB.out; omega)
            have fs : Fr Non V10 X0 := by rw [hX0]; exact (Fr.refl Non _).alloc _
            have Fa : Fr Non V10 X0 := F10z.trans fs
            have hGs : B ≤ G := by have := F10z.size; have := hB.out; omega
            go_simp
            rw [← hX0]
            clear hX0 fs
            refine hK.out _ _ (by exact ⟨Fa.at0 d0, Fa.at0 d1, Fa.at0 d2⟩) (fun hHeld => ?_)
            clear hK K
            (try simp only [Act.put, zA, zB, zC])
            refine wpAnyH_ready (rs := [4, 6]) (by kernel_rfl) (by simp) ?_
            refine AllReadyH.cons (o := ⟨some 54, _, _, _, _, none⟩) rfl (fun K hK => ?_) ?_
            · have HC3 : Cs X0 (.slice A3 j c3) (ks.take j) := hp3.out X0 ks (HO10.cs.non Fa)
              refine wp_appC (.tmp 50) (.tmp 53) rfl B (.slice (some ⟨G, 0, none⟩) 0 0) (.slice A3 j c3) [] (ks.take j) rfl HOe rfl HC3 (by simp; omega) (by have := Fa.size; have := hB.out; omega) ?_
              intro v4 X4 HO4 fs
              have Fb : Fr Non V10 X4 := Fa.fresh fs (fun q e => by have := (HOe.lt q e).1; have := hB.out; omega)
              refine hK.out _ _ (by exact ⟨Fb.at0 d0, Fb.at0 d1, Fb.at0 d2⟩) (fun hHeld => ?_)
              clear hK K
              (try simp only [Act.put, zA, zB, zC])
              clear fs HC3 HOe
              refine wpAnyH_ready (rs := [6]) (by kernel_rfl) (by simp) ?_
              refine AllReadyH.cons (o := ⟨some 56, _, _, _, _, none⟩) rfl (fun K hK => ?_) AllReadyH.nil
              obtain ⟨H, hH⟩ : ∃ H, X4.heap.size = H := ⟨_, rfl⟩
              obtain ⟨X6, hX6⟩ : ∃ W, W = X4.alloc (.cells #[.bool cn, .int .i64 ci, .string ⟨ct.toArray⟩] 25) := ⟨_, rfl⟩
              have HB1 : ClB X6 H ⟨cn, ci, ct⟩ := by rw [hX6, ← hH]; exact cl_new _ ⟨cn, ci, ct⟩
              have fs : Fr Non X4 X6 := by rw [hX6]; exact (Fr.refl Non _).alloc _
              have Fc : Fr Non V10 X6 := Fb.trans fs
              replace HO4 := HO4.non fs
              go_simp
              rw [← hX6]
              clear hX6 fs
              refine hK.out _ _ (by exact ⟨Fc.at0 d0, Fc.at0 d1, Fc.at0 d2⟩) (fun hHeld => ?_)
              clear hK K
              (try simp only [Act.put, zA, zB, zC])
              refine wpAnyH_ready (rs := [7]) (by kernel_rfl) (by simp) ?_
              refine AllReadyH.cons (o := ⟨some 57, _, _, _, _, none⟩) rfl (fun K hK => ?_) AllReadyH.nil
              have HC7 : Cs X6 (.slice (some ⟨H, 0, none⟩) 1 1) [⟨cn, ci, ct⟩] := cs_lit1 HB1
              refine wp_appC (.tmp 54) (.tmp 56) rfl B v4 (.slice (some ⟨H, 0, none⟩) 1 1) ([] ++ ks.take j) [⟨cn, ci, ct⟩] rfl HO4 rfl HC7 (by simp; omega) (by have := Fc.size; have := hB.out; omega) ?_
              intro v7 X67 HO7 fs
              have Fc7 : Fr Non V10 X67 := Fc.fresh fs (fun q e => by have := (HO4.lt q e).1; have := hB.out; omega)
              refine hK.out _ _ (by exact ⟨Fc7.at0 d0, Fc7.at0 d1, Fc7.at0 d2⟩) (fun hHeld => ?_)
              clear hK K
              (try simp only [Act.put, zA, zB, zC])
              clear fs HC7 HO4 HB1
              refine wpAnyH_ready (rs := [11]) (by kernel_rfl) (by simp) ?_
              refine AllReadyH.cons (o := ⟨some 61, _, _, _, _, none⟩) rfl (fun K hK => ?_) AllReadyH.nil
              have HC11 : Cs X67 (.slice A4 (ks.length - j) c4) (ks.drop j) := hp4.out X67 ks (HO10.cs.non Fc7)
              refine wp_appC (.tmp 57) (.tmp 60) rfl B v7 (.slice A4 (ks.length - j) c4) (([] ++ ks.take j) ++ [⟨cn, ci, ct⟩]) (ks.drop j) rfl HO7 rfl HC11 (by simp; omega) (by have := Fc7.size; have := hB.out; omega) ?_
              intro v11 X611 HO11 fs
              have Fc11 : Fr Non V10 X611 := Fc7.fresh fs (fun q e => by have := (HO7.lt q e).1; have := hB.out; omega)
              refine hK.out _ _ (by exact ⟨Fc11.at0 d0, Fc11.at0 d1, Fc11.at0 d2⟩) (fun hHeld => ?_)
              clear hK K
              (try simp only [Act.put, zA, zB, zC])
              clear fs HC11 HO7
              refine wpAnyH_take (i := 12) (oi := ⟨some 5, _, _, _, _, none⟩) (v := ?v66) rfl (by kernel_rfl) (by kernel_rfl) (by kernel_rfl) (fun _ _ _ h => h) (Or.inl ⟨by rfl, ?hy66⟩) (by assumption) ?rest66
              case hy66 => (intro wS hSw; (try dsimp only at hSw); go_simp; (try with_reducible rfl))
              (try simp only [Act.put, zA, zB, zC])
              refine wpAnyH_done (by kernel_rfl) ?_ _
              have hE : (([] ++ ks.take j) ++ [⟨cn, ci, ct⟩]) ++ ks.drop j = insK ⟨cn, ci, ct⟩ ks := by rw [List.nil_append]; exact HI.out.symm
              rw [hE] at HO11
              have FE := Lib.hid ((FX.out.trans F10).trans Fc11)
              have HOE := Lib.hid (HO11.mono hBB)
              clear hHeld HO11 Fc11 hE
              obtain ⟨A11, c11, rfl⟩ := HOE.out.shape
              go_wp2
              go_roundw
              case rel => exact ⟨i + 1, by omega, by go_num, by rw [HM.out]; exact HOE.out, FE⟩
              case measure => simp [intOf]; omega
            · refine AllReadyH.cons (o := ⟨some 56, _, _, _, _, none⟩) rfl (fun K hK => ?_) AllReadyH.nil
              obtain ⟨H, hH⟩ : ∃ H, X0.heap.size = H := ⟨_, rfl⟩
              obtain ⟨X6, hX6⟩ : ∃ W, W = X0.alloc (.cells #[.bool cn, .int .i64 ci, .string ⟨ct.toArray⟩] 25) := ⟨_, rfl⟩
              have HB1 : ClB X6 H ⟨cn, ci, ct⟩ := by rw [hX6, ← hH]; exact cl_new _ ⟨cn, ci, ct⟩
              have fs : Fr Non X0 X6 := by rw [hX6]; exact (Fr.refl Non _).alloc _
              have Fb : Fr Non V10 X6 := Fa.trans fs
              have hGH : G ≠ H := by have := (HOe.lt G rfl).2; omega
              replace HOe : Oc X6 B (.slice (some ⟨G, 0, none⟩) 0 0) [] := HOe.non fs
              go_simp
              rw [← hX6]
              clear hX6 fs
              refine hK.out _ _ (by exact ⟨Fb.at0 d0, Fb.at0 d1, Fb.at0 d2⟩) (fun hHeld => ?_)
              clear hK K
              (try simp only [Act.put, zA, zB, zC])
              refine wpAnyH_ready (rs := [4]) (by kernel_rfl) (by simp) ?_
              refine AllReadyH.cons (o := ⟨some 54, _, _, _, _, none⟩) rfl (fun K hK => ?_) AllReadyH.nil
              have HC3 : Cs X6 (.slice A3 j c3) (ks.take j) := hp3.out X6 ks (HO10.cs.non Fb)
              refine wp_appC (.tmp 50) (.tmp 53) rfl B (.slice (some ⟨G, 0, none⟩) 0 0) (.slice A3 j c3) [] (ks.take j) rfl HOe rfl HC3 (by simp; omega) (by have := Fb.size; have := hB.out; omega) ?_
              intro v4 X4 HO4 fs
              have Fc : Fr Non V10 X4 := Fb.fresh fs (fun q e => by have := (HOe.lt q e).1; have := hB.out; omega)
              replace HB1 : ClB X4 H ⟨cn, ci, ct⟩ := HB1.fr fs (fun e => by simp [Value.ownBlock] at e; omega)
              refine hK.out _ _ (by exact ⟨Fc.at0 d0, Fc.at0 d1, Fc.at0 d2⟩) (fun hHeld => ?_)
              clear hK K
              (try simp only [Act.put, zA, zB, zC])
              clear fs HC3 HOe
              refine wpAnyH_ready (rs := [7]) (by kernel_rfl) (by simp) ?_
              refine AllReadyH.cons (o := ⟨some 57, _, _, _, _, none⟩) rfl (fun K hK => ?_) AllReadyH.nil
              have HC7 : Cs X4 (.slice (some ⟨H, 0, none⟩) 1 1) [⟨cn, ci, ct⟩] := cs_lit1 HB1
              refine wp_appC (.tmp 54) (.tmp 56) rfl B v4 (.slice (some ⟨H, 0, none⟩) 1 1) ([] ++ ks.take j) [⟨cn, ci, ct⟩] rfl HO4 rfl HC7 (by simp; omega) (by have := Fc.size; have := hB.out; omega) ?_
              intro v7 X47 HO7 fs
              have Fc7 : Fr Non V10 X47 := Fc.fresh fs (fun q e => by have := (HO4.lt q e).1; have := hB.out; omega)
              refine hK.out _ _ (by exact ⟨Fc7.at0 d0, Fc7.at0 d1, Fc7.at0 d2⟩) (fun hHeld => ?_)
              clear hK K
              (try simp only [Act.put, zA, zB, zC])
              clear fs HC7 HO4 HB1
              refine wpAnyH_ready (rs := [11]) (by kernel_rfl) (by simp) ?_
              refine AllReadyH.cons (o := ⟨some 61, _, _, _, _, none⟩) rfl (fun K hK => ?_) AllReadyH.nil
              have HC11 : Cs X47 (.slice A4 (ks.length - j) c4) (ks.drop j) := hp4.out X47 ks (HO10.cs.non Fc7)
              refine wp_appC (.tmp 57) (.tmp 60) rfl B v7 (.slice A4 (ks.length - j) c4) (([] ++ ks.take j) ++ [⟨cn, ci, ct⟩]) (ks.drop j) rfl HO7 rfl HC11 (by simp; omega) (by have := Fc7.size; have := hB.out; omega) ?_
              intro v11 X411 HO11 fs
              have Fc11 : Fr Non V10 X411 := Fc7.fresh fs (fun q e => by have := (HO7.lt q e).1; have := hB.out; omega)
              refine hK.out _ _ (by exact ⟨Fc11.at0 d0, Fc11.at0 d1, Fc11.at0 d2⟩) (fun hHeld => ?_)
              clear hK K
              (try simp only [Act.put, zA, zB, zC])
              clear fs HC11 HO7
              refine wpAnyH_take (i := 12) (oi := ⟨some 5, _, _, _, _, none⟩) (v := ?v67) rfl (by kernel_rfl) (by kernel_rfl) (by kernel_rfl) (fun _ _ _ h => h) (Or.inl ⟨by rfl, ?hy67⟩) (by assumption) ?rest67
              case hy67 => (intro wS hSw; (try dsimp only at hSw); go_simp; (try with_reducible rfl))
              (try simp only [Act.put, zA, zB, zC])
              refine wpAnyH_done (by kernel_rfl) ?_ _
              have hE : (([] ++ ks.take j) ++ [⟨cn, ci, ct⟩]) ++ ks.drop j = insK ⟨cn, ci, ct⟩ ks := by rw [List.nil_append]; exact HI.out.symm
              rw [hE] at HO11
              have FE := Lib.hid ((FX.out.trans F10).trans Fc11)
              have HOE := Lib.hid (HO11.mono hBB)
              clear hHeld HO11 Fc11 hE
              obtain ⟨A11, c11, rfl⟩ := HOE.out.shape
              go_wp2
              go_roundw
              case rel => exact ⟨i + 1, by omega, by go_num, by rw [HM.out]; exact HOE.out, FE⟩
              case measure => simp [intOf]; omega
          · refine AllReadyH.cons (o := ⟨some 56, _, _, _, _, none⟩) rfl (fun K hK => ?_) AllReadyH.nil
            obtain ⟨H, hH⟩ : ∃ H, V10.heap.size = H := ⟨_, rfl⟩
            obtain ⟨X6, hX6⟩ : ∃ W, W = V10.alloc (.cells #[.bool cn, .int .i64 ci, .string ⟨ct.toArray⟩] 25) := ⟨_, rfl⟩
            have HB1 : ClB X6 H ⟨cn, ci, ct⟩ := by rw [hX6, ← hH]; exact cl_new _ ⟨cn, ci, ct⟩
            have fs : Fr Non V10 X6 := by rw [hX6]; exact (Fr.refl Non _).alloc _
            have Fa : Fr Non V10 X6 := F10z.trans fs
            go_simp
            rw [← hX6]
            clear hX6 fs
            refine hK.out _ _ (by exact ⟨Fa.at0 d0, Fa.at0 d1, Fa.at0 d2⟩) (fun hHeld => ?_)
            clear hK K
            (try simp only [Act.put, zA, zB, zC])
            refine wpAnyH_ready (rs := [0]) (by kernel_rfl) (by simp) ?_
            refine AllReadyH.cons (o := ⟨some 50, _, _, _, _, none⟩) rfl (fun K hK => ?_) AllReadyH.nil
            obtain ⟨G, hG⟩ : ∃ G, X6.heap.size = G := ⟨_, rfl⟩
            obtain ⟨X0, hX0⟩ : ∃ W, W = X6.alloc (.cells #[] 25) := ⟨_, rfl⟩
            have HOe : Oc X0 B (.slice (some ⟨G, 0, none⟩) 0 0) [] := by rw [hX0]; exact oc_lit0 X6 B G hG.symm (by have := Fa.size; have := hB.out; omega)
            have fs : Fr Non X6 X0 := by rw [hX0]; exact (Fr.refl Non _).alloc _
            have Fb : Fr Non V10 X0 := Fa.trans fs
            have hGs : B ≤ G := by have := Fa.size; have := hB.out; omega
            have hGH : G ≠ H := by have := HB1.lt; omega
            replace HB1 : ClB X0 H ⟨cn, ci, ct⟩ := HB1.fr fs (fun e => e)
            go_simp
            rw [← hX0]
            clear hX0 fs
            refine hK.out _ _ (by exact ⟨Fb.at0 d0, Fb.at0 d1, Fb.at0 d2⟩) (fun hHeld => ?_)
            clear hK K
            (try simp only [Act.put, zA, zB, zC])
            refine wpAnyH_ready (rs := [4]) (by kernel_rfl) (by simp) ?_
            refine AllReadyH.cons (o := ⟨some 54, _, _, _, _, none⟩) rfl (fun K hK => ?_) AllReadyH.nil
            have HC3 : Cs X0 (.slice A3 j c3) (ks.take j) := hp3.out X0 ks (HO10.cs.non Fb)
            refine wp_appC (.tmp 50) (.tmp 53) rfl B (.slice (some ⟨G, 0, none⟩) 0 0) (.slice A3 j c3) [] (ks.take j) rfl HOe rfl HC3 (by simp; omega) (by have := Fb.size; have := hB.out; omega) ?_
            intro v4 X4 HO4 fs
            have Fc : Fr Non V10 X4 := Fb.fresh fs (fun q e => by have := (HOe.lt q e).1; have := hB.out; omega)
            replace HB1 : ClB X4 H ⟨cn, ci, ct⟩ := HB1.fr fs (fun e => by simp [Value.ownBlock] at e; omega)
            refine hK.out _ _ (by exact ⟨Fc.at0 d0, Fc.at0 d1, Fc.at0 d2⟩) (fun hHeld => ?_)
            clear hK K
            (try simp only [Act.put, zA, zB, zC])
            clear fs HC3 HOe
            refine wpAnyH_ready (rs := [7]) (by kernel_rfl) (by simp) ?_
            refine AllReadyH.cons (o := ⟨some 57, _, _, _, _, none⟩) rfl (fun K hK => ?_) AllReadyH.nil
            have HC7 : Cs X4 (.slice (some ⟨H, 0, none⟩) 1 1) [⟨cn, ci, ct⟩] := cs_lit1 HB1
            refine wp_appC (.tmp 54) (.tmp 56) rfl B v4 (.slice (some ⟨H, 0, none⟩) 1 1) ([] ++ ks.take j) [⟨cn, ci, ct⟩] rfl HO4 rfl HC7 (by simp; omega) (by have := Fc.size; have := hB.out; omega) ?_
            intro v7 X47 HO7 fs
            have Fc7 : Fr Non V10 X47 := Fc.fresh fs (fun q e => by have := (HO4.lt q e).1; have := hB.out; omega)
            refine hK.out _ _ (by exact ⟨Fc7.at0 d0, Fc7.at0 d1, Fc7.at0 d2⟩) (fun hHeld => ?_)
            clear hK K
            (try simp only [Act.put, zA, zB, zC])
            clear fs HC7 HO4 HB1
            refine wpAnyH_ready (rs := [11]) (by kernel_rfl) (by simp) ?_
            refine AllReadyH.cons (o := ⟨some 61, _, _, _, _, none⟩) rfl (fun K hK => ?_) AllReadyH.nil
            have HC11 : Cs X47 (.slice A4 (ks.length - j) c4) (ks.drop j) := hp4.out X47 ks (HO10.cs.non Fc7)
            refine wp_appC (.tmp 57) (.tmp 60) rfl B v7 (.slice A4 (ks.length - j) c4) (([] ++ ks.take j) ++ [⟨cn, ci, ct⟩]) (ks.drop j) rfl HO7 rfl HC11 (by simp; omega) (by have := Fc7.size; have := hB.out; omega) ?_
            intro v11 X411 HO11 fs
            have Fc11 : Fr Non V10 X411 := Fc7.fresh fs (fun q e => by have := (HO7.lt q e).1; have := hB.out; omega)
            refine hK.out _ _ (by exact ⟨Fc11.at0 d0, Fc11.at0 d1, Fc11.at0 d2⟩) (fun hHeld => ?_)
            clear hK K
            (try simp only [Act.put, zA, zB, zC])
            clear fs HC11 HO7
            refine wpAnyH_take (i := 12) (oi := ⟨some 5, _, _, _, _, none⟩) (v := ?v68) rfl (by kernel_rfl) (by kernel_rfl) (by kernel_rfl) (fun _ _ _ h => h) (Or.inl ⟨by rfl, ?hy68⟩) (by assumption) ?rest68
            case hy68 => (intro wS hSw; (try dsimp only at hSw); go_simp; (try with_reducible rfl))
            (try simp only [Act.put, zA, zB, zC])
            refine wpAnyH_done (by kernel_rfl) ?_ _
            have hE : (([] ++ ks.take j) ++ [⟨cn, ci, ct⟩]) ++ ks.drop j = insK ⟨cn, ci, ct⟩ ks := by rw [List.nil_append]; exact HI.out.symm
            rw [hE] at HO11
            have FE := Lib.hid ((FX.out.trans F10).trans Fc11)
            have HOE := Lib.hid (HO11.mono hBB)
            clear hHeld HO11 Fc11 hE
            obtain ⟨A11, c11, rfl⟩ := HOE.out.shape
            go_wp2
            go_roundw
            case rel => exact ⟨i + 1, by omega, by go_num, by rw [HM.out]; exact HOE.out, FE⟩
            case measure => simp [intOf]; omega
    · have hie : i = rows.length := by omega
      rw [hie, List.take_of_length_le (by rw [colC_length]; exact Nat.le_refl _)] at HO
      go_wp2
      go_ret
      exact ⟨_, rfl, HO.out, FR.out⟩
end Go.Proofs.YtjcfjjhhbcgcmaaGreat

namespace Go.Proofs.YtjcfjjhhbcgcmaaGreat
open Go.RowKit
theorem w6_wrap64 (n : Int) : wrap64 n = w6 n := by unfold wrap64 w6; rfl
end Go.Proofs.YtjcfjjhhbcgcmaaGreat
