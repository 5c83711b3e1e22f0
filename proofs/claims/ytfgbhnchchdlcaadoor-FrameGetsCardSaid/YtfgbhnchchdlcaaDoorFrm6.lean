/-
  Layer 3: the walks of firkinref03.Lists and firkinref03.All.
-/
import Derived.Test.YtfgbhnchchdlcaaDoorFrm3
import Derived.Test.YtfgbhnchchdlcaaDoorRow
namespace Go.Proofs.YtfgbhnchchdlcaaDoor
set_option linter.unusedVariables false
set_option linter.unusedSimpArgs false
open Go.RowKit

theorem Bss.fr {S : Nat → Prop} {w w' : World} {v : Value} {ls : List (List UInt8)} (h : Bss w v ls) (hf : Fr S w w') (h0 : Fr Non w w') : Bss w' v ls := h.non h0

theorem lists_eq_take (l1 l2 : List (List UInt8)) (k : Nat) (h1 : k < l1.length) (h2 : k < l2.length) (h : l1.take k = l2.take k) (he : l1[k] = l2[k]) : l1.take (k + 1) = l2.take (k + 1) := by
  rw [List.take_succ_eq_append_getElem h1, List.take_succ_eq_append_getElem h2, h, he]
set_option maxHeartbeats 1000000 in
theorem lists_any (v1 v2 : Value) (l1 l2 : List (List UInt8)) (w : World) (h1 : Bss w v1 l1) (h2 : Bss w v2 l2) (hl : l1.length ≤ 9223372036854775807) (hl2 : l2.length ≤ 9223372036854775807) :
    Calls Tryd.prog 16 #[v1, v2] w fun e w' => e = .returned (.bool (l1 == l2)) ∧ Fr Non w w' := by
  have H1 := Lib.hid h1
  have H2 := Lib.hid h2
  obtain ⟨A1, c1, rfl, hc1, hn1, _⟩ := h1
  obtain ⟨A2, c2, rfl, hc2, hn2, _⟩ := h2
  have HN1 := Lib.hid hn1
  have HN2 := Lib.hid hn2
  clear hn1 hn2
  by_cases hlen : l1.length = l2.length
  · have HE := Lib.hid hlen
    have hne : (((l1.length : Nat) : Int) != ((l2.length : Nat) : Int)) = false := by rw [bne_eq_false_iff_eq]; omega
    have hle : l1.length ≤ l2.length := by omega
    clear hlen
    go_enter Tryd.func16, Tryd.ntmps16
    go_wp2
    go_loopw [5] (fun i wr => ∃ k : Nat, k ≤ l1.length ∧ i = .int .i64 k ∧ l1.take k = l2.take k ∧ Fr Non w wr) (fun i _ => l1.length - (intOf i).toNat)
    case atStart => exact ⟨0, Nat.zero_le _, rfl, rfl, Fr.refl _ _⟩
    case round =>
      obtain ⟨k, hk, rfl, htk, hfr⟩ := hrel
      have HTK := Lib.hid htk
      clear htk
      by_cases hlt : k < l1.length
      · cases A1 with
        | none => have := HN1.out rfl; omega
        | some a1 =>
          cases A2 with
          | none => have := HN2.out rfl; omega
          | some a2 =>
            obtain ⟨_, _, he1, _, _, hcell1⟩ := H1.out.non hfr
            cases he1
            obtain ⟨_, _, he2, _, _, hcell2⟩ := H2.out.non hfr
            cases he2
            obtain ⟨u1, hu1, hb1⟩ := hcell1 a1 rfl k hlt
            have hlt2 : k < l2.length := by omega
            obtain ⟨u2, hu2, hb2⟩ := hcell2 a2 rfl k hlt2
            have k1 := fun n => run_conv_Bs (hb1.drewN n) 22 9 5 Tryd.underlying22 Tryd.underlying5 Tryd.underlying9
            have k2 := fun n => run_conv_Bs (hb2.drewN n) 22 9 5 Tryd.underlying22 Tryd.underlying5 Tryd.underlying9
            have HEQ := Lib.hid (lists_eq_take l1 l2 k hlt hlt2 HTK.out)
            have HD := Lib.hid (fun (h : l1[k] ≠ l2[k]) (e : l1 = l2) => h (by subst e; rfl))
            have hi1 : (k : Int) < l1.length := by omega
            have hi2 : (k : Int) < l2.length := by omega
            clear hcell1 hcell2 hb1 hb2
            generalize l1[k] = m1 at *
            generalize l2[k] = m2 at *
            go_wp2_with fail
            go_quiet (fail)
            by_cases hm : m1 = m2
            · subst hm
              rw [beq_self_eq_true]
              go_wp2
              go_roundw
              case rel => exact ⟨k + 1, by omega, by go_num, HEQ.out rfl, hfr.drewN _⟩
              case measure => simp [intOf]; omega
            · have hb : (m1 == m2) = false := beq_eq_false_iff_ne.2 hm
              rw [hb]
              have HX := Lib.hid (beq_eq_false_iff_ne.2 (HD.out hm))
              clear hb hm
              go_wp2
              go_ret
              rw [HX.out]
              exact ⟨rfl, hfr.drewN _⟩
      · have HX : Hid ((l1 == l2) = true) := Lib.hid (by
          rw [beq_iff_eq]
          have h := HTK.out
          rwa [List.take_of_length_le (by omega), List.take_of_length_le (by have := HE.out; omega)] at h)
        go_wp2
        go_ret
        rw [HX.out]
        exact ⟨rfl, hfr⟩
  · have hne : (((l1.length : Nat) : Int) != ((l2.length : Nat) : Int)) = true := by rw [bne_iff_ne]; omega
    have HX : Hid ((l1 == l2) = false) := Lib.hid (beq_eq_false_iff_ne.2 (fun e => hlen (by rw [e])))
    clear hlen
    go_enter Tryd.func16, Tryd.ntmps16
    go_wp2
    go_ret
    rw [HX.out]
    exact ⟨rfl, Fr.refl _ _⟩

set_option maxHeartbeats 1000000 in
theorem rall_any (v : Value) (l : List UInt8) (w : World) (hv : Bs w v l) (hvl : ∀ k, v.ownBlock = some k → k < w.heap.size) (hl : l.length < 1000000000) :
    Calls Tryd.prog 15 #[v] w fun e w' => ∃ u, e = .returned (.tuple #[u, .int .i64 (allN l.length l)]) ∧ Owns w' w.heap.size u (allB l.length l) ∧ Fr Non w w' := by
  have HB := Lib.hid hv
  have HVL := Lib.hid hvl
  obtain ⟨A, c, rfl, hlc, hnil, _⟩ := hv
  have HNIL := Lib.hid hnil
  clear hvl hnil
  go_enter Tryd.func15, Tryd.ntmps15
  go_wp2
  go_loopw [4, 5] (fun o i wr => ∃ (pre : List (List UInt8)) (pos : Nat), Sofar l pre pos ∧ i = .int .i64 pos ∧ Owns wr w.heap.size o pre ∧ Fr Non w wr) (fun _ i _ => l.length - (intOf i).toNat)
  case atStart => exact ⟨[], 0, Sofar.start l, rfl, owns_lit0 w w.heap.size _ rfl (Nat.le_refl _), (Fr.refl _ _).alloc _⟩
  case round =>
    obtain ⟨pre, pos, hso, rfl, hown, hfr⟩ := hrel
    have HS := Lib.hid hso
    have hpos : pos ≤ l.length := hso.1
    have HPL := Lib.hid (show pre.length < 1099511627776 by
      obtain ⟨_, f, h1, _, _⟩ := hso
      have h2 := allB_len l.length l
      rw [h1, List.length_append] at h2
      omega)
    have hB := hfr.size
    clear hso
    by_cases hlt : pos < l.length
    · obtain ⟨A1, c1, hrun, hbs, hob⟩ := slice_lo A l.length c pos .i64 (pos : Int) rfl hpos hlc
      have HB1 := Lib.hid (hbs wr l rfl (HB.out.non hfr))
      have HV1 := Lib.hid (show ∀ k, (Value.slice A1 (l.length - pos) c1).ownBlock = some k → k < wr.heap.size from fun k hk => by
        have := HVL.out k (by rw [← hob]; exact hk); omega)
      have HLd := Lib.hid (show (l.drop pos).length < 1000000000 by rw [List.length_drop]; omega)
      clear hbs hob
      go_wp2_with fail
      refine (rgetO_any _ (l.drop pos) wr HB1.out HV1.out HLd.out).mono ?_
      rintro e w1 ⟨u, rfl, hu, hf1⟩
      have hown1 := hown.non hf1
      have hfr1 := hfr.trans hf1
      have hu1 := hu.mono (B' := w.heap.size) hB
      have hB1 := hfr1.size
      clear hown hfr hf1 hu hrun
      by_cases hg : gE (l.drop pos) = 0
      · have HST := Lib.hid (HS.out.step hg)
        have hz := gE_zero hg
        rw [List.length_drop] at hz
        rw [hg]
        clear hg
        generalize gN (l.drop pos) = n at *
        generalize gB (l.drop pos) = b at *
        obtain ⟨Au, cu, rfl⟩ := hu1.bs.shape
        go_wp2_with (at_builtin; refine wpList_pushs rfl (.tmp 26) (.tmp 28) rfl w.heap.size u4 (.slice Au b.length cu) pre b rfl hown1 hu1 rfl HPL.out hB1 ?_; intro v' w2 hown2 hf2)
        go_roundw
        case rel => exact ⟨pre ++ [b], pos + n, HST.out, by go_num, hown2, hfr1.fresh hf2 fun k hk => (hown1.lt k hk).1⟩
        case measure => simp [intOf]; omega
      · have HST := Lib.hid (HS.out.stop hg)
        have hne : (((gE (l.drop pos) : Nat) : Int) != 0) = true := by rw [bne_iff_ne]; omega
        clear hg
        go_wp2_with fail
        go_ret2
        rw [HST.out.1, HST.out.2]
        exact ⟨_, rfl, hown1, hfr1⟩
    · have HST := Lib.hid (HS.out.stop (by rw [List.drop_of_length_le (by omega), gE_nil]; decide))
      go_wp2_with fail
      go_ret2
      rw [HST.out.1, HST.out.2]
      exact ⟨_, rfl, hown, hfr⟩
end Go.Proofs.YtfgbhnchchdlcaaDoor
