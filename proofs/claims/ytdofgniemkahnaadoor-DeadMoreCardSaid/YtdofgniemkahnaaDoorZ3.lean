/-
  Joined: Layer 14: the rows that are left: the program's. · Layer 14: the rows that are left, copied; the document's. · Layer 14: the rows that are left: the document's; the example. · Lists of cells compared, and lists of such lists: firkinref09's All and Rows. · Layer 14: the example; the walks of the laws. · Layer 14: the walk of the law on more rows gone. · The frame of a law's proof, for any parameters: where the call returned true and turned nothing that was there, the row's words hold. · Arguments opened: a slice of one-celled elements of any type; of truths; of whole numbers. · Arguments opened: a cell by value; a value of each type. · Arguments opened: a slice of cells. · Arguments opened: a slice of slices of cells. · Arguments of layer 2's laws, opened: a number of 32 bits, four bytes by value, a slice of slices of bytes; and the table that the program lays.
-/
import Derived.Lib.Zigzag
import Derived.Laws.Rows
import Derived.Laws.ResultCell
import Derived.Test.YtdofgniemkahnaaDoorZ1
import Derived.Test.YtdofgniemkahnaaDoorZ2
import Derived.Deep.RegionWith
import Derived.Deep.RegionHeld3
import Derived.Deep.QuietTactic
import Derived.Test.YtdofgniemkahnaaDoorRows
import Derived.ProofKit
import Derived.OpenShut
import Derived.ShutString
import Derived.ChangeOld
import Derived.Below
import Derived.Deep.Slices
import Derived.Lib.SmallJoins
import Derived.Deep.Matrix
import Derived.LaidMore
import Derived.Lib.LaidTab
import Derived.Laws.IdiomArrays

namespace Go.Proofs.YtdofgniemkahnaaDoor
set_option linter.unusedVariables false
set_option linter.unusedSimpArgs false
set_option maxRecDepth 100000
open Go.RowKit

/-- rows as pairs: each one's words, and the cells that it reads as -/
theorem Rs.pairs {w : World} {v : Value} {rs : List (List Cl)} (h : Rs w v rs) : ∃ ps : List (Sl × List Cl), ps.map Prod.snd = rs ∧ Vs slV w v (ps.map Prod.fst) ∧ ∀ p ∈ ps, Cs w (slV p.1) p.2 := by
  obtain ⟨hs, h1, h2, h3⟩ := h
  refine ⟨hs.zip rs, by rw [List.map_snd_zip (by omega)], by rw [List.map_fst_zip (by omega)]; exact h2, fun p hp => ?_⟩
  obtain ⟨i, hi, rfl⟩ := List.mem_iff_getElem.1 hp
  rw [List.length_zip] at hi
  rw [List.getElem_zip]
  exact h3 i (by omega) (by omega)
theorem Rs.of_pairs {w : World} {v : Value} {ps : List (Sl × List Cl)} (h : Vs slV w v (ps.map Prod.fst)) (h2 : ∀ p ∈ ps, Cs w (slV p.1) p.2) : Rs w v (ps.map Prod.snd) := by
  refine ⟨ps.map Prod.fst, by simp, h, fun i a b => ?_⟩
  simp only [List.getElem_map]
  exact h2 _ (List.getElem_mem _)
theorem liveR_map {α β : Type} (f : α → β) : ∀ (rs : List α) (l : List Bool), liveR (rs.map f) l = (liveR rs l).map f
  | [], l => by rw [List.map_nil, liveR_none, liveR_none]; rfl
  | r :: rs, [] => rfl
  | r :: rs, b :: l => by
    rw [List.map_cons, liveR, liveR, liveR_map f rs l]
    split <;> simp

/-- where the first true one is -/
def IdxOf (l : List Bool) (z : Int) : Prop := (z = -1 ∧ ∀ i (h : i < l.length), l[i] = false) ∨ ∃ (k : Nat) (h : k < l.length), z = (k : Int) ∧ l[k] = true ∧ ∀ i (hi : i < k), l[i]'(by omega) = false

set_option maxHeartbeats 1000000 in
theorem indexB_any (v : Value) (l : List Bool) (w : World) (hv : Vs tv w v l) (hl : l.length ≤ 9223372036854775806) :
    Calls Tryd.prog 50 #[v, .bool true] w fun e w' => ∃ z : Int, e = .returned (.int .i64 z) ∧ IdxOf l z ∧ Fr Non w w' := by
  have HV := Lib.hid hv
  obtain ⟨A, c, rfl⟩ := hv.shape
  clear hv
  go_enter Tryd.func50, Tryd.ntmps50
  go_wp2
  go_loopw [8] (fun i wr => ∃ k : Nat, k ≤ l.length ∧ i = .int .i64 k ∧ Hid (∀ i (hi : i < k) (h : i < l.length), l[i] = false) ∧ Fr Non w wr) (fun i _ => l.length - (intOf i).toNat)
  case atStart => exact ⟨0, Nat.zero_le _, rfl, Lib.hid (fun i hi => absurd hi (by omega)), Fr.refl _ _⟩
  case round =>
    obtain ⟨k, hk, rfl, HP, hF⟩ := hrel
    have HF := Lib.hid hF
    by_cases hlt : k < l.length
    · obtain ⟨a, rfl, _, _, hcell⟩ := (HV.out.non hF).addr (by omega)
      have q := hcell k hlt
      unfold tv at q
      clear hcell hF
      cases hb : l[k] with
      | true =>
        rw [hb] at q
        have HI : Hid (IdxOf l k) := Lib.hid (.inr ⟨k, hlt, rfl, hb, fun i hi => HP.out i hi (by omega)⟩)
        clear hb
        go_wp2
        go_ret
        exact ⟨_, rfl, HI.out, HF.out⟩
      | false =>
        rw [hb] at q
        have HP2 : Hid (∀ i (hi : i < k + 1) (h : i < l.length), l[i] = false) := Lib.hid (fun i hi h => by
          by_cases e : i = k
          · subst e; exact hb
          · exact HP.out i (by omega) h)
        clear hb HP
        go_wp2
        go_roundw
        case rel => exact ⟨k + 1, by omega, by go_num, HP2, HF.out⟩
        case measure => simp [intOf]; omega
    · have HI : Hid (IdxOf l (-1)) := Lib.hid (.inl ⟨rfl, fun i h => HP.out i (by omega) h⟩)
      go_wp2
      go_ret
      exact ⟨_, rfl, HI.out, HF.out⟩

set_option maxHeartbeats 400000 in
theorem cloneC_any (v : Value) (l : List Cl) (w : World) (h : Cs w v l) (hl : l.length < 4398046511104) :
    Calls Tryd.prog 33 #[v] w fun e w' => ∃ u, e = .returned u ∧ Oc w' w.heap.size u l ∧ Fr Non w w' := by
  have HB := Lib.hid h
  have hq := fun (W : World) (a : Option Addr) (n c : Nat) => Lib.run_eql_slice_nil (P := Tryd.prog) W 59 62 a n c 0 0 Tryd.underlying59
  obtain ⟨A, c, rfl, hlc, hn, _⟩ := h
  cases A with
  | none =>
    have hc : c = 0 := hn rfl
    subst hc
    have hl0 : l = [] := List.eq_nil_of_length_eq_zero (by omega)
    subst hl0
    go_enter Tryd.func33, Tryd.ntmps33
    go_wp2
    go_ret
    exact ⟨_, rfl, oc_nil _ _, Fr.refl _ _⟩
  | some a =>
    clear hn
    go_enter Tryd.func33, Tryd.ntmps33
    go_wp2_with (at_builtin; refine wpList_appC (by rfl) (.tmp 5) (.tmp 6) rfl w.heap.size (.slice (some ⟨w.heap.size, 0, none⟩) 0 0) (.slice (some a) l.length c) [] l rfl (oc_lit0 _ _ _ rfl (Nat.le_refl _)) rfl (HB.out.non ((Fr.refl _ _).alloc _)) (by simp; omega) (by simp) ?_; intro v3 w3 hown hf3)
    go_ret
    refine ⟨_, rfl, by simpa using hown, ((Fr.refl Non w).alloc _).fresh hf3 (fun k hk => by simp [Value.ownBlock] at hk; omega)⟩

set_option maxHeartbeats 4000000 in
theorem without_walk (A1 A2 : Option Addr) (c1 c2 nh nl n : Nat) (y : Int) (hs : List Sl) (l : List Bool) (w : World) (eh : hs.length = nh) (el : l.length = nl) (h1 : Vs slV w (.slice A1 nh c1) hs) (h2 : Vs tv w (.slice A2 nl c2) l) (hl1 : nh ≤ 1000000) (hl2 : nl ≤ 1000000000)
    (hy : y = (n : Int)) (hcs : y = (nl : Int) ∧ nl ≤ nh ∨ y = (nh : Int) ∧ nh < nl) :
    Calls Tryd.prog 32 #[.slice A1 nh c1, .slice A2 nl c2] w fun e w' => ∃ u, e = .returned u ∧ Vs slV w' u (liveR hs l) ∧ Fr Non w w' := by
  have H1 := Lib.hid h1
  have hc1 : nh ≤ c1 := by
    obtain ⟨A, c, he, h, _⟩ := h1
    simp only [Value.slice.injEq] at he
    omega
  have hc2 : nl ≤ c2 := by
    obtain ⟨A, c, he, h, _⟩ := h2
    simp only [Value.slice.injEq] at he
    omega
  have hnl : n ≤ nl := by omega
  have hnh : n ≤ nh := by omega
  obtain ⟨A3, c3, hrun, hvs, -⟩ := slice_hiG el_bool A2 nl c2 n .i64 y hy hnl hc2
  have h3 := hvs tv w l el h2
  have HLt : Hid (liveR hs (l.take n) = liveR hs l) := Lib.hid (by
    rcases hcs with ⟨e, _⟩ | ⟨e, _⟩
    · rw [List.take_of_length_le (by omega)]
    · have := liveR_take hs l
      rwa [eh, show nh = n by omega] at this)
  have hll : (l.take n).length = n := by rw [List.length_take]; omega
  have hn3 : n ≤ c3 := by
    obtain ⟨A, c, he, h, _⟩ := h3
    simp only [Value.slice.injEq] at he
    omega
  generalize l.take n = m at *
  have HLL := Lib.hid hll
  have HEH := Lib.hid eh
  have HI := Lib.hid (fun W (hf : Fr Non w W) => indexB_any _ m W (h3.non hf) (by omega))
  have H3 := Lib.hid h3
  clear h1 h2 hvs h3 hll eh el
  rcases hcs with ⟨rfl, hle⟩ | ⟨rfl, hle⟩
  all_goals
    clear hy
    go_enter Tryd.func32, Tryd.ntmps32
    go_wp2_with fail
    refine (HI.out w (Fr.refl _ _)).mono ?_
    rintro e w1 ⟨z, rfl, hz, f1⟩
    have HF1 := Lib.hid f1
    clear f1
    rcases hz with ⟨rfl, hall⟩ | ⟨k, hk, rfl, hyes, hbef⟩
    · have HX : Hid (liveR hs l = hs) := Lib.hid (by rw [← HLt.out]; exact liveR_all hs m hall)
      clear hall
      go_wp2
      go_ret
      exact ⟨_, rfl, by rw [HX.out]; exact H1.out.non HF1.out, HF1.out⟩
    · have hkn : k < n := by have := HLL.out; omega
      have HX : Hid (liveR hs l = hs.take k ++ liveR (hs.drop (k + 1)) (m.drop (k + 1))) := Lib.hid (by rw [← HLt.out]; exact liveR_first hs m k (by have := HEH.out; omega) hk hyes hbef)
      obtain ⟨A4, hrun4, hfu, -⟩ := slice_hmG el_rows A1 nh c1 k .i64 .i64 (k : Int) (k : Int) rfl rfl (by omega) hc1
      have HFu := Lib.hid (hfu slV 59 w1 w.heap.size hs HEH.out (H1.out.non HF1.out))
      clear hk hyes hbef hfu
      go_wp2
      go_loopw [6, 7] (fun u i wr => ∃ (j : Nat) (so : List Sl), k + 1 ≤ j ∧ j ≤ n ∧ i = .int .i64 j ∧ so.length ≤ j ∧ Hid (liveR hs l = so ++ liveR (hs.drop j) (m.drop j)) ∧ Fu slV 59 wr w.heap.size u so ∧ Fr Non w wr) (fun u i _ => n - (intOf i).toNat)
      case atStart => exact ⟨k + 1, hs.take k, Nat.le_refl _, hkn, by go_num, by rw [List.length_take]; omega, HX, HFu.out, HF1.out⟩
      case round =>
        clear HFu HX HF1
        obtain ⟨j, so, hkj, hjn, rfl, hso, HX, hFu, hF⟩ := hrel
        obtain ⟨A5, c5, rfl⟩ := hFu.shape
        have HFu := Lib.hid hFu
        have HF := Lib.hid hF
        have hB := hF.size
        by_cases hlt : j < n
        · have hjm : j < m.length := by have := HLL.out; omega
          have hjh : j < hs.length := by have := HEH.out; omega
          obtain ⟨a3, rfl, -, -, hcell⟩ := (H3.out.non hF).addr (by omega)
          have q := hcell j hjm
          obtain ⟨a1, rfl, -, -, hcell1⟩ := (H1.out.non hF).addr (by omega)
          have q1 := hcell1 j hjh
          unfold tv at q
          clear hcell hcell1 hFu hF
          cases hb : m[j] with
          | true =>
            rw [hb] at q
            have HX2 : Hid (liveR hs l = so ++ liveR (hs.drop (j + 1)) (m.drop (j + 1))) := Lib.hid (by rw [HX.out, liveR_gone hjh hjm hb])
            clear hb q1
            go_wp2
            go_roundw
            case rel => exact ⟨j + 1, so, by omega, by omega, by go_num, by omega, HX2, HFu.out, HF.out⟩
            case measure => simp [intOf]; omega
          | false =>
            rw [hb] at q
            have HX2 : Hid (liveR hs l = (so ++ [hs[j]]) ++ liveR (hs.drop (j + 1)) (m.drop (j + 1))) := Lib.hid (by rw [HX.out, liveR_left hjh hjm hb]; simp)
            clear hb
            generalize hs[j] = x at *
            unfold slV at q1
            go_wp2_with (at_builtin; refine wpList_pushF el_rows slV_one rfl (.tmp 37) (.tmp 42) rfl w.heap.size _ so rfl HFu.out _ x rfl rfl (by omega) hB ?_; intro v6 w6 h6 f6)
            have F6 := HF.out.fresh f6 (fun k hk => hk)
            go_roundw
            case rel => exact ⟨j + 1, so ++ [x], by omega, by omega, by go_num, by simp; omega, HX2, h6, F6⟩
            case measure => simp [intOf]; omega
        · have hjn2 : j = n := by omega
          obtain ⟨A6, c6, hrun6, hvs6, -⟩ := slice_loG el_rows A1 nh c1 n .i64 (n : Int) rfl hnh hc1
          have H6 := Lib.hid (hvs6 slV _ hs HEH.out (H1.out.non hF))
          have HX2 : Hid (liveR hs l = so ++ hs.drop n) := Lib.hid (by
            rw [HX.out, hjn2, List.drop_eq_nil_of_le (show m.length ≤ n from Nat.le_of_eq HLL.out), liveR_nil])
          have hdl : (hs.drop n).length = nh - n := by rw [List.length_drop, HEH.out]
          clear hvs6 hFu hF hjn2
          go_wp2_with (at_builtin; refine wpList_appF el_rows slV_one rfl (.tmp 44) (.tmp 48) rfl w.heap.size _ (.slice A6 (nh - n) c6) so (hs.drop n) rfl HFu.out rfl H6.out (by rw [hdl]; omega) hB ?_; intro v6 w6 h6 f6)
          go_ret
          exact ⟨_, rfl, by rw [HX2.out]; exact h6.1, HF.out.fresh f6 (fun k hk => hk)⟩
theorem without_any (v1 v2 : Value) (hs : List Sl) (l : List Bool) (w : World) (h1 : Vs slV w v1 hs) (h2 : Vs tv w v2 l) (hl1 : hs.length ≤ 1000000) (hl2 : l.length ≤ 1000000000) :
    Calls Tryd.prog 32 #[v1, v2] w fun e w' => ∃ u, e = .returned u ∧ Vs slV w' u (liveR hs l) ∧ Fr Non w w' := by
  obtain ⟨A1, c1, rfl⟩ := h1.shape
  obtain ⟨A2, c2, rfl⟩ := h2.shape
  by_cases h : l.length ≤ hs.length
  · exact without_walk A1 A2 c1 c2 hs.length l.length l.length _ hs l w rfl rfl h1 h2 hl1 hl2 rfl (.inl ⟨rfl, h⟩)
  · exact without_walk A1 A2 c1 c2 hs.length l.length hs.length _ hs l w rfl rfl h1 h2 hl1 hl2 rfl (.inr ⟨rfl, by omega⟩)
end Go.Proofs.YtdofgniemkahnaaDoor


namespace Go.Proofs.YtdofgniemkahnaaDoor
set_option linter.unusedVariables false
set_option linter.unusedSimpArgs false
set_option maxRecDepth 100000
open Go.RowKit

/-- the first k rows copied, the others nil -/
def cpd (L : List (List Cl)) (k : Nat) : List (List Cl) := L.take k ++ List.replicate (L.length - k) []
theorem cpd_len (L : List (List Cl)) {k : Nat} (h : k ≤ L.length) : (cpd L k).length = L.length := by
  unfold cpd; rw [List.length_append, List.length_take, List.length_replicate]; omega
theorem cpd_zero (L : List (List Cl)) : cpd L 0 = List.replicate L.length [] := by unfold cpd; simp
theorem cpd_all (L : List (List Cl)) {k : Nat} (h : L.length ≤ k) : cpd L k = L := by
  unfold cpd; rw [List.take_of_length_le h, Nat.sub_eq_zero_of_le h]; simp
theorem cpd_set (L : List (List Cl)) {k : Nat} (h : k < L.length) : (cpd L k).set k L[k] = cpd L (k + 1) := by
  have hk : (L.take k).length = k := by rw [List.length_take]; omega
  unfold cpd
  have := rep_set (L.take k) (L.length - k) [] L[k] (by omega)
  rw [hk] at this
  rw [this, List.take_succ_eq_append_getElem h, show L.length - k - 1 = L.length - (k + 1) by omega]

set_option maxHeartbeats 2000000 in
theorem delive_any (v1 v2 : Value) (rows : List (List Cl)) (l : List Bool) (w : World) (h1 : Rs w v1 rows) (h2 : Vs tv w v2 l) (hl1 : rows.length ≤ 1000000) (hl2 : l.length ≤ 1000000000) (hr : ∀ r ∈ rows, r.length < 4398046511104) :
    Calls Tryd.prog 16 #[v1, v2] w fun e w' => ∃ u, e = .returned u ∧ Ro w' w.heap.size u (liveR rows l) ∧ Fr Non w w' := by
  obtain ⟨A1, c1, rfl⟩ := h1.shape
  obtain ⟨A2, c2, rfl⟩ := h2.shape
  obtain ⟨ps, hps, hv1, hcs⟩ := h1.pairs
  have hpl : ps.length = rows.length := by rw [← hps, List.length_map]
  have HW := Lib.hid (without_any _ _ _ l w hv1 h2 (by rw [List.length_map]; omega) hl2)
  rw [liveR_map] at HW
  have HL : Hid (liveR rows l = (liveR ps l).map Prod.snd) := Lib.hid (by rw [← hps, liveR_map])
  have HC := Lib.hid (fun p hp => hcs p (liveR_mem ps l p hp))
  have HR := Lib.hid (fun p hp => hr _ (by rw [← hps]; exact List.mem_map_of_mem (liveR_mem ps l p hp)))
  have hn : (liveR ps l).length ≤ 1000000 := Nat.le_trans (liveR_len ps l) (by omega)
  clear h1 h2 hv1 hcs hr hps hpl
  rw [HL.out]
  clear HL
  generalize liveR ps l = L at *
  obtain ⟨N, hN⟩ : ∃ N, N = L.length := ⟨_, rfl⟩
  have HN := Lib.hid hN
  have hN1 : N ≤ 1000000 := by omega
  have hfl : (L.map Prod.fst).length = N := by rw [List.length_map, hN]
  have hsl : (L.map Prod.snd).length = N := by rw [List.length_map, hN]
  have HFL := Lib.hid hfl
  have HSL := Lib.hid hsl
  clear hN hfl hsl hn
  go_enter Tryd.func16, Tryd.ntmps16
  go_wp2_with fail
  refine HW.out.mono ?_
  rintro e w1 ⟨u1, rfl, hu1, f1⟩
  have hsh := hu1.shape
  rw [HFL.out] at hsh
  obtain ⟨A3, c3, rfl⟩ := hsh
  have HU := Lib.hid hu1
  have HF1 := Lib.hid f1
  clear hu1 f1 HW
  go_wp2_with (at_make; refine wpList_mkfullG el_rows (f := slV) noSl rfl rfl _ _ rfl _ _ _ _ N rfl rfl rfl rfl (by omega) ?_; intro w2 own2 f2)
  have HF2 := Lib.hid f2
  have hO0 : Ro w2 w1.heap.size (.slice (some ⟨w1.heap.size, 0, none⟩) N N) (cpd (L.map Prod.snd) 0) := by
    rw [cpd_zero, HSL.out]; exact ro_made own2
  have hB1 := HF1.out.size
  obtain ⟨g, hg⟩ : ∃ g, w1.heap.size = g := ⟨_, rfl⟩
  have HG := Lib.hid hg
  rw [hg] at hO0 hB1
  rw [hg]
  have HO0 := Lib.hid hO0
  clear own2 f2 hO0 hg
  go_loopw [17] (fun i wr => ∃ k : Nat, k ≤ N ∧ i = .int .i64 k ∧ Ro wr g (.slice (some ⟨g, 0, none⟩) N N) (cpd (L.map Prod.snd) k) ∧ Fr Non w1 wr) (fun i _ => N - (intOf i).toNat)
  case atStart => exact ⟨0, Nat.zero_le _, rfl, HO0.out, HF2.out⟩
  case round =>
    clear HO0 HF2
    obtain ⟨k, hk, rfl, hO, hF1⟩ := hrel
    have HO := Lib.hid hO
    have hF := HF1.out.trans hF1
    have HF := Lib.hid hF1
    by_cases hlt : k < N
    · have hkL : k < L.length := by have := HN.out; omega
      obtain ⟨a3, rfl, -, -, hcell⟩ := (HU.out.non hF1).addr (by omega)
      have q := hcell k (by simpa using hkL)
      have hcs := (HC.out L[k] (List.getElem_mem hkL)).non hF
      have hrl := HR.out L[k] (List.getElem_mem hkL)
      have hlen : N = (cpd (L.map Prod.snd) k).length := by rw [cpd_len _ (by rw [HSL.out]; omega), HSL.out]
      have hfz := hO.frozen hlen k
      have hgl : g < wr.heap.size := by
        obtain ⟨_, _, qg, _⟩ := hO.el hlen k (by omega)
        exact World.block_lt_of_cell? _ _ qg
      have HST : Hid ((cpd (L.map Prod.snd) k).set k L[k].2 = cpd (L.map Prod.snd) (k + 1)) := Lib.hid (by
        have := cpd_set (L.map Prod.snd) (k := k) (by rw [HSL.out]; omega)
        rwa [List.getElem_map] at this)
      have HLE := Lib.hid hlen
      rw [List.getElem_map] at q
      clear hcell hF hF1 hO hlen
      generalize L[k] = p at *
      obtain ⟨s, r⟩ := p
      dsimp only at q hcs hrl HST
      obtain ⟨A5, c5, e5⟩ := hcs.shape
      rw [e5] at q hcs
      have CC := Lib.hid (fun W (hf : Fr Non wr W) => cloneC_any _ r W (hcs.non hf) hrl)
      clear hcs hrl e5
      go_wp2_with fail
      refine (CC.out _ (Fr.refl _ _)).mono ?_
      rintro e w3 ⟨u3, rfl, o3, f3⟩
      have HO3 := Lib.hid (HO.out.non f3)
      have hfz3 := HO3.out.frozen HLE.out k
      obtain ⟨A7, c7, hg3, -⟩ := HO3.out.el HLE.out k (by have := HLE.out; omega)
      have HP := Lib.hid (HO3.out.put HLE.out k (o3.mono (Nat.le_of_lt hgl)))
      have HF3 := Lib.hid (HF.out.trans f3)
      rw [HST.out] at HP
      obtain ⟨A8, c8, rfl⟩ := o3.shape
      clear o3 f3 CC
      go_wp2
      go_roundw
      case rel => exact ⟨k + 1, by omega, by go_num, HP.out, HF3.out.setCell (fun h => by have := HG.out; simp at h; omega) _⟩
      case measure => simp [intOf]; omega
    · have hall := cpd_all (L.map Prod.snd) (k := k) (by rw [HSL.out]; omega)
      rw [hall] at hO
      have HOr := Lib.hid (hO.mono hB1)
      clear hO hall
      go_wp2
      go_ret
      exact ⟨_, rfl, HOr.out, HF1.out.trans HF.out⟩
end Go.Proofs.YtdofgniemkahnaaDoor


namespace Go.Proofs.YtdofgniemkahnaaDoor
set_option linter.unusedVariables false
set_option linter.unusedSimpArgs false
set_option maxRecDepth 100000
open Go.RowKit

set_option maxHeartbeats 2000000 in
theorem rdelive0_any (v1 v2 : Value) (hs : List Sl) (l : List Bool) (w : World) (h1 : Vs slV w v1 hs) (h2 : Vs tv w v2 l) (hl1 : hs.length ≤ 1000000) (hl2 : l.length ≤ 1000000000) :
    Calls Tryd.prog 18 #[v1, v2] w fun e w' => ∃ u, e = .returned u ∧ Ow slV 59 w' w.heap.size u (liveR hs l) ∧ Fr Non w w' := by
  have H1 := Lib.hid h1
  have H2 := Lib.hid h2
  obtain ⟨A1, c1, rfl⟩ := h1.shape
  obtain ⟨A2, c2, rfl⟩ := h2.shape
  clear h1 h2
  have HO0 := Lib.hid (ow_lit0 (f := slV) (E := 59) w w.heap.size _ rfl (Nat.le_refl _))
  have FA := Lib.hid ((Fr.refl Non w).alloc (.cells #[] 59))
  go_enter Tryd.func18, Tryd.ntmps18
  go_wp2
  go_loopw [5, 6] (fun u i wr => ∃ (k : Nat) (so : List Sl), k ≤ hs.length ∧ i = .int .i64 k ∧ so.length ≤ k ∧ Hid (liveR hs l = so ++ liveR (hs.drop k) (l.drop k)) ∧ Ow slV 59 wr w.heap.size u so ∧ Fr Non w wr) (fun u i _ => hs.length - (intOf i).toNat)
  case atStart => exact ⟨0, [], Nat.zero_le _, rfl, Nat.le_refl _, Lib.hid (by simp), HO0.out, FA.out⟩
  case round =>
    clear HO0 FA
    obtain ⟨k, so, hk, rfl, hso, HX, hO, hF⟩ := hrel
    obtain ⟨A5, c5, rfl⟩ := hO.shape
    have HO := Lib.hid hO
    have HF := Lib.hid hF
    have hB := hF.size
    by_cases hlt : k < hs.length
    · obtain ⟨a1, rfl, -, -, hcell1⟩ := (H1.out.non hF).addr (by omega)
      have q1 := hcell1 k hlt
      unfold slV at q1
      clear hcell1
      by_cases hkl : k < l.length
      · obtain ⟨a3, rfl, -, -, hcell⟩ := (H2.out.non hF).addr (by omega)
        have q := hcell k hkl
        unfold tv at q
        clear hcell hO hF
        cases hb : l[k] with
        | true =>
          rw [hb] at q
          have HX2 : Hid (liveR hs l = so ++ liveR (hs.drop (k + 1)) (l.drop (k + 1))) := Lib.hid (by rw [HX.out, liveR_gone hlt hkl hb])
          clear hb q1
          go_wp2
          go_roundw
          case rel => exact ⟨k + 1, so, by omega, by go_num, by omega, HX2, HO.out, HF.out⟩
          case measure => simp [intOf]; omega
        | false =>
          rw [hb] at q
          have HX2 : Hid (liveR hs l = (so ++ [hs[k]]) ++ liveR (hs.drop (k + 1)) (l.drop (k + 1))) := Lib.hid (by rw [HX.out, liveR_left hlt hkl hb]; simp)
          clear hb
          generalize hs[k] = x at *
          go_wp2_with (at_builtin; refine wpList_pushG el_rows slV_one rfl (.tmp 25) (.tmp 30) rfl w.heap.size _ so rfl HO.out _ x rfl rfl (by omega) hB ?_; intro v6 w6 h6 f6)
          have F6 := HF.out.fresh f6 (fun k hk => (HO.out.lt k hk).1)
          go_roundw
          case rel => exact ⟨k + 1, so ++ [x], by omega, by go_num, by simp; omega, HX2, h6, F6⟩
          case measure => simp [intOf]; omega
      · have HX2 : Hid (liveR hs l = (so ++ [hs[k]]) ++ liveR (hs.drop (k + 1)) (l.drop (k + 1))) := Lib.hid (by rw [HX.out, liveR_over hlt (by omega)]; simp)
        have hd : decide ((l.length : Int) ≤ (k : Int)) = true := by simp; omega
        clear hO hF
        generalize hs[k] = x at *
        go_wp2_with (at_builtin; refine wpList_pushG el_rows slV_one rfl (.tmp 25) (.tmp 30) rfl w.heap.size _ so rfl HO.out _ x rfl rfl (by omega) hB ?_; intro v6 w6 h6 f6)
        have F6 := HF.out.fresh f6 (fun k hk => (HO.out.lt k hk).1)
        go_roundw
        case rel => exact ⟨k + 1, so ++ [x], by omega, by go_num, by simp; omega, HX2, h6, F6⟩
        case measure => simp [intOf]; omega
    · have hX := HX.out
      rw [List.drop_eq_nil_of_le (show hs.length ≤ k by omega), liveR_none, List.append_nil] at hX
      have HX2 := Lib.hid hX
      clear hO hF hX
      go_wp2
      go_ret
      exact ⟨_, rfl, by rw [HX2.out]; exact HO.out, HF.out⟩

theorem rdelive_any (v1 v2 : Value) (rows : List (List Cl)) (l : List Bool) (w : World) (h1 : Rs w v1 rows) (h2 : Vs tv w v2 l) (hl1 : rows.length ≤ 1000000) (hl2 : l.length ≤ 1000000000) :
    Calls Tryd.prog 18 #[v1, v2] w fun e w' => ∃ u, e = .returned u ∧ Rs w' u (liveR rows l) ∧ Fr Non w w' := by
  obtain ⟨ps, hps, hv1, hcs⟩ := h1.pairs
  have hpl : ps.length = rows.length := by rw [← hps, List.length_map]
  refine (rdelive0_any _ _ _ l w hv1 h2 (by rw [List.length_map]; omega) hl2).mono ?_
  rintro e w' ⟨u, rfl, ho, hf⟩
  refine ⟨u, rfl, ?_, hf⟩
  rw [← hps, liveR_map]
  have hv := ho.vs
  rw [liveR_map] at hv
  exact Rs.of_pairs hv fun p hp => (hcs p (liveR_mem ps l p hp)).non hf

theorem num14_any (n : Int) (w : World) : Calls Tryd.prog 9 #[.int .i64 n] w fun e w' => e = .returned (.int .i64 n) ∧ w = w' := by
  go_enter Tryd.func9, Tryd.ntmps9
  go_wp2
  go_ret
  exact ⟨rfl, rfl⟩
end Go.Proofs.YtdofgniemkahnaaDoor


namespace Go.Proofs.YtdofgniemkahnaaDoor
set_option linter.unusedVariables false
set_option linter.unusedSimpArgs false
set_option maxRecDepth 100000
open Go.RowKit

set_option maxHeartbeats 1000000 in
theorem call_any (v1 v2 : Value) (l1 l2 : List Cl) (w : World) (h1 : Cs w v1 l1) (h2 : Cs w v2 l2) (hl1 : l1.length ≤ 9223372036854775807) (hl2 : l2.length ≤ 9223372036854775807) :
    Calls Tryd.prog 34 #[v1, v2] w fun e w' => e = .returned (.bool (decide (l1 = l2))) ∧ Fr Non w w' := by
  obtain ⟨A1, c1, rfl, hc1, hn1, hcell1⟩ := h1
  obtain ⟨A2, c2, rfl, hc2, hn2, hcell2⟩ := h2
  have HN1 := Lib.hid hn1
  have HN2 := Lib.hid hn2
  have HC1 := Lib.hid hcell1
  have HC2 := Lib.hid hcell2
  clear hn1 hn2 hcell1 hcell2
  by_cases hlen : l1.length = l2.length
  · have HL := Lib.hid hlen
    have hb : ((l1.length : Int) != l2.length) = false := by rw [hlen]; simp
    have hle : l1.length ≤ l2.length := by omega
    have hge : l2.length ≤ l1.length := by omega
    clear hlen
    go_enter Tryd.func34, Tryd.ntmps34
    go_wp2
    go_loopw [5] (fun i wr => ∃ k : Nat, k ≤ l1.length ∧ i = .int .i64 k ∧ Hid (l1.take k = l2.take k) ∧ ∃ n, wr = w.drewN n) (fun i _ => l1.length - (intOf i).toNat)
    case atStart => exact ⟨0, Nat.zero_le _, rfl, Lib.hid rfl, 0, rfl⟩
    case round =>
      obtain ⟨k, hk, rfl, HT, n, rfl⟩ := hrel
      by_cases hlt : k < l1.length
      · cases A1 with
        | none => have := HN1.out rfl; omega
        | some a1 =>
          cases A2 with
          | none => have := HN2.out rfl; omega
          | some a2 =>
            obtain ⟨g0, g1, g2⟩ := (HC1.out a1 rfl k hlt).lit
            obtain ⟨d0, d1, d2⟩ := (HC2.out a2 rfl k (by omega)).lit
            by_cases he : l1[k] = l2[k]'(by omega)
            · have HE := Lib.hid (take_eq_succ hlt (by omega) HT.out he)
              rw [← he] at d0 d1 d2
              clear he
              generalize l1[k] = x at *
              have hx := fun W => run_neq_cl W x x
              rw [ceq_self] at hx
              obtain ⟨xn, xi, xt⟩ := x
              go_wp2
              go_quiet (fail)
              go_wp2
              go_roundw
              case rel => exact ⟨k + 1, by omega, by go_num, HE, _, rfl⟩
              case measure => simp [intOf]; omega
            · have HE := Lib.hid (take_ne hlt (by omega) he)
              have hc : ceq l1[k] (l2[k]'(by omega)) = false := by unfold ceq; exact decide_eq_false he
              clear he
              generalize l1[k] = x at *
              generalize l2[k]'(by omega) = y at *
              have hx := fun W => run_neq_cl W x y
              rw [hc] at hx
              clear hc
              obtain ⟨xn, xi, xt⟩ := x
              obtain ⟨yn, yi, yt⟩ := y
              go_wp2
              go_quiet (fail)
              go_wp2
              go_ret
              exact ⟨ret_bool (decide_eq_false HE.out).symm, ((Fr.refl _ _).drewN _).drewN _⟩
      · have HE : Hid (l1 = l2) := Lib.hid (by
          have := HT.out
          rwa [List.take_of_length_le (by omega), List.take_of_length_le (by omega)] at this)
        go_wp2
        go_ret
        exact ⟨ret_bool (decide_eq_true HE.out).symm, (Fr.refl _ _).drewN _⟩
  · have hb : ((l1.length : Int) != l2.length) = true := by rw [bne_iff_ne]; omega
    have HE : Hid (l1 ≠ l2) := Lib.hid (fun e => hlen (by rw [e]))
    clear hlen
    go_enter Tryd.func34, Tryd.ntmps34
    go_wp2
    go_ret
    exact ⟨ret_bool (decide_eq_false HE.out).symm, Fr.refl _ _⟩

set_option maxHeartbeats 2000000 in
theorem rrows9_any (v1 v2 : Value) (a b : List (List Cl)) (w : World) (h1 : Rs w v1 a) (h2 : Rs w v2 b) (hl1 : a.length ≤ 1000000000) (hl2 : b.length ≤ 1000000000) (ha : ∀ r ∈ a, r.length ≤ 9223372036854775807) (hb : ∀ r ∈ b, r.length ≤ 9223372036854775807) :
    Calls Tryd.prog 17 #[v1, v2] w fun e w' => e = .returned (.bool (decide (a = b))) ∧ Fr Non w w' := by
  obtain ⟨A1, c1, rfl⟩ := h1.shape
  obtain ⟨A2, c2, rfl⟩ := h2.shape
  have H1 := Lib.hid h1
  have H2 := Lib.hid h2
  have HA := Lib.hid ha
  have HB := Lib.hid hb
  clear h1 h2 ha hb
  by_cases hlen : a.length = b.length
  · have hb : ((a.length : Int) != b.length) = false := by rw [hlen]; simp
    have hle : a.length ≤ b.length := by omega
    have hge : b.length ≤ a.length := by omega
    clear hlen
    go_enter Tryd.func17, Tryd.ntmps17
    go_wp2
    go_loopw [5] (fun i wr => ∃ k : Nat, k ≤ a.length ∧ i = .int .i64 k ∧ Hid (a.take k = b.take k) ∧ Fr Non w wr) (fun i _ => a.length - (intOf i).toNat)
    case atStart => exact ⟨0, Nat.zero_le _, rfl, Lib.hid rfl, Fr.refl _ _⟩
    case round =>
      clear hb
      obtain ⟨k, hk, rfl, HT, hF⟩ := hrel
      by_cases hlt : k < a.length
      · have hlt2 : k < b.length := by omega
        have hFd : Fr Non w wr.drew := hF.drew
        obtain ⟨a1, A1', c1', rfl, _, q1, hc1⟩ := (H1.out.non hFd).el k hlt
        obtain ⟨a2, A2', c2', rfl, _, q2, hc2⟩ := (H2.out.non hFd).el k hlt2
        have CA := call_any _ _ a[k] b[k] wr.drew hc1 hc2 (HA.out _ (List.getElem_mem hlt)) (HB.out _ (List.getElem_mem hlt2))
        have HFd := Lib.hid hFd
        by_cases he : a[k] = b[k]
        · have HE2 := Lib.hid (take_eq_succ hlt hlt2 HT.out he)
          rw [decide_eq_true he] at CA
          replace CA := Lib.hid CA
          clear hc1 hc2 hFd hF HT he
          generalize a[k] = x at *
          generalize b[k] = y at *
          go_wp2
          go_region_held3 (fun W => W.cell? (a1.add k) = some (.slice A1' x.length c1') ∧ W.cell? (a2.add k) = some (.slice A2' y.length c2')) (first | exact ⟨q1, q2⟩ | exact ⟨q3, q4⟩ | fail) (first | (go_at_call 34; (with_reducible refine CA.out.mono ?_); rintro e w3 ⟨rfl, f3⟩; have q3 := (f3.cell (World.block_lt_of_cell? _ _ q1) (fun e => e)).trans q1; have q4 := (f3.cell (World.block_lt_of_cell? _ _ q2) (fun e => e)).trans q2))
          have F3 := HFd.out.trans f3
          go_wp2
          go_roundw
          case rel => exact ⟨k + 1, by omega, by go_num, HE2, F3⟩
          case measure => simp [intOf]; omega
        · have HN2 : Hid (decide (a = b) = false) := Lib.hid (decide_eq_false (fun h => take_ne hlt hlt2 he (by rw [h])))
          rw [decide_eq_false he] at CA
          replace CA := Lib.hid CA
          clear hc1 hc2 hFd hF HT he
          generalize a[k] = x at *
          generalize b[k] = y at *
          go_wp2
          go_region_held3 (fun W => W.cell? (a1.add k) = some (.slice A1' x.length c1') ∧ W.cell? (a2.add k) = some (.slice A2' y.length c2')) (first | exact ⟨q1, q2⟩ | exact ⟨q3, q4⟩ | fail) (first | (go_at_call 34; (with_reducible refine CA.out.mono ?_); rintro e w3 ⟨rfl, f3⟩; have q3 := (f3.cell (World.block_lt_of_cell? _ _ q1) (fun e => e)).trans q1; have q4 := (f3.cell (World.block_lt_of_cell? _ _ q2) (fun e => e)).trans q2))
          have F3 := HFd.out.trans f3
          go_wp2
          go_ret
          rw [HN2.out]
          exact ⟨rfl, F3⟩
      · have hab : a = b := by
          have h := HT.out
          rwa [List.take_of_length_le (by omega), List.take_of_length_le (by omega)] at h
        have HD : Hid (decide (a = b) = true) := Lib.hid (decide_eq_true hab)
        clear HT hab
        go_wp2
        go_ret
        rw [HD.out]
        exact ⟨rfl, hF⟩
  · have hb : ((a.length : Int) != b.length) = true := by rw [bne_iff_ne]; omega
    have HD : Hid (decide (a = b) = false) := Lib.hid (decide_eq_false (fun h => hlen (by rw [h])))
    clear hlen
    go_enter Tryd.func17, Tryd.ntmps17
    go_wp2
    go_ret
    rw [HD.out]
    exact ⟨rfl, Fr.refl _ _⟩
end Go.Proofs.YtdofgniemkahnaaDoor


namespace Go.Proofs.YtdofgniemkahnaaDoor
set_option linter.unusedVariables false
set_option linter.unusedSimpArgs false
set_option maxRecDepth 100000
open Go.RowKit

theorem dead3 : ∃ a b c d, deadB [false, false, false] = [2, a, b, c, d, 3, 0] := by
  have h : sayD [false, false, false] = [3, 0] := by
    unfold sayD
    rw [Lib.uvarint_small (by decide)]
    decide
  unfold deadB
  rw [if_pos (by decide), h]
  unfold frameB sum4
  rw [Lib.uvarint_small (by decide)]
  exact ⟨_, _, _, _, rfl⟩

set_option maxHeartbeats 1000000 in
theorem live14_any (w : World) (ht : Tab w) :
    Calls Tryd.prog 6 #[] w fun e w' => e = .returned (.bool true) ∧ Fr Non w w' := by
  obtain ⟨a, b, c, d, hd⟩ := dead3
  have HT := Lib.hid ht
  have HG : Hid (getD14 (deadB [false, false, false]) 3 = ([false, false, false], 0)) := Lib.hid (getD_put (l := [false, false, false]) (by decide))
  rw [hd] at HG
  clear ht
  go_enter Tryd.func6, Tryd.ntmps6
  go_wp2_with (at_make; refine wpList_mkfullG el_bool (f := tv) false rfl rfl _ _ rfl _ _ _ _ 3 rfl rfl rfl rfl (by omega) ?_; intro w1 own1 f1)
  have HF1 := Lib.hid f1
  have HP := Lib.hid (deput_any _ [false, false, false] w1 own1.vs (HT.out.non f1) (by decide))
  rw [hd] at HP
  clear own1 f1
  refine HP.out.mono ?_
  rintro e w2 ⟨u2, rfl, o2, f2⟩
  obtain ⟨g, cap, rfl, -, -, hcap, -⟩ := o2.row (by simp)
  have HF2 := Lib.hid (HF1.out.trans f2)
  have HO2 := Lib.hid o2
  have HGt := Lib.hid (deget_any _ _ 3 w2 o2.bs (HT.out.non HF2.out) (by simp) (by omega) (by omega))
  unfold GtD14 at HGt
  rw [HG.out] at HGt
  clear o2 f2 HP
  simp only [List.length_cons, List.length_nil, Nat.zero_add, Nat.reduceAdd] at hcap HGt HO2
  go_wp2_with fail
  refine HGt.out.mono ?_
  rintro e w3 ⟨⟨u3, rfl, o3⟩, f3⟩
  have hl7 : 7 = [(2 : UInt8), a, b, c, d, 3, 0].length := rfl
  have e0 := HO2.out.cell hl7 0 2 rfl
  have e5 := HO2.out.cell hl7 5 3 rfl
  have e6 := HO2.out.cell hl7 6 0 rfl
  have hlt := World.block_lt_of_cell? _ _ e0
  replace e0 := (f3.cell hlt (fun e => e)).trans e0
  replace e5 := (f3.cell (p := ⟨g, 5, none⟩) hlt (fun e => e)).trans e5
  replace e6 := (f3.cell (p := ⟨g, 6, none⟩) hlt (fun e => e)).trans e6
  have HF3 := Lib.hid (HF2.out.trans f3)
  obtain ⟨A4, c4, rfl⟩ := o3.shape
  simp only [show (2 : UInt8).toNat = 2 from rfl, show (3 : UInt8).toNat = 3 from rfl, show (0 : UInt8).toNat = 0 from rfl] at e0 e5 e6
  clear HGt o3 f3 hl7
  go_wp2_with fail
  refine (num14_any _ _).mono ?_
  rintro e w5 ⟨rfl, rfl⟩
  go_wp2
  go_ret
  exact ⟨rfl, HF3.out⟩
end Go.Proofs.YtdofgniemkahnaaDoor


namespace Go.Proofs.YtdofgniemkahnaaDoor
set_option linter.unusedVariables false
set_option linter.unusedSimpArgs false
set_option maxRecDepth 100000
open Go.RowKit

theorem live_len (rows : List (List Cl)) (l : List Bool) (gone : List Int) (h : (moreD l gone).2 = 0) : (liveR rows (moreD l gone).1).length ≤ (liveR rows l).length := by
  by_cases hb : 200 < l.length
  · rw [moreD_big gone hb] at h; cases h
  · cases hm : moreG l gone with
    | none => rw [moreD_none hb hm] at h; cases h
    | some m =>
      rw [moreD_some hb hm]
      obtain ⟨h1, h2⟩ := moreG_is _ _ _ hm
      exact liveR_more rows l m h1 h2

set_option maxHeartbeats 4000000 in
theorem deadMore_walk (v1 v2 v3 : Value) (rows : List (List Cl)) (l : List Bool) (gone : List Int) (w : World) (h1 : Rs w v1 rows) (h2 : Vs tv w v2 l) (h3 : Vs iv w v3 gone) (ht : Tab w) (hl1 : rows.length ≤ 9223372036854775807) (hl2 : l.length ≤ 9223372036854775807) (hl3 : gone.length ≤ 9223372036854775807) (hr : ∀ r ∈ rows, r.length ≤ 4398046511103) :
    Calls Tryd.prog 5 #[v1, v2, v3] w fun e w' => e = .returned (.bool true) ∧ Below w.heap.size w w' := by
  obtain ⟨A1, c1, rfl⟩ := h1.shape
  obtain ⟨A2, c2, rfl⟩ := h2.shape
  obtain ⟨A3, c3, rfl⟩ := h3.shape
  have H1 := Lib.hid h1
  have H2 := Lib.hid h2
  have H3 := Lib.hid h3
  have HT := Lib.hid ht
  have HLv := Lib.hid (fun W (hf : Fr Non w W) => live14_any W (ht.non hf))
  have HR := Lib.hid hr
  clear h1 h2 h3 ht hr
  by_cases hok : rows.length ≤ 60 ∧ l.length ≤ 250 ∧ gone.length ≤ 60
  · obtain ⟨g1, g2, g3⟩ := hok
    have b1 : decide ((60 : Int) < rows.length) = false := by simp; omega
    have b2 : decide ((250 : Int) < l.length) = false := by simp; omega
    have b3 : decide ((60 : Int) < gone.length) = false := by simp; omega
    have HM := Lib.hid (fun W (hf : Fr Non w W) => demore_any _ _ l gone W (H2.out.non hf) (H3.out.non hf) (by omega) (by omega))
    have HRM := Lib.hid (fun W (hf : Fr Non w W) => rdemore_any _ _ l gone W (H2.out.non hf) (H3.out.non hf) (by omega) (by omega))
    have HL := Lib.hid (fun W (hf : Fr Non w W) u m (hm : Vs tv W u m) (hml : m.length ≤ 250) => delive_any _ u rows m W (H1.out.non hf) hm (by omega) (by omega) (fun r h => Nat.lt_succ_of_le (HR.out r h)))
    have HRL := Lib.hid (fun W (hf : Fr Non w W) u m (hm : Vs tv W u m) (hml : m.length ≤ 250) => rdelive_any _ u rows m W (H1.out.non hf) hm (by omega) (by omega))
    have HRo := Lib.hid (fun m W u1 u2 (h1 : Rs W u1 (liveR rows m)) (h2 : Rs W u2 (liveR rows m)) => rrows9_any u1 u2 _ _ W h1 h2 (by have := liveR_len rows m; omega) (by have := liveR_len rows m; omega) (fun r h => by have := HR.out r (liveR_mem _ _ _ h); omega) (fun r h => by have := HR.out r (liveR_mem _ _ _ h); omega))
    have HLL := Lib.hid (live_len rows l gone)
    have hml := moreD_len l gone
    unfold MrD at HM HRM
    simp only [decide_true] at HRo
    generalize moreD l gone = q at *
    obtain ⟨m, k⟩ := q
    dsimp only at HM HRM hml HLL
    have HX := Lib.hid (ow_lit0 (f := tv) (E := 4) w w.heap.size _ rfl (Nat.le_refl _))
    have FA := Lib.hid ((Fr.refl Non w).alloc (.cells #[] 4))
    clear g3
    go_enter Tryd.func5, Tryd.ntmps5
    go_wp2_with (at_builtin; refine wpList_appG el_bool tv_one rfl (.tmp 28) (.tmp 29) rfl w.heap.size (.slice (some ⟨w.heap.size, 0, none⟩) 0 0) (.slice A2 l.length c2) [] l rfl HX.out rfl (H2.out.non FA.out) (by simp; omega) (by simp) ?_; intro u1 w1 o1 f1')
    have f1 := FA.out.fresh f1' (fun k hk => by simp [Value.ownBlock] at hk; omega)
    rw [List.nil_append] at o1
    obtain ⟨A4, c4, rfl⟩ := o1.shape
    have HF1 := Lib.hid f1
    have HW1 := Lib.hid o1.vs
    have HM1 := Lib.hid (HM.out w1 f1)
    clear f1' HX FA o1 f1 HM
    refine HM1.out.mono ?_
    rintro e w2 ⟨⟨u2, rfl, o2⟩, f2⟩
    have HF2 := Lib.hid (HF1.out.trans f2)
    have HW2 := Lib.hid (HW1.out.non f2)
    have HO2 := Lib.hid o2.vs
    have HM2 := Lib.hid (HRM.out w2 HF2.out)
    obtain ⟨A5, c5, rfl⟩ := o2.vs.shape
    clear HM1 HF1 HW1 o2 f2 HRM
    go_wp2_with fail
    refine HM2.out.mono ?_
    rintro e w3 ⟨⟨u3, rfl, o3⟩, f3⟩
    have HF3 := Lib.hid (HF2.out.trans f3)
    have HW3 := Lib.hid (HW2.out.non f3)
    have HO23 := Lib.hid (HO2.out.non f3)
    have HO33 := Lib.hid o3.vs
    obtain ⟨A6, c6, rfl⟩ := o3.vs.shape
    have HL3 := Lib.hid (HL.out w3 HF3.out _ l (H2.out.non HF3.out) g2)
    clear HM2 HF2 HW2 HO2 o3 f3
    go_wp2_with fail
    refine HL3.out.mono ?_
    rintro e w4 ⟨u4, rfl, o4, f4⟩
    have HF4 := Lib.hid (HF3.out.trans f4)
    have HL4 := Lib.hid (HL.out w4 HF4.out _ m (HO23.out.non f4) (by omega))
    have HR4 := Lib.hid o4.rs
    have HF34 := Lib.hid f4
    obtain ⟨A7, c7, rfl⟩ := o4.rs.shape
    clear HL3 HL o4 f4
    go_wp2_with fail
    refine HL4.out.mono ?_
    rintro e w5 ⟨u5, rfl, o5, f5⟩
    have HF35 := Lib.hid (HF34.out.trans f5)
    have HF5 := Lib.hid (HF4.out.trans f5)
    have HR5 := Lib.hid (HR4.out.non f5)
    have HS5 := Lib.hid o5.rs
    obtain ⟨A8, c8, rfl⟩ := o5.rs.shape
    clear HL4 HF4 HF34 HR4 o5 f5
    have HB1 := Lib.hid (fun W (hf : Fr Non w5 W) => bools_any _ _ m m W ((HO23.out.non HF35.out).non hf) ((HO33.out.non HF35.out).non hf) (by omega) (by omega))
    have HB2 := Lib.hid (fun W (hf : Fr Non w5 W) => bools_any _ _ l l W (H2.out.non (HF5.out.trans hf)) ((HW3.out.non HF35.out).non hf) (by omega) (by omega))
    have HRL1 := Lib.hid (fun W (hf : Fr Non w5 W) => HRL.out W (HF5.out.trans hf) _ l (H2.out.non (HF5.out.trans hf)) g2)
    have HRL2 := Lib.hid (fun W (hf : Fr Non w5 W) => HRL.out W (HF5.out.trans hf) _ m ((HO33.out.non HF35.out).non hf) (by omega))
    simp only [beq_self_eq_true] at HB1 HB2
    clear HRL HO23 HO33 HW3 HF3 HF35
    go_wp2_with fail
    refine (num14_any _ _).mono ?_
    rintro e w5' ⟨rfl, rfl⟩
    go_wp2_with fail
    refine (HB1.out _ (Fr.refl _ _)).mono ?_
    rintro e w6 ⟨rfl, f6⟩
    have HF6 := Lib.hid f6
    clear f6 HB1
    go_wp2_with fail
    refine (HB2.out _ HF6.out).mono ?_
    rintro e w7 ⟨rfl, f7⟩
    have HF7 := Lib.hid (HF6.out.trans f7)
    clear f7 HB2 HF6
    go_wp2_with fail
    refine (HRL1.out _ HF7.out).mono ?_
    rintro e w8 ⟨u8, rfl, o8, f8⟩
    have HF8 := Lib.hid (HF7.out.trans f8)
    have HC8 := Lib.hid (HRo.out l w8 _ u8 (HR5.out.non HF8.out) o8)
    obtain ⟨A9, c9, rfl⟩ := o8.shape
    clear f8 o8 HRL1 HF7
    go_wp2_with fail
    refine HC8.out.mono ?_
    rintro e w9 ⟨rfl, f9⟩
    have HF9 := Lib.hid (HF8.out.trans f9)
    clear f9 HC8 HF8
    go_wp2_with fail
    refine (HRL2.out _ HF9.out).mono ?_
    rintro e w10 ⟨u10, rfl, o10, f10⟩
    have HF10 := Lib.hid (HF9.out.trans f10)
    have HC10 := Lib.hid (HRo.out m w10 _ u10 (HS5.out.non HF10.out) o10)
    obtain ⟨A10, c10, rfl⟩ := o10.shape
    clear f10 o10 HRL2 HF9
    go_wp2_with fail
    refine HC10.out.mono ?_
    rintro e w11 ⟨rfl, f11⟩
    have HF11 := Lib.hid (HF5.out.trans (HF10.out.trans f11))
    clear f11 HC10 HF10 HF5 HR5 HS5 HRo
    by_cases hk : k = 0
    · have d1 : (((k : Nat) : Int) != 0) = false := by rw [hk]; rfl
      have d2 : decide ((liveR rows m).length ≤ (liveR rows l).length) = true := decide_eq_true (HLL.out hk)
      clear hk
      go_wp2_with fail
      refine (HLv.out _ HF11.out).mono ?_
      rintro e w12 ⟨rfl, f12⟩
      go_wp2
      go_ret
      exact ⟨rfl, (HF11.out.trans f12).below⟩
    · have d1 : (((k : Nat) : Int) != 0) = true := by rw [bne_iff_ne]; omega
      clear hk
      go_wp2_with fail
      refine (HLv.out _ HF11.out).mono ?_
      rintro e w12 ⟨rfl, f12⟩
      go_wp2
      go_ret
      exact ⟨rfl, (HF11.out.trans f12).below⟩
  · by_cases g1 : rows.length ≤ 60
    · have b1 : decide ((60 : Int) < rows.length) = false := by simp; omega
      by_cases g2 : l.length ≤ 250
      · have b2 : decide ((250 : Int) < l.length) = false := by simp; omega
        have b3 : decide ((60 : Int) < gone.length) = true := by simp; omega
        clear hok g1 g2
        go_enter Tryd.func5, Tryd.ntmps5
        go_wp2_with fail
        refine (HLv.out w (Fr.refl _ _)).mono ?_
        rintro e w1 ⟨rfl, f1⟩
        go_wp2
        go_ret
        exact ⟨rfl, f1.below⟩
      · have b2 : decide ((250 : Int) < l.length) = true := by simp; omega
        clear hok g1 g2
        go_enter Tryd.func5, Tryd.ntmps5
        go_wp2_with fail
        refine (HLv.out w (Fr.refl _ _)).mono ?_
        rintro e w1 ⟨rfl, f1⟩
        go_wp2
        go_ret
        exact ⟨rfl, f1.below⟩
    · have b1 : decide ((60 : Int) < rows.length) = true := by simp; omega
      clear hok g1
      go_enter Tryd.func5, Tryd.ntmps5
      go_wp2_with fail
      refine (HLv.out w (Fr.refl _ _)).mono ?_
      rintro e w1 ⟨rfl, f1⟩
      go_wp2
      go_ret
      exact ⟨rfl, f1.below⟩
end Go.Proofs.YtdofgniemkahnaaDoor


namespace Go.Proofs.YtdofgniemkahnaaDoor
set_option linter.unusedVariables false
set_option linter.unusedSimpArgs false
set_option maxRecDepth 100000
open Go.ChangeShapes Go.WideShapes Go.ChangeAt Go.RowKit

theorem frame_own : ownKnob Tryd.prog.godebug = none := by kernel_rfl
theorem frame_laidOut : laidOutB Tryd.prog = true := by kernel_rfl

/-- every argument reads as it did -/
theorem trodAll_below {H : Type} {enc : TypeId × Value → H} {W W' : World} (hb : Below W.heap.size W W') :
    ∀ (ts : List TypeId) (vs : List Value) (ds : List (DataW H)) (ps : List MemPlace), (∀ t ∈ ts, Tryd.prog.readableRec t = true ∧ t < Tryd.prog.types.size) →
      DataW.TrodAll enc Tryd.prog W 0 (fun _ => true) true ts vs ds ps → DataW.TrodAll enc Tryd.prog W' 0 (fun b => decide (b < W.heap.size)) true ts vs ds ps := by
  intro ts
  induction ts with
  | nil => intro vs ds ps _ h; cases vs <;> cases ds <;> simp_all [DataW.TrodAll]
  | cons t ts ih =>
    intro vs ds ps hr h
    cases vs with
    | nil => cases ds <;> simp_all [DataW.TrodAll]
    | cons v vs =>
      cases ds with
      | nil => simp_all [DataW.TrodAll]
      | cons d ds =>
        obtain ⟨p, q, h1, h2, rfl⟩ := h
        have hlt : ∀ x ∈ p, x.block < W.heap.size := by obtain ⟨m, hm⟩ := h1; exact DataW.trod_lt m _ _ _ hm
        have ht := hr t (List.mem_cons_self ..)
        exact ⟨p, q, Below.trod frame_laidOut ht.1 ht.2 h1 hb hlt, ih vs ds q (fun u hu => hr u (List.mem_cons_of_mem _ hu)) h2, rfl⟩

noncomputable def typesOk (ts : List TypeId) : Bool := ts.all fun t => Tryd.prog.readableRec t && decide (t < Tryd.prog.types.size)
theorem types_ok (ts : List TypeId) (h : typesOk ts = true) : ∀ t ∈ ts, Tryd.prog.readableRec t = true ∧ t < Tryd.prog.types.size := by
  intro t ht
  have := List.all_eq_true.1 h t ht
  simpa using this

/-- a slice that came in: nil, or it leads into a block that is there -/
theorem slice_in {W : World} {base : Nat} {t e : TypeId} {v : Value} (ht : Tryd.prog.underlying t = some (.slice e)) (hv : Value.okWide Tryd.prog W .any base t v) :
    v = .slice none 0 0 ∨ ∃ b o n c, v = .slice (some ⟨b, o, none⟩) n c ∧ n ≤ c ∧ b < W.heap.size := by
  obtain ⟨a, n, c, rfl⟩ := okWide_slice ht hv
  simp only [Value.okWide, ht, Cell.okWide] at hv
  cases a with
  | none =>
    left
    simp only [Cell.ok, ht] at hv
    cases n <;> cases c <;> simp_all
  | some a =>
    right
    simp only [Cell.ok, ht] at hv
    obtain ⟨h1, _, _, h2, row, cells, h3, _⟩ := hv
    obtain ⟨b, o, sp⟩ := a
    simp only at h2 h3
    subst h2
    refine ⟨b, o, n, c, rfl, h1, ?_⟩
    rcases Nat.lt_or_ge b W.heap.size with h | h
    · exact h
    · unfold World.shape? at h3
      rw [Array.getElem?_eq_none h] at h3
      cases h3

theorem wf_i64_bd {n : Int} (h : (Lit.int .i64 n).wf = true) : -9223372036854775808 ≤ n ∧ n ≤ 9223372036854775807 := by
  simpa [Lit.wf, IntKind.min, IntKind.max, IntKind.signed, IntKind.bits] using h
end Go.Proofs.YtdofgniemkahnaaDoor


namespace Go.Proofs.YtdofgniemkahnaaDoor
set_option linter.unusedVariables false
set_option linter.unusedSimpArgs false
set_option maxRecDepth 100000
open Go.ChangeShapes Go.WideShapes Go.ChangeAt Go.RowKit

theorem choose_listG {α : Type} (P : Nat → α → Prop) : ∀ (n : Nat), (∀ i, i < n → ∃ x, P i x) → ∃ l : List α, l.length = n ∧ ∀ i (h : i < l.length), P i l[i]
  | 0, _ => ⟨[], rfl, fun i h => by simp at h⟩
  | n + 1, h => by
    obtain ⟨l, hl, hp⟩ := choose_listG P n fun i hi => h i (by omega)
    obtain ⟨x, hx⟩ := h n (by omega)
    refine ⟨l ++ [x], by simp [hl], fun i hi => ?_⟩
    by_cases hin : i < l.length
    · rw [List.getElem_append_left hin]; exact hp i hin
    · have : i = n := by simp at hi; omega
      subst this
      rw [List.getElem_append_right (by omega)]
      simpa using hx

theorem vs_in {α : Type} {f : α → Value} {T E : TypeId} (hT : Tryd.prog.underlying T = some (.slice E)) (hc : Tryd.prog.cellsOf E = 1) {H : Type} {enc : TypeId × Value → H} {W : World} {base : Nat} {v : Value} {d : DataW H} {p : List MemPlace}
    (each : ∀ n V y, DataW.trod enc Tryd.prog W 0 (fun _ => true) true n E [V] = some y → ∃ x, V = f x)
    (hv : Value.okWide Tryd.prog W .any base T v) (h : DataW.Trod enc Tryd.prog W 0 (fun _ => true) true T v d p) : ∃ l, Vs f W v l ∧ l.length ≤ 9223372036854775807 ∧ ∀ k, v.ownBlock = some k → k < W.heap.size := by
  have hlt : ∀ k, v.ownBlock = some k → k < W.heap.size := by
    rcases slice_in hT hv with rfl | ⟨b, o, n, c, rfl, _, hb⟩
    · intro k hk; cases hk
    · intro k hk
      obtain rfl : b = k := by simpa [Value.ownBlock] using hk
      exact hb
  obtain ⟨A, n, c, rfl⟩ := okWide_slice hT hv
  obtain ⟨fuel, hf⟩ := h
  rcases Go.Deep.open_slice1 hT hc hf with ⟨hcs, _⟩ | ⟨a, len, cap, m, k, V, D, Pl, hcs, _, hl, hm, hmm, _, hr⟩
  · simp [Value.cells] at hcs
    obtain ⟨rfl, rfl, rfl⟩ := hcs
    exact ⟨[], Vs.nil_ W, by simp, hlt⟩
  · simp [Value.cells] at hcs
    obtain ⟨rfl, rfl, rfl⟩ := hcs
    have hnm : n ≤ m := by rw [hmm]; simp; exact hl
    obtain ⟨l, hll, hls⟩ := choose_listG (fun i x => W.cell? (a.add i) = some (f x)) n (by
      intro i hi
      obtain ⟨h1, h2⟩ := hr i (by omega)
      obtain ⟨x, hx⟩ := each _ _ _ h2
      exact ⟨x, by rw [h1, hx]⟩)
    subst hll
    refine ⟨l, ⟨some a, c, rfl, hl, (fun h => by cases h), fun b hb j hj => ?_⟩, by unfold maxLen at hm; omega, hlt⟩
    cases hb
    exact hls j hj

theorem vs_inP {α : Type} {f : α → Value} {T E : TypeId} (hT : Tryd.prog.underlying T = some (.slice E)) (hc : Tryd.prog.cellsOf E = 1) {H : Type} {enc : TypeId × Value → H} {W : World} {base : Nat} {v : Value} {d : DataW H} {p : List MemPlace}
    (pr : α → Prop) (each : ∀ n V y, DataW.trod enc Tryd.prog W 0 (fun _ => true) true n E [V] = some y → ∃ x, V = f x ∧ pr x)
    (hv : Value.okWide Tryd.prog W .any base T v) (h : DataW.Trod enc Tryd.prog W 0 (fun _ => true) true T v d p) : ∃ l, Vs f W v l ∧ l.length ≤ 9223372036854775807 ∧ (∀ x ∈ l, pr x) ∧ ∀ k, v.ownBlock = some k → k < W.heap.size := by
  have hlt : ∀ k, v.ownBlock = some k → k < W.heap.size := by
    rcases slice_in hT hv with rfl | ⟨b, o, n, c, rfl, _, hb⟩
    · intro k hk; cases hk
    · intro k hk
      obtain rfl : b = k := by simpa [Value.ownBlock] using hk
      exact hb
  obtain ⟨A, n, c, rfl⟩ := okWide_slice hT hv
  obtain ⟨fuel, hf⟩ := h
  rcases Go.Deep.open_slice1 hT hc hf with ⟨hcs, _⟩ | ⟨a, len, cap, m, k, V, D, Pl, hcs, _, hl, hm, hmm, _, hr⟩
  · simp [Value.cells] at hcs
    obtain ⟨rfl, rfl, rfl⟩ := hcs
    exact ⟨[], Vs.nil_ W, by simp, (fun x h => by simp at h), hlt⟩
  · simp [Value.cells] at hcs
    obtain ⟨rfl, rfl, rfl⟩ := hcs
    have hnm : n ≤ m := by rw [hmm]; simp; exact hl
    obtain ⟨l, hll, hls⟩ := choose_listG (fun i x => W.cell? (a.add i) = some (f x) ∧ pr x) n (by
      intro i hi
      obtain ⟨h1, h2⟩ := hr i (by omega)
      obtain ⟨x, hx, hp⟩ := each _ _ _ h2
      exact ⟨x, by rw [h1, hx], hp⟩)
    subst hll
    refine ⟨l, ⟨some a, c, rfl, hl, (fun h => by cases h), fun b hb j hj => ?_⟩, by unfold maxLen at hm; omega, (fun x hx => by obtain ⟨i, hi, rfl⟩ := List.mem_iff_getElem.1 hx; exact (hls i hi).2), hlt⟩
    cases hb
    exact (hls j hj).1

theorem bools_in {H : Type} {enc : TypeId × Value → H} {W : World} {base : Nat} {v : Value} {d : DataW H} {p : List MemPlace} (hv : Value.okWide Tryd.prog W .any base 22 v)
    (h : DataW.Trod enc Tryd.prog W 0 (fun _ => true) true 22 v d p) : ∃ l, Vs tv W v l ∧ l.length ≤ 9223372036854775807 ∧ ∀ k, v.ownBlock = some k → k < W.heap.size :=
  vs_in Tryd.underlying22 (by kernel_rfl) (fun n V y hy => by
    obtain ⟨b, e, _⟩ := DataW.trod_bool Tryd.underlying4 hy
    exact ⟨b, by simpa [tv] using e⟩) hv h

theorem ints_in {H : Type} {enc : TypeId × Value → H} {W : World} {base : Nat} {v : Value} {d : DataW H} {p : List MemPlace} (hv : Value.okWide Tryd.prog W .any base 37 v)
    (h : DataW.Trod enc Tryd.prog W 0 (fun _ => true) true 37 v d p) : ∃ l, Vs iv W v l ∧ l.length ≤ 9223372036854775807 ∧ (∀ x ∈ l, -9223372036854775808 ≤ x ∧ x ≤ 9223372036854775807) ∧ ∀ k, v.ownBlock = some k → k < W.heap.size :=
  vs_inP Tryd.underlying37 (by kernel_rfl) (fun x => -9223372036854775808 ≤ x ∧ x ≤ 9223372036854775807) (fun n V y hy => by
    obtain ⟨b, e, _, hw⟩ := DataW.trod_int Tryd.underlying3 hy
    exact ⟨b, by simpa [iv] using e, wf_i64_bd hw⟩) hv h

end Go.Proofs.YtdofgniemkahnaaDoor


namespace Go.Proofs.YtdofgniemkahnaaDoor
set_option linter.unusedVariables false
set_option linter.unusedSimpArgs false
set_option maxRecDepth 100000
open Go.Joins Go.ChangeShapes Go.WideShapes Go.ChangeAt Go.RowKit Go.Deep

/-- a cell within its fields' ranges -/
structure ClWf (c : Cl) : Prop where
  lo : -9223372036854775808 ≤ c.num
  hi : c.num ≤ 9223372036854775807
  len : c.txt.length ≤ 9223372036854775807
end Go.Proofs.YtdofgniemkahnaaDoor


namespace Go.Proofs.YtdofgniemkahnaaDoor
set_option linter.unusedVariables false
set_option linter.unusedSimpArgs false
set_option maxRecDepth 100000
open Go.Joins Go.ChangeShapes Go.WideShapes Go.ChangeAt Go.RowKit Go.Deep

theorem cof_bool : Tryd.prog.cellsOf 4 = 1 := by kernel_rfl
theorem cof_i64 : Tryd.prog.cellsOf 2 = 1 := by kernel_rfl
theorem cof_str : Tryd.prog.cellsOf 9 = 1 := by kernel_rfl
theorem cof_cl : Tryd.prog.cellsOf 62 = 3 := by kernel_rfl
/-- three cells that are read as a cell -/
theorem cl_cells {H : Type} {enc : TypeId × Value → H} {W : World} {n : Nat} {x : DataW H × List MemPlace} {c2 c3 c4 : Value}
    (h : DataW.trod enc Tryd.prog W 0 (fun _ => true) true n 62 [c2, c3, c4] = some x) : ∃ c : Cl, c2 = .bool c.null ∧ c3 = .int .i64 c.num ∧ c4 = .string ⟨c.txt.toArray⟩ ∧ ClWf c := by
  obtain ⟨y0, y1, y2, m, rfl, _, h0, h1, h2⟩ := trod_struct3 Tryd.underlying62 h
  simp only [cof_bool, cof_i64, cof_str, List.drop_zero, List.drop_succ_cons, List.take_succ_cons, List.take_zero] at h0 h1 h2
  obtain ⟨b, e0, _⟩ := DataW.trod_bool Tryd.underlying4 h0
  obtain rfl := (List.cons.inj e0).1
  obtain ⟨i, e1, _, hi⟩ := DataW.trod_int Tryd.underlying2 h1
  obtain rfl := (List.cons.inj e1).1
  obtain ⟨s, e2, _, hs⟩ := DataW.trod_string Tryd.underlying9 h2
  obtain rfl := (List.cons.inj e2).1
  have hb := wf_i64_bd hi
  exact ⟨⟨b, i, s.data.toList⟩, rfl, rfl, by simp, ⟨hb.1, hb.2, by simpa [maxLen] using hs⟩⟩
end Go.Proofs.YtdofgniemkahnaaDoor


namespace Go.Proofs.YtdofgniemkahnaaDoor
set_option linter.unusedVariables false
set_option linter.unusedSimpArgs false
set_option maxRecDepth 100000
open Go.Joins Go.ChangeShapes Go.WideShapes Go.ChangeAt Go.RowKit Go.Deep

theorem cof_row : Tryd.prog.cellsOf 59 = 1 := by kernel_rfl
theorem bytes_cl : Tryd.prog.bytesOf 62 = 32 := by kernel_rfl
/-- an element's weights are the slice's -/
theorem weights_elem {H : Type} {P : Program} {t e : TypeId} (hu : P.underlying t = some (.slice e)) : ∀ {elems spare : List (DataW H)} {d : DataW H} {n : Nat}, d ∈ elems → n ∈ d.weights P e → n ∈ (DataW.slice elems spare).weights P t := by
  intro elems spare d n hd hn
  have all : ∀ {l : List (DataW H)}, d ∈ l → n ∈ DataW.weightsAll P e l := by
    intro l hl
    induction l with
    | nil => cases hl
    | cons x r ih =>
      simp only [DataW.weightsAll, List.mem_append]
      rcases List.mem_cons.1 hl with rfl | hl
      · exact .inl hn
      · exact .inr (ih hl)
  simp only [DataW.weights, hu, List.mem_cons, List.mem_append]
  exact .inr (.inl (all hd))
/-- a slice of cells in a cell of another one -/
theorem cs_trod {H : Type} {enc : TypeId × Value → H} {W : World} {n : Nat} {x : DataW H × List MemPlace} {v : Value}
    (h : DataW.trod enc Tryd.prog W 0 (fun _ => true) true n 59 [v] = some x) : ∃ (s : Sl) (l : List Cl), v = slV s ∧ s.n = l.length ∧ Cs W (slV s) l ∧ l.length ≤ 9223372036854775807 ∧ (∀ c ∈ l, ClWf c) ∧ ((∀ n ∈ x.1.weights Tryd.prog 59, n ≤ reachBytes) → l.length ≤ 4398046511103) := by
  rcases Go.Deep.open_slice Tryd.underlying59 h with ⟨hcs, _⟩ | ⟨a, len, cap, m, k, D, Pl, hcs, _, hl, hm, hmm, hx, hr⟩
  · obtain rfl := (List.cons.inj hcs).1
    exact ⟨noSl, [], rfl, rfl, Cs.nil_ W, by simp, by simp, fun _ => by simp⟩
  · obtain rfl := (List.cons.inj hcs).1
    have hnm : len ≤ m := by rw [hmm]; simp; exact hl
    obtain ⟨l, hll, hls⟩ := choose_listG (fun i (x : Cl) => At3 W (a.add (i * 3)) x ∧ ClWf x) len (by
      intro i hi
      obtain ⟨cs', h1, h2⟩ := hr i (by omega)
      rw [cof_cl] at h1
      obtain ⟨_, hlen, hcell⟩ := World.cells?_some h1
      match cs', hlen with
      | [v0, v1, v2], _ =>
        obtain ⟨c, rfl, rfl, rfl, hw⟩ := cl_cells h2
        have e0 := hcell 0 (by omega)
        have e1 := hcell 1 (by omega)
        have e2 := hcell 2 (by omega)
        exact ⟨c, ⟨by simpa [add_add] using e0, by simpa using e1, by simpa using e2⟩, hw⟩)
    subst hll
    refine ⟨⟨some a, l.length, cap⟩, l, rfl, rfl, ⟨some a, cap, rfl, hl, (fun h => by cases h), fun b hb j hj => ?_⟩, by unfold maxLen at hm; omega, fun x hx => ?_, fun hz => ?_⟩
    · cases hb
      exact (hls j hj).1
    · obtain ⟨j, hj, rfl⟩ := List.mem_iff_getElem.1 hx
      exact (hls j hj).2
    · have := hz ((((List.range l.length).map D).length + ((List.range (m - l.length)).map fun j => D (l.length + j)).length) * Tryd.prog.bytesOf 62) (by rw [hx]; simp [DataW.weights, Tryd.underlying59])
      rw [bytes_cl] at this
      simp only [List.length_map, List.length_range, reachBytes] at this
      omega
theorem rs_inS {H : Type} {enc : TypeId × Value → H} {W : World} {base : Nat} {v : Value} {d : DataW H} {p : List MemPlace} (hv : Value.okWide Tryd.prog W .any base 36 v)
    (h : DataW.Trod enc Tryd.prog W 0 (fun _ => true) true 36 v d p) : ∃ rs, Rs W v rs ∧ rs.length ≤ 9223372036854775807 ∧ (∀ r ∈ rs, r.length ≤ 9223372036854775807 ∧ ∀ c ∈ r, ClWf c) ∧ (∀ k, v.ownBlock = some k → k < W.heap.size) ∧ ((∀ n ∈ d.weights Tryd.prog 36, n ≤ reachBytes) → ∀ r ∈ rs, r.length ≤ 4398046511103) := by
  have hT := Tryd.underlying36
  have hlt : ∀ k, v.ownBlock = some k → k < W.heap.size := by
    rcases slice_in hT hv with rfl | ⟨b, o, n, c, rfl, _, hb⟩
    · intro k hk; cases hk
    · intro k hk
      obtain rfl : b = k := by simpa [Value.ownBlock] using hk
      exact hb
  obtain ⟨A, n, c, rfl⟩ := okWide_slice hT hv
  obtain ⟨fuel, hf⟩ := h
  rcases Go.Deep.open_slice hT hf with ⟨hcs, _⟩ | ⟨a, len, cap, m, k, D, Pl, hcs, _, hl, hm, hmm, hx, hr⟩
  · simp [Value.cells] at hcs
    obtain ⟨rfl, rfl, rfl⟩ := hcs
    exact ⟨[], Rs.nil_ W, by simp, by simp, hlt, fun _ => by simp⟩
  · simp [Value.cells] at hcs
    obtain ⟨rfl, rfl, rfl⟩ := hcs
    have hnm : n ≤ m := by rw [hmm]; simp; exact hl
    obtain ⟨l, hll, hls⟩ := choose_listG (fun i (x : Sl × List Cl) => W.cell? (a.add i) = some (slV x.1) ∧ Cs W (slV x.1) x.2 ∧ x.2.length ≤ 9223372036854775807 ∧ (∀ c ∈ x.2, ClWf c) ∧ ((∀ n ∈ d.weights Tryd.prog 36, n ≤ reachBytes) → x.2.length ≤ 4398046511103)) n (by
      intro i hi
      obtain ⟨cs', h1, h2⟩ := hr i (by omega)
      rw [cof_row] at h1
      obtain ⟨_, hlen, hcell⟩ := World.cells?_some h1
      match cs', hlen with
      | [v0], _ =>
        obtain ⟨s, l, rfl, _, hc, h3, h4, h5⟩ := cs_trod h2
        have e0 := hcell 0 (by omega)
        exact ⟨(s, l), by simpa [add_add] using e0, hc, h3, h4, fun hz => h5 fun q hq => hz q (by rw [(Prod.mk.inj hx).1]; exact weights_elem Tryd.underlying36 (List.mem_map.2 ⟨i, List.mem_range.2 hi, rfl⟩) hq)⟩)
    subst hll
    refine ⟨l.map Prod.snd, ⟨l.map Prod.fst, by simp, ⟨some a, c, by simp, by simpa using hl, (fun h => by cases h), fun b hb j hj => ?_⟩, fun i a b => ?_⟩, by unfold maxLen at hm; simp; omega, fun x hx => ?_, hlt, fun hz x hx => ?_⟩
    · cases hb
      have hj' : j < l.length := by simpa using hj
      simpa using (hls j hj').1
    · have hj' : i < l.length := by simpa using a
      simpa using (hls i hj').2.1
    · obtain ⟨y, hy, rfl⟩ := List.mem_map.1 hx
      obtain ⟨j, hj, rfl⟩ := List.mem_iff_getElem.1 hy
      exact ⟨(hls j hj).2.2.1, (hls j hj).2.2.2.1⟩
    · obtain ⟨y, hy, rfl⟩ := List.mem_map.1 hx
      obtain ⟨j, hj, rfl⟩ := List.mem_iff_getElem.1 hy
      exact (hls j hj).2.2.2.2 hz
end Go.Proofs.YtdofgniemkahnaaDoor


namespace Go.Proofs.YtdofgniemkahnaaDoor
set_option linter.unusedVariables false
set_option linter.unusedSimpArgs false
set_option maxRecDepth 100000
open Go.ChangeShapes Go.WideShapes Go.ChangeAt Go.RowKit

/-- the table lies as the text lays it -/
theorem tab_in {W : World} {rest : List (String × DataW Unit)} (h : laidMet Tryd.prog (("firkin/crc.halves", Rows.laid_firkin_crc_halves) :: rest) W) : Tab W := by
  have hT : Lib.TabIs Tryd.prog W "firkin/crc.halves" .u32 halfTab := Lib.tabIs_of_head (n := 16) (show Tryd.prog.globalNamed "firkin/crc.halves" = some 0 by kernel_rfl)
    (show (Tryd.prog.globals[0]?).map (·.type) = some 85 by kernel_rfl) Tryd.underlying85 Tryd.underlying71 (by kernel_rfl) (by kernel_rfl) (h : laidMet Tryd.prog (("firkin/crc.halves", Lib.tabData .u32 halfTab) :: rest) W)
  intro i hi
  have := hT.cell (show Tryd.prog.globalNamed "firkin/crc.halves" = some 0 by kernel_rfl) i (by simpa [halfTab] using hi)
  rw [this]
  have hp : 0 ≤ halfTab.getD i 0 := by
    have all : ∀ j : Fin 16, 0 ≤ halfTab.getD j.1 0 := by decide
    exact all ⟨i, hi⟩
  unfold half
  rw [Int.toNat_of_nonneg hp]

theorem tab_inH {W : World} (h : laidMetH Tryd.prog [("firkin/crc.halves", Rows.laid_firkin_crc_halves)] W) : Tab W := by
  rw [MakeChecks.laidMetH_plain _ _ _ (by kernel_rfl)] at h
  exact tab_in h

end Go.Proofs.YtdofgniemkahnaaDoor
