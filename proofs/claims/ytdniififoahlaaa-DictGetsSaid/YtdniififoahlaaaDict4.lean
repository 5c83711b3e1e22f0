/-
  Layer 8: the walk of dict.Put.
-/
import Derived.Test.YtdniififoahlaaaMap
import Derived.Test.YtdniififoahlaaaDict3
namespace Go.Proofs.Ytdniififoahlaaa
set_option linter.unusedVariables false
set_option linter.unusedSimpArgs false
set_option maxRecDepth 100000
open Go.RowKit Go.Maps Go.Sort

theorem sort_rising {ss : List Tx} (hn : ss.Nodup) : Rising (ss.mergeSort leB) := by
  have tr : ∀ a b c : Tx, leB a b = true → leB b c = true → leB a c = true := fun a b c h1 h2 => by simp only [leB, decide_eq_true_eq] at *; exact List.le_trans h1 h2
  have to : ∀ a b : Tx, (leB a b || leB b a) = true := fun a b => by simp only [leB, Bool.or_eq_true, decide_eq_true_eq]; exact List.le_total a b
  have h1 := List.pairwise_mergeSort tr to ss
  have h2 : (ss.mergeSort leB).Nodup := (List.mergeSort_perm ss leB).nodup_iff.2 hn
  refine (h1.and h2).imp ?_
  intro a b ⟨h3, h4⟩
  simp only [leB, decide_eq_true_eq] at h3
  rcases List.le_iff_lt_or_eq.1 h3 with h | h
  · exact h
  · exact absurd h h4
theorem sort_uniq {ss l : List Tx} (hn : ss.Nodup) (hm : ∀ x, x ∈ ss ↔ x ∈ l) : ss.mergeSort leB = uniq l :=
  rising_one (sort_rising hn) (uniq_rising l) fun x => by rw [(List.mergeSort_perm ss leB).mem_iff, hm, uniq_mem]

/-- what the map says when k of u's texts have their places -/
def gW (u : List Tx) (k : Nat) (x : Tx) : Int := if u.idxOf x < k then (u.idxOf x : Int) else 0
theorem gW_zero (u : List Tx) (x : Tx) : gW u 0 x = 0 := by unfold gW; rw [if_neg (by omega)]
theorem gW_step {u : List Tx} {k : Nat} (hk : k < u.length) (hn : u.Nodup) (x : Tx) : gW u (k + 1) x = if x = u[k] then (k : Int) else gW u k x := by
  have hi : u.idxOf u[k] = k := hn.idxOf_getElem k hk
  unfold gW
  by_cases he : x = u[k]
  · rw [if_pos he, he, hi, if_pos (by omega)]
  · rw [if_neg he]
    have hne : u.idxOf x ≠ k := fun e => he (by subst e; exact (List.getElem_idxOf hk).symm)
    by_cases hlt : u.idxOf x < k
    · rw [if_pos hlt, if_pos (by omega)]
    · rw [if_neg hlt, if_neg (by omega)]
theorem gW_all {u : List Tx} {x : Tx} (h : x ∈ u) : gW u u.length x = (u.idxOf x : Int) := by
  unfold gW; rw [if_pos (List.idxOf_lt_length_of_mem h)]
/-- the places, the first k of them laid -/
def laidD (l : List Tx) (k : Nat) : List Int := (placesD l).take k ++ List.replicate (l.length - k) 0
theorem laidD_zero (l : List Tx) : laidD l 0 = List.replicate l.length 0 := by simp [laidD]
theorem laidD_all (l : List Tx) : laidD l l.length = placesD l := by
  unfold laidD; rw [List.take_of_length_le (by rw [placesD_length]; exact Nat.le_refl _)]; simp
theorem laidD_length (l : List Tx) (k : Nat) (hk : k ≤ l.length) : (laidD l k).length = l.length := by
  unfold laidD; rw [List.length_append, List.length_take, placesD_length, List.length_replicate]; omega
theorem laidD_step (l : List Tx) (k : Nat) (hk : k < l.length) : laidD l (k + 1) = (laidD l k).set k ((uniq l).idxOf l[k] : Int) := by
  have hl : ((placesD l).take k).length = k := by rw [List.length_take, placesD_length]; omega
  unfold laidD
  rw [placesD_take l k hk, show l.length - k = (l.length - (k + 1)) + 1 by omega, List.replicate_succ, List.set_append_right _ _ (by omega), hl, Nat.sub_self]
  simp

theorem mem_take_succ {l : List Tx} {k : Nat} (h : k < l.length) (x : Tx) : x ∈ l.take (k + 1) ↔ x ∈ l[k] :: l.take k := by
  rw [List.take_succ_eq_append_getElem h, List.mem_append, List.mem_cons]; simp [or_comm]

set_option maxHeartbeats 4000000 in
theorem xput_any (v : Value) (l : List Tx) (w : World) (hv : Vs sv w v l) (hl : l.length ≤ 10000) (hx : ∀ x ∈ l, x.length < 1048576) (hb : (plainB (uniq l)).length < 137438953472) :
    Calls Try.prog 9 #[v] w fun e w' => ∃ u, e = .returned u ∧ Own w' w.heap.size u (dictB l) ∧ Fr Non w w' := by
  have HXL := Lib.hid hx
  have HX := Lib.hid (show ∀ x ∈ uniq l, x.length < 1048576 from fun x h => hx x ((uniq_mem l x).1 h))
  have HB := Lib.hid hb
  have HUl := Lib.hid (uniq_length l)
  have HND := Lib.hid (rising_nodup (uniq_rising l))
  have HME := Lib.hid (fun x => uniq_mem l x)
  have HPI := Lib.hid (placesD_i64 (l := l) (by omega))
  have HPL := Lib.hid (placesD_length l)
  have HSU := Lib.hid (fun (ss : List Tx) h1 h2 => sort_uniq (ss := ss) (l := l) h1 h2)
  have HMT := Lib.hid (fun k h => mem_take_succ (l := l) (k := k) h)
  have HLL := Lib.hid (laidD_length l)
  have HLS := Lib.hid (laidD_step l)
  have HL0 := Lib.hid (laidD_zero l)
  have HLA := Lib.hid (laidD_all l)
  have HD := Lib.hid (show dictB l = Lib.uvarint (uniq l).length ++ (plainB (uniq l) ++ putT (placesD l)) from rfl)
  clear hx hb
  obtain ⟨A, c, rfl, hlc, hn, hcell⟩ := hv
  have HN := Lib.hid hn
  have HC := Lib.hid hcell
  clear hn hcell
  have hmm := @run_makeMap Try.prog
  go_enter Try.func9, Try.ntmps9
  go_wp2
  have hm0 := MapW.made w (fun _ => 0)
  have hf0 : Fr Non w (w.alloc (.map #[] 0)) := (Fr.refl _ _).alloc _
  go_loopw [15] (fun i wr => ∃ k : Nat, k ≤ l.length ∧ i = .int .i64 k ∧ MapW wr w.heap.size k (l.take k) (fun _ => 0) ∧ Fr Non w wr) (fun i _ => l.length - (intOf i).toNat)
  case atStart => exact ⟨0, Nat.zero_le _, rfl, hm0, hf0⟩
  case round =>
    clear hm0 hf0
    obtain ⟨k, hk, rfl, hm, hfr⟩ := hrel
    by_cases hlt : k < l.length
    · cases A with
      | none => have := HN.out rfl; omega
      | some a =>
        have g0 : w.cell? (a.add k) = some (sv l[k]) := HC.out a rfl k hlt
        have g1 : wr.cell? (a.add k) = some (sv l[k]) := (hfr.cell (World.block_lt_of_cell? w _ g0) (fun e => e)).trans g0
        unfold sv at g1
        have hxl := HXL.out l[k] (List.getElem_mem hlt)
        have HM := Lib.hid (HMT.out k hlt)
        have HFr := Lib.hid hfr
        clear g0 hfr
        generalize l[k] = x at *
        go_wp2_with (at_mapUpdate; refine wpList_putM _ rfl _ _ _ rfl w.heap.size k (l.take k) (fun _ => 0) rfl hm (by omega) x 0 rfl rfl (by omega) (by omega) (by omega) ?_; intro w1 hm1 hf1)
        go_roundw
        case rel => exact ⟨k + 1, by omega, by go_num, hm1.congr HM.out (fun y _ => by simp), HFr.out.fresh hf1 (fun q hq => by have : q = w.heap.size := hq; omega)⟩
        case measure => simp [intOf]; omega
    · rename World => W1
      have hT : l.take k = l := List.take_of_length_le (by omega)
      rw [hT] at hm
      obtain rfl : k = l.length := by omega
      clear hT
      have HFr := Lib.hid hfr
      have hbl := hm.lt
      obtain ⟨D, h1, h2, h3⟩ := hm
      have hsz : Maps.size D ≤ l.length := h1.size_le
      have HM := Lib.hid (show MapW W1 w.heap.size l.length l (fun _ => 0) from ⟨D, h1, h2, h3⟩)
      have HK := Lib.hid (fun (ss : List Tx) (hp : ss.Perm (strKeys D)) => MapW.keys (g := fun _ => 0) h1 h2 hp)
      have hkeys := callsIn_wide.1 (mkeys_int64 (some w.heap.size) W1)
      have hsort := callsIn_wide.1 (msorted_int64 w.heap.size l.length D _ W1 h1 (by unfold maxLen; omega) (by omega))
      have HSo := Lib.hid hsort
      clear h1 h2 h3 hfr hsort
      go_wp2_with fail
      refine hkeys.mono ?_
      rintro e w1 ⟨rfl, hw1⟩
      subst hw1
      clear hkeys
      go_wp2_with fail
      refine HSo.out.mono ?_
      rintro e w2 ⟨v2, ss, rfl, hperm, hrow, hnil, hb2⟩
      obtain ⟨hnd, hmem⟩ := HK.out ss hperm
      have hU := HSU.out ss hnd hmem
      have hf1 : Fr Non W1 (W1.alloc (.cells #[.map (some w.heap.size)] 33)) := (Fr.refl _ _).alloc _
      have hf2 := hf1.trans (Fr.of_below hb2)
      have hul : ss.length = (uniq l).length := by rw [← hU, List.length_mergeSort]
      have how : Ow sv 9 w2 W1.heap.size v2 (uniq l) := by
        have h := row_mono hrow hf1.size
        unfold Ow
        rw [← hul, ← hU]
        exact h
      clear hrow hnil hb2 hperm hnd hmem hU hul hf1 hsz
      have hm2 := (HM.out.non hf2).congr (g' := gW (uniq l) 0) (ks' := l) (fun x => Iff.rfl) (fun x _ => gW_zero _ x)
      have hfw2 := HFr.out.trans hf2
      generalize hUU : uniq l = u at *
      clear hUU
      have HU := Lib.hid HUl.out
      have hul := HUl.out
      have HGS := Lib.hid (fun k (hk : k < u.length) => gW_step hk HND.out)
      obtain ⟨A2, c2, rfl⟩ := how.shape
      have HOw2 := Lib.hid how
      have HM2 := Lib.hid hm2
      have HF2 := Lib.hid hfw2
      have hle2 := hf2.size
      clear how hm2 hfw2 hf2 HFr HM
      go_wp2
      go_loopw [27] (fun i wx => ∃ j : Nat, j ≤ u.length ∧ i = .int .i64 j ∧ MapW wx w.heap.size (l.length + j) l (gW u j) ∧ Ow sv 9 wx W1.heap.size (.slice A2 u.length c2) u ∧ Fr Non w wx) (fun i _ => u.length - (intOf i).toNat)
      case atStart => exact ⟨0, Nat.zero_le _, rfl, HM2.out, HOw2.out, HF2.out⟩
      case round =>
        obtain ⟨j, hj, rfl, hm, how, hfr⟩ := hrel
        by_cases hju : j < u.length
        · obtain ⟨b, rfl, _, _, hcb⟩ := how.vs.addr (by omega : 0 < u.length)
          have g2 : wr.cell? (b.add j) = some (sv u[j]) := hcb j hju
          unfold sv at g2
          have hxl := HX.out u[j] (List.getElem_mem hju)
          have HG := Lib.hid (HGS.out j hju)
          have HMm := Lib.hid ((HME.out u[j]).1 (List.getElem_mem hju))
          have HO := Lib.hid how
          have HFr := Lib.hid hfr
          clear hcb how hfr
          generalize u[j] = x at *
          go_wp2_with (at_mapUpdate; refine wpList_putM _ rfl _ _ _ rfl w.heap.size (l.length + j) l (gW u j) rfl hm (by omega) x (j : Int) rfl rfl (by omega) (by omega) (by omega) ?_; intro w5 hm5 hf5)
          go_roundw
          case rel => exact ⟨j + 1, by omega, by go_num, hm5.congr (fun y => by rw [List.mem_cons]; exact ⟨.inr, fun h => h.elim (fun e => by rw [e]; exact HMm.out) id⟩) (fun y _ => HG.out y), HO.out.fr hf5 (fun q hq e => by have h1 := (HO.out.lt q hq).1; have h2 : q = w.heap.size := e; omega), HFr.out.fresh hf5 (fun q hq => by have : q = w.heap.size := hq; omega)⟩
          case measure => simp [intOf]; omega
        · rename World => W2
          obtain rfl : j = u.length := by omega
          have HM := Lib.hid hm
          have HO := Lib.hid how
          have HFr := Lib.hid hfr
          have HGA := Lib.hid (fun (x : Tx) (h : x ∈ l) => gW_all ((HME.out x).2 h))
          have hbW := hm.lt
          clear hm how hfr
          go_wp2_with (at_make; refine wpList_mkfullG el_i64 (f := iv) (0 : Int) rfl rfl _ _ rfl _ _ _ _ l.length rfl rfl rfl rfl (by omega) ?_; intro W3 hown3 hf3; have HO3 := Lib.hid hown3; have HF3 := Lib.hid hf3; clear hown3 hf3)
          rw [← HL0.out] at HO3
          have HM3 := Lib.hid (HM.out.non HF3.out)
          have HS3 := Lib.hid (HO.out.non HF3.out)
          have HFw3 := Lib.hid (HFr.out.trans HF3.out)
          have hle3 := HFw3.out.size
          have hle23 := HF3.out.size
          go_loopw [41] (fun i wx => ∃ q : Nat, q ≤ l.length ∧ i = .int .i64 q ∧ MapW wx w.heap.size (l.length + u.length) l (gW u u.length) ∧ Ow sv 9 wx W1.heap.size (.slice A2 u.length c2) u ∧ Ow iv 2 wx W2.heap.size (.slice (some ⟨W2.heap.size, 0, none⟩) l.length l.length) (laidD l q) ∧ Fr Non w wx) (fun i _ => l.length - (intOf i).toNat)
          case atStart => exact ⟨0, Nat.zero_le _, rfl, HM3.out, HS3.out, HO3.out, HFw3.out⟩
          case round =>
            obtain ⟨q, hq, rfl, hm, how, hat, hfr⟩ := hrel
            by_cases hlt : q < l.length
            · cases A with
              | none => have := HN.out rfl; omega
              | some a =>
                have g0 : w.cell? (a.add q) = some (sv l[q]) := HC.out a rfl q hlt
                have g1 : wr.cell? (a.add q) = some (sv l[q]) := (hfr.cell (World.block_lt_of_cell? w _ g0) (fun e => e)).trans g0
                unfold sv at g1
                have hxl := HXL.out l[q] (List.getElem_mem hlt)
                have hlook := hm.look (y := l[q]) (List.getElem_mem hlt) (by omega)
                rw [HGA.out _ (List.getElem_mem hlt)] at hlook
                have HLs := Lib.hid (HLS.out q hlt)
                have hll := HLL.out q hq
                have cq : wr.cell? ⟨W2.heap.size, q, none⟩ = some (iv (laidD l q)[q]) := hat.cell hll.symm q _ (List.getElem?_eq_getElem (by omega))
                have fq := hat.frozen hll.symm q
                have HAt := Lib.hid hat
                have HMm := Lib.hid hm
                have HOo := Lib.hid how
                have HFf := Lib.hid hfr
                have HLl := Lib.hid hll
                clear g0 hm how hat hfr
                unfold iv at cq
                generalize (laidD l q)[q] = old at *
                clear hll
                generalize u.idxOf l[q] = ix at *
                generalize l[q] = x at *
                go_wp2
                go_roundw
                case rel =>
                  have hst := HAt.out.store HLl.out.symm q (ix : Int)
                  have hf : Fr (One W2.heap.size) wr (wr.setCell ⟨W2.heap.size, q, none⟩ (.int .i64 ix)) := (Fr.refl (One W2.heap.size) wr).set1 q _
                  exact ⟨q + 1, by omega, by go_num, HMm.out.fr hf (fun e => by have h : w.heap.size = W2.heap.size := e; omega), HOo.out.fr hf (fun k hk e => by have h1 := (HO.out.lt k hk).2; have h2 : k = W2.heap.size := e; omega), by rw [HLs.out]; exact hst, HFf.out.fresh hf (fun k hk => by have h2 : k = W2.heap.size := hk; omega)⟩
                case measure => simp [intOf]; omega
            · rename World => W4
              obtain rfl : q = l.length := by omega
              rw [HLA.out] at hat
              have HAt := Lib.hid hat
              have HOo := Lib.hid how
              have HFf := Lib.hid hfr
              have hu64 : u.length < two64 := by unfold two64; omega
              have HU64 := Lib.hid hu64
              have huw : IntKind.u64.wrap (u.length : Int) = u.length := IntWalk.u64_in _ ⟨by omega, by omega⟩
              clear hu64 hat how hfr hm
              go_wp2_with fail
              refine (vnum_any u.length W4 HU64.out).mono ?_
              rintro e w5 ⟨v5, rfl, hown5, hf5⟩
              obtain ⟨A5, c5, rfl⟩ := hown5.shape
              go_wp2_with fail
              refine (plain_any _ u w5 (HOo.out.vs.non hf5) (by omega) HX.out HB.out).mono ?_
              rintro e w6 ⟨v6, rfl, hown6, hf6⟩
              obtain ⟨A6, c6, rfl⟩ := hown6.shape
              go_wp2_with fail
              refine (tput_any _ (placesD l) w6 ((HAt.out.vs.non hf5).non hf6) HPI.out (by rw [HPL.out]; omega)).mono ?_
              rintro e w7 ⟨v7, rfl, hown7, hf7⟩
              obtain ⟨A7, c7, rfl⟩ := hown7.shape
              have HP3 := Lib.hid (Parts.three (t := 25) ((hown5.bs.non hf6).non hf7) (hown6.bs.non hf7) hown7.bs)
              have hfl : [Lib.uvarint u.length, plainB u, putT (placesD l)].flatten.length < 1099511627776 := by
                have h1 := putT_len HPI.out
                have h2 := HPL.out
                have h3 := HB.out
                have h4 : (Lib.uvarint u.length).length ≤ 10 := Lib.uvarint_length64 HU64.out
                simp only [List.flatten_cons, List.flatten_nil, List.length_append, List.length_nil]
                omega
              have HFl := Lib.hid hfl
              clear hfl
              go_wp2_with fail
              refine (concat_any w7.heap.size 3 3 _ [Lib.uvarint u.length, plainB u, putT (placesD l)] _ rfl (by omega) HP3.out HFl.out).mono ?_
              rintro e w8 ⟨v8, rfl, hown8, hf8⟩
              go_wp2
              go_ret
              have hfin := ((HFf.out.trans hf5).trans hf6).trans hf7
              refine ⟨v8, rfl, ?_, hfin.trans (((Fr.refl Non w7).alloc _).trans hf8)⟩
              rw [HD.out]
              have hle := hfin.size
              have := hown8.mono (B' := w.heap.size) (by simp; omega)
              simpa using this
end Go.Proofs.Ytdniififoahlaaa
