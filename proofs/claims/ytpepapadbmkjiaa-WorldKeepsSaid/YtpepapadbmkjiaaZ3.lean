/-
  Joined: SortT, WldPA, WldPB, Wld3, HeldK, SlcR
-/
import Derived.Lib.Zigzag
import Derived.Deep.QuietTactic
import Derived.BigQuiet
import Derived.Deep.RegionHeld3
import Derived.Deep.DrawnRows
import Derived.Laws.StructEq
import Derived.Laws.Rows
import Derived.Laws.ResultCell
import Derived.Test.YtpepapadbmkjiaaZ1
import Derived.Test.YtpepapadbmkjiaaZ2
import Derived.Shelf.Sort.Plain
import Derived.Shelf.Strings.Prefix
import Derived.Deep.Cut
import Derived.Maps.RangeWalk
import Derived.StillTail
import Derived.ArgAppend
import Derived.Deep.DeepAppendRoom
set_option linter.unusedVariables false
set_option linter.unusedSimpArgs false
set_option maxRecDepth 100000
namespace Go.Proofs.Ytpepapadbmkjiaa
open Go.RowKit
open Go.Sort (Holds putRow putCells mapBlock onCells grow)
theorem hasP_any (s p : List UInt8) (w : World) : Calls Try.prog 55 #[.string ⟨s.toArray⟩, .string ⟨p.toArray⟩] w fun e w' => e = .returned (.bool (p.isPrefixOf s)) ∧ w = w' :=
  (Go.Proofs.Any.strings_HasPrefix lay_has ⟨s.toArray⟩ ⟨p.toArray⟩ w).mono fun e w' ⟨h1, h2⟩ => ⟨by simpa [Lib.hasPrefix] using h1, h2.symm⟩
def leT (x y : List UInt8) : Bool := decide (x ≤ y)
def sortW (w : World) (g n : Nat) (ss : List (List UInt8)) (os : Array Obj) : World := grow (putRow encStr (Go.Sort.ahead w n) g 0 ss.toArray) os
theorem ow_holds {w : World} {B g cap : Nat} {l : List (List UInt8)} (h : Ow sv 9 w B (.slice (some ⟨g, 0, none⟩) l.length cap) l) : Holds encStr w g 0 l.toArray := by
  intro j hj
  have hj' : j < l.length := by simpa using hj
  rw [Nat.zero_add]
  refine ⟨?_, h.frozen rfl j⟩
  rw [h.cell rfl j l[j] (List.getElem?_eq_getElem hj')]
  rw [getElem!_pos l.toArray j hj]
  rfl
theorem sort_row {w : World} {B g cap n : Nat} {os : Array Obj} {l m : List (List UInt8)} (hl : m.length = l.length) (h : Ow sv 9 w B (.slice (some ⟨g, 0, none⟩) l.length cap) l) :
    Ow sv 9 (sortW w g n m os) B (.slice (some ⟨g, 0, none⟩) l.length cap) m ∧ Fr (One g) w (sortW w g n m os) := by
  rcases h.2 with ⟨hv, _⟩ | ⟨g', cap', cur, hv, hbase, hb, h1, h2, h3, h4⟩
  · cases hv
  · obtain ⟨rfl, rfl⟩ : g = g' ∧ cap = cap' := by simpa using hv
    have hg : g < w.heap.size := (Array.getElem?_eq_some_iff.1 hb).1
    unfold sortW
    have hheap : (grow (putRow encStr (Go.Sort.ahead w n) g 0 m.toArray) os).heap[g]? = some (.cells (putCells encStr 0 m.toArray cur) 9 (0, 0)) := by
      rw [Go.Sort.heap_grow_old _ _ (by simpa using hg)]
      simp [putRow, mapBlock, Go.Sort.ahead, Array.getElem?_modify, hb, onCells]
    have htake : (putCells encStr 0 m.toArray cur).toList.take m.length = m.map sv := by
      apply List.ext_getElem?
      intro j
      by_cases hj : j < m.length
      · rw [List.getElem?_take_of_lt hj, Array.getElem?_toList]
        simp [putCells, hj, show j < cur.size by omega]
        rfl
      · rw [List.getElem?_take_eq_none (by omega), List.getElem?_eq_none (by simp; omega)]
    refine ⟨⟨by simp, .inr ⟨g, cap, _, by rw [hl], hbase, hheap, by omega, h2, by simp [putCells, h3], by rw [Nat.mul_one]; exact htake⟩⟩, ⟨rfl, rfl, rfl, by simp, fun k hk hne => ?_⟩⟩
    rw [Go.Sort.heap_grow_old _ _ (by simpa using hk)]
    have : g ≠ k := fun e => hne e.symm
    simp [putRow, mapBlock, Go.Sort.ahead, Array.getElem?_modify, this]
theorem blen0_any (w : World) : Calls Try.prog 59 #[.int .u64 0] w fun e w' => e = .returned (.int .i64 0) ∧ w = w' := by
  have h8 : Lib.len8 0 = 0 := by decide +kernel
  go_enter Try.func59, Try.ntmps59
  go_wp2
  go_ret
  exact ⟨rfl, rfl⟩
theorem ins0_any (A : Option Addr) (c : Nat) (w : World) : Calls Try.prog 60 #[.slice A 0 c, .int .i64 0, .int .i64 0] w fun e w' => e = .returned (.tuple #[]) ∧ w = w' := by
  go_enter Try.func60, Try.ntmps60
  go_wp2
  refine wp_loop_rounds 1 ?_
  rw [rounds_succ]
  go_wp2
  first | exact bodyPost_end (results_none rfl _ _ _) rfl ⟨rfl, rfl⟩ | exact bodyPost_ret (results_none rfl _ _ _) rfl ⟨rfl, rfl⟩
theorem pdq0_any (A : Option Addr) (c : Nat) (w : World) : Calls Try.prog 58 #[.slice A 0 c, .int .i64 0, .int .i64 0, .int .i64 0] w fun e w' => e = .returned (.tuple #[]) ∧ w = w' := by
  go_enter Try.func58, Try.ntmps58
  go_wp2
  refine wp_loop_rounds 1 ?_
  rw [rounds_succ]
  go_wp2_with (go_at_call 60; refine (ins0_any A c w).mono ?_; rintro e w' ⟨rfl, rfl⟩)
  first | exact bodyPost_end (results_none rfl _ _ _) rfl ⟨rfl, rfl⟩ | exact bodyPost_ret (results_none rfl _ _ _) rfl ⟨rfl, rfl⟩
theorem sort0_any (A : Option Addr) (c : Nat) (w : World) : Calls Try.prog 56 #[.slice A 0 c] w fun e w' => e = .returned (.tuple #[]) ∧ w = w' := by
  go_enter Try.func56, Try.ntmps56
  go_wp2_with (first | (go_at_call 59; refine (blen0_any w).mono ?_; rintro e w' ⟨rfl, rfl⟩) | (go_at_call 58; refine (pdq0_any A c w).mono ?_; rintro e w' ⟨rfl, rfl⟩))
  first | exact bodyPost_end (results_none rfl _ _ _) rfl ⟨rfl, rfl⟩ | exact bodyPost_ret (results_none rfl _ _ _) rfl ⟨rfl, rfl⟩
theorem sortT_any (v : Value) (l : List (List UInt8)) (B : Nat) (w : World) (h : Ow sv 9 w B v l) (hl : l.length ≤ 1000000000) :
    Calls Try.prog 56 #[v] w fun e w' => e = .returned (.tuple #[]) ∧ Ow sv 9 w' B v (l.mergeSort leT) ∧ Fr (fun k => v.ownBlock = some k) w w' := by
  have hlen : (l.mergeSort leT).length = l.length := List.length_mergeSort l
  rcases h.2 with ⟨hv, h0⟩ | ⟨g, cap, cur, hv, hbase, hb, h1, h2, h3, h4⟩
  · have hl0 : l = [] := List.eq_nil_of_length_eq_zero h0
    subst hl0 hv
    refine (sort0_any none 0 w).mono ?_
    rintro e w' ⟨rfl, rfl⟩
    exact ⟨rfl, by simpa using h, Fr.refl _ _⟩
  · have hg : g < w.heap.size := (Array.getElem?_eq_some_iff.1 hb).1
    subst hv
    refine (Go.Proofs.Any.slices_Sort_string lay_srt g 0 cap l w (ow_holds h) hg (by omega)).mono ?_
    rintro e w' ⟨rfl, n, os, rfl⟩
    obtain ⟨r1, r2⟩ := sort_row (n := n) (os := os) hlen h
    refine ⟨rfl, ⟨by simp, ?_⟩, r2.mono (fun k _ h => by rw [show k = g from h]; rfl)⟩
    have := r1.2
    rw [hlen] at *
    exact this
end Go.Proofs.Ytpepapadbmkjiaa

namespace Go.Proofs.Ytpepapadbmkjiaa
open Go.RowKit Go.Maps
def ColK {α : Type} (lit : α → Lit) (ks : List α) (left : Lit → Bool) (ss : List α) : Prop := ss.Nodup ∧ ∀ x, x ∈ ss ↔ (x ∈ ks ∧ left (lit x) = false)
theorem sameKey_not {a b : Lit} (h : a ≠ b) : a.sameKey b = false := by
  cases e : a.sameKey b
  · rfl
  · exact absurd (WideAt.sameKey_eq e) h
theorem ColK.step {α : Type} {k : TypeId} {f : α → Value} {lit : α → Lit} {ok : α → Prop} (K : KeyG k f lit ok) {ks ss : List α} {left : Lit → Bool} (h : ColK lit ks left ss) (hk : ∀ x ∈ ks, ok x) {x : α} (hx : x ∈ ks) (hl : left (lit x) = true) : ColK lit ks (fun z => left z && !z.sameKey (lit x)) (ss ++ [x]) := by
  have hnew : x ∉ ss := fun hm => by have := ((h.2 x).1 hm).2; rw [hl] at this; cases this
  refine ⟨List.nodup_append.2 ⟨h.1, by simp, fun a ha b hb => by simp at hb; subst hb; exact fun e => hnew (e ▸ ha)⟩, fun y => ?_⟩
  by_cases hy : y = x
  · subst hy
    have hs : (lit y).sameKey (lit y) = true := WideAt.sameKey_self (K.isLit (hk y hx))
    simp [hx, hs]
  · rw [List.mem_append, h.2 y]
    constructor
    · rintro (⟨h1, h2⟩ | h1)
      · exact ⟨h1, by show (left (lit y) && _) = false; rw [h2]; rfl⟩
      · simp at h1; exact absurd h1 hy
    · rintro ⟨h1, h2⟩
      refine .inl ⟨h1, ?_⟩
      have hne : (lit y).sameKey (lit x) = false := sameKey_not (fun e => hy (K.lits (hk y h1) (hk x hx) e))
      have h3 : (left (lit y) && !(lit y).sameKey (lit x)) = false := h2
      rw [hne] at h3
      simpa using h3
def NamedS (s : Wst) (x : Tx) (l : List Tx) : Prop := l.Nodup ∧ (∀ y, y ∈ l ↔ (y ∈ s.ks ∧ x.isPrefixOf y = true)) ∧ l.Pairwise (fun a b => leT a b = true)
theorem named_sorted {s : Wst} {x : Tx} {ss : List Tx} (h1 : ss.Nodup) (h2 : ∀ y, y ∈ ss ↔ (y ∈ s.ks ∧ x.isPrefixOf y = true)) : NamedS s x (ss.mergeSort leT) := by
  refine ⟨(List.mergeSort_perm ss leT).nodup_iff.2 h1, fun y => by rw [(List.mergeSort_perm ss leT).mem_iff]; exact h2 y, ?_⟩
  refine List.pairwise_mergeSort (fun a b c => ?_) (fun a b => ?_) ss
  · unfold leT
    rw [decide_eq_true_eq, decide_eq_true_eq, decide_eq_true_eq]
    exact List.le_trans
  · unfold leT
    rw [Bool.or_eq_true, decide_eq_true_eq, decide_eq_true_eq]
    exact List.le_total a b
def NmEnd (s : Wst) (x : Tx) (w : World) (n : Nat) (e : Ending) (w' : World) : Prop := ∃ u l, e = .returned u ∧ Ow sv 9 w' w.heap.size u l ∧ NamedS s x l ∧ l.length ≤ n ∧ Fr Non w w'
set_option maxHeartbeats 4000000 in
theorem pwnamed_any {av : Nat → Prop} {n : Nat} {w : World} {g : Nat} {s : Wst} (p : PW av n w g s) (hn : n ≤ 1000000) (x : Tx) (hx : x.length ≤ 1000000000) :
    Calls Try.prog 45 #[ptr g, .string ⟨x.toArray⟩] w (NmEnd s x w n) := by
  obtain ⟨m, fv, f, vals, p⟩ := p
  have c0 : w.cell? ⟨g, 0, none⟩ = some (.map (some m)) := p.blk.cell 0
  have hlg := p.lt
  obtain ⟨D, hown, h2, h3, _⟩ := p.map
  have hsz : Maps.size D ≤ n := hown.size_le
  have HH : Hid (∀ l, has D l = true ↔ ∃ x ∈ s.ks, l = litTx x) := Lib.hid h2
  have HK : Hid (∀ x ∈ s.ks, okTx x) := Lib.hid h3
  have HSZ := Lib.hid hsz
  have HM : Hid (m < w.heap.size) := Lib.hid p.map.lt
  obtain ⟨bx, hbx⟩ : ∃ b, w.heap.size = b := ⟨_, rfl⟩
  have HBX := Lib.hid hbx
  have HEND : Hid (∀ e w', NmEnd s x w n e w' → NmEnd s x w n e w') := Lib.hid (fun e w' h => h)
  clear p h2 h3 hsz
  go_enter Try.func45, Try.ntmps45
  go_wp2_with (at_range; refine wpList_range_own _ rfl _ 42 rfl 9 23 keyTx.law Try.underlying42 rawR m n _ rfl hown ?_; intro w0 hrg0 hg0 hs0)
  (try go_frame)
  rw [hbx] at hrg0 hs0
  have F0 : Fr Non w w0 := (Fr.of_grown hg0).mono (fun k _ e => by cases e)
  clear hg0 hown c0
  try rw [hbx]
  clear hbx
  go_loopw [5] (fun v wr => ∃ (left : Lit → Bool) (cnt : Nat) (ss : List Tx), wr.ranges Try.prog 9 rawR m bx n D left cnt ∧ ss.length + cnt ≤ Maps.size D ∧ Hid (ColK litTx s.ks left ss) ∧ Hid (Ow sv 9 wr (bx + 1) v (ss.filter fun y => x.isPrefixOf y)) ∧ Hid (Fr Non w wr)) (fun _ wr => wr.rangeLeft m bx)
  case atStart =>
    exact ⟨_, _, [], hrg0, by simp, Lib.hid ⟨List.nodup_nil, fun x => by
      constructor
      · intro h; cases h
      · rintro ⟨h1, h2⟩
        rw [(HH.out (litTx x)).2 ⟨x, h1, rfl⟩] at h2; cases h2⟩, Lib.hid (ow_nil _ _), Lib.hid F0⟩
  case round =>
    clear hrg0 hs0 F0
    obtain ⟨left, cnt, ss, hrg, hcs, HC, HO, HF⟩ := hrel
    obtain ⟨Ao, co, rfl⟩ := HO.out.shape
    have hfl : (ss.filter fun y => x.isPrefixOf y).length ≤ ss.length := List.length_filter_le _ _
    go_wp2_with (at_next; refine wpList_next_ranges _ rfl _ rfl 9 keyTx.law rawR (fun v : Value => v) (fun v : Value => v) (fun key kl hk => ⟨key, rfl⟩) (fun v _ _ => ⟨v, rfl⟩) m bx n _ _ _ rfl hrg ?_ ?_)
    · intro hc0 hl0
      have HS : Hid (ss.Nodup ∧ ∀ y, y ∈ ss ↔ y ∈ s.ks) := Lib.hid ⟨HC.out.1, fun y => by rw [HC.out.2 y, hl0]; simp⟩
      have HLN : Hid ((ss.filter fun y => x.isPrefixOf y).length ≤ n) := Lib.hid (by have := HSZ.out; omega)
      have HL9 : Hid ((ss.filter fun y => x.isPrefixOf y).length ≤ 1000000000) := Lib.hid (by have := HLN.out; omega)
      clear hc0 hl0 hrg hcs hfl HC
      obtain ⟨L, hL⟩ : ∃ L, (ss.filter fun y => x.isPrefixOf y) = L := ⟨_, rfl⟩
      rw [hL] at HO HLN HL9 ⊢
      have HLE : Hid ((L.mergeSort leT).length ≤ n ∧ NamedS s x (L.mergeSort leT)) := Lib.hid ⟨by rw [List.length_mergeSort]; exact HLN.out, named_sorted (by rw [← hL]; exact HS.out.1.filter _) (fun y => by rw [← hL, List.mem_filter, HS.out.2 y])⟩
      have HSO := Lib.hid (sortT_any _ L (bx + 1) wr HO.out HL9.out)
      obtain ⟨M, hM⟩ : ∃ M, L.mergeSort leT = M := ⟨_, rfl⟩
      have hML : M.length = L.length := by rw [← hM]; exact List.length_mergeSort L
      replace hML := Lib.hid hML
      rw [hM] at HLE HSO
      clear hM hL
      go_wp2_with fail
      refine HSO.out.mono ?_
      rintro e w3 ⟨rfl, O3, F3⟩
      have HE : Hid (NmEnd s x w n (.returned (.slice Ao L.length co)) w3) := Lib.hid ⟨_, M, rfl, O3.mono (by have := HBX.out; omega), HLE.out.2, HLE.out.1, HF.out.fresh F3 (fun k hk => by have := (HO.out.lt k hk).1; have := HBX.out; omega)⟩
      clear O3 F3
      go_wp2
      go_ret
      exact HE.out
    · intro key c kl y yp w2 cnt2 hkey hlk hv hat hrg2 hlt hg2 hs2 hen
      obtain ⟨z, hz, e⟩ := (HH.out kl).1 (has_true_of_atKey hat)
      subst e
      obtain rfl : key = sv z := keyTx.law.inj hkey (keyTx.of z (HK.out z hz))
      have HC2 := Lib.hid (HC.out.step keyTx HK.out hz hlk)
      have F2 : Fr (One bx) wr w2 := (Fr.of_grown hg2).mono (fun k _ e => by simpa [One, eq_comm] using e)
      have HF2 : Hid (Fr Non w w2) := Lib.hid (HF.out.fresh F2 (fun k hk => by have := HBX.out; have : k = bx := hk; omega))
      have HO2 := Lib.hid (HO.out.fr F2 (fun k hk e => by have := (HO.out.lt k hk).1; have : k = bx := e; omega))
      have HL2 : Hid ((ss.filter fun y => x.isPrefixOf y).length < 1099511627776) := Lib.hid (by have := HSZ.out; omega)
      have hle : bx + 1 ≤ w2.heap.size := by have := hrg2.lt; omega
      have HCS : Hid ((ss ++ [z]).length + cnt2 ≤ Maps.size D) := Lib.hid (by simp; omega)
      have HLEFT := Lib.hid (show w2.rangeLeft m bx < wr.rangeLeft m bx by rw [hrg2.left_eq, hrg.left_eq]; exact hlt)
      have HRG2 := Lib.hid hrg2
      have hzl : z.length ≤ 9223372036854775807 := HK.out z hz
      clear hs2 hkey hat hv hg2 F2 HC HO HF hrg hcs hlk hz hrg2 hlt
      unfold sv at hen
      go_wp2_with fail
      refine (hasP_any z x w2).mono ?_
      rintro e w3 ⟨rfl, rfl⟩
      cases hpz : x.isPrefixOf z
      · have HO3 : Hid (Ow sv 9 w2 (bx + 1) (.slice Ao (ss.filter fun y => x.isPrefixOf y).length co) ((ss ++ [z]).filter fun y => x.isPrefixOf y)) := Lib.hid (by rw [List.filter_append, List.filter_cons, hpz]; simpa using HO2.out)
        clear HO2 HL2 hfl
        go_wp2
        exact ⟨⟨_, cnt2, ss ++ [z], HRG2.out, HCS.out, HC2, HO3, HF2⟩, HLEFT.out⟩
      · have HAP : Hid ((ss ++ [z]).filter (fun y => x.isPrefixOf y) = (ss.filter fun y => x.isPrefixOf y) ++ [z]) := Lib.hid (by rw [List.filter_append, List.filter_cons, hpz]; rfl)
        clear hfl
        go_wp2_with (at_builtin; refine wpList_pushG el_str sv_one rfl (.tmp 19) (.tmp 21) rfl (bx + 1) _ (ss.filter fun y => x.isPrefixOf y) rfl HO2.out _ z rfl rfl HL2.out hle ?_; intro v' w' hown' hfr')
        have hgr : w2.grownBy w' (Value.slice Ao (ss.filter fun y => x.isPrefixOf y).length co).ownBlock := ⟨hfr'.os, hfr'.tape, hfr'.output, hfr'.size, fun i hi hne => hfr'.block i hi (fun e => hne e.symm)⟩
        have hown2 := HO2.out.lt
        have HRG3 := HRG2.out.kept hgr (fun e => by have := (hown2 m e.symm).1; have := HM.out; have := HBX.out; omega) (fun e => by have := (hown2 bx e.symm).1; omega)
        refine ⟨⟨_, cnt2, ss ++ [z], HRG3, HCS.out, HC2, Lib.hid (by rw [HAP.out]; exact hown'), Lib.hid (HF2.out.fresh hfr' (fun k hk => by have := (hown2 k hk).1; have := HBX.out; omega))⟩, ?_⟩
        rw [HRG3.left_eq, ← HRG2.out.left_eq]
        exact HLEFT.out
end Go.Proofs.Ytpepapadbmkjiaa

namespace Go.Proofs.Ytpepapadbmkjiaa
open Go.RowKit
theorem lis_not {s : Wst} {z : Int} {s' : Wst} (h : notS s true = some (z, s')) : lisN s = z ∧ lisS s = s' ∧ z ≠ 0 := by
  rcases notS_cases h with ⟨h1, rfl, rfl⟩ | ⟨h1, h2, rfl, rfl⟩ | ⟨h1, h2, h3, rfl, rfl⟩
  · cases h1
  · unfold lisN lisS; rw [if_pos h2, if_pos h2]; exact ⟨rfl, rfl, by decide⟩
  · have hd : ¬ s.dead = true := by simp [h2]
    unfold lisN lisS; rw [if_neg hd, if_neg hd, if_pos (fun e => (next_zero.1 e) (Or.inl h3))]; exact ⟨rfl, rfl, by decide⟩
theorem lis_done {s : Wst} (h : notS s true = none) : lisN s = (if s.fl.headD 0 = 2 then 11 else 0) ∧ lisS s = faultS (stepS s).2 := by
  obtain ⟨-, h2, h3⟩ := notS_none h
  have hd : ¬ s.dead = true := by simp [h2]
  unfold lisN lisS
  rw [if_neg hd, if_neg hd]
  refine ⟨?_, rfl⟩
  by_cases h4 : s.fl.headD 0 = 2
  · rw [if_pos (fun e => (next_zero.1 e) (Or.inr h4)), if_pos h4]
  · rw [if_neg (fun e => e (next_zero.2 (fun e => e.elim h3 h4))), if_neg h4]
def LisEnd (av : Nat → Prop) (n g b : Nat) (w : World) (s : Wst) (x : Tx) (z : Int) (w' : World) : Prop :=
  z = 0 ∧ PW av n w' g s ∧ Fr (One b) w w' ∧ ∃ u l, w'.cell? ⟨b, 0, none⟩ = some u ∧ Ow sv 9 w' w.heap.size u l ∧ NamedS s x l ∧ l.length ≤ n
set_option maxHeartbeats 4000000 in
theorem pwdolist_any {av : Nat → Prop} {n : Nat} {w : World} {g : Nat} {s : Wst} (p : PW av n w g s) (hn : n ≤ 1000000) (x : Tx) (hx : x.length ≤ 1000000000) (B0 B1 B2 : Nat) (a2 : av B2)
    (h0 : w.cell? ⟨B0, 0, none⟩ = some (ptr g)) (h1 : w.cell? ⟨B1, 0, none⟩ = some (.string ⟨x.toArray⟩)) (h2 : Blk w B2 46 #[.slice none 0 0]) :
    Calls Try.prog 44 #[ptr B0, ptr B1, ptr B2] w fun e w' => ∃ z, e = .returned (.int .i64 z) ∧ LisEnd av n g B2 w s x z w' := by
  have HC := Lib.hid (pwnamed_any p hn x hx)
  have HP := Lib.hid p
  have H2 := Lib.hid h2
  have l2 := h2.lt
  have hng : B2 ≠ g := fun e => p.ng (by rw [← e]; exact a2)
  clear p h2
  go_enter Try.func44, Try.ntmps44
  go_wp2_with fail
  refine HC.out.mono ?_
  rintro e w1 ⟨u, l, rfl, O1, HN, HL, F1⟩
  obtain ⟨Au, cu, rfl⟩ := O1.shape
  have BB := H2.out.fr F1 (fun e => e)
  have c2 : w1.cell? ⟨B2, 0, none⟩ = some (.slice none 0 0) := BB.cell 0
  have z2 : w1.frozen? ⟨B2, 0, none⟩ = false := BB.frozen 0
  have l21 := BB.lt
  have F2 : Fr (One B2) w1 (w1.setCell ⟨B2, 0, none⟩ (.slice Au l.length cu)) := (Fr.refl _ _).set1 0 _
  have HE : Hid (LisEnd av n g B2 w s x 0 (w1.setCell ⟨B2, 0, none⟩ (.slice Au l.length cu))) := Lib.hid ⟨rfl, (HP.out.keep F1 (fun k h => h.elim)).keep F2 (fun k h => Or.inl (by rw [show k = B2 from h]; exact a2)), (Fr.any F1).trans F2, _, l, (BB.set 0 _).cell 0, O1.fr F2 (fun q hq e => by have h5 := (O1.lt q hq).1; have h6 : q = B2 := e; omega), HN, HL⟩
  clear O1 F1 F2 BB HN HL
  go_wp2
  go_ret
  exact ⟨_, rfl, HE.out⟩
def LsEnd (av : Nat → Prop) (n : Nat) (w : World) (g : Nat) (s : Wst) (x : Tx) (e : Ending) (w' : World) : Prop :=
  (∃ u l, e = .returned (.tuple #[u, .int .i64 (lisN s)]) ∧ Vs sv w' u l ∧ l.length ≤ n ∧ (lisN s = 0 → NamedS s x l) ∧ (∀ q, u.ownBlock = some q → ¬ av q ∧ q < w'.heap.size)) ∧ PW av n w' g (lisS s) ∧ Fr (fun k => ¬ av k) w w'
def LsMid (av : Nat → Prop) (n g b : Nat) (w : World) (s : Wst) (x : Tx) (z : Int) (w' : World) : Prop :=
  (z ≠ 0 ∧ LsEnd av n w g s x (.returned (.tuple #[.slice none 0 0, .int .i64 z])) w') ∨ (z = 0 ∧ ∃ u, w'.cell? ⟨b, 0, none⟩ = some u ∧ LsEnd av n w g s x (.returned (.tuple #[u, .int .i64 0])) w')
theorem list_mid {av av' : Nat → Prop} {n g b : Nat} {w V w' : World} {s : Wst} {x : Tx} {e : Ending} (hav : ∀ q, av q → av' q) (ha : ∀ q, av q → q < V.heap.size) (hg : ¬ av g) (hb : ¬ av b) (F : Fr (fun k => ¬ av k) w V)
    (h : ReqEnd av' n g s true V (fun r W' => ∃ W0, Fr (One g) V W0 ∧ LisEnd av' n g b W0 (faultS (stepS s).2) x r W') e w') : ∃ z, e = .returned (.int .i64 z) ∧ LsMid av n g b w s x z w' := by
  have HS : ∀ {X X' : World}, Fr (SG g b) X X' → Fr (fun k => ¬ av k) X X' := fun hf => hf.mono (fun q _ h => by
    rcases h with rfl | rfl
    · exact hg
    · exact hb)
  have H1 : ∀ {X X' : World}, Fr (One g) X X' → Fr (SG g b) X X' := fun hf => hf.mono (fun q _ h => Or.inl h)
  have H4 : ∀ {X X' : World}, Fr (One b) X X' → Fr (SG g b) X X' := fun hf => hf.mono (fun q _ h => Or.inr h)
  have HA : ∀ {X : World} {t : Wst}, PW av' n X g t → PW av n X g t := fun p => p.avoid (fun q hq => Or.inl (hav q hq))
  have hks : ∀ l, NamedS (faultS (stepS s).2) x l → NamedS s x l := fun l h => by
    refine ⟨h.1, fun y => ?_, h.2.2⟩
    rw [h.2.1 y]
    show y ∈ (stepS s).2.ks ∧ _ ↔ _
    rw [(step_ks s).1]
  rcases h with ⟨z, rfl, ⟨s', hn, hp', hf'⟩ | ⟨hn, r, ⟨W0, hfW, rfl, hp', hf', u, l, hu, hO, hN, hL⟩, rfl⟩⟩
  · obtain ⟨e1, e2, e3⟩ := lis_not hn
    refine ⟨z, rfl, Or.inl ⟨e3, ?_⟩⟩
    unfold LsEnd
    rw [e1, e2]
    exact ⟨⟨_, [], rfl, Vs.nil_ _, Nat.zero_le _, fun e => absurd e e3, fun q h => by cases h⟩, HA hp', F.trans (HS (H1 hf'))⟩
  · obtain ⟨e1, e2⟩ := lis_done hn
    have hGF := F.trans (HS ((H1 hfW).trans (H4 hf')))
    refine ⟨_, rfl, ?_⟩
    unfold LsMid LsEnd
    rw [e1, e2]
    by_cases h4 : s.fl.headD 0 = 2
    · rw [if_pos h4]
      exact Or.inl ⟨by decide, ⟨_, [], rfl, Vs.nil_ _, Nat.zero_le _, fun e => absurd e (by decide), fun q h => by cases h⟩, HA hp', hGF⟩
    · rw [if_neg h4]
      refine Or.inr ⟨rfl, u, hu, ⟨u, l, rfl, hO.vs, hL, fun _ => hks l hN, fun q hq => ⟨fun hqa => ?_, (hO.lt q hq).2⟩⟩, HA hp', hGF⟩
      have h5 := (hO.lt q hq).1
      have h6 := ha q hqa
      have h7 := hfW.size
      omega
set_option maxHeartbeats 8000000 in
theorem pwlist_any {av : Nat → Prop} {n : Nat} {w : World} {g : Nat} {s : Wst} (p : PW av n w g s) (hav : ∀ k, av k → k < w.heap.size) (hn : n ≤ 1000000) (x : Tx) (hx : x.length ≤ 1000000000) :
    Calls Try.prog 17 #[ptr g, .string ⟨x.toArray⟩] w fun e w' => LsEnd av n w g s x e w' := by
  have HG := Lib.hid p.ng
  obtain ⟨bx, hbx⟩ : ∃ b, w.heap.size = b := ⟨_, rfl⟩
  obtain ⟨W, hW⟩ : ∃ W, W = (((w.alloc (.cells #[ptr g] 25)).alloc (.cells #[.string ⟨x.toArray⟩] 9)).alloc (.cells #[.slice none 0 0] 46)) := ⟨_, rfl⟩
  obtain ⟨Y0, hY0⟩ : ∃ Y, Y = w.alloc (.cells #[ptr g] 25) := ⟨_, rfl⟩
  have G0 : Fr Non w Y0 := by rw [hY0]; exact (Fr.refl _ _).alloc _
  have s0 : Y0.heap.size = bx + 1 := by rw [hY0]; simp; omega
  have b0 : Blk Y0 (bx) 25 #[ptr g] := by rw [hY0, ← hbx]; exact Blk.new _ _ _
  obtain ⟨Y1, hY1⟩ : ∃ Y, Y = Y0.alloc (.cells #[.string ⟨x.toArray⟩] 9) := ⟨_, rfl⟩
  have G1 : Fr Non Y0 Y1 := by rw [hY1]; exact (Fr.refl _ _).alloc _
  have s1 : Y1.heap.size = bx + 2 := by rw [hY1]; simp; omega
  have b1 : Blk Y1 (bx + 1) 9 #[.string ⟨x.toArray⟩] := by rw [hY1, ← s0]; exact Blk.new _ _ _
  obtain ⟨Y2, hY2⟩ : ∃ Y, Y = Y1.alloc (.cells #[.slice none 0 0] 46) := ⟨_, rfl⟩
  have G2 : Fr Non Y1 Y2 := by rw [hY2]; exact (Fr.refl _ _).alloc _
  have s2 : Y2.heap.size = bx + 3 := by rw [hY2]; simp; omega
  have b2 : Blk Y2 (bx + 2) 46 #[.slice none 0 0] := by rw [hY2, ← s1]; exact Blk.new _ _ _
  have hWY : W = Y2 := by rw [hW, hY2, hY1, hY0]
  subst hWY
  have FW : Fr Non w W := ((G0.trans G1).trans G2)
  have e0 := Lib.hid ((b0.fr G1 (fun e => e)).fr G2 (fun e => e))
  have h0 : W.cell? ⟨bx, 0, none⟩ = some (ptr g) := e0.out.cell 0
  have e1 := Lib.hid (b1.fr G2 (fun e => e))
  have h1 : W.cell? ⟨bx + 1, 0, none⟩ = some (.string ⟨x.toArray⟩) := e1.out.cell 0
  have e2 := Lib.hid b2
  have h2 : W.cell? ⟨bx + 2, 0, none⟩ = some (.slice none 0 0) := e2.out.cell 0
  have hz : W.heap.size = bx + 3 := s2
  have PW0 := Lib.hid ((p.avoid (av' := avR av bx (bx + 3)) (fun k h => h.imp id (fun h => by omega))).keep FW (fun k h => h.elim))
  have HAV : Hid (∀ k, av k → k < bx) := Lib.hid (fun k h => by have := hav k h; omega)
  have HFW : Hid (Fr (fun k => ¬ av k) w W) := Lib.hid (Fr.any FW)
  have HNG : Hid (∀ k, bx ≤ k → k < bx + 3 → k ≠ g) := Lib.hid (fun k h1 h2 e => PW0.out.ng (by rw [← e]; exact Or.inr ⟨h1, h2⟩))
  have hmf := makeFunc_run
  clear e0 e1 h2 hY0 G0 s0 b0 hY1 G1 s1 b1 hY2 G2 s2 b2 FW p hav
  go_enter Try.func17, Try.ntmps17
  go_wp2_with fail
  try rw [hbx]
  try rw [← hW]
  clear hW hbx
  refine (pwreq_any PW0.out true 44 #[ptr bx, ptr (bx + 1), ptr (bx + 2)] (fun r W' => ∃ W0, Fr (One g) W W0 ∧ LisEnd (avR av bx (bx + 3)) n g (bx + 2) W0 (faultS (stepS s).2) x r W') Try.call44 (fun W' hok hf hp => ?_)).mono ?_
  · refine (pwdolist_any hp hn x hx bx (bx + 1) (bx + 2) (Or.inr ⟨by omega, by omega⟩) ((hf.cell (p := ⟨bx, 0, none⟩) (by show _ < W.heap.size; dsimp only; omega) (HNG.out bx (by omega) (by omega))).trans h0) ((hf.cell (p := ⟨bx + 1, 0, none⟩) (by show _ < W.heap.size; dsimp only; omega) (HNG.out (bx + 1) (by omega) (by omega))).trans h1) (e2.out.fr hf (fun e => HNG.out (bx + 2) (by omega) (by omega) e))).mono ?_
    rintro e w' ⟨z, rfl, hz⟩
    exact ⟨z, rfl, W', hf, hz⟩
  intro e w5 hR
  obtain ⟨z, rfl, HM⟩ := list_mid (fun q hq => Or.inl hq) (fun q hq => by have := HAV.out q hq; omega) HG.out (fun h => by have := HAV.out _ h; omega) HFW.out hR
  clear hR h0 h1
  rcases HM with ⟨hz, HE⟩ | ⟨rfl, u, hu, HE⟩
  · have z1 : (z == 0) = false := by rw [beq_eq_false_iff_ne]; exact hz
    have z2 : (z != 0) = true := by rw [bne, z1]; rfl
    have HE := Lib.hid HE
    clear hz
    go_wp2
    go_ret2
    exact HE.out
  · have HE := Lib.hid HE
    go_wp2
    go_ret2
    exact HE.out
end Go.Proofs.Ytpepapadbmkjiaa

namespace Go.Proofs.Ytpepapadbmkjiaa
open Go.RowKit
set_option maxHeartbeats 4000000 in
theorem wdel_any (g : Nat) (n : Tx) (w : World) (hn : n.length ≤ 1000000000) (h : WdB w g (-1) false 0 0) : Calls Try.prog 37 #[ptr g, .string ⟨n.toArray⟩] w fun e w' => e = .returned (.int .i64 (if nm24 n then 0 else 1)) ∧ Fr (One g) w w' := by
  have HN := Lib.hid (dwname_any n w hn)
  by_cases hb : nm24 n = true
  · rw [hb] at HN ⊢
    have hB := Lib.hid h
    clear h hb
    go_enter Try.func37, Try.ntmps37
    go_wp2_with fail
    refine HN.out.mono ?_
    rintro e w0 ⟨rfl, rfl⟩
    go_wp2_with fail
    refine (wstep_any g 0 w hB.out).mono ?_
    rintro e w1 ⟨rfl, h1, F1⟩
    replace h1 := Lib.hid h1
    replace F1 := Lib.hid F1
    go_wp2_with fail
    refine (wfault_any g 1 w1 h1.out).mono ?_
    rintro e w2 ⟨rfl, h2, F2⟩
    replace h2 := Lib.hid h2
    replace F2 := Lib.hid F2
    go_wp2_with fail
    refine (wdrop_any g n (-1) false 1 1 w2 h2.out).mono ?_
    rintro e w3 ⟨rfl, rfl⟩
    go_wp2_with fail
    refine (wdone_any 0 0 w2).mono ?_
    rintro e w3 ⟨rfl, rfl⟩
    go_wp2
    go_ret
    exact ⟨rfl, F1.out.trans F2.out⟩
  · have hb' : nm24 n = false := by simpa using hb
    rw [hb'] at HN ⊢
    clear h hb hb'
    go_enter Try.func37, Try.ntmps37
    go_wp2_with fail
    refine HN.out.mono ?_
    rintro e w0 ⟨rfl, rfl⟩
    go_wp2
    go_ret
    exact ⟨rfl, Fr.refl _ _⟩
set_option maxHeartbeats 4000000 in
theorem wlist_any (g : Nat) (n : Tx) (w : World) (h : WdB w g (-1) false 0 0) : Calls Try.prog 35 #[ptr g, .string ⟨n.toArray⟩] w fun e w' => (∃ u, e = .returned (.tuple #[u, .int .i64 0]) ∧ Vs sv w' u []) ∧ Fr (One g) w w' := by
  have hB := Lib.hid h
  clear h
  go_enter Try.func35, Try.ntmps35
  go_wp2_with fail
  refine (wstep_any g 0 w hB.out).mono ?_
  rintro e w1 ⟨rfl, h1, F1⟩
  replace h1 := Lib.hid h1
  replace F1 := Lib.hid F1
  go_wp2_with fail
  refine (wfault_any g 1 w1 h1.out).mono ?_
  rintro e w2 ⟨rfl, h2, F2⟩
  replace h2 := Lib.hid h2
  have FF := Lib.hid (F1.out.trans F2)
  clear F1 F2
  have hl := h2.out.lt
  go_wp2
  have hown0 : Hid (Vs sv (w2.alloc (.cells #[] 9)) (.slice (some ⟨w2.heap.size, 0, none⟩) 0 0) []) := Lib.hid (ow_lit0 (f := sv) (E := 9) w2 w2.heap.size w2.heap.size rfl (Nat.le_refl _)).vs
  have h3 : WdB (w2.alloc (.cells #[] 9)) g (-1) false 1 1 := h2.out.fr ((Fr.refl Non _).alloc _) (fun e => e)
  have FW : Hid (Fr (One g) w (w2.alloc (.cells #[] 9))) := Lib.hid (FF.out.alloc _)
  obtain ⟨c0, c1, c2, c3, c4, c5, c6, z0, z1, z2, z3, z4, z5, z6⟩ := h3.facts
  have hl3 := h3.lt
  clear h3
  obtain ⟨W, hW⟩ : ∃ W, w2.alloc (.cells #[] 9) = W := ⟨_, rfl⟩
  rw [hW] at hown0 FW c0 c1 c2 c3 c4 c5 c6 z0 z1 z2 z3 z4 z5 z6 hl3 ⊢
  go_loopw [7, 8] (fun u i wr => u = .slice (some ⟨w2.heap.size, 0, none⟩) 0 0 ∧ i = .int .i64 0 ∧ wr = W) (fun _ _ _ => 0)
  case atStart => exact ⟨rfl, rfl, rfl⟩
  case round =>
    obtain ⟨rfl, rfl, rfl⟩ := hrel
    go_wp2
    go_ret2
    exact ⟨⟨_, rfl, hown0.out⟩, FW.out⟩
set_option maxHeartbeats 4000000 in
theorem wget_bad (g : Nat) (n : Tx) (o m : Int) (w : World) (hn : n.length ≤ 1000000000) (hb : ¬(nm24 n = true ∧ 0 ≤ o ∧ -1 ≤ m)) : Calls Try.prog 34 #[ptr g, .string ⟨n.toArray⟩, .int .i64 o, .int .i64 m] w fun e w' => e = .returned (.tuple #[.slice none 0 0, .int .i64 1]) ∧ Fr (One g) w w' := by
  have HN := Lib.hid (dwname_any n w hn)
  by_cases h1 : nm24 n = true
  · rw [h1] at HN
    by_cases h2 : 0 ≤ o
    · have h3 : m < -1 := by
        by_cases h : m < -1
        · exact h
        · exact absurd ⟨h1, h2, by omega⟩ hb
      have d2 : decide (o < 0) = false := by simp; omega
      have d3 : decide (m < -1) = true := by simp; omega
      clear hb h1 h2 h3
      go_enter Try.func34, Try.ntmps34
      go_wp2_with fail
      refine HN.out.mono ?_
      rintro e w0 ⟨rfl, rfl⟩
      go_wp2
      go_ret2
      exact ⟨rfl, Fr.refl _ _⟩
    · have d2 : decide (o < 0) = true := by simp; omega
      clear hb h1 h2
      go_enter Try.func34, Try.ntmps34
      go_wp2_with fail
      refine HN.out.mono ?_
      rintro e w0 ⟨rfl, rfl⟩
      go_wp2
      go_ret2
      exact ⟨rfl, Fr.refl _ _⟩
  · have hb' : nm24 n = false := by simpa using h1
    rw [hb'] at HN
    clear hb h1 hb'
    go_enter Try.func34, Try.ntmps34
    go_wp2_with fail
    refine HN.out.mono ?_
    rintro e w0 ⟨rfl, rfl⟩
    go_wp2
    go_ret2
    exact ⟨rfl, Fr.refl _ _⟩
set_option maxHeartbeats 4000000 in
theorem wget_none (g : Nat) (n : Tx) (o m : Int) (w : World) (hn : n.length ≤ 1000000000) (h : WdB w g (-1) false 0 0) (hb : nm24 n = true ∧ 0 ≤ o ∧ -1 ≤ m) : Calls Try.prog 34 #[ptr g, .string ⟨n.toArray⟩, .int .i64 o, .int .i64 m] w fun e w' => e = .returned (.tuple #[.slice none 0 0, .int .i64 5]) ∧ Fr (One g) w w' := by
  have HN := Lib.hid (dwname_any n w hn)
  obtain ⟨h1, h2, h3⟩ := hb
  rw [h1] at HN
  have d2 : decide (o < 0) = false := by simp; omega
  have d3 : decide (m < -1) = false := by simp; omega
  have hB := Lib.hid h
  clear h h1 h2 h3
  go_enter Try.func34, Try.ntmps34
  go_wp2_with fail
  refine HN.out.mono ?_
  rintro e w0 ⟨rfl, rfl⟩
  go_wp2_with fail
  refine (wstep_any g 0 w hB.out).mono ?_
  rintro e w1 ⟨rfl, h1, F1⟩
  replace h1 := Lib.hid h1
  replace F1 := Lib.hid F1
  go_wp2_with fail
  refine (wfault_any g 1 w1 h1.out).mono ?_
  rintro e w2 ⟨rfl, h2, F2⟩
  replace h2 := Lib.hid h2
  have FF := Lib.hid (F1.out.trans F2)
  clear F1 F2
  go_wp2_with fail
  refine (wfind_any g n (-1) false 1 1 w2 h2.out).mono ?_
  rintro e w3 ⟨rfl, rfl⟩
  go_wp2
  go_ret2
  exact ⟨rfl, FF.out⟩
end Go.Proofs.Ytpepapadbmkjiaa

namespace Go.Proofs.Ytpepapadbmkjiaa
open Go.RowKit
section
variable {P : Program} {ops : Array Oper} {Q : Exit → Act → World → Prop} {md : Region.Mode} {S : World → Prop} {last : Nat}
def wpAnyK (P : Program) (md : Region.Mode) (ops : Array Oper) (Q : Exit → Act → World → Prop) (S : World → Prop) (last : Nat) : Nat → Array Bool → Act → World → Prop
  | 0, listed, a, w => Region.ready md ops listed = [] ∧ Q .normal a w
  | fuel + 1, listed, a, w =>
    (Region.ready md ops listed = [] → Q .normal a w) ∧
    ∀ i ∈ Region.ready md ops listed, wpOp P ops Q i (fun a' w' => (i ≠ last → S w') ∧ wpAnyK P md ops Q S last fuel (listed.setIfInBounds i true) a' w') a w
theorem wpAny_of_K : ∀ (fuel : Nat) (listed : Array Bool) (a : Act) (w : World), wpAnyK P md ops Q S last fuel listed a w → wpAny P md ops Q fuel listed a w
  | 0, _, _, _, h => h
  | fuel + 1, _, _, _, h => ⟨h.1, fun i hi => wpOp_mono (fun a' w' h' => wpAny_of_K fuel _ a' w' h'.2) (h.2 i hi)⟩
theorem wpAnyK_first {i : Nat} {oi : Oper} {v : Value} (hi : ops[i]? = some oi) (hsel : ∀ (j : Nat) (o : Oper) cs b, ops[j]? = some o → o.op ≠ .select cs b)
    (hQ : ∀ c a w, Q (.panic c) (a.put oi.dst v) w → Q (.panic c) a w) (hw : Region.waitsFor md ops last i = true) (hl : i ≠ last) :
    ∀ (fuel : Nat) (listed : Array Bool) (a : Act) (w : World),
      (∀ j oj, ops[j]? = some oj → j ≠ i → listed.getD j true = false → (∀ e ∈ oj.after, Region.binds md e = true → e.on ≠ i) → oi.apart ops oj = true) →
      i ∈ Region.ready md ops listed → YieldsIf P ops S oi v a → S w →
      wpAnyK P md ops Q S last fuel (listed.setIfInBounds i true) (a.put oi.dst v) w → wpAnyK P md ops Q S last (fuel + 1) listed a w := by
  intro fuel
  induction fuel with
  | zero =>
    intro listed a w _ hr hy hS H
    refine ⟨fun h => (by rw [h] at hr; cases hr), fun j hj => ?_⟩
    by_cases hji : j = i
    · subst hji; exact hy.wpOp hi hS ⟨fun _ => hS, H⟩
    · have := ready_mono hj hji
      rw [H.1] at this
      cases this
  | succ fuel ih =>
    intro listed a w hfree hr hy hS H
    refine ⟨fun h => (by rw [h] at hr; cases hr), fun j hj => ?_⟩
    by_cases hji : j = i
    · subst hji; exact hy.wpOp hi hS ⟨fun _ => hS, H⟩
    · have h1 := H.2 j (ready_mono hj hji)
      obtain ⟨hjun, oj, hoj, hall⟩ := mem_ready.1 hj
      have hnot : ∀ e ∈ oj.after, Region.binds md e = true → e.on ≠ i := fun e he hb heq => by
        have h1 := hall e he hb
        have h0 := (mem_ready.1 hr).1
        rw [heq] at h1
        rcases Nat.lt_or_ge i listed.size with h' | h'
        · simp [h'] at h0 h1; rw [h0] at h1; cases h1
        · simp [Array.getElem?_eq_none h'] at h1
      have hjl : j ≠ last := by
        intro e
        subst e
        obtain ⟨oj', hj', e, he, hb, hon⟩ := Region.waitsFor_spec hw
        obtain rfl : oj' = oj := Option.some.inj (hj'.symm.trans hoj)
        exact hnot e he hb hon
      have h2 := wpOp_putIf hoj (hfree j oj hoj hji hjun hnot) (fun cs b => hsel i oi cs b hi) (fun cs b => hsel j oj cs b hoj) hQ hy h1
      have hfree' : ∀ k ok, ops[k]? = some ok → k ≠ i → (listed.setIfInBounds j true).getD k true = false →
          (∀ e ∈ ok.after, Region.binds md e = true → e.on ≠ i) → oi.apart ops ok = true := fun k ok hk hki hun hno => by
        refine hfree k ok hk hki ?_ hno
        by_cases hjk : j = k
        · subst hjk; exact hjun
        · rw [getD_set_ne true hjk] at hun; exact hun
      refine wpOp_mono (fun a' w' h3 => ⟨h3.2.1, ih (listed.setIfInBounds j true) a' w' hfree' (ready_mono hr (Ne.symm hji)) h3.1 (h3.2.1 hjl) ?_⟩) h2
      rw [Array.setIfInBounds_comm _ _ hji]
      exact h3.2.2
theorem wpAnyK_take {i : Nat} {oi : Oper} {v : Value} {fuel : Nat} {listed : Array Bool} {a : Act} {w : World} (hi : ops[i]? = some oi)
    (hs : Region.noSelect ops = true) (hf : Region.free md ops listed i = true) (hr : (Region.ready md ops listed).contains i = true)
    (hQ : ∀ c a w, Q (.panic c) (a.put oi.dst v) w → Q (.panic c) a w) (hw : Region.waitsFor md ops last i = true) (hl : i ≠ last) (hy : YieldsIf P ops S oi v a) (hS : S w)
    (h : wpAnyK P md ops Q S last fuel (listed.setIfInBounds i true) (a.put oi.dst v) w) : wpAnyK P md ops Q S last (fuel + 1) listed a w :=
  wpAnyK_first hi (Region.noSelect_spec hs) hQ hw hl fuel listed a w (Region.free_spec hi hf) (by simpa using hr) hy hS h
theorem wpAnyK_one {i : Nat} {o : Oper} {fuel : Nat} {listed : Array Bool} {a : Act} {w : World} (hr : Region.ready md ops listed = [i]) (ho : ops[i]? = some o)
    (h : ∀ K' : Act → World → Prop, Shut (∀ a w, (i ≠ last → S w) → wpAnyK P md ops Q S last fuel (listed.setIfInBounds i true) a w → K' a w) → if Region.wanted o (yielded ops a.tmps) = true then Oper.wp P o a w K' Q else K' (a.put o.dst undef) w) :
    wpAnyK P md ops Q S last (fuel + 1) listed a w := by
  refine ⟨fun h0 => absurd (hr.symm.trans h0) (by simp), fun j hj => ?_⟩
  rw [hr] at hj
  obtain rfl := List.mem_singleton.1 hj
  exact wpOp_step ho (fun K' hK => h K' (fun a w hS hW => hK a w ⟨hS, hW⟩))
theorem wpAnyK_done {listed : Array Bool} {a : Act} {w : World} (hr : Region.ready md ops listed = []) (h : Q .normal a w) : ∀ fuel, wpAnyK P md ops Q S last fuel listed a w
  | 0 => ⟨hr, h⟩
  | _ + 1 => ⟨fun _ => h, by rw [hr]; simp⟩
theorem wp_region_K {id : Nat} {a : Act} {w : World} (S : World → Prop) (last : Nat) (hm : P.follows .mixedOrders = true)
    (h : wpAnyK P .any ops Q S last ops.size (Array.replicate ops.size false) a w.drew) : (Code.region id ops true).wp P Q a w :=
  wp_region_any hm (wpAny_of_K _ _ _ _ h)
end
end Go.Proofs.Ytpepapadbmkjiaa

namespace Go.Proofs.Ytpepapadbmkjiaa
open Go.RowKit
structure Sl where
  A : Option Addr
  n : Nat
  c : Nat
def slV (s : Sl) : Value := .slice s.A s.n s.c
def noSl : Sl := ⟨none, 0, 0⟩
theorem slV_one (s : Sl) : (slV s).oneCell' = true := rfl
end Go.Proofs.Ytpepapadbmkjiaa
