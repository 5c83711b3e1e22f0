/-
  Joined: Layer 13: a segment's bytes, and what is read of bytes; what is built is read again; nothing of the program. · Layer 12: which rows there may be, both programs'. · Layer 12: letters, digits, words. · Layer 12: which texts may be names, both programs'. · A map of texts to whole numbers of the call's own: which texts it has, and how many; made, written, counted. · Layer 12: which columns a table may have, the program's. · Layer 12: which columns a table may have, the document's; the law's words; the example. · Layer 13: a column of rows, both programs'; why there is no segment. · Layer 12: columns read, the program's. · Layer 11: the example; which lists are small, and may be; two zones compared. · Layer 13: chunks as values; a footer's words in a block.
-/
import Derived.Deep.RegionHeld3
import Derived.StillTail
import Derived.Test.YtheefloegbkflaaGreatDoorZ6
import Derived.Test.YtheefloegbkflaaGreatDoorZ7
import Derived.Test.YtheefloegbkflaaGreatDoorZ1
import Derived.Test.YtheefloegbkflaaGreatDoorZ3
import Derived.Test.YtheefloegbkflaaGreatDoorZ2
import Derived.Laws.RangeAny
import Derived.BigQuiet
import Derived.Maps.OwnSet
import Derived.Maps.OwnOps
import Derived.Laws.StructEq
import Derived.Test.YtheefloegbkflaaGreatDoorZ4

namespace Go.Proofs.YtheefloegbkflaaGreatDoor
set_option linter.unusedVariables false
set_option linter.unusedSimpArgs false
set_option maxRecDepth 100000
open Go.RowKit

/-! ### The zone of cells, as a function -/
theorem isOf_all (l : List Cl) : ∃ z, IsOf l z := by
  have H : ∀ k, k ≤ l.length → ∃ z first, JInv l.length (nulC (l.take k)) (liveC (l.take k)) z first := by
    intro k
    induction k with
    | zero => intro _; exact ⟨_, _, jinv_start _ _⟩
    | succ k ih =>
      intro hk
      obtain ⟨z, first, h⟩ := ih (by omega)
      cases hn : l[k].null with
      | true => exact ⟨_, _, jinv_yes (by omega) h hn⟩
      | false => exact ⟨_, _, jinv_no (by omega) h hn⟩
  obtain ⟨z, first, h⟩ := H l.length (Nat.le_refl _)
  rw [List.take_length] at h
  exact ⟨z, jinv_end h⟩
noncomputable def zoneF (l : List Cl) : Zn := (isOf_all l).choose
theorem zoneF_is (l : List Cl) : IsOf l (zoneF l) := (isOf_all l).choose_spec
theorem IsOf.eqF {l : List Cl} {z : Zn} (h : IsOf l z) : z = zoneF l := isOf_uniq h (zoneF_is l)
theorem zoneF_rows (l : List Cl) : (zoneF l).rows = l.length := (zoneF_is l).rows
theorem zoneF_ok {l : List Cl} (h : ∀ c ∈ l, c.txt.length ≤ 40 ∧ I64 c.num) : ClOk (zoneF l).low ∧ ClOk (zoneF l).high := by
  have q : ∀ c, (c ∈ liveC l ∨ c = noCl) → ClOk c := by
    rintro c (hc | rfl)
    · have h1 := h c (mem_liveC.1 hc).1
      exact ⟨h1.2.1, h1.2.2, by omega⟩
    · exact ⟨by unfold noCl; decide, by unfold noCl; decide, by unfold noCl; decide⟩
  rcases (zoneF_is l).bnds with ⟨_, e1, e2⟩ | ⟨e1, e2, _⟩
  · exact ⟨q _ (.inr e1), q _ (.inr e2)⟩
  · exact ⟨q _ (.inl e1), q _ (.inl e2)⟩
theorem zoneF_txt {l : List Cl} (h : ∀ c ∈ l, c.txt.length ≤ 40 ∧ I64 c.num) : (zoneF l).low.txt.length ≤ 40 ∧ (zoneF l).high.txt.length ≤ 40 ∧ I64 (zoneF l).low.num ∧ I64 (zoneF l).high.num := by
  have q : ∀ c, (c ∈ liveC l ∨ c = noCl) → c.txt.length ≤ 40 ∧ I64 c.num := by
    rintro c (hc | rfl)
    · exact h c (mem_liveC.1 hc).1
    · exact ⟨by unfold noCl; decide, by unfold noCl I64; decide⟩
  rcases (zoneF_is l).bnds with ⟨_, e1, e2⟩ | ⟨e1, e2, _⟩
  · have a := q _ (.inr e1); have b := q _ (.inr e2); exact ⟨a.1, b.1, a.2, b.2⟩
  · have a := q _ (.inl e1); have b := q _ (.inl e2); exact ⟨a.1, b.1, a.2, b.2⟩
/-- a zone that may be is read again, whatever stands behind it -/
theorem tkZ_ownR {ty : Int} {z : Zn} (hlo : ClOk z.low) (hhi : ClOk z.high) (hm : mayZ ty z = true) (r0 : List UInt8) : tkZ ty (zoneB ty z ++ r0) = (z, r0, false) := by
  obtain ⟨q1, q2, q3⟩ := mayZ_cnt hm
  have hrd : rdZ ty (zoneB ty z ++ r0) = (z, r0, false) := by
    have hm2 := hm
    rw [mayZ_is] at hm2
    obtain ⟨r, n, lo, hi⟩ := z
    dsimp only at q1 q2 q3 hlo hhi
    obtain ⟨n, rfl⟩ := Int.eq_ofNat_of_zero_le q1
    obtain ⟨r, rfl⟩ := Int.eq_ofNat_of_zero_le (show 0 ≤ r by omega)
    have h1 := fun rest => most_own (n := r) (m := 4096) (by omega) (by unfold two64; omega) rest
    have h2 := fun rest => most_own (n := n) (m := 4096) (by omega) (by unfold two64; omega) rest
    cases hb : bndZ ⟨r, n, lo, hi⟩ with
    | true =>
      rw [zoneB_some hm hb]
      rw [hb] at hm2
      dsimp only [Int.toNat_natCast] at hm2 ⊢
      have hlt : n < r := by have := of_decide_eq_true hb; dsimp only at this; omega
      simp only [if_true, Bool.and_eq_true] at hm2
      obtain ⟨_, _, m1, m2, _⟩ := hm2
      have t1 := tkC_own hlo (mayC_true m1) (cellB ty hi ++ r0)
      have t2 := tkC_own hhi (mayC_true m2) r0
      rw [show (((Lib.uvarint r ++ Lib.uvarint n) ++ cellB ty lo) ++ cellB ty hi) ++ r0 = Lib.uvarint r ++ (Lib.uvarint n ++ (cellB ty lo ++ (cellB ty hi ++ r0))) by simp]
      unfold rdZ
      rw [(h1 _).1, (h1 _).2.1, (h2 _).1, (h2 _).2.1, t1]
      dsimp only
      rw [t2, if_pos hlt]
    | false =>
      rw [zoneB_none hm hb]
      rw [hb] at hm2
      dsimp only [Int.toNat_natCast] at hm2 ⊢
      have hlt : ¬ n < r := by have := of_decide_eq_false hb; dsimp only at this; omega
      simp only [Bool.false_eq_true, if_false, Bool.and_eq_true] at hm2
      obtain ⟨_, _, m1, m2⟩ := hm2
      have e1 := ceq_is m1
      have e2 := ceq_is m2
      rw [List.append_assoc]
      unfold rdZ
      rw [(h1 _).1, (h1 _).2.1, (h2 _).1, (h2 _).2.1, (h2 _).2.2, if_neg hlt, e1, e2]
  have e : mayZ ty (rdZ ty (zoneB ty z ++ r0)).1 = true := by rw [hrd]; exact hm
  rw [tkZ_yes (by rw [hrd]) e, hrd]
theorem cellB_len {ty : Int} {c : Cl} (h : c.txt.length ≤ 40 ∧ I64 c.num) : (cellB ty c).length ≤ 60 := by
  have h1 := Lib.uvarint_length64 (zig_lt h.2.1 h.2.2)
  have h2 := Lib.uvarint_length64 (show c.txt.length < 18446744073709551616 by omega)
  unfold cellB textB
  split
  · simp
  · split
    · simp; omega
    · split
      · simp; omega
      · simp
theorem zoneB_len {ty : Int} {z : Zn} (h1 : z.low.txt.length ≤ 40 ∧ I64 z.low.num) (h2 : z.high.txt.length ≤ 40 ∧ I64 z.high.num) : (zoneB ty z).length ≤ 140 := by
  cases hm : mayZ ty z with
  | false => rw [zoneB_no hm]; simp
  | true =>
    obtain ⟨q1, q2, q3⟩ := mayZ_cnt hm
    have a := Lib.uvarint_length64 (show z.rows.toNat < 18446744073709551616 by omega)
    have b := Lib.uvarint_length64 (show z.nulls.toNat < 18446744073709551616 by omega)
    cases hb : bndZ z with
    | true => rw [zoneB_some hm hb]; have := cellB_len (ty := ty) h1; have := cellB_len (ty := ty) h2; simp only [List.length_append]; omega
    | false => rw [zoneB_none hm hb]; simp only [List.length_append]; omega

/-! ### A segment's bytes: of each column its type and its cells -/
abbrev Kl := Int × List Cl
def chunkF (p : Kl) : List UInt8 := frameB (putC p.1 p.2)
noncomputable def sayC (p : Kl) : List UInt8 := Lib.uvarint (chunkF p).length ++ zoneB p.1 (zoneF p.2)
noncomputable def saysF (n : Nat) (P : List Kl) : List UInt8 := Lib.uvarint n ++ P.flatMap sayC
noncomputable def footF (n : Nat) (P : List Kl) : List UInt8 := frameB (saysF n P)
noncomputable def segF (n : Nat) (P : List Kl) : List UInt8 := P.flatMap chunkF ++ footF n P
theorem chunk_take {P : List Kl} {k : Nat} (h : k < P.length) : (P.take (k + 1)).flatMap chunkF = (P.take k).flatMap chunkF ++ chunkF P[k] := by
  rw [List.take_succ_eq_append_getElem h, List.flatMap_append]; simp
theorem says_take {P : List Kl} {k : Nat} (n : Nat) (h : k < P.length) : saysF n (P.take (k + 1)) = (saysF n (P.take k) ++ Lib.uvarint (chunkF P[k]).length) ++ zoneB P[k].1 (zoneF P[k].2) := by
  unfold saysF
  rw [List.take_succ_eq_append_getElem h, List.flatMap_append]; simp [sayC]
/-- the column at i of rows; all columns -/
def colC (rows : List (List Cl)) (i : Nat) : List Cl := rows.map fun r => r.getD i noCl
def kls (cols : List Co) (rows : List (List Cl)) : List Kl := (List.range cols.length).map fun i => ((cols.getD i noCo).ty, colC rows i)
theorem kls_length (cols : List Co) (rows : List (List Cl)) : (kls cols rows).length = cols.length := by simp [kls]
theorem kls_at (cols : List Co) (rows : List (List Cl)) (i : Nat) (h : i < cols.length) (h2 : i < (kls cols rows).length) : (kls cols rows)[i] = (cols[i].ty, colC rows i) := by
  simp [kls, h]
theorem colC_length (rows : List (List Cl)) (i : Nat) : (colC rows i).length = rows.length := by simp [colC]
/-- why there is no segment -/
def segE (cols : List Co) (rows : List (List Cl)) : Int := if chkC cols ≠ 0 ∨ rows.length = 0 then 1 else if 200 < rows.length then 4 else if rows.all (rowB cols) = true then 0 else 10

/-- a column of so many cells that may be -/
structure KlOk (n : Nat) (p : Kl) : Prop where
  ty : isTy p.1 = true
  len : p.2.length = n
  may : ∀ c ∈ p.2, mayC p.1 true c = true ∧ I64 c.num
theorem mayC_txt {ty : Int} {nl : Bool} {c : Cl} (h : mayC ty nl c = true) : c.txt.length ≤ 40 := by
  unfold mayC at h
  simp only [Bool.and_eq_true] at h
  obtain ⟨_, h⟩ := h
  split at h
  · simp at h; rw [h.2.2]; simp
  · split at h
    · simp at h; exact h.2
    · simp at h; rw [h.1]; simp
theorem mayC_up {ty : Int} {nl : Bool} {c : Cl} (h : mayC ty nl c = true) : mayC ty true c = true := by
  unfold mayC at *
  cases hn : c.null with
  | true => rw [hn] at h; simp at h ⊢; exact ⟨h.1, h.2.2⟩
  | false => rw [hn] at h; exact h
theorem mayC_nl {ty : Int} {nl : Bool} {c : Cl} (h : mayC ty nl c = true) (hn : c.null = true) : nl = true := by
  unfold mayC at h
  rw [hn] at h
  simp at h; exact h.2.1
theorem KlOk.cells {n : Nat} {p : Kl} (h : KlOk n p) : ∀ c ∈ p.2, c.txt.length ≤ 40 ∧ I64 c.num := fun c hc => ⟨mayC_txt (h.may c hc).1, (h.may c hc).2⟩
theorem KlOk.zone {n : Nat} {p : Kl} (h : KlOk n p) (hn : n ≤ 4096) : mayZ p.1 (zoneF p.2) = true := isOf_may (zoneF_is _) h.ty (fun c hc => (h.may c hc).1) (by rw [h.len]; exact hn)
theorem KlOk.chunk {n : Nat} {p : Kl} (h : KlOk n p) (hn : n ≤ 200) : 0 < (putC p.1 p.2).length ∧ (putC p.1 p.2).length ≤ 10300 ∧ (chunkF p).length ≤ 10320 := by
  have h1 := putC_pos (l := p.2) h.ty
  have h2 := putC_len h.ty h.may
  rw [h.len] at h2
  have h3 := Lib.uvarint_length64 (show (putC p.1 p.2).length < 18446744073709551616 by omega)
  refine ⟨h1, by omega, ?_⟩
  unfold chunkF
  rw [frame_length]
  omega
theorem KlOk.say {n : Nat} {p : Kl} (h : KlOk n p) (hn : n ≤ 200) : (sayC p).length ≤ 150 := by
  have h1 := (h.chunk hn).2.2
  have h2 := Lib.uvarint_length64 (show (chunkF p).length < 18446744073709551616 by omega)
  obtain ⟨a, b, c, d⟩ := zoneF_txt h.cells
  have h3 := zoneB_len (ty := p.1) ⟨a, c⟩ ⟨b, d⟩
  unfold sayC
  rw [List.length_append]
  omega
theorem chunks_len {n : Nat} {P : List Kl} (h : ∀ p ∈ P, KlOk n p) (hn : n ≤ 200) : (P.flatMap chunkF).length ≤ 10320 * P.length := by
  induction P with
  | nil => simp
  | cons p P ih =>
    rw [List.flatMap_cons, List.length_append, List.length_cons]
    have := ((h p (by simp)).chunk hn).2.2
    have := ih fun q hq => h q (by simp [hq])
    omega
theorem sayCs_len {n : Nat} {P : List Kl} (h : ∀ p ∈ P, KlOk n p) (hn : n ≤ 200) : (P.flatMap sayC).length ≤ 150 * P.length := by
  induction P with
  | nil => simp
  | cons p P ih =>
    rw [List.flatMap_cons, List.length_append, List.length_cons]
    have := (h p (by simp)).say hn
    have := ih fun q hq => h q (by simp [hq])
    omega
theorem says_len {n : Nat} {P : List Kl} (h : ∀ p ∈ P, KlOk n p) (hn : n ≤ 200) (hP : P.length ≤ 6) : (saysF n P).length ≤ 910 := by
  have h1 := Lib.uvarint_length64 (show n < 18446744073709551616 by omega)
  have h2 := sayCs_len h hn
  unfold saysF
  rw [List.length_append]
  omega
theorem foot_len {n : Nat} {P : List Kl} (h : ∀ p ∈ P, KlOk n p) (hn : n ≤ 200) (hP : P.length ≤ 6) : (footF n P).length ≤ 930 := by
  have h1 := says_len h hn hP
  have h3 := Lib.uvarint_length64 (show (saysF n P).length < 18446744073709551616 by omega)
  unfold footF
  rw [frame_length]
  omega
theorem seg_len {n : Nat} {P : List Kl} (h : ∀ p ∈ P, KlOk n p) (hn : n ≤ 200) (hP : P.length ≤ 6) : (segF n P).length ≤ 63000 := by
  have h1 := foot_len h hn hP
  have h2 := chunks_len h hn
  unfold segF
  rw [List.length_append]
  omega
/-- the rows may be: so may each column -/
theorem kls_ok {cols : List Co} {rows : List (List Cl)} (hc : chkC cols = 0) (hr : rows.all (rowB cols) = true) (hi : ∀ r ∈ rows, ∀ c ∈ r, I64 c.num) : ∀ p ∈ kls cols rows, KlOk rows.length p := by
  intro p hp
  obtain ⟨i, hi', rfl⟩ := List.mem_map.1 hp
  have hlt : i < cols.length := by simpa using hi'
  have hg : cols.getD i noCo = cols[i] := by simp [hlt]
  have hok := chk_each hc cols[i] (List.getElem_mem hlt)
  have hty : isTy cols[i].ty = true := by have := hok.lo; have := hok.hi; unfold isTy; simp; omega
  refine ⟨by rw [hg]; exact hty, colC_length _ _, fun c hcm => ?_⟩
  obtain ⟨r, hrm, rfl⟩ := List.mem_map.1 hcm
  have hrb := List.all_eq_true.1 hr r hrm
  obtain ⟨e, hj⟩ := of_decide_eq_true hrb
  have hlt2 : i < r.length := by omega
  have hd : r.getD i noCl = r[i] := by simp [hlt2]
  have := hj i hlt hlt2
  rw [hg]
  dsimp only
  rw [hd]
  exact ⟨mayC_up this, hi r hrm _ (List.getElem_mem hlt2)⟩
theorem kls_null {cols : List Co} {rows : List (List Cl)} (hr : rows.all (rowB cols) = true) (i : Nat) (h : i < cols.length) : ∀ c ∈ colC rows i, c.null = true → cols[i].nl = true := by
  intro c hcm hn
  obtain ⟨r, hrm, rfl⟩ := List.mem_map.1 hcm
  have hrb := List.all_eq_true.1 hr r hrm
  obtain ⟨e, hj⟩ := of_decide_eq_true hrb
  have hlt2 : i < r.length := by omega
  have hd : r.getD i noCl = r[i] := by simp [hlt2]
  rw [hd] at hn
  exact mayC_nl (hj i h hlt2) hn

/-! ### What is read -/
/-- a chunk's place, and its zone -/
structure Ch where
  off : Nat
  len : Nat
  zn : Zn
  deriving DecidableEq
def rdSay (R ty : Int) (l : List UInt8) : List UInt8 × Bool :=
  if (tkZ ty (mostR l 1048576)).1.rows = R then (tkZ ty (mostR l 1048576)).2 else ([], true)
/-- of each column: where its chunk is; how many bytes there are; what is left; whether the source failed -/
def rdSays (R : Int) : List Int → Nat → List UInt8 → Bool → List Ch × Nat × List UInt8 × Bool
  | [], at_, l, bad => ([], at_, l, bad)
  | ty :: tys, at_, l, _ => (⟨at_, mostV l 1048576, (tkZ ty (mostR l 1048576)).1⟩ :: (rdSays R tys (at_ + mostV l 1048576) (rdSay R ty l).1 (rdSay R ty l).2).1, (rdSays R tys (at_ + mostV l 1048576) (rdSay R ty l).1 (rdSay R ty l).2).2)
theorem rdSays_len (R : Int) : ∀ (tys : List Int) (at_ : Nat) (l : List UInt8) (b : Bool), (rdSays R tys at_ l b).1.length = tys.length
  | [], _, _, _ => rfl
  | ty :: tys, at_, l, b => by
    unfold rdSays
    rw [List.length_cons, rdSays_len R tys, List.length_cons]
/-- behind k columns: D are read, at_ bytes are ahead, q is left -/
structure ToS (R : Int) (tys : List Int) (l : List UInt8) (b : Bool) (k : Nat) (D : List Ch) (at_ : Nat) (q : List UInt8) (bad : Bool) : Prop where
  len : D.length = k
  one : (rdSays R tys 0 l b).1 = D ++ (rdSays R (tys.drop k) at_ q bad).1
  two : (rdSays R tys 0 l b).2 = (rdSays R (tys.drop k) at_ q bad).2
  big : at_ ≤ k * 1048576
theorem toS_zero (R : Int) (tys : List Int) (l : List UInt8) (b : Bool) : ToS R tys l b 0 [] 0 l b := ⟨rfl, rfl, rfl, Nat.le_refl _⟩
theorem toS_step {R : Int} {tys : List Int} {l : List UInt8} {b : Bool} {k : Nat} {D : List Ch} {at_ : Nat} {q : List UInt8} {bad : Bool} (h : ToS R tys l b k D at_ q bad) (hk : k < tys.length) :
    ToS R tys l b (k + 1) (D ++ [⟨at_, mostV q 1048576, (tkZ tys[k] (mostR q 1048576)).1⟩]) (at_ + mostV q 1048576) (rdSay R tys[k] q).1 (rdSay R tys[k] q).2 := by
  obtain ⟨h0, h1, h2, h3⟩ := h
  rw [List.drop_eq_getElem_cons hk] at h1 h2
  have hm := mostK_le q (show (0 : Int) ≤ 1048576 by omega)
  refine ⟨by simp [h0], ?_, ?_, by omega⟩
  · rw [h1, List.append_assoc]; rfl
  · rw [h2]; rfl
theorem toS_end {R : Int} {tys : List Int} {l : List UInt8} {b : Bool} {k : Nat} {D : List Ch} {at_ : Nat} {q : List UInt8} {bad : Bool} (h : ToS R tys l b k D at_ q bad) (hk : tys.length ≤ k) : rdSays R tys 0 l b = (D, at_, q, bad) := by
  obtain ⟨h0, h1, h2, h3⟩ := h
  rw [List.drop_eq_nil_of_le hk] at h1 h2
  have e1 : (rdSays R tys 0 l b).1 = D := by rw [h1]; simp [rdSays]
  have e2 : (rdSays R tys 0 l b).2 = (at_, q, bad) := by rw [h2]; rfl
  exact Prod.ext e1 e2
/-- a source that failed stays so -/
theorem rdSay_nil (R ty : Int) : rdSay R ty [] = ([], true) := by
  unfold rdSay
  rw [(most_nil 1048576).2.1]
  have h : tkZ ty [] = (noZn, [], true) := tkZ_early (by rw [(most_nil 4096).2.1, (most_nil 4096).2.2])
  rw [h]
  split <;> rfl
theorem rdSays_bad (R : Int) : ∀ (tys : List Int) (at_ : Nat), (rdSays R tys at_ [] true).2.2.2 = true
  | [], _ => rfl
  | ty :: tys, at_ => by
    unfold rdSays
    rw [rdSay_nil]
    exact rdSays_bad R tys _
/-- all that a footer of these columns says -/
def rdF (cols : List Co) (b : List UInt8) : List Ch × Nat × List UInt8 × Bool := rdSays (mostV (gB b) 200) (cols.map Co.ty) 0 (mostR (gB b) 200) (mostB (gB b) 200)
def rowsF (b : List UInt8) : Nat := mostV (gB b) 200
def goodF (cols : List Co) (b : List UInt8) (size : Int) : Bool :=
  decide (gN b = b.length ∧ rowsF b ≠ 0 ∧ (rdF cols b).2.2.2 = false ∧ (rdF cols b).2.2.1 = [] ∧ (((rdF cols b).2.1 + b.length : Nat) : Int) = size)
/-- what Read answers: an error's number, rows, chunks -/
def readF (cols : List Co) (b : List UInt8) (size : Int) : Int × Nat × List Ch :=
  if chkC cols ≠ 0 then (1, 0, []) else if gE b ≠ 0 then (((gE b : Nat) : Int), 0, []) else if goodF cols b size = true then (0, rowsF b, (rdF cols b).1) else (2, 0, [])
theorem readF_arg {cols : List Co} (b : List UInt8) (size : Int) (h : chkC cols ≠ 0) : readF cols b size = (1, 0, []) := by unfold readF; rw [if_pos h]
theorem readF_frame {cols : List Co} {b : List UInt8} (size : Int) (h : chkC cols = 0) (h2 : gE b ≠ 0) : readF cols b size = (((gE b : Nat) : Int), 0, []) := by unfold readF; rw [if_neg (by omega), if_pos h2]
theorem readF_yes {cols : List Co} {b : List UInt8} {size : Int} (h : chkC cols = 0) (h2 : gE b = 0) (h3 : goodF cols b size = true) : readF cols b size = (0, rowsF b, (rdF cols b).1) := by unfold readF; rw [if_neg (by omega), if_neg (by omega), if_pos h3]
theorem readF_no {cols : List Co} {b : List UInt8} {size : Int} (h : chkC cols = 0) (h2 : gE b = 0) (h3 : goodF cols b size = false) : readF cols b size = (2, 0, []) := by unfold readF; rw [if_neg (by omega), if_neg (by omega), h3]; rfl
/-- chunks one behind the other, up to so many bytes -/
def Chain : List Ch → Nat → Nat → Prop
  | [], a, e => a = e
  | c :: cs, a, e => c.off = a ∧ Chain cs (a + c.len) e
theorem rdSays_chain (R : Int) : ∀ (tys : List Int) (at_ : Nat) (l : List UInt8) (b : Bool), Chain (rdSays R tys at_ l b).1 at_ (rdSays R tys at_ l b).2.1
  | [], _, _, _ => rfl
  | ty :: tys, at_, l, b => ⟨rfl, rdSays_chain R tys _ _ _⟩
theorem chain_le : ∀ (cs : List Ch) (a e : Nat), Chain cs a e → a ≤ e ∧ ∀ i (h : i < cs.length), cs[i].off + cs[i].len ≤ e
  | [], a, e, h => ⟨Nat.le_of_eq h, fun i h => by cases h⟩
  | c :: cs, a, e, ⟨h1, h2⟩ => by
    obtain ⟨h3, h4⟩ := chain_le cs _ e h2
    refine ⟨by omega, fun i hi => ?_⟩
    cases i with
    | zero => simp only [List.getElem_cons_zero]; omega
    | succ i => simp only [List.getElem_cons_succ]; exact h4 i (by simpa using hi)
/-- what a footer that is read is -/
theorem readF_is {cols : List Co} {b : List UInt8} {size : Int} (h : (readF cols b size).1 = 0) : chkC cols = 0 ∧ 1 ≤ (readF cols b size).2.1 ∧ (readF cols b size).2.1 ≤ 200 ∧ (readF cols b size).2.2.length = cols.length ∧
    ∃ e : Nat, Chain (readF cols b size).2.2 0 e ∧ ((e + b.length : Nat) : Int) = size := by
  by_cases h1 : chkC cols = 0
  · by_cases h2 : gE b = 0
    · by_cases h3 : goodF cols b size = true
      · rw [readF_yes h1 h2 h3]
        obtain ⟨g1, g2, g3, g4, g5⟩ := of_decide_eq_true h3
        have hm := mostK_le (gB b) (show (0 : Int) ≤ 200 by omega)
        unfold rowsF at g2
        refine ⟨h1, by dsimp only; unfold rowsF; omega, by dsimp only; unfold rowsF; omega, ?_, _, rdSays_chain _ _ _ _ _, g5⟩
        dsimp only
        unfold rdF
        rw [rdSays_len, List.length_map]
      · rw [readF_no h1 h2 (by simpa using h3)] at h; cases h
    · rw [readF_frame size h1 h2] at h; exact absurd (by simpa using h) h2
  · rw [readF_arg b size h1] at h; cases h
/-- what Column answers, of a column that there is -/
noncomputable def colR (c : Co) (R : Int) (z : Zn) (b : List UInt8) : Int × List Cl :=
  if gE b ≠ 0 then (((gE b : Nat) : Int), []) else
  match getC c.ty (gB b) R with
  | none => (2, [])
  | some l => if gN b = b.length ∧ zoneF l = z ∧ ¬ (0 < (zoneF l).nulls ∧ c.nl = false) then (0, l) else (2, [])
theorem colR_frame (c : Co) (R : Int) (z : Zn) {b : List UInt8} (h : gE b ≠ 0) : colR c R z b = (((gE b : Nat) : Int), []) := by unfold colR; rw [if_pos h]
theorem colR_none {c : Co} {R : Int} (z : Zn) {b : List UInt8} (h : gE b = 0) (h2 : getC c.ty (gB b) R = none) : colR c R z b = (2, []) := by unfold colR; rw [if_neg (by omega), h2]
theorem colR_yes {c : Co} {R : Int} {z : Zn} {b : List UInt8} {l : List Cl} (h : gE b = 0) (h2 : getC c.ty (gB b) R = some l) (h3 : gN b = b.length ∧ zoneF l = z ∧ ¬ (0 < (zoneF l).nulls ∧ c.nl = false)) : colR c R z b = (0, l) := by
  unfold colR; rw [if_neg (by omega), h2]; exact if_pos h3
theorem colR_no {c : Co} {R : Int} {z : Zn} {b : List UInt8} {l : List Cl} (h : gE b = 0) (h2 : getC c.ty (gB b) R = some l) (h3 : ¬ (gN b = b.length ∧ zoneF l = z ∧ ¬ (0 < (zoneF l).nulls ∧ c.nl = false))) : colR c R z b = (2, []) := by
  unfold colR; rw [if_neg (by omega), h2]; exact if_neg h3
theorem colR_is {c : Co} {R : Int} {z : Zn} {b : List UInt8} (h : (colR c R z b).1 = 0) : ((colR c R z b).2.length : Int) = R := by
  unfold colR at *
  by_cases h1 : gE b = 0
  · rw [if_neg (by omega)] at *
    cases hg : getC c.ty (gB b) R with
    | none => rw [hg] at h; cases h
    | some l =>
      rw [hg] at h
      dsimp only at h ⊢
      by_cases h3 : gN b = b.length ∧ zoneF l = z ∧ ¬ (0 < (zoneF l).nulls ∧ c.nl = false)
      · rw [if_pos h3]; exact (getC_is hg).1
      · rw [if_neg h3] at h; cases h
  · rw [if_pos h1] at h; exact absurd (by simpa using h) h1
theorem colR_short {c : Co} {R : Int} {z : Zn} {b : List UInt8} : (colR c R z b).2.length ≤ 4096 := by
  unfold colR
  split
  · simp
  · cases hg : getC c.ty (gB b) R with
    | none => simp
    | some l =>
      dsimp only
      have := getC_is hg
      split
      · dsimp only; omega
      · simp
noncomputable def colE (cols : List Co) (R : Int) (chs : List Ch) (i : Int) (b : List UInt8) : Int × List Cl :=
  if i < 0 ∨ (cols.length : Int) ≤ i ∨ (chs.length : Int) ≤ i then (1, []) else colR (cols.getD i.toNat noCo) R (chs.getD i.toNat ⟨0, 0, noZn⟩).zn b
theorem colE_arg {cols : List Co} {R : Int} {chs : List Ch} {i : Int} (b : List UInt8) (h : i < 0 ∨ (cols.length : Int) ≤ i ∨ (chs.length : Int) ≤ i) : colE cols R chs i b = (1, []) := by unfold colE; rw [if_pos h]
theorem colE_at {cols : List Co} {R : Int} {chs : List Ch} {i : Nat} (b : List UInt8) (h1 : i < cols.length) (h2 : i < chs.length) : colE cols R chs i b = colR cols[i] R chs[i].zn b := by
  unfold colE; rw [if_neg (by omega)]; simp [h1, h2]
/-- the pieces of chunks -/
def pieceF (b : List UInt8) (c : Ch) : List UInt8 := (b.drop c.off).take c.len
/-- the columns of these chunks, up to the first one that has an error -/
noncomputable def colsR (cols : List Co) (R : Int) (chs : List Ch) (b : List UInt8) : Nat → Int × List (List Cl)
  | 0 => (0, [])
  | k + 1 => if (colsR cols R chs b k).1 ≠ 0 then colsR cols R chs b k else if (colE cols R chs k (pieceF b (chs.getD k ⟨0, 0, noZn⟩))).1 ≠ 0 then ((colE cols R chs k (pieceF b (chs.getD k ⟨0, 0, noZn⟩))).1, []) else (0, (colsR cols R chs b k).2 ++ [(colE cols R chs k (pieceF b (chs.getD k ⟨0, 0, noZn⟩))).2])
theorem colsR_more {cols : List Co} {R : Int} {chs : List Ch} {b : List UInt8} {k : Nat} (h : (colsR cols R chs b k).1 = 0) (h2 : (colE cols R chs k (pieceF b (chs.getD k ⟨0, 0, noZn⟩))).1 = 0) : colsR cols R chs b (k + 1) = (0, (colsR cols R chs b k).2 ++ [(colE cols R chs k (pieceF b (chs.getD k ⟨0, 0, noZn⟩))).2]) := by
  rw [colsR, if_neg (by omega), if_neg (by omega)]
theorem colsR_stop {cols : List Co} {R : Int} {chs : List Ch} {b : List UInt8} {k : Nat} (h : (colsR cols R chs b k).1 = 0) (h2 : (colE cols R chs k (pieceF b (chs.getD k ⟨0, 0, noZn⟩))).1 ≠ 0) : colsR cols R chs b (k + 1) = ((colE cols R chs k (pieceF b (chs.getD k ⟨0, 0, noZn⟩))).1, []) := by
  rw [colsR, if_neg (by omega), if_pos h2]
theorem colsR_err {cols : List Co} {R : Int} {chs : List Ch} {b : List UInt8} {k : Nat} (h : (colsR cols R chs b k).1 ≠ 0) : ∀ n, k ≤ n → colsR cols R chs b n = colsR cols R chs b k := by
  intro n hn
  induction n with
  | zero =>
    obtain rfl : k = 0 := by omega
    rfl
  | succ n ih =>
    by_cases e : k = n + 1
    · rw [e]
    · have := ih (by omega)
      rw [colsR, this, if_pos h]
theorem colsR_len {cols : List Co} {R : Int} {chs : List Ch} {b : List UInt8} : ∀ {k : Nat}, (colsR cols R chs b k).1 = 0 → (colsR cols R chs b k).2.length = k
  | 0, _ => rfl
  | k + 1, h => by
    by_cases h1 : (colsR cols R chs b k).1 = 0
    · by_cases h2 : (colE cols R chs k (pieceF b (chs.getD k ⟨0, 0, noZn⟩))).1 = 0
      · rw [colsR_more h1 h2, List.length_append, colsR_len h1]; rfl
      · rw [colsR_stop h1 h2] at h; exact absurd h h2
    · rw [colsR_err h1 (k + 1) (by omega)] at h; exact absurd h h1
/-- so many rows of columns -/
def across (cs : List (List Cl)) (n : Nat) : List (List Cl) := (List.range n).map fun k => cs.map fun l => l.getD k noCl
theorem across_length (cs : List (List Cl)) (n : Nat) : (across cs n).length = n := by simp [across]
theorem across_at (cs : List (List Cl)) (n k : Nat) (h : k < (across cs n).length) : (across cs n)[k] = cs.map fun l => l.getD k noCl := by simp [across]
/-- what Rows answers -/
noncomputable def rowsR (cols : List Co) (b : List UInt8) (foot : Int) : Int × List (List Cl) :=
  if foot < 0 ∨ (b.length : Int) < foot then (2, []) else
  if (readF cols (b.drop (b.length - foot.toNat)) b.length).1 ≠ 0 then ((readF cols (b.drop (b.length - foot.toNat)) b.length).1, []) else
  if (colsR cols (readF cols (b.drop (b.length - foot.toNat)) b.length).2.1 (readF cols (b.drop (b.length - foot.toNat)) b.length).2.2 b cols.length).1 ≠ 0 then ((colsR cols (readF cols (b.drop (b.length - foot.toNat)) b.length).2.1 (readF cols (b.drop (b.length - foot.toNat)) b.length).2.2 b cols.length).1, []) else
  (0, across (colsR cols (readF cols (b.drop (b.length - foot.toNat)) b.length).2.1 (readF cols (b.drop (b.length - foot.toNat)) b.length).2.2 b cols.length).2 (readF cols (b.drop (b.length - foot.toNat)) b.length).2.1)
theorem rowsR_arg {cols : List Co} {b : List UInt8} {foot : Int} (h : foot < 0 ∨ (b.length : Int) < foot) : rowsR cols b foot = (2, []) := by unfold rowsR; rw [if_pos h]
theorem rowsR_read {cols : List Co} {b : List UInt8} {foot : Nat} {e : Int} {R : Nat} {chs : List Ch} (h : foot ≤ b.length) (hr : readF cols (b.drop (b.length - foot)) b.length = (e, R, chs)) (he : e ≠ 0) : rowsR cols b foot = (e, []) := by
  unfold rowsR; rw [if_neg (by omega), Int.toNat_natCast, hr, if_pos he]
theorem rowsR_cols {cols : List Co} {b : List UInt8} {foot : Nat} {R : Nat} {chs : List Ch} (h : foot ≤ b.length) (hr : readF cols (b.drop (b.length - foot)) b.length = (0, R, chs)) (hc : (colsR cols R chs b cols.length).1 ≠ 0) : rowsR cols b foot = ((colsR cols R chs b cols.length).1, []) := by
  unfold rowsR; rw [if_neg (by omega), Int.toNat_natCast, hr, if_neg (by simp)]
  dsimp only
  rw [if_pos hc]
theorem rowsR_yes {cols : List Co} {b : List UInt8} {foot : Nat} {R : Nat} {chs : List Ch} (h : foot ≤ b.length) (hr : readF cols (b.drop (b.length - foot)) b.length = (0, R, chs)) (hc : (colsR cols R chs b cols.length).1 = 0) : rowsR cols b foot = (0, across (colsR cols R chs b cols.length).2 R) := by
  unfold rowsR; rw [if_neg (by omega), Int.toNat_natCast, hr, if_neg (by simp)]
  dsimp only
  rw [if_neg (by omega)]
/-! ### What is built is read -/
noncomputable def chsF : List Kl → Nat → List Ch
  | [], _ => []
  | p :: P, a => ⟨a, (chunkF p).length, zoneF p.2⟩ :: chsF P (a + (chunkF p).length)
theorem chsF_length : ∀ (P : List Kl) (a : Nat), (chsF P a).length = P.length
  | [], _ => rfl
  | p :: P, a => by unfold chsF; rw [List.length_cons, chsF_length P, List.length_cons]
theorem chsF_at : ∀ (P : List Kl) (a i : Nat) (h : i < P.length) (h2 : i < (chsF P a).length), (chsF P a)[i] = ⟨a + ((P.take i).flatMap chunkF).length, (chunkF P[i]).length, zoneF P[i].2⟩
  | p :: P, a, 0, h, h2 => by simp [chsF]
  | p :: P, a, i + 1, h, h2 => by
    have h' : i < P.length := by simpa using h
    have := chsF_at P (a + (chunkF p).length) i h' (by rw [chsF_length]; exact h')
    simp only [chsF, List.getElem_cons_succ, this, List.take_succ_cons, List.flatMap_cons, List.length_append]
    congr 1
    omega
theorem rdSays_own {n : Nat} (hn : n ≤ 200) : ∀ (P : List Kl) (a : Nat) (r : List UInt8) (b : Bool), b = false → (∀ p ∈ P, KlOk n p) →
    rdSays n (P.map Prod.fst) a (P.flatMap sayC ++ r) b = (chsF P a, a + (P.flatMap chunkF).length, r, false)
  | [], a, r, b, hb, _ => by subst hb; rfl
  | p :: P, a, r, b, hb, h => by
    have hp := h p (by simp)
    have hc := (hp.chunk hn).2.2
    obtain ⟨m1, m2, m3⟩ := most_own (n := (chunkF p).length) (m := 1048576) (by omega) (by unfold two64; omega) (zoneB p.1 (zoneF p.2) ++ (P.flatMap sayC ++ r))
    obtain ⟨z1, z2⟩ := zoneF_ok hp.cells
    have ht := tkZ_ownR z1 z2 (hp.zone (by omega)) (P.flatMap sayC ++ r)
    have ih := rdSays_own hn P (a + (chunkF p).length) r false rfl (fun q hq => h q (by simp [hq]))
    have hsay : rdSay (n : Int) p.1 (Lib.uvarint (chunkF p).length ++ (zoneB p.1 (zoneF p.2) ++ (P.flatMap sayC ++ r))) = (P.flatMap sayC ++ r, false) := by
      unfold rdSay
      rw [m2, ht]
      dsimp only
      rw [if_pos (by rw [zoneF_rows, hp.len])]
    rw [List.map_cons, List.flatMap_cons]
    rw [show (sayC p ++ P.flatMap sayC) ++ r = Lib.uvarint (chunkF p).length ++ (zoneB p.1 (zoneF p.2) ++ (P.flatMap sayC ++ r)) by unfold sayC; simp]
    unfold rdSays
    rw [hsay, m1, m2, ht]
    dsimp only
    rw [ih]
    dsimp only
    rw [List.flatMap_cons, List.length_append, ← Nat.add_assoc]
    rfl
theorem readF_own {cols : List Co} {n : Nat} {P : List Kl} (hc : chkC cols = 0) (hP : P.map Prod.fst = cols.map Co.ty) (h : ∀ p ∈ P, KlOk n p) (hn : n ≤ 200) (hn1 : 1 ≤ n) : readF cols (footF n P) (segF n P).length = (0, n, chsF P 0) := by
  have hPl : P.length = cols.length := by have := congrArg List.length hP; simpa using this
  have hP6 : P.length ≤ 6 := by rw [hPl]; exact (chk_is hc).2.2.2
  have hsl := says_len h hn hP6
  obtain ⟨g1, g2, g3⟩ := got_own (l := saysF n P) (by omega) []
  rw [List.append_nil] at g1 g2 g3
  obtain ⟨m1, m2, m3⟩ := most_own (n := n) (m := 200) (by omega) (by unfold two64; omega) (P.flatMap sayC)
  have hrow : rowsF (footF n P) = n := by
    unfold rowsF footF; rw [g2]; exact m1
  have hrd : rdF cols (footF n P) = (chsF P 0, (P.flatMap chunkF).length, [], false) := by
    unfold rdF footF
    rw [g2]
    unfold saysF
    rw [m1, m2, m3, ← hP]
    have := rdSays_own hn P 0 [] false rfl h
    rw [List.append_nil, Nat.zero_add] at this
    exact this
  have hgood : goodF cols (footF n P) (segF n P).length = true := by
    unfold goodF
    rw [hrd, hrow]
    refine decide_eq_true ⟨g3, by omega, rfl, rfl, ?_⟩
    dsimp only
    unfold segF
    rw [List.length_append]
  have g1' : gE (footF n P) = 0 := g1
  rw [readF_yes hc g1' hgood, hrow, hrd]
/-- the piece of the column at i -/
theorem piece_own (P : List Kl) (tail : List UInt8) (i : Nat) (h : i < P.length) : ((P.flatMap chunkF ++ tail).drop ((P.take i).flatMap chunkF).length).take (chunkF P[i]).length = chunkF P[i] := by
  have e : P.flatMap chunkF = (P.take i).flatMap chunkF ++ (chunkF P[i] ++ (P.drop (i + 1)).flatMap chunkF) := by
    conv => lhs; rw [← List.take_append_drop i P, List.drop_eq_getElem_cons h]
    rw [List.flatMap_append, List.flatMap_cons]
  rw [e, List.append_assoc, List.drop_left, List.append_assoc, List.take_left]
/-- the column of built cells is read as it -/
theorem colR_own {c : Co} {n : Nat} {p : Kl} (h : KlOk n p) (hn : n ≤ 200) (hty : p.1 = c.ty) (hnl : ∀ x ∈ p.2, x.null = true → c.nl = true) : colR c n (zoneF p.2) (chunkF p) = (0, p.2) := by
  obtain ⟨h1, h2, h3⟩ := h.chunk hn
  obtain ⟨g1, g2, g3⟩ := got_own (l := putC p.1 p.2) (by omega) []
  rw [List.append_nil] at g1 g2 g3
  have hg := getC_put (l := p.2) h.ty (by rw [h.len]; omega) h.may
  rw [h.len] at hg
  refine colR_yes (l := p.2) g1 (by unfold chunkF; rw [g2, ← hty]; exact hg) ⟨g3, rfl, fun ⟨q1, q2⟩ => ?_⟩
  rw [(zoneF_is p.2).nulls] at q1
  unfold nulC at q1
  obtain ⟨x, hx⟩ := List.exists_mem_of_length_pos (show 0 < (p.2.filter fun c => c.null).length by omega)
  obtain ⟨hx1, hx2⟩ := List.mem_filter.1 hx
  rw [hnl x hx1 (by simpa using hx2)] at q2
  cases q2
theorem colsR_own {cols : List Co} {n : Nat} {P : List Kl} (hP : P.map Prod.fst = cols.map Co.ty) (h : ∀ p ∈ P, KlOk n p) (hn : n ≤ 200) (hnl : ∀ i (h1 : i < P.length) (h2 : i < cols.length), ∀ x ∈ P[i].2, x.null = true → cols[i].nl = true) (tail : List UInt8) :
    ∀ k, k ≤ cols.length → colsR cols n (chsF P 0) (P.flatMap chunkF ++ tail) k = (0, (P.take k).map Prod.snd) := by
  have hPl : P.length = cols.length := by have := congrArg List.length hP; simpa using this
  intro k
  induction k with
  | zero => intro _; simp [colsR]
  | succ k ih =>
    intro hk
    have ih := ih (by omega)
    have hkP : k < P.length := by omega
    have hkc : k < (chsF P 0).length := by rw [chsF_length]; exact hkP
    have hat := chsF_at P 0 k hkP hkc
    have hgd : (chsF P 0).getD k ⟨0, 0, noZn⟩ = (chsF P 0)[k] := by simp [hkc]
    have hty : P[k].1 = cols[k].ty := by
      have := congrArg (fun l => l[k]?) hP
      simpa [hkP, show k < cols.length by omega] using this
    have hpc : pieceF (P.flatMap chunkF ++ tail) ((chsF P 0).getD k ⟨0, 0, noZn⟩) = chunkF P[k] := by
      rw [hgd, hat]
      unfold pieceF
      dsimp only
      rw [Nat.zero_add]
      exact piece_own P tail k hkP
    have hcol : colE cols n (chsF P 0) k (pieceF (P.flatMap chunkF ++ tail) ((chsF P 0).getD k ⟨0, 0, noZn⟩)) = (0, P[k].2) := by
      rw [hpc, colE_at _ (by omega) hkc, hat]
      exact colR_own (h _ (List.getElem_mem hkP)) hn hty (hnl k hkP (by omega))
    rw [colsR_more (by rw [ih]) (by rw [hcol]), ih, hcol, List.take_succ_eq_append_getElem hkP, List.map_append]
    rfl
theorem kls_types (cols : List Co) (rows : List (List Cl)) : (kls cols rows).map Prod.fst = cols.map Co.ty := by
  refine List.ext_getElem (by simp [kls]) fun i h1 h2 => ?_
  have h3 : i < cols.length := by simpa using h2
  simp [kls, h3]
theorem kls_cells (cols : List Co) (rows : List (List Cl)) : (kls cols rows).map Prod.snd = (List.range cols.length).map (colC rows) := by
  simp [kls]
/-- across the columns of rows there are the rows -/
theorem across_own {n : Nat} {rows : List (List Cl)} (h : ∀ r ∈ rows, r.length = n) : across ((List.range n).map (colC rows)) rows.length = rows := by
  refine List.ext_getElem (by rw [across_length]) fun k h1 h2 => ?_
  rw [across_at, List.map_map]
  have hr := h rows[k] (List.getElem_mem h2)
  refine List.ext_getElem (by simp [hr]) fun i h3 h4 => ?_
  have hi : i < n := by simpa using h3
  simp only [List.getElem_map, List.getElem_range, Function.comp]
  unfold colC
  rw [List.getD_eq_getElem?_getD, List.getElem?_map, List.getElem?_eq_getElem h2]
  simp [h4]
/-- all rows are read -/
theorem rowsR_own {cols : List Co} {rows : List (List Cl)} (hc : chkC cols = 0) (hr : rows.all (rowB cols) = true) (hi : ∀ r ∈ rows, ∀ c ∈ r, I64 c.num) (hn : rows.length ≤ 200) (hn1 : 1 ≤ rows.length) :
    rowsR cols (segF rows.length (kls cols rows)) (footF rows.length (kls cols rows)).length = (0, rows) := by
  have hP := kls_types cols rows
  have hok := kls_ok hc hr hi
  have hrd := readF_own hc hP hok hn hn1
  have hle : (footF rows.length (kls cols rows)).length ≤ (segF rows.length (kls cols rows)).length := by unfold segF; rw [List.length_append]; omega
  have hdr : (segF rows.length (kls cols rows)).drop ((segF rows.length (kls cols rows)).length - (footF rows.length (kls cols rows)).length) = footF rows.length (kls cols rows) := by
    unfold segF
    rw [List.length_append, Nat.add_sub_cancel, List.drop_left]
  have hcs := colsR_own hP hok hn (fun i h1 h2 => by rw [kls_at cols rows i h2 h1]; exact kls_null hr i h2) (footF rows.length (kls cols rows)) cols.length (Nat.le_refl _)
  rw [rowsR_yes hle (by rw [hdr]; exact hrd) (by unfold segF; rw [hcs])]
  unfold segF
  rw [hcs]
  dsimp only
  rw [List.take_of_length_le (by rw [kls_length]; exact Nat.le_refl _), kls_cells, across_own (fun r hrm => (of_decide_eq_true (List.all_eq_true.1 hr r hrm)).1.symm)]
end Go.Proofs.YtheefloegbkflaaGreatDoor


namespace Go.Proofs.YtheefloegbkflaaGreatDoor
set_option linter.unusedVariables false
set_option linter.unusedSimpArgs false
set_option maxRecDepth 100000
open Go.RowKit

/-- a column in a block, a cell at an address -/
structure RowAt (w : World) (g : Nat) (a : Addr) (x : Co) (y : Cl) : Prop where
  col : CoB w g x
  row : At3 w a y
theorem RowAt.non {w w' : World} {g : Nat} {a : Addr} {x : Co} {y : Cl} (h : RowAt w g a x y) (hf : Fr Non w w') : RowAt w' g a x y := ⟨h.col.fr hf (fun e => e), hf.at3 h.row⟩

set_option maxHeartbeats 4000000 in
theorem srow_any (v1 v2 : Value) (l : List Co) (row : List Cl) (w : World) (h1 : Ks w v1 l) (h2 : Cs w v2 row) (hl : l.length ≤ 1000000000) :
    Calls Tryz.prog 51 #[v1, v2] w fun e w' => e = .returned (.bool (rowB l row)) ∧ Fr Non w w' := by
  obtain ⟨A1, c1, rfl, hc1, hn1, hcell1⟩ := h1
  obtain ⟨A2, c2, rfl, hc2, hn2, hcell2⟩ := h2
  have HN1 := Lib.hid hn1
  have HN2 := Lib.hid hn2
  have HC1 := Lib.hid hcell1
  have HC2 := Lib.hid hcell2
  clear hn1 hn2 hcell1 hcell2
  by_cases hlen : l.length = row.length
  · have HL := Lib.hid hlen
    have hb : ((row.length : Int) != l.length) = false := by rw [hlen]; simp
    have hle : l.length ≤ row.length := by omega
    have hge : row.length ≤ l.length := by omega
    clear hlen
    go_enter Tryz.func51, Tryz.ntmps51
    go_wp2
    go_loopw [14] (fun i wr => ∃ k : Nat, k ≤ l.length ∧ i = .int .i64 k ∧ Hid (∀ j (h : j < l.length) (h2 : j < row.length), j < k → mayC l[j].ty l[j].nl row[j] = true) ∧ Fr Non w wr) (fun i _ => l.length - (intOf i).toNat)
    case atStart => exact ⟨0, Nat.zero_le _, rfl, Lib.hid (fun _ _ _ h => by omega), Fr.refl _ _⟩
    case round =>
      obtain ⟨k, hk, rfl, HT, hfr⟩ := hrel
      by_cases hlt : k < l.length
      · cases A1 with
        | none => have := HN1.out rfl; omega
        | some a1 =>
          cases A2 with
          | none => have := HN2.out rfl; omega
          | some a2 =>
            have hlt2 : k < row.length := by omega
            obtain ⟨g0, g1, g2⟩ := co_lit ((HC1.out a1 rfl k hlt).non hfr)
            have hr := hfr.at3 (HC2.out a2 rfl k hlt2)
            have HY := Lib.hid (fun h => row_more hlt hlt2 HT.out h)
            have HX := Lib.hid (fun h => row_bad hlt hlt2 h)
            clear HT
            generalize l[k] = x at *
            generalize row[k] = y at *
            obtain ⟨xn, xt, xb⟩ := x
            obtain ⟨yn, yt, yb⟩ := y
            dsimp only at g0 g1 g2 HY HX
            have f1 := (Fr.refl Non wr).alloc (.cells #[.string ⟨xn.toArray⟩, .int .i64 xt, .bool xb] 69)
            have hD : RowAt _ wr.heap.size _ _ _ := ⟨co_new wr ⟨xn, xt, xb⟩, f1.at3 hr⟩
            have FD := Lib.hid (hfr.trans f1)
            replace hD := Lib.hid hD
            clear hr f1 hfr
            go_wp2
            obtain ⟨V, hV⟩ : ∃ V, wr.alloc (.cells #[.string ⟨xn.toArray⟩, .int .i64 xt, .bool xb] 69) = V := ⟨_, rfl⟩
            rw [hV] at hD FD ⊢
            clear hV
            have hD := hD.out
            have FD := FD.out
            generalize wr.heap.size = g at *
            replace hD : RowAt V.drew g _ _ _ := ⟨hD.col, hD.row.keep rfl⟩
            replace FD := FD.drew
            have M := fun W => may_any xt xb ⟨yn, yt, yb⟩ W
            unfold clV clC at M
            dsimp only at M
            replace M := Lib.hid M
            have t1 : V.drew.cell? ⟨g, 1, none⟩ = some (.int .i64 xt) := hD.col.cell 1
            have t2 : V.drew.cell? ⟨g, 2, none⟩ = some (.bool xb) := hD.col.cell 2
            obtain ⟨t3, t4, t5⟩ := hD.row.lit
            dsimp only at t3 t4 t5
            replace hD := Lib.hid hD
            replace FD := Lib.hid FD
            go_region_held3 (fun W => W.cell? ⟨g, 1, none⟩ = some (.int .i64 xt) ∧ W.cell? ⟨g, 2, none⟩ = some (.bool xb) ∧ W.cell? (a2.add (k * 3)) = some (.bool yn) ∧ W.cell? { block := (a2.add (k * 3)).block, off := (a2.add (k * 3)).off + 1 } = some (.int .i64 yt) ∧ W.cell? { block := (a2.add (k * 3)).block, off := (a2.add (k * 3)).off + 2 } = some (.string ⟨yb.toArray⟩)) (first | exact ⟨t1, t2, t3, t4, t5⟩ | exact ⟨u1, u2, u3, u4, u5⟩ | fail) (first | (go_at_call 93; refine (M.out _).mono ?_; rintro e w4 ⟨rfl, f4⟩; have F4 := Lib.hid (FD.out.trans f4); have h4 := hD.out.non f4; have u1 : w4.cell? ⟨g, 1, none⟩ = some (.int .i64 xt) := h4.col.cell 1; have u2 : w4.cell? ⟨g, 2, none⟩ = some (.bool xb) := h4.col.cell 2; obtain ⟨u3, u4, u5⟩ := h4.row.lit))
            clear u1 u2 u3 u4 u5 h4 f4 t1 t2 t3 t4 t5 hD FD M
            cases hM : mayC xt xb ⟨yn, yt, yb⟩
            · have HE := Lib.hid (HX.out hM)
              clear HX HY hM
              go_wp2
              go_ret
              exact ⟨ret_boolE HE.out.symm, F4.out⟩
            · have HE := Lib.hid (HY.out hM)
              clear HX HY hM
              go_wp2
              go_roundw
              case rel => exact ⟨k + 1, by omega, by go_num, HE, F4.out⟩
              case measure => simp [intOf]; omega
      · have HE := Lib.hid (row_yes HL.out (fun j h h2 => HT.out j h h2 (by omega)))
        clear HT
        go_wp2
        go_ret
        exact ⟨ret_boolE HE.out.symm, hfr⟩
  · have hb : ((row.length : Int) != l.length) = true := by rw [bne_iff_ne]; omega
    have HE := Lib.hid (row_len hlen)
    clear hlen
    go_enter Tryz.func51, Tryz.ntmps51
    go_wp2
    go_ret
    exact ⟨ret_boolE HE.out.symm, Fr.refl _ _⟩

end Go.Proofs.YtheefloegbkflaaGreatDoor


namespace Go.Proofs.YtheefloegbkflaaGreatDoor
set_option linter.unusedVariables false
set_option linter.unusedSimpArgs false
set_option maxRecDepth 100000
open Go.RowKit

theorem isletter_any (r : Int) (w : World) : Calls Tryz.prog 171 #[.int .i32 r] w fun e w' => e = .returned (.bool (ltrI r)) ∧ w = w' := by
  by_cases h1 : 97 ≤ r
  · by_cases h2 : r ≤ 122
    · have H := Lib.hid (show ltrI r = true by simp [ltrI, h1, h2])
      go_enter Tryz.func171, Tryz.ntmps171
      go_wp2
      go_ret
      exact ⟨ret_boolE H.out.symm, rfl⟩
    · have H := Lib.hid (show ltrI r = false by simp [ltrI, h1, h2])
      go_enter Tryz.func171, Tryz.ntmps171
      go_wp2
      go_ret
      exact ⟨ret_boolE H.out.symm, rfl⟩
  · have H := Lib.hid (show ltrI r = false by simp [ltrI, h1])
    go_enter Tryz.func171, Tryz.ntmps171
    go_wp2
    go_ret
    exact ⟨ret_boolE H.out.symm, rfl⟩
theorem isdigit_any (r : Int) (w : World) : Calls Tryz.prog 172 #[.int .i32 r] w fun e w' => e = .returned (.bool (dgtI r)) ∧ w = w' := by
  by_cases h1 : 48 ≤ r
  · by_cases h2 : r ≤ 57
    · have H := Lib.hid (show dgtI r = true by simp [dgtI, h1, h2])
      go_enter Tryz.func172, Tryz.ntmps172
      go_wp2
      go_ret
      exact ⟨ret_boolE H.out.symm, rfl⟩
    · have H := Lib.hid (show dgtI r = false by simp [dgtI, h1, h2])
      go_enter Tryz.func172, Tryz.ntmps172
      go_wp2
      go_ret
      exact ⟨ret_boolE H.out.symm, rfl⟩
  · have H := Lib.hid (show dgtI r = false by simp [dgtI, h1])
    go_enter Tryz.func172, Tryz.ntmps172
    go_wp2
    go_ret
    exact ⟨ret_boolE H.out.symm, rfl⟩

set_option maxHeartbeats 4000000 in
theorem isword_any (l : List UInt8) (w : World) : Calls Tryz.prog 170 #[.string ⟨l.toArray⟩] w fun e w' => e = .returned (.bool (decide (l ∈ wordsL))) ∧ w = w' := by
  go_enter Tryz.func170, Tryz.ntmps170
  go_wp2
  all_goals
    go_ret
    exact ⟨ret_boolE (by simp_all [wordsL]), rfl⟩

end Go.Proofs.YtheefloegbkflaaGreatDoor


namespace Go.Proofs.YtheefloegbkflaaGreatDoor
set_option linter.unusedVariables false
set_option linter.unusedSimpArgs false
set_option maxRecDepth 100000
open Go.RowKit

theorem slenN (l : List UInt8) : ByteArray.size ⟨l.toArray⟩ = l.length := by simp [ByteArray.size]
theorem nmOk_more {l : List UInt8} {k : Nat} (h : ∀ j (hj : j < l.length), j < k → okI j (l[j]).toNat = true) (hk : k < l.length) (hc : okI k (l[k]).toNat = true) : ∀ j (hj : j < l.length), j < k + 1 → okI j (l[j]).toNat = true := by
  intro j hj hlt
  by_cases e : j = k
  · subst e; exact hc
  · exact h j hj (by omega)

set_option maxHeartbeats 2000000 in
theorem sname_any (l : List UInt8) (w : World) (hl : l.length ≤ 1000000000) : Calls Tryz.prog 129 #[.string ⟨l.toArray⟩] w fun e w' => e = .returned (.bool (nameB l)) ∧ Fr Non w w' := by
  have hs := slenN l
  by_cases h0 : l = []
  · subst h0
    go_enter Tryz.func129, Tryz.ntmps129
    go_wp2
    go_ret
    exact ⟨rfl, Fr.refl _ _⟩
  · have h0b : (l == []) = false := by rw [beq_eq_false_iff_ne]; exact h0
    have HL : Hid (1 ≤ l.length) := Lib.hid (Nat.pos_of_ne_zero (fun e => h0 (List.eq_nil_of_length_eq_zero e)))
    clear h0
    by_cases h12 : 12 < l.length
    · have H := Lib.hid (name_long h12)
      go_enter Tryz.func129, Tryz.ntmps129
      go_wp2
      go_ret
      exact ⟨ret_boolE H.out.symm, Fr.refl _ _⟩
    · have HI := fun W => isword_any l W
      cases hw : decide (l ∈ wordsL)
      · simp only [hw] at HI
        have HW := Lib.hid (of_decide_eq_false hw)
        clear hw
        replace HI := Lib.hid HI
        go_enter Tryz.func129, Tryz.ntmps129
        go_wp2_with fail
        refine (HI.out _).mono ?_
        rintro e w1 ⟨rfl, rfl⟩
        clear HI
        go_wp2
        go_loopw [3, 4] (fun _ _ wr => ∃ k : Nat, k ≤ l.length ∧ wr = w.iter ⟨l.toArray⟩ k ∧ Hid (∀ j (hj : j < l.length), j < k → okI j (l[j]).toNat = true)) (fun _ _ wr => l.length - wr.iterPos w.heap.size)
        case atStart => exact ⟨0, by omega, rfl, Lib.hid (fun _ _ h => by omega)⟩
        case round =>
          obtain ⟨k, hk, rfl, hok⟩ := hrel
          by_cases hlt : k < l.length
          · obtain ⟨c, hc⟩ : ∃ c, l[k] = c := ⟨_, rfl⟩
            have hm := World.iterPos_iter w ⟨l.toArray⟩ k
            have HC := Lib.hid hc
            have hbk : (⟨l.toArray⟩ : ByteArray)[k]'(by rw [hs]; exact hlt) = c := hc
            clear hc
            have HM := Lib.hid (fun (h : okI k c.toNat = true) => nmOk_more hok.out hlt (by rw [HC.out]; exact h))
            have HX := Lib.hid (fun (h : okI k c.toNat = false) => name_bad hlt (by rw [HC.out]; exact h))
            clear HC hok
            by_cases hhi : c.toNat < 128
            · have hn := fun ty => run_next_ascii (P := Tryz.prog) w ⟨l.toArray⟩ k ty (by rw [hs]; exact hlt) (by rw [hbk]; exact hhi)
              rw [hbk] at hn
              clear hbk hhi
              have hm1 := World.iterPos_iter w ⟨l.toArray⟩ (k + 1)
              have FR1 := Lib.hid ((Fr.refl Non w).alloc (.stringIter ⟨l.toArray⟩ (k + 1)))
              replace hm1 := Lib.hid hm1
              change Hid (Fr Non w (w.iter ⟨l.toArray⟩ (k + 1))) at FR1
              have HM1 := hm1
              clear hm1
              have HL1 := fun W => isletter_any c.toNat W
              have HD1 := fun W => isdigit_any c.toNat W
              cases hL : ltrI c.toNat
              · simp only [hL] at HL1
                replace HL1 := Lib.hid HL1
                by_cases hk0 : k = 0
                · subst hk0
                  replace HX := Lib.hid (HX.out (by simp [okI, hL]))
                  clear HD1 HM hL
                  go_wp2_with fail
                  refine (HL1.out _).mono ?_
                  rintro e w1 ⟨rfl, rfl⟩
                  clear HL1
                  go_wp2
                  go_ret
                  exact ⟨ret_boolE HX.out.symm, FR1.out⟩
                · have hkb : ((k : Int) == 0) = false := by rw [beq_eq_false_iff_ne]; omega
                  have HK0 := Lib.hid hk0
                  clear hk0
                  cases hD : dgtI c.toNat
                  · simp only [hD] at HD1
                    replace HD1 := Lib.hid HD1
                    by_cases h95 : (c.toNat : Int) = 95
                    · replace HM := Lib.hid (HM.out (by simp [okI, hL, hD, h95]; exact .inr HK0.out))
                      have h95b : ((c.toNat : Int) == 95) = true := by rw [beq_iff_eq]; exact h95
                      clear HX hL hD h95
                      go_wp2_with fail
                      refine (HL1.out _).mono ?_
                      rintro e w1 ⟨rfl, rfl⟩
                      clear HL1
                      go_wp2_with fail
                      refine (HD1.out _).mono ?_
                      rintro e w1 ⟨rfl, rfl⟩
                      clear HD1
                      go_wp2
                      go_roundw
                      case rel => exact ⟨k + 1, by omega, rfl, HM⟩
                      case measure => rw [hm, HM1.out]; omega
                    · replace HX := Lib.hid (HX.out (by simp [okI, hL, hD, h95]))
                      have h95b : ((c.toNat : Int) == 95) = false := by rw [beq_eq_false_iff_ne]; exact h95
                      clear HM hL hD h95
                      go_wp2_with fail
                      refine (HL1.out _).mono ?_
                      rintro e w1 ⟨rfl, rfl⟩
                      clear HL1
                      go_wp2_with fail
                      refine (HD1.out _).mono ?_
                      rintro e w1 ⟨rfl, rfl⟩
                      clear HD1
                      go_wp2
                      go_ret
                      exact ⟨ret_boolE HX.out.symm, FR1.out⟩
                  · simp only [hD] at HD1
                    replace HD1 := Lib.hid HD1
                    replace HM := Lib.hid (HM.out (by simp [okI, hL, hD]; exact HK0.out))
                    clear HX hL hD
                    go_wp2_with fail
                    refine (HL1.out _).mono ?_
                    rintro e w1 ⟨rfl, rfl⟩
                    clear HL1
                    go_wp2_with fail
                    refine (HD1.out _).mono ?_
                    rintro e w1 ⟨rfl, rfl⟩
                    clear HD1
                    go_wp2
                    go_roundw
                    case rel => exact ⟨k + 1, by omega, rfl, HM⟩
                    case measure => rw [hm, HM1.out]; omega
              · simp only [hL] at HL1
                replace HL1 := Lib.hid HL1
                replace HM := Lib.hid (HM.out (by simp [okI, hL]))
                clear HX hL HD1
                go_wp2_with fail
                refine (HL1.out _).mono ?_
                rintro e w1 ⟨rfl, rfl⟩
                clear HL1
                go_wp2
                go_roundw
                case rel => exact ⟨k + 1, by omega, rfl, HM⟩
                case measure => rw [hm, HM1.out]; omega
            · have hn := fun ty => run_next_any (P := Tryz.prog) w ⟨l.toArray⟩ k ty (by rw [hs]; exact hlt)
              have hr := (decode_high ⟨l.toArray⟩ k (by rw [hs]; exact hlt) (by rw [hbk]; omega)).1
              replace HX := Lib.hid (HX.out (okI_high (by omega)))
              clear HM hbk
              generalize (Utf8.decode ⟨l.toArray⟩ k).1 = r at *
              generalize k + (Utf8.decode ⟨l.toArray⟩ k).2 = p at *
              have FR1 := Lib.hid ((Fr.refl Non w).alloc (.stringIter ⟨l.toArray⟩ p))
              change Hid (Fr Non w (w.iter ⟨l.toArray⟩ p)) at FR1
              have HL1 := fun W => isletter_any r W
              have HD1 := fun W => isdigit_any r W
              have e1 : ltrI r = false := by simp [ltrI]; omega
              have e2 : dgtI r = false := by simp [dgtI]; omega
              have h95b : ((r : Int) == 95) = false := by rw [beq_eq_false_iff_ne]; omega
              simp only [e1] at HL1
              simp only [e2] at HD1
              replace HL1 := Lib.hid HL1
              replace HD1 := Lib.hid HD1
              clear e1 e2 hr hhi
              by_cases hk0 : k = 0
              · subst hk0
                clear HD1
                go_wp2_with fail
                refine (HL1.out _).mono ?_
                rintro e w1 ⟨rfl, rfl⟩
                clear HL1
                go_wp2
                go_ret
                exact ⟨ret_boolE HX.out.symm, FR1.out⟩
              · have hkb : ((k : Int) == 0) = false := by rw [beq_eq_false_iff_ne]; omega
                clear hk0
                go_wp2_with fail
                refine (HL1.out _).mono ?_
                rintro e w1 ⟨rfl, rfl⟩
                clear HL1
                go_wp2_with fail
                refine (HD1.out _).mono ?_
                rintro e w1 ⟨rfl, rfl⟩
                clear HD1
                go_wp2
                go_ret
                exact ⟨ret_boolE HX.out.symm, FR1.out⟩
          · have hn := fun ty => run_next_end (P := Tryz.prog) w ⟨l.toArray⟩ k ty (by rw [hs]; exact hlt)
            have H := Lib.hid (name_yes HL.out (by omega) HW.out (fun j hj => hok.out j hj (by omega)))
            clear hok
            go_wp2
            go_ret
            exact ⟨ret_boolE H.out.symm, (Fr.refl _ _).alloc _⟩
      · simp only [hw] at HI
        have H := Lib.hid (name_word (of_decide_eq_true hw))
        clear hw
        replace HI := Lib.hid HI
        go_enter Tryz.func129, Tryz.ntmps129
        go_wp2_with fail
        refine (HI.out _).mono ?_
        rintro e w1 ⟨rfl, rfl⟩
        go_wp2
        go_ret
        exact ⟨ret_boolE H.out.symm, Fr.refl _ _⟩
end Go.Proofs.YtheefloegbkflaaGreatDoor


namespace Go.Proofs.YtheefloegbkflaaGreatDoor
set_option linter.unusedVariables false
set_option linter.unusedSimpArgs false
set_option maxRecDepth 100000
open Go.RowKit Go.Maps

/-- how many unlike ones -/
def cntU : List Tx → Nat
  | [] => 0
  | y :: r => if y ∈ r then cntU r else cntU r + 1
theorem cntU_le (l : List Tx) : cntU l ≤ l.length := by
  induction l with
  | nil => exact Nat.le_refl _
  | cons y r ih =>
    unfold cntU
    rw [List.length_cons]
    split <;> omega
theorem cntU_all (l : List Tx) : cntU l = l.length ↔ l.Nodup := by
  induction l with
  | nil => simp [cntU]
  | cons y r ih =>
    have := cntU_le r
    unfold cntU
    rw [List.length_cons, List.nodup_cons]
    split
    · rename_i h
      constructor
      · intro e; omega
      · intro e; exact absurd h e.1
    · rename_i h
      rw [← ih]
      constructor
      · intro e; exact ⟨h, by omega⟩
      · intro e; omega

/-- block b is a map of at most n texts: those of ks -/
def MapS (w : World) (b n : Nat) (ks : List Tx) : Prop :=
  ∃ D : DataW Unit, w.ownsMap Tryz.prog 9 (plainElem Tryz.prog 3) b n D ∧ (∀ x, has D (.string x) = decide (x ∈ ks)) ∧ Maps.size D = cntU ks
theorem MapS.lt {w : World} {b n : Nat} {ks : List Tx} (h : MapS w b n ks) : b < w.heap.size := by
  obtain ⟨D, h1, _⟩ := h; exact h1.lt
theorem MapS.fr {S : Nat → Prop} {w w' : World} {b n : Nat} {ks : List Tx} (h : MapS w b n ks) (hf : Fr S w w') (hn : ¬ S b) : MapS w' b n ks := by
  obtain ⟨D, h1, h2, h3⟩ := h
  have hlt := h1.lt
  obtain ⟨es, clock, hb, F, hs, hD⟩ := h1
  exact ⟨D, ⟨es, clock, (hf.block b hlt hn).trans hb, F, hs, hD⟩, h2, h3⟩
theorem MapS.made (w : World) : MapS (w.alloc (.map #[] 0)) w.heap.size 0 [] :=
  ⟨.map [], World.ownsMap_made w _ _ _, fun x => by simp [has], rfl⟩

theorem keyLitS (x : Tx) : WideAt.IsKeyLit (.string x) := trivial
theorem keyStrS {x : Tx} (hx : x.length ≤ maxLen) : keyOf Tryz.prog 9 (.string ⟨x.toArray⟩) = some (.string x) := by
  have := Go.WideMaps.keyOf_string_mk (P := Tryz.prog) Tryz.underlying9 (s := ⟨x.toArray⟩) (by simpa [ByteArray.size] using hx)
  simpa using this
theorem MapS.put {w w' : World} {b n : Nat} {ks : List Tx} {D : DataW Unit} (h1 : w.ownsMap Tryz.prog 9 (plainElem Tryz.prog 3) b n D) (h2 : ∀ x, has D (.string x) = decide (x ∈ ks)) (h3 : Maps.size D = cntU ks)
    (y : Tx) (v : Int) (h : w'.ownsMap Tryz.prog 9 (plainElem Tryz.prog 3) b (n + 1) (D.put (.string y) (.lit (.int .i64 v)))) : MapS w' b (n + 1) (y :: ks) := by
  have hm := h1.isMap
  refine ⟨_, h, fun x => ?_, ?_⟩
  · by_cases he : x = y
    · subst he; rw [has_put_same hm (keyLitS x)]; simp
    · rw [has_put_other (by simpa using he), h2]; simp [he]
  · rw [Maps.size_put (h1.tidy (string_keyed Tryz.underlying9)), h2, h3]
    rw [show cntU (y :: ks) = if y ∈ ks then cntU ks else cntU ks + 1 from rfl]
    by_cases hy : y ∈ ks <;> simp [hy]

/-- 'm[y] = v' -/
theorem wpList_putS (w : World) {ops : Array Oper} {rest : List Oper} {o : Oper} {a : Act} {Q : Exit → Act → World → Prop} (hg : o.guard = none) (m x v : Operand) (hop : o.op = Op.mapUpdate 158 m x v)
    (b n : Nat) (ks : List Tx) (hm : a.eval m = .map (some b)) (hown : MapS w b n ks) (hn : n ≤ 1000000000) (y : Tx) (z : Int) (hx : a.eval x = .string ⟨y.toArray⟩) (hv : a.eval v = .int .i64 z)
    (hy : y.length ≤ 9223372036854775807) (hz1 : -9223372036854775808 ≤ z) (hz2 : z ≤ 9223372036854775807)
    (hK : ∀ w', MapS w' b (n + 1) (y :: ks) → Fr (One b) w w' → wpList Tryz.prog ops Q rest (a.put o.dst undef) w') : wpList Tryz.prog ops Q (o :: rest) a w := by
  obtain ⟨D, h1, h2, h3⟩ := hown
  refine wpList_mapUpdate_own w hg m x v 158 hop 9 3 (string_keyed Tryz.underlying9) Tryz.underlying158 _ b n D hm h1 (by unfold maxLen; omega) _ _ (.string y) hx hv (keyStrS (by simpa [maxLen] using hy)) (.lit (.int .i64 z)) [] (plainElem_int Tryz.underlying3 (WalkArith.wf_i64 ⟨hz1, hz2⟩)) ?_
  intro w' hw' hg'
  exact hK w' (MapS.put h1 h2 h3 y z hw') ((Fr.of_grown hg').mono fun k _ e => by simpa [One, eq_comm] using e)
/-- 'len(m)' -/
theorem MapS.len {w : World} {b n : Nat} {ks : List Tx} (h : MapS w b n ks) (ty : TypeId) : (Builtin.len_ #[158] ty #[.map (some b)]).run Tryz.prog w = .ok (.int .i64 (cntU ks)) w := by
  obtain ⟨D, h1, h2, h3⟩ := h
  rw [← h3]
  exact h1.len Tryz.underlying158 ty
end Go.Proofs.YtheefloegbkflaaGreatDoor


namespace Go.Proofs.YtheefloegbkflaaGreatDoor
set_option linter.unusedVariables false
set_option linter.unusedSimpArgs false
set_option maxRecDepth 100000
open Go.RowKit

theorem mayC_nullT (ty : Int) : mayC ty true ⟨true, 0, []⟩ = isTy ty := by rw [mayC_null]; simp [ceq]
theorem ktype_any (ty : Int) (w : World) : Calls Tryz.prog 130 #[.int .i64 ty] w fun e w' => e = .returned (.bool (isTy ty)) ∧ Fr Non w w' := by
  have M := fun W => may_any ty true ⟨true, 0, []⟩ W
  rw [mayC_nullT] at M
  unfold clV clC at M
  dsimp only at M
  go_enter Tryz.func130, Tryz.ntmps130
  go_wp2_with fail
  refine (M _).mono ?_
  rintro e w1 ⟨rfl, f1⟩
  go_wp2
  go_ret
  exact ⟨rfl, f1⟩

theorem maynot_any (c : Co) (w : World) (hc : c.name.length ≤ 1000000000) : Calls Tryz.prog 73 #[coV c] w fun e w' => e = .returned (.bool (badC c)) ∧ Fr Non w w' := by
  obtain ⟨n, ty, nl⟩ := c
  have M := fun W => sname_any n W hc
  have T := fun W => ktype_any ty W
  have b0 := co_new w ⟨n, ty, nl⟩
  have g0 : _ = _ := b0.cell 0
  simp at g0
  unfold badC coV coC
  dsimp only
  cases hn : nameB n
  · simp only [hn] at M
    replace M := Lib.hid M
    clear T
    go_enter Tryz.func73, Tryz.ntmps73
    go_wp2_with fail
    refine (M.out _).mono ?_
    rintro e w1 ⟨rfl, f1⟩
    go_wp2
    go_ret
    exact ⟨rfl, ((Fr.refl _ _).alloc _).trans f1⟩
  · simp only [hn] at M
    replace M := Lib.hid M
    replace T := Lib.hid T
    replace b0 : Hid (CoB _ _ _) := Lib.hid b0
    go_enter Tryz.func73, Tryz.ntmps73
    go_wp2_with fail
    refine (M.out _).mono ?_
    rintro e w1 ⟨rfl, f1⟩
    have g1 := (b0.out.fr f1 (fun e => e)).cell 1
    simp at g1
    go_wp2_with fail
    refine (T.out _).mono ?_
    rintro e w2 ⟨rfl, f2⟩
    go_wp2
    go_ret
    exact ⟨ret_boolE (by simp), (((Fr.refl _ _).alloc _).trans f1).trans f2⟩

theorem idx_any (v : Value) (l : List Co) (w : World) (hv : Ks w v l) (hl : l.length ≤ 1000000000) (hb : ∀ c ∈ l, c.name.length ≤ 1000000000) :
    Calls Tryz.prog 128 #[v, .func (.func 73) #[] #[]] w fun e w' => ∃ z : Int, e = .returned (.int .i64 z) ∧ decide (0 ≤ z) = l.any badC ∧ Fr Non w w' := by
  obtain ⟨A, c, rfl, hlc, hn, hcell⟩ := hv
  have HC := Lib.hid hcell
  have HN := Lib.hid hn
  have HB := Lib.hid hb
  clear hcell hn hb
  go_enter Tryz.func128, Tryz.ntmps128
  go_wp2
  go_loopw [8] (fun i wr => ∃ (k : Nat), k ≤ l.length ∧ i = .int .i64 k ∧ Hid ((l.take k).any badC = false) ∧ Fr Non w wr) (fun i _ => l.length - (intOf i).toNat)
  case atStart => exact ⟨0, Nat.zero_le _, rfl, Lib.hid rfl, Fr.refl _ _⟩
  case round =>
    obtain ⟨k, hk, rfl, hne, hfr⟩ := hrel
    by_cases hlt : k < l.length
    · cases A with
      | none => have := HN.out rfl; omega
      | some a =>
        obtain ⟨hc0, hc1, hc2⟩ := co_lit ((HC.out a rfl k hlt).non hfr)
        have HY := Lib.hid (fun h => any_more hlt hne.out h)
        have HX : Hid (badC l[k] = true → l.any badC = true) := Lib.hid (fun h => List.any_eq_true.2 ⟨_, List.getElem_mem hlt, h⟩)
        have M := fun W => maynot_any l[k] W (HB.out _ (List.getElem_mem hlt))
        clear hne
        generalize l[k] = x at *
        obtain ⟨xn, xt, xb⟩ := x
        unfold coV coC at M
        dsimp only at hc0 hc1 hc2 HY HX M
        have HF := Lib.hid hfr
        clear hfr
        cases hx : badC ⟨xn, xt, xb⟩
        · have HE := Lib.hid (HY.out hx)
          simp only [hx] at M
          replace M := Lib.hid M
          clear HX HY hx
          go_wp2_with fail
          refine (M.out _).mono ?_
          rintro e w2 ⟨rfl, f2⟩
          go_wp2
          go_roundw
          case rel => exact ⟨k + 1, by omega, by go_num, HE, HF.out.trans f2⟩
          case measure => simp [intOf]; omega
        · have HE := Lib.hid (HX.out hx)
          simp only [hx] at M
          replace M := Lib.hid M
          clear HX HY hx
          go_wp2_with fail
          refine (M.out _).mono ?_
          rintro e w2 ⟨rfl, f2⟩
          go_wp2
          go_ret
          exact ⟨_, rfl, by rw [HE.out]; exact decide_eq_true (by omega), HF.out.trans f2⟩
    · have HE : Hid (l.any badC = false) := Lib.hid (by have := hne.out; rwa [List.take_of_length_le (by omega)] at this)
      clear hne
      go_wp2
      go_ret
      exact ⟨_, rfl, by rw [HE.out]; rfl, hfr⟩
theorem contains_any (v : Value) (l : List Co) (w : World) (hv : Ks w v l) (hl : l.length ≤ 1000000000) (hb : ∀ c ∈ l, c.name.length ≤ 1000000000) :
    Calls Tryz.prog 72 #[v, .func (.func 73) #[] #[]] w fun e w' => e = .returned (.bool (l.any badC)) ∧ Fr Non w w' := by
  have h0 := Lib.hid (idx_any v l w hv hl hb)
  clear hv hb
  go_enter Tryz.func72, Tryz.ntmps72
  go_wp2_with fail
  refine h0.out.mono ?_
  rintro e w1 ⟨z, rfl, hz, f1⟩
  go_wp2
  go_ret
  exact ⟨rfl, f1⟩

/-- the names up to k, the last one first -/
def nmsR (l : List Co) (k : Nat) : List Tx := (namesC (l.take k)).reverse
theorem nmsR_more {l : List Co} {k : Nat} (h : k < l.length) : nmsR l (k + 1) = l[k].name :: nmsR l k := by
  unfold nmsR namesC
  rw [List.take_succ_eq_append_getElem h, List.map_append, List.reverse_append]; rfl
theorem nmsR_all {l : List Co} {k : Nat} (h : k = l.length) : decide ((cntU (nmsR l k) : Int) = l.length) = decide ((namesC l).Nodup) := by
  subst h
  unfold nmsR
  rw [List.take_length]
  have h1 := cntU_all (namesC l).reverse
  rw [List.length_reverse, (List.reverse_perm (namesC l)).nodup_iff] at h1
  have h2 : (namesC l).length = l.length := by unfold namesC; rw [List.length_map]
  rw [h2] at h1
  rw [decide_eq_decide, ← h1]
  omega

set_option maxHeartbeats 1000000 in
theorem unlike_any (v : Value) (l : List Co) (w : World) (hv : Ks w v l) (hl : l.length ≤ 1000000000) (hb : ∀ c ∈ l, c.name.length ≤ 1000000000) :
    Calls Tryz.prog 74 #[v] w fun e w' => e = .returned (.bool (decide ((namesC l).Nodup))) ∧ Fr Non w w' := by
  obtain ⟨A, c, rfl, hlc, hn, hcell⟩ := hv
  have HC := Lib.hid hcell
  have HN := Lib.hid hn
  have HB := Lib.hid hb
  clear hcell hn hb
  have hmm := @run_makeMap Tryz.prog
  go_enter Tryz.func74, Tryz.ntmps74
  go_wp2
  have hm0 := MapS.made w
  have hf0 : Fr Non w (w.alloc (.map #[] 0)) := (Fr.refl _ _).alloc _
  go_loopw [9] (fun i wr => ∃ (k : Nat), k ≤ l.length ∧ i = .int .i64 k ∧ MapS wr w.heap.size k (nmsR l k) ∧ Fr Non w wr) (fun i _ => l.length - (intOf i).toNat)
  case atStart => exact ⟨0, Nat.zero_le _, rfl, hm0, hf0⟩
  case round =>
    clear hm0 hf0
    obtain ⟨k, hk, rfl, hm, hfr⟩ := hrel
    by_cases hlt : k < l.length
    · cases A with
      | none => have := HN.out rfl; omega
      | some a =>
        obtain ⟨hc0, hc1, hc2⟩ := co_lit ((HC.out a rfl k hlt).non hfr)
        have HM := Lib.hid (nmsR_more hlt)
        have hxl := HB.out _ (List.getElem_mem hlt)
        generalize l[k] = x at *
        obtain ⟨xn, xt, xb⟩ := x
        dsimp only at hc0 hc1 hc2 HM hxl
        have f1 := (Fr.refl Non wr).alloc (.cells #[.string ⟨xn.toArray⟩, .int .i64 xt, .bool xb] 69)
        have hm1 := Lib.hid (hm.fr f1 (fun e => e))
        have HF := Lib.hid (hfr.trans f1)
        have g0 := (co_new wr ⟨xn, xt, xb⟩).cell 0
        simp at g0
        clear hm hfr f1
        go_wp2_with (at_mapUpdate; refine wpList_putS _ rfl _ _ _ rfl w.heap.size k (nmsR l k) rfl hm1.out (by omega) xn (k : Int) rfl rfl (by omega) (by omega) (by omega) ?_; intro w1 hm2 hf2)
        go_roundw
        case rel => exact ⟨k + 1, by omega, by go_num, by rw [HM.out]; exact hm2, HF.out.fresh hf2 (fun q hq => by have : q = w.heap.size := hq; omega)⟩
        case measure => simp [intOf]; omega
    · have HE := Lib.hid (nmsR_all (l := l) (k := k) (by omega))
      have hlen := fun ty => hm.len ty
      clear hm
      go_wp2
      go_ret
      exact ⟨ret_boolE HE.out, hfr⟩

set_option maxHeartbeats 1000000 in
theorem scheck_any (v : Value) (l : List Co) (w : World) (hv : Ks w v l) (hl : l.length ≤ 1000000000) (hb : ∀ c ∈ l, c.name.length ≤ 1000000000) :
    Calls Tryz.prog 39 #[v] w fun e w' => e = .returned (.int .i64 (chkC l)) ∧ Fr Non w w' := by
  obtain ⟨A, c, rfl⟩ := hv.shape
  have HV := Lib.hid hv
  have C1 := Lib.hid (contains_any _ l w hv hl hb)
  have U1 := fun W h => unlike_any (.slice A l.length c) l W h hl hb
  replace U1 := Lib.hid U1
  clear hv hb
  by_cases h0 : l.length = 0
  · have H := Lib.hid (chk_none h0)
    go_enter Tryz.func39, Tryz.ntmps39
    go_wp2
    go_ret
    exact ⟨ret_int H.out.symm, Fr.refl _ _⟩
  · have h0b : ((l.length : Int) == 0) = false := by rw [beq_eq_false_iff_ne]; omega
    have H0 := Lib.hid h0
    clear h0
    cases ha : l.any badC
    · have HA := Lib.hid ha
      rw [ha] at C1
      clear ha
      by_cases hd : (namesC l).Nodup
      · have HD := Lib.hid hd
        rw [decide_eq_true hd] at U1
        clear hd
        by_cases h6 : 6 < l.length
        · have H := Lib.hid (chk_many H0.out HA.out HD.out h6)
          go_enter Tryz.func39, Tryz.ntmps39
          go_wp2_with fail
          refine C1.out.mono ?_
          rintro e w1 ⟨rfl, f1⟩
          go_wp2_with fail
          refine (U1.out _ (HV.out.non f1)).mono ?_
          rintro e w2 ⟨rfl, f2⟩
          go_wp2
          go_ret
          exact ⟨ret_int H.out.symm, f1.trans f2⟩
        · have H := Lib.hid (chk_ok H0.out HA.out HD.out h6)
          go_enter Tryz.func39, Tryz.ntmps39
          go_wp2_with fail
          refine C1.out.mono ?_
          rintro e w1 ⟨rfl, f1⟩
          go_wp2_with fail
          refine (U1.out _ (HV.out.non f1)).mono ?_
          rintro e w2 ⟨rfl, f2⟩
          go_wp2
          go_ret
          exact ⟨ret_int H.out.symm, f1.trans f2⟩
      · have H := Lib.hid (chk_dup hd)
        rw [decide_eq_false hd] at U1
        clear hd
        go_enter Tryz.func39, Tryz.ntmps39
        go_wp2_with fail
        refine C1.out.mono ?_
        rintro e w1 ⟨rfl, f1⟩
        go_wp2_with fail
        refine (U1.out _ (HV.out.non f1)).mono ?_
        rintro e w2 ⟨rfl, f2⟩
        go_wp2
        go_ret
        exact ⟨ret_int H.out.symm, f1.trans f2⟩
    · have H := Lib.hid (chk_any ha)
      rw [ha] at C1
      clear ha
      go_enter Tryz.func39, Tryz.ntmps39
      go_wp2_with fail
      refine C1.out.mono ?_
      rintro e w1 ⟨rfl, f1⟩
      go_wp2
      go_ret
      exact ⟨ret_int H.out.symm, f1⟩
end Go.Proofs.YtheefloegbkflaaGreatDoor


namespace Go.Proofs.YtheefloegbkflaaGreatDoor
set_option linter.unusedVariables false
set_option linter.unusedSimpArgs false
set_option maxRecDepth 100000
open Go.RowKit

set_option maxHeartbeats 1000000 in
theorem ksmall_any (v : Value) (l : List Co) (w : World) (hv : Ks w v l) :
    Calls Tryz.prog 14 #[v] w fun e w' => ∃ b, e = .returned (.bool b) ∧ (b = true → l.length ≤ 20 ∧ ∀ c ∈ l, c.name.length ≤ 100) ∧ Fr Non w w' := by
  obtain ⟨A, c, rfl, hlc, hn, hcell⟩ := hv
  have HC := Lib.hid hcell
  have HN := Lib.hid hn
  clear hcell hn
  go_enter Tryz.func14, Tryz.ntmps14
  go_wp2
  go_loopw [3] (fun i wr => ∃ (k : Nat), k ≤ l.length ∧ k ≤ 30 ∧ i = .int .i64 k ∧ Hid (∀ j (h : j < l.length), j < k → l[j].name.length ≤ 100) ∧ Fr Non w wr) (fun i _ => 30 - (intOf i).toNat)
  case atStart => exact ⟨0, Nat.zero_le _, Nat.zero_le _, rfl, Lib.hid (fun _ _ h => by omega), Fr.refl _ _⟩
  case round =>
    obtain ⟨k, hk, hk2, rfl, HS, hfr⟩ := hrel
    by_cases hlt : k < l.length
    · by_cases h30 : k < 30
      · cases A with
        | none => have := HN.out rfl; omega
        | some a =>
          obtain ⟨hc0, hc1, hc2⟩ := co_lit ((HC.out a rfl k hlt).non hfr)
          have HY : Hid (l[k].name.length ≤ 100 → ∀ j (h : j < l.length), j < k + 1 → l[j].name.length ≤ 100) := Lib.hid (fun h j hj hjk => by
            by_cases e : j = k
            · subst e; exact h
            · exact HS.out j hj (by omega))
          clear HS
          generalize l[k] = x at *
          obtain ⟨xn, xi, xt⟩ := x
          dsimp only at hc0 hc1 hc2 HY
          have hs := slenN xn
          by_cases hx : 100 < xn.length
          · go_wp2
            go_ret
            exact ⟨false, rfl, (fun h => by cases h), hfr⟩
          · have H := Lib.hid (HY.out (by omega))
            clear HY
            go_wp2
            go_roundw
            case rel => exact ⟨k + 1, by omega, by omega, by go_num, H, hfr⟩
            case measure => simp [intOf]; omega
      · go_wp2
        go_ret
        exact ⟨_, rfl, (fun h => by have := of_decide_eq_true h; omega), hfr⟩
    · have H : Hid (∀ c ∈ l, c.name.length ≤ 100) := Lib.hid (fun c hc => by
        obtain ⟨j, hj, rfl⟩ := List.mem_iff_getElem.1 hc
        exact HS.out j hj (by omega))
      clear HS
      go_wp2
      go_ret
      exact ⟨_, rfl, (fun h => ⟨by have := of_decide_eq_true h; omega, H.out⟩), hfr⟩

theorem chkC_a : chkC [⟨[97], 1, false⟩] = 0 := by decide +kernel

end Go.Proofs.YtheefloegbkflaaGreatDoor


namespace Go.Proofs.YtheefloegbkflaaGreatDoor
set_option linter.unusedVariables false
set_option linter.unusedSimpArgs false
set_option maxRecDepth 100000
open Go.RowKit

theorem colC_at (rs : List (List Cl)) (p k : Nat) (h : k < rs.length) (hp : p < rs[k].length) : (colC rs p)[k]? = some rs[k][p] := by
  unfold colC
  rw [List.getElem?_map, List.getElem?_eq_getElem h]
  simp [hp]
theorem colC_take (rs : List (List Cl)) (p k : Nat) (h : k < rs.length) (hp : p < rs[k].length) : (colC rs p).take (k + 1) = (colC rs p).take k ++ [rs[k][p]] := by
  have hl : k < (colC rs p).length := by rw [colC_length]; exact h
  rw [List.take_succ_eq_append_getElem hl]
  have := colC_at rs p k h hp
  rw [List.getElem?_eq_getElem hl] at this
  rw [Option.some.inj this]

set_option maxHeartbeats 4000000 in
theorem across_any (v : Value) (rs : List (List Cl)) (p : Nat) (w : World) (hv : Rs w v rs) (hl : rs.length ≤ 1000000) (hp : ∀ r ∈ rs, p < r.length) :
    Calls Tryz.prog 27 #[v, .int .i64 p] w fun e w' => ∃ u, e = .returned u ∧ Oc w' w.heap.size u (colC rs p) ∧ Fr Non w w' := by
  obtain ⟨A, c, rfl⟩ := hv.shape
  have HV := Lib.hid hv
  have HP := Lib.hid hp
  clear hv hp
  go_enter Tryz.func27, Tryz.ntmps27
  go_wp2_with (at_make; refine wpList_mkC rfl _ _ rfl _ _ _ _ rs.length rfl rfl rfl rfl (by omega) ?_; intro w2 hown2 hfr2)
  generalize hg : w.heap.size = g at *
  have hgl := Nat.le_of_eq hg
  clear hg
  have HS := Lib.hid hgl
  go_loopw [13] (fun i wr => ∃ (k : Nat) (D : List Cl), k ≤ rs.length ∧ i = .int .i64 k ∧ Hid (D = (colC rs p).take k) ∧ Oc wr g (.slice (some ⟨g, 0, none⟩) rs.length rs.length) (D ++ List.replicate (rs.length - k) noCl) ∧ Fr Non w wr) (fun i _ => rs.length - (intOf i).toNat)
  case atStart => exact ⟨0, [], Nat.zero_le _, rfl, Lib.hid rfl, hown2, hfr2⟩
  case round =>
    clear hown2 hfr2
    obtain ⟨k, D, hk, rfl, HT, hO, hfr⟩ := hrel
    by_cases hlt : k < rs.length
    · have hpk := HP.out rs[k] (List.getElem_mem hlt)
      obtain ⟨a, A', c', rfl, _, hc1, hc2⟩ := (HV.out.non hfr).el k hlt
      have HT2 : Hid (D ++ [rs[k][p]] = (colC rs p).take (k + 1)) := Lib.hid (by rw [colC_take rs p k hlt hpk, HT.out])
      have hD : D.length = k := by rw [HT.out, List.length_take, colC_length]; omega
      have hlen : rs.length = (D ++ List.replicate (rs.length - k) noCl).length := by simp; omega
      have hat : (D ++ List.replicate (rs.length - k) noCl)[k]? = some noCl := by
        have := rep_at D (rs.length - k) noCl (by omega)
        rw [hD] at this; exact this
      have hset : ∀ x : Cl, (D ++ List.replicate (rs.length - k) noCl).set k x = (D ++ [x]) ++ List.replicate (rs.length - (k + 1)) noCl := fun x => by
        have := rep_set D (rs.length - k) noCl x (by omega)
        rw [hD, show rs.length - k - 1 = rs.length - (k + 1) by omega] at this; exact this
      generalize rs[k] = r at *
      have hr0 : 0 < r.length := by omega
      obtain ⟨a', rfl, _, _, hel⟩ := hc2.addr hr0
      obtain ⟨q0, q1, q2⟩ := (hel p hpk).lit
      obtain ⟨e0, e1, e2⟩ := hO.el hlen k _ hat
      have f0 := hO.frozen hlen (k * 3)
      have f1 := hO.frozen hlen (k * 3 + 1)
      have f2 := hO.frozen hlen (k * 3 + 2)
      have hgw : g < wr.heap.size := (hO.lt g rfl).2
      have hO2 := hO.put3 hlen k (by omega) r[p]
      rw [hset] at hO2
      have HO2 := Lib.hid hO2
      generalize r[p] = x at *
      have hfr2 := Lib.hid (hfr.fresh ((((Fr.refl (One g) wr).set1 (k * 3) (.bool x.null)).set1 (k * 3 + 1) (.int .i64 x.num)).set1 (k * 3 + 2) (.string ⟨x.txt.toArray⟩)) (fun q e => by have : q = g := e; have := HS.out; omega))
      obtain ⟨xn, xi, xt⟩ := x
      clear hO2 hO HT hel hset hc2 hlen hat hD hfr
      go_wp2
      go_roundw
      case rel => exact ⟨k + 1, _, by omega, by go_num, HT2, HO2.out, hfr2.out⟩
      case measure => simp [intOf]; omega
    · obtain rfl : k = rs.length := by omega
      have hE : D = colC rs p := by rw [HT.out, List.take_of_length_le (by rw [colC_length]; exact Nat.le_refl _)]
      rw [Nat.sub_self, List.replicate_zero, List.append_nil, hE] at hO
      clear HT
      go_wp2
      go_ret
      exact ⟨_, rfl, hO.mono HS.out, hfr⟩

set_option maxHeartbeats 4000000 in
theorem rcells_any (v : Value) (rs : List (List Cl)) (p : Nat) (w : World) (hv : Rs w v rs) (hl : rs.length ≤ 1000000) (hp : ∀ r ∈ rs, p < r.length) :
    Calls Tryz.prog 22 #[v, .int .i64 p] w fun e w' => ∃ u, e = .returned u ∧ Oc w' w.heap.size u (colC rs p) ∧ Fr Non w w' := by
  obtain ⟨A, c, rfl⟩ := hv.shape
  have HV := Lib.hid hv
  have HP := Lib.hid hp
  clear hv hp
  go_enter Tryz.func22, Tryz.ntmps22
  go_wp2
  generalize hg : w.heap.size = g at *
  have hO0 : Oc (w.alloc (.cells #[] 54)) g (.slice (some ⟨g, 0, none⟩) 0 0) [] := oc_lit0 w g g hg.symm (Nat.le_refl _)
  have hf0 := (Fr.refl Non w).alloc (.cells #[] 54)
  have HS := Lib.hid (Nat.le_of_eq hg)
  have HS2 := Lib.hid (Nat.le_of_eq hg.symm)
  clear hg
  go_loopw [5, 6] (fun x i wr => ∃ (k : Nat), k ≤ rs.length ∧ i = .int .i64 k ∧ Oc wr g x ((colC rs p).take k) ∧ Fr Non w wr) (fun _ i _ => rs.length - (intOf i).toNat)
  case atStart => exact ⟨0, Nat.zero_le _, rfl, hO0, hf0⟩
  case round =>
    clear hO0 hf0
    obtain ⟨k, hk, rfl, hO, hfr⟩ := hrel
    by_cases hlt : k < rs.length
    · have hpk := HP.out rs[k] (List.getElem_mem hlt)
      obtain ⟨a, A', c', rfl, _, hc1, hc2⟩ := (HV.out.non hfr).el k hlt
      have HT2 := Lib.hid (colC_take rs p k hlt hpk)
      have hdl : ((colC rs p).take k).length = k := by rw [List.length_take, colC_length]; omega
      have HDl := Lib.hid hdl
      generalize (colC rs p).take k = D at *
      generalize rs[k] = r at *
      have hr0 : 0 < r.length := by omega
      obtain ⟨a', rfl, _, _, hel⟩ := hc2.addr hr0
      obtain ⟨q0, q1, q2⟩ := (hel p hpk).lit
      generalize r[p] = x at *
      have hsz := hfr.size
      have hgw : g ≤ wr.heap.size := by have := HS2.out; omega
      have HO := Lib.hid hO
      have HF := Lib.hid hfr
      obtain ⟨xn, xi, xt⟩ := x
      clear hO hel hc2 hfr hdl
      go_wp2_with (at_builtin; refine wpList_pushC rfl (.tmp 14) (.tmp 22) rfl g _ D rfl HO.out ⟨xn, xi, xt⟩ _ _ _ rfl rfl rfl _ rfl rfl (by have := HDl.out; omega) hgw ?_; intro v6 w6 hown6 hf6)
      have hfr6 := HF.out.fresh hf6 (fun q hq => by have := (HO.out.lt q hq).1; have := HS.out; omega)
      go_roundw
      case rel => exact ⟨k + 1, by omega, by go_num, by rw [HT2.out]; exact hown6, hfr6⟩
      case measure => simp [intOf]; omega
    · obtain rfl : k = rs.length := by omega
      rw [List.take_of_length_le (by rw [colC_length]; exact Nat.le_refl _)] at hO
      go_wp2
      go_ret
      exact ⟨_, rfl, hO.mono HS.out, hfr⟩

set_option maxHeartbeats 1000000 in
theorem fault_any (v1 v2 : Value) (cols : List Co) (rows : List (List Cl)) (w : World) (h1 : Ks w v1 cols) (h2 : Rs w v2 rows) (hl : cols.length ≤ 1000000000) (hb : ∀ c ∈ cols, c.name.length ≤ 1000000000) (hr : rows.length ≤ 1000000000) :
    Calls Tryz.prog 25 #[v1, v2] w fun e w' => e = .returned (.int .i64 (segE cols rows)) ∧ Fr Non w w' := by
  obtain ⟨A, c, rfl⟩ := h2.shape
  have H1 := Lib.hid h1
  have H2 := Lib.hid h2
  have HCk := Lib.hid (scheck_any v1 cols w h1 hl hb)
  have HE : Hid (segE cols rows = if chkC cols ≠ 0 ∨ rows.length = 0 then 1 else if 200 < rows.length then 4 else if rows.all (rowB cols) = true then 0 else 10) := Lib.hid rfl
  clear h1 h2 hb
  generalize segE cols rows = E at *
  go_enter Tryz.func25, Tryz.ntmps25
  go_wp2_with fail
  refine HCk.out.mono ?_
  rintro e w1 ⟨rfl, f1⟩
  have F1 := Lib.hid f1
  clear f1 HCk
  by_cases hc : chkC cols = 0
  · have hcb : ((chkC cols) != 0) = false := by rw [hc]; rfl
    by_cases h0 : rows.length = 0
    · have hz : ((rows.length : Int) == 0) = true := by rw [h0]; rfl
      have HE1 : Hid (E = 1) := Lib.hid (by rw [HE.out, if_pos (.inr h0)])
      clear HE h0 hc
      go_wp2
      go_ret
      rw [HE1.out]
      exact ⟨rfl, F1.out⟩
    · have hz : ((rows.length : Int) == 0) = false := by rw [beq_eq_false_iff_ne]; omega
      by_cases h200 : 200 < rows.length
      · have hd : decide (200 < (rows.length : Int)) = true := by simp; omega
        have HE1 : Hid (E = 4) := Lib.hid (by rw [HE.out, if_neg (by omega), if_pos h200])
        clear HE h0 hc h200
        go_wp2
        go_ret
        rw [HE1.out]
        exact ⟨rfl, F1.out⟩
      · have hd : decide (200 < (rows.length : Int)) = false := by simp; omega
        have HE1 : Hid (E = if rows.all (rowB cols) = true then 0 else 10) := Lib.hid (by rw [HE.out, if_neg (by omega), if_neg h200])
        clear HE h0 hc h200
        go_wp2
        go_loopw [20] (fun i wr => ∃ k : Nat, k ≤ rows.length ∧ i = .int .i64 k ∧ Hid ((rows.take k).all (rowB cols) = true) ∧ Fr Non w wr) (fun i _ => rows.length - (intOf i).toNat)
        case atStart => exact ⟨0, Nat.zero_le _, rfl, Lib.hid rfl, F1.out⟩
        case round =>
          clear F1
          obtain ⟨k, hk, rfl, HA, hF⟩ := hrel
          by_cases hlt : k < rows.length
          · obtain ⟨a, A', c', rfl, _, hc1, hc2⟩ := (H2.out.non hF).el k hlt
            have HR := Lib.hid (srow_any v1 _ cols rows[k] wr (H1.out.non hF) hc2 hl)
            have HF := Lib.hid hF
            have HM : Hid (rowB cols rows[k] = true → (rows.take (k + 1)).all (rowB cols) = true) := Lib.hid (fun h => by rw [List.take_succ_eq_append_getElem hlt, List.all_append, HA.out]; simp [h])
            have HX : Hid (rowB cols rows[k] = false → rows.all (rowB cols) = false) := Lib.hid (fun h => List.all_eq_false.2 ⟨rows[k], List.getElem_mem hlt, by simp [h]⟩)
            generalize rows[k] = r at *
            clear hc2 hF HA
            cases hb : rowB cols r with
            | true =>
              have HM2 := Lib.hid (HM.out hb)
              rw [hb] at HR
              clear hb HM HX
              go_wp2_with fail
              refine HR.out.mono ?_
              rintro e w2 ⟨rfl, f2⟩
              have HF2 := Lib.hid (HF.out.trans f2)
              clear HR f2 HF
              go_wp2
              go_roundw
              case rel => exact ⟨k + 1, by omega, by go_num, HM2, HF2.out⟩
              case measure => simp [intOf]; omega
            | false =>
              have HE2 : Hid (E = 10) := Lib.hid (by rw [HE1.out, HX.out hb]; rfl)
              rw [hb] at HR
              clear hb HM HX HE1
              go_wp2_with fail
              refine HR.out.mono ?_
              rintro e w2 ⟨rfl, f2⟩
              have HF2 := Lib.hid (HF.out.trans f2)
              clear HR f2 HF
              go_wp2
              go_ret
              rw [HE2.out]
              exact ⟨rfl, HF2.out⟩
          · have HE2 : Hid (E = 0) := Lib.hid (by
              have h := HA.out
              rw [List.take_of_length_le (by omega)] at h
              rw [HE1.out, if_pos h])
            have HF := Lib.hid hF
            clear HE1 HA hF
            go_wp2
            go_ret
            rw [HE2.out]
            exact ⟨rfl, HF.out⟩
  · have hcb : ((chkC cols) != 0) = true := by rw [bne_iff_ne]; exact hc
    have HE1 : Hid (E = 1) := Lib.hid (by rw [HE.out, if_pos (.inl hc)])
    clear HE hc
    go_wp2
    go_ret
    rw [HE1.out]
    exact ⟨rfl, F1.out⟩
end Go.Proofs.YtheefloegbkflaaGreatDoor


namespace Go.Proofs.YtheefloegbkflaaGreatDoor
set_option linter.unusedVariables false
set_option linter.unusedSimpArgs false
set_option maxRecDepth 100000
open Go.RowKit

theorem no_other {α : Type} {f : α → List Value} {k : Nat} {E t : TypeId} {w : World} {B g : Nat} {v : Value} {l : List α} {cs : Array Value} (h : No f k E w B v l) (hb : Blk w g t cs) (hne : E ≠ t) : ∀ b, v.ownBlock = some b → b ≠ g := by
  rintro b hk rfl
  obtain ⟨cur, h1⟩ := h.kind b hk
  unfold Blk at hb
  rw [hb] at h1
  simp at h1
  exact hne h1.2.symm
end Go.Proofs.YtheefloegbkflaaGreatDoor


namespace Go.Proofs.YtheefloegbkflaaGreatDoor
set_option linter.unusedVariables false
set_option linter.unusedSimpArgs false
set_option maxRecDepth 100000
open Go.RowKit

theorem zeq_dec (a b : Zn) : zeq a b = (decide (a.rows = b.rows) && (decide (a.nulls = b.nulls) && (decide (a.low.null = b.low.null) && (decide (a.low.num = b.low.num) && (decide (a.low.txt = b.low.txt) && (decide (a.high.null = b.high.null) && (decide (a.high.num = b.high.num) && decide (a.high.txt = b.high.txt)))))))) := by
  rw [zeq_parts, Bool.eq_iff_iff]
  simp
theorem ite_andn (W : World) (p : Prop) [Decidable p] (x : Bool) : (if p then Result.ok (Value.bool x) W else Result.ok (Value.bool true) W) = Result.ok (Value.bool (!(decide p && !x))) W := by
  by_cases hp : p <;> simp [hp]
set_option maxHeartbeats 1000000 in
theorem run_neq_zn (W : World) (a b : Zn) : (binOp .neq 56 (.agg #[.int .i64 a.rows, .int .i64 a.nulls, .bool a.low.null, .int .i64 a.low.num, .string ⟨a.low.txt.toArray⟩, .bool a.high.null, .int .i64 a.high.num, .string ⟨a.high.txt.toArray⟩]) (.agg #[.int .i64 b.rows, .int .i64 b.nulls, .bool b.low.null, .int .i64 b.low.num, .string ⟨b.low.txt.toArray⟩, .bool b.high.null, .int .i64 b.high.num, .string ⟨b.high.txt.toArray⟩])).run Tryz.prog W = .ok (.bool (!zeq a b)) W := by
  rw [zeq_dec]
  obtain ⟨ar, an, ⟨aln, ali, alt⟩, ⟨ahn, ahi, aht⟩⟩ := a
  obtain ⟨br, bn, ⟨bln, bli, blt⟩, ⟨bhn, bhi, bht⟩⟩ := b
  dsimp only
  go_simp
  simp only [ite_andn, Bool.and_true, Bool.not_not, Bool.not_false, Bool.not_true, Bool.not_and]

set_option maxHeartbeats 1000000 in
theorem smallC_any (v : Value) (l : List Cl) (w : World) (hv : Cs w v l) :
    Calls Tryz.prog 24 #[v] w fun e w' => ∃ b, e = .returned (.bool b) ∧ (b = true → l.length ≤ 100) ∧ Fr Non w w' := by
  obtain ⟨A, c, rfl, hlc, hn, hcell⟩ := hv
  have HC := Lib.hid hcell
  have HN := Lib.hid hn
  clear hcell hn
  go_enter Tryz.func24, Tryz.ntmps24
  go_wp2
  go_loopw [3] (fun i wr => ∃ (k : Nat), k ≤ l.length ∧ k ≤ 200 ∧ i = .int .i64 k ∧ Fr Non w wr) (fun i _ => 200 - (intOf i).toNat)
  case atStart => exact ⟨0, Nat.zero_le _, Nat.zero_le _, rfl, Fr.refl _ _⟩
  case round =>
    obtain ⟨k, hk, hk2, rfl, hfr⟩ := hrel
    by_cases hlt : k < l.length
    · by_cases h200 : k < 200
      · cases A with
        | none => have := HN.out rfl; omega
        | some a =>
          obtain ⟨hc0, hc1, hc2⟩ := (hfr.at3 (HC.out a rfl k hlt)).lit
          generalize l[k] = x at *
          obtain ⟨xn, xi, xt⟩ := x
          dsimp only at hc0 hc1 hc2
          have hs := slen xt
          by_cases hx : 60 < xt.length
          · go_wp2
            go_ret
            exact ⟨false, rfl, (fun h => by cases h), hfr⟩
          · go_wp2
            go_roundw
            case rel => exact ⟨k + 1, by omega, by omega, by go_num, hfr⟩
            case measure => simp [intOf]; omega
      · go_wp2
        go_ret
        exact ⟨_, rfl, (fun h => by have := of_decide_eq_true h; omega), hfr⟩
    · go_wp2
      go_ret
      exact ⟨_, rfl, (fun h => by have := of_decide_eq_true h; omega), hfr⟩

end Go.Proofs.YtheefloegbkflaaGreatDoor


namespace Go.Proofs.YtheefloegbkflaaGreatDoor
set_option linter.unusedVariables false
set_option linter.unusedSimpArgs false
set_option maxRecDepth 100000
open Go.RowKit

def chL (c : Ch) : List Value := [.int .i64 c.off, .int .i64 c.len, .int .i64 c.zn.rows, .int .i64 c.zn.nulls, .bool c.zn.low.null, .int .i64 c.zn.low.num, .string ⟨c.zn.low.txt.toArray⟩, .bool c.zn.high.null, .int .i64 c.zn.high.num, .string ⟨c.zn.high.txt.toArray⟩]
theorem fd_ch : Fd chL 10 := ⟨fun _ => rfl, fun x u hu => by simp [chL] at hu; rcases hu with rfl | rfl | rfl | rfl | rfl | rfl | rfl | rfl | rfl | rfl <;> rfl, by omega, by omega⟩
theorem eln_ch : Eln 38 58 (.agg #[.int .i64 0, .int .i64 0, .int .i64 0, .int .i64 0, .bool false, .int .i64 0, .string ⟨#[]⟩, .bool false, .int .i64 0, .string ⟨#[]⟩]) 10 96 := ⟨Tryz.underlying38, by kernel_rfl, rfl, by decide⟩
abbrev Hs (w : World) (v : Value) (l : List Ch) : Prop := Ns chL 10 w v l
abbrev Ho (w : World) (B : Nat) (v : Value) (l : List Ch) : Prop := No chL 10 58 w B v l
/-- a footer's words in a block -/
abbrev FtB (w : World) (g : Nat) (R : Int) (u : Value) : Prop := Blk w g 40 #[.int .i64 R, u]
theorem load_foot {w : World} {g : Nat} {cs : Array Value} (hg : Blk w g 40 cs) (h2 : cs.size = 2) : (loadVar 40 ⟨g, 0, none⟩).run Tryz.prog w = .ok (.agg cs) w :=
  run_loadVar_row w g 40 40 cs (0, 0) _ hg Tryz.underlying40 rfl (by rw [h2]; kernel_rfl)
theorem ch_ne_src : 58 ≠ 120 := by decide
theorem ch_ne_foot : 58 ≠ 40 := by decide
theorem ks_lit {w : World} {a : Addr} {n c : Nat} {l : List Co} (h : Ks w (.slice (some a) n c) l) (k : Nat) (x : Co) (hx : l[k]? = some x) :
    w.cell? (a.add (k * 3)) = some (.string ⟨x.name.toArray⟩) ∧ w.cell? { block := (a.add (k * 3)).block, off := (a.add (k * 3)).off + 1 } = some (.int .i64 x.ty) ∧ w.cell? { block := (a.add (k * 3)).block, off := (a.add (k * 3)).off + 2 } = some (.bool x.nl) := by
  obtain ⟨a', e, hat⟩ := h.at_ k x hx
  cases e
  exact co_lit hat
end Go.Proofs.YtheefloegbkflaaGreatDoor
