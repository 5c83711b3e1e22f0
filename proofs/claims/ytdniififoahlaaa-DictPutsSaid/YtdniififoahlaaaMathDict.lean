/-
  Layer 8 as plain functions on lists: texts one behind the other (plainB), read again (tks, tkR, tkB), the unlike ones, rising (uniq), each text's place (placesD), what Put lays (dictB). Nothing of the program.
-/
import Derived.Test.YtdniififoahlaaaVint6
import Derived.Test.YtdniififoahlaaaMathTight
namespace Go.Proofs.Ytdniififoahlaaa
set_option linter.unusedVariables false
set_option linter.unusedSimpArgs false

abbrev Tx := List UInt8

def plainB (l : List Tx) : List UInt8 := (l.map textB).flatten
theorem plainB_nil : plainB [] = [] := rfl
theorem plainB_snoc (l : List Tx) (x : Tx) : plainB (l ++ [x]) = plainB l ++ textB x := by simp [plainB]
theorem plainB_take (l : List Tx) (k : Nat) (h : k < l.length) : plainB (l.take (k + 1)) = plainB (l.take k) ++ textB l[k] := by
  rw [List.take_succ_eq_append_getElem h, plainB_snoc]
theorem plainB_drop (l : List Tx) (k : Nat) (h : k < l.length) : plainB (l.drop k) = textB l[k] ++ plainB (l.drop (k + 1)) := by
  rw [List.drop_eq_getElem_cons h]; rfl

theorem plainB_le (l : List Tx) (k : Nat) : (plainB (l.take k)).length ≤ (plainB l).length := by
  conv => rhs; rw [← List.take_append_drop k l]
  unfold plainB; rw [List.map_append, List.flatten_append, List.length_append]; omega
theorem plainB_bound {l : List Tx} {B : Nat} (hx : ∀ x ∈ l, x.length ≤ B) (hB : B < two64) : (plainB l).length ≤ l.length * (B + 10) := by
  induction l with
  | nil => simp [plainB]
  | cons x l ih =>
    have h1 := ih fun y hy => hx y (List.mem_cons_of_mem _ hy)
    have h2 := hx x (List.mem_cons_self ..)
    have h3 : (textB x).length ≤ x.length + 10 := by
      have := Lib.uvarint_length64 (show x.length < two64 by omega)
      unfold textB; rw [List.length_append]; omega
    have h4 : plainB (x :: l) = textB x ++ plainB l := rfl
    rw [h4, List.length_append, List.length_cons, Nat.add_mul]
    omega

/-! ### One text read -/
theorem textB_len {t : Tx} (h : t.length < two64) : (textB t).length ≤ t.length + 10 := by
  have := Lib.uvarint_length64 h
  unfold textB; rw [List.length_append]; omega
theorem txt_own {t r : List UInt8} {m : Int} (h : (t.length : Int) ≤ m) (h2 : t.length < two64) : txtT (textB t ++ r) m = t ∧ txtR (textB t ++ r) m = r ∧ txtB (textB t ++ r) m = false := by
  have hr : rd 0 0 (textB t ++ r) = some (t.length, t ++ r) := by
    unfold textB; rw [List.append_assoc]; exact rd_own h2 _
  obtain ⟨h1, h3, h4, _⟩ := rest_some hr
  have hm : mostOk (textB t ++ r) m = true := decide_eq_true ⟨by omega, by rw [h4]; exact h⟩
  have hc : cutOk (t ++ r) (t.length : Int) = true := decide_eq_true ⟨by omega, by rw [List.length_append]; omega⟩
  unfold txtT txtR txtB mostV mostR mostB
  rw [hm]
  simp only [if_true, h1, h3, h4]
  unfold cutT cutR cutB
  rw [hc]
  simp
theorem txt_is {l : List UInt8} {m : Int} (h : txtB l m = false) : l = textB (txtT l m) ++ txtR l m ∧ ((txtT l m).length : Int) ≤ m ∧ (txtT l m).length < two64 := by
  unfold txtB mostB mostR mostV at h
  unfold txtT txtR mostV mostR
  by_cases hm : mostOk l m = true
  · rw [hm] at h ⊢
    simp only [if_true] at h ⊢
    cases hr : rd 0 0 l with
    | none =>
      rw [(rest_none hr).2.1, (rest_none hr).1, (rest_none hr).2.2.1] at h
      exact absurd h (by simp [cutB])
    | some p =>
      obtain ⟨n, q⟩ := p
      obtain ⟨h1, h2, h3, _⟩ := rest_some hr
      rw [h1, h2, h3] at h
      rw [h1, h3]
      have hok := of_decide_eq_true hm
      rw [h3] at hok
      by_cases hc : cutOk q (n : Int) = true
      · have hc2 := of_decide_eq_true hc
        unfold cutT cutR
        rw [hc]
        simp only [if_true]
        have hl : (q.take (n : Int).toNat).length = n := by rw [List.length_take]; omega
        refine ⟨?_, by rw [hl]; exact hok.2, by rw [hl]; exact rd_lt hr⟩
        unfold textB
        rw [hl, List.append_assoc, List.take_append_drop]
        exact rd_is hr
      · unfold cutB at h
        rw [if_neg hc] at h
        cases h
  · rw [if_neg hm, if_neg hm, if_neg hm] at h
    exfalso
    revert h
    unfold cutB
    split <;> simp
theorem txt_bad (m : Int) : txtB [] m = true := by
  cases h : txtB [] m
  · have := (txt_is h).1
    have h2 := congrArg List.length this
    have hp := Lib.uvarint_pos (txtT [] m).length
    simp [textB] at h2
    omega
  · rfl
theorem txt_left {l : List UInt8} {m : Int} (h : txtB l m = true) : txtR l m = [] ∧ txtT l m = [] := by
  unfold txtB mostB mostR mostV at h
  unfold txtT txtR mostV mostR
  by_cases hm : mostOk l m = true
  · rw [hm] at h ⊢
    simp only [if_true] at h ⊢
    cases hr : rd 0 0 l with
    | none =>
      rw [(rest_none hr).1, (rest_none hr).2.2.1]
      simp [cutR, cutT]
    | some p =>
      obtain ⟨n, q⟩ := p
      obtain ⟨h1, h2, h3, _⟩ := rest_some hr
      rw [h1, h2, h3] at h
      rw [h1, h3]
      unfold cutB at h
      unfold cutR cutT
      by_cases hc : cutOk q (n : Int) = true
      · rw [if_pos hc] at h; cases h
      · rw [if_neg hc, if_neg hc]; exact ⟨rfl, rfl⟩
  · rw [if_neg hm, if_neg hm]
    unfold cutR cutT
    simp
theorem txtT_len (l : List UInt8) (m : Int) : (txtT l m).length ≤ l.length := by
  cases h : txtB l m
  · have h2 := congrArg List.length (txt_is h).1
    simp [textB] at h2
    omega
  · rw [(txt_left h).2]; simp
theorem txtR_len (l : List UInt8) (m : Int) : (txtR l m).length ≤ l.length := by
  cases h : txtB l m
  · have h2 := congrArg List.length (txt_is h).1
    simp [textB] at h2
    omega
  · rw [(txt_left h).1]; simp

/-! ### Texts read -/
def tkR (m : Int) (l : List UInt8) : Nat → List UInt8
  | 0 => l
  | n + 1 => txtR (tkR m l n) m
def tks (m : Int) (l : List UInt8) : Nat → List Tx
  | 0 => []
  | n + 1 => tks m l n ++ [txtT (tkR m l n) m]
def tkB (m : Int) (l : List UInt8) (bad : Bool) : Nat → Bool
  | 0 => bad
  | n + 1 => txtB (tkR m l n) m
theorem tks_length (m : Int) (l : List UInt8) : ∀ n, (tks m l n).length = n
  | 0 => rfl
  | n + 1 => by rw [tks, List.length_append, tks_length m l n]; rfl
theorem tkR_len (m : Int) (l : List UInt8) : ∀ n, (tkR m l n).length ≤ l.length
  | 0 => Nat.le_refl _
  | n + 1 => Nat.le_trans (txtR_len _ _) (tkR_len m l n)
theorem tks_len (m : Int) (l : List UInt8) : ∀ n, ∀ x ∈ tks m l n, x.length ≤ l.length
  | 0, x, h => by simp [tks] at h
  | n + 1, x, h => by
    rw [tks, List.mem_append] at h
    rcases h with h | h
    · exact tks_len m l n x h
    · obtain rfl : x = _ := by simpa using h
      exact Nat.le_trans (txtT_len _ _) (tkR_len m l n)
theorem tkB_left {m : Int} {l : List UInt8} {bad : Bool} (h0 : bad = true → l = []) : ∀ {n : Nat}, tkB m l bad n = true → tkR m l n = []
  | 0, h => h0 h
  | n + 1, h => (txt_left h).1
theorem tkB_more {m : Int} {l : List UInt8} {bad : Bool} (h0 : bad = true → l = []) {n : Nat} (h : tkB m l bad n = true) : ∀ j, tkB m l bad (n + j) = true
  | 0 => h
  | j + 1 => by
    show txtB (tkR m l (n + j)) m = true
    rw [tkB_left h0 (tkB_more h0 h j)]
    exact txt_bad m
theorem tkB_le {m : Int} {l : List UInt8} {bad : Bool} (h0 : bad = true → l = []) {n k : Nat} (h : tkB m l bad n = false) (hk : k ≤ n) : tkB m l bad k = false := by
  cases hb : tkB m l bad k
  · rfl
  · have := tkB_more h0 hb (n - k)
    rw [show k + (n - k) = n by omega, h] at this
    cases this
theorem tk_own {m : Int} {u : List Tx} {r : List UInt8} (hu : ∀ x ∈ u, (x.length : Int) ≤ m ∧ x.length < two64) : ∀ k, k ≤ u.length → tks m (plainB u ++ r) k = u.take k ∧ tkR m (plainB u ++ r) k = plainB (u.drop k) ++ r ∧ tkB m (plainB u ++ r) false k = false
  | 0, _ => ⟨by simp [tks], by simp [tkR], rfl⟩
  | k + 1, h => by
    obtain ⟨h1, h2, h3⟩ := tk_own hu k (by omega)
    have hx := hu u[k] (by simp)
    have ho := txt_own (r := plainB (u.drop (k + 1)) ++ r) hx.1 hx.2
    rw [← List.append_assoc, ← plainB_drop u k (by omega)] at ho
    refine ⟨?_, ?_, ?_⟩
    · rw [tks, h1, h2, ho.1, List.take_succ_eq_append_getElem (by omega)]
    · rw [tkR, h2, ho.2.1]
    · rw [tkB, h2, ho.2.2]
theorem tk_is {m : Int} {l : List UInt8} : ∀ {n : Nat}, tkB m l false n = false → l = plainB (tks m l n) ++ tkR m l n ∧ ∀ x ∈ tks m l n, (x.length : Int) ≤ m ∧ x.length < two64
  | 0, _ => ⟨by simp [tks, tkR, plainB_nil], fun x h => by simp [tks] at h⟩
  | n + 1, h => by
    obtain ⟨h1, h2⟩ := tk_is (n := n) (tkB_le (fun e => by cases e) h (by omega))
    have h3 := txt_is (show txtB (tkR m l n) m = false from h)
    refine ⟨?_, fun x hx => ?_⟩
    · rw [tks, plainB_snoc, tkR, List.append_assoc, ← h3.1]; exact h1
    · rw [tks, List.mem_append] at hx
      rcases hx with hx | hx
      · exact h2 x hx
      · obtain rfl : x = _ := by simpa using hx
        exact h3.2

/-- the n texts that all of b are, if n is not above the limit -/
def textsM (b : List UInt8) (n : Int) (m : Int) : Option (List Tx) := if 0 ≤ n ∧ n ≤ 4096 ∧ tkB m b false n.toNat = false ∧ tkR m b n.toNat = [] then some (tks m b n.toNat) else none
theorem textsM_own {u : List Tx} {m : Int} (hn : u.length ≤ 4096) (hu : ∀ x ∈ u, (x.length : Int) ≤ m ∧ x.length < two64) : textsM (plainB u) u.length m = some u := by
  have h := tk_own (r := []) hu u.length (Nat.le_refl _)
  simp only [List.append_nil, List.take_length, List.drop_length, plainB_nil] at h
  unfold textsM
  rw [if_pos ⟨by omega, by omega, by simpa using h.2.2, by simpa using h.2.1⟩]
  simpa using h.1
theorem textsM_is {b : List UInt8} {n m : Int} {l : List Tx} (h : textsM b n m = some l) : plainB l = b ∧ (l.length : Int) = n ∧ ∀ x ∈ l, (x.length : Int) ≤ m ∧ x.length ≤ b.length := by
  unfold textsM at h
  split at h
  · rename_i hc
    obtain ⟨h0, h1, h2, h3⟩ := hc
    obtain rfl : tks m b n.toNat = l := by simpa using h
    have hi := tk_is h2
    rw [h3, List.append_nil] at hi
    exact ⟨hi.1.symm, by rw [tks_length]; omega, fun x hx => ⟨(hi.2 x hx).1, tks_len m b _ x hx⟩⟩
  · cases h

/-! ### The unlike ones, rising -/
theorem bless : ∀ (x y : Tx), Op.bytesLess x y = decide (x < y)
  | x, [] => by cases x <;> simp [Op.bytesLess]
  | [], b :: y => by simp [Op.bytesLess]
  | a :: x, b :: y => by
    rw [Op.bytesLess, bless x y, Bool.eq_iff_iff]
    simp [List.cons_lt_cons_iff]
def lowW (o : List Tx) (x : Tx) : Nat := (o.takeWhile fun y => decide (y < x)).length
def insW (o : List Tx) (x : Tx) : List Tx := if o[lowW o x]? = some x then o else o.take (lowW o x) ++ x :: o.drop (lowW o x)
def uniq (l : List Tx) : List Tx := l.foldl insW []
theorem uniq_nil : uniq [] = [] := rfl
theorem uniq_snoc (l : List Tx) (x : Tx) : uniq (l ++ [x]) = insW (uniq l) x := by simp [uniq]
theorem uniq_take (l : List Tx) (k : Nat) (h : k < l.length) : uniq (l.take (k + 1)) = insW (uniq (l.take k)) l[k] := by
  rw [List.take_succ_eq_append_getElem h, uniq_snoc]
abbrev Rising (o : List Tx) : Prop := o.Pairwise (· < ·)
theorem lowW_le (o : List Tx) (x : Tx) : lowW o x ≤ o.length := by
  have h := congrArg List.length (List.takeWhile_append_dropWhile (p := fun y => decide (y < x)) (l := o))
  rw [List.length_append] at h
  unfold lowW; omega
theorem lowW_lt {o : List Tx} {x : Tx} {k : Nat} (hk : k < lowW o x) (h : k < o.length) : o[k] < x := by
  have h1 : (o.takeWhile fun y => decide (y < x))[k]'hk = o[k] := by
    have := List.takeWhile_prefix (p := fun y => decide (y < x)) (l := o)
    exact this.getElem hk
  have h2 := List.all_takeWhile (p := fun y => decide (y < x)) (l := o)
  have := List.all_eq_true.1 h2 _ (List.getElem_mem hk)
  rw [h1] at this
  simpa using this
theorem lowW_end {o : List Tx} {x : Tx} (h : lowW o x < o.length) : ¬ o[lowW o x] < x := by
  intro hlt
  induction o with
  | nil => simp at h
  | cons y o ih =>
    unfold lowW at h hlt ih
    by_cases hy : y < x
    · simp only [List.takeWhile_cons, hy, decide_true, if_true, List.length_cons] at h hlt
      exact ih (by omega) (by simpa using hlt)
    · simp only [List.takeWhile_cons, hy, decide_false] at hlt
      simp at hlt
      exact hy hlt
theorem lowW_is {o : List Tx} {x : Tx} {k : Nat} (hk : k ≤ o.length) (h1 : ∀ i (h : i < o.length), i < k → o[i] < x) (h2 : ∀ h : k < o.length, ¬ o[k] < x) : lowW o x = k := by
  have hle := lowW_le o x
  rcases Nat.lt_trichotomy (lowW o x) k with h | h | h
  · exact absurd (h1 _ (by omega) h) (lowW_end (by omega))
  · exact h
  · exact absurd (lowW_lt h (by omega)) (h2 (by omega))
theorem insW_mem {o : List Tx} {x y : Tx} : y ∈ insW o x ↔ y ∈ o ∨ y = x := by
  unfold insW
  split
  · rename_i h
    constructor
    · exact .inl
    · rintro (h1 | rfl)
      · exact h1
      · exact List.mem_of_getElem? h
  · constructor
    · intro h
      rw [List.mem_append, List.mem_cons] at h
      rcases h with h | h | h
      · exact .inl (List.mem_of_mem_take h)
      · exact .inr h
      · exact .inl (List.mem_of_mem_drop h)
    · rintro (h | rfl)
      · rw [← List.take_append_drop (lowW o x) o, List.mem_append] at h
        rw [List.mem_append, List.mem_cons]
        rcases h with h | h
        · exact .inl h
        · exact .inr (.inr h)
      · simp
theorem insW_rising {o : List Tx} {x : Tx} (h : Rising o) : Rising (insW o x) := by
  unfold insW
  split
  · exact h
  · rename_i hne
    have hlt : ∀ y ∈ o.take (lowW o x), y < x := by
      intro y hy
      obtain ⟨i, hi, rfl⟩ := List.mem_iff_getElem.1 hy
      rw [List.length_take] at hi
      rw [List.getElem_take]
      exact lowW_lt (by omega) (by omega)
    have hgt : ∀ y ∈ o.drop (lowW o x), x < y := by
      intro y hy
      obtain ⟨i, hi, rfl⟩ := List.mem_iff_getElem.1 hy
      rw [List.length_drop] at hi
      have hle := lowW_le o x
      have h0 : lowW o x < o.length := by omega
      have h1 := lowW_end h0
      have h2 : o[lowW o x] ≠ x := fun e => hne (by rw [List.getElem?_eq_getElem h0, e])
      have h3 : x < o[lowW o x] := by
        have hle := List.not_lt.1 h1
        rcases List.le_iff_lt_or_eq.1 hle with h | h
        · exact h
        · exact absurd h.symm h2
      rw [List.getElem_drop]
      rcases Nat.eq_zero_or_pos i with rfl | hi0
      · simpa using h3
      · exact List.lt_trans h3 (List.pairwise_iff_getElem.1 h _ _ h0 (by omega) (by omega))
    have hsplit : Rising (o.take (lowW o x) ++ o.drop (lowW o x)) := by rw [List.take_append_drop]; exact h
    obtain ⟨ha, hb, hab⟩ := List.pairwise_append.1 hsplit
    refine List.pairwise_append.2 ⟨ha, List.pairwise_cons.2 ⟨hgt, hb⟩, fun a haa b hbb => ?_⟩
    rcases List.mem_cons.1 hbb with rfl | hbb
    · exact hlt a haa
    · exact hab a haa b hbb
theorem uniq_mem (l : List Tx) (y : Tx) : y ∈ uniq l ↔ y ∈ l := by
  suffices h : ∀ (l o : List Tx), y ∈ l.foldl insW o ↔ y ∈ o ∨ y ∈ l by have := h l []; unfold uniq; simpa using this
  intro l
  induction l with
  | nil => intro o; simp
  | cons x l ih =>
    intro o
    rw [List.foldl_cons, ih, insW_mem, List.mem_cons, or_assoc]
theorem uniq_rising (l : List Tx) : Rising (uniq l) := by
  suffices h : ∀ (l o : List Tx), Rising o → Rising (l.foldl insW o) from h l [] List.Pairwise.nil
  intro l
  induction l with
  | nil => intro o h; exact h
  | cons x l ih => intro o h; exact ih _ (insW_rising h)
theorem uniq_length (l : List Tx) : (uniq l).length ≤ l.length := by
  suffices h : ∀ (l o : List Tx), (l.foldl insW o).length ≤ o.length + l.length by have := h l []; unfold uniq; simpa using this
  intro l
  induction l with
  | nil => intro o; simp
  | cons x l ih =>
    intro o
    have := ih (insW o x)
    rw [List.foldl_cons, List.length_cons]
    have h2 : (insW o x).length ≤ o.length + 1 := by
      unfold insW
      split
      · omega
      · rw [List.length_append, List.length_cons, List.length_take, List.length_drop]; omega
    omega
theorem rising_nodup {o : List Tx} (h : Rising o) : o.Nodup := by
  refine List.Pairwise.imp ?_ h
  intro a b hlt e
  subst e
  exact List.lt_irrefl a hlt
/-- a rising list is told by what is in it -/
theorem rising_one {a b : List Tx} (ha : Rising a) (hb : Rising b) (h : ∀ x, x ∈ a ↔ x ∈ b) : a = b := by
  have hp : a.Perm b := (List.perm_ext_iff_of_nodup (rising_nodup ha) (rising_nodup hb)).2 h
  exact hp.eq_of_pairwise (fun x y _ _ h1 h2 => absurd (List.lt_trans h1 h2) (List.lt_irrefl x)) ha hb

/-! ### What Put lays -/
def placesD (l : List Tx) : List Int := l.map fun x => ((uniq l).idxOf x : Int)
def dictB (l : List Tx) : List UInt8 := Lib.uvarint (uniq l).length ++ (plainB (uniq l) ++ putT (placesD l))
theorem placesD_length (l : List Tx) : (placesD l).length = l.length := by simp [placesD]
theorem idx_lt {l : List Tx} {x : Tx} (h : x ∈ l) : (uniq l).idxOf x < (uniq l).length := List.idxOf_lt_length_of_mem ((uniq_mem l x).2 h)
theorem placesD_i64 {l : List Tx} (hl : l.length ≤ 1000000) : ∀ x ∈ placesD l, I64 x := by
  intro z hz
  obtain ⟨x, hx, rfl⟩ := List.mem_map.1 hz
  have h1 := idx_lt hx
  have h2 := uniq_length l
  unfold I64; omega
/-- the texts at places, if all are there -/
def pickD (u : List Tx) (at_ : List Int) : Option (List Tx) := if ∀ a ∈ at_, 0 ≤ a ∧ a < (u.length : Int) then some (at_.map fun a => u.getD a.toNat []) else none
theorem pickD_own (l : List Tx) : pickD (uniq l) (placesD l) = some l := by
  unfold pickD
  rw [if_pos]
  · congr 1
    unfold placesD
    rw [List.map_map]
    conv => rhs; rw [← List.map_id l]
    refine List.map_congr_left fun x hx => ?_
    have h := idx_lt hx
    simp only [Function.comp, Int.toNat_natCast, id]
    rw [← List.getElem_eq_getD (h := h), List.getElem_idxOf]
  · intro a ha
    obtain ⟨x, hx, rfl⟩ := List.mem_map.1 ha
    have h := idx_lt hx
    omega

/-- what Get answers, the number of unlike texts being at most K -/
def dgetK (K : Int) (b : List UInt8) (n m : Int) : Option (List Tx) :=
  match getM (tkR m (mostR b K) (mostV b K)) n with
  | none => none
  | some at_ => match pickD (tks m (mostR b K) (mostV b K)) at_ with
    | none => none
    | some l => if dictB l = b then some l else none
/-- what Get answers -/
def dgetM (b : List UInt8) (n m : Int) : Option (List Tx) := if n < 0 ∨ 4096 < n then none else dgetK n b n m

theorem dict_head (l : List Tx) (hl : l.length ≤ 1000000) : rd 0 0 (dictB l) = some ((uniq l).length, plainB (uniq l) ++ putT (placesD l)) := by
  have := uniq_length l
  exact rd_own (by unfold two64; omega) _
theorem dict_most {l : List Tx} {K : Int} (hl : l.length ≤ 1000000) (hK : ((uniq l).length : Int) ≤ K) :
    mostV (dictB l) K = (uniq l).length ∧ mostR (dictB l) K = plainB (uniq l) ++ putT (placesD l) ∧ mostB (dictB l) K = false := by
  obtain ⟨h1, h2, h3, _⟩ := rest_some (dict_head l hl)
  have hm : mostOk (dictB l) K = true := decide_eq_true ⟨by omega, by rw [h3]; exact hK⟩
  unfold mostV mostR mostB
  rw [hm]
  simp only [if_true]
  exact ⟨h3, h1, h2⟩
theorem getM_put {l : List Int} (hl : l.length ≤ 4096) (hx : ∀ x ∈ l, I64 x) : getM (putT l) l.length = some l := by
  unfold getM; rw [if_pos (by omega), getZ_put hx]
theorem dgetM_own {l : List Tx} {m : Int} (hl : l.length ≤ 4096) (hu : ∀ x ∈ l, (x.length : Int) ≤ m ∧ x.length < two64) : dgetM (dictB l) l.length m = some l := by
  unfold dgetM
  rw [if_neg (by omega)]
  have hm := dict_most (K := l.length) (show l.length ≤ 1000000 by omega) (by have := uniq_length l; omega)
  have ht := tk_own (m := m) (u := uniq l) (r := putT (placesD l)) (fun x hx => hu x ((uniq_mem l x).1 hx)) (uniq l).length (Nat.le_refl _)
  have hg := getM_put (l := placesD l) (by rw [placesD_length]; exact hl) (placesD_i64 (by omega))
  rw [placesD_length] at hg
  unfold dgetK
  rw [hm.1, hm.2.1, ht.2.1, ht.1]
  simp only [List.take_length, List.drop_length, plainB_nil, List.nil_append]
  rw [hg]
  simp only [pickD_own]
  exact if_pos trivial
theorem dgetK_is {K : Int} {b : List UInt8} {n m : Int} {l : List Tx} (h : dgetK K b n m = some l) :
    dictB l = b ∧ (l.length : Int) = n ∧ n ≤ 4096 ∧ ∃ at_, getM (tkR m (mostR b K) (mostV b K)) n = some at_ ∧ pickD (tks m (mostR b K) (mostV b K)) at_ = some l := by
  unfold dgetK at h
  split at h
  · cases h
  · rename_i at_ hg
    split at h
    · cases h
    · rename_i l' hp
      split at h
      · rename_i hd
        obtain rfl : l' = l := by simpa using h
        have hn : (at_.length : Int) = n ∧ n ≤ 4096 := by
          unfold getM at hg
          split at hg
          · exact ⟨(getZ_is hg).2.1, by omega⟩
          · cases hg
        refine ⟨hd, ?_, hn.2, at_, hg, hp⟩
        have hpl : l'.length = at_.length := by
          unfold pickD at hp
          split at hp
          · rename_i hc
            have := congrArg (fun o : Option (List Tx) => o.map List.length) hp
            simp at this
            omega
          · cases hp
        rw [hpl]; exact hn.1
      · cases h
/-- the bound on the number of unlike texts does not matter, and where reading failed there are none -/
theorem dgetK_any {K K' : Int} {b : List UInt8} {n m : Int} {l : List Tx} (hn : n ≤ K) (hn' : n ≤ K') (h : dgetK K b n m = some l) : dgetK K' b n m = some l ∧ tkB m (mostR b K) (mostB b K) (mostV b K) = tkB m (mostR b K') (mostB b K') (mostV b K') := by
  obtain ⟨hd, hl, h4, at_, hg, hp⟩ := dgetK_is h
  have hu := uniq_length l
  subst hd
  have h1 := dict_most (l := l) (K := K) (by omega) (by omega)
  have h2 := dict_most (l := l) (K := K') (by omega) (by omega)
  rw [h1.1, h1.2.1, h1.2.2, h2.1, h2.2.1, h2.2.2]
  refine ⟨?_, rfl⟩
  unfold dgetK
  rw [h1.1, h1.2.1] at hg hp
  rw [h2.1, h2.2.1, hg]
  simp only [hp]
  exact if_pos trivial
end Go.Proofs.Ytdniififoahlaaa
