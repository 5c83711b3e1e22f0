/-
  Joined: Words of our own on memory, for all texts of this seat: what changed between two worlds (Fr), a known block (Blk), bytes that a slice reads as (Bs), bytes in a row of the call's own (Own), and the steps append and convert over them. · The runes of a text, as a range over it tells them: of lists of bytes; where texts are put together with a letter below 128 between; the bytes of runes, and that they are read again. · Layer 15, mathematics: which runes a pattern's runes match (mtG); of patterns put together; the way by beginnings; the way by the last % (a state's relation, step by step). · Slices of slices of bytes that the call owns (Owns), and the steps that append one slice, or one value of one cell, to a row of the call's own. · Slices of one-celled elements of any type: what one reads as (Vs), a row of the call's own (Ow), and the steps over them: append of one, append of many, make, copy, cuts. · Layer 15: words on runes and on a text's iterator; the walks of glob.small, glob.Fold, firkinref15.Fold. · Layer 15: the walks of firkinref15.Fold, glob.empty, glob.matches, glob.Match. · Layer 15: the walks of glob.matches, glob.Match. · Layer 15: the page's example; the walks of the laws on what is matched, and on what is ahead. · Layer 15: the walk of the law on patterns put together. · The frame of a law's proof, for any parameters: where the call returned true and turned nothing that was there, the row's words hold. · Arguments opened: an array of two texts, by value.
-/
import Derived.BigRegion
import Derived.Test.YtjbpccbafldgkaaProg
import Derived.WalkKit
import Derived.WalkSpells
import Derived.Deep.AppendSrc
import Derived.Maps.AppendAt
import Derived.Lib.Hide
import Derived.Deep.Draws
import Derived.Lib.AppendStr
import Derived.Lib.DecodeN
import Derived.Laws.RangeAny
import Derived.Laws.Cover4
import Derived.Laws.CopyOwn
import Derived.Laws.OwnMore
import Derived.Lib.OthersKept
import Derived.BigQuiet
import Derived.Test.YtjbpccbafldgkaaRows
import Derived.ProofKit
import Derived.OpenShut
import Derived.ShutString
import Derived.ChangeOld
import Derived.Below
import Derived.Lib.SmallJoins

namespace Go.Proofs.Ytjbpccbafldgkaa
set_option linter.unusedVariables false
set_option linter.unusedSimpArgs false
set_option maxRecDepth 100000
open Go.RowKit

/-! ### What changed: of the blocks that were there, at most those of S -/
structure Fr (S : Nat → Prop) (w w' : World) : Prop where
  os : w'.os = w.os
  tape : w'.tape = w.tape
  output : w'.output = w.output
  size : w.heap.size ≤ w'.heap.size
  block : ∀ k, k < w.heap.size → ¬ S k → w'.heap[k]? = w.heap[k]?

/-- nothing -/
def Non : Nat → Prop := fun _ => False
/-- one block -/
def One (g : Nat) : Nat → Prop := fun k => k = g

theorem Fr.refl (S : Nat → Prop) (w : World) : Fr S w w := ⟨rfl, rfl, rfl, Nat.le_refl _, fun _ _ _ => rfl⟩
theorem Fr.join {S S' : Nat → Prop} {w w1 w2 : World} (h : Fr S w w1) (h' : Fr S' w1 w2) (hs : ∀ k, k < w.heap.size → S' k → S k) : Fr S w w2 :=
  ⟨h'.os.trans h.os, h'.tape.trans h.tape, h'.output.trans h.output, Nat.le_trans h.size h'.size,
    fun k hk hn => (h'.block k (Nat.lt_of_lt_of_le hk h.size) (fun e => hn (hs k hk e))).trans (h.block k hk hn)⟩
theorem Fr.trans {S : Nat → Prop} {w w1 w2 : World} (h : Fr S w w1) (h' : Fr S w1 w2) : Fr S w w2 := h.join h' fun _ _ e => e
theorem Fr.then {S : Nat → Prop} {w w1 w2 : World} (h : Fr S w w1) (h' : Fr Non w1 w2) : Fr S w w2 := h.join h' fun _ _ e => e.elim
theorem Fr.mono {S S' : Nat → Prop} {w w' : World} (h : Fr S w w') (hs : ∀ k, k < w.heap.size → S k → S' k) : Fr S' w w' :=
  ⟨h.os, h.tape, h.output, h.size, fun k hk hn => h.block k hk fun e => hn (hs k hk e)⟩
theorem Fr.any {S : Nat → Prop} {w w' : World} (h : Fr Non w w') : Fr S w w' := h.mono fun _ _ e => e.elim
theorem Fr.fresh {S S' : Nat → Prop} {w w1 w2 : World} (h : Fr S w w1) (h' : Fr S' w1 w2) (hs : ∀ k, S' k → w.heap.size ≤ k) : Fr S w w2 :=
  h.join h' fun k hk e => absurd (hs k e) (by omega)
theorem Fr.drewN {S : Nat → Prop} {w w' : World} (h : Fr S w w') (n : Nat) : Fr S w (w'.drewN n) := ⟨h.os, h.tape, h.output, h.size, h.block⟩
theorem Fr.alloc {S : Nat → Prop} {w w' : World} (h : Fr S w w') (o : Obj) : Fr S w (w'.alloc o) :=
  h.then ⟨rfl, rfl, rfl, by simp, fun k hk _ => Below.heap_alloc _ _ _ hk⟩
theorem Fr.below {w w' : World} (h : Fr Non w w') : Below w.heap.size w w' := ⟨h.os, h.tape, h.output, h.size, fun k hk => h.block k hk fun e => e⟩
theorem Fr.of_grown {w w' : World} {row : Option Nat} (h : w.grownBy w' row) : Fr (fun k => row = some k) w w' :=
  ⟨h.os, h.tape, h.output, h.size, fun k hk hn => h.block k hk (fun e => hn e.symm)⟩
theorem Fr.cell {S : Nat → Prop} {w w' : World} (h : Fr S w w') {p : Addr} (hp : p.block < w.heap.size) (hn : ¬ S p.block) : w'.cell? p = w.cell? p := World.cell?_of_block (h.block _ hp hn)

theorem ret_boolE {a b : Bool} (h : a = b) : Ending.returned (.bool a) = .returned (.bool b) := by rw [h]
theorem ret_int {k : IntKind} {a b : Int} (h : a = b) : Ending.returned (.int k a) = .returned (.int k b) := by rw [h]

/-! ### A block that is known whole -/
def Blk (w : World) (g : Nat) (t : TypeId) (cs : Array Value) : Prop := w.heap[g]? = some (.cells cs t (0, 0))
theorem Blk.lt {w : World} {g : Nat} {t : TypeId} {cs : Array Value} (h : Blk w g t cs) : g < w.heap.size := (Array.getElem?_eq_some_iff.1 h).1
theorem Blk.cell {w : World} {g : Nat} {t : TypeId} {cs : Array Value} (h : Blk w g t cs) (i : Nat) : w.cell? ⟨g, i, none⟩ = cs[i]? := cell_of_row w g i cs t (0, 0) h
theorem Blk.new (w : World) (t : TypeId) (cs : Array Value) : Blk (w.alloc (.cells cs t)) w.heap.size t cs := heap_alloc_new w _
theorem Blk.fr {S : Nat → Prop} {w w' : World} {g : Nat} {t : TypeId} {cs : Array Value} (h : Blk w g t cs) (hf : Fr S w w') (hn : ¬ S g) : Blk w' g t cs := (hf.block g h.lt hn).trans h
theorem cell_new1 (w : World) (v : Value) (t : TypeId) : (w.alloc (.cells #[v] t)).cell? ⟨w.heap.size, 0, none⟩ = some v := (Blk.new w t #[v]).cell 0

/-! ### Bytes -/
def bv (b : UInt8) : Value := .int .u8 b.toNat
theorem add_block (a : Addr) (n : Nat) : (a.add n).block = a.block := by unfold Addr.add; split <;> rfl
theorem add_add (a : Addr) (i j : Nat) : (a.add i).add j = a.add (i + j) := by
  unfold Addr.add
  by_cases hi : i = 0 <;> by_cases hj : j = 0 <;> simp [hi, hj, Nat.add_assoc]

/-- the slice v reads as the bytes l -/
def Bs (w : World) (v : Value) (l : List UInt8) : Prop :=
  ∃ A c, v = .slice A l.length c ∧ l.length ≤ c ∧ (A = none → c = 0) ∧ ∀ a, A = some a → ∀ j (h : j < l.length), w.cell? (a.add j) = some (bv l[j])

theorem Bs.nil_ (w : World) : Bs w (.slice none 0 0) [] := ⟨none, 0, rfl, Nat.le_refl _, fun _ => rfl, fun _ h => by cases h⟩
theorem Bs.keep {w w' : World} {v : Value} {l : List UInt8} (h : Bs w v l) (hk : ∀ k, v.ownBlock = some k → k < w.heap.size → w'.heap[k]? = w.heap[k]?) : Bs w' v l := by
  obtain ⟨A, c, rfl, h1, h2, h3⟩ := h
  refine ⟨A, c, rfl, h1, h2, fun a ha j hj => ?_⟩
  have := h3 a ha j hj
  subst ha
  have hb := World.block_lt_of_cell? w _ this
  rw [add_block] at hb
  rw [← this]
  exact World.cell?_of_block (by rw [add_block]; exact hk _ rfl hb)
theorem Bs.fr {S : Nat → Prop} {w w' : World} {v : Value} {l : List UInt8} (h : Bs w v l) (hf : Fr S w w') (hn : ∀ k, v.ownBlock = some k → ¬ S k) : Bs w' v l :=
  h.keep fun k hk hlt => hf.block k hlt (hn k hk)
theorem Bs.non {w w' : World} {v : Value} {l : List UInt8} (h : Bs w v l) (hf : Fr Non w w') : Bs w' v l := h.fr hf fun _ _ e => e
/-- bytes that the call owns: a row of its own, from block B on -/
def Own (w : World) (B : Nat) (v : Value) (l : List UInt8) : Prop := w.ownsRow B 5 1 v l.length (l.map bv)
theorem Own.lt {w : World} {B : Nat} {v : Value} {l : List UInt8} (h : Own w B v l) : ∀ k, v.ownBlock = some k → B ≤ k ∧ k < w.heap.size := World.ownsRow.lt h
theorem Own.keep {w w' : World} {B : Nat} {v : Value} {l : List UInt8} (h : Own w B v l) (hk : ∀ k, v.ownBlock = some k → w'.heap[k]? = w.heap[k]?) : Own w' B v l := by
  refine ⟨h.1, ?_⟩
  rcases h.2 with h2 | ⟨g, cap, cur, hv, hb, hg, r⟩
  · exact .inl h2
  · exact .inr ⟨g, cap, cur, hv, hb, by rw [hk g (by rw [hv]; rfl)]; exact hg, r⟩
theorem Own.fr {S : Nat → Prop} {w w' : World} {B : Nat} {v : Value} {l : List UInt8} (h : Own w B v l) (hf : Fr S w w') (hn : ∀ k, v.ownBlock = some k → ¬ S k) : Own w' B v l :=
  h.keep fun k hk => hf.block k (h.lt k hk).2 (hn k hk)
theorem Own.non {w w' : World} {B : Nat} {v : Value} {l : List UInt8} (h : Own w B v l) (hf : Fr Non w w') : Own w' B v l := h.fr hf fun _ _ e => e
theorem Own.alloc {w : World} {B : Nat} {v : Value} {l : List UInt8} (h : Own w B v l) (o : Obj) : Own (w.alloc o) B v l := h.non ((Fr.refl _ _).alloc o)
theorem Own.mono {w : World} {B B' : Nat} {v : Value} {l : List UInt8} (h : Own w B v l) (hB : B' ≤ B) : Own w B' v l := by
  refine ⟨h.1, ?_⟩
  rcases h.2 with h2 | ⟨g, cap, cur, hv, hb, r⟩
  · exact .inl h2
  · exact .inr ⟨g, cap, cur, hv, by omega, r⟩

theorem Own.row {w : World} {B : Nat} {v : Value} {l : List UInt8} (h : Own w B v l) (hn : l ≠ []) : ∃ g cap, v = .slice (some ⟨g, 0, none⟩) l.length cap ∧ B ≤ g ∧ g < w.heap.size ∧ l.length ≤ cap ∧ cap ≤ maxLen := by
  rcases h.2 with ⟨rfl, h0⟩ | ⟨g, cap, cur, rfl, hb, hg, hle, hm, _⟩
  · exact absurd (List.eq_nil_of_length_eq_zero h0) hn
  · exact ⟨g, cap, rfl, hb, (Array.getElem?_eq_some_iff.1 hg).1, hle, hm⟩
theorem Own.cell {w : World} {B g n cap : Nat} {l : List UInt8} (h : Own w B (.slice (some ⟨g, 0, none⟩) n cap) l) (hn : n = l.length) (j : Nat) (b : UInt8) (hb : l[j]? = some b) : w.cell? ⟨g, j, none⟩ = some (.int .u8 b.toNat) := by
  subst hn
  have hj : j < l.length := (List.getElem?_eq_some_iff.1 hb).1
  rw [World.ownsRow.cellAt h j (by omega), List.getElem?_map, hb]; rfl
/-! ### A slice of slices of bytes -/
def Bss (w : World) (v : Value) (ls : List (List UInt8)) : Prop :=
  ∃ A c, v = .slice A ls.length c ∧ ls.length ≤ c ∧ (A = none → c = 0) ∧ ∀ a, A = some a → ∀ j (h : j < ls.length), ∃ u, w.cell? (a.add j) = some u ∧ Bs w u ls[j]
theorem Bss.non {w w' : World} {v : Value} {ls : List (List UInt8)} (h : Bss w v ls) (hf : Fr Non w w') : Bss w' v ls := by
  obtain ⟨A, c, rfl, h1, h2, h3⟩ := h
  refine ⟨A, c, rfl, h1, h2, fun a ha j hj => ?_⟩
  obtain ⟨u, hu, hb⟩ := h3 a ha j hj
  exact ⟨u, by rw [← hu]; exact hf.cell (World.block_lt_of_cell? w _ hu) (fun e => e), hb.non hf⟩
/-! ### Pieces of a slice of bytes -/
end Go.Proofs.Ytjbpccbafldgkaa


namespace Go.Proofs.Ytjbpccbafldgkaa
set_option linter.unusedVariables false
set_option linter.unusedSimpArgs false
set_option maxRecDepth 100000

/-- the rune at a text's head, and its width -/
def dcU (l : List UInt8) : Nat × Nat := Lib.decodeN l.length (l.getD 0 0).toNat (l.getD 1 0).toNat (l.getD 2 0).toNat (l.getD 3 0).toNat

theorem getbU (l : List UInt8) (i : Nat) : (⟨l.toArray⟩ : ByteArray).get! i = l.getD i 0 := by
  simp only [ByteArray.get!, List.getElem!_toArray, List.getD_eq_getElem?_getD]
  by_cases h : i < l.length
  · simp [h]
  · simp [List.getElem?_eq_none (Nat.le_of_not_lt h)]
    rfl
theorem dcU_at (l : List UInt8) (k : Nat) : Utf8.decode ⟨l.toArray⟩ k = dcU (l.drop k) := by
  rw [Lib.decode_at]
  unfold dcU
  simp only [getbU]
  have hs : ByteArray.size ⟨l.toArray⟩ = l.length := by simp [ByteArray.size]
  rw [hs, List.length_drop]
  simp only [List.getD_eq_getElem?_getD, List.getElem?_drop, Nat.add_zero]

def okU (r : Nat) : Prop := r < 55296 ∨ (57344 ≤ r ∧ r ≤ 1114111)

theorem decN_w (n b0 b1 b2 b3 : Nat) (hn : 1 ≤ n) : 1 ≤ (Lib.decodeN n b0 b1 b2 b3).2 ∧ (Lib.decodeN n b0 b1 b2 b3).2 ≤ n := by
  unfold Lib.decodeN
  repeat' split
  all_goals simp only
  all_goals omega
theorem decN_ok (n b0 b1 b2 b3 : Nat) (h0 : b0 < 256) (h1 : b1 < 256) (h2 : b2 < 256) (h3 : b3 < 256) : okU (Lib.decodeN n b0 b1 b2 b3).1 := by
  unfold Lib.decodeN okU
  repeat' split
  all_goals simp only
  all_goals omega
theorem dcU_w {l : List UInt8} (h : l ≠ []) : 1 ≤ (dcU l).2 ∧ (dcU l).2 ≤ l.length := decN_w _ _ _ _ _ (List.length_pos_iff.2 h)
theorem dcU_ok (l : List UInt8) : okU (dcU l).1 := decN_ok _ _ _ _ _ (UInt8.toNat_lt _) (UInt8.toNat_lt _) (UInt8.toNat_lt _) (UInt8.toNat_lt _)

def rnU : Nat → List UInt8 → List Nat
  | 0, _ => []
  | _ + 1, [] => []
  | n + 1, b :: l => (dcU (b :: l)).1 :: rnU n ((b :: l).drop (dcU (b :: l)).2)
/-- the runes of a text -/
def runesU (l : List UInt8) : List Nat := rnU l.length l

theorem rnU_nil (n : Nat) : rnU n [] = [] := by cases n <;> rfl
theorem rnU_more : ∀ (n m : Nat) (l : List UInt8), l.length ≤ n → l.length ≤ m → rnU n l = rnU m l
  | 0, m, l, h, _ => by
    obtain rfl : l = [] := List.eq_nil_of_length_eq_zero (by omega)
    rw [rnU_nil, rnU_nil]
  | n + 1, 0, l, _, h => by
    obtain rfl : l = [] := List.eq_nil_of_length_eq_zero (by omega)
    rw [rnU_nil, rnU_nil]
  | n + 1, m + 1, [], _, _ => rfl
  | n + 1, m + 1, b :: l, h1, h2 => by
    have hw := dcU_w (l := b :: l) (by simp)
    have hd : ((b :: l).drop (dcU (b :: l)).2).length ≤ l.length := by rw [List.length_drop, List.length_cons]; omega
    simp only [List.length_cons] at h1 h2
    simp only [rnU]
    rw [rnU_more n m _ (by omega) (by omega)]
theorem runesU_nil : runesU [] = [] := rfl
theorem runesU_head {l : List UInt8} (h : l ≠ []) : runesU l = (dcU l).1 :: runesU (l.drop (dcU l).2) := by
  cases l with
  | nil => exact absurd rfl h
  | cons b l =>
    have hw := dcU_w (l := b :: l) (by simp)
    unfold runesU
    simp only [List.length_cons, rnU]
    rw [rnU_more _ ((b :: l).drop (dcU (b :: l)).2).length _ (by rw [List.length_drop, List.length_cons]; omega) (Nat.le_refl _)]
theorem runesU_drop {l : List UInt8} {k : Nat} (h : k < l.length) : runesU (l.drop k) = (dcU (l.drop k)).1 :: runesU (l.drop (k + (dcU (l.drop k)).2)) := by
  rw [runesU_head (l := l.drop k) (by intro e; have := congrArg List.length e; simp at this; omega), List.drop_drop]
theorem runesU_end {l : List UInt8} {k : Nat} (h : ¬ k < l.length) : runesU (l.drop k) = [] := by
  rw [List.drop_eq_nil_of_le (by omega)]; rfl
theorem runesU_len (n : Nat) : ∀ (l : List UInt8), l.length ≤ n → (runesU l).length ≤ l.length := by
  induction n with
  | zero => intro l h; obtain rfl : l = [] := List.eq_nil_of_length_eq_zero (by omega); simp [runesU_nil]
  | succ n ih =>
    intro l h
    by_cases hl : l = []
    · subst hl; simp [runesU_nil]
    · have hw := dcU_w hl
      have := ih (l.drop (dcU l).2) (by rw [List.length_drop]; omega)
      rw [runesU_head hl, List.length_cons]
      rw [List.length_drop] at this
      omega
theorem runesU_le (l : List UInt8) : (runesU l).length ≤ l.length := runesU_len _ l (Nat.le_refl _)
/-! ### Put together -/
theorem dcU_low {c : UInt8} (l : List UInt8) (h : c.toNat < 128) : dcU (c :: l) = (c.toNat, 1) := by
  unfold dcU Lib.decodeN
  simp [h]
theorem runesU_low {c : UInt8} (l : List UInt8) (h : c.toNat < 128) : runesU (c :: l) = c.toNat :: runesU l := by
  rw [runesU_head (by simp), dcU_low l h]; rfl
theorem decN_cut (n m b0 b1 b2 b3 c1 c2 c3 : Nat) (hn : 1 ≤ n) (hm : n < m) (h1 : 1 < n → c1 = b1) (h2 : 2 < n → c2 = b2) (h3 : 3 < n → c3 = b3)
    (e1 : n = 1 → c1 < 128) (e2 : n = 2 → c2 < 128) (e3 : n = 3 → c3 < 128) : Lib.decodeN m b0 c1 c2 c3 = Lib.decodeN n b0 b1 b2 b3 := by
  have cut : ∀ k (b c : Nat), (k < n → c = b) → (n = k → c < 128) → (k < m ∧ c / 64 = 2 → k ≤ n) → ((k < m ∧ c / 64 = 2) ↔ (k < n ∧ b / 64 = 2)) := by
    intro k b c h e g
    constructor
    · intro ⟨h4, h5⟩
      have := g ⟨h4, h5⟩
      by_cases hk : k < n
      · exact ⟨hk, by rw [← h hk]; exact h5⟩
      · have := e (by omega); omega
    · intro ⟨h4, h5⟩
      exact ⟨by omega, by rw [h h4]; exact h5⟩
  have q1 := cut 1 b1 c1 h1 e1 (fun _ => hn)
  unfold Lib.decodeN
  by_cases hb : b0 < 128
  · simp [hb]
  · simp only [hb, if_false]
    by_cases p1 : 1 < n ∧ b1 / 64 = 2
    · have r1 := q1.2 p1
      obtain rfl := h1 p1.1
      have q2 := cut 2 b2 c2 h2 e2 (fun _ => p1.1)
      by_cases p2 : 2 < n ∧ b2 / 64 = 2
      · have r2 := q2.2 p2
        obtain rfl := h2 p2.1
        have q3 := cut 3 b3 c3 h3 e3 (fun _ => p2.1)
        by_cases p3 : 3 < n ∧ b3 / 64 = 2
        · have r3 := q3.2 p3
          obtain rfl := h3 p3.1
          simp only [p1, r1, p2, r2, p3, r3]
        · have r3 : ¬ (3 < m ∧ c3 / 64 = 2) := fun h => p3 (q3.1 h)
          simp only [p1, r1, p2, r2, p3, r3, and_false, if_false]
      · have r2 : ¬ (2 < m ∧ c2 / 64 = 2) := fun h => p2 (q2.1 h)
        simp only [p1, r1, p2, r2, and_false, false_and, if_false]
    · have r1 : ¬ (1 < m ∧ c1 / 64 = 2) := fun h => p1 (q1.1 h)
      simp only [p1, r1, and_false, false_and, if_false]
theorem dcU_app {a : List UInt8} {c : UInt8} (b : List UInt8) (ha : a ≠ []) (h : c.toNat < 128) : dcU (a ++ c :: b) = dcU a := by
  have hp := List.length_pos_iff.2 ha
  unfold dcU
  have lt : ∀ i, i < a.length → (a ++ c :: b).getD i 0 = a.getD i 0 := by
    intro i hi
    simp only [List.getD_eq_getElem?_getD]
    rw [List.getElem?_append_left hi]
  have at_ : ∀ i, a.length = i → ((a ++ c :: b).getD i 0).toNat < 128 := by
    intro i hi
    simp only [List.getD_eq_getElem?_getD]
    rw [List.getElem?_append_right (by omega)]
    simpa [hi] using h
  rw [lt 0 hp]
  exact decN_cut _ _ _ _ _ _ _ _ _ hp (by rw [List.length_append, List.length_cons]; omega) (fun h => by rw [lt 1 h]) (fun h => by rw [lt 2 h]) (fun h => by rw [lt 3 h]) (at_ 1) (at_ 2) (at_ 3)
theorem runesU_appN {c : UInt8} (b : List UInt8) (h : c.toNat < 128) (n : Nat) : ∀ a : List UInt8, a.length ≤ n → runesU (a ++ c :: b) = runesU a ++ c.toNat :: runesU b := by
  induction n with
  | zero => intro a hl; obtain rfl : a = [] := List.eq_nil_of_length_eq_zero (by omega); exact runesU_low b h
  | succ n ih =>
    intro a hl
    by_cases ha : a = []
    · subst ha; exact runesU_low b h
    · have hw := dcU_w ha
      rw [runesU_head (l := a ++ c :: b) (by simp), runesU_head ha, dcU_app b ha h, List.drop_append_of_le_length hw.2, ih _ (by rw [List.length_drop]; omega)]
      rfl
theorem runesU_app {c : UInt8} (a b : List UInt8) (h : c.toNat < 128) : runesU (a ++ c :: b) = runesU a ++ c.toNat :: runesU b := runesU_appN b h _ a (Nat.le_refl _)

/-! ### The bytes of runes -/
end Go.Proofs.Ytjbpccbafldgkaa


namespace Go.Proofs.Ytjbpccbafldgkaa
set_option linter.unusedVariables false
set_option linter.unusedSimpArgs false
set_option maxRecDepth 100000

/-- A to Z are a to z -/
def smU (r : Nat) : Nat := if 65 ≤ r ∧ r ≤ 90 then r + 32 else r
def foldU (l : List UInt8) : List Nat := (runesU l).map smU
theorem foldU_le (l : List UInt8) : (foldU l).length ≤ l.length := by unfold foldU; rw [List.length_map]; exact runesU_le l

/-- whether the runes p match the runes t -/
def mtG : List Nat → List Nat → Bool
  | [], t => t.isEmpty
  | c :: p, t => if c = 37 then (List.range (t.length + 1)).any fun k => mtG p (t.drop k) else
    match t with
    | [] => false
    | x :: t' => (c == 95 || c == x) && mtG p t'
def matchU (p s : List UInt8) : Bool := mtG (foldU p) (foldU s)

theorem mtG_nil (t : List Nat) : mtG [] t = true ↔ t = [] := by simp [mtG]
theorem mtG_many (p t : List Nat) : mtG (37 :: p) t = true ↔ ∃ k, k ≤ t.length ∧ mtG p (t.drop k) = true := by
  simp only [mtG, if_true, List.any_eq_true, List.mem_range]
  constructor
  · rintro ⟨k, h1, h2⟩; exact ⟨k, by omega, h2⟩
  · rintro ⟨k, h1, h2⟩; exact ⟨k, by omega, h2⟩
theorem mtG_one {c : Nat} (p t : List Nat) (h : c ≠ 37) : mtG (c :: p) t = true ↔ ∃ x t', t = x :: t' ∧ (c = 95 ∨ c = x) ∧ mtG p t' = true := by
  simp only [mtG, if_neg h]
  cases t with
  | nil => simp
  | cons x t =>
    simp only [Bool.and_eq_true, Bool.or_eq_true, beq_iff_eq]
    constructor
    · rintro ⟨h1, h2⟩; exact ⟨x, t, rfl, h1, h2⟩
    · rintro ⟨y, u, h1, h2, h3⟩
      simp only [List.cons.injEq] at h1
      obtain ⟨rfl, rfl⟩ := h1
      exact ⟨h2, h3⟩
theorem mtG_app : ∀ (p q t : List Nat), mtG (p ++ q) t = true ↔ ∃ k, k ≤ t.length ∧ mtG p (t.take k) = true ∧ mtG q (t.drop k) = true
  | [], q, t => by
    constructor
    · intro h; exact ⟨0, by omega, by simp [mtG], h⟩
    · rintro ⟨k, h1, h2, h3⟩
      rw [mtG_nil] at h2
      have : k = 0 ∨ t = [] := by
        rcases List.take_eq_nil_iff.1 h2 with h | h
        · exact .inl h
        · exact .inr h
      rcases this with rfl | rfl
      · exact h3
      · simpa using h3
  | c :: p, q, t => by
    by_cases hc : c = 37
    · subst hc
      rw [List.cons_append, mtG_many]
      constructor
      · rintro ⟨k, h1, h2⟩
        obtain ⟨m, h3, h4, h5⟩ := (mtG_app p q _).1 h2
        rw [List.length_drop] at h3
        refine ⟨k + m, by omega, ?_, by rwa [List.drop_drop] at h5⟩
        rw [mtG_many]
        refine ⟨k, by rw [List.length_take]; omega, ?_⟩
        rw [List.drop_take, show k + m - k = m by omega]
        exact h4
      · rintro ⟨k, h1, h2, h3⟩
        rw [mtG_many] at h2
        obtain ⟨m, h4, h5⟩ := h2
        rw [List.length_take] at h4
        refine ⟨m, by omega, (mtG_app p q _).2 ⟨k - m, by rw [List.length_drop]; omega, ?_, ?_⟩⟩
        · rw [List.drop_take] at h5; exact h5
        · rw [List.drop_drop, show m + (k - m) = k by omega]; exact h3
    · rw [List.cons_append, mtG_one _ _ hc]
      constructor
      · rintro ⟨x, t', rfl, h1, h2⟩
        obtain ⟨k, h3, h4, h5⟩ := (mtG_app p q _).1 h2
        exact ⟨k + 1, by simp; omega, (mtG_one _ _ hc).2 ⟨x, t'.take k, rfl, h1, h4⟩, h5⟩
      · rintro ⟨k, h1, h2, h3⟩
        obtain ⟨x, t', h4, h5, h6⟩ := (mtG_one _ _ hc).1 h2
        cases t with
        | nil => simp at h4
        | cons y t =>
          cases k with
          | zero => simp at h4
          | succ k =>
            simp only [List.take_succ_cons, List.cons.injEq] at h4
            obtain ⟨rfl, rfl⟩ := h4
            simp only [List.length_cons] at h1
            exact ⟨_, t, rfl, h5, (mtG_app p q _).2 ⟨k, by omega, h6, h3⟩⟩
theorem mtG_all (t : List Nat) : mtG [37] t = true := (mtG_many _ _).2 ⟨t.length, Nat.le_refl _, by simp [mtG]⟩
/-- p, any, q match s, one, u -/
theorem mtG_join {p q s u : List Nat} (x : Nat) (h1 : mtG p s = true) (h2 : mtG q u = true) : mtG (p ++ 37 :: q) (s ++ x :: u) = true := by
  refine (mtG_app _ _ _).2 ⟨s.length, by simp, by simpa using h1, ?_⟩
  rw [List.drop_left]
  exact (mtG_many _ _).2 ⟨1, by simp, by simpa using h2⟩
theorem mtG_around {p s : List Nat} (h1 : mtG p s = true) : mtG (37 :: (p ++ [37])) s = true := by
  refine (mtG_many _ _).2 ⟨0, by omega, ?_⟩
  exact (mtG_app _ _ _).2 ⟨s.length, Nat.le_refl _, by simpa using h1, mtG_all _⟩
/-! ### The way by beginnings -/
/-! ### The way by the last any -/
/-- the state of the program's way: at, place, and, where there was a any, behind the last one: b and taken -/
def stG (P T : List Nat) (at_ place : Nat) (back : Int) (taken : Nat) : Prop :=
  (back = -1 ∧ taken = 0 ∧ (mtG P T = true ↔ mtG (P.drop at_) (T.drop place) = true)) ∨
  ∃ b : Nat, back = b ∧ b ≤ at_ ∧ taken ≤ place ∧ place - taken = at_ - b ∧ (∀ j, b ≤ j → j < at_ → P[j]? ≠ some 37) ∧
    (mtG P T = true ↔ ∃ j, taken ≤ j ∧ j ≤ T.length ∧ mtG (P.drop b) (T.drop j) = true) ∧ (mtG (P.drop b) (T.drop taken) = true ↔ mtG (P.drop at_) (T.drop place) = true)

theorem seg_at {P : List Nat} {a b i : Nat} (h4 : ∀ j, b ≤ j → j < a → P[j]? ≠ some 37) (h1 : b ≤ b + i) (h2 : b + i < a) (hl : i < (P.drop b).length) : (P.drop b)[i] ≠ 37 := by
  rw [List.getElem_drop]
  intro e
  rw [List.length_drop] at hl
  exact h4 (b + i) h1 h2 (by rw [List.getElem?_eq_getElem (by omega), e])
theorem stG_start (P T : List Nat) : stG P T 0 0 (-1) 0 := .inl ⟨rfl, rfl, by simp⟩
/-- runes without any take as many -/
theorem mtG_seg : ∀ (n : Nat) (p t : List Nat), n ≤ p.length → (∀ j, j < n → ∀ h : j < p.length, p[j] ≠ 37) → mtG p t = true → n ≤ t.length ∧ mtG (p.drop n) (t.drop n) = true
  | 0, p, t, _, _, h => ⟨by omega, h⟩
  | n + 1, [], t, hl, _, _ => by simp at hl
  | n + 1, c :: p, t, hl, hp, h => by
    have hc := hp 0 (by omega) (by simp)
    simp only [List.getElem_cons_zero] at hc
    obtain ⟨x, t', rfl, _, h2⟩ := (mtG_one _ _ hc).1 h
    simp only [List.length_cons] at hl
    obtain ⟨h3, h4⟩ := mtG_seg n p t' (by omega) (fun j hj hjl => by have := hp (j + 1) (by omega) (by simp; omega); simpa using this) h2
    exact ⟨by simp; omega, h4⟩
theorem dropG_at {l : List Nat} {i : Nat} (h : i < l.length) : l.drop i = l[i] :: l.drop (i + 1) := List.drop_eq_getElem_cons h

theorem stG_many {P T : List Nat} {a p k : Nat} {back : Int} (h : stG P T a p back k) (ha : a < P.length) (hp : p ≤ T.length) (hc : P[a] = 37) : stG P T (a + 1) p ((a + 1 : Nat) : Int) p := by
  right
  refine ⟨a + 1, rfl, Nat.le_refl _, Nat.le_refl _, by omega, fun j h1 h2 => by omega, ?_, Iff.rfl⟩
  have key : mtG (P.drop a) (T.drop p) = true ↔ ∃ j, p ≤ j ∧ j ≤ T.length ∧ mtG (P.drop (a + 1)) (T.drop j) = true := by
    rw [dropG_at ha, hc, mtG_many]
    constructor
    · rintro ⟨m, h1, h2⟩
      rw [List.length_drop] at h1
      rw [List.drop_drop] at h2
      exact ⟨p + m, by omega, by omega, h2⟩
    · rintro ⟨j, h1, h2, h3⟩
      exact ⟨j - p, by rw [List.length_drop]; omega, by rw [List.drop_drop, show p + (j - p) = j by omega]; exact h3⟩
  rcases h with ⟨_, _, h⟩ | ⟨b, _, h1, h2, h3, h4, h5, h6⟩
  · rw [h, key]
  · rw [h5]
    constructor
    · rintro ⟨j, h7, h8, h9⟩
      by_cases e : j = k
      · subst e; exact key.1 (h6.1 h9)
      · obtain ⟨g1, g2⟩ := mtG_seg (a - b) (P.drop b) (T.drop j) (by rw [List.length_drop]; omega) (fun i hi hl => by
          exact seg_at h4 (by omega) (by omega) hl) h9
        rw [List.length_drop] at g1
        rw [List.drop_drop, List.drop_drop, Nat.add_sub_cancel' h1] at g2
        rw [dropG_at ha, hc, mtG_many] at g2
        obtain ⟨m, g3, g4⟩ := g2
        rw [List.length_drop] at g3
        rw [List.drop_drop] at g4
        exact ⟨j + (a - b) + m, by omega, by omega, g4⟩
    · intro h7
      exact ⟨k, Nat.le_refl _, by omega, h6.2 (key.2 h7)⟩
theorem stG_one {P T : List Nat} {a p k : Nat} {back : Int} (h : stG P T a p back k) (ha : a < P.length) (hp : p < T.length) (hc : P[a] ≠ 37) (hm : P[a] = 95 ∨ P[a] = T[p]) : stG P T (a + 1) (p + 1) back k := by
  have key : mtG (P.drop a) (T.drop p) = true ↔ mtG (P.drop (a + 1)) (T.drop (p + 1)) = true := by
    rw [dropG_at ha, dropG_at hp, mtG_one _ _ hc]
    constructor
    · rintro ⟨x, t', h1, h2, h3⟩
      simp only [List.cons.injEq] at h1
      obtain ⟨_, rfl⟩ := h1
      exact h3
    · intro h3
      exact ⟨_, _, rfl, hm, h3⟩
  rcases h with ⟨h0, h1, h⟩ | ⟨b, h0, h1, h2, h3, h4, h5, h6⟩
  · exact .inl ⟨h0, h1, h.trans key⟩
  · have e1 : p + 1 - k = a + 1 - b := by clear h5 h6 key; omega
    refine .inr ⟨b, h0, Nat.le_succ_of_le h1, Nat.le_succ_of_le h2, e1, fun j h7 h8 => ?_, h5, h6.trans key⟩
    by_cases e : j = a
    · subst e; rw [List.getElem?_eq_getElem ha]; exact fun h => hc (Option.some.inj h)
    · exact h4 j h7 (by omega)
/-- here they do not match -/
theorem mtG_stop {P T : List Nat} {a p : Nat} (hp : p < T.length) (hno : ∀ h : a < P.length, P[a] ≠ 37 ∧ P[a] ≠ 95 ∧ P[a] ≠ T[p]) : mtG (P.drop a) (T.drop p) = false := by
  rw [Bool.eq_false_iff]
  intro e
  by_cases ha : a < P.length
  · obtain ⟨n1, n2, n3⟩ := hno ha
    rw [dropG_at ha, dropG_at hp, mtG_one _ _ n1] at e
    obtain ⟨x, t', h1, h2, _⟩ := e
    simp only [List.cons.injEq] at h1
    obtain ⟨rfl, _⟩ := h1
    rcases h2 with h2 | h2
    · exact n2 h2
    · exact n3 h2
  · rw [List.drop_eq_nil_of_le (by omega), mtG_nil] at e
    have := congrArg List.length e
    rw [List.length_drop] at this
    simp at this
    omega
theorem stG_back {P T : List Nat} {a p k b : Nat} (h : stG P T a p (b : Int) k) (hp : p < T.length) (hno : mtG (P.drop a) (T.drop p) = false) : stG P T b (k + 1) (b : Int) (k + 1) ∧ b ≤ a ∧ k ≤ p := by
  rcases h with ⟨h0, _, _⟩ | ⟨b', h0, h1, h2, h3, h4, h5, h6⟩
  · omega
  · obtain rfl : b = b' := by omega
    refine ⟨.inr ⟨b, rfl, Nat.le_refl _, Nat.le_refl _, by omega, fun j h7 h8 => by omega, ?_, Iff.rfl⟩, h1, h2⟩
    rw [h5]
    constructor
    · rintro ⟨j, h7, h8, h9⟩
      by_cases e : j = k
      · subst e
        rw [h6, hno] at h9
        cases h9
      · exact ⟨j, by omega, h8, h9⟩
    · rintro ⟨j, h7, h8, h9⟩
      exact ⟨j, by omega, h8, h9⟩
theorem stG_no {P T : List Nat} {a p k : Nat} {back : Int} (h : stG P T a p back k) (hb : back < 0) (hno : mtG (P.drop a) (T.drop p) = false) : mtG P T = false := by
  rcases h with ⟨_, _, h⟩ | ⟨b, h0, _⟩
  · rw [Bool.eq_false_iff]; intro e; rw [h, hno] at e; cases e
  · omega
theorem stG_end {P T : List Nat} {a k : Nat} {back : Int} (h : stG P T a T.length back k) (ha : a ≤ P.length) : mtG P T = mtG (P.drop a) [] := by
  have e0 : T.drop T.length = [] := by simp
  rcases h with ⟨_, _, h⟩ | ⟨b, h0, h1, h2, h3, h4, h5, h6⟩
  · rw [e0] at h
    rw [Bool.eq_iff_iff]; exact h
  · rw [e0] at h6
    rw [Bool.eq_iff_iff, h5]
    constructor
    · rintro ⟨j, h7, h8, h9⟩
      obtain ⟨g1, g2⟩ := mtG_seg (a - b) (P.drop b) (T.drop j) (by rw [List.length_drop]; omega) (fun i hi hl => by
        exact seg_at h4 (by omega) (by omega) hl) h9
      rw [List.length_drop] at g1
      obtain rfl : j = k := by omega
      exact h6.1 h9
    · intro h7
      exact ⟨k, Nat.le_refl _, h2, h6.2 h7⟩
theorem mtG_empty : ∀ p : List Nat, mtG p [] = p.all (fun c => c == 37)
  | [] => rfl
  | c :: p => by
    by_cases hc : c = 37
    · subst hc
      rw [List.all_cons, ← mtG_empty p]
      rw [Bool.eq_iff_iff, mtG_many]
      simp
    · simp [mtG, hc]

/-! ### What is ahead of the first mark -/
theorem foldU_app {c : UInt8} (a b : List UInt8) (h : c.toNat < 128) : foldU (a ++ c :: b) = foldU a ++ smU c.toNat :: foldU b := by
  unfold foldU; rw [runesU_app a b h]; simp
theorem matchU_all (s : List UInt8) : matchU [37] s = true := mtG_all _
theorem matchU_around {p s : List UInt8} (h : matchU p s = true) : matchU ([37] ++ p ++ [37]) s = true := by
  unfold matchU
  rw [show [37] ++ p ++ [(37 : UInt8)] = [] ++ 37 :: (p ++ 37 :: []) by simp, foldU_app _ _ (by decide), foldU_app _ _ (by decide)]
  exact mtG_around h
theorem matchU_join {p q s u : List UInt8} (h1 : matchU p s = true) (h2 : matchU q u = true) : matchU (p ++ [37] ++ q) (s ++ [124] ++ u) = true := by
  unfold matchU
  rw [show p ++ [37] ++ q = p ++ 37 :: q by simp, show s ++ [124] ++ u = s ++ 124 :: u by simp, foldU_app _ _ (by decide), foldU_app _ _ (by decide)]
  exact mtG_join _ h1 h2
theorem match_ex1 : matchU [97, 37, 95] [195, 164, 98] = false := by decide +kernel
theorem match_ex2 : matchU [97, 37, 95] [65, 120, 121] = true := by decide +kernel
end Go.Proofs.Ytjbpccbafldgkaa


namespace Go.Proofs.Ytjbpccbafldgkaa
set_option linter.unusedVariables false
set_option linter.unusedSimpArgs false
set_option maxRecDepth 100000
open Go.RowKit

/-- append of one value of one cell, which was stored in a new block first -/
theorem run_pushv (T E ty : TypeId) (z : Value) (by_ : Nat) (hT : Try.prog.underlying T = some (.slice E)) (hinfo : (Try.prog.info? E).map (fun i => (i.zero, i.size, i.bytes)) = some (some z, 1, by_)) (hz : z.cells.size = 1)
    (w0 : World) (B : Nat) (v u : Value) (xs : List Value) (hown : w0.ownsRow B E 1 v xs.length xs) (h1 : u.oneCell' = true) (hl : (xs.length + 1) * by_ ≤ 140737488355328) (hm : xs.length + 1 ≤ maxLen) (hB : B ≤ w0.heap.size) (g : Nat) (hg : g = w0.heap.size) :
    ∃ v' w', (Builtin.append_ #[T, T] ty #[v, .slice (some ⟨g, 0, none⟩) 1 1]).run Try.prog (w0.alloc (.cells #[u] E)) = .ok v' w' ∧ w'.ownsRow B E 1 v' (xs ++ [u]).length (xs ++ [u]) ∧ Fr (fun k => v.ownBlock = some k) w0 w' := by
  subst hg
  obtain ⟨i, hi, hz0, hz1, hz2⟩ := info_parts hinfo
  have ho : (w0.alloc (.cells #[u] E)).ownsRow B E 1 v xs.length xs := by
    refine ⟨hown.1, ?_⟩
    rcases hown.2 with h2 | ⟨g, cap, cur, hv, hb, hg, r⟩
    · exact .inl h2
    · exact .inr ⟨g, cap, cur, hv, hb, by rw [Below.heap_alloc _ _ _ (Array.getElem?_eq_some_iff.1 hg).1]; exact hg, r⟩
  obtain ⟨v', w', hr, h2, h3, h4⟩ := run_append_own (P := Try.prog) (w0.alloc (.cells #[u] E)) B T ty E i z 1 by_ hT hi hz0 hz1 hz2 hz (by omega) v xs.length xs ho ⟨w0.heap.size, 0, none⟩ 1 1 [u] rfl
    (fun j x hj => by
      cases j with
      | zero =>
        obtain rfl : u = x := by simpa using hj
        exact cell_new1 _ _ _
      | succ j => simp at hj)
    (fun x hx => by obtain rfl : x = u := by simpa using hx
                    exact h1) hm hl (by simp; omega)
  refine ⟨v', w', hr, by simpa using h2, ?_⟩
  exact ((Fr.refl _ _).alloc _).join (Fr.of_grown h3) fun k hk e => e.symm ▸ rfl

theorem row_keep {w w' : World} {B : Nat} {E : TypeId} {n : Nat} {v : Value} {xs : List Value} (h : w.ownsRow B E 1 v n xs) (hk : ∀ k, v.ownBlock = some k → w'.heap[k]? = w.heap[k]?) : w'.ownsRow B E 1 v n xs := by
  refine ⟨h.1, ?_⟩
  rcases h.2 with h2 | ⟨g, cap, cur, hv, hb, hg, r⟩
  · exact .inl h2
  · exact .inr ⟨g, cap, cur, hv, hb, by rw [hk g (by rw [hv]; rfl)]; exact hg, r⟩
theorem row_lt {w : World} {B : Nat} {E : TypeId} {n : Nat} {v : Value} {xs : List Value} (h : w.ownsRow B E 1 v n xs) : ∀ k, v.ownBlock = some k → B ≤ k ∧ k < w.heap.size := World.ownsRow.lt h
theorem row_mono {w : World} {B B' : Nat} {E : TypeId} {n : Nat} {v : Value} {xs : List Value} (h : w.ownsRow B E 1 v n xs) (hB : B' ≤ B) : w.ownsRow B' E 1 v n xs := by
  refine ⟨h.1, ?_⟩
  rcases h.2 with h2 | ⟨g, cap, cur, hv, hb, r⟩
  · exact .inl h2
  · exact .inr ⟨g, cap, cur, hv, by omega, r⟩

/-! ### Whole numbers in a row of the call's own -/
def iv (n : Int) : Value := .int .i64 n
def OwnI (w : World) (B : Nat) (v : Value) (l : List Int) : Prop := w.ownsRow B 3 1 v (l.map iv).length (l.map iv)
theorem OwnI.non {w w' : World} {B : Nat} {v : Value} {l : List Int} (h : OwnI w B v l) (hf : Fr Non w w') : OwnI w' B v l := row_keep h fun k hk => hf.block k (row_lt h k hk).2 fun e => e
theorem OwnI.fr {S : Nat → Prop} {w w' : World} {B : Nat} {v : Value} {l : List Int} (h : OwnI w B v l) (hf : Fr S w w') (hn : ∀ k, v.ownBlock = some k → ¬ S k) : OwnI w' B v l := row_keep h fun k hk => hf.block k (row_lt h k hk).2 (hn k hk)
theorem OwnI.cell {w : World} {B : Nat} {v : Value} {l : List Int} (h : OwnI w B v l) {g n c : Nat} (hv : v = .slice (some ⟨g, 0, none⟩) n c) (j : Nat) (hj : j < l.length) : w.cell? ⟨g, j, none⟩ = some (.int .i64 l[j]) := by
  subst hv
  have := World.ownsRow.cells h (g := g) rfl j (iv l[j]) (by simp [hj])
  rwa [Addr.add_lit, Nat.zero_add] at this
end Go.Proofs.Ytjbpccbafldgkaa


namespace Go.Proofs.Ytjbpccbafldgkaa
set_option linter.unusedVariables false
set_option linter.unusedSimpArgs false
set_option maxRecDepth 100000
open Go.RowKit

/-- the slice v reads as the list l, each element's cell being f of it -/
def Vs {α : Type} (f : α → Value) (w : World) (v : Value) (l : List α) : Prop :=
  ∃ A c, v = .slice A l.length c ∧ l.length ≤ c ∧ (A = none → c = 0) ∧ ∀ a, A = some a → ∀ j (h : j < l.length), w.cell? (a.add j) = some (f l[j])
/-- a row of the call's own, from block B on, of elements of type E -/
def Ow {α : Type} (f : α → Value) (E : TypeId) (w : World) (B : Nat) (v : Value) (l : List α) : Prop := w.ownsRow B E 1 v l.length (l.map f)

/-- T: slices of E, whose elements have one cell -/
structure El (T E : TypeId) (z : Value) (by_ : Nat) : Prop where
  under : Try.prog.underlying T = some (.slice E)
  info : (Try.prog.info? E).map (fun i => (i.zero, i.size, i.bytes)) = some (some z, 1, by_)
  cells : z.cells = #[z]
  small : by_ ≤ 64
  elem : Try.prog.elem T = E
  sz : ∀ w, (sizeOf (Try.prog.elem T)).run Try.prog w = .ok 1 w

section
variable {α : Type} {f : α → Value}

theorem Vs.nil_ (w : World) : Vs f w (.slice none 0 0) [] := ⟨none, 0, rfl, Nat.le_refl _, fun _ => rfl, fun _ h => by cases h⟩
theorem Vs.keep {w w' : World} {v : Value} {l : List α} (h : Vs f w v l) (hk : ∀ k, v.ownBlock = some k → k < w.heap.size → w'.heap[k]? = w.heap[k]?) : Vs f w' v l := by
  obtain ⟨A, c, rfl, h1, h2, h3⟩ := h
  refine ⟨A, c, rfl, h1, h2, fun a ha j hj => ?_⟩
  have := h3 a ha j hj
  subst ha
  have hb := World.block_lt_of_cell? w _ this
  rw [add_block] at hb
  rw [← this]
  exact World.cell?_of_block (by rw [add_block]; exact hk _ rfl hb)
theorem Vs.fr {S : Nat → Prop} {w w' : World} {v : Value} {l : List α} (h : Vs f w v l) (hf : Fr S w w') (hn : ∀ k, v.ownBlock = some k → ¬ S k) : Vs f w' v l :=
  h.keep fun k hk hlt => hf.block k hlt (hn k hk)
theorem Vs.non {w w' : World} {v : Value} {l : List α} (h : Vs f w v l) (hf : Fr Non w w') : Vs f w' v l := h.fr hf fun _ _ e => e
theorem Vs.drewN {w : World} {v : Value} {l : List α} (h : Vs f w v l) (n : Nat) : Vs f (w.drewN n) v l := h
variable {E : TypeId}
theorem ow_nil (w : World) (B : Nat) : Ow f E w B (.slice none 0 0) [] := ⟨by simp, .inl ⟨rfl, rfl⟩⟩
theorem Ow.lt {w : World} {B : Nat} {v : Value} {l : List α} (h : Ow f E w B v l) : ∀ k, v.ownBlock = some k → B ≤ k ∧ k < w.heap.size := World.ownsRow.lt h
theorem Ow.vs {w : World} {B : Nat} {v : Value} {l : List α} (h : Ow f E w B v l) : Vs f w v l := by
  rcases h.2 with ⟨rfl, h0⟩ | ⟨g, cap, cur, rfl, _, _, hle, _, _, _⟩
  · have hl : l = [] := List.eq_nil_of_length_eq_zero h0
    subst hl; exact Vs.nil_ w
  · refine ⟨_, cap, rfl, hle, (fun h => by cases h), fun a ha j hj => ?_⟩
    cases ha
    exact World.ownsRow.cells h (g := g) rfl j _ (by simp [hj])
theorem Ow.keep {w w' : World} {B : Nat} {v : Value} {l : List α} (h : Ow f E w B v l) (hk : ∀ k, v.ownBlock = some k → w'.heap[k]? = w.heap[k]?) : Ow f E w' B v l := row_keep h hk
theorem Ow.fr {S : Nat → Prop} {w w' : World} {B : Nat} {v : Value} {l : List α} (h : Ow f E w B v l) (hf : Fr S w w') (hn : ∀ k, v.ownBlock = some k → ¬ S k) : Ow f E w' B v l :=
  h.keep fun k hk => hf.block k (h.lt k hk).2 (hn k hk)
theorem Ow.non {w w' : World} {B : Nat} {v : Value} {l : List α} (h : Ow f E w B v l) (hf : Fr Non w w') : Ow f E w' B v l := h.fr hf fun _ _ e => e
theorem Ow.alloc {w : World} {B : Nat} {v : Value} {l : List α} (h : Ow f E w B v l) (o : Obj) : Ow f E (w.alloc o) B v l := h.non ((Fr.refl _ _).alloc o)
theorem Ow.drewN {w : World} {B : Nat} {v : Value} {l : List α} (h : Ow f E w B v l) (n : Nat) : Ow f E (w.drewN n) B v l := h
theorem Ow.mono {w : World} {B B' : Nat} {v : Value} {l : List α} (h : Ow f E w B v l) (hB : B' ≤ B) : Ow f E w B' v l := row_mono h hB
/-- where it has an element, it stands at a row's head -/
theorem Ow.row {w : World} {B : Nat} {v : Value} {l : List α} (h : Ow f E w B v l) (hn : 0 < l.length) : ∃ g cap, v = .slice (some ⟨g, 0, none⟩) l.length cap ∧ B ≤ g ∧ g < w.heap.size ∧ l.length ≤ cap ∧ cap ≤ maxLen := by
  rcases h.2 with ⟨rfl, h0⟩ | ⟨g, cap, cur, rfl, hb, hg, hle, hm, _⟩
  · omega
  · exact ⟨g, cap, rfl, hb, (Array.getElem?_eq_some_iff.1 hg).1, hle, hm⟩
theorem Ow.cell {w : World} {B g n cap : Nat} {l : List α} (h : Ow f E w B (.slice (some ⟨g, 0, none⟩) n cap) l) (hn : n = l.length) (j : Nat) (x : α) (hb : l[j]? = some x) : w.cell? ⟨g, j, none⟩ = some (f x) := by
  subst hn
  have hj : j < l.length := (List.getElem?_eq_some_iff.1 hb).1
  rw [World.ownsRow.cellAt h j (by omega), List.getElem?_map, hb]; rfl
/-! ### Steps -/
variable {T : TypeId} {z : Value} {by_ : Nat}
/-- append of one element, which was stored in a new block first -/
theorem wpList_pushG (hE : El T E z by_) (hf1 : ∀ x, (f x).oneCell' = true) {w0 : World} {ops : Array Oper} {rest : List Oper} {o : Oper} {a : Act} {Q : Exit → Act → World → Prop} (hgd : o.guard = none) (s x : Operand)
    (ho : o.op = .call { callee := .builtin .append, args := #[s, x], argTypes := #[T, T] })
    (B : Nat) (v : Value) (l : List α) (hs : a.eval s = v) (hown : Ow f E w0 B v l) (u : Value) (y : α) (hu : u = f y) (hx : a.eval x = .slice (some ⟨w0.heap.size, 0, none⟩) 1 1)
    (hl : l.length < 1099511627776) (hB : B ≤ w0.heap.size)
    (h : ∀ v' w', Ow f E w' B v' (l ++ [y]) → Fr (fun k => v.ownBlock = some k) w0 w' → wpList Try.prog ops Q rest (a.put o.dst v') w') :
    wpList Try.prog ops Q (o :: rest) a (w0.alloc (.cells #[u] E)) := by
  subst hu
  have hown' : w0.ownsRow B E 1 v (l.map f).length (l.map f) := by rw [List.length_map]; exact hown
  have hs' := hE.small
  have hbl : ((l.map f).length + 1) * by_ ≤ 140737488355328 := by
    rw [List.length_map]
    have := Nat.mul_le_mul (show l.length + 1 ≤ 1099511627776 by omega) hs'
    omega
  obtain ⟨v', w', hr, h1, h2⟩ := run_pushv T E o.type z by_ hE.under hE.info (by rw [hE.cells]; rfl) w0 B v (f y) (l.map f) hown' (hf1 y) hbl (by rw [List.length_map]; unfold maxLen; omega) hB w0.heap.size rfl
  refine wpList_plain hgd fun K hK => ?_
  unfold Oper.wp execOp
  simp only [ho, resolve, invoke, builtin, Sem.run_bind, Sem.run_pure, Result.andThen_ok, List.map_toArray, List.map_cons, List.map_nil, hs, hx, hr]
  refine hK _ _ (h v' w' ?_ h2)
  unfold Ow
  simpa [List.map_append] using h1

/-! ### Pieces -/
theorem slice_loG (hE : El T E z by_) (A : Option Addr) (n c k : Nat) (kl : IntKind) (y : Int) (hy : y = (k : Int)) (hk : k ≤ n) (hn : n ≤ c) :
    ∃ A' c', (∀ W, (Instr.slice T (.slice A n c) (some (.int kl y)) none none).run Try.prog W = .ok (.slice A' (n - k) c') W) ∧
      (∀ {α : Type} (f : α → Value) W (l : List α), l.length = n → Vs f W (.slice A n c) l → Vs f W (.slice A' (n - k) c') (l.drop k)) ∧ (Value.slice A' (n - k) c').ownBlock = (Value.slice A n c).ownBlock := by
  subst hy
  refine ⟨if c = k then A else A.map (·.add k), c - k, fun W => ?_, ?_, ?_⟩
  · rw [run_slice_any W T A n c (by rw [hE.elem]; exact hE.under)]
    have hb : (Instr.sliceBounds true n c (some (.int kl (k : Int))) none none).run Try.prog W = .ok (k, n, c) W := by
      simp [Instr.sliceBounds, run_sliceBound, hk, hn]
    rw [hb]
    simp only [Result.andThen_ok, hE.sz]
    simp [sliced]
  · rintro α f W l hl ⟨A0, c0, he, h1, h2, h3⟩
    simp only [Value.slice.injEq] at he
    obtain ⟨rfl, hl', rfl⟩ := he
    refine ⟨if c = k then A else A.map (·.add k), c - k, by rw [List.length_drop, hl], by rw [List.length_drop]; omega, fun e => ?_, fun a ha j hj => ?_⟩
    · split at e
      · have := h2 e; omega
      · have := h2 (by simpa using e); omega
    · rw [List.length_drop] at hj
      rw [if_neg (by omega)] at ha
      cases A with
      | none => cases ha
      | some b =>
        obtain rfl : b.add k = a := by simpa using ha
        rw [add_add, h3 b rfl (k + j) (by omega)]
        simp
  · split
    · cases A <;> rfl
    · cases A <;> simp [Value.ownBlock, add_block]

end

/-! ### Truths, whole numbers, bytes -/
theorem Bs.vs {w : World} {v : Value} {l : List UInt8} (h : Bs w v l) : Vs bv w v l := h
theorem Ow.own {w : World} {B : Nat} {v : Value} {l : List UInt8} (h : Ow bv 5 w B v l) : Own w B v l := h

end Go.Proofs.Ytjbpccbafldgkaa


namespace Go.Proofs.Ytjbpccbafldgkaa
set_option linter.unusedVariables false
set_option linter.unusedSimpArgs false
set_option maxRecDepth 100000
open Go.RowKit

/-- a rune's cell -/
def ruv (n : Nat) : Value := .int .i32 (n : Int)
theorem ruv_one (n : Nat) : (ruv n).oneCell' = true := rfl
theorem el_rune : El 25 21 (.int .i32 0) 4 := ⟨Try.underlying25, by kernel_rfl, rfl, by decide, by kernel_rfl, fun _ => by kernel_rfl⟩

/-- in block k lies an iterator over the text l, at place p -/
def ItU (w : World) (k : Nat) (l : List UInt8) (p : Nat) : Prop := w.heap[k]? = some (.stringIter ⟨l.toArray⟩ p)
theorem sizeU (l : List UInt8) : ByteArray.size ⟨l.toArray⟩ = l.length := by simp [ByteArray.size]
theorem ItU.new (w : World) (l : List UInt8) : ItU (w.iter ⟨l.toArray⟩ 0) w.heap.size l 0 := World.iter_heap w _ 0
theorem ItU.pos {w : World} {k p : Nat} {l : List UInt8} (h : ItU w k l p) : w.iterPos k = p := by
  unfold ItU at h; simp [World.iterPos, h]
theorem ItU.lt {w : World} {k p : Nat} {l : List UInt8} (h : ItU w k l p) : k < w.heap.size := (Array.getElem?_eq_some_iff.1 h).1
theorem ItU.fr {S : Nat → Prop} {w w' : World} {k p : Nat} {l : List UInt8} (h : ItU w k l p) (hf : Fr S w w') (hn : ¬ S k) : ItU w' k l p := (hf.block k h.lt hn).trans h
theorem fr_iterAt (w : World) (k : Nat) (s : ByteArray) (p : Nat) : Fr (One k) w (w.iterAt k s p) :=
  ⟨rfl, rfl, rfl, by rw [Lib.iterAt_size]; exact Nat.le_refl _, fun j _ hj => Lib.iterAt_other w k j s p hj⟩
/-- a step of the range -/
theorem nextU (wr : World) (k p : Nat) (l : List UInt8) (h : ItU wr k l p) (hp : p < l.length) :
    ∃ W, (∀ ty, (Instr.next (.pointer (some ⟨k, 0, none⟩)) true ty).run Try.prog wr = .ok (.tuple #[.bool true, .int .i64 p, .int .i32 ((dcU (l.drop p)).1 : Int)]) W) ∧
      ItU W k l (p + (dcU (l.drop p)).2) ∧ Fr (One k) wr W := by
  refine ⟨wr.iterAt k ⟨l.toArray⟩ (p + (dcU (l.drop p)).2), fun ty => ?_, Lib.iterAt_heap wr k _ p _ h, fr_iterAt _ _ _ _⟩
  rw [← dcU_at]
  exact Lib.run_next_any_at wr k _ p ty h (by rw [sizeU]; exact hp)
theorem nextU_end (wr : World) (k p : Nat) (l : List UInt8) (h : ItU wr k l p) (hp : ¬ p < l.length) (ty : TypeId) :
    (Instr.next (.pointer (some ⟨k, 0, none⟩)) true ty).run Try.prog wr = .ok (.tuple #[.bool false]) wr :=
  Lib.run_next_end_at wr k _ p ty h (by rw [sizeU]; exact hp)
theorem okU_le {r : Nat} (h : okU r) : r ≤ 1114111 := by unfold okU at h; omega

theorem smU_lt {r : Nat} (h1 : 65 ≤ r) (h2 : r ≤ 90) : smU r = r + 32 := by unfold smU; rw [if_pos ⟨h1, h2⟩]
theorem smU_lo {r : Nat} (h1 : r < 65) : smU r = r := by unfold smU; rw [if_neg (by omega)]
theorem smU_hi {r : Nat} (h1 : 90 < r) : smU r = r := by unfold smU; rw [if_neg (by omega)]

theorem gsmall_any (r : Nat) (w : World) (hr : r ≤ 1114111) : Calls Try.prog 15 #[.int .i32 r] w fun e w' => e = .returned (.int .i32 (smU r : Nat)) ∧ w = w' := by
  by_cases h1 : 65 ≤ r
  · by_cases h2 : r ≤ 90
    · have H := Lib.hid (smU_lt h1 h2)
      have hb1 : decide ((65 : Int) ≤ (r : Int)) = true := by simp; omega
      have hb2 : decide ((r : Int) ≤ 90) = true := by simp; omega
      have hw1 : IntKind.i32.wrap ((r : Int) - 65) = (r : Int) - 65 := by simp [IntKind.wrap, IntKind.bits, IntKind.signed]; omega
      have hw2 : IntKind.i32.wrap ((r : Int) - 65 + 97) = ((r + 32 : Nat) : Int) := by simp [IntKind.wrap, IntKind.bits, IntKind.signed]; omega
      clear h1 h2
      go_enter Try.func15, Try.ntmps15
      go_wp2
      go_ret
      exact ⟨ret_int (by rw [H.out]; push_cast; omega), rfl⟩
    · have H := Lib.hid (smU_hi (r := r) (by omega))
      have hb1 : decide ((65 : Int) ≤ (r : Int)) = true := by simp; omega
      have hb2 : decide ((r : Int) ≤ 90) = false := by simp; omega
      clear h1 h2
      go_enter Try.func15, Try.ntmps15
      go_wp2
      go_ret
      exact ⟨ret_int (by rw [H.out]), rfl⟩
  · have H := Lib.hid (smU_lo (r := r) (by omega))
    have hb1 : decide ((65 : Int) ≤ (r : Int)) = false := by simp; omega
    clear h1
    go_enter Try.func15, Try.ntmps15
    go_wp2
    go_ret
    exact ⟨ret_int (by rw [H.out]), rfl⟩

/-- so many runes are folded -/
def fdU (l : List UInt8) (k : Nat) (d : List Nat) : Prop := foldU l = d ++ (runesU (l.drop k)).map smU ∧ d.length ≤ k
theorem fdU_zero (l : List UInt8) : fdU l 0 [] := ⟨by simp [foldU], by simp⟩
theorem fdU_more {l : List UInt8} {k : Nat} {d : List Nat} (h : fdU l k d) (hk : k < l.length) : fdU l (k + (dcU (l.drop k)).2) (d ++ [smU (dcU (l.drop k)).1]) ∧ 1 ≤ (dcU (l.drop k)).2 ∧ k + (dcU (l.drop k)).2 ≤ l.length ∧ okU (dcU (l.drop k)).1 := by
  have hne : l.drop k ≠ [] := by intro e; have := congrArg List.length e; simp at this; omega
  have hw := dcU_w hne
  rw [List.length_drop] at hw
  refine ⟨⟨?_, ?_⟩, hw.1, by omega, dcU_ok _⟩
  · rw [h.1, runesU_drop hk]; simp
  · have := h.2; rw [List.length_append]; simp; omega
theorem fdU_end {l : List UInt8} {k : Nat} {d : List Nat} (h : fdU l k d) (hk : ¬ k < l.length) : d = foldU l := by rw [h.1, runesU_end hk]; simp

set_option maxHeartbeats 1000000 in
theorem gfold_any (l : List UInt8) (w : World) (hl : l.length ≤ 1000000000) : Calls Try.prog 10 #[.string ⟨l.toArray⟩] w fun e w' => ∃ u, e = .returned u ∧ Ow ruv 21 w' w.heap.size u (foldU l) ∧ Fr Non w w' := by
  go_enter Try.func10, Try.ntmps10
  go_wp2
  go_loopw [3] (fun v wr => ∃ k d, k ≤ l.length ∧ ItU wr w.heap.size l k ∧ Ow ruv 21 wr (w.heap.size + 1) v d ∧ Fr Non w wr ∧ Hid (fdU l k d)) (fun _ wr => l.length - wr.iterPos w.heap.size)
  case atStart => exact ⟨0, [], by omega, ItU.new w l, ow_nil _ _, (Fr.refl _ _).alloc _, Lib.hid (fdU_zero l)⟩
  case round =>
    obtain ⟨k, d, hk, hit, hown, hfr, hd⟩ := hrel
    have hp0 := hit.pos
    by_cases hlt : k < l.length
    · obtain ⟨hm, hw1, hw2, hok⟩ := fdU_more hd.out hlt
      obtain ⟨W, hnx, hitW, hfW⟩ := nextU wr w.heap.size k l hit hlt
      have HSm := Lib.hid (fun V => gsmall_any (dcU (l.drop k)).1 V (okU_le hok))
      have hownW := hown.fr hfW (fun q hq e => by have := (hown.lt q hq).1; have : q = w.heap.size := e; omega)
      have hfrW := hfr.fresh hfW (fun q e => by have : q = w.heap.size := e; omega)
      have hdl := hd.out.2
      have HM := Lib.hid hm
      clear hd hit hown hfr hfW hok hm
      generalize (dcU (l.drop k)).1 = r at *
      generalize hq : k + (dcU (l.drop k)).2 = q at *
      have hkq : k < q := by omega
      clear hq hw1
      go_wp2_with fail
      refine (HSm.out _).mono ?_
      rintro e w1 ⟨rfl, rfl⟩
      clear HSm
      have hB := hitW.lt
      go_wp2_with (at_builtin; refine wpList_pushG el_rune ruv_one rfl (.tmp 11) (.tmp 14) rfl (w.heap.size + 1) _ d rfl hownW _ (smU r) rfl rfl (by omega) (by omega) ?_; intro v5 w5 hown5 hf5)
      have hit5 := hitW.fr hf5 (fun e => by have := (hownW.lt _ e).1; omega)
      have hfr5 := hfrW.fresh hf5 (fun q hq => by have := (hownW.lt q hq).1; omega)
      go_roundw
      case rel => exact ⟨q, _, hw2, hit5, hown5, hfr5, HM⟩
      case measure => rw [hp0, hit5.pos]; omega
    · have hnx := fun ty => nextU_end wr w.heap.size k l hit hlt ty
      have HE := Lib.hid (fdU_end hd.out hlt)
      clear hd
      go_wp2
      go_ret
      exact ⟨_, rfl, by rw [← HE.out]; exact hown.mono (by omega), hfr⟩

end Go.Proofs.Ytjbpccbafldgkaa


namespace Go.Proofs.Ytjbpccbafldgkaa
set_option linter.unusedVariables false
set_option linter.unusedSimpArgs false
set_option maxRecDepth 100000
open Go.RowKit

theorem empty_any (v : Value) (p : List Nat) (w : World) (hv : Vs ruv w v p) (hl : p.length ≤ 1000000000) : Calls Try.prog 16 #[v] w fun e w' => e = .returned (.bool (mtG p [])) ∧ w = w' := by
  rw [mtG_empty]
  obtain ⟨A, c, rfl, hlc, hn, hcell⟩ := hv
  have HC := Lib.hid hcell
  have HN := Lib.hid hn
  clear hcell hn
  go_enter Try.func16, Try.ntmps16
  go_wp2
  go_loop [7] (fun i => ∃ k : Nat, k ≤ p.length ∧ i = .int .i64 k ∧ Hid (∀ j (hj : j < p.length), j < k → p[j] = 37)) (fun i => p.length - (intOf i).toNat)
  case atStart => exact ⟨0, by omega, rfl, Lib.hid (fun _ _ h => by omega)⟩
  case round =>
    obtain ⟨k, hk, rfl, hok⟩ := hrel
    by_cases hlt : k < p.length
    · cases A with
      | none => have := HN.out rfl; omega
      | some a =>
        have hce := HC.out a rfl k hlt
        unfold ruv at hce
        by_cases h : p[k] = 37
        · have HM : Hid (∀ j (hj : j < p.length), j < k + 1 → p[j] = 37) := Lib.hid (fun j hj hlt2 => by
            by_cases e : j = k
            · subst e; exact h
            · exact hok.out j hj (by omega))
          have hb : ((p[k] : Nat) : Int) = 37 := by omega
          rw [hb] at hce
          clear h hb hok
          go_wp2
          go_roundw
          case rel => exact ⟨k + 1, by omega, by go_num, HM⟩
          case measure => simp [intOf]; omega
        · have HX : Hid (p.all (fun c => c == 37) = false) := Lib.hid (by
            rw [Bool.eq_false_iff]; intro e
            exact h (by simpa using List.all_eq_true.1 e _ (List.getElem_mem hlt)))
          have hb : (((p[k] : Nat) : Int) == 37) = false := by rw [beq_eq_false_iff_ne]; omega
          clear h hok
          generalize p[k] = x at *
          go_wp2
          go_ret
          exact ⟨ret_boolE HX.out.symm, rfl⟩
    · have HX : Hid (p.all (fun c => c == 37) = true) := Lib.hid (by
        rw [List.all_eq_true]; intro x hx
        obtain ⟨j, hj, rfl⟩ := List.mem_iff_getElem.1 hx
        simpa using hok.out j hj (by omega))
      clear hok
      go_wp2
      go_ret
      exact ⟨ret_boolE HX.out.symm, rfl⟩

end Go.Proofs.Ytjbpccbafldgkaa


namespace Go.Proofs.Ytjbpccbafldgkaa
set_option linter.unusedVariables false
set_option linter.unusedSimpArgs false
set_option maxRecDepth 100000
open Go.RowKit

/-- the measure of the way: what is left to take, and of the pattern -/
def msG (P T a k : Nat) : Nat := (T - k) * (P + 1) + (P - a)
theorem msG_at {P T a k : Nat} (ha : a < P) : msG P T (a + 1) k < msG P T a k := by unfold msG; omega
theorem msG_more {P T a k p : Nat} (ha : a < P) (hk : k ≤ p) : msG P T (a + 1) p < msG P T a k := by
  unfold msG
  have := Nat.mul_le_mul_right (P + 1) (show T - p ≤ T - k by omega)
  omega
theorem msG_back {P T a b k : Nat} (hk : k < T) : msG P T b (k + 1) < msG P T a k := by
  unfold msG
  have e : T - k = (T - (k + 1)) + 1 := by omega
  rw [e, Nat.succ_mul]
  omega
theorem stG_k {P T : List Nat} {a p k : Nat} {back : Int} (h : stG P T a p back k) : k ≤ p ∧ (back < 0 ∨ ∃ b : Nat, back = b ∧ b ≤ a) := by
  rcases h with ⟨h0, h1, _⟩ | ⟨b, h0, h1, h2, _⟩
  · exact ⟨by omega, .inl (by omega)⟩
  · exact ⟨h2, .inr ⟨b, h0, h1⟩⟩

set_option maxHeartbeats 2000000 in
theorem matches_any (v u : Value) (P T : List Nat) (w : World) (hv : Vs ruv w v P) (hu : Vs ruv w u T) (hl : P.length ≤ 1000000000) (hlt : T.length ≤ 1000000000) :
    Calls Try.prog 14 #[v, u] w fun e w' => e = .returned (.bool (mtG P T)) ∧ Fr Non w w' := by
  have HV := Lib.hid hv
  have HU := Lib.hid hu
  obtain ⟨A, c, rfl, hlc, hn, hcell⟩ := hv
  obtain ⟨A2, c2, rfl, hlc2, hn2, hcell2⟩ := hu
  have HC := Lib.hid hcell
  have HC2 := Lib.hid hcell2
  have HN := Lib.hid hn
  have HN2 := Lib.hid hn2
  clear hcell hn hcell2 hn2
  go_enter Try.func14, Try.ntmps14
  go_wp2
  go_loopw [5, 6, 7, 8] (fun ia ip ib ik wr => ∃ (a p k : Nat) (back : Int), a ≤ P.length ∧ p ≤ T.length ∧ ia = .int .i64 a ∧ ip = .int .i64 p ∧ ib = .int .i64 back ∧ ik = .int .i64 k ∧ Hid (stG P T a p back k) ∧ Fr Non w wr) (fun ia _ _ ik _ => msG P.length T.length (intOf ia).toNat (intOf ik).toNat)
  case atStart => exact ⟨0, 0, 0, -1, by omega, by omega, rfl, rfl, rfl, rfl, Lib.hid (stG_start P T), Fr.refl _ _⟩
  case round =>
    obtain ⟨a, p, k, back, ha, hp, rfl, rfl, rfl, rfl, hst, hfr⟩ := hrel
    obtain ⟨hkp, hba⟩ := stG_k hst.out
    have HB := Lib.hid hba
    have HF := Lib.hid hfr
    clear hba hfr
    by_cases hpl : p < T.length
    · obtain ⟨q2, rfl⟩ : ∃ q, A2 = some q := by
        cases A2 with
        | none => have := HN2.out rfl; omega
        | some q => exact ⟨q, rfl⟩
      have hcT := HF.out.cell (World.block_lt_of_cell? w _ (HC2.out q2 rfl p hpl)) (fun e => e) |>.trans (HC2.out q2 rfl p hpl)
      unfold ruv at hcT
      -- behind the last any, or nowhere
      by_cases hal : a < P.length
      · obtain ⟨q1, rfl⟩ : ∃ q, A = some q := by
          cases A with
          | none => have := HN.out rfl; omega
          | some q => exact ⟨q, rfl⟩
        have hcP := HF.out.cell (World.block_lt_of_cell? w _ (HC.out q1 rfl a hal)) (fun e => e) |>.trans (HC.out q1 rfl a hal)
        unfold ruv at hcP
        by_cases h37 : P[a] = 37
        · have HS := Lib.hid (stG_many hst.out hal hp h37)
          have HM := Lib.hid (msG_more (P := P.length) (T := T.length) hal hkp)
          have hb : ((P[a] : Nat) : Int) = 37 := by omega
          rw [hb] at hcP
          clear hb h37 hst
          go_wp2
          go_roundw
          case rel => exact ⟨a + 1, p, p, ((a + 1 : Nat) : Int), by omega, hp, by go_num, rfl, by go_num, rfl, HS, HF.out⟩
          case measure => simpa [intOf] using HM.out
        · have hb : (((P[a] : Nat) : Int) == 37) = false := by rw [beq_eq_false_iff_ne]; omega
          by_cases hm : P[a] = 95 ∨ P[a] = T[p]
          · have HS := Lib.hid (stG_one hst.out hal hpl h37 hm)
            have HM := Lib.hid (msG_at (P := P.length) (T := T.length) (k := k) hal)
            clear h37 hst HB
            by_cases h95 : P[a] = 95
            · have hb2 : ((P[a] : Nat) : Int) = 95 := by omega
              rw [hb2] at hcP
              clear hb hb2 h95 hm
              generalize T[p] = x at *
              go_wp2
              go_quiet (fail)
              go_wp2
              go_roundw
              case rel => exact ⟨a + 1, p + 1, k, back, by omega, by omega, by go_num, by go_num, rfl, rfl, HS, HF.out.drewN _⟩
              case measure => simpa [intOf] using HM.out
            · have hb2 : (((P[a] : Nat) : Int) == 95) = false := by rw [beq_eq_false_iff_ne]; omega
              have hx : T[p] = P[a] := by rcases hm with h | h; exact absurd h h95; exact h.symm
              rw [hx] at hcT
              clear h95 hm hx
              generalize P[a] = x at *
              go_wp2
              go_quiet (fail)
              go_wp2
              go_roundw
              case rel => exact ⟨a + 1, p + 1, k, back, by omega, by omega, by go_num, by go_num, rfl, rfl, HS, HF.out.drewN _⟩
              case measure => simpa [intOf] using HM.out
          · have hno := mtG_stop hpl (fun _ => ⟨h37, fun e => hm (.inl e), fun e => hm (.inr e)⟩)
            have hb2 : (((P[a] : Nat) : Int) == 95) = false := by rw [beq_eq_false_iff_ne]; intro e; exact hm (.inl (by omega))
            have hb3 : (((P[a] : Nat) : Int) == ((T[p] : Nat) : Int)) = false := by rw [beq_eq_false_iff_ne]; intro e; exact hm (.inr (by omega))
            rcases HB.out with hneg | ⟨b, rfl, hble⟩
            · have HX := Lib.hid (stG_no hst.out hneg hno)
              have hb4 : decide ((0 : Int) ≤ back) = false := by simp; omega
              clear h37 hm hst HB hno hneg
              generalize P[a] = x at *
              generalize T[p] = y at *
              go_wp2
              go_quiet (fail)
              go_wp2
              go_ret
              exact ⟨ret_boolE HX.out.symm, HF.out.drewN _⟩
            · have HS := Lib.hid (stG_back hst.out hpl hno).1
              have HM := Lib.hid (msG_back (P := P.length) (T := T.length) (a := a) (b := b) (k := k) (by omega))
              clear h37 hm hst HB hno
              generalize P[a] = x at *
              generalize T[p] = y at *
              go_wp2
              go_quiet (fail)
              go_wp2
              go_roundw
              case rel => exact ⟨b, k + 1, k + 1, (b : Int), by omega, by omega, rfl, by go_num, rfl, by go_num, HS, HF.out.drewN _⟩
              case measure => simpa [intOf] using HM.out
      · have hno := mtG_stop (P := P) (a := a) hpl (fun h => absurd h hal)
        rcases HB.out with hneg | ⟨b, rfl, hble⟩
        · have HX := Lib.hid (stG_no hst.out hneg hno)
          have hb4 : decide ((0 : Int) ≤ back) = false := by simp; omega
          clear hst HB hno hneg
          generalize T[p] = y at *
          go_wp2
          go_quiet (fail)
          go_wp2
          go_ret
          exact ⟨ret_boolE HX.out.symm, HF.out.drewN _⟩
        · have HS := Lib.hid (stG_back hst.out hpl hno).1
          have HM := Lib.hid (msG_back (P := P.length) (T := T.length) (a := a) (b := b) (k := k) (by omega))
          clear hst HB hno
          generalize T[p] = y at *
          go_wp2
          go_quiet (fail)
          go_wp2
          go_roundw
          case rel => exact ⟨b, k + 1, k + 1, (b : Int), by omega, by omega, rfl, by go_num, rfl, by go_num, HS, HF.out.drewN _⟩
          case measure => simpa [intOf] using HM.out
    · obtain rfl : p = T.length := by omega
      have HX := Lib.hid (stG_end hst.out ha)
      obtain ⟨A', c', hrun, hvs, _⟩ := slice_loG el_rune A P.length c a .i64 (a : Int) rfl ha hlc
      have hv2 := hvs ruv wr P rfl (HV.out.non HF.out)
      have HE := Lib.hid (empty_any _ _ wr hv2 (by rw [List.length_drop]; omega))
      clear hst HB hvs hv2
      go_wp2_with fail
      refine HE.out.mono ?_
      rintro e w1 ⟨rfl, rfl⟩
      go_wp2
      go_ret
      exact ⟨ret_boolE HX.out.symm, HF.out⟩

theorem gmatch_any (p s : List UInt8) (w : World) (hp : p.length ≤ 1000000000) (hs : s.length ≤ 1000000000) :
    Calls Try.prog 7 #[.string ⟨p.toArray⟩, .string ⟨s.toArray⟩] w fun e w' => e = .returned (.bool (matchU p s)) ∧ Fr Non w w' := by
  have HP := Lib.hid (fun W => gfold_any p W hp)
  have HS := Lib.hid (fun W => gfold_any s W hs)
  have hpl := foldU_le p
  have hsl := foldU_le s
  have HM := Lib.hid (fun v u W (h1 : Vs ruv W v (foldU p)) (h2 : Vs ruv W u (foldU s)) => matches_any v u _ _ W h1 h2 (by omega) (by omega))
  clear hpl hsl
  unfold matchU
  generalize foldU p = P at *
  generalize foldU s = T at *
  go_enter Try.func7, Try.ntmps7
  go_wp2_with fail
  refine (HP.out _).mono ?_
  rintro e w1 ⟨u1, rfl, o1, f1⟩
  go_wp2_with fail
  refine (HS.out _).mono ?_
  rintro e w2 ⟨u2, rfl, o2, f2⟩
  have H2 := Lib.hid (HM.out u1 u2 w2 (o1.vs.non f2) o2.vs)
  have F2 := Lib.hid (f1.trans f2)
  clear HP HS HM o1 o2 f1 f2
  go_wp2_with fail
  refine H2.out.mono ?_
  rintro e w3 ⟨rfl, f3⟩
  go_wp2
  go_ret
  exact ⟨rfl, F2.out.trans f3⟩

end Go.Proofs.Ytjbpccbafldgkaa


namespace Go.Proofs.Ytjbpccbafldgkaa
set_option linter.unusedVariables false
set_option linter.unusedSimpArgs false
set_option maxRecDepth 100000
open Go.RowKit

theorem live15_any (w : World) : Calls Try.prog 6 #[] w fun e w' => e = .returned (.bool true) ∧ Fr Non w w' := by
  have H1 := Lib.hid (fun W => gmatch_any [97, 37, 95] [195, 164, 98] W (by decide) (by decide))
  have H2 := Lib.hid (fun W => gmatch_any [97, 37, 95] [65, 120, 121] W (by decide) (by decide))
  rw [match_ex1] at H1
  rw [match_ex2] at H2
  go_enter Try.func6, Try.ntmps6
  go_wp2_with fail
  refine (H1.out _).mono ?_
  rintro e w1 ⟨rfl, f1⟩
  have F1 := Lib.hid f1
  clear f1
  go_wp2_with fail
  refine (H2.out _).mono ?_
  rintro e w2 ⟨rfl, f2⟩
  go_wp2
  go_ret
  exact ⟨rfl, F1.out.trans f2⟩

end Go.Proofs.Ytjbpccbafldgkaa


namespace Go.Proofs.Ytjbpccbafldgkaa
set_option linter.unusedVariables false
set_option linter.unusedSimpArgs false
set_option maxRecDepth 100000
open Go.RowKit

def matchB (a b : ByteArray) : Bool := matchU a.data.toList b.data.toList
theorem gmatchB_any (a b : ByteArray) (w : World) (ha : a.size ≤ 1000000000) (hb : b.size ≤ 1000000000) :
    Calls Try.prog 7 #[.string a, .string b] w fun e w' => e = .returned (.bool (matchB a b)) ∧ Fr Non w w' :=
  gmatch_any a.data.toList b.data.toList w (by rw [Array.length_toList, ByteArray.size_data]; exact ha) (by rw [Array.length_toList, ByteArray.size_data]; exact hb)
theorem matchB_all (b : ByteArray) : matchB ⟨#[37]⟩ b = true := matchU_all _
theorem matchB_around {a b : ByteArray} (h : matchB a b = true) : matchB (⟨#[37]⟩ ++ a ++ ⟨#[37]⟩) b = true := by
  unfold matchB at h ⊢
  rw [ByteArray.data_append, ByteArray.data_append, Array.toList_append, Array.toList_append]
  exact matchU_around h
theorem matchB_join {a b c d : ByteArray} (h1 : matchB a c = true) (h2 : matchB b d = true) : matchB (a ++ ⟨#[37]⟩ ++ b) (c ++ ⟨#[124]⟩ ++ d) = true := by
  unfold matchB at h1 h2 ⊢
  simp only [ByteArray.data_append, Array.toList_append]
  exact matchU_join h1 h2

theorem two_cells {w W : World} {x0 x1 y0 y1 : Value} {t : TypeId} (hf : Fr Non ((w.alloc (.cells #[x0, x1] t)).alloc (.cells #[y0, y1] t)) W) :
    W.cell? ⟨w.heap.size, 0, none⟩ = some x0 ∧ W.cell? ⟨w.heap.size, 1, none⟩ = some x1 ∧ W.cell? ⟨w.heap.size + 1, 0, none⟩ = some y0 ∧ W.cell? ⟨w.heap.size + 1, 1, none⟩ = some y1 := by
  have h1 := ((Blk.new w t #[x0, x1]).fr ((Fr.refl Non _).alloc (.cells #[y0, y1] t)) (fun e => e)).fr hf (fun e => e)
  have h2 := (Blk.new (w.alloc (.cells #[x0, x1] t)) t #[y0, y1]).fr hf (fun e => e)
  rw [show (w.alloc (.cells #[x0, x1] t)).heap.size = w.heap.size + 1 by simp] at h2
  exact ⟨h1.cell 0, h1.cell 1, h2.cell 0, h2.cell 1⟩

set_option maxHeartbeats 2000000 in
theorem globJoins_walk (a b c d : ByteArray) (w : World) :
    Calls Try.prog 5 #[.agg #[.string a, .string b], .agg #[.string c, .string d]] w fun e w' => e = .returned (.bool true) ∧ Below w.heap.size w w' := by
  have HL := Lib.hid live15_any
  by_cases h1 : 30 < a.size
  · have hb1 : decide ((30 : Int) < (a.size : Int)) = true := by simp; omega
    clear h1
    go_enter Try.func5, Try.ntmps5
    go_wp2_with fail
    refine (HL.out _).mono ?_
    rintro e w1 ⟨rfl, f1⟩
    go_wp2
    go_ret
    exact ⟨rfl, (((Fr.refl Non w).alloc _).alloc _ |>.trans f1).below⟩
  have hb1 : decide ((30 : Int) < (a.size : Int)) = false := by simp; omega
  by_cases h2 : 30 < b.size
  · have hb2 : decide ((30 : Int) < (b.size : Int)) = true := by simp; omega
    clear h1 h2
    go_enter Try.func5, Try.ntmps5
    go_wp2_with fail
    refine (HL.out _).mono ?_
    rintro e w1 ⟨rfl, f1⟩
    go_wp2
    go_ret
    exact ⟨rfl, (((Fr.refl Non w).alloc _).alloc _ |>.trans f1).below⟩
  have hb2 : decide ((30 : Int) < (b.size : Int)) = false := by simp; omega
  by_cases h3 : 40 < c.size
  · have hb3 : decide ((40 : Int) < (c.size : Int)) = true := by simp; omega
    clear h1 h2 h3
    go_enter Try.func5, Try.ntmps5
    go_wp2_with fail
    refine (HL.out _).mono ?_
    rintro e w1 ⟨rfl, f1⟩
    go_wp2
    go_ret
    exact ⟨rfl, (((Fr.refl Non w).alloc _).alloc _ |>.trans f1).below⟩
  have hb3 : decide ((40 : Int) < (c.size : Int)) = false := by simp; omega
  by_cases h4 : 40 < d.size
  · have hb4 : decide ((40 : Int) < (d.size : Int)) = true := by simp; omega
    clear h1 h2 h3 h4
    go_enter Try.func5, Try.ntmps5
    go_wp2_with fail
    refine (HL.out _).mono ?_
    rintro e w1 ⟨rfl, f1⟩
    go_wp2
    go_ret
    exact ⟨rfl, (((Fr.refl Non w).alloc _).alloc _ |>.trans f1).below⟩
  have hb4 : decide ((40 : Int) < (d.size : Int)) = false := by simp; omega
  have z1 : ByteArray.size ⟨#[37]⟩ = 1 := rfl
  have z2 : ByteArray.size ⟨#[124]⟩ = 1 := rfl
  have HM1 := Lib.hid (fun W => gmatchB_any ⟨#[37]⟩ c W (by omega) (by omega))
  have HM2 := Lib.hid (fun W => gmatchB_any (⟨#[37]⟩ ++ a ++ ⟨#[37]⟩) c W (by rw [ByteArray.size_append, ByteArray.size_append]; omega) (by omega))
  have HM3 := Lib.hid (fun W => gmatchB_any a c W (by omega) (by omega))
  have HM4 := Lib.hid (fun W => gmatchB_any b d W (by omega) (by omega))
  have HM5 := Lib.hid (fun W => gmatchB_any (a ++ ⟨#[37]⟩ ++ b) (c ++ ⟨#[124]⟩ ++ d) W (by rw [ByteArray.size_append, ByteArray.size_append]; omega) (by rw [ByteArray.size_append, ByteArray.size_append]; omega))
  rw [matchB_all] at HM1
  have HC := Lib.hid (fun (W : World) hf => two_cells (w := w) (W := W) (x0 := .string a) (x1 := .string b) (y0 := .string c) (y1 := .string d) (t := 29) hf)
  have HA := Lib.hid (matchB_around (a := a) (b := c))
  have HJ := Lib.hid (matchB_join (a := a) (b := b) (c := c) (d := d))
  have q1 := fun W => run_string_add_sum (P := Try.prog) W ⟨#[37]⟩ a (by omega)
  have q2 := fun W => run_string_add_sum (P := Try.prog) W (⟨#[37]⟩ ++ a) ⟨#[37]⟩ (by rw [ByteArray.size_append]; omega)
  have q3 := fun W => run_string_add_sum (P := Try.prog) W a ⟨#[37]⟩ (by omega)
  have q4 := fun W => run_string_add_sum (P := Try.prog) W (a ++ ⟨#[37]⟩) b (by rw [ByteArray.size_append]; omega)
  have q5 := fun W => run_string_add_sum (P := Try.prog) W c ⟨#[124]⟩ (by omega)
  have q6 := fun W => run_string_add_sum (P := Try.prog) W (c ++ ⟨#[124]⟩) d (by rw [ByteArray.size_append]; omega)
  clear h1 h2 h3 h4 z1 z2
  generalize matchB (⟨#[37]⟩ ++ a ++ ⟨#[37]⟩) c = m2 at *
  generalize matchB (a ++ ⟨#[37]⟩ ++ b) (c ++ ⟨#[124]⟩ ++ d) = m5 at *
  generalize matchB a c = m3 at *
  generalize matchB b d = m4 at *
  cases m3 with
  | true =>
    obtain rfl := HA.out rfl
    cases m4 with
    | true =>
      obtain rfl := HJ.out rfl rfl
      clear HA HJ
      go_enter Try.func5, Try.ntmps5
      go_wp2_with fail
      refine (HM1.out _).mono ?_
      rintro e w1 ⟨rfl, f1⟩
      have F1 := Lib.hid f1
      obtain ⟨e00, e01, e10, e11⟩ := HC.out w1 F1.out
      clear f1
      go_wp2_with fail
      refine (HM2.out _).mono ?_
      rintro e w2 ⟨rfl, f2⟩
      have F2 := Lib.hid (F1.out.trans f2)
      clear e00 e01 e10 e11
      obtain ⟨e00, e01, e10, e11⟩ := HC.out w2 F2.out
      clear f2
      go_wp2_with fail
      refine (HM3.out _).mono ?_
      rintro e w3 ⟨rfl, f3⟩
      have F3 := Lib.hid (F2.out.trans f3)
      clear e00 e01 e10 e11
      obtain ⟨e00, e01, e10, e11⟩ := HC.out w3 F3.out
      clear f3
      go_wp2_with fail
      refine (HM4.out _).mono ?_
      rintro e w4 ⟨rfl, f4⟩
      have F4 := Lib.hid (F3.out.trans f4)
      clear e00 e01 e10 e11
      obtain ⟨e00, e01, e10, e11⟩ := HC.out w4 F4.out
      clear f4
      go_wp2_with fail
      refine (HM5.out _).mono ?_
      rintro e w5 ⟨rfl, f5⟩
      have F5 := Lib.hid (F4.out.trans f5)
      clear e00 e01 e10 e11
      obtain ⟨e00, e01, e10, e11⟩ := HC.out w5 F5.out
      clear f5
      go_wp2_with fail
      refine (HL.out _).mono ?_
      rintro e wz ⟨rfl, fz⟩
      go_wp2
      go_ret
      exact ⟨rfl, ((((Fr.refl Non w).alloc _).alloc _ |>.trans F5.out).trans fz).below⟩
    | false =>
      clear HA HJ
      go_enter Try.func5, Try.ntmps5
      go_wp2_with fail
      refine (HM1.out _).mono ?_
      rintro e w1 ⟨rfl, f1⟩
      have F1 := Lib.hid f1
      obtain ⟨e00, e01, e10, e11⟩ := HC.out w1 F1.out
      clear f1
      go_wp2_with fail
      refine (HM2.out _).mono ?_
      rintro e w2 ⟨rfl, f2⟩
      have F2 := Lib.hid (F1.out.trans f2)
      clear e00 e01 e10 e11
      obtain ⟨e00, e01, e10, e11⟩ := HC.out w2 F2.out
      clear f2
      go_wp2_with fail
      refine (HM3.out _).mono ?_
      rintro e w3 ⟨rfl, f3⟩
      have F3 := Lib.hid (F2.out.trans f3)
      clear e00 e01 e10 e11
      obtain ⟨e00, e01, e10, e11⟩ := HC.out w3 F3.out
      clear f3
      go_wp2_with fail
      refine (HM4.out _).mono ?_
      rintro e w4 ⟨rfl, f4⟩
      have F4 := Lib.hid (F3.out.trans f4)
      clear e00 e01 e10 e11
      obtain ⟨e00, e01, e10, e11⟩ := HC.out w4 F4.out
      clear f4
      go_wp2_with fail
      refine (HL.out _).mono ?_
      rintro e wz ⟨rfl, fz⟩
      go_wp2
      go_ret
      exact ⟨rfl, ((((Fr.refl Non w).alloc _).alloc _ |>.trans F4.out).trans fz).below⟩
  | false =>
    cases m2 with
    | true =>
      clear HA HJ
      go_enter Try.func5, Try.ntmps5
      go_wp2_with fail
      refine (HM1.out _).mono ?_
      rintro e w1 ⟨rfl, f1⟩
      have F1 := Lib.hid f1
      obtain ⟨e00, e01, e10, e11⟩ := HC.out w1 F1.out
      clear f1
      go_wp2_with fail
      refine (HM2.out _).mono ?_
      rintro e w2 ⟨rfl, f2⟩
      have F2 := Lib.hid (F1.out.trans f2)
      clear e00 e01 e10 e11
      obtain ⟨e00, e01, e10, e11⟩ := HC.out w2 F2.out
      clear f2
      go_wp2_with fail
      refine (HM3.out _).mono ?_
      rintro e w3 ⟨rfl, f3⟩
      have F3 := Lib.hid (F2.out.trans f3)
      clear e00 e01 e10 e11
      obtain ⟨e00, e01, e10, e11⟩ := HC.out w3 F3.out
      clear f3
      go_wp2_with fail
      refine (HL.out _).mono ?_
      rintro e wz ⟨rfl, fz⟩
      go_wp2
      go_ret
      exact ⟨rfl, ((((Fr.refl Non w).alloc _).alloc _ |>.trans F3.out).trans fz).below⟩
    | false =>
      clear HA HJ
      go_enter Try.func5, Try.ntmps5
      go_wp2_with fail
      refine (HM1.out _).mono ?_
      rintro e w1 ⟨rfl, f1⟩
      have F1 := Lib.hid f1
      obtain ⟨e00, e01, e10, e11⟩ := HC.out w1 F1.out
      clear f1
      go_wp2_with fail
      refine (HM2.out _).mono ?_
      rintro e w2 ⟨rfl, f2⟩
      have F2 := Lib.hid (F1.out.trans f2)
      clear e00 e01 e10 e11
      obtain ⟨e00, e01, e10, e11⟩ := HC.out w2 F2.out
      clear f2
      go_wp2_with fail
      refine (HM3.out _).mono ?_
      rintro e w3 ⟨rfl, f3⟩
      have F3 := Lib.hid (F2.out.trans f3)
      clear e00 e01 e10 e11
      obtain ⟨e00, e01, e10, e11⟩ := HC.out w3 F3.out
      clear f3
      go_wp2_with fail
      refine (HM3.out _).mono ?_
      rintro e w4 ⟨rfl, f4⟩
      have F4 := Lib.hid (F3.out.trans f4)
      clear e00 e01 e10 e11
      obtain ⟨e00, e01, e10, e11⟩ := HC.out w4 F4.out
      clear f4
      go_wp2_with fail
      refine (HL.out _).mono ?_
      rintro e wz ⟨rfl, fz⟩
      go_wp2
      go_ret
      exact ⟨rfl, ((((Fr.refl Non w).alloc _).alloc _ |>.trans F4.out).trans fz).below⟩
end Go.Proofs.Ytjbpccbafldgkaa


namespace Go.Proofs.Ytjbpccbafldgkaa
set_option linter.unusedVariables false
set_option linter.unusedSimpArgs false
set_option maxRecDepth 100000
open Go.ChangeShapes Go.WideShapes Go.ChangeAt Go.RowKit

theorem frame_own : ownKnob Try.prog.godebug = none := by kernel_rfl
theorem frame_laidOut : laidOutB Try.prog = true := by kernel_rfl

/-- every argument reads as it did -/
theorem trodAll_below {H : Type} {enc : TypeId × Value → H} {W W' : World} (hb : Below W.heap.size W W') :
    ∀ (ts : List TypeId) (vs : List Value) (ds : List (DataW H)) (ps : List MemPlace), (∀ t ∈ ts, Try.prog.readableRec t = true ∧ t < Try.prog.types.size) →
      DataW.TrodAll enc Try.prog W 0 (fun _ => true) true ts vs ds ps → DataW.TrodAll enc Try.prog W' 0 (fun b => decide (b < W.heap.size)) true ts vs ds ps := by
  intro ts
  induction ts with
  | nil => intro vs ds ps _ h; cases vs <;> cases ds <;> simp_all [DataW.TrodAll]
  | cons t ts ih =>
    intro vs ds ps hr h
    cases vs with
    | nil => cases ds <;> simp_all [DataW.TrodAll]
    | cons v vs =>
      cases ds with
      | nil => simp_all [DataW.TrodAll]
      | cons d ds =>
        obtain ⟨p, q, h1, h2, rfl⟩ := h
        have hlt : ∀ x ∈ p, x.block < W.heap.size := by obtain ⟨m, hm⟩ := h1; exact DataW.trod_lt m _ _ _ hm
        have ht := hr t (List.mem_cons_self ..)
        exact ⟨p, q, Below.trod frame_laidOut ht.1 ht.2 h1 hb hlt, ih vs ds q (fun u hu => hr u (List.mem_cons_of_mem _ hu)) h2, rfl⟩

noncomputable def typesOk (ts : List TypeId) : Bool := ts.all fun t => Try.prog.readableRec t && decide (t < Try.prog.types.size)
theorem types_ok (ts : List TypeId) (h : typesOk ts = true) : ∀ t ∈ ts, Try.prog.readableRec t = true ∧ t < Try.prog.types.size := by
  intro t ht
  have := List.all_eq_true.1 h t ht
  simpa using this

end Go.Proofs.Ytjbpccbafldgkaa


namespace Go.Proofs.Ytjbpccbafldgkaa
set_option linter.unusedVariables false
set_option linter.unusedSimpArgs false
set_option maxRecDepth 100000
open Go.Joins Go.ChangeShapes Go.WideShapes Go.ChangeAt Go.RowKit

theorem trod_array2x {H : Type} {enc : TypeId × Value → H} {P : Program} {w : World} {base : Nat} {spare : Nat → Bool} {held : Bool} {t e : TypeId} {fuel : Nat} {c0 c1 : Value} {x : DataW H × List MemPlace} (ht : P.underlying t = some (.array 2 e)) (hce : P.cellsOf e = 1)
    (h : DataW.trod enc P w base spare held fuel t [c0, c1] = some x) :
    ∃ y0 y1 n, DataW.trod enc P w base spare held n e [c0] = some y0 ∧ DataW.trod enc P w base spare held n e [c1] = some y1 := by
  cases fuel with
  | zero => simp [DataW.trod] at h
  | succ n =>
    unfold DataW.trod at h
    rw [ht] at h
    have r2 : List.range 2 = [0, 1] := rfl
    simp [r2, hce] at h
    obtain ⟨_, h⟩ := h
    cases h0 : DataW.trod enc P w base spare held n e [c0] with
    | none => simp [h0] at h
    | some y0 =>
      cases h1 : DataW.trod enc P w base spare held n e [c1] with
      | none => simp [h0, h1] at h
      | some y1 => exact ⟨y0, y1, n, h0, h1⟩

theorem two_in {H : Type} {enc : TypeId × Value → H} {W : World} {base : Nat} {v : Value} {d : DataW H} {p : List MemPlace} (hv : Value.okWide Try.prog W .any base 29 v)
    (h : DataW.Trod enc Try.prog W 0 (fun _ => true) true 29 v d p) : ∃ x0 x1 : ByteArray, v = .agg #[.string x0, .string x1] := by
  unfold Value.okWide at hv
  rw [Try.underlying29] at hv
  obtain ⟨cs, rfl, hsz, _⟩ := hv
  obtain ⟨c0, c1, rfl⟩ := Joins.array2 (hsz.trans (show Try.prog.cellsOf 29 = 2 by kernel_rfl))
  obtain ⟨fuel, hf⟩ := h
  obtain ⟨y0, y1, n, h0, h1⟩ := trod_array2x Try.underlying29 (show Try.prog.cellsOf 9 = 1 by kernel_rfl) hf
  obtain ⟨s0, e0, _, _⟩ := DataW.trod_string Try.underlying9 h0
  obtain ⟨s1, e1, _, _⟩ := DataW.trod_string Try.underlying9 h1
  obtain rfl := (List.cons.inj e0).1
  obtain rfl := (List.cons.inj e1).1
  exact ⟨s0, s1, rfl⟩
end Go.Proofs.Ytjbpccbafldgkaa
