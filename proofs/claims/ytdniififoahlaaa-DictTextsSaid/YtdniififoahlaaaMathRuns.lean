/-
  Layer 5 as plain functions on lists: the bytes of numbers as runs (putR), which numbers bytes are (gt), and that each is the other's back. Nothing of the program.
-/
import Derived.Test.YtdniififoahlaaaMathVint
namespace Go.Proofs.Ytdniififoahlaaa
set_option linter.unusedVariables false
set_option linter.unusedSimpArgs false

/-- a number that int64 has -/
def I64 (x : Int) : Prop := -9223372036854775808 ≤ x ∧ x ≤ 9223372036854775807

/-- how many of the same x numbers begin with -/
def runN (x : Int) : List Int → Nat
  | [] => 0
  | y :: l => if y = x then runN x l + 1 else 0

theorem runN_le (x : Int) : ∀ l : List Int, runN x l ≤ l.length
  | [] => Nat.le_refl _
  | y :: l => by
    unfold runN
    have := runN_le x l
    split <;> simp <;> omega
theorem runN_take (x : Int) : ∀ l : List Int, l.take (runN x l) = List.replicate (runN x l) x
  | [] => rfl
  | y :: l => by
    unfold runN
    have := runN_take x l
    split
    · rename_i h; subst h; rw [List.take_succ_cons, this, List.replicate_succ]
    · rfl
theorem runN_at (x : Int) : ∀ (l : List Int) (k : Nat) (h : k < runN x l), l[k]? = some x
  | [], k, h => by unfold runN at h; omega
  | y :: l, k, h => by
    unfold runN at h
    split at h
    · rename_i e
      cases k with
      | zero => simp [e]
      | succ k => rw [List.getElem?_cons_succ]; exact runN_at x l k (by omega)
    · omega
theorem runN_end (x : Int) : ∀ l : List Int, l[runN x l]? ≠ some x
  | [] => by simp
  | y :: l => by
    unfold runN
    split
    · rw [List.getElem?_cons_succ]; exact runN_end x l
    · rename_i h; simp [h]
theorem runN_split (x : Int) (l : List Int) : l = List.replicate (runN x l) x ++ l.drop (runN x l) := by
  rw [← runN_take]; exact (List.take_append_drop _ _).symm
/-- what makes a run's length known -/
theorem runN_is (x : Int) : ∀ (l : List Int) (k : Nat), (∀ i, i < k → l[i]? = some x) → l[k]? ≠ some x → runN x l = k
  | [], k, h, _ => by
    cases k with
    | zero => rfl
    | succ k => have := h 0 (by omega); simp at this
  | y :: l, k, h, h2 => by
    unfold runN
    cases k with
    | zero =>
      have : y ≠ x := by simpa using h2
      rw [if_neg this]
    | succ k =>
      have h0 : y = x := by simpa using h 0 (by omega)
      rw [if_pos h0, runN_is x l k (fun i hi => by have := h (i + 1) (by omega); rwa [List.getElem?_cons_succ] at this) (by rwa [List.getElem?_cons_succ] at h2)]

/-- a run's bytes: how many behind the first one, and the number -/
def oneR (k : Nat) (x : Int) : List UInt8 := Lib.uvarint k ++ Lib.uvarint (zig x)

/-- the bytes of numbers -/
def putR : List Int → List UInt8
  | [] => []
  | x :: l => oneR (runN x l) x ++ putR (l.drop (runN x l))
termination_by l => l.length
decreasing_by simp; omega

theorem putR_nil : putR [] = [] := by rw [putR]
theorem putR_cons (x : Int) (l : List Int) : putR (x :: l) = oneR (runN x l) x ++ putR (l.drop (runN x l)) := by rw [putR]

/-- a run that bytes begin with, of at most m behind the first one -/
def nxR (b : List UInt8) (m : Nat) : Option (Nat × Int × List UInt8) :=
  match rd 0 0 b with
  | none => none
  | some (k, r) => if k ≤ m then match rd 0 0 r with
    | none => none
    | some (z, q) => some (k, unzig z, q)
    else none

/-- the n numbers whose bytes are all of b, and of which the first one is not the last one ahead -/
def gt (b : List UInt8) (n : Nat) (last : Option Int) : Option (List Int) :=
  if n = 0 then if b = [] then some [] else none
  else match nxR b (n - 1) with
    | none => none
    | some (k, x, q) => if last = some x then none else (gt q (n - (k + 1)) (some x)).map (List.replicate (k + 1) x ++ ·)
termination_by n
decreasing_by omega

theorem gt_nil (last : Option Int) : gt [] 0 last = some [] := by rw [gt, if_pos rfl, if_pos rfl]
theorem gt_end {b : List UInt8} {last : Option Int} (h : b ≠ []) : gt b 0 last = none := by rw [gt, if_pos rfl, if_neg h]
theorem gt_none {b : List UInt8} {n : Nat} {last : Option Int} (hn : 0 < n) (h : nxR b (n - 1) = none) : gt b n last = none := by
  rw [gt, if_neg (by omega), h]
theorem gt_same {b : List UInt8} {n k : Nat} {x : Int} {q : List UInt8} {last : Option Int} (hn : 0 < n) (h : nxR b (n - 1) = some (k, x, q)) (hl : last = some x) : gt b n last = none := by
  rw [gt, if_neg (by omega), h]; simp only [hl, if_true]
theorem gt_more {b : List UInt8} {n k : Nat} {x : Int} {q : List UInt8} {last : Option Int} (hn : 0 < n) (h : nxR b (n - 1) = some (k, x, q)) (hl : last ≠ some x) :
    gt b n last = (gt q (n - (k + 1)) (some x)).map (List.replicate (k + 1) x ++ ·) := by
  rw [gt, if_neg (by omega), h]; simp only [if_neg hl]

theorem unzig_i64 {n : Nat} (h : n < two64) : I64 (unzig n) := by
  unfold two64 at h
  unfold I64 unzig
  split <;> constructor <;> omega

theorem nxR_some {b : List UInt8} {m k : Nat} {x : Int} {q : List UInt8} (h : nxR b m = some (k, x, q)) :
    ∃ r z, rd 0 0 b = some (k, r) ∧ rd 0 0 r = some (z, q) ∧ x = unzig z ∧ k ≤ m ∧ b = oneR k x ++ q ∧ I64 x := by
  unfold nxR at h
  cases h1 : rd 0 0 b with
  | none => rw [h1] at h; cases h
  | some p =>
    obtain ⟨k', r⟩ := p
    rw [h1] at h
    dsimp only at h
    split at h
    · rename_i hk
      cases h2 : rd 0 0 r with
      | none => rw [h2] at h; cases h
      | some p =>
        obtain ⟨z, q'⟩ := p
        rw [h2] at h
        simp only [Option.some.injEq, Prod.mk.injEq] at h
        obtain ⟨rfl, rfl, rfl⟩ := h
        refine ⟨r, z, rfl, h2, rfl, hk, ?_, unzig_i64 (rd_lt h2)⟩
        unfold oneR
        rw [zig_unzig, List.append_assoc, ← rd_is h2, ← rd_is h1]
    · cases h
theorem nxR_le {b : List UInt8} {m k : Nat} {x : Int} {q : List UInt8} (h : nxR b m = some (k, x, q)) : q.length < b.length := by
  obtain ⟨r, z, h1, h2, _⟩ := nxR_some h
  have := rd_len (by omega) h1
  have := rd_len (by omega) h2
  omega
theorem nxR_put {k m : Nat} {x : Int} (hk : k ≤ m) (hk2 : k < two64) (hx : I64 x) (q : List UInt8) : nxR (oneR k x ++ q) m = some (k, x, q) := by
  unfold nxR oneR
  rw [List.append_assoc, rd_own hk2, ]
  dsimp only
  rw [if_pos hk, rd_own (zig_lt hx.1 hx.2)]
  dsimp only
  rw [unzig_zig]
/-- a greater bound lets no other run pass, if the run is within both -/
theorem nxR_bound {b : List UInt8} {m m' k : Nat} {x : Int} {q : List UInt8} (h : nxR b m = some (k, x, q)) (hk : k ≤ m') : nxR b m' = some (k, x, q) := by
  obtain ⟨r, z, h1, h2, hx, _, _⟩ := nxR_some h
  unfold nxR
  rw [h1]
  dsimp only
  rw [if_pos hk, h2, hx]

theorem gt_putR : ∀ (n : Nat) (l : List Int) (last : Option Int), l.length = n → n < 9223372036854775808 → (∀ x ∈ l, I64 x) → (l = [] ∨ l.head? ≠ last) → gt (putR l) n last = some l := by
  intro n
  induction n using Nat.strongRecOn with
  | _ n ih =>
    intro l last hn hb hx hl
    cases l with
    | nil =>
      subst hn
      rw [putR_nil]; exact gt_nil _
    | cons x l =>
      have hlen : (x :: l).length = l.length + 1 := rfl
      have hr := runN_le x l
      have hxx : I64 x := hx x (by simp)
      have hnx : nxR (putR (x :: l)) (n - 1) = some (runN x l, x, putR (l.drop (runN x l))) := by
        rw [putR_cons]
        exact nxR_put (by omega) (by unfold two64; omega) hxx _
      have hne : last ≠ some x := by
        rcases hl with h | h
        · cases h
        · intro e; exact h (by rw [e]; rfl)
      rw [gt_more (by omega) hnx hne, ih (n - (runN x l + 1)) (by omega) (l.drop (runN x l)) (some x) (by rw [List.length_drop]; omega) (by omega) (fun y hy => hx y (List.mem_cons_of_mem _ (List.mem_of_mem_drop hy))) ?_]
      · rw [Option.map_some, List.replicate_succ, List.cons_append, ← runN_split]
      · right
        rw [List.head?_drop]
        exact runN_end x l

theorem gt_is : ∀ (n : Nat) (b : List UInt8) (last : Option Int) (l : List Int), gt b n last = some l → putR l = b ∧ l.length = n ∧ (∀ x ∈ l, I64 x) ∧ (l = [] ∨ l.head? ≠ last) := by
  intro n
  induction n using Nat.strongRecOn with
  | _ n ih =>
    intro b last l h
    by_cases hn : n = 0
    · subst hn
      by_cases hb : b = []
      · subst hb
        rw [gt_nil] at h
        obtain rfl : [] = l := by simpa using h
        exact ⟨putR_nil, rfl, fun x hx => by simp at hx, .inl rfl⟩
      · rw [gt_end hb] at h; cases h
    · cases hx : nxR b (n - 1) with
      | none => rw [gt_none (by omega) hx] at h; cases h
      | some p =>
        obtain ⟨k, x, q⟩ := p
        by_cases hl : last = some x
        · rw [gt_same (by omega) hx hl] at h; cases h
        · rw [gt_more (by omega) hx hl] at h
          obtain ⟨r, z, _, _, _, hk, hbb, hxx⟩ := nxR_some hx
          cases hg : gt q (n - (k + 1)) (some x) with
          | none => rw [hg] at h; cases h
          | some l' =>
            rw [hg] at h
            obtain rfl : List.replicate (k + 1) x ++ l' = l := by simpa using h
            obtain ⟨i1, i2, i3, i4⟩ := ih (n - (k + 1)) (by omega) q (some x) l' hg
            have hrun : runN x (List.replicate k x ++ l') = k := by
              refine runN_is x _ k (fun i hi => ?_) ?_
              · rw [List.getElem?_append_left (by simpa using hi), List.getElem?_replicate, if_pos hi]
              · rw [List.getElem?_append_right (by simp), List.length_replicate, Nat.sub_self]
                rcases i4 with rfl | h4
                · simp
                · rwa [← List.head?_eq_getElem?]
            refine ⟨?_, ?_, ?_, .inr ?_⟩
            · rw [List.replicate_succ, List.cons_append, putR_cons, hrun, List.drop_left' (by simp), i1, hbb]
            · rw [List.length_append, List.length_replicate, i2]; omega
            · intro y hy
              rcases List.mem_append.1 hy with h | h
              · rw [List.eq_of_mem_replicate h]; exact hxx
              · exact i3 y h
            · rw [List.replicate_succ, List.cons_append, List.head?_cons]
              exact fun e => hl e.symm

/-- the same bytes are not numbers of two counts -/
theorem gt_count : ∀ (n m : Nat) (b : List UInt8) (last : Option Int) (l l' : List Int), gt b n last = some l → gt b m last = some l' → n = m := by
  intro n
  induction n using Nat.strongRecOn with
  | _ n ih =>
    intro m b last l l' h h'
    by_cases hn : n = 0
    · subst hn
      by_cases hb : b = []
      · subst hb
        by_cases hm : m = 0
        · exact hm.symm
        · rw [gt_none (by omega) (by rfl)] at h'; cases h'
      · rw [gt_end hb] at h; cases h
    · cases hx : nxR b (n - 1) with
      | none => rw [gt_none (by omega) hx] at h; cases h
      | some p =>
        obtain ⟨k, x, q⟩ := p
        by_cases hl : last = some x
        · rw [gt_same (by omega) hx hl] at h; cases h
        · rw [gt_more (by omega) hx hl] at h
          by_cases hm : m = 0
          · subst hm
            have : b ≠ [] := by have := nxR_le hx; intro e; subst e; simp at this
            rw [gt_end this] at h'; cases h'
          · cases hx' : nxR b (m - 1) with
            | none => rw [gt_none (by omega) hx'] at h'; cases h'
            | some p' =>
              obtain ⟨k', x', q'⟩ := p'
              obtain ⟨r, z, a1, a2, a3, a4, _⟩ := nxR_some hx
              obtain ⟨r', z', b1, b2, b3, b4, _⟩ := nxR_some hx'
              rw [a1] at b1
              simp only [Option.some.injEq, Prod.mk.injEq] at b1
              obtain ⟨rfl, rfl⟩ := b1
              rw [a2] at b2
              simp only [Option.some.injEq, Prod.mk.injEq] at b2
              obtain ⟨rfl, rfl⟩ := b2
              obtain rfl : x = x' := by rw [a3, b3]
              rw [gt_more (by omega) hx' hl] at h'
              cases hg : gt q (n - (k + 1)) (some x) with
              | none => rw [hg] at h; cases h
              | some l1 =>
                cases hg' : gt q (m - (k + 1)) (some x) with
                | none => rw [hg'] at h'; cases h'
                | some l2 =>
                  have := ih (n - (k + 1)) (by omega) (m - (k + 1)) q (some x) l1 l2 hg hg'
                  omega

theorem uvarint_zig10 {x : Int} (h : I64 x) : (Lib.uvarint (zig x)).length ≤ 10 := Lib.uvarint_length64 (zig_lt h.1 h.2)

/-- how long the bytes are -/
theorem putR_len : ∀ (n : Nat) (l : List Int), l.length = n → n < 9223372036854775808 → (∀ x ∈ l, I64 x) → (putR l).length ≤ 20 * n := by
  intro n
  induction n using Nat.strongRecOn with
  | _ n ih =>
    intro l hn hb hx
    cases l with
    | nil => rw [putR_nil]; simp
    | cons x l =>
      have hlen : (x :: l).length = l.length + 1 := rfl
      have hr := runN_le x l
      have h1 := Lib.uvarint_length64 (show runN x l < 18446744073709551616 by omega)
      have h2 := uvarint_zig10 (hx x (by simp))
      have h3 := ih (l.drop (runN x l)).length (by rw [List.length_drop]; omega) _ rfl (by rw [List.length_drop]; omega) (fun y hy => hx y (List.mem_cons_of_mem _ (List.mem_of_mem_drop hy)))
      rw [putR_cons]
      unfold oneR
      rw [List.length_append, List.length_append]
      rw [List.length_drop] at h3
      omega

end Go.Proofs.Ytdniififoahlaaa
