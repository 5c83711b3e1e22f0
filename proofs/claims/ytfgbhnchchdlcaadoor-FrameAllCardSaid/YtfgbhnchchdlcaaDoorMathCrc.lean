/-
  Layer 2's plain mathematics: the sum of bytes, bit by bit; four bits at once by a table; a difference is carried on and never dies. No program is named here.
-/
import Derived.Test.YtfgbhnchchdlcaaDoorBase
namespace Go.Proofs.YtfgbhnchchdlcaaDoor
set_option linter.unusedVariables false
set_option linter.unusedSimpArgs false

/-- one bit goes out -/
def st (s : Nat) : Nat := if s % 2 = 1 then s / 2 ^^^ 2197175160 else s / 2
def st8 (s : Nat) : Nat := st (st (st (st (st (st (st (st s)))))))
/-- a byte goes in -/
def by1 (s : Nat) (b : UInt8) : Nat := st8 (s ^^^ b.toNat)
def run (s : Nat) (l : List UInt8) : Nat := l.foldl by1 s
/-- the sum that goes on from a sum -/
def sumOf (s : Nat) (l : List UInt8) : Nat := run (s ^^^ 4294967295) l ^^^ 4294967295

def halfTab : List Int := [0, 274646895, 549293790, 820201905, 1098587580, 1361435347, 1640403810, 1905808397, 2197175160, 2460548119, 2722870694, 2987750089, 3280807620, 3553878443, 3811616794, 4084100981]
def half (i : Nat) : Nat := (halfTab.getD i 0).toNat

theorem xor_mod2 (a b : Nat) : (a ^^^ b) % 2 = if a % 2 = b % 2 then 0 else 1 := by
  have h := Nat.xor_mod_two_eq_one (a := a) (b := b)
  have ha : a % 2 < 2 := Nat.mod_lt _ (by decide)
  have hb : b % 2 < 2 := Nat.mod_lt _ (by decide)
  have hc : (a ^^^ b) % 2 < 2 := Nat.mod_lt _ (by decide)
  by_cases e : a % 2 = b % 2
  · rw [if_pos e]
    by_cases h1 : (a ^^^ b) % 2 = 1
    · have := h.1 h1; omega
    · omega
  · rw [if_neg e]
    apply h.2
    omega
theorem xor_div2 (a b : Nat) : (a ^^^ b) / 2 = a / 2 ^^^ b / 2 := by
  have := Nat.shiftRight_xor_distrib (a := a) (b := b) (i := 1)
  simpa [Nat.shiftRight_eq_div_pow] using this
theorem xor_xor (a b : Nat) : a ^^^ b ^^^ b = a := by rw [Nat.xor_assoc, Nat.xor_self, Nat.xor_zero]

theorem st_xor (a b : Nat) : st (a ^^^ b) = st a ^^^ st b := by
  unfold st
  rw [xor_mod2, xor_div2]
  rcases Nat.mod_two_eq_zero_or_one a with h1 | h1 <;> rcases Nat.mod_two_eq_zero_or_one b with h2 | h2 <;> rw [h1, h2]
  · simp
  · simp [Nat.xor_assoc]
  · simp [Nat.xor_assoc, Nat.xor_comm (b / 2)]
  · simp only [if_true, if_neg (show ¬ (0 : Nat) = 1 by decide)]
    rw [Nat.xor_assoc (a / 2), Nat.xor_comm 2197175160, Nat.xor_assoc (b / 2), Nat.xor_self, Nat.xor_zero]
theorem st8_xor (a b : Nat) : st8 (a ^^^ b) = st8 a ^^^ st8 b := by unfold st8; simp only [st_xor]
theorem st_lt {s : Nat} (h : s < 4294967296) : st s < 4294967296 := by
  unfold st; split
  · exact Nat.xor_lt_two_pow (n := 32) (by omega) (by omega)
  · omega
theorem st8_lt {s : Nat} (h : s < 4294967296) : st8 s < 4294967296 := st_lt (st_lt (st_lt (st_lt (st_lt (st_lt (st_lt (st_lt h)))))))
theorem u8_lt (b : UInt8) : b.toNat < 256 := b.toNat_lt
theorem xor8_lt {s : Nat} (h : s < 4294967296) (b : UInt8) : s ^^^ b.toNat < 4294967296 := Nat.xor_lt_two_pow (n := 32) h (by have := u8_lt b; omega)
theorem by1_lt {s : Nat} (h : s < 4294967296) (b : UInt8) : by1 s b < 4294967296 := st8_lt (xor8_lt h b)
theorem run_lt : ∀ (l : List UInt8) {s : Nat}, s < 4294967296 → run s l < 4294967296
  | [], _, h => h
  | b :: l, _, h => run_lt l (by1_lt h b)
theorem turn_lt {s : Nat} (h : s < 4294967296) : s ^^^ 4294967295 < 4294967296 := Nat.xor_lt_two_pow (n := 32) h (by omega)
theorem sumOf_lt (l : List UInt8) {s : Nat} (h : s < 4294967296) : sumOf s l < 4294967296 := turn_lt (run_lt l (turn_lt h))
theorem run_app (s : Nat) (l m : List UInt8) : run s (l ++ m) = run (run s l) m := List.foldl_append ..
theorem run_snoc (s : Nat) (l : List UInt8) (b : UInt8) : run s (l ++ [b]) = by1 (run s l) b := by rw [run_app]; rfl
theorem sumOf_app (s : Nat) (l m : List UInt8) : sumOf s (l ++ m) = sumOf (sumOf s l) m := by
  unfold sumOf; rw [run_app, xor_xor]
theorem sumOf_nil (s : Nat) : sumOf s [] = s := xor_xor _ _

/-! ### Four bits at once -/
theorem st_two (q : Nat) : st (2 * q) = q := by
  unfold st; rw [if_neg (by omega)]; omega
theorem half_st (r : Nat) (h : r < 16) : st (st (st (st r))) = half r ∧ half r < 4294967296 := by
  have all : ∀ r : Fin 16, st (st (st (st r.1))) = half r.1 ∧ half r.1 < 4294967296 := by decide
  exact all ⟨r, h⟩
theorem part16 (s : Nat) : s = 2 * (2 * (2 * (2 * (s / 16)))) ^^^ s % 16 := by
  have h : 2 * (2 * (2 * (2 * (s / 16)))) = (s / 16) <<< 4 := by rw [Nat.shiftLeft_eq]; omega
  rw [h]
  apply Nat.eq_of_testBit_eq
  intro i
  rw [Nat.testBit_xor, Nat.testBit_shiftLeft, show (16 : Nat) = 2 ^ 4 from rfl, Nat.testBit_div_two_pow, Nat.testBit_mod_two_pow]
  by_cases hi : 4 ≤ i
  · simp [hi, Nat.not_lt.2 hi]
  · simp [hi, Nat.lt_of_not_le hi]
theorem st4_half (s : Nat) : st (st (st (st s))) = s / 16 ^^^ half (s % 16) := by
  conv => lhs; rw [part16 s]
  simp only [st_xor, st_two]
  rw [(half_st _ (Nat.mod_lt _ (by decide))).1]

/-! ### Differences -/
theorem st_ne {s : Nat} (h : s < 4294967296) (hz : s ≠ 0) : st s ≠ 0 := by
  unfold st; split
  · intro e
    have : s / 2 = 2197175160 := by
      have := congrArg (· ^^^ 2197175160) e
      simpa [xor_xor] using this
    omega
  · omega
theorem st8_ne {s : Nat} (h : s < 4294967296) (hz : s ≠ 0) : st8 s ≠ 0 := by
  have h1 := st_lt h; have h2 := st_lt h1; have h3 := st_lt h2; have h4 := st_lt h3; have h5 := st_lt h4; have h6 := st_lt h5; have h7 := st_lt h6
  exact st_ne h7 (st_ne h6 (st_ne h5 (st_ne h4 (st_ne h3 (st_ne h2 (st_ne h1 (st_ne h hz)))))))
/-- what is behind carries a difference on -/
theorem run_diff : ∀ (l : List UInt8) (s d : Nat), run (s ^^^ d) l = run s l ^^^ (l.foldl (fun d _ => st8 d) d)
  | [], _, _ => rfl
  | b :: l, s, d => by
    show run (st8 (s ^^^ d ^^^ b.toNat)) l = run (st8 (s ^^^ b.toNat)) l ^^^ _
    rw [Nat.xor_assoc, Nat.xor_comm d, ← Nat.xor_assoc, st8_xor]
    exact run_diff l _ _
theorem carry_ne : ∀ (l : List UInt8) {d : Nat}, d < 4294967296 → d ≠ 0 → l.foldl (fun d _ => st8 d) d ≠ 0
  | [], _, _, h => h
  | _ :: l, _, hd, h => carry_ne l (st8_lt hd) (st8_ne hd h)
theorem carry_zero : ∀ (l : List UInt8), l.foldl (fun d _ => st8 d) 0 = 0
  | [] => rfl
  | _ :: l => by show l.foldl (fun d _ => st8 d) (st8 0) = 0; rw [show st8 0 = 0 from by decide]; exact carry_zero l

/-- the bytes that turn, as one number -/
def numOf : List UInt8 → Nat
  | [] => 0
  | x :: xs => x.toNat ^^^ 256 * numOf xs
def stN : Nat → Nat → Nat
  | 0, d => d
  | n + 1, d => stN n (st8 d)
theorem st8_256 (q : Nat) : st8 (256 * q) = q := by
  have : 256 * q = 2 * (2 * (2 * (2 * (2 * (2 * (2 * (2 * q))))))) := by omega
  unfold st8; rw [this]; simp only [st_two]
def xors (l xs : List UInt8) : List UInt8 := List.zipWith (· ^^^ ·) l xs
theorem run_xors : ∀ (l xs : List UInt8) (s d : Nat), l.length = xs.length → run (s ^^^ d) (xors l xs) = run s l ^^^ stN l.length (d ^^^ numOf xs)
  | [], [], _, _, _ => by simp [run, xors, stN, numOf]
  | b :: l, x :: xs, s, d, h => by
    show run (st8 (s ^^^ d ^^^ (b ^^^ x).toNat)) (xors l xs) = run (st8 (s ^^^ b.toNat)) l ^^^ stN l.length (st8 (d ^^^ (x.toNat ^^^ 256 * numOf xs)))
    have e : s ^^^ d ^^^ (b ^^^ x).toNat = (s ^^^ b.toNat) ^^^ (d ^^^ x.toNat) := by
      rw [UInt8.toNat_xor]; ac_rfl
    rw [e, st8_xor, run_xors l xs _ _ (by simpa using h), ← Nat.xor_assoc, st8_xor (d ^^^ x.toNat), st8_256]
theorem stN_ne : ∀ (n : Nat) {d : Nat}, d < 4294967296 → d ≠ 0 → stN n d ≠ 0
  | 0, _, _, h => h
  | n + 1, _, hd, h => stN_ne n (st8_lt hd) (st8_ne hd h)
theorem stN_lt : ∀ (n : Nat) {d : Nat}, d < 4294967296 → stN n d < 4294967296
  | 0, _, h => h
  | n + 1, _, h => stN_lt n (st8_lt h)
theorem stN_zero : ∀ (n : Nat), stN n 0 = 0
  | 0 => rfl
  | n + 1 => by show stN n (st8 0) = 0; rw [show st8 0 = 0 from by decide]; exact stN_zero n
theorem xor_add256 (x : UInt8) (q : Nat) : x.toNat ^^^ 256 * q = x.toNat + 256 * q := by
  have hx := u8_lt x
  have h := Nat.shiftLeft_add_eq_or_of_lt (a := q) (b := x.toNat) (i := 8) (by omega)
  apply Nat.eq_of_testBit_eq
  intro i
  rw [Nat.add_comm, show 256 * q = q <<< 8 by rw [Nat.shiftLeft_eq]; omega, h, Nat.testBit_xor, Nat.testBit_or]
  by_cases hi : 8 ≤ i
  · have : Nat.testBit x.toNat i = false := Nat.testBit_lt_two_pow (Nat.lt_of_lt_of_le hx (show 2 ^ 8 ≤ 2 ^ i from Nat.pow_le_pow_right (by decide) hi))
    simp [this]
  · have : Nat.testBit (q <<< 8) i = false := by rw [Nat.testBit_shiftLeft]; simp [hi]
    simp [this]
theorem numOf_lt : ∀ (xs : List UInt8), numOf xs < 256 ^ xs.length
  | [] => by decide
  | x :: xs => by
    have := numOf_lt xs
    have hx := u8_lt x
    show x.toNat ^^^ 256 * numOf xs < 256 ^ (xs.length + 1)
    rw [xor_add256, Nat.pow_succ]; omega
theorem numOf_zero : ∀ (xs : List UInt8), numOf xs = 0 ↔ ∀ x ∈ xs, x = 0
  | [] => by simp [numOf]
  | x :: xs => by
    have ih := numOf_zero xs
    show x.toNat ^^^ 256 * numOf xs = 0 ↔ _
    rw [xor_add256, List.forall_mem_cons, ← ih, ← UInt8.toNat_inj]
    simp; omega

/-- up to four neighbours are turned: another sum -/
theorem tells (p l xs r : List UInt8) (h : l.length = xs.length) (h4 : xs.length ≤ 4) (s : Nat) :
    sumOf s (p ++ (l ++ r)) = sumOf s (p ++ (xors l xs ++ r)) ↔ ∀ x ∈ xs, x = 0 := by
  have hN : numOf xs < 4294967296 := Nat.lt_of_lt_of_le (numOf_lt xs) (Nat.le_trans (Nat.pow_le_pow_right (by decide) h4) (by decide))
  rw [← numOf_zero]
  unfold sumOf
  rw [run_app, run_app, run_app, run_app]
  generalize run (s ^^^ 4294967295) p = A
  have e := run_xors l xs A 0 h
  rw [Nat.xor_zero, Nat.zero_xor] at e
  rw [e, run_diff r]
  generalize run (run A l) r = B
  constructor
  · intro e
    apply Decidable.byContradiction
    intro hz
    have h1 := carry_ne r (stN_lt l.length hN) (stN_ne l.length hN hz)
    apply h1
    have := congrArg (· ^^^ 4294967295) e
    simp only [xor_xor] at this
    have h2 := congrArg (B ^^^ ·) this
    simp only [Nat.xor_self, ← Nat.xor_assoc, Nat.zero_xor] at h2
    exact h2.symm
  · intro e
    rw [e, stN_zero, carry_zero, Nat.xor_zero]

/-! ### The bytes as the law turns them, one by one -/
def mk (b xs : List UInt8) (a k : Nat) : List UInt8 := b.take a ++ (xors ((b.drop a).take k) (xs.take k) ++ b.drop (a + k))
theorem xors_length (l xs : List UInt8) : (xors l xs).length = min l.length xs.length := by simp [xors]
theorem mk_length (b xs : List UInt8) (a k : Nat) (h1 : a + k ≤ b.length) (h2 : k ≤ xs.length) : (mk b xs a k).length = b.length := by
  unfold mk; simp [xors_length]; omega
theorem mk_zero (b xs : List UInt8) (a : Nat) : mk b xs a 0 = b := by simp [mk, xors]
theorem mk_at (b xs : List UInt8) (a k : Nat) (h1 : a + k < b.length) (h2 : k ≤ xs.length) : (mk b xs a k)[a + k]? = some b[a + k] := by
  unfold mk
  have hl : (xors ((b.drop a).take k) (xs.take k)).length = k := by simp [xors_length]; omega
  rw [List.getElem?_append_right (by simp; omega), List.getElem?_append_right (by rw [hl]; simp; omega), hl]
  simp
  rw [show a + k + (a + k - min a b.length - k) = a + k by omega]
  simp [h1]
theorem mk_set (b xs : List UInt8) (a k : Nat) (h1 : a + k < b.length) (h2 : k < xs.length) : (mk b xs a k).set (a + k) (b[a + k] ^^^ xs[k]) = mk b xs a (k + 1) := by
  unfold mk
  have hl : (xors ((b.drop a).take k) (xs.take k)).length = k := by simp [xors_length]; omega
  have hta : (b.take a).length = a := by simp; omega
  rw [List.set_append, if_neg (by omega), List.set_append, if_neg (by omega), hl, hta, show a + k - a - k = 0 by omega, List.drop_eq_getElem_cons h1, List.set_cons_zero]
  congr 1
  rw [List.take_succ_eq_append_getElem (show k < (b.drop a).length by simp; omega), List.take_succ_eq_append_getElem h2]
  unfold xors
  rw [List.zipWith_append (by simp; omega)]
  simp [Nat.add_assoc]
theorem mk_tells (b xs : List UInt8) (a k : Nat) (h1 : a + k ≤ b.length) (h2 : k ≤ xs.length) (h4 : k ≤ 4) (s : Nat) : sumOf s b = sumOf s (mk b xs a k) ↔ ∀ x ∈ xs.take k, x = 0 := by
  have e : b = b.take a ++ ((b.drop a).take k ++ b.drop (a + k)) := by
    rw [← List.drop_drop, List.take_append_drop, List.take_append_drop]
  have := tells (b.take a) ((b.drop a).take k) (xs.take k) (b.drop (a + k)) (by simp; omega) (by simp; omega) s
  rw [← e] at this
  exact this

end Go.Proofs.YtfgbhnchchdlcaaDoor
