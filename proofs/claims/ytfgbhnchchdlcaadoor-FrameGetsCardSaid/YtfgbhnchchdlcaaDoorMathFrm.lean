/-
  Layer 3 in plain numbers and lists: a frame's bytes; what a frame's head says; what is got; what is told of a changed body; all frames one behind the other.
-/
import Derived.Test.YtfgbhnchchdlcaaDoorVint6
import Derived.Test.YtfgbhnchchdlcaaDoorMathCrc
namespace Go.Proofs.YtfgbhnchchdlcaaDoor
set_option linter.unusedVariables false
set_option linter.unusedSimpArgs false

/-- a sum as four bytes, the lowest first -/
def sum4 (n : Nat) : List UInt8 := [(n % 256).toUInt8, (n / 256 % 256).toUInt8, (n / 65536 % 256).toUInt8, (n / 16777216 % 256).toUInt8]
theorem sum4_length (n : Nat) : (sum4 n).length = 4 := rfl
theorem u8_eq_of {a b : Nat} (ha : a < 256) (hb : b < 256) (h : a.toUInt8 = b.toUInt8) : a = b := by
  have := congrArg UInt8.toNat h
  rwa [toNat_small ha, toNat_small hb] at this
theorem sum4_inj {a b : Nat} (ha : a < 4294967296) (hb : b < 4294967296) (h : sum4 a = sum4 b) : a = b := by
  unfold sum4 at h
  simp only [List.cons.injEq, and_true] at h
  obtain ⟨h0, h1, h2, h3⟩ := h
  have e0 := u8_eq_of (by omega) (by omega) h0
  have e1 := u8_eq_of (by omega) (by omega) h1
  have e2 := u8_eq_of (by omega) (by omega) h2
  have e3 := u8_eq_of (by omega) (by omega) h3
  omega
/-- four bytes as a number -/
def num4 (a b c d : UInt8) : Nat := a.toNat + 256 * b.toNat + 65536 * c.toNat + 16777216 * d.toNat
theorem num4_lt (a b c d : UInt8) : num4 a b c d < 4294967296 := by
  have := a.toNat_lt; have := b.toNat_lt; have := c.toNat_lt; have := d.toNat_lt
  unfold num4; omega
theorem sum4_num4 (a b c d : UInt8) : sum4 (num4 a b c d) = [a, b, c, d] := by
  have ha := a.toNat_lt; have hb := b.toNat_lt; have hc := c.toNat_lt; have hd := d.toNat_lt
  have e : ∀ (n : Nat) (x : UInt8), n = x.toNat → n.toUInt8 = x := by intro n x h; subst h; simp
  unfold sum4 num4
  rw [e _ a (by omega), e _ b (by omega), e _ c (by omega), e _ d (by omega)]
theorem num4_is (a b c d : UInt8) (n : Nat) (hn : n < 4294967296) : (num4 a b c d = n) ↔ ([a, b, c, d] = sum4 n) := by
  constructor
  · intro h; rw [← h, sum4_num4]
  · intro h
    rw [← sum4_num4] at h
    exact sum4_inj (num4_lt _ _ _ _) hn h

/-- a frame's bytes -/
def frameB (l : List UInt8) : List UInt8 := Lib.uvarint l.length ++ (sum4 (sumOf 0 l) ++ l)
/-- the number that a frame's head says, and how many bytes it has: 0, if there is none -/
def hN (l : List UInt8) : Nat := match rd 0 0 l with | none => 0 | some (n, _) => if n ≤ 1048576 then n else 0
def hS (l : List UInt8) : Nat := match rd 0 0 l with | none => 0 | some (n, r) => if n ≤ 1048576 then l.length - r.length else 0
def fits (l : List UInt8) : Bool := decide (hS l ≠ 0 ∧ hS l + 4 + hN l ≤ l.length)
def bodyF (l : List UInt8) : List UInt8 := (l.drop (hS l + 4)).take (hN l)
def sumOk (l : List UInt8) : Bool := (l.drop (hS l)).take 4 == sum4 (sumOf 0 (bodyF l))
def gE (l : List UInt8) : Nat := if fits l then (if sumOk l then 0 else 13) else 2
def gB (l : List UInt8) : List UInt8 := if fits l && sumOk l then bodyF l else []
def gN (l : List UInt8) : Nat := if fits l && sumOk l then hS l + 4 + hN l else 0

theorem uv_len3 {n : Nat} (h : n < 2097152) : (Lib.uvarint n).length ≤ 3 := by
  by_cases h1 : n < 128
  · rw [Lib.uvarint_small h1]; simp
  · rw [Lib.uvarint_big (by omega)]
    by_cases h2 : n / 128 < 128
    · rw [Lib.uvarint_small h2]; simp
    · rw [Lib.uvarint_big (by omega)]
      rw [Lib.uvarint_small (by omega)]; simp
theorem uv_pos (n : Nat) : 1 ≤ (Lib.uvarint n).length := by
  by_cases h1 : n < 128
  · rw [Lib.uvarint_small h1]; simp
  · rw [Lib.uvarint_big (by omega)]; simp
theorem uv_big20 : (Lib.uvarint 1048576).length = 3 := by decide +kernel

theorem hS_le (l : List UInt8) : hS l ≤ l.length := by
  unfold hS; split
  · omega
  · split <;> omega
theorem hN_le (l : List UInt8) : hN l ≤ 1048576 := by
  unfold hN; split
  · omega
  · split <;> omega
theorem head_some {l : List UInt8} {n : Nat} {r : List UInt8} (h : rd 0 0 l = some (n, r)) (hn : n ≤ 1048576) : hN l = n ∧ hS l = l.length - r.length := by
  unfold hN hS; rw [h]; simp [hn]
theorem head_big {l : List UInt8} {n : Nat} {r : List UInt8} (h : rd 0 0 l = some (n, r)) (hn : ¬ n ≤ 1048576) : hN l = 0 ∧ hS l = 0 := by
  unfold hN hS; rw [h]; simp [hn]
theorem head_none {l : List UInt8} (h : rd 0 0 l = none) : hN l = 0 ∧ hS l = 0 := by
  unfold hN hS; rw [h]; exact ⟨rfl, rfl⟩
theorem head_own {n : Nat} (hn : n ≤ 1048576) (r : List UInt8) : hN (Lib.uvarint n ++ r) = n ∧ hS (Lib.uvarint n ++ r) = (Lib.uvarint n).length := by
  have h := rd_own (n := n) (by unfold two64; omega) r
  have h2 := head_some h hn
  refine ⟨h2.1, ?_⟩
  rw [h2.2, List.length_append]; omega

/-- three bytes are enough to tell a head -/
theorem head3 (l : List UInt8) : (mostB (l.take 3) 1048576 = true ∧ hN l = 0 ∧ hS l = 0) ∨
    (mostB (l.take 3) 1048576 = false ∧ mostV (l.take 3) 1048576 = hN l ∧ (l.take 3).length = hS l + (mostR (l.take 3) 1048576).length ∧ 1 ≤ hS l) := by
  cases h3 : rd 0 0 (l.take 3) with
  | none =>
    left
    obtain ⟨h31, h32, h33, h34⟩ := rest_none h3
    refine ⟨?_, ?_⟩
    · unfold mostB; split
      · exact h32
      · rfl
    · cases h : rd 0 0 l with
      | none => exact head_none h
      | some p =>
        obtain ⟨n, r⟩ := p
        by_cases hn : n ≤ 1048576
        · exfalso
          have hl := rd_is h
          have h1 := uv_len3 (n := n) (by omega)
          have ht : l.take 3 = Lib.uvarint n ++ r.take (3 - (Lib.uvarint n).length) := by
            rw [hl, List.take_append, List.take_of_length_le h1]
          rw [ht, rd_own (by unfold two64; omega)] at h3
          cases h3
        · exact head_big h hn
  | some p =>
    obtain ⟨n, r⟩ := p
    obtain ⟨h31, h32, h33, h34⟩ := rest_some h3
    have hlt := rd_lt h3
    have ht := rd_is h3
    have hl : l = Lib.uvarint n ++ (r ++ l.drop 3) := by
      rw [← List.append_assoc, ← ht, List.take_append_drop]
    have h : rd 0 0 l = some (n, r ++ l.drop 3) := by
      conv => lhs; rw [hl]
      exact rd_own hlt _
    by_cases hn : n ≤ 1048576
    · right
      have hok : mostOk (l.take 3) 1048576 = true := by unfold mostOk; rw [decide_eq_true]; rw [h33]; omega
      have hh := head_some h hn
      have hlen : (l.take 3).length = (Lib.uvarint n).length + r.length := by rw [ht, List.length_append]
      have hlen2 : l.length = (Lib.uvarint n).length + (r.length + (l.drop 3).length) := by
        conv => lhs; rw [hl]
        simp only [List.length_append]
      have hp := uv_pos n
      refine ⟨?_, ?_, ?_, ?_⟩
      · unfold mostB; rw [if_pos hok]; exact h32
      · unfold mostV; rw [if_pos hok, h33, hh.1]
      · unfold mostR; rw [if_pos hok, h31, hh.2, List.length_append]; omega
      · rw [hh.2, List.length_append]; omega
    · left
      have hok : mostOk (l.take 3) 1048576 = false := by unfold mostOk; rw [decide_eq_false]; rw [h33]; omega
      refine ⟨?_, head_big h hn⟩
      unfold mostB; rw [hok]; rfl

/-- what the document's source tells of a frame -/
theorem ref_bad (l : List UInt8) : cutB (cutR (mostR l 1048576) 4) (cutB (mostR l 1048576) (mostB l 1048576) 4) (mostV l 1048576) = !fits l := by
  cases h : rd 0 0 l with
  | none =>
    obtain ⟨h1, h2, h3, h4⟩ := rest_none h
    have hh := head_none h
    have : mostB l 1048576 = true := by
      unfold mostB; split
      · exact h2
      · rfl
    unfold fits; rw [this, hh.2]; unfold cutB; simp
  | some p =>
    obtain ⟨n, r⟩ := p
    obtain ⟨h1, h2, h3, h4⟩ := rest_some h
    by_cases hn : n ≤ 1048576
    · have hh := head_some h hn
      have hl := rd_is h
      have hok : mostOk l 1048576 = true := by unfold mostOk; rw [decide_eq_true]; rw [h3]; omega
      have hlen : l.length = (Lib.uvarint n).length + r.length := by rw [← List.length_append, ← hl]
      have hp := uv_pos n
      have hf : fits l = decide (4 + n ≤ r.length) := by
        unfold fits; rw [hh.1, hh.2]
        rw [show l.length - r.length = (Lib.uvarint n).length by omega]
        exact decide_eq_decide.2 ⟨fun h => by omega, fun h => by omega⟩
      unfold mostR mostB mostV; rw [hok, if_pos rfl, if_pos rfl, if_pos rfl, h1, h2, h3, hf]
      clear hf hlen hh hl h h1 h2 h3 h4 hok
      by_cases h4 : 4 ≤ r.length
      · have hc4 : cutOk r 4 = true := by unfold cutOk; rw [decide_eq_true]; omega
        have e4 : cutR r 4 = r.drop 4 := by unfold cutR; rw [hc4]; rfl
        have e5 : cutB r false 4 = false := by unfold cutB; rw [hc4]; rfl
        rw [e4, e5]
        unfold cutB cutOk
        rw [List.length_drop]
        by_cases h5 : 4 + n ≤ r.length
        · rw [decide_eq_true (by omega), decide_eq_true h5]; rfl
        · rw [decide_eq_false (by omega), decide_eq_false h5]; rfl
      · have hc4 : cutOk r 4 = false := by unfold cutOk; rw [decide_eq_false]; omega
        have e5 : cutB r false 4 = true := by unfold cutB; rw [hc4]; rfl
        rw [e5, decide_eq_false (by omega)]
        unfold cutB; simp
    · have hh := head_big h hn
      have hok : mostOk l 1048576 = false := by unfold mostOk; rw [decide_eq_false]; rw [h3]; omega
      unfold mostR mostB mostV fits; rw [hok, hh.2]; unfold cutB; simp

theorem ref_fit {l : List UInt8} (h : fits l = true) : cutT (mostR l 1048576) 4 = (l.drop (hS l)).take 4 ∧ ((l.drop (hS l)).take 4).length = 4 ∧ mostV l 1048576 = hN l ∧
    cutT (cutR (mostR l 1048576) 4) (mostV l 1048576) = bodyF l ∧ cutR (cutR (mostR l 1048576) 4) (mostV l 1048576) = l.drop (hS l + 4 + hN l) ∧ mostB l 1048576 = false := by
  unfold fits at h
  have h0 := of_decide_eq_true h
  cases hr : rd 0 0 l with
  | none => rw [(head_none hr).2] at h0; omega
  | some p =>
    obtain ⟨n, r⟩ := p
    obtain ⟨h1, h2, h3, h4⟩ := rest_some hr
    by_cases hn : n ≤ 1048576
    · have hh := head_some hr hn
      have hl := rd_is hr
      have hok : mostOk l 1048576 = true := by unfold mostOk; rw [decide_eq_true]; rw [h3]; omega
      have hlen : l.length = (Lib.uvarint n).length + r.length := by rw [← List.length_append, ← hl]
      have hs : hS l = (Lib.uvarint n).length := by rw [hh.2]; omega
      have hd : l.drop (hS l) = r := by rw [hs]; conv => lhs; rw [hl]
                                        simp
      have hd4 : l.drop (hS l + 4) = r.drop 4 := by rw [← hd, List.drop_drop]
      have hd5 : l.drop (hS l + 4 + hN l) = (r.drop 4).drop n := by rw [← hd4, List.drop_drop, hh.1]
      have hb : bodyF l = (r.drop 4).take n := by unfold bodyF; rw [hd4, hh.1]
      rw [hd, hd5, hb]
      rw [hs, hh.1] at h0
      have hc4 : cutOk r 4 = true := by unfold cutOk; rw [decide_eq_true]; omega
      have hcn : cutOk (r.drop 4) n = true := by unfold cutOk; rw [decide_eq_true]; rw [List.length_drop]; omega
      unfold mostR mostB mostV
      rw [hok, if_pos rfl, if_pos rfl, if_pos rfl, h1, h2, h3, hh.1]
      have e4 : cutR r 4 = r.drop 4 := by unfold cutR; rw [hc4]; rfl
      refine ⟨?_, ?_, rfl, ?_, ?_, rfl⟩
      · unfold cutT; rw [hc4]; rfl
      · rw [List.length_take]; omega
      · rw [e4]; unfold cutT; rw [hcn]; rfl
      · rw [e4]; unfold cutR; rw [hcn]; rfl
    · rw [(head_big hr hn).2] at h0; omega

/-! ### What is put is got -/
theorem parts_of {n : Nat} (hn : n ≤ 1048576) (q c more : List UInt8) (hq : q.length = 4) (hc : c.length = n) :
    hN (Lib.uvarint n ++ (q ++ (c ++ more))) = n ∧ hS (Lib.uvarint n ++ (q ++ (c ++ more))) = (Lib.uvarint n).length ∧ fits (Lib.uvarint n ++ (q ++ (c ++ more))) = true ∧ bodyF (Lib.uvarint n ++ (q ++ (c ++ more))) = c ∧
      sumOk (Lib.uvarint n ++ (q ++ (c ++ more))) = (q == sum4 (sumOf 0 c)) := by
  obtain ⟨h1, h2⟩ := head_own hn (q ++ (c ++ more))
  have hp := uv_pos n
  have hb : bodyF (Lib.uvarint n ++ (q ++ (c ++ more))) = c := by
    unfold bodyF
    rw [h1, h2, ← List.drop_drop, List.drop_left, ← hq, List.drop_left, ← hc, List.take_left]
  refine ⟨h1, h2, ?_, hb, ?_⟩
  · unfold fits; rw [h1, h2, decide_eq_true]; simp only [List.length_append]; omega
  · unfold sumOk
    rw [hb, h2, List.drop_left, ← hq, List.take_left]
theorem frame_length (l : List UInt8) : (frameB l).length = (Lib.uvarint l.length).length + 4 + l.length := by
  unfold frameB; simp only [List.length_append, sum4_length]; omega
theorem got_own {l : List UInt8} (hl : l.length ≤ 1048576) (more : List UInt8) : gE (frameB l ++ more) = 0 ∧ gB (frameB l ++ more) = l ∧ gN (frameB l ++ more) = (frameB l).length := by
  have e : frameB l ++ more = Lib.uvarint l.length ++ (sum4 (sumOf 0 l) ++ (l ++ more)) := by unfold frameB; simp only [List.append_assoc]
  obtain ⟨h1, h2, h3, h4, h5⟩ := parts_of hl (sum4 (sumOf 0 l)) l more rfl rfl
  have h6 : sumOk (frameB l ++ more) = true := by rw [e, h5, beq_self_eq_true]
  rw [← e] at h1 h2 h3 h4
  unfold gE gB gN
  rw [h3, h6]
  refine ⟨rfl, h4, ?_⟩
  rw [frame_length]
  simp [h1, h2]

/-! ### What is told of a changed body -/
theorem mk_behind (p b xs : List UInt8) (a k : Nat) : mk (p ++ b) xs (p.length + a) k = p ++ mk b xs a k := by
  unfold mk
  have e1 : (p ++ b).take (p.length + a) = p ++ b.take a := by rw [List.take_append, List.take_of_length_le (by omega)]; simp
  have e2 : (p ++ b).drop (p.length + a) = b.drop a := by rw [List.drop_append, List.drop_of_length_le (by omega)]; simp
  have e3 : (p ++ b).drop (p.length + a + k) = b.drop (a + k) := by rw [Nat.add_assoc, List.drop_append, List.drop_of_length_le (by omega)]; simp
  rw [e1, e2, e3, List.append_assoc]
theorem told {l xs : List UInt8} (hl : l.length ≤ 1048576) (a k : Nat) (h1 : a + k ≤ l.length) (h2 : k ≤ xs.length) (h4 : k ≤ 4) (hk : 0 < k) (hx : ∀ h : 0 < xs.length, xs[0] ≠ 0) :
    gE (mk (frameB l) xs ((frameB l).length - l.length + a) k) = 13 := by
  have hlen := frame_length l
  have e0 : frameB l = (Lib.uvarint l.length ++ sum4 (sumOf 0 l)) ++ l := by unfold frameB; rw [List.append_assoc]
  have el : (frameB l).length - l.length = (Lib.uvarint l.length ++ sum4 (sumOf 0 l)).length := by rw [List.length_append, sum4_length]; omega
  have e : mk (frameB l) xs ((frameB l).length - l.length + a) k = Lib.uvarint l.length ++ (sum4 (sumOf 0 l) ++ (mk l xs a k ++ [])) := by
    rw [el, e0, mk_behind, List.append_nil, List.append_assoc]
  obtain ⟨h1', h2', h3', h4', h5'⟩ := parts_of hl (sum4 (sumOf 0 l)) (mk l xs a k) [] rfl (mk_length l xs a k h1 h2)
  have hne : sum4 (sumOf 0 l) ≠ sum4 (sumOf 0 (mk l xs a k)) := by
    intro h
    have h := sum4_inj (sumOf_lt _ (by decide)) (sumOf_lt _ (by decide)) h
    have := (mk_tells l xs a k h1 h2 h4 0).1 h
    have h0 : 0 < xs.length := by omega
    exact hx h0 (this xs[0] (by
      rw [List.mem_take_iff_getElem]
      exact ⟨0, by omega, rfl⟩))
  rw [e]
  unfold gE
  rw [h3', h5', beq_eq_false_iff_ne.2 hne]
  rfl
/-! ### Frames one behind the other -/
def allB : Nat → List UInt8 → List (List UInt8)
  | 0, _ => []
  | f + 1, l => if gE l = 0 then gB l :: allB f (l.drop (gN l)) else []
def allN : Nat → List UInt8 → Nat
  | 0, _ => 0
  | f + 1, l => if gE l = 0 then gN l + allN f (l.drop (gN l)) else 0

theorem gE_zero {l : List UInt8} (h : gE l = 0) : 5 ≤ gN l ∧ gN l ≤ l.length := by
  unfold gE at h
  unfold gN
  cases hf : fits l
  · rw [hf] at h; simp at h
  · cases hs : sumOk l
    · rw [hf, hs] at h; simp at h
    · simp
      have := of_decide_eq_true (show decide (hS l ≠ 0 ∧ hS l + 4 + hN l ≤ l.length) = true from hf)
      omega
theorem gE_some (l : List UInt8) : gE l = 0 ∨ gE l = 2 ∨ gE l = 13 := by
  unfold gE; split
  · split
    · exact .inl rfl
    · exact .inr (.inr rfl)
  · exact .inr (.inl rfl)
theorem gN_zero {l : List UInt8} (h : gE l ≠ 0) : gN l = 0 ∧ gB l = [] := by
  unfold gE at h
  unfold gN gB
  cases hf : fits l
  · simp
  · cases hs : sumOk l
    · simp
    · rw [hf, hs] at h; simp at h
theorem all_step {f : Nat} {l : List UInt8} (h : gE l = 0) (hf : l.length ≤ f) : ∃ f', allB f l = gB l :: allB f' (l.drop (gN l)) ∧ allN f l = gN l + allN f' (l.drop (gN l)) ∧ (l.drop (gN l)).length ≤ f' ∧ f = f' + 1 := by
  have h2 := gE_zero h
  cases f with
  | zero => omega
  | succ f =>
    refine ⟨f, ?_, ?_, by rw [List.length_drop]; omega, rfl⟩
    · rw [allB, if_pos h]
    · rw [allN, if_pos h]
theorem all_stop {f : Nat} {l : List UInt8} (h : gE l ≠ 0) : allB f l = [] ∧ allN f l = 0 := by
  cases f with
  | zero => exact ⟨rfl, rfl⟩
  | succ f => exact ⟨by rw [allB, if_neg h], by rw [allN, if_neg h]⟩
theorem allN_le : ∀ (f : Nat) (l : List UInt8), allN f l ≤ l.length
  | 0, _ => Nat.zero_le _
  | f + 1, l => by
    rw [allN]; split
    · rename_i h
      have h2 := gE_zero h
      have := allN_le f (l.drop (gN l))
      rw [List.length_drop] at this
      omega
    · omega
theorem allB_len : ∀ (f : Nat) (l : List UInt8), 5 * (allB f l).length ≤ l.length
  | 0, _ => Nat.zero_le _
  | f + 1, l => by
    rw [allB]; split
    · rename_i h
      have h2 := gE_zero h
      have := allB_len f (l.drop (gN l))
      rw [List.length_drop] at this
      simp only [List.length_cons]
      omega
    · simp
/-- where the frames of l have come so far: pre has been told, and what follows begins at pos -/
def Sofar (l : List UInt8) (pre : List (List UInt8)) (pos : Nat) : Prop :=
  pos ≤ l.length ∧ ∃ f, allB l.length l = pre ++ allB f (l.drop pos) ∧ allN l.length l = pos + allN f (l.drop pos) ∧ (l.drop pos).length ≤ f
theorem Sofar.start (l : List UInt8) : Sofar l [] 0 := ⟨Nat.zero_le _, l.length, by simp, by simp, by simp⟩
theorem Sofar.step {l : List UInt8} {pre : List (List UInt8)} {pos : Nat} (h : Sofar l pre pos) (hg : gE (l.drop pos) = 0) : Sofar l (pre ++ [gB (l.drop pos)]) (pos + gN (l.drop pos)) := by
  obtain ⟨h0, f, h1, h2, h3⟩ := h
  obtain ⟨f', e1, e2, e3, _⟩ := all_step hg h3
  have hz := gE_zero hg
  rw [List.length_drop] at hz
  rw [List.drop_drop] at e1 e2 e3
  exact ⟨by omega, f', by rw [h1, e1]; simp, by rw [h2, e2]; omega, e3⟩
theorem Sofar.stop {l : List UInt8} {pre : List (List UInt8)} {pos : Nat} (h : Sofar l pre pos) (hg : gE (l.drop pos) ≠ 0) : allB l.length l = pre ∧ allN l.length l = pos := by
  obtain ⟨h0, f, h1, h2, h3⟩ := h
  obtain ⟨e1, e2⟩ := all_stop (f := f) hg
  exact ⟨by rw [h1, e1]; simp, by rw [h2, e2]; rfl⟩
theorem gE_nil : gE [] = 2 := by decide
end Go.Proofs.YtfgbhnchchdlcaaDoor
