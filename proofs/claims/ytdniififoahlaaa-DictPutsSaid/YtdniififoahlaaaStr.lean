/-
  Slices of texts: what one reads as; the document's Names; a slice of texts that came in.
-/
import Derived.Test.YtdniififoahlaaaOpenG
import Derived.Test.YtdniififoahlaaaRuns2
namespace Go.Proofs.Ytdniififoahlaaa
set_option linter.unusedVariables false
set_option linter.unusedSimpArgs false
set_option maxRecDepth 100000
open Go.ChangeShapes Go.WideShapes Go.ChangeAt Go.RowKit

/-- a text's cell -/
def sv (l : List UInt8) : Value := .string ⟨l.toArray⟩
theorem sv_one (l : List UInt8) : (sv l).oneCell' = true := rfl
theorem el_str : El 22 9 (.string ⟨#[]⟩) 16 := ⟨Try.underlying22, by kernel_rfl, rfl, by decide, by kernel_rfl, fun _ => by kernel_rfl⟩
theorem strs_in {H : Type} {enc : TypeId × Value → H} {W : World} {base : Nat} {v : Value} {d : DataW H} {p : List MemPlace} (hv : Value.okWide Try.prog W .any base 22 v)
    (h : DataW.Trod enc Try.prog W 0 (fun _ => true) true 22 v d p) : ∃ l, Vs sv W v l ∧ l.length ≤ 9223372036854775807 ∧ (∀ x ∈ l, x.length ≤ 9223372036854775807) ∧ ∀ k, v.ownBlock = some k → k < W.heap.size :=
  vs_inP Try.underlying22 (by kernel_rfl) (f := sv) (fun (x : List UInt8) => x.length ≤ 9223372036854775807) (fun n V y hy => by
    obtain ⟨b, e, _, hw⟩ := DataW.trod_string Try.underlying9 hy
    exact ⟨b.data.toList, by simpa [sv] using e, by simpa [maxLen] using hw⟩) hv h

/-- append of a slice's elements onto a row of the call's own: the operation alone -/
theorem wp_appG {α : Type} {f : α → Value} {E T : TypeId} {z : Value} {by_ : Nat} (hE : El T E z by_) (hf1 : ∀ x, (f x).oneCell' = true) {w : World} {o : Oper} {a : Act} {K : Act → World → Prop} {Q : Exit → Act → World → Prop} (s x : Operand)
    (ho : o.op = .call { callee := .builtin .append, args := #[s, x], argTypes := #[T, T] })
    (B : Nat) (v y : Value) (l m : List α) (hs : a.eval s = v) (hown : Ow f E w B v l) (hx : a.eval x = y) (hy : Vs f w y m)
    (hl : l.length + m.length < 1099511627776) (hB : B ≤ w.heap.size)
    (h : ∀ v' w', Ow f E w' B v' (l ++ m) → Fr (fun k => v.ownBlock = some k) w w' → K (a.put o.dst v') w') : o.wp Try.prog a w K Q := by
  obtain ⟨i, hi, hz0, hz1, hz2⟩ := info_parts hE.info
  have hs' := hE.small
  have hzc : z.cells.size = 1 := by rw [hE.cells]; rfl
  have hbl : (l.length + m.length) * by_ ≤ 140737488355328 := by
    have := Nat.mul_le_mul (show l.length + m.length ≤ 1099511627776 by omega) hs'
    omega
  obtain ⟨A, c, rfl, hmc, hn, hcells⟩ := hy
  cases A with
  | some ad =>
    refine wp_append_own w s x T ho B E i z 1 by_ hE.under hi hz0 hz1 hz2 hzc (by omega) v l.length (l.map f) hs hown ad m.length c (m.map f) hx (by simp) ?_ (by intro u hu; obtain ⟨b, _, rfl⟩ := List.mem_map.1 hu; exact hf1 b) (by unfold maxLen; omega) (by omega) hB ?_
    · intro j u hu
      have hj : j < m.length := by simpa using (List.getElem?_eq_some_iff.1 hu).1
      rw [hcells ad rfl j hj]
      simpa [hj] using hu
    · intro v' w' h1 h2 _
      refine h v' w' ?_ (Fr.of_grown h2)
      unfold Ow; simpa using h1
  | none =>
    have hm : m = [] := List.eq_nil_of_length_eq_zero (by have := hn rfl; omega)
    subst hm
    have hc : c = 0 := hn rfl
    subst hc
    have hrun := run_append_owned_none (P := Try.prog) (w := w) B T o.type E i 1 hE.under hi v l.length (l.map f) hown
    unfold Oper.wp
    have hx' : a.eval x = .slice none 0 0 := hx
    simp [execOp, ho, resolve, invoke, builtin, hs, hx', hrun, Result.andThen]
    exact h v w (by simpa using hown) (Fr.refl _ _)
/-- .. as one step of a region that draws -/
theorem step_appG {α : Type} {f : α → Value} {E T : TypeId} {z : Value} {by_ : Nat} (hE : El T E z by_) (hf1 : ∀ x, (f x).oneCell' = true) {w : World} {ops : Array Oper} {o : Oper} {a : Act} {K : Act → World → Prop} {Q : Exit → Act → World → Prop} {Els : Prop} (hgd : o.guard = none) (s x : Operand)
    (ho : o.op = .call { callee := .builtin .append, args := #[s, x], argTypes := #[T, T] })
    (B : Nat) (v y : Value) (l m : List α) (hs : a.eval s = v) (hown : Ow f E w B v l) (hx : a.eval x = y) (hy : Vs f w y m)
    (hl : l.length + m.length < 1099511627776) (hB : B ≤ w.heap.size)
    (h : ∀ v' w', Ow f E w' B v' (l ++ m) → Fr (fun k => v.ownBlock = some k) w w' → K (a.put o.dst v') w') : if Region.wanted o (yielded ops a.tmps) = true then Oper.wp Try.prog o a w K Q else Els := by
  have hw : Region.wanted o (yielded ops a.tmps) = true := by simp [Region.wanted, hgd]
  rw [if_pos hw]
  exact wp_appG hE hf1 s x ho B v y l m hs hown hx hy hl hB h

set_option maxHeartbeats 1000000 in
theorem names_any (v1 v2 : Value) (l1 l2 : List (List UInt8)) (w : World) (h1 : Vs sv w v1 l1) (h2 : Vs sv w v2 l2) (hl1 : l1.length ≤ 9223372036854775807) :
    Calls Try.prog 15 #[v1, v2] w fun e w' => e = .returned (.bool (l1 == l2)) ∧ Fr Non w w' := by
  obtain ⟨A1, c1, rfl, hc1, hn1, hcell1⟩ := h1
  obtain ⟨A2, c2, rfl, hc2, hn2, hcell2⟩ := h2
  have HN1 := Lib.hid hn1
  have HN2 := Lib.hid hn2
  have HC1 := Lib.hid hcell1
  have HC2 := Lib.hid hcell2
  clear hn1 hn2 hcell1 hcell2
  by_cases hlen : l1.length = l2.length
  · have HL := Lib.hid hlen
    have hb : ((l1.length : Int) != l2.length) = false := by rw [hlen]; simp
    have hle : l1.length ≤ l2.length := by omega
    have hge : l2.length ≤ l1.length := by omega
    clear hlen
    go_enter Try.func15, Try.ntmps15
    go_wp2
    go_loopw [5] (fun i wr => ∃ k : Nat, k ≤ l1.length ∧ i = .int .i64 k ∧ Hid (l1.take k = l2.take k) ∧ ∃ n, wr = w.drewN n) (fun i _ => l1.length - (intOf i).toNat)
    case atStart => exact ⟨0, Nat.zero_le _, rfl, Lib.hid rfl, 0, rfl⟩
    case round =>
      obtain ⟨k, hk, rfl, HT, n, rfl⟩ := hrel
      by_cases hlt : k < l1.length
      · cases A1 with
        | none => have := HN1.out rfl; omega
        | some a1 =>
          cases A2 with
          | none => have := HN2.out rfl; omega
          | some a2 =>
            have g1 : w.cell? (a1.add k) = some (sv l1[k]) := HC1.out a1 rfl k hlt
            have g2 : w.cell? (a2.add k) = some (sv (l2[k]'(by omega))) := HC2.out a2 rfl k (by omega)
            unfold sv at g1 g2
            by_cases he : l1[k] = l2[k]'(by omega)
            · have HE := Lib.hid (take_eqS hlt (by omega) HT.out he)
              rw [← he] at g2
              clear he
              generalize l1[k] = x at *
              go_wp2
              go_quiet (fail)
              go_wp2
              go_roundw
              case rel => exact ⟨k + 1, by omega, by go_num, HE, _, rfl⟩
              case measure => simp [intOf]; omega
            · have HE := Lib.hid (take_neS hlt (by omega) he)
              have hx : (l1[k] == l2[k]'(by omega)) = false := by rw [beq_eq_false_iff_ne]; exact he
              clear he
              generalize l1[k] = x at *
              generalize l2[k]'(by omega) = y at *
              go_wp2
              go_quiet (fail)
              go_wp2
              go_ret
              exact ⟨ret_boolE (beq_eq_false_iff_ne.2 HE.out).symm, ((Fr.refl _ _).drewN _).drewN _⟩
      · have HE : Hid (l1 = l2) := Lib.hid (by
          have := HT.out
          rwa [List.take_of_length_le (by omega), List.take_of_length_le (by omega)] at this)
        go_wp2
        go_ret
        exact ⟨ret_boolE (beq_iff_eq.2 HE.out).symm, (Fr.refl _ _).drewN _⟩
  · have hb : ((l1.length : Int) != l2.length) = true := by rw [bne_iff_ne]; omega
    have HE : Hid (l1 ≠ l2) := Lib.hid (fun e => hlen (by rw [e]))
    clear hlen
    go_enter Try.func15, Try.ntmps15
    go_wp2
    go_ret
    exact ⟨ret_boolE (beq_eq_false_iff_ne.2 HE.out).symm, Fr.refl _ _⟩
end Go.Proofs.Ytdniififoahlaaa
