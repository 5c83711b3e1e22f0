/-
  A map of texts to numbers of the call's own: which texts it has (ks), and what it says of each (g); made, written, asked, its keys in order.
-/
import Derived.Test.YtdniififoahlaaaKeys
import Derived.Test.YtdniififoahlaaaStr
import Derived.Maps.OwnSet
import Derived.Maps.OwnOps
namespace Go.Proofs.Ytdniififoahlaaa
set_option linter.unusedVariables false
set_option linter.unusedSimpArgs false
set_option maxRecDepth 100000
open Go.RowKit Go.Maps Go.Sort

/-- block b is a map of at most n texts: those of ks; of each it says g -/
def MapW (w : World) (b n : Nat) (ks : List (List UInt8)) (g : List UInt8 → Int) : Prop :=
  ∃ D : DataW Unit, w.ownsMap Try.prog 9 (plainElem Try.prog 2) b n D ∧ (∀ x, has D (.string x) = decide (x ∈ ks)) ∧ ∀ x, x ∈ ks → D.atKey (.string x) (.lit (.int .i64 0)) = .lit (.int .i64 (g x))
theorem MapW.lt {w : World} {b n : Nat} {ks : List (List UInt8)} {g : List UInt8 → Int} (h : MapW w b n ks g) : b < w.heap.size := by
  obtain ⟨D, h1, _⟩ := h; exact h1.lt
theorem MapW.fr {S : Nat → Prop} {w w' : World} {b n : Nat} {ks : List (List UInt8)} {g : List UInt8 → Int} (h : MapW w b n ks g) (hf : Fr S w w') (hn : ¬ S b) : MapW w' b n ks g := by
  obtain ⟨D, h1, h2, h3⟩ := h
  have hlt := h1.lt
  obtain ⟨es, clock, hb, F, hs, hD⟩ := h1
  exact ⟨D, ⟨es, clock, (hf.block b hlt hn).trans hb, F, hs, hD⟩, h2, h3⟩
theorem MapW.non {w w' : World} {b n : Nat} {ks : List (List UInt8)} {g : List UInt8 → Int} (h : MapW w b n ks g) (hf : Fr Non w w') : MapW w' b n ks g := h.fr hf fun e => e
theorem MapW.congr {w : World} {b n : Nat} {ks ks' : List (List UInt8)} {g g' : List UInt8 → Int} (h : MapW w b n ks g) (hk : ∀ x, x ∈ ks' ↔ x ∈ ks) (hg : ∀ x, x ∈ ks → g' x = g x) : MapW w b n ks' g' := by
  obtain ⟨D, h1, h2, h3⟩ := h
  refine ⟨D, h1, fun x => by rw [h2]; simp only [hk], fun x hx => ?_⟩
  have hx' := (hk x).1 hx
  rw [hg x hx']; exact h3 x hx'
theorem MapW.made (w : World) (g : List UInt8 → Int) : MapW (w.alloc (.map #[] 0)) w.heap.size 0 [] g :=
  ⟨.map [], World.ownsMap_made w _ _ _, fun x => by simp [has], fun x hx => by simp at hx⟩

theorem keyLit (x : List UInt8) : WideAt.IsKeyLit (.string x) := trivial
theorem keyStr {x : List UInt8} (hx : x.length ≤ maxLen) : keyOf Try.prog 9 (.string ⟨x.toArray⟩) = some (.string x) := by
  have := Go.WideMaps.keyOf_string_mk (P := Try.prog) Try.underlying9 (s := ⟨x.toArray⟩) (by simpa [ByteArray.size] using hx)
  simpa using this

theorem MapW.put {w w' : World} {b n : Nat} {ks : List (List UInt8)} {g : List UInt8 → Int} {D : DataW Unit} (h1 : w.ownsMap Try.prog 9 (plainElem Try.prog 2) b n D) (h2 : ∀ x, has D (.string x) = decide (x ∈ ks)) (h3 : ∀ x, x ∈ ks → D.atKey (.string x) (.lit (.int .i64 0)) = .lit (.int .i64 (g x)))
    (y : List UInt8) (v : Int) (h : w'.ownsMap Try.prog 9 (plainElem Try.prog 2) b (n + 1) (D.put (.string y) (.lit (.int .i64 v)))) : MapW w' b (n + 1) (y :: ks) (fun x => if x = y then v else g x) := by
  have hm := h1.isMap
  refine ⟨_, h, fun x => ?_, fun x hx => ?_⟩
  · by_cases he : x = y
    · subst he; rw [has_put_same hm (keyLit x)]; simp
    · rw [has_put_other (by simpa using he), h2]; simp [he]
  · by_cases he : x = y
    · subst he; rw [atKey_put_same hm (keyLit x)]; simp
    · rw [atKey_put_other (by simpa using he)]
      simp only [if_neg he]
      exact h3 x (by simpa [he] using hx)

/-- 'm[y] = v' -/
theorem wpList_putM (w : World) {ops : Array Oper} {rest : List Oper} {o : Oper} {a : Act} {Q : Exit → Act → World → Prop} (hg : o.guard = none) (m x v : Operand) (hop : o.op = Op.mapUpdate 33 m x v)
    (b n : Nat) (ks : List (List UInt8)) (g : List UInt8 → Int) (hm : a.eval m = .map (some b)) (hown : MapW w b n ks g) (hn : n < 1000000000) (y : List UInt8) (z : Int) (hx : a.eval x = .string ⟨y.toArray⟩) (hv : a.eval v = .int .i64 z)
    (hy : y.length ≤ 9223372036854775807) (hz1 : -9223372036854775808 ≤ z) (hz2 : z ≤ 9223372036854775807)
    (hK : ∀ w', MapW w' b (n + 1) (y :: ks) (fun u => if u = y then z else g u) → Fr (One b) w w' → wpList Try.prog ops Q rest (a.put o.dst undef) w') : wpList Try.prog ops Q (o :: rest) a w := by
  obtain ⟨D, h1, h2, h3⟩ := hown
  refine wpList_mapUpdate_own w hg m x v 33 hop 9 2 (string_keyed Try.underlying9) Try.underlying33 _ b n D hm h1 (by unfold maxLen; omega) _ _ (.string y) hx hv (keyStr (by simpa [maxLen] using hy)) (.lit (.int .i64 z)) [] (plainElem_int Try.underlying2 (WalkArith.wf_i64 ⟨hz1, hz2⟩)) ?_
  intro w' hw' hg'
  exact hK w' (MapW.put h1 h2 h3 y z hw') ((Fr.of_grown hg').mono fun k _ e => by simpa [One, eq_comm] using e)

/-- 'm[y]', y being among them -/
theorem MapW.look {w : World} {b n : Nat} {ks : List (List UInt8)} {g : List UInt8 → Int} (h : MapW w b n ks g) {y : List UInt8} (hy : y ∈ ks) (hl : y.length ≤ 9223372036854775807) : (Instr.lookup 33 (.map (some b)) (.string ⟨y.toArray⟩) false).run Try.prog w = .ok (.int .i64 (g y)) w := by
  obtain ⟨D, h1, h2, h3⟩ := h
  obtain ⟨c, hr, hc, _⟩ := h1.lookup_int (string_keyed Try.underlying9) Try.underlying33 Try.underlying2 (Try.zeroValue2 w) (keyStr (by simpa [maxLen] using hl))
  rw [h3 y hy] at hc
  obtain rfl : g y = c := by simpa using hc
  exact hr

theorem MapW.keys {w : World} {b n : Nat} {ks : List (List UInt8)} {g : List UInt8 → Int} {D : DataW Unit} (h1 : w.ownsMap Try.prog 9 (plainElem Try.prog 2) b n D) (h2 : ∀ x, has D (.string x) = decide (x ∈ ks)) {ss : List (List UInt8)} (hp : ss.Perm (strKeys D)) : ss.Nodup ∧ ∀ x, x ∈ ss ↔ x ∈ ks := by
  have ht := h1.tidy (string_keyed Try.underlying9)
  obtain ⟨es, rfl, hpw⟩ := ht
  obtain ⟨es', he, hk⟩ := h1.keysOf
  obtain rfl : es = es' := by simpa using he
  have hks : ∀ p ∈ es, ∃ x, p.1 = .string x := by
    intro p hp'
    obtain ⟨key, hkey⟩ := hk p hp'
    obtain ⟨x, _, hx, _⟩ := Maps.keyOf_str Try.underlying9 hkey
    exact ⟨x, hx⟩
  have hnd : (strKeys (.map es : DataW Unit)).Nodup := by
    show (es.map fun p => strOf p.1).Nodup
    refine List.pairwise_map.2 (hpw.imp_of_mem fun {p q} hp' hq' hne e => hne ?_)
    obtain ⟨a, ha⟩ := hks p hp'
    obtain ⟨b, hb⟩ := hks q hq'
    rw [ha, hb] at e ⊢
    exact congrArg _ e
  refine ⟨hp.nodup_iff.2 hnd, fun x => ?_⟩
  rw [hp.mem_iff]
  have h3 := h2 x
  rw [has_eq] at h3
  have h4 : es.any (fun p => p.1.sameKey (.string x)) = true ↔ x ∈ ks := by rw [h3]; simp
  rw [← h4, List.any_eq_true]
  show x ∈ es.map (fun p => strOf p.1) ↔ _
  rw [List.mem_map]
  constructor
  · rintro ⟨p, hp', rfl⟩
    obtain ⟨y, hy⟩ := hks p hp'
    exact ⟨p, hp', by rw [hy]; exact WideAt.sameKey_self (keyLit y)⟩
  · rintro ⟨p, hp', h5⟩
    exact ⟨p, hp', by rw [WideAt.sameKey_eq h5]; rfl⟩
end Go.Proofs.Ytdniififoahlaaa
