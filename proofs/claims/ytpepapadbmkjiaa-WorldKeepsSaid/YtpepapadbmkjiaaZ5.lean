/-
  Joined: Wld5, SlcN, OpenA, WldL1, WldL2, WldL3
-/
import Derived.Lib.Zigzag
import Derived.Deep.QuietTactic
import Derived.BigQuiet
import Derived.Deep.RegionHeld3
import Derived.Deep.DrawnRows
import Derived.Laws.StructEq
import Derived.Laws.Rows
import Derived.Laws.ResultCell
import Derived.Test.YtpepapadbmkjiaaZ4
import Derived.Test.YtpepapadbmkjiaaZ1
import Derived.BigFrame
import Derived.Test.YtpepapadbmkjiaaZ3
import Derived.Lib.SmallJoins
import Derived.ProofKit
import Derived.OpenShut
import Derived.Lib.SlBytesConst
set_option linter.unusedVariables false
set_option linter.unusedSimpArgs false
set_option maxRecDepth 100000
namespace Go.Proofs.Ytpepapadbmkjiaa
open Go.RowKit
set_option maxHeartbeats 4000000 in
theorem wput24_any (g : Nat) (n : Tx) (v : Value) (b : List UInt8) (fresh : Bool) (w : World) (hn : n.length ≤ 1000000000) (hv : ∀ W', Fr (One g) w W' → Bs W' v b) (hbl : b.length ≤ 1048576) (h : WdB w g (-1) false 0 0) :
    Calls Try.prog 33 #[ptr g, .string ⟨n.toArray⟩, v, .bool fresh] w fun e w' => e = .returned (.int .i64 (if nm24 n then 0 else 1)) ∧ Fr (One g) w w' := by
  have HN := Lib.hid (dwname_any n w hn)
  have HV := Lib.hid hv
  have HBL := Lib.hid hbl
  obtain ⟨Ab, cb, rfl⟩ := Vs.shape (f := bv) (hv w (Fr.refl _ _))
  have hd : decide ((1048576 : Int) < (b.length : Int)) = false := by simp; omega
  clear hv hbl
  by_cases hb : nm24 n = true
  · rw [hb] at HN ⊢
    have hB := Lib.hid h
    clear h hb
    go_enter Try.func33, Try.ntmps33
    go_wp2_with fail
    refine HN.out.mono ?_
    rintro e w0 ⟨rfl, rfl⟩
    go_wp2_with fail
    refine (wstep_any g 0 w hB.out).mono ?_
    rintro e w1 ⟨rfl, h1, F1⟩
    replace h1 := Lib.hid h1
    replace F1 := Lib.hid F1
    go_wp2_with fail
    refine (wfault_any g 1 w1 h1.out).mono ?_
    rintro e w2 ⟨rfl, h2, F2⟩
    replace h2 := Lib.hid h2
    have F12 := Lib.hid (F1.out.trans F2)
    clear F1 F2
    have HV2 : Hid (∀ W', Fr (One g) w2 W' → Bs W' (.slice Ab b.length cb) b) := Lib.hid (fun W' hf => HV.out W' (F12.out.trans hf))
    cases fresh
    · go_wp2_with fail
      refine (wlay_any g n (.slice Ab b.length cb) b w2 HV2.out HBL.out h2.out).mono ?_
      rintro e w3 ⟨rfl, F3⟩
      replace F3 := Lib.hid F3
      go_wp2_with fail
      refine (wdone_any 0 0 w3).mono ?_
      rintro e w4 ⟨rfl, rfl⟩
      go_wp2
      go_ret
      exact ⟨rfl, F12.out.trans F3.out⟩
    · go_wp2_with fail
      refine (wfind_any g n (-1) false 1 1 w2 h2.out).mono ?_
      rintro e w3 ⟨rfl, rfl⟩
      go_wp2_with fail
      refine (wlay_any g n (.slice Ab b.length cb) b w2 HV2.out HBL.out h2.out).mono ?_
      rintro e w3 ⟨rfl, F3⟩
      replace F3 := Lib.hid F3
      go_wp2_with fail
      refine (wdone_any 0 0 w3).mono ?_
      rintro e w4 ⟨rfl, rfl⟩
      go_wp2
      go_ret
      exact ⟨rfl, F12.out.trans F3.out⟩
  · have hb' : nm24 n = false := by simpa using hb
    rw [hb'] at HN ⊢
    clear h hb hb'
    go_enter Try.func33, Try.ntmps33
    go_wp2_with fail
    refine HN.out.mono ?_
    rintro e w0 ⟨rfl, rfl⟩
    go_wp2
    go_ret
    exact ⟨rfl, Fr.refl _ _⟩
end Go.Proofs.Ytpepapadbmkjiaa

namespace Go.Proofs.Ytpepapadbmkjiaa
open Go.ChangeShapes Go.WideShapes Go.ChangeAt Go.RowKit
structure Fd {α : Type} (f : α → List Value) (k : Nat) : Prop where
  len : ∀ x, (f x).length = k
  one : ∀ x, ∀ u ∈ f x, u.oneCell' = true
  pos : 0 < k
  small : k ≤ 64
section
variable {α : Type} {f : α → List Value} {k : Nat}
def AtN (w : World) (a : Addr) (us : List Value) : Prop := ∀ (i : Nat) (u : Value), us[i]? = some u → w.cell? (a.add i) = some u
theorem AtN.keep {w w' : World} {a : Addr} {us : List Value} (h : AtN w a us) (hk : a.block < w.heap.size → w'.heap[a.block]? = w.heap[a.block]?) : AtN w' a us := by
  intro i u hu
  have h1 := h i u hu
  have hb := World.block_lt_of_cell? w _ h1
  rw [add_block] at hb
  rw [← h1]
  exact World.cell?_of_block (by rw [add_block]; exact hk hb)
theorem AtN.non {w w' : World} {a : Addr} {us : List Value} (h : AtN w a us) (hf : Fr Non w w') : AtN w' a us := h.keep fun hb => hf.block _ hb (fun e => e)
def Ns (f : α → List Value) (k : Nat) (w : World) (v : Value) (l : List α) : Prop :=
  ∃ A c, v = .slice A l.length c ∧ l.length ≤ c ∧ (A = none → c = 0) ∧ ∀ a, A = some a → ∀ j (h : j < l.length), AtN w (a.add (j * k)) (f l[j])
theorem Ns.nil_ (w : World) : Ns f k w (.slice none 0 0) [] := ⟨none, 0, rfl, Nat.le_refl _, fun _ => rfl, fun _ h => by cases h⟩
theorem Ns.keep {w w' : World} {v : Value} {l : List α} (h : Ns f k w v l) (hk : ∀ b, v.ownBlock = some b → b < w.heap.size → w'.heap[b]? = w.heap[b]?) : Ns f k w' v l := by
  obtain ⟨A, c, rfl, h1, h2, h3⟩ := h
  refine ⟨A, c, rfl, h1, h2, fun a ha j hj => ?_⟩
  subst ha
  refine (h3 a rfl j hj).keep fun hb => ?_
  rw [add_block] at hb ⊢
  exact hk _ rfl hb
theorem Ns.fr {S : Nat → Prop} {w w' : World} {v : Value} {l : List α} (h : Ns f k w v l) (hf : Fr S w w') (hn : ∀ b, v.ownBlock = some b → ¬ S b) : Ns f k w' v l :=
  h.keep fun b hb hlt => hf.block b hlt (hn b hb)
theorem Ns.non {w w' : World} {v : Value} {l : List α} (h : Ns f k w v l) (hf : Fr Non w w') : Ns f k w' v l := h.fr hf fun _ _ e => e
theorem Ns.drew {w : World} {v : Value} {l : List α} (h : Ns f k w v l) : Ns f k w.drew v l := h.keep fun _ _ _ => rfl
theorem Ns.drewN {w : World} {v : Value} {l : List α} (h : Ns f k w v l) (n : Nat) : Ns f k (w.drewN n) v l := h.keep fun _ _ _ => rfl
theorem Ns.shape {w : World} {v : Value} {l : List α} (h : Ns f k w v l) : ∃ A c, v = .slice A l.length c := by
  obtain ⟨A, c, rfl, _⟩ := h; exact ⟨A, c, rfl⟩
theorem Ns.addr {w : World} {A : Option Addr} {n c : Nat} {l : List α} (h : Ns f k w (.slice A n c) l) (hl : 0 < n) : ∃ a, A = some a ∧ n = l.length ∧ n ≤ c ∧ ∀ j (h : j < l.length), AtN w (a.add (j * k)) (f l[j]) := by
  obtain ⟨A0, c0, he, h1, h2, h3⟩ := h
  simp only [Value.slice.injEq] at he
  obtain ⟨rfl, rfl, rfl⟩ := he
  cases A with
  | none => have := h2 rfl; omega
  | some a => exact ⟨a, rfl, rfl, h1, h3 a rfl⟩
variable {E : TypeId}
variable {T : TypeId} {z : Value} {by_ : Nat}
theorem ns_in (hF : Fd f k) {T E : TypeId} (hT : Try.prog.underlying T = some (.slice E)) (hc : Try.prog.cellsOf E = k) {H : Type} {enc : TypeId × Value → H} {W : World} {base : Nat} {v : Value} {d : DataW H} {p : List MemPlace}
    (pr : α → Prop) (each : ∀ n cs y, cs.length = k → DataW.trod enc Try.prog W 0 (fun _ => true) true n E cs = some y → ∃ x, cs = f x ∧ pr x)
    (hv : Value.okWide Try.prog W .any base T v) (h : DataW.Trod enc Try.prog W 0 (fun _ => true) true T v d p) : ∃ l, Ns f k W v l ∧ l.length ≤ 9223372036854775807 ∧ (∀ x ∈ l, pr x) ∧ ∀ b, v.ownBlock = some b → b < W.heap.size := by
  have hlt : ∀ b, v.ownBlock = some b → b < W.heap.size := by
    rcases slice_in hT hv with rfl | ⟨b, o, n, c, rfl, _, hb⟩
    · intro k hk; cases hk
    · intro k hk
      obtain rfl : b = k := by simpa [Value.ownBlock] using hk
      exact hb
  obtain ⟨A, n, c, rfl⟩ := okWide_slice hT hv
  obtain ⟨fuel, hf⟩ := h
  rcases Go.Deep.open_slice hT hf with ⟨hcs, _⟩ | ⟨a, len, cap, m, q, D, Pl, hcs, _, hl, hm, hmm, _, hr⟩
  · simp [Value.cells] at hcs
    obtain ⟨rfl, rfl, rfl⟩ := hcs
    exact ⟨[], Ns.nil_ W, by simp, by simp, hlt⟩
  · simp [Value.cells] at hcs
    obtain ⟨rfl, rfl, rfl⟩ := hcs
    have hnm : n ≤ m := by rw [hmm]; simp; exact hl
    obtain ⟨l, hll, hls⟩ := choose_listG (fun i (x : α) => AtN W (a.add (i * k)) (f x) ∧ pr x) n (by
      intro i hi
      obtain ⟨cs', h1, h2⟩ := hr i (by omega)
      rw [hc] at h1
      obtain ⟨_, hlen, hcell⟩ := World.cells?_some h1
      obtain ⟨x, rfl, hp⟩ := each _ _ _ hlen h2
      refine ⟨x, fun j u hu => ?_, hp⟩
      rw [hcell j (by rw [← hF.len x]; exact (List.getElem?_eq_some_iff.1 hu).1)]
      exact hu)
    subst hll
    refine ⟨l, ⟨some a, c, rfl, hl, (fun h => by cases h), fun b hb j hj => ?_⟩, by unfold maxLen at hm; omega, fun x hx => ?_, hlt⟩
    · cases hb
      exact (hls j hj).1
    · obtain ⟨j, hj, rfl⟩ := List.mem_iff_getElem.1 hx
      exact (hls j hj).2
end
end Go.Proofs.Ytpepapadbmkjiaa

namespace Go.Proofs.Ytpepapadbmkjiaa
open Go.Joins Go.ChangeShapes Go.WideShapes Go.ChangeAt Go.RowKit Go.Deep
structure Ac where
  kind : Int
  name : Tx
  b : Sl
  off : Int
  n : Int
  l : Sl
def acL (a : Ac) : List Value := [.int .i64 a.kind, .string ⟨a.name.toArray⟩, slV a.b, .int .i64 a.off, .int .i64 a.n, slV a.l]
theorem fd_ac : Fd acL 6 := ⟨fun _ => rfl, fun x u hu => by simp [acL] at hu; rcases hu with rfl | rfl | rfl | rfl | rfl | rfl <;> rfl, by decide, by decide⟩
def AcF (w : World) (a : Addr) (x : Ac) : Prop :=
  w.cell? a = some (.int .i64 x.kind) ∧ w.cell? { block := a.block, off := a.off + 1 } = some (.string ⟨x.name.toArray⟩) ∧ w.cell? { block := a.block, off := a.off + 2 } = some (slV x.b) ∧ w.cell? { block := a.block, off := a.off + 3 } = some (.int .i64 x.off) ∧ w.cell? { block := a.block, off := a.off + 4 } = some (.int .i64 x.n) ∧ w.cell? { block := a.block, off := a.off + 5 } = some (slV x.l)
theorem ac_lit {w : World} {a : Addr} {x : Ac} (h : AtN w a (acL x)) : AcF w a x := ⟨h 0 _ rfl, h 1 _ rfl, h 2 _ rfl, h 3 _ rfl, h 4 _ rfl, h 5 _ rfl⟩
structure AcS (W : World) (a : Ac) : Prop where
  b : ∃ s, Bs W (slV a.b) s
  l : ∃ s, Vs iv W (slV a.l) s ∧ ∀ x ∈ s, -9223372036854775808 ≤ x ∧ x ≤ 9223372036854775807
  kind : -9223372036854775808 ≤ a.kind ∧ a.kind ≤ 9223372036854775807
  off : -9223372036854775808 ≤ a.off ∧ a.off ≤ 9223372036854775807
  n : -9223372036854775808 ≤ a.n ∧ a.n ≤ 9223372036854775807
theorem AcS.keep {w w' : World} {a : Ac} (h : AcS w a) (hk : ∀ k, k < w.heap.size → w'.heap[k]? = w.heap[k]?) : AcS w' a := by
  obtain ⟨⟨s, hs⟩, ⟨l, hl, hb⟩, h3, h4, h5⟩ := h
  exact ⟨⟨s, Vs.keep hs fun k _ hlt => hk k hlt⟩, ⟨l, hl.keep fun k _ hlt => hk k hlt, hb⟩, h3, h4, h5⟩
theorem vs_trodA {α : Type} {f : α → Value} {T E : TypeId} (hT : Try.prog.underlying T = some (.slice E)) (hc : Try.prog.cellsOf E = 1) {H : Type} {enc : TypeId × Value → H} {W : World} {fuel : Nat} {v : Value} {x : DataW H × List MemPlace}
    (pr : α → Prop) (each : ∀ n V y, DataW.trod enc Try.prog W 0 (fun _ => true) true n E [V] = some y → ∃ x, V = f x ∧ pr x)
    (hf : DataW.trod enc Try.prog W 0 (fun _ => true) true fuel T [v] = some x) : ∃ (s : Sl) (l : List α), v = slV s ∧ Vs f W (slV s) l ∧ ∀ x ∈ l, pr x := by
  rcases Go.Deep.open_slice1 hT hc hf with ⟨hcs, _⟩ | ⟨a, len, cap, m, k, V, D, Pl, hcs, _, hl, hm, hmm, _, hr⟩
  · obtain rfl := (List.cons.inj hcs).1
    exact ⟨noSl, [], rfl, Vs.nil_ W, by simp⟩
  · obtain rfl := (List.cons.inj hcs).1
    have hnm : len ≤ m := by rw [hmm]; simp; exact hl
    obtain ⟨l, hll, hls⟩ := choose_listG (fun i x => W.cell? (a.add i) = some (f x) ∧ pr x) len (by
      intro i hi
      obtain ⟨h1, h2⟩ := hr i (by omega)
      obtain ⟨x, hx, hp⟩ := each _ _ _ h2
      exact ⟨x, by rw [h1, hx], hp⟩)
    subst hll
    refine ⟨⟨some a, l.length, cap⟩, l, rfl, ⟨some a, cap, rfl, hl, (fun h => by cases h), fun b hb j hj => ?_⟩, fun x hx => ?_⟩
    · cases hb
      exact (hls j hj).1
    · obtain ⟨j, hj, rfl⟩ := List.mem_iff_getElem.1 hx
      exact (hls j hj).2
theorem cofA_ac : Try.prog.cellsOf 33 = 6 := by kernel_rfl
theorem cofA_int : Try.prog.cellsOf 3 = 1 := by kernel_rfl
theorem cofA_str : Try.prog.cellsOf 9 = 1 := by kernel_rfl
theorem cofA_bs : Try.prog.cellsOf 23 = 1 := by kernel_rfl
theorem cofA_is : Try.prog.cellsOf 31 = 1 := by kernel_rfl
set_option maxHeartbeats 1000000 in
theorem ac_trod {H : Type} {enc : TypeId × Value → H} {W : World} {n : Nat} {cs : List Value} {y : DataW H × List MemPlace} (hl : cs.length = 6) (h : DataW.trod enc Try.prog W 0 (fun _ => true) true n 33 cs = some y) : ∃ a, cs = acL a ∧ AcS W a := by
  obtain ⟨xs, n, rfl, hxe, hlen, hxl, hall⟩ := DataW.trod_struct Try.underlying33 h
  have hxl2 : xs.length = 6 := hxl
  match cs, hl with
  | [v0, v1, v2, v3, v4, v5], _ =>
    have f0 : DataW.trod enc Try.prog W 0 (fun _ => true) true n 3 (List.take (Try.prog.cellsOf 3) (List.drop 0 [v0, v1, v2, v3, v4, v5])) = xs[0]? := hall 0 _ rfl
    have f1 : DataW.trod enc Try.prog W 0 (fun _ => true) true n 9 (List.take (Try.prog.cellsOf 9) (List.drop 1 [v0, v1, v2, v3, v4, v5])) = xs[1]? := hall 1 _ rfl
    have f2 : DataW.trod enc Try.prog W 0 (fun _ => true) true n 23 (List.take (Try.prog.cellsOf 23) (List.drop 2 [v0, v1, v2, v3, v4, v5])) = xs[2]? := hall 2 _ rfl
    have f3 : DataW.trod enc Try.prog W 0 (fun _ => true) true n 3 (List.take (Try.prog.cellsOf 3) (List.drop 3 [v0, v1, v2, v3, v4, v5])) = xs[3]? := hall 3 _ rfl
    have f4 : DataW.trod enc Try.prog W 0 (fun _ => true) true n 3 (List.take (Try.prog.cellsOf 3) (List.drop 4 [v0, v1, v2, v3, v4, v5])) = xs[4]? := hall 4 _ rfl
    have f5 : DataW.trod enc Try.prog W 0 (fun _ => true) true n 31 (List.take (Try.prog.cellsOf 31) (List.drop 5 [v0, v1, v2, v3, v4, v5])) = xs[5]? := hall 5 _ rfl
    rw [List.getElem?_eq_getElem (by omega)] at f0 f1 f2 f3 f4 f5
    simp only [cofA_int, cofA_str, cofA_bs, cofA_is, List.drop_zero, List.drop_succ_cons, List.take_succ_cons, List.take_zero] at f0 f1 f2 f3 f4 f5
    obtain ⟨i0, e0, _, w0⟩ := DataW.trod_int Try.underlying3 f0
    obtain rfl := (List.cons.inj e0).1
    obtain ⟨s1, e1, _, _⟩ := DataW.trod_string Try.underlying9 f1
    obtain rfl := (List.cons.inj e1).1
    obtain ⟨i3, e3, _, w3⟩ := DataW.trod_int Try.underlying3 f3
    obtain rfl := (List.cons.inj e3).1
    obtain ⟨i4, e4, _, w4⟩ := DataW.trod_int Try.underlying3 f4
    obtain rfl := (List.cons.inj e4).1
    obtain ⟨s2, b, rfl, hb, _⟩ := vs_trodA (f := bv) Try.underlying23 (by kernel_rfl) (fun _ => True) (fun n V y hy => by
      obtain ⟨i, e, _, hw⟩ := DataW.trod_int Try.underlying5 hy
      have hb : 0 ≤ i ∧ i ≤ 255 := by simpa [Lit.wf, IntKind.min, IntKind.max, IntKind.signed, IntKind.bits] using hw
      exact ⟨UInt8.ofNat i.toNat, by
        have hi : i = ((UInt8.ofNat i.toNat).toNat : Int) := by
          rw [UInt8.toNat_ofNat']; omega
        simp only [bv]; rw [← hi]; simpa using e, trivial⟩) f2
    obtain ⟨s5, l, rfl, hl5, hl6⟩ := vs_trodA (f := iv) Try.underlying31 (by kernel_rfl) (fun x => -9223372036854775808 ≤ x ∧ x ≤ 9223372036854775807) (fun n V y hy => by
      obtain ⟨b, e, _, hw⟩ := DataW.trod_int Try.underlying3 hy
      exact ⟨b, by simpa [iv] using e, wf_i64_bd hw⟩) f5
    exact ⟨⟨i0, s1.data.toList, s2, i3, i4, s5⟩, by simp [acL], ⟨⟨b, hb⟩, ⟨l, hl5, hl6⟩, wf_i64_bd w0, wf_i64_bd w3, wf_i64_bd w4⟩⟩
theorem acs_in {H : Type} {enc : TypeId × Value → H} {W : World} {base : Nat} {v : Value} {d : DataW H} {p : List MemPlace} (hv : Value.okWide Try.prog W .any base 22 v)
    (h : DataW.Trod enc Try.prog W 0 (fun _ => true) true 22 v d p) : ∃ l, Ns acL 6 W v l ∧ l.length ≤ 9223372036854775807 ∧ (∀ x ∈ l, AcS W x) ∧ ∀ b, v.ownBlock = some b → b < W.heap.size :=
  ns_in fd_ac Try.underlying22 cofA_ac (AcS W) (fun n cs y hl hy => ac_trod hl hy) hv h
end Go.Proofs.Ytpepapadbmkjiaa

namespace Go.Proofs.Ytpepapadbmkjiaa
open Go.RowKit
theorem num24_any (n : Int) (w : World) : Calls Try.prog 7 #[.int .i64 n] w fun e w' => e = .returned (.int .i64 n) ∧ w = w' := by
  go_enter Try.func7, Try.ntmps7
  go_wp2
  go_ret
  exact ⟨rfl, rfl⟩
def HiB (W : World) (k : Nat) : Prop := W.heap.size ≤ k
def avP (av : Nat → Prop) (b : Nat) (k : Nat) : Prop := av k ∨ k = b
def IsB (e : Ending) : Prop := ∃ b, e = .returned (.bool b)
def DidS (av : Nat → Prop) (n : Nat) (w' : World) (g : Nat) (s : Wst) (nm : Tx) (kd : Int) : Prop := ∃ n' s', n' ≤ n + 1 ∧ PW av n' w' g s' ∧ ∀ x c, HasS s x c → ¬(nm = x ∧ (kd = 0 ∨ kd = 4)) → HasS s' x c
set_option maxHeartbeats 16000000 in
theorem do24_any {av : Nat → Prop} {n : Nat} {w W0 : World} {g d : Nat} {s : Wst} {a : Ac} (p : PW av n w g s) (hav : ∀ k, av k → k < w.heap.size) (hn : n < 1000) (hd : WdB w d (-1) false 0 0) (hda : av d) (hd0 : W0.heap.size ≤ d) (ha : AcS W0 a) (h0 : ∀ k, k < W0.heap.size → av k) (F0 : Fr (HiB W0) W0 w)
    (hs1 : a.name.length ≤ 60) (hs2 : a.b.n ≤ 300) (hs3 : a.l.n ≤ 20) :
    Calls Try.prog 10 #[ptr g, ptr d, .agg ⟨acL a⟩] w fun e w' => IsB e ∧ DidS av n w' g s a.name a.kind ∧ Fr (HiB W0) W0 w' := by
  obtain ⟨bx, hbx⟩ : ∃ b, w.heap.size = b := ⟨_, rfl⟩
  obtain ⟨⟨bs, hbs⟩, ⟨ls, hls, hlr⟩, hk, ho, hm⟩ := ha
  obtain ⟨kind, name, ⟨bA, bn, bc⟩, off, m, ⟨lA, ln, lc⟩⟩ := a
  dsimp only at hk ho hm hs1 hs2 hs3 hbs hls
  unfold slV at hbs hls
  have hbn : bn = bs.length := by
    obtain ⟨A', c', he, -⟩ := hbs
    simp only [Value.slice.injEq] at he
    exact he.2.1
  have hln : ln = ls.length := by
    obtain ⟨A', c', he, -⟩ := hls
    simp only [Value.slice.injEq] at he
    exact he.2.1
  subst hbn hln
  have HB : Hid (∀ W', Fr (HiB W0) W0 W' → Bs W' (.slice bA bs.length bc) bs) := Lib.hid (fun W' hf => Vs.keep hbs fun k _ hlt => hf.block k hlt (by unfold HiB; omega))
  have HL : Hid (∀ W', Fr (HiB W0) W0 W' → Vs iv W' (.slice lA ls.length lc) ls) := Lib.hid (fun W' hf => hls.keep fun k _ hlt => hf.block k hlt (by unfold HiB; omega))
  clear hbs hls
  obtain ⟨W1, hW1⟩ : ∃ W, W = w.alloc (.cells #[.int .i64 kind, .string ⟨name.toArray⟩, .slice bA bs.length bc, .int .i64 off, .int .i64 m, .slice lA ls.length lc] 33) := ⟨_, rfl⟩
  have F1 : Fr Non w W1 := by rw [hW1]; exact (Fr.refl _ _).alloc _
  have hz1 : W1.heap.size = bx + 1 := by rw [hW1, ← hbx]; simp
  have hblk : Blk W1 bx 33 #[.int .i64 kind, .string ⟨name.toArray⟩, .slice bA bs.length bc, .int .i64 off, .int .i64 m, .slice lA ls.length lc] := by rw [hW1, ← hbx]; exact Blk.new _ _ _
  have e0 : W1.cell? ⟨bx, 0, none⟩ = some (.int .i64 kind) := hblk.cell 0
  have e1 : W1.cell? ⟨bx, 1, none⟩ = some (.string ⟨name.toArray⟩) := hblk.cell 1
  have e2 : W1.cell? ⟨bx, 2, none⟩ = some (.slice bA bs.length bc) := hblk.cell 2
  have e3 : W1.cell? ⟨bx, 3, none⟩ = some (.int .i64 off) := hblk.cell 3
  have e4 : W1.cell? ⟨bx, 4, none⟩ = some (.int .i64 m) := hblk.cell 4
  have e5 : W1.cell? ⟨bx, 5, none⟩ = some (.slice lA ls.length lc) := hblk.cell 5
  have P1 : Hid (PW (avP av bx) n W1 g s) := Lib.hid ((p.avoid (av' := avP av bx) (fun k h => h.elim Or.inl (fun e => Or.inr (by omega)))).keep F1 (fun k h => h.elim))
  have D1 : Hid (WdB W1 d (-1) false 0 0) := Lib.hid (hd.fr F1 (fun h => h))
  have FH1 : Hid (Fr (HiB W0) W0 W1) := Lib.hid (F0.trans (Fr.any F1))
  have hbd : bx ≠ d := by have := hav d hda; omega
  have avx : avP av bx bx := Or.inr rfl
  have avd : avP av bx d := Or.inl hda
  have HAV : Hid (∀ k, avP av bx k → k < W1.heap.size) := Lib.hid (fun k h => h.elim (fun h => by have := hav k h; omega) (fun e => by omega))
  have HHI : Hid (∀ k, ¬ avP av bx k → HiB W0 k) := Lib.hid (fun k h => by
    unfold HiB
    by_cases hlt : k < W0.heap.size
    · exact absurd (Or.inl (h0 k hlt)) h
    · omega)
  have HHI2 : Hid (HiB W0 d) := Lib.hid hd0
  have HBX := Lib.hid hbx
  clear hblk hav hda hd0 h0 F0 p hd F1
  show Calls Try.prog _ #[ptr g, ptr d, .agg #[.int .i64 kind, .string ⟨name.toArray⟩, .slice bA bs.length bc, .int .i64 off, .int .i64 m, .slice lA ls.length lc]] w _
  dsimp only
  go_enter Try.func10, Try.ntmps10
  by_cases hk0 : kind = 0
  · subst hk0
    go_wp2
    try rw [← hW1]
    clear hW1 hbx
    obtain ⟨V, hV⟩ : ∃ V, V = W1.drew := ⟨_, rfl⟩
    refine wp_region_held_drew (S := (fun W' => W'.cell? ⟨bx, 1, none⟩ = some (.string ⟨name.toArray⟩) ∧ W'.cell? ⟨bx, 2, none⟩ = some (.slice bA bs.length bc))) (by kernel_rfl) (by exact ⟨e1, e2⟩) (fun hHeld => ?_)
    rw [← hV] at hHeld ⊢
    have FV : Fr Non W1 V := by rw [hV]; exact (Fr.refl _ _).drew
    clear hV
    have hbl : bx < V.heap.size := by have := FV.size; omega
    have PV := Lib.hid (P1.out.keep FV (fun k h => h.elim))
    have DV := Lib.hid (D1.out.fr FV (fun h => h))
    have HV := Lib.hid (FH1.out.trans (Fr.any FV))
    have hsv := FV.size
    clear FV P1 D1
    replace e1 := hHeld.1
    replace e2 := hHeld.2
    refine wpAnyH_take (i := 0) (oi := ⟨some 19, _, _, _, _, none⟩) (v := ?v1) rfl (by kernel_rfl) (by kernel_rfl) (by kernel_rfl) (fun _ _ _ h => h) (Or.inl ⟨by rfl, ?hy1⟩) (by assumption) ?rest1
    case hy1 => (intro wS hSw; (try dsimp only at hSw); go_simp; (try with_reducible rfl))
    (try simp only [Act.put, zA, zB, zC])
    refine wpAnyH_take (i := 1) (oi := ⟨some 20, _, _, _, _, none⟩) (v := ?v2) rfl (by kernel_rfl) (by kernel_rfl) (by kernel_rfl) (fun _ _ _ h => h) (Or.inl ⟨by rfl, ?hy2⟩) (by assumption) ?rest2
    case hy2 => (intro wS hSw; (try dsimp only at hSw); go_simp; (try with_reducible rfl))
    (try simp only [Act.put, zA, zB, zC])
    refine wpAnyH_take (i := 2) (oi := ⟨some 21, _, _, _, _, none⟩) (v := ?v3) rfl (by kernel_rfl) (by kernel_rfl) (by kernel_rfl) (fun _ _ _ h => h) (Or.inl ⟨by rfl, ?hy3⟩) (by assumption) ?rest3
    case hy3 => (intro wS hSw; (try dsimp only at hSw); go_simp; (try with_reducible rfl))
    (try simp only [Act.put, zA, zB, zC])
    refine wpAnyH_take (i := 3) (oi := ⟨some 22, _, _, _, _, none⟩) (v := ?v4) rfl (by kernel_rfl) (by kernel_rfl) (by kernel_rfl) (fun _ _ _ h => h) (Or.inl ⟨by rfl, ?hy4⟩) (by assumption) ?rest4
    case hy4 => (intro wS hSw; (try dsimp only at hSw); go_simp; (try with_reducible rfl))
    (try simp only [Act.put, zA, zB, zC])
    refine wpAnyH_take (i := 4) (oi := ⟨some 23, _, _, _, _, none⟩) (v := ?v5) rfl (by kernel_rfl) (by kernel_rfl) (by kernel_rfl) (fun _ _ _ h => h) (Or.inl ⟨by rfl, ?hy5⟩) (by assumption) ?rest5
    case hy5 => (intro wS hSw; (try dsimp only at hSw); go_simp; (try with_reducible rfl))
    (try simp only [Act.put, zA, zB, zC])
    refine wpAnyH_take (i := 7) (oi := ⟨some 26, _, _, _, _, none⟩) (v := ?v6) rfl (by kernel_rfl) (by kernel_rfl) (by kernel_rfl) (fun _ _ _ h => h) (Or.inl ⟨by rfl, ?hy6⟩) (by assumption) ?rest6
    case hy6 => (intro wS hSw; (try dsimp only at hSw); go_simp; (try with_reducible rfl))
    (try simp only [Act.put, zA, zB, zC])
    refine wpAnyH_take (i := 8) (oi := ⟨some 27, _, _, _, _, none⟩) (v := ?v7) rfl (by kernel_rfl) (by kernel_rfl) (by kernel_rfl) (fun _ _ _ h => h) (Or.inl ⟨by rfl, ?hy7⟩) (by assumption) ?rest7
    case hy7 => (intro wS hSw; (try dsimp only at hSw); go_simp; (try with_reducible rfl))
    (try simp only [Act.put, zA, zB, zC])
    refine wpAnyH_take (i := 9) (oi := ⟨some 28, _, _, _, _, none⟩) (v := ?v8) rfl (by kernel_rfl) (by kernel_rfl) (by kernel_rfl) (fun _ _ _ h => h) (Or.inl ⟨by rfl, ?hy8⟩) (by assumption) ?rest8
    case hy8 => (intro wS hSw; (try dsimp only at hSw); go_simp; (try with_reducible rfl))
    (try simp only [Act.put, zA, zB, zC])
    refine wpAnyH_take (i := 10) (oi := ⟨some 29, _, _, _, _, none⟩) (v := ?v9) rfl (by kernel_rfl) (by kernel_rfl) (by kernel_rfl) (fun _ _ _ h => h) (Or.inl ⟨by rfl, ?hy9⟩) (by assumption) ?rest9
    case hy9 => (intro wS hSw; (try dsimp only at hSw); go_simp; (try with_reducible rfl))
    (try simp only [Act.put, zA, zB, zC])
    refine wpAnyH_take (i := 11) (oi := ⟨some 30, _, _, _, _, none⟩) (v := ?v10) rfl (by kernel_rfl) (by kernel_rfl) (by kernel_rfl) (fun _ _ _ h => h) (Or.inl ⟨by rfl, ?hy10⟩) (by assumption) ?rest10
    case hy10 => (intro wS hSw; (try dsimp only at hSw); go_simp; (try with_reducible rfl))
    (try simp only [Act.put, zA, zB, zC])
    refine wpAnyH_ready (rs := [5]) (by kernel_rfl) (by simp) ?_
    refine AllReadyH.cons (o := ⟨some 24, _, _, _, _, none⟩) rfl (fun K hK => ?_) AllReadyH.nil
    go_simp
    go_at_call 8
    refine (pwput_any PV.out (fun k h => by have := HAV.out k h; omega) (by omega) name (by omega) (.slice bA bs.length bc) bs (fun W' hf => HB.out W' (HV.out.trans (hf.mono (fun k _ h => HHI.out k h)))) (by omega)).mono ?_
    rintro e w2 ⟨rfl, ⟨n2, hn2, P2⟩, F2⟩
    go_wp2_with fail
    refine hK.out _ _ (by exact ⟨(F2.cell hbl (fun h => h avx)).trans e1, (F2.cell hbl (fun h => h avx)).trans e2⟩) (fun hHeld => ?_)
    clear hK K
    (try simp only [Act.put, zA, zB, zC])
    refine wpAnyH_ready (rs := [6]) (by kernel_rfl) (by simp) ?_
    refine AllReadyH.cons (o := ⟨some 25, _, _, _, _, none⟩) rfl (fun K hK => ?_) AllReadyH.nil
    go_simp
    go_at_call 7
    refine (num24_any _ w2).mono ?_
    rintro e w3 ⟨rfl, rfl⟩
    go_wp2_with fail
    refine hK.out _ _ (by exact ⟨(F2.cell hbl (fun h => h avx)).trans e1, (F2.cell hbl (fun h => h avx)).trans e2⟩) (fun hHeld => ?_)
    clear hK K
    (try simp only [Act.put, zA, zB, zC])
    have H2 : Fr (HiB W0) W0 w2 := HV.out.trans (F2.mono (fun k _ h => HHI.out k h))
    have D2 : WdB w2 d (-1) false 0 0 := DV.out.fr F2 (fun h => h avd)
    refine wpAnyH_ready (rs := [12]) (by kernel_rfl) (by simp) ?_
    refine AllReadyH.cons (o := ⟨some 31, _, _, _, _, none⟩) rfl (fun K hK => ?_) AllReadyH.nil
    go_simp
    go_at_call 33
    refine (wput24_any d name (.slice bA bs.length bc) bs false w2 (by omega) (fun W' hf => HB.out _ (H2.trans (hf.mono (fun k _ h => by rw [show k = d from h]; exact HHI2.out)))) (by omega) D2).mono ?_
    rintro e w4 ⟨rfl, F4⟩
    generalize (if nm24 name = true then (0 : Int) else 1) = rD
    go_wp2_with fail
    refine hK.out _ _ (by exact ⟨(F4.cell (p := ⟨bx, 1, none⟩) (by have := F2.size; show bx < _; omega) (fun h => hbd h)).trans ((F2.cell hbl (fun h => h avx)).trans e1), (F4.cell (p := ⟨bx, 2, none⟩) (by have := F2.size; show bx < _; omega) (fun h => hbd h)).trans ((F2.cell hbl (fun h => h avx)).trans e2)⟩) (fun hHeld => ?_)
    clear hK K
    (try simp only [Act.put, zA, zB, zC])
    refine wpAnyH_take (i := 13) (oi := ⟨some 32, _, _, _, _, none⟩) (v := ?v11) rfl (by kernel_rfl) (by kernel_rfl) (by kernel_rfl) (fun _ _ _ h => h) (Or.inl ⟨by rfl, ?hy11⟩) (by assumption) ?rest11
    case hy11 => (intro wS hSw; (try dsimp only at hSw); go_simp; (try with_reducible rfl))
    (try simp only [Act.put, zA, zB, zC])
    refine wpAnyH_take (i := 14) (oi := ⟨some 6, _, _, _, _, none⟩) (v := ?v12) rfl (by kernel_rfl) (by kernel_rfl) (by kernel_rfl) (fun _ _ _ h => h) (Or.inl ⟨by rfl, ?hy12⟩) (by assumption) ?rest12
    case hy12 => (intro wS hSw; (try dsimp only at hSw); go_simp; (try with_reducible rfl))
    (try simp only [Act.put, zA, zB, zC])
    refine wpAnyH_done (by kernel_rfl) ?_ _
    have PE := Lib.hid (P2.keep F4 (fun k h => Or.inl (by rw [show k = d from h]; exact avd)))
    have FE := Lib.hid ((F2.mono (S' := HiB W0) (fun k _ h => HHI.out k h)).trans (F4.mono (fun k _ h => by rw [show k = d from h]; exact HHI2.out)))
    have HVX := HV
    clear hHeld P2 F2 F4 D2 H2
    go_wp2
    go_ret
    exact ⟨⟨_, rfl⟩, ⟨n2, _, hn2, PE.out.avoid (fun k h => Or.inl (Or.inl h)), fun x c hx hk => hx.put (Or.inr (fun e => hk ⟨e, Or.inl rfl⟩))⟩, HVX.out.trans FE.out⟩
  by_cases hk1 : kind = 1
  · subst hk1
    go_wp2
    try rw [← hW1]
    clear hW1 hbx
    obtain ⟨V, hV⟩ : ∃ V, V = W1.drew := ⟨_, rfl⟩
    refine wp_region_held_drew (S := (fun W' => W'.cell? ⟨bx, 1, none⟩ = some (.string ⟨name.toArray⟩) ∧ W'.cell? ⟨bx, 2, none⟩ = some (.slice bA bs.length bc))) (by kernel_rfl) (by exact ⟨e1, e2⟩) (fun hHeld => ?_)
    rw [← hV] at hHeld ⊢
    have FV : Fr Non W1 V := by rw [hV]; exact (Fr.refl _ _).drew
    clear hV
    have hbl : bx < V.heap.size := by have := FV.size; omega
    have PV := Lib.hid (P1.out.keep FV (fun k h => h.elim))
    have DV := Lib.hid (D1.out.fr FV (fun h => h))
    have HV := Lib.hid (FH1.out.trans (Fr.any FV))
    have hsv := FV.size
    clear FV P1 D1
    replace e1 := hHeld.1
    replace e2 := hHeld.2
    refine wpAnyH_take (i := 0) (oi := ⟨some 35, _, _, _, _, none⟩) (v := ?v13) rfl (by kernel_rfl) (by kernel_rfl) (by kernel_rfl) (fun _ _ _ h => h) (Or.inl ⟨by rfl, ?hy13⟩) (by assumption) ?rest13
    case hy13 => (intro wS hSw; (try dsimp only at hSw); go_simp; (try with_reducible rfl))
    (try simp only [Act.put, zA, zB, zC])
    refine wpAnyH_take (i := 1) (oi := ⟨some 36, _, _, _, _, none⟩) (v := ?v14) rfl (by kernel_rfl) (by kernel_rfl) (by kernel_rfl) (fun _ _ _ h => h) (Or.inl ⟨by rfl, ?hy14⟩) (by assumption) ?rest14
    case hy14 => (intro wS hSw; (try dsimp only at hSw); go_simp; (try with_reducible rfl))
    (try simp only [Act.put, zA, zB, zC])
    refine wpAnyH_take (i := 2) (oi := ⟨some 37, _, _, _, _, none⟩) (v := ?v15) rfl (by kernel_rfl) (by kernel_rfl) (by kernel_rfl) (fun _ _ _ h => h) (Or.inl ⟨by rfl, ?hy15⟩) (by assumption) ?rest15
    case hy15 => (intro wS hSw; (try dsimp only at hSw); go_simp; (try with_reducible rfl))
    (try simp only [Act.put, zA, zB, zC])
    refine wpAnyH_take (i := 3) (oi := ⟨some 38, _, _, _, _, none⟩) (v := ?v16) rfl (by kernel_rfl) (by kernel_rfl) (by kernel_rfl) (fun _ _ _ h => h) (Or.inl ⟨by rfl, ?hy16⟩) (by assumption) ?rest16
    case hy16 => (intro wS hSw; (try dsimp only at hSw); go_simp; (try with_reducible rfl))
    (try simp only [Act.put, zA, zB, zC])
    refine wpAnyH_take (i := 4) (oi := ⟨some 39, _, _, _, _, none⟩) (v := ?v17) rfl (by kernel_rfl) (by kernel_rfl) (by kernel_rfl) (fun _ _ _ h => h) (Or.inl ⟨by rfl, ?hy17⟩) (by assumption) ?rest17
    case hy17 => (intro wS hSw; (try dsimp only at hSw); go_simp; (try with_reducible rfl))
    (try simp only [Act.put, zA, zB, zC])
    refine wpAnyH_take (i := 7) (oi := ⟨some 42, _, _, _, _, none⟩) (v := ?v18) rfl (by kernel_rfl) (by kernel_rfl) (by kernel_rfl) (fun _ _ _ h => h) (Or.inl ⟨by rfl, ?hy18⟩) (by assumption) ?rest18
    case hy18 => (intro wS hSw; (try dsimp only at hSw); go_simp; (try with_reducible rfl))
    (try simp only [Act.put, zA, zB, zC])
    refine wpAnyH_take (i := 8) (oi := ⟨some 43, _, _, _, _, none⟩) (v := ?v19) rfl (by kernel_rfl) (by kernel_rfl) (by kernel_rfl) (fun _ _ _ h => h) (Or.inl ⟨by rfl, ?hy19⟩) (by assumption) ?rest19
    case hy19 => (intro wS hSw; (try dsimp only at hSw); go_simp; (try with_reducible rfl))
    (try simp only [Act.put, zA, zB, zC])
    refine wpAnyH_take (i := 9) (oi := ⟨some 44, _, _, _, _, none⟩) (v := ?v20) rfl (by kernel_rfl) (by kernel_rfl) (by kernel_rfl) (fun _ _ _ h => h) (Or.inl ⟨by rfl, ?hy20⟩) (by assumption) ?rest20
    case hy20 => (intro wS hSw; (try dsimp only at hSw); go_simp; (try with_reducible rfl))
    (try simp only [Act.put, zA, zB, zC])
    refine wpAnyH_take (i := 10) (oi := ⟨some 45, _, _, _, _, none⟩) (v := ?v21) rfl (by kernel_rfl) (by kernel_rfl) (by kernel_rfl) (fun _ _ _ h => h) (Or.inl ⟨by rfl, ?hy21⟩) (by assumption) ?rest21
    case hy21 => (intro wS hSw; (try dsimp only at hSw); go_simp; (try with_reducible rfl))
    (try simp only [Act.put, zA, zB, zC])
    refine wpAnyH_take (i := 11) (oi := ⟨some 46, _, _, _, _, none⟩) (v := ?v22) rfl (by kernel_rfl) (by kernel_rfl) (by kernel_rfl) (fun _ _ _ h => h) (Or.inl ⟨by rfl, ?hy22⟩) (by assumption) ?rest22
    case hy22 => (intro wS hSw; (try dsimp only at hSw); go_simp; (try with_reducible rfl))
    (try simp only [Act.put, zA, zB, zC])
    refine wpAnyH_ready (rs := [5]) (by kernel_rfl) (by simp) ?_
    refine AllReadyH.cons (o := ⟨some 40, _, _, _, _, none⟩) rfl (fun K hK => ?_) AllReadyH.nil
    go_simp
    go_at_call 19
    refine (pwputnew_any PV.out (fun k h => by have := HAV.out k h; omega) (by omega) name (by omega) (.slice bA bs.length bc) bs (fun W' hf => HB.out W' (HV.out.trans (hf.mono (fun k _ h => HHI.out k h)))) (by omega)).mono ?_
    rintro e w2 ⟨rfl, ⟨n2, hn2, P2⟩, F2⟩
    go_wp2_with fail
    refine hK.out _ _ (by exact ⟨(F2.cell hbl (fun h => h avx)).trans e1, (F2.cell hbl (fun h => h avx)).trans e2⟩) (fun hHeld => ?_)
    clear hK K
    (try simp only [Act.put, zA, zB, zC])
    refine wpAnyH_ready (rs := [6]) (by kernel_rfl) (by simp) ?_
    refine AllReadyH.cons (o := ⟨some 41, _, _, _, _, none⟩) rfl (fun K hK => ?_) AllReadyH.nil
    go_simp
    go_at_call 7
    refine (num24_any _ w2).mono ?_
    rintro e w3 ⟨rfl, rfl⟩
    go_wp2_with fail
    refine hK.out _ _ (by exact ⟨(F2.cell hbl (fun h => h avx)).trans e1, (F2.cell hbl (fun h => h avx)).trans e2⟩) (fun hHeld => ?_)
    clear hK K
    (try simp only [Act.put, zA, zB, zC])
    have H2 : Fr (HiB W0) W0 w2 := HV.out.trans (F2.mono (fun k _ h => HHI.out k h))
    have D2 : WdB w2 d (-1) false 0 0 := DV.out.fr F2 (fun h => h avd)
    refine wpAnyH_ready (rs := [12]) (by kernel_rfl) (by simp) ?_
    refine AllReadyH.cons (o := ⟨some 47, _, _, _, _, none⟩) rfl (fun K hK => ?_) AllReadyH.nil
    go_simp
    go_at_call 33
    refine (wput24_any d name (.slice bA bs.length bc) bs true w2 (by omega) (fun W' hf => HB.out _ (H2.trans (hf.mono (fun k _ h => by rw [show k = d from h]; exact HHI2.out)))) (by omega) D2).mono ?_
    rintro e w4 ⟨rfl, F4⟩
    generalize (if nm24 name = true then (0 : Int) else 1) = rD
    go_wp2_with fail
    refine hK.out _ _ (by exact ⟨(F4.cell (p := ⟨bx, 1, none⟩) (by have := F2.size; show bx < _; omega) (fun h => hbd h)).trans ((F2.cell hbl (fun h => h avx)).trans e1), (F4.cell (p := ⟨bx, 2, none⟩) (by have := F2.size; show bx < _; omega) (fun h => hbd h)).trans ((F2.cell hbl (fun h => h avx)).trans e2)⟩) (fun hHeld => ?_)
    clear hK K
    (try simp only [Act.put, zA, zB, zC])
    refine wpAnyH_take (i := 13) (oi := ⟨some 48, _, _, _, _, none⟩) (v := ?v23) rfl (by kernel_rfl) (by kernel_rfl) (by kernel_rfl) (fun _ _ _ h => h) (Or.inl ⟨by rfl, ?hy23⟩) (by assumption) ?rest23
    case hy23 => (intro wS hSw; (try dsimp only at hSw); go_simp; (try with_reducible rfl))
    (try simp only [Act.put, zA, zB, zC])
    refine wpAnyH_take (i := 14) (oi := ⟨some 6, _, _, _, _, none⟩) (v := ?v24) rfl (by kernel_rfl) (by kernel_rfl) (by kernel_rfl) (fun _ _ _ h => h) (Or.inl ⟨by rfl, ?hy24⟩) (by assumption) ?rest24
    case hy24 => (intro wS hSw; (try dsimp only at hSw); go_simp; (try with_reducible rfl))
    (try simp only [Act.put, zA, zB, zC])
    refine wpAnyH_done (by kernel_rfl) ?_ _
    have PE := Lib.hid (P2.keep F4 (fun k h => Or.inl (by rw [show k = d from h]; exact avd)))
    have FE := Lib.hid ((F2.mono (S' := HiB W0) (fun k _ h => HHI.out k h)).trans (F4.mono (fun k _ h => by rw [show k = d from h]; exact HHI2.out)))
    have HVX := HV
    clear hHeld P2 F2 F4 D2 H2
    go_wp2
    go_ret
    exact ⟨⟨_, rfl⟩, ⟨n2, _, hn2, PE.out.avoid (fun k h => Or.inl (Or.inl h)), fun x c hx hk => hx.put (Or.inl rfl)⟩, HVX.out.trans FE.out⟩
  by_cases hk2 : kind = 2
  · subst hk2
    go_wp2_with fail
    try rw [← hW1]
    clear hW1 hbx
    refine (pwget_any P1.out HAV.out name (by omega) off m ho hm).mono ?_
    rintro e w2 ⟨⟨u, rfl, hu, hou⟩, P2, F2⟩
    have hbl : bx < W1.heap.size := by omega
    have f1 : w2.cell? ⟨bx, 1, none⟩ = _ := (F2.cell (p := ⟨bx, 1, none⟩) hbl (fun h => h avx)).trans e1
    have f2 : w2.cell? ⟨bx, 2, none⟩ = _ := (F2.cell (p := ⟨bx, 2, none⟩) hbl (fun h => h avx)).trans e2
    have f3 : w2.cell? ⟨bx, 3, none⟩ = _ := (F2.cell (p := ⟨bx, 3, none⟩) hbl (fun h => h avx)).trans e3
    have f4 : w2.cell? ⟨bx, 4, none⟩ = _ := (F2.cell (p := ⟨bx, 4, none⟩) hbl (fun h => h avx)).trans e4
    have f5 : w2.cell? ⟨bx, 5, none⟩ = _ := (F2.cell (p := ⟨bx, 5, none⟩) hbl (fun h => h avx)).trans e5
    have D2 := Lib.hid (show WdB w2 d (-1) false 0 0 from D1.out.fr F2 (fun h => h avd))
    replace P2 := Lib.hid P2
    replace F2 := Lib.hid F2
    replace hu := Lib.hid hu
    generalize getN s name off m = rG
    generalize getB s name off m = bG at hu
    go_wp2_with fail
    have HG : ∃ r, Calls Try.prog 34 #[ptr d, .string ⟨name.toArray⟩, .int .i64 off, .int .i64 m] w2 fun e w' => e = .returned (.tuple #[.slice none 0 0, .int .i64 r]) ∧ Fr (One d) w2 w' := by
      by_cases hb : nm24 name = true ∧ 0 ≤ off ∧ -1 ≤ m
      · exact ⟨5, wget_none d name off m w2 (by omega) D2.out hb⟩
      · exact ⟨1, wget_bad d name off m w2 (by omega) hb⟩
    obtain ⟨r, HG⟩ := HG
    refine HG.mono ?_
    clear HG
    rintro e w3 ⟨rfl, F4⟩
    have PE := Lib.hid (P2.out.keep F4 (fun k h => Or.inl (by rw [show k = d from h]; exact avd)))
    have FE := Lib.hid ((F2.out.mono (S' := HiB W0) (fun k _ h => HHI.out k h)).trans (F4.mono (fun k _ h => by rw [show k = d from h]; exact HHI2.out)))
    have hu3 := Lib.hid (show Bs w3 u bG from Vs.keep hu.out fun k hk hlt => F4.block k hlt (fun h => (by rw [show k = d from h] at hk; exact hou d hk avd)))
    clear hu f1 f2 f3 f4 f5 e0 e1 e2 e3 e4 e5
    by_cases hr : (rG == r) = true
    · go_wp2_with fail
      refine (num24_any _ w3).mono ?_
      rintro e w4 ⟨rfl, rfl⟩
      go_wp2_with fail
      refine (same_any u (.slice none 0 0) bG [] w3 hu3.out (Bs.nil_ w3)).mono ?_
      rintro e w4 ⟨rfl, rfl⟩
      go_wp2
      go_ret
      exact ⟨⟨_, rfl⟩, ⟨n, _, by omega, PE.out.avoid (fun k h => Or.inl (Or.inl h)), fun x c hx hk => hx.get _ _ _⟩, FH1.out.trans FE.out⟩
    · replace hr : (rG == r) = false := by simpa using hr
      go_wp2_with fail
      refine (num24_any _ w3).mono ?_
      rintro e w4 ⟨rfl, rfl⟩
      go_wp2
      go_ret
      exact ⟨⟨_, rfl⟩, ⟨n, _, by omega, PE.out.avoid (fun k h => Or.inl (Or.inl h)), fun x c hx hk => hx.get _ _ _⟩, FH1.out.trans FE.out⟩
  by_cases hk3 : kind = 3
  · subst hk3
    go_wp2_with fail
    try rw [← hW1]
    clear hW1 hbx
    refine (pwlist_any P1.out HAV.out (by omega) name (by omega)).mono ?_
    rintro e w2 ⟨⟨u, lU, rfl, hu, hul0, -, hou0⟩, P2, F2⟩
    have hou := fun q hq => (hou0 q hq).1
    have hul : lU.length ≤ 1000000000 := by omega
    clear hul0 hou0
    have hbl : bx < W1.heap.size := by omega
    have f1 : w2.cell? ⟨bx, 1, none⟩ = _ := (F2.cell (p := ⟨bx, 1, none⟩) hbl (fun h => h avx)).trans e1
    have f2 : w2.cell? ⟨bx, 2, none⟩ = _ := (F2.cell (p := ⟨bx, 2, none⟩) hbl (fun h => h avx)).trans e2
    have f3 : w2.cell? ⟨bx, 3, none⟩ = _ := (F2.cell (p := ⟨bx, 3, none⟩) hbl (fun h => h avx)).trans e3
    have f4 : w2.cell? ⟨bx, 4, none⟩ = _ := (F2.cell (p := ⟨bx, 4, none⟩) hbl (fun h => h avx)).trans e4
    have f5 : w2.cell? ⟨bx, 5, none⟩ = _ := (F2.cell (p := ⟨bx, 5, none⟩) hbl (fun h => h avx)).trans e5
    have D2 := Lib.hid (show WdB w2 d (-1) false 0 0 from D1.out.fr F2 (fun h => h avd))
    replace P2 := Lib.hid P2
    replace F2 := Lib.hid F2
    replace hu := Lib.hid hu
    generalize lisN s = rG
    go_wp2_with fail
    refine (wlist_any d name w2 D2.out).mono ?_
    rintro e w3 ⟨⟨v, rfl, hv⟩, F4⟩
    have PE := Lib.hid (P2.out.keep F4 (fun k h => Or.inl (by rw [show k = d from h]; exact avd)))
    have FE := Lib.hid ((F2.out.mono (S' := HiB W0) (fun k _ h => HHI.out k h)).trans (F4.mono (fun k _ h => by rw [show k = d from h]; exact HHI2.out)))
    have hv3 := Lib.hid hv
    have hu3 := Lib.hid (show Vs sv w3 u lU from Vs.keep hu.out fun k hk hlt => F4.block k hlt (fun h => (by rw [show k = d from h] at hk; exact hou d hk avd)))
    clear hu hv f1 f2 f3 f4 f5 e0 e1 e2 e3 e4 e5
    by_cases hr : (rG == 0) = true
    · go_wp2_with fail
      refine (num24_any _ w3).mono ?_
      rintro e w4 ⟨rfl, rfl⟩
      go_wp2_with fail
      refine (names_any u v lU [] w3 hu3.out hv3.out (by omega)).mono ?_
      rintro e w4 ⟨rfl, FN⟩
      have PE4 := Lib.hid (PE.out.keep FN (fun k h => h.elim))
      have FE4 := Lib.hid (FE.out.trans (Fr.any FN))
      go_wp2
      go_ret
      exact ⟨⟨_, rfl⟩, ⟨n, _, by omega, PE4.out.avoid (fun k h => Or.inl (Or.inl h)), fun x c hx hk => hx.lis⟩, FH1.out.trans FE4.out⟩
    · replace hr : (rG == 0) = false := by simpa using hr
      go_wp2_with fail
      refine (num24_any _ w3).mono ?_
      rintro e w4 ⟨rfl, rfl⟩
      go_wp2
      go_ret
      exact ⟨⟨_, rfl⟩, ⟨n, _, by omega, PE.out.avoid (fun k h => Or.inl (Or.inl h)), fun x c hx hk => hx.lis⟩, FH1.out.trans FE.out⟩
  by_cases hk4 : kind = 4
  · subst hk4
    go_wp2
    try rw [← hW1]
    clear hW1 hbx
    obtain ⟨V, hV⟩ : ∃ V, V = W1.drew := ⟨_, rfl⟩
    refine wp_region_held_drew (S := (fun W' => W'.cell? ⟨bx, 1, none⟩ = some (.string ⟨name.toArray⟩))) (by kernel_rfl) (by exact e1) (fun hHeld => ?_)
    rw [← hV] at hHeld ⊢
    have FV : Fr Non W1 V := by rw [hV]; exact (Fr.refl _ _).drew
    clear hV
    have hbl : bx < V.heap.size := by have := FV.size; omega
    have PV := Lib.hid (P1.out.keep FV (fun k h => h.elim))
    have DV := Lib.hid (D1.out.fr FV (fun h => h))
    have HV := Lib.hid (FH1.out.trans (Fr.any FV))
    have hsv := FV.size
    clear FV P1 D1
    replace e1 := hHeld
    refine wpAnyH_take (i := 0) (oi := ⟨some 109, _, _, _, _, none⟩) (v := ?v25) rfl (by kernel_rfl) (by kernel_rfl) (by kernel_rfl) (fun _ _ _ h => h) (Or.inl ⟨by rfl, ?hy25⟩) (by assumption) ?rest25
    case hy25 => (intro wS hSw; (try dsimp only at hSw); go_simp; (try with_reducible rfl))
    (try simp only [Act.put, zA, zB, zC])
    refine wpAnyH_take (i := 1) (oi := ⟨some 110, _, _, _, _, none⟩) (v := ?v26) rfl (by kernel_rfl) (by kernel_rfl) (by kernel_rfl) (fun _ _ _ h => h) (Or.inl ⟨by rfl, ?hy26⟩) (by assumption) ?rest26
    case hy26 => (intro wS hSw; (try dsimp only at hSw); go_simp; (try with_reducible rfl))
    (try simp only [Act.put, zA, zB, zC])
    refine wpAnyH_take (i := 2) (oi := ⟨some 111, _, _, _, _, none⟩) (v := ?v27) rfl (by kernel_rfl) (by kernel_rfl) (by kernel_rfl) (fun _ _ _ h => h) (Or.inl ⟨by rfl, ?hy27⟩) (by assumption) ?rest27
    case hy27 => (intro wS hSw; (try dsimp only at hSw); go_simp; (try with_reducible rfl))
    (try simp only [Act.put, zA, zB, zC])
    refine wpAnyH_take (i := 5) (oi := ⟨some 114, _, _, _, _, none⟩) (v := ?v28) rfl (by kernel_rfl) (by kernel_rfl) (by kernel_rfl) (fun _ _ _ h => h) (Or.inl ⟨by rfl, ?hy28⟩) (by assumption) ?rest28
    case hy28 => (intro wS hSw; (try dsimp only at hSw); go_simp; (try with_reducible rfl))
    (try simp only [Act.put, zA, zB, zC])
    refine wpAnyH_take (i := 6) (oi := ⟨some 115, _, _, _, _, none⟩) (v := ?v29) rfl (by kernel_rfl) (by kernel_rfl) (by kernel_rfl) (fun _ _ _ h => h) (Or.inl ⟨by rfl, ?hy29⟩) (by assumption) ?rest29
    case hy29 => (intro wS hSw; (try dsimp only at hSw); go_simp; (try with_reducible rfl))
    (try simp only [Act.put, zA, zB, zC])
    refine wpAnyH_take (i := 7) (oi := ⟨some 116, _, _, _, _, none⟩) (v := ?v30) rfl (by kernel_rfl) (by kernel_rfl) (by kernel_rfl) (fun _ _ _ h => h) (Or.inl ⟨by rfl, ?hy30⟩) (by assumption) ?rest30
    case hy30 => (intro wS hSw; (try dsimp only at hSw); go_simp; (try with_reducible rfl))
    (try simp only [Act.put, zA, zB, zC])
    refine wpAnyH_ready (rs := [3]) (by kernel_rfl) (by simp) ?_
    refine AllReadyH.cons (o := ⟨some 112, _, _, _, _, none⟩) rfl (fun K hK => ?_) AllReadyH.nil
    go_simp
    go_at_call 20
    refine (pwdel_any PV.out (fun k h => by have := HAV.out k h; omega) name (by omega)).mono ?_
    rintro e w2 ⟨rfl, ⟨n2, hn2, P2⟩, F2⟩
    go_wp2_with fail
    refine hK.out _ _ (by exact (F2.cell (p := ⟨bx, 1, none⟩) hbl (fun h => h avx)).trans e1) (fun hHeld => ?_)
    clear hK K
    (try simp only [Act.put, zA, zB, zC])
    refine wpAnyH_ready (rs := [4]) (by kernel_rfl) (by simp) ?_
    refine AllReadyH.cons (o := ⟨some 113, _, _, _, _, none⟩) rfl (fun K hK => ?_) AllReadyH.nil
    go_simp
    go_at_call 7
    refine (num24_any _ w2).mono ?_
    rintro e w3 ⟨rfl, rfl⟩
    go_wp2_with fail
    refine hK.out _ _ (by exact (F2.cell (p := ⟨bx, 1, none⟩) hbl (fun h => h avx)).trans e1) (fun hHeld => ?_)
    clear hK K
    (try simp only [Act.put, zA, zB, zC])
    have D2 : WdB w2 d (-1) false 0 0 := DV.out.fr F2 (fun h => h avd)
    refine wpAnyH_ready (rs := [8]) (by kernel_rfl) (by simp) ?_
    refine AllReadyH.cons (o := ⟨some 117, _, _, _, _, none⟩) rfl (fun K hK => ?_) AllReadyH.nil
    go_simp
    go_at_call 37
    refine (wdel_any d name w2 (by omega) D2).mono ?_
    rintro e w4 ⟨rfl, F4⟩
    generalize (if nm24 name = true then (0 : Int) else 1) = rD
    go_wp2_with fail
    refine hK.out _ _ (by exact (F4.cell (p := ⟨bx, 1, none⟩) (by have := F2.size; show bx < _; omega) (fun h => hbd h)).trans ((F2.cell (p := ⟨bx, 1, none⟩) hbl (fun h => h avx)).trans e1)) (fun hHeld => ?_)
    clear hK K
    (try simp only [Act.put, zA, zB, zC])
    refine wpAnyH_take (i := 9) (oi := ⟨some 118, _, _, _, _, none⟩) (v := ?v31) rfl (by kernel_rfl) (by kernel_rfl) (by kernel_rfl) (fun _ _ _ h => h) (Or.inl ⟨by rfl, ?hy31⟩) (by assumption) ?rest31
    case hy31 => (intro wS hSw; (try dsimp only at hSw); go_simp; (try with_reducible rfl))
    (try simp only [Act.put, zA, zB, zC])
    refine wpAnyH_take (i := 10) (oi := ⟨some 6, _, _, _, _, none⟩) (v := ?v32) rfl (by kernel_rfl) (by kernel_rfl) (by kernel_rfl) (fun _ _ _ h => h) (Or.inl ⟨by rfl, ?hy32⟩) (by assumption) ?rest32
    case hy32 => (intro wS hSw; (try dsimp only at hSw); go_simp; (try with_reducible rfl))
    (try simp only [Act.put, zA, zB, zC])
    refine wpAnyH_done (by kernel_rfl) ?_ _
    have PE := Lib.hid (P2.keep F4 (fun k h => Or.inl (by rw [show k = d from h]; exact avd)))
    have FE := Lib.hid ((F2.mono (S' := HiB W0) (fun k _ h => HHI.out k h)).trans (F4.mono (fun k _ h => by rw [show k = d from h]; exact HHI2.out)))
    clear hHeld P2 F2 F4 D2
    go_wp2
    go_ret
    exact ⟨⟨_, rfl⟩, ⟨n2, _, by omega, PE.out.avoid (fun k h => Or.inl (Or.inl h)), fun x c hx hk => hx.del (fun e => hk ⟨e, Or.inr rfl⟩)⟩, HV.out.trans FE.out⟩
  by_cases hk5 : kind = 5
  · subst hk5
    go_wp2_with fail
    try rw [← hW1]
    clear hW1 hbx
    refine (pwfaults_any P1.out HAV.out (.slice lA ls.length lc) ls (HL.out W1 FH1.out) hlr (by omega)).mono ?_
    rintro e w2 ⟨rfl, P2, F2⟩
    have hbl : bx < W1.heap.size := by omega
    have f1 : w2.cell? ⟨bx, 1, none⟩ = _ := (F2.cell (p := ⟨bx, 1, none⟩) hbl (fun h => h avx)).trans e1
    have f2 : w2.cell? ⟨bx, 2, none⟩ = _ := (F2.cell (p := ⟨bx, 2, none⟩) hbl (fun h => h avx)).trans e2
    have f3 : w2.cell? ⟨bx, 3, none⟩ = _ := (F2.cell (p := ⟨bx, 3, none⟩) hbl (fun h => h avx)).trans e3
    have f4 : w2.cell? ⟨bx, 4, none⟩ = _ := (F2.cell (p := ⟨bx, 4, none⟩) hbl (fun h => h avx)).trans e4
    have f5 : w2.cell? ⟨bx, 5, none⟩ = _ := (F2.cell (p := ⟨bx, 5, none⟩) hbl (fun h => h avx)).trans e5
    have D2 : WdB w2 d (-1) false 0 0 := D1.out.fr F2 (fun h => h avd)
    obtain ⟨c0, c1, c2, c3, c4, c5, c6, z0, z1, z2, z3, z4, z5, z6⟩ := D2.facts
    have hld := D2.lt
    have F4 : Fr (One d) w2 (w2.setCell ⟨d, 2, none⟩ (.slice lA ls.length lc)) := (Fr.refl _ _).set1 2 _
    clear D2 e0 e1 e2 e3 e4 e5
    have PE := Lib.hid (P2.keep F4 (fun k h => Or.inl (by rw [show k = d from h]; exact avd)))
    have FE := Lib.hid ((F2.mono (S' := HiB W0) (fun k _ h => HHI.out k h)).trans (F4.mono (fun k _ h => by rw [show k = d from h]; exact HHI2.out)))
    clear P2 F2 F4
    go_wp2
    go_ret
    exact ⟨⟨_, rfl⟩, ⟨n, _, by omega, PE.out.avoid (fun k h => Or.inl (Or.inl h)), fun x c hx hk => hx⟩, FH1.out.trans FE.out⟩
  by_cases hk6 : kind = 6
  · subst hk6
    go_wp2_with fail
    try rw [← hW1]
    clear hW1 hbx
    refine (pwfuse_any P1.out m hm).mono ?_
    rintro e w2 ⟨rfl, P2, F2⟩
    have hbl : bx < W1.heap.size := by omega
    have f1 : w2.cell? ⟨bx, 1, none⟩ = _ := (F2.cell (p := ⟨bx, 1, none⟩) hbl (fun h => h avx)).trans e1
    have f2 : w2.cell? ⟨bx, 2, none⟩ = _ := (F2.cell (p := ⟨bx, 2, none⟩) hbl (fun h => h avx)).trans e2
    have f3 : w2.cell? ⟨bx, 3, none⟩ = _ := (F2.cell (p := ⟨bx, 3, none⟩) hbl (fun h => h avx)).trans e3
    have f4 : w2.cell? ⟨bx, 4, none⟩ = _ := (F2.cell (p := ⟨bx, 4, none⟩) hbl (fun h => h avx)).trans e4
    have f5 : w2.cell? ⟨bx, 5, none⟩ = _ := (F2.cell (p := ⟨bx, 5, none⟩) hbl (fun h => h avx)).trans e5
    have D2 := Lib.hid (show WdB w2 d (-1) false 0 0 from D1.out.fr F2 (fun h => h avd))
    replace P2 := Lib.hid P2
    replace F2 := Lib.hid F2
    clear e0 e1 e2 e3 e4 e5
    go_wp2_with fail
    refine (wsetf_any d m (-1) 0 0 w2 D2.out).mono ?_
    rintro e w3 ⟨rfl, F4⟩
    have PE := Lib.hid (P2.out.keep F4 (fun k h => Or.inl (by rw [show k = d from h]; exact avd)))
    have FE := Lib.hid ((F2.out.mono (S' := HiB W0) (fun k _ h => HHI.out k h)).trans (F4.mono (fun k _ h => by rw [show k = d from h]; exact HHI2.out)))
    go_wp2
    go_ret
    exact ⟨⟨_, rfl⟩, ⟨n, _, by omega, PE.out.avoid (fun k h => Or.inl (Or.inl h)), fun x c hx hk => hx.setf _⟩, FH1.out.trans FE.out⟩
  by_cases hk7 : kind = 7
  · subst hk7
    go_wp2_with fail
    try rw [← hW1]
    clear hW1 hbx
    refine (pwup_any P1.out).mono ?_
    rintro e w2 ⟨rfl, P2, F2'⟩
    have F2 : Fr (fun k => ¬ avP av bx k) W1 w2 := F2'.mono (fun k _ h => by rw [show k = g from h]; exact PW.ng P1.out)
    clear F2'
    have hbl : bx < W1.heap.size := by omega
    have f1 : w2.cell? ⟨bx, 1, none⟩ = _ := (F2.cell (p := ⟨bx, 1, none⟩) hbl (fun h => h avx)).trans e1
    have f2 : w2.cell? ⟨bx, 2, none⟩ = _ := (F2.cell (p := ⟨bx, 2, none⟩) hbl (fun h => h avx)).trans e2
    have f3 : w2.cell? ⟨bx, 3, none⟩ = _ := (F2.cell (p := ⟨bx, 3, none⟩) hbl (fun h => h avx)).trans e3
    have f4 : w2.cell? ⟨bx, 4, none⟩ = _ := (F2.cell (p := ⟨bx, 4, none⟩) hbl (fun h => h avx)).trans e4
    have f5 : w2.cell? ⟨bx, 5, none⟩ = _ := (F2.cell (p := ⟨bx, 5, none⟩) hbl (fun h => h avx)).trans e5
    have D2 := Lib.hid (show WdB w2 d (-1) false 0 0 from D1.out.fr F2 (fun h => h avd))
    replace P2 := Lib.hid P2
    replace F2 := Lib.hid F2
    clear e0 e1 e2 e3 e4 e5
    go_wp2_with fail
    refine (wup_any d (-1) false 0 0 w2 D2.out).mono ?_
    rintro e w3 ⟨rfl, F4⟩
    have PE := Lib.hid (P2.out.keep F4 (fun k h => Or.inl (by rw [show k = d from h]; exact avd)))
    have FE := Lib.hid ((F2.out.mono (S' := HiB W0) (fun k _ h => HHI.out k h)).trans (F4.mono (fun k _ h => by rw [show k = d from h]; exact HHI2.out)))
    go_wp2
    go_ret
    exact ⟨⟨_, rfl⟩, ⟨n, _, by omega, PE.out.avoid (fun k h => Or.inl (Or.inl h)), fun x c hx hk => hx⟩, FH1.out.trans FE.out⟩
  by_cases hk8 : kind = 8
  · subst hk8
    go_wp2_with fail
    try rw [← hW1]
    clear hW1 hbx
    refine (pwstep_any P1.out).mono ?_
    rintro e w2 ⟨rfl, P2, F2'⟩
    have F2 : Fr (fun k => ¬ avP av bx k) W1 w2 := F2'.mono (fun k _ h => by rw [show k = g from h]; exact PW.ng P1.out)
    clear F2'
    have hbl : bx < W1.heap.size := by omega
    have f1 : w2.cell? ⟨bx, 1, none⟩ = _ := (F2.cell (p := ⟨bx, 1, none⟩) hbl (fun h => h avx)).trans e1
    have f2 : w2.cell? ⟨bx, 2, none⟩ = _ := (F2.cell (p := ⟨bx, 2, none⟩) hbl (fun h => h avx)).trans e2
    have f3 : w2.cell? ⟨bx, 3, none⟩ = _ := (F2.cell (p := ⟨bx, 3, none⟩) hbl (fun h => h avx)).trans e3
    have f4 : w2.cell? ⟨bx, 4, none⟩ = _ := (F2.cell (p := ⟨bx, 4, none⟩) hbl (fun h => h avx)).trans e4
    have f5 : w2.cell? ⟨bx, 5, none⟩ = _ := (F2.cell (p := ⟨bx, 5, none⟩) hbl (fun h => h avx)).trans e5
    have D2 := Lib.hid (show WdB w2 d (-1) false 0 0 from D1.out.fr F2 (fun h => h avd))
    replace P2 := Lib.hid P2
    replace F2 := Lib.hid F2
    clear e0 e1 e2 e3 e4 e5
    go_wp2_with fail
    refine (num24_any _ w2).mono ?_
    rintro e w4 ⟨rfl, rfl⟩
    go_wp2_with fail
    refine (wstep_any d 0 w2 D2.out).mono ?_
    rintro e w3 ⟨rfl, -, F4⟩
    have PE := Lib.hid (P2.out.keep F4 (fun k h => Or.inl (by rw [show k = d from h]; exact avd)))
    have FE := Lib.hid ((F2.out.mono (S' := HiB W0) (fun k _ h => HHI.out k h)).trans (F4.mono (fun k _ h => by rw [show k = d from h]; exact HHI2.out)))
    go_wp2
    go_ret
    exact ⟨⟨_, rfl⟩, ⟨n, _, by omega, PE.out.avoid (fun k h => Or.inl (Or.inl h)), fun x c hx hk => hx.step⟩, FH1.out.trans FE.out⟩
  have d0 : (kind == 0) = false := by simpa using hk0
  have d1 : (kind == 1) = false := by simpa using hk1
  have d2 : (kind == 2) = false := by simpa using hk2
  have d3 : (kind == 3) = false := by simpa using hk3
  have d4 : (kind == 4) = false := by simpa using hk4
  have d5 : (kind == 5) = false := by simpa using hk5
  have d6 : (kind == 6) = false := by simpa using hk6
  have d7 : (kind == 7) = false := by simpa using hk7
  have d8 : (kind == 8) = false := by simpa using hk8
  clear hk0 hk1 hk2 hk3 hk4 hk5 hk6 hk7 hk8
  go_wp2
  try rw [← hW1]
  clear hW1 hbx
  go_ret
  exact ⟨⟨_, rfl⟩, ⟨n, s, by omega, P1.out.avoid (fun k h => Or.inl (Or.inl h)), fun x c hx hk => hx⟩, FH1.out⟩
end Go.Proofs.Ytpepapadbmkjiaa

namespace Go.Proofs.Ytpepapadbmkjiaa
open Go.RowKit
def smallA (a : Ac) : Bool := decide ((a.name.length : Int) ≤ 60) && decide ((a.b.n : Int) ≤ 300) && decide ((a.l.n : Int) ≤ 20)
set_option maxHeartbeats 4000000 in
theorem small24_any (a : Ac) (w : World) : Calls Try.prog 9 #[.agg ⟨acL a⟩] w fun e w' => e = .returned (.bool (smallA a)) ∧ Fr Non w w' := by
  obtain ⟨kind, name, ⟨bA, bn, bc⟩, off, m, ⟨lA, ln, lc⟩⟩ := a
  obtain ⟨bx, hbx⟩ : ∃ b, w.heap.size = b := ⟨_, rfl⟩
  have hblk : Blk (w.alloc (.cells #[.int .i64 kind, .string ⟨name.toArray⟩, .slice bA bn bc, .int .i64 off, .int .i64 m, .slice lA ln lc] 33)) bx 33 #[.int .i64 kind, .string ⟨name.toArray⟩, .slice bA bn bc, .int .i64 off, .int .i64 m, .slice lA ln lc] := by rw [← hbx]; exact Blk.new _ _ _
  have e1 := hblk.cell 1
  have e2 := hblk.cell 2
  have e5 := hblk.cell 5
  have F := Lib.hid ((Fr.refl Non w).alloc (.cells #[.int .i64 kind, .string ⟨name.toArray⟩, .slice bA bn bc, .int .i64 off, .int .i64 m, .slice lA ln lc] 33))
  obtain ⟨W1, hW1⟩ : ∃ W, w.alloc (.cells #[.int .i64 kind, .string ⟨name.toArray⟩, .slice bA bn bc, .int .i64 off, .int .i64 m, .slice lA ln lc] 33) = W := ⟨_, rfl⟩
  rw [hW1] at e1 e2 e5 F
  clear hblk
  obtain ⟨r, hr⟩ : ∃ r, smallA ⟨kind, name, ⟨bA, bn, bc⟩, off, m, ⟨lA, ln, lc⟩⟩ = r := ⟨_, rfl⟩
  rw [hr]
  unfold smallA at hr
  dsimp only at hr
  show Calls Try.prog _ #[.agg #[.int .i64 kind, .string ⟨name.toArray⟩, .slice bA bn bc, .int .i64 off, .int .i64 m, .slice lA ln lc]] w _
  by_cases h1 : (name.length : Int) ≤ 60
  · have k1 : decide ((name.length : Int) ≤ 60) = true := decide_eq_true h1
    by_cases h2 : (bn : Int) ≤ 300
    · have k2 : decide ((bn : Int) ≤ 300) = true := decide_eq_true h2
      obtain ⟨q, hq⟩ : ∃ q, decide ((ln : Int) ≤ 20) = q := ⟨_, rfl⟩
      rw [k1, k2, hq] at hr
      have HR : Hid (q = r) := Lib.hid (by simpa using hr)
      clear h1 h2 hr
      go_enter Try.func9, Try.ntmps9
      go_wp2
      go_ret
      exact ⟨ret_boolE HR.out, F.out⟩
    · have k2 : decide ((bn : Int) ≤ 300) = false := decide_eq_false h2
      rw [k1, k2] at hr
      have HR : Hid (false = r) := Lib.hid (by simpa using hr)
      clear h1 h2 hr
      go_enter Try.func9, Try.ntmps9
      go_wp2
      go_ret
      exact ⟨ret_boolE HR.out, F.out⟩
  · have k1 : decide ((name.length : Int) ≤ 60) = false := decide_eq_false h1
    rw [k1] at hr
    have HR : Hid (false = r) := Lib.hid (by simpa using hr)
    clear h1 hr
    go_enter Try.func9, Try.ntmps9
    go_wp2
    go_ret
    exact ⟨ret_boolE HR.out, F.out⟩
def lv1 : Wst := failS newS [2]
def lv2 : Wst := (putS lv1 [97] [120] false).2
theorem lv_put : (putS lv1 [97] [120] false).1 = 11 := by decide +kernel
theorem lv_get : getN lv2 [97] 0 (-1) = 0 := by decide +kernel
theorem lv_getB : getB lv2 [97] 0 (-1) = [120] := by decide +kernel
theorem lv_steps : (getS lv2 [97] 0 (-1)).steps = 2 := by decide +kernel
set_option maxHeartbeats 4000000 in
theorem live24_any (w : World) : Calls Try.prog 5 #[] w fun e w' => e = .returned (.bool true) ∧ Fr Non w w' := by
  obtain ⟨av, hav⟩ : ∃ av : Nat → Prop, av = fun k => k < w.heap.size := ⟨_, rfl⟩
  have HA : Hid (∀ k, av k ↔ k < w.heap.size) := Lib.hid (fun k => by rw [hav])
  clear hav
  have kc := fun (w : World) (C : Array Value) (n c : Nat) => Lib.run_convert_bytes_const (P := Try.prog) w 23 5 C n c Try.underlying23 Try.underlying5
  go_enter Try.func5, Try.ntmps5
  go_wp2_with fail
  refine (pwnew_any av w (fun k h => (HA.out k).1 h)).mono ?_
  rintro e w1 ⟨g, rfl, -, P1, F1⟩
  obtain ⟨W1, hW1⟩ : ∃ W, w1.alloc (.cells #[.int .i64 2] 3) = W := ⟨_, rfl⟩
  have FA1 : Fr Non w1 W1 := by rw [← hW1]; exact (Fr.refl _ _).alloc _
  have V1 : Vs iv W1 (.slice (some ⟨w1.heap.size, 0, none⟩) 1 1) [2] := by rw [← hW1]; exact vs_row (f := iv) w1 [2] 3 (0, 0)
  have P2 := Lib.hid ((P1.avoid (av' := avP av w1.heap.size) (fun k h => h.elim Or.inl (fun e => Or.inr (Nat.le_of_eq e.symm)))).keep FA1 (fun k h => h.elim))
  have B1 : Hid (∀ k, avP av w1.heap.size k → k < W1.heap.size) := Lib.hid (fun k h => by
    have h1 : W1.heap.size = w1.heap.size + 1 := by rw [← hW1]; simp
    have := F1.size
    exact h.elim (fun h => by have := (HA.out k).1 h; omega) (fun e => by omega))
  have FF1 := Lib.hid (F1.trans FA1)
  have HV1 := Lib.hid V1
  clear P1 F1 FA1 V1
  go_wp2_with fail
  try rw [hW1]
  refine (pwfaults_any P2.out B1.out _ [2] HV1.out (by simp) (by simp)).mono ?_
  rintro e w2 ⟨rfl, P3, F3⟩
  obtain ⟨W2, hW2⟩ : ∃ W, w2.alloc (.cells #[.int .u8 120] 5 (1, 2)) = W := ⟨_, rfl⟩
  have FA2 : Fr Non w2 W2 := by rw [← hW2]; exact (Fr.refl _ _).alloc _
  have V2 : Bs W2 (.slice (some ⟨w2.heap.size, 0, none⟩) 1 1) [120] := by rw [← hW2]; exact vs_row (f := bv) w2 [120] 5 (1, 2)
  have P4 := Lib.hid ((P3.avoid (av' := avP av w2.heap.size) (fun k h => h.elim (fun h => Or.inl (Or.inl h)) (fun e => Or.inr (Nat.le_of_eq e.symm)))).keep FA2 (fun k h => h.elim))
  have FF2 := Lib.hid ((F3.mono (S' := HiB w) (fun k _ h => by unfold HiB; by_cases hk : k < w.heap.size; exact absurd (Or.inl ((HA.out k).2 hk)) h; omega)).then FA2)
  have B2 : Hid (∀ k, avP av w2.heap.size k → k < W2.heap.size) := Lib.hid (fun k h => by
    have h1 : W2.heap.size = w2.heap.size + 1 := by rw [← hW2]; simp
    have := F3.size
    have := FF1.out.size
    exact h.elim (fun h => by have := (HA.out k).1 h; omega) (fun e => by omega))
  have FF3 := Lib.hid ((FF1.out.any (S := HiB w)).trans FF2.out)
  have HV2 := Lib.hid V2
  clear P3 F3 FA2 V2 P2 hW1
  go_wp2_with fail
  try rw [hW2]
  refine (pwput_any P4.out B2.out (by omega) [97] (by simp) _ [120] (fun W' hf => Vs.fr HV2.out hf (fun q hq h => h (Or.inr (by simpa [Value.ownBlock] using hq.symm)))) (by simp)).mono ?_
  rintro e w3 ⟨rfl, ⟨n5, -, P5⟩, F5⟩
  rw [show failS newS [2] = lv1 from rfl, lv_put] at *
  have P5' := Lib.hid (show PW av n5 w3 g lv2 from P5.avoid (fun k h => Or.inl (Or.inl h)))
  have FF5 := Lib.hid (FF3.out.trans (F5.mono (S' := HiB w) (fun k _ h => by unfold HiB; by_cases hk : k < w.heap.size; exact absurd (Or.inl ((HA.out k).2 hk)) h; omega)))
  clear P5 F5 P4 hW2
  go_wp2_with fail
  refine (pwget_any P5'.out (fun k h => by have := (HA.out k).1 h; have := FF5.out.size; omega) [97] (by simp) 0 (-1) (by decide) (by decide)).mono ?_
  rintro e w4 ⟨⟨u, rfl, hu, -⟩, P6, F6⟩
  rw [lv_get] at *
  rw [lv_getB] at hu
  have P6' := Lib.hid P6
  have FF6 := Lib.hid (FF5.out.trans (F6.mono (S' := HiB w) (fun k _ h => by unfold HiB; by_cases hk : k < w.heap.size; exact absurd ((HA.out k).2 hk) h; omega)))
  have HU := Lib.hid hu
  have hcv := run_conv_Bs hu 23 9 5 Try.underlying23 Try.underlying5 Try.underlying9
  clear P6 F6 P5' hu
  go_wp2_with fail
  refine (num24_any _ w4).mono ?_
  rintro e w5 ⟨rfl, rfl⟩
  go_wp2_with fail
  refine (num24_any _ w4).mono ?_
  rintro e w5 ⟨rfl, rfl⟩
  go_wp2_with fail
  refine (pwsteps_any P6'.out).mono ?_
  rintro e w5 ⟨rfl, rfl⟩
  rw [lv_steps]
  go_wp2
  go_ret
  exact ⟨rfl, FF6.out.mono (fun k h1 h2 => by unfold HiB at h2; omega)⟩
end Go.Proofs.Ytpepapadbmkjiaa

namespace Go.Proofs.Ytpepapadbmkjiaa
open Go.RowKit
def kept : Tx := [107, 101, 112, 116]
theorem kept_nm : nm24 kept = true := by decide +kernel
theorem put_kept {b : List UInt8} (h : b.length ≤ 300) : (putS newS kept b false).1 = 0 ∧ HasS (putS newS kept b false).2 kept b := by
  have h1 : putS newS kept b false = (0, laidS (faultS (stepS newS).2) kept b) := by
    unfold putS reqS
    rw [kept_nm, if_neg (by simp; omega), if_neg (by simp [newS]), if_neg (by simp [newS, nextF])]
    simp [newS, nextF]
  rw [h1]
  exact ⟨rfl, List.mem_cons_self .., by simp [laidS]⟩
theorem hi_cell {w w4 w5 : World} {p : Addr} {u : Value} (h4 : Fr (HiB w) w w4) (h5 : Fr (HiB w) w w5) (hp : p.block < w.heap.size) (e : w4.cell? p = some u) : w5.cell? p = some u :=
  (h5.cell hp (fun h => by unfold HiB at h; omega)).trans ((h4.cell hp (fun h => by unfold HiB at h; omega)).symm.trans e)
theorem Fr.of_hi {w w' : World} (h : Fr (HiB w) w w') : Fr Non w w' := h.mono fun k h1 h2 => by unfold HiB at h2; omega
set_option maxHeartbeats 16000000 in
theorem worldKeeps_walk (v vb : Value) (l : List Ac) (b : List UInt8) (w : World) (hv : Ns acL 6 w v l) (hl : ∀ x ∈ l, AcS w x) (hvb : ∀ q, v.ownBlock = some q → q < w.heap.size) (hb : Bs w vb b) (hll : l.length ≤ 9223372036854775807) (hbl : b.length ≤ 9223372036854775807) :
    Calls Try.prog 3 #[v, vb] w fun e w'' => e = .returned (.bool true) ∧ Below w.heap.size w w'' := by
  obtain ⟨A, c, rfl⟩ := hv.shape
  obtain ⟨Ab, cb, rfl⟩ := Vs.shape (f := bv) hb
  have HL := Lib.hid (fun W => live24_any W)
  by_cases h40 : l.length ≤ 40
  · by_cases h300 : b.length ≤ 300
    · have k1 : decide ((40 : Int) < (l.length : Int)) = false := by simp; omega
      have k2 : decide ((300 : Int) < (b.length : Int)) = false := by simp; omega
      have HV := Lib.hid hv
      have HS := Lib.hid hl
      have HB := Lib.hid hb
      have HVB := Lib.hid hvb
      obtain ⟨av, hav⟩ : ∃ av : Nat → Prop, av = fun k => k < w.heap.size := ⟨_, rfl⟩
      have HA : Hid (∀ k, av k ↔ k < w.heap.size) := Lib.hid (fun k => by rw [hav])
      have HK := put_kept h300
      have HHI : Hid (∀ k, ¬ av k → HiB w k) := Lib.hid (fun k h => by unfold HiB; by_cases hk : k < w.heap.size; exact absurd ((HA.out k).2 hk) h; omega)
      clear hav hv hl hb hll hbl hvb
      go_enter Try.func3, Try.ntmps3
      go_wp2_with fail
      refine (pwnew_any av w (fun k h => (HA.out k).1 h)).mono ?_
      rintro e w1 ⟨g, rfl, -, P1, F1⟩
      replace P1 := Lib.hid P1
      replace F1 := Lib.hid F1
      go_wp2_with fail
      refine (pwput_any P1.out (fun k h => by have := (HA.out k).1 h; have := F1.out.size; omega) (by omega) kept (by decide) (.slice Ab b.length cb) b (fun W' hf => Vs.keep HB.out fun k _ hk => ((Fr.any F1.out).trans (hf.mono (fun k _ h => HHI.out k h))).block k hk (fun h => by unfold HiB at h; omega)) (by omega)).mono ?_
      rintro e w2 ⟨rfl, ⟨n2, hn2, P2⟩, F2⟩
      rw [HK.1]
      have PK : Hid (∃ n s, n ≤ 0 + 1 ∧ PW av n w2 g s ∧ HasS s kept b) := Lib.hid ⟨n2, _, hn2, P2, HK.2⟩
      have FK : Hid (Fr (HiB w) w w2) := Lib.hid ((Fr.any F1.out).trans (F2.mono (fun k _ h => HHI.out k h)))
      clear P1 F1 P2 F2 HK
      go_wp2_with fail
      refine (num24_any _ w2).mono ?_
      rintro e w3 ⟨rfl, rfl⟩
      go_wp2
      go_loopw [6] (fun i wr => ∃ (j : Nat), j ≤ l.length ∧ i = .int .i64 j ∧ Hid (∃ n s, n ≤ j + 1 ∧ PW av n wr g s ∧ HasS s kept b) ∧ Hid (Fr (HiB w) w wr)) (fun i _ => l.length - (intOf i).toNat)
      case atStart => exact ⟨0, Nat.zero_le _, rfl, PK, FK⟩
      case round =>
        obtain ⟨j, hj, rfl, PJ, FJ⟩ := hrel
        clear PK FK
        by_cases hlt : j < l.length
        · obtain ⟨x, hx⟩ : ∃ x, l[j] = x := ⟨_, rfl⟩
          have HX2 : Hid (AcS w x) := Lib.hid (HS.out x (by rw [← hx]; exact List.getElem_mem hlt))
          have hvr := HV.out.keep fun k _ hk => FJ.out.block k hk (by unfold HiB; omega)
          obtain ⟨a, ha, -, -, hel⟩ := hvr.addr (show 0 < l.length by omega)
          have hat := hel j hlt
          rw [hx] at hat
          subst ha
          have hab : Hid ((a.add (j * 6)).block < w.heap.size) := Lib.hid (by rw [add_block]; exact HVB.out a.block rfl)
          obtain ⟨q0, q1, q2, q3, q4, q5⟩ := ac_lit hat
          have HS2 := Lib.hid (fun W => small24_any x W)
          obtain ⟨kind, name, ⟨bA, bn, bc⟩, off, m, ⟨lA, ln, lc⟩⟩ := x
          unfold acL slV at HS2
          unfold slV at q2 q5
          dsimp only at q0 q1 q2 q3 q4 q5 HS2
          clear hel hat hvr hx
          go_wp2_with fail
          refine (HS2.out wr).mono ?_
          rintro e w3 ⟨rfl, F3⟩
          obtain ⟨sm, hsm⟩ : ∃ r, smallA ⟨kind, name, ⟨bA, bn, bc⟩, off, m, ⟨lA, ln, lc⟩⟩ = r := ⟨_, rfl⟩
          rw [hsm]
          replace q0 := F3.at0 q0
          replace q1 := F3.at0 q1
          replace q2 := F3.at0 q2
          replace q3 := F3.at0 q3
          replace q4 := F3.at0 q4
          replace q5 := F3.at0 q5
          have PJ3 : Hid (∃ n s, n ≤ j + 1 ∧ PW av n w3 g s ∧ HasS s kept b) := Lib.hid (by obtain ⟨n, s, h1, h2, h3⟩ := PJ.out; exact ⟨n, s, h1, h2.keep F3 (fun k h => h.elim), h3⟩)
          have FJ3 := Lib.hid (FJ.out.then F3)
          clear PJ FJ HS2 F3
          cases sm
          · go_wp2_with fail
            refine (HL.out w3).mono ?_
            rintro e w4 ⟨rfl, F4⟩
            go_wp2
            go_ret
            exact ⟨rfl, (Fr.of_hi (FJ3.out.then F4)).below⟩
          · have HS3 : Hid (name.length ≤ 60 ∧ bn ≤ 300 ∧ ln ≤ 20) := Lib.hid (by
              unfold smallA at hsm
              simp only [Bool.and_eq_true, decide_eq_true_eq] at hsm
              omega)
            clear hsm
            by_cases hnk : name = [107, 101, 112, 116]
            · subst hnk
              by_cases hk0 : kind = 0
              · subst hk0
                go_wp2_with fail
                refine (HL.out w3).mono ?_
                rintro e w4 ⟨rfl, F4⟩
                go_wp2
                go_ret
                exact ⟨rfl, (Fr.of_hi (FJ3.out.then F4)).below⟩
              · by_cases hk4 : kind = 4
                · subst hk4
                  go_wp2_with fail
                  refine (HL.out w3).mono ?_
                  rintro e w4 ⟨rfl, F4⟩
                  go_wp2
                  go_ret
                  exact ⟨rfl, (Fr.of_hi (FJ3.out.then F4)).below⟩
                · have d0 : (kind == 0) = false := by simpa using hk0
                  have d4 : (kind == 4) = false := by simpa using hk4
                  have HKD := Lib.hid (show ¬(kind = 0 ∨ kind = 4) from fun h => h.elim hk0 hk4)
                  go_wp2
                  have hs1 := HS3.out.1
                  have hs2 := HS3.out.2.1
                  have hs3 := HS3.out.2.2
                  obtain ⟨V, hV⟩ : ∃ V, V = w3.drew := ⟨_, rfl⟩
                  refine wp_region_held_drew (S := (fun W' => W'.cell? (a.add (j * 6)) = some (.int .i64 kind) ∧ W'.cell? { block := (a.add (j * 6)).block, off := (a.add (j * 6)).off + 1 } = some (.string ⟨#[107, 101, 112, 116]⟩) ∧ W'.cell? { block := (a.add (j * 6)).block, off := (a.add (j * 6)).off + 2 } = some (.slice bA bn bc) ∧ W'.cell? { block := (a.add (j * 6)).block, off := (a.add (j * 6)).off + 3 } = some (.int .i64 off) ∧ W'.cell? { block := (a.add (j * 6)).block, off := (a.add (j * 6)).off + 4 } = some (.int .i64 m) ∧ W'.cell? { block := (a.add (j * 6)).block, off := (a.add (j * 6)).off + 5 } = some (.slice lA ln lc))) (by kernel_rfl) (by exact ⟨q0, q1, q2, q3, q4, q5⟩) (fun hHeld => ?_)
                  rw [← hV] at hHeld ⊢
                  have FV : Fr Non w3 V := by rw [hV]; exact (Fr.refl _ _).drew
                  clear hV
                  replace q0 := FV.at0 q0
                  replace q1 := FV.at0 q1
                  replace q2 := FV.at0 q2
                  replace q3 := FV.at0 q3
                  replace q4 := FV.at0 q4
                  replace q5 := FV.at0 q5
                  refine wpAnyH_take (i := 0) (oi := ⟨some 61, _, _, _, _, none⟩) (v := ?v1) rfl (by kernel_rfl) (by kernel_rfl) (by kernel_rfl) (fun _ _ _ h => h) (Or.inl ⟨by rfl, ?hy1⟩) (by assumption) ?rest1
                  case hy1 => (intro wS hSw; (try dsimp only at hSw); go_simp; (try with_reducible rfl))
                  (try simp only [Act.put, zA, zB, zC])
                  refine wpAnyH_take (i := 2) (oi := ⟨some 63, _, _, _, _, none⟩) (v := ?v2) rfl (by kernel_rfl) (by kernel_rfl) (by kernel_rfl) (fun _ _ _ h => h) (Or.inl ⟨by rfl, ?hy2⟩) (by assumption) ?rest2
                  case hy2 => (intro wS hSw; (try dsimp only at hSw); go_simp; (try with_reducible rfl))
                  (try simp only [Act.put, zA, zB, zC])
                  refine wpAnyH_take (i := 3) (oi := ⟨some 64, _, _, _, _, none⟩) (v := ?v3) rfl (by kernel_rfl) (by kernel_rfl) (by kernel_rfl) (fun _ _ _ h => h) (Or.inl ⟨by rfl, ?hy3⟩) (by assumption) ?rest3
                  case hy3 => (intro wS hSw; (try dsimp only at hSw); go_simp; (try with_reducible rfl))
                  (try simp only [Act.put, zA, zB, zC])
                  refine wpAnyH_take (i := 4) (oi := ⟨some 65, _, _, _, _, none⟩) (v := ?v4) rfl (by kernel_rfl) (by kernel_rfl) (by kernel_rfl) (fun _ _ _ h => h) (Or.inl ⟨by rfl, ?hy4⟩) (by assumption) ?rest4
                  case hy4 => (intro wS hSw; (try dsimp only at hSw); go_simp; (try with_reducible rfl))
                  (try simp only [Act.put, zA, zB, zC])
                  refine wpAnyH_take (i := 5) (oi := ⟨some 66, _, _, _, _, none⟩) (v := ?v5) rfl (by kernel_rfl) (by kernel_rfl) (by kernel_rfl) (fun _ _ _ h => h) (Or.inl ⟨by rfl, ?hy5⟩) (by assumption) ?rest5
                  case hy5 => (intro wS hSw; (try dsimp only at hSw); go_simp; (try with_reducible rfl))
                  (try simp only [Act.put, zA, zB, zC])
                  refine wpAnyH_ready (rs := [1]) (by kernel_rfl) (by simp) ?_
                  refine AllReadyH.cons (o := ⟨some 62, _, _, _, _, none⟩) rfl (fun K hK => ?_) AllReadyH.nil
                  go_simp
                  go_at_call 11
                  refine (wnew24_any V).mono ?_
                  rintro e w4 ⟨rfl, D4, F4⟩
                  go_wp2_with fail
                  refine hK.out _ _ (by exact ⟨F4.at0 q0, F4.at0 q1, F4.at0 q2, F4.at0 q3, F4.at0 q4, F4.at0 q5⟩) (fun hHeld => ?_)
                  clear hK K
                  (try simp only [Act.put, zA, zB, zC])
                  obtain ⟨n, s, hn, PN, hs⟩ := PJ3.out
                  have PN3 : PW av n V g s := PN.keep FV (fun k h => h.elim)
                  obtain ⟨d, hd⟩ : ∃ d, V.heap.size = d := ⟨_, rfl⟩
                  rw [hd] at D4
                  try rw [hd]
                  have F04 : Fr (HiB w) w w4 := (FJ3.out.then FV).then F4
                  have hsz := (FJ3.out.then FV).size
                  have P4 := (PN3.avoid (av' := avP av d) (fun k h => h.elim Or.inl (fun e => Or.inr (by omega)))).keep F4 (fun k h => h.elim)
                  have hda : ∀ k, avP av d k → k < w4.heap.size := fun k h => by
                    have := D4.lt
                    have := F4.size
                    exact h.elim (fun h => by have := (HA.out k).1 h; omega) (fun e => by omega)
                  refine wpAnyH_ready (rs := [6]) (by kernel_rfl) (by simp) ?_
                  refine AllReadyH.cons (o := ⟨some 67, _, _, _, _, none⟩) rfl (fun K hK => ?_) AllReadyH.nil
                  go_simp
                  go_at_call 10
                  refine (do24_any (a := ⟨kind, [107, 101, 112, 116], ⟨bA, bn, bc⟩, off, m, ⟨lA, ln, lc⟩⟩) P4 hda (by omega) D4 (Or.inr rfl) (by omega) HX2.out (fun k h => Or.inl ((HA.out k).2 h)) F04 hs1 hs2 hs3).mono ?_
                  rintro e w5 ⟨⟨bo, rfl⟩, ⟨n', s', hn', P5, hk5⟩, F5⟩
                  go_wp2_with fail
                  refine hK.out _ _ (by exact ⟨hi_cell F04 F5 hab.out (F4.at0 q0), hi_cell F04 F5 hab.out (F4.at0 q1), hi_cell F04 F5 hab.out (F4.at0 q2), hi_cell F04 F5 hab.out (F4.at0 q3), hi_cell F04 F5 hab.out (F4.at0 q4), hi_cell F04 F5 hab.out (F4.at0 q5)⟩) (fun hHeld => ?_)
                  clear hK K
                  (try simp only [Act.put, zA, zB, zC])
                  refine wpAnyH_done (by kernel_rfl) ?_ _
                  have PE : Hid (∃ n s, n ≤ j + 1 + 1 ∧ PW av n w5 g s ∧ HasS s kept b) := Lib.hid ⟨n', s', by omega, P5.avoid (fun k h => Or.inl (Or.inl h)), hk5 _ _ hs (fun h => HKD.out h.2)⟩
                  have FE := Lib.hid F5
                  clear hHeld P4 D4 F4 F04 P5 F5 PN PN3 hk5 hs
                  go_wp2
                  go_roundw
                  case rel => exact ⟨j + 1, by omega, by go_num, PE, FE⟩
                  case measure => simp [intOf]; omega
            · have HNK := Lib.hid hnk
              go_wp2
              have hs1 := HS3.out.1
              have hs2 := HS3.out.2.1
              have hs3 := HS3.out.2.2
              obtain ⟨V, hV⟩ : ∃ V, V = w3.drew := ⟨_, rfl⟩
              refine wp_region_held_drew (S := (fun W' => W'.cell? (a.add (j * 6)) = some (.int .i64 kind) ∧ W'.cell? { block := (a.add (j * 6)).block, off := (a.add (j * 6)).off + 1 } = some (.string ⟨name.toArray⟩) ∧ W'.cell? { block := (a.add (j * 6)).block, off := (a.add (j * 6)).off + 2 } = some (.slice bA bn bc) ∧ W'.cell? { block := (a.add (j * 6)).block, off := (a.add (j * 6)).off + 3 } = some (.int .i64 off) ∧ W'.cell? { block := (a.add (j * 6)).block, off := (a.add (j * 6)).off + 4 } = some (.int .i64 m) ∧ W'.cell? { block := (a.add (j * 6)).block, off := (a.add (j * 6)).off + 5 } = some (.slice lA ln lc))) (by kernel_rfl) (by exact ⟨q0, q1, q2, q3, q4, q5⟩) (fun hHeld => ?_)
              rw [← hV] at hHeld ⊢
              have FV : Fr Non w3 V := by rw [hV]; exact (Fr.refl _ _).drew
              clear hV
              replace q0 := FV.at0 q0
              replace q1 := FV.at0 q1
              replace q2 := FV.at0 q2
              replace q3 := FV.at0 q3
              replace q4 := FV.at0 q4
              replace q5 := FV.at0 q5
              refine wpAnyH_take (i := 0) (oi := ⟨some 61, _, _, _, _, none⟩) (v := ?v6) rfl (by kernel_rfl) (by kernel_rfl) (by kernel_rfl) (fun _ _ _ h => h) (Or.inl ⟨by rfl, ?hy6⟩) (by assumption) ?rest6
              case hy6 => (intro wS hSw; (try dsimp only at hSw); go_simp; (try with_reducible rfl))
              (try simp only [Act.put, zA, zB, zC])
              refine wpAnyH_take (i := 2) (oi := ⟨some 63, _, _, _, _, none⟩) (v := ?v7) rfl (by kernel_rfl) (by kernel_rfl) (by kernel_rfl) (fun _ _ _ h => h) (Or.inl ⟨by rfl, ?hy7⟩) (by assumption) ?rest7
              case hy7 => (intro wS hSw; (try dsimp only at hSw); go_simp; (try with_reducible rfl))
              (try simp only [Act.put, zA, zB, zC])
              refine wpAnyH_take (i := 3) (oi := ⟨some 64, _, _, _, _, none⟩) (v := ?v8) rfl (by kernel_rfl) (by kernel_rfl) (by kernel_rfl) (fun _ _ _ h => h) (Or.inl ⟨by rfl, ?hy8⟩) (by assumption) ?rest8
              case hy8 => (intro wS hSw; (try dsimp only at hSw); go_simp; (try with_reducible rfl))
              (try simp only [Act.put, zA, zB, zC])
              refine wpAnyH_take (i := 4) (oi := ⟨some 65, _, _, _, _, none⟩) (v := ?v9) rfl (by kernel_rfl) (by kernel_rfl) (by kernel_rfl) (fun _ _ _ h => h) (Or.inl ⟨by rfl, ?hy9⟩) (by assumption) ?rest9
              case hy9 => (intro wS hSw; (try dsimp only at hSw); go_simp; (try with_reducible rfl))
              (try simp only [Act.put, zA, zB, zC])
              refine wpAnyH_take (i := 5) (oi := ⟨some 66, _, _, _, _, none⟩) (v := ?v10) rfl (by kernel_rfl) (by kernel_rfl) (by kernel_rfl) (fun _ _ _ h => h) (Or.inl ⟨by rfl, ?hy10⟩) (by assumption) ?rest10
              case hy10 => (intro wS hSw; (try dsimp only at hSw); go_simp; (try with_reducible rfl))
              (try simp only [Act.put, zA, zB, zC])
              refine wpAnyH_ready (rs := [1]) (by kernel_rfl) (by simp) ?_
              refine AllReadyH.cons (o := ⟨some 62, _, _, _, _, none⟩) rfl (fun K hK => ?_) AllReadyH.nil
              go_simp
              go_at_call 11
              refine (wnew24_any V).mono ?_
              rintro e w4 ⟨rfl, D4, F4⟩
              go_wp2_with fail
              refine hK.out _ _ (by exact ⟨F4.at0 q0, F4.at0 q1, F4.at0 q2, F4.at0 q3, F4.at0 q4, F4.at0 q5⟩) (fun hHeld => ?_)
              clear hK K
              (try simp only [Act.put, zA, zB, zC])
              obtain ⟨n, s, hn, PN, hs⟩ := PJ3.out
              have PN3 : PW av n V g s := PN.keep FV (fun k h => h.elim)
              obtain ⟨d, hd⟩ : ∃ d, V.heap.size = d := ⟨_, rfl⟩
              rw [hd] at D4
              try rw [hd]
              have F04 : Fr (HiB w) w w4 := (FJ3.out.then FV).then F4
              have hsz := (FJ3.out.then FV).size
              have P4 := (PN3.avoid (av' := avP av d) (fun k h => h.elim Or.inl (fun e => Or.inr (by omega)))).keep F4 (fun k h => h.elim)
              have hda : ∀ k, avP av d k → k < w4.heap.size := fun k h => by
                have := D4.lt
                have := F4.size
                exact h.elim (fun h => by have := (HA.out k).1 h; omega) (fun e => by omega)
              refine wpAnyH_ready (rs := [6]) (by kernel_rfl) (by simp) ?_
              refine AllReadyH.cons (o := ⟨some 67, _, _, _, _, none⟩) rfl (fun K hK => ?_) AllReadyH.nil
              go_simp
              go_at_call 10
              refine (do24_any (a := ⟨kind, name, ⟨bA, bn, bc⟩, off, m, ⟨lA, ln, lc⟩⟩) P4 hda (by omega) D4 (Or.inr rfl) (by omega) HX2.out (fun k h => Or.inl ((HA.out k).2 h)) F04 hs1 hs2 hs3).mono ?_
              rintro e w5 ⟨⟨bo, rfl⟩, ⟨n', s', hn', P5, hk5⟩, F5⟩
              go_wp2_with fail
              refine hK.out _ _ (by exact ⟨hi_cell F04 F5 hab.out (F4.at0 q0), hi_cell F04 F5 hab.out (F4.at0 q1), hi_cell F04 F5 hab.out (F4.at0 q2), hi_cell F04 F5 hab.out (F4.at0 q3), hi_cell F04 F5 hab.out (F4.at0 q4), hi_cell F04 F5 hab.out (F4.at0 q5)⟩) (fun hHeld => ?_)
              clear hK K
              (try simp only [Act.put, zA, zB, zC])
              refine wpAnyH_done (by kernel_rfl) ?_ _
              have PE : Hid (∃ n s, n ≤ j + 1 + 1 ∧ PW av n w5 g s ∧ HasS s kept b) := Lib.hid ⟨n', s', by omega, P5.avoid (fun k h => Or.inl (Or.inl h)), hk5 _ _ hs (fun h => HNK.out h.1)⟩
              have FE := Lib.hid F5
              clear hHeld P4 D4 F4 F04 P5 F5 PN PN3 hk5 hs
              go_wp2
              go_roundw
              case rel => exact ⟨j + 1, by omega, by go_num, PE, FE⟩
              case measure => simp [intOf]; omega
        · have hje : j = l.length := by omega
          obtain ⟨n, s, hn, PN, hs⟩ := PJ.out
          replace PN := Lib.hid PN
          replace hs := Lib.hid hs
          have hdj : decide (j < l.length) = false := decide_eq_false hlt
          clear PJ
          go_wp2_with fail
          refine (pwup_any PN.out).mono ?_
          rintro e w3 ⟨rfl, P3, F3⟩
          replace P3 := Lib.hid P3
          have FF3 := Lib.hid (FJ.out.trans (F3.mono (fun k _ h => HHI.out k (by rw [show k = g from h]; exact PN.out.ng))))
          clear F3 FJ PN
          go_wp2_with fail
          refine (pwfaults_any P3.out (fun k h => by have := (HA.out k).1 h; have := FF3.out.size; omega) (.slice none 0 0) [] (Vs.nil_ _) (by simp) (by simp)).mono ?_
          rintro e w4 ⟨rfl, P4, F4⟩
          replace P4 := Lib.hid P4
          have FF4 := Lib.hid (FF3.out.trans (F4.mono (fun k _ h => HHI.out k h)))
          clear F4 FF3 P3
          have hg := get_has (s := failS (upS s) []) (x := kept) (b := b) hs.out kept_nm rfl rfl
          go_wp2_with fail
          refine (pwget_any P4.out (fun k h => by have := (HA.out k).1 h; have := FF4.out.size; omega) kept (by decide) 0 (-1) (by decide) (by decide)).mono ?_
          rintro e w5 ⟨⟨u, rfl, hu, -⟩, -, F5⟩
          rw [hg.1]
          rw [hg.2] at hu
          replace hu := Lib.hid hu
          have FF5 := Lib.hid (FF4.out.trans (F5.mono (fun k _ h => HHI.out k h)))
          clear F5 FF4 P4 hg hs
          go_wp2_with fail
          refine (num24_any _ w5).mono ?_
          rintro e w6 ⟨rfl, rfl⟩
          go_wp2_with fail
          refine (same_any u (.slice Ab b.length cb) b b w5 hu.out (Vs.non HB.out FF5.out.of_hi)).mono ?_
          rintro e w6 ⟨rfl, rfl⟩
          rw [beq_self_eq_true]
          go_wp2_with fail
          refine (HL.out w5).mono ?_
          rintro e w6 ⟨rfl, F6⟩
          go_wp2
          go_ret
          exact ⟨rfl, (FF5.out.of_hi.trans F6).below⟩
    · have k1 : decide ((40 : Int) < (l.length : Int)) = false := by simp; omega
      have k2 : decide ((300 : Int) < (b.length : Int)) = true := by simp; omega
      clear hv hl hb h40 h300
      go_enter Try.func3, Try.ntmps3
      go_wp2_with fail
      refine (HL.out w).mono ?_
      rintro e w4 ⟨rfl, F4⟩
      go_wp2
      go_ret
      exact ⟨rfl, F4.below⟩
  · have k1 : decide ((40 : Int) < (l.length : Int)) = true := by simp; omega
    clear hv hl hb h40
    go_enter Try.func3, Try.ntmps3
    go_wp2_with fail
    refine (HL.out w).mono ?_
    rintro e w4 ⟨rfl, F4⟩
    go_wp2
    go_ret
    exact ⟨rfl, F4.below⟩
end Go.Proofs.Ytpepapadbmkjiaa
