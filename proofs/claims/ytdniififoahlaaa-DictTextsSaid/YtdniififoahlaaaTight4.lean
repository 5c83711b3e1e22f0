/-
  Layer 7: the walk of tight.open.
-/
import Derived.Test.YtdniififoahlaaaTight3
import Derived.Test.YtdniififoahlaaaRuns3
import Derived.Test.YtdniififoahlaaaVint6
import Derived.WalkMore
import Derived.Laws.ResultCell
namespace Go.Proofs.Ytdniififoahlaaa
set_option linter.unusedVariables false
set_option linter.unusedSimpArgs false
open Go.RowKit

theorem cut_none : cutT [] 1 = [] ∧ cutR [] 1 = [] ∧ cutB [] true 1 = true ∧ cutB [] false 1 = true := by decide
theorem cut_one (c : UInt8) (r : List UInt8) : cutT (c :: r) 1 = [c] ∧ cutR (c :: r) 1 = r ∧ cutB (c :: r) false 1 = false := by
  unfold cutT cutR cutB cutOk
  rw [decide_eq_true (by simp; omega)]
  exact ⟨rfl, rfl, rfl⟩
theorem cut_all (r : List UInt8) : cutT r (r.length : Nat) = r ∧ cutR r (r.length : Nat) = [] ∧ cutB r false (r.length : Nat) = false := by
  unfold cutT cutR cutB cutOk
  rw [decide_eq_true (by simp)]
  simp

/-- a call's end where its first result lies in a cell: a struct in a block of its own -/
theorem ret_cell {fn : Func} {p u : Tmp} {ty : TypeId} (h : fn.results = #[.cell p ty, .tmp u]) (tmps : Array Value) (w : World) (g : Nat) (t : TypeId) (cs : Array Value)
    (hp : tmps.getD p undef = .pointer (some ⟨g, 0, none⟩)) (hg : Blk w g t cs)
    (hl : (loadVar ty ⟨g, 0, none⟩).run Try.prog w = .ok (.agg cs) w) :
    (results fn tmps).run Try.prog w = .ok (.tuple #[.agg cs, tmps.getD u undef]) w := by
  rw [results_cell_tmp h, hp]
  simp [asAddr, hl, Result.andThen]
theorem load_pack {w : World} {g : Nat} {cs : Array Value} (hg : Blk w g 66 cs) (h4 : cs.size = 4) : (loadVar 66 ⟨g, 0, none⟩).run Try.prog w = .ok (.agg cs) w :=
  run_loadVar_row w g 66 66 cs (0, 0) _ hg Try.underlying66 rfl (by rw [h4]; kernel_rfl)

/-- what open answers where it fails -/
def noPack : Value := .agg #[.slice none 0 0, .int .i64 0, .int .i64 0, .int .i64 0]

set_option maxHeartbeats 4000000 in
theorem topen_none (v : Value) (b : List UInt8) (n : Nat) (w : World) (hv : Bs w v b) (hn : n ≤ 4096) (hp : parse b = none) :
    Calls Try.prog 56 #[v, .int .i64 n] w fun e w' => e = .returned (.tuple #[noPack, .bool false]) ∧ Fr Non w w' := by
  have HV := Lib.hid hv
  obtain ⟨A, c, rfl, _⟩ := hv
  have hcase : Hid (rest b = [] ∧ cutB (rest b) (fell b) 1 = true) := Lib.hid (by
    unfold parse at hp
    cases hr : rd 0 0 b with
    | none => obtain ⟨h1, h2, _⟩ := rest_none hr; rw [h1, h2]; exact ⟨rfl, cut_none.2.2.1⟩
    | some y =>
      obtain ⟨z, r⟩ := y
      rw [hr] at hp
      cases r with
      | nil => obtain ⟨h1, h2, _⟩ := rest_some hr; rw [h1, h2]; exact ⟨rfl, cut_none.2.2.2⟩
      | cons c r => cases hp)
  clear hp
  go_enter Try.func56, Try.ntmps56
  go_wp2_with fail
  have hB0 : Blk (w.alloc (.cells #[.slice none 0 0, .int .i64 0, .int .i64 0, .int .i64 0] 66)) w.heap.size 66 #[.slice none 0 0, .int .i64 0, .int .i64 0, .int .i64 0] := Blk.new _ _ _
  have f0 : Fr Non w (w.alloc (.cells #[.slice none 0 0, .int .i64 0, .int .i64 0, .int .i64 0] 66)) := (Fr.refl _ _).alloc _
  have hz : (w.alloc (.cells #[.slice none 0 0, .int .i64 0, .int .i64 0, .int .i64 0] 66)).heap.size = w.heap.size + 1 := by simp
  generalize w.alloc (.cells #[.slice none 0 0, .int .i64 0, .int .i64 0, .int .i64 0] 66) = W0 at *
  have h1 := from_any _ b W0 (HV.out.non f0)
  rw [hz] at h1
  generalize hR : w.heap.size = R at *
  refine h1.mono ?_
  rintro e w1 ⟨rfl, s1, f1⟩
  have hB1 := hB0.fr f1 (fun e => e)
  have f01 := f0.trans f1
  clear h1 hB0 f0 f1
  go_wp2_with fail
  refine (sint_any (R + 1) b false w1 s1).mono ?_
  rintro e w2 ⟨rfl, s2, f2⟩
  have hB2 := hB1.fr f2 (fun e => by have : R = R + 1 := e; omega)
  have f02 := f01.fresh f2 (fun q hq => by have : q = R + 1 := hq; omega)
  have hz2 := s2.1.lt
  have hF2 := (Fr.refl Non w2).alloc (.cells #[.slice none 0 0, .int .i64 0, .int .i64 (unzig (fstN b)), .int .i64 0] 66)
  have f03 := f02.trans hF2
  have s3 := s2.fr hF2 (fun e => e)
  have hB3 := hB2.fr hF2 (fun e => e)
  clear hB1 f01 f2 hB2 f02 hF2 s2 s1
  go_wp2_with fail
  refine (take_any (R + 1) (rest b) (fell b) 1 _ s3).mono ?_
  rintro e w4 ⟨v4, rfl, hb4, hn4, s4, f4⟩
  rw [hcase.out.2] at s4
  have hB4 := hB3.fr f4 (fun e => by have : R = R + 1 := e; omega)
  have f04 := f03.fresh f4 (fun q hq => by have : q = R + 1 := hq; omega)
  clear hB3 s3 f4 f03
  go_wp2_with fail
  refine (ok_any (R + 1) _ _ w4 s4).mono ?_
  rintro e w5 ⟨rfl, rfl⟩
  have HB4 := Lib.hid hB4
  have HF4 := Lib.hid f04
  have hfz := hB4.frozen
  have hc0 : w4.cell? ⟨R, 0, none⟩ = some (.slice none 0 0) := hB4.cell 0
  have hc1 : w4.cell? ⟨R, 1, none⟩ = some (.int .i64 0) := hB4.cell 1
  have hc2 : w4.cell? ⟨R, 2, none⟩ = some (.int .i64 0) := hB4.cell 2
  have hc3 : w4.cell? ⟨R, 3, none⟩ = some (.int .i64 0) := hB4.cell 3
  have fz0 := hfz 0
  have fz1 := hfz 1
  have fz2 := hfz 2
  have fz3 := hfz 3
  clear hfz hB4 f04 hn4 hb4
  go_wp2
  (try simp only [Exit.inBlock, Exit.then])
  have hBe : Blk ((((w4.setCell ⟨R, 0, none⟩ (.slice none 0 0)).setCell ⟨R, 1, none⟩ (.int .i64 0)).setCell ⟨R, 2, none⟩ (.int .i64 0)).setCell ⟨R, 3, none⟩ (.int .i64 0)) R 66 #[.slice none 0 0, .int .i64 0, .int .i64 0, .int .i64 0] :=
    (((HB4.out.set 0 _).set 1 _).set 2 _).set 3 _
  have hn : ∀ i : Nat, ¬ (⟨R, i, none⟩ : Addr).block < w.heap.size := fun i h => by have h : R < w.heap.size := h; omega
  refine bodyPost_ret (v := .tuple #[noPack, .bool false]) (ret_cell (p := 4) (u := 5) (ty := 66) rfl _ _ R _ _ rfl hBe (load_pack hBe rfl)) rfl ⟨rfl, ?_⟩
  exact (((HF4.out.setCell (fun h => absurd h (hn 0)) _).setCell (fun h => absurd h (hn 1)) _).setCell (fun h => absurd h (hn 2)) _).setCell (fun h => absurd h (hn 3)) _

set_option maxHeartbeats 4000000 in
theorem topen_some (v : Value) (b : List UInt8) (n : Nat) (lo : Int) (k : Nat) (r : List UInt8) (w : World) (hv : Bs w v b) (hn : n ≤ 4096) (hbl : b.length ≤ 100000000) (hp : parse b = some (lo, k, r)) :
    Calls Try.prog 56 #[v, .int .i64 n] w fun e w' => ∃ u, e = .returned (.tuple #[.agg #[u, .int .i64 0, .int .i64 lo, .int .i64 k], .bool (decide (r.length = need (n * k)))]) ∧ Bs w' u r ∧ (∀ q, u.ownBlock = some q → w.heap.size ≤ q) ∧ k ≤ 255 ∧ r.length ≤ b.length ∧ Fr Non w w' := by
  have HV := Lib.hid hv
  obtain ⟨A, c, rfl, _⟩ := hv
  obtain ⟨ch, hch⟩ : ∃ ch : UInt8, rest b = ch :: r ∧ fell b = false ∧ unzig (fstN b) = lo ∧ ch.toNat = k ∧ r.length ≤ b.length := by
    unfold parse at hp
    cases hr : rd 0 0 b with
    | none => rw [hr] at hp; cases hp
    | some y =>
      obtain ⟨z, q⟩ := y
      obtain ⟨h1, h2, h3, _⟩ := rest_some hr
      have h4 := rd_len (by omega) hr
      rw [hr] at hp
      cases q with
      | nil => cases hp
      | cons ch q =>
        simp only [Option.some.injEq, Prod.mk.injEq] at hp
        obtain ⟨e1, e2, e3⟩ := hp
        subst e1 e2 e3
        exact ⟨ch, h1, h2, by rw [h3], rfl, by simp at h4; omega⟩
  obtain ⟨hr1, hr2, hr3, hr4, hr5⟩ := hch
  have hk8 : k ≤ 255 := by rw [← hr4]; have := ch.toNat_lt; omega
  have HR := Lib.hid hr1
  have HL := Lib.hid hr3
  have HK := Lib.hid hr4
  clear hp hr1 hr3 hr4
  go_enter Try.func56, Try.ntmps56
  go_wp2_with fail
  have hB0 : Blk (w.alloc (.cells #[.slice none 0 0, .int .i64 0, .int .i64 0, .int .i64 0] 66)) w.heap.size 66 #[.slice none 0 0, .int .i64 0, .int .i64 0, .int .i64 0] := Blk.new _ _ _
  have f0 : Fr Non w (w.alloc (.cells #[.slice none 0 0, .int .i64 0, .int .i64 0, .int .i64 0] 66)) := (Fr.refl _ _).alloc _
  have hz : (w.alloc (.cells #[.slice none 0 0, .int .i64 0, .int .i64 0, .int .i64 0] 66)).heap.size = w.heap.size + 1 := by simp
  generalize w.alloc (.cells #[.slice none 0 0, .int .i64 0, .int .i64 0, .int .i64 0] 66) = W0 at *
  have h1 := from_any _ b W0 (HV.out.non f0)
  rw [hz] at h1
  generalize hR : w.heap.size = R at *
  refine h1.mono ?_
  rintro e w1 ⟨rfl, s1, f1⟩
  have hB1 := hB0.fr f1 (fun e => e)
  have f01 := f0.trans f1
  clear h1 hB0 f0 f1
  go_wp2_with fail
  have h2 := sint_any (R + 1) b false w1 s1
  rw [HL.out, HR.out, hr2] at h2
  refine h2.mono ?_
  rintro e w2 ⟨rfl, s2, f2⟩
  clear h2
  have hB2 := hB1.fr f2 (fun e => by have : R = R + 1 := e; omega)
  have f02 := f01.fresh f2 (fun q hq => by have : q = R + 1 := hq; omega)
  have hz2 := s2.1.lt
  have hF2 := (Fr.refl Non w2).alloc (.cells #[.slice none 0 0, .int .i64 0, .int .i64 (lo), .int .i64 0] 66)
  have f03 := f02.trans hF2
  have s3 := s2.fr hF2 (fun e => e)
  have hB3 := hB2.fr hF2 (fun e => e)
  clear hB1 f01 f2 hB2 f02 hF2 s2 s1
  have hP2 : Blk (w2.alloc (.cells #[.slice none 0 0, .int .i64 0, .int .i64 lo, .int .i64 0] 66)) w2.heap.size 66 #[.slice none 0 0, .int .i64 0, .int .i64 lo, .int .i64 0] := Blk.new _ _ _
  go_wp2_with fail
  have h3 := take_any (R + 1) (ch :: r) false 1 _ s3
  rw [(cut_one ch r).1, (cut_one ch r).2.1, (cut_one ch r).2.2] at h3
  refine h3.mono ?_
  rintro e w4 ⟨v4, rfl, hb4, hn4, s4, f4⟩
  clear h3
  have hB4 := hB3.fr f4 (fun e => by have : R = R + 1 := e; omega)
  have hP4 := hP2.fr f4 (fun e => by have : w2.heap.size = R + 1 := e; omega)
  have f04 := f03.fresh f4 (fun q hq => by have : q = R + 1 := hq; omega)
  clear hB3 s3 f4 f03 hP2
  generalize hG : w2.heap.size = G at *
  go_wp2_with fail
  refine (ok_any (R + 1) _ _ w4 s4).mono ?_
  rintro e w5 ⟨rfl, rfl⟩
  have hcw : ∃ a c4, v4 = .slice (some a) 1 c4 ∧ w4.cell? a = some (.int .u8 (k : Nat)) := by
    obtain ⟨A4, c4, rfl, _⟩ := hb4.shape
    obtain ⟨a, rfl, _, _, h⟩ := hb4.vs.addr (by simp)
    refine ⟨a, c4, rfl, ?_⟩
    have := h 0 (by simp)
    simpa [bv, HK.out, Addr.add] using this
  obtain ⟨a, c4, rfl, hca⟩ := hcw
  have p3 : w4.cell? ⟨G, 3, none⟩ = some (.int .i64 0) := hP4.cell 3
  have fp3 := hP4.frozen 3
  have hGw : ¬ G < w.heap.size := by omega
  have hRw : ¬ R < w.heap.size := by omega
  have hP5 := hP4.set 3 (.int .i64 (k : Nat))
  have s5 := s4.fr ((Fr.refl (One G) w4).set1 3 (.int .i64 (k : Nat))) (fun e => by have : R + 1 = G := e; omega)
  have hB5 := hB4.fr ((Fr.refl (One G) w4).set1 3 (.int .i64 (k : Nat))) (fun e => by have : R = G := e; omega)
  have f05 : Fr Non w (w4.setCell ⟨G, 3, none⟩ (.int .i64 (k : Nat))) := f04.setCell (p := ⟨G, 3, none⟩) (fun h => hGw h) _
  clear hb4 hn4 hP4 s4 hB4 f04
  go_wp2_with fail
  clear p3 fp3 hca
  generalize w4.setCell ⟨G, 3, none⟩ (.int .i64 (k : Nat)) = w5 at *
  refine (left_any (R + 1) _ _ w5 s5).mono ?_
  rintro e w6 ⟨rfl, rfl⟩
  go_wp2_with fail
  have h6 := take_any (R + 1) r false (r.length : Nat) w5 s5
  rw [(cut_all r).1, (cut_all r).2.1, (cut_all r).2.2] at h6
  refine h6.mono ?_
  rintro e w6 ⟨v6, rfl, hb6, hn6, s6, f6⟩
  obtain ⟨A6, c6, rfl⟩ := hb6.shape
  have hB6 := hB5.fr f6 (fun e => by have : R = R + 1 := e; omega)
  have hP6 := hP5.fr f6 (fun e => by have : G = R + 1 := e; omega)
  have f06 := f05.fresh f6 (fun q hq => by have : q = R + 1 := hq; omega)
  have hn7 : ∀ q, (Value.slice A6 r.length c6).ownBlock = some q → q ≠ G ∧ q ≠ R ∧ w.heap.size ≤ q := fun q hq => by
    have h1 := hn6 q hq
    have h2 := hP5.lt
    have h3 := hB5.lt
    exact ⟨by omega, by omega, by omega⟩
  have p0 : w6.cell? ⟨G, 0, none⟩ = some (.slice none 0 0) := hP6.cell 0
  have fp0 := hP6.frozen 0
  have hP7 := hP6.set 0 (.slice A6 r.length c6)
  have hF7 := (Fr.refl (One G) w6).set1 0 (.slice A6 r.length c6)
  have hB7 := hB6.fr hF7 (fun e => by have : R = G := e; omega)
  have hb7 := hb6.fr hF7 (fun q hq e => (hn7 q hq).1 e)
  have f07 : Fr Non w (w6.setCell ⟨G, 0, none⟩ (.slice A6 r.length c6)) := f06.setCell (p := ⟨G, 0, none⟩) (fun h => hGw h) _
  have HN7 := Lib.hid hn7
  clear h6 hb6 hn6 s6 f6 hB6 hP6 f06 hn7 hF7 hP5 hB5 f05 s5
  go_wp2_with fail
  clear p0 fp0
  generalize w6.setCell ⟨G, 0, none⟩ (.slice A6 r.length c6) = w7 at *
  have hP8 : Blk w7 G 66 #[.slice A6 r.length c6, .int .i64 0, .int .i64 lo, .int .i64 (k : Nat)] := hP7
  have c0 : w7.drew.cell? ⟨G, 0, none⟩ = some (.slice A6 r.length c6) := hP8.cell 0
  have c1 : w7.drew.cell? ⟨G, 1, none⟩ = some (.int .i64 0) := hP8.cell 1
  have c2 : w7.drew.cell? ⟨G, 2, none⟩ = some (.int .i64 lo) := hP8.cell 2
  have c3 : w7.drew.cell? ⟨G, 3, none⟩ = some (.int .i64 (k : Nat)) := hP8.cell 3
  have s0 : w7.cell? ⟨R, 0, none⟩ = some (.slice none 0 0) := hB7.cell 0
  have fs0 : w7.frozen? ⟨R, 0, none⟩ = false := hB7.frozen 0
  have s1 : w7.cell? ⟨R, 1, none⟩ = some (.int .i64 0) := hB7.cell 1
  have fs1 : w7.frozen? ⟨R, 1, none⟩ = false := hB7.frozen 1
  have s2 : w7.cell? ⟨R, 2, none⟩ = some (.int .i64 0) := hB7.cell 2
  have fs2 : w7.frozen? ⟨R, 2, none⟩ = false := hB7.frozen 2
  have s3 : w7.cell? ⟨R, 3, none⟩ = some (.int .i64 0) := hB7.cell 3
  have fs3 : w7.frozen? ⟨R, 3, none⟩ = false := hB7.frozen 3
  have hB9 : Blk ((((w7.setCell ⟨R, 0, none⟩ (.slice A6 r.length c6)).setCell ⟨R, 1, none⟩ (.int .i64 0)).setCell ⟨R, 2, none⟩ (.int .i64 lo)).setCell ⟨R, 3, none⟩ (.int .i64 (k : Nat))).drew R 66 #[.slice A6 r.length c6, .int .i64 0, .int .i64 lo, .int .i64 (k : Nat)] :=
    ((((hB7.set 0 _).set 1 _).set 2 _).set 3 _).drew
  have hF9 : Fr (One R) w7 ((((w7.setCell ⟨R, 0, none⟩ (.slice A6 r.length c6)).setCell ⟨R, 1, none⟩ (.int .i64 0)).setCell ⟨R, 2, none⟩ (.int .i64 lo)).setCell ⟨R, 3, none⟩ (.int .i64 (k : Nat))).drew := (((((Fr.refl (One R) w7).set1 0 _).set1 1 _).set1 2 _).set1 3 _).drew
  have hP9 := hP8.fr hF9 (fun e => by have : G = R := e; omega)
  have k0 : (((((w7.setCell ⟨R, 0, none⟩ (.slice A6 r.length c6)).setCell ⟨R, 1, none⟩ (.int .i64 0)).setCell ⟨R, 2, none⟩ (.int .i64 lo)).setCell ⟨R, 3, none⟩ (.int .i64 (k : Nat))).drew).cell? ⟨G, 0, none⟩ = some (.slice A6 r.length c6) := hP9.cell 0
  have k1 : (((((w7.setCell ⟨R, 0, none⟩ (.slice A6 r.length c6)).setCell ⟨R, 1, none⟩ (.int .i64 0)).setCell ⟨R, 2, none⟩ (.int .i64 lo)).setCell ⟨R, 3, none⟩ (.int .i64 (k : Nat))).drew).cell? ⟨G, 1, none⟩ = some (.int .i64 0) := hP9.cell 1
  have k2 : (((((w7.setCell ⟨R, 0, none⟩ (.slice A6 r.length c6)).setCell ⟨R, 1, none⟩ (.int .i64 0)).setCell ⟨R, 2, none⟩ (.int .i64 lo)).setCell ⟨R, 3, none⟩ (.int .i64 (k : Nat))).drew).cell? ⟨G, 2, none⟩ = some (.int .i64 lo) := hP9.cell 2
  have k3 : (((((w7.setCell ⟨R, 0, none⟩ (.slice A6 r.length c6)).setCell ⟨R, 1, none⟩ (.int .i64 0)).setCell ⟨R, 2, none⟩ (.int .i64 lo)).setCell ⟨R, 3, none⟩ (.int .i64 (k : Nat))).drew).cell? ⟨G, 3, none⟩ = some (.int .i64 (k : Nat)) := hP9.cell 3
  have HB9 := Lib.hid hB9
  have HF9 := Lib.hid (f07.fresh hF9 (fun q hq => by have : q = R := hq; omega))
  have Hb9 := Lib.hid (hb7.fr hF9 (fun q hq e => (HN7.out q hq).2.1 e))
  clear hB9 hF9 hP9
  have HSz := Lib.hid (fun W => tsize_any n k W (by omega) (by omega))
  clear hP7 hP8 hB7 hb7 f07
  go_region_held3 (fun W => W.cell? ⟨G, 0, none⟩ = some (.slice A6 r.length c6) ∧ W.cell? ⟨G, 1, none⟩ = some (.int .i64 0) ∧ W.cell? ⟨G, 2, none⟩ = some (.int .i64 lo) ∧ W.cell? ⟨G, 3, none⟩ = some (.int .i64 (k : Nat))) (first | exact ⟨c0, c1, c2, c3⟩ | exact ⟨k0, k1, k2, k3⟩) (first | (go_at_call 49; refine (HSz.out _).mono ?_; rintro e w8 ⟨rfl, rfl⟩))
  go_wp2
  (try simp only [Exit.inBlock, Exit.then])
  have hbe : ((r.length : Int) == (need (n * k) : Nat)) = decide (r.length = need (n * k)) := by
    rw [Bool.eq_iff_iff, beq_iff_eq, decide_eq_true_iff]; omega
  rw [hbe]
  refine bodyPost_ret (v := .tuple #[.agg #[.slice A6 r.length c6, .int .i64 0, .int .i64 lo, .int .i64 (k : Nat)], .bool (decide (r.length = need (n * k)))]) (ret_cell (p := 4) (u := 5) (ty := 66) rfl _ _ R _ _ rfl HB9.out (load_pack HB9.out rfl)) rfl ?_
  exact ⟨_, rfl, Hb9.out, fun q hq => (HN7.out q hq).2.2, hk8, hr5, HF9.out⟩
end Go.Proofs.Ytdniififoahlaaa
