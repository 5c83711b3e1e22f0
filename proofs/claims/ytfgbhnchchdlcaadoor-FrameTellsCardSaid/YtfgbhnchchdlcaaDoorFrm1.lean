/-
  Layer 3: the walks of frame.sum, frame.Put, firkinref03.Put, frame.length, firkinlaw03.num.
-/
import Derived.Test.YtfgbhnchchdlcaaDoorLib1
import Derived.Test.YtfgbhnchchdlcaaDoorMathFrm
import Derived.Test.YtfgbhnchchdlcaaDoorCrc2
namespace Go.Proofs.YtfgbhnchchdlcaaDoor
set_option linter.unusedVariables false
set_option linter.unusedSimpArgs false
open Go.RowKit

theorem Parts.three {w : World} {t : TypeId} {x y z : Value} {l m n : List UInt8} (hx : Bs w x l) (hy : Bs w y m) (hz : Bs w z n) : Parts (w.alloc (.cells #[x, y, z] t)) w.heap.size [x, y, z] [l, m, n] := by
  refine ⟨rfl, fun j u k hu hk => ?_⟩
  have hb := Blk.new w t #[x, y, z]
  have hf : Fr Non w (w.alloc (.cells #[x, y, z] t)) := (Fr.refl _ _).alloc _
  match j with
  | 0 =>
    obtain rfl : x = u := by simpa using hu
    obtain rfl : l = k := by simpa using hk
    exact ⟨hb.cell 0, hx.non hf⟩
  | 1 =>
    obtain rfl : y = u := by simpa using hu
    obtain rfl : m = k := by simpa using hk
    exact ⟨hb.cell 1, hy.non hf⟩
  | 2 =>
    obtain rfl : z = u := by simpa using hu
    obtain rfl : n = k := by simpa using hk
    exact ⟨hb.cell 2, hz.non hf⟩
  | j + 3 => simp at hu

/-- bytes laid as a literal -/
theorem own_lit (w : World) (B g : Nat) (l : List UInt8) (cs : Array Value) (hcs : cs.toList = l.map bv) (hg : g = w.heap.size) (hB : B ≤ g) (hm : l.length ≤ maxLen) : Own (w.alloc (.cells cs 5)) B (.slice (some ⟨g, 0, none⟩) l.length l.length) l := by
  subst hg
  unfold Own
  rw [← hcs]
  exact World.ownsRow_lit w cs l.length hB hm (by have := congrArg List.length hcs; simpa using this)

theorem u8v {n : Nat} {x : UInt8} (h : n < 256) (e : n.toUInt8 = x) : (n : Int) = (x.toNat : Int) := by
  subst e; rw [toNat_small h]
theorem sum4_cells (n : Nat) (z0 z1 z2 z3 : Int) (h0 : z0 = ((n % 256 : Nat) : Int)) (h1 : z1 = ((n / 256 % 256 : Nat) : Int)) (h2 : z2 = ((n / 65536 % 256 : Nat) : Int)) (h3 : z3 = ((n / 16777216 % 256 : Nat) : Int)) :
    (#[.int .u8 z0, .int .u8 z1, .int .u8 z2, .int .u8 z3] : Array Value).toList = (sum4 n).map bv := by
  subst h0 h1 h2 h3
  have a0 : n % 256 < 256 := Nat.mod_lt _ (by decide)
  have a1 : n / 256 % 256 < 256 := Nat.mod_lt _ (by decide)
  have a2 : n / 65536 % 256 < 256 := Nat.mod_lt _ (by decide)
  have a3 : n / 16777216 % 256 < 256 := Nat.mod_lt _ (by decide)
  simp only [sum4, List.map_cons, List.map_nil, bv, toNat_small a0, toNat_small a1, toNat_small a2, toNat_small a3]

set_option maxHeartbeats 400000 in
theorem fsum_any (v : Value) (l : List UInt8) (w : World) (hv : Bs w v l) (ht : Tab w) (hl : l.length ≤ 9223372036854775807) :
    Calls Tryd.prog 19 #[v] w fun e w' => ∃ u, e = .returned u ∧ Own w' w.heap.size u (sum4 (sumOf 0 l)) ∧ Fr Non w w' := by
  have HB := Lib.hid hv
  have HT := Lib.hid ht
  have Hs := Lib.hid (sumOf_lt l (s := 0) (by decide))
  obtain ⟨A, c, rfl, _⟩ := hv
  clear ht
  go_enter Tryd.func19, Tryd.ntmps19
  go_wp2_with fail
  refine (of_one _ _ _ _ rfl HB.out HT.out hl).mono ?_
  rintro e w1 ⟨rfl, rfl⟩
  have hn := Hs.out
  generalize hS : sumOf 0 l = n at *
  have HS := Lib.hid hS
  clear hS
  go_wp2
  go_ret
  refine ⟨.slice (some ⟨w.heap.size + 1, 0, none⟩) 4 4, rfl, ?_, ((Fr.refl _ _).alloc _).alloc _⟩
  rw [HS.out]
  refine own_lit (w.alloc (.cells #[.slice A l.length c] 22)) w.heap.size (w.heap.size + 1) (sum4 n) _ (sum4_cells n _ _ _ _ ?_ ?_ ?_ ?_) (by simp) (by simp) (by rw [sum4_length]; unfold maxLen; omega) <;> omega

set_option maxHeartbeats 1000000 in
theorem fput_any (v : Value) (l : List UInt8) (w : World) (hv : Bs w v l) (ht : Tab w) (hl : l.length < 549755813888) :
    Calls Tryd.prog 8 #[v] w fun e w' => ∃ u, e = .returned u ∧ Own w' w.heap.size u (frameB l) ∧ Fr Non w w' := by
  have HB := Lib.hid hv
  have HT := Lib.hid ht
  have Hn := Lib.hid (show l.length < two64 by unfold two64; omega)
  obtain ⟨A, c, rfl, _⟩ := hv
  clear ht
  go_enter Tryd.func8, Tryd.ntmps8
  go_wp2_with fail
  refine (vnum_any l.length w Hn.out).mono ?_
  rintro e w1 ⟨v1, rfl, hown1, hfr1⟩
  obtain ⟨A1, c1, rfl⟩ := hown1.bs.shape
  go_wp2_with fail
  refine (fsum_any _ l w1 (HB.out.non hfr1) (HT.out.non hfr1) (by omega)).mono ?_
  rintro e w2 ⟨v2, rfl, hown2, hfr2⟩
  obtain ⟨A2, c2, rfl⟩ := hown2.bs.shape
  go_wp2_with fail
  refine (concat_any w2.heap.size 3 3 [.slice A1 (Lib.uvarint l.length).length c1, .slice A2 (sum4 (sumOf 0 l)).length c2, .slice A l.length c] [Lib.uvarint l.length, sum4 (sumOf 0 l), l] _ rfl (by omega) (Parts.three (hown1.bs.non hfr2) hown2.bs (HB.out.non (hfr1.trans hfr2))) ?_).mono ?_
  · have := Lib.uvarint_length64 Hn.out
    simp [sum4_length]; omega
  · rintro e w3 ⟨v3, rfl, hown3, hfr3⟩
    go_wp2
    go_ret
    refine ⟨v3, rfl, ?_, ((hfr1.then hfr2).alloc _).then hfr3⟩
    have h := hown3.mono (B' := w.heap.size) (by have := hfr1.size; have := hfr2.size; simp; omega)
    simpa [frameB] using h

set_option maxHeartbeats 1000000 in
theorem rput_any (v : Value) (l : List UInt8) (w : World) (hv : Bs w v l) (hl : l.length < 549755813888) :
    Calls Tryd.prog 11 #[v] w fun e w' => ∃ u, e = .returned u ∧ Own w' w.heap.size u (frameB l) ∧ Fr Non w w' := by
  have HB := Lib.hid hv
  have Hn := Lib.hid (show l.length < two64 by unfold two64; omega)
  have Hs := Lib.hid (sumOf_lt l (s := 0) (by decide))
  have hl10 := Lib.uvarint_length64 Hn.out
  obtain ⟨A, c, rfl, _⟩ := hv
  go_enter Tryd.func11, Tryd.ntmps11
  go_wp2_with fail
  refine (rof_any _ l w HB.out (by omega)).mono ?_
  rintro e w0 ⟨rfl, rfl⟩
  have hn := Hs.out
  generalize hS : sumOf 0 l = n at *
  have HS := Lib.hid hS
  clear hS
  go_wp2_with fail
  refine (rnum_any l.length w Hn.out).mono ?_
  rintro e w1 ⟨v1, rfl, hown1, hfr1⟩
  have hB := hfr1.size
  have HO := Lib.hid hown1
  have HF := Lib.hid hfr1
  have hq4 : Own (w1.alloc (.cells #[.int .u8 ((n : Int) % 256), .int .u8 ((n : Int) / 256 % 256), .int .u8 ((n : Int) / 65536 % 256), .int .u8 ((n : Int) / 16777216)] 5)) w.heap.size (.slice (some ⟨w1.heap.size, 0, none⟩) 4 4) (sum4 n) :=
    own_lit w1 w.heap.size w1.heap.size (sum4 n) _ (sum4_cells n _ _ _ _ (by omega) (by omega) (by omega) (by omega)) rfl hB (by rw [sum4_length]; unfold maxLen; omega)
  have HQ := Lib.hid hq4.bs
  have HA := Lib.hid (fun (W : World) o => (Fr.refl Non W).alloc o)
  clear hq4
  go_wp2_with (at_builtin; first | (refine wpList_app rfl (.tmp 10) (.tmp 22) rfl w.heap.size v1 (.slice (some ⟨w1.heap.size, 0, none⟩) 4 4) (Lib.uvarint l.length) (sum4 n) rfl (hown1.alloc _) rfl HQ.out (by rw [sum4_length]; omega) (by simp; omega) ?_; intro v2 w2 hown2 hfr2; have hB2 := hfr2.size; have hf2 : Fr Non w w2 := (hfr1.trans (HA.out _ _)).fresh hfr2 (fun k hk => (hown1.lt k hk).1)) | (refine wpList_app rfl (.tmp 24) (.tmp 25) rfl w.heap.size v2 (.slice A l.length c) (Lib.uvarint l.length ++ sum4 n) l rfl hown2 rfl (HB.out.non hf2) (by rw [List.length_append, sum4_length]; omega) (by have := hf2.size; omega) ?_; intro v3 w3 hown3 hfr3))
  go_ret
  refine ⟨v3, rfl, ?_, hf2.fresh hfr3 (fun k hk => (hown2.lt k hk).1)⟩
  unfold frameB
  rw [HS.out, ← List.append_assoc]
  exact hown3

/-- the head: how many bytes are to come, and how many bytes that number has -/
theorem min3 (l : List UInt8) : (l.take 3).length = min l.length 3 := by rw [List.length_take]; omega

theorem fnum_any (n : Int) (w : World) : Calls Tryd.prog 12 #[.int .i64 n] w fun e w' => e = .returned (.int .i64 n) ∧ w = w' := by
  go_enter Tryd.func12, Tryd.ntmps12
  go_wp2
  go_ret
  exact ⟨rfl, rfl⟩
end Go.Proofs.YtfgbhnchchdlcaaDoor
