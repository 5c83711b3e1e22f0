/-
  Joined: Layer 10: the ways: chunk.ofNumbers, ofTexts, ways. · Layer 10: chunk.shortest, read. · Layer 4: the walks of bitv.need, bitv.Pack, firkinref04.Pack. · Layer 4: the walks of bitv.Unpack, firkinref04.Unpack. · Layer 4: the walks of bitv.Count, Places, Or, the document's Places, Or, Same, Ints. · Layer 10: chunk.Kind, open. · Layer 10: chunk.Get; chunk.Put of cells that may be. · Layer 10: the example; the walk of the law on what is put again.
-/
import Derived.Deep.Slices
import Derived.Test.YtemfmnjhmmlmbaaZ2
import Derived.Laws.EntriesVeiled
import Derived.Test.YtemfmnjhmmlmbaaZ1
import Derived.Deep.RegionWith
import Derived.Deep.RegionHeld3
import Derived.Deep.QuietTactic
import Derived.BigQuiet
import Derived.OwnWalk

namespace Go.Proofs.Ytemfmnjhmmlmbaa
set_option linter.unusedVariables false
set_option linter.unusedSimpArgs false
set_option maxRecDepth 100000
open Go.RowKit

/-- cells that may be put -/
def OkL (l : List Cl) : Prop := ∀ c ∈ l, I64 c.num ∧ c.txt.length ≤ 1000
/-- a way: what it puts and gets, in every world that has kept what stood -/
def Way (w : World) (k : Nat) (vp vg : Value) : Prop :=
  ∃ Fp Fg gp gg, vp = .func (.func Fp) #[] #[ptr gp] ∧ vg = .func (.func Fg) #[] #[ptr gg] ∧
    (∀ args W, (callFunc Fp args).run Try.prog W = .ok (.enter Fp args) W) ∧ (∀ args W, (callFunc Fg args).run Try.prog W = .ok (.enter Fg args) W) ∧
    (∀ W v l, Fr Non w W → Cs W v l → l.length ≤ 4096 → OkL l → Calls Try.prog Fp #[v, ptr gp] W fun e w' => ∃ u, e = .returned u ∧ Own w' W.heap.size u (wayB k l) ∧ Fr Non W w') ∧
    (∀ W v b (n : Nat), Fr Non w W → Bs W v b → (∀ q, v.ownBlock = some q → q < W.heap.size) → b.length ≤ 100000 → n ≤ 4096 → Calls Try.prog Fg #[v, .int .i64 n, ptr gg] W fun e w' => Gtc w' W.heap.size (wayG k b n) e ∧ Fr Non W w')
theorem Way.fr {w w' : World} {k : Nat} {vp vg : Value} (h : Way w k vp vg) (hf : Fr Non w w') : Way w' k vp vg := by
  obtain ⟨Fp, Fg, gp, gg, h1, h2, h3, h4, h5, h6⟩ := h
  exact ⟨Fp, Fg, gp, gg, h1, h2, h3, h4, fun W v l hW => h5 W v l (hf.trans hW), fun W v b n hW => h6 W v b n (hf.trans hW)⟩
theorem way_num {w : World} {k F G gp gg : Nat} (hk : k ≤ 4) (hF : PutNum k F) (hG : GetNum k G) (hp : Blk w gp 60 #[.func (.func F) #[] #[]]) (hg : Blk w gg 61 #[.func (.func G) #[] #[]]) :
    Way w k (.func (.func 44) #[] #[ptr gp]) (.func (.func 45) #[] #[ptr gg]) := by
  refine ⟨_, _, gp, gg, rfl, rfl, Try.call44, Try.call45, fun W v l hW hv hl hx => ?_, fun W v b n hW hv hvl hl hn => ?_⟩
  · have := cput_num k F hF gp v l W (hp.fr hW (fun e => e)) hv hl (fun x hx' => by obtain ⟨c, hc, rfl⟩ := List.mem_map.1 hx'; exact (hx c hc).1)
    unfold wayB; rw [if_pos hk]; exact this
  · have := cget_num k G hG gg v b n W (hg.fr hW (fun e => e)) hv hvl hl hn
    unfold wayG; rw [if_pos hk]; exact this
theorem way_txt {w : World} {k F G gp gg : Nat} (hk : ¬ k ≤ 4) (hF : PutTxt k F) (hG : GetTxt k G) (hp : Blk w gp 63 #[.func (.func F) #[] #[]]) (hg : Blk w gg 64 #[.func (.func G) #[] #[]]) :
    Way w k (.func (.func 63) #[] #[ptr gp]) (.func (.func 64) #[] #[ptr gg]) := by
  refine ⟨_, _, gp, gg, rfl, rfl, Try.call63, Try.call64, fun W v l hW hv hl hx => ?_, fun W v b n hW hv hvl hl hn => ?_⟩
  · have := cput_txt k F hF gp v l W (hp.fr hW (fun e => e)) hv hl (fun x hx' => by obtain ⟨c, hc, rfl⟩ := List.mem_map.1 hx'; exact (hx c hc).2)
    unfold wayB; rw [if_neg hk]; exact this
  · have := cget_txt k G hG gg v b n W (hg.fr hW (fun e => e)) hv hvl hl hn
    unfold wayG; rw [if_neg hk]; exact this

/-- a call's end where its one result is a way in a block -/
theorem ret_way {fn : Func} {p : Tmp} (h : fn.results = #[.cell p 57]) (tmps : Array Value) (w : World) (g : Nat) (a b c : Value)
    (hp : tmps.getD p undef = .pointer (some ⟨g, 0, none⟩)) (hg : Blk w g 57 #[a, b, c]) : (results fn tmps).run Try.prog w = .ok (.agg #[a, b, c]) w :=
  results_cell_row h tmps w g 57 _ (0, 0) _ hp hg Try.underlying57 rfl (by kernel_rfl)

set_option maxHeartbeats 1000000 in
theorem ofNum_any (k F G : Nat) (hk : k ≤ 4) (hF : PutNum k F) (hG : GetNum k G) (w : World) :
    Calls Try.prog 25 #[.int .i64 k, .func (.func F) #[] #[], .func (.func G) #[] #[]] w fun e w' => ∃ vp vg, e = .returned (.agg #[.int .i64 k, vp, vg]) ∧ Way w' k vp vg ∧ Fr Non w w' := by
  have hmf : ∀ (fn : Fn) (first cap : Array Value) (w : World), (Instr.makeFunc fn first cap).run Try.prog w = .ok (.func fn first cap) w := fun _ _ _ _ => rfl
  have HK := Lib.hid hk
  clear hk
  have e1 : (w.alloc (.cells #[.func (.func F) #[] #[]] 60)).heap.size = w.heap.size + 1 := by simp
  have e2 : ((w.alloc (.cells #[.func (.func F) #[] #[]] 60)).alloc (.cells #[.func (.func G) #[] #[]] 61)).heap.size = w.heap.size + 1 + 1 := by simp
  have b1 := ((Blk.new w 60 #[.func (.func F) #[] #[]]).fr (((Fr.refl Non _).alloc (.cells #[.func (.func G) #[] #[]] 61)).alloc (.cells #[.int .i64 k, .func (.func 44) #[] #[ptr w.heap.size], .func (.func 45) #[] #[ptr (w.heap.size + 1)]] 57)) (fun e => e))
  have b2 := ((Blk.new (w.alloc (.cells #[.func (.func F) #[] #[]] 60)) 61 #[.func (.func G) #[] #[]]).fr ((Fr.refl Non _).alloc (.cells #[.int .i64 k, .func (.func 44) #[] #[ptr w.heap.size], .func (.func 45) #[] #[ptr (w.heap.size + 1)]] 57)) (fun e => e))
  have b3 := Blk.new ((w.alloc (.cells #[.func (.func F) #[] #[]] 60)).alloc (.cells #[.func (.func G) #[] #[]] 61)) 57 #[.int .i64 k, .func (.func 44) #[] #[ptr w.heap.size], .func (.func 45) #[] #[ptr (w.heap.size + 1)]]
  rw [e1] at b2
  rw [e2] at b3
  have W0 := way_num HK.out hF hG b1 b2
  have HW := Lib.hid W0
  have HB := Lib.hid b3
  clear b1 b2 b3 W0 e1 e2 hF hG
  go_enter Try.func25, Try.ntmps25
  go_wp2
  exact bodyPost_ret (v := .agg #[.int .i64 k, .func (.func 44) #[] #[ptr w.heap.size], .func (.func 45) #[] #[ptr (w.heap.size + 1)]]) (ret_way (p := 6) rfl _ _ (w.heap.size + 1 + 1) _ _ _ rfl HB.out) rfl ⟨_, _, rfl, HW.out, (((Fr.refl _ _).alloc _).alloc _).alloc _⟩
set_option maxHeartbeats 1000000 in
theorem ofTxt_any (k F G : Nat) (hk : ¬ k ≤ 4) (hF : PutTxt k F) (hG : GetTxt k G) (w : World) :
    Calls Try.prog 34 #[.int .i64 k, .func (.func F) #[] #[], .func (.func G) #[] #[]] w fun e w' => ∃ vp vg, e = .returned (.agg #[.int .i64 k, vp, vg]) ∧ Way w' k vp vg ∧ Fr Non w w' := by
  have hmf : ∀ (fn : Fn) (first cap : Array Value) (w : World), (Instr.makeFunc fn first cap).run Try.prog w = .ok (.func fn first cap) w := fun _ _ _ _ => rfl
  have HK := Lib.hid hk
  clear hk
  have e1 : (w.alloc (.cells #[.func (.func F) #[] #[]] 63)).heap.size = w.heap.size + 1 := by simp
  have e2 : ((w.alloc (.cells #[.func (.func F) #[] #[]] 63)).alloc (.cells #[.func (.func G) #[] #[]] 64)).heap.size = w.heap.size + 1 + 1 := by simp
  have b1 := ((Blk.new w 63 #[.func (.func F) #[] #[]]).fr (((Fr.refl Non _).alloc (.cells #[.func (.func G) #[] #[]] 64)).alloc (.cells #[.int .i64 k, .func (.func 63) #[] #[ptr w.heap.size], .func (.func 64) #[] #[ptr (w.heap.size + 1)]] 57)) (fun e => e))
  have b2 := ((Blk.new (w.alloc (.cells #[.func (.func F) #[] #[]] 63)) 64 #[.func (.func G) #[] #[]]).fr ((Fr.refl Non _).alloc (.cells #[.int .i64 k, .func (.func 63) #[] #[ptr w.heap.size], .func (.func 64) #[] #[ptr (w.heap.size + 1)]] 57)) (fun e => e))
  have b3 := Blk.new ((w.alloc (.cells #[.func (.func F) #[] #[]] 63)).alloc (.cells #[.func (.func G) #[] #[]] 64)) 57 #[.int .i64 k, .func (.func 63) #[] #[ptr w.heap.size], .func (.func 64) #[] #[ptr (w.heap.size + 1)]]
  rw [e1] at b2
  rw [e2] at b3
  have W0 := way_txt HK.out hF hG b1 b2
  have HW := Lib.hid W0
  have HB := Lib.hid b3
  clear b1 b2 b3 W0 e1 e2 hF hG
  go_enter Try.func34, Try.ntmps34
  go_wp2
  exact bodyPost_ret (v := .agg #[.int .i64 k, .func (.func 63) #[] #[ptr w.heap.size], .func (.func 64) #[] #[ptr (w.heap.size + 1)]]) (ret_way (p := 6) rfl _ _ (w.heap.size + 1 + 1) _ _ _ rfl HB.out) rfl ⟨_, _, rfl, HW.out, (((Fr.refl _ _).alloc _).alloc _).alloc _⟩

/-- a slice of ways -/
def Ws (w : World) (v : Value) (ks : List Nat) : Prop :=
  (v = .slice none 0 0 ∧ ks = []) ∨ ∃ g, v = .slice (some ⟨g, 0, none⟩) ks.length ks.length ∧ ∀ j (h : j < ks.length), ∃ vp vg,
    w.cell? ⟨g, j * 3, none⟩ = some (.int .i64 (ks[j] : Nat)) ∧ w.cell? ⟨g, j * 3 + 1, none⟩ = some vp ∧ w.cell? ⟨g, j * 3 + 2, none⟩ = some vg ∧ Way w ks[j] vp vg
theorem Ws.fr {w w' : World} {v : Value} {ks : List Nat} (h : Ws w v ks) (hf : Fr Non w w') : Ws w' v ks := by
  rcases h with h | ⟨g, h1, h2⟩
  · exact .inl h
  · refine .inr ⟨g, h1, fun j hj => ?_⟩
    obtain ⟨vp, vg, c0, c1, c2, c3⟩ := h2 j hj
    exact ⟨vp, vg, (hf.cell (World.block_lt_of_cell? w _ c0) (fun e => e)).trans c0, (hf.cell (World.block_lt_of_cell? w _ c1) (fun e => e)).trans c1, (hf.cell (World.block_lt_of_cell? w _ c2) (fun e => e)).trans c2, c3.fr hf⟩

set_option maxHeartbeats 4000000 in
theorem ways_any (ty : Int) (w : World) : Calls Try.prog 16 #[.int .i64 ty] w fun e w' => ∃ v, e = .returned v ∧ Ws w' v (waysOf ty) ∧ Fr Non w w' := by
  have n1 := Lib.hid (show ∀ W, Calls Try.prog 25 #[.int .i64 1, .func (.func 26) #[] #[], .func (.func 27) #[] #[]] W fun e w' => ∃ vp vg, e = .returned (.agg #[.int .i64 1, vp, vg]) ∧ Way w' 1 vp vg ∧ Fr Non W w' from fun W => ofNum_any 1 _ _ (by omega) putNum1 getNum1 W)
  have n2 := Lib.hid (show ∀ W, Calls Try.prog 25 #[.int .i64 2, .func (.func 28) #[] #[], .func (.func 29) #[] #[]] W fun e w' => ∃ vp vg, e = .returned (.agg #[.int .i64 2, vp, vg]) ∧ Way w' 2 vp vg ∧ Fr Non W w' from fun W => ofNum_any 2 _ _ (by omega) putNum2 getNum2 W)
  have n3 := Lib.hid (show ∀ W, Calls Try.prog 25 #[.int .i64 3, .func (.func 30) #[] #[], .func (.func 31) #[] #[]] W fun e w' => ∃ vp vg, e = .returned (.agg #[.int .i64 3, vp, vg]) ∧ Way w' 3 vp vg ∧ Fr Non W w' from fun W => ofNum_any 3 _ _ (by omega) putNum3 getNum3 W)
  have n4 := Lib.hid (show ∀ W, Calls Try.prog 25 #[.int .i64 4, .func (.func 32) #[] #[], .func (.func 33) #[] #[]] W fun e w' => ∃ vp vg, e = .returned (.agg #[.int .i64 4, vp, vg]) ∧ Way w' 4 vp vg ∧ Fr Non W w' from fun W => ofNum_any 4 _ _ (by omega) putNum4 getNum4 W)
  have n5 := Lib.hid (show ∀ W, Calls Try.prog 34 #[.int .i64 5, .func (.func 35) #[] #[], .func (.func 36) #[] #[]] W fun e w' => ∃ vp vg, e = .returned (.agg #[.int .i64 5, vp, vg]) ∧ Way w' 5 vp vg ∧ Fr Non W w' from fun W => ofTxt_any 5 _ _ (by omega) putTxt5 getTxt5 W)
  have n6 := Lib.hid (show ∀ W, Calls Try.prog 34 #[.int .i64 6, .func (.func 37) #[] #[], .func (.func 38) #[] #[]] W fun e w' => ∃ vp vg, e = .returned (.agg #[.int .i64 6, vp, vg]) ∧ Way w' 6 vp vg ∧ Fr Non W w' from fun W => ofTxt_any 6 _ _ (by omega) putTxt6 getTxt6 W)
  by_cases h12 : ty = 1 ∨ ty = 2
  · rcases h12 with rfl | rfl
    · go_enter Try.func16, Try.ntmps16
      go_wp2_with fail
      refine (n1.out _).mono ?_
      rintro e w1 ⟨p1, g1, rfl, W1, f1⟩
      have H1 := Lib.hid W1
      have F1 := Lib.hid f1
      clear W1 f1
      go_wp2_with fail
      refine (n2.out _).mono ?_
      rintro e w2 ⟨p2, g2, rfl, W2, f2⟩
      have H2 := Lib.hid W2
      have F2 := Lib.hid f2
      clear W2 f2
      go_wp2_with fail
      refine (n3.out _).mono ?_
      rintro e w3 ⟨p3, g3, rfl, W3, f3⟩
      have H3 := Lib.hid W3
      have F3 := Lib.hid f3
      clear W3 f3
      go_wp2_with fail
      refine (n4.out _).mono ?_
      rintro e w4 ⟨p4, g4, rfl, W4, f4⟩
      have H4 := Lib.hid W4
      have F4 := Lib.hid f4
      clear W4 f4
      go_wp2_with fail
      go_ret
      have B := Blk.new w4 57 #[.int .i64 1, p1, g1, .int .i64 2, p2, g2, .int .i64 3, p3, g3, .int .i64 4, p4, g4]
      have A1 := (Fr.refl Non w4).alloc (.cells #[.int .i64 1, p1, g1, .int .i64 2, p2, g2, .int .i64 3, p3, g3, .int .i64 4, p4, g4] 57)
      refine ⟨_, rfl, .inr ⟨w4.heap.size, rfl, fun j hj => ?_⟩, ((((F1.out).trans F2.out).trans F3.out).trans F4.out).alloc _⟩
      match j, hj with
      | 0, _ => exact ⟨p1, g1, B.cell 0, B.cell 1, B.cell 2, ((((H1.out).fr F2.out).fr F3.out).fr F4.out).fr A1⟩
      | 1, _ => exact ⟨p2, g2, B.cell 3, B.cell 4, B.cell 5, (((H2.out).fr F3.out).fr F4.out).fr A1⟩
      | 2, _ => exact ⟨p3, g3, B.cell 6, B.cell 7, B.cell 8, ((H3.out).fr F4.out).fr A1⟩
      | 3, _ => exact ⟨p4, g4, B.cell 9, B.cell 10, B.cell 11, (H4.out).fr A1⟩
      | j + 4, hj => simp [waysOf] at hj; omega
    · go_enter Try.func16, Try.ntmps16
      go_wp2_with fail
      refine (n1.out _).mono ?_
      rintro e w1 ⟨p1, g1, rfl, W1, f1⟩
      have H1 := Lib.hid W1
      have F1 := Lib.hid f1
      clear W1 f1
      go_wp2_with fail
      refine (n2.out _).mono ?_
      rintro e w2 ⟨p2, g2, rfl, W2, f2⟩
      have H2 := Lib.hid W2
      have F2 := Lib.hid f2
      clear W2 f2
      go_wp2_with fail
      refine (n3.out _).mono ?_
      rintro e w3 ⟨p3, g3, rfl, W3, f3⟩
      have H3 := Lib.hid W3
      have F3 := Lib.hid f3
      clear W3 f3
      go_wp2_with fail
      refine (n4.out _).mono ?_
      rintro e w4 ⟨p4, g4, rfl, W4, f4⟩
      have H4 := Lib.hid W4
      have F4 := Lib.hid f4
      clear W4 f4
      go_wp2_with fail
      go_ret
      have B := Blk.new w4 57 #[.int .i64 1, p1, g1, .int .i64 2, p2, g2, .int .i64 3, p3, g3, .int .i64 4, p4, g4]
      have A1 := (Fr.refl Non w4).alloc (.cells #[.int .i64 1, p1, g1, .int .i64 2, p2, g2, .int .i64 3, p3, g3, .int .i64 4, p4, g4] 57)
      refine ⟨_, rfl, .inr ⟨w4.heap.size, rfl, fun j hj => ?_⟩, ((((F1.out).trans F2.out).trans F3.out).trans F4.out).alloc _⟩
      match j, hj with
      | 0, _ => exact ⟨p1, g1, B.cell 0, B.cell 1, B.cell 2, ((((H1.out).fr F2.out).fr F3.out).fr F4.out).fr A1⟩
      | 1, _ => exact ⟨p2, g2, B.cell 3, B.cell 4, B.cell 5, (((H2.out).fr F3.out).fr F4.out).fr A1⟩
      | 2, _ => exact ⟨p3, g3, B.cell 6, B.cell 7, B.cell 8, ((H3.out).fr F4.out).fr A1⟩
      | 3, _ => exact ⟨p4, g4, B.cell 9, B.cell 10, B.cell 11, (H4.out).fr A1⟩
      | j + 4, hj => simp [waysOf] at hj; omega
  · by_cases h3 : ty = 3
    · subst h3
      go_enter Try.func16, Try.ntmps16
      go_wp2_with fail
      refine (n5.out _).mono ?_
      rintro e w5 ⟨p5, g5, rfl, W5, f5⟩
      have H5 := Lib.hid W5
      have F5 := Lib.hid f5
      clear W5 f5
      go_wp2_with fail
      refine (n6.out _).mono ?_
      rintro e w6 ⟨p6, g6, rfl, W6, f6⟩
      have H6 := Lib.hid W6
      have F6 := Lib.hid f6
      clear W6 f6
      go_wp2_with fail
      go_ret
      have B := Blk.new w6 57 #[.int .i64 5, p5, g5, .int .i64 6, p6, g6]
      have A1 := (Fr.refl Non w6).alloc (.cells #[.int .i64 5, p5, g5, .int .i64 6, p6, g6] 57)
      refine ⟨_, rfl, .inr ⟨w6.heap.size, rfl, fun j hj => ?_⟩, ((F5.out).trans F6.out).alloc _⟩
      match j, hj with
      | 0, _ => exact ⟨p5, g5, B.cell 0, B.cell 1, B.cell 2, ((H5.out).fr F6.out).fr A1⟩
      | 1, _ => exact ⟨p6, g6, B.cell 3, B.cell 4, B.cell 5, (H6.out).fr A1⟩
      | j + 2, hj => simp [waysOf] at hj; omega
    · have HW := Lib.hid (waysOf_no (ty := ty) (by omega) (by omega) h3)
      have hd : (ty == 1) = false := by simp; omega
      have hd2 : (ty == 2) = false := by simp; omega
      have hd3 : (ty == 3) = false := by simp; omega
      clear h12 h3
      go_enter Try.func16, Try.ntmps16
      go_wp2_with fail
      go_ret
      exact ⟨_, rfl, by rw [HW.out]; exact .inl ⟨rfl, rfl⟩, Fr.refl _ _⟩
end Go.Proofs.Ytemfmnjhmmlmbaa


namespace Go.Proofs.Ytemfmnjhmmlmbaa
set_option linter.unusedVariables false
set_option linter.unusedSimpArgs false
set_option maxRecDepth 100000
open Go.RowKit

theorem shortC_drop (l : List Cl) (ks : List Nat) (j : Nat) (h : j < ks.length) (n : Nat) (b : List UInt8) :
    shortC l (ks.drop j) (n, b) = shortC l (ks.drop (j + 1)) (if n = 0 ∨ (wayB ks[j] l).length < b.length then (ks[j], wayB ks[j] l) else (n, b)) := by
  rw [List.drop_eq_getElem_cons h, shortC]

set_option maxHeartbeats 4000000 in
theorem shortest_any (v v2 : Value) (ks : List Nat) (l : List Cl) (w : World) (hv : Ws w v ks) (h2 : Cs w v2 l) (hks : ks.length ≤ 100) (hk1 : ∀ k ∈ ks, k ≤ 100) (hl : l.length ≤ 4096) (hx : OkL l) :
    Calls Try.prog 15 #[v, v2] w fun e w' => ∃ u, e = .returned (.tuple #[.int .i64 ((shortC l ks (0, [])).1 : Nat), u]) ∧ Own w' w.heap.size u (shortC l ks (0, [])).2 ∧ Fr Non w w' := by
  have HV := Lib.hid hv
  have H2 := Lib.hid h2
  have HX := Lib.hid hx
  have HK := Lib.hid hk1
  obtain ⟨A, hA⟩ : ∃ A, v = .slice A ks.length ks.length := by
    rcases hv with ⟨rfl, rfl⟩ | ⟨g, rfl, _⟩
    · exact ⟨none, rfl⟩
    · exact ⟨_, rfl⟩
  subst hA
  clear hv h2 hx hk1
  go_enter Try.func15, Try.ntmps15
  go_wp2
  go_loopw [6, 7, 13] (fun m b i wr => ∃ (j N : Nat) (Bt : List UInt8), j ≤ ks.length ∧ i = .int .i64 j ∧ m = .int .i64 N ∧ N ≤ 100 ∧ shortC l ks (0, []) = shortC l (ks.drop j) (N, Bt) ∧ Own wr w.heap.size b Bt ∧ Fr Non w wr) (fun _ _ i _ => ks.length - (intOf i).toNat)
  case atStart => exact ⟨0, 0, [], Nat.zero_le _, rfl, rfl, by omega, rfl, own_nil _ _, Fr.refl _ _⟩
  case round =>
    obtain ⟨j, N, Bt, hj, rfl, rfl, hN, hS, hown, hfr⟩ := hrel
    have HS := Lib.hid hS
    have HO := Lib.hid hown
    obtain ⟨Ab, cb, hub⟩ := hown.bs.shape
    subst hub
    clear hS hown
    by_cases hlt : j < ks.length
    · rcases HV.out with ⟨_, h0⟩ | ⟨g, he, hway⟩
      · rw [h0] at hlt; exact absurd hlt (by simp)
      · simp only [Value.slice.injEq] at he
        obtain ⟨rfl, _⟩ := he
        obtain ⟨vp, vg, c0, c1, c2, hw⟩ := hway j hlt
        have b0 := World.block_lt_of_cell? w _ c0
        have d0 := (hfr.cell b0 (fun e => e)).trans c0
        have d1 := (hfr.cell (World.block_lt_of_cell? w _ c1) (fun e => e)).trans c1
        have d2 := (hfr.cell (World.block_lt_of_cell? w _ c2) (fun e => e)).trans c2
        clear c0 c1 c2 b0 hway
        have HD := Lib.hid (shortC_drop l ks j hlt N Bt)
        have hkk := HK.out ks[j] (List.getElem_mem hlt)
        have hwr := hw.fr hfr
        clear hw
        generalize ks[j] = k at *
        obtain ⟨Fp, Fg, gp, gg, rfl, rfl, hcf, hcg, hput, hget⟩ := hwr
        have HP := Lib.hid hput
        clear hput hget hcg
        go_wp2_with fail
        have hW := (Fr.refl Non wr).alloc (.cells #[.int .i64 k, .func (.func Fp) #[] #[ptr gp], .func (.func Fg) #[] #[ptr gg]] 57)
        refine (HP.out _ v2 l hW (H2.out.non (hfr.trans hW)) hl HX.out).mono ?_
        rintro e w5 ⟨v5, rfl, hown5, hf5⟩
        have hb5 := (Blk.new wr 57 #[.int .i64 k, .func (.func Fp) #[] #[ptr gp], .func (.func Fg) #[] #[ptr gg]]).fr hf5 (fun e => e)
        have d3 := hb5.cell 0
        simp at d3
        have hfr5 := (hfr.trans hW).trans hf5
        have HF5 := Lib.hid hfr5
        have HO1 := Lib.hid (HO.out.non (hW.trans hf5))
        obtain ⟨A5, c5, rfl⟩ := hown5.bs.shape
        have HO5 := Lib.hid (hown5.mono (hfr.trans hW).size)
        clear hown5 hf5 hb5 hfr5 hW HO HP hcf d0 d1 d2 hfr
        generalize wayB k l = y at *
        by_cases h0 : N = 0
        · subst h0
          have hD := HD.out
          rw [if_pos (.inl rfl)] at hD
          have HD2 := Lib.hid (HS.out.trans hD)
          clear hD HD HS
          go_wp2_with fail
          go_roundw
          case rel => exact ⟨j + 1, k, y, by omega, by go_num, rfl, hkk, HD2.out, HO5.out, HF5.out⟩
          case measure => simp [intOf]; omega
        · have e0 : ((N : Int) == 0) = false := by simpa using h0
          by_cases hc : y.length < Bt.length
          · have hD := HD.out
            rw [if_pos (.inr hc)] at hD
            have HD2 := Lib.hid (HS.out.trans hD)
            have e1 : decide (y.length < Bt.length) = true := by simpa using hc
            clear hD HD HS hc h0
            go_wp2_with fail
            go_roundw
            case rel => exact ⟨j + 1, k, y, by omega, by go_num, rfl, hkk, HD2.out, HO5.out, HF5.out⟩
            case measure => simp [intOf]; omega
          · have hD := HD.out
            rw [if_neg (by omega)] at hD
            have HD2 := Lib.hid (HS.out.trans hD)
            have e1 : decide (y.length < Bt.length) = false := by simpa using hc
            clear hD HD HS hc h0
            go_wp2_with fail
            go_roundw
            case rel => exact ⟨j + 1, N, Bt, by omega, by go_num, rfl, hN, HD2.out, HO1.out, HF5.out⟩
            case measure => simp [intOf]; omega
    · obtain rfl : j = ks.length := by omega
      have hS := HS.out
      rw [List.drop_length] at hS
      have HS2 := Lib.hid hS
      clear hS
      go_wp2
      go_ret2
      exact ⟨.slice Ab Bt.length cb, by rw [HS2.out]; rfl, by rw [HS2.out]; exact HO.out, hfr⟩

theorem Gtc.mono {w : World} {B B' : Nat} {o : Option (List Cl)} {e : Ending} (h : Gtc w B o e) (hB : B' ≤ B) : Gtc w B' o e := by
  rcases h with ⟨h1, u, l, h2, h3⟩ | ⟨l, u, h1, h2, h3⟩
  · exact .inl ⟨h1, u, l, h2, h3.mono hB⟩
  · exact .inr ⟨l, u, h1, h2, h3.mono hB⟩
theorem waysOf_len (ty : Int) : (waysOf ty).length ≤ 4 := by
  unfold waysOf
  split
  · simp
  · split <;> simp
theorem notin_take_succ {l : List Nat} {j k : Nat} (h : j < l.length) (hn : k ∉ l.take j) (hk : l[j] ≠ k) : k ∉ l.take (j + 1) := by
  rw [List.take_succ_eq_append_getElem h]
  intro hm
  rcases List.mem_append.1 hm with h | h
  · exact hn h
  · simp at h; exact hk h.symm

set_option maxHeartbeats 4000000 in
theorem read_any (ty : Int) (k : Nat) (v : Value) (b : List UInt8) (n : Nat) (w : World) (hv : Bs w v b) (hvl : ∀ q, v.ownBlock = some q → q < w.heap.size) (hl : b.length ≤ 100000) (hn : n ≤ 4096) :
    Calls Try.prog 9 #[.int .i64 ty, .int .i64 k, v, .int .i64 n] w fun e w' => Gtc w' w.heap.size (readC ty k b n) e ∧ Fr Non w w' := by
  have HB := Lib.hid hv
  have HL := Lib.hid hvl
  have H0 := Lib.hid (ways_any ty w)
  clear hv hvl
  go_enter Try.func9, Try.ntmps9
  go_wp2_with fail
  refine H0.out.mono ?_
  rintro e w1 ⟨vs, rfl, hw1, hf1⟩
  have hlen := waysOf_len ty
  have HR := Lib.hid (fun h => readC_no (ty := ty) (k := k) (n := n) (b := b) h)
  have HY := Lib.hid (fun (h1 : k ∈ waysOf ty) (l : List Cl) h2 h3 => readC_yes (ty := ty) (k := k) (n := n) (b := b) (l := l) h1 h2 h3)
  generalize hks : waysOf ty = ks at *
  have HV := Lib.hid hw1
  have HF1 := Lib.hid hf1
  obtain ⟨A, hA⟩ : ∃ A, vs = .slice A ks.length ks.length := by
    rcases hw1 with ⟨rfl, rfl⟩ | ⟨g, rfl, _⟩
    · exact ⟨none, rfl⟩
    · exact ⟨_, rfl⟩
  subst hA
  clear hw1 hf1 hks H0
  go_wp2
  go_loopw [17] (fun i wr => ∃ (j : Nat), j ≤ ks.length ∧ i = .int .i64 j ∧ k ∉ ks.take j ∧ Fr Non w1 wr) (fun i _ => ks.length - (intOf i).toNat)
  case atStart => exact ⟨0, Nat.zero_le _, rfl, by simp, Fr.refl _ _⟩
  case round =>
    obtain ⟨j, hj, rfl, hnot, hfr⟩ := hrel
    have HN := Lib.hid hnot
    clear hnot
    by_cases hlt : j < ks.length
    · rcases HV.out with ⟨_, h0⟩ | ⟨g, he, hway⟩
      · rw [h0] at hlt; exact absurd hlt (by simp)
      · simp only [Value.slice.injEq] at he
        obtain ⟨rfl, _⟩ := he
        obtain ⟨vp, vg, c0, c1, c2, hw⟩ := hway j hlt
        have b0 := World.block_lt_of_cell? w1 _ c0
        have d0 := (hfr.cell b0 (fun e => e)).trans c0
        have d1 := (hfr.cell (World.block_lt_of_cell? w1 _ c1) (fun e => e)).trans c1
        have d2 := (hfr.cell (World.block_lt_of_cell? w1 _ c2) (fun e => e)).trans c2
        clear c0 c1 c2 b0 hway
        have HM := Lib.hid (List.getElem_mem hlt)
        have HT := Lib.hid (fun h => notin_take_succ hlt HN.out h)
        have hwr := hw.fr hfr
        clear hw
        generalize ks[j] = m at *
        obtain ⟨Fp, Fg, gp, gg, rfl, rfl, hcf, hcg, hput, hget⟩ := hwr
        have HG := Lib.hid hget
        clear hput hget hcf
        have hW := (Fr.refl Non wr).alloc (.cells #[.int .i64 m, .func (.func Fp) #[] #[ptr gp], .func (.func Fg) #[] #[ptr gg]] 57)
        have HW := Lib.hid hW
        clear hW
        by_cases hm : m = k
        · subst hm
          clear HT HN
          go_wp2_with fail
          refine (HG.out _ v b n HW.out (HB.out.non ((HF1.out.trans hfr).trans HW.out)) (fun q hq => Nat.lt_of_lt_of_le (HL.out q hq) ((HF1.out.trans hfr).trans HW.out).size) hl hn).mono ?_
          rintro e w5 ⟨hG, hf5⟩
          have HF5 := Lib.hid (((HF1.out.trans hfr).trans HW.out).trans hf5)
          rcases (hG.mono (((HF1.out.trans hfr).trans HW.out).size)) with ⟨h1, u, l, rfl, h2⟩ | ⟨l, u, h1, rfl, h2⟩
          · have HE := Lib.hid (readC_none (ty := ty) h1)
            have HU := Lib.hid h2
            clear h1 h2 hG hf5
            go_wp2_with fail
            go_ret2
            exact ⟨.inl ⟨HE.out, _, _, rfl, HU.out⟩, HF5.out⟩
          · have hll := (wayG_is h1).2.1
            have HU := Lib.hid h2
            have HE := Lib.hid (HY.out HM.out l h1)
            have HE2 := Lib.hid (readC_bad (ty := ty) h1)
            have HC := Lib.hid (mayL_any ty false u l w5 h2.cs (by omega))
            clear h1 h2 hG hf5
            go_wp2_with fail
            refine HC.out.mono ?_
            rintro e w6 ⟨rfl, hf6⟩
            have HF6 := Lib.hid (HF5.out.trans hf6)
            have HU6 := Lib.hid (HU.out.non hf6)
            clear hf6
            cases ha : l.all (mayC ty false)
            · have HE3 := Lib.hid (HE2.out ha)
              go_wp2_with fail
              go_ret2
              exact ⟨.inl ⟨HE3.out, _, _, rfl, HU6.out⟩, HF6.out⟩
            · have HE3 := Lib.hid (HE.out ha)
              go_wp2_with fail
              go_ret2
              exact ⟨.inr ⟨_, _, HE3.out, rfl, HU6.out⟩, HF6.out⟩
        · have e0 : ((m : Int) == (k : Int)) = false := by simp; omega
          have HT2 := Lib.hid (HT.out hm)
          clear hm HT HN HM
          have HF := Lib.hid (hfr.trans HW.out)
          go_wp2_with fail
          go_roundw
          case rel => exact ⟨j + 1, by omega, by go_num, HT2.out, HF.out⟩
          case measure => simp [intOf]; omega
    · obtain rfl : j = ks.length := by omega
      have hN := HN.out
      rw [List.take_length] at hN
      have HE := Lib.hid (HR.out hN)
      clear hN HR HN
      go_wp2
      go_ret2
      exact ⟨.inl ⟨HE.out, _, [], rfl, oc_nil _ _⟩, HF1.out.trans hfr⟩
end Go.Proofs.Ytemfmnjhmmlmbaa


namespace Go.Proofs.Ytemfmnjhmmlmbaa
set_option linter.unusedVariables false
set_option linter.unusedSimpArgs false
set_option maxRecDepth 100000
open Go.RowKit

theorem need_any (n : Nat) (w : World) (hn : n ≤ 9223372036854775807) :
    Calls Try.prog 40 #[.int .i64 n] w fun e w' => e = .returned (.int .i64 (need n : Nat)) ∧ w = w' := by
  by_cases h : n % 8 = 0
  · have HN := Lib.hid (show need n = n / 8 by unfold need; omega)
    have h' : decide (0 < (n : Int) % 8) = false := by simp; omega
    clear h
    go_enter Try.func40, Try.ntmps40
    go_wp2
    go_ret
    exact ⟨ret_int (by rw [HN.out]; omega), rfl⟩
  · have HN := Lib.hid (show need n = n / 8 + 1 by unfold need; omega)
    have h' : decide (0 < (n : Int) % 8) = true := by simp; omega
    clear h
    go_enter Try.func40, Try.ntmps40
    go_wp2
    go_ret
    exact ⟨ret_int (by rw [HN.out]; omega), rfl⟩

theorem or_low (q t : Nat) (ht : t < 8) (hq : q < 2 ^ t) : bits .or .u8 (q : Int) (2 ^ t % 256) = ((q + 2 ^ t : Nat) : Int) := by
  have all : ∀ t : Fin 8, ∀ q : Fin 128, q.1 < 2 ^ t.1 → bits .or .u8 (q.1 : Int) (2 ^ t.1 % 256) = ((q.1 + 2 ^ t.1 : Nat) : Int) := by decide +kernel
  have := pow8 ht
  exact all ⟨t, ht⟩ ⟨q, by omega⟩ hq
theorem or_lt8 (q t : Nat) (ht : t < 8) (hq : q < 2 ^ t) : q + 2 ^ t < 256 := by have := pow8 ht; omega

set_option maxHeartbeats 1000000 in
theorem pack_any (v : Value) (l : List Bool) (w : World) (hv : Vs tv w v l) (hl : l.length ≤ 1000000) :
    Calls Try.prog 18 #[v] w fun e w' => ∃ u, e = .returned u ∧ Own w' w.heap.size u (packB l) ∧ Fr Non w w' := by
  have HV := Lib.hid hv
  obtain ⟨A, c, rfl, hlc, hn, hcell⟩ := hv
  have HC := Lib.hid hcell
  have HN := Lib.hid hn
  have hnb : need l.length ≤ l.length := by unfold need; omega
  clear hcell hn
  go_enter Try.func18, Try.ntmps18
  go_wp2_with fail
  refine (need_any l.length w (by omega)).mono ?_
  rintro e w' ⟨rfl, rfl⟩
  go_wp2_with (at_make; refine wpList_mkfullG el_u8 (f := bv) (0 : UInt8) rfl rfl _ _ rfl _ _ _ _ (need l.length) rfl rfl rfl rfl (by omega) ?_; intro w1 hown1 hfr1)
  go_loopw [13] (fun i wr => ∃ j : Nat, j ≤ need l.length ∧ i = .int .i64 j ∧ Ow bv 5 wr w.heap.size (.slice (some ⟨w.heap.size, 0, none⟩) (need l.length) (need l.length)) (pk l (8 * j)) ∧ Fr Non w wr) (fun i _ => need l.length - (intOf i).toNat)
  case atStart => exact ⟨0, Nat.zero_le _, rfl, by rw [Nat.mul_zero, pk_zero]; exact hown1, hfr1⟩
  case round =>
    obtain ⟨j, hj, rfl, hown, hfr⟩ := hrel
    by_cases hlt : j < need l.length
    · have h8 : 8 * j < l.length := by unfold need at hlt; omega
      obtain ⟨A', c', hrun, hbs, hob⟩ := slice_loG el_bool A l.length c (8 * j) .i64 ((j : Int) * 8) (by push_cast; omega) (by omega) hlc
      have HV' := Lib.hid (hbs tv w l rfl HV.out)
      clear hbs
      have HF := Lib.hid hfr
      have key : ∀ t, t < 8 → t < l.length - 8 * j → ∃ a, A' = some a ∧ w.cell? (a.add t) = some (tv (l.getD (8 * j + t) false)) := by
        intro t _ ht
        obtain ⟨a, rfl, _, _, hc⟩ := HV'.out.addr (by omega)
        refine ⟨a, rfl, ?_⟩
        rw [hc t (by simp; omega)]
        simp [List.getD_eq_getElem?_getD, show 8 * j + t < l.length by omega]
      have HK := Lib.hid key
      clear key
      obtain ⟨m, hm8, hml, hm1, hm⟩ : ∃ m, m ≤ 8 ∧ m ≤ l.length - 8 * j ∧ 0 < m ∧ (m = 8 ∨ m = l.length - 8 * j) := by
        by_cases h7 : 8 ≤ l.length - 8 * j
        · exact ⟨8, by omega, by omega, by omega, .inl rfl⟩
        · exact ⟨l.length - 8 * j, by omega, by omega, by omega, .inr rfl⟩
      have hnext : pk l (8 * j + m) = pk l (8 * (j + 1)) := by
        rcases hm with rfl | rfl
        · rw [show 8 * (j + 1) = 8 * j + 8 by omega]
        · by_cases h : l.length = 8 * (j + 1)
          · congr 1; omega
          · rw [pk_all l (show l.length ≤ 8 * j + (l.length - 8 * j) by omega)]
            by_cases h2 : l.length ≤ 8 * (j + 1)
            · rw [pk_all l h2]
            · omega
      have HX := Lib.hid hnext
      clear hnext
      have hmi : min 8 (l.length - 8 * j) ≤ m := by omega
      have hme := Lib.hid hm
      clear hm
      by_cases h7 : 8 ≤ l.length - 8 * j
      all_goals
        go_wp2
        go_loopw [23] (fun i wr => ∃ t : Nat, t ≤ m ∧ i = .int .i64 t ∧ Ow bv 5 wr w.heap.size (.slice (some ⟨w.heap.size, 0, none⟩) (need l.length) (need l.length)) (pk l (8 * j + t)) ∧ Fr Non w wr) (fun i _ => 8 - (intOf i).toNat)
        case atStart => exact ⟨0, Nat.zero_le _, rfl, hown, hfr⟩
        case round =>
          obtain ⟨t, ht, rfl, hown, hfr⟩ := hrel
          have hmf := hme.out
          by_cases hlt : t < m
          · have h8 : 8 * j + t < l.length := by omega
            obtain ⟨a, rfl, hc0⟩ := HK.out t (by omega) (by omega)
            have hq := hown.cell (pk_length _ _).symm j _ (by have := pk_at l h8; rwa [show (8 * j + t) / 8 = j by omega] at this)
            have hfz := hown.frozen (pk_length _ _).symm j
            have hql := pkn_lt l h8
            rw [show (8 * j + t) / 8 = j by omega, show (8 * j + t) % 8 = t by omega] at hql
            have hor := or_low _ t (by omega) hql
            have hys := pk_yes l h8
            have hno := pk_no l h8
            rw [show (8 * j + t) / 8 = j by omega, show (8 * j + t) % 8 = t by omega] at hys
            unfold bv at hq
            rw [small8 (pkn_lt8 _ _ _)] at hq
            have hc1 : wr.cell? (a.add t) = some (tv (l.getD (8 * j + t) false)) := (hfr.cell (World.block_lt_of_cell? w _ hc0) (fun e => e)).trans hc0
            have hge : l.getD (8 * j + t) false = l[8 * j + t] := by simp [List.getD_eq_getElem?_getD, h8]
            rw [hge] at hc1
            have HO := Lib.hid hown
            have HFr := Lib.hid hfr
            have hq9 := pkn_lt8 l (8 * j + t) j
            clear hown hfr hmf hown1 hfr1 HF hge hc0
            cases hb : l[8 * j + t] with
            | false =>
              rw [hb] at hc1
              unfold tv at hc1
              have HB := Lib.hid (hno hb)
              clear hb hno hys hor
              go_wp2
              go_roundw
              case rel => exact ⟨t + 1, by omega, by go_num, by rw [show 8 * j + (t + 1) = 8 * j + t + 1 by omega, HB.out]; exact HO.out, HFr.out⟩
              case measure => simp [intOf]; omega
            | true =>
              rw [hb] at hc1
              unfold tv at hc1
              have HB := Lib.hid (hys hb)
              have HR := Lib.hid hor
              clear hb hno hys hor
              generalize hQ : pkn l (8 * j + t) j = q at *
              have HQ := Lib.hid hQ
              clear hQ
              go_wp2
              go_region
              go_wp2
              go_roundw
              case rel =>
                refine ⟨t + 1, by omega, by go_num, ?_, (HFr.out.setCell (fun h => by simp at h) _).drew⟩
                rw [show 8 * j + (t + 1) = 8 * j + t + 1 by omega, HB.out, HR.out]
                have hs := (HO.out.store (pk_length _ _).symm j (q + 2 ^ t).toUInt8).drew
                unfold bv at hs
                rwa [small8 (or_lt8 q t (by omega) hql)] at hs
              case measure => simp [intOf]; omega
          · obtain rfl : t = m := by omega
            rw [HX.out] at hown
            clear hmf
            go_wp2
            go_roundw
            case rel => exact ⟨j + 1, by omega, by go_num, hown, hfr⟩
            case measure => simp [intOf]; omega
    · obtain rfl : j = need l.length := by omega
      rw [pk_all l (by unfold need; omega)] at hown
      go_wp2
      go_ret
      exact ⟨_, rfl, hown.own, hfr⟩

end Go.Proofs.Ytemfmnjhmmlmbaa


namespace Go.Proofs.Ytemfmnjhmmlmbaa
set_option linter.unusedVariables false
set_option linter.unusedSimpArgs false
set_option maxRecDepth 100000
open Go.RowKit

/-- what unpacking answers: nothing and false, or the truths and true -/
def Unp (w : World) (B : Nat) (b : List UInt8) (n : Int) (e : Ending) (w' : World) : Prop :=
  (¬ (0 ≤ n ∧ Fit b n.toNat) ∧ e = .returned (.tuple #[.slice none 0 0, .bool false])) ∨
  ((0 ≤ n ∧ Fit b n.toNat) ∧ ∃ u, e = .returned (.tuple #[u, .bool true]) ∧ Ow tv 4 w' B u (unp b n.toNat))

theorem testBit_divI (x t : Nat) : (((x / 2 ^ t % 2 : Nat) : Int) == 1) = x.testBit t := by
  rw [← testBit_div]
  generalize x / 2 ^ t % 2 = r
  rw [Bool.eq_iff_iff, beq_iff_eq, beq_iff_eq]
  omega
theorem and_one (q : Nat) (h : q < 256) : bits .and .u8 (q : Int) 1 = ((q % 2 : Nat) : Int) := by
  have all : ∀ q : Fin 256, bits .and .u8 (q.1 : Int) 1 = ((q.1 % 2 : Nat) : Int) := by decide +kernel
  exact all ⟨q, h⟩

set_option maxHeartbeats 2000000 in
theorem unpack_any (v : Value) (b : List UInt8) (n : Int) (w : World) (hv : Bs w v b) (hl : b.length ≤ 100000) (h1 : -9223372036854775808 ≤ n) (h2 : n ≤ 9223372036854775807) :
    Calls Try.prog 23 #[v, .int .i64 n] w fun e w' => Unp w w.heap.size b n e w' ∧ Fr Non w w' := by
  have HV := Lib.hid hv.vs
  obtain ⟨A, c, rfl, hlc, hn, hcell⟩ := hv
  have HC := Lib.hid hcell
  have HN := Lib.hid hn
  clear hcell hn
  by_cases hn0 : n < 0
  · have hb : decide (n < 0) = true := by simpa using hn0
    go_enter Try.func23, Try.ntmps23
    go_wp2
    go_ret2
    exact ⟨.inl ⟨by omega, rfl⟩, Fr.refl _ _⟩
  · obtain ⟨m, rfl⟩ := Int.eq_ofNat_of_zero_le (show 0 ≤ n by omega)
    have hb : decide ((m : Int) < 0) = false := by simp
    by_cases hlen : b.length = need m
    · have HB := Lib.hid hlen
      have hne : ((b.length : Int) != (need m : Nat)) = false := by rw [hlen]; simp
      have hm8 : m ≤ 8 * b.length ∧ 8 * b.length < m + 8 := by rw [hlen]; unfold need; omega
      clear hlen hn0
      go_enter Try.func23, Try.ntmps23
      go_wp2_with fail
      refine (need_any m w (by omega)).mono ?_
      rintro e w' ⟨rfl, rfl⟩
      go_wp2_with (at_make; refine wpList_mkG tv el_bool rfl _ _ rfl _ _ _ m rfl rfl rfl (by omega) ?_; intro v1 w1 hown1 hfr1)
      clear hne
      go_loopw [6, 22] (fun x i wr => ∃ j : Nat, j ≤ b.length ∧ i = .int .i64 j ∧ Ow tv 4 wr w.heap.size x (unp b (min m (8 * j))) ∧ Hid (∀ i, i < 8 * j → m ≤ i → bitOf b i = false) ∧ Fr Non w wr) (fun _ i _ => b.length - (intOf i).toNat)
      case atStart => exact ⟨0, Nat.zero_le _, rfl, by rw [Nat.mul_zero, Nat.min_eq_right (Nat.zero_le _)]; exact hown1, Lib.hid (fun i hi => by omega), hfr1⟩
      case round =>
        obtain ⟨j, hj, rfl, hown, HG, hfr⟩ := hrel
        by_cases hlt : j < b.length
        · have h8 : 8 * j < m := by omega
          rw [show min m (8 * j) = 8 * j by omega] at hown
          obtain ⟨A1, c1, rfl⟩ := hown.shape
          rw [unp_length] at hown ⊢
          cases A with
          | none => have := HN.out rfl; omega
          | some a =>
            have hc0 := HC.out a rfl j hlt
            have hc1 : wr.cell? (a.add j) = some (bv b[j]) := (hfr.cell (World.block_lt_of_cell? w _ hc0) (fun e => e)).trans hc0
            have HX := Lib.hid (fun t ht => bit_byte b j t hlt ht)
            have hx := b[j].toNat_lt
            unfold bv at hc1
            clear hc0 hown1 hfr1
            generalize b[j] = xb at *
            have hex : ∃ r, r ≤ 8 ∧ r ≤ m - 8 * j ∧ 0 < r ∧ min 8 (m - 8 * j) ≤ r := ⟨min 8 (m - 8 * j), by omega, by omega, by omega, by omega⟩
            obtain ⟨r, hr8, hrm, hr1, hr⟩ := hex
            by_cases h7 : 8 ≤ m - 8 * j
            all_goals
              go_wp2
              go_loopw [6, 8, 34] (fun x q i wr => ∃ t : Nat, t ≤ r ∧ i = .int .i64 t ∧ q = .int .u8 (xb.toNat / 2 ^ t : Nat) ∧ Ow tv 4 wr w.heap.size x (unp b (8 * j + t)) ∧ Fr Non w wr) (fun _ _ i _ => 8 - (intOf i).toNat)
              case atStart => exact ⟨0, Nat.zero_le _, rfl, by simp, hown, hfr⟩
              case round =>
                obtain ⟨t, ht, rfl, rfl, hown, hfr⟩ := hrel
                have hB := hfr.size
                by_cases htr : t < r
                · obtain ⟨A2, c2, rfl⟩ := hown.shape
                  rw [unp_length] at hown ⊢
                  have hlq : xb.toNat / 2 ^ t < 256 := Nat.lt_of_le_of_lt (Nat.div_le_self _ _) hx
                  have HT := Lib.hid (show (bits .and .u8 ((xb.toNat / 2 ^ t : Nat) : Int) 1 == 1) = bitOf b (8 * j + t) by rw [HX.out t (by omega), and_one _ hlq]; exact testBit_divI _ _)
                  have HQ := Lib.hid (show xb.toNat / 2 ^ (t + 1) = xb.toNat / 2 ^ t / 2 by rw [Nat.pow_succ, Nat.div_div_eq_div_mul])
                  generalize hq : xb.toNat / 2 ^ t = q at *
                  clear hq
                  go_wp2_with (at_builtin; refine wpList_pushG el_bool tv_one rfl (.tmp 36) (.tmp 40) rfl w.heap.size _ (unp b (8 * j + t)) rfl hown _ (bitOf b (8 * j + t)) (congrArg Value.bool HT.out) rfl (by rw [unp_length]; omega) hB ?_; intro v2 w2 hown2 hfr2)
                  go_roundw
                  case rel => exact ⟨t + 1, by omega, by go_num, by rw [HQ.out]; go_num, by rw [show 8 * j + (t + 1) = 8 * j + t + 1 by omega, unp_succ]; exact hown2, hfr.fresh hfr2 fun q hq => (hown.lt q hq).1⟩
                  case measure => simp [intOf]; omega
                · obtain rfl : t = r := by omega
                  have HL : Hid (∀ i, xb.toNat / 2 ^ t = 0 → t ≤ i → xb.toNat.testBit i = false) := Lib.hid (fun i h hi => left_zero _ _ _ h hi)
                  have HS := Lib.hid (left_some xb.toNat t)
                  have hq0 : t = 8 → xb.toNat / 2 ^ t = 0 := fun e => by subst e; simp; omega
                  have hlq : xb.toNat / 2 ^ t < 256 := Nat.lt_of_le_of_lt (Nat.div_le_self _ _) hx
                  generalize xb.toNat / 2 ^ t = q at *
                  by_cases hz : q = 0
                  · have hzz := Lib.hid hz
                    have ht0 : ((q : Int) != 0) = false := by rw [hz]; rfl
                    clear hz hq0
                    go_wp2
                    go_roundw
                    case rel =>
                      refine ⟨j + 1, by omega, by go_num, ?_, Lib.hid ?_, hfr⟩
                      · rw [show min m (8 * (j + 1)) = 8 * j + t by omega]; exact hown
                      · intro i hi hmi
                        by_cases hij : i < 8 * j
                        · exact HG.out i hij hmi
                        · have := HX.out (i - 8 * j) (by omega)
                          rw [show 8 * j + (i - 8 * j) = i by omega] at this
                          rw [this]
                          exact HL.out _ hzz.out (by omega)
                    case measure => simp [intOf]; omega
                  · have ht0 : ((q : Int) != 0) = true := by
                      rw [bne_iff_ne]; exact fun e => hz (by exact_mod_cast e)
                    have Hz := Lib.hid hz
                    have Hq0 := Lib.hid hq0
                    clear hz hq0
                    go_wp2
                    go_ret2
                    refine ⟨.inl ⟨fun h => ?_, rfl⟩, hfr⟩
                    obtain ⟨i, hi, hbi⟩ := HS.out Hz.out
                    have hi8 : i < 8 := by
                      rcases Nat.lt_or_ge i 8 with h | h
                      · exact h
                      · rw [u8_testBit xb h] at hbi; cases hbi
                    have ht8 : t ≠ 8 := fun e => Hz.out (Hq0.out e)
                    have h1 := HX.out i hi8
                    have h2 := h.2.2 (8 * j + i) (by simp; omega)
                    rw [h1, hbi] at h2
                    cases h2
        · obtain rfl : j = b.length := by omega
          rw [show min m (8 * b.length) = m by omega] at hown
          go_wp2
          go_ret2
          refine ⟨.inr ⟨⟨by omega, fit_of (by simpa using HB.out) (by simpa using HG.out)⟩, _, rfl, ?_⟩, hfr⟩
          simpa using hown
    · have hne : ((b.length : Int) != (need m : Nat)) = true := by simp; omega
      go_enter Try.func23, Try.ntmps23
      go_wp2_with fail
      refine (need_any m w (by omega)).mono ?_
      rintro e w' ⟨rfl, rfl⟩
      go_wp2
      go_ret2
      exact ⟨.inl ⟨fun h => hlen h.2.1, rfl⟩, Fr.refl _ _⟩
end Go.Proofs.Ytemfmnjhmmlmbaa


namespace Go.Proofs.Ytemfmnjhmmlmbaa
set_option linter.unusedVariables false
set_option linter.unusedSimpArgs false
set_option maxRecDepth 100000
open Go.RowKit

set_option maxHeartbeats 1000000 in
theorem count_any (v : Value) (l : List Bool) (w : World) (hv : Vs tv w v l) (hl : l.length ≤ 9223372036854775807) :
    Calls Try.prog 11 #[v] w fun e w' => e = .returned (.int .i64 (cnt l : Nat)) ∧ w = w' := by
  obtain ⟨A, c, rfl, hlc, hn, hcell⟩ := hv
  have HC := Lib.hid hcell
  have HN := Lib.hid hn
  clear hcell hn
  go_enter Try.func11, Try.ntmps11
  go_wp2
  go_loop [3, 8] (fun n i => ∃ k : Nat, k ≤ l.length ∧ i = .int .i64 k ∧ n = .int .i64 (cnt (l.take k) : Nat)) (fun _ i => l.length - (intOf i).toNat)
  case atStart => exact ⟨0, Nat.zero_le _, rfl, rfl⟩
  case round =>
    obtain ⟨k, hk, rfl, rfl⟩ := hrel
    have hc := cnt_le (l.take k)
    rw [List.length_take] at hc
    by_cases hlt : k < l.length
    · cases A with
      | none => have := HN.out rfl; omega
      | some a =>
        have g1 : w.cell? (a.add k) = some (tv l[k]) := HC.out a rfl k hlt
        have HS := Lib.hid (cnt_snoc l k hlt)
        unfold tv at g1
        generalize l[k] = x at *
        generalize cnt (l.take k) = n at *
        cases x
        all_goals
          go_wp2
          go_round
          case rel => exact ⟨k + 1, by omega, by go_num, by rw [HS.out]; go_num⟩
          case measure => simp [intOf]; omega
    · have HE := Lib.hid (show l.take k = l from List.take_of_length_le (by omega))
      go_wp2
      go_ret
      exact ⟨ret_int (by rw [HE.out]), rfl⟩

end Go.Proofs.Ytemfmnjhmmlmbaa


namespace Go.Proofs.Ytemfmnjhmmlmbaa
set_option linter.unusedVariables false
set_option linter.unusedSimpArgs false
set_option maxRecDepth 100000
open Go.RowKit

theorem andNot8 (c : Nat) (h : c < 256) : bits .andNot .u8 (c : Int) 8 = ((c % 8 + 16 * (c / 16) : Nat) : Int) := by
  have all : ∀ q : Fin 256, bits .andNot .u8 (q.1 : Int) 8 = ((q.1 % 8 + 16 * (q.1 / 16) : Nat) : Int) := by decide +kernel
  exact all ⟨c, h⟩
theorem and8 (c : Nat) (h : c < 256) : bits .and .u8 (c : Int) 8 = ((c / 8 % 2 * 8 : Nat) : Int) := by
  have all : ∀ q : Fin 256, bits .and .u8 (q.1 : Int) 8 = ((q.1 / 8 % 2 * 8 : Nat) : Int) := by decide +kernel
  exact all ⟨c, h⟩

theorem add0 (a : Addr) : a.add 0 = a := by
  obtain ⟨B, o, e⟩ := a
  cases e <;> rfl
theorem kind_any (v : Value) (b : List UInt8) (w : World) (hv : Bs w v b) (hl : b.length ≤ 1000000) :
    Calls Try.prog 10 #[v] w fun e w' => e = .returned (.int .i64 (kindB b : Nat)) ∧ w = w' := by
  obtain ⟨A, c, rfl, hlc, hn, hcell⟩ := hv
  cases b with
  | nil =>
    clear hlc hn hcell
    go_enter Try.func10, Try.ntmps10
    go_wp2
    go_ret
    exact ⟨rfl, rfl⟩
  | cons x r =>
    cases A with
    | none => have := hn rfl; simp at hlc; omega
    | some a =>
      have g0 : w.cell? (a.add 0) = some (bv x) := hcell a rfl 0 (by simp)
      have g1 : w.cell? a = some (bv x) := by rw [add0 a] at g0; exact g0
      have hb := andNot8 x.toNat x.toNat_lt
      have hx := x.toNat_lt
      have hk : kindB (x :: r) = kindC x := rfl
      unfold bv at g0 g1
      rw [hk]
      clear hlc hn hcell hk
      unfold kindC
      generalize x.toNat = q at *
      have hbig : ((r.length : Int) + 1 == 0) = false := by rw [beq_eq_false_iff_ne]; omega
      by_cases h1 : q % 8 + 16 * (q / 16) < 1
      · have d1 : decide (((q % 8 + 16 * (q / 16) : Nat) : Int) < 1) = true := by simp only [decide_eq_true_eq]; omega
        rw [if_neg (by omega)]
        have hzb : q % 8 + 16 * (q / 16) < 1000 := by omega
        clear h1 hx
        generalize q % 8 + 16 * (q / 16) = z at *
        go_enter Try.func10, Try.ntmps10
        go_wp2
        go_ret
        exact ⟨rfl, rfl⟩
      · have d1 : decide (((q % 8 + 16 * (q / 16) : Nat) : Int) < 1) = false := by simp only [decide_eq_false_iff_not]; omega
        by_cases h6 : 6 < q % 8 + 16 * (q / 16)
        · have d6 : decide (6 < ((q % 8 + 16 * (q / 16) : Nat) : Int)) = true := by simp only [decide_eq_true_eq]; omega
          rw [if_neg (by omega)]
          have hzb : q % 8 + 16 * (q / 16) < 1000 := by omega
          clear h1 hx
          generalize q % 8 + 16 * (q / 16) = z at *
          go_enter Try.func10, Try.ntmps10
          go_wp2
          go_ret
          exact ⟨rfl, rfl⟩
        · have d6 : decide (6 < ((q % 8 + 16 * (q / 16) : Nat) : Int)) = false := by simp only [decide_eq_false_iff_not]; omega
          have hz : q % 8 + 16 * (q / 16) = q % 8 := by omega
          rw [if_pos (by omega)]
          have h8 : q % 8 < 8 := by omega
          have hb2 : bits .andNot .u8 (q : Int) 8 = ((q % 8 : Nat) : Int) := by rw [hb, hz]
          have d12 : decide (((q % 8 : Nat) : Int) < 1) = false := by rw [← hz]; exact d1
          have d62 : decide (6 < ((q % 8 : Nat) : Int)) = false := by rw [← hz]; exact d6
          clear h1 hx hz hb d1 d6 h6
          generalize q % 8 = z at *
          go_enter Try.func10, Try.ntmps10
          go_wp2
          go_ret
          exact ⟨rfl, rfl⟩

/-- '[]byte(s)': the new bytes lie in a block that is there -/
theorem wpList_strbytesL {w : World} {ops : Array Oper} {rest : List Oper} {o : Oper} {a : Act} {Q : Exit → Act → World → Prop} (hgd : o.guard = none) (x : Operand)
    (ho : o.op = .convert 9 22 x) (m : List UInt8) (hx : a.eval x = .string ⟨m.toArray⟩)
    (h : ∀ v' w', Bs w' v' m → Fr Non w w' → (∀ k, v'.ownBlock = some k → w.heap.size ≤ k ∧ k < w'.heap.size) → wpList Try.prog ops Q rest (a.put o.dst v') w') : wpList Try.prog ops Q (o :: rest) a w := by
  have hm : ByteArray.size ⟨m.toArray⟩ = m.length := by simp [ByteArray.size]
  have hrun := run_bytes_of_string (P := Try.prog) w 9 22 5 ⟨m.toArray⟩ Try.underlying9 Try.underlying22 Try.underlying5
  refine wpList_plain hgd fun K hK => ?_
  unfold Oper.wp
  simp [execOp, ho, hx, hrun, Result.andThen]
  refine hK _ _ (h _ _ ?_ (((Fr.refl _ _).drew).alloc _) ?_)
  · rw [hm]
    refine ⟨_, _, rfl, grownCap_ge _ _ _ _, (fun h => by cases h), fun a ha j hj => ?_⟩
    cases ha
    have hA : (⟨w.heap.size, 0, none⟩ : Addr).add j = ⟨w.drew.heap.size, j, none⟩ := by rw [Addr.add_lit]; simp
    rw [hA, World.cell?_alloc_mark, bytesRow_at _ _ _ (by simpa using hj)]
    simp [bv]
  · intro k hk
    simp [Value.ownBlock] at hk
    subst hk
    exact ⟨Nat.le_refl _, by simp⟩
theorem take_lt (g : Nat) (l : List UInt8) (bad : Bool) (n : Int) (w : World) (h : Src w g l bad) :
    Calls Try.prog 20 #[ptr g, .int .i64 n] w fun e w' => ∃ v, e = .returned v ∧ Bs w' v (cutT l n) ∧ (∀ k, v.ownBlock = some k → k < w'.heap.size) ∧ Src w' g (cutR l n) (cutB l bad n) ∧ Fr (One g) w w' := by
  have h0 := cut_any g l bad n w h
  clear h
  go_enter Try.func20, Try.ntmps20
  go_wp2_with fail
  refine h0.mono ?_
  rintro e w1 ⟨rfl, hs1, hf1⟩
  go_wp2_with (refine wpList_strbytesL rfl _ rfl (cutT l n) rfl ?_; intro v2 w2 hbs2 hfr2 hnew2)
  go_ret
  exact ⟨v2, rfl, hbs2, fun k hk => (hnew2 k hk).2, hs1.fr hfr2 (fun e => e), hf1.then hfr2⟩

/-- 'make([]E, n)' as a run, in every world -/
theorem mk_all {α : Type} {f : α → Value} {E T : TypeId} {z : Value} {by_ : Nat} (hE : El T E z by_) (y : α) (hy : f y = z) (n : Nat) (hn : n ≤ 1099511627776) :
    ∃ F : World → World, ∀ W, (Instr.makeSlice T (.int .i64 (n : Int)) (.int .i64 (n : Int))).run Try.prog W = .ok (.slice (some ⟨W.heap.size, 0, none⟩) n n) (F W) ∧ Ow f E (F W) W.heap.size (.slice (some ⟨W.heap.size, 0, none⟩) n n) (List.replicate n y) ∧ Fr Non W (F W) := by
  have h : ∀ W, ∃ w', (Instr.makeSlice T (.int .i64 (n : Int)) (.int .i64 (n : Int))).run Try.prog W = .ok (.slice (some ⟨W.heap.size, 0, none⟩) n n) w' ∧ Ow f E w' W.heap.size (.slice (some ⟨W.heap.size, 0, none⟩) n n) (List.replicate n y) ∧ Fr Non W w' := by
    intro W
    obtain ⟨i, hi, hz0, hz1, hz2⟩ := info_parts hE.info
    have hs' := hE.small
    have hbl : by_ * n ≤ 70368744177664 := by
      have := Nat.mul_le_mul hs' hn
      omega
    obtain ⟨w', hrun, h1, h2⟩ := run_make_full (P := Try.prog) W W.heap.size T E i z 1 hE.under hi hz0 hz1 .i64 .i64 n (by rw [hz2]; omega) (by unfold maxLen; omega) (Nat.le_refl _)
    refine ⟨w', hrun, ?_, ((Fr.of_grown h2).mono fun k _ e => by cases e)⟩
    unfold Ow
    rw [hE.cells, Nat.mul_one, toList_madeCells_one] at h1
    rw [List.length_replicate, List.map_replicate, hy]
    exact h1
  exact ⟨fun W => Classical.choose (h W), fun W => Classical.choose_spec (h W)⟩

/-- what opening answers -/
def Opn (w : World) (B : Nat) (o : Option (List Bool × List UInt8)) (e : Ending) : Prop :=
  (o = none ∧ ∃ t r, e = .returned (.tuple #[t, r, .bool false])) ∨
  ∃ nulls rest t r, o = some (nulls, rest) ∧ e = .returned (.tuple #[t, r, .bool true]) ∧ Ow tv 4 w B t nulls ∧ Bs w r rest ∧ ∀ q, r.ownBlock = some q → q < w.heap.size
theorem cutT_all (l : List UInt8) : cutT l l.length = l := by unfold cutT cutOk; simp
theorem cutR_all (l : List UInt8) : cutR l l.length = [] := by unfold cutR cutOk; simp
theorem cutB_all (l : List UInt8) (bad : Bool) : cutB l bad l.length = bad := by unfold cutB cutOk; simp
theorem cut1T (x : UInt8) (r : List UInt8) : cutT (x :: r) 1 = [x] := by
  unfold cutT cutOk
  rw [decide_eq_true (by rw [List.length_cons]; omega), if_pos rfl]; rfl
theorem cut1R (x : UInt8) (r : List UInt8) : cutR (x :: r) 1 = r := by
  unfold cutR cutOk
  rw [decide_eq_true (by rw [List.length_cons]; omega), if_pos rfl]; rfl
theorem cut1B (x : UInt8) (r : List UInt8) : cutB (x :: r) false 1 = false := by
  unfold cutB cutOk
  rw [decide_eq_true (by rw [List.length_cons]; omega), if_pos rfl]
theorem openC_nil (n : Nat) : openC [] n = none := rfl
theorem openC_none {c : UInt8} (r : List UInt8) (n : Nat) (h : someN c = false) : openC (c :: r) n = some (List.replicate n false, r) := by
  show (if someN c = false then _ else _) = _
  rw [if_pos h]
theorem openC_yes {c : UInt8} {r : List UInt8} {n : Nat} (h : someN c = true) (hk : need n ≤ r.length) (hf : Fit (r.take (need n)) n) (hc : 0 < cnt (unp (r.take (need n)) n)) : openC (c :: r) n = some (unp (r.take (need n)) n, r.drop (need n)) := by
  show (if someN c = false then _ else if _ then _ else _) = _
  rw [if_neg (by rw [h]; simp), if_pos ⟨hk, fun i _ hi => hf.2 i hi, hc⟩]
theorem openC_no {c : UInt8} {r : List UInt8} {n : Nat} (h : someN c = true) (hn : ¬ (need n ≤ r.length ∧ Fit (r.take (need n)) n ∧ 0 < cnt (unp (r.take (need n)) n))) : openC (c :: r) n = none := by
  show (if someN c = false then _ else if _ then _ else _) = _
  rw [if_neg (by rw [h]; simp), if_neg ?_]
  rintro ⟨h1, h2, h3⟩
  have hlen : (r.take (need n)).length = need n := by rw [List.length_take]; omega
  exact hn ⟨h1, fit_of hlen (fun i hi => by rw [hlen] at hi; exact h2 i hi), h3⟩

set_option maxHeartbeats 4000000 in
theorem open_any (v : Value) (b : List UInt8) (n : Nat) (w : World) (hv : Bs w v b) (hl : b.length ≤ 100000) (hn : n ≤ 4096) :
    Calls Try.prog 8 #[v, .int .i64 n] w fun e w' => Opn w' w.heap.size (openC b n) e ∧ Fr Non w w' := by
  have HB := Lib.hid hv
  clear hv
  go_enter Try.func8, Try.ntmps8
  go_wp2_with fail
  refine (from_any v b w HB.out).mono ?_
  rintro e w1 ⟨rfl, hs1, hf1⟩
  have HF1 := Lib.hid hf1
  generalize hg : w.heap.size = g at *
  have HGz := Lib.hid (Nat.le_of_eq hg)
  clear hg hf1
  go_wp2_with fail
  refine (take_lt g b false 1 w1 hs1).mono ?_
  rintro e w2 ⟨v2, rfl, hb2, hq2, hs2, hf2⟩
  have HF2 := Lib.hid (HF1.out.fresh hf2 (fun q e => by have : q = g := e; have := HGz.out; omega))
  clear hs1 hf2 hq2 HF1 HB
  cases b with
  | nil =>
    have hs := Lib.hid (show Src w2 g [] true from hs2)
    obtain ⟨A2, c2, rfl, _⟩ := hb2
    clear hs2
    go_wp2_with fail
    refine (ok_any g [] true w2 hs.out).mono ?_
    rintro e w3 ⟨rfl, rfl⟩
    go_wp2_with fail
    have hgl : ∀ q, One g q → w.heap.size ≤ q := fun q e => by have : q = g := e; have := HGz.out; omega
    have hcb : cutB ([] : List UInt8) true 0 = true := rfl
    obtain ⟨F, hF⟩ := mk_all el_bool false rfl n (by omega)
    have HF := Lib.hid hF
    have hrun := fun W => (HF.out W).1
    have src := hs.out.drew
    have srcF := fun W (h : Src W g [] true) => h.fr (HF.out W).2.2 (fun e => e)
    clear hF
    go_region_held3 (fun _ => True) (exact trivial) (first
      | (go_at_call 22; refine (left_any _ _ _ _ src).mono ?_; rintro e w4 ⟨rfl, rfl⟩)
      | (go_at_call 22; refine (left_any _ _ _ _ (srcF _ src)).mono ?_; rintro e w4 ⟨rfl, rfl⟩)
      | (go_at_call 20; refine (take_lt _ _ _ _ _ src).mono ?_; rintro e w4 ⟨v4, rfl, hb4, hq4, src4, hf4⟩)
      | (go_at_call 20; refine (take_lt _ _ _ _ _ (srcF _ src)).mono ?_; rintro e w4 ⟨v4, rfl, hb4, hq4, src4, hf4⟩)
      | (go_at_call 21; refine (ok_any _ _ _ _ src4).mono ?_; rintro e w6 ⟨rfl, rfl⟩)
      | (go_at_call 21; refine (ok_any _ _ _ _ (src4.fr (HF.out _).2.2 (fun e => e))).mono ?_; rintro e w6 ⟨rfl, rfl⟩))
    all_goals
      go_wp2
      go_ret3
      first
        | exact ⟨.inl ⟨openC_nil n, _, _, rfl⟩, (HF2.out.drew.trans (HF.out _).2.2).fresh hf4 hgl⟩
        | exact ⟨.inl ⟨openC_nil n, _, _, rfl⟩, (HF2.out.drew.fresh hf4 hgl).trans (HF.out _).2.2⟩
  | cons x r =>
    have hs := Lib.hid (show Src w2 g r false from by rw [cut1R, cut1B] at hs2; exact hs2)
    have hb3 : Bs w2 v2 [x] := by rw [cut1T] at hb2; exact hb2
    clear hs2 hb2
    obtain ⟨A2, c2, rfl, hlc2, hn2, hc2⟩ := hb3
    cases A2 with
    | none => have := hn2 rfl; simp at hlc2; omega
    | some a =>
      have g0 : w2.cell? (a.add 0) = some (bv x) := hc2 a rfl 0 (by simp)
      have g1 : w2.cell? a = some (bv x) := by rw [add0 a] at g0; exact g0
      have h8 := and8 x.toNat x.toNat_lt
      clear hn2 hc2
      unfold bv at g0 g1
      have HSx : someN x = (x.toNat / 8 % 2 == 1) := rfl
      have HY := Lib.hid (fun h1 h2 h3 h4 => openC_yes (c := x) (r := r) (n := n) h1 h2 h3 h4)
      have HNo := Lib.hid (fun h1 h2 => openC_no (c := x) (r := r) (n := n) h1 h2)
      have HNe := Lib.hid (fun h => openC_none (c := x) r n h)
      have hgl : ∀ q, One g q → w.heap.size ≤ q := fun q e => by have : q = g := e; have := HGz.out; omega
      have hgw : g < w2.heap.size := hs.out.1.lt
      have hrl : r.length ≤ 100000 := by simp at hl; omega
      generalize someN x = sx at *
      generalize x.toNat = q at *
      rcases (show q / 8 % 2 = 0 ∨ q / 8 % 2 = 1 by omega) with hq0 | hq0
      · have h80 : bits .and .u8 (q : Int) 8 = 0 := by rw [h8, hq0]; rfl
        have hsx : sx = false := by rw [HSx, hq0]; rfl
        have HOO := Lib.hid (HNe.out hsx)
        clear h8 hq0 HSx hsx HY HNo HNe hl
        go_wp2_with fail
        refine (ok_any g r false w2 hs.out).mono ?_
        rintro e w3 ⟨rfl, rfl⟩
        go_wp2_with fail
        have hcb := cutB_all r false
        have hsz2 : w.heap.size ≤ w2.drew.heap.size := HF2.out.size
        have hgn : ∀ q, (Value.slice (some ⟨w2.drew.heap.size, 0, none⟩) n n).ownBlock = some q → ¬ One g q := fun q hq e => by
          have e2 : q = g := e
          have e3 : w2.heap.size = q := by simpa [Value.ownBlock] using hq
          omega
        obtain ⟨F, hF⟩ := mk_all el_bool false rfl n (by omega)
        have HF := Lib.hid hF
        have hrun := fun W => (HF.out W).1
        have src := hs.out.drew
        have srcF := fun W (h : Src W g r false) => h.fr (HF.out W).2.2 (fun e => e)
        clear hF
        go_region_held3 (fun _ => True) (exact trivial) (first
          | (go_at_call 22; refine (left_any _ _ _ _ src).mono ?_; rintro e w4 ⟨rfl, rfl⟩)
          | (go_at_call 22; refine (left_any _ _ _ _ (srcF _ src)).mono ?_; rintro e w4 ⟨rfl, rfl⟩)
          | (go_at_call 20; refine (take_lt _ _ _ _ _ src).mono ?_; rintro e w4 ⟨v4, rfl, hb4, hq4, src4, hf4⟩)
          | (go_at_call 20; refine (take_lt _ _ _ _ _ (srcF _ src)).mono ?_; rintro e w4 ⟨v4, rfl, hb4, hq4, src4, hf4⟩)
          | (go_at_call 21; refine (ok_any _ _ _ _ src4).mono ?_; rintro e w6 ⟨rfl, rfl⟩)
          | (go_at_call 21; refine (ok_any _ _ _ _ (src4.fr (HF.out _).2.2 (fun e => e))).mono ?_; rintro e w6 ⟨rfl, rfl⟩))
        all_goals
          go_wp2
          go_ret3
          first
            | exact ⟨.inr ⟨_, _, _, _, HOO.out, rfl, ((HF.out w2.drew).2.1.fr hf4 hgn).mono hsz2, by rw [cutT_all] at hb4; exact hb4, hq4⟩, (HF2.out.drew.trans (HF.out _).2.2).fresh hf4 hgl⟩
            | exact ⟨.inr ⟨_, _, _, _, HOO.out, rfl, (HF.out _).2.1.mono ((HF2.out.drew.fresh hf4 hgl).size), by rw [cutT_all] at hb4; exact hb4.non (HF.out _).2.2, fun k hk => Nat.lt_of_lt_of_le (hq4 k hk) (HF.out _).2.2.size⟩, (HF2.out.drew.fresh hf4 hgl).trans (HF.out _).2.2⟩
      · have h81 : bits .and .u8 (q : Int) 8 = 8 := by rw [h8, hq0]; rfl
        have hsx : sx = true := by rw [HSx, hq0]; rfl
        have HSX := Lib.hid hsx
        clear h8 hq0 HSx hsx HNe hl
        go_wp2_with fail
        refine (ok_any g r false w2 hs.out).mono ?_
        rintro e w3 ⟨rfl, rfl⟩
        have hTk : ∀ z : Int, z = (need n : Nat) → Calls Try.prog 20 #[ptr g, .int .i64 z] w2 fun e w' => ∃ v, e = .returned v ∧ Bs w' v (cutT r (need n : Nat)) ∧ (∀ k, v.ownBlock = some k → k < w'.heap.size) ∧ Src w' g (cutR r (need n : Nat)) (cutB r false (need n : Nat)) ∧ Fr (One g) w2 w' := fun z hz => by
          subst hz
          exact take_lt g r false _ w2 hs.out
        have HTk := Lib.hid hTk
        clear hTk
        go_wp2_with fail
        refine (HTk.out _ ?_).mono ?_
        · unfold need; first | omega | (push_cast; omega)
        rintro e w4 ⟨v4, rfl, hb4, hq4, src4, hf4⟩
        by_cases hk : need n ≤ r.length
        · have eT : cutT r (need n : Nat) = r.take (need n) := by unfold cutT cutOk; rw [decide_eq_true (by omega), if_pos rfl, Int.toNat_natCast]
          have eR : cutR r (need n : Nat) = r.drop (need n) := by unfold cutR cutOk; rw [decide_eq_true (by omega), if_pos rfl, Int.toNat_natCast]
          have eB : cutB r false (need n : Nat) = false := by unfold cutB cutOk; rw [decide_eq_true (by omega), if_pos rfl]
          rw [eT] at hb4
          rw [eR, eB] at src4
          clear eT eR eB
          have hdl : (r.drop (need n)).length ≤ 100000 := by rw [List.length_drop]; omega
          have htl : (r.take (need n)).length ≤ 100000 := by rw [List.length_take]; omega
          have HYY := Lib.hid (fun h3 h4 => HY.out HSX.out hk h3 h4)
          have HNN := Lib.hid (fun h2 => HNo.out HSX.out h2)
          have HF4 := Lib.hid (HF2.out.fresh hf4 hgl)
          have HS4 := Lib.hid src4
          have hgw4 : g < w4.heap.size := src4.1.lt
          have HUn := Lib.hid (unpack_any v4 _ n w4 hb4 htl (by omega) (by omega))
          have hcle := cnt_le (unp (r.take (need n)) n)
          rw [unp_length] at hcle
          clear hb4 hq4 src4 hf4 HY HNo HSX HTk hk
          generalize hT : r.take (need n) = T at *
          generalize hD : r.drop (need n) = D at *
          go_wp2_with fail
          refine HUn.out.mono ?_
          rintro e w5 ⟨hU, hf5⟩
          have HS5 := Lib.hid (HS4.out.fr hf5 (fun e => e))
          have HF5 := Lib.hid (HF4.out.trans hf5)
          have hgw5 := Lib.hid HS5.out.1.lt
          rcases hU with ⟨hno, rfl⟩ | ⟨⟨_, hfit⟩, u5, rfl, ho5⟩
          · have HOO := Lib.hid (HNN.out fun h => hno ⟨by omega, by simpa using h.2.1⟩)
            clear hno HYY HNN HS4 HUn hf5 hcle
            go_wp2_with fail
            refine (left_any g D false w5 HS5.out).mono ?_
            rintro e w6 ⟨rfl, rfl⟩
            go_wp2_with fail
            refine (take_lt g D false _ w5 HS5.out).mono ?_
            rintro e w6 ⟨v6, rfl, hb6, hq6, src6, hf6⟩
            have HF6 := Lib.hid (HF5.out.fresh hf6 hgl)
            clear hb6 hq6 hf6
            go_wp2_with fail
            go_ret3
            exact ⟨.inl ⟨HOO.out, _, _, rfl⟩, HF6.out⟩
          · rw [Int.toNat_natCast] at hfit ho5
            have HO5 := Lib.hid ho5
            have HYZ := Lib.hid (fun h => HYY.out hfit h)
            have HNZ := Lib.hid (fun (h : ¬ 0 < cnt (unp T n)) => HNN.out fun h' => h h'.2.2)
            have hul : (unp T n).length ≤ 9223372036854775807 := by rw [unp_length]; omega
            clear hfit ho5 HYY HNN HS4 HUn hf5
            generalize unp T n = U at *
            go_wp2_with fail
            refine (left_any g D false w5 HS5.out).mono ?_
            rintro e w6 ⟨rfl, rfl⟩
            go_wp2_with fail
            refine (take_lt g D false _ w5 HS5.out).mono ?_
            rintro e w6 ⟨v6, rfl, hb6, hq6, src6, hf6⟩
            rw [cutT_all] at hb6
            rw [cutR_all, cutB_all] at src6
            have HF6 := Lib.hid (HF5.out.fresh hf6 hgl)
            have HO6 := Lib.hid ((HO5.out.mono (Nat.le_trans HF4.out.size (Nat.le_refl _))).fr hf6 (fun q hq e => by have h7 := (HO5.out.lt q hq).1; have h8 : q = g := e; omega))
            have HB6 := Lib.hid hb6
            have HQ6 := Lib.hid hq6
            clear hb6 hq6 hf6 HO5
            go_wp2_with fail
            refine (ok_any g [] false w6 src6).mono ?_
            rintro e w7 ⟨rfl, rfl⟩
            go_wp2_with fail
            refine (count_any u5 U w6 HO6.out.vs hul).mono ?_
            rintro e w7 ⟨rfl, rfl⟩
            by_cases hc : 0 < cnt U
            · have HOO := Lib.hid (HYZ.out hc)
              have dc : decide (0 < cnt U) = true := by simp only [decide_eq_true_eq]; omega
              clear HYZ HNZ hc
              go_wp2_with fail
              go_ret3
              exact ⟨.inr ⟨_, _, _, _, HOO.out, rfl, HO6.out, HB6.out, HQ6.out⟩, HF6.out⟩
            · have HOO := Lib.hid (HNZ.out hc)
              have dc : decide (0 < cnt U) = false := by simp only [decide_eq_false_iff_not]; omega
              clear HYZ HNZ hc
              go_wp2_with fail
              go_ret3
              exact ⟨.inl ⟨HOO.out, _, _, rfl⟩, HF6.out⟩
        · have eT : cutT r (need n : Nat) = [] := by unfold cutT cutOk; rw [decide_eq_false (by omega)]; rfl
          have eR : cutR r (need n : Nat) = [] := by unfold cutR cutOk; rw [decide_eq_false (by omega)]; rfl
          have eB : cutB r false (need n : Nat) = true := by unfold cutB cutOk; rw [decide_eq_false (by omega)]; rfl
          rw [eT] at hb4
          rw [eR, eB] at src4
          clear eT eR eB
          have HOO := Lib.hid (HNo.out HSX.out fun h => hk h.1)
          have HF4 := Lib.hid (HF2.out.fresh hf4 hgl)
          have HS4 := Lib.hid src4
          have HUn := Lib.hid (unpack_any v4 _ n w4 hb4 (by simp) (by omega) (by omega))
          have hn0 : 0 < need n := by omega
          clear hb4 hq4 src4 hf4 HY HNo HSX HTk hk
          go_wp2_with fail
          refine HUn.out.mono ?_
          rintro e w5 ⟨hU, hf5⟩
          have HS5 := Lib.hid (HS4.out.fr hf5 (fun e => e))
          have HF5 := Lib.hid (HF4.out.trans hf5)
          rcases hU with ⟨hno, rfl⟩ | ⟨⟨_, hfit⟩, u5, rfl, ho5⟩
          · clear hno HS4 HUn hf5
            go_wp2_with fail
            refine (left_any g [] true w5 HS5.out).mono ?_
            rintro e w6 ⟨rfl, rfl⟩
            go_wp2_with fail
            refine (take_lt g [] true _ w5 HS5.out).mono ?_
            rintro e w6 ⟨v6, rfl, hb6, hq6, src6, hf6⟩
            have HF6 := Lib.hid (HF5.out.fresh hf6 hgl)
            clear hb6 hq6 hf6
            go_wp2_with fail
            go_ret3
            exact ⟨.inl ⟨HOO.out, _, _, rfl⟩, HF6.out⟩
          · rw [Int.toNat_natCast] at hfit
            have := hfit.1
            simp at this
            omega
end Go.Proofs.Ytemfmnjhmmlmbaa


namespace Go.Proofs.Ytemfmnjhmmlmbaa
set_option linter.unusedVariables false
set_option linter.unusedSimpArgs false
set_option maxRecDepth 100000
open Go.RowKit

/-- what chunk.Get answers -/
def Gec (w : World) (B : Nat) (o : Option (List Cl)) (e : Ending) : Prop :=
  (o = none ∧ e = .returned (.tuple #[.slice none 0 0, .bool false])) ∨ ∃ l u, o = some l ∧ e = .returned (.tuple #[u, .bool true]) ∧ Oc w B u l

set_option maxHeartbeats 4000000 in
theorem get_cl (ty n : Int) (v : Value) (b : List UInt8) (w : World) (hv : Bs w v b) (hl : b.length ≤ 100000) :
    Calls Try.prog 5 #[.int .i64 ty, v, .int .i64 n] w fun e w' => Gec w' w.heap.size (getC ty b n) e ∧ Fr Non w w' := by
  have HB := Lib.hid hv
  clear hv
  by_cases h0 : n < 0
  · have HG := Lib.hid (getC_out (ty := ty) (b := b) (.inl h0))
    have d0 : decide (n < 0) = true := by simpa using h0
    clear h0
    go_enter Try.func5, Try.ntmps5
    go_wp2
    go_ret2
    exact ⟨.inl ⟨HG.out, rfl⟩, Fr.refl _ _⟩
  · have d0 : decide (n < 0) = false := by simpa using h0
    by_cases h4 : 4096 < n
    · have HG := Lib.hid (getC_out (ty := ty) (b := b) (.inr h4))
      have d4 : decide (4096 < n) = true := by simpa using h4
      clear h0 h4
      go_enter Try.func5, Try.ntmps5
      go_wp2
      go_ret2
      exact ⟨.inl ⟨HG.out, rfl⟩, Fr.refl _ _⟩
    · have d4 : decide (4096 < n) = false := by simpa using h4
      obtain ⟨m, rfl⟩ : ∃ m : Nat, n = (m : Int) := ⟨n.toNat, by omega⟩
      have hm : m ≤ 4096 := by omega
      clear h0 h4
      have HO := Lib.hid (open_any v b m w HB.out hl hm)
      have HSh := Lib.hid (fun h => getC_shut (ty := ty) (b := b) (n := m) h)
      have HOp := Lib.hid (fun nulls r h => getC_open (ty := ty) (b := b) (r := r) (n := m) (nulls := nulls) hm h)
      generalize getC ty b m = G at *
      go_enter Try.func5, Try.ntmps5
      go_wp2_with fail
      refine HO.out.mono ?_
      rintro e w1 ⟨ho, hf1⟩
      have HF1 := Lib.hid hf1
      clear hf1 HO
      rcases ho with ⟨h0, t, r, rfl⟩ | ⟨nulls, rest, t, r, h0, rfl, hown, hbr, hq⟩
      · have HG := Lib.hid (HSh.out h0)
        clear h0 HSh HOp
        go_wp2_with fail
        go_ret2
        exact ⟨.inl ⟨HG.out, rfl⟩, HF1.out⟩
      · have HG := Lib.hid (HOp.out nulls rest h0)
        have hlen := openC_length h0
        have hL := openC_len h0
        have hrl : rest.length ≤ 100000 := by omega
        have hcn := cnt_le nulls
        have HT := Lib.hid hown
        have HR := Lib.hid hbr
        have HQ := Lib.hid hq
        clear h0 HSh HOp hown hbr hq hL
        have HBk := Lib.hid (kind_any v b w1 (HB.out.non HF1.out) (by omega))
        go_wp2_with fail
        refine HBk.out.mono ?_
        rintro e w2 ⟨rfl, rfl⟩
        clear HBk
        have HCt := Lib.hid (count_any t nulls w1 HT.out.vs (by omega))
        go_wp2_with fail
        refine HCt.out.mono ?_
        rintro e w2 ⟨rfl, rfl⟩
        clear HCt
        have HRd : Hid (∀ z : Int, z = (m : Int) - (cnt nulls : Nat) → Calls Try.prog 9 #[.int .i64 ty, .int .i64 (kindB b : Nat), r, .int .i64 z] w1 fun e w' => Gtc w' w1.heap.size (readC ty (kindB b) rest (m - cnt nulls)) e ∧ Fr Non w1 w') := by
          refine Lib.hid fun z hz => ?_
          obtain rfl : z = ((m - cnt nulls : Nat) : Int) := by omega
          exact read_any ty (kindB b) r rest (m - cnt nulls) w1 HR.out HQ.out hrl (by omega)
        have HLn : Hid (∀ o, readC ty (kindB b) rest (m - cnt nulls) = some o → o.length + cnt nulls = nulls.length) := Lib.hid fun o ho => by
          have := (wayG_is (readC_is ho).2.1).2.1
          omega
        generalize readC ty (kindB b) rest (m - cnt nulls) = R at *
        generalize kindB b = kk at *
        generalize hcc : cnt nulls = cc at *
        have hcl : cc ≤ m := by omega
        have hnl : nulls.length ≤ 1000000 := by omega
        have HCC := Lib.hid hcc
        clear hcc hlen hcn
        go_wp2_with fail
        refine (HRd.out _ ?_).mono ?_
        · first | rfl | (push_cast; omega)
        rintro e w2 ⟨hG, hf2⟩
        have HF2 := Lib.hid hf2
        clear hf2 HRd
        rcases hG with ⟨h1, u, l, rfl, h2⟩ | ⟨l, u, h1, rfl, h2⟩
        · have HG2 : Hid (G = none) := Lib.hid (by rw [HG.out, h1]; rfl)
          clear h1 h2
          go_wp2_with fail
          go_ret2
          exact ⟨.inl ⟨HG2.out, rfl⟩, HF1.out.trans HF2.out⟩
        · have HG2 : Hid (G = some (joinC nulls l)) := Lib.hid (by rw [HG.out, h1]; rfl)
          have HJ := Lib.hid (join_cl t u nulls l w2 (HT.out.vs.non HF2.out) h2.cs hnl (by rw [HCC.out]; exact HLn.out l h1))
          clear h1 h2
          go_wp2_with fail
          refine HJ.out.mono ?_
          rintro e w3 ⟨u3, rfl, ho3, hf3⟩
          have HO3 := Lib.hid (ho3.mono (HF1.out.trans HF2.out).size)
          have HF3 := Lib.hid ((HF1.out.trans HF2.out).trans hf3)
          clear ho3 hf3
          go_wp2
          go_ret2
          exact ⟨.inr ⟨_, _, HG2.out, rfl, HO3.out⟩, HF3.out⟩

theorem okL_may {ty : Int} {l : List Cl} (h : ∀ c ∈ l, mayC ty true c = true ∧ I64 c.num) : OkL (othersC l) := by
  intro c hc
  have := h c (List.mem_filter.1 hc).1
  refine ⟨this.2, ?_⟩
  have h2 := this.1
  unfold mayC at h2
  simp only [Bool.and_eq_true] at h2
  obtain ⟨_, h2⟩ := h2
  split at h2
  · simp at h2
    rw [h2.2]
    simp
  · split at h2
    · simp at h2
      omega
    · simp at h2
      rw [h2.1]
      simp

theorem shortC_in (l : List Cl) : ∀ (ks : List Nat) (n : Nat) (b : List UInt8), (shortC l ks (n, b)).1 ∈ n :: ks
  | [], n, b => by simp [shortC]
  | k :: ks, n, b => by
    rw [shortC]
    split
    · exact List.mem_cons_of_mem n (shortC_in l ks k (wayB k l))
    · have := shortC_in l ks n b
      rcases List.mem_cons.1 this with h | h
      · rw [h]; simp
      · simp [h]
theorem bs_byteZ (w2 : World) {k : Nat} (hk : k ≤ 64) {z : Int} (hz : z = (k : Int)) : Bs (w2.alloc (.cells #[.int .u8 z] 5)) (.slice (some ⟨w2.heap.size, 0, none⟩) 1 1) [k.toUInt8] := by
  have := bs_row w2 [k.toUInt8]
  simp only [List.map_cons, List.map_nil, bv, small64 hk] at this
  rw [hz]
  exact this
theorem parts_byte2 {w2 : World} {B : Nat} {x : Value} {t : TypeId} {n : List UInt8} {k : Nat} (hk : k ≤ 64) {z : Int} (hz : z = (k : Int)) (hx : Own w2 B x n) :
    Parts ((w2.alloc (.cells #[.int .u8 z] 5)).alloc (.cells #[.slice (some ⟨w2.heap.size, 0, none⟩) 1 1, x] t)) (w2.heap.size + 1) [.slice (some ⟨w2.heap.size, 0, none⟩) 1 1, x] [[k.toUInt8], n] := by
  have hf : Fr Non w2 (w2.alloc (.cells #[.int .u8 z] 5)) := (Fr.refl _ _).alloc _
  have h := Parts.two (t := t) (bs_byteZ w2 hk hz) (hx.bs.non hf)
  rwa [show (w2.alloc (.cells #[.int .u8 z] 5)).heap.size = w2.heap.size + 1 by simp] at h
theorem byte_fl2 (x : UInt8) (m : List UInt8) : [[x], m].flatten = x :: m := by simp
theorem byte_fl3 (x : UInt8) (m n : List UInt8) : [[x], m, n].flatten = x :: (m ++ n) := by simp

set_option maxHeartbeats 4000000 in
theorem put_cl (ty : Int) (v : Value) (l : List Cl) (w : World) (hv : Cs w v l) (hm : ∀ c ∈ l, mayC ty true c = true ∧ I64 c.num) (hl : l.length ≤ 4096) (hb : (putC ty l).length ≤ 1000000) (hpos : 0 < (putC ty l).length) :
    Calls Try.prog 6 #[.int .i64 ty, v] w fun e w' => ∃ u, e = .returned u ∧ Own w' w.heap.size u (putC ty l) ∧ Fr Non w w' := by
  have HV := Lib.hid hv
  have HO := Lib.hid (okL_may hm)
  have HAll : Hid (l.all (mayC ty true) = true) := Lib.hid (List.all_eq_true.2 fun c hc => (hm c hc).1)
  have hof : (othersC l).length ≤ l.length := List.length_filter_le _ _
  have hwp := waysOf_pos ty
  have hwl := waysOf_len ty
  have HMay := Lib.hid (mayL_any ty true v l w hv (by omega))
  rw [HAll.out] at HMay
  have d4 : decide (4096 < (l.length : Int)) = false := by simp; omega
  obtain ⟨A, c, rfl⟩ : ∃ A c, v = .slice A l.length c := by obtain ⟨A, c, h, _⟩ := hv; exact ⟨A, c, h⟩
  have HPart := Lib.hid (fun W (h : Cs W (.slice A l.length c) l) => part_any (.slice A l.length c) l W h (by omega))
  have HSh := Lib.hid (fun W v3 o (h1 : Ws W v3 (waysOf ty)) (h2 : Cs W o (othersC l)) => shortest_any v3 o (waysOf ty) (othersC l) W h1 h2 (by omega) (fun k hk => by have := hwp k hk; omega) (by omega) HO.out)
  have HWays := Lib.hid (fun W => ways_any ty W)
  have hP : putC ty l = if (shortC (othersC l) (waysOf ty) (0, [])).1 = 0 then []
      else if (othersC l).length = l.length then (shortC (othersC l) (waysOf ty) (0, [])).1.toUInt8 :: (shortC (othersC l) (waysOf ty) (0, [])).2
      else ((shortC (othersC l) (waysOf ty) (0, [])).1 + 8).toUInt8 :: (packB (nullsC l) ++ (shortC (othersC l) (waysOf ty) (0, [])).2) := rfl
  have hk6 : (shortC (othersC l) (waysOf ty) (0, [])).1 ≤ 6 := by
    rcases List.mem_cons.1 (shortC_in (othersC l) (waysOf ty) 0 []) with h | h
    · omega
    · exact (hwp _ h).2
  have hnl : (nullsC l).length ≤ 1000000 := by unfold nullsC; rw [List.length_map]; omega
  generalize putC ty l = P at *
  generalize shortC (othersC l) (waysOf ty) (0, []) = sh at *
  obtain ⟨k, y⟩ := sh
  dsimp only at hP hk6 HSh
  generalize waysOf ty = ks at *
  generalize othersC l = os at *
  generalize nullsC l = nl at *
  have hk0 : k ≠ 0 := by
    intro h
    rw [if_pos h] at hP
    subst hP
    simp at hpos
  rw [if_neg hk0] at hP
  have hk64 : k ≤ 64 := by omega
  have e0 : ((k : Int) == 0) = false := by rw [beq_eq_false_iff_ne]; omega
  have HP := Lib.hid hP
  clear hv hm HAll hP hwp hwl HO hpos hk0
  go_enter Try.func6, Try.ntmps6
  go_wp2_with fail
  refine HMay.out.mono ?_
  rintro e w1 ⟨rfl, hf1⟩
  have HF1 := Lib.hid hf1
  clear hf1 HMay
  go_wp2_with fail
  refine (HPart.out w1 (HV.out.non HF1.out)).mono ?_
  rintro e w2 ⟨t, o, rfl, ht, ho, hf2⟩
  have HT := Lib.hid ht
  have HOo := Lib.hid ho
  have HF2 := Lib.hid (HF1.out.trans hf2)
  clear ht ho hf2 HPart
  go_wp2_with fail
  refine (HWays.out w2).mono ?_
  rintro e w3 ⟨v3, rfl, hw3, hf3⟩
  have HW3 := Lib.hid hw3
  have HF3 := Lib.hid hf3
  clear hw3 hf3
  go_wp2_with fail
  refine (HSh.out w3 v3 o HW3.out (HOo.out.cs.non HF3.out)).mono ?_
  rintro e w4 ⟨u4, rfl, ho4, hf4⟩
  obtain ⟨A4, c4, rfl⟩ := ho4.bs.shape
  have HO4 := Lib.hid ho4
  have HT4 := Lib.hid ((HT.out.non HF3.out).non hf4)
  have HF4 := Lib.hid ((HF2.out.trans HF3.out).trans hf4)
  obtain ⟨Ao, co, rfl⟩ : ∃ A c, o = .slice A os.length c := by obtain ⟨A, c, h, _⟩ := HOo.out.cs; exact ⟨A, c, h⟩
  clear ho4 hf4 HSh HWays HV HW3 HOo HT
  by_cases hs : os.length = l.length
  · have hP := HP.out
    rw [if_pos hs] at hP
    have es : ((os.length : Int) == l.length) = true := by rw [hs]; simp
    have hcl : [[k.toUInt8], y].flatten.length < 1099511627776 := by rw [byte_fl2, ← hP]; omega
    have HP2 := Lib.hid hP
    have HCl := Lib.hid hcl
    clear HP hP hcl hs hb
    go_wp2_with fail
    refine (concat_any (w4.heap.size + 1) 2 2 _ [[k.toUInt8], y] _ rfl (by omega) (parts_byte2 hk64 rfl HO4.out) HCl.out).mono ?_
    rintro e w5 ⟨u5, rfl, ho5, hf5⟩
    go_wp2
    go_ret
    refine ⟨u5, rfl, ?_, ?_⟩
    · rw [byte_fl2, ← HP2.out] at ho5
      exact ho5.mono ((HF4.out.alloc _).alloc _).size
    · exact ((HF4.out.alloc _).alloc _).trans hf5
  · have hP := HP.out
    rw [if_neg hs] at hP
    have es : ((os.length : Int) == l.length) = false := by rw [beq_eq_false_iff_ne]; omega
    have hcl : [[(k + 8).toUInt8], packB nl, y].flatten.length < 1099511627776 := by rw [byte_fl3, ← hP]; omega
    have HP2 := Lib.hid hP
    have HCl := Lib.hid hcl
    clear HP hP hcl hs hb
    go_wp2_with fail
    refine (pack_any t nl _ (HT4.out.vs.non ((Fr.refl _ _).alloc _)) hnl).mono ?_
    rintro e w5 ⟨u5, rfl, ho5, hf5⟩
    have hb5 := bs_byteZ w4 (k := k + 8) (by omega) (z := (k : Int) + 8) (by push_cast; rfl)
    have HF5 := Lib.hid (((Fr.refl Non w4).alloc (.cells #[.int .u8 ((k : Int) + 8)] 5)).trans hf5)
    have HB5 := Lib.hid (hb5.non hf5)
    have HY5 := Lib.hid (HO4.out.bs.non HF5.out)
    have HO5 := Lib.hid ho5
    obtain ⟨A5, c5, rfl⟩ := ho5.bs.shape
    clear hb5 hf5 ho5
    go_wp2_with fail
    refine (concat_any w5.heap.size 3 3 _ [[(k + 8).toUInt8], packB nl, y] _ rfl (by omega) (Parts.three HB5.out HO5.out.bs HY5.out) HCl.out).mono ?_
    rintro e w6 ⟨u6, rfl, ho6, hf6⟩
    go_wp2
    go_ret
    have hF := ((HF4.out.trans HF5.out).alloc _).trans hf6
    refine ⟨u6, rfl, ?_, hF⟩
    rw [byte_fl3, ← HP2.out] at ho6
    exact ho6.mono (((HF4.out.trans HF5.out).alloc _).size)
end Go.Proofs.Ytemfmnjhmmlmbaa


namespace Go.Proofs.Ytemfmnjhmmlmbaa
set_option linter.unusedVariables false
set_option linter.unusedSimpArgs false
set_option maxRecDepth 100000
open Go.RowKit

theorem putR_e10 : putR [7, 7, 7] = [2, 14] := by
  rw [putR_cons, show runN 7 [7, 7] = 2 by decide, show List.drop 2 [(7 : Int), 7] = [] by rfl, putR_nil]
  unfold oneR
  rw [show zig 7 = 14 by rfl, Lib.uvarint_small (by omega), Lib.uvarint_small (by omega)]
  rfl
theorem onesN_e10 : onesN [7, 7, 7] = [14, 14, 14] := by
  rw [onesN_cons, onesN_cons, onesN_cons, onesN_nil, show zig 7 = 14 by rfl, Lib.uvarint_small (by omega)]
  rfl
theorem putD_e10 : putD 0 [7, 7, 7] = [14, 0, 0] := by
  rw [putD_cons, putD_cons, putD_cons, putD_nil]
  rw [show zig (w6 (7 - 0)) = 14 by decide, show zig (w6 (7 - 7)) = 0 by decide, Lib.uvarint_small (by omega), Lib.uvarint_small (by omega)]
  rfl
theorem putT_e10 : putT [7, 7, 7] = [14, 0] := by
  rw [putT_some (by simp), show leastOf [7, 7, 7] = 7 by decide, show width [7, 7, 7] = 0 by decide, show zig 7 = 14 by decide, Lib.uvarint_small (by omega), show packB (allB 0 7 [7, 7, 7]) = [] by decide]
  rfl
theorem putC_ex1 : putC 1 [⟨false, 7, []⟩, ⟨false, 7, []⟩, ⟨false, 7, []⟩] = [2, 2, 14] := by
  have h1 : othersC [⟨false, 7, []⟩, ⟨false, 7, []⟩, ⟨false, 7, []⟩] = [⟨false, 7, []⟩, ⟨false, 7, []⟩, ⟨false, 7, []⟩] := rfl
  have e1 : wayB 1 [⟨false, 7, []⟩, ⟨false, 7, []⟩, ⟨false, 7, []⟩] = [14, 14, 14] := onesN_e10
  have e2 : wayB 2 [⟨false, 7, []⟩, ⟨false, 7, []⟩, ⟨false, 7, []⟩] = [2, 14] := putR_e10
  have e3 : wayB 3 [⟨false, 7, []⟩, ⟨false, 7, []⟩, ⟨false, 7, []⟩] = [14, 0, 0] := putD_e10
  have e4 : wayB 4 [⟨false, 7, []⟩, ⟨false, 7, []⟩, ⟨false, 7, []⟩] = [14, 0] := putT_e10
  have hs : shortC [⟨false, 7, []⟩, ⟨false, 7, []⟩, ⟨false, 7, []⟩] [1, 2, 3, 4] (0, []) = (2, [2, 14]) := by
    simp only [shortC, e1, e2, e3, e4]
    rfl
  unfold putC
  rw [h1, show waysOf 1 = [1, 2, 3, 4] from rfl, hs]
  rfl
theorem putC_ex2 : putC 1 [⟨true, 0, []⟩] = [9, 1] := by
  have hs : shortC [] [1, 2, 3, 4] (0, []) = (1, []) := by
    have e1 : wayB 1 [] = [] := rfl
    have e2 : ∀ k, (wayB k ([] : List Cl)).length < ([] : List UInt8).length ↔ False := fun k => by simp
    simp only [shortC, e1, e2]
    rfl
  unfold putC
  rw [show othersC [⟨true, 0, []⟩] = [] from rfl, show waysOf 1 = [1, 2, 3, 4] from rfl, hs]
  decide

theorem oc_lit (w : World) (B g : Nat) (l : List Cl) (cs : Array Value) (hcs : cs.toList = clsL l) (hg : g = w.heap.size) (hB : B ≤ g) (hm : l.length ≤ 1000000) : Oc (w.alloc (.cells cs 31)) B (.slice (some ⟨g, 0, none⟩) l.length l.length) l := by
  subst hg
  have h := World.ownsRow_lit (e := 31) (size := 3) w cs l.length hB (by unfold maxLen; omega) (by rw [← Array.length_toList, hcs, clsL_len])
  rw [hcs] at h
  exact h
theorem ex_may1 : ∀ c ∈ [(⟨false, 7, []⟩ : Cl), ⟨false, 7, []⟩, ⟨false, 7, []⟩], mayC 1 true c = true ∧ I64 c.num := by
  intro c hc
  simp at hc
  subst hc
  exact ⟨rfl, by unfold I64; decide⟩
theorem ex_may2 : ∀ c ∈ [(⟨true, 0, []⟩ : Cl)], mayC 1 true c = true ∧ I64 c.num := by
  intro c hc
  simp at hc
  subst hc
  exact ⟨rfl, by unfold I64; decide⟩

set_option maxHeartbeats 1000000 in
theorem chlive_any (w : World) : Calls Try.prog 4 #[] w fun e w' => e = .returned (.bool true) ∧ Fr Non w w' := by
  have H1 := Lib.hid (fun W : World => oc_lit W 0 _ [⟨false, 7, []⟩, ⟨false, 7, []⟩, ⟨false, 7, []⟩] #[.bool false, .int .i64 7, .string ⟨#[]⟩, .bool false, .int .i64 7, .string ⟨#[]⟩, .bool false, .int .i64 7, .string ⟨#[]⟩] rfl rfl (Nat.zero_le _) (by decide))
  have H2 := Lib.hid (fun (W : World) (g : Nat) (hg : g = W.heap.size) => oc_lit W 0 g [⟨true, 0, []⟩] #[.bool true, .int .i64 0, .string ⟨#[]⟩] rfl hg (Nat.zero_le _) (by decide))
  have H5 := Lib.hid (fun W : World => bs_row W [2, 2, 14])
  have H6 := Lib.hid (fun W : World => bs_row W [9, 1])
  have HE1 := Lib.hid putC_ex1
  have HE2 := Lib.hid putC_ex2
  go_enter Try.func4, Try.ntmps4
  go_wp2_with fail
  refine (put_cl 1 _ [⟨false, 7, []⟩, ⟨false, 7, []⟩, ⟨false, 7, []⟩] _ (H1.out _).cs ex_may1 (by decide) (by rw [HE1.out]; decide) (by rw [HE1.out]; decide)).mono ?_
  rintro e w1 ⟨u, rfl, hown, hfr⟩
  rw [HE1.out] at hown
  have hf1 := ((Fr.refl Non w).alloc _).trans hfr
  go_wp2_with fail
  refine (same_any _ _ [2, 2, 14] [2, 2, 14] _ (hown.bs.non ((Fr.refl _ _).alloc _)) (H5.out _)).mono ?_
  rintro e w2 ⟨he, rfl⟩
  rw [show (([2, 2, 14] : List UInt8) == [2, 2, 14]) = true from beq_self_eq_true _] at he
  subst he
  go_wp2_with fail
  refine (put_cl 1 _ [⟨true, 0, []⟩] _ (H2.out _ (w1.heap.size + 1) (by simp)).cs ex_may2 (by decide) (by rw [HE2.out]; decide) (by rw [HE2.out]; decide)).mono ?_
  rintro e w3 ⟨u3, rfl, hown3, hfr3⟩
  rw [HE2.out] at hown3
  have hf3 := ((hf1.alloc _).alloc _).trans hfr3
  go_wp2_with fail
  refine (same_any _ _ [9, 1] [9, 1] _ (hown3.bs.non ((Fr.refl _ _).alloc _)) (H6.out _)).mono ?_
  rintro e w4 ⟨he, rfl⟩
  rw [show (([9, 1] : List UInt8) == [9, 1]) = true from beq_self_eq_true _] at he
  subst he
  go_wp2
  go_ret
  exact ⟨rfl, hf3.alloc _⟩

set_option maxHeartbeats 2000000 in
theorem chunkShort_walk (ty n : Int) (v : Value) (b : List UInt8) (w : World) (hv : Bs w v b) (hll : b.length ≤ 9223372036854775807) :
    Calls Try.prog 3 #[.int .i64 ty, v, .int .i64 n] w fun e w' => e = .returned (.bool true) ∧ Below w.heap.size w w' := by
  have HV := Lib.hid hv
  have HLv := Lib.hid (chlive_any w)
  obtain ⟨A, c, rfl⟩ := hv.shape
  clear hv
  by_cases hl : 400 < b.length
  · have d1 : decide (400 < (b.length : Int)) = true := by simp; omega
    clear hl
    go_enter Try.func3, Try.ntmps3
    go_wp2_with fail
    refine HLv.out.mono ?_
    rintro e w1 ⟨rfl, hf⟩
    go_wp2
    go_ret
    exact ⟨rfl, hf.below⟩
  · have d1 : decide (400 < (b.length : Int)) = false := by simp; omega
    by_cases hn : 400 < n
    · have d2 : decide (400 < n) = true := by simpa using hn
      clear hl hn
      go_enter Try.func3, Try.ntmps3
      go_wp2_with fail
      refine HLv.out.mono ?_
      rintro e w1 ⟨rfl, hf⟩
      go_wp2
      go_ret
      exact ⟨rfl, hf.below⟩
    · have d2 : decide (400 < n) = false := by simpa using hn
      have HG := Lib.hid (get_cl ty n _ b w HV.out (by omega))
      clear HLv hn
      go_enter Try.func3, Try.ntmps3
      go_wp2_with fail
      refine HG.out.mono ?_
      rintro e w1 ⟨hG, hf1⟩
      rcases hG with ⟨h1, rfl⟩ | ⟨l, u, h1, rfl, h2⟩
      · clear h1
        go_wp2_with fail
        refine (chlive_any w1).mono ?_
        rintro e w2 ⟨rfl, hf2⟩
        go_wp2
        go_ret
        exact ⟨rfl, (hf1.trans hf2).below⟩
      · obtain ⟨i1, i2, i3, i4, i5, i6⟩ := getC_is h1
        have HPt := Lib.hid (put_cl ty u l w1 h2.cs i4 (by omega) (by omega) i5)
        obtain ⟨A1, c1, rfl⟩ := h2.shape
        generalize putC ty l = p at *
        clear h1 h2 i3 i4 hl
        subst i1
        have HF1 := Lib.hid hf1
        clear hf1
        go_wp2_with fail
        refine HPt.out.mono ?_
        rintro e w2 ⟨u2, rfl, ho2, hf2⟩
        obtain ⟨A2, c2, rfl⟩ := ho2.bs.shape
        clear ho2 HPt
        have HF2 := Lib.hid (HF1.out.trans hf2)
        clear hf2
        have d3 : decide (0 < (p.length : Int)) = true := by simp; omega
        have d4 : decide ((p.length : Int) ≤ b.length) = true := by simp; omega
        go_wp2_with fail
        refine (chlive_any w2).mono ?_
        rintro e w3 ⟨rfl, hf3⟩
        go_wp2
        go_ret
        exact ⟨rfl, (HF2.out.trans hf3).below⟩
end Go.Proofs.Ytemfmnjhmmlmbaa
