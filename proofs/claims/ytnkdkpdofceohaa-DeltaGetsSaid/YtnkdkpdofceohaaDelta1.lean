/-
  Layer 6: the walks of delta's closures, delta.Put, firkinref06.Put.
-/
import Derived.Test.YtnkdkpdofceohaaRuns3
import Derived.Test.YtnkdkpdofceohaaMathDelta
namespace Go.Proofs.Ytnkdkpdofceohaa
set_option linter.unusedVariables false
set_option linter.unusedSimpArgs false
open Go.RowKit

theorem w6_wrap (n : Int) : IntKind.i64.wrap n = w6 n := by rw [IntKind.wrap_i64]; unfold w6; rfl
theorem w6_wrap64 (n : Int) : wrap64 n = w6 n := by unfold wrap64 w6; rfl

theorem ow_other {α : Type} {f : α → Value} {E t : TypeId} {w : World} {B g : Nat} {v : Value} {l : List α} {cs : Array Value} (h : Ow f E w B v l) (hb : Blk w g t cs) (hne : E ≠ t) : ∀ k, v.ownBlock = some k → k ≠ g := by
  rintro k hk rfl
  obtain ⟨cur, h1⟩ := h.kind k hk
  unfold Blk at hb
  rw [hb] at h1
  simp at h1
  exact hne h1.2.symm

theorem lessAhead_any (w : World) : Calls Try.prog 13 #[] w fun e w' => e = .returned (.func (.func 21) #[] #[ptr w.heap.size]) ∧ Blk w' w.heap.size 2 #[iv 0] ∧ Fr Non w w' := by
  have hmf : ∀ (fn : Fn) (first cap : Array Value) (w : World), (Instr.makeFunc fn first cap).run Try.prog w = .ok (.func fn first cap) w := fun _ _ _ _ => rfl
  go_enter Try.func13, Try.ntmps13
  go_wp2
  go_ret
  exact ⟨rfl, Blk.new _ _ _, (Fr.refl _ _).alloc _⟩

theorem plusAhead_any (w : World) : Calls Try.prog 16 #[] w fun e w' => e = .returned (.func (.func 23) #[] #[ptr w.heap.size]) ∧ Blk w' w.heap.size 2 #[iv 0] ∧ Fr Non w w' := by
  have hmf : ∀ (fn : Fn) (first cap : Array Value) (w : World), (Instr.makeFunc fn first cap).run Try.prog w = .ok (.func fn first cap) w := fun _ _ _ _ => rfl
  go_enter Try.func16, Try.ntmps16
  go_wp2
  go_ret
  exact ⟨rfl, Blk.new _ _ _, (Fr.refl _ _).alloc _⟩

theorem less_any (g : Nat) (x a : Int) (w : World) (h : Blk w g 2 #[iv a]) :
    Calls Try.prog 21 #[.int .i64 x, ptr g] w fun e w' => e = .returned (.int .i64 (w6 (x - a))) ∧ Blk w' g 2 #[iv x] ∧ Fr (One g) w w' := by
  have hc0 : w.cell? ⟨g, 0, none⟩ = some (.int .i64 a) := h.cell 0
  have hf0 := h.frozen 0
  go_enter Try.func21, Try.ntmps21
  go_wp2
  go_ret
  exact ⟨ret_int (w6_wrap64 _), h.set 0 _, (Fr.refl _ _).set1 0 _⟩

theorem plus_any (g : Nat) (x a : Int) (w : World) (h : Blk w g 2 #[iv a]) :
    Calls Try.prog 23 #[.int .i64 x, ptr g] w fun e w' => e = .returned (.int .i64 (w6 (a + x))) ∧ Blk w' g 2 #[iv (w6 (a + x))] ∧ Fr (One g) w w' := by
  have hc0 : w.cell? ⟨g, 0, none⟩ = some (.int .i64 a) := h.cell 0
  have hf0 := h.frozen 0
  go_enter Try.func23, Try.ntmps23
  go_wp2
  go_ret
  exact ⟨ret_int (w6_wrap64 _), by rw [← w6_wrap64]; exact h.set 0 _, (Fr.refl _ _).set1 0 _⟩

theorem lastD_take (a : Int) (l : List Int) (k : Nat) (h : k < l.length) : lastD a (l.take (k + 1)) = l[k] := by
  unfold lastD
  rw [List.take_succ_eq_append_getElem h, List.getLast?_concat]; rfl
theorem putD_take (l : List Int) (k : Nat) (h : k < l.length) : putD 0 (l.take (k + 1)) = putD 0 (l.take k) ++ Lib.uvarint (zig (w6 (l[k] - lastD 0 (l.take k)))) := by
  rw [List.take_succ_eq_append_getElem h, putD_app]; simp [putD_cons, putD_nil]
theorem u8_ne_i64 : 5 ≠ 2 := by decide

set_option maxHeartbeats 2000000 in
theorem dput_any (v : Value) (l : List Int) (w : World) (hv : Vs iv w v l) (hl : l.length ≤ 1000000) :
    Calls Try.prog 7 #[v] w fun e w' => ∃ u, e = .returned u ∧ Own w' w.heap.size u (putD 0 l) ∧ Fr Non w w' := by
  obtain ⟨A, c, rfl, hlc, hn, hcell⟩ := hv
  have HC := Lib.hid hcell
  have HN := Lib.hid hn
  clear hcell hn
  go_enter Try.func7, Try.ntmps7
  go_wp2_with (at_make; refine wpList_mkbytes rfl _ _ rfl _ _ _ l.length rfl rfl rfl (by omega) ?_; intro v2 w2 hown2 hfr2)
  refine (lessAhead_any w2).mono ?_
  rintro e w3 ⟨rfl, hb3, hfr3⟩
  have hown3 := hown2.non hfr3
  have hf3 := hfr2.trans hfr3
  have hg2 := hfr2.size
  clear hown2 hfr2 hfr3
  generalize hgg : w2.heap.size = g at *
  clear hgg
  go_wp2
  go_loopw [3, 13] (fun b i wr => ∃ (k : Nat), k ≤ l.length ∧ i = .int .i64 k ∧ Own wr w.heap.size b (putD 0 (l.take k)) ∧ Blk wr g 2 #[iv (lastD 0 (l.take k))] ∧ Fr Non w wr) (fun _ i _ => l.length - (intOf i).toNat)
  case atStart => exact ⟨0, Nat.zero_le _, rfl, hown3, hb3, hf3⟩
  case round =>
    clear hown3 hb3 hf3
    obtain ⟨k, hk, rfl, hown, hb, hfr⟩ := hrel
    by_cases hlt : k < l.length
    · cases A with
      | none => have := HN.out rfl; omega
      | some a =>
        have hc0 := (hfr.cell (World.block_lt_of_cell? w _ (HC.out a rfl k hlt)) (fun e => e)).trans (HC.out a rfl k hlt)
        unfold iv at hc0
        have HT := Lib.hid (putD_take l k hlt)
        have HL := Lib.hid (lastD_take 0 l k hlt)
        have hpl := putD_len (l.take k) 0
        have hlk : (l.take k).length = k := by rw [List.length_take]; omega
        rw [hlk] at hpl
        clear hlk
        generalize l[k] = x at *
        generalize lastD 0 (l.take k) = d at *
        generalize putD 0 (l.take k) = bs at *
        have HO := Lib.hid hown
        have HB := Lib.hid hb
        clear hown hb
        have hx64 := w6_i64 (x - d)
        go_wp2_with fail
        refine (less_any g x d wr HB.out).mono ?_
        rintro e w4 ⟨rfl, hb4, hf4⟩
        have hown4 := HO.out.fr hf4 (fun q hq e => ow_other HO.out.ow HB.out u8_ne_i64 q hq e)
        have hfr4 := hfr.fresh hf4 (fun q e => by have : q = g := e; omega)
        go_wp2_with fail
        refine (vint_any _ w4 hx64.1 hx64.2).mono ?_
        rintro e w5 ⟨v5, rfl, hown5, hf5⟩
        have hz10 := uvarint_zig10 hx64
        have hfr5 := hfr4.trans hf5
        have hB5 := hfr5.size
        have hb5 := hb4.fr hf5 (fun e => e)
        have hown5' := hown4.non hf5
        generalize Lib.uvarint (zig (w6 (x - d))) = y at *
        go_wp2_with (at_builtin; refine wpList_app rfl (.tmp 17) (.tmp 21) rfl w.heap.size u3 v5 bs y rfl hown5' rfl hown5.bs (by omega) hB5 ?_; intro v6 w6_ hown6 hf6)
        have hb6 := hb5.fr hf6 (fun e => ow_other hown5'.ow hb5 u8_ne_i64 g e rfl)
        have hfr6 := hfr5.fresh hf6 (fun k hk => (hown5'.lt k hk).1)
        go_roundw
        case rel => exact ⟨k + 1, by omega, by go_num, by rw [HT.out]; exact hown6, by rw [HL.out]; exact hb6, hfr6⟩
        case measure => simp [intOf]; omega
    · obtain rfl : k = l.length := by omega
      rw [List.take_length] at hown
      go_wp2
      go_ret
      exact ⟨_, rfl, hown, hfr⟩

set_option maxHeartbeats 2000000 in
theorem rdput_any (v : Value) (l : List Int) (w : World) (hv : Vs iv w v l) (hl : l.length ≤ 1000000) :
    Calls Try.prog 10 #[v] w fun e w' => ∃ u, e = .returned u ∧ Own w' w.heap.size u (putD 0 l) ∧ Fr Non w w' := by
  obtain ⟨A, c, rfl, hlc, hn, hcell⟩ := hv
  have HC := Lib.hid hcell
  have HN := Lib.hid hn
  clear hcell hn
  go_enter Try.func10, Try.ntmps10
  go_wp2
  go_loopw [3, 4, 5] (fun b d i wr => ∃ (k : Nat), k ≤ l.length ∧ i = .int .i64 k ∧ d = .int .i64 (lastD 0 (l.take k)) ∧ Own wr w.heap.size b (putD 0 (l.take k)) ∧ Fr Non w wr) (fun _ _ i _ => l.length - (intOf i).toNat)
  case atStart => exact ⟨0, Nat.zero_le _, rfl, rfl, own_lit0 _ _ _ rfl (Nat.le_refl _), (Fr.refl _ _).alloc _⟩
  case round =>
    obtain ⟨k, hk, rfl, rfl, hown, hfr⟩ := hrel
    by_cases hlt : k < l.length
    · cases A with
      | none => have := HN.out rfl; omega
      | some a =>
        have hcw := HC.out a rfl k hlt
        have hc0 := (hfr.cell (World.block_lt_of_cell? w _ hcw) (fun e => e)).trans hcw
        have HT := Lib.hid (putD_take l k hlt)
        have HL := Lib.hid (lastD_take 0 l k hlt)
        have hpl := putD_len (l.take k) 0
        have hlk : (l.take k).length = k := by rw [List.length_take]; omega
        rw [hlk] at hpl
        clear hlk
        generalize l[k] = x at *
        generalize lastD 0 (l.take k) = d at *
        generalize putD 0 (l.take k) = bs at *
        unfold iv at hc0 hcw
        have HO := Lib.hid hown
        clear hown
        have hx64 := w6_i64 (x - d)
        have hr := fun W => rint_any (w6 (x - d)) W hx64.1 hx64.2
        have hz10 := uvarint_zig10 hx64
        generalize Lib.uvarint (zig (w6 (x - d))) = y at *
        simp only [← w6_wrap64] at hr
        have HR := Lib.hid hr
        clear hr hx64
        go_wp2_with fail
        refine (HR.out wr).mono ?_
        rintro e w5 ⟨v5, rfl, hown5, hf5⟩
        have hfr5 := hfr.trans hf5
        have hB5 := hfr5.size
        have hown5' := HO.out.non hf5
        go_wp2_with (at_builtin; refine wpList_app rfl (.tmp 13) (.tmp 20) rfl w.heap.size u3 v5 bs y rfl hown5' rfl hown5.bs (by omega) hB5 ?_; intro v6 w6_ hown6 hf6; have hfr6 := hfr5.fresh hf6 (fun k hk => (hown5'.lt k hk).1); have hc6 := (hfr6.cell (World.block_lt_of_cell? w _ hcw) (fun e => e)).trans hcw)
        go_roundw
        case rel => exact ⟨k + 1, by omega, by go_num, by rw [HL.out], by rw [HT.out]; exact hown6, hfr6⟩
        case measure => simp [intOf]; omega
    · obtain rfl : k = l.length := by omega
      rw [List.take_length] at hown
      go_wp2
      go_ret
      exact ⟨_, rfl, hown, hfr⟩
end Go.Proofs.Ytnkdkpdofceohaa
