/-
  Layer 1, what is written, texts: contracts of join and Text, the program's own and the document's.
-/
import Derived.Test.YtkmgplgokhjmjaaVint2
namespace Go.Proofs.Ytkmgplgokhjmjaa
set_option linter.unusedVariables false
set_option linter.unusedSimpArgs false
set_option maxRecDepth 100000
open Go.RowKit

/-- a row of slices, from the head of block g on, that read as the lists ls -/
def Parts (w : World) (g : Nat) (xs : List Value) (ls : List (List UInt8)) : Prop :=
  xs.length = ls.length ∧ ∀ j x l, xs[j]? = some x → ls[j]? = some l → w.cell? ⟨g, j, none⟩ = some x ∧ Bs w x l
theorem Parts.non {w w' : World} {g : Nat} {xs : List Value} {ls : List (List UInt8)} (h : Parts w g xs ls) (hf : Fr Non w w') : Parts w' g xs ls :=
  ⟨h.1, fun j x l hx hl => by
    obtain ⟨h1, h2⟩ := h.2 j x l hx hl
    exact ⟨(hf.cell (p := ⟨g, j, none⟩) (World.block_lt_of_cell? w _ h1) (fun e => e)).trans h1, h2.non hf⟩⟩
theorem Parts.two {w : World} {t : TypeId} {x y : Value} {l m : List UInt8} (hx : Bs w x l) (hy : Bs w y m) : Parts (w.alloc (.cells #[x, y] t)) w.heap.size [x, y] [l, m] := by
  refine ⟨rfl, fun j u k hu hk => ?_⟩
  have hb := Blk.new w t #[x, y]
  have hf : Fr Non w (w.alloc (.cells #[x, y] t)) := (Fr.refl _ _).alloc _
  match j with
  | 0 =>
    obtain rfl : x = u := by simpa using hu
    obtain rfl : l = k := by simpa using hk
    exact ⟨hb.cell 0, hx.non hf⟩
  | 1 =>
    obtain rfl : y = u := by simpa using hu
    obtain rfl : m = k := by simpa using hk
    exact ⟨hb.cell 1, hy.non hf⟩
  | j + 2 => simp at hu

theorem flat_snoc (ls : List (List UInt8)) (k : Nat) (h : k < ls.length) : (ls.take (k + 1)).flatten = (ls.take k).flatten ++ ls[k] := by
  rw [List.take_succ_eq_append_getElem h, List.flatten_append]; simp only [List.flatten_cons, List.flatten_nil, List.append_nil]
theorem flat_le (ls : List (List UInt8)) (k : Nat) : (ls.take k).flatten.length ≤ ls.flatten.length := by
  conv => rhs; rw [← List.take_append_drop k ls, List.flatten_append, List.length_append]
  omega

set_option maxHeartbeats 1000000 in
theorem join_any (g n c : Nat) (xs : List Value) (ls : List (List UInt8)) (w : World) (hn : ls.length = n) (hn2 : n < 1000) (hp : Parts w g xs ls) (hb : ls.flatten.length < 1099511627776) :
    Calls Try.prog 47 #[.slice (some ⟨g, 0, none⟩) n c] w fun e w' => ∃ v, e = .returned v ∧ Own w' w.heap.size v ls.flatten ∧ Fr Non w w' := by
  have Hb := Lib.hid hb; clear hb
  go_enter Try.func47, Try.ntmps47
  go_wp2
  go_loop [3, 11] (fun s i => ∃ k : Nat, k ≤ n ∧ i = .int .i64 k ∧ s = .int .i64 (ls.take k).flatten.length) (fun _ i => n - (intOf i).toNat)
  case atStart => exact ⟨0, Nat.zero_le _, rfl, rfl⟩
  case round =>
    obtain ⟨k, hk, rfl, rfl⟩ := hrel
    have hle := flat_le ls k
    have hb1 : (ls.take k).flatten.length < 1099511627776 := by have := Hb.out; omega
    by_cases hlt : k < n
    · have hkl : k < ls.length := by omega
      have hkx : k < xs.length := by rw [hp.1]; omega
      obtain ⟨hcell, hbs⟩ := hp.2 k xs[k] ls[k] (by simp [hkx]) (by simp [hkl])
      have hsn := flat_snoc ls k hkl
      have hle2 := flat_le ls (k + 1)
      have hb2 : (ls.take k).flatten.length + ls[k].length < 1099511627776 := by rw [hsn, List.length_append] at hle2; have := Hb.out; omega
      have HS := Lib.hid hsn
      clear hsn hle hle2
      generalize ls[k] = l at *
      generalize hx : xs[k] = x at *
      clear hx
      obtain ⟨A, d, rfl⟩ := hbs.shape
      generalize (ls.take k).flatten = F at *
      clear hbs
      go_wp2
      go_round
      case rel => exact ⟨k + 1, by omega, by go_num, by rw [HS.out, List.length_append]; go_num⟩
      case measure => simp [intOf]; omega
    · have hkn : k = n := by omega
      have hT : ls.take k = ls := List.take_of_length_le (by omega)
      rw [hT] at hb1 ⊢
      have HL := Lib.hid hn
      clear hle hT hkn hn
      generalize hF : ls.flatten.length = F at *
      have HF := Lib.hid hF; clear hF
      go_wp2_with (at_make; refine wpList_mkbytes rfl _ _ rfl _ _ _ F rfl rfl rfl (by omega) ?_; intro v1 w1 hown1 hfr1)
      have hp1 := hp.non hfr1
      go_loopw [6, 24] (fun v i wr => ∃ k : Nat, k ≤ n ∧ i = .int .i64 k ∧ Own wr w.heap.size v (ls.take k).flatten ∧ Fr Non w wr) (fun _ i _ => n - (intOf i).toNat)
      case atStart => exact ⟨0, Nat.zero_le _, rfl, hown1, hfr1⟩
      case round =>
        obtain ⟨j, hj, rfl, hown, hfr⟩ := hrel
        have hB := hfr.size
        have hle := flat_le ls j
        by_cases hlt : j < n
        · have hkl : j < ls.length := by rw [HL.out]; exact hlt
          have hkx : j < xs.length := by rw [hp.1]; exact hkl
          obtain ⟨hcell, hbs⟩ := (hp.non hfr).2 j xs[j] ls[j] (by simp [hkx]) (by simp [hkl])
          have hsn := flat_snoc ls j hkl
          have hle2 := flat_le ls (j + 1)
          have hb2 : (ls.take j).flatten.length + ls[j].length < 140737488355328 := by rw [hsn, List.length_append] at hle2; have := HF.out; omega
          have HS := Lib.hid hsn
          clear hsn hle hle2 hp1 hp
          generalize ls[j] = l at *
          generalize hx : xs[j] = x at *
          clear hx
          generalize (ls.take j).flatten = G at *
          go_wp2_with (at_builtin; refine wpList_app rfl (.tmp 28) (.tmp 29) rfl w.heap.size u6 x G l rfl hown rfl hbs hb2 hB ?_; intro v' w' hown' hfr')
          go_roundw
          case rel => exact ⟨j + 1, by omega, by go_num, by rw [HS.out]; exact hown', hfr.fresh hfr' fun k hk => (hown.lt k hk).1⟩
          case measure => simp [intOf]; omega
        · have hT : ls.take j = ls := List.take_of_length_le (by rw [HL.out]; omega)
          rw [hT] at hown
          clear hT hle hp1 hp
          go_wp2
          go_ret
          exact ⟨_, rfl, hown, hfr⟩

/-- a text's bytes -/
def textB (l : List UInt8) : List UInt8 := Lib.uvarint l.length ++ l

theorem Own.shape {w : World} {B : Nat} {v : Value} {l : List UInt8} (h : Own w B v l) : ∃ A c, v = .slice A l.length c := h.bs.shape

set_option maxHeartbeats 400000 in
theorem vtext_any (l : List UInt8) (w : World) (hl : l.length < 1048576) :
    Calls Try.prog 31 #[.string ⟨l.toArray⟩] w fun e w' => ∃ v, e = .returned v ∧ Own w' w.heap.size v (textB l) ∧ Fr Non w w' := by
  have Hn := Lib.hid (show l.length < two64 by unfold two64; omega)
  have hs : ByteArray.size ⟨l.toArray⟩ = l.length := by simp [ByteArray.size]
  go_enter Try.func31, Try.ntmps31
  go_wp2_with fail
  refine (vnum_any l.length w Hn.out).mono ?_
  rintro e w1 ⟨v1, rfl, hown1, hfr1⟩
  obtain ⟨A1, c1, rfl⟩ := hown1.shape
  go_wp2_with (refine wpList_strbytes rfl _ rfl l rfl ?_; intro v2 w2 hbs2 hfr2 hnew2; obtain ⟨A2, c2, rfl⟩ := hbs2.shape)
  refine (join_any w2.heap.size 2 2 [.slice A1 (Lib.uvarint l.length).length c1, .slice A2 l.length c2] [Lib.uvarint l.length, l] _ rfl (by omega) (Parts.two (hown1.bs.non hfr2) hbs2) ?_).mono ?_
  · have := Lib.uvarint_length64 Hn.out
    simp; omega
  · rintro e w3 ⟨v3, rfl, hown3, hfr3⟩
    go_wp2
    go_ret
    refine ⟨v3, rfl, ?_, ((hfr1.then hfr2).alloc _).then hfr3⟩
    have h := hown3.mono (B' := w.heap.size) (by have := hfr1.size; have := hfr2.size; simp; omega)
    simpa [textB] using h

set_option maxHeartbeats 400000 in
theorem rtext_any (l : List UInt8) (w : World) (hl : l.length < 1048576) :
    Calls Try.prog 33 #[.string ⟨l.toArray⟩] w fun e w' => ∃ v, e = .returned v ∧ Own w' w.heap.size v (textB l) ∧ Fr Non w w' := by
  have Hn := Lib.hid (show l.length < two64 by unfold two64; omega)
  have hs : ByteArray.size ⟨l.toArray⟩ = l.length := by simp [ByteArray.size]
  go_enter Try.func33, Try.ntmps33
  go_wp2_with fail
  refine (rnum_any l.length w Hn.out).mono ?_
  rintro e w1 ⟨v1, rfl, hown1, hfr1⟩
  have hl10 := Lib.uvarint_length64 Hn.out
  have hB := hfr1.size
  go_wp2_with (at_builtin; refine wpList_appstr rfl (.tmp 6) (.tmp 7) rfl w.heap.size v1 _ l rfl hown1 rfl (by omega) hB ?_; intro v2 w2 hown2 hfr2)
  go_ret
  exact ⟨v2, rfl, hown2, hfr1.fresh hfr2 fun k hk => (hown1.lt k hk).1⟩

end Go.Proofs.Ytkmgplgokhjmjaa
