/-
  Layer 9: a cell's bytes, both programs'.
-/
import Derived.Test.YtkmgplgokhjmjaaCell2
import Derived.Test.YtkmgplgokhjmjaaVint3
import Derived.Test.YtkmgplgokhjmjaaSlc
namespace Go.Proofs.Ytkmgplgokhjmjaa
set_option linter.unusedVariables false
set_option linter.unusedSimpArgs false
set_option maxRecDepth 100000
open Go.RowKit

/-- a cell's bytes -/
def cellB (ty : Int) (c : Cl) : List UInt8 := if c.null then [0] else if ty = 1 ∨ ty = 2 then [1] ++ Lib.uvarint (zig c.num) else if ty = 3 then [1] ++ textB c.txt else [1]
theorem cellB_null {ty : Int} {c : Cl} (h : c.null = true) : cellB ty c = [0] := by unfold cellB; rw [if_pos h]
theorem cellB_num {ty : Int} {c : Cl} (h : c.null = false) (ht : ty = 1 ∨ ty = 2) : cellB ty c = [1] ++ Lib.uvarint (zig c.num) := by unfold cellB; rw [h, if_neg (by simp), if_pos ht]
theorem cellB_txt {c : Cl} (h : c.null = false) : cellB 3 c = [1] ++ textB c.txt := by unfold cellB; rw [h, if_neg (by simp), if_neg (by omega), if_pos rfl]
theorem cellB_no {ty : Int} {c : Cl} (h : c.null = false) (h1 : ¬ ty = 1) (h2 : ¬ ty = 2) (h3 : ¬ ty = 3) : cellB ty c = [1] := by unfold cellB; rw [h, if_neg (by simp), if_neg (by omega), if_neg h3]

theorem textB_lt {t : Tx} (h : t.length < 1048576) : (textB t).length < 1048586 := by
  have := Lib.uvarint_length64 (show t.length < 18446744073709551616 by omega)
  unfold textB; rw [List.length_append]; omega

theorem own_one (w : World) (B : Nat) (z : Int) (b : UInt8) (hz : z = b.toNat) (hB : B ≤ w.heap.size) : Own (w.alloc (.cells #[.int .u8 z] 5)) B (.slice (some ⟨w.heap.size, 0, none⟩) 1 1) [b] := by
  subst hz
  exact (ow_lit w B w.heap.size [b] _ rfl rfl hB (by unfold maxLen; simp)).own

/-- a cell that there can be -/
structure ClOk (c : Cl) : Prop where
  lo : -9223372036854775808 ≤ c.num
  hi : c.num ≤ 9223372036854775807
  len : c.txt.length < 1048576

set_option maxHeartbeats 1000000 in
theorem cput_any (ty : Int) (c : Cl) (w : World) (hc : ClOk c) : Calls Try.prog 13 #[.int .i64 ty, clV c] w fun e w' => ∃ v, e = .returned v ∧ Own w' w.heap.size v (cellB ty c) ∧ Fr Non w w' := by
  obtain ⟨n, i, t⟩ := c
  obtain ⟨hlo, hhi, hlen⟩ := hc
  have H1 := Lib.hid hlo
  have H2 := Lib.hid hhi
  have H3 := Lib.hid hlen
  clear hlo hhi hlen
  unfold clV clC
  have hfa : Fr Non w (w.alloc (.cells #[.bool n, .int .i64 i, .string ⟨t.toArray⟩] 23)) := (Fr.refl _ _).alloc _
  cases n
  · have hl := own_one (w.alloc (.cells #[.bool false, .int .i64 i, .string ⟨t.toArray⟩] 23)) w.heap.size 1 1 rfl (by simp)
    have hfb := hfa.alloc (.cells #[.int .u8 1] 5)
    have hsz : (w.alloc (.cells #[.bool false, .int .i64 i, .string ⟨t.toArray⟩] 23)).heap.size = w.heap.size + 1 := by simp
    rw [hsz] at hl
    have HL := Lib.hid hl
    clear hl hsz
    by_cases h1 : ty = 1 ∨ ty = 2
    · have HE := Lib.hid (cellB_num (ty := ty) (c := ⟨false, i, t⟩) rfl h1)
      rcases h1 with h | h
      all_goals
        subst h
        go_enter Try.func13, Try.ntmps13
        go_wp2_with fail
        refine (vint_any i _ H1.out H2.out).mono ?_
        rintro e w1 ⟨v1, rfl, hown1, hf1⟩
        have hb1 := hfb.trans hf1
        have hs1 := hb1.size
        have hlz := Lib.uvarint_length64 (zig_lt H1.out H2.out)
        go_wp2_with (at_builtin; refine wpList_app rfl (.tmp 14) (.tmp 17) rfl w.heap.size _ v1 [1] (Lib.uvarint (zig i)) rfl (HL.out.non hf1) rfl hown1.bs (by simp; omega) hs1 ?_; intro v2 w2 hown2 hf2)
        go_ret
        exact ⟨v2, rfl, by rw [HE.out]; exact hown2, hb1.fresh hf2 (fun k hk => ((HL.out.non hf1).lt k hk).1)⟩
    · by_cases h3 : ty = 3
      · subst h3
        have HE := Lib.hid (cellB_txt (c := ⟨false, i, t⟩) rfl)
        clear h1
        go_enter Try.func13, Try.ntmps13
        go_wp2_with fail
        refine (vtext_any t _ H3.out).mono ?_
        rintro e w1 ⟨v1, rfl, hown1, hf1⟩
        have hb1 := hfb.trans hf1
        have hs1 := hb1.size
        have hlz := textB_lt H3.out
        go_wp2_with (at_builtin; refine wpList_app rfl (.tmp 21) (.tmp 24) rfl w.heap.size _ v1 [1] (textB t) rfl (HL.out.non hf1) rfl hown1.bs (by simp; omega) hs1 ?_; intro v2 w2 hown2 hf2)
        go_ret
        exact ⟨v2, rfl, by rw [HE.out]; exact hown2, hb1.fresh hf2 (fun k hk => ((HL.out.non hf1).lt k hk).1)⟩
      · have h1' : ¬ ty = 1 := fun e => h1 (.inl e)
        have h2' : ¬ ty = 2 := fun e => h1 (.inr e)
        have HE := Lib.hid (cellB_no (ty := ty) (c := ⟨false, i, t⟩) rfl h1' h2' h3)
        clear h1
        go_enter Try.func13, Try.ntmps13
        go_wp2
        go_ret
        exact ⟨_, rfl, by rw [HE.out]; exact HL.out, hfb⟩
  · have hl := own_one (w.alloc (.cells #[.bool true, .int .i64 i, .string ⟨t.toArray⟩] 23)) w.heap.size 0 0 rfl (by simp)
    have hfb := hfa.alloc (.cells #[.int .u8 0] 5)
    have hsz : (w.alloc (.cells #[.bool true, .int .i64 i, .string ⟨t.toArray⟩] 23)).heap.size = w.heap.size + 1 := by simp
    rw [hsz] at hl
    have HL := Lib.hid hl
    clear hl hsz
    go_enter Try.func13, Try.ntmps13
    go_wp2
    go_ret
    exact ⟨_, rfl, by rw [cellB_null rfl]; exact HL.out, hfb⟩

set_option maxHeartbeats 1000000 in
theorem rcput_any (ty : Int) (c : Cl) (w : World) (hc : ClOk c) : Calls Try.prog 16 #[.int .i64 ty, clV c] w fun e w' => ∃ v, e = .returned v ∧ Own w' w.heap.size v (cellB ty c) ∧ Fr Non w w' := by
  obtain ⟨n, i, t⟩ := c
  obtain ⟨hlo, hhi, hlen⟩ := hc
  have H1 := Lib.hid hlo
  have H2 := Lib.hid hhi
  have H3 := Lib.hid hlen
  clear hlo hhi hlen
  unfold clV clC
  have hfa : Fr Non w (w.alloc (.cells #[.bool n, .int .i64 i, .string ⟨t.toArray⟩] 23)) := (Fr.refl _ _).alloc _
  cases n
  · have hl := own_one (w.alloc (.cells #[.bool false, .int .i64 i, .string ⟨t.toArray⟩] 23)) w.heap.size 1 1 rfl (by simp)
    have hfb := hfa.alloc (.cells #[.int .u8 1] 5)
    have hsz : (w.alloc (.cells #[.bool false, .int .i64 i, .string ⟨t.toArray⟩] 23)).heap.size = w.heap.size + 1 := by simp
    rw [hsz] at hl
    have HL := Lib.hid hl
    clear hl hsz
    by_cases h1 : ty = 1 ∨ ty = 2
    · have HE := Lib.hid (cellB_num (ty := ty) (c := ⟨false, i, t⟩) rfl h1)
      rcases h1 with h | h
      all_goals
        subst h
        go_enter Try.func16, Try.ntmps16
        go_wp2_with fail
        refine (rint_any i _ H1.out H2.out).mono ?_
        rintro e w1 ⟨v1, rfl, hown1, hf1⟩
        have hb1 := hfb.trans hf1
        have hs1 := hb1.size
        have hlz := Lib.uvarint_length64 (zig_lt H1.out H2.out)
        go_wp2_with (at_builtin; refine wpList_app rfl (.tmp 12) (.tmp 15) rfl w.heap.size _ v1 [1] (Lib.uvarint (zig i)) rfl (HL.out.non hf1) rfl hown1.bs (by simp; omega) hs1 ?_; intro v2 w2 hown2 hf2)
        go_ret
        exact ⟨v2, rfl, by rw [HE.out]; exact hown2, hb1.fresh hf2 (fun k hk => ((HL.out.non hf1).lt k hk).1)⟩
    · by_cases h3 : ty = 3
      · subst h3
        have HE := Lib.hid (cellB_txt (c := ⟨false, i, t⟩) rfl)
        clear h1
        go_enter Try.func16, Try.ntmps16
        go_wp2_with fail
        refine (rtext_any t _ H3.out).mono ?_
        rintro e w1 ⟨v1, rfl, hown1, hf1⟩
        have hb1 := hfb.trans hf1
        have hs1 := hb1.size
        have hlz := textB_lt H3.out
        go_wp2_with (at_builtin; refine wpList_app rfl (.tmp 19) (.tmp 22) rfl w.heap.size _ v1 [1] (textB t) rfl (HL.out.non hf1) rfl hown1.bs (by simp; omega) hs1 ?_; intro v2 w2 hown2 hf2)
        go_ret
        exact ⟨v2, rfl, by rw [HE.out]; exact hown2, hb1.fresh hf2 (fun k hk => ((HL.out.non hf1).lt k hk).1)⟩
      · have h1' : ¬ ty = 1 := fun e => h1 (.inl e)
        have h2' : ¬ ty = 2 := fun e => h1 (.inr e)
        have HE := Lib.hid (cellB_no (ty := ty) (c := ⟨false, i, t⟩) rfl h1' h2' h3)
        clear h1
        go_enter Try.func16, Try.ntmps16
        go_wp2
        go_ret
        exact ⟨_, rfl, by rw [HE.out]; exact HL.out, hfb⟩
  · have hl := own_one (w.alloc (.cells #[.bool true, .int .i64 i, .string ⟨t.toArray⟩] 23)) w.heap.size 0 0 rfl (by simp)
    have hfb := hfa.alloc (.cells #[.int .u8 0] 5)
    have hsz : (w.alloc (.cells #[.bool true, .int .i64 i, .string ⟨t.toArray⟩] 23)).heap.size = w.heap.size + 1 := by simp
    rw [hsz] at hl
    have HL := Lib.hid hl
    clear hl hsz
    go_enter Try.func16, Try.ntmps16
    go_wp2
    go_ret
    exact ⟨_, rfl, by rw [cellB_null rfl]; exact HL.out, hfb⟩
end Go.Proofs.Ytkmgplgokhjmjaa
