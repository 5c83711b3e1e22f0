/-
  Layer 1, what is read: contracts of Source's methods.
-/
import Derived.Test.YtkmgplgokhjmjaaVint4
namespace Go.Proofs.Ytkmgplgokhjmjaa
set_option linter.unusedVariables false
set_option linter.unusedSimpArgs false
set_option maxRecDepth 100000
open Go.RowKit

/-- a source in block g: what is left, and whether it failed -/
def Src (w : World) (g : Nat) (l : List UInt8) (bad : Bool) : Prop := Blk w g 57 #[.string ⟨l.toArray⟩, .bool bad] ∧ (bad = true → l = [])
abbrev ptr (g : Nat) : Value := .pointer (some ⟨g, 0, none⟩)

theorem Src.fr {S : Nat → Prop} {w w' : World} {g : Nat} {l : List UInt8} {bad : Bool} (h : Src w g l bad) (hf : Fr S w w') (hn : ¬ S g) : Src w' g l bad := ⟨h.1.fr hf hn, h.2⟩

/-- what a number leaves -/
def rest (l : List UInt8) : List UInt8 := match rd 0 0 l with | none => [] | some (_, r) => r
def fell (l : List UInt8) : Bool := match rd 0 0 l with | none => true | some _ => false
theorem rest_none {l : List UInt8} (h : rd 0 0 l = none) : rest l = [] ∧ fell l = true ∧ fstN l = 0 ∧ fstS l = 0 := by unfold rest fell fstN fstS; rw [h]; exact ⟨rfl, rfl, rfl, rfl⟩
theorem rest_some {l : List UInt8} {n : Nat} {r : List UInt8} (h : rd 0 0 l = some (n, r)) : rest l = r ∧ fell l = false ∧ fstN l = n ∧ fstS l = l.length - r.length := by unfold rest fell fstN fstS; rw [h]; exact ⟨rfl, rfl, rfl, rfl⟩

theorem from_any (v : Value) (l : List UInt8) (w : World) (h : Bs w v l) :
    Calls Try.prog 14 #[v] w fun e w' => e = .returned (ptr w.heap.size) ∧ Src w' w.heap.size l false ∧ Fr Non w w' := by
  have c1 := run_conv_Bs h 30 9 5 Try.underlying30 Try.underlying5 Try.underlying9
  clear h
  go_enter Try.func14, Try.ntmps14
  go_wp2
  go_ret
  exact ⟨rfl, ⟨Blk.new _ _ _, fun h => by cases h⟩, (Fr.refl _ _).alloc _⟩

theorem ok_any (g : Nat) (l : List UInt8) (bad : Bool) (w : World) (h : Src w g l bad) :
    Calls Try.prog 19 #[ptr g] w fun e w' => e = .returned (.bool (!bad)) ∧ w = w' := by
  have hc1 := h.1.cell 1
  clear h
  simp at hc1
  go_enter Try.func19, Try.ntmps19
  go_wp2
  go_ret
  exact ⟨rfl, rfl⟩

theorem left_any (g : Nat) (l : List UInt8) (bad : Bool) (w : World) (h : Src w g l bad) :
    Calls Try.prog 20 #[ptr g] w fun e w' => e = .returned (.int .i64 l.length) ∧ w = w' := by
  have hc1 := h.1.cell 0
  have hs : ByteArray.size ⟨l.toArray⟩ = l.length := by simp [ByteArray.size]
  clear h
  simp at hc1
  go_enter Try.func20, Try.ntmps20
  go_wp2
  go_ret
  exact ⟨rfl, rfl⟩

theorem end_any (g : Nat) (l : List UInt8) (bad : Bool) (w : World) (h : Src w g l bad) :
    Calls Try.prog 21 #[ptr g] w fun e w' => e = .returned (.bool (!bad && l.isEmpty)) ∧ w = w' := by
  have h0 := ok_any g l bad w h
  have h1 := left_any g l bad w h
  cases bad
  · go_enter Try.func21, Try.ntmps21
    go_wp2_with fail
    refine h0.mono ?_
    rintro e w' ⟨rfl, rfl⟩
    go_wp2_with fail
    refine h1.mono ?_
    rintro e w' ⟨rfl, rfl⟩
    go_wp2
    go_ret
    refine ⟨?_, rfl⟩
    cases l <;> simp <;> omega
  · go_enter Try.func21, Try.ntmps21
    go_wp2_with fail
    refine h0.mono ?_
    rintro e w' ⟨rfl, rfl⟩
    go_wp2
    go_ret
    exact ⟨rfl, rfl⟩

theorem fail_any (g : Nat) (l : List UInt8) (bad : Bool) (w : World) (h : Src w g l bad) :
    Calls Try.prog 35 #[ptr g] w fun e w' => e = .returned (.tuple #[]) ∧ Src w' g [] true ∧ Fr (One g) w w' := by
  have hc0 := h.1.cell 0
  have hc1 := h.1.cell 1
  have hf0 := h.1.frozen 0
  have hf1 := h.1.frozen 1
  have HB := Lib.hid h.1
  clear h
  simp at hc0 hc1
  go_enter Try.func35, Try.ntmps35
  go_wp2
  go_end0
  refine ⟨rfl, ⟨?_, fun _ => rfl⟩, ((Fr.refl _ _).set1 _ _).set1 _ _⟩
  exact (HB.out.set 0 _).set 1 _

theorem failnil (w : World) : Calls Try.prog 35 #[.pointer none] w fun e w' => e = .returned (.tuple #[]) ∧ w = w' := by
  go_enter Try.func35, Try.ntmps35
  go_wp2
  go_end0
  exact ⟨rfl, rfl⟩

theorem slice_from (l : List UInt8) (k : Nat) (hk : k ≤ l.length) : (⟨l.toArray⟩ : ByteArray).extract k l.length = ⟨(l.drop k).toArray⟩ := by
  apply ByteArray.ext
  simp
  exact List.take_of_length_le (by simp)
theorem slice_to (l : List UInt8) (k : Nat) : (⟨l.toArray⟩ : ByteArray).extract 0 k = ⟨(l.take k).toArray⟩ := by
  apply ByteArray.ext
  simp

set_option maxHeartbeats 400000 in
theorem num_any (g : Nat) (l : List UInt8) (bad : Bool) (w : World) (h : Src w g l bad) :
    Calls Try.prog 56 #[ptr g] w fun e w' => e = .returned (.int .u64 (fstN l)) ∧ Src w' g (rest l) (fell l) ∧ Fr (One g) w w' := by
  have h0 := ok_any g l bad w h
  cases bad
  · have hc0 := h.1.cell 0
    have hf0 := h.1.frozen 0
    simp at hc0
    have HB := Lib.hid h.1
    cases hr : rd 0 0 l with
    | none =>
      have HN := Lib.hid (rest_none hr)
      have hz := (rest_none hr).2.2.2
      clear hr
      go_enter Try.func56, Try.ntmps56
      go_wp2_with fail
      refine h0.mono ?_
      rintro e w' ⟨rfl, rfl⟩
      go_wp2_with fail
      refine (first_any l w).mono ?_
      rintro e w' ⟨rfl, rfl⟩
      go_wp2_with fail
      refine (fail_any g l false w h).mono ?_
      rintro e w' ⟨rfl, hs, hf⟩
      go_wp2
      go_ret
      refine ⟨by rw [HN.out.2.2.1]; rfl, by rw [HN.out.1, HN.out.2.1]; exact hs, hf⟩
    | some p =>
      obtain ⟨n, r⟩ := p
      have HN := Lib.hid (rest_some hr)
      have hlen := rd_len (by omega) hr
      have HI := Lib.hid (rd_is hr)
      have hz : fstS l ≤ l.length := by rw [(rest_some hr).2.2.2]; omega
      have hz0 : 0 < fstS l := by rw [(rest_some hr).2.2.2]; omega
      have hs : ByteArray.size ⟨l.toArray⟩ = l.length := by simp [ByteArray.size]
      have hsl := slice_from l (fstS l) hz
      clear hr hlen
      go_enter Try.func56, Try.ntmps56
      go_wp2_with fail
      refine h0.mono ?_
      rintro e w' ⟨rfl, rfl⟩
      go_wp2_with fail
      refine (first_any l w).mono ?_
      rintro e w' ⟨rfl, rfl⟩
      go_wp2
      go_ret
      refine ⟨rfl, ⟨?_, fun h => ?_⟩, (Fr.refl _ _).set1 _ _⟩
      · have hd : l.drop (fstS l) = rest l := by
          rw [HN.out.1, HN.out.2.2.2]
          conv => lhs; rw [HI.out]
          rw [List.length_append, Nat.add_sub_cancel, List.drop_left]
        rw [HN.out.2.1, ← hd]
        exact HB.out.set 0 _
      · rw [HN.out.2.1] at h; cases h
  · obtain rfl : l = [] := h.2 rfl
    go_enter Try.func56, Try.ntmps56
    go_wp2_with fail
    refine h0.mono ?_
    rintro e w' ⟨rfl, rfl⟩
    go_wp2
    go_ret
    exact ⟨rfl, h, Fr.refl _ _⟩

end Go.Proofs.Ytkmgplgokhjmjaa
