/-
  Layer 9: cells become any and come back.
-/
import Derived.Test.YtkmgplgokhjmjaaCellW
namespace Go.Proofs.Ytkmgplgokhjmjaa
set_option linter.unusedVariables false
set_option linter.unusedSimpArgs false
set_option maxRecDepth 100000
open Go.RowKit

/-! ### Assertions -/
theorem as_int_int (W : World) (v : Value) : (Instr.typeAssert (.iface 2 v) 20 2 true).run Try.prog W = .ok (.tuple #[v, .bool true]) W := by kernel_rfl
theorem as_bool_int (W : World) (v : Value) : (Instr.typeAssert (.iface 4 v) 20 2 true).run Try.prog W = .ok (.tuple #[.int .i64 0, .bool false]) W := by kernel_rfl
theorem as_str_int (W : World) (v : Value) : (Instr.typeAssert (.iface 9 v) 20 2 true).run Try.prog W = .ok (.tuple #[.int .i64 0, .bool false]) W := by kernel_rfl
theorem as_sl_int (W : World) (v : Value) : (Instr.typeAssert (.iface 30 v) 20 2 true).run Try.prog W = .ok (.tuple #[.int .i64 0, .bool false]) W := by kernel_rfl
theorem as_bool_bool (W : World) (v : Value) : (Instr.typeAssert (.iface 4 v) 20 4 true).run Try.prog W = .ok (.tuple #[v, .bool true]) W := by kernel_rfl
theorem as_str_bool (W : World) (v : Value) : (Instr.typeAssert (.iface 9 v) 20 4 true).run Try.prog W = .ok (.tuple #[.bool false, .bool false]) W := by kernel_rfl
theorem as_sl_bool (W : World) (v : Value) : (Instr.typeAssert (.iface 30 v) 20 4 true).run Try.prog W = .ok (.tuple #[.bool false, .bool false]) W := by kernel_rfl
theorem as_str_str (W : World) (v : Value) : (Instr.typeAssert (.iface 9 v) 20 9 true).run Try.prog W = .ok (.tuple #[v, .bool true]) W := by kernel_rfl
theorem as_sl_str (W : World) (v : Value) : (Instr.typeAssert (.iface 30 v) 20 9 true).run Try.prog W = .ok (.tuple #[.string ⟨#[]⟩, .bool false]) W := by kernel_rfl
theorem is_int (W : World) (v : Value) : (Instr.typeAssert (.iface 2 v) 20 2 false).run Try.prog W = .ok v W := by kernel_rfl
theorem is_bool (W : World) (v : Value) : (Instr.typeAssert (.iface 4 v) 20 4 false).run Try.prog W = .ok v W := by kernel_rfl
theorem is_str (W : World) (v : Value) : (Instr.typeAssert (.iface 9 v) 20 9 false).run Try.prog W = .ok v W := by kernel_rfl
theorem not_nil (W : World) (u : TypeId) (v : Value) : (binOp .eql 20 (.iface u v) .nilIface).run Try.prog W = .ok (.bool false) W := by kernel_rfl
theorem nil_nil (W : World) : (binOp .eql 20 .nilIface .nilIface).run Try.prog W = .ok (.bool true) W := by kernel_rfl

/-! ### Int, Bool, Text of what they are -/
theorem number_any (i : Int) (w : World) : Calls Try.prog 41 #[.iface 2 (.int .i64 i)] w fun e w' => e = .returned (.int .i64 i) ∧ w = w' := by
  have h := fun W => is_int W (.int .i64 i)
  go_enter Try.func41, Try.ntmps41
  go_wp2
  go_ret
  exact ⟨rfl, rfl⟩
theorem truth_any (b : Bool) (w : World) : Calls Try.prog 42 #[.iface 4 (.bool b)] w fun e w' => e = .returned (.bool b) ∧ w = w' := by
  have h := fun W => is_bool W (.bool b)
  go_enter Try.func42, Try.ntmps42
  go_wp2
  go_ret
  exact ⟨rfl, rfl⟩
theorem texta_any (t : Tx) (w : World) : Calls Try.prog 43 #[.iface 9 (.string ⟨t.toArray⟩)] w fun e w' => e = .returned (.string ⟨t.toArray⟩) ∧ w = w' := by
  have h := fun W => is_str W (.string ⟨t.toArray⟩)
  go_enter Try.func43, Try.ntmps43
  go_wp2
  go_ret
  exact ⟨rfl, rfl⟩
theorem cint_any (i : Int) (w : World) : Calls Try.prog 24 #[.iface 2 (.int .i64 i)] w fun e w' => e = .returned (.int .i64 i) ∧ w = w' := by
  go_enter Try.func24, Try.ntmps24
  go_wp2_with fail
  refine (number_any i w).mono ?_
  rintro e w1 ⟨rfl, rfl⟩
  go_wp2
  go_ret
  exact ⟨rfl, rfl⟩
theorem cbool_any (b : Bool) (w : World) : Calls Try.prog 25 #[.iface 4 (.bool b)] w fun e w' => e = .returned (.bool b) ∧ w = w' := by
  go_enter Try.func25, Try.ntmps25
  go_wp2_with fail
  refine (truth_any b w).mono ?_
  rintro e w1 ⟨rfl, rfl⟩
  go_wp2
  go_ret
  exact ⟨rfl, rfl⟩
theorem ctext_any (t : Tx) (w : World) : Calls Try.prog 26 #[.iface 9 (.string ⟨t.toArray⟩)] w fun e w' => e = .returned (.string ⟨t.toArray⟩) ∧ w = w' := by
  go_enter Try.func26, Try.ntmps26
  go_wp2_with fail
  refine (texta_any t w).mono ?_
  rintro e w1 ⟨rfl, rfl⟩
  go_wp2
  go_ret
  exact ⟨rfl, rfl⟩

/-! ### From -/
/-- what any is -/
inductive An where
  | nil
  | int (i : Int)
  | bool (b : Bool)
  | text (t : List UInt8)
  | bytes (v : Value)
def anV : An → Value
  | .nil => .nilIface
  | .int i => .iface 2 (.int .i64 i)
  | .bool b => .iface 4 (.bool b)
  | .text t => .iface 9 (.string ⟨t.toArray⟩)
  | .bytes v => .iface 30 v
def bitI (b : Bool) : Int := if b then 1 else 0
def anC : An → Cl × Int
  | .nil => (⟨true, 0, []⟩, 0)
  | .int i => (⟨false, i, []⟩, 1)
  | .bool b => (⟨false, bitI b, []⟩, 2)
  | .text t => (⟨false, 0, t⟩, 3)
  | .bytes _ => (⟨false, 0, []⟩, -1)

theorem cbit_any (b : Bool) (w : World) : Calls Try.prog 54 #[.bool b] w fun e w' => e = .returned (.int .i64 (bitI b)) ∧ w = w' := by
  cases b
  all_goals
    go_enter Try.func54, Try.ntmps54
    go_wp2
    go_ret
    exact ⟨rfl, rfl⟩

set_option maxHeartbeats 1000000 in
theorem filled_any (a : An) (w : World) (ha : a ≠ .nil) : Calls Try.prog 40 #[anV a] w fun e w' => e = .returned (.tuple #[clV (anC a).1, .int .i64 (anC a).2]) ∧ Fr Non w w' := by
  cases a with
  | nil => exact absurd rfl ha
  | int i =>
    have h1 := fun W => as_int_int W (.int .i64 i)
    show Calls Try.prog 40 #[.iface 2 (.int .i64 i)] w _
    go_enter Try.func40, Try.ntmps40
    go_wp2
    exact bodyPost_ret (ret_cl2 (p := 2) (u := 3) rfl _ _ w.heap.size ⟨false, i, []⟩ _ rfl rfl (cl_new w ⟨false, i, []⟩)) rfl ⟨rfl, (Fr.refl _ _).alloc _⟩
  | bool b =>
    have h1 := fun W => as_bool_int W (.bool b)
    have h2 := fun W => as_bool_bool W (.bool b)
    show Calls Try.prog 40 #[.iface 4 (.bool b)] w _
    go_enter Try.func40, Try.ntmps40
    go_wp2_with fail
    refine (cbit_any b _).mono ?_
    rintro e w1 ⟨rfl, rfl⟩
    go_wp2
    exact bodyPost_ret (ret_cl2 (p := 2) (u := 3) rfl _ _ w.heap.size ⟨false, bitI b, []⟩ _ rfl rfl (cl_new w ⟨false, bitI b, []⟩)) rfl ⟨rfl, (Fr.refl _ _).alloc _⟩
  | text t =>
    have h1 := fun W => as_str_int W (.string ⟨t.toArray⟩)
    have h2 := fun W => as_str_bool W (.string ⟨t.toArray⟩)
    have h3 := fun W => as_str_str W (.string ⟨t.toArray⟩)
    show Calls Try.prog 40 #[.iface 9 (.string ⟨t.toArray⟩)] w _
    go_enter Try.func40, Try.ntmps40
    go_wp2
    exact bodyPost_ret (ret_cl2 (p := 2) (u := 3) rfl _ _ w.heap.size ⟨false, 0, t⟩ _ rfl rfl (cl_new w ⟨false, 0, t⟩)) rfl ⟨rfl, (Fr.refl _ _).alloc _⟩
  | bytes v =>
    have h1 := fun W => as_sl_int W v
    have h2 := fun W => as_sl_bool W v
    have h3 := fun W => as_sl_str W v
    show Calls Try.prog 40 #[.iface 30 v] w _
    go_enter Try.func40, Try.ntmps40
    go_wp2
    exact bodyPost_ret (ret_cl2 (p := 2) (u := 3) rfl _ _ w.heap.size ⟨false, 0, []⟩ _ rfl rfl (cl_new w ⟨false, 0, []⟩)) rfl ⟨rfl, (Fr.refl _ _).alloc _⟩

set_option maxHeartbeats 1000000 in
theorem afrom_any (a : An) (w : World) : Calls Try.prog 22 #[anV a] w fun e w' => e = .returned (.tuple #[clV (anC a).1, .int .i64 (anC a).2]) ∧ Fr Non w w' := by
  cases ha : a with
  | nil =>
    have h1 := nil_nil
    show Calls Try.prog 22 #[.nilIface] w _
    go_enter Try.func22, Try.ntmps22
    go_wp2
    exact bodyPost_ret (ret_cl2 (p := 2) (u := 3) rfl _ _ w.heap.size ⟨true, 0, []⟩ _ rfl rfl (cl_new w ⟨true, 0, []⟩)) rfl ⟨rfl, (Fr.refl _ _).alloc _⟩
  | _ =>
    rw [← ha]
    obtain ⟨u, v, hv⟩ : ∃ u v, anV a = .iface u v := by subst ha; exact ⟨_, _, rfl⟩
    have h1 := fun W => not_nil W u v
    have hB0 := cl_new w ⟨false, 0, []⟩
    have f0 : Fr Non w (w.alloc (.cells #[.bool false, .int .i64 0, .string ⟨([] : List UInt8).toArray⟩] 23)) := (Fr.refl _ _).alloc _
    have h2 := fun W => filled_any a W (by rw [ha]; simp)
    generalize hc : (anC a).1 = c at *
    generalize hk : (anC a).2 = k at *
    obtain ⟨n, i, t⟩ := c
    unfold clV clC at h2
    rw [hv] at h2 ⊢
    clear ha hc hk hv
    dsimp only at h2
    go_enter Try.func22, Try.ntmps22
    go_wp2_with fail
    refine (h2 _).mono ?_
    rintro e w1 ⟨rfl, f1⟩
    have hB1 : ClB w1 w.heap.size _ := hB0.fr f1 (fun e => e)
    obtain ⟨c0, c1, c2, z0, z1, z2⟩ := hB1.facts
    dsimp only at c0 c1 c2
    have HB := Lib.hid hB1
    have HF := Lib.hid (f0.trans f1)
    clear hB1 hB0 f0 f1 h2
    go_wp2
    exact bodyPost_ret (ret_cl2 (p := 2) (u := 3) rfl _ _ w.heap.size ⟨n, i, t⟩ _ rfl rfl (setCl_B HB.out n i t)) rfl ⟨rfl, HF.out.fresh (setCl_fr _ _ _ _ _) (fun k e => by have : k = w.heap.size := e; omega)⟩

/-! ### To -/
def toA (ty : Int) (c : Cl) : An := if c.null then .nil else if ty = 1 then .int c.num else if ty = 2 then .bool (c.num != 0) else if ty = 3 then .text c.txt else .nil
set_option maxHeartbeats 1000000 in
theorem ato_any (ty : Int) (c : Cl) (w : World) : Calls Try.prog 23 #[.int .i64 ty, clV c] w fun e w' => e = .returned (anV (toA ty c)) ∧ Fr Non w w' := by
  obtain ⟨n, i, t⟩ := c
  unfold clV clC
  cases n
  · by_cases h1 : ty = 1
    · subst h1
      go_enter Try.func23, Try.ntmps23
      go_wp2
      go_ret
      exact ⟨rfl, (Fr.refl _ _).alloc _⟩
    · by_cases h2 : ty = 2
      · subst h2
        generalize hb : (i != 0) = b
        have HA : Hid (toA 2 ⟨false, i, t⟩ = .bool b) := Lib.hid (by rw [← hb]; rfl)
        go_enter Try.func23, Try.ntmps23
        go_wp2
        go_ret
        exact ⟨by rw [HA.out]; rfl, (Fr.refl _ _).alloc _⟩
      · by_cases h3 : ty = 3
        · subst h3
          go_enter Try.func23, Try.ntmps23
          go_wp2
          go_ret
          exact ⟨rfl, (Fr.refl _ _).alloc _⟩
        · have HA : Hid (toA ty ⟨false, i, t⟩ = .nil) := Lib.hid (by simp [toA, h1, h2, h3])
          go_enter Try.func23, Try.ntmps23
          go_wp2
          go_ret
          exact ⟨by rw [HA.out]; rfl, (Fr.refl _ _).alloc _⟩
  · go_enter Try.func23, Try.ntmps23
    go_wp2
    go_ret
    exact ⟨rfl, (Fr.refl _ _).alloc _⟩
end Go.Proofs.Ytkmgplgokhjmjaa
