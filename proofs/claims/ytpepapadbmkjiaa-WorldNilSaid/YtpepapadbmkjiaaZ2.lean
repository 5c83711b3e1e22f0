/-
  Joined: WldP9, WldU, WldL1, WldL2, WldN
-/
import Derived.Deep.Slices
import Derived.Lib.Zigzag
import Derived.Deep.QuietTactic
import Derived.BigQuiet
import Derived.Deep.RegionHeld3
import Derived.Deep.DrawnRows
import Derived.Shelf.Strings.Prefix
import Derived.Shelf.Sort.Plain
import Derived.Test.YtpepapadbmkjiaaProg
import Derived.Deep.Cut
import Derived.Maps.RangeWalk
import Derived.StillTail
import Derived.Laws.StructEq
import Derived.Laws.Rows
import Derived.Laws.ResultCell
import Derived.ArgAppend
import Derived.Deep.DeepAppendRoom
import Derived.BigFrame
import Derived.Lib.SmallJoins
import Derived.ProofKit
import Derived.OpenShut
import Derived.Test.YtpepapadbmkjiaaZ1
import Derived.Lib.SlBytesConst
set_option linter.unusedVariables false
set_option linter.unusedSimpArgs false
set_option maxRecDepth 100000
namespace Go.Proofs.Ytpepapadbmkjiaa
open Go.RowKit
def getR (s : Wst) (x : Tx) (o k : Int) : Int × List UInt8 × Wst := (getN s x o k, getB s x o k, getS s x o k)
theorem getB_none {s : Wst} {x : Tx} {o k : Int} (h : getN s x o k ≠ 0) : getB s x o k = [] := by unfold getB; rw [if_neg h]
theorem get_bad {s : Wst} {x : Tx} {o k : Int} (h : nm24 x = false ∨ o < 0 ∨ k < -1) : getR s x o k = (1, [], s) := by
  have h1 : getN s x o k = 1 := by unfold getN; rw [if_pos h]
  have h2 : getS s x o k = s := by unfold getS; rw [if_pos h]
  unfold getR; rw [getB_none (by rw [h1]; decide), h1, h2]
theorem get_dead {s : Wst} {x : Tx} {o k : Int} (h : ¬(nm24 x = false ∨ o < 0 ∨ k < -1)) (hd : s.dead = true) : getR s x o k = (8, [], s) := by
  have h1 : getN s x o k = 8 := by unfold getN; rw [if_neg h, if_pos hd]
  have h2 : getS s x o k = s := by unfold getS; rw [if_neg h, if_pos hd]
  unfold getR; rw [getB_none (by rw [h1]; decide), h1, h2]
theorem getS_ok {s : Wst} {x : Tx} {o k : Int} (h : ¬(nm24 x = false ∨ o < 0 ∨ k < -1)) (hd : s.dead = false) : getS s x o k = faultS (stepS s).2 := by
  unfold getS; rw [if_neg h, if_neg (by simp [hd])]
theorem next_zero {s : Wst} : nextF s.fl = 0 ↔ ¬(s.fl.headD 0 = 1 ∨ s.fl.headD 0 = 2) := by
  unfold nextF
  cases e : s.fl with
  | nil => simp
  | cons a r =>
    simp only [List.headD_cons]
    by_cases h : a = 1 ∨ a = 2
    · rw [if_pos h]
      exact ⟨fun e => by omega, fun e => absurd h e⟩
    · rw [if_neg h]
      exact ⟨fun _ => h, fun _ => rfl⟩
theorem get_away {s : Wst} {x : Tx} {o k : Int} (h : ¬(nm24 x = false ∨ o < 0 ∨ k < -1)) (hd : s.dead = false) (hf : s.fl.headD 0 = 1 ∨ s.fl.headD 0 = 2) : getR s x o k = (11, [], faultS (stepS s).2) := by
  have h1 : getN s x o k = 11 := by unfold getN; rw [if_neg h, if_neg (by simp [hd]), if_pos (fun e => (next_zero.1 e) hf)]
  unfold getR; rw [getB_none (by rw [h1]; decide), h1, getS_ok h hd]
theorem get_none {s : Wst} {x : Tx} {o k : Int} (h : ¬(nm24 x = false ∨ o < 0 ∨ k < -1)) (hd : s.dead = false) (hf : ¬(s.fl.headD 0 = 1 ∨ s.fl.headD 0 = 2)) (hx : ¬ x ∈ s.ks) : getR s x o k = (5, [], faultS (stepS s).2) := by
  have h1 : getN s x o k = 5 := by unfold getN; rw [if_neg h, if_neg (by simp [hd]), if_neg (fun e => e (next_zero.2 hf)), if_neg hx]
  unfold getR; rw [getB_none (by rw [h1]; decide), h1, getS_ok h hd]
theorem get_far {s : Wst} {x : Tx} {o k : Int} (h : ¬(nm24 x = false ∨ o < 0 ∨ k < -1)) (hd : s.dead = false) (hf : ¬(s.fl.headD 0 = 1 ∨ s.fl.headD 0 = 2)) (hx : x ∈ s.ks) (ho : ((s.ob x).length : Int) < o ∨ ((s.ob x).length : Int) - o < k) : getR s x o k = (1, [], faultS (stepS s).2) := by
  have h1 : getN s x o k = 1 := by unfold getN; rw [if_neg h, if_neg (by simp [hd]), if_neg (fun e => e (next_zero.2 hf)), if_pos hx, if_pos ho]
  unfold getR; rw [getB_none (by rw [h1]; decide), h1, getS_ok h hd]
theorem get_did {s : Wst} {x : Tx} {o k : Int} (h : ¬(nm24 x = false ∨ o < 0 ∨ k < -1)) (hd : s.dead = false) (hf : ¬(s.fl.headD 0 = 1 ∨ s.fl.headD 0 = 2)) (hx : x ∈ s.ks) (ho : ¬(((s.ob x).length : Int) < o ∨ ((s.ob x).length : Int) - o < k)) :
    getR s x o k = (0, ((s.ob x).drop o.toNat).take (if k = -1 then (s.ob x).length else k.toNat), faultS (stepS s).2) := by
  have h1 : getN s x o k = 0 := by unfold getN; rw [if_neg h, if_neg (by simp [hd]), if_neg (fun e => e (next_zero.2 hf)), if_pos hx, if_neg ho]
  have h2 : getB s x o k = ((s.ob x).drop o.toNat).take (if k = -1 then (s.ob x).length else k.toNat) := by unfold getB; rw [if_pos h1]
  unfold getR; rw [h2, h1, getS_ok h hd]
def GotS (av : Nat → Prop) (n : Nat) (w : World) (g : Nat) (R : Int × List UInt8 × Wst) (e : Ending) (w' : World) : Prop :=
  (∃ u, e = .returned (.tuple #[u, .int .i64 R.1]) ∧ Bs w' u R.2.1 ∧ ∀ q, u.ownBlock = some q → ¬ av q) ∧ PW av n w' g R.2.2 ∧ Fr (fun k => ¬ av k) w w'
def GotEnd (av : Nat → Prop) (n g b4 : Nat) (w : World) (s : Wst) (r : Int × List UInt8) (z : Int) (w' : World) : Prop :=
  z = r.1 ∧ PW av n w' g s ∧ Fr (One b4) w w' ∧ ∃ u, w'.cell? ⟨b4, 0, none⟩ = some u ∧ Own w' w.heap.size u r.2
set_option maxHeartbeats 4000000 in
theorem pwdoget_any {av : Nat → Prop} {n : Nat} {w : World} {g : Nat} {s : Wst} (p : PW av n w g s) (x : Tx) (hx : x.length ≤ 1000000000) (o k : Int) (ho : 0 ≤ o ∧ o ≤ 9223372036854775807) (hk : -1 ≤ k ∧ k ≤ 9223372036854775807) (B0 B1 B2 B3 B4 : Nat) (a4 : av B4)
    (h0 : w.cell? ⟨B0, 0, none⟩ = some (ptr g)) (h1 : w.cell? ⟨B1, 0, none⟩ = some (.string ⟨x.toArray⟩)) (h2 : w.cell? ⟨B2, 0, none⟩ = some (.int .i64 o)) (h3 : w.cell? ⟨B3, 0, none⟩ = some (.int .i64 k)) (h4 : Blk w B4 23 #[.slice none 0 0]) :
    Calls Try.prog 42 #[ptr B0, ptr B1, ptr B2, ptr B3, ptr B4] w fun e w' => ∃ z, e = .returned (.int .i64 z) ∧ GotEnd av n g B4 w s (partS s x o k) z w' := by
  have HC := Lib.hid (pwpart_any p x hx o k ho hk)
  have HP := Lib.hid p
  have H4 := Lib.hid h4
  have l4 := h4.lt
  have hng : B4 ≠ g := fun e => p.ng (by rw [← e]; exact a4)
  obtain ⟨⟨r, y⟩, hr⟩ : ∃ r, partS s x o k = r := ⟨_, rfl⟩
  rw [hr] at HC ⊢
  clear p h4 hr
  go_enter Try.func42, Try.ntmps42
  go_wp2_with fail
  refine HC.out.mono ?_
  rintro e w1 ⟨u, rfl, O1, F1⟩
  obtain ⟨Au, cu, rfl⟩ := O1.bs.shape
  have BB := H4.out.fr F1 (fun e => e)
  have c4 : w1.cell? ⟨B4, 0, none⟩ = some (.slice none 0 0) := BB.cell 0
  have z4 : w1.frozen? ⟨B4, 0, none⟩ = false := BB.frozen 0
  have l41 := BB.lt
  have F2 : Fr (One B4) w1 (w1.setCell ⟨B4, 0, none⟩ (.slice Au y.length cu)) := (Fr.refl _ _).set1 0 _
  have HE : Hid (GotEnd av n g B4 w s (r, y) r (w1.setCell ⟨B4, 0, none⟩ (.slice Au y.length cu))) := Lib.hid ⟨rfl, (HP.out.keep F1 (fun k h => h.elim)).keep F2 (fun k h => Or.inl (by rw [show k = B4 from h]; exact a4)), (Fr.any F1).trans F2, _, (BB.set 0 _).cell 0, O1.fr F2 (fun q hq e => by have h5 := (O1.lt q hq).1; have h6 : q = B4 := e; omega)⟩
  clear O1 F1 F2 BB
  dsimp only at HE ⊢
  go_wp2
  go_ret
  exact ⟨_, rfl, HE.out⟩
theorem part_err {s : Wst} {x : Tx} {o k : Int} (h : (partS s x o k).1 ≠ 0) : (partS s x o k).2 = [] := by
  unfold partS at h ⊢
  by_cases h1 : x ∈ s.ks
  · rw [if_pos h1] at h ⊢
    by_cases h2 : farS s x o k
    · rw [if_pos h2]
    · rw [if_neg h2] at h; exact absurd rfl h
  · rw [if_neg h1]
theorem part_same {s t : Wst} {x : Tx} {o k : Int} (h1 : t.ks = s.ks) (h2 : t.ob = s.ob) : partS t x o k = partS s x o k := by
  obtain ⟨a1, a2, a3, a4, a5, a6, a7⟩ := s
  obtain ⟨b1, b2, b3, b4, b5, b6, b7⟩ := t
  dsimp only at h1 h2
  subst h1 h2
  rfl
theorem get_part {s : Wst} {x : Tx} {o k : Int} (h : ¬(nm24 x = false ∨ o < 0 ∨ k < -1)) (hd : s.dead = false) (hf : ¬(s.fl.headD 0 = 1 ∨ s.fl.headD 0 = 2)) :
    getR s x o k = ((partS s x o k).1, (partS s x o k).2, faultS (stepS s).2) := by
  by_cases h1 : x ∈ s.ks
  · by_cases h2 : farS s x o k
    · rw [get_far h hd hf h1 h2, part_far h1 h2]
    · rw [get_did h hd hf h1 h2, part_did h1 h2]
  · rw [get_none h hd hf h1, part_none h1]
theorem notS_cases {s : Wst} {ok : Bool} {z : Int} {s' : Wst} (h : notS s ok = some (z, s')) : (ok = false ∧ z = 1 ∧ s' = s) ∨ (ok = true ∧ s.dead = true ∧ z = 8 ∧ s' = s) ∨ (ok = true ∧ s.dead = false ∧ s.fl.headD 0 = 1 ∧ z = 11 ∧ s' = faultS (stepS s).2) := by
  unfold notS at h
  cases ok
  · cases h; exact Or.inl ⟨rfl, rfl, rfl⟩
  · rw [if_neg (by simp)] at h
    by_cases hd : s.dead = true
    · rw [if_pos hd] at h; cases h; exact Or.inr (Or.inl ⟨rfl, hd, rfl, rfl⟩)
    · rw [if_neg hd] at h
      by_cases hf : s.fl.headD 0 = 1
      · rw [if_pos hf] at h; cases h; exact Or.inr (Or.inr ⟨rfl, by simpa using hd, hf, rfl, rfl⟩)
      · rw [if_neg hf] at h; cases h
theorem notS_none {s : Wst} {ok : Bool} (h : notS s ok = none) : ok = true ∧ s.dead = false ∧ s.fl.headD 0 ≠ 1 := by
  unfold notS at h
  cases ok
  · cases h
  · rw [if_neg (by simp)] at h
    by_cases hd : s.dead = true
    · rw [if_pos hd] at h; cases h
    · rw [if_neg hd] at h
      by_cases hf : s.fl.headD 0 = 1
      · rw [if_pos hf] at h; cases h
      · exact ⟨rfl, by simpa using hd, hf⟩
def SG (g b : Nat) (k : Nat) : Prop := k = g ∨ k = b
def GetMid (av : Nat → Prop) (n g b4 : Nat) (w V : World) (R : Int × List UInt8 × Wst) (z : Int) (w' : World) : Prop :=
  Fr (SG g b4) V w' ∧ ((z ≠ 0 ∧ GotS av n w g R (.returned (.tuple #[.slice none 0 0, .int .i64 z])) w') ∨ (z = 0 ∧ ∃ u, w'.cell? ⟨b4, 0, none⟩ = some u ∧ GotS av n w g R (.returned (.tuple #[u, .int .i64 0])) w'))
theorem get_mid {av av' : Nat → Prop} {n g b4 : Nat} {w V w' : World} {s : Wst} {x : Tx} {o k : Int} {ok : Bool} {e : Ending} (hok : ok = true ↔ ¬(nm24 x = false ∨ o < 0 ∨ k < -1)) (hav : ∀ q, av q → av' q) (ha : ∀ q, av q → q < V.heap.size) (hg : ¬ av g) (hb : ¬ av b4) (F : Fr (fun k => ¬ av k) w V)
    (h : ReqEnd av' n g s ok V (fun r W' => ∃ W0, Fr (One g) V W0 ∧ GotEnd av' n g b4 W0 (faultS (stepS s).2) (partS (faultS (stepS s).2) x o k) r W') e w') : ∃ z, e = .returned (.int .i64 z) ∧ GetMid av n g b4 w V (getR s x o k) z w' := by
  have HS : ∀ {X X' : World}, Fr (SG g b4) X X' → Fr (fun k => ¬ av k) X X' := fun hf => hf.mono (fun q _ h => by
    rcases h with rfl | rfl
    · exact hg
    · exact hb)
  have H1 : ∀ {X X' : World}, Fr (One g) X X' → Fr (SG g b4) X X' := fun hf => hf.mono (fun q _ h => Or.inl h)
  have H4 : ∀ {X X' : World}, Fr (One b4) X X' → Fr (SG g b4) X X' := fun hf => hf.mono (fun q _ h => Or.inr h)
  have HA : ∀ {X : World} {t : Wst}, PW av' n X g t → PW av n X g t := fun p => p.avoid (fun q hq => Or.inl (hav q hq))
  rcases h with ⟨z, rfl, ⟨s', hn, hp', hf'⟩ | ⟨hn, r, ⟨W0, hfW, rfl, hp', hf', u, hu, hO⟩, rfl⟩⟩
  · refine ⟨z, rfl, H1 hf', Or.inl ?_⟩
    have hGF := F.trans (HS (H1 hf'))
    rcases notS_cases hn with ⟨h1, rfl, rfl⟩ | ⟨h1, h2, rfl, rfl⟩ | ⟨h1, h2, h3, rfl, rfl⟩
    · rw [get_bad (Classical.byContradiction (fun hc => by rw [hok.2 hc] at h1; cases h1))]
      exact ⟨by decide, ⟨_, rfl, Bs.nil_ _, fun q h => by cases h⟩, HA hp', hGF⟩
    · rw [get_dead (hok.1 h1) h2]
      exact ⟨by decide, ⟨_, rfl, Bs.nil_ _, fun q h => by cases h⟩, HA hp', hGF⟩
    · rw [get_away (hok.1 h1) h2 (Or.inl h3)]
      exact ⟨by decide, ⟨_, rfl, Bs.nil_ _, fun q h => by cases h⟩, HA hp', hGF⟩
  · obtain ⟨h1, h2, h3⟩ := notS_none hn
    have hFr := (H1 hfW).trans (H4 hf')
    have hGF := F.trans (HS hFr)
    refine ⟨_, rfl, hFr, ?_⟩
    by_cases h4 : s.fl.headD 0 = 2
    · rw [if_pos h4, get_away (hok.1 h1) h2 (Or.inr h4)]
      exact Or.inl ⟨by decide, ⟨_, rfl, Bs.nil_ _, fun q h => by cases h⟩, HA hp', hGF⟩
    · rw [if_neg h4]
      have hps : partS (faultS (stepS s).2) x o k = partS s x o k := part_same (step_ks s).1 (step_ks s).2.2
      rw [hps] at hO ⊢
      rw [get_part (hok.1 h1) h2 (fun h => h.elim h3 h4)]
      by_cases hz : (partS s x o k).1 = 0
      · refine Or.inr ⟨hz, u, hu, ⟨u, by rw [hz], hO.bs, fun q hq hqa => ?_⟩, HA hp', hGF⟩
        have h5 := (hO.lt q hq).1
        have h6 := ha q hqa
        have h7 := hfW.size
        omega
      · exact Or.inl ⟨hz, ⟨_, rfl, by rw [part_err hz]; exact Bs.nil_ _, fun q h => by cases h⟩, HA hp', hGF⟩
set_option maxHeartbeats 8000000 in
theorem pwgetR_any {av : Nat → Prop} {n : Nat} {w : World} {g : Nat} {s : Wst} (p : PW av n w g s) (hav : ∀ k, av k → k < w.heap.size) (x : Tx) (hx : x.length ≤ 1000000000) (o k : Int) (ho : -9223372036854775808 ≤ o ∧ o ≤ 9223372036854775807) (hk : -9223372036854775808 ≤ k ∧ k ≤ 9223372036854775807) :
    Calls Try.prog 14 #[ptr g, .string ⟨x.toArray⟩, .int .i64 o, .int .i64 k] w fun e w' => GotS av n w g (getR s x o k) e w' := by
  have HG := Lib.hid p.ng
  obtain ⟨bx, hbx⟩ : ∃ b, w.heap.size = b := ⟨_, rfl⟩
  obtain ⟨W, hW⟩ : ∃ W, W = (((((w.alloc (.cells #[ptr g] 25)).alloc (.cells #[.string ⟨x.toArray⟩] 9)).alloc (.cells #[.int .i64 o] 3)).alloc (.cells #[.int .i64 k] 3)).alloc (.cells #[.slice none 0 0] 23)) := ⟨_, rfl⟩
  obtain ⟨Y0, hY0⟩ : ∃ Y, Y = w.alloc (.cells #[ptr g] 25) := ⟨_, rfl⟩
  have G0 : Fr Non w Y0 := by rw [hY0]; exact (Fr.refl _ _).alloc _
  have s0 : Y0.heap.size = bx + 1 := by rw [hY0]; simp; omega
  have b0 : Blk Y0 (bx) 25 #[ptr g] := by rw [hY0, ← hbx]; exact Blk.new _ _ _
  obtain ⟨Y1, hY1⟩ : ∃ Y, Y = Y0.alloc (.cells #[.string ⟨x.toArray⟩] 9) := ⟨_, rfl⟩
  have G1 : Fr Non Y0 Y1 := by rw [hY1]; exact (Fr.refl _ _).alloc _
  have s1 : Y1.heap.size = bx + 2 := by rw [hY1]; simp; omega
  have b1 : Blk Y1 (bx + 1) 9 #[.string ⟨x.toArray⟩] := by rw [hY1, ← s0]; exact Blk.new _ _ _
  obtain ⟨Y2, hY2⟩ : ∃ Y, Y = Y1.alloc (.cells #[.int .i64 o] 3) := ⟨_, rfl⟩
  have G2 : Fr Non Y1 Y2 := by rw [hY2]; exact (Fr.refl _ _).alloc _
  have s2 : Y2.heap.size = bx + 3 := by rw [hY2]; simp; omega
  have b2 : Blk Y2 (bx + 2) 3 #[.int .i64 o] := by rw [hY2, ← s1]; exact Blk.new _ _ _
  obtain ⟨Y3, hY3⟩ : ∃ Y, Y = Y2.alloc (.cells #[.int .i64 k] 3) := ⟨_, rfl⟩
  have G3 : Fr Non Y2 Y3 := by rw [hY3]; exact (Fr.refl _ _).alloc _
  have s3 : Y3.heap.size = bx + 4 := by rw [hY3]; simp; omega
  have b3 : Blk Y3 (bx + 3) 3 #[.int .i64 k] := by rw [hY3, ← s2]; exact Blk.new _ _ _
  obtain ⟨Y4, hY4⟩ : ∃ Y, Y = Y3.alloc (.cells #[.slice none 0 0] 23) := ⟨_, rfl⟩
  have G4 : Fr Non Y3 Y4 := by rw [hY4]; exact (Fr.refl _ _).alloc _
  have s4 : Y4.heap.size = bx + 5 := by rw [hY4]; simp; omega
  have b4 : Blk Y4 (bx + 4) 23 #[.slice none 0 0] := by rw [hY4, ← s3]; exact Blk.new _ _ _
  have hWY : W = Y4 := by rw [hW, hY4, hY3, hY2, hY1, hY0]
  subst hWY
  have FW : Fr Non w W := ((((G0.trans G1).trans G2).trans G3).trans G4)
  have e0 := Lib.hid ((((b0.fr G1 (fun e => e)).fr G2 (fun e => e)).fr G3 (fun e => e)).fr G4 (fun e => e))
  have h0 : W.cell? ⟨bx, 0, none⟩ = some (ptr g) := e0.out.cell 0
  have e1 := Lib.hid (((b1.fr G2 (fun e => e)).fr G3 (fun e => e)).fr G4 (fun e => e))
  have h1 : W.cell? ⟨bx + 1, 0, none⟩ = some (.string ⟨x.toArray⟩) := e1.out.cell 0
  have e2 := Lib.hid ((b2.fr G3 (fun e => e)).fr G4 (fun e => e))
  have h2 : W.cell? ⟨bx + 2, 0, none⟩ = some (.int .i64 o) := e2.out.cell 0
  have e3 := Lib.hid (b3.fr G4 (fun e => e))
  have h3 : W.cell? ⟨bx + 3, 0, none⟩ = some (.int .i64 k) := e3.out.cell 0
  have e4 := Lib.hid b4
  have h4 : W.cell? ⟨bx + 4, 0, none⟩ = some (.slice none 0 0) := e4.out.cell 0
  have hz : W.heap.size = bx + 5 := s4
  have PW0 := Lib.hid ((p.avoid (av' := avR av bx (bx + 5)) (fun k h => h.imp id (fun h => by omega))).keep FW (fun k h => h.elim))
  have HAV : Hid (∀ k, av k → k < bx) := Lib.hid (fun k h => by have := hav k h; omega)
  have HFW : Hid (Fr (fun k => ¬ av k) w W) := Lib.hid (Fr.any FW)
  have hmf := makeFunc_run
  have HO := Lib.hid ho
  have HK := Lib.hid hk
  clear e0 e1 e2 e3 h4 hY0 G0 s0 b0 hY1 G1 s1 b1 hY2 G2 s2 b2 hY3 G3 s3 b3 hY4 G4 s4 b4 FW p hav hk
  obtain ⟨ok, HOK⟩ : ∃ ok : Bool, Hid (ok = true ↔ ¬(nm24 x = false ∨ o < 0 ∨ k < -1)) := ⟨decide (¬(nm24 x = false ∨ o < 0 ∨ k < -1)), Lib.hid (by simp)⟩
  obtain ⟨R, HR⟩ : ∃ R, Hid (getR s x o k = R) := ⟨_, Lib.hid rfl⟩
  rw [HR.out]
  cases hnm : nm24 x
  · have HNM := Lib.hid hnm
    have hokf : ok = false := by
      cases ok
      · rfl
      · exact absurd (Or.inl hnm) (HOK.out.1 rfl)
    subst hokf
    clear hnm
    go_enter Try.func14, Try.ntmps14
    go_wp2
    try rw [hbx]
    try rw [← hW]
    clear hW hbx
    obtain ⟨V, hV⟩ : ∃ V, V = W.drew := ⟨_, rfl⟩
    refine wp_region_held_drew (S := (fun W' => W'.cell? ⟨bx, 0, none⟩ = some (ptr g) ∧ W'.cell? ⟨bx + 1, 0, none⟩ = some (.string ⟨x.toArray⟩) ∧ W'.cell? ⟨bx + 2, 0, none⟩ = some (.int .i64 o) ∧ W'.cell? ⟨bx + 3, 0, none⟩ = some (.int .i64 k))) (by kernel_rfl) (by exact ⟨h0, h1, h2, h3⟩) (fun hHeld => ?_)
    rw [← hV] at hHeld ⊢
    have FV : Fr Non W V := by rw [hV]; exact (Fr.refl _ _).drew
    clear hV
    have PV := Lib.hid (PW0.out.keep FV (fun k h => h.elim))
    have HFV : Hid (Fr (fun k => ¬ av k) w V) := Lib.hid (HFW.out.trans (Fr.any FV))
    have HB4 := Lib.hid (e4.out.fr FV (fun e => e))
    have hsV : bx + 5 ≤ V.heap.size := by have := FV.size; omega
    clear FV PW0 HFW e4
    have HNG : Hid (∀ k, bx ≤ k → k < bx + 5 → k ≠ g) := Lib.hid (fun k h1 h2 e => PV.out.ng (by rw [← e]; exact Or.inr ⟨h1, h2⟩))
    replace h0 := hHeld.1
    replace h1 := hHeld.2.1
    replace h2 := hHeld.2.2.1
    replace h3 := hHeld.2.2.2
    refine wpAnyH_take (i := 0) (oi := ⟨some 12, _, _, _, _, none⟩) (v := ?v1) rfl (by kernel_rfl) (by kernel_rfl) (by kernel_rfl) (fun _ _ _ h => h) (Or.inl ⟨by rfl, ?hy1⟩) (by assumption) ?rest1
    case hy1 => (intro wS hSw; (try dsimp only at hSw); go_simp; (try with_reducible rfl))
    (try simp only [Act.put, List.setIfInBounds_toArray, List.set_cons_zero, List.set_cons_succ])
    refine wpAnyH_take (i := 1) (oi := ⟨some 13, _, _, _, _, none⟩) (v := ?v2) rfl (by kernel_rfl) (by kernel_rfl) (by kernel_rfl) (fun _ _ _ h => h) (Or.inl ⟨by rfl, ?hy2⟩) (by assumption) ?rest2
    case hy2 => (intro wS hSw; (try dsimp only at hSw); go_simp; (try with_reducible rfl))
    (try simp only [Act.put, List.setIfInBounds_toArray, List.set_cons_zero, List.set_cons_succ])
    refine wpAnyH_take (i := 11) (oi := ⟨some 23, _, _, _, _, none⟩) (v := ?v3) rfl (by kernel_rfl) (by kernel_rfl) (by kernel_rfl) (fun _ _ _ h => h) (Or.inl ⟨by rfl, ?hy3⟩) (by assumption) ?rest3
    case hy3 => (intro wS hSw; (try dsimp only at hSw); go_simp; (try with_reducible rfl))
    (try simp only [Act.put, List.setIfInBounds_toArray, List.set_cons_zero, List.set_cons_succ])
    refine wpAnyH_ready (rs := [2]) (by kernel_rfl) (by simp) ?_
    refine AllReadyH.cons (o := ⟨some 14, _, _, _, _, none⟩) rfl (fun K hK => ?_) AllReadyH.nil
    go_simp
    go_at_call 27
    refine (pwname_any x V hx).mono ?_
    rintro e w0 ⟨rfl, rfl⟩
    rw [HNM.out]
    go_wp2_with fail
    refine hK.out _ _ (by exact ⟨h0, h1, h2, h3⟩) (fun hHeld => ?_)
    clear hK K
    (try simp only [Act.put, List.setIfInBounds_toArray, List.set_cons_zero, List.set_cons_succ])
    refine wpAnyH_take (i := 3) (oi := ⟨some 15, _, _, _, _, none⟩) (v := ?v4) rfl (by kernel_rfl) (by kernel_rfl) (by kernel_rfl) (fun _ _ _ h => h) (Or.inl ⟨by rfl, ?hy4⟩) (by assumption) ?rest4
    case hy4 => (intro wS hSw; (try dsimp only at hSw); go_simp; (try with_reducible rfl))
    (try simp only [Act.put, List.setIfInBounds_toArray, List.set_cons_zero, List.set_cons_succ])
    refine wpAnyH_take (i := 4) (oi := ⟨some 16, _, _, _, _, some (3, true)⟩) (v := undef) rfl (by kernel_rfl) (by kernel_rfl) (by kernel_rfl) (fun _ _ _ h => h) (Or.inr ⟨by rfl, rfl⟩) (by assumption) ?_
    (try simp only [Act.put, List.setIfInBounds_toArray, List.set_cons_zero, List.set_cons_succ])
    refine wpAnyH_take (i := 5) (oi := ⟨some 17, _, _, _, _, some (3, true)⟩) (v := undef) rfl (by kernel_rfl) (by kernel_rfl) (by kernel_rfl) (fun _ _ _ h => h) (Or.inr ⟨by rfl, rfl⟩) (by assumption) ?_
    (try simp only [Act.put, List.setIfInBounds_toArray, List.set_cons_zero, List.set_cons_succ])
    refine wpAnyH_take (i := 6) (oi := ⟨some 18, _, _, _, _, none⟩) (v := ?v5) rfl (by kernel_rfl) (by kernel_rfl) (by kernel_rfl) (fun _ _ _ h => h) (Or.inl ⟨by rfl, ?hy5⟩) (by assumption) ?rest5
    case hy5 => (intro wS hSw; (try dsimp only at hSw); go_simp; (try with_reducible rfl))
    (try simp only [Act.put, List.setIfInBounds_toArray, List.set_cons_zero, List.set_cons_succ])
    refine wpAnyH_take (i := 7) (oi := ⟨some 19, _, _, _, _, none⟩) (v := ?v6) rfl (by kernel_rfl) (by kernel_rfl) (by kernel_rfl) (fun _ _ _ h => h) (Or.inl ⟨by rfl, ?hy6⟩) (by assumption) ?rest6
    case hy6 => (intro wS hSw; (try dsimp only at hSw); go_simp; (try with_reducible rfl))
    (try simp only [Act.put, List.setIfInBounds_toArray, List.set_cons_zero, List.set_cons_succ])
    refine wpAnyH_take (i := 8) (oi := ⟨some 20, _, _, _, _, some (7, true)⟩) (v := undef) rfl (by kernel_rfl) (by kernel_rfl) (by kernel_rfl) (fun _ _ _ h => h) (Or.inr ⟨by rfl, rfl⟩) (by assumption) ?_
    (try simp only [Act.put, List.setIfInBounds_toArray, List.set_cons_zero, List.set_cons_succ])
    refine wpAnyH_take (i := 9) (oi := ⟨some 21, _, _, _, _, some (7, true)⟩) (v := undef) rfl (by kernel_rfl) (by kernel_rfl) (by kernel_rfl) (fun _ _ _ h => h) (Or.inr ⟨by rfl, rfl⟩) (by assumption) ?_
    (try simp only [Act.put, List.setIfInBounds_toArray, List.set_cons_zero, List.set_cons_succ])
    refine wpAnyH_take (i := 10) (oi := ⟨some 22, _, _, _, _, none⟩) (v := ?v7) rfl (by kernel_rfl) (by kernel_rfl) (by kernel_rfl) (fun _ _ _ h => h) (Or.inl ⟨by rfl, ?hy7⟩) (by assumption) ?rest7
    case hy7 => (intro wS hSw; (try dsimp only at hSw); go_simp; (try with_reducible rfl))
    (try simp only [Act.put, List.setIfInBounds_toArray, List.set_cons_zero, List.set_cons_succ])
    refine wpAnyH_ready (rs := [12]) (by kernel_rfl) (by simp) ?_
    refine AllReadyH.cons (o := ⟨some 24, _, _, _, _, none⟩) rfl (fun K hK => ?_) AllReadyH.nil
    go_simp
    go_at_call 29
    refine (pwreq_any PV.out _ 42 #[ptr bx, ptr (bx + 1), ptr (bx + 2), ptr (bx + 3), ptr (bx + 4)] (fun r W' => ∃ W0, Fr (One g) V W0 ∧ GotEnd (avR av bx (bx + 5)) n g (bx + 4) W0 (faultS (stepS s).2) (partS (faultS (stepS s).2) x o k) r W') Try.call42 (fun W' hok hf hp => ?_)).mono ?_
    · have hb := HOK.out.1 hok
      have hoo := HO.out
      have hkk := HK.out
      refine (pwdoget_any hp x hx o k ⟨by omega, by omega⟩ ⟨by omega, by omega⟩ bx (bx + 1) (bx + 2) (bx + 3) (bx + 4) (Or.inr ⟨by omega, by omega⟩) ((hf.cell (p := ⟨bx, 0, none⟩) (by show _ < V.heap.size; dsimp only; omega) (HNG.out (bx) (by omega) (by omega))).trans h0) ((hf.cell (p := ⟨bx + 1, 0, none⟩) (by show _ < V.heap.size; dsimp only; omega) (HNG.out (bx + 1) (by omega) (by omega))).trans h1) ((hf.cell (p := ⟨bx + 2, 0, none⟩) (by show _ < V.heap.size; dsimp only; omega) (HNG.out (bx + 2) (by omega) (by omega))).trans h2) ((hf.cell (p := ⟨bx + 3, 0, none⟩) (by show _ < V.heap.size; dsimp only; omega) (HNG.out (bx + 3) (by omega) (by omega))).trans h3) (HB4.out.fr hf (fun e => HNG.out (bx + 4) (by omega) (by omega) e))).mono ?_
      rintro e w' ⟨z, rfl, hz⟩
      exact ⟨z, rfl, W', hf, hz⟩
    intro e w5 hR
    obtain ⟨z, rfl, HMX⟩ := get_mid HOK.out (fun q hq => Or.inl hq) (fun q hq => by have := HAV.out q hq; omega) HG.out (fun h => by have := HAV.out _ h; omega) HFV.out hR
    rw [HR.out] at HMX
    obtain ⟨F5, HM⟩ := HMX
    clear hR
    have HM := Lib.hid HM
    have j0 : w5.cell? ⟨bx, 0, none⟩ = some (ptr g) := (F5.cell (p := ⟨bx, 0, none⟩) (by show _ < V.heap.size; dsimp only; omega) (fun h => h.elim (HNG.out (bx) (by omega) (by omega)) (fun h => by have h : bx = bx + 4 := h; omega))).trans h0
    have j1 : w5.cell? ⟨bx + 1, 0, none⟩ = some (.string ⟨x.toArray⟩) := (F5.cell (p := ⟨bx + 1, 0, none⟩) (by show _ < V.heap.size; dsimp only; omega) (fun h => h.elim (HNG.out (bx + 1) (by omega) (by omega)) (fun h => by have h : bx + 1 = bx + 4 := h; omega))).trans h1
    have j2 : w5.cell? ⟨bx + 2, 0, none⟩ = some (.int .i64 o) := (F5.cell (p := ⟨bx + 2, 0, none⟩) (by show _ < V.heap.size; dsimp only; omega) (fun h => h.elim (HNG.out (bx + 2) (by omega) (by omega)) (fun h => by have h : bx + 2 = bx + 4 := h; omega))).trans h2
    have j3 : w5.cell? ⟨bx + 3, 0, none⟩ = some (.int .i64 k) := (F5.cell (p := ⟨bx + 3, 0, none⟩) (by show _ < V.heap.size; dsimp only; omega) (fun h => h.elim (HNG.out (bx + 3) (by omega) (by omega)) (fun h => by have h : bx + 3 = bx + 4 := h; omega))).trans h3
    clear F5
    go_wp2_with fail
    refine hK.out _ _ (by exact ⟨j0, j1, j2, j3⟩) (fun hHeld => ?_)
    clear hK K
    (try simp only [Act.put, List.setIfInBounds_toArray, List.set_cons_zero, List.set_cons_succ])
    refine wpAnyH_take (i := 13) (oi := ⟨some 11, _, _, _, _, none⟩) (v := ?v8) rfl (by kernel_rfl) (by kernel_rfl) (by kernel_rfl) (fun _ _ _ h => h) (Or.inl ⟨by rfl, ?hy8⟩) (by assumption) ?rest8
    case hy8 => (intro wS hSw; (try dsimp only at hSw); go_simp; (try with_reducible rfl))
    (try simp only [Act.put, List.setIfInBounds_toArray, List.set_cons_zero, List.set_cons_succ])
    refine wpAnyH_done (by kernel_rfl) ?_ _
    clear hHeld j0 j1 j2 j3 h0 h1 h2 h3
    rcases HM.out with ⟨hz, HE⟩ | ⟨rfl, u, hu, HE⟩
    · have z1 : (z == 0) = false := by rw [beq_eq_false_iff_ne]; exact hz
      have z2 : (z != 0) = true := by rw [bne, z1]; rfl
      have HE := Lib.hid HE
      clear hz HM
      go_wp2
      go_ret2
      exact HE.out
    · have HE := Lib.hid HE
      clear HM
      go_wp2
      go_ret2
      exact HE.out
  · have HNM := Lib.hid hnm
    by_cases ho0 : 0 ≤ o
    · have d2 : decide (0 ≤ o) = true := decide_eq_true ho0
      have d3 : decide (-1 ≤ k) = ok := by
        rw [Bool.eq_iff_iff, decide_eq_true_eq, HOK.out, hnm]
        constructor
        · rintro h (h1 | h1 | h1)
          · cases h1
          · omega
          · omega
        · intro h
          have h1 : ¬ k < -1 := fun e => h (Or.inr (Or.inr e))
          omega
      clear hnm ho ho0
      go_enter Try.func14, Try.ntmps14
      go_wp2
      try rw [hbx]
      try rw [← hW]
      clear hW hbx
      obtain ⟨V, hV⟩ : ∃ V, V = W.drew := ⟨_, rfl⟩
      refine wp_region_held_drew (S := (fun W' => W'.cell? ⟨bx, 0, none⟩ = some (ptr g) ∧ W'.cell? ⟨bx + 1, 0, none⟩ = some (.string ⟨x.toArray⟩) ∧ W'.cell? ⟨bx + 2, 0, none⟩ = some (.int .i64 o) ∧ W'.cell? ⟨bx + 3, 0, none⟩ = some (.int .i64 k))) (by kernel_rfl) (by exact ⟨h0, h1, h2, h3⟩) (fun hHeld => ?_)
      rw [← hV] at hHeld ⊢
      have FV : Fr Non W V := by rw [hV]; exact (Fr.refl _ _).drew
      clear hV
      have PV := Lib.hid (PW0.out.keep FV (fun k h => h.elim))
      have HFV : Hid (Fr (fun k => ¬ av k) w V) := Lib.hid (HFW.out.trans (Fr.any FV))
      have HB4 := Lib.hid (e4.out.fr FV (fun e => e))
      have hsV : bx + 5 ≤ V.heap.size := by have := FV.size; omega
      clear FV PW0 HFW e4
      have HNG : Hid (∀ k, bx ≤ k → k < bx + 5 → k ≠ g) := Lib.hid (fun k h1 h2 e => PV.out.ng (by rw [← e]; exact Or.inr ⟨h1, h2⟩))
      replace h0 := hHeld.1
      replace h1 := hHeld.2.1
      replace h2 := hHeld.2.2.1
      replace h3 := hHeld.2.2.2
      refine wpAnyH_take (i := 0) (oi := ⟨some 12, _, _, _, _, none⟩) (v := ?v9) rfl (by kernel_rfl) (by kernel_rfl) (by kernel_rfl) (fun _ _ _ h => h) (Or.inl ⟨by rfl, ?hy9⟩) (by assumption) ?rest9
      case hy9 => (intro wS hSw; (try dsimp only at hSw); go_simp; (try with_reducible rfl))
      (try simp only [Act.put, List.setIfInBounds_toArray, List.set_cons_zero, List.set_cons_succ])
      refine wpAnyH_take (i := 1) (oi := ⟨some 13, _, _, _, _, none⟩) (v := ?v10) rfl (by kernel_rfl) (by kernel_rfl) (by kernel_rfl) (fun _ _ _ h => h) (Or.inl ⟨by rfl, ?hy10⟩) (by assumption) ?rest10
      case hy10 => (intro wS hSw; (try dsimp only at hSw); go_simp; (try with_reducible rfl))
      (try simp only [Act.put, List.setIfInBounds_toArray, List.set_cons_zero, List.set_cons_succ])
      refine wpAnyH_take (i := 11) (oi := ⟨some 23, _, _, _, _, none⟩) (v := ?v11) rfl (by kernel_rfl) (by kernel_rfl) (by kernel_rfl) (fun _ _ _ h => h) (Or.inl ⟨by rfl, ?hy11⟩) (by assumption) ?rest11
      case hy11 => (intro wS hSw; (try dsimp only at hSw); go_simp; (try with_reducible rfl))
      (try simp only [Act.put, List.setIfInBounds_toArray, List.set_cons_zero, List.set_cons_succ])
      refine wpAnyH_ready (rs := [2]) (by kernel_rfl) (by simp) ?_
      refine AllReadyH.cons (o := ⟨some 14, _, _, _, _, none⟩) rfl (fun K hK => ?_) AllReadyH.nil
      go_simp
      go_at_call 27
      refine (pwname_any x V hx).mono ?_
      rintro e w0 ⟨rfl, rfl⟩
      rw [HNM.out]
      go_wp2_with fail
      refine hK.out _ _ (by exact ⟨h0, h1, h2, h3⟩) (fun hHeld => ?_)
      clear hK K
      (try simp only [Act.put, List.setIfInBounds_toArray, List.set_cons_zero, List.set_cons_succ])
      refine wpAnyH_take (i := 3) (oi := ⟨some 15, _, _, _, _, none⟩) (v := ?v12) rfl (by kernel_rfl) (by kernel_rfl) (by kernel_rfl) (fun _ _ _ h => h) (Or.inl ⟨by rfl, ?hy12⟩) (by assumption) ?rest12
      case hy12 => (intro wS hSw; (try dsimp only at hSw); go_simp; (try with_reducible rfl))
      (try simp only [Act.put, List.setIfInBounds_toArray, List.set_cons_zero, List.set_cons_succ])
      refine wpAnyH_take (i := 4) (oi := ⟨some 16, _, _, _, _, some (3, true)⟩) (v := ?v13) rfl (by kernel_rfl) (by kernel_rfl) (by kernel_rfl) (fun _ _ _ h => h) (Or.inl ⟨by rfl, ?hy13⟩) (by assumption) ?rest13
      case hy13 => (intro wS hSw; (try dsimp only at hSw); go_simp; (try with_reducible rfl))
      (try simp only [Act.put, List.setIfInBounds_toArray, List.set_cons_zero, List.set_cons_succ])
      refine wpAnyH_take (i := 5) (oi := ⟨some 17, _, _, _, _, some (3, true)⟩) (v := ?v14) rfl (by kernel_rfl) (by kernel_rfl) (by kernel_rfl) (fun _ _ _ h => h) (Or.inl ⟨by rfl, ?hy14⟩) (by assumption) ?rest14
      case hy14 => (intro wS hSw; (try dsimp only at hSw); go_simp; (try with_reducible rfl))
      (try simp only [Act.put, List.setIfInBounds_toArray, List.set_cons_zero, List.set_cons_succ])
      refine wpAnyH_take (i := 6) (oi := ⟨some 18, _, _, _, _, none⟩) (v := ?v15) rfl (by kernel_rfl) (by kernel_rfl) (by kernel_rfl) (fun _ _ _ h => h) (Or.inl ⟨by rfl, ?hy15⟩) (by assumption) ?rest15
      case hy15 => (intro wS hSw; (try dsimp only at hSw); go_simp; (try with_reducible rfl))
      (try simp only [Act.put, List.setIfInBounds_toArray, List.set_cons_zero, List.set_cons_succ])
      refine wpAnyH_take (i := 7) (oi := ⟨some 19, _, _, _, _, none⟩) (v := ?v16) rfl (by kernel_rfl) (by kernel_rfl) (by kernel_rfl) (fun _ _ _ h => h) (Or.inl ⟨by rfl, ?hy16⟩) (by assumption) ?rest16
      case hy16 => (intro wS hSw; (try dsimp only at hSw); go_simp; (try with_reducible rfl))
      (try simp only [Act.put, List.setIfInBounds_toArray, List.set_cons_zero, List.set_cons_succ])
      refine wpAnyH_take (i := 8) (oi := ⟨some 20, _, _, _, _, some (7, true)⟩) (v := ?v17) rfl (by kernel_rfl) (by kernel_rfl) (by kernel_rfl) (fun _ _ _ h => h) (Or.inl ⟨by rfl, ?hy17⟩) (by assumption) ?rest17
      case hy17 => (intro wS hSw; (try dsimp only at hSw); go_simp; (try with_reducible rfl))
      (try simp only [Act.put, List.setIfInBounds_toArray, List.set_cons_zero, List.set_cons_succ])
      refine wpAnyH_take (i := 9) (oi := ⟨some 21, _, _, _, _, some (7, true)⟩) (v := ?v18) rfl (by kernel_rfl) (by kernel_rfl) (by kernel_rfl) (fun _ _ _ h => h) (Or.inl ⟨by rfl, ?hy18⟩) (by assumption) ?rest18
      case hy18 => (intro wS hSw; (try dsimp only at hSw); go_simp; (try with_reducible rfl))
      (try simp only [Act.put, List.setIfInBounds_toArray, List.set_cons_zero, List.set_cons_succ])
      refine wpAnyH_take (i := 10) (oi := ⟨some 22, _, _, _, _, none⟩) (v := ?v19) rfl (by kernel_rfl) (by kernel_rfl) (by kernel_rfl) (fun _ _ _ h => h) (Or.inl ⟨by rfl, ?hy19⟩) (by assumption) ?rest19
      case hy19 => (intro wS hSw; (try dsimp only at hSw); go_simp; (try with_reducible rfl))
      (try simp only [Act.put, List.setIfInBounds_toArray, List.set_cons_zero, List.set_cons_succ])
      refine wpAnyH_ready (rs := [12]) (by kernel_rfl) (by simp) ?_
      refine AllReadyH.cons (o := ⟨some 24, _, _, _, _, none⟩) rfl (fun K hK => ?_) AllReadyH.nil
      go_simp
      go_at_call 29
      refine (pwreq_any PV.out _ 42 #[ptr bx, ptr (bx + 1), ptr (bx + 2), ptr (bx + 3), ptr (bx + 4)] (fun r W' => ∃ W0, Fr (One g) V W0 ∧ GotEnd (avR av bx (bx + 5)) n g (bx + 4) W0 (faultS (stepS s).2) (partS (faultS (stepS s).2) x o k) r W') Try.call42 (fun W' hok hf hp => ?_)).mono ?_
      · have hb := HOK.out.1 hok
        have hoo := HO.out
        have hkk := HK.out
        refine (pwdoget_any hp x hx o k ⟨by omega, by omega⟩ ⟨by omega, by omega⟩ bx (bx + 1) (bx + 2) (bx + 3) (bx + 4) (Or.inr ⟨by omega, by omega⟩) ((hf.cell (p := ⟨bx, 0, none⟩) (by show _ < V.heap.size; dsimp only; omega) (HNG.out (bx) (by omega) (by omega))).trans h0) ((hf.cell (p := ⟨bx + 1, 0, none⟩) (by show _ < V.heap.size; dsimp only; omega) (HNG.out (bx + 1) (by omega) (by omega))).trans h1) ((hf.cell (p := ⟨bx + 2, 0, none⟩) (by show _ < V.heap.size; dsimp only; omega) (HNG.out (bx + 2) (by omega) (by omega))).trans h2) ((hf.cell (p := ⟨bx + 3, 0, none⟩) (by show _ < V.heap.size; dsimp only; omega) (HNG.out (bx + 3) (by omega) (by omega))).trans h3) (HB4.out.fr hf (fun e => HNG.out (bx + 4) (by omega) (by omega) e))).mono ?_
        rintro e w' ⟨z, rfl, hz⟩
        exact ⟨z, rfl, W', hf, hz⟩
      intro e w5 hR
      obtain ⟨z, rfl, HMX⟩ := get_mid HOK.out (fun q hq => Or.inl hq) (fun q hq => by have := HAV.out q hq; omega) HG.out (fun h => by have := HAV.out _ h; omega) HFV.out hR
      rw [HR.out] at HMX
      obtain ⟨F5, HM⟩ := HMX
      clear hR
      have HM := Lib.hid HM
      have j0 : w5.cell? ⟨bx, 0, none⟩ = some (ptr g) := (F5.cell (p := ⟨bx, 0, none⟩) (by show _ < V.heap.size; dsimp only; omega) (fun h => h.elim (HNG.out (bx) (by omega) (by omega)) (fun h => by have h : bx = bx + 4 := h; omega))).trans h0
      have j1 : w5.cell? ⟨bx + 1, 0, none⟩ = some (.string ⟨x.toArray⟩) := (F5.cell (p := ⟨bx + 1, 0, none⟩) (by show _ < V.heap.size; dsimp only; omega) (fun h => h.elim (HNG.out (bx + 1) (by omega) (by omega)) (fun h => by have h : bx + 1 = bx + 4 := h; omega))).trans h1
      have j2 : w5.cell? ⟨bx + 2, 0, none⟩ = some (.int .i64 o) := (F5.cell (p := ⟨bx + 2, 0, none⟩) (by show _ < V.heap.size; dsimp only; omega) (fun h => h.elim (HNG.out (bx + 2) (by omega) (by omega)) (fun h => by have h : bx + 2 = bx + 4 := h; omega))).trans h2
      have j3 : w5.cell? ⟨bx + 3, 0, none⟩ = some (.int .i64 k) := (F5.cell (p := ⟨bx + 3, 0, none⟩) (by show _ < V.heap.size; dsimp only; omega) (fun h => h.elim (HNG.out (bx + 3) (by omega) (by omega)) (fun h => by have h : bx + 3 = bx + 4 := h; omega))).trans h3
      clear F5
      go_wp2_with fail
      refine hK.out _ _ (by exact ⟨j0, j1, j2, j3⟩) (fun hHeld => ?_)
      clear hK K
      (try simp only [Act.put, List.setIfInBounds_toArray, List.set_cons_zero, List.set_cons_succ])
      refine wpAnyH_take (i := 13) (oi := ⟨some 11, _, _, _, _, none⟩) (v := ?v20) rfl (by kernel_rfl) (by kernel_rfl) (by kernel_rfl) (fun _ _ _ h => h) (Or.inl ⟨by rfl, ?hy20⟩) (by assumption) ?rest20
      case hy20 => (intro wS hSw; (try dsimp only at hSw); go_simp; (try with_reducible rfl))
      (try simp only [Act.put, List.setIfInBounds_toArray, List.set_cons_zero, List.set_cons_succ])
      refine wpAnyH_done (by kernel_rfl) ?_ _
      clear hHeld j0 j1 j2 j3 h0 h1 h2 h3
      rcases HM.out with ⟨hz, HE⟩ | ⟨rfl, u, hu, HE⟩
      · have z1 : (z == 0) = false := by rw [beq_eq_false_iff_ne]; exact hz
        have z2 : (z != 0) = true := by rw [bne, z1]; rfl
        have HE := Lib.hid HE
        clear hz HM
        go_wp2
        go_ret2
        exact HE.out
      · have HE := Lib.hid HE
        clear HM
        go_wp2
        go_ret2
        exact HE.out
    · have d2 : decide (0 ≤ o) = false := decide_eq_false ho0
      have hokf : ok = false := by
        cases ok
        · rfl
        · exact absurd (Or.inr (Or.inl (by omega))) (HOK.out.1 rfl)
      subst hokf
      clear hnm ho ho0
      go_enter Try.func14, Try.ntmps14
      go_wp2
      try rw [hbx]
      try rw [← hW]
      clear hW hbx
      obtain ⟨V, hV⟩ : ∃ V, V = W.drew := ⟨_, rfl⟩
      refine wp_region_held_drew (S := (fun W' => W'.cell? ⟨bx, 0, none⟩ = some (ptr g) ∧ W'.cell? ⟨bx + 1, 0, none⟩ = some (.string ⟨x.toArray⟩) ∧ W'.cell? ⟨bx + 2, 0, none⟩ = some (.int .i64 o) ∧ W'.cell? ⟨bx + 3, 0, none⟩ = some (.int .i64 k))) (by kernel_rfl) (by exact ⟨h0, h1, h2, h3⟩) (fun hHeld => ?_)
      rw [← hV] at hHeld ⊢
      have FV : Fr Non W V := by rw [hV]; exact (Fr.refl _ _).drew
      clear hV
      have PV := Lib.hid (PW0.out.keep FV (fun k h => h.elim))
      have HFV : Hid (Fr (fun k => ¬ av k) w V) := Lib.hid (HFW.out.trans (Fr.any FV))
      have HB4 := Lib.hid (e4.out.fr FV (fun e => e))
      have hsV : bx + 5 ≤ V.heap.size := by have := FV.size; omega
      clear FV PW0 HFW e4
      have HNG : Hid (∀ k, bx ≤ k → k < bx + 5 → k ≠ g) := Lib.hid (fun k h1 h2 e => PV.out.ng (by rw [← e]; exact Or.inr ⟨h1, h2⟩))
      replace h0 := hHeld.1
      replace h1 := hHeld.2.1
      replace h2 := hHeld.2.2.1
      replace h3 := hHeld.2.2.2
      refine wpAnyH_take (i := 0) (oi := ⟨some 12, _, _, _, _, none⟩) (v := ?v21) rfl (by kernel_rfl) (by kernel_rfl) (by kernel_rfl) (fun _ _ _ h => h) (Or.inl ⟨by rfl, ?hy21⟩) (by assumption) ?rest21
      case hy21 => (intro wS hSw; (try dsimp only at hSw); go_simp; (try with_reducible rfl))
      (try simp only [Act.put, List.setIfInBounds_toArray, List.set_cons_zero, List.set_cons_succ])
      refine wpAnyH_take (i := 1) (oi := ⟨some 13, _, _, _, _, none⟩) (v := ?v22) rfl (by kernel_rfl) (by kernel_rfl) (by kernel_rfl) (fun _ _ _ h => h) (Or.inl ⟨by rfl, ?hy22⟩) (by assumption) ?rest22
      case hy22 => (intro wS hSw; (try dsimp only at hSw); go_simp; (try with_reducible rfl))
      (try simp only [Act.put, List.setIfInBounds_toArray, List.set_cons_zero, List.set_cons_succ])
      refine wpAnyH_take (i := 11) (oi := ⟨some 23, _, _, _, _, none⟩) (v := ?v23) rfl (by kernel_rfl) (by kernel_rfl) (by kernel_rfl) (fun _ _ _ h => h) (Or.inl ⟨by rfl, ?hy23⟩) (by assumption) ?rest23
      case hy23 => (intro wS hSw; (try dsimp only at hSw); go_simp; (try with_reducible rfl))
      (try simp only [Act.put, List.setIfInBounds_toArray, List.set_cons_zero, List.set_cons_succ])
      refine wpAnyH_ready (rs := [2]) (by kernel_rfl) (by simp) ?_
      refine AllReadyH.cons (o := ⟨some 14, _, _, _, _, none⟩) rfl (fun K hK => ?_) AllReadyH.nil
      go_simp
      go_at_call 27
      refine (pwname_any x V hx).mono ?_
      rintro e w0 ⟨rfl, rfl⟩
      rw [HNM.out]
      go_wp2_with fail
      refine hK.out _ _ (by exact ⟨h0, h1, h2, h3⟩) (fun hHeld => ?_)
      clear hK K
      (try simp only [Act.put, List.setIfInBounds_toArray, List.set_cons_zero, List.set_cons_succ])
      refine wpAnyH_take (i := 3) (oi := ⟨some 15, _, _, _, _, none⟩) (v := ?v24) rfl (by kernel_rfl) (by kernel_rfl) (by kernel_rfl) (fun _ _ _ h => h) (Or.inl ⟨by rfl, ?hy24⟩) (by assumption) ?rest24
      case hy24 => (intro wS hSw; (try dsimp only at hSw); go_simp; (try with_reducible rfl))
      (try simp only [Act.put, List.setIfInBounds_toArray, List.set_cons_zero, List.set_cons_succ])
      refine wpAnyH_take (i := 4) (oi := ⟨some 16, _, _, _, _, some (3, true)⟩) (v := ?v25) rfl (by kernel_rfl) (by kernel_rfl) (by kernel_rfl) (fun _ _ _ h => h) (Or.inl ⟨by rfl, ?hy25⟩) (by assumption) ?rest25
      case hy25 => (intro wS hSw; (try dsimp only at hSw); go_simp; (try with_reducible rfl))
      (try simp only [Act.put, List.setIfInBounds_toArray, List.set_cons_zero, List.set_cons_succ])
      refine wpAnyH_take (i := 5) (oi := ⟨some 17, _, _, _, _, some (3, true)⟩) (v := ?v26) rfl (by kernel_rfl) (by kernel_rfl) (by kernel_rfl) (fun _ _ _ h => h) (Or.inl ⟨by rfl, ?hy26⟩) (by assumption) ?rest26
      case hy26 => (intro wS hSw; (try dsimp only at hSw); go_simp; (try with_reducible rfl))
      (try simp only [Act.put, List.setIfInBounds_toArray, List.set_cons_zero, List.set_cons_succ])
      refine wpAnyH_take (i := 6) (oi := ⟨some 18, _, _, _, _, none⟩) (v := ?v27) rfl (by kernel_rfl) (by kernel_rfl) (by kernel_rfl) (fun _ _ _ h => h) (Or.inl ⟨by rfl, ?hy27⟩) (by assumption) ?rest27
      case hy27 => (intro wS hSw; (try dsimp only at hSw); go_simp; (try with_reducible rfl))
      (try simp only [Act.put, List.setIfInBounds_toArray, List.set_cons_zero, List.set_cons_succ])
      refine wpAnyH_take (i := 7) (oi := ⟨some 19, _, _, _, _, none⟩) (v := ?v28) rfl (by kernel_rfl) (by kernel_rfl) (by kernel_rfl) (fun _ _ _ h => h) (Or.inl ⟨by rfl, ?hy28⟩) (by assumption) ?rest28
      case hy28 => (intro wS hSw; (try dsimp only at hSw); go_simp; (try with_reducible rfl))
      (try simp only [Act.put, List.setIfInBounds_toArray, List.set_cons_zero, List.set_cons_succ])
      refine wpAnyH_take (i := 8) (oi := ⟨some 20, _, _, _, _, some (7, true)⟩) (v := undef) rfl (by kernel_rfl) (by kernel_rfl) (by kernel_rfl) (fun _ _ _ h => h) (Or.inr ⟨by rfl, rfl⟩) (by assumption) ?_
      (try simp only [Act.put, List.setIfInBounds_toArray, List.set_cons_zero, List.set_cons_succ])
      refine wpAnyH_take (i := 9) (oi := ⟨some 21, _, _, _, _, some (7, true)⟩) (v := undef) rfl (by kernel_rfl) (by kernel_rfl) (by kernel_rfl) (fun _ _ _ h => h) (Or.inr ⟨by rfl, rfl⟩) (by assumption) ?_
      (try simp only [Act.put, List.setIfInBounds_toArray, List.set_cons_zero, List.set_cons_succ])
      refine wpAnyH_take (i := 10) (oi := ⟨some 22, _, _, _, _, none⟩) (v := ?v29) rfl (by kernel_rfl) (by kernel_rfl) (by kernel_rfl) (fun _ _ _ h => h) (Or.inl ⟨by rfl, ?hy29⟩) (by assumption) ?rest29
      case hy29 => (intro wS hSw; (try dsimp only at hSw); go_simp; (try with_reducible rfl))
      (try simp only [Act.put, List.setIfInBounds_toArray, List.set_cons_zero, List.set_cons_succ])
      refine wpAnyH_ready (rs := [12]) (by kernel_rfl) (by simp) ?_
      refine AllReadyH.cons (o := ⟨some 24, _, _, _, _, none⟩) rfl (fun K hK => ?_) AllReadyH.nil
      go_simp
      go_at_call 29
      refine (pwreq_any PV.out _ 42 #[ptr bx, ptr (bx + 1), ptr (bx + 2), ptr (bx + 3), ptr (bx + 4)] (fun r W' => ∃ W0, Fr (One g) V W0 ∧ GotEnd (avR av bx (bx + 5)) n g (bx + 4) W0 (faultS (stepS s).2) (partS (faultS (stepS s).2) x o k) r W') Try.call42 (fun W' hok hf hp => ?_)).mono ?_
      · have hb := HOK.out.1 hok
        have hoo := HO.out
        have hkk := HK.out
        refine (pwdoget_any hp x hx o k ⟨by omega, by omega⟩ ⟨by omega, by omega⟩ bx (bx + 1) (bx + 2) (bx + 3) (bx + 4) (Or.inr ⟨by omega, by omega⟩) ((hf.cell (p := ⟨bx, 0, none⟩) (by show _ < V.heap.size; dsimp only; omega) (HNG.out (bx) (by omega) (by omega))).trans h0) ((hf.cell (p := ⟨bx + 1, 0, none⟩) (by show _ < V.heap.size; dsimp only; omega) (HNG.out (bx + 1) (by omega) (by omega))).trans h1) ((hf.cell (p := ⟨bx + 2, 0, none⟩) (by show _ < V.heap.size; dsimp only; omega) (HNG.out (bx + 2) (by omega) (by omega))).trans h2) ((hf.cell (p := ⟨bx + 3, 0, none⟩) (by show _ < V.heap.size; dsimp only; omega) (HNG.out (bx + 3) (by omega) (by omega))).trans h3) (HB4.out.fr hf (fun e => HNG.out (bx + 4) (by omega) (by omega) e))).mono ?_
        rintro e w' ⟨z, rfl, hz⟩
        exact ⟨z, rfl, W', hf, hz⟩
      intro e w5 hR
      obtain ⟨z, rfl, HMX⟩ := get_mid HOK.out (fun q hq => Or.inl hq) (fun q hq => by have := HAV.out q hq; omega) HG.out (fun h => by have := HAV.out _ h; omega) HFV.out hR
      rw [HR.out] at HMX
      obtain ⟨F5, HM⟩ := HMX
      clear hR
      have HM := Lib.hid HM
      have j0 : w5.cell? ⟨bx, 0, none⟩ = some (ptr g) := (F5.cell (p := ⟨bx, 0, none⟩) (by show _ < V.heap.size; dsimp only; omega) (fun h => h.elim (HNG.out (bx) (by omega) (by omega)) (fun h => by have h : bx = bx + 4 := h; omega))).trans h0
      have j1 : w5.cell? ⟨bx + 1, 0, none⟩ = some (.string ⟨x.toArray⟩) := (F5.cell (p := ⟨bx + 1, 0, none⟩) (by show _ < V.heap.size; dsimp only; omega) (fun h => h.elim (HNG.out (bx + 1) (by omega) (by omega)) (fun h => by have h : bx + 1 = bx + 4 := h; omega))).trans h1
      have j2 : w5.cell? ⟨bx + 2, 0, none⟩ = some (.int .i64 o) := (F5.cell (p := ⟨bx + 2, 0, none⟩) (by show _ < V.heap.size; dsimp only; omega) (fun h => h.elim (HNG.out (bx + 2) (by omega) (by omega)) (fun h => by have h : bx + 2 = bx + 4 := h; omega))).trans h2
      have j3 : w5.cell? ⟨bx + 3, 0, none⟩ = some (.int .i64 k) := (F5.cell (p := ⟨bx + 3, 0, none⟩) (by show _ < V.heap.size; dsimp only; omega) (fun h => h.elim (HNG.out (bx + 3) (by omega) (by omega)) (fun h => by have h : bx + 3 = bx + 4 := h; omega))).trans h3
      clear F5
      go_wp2_with fail
      refine hK.out _ _ (by exact ⟨j0, j1, j2, j3⟩) (fun hHeld => ?_)
      clear hK K
      (try simp only [Act.put, List.setIfInBounds_toArray, List.set_cons_zero, List.set_cons_succ])
      refine wpAnyH_take (i := 13) (oi := ⟨some 11, _, _, _, _, none⟩) (v := ?v30) rfl (by kernel_rfl) (by kernel_rfl) (by kernel_rfl) (fun _ _ _ h => h) (Or.inl ⟨by rfl, ?hy30⟩) (by assumption) ?rest30
      case hy30 => (intro wS hSw; (try dsimp only at hSw); go_simp; (try with_reducible rfl))
      (try simp only [Act.put, List.setIfInBounds_toArray, List.set_cons_zero, List.set_cons_succ])
      refine wpAnyH_done (by kernel_rfl) ?_ _
      clear hHeld j0 j1 j2 j3 h0 h1 h2 h3
      rcases HM.out with ⟨hz, HE⟩ | ⟨rfl, u, hu, HE⟩
      · have z1 : (z == 0) = false := by rw [beq_eq_false_iff_ne]; exact hz
        have z2 : (z != 0) = true := by rw [bne, z1]; rfl
        have HE := Lib.hid HE
        clear hz HM
        go_wp2
        go_ret2
        exact HE.out
      · have HE := Lib.hid HE
        clear HM
        go_wp2
        go_ret2
        exact HE.out
theorem pwget_any {av : Nat → Prop} {n : Nat} {w : World} {g : Nat} {s : Wst} (p : PW av n w g s) (hav : ∀ k, av k → k < w.heap.size) (x : Tx) (hx : x.length ≤ 1000000000) (o k : Int) (ho : -9223372036854775808 ≤ o ∧ o ≤ 9223372036854775807) (hk : -9223372036854775808 ≤ k ∧ k ≤ 9223372036854775807) :
    Calls Try.prog 14 #[ptr g, .string ⟨x.toArray⟩, .int .i64 o, .int .i64 k] w fun e w' => (∃ u, e = .returned (.tuple #[u, .int .i64 (getN s x o k)]) ∧ Bs w' u (getB s x o k) ∧ ∀ q, u.ownBlock = some q → ¬ av q) ∧ PW av n w' g (getS s x o k) ∧ Fr (fun k => ¬ av k) w w' :=
  pwgetR_any p hav x hx o k ho hk
end Go.Proofs.Ytpepapadbmkjiaa

namespace Go.Proofs.Ytpepapadbmkjiaa
open Go.RowKit
def UnW (w : World) (v : Option Addr) : Prop := v = none ∨ ∃ g, v = some ⟨g, 0, none⟩ ∧ Blk w g 44 #[.map none, .slice none 0 0, .int .i64 0, .int .i64 0, .int .i64 0]
theorem UnW.non {w w' : World} {v : Option Addr} (h : UnW w v) (F : Fr Non w w') : UnW w' v := by
  rcases h with h | ⟨g, h, B⟩
  · exact Or.inl h
  · exact Or.inr ⟨g, h, B.fr F (fun e => e)⟩
theorem unmade_any {w : World} {v : Option Addr} (h : UnW w v) : Calls Try.prog 22 #[.pointer v] w fun e w' => e = .returned (.bool false) ∧ w = w' := by
  rcases h with rfl | ⟨g, rfl, B⟩
  · go_enter Try.func22, Try.ntmps22
    go_wp2
    go_ret
    exact ⟨rfl, rfl⟩
  · have c0 : w.cell? ⟨g, 0, none⟩ = some (.map none) := B.cell 0
    have hl := B.lt
    have hmn : ∀ W, (binOp .neq 42 (.map none) (.map none)).run Try.prog W = .ok (.bool false) W := fun W => run_neq_map_nil (P := Try.prog) W 42 9 23 none Try.underlying42
    clear B
    go_enter Try.func22, Try.ntmps22
    go_wp2
    go_ret
    exact ⟨rfl, rfl⟩
theorem undead_any {w : World} {v : Option Addr} (h : UnW w v) : Calls Try.prog 23 #[.pointer v] w fun e w' => e = .returned (.bool false) ∧ w = w' := by
  have HM := Lib.hid (unmade_any h)
  clear h
  go_enter Try.func23, Try.ntmps23
  go_wp2_with fail
  refine HM.out.mono ?_
  rintro e w0 ⟨rfl, rfl⟩
  go_wp2
  go_ret
  exact ⟨rfl, rfl⟩
theorem unstep_any {w : World} {v : Option Addr} (h : UnW w v) : Calls Try.prog 21 #[.pointer v] w fun e w' => e = .returned (.int .i64 9) ∧ w = w' := by
  have HM := Lib.hid (unmade_any h)
  clear h
  go_enter Try.func21, Try.ntmps21
  go_wp2_with fail
  refine HM.out.mono ?_
  rintro e w0 ⟨rfl, rfl⟩
  go_wp2
  go_ret
  exact ⟨rfl, rfl⟩
theorem unsteps_any {w : World} {v : Option Addr} (h : UnW w v) : Calls Try.prog 24 #[.pointer v] w fun e w' => e = .returned (.int .i64 0) ∧ w = w' := by
  have HM := Lib.hid (unmade_any h)
  clear h
  go_enter Try.func24, Try.ntmps24
  go_wp2_with fail
  refine HM.out.mono ?_
  rintro e w0 ⟨rfl, rfl⟩
  go_wp2
  go_ret
  exact ⟨rfl, rfl⟩
theorem unasked_any {w : World} {v : Option Addr} (h : UnW w v) : Calls Try.prog 25 #[.pointer v] w fun e w' => e = .returned (.int .i64 0) ∧ w = w' := by
  have HM := Lib.hid (unmade_any h)
  clear h
  go_enter Try.func25, Try.ntmps25
  go_wp2_with fail
  refine HM.out.mono ?_
  rintro e w0 ⟨rfl, rfl⟩
  go_wp2
  go_ret
  exact ⟨rfl, rfl⟩
theorem unnames_any {w : World} {v : Option Addr} (h : UnW w v) : Calls Try.prog 26 #[.pointer v] w fun e w' => e = .returned (.slice none 0 0) ∧ w = w' := by
  have HM := Lib.hid (unmade_any h)
  clear h
  go_enter Try.func26, Try.ntmps26
  go_wp2_with fail
  refine HM.out.mono ?_
  rintro e w0 ⟨rfl, rfl⟩
  go_wp2
  go_ret
  exact ⟨rfl, rfl⟩
theorem unup_any {w : World} {v : Option Addr} (h : UnW w v) : Calls Try.prog 12 #[.pointer v] w fun e w' => e = .returned (.tuple #[]) ∧ w = w' := by
  have HM := Lib.hid (unmade_any h)
  clear h
  go_enter Try.func12, Try.ntmps12
  go_wp2_with fail
  refine HM.out.mono ?_
  rintro e w0 ⟨rfl, rfl⟩
  go_wp2
  first | exact bodyPost_end (results_none rfl _ _ _) rfl ⟨rfl, rfl⟩ | exact bodyPost_ret (results_none rfl _ _ _) rfl ⟨rfl, rfl⟩
theorem unfuse_any {w : World} {v : Option Addr} (h : UnW w v) (k : Int) : Calls Try.prog 16 #[.pointer v, .int .i64 k] w fun e w' => e = .returned (.tuple #[]) ∧ w = w' := by
  have HM := Lib.hid (unmade_any h)
  clear h
  go_enter Try.func16, Try.ntmps16
  go_wp2_with fail
  refine HM.out.mono ?_
  rintro e w0 ⟨rfl, rfl⟩
  go_wp2
  first | exact bodyPost_end (results_none rfl _ _ _) rfl ⟨rfl, rfl⟩ | exact bodyPost_ret (results_none rfl _ _ _) rfl ⟨rfl, rfl⟩
theorem unfaults_any {w : World} {v : Option Addr} (h : UnW w v) (u : Value) : Calls Try.prog 13 #[.pointer v, u] w fun e w' => e = .returned (.tuple #[]) ∧ w = w' := by
  have HM := Lib.hid (unmade_any h)
  clear h
  go_enter Try.func13, Try.ntmps13
  go_wp2_with fail
  refine HM.out.mono ?_
  rintro e w0 ⟨rfl, rfl⟩
  go_wp2
  first | exact bodyPost_end (results_none rfl _ _ _) rfl ⟨rfl, rfl⟩ | exact bodyPost_ret (results_none rfl _ _ _) rfl ⟨rfl, rfl⟩
theorem unsize_any {w : World} {v : Option Addr} (h : UnW w v) (x : Tx) : Calls Try.prog 18 #[.pointer v, .string ⟨x.toArray⟩] w fun e w' => e = .returned (.tuple #[.int .i64 0, .bool false]) ∧ w = w' := by
  have HM := Lib.hid (unmade_any h)
  clear h
  go_enter Try.func18, Try.ntmps18
  go_wp2_with fail
  refine HM.out.mono ?_
  rintro e w0 ⟨rfl, rfl⟩
  go_wp2
  go_ret2
  exact ⟨rfl, rfl⟩
theorem unreq_any {w : World} {v : Option Addr} (h : UnW w v) (ok : Bool) (u : Value) : Calls Try.prog 29 #[.pointer v, .bool ok, u] w fun e w' => e = .returned (.int .i64 9) ∧ w = w' := by
  have HM := Lib.hid (unmade_any h)
  clear h
  go_enter Try.func29, Try.ntmps29
  go_wp2_with fail
  refine HM.out.mono ?_
  rintro e w0 ⟨rfl, rfl⟩
  go_wp2
  go_ret
  exact ⟨rfl, rfl⟩
def UnEnd (w : World) (v : Value) (e : Ending) (w' : World) : Prop := e = .returned v ∧ Fr Non w w'
set_option maxHeartbeats 4000000 in
theorem unput_any {w : World} {v : Option Addr} (h : UnW w v) (x : Tx) (hx : x.length ≤ 1000000000) (u0 : Value) (b : List UInt8) (hv : Bs w u0 b) :
    Calls Try.prog 8 #[.pointer v, .string ⟨x.toArray⟩, u0] w (UnEnd w (.int .i64 9)) := by
  obtain ⟨Ab, cb, rfl⟩ := Vs.shape (f := bv) hv
  obtain ⟨bx, hbx⟩ : ∃ b, w.heap.size = b := ⟨_, rfl⟩
  obtain ⟨W, hW⟩ : ∃ W, W = (((w.alloc (.cells #[.pointer v] 25)).alloc (.cells #[.string ⟨x.toArray⟩] 9)).alloc (.cells #[.slice Ab b.length cb] 23)) := ⟨_, rfl⟩
  obtain ⟨Y0, hY0⟩ : ∃ Y, Y = w.alloc (.cells #[.pointer v] 25) := ⟨_, rfl⟩
  have G0 : Fr Non w Y0 := by rw [hY0]; exact (Fr.refl _ _).alloc _
  have s0 : Y0.heap.size = bx + 1 := by rw [hY0]; simp; omega
  have b0 : Blk Y0 (bx) 25 #[.pointer v] := by rw [hY0, ← hbx]; exact Blk.new _ _ _
  obtain ⟨Y1, hY1⟩ : ∃ Y, Y = Y0.alloc (.cells #[.string ⟨x.toArray⟩] 9) := ⟨_, rfl⟩
  have G1 : Fr Non Y0 Y1 := by rw [hY1]; exact (Fr.refl _ _).alloc _
  have s1 : Y1.heap.size = bx + 2 := by rw [hY1]; simp; omega
  have b1 : Blk Y1 (bx + 1) 9 #[.string ⟨x.toArray⟩] := by rw [hY1, ← s0]; exact Blk.new _ _ _
  obtain ⟨Y2, hY2⟩ : ∃ Y, Y = Y1.alloc (.cells #[.slice Ab b.length cb] 23) := ⟨_, rfl⟩
  have G2 : Fr Non Y1 Y2 := by rw [hY2]; exact (Fr.refl _ _).alloc _
  have s2 : Y2.heap.size = bx + 3 := by rw [hY2]; simp; omega
  have b2 : Blk Y2 (bx + 2) 23 #[.slice Ab b.length cb] := by rw [hY2, ← s1]; exact Blk.new _ _ _
  have hWY : W = Y2 := by rw [hW, hY2, hY1, hY0]
  subst hWY
  have FW : Fr Non w W := ((G0.trans G1).trans G2)
  have e0 := Lib.hid ((b0.fr G1 (fun e => e)).fr G2 (fun e => e))
  have h0 : W.cell? ⟨bx, 0, none⟩ = some (.pointer v) := e0.out.cell 0
  have e1 := Lib.hid (b1.fr G2 (fun e => e))
  have h1 : W.cell? ⟨bx + 1, 0, none⟩ = some (.string ⟨x.toArray⟩) := e1.out.cell 0
  have e2 := Lib.hid b2
  have h2 : W.cell? ⟨bx + 2, 0, none⟩ = some (.slice Ab b.length cb) := e2.out.cell 0
  have hz : W.heap.size = bx + 3 := s2
  have HFW := Lib.hid FW
  have HU := Lib.hid (h.non FW)
  have hmf := makeFunc_run
  have HV := Lib.hid (hv.non FW)
  clear hv
  clear e0 e1 e2 hY0 G0 s0 b0 hY1 G1 s1 b1 hY2 G2 s2 b2 FW h
  go_enter Try.func8, Try.ntmps8
  go_wp2
  try rw [hbx]
  try rw [← hW]
  clear hW hbx
  obtain ⟨V, hV⟩ : ∃ V, V = W.drew := ⟨_, rfl⟩
  refine wp_region_held_drew (S := (fun W' => W'.cell? ⟨bx, 0, none⟩ = some (.pointer v) ∧ W'.cell? ⟨bx + 1, 0, none⟩ = some (.string ⟨x.toArray⟩) ∧ W'.cell? ⟨bx + 2, 0, none⟩ = some (.slice Ab b.length cb))) (by kernel_rfl) (by exact ⟨h0, h1, h2⟩) (fun hHeld => ?_)
  rw [← hV] at hHeld ⊢
  have FV : Fr Non W V := by rw [hV]; exact (Fr.refl _ _).drew
  clear hV
  have HUV := Lib.hid (HU.out.non FV)
  have HFV := Lib.hid (HFW.out.trans FV)
  have HFX := Lib.hid FV
  clear FV HU HFW
  replace h0 := hHeld.1
  replace h1 := hHeld.2.1
  replace h2 := hHeld.2.2
  refine wpAnyH_take (i := 0) (oi := ⟨some 7, _, _, _, _, none⟩) (v := ?v1) rfl (by kernel_rfl) (by kernel_rfl) (by kernel_rfl) (fun _ _ _ h => h) (Or.inl ⟨by rfl, ?hy1⟩) (by assumption) ?rest1
  case hy1 => (intro wS hSw; (try dsimp only at hSw); go_simp; (try with_reducible rfl))
  (try simp only [Act.put, List.setIfInBounds_toArray, List.set_cons_zero, List.set_cons_succ])
  refine wpAnyH_take (i := 1) (oi := ⟨some 8, _, _, _, _, none⟩) (v := ?v2) rfl (by kernel_rfl) (by kernel_rfl) (by kernel_rfl) (fun _ _ _ h => h) (Or.inl ⟨by rfl, ?hy2⟩) (by assumption) ?rest2
  case hy2 => (intro wS hSw; (try dsimp only at hSw); go_simp; (try with_reducible rfl))
  (try simp only [Act.put, List.setIfInBounds_toArray, List.set_cons_zero, List.set_cons_succ])
  refine wpAnyH_take (i := 2) (oi := ⟨some 9, _, _, _, _, none⟩) (v := ?v3) rfl (by kernel_rfl) (by kernel_rfl) (by kernel_rfl) (fun _ _ _ h => h) (Or.inl ⟨by rfl, ?hy3⟩) (by assumption) ?rest3
  case hy3 => (intro wS hSw; (try dsimp only at hSw); go_simp; (try with_reducible rfl))
  (try simp only [Act.put, List.setIfInBounds_toArray, List.set_cons_zero, List.set_cons_succ])
  refine wpAnyH_take (i := 4) (oi := ⟨some 11, _, _, _, _, none⟩) (v := ?v4) rfl (by kernel_rfl) (by kernel_rfl) (by kernel_rfl) (fun _ _ _ h => h) (Or.inl ⟨by rfl, ?hy4⟩) (by assumption) ?rest4
  case hy4 => (intro wS hSw; (try dsimp only at hSw); go_simp; (try with_reducible rfl))
  (try simp only [Act.put, List.setIfInBounds_toArray, List.set_cons_zero, List.set_cons_succ])
  refine wpAnyH_ready (rs := [3]) (by kernel_rfl) (by simp) ?_
  refine AllReadyH.cons (o := ⟨some 10, _, _, _, _, none⟩) rfl (fun K hK => ?_) AllReadyH.nil
  go_simp
  go_at_call 30
  refine (pwmayput_any x (.slice Ab b.length cb) b V hx (HV.out.non HFX.out)).mono ?_
  rintro e w0 ⟨rfl, rfl⟩
  go_wp2_with fail
  refine hK.out _ _ (by exact ⟨h0, h1, h2⟩) (fun hHeld => ?_)
  clear hK K
  (try simp only [Act.put, List.setIfInBounds_toArray, List.set_cons_zero, List.set_cons_succ])
  refine wpAnyH_ready (rs := [5]) (by kernel_rfl) (by simp) ?_
  refine AllReadyH.cons (o := ⟨some 12, _, _, _, _, none⟩) rfl (fun K hK => ?_) AllReadyH.nil
  go_simp
  go_at_call 29
  refine (unreq_any HUV.out _ _).mono ?_
  rintro e w5 ⟨rfl, rfl⟩
  go_wp2_with fail
  refine hK.out _ _ (by exact ⟨h0, h1, h2⟩) (fun hHeld => ?_)
  clear hK K
  (try simp only [Act.put, List.setIfInBounds_toArray, List.set_cons_zero, List.set_cons_succ])
  refine wpAnyH_take (i := 6) (oi := ⟨some 6, _, _, _, _, none⟩) (v := ?v5) rfl (by kernel_rfl) (by kernel_rfl) (by kernel_rfl) (fun _ _ _ h => h) (Or.inl ⟨by rfl, ?hy5⟩) (by assumption) ?rest5
  case hy5 => (intro wS hSw; (try dsimp only at hSw); go_simp; (try with_reducible rfl))
  (try simp only [Act.put, List.setIfInBounds_toArray, List.set_cons_zero, List.set_cons_succ])
  refine wpAnyH_done (by kernel_rfl) ?_ _
  clear hHeld
  go_wp2
  go_ret
  exact ⟨rfl, HFV.out⟩
set_option maxHeartbeats 4000000 in
theorem unputnew_any {w : World} {v : Option Addr} (h : UnW w v) (x : Tx) (hx : x.length ≤ 1000000000) (u0 : Value) (b : List UInt8) (hv : Bs w u0 b) :
    Calls Try.prog 19 #[.pointer v, .string ⟨x.toArray⟩, u0] w (UnEnd w (.int .i64 9)) := by
  obtain ⟨Ab, cb, rfl⟩ := Vs.shape (f := bv) hv
  obtain ⟨bx, hbx⟩ : ∃ b, w.heap.size = b := ⟨_, rfl⟩
  obtain ⟨W, hW⟩ : ∃ W, W = (((w.alloc (.cells #[.pointer v] 25)).alloc (.cells #[.string ⟨x.toArray⟩] 9)).alloc (.cells #[.slice Ab b.length cb] 23)) := ⟨_, rfl⟩
  obtain ⟨Y0, hY0⟩ : ∃ Y, Y = w.alloc (.cells #[.pointer v] 25) := ⟨_, rfl⟩
  have G0 : Fr Non w Y0 := by rw [hY0]; exact (Fr.refl _ _).alloc _
  have s0 : Y0.heap.size = bx + 1 := by rw [hY0]; simp; omega
  have b0 : Blk Y0 (bx) 25 #[.pointer v] := by rw [hY0, ← hbx]; exact Blk.new _ _ _
  obtain ⟨Y1, hY1⟩ : ∃ Y, Y = Y0.alloc (.cells #[.string ⟨x.toArray⟩] 9) := ⟨_, rfl⟩
  have G1 : Fr Non Y0 Y1 := by rw [hY1]; exact (Fr.refl _ _).alloc _
  have s1 : Y1.heap.size = bx + 2 := by rw [hY1]; simp; omega
  have b1 : Blk Y1 (bx + 1) 9 #[.string ⟨x.toArray⟩] := by rw [hY1, ← s0]; exact Blk.new _ _ _
  obtain ⟨Y2, hY2⟩ : ∃ Y, Y = Y1.alloc (.cells #[.slice Ab b.length cb] 23) := ⟨_, rfl⟩
  have G2 : Fr Non Y1 Y2 := by rw [hY2]; exact (Fr.refl _ _).alloc _
  have s2 : Y2.heap.size = bx + 3 := by rw [hY2]; simp; omega
  have b2 : Blk Y2 (bx + 2) 23 #[.slice Ab b.length cb] := by rw [hY2, ← s1]; exact Blk.new _ _ _
  have hWY : W = Y2 := by rw [hW, hY2, hY1, hY0]
  subst hWY
  have FW : Fr Non w W := ((G0.trans G1).trans G2)
  have e0 := Lib.hid ((b0.fr G1 (fun e => e)).fr G2 (fun e => e))
  have h0 : W.cell? ⟨bx, 0, none⟩ = some (.pointer v) := e0.out.cell 0
  have e1 := Lib.hid (b1.fr G2 (fun e => e))
  have h1 : W.cell? ⟨bx + 1, 0, none⟩ = some (.string ⟨x.toArray⟩) := e1.out.cell 0
  have e2 := Lib.hid b2
  have h2 : W.cell? ⟨bx + 2, 0, none⟩ = some (.slice Ab b.length cb) := e2.out.cell 0
  have hz : W.heap.size = bx + 3 := s2
  have HFW := Lib.hid FW
  have HU := Lib.hid (h.non FW)
  have hmf := makeFunc_run
  have HV := Lib.hid (hv.non FW)
  clear hv
  clear e0 e1 e2 hY0 G0 s0 b0 hY1 G1 s1 b1 hY2 G2 s2 b2 FW h
  go_enter Try.func19, Try.ntmps19
  go_wp2
  try rw [hbx]
  try rw [← hW]
  clear hW hbx
  obtain ⟨V, hV⟩ : ∃ V, V = W.drew := ⟨_, rfl⟩
  refine wp_region_held_drew (S := (fun W' => W'.cell? ⟨bx, 0, none⟩ = some (.pointer v) ∧ W'.cell? ⟨bx + 1, 0, none⟩ = some (.string ⟨x.toArray⟩) ∧ W'.cell? ⟨bx + 2, 0, none⟩ = some (.slice Ab b.length cb))) (by kernel_rfl) (by exact ⟨h0, h1, h2⟩) (fun hHeld => ?_)
  rw [← hV] at hHeld ⊢
  have FV : Fr Non W V := by rw [hV]; exact (Fr.refl _ _).drew
  clear hV
  have HUV := Lib.hid (HU.out.non FV)
  have HFV := Lib.hid (HFW.out.trans FV)
  have HFX := Lib.hid FV
  clear FV HU HFW
  replace h0 := hHeld.1
  replace h1 := hHeld.2.1
  replace h2 := hHeld.2.2
  refine wpAnyH_take (i := 0) (oi := ⟨some 7, _, _, _, _, none⟩) (v := ?v6) rfl (by kernel_rfl) (by kernel_rfl) (by kernel_rfl) (fun _ _ _ h => h) (Or.inl ⟨by rfl, ?hy6⟩) (by assumption) ?rest6
  case hy6 => (intro wS hSw; (try dsimp only at hSw); go_simp; (try with_reducible rfl))
  (try simp only [Act.put, List.setIfInBounds_toArray, List.set_cons_zero, List.set_cons_succ])
  refine wpAnyH_take (i := 1) (oi := ⟨some 8, _, _, _, _, none⟩) (v := ?v7) rfl (by kernel_rfl) (by kernel_rfl) (by kernel_rfl) (fun _ _ _ h => h) (Or.inl ⟨by rfl, ?hy7⟩) (by assumption) ?rest7
  case hy7 => (intro wS hSw; (try dsimp only at hSw); go_simp; (try with_reducible rfl))
  (try simp only [Act.put, List.setIfInBounds_toArray, List.set_cons_zero, List.set_cons_succ])
  refine wpAnyH_take (i := 2) (oi := ⟨some 9, _, _, _, _, none⟩) (v := ?v8) rfl (by kernel_rfl) (by kernel_rfl) (by kernel_rfl) (fun _ _ _ h => h) (Or.inl ⟨by rfl, ?hy8⟩) (by assumption) ?rest8
  case hy8 => (intro wS hSw; (try dsimp only at hSw); go_simp; (try with_reducible rfl))
  (try simp only [Act.put, List.setIfInBounds_toArray, List.set_cons_zero, List.set_cons_succ])
  refine wpAnyH_take (i := 4) (oi := ⟨some 11, _, _, _, _, none⟩) (v := ?v9) rfl (by kernel_rfl) (by kernel_rfl) (by kernel_rfl) (fun _ _ _ h => h) (Or.inl ⟨by rfl, ?hy9⟩) (by assumption) ?rest9
  case hy9 => (intro wS hSw; (try dsimp only at hSw); go_simp; (try with_reducible rfl))
  (try simp only [Act.put, List.setIfInBounds_toArray, List.set_cons_zero, List.set_cons_succ])
  refine wpAnyH_ready (rs := [3]) (by kernel_rfl) (by simp) ?_
  refine AllReadyH.cons (o := ⟨some 10, _, _, _, _, none⟩) rfl (fun K hK => ?_) AllReadyH.nil
  go_simp
  go_at_call 30
  refine (pwmayput_any x (.slice Ab b.length cb) b V hx (HV.out.non HFX.out)).mono ?_
  rintro e w0 ⟨rfl, rfl⟩
  go_wp2_with fail
  refine hK.out _ _ (by exact ⟨h0, h1, h2⟩) (fun hHeld => ?_)
  clear hK K
  (try simp only [Act.put, List.setIfInBounds_toArray, List.set_cons_zero, List.set_cons_succ])
  refine wpAnyH_ready (rs := [5]) (by kernel_rfl) (by simp) ?_
  refine AllReadyH.cons (o := ⟨some 12, _, _, _, _, none⟩) rfl (fun K hK => ?_) AllReadyH.nil
  go_simp
  go_at_call 29
  refine (unreq_any HUV.out _ _).mono ?_
  rintro e w5 ⟨rfl, rfl⟩
  go_wp2_with fail
  refine hK.out _ _ (by exact ⟨h0, h1, h2⟩) (fun hHeld => ?_)
  clear hK K
  (try simp only [Act.put, List.setIfInBounds_toArray, List.set_cons_zero, List.set_cons_succ])
  refine wpAnyH_take (i := 6) (oi := ⟨some 6, _, _, _, _, none⟩) (v := ?v10) rfl (by kernel_rfl) (by kernel_rfl) (by kernel_rfl) (fun _ _ _ h => h) (Or.inl ⟨by rfl, ?hy10⟩) (by assumption) ?rest10
  case hy10 => (intro wS hSw; (try dsimp only at hSw); go_simp; (try with_reducible rfl))
  (try simp only [Act.put, List.setIfInBounds_toArray, List.set_cons_zero, List.set_cons_succ])
  refine wpAnyH_done (by kernel_rfl) ?_ _
  clear hHeld
  go_wp2
  go_ret
  exact ⟨rfl, HFV.out⟩
set_option maxHeartbeats 4000000 in
theorem undel_any {w : World} {v : Option Addr} (h : UnW w v) (x : Tx) (hx : x.length ≤ 1000000000) :
    Calls Try.prog 20 #[.pointer v, .string ⟨x.toArray⟩] w (UnEnd w (.int .i64 9)) := by
  obtain ⟨bx, hbx⟩ : ∃ b, w.heap.size = b := ⟨_, rfl⟩
  obtain ⟨W, hW⟩ : ∃ W, W = ((w.alloc (.cells #[.pointer v] 25)).alloc (.cells #[.string ⟨x.toArray⟩] 9)) := ⟨_, rfl⟩
  obtain ⟨Y0, hY0⟩ : ∃ Y, Y = w.alloc (.cells #[.pointer v] 25) := ⟨_, rfl⟩
  have G0 : Fr Non w Y0 := by rw [hY0]; exact (Fr.refl _ _).alloc _
  have s0 : Y0.heap.size = bx + 1 := by rw [hY0]; simp; omega
  have b0 : Blk Y0 (bx) 25 #[.pointer v] := by rw [hY0, ← hbx]; exact Blk.new _ _ _
  obtain ⟨Y1, hY1⟩ : ∃ Y, Y = Y0.alloc (.cells #[.string ⟨x.toArray⟩] 9) := ⟨_, rfl⟩
  have G1 : Fr Non Y0 Y1 := by rw [hY1]; exact (Fr.refl _ _).alloc _
  have s1 : Y1.heap.size = bx + 2 := by rw [hY1]; simp; omega
  have b1 : Blk Y1 (bx + 1) 9 #[.string ⟨x.toArray⟩] := by rw [hY1, ← s0]; exact Blk.new _ _ _
  have hWY : W = Y1 := by rw [hW, hY1, hY0]
  subst hWY
  have FW : Fr Non w W := (G0.trans G1)
  have e0 := Lib.hid (b0.fr G1 (fun e => e))
  have h0 : W.cell? ⟨bx, 0, none⟩ = some (.pointer v) := e0.out.cell 0
  have e1 := Lib.hid b1
  have h1 : W.cell? ⟨bx + 1, 0, none⟩ = some (.string ⟨x.toArray⟩) := e1.out.cell 0
  have hz : W.heap.size = bx + 2 := s1
  have HFW := Lib.hid FW
  have HU := Lib.hid (h.non FW)
  have hmf := makeFunc_run
  clear e0 e1 hY0 G0 s0 b0 hY1 G1 s1 b1 FW h
  go_enter Try.func20, Try.ntmps20
  go_wp2
  try rw [hbx]
  try rw [← hW]
  clear hW hbx
  obtain ⟨V, hV⟩ : ∃ V, V = W.drew := ⟨_, rfl⟩
  refine wp_region_held_drew (S := (fun W' => W'.cell? ⟨bx, 0, none⟩ = some (.pointer v) ∧ W'.cell? ⟨bx + 1, 0, none⟩ = some (.string ⟨x.toArray⟩))) (by kernel_rfl) (by exact ⟨h0, h1⟩) (fun hHeld => ?_)
  rw [← hV] at hHeld ⊢
  have FV : Fr Non W V := by rw [hV]; exact (Fr.refl _ _).drew
  clear hV
  have HUV := Lib.hid (HU.out.non FV)
  have HFV := Lib.hid (HFW.out.trans FV)
  have HFX := Lib.hid FV
  clear FV HU HFW
  replace h0 := hHeld.1
  replace h1 := hHeld.2
  refine wpAnyH_take (i := 0) (oi := ⟨some 5, _, _, _, _, none⟩) (v := ?v11) rfl (by kernel_rfl) (by kernel_rfl) (by kernel_rfl) (fun _ _ _ h => h) (Or.inl ⟨by rfl, ?hy11⟩) (by assumption) ?rest11
  case hy11 => (intro wS hSw; (try dsimp only at hSw); go_simp; (try with_reducible rfl))
  (try simp only [Act.put, List.setIfInBounds_toArray, List.set_cons_zero, List.set_cons_succ])
  refine wpAnyH_take (i := 1) (oi := ⟨some 6, _, _, _, _, none⟩) (v := ?v12) rfl (by kernel_rfl) (by kernel_rfl) (by kernel_rfl) (fun _ _ _ h => h) (Or.inl ⟨by rfl, ?hy12⟩) (by assumption) ?rest12
  case hy12 => (intro wS hSw; (try dsimp only at hSw); go_simp; (try with_reducible rfl))
  (try simp only [Act.put, List.setIfInBounds_toArray, List.set_cons_zero, List.set_cons_succ])
  refine wpAnyH_take (i := 3) (oi := ⟨some 8, _, _, _, _, none⟩) (v := ?v13) rfl (by kernel_rfl) (by kernel_rfl) (by kernel_rfl) (fun _ _ _ h => h) (Or.inl ⟨by rfl, ?hy13⟩) (by assumption) ?rest13
  case hy13 => (intro wS hSw; (try dsimp only at hSw); go_simp; (try with_reducible rfl))
  (try simp only [Act.put, List.setIfInBounds_toArray, List.set_cons_zero, List.set_cons_succ])
  refine wpAnyH_ready (rs := [2]) (by kernel_rfl) (by simp) ?_
  refine AllReadyH.cons (o := ⟨some 7, _, _, _, _, none⟩) rfl (fun K hK => ?_) AllReadyH.nil
  go_simp
  go_at_call 27
  refine (pwname_any x V hx).mono ?_
  rintro e w0 ⟨rfl, rfl⟩
  go_wp2_with fail
  refine hK.out _ _ (by exact ⟨h0, h1⟩) (fun hHeld => ?_)
  clear hK K
  (try simp only [Act.put, List.setIfInBounds_toArray, List.set_cons_zero, List.set_cons_succ])
  refine wpAnyH_ready (rs := [4]) (by kernel_rfl) (by simp) ?_
  refine AllReadyH.cons (o := ⟨some 9, _, _, _, _, none⟩) rfl (fun K hK => ?_) AllReadyH.nil
  go_simp
  go_at_call 29
  refine (unreq_any HUV.out _ _).mono ?_
  rintro e w5 ⟨rfl, rfl⟩
  go_wp2_with fail
  refine hK.out _ _ (by exact ⟨h0, h1⟩) (fun hHeld => ?_)
  clear hK K
  (try simp only [Act.put, List.setIfInBounds_toArray, List.set_cons_zero, List.set_cons_succ])
  refine wpAnyH_take (i := 5) (oi := ⟨some 4, _, _, _, _, none⟩) (v := ?v14) rfl (by kernel_rfl) (by kernel_rfl) (by kernel_rfl) (fun _ _ _ h => h) (Or.inl ⟨by rfl, ?hy14⟩) (by assumption) ?rest14
  case hy14 => (intro wS hSw; (try dsimp only at hSw); go_simp; (try with_reducible rfl))
  (try simp only [Act.put, List.setIfInBounds_toArray, List.set_cons_zero, List.set_cons_succ])
  refine wpAnyH_done (by kernel_rfl) ?_ _
  clear hHeld
  go_wp2
  go_ret
  exact ⟨rfl, HFV.out⟩
set_option maxHeartbeats 4000000 in
theorem unget_any {w : World} {v : Option Addr} (h : UnW w v) (x : Tx) (hx : x.length ≤ 1000000000) (k : Int) :
    Calls Try.prog 14 #[.pointer v, .string ⟨x.toArray⟩, .int .i64 0, .int .i64 k] w (UnEnd w (.tuple #[.slice none 0 0, .int .i64 9])) := by
  obtain ⟨bx, hbx⟩ : ∃ b, w.heap.size = b := ⟨_, rfl⟩
  obtain ⟨W, hW⟩ : ∃ W, W = (((((w.alloc (.cells #[.pointer v] 25)).alloc (.cells #[.string ⟨x.toArray⟩] 9)).alloc (.cells #[.int .i64 0] 3)).alloc (.cells #[.int .i64 k] 3)).alloc (.cells #[.slice none 0 0] 23)) := ⟨_, rfl⟩
  obtain ⟨Y0, hY0⟩ : ∃ Y, Y = w.alloc (.cells #[.pointer v] 25) := ⟨_, rfl⟩
  have G0 : Fr Non w Y0 := by rw [hY0]; exact (Fr.refl _ _).alloc _
  have s0 : Y0.heap.size = bx + 1 := by rw [hY0]; simp; omega
  have b0 : Blk Y0 (bx) 25 #[.pointer v] := by rw [hY0, ← hbx]; exact Blk.new _ _ _
  obtain ⟨Y1, hY1⟩ : ∃ Y, Y = Y0.alloc (.cells #[.string ⟨x.toArray⟩] 9) := ⟨_, rfl⟩
  have G1 : Fr Non Y0 Y1 := by rw [hY1]; exact (Fr.refl _ _).alloc _
  have s1 : Y1.heap.size = bx + 2 := by rw [hY1]; simp; omega
  have b1 : Blk Y1 (bx + 1) 9 #[.string ⟨x.toArray⟩] := by rw [hY1, ← s0]; exact Blk.new _ _ _
  obtain ⟨Y2, hY2⟩ : ∃ Y, Y = Y1.alloc (.cells #[.int .i64 0] 3) := ⟨_, rfl⟩
  have G2 : Fr Non Y1 Y2 := by rw [hY2]; exact (Fr.refl _ _).alloc _
  have s2 : Y2.heap.size = bx + 3 := by rw [hY2]; simp; omega
  have b2 : Blk Y2 (bx + 2) 3 #[.int .i64 0] := by rw [hY2, ← s1]; exact Blk.new _ _ _
  obtain ⟨Y3, hY3⟩ : ∃ Y, Y = Y2.alloc (.cells #[.int .i64 k] 3) := ⟨_, rfl⟩
  have G3 : Fr Non Y2 Y3 := by rw [hY3]; exact (Fr.refl _ _).alloc _
  have s3 : Y3.heap.size = bx + 4 := by rw [hY3]; simp; omega
  have b3 : Blk Y3 (bx + 3) 3 #[.int .i64 k] := by rw [hY3, ← s2]; exact Blk.new _ _ _
  obtain ⟨Y4, hY4⟩ : ∃ Y, Y = Y3.alloc (.cells #[.slice none 0 0] 23) := ⟨_, rfl⟩
  have G4 : Fr Non Y3 Y4 := by rw [hY4]; exact (Fr.refl _ _).alloc _
  have s4 : Y4.heap.size = bx + 5 := by rw [hY4]; simp; omega
  have b4 : Blk Y4 (bx + 4) 23 #[.slice none 0 0] := by rw [hY4, ← s3]; exact Blk.new _ _ _
  have hWY : W = Y4 := by rw [hW, hY4, hY3, hY2, hY1, hY0]
  subst hWY
  have FW : Fr Non w W := ((((G0.trans G1).trans G2).trans G3).trans G4)
  have e0 := Lib.hid ((((b0.fr G1 (fun e => e)).fr G2 (fun e => e)).fr G3 (fun e => e)).fr G4 (fun e => e))
  have h0 : W.cell? ⟨bx, 0, none⟩ = some (.pointer v) := e0.out.cell 0
  have e1 := Lib.hid (((b1.fr G2 (fun e => e)).fr G3 (fun e => e)).fr G4 (fun e => e))
  have h1 : W.cell? ⟨bx + 1, 0, none⟩ = some (.string ⟨x.toArray⟩) := e1.out.cell 0
  have e2 := Lib.hid ((b2.fr G3 (fun e => e)).fr G4 (fun e => e))
  have h2 : W.cell? ⟨bx + 2, 0, none⟩ = some (.int .i64 0) := e2.out.cell 0
  have e3 := Lib.hid (b3.fr G4 (fun e => e))
  have h3 : W.cell? ⟨bx + 3, 0, none⟩ = some (.int .i64 k) := e3.out.cell 0
  have e4 := Lib.hid b4
  have h4 : W.cell? ⟨bx + 4, 0, none⟩ = some (.slice none 0 0) := e4.out.cell 0
  have hz : W.heap.size = bx + 5 := s4
  have HFW := Lib.hid FW
  have HU := Lib.hid (h.non FW)
  have hmf := makeFunc_run
  clear e0 e1 e2 e3 e4 hY0 G0 s0 b0 hY1 G1 s1 b1 hY2 G2 s2 b2 hY3 G3 s3 b3 hY4 G4 s4 b4 FW h
  cases hnm : nm24 x
  · have HNM := Lib.hid hnm
    clear hnm
    go_enter Try.func14, Try.ntmps14
    go_wp2
    try rw [hbx]
    try rw [← hW]
    clear hW hbx
    obtain ⟨V, hV⟩ : ∃ V, V = W.drew := ⟨_, rfl⟩
    refine wp_region_held_drew (S := (fun W' => W'.cell? ⟨bx, 0, none⟩ = some (.pointer v) ∧ W'.cell? ⟨bx + 1, 0, none⟩ = some (.string ⟨x.toArray⟩) ∧ W'.cell? ⟨bx + 2, 0, none⟩ = some (.int .i64 0) ∧ W'.cell? ⟨bx + 3, 0, none⟩ = some (.int .i64 k))) (by kernel_rfl) (by exact ⟨h0, h1, h2, h3⟩) (fun hHeld => ?_)
    rw [← hV] at hHeld ⊢
    have FV : Fr Non W V := by rw [hV]; exact (Fr.refl _ _).drew
    clear hV
    have HUV := Lib.hid (HU.out.non FV)
    have HFV := Lib.hid (HFW.out.trans FV)
    have HFX := Lib.hid FV
    clear FV HU HFW
    replace h0 := hHeld.1
    replace h1 := hHeld.2.1
    replace h2 := hHeld.2.2.1
    replace h3 := hHeld.2.2.2
    refine wpAnyH_take (i := 0) (oi := ⟨some 12, _, _, _, _, none⟩) (v := ?v15) rfl (by kernel_rfl) (by kernel_rfl) (by kernel_rfl) (fun _ _ _ h => h) (Or.inl ⟨by rfl, ?hy15⟩) (by assumption) ?rest15
    case hy15 => (intro wS hSw; (try dsimp only at hSw); go_simp; (try with_reducible rfl))
    (try simp only [Act.put, List.setIfInBounds_toArray, List.set_cons_zero, List.set_cons_succ])
    refine wpAnyH_take (i := 1) (oi := ⟨some 13, _, _, _, _, none⟩) (v := ?v16) rfl (by kernel_rfl) (by kernel_rfl) (by kernel_rfl) (fun _ _ _ h => h) (Or.inl ⟨by rfl, ?hy16⟩) (by assumption) ?rest16
    case hy16 => (intro wS hSw; (try dsimp only at hSw); go_simp; (try with_reducible rfl))
    (try simp only [Act.put, List.setIfInBounds_toArray, List.set_cons_zero, List.set_cons_succ])
    refine wpAnyH_take (i := 11) (oi := ⟨some 23, _, _, _, _, none⟩) (v := ?v17) rfl (by kernel_rfl) (by kernel_rfl) (by kernel_rfl) (fun _ _ _ h => h) (Or.inl ⟨by rfl, ?hy17⟩) (by assumption) ?rest17
    case hy17 => (intro wS hSw; (try dsimp only at hSw); go_simp; (try with_reducible rfl))
    (try simp only [Act.put, List.setIfInBounds_toArray, List.set_cons_zero, List.set_cons_succ])
    refine wpAnyH_ready (rs := [2]) (by kernel_rfl) (by simp) ?_
    refine AllReadyH.cons (o := ⟨some 14, _, _, _, _, none⟩) rfl (fun K hK => ?_) AllReadyH.nil
    go_simp
    go_at_call 27
    refine (pwname_any x V hx).mono ?_
    rintro e w0 ⟨rfl, rfl⟩
    rw [HNM.out]
    go_wp2_with fail
    refine hK.out _ _ (by exact ⟨h0, h1, h2, h3⟩) (fun hHeld => ?_)
    clear hK K
    (try simp only [Act.put, List.setIfInBounds_toArray, List.set_cons_zero, List.set_cons_succ])
    refine wpAnyH_take (i := 3) (oi := ⟨some 15, _, _, _, _, none⟩) (v := ?v18) rfl (by kernel_rfl) (by kernel_rfl) (by kernel_rfl) (fun _ _ _ h => h) (Or.inl ⟨by rfl, ?hy18⟩) (by assumption) ?rest18
    case hy18 => (intro wS hSw; (try dsimp only at hSw); go_simp; (try with_reducible rfl))
    (try simp only [Act.put, List.setIfInBounds_toArray, List.set_cons_zero, List.set_cons_succ])
    refine wpAnyH_take (i := 4) (oi := ⟨some 16, _, _, _, _, some (3, true)⟩) (v := undef) rfl (by kernel_rfl) (by kernel_rfl) (by kernel_rfl) (fun _ _ _ h => h) (Or.inr ⟨by rfl, rfl⟩) (by assumption) ?_
    (try simp only [Act.put, List.setIfInBounds_toArray, List.set_cons_zero, List.set_cons_succ])
    refine wpAnyH_take (i := 5) (oi := ⟨some 17, _, _, _, _, some (3, true)⟩) (v := undef) rfl (by kernel_rfl) (by kernel_rfl) (by kernel_rfl) (fun _ _ _ h => h) (Or.inr ⟨by rfl, rfl⟩) (by assumption) ?_
    (try simp only [Act.put, List.setIfInBounds_toArray, List.set_cons_zero, List.set_cons_succ])
    refine wpAnyH_take (i := 6) (oi := ⟨some 18, _, _, _, _, none⟩) (v := ?v19) rfl (by kernel_rfl) (by kernel_rfl) (by kernel_rfl) (fun _ _ _ h => h) (Or.inl ⟨by rfl, ?hy19⟩) (by assumption) ?rest19
    case hy19 => (intro wS hSw; (try dsimp only at hSw); go_simp; (try with_reducible rfl))
    (try simp only [Act.put, List.setIfInBounds_toArray, List.set_cons_zero, List.set_cons_succ])
    refine wpAnyH_take (i := 7) (oi := ⟨some 19, _, _, _, _, none⟩) (v := ?v20) rfl (by kernel_rfl) (by kernel_rfl) (by kernel_rfl) (fun _ _ _ h => h) (Or.inl ⟨by rfl, ?hy20⟩) (by assumption) ?rest20
    case hy20 => (intro wS hSw; (try dsimp only at hSw); go_simp; (try with_reducible rfl))
    (try simp only [Act.put, List.setIfInBounds_toArray, List.set_cons_zero, List.set_cons_succ])
    refine wpAnyH_take (i := 8) (oi := ⟨some 20, _, _, _, _, some (7, true)⟩) (v := undef) rfl (by kernel_rfl) (by kernel_rfl) (by kernel_rfl) (fun _ _ _ h => h) (Or.inr ⟨by rfl, rfl⟩) (by assumption) ?_
    (try simp only [Act.put, List.setIfInBounds_toArray, List.set_cons_zero, List.set_cons_succ])
    refine wpAnyH_take (i := 9) (oi := ⟨some 21, _, _, _, _, some (7, true)⟩) (v := undef) rfl (by kernel_rfl) (by kernel_rfl) (by kernel_rfl) (fun _ _ _ h => h) (Or.inr ⟨by rfl, rfl⟩) (by assumption) ?_
    (try simp only [Act.put, List.setIfInBounds_toArray, List.set_cons_zero, List.set_cons_succ])
    refine wpAnyH_take (i := 10) (oi := ⟨some 22, _, _, _, _, none⟩) (v := ?v21) rfl (by kernel_rfl) (by kernel_rfl) (by kernel_rfl) (fun _ _ _ h => h) (Or.inl ⟨by rfl, ?hy21⟩) (by assumption) ?rest21
    case hy21 => (intro wS hSw; (try dsimp only at hSw); go_simp; (try with_reducible rfl))
    (try simp only [Act.put, List.setIfInBounds_toArray, List.set_cons_zero, List.set_cons_succ])
    refine wpAnyH_ready (rs := [12]) (by kernel_rfl) (by simp) ?_
    refine AllReadyH.cons (o := ⟨some 24, _, _, _, _, none⟩) rfl (fun K hK => ?_) AllReadyH.nil
    go_simp
    go_at_call 29
    refine (unreq_any HUV.out _ _).mono ?_
    rintro e w5 ⟨rfl, rfl⟩
    go_wp2_with fail
    refine hK.out _ _ (by exact ⟨h0, h1, h2, h3⟩) (fun hHeld => ?_)
    clear hK K
    (try simp only [Act.put, List.setIfInBounds_toArray, List.set_cons_zero, List.set_cons_succ])
    refine wpAnyH_take (i := 13) (oi := ⟨some 11, _, _, _, _, none⟩) (v := ?v22) rfl (by kernel_rfl) (by kernel_rfl) (by kernel_rfl) (fun _ _ _ h => h) (Or.inl ⟨by rfl, ?hy22⟩) (by assumption) ?rest22
    case hy22 => (intro wS hSw; (try dsimp only at hSw); go_simp; (try with_reducible rfl))
    (try simp only [Act.put, List.setIfInBounds_toArray, List.set_cons_zero, List.set_cons_succ])
    refine wpAnyH_done (by kernel_rfl) ?_ _
    clear hHeld
    go_wp2
    go_ret2
    exact ⟨rfl, HFV.out⟩
  · have HNM := Lib.hid hnm
    clear hnm
    have hd0 : decide ((0 : Int) ≤ 0) = true := rfl
    go_enter Try.func14, Try.ntmps14
    go_wp2
    try rw [hbx]
    try rw [← hW]
    clear hW hbx
    obtain ⟨V, hV⟩ : ∃ V, V = W.drew := ⟨_, rfl⟩
    refine wp_region_held_drew (S := (fun W' => W'.cell? ⟨bx, 0, none⟩ = some (.pointer v) ∧ W'.cell? ⟨bx + 1, 0, none⟩ = some (.string ⟨x.toArray⟩) ∧ W'.cell? ⟨bx + 2, 0, none⟩ = some (.int .i64 0) ∧ W'.cell? ⟨bx + 3, 0, none⟩ = some (.int .i64 k))) (by kernel_rfl) (by exact ⟨h0, h1, h2, h3⟩) (fun hHeld => ?_)
    rw [← hV] at hHeld ⊢
    have FV : Fr Non W V := by rw [hV]; exact (Fr.refl _ _).drew
    clear hV
    have HUV := Lib.hid (HU.out.non FV)
    have HFV := Lib.hid (HFW.out.trans FV)
    have HFX := Lib.hid FV
    clear FV HU HFW
    replace h0 := hHeld.1
    replace h1 := hHeld.2.1
    replace h2 := hHeld.2.2.1
    replace h3 := hHeld.2.2.2
    refine wpAnyH_take (i := 0) (oi := ⟨some 12, _, _, _, _, none⟩) (v := ?v23) rfl (by kernel_rfl) (by kernel_rfl) (by kernel_rfl) (fun _ _ _ h => h) (Or.inl ⟨by rfl, ?hy23⟩) (by assumption) ?rest23
    case hy23 => (intro wS hSw; (try dsimp only at hSw); go_simp; (try with_reducible rfl))
    (try simp only [Act.put, List.setIfInBounds_toArray, List.set_cons_zero, List.set_cons_succ])
    refine wpAnyH_take (i := 1) (oi := ⟨some 13, _, _, _, _, none⟩) (v := ?v24) rfl (by kernel_rfl) (by kernel_rfl) (by kernel_rfl) (fun _ _ _ h => h) (Or.inl ⟨by rfl, ?hy24⟩) (by assumption) ?rest24
    case hy24 => (intro wS hSw; (try dsimp only at hSw); go_simp; (try with_reducible rfl))
    (try simp only [Act.put, List.setIfInBounds_toArray, List.set_cons_zero, List.set_cons_succ])
    refine wpAnyH_take (i := 11) (oi := ⟨some 23, _, _, _, _, none⟩) (v := ?v25) rfl (by kernel_rfl) (by kernel_rfl) (by kernel_rfl) (fun _ _ _ h => h) (Or.inl ⟨by rfl, ?hy25⟩) (by assumption) ?rest25
    case hy25 => (intro wS hSw; (try dsimp only at hSw); go_simp; (try with_reducible rfl))
    (try simp only [Act.put, List.setIfInBounds_toArray, List.set_cons_zero, List.set_cons_succ])
    refine wpAnyH_ready (rs := [2]) (by kernel_rfl) (by simp) ?_
    refine AllReadyH.cons (o := ⟨some 14, _, _, _, _, none⟩) rfl (fun K hK => ?_) AllReadyH.nil
    go_simp
    go_at_call 27
    refine (pwname_any x V hx).mono ?_
    rintro e w0 ⟨rfl, rfl⟩
    rw [HNM.out]
    go_wp2_with fail
    refine hK.out _ _ (by exact ⟨h0, h1, h2, h3⟩) (fun hHeld => ?_)
    clear hK K
    (try simp only [Act.put, List.setIfInBounds_toArray, List.set_cons_zero, List.set_cons_succ])
    refine wpAnyH_take (i := 3) (oi := ⟨some 15, _, _, _, _, none⟩) (v := ?v26) rfl (by kernel_rfl) (by kernel_rfl) (by kernel_rfl) (fun _ _ _ h => h) (Or.inl ⟨by rfl, ?hy26⟩) (by assumption) ?rest26
    case hy26 => (intro wS hSw; (try dsimp only at hSw); go_simp; (try with_reducible rfl))
    (try simp only [Act.put, List.setIfInBounds_toArray, List.set_cons_zero, List.set_cons_succ])
    refine wpAnyH_take (i := 4) (oi := ⟨some 16, _, _, _, _, some (3, true)⟩) (v := ?v27) rfl (by kernel_rfl) (by kernel_rfl) (by kernel_rfl) (fun _ _ _ h => h) (Or.inl ⟨by rfl, ?hy27⟩) (by assumption) ?rest27
    case hy27 => (intro wS hSw; (try dsimp only at hSw); go_simp; (try with_reducible rfl))
    (try simp only [Act.put, List.setIfInBounds_toArray, List.set_cons_zero, List.set_cons_succ])
    refine wpAnyH_take (i := 5) (oi := ⟨some 17, _, _, _, _, some (3, true)⟩) (v := ?v28) rfl (by kernel_rfl) (by kernel_rfl) (by kernel_rfl) (fun _ _ _ h => h) (Or.inl ⟨by rfl, ?hy28⟩) (by assumption) ?rest28
    case hy28 => (intro wS hSw; (try dsimp only at hSw); go_simp; (try with_reducible rfl))
    (try simp only [Act.put, List.setIfInBounds_toArray, List.set_cons_zero, List.set_cons_succ])
    refine wpAnyH_take (i := 6) (oi := ⟨some 18, _, _, _, _, none⟩) (v := ?v29) rfl (by kernel_rfl) (by kernel_rfl) (by kernel_rfl) (fun _ _ _ h => h) (Or.inl ⟨by rfl, ?hy29⟩) (by assumption) ?rest29
    case hy29 => (intro wS hSw; (try dsimp only at hSw); go_simp; (try with_reducible rfl))
    (try simp only [Act.put, List.setIfInBounds_toArray, List.set_cons_zero, List.set_cons_succ])
    refine wpAnyH_take (i := 7) (oi := ⟨some 19, _, _, _, _, none⟩) (v := ?v30) rfl (by kernel_rfl) (by kernel_rfl) (by kernel_rfl) (fun _ _ _ h => h) (Or.inl ⟨by rfl, ?hy30⟩) (by assumption) ?rest30
    case hy30 => (intro wS hSw; (try dsimp only at hSw); go_simp; (try with_reducible rfl))
    (try simp only [Act.put, List.setIfInBounds_toArray, List.set_cons_zero, List.set_cons_succ])
    refine wpAnyH_take (i := 8) (oi := ⟨some 20, _, _, _, _, some (7, true)⟩) (v := ?v31) rfl (by kernel_rfl) (by kernel_rfl) (by kernel_rfl) (fun _ _ _ h => h) (Or.inl ⟨by rfl, ?hy31⟩) (by assumption) ?rest31
    case hy31 => (intro wS hSw; (try dsimp only at hSw); go_simp; (try with_reducible rfl))
    (try simp only [Act.put, List.setIfInBounds_toArray, List.set_cons_zero, List.set_cons_succ])
    refine wpAnyH_take (i := 9) (oi := ⟨some 21, _, _, _, _, some (7, true)⟩) (v := ?v32) rfl (by kernel_rfl) (by kernel_rfl) (by kernel_rfl) (fun _ _ _ h => h) (Or.inl ⟨by rfl, ?hy32⟩) (by assumption) ?rest32
    case hy32 => (intro wS hSw; (try dsimp only at hSw); go_simp; (try with_reducible rfl))
    (try simp only [Act.put, List.setIfInBounds_toArray, List.set_cons_zero, List.set_cons_succ])
    refine wpAnyH_take (i := 10) (oi := ⟨some 22, _, _, _, _, none⟩) (v := ?v33) rfl (by kernel_rfl) (by kernel_rfl) (by kernel_rfl) (fun _ _ _ h => h) (Or.inl ⟨by rfl, ?hy33⟩) (by assumption) ?rest33
    case hy33 => (intro wS hSw; (try dsimp only at hSw); go_simp; (try with_reducible rfl))
    (try simp only [Act.put, List.setIfInBounds_toArray, List.set_cons_zero, List.set_cons_succ])
    refine wpAnyH_ready (rs := [12]) (by kernel_rfl) (by simp) ?_
    refine AllReadyH.cons (o := ⟨some 24, _, _, _, _, none⟩) rfl (fun K hK => ?_) AllReadyH.nil
    go_simp
    go_at_call 29
    refine (unreq_any HUV.out _ _).mono ?_
    rintro e w5 ⟨rfl, rfl⟩
    go_wp2_with fail
    refine hK.out _ _ (by exact ⟨h0, h1, h2, h3⟩) (fun hHeld => ?_)
    clear hK K
    (try simp only [Act.put, List.setIfInBounds_toArray, List.set_cons_zero, List.set_cons_succ])
    refine wpAnyH_take (i := 13) (oi := ⟨some 11, _, _, _, _, none⟩) (v := ?v34) rfl (by kernel_rfl) (by kernel_rfl) (by kernel_rfl) (fun _ _ _ h => h) (Or.inl ⟨by rfl, ?hy34⟩) (by assumption) ?rest34
    case hy34 => (intro wS hSw; (try dsimp only at hSw); go_simp; (try with_reducible rfl))
    (try simp only [Act.put, List.setIfInBounds_toArray, List.set_cons_zero, List.set_cons_succ])
    refine wpAnyH_done (by kernel_rfl) ?_ _
    clear hHeld
    go_wp2
    go_ret2
    exact ⟨rfl, HFV.out⟩
set_option maxHeartbeats 4000000 in
theorem unlist_any {w : World} {v : Option Addr} (h : UnW w v) (x : Tx) : Calls Try.prog 17 #[.pointer v, .string ⟨x.toArray⟩] w (UnEnd w (.tuple #[.slice none 0 0, .int .i64 9])) := by
  obtain ⟨bx, hbx⟩ : ∃ b, w.heap.size = b := ⟨_, rfl⟩
  obtain ⟨W, hW⟩ : ∃ W, W = (((w.alloc (.cells #[.pointer v] 25)).alloc (.cells #[.string ⟨x.toArray⟩] 9)).alloc (.cells #[.slice none 0 0] 46)) := ⟨_, rfl⟩
  obtain ⟨Y0, hY0⟩ : ∃ Y, Y = w.alloc (.cells #[.pointer v] 25) := ⟨_, rfl⟩
  have G0 : Fr Non w Y0 := by rw [hY0]; exact (Fr.refl _ _).alloc _
  have s0 : Y0.heap.size = bx + 1 := by rw [hY0]; simp; omega
  have b0 : Blk Y0 (bx) 25 #[.pointer v] := by rw [hY0, ← hbx]; exact Blk.new _ _ _
  obtain ⟨Y1, hY1⟩ : ∃ Y, Y = Y0.alloc (.cells #[.string ⟨x.toArray⟩] 9) := ⟨_, rfl⟩
  have G1 : Fr Non Y0 Y1 := by rw [hY1]; exact (Fr.refl _ _).alloc _
  have s1 : Y1.heap.size = bx + 2 := by rw [hY1]; simp; omega
  have b1 : Blk Y1 (bx + 1) 9 #[.string ⟨x.toArray⟩] := by rw [hY1, ← s0]; exact Blk.new _ _ _
  obtain ⟨Y2, hY2⟩ : ∃ Y, Y = Y1.alloc (.cells #[.slice none 0 0] 46) := ⟨_, rfl⟩
  have G2 : Fr Non Y1 Y2 := by rw [hY2]; exact (Fr.refl _ _).alloc _
  have s2 : Y2.heap.size = bx + 3 := by rw [hY2]; simp; omega
  have b2 : Blk Y2 (bx + 2) 46 #[.slice none 0 0] := by rw [hY2, ← s1]; exact Blk.new _ _ _
  have hWY : W = Y2 := by rw [hW, hY2, hY1, hY0]
  subst hWY
  have FW : Fr Non w W := ((G0.trans G1).trans G2)
  have e0 := Lib.hid ((b0.fr G1 (fun e => e)).fr G2 (fun e => e))
  have h0 : W.cell? ⟨bx, 0, none⟩ = some (.pointer v) := e0.out.cell 0
  have e1 := Lib.hid (b1.fr G2 (fun e => e))
  have h1 : W.cell? ⟨bx + 1, 0, none⟩ = some (.string ⟨x.toArray⟩) := e1.out.cell 0
  have e2 := Lib.hid b2
  have h2 : W.cell? ⟨bx + 2, 0, none⟩ = some (.slice none 0 0) := e2.out.cell 0
  have hz : W.heap.size = bx + 3 := s2
  have HFW := Lib.hid FW
  have HU := Lib.hid (h.non FW)
  have hmf := makeFunc_run
  clear e0 e1 e2 hY0 G0 s0 b0 hY1 G1 s1 b1 hY2 G2 s2 b2 FW h
  go_enter Try.func17, Try.ntmps17
  go_wp2_with fail
  try rw [hbx]
  try rw [← hW]
  clear hW hbx
  refine (unreq_any HU.out _ _).mono ?_
  rintro e w5 ⟨rfl, rfl⟩
  go_wp2
  go_ret2
  exact ⟨rfl, HFW.out⟩
end Go.Proofs.Ytpepapadbmkjiaa

namespace Go.Proofs.Ytpepapadbmkjiaa
open Go.RowKit
theorem num24_any (n : Int) (w : World) : Calls Try.prog 7 #[.int .i64 n] w fun e w' => e = .returned (.int .i64 n) ∧ w = w' := by
  go_enter Try.func7, Try.ntmps7
  go_wp2
  go_ret
  exact ⟨rfl, rfl⟩
def HiB (W : World) (k : Nat) : Prop := W.heap.size ≤ k
def avP (av : Nat → Prop) (b : Nat) (k : Nat) : Prop := av k ∨ k = b
end Go.Proofs.Ytpepapadbmkjiaa

namespace Go.Proofs.Ytpepapadbmkjiaa
open Go.RowKit
def lv1 : Wst := failS newS [2]
def lv2 : Wst := (putS lv1 [97] [120] false).2
theorem lv_put : (putS lv1 [97] [120] false).1 = 11 := by decide +kernel
theorem lv_get : getN lv2 [97] 0 (-1) = 0 := by decide +kernel
theorem lv_getB : getB lv2 [97] 0 (-1) = [120] := by decide +kernel
theorem lv_steps : (getS lv2 [97] 0 (-1)).steps = 2 := by decide +kernel
set_option maxHeartbeats 4000000 in
theorem live24_any (w : World) : Calls Try.prog 5 #[] w fun e w' => e = .returned (.bool true) ∧ Fr Non w w' := by
  obtain ⟨av, hav⟩ : ∃ av : Nat → Prop, av = fun k => k < w.heap.size := ⟨_, rfl⟩
  have HA : Hid (∀ k, av k ↔ k < w.heap.size) := Lib.hid (fun k => by rw [hav])
  clear hav
  have kc := fun (w : World) (C : Array Value) (n c : Nat) => Lib.run_convert_bytes_const (P := Try.prog) w 23 5 C n c Try.underlying23 Try.underlying5
  go_enter Try.func5, Try.ntmps5
  go_wp2_with fail
  refine (pwnew_any av w (fun k h => (HA.out k).1 h)).mono ?_
  rintro e w1 ⟨g, rfl, -, P1, F1⟩
  obtain ⟨W1, hW1⟩ : ∃ W, w1.alloc (.cells #[.int .i64 2] 3) = W := ⟨_, rfl⟩
  have FA1 : Fr Non w1 W1 := by rw [← hW1]; exact (Fr.refl _ _).alloc _
  have V1 : Vs iv W1 (.slice (some ⟨w1.heap.size, 0, none⟩) 1 1) [2] := by rw [← hW1]; exact vs_row (f := iv) w1 [2] 3 (0, 0)
  have P2 := Lib.hid ((P1.avoid (av' := avP av w1.heap.size) (fun k h => h.elim Or.inl (fun e => Or.inr (Nat.le_of_eq e.symm)))).keep FA1 (fun k h => h.elim))
  have B1 : Hid (∀ k, avP av w1.heap.size k → k < W1.heap.size) := Lib.hid (fun k h => by
    have h1 : W1.heap.size = w1.heap.size + 1 := by rw [← hW1]; simp
    have := F1.size
    exact h.elim (fun h => by have := (HA.out k).1 h; omega) (fun e => by omega))
  have FF1 := Lib.hid (F1.trans FA1)
  have HV1 := Lib.hid V1
  clear P1 F1 FA1 V1
  go_wp2_with fail
  try rw [hW1]
  refine (pwfaults_any P2.out B1.out _ [2] HV1.out (by simp) (by simp)).mono ?_
  rintro e w2 ⟨rfl, P3, F3⟩
  obtain ⟨W2, hW2⟩ : ∃ W, w2.alloc (.cells #[.int .u8 120] 5 (1, 2)) = W := ⟨_, rfl⟩
  have FA2 : Fr Non w2 W2 := by rw [← hW2]; exact (Fr.refl _ _).alloc _
  have V2 : Bs W2 (.slice (some ⟨w2.heap.size, 0, none⟩) 1 1) [120] := by rw [← hW2]; exact vs_row (f := bv) w2 [120] 5 (1, 2)
  have P4 := Lib.hid ((P3.avoid (av' := avP av w2.heap.size) (fun k h => h.elim (fun h => Or.inl (Or.inl h)) (fun e => Or.inr (Nat.le_of_eq e.symm)))).keep FA2 (fun k h => h.elim))
  have FF2 := Lib.hid ((F3.mono (S' := HiB w) (fun k _ h => by unfold HiB; by_cases hk : k < w.heap.size; exact absurd (Or.inl ((HA.out k).2 hk)) h; omega)).then FA2)
  have B2 : Hid (∀ k, avP av w2.heap.size k → k < W2.heap.size) := Lib.hid (fun k h => by
    have h1 : W2.heap.size = w2.heap.size + 1 := by rw [← hW2]; simp
    have := F3.size
    have := FF1.out.size
    exact h.elim (fun h => by have := (HA.out k).1 h; omega) (fun e => by omega))
  have FF3 := Lib.hid ((FF1.out.any (S := HiB w)).trans FF2.out)
  have HV2 := Lib.hid V2
  clear P3 F3 FA2 V2 P2 hW1
  go_wp2_with fail
  try rw [hW2]
  refine (pwput_any P4.out B2.out (by omega) [97] (by simp) _ [120] (fun W' hf => Vs.fr HV2.out hf (fun q hq h => h (Or.inr (by simpa [Value.ownBlock] using hq.symm)))) (by simp)).mono ?_
  rintro e w3 ⟨rfl, ⟨n5, -, P5⟩, F5⟩
  rw [show failS newS [2] = lv1 from rfl, lv_put] at *
  have P5' := Lib.hid (show PW av n5 w3 g lv2 from P5.avoid (fun k h => Or.inl (Or.inl h)))
  have FF5 := Lib.hid (FF3.out.trans (F5.mono (S' := HiB w) (fun k _ h => by unfold HiB; by_cases hk : k < w.heap.size; exact absurd (Or.inl ((HA.out k).2 hk)) h; omega)))
  clear P5 F5 P4 hW2
  go_wp2_with fail
  refine (pwget_any P5'.out (fun k h => by have := (HA.out k).1 h; have := FF5.out.size; omega) [97] (by simp) 0 (-1) (by decide) (by decide)).mono ?_
  rintro e w4 ⟨⟨u, rfl, hu, -⟩, P6, F6⟩
  rw [lv_get] at *
  rw [lv_getB] at hu
  have P6' := Lib.hid P6
  have FF6 := Lib.hid (FF5.out.trans (F6.mono (S' := HiB w) (fun k _ h => by unfold HiB; by_cases hk : k < w.heap.size; exact absurd ((HA.out k).2 hk) h; omega)))
  have HU := Lib.hid hu
  have hcv := run_conv_Bs hu 23 9 5 Try.underlying23 Try.underlying5 Try.underlying9
  clear P6 F6 P5' hu
  go_wp2_with fail
  refine (num24_any _ w4).mono ?_
  rintro e w5 ⟨rfl, rfl⟩
  go_wp2_with fail
  refine (num24_any _ w4).mono ?_
  rintro e w5 ⟨rfl, rfl⟩
  go_wp2_with fail
  refine (pwsteps_any P6'.out).mono ?_
  rintro e w5 ⟨rfl, rfl⟩
  rw [lv_steps]
  go_wp2
  go_ret
  exact ⟨rfl, FF6.out.mono (fun k h1 h2 => by unfold HiB at h2; omega)⟩
end Go.Proofs.Ytpepapadbmkjiaa

namespace Go.Proofs.Ytpepapadbmkjiaa
open Go.RowKit
set_option maxHeartbeats 8000000 in
theorem worldNil_walk (x : Tx) (v : Value) (b : List UInt8) (n : Int) (W : World) (hv : Bs W v b) :
    Calls Try.prog 4 #[.string ⟨x.toArray⟩, v, .int .i64 n] W fun e w' => e = .returned (.bool true) ∧ Below W.heap.size W w' := by
  obtain ⟨Ab, cb, rfl⟩ := Vs.shape (f := bv) hv
  by_cases hbig : 100 < x.length ∨ 300 < b.length
  · have HD : Hid ((decide ((100 : Int) < (x.length : Int)) || decide ((300 : Int) < (b.length : Int))) = true) := Lib.hid (by
      rcases hbig with h | h
      · rw [decide_eq_true (by omega)]; rfl
      · rw [decide_eq_true (show (300 : Int) < (b.length : Int) by omega), Bool.or_true])
    obtain ⟨p1, h1⟩ : ∃ q : Bool, decide ((100 : Int) < (x.length : Int)) = q := ⟨_, rfl⟩
    obtain ⟨p2, h2⟩ : ∃ q : Bool, decide ((300 : Int) < (b.length : Int)) = q := ⟨_, rfl⟩
    rw [h1, h2] at HD
    clear hbig
    cases p1
    · cases p2
      · exact absurd HD.out (by decide)
      · clear HD
        go_enter Try.func4, Try.ntmps4
        go_wp2_with fail
        refine (live24_any W).mono ?_
        rintro e w4 ⟨rfl, F4⟩
        go_wp2
        go_ret
        exact ⟨rfl, F4.below⟩
    · clear HD h2
      go_enter Try.func4, Try.ntmps4
      go_wp2_with fail
      refine (live24_any W).mono ?_
      rintro e w4 ⟨rfl, F4⟩
      go_wp2
      go_ret
      exact ⟨rfl, F4.below⟩
  · have h1 : decide ((100 : Int) < (x.length : Int)) = false := decide_eq_false (by omega)
    have h2 : decide ((300 : Int) < (b.length : Int)) = false := decide_eq_false (by omega)
    have hx : x.length ≤ 1000000000 := by omega
    have HVW := Lib.hid hv
    clear hbig hv
    go_enter Try.func4, Try.ntmps4
    go_wp2
    go_loopw [7] (fun i wr => ∃ k : Nat, k ≤ 2 ∧ i = .int .i64 k ∧ Hid (Fr Non W wr)) (fun i _ => 2 - (intOf i).toNat)
    case atStart => exact ⟨0, by omega, rfl, Lib.hid (Fr.refl _ _)⟩
    case round =>
      obtain ⟨k, hk, rfl, HF⟩ := hrel
      clear h1 h2
      have HV := Lib.hid (HVW.out.non HF.out)
      by_cases hk0 : k = 0
      · subst hk0
        have HU : Hid (UnW wr none) := Lib.hid (Or.inl rfl)
        go_wp2_with fail
        refine (unfaults_any HU.out _).mono ?_
        rintro e wq ⟨rfl, rfl⟩
        go_wp2_with fail
        refine (unfuse_any HU.out n).mono ?_
        rintro e wq ⟨rfl, rfl⟩
        go_wp2_with fail
        refine (unup_any HU.out).mono ?_
        rintro e wq ⟨rfl, rfl⟩
        go_wp2_with fail
        refine (unget_any HU.out x hx n).mono ?_
        rintro e y4 ⟨rfl, F4⟩
        have HU := Lib.hid (HU.out.non F4)
        have HV := Lib.hid (HV.out.non F4)
        have HF := Lib.hid (HF.out.trans F4)
        clear F4
        go_wp2_with fail
        refine (unlist_any HU.out x).mono ?_
        rintro e y5 ⟨rfl, F5⟩
        have HU := Lib.hid (HU.out.non F5)
        have HV := Lib.hid (HV.out.non F5)
        have HF := Lib.hid (HF.out.trans F5)
        clear F5
        go_wp2_with fail
        refine (unsize_any HU.out x).mono ?_
        rintro e wq ⟨rfl, rfl⟩
        go_wp2_with fail
        refine (unput_any HU.out x hx _ b HV.out).mono ?_
        rintro e y7 ⟨rfl, F7⟩
        have HU := Lib.hid (HU.out.non F7)
        have HV := Lib.hid (HV.out.non F7)
        have HF := Lib.hid (HF.out.trans F7)
        clear F7
        go_wp2_with fail
        refine (num24_any _ y7).mono ?_
        rintro e wq ⟨rfl, rfl⟩
        go_wp2_with fail
        refine (unputnew_any HU.out x hx _ b HV.out).mono ?_
        rintro e y9 ⟨rfl, F9⟩
        have HU := Lib.hid (HU.out.non F9)
        have HV := Lib.hid (HV.out.non F9)
        have HF := Lib.hid (HF.out.trans F9)
        clear F9
        go_wp2_with fail
        refine (num24_any _ y9).mono ?_
        rintro e wq ⟨rfl, rfl⟩
        go_wp2_with fail
        refine (num24_any _ y9).mono ?_
        rintro e wq ⟨rfl, rfl⟩
        go_wp2_with fail
        refine (num24_any _ y9).mono ?_
        rintro e wq ⟨rfl, rfl⟩
        go_wp2_with fail
        refine (undel_any HU.out x hx).mono ?_
        rintro e y13 ⟨rfl, F13⟩
        have HU := Lib.hid (HU.out.non F13)
        have HV := Lib.hid (HV.out.non F13)
        have HF := Lib.hid (HF.out.trans F13)
        clear F13
        go_wp2_with fail
        refine (num24_any _ y13).mono ?_
        rintro e wq ⟨rfl, rfl⟩
        go_wp2_with fail
        refine (unstep_any HU.out).mono ?_
        rintro e wq ⟨rfl, rfl⟩
        go_wp2_with fail
        refine (num24_any _ y13).mono ?_
        rintro e wq ⟨rfl, rfl⟩
        go_wp2_with fail
        refine (unmade_any HU.out).mono ?_
        rintro e wq ⟨rfl, rfl⟩
        go_wp2_with fail
        refine (undead_any HU.out).mono ?_
        rintro e wq ⟨rfl, rfl⟩
        go_wp2_with fail
        refine (unsteps_any HU.out).mono ?_
        rintro e wq ⟨rfl, rfl⟩
        go_wp2_with fail
        refine (unasked_any HU.out).mono ?_
        rintro e wq ⟨rfl, rfl⟩
        go_wp2_with fail
        refine (unnames_any HU.out).mono ?_
        rintro e wq ⟨rfl, rfl⟩
        go_wp2
        exact ⟨⟨1, by omega, rfl, HF⟩, by decide⟩
      · by_cases hk1 : k = 1
        · subst hk1
          have FA : Fr Non wr (wr.alloc (.cells #[.map none, .slice none 0 0, .int .i64 0, .int .i64 0, .int .i64 0] 44)) := (Fr.refl _ _).alloc _
          have HU : Hid (UnW (wr.alloc (.cells #[.map none, .slice none 0 0, .int .i64 0, .int .i64 0, .int .i64 0] 44)) (some ⟨wr.heap.size, 0, none⟩)) := Lib.hid (Or.inr ⟨_, rfl, Blk.new _ _ _⟩)
          replace HV := Lib.hid (HV.out.non FA)
          replace HF := Lib.hid (HF.out.trans FA)
          clear FA
          go_wp2_with fail
          refine (unfaults_any HU.out _).mono ?_
          rintro e wq ⟨rfl, rfl⟩
          go_wp2_with fail
          refine (unfuse_any HU.out n).mono ?_
          rintro e wq ⟨rfl, rfl⟩
          go_wp2_with fail
          refine (unup_any HU.out).mono ?_
          rintro e wq ⟨rfl, rfl⟩
          go_wp2_with fail
          refine (unget_any HU.out x hx n).mono ?_
          rintro e y4 ⟨rfl, F4⟩
          have HU := Lib.hid (HU.out.non F4)
          have HV := Lib.hid (HV.out.non F4)
          have HF := Lib.hid (HF.out.trans F4)
          clear F4
          go_wp2_with fail
          refine (unlist_any HU.out x).mono ?_
          rintro e y5 ⟨rfl, F5⟩
          have HU := Lib.hid (HU.out.non F5)
          have HV := Lib.hid (HV.out.non F5)
          have HF := Lib.hid (HF.out.trans F5)
          clear F5
          go_wp2_with fail
          refine (unsize_any HU.out x).mono ?_
          rintro e wq ⟨rfl, rfl⟩
          go_wp2_with fail
          refine (unput_any HU.out x hx _ b HV.out).mono ?_
          rintro e y7 ⟨rfl, F7⟩
          have HU := Lib.hid (HU.out.non F7)
          have HV := Lib.hid (HV.out.non F7)
          have HF := Lib.hid (HF.out.trans F7)
          clear F7
          go_wp2_with fail
          refine (num24_any _ y7).mono ?_
          rintro e wq ⟨rfl, rfl⟩
          go_wp2_with fail
          refine (unputnew_any HU.out x hx _ b HV.out).mono ?_
          rintro e y9 ⟨rfl, F9⟩
          have HU := Lib.hid (HU.out.non F9)
          have HV := Lib.hid (HV.out.non F9)
          have HF := Lib.hid (HF.out.trans F9)
          clear F9
          go_wp2_with fail
          refine (num24_any _ y9).mono ?_
          rintro e wq ⟨rfl, rfl⟩
          go_wp2_with fail
          refine (num24_any _ y9).mono ?_
          rintro e wq ⟨rfl, rfl⟩
          go_wp2_with fail
          refine (num24_any _ y9).mono ?_
          rintro e wq ⟨rfl, rfl⟩
          go_wp2_with fail
          refine (undel_any HU.out x hx).mono ?_
          rintro e y13 ⟨rfl, F13⟩
          have HU := Lib.hid (HU.out.non F13)
          have HV := Lib.hid (HV.out.non F13)
          have HF := Lib.hid (HF.out.trans F13)
          clear F13
          go_wp2_with fail
          refine (num24_any _ y13).mono ?_
          rintro e wq ⟨rfl, rfl⟩
          go_wp2_with fail
          refine (unstep_any HU.out).mono ?_
          rintro e wq ⟨rfl, rfl⟩
          go_wp2_with fail
          refine (num24_any _ y13).mono ?_
          rintro e wq ⟨rfl, rfl⟩
          go_wp2_with fail
          refine (unmade_any HU.out).mono ?_
          rintro e wq ⟨rfl, rfl⟩
          go_wp2_with fail
          refine (undead_any HU.out).mono ?_
          rintro e wq ⟨rfl, rfl⟩
          go_wp2_with fail
          refine (unsteps_any HU.out).mono ?_
          rintro e wq ⟨rfl, rfl⟩
          go_wp2_with fail
          refine (unasked_any HU.out).mono ?_
          rintro e wq ⟨rfl, rfl⟩
          go_wp2_with fail
          refine (unnames_any HU.out).mono ?_
          rintro e wq ⟨rfl, rfl⟩
          go_wp2
          exact ⟨⟨2, by omega, rfl, HF⟩, by decide⟩
        · obtain rfl : k = 2 := by omega
          obtain ⟨q, hq⟩ : ∃ q, nm24 x = q := ⟨_, rfl⟩
          have HN1 := Lib.hid (fun w => pwname_any x w hx)
          have HN2 := Lib.hid (fun w => dwname_any x w hx)
          rw [hq] at HN1 HN2
          have hqq : (q == q) = true := beq_self_eq_true _
          clear hq hk hk0 hk1
          go_wp2_with fail
          refine (pwnew_any (fun _ => False) wr (fun _ h => h.elim)).mono ?_
          rintro e y1 ⟨g, rfl, -, P1, F1⟩
          have HP := Lib.hid P1
          replace HF := Lib.hid (HF.out.trans F1)
          clear P1 F1
          go_wp2_with fail
          refine (pwmade_any HP.out).mono ?_
          rintro e wq ⟨rfl, rfl⟩
          go_wp2_with fail
          refine (HN1.out _).mono ?_
          rintro e wq ⟨rfl, rfl⟩
          go_wp2_with fail
          refine (HN2.out _).mono ?_
          rintro e wq ⟨rfl, rfl⟩
          go_wp2_with fail
          refine (live24_any y1).mono ?_
          rintro e y2 ⟨rfl, F2⟩
          go_wp2
          go_ret
          exact ⟨rfl, (HF.out.trans F2).below⟩
end Go.Proofs.Ytpepapadbmkjiaa
