/-
  Several texts in one: The walk of the document's Make, on a tape; The walk of Right. By an AI agent.
-/
import Derived.Test.YtknefjigdlbacaaGreatDoorSkKAN
import Derived.Test.YtknefjigdlbacaaGreatDoorSkKAL
import Derived.Test.YtknefjigdlbacaaGreatDoorSkKAF
set_option linter.unusedSimpArgs false
set_option linter.unusedVariables false
namespace Go.Proofs.YtknefjigdlbacaaGreatDoor
open Go.RowKit Go.Maps
open Ac (A)
/-- A tape behind k acts; x is the act behind all answers. -/
structure Ts (B : Nat) (w : World) (t : Nat) (ad : Option Addr) (gs : List Nat) (c k : Nat) (x : A) : Prop where
  tB : B ≤ t
  own : Tp w t ad gs.length c (min k gs.length) (decide (gs.length < k)) (if gs.length < k then x else ⟨0, 0, 0, 0, 0⟩)
  sl : Sl .u64 w B ad (Kr.up gs)
section
variable {B : Nat} {w w' : World} {t c k : Nat} {ad : Option Addr} {gs : List Nat} {x y : A}
theorem Ts.bw (h : Ts B w t ad gs c k x) : B ≤ w.heap.size := by have := h.tB; have := h.own.lt; omega
theorem Ts.chg (h : Ts B w t ad gs c k x) (hc : Chg t w w') : Below B w w' := hc.below (fun k hk => by have := h.tB; omega) h.bw
theorem Ts.below (h : Ts B w t ad gs c k x) (hb : Below w.heap.size w w') : Ts B w' t ad gs c k x := ⟨h.tB, h.own.below hb, h.sl.below (hb.mono h.bw)⟩
theorem tdo_any (h : Ts B w t ad gs c k x) (hx : k = gs.length → y = x) (hm : gs.length ≤ 1000000) : Calls Tryz.prog 53 #[.pointer (some ⟨t, 0, none⟩), av y] w fun e w' => e = .returned (.int .u64 ((gs.getD k 0 : Nat) : Int)) ∧ Ts B w' t ad gs c (k + 1) x ∧ Chg t w w' := by
  have ho := h.own
  rcases Nat.lt_trichotomy k gs.length with hk | hk | hk
  · rw [Nat.min_eq_left (by omega), decide_eq_false (by omega), if_neg (by omega)] at ho
    rcases h.sl with h0 | ⟨b, off, rfl, hb, hc⟩
    · have : (Kr.up gs).length = 0 := by rw [h0]; rfl
      rw [Kr.up_len] at this; omega
    · have hck := hc k (by rw [Kr.up_len]; exact hk)
      rw [Kr.up_get hk] at hck
      refine (tdo_got w t _ c k (gs.getD k 0) b off _ y ho hk hm (by have := h.tB; omega) (by have := h.bw; omega) hck).mono ?_
      rintro e w' ⟨rfl, h1, h2⟩
      refine ⟨rfl, ⟨h.tB, ?_, h.sl.below (h.chg h2)⟩, h2⟩
      rw [Nat.min_eq_left (by omega), decide_eq_false (by omega), if_neg (by omega)]
      exact h1
  · subst hk
    rw [Nat.min_self, decide_eq_false (by omega), if_neg (by omega)] at ho
    refine (tdo_end w t _ c _ ad _ y ho (Nat.le_refl _)).mono ?_
    rintro e w' ⟨rfl, h1, h2⟩
    refine ⟨by rw [List.getD_eq_getElem?_getD, List.getElem?_eq_none (Nat.le_refl _)]; rfl, ⟨h.tB, ?_, h.sl.below (h.chg h2)⟩, h2⟩
    rw [Nat.min_eq_right (by omega), decide_eq_true (by omega), if_pos (by omega), ← hx rfl]
    exact h1
  · have ho' := ho
    rw [Nat.min_eq_right (by omega), decide_eq_true (by omega), if_pos (by omega)] at ho
    refine (tdo_over w t _ c _ ad _ y ho).mono ?_
    rintro e w' ⟨rfl, h1⟩
    refine ⟨by rw [List.getD_eq_getElem?_getD, List.getElem?_eq_none (by omega)]; rfl, ⟨h.tB, ?_, h.sl.below (h1.mono h.bw)⟩, Tn.of_below h1⟩
    rw [Nat.min_eq_right (by omega), decide_eq_true (by omega), if_pos (by omega)]
    exact ho.below h1
set_option maxHeartbeats 1000000 in
theorem tstore_any (b i v : Nat) (h : Ts B w t ad gs c k x) (hx : k = gs.length → ⟨2, b, (i : Int), 0, v⟩ = x) (hm : gs.length ≤ 1000000) : Calls Tryz.prog 139 #[.pointer (some ⟨t, 0, none⟩), .int .u64 (b : Int), .int .i64 (i : Int), .int .u64 (v : Int)] w fun e w' => e = .returned (.tuple #[]) ∧ Ts B w' t ad gs c (k + 1) x ∧ Chg t w w' := by
  have K := Lib.hid (show Calls Tryz.prog 53 #[.pointer (some ⟨t, 0, none⟩), .agg #[.int .i64 2, .int .u64 (b : Int), .int .i64 (i : Int), .int .u64 0, .int .u64 (v : Int)]] w fun e w' => e = .returned (.int .u64 ((gs.getD k 0 : Nat) : Int)) ∧ Ts B w' t ad gs c (k + 1) x ∧ Chg t w w' from tdo_any (y := ⟨2, b, (i : Int), 0, v⟩) h hx hm)
  clear h hx
  generalize gs.getD k 0 = y at *
  go_enter Tryz.func139, Tryz.ntmps139
  go_wp2_with fail
  with_reducible refine K.out.mono ?_
  rintro e w' ⟨rfl, h1, h2⟩
  have H1 := Lib.hid h1
  have H2 := Lib.hid h2
  clear h1 h2
  go_wp2
  go_end0
  exact ⟨rfl, H1.out, H2.out⟩
end
/-- The k-th act. -/
def ac (l : List Nat) (b k : Nat) : A := if k = 0 then ⟨5, 0, l.length, 0, 0⟩ else ⟨2, b, ((k - 1 : Nat) : Int), 0, l.getD (k - 1) 0⟩
/-- How many acts there are. -/
def cnt (n b : Nat) : Nat := if b = 0 then 1 else n + 1
theorem cnt_more {n m b : Nat} (hb : m = 0 → b = 0) : decide (m < cnt n b) = Kr.more n m b := by
  unfold cnt Kr.more
  by_cases h : b = 0
  · subst h; rw [Bool.eq_iff_iff]; simp
  · have : m ≠ 0 := fun e => h (hb e)
    rw [Bool.eq_iff_iff]; simp [h, this]; omega
theorem act_ac {l : List Nat} {m b : Nat} (hb : m = 0 → b = 0) : (if m < cnt l.length b then ac l b m else ⟨0, 0, 0, 0, 0⟩) = Kr.act l m b := by
  unfold Kr.act
  rw [← cnt_more hb]
  by_cases h : m < cnt l.length b
  · rw [if_pos h, decide_eq_true h, if_pos rfl]; rfl
  · rw [if_neg h, decide_eq_false h]; rfl
end Go.Proofs.YtknefjigdlbacaaGreatDoor
set_option linter.unusedSimpArgs false
namespace Go.Proofs.YtknefjigdlbacaaGreatDoor
open Go.RowKit
open Ac (A)
/-- The fields of a kind, as fieldsOf answers them. -/
def Fl (k : Int) (f0 f1 f2 f3 kn : Bool) : Prop := ∀ w, Calls Tryz.prog 143 #[.int .i64 k] w (Gives (.tuple #[.agg #[.bool f0, .bool f1, .bool f2, .bool f3], .bool kn]) w)
theorem Fl.at {k : Int} {f0 f1 f2 f3 kn : Bool} (h : Fl k f0 f1 f2 f3 kn) (w : World) : Calls Tryz.prog 143 #[.int .i64 k] w (Gives (.tuple #[.agg #[.bool f0, .bool f1, .bool f2, .bool f3], .bool kn]) w) := h w
theorem ix0 (v0 v1 v2 v3 : Value) : ∀ w : World, (Instr.index 118 (.agg #[v0, v1, v2, v3]) (.int .i64 0)).run Tryz.prog w = .ok v0 w := fun _ => by kernel_rfl
theorem ix1 (v0 v1 v2 v3 : Value) : ∀ w : World, (Instr.index 118 (.agg #[v0, v1, v2, v3]) (.int .i64 1)).run Tryz.prog w = .ok v1 w := fun _ => by kernel_rfl
theorem ix2 (v0 v1 v2 v3 : Value) : ∀ w : World, (Instr.index 118 (.agg #[v0, v1, v2, v3]) (.int .i64 2)).run Tryz.prog w = .ok v2 w := fun _ => by kernel_rfl
theorem ix3 (v0 v1 v2 v3 : Value) : ∀ w : World, (Instr.index 118 (.agg #[v0, v1, v2, v3]) (.int .i64 3)).run Tryz.prog w = .ok v3 w := fun _ => by kernel_rfl
set_option maxRecDepth 100000 in
set_option maxHeartbeats 4000000 in
theorem right_none (x : A) {f0 f1 f2 f3 : Bool} (w : World) (HF : Hid (Fl x.k f0 f1 f2 f3 false)) : Calls Tryz.prog 112 #[av x] w (Gives (.bool false) w) := by
  have HB := Lib.hid (boxed_below w x)
  go_enter Tryz.func112, Tryz.ntmps112
  go_wp2_with fail
  with_reducible refine (HF.out.at _).mono ?_
  rintro e w1 ⟨rfl, hb⟩
  obtain ⟨c0, c1, c2, c3, c4⟩ := boxed_cells hb
  have hz := hb.size
  have hz1 : w.heap.size < w1.heap.size := by simp at hz; omega
  have HB1 := Lib.hid (HB.out.trans (hb.mono HB.out.size))
  clear hb hz
  go_wp2
  go_ret
  exact ⟨rfl, (HB1.out.alloc (by have := HB1.out.size; omega) _)⟩
set_option maxRecDepth 100000 in
set_option maxHeartbeats 4000000 in
theorem right_neg (x : A) {f0 f1 f2 f3 : Bool} (w : World) (HF : Hid (Fl x.k f0 f1 f2 f3 true)) (h : x.c < 0) : Calls Tryz.prog 112 #[av x] w (Gives (.bool false) w) := by
  have HB := Lib.hid (boxed_below w x)
  go_enter Tryz.func112, Tryz.ntmps112
  go_wp2_with fail
  with_reducible refine (HF.out.at _).mono ?_
  rintro e w1 ⟨rfl, hb⟩
  obtain ⟨c0, c1, c2, c3, c4⟩ := boxed_cells hb
  have hz := hb.size
  have hz1 : w.heap.size < w1.heap.size := by simp at hz; omega
  have HB1 := Lib.hid (HB.out.trans (hb.mono HB.out.size))
  clear hb hz
  go_wp2
  go_ret
  exact ⟨rfl, (HB1.out.alloc (by have := HB1.out.size; omega) _)⟩
set_option maxRecDepth 100000 in
set_option maxHeartbeats 4000000 in
theorem right_zero (x : A) {f0 f1 f2 f3 : Bool} (w : World) (HF : Hid (Fl x.k f0 f1 f2 f3 true)) (h0 : (x.c == 0) = true) (h5 : (x.k == 5) = true) (hn : 0 ≤ x.c) : Calls Tryz.prog 112 #[av x] w (Gives (.bool false) w) := by
  have HB := Lib.hid (boxed_below w x)
  go_enter Tryz.func112, Tryz.ntmps112
  go_wp2_with fail
  with_reducible refine (HF.out.at _).mono ?_
  rintro e w1 ⟨rfl, hb⟩
  obtain ⟨c0, c1, c2, c3, c4⟩ := boxed_cells hb
  have hz := hb.size
  have hz1 : w.heap.size < w1.heap.size := by simp at hz; omega
  have HB1 := Lib.hid (HB.out.trans (hb.mono HB.out.size))
  clear hb hz
  go_wp2
  go_ret
  exact ⟨rfl, (HB1.out.alloc (by have := HB1.out.size; omega) _)⟩
end Go.Proofs.YtknefjigdlbacaaGreatDoor
