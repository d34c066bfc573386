/-
  Several texts in one: Do and the document's Do, kind by kind. (gen_do.py); What an act does on an arena: room given out, or none; a word stored; The table of bounds; the walks of within, Size, TableCell, BoxCell and Whose, the program's and the document's; A routine, whatever it is made of: its value, its acts, what must be answered, and its states. By an AI agent.
-/
import Derived.Test.YtknefjigdlbacaaGreatDoorSkKAR
import Derived.Test.YtknefjigdlbacaaGreatDoorSkKAC
import Derived.Test.YtknefjigdlbacaaGreatDoorSkKAI
import Derived.Test.YtknefjigdlbacaaGreatDoorChecked
import Derived.WalkKit
import Derived.WalkSpells
import Derived.WalkLawsBesides
import Derived.WalkMore
import Derived.WalkSmall
import Derived.Below
import Derived.Lib.Hide
import Derived.IntWalk
set_option linter.unusedSimpArgs false
set_option linter.unusedVariables false
namespace Go.Proofs.YtknefjigdlbacaaGreatDoor
open Go.RowKit Go.Maps
open Mm (Mem Blk)
open Ac (A)
theorem cell_keep {w w' : World} {b : Nat} (h : w'.heap[b]? = w.heap[b]?) (o : Nat) : w'.cell? ⟨b, o, none⟩ = w.cell? ⟨b, o, none⟩ := by simp [World.cell?, h]
set_option maxRecDepth 100000 in
set_option maxHeartbeats 4000000 in
theorem dstep1 (pv : Value) (b : Nat) (c : Int) (o n : Nat) (v u : Int) (w : World) (Q : World → Prop) (h1 : c ≤ 9223372036854775807) (hr : Ac.right ⟨1, b, c, o, n⟩ = true)
    (K : ∀ w1, Below w.heap.size w w1 → Calls Tryz.prog 113 #[pv, .int .u64 (b : Int), .int .i64 c] w1 fun e w' => e = .returned (we v u) ∧ Q w') :
    Calls Tryz.prog 61 #[pv, .agg #[.int .i64 1, .int .u64 (b : Int), .int .i64 c, .int .u64 (o : Int), .int .u64 (n : Int)]] w fun e w' => e = .returned (.int .u64 v) ∧ Q w' := by
  have hR := right_any (⟨1, b, c, o, n⟩ : A) h1 (boxed w ⟨1, b, c, o, n⟩)
  rw [hr] at hR
  have HR := Lib.hid hR; clear hR
  have HB := Lib.hid (boxed_below w (⟨1, b, c, o, n⟩ : A))
  have HK := Lib.hid K; clear K
  try unfold we at HK
  go_enter Tryz.func61, Tryz.ntmps61
  go_wp2_with fail
  with_reducible refine HR.out.mono ?_
  rintro e w1 ⟨rfl, hb⟩
  obtain ⟨c0, c1, c2, c3, c4⟩ := boxed_cells hb
  have HB1 := Lib.hid (HB.out.trans (hb.mono HB.out.size))
  have HB0 := Lib.hid hb
  clear hb
  have K1 := Lib.hid (HK.out w1 HB1.out)
  go_wp2_with fail
  with_reducible refine K1.out.mono ?_
  rintro e w' ⟨rfl, HH⟩
  go_wp2
  go_ret
  exact ⟨rfl, HH⟩
set_option maxRecDepth 100000 in
set_option maxHeartbeats 4000000 in
theorem dstep2 (pv : Value) (b : Nat) (c : Int) (o n : Nat) (v u : Int) (w : World) (Q : World → Prop) (h1 : c ≤ 9223372036854775807) (hr : Ac.right ⟨2, b, c, o, n⟩ = true)
    (K : ∀ w1, Below w.heap.size w w1 → Calls Tryz.prog 114 #[pv, .int .u64 (b : Int), .int .i64 c, .int .u64 (n : Int)] w1 fun e w' => e = .returned (.int .i64 u) ∧ Q w') :
    Calls Tryz.prog 61 #[pv, .agg #[.int .i64 2, .int .u64 (b : Int), .int .i64 c, .int .u64 (o : Int), .int .u64 (n : Int)]] w fun e w' => e = .returned (.int .u64 0) ∧ Q w' := by
  have hR := right_any (⟨2, b, c, o, n⟩ : A) h1 (boxed w ⟨2, b, c, o, n⟩)
  rw [hr] at hR
  have HR := Lib.hid hR; clear hR
  have HB := Lib.hid (boxed_below w (⟨2, b, c, o, n⟩ : A))
  have HK := Lib.hid K; clear K
  try unfold we at HK
  go_enter Tryz.func61, Tryz.ntmps61
  go_wp2_with fail
  with_reducible refine HR.out.mono ?_
  rintro e w1 ⟨rfl, hb⟩
  obtain ⟨c0, c1, c2, c3, c4⟩ := boxed_cells hb
  have HB1 := Lib.hid (HB.out.trans (hb.mono HB.out.size))
  have HB0 := Lib.hid hb
  clear hb
  have K1 := Lib.hid (HK.out w1 HB1.out)
  go_wp2_with fail
  with_reducible refine K1.out.mono ?_
  rintro e w' ⟨rfl, HH⟩
  go_wp2
  go_ret
  exact ⟨rfl, HH⟩
set_option maxRecDepth 100000 in
set_option maxHeartbeats 4000000 in
theorem dstep3 (pv : Value) (b : Nat) (c : Int) (o n : Nat) (v u : Int) (w : World) (Q : World → Prop) (h1 : c ≤ 9223372036854775807) (hr : Ac.right ⟨3, b, c, o, n⟩ = true)
    (K : ∀ w1, Below w.heap.size w w1 → Calls Tryz.prog 115 #[pv, .int .u64 (b : Int), .int .i64 c, .int .u64 (o : Int), .int .u64 (n : Int)] w1 fun e w' => e = .returned (we v u) ∧ Q w') :
    Calls Tryz.prog 61 #[pv, .agg #[.int .i64 3, .int .u64 (b : Int), .int .i64 c, .int .u64 (o : Int), .int .u64 (n : Int)]] w fun e w' => e = .returned (.int .u64 v) ∧ Q w' := by
  have hR := right_any (⟨3, b, c, o, n⟩ : A) h1 (boxed w ⟨3, b, c, o, n⟩)
  rw [hr] at hR
  have HR := Lib.hid hR; clear hR
  have HB := Lib.hid (boxed_below w (⟨3, b, c, o, n⟩ : A))
  have HK := Lib.hid K; clear K
  try unfold we at HK
  go_enter Tryz.func61, Tryz.ntmps61
  go_wp2_with fail
  with_reducible refine HR.out.mono ?_
  rintro e w1 ⟨rfl, hb⟩
  obtain ⟨c0, c1, c2, c3, c4⟩ := boxed_cells hb
  have HB1 := Lib.hid (HB.out.trans (hb.mono HB.out.size))
  have HB0 := Lib.hid hb
  clear hb
  have K1 := Lib.hid (HK.out w1 HB1.out)
  go_wp2_with fail
  with_reducible refine K1.out.mono ?_
  rintro e w' ⟨rfl, HH⟩
  go_wp2
  go_ret
  exact ⟨rfl, HH⟩
set_option maxRecDepth 100000 in
set_option maxHeartbeats 4000000 in
theorem dstep4 (pv : Value) (b : Nat) (c : Int) (o n : Nat) (v u : Int) (w : World) (Q : World → Prop) (h1 : c ≤ 9223372036854775807) (hr : Ac.right ⟨4, b, c, o, n⟩ = true)
    (K : ∀ w1, Below w.heap.size w w1 → Calls Tryz.prog 116 #[pv, .int .u64 (b : Int), .int .i64 c, .int .u64 (n : Int)] w1 fun e w' => e = .returned (we v u) ∧ Q w') :
    Calls Tryz.prog 61 #[pv, .agg #[.int .i64 4, .int .u64 (b : Int), .int .i64 c, .int .u64 (o : Int), .int .u64 (n : Int)]] w fun e w' => e = .returned (.int .u64 v) ∧ Q w' := by
  have hR := right_any (⟨4, b, c, o, n⟩ : A) h1 (boxed w ⟨4, b, c, o, n⟩)
  rw [hr] at hR
  have HR := Lib.hid hR; clear hR
  have HB := Lib.hid (boxed_below w (⟨4, b, c, o, n⟩ : A))
  have HK := Lib.hid K; clear K
  try unfold we at HK
  go_enter Tryz.func61, Tryz.ntmps61
  go_wp2_with fail
  with_reducible refine HR.out.mono ?_
  rintro e w1 ⟨rfl, hb⟩
  obtain ⟨c0, c1, c2, c3, c4⟩ := boxed_cells hb
  have HB1 := Lib.hid (HB.out.trans (hb.mono HB.out.size))
  have HB0 := Lib.hid hb
  clear hb
  have K1 := Lib.hid (HK.out w1 HB1.out)
  go_wp2_with fail
  with_reducible refine K1.out.mono ?_
  rintro e w' ⟨rfl, HH⟩
  go_wp2
  go_ret
  exact ⟨rfl, HH⟩
set_option maxRecDepth 100000 in
set_option maxHeartbeats 4000000 in
theorem dstep5 (pv : Value) (b : Nat) (c : Int) (o n : Nat) (v u : Int) (w : World) (Q : World → Prop) (h1 : c ≤ 9223372036854775807) (hr : Ac.right ⟨5, b, c, o, n⟩ = true)
    (K : ∀ w1, Below w.heap.size w w1 → Calls Tryz.prog 58 #[pv, .int .i64 c] w1 fun e w' => e = .returned (.int .u64 v) ∧ Q w') :
    Calls Tryz.prog 61 #[pv, .agg #[.int .i64 5, .int .u64 (b : Int), .int .i64 c, .int .u64 (o : Int), .int .u64 (n : Int)]] w fun e w' => e = .returned (.int .u64 v) ∧ Q w' := by
  have hR := right_any (⟨5, b, c, o, n⟩ : A) h1 (boxed w ⟨5, b, c, o, n⟩)
  rw [hr] at hR
  have HR := Lib.hid hR; clear hR
  have HB := Lib.hid (boxed_below w (⟨5, b, c, o, n⟩ : A))
  have HK := Lib.hid K; clear K
  try unfold we at HK
  go_enter Tryz.func61, Tryz.ntmps61
  go_wp2_with fail
  with_reducible refine HR.out.mono ?_
  rintro e w1 ⟨rfl, hb⟩
  obtain ⟨c0, c1, c2, c3, c4⟩ := boxed_cells hb
  have HB1 := Lib.hid (HB.out.trans (hb.mono HB.out.size))
  have HB0 := Lib.hid hb
  clear hb
  have K1 := Lib.hid (HK.out w1 HB1.out)
  go_wp2_with fail
  with_reducible refine K1.out.mono ?_
  rintro e w' ⟨rfl, HH⟩
  go_wp2
  go_ret
  exact ⟨rfl, HH⟩
set_option maxRecDepth 100000 in
set_option maxHeartbeats 4000000 in
theorem dstep6 (pv : Value) (b : Nat) (c : Int) (o n : Nat) (v u : Int) (w : World) (Q : World → Prop) (h1 : c ≤ 9223372036854775807) (hr : Ac.right ⟨6, b, c, o, n⟩ = true)
    (K : ∀ w1, Below w.heap.size w w1 → Calls Tryz.prog 117 #[pv, .int .u64 (b : Int)] w1 fun e w' => e = .returned (.int .i64 u) ∧ Q w') :
    Calls Tryz.prog 61 #[pv, .agg #[.int .i64 6, .int .u64 (b : Int), .int .i64 c, .int .u64 (o : Int), .int .u64 (n : Int)]] w fun e w' => e = .returned (.int .u64 0) ∧ Q w' := by
  have hR := right_any (⟨6, b, c, o, n⟩ : A) h1 (boxed w ⟨6, b, c, o, n⟩)
  rw [hr] at hR
  have HR := Lib.hid hR; clear hR
  have HB := Lib.hid (boxed_below w (⟨6, b, c, o, n⟩ : A))
  have HK := Lib.hid K; clear K
  try unfold we at HK
  go_enter Tryz.func61, Tryz.ntmps61
  go_wp2_with fail
  with_reducible refine HR.out.mono ?_
  rintro e w1 ⟨rfl, hb⟩
  obtain ⟨c0, c1, c2, c3, c4⟩ := boxed_cells hb
  have HB1 := Lib.hid (HB.out.trans (hb.mono HB.out.size))
  have HB0 := Lib.hid hb
  clear hb
  have K1 := Lib.hid (HK.out w1 HB1.out)
  go_wp2_with fail
  with_reducible refine K1.out.mono ?_
  rintro e w' ⟨rfl, HH⟩
  go_wp2
  go_ret
  exact ⟨rfl, HH⟩
set_option maxRecDepth 100000 in
set_option maxHeartbeats 4000000 in
theorem dstep0 (pv : Value) (b : Nat) (c : Int) (o n : Nat) (v u : Int) (w : World) (Q : World → Prop) (h1 : c ≤ 9223372036854775807) (hr : Ac.right ⟨0, b, c, o, n⟩ = true)
    (K : ∀ w1, Below w.heap.size w w1 → Q w1) :
    Calls Tryz.prog 61 #[pv, .agg #[.int .i64 0, .int .u64 (b : Int), .int .i64 c, .int .u64 (o : Int), .int .u64 (n : Int)]] w fun e w' => e = .returned (.int .u64 0) ∧ Q w' := by
  have hR := right_any (⟨0, b, c, o, n⟩ : A) h1 (boxed w ⟨0, b, c, o, n⟩)
  rw [hr] at hR
  have HR := Lib.hid hR; clear hR
  have HB := Lib.hid (boxed_below w (⟨0, b, c, o, n⟩ : A))
  have HK := Lib.hid K; clear K
  try unfold we at HK
  go_enter Tryz.func61, Tryz.ntmps61
  go_wp2_with fail
  with_reducible refine HR.out.mono ?_
  rintro e w1 ⟨rfl, hb⟩
  obtain ⟨c0, c1, c2, c3, c4⟩ := boxed_cells hb
  have HB1 := Lib.hid (HB.out.trans (hb.mono HB.out.size))
  have HB0 := Lib.hid hb
  clear hb
  go_wp2
  go_ret
  exact ⟨rfl, HK.out w1 HB1.out⟩
set_option maxRecDepth 100000 in
set_option maxHeartbeats 4000000 in
theorem dstepk (pv : Value) (k : Int) (b : Nat) (c : Int) (o n : Nat) (v u : Int) (w : World) (Q : World → Prop) (h1 : c ≤ 9223372036854775807) (hr : Ac.right ⟨k, b, c, o, n⟩ = false)
    (K : ∀ w1, Below w.heap.size w w1 → Q w1) :
    Calls Tryz.prog 61 #[pv, .agg #[.int .i64 k, .int .u64 (b : Int), .int .i64 c, .int .u64 (o : Int), .int .u64 (n : Int)]] w fun e w' => e = .returned (.int .u64 0) ∧ Q w' := by
  have hR := right_any (⟨k, b, c, o, n⟩ : A) h1 (boxed w ⟨k, b, c, o, n⟩)
  rw [hr] at hR
  have HR := Lib.hid hR; clear hR
  have HB := Lib.hid (boxed_below w (⟨k, b, c, o, n⟩ : A))
  have HK := Lib.hid K; clear K
  try unfold we at HK
  go_enter Tryz.func61, Tryz.ntmps61
  go_wp2_with fail
  with_reducible refine HR.out.mono ?_
  rintro e w1 ⟨rfl, hb⟩
  obtain ⟨c0, c1, c2, c3, c4⟩ := boxed_cells hb
  have HB1 := Lib.hid (HB.out.trans (hb.mono HB.out.size))
  have HB0 := Lib.hid hb
  clear hb
  go_wp2
  go_ret
  exact ⟨rfl, HK.out w1 HB1.out⟩
end Go.Proofs.YtknefjigdlbacaaGreatDoor
set_option linter.unusedSimpArgs false
set_option linter.unusedVariables false
namespace Go.Proofs.YtknefjigdlbacaaGreatDoor
open Go.RowKit Go.Maps
open Mm (Mem Blk)
open Ac (A)
def DoesIt (S : Mem) (x : A) (v : Int) (S' : Mem) : Prop := ∀ (B : Nat) (w : World) (p : Nat) (F : Nat → Prop), Ax B w p S F → B ≤ w.heap.size →
  Calls Tryz.prog 61 #[.pointer (some ⟨p, 0, none⟩), av x] w (Turns (.int .u64 v) B p S' F w)
/-- What is behind a call, seen from ahead of the box. -/
def After (B p : Nat) (S' : Mem) (F : Nat → Prop) (w w' : World) : Prop := ∃ F', Ax B w' p S' F' ∧ Tn F F' w w'
section
variable {B p : Nat} {S S' : Mem} {F : Nat → Prop} {w w1 w' : World} {f : FuncId} {args : Array Value} {v : Value} {x : A}
theorem of_turns (hb : Below w.heap.size w w1) (h : Calls Tryz.prog f args w1 (Turns v B p S' F w1)) : Calls Tryz.prog f args w1 fun e w' => e = .returned v ∧ After B p S' F w w' :=
  h.mono fun _ _ ⟨he, F', ha, ht⟩ => ⟨he, F', ha, (Tn.of_below hb).trans ht⟩
theorem of_same (hb : Below w.heap.size w w1) (ha : Ax B w1 p S F) (h : Calls Tryz.prog f args w1 (Same v w1)) : Calls Tryz.prog f args w1 fun e w' => e = .returned v ∧ After B p S F w w' :=
  h.mono fun _ _ ⟨he, hw⟩ => ⟨he, F, hw ▸ ha, hw ▸ Tn.of_below hb⟩
theorem of_gives (hb : Below w.heap.size w w1) (ha : Ax B w1 p S F) (h : Calls Tryz.prog f args w1 (Gives v w1)) : Calls Tryz.prog f args w1 fun e w' => e = .returned v ∧ After B p S F w w' :=
  h.mono fun _ _ ⟨he, hw⟩ => ⟨he, F, ha.below hw (Nat.le_refl _), (Tn.of_below hb).trans (Tn.of_below hw)⟩
theorem no_step (hb : Below w.heap.size w w1) (ha : Ax B w p S F) : After B p S F w w1 := ⟨F, ha.below hb (Nat.le_refl _), Tn.of_below hb⟩
theorem ax_at (hb : Below w.heap.size w w1) (ha : Ax B w p S F) : Ax B w1 p S F := ha.below hb (Nat.le_refl _)
end
theorem does_alloc {S : Mem} (hG : Mm.Good S) (n : Nat) (h1 : 1 ≤ n) (h2 : n ≤ S.room - Mm.used S.L) (hl : S.last ≤ 1000000000000) : DoesIt S ⟨5, 0, n, 0, 0⟩ ((S.last : Int) + 1) (S.alloc n) := by
  have hr2 := hG.r2
  exact fun B w p F h hB => dstep5 _ 0 (n : Int) 0 0 _ 0 w _ (by omega) (by simp [Ac.right, Ac.known, Ac.fb, Ac.fc, Ac.fo, Ac.fn]; omega) fun w1 hw1 => of_turns hw1 (alloc_ok (ax_at hw1 h) (Nat.le_trans hB hw1.size) n h1 h2 hl)
theorem does_none {S : Mem} (n : Nat) (h1 : 1 ≤ n) (hn : n ≤ 1000000) (h2 : S.room - Mm.used S.L < n) (hf : Mm.used S.L ≤ S.room) : DoesIt S ⟨5, 0, n, 0, 0⟩ 0 S :=
  fun B w p F h hB => dstep5 _ 0 (n : Int) 0 0 _ 0 w _ (by omega) (by simp [Ac.right, Ac.known, Ac.fb, Ac.fc, Ac.fo, Ac.fn]; omega) fun w1 hw1 => of_gives hw1 (ax_at hw1 h) (alloc_no (ax_at hw1 h) _ (.inr (by omega)))
theorem does_store {S : Mem} {ws : List Int} (b j v : Nat) (hb : b < 18446744073709551616) (hg : Mm.get S.L b = some ws) (hj : j < ws.length) (hj2 : j ≤ 1000000) : DoesIt S ⟨2, b, (j : Int), 0, v⟩ 0 (S.put b j (v : Int)) :=
  fun B w p F h hB => dstep2 _ b (j : Int) 0 v 0 0 w _ (by omega) (by simp [Ac.right, Ac.known, Ac.fb, Ac.fc, Ac.fo, Ac.fn]) fun w1 hw1 => of_turns hw1 (store_ok (ax_at hw1 h) hb hg j hj (v : Int))
end Go.Proofs.YtknefjigdlbacaaGreatDoor
set_option linter.unusedSimpArgs false
set_option linter.unusedVariables false
namespace Go.Proofs.YtknefjigdlbacaaGreatDoor
open Go.RowKit
/-- The bounds, as cells. -/
def bds : Array Value := #[.int .i64 1, .int .i64 64, .int .i64 0, .int .i64 63, .int .i64 1, .int .i64 64]
/-- The variable holds the bounds. -/
def Bd (w : World) : Prop := w.var? Tryz.prog "sprocket/desk.bounds" = some bds
theorem gBd : Tryz.prog.globalNamed "sprocket/desk.bounds" = some 0 := by kernel_rfl
theorem Bd.lt {w : World} (h : Bd w) : 0 < w.heap.size := by
  unfold Bd World.var? at h
  rw [gBd] at h
  simp only [Option.bind_some] at h
  rcases Nat.lt_or_ge 0 w.heap.size with h' | h'
  · exact h'
  · rw [Array.getElem?_eq_none h'] at h; cases h
theorem Bd.below {w w' : World} (h : Bd w) (hb : Below w.heap.size w w') : Bd w' := by
  have hlt := h.lt
  unfold Bd World.var? at h ⊢
  rw [gBd] at h ⊢
  simp only [Option.bind_some] at h ⊢
  rw [hb.block 0 hlt]
  exact h
theorem Bd.cell {w : World} (h : Bd w) {i : Nat} (hi : i < 6) : w.cell? ⟨0, i, none⟩ = bds[i]? := by
  unfold Bd World.var? at h
  rw [gBd] at h
  simp only [Option.bind_some] at h
  unfold World.cell?
  split at h
  · rename_i e; simp only [e]; cases h; simp
  · cases h
theorem Bd.cells {w : World} (h : Bd w) : w.cell? ⟨0, 0, none⟩ = some (.int .i64 1) ∧ w.cell? ⟨0, 1, none⟩ = some (.int .i64 64) ∧ w.cell? ⟨0, 2, none⟩ = some (.int .i64 0) ∧ w.cell? ⟨0, 3, none⟩ = some (.int .i64 63) ∧ w.cell? ⟨0, 4, none⟩ = some (.int .i64 1) ∧ w.cell? ⟨0, 5, none⟩ = some (.int .i64 64) :=
  ⟨(h.cell (i := 0) (by omega)).trans rfl, (h.cell (i := 1) (by omega)).trans rfl, (h.cell (i := 2) (by omega)).trans rfl, (h.cell (i := 3) (by omega)).trans rfl, (h.cell (i := 4) (by omega)).trans rfl, (h.cell (i := 5) (by omega)).trans rfl⟩
namespace Dk
/-- Between two bounds. -/
def inn (a b n : Int) : Bool := decide (a ≤ n ∧ n ≤ b)
theorem inn_yes {a b n : Int} (h0 : a ≤ n) (h1 : n ≤ b) : inn a b n = true := decide_eq_true ⟨h0, h1⟩
theorem inn_no {a b n : Int} (h : n < a ∨ b < n) : inn a b n = false := decide_eq_false (by omega)
/-- How many cells. -/
def size (n : Int) : Int := if 1 ≤ n ∧ n ≤ 64 then 2 + 2 * n else 0
/-- The cell for a table. -/
def tab (n : Int) : Int := if 0 ≤ n ∧ n ≤ 63 then 2 + 2 * n else -1
/-- The cell for a box. -/
def box (n : Int) : Int := if 0 ≤ n ∧ n ≤ 63 then 3 + 2 * n else -1
/-- Whose. -/
def who (c : Int) : Int := if 2 ≤ c ∧ c ≤ 129 then c / 2 - 1 else -1
def isb (c : Int) : Bool := decide (2 ≤ c ∧ c ≤ 129 ∧ c % 2 = 1)
theorem size_in {n : Int} (h0 : 1 ≤ n) (h1 : n ≤ 64) : size n = 2 + 2 * n := if_pos ⟨h0, h1⟩
theorem size_out {n : Int} (h : n < 1 ∨ 64 < n) : size n = 0 := if_neg (by omega)
theorem tab_in {n : Int} (h0 : 0 ≤ n) (h1 : n ≤ 63) : tab n = 2 + 2 * n := if_pos ⟨h0, h1⟩
theorem tab_out {n : Int} (h : n < 0 ∨ 63 < n) : tab n = -1 := if_neg (by omega)
theorem box_in {n : Int} (h0 : 0 ≤ n) (h1 : n ≤ 63) : box n = 3 + 2 * n := if_pos ⟨h0, h1⟩
theorem box_out {n : Int} (h : n < 0 ∨ 63 < n) : box n = -1 := if_neg (by omega)
theorem who_in {n : Int} (h0 : 2 ≤ n) (h1 : n ≤ 129) : who n = n / 2 - 1 := if_pos ⟨h0, h1⟩
theorem who_out {n : Int} (h : n < 2 ∨ 129 < n) : who n = -1 := if_neg (by omega)
theorem isb_in {n : Int} (h0 : 2 ≤ n) (h1 : n ≤ 129) : isb n = decide (n % 2 = 1) := by
  unfold isb; by_cases h : n % 2 = 1
  · rw [decide_eq_true h]; exact decide_eq_true ⟨h0, h1, h⟩
  · rw [decide_eq_false h]; exact decide_eq_false (by omega)
theorem isb_out {n : Int} (h : n < 2 ∨ 129 < n) : isb n = false := decide_eq_false (by omega)
end Dk
set_option maxRecDepth 100000 in
set_option maxHeartbeats 1000000 in
theorem within_0 (n : Int) (w : World) (h : Bd w) : Calls Tryz.prog 69 #[.int .i64 0, .int .i64 n] w (Same (.bool (Dk.inn 1 64 n)) w) := by
  obtain ⟨c0, c1, c2, c3, c4, c5⟩ := h.cells
  clear h
  by_cases h0 : 1 ≤ n
  · by_cases h1 : n ≤ 64
    · rw [Dk.inn_yes h0 h1]
      go_enter Tryz.func69, Tryz.ntmps69
      go_wp2
      go_ret
      exact ⟨rfl, rfl⟩
    · rw [Dk.inn_no (by omega)]
      go_enter Tryz.func69, Tryz.ntmps69
      go_wp2
      go_ret
      exact ⟨rfl, rfl⟩
  · rw [Dk.inn_no (by omega)]
    go_enter Tryz.func69, Tryz.ntmps69
    go_wp2
    go_ret
    exact ⟨rfl, rfl⟩
set_option maxRecDepth 100000 in
set_option maxHeartbeats 1000000 in
theorem within_1 (n : Int) (w : World) (h : Bd w) : Calls Tryz.prog 69 #[.int .i64 1, .int .i64 n] w (Same (.bool (Dk.inn 0 63 n)) w) := by
  obtain ⟨c0, c1, c2, c3, c4, c5⟩ := h.cells
  clear h
  by_cases h0 : 0 ≤ n
  · by_cases h1 : n ≤ 63
    · rw [Dk.inn_yes h0 h1]
      go_enter Tryz.func69, Tryz.ntmps69
      go_wp2
      go_ret
      exact ⟨rfl, rfl⟩
    · rw [Dk.inn_no (by omega)]
      go_enter Tryz.func69, Tryz.ntmps69
      go_wp2
      go_ret
      exact ⟨rfl, rfl⟩
  · rw [Dk.inn_no (by omega)]
    go_enter Tryz.func69, Tryz.ntmps69
    go_wp2
    go_ret
    exact ⟨rfl, rfl⟩
set_option maxRecDepth 100000 in
set_option maxHeartbeats 1000000 in
theorem within_2 (n : Int) (w : World) (h : Bd w) : Calls Tryz.prog 69 #[.int .i64 2, .int .i64 n] w (Same (.bool (Dk.inn 1 64 n)) w) := by
  obtain ⟨c0, c1, c2, c3, c4, c5⟩ := h.cells
  clear h
  by_cases h0 : 1 ≤ n
  · by_cases h1 : n ≤ 64
    · rw [Dk.inn_yes h0 h1]
      go_enter Tryz.func69, Tryz.ntmps69
      go_wp2
      go_ret
      exact ⟨rfl, rfl⟩
    · rw [Dk.inn_no (by omega)]
      go_enter Tryz.func69, Tryz.ntmps69
      go_wp2
      go_ret
      exact ⟨rfl, rfl⟩
  · rw [Dk.inn_no (by omega)]
    go_enter Tryz.func69, Tryz.ntmps69
    go_wp2
    go_ret
    exact ⟨rfl, rfl⟩
set_option maxRecDepth 100000 in
set_option maxHeartbeats 1000000 in
/-- desk.Size. -/
theorem dsize_any (n : Int) (w : World) (h : Bd w) : Calls Tryz.prog 59 #[.int .i64 n] w (Same (.int .i64 (Dk.size n)) w) := by
  have K := Lib.hid (within_0 n w h)
  clear h
  by_cases h0 : 1 ≤ n ∧ n ≤ 64
  · rw [Dk.inn_yes h0.1 h0.2] at K
    rw [Dk.size_in h0.1 h0.2]
    obtain ⟨h1, h2⟩ := h0
    go_enter Tryz.func59, Tryz.ntmps59
    go_wp2_with fail
    with_reducible refine K.out.mono ?_
    rintro e w1 ⟨rfl, rfl⟩
    go_wp2
    go_ret
    exact ⟨rfl, rfl⟩
  · have h1 : n < 1 ∨ 64 < n := by omega
    rw [Dk.inn_no h1] at K
    rw [Dk.size_out h1]
    clear h0 h1
    go_enter Tryz.func59, Tryz.ntmps59
    go_wp2_with fail
    with_reducible refine K.out.mono ?_
    rintro e w1 ⟨rfl, rfl⟩
    go_wp2
    go_ret
    exact ⟨rfl, rfl⟩
set_option maxRecDepth 100000 in
set_option maxHeartbeats 1000000 in
/-- desk.TableCell. -/
theorem dtable_any (n : Int) (w : World) (h : Bd w) : Calls Tryz.prog 164 #[.int .i64 n] w (Same (.int .i64 (Dk.tab n)) w) := by
  have K := Lib.hid (within_1 n w h)
  clear h
  by_cases h0 : 0 ≤ n ∧ n ≤ 63
  · rw [Dk.inn_yes h0.1 h0.2] at K
    rw [Dk.tab_in h0.1 h0.2]
    obtain ⟨h1, h2⟩ := h0
    go_enter Tryz.func164, Tryz.ntmps164
    go_wp2_with fail
    with_reducible refine K.out.mono ?_
    rintro e w1 ⟨rfl, rfl⟩
    go_wp2
    go_ret
    exact ⟨rfl, rfl⟩
  · have h1 : n < 0 ∨ 63 < n := by omega
    rw [Dk.inn_no h1] at K
    rw [Dk.tab_out h1]
    clear h0 h1
    go_enter Tryz.func164, Tryz.ntmps164
    go_wp2_with fail
    with_reducible refine K.out.mono ?_
    rintro e w1 ⟨rfl, rfl⟩
    go_wp2
    go_ret
    exact ⟨rfl, rfl⟩
set_option maxRecDepth 100000 in
set_option maxHeartbeats 1000000 in
/-- desk.BoxCell. -/
theorem dbox_any (n : Int) (w : World) (h : Bd w) : Calls Tryz.prog 154 #[.int .i64 n] w (Same (.int .i64 (Dk.box n)) w) := by
  have K := Lib.hid (within_1 n w h)
  have T := Lib.hid (dtable_any n w h)
  clear h
  by_cases h0 : 0 ≤ n ∧ n ≤ 63
  · rw [Dk.inn_yes h0.1 h0.2] at K
    rw [Dk.tab_in h0.1 h0.2] at T
    rw [Dk.box_in h0.1 h0.2]
    obtain ⟨h1, h2⟩ := h0
    go_enter Tryz.func154, Tryz.ntmps154
    go_wp2_with fail
    with_reducible refine K.out.mono ?_
    rintro e w1 ⟨rfl, rfl⟩
    go_wp2_with fail
    with_reducible refine T.out.mono ?_
    rintro e w1 ⟨rfl, rfl⟩
    go_wp2
    go_ret
    exact ⟨ret_int (by omega), rfl⟩
  · have h1 : n < 0 ∨ 63 < n := by omega
    rw [Dk.inn_no h1] at K
    rw [Dk.box_out h1]
    clear h0 h1 T
    go_enter Tryz.func154, Tryz.ntmps154
    go_wp2_with fail
    with_reducible refine K.out.mono ?_
    rintro e w1 ⟨rfl, rfl⟩
    go_wp2
    go_ret
    exact ⟨rfl, rfl⟩
/-- What Whose answers. -/
def whoV (c : Int) : Value := .tuple #[.int .i64 (Dk.who c), .bool (Dk.isb c)]
theorem who_bad {c : Int} (h : c < 2 ∨ 129 < c) : whoV c = .tuple #[.int .i64 (-1), .bool false] := by unfold whoV; rw [Dk.who_out h, Dk.isb_out h]
theorem who_tab {t : Int} (h0 : 0 ≤ t) (h1 : t ≤ 63) : whoV (2 + 2 * t) = .tuple #[.int .i64 t, .bool false] := by
  unfold whoV; rw [Dk.who_in (by omega) (by omega), Dk.isb_in (by omega) (by omega), decide_eq_false (by omega), show (2 + 2 * t) / 2 - 1 = t by omega]
theorem who_box {t : Int} (h0 : 0 ≤ t) (h1 : t ≤ 63) : whoV (3 + 2 * t) = .tuple #[.int .i64 t, .bool true] := by
  unfold whoV; rw [Dk.who_in (by omega) (by omega), Dk.isb_in (by omega) (by omega), decide_eq_true (by omega), show (3 + 2 * t) / 2 - 1 = t by omega]
theorem cell_cases (c : Int) : (c < 2 ∨ 129 < c) ∨ (∃ t, 0 ≤ t ∧ t ≤ 63 ∧ c = 2 + 2 * t) ∨ (∃ t, 0 ≤ t ∧ t ≤ 63 ∧ c = 3 + 2 * t) := by
  by_cases h : c < 2 ∨ 129 < c
  · exact .inl h
  · by_cases e : c % 2 = 0
    · exact .inr (.inl ⟨c / 2 - 1, by omega, by omega, by omega⟩)
    · exact .inr (.inr ⟨c / 2 - 1, by omega, by omega, by omega⟩)
theorem s64 (w : World) (h : Bd w) : Calls Tryz.prog 59 #[.int .i64 64] w (Same (.int .i64 130) w) := dsize_any 64 w h
end Go.Proofs.YtknefjigdlbacaaGreatDoor
set_option linter.unusedSimpArgs false
set_option linter.unusedVariables false
namespace Go.Proofs.YtknefjigdlbacaaGreatDoor
open Go.RowKit Go.Maps
open Mm (Mem Blk)
open Ac (A)
/-- A loop's own records. -/
def isRec : Obj → Bool
  | .loop _ => true
  | .deferred _ => true
  | _ => false
/-- A routine of N acts: St tells that k of them are done, and which blocks are its own. -/
structure Rt where
  v : Value
  N : Nat
  xs : Nat → A
  vs : Nat → Int
  St : Nat → World → Nat → (Nat → Prop) → Prop
  at' : World → Nat
  one : v.oneCell' = true
  foot : ∀ {B w k H j}, St B w k H → H j → B ≤ j ∧ j < w.heap.size
  keep : ∀ {B w w' k H}, St B w k H → (∀ j, H j → w'.heap[j]? = w.heap[j]?) → (Bd w → Bd w') → St B w' k H
  at_eq : ∀ {B w k H}, St B w k H → at' w = k
  norec : ∀ {B w k H j o}, St B w k H → H j → w.heap[j]? = some o → isRec o = false
  next : ∀ {B w k H}, St B w k H → k ≤ N → Calls Tryz.prog 67 #[v] w (Gives (.tuple #[av (if k < N then xs k else ⟨0, 0, 0, 0, 0⟩), .bool (decide (k < N))]) w)
  take : ∀ {B w k H}, St B w k H → B ≤ w.heap.size → k < N → Calls Tryz.prog 119 #[v, .int .u64 (vs k)] w fun e w' => e = .returned (.tuple #[]) ∧ ∃ H', St B w' (k + 1) H' ∧ Tn H H' w w'
theorem Rt.below (R : Rt) {B k : Nat} {w w' : World} {H : Nat → Prop} (h : R.St B w k H) (hb : Below w.heap.size w w') : R.St B w' k H := R.keep h (fun j hj => hb.block j (R.foot h hj).2) (fun e => e.below hb)
theorem Bd.block {w w' : World} (h : Bd w) (e : w'.heap[0]? = w.heap[0]?) : Bd w' := by
  unfold Bd World.var? at h ⊢
  rw [gBd] at h ⊢
  simp only [Option.bind_some] at h ⊢
  rw [e]
  exact h
def Or2 (F H : Nat → Prop) (k : Nat) : Prop := F k ∨ H k
/-- An arena and a routine, apart from one another. -/
structure Du (R : Rt) (B : Nat) (w : World) (p : Nat) (S : Mem) (k : Nat) (F H : Nat → Prop) : Prop where
  ar : Ax B w p S F
  ro : R.St B w k H
  apart : ∀ k, H k → ¬ F k
  low : 0 < B
section
variable {R : Rt} {B : Nat} {w w1 w' : World} {p k : Nat} {S S' : Mem} {F F' H H' G : Nat → Prop}
/-- A routine, apart from what changes. -/
theorem Tn.ro (h : Tn F F' w w') (ho : R.St B w k G) (ha : ∀ k, G k → ¬ F k) (hF : ∀ k, F k → B ≤ k) (hl : 0 < B) : R.St B w' k G ∧ ∀ k, G k → ¬ F' k :=
  ⟨R.keep ho (fun k hk => h.block k (R.foot ho hk).2 (ha k hk)) (fun e => e.block (h.block _ e.lt (fun e2 => by have := hF _ e2; omega))), fun k hk e => (h.foot k e).elim (ha k hk) (fun e2 => by have := (R.foot ho hk).2; omega)⟩
theorem Tn.left (h : Tn F F' w w') : Tn (Or2 F H) (Or2 F' H) w w' := ⟨h.os, h.tape, h.output, h.size, fun k hk hF => h.block k hk (fun e => hF (.inl e)), fun k hk => by
  rcases hk with hk | hk
  · exact (h.foot k hk).imp .inl id
  · exact .inl (.inr hk)⟩
theorem Tn.right (h : Tn H H' w w') : Tn (Or2 F H) (Or2 F H') w w' := ⟨h.os, h.tape, h.output, h.size, fun k hk hF => h.block k hk (fun e => hF (.inr e)), fun k hk => by
  rcases hk with hk | hk
  · exact .inl (.inl hk)
  · exact (h.foot k hk).imp .inr id⟩
theorem Tn.then_below (h : Tn F F' w w1) (hb : Below w.heap.size w1 w') : Tn F F' w w' := ⟨hb.os.trans h.os, hb.tape.trans h.tape, hb.output.trans h.output, Nat.le_trans h.size hb.size, fun k hk hF => (hb.block k hk).trans (h.block k hk hF), h.foot⟩
theorem Du.below (h : Du R B w p S k F H) (hb : Below w.heap.size w w') : Du R B w' p S k F H := ⟨h.ar.below hb (Nat.le_refl _), R.below h.ro hb, h.apart, h.low⟩
theorem Du.foot (h : Du R B w p S k F H) {j : Nat} (hk : Or2 F H j) : B ≤ j ∧ j < w.heap.size := hk.elim (fun e => h.ar.foot e) (fun e => R.foot h.ro e)
end
end Go.Proofs.YtknefjigdlbacaaGreatDoor
