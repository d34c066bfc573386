/-
  Several texts in one: The walk of awake; Do and the document's Do, kind by kind. (gen_do.py); What an act does on an arena: room given out, or none; a word stored; A routine, whatever it is made of: its value, its acts, what must be answered, and its states. By an AI agent.
-/
import Derived.Test.YtknefjigdlbacaaGreatDoorSkGAM
import Derived.Test.YtknefjigdlbacaaGreatDoorSkGBE
import Derived.Test.YtknefjigdlbacaaGreatDoorSkGAC
import Derived.Test.YtknefjigdlbacaaGreatDoorSkGAK
set_option linter.unusedSimpArgs false
namespace Go.Proofs.YtknefjigdlbacaaGreatDoor
open Go.RowKit Go.Maps
open Mm (Mem Blk)
/-- A new arena. -/
theorem new_ok (n : Nat) (h1 : 1 ≤ n) (h2 : n ≤ 65536) (w : World) : Calls Tryz.prog 57 #[.int .i64 (n : Int)] w fun e w' => e = .returned (.pointer (some ⟨w.heap.size + 1, 0, none⟩)) ∧
    ∃ F, Ax w.heap.size w' (w.heap.size + 1) ⟨n, 0, 0, []⟩ F ∧ Below w.heap.size w w' ∧ w.heap.size + 2 = w'.heap.size := by
  refine (new_any n h1 h2 w).mono ?_
  rintro e w' ⟨rfl, rfl⟩
  have hm := World.ownsMap_made w Tryz.prog 22 hv
  refine ⟨rfl, _, ⟨w.heap.size, fun _ => 0, ⟨Nat.le_succ _, Nat.le_refl _, ?_, ⟨0, _, Nat.le_refl _, hm.alloc _, fun k => ?_, fun k ws hk => ?_⟩, fun b hb => ?_, fun b hb => ?_, ⟨h1, h2, trivial, Nat.zero_le _, fun b hb => ?_⟩⟩, rfl⟩, ((Below.refl _ w).alloc (Nat.le_refl _) _).alloc (by simp) _, by simp⟩
  · have := heap_alloc_new (w.alloc (.map #[] 0)) (.cells #[.int .i64 (n : Int), .int .i64 0, .int .u64 0, .int .i64 0, .map (some w.heap.size)] 112)
    simpa [Mm.used] using this
  · rfl
  · simp [Mm.get] at hk
  · simp at hb
  · simp at hb
  · simp at hb
theorem Turns.ax {v : Value} {B p : Nat} {S : Mem} {F : Nat → Prop} {w : World} {e : Ending} {w' : World} (h : Turns v B p S F w e w') : e = .returned v ∧ ∃ F', Ax B w' p S F' ∧ Tn F F' w w' := h
/-- All that is wanted of a step: the arena, and what is below. -/
def Goes (v : Value) (B p : Nat) (S' : Mem) (w : World) (e : Ending) (w' : World) : Prop := e = .returned v ∧ ∃ F', Ax B w' p S' F' ∧ Below B w w'
theorem Turns.goes {v : Value} {B p : Nat} {S S' : Mem} {F : Nat → Prop} {w : World} (h : Ax B w p S F) (hB : B ≤ w.heap.size) {e : Ending} {w' : World} (ht : Turns v B p S' F w e w') : Goes v B p S' w e w' := by
  obtain ⟨he, F', ha, htn⟩ := ht
  exact ⟨he, F', ha, htn.below (fun k hk => (h.foot hk).1) hB⟩
theorem Gives.goes {v : Value} {B p : Nat} {S : Mem} {F : Nat → Prop} {w : World} (h : Ax B w p S F) (hB : B ≤ w.heap.size) {e : Ending} {w' : World} (hg : Gives v w e w') : Goes v B p S w e w' := by
  obtain ⟨he, hb⟩ := hg
  exact ⟨he, F, h.below hb (Nat.le_refl _), hb.mono hB⟩
end Go.Proofs.YtknefjigdlbacaaGreatDoor
set_option linter.unusedSimpArgs false
set_option linter.unusedVariables false
namespace Go.Proofs.YtknefjigdlbacaaGreatDoor
open Go.RowKit Go.Maps
open Mm (Mem Blk)
open Ac (A)
theorem cell_keep {w w' : World} {b : Nat} (h : w'.heap[b]? = w.heap[b]?) (o : Nat) : w'.cell? ⟨b, o, none⟩ = w.cell? ⟨b, o, none⟩ := by simp [World.cell?, h]
set_option maxRecDepth 100000 in
set_option maxHeartbeats 4000000 in
theorem dstep1 (pv : Value) (b : Nat) (c : Int) (o n : Nat) (v u : Int) (w : World) (Q : World → Prop) (h1 : c ≤ 9223372036854775807) (hr : Ac.right ⟨1, b, c, o, n⟩ = true)
    (K : ∀ w1, Below w.heap.size w w1 → Calls Tryz.prog 113 #[pv, .int .u64 (b : Int), .int .i64 c] w1 fun e w' => e = .returned (we v u) ∧ Q w') :
    Calls Tryz.prog 61 #[pv, .agg #[.int .i64 1, .int .u64 (b : Int), .int .i64 c, .int .u64 (o : Int), .int .u64 (n : Int)]] w fun e w' => e = .returned (.int .u64 v) ∧ Q w' := by
  have hR := right_any (⟨1, b, c, o, n⟩ : A) h1 (boxed w ⟨1, b, c, o, n⟩)
  rw [hr] at hR
  have HR := Lib.hid hR; clear hR
  have HB := Lib.hid (boxed_below w (⟨1, b, c, o, n⟩ : A))
  have HK := Lib.hid K; clear K
  try unfold we at HK
  go_enter Tryz.func61, Tryz.ntmps61
  go_wp2_with fail
  with_reducible refine HR.out.mono ?_
  rintro e w1 ⟨rfl, hb⟩
  obtain ⟨c0, c1, c2, c3, c4⟩ := boxed_cells hb
  have HB1 := Lib.hid (HB.out.trans (hb.mono HB.out.size))
  have HB0 := Lib.hid hb
  clear hb
  have K1 := Lib.hid (HK.out w1 HB1.out)
  go_wp2_with fail
  with_reducible refine K1.out.mono ?_
  rintro e w' ⟨rfl, HH⟩
  go_wp2
  go_ret
  exact ⟨rfl, HH⟩
set_option maxRecDepth 100000 in
set_option maxHeartbeats 4000000 in
theorem dstep2 (pv : Value) (b : Nat) (c : Int) (o n : Nat) (v u : Int) (w : World) (Q : World → Prop) (h1 : c ≤ 9223372036854775807) (hr : Ac.right ⟨2, b, c, o, n⟩ = true)
    (K : ∀ w1, Below w.heap.size w w1 → Calls Tryz.prog 114 #[pv, .int .u64 (b : Int), .int .i64 c, .int .u64 (n : Int)] w1 fun e w' => e = .returned (.int .i64 u) ∧ Q w') :
    Calls Tryz.prog 61 #[pv, .agg #[.int .i64 2, .int .u64 (b : Int), .int .i64 c, .int .u64 (o : Int), .int .u64 (n : Int)]] w fun e w' => e = .returned (.int .u64 0) ∧ Q w' := by
  have hR := right_any (⟨2, b, c, o, n⟩ : A) h1 (boxed w ⟨2, b, c, o, n⟩)
  rw [hr] at hR
  have HR := Lib.hid hR; clear hR
  have HB := Lib.hid (boxed_below w (⟨2, b, c, o, n⟩ : A))
  have HK := Lib.hid K; clear K
  try unfold we at HK
  go_enter Tryz.func61, Tryz.ntmps61
  go_wp2_with fail
  with_reducible refine HR.out.mono ?_
  rintro e w1 ⟨rfl, hb⟩
  obtain ⟨c0, c1, c2, c3, c4⟩ := boxed_cells hb
  have HB1 := Lib.hid (HB.out.trans (hb.mono HB.out.size))
  have HB0 := Lib.hid hb
  clear hb
  have K1 := Lib.hid (HK.out w1 HB1.out)
  go_wp2_with fail
  with_reducible refine K1.out.mono ?_
  rintro e w' ⟨rfl, HH⟩
  go_wp2
  go_ret
  exact ⟨rfl, HH⟩
set_option maxRecDepth 100000 in
set_option maxHeartbeats 4000000 in
theorem dstep3 (pv : Value) (b : Nat) (c : Int) (o n : Nat) (v u : Int) (w : World) (Q : World → Prop) (h1 : c ≤ 9223372036854775807) (hr : Ac.right ⟨3, b, c, o, n⟩ = true)
    (K : ∀ w1, Below w.heap.size w w1 → Calls Tryz.prog 115 #[pv, .int .u64 (b : Int), .int .i64 c, .int .u64 (o : Int), .int .u64 (n : Int)] w1 fun e w' => e = .returned (we v u) ∧ Q w') :
    Calls Tryz.prog 61 #[pv, .agg #[.int .i64 3, .int .u64 (b : Int), .int .i64 c, .int .u64 (o : Int), .int .u64 (n : Int)]] w fun e w' => e = .returned (.int .u64 v) ∧ Q w' := by
  have hR := right_any (⟨3, b, c, o, n⟩ : A) h1 (boxed w ⟨3, b, c, o, n⟩)
  rw [hr] at hR
  have HR := Lib.hid hR; clear hR
  have HB := Lib.hid (boxed_below w (⟨3, b, c, o, n⟩ : A))
  have HK := Lib.hid K; clear K
  try unfold we at HK
  go_enter Tryz.func61, Tryz.ntmps61
  go_wp2_with fail
  with_reducible refine HR.out.mono ?_
  rintro e w1 ⟨rfl, hb⟩
  obtain ⟨c0, c1, c2, c3, c4⟩ := boxed_cells hb
  have HB1 := Lib.hid (HB.out.trans (hb.mono HB.out.size))
  have HB0 := Lib.hid hb
  clear hb
  have K1 := Lib.hid (HK.out w1 HB1.out)
  go_wp2_with fail
  with_reducible refine K1.out.mono ?_
  rintro e w' ⟨rfl, HH⟩
  go_wp2
  go_ret
  exact ⟨rfl, HH⟩
set_option maxRecDepth 100000 in
set_option maxHeartbeats 4000000 in
theorem dstep4 (pv : Value) (b : Nat) (c : Int) (o n : Nat) (v u : Int) (w : World) (Q : World → Prop) (h1 : c ≤ 9223372036854775807) (hr : Ac.right ⟨4, b, c, o, n⟩ = true)
    (K : ∀ w1, Below w.heap.size w w1 → Calls Tryz.prog 116 #[pv, .int .u64 (b : Int), .int .i64 c, .int .u64 (n : Int)] w1 fun e w' => e = .returned (we v u) ∧ Q w') :
    Calls Tryz.prog 61 #[pv, .agg #[.int .i64 4, .int .u64 (b : Int), .int .i64 c, .int .u64 (o : Int), .int .u64 (n : Int)]] w fun e w' => e = .returned (.int .u64 v) ∧ Q w' := by
  have hR := right_any (⟨4, b, c, o, n⟩ : A) h1 (boxed w ⟨4, b, c, o, n⟩)
  rw [hr] at hR
  have HR := Lib.hid hR; clear hR
  have HB := Lib.hid (boxed_below w (⟨4, b, c, o, n⟩ : A))
  have HK := Lib.hid K; clear K
  try unfold we at HK
  go_enter Tryz.func61, Tryz.ntmps61
  go_wp2_with fail
  with_reducible refine HR.out.mono ?_
  rintro e w1 ⟨rfl, hb⟩
  obtain ⟨c0, c1, c2, c3, c4⟩ := boxed_cells hb
  have HB1 := Lib.hid (HB.out.trans (hb.mono HB.out.size))
  have HB0 := Lib.hid hb
  clear hb
  have K1 := Lib.hid (HK.out w1 HB1.out)
  go_wp2_with fail
  with_reducible refine K1.out.mono ?_
  rintro e w' ⟨rfl, HH⟩
  go_wp2
  go_ret
  exact ⟨rfl, HH⟩
set_option maxRecDepth 100000 in
set_option maxHeartbeats 4000000 in
theorem dstep5 (pv : Value) (b : Nat) (c : Int) (o n : Nat) (v u : Int) (w : World) (Q : World → Prop) (h1 : c ≤ 9223372036854775807) (hr : Ac.right ⟨5, b, c, o, n⟩ = true)
    (K : ∀ w1, Below w.heap.size w w1 → Calls Tryz.prog 58 #[pv, .int .i64 c] w1 fun e w' => e = .returned (.int .u64 v) ∧ Q w') :
    Calls Tryz.prog 61 #[pv, .agg #[.int .i64 5, .int .u64 (b : Int), .int .i64 c, .int .u64 (o : Int), .int .u64 (n : Int)]] w fun e w' => e = .returned (.int .u64 v) ∧ Q w' := by
  have hR := right_any (⟨5, b, c, o, n⟩ : A) h1 (boxed w ⟨5, b, c, o, n⟩)
  rw [hr] at hR
  have HR := Lib.hid hR; clear hR
  have HB := Lib.hid (boxed_below w (⟨5, b, c, o, n⟩ : A))
  have HK := Lib.hid K; clear K
  try unfold we at HK
  go_enter Tryz.func61, Tryz.ntmps61
  go_wp2_with fail
  with_reducible refine HR.out.mono ?_
  rintro e w1 ⟨rfl, hb⟩
  obtain ⟨c0, c1, c2, c3, c4⟩ := boxed_cells hb
  have HB1 := Lib.hid (HB.out.trans (hb.mono HB.out.size))
  have HB0 := Lib.hid hb
  clear hb
  have K1 := Lib.hid (HK.out w1 HB1.out)
  go_wp2_with fail
  with_reducible refine K1.out.mono ?_
  rintro e w' ⟨rfl, HH⟩
  go_wp2
  go_ret
  exact ⟨rfl, HH⟩
set_option maxRecDepth 100000 in
set_option maxHeartbeats 4000000 in
theorem dstep6 (pv : Value) (b : Nat) (c : Int) (o n : Nat) (v u : Int) (w : World) (Q : World → Prop) (h1 : c ≤ 9223372036854775807) (hr : Ac.right ⟨6, b, c, o, n⟩ = true)
    (K : ∀ w1, Below w.heap.size w w1 → Calls Tryz.prog 117 #[pv, .int .u64 (b : Int)] w1 fun e w' => e = .returned (.int .i64 u) ∧ Q w') :
    Calls Tryz.prog 61 #[pv, .agg #[.int .i64 6, .int .u64 (b : Int), .int .i64 c, .int .u64 (o : Int), .int .u64 (n : Int)]] w fun e w' => e = .returned (.int .u64 0) ∧ Q w' := by
  have hR := right_any (⟨6, b, c, o, n⟩ : A) h1 (boxed w ⟨6, b, c, o, n⟩)
  rw [hr] at hR
  have HR := Lib.hid hR; clear hR
  have HB := Lib.hid (boxed_below w (⟨6, b, c, o, n⟩ : A))
  have HK := Lib.hid K; clear K
  try unfold we at HK
  go_enter Tryz.func61, Tryz.ntmps61
  go_wp2_with fail
  with_reducible refine HR.out.mono ?_
  rintro e w1 ⟨rfl, hb⟩
  obtain ⟨c0, c1, c2, c3, c4⟩ := boxed_cells hb
  have HB1 := Lib.hid (HB.out.trans (hb.mono HB.out.size))
  have HB0 := Lib.hid hb
  clear hb
  have K1 := Lib.hid (HK.out w1 HB1.out)
  go_wp2_with fail
  with_reducible refine K1.out.mono ?_
  rintro e w' ⟨rfl, HH⟩
  go_wp2
  go_ret
  exact ⟨rfl, HH⟩
set_option maxRecDepth 100000 in
set_option maxHeartbeats 4000000 in
theorem dstep0 (pv : Value) (b : Nat) (c : Int) (o n : Nat) (v u : Int) (w : World) (Q : World → Prop) (h1 : c ≤ 9223372036854775807) (hr : Ac.right ⟨0, b, c, o, n⟩ = true)
    (K : ∀ w1, Below w.heap.size w w1 → Q w1) :
    Calls Tryz.prog 61 #[pv, .agg #[.int .i64 0, .int .u64 (b : Int), .int .i64 c, .int .u64 (o : Int), .int .u64 (n : Int)]] w fun e w' => e = .returned (.int .u64 0) ∧ Q w' := by
  have hR := right_any (⟨0, b, c, o, n⟩ : A) h1 (boxed w ⟨0, b, c, o, n⟩)
  rw [hr] at hR
  have HR := Lib.hid hR; clear hR
  have HB := Lib.hid (boxed_below w (⟨0, b, c, o, n⟩ : A))
  have HK := Lib.hid K; clear K
  try unfold we at HK
  go_enter Tryz.func61, Tryz.ntmps61
  go_wp2_with fail
  with_reducible refine HR.out.mono ?_
  rintro e w1 ⟨rfl, hb⟩
  obtain ⟨c0, c1, c2, c3, c4⟩ := boxed_cells hb
  have HB1 := Lib.hid (HB.out.trans (hb.mono HB.out.size))
  have HB0 := Lib.hid hb
  clear hb
  go_wp2
  go_ret
  exact ⟨rfl, HK.out w1 HB1.out⟩
set_option maxRecDepth 100000 in
set_option maxHeartbeats 4000000 in
theorem dstepk (pv : Value) (k : Int) (b : Nat) (c : Int) (o n : Nat) (v u : Int) (w : World) (Q : World → Prop) (h1 : c ≤ 9223372036854775807) (hr : Ac.right ⟨k, b, c, o, n⟩ = false)
    (K : ∀ w1, Below w.heap.size w w1 → Q w1) :
    Calls Tryz.prog 61 #[pv, .agg #[.int .i64 k, .int .u64 (b : Int), .int .i64 c, .int .u64 (o : Int), .int .u64 (n : Int)]] w fun e w' => e = .returned (.int .u64 0) ∧ Q w' := by
  have hR := right_any (⟨k, b, c, o, n⟩ : A) h1 (boxed w ⟨k, b, c, o, n⟩)
  rw [hr] at hR
  have HR := Lib.hid hR; clear hR
  have HB := Lib.hid (boxed_below w (⟨k, b, c, o, n⟩ : A))
  have HK := Lib.hid K; clear K
  try unfold we at HK
  go_enter Tryz.func61, Tryz.ntmps61
  go_wp2_with fail
  with_reducible refine HR.out.mono ?_
  rintro e w1 ⟨rfl, hb⟩
  obtain ⟨c0, c1, c2, c3, c4⟩ := boxed_cells hb
  have HB1 := Lib.hid (HB.out.trans (hb.mono HB.out.size))
  have HB0 := Lib.hid hb
  clear hb
  go_wp2
  go_ret
  exact ⟨rfl, HK.out w1 HB1.out⟩
end Go.Proofs.YtknefjigdlbacaaGreatDoor
set_option linter.unusedSimpArgs false
set_option linter.unusedVariables false
namespace Go.Proofs.YtknefjigdlbacaaGreatDoor
open Go.RowKit Go.Maps
open Mm (Mem Blk)
open Ac (A)
def DoesIt (S : Mem) (x : A) (v : Int) (S' : Mem) : Prop := ∀ (B : Nat) (w : World) (p : Nat) (F : Nat → Prop), Ax B w p S F → B ≤ w.heap.size →
  Calls Tryz.prog 61 #[.pointer (some ⟨p, 0, none⟩), av x] w (Turns (.int .u64 v) B p S' F w)
/-- What is behind a call, seen from ahead of the box. -/
def After (B p : Nat) (S' : Mem) (F : Nat → Prop) (w w' : World) : Prop := ∃ F', Ax B w' p S' F' ∧ Tn F F' w w'
section
variable {B p : Nat} {S S' : Mem} {F : Nat → Prop} {w w1 w' : World} {f : FuncId} {args : Array Value} {v : Value} {x : A}
theorem of_turns (hb : Below w.heap.size w w1) (h : Calls Tryz.prog f args w1 (Turns v B p S' F w1)) : Calls Tryz.prog f args w1 fun e w' => e = .returned v ∧ After B p S' F w w' :=
  h.mono fun _ _ ⟨he, F', ha, ht⟩ => ⟨he, F', ha, (Tn.of_below hb).trans ht⟩
theorem of_same (hb : Below w.heap.size w w1) (ha : Ax B w1 p S F) (h : Calls Tryz.prog f args w1 (Same v w1)) : Calls Tryz.prog f args w1 fun e w' => e = .returned v ∧ After B p S F w w' :=
  h.mono fun _ _ ⟨he, hw⟩ => ⟨he, F, hw ▸ ha, hw ▸ Tn.of_below hb⟩
theorem of_gives (hb : Below w.heap.size w w1) (ha : Ax B w1 p S F) (h : Calls Tryz.prog f args w1 (Gives v w1)) : Calls Tryz.prog f args w1 fun e w' => e = .returned v ∧ After B p S F w w' :=
  h.mono fun _ _ ⟨he, hw⟩ => ⟨he, F, ha.below hw (Nat.le_refl _), (Tn.of_below hb).trans (Tn.of_below hw)⟩
theorem no_step (hb : Below w.heap.size w w1) (ha : Ax B w p S F) : After B p S F w w1 := ⟨F, ha.below hb (Nat.le_refl _), Tn.of_below hb⟩
theorem ax_at (hb : Below w.heap.size w w1) (ha : Ax B w p S F) : Ax B w1 p S F := ha.below hb (Nat.le_refl _)
end
theorem does_alloc {S : Mem} (hG : Mm.Good S) (n : Nat) (h1 : 1 ≤ n) (h2 : n ≤ S.room - Mm.used S.L) (hl : S.last ≤ 1000000000000) : DoesIt S ⟨5, 0, n, 0, 0⟩ ((S.last : Int) + 1) (S.alloc n) := by
  have hr2 := hG.r2
  exact fun B w p F h hB => dstep5 _ 0 (n : Int) 0 0 _ 0 w _ (by omega) (by simp [Ac.right, Ac.known, Ac.fb, Ac.fc, Ac.fo, Ac.fn]; omega) fun w1 hw1 => of_turns hw1 (alloc_ok (ax_at hw1 h) (Nat.le_trans hB hw1.size) n h1 h2 hl)
theorem does_none {S : Mem} (n : Nat) (h1 : 1 ≤ n) (hn : n ≤ 1000000) (h2 : S.room - Mm.used S.L < n) (hf : Mm.used S.L ≤ S.room) : DoesIt S ⟨5, 0, n, 0, 0⟩ 0 S :=
  fun B w p F h hB => dstep5 _ 0 (n : Int) 0 0 _ 0 w _ (by omega) (by simp [Ac.right, Ac.known, Ac.fb, Ac.fc, Ac.fo, Ac.fn]; omega) fun w1 hw1 => of_gives hw1 (ax_at hw1 h) (alloc_no (ax_at hw1 h) _ (.inr (by omega)))
theorem does_store {S : Mem} {ws : List Int} (b j v : Nat) (hb : b < 18446744073709551616) (hg : Mm.get S.L b = some ws) (hj : j < ws.length) (hj2 : j ≤ 1000000) : DoesIt S ⟨2, b, (j : Int), 0, v⟩ 0 (S.put b j (v : Int)) :=
  fun B w p F h hB => dstep2 _ b (j : Int) 0 v 0 0 w _ (by omega) (by simp [Ac.right, Ac.known, Ac.fb, Ac.fc, Ac.fo, Ac.fn]) fun w1 hw1 => of_turns hw1 (store_ok (ax_at hw1 h) hb hg j hj (v : Int))
end Go.Proofs.YtknefjigdlbacaaGreatDoor
set_option linter.unusedSimpArgs false
set_option linter.unusedVariables false
namespace Go.Proofs.YtknefjigdlbacaaGreatDoor
open Go.RowKit Go.Maps
open Mm (Mem Blk)
open Ac (A)
/-- A loop's own records. -/
def isRec : Obj → Bool
  | .loop _ => true
  | .deferred _ => true
  | _ => false
/-- A routine of N acts: St tells that k of them are done, and which blocks are its own. -/
structure Rt where
  v : Value
  N : Nat
  xs : Nat → A
  vs : Nat → Int
  St : Nat → World → Nat → (Nat → Prop) → Prop
  at' : World → Nat
  one : v.oneCell' = true
  foot : ∀ {B w k H j}, St B w k H → H j → B ≤ j ∧ j < w.heap.size
  keep : ∀ {B w w' k H}, St B w k H → (∀ j, H j → w'.heap[j]? = w.heap[j]?) → (Bd w → Bd w') → St B w' k H
  at_eq : ∀ {B w k H}, St B w k H → at' w = k
  norec : ∀ {B w k H j o}, St B w k H → H j → w.heap[j]? = some o → isRec o = false
  next : ∀ {B w k H}, St B w k H → k ≤ N → Calls Tryz.prog 67 #[v] w (Gives (.tuple #[av (if k < N then xs k else ⟨0, 0, 0, 0, 0⟩), .bool (decide (k < N))]) w)
  take : ∀ {B w k H}, St B w k H → B ≤ w.heap.size → k < N → Calls Tryz.prog 119 #[v, .int .u64 (vs k)] w fun e w' => e = .returned (.tuple #[]) ∧ ∃ H', St B w' (k + 1) H' ∧ Tn H H' w w'
theorem Rt.below (R : Rt) {B k : Nat} {w w' : World} {H : Nat → Prop} (h : R.St B w k H) (hb : Below w.heap.size w w') : R.St B w' k H := R.keep h (fun j hj => hb.block j (R.foot h hj).2) (fun e => e.below hb)
theorem Bd.block {w w' : World} (h : Bd w) (e : w'.heap[0]? = w.heap[0]?) : Bd w' := by
  unfold Bd World.var? at h ⊢
  rw [gBd] at h ⊢
  simp only [Option.bind_some] at h ⊢
  rw [e]
  exact h
def Or2 (F H : Nat → Prop) (k : Nat) : Prop := F k ∨ H k
/-- An arena and a routine, apart from one another. -/
structure Du (R : Rt) (B : Nat) (w : World) (p : Nat) (S : Mem) (k : Nat) (F H : Nat → Prop) : Prop where
  ar : Ax B w p S F
  ro : R.St B w k H
  apart : ∀ k, H k → ¬ F k
  low : 0 < B
section
variable {R : Rt} {B : Nat} {w w1 w' : World} {p k : Nat} {S S' : Mem} {F F' H H' G : Nat → Prop}
/-- A routine, apart from what changes. -/
theorem Tn.ro (h : Tn F F' w w') (ho : R.St B w k G) (ha : ∀ k, G k → ¬ F k) (hF : ∀ k, F k → B ≤ k) (hl : 0 < B) : R.St B w' k G ∧ ∀ k, G k → ¬ F' k :=
  ⟨R.keep ho (fun k hk => h.block k (R.foot ho hk).2 (ha k hk)) (fun e => e.block (h.block _ e.lt (fun e2 => by have := hF _ e2; omega))), fun k hk e => (h.foot k e).elim (ha k hk) (fun e2 => by have := (R.foot ho hk).2; omega)⟩
theorem Tn.left (h : Tn F F' w w') : Tn (Or2 F H) (Or2 F' H) w w' := ⟨h.os, h.tape, h.output, h.size, fun k hk hF => h.block k hk (fun e => hF (.inl e)), fun k hk => by
  rcases hk with hk | hk
  · exact (h.foot k hk).imp .inl id
  · exact .inl (.inr hk)⟩
theorem Tn.right (h : Tn H H' w w') : Tn (Or2 F H) (Or2 F H') w w' := ⟨h.os, h.tape, h.output, h.size, fun k hk hF => h.block k hk (fun e => hF (.inr e)), fun k hk => by
  rcases hk with hk | hk
  · exact .inl (.inl hk)
  · exact (h.foot k hk).imp .inr id⟩
theorem Tn.then_below (h : Tn F F' w w1) (hb : Below w.heap.size w1 w') : Tn F F' w w' := ⟨hb.os.trans h.os, hb.tape.trans h.tape, hb.output.trans h.output, Nat.le_trans h.size hb.size, fun k hk hF => (hb.block k hk).trans (h.block k hk hF), h.foot⟩
theorem Du.below (h : Du R B w p S k F H) (hb : Below w.heap.size w w') : Du R B w' p S k F H := ⟨h.ar.below hb (Nat.le_refl _), R.below h.ro hb, h.apart, h.low⟩
theorem Du.foot (h : Du R B w p S k F H) {j : Nat} (hk : Or2 F H j) : B ≤ j ∧ j < w.heap.size := hk.elim (fun e => h.ar.foot e) (fun e => R.foot h.ro e)
end
end Go.Proofs.YtknefjigdlbacaaGreatDoor
