/-
  Several texts in one: The walk of Right, case by case; Right and the document's Right, at every act. By an AI agent.
-/
import Derived.Test.YtknefjigdlbacaaGreatDoorSkGBB
import Derived.Test.YtknefjigdlbacaaGreatDoorSkGBC
import Derived.Test.YtknefjigdlbacaaGreatDoorSkGBD
set_option linter.unusedSimpArgs false
set_option linter.unusedVariables false
namespace Go.Proofs.YtknefjigdlbacaaGreatDoor
open Go.RowKit
open Ac (A)
set_option maxRecDepth 100000 in
set_option maxHeartbeats 4000000 in
theorem right_yx (x : A) {f0 f1 f2 f3 : Bool} (w : World) (HF : Hid (Fl x.k true false f2 f3 true)) (h0 : 0 ≤ x.c) (h1 : x.c ≤ 9223372036854775807) (h5 : (x.k == 5) = false) (p0 : ((x.b : Int) != 0) = true) (p1 : (x.c != 0) = true) : Calls Tryz.prog 112 #[av x] w (Gives (.bool false) w) := by
  have HB := Lib.hid (boxed_below w x)
  go_enter Tryz.func112, Tryz.ntmps112
  go_wp2_with fail
  with_reducible refine (HF.out.at _).mono ?_
  rintro e w1 ⟨rfl, hb⟩
  obtain ⟨c0, c1, c2, c3, c4⟩ := boxed_cells hb
  have hz := hb.size
  have hz1 : w.heap.size < w1.heap.size := by simp at hz; omega
  have HB1 := Lib.hid (HB.out.trans (hb.mono HB.out.size))
  clear hb hz
  go_wp2
  refine wp_loop_rounds 5 ?_
  rw [rounds_succ]
  have I0 := ix0 (.int .u64 x.b) (.int .u64 x.c) (.int .u64 x.o) (.int .u64 x.n)
  go_wp2
  clear I0
  rw [rounds_succ]
  have I1 := ix1 (.int .u64 x.b) (.int .u64 x.c) (.int .u64 x.o) (.int .u64 x.n)
  go_wp2
  clear I1
  go_ret
  exact ⟨rfl, ((HB1.out.alloc (by have := HB1.out.size; omega) _).alloc (by have := HB1.out.size; simp; omega) _)⟩
set_option maxRecDepth 100000 in
set_option maxHeartbeats 4000000 in
theorem right_yzx (x : A) {f0 f1 f2 f3 : Bool} (w : World) (HF : Hid (Fl x.k true f1 false f3 true)) (h0 : 0 ≤ x.c) (h1 : x.c ≤ 9223372036854775807) (h5 : (x.k == 5) = false) (p0 : ((x.b : Int) != 0) = true) (p1 : (x.c != 0) = false) (p2 : ((x.o : Int) != 0) = true) : Calls Tryz.prog 112 #[av x] w (Gives (.bool false) w) := by
  have HB := Lib.hid (boxed_below w x)
  go_enter Tryz.func112, Tryz.ntmps112
  go_wp2_with fail
  with_reducible refine (HF.out.at _).mono ?_
  rintro e w1 ⟨rfl, hb⟩
  obtain ⟨c0, c1, c2, c3, c4⟩ := boxed_cells hb
  have hz := hb.size
  have hz1 : w.heap.size < w1.heap.size := by simp at hz; omega
  have HB1 := Lib.hid (HB.out.trans (hb.mono HB.out.size))
  clear hb hz
  go_wp2
  refine wp_loop_rounds 5 ?_
  rw [rounds_succ]
  have I0 := ix0 (.int .u64 x.b) (.int .u64 x.c) (.int .u64 x.o) (.int .u64 x.n)
  go_wp2
  clear I0
  rw [rounds_succ]
  have I1 := ix1 (.int .u64 x.b) (.int .u64 x.c) (.int .u64 x.o) (.int .u64 x.n)
  go_wp2
  clear I1
  rw [rounds_succ]
  have I2 := ix2 (.int .u64 x.b) (.int .u64 x.c) (.int .u64 x.o) (.int .u64 x.n)
  go_wp2
  clear I2
  go_ret
  exact ⟨rfl, ((HB1.out.alloc (by have := HB1.out.size; omega) _).alloc (by have := HB1.out.size; simp; omega) _)⟩
set_option maxRecDepth 100000 in
set_option maxHeartbeats 4000000 in
theorem right_zzzz (x : A) {f0 f1 f2 f3 : Bool} (w : World) (HF : Hid (Fl x.k f0 f1 f2 f3 true)) (h0 : 0 ≤ x.c) (h1 : x.c ≤ 9223372036854775807) (h5 : (x.k == 5) = false) (p0 : ((x.b : Int) != 0) = false) (p1 : (x.c != 0) = false) (p2 : ((x.o : Int) != 0) = false) (p3 : ((x.n : Int) != 0) = false) : Calls Tryz.prog 112 #[av x] w (Gives (.bool true) w) := by
  have HB := Lib.hid (boxed_below w x)
  go_enter Tryz.func112, Tryz.ntmps112
  go_wp2_with fail
  with_reducible refine (HF.out.at _).mono ?_
  rintro e w1 ⟨rfl, hb⟩
  obtain ⟨c0, c1, c2, c3, c4⟩ := boxed_cells hb
  have hz := hb.size
  have hz1 : w.heap.size < w1.heap.size := by simp at hz; omega
  have HB1 := Lib.hid (HB.out.trans (hb.mono HB.out.size))
  clear hb hz
  go_wp2
  refine wp_loop_rounds 5 ?_
  rw [rounds_succ]
  have I0 := ix0 (.int .u64 x.b) (.int .u64 x.c) (.int .u64 x.o) (.int .u64 x.n)
  go_wp2
  clear I0
  rw [rounds_succ]
  have I1 := ix1 (.int .u64 x.b) (.int .u64 x.c) (.int .u64 x.o) (.int .u64 x.n)
  go_wp2
  clear I1
  rw [rounds_succ]
  have I2 := ix2 (.int .u64 x.b) (.int .u64 x.c) (.int .u64 x.o) (.int .u64 x.n)
  go_wp2
  clear I2
  rw [rounds_succ]
  have I3 := ix3 (.int .u64 x.b) (.int .u64 x.c) (.int .u64 x.o) (.int .u64 x.n)
  go_wp2
  clear I3
  rw [rounds_succ]
  go_wp2
  go_ret
  exact ⟨rfl, ((HB1.out.alloc (by have := HB1.out.size; omega) _).alloc (by have := HB1.out.size; simp; omega) _)⟩
set_option maxRecDepth 100000 in
set_option maxHeartbeats 4000000 in
theorem right_zzyz (x : A) {f0 f1 f2 f3 : Bool} (w : World) (HF : Hid (Fl x.k f0 f1 true f3 true)) (h0 : 0 ≤ x.c) (h1 : x.c ≤ 9223372036854775807) (h5 : (x.k == 5) = false) (p0 : ((x.b : Int) != 0) = false) (p1 : (x.c != 0) = false) (p2 : ((x.o : Int) != 0) = true) (p3 : ((x.n : Int) != 0) = false) : Calls Tryz.prog 112 #[av x] w (Gives (.bool true) w) := by
  have HB := Lib.hid (boxed_below w x)
  go_enter Tryz.func112, Tryz.ntmps112
  go_wp2_with fail
  with_reducible refine (HF.out.at _).mono ?_
  rintro e w1 ⟨rfl, hb⟩
  obtain ⟨c0, c1, c2, c3, c4⟩ := boxed_cells hb
  have hz := hb.size
  have hz1 : w.heap.size < w1.heap.size := by simp at hz; omega
  have HB1 := Lib.hid (HB.out.trans (hb.mono HB.out.size))
  clear hb hz
  go_wp2
  refine wp_loop_rounds 5 ?_
  rw [rounds_succ]
  have I0 := ix0 (.int .u64 x.b) (.int .u64 x.c) (.int .u64 x.o) (.int .u64 x.n)
  go_wp2
  clear I0
  rw [rounds_succ]
  have I1 := ix1 (.int .u64 x.b) (.int .u64 x.c) (.int .u64 x.o) (.int .u64 x.n)
  go_wp2
  clear I1
  rw [rounds_succ]
  have I2 := ix2 (.int .u64 x.b) (.int .u64 x.c) (.int .u64 x.o) (.int .u64 x.n)
  go_wp2
  clear I2
  rw [rounds_succ]
  have I3 := ix3 (.int .u64 x.b) (.int .u64 x.c) (.int .u64 x.o) (.int .u64 x.n)
  go_wp2
  clear I3
  rw [rounds_succ]
  go_wp2
  go_ret
  exact ⟨rfl, ((HB1.out.alloc (by have := HB1.out.size; omega) _).alloc (by have := HB1.out.size; simp; omega) _)⟩
set_option maxRecDepth 100000 in
set_option maxHeartbeats 4000000 in
theorem right_zyzz (x : A) {f0 f1 f2 f3 : Bool} (w : World) (HF : Hid (Fl x.k f0 true f2 f3 true)) (h0 : 0 ≤ x.c) (h1 : x.c ≤ 9223372036854775807) (h5 : (x.k == 5) = false) (p0 : ((x.b : Int) != 0) = false) (p1 : (x.c != 0) = true) (p2 : ((x.o : Int) != 0) = false) (p3 : ((x.n : Int) != 0) = false) : Calls Tryz.prog 112 #[av x] w (Gives (.bool true) w) := by
  have HB := Lib.hid (boxed_below w x)
  go_enter Tryz.func112, Tryz.ntmps112
  go_wp2_with fail
  with_reducible refine (HF.out.at _).mono ?_
  rintro e w1 ⟨rfl, hb⟩
  obtain ⟨c0, c1, c2, c3, c4⟩ := boxed_cells hb
  have hz := hb.size
  have hz1 : w.heap.size < w1.heap.size := by simp at hz; omega
  have HB1 := Lib.hid (HB.out.trans (hb.mono HB.out.size))
  clear hb hz
  go_wp2
  refine wp_loop_rounds 5 ?_
  rw [rounds_succ]
  have I0 := ix0 (.int .u64 x.b) (.int .u64 x.c) (.int .u64 x.o) (.int .u64 x.n)
  go_wp2
  clear I0
  rw [rounds_succ]
  have I1 := ix1 (.int .u64 x.b) (.int .u64 x.c) (.int .u64 x.o) (.int .u64 x.n)
  go_wp2
  clear I1
  rw [rounds_succ]
  have I2 := ix2 (.int .u64 x.b) (.int .u64 x.c) (.int .u64 x.o) (.int .u64 x.n)
  go_wp2
  clear I2
  rw [rounds_succ]
  have I3 := ix3 (.int .u64 x.b) (.int .u64 x.c) (.int .u64 x.o) (.int .u64 x.n)
  go_wp2
  clear I3
  rw [rounds_succ]
  go_wp2
  go_ret
  exact ⟨rfl, ((HB1.out.alloc (by have := HB1.out.size; omega) _).alloc (by have := HB1.out.size; simp; omega) _)⟩
set_option maxRecDepth 100000 in
set_option maxHeartbeats 4000000 in
theorem right_zyyz (x : A) {f0 f1 f2 f3 : Bool} (w : World) (HF : Hid (Fl x.k f0 true true f3 true)) (h0 : 0 ≤ x.c) (h1 : x.c ≤ 9223372036854775807) (h5 : (x.k == 5) = false) (p0 : ((x.b : Int) != 0) = false) (p1 : (x.c != 0) = true) (p2 : ((x.o : Int) != 0) = true) (p3 : ((x.n : Int) != 0) = false) : Calls Tryz.prog 112 #[av x] w (Gives (.bool true) w) := by
  have HB := Lib.hid (boxed_below w x)
  go_enter Tryz.func112, Tryz.ntmps112
  go_wp2_with fail
  with_reducible refine (HF.out.at _).mono ?_
  rintro e w1 ⟨rfl, hb⟩
  obtain ⟨c0, c1, c2, c3, c4⟩ := boxed_cells hb
  have hz := hb.size
  have hz1 : w.heap.size < w1.heap.size := by simp at hz; omega
  have HB1 := Lib.hid (HB.out.trans (hb.mono HB.out.size))
  clear hb hz
  go_wp2
  refine wp_loop_rounds 5 ?_
  rw [rounds_succ]
  have I0 := ix0 (.int .u64 x.b) (.int .u64 x.c) (.int .u64 x.o) (.int .u64 x.n)
  go_wp2
  clear I0
  rw [rounds_succ]
  have I1 := ix1 (.int .u64 x.b) (.int .u64 x.c) (.int .u64 x.o) (.int .u64 x.n)
  go_wp2
  clear I1
  rw [rounds_succ]
  have I2 := ix2 (.int .u64 x.b) (.int .u64 x.c) (.int .u64 x.o) (.int .u64 x.n)
  go_wp2
  clear I2
  rw [rounds_succ]
  have I3 := ix3 (.int .u64 x.b) (.int .u64 x.c) (.int .u64 x.o) (.int .u64 x.n)
  go_wp2
  clear I3
  rw [rounds_succ]
  go_wp2
  go_ret
  exact ⟨rfl, ((HB1.out.alloc (by have := HB1.out.size; omega) _).alloc (by have := HB1.out.size; simp; omega) _)⟩
set_option maxRecDepth 100000 in
set_option maxHeartbeats 4000000 in
theorem right_yzzz (x : A) {f0 f1 f2 f3 : Bool} (w : World) (HF : Hid (Fl x.k true f1 f2 f3 true)) (h0 : 0 ≤ x.c) (h1 : x.c ≤ 9223372036854775807) (h5 : (x.k == 5) = false) (p0 : ((x.b : Int) != 0) = true) (p1 : (x.c != 0) = false) (p2 : ((x.o : Int) != 0) = false) (p3 : ((x.n : Int) != 0) = false) : Calls Tryz.prog 112 #[av x] w (Gives (.bool true) w) := by
  have HB := Lib.hid (boxed_below w x)
  go_enter Tryz.func112, Tryz.ntmps112
  go_wp2_with fail
  with_reducible refine (HF.out.at _).mono ?_
  rintro e w1 ⟨rfl, hb⟩
  obtain ⟨c0, c1, c2, c3, c4⟩ := boxed_cells hb
  have hz := hb.size
  have hz1 : w.heap.size < w1.heap.size := by simp at hz; omega
  have HB1 := Lib.hid (HB.out.trans (hb.mono HB.out.size))
  clear hb hz
  go_wp2
  refine wp_loop_rounds 5 ?_
  rw [rounds_succ]
  have I0 := ix0 (.int .u64 x.b) (.int .u64 x.c) (.int .u64 x.o) (.int .u64 x.n)
  go_wp2
  clear I0
  rw [rounds_succ]
  have I1 := ix1 (.int .u64 x.b) (.int .u64 x.c) (.int .u64 x.o) (.int .u64 x.n)
  go_wp2
  clear I1
  rw [rounds_succ]
  have I2 := ix2 (.int .u64 x.b) (.int .u64 x.c) (.int .u64 x.o) (.int .u64 x.n)
  go_wp2
  clear I2
  rw [rounds_succ]
  have I3 := ix3 (.int .u64 x.b) (.int .u64 x.c) (.int .u64 x.o) (.int .u64 x.n)
  go_wp2
  clear I3
  rw [rounds_succ]
  go_wp2
  go_ret
  exact ⟨rfl, ((HB1.out.alloc (by have := HB1.out.size; omega) _).alloc (by have := HB1.out.size; simp; omega) _)⟩
set_option maxRecDepth 100000 in
set_option maxHeartbeats 4000000 in
theorem right_yzyz (x : A) {f0 f1 f2 f3 : Bool} (w : World) (HF : Hid (Fl x.k true f1 true f3 true)) (h0 : 0 ≤ x.c) (h1 : x.c ≤ 9223372036854775807) (h5 : (x.k == 5) = false) (p0 : ((x.b : Int) != 0) = true) (p1 : (x.c != 0) = false) (p2 : ((x.o : Int) != 0) = true) (p3 : ((x.n : Int) != 0) = false) : Calls Tryz.prog 112 #[av x] w (Gives (.bool true) w) := by
  have HB := Lib.hid (boxed_below w x)
  go_enter Tryz.func112, Tryz.ntmps112
  go_wp2_with fail
  with_reducible refine (HF.out.at _).mono ?_
  rintro e w1 ⟨rfl, hb⟩
  obtain ⟨c0, c1, c2, c3, c4⟩ := boxed_cells hb
  have hz := hb.size
  have hz1 : w.heap.size < w1.heap.size := by simp at hz; omega
  have HB1 := Lib.hid (HB.out.trans (hb.mono HB.out.size))
  clear hb hz
  go_wp2
  refine wp_loop_rounds 5 ?_
  rw [rounds_succ]
  have I0 := ix0 (.int .u64 x.b) (.int .u64 x.c) (.int .u64 x.o) (.int .u64 x.n)
  go_wp2
  clear I0
  rw [rounds_succ]
  have I1 := ix1 (.int .u64 x.b) (.int .u64 x.c) (.int .u64 x.o) (.int .u64 x.n)
  go_wp2
  clear I1
  rw [rounds_succ]
  have I2 := ix2 (.int .u64 x.b) (.int .u64 x.c) (.int .u64 x.o) (.int .u64 x.n)
  go_wp2
  clear I2
  rw [rounds_succ]
  have I3 := ix3 (.int .u64 x.b) (.int .u64 x.c) (.int .u64 x.o) (.int .u64 x.n)
  go_wp2
  clear I3
  rw [rounds_succ]
  go_wp2
  go_ret
  exact ⟨rfl, ((HB1.out.alloc (by have := HB1.out.size; omega) _).alloc (by have := HB1.out.size; simp; omega) _)⟩
set_option maxRecDepth 100000 in
set_option maxHeartbeats 4000000 in
theorem right_yyzz (x : A) {f0 f1 f2 f3 : Bool} (w : World) (HF : Hid (Fl x.k true true f2 f3 true)) (h0 : 0 ≤ x.c) (h1 : x.c ≤ 9223372036854775807) (h5 : (x.k == 5) = false) (p0 : ((x.b : Int) != 0) = true) (p1 : (x.c != 0) = true) (p2 : ((x.o : Int) != 0) = false) (p3 : ((x.n : Int) != 0) = false) : Calls Tryz.prog 112 #[av x] w (Gives (.bool true) w) := by
  have HB := Lib.hid (boxed_below w x)
  go_enter Tryz.func112, Tryz.ntmps112
  go_wp2_with fail
  with_reducible refine (HF.out.at _).mono ?_
  rintro e w1 ⟨rfl, hb⟩
  obtain ⟨c0, c1, c2, c3, c4⟩ := boxed_cells hb
  have hz := hb.size
  have hz1 : w.heap.size < w1.heap.size := by simp at hz; omega
  have HB1 := Lib.hid (HB.out.trans (hb.mono HB.out.size))
  clear hb hz
  go_wp2
  refine wp_loop_rounds 5 ?_
  rw [rounds_succ]
  have I0 := ix0 (.int .u64 x.b) (.int .u64 x.c) (.int .u64 x.o) (.int .u64 x.n)
  go_wp2
  clear I0
  rw [rounds_succ]
  have I1 := ix1 (.int .u64 x.b) (.int .u64 x.c) (.int .u64 x.o) (.int .u64 x.n)
  go_wp2
  clear I1
  rw [rounds_succ]
  have I2 := ix2 (.int .u64 x.b) (.int .u64 x.c) (.int .u64 x.o) (.int .u64 x.n)
  go_wp2
  clear I2
  rw [rounds_succ]
  have I3 := ix3 (.int .u64 x.b) (.int .u64 x.c) (.int .u64 x.o) (.int .u64 x.n)
  go_wp2
  clear I3
  rw [rounds_succ]
  go_wp2
  go_ret
  exact ⟨rfl, ((HB1.out.alloc (by have := HB1.out.size; omega) _).alloc (by have := HB1.out.size; simp; omega) _)⟩
set_option maxRecDepth 100000 in
set_option maxHeartbeats 4000000 in
theorem right_yyyz (x : A) {f0 f1 f2 f3 : Bool} (w : World) (HF : Hid (Fl x.k true true true f3 true)) (h0 : 0 ≤ x.c) (h1 : x.c ≤ 9223372036854775807) (h5 : (x.k == 5) = false) (p0 : ((x.b : Int) != 0) = true) (p1 : (x.c != 0) = true) (p2 : ((x.o : Int) != 0) = true) (p3 : ((x.n : Int) != 0) = false) : Calls Tryz.prog 112 #[av x] w (Gives (.bool true) w) := by
  have HB := Lib.hid (boxed_below w x)
  go_enter Tryz.func112, Tryz.ntmps112
  go_wp2_with fail
  with_reducible refine (HF.out.at _).mono ?_
  rintro e w1 ⟨rfl, hb⟩
  obtain ⟨c0, c1, c2, c3, c4⟩ := boxed_cells hb
  have hz := hb.size
  have hz1 : w.heap.size < w1.heap.size := by simp at hz; omega
  have HB1 := Lib.hid (HB.out.trans (hb.mono HB.out.size))
  clear hb hz
  go_wp2
  refine wp_loop_rounds 5 ?_
  rw [rounds_succ]
  have I0 := ix0 (.int .u64 x.b) (.int .u64 x.c) (.int .u64 x.o) (.int .u64 x.n)
  go_wp2
  clear I0
  rw [rounds_succ]
  have I1 := ix1 (.int .u64 x.b) (.int .u64 x.c) (.int .u64 x.o) (.int .u64 x.n)
  go_wp2
  clear I1
  rw [rounds_succ]
  have I2 := ix2 (.int .u64 x.b) (.int .u64 x.c) (.int .u64 x.o) (.int .u64 x.n)
  go_wp2
  clear I2
  rw [rounds_succ]
  have I3 := ix3 (.int .u64 x.b) (.int .u64 x.c) (.int .u64 x.o) (.int .u64 x.n)
  go_wp2
  clear I3
  rw [rounds_succ]
  go_wp2
  go_ret
  exact ⟨rfl, ((HB1.out.alloc (by have := HB1.out.size; omega) _).alloc (by have := HB1.out.size; simp; omega) _)⟩
end Go.Proofs.YtknefjigdlbacaaGreatDoor
set_option linter.unusedSimpArgs false
set_option linter.unusedVariables false
namespace Go.Proofs.YtknefjigdlbacaaGreatDoor
open Go.RowKit
open Ac (A)
/-- May an act with these fields be? -/
def rt (x : A) (f0 f1 f2 f3 kn : Bool) : Bool := kn && decide (0 ≤ x.c) && !(x.k == 5 && x.c == 0) && (x.b == 0 || f0) && (x.c == 0 || f1) && (x.o == 0 || f2) && (x.n == 0 || f3)
theorem nz {n : Nat} : n = 0 → ((n : Int) != 0) = false := fun h => by subst h; rfl
theorem nn {n : Nat} : ¬ n = 0 → ((n : Int) != 0) = true := fun h => by simp; omega
theorem iz {n : Int} : n = 0 → (n != 0) = false := fun h => by subst h; rfl
theorem inn {n : Int} : ¬ n = 0 → (n != 0) = true := fun h => by simp; omega
theorem right_gen (x : A) (f0 f1 f2 f3 kn : Bool) (hF : Fl x.k f0 f1 f2 f3 kn) (h1 : x.c ≤ 9223372036854775807) (h5F : x.k = 5 → f0 = false ∧ f1 = true ∧ f2 = false ∧ f3 = false) (w : World) :
    Calls Tryz.prog 112 #[av x] w (Gives (.bool (rt x f0 f1 f2 f3 kn)) w) := by
  have HF := Lib.hid hF; clear hF
  cases kn with
  | false =>
    have e : rt x f0 f1 f2 f3 false = false := by simp [rt]
    rw [e]; exact right_none x w HF
  | true =>
    by_cases h0 : 0 ≤ x.c
    case neg =>
      have e : rt x f0 f1 f2 f3 true = false := by simp [rt, h0]
      rw [e]; exact right_neg x w HF (by omega)
    by_cases h5 : x.k = 5
    · obtain ⟨rfl, rfl, rfl, rfl⟩ := h5F h5
      have k5 : (x.k == 5) = true := by simp [h5]
      by_cases hc : x.c = 0
      · have e : rt x false true false false true = false := by simp [rt, h5, hc]
        rw [e]; exact right_zero x w HF (by simp [hc]) k5 h0
      have hz : (x.c == 0) = false := by simp [hc]
      by_cases pb : x.b = 0
      case neg =>
        have e : rt x false true false false true = false := by simp [rt, pb]
        rw [e]; exact right_kx x (f0 := false) (f1 := true) (f2 := false) (f3 := false) w HF h0 h1 k5 hz (nn pb)
      by_cases po : x.o = 0
      case neg =>
        have e : rt x false true false false true = false := by simp [rt, po]
        rw [e]; exact right_kzyx x (f0 := false) (f1 := true) (f2 := false) (f3 := false) w HF h0 h1 k5 hz (nz pb) (inn hc) (nn po)
      by_cases pn : x.n = 0
      case neg =>
        have e : rt x false true false false true = false := by simp [rt, pn]
        rw [e]; exact right_kzyzx x (f0 := false) (f1 := true) (f2 := false) (f3 := false) w HF h0 h1 k5 hz (nz pb) (inn hc) (nz po) (nn pn)
      have e : rt x false true false false true = true := by simp [rt, h5, hc, h0, pb, po, pn]
      rw [e]; exact right_kzyzz x (f0 := false) (f1 := true) (f2 := false) (f3 := false) w HF h0 h1 k5 hz (nz pb) (inn hc) (nz po) (nz pn)
    have k5 : (x.k == 5) = false := by simp [h5]
    clear h5F
    by_cases pb : x.b = 0
    · by_cases pc : x.c = 0
      · by_cases po : x.o = 0
        · by_cases pn : x.n = 0
          · have e : rt x f0 f1 f2 f3 true = true := by simp [rt, h5, h0, pb, pc, po, pn]
            rw [e]; exact right_zzzz x (f0 := f0) (f1 := f1) (f2 := f2) (f3 := f3) w HF h0 h1 k5 (nz pb) (iz pc) (nz po) (nz pn)
          · cases f3 with
            | false =>
              have e : rt x f0 f1 f2 false true = false := by simp [rt, pn]
              rw [e]; exact right_zzzx x (f0 := f0) (f1 := f1) (f2 := f2) (f3 := false) w HF h0 h1 k5 (nz pb) (iz pc) (nz po) (nn pn)
            | true =>
              have e : rt x f0 f1 f2 true true = true := by simp [rt, h5, h0, pb, pc, po, pn]
              rw [e]; exact right_zzzy x (f0 := f0) (f1 := f1) (f2 := f2) (f3 := true) w HF h0 h1 k5 (nz pb) (iz pc) (nz po) (nn pn)
        · cases f2 with
          | false =>
            have e : rt x f0 f1 false f3 true = false := by simp [rt, po]
            rw [e]; exact right_zzx x (f0 := f0) (f1 := f1) (f2 := false) (f3 := f3) w HF h0 h1 k5 (nz pb) (iz pc) (nn po)
          | true =>
            by_cases pn : x.n = 0
            · have e : rt x f0 f1 true f3 true = true := by simp [rt, h5, h0, pb, pc, po, pn]
              rw [e]; exact right_zzyz x (f0 := f0) (f1 := f1) (f2 := true) (f3 := f3) w HF h0 h1 k5 (nz pb) (iz pc) (nn po) (nz pn)
            · cases f3 with
              | false =>
                have e : rt x f0 f1 true false true = false := by simp [rt, pn]
                rw [e]; exact right_zzyx x (f0 := f0) (f1 := f1) (f2 := true) (f3 := false) w HF h0 h1 k5 (nz pb) (iz pc) (nn po) (nn pn)
              | true =>
                have e : rt x f0 f1 true true true = true := by simp [rt, h5, h0, pb, pc, po, pn]
                rw [e]; exact right_zzyy x (f0 := f0) (f1 := f1) (f2 := true) (f3 := true) w HF h0 h1 k5 (nz pb) (iz pc) (nn po) (nn pn)
      · cases f1 with
        | false =>
          have e : rt x f0 false f2 f3 true = false := by simp [rt, pc]
          rw [e]; exact right_zx x (f0 := f0) (f1 := false) (f2 := f2) (f3 := f3) w HF h0 h1 k5 (nz pb) (inn pc)
        | true =>
          by_cases po : x.o = 0
          · by_cases pn : x.n = 0
            · have e : rt x f0 true f2 f3 true = true := by simp [rt, h5, h0, pb, pc, po, pn]
              rw [e]; exact right_zyzz x (f0 := f0) (f1 := true) (f2 := f2) (f3 := f3) w HF h0 h1 k5 (nz pb) (inn pc) (nz po) (nz pn)
            · cases f3 with
              | false =>
                have e : rt x f0 true f2 false true = false := by simp [rt, pn]
                rw [e]; exact right_zyzx x (f0 := f0) (f1 := true) (f2 := f2) (f3 := false) w HF h0 h1 k5 (nz pb) (inn pc) (nz po) (nn pn)
              | true =>
                have e : rt x f0 true f2 true true = true := by simp [rt, h5, h0, pb, pc, po, pn]
                rw [e]; exact right_zyzy x (f0 := f0) (f1 := true) (f2 := f2) (f3 := true) w HF h0 h1 k5 (nz pb) (inn pc) (nz po) (nn pn)
          · cases f2 with
            | false =>
              have e : rt x f0 true false f3 true = false := by simp [rt, po]
              rw [e]; exact right_zyx x (f0 := f0) (f1 := true) (f2 := false) (f3 := f3) w HF h0 h1 k5 (nz pb) (inn pc) (nn po)
            | true =>
              by_cases pn : x.n = 0
              · have e : rt x f0 true true f3 true = true := by simp [rt, h5, h0, pb, pc, po, pn]
                rw [e]; exact right_zyyz x (f0 := f0) (f1 := true) (f2 := true) (f3 := f3) w HF h0 h1 k5 (nz pb) (inn pc) (nn po) (nz pn)
              · cases f3 with
                | false =>
                  have e : rt x f0 true true false true = false := by simp [rt, pn]
                  rw [e]; exact right_zyyx x (f0 := f0) (f1 := true) (f2 := true) (f3 := false) w HF h0 h1 k5 (nz pb) (inn pc) (nn po) (nn pn)
                | true =>
                  have e : rt x f0 true true true true = true := by simp [rt, h5, h0, pb, pc, po, pn]
                  rw [e]; exact right_zyyy x (f0 := f0) (f1 := true) (f2 := true) (f3 := true) w HF h0 h1 k5 (nz pb) (inn pc) (nn po) (nn pn)
    · cases f0 with
      | false =>
        have e : rt x false f1 f2 f3 true = false := by simp [rt, pb]
        rw [e]; exact right_x x (f0 := false) (f1 := f1) (f2 := f2) (f3 := f3) w HF h0 h1 k5 (nn pb)
      | true =>
        by_cases pc : x.c = 0
        · by_cases po : x.o = 0
          · by_cases pn : x.n = 0
            · have e : rt x true f1 f2 f3 true = true := by simp [rt, h5, h0, pb, pc, po, pn]
              rw [e]; exact right_yzzz x (f0 := true) (f1 := f1) (f2 := f2) (f3 := f3) w HF h0 h1 k5 (nn pb) (iz pc) (nz po) (nz pn)
            · cases f3 with
              | false =>
                have e : rt x true f1 f2 false true = false := by simp [rt, pn]
                rw [e]; exact right_yzzx x (f0 := true) (f1 := f1) (f2 := f2) (f3 := false) w HF h0 h1 k5 (nn pb) (iz pc) (nz po) (nn pn)
              | true =>
                have e : rt x true f1 f2 true true = true := by simp [rt, h5, h0, pb, pc, po, pn]
                rw [e]; exact right_yzzy x (f0 := true) (f1 := f1) (f2 := f2) (f3 := true) w HF h0 h1 k5 (nn pb) (iz pc) (nz po) (nn pn)
          · cases f2 with
            | false =>
              have e : rt x true f1 false f3 true = false := by simp [rt, po]
              rw [e]; exact right_yzx x (f0 := true) (f1 := f1) (f2 := false) (f3 := f3) w HF h0 h1 k5 (nn pb) (iz pc) (nn po)
            | true =>
              by_cases pn : x.n = 0
              · have e : rt x true f1 true f3 true = true := by simp [rt, h5, h0, pb, pc, po, pn]
                rw [e]; exact right_yzyz x (f0 := true) (f1 := f1) (f2 := true) (f3 := f3) w HF h0 h1 k5 (nn pb) (iz pc) (nn po) (nz pn)
              · cases f3 with
                | false =>
                  have e : rt x true f1 true false true = false := by simp [rt, pn]
                  rw [e]; exact right_yzyx x (f0 := true) (f1 := f1) (f2 := true) (f3 := false) w HF h0 h1 k5 (nn pb) (iz pc) (nn po) (nn pn)
                | true =>
                  have e : rt x true f1 true true true = true := by simp [rt, h5, h0, pb, pc, po, pn]
                  rw [e]; exact right_yzyy x (f0 := true) (f1 := f1) (f2 := true) (f3 := true) w HF h0 h1 k5 (nn pb) (iz pc) (nn po) (nn pn)
        · cases f1 with
          | false =>
            have e : rt x true false f2 f3 true = false := by simp [rt, pc]
            rw [e]; exact right_yx x (f0 := true) (f1 := false) (f2 := f2) (f3 := f3) w HF h0 h1 k5 (nn pb) (inn pc)
          | true =>
            by_cases po : x.o = 0
            · by_cases pn : x.n = 0
              · have e : rt x true true f2 f3 true = true := by simp [rt, h5, h0, pb, pc, po, pn]
                rw [e]; exact right_yyzz x (f0 := true) (f1 := true) (f2 := f2) (f3 := f3) w HF h0 h1 k5 (nn pb) (inn pc) (nz po) (nz pn)
              · cases f3 with
                | false =>
                  have e : rt x true true f2 false true = false := by simp [rt, pn]
                  rw [e]; exact right_yyzx x (f0 := true) (f1 := true) (f2 := f2) (f3 := false) w HF h0 h1 k5 (nn pb) (inn pc) (nz po) (nn pn)
                | true =>
                  have e : rt x true true f2 true true = true := by simp [rt, h5, h0, pb, pc, po, pn]
                  rw [e]; exact right_yyzy x (f0 := true) (f1 := true) (f2 := f2) (f3 := true) w HF h0 h1 k5 (nn pb) (inn pc) (nz po) (nn pn)
            · cases f2 with
              | false =>
                have e : rt x true true false f3 true = false := by simp [rt, po]
                rw [e]; exact right_yyx x (f0 := true) (f1 := true) (f2 := false) (f3 := f3) w HF h0 h1 k5 (nn pb) (inn pc) (nn po)
              | true =>
                by_cases pn : x.n = 0
                · have e : rt x true true true f3 true = true := by simp [rt, h5, h0, pb, pc, po, pn]
                  rw [e]; exact right_yyyz x (f0 := true) (f1 := true) (f2 := true) (f3 := f3) w HF h0 h1 k5 (nn pb) (inn pc) (nn po) (nz pn)
                · cases f3 with
                  | false =>
                    have e : rt x true true true false true = false := by simp [rt, pn]
                    rw [e]; exact right_yyyx x (f0 := true) (f1 := true) (f2 := true) (f3 := false) w HF h0 h1 k5 (nn pb) (inn pc) (nn po) (nn pn)
                  | true =>
                    have e : rt x true true true true true = true := by simp [rt, h5, h0, pb, pc, po, pn]
                    rw [e]; exact right_yyyy x (f0 := true) (f1 := true) (f2 := true) (f3 := true) w HF h0 h1 k5 (nn pb) (inn pc) (nn po) (nn pn)
/-- ████ Right. ████ -/
theorem right_any (x : A) (h1 : x.c ≤ 9223372036854775807) (w : World) : Calls Tryz.prog 112 #[av x] w (Gives (.bool (Ac.right x)) w) :=
  right_gen x _ _ _ _ _ (fun w => fields_any x.k w) h1 (fun h => by rw [h]; decide) w
end Go.Proofs.YtknefjigdlbacaaGreatDoor
