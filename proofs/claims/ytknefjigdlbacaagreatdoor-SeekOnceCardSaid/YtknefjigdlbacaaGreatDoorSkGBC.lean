/-
  The walk of Right, case by case. By an AI agent.
-/
import Derived.Test.YtknefjigdlbacaaGreatDoorSkGBB
set_option linter.unusedSimpArgs false
set_option linter.unusedVariables false
namespace Go.Proofs.YtknefjigdlbacaaGreatDoor
open Go.RowKit
open Ac (A)
set_option maxRecDepth 100000 in
set_option maxHeartbeats 4000000 in
theorem right_x (x : A) {f0 f1 f2 f3 : Bool} (w : World) (HF : Hid (Fl x.k false f1 f2 f3 true)) (h0 : 0 ≤ x.c) (h1 : x.c ≤ 9223372036854775807) (h5 : (x.k == 5) = false) (p0 : ((x.b : Int) != 0) = true) : Calls Tryz.prog 112 #[av x] w (Gives (.bool false) w) := by
  have HB := Lib.hid (boxed_below w x)
  go_enter Tryz.func112, Tryz.ntmps112
  go_wp2_with fail
  with_reducible refine (HF.out.at _).mono ?_
  rintro e w1 ⟨rfl, hb⟩
  obtain ⟨c0, c1, c2, c3, c4⟩ := boxed_cells hb
  have hz := hb.size
  have hz1 : w.heap.size < w1.heap.size := by simp at hz; omega
  have HB1 := Lib.hid (HB.out.trans (hb.mono HB.out.size))
  clear hb hz
  go_wp2
  refine wp_loop_rounds 5 ?_
  rw [rounds_succ]
  have I0 := ix0 (.int .u64 x.b) (.int .u64 x.c) (.int .u64 x.o) (.int .u64 x.n)
  go_wp2
  clear I0
  go_ret
  exact ⟨rfl, ((HB1.out.alloc (by have := HB1.out.size; omega) _).alloc (by have := HB1.out.size; simp; omega) _)⟩
set_option maxRecDepth 100000 in
set_option maxHeartbeats 4000000 in
theorem right_zzx (x : A) {f0 f1 f2 f3 : Bool} (w : World) (HF : Hid (Fl x.k f0 f1 false f3 true)) (h0 : 0 ≤ x.c) (h1 : x.c ≤ 9223372036854775807) (h5 : (x.k == 5) = false) (p0 : ((x.b : Int) != 0) = false) (p1 : (x.c != 0) = false) (p2 : ((x.o : Int) != 0) = true) : Calls Tryz.prog 112 #[av x] w (Gives (.bool false) w) := by
  have HB := Lib.hid (boxed_below w x)
  go_enter Tryz.func112, Tryz.ntmps112
  go_wp2_with fail
  with_reducible refine (HF.out.at _).mono ?_
  rintro e w1 ⟨rfl, hb⟩
  obtain ⟨c0, c1, c2, c3, c4⟩ := boxed_cells hb
  have hz := hb.size
  have hz1 : w.heap.size < w1.heap.size := by simp at hz; omega
  have HB1 := Lib.hid (HB.out.trans (hb.mono HB.out.size))
  clear hb hz
  go_wp2
  refine wp_loop_rounds 5 ?_
  rw [rounds_succ]
  have I0 := ix0 (.int .u64 x.b) (.int .u64 x.c) (.int .u64 x.o) (.int .u64 x.n)
  go_wp2
  clear I0
  rw [rounds_succ]
  have I1 := ix1 (.int .u64 x.b) (.int .u64 x.c) (.int .u64 x.o) (.int .u64 x.n)
  go_wp2
  clear I1
  rw [rounds_succ]
  have I2 := ix2 (.int .u64 x.b) (.int .u64 x.c) (.int .u64 x.o) (.int .u64 x.n)
  go_wp2
  clear I2
  go_ret
  exact ⟨rfl, ((HB1.out.alloc (by have := HB1.out.size; omega) _).alloc (by have := HB1.out.size; simp; omega) _)⟩
set_option maxRecDepth 100000 in
set_option maxHeartbeats 4000000 in
theorem right_yyx (x : A) {f0 f1 f2 f3 : Bool} (w : World) (HF : Hid (Fl x.k true true false f3 true)) (h0 : 0 ≤ x.c) (h1 : x.c ≤ 9223372036854775807) (h5 : (x.k == 5) = false) (p0 : ((x.b : Int) != 0) = true) (p1 : (x.c != 0) = true) (p2 : ((x.o : Int) != 0) = true) : Calls Tryz.prog 112 #[av x] w (Gives (.bool false) w) := by
  have HB := Lib.hid (boxed_below w x)
  go_enter Tryz.func112, Tryz.ntmps112
  go_wp2_with fail
  with_reducible refine (HF.out.at _).mono ?_
  rintro e w1 ⟨rfl, hb⟩
  obtain ⟨c0, c1, c2, c3, c4⟩ := boxed_cells hb
  have hz := hb.size
  have hz1 : w.heap.size < w1.heap.size := by simp at hz; omega
  have HB1 := Lib.hid (HB.out.trans (hb.mono HB.out.size))
  clear hb hz
  go_wp2
  refine wp_loop_rounds 5 ?_
  rw [rounds_succ]
  have I0 := ix0 (.int .u64 x.b) (.int .u64 x.c) (.int .u64 x.o) (.int .u64 x.n)
  go_wp2
  clear I0
  rw [rounds_succ]
  have I1 := ix1 (.int .u64 x.b) (.int .u64 x.c) (.int .u64 x.o) (.int .u64 x.n)
  go_wp2
  clear I1
  rw [rounds_succ]
  have I2 := ix2 (.int .u64 x.b) (.int .u64 x.c) (.int .u64 x.o) (.int .u64 x.n)
  go_wp2
  clear I2
  go_ret
  exact ⟨rfl, ((HB1.out.alloc (by have := HB1.out.size; omega) _).alloc (by have := HB1.out.size; simp; omega) _)⟩
set_option maxRecDepth 100000 in
set_option maxHeartbeats 4000000 in
theorem right_zzzy (x : A) {f0 f1 f2 f3 : Bool} (w : World) (HF : Hid (Fl x.k f0 f1 f2 true true)) (h0 : 0 ≤ x.c) (h1 : x.c ≤ 9223372036854775807) (h5 : (x.k == 5) = false) (p0 : ((x.b : Int) != 0) = false) (p1 : (x.c != 0) = false) (p2 : ((x.o : Int) != 0) = false) (p3 : ((x.n : Int) != 0) = true) : Calls Tryz.prog 112 #[av x] w (Gives (.bool true) w) := by
  have HB := Lib.hid (boxed_below w x)
  go_enter Tryz.func112, Tryz.ntmps112
  go_wp2_with fail
  with_reducible refine (HF.out.at _).mono ?_
  rintro e w1 ⟨rfl, hb⟩
  obtain ⟨c0, c1, c2, c3, c4⟩ := boxed_cells hb
  have hz := hb.size
  have hz1 : w.heap.size < w1.heap.size := by simp at hz; omega
  have HB1 := Lib.hid (HB.out.trans (hb.mono HB.out.size))
  clear hb hz
  go_wp2
  refine wp_loop_rounds 5 ?_
  rw [rounds_succ]
  have I0 := ix0 (.int .u64 x.b) (.int .u64 x.c) (.int .u64 x.o) (.int .u64 x.n)
  go_wp2
  clear I0
  rw [rounds_succ]
  have I1 := ix1 (.int .u64 x.b) (.int .u64 x.c) (.int .u64 x.o) (.int .u64 x.n)
  go_wp2
  clear I1
  rw [rounds_succ]
  have I2 := ix2 (.int .u64 x.b) (.int .u64 x.c) (.int .u64 x.o) (.int .u64 x.n)
  go_wp2
  clear I2
  rw [rounds_succ]
  have I3 := ix3 (.int .u64 x.b) (.int .u64 x.c) (.int .u64 x.o) (.int .u64 x.n)
  go_wp2
  clear I3
  rw [rounds_succ]
  go_wp2
  go_ret
  exact ⟨rfl, ((HB1.out.alloc (by have := HB1.out.size; omega) _).alloc (by have := HB1.out.size; simp; omega) _)⟩
set_option maxRecDepth 100000 in
set_option maxHeartbeats 4000000 in
theorem right_zzyy (x : A) {f0 f1 f2 f3 : Bool} (w : World) (HF : Hid (Fl x.k f0 f1 true true true)) (h0 : 0 ≤ x.c) (h1 : x.c ≤ 9223372036854775807) (h5 : (x.k == 5) = false) (p0 : ((x.b : Int) != 0) = false) (p1 : (x.c != 0) = false) (p2 : ((x.o : Int) != 0) = true) (p3 : ((x.n : Int) != 0) = true) : Calls Tryz.prog 112 #[av x] w (Gives (.bool true) w) := by
  have HB := Lib.hid (boxed_below w x)
  go_enter Tryz.func112, Tryz.ntmps112
  go_wp2_with fail
  with_reducible refine (HF.out.at _).mono ?_
  rintro e w1 ⟨rfl, hb⟩
  obtain ⟨c0, c1, c2, c3, c4⟩ := boxed_cells hb
  have hz := hb.size
  have hz1 : w.heap.size < w1.heap.size := by simp at hz; omega
  have HB1 := Lib.hid (HB.out.trans (hb.mono HB.out.size))
  clear hb hz
  go_wp2
  refine wp_loop_rounds 5 ?_
  rw [rounds_succ]
  have I0 := ix0 (.int .u64 x.b) (.int .u64 x.c) (.int .u64 x.o) (.int .u64 x.n)
  go_wp2
  clear I0
  rw [rounds_succ]
  have I1 := ix1 (.int .u64 x.b) (.int .u64 x.c) (.int .u64 x.o) (.int .u64 x.n)
  go_wp2
  clear I1
  rw [rounds_succ]
  have I2 := ix2 (.int .u64 x.b) (.int .u64 x.c) (.int .u64 x.o) (.int .u64 x.n)
  go_wp2
  clear I2
  rw [rounds_succ]
  have I3 := ix3 (.int .u64 x.b) (.int .u64 x.c) (.int .u64 x.o) (.int .u64 x.n)
  go_wp2
  clear I3
  rw [rounds_succ]
  go_wp2
  go_ret
  exact ⟨rfl, ((HB1.out.alloc (by have := HB1.out.size; omega) _).alloc (by have := HB1.out.size; simp; omega) _)⟩
set_option maxRecDepth 100000 in
set_option maxHeartbeats 4000000 in
theorem right_zyzy (x : A) {f0 f1 f2 f3 : Bool} (w : World) (HF : Hid (Fl x.k f0 true f2 true true)) (h0 : 0 ≤ x.c) (h1 : x.c ≤ 9223372036854775807) (h5 : (x.k == 5) = false) (p0 : ((x.b : Int) != 0) = false) (p1 : (x.c != 0) = true) (p2 : ((x.o : Int) != 0) = false) (p3 : ((x.n : Int) != 0) = true) : Calls Tryz.prog 112 #[av x] w (Gives (.bool true) w) := by
  have HB := Lib.hid (boxed_below w x)
  go_enter Tryz.func112, Tryz.ntmps112
  go_wp2_with fail
  with_reducible refine (HF.out.at _).mono ?_
  rintro e w1 ⟨rfl, hb⟩
  obtain ⟨c0, c1, c2, c3, c4⟩ := boxed_cells hb
  have hz := hb.size
  have hz1 : w.heap.size < w1.heap.size := by simp at hz; omega
  have HB1 := Lib.hid (HB.out.trans (hb.mono HB.out.size))
  clear hb hz
  go_wp2
  refine wp_loop_rounds 5 ?_
  rw [rounds_succ]
  have I0 := ix0 (.int .u64 x.b) (.int .u64 x.c) (.int .u64 x.o) (.int .u64 x.n)
  go_wp2
  clear I0
  rw [rounds_succ]
  have I1 := ix1 (.int .u64 x.b) (.int .u64 x.c) (.int .u64 x.o) (.int .u64 x.n)
  go_wp2
  clear I1
  rw [rounds_succ]
  have I2 := ix2 (.int .u64 x.b) (.int .u64 x.c) (.int .u64 x.o) (.int .u64 x.n)
  go_wp2
  clear I2
  rw [rounds_succ]
  have I3 := ix3 (.int .u64 x.b) (.int .u64 x.c) (.int .u64 x.o) (.int .u64 x.n)
  go_wp2
  clear I3
  rw [rounds_succ]
  go_wp2
  go_ret
  exact ⟨rfl, ((HB1.out.alloc (by have := HB1.out.size; omega) _).alloc (by have := HB1.out.size; simp; omega) _)⟩
set_option maxRecDepth 100000 in
set_option maxHeartbeats 4000000 in
theorem right_zyyy (x : A) {f0 f1 f2 f3 : Bool} (w : World) (HF : Hid (Fl x.k f0 true true true true)) (h0 : 0 ≤ x.c) (h1 : x.c ≤ 9223372036854775807) (h5 : (x.k == 5) = false) (p0 : ((x.b : Int) != 0) = false) (p1 : (x.c != 0) = true) (p2 : ((x.o : Int) != 0) = true) (p3 : ((x.n : Int) != 0) = true) : Calls Tryz.prog 112 #[av x] w (Gives (.bool true) w) := by
  have HB := Lib.hid (boxed_below w x)
  go_enter Tryz.func112, Tryz.ntmps112
  go_wp2_with fail
  with_reducible refine (HF.out.at _).mono ?_
  rintro e w1 ⟨rfl, hb⟩
  obtain ⟨c0, c1, c2, c3, c4⟩ := boxed_cells hb
  have hz := hb.size
  have hz1 : w.heap.size < w1.heap.size := by simp at hz; omega
  have HB1 := Lib.hid (HB.out.trans (hb.mono HB.out.size))
  clear hb hz
  go_wp2
  refine wp_loop_rounds 5 ?_
  rw [rounds_succ]
  have I0 := ix0 (.int .u64 x.b) (.int .u64 x.c) (.int .u64 x.o) (.int .u64 x.n)
  go_wp2
  clear I0
  rw [rounds_succ]
  have I1 := ix1 (.int .u64 x.b) (.int .u64 x.c) (.int .u64 x.o) (.int .u64 x.n)
  go_wp2
  clear I1
  rw [rounds_succ]
  have I2 := ix2 (.int .u64 x.b) (.int .u64 x.c) (.int .u64 x.o) (.int .u64 x.n)
  go_wp2
  clear I2
  rw [rounds_succ]
  have I3 := ix3 (.int .u64 x.b) (.int .u64 x.c) (.int .u64 x.o) (.int .u64 x.n)
  go_wp2
  clear I3
  rw [rounds_succ]
  go_wp2
  go_ret
  exact ⟨rfl, ((HB1.out.alloc (by have := HB1.out.size; omega) _).alloc (by have := HB1.out.size; simp; omega) _)⟩
set_option maxRecDepth 100000 in
set_option maxHeartbeats 4000000 in
theorem right_yzzy (x : A) {f0 f1 f2 f3 : Bool} (w : World) (HF : Hid (Fl x.k true f1 f2 true true)) (h0 : 0 ≤ x.c) (h1 : x.c ≤ 9223372036854775807) (h5 : (x.k == 5) = false) (p0 : ((x.b : Int) != 0) = true) (p1 : (x.c != 0) = false) (p2 : ((x.o : Int) != 0) = false) (p3 : ((x.n : Int) != 0) = true) : Calls Tryz.prog 112 #[av x] w (Gives (.bool true) w) := by
  have HB := Lib.hid (boxed_below w x)
  go_enter Tryz.func112, Tryz.ntmps112
  go_wp2_with fail
  with_reducible refine (HF.out.at _).mono ?_
  rintro e w1 ⟨rfl, hb⟩
  obtain ⟨c0, c1, c2, c3, c4⟩ := boxed_cells hb
  have hz := hb.size
  have hz1 : w.heap.size < w1.heap.size := by simp at hz; omega
  have HB1 := Lib.hid (HB.out.trans (hb.mono HB.out.size))
  clear hb hz
  go_wp2
  refine wp_loop_rounds 5 ?_
  rw [rounds_succ]
  have I0 := ix0 (.int .u64 x.b) (.int .u64 x.c) (.int .u64 x.o) (.int .u64 x.n)
  go_wp2
  clear I0
  rw [rounds_succ]
  have I1 := ix1 (.int .u64 x.b) (.int .u64 x.c) (.int .u64 x.o) (.int .u64 x.n)
  go_wp2
  clear I1
  rw [rounds_succ]
  have I2 := ix2 (.int .u64 x.b) (.int .u64 x.c) (.int .u64 x.o) (.int .u64 x.n)
  go_wp2
  clear I2
  rw [rounds_succ]
  have I3 := ix3 (.int .u64 x.b) (.int .u64 x.c) (.int .u64 x.o) (.int .u64 x.n)
  go_wp2
  clear I3
  rw [rounds_succ]
  go_wp2
  go_ret
  exact ⟨rfl, ((HB1.out.alloc (by have := HB1.out.size; omega) _).alloc (by have := HB1.out.size; simp; omega) _)⟩
set_option maxRecDepth 100000 in
set_option maxHeartbeats 4000000 in
theorem right_yzyy (x : A) {f0 f1 f2 f3 : Bool} (w : World) (HF : Hid (Fl x.k true f1 true true true)) (h0 : 0 ≤ x.c) (h1 : x.c ≤ 9223372036854775807) (h5 : (x.k == 5) = false) (p0 : ((x.b : Int) != 0) = true) (p1 : (x.c != 0) = false) (p2 : ((x.o : Int) != 0) = true) (p3 : ((x.n : Int) != 0) = true) : Calls Tryz.prog 112 #[av x] w (Gives (.bool true) w) := by
  have HB := Lib.hid (boxed_below w x)
  go_enter Tryz.func112, Tryz.ntmps112
  go_wp2_with fail
  with_reducible refine (HF.out.at _).mono ?_
  rintro e w1 ⟨rfl, hb⟩
  obtain ⟨c0, c1, c2, c3, c4⟩ := boxed_cells hb
  have hz := hb.size
  have hz1 : w.heap.size < w1.heap.size := by simp at hz; omega
  have HB1 := Lib.hid (HB.out.trans (hb.mono HB.out.size))
  clear hb hz
  go_wp2
  refine wp_loop_rounds 5 ?_
  rw [rounds_succ]
  have I0 := ix0 (.int .u64 x.b) (.int .u64 x.c) (.int .u64 x.o) (.int .u64 x.n)
  go_wp2
  clear I0
  rw [rounds_succ]
  have I1 := ix1 (.int .u64 x.b) (.int .u64 x.c) (.int .u64 x.o) (.int .u64 x.n)
  go_wp2
  clear I1
  rw [rounds_succ]
  have I2 := ix2 (.int .u64 x.b) (.int .u64 x.c) (.int .u64 x.o) (.int .u64 x.n)
  go_wp2
  clear I2
  rw [rounds_succ]
  have I3 := ix3 (.int .u64 x.b) (.int .u64 x.c) (.int .u64 x.o) (.int .u64 x.n)
  go_wp2
  clear I3
  rw [rounds_succ]
  go_wp2
  go_ret
  exact ⟨rfl, ((HB1.out.alloc (by have := HB1.out.size; omega) _).alloc (by have := HB1.out.size; simp; omega) _)⟩
set_option maxRecDepth 100000 in
set_option maxHeartbeats 4000000 in
theorem right_yyzy (x : A) {f0 f1 f2 f3 : Bool} (w : World) (HF : Hid (Fl x.k true true f2 true true)) (h0 : 0 ≤ x.c) (h1 : x.c ≤ 9223372036854775807) (h5 : (x.k == 5) = false) (p0 : ((x.b : Int) != 0) = true) (p1 : (x.c != 0) = true) (p2 : ((x.o : Int) != 0) = false) (p3 : ((x.n : Int) != 0) = true) : Calls Tryz.prog 112 #[av x] w (Gives (.bool true) w) := by
  have HB := Lib.hid (boxed_below w x)
  go_enter Tryz.func112, Tryz.ntmps112
  go_wp2_with fail
  with_reducible refine (HF.out.at _).mono ?_
  rintro e w1 ⟨rfl, hb⟩
  obtain ⟨c0, c1, c2, c3, c4⟩ := boxed_cells hb
  have hz := hb.size
  have hz1 : w.heap.size < w1.heap.size := by simp at hz; omega
  have HB1 := Lib.hid (HB.out.trans (hb.mono HB.out.size))
  clear hb hz
  go_wp2
  refine wp_loop_rounds 5 ?_
  rw [rounds_succ]
  have I0 := ix0 (.int .u64 x.b) (.int .u64 x.c) (.int .u64 x.o) (.int .u64 x.n)
  go_wp2
  clear I0
  rw [rounds_succ]
  have I1 := ix1 (.int .u64 x.b) (.int .u64 x.c) (.int .u64 x.o) (.int .u64 x.n)
  go_wp2
  clear I1
  rw [rounds_succ]
  have I2 := ix2 (.int .u64 x.b) (.int .u64 x.c) (.int .u64 x.o) (.int .u64 x.n)
  go_wp2
  clear I2
  rw [rounds_succ]
  have I3 := ix3 (.int .u64 x.b) (.int .u64 x.c) (.int .u64 x.o) (.int .u64 x.n)
  go_wp2
  clear I3
  rw [rounds_succ]
  go_wp2
  go_ret
  exact ⟨rfl, ((HB1.out.alloc (by have := HB1.out.size; omega) _).alloc (by have := HB1.out.size; simp; omega) _)⟩
set_option maxRecDepth 100000 in
set_option maxHeartbeats 4000000 in
theorem right_yyyy (x : A) {f0 f1 f2 f3 : Bool} (w : World) (HF : Hid (Fl x.k true true true true true)) (h0 : 0 ≤ x.c) (h1 : x.c ≤ 9223372036854775807) (h5 : (x.k == 5) = false) (p0 : ((x.b : Int) != 0) = true) (p1 : (x.c != 0) = true) (p2 : ((x.o : Int) != 0) = true) (p3 : ((x.n : Int) != 0) = true) : Calls Tryz.prog 112 #[av x] w (Gives (.bool true) w) := by
  have HB := Lib.hid (boxed_below w x)
  go_enter Tryz.func112, Tryz.ntmps112
  go_wp2_with fail
  with_reducible refine (HF.out.at _).mono ?_
  rintro e w1 ⟨rfl, hb⟩
  obtain ⟨c0, c1, c2, c3, c4⟩ := boxed_cells hb
  have hz := hb.size
  have hz1 : w.heap.size < w1.heap.size := by simp at hz; omega
  have HB1 := Lib.hid (HB.out.trans (hb.mono HB.out.size))
  clear hb hz
  go_wp2
  refine wp_loop_rounds 5 ?_
  rw [rounds_succ]
  have I0 := ix0 (.int .u64 x.b) (.int .u64 x.c) (.int .u64 x.o) (.int .u64 x.n)
  go_wp2
  clear I0
  rw [rounds_succ]
  have I1 := ix1 (.int .u64 x.b) (.int .u64 x.c) (.int .u64 x.o) (.int .u64 x.n)
  go_wp2
  clear I1
  rw [rounds_succ]
  have I2 := ix2 (.int .u64 x.b) (.int .u64 x.c) (.int .u64 x.o) (.int .u64 x.n)
  go_wp2
  clear I2
  rw [rounds_succ]
  have I3 := ix3 (.int .u64 x.b) (.int .u64 x.c) (.int .u64 x.o) (.int .u64 x.n)
  go_wp2
  clear I3
  rw [rounds_succ]
  go_wp2
  go_ret
  exact ⟨rfl, ((HB1.out.alloc (by have := HB1.out.size; omega) _).alloc (by have := HB1.out.size; simp; omega) _)⟩
set_option maxRecDepth 100000 in
set_option maxHeartbeats 4000000 in
theorem right_kx (x : A) {f0 f1 f2 f3 : Bool} (w : World) (HF : Hid (Fl x.k false true false false true)) (h0 : 0 ≤ x.c) (h1 : x.c ≤ 9223372036854775807) (h5 : (x.k == 5) = true) (hz : (x.c == 0) = false) (p0 : ((x.b : Int) != 0) = true) : Calls Tryz.prog 112 #[av x] w (Gives (.bool false) w) := by
  have HB := Lib.hid (boxed_below w x)
  go_enter Tryz.func112, Tryz.ntmps112
  go_wp2_with fail
  with_reducible refine (HF.out.at _).mono ?_
  rintro e w1 ⟨rfl, hb⟩
  obtain ⟨c0, c1, c2, c3, c4⟩ := boxed_cells hb
  have hz := hb.size
  have hz1 : w.heap.size < w1.heap.size := by simp at hz; omega
  have HB1 := Lib.hid (HB.out.trans (hb.mono HB.out.size))
  clear hb hz
  go_wp2
  refine wp_loop_rounds 5 ?_
  rw [rounds_succ]
  have I0 := ix0 (.int .u64 x.b) (.int .u64 x.c) (.int .u64 x.o) (.int .u64 x.n)
  go_wp2
  clear I0
  go_ret
  exact ⟨rfl, ((HB1.out.alloc (by have := HB1.out.size; omega) _).alloc (by have := HB1.out.size; simp; omega) _)⟩
set_option maxRecDepth 100000 in
set_option maxHeartbeats 4000000 in
theorem right_kzyx (x : A) {f0 f1 f2 f3 : Bool} (w : World) (HF : Hid (Fl x.k false true false false true)) (h0 : 0 ≤ x.c) (h1 : x.c ≤ 9223372036854775807) (h5 : (x.k == 5) = true) (hz : (x.c == 0) = false) (p0 : ((x.b : Int) != 0) = false) (p1 : (x.c != 0) = true) (p2 : ((x.o : Int) != 0) = true) : Calls Tryz.prog 112 #[av x] w (Gives (.bool false) w) := by
  have HB := Lib.hid (boxed_below w x)
  go_enter Tryz.func112, Tryz.ntmps112
  go_wp2_with fail
  with_reducible refine (HF.out.at _).mono ?_
  rintro e w1 ⟨rfl, hb⟩
  obtain ⟨c0, c1, c2, c3, c4⟩ := boxed_cells hb
  have hz := hb.size
  have hz1 : w.heap.size < w1.heap.size := by simp at hz; omega
  have HB1 := Lib.hid (HB.out.trans (hb.mono HB.out.size))
  clear hb hz
  go_wp2
  refine wp_loop_rounds 5 ?_
  rw [rounds_succ]
  have I0 := ix0 (.int .u64 x.b) (.int .u64 x.c) (.int .u64 x.o) (.int .u64 x.n)
  go_wp2
  clear I0
  rw [rounds_succ]
  have I1 := ix1 (.int .u64 x.b) (.int .u64 x.c) (.int .u64 x.o) (.int .u64 x.n)
  go_wp2
  clear I1
  rw [rounds_succ]
  have I2 := ix2 (.int .u64 x.b) (.int .u64 x.c) (.int .u64 x.o) (.int .u64 x.n)
  go_wp2
  clear I2
  go_ret
  exact ⟨rfl, ((HB1.out.alloc (by have := HB1.out.size; omega) _).alloc (by have := HB1.out.size; simp; omega) _)⟩
set_option maxRecDepth 100000 in
set_option maxHeartbeats 4000000 in
theorem right_kzyzx (x : A) {f0 f1 f2 f3 : Bool} (w : World) (HF : Hid (Fl x.k false true false false true)) (h0 : 0 ≤ x.c) (h1 : x.c ≤ 9223372036854775807) (h5 : (x.k == 5) = true) (hz : (x.c == 0) = false) (p0 : ((x.b : Int) != 0) = false) (p1 : (x.c != 0) = true) (p2 : ((x.o : Int) != 0) = false) (p3 : ((x.n : Int) != 0) = true) : Calls Tryz.prog 112 #[av x] w (Gives (.bool false) w) := by
  have HB := Lib.hid (boxed_below w x)
  go_enter Tryz.func112, Tryz.ntmps112
  go_wp2_with fail
  with_reducible refine (HF.out.at _).mono ?_
  rintro e w1 ⟨rfl, hb⟩
  obtain ⟨c0, c1, c2, c3, c4⟩ := boxed_cells hb
  have hz := hb.size
  have hz1 : w.heap.size < w1.heap.size := by simp at hz; omega
  have HB1 := Lib.hid (HB.out.trans (hb.mono HB.out.size))
  clear hb hz
  go_wp2
  refine wp_loop_rounds 5 ?_
  rw [rounds_succ]
  have I0 := ix0 (.int .u64 x.b) (.int .u64 x.c) (.int .u64 x.o) (.int .u64 x.n)
  go_wp2
  clear I0
  rw [rounds_succ]
  have I1 := ix1 (.int .u64 x.b) (.int .u64 x.c) (.int .u64 x.o) (.int .u64 x.n)
  go_wp2
  clear I1
  rw [rounds_succ]
  have I2 := ix2 (.int .u64 x.b) (.int .u64 x.c) (.int .u64 x.o) (.int .u64 x.n)
  go_wp2
  clear I2
  rw [rounds_succ]
  have I3 := ix3 (.int .u64 x.b) (.int .u64 x.c) (.int .u64 x.o) (.int .u64 x.n)
  go_wp2
  clear I3
  go_ret
  exact ⟨rfl, ((HB1.out.alloc (by have := HB1.out.size; omega) _).alloc (by have := HB1.out.size; simp; omega) _)⟩
set_option maxRecDepth 100000 in
set_option maxHeartbeats 4000000 in
theorem right_kzyzz (x : A) {f0 f1 f2 f3 : Bool} (w : World) (HF : Hid (Fl x.k false true false false true)) (h0 : 0 ≤ x.c) (h1 : x.c ≤ 9223372036854775807) (h5 : (x.k == 5) = true) (hz : (x.c == 0) = false) (p0 : ((x.b : Int) != 0) = false) (p1 : (x.c != 0) = true) (p2 : ((x.o : Int) != 0) = false) (p3 : ((x.n : Int) != 0) = false) : Calls Tryz.prog 112 #[av x] w (Gives (.bool true) w) := by
  have HB := Lib.hid (boxed_below w x)
  go_enter Tryz.func112, Tryz.ntmps112
  go_wp2_with fail
  with_reducible refine (HF.out.at _).mono ?_
  rintro e w1 ⟨rfl, hb⟩
  obtain ⟨c0, c1, c2, c3, c4⟩ := boxed_cells hb
  have hz := hb.size
  have hz1 : w.heap.size < w1.heap.size := by simp at hz; omega
  have HB1 := Lib.hid (HB.out.trans (hb.mono HB.out.size))
  clear hb hz
  go_wp2
  refine wp_loop_rounds 5 ?_
  rw [rounds_succ]
  have I0 := ix0 (.int .u64 x.b) (.int .u64 x.c) (.int .u64 x.o) (.int .u64 x.n)
  go_wp2
  clear I0
  rw [rounds_succ]
  have I1 := ix1 (.int .u64 x.b) (.int .u64 x.c) (.int .u64 x.o) (.int .u64 x.n)
  go_wp2
  clear I1
  rw [rounds_succ]
  have I2 := ix2 (.int .u64 x.b) (.int .u64 x.c) (.int .u64 x.o) (.int .u64 x.n)
  go_wp2
  clear I2
  rw [rounds_succ]
  have I3 := ix3 (.int .u64 x.b) (.int .u64 x.c) (.int .u64 x.o) (.int .u64 x.n)
  go_wp2
  clear I3
  rw [rounds_succ]
  go_wp2
  go_ret
  exact ⟨rfl, ((HB1.out.alloc (by have := HB1.out.size; omega) _).alloc (by have := HB1.out.size; simp; omega) _)⟩
end Go.Proofs.YtknefjigdlbacaaGreatDoor
