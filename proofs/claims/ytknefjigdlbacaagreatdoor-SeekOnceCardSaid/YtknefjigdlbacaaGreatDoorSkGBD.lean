/-
  The walk of Right, case by case. By an AI agent.
-/
import Derived.Test.YtknefjigdlbacaaGreatDoorSkGBB
set_option linter.unusedSimpArgs false
set_option linter.unusedVariables false
namespace Go.Proofs.YtknefjigdlbacaaGreatDoor
open Go.RowKit
open Ac (A)
set_option maxRecDepth 100000 in
set_option maxHeartbeats 4000000 in
theorem right_zx (x : A) {f0 f1 f2 f3 : Bool} (w : World) (HF : Hid (Fl x.k f0 false f2 f3 true)) (h0 : 0 ≤ x.c) (h1 : x.c ≤ 9223372036854775807) (h5 : (x.k == 5) = false) (p0 : ((x.b : Int) != 0) = false) (p1 : (x.c != 0) = true) : Calls Tryz.prog 112 #[av x] w (Gives (.bool false) w) := by
  have HB := Lib.hid (boxed_below w x)
  go_enter Tryz.func112, Tryz.ntmps112
  go_wp2_with fail
  with_reducible refine (HF.out.at _).mono ?_
  rintro e w1 ⟨rfl, hb⟩
  obtain ⟨c0, c1, c2, c3, c4⟩ := boxed_cells hb
  have hz := hb.size
  have hz1 : w.heap.size < w1.heap.size := by simp at hz; omega
  have HB1 := Lib.hid (HB.out.trans (hb.mono HB.out.size))
  clear hb hz
  go_wp2
  refine wp_loop_rounds 5 ?_
  rw [rounds_succ]
  have I0 := ix0 (.int .u64 x.b) (.int .u64 x.c) (.int .u64 x.o) (.int .u64 x.n)
  go_wp2
  clear I0
  rw [rounds_succ]
  have I1 := ix1 (.int .u64 x.b) (.int .u64 x.c) (.int .u64 x.o) (.int .u64 x.n)
  go_wp2
  clear I1
  go_ret
  exact ⟨rfl, ((HB1.out.alloc (by have := HB1.out.size; omega) _).alloc (by have := HB1.out.size; simp; omega) _)⟩
set_option maxRecDepth 100000 in
set_option maxHeartbeats 4000000 in
theorem right_zyx (x : A) {f0 f1 f2 f3 : Bool} (w : World) (HF : Hid (Fl x.k f0 true false f3 true)) (h0 : 0 ≤ x.c) (h1 : x.c ≤ 9223372036854775807) (h5 : (x.k == 5) = false) (p0 : ((x.b : Int) != 0) = false) (p1 : (x.c != 0) = true) (p2 : ((x.o : Int) != 0) = true) : Calls Tryz.prog 112 #[av x] w (Gives (.bool false) w) := by
  have HB := Lib.hid (boxed_below w x)
  go_enter Tryz.func112, Tryz.ntmps112
  go_wp2_with fail
  with_reducible refine (HF.out.at _).mono ?_
  rintro e w1 ⟨rfl, hb⟩
  obtain ⟨c0, c1, c2, c3, c4⟩ := boxed_cells hb
  have hz := hb.size
  have hz1 : w.heap.size < w1.heap.size := by simp at hz; omega
  have HB1 := Lib.hid (HB.out.trans (hb.mono HB.out.size))
  clear hb hz
  go_wp2
  refine wp_loop_rounds 5 ?_
  rw [rounds_succ]
  have I0 := ix0 (.int .u64 x.b) (.int .u64 x.c) (.int .u64 x.o) (.int .u64 x.n)
  go_wp2
  clear I0
  rw [rounds_succ]
  have I1 := ix1 (.int .u64 x.b) (.int .u64 x.c) (.int .u64 x.o) (.int .u64 x.n)
  go_wp2
  clear I1
  rw [rounds_succ]
  have I2 := ix2 (.int .u64 x.b) (.int .u64 x.c) (.int .u64 x.o) (.int .u64 x.n)
  go_wp2
  clear I2
  go_ret
  exact ⟨rfl, ((HB1.out.alloc (by have := HB1.out.size; omega) _).alloc (by have := HB1.out.size; simp; omega) _)⟩
set_option maxRecDepth 100000 in
set_option maxHeartbeats 4000000 in
theorem right_zzzx (x : A) {f0 f1 f2 f3 : Bool} (w : World) (HF : Hid (Fl x.k f0 f1 f2 false true)) (h0 : 0 ≤ x.c) (h1 : x.c ≤ 9223372036854775807) (h5 : (x.k == 5) = false) (p0 : ((x.b : Int) != 0) = false) (p1 : (x.c != 0) = false) (p2 : ((x.o : Int) != 0) = false) (p3 : ((x.n : Int) != 0) = true) : Calls Tryz.prog 112 #[av x] w (Gives (.bool false) w) := by
  have HB := Lib.hid (boxed_below w x)
  go_enter Tryz.func112, Tryz.ntmps112
  go_wp2_with fail
  with_reducible refine (HF.out.at _).mono ?_
  rintro e w1 ⟨rfl, hb⟩
  obtain ⟨c0, c1, c2, c3, c4⟩ := boxed_cells hb
  have hz := hb.size
  have hz1 : w.heap.size < w1.heap.size := by simp at hz; omega
  have HB1 := Lib.hid (HB.out.trans (hb.mono HB.out.size))
  clear hb hz
  go_wp2
  refine wp_loop_rounds 5 ?_
  rw [rounds_succ]
  have I0 := ix0 (.int .u64 x.b) (.int .u64 x.c) (.int .u64 x.o) (.int .u64 x.n)
  go_wp2
  clear I0
  rw [rounds_succ]
  have I1 := ix1 (.int .u64 x.b) (.int .u64 x.c) (.int .u64 x.o) (.int .u64 x.n)
  go_wp2
  clear I1
  rw [rounds_succ]
  have I2 := ix2 (.int .u64 x.b) (.int .u64 x.c) (.int .u64 x.o) (.int .u64 x.n)
  go_wp2
  clear I2
  rw [rounds_succ]
  have I3 := ix3 (.int .u64 x.b) (.int .u64 x.c) (.int .u64 x.o) (.int .u64 x.n)
  go_wp2
  clear I3
  go_ret
  exact ⟨rfl, ((HB1.out.alloc (by have := HB1.out.size; omega) _).alloc (by have := HB1.out.size; simp; omega) _)⟩
set_option maxRecDepth 100000 in
set_option maxHeartbeats 4000000 in
theorem right_zzyx (x : A) {f0 f1 f2 f3 : Bool} (w : World) (HF : Hid (Fl x.k f0 f1 true false true)) (h0 : 0 ≤ x.c) (h1 : x.c ≤ 9223372036854775807) (h5 : (x.k == 5) = false) (p0 : ((x.b : Int) != 0) = false) (p1 : (x.c != 0) = false) (p2 : ((x.o : Int) != 0) = true) (p3 : ((x.n : Int) != 0) = true) : Calls Tryz.prog 112 #[av x] w (Gives (.bool false) w) := by
  have HB := Lib.hid (boxed_below w x)
  go_enter Tryz.func112, Tryz.ntmps112
  go_wp2_with fail
  with_reducible refine (HF.out.at _).mono ?_
  rintro e w1 ⟨rfl, hb⟩
  obtain ⟨c0, c1, c2, c3, c4⟩ := boxed_cells hb
  have hz := hb.size
  have hz1 : w.heap.size < w1.heap.size := by simp at hz; omega
  have HB1 := Lib.hid (HB.out.trans (hb.mono HB.out.size))
  clear hb hz
  go_wp2
  refine wp_loop_rounds 5 ?_
  rw [rounds_succ]
  have I0 := ix0 (.int .u64 x.b) (.int .u64 x.c) (.int .u64 x.o) (.int .u64 x.n)
  go_wp2
  clear I0
  rw [rounds_succ]
  have I1 := ix1 (.int .u64 x.b) (.int .u64 x.c) (.int .u64 x.o) (.int .u64 x.n)
  go_wp2
  clear I1
  rw [rounds_succ]
  have I2 := ix2 (.int .u64 x.b) (.int .u64 x.c) (.int .u64 x.o) (.int .u64 x.n)
  go_wp2
  clear I2
  rw [rounds_succ]
  have I3 := ix3 (.int .u64 x.b) (.int .u64 x.c) (.int .u64 x.o) (.int .u64 x.n)
  go_wp2
  clear I3
  go_ret
  exact ⟨rfl, ((HB1.out.alloc (by have := HB1.out.size; omega) _).alloc (by have := HB1.out.size; simp; omega) _)⟩
set_option maxRecDepth 100000 in
set_option maxHeartbeats 4000000 in
theorem right_zyzx (x : A) {f0 f1 f2 f3 : Bool} (w : World) (HF : Hid (Fl x.k f0 true f2 false true)) (h0 : 0 ≤ x.c) (h1 : x.c ≤ 9223372036854775807) (h5 : (x.k == 5) = false) (p0 : ((x.b : Int) != 0) = false) (p1 : (x.c != 0) = true) (p2 : ((x.o : Int) != 0) = false) (p3 : ((x.n : Int) != 0) = true) : Calls Tryz.prog 112 #[av x] w (Gives (.bool false) w) := by
  have HB := Lib.hid (boxed_below w x)
  go_enter Tryz.func112, Tryz.ntmps112
  go_wp2_with fail
  with_reducible refine (HF.out.at _).mono ?_
  rintro e w1 ⟨rfl, hb⟩
  obtain ⟨c0, c1, c2, c3, c4⟩ := boxed_cells hb
  have hz := hb.size
  have hz1 : w.heap.size < w1.heap.size := by simp at hz; omega
  have HB1 := Lib.hid (HB.out.trans (hb.mono HB.out.size))
  clear hb hz
  go_wp2
  refine wp_loop_rounds 5 ?_
  rw [rounds_succ]
  have I0 := ix0 (.int .u64 x.b) (.int .u64 x.c) (.int .u64 x.o) (.int .u64 x.n)
  go_wp2
  clear I0
  rw [rounds_succ]
  have I1 := ix1 (.int .u64 x.b) (.int .u64 x.c) (.int .u64 x.o) (.int .u64 x.n)
  go_wp2
  clear I1
  rw [rounds_succ]
  have I2 := ix2 (.int .u64 x.b) (.int .u64 x.c) (.int .u64 x.o) (.int .u64 x.n)
  go_wp2
  clear I2
  rw [rounds_succ]
  have I3 := ix3 (.int .u64 x.b) (.int .u64 x.c) (.int .u64 x.o) (.int .u64 x.n)
  go_wp2
  clear I3
  go_ret
  exact ⟨rfl, ((HB1.out.alloc (by have := HB1.out.size; omega) _).alloc (by have := HB1.out.size; simp; omega) _)⟩
set_option maxRecDepth 100000 in
set_option maxHeartbeats 4000000 in
theorem right_zyyx (x : A) {f0 f1 f2 f3 : Bool} (w : World) (HF : Hid (Fl x.k f0 true true false true)) (h0 : 0 ≤ x.c) (h1 : x.c ≤ 9223372036854775807) (h5 : (x.k == 5) = false) (p0 : ((x.b : Int) != 0) = false) (p1 : (x.c != 0) = true) (p2 : ((x.o : Int) != 0) = true) (p3 : ((x.n : Int) != 0) = true) : Calls Tryz.prog 112 #[av x] w (Gives (.bool false) w) := by
  have HB := Lib.hid (boxed_below w x)
  go_enter Tryz.func112, Tryz.ntmps112
  go_wp2_with fail
  with_reducible refine (HF.out.at _).mono ?_
  rintro e w1 ⟨rfl, hb⟩
  obtain ⟨c0, c1, c2, c3, c4⟩ := boxed_cells hb
  have hz := hb.size
  have hz1 : w.heap.size < w1.heap.size := by simp at hz; omega
  have HB1 := Lib.hid (HB.out.trans (hb.mono HB.out.size))
  clear hb hz
  go_wp2
  refine wp_loop_rounds 5 ?_
  rw [rounds_succ]
  have I0 := ix0 (.int .u64 x.b) (.int .u64 x.c) (.int .u64 x.o) (.int .u64 x.n)
  go_wp2
  clear I0
  rw [rounds_succ]
  have I1 := ix1 (.int .u64 x.b) (.int .u64 x.c) (.int .u64 x.o) (.int .u64 x.n)
  go_wp2
  clear I1
  rw [rounds_succ]
  have I2 := ix2 (.int .u64 x.b) (.int .u64 x.c) (.int .u64 x.o) (.int .u64 x.n)
  go_wp2
  clear I2
  rw [rounds_succ]
  have I3 := ix3 (.int .u64 x.b) (.int .u64 x.c) (.int .u64 x.o) (.int .u64 x.n)
  go_wp2
  clear I3
  go_ret
  exact ⟨rfl, ((HB1.out.alloc (by have := HB1.out.size; omega) _).alloc (by have := HB1.out.size; simp; omega) _)⟩
set_option maxRecDepth 100000 in
set_option maxHeartbeats 4000000 in
theorem right_yzzx (x : A) {f0 f1 f2 f3 : Bool} (w : World) (HF : Hid (Fl x.k true f1 f2 false true)) (h0 : 0 ≤ x.c) (h1 : x.c ≤ 9223372036854775807) (h5 : (x.k == 5) = false) (p0 : ((x.b : Int) != 0) = true) (p1 : (x.c != 0) = false) (p2 : ((x.o : Int) != 0) = false) (p3 : ((x.n : Int) != 0) = true) : Calls Tryz.prog 112 #[av x] w (Gives (.bool false) w) := by
  have HB := Lib.hid (boxed_below w x)
  go_enter Tryz.func112, Tryz.ntmps112
  go_wp2_with fail
  with_reducible refine (HF.out.at _).mono ?_
  rintro e w1 ⟨rfl, hb⟩
  obtain ⟨c0, c1, c2, c3, c4⟩ := boxed_cells hb
  have hz := hb.size
  have hz1 : w.heap.size < w1.heap.size := by simp at hz; omega
  have HB1 := Lib.hid (HB.out.trans (hb.mono HB.out.size))
  clear hb hz
  go_wp2
  refine wp_loop_rounds 5 ?_
  rw [rounds_succ]
  have I0 := ix0 (.int .u64 x.b) (.int .u64 x.c) (.int .u64 x.o) (.int .u64 x.n)
  go_wp2
  clear I0
  rw [rounds_succ]
  have I1 := ix1 (.int .u64 x.b) (.int .u64 x.c) (.int .u64 x.o) (.int .u64 x.n)
  go_wp2
  clear I1
  rw [rounds_succ]
  have I2 := ix2 (.int .u64 x.b) (.int .u64 x.c) (.int .u64 x.o) (.int .u64 x.n)
  go_wp2
  clear I2
  rw [rounds_succ]
  have I3 := ix3 (.int .u64 x.b) (.int .u64 x.c) (.int .u64 x.o) (.int .u64 x.n)
  go_wp2
  clear I3
  go_ret
  exact ⟨rfl, ((HB1.out.alloc (by have := HB1.out.size; omega) _).alloc (by have := HB1.out.size; simp; omega) _)⟩
set_option maxRecDepth 100000 in
set_option maxHeartbeats 4000000 in
theorem right_yzyx (x : A) {f0 f1 f2 f3 : Bool} (w : World) (HF : Hid (Fl x.k true f1 true false true)) (h0 : 0 ≤ x.c) (h1 : x.c ≤ 9223372036854775807) (h5 : (x.k == 5) = false) (p0 : ((x.b : Int) != 0) = true) (p1 : (x.c != 0) = false) (p2 : ((x.o : Int) != 0) = true) (p3 : ((x.n : Int) != 0) = true) : Calls Tryz.prog 112 #[av x] w (Gives (.bool false) w) := by
  have HB := Lib.hid (boxed_below w x)
  go_enter Tryz.func112, Tryz.ntmps112
  go_wp2_with fail
  with_reducible refine (HF.out.at _).mono ?_
  rintro e w1 ⟨rfl, hb⟩
  obtain ⟨c0, c1, c2, c3, c4⟩ := boxed_cells hb
  have hz := hb.size
  have hz1 : w.heap.size < w1.heap.size := by simp at hz; omega
  have HB1 := Lib.hid (HB.out.trans (hb.mono HB.out.size))
  clear hb hz
  go_wp2
  refine wp_loop_rounds 5 ?_
  rw [rounds_succ]
  have I0 := ix0 (.int .u64 x.b) (.int .u64 x.c) (.int .u64 x.o) (.int .u64 x.n)
  go_wp2
  clear I0
  rw [rounds_succ]
  have I1 := ix1 (.int .u64 x.b) (.int .u64 x.c) (.int .u64 x.o) (.int .u64 x.n)
  go_wp2
  clear I1
  rw [rounds_succ]
  have I2 := ix2 (.int .u64 x.b) (.int .u64 x.c) (.int .u64 x.o) (.int .u64 x.n)
  go_wp2
  clear I2
  rw [rounds_succ]
  have I3 := ix3 (.int .u64 x.b) (.int .u64 x.c) (.int .u64 x.o) (.int .u64 x.n)
  go_wp2
  clear I3
  go_ret
  exact ⟨rfl, ((HB1.out.alloc (by have := HB1.out.size; omega) _).alloc (by have := HB1.out.size; simp; omega) _)⟩
set_option maxRecDepth 100000 in
set_option maxHeartbeats 4000000 in
theorem right_yyzx (x : A) {f0 f1 f2 f3 : Bool} (w : World) (HF : Hid (Fl x.k true true f2 false true)) (h0 : 0 ≤ x.c) (h1 : x.c ≤ 9223372036854775807) (h5 : (x.k == 5) = false) (p0 : ((x.b : Int) != 0) = true) (p1 : (x.c != 0) = true) (p2 : ((x.o : Int) != 0) = false) (p3 : ((x.n : Int) != 0) = true) : Calls Tryz.prog 112 #[av x] w (Gives (.bool false) w) := by
  have HB := Lib.hid (boxed_below w x)
  go_enter Tryz.func112, Tryz.ntmps112
  go_wp2_with fail
  with_reducible refine (HF.out.at _).mono ?_
  rintro e w1 ⟨rfl, hb⟩
  obtain ⟨c0, c1, c2, c3, c4⟩ := boxed_cells hb
  have hz := hb.size
  have hz1 : w.heap.size < w1.heap.size := by simp at hz; omega
  have HB1 := Lib.hid (HB.out.trans (hb.mono HB.out.size))
  clear hb hz
  go_wp2
  refine wp_loop_rounds 5 ?_
  rw [rounds_succ]
  have I0 := ix0 (.int .u64 x.b) (.int .u64 x.c) (.int .u64 x.o) (.int .u64 x.n)
  go_wp2
  clear I0
  rw [rounds_succ]
  have I1 := ix1 (.int .u64 x.b) (.int .u64 x.c) (.int .u64 x.o) (.int .u64 x.n)
  go_wp2
  clear I1
  rw [rounds_succ]
  have I2 := ix2 (.int .u64 x.b) (.int .u64 x.c) (.int .u64 x.o) (.int .u64 x.n)
  go_wp2
  clear I2
  rw [rounds_succ]
  have I3 := ix3 (.int .u64 x.b) (.int .u64 x.c) (.int .u64 x.o) (.int .u64 x.n)
  go_wp2
  clear I3
  go_ret
  exact ⟨rfl, ((HB1.out.alloc (by have := HB1.out.size; omega) _).alloc (by have := HB1.out.size; simp; omega) _)⟩
set_option maxRecDepth 100000 in
set_option maxHeartbeats 4000000 in
theorem right_yyyx (x : A) {f0 f1 f2 f3 : Bool} (w : World) (HF : Hid (Fl x.k true true true false true)) (h0 : 0 ≤ x.c) (h1 : x.c ≤ 9223372036854775807) (h5 : (x.k == 5) = false) (p0 : ((x.b : Int) != 0) = true) (p1 : (x.c != 0) = true) (p2 : ((x.o : Int) != 0) = true) (p3 : ((x.n : Int) != 0) = true) : Calls Tryz.prog 112 #[av x] w (Gives (.bool false) w) := by
  have HB := Lib.hid (boxed_below w x)
  go_enter Tryz.func112, Tryz.ntmps112
  go_wp2_with fail
  with_reducible refine (HF.out.at _).mono ?_
  rintro e w1 ⟨rfl, hb⟩
  obtain ⟨c0, c1, c2, c3, c4⟩ := boxed_cells hb
  have hz := hb.size
  have hz1 : w.heap.size < w1.heap.size := by simp at hz; omega
  have HB1 := Lib.hid (HB.out.trans (hb.mono HB.out.size))
  clear hb hz
  go_wp2
  refine wp_loop_rounds 5 ?_
  rw [rounds_succ]
  have I0 := ix0 (.int .u64 x.b) (.int .u64 x.c) (.int .u64 x.o) (.int .u64 x.n)
  go_wp2
  clear I0
  rw [rounds_succ]
  have I1 := ix1 (.int .u64 x.b) (.int .u64 x.c) (.int .u64 x.o) (.int .u64 x.n)
  go_wp2
  clear I1
  rw [rounds_succ]
  have I2 := ix2 (.int .u64 x.b) (.int .u64 x.c) (.int .u64 x.o) (.int .u64 x.n)
  go_wp2
  clear I2
  rw [rounds_succ]
  have I3 := ix3 (.int .u64 x.b) (.int .u64 x.c) (.int .u64 x.o) (.int .u64 x.n)
  go_wp2
  clear I3
  go_ret
  exact ⟨rfl, ((HB1.out.alloc (by have := HB1.out.size; omega) _).alloc (by have := HB1.out.size; simp; omega) _)⟩
end Go.Proofs.YtknefjigdlbacaaGreatDoor
