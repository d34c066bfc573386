/-
  The walk of Right. By an AI agent.
-/
import Derived.Test.YtdbolhalgbiggaaActFields
set_option linter.unusedSimpArgs false
namespace Go.Proofs.Ytdbolhalgbiggaa
open Go.RowKit
open Ac (A)
/-- The fields of a kind, as fieldsOf answers them. -/
def Fl (k : Int) (f0 f1 f2 f3 kn : Bool) : Prop := ∀ w, Calls Try.prog 44 #[.int .i64 k] w (Gives (.tuple #[.agg #[.bool f0, .bool f1, .bool f2, .bool f3], .bool kn]) w)
theorem Fl.at {k : Int} {f0 f1 f2 f3 kn : Bool} (h : Fl k f0 f1 f2 f3 kn) (w : World) : Calls Try.prog 44 #[.int .i64 k] w (Gives (.tuple #[.agg #[.bool f0, .bool f1, .bool f2, .bool f3], .bool kn]) w) := h w
theorem ix0 (v0 v1 v2 v3 : Value) : ∀ w : World, (Instr.index 53 (.agg #[v0, v1, v2, v3]) (.int .i64 0)).run Try.prog w = .ok v0 w := fun _ => by kernel_rfl
theorem ix1 (v0 v1 v2 v3 : Value) : ∀ w : World, (Instr.index 53 (.agg #[v0, v1, v2, v3]) (.int .i64 1)).run Try.prog w = .ok v1 w := fun _ => by kernel_rfl
theorem ix2 (v0 v1 v2 v3 : Value) : ∀ w : World, (Instr.index 53 (.agg #[v0, v1, v2, v3]) (.int .i64 2)).run Try.prog w = .ok v2 w := fun _ => by kernel_rfl
theorem ix3 (v0 v1 v2 v3 : Value) : ∀ w : World, (Instr.index 53 (.agg #[v0, v1, v2, v3]) (.int .i64 3)).run Try.prog w = .ok v3 w := fun _ => by kernel_rfl
set_option maxRecDepth 100000 in
set_option maxHeartbeats 4000000 in
theorem right_none (x : A) {f0 f1 f2 f3 : Bool} (w : World) (HF : Hid (Fl x.k f0 f1 f2 f3 false)) : Calls Try.prog 33 #[av x] w (Gives (.bool false) w) := by
  have HB := Lib.hid (boxed_below w x)
  go_enter Try.func33, Try.ntmps33
  go_wp2_with fail
  with_reducible refine (HF.out.at _).mono ?_
  rintro e w1 ⟨rfl, hb⟩
  obtain ⟨c0, c1, c2, c3, c4⟩ := boxed_cells hb
  have hz := hb.size
  have hz1 : w.heap.size < w1.heap.size := by simp at hz; omega
  have HB1 := Lib.hid (HB.out.trans (hb.mono HB.out.size))
  clear hb hz
  go_wp2
  go_ret
  exact ⟨rfl, (HB1.out.alloc (by have := HB1.out.size; omega) _)⟩
set_option maxRecDepth 100000 in
set_option maxHeartbeats 4000000 in
theorem right_neg (x : A) {f0 f1 f2 f3 : Bool} (w : World) (HF : Hid (Fl x.k f0 f1 f2 f3 true)) (h : x.c < 0) : Calls Try.prog 33 #[av x] w (Gives (.bool false) w) := by
  have HB := Lib.hid (boxed_below w x)
  go_enter Try.func33, Try.ntmps33
  go_wp2_with fail
  with_reducible refine (HF.out.at _).mono ?_
  rintro e w1 ⟨rfl, hb⟩
  obtain ⟨c0, c1, c2, c3, c4⟩ := boxed_cells hb
  have hz := hb.size
  have hz1 : w.heap.size < w1.heap.size := by simp at hz; omega
  have HB1 := Lib.hid (HB.out.trans (hb.mono HB.out.size))
  clear hb hz
  go_wp2
  go_ret
  exact ⟨rfl, (HB1.out.alloc (by have := HB1.out.size; omega) _)⟩
set_option maxRecDepth 100000 in
set_option maxHeartbeats 4000000 in
theorem right_zero (x : A) {f0 f1 f2 f3 : Bool} (w : World) (HF : Hid (Fl x.k f0 f1 f2 f3 true)) (h0 : (x.c == 0) = true) (h5 : (x.k == 5) = true) (hn : 0 ≤ x.c) : Calls Try.prog 33 #[av x] w (Gives (.bool false) w) := by
  have HB := Lib.hid (boxed_below w x)
  go_enter Try.func33, Try.ntmps33
  go_wp2_with fail
  with_reducible refine (HF.out.at _).mono ?_
  rintro e w1 ⟨rfl, hb⟩
  obtain ⟨c0, c1, c2, c3, c4⟩ := boxed_cells hb
  have hz := hb.size
  have hz1 : w.heap.size < w1.heap.size := by simp at hz; omega
  have HB1 := Lib.hid (HB.out.trans (hb.mono HB.out.size))
  clear hb hz
  go_wp2
  go_ret
  exact ⟨rfl, (HB1.out.alloc (by have := HB1.out.size; omega) _)⟩
end Go.Proofs.Ytdbolhalgbiggaa
