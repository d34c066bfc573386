/-
  does and must, kind by kind. By an AI agent. (gen_steps.py)
-/
import Derived.Test.YtbokndgellfoaaaArenaRef3
set_option linter.unusedSimpArgs false
namespace Go.Proofs.Ytbokndgellfoaaa
open Go.RowKit Go.Maps
open Mm (Mem Blk)
/-- A step: its kind, its block, its cell, the old word and the new one. -/
structure Stp where
  kind : Int
  b : Nat
  i : Int
  old : Int
  new : Int
def stc (k b i o y : Int) : Array Value := #[.int .i64 k, .int .u64 b, .int .i64 i, .int .u64 o, .int .u64 y]
def Stp.cells (s : Stp) : Array Value := stc s.kind s.b s.i s.old s.new
def stepped (w : World) (k b i o y : Int) : World := w.alloc (.cells (stc k b i o y) 47)
set_option maxRecDepth 100000 in
set_option maxHeartbeats 1000000 in
theorem dstep1 (pv : Value) (b i o y v c : Int) (w : World) (Q : World → Prop)
    (K : Calls Try.prog 23 #[pv, .int .u64 b, .int .i64 i] (stepped w 1 b i o y) fun e w' => e = .returned (we v c) ∧ Q w') :
    Calls Try.prog 17 #[pv, .agg (stc 1 b i o y)] w fun e w' => e = .returned (we v c) ∧ Q w' := by
  unfold stepped stc at K
  unfold stc
  unfold we at *
  have KL := Lib.hid K; clear K
  go_enter Try.func17, Try.ntmps17
  go_wp2_with (go_at_call 23; with_reducible refine KL.out.mono ?_; rintro e w' ⟨rfl, HH⟩)
  go_ret2
  exact ⟨rfl, HH⟩
set_option maxRecDepth 100000 in
set_option maxHeartbeats 1000000 in
theorem dstep2 (pv : Value) (b i o y c : Int) (w : World) (Q : World → Prop)
    (K : Calls Try.prog 16 #[pv, .int .u64 b, .int .i64 i, .int .u64 y] (stepped w 2 b i o y) fun e w' => e = .returned (.int .i64 c) ∧ Q w') :
    Calls Try.prog 17 #[pv, .agg (stc 2 b i o y)] w fun e w' => e = .returned (we 0 c) ∧ Q w' := by
  unfold stepped stc at K
  unfold stc
  unfold we
  have KL := Lib.hid K; clear K
  go_enter Try.func17, Try.ntmps17
  go_wp2_with (go_at_call 16; with_reducible refine KL.out.mono ?_; rintro e w' ⟨rfl, HH⟩)
  go_ret2
  exact ⟨rfl, HH⟩
set_option maxRecDepth 100000 in
set_option maxHeartbeats 1000000 in
theorem dstep3 (pv : Value) (b i o y v c : Int) (w : World) (Q : World → Prop)
    (K : Calls Try.prog 24 #[pv, .int .u64 b, .int .i64 i, .int .u64 o, .int .u64 y] (stepped w 3 b i o y) fun e w' => e = .returned (we v c) ∧ Q w') :
    Calls Try.prog 17 #[pv, .agg (stc 3 b i o y)] w fun e w' => e = .returned (we v c) ∧ Q w' := by
  unfold stepped stc at K
  unfold stc
  unfold we at *
  have KL := Lib.hid K; clear K
  go_enter Try.func17, Try.ntmps17
  go_wp2_with (go_at_call 24; with_reducible refine KL.out.mono ?_; rintro e w' ⟨rfl, HH⟩)
  go_ret2
  exact ⟨rfl, HH⟩
set_option maxRecDepth 100000 in
set_option maxHeartbeats 1000000 in
theorem dstep4 (pv : Value) (b i o y v c : Int) (w : World) (Q : World → Prop)
    (K : Calls Try.prog 25 #[pv, .int .u64 b, .int .i64 i, .int .u64 y] (stepped w 4 b i o y) fun e w' => e = .returned (we v c) ∧ Q w') :
    Calls Try.prog 17 #[pv, .agg (stc 4 b i o y)] w fun e w' => e = .returned (we v c) ∧ Q w' := by
  unfold stepped stc at K
  unfold stc
  unfold we at *
  have KL := Lib.hid K; clear K
  go_enter Try.func17, Try.ntmps17
  go_wp2_with (go_at_call 25; with_reducible refine KL.out.mono ?_; rintro e w' ⟨rfl, HH⟩)
  go_ret2
  exact ⟨rfl, HH⟩
set_option maxRecDepth 100000 in
set_option maxHeartbeats 1000000 in
theorem dstep5 (pv : Value) (b i o y v : Int) (w : World) (Q : World → Prop)
    (K : Calls Try.prog 9 #[pv, .int .i64 i] (stepped w 5 b i o y) fun e w' => e = .returned (.int .u64 v) ∧ Q w') :
    Calls Try.prog 17 #[pv, .agg (stc 5 b i o y)] w fun e w' => e = .returned (we v 0) ∧ Q w' := by
  unfold stepped stc at K
  unfold stc
  unfold we
  have KL := Lib.hid K; clear K
  go_enter Try.func17, Try.ntmps17
  go_wp2_with (go_at_call 9; with_reducible refine KL.out.mono ?_; rintro e w' ⟨rfl, HH⟩)
  go_ret2
  exact ⟨rfl, HH⟩
set_option maxRecDepth 100000 in
set_option maxHeartbeats 1000000 in
theorem dstep6 (pv : Value) (b i o y c : Int) (w : World) (Q : World → Prop)
    (K : Calls Try.prog 10 #[pv, .int .u64 b] (stepped w 6 b i o y) fun e w' => e = .returned (.int .i64 c) ∧ Q w') :
    Calls Try.prog 17 #[pv, .agg (stc 6 b i o y)] w fun e w' => e = .returned (we 0 c) ∧ Q w' := by
  unfold stepped stc at K
  unfold stc
  unfold we
  have KL := Lib.hid K; clear K
  go_enter Try.func17, Try.ntmps17
  go_wp2_with (go_at_call 10; with_reducible refine KL.out.mono ?_; rintro e w' ⟨rfl, HH⟩)
  go_ret2
  exact ⟨rfl, HH⟩
set_option maxRecDepth 100000 in
set_option maxHeartbeats 1000000 in
theorem dstep0 (pv : Value) (k b i o y : Int) (h1 : k ≠ 1) (h2 : k ≠ 2) (h3 : k ≠ 3) (h4 : k ≠ 4) (h5 : k ≠ 5) (h6 : k ≠ 6) (w : World) :
    Calls Try.prog 17 #[pv, .agg (stc k b i o y)] w fun e w' => e = .returned (we 0 0) ∧ stepped w k b i o y = w' := by
  unfold stepped stc
  unfold we
  have e1 : (k == 1) = false := by simpa using h1
  have e2 : (k == 2) = false := by simpa using h2
  have e3 : (k == 3) = false := by simpa using h3
  have e4 : (k == 4) = false := by simpa using h4
  have e5 : (k == 5) = false := by simpa using h5
  have e6 : (k == 6) = false := by simpa using h6
  clear h1 h2 h3 h4 h5 h6
  go_enter Try.func17, Try.ntmps17
  go_wp2
  go_ret2
  exact ⟨rfl, rfl⟩
set_option maxRecDepth 100000 in
set_option maxHeartbeats 1000000 in
theorem mstep1 (pv : Value) (b i o y v c : Int) (w : World) (Q : World → Prop)
    (K : Calls Try.prog 32 #[pv, .int .u64 b, .int .i64 i] (stepped w 1 b i o y) fun e w' => e = .returned (we v c) ∧ Q w') :
    Calls Try.prog 18 #[pv, .agg (stc 1 b i o y)] w fun e w' => e = .returned (we v c) ∧ Q w' := by
  unfold stepped stc at K
  unfold stc
  unfold we at *
  have KL := Lib.hid K; clear K
  go_enter Try.func18, Try.ntmps18
  go_wp2_with (go_at_call 32; with_reducible refine KL.out.mono ?_; rintro e w' ⟨rfl, HH⟩)
  go_ret2
  exact ⟨rfl, HH⟩
set_option maxRecDepth 100000 in
set_option maxHeartbeats 1000000 in
theorem mstep2 (pv : Value) (b i o y c : Int) (w : World) (Q : World → Prop)
    (K : Calls Try.prog 33 #[pv, .int .u64 b, .int .i64 i, .int .u64 y] (stepped w 2 b i o y) fun e w' => e = .returned (.int .i64 c) ∧ Q w') :
    Calls Try.prog 18 #[pv, .agg (stc 2 b i o y)] w fun e w' => e = .returned (we 0 c) ∧ Q w' := by
  unfold stepped stc at K
  unfold stc
  unfold we
  have KL := Lib.hid K; clear K
  go_enter Try.func18, Try.ntmps18
  go_wp2_with (go_at_call 33; with_reducible refine KL.out.mono ?_; rintro e w' ⟨rfl, HH⟩)
  go_ret2
  exact ⟨rfl, HH⟩
set_option maxRecDepth 100000 in
set_option maxHeartbeats 1000000 in
theorem mstep3 (pv : Value) (b i o y v c : Int) (w : World) (Q : World → Prop)
    (K : Calls Try.prog 34 #[pv, .int .u64 b, .int .i64 i, .int .u64 o, .int .u64 y] (stepped w 3 b i o y) fun e w' => e = .returned (we v c) ∧ Q w') :
    Calls Try.prog 18 #[pv, .agg (stc 3 b i o y)] w fun e w' => e = .returned (we v c) ∧ Q w' := by
  unfold stepped stc at K
  unfold stc
  unfold we at *
  have KL := Lib.hid K; clear K
  go_enter Try.func18, Try.ntmps18
  go_wp2_with (go_at_call 34; with_reducible refine KL.out.mono ?_; rintro e w' ⟨rfl, HH⟩)
  go_ret2
  exact ⟨rfl, HH⟩
set_option maxRecDepth 100000 in
set_option maxHeartbeats 1000000 in
theorem mstep4 (pv : Value) (b i o y v c : Int) (w : World) (Q : World → Prop)
    (K : Calls Try.prog 35 #[pv, .int .u64 b, .int .i64 i, .int .u64 y] (stepped w 4 b i o y) fun e w' => e = .returned (we v c) ∧ Q w') :
    Calls Try.prog 18 #[pv, .agg (stc 4 b i o y)] w fun e w' => e = .returned (we v c) ∧ Q w' := by
  unfold stepped stc at K
  unfold stc
  unfold we at *
  have KL := Lib.hid K; clear K
  go_enter Try.func18, Try.ntmps18
  go_wp2_with (go_at_call 35; with_reducible refine KL.out.mono ?_; rintro e w' ⟨rfl, HH⟩)
  go_ret2
  exact ⟨rfl, HH⟩
set_option maxRecDepth 100000 in
set_option maxHeartbeats 1000000 in
theorem mstep5 (pv : Value) (b i o y v : Int) (w : World) (Q : World → Prop)
    (K : Calls Try.prog 36 #[pv, .int .i64 i] (stepped w 5 b i o y) fun e w' => e = .returned (.int .u64 v) ∧ Q w') :
    Calls Try.prog 18 #[pv, .agg (stc 5 b i o y)] w fun e w' => e = .returned (we v 0) ∧ Q w' := by
  unfold stepped stc at K
  unfold stc
  unfold we
  have KL := Lib.hid K; clear K
  go_enter Try.func18, Try.ntmps18
  go_wp2_with (go_at_call 36; with_reducible refine KL.out.mono ?_; rintro e w' ⟨rfl, HH⟩)
  go_ret2
  exact ⟨rfl, HH⟩
set_option maxRecDepth 100000 in
set_option maxHeartbeats 1000000 in
theorem mstep6 (pv : Value) (b i o y c : Int) (w : World) (Q : World → Prop)
    (K : Calls Try.prog 37 #[pv, .int .u64 b] (stepped w 6 b i o y) fun e w' => e = .returned (.int .i64 c) ∧ Q w') :
    Calls Try.prog 18 #[pv, .agg (stc 6 b i o y)] w fun e w' => e = .returned (we 0 c) ∧ Q w' := by
  unfold stepped stc at K
  unfold stc
  unfold we
  have KL := Lib.hid K; clear K
  go_enter Try.func18, Try.ntmps18
  go_wp2_with (go_at_call 37; with_reducible refine KL.out.mono ?_; rintro e w' ⟨rfl, HH⟩)
  go_ret2
  exact ⟨rfl, HH⟩
set_option maxRecDepth 100000 in
set_option maxHeartbeats 1000000 in
theorem mstep0 (pv : Value) (k b i o y : Int) (h1 : k ≠ 1) (h2 : k ≠ 2) (h3 : k ≠ 3) (h4 : k ≠ 4) (h5 : k ≠ 5) (h6 : k ≠ 6) (w : World) :
    Calls Try.prog 18 #[pv, .agg (stc k b i o y)] w fun e w' => e = .returned (we 0 0) ∧ stepped w k b i o y = w' := by
  unfold stepped stc
  unfold we
  have e1 : (k == 1) = false := by simpa using h1
  have e2 : (k == 2) = false := by simpa using h2
  have e3 : (k == 3) = false := by simpa using h3
  have e4 : (k == 4) = false := by simpa using h4
  have e5 : (k == 5) = false := by simpa using h5
  have e6 : (k == 6) = false := by simpa using h6
  clear h1 h2 h3 h4 h5 h6
  go_enter Try.func18, Try.ntmps18
  go_wp2
  go_ret2
  exact ⟨rfl, rfl⟩
end Go.Proofs.Ytbokndgellfoaaa
