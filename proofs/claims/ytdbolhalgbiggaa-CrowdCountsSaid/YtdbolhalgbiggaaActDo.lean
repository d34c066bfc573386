/-
  Do and the document's Do, kind by kind. By an AI agent. (gen_do.py)
-/
import Derived.Test.YtdbolhalgbiggaaActRightAny
import Derived.Test.YtdbolhalgbiggaaArenaNew
set_option linter.unusedSimpArgs false
set_option linter.unusedVariables false
namespace Go.Proofs.Ytdbolhalgbiggaa
open Go.RowKit Go.Maps
open Mm (Mem Blk)
open Ac (A)
theorem cell_keep {w w' : World} {b : Nat} (h : w'.heap[b]? = w.heap[b]?) (o : Nat) : w'.cell? ⟨b, o, none⟩ = w.cell? ⟨b, o, none⟩ := by simp [World.cell?, h]
set_option maxRecDepth 100000 in
set_option maxHeartbeats 4000000 in
theorem dstep1 (pv : Value) (b : Nat) (c : Int) (o n : Nat) (v u : Int) (w : World) (Q : World → Prop) (h1 : c ≤ 9223372036854775807) (hr : Ac.right ⟨1, b, c, o, n⟩ = true)
    (K : ∀ w1, Below w.heap.size w w1 → Calls Try.prog 34 #[pv, .int .u64 (b : Int), .int .i64 c] w1 fun e w' => e = .returned (we v u) ∧ Q w') :
    Calls Try.prog 18 #[pv, .agg #[.int .i64 1, .int .u64 (b : Int), .int .i64 c, .int .u64 (o : Int), .int .u64 (n : Int)]] w fun e w' => e = .returned (.int .u64 v) ∧ Q w' := by
  have hR := right_any (⟨1, b, c, o, n⟩ : A) h1 (boxed w ⟨1, b, c, o, n⟩)
  rw [hr] at hR
  have HR := Lib.hid hR; clear hR
  have HB := Lib.hid (boxed_below w (⟨1, b, c, o, n⟩ : A))
  have HK := Lib.hid K; clear K
  try unfold we at HK
  go_enter Try.func18, Try.ntmps18
  go_wp2_with fail
  with_reducible refine HR.out.mono ?_
  rintro e w1 ⟨rfl, hb⟩
  obtain ⟨c0, c1, c2, c3, c4⟩ := boxed_cells hb
  have HB1 := Lib.hid (HB.out.trans (hb.mono HB.out.size))
  have HB0 := Lib.hid hb
  clear hb
  have K1 := Lib.hid (HK.out w1 HB1.out)
  go_wp2_with fail
  with_reducible refine K1.out.mono ?_
  rintro e w' ⟨rfl, HH⟩
  go_wp2
  go_ret
  exact ⟨rfl, HH⟩
set_option maxRecDepth 100000 in
set_option maxHeartbeats 4000000 in
theorem dstep2 (pv : Value) (b : Nat) (c : Int) (o n : Nat) (v u : Int) (w : World) (Q : World → Prop) (h1 : c ≤ 9223372036854775807) (hr : Ac.right ⟨2, b, c, o, n⟩ = true)
    (K : ∀ w1, Below w.heap.size w w1 → Calls Try.prog 35 #[pv, .int .u64 (b : Int), .int .i64 c, .int .u64 (n : Int)] w1 fun e w' => e = .returned (.int .i64 u) ∧ Q w') :
    Calls Try.prog 18 #[pv, .agg #[.int .i64 2, .int .u64 (b : Int), .int .i64 c, .int .u64 (o : Int), .int .u64 (n : Int)]] w fun e w' => e = .returned (.int .u64 0) ∧ Q w' := by
  have hR := right_any (⟨2, b, c, o, n⟩ : A) h1 (boxed w ⟨2, b, c, o, n⟩)
  rw [hr] at hR
  have HR := Lib.hid hR; clear hR
  have HB := Lib.hid (boxed_below w (⟨2, b, c, o, n⟩ : A))
  have HK := Lib.hid K; clear K
  try unfold we at HK
  go_enter Try.func18, Try.ntmps18
  go_wp2_with fail
  with_reducible refine HR.out.mono ?_
  rintro e w1 ⟨rfl, hb⟩
  obtain ⟨c0, c1, c2, c3, c4⟩ := boxed_cells hb
  have HB1 := Lib.hid (HB.out.trans (hb.mono HB.out.size))
  have HB0 := Lib.hid hb
  clear hb
  have K1 := Lib.hid (HK.out w1 HB1.out)
  go_wp2_with fail
  with_reducible refine K1.out.mono ?_
  rintro e w' ⟨rfl, HH⟩
  go_wp2
  go_ret
  exact ⟨rfl, HH⟩
set_option maxRecDepth 100000 in
set_option maxHeartbeats 4000000 in
theorem dstep3 (pv : Value) (b : Nat) (c : Int) (o n : Nat) (v u : Int) (w : World) (Q : World → Prop) (h1 : c ≤ 9223372036854775807) (hr : Ac.right ⟨3, b, c, o, n⟩ = true)
    (K : ∀ w1, Below w.heap.size w w1 → Calls Try.prog 36 #[pv, .int .u64 (b : Int), .int .i64 c, .int .u64 (o : Int), .int .u64 (n : Int)] w1 fun e w' => e = .returned (we v u) ∧ Q w') :
    Calls Try.prog 18 #[pv, .agg #[.int .i64 3, .int .u64 (b : Int), .int .i64 c, .int .u64 (o : Int), .int .u64 (n : Int)]] w fun e w' => e = .returned (.int .u64 v) ∧ Q w' := by
  have hR := right_any (⟨3, b, c, o, n⟩ : A) h1 (boxed w ⟨3, b, c, o, n⟩)
  rw [hr] at hR
  have HR := Lib.hid hR; clear hR
  have HB := Lib.hid (boxed_below w (⟨3, b, c, o, n⟩ : A))
  have HK := Lib.hid K; clear K
  try unfold we at HK
  go_enter Try.func18, Try.ntmps18
  go_wp2_with fail
  with_reducible refine HR.out.mono ?_
  rintro e w1 ⟨rfl, hb⟩
  obtain ⟨c0, c1, c2, c3, c4⟩ := boxed_cells hb
  have HB1 := Lib.hid (HB.out.trans (hb.mono HB.out.size))
  have HB0 := Lib.hid hb
  clear hb
  have K1 := Lib.hid (HK.out w1 HB1.out)
  go_wp2_with fail
  with_reducible refine K1.out.mono ?_
  rintro e w' ⟨rfl, HH⟩
  go_wp2
  go_ret
  exact ⟨rfl, HH⟩
set_option maxRecDepth 100000 in
set_option maxHeartbeats 4000000 in
theorem dstep4 (pv : Value) (b : Nat) (c : Int) (o n : Nat) (v u : Int) (w : World) (Q : World → Prop) (h1 : c ≤ 9223372036854775807) (hr : Ac.right ⟨4, b, c, o, n⟩ = true)
    (K : ∀ w1, Below w.heap.size w w1 → Calls Try.prog 37 #[pv, .int .u64 (b : Int), .int .i64 c, .int .u64 (n : Int)] w1 fun e w' => e = .returned (we v u) ∧ Q w') :
    Calls Try.prog 18 #[pv, .agg #[.int .i64 4, .int .u64 (b : Int), .int .i64 c, .int .u64 (o : Int), .int .u64 (n : Int)]] w fun e w' => e = .returned (.int .u64 v) ∧ Q w' := by
  have hR := right_any (⟨4, b, c, o, n⟩ : A) h1 (boxed w ⟨4, b, c, o, n⟩)
  rw [hr] at hR
  have HR := Lib.hid hR; clear hR
  have HB := Lib.hid (boxed_below w (⟨4, b, c, o, n⟩ : A))
  have HK := Lib.hid K; clear K
  try unfold we at HK
  go_enter Try.func18, Try.ntmps18
  go_wp2_with fail
  with_reducible refine HR.out.mono ?_
  rintro e w1 ⟨rfl, hb⟩
  obtain ⟨c0, c1, c2, c3, c4⟩ := boxed_cells hb
  have HB1 := Lib.hid (HB.out.trans (hb.mono HB.out.size))
  have HB0 := Lib.hid hb
  clear hb
  have K1 := Lib.hid (HK.out w1 HB1.out)
  go_wp2_with fail
  with_reducible refine K1.out.mono ?_
  rintro e w' ⟨rfl, HH⟩
  go_wp2
  go_ret
  exact ⟨rfl, HH⟩
set_option maxRecDepth 100000 in
set_option maxHeartbeats 4000000 in
theorem dstep5 (pv : Value) (b : Nat) (c : Int) (o n : Nat) (v u : Int) (w : World) (Q : World → Prop) (h1 : c ≤ 9223372036854775807) (hr : Ac.right ⟨5, b, c, o, n⟩ = true)
    (K : ∀ w1, Below w.heap.size w w1 → Calls Try.prog 15 #[pv, .int .i64 c] w1 fun e w' => e = .returned (.int .u64 v) ∧ Q w') :
    Calls Try.prog 18 #[pv, .agg #[.int .i64 5, .int .u64 (b : Int), .int .i64 c, .int .u64 (o : Int), .int .u64 (n : Int)]] w fun e w' => e = .returned (.int .u64 v) ∧ Q w' := by
  have hR := right_any (⟨5, b, c, o, n⟩ : A) h1 (boxed w ⟨5, b, c, o, n⟩)
  rw [hr] at hR
  have HR := Lib.hid hR; clear hR
  have HB := Lib.hid (boxed_below w (⟨5, b, c, o, n⟩ : A))
  have HK := Lib.hid K; clear K
  try unfold we at HK
  go_enter Try.func18, Try.ntmps18
  go_wp2_with fail
  with_reducible refine HR.out.mono ?_
  rintro e w1 ⟨rfl, hb⟩
  obtain ⟨c0, c1, c2, c3, c4⟩ := boxed_cells hb
  have HB1 := Lib.hid (HB.out.trans (hb.mono HB.out.size))
  have HB0 := Lib.hid hb
  clear hb
  have K1 := Lib.hid (HK.out w1 HB1.out)
  go_wp2_with fail
  with_reducible refine K1.out.mono ?_
  rintro e w' ⟨rfl, HH⟩
  go_wp2
  go_ret
  exact ⟨rfl, HH⟩
set_option maxRecDepth 100000 in
set_option maxHeartbeats 4000000 in
theorem dstep6 (pv : Value) (b : Nat) (c : Int) (o n : Nat) (v u : Int) (w : World) (Q : World → Prop) (h1 : c ≤ 9223372036854775807) (hr : Ac.right ⟨6, b, c, o, n⟩ = true)
    (K : ∀ w1, Below w.heap.size w w1 → Calls Try.prog 38 #[pv, .int .u64 (b : Int)] w1 fun e w' => e = .returned (.int .i64 u) ∧ Q w') :
    Calls Try.prog 18 #[pv, .agg #[.int .i64 6, .int .u64 (b : Int), .int .i64 c, .int .u64 (o : Int), .int .u64 (n : Int)]] w fun e w' => e = .returned (.int .u64 0) ∧ Q w' := by
  have hR := right_any (⟨6, b, c, o, n⟩ : A) h1 (boxed w ⟨6, b, c, o, n⟩)
  rw [hr] at hR
  have HR := Lib.hid hR; clear hR
  have HB := Lib.hid (boxed_below w (⟨6, b, c, o, n⟩ : A))
  have HK := Lib.hid K; clear K
  try unfold we at HK
  go_enter Try.func18, Try.ntmps18
  go_wp2_with fail
  with_reducible refine HR.out.mono ?_
  rintro e w1 ⟨rfl, hb⟩
  obtain ⟨c0, c1, c2, c3, c4⟩ := boxed_cells hb
  have HB1 := Lib.hid (HB.out.trans (hb.mono HB.out.size))
  have HB0 := Lib.hid hb
  clear hb
  have K1 := Lib.hid (HK.out w1 HB1.out)
  go_wp2_with fail
  with_reducible refine K1.out.mono ?_
  rintro e w' ⟨rfl, HH⟩
  go_wp2
  go_ret
  exact ⟨rfl, HH⟩
set_option maxRecDepth 100000 in
set_option maxHeartbeats 4000000 in
theorem dstep0 (pv : Value) (b : Nat) (c : Int) (o n : Nat) (v u : Int) (w : World) (Q : World → Prop) (h1 : c ≤ 9223372036854775807) (hr : Ac.right ⟨0, b, c, o, n⟩ = true)
    (K : ∀ w1, Below w.heap.size w w1 → Q w1) :
    Calls Try.prog 18 #[pv, .agg #[.int .i64 0, .int .u64 (b : Int), .int .i64 c, .int .u64 (o : Int), .int .u64 (n : Int)]] w fun e w' => e = .returned (.int .u64 0) ∧ Q w' := by
  have hR := right_any (⟨0, b, c, o, n⟩ : A) h1 (boxed w ⟨0, b, c, o, n⟩)
  rw [hr] at hR
  have HR := Lib.hid hR; clear hR
  have HB := Lib.hid (boxed_below w (⟨0, b, c, o, n⟩ : A))
  have HK := Lib.hid K; clear K
  try unfold we at HK
  go_enter Try.func18, Try.ntmps18
  go_wp2_with fail
  with_reducible refine HR.out.mono ?_
  rintro e w1 ⟨rfl, hb⟩
  obtain ⟨c0, c1, c2, c3, c4⟩ := boxed_cells hb
  have HB1 := Lib.hid (HB.out.trans (hb.mono HB.out.size))
  have HB0 := Lib.hid hb
  clear hb
  go_wp2
  go_ret
  exact ⟨rfl, HK.out w1 HB1.out⟩
set_option maxRecDepth 100000 in
set_option maxHeartbeats 4000000 in
theorem dstepk (pv : Value) (k : Int) (b : Nat) (c : Int) (o n : Nat) (v u : Int) (w : World) (Q : World → Prop) (h1 : c ≤ 9223372036854775807) (hr : Ac.right ⟨k, b, c, o, n⟩ = false)
    (K : ∀ w1, Below w.heap.size w w1 → Q w1) :
    Calls Try.prog 18 #[pv, .agg #[.int .i64 k, .int .u64 (b : Int), .int .i64 c, .int .u64 (o : Int), .int .u64 (n : Int)]] w fun e w' => e = .returned (.int .u64 0) ∧ Q w' := by
  have hR := right_any (⟨k, b, c, o, n⟩ : A) h1 (boxed w ⟨k, b, c, o, n⟩)
  rw [hr] at hR
  have HR := Lib.hid hR; clear hR
  have HB := Lib.hid (boxed_below w (⟨k, b, c, o, n⟩ : A))
  have HK := Lib.hid K; clear K
  try unfold we at HK
  go_enter Try.func18, Try.ntmps18
  go_wp2_with fail
  with_reducible refine HR.out.mono ?_
  rintro e w1 ⟨rfl, hb⟩
  obtain ⟨c0, c1, c2, c3, c4⟩ := boxed_cells hb
  have HB1 := Lib.hid (HB.out.trans (hb.mono HB.out.size))
  have HB0 := Lib.hid hb
  clear hb
  go_wp2
  go_ret
  exact ⟨rfl, HK.out w1 HB1.out⟩
end Go.Proofs.Ytdbolhalgbiggaa
