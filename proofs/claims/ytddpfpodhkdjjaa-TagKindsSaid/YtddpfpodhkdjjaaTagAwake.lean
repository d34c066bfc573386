/-
  The walks of the statements' own probe, of TagBack and of TagKinds. By an AI agent.
-/
import Derived.Test.YtddpfpodhkdjjaaTagKinds0
set_option linter.unusedSimpArgs false
set_option linter.unusedVariables false
namespace Go.Proofs.Ytddpfpodhkdjjaa
open Go.RowKit
/-- It returns b, and what was there lies as it lay. -/
def Says (b : Bool) (w : World) (e : Ending) (w' : World) : Prop := e = .returned (.bool b) ∧ Below w.heap.size w w'
theorem aw1 (w : World) : Calls Try.prog 11 #[.int .u64 3, .int .i64 1] w (Same (.int .u64 25) w) := make_any 3 1 w (by decide) (by decide) (by decide) (by decide)
theorem aw2 (w : World) : Calls Try.prog 20 #[.int .u64 25, .int .i64 4] w (Gives (.int .u64 28) w) := again_any 25 4 w (by decide) (by decide) (by decide) (by decide)
theorem aw3 (w : World) : Calls Try.prog 18 #[.int .u64 28] w (Gives (.bool true) w) := frozen_any 28 w (by decide) (by decide)
theorem aw4 (w : World) : Calls Try.prog 14 #[.int .u64 25] w (Gives (.bool true) w) := holds_any 25 w (by decide) (by decide)
theorem aw5 (w : World) : Calls Try.prog 16 #[.int .u64 25] w (Gives (.bool true) w) := fresh_any 25 w (by decide) (by decide)
theorem aw6 (w : World) : Calls Try.prog 16 #[.int .u64 28] w (Gives (.bool false) w) := fresh_any 28 w (by decide) (by decide)
theorem aw7 (w : World) : Calls Try.prog 18 #[.int .u64 5] w (Gives (.bool true) w) := frozen_any 5 w (by decide) (by decide)
theorem aw8 (w : World) : Calls Try.prog 14 #[.int .u64 5] w (Gives (.bool false) w) := holds_any 5 w (by decide) (by decide)
theorem aw9 (w : World) : Calls Try.prog 6 #[.int .u64 25] w (Gives (.agg #[.int .u64 3, .int .i64 1]) w) := of_any 25 w (by decide) (by decide)
set_option maxRecDepth 100000 in
set_option maxHeartbeats 1000000 in
/-- The probe: the fixed answers are given. -/
theorem awake_any (w : World) : Calls Try.prog 13 #[] w (Says true w) := by
  have q : ∀ w : World, (binOp .eql 24 (.agg #[.int .u64 3, .int .i64 1]) (.agg #[.int .u64 3, .int .i64 1])).run Try.prog w = .ok (.bool true) w := eq_parts 3 1 3 1
  go_enter Try.func13, Try.ntmps13
  go_wp2_with fail
  with_reducible refine (aw1 _).mono ?_
  rintro e w1 ⟨rfl, rfl⟩
  go_wp2_with fail
  with_reducible refine (aw2 _).mono ?_
  rintro e w2 ⟨rfl, b2⟩
  go_wp2_with fail
  with_reducible refine (aw3 _).mono ?_
  rintro e w3 ⟨rfl, b3⟩
  go_wp2_with fail
  with_reducible refine (aw4 _).mono ?_
  rintro e w4 ⟨rfl, b4⟩
  go_wp2_with fail
  with_reducible refine (aw5 _).mono ?_
  rintro e w5 ⟨rfl, b5⟩
  go_wp2_with fail
  with_reducible refine (aw6 _).mono ?_
  rintro e w6 ⟨rfl, b6⟩
  go_wp2_with fail
  with_reducible refine (aw7 _).mono ?_
  rintro e w7 ⟨rfl, b7⟩
  go_wp2_with fail
  with_reducible refine (aw8 _).mono ?_
  rintro e w8 ⟨rfl, b8⟩
  go_wp2_with fail
  with_reducible refine (aw9 _).mono ?_
  rintro e w9 ⟨rfl, b9⟩
  go_wp2
  go_ret
  exact ⟨rfl, below_then (below_then (below_then (below_then (below_then (below_then (below_then b2 b3) b4) b5) b6) b7) b8) b9⟩
set_option maxRecDepth 100000 in
set_option maxHeartbeats 2000000 in
theorem kinds_any (x m : Int) (w : World) (h0 : 0 ≤ x) (h1 : x ≤ 18446744073709551615) (m0 : -9223372036854775808 ≤ m) (m1 : m ≤ 9223372036854775807) :
    Calls Try.prog 4 #[.int .u64 x, .int .i64 m] w (Says true w) := by
  have K1 := Lib.hid fun w => holds_any x w h0 h1
  have K2 := Lib.hid fun w => rholds_any x w h0 h1
  have K3 := Lib.hid fun w => fresh_any x w h0 h1
  have K4 := Lib.hid fun w => rfresh_any x w h0 h1
  have K5 := Lib.hid fun w => frozen_any x w h0 h1
  have K6 := Lib.hid fun w => rfrozen_any x w h0 h1
  have K7 := Lib.hid fun w => again_any x m w h0 h1 m0 m1
  have K8 := Lib.hid fun w => ragain_any x m w h0 h1 m0 m1
  generalize Tg.hd x = a at K1 K2
  generalize Tg.fr x = b at K3 K4
  generalize Tg.fz x = c at K5 K6
  generalize Tg.mk (x / 8) m = d at K7 K8
  have q1 : (a == a) = true := by simp
  have q2 : (b == b) = true := by simp
  have q3 : (c == c) = true := by simp
  have q4 : (d == d) = true := by simp
  go_enter Try.func4, Try.ntmps4
  go_wp2_with fail
  with_reducible refine (K1.out _).mono ?_
  rintro e w1 ⟨rfl, b1⟩
  go_wp2_with fail
  with_reducible refine (K2.out _).mono ?_
  rintro e w2 ⟨rfl, rfl⟩
  go_wp2_with fail
  with_reducible refine (K3.out _).mono ?_
  rintro e w3 ⟨rfl, b3⟩
  go_wp2_with fail
  with_reducible refine (K4.out _).mono ?_
  rintro e w4 ⟨rfl, rfl⟩
  go_wp2_with fail
  with_reducible refine (K5.out _).mono ?_
  rintro e w5 ⟨rfl, b5⟩
  go_wp2_with fail
  with_reducible refine (K6.out _).mono ?_
  rintro e w6 ⟨rfl, rfl⟩
  go_wp2_with fail
  with_reducible refine (K7.out _).mono ?_
  rintro e w7 ⟨rfl, b7⟩
  go_wp2_with fail
  with_reducible refine (K8.out _).mono ?_
  rintro e w8 ⟨rfl, rfl⟩
  go_wp2_with fail
  with_reducible refine (awake_any _).mono ?_
  rintro e w9 ⟨rfl, b9⟩
  go_wp2
  go_ret
  exact ⟨rfl, below_then (below_then (below_then (below_then b1 b3) b5) b7) b9⟩
end Go.Proofs.Ytddpfpodhkdjjaa
