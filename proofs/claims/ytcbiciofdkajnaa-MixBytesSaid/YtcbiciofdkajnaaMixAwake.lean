/-
  The walks of the statements' own probe, of MixTells and of MixSeeds. By an AI agent.
-/
import Derived.Test.YtcbiciofdkajnaaMixHash
namespace Go.Proofs.Ytcbiciofdkajnaa
open Go.RowKit
def Says (b : Bool) (w : World) (e : Ending) (w' : World) : Prop := e = .returned (.bool b) ∧ Below w.heap.size w w'
theorem aw1 (w : World) : Calls Try.prog 7 #[.int .u64 0, .string ⟨#[]⟩] w (Same (.int .u64 0) w) := by
  have h := hash_any 0 ⟨#[]⟩ w (by decide) (by decide)
  have e : Mx.hsh 0 (⟨#[]⟩ : ByteArray).data.toList = 0 := by decide +kernel
  rw [e] at h
  exact h
theorem aw2 (w : World) : Calls Try.prog 7 #[.int .u64 1, .string ⟨#[]⟩] w (Same (.int .u64 11400714836765684190) w) := by
  have h := hash_any 1 ⟨#[]⟩ w (by decide) (by decide)
  have e : Mx.hsh 1 (⟨#[]⟩ : ByteArray).data.toList = 11400714836765684190 := by decide +kernel
  rw [e] at h
  exact h
theorem aw3 (w : World) : Calls Try.prog 11 #[.int .u64 5] w (Same (.int .i64 133) w) := claim_any 5 w (by decide) (by decide)
theorem aw4 (w : World) : Calls Try.prog 9 #[.int .u64 256] w (Same (.int .u64 2) w) := start_any 256 w
theorem aw5 (w : World) : Calls Try.prog 13 #[.int .u64 2, .int .i64 128] w (Same (.int .u64 256) w) := by
  have h := whole_any 2 128 w (by decide) (by decide)
  rw [show Mx.whl 2 128 = 256 by decide] at h
  exact h
theorem aw6 (w : World) : Calls Try.prog 13 #[.int .u64 2, .int .i64 127] w (Same (.int .u64 0) w) := by
  have h := whole_any 2 127 w (by decide) (by decide)
  rw [show Mx.whl 2 127 = 0 by decide] at h
  exact h
set_option maxRecDepth 100000 in
set_option maxHeartbeats 1000000 in
/-- The probe: the fixed answers are given. -/
theorem awake_any (w : World) : Calls Try.prog 6 #[] w (Same (.bool true) w) := by
  go_enter Try.func6, Try.ntmps6
  go_wp2_with fail
  with_reducible refine (aw1 _).mono ?_
  rintro e w1 ⟨rfl, rfl⟩
  go_wp2_with fail
  with_reducible refine (aw3 _).mono ?_
  rintro e w2 ⟨rfl, rfl⟩
  go_wp2_with fail
  with_reducible refine (aw4 _).mono ?_
  rintro e w3 ⟨rfl, rfl⟩
  go_wp2_with fail
  with_reducible refine (aw5 _).mono ?_
  rintro e w4 ⟨rfl, rfl⟩
  go_wp2_with fail
  with_reducible refine (aw2 _).mono ?_
  rintro e w5 ⟨rfl, rfl⟩
  go_wp2_with fail
  with_reducible refine (aw6 _).mono ?_
  rintro e w6 ⟨rfl, rfl⟩
  go_wp2
  go_ret
  exact ⟨rfl, rfl⟩
set_option maxRecDepth 100000 in
set_option maxHeartbeats 1000000 in
theorem seeds_long (a b : Int) (s : ByteArray) (w : World) (h : 2000 < s.size) (hs : s.size ≤ maxLen) : Calls Try.prog 4 #[.int .u64 a, .int .u64 b, .string s] w (Same (.bool true) w) := by
  unfold maxLen at hs
  go_enter Try.func4, Try.ntmps4
  go_wp2_with (go_at_call 6; refine (awake_any _).mono ?_; rintro e w' ⟨rfl, rfl⟩)
  go_ret
  exact ⟨rfl, rfl⟩
set_option maxRecDepth 100000 in
set_option maxHeartbeats 1000000 in
theorem seeds_short (a b : Nat) (s : ByteArray) (w : World) (ha : a < 18446744073709551616) (hb : b < 18446744073709551616) (h : s.size ≤ 2000) : Calls Try.prog 4 #[.int .u64 (a : Int), .int .u64 (b : Int), .string s] w (Same (.bool true) w) := by
  have hs : s.size ≤ maxLen := by unfold maxLen; omega
  have A := fun w => hash_any a s w ha hs
  have B := fun w => hash_any b s w hb hs
  have hab := Mx.hsh_seed s.data.toList ha hb
  generalize Mx.hsh a s.data.toList = x at A hab
  generalize Mx.hsh b s.data.toList = y at B hab
  have HA := Lib.hid A; clear A
  have HB := Lib.hid B; clear B
  have e1 : (((x : Int) == (y : Int)) == ((a : Int) == (b : Int))) = true := by
    by_cases c : a = b
    · have : x = y := hab.2 c
      subst c this; simp
    · have : ¬ x = y := fun h => c (hab.1 h)
      have c1 : ((x : Int) == (y : Int)) = false := by simp; omega
      have c2 : ((a : Int) == (b : Int)) = false := by simp; omega
      rw [c1, c2]; rfl
  clear hab hs
  go_enter Try.func4, Try.ntmps4
  go_wp2_with fail
  with_reducible refine (HA.out _).mono ?_
  rintro e w1 ⟨rfl, rfl⟩
  go_wp2_with fail
  with_reducible refine (HB.out _).mono ?_
  rintro e w1 ⟨rfl, rfl⟩
  go_wp2_with fail
  with_reducible refine (awake_any _).mono ?_
  rintro e w1 ⟨rfl, rfl⟩
  go_wp2
  go_ret
  exact ⟨rfl, rfl⟩
set_option maxRecDepth 100000 in
set_option maxHeartbeats 1000000 in
theorem tells_long (a c : Int) (s : ByteArray) (w : World) (h : 2000 < s.size) (hs : s.size ≤ maxLen) : Calls Try.prog 3 #[.int .u64 a, .string s, .int .i64 c] w (Same (.bool true) w) := by
  unfold maxLen at hs
  go_enter Try.func3, Try.ntmps3
  go_wp2_with (go_at_call 6; refine (awake_any _).mono ?_; rintro e w' ⟨rfl, rfl⟩)
  go_ret
  exact ⟨rfl, rfl⟩
set_option maxRecDepth 100000 in
set_option maxHeartbeats 4000000 in
theorem tells_short (a : Nat) (c : Int) (s : ByteArray) (w : World) (ha : a < 18446744073709551616) (h : s.size ≤ 2000) : Calls Try.prog 3 #[.int .u64 (a : Int), .string s, .int .i64 c] w (Same (.bool true) w) := by
  have hs : s.size ≤ maxLen := by unfold maxLen; omega
  have A := fun w => hash_any a s w ha hs
  have B := fun w => rhash_any a s w ha hs
  have hx := Mx.hsh_lt a s.data.toList
  generalize Mx.hsh a s.data.toList = x at A B hx
  have hx1 : (x : Int) ≤ 18446744073709551615 := by omega
  have hx0 : 0 ≤ (x : Int) := by omega
  have ha1 : (a : Int) ≤ 18446744073709551615 := by omega
  have ha0 : 0 ≤ (a : Int) := by omega
  clear hs hx ha
  generalize (x : Int) = X at A B hx0 hx1
  generalize (a : Int) = Z at A B ha0 ha1
  have S1 := fun w => start_any X w
  have S2 := fun w => rstart_any X w hx0 hx1
  have S3 := fun w => start_any Z w
  have S4 := fun w => rstart_any Z w ha0 ha1
  have C1 := fun w => claim_any X w hx0 hx1
  have C2 := fun w => rclaim_any X w hx0 hx1
  have C3 := fun w => claim_any Z w ha0 ha1
  have C4 := fun w => rclaim_any Z w ha0 ha1
  have W1 := fun w => whole_any Z c w ha0 ha1
  have W2 := fun w => rwhole_any Z c w ha0 ha1
  have W3 := fun w => whole_any (Z / 128) c w (by omega) (by omega)
  have W4 := fun w => rwhole_any (Z / 128) c w (by omega) (by omega)
  have W5 := fun w => whole_any (X / 128) (128 + X % 128) w (by omega) (by omega)
  rw [Mx.whl_back hx0 hx1] at W5
  generalize X / 128 = X1 at S1 S2 W5
  generalize 128 + X % 128 = X2 at C1 C2 W5
  generalize Z / 128 = Z1 at S3 S4 W3 W4
  generalize 128 + Z % 128 = Z2 at C3 C4
  generalize Mx.whl Z c = V1 at W1 W2
  generalize Mx.whl Z1 c = V2 at W3 W4
  have HA := Lib.hid A; clear A
  have HB := Lib.hid B; clear B
  have HS1 := Lib.hid S1; clear S1
  have HS2 := Lib.hid S2; clear S2
  have HS3 := Lib.hid S3; clear S3
  have HS4 := Lib.hid S4; clear S4
  have HC1 := Lib.hid C1; clear C1
  have HC2 := Lib.hid C2; clear C2
  have HC3 := Lib.hid C3; clear C3
  have HC4 := Lib.hid C4; clear C4
  have HW1 := Lib.hid W1; clear W1
  have HW2 := Lib.hid W2; clear W2
  have HW3 := Lib.hid W3; clear W3
  have HW4 := Lib.hid W4; clear W4
  have HW5 := Lib.hid W5; clear W5
  have q : ∀ y : Int, (y == y) = true := fun y => by simp
  have q1 := q X
  have q2 := q X1
  have q3 := q X2
  have q4 := q Z1
  have q5 := q Z2
  have q6 := q V1
  have q7 := q V2
  clear q
  go_enter Try.func3, Try.ntmps3
  go_wp2_with fail
  with_reducible refine (HA.out _).mono ?_
  rintro e w1 ⟨rfl, rfl⟩
  go_wp2_with fail
  with_reducible refine (HB.out _).mono ?_
  rintro e w1 ⟨rfl, rfl⟩
  go_wp2_with fail
  with_reducible refine (HS1.out _).mono ?_
  rintro e w1 ⟨rfl, rfl⟩
  go_wp2_with fail
  with_reducible refine (HS2.out _).mono ?_
  rintro e w1 ⟨rfl, rfl⟩
  go_wp2_with fail
  with_reducible refine (HC1.out _).mono ?_
  rintro e w1 ⟨rfl, rfl⟩
  go_wp2_with fail
  with_reducible refine (HC2.out _).mono ?_
  rintro e w1 ⟨rfl, rfl⟩
  go_wp2_with fail
  with_reducible refine (HS3.out _).mono ?_
  rintro e w1 ⟨rfl, rfl⟩
  go_wp2_with fail
  with_reducible refine (HS4.out _).mono ?_
  rintro e w1 ⟨rfl, rfl⟩
  go_wp2_with fail
  with_reducible refine (HC3.out _).mono ?_
  rintro e w1 ⟨rfl, rfl⟩
  go_wp2_with fail
  with_reducible refine (HC4.out _).mono ?_
  rintro e w1 ⟨rfl, rfl⟩
  go_wp2_with fail
  with_reducible refine (HW1.out _).mono ?_
  rintro e w1 ⟨rfl, rfl⟩
  go_wp2_with fail
  with_reducible refine (HW2.out _).mono ?_
  rintro e w1 ⟨rfl, rfl⟩
  go_wp2_with fail
  with_reducible refine (HS3.out _).mono ?_
  rintro e w1 ⟨rfl, rfl⟩
  go_wp2_with fail
  with_reducible refine (HW3.out _).mono ?_
  rintro e w1 ⟨rfl, rfl⟩
  go_wp2_with fail
  with_reducible refine (HS4.out _).mono ?_
  rintro e w1 ⟨rfl, rfl⟩
  go_wp2_with fail
  with_reducible refine (HW4.out _).mono ?_
  rintro e w1 ⟨rfl, rfl⟩
  go_wp2_with fail
  with_reducible refine (HS1.out _).mono ?_
  rintro e w1 ⟨rfl, rfl⟩
  go_wp2_with fail
  with_reducible refine (HC1.out _).mono ?_
  rintro e w1 ⟨rfl, rfl⟩
  go_wp2_with fail
  with_reducible refine (HW5.out _).mono ?_
  rintro e w1 ⟨rfl, rfl⟩
  go_wp2_with fail
  with_reducible refine (awake_any _).mono ?_
  rintro e w1 ⟨rfl, rfl⟩
  go_wp2
  go_ret
  exact ⟨rfl, rfl⟩
end Go.Proofs.Ytcbiciofdkajnaa
