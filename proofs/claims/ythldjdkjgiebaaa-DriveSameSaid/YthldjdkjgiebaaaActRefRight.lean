/-
  The document's Right. By an AI agent.
-/
import Derived.Test.YthldjdkjgiebaaaActEq
set_option linter.unusedSimpArgs false
set_option linter.unusedVariables false
namespace Go.Proofs.Ythldjdkjgiebaaa
open Go.RowKit
open Ac (A)
/-- The value of an act, of its parts. -/
abbrev a5 (k b c o n : Int) : Value := .agg #[.int .i64 k, .int .u64 b, .int .i64 c, .int .u64 o, .int .u64 n]
set_option maxRecDepth 100000 in
set_option maxHeartbeats 4000000 in
theorem rright_neg (k b c o n : Int) (w : World) (h : c < 0) : Calls Try.prog 30 #[.agg #[.int .i64 k, .int .u64 b, .int .i64 c, .int .u64 o, .int .u64 n]] w (Gives (.bool false) w) := by
  go_enter Try.func30, Try.ntmps30
  go_wp2
  go_ret
  exact ⟨rfl, (Below.refl _ _).alloc (Nat.le_refl _) _⟩
set_option maxRecDepth 100000 in
set_option maxHeartbeats 4000000 in
theorem rright_0_true (b c o n : Int) (w : World) (h : 0 ≤ c) (he : eqB 0 b c o n 0 0 0 0 0 = true) : Calls Try.prog 30 #[.agg #[.int .i64 0, .int .u64 b, .int .i64 c, .int .u64 o, .int .u64 n]] w (Gives (.bool true) w) := by
  have E := eq_act 0 b c o n 0 0 0 0 0
  rw [he] at E
  go_enter Try.func30, Try.ntmps30
  go_wp2
  go_ret
  exact ⟨rfl, ((Below.refl _ _).alloc (Nat.le_refl _) _).alloc (by simp) _⟩
set_option maxRecDepth 100000 in
set_option maxHeartbeats 4000000 in
theorem rright_0_false (b c o n : Int) (w : World) (h : 0 ≤ c) (he : eqB 0 b c o n 0 0 0 0 0 = false) : Calls Try.prog 30 #[.agg #[.int .i64 0, .int .u64 b, .int .i64 c, .int .u64 o, .int .u64 n]] w (Gives (.bool false) w) := by
  have E := eq_act 0 b c o n 0 0 0 0 0
  rw [he] at E
  go_enter Try.func30, Try.ntmps30
  go_wp2
  go_ret
  exact ⟨rfl, ((Below.refl _ _).alloc (Nat.le_refl _) _).alloc (by simp) _⟩
set_option maxRecDepth 100000 in
set_option maxHeartbeats 4000000 in
theorem rright_1_true (b c o n : Int) (w : World) (h : 0 ≤ c) (he : eqB 1 b c o n 1 b c 0 0 = true) : Calls Try.prog 30 #[.agg #[.int .i64 1, .int .u64 b, .int .i64 c, .int .u64 o, .int .u64 n]] w (Gives (.bool true) w) := by
  have E := eq_act 1 b c o n 1 b c 0 0
  rw [he] at E
  go_enter Try.func30, Try.ntmps30
  go_wp2
  go_ret
  exact ⟨rfl, ((Below.refl _ _).alloc (Nat.le_refl _) _).alloc (by simp) _⟩
set_option maxRecDepth 100000 in
set_option maxHeartbeats 4000000 in
theorem rright_1_false (b c o n : Int) (w : World) (h : 0 ≤ c) (he : eqB 1 b c o n 1 b c 0 0 = false) : Calls Try.prog 30 #[.agg #[.int .i64 1, .int .u64 b, .int .i64 c, .int .u64 o, .int .u64 n]] w (Gives (.bool false) w) := by
  have E := eq_act 1 b c o n 1 b c 0 0
  rw [he] at E
  go_enter Try.func30, Try.ntmps30
  go_wp2
  go_ret
  exact ⟨rfl, ((Below.refl _ _).alloc (Nat.le_refl _) _).alloc (by simp) _⟩
set_option maxRecDepth 100000 in
set_option maxHeartbeats 4000000 in
theorem rright_2_true (b c o n : Int) (w : World) (h : 0 ≤ c) (he : eqB 2 b c o n 2 b c 0 n = true) : Calls Try.prog 30 #[.agg #[.int .i64 2, .int .u64 b, .int .i64 c, .int .u64 o, .int .u64 n]] w (Gives (.bool true) w) := by
  have E := eq_act 2 b c o n 2 b c 0 n
  rw [he] at E
  go_enter Try.func30, Try.ntmps30
  go_wp2
  go_ret
  exact ⟨rfl, ((Below.refl _ _).alloc (Nat.le_refl _) _).alloc (by simp) _⟩
set_option maxRecDepth 100000 in
set_option maxHeartbeats 4000000 in
theorem rright_2_false (b c o n : Int) (w : World) (h : 0 ≤ c) (he : eqB 2 b c o n 2 b c 0 n = false) : Calls Try.prog 30 #[.agg #[.int .i64 2, .int .u64 b, .int .i64 c, .int .u64 o, .int .u64 n]] w (Gives (.bool false) w) := by
  have E := eq_act 2 b c o n 2 b c 0 n
  rw [he] at E
  go_enter Try.func30, Try.ntmps30
  go_wp2
  go_ret
  exact ⟨rfl, ((Below.refl _ _).alloc (Nat.le_refl _) _).alloc (by simp) _⟩
set_option maxRecDepth 100000 in
set_option maxHeartbeats 4000000 in
theorem rright_3_true (b c o n : Int) (w : World) (h : 0 ≤ c) (he : eqB 3 b c o n 3 b c o n = true) : Calls Try.prog 30 #[.agg #[.int .i64 3, .int .u64 b, .int .i64 c, .int .u64 o, .int .u64 n]] w (Gives (.bool true) w) := by
  have E := eq_act 3 b c o n 3 b c o n
  rw [he] at E
  go_enter Try.func30, Try.ntmps30
  go_wp2
  go_ret
  exact ⟨rfl, ((Below.refl _ _).alloc (Nat.le_refl _) _).alloc (by simp) _⟩
set_option maxRecDepth 100000 in
set_option maxHeartbeats 4000000 in
theorem rright_3_false (b c o n : Int) (w : World) (h : 0 ≤ c) (he : eqB 3 b c o n 3 b c o n = false) : Calls Try.prog 30 #[.agg #[.int .i64 3, .int .u64 b, .int .i64 c, .int .u64 o, .int .u64 n]] w (Gives (.bool false) w) := by
  have E := eq_act 3 b c o n 3 b c o n
  rw [he] at E
  go_enter Try.func30, Try.ntmps30
  go_wp2
  go_ret
  exact ⟨rfl, ((Below.refl _ _).alloc (Nat.le_refl _) _).alloc (by simp) _⟩
set_option maxRecDepth 100000 in
set_option maxHeartbeats 4000000 in
theorem rright_4_true (b c o n : Int) (w : World) (h : 0 ≤ c) (he : eqB 4 b c o n 4 b c 0 n = true) : Calls Try.prog 30 #[.agg #[.int .i64 4, .int .u64 b, .int .i64 c, .int .u64 o, .int .u64 n]] w (Gives (.bool true) w) := by
  have E := eq_act 4 b c o n 4 b c 0 n
  rw [he] at E
  go_enter Try.func30, Try.ntmps30
  go_wp2
  go_ret
  exact ⟨rfl, ((Below.refl _ _).alloc (Nat.le_refl _) _).alloc (by simp) _⟩
set_option maxRecDepth 100000 in
set_option maxHeartbeats 4000000 in
theorem rright_4_false (b c o n : Int) (w : World) (h : 0 ≤ c) (he : eqB 4 b c o n 4 b c 0 n = false) : Calls Try.prog 30 #[.agg #[.int .i64 4, .int .u64 b, .int .i64 c, .int .u64 o, .int .u64 n]] w (Gives (.bool false) w) := by
  have E := eq_act 4 b c o n 4 b c 0 n
  rw [he] at E
  go_enter Try.func30, Try.ntmps30
  go_wp2
  go_ret
  exact ⟨rfl, ((Below.refl _ _).alloc (Nat.le_refl _) _).alloc (by simp) _⟩
set_option maxRecDepth 100000 in
set_option maxHeartbeats 4000000 in
theorem rright_5_true (b c o n : Int) (w : World) (h : 0 ≤ c) (he : eqB 5 b c o n 5 0 c 0 0 = true) (hp : 0 < c) : Calls Try.prog 30 #[.agg #[.int .i64 5, .int .u64 b, .int .i64 c, .int .u64 o, .int .u64 n]] w (Gives (.bool true) w) := by
  have E := eq_act 5 b c o n 5 0 c 0 0
  rw [he] at E
  go_enter Try.func30, Try.ntmps30
  go_wp2
  go_ret
  exact ⟨rfl, ((Below.refl _ _).alloc (Nat.le_refl _) _).alloc (by simp) _⟩
set_option maxRecDepth 100000 in
set_option maxHeartbeats 4000000 in
theorem rright_5_zero (b c o n : Int) (w : World) (h : 0 ≤ c) (he : eqB 5 b c o n 5 0 c 0 0 = true) (hp : ¬ 0 < c) : Calls Try.prog 30 #[.agg #[.int .i64 5, .int .u64 b, .int .i64 c, .int .u64 o, .int .u64 n]] w (Gives (.bool false) w) := by
  have E := eq_act 5 b c o n 5 0 c 0 0
  rw [he] at E
  go_enter Try.func30, Try.ntmps30
  go_wp2
  go_ret
  exact ⟨rfl, ((Below.refl _ _).alloc (Nat.le_refl _) _).alloc (by simp) _⟩
set_option maxRecDepth 100000 in
set_option maxHeartbeats 4000000 in
theorem rright_5_false (b c o n : Int) (w : World) (h : 0 ≤ c) (he : eqB 5 b c o n 5 0 c 0 0 = false) : Calls Try.prog 30 #[.agg #[.int .i64 5, .int .u64 b, .int .i64 c, .int .u64 o, .int .u64 n]] w (Gives (.bool false) w) := by
  have E := eq_act 5 b c o n 5 0 c 0 0
  rw [he] at E
  go_enter Try.func30, Try.ntmps30
  go_wp2
  go_ret
  exact ⟨rfl, ((Below.refl _ _).alloc (Nat.le_refl _) _).alloc (by simp) _⟩
set_option maxRecDepth 100000 in
set_option maxHeartbeats 4000000 in
theorem rright_6_true (b c o n : Int) (w : World) (h : 0 ≤ c) (he : eqB 6 b c o n 6 b 0 0 0 = true) : Calls Try.prog 30 #[.agg #[.int .i64 6, .int .u64 b, .int .i64 c, .int .u64 o, .int .u64 n]] w (Gives (.bool true) w) := by
  have E := eq_act 6 b c o n 6 b 0 0 0
  rw [he] at E
  go_enter Try.func30, Try.ntmps30
  go_wp2
  go_ret
  exact ⟨rfl, ((Below.refl _ _).alloc (Nat.le_refl _) _).alloc (by simp) _⟩
set_option maxRecDepth 100000 in
set_option maxHeartbeats 4000000 in
theorem rright_6_false (b c o n : Int) (w : World) (h : 0 ≤ c) (he : eqB 6 b c o n 6 b 0 0 0 = false) : Calls Try.prog 30 #[.agg #[.int .i64 6, .int .u64 b, .int .i64 c, .int .u64 o, .int .u64 n]] w (Gives (.bool false) w) := by
  have E := eq_act 6 b c o n 6 b 0 0 0
  rw [he] at E
  go_enter Try.func30, Try.ntmps30
  go_wp2
  go_ret
  exact ⟨rfl, ((Below.refl _ _).alloc (Nat.le_refl _) _).alloc (by simp) _⟩
set_option maxRecDepth 100000 in
set_option maxHeartbeats 4000000 in
theorem rright_low (k b c o n : Int) (w : World) (h : 0 ≤ c) (hk : k < 0) : Calls Try.prog 30 #[.agg #[.int .i64 k, .int .u64 b, .int .i64 c, .int .u64 o, .int .u64 n]] w (Gives (.bool false) w) := by
  have h1 : (k == 1) = false := by rw [beq_eq_false_iff_ne]; omega
  have h2 : (k == 2) = false := by rw [beq_eq_false_iff_ne]; omega
  have h3 : (k == 3) = false := by rw [beq_eq_false_iff_ne]; omega
  have h4 : (k == 4) = false := by rw [beq_eq_false_iff_ne]; omega
  have h5 : (k == 5) = false := by rw [beq_eq_false_iff_ne]; omega
  have h6 : (k == 6) = false := by rw [beq_eq_false_iff_ne]; omega
  have g0 : ¬ 0 ≤ k := by omega
  have g1 : ¬ 1 ≤ k := by omega
  go_enter Try.func30, Try.ntmps30
  go_wp2
  go_ret
  exact ⟨rfl, ((Below.refl _ _).alloc (Nat.le_refl _) _).alloc (by simp) _⟩
set_option maxRecDepth 100000 in
set_option maxHeartbeats 4000000 in
theorem rright_high (k b c o n : Int) (w : World) (h : 0 ≤ c) (hk : 6 < k) : Calls Try.prog 30 #[.agg #[.int .i64 k, .int .u64 b, .int .i64 c, .int .u64 o, .int .u64 n]] w (Gives (.bool false) w) := by
  have h1 : (k == 1) = false := by rw [beq_eq_false_iff_ne]; omega
  have h2 : (k == 2) = false := by rw [beq_eq_false_iff_ne]; omega
  have h3 : (k == 3) = false := by rw [beq_eq_false_iff_ne]; omega
  have h4 : (k == 4) = false := by rw [beq_eq_false_iff_ne]; omega
  have h5 : (k == 5) = false := by rw [beq_eq_false_iff_ne]; omega
  have h6 : (k == 6) = false := by rw [beq_eq_false_iff_ne]; omega
  have g0 : 0 ≤ k := by omega
  have g1 : 1 ≤ k := by omega
  have g2 : ¬ k ≤ 5 := by omega
  have g3 : ¬ k ≤ 6 := by omega
  go_enter Try.func30, Try.ntmps30
  go_wp2
  go_ret
  exact ⟨rfl, ((Below.refl _ _).alloc (Nat.le_refl _) _).alloc (by simp) _⟩
end Go.Proofs.Ythldjdkjgiebaaa
