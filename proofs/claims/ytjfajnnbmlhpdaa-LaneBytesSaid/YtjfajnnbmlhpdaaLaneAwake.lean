/-
  The walk of the statements' own probe: the fixed answers are given. By an AI agent.
-/
import Derived.Test.YtjfajnnbmlhpdaaLaneFirst
namespace Go.Proofs.Ytjfajnnbmlhpdaa
open Go.RowKit
theorem Sl.lit (w : World) (xs : List Int) : Sl (w.alloc (.cells (xs.map (Value.int .i64)).toArray 3)) (w.heap.size + 1) (some ⟨w.heap.size, 0, none⟩) xs := by
  refine .inr ⟨w.heap.size, 0, rfl, by omega, fun j hj => ?_⟩
  rw [World.cell?_alloc_at _ _ _ _ rfl]
  simp [hj]
def Three (w : World) (e : Ending) (w' : World) : Prop := ∃ A c, e = .returned (.slice A 3 c) ∧ Sl w' w'.heap.size A [0, 1, 3] ∧ Below w.heap.size w w'
def Says (b : Bool) (w : World) (e : Ending) (w' : World) : Prop := e = .returned (.bool b) ∧ Below w.heap.size w w'
theorem aw1 (w : World) : Calls Try.prog 14 #[.int .u64 2147516544, .int .i64 128] w (Three w) := by
  have h := lplaces_any 2147516544 128 (by decide) (by decide) w
  rw [show asI (Ln.plc 2147516544 128) = [0, 1, 3] by decide +kernel] at h
  exact h.mono fun e w' ⟨A, c, he, hr, hb⟩ => ⟨A, c, he, Sl.of_own hr, hb⟩
theorem aw2 (A : Option Addr) (c : Nat) (w : World) (h : Sl w w.heap.size A [0, 1, 3]) : Calls Try.prog 13 #[.slice A 3 c, .slice (some ⟨w.heap.size, 0, none⟩) 3 3] (w.alloc (.cells #[.int .i64 0, .int .i64 1, .int .i64 3] 3)) (Says true (w.alloc (.cells #[.int .i64 0, .int .i64 1, .int .i64 3] 3))) := by
  refine ints_same [0, 1, 3] A _ c 3 _ (by decide) ((h.below ((Below.refl _ _).alloc (Nat.le_refl _) _)).mono (by simp)) ?_
  have := Sl.lit w [0, 1, 3]
  simpa using this
theorem aw3 (w : World) : Calls Try.prog 16 #[.int .u64 2147516544, .int .i64 0] w (GivesInt 5 w) := by
  have h := count_any 2147516544 0 (by decide) (by decide) w
  rw [show ((Ln.plc 2147516544 0).length : Int) = 5 by decide +kernel] at h
  exact h
theorem aw4 (w : World) : Calls Try.prog 11 #[.int .u64 2147516544, .int .i64 2, .slice (some ⟨w.heap.size, 0, none⟩) 1 1] (w.alloc (.cells #[.int .i64 128] 3)) (GivesInt 3 (w.alloc (.cells #[.int .i64 128] 3))) := by
  have h := first_any 2147516544 2 [128] (some ⟨w.heap.size, 0, none⟩) 1 (by decide) (by decide) (by decide) (w.alloc (.cells #[.int .i64 128] 3)) (by have := Sl.lit w [128]; simpa using this)
  rw [show Ln.fst 2147516544 2 [128] = 3 by decide +kernel] at h
  exact h
theorem aw5 (w : World) : Calls Try.prog 11 #[.int .u64 2147516544, .int .i64 0, .slice (some ⟨w.heap.size, 0, none⟩) 2 2] (w.alloc (.cells #[.int .i64 1, .int .i64 2] 3)) (GivesInt 8 (w.alloc (.cells #[.int .i64 1, .int .i64 2] 3))) := by
  have h := first_any 2147516544 0 [1, 2] (some ⟨w.heap.size, 0, none⟩) 2 (by decide) (by decide) (by decide) (w.alloc (.cells #[.int .i64 1, .int .i64 2] 3)) (by have := Sl.lit w [1, 2]; simpa using this)
  rw [show Ln.fst 2147516544 0 [1, 2] = 8 by decide +kernel] at h
  exact h
theorem aw6 (w : World) : Calls Try.prog 6 #[.int .u64 2147516544, .int .i64 3] w fun e w' => e = .returned (.int .i64 128) ∧ w = w' := by
  have h := byte_any 2147516544 3 w (by decide) (by decide)
  rw [show Ln.byt 2147516544 3 = 128 by decide +kernel] at h
  exact h
theorem aw7 (w : World) : Calls Try.prog 6 #[.int .u64 2147516544, .int .i64 8] w fun e w' => e = .returned (.int .i64 (-1)) ∧ w = w' := by
  have h := byte_any 2147516544 8 w (by decide) (by decide)
  rw [show Ln.byt 2147516544 8 = -1 by decide +kernel] at h
  exact h
theorem aw8 (w : World) : Calls Try.prog 8 #[.int .u64 0, .int .i64 1, .int .i64 5] w fun e w' => e = .returned (.int .u64 1280) ∧ w = w' := by
  have h := with_any 0 1 5 w (by decide) (by decide)
  rw [show Ln.wth 0 1 5 = 1280 by decide +kernel] at h
  exact h
theorem aw9 (w : World) : Calls Try.prog 18 #[.int .u64 2147516544, .int .i64 128, .int .i64 1] w (GivesWord 16777473 w) := by
  have h := fill_any 2147516544 128 1 (by decide) (by decide) w
  rw [show Ln.fil 2147516544 128 1 = 16777473 by decide +kernel] at h
  exact h
theorem below_new {a w : World} {o : Obj} {w' : World} (h : Below a.heap.size a w) (k : Below (w.alloc o).heap.size (w.alloc o) w') : Below a.heap.size a w' := below_then (h.alloc h.size o) k
set_option maxRecDepth 100000 in
set_option maxHeartbeats 1000000 in
/-- The probe: the fixed answers are given. -/
theorem awake_any (w : World) : Calls Try.prog 10 #[] w (Says true w) := by
  go_enter Try.func10, Try.ntmps10
  go_wp2_with fail
  with_reducible refine (aw1 _).mono ?_
  rintro e w1 ⟨A, c, rfl, s1, b1⟩
  go_wp2_with fail
  with_reducible refine (aw2 A c w1 s1).mono ?_
  rintro e w2 ⟨rfl, b2⟩
  have c2 := below_new b1 b2
  go_wp2_with fail
  with_reducible refine (aw3 _).mono ?_
  rintro e w3 ⟨rfl, b3⟩
  have c3 := below_then c2 b3
  go_wp2_with fail
  with_reducible refine (aw4 w3).mono ?_
  rintro e w4 ⟨rfl, b4⟩
  have c4 := below_new c3 b4
  go_wp2_with fail
  with_reducible refine (aw5 w4).mono ?_
  rintro e w5 ⟨rfl, b5⟩
  have c5 := below_new c4 b5
  go_wp2_with fail
  with_reducible refine (aw6 _).mono ?_
  rintro e w6 ⟨rfl, rfl⟩
  go_wp2_with fail
  with_reducible refine (aw7 _).mono ?_
  rintro e w7 ⟨rfl, rfl⟩
  go_wp2_with fail
  with_reducible refine (aw8 _).mono ?_
  rintro e w8 ⟨rfl, rfl⟩
  go_wp2_with fail
  with_reducible refine (aw9 _).mono ?_
  rintro e w9 ⟨rfl, b9⟩
  go_wp2
  go_ret
  exact ⟨rfl, below_then c5 b9⟩
set_option maxRecDepth 100000 in
set_option maxHeartbeats 1000000 in
/-- LaneBytes returns true. -/
theorem bytes_walk (x i b : Int) (w : World) (hx0 : 0 ≤ x) (hx1 : x ≤ 18446744073709551615) : Calls Try.prog 3 #[.int .u64 x, .int .i64 i, .int .i64 b] w (Says true w) := by
  have e1 : (Ln.byt x i == Ln.byt x i) = true := by simp
  have e2 : (Ln.wth x i b == Ln.wth x i b) = true := by simp
  go_enter Try.func3, Try.ntmps3
  go_wp2_with fail
  with_reducible refine (byte_any _ _ _ hx0 hx1).mono ?_
  rintro e w1 ⟨rfl, rfl⟩
  go_wp2_with fail
  with_reducible refine (rbyte_any _ _ _ hx0 hx1).mono ?_
  rintro e w2 ⟨rfl, rfl⟩
  go_wp2_with fail
  with_reducible refine (with_any _ _ _ _ hx0 hx1).mono ?_
  rintro e w3 ⟨rfl, rfl⟩
  go_wp2_with fail
  with_reducible refine (rwith_any _ _ _ _ hx0 hx1).mono ?_
  rintro e w4 ⟨rfl, b4⟩
  go_wp2_with fail
  with_reducible refine (awake_any _).mono ?_
  rintro e w5 ⟨rfl, b5⟩
  go_wp2
  go_ret
  exact ⟨rfl, below_then b4 b5⟩
end Go.Proofs.Ytjfajnnbmlhpdaa
