/-
  The walks of the document's Size, TableCell, BoxCell and Whose. By an AI agent.
-/
import Derived.Test.YtinnachndnedlaaDoorDeskParts
set_option linter.unusedSimpArgs false
set_option linter.unusedVariables false
namespace Go.Proofs.YtinnachndnedlaaDoor
open Go.RowKit
set_option maxRecDepth 100000 in
set_option maxHeartbeats 1000000 in
theorem rsize_any (n : Int) (w : World) : Calls Tryd.prog 10 #[.int .i64 n] w (Same (.int .i64 (Dk.size n)) w) := by
  by_cases h0 : n < 1
  · rw [Dk.size_out (.inl h0)]
    go_enter Tryd.func10, Tryd.ntmps10
    go_wp2
    go_ret
    exact ⟨rfl, rfl⟩
  · by_cases h1 : 64 < n
    · rw [Dk.size_out (.inr h1)]
      go_enter Tryd.func10, Tryd.ntmps10
      go_wp2
      go_ret
      exact ⟨rfl, rfl⟩
    · rw [Dk.size_in (by omega) (by omega)]
      go_enter Tryd.func10, Tryd.ntmps10
      go_wp2
      go_ret
      exact ⟨ret_int (by omega), rfl⟩
set_option maxRecDepth 100000 in
set_option maxHeartbeats 1000000 in
theorem rtable_any (n : Int) (w : World) : Calls Tryd.prog 12 #[.int .i64 n] w (Same (.int .i64 (Dk.tab n)) w) := by
  by_cases h0 : n < 0
  · rw [Dk.tab_out (.inl h0)]
    go_enter Tryd.func12, Tryd.ntmps12
    go_wp2
    go_ret
    exact ⟨rfl, rfl⟩
  · by_cases h1 : 63 < n
    · rw [Dk.tab_out (.inr h1)]
      go_enter Tryd.func12, Tryd.ntmps12
      go_wp2
      go_ret
      exact ⟨rfl, rfl⟩
    · rw [Dk.tab_in (by omega) (by omega)]
      go_enter Tryd.func12, Tryd.ntmps12
      go_wp2
      go_ret
      exact ⟨ret_int (by omega), rfl⟩
set_option maxRecDepth 100000 in
set_option maxHeartbeats 1000000 in
theorem rbox_any (n : Int) (w : World) : Calls Tryd.prog 14 #[.int .i64 n] w (Same (.int .i64 (Dk.box n)) w) := by
  by_cases h0 : n < 0
  · rw [Dk.box_out (.inl h0)]
    go_enter Tryd.func14, Tryd.ntmps14
    go_wp2
    go_ret
    exact ⟨rfl, rfl⟩
  · by_cases h1 : 63 < n
    · rw [Dk.box_out (.inr h1)]
      go_enter Tryd.func14, Tryd.ntmps14
      go_wp2
      go_ret
      exact ⟨rfl, rfl⟩
    · rw [Dk.box_in (by omega) (by omega)]
      go_enter Tryd.func14, Tryd.ntmps14
      go_wp2
      go_ret
      exact ⟨ret_int (by omega), rfl⟩
set_option maxRecDepth 100000 in
set_option maxHeartbeats 2000000 in
/-- The document's Whose: looked for. -/
theorem rwhose_any (c : Int) (w : World) : Calls Tryd.prog 6 #[.int .i64 c] w (Same (whoV c) w) := by
  go_enter Tryd.func6, Tryd.ntmps6
  go_wp2
  go_loop [4] (fun t => ∃ k : Int, 0 ≤ k ∧ k ≤ 64 ∧ t = .int .i64 k ∧ (c < 2 ∨ 2 + 2 * k ≤ c)) (fun t => 64 - (intOf t).toNat)
  case atStart => exact ⟨0, by omega, by omega, rfl, by omega⟩
  case round =>
    obtain ⟨k, k0, k1, rfl, hz⟩ := hrel
    have Hz := Lib.hid hz; clear hz
    by_cases hlt : k < 64
    · have T := Lib.hid (fun w => rtable_any k w)
      rw [Dk.tab_in (by omega) (by omega)] at T
      have B := Lib.hid (fun w => rbox_any k w)
      rw [Dk.box_in (by omega) (by omega)] at B
      by_cases e1 : 2 + 2 * k = c
      · subst e1
        rw [who_tab (by omega) (by omega)]
        go_wp2_with fail
        with_reducible refine (T.out _).mono ?_
        rintro e w1 ⟨rfl, rfl⟩
        go_wp2
        go_ret2
        exact ⟨rfl, rfl⟩
      · have f1 : ((2 + 2 * k) == c) = false := by simpa using e1
        have E1 := Lib.hid e1; clear e1
        go_wp2_with fail
        with_reducible refine (T.out _).mono ?_
        rintro e w1 ⟨rfl, rfl⟩
        go_wp2_with fail
        with_reducible refine (B.out _).mono ?_
        rintro e w1 ⟨rfl, rfl⟩
        by_cases e2 : 3 + 2 * k = c
        · have f2 : ((3 + 2 * k) == c) = true := by simpa using e2
          have E2 := Lib.hid e2; clear e2
          go_wp2
          go_ret2
          refine ⟨?_, rfl⟩
          rw [← E2.out, who_box (by omega) (by omega)]
          rfl
        · have f2 : ((3 + 2 * k) == c) = false := by simpa using e2
          have E2 := Lib.hid e2; clear e2
          go_wp2
          go_round
          case rel => exact ⟨k + 1, by omega, by omega, by go_num, by have := Hz.out; have := E1.out; have := E2.out; omega⟩
          case measure => simp [intOf]; omega
    · obtain rfl : k = 64 := by omega
      go_wp2
      go_ret2
      refine ⟨?_, rfl⟩
      rw [who_bad (by have := Hz.out; omega)]
      rfl
end Go.Proofs.YtinnachndnedlaaDoor
