/-
  The walks of Holds, Fresh and Frozen, and of the document's; parts compared. By an AI agent.
-/
import Derived.Test.YtjmgjgohllihdaaDoorTagParts0
set_option linter.unusedSimpArgs false
set_option linter.unusedVariables false
namespace Go.Proofs.YtjmgjgohllihdaaDoor
open Go.RowKit
set_option maxHeartbeats 1000000 in
theorem holds_any (x : Int) (w : World) (h0 : 0 ≤ x) (h1 : x ≤ 18446744073709551615) : Calls Tryd.prog 42 #[.int .u64 x] w (Gives (.bool (Tg.hd x)) w) := by
  have K := Lib.hid fun w => of_any x w h0 h1
  have e : Tg.hd x = ((x / 8 != 0) && (decide (0 < x % 8) && decide (x % 8 < 5))) := by
    unfold Tg.hd
    have a : decide (8 ≤ x) = (x / 8 != 0) := by
      by_cases h : 8 ≤ x
      · have : x / 8 ≠ 0 := by omega
        simp [h, this]
      · have : x / 8 = 0 := by omega
        simp [h, this]
    have b : (decide (1 ≤ x % 8)) = decide (0 < x % 8) := by congr 1
    have c : (decide (x % 8 ≤ 4)) = decide (x % 8 < 5) := by congr 1; simp; omega
    rw [a, b, c]
  rw [e]
  clear e
  generalize x / 8 = b at K ⊢
  generalize x % 8 = m at K ⊢
  rcases c1 : (b != 0) with _ | _
  · go_enter Tryd.func42, Tryd.ntmps42
    go_wp2_with fail
    with_reducible refine (K.out _).mono ?_
    rintro e w1 ⟨rfl, hb⟩
    go_wp2
    go_ret
    exact ⟨rfl, hb.alloc hb.size _⟩
  · rcases c2 : (decide (0 < m)) with _ | _
    all_goals
      go_enter Tryd.func42, Tryd.ntmps42
      go_wp2_with fail
      with_reducible refine (K.out _).mono ?_
      rintro e w1 ⟨rfl, hb⟩
      go_wp2
      go_ret
      exact ⟨by simp, hb.alloc hb.size _⟩
set_option maxHeartbeats 1000000 in
theorem rholds_any (x : Int) (w : World) (h0 : 0 ≤ x) (h1 : x ≤ 18446744073709551615) : Calls Tryd.prog 44 #[.int .u64 x] w (Same (.bool (Tg.hd x)) w) := by
  unfold Tg.hd
  rcases c1 : (decide (8 ≤ x)) with _ | _ <;> rcases c2 : (decide (1 ≤ x % 8)) with _ | _
  all_goals
    go_enter Tryd.func44, Tryd.ntmps44
    go_wp2
    go_ret
    exact ⟨by simp, rfl⟩
/-- The mark of a word that holds, in the spelling of Fresh. -/
theorem fr_eq (x : Int) : Tg.fr x = (Tg.hd x && ((x % 8 == 1) || (x % 8 == 2))) := by
  unfold Tg.fr
  rcases h : Tg.hd x with _ | _
  · rfl
  · unfold Tg.hd at h
    simp at h
    rw [Bool.true_and, Bool.true_and, Bool.eq_iff_iff]
    simp
    omega
theorem fz_eq (x : Int) : (Tg.hd x && decide (2 < x % 8)) = (Tg.hd x && ((x % 8 == 3) || (x % 8 == 4))) := by
  rcases h : Tg.hd x with _ | _
  · rfl
  · unfold Tg.hd at h
    simp at h
    rw [Bool.true_and, Bool.true_and, Bool.eq_iff_iff]
    simp
    omega
theorem five_eq (x : Int) (h0 : 0 ≤ x) : (x == 5) = (x / 8 == 0 && x % 8 == 5) := by
  rw [Bool.eq_iff_iff]
  simp
  omega
set_option maxHeartbeats 1000000 in
theorem fresh_any (x : Int) (w : World) (h0 : 0 ≤ x) (h1 : x ≤ 18446744073709551615) : Calls Tryd.prog 19 #[.int .u64 x] w (Gives (.bool (Tg.fr x)) w) := by
  have K := Lib.hid fun w => mark_any x w h0 h1
  have H := Lib.hid fun w => holds_any x w h0 h1
  rw [fr_eq]
  generalize Tg.hd x = b at H ⊢
  generalize x % 8 = m at K ⊢
  cases b <;> rcases c1 : (m == 1) with _ | _
  all_goals
    go_enter Tryd.func19, Tryd.ntmps19
    go_wp2_with fail
    with_reducible refine (K.out _).mono ?_
    rintro e w1 ⟨rfl, hb⟩
    go_wp2_with fail
    with_reducible refine (H.out _).mono ?_
    rintro e w2 ⟨rfl, hb2⟩
    go_wp2
    go_ret
    exact ⟨by simp, below_then hb hb2⟩
set_option maxHeartbeats 1000000 in
theorem rfresh_any (x : Int) (w : World) (h0 : 0 ≤ x) (h1 : x ≤ 18446744073709551615) : Calls Tryd.prog 25 #[.int .u64 x] w (Same (.bool (Tg.fr x)) w) := by
  have H := Lib.hid fun w => rholds_any x w h0 h1
  unfold Tg.fr
  generalize Tg.hd x = b at H ⊢
  cases b
  all_goals
    go_enter Tryd.func25, Tryd.ntmps25
    go_wp2_with fail
    with_reducible refine (H.out _).mono ?_
    rintro e w2 ⟨rfl, rfl⟩
    go_wp2
    go_ret
    exact ⟨by simp, rfl⟩
/-- A pair's box, in a world behind it. -/
theorem box_cells {w w' : World} {b m : Int} (h : Below (w.alloc (.cells #[.int .u64 b, .int .i64 m] 85)).heap.size (w.alloc (.cells #[.int .u64 b, .int .i64 m] 85)) w') : w'.cell? ⟨w.heap.size, 0, none⟩ = some (.int .u64 b) ∧ w'.cell? ⟨w.heap.size, 1, none⟩ = some (.int .i64 m) := by
  have hs : w.heap.size < (w.alloc (.cells #[.int .u64 b, .int .i64 m] 85)).heap.size := by simp
  refine ⟨?_, ?_⟩ <;> rw [h.cell hs, World.cell?_alloc_new] <;> rfl
end Go.Proofs.YtjmgjgohllihdaaDoor
