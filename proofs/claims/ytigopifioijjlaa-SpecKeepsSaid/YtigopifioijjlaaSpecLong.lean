/-
  The walks of Long, the program's and the document's. By an AI agent.
-/
import Derived.Test.YtigopifioijjlaaSpecParts
set_option linter.unusedSimpArgs false
namespace Go.Proofs.Ytigopifioijjlaa
open Go.RowKit
theorem long_key (k : Int) (key val : ByteArray) (h : k = 1 ∨ k = 6 ∨ k = 7) : longB' k key val = decide (16 < (key.size : Int)) := by
  rcases h with rfl | rfl | rfl <;> (simp [longB', Dc.longB]; omega)
theorem long_val (k : Int) (key val : ByteArray) (h : k = 2 ∨ k = 3 ∨ k = 4 ∨ k = 5) (hv : val.size ≤ 24) : longB' k key val = decide (16 < (key.size : Int)) := by
  have : ¬ (24 < val.size) := by omega
  rcases h with rfl | rfl | rfl | rfl <;> (simp [longB', Dc.longB, this]; omega)
theorem long_val' (k : Int) (key val : ByteArray) (h : k = 2 ∨ k = 3 ∨ k = 4 ∨ k = 5) (hv : 24 < val.size) : longB' k key val = true := by
  rcases h with rfl | rfl | rfl | rfl <;> simp [longB', Dc.longB, hv]
theorem long_none (k : Int) (key val : ByteArray) (h : k < 1 ∨ 7 < k) : longB' k key val = false := by
  simp only [longB', Dc.longB]
  rcases h with h | h
  · simp [show ¬ (1 ≤ k) by omega, show ¬ (2 ≤ k) by omega]
  · simp [show ¬ (k ≤ 7) by omega, show ¬ (k ≤ 5) by omega]
set_option maxHeartbeats 1000000 in
theorem long_any (k : Int) (key val old : ByteArray) (w : World) : Calls Try.prog 12 #[.agg #[.int .i64 k, .string key, .string val, .string old]] w (Gives (.bool (Dc.longB k key val)) w) := by
  have hB := (Below.refl w.heap.size w).alloc (Nat.le_refl _) (.cells #[.int .i64 k, .string key, .string val, .string old] 27)
  show Calls _ _ _ _ (Gives (.bool (longB' k key val)) w)
  have hk : (k = 1 ∨ k = 6 ∨ k = 7) ∨ (k = 2 ∨ k = 3 ∨ k = 4 ∨ k = 5) ∨ (k < 1 ∨ 7 < k) := by omega
  rcases hk with hk | hk | hk
  · rw [long_key k key val hk]
    rcases hk with rfl | rfl | rfl
    all_goals
      go_enter Try.func12, Try.ntmps12
      go_wp2
      go_ret
      exact ⟨rfl, hB⟩
  · by_cases hv : 24 < val.size
    · rw [long_val' k key val hk hv]
      rcases hk with rfl | rfl | rfl | rfl
      all_goals
        go_enter Try.func12, Try.ntmps12
        go_wp2
        go_ret
        exact ⟨rfl, hB⟩
    · rw [long_val k key val hk (by omega)]
      rcases hk with rfl | rfl | rfl | rfl
      all_goals
        go_enter Try.func12, Try.ntmps12
        go_wp2
        go_ret
        exact ⟨rfl, hB⟩
  · rw [long_none k key val hk]
    have e1 : (k == 1) = false := by simp; omega
    have e2 : (k == 2) = false := by simp; omega
    have e3 : (k == 3) = false := by simp; omega
    have e4 : (k == 4) = false := by simp; omega
    have e5 : (k == 5) = false := by simp; omega
    have e6 : (k == 6) = false := by simp; omega
    have e7 : (k == 7) = false := by simp; omega
    clear hk
    go_enter Try.func12, Try.ntmps12
    go_wp2
    go_ret
    exact ⟨rfl, hB⟩
set_option maxHeartbeats 1000000 in
theorem rlong_any (k : Int) (key val old : ByteArray) (w : World) : Calls Try.prog 13 #[.agg #[.int .i64 k, .string key, .string val, .string old]] w (Gives (.bool (Dc.longB k key val)) w) := by
  have hB := (Below.refl w.heap.size w).alloc (Nat.le_refl _) (.cells #[.int .i64 k, .string key, .string val, .string old] 27)
  show Calls _ _ _ _ (Gives (.bool (longB' k key val)) w)
  have hk : (k = 1 ∨ k = 6 ∨ k = 7) ∨ (k = 2 ∨ k = 3 ∨ k = 4 ∨ k = 5) ∨ (k < 1 ∨ 7 < k) := by omega
  rcases hk with hk | hk | hk
  · rw [long_key k key val hk]
    by_cases h16 : 16 < key.size
    all_goals
      rcases hk with rfl | rfl | rfl
      all_goals
        go_enter Try.func13, Try.ntmps13
        go_wp2
        go_ret
        exact ⟨by simp; omega, hB⟩
  · by_cases hv : 24 < val.size
    · rw [long_val' k key val hk hv]
      by_cases h16 : 16 < key.size
      all_goals
        rcases hk with rfl | rfl | rfl | rfl
        all_goals
          go_enter Try.func13, Try.ntmps13
          go_wp2
          go_ret
          exact ⟨by first | rfl | (simp; omega), hB⟩
    · rw [long_val k key val hk (by omega)]
      by_cases h16 : 16 < key.size
      all_goals
        rcases hk with rfl | rfl | rfl | rfl
        all_goals
          go_enter Try.func13, Try.ntmps13
          go_wp2
          go_ret
          exact ⟨by simp; omega, hB⟩
  · rw [long_none k key val hk]
    rcases hk with hk | hk
    · have e1 : ¬ (1 ≤ k) := by omega
      have e2 : ¬ (2 ≤ k) := by omega
      go_enter Try.func13, Try.ntmps13
      go_wp2
      go_ret
      exact ⟨rfl, hB⟩
    · have e1 : 1 ≤ k := by omega
      have e2 : 2 ≤ k := by omega
      have e3 : ¬ (k ≤ 7) := by omega
      have e4 : ¬ (k ≤ 5) := by omega
      go_enter Try.func13, Try.ntmps13
      go_wp2
      go_ret
      exact ⟨rfl, hB⟩
end Go.Proofs.Ytigopifioijjlaa
