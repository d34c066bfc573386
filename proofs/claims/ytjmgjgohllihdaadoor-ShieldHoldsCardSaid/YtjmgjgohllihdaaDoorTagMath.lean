/-
  Plain mathematics of words by eight. No program in it. By an AI agent.
-/
namespace Go.Proofs.YtjmgjgohllihdaaDoor.Tg
/-- The word of a block and a mark. -/
def mk (b m : Int) : Int := (8 * b + m % 8) % 18446744073709551616
def hd (x : Int) : Bool := decide (8 ≤ x) && (decide (1 ≤ x % 8) && decide (x % 8 ≤ 4))
def fr (x : Int) : Bool := hd x && decide (x % 8 < 3)
def fz (x : Int) : Bool := (x == 5) || (hd x && decide (2 < x % 8))
theorem mk_bd (b m : Int) : 0 ≤ mk b m ∧ mk b m ≤ 18446744073709551615 := by unfold mk; omega
theorem mk_back {x : Int} (h0 : 0 ≤ x) (h1 : x ≤ 18446744073709551615) : mk (x / 8) (x % 8) = x := by unfold mk; omega
theorem mk_block {b : Int} (m : Int) (h0 : 0 ≤ b) (h1 : b < 2305843009213693952) : mk b m / 8 = b := by unfold mk; omega
theorem mk_mark {b m : Int} (m0 : 0 ≤ m) (m1 : m ≤ 7) : mk b m % 8 = m := by unfold mk; omega
theorem div_bd {x : Int} (h0 : 0 ≤ x) (h1 : x ≤ 18446744073709551615) : 0 ≤ x / 8 ∧ x / 8 < 2305843009213693952 := by omega
theorem fr_hd {x : Int} (h : fr x = true) : hd x = true := by unfold fr at h; simp at h; exact h.1
theorem not_both (x : Int) : (fr x && fz x) = false := by
  by_cases h : x = 5
  · subst h; decide
  · unfold fr fz
    by_cases h2 : x % 8 < 3
    · have : ¬ 2 < x % 8 := by omega
      simp [h, this]
    · simp [h2]
theorem one_of (x : Int) (h : hd x = true) : (fr x || fz x) = true := by
  unfold fr fz
  rw [h]
  by_cases h2 : x % 8 < 3
  · simp [h2]
  · have : 2 < x % 8 := by omega
    simp [this]
theorem tmod_pos {m : Int} (h : 0 ≤ m.tmod 8) : m.tmod 8 = m % 8 := by
  rw [Int.tmod_eq_emod] at h ⊢
  split at h <;> rename_i c
  · rw [if_pos c]; omega
  · simp at h; omega
theorem tmod_neg {m : Int} (h : m.tmod 8 < 0) : m.tmod 8 = m % 8 - 8 := by
  rw [Int.tmod_eq_emod] at h ⊢
  split at h <;> rename_i c
  · omega
  · rw [if_neg c]; rfl
end Go.Proofs.YtjmgjgohllihdaaDoor.Tg
