/-
  Plain mathematics of a table's cells: how many groups there are of a log, and what a cell is. No program in it. By an AI agent.
-/
import Derived.Test.YtdbolhalgbiggaaChecked
namespace Go.Proofs.Ytdbolhalgbiggaa.Tb
/-- How many groups there are of a log. -/
def grp (log : Int) : Nat := if 0 ≤ log ∧ log ≤ 9 then 2 ^ log.toNat else 0
theorem grp_in {log : Int} (h0 : 0 ≤ log) (h1 : log ≤ 9) : grp log = 2 ^ log.toNat := by unfold grp; rw [if_pos ⟨h0, h1⟩]
theorem grp_out {log : Int} (h : log < 0 ∨ 9 < log) : grp log = 0 := by unfold grp; rw [if_neg (by omega)]
theorem ten {log : Int} (h0 : 0 ≤ log) (h1 : log ≤ 9) : log = 0 ∨ log = 1 ∨ log = 2 ∨ log = 3 ∨ log = 4 ∨ log = 5 ∨ log = 6 ∨ log = 7 ∨ log = 8 ∨ log = 9 := by omega
theorem grp_le (log : Int) : grp log ≤ 512 := by
  by_cases h : 0 ≤ log ∧ log ≤ 9
  · rcases ten h.1 h.2 with rfl | rfl | rfl | rfl | rfl | rfl | rfl | rfl | rfl | rfl <;> decide
  · unfold grp; rw [if_neg h]; omega
theorem grp_pos {log : Int} (h0 : 0 ≤ log) (h1 : log ≤ 9) : 1 ≤ grp log := by
  rw [grp_in h0 h1]; exact Nat.one_le_two_pow
/-- What cell c is, of n groups: its part, group and slot. -/
def plc (n : Nat) (c : Int) : Int × Int × Int :=
  if n = 0 ∨ c < 0 ∨ 7 + 9 * (n : Int) ≤ c then (0, 0, 0)
  else if c < 7 then (1, 0, 0)
  else if c < 7 + (n : Int) then (2, c - 7, 0)
  else (3, (c - 7 - (n : Int)) / 8, (c - 7 - (n : Int)) % 8)
theorem plc_none {n : Nat} {c : Int} (h : n = 0 ∨ c < 0 ∨ 7 + 9 * (n : Int) ≤ c) : plc n c = (0, 0, 0) := if_pos h
theorem plc_head {n : Nat} {c : Int} (hn : 1 ≤ n) (h0 : 0 ≤ c) (h1 : c < 7) : plc n c = (1, 0, 0) := by
  unfold plc; rw [if_neg (by omega), if_pos h1]
theorem plc_group {n : Nat} {g : Int} (h0 : 0 ≤ g) (h1 : g < n) : plc n (7 + g) = (2, g, 0) := by
  unfold plc; rw [if_neg (by omega), if_neg (by omega), if_pos (by omega)]; simp; omega
theorem plc_slot {n : Nat} {g s : Int} (h0 : 0 ≤ g) (h1 : g < n) (s0 : 0 ≤ s) (s1 : s < 8) : plc n (7 + n + 8 * g + s) = (3, g, s) := by
  unfold plc; rw [if_neg (by omega), if_neg (by omega), if_neg (by omega)]
  simp only [Prod.mk.injEq, true_and]
  omega
theorem plc_cases (n : Nat) (c : Int) : (n = 0 ∨ c < 0 ∨ 7 + 9 * (n : Int) ≤ c) ∨ (1 ≤ n ∧ 0 ≤ c ∧ c < 7) ∨ (∃ g : Int, 0 ≤ g ∧ g < n ∧ c = 7 + g) ∨ (∃ g s : Int, 0 ≤ g ∧ g < n ∧ 0 ≤ s ∧ s < 8 ∧ c = 7 + n + 8 * g + s) := by
  by_cases h : n = 0 ∨ c < 0 ∨ 7 + 9 * (n : Int) ≤ c
  · exact .inl h
  · by_cases h1 : c < 7
    · exact .inr (.inl ⟨by omega, by omega, h1⟩)
    · by_cases h2 : c < 7 + (n : Int)
      · exact .inr (.inr (.inl ⟨c - 7, by omega, by omega, by omega⟩))
      · exact .inr (.inr (.inr ⟨(c - 7 - n) / 8, (c - 7 - n) % 8, by omega, by omega, by omega, by omega, by omega⟩))
theorem plc_ways (n : Nat) (c : Int) : (n = 0 ∧ plc n c = (0, 0, 0)) ∨ (n ≠ 0 ∧ c < 0 ∧ plc n c = (0, 0, 0)) ∨ (n ≠ 0 ∧ 0 ≤ c ∧ c < 7 ∧ plc n c = (1, 0, 0)) ∨ (n ≠ 0 ∧ 7 ≤ c ∧ c - 7 < (n : Int) ∧ plc n c = (2, c - 7, 0)) ∨ (n ≠ 0 ∧ 7 ≤ c ∧ (n : Int) ≤ c - 7 ∧ c - 7 - (n : Int) < (n : Int) * 8 ∧ plc n c = (3, (c - 7 - (n : Int)) / 8, (c - 7 - (n : Int)) % 8)) ∨ (n ≠ 0 ∧ 7 ≤ c ∧ (n : Int) ≤ c - 7 ∧ (n : Int) * 8 ≤ c - 7 - (n : Int) ∧ plc n c = (0, 0, 0)) := by
  by_cases a : n = 0
  · exact .inl ⟨a, plc_none (.inl a)⟩
  by_cases b : c < 0
  · exact .inr (.inl ⟨a, b, plc_none (by omega)⟩)
  by_cases d : c < 7
  · exact .inr (.inr (.inl ⟨a, by omega, d, plc_head (by omega) (by omega) d⟩))
  by_cases f : c - 7 < (n : Int)
  · refine .inr (.inr (.inr (.inl ⟨a, by omega, f, ?_⟩)))
    unfold plc; rw [if_neg (by omega), if_neg (by omega), if_pos (by omega)]
  by_cases g : c - 7 - (n : Int) < (n : Int) * 8
  · refine .inr (.inr (.inr (.inr (.inl ⟨a, by omega, by omega, g, ?_⟩))))
    unfold plc; rw [if_neg (by omega), if_neg (by omega), if_neg (by omega)]
  · exact .inr (.inr (.inr (.inr (.inr ⟨a, by omega, by omega, by omega, plc_none (by omega)⟩))))
/-- The cell of a group's control word. -/
def gc (n : Nat) (g : Int) : Int := if 0 ≤ g ∧ g < n then 7 + g else -1
/-- The cell of a slot of it. -/
def sc (n : Nat) (g s : Int) : Int := if 0 ≤ g ∧ g < n ∧ 0 ≤ s ∧ s < 8 then 7 + n + 8 * g + s else -1
theorem gc_in {n : Nat} {g : Int} (h0 : 0 ≤ g) (h1 : g < n) : gc n g = 7 + g := if_pos ⟨h0, h1⟩
theorem gc_out {n : Nat} {g : Int} (h : g < 0 ∨ (n : Int) ≤ g) : gc n g = -1 := if_neg (by omega)
theorem sc_in {n : Nat} {g s : Int} (h0 : 0 ≤ g) (h1 : g < n) (s0 : 0 ≤ s) (s1 : s < 8) : sc n g s = 7 + n + 8 * g + s := if_pos ⟨h0, h1, s0, s1⟩
theorem sc_out {n : Nat} {g s : Int} (h : g < 0 ∨ (n : Int) ≤ g ∨ s < 0 ∨ 8 ≤ s) : sc n g s = -1 := if_neg (by omega)
/-- What is told of a cell that should be a place. -/
def thr (n : Nat) (c : Int) (p : Int × Int × Int) : Int := if plc n c = p then c else -1
theorem thr_group {n : Nat} {c g : Int} (h : c = (7 + g + 9223372036854775808) % 18446744073709551616 - 9223372036854775808) (hn : n ≤ 512) (g0 : -9223372036854775808 ≤ g) (g1 : g ≤ 9223372036854775807) : thr n c (2, g, 0) = gc n g := by
  unfold thr
  rcases plc_cases n c with k | ⟨k0, k1, k2⟩ | ⟨g', k0, k1, rfl⟩ | ⟨g', s', k0, k1, k2, k3, rfl⟩
  · rw [plc_none k, if_neg (by simp), gc_out (by omega)]
  · rw [plc_head k0 k1 k2, if_neg (by simp), gc_out (by omega)]
  · rw [plc_group k0 k1]
    obtain rfl : g' = g := by omega
    rw [if_pos rfl, gc_in k0 k1]
  · rw [plc_slot k0 k1 k2 k3, if_neg (by simp), gc_out (by omega)]
theorem thr_slot {n : Nat} {c g s : Int} (h : c = (7 + (n : Int) + 8 * g + s + 9223372036854775808) % 18446744073709551616 - 9223372036854775808) (hn : n ≤ 512) : thr n c (3, g, s) = sc n g s := by
  unfold thr
  by_cases k : 0 ≤ g ∧ g < n ∧ 0 ≤ s ∧ s < 8
  · obtain ⟨k0, k1, k2, k3⟩ := k
    obtain rfl : c = 7 + n + 8 * g + s := by omega
    rw [plc_slot k0 k1 k2 k3, if_pos rfl, sc_in k0 k1 k2 k3]
  · rw [sc_out (by omega), if_neg]
    intro e
    rcases plc_cases n c with k' | ⟨k0, k1, k2⟩ | ⟨g', k0, k1, rfl⟩ | ⟨g', s', k0, k1, k2, k3, rfl⟩
    · rw [plc_none k'] at e; simp at e
    · rw [plc_head k0 k1 k2] at e; simp at e
    · rw [plc_group k0 k1] at e; simp at e
    · rw [plc_slot k0 k1 k2 k3] at e
      simp only [Prod.mk.injEq, true_and] at e
      omega
/-- How many cells. -/
def size (n : Nat) : Int := if n = 0 then 0 else 7 + 9 * n
theorem size_pos {n : Nat} (h : 1 ≤ n) : size n = 7 + 9 * n := if_neg (by omega)
/-- The stripe. -/
def strp (t : Int) : Int := 3 + t % 4
end Go.Proofs.Ytdbolhalgbiggaa.Tb
