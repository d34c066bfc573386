/-
  The walk of BoxBack where texts are too long. By an AI agent.
-/
import Derived.Test.YtofbhgghboffbaaBoxTells
import Derived.Deep.RegionHeld3
import Derived.Deep.QuietTactic
set_option linter.unusedSimpArgs false
set_option linter.unusedVariables false
namespace Go.Proofs.Ytofbhgghboffbaa
open Go.RowKit
abbrev pair2 (a b : ByteArray) : Value := .agg #[.string a, .string b]
set_option maxHeartbeats 2000000 in
theorem back_long (k v o0 o1 : ByteArray) (w : World) (hk : k.size ≤ maxLen) (hv : v.size ≤ maxLen) (h0 : o0.size ≤ maxLen) (h1 : o1.size ≤ maxLen) (h : 1000 < k.size ∨ 1000 < v.size ∨ 1000 < o0.size ∨ 1000 < o1.size) :
    Calls Try.prog 4 #[.string k, .string v, pair2 o0 o1] w (Gives (.bool true) w) := by
  unfold maxLen at hk hv h0 h1
  have AW := Lib.hid awake_any
  have hc : (1000 < k.size) ∨ (¬ 1000 < k.size ∧ 1000 < v.size) ∨ (¬ 1000 < k.size ∧ ¬ 1000 < v.size ∧ 1000 < o0.size) ∨ (¬ 1000 < k.size ∧ ¬ 1000 < v.size ∧ ¬ 1000 < o0.size ∧ 1000 < o1.size) := by omega
  clear h
  rcases hc with c0 | ⟨c0, c1⟩ | ⟨c0, c1, c2⟩ | ⟨c0, c1, c2, c3⟩
  all_goals
    go_enter Try.func4, Try.ntmps4
    go_wp2_with fail
    with_reducible refine (AW.out _).mono ?_
    rintro e w' ⟨rfl, hb⟩
    go_wp2
    go_ret
    exact ⟨rfl, ((Below.refl _ _).alloc (Nat.le_refl _) _).trans (hb.mono (by simp))⟩
set_option maxHeartbeats 2000000 in
theorem back_no (k v o0 o1 : ByteArray) (w : World) (hk : k.size ≤ 1000) (hv : v.size ≤ 1000) (h0 : o0.size ≤ 1000) (h1 : o1.size ≤ 1000) (h : 16 < k.size ∨ 24 < v.size) :
    Calls Try.prog 4 #[.string k, .string v, pair2 o0 o1] w (Gives (.bool true) w) := by
  have AW := Lib.hid awake_any
  have WN := Lib.hid fun w => words_no k v w (by unfold maxLen; omega) (by unfold maxLen; omega) h
  have hc : (16 < k.size) ∨ (¬ 16 < k.size ∧ 24 < v.size) := by omega
  have a0 : ¬ (1000 : Int) < (k.size : Int) := by omega
  have a1 : ¬ (1000 : Int) < (v.size : Int) := by omega
  have a2 : ¬ (1000 : Int) < (o0.size : Int) := by omega
  have a3 : ¬ (1000 : Int) < (o1.size : Int) := by omega
  clear h
  rcases hc with c0 | ⟨c0, c1⟩
  all_goals
    go_enter Try.func4, Try.ntmps4
    go_wp2_with fail
    with_reducible refine (WN.out _).mono ?_
    rintro e w1 ⟨rfl, rfl⟩
    go_wp2_with fail
    with_reducible refine (AW.out _).mono ?_
    rintro e w' ⟨rfl, hb⟩
    go_wp2
    go_ret
    exact ⟨rfl, ((Below.refl _ _).alloc (Nat.le_refl _) _).trans (hb.mono (by simp))⟩
end Go.Proofs.Ytofbhgghboffbaa
