/-
  The walks of Groups, Size, Limit and Stripe, the program's and the document's, and of the program's Where (jumps from part to part), GroupCell and SlotCell. By an AI agent.
-/
import Derived.Test.YtdbolhalgbiggaaMkTake2
import Derived.Test.YtdbolhalgbiggaaTableMath
import Derived.WalkKit
import Derived.WalkSpells
import Derived.WalkLawsBesides
import Derived.WalkMore
import Derived.WalkSmall
import Derived.ScopeJumps
import Derived.Below
import Derived.BigQuiet
import Derived.Lib.Hide
import Derived.IntWalk
import Derived.Laws.StructEq
set_option linter.unusedSimpArgs false
set_option linter.unusedVariables false
namespace Go.Proofs.Ytdbolhalgbiggaa
open Go.RowKit
theorem ret_int {k : IntKind} {a b : Int} (h : a = b) : Ending.returned (.int k a) = .returned (.int k b) := by rw [h]
theorem below_then {a b c : World} (h : Below a.heap.size a b) (k : Below b.heap.size b c) : Below a.heap.size a c := h.trans (k.mono h.size)
theorem wrap64_small {x : Int} (h0 : -9223372036854775808 ≤ x) (h1 : x ≤ 9223372036854775807) : wrap64 x = x := by unfold wrap64; omega
theorem u64_wrap (x : Int) : IntKind.u64.wrap x = x % 18446744073709551616 := by
  simp [IntKind.wrap, IntKind.bits, IntKind.signed]
set_option maxHeartbeats 2000000 in
/-- route.Groups. -/
theorem groups_any (log : Int) (w : World) : Calls Try.prog 30 #[.int .i64 log] w (Same (.int .i64 (Tb.grp log : Nat)) w) := by
  by_cases h : 0 ≤ log
  · have h' : ¬ log < 0 := by omega
    by_cases h2 : 9 < log
    · rw [Tb.grp_out (.inr h2)]
      go_enter Try.func30, Try.ntmps30
      go_wp2
      go_ret
      exact ⟨rfl, rfl⟩
    · rcases Tb.ten h (by omega) with rfl | rfl | rfl | rfl | rfl | rfl | rfl | rfl | rfl | rfl
      all_goals
        go_enter Try.func30, Try.ntmps30
        go_wp2
        go_ret
        exact ⟨rfl, rfl⟩
  · have h' : log < 0 := by omega
    rw [Tb.grp_out (.inl h')]
    go_enter Try.func30, Try.ntmps30
    go_wp2
    go_ret
    exact ⟨rfl, rfl⟩
set_option maxRecDepth 100000 in
set_option maxHeartbeats 2000000 in
/-- The document's Groups: doublings. -/
theorem rgroups_any (log : Int) (w : World) : Calls Try.prog 22 #[.int .i64 log] w (Same (.int .i64 (Tb.grp log : Nat)) w) := by
  by_cases h : 0 ≤ log
  · have h' : ¬ log < 0 := by omega
    by_cases h2 : 9 < log
    · rw [Tb.grp_out (.inr h2)]
      go_enter Try.func22, Try.ntmps22
      go_wp2
      go_ret
      exact ⟨rfl, rfl⟩
    · rw [Tb.grp_in h (by omega)]
      go_enter Try.func22, Try.ntmps22
      go_wp2
      go_loop [3, 4] (fun u c => ∃ k : Nat, (k : Int) ≤ log ∧ c = .int .i64 k ∧ u = .int .i64 ((2 ^ k : Nat) : Int)) (fun _ c => (log - intOf c).toNat)
      case atStart => exact ⟨0, by omega, rfl, rfl⟩
      case round =>
        obtain ⟨k, hk, rfl, rfl⟩ := hrel
        have hp : 2 ^ k ≤ 2 ^ 9 := Nat.pow_le_pow_right (by omega) (by omega)
        have hp1 : (2 ^ k : Nat) ≤ 512 := hp
        clear hp
        by_cases hlt : (k : Int) < log
        · have hpw : ((2 ^ (k + 1) : Nat) : Int) = 2 * ((2 ^ k : Nat) : Int) := by rw [Nat.pow_succ]; omega
          have Hpw := Lib.hid hpw; clear hpw
          generalize hq : (2 ^ k : Nat) = q at hp1 Hpw ⊢
          go_wp2
          go_round
          case rel => exact ⟨k + 1, by omega, by go_num, by rw [Hpw.out]⟩
          case measure => simp [intOf]; omega
        · obtain rfl : log = k := by omega
          go_wp2
          go_ret
          exact ⟨rfl, rfl⟩
  · have h' : log < 0 := by omega
    rw [Tb.grp_out (.inl h')]
    go_enter Try.func22, Try.ntmps22
    go_wp2
    go_ret
    exact ⟨rfl, rfl⟩
/-- A place, as a value. -/
def pv (p : Int × Int × Int) : Value := .agg #[.int .i64 p.1, .int .i64 p.2.1, .int .i64 p.2.2]
end Go.Proofs.Ytdbolhalgbiggaa
