/-
  The walks of the program's GroupCell and SlotCell, and of Size, Limit, Stripe and Right, the program's and the document's. By an AI agent.
-/
import Derived.Test.YtdbolhalgbiggaaTableParts
import Derived.Deep.RegionHeld3
set_option linter.unusedSimpArgs false
set_option linter.unusedVariables false
namespace Go.Proofs.Ytdbolhalgbiggaa
open Go.RowKit
set_option maxHeartbeats 1000000 in
theorem tsize_any (log : Int) (w : World) : Calls Try.prog 16 #[.int .i64 log] w (Same (.int .i64 (Tb.size (Tb.grp log))) w) := by
  have G := Lib.hid (fun w => groups_any log w)
  have hn := Tb.grp_le log
  generalize Tb.grp log = n at *
  rcases Nat.eq_zero_or_pos n with a | a
  · subst a
    go_enter Try.func16, Try.ntmps16
    go_wp2_with fail
    with_reducible refine (G.out _).mono ?_
    rintro e w1 ⟨rfl, rfl⟩
    go_wp2
    go_ret
    exact ⟨rfl, rfl⟩
  · rw [Tb.size_pos a]
    have a' : ((n : Int) == 0) = false := by simp; omega
    go_enter Try.func16, Try.ntmps16
    go_wp2_with fail
    with_reducible refine (G.out _).mono ?_
    rintro e w1 ⟨rfl, rfl⟩
    go_wp2
    go_ret
    exact ⟨ret_int (by omega), rfl⟩
set_option maxHeartbeats 1000000 in
theorem limit_any (log : Int) (w : World) : Calls Try.prog 26 #[.int .i64 log] w (Same (.int .i64 (7 * (Tb.grp log : Int))) w) := by
  have G := Lib.hid (fun w => groups_any log w)
  have hn := Tb.grp_le log
  generalize Tb.grp log = n at *
  go_enter Try.func26, Try.ntmps26
  go_wp2_with fail
  with_reducible refine (G.out _).mono ?_
  rintro e w1 ⟨rfl, rfl⟩
  go_wp2
  go_ret
  exact ⟨rfl, rfl⟩
set_option maxHeartbeats 1000000 in
theorem rlimit_any (log : Int) (w : World) : Calls Try.prog 28 #[.int .i64 log] w (Same (.int .i64 (7 * (Tb.grp log : Int))) w) := by
  have G := Lib.hid (fun w => rgroups_any log w)
  have hn := Tb.grp_le log
  generalize Tb.grp log = n at *
  go_enter Try.func28, Try.ntmps28
  go_wp2_with fail
  with_reducible refine (G.out _).mono ?_
  rintro e w1 ⟨rfl, rfl⟩
  go_wp2
  go_ret
  exact ⟨rfl, rfl⟩
theorem tmod4_pos {m : Int} (h : ¬ m.tmod 4 < 0) : m.tmod 4 = m % 4 := by
  rw [Int.tmod_eq_emod] at h ⊢
  split at h <;> rename_i c
  · rw [if_pos c]; omega
  · simp at h; omega
theorem tmod4_neg {m : Int} (h : m.tmod 4 < 0) : m.tmod 4 + 4 = m % 4 := by
  rw [Int.tmod_eq_emod] at h ⊢
  split at h <;> rename_i c
  · omega
  · rw [if_neg c]; simp
set_option maxHeartbeats 1000000 in
theorem stripe_any (t : Int) (w : World) : Calls Try.prog 20 #[.int .i64 t] w (Same (.int .i64 (Tb.strp t)) w) := by
  go_enter Try.func20, Try.ntmps20
  go_wp2
  go_ret
  refine ⟨ret_int ?_, rfl⟩
  have e := u64_wrap t
  have e2 : (IntKind.u64.wrap t).tmod 4 = t % 4 := by rw [e, Int.tmod_eq_emod_of_nonneg (by omega)]; omega
  rw [e2, wrap64_small (x := t % 4) (by omega) (by omega), wrap64_small (x := 3 + t % 4) (by omega) (by omega)]
  rfl
set_option maxHeartbeats 1000000 in
theorem rstripe_any (t : Int) (w : World) : Calls Try.prog 21 #[.int .i64 t] w (Same (.int .i64 (Tb.strp t)) w) := by
  by_cases k : t.tmod 4 < 0
  · have e := tmod4_neg k
    have E := Lib.hid e; clear e
    go_enter Try.func21, Try.ntmps21
    go_wp2
    go_ret
    refine ⟨ret_int ?_, rfl⟩
    unfold Tb.strp
    have := E.out
    rw [this, wrap64_small (x := t % 4) (by omega) (by omega), wrap64_small (x := 3 + t % 4) (by omega) (by omega)]
  · have e := tmod4_pos k
    have E := Lib.hid e; clear e
    go_enter Try.func21, Try.ntmps21
    go_wp2
    go_ret
    refine ⟨ret_int ?_, rfl⟩
    unfold Tb.strp
    have := E.out
    rw [this, wrap64_small (x := 3 + t % 4) (by omega) (by omega)]
end Go.Proofs.Ytdbolhalgbiggaa
