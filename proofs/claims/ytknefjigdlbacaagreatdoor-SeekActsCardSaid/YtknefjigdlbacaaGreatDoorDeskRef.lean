/-
  The walks of the document's Size, TableCell, BoxCell and Whose. By an AI agent.
-/
import Derived.Test.YtknefjigdlbacaaGreatDoorSkKAS
set_option linter.unusedSimpArgs false
set_option linter.unusedVariables false
namespace Go.Proofs.YtknefjigdlbacaaGreatDoor
open Go.RowKit
set_option maxRecDepth 100000 in
set_option maxHeartbeats 1000000 in
theorem drbox_any (n : Int) (w : World) : Calls Tryz.prog 140 #[.int .i64 n] w (Same (.int .i64 (Dk.box n)) w) := by
  by_cases h0 : n < 0
  · rw [Dk.box_out (.inl h0)]
    go_enter Tryz.func140, Tryz.ntmps140
    go_wp2
    go_ret
    exact ⟨rfl, rfl⟩
  · by_cases h1 : 63 < n
    · rw [Dk.box_out (.inr h1)]
      go_enter Tryz.func140, Tryz.ntmps140
      go_wp2
      go_ret
      exact ⟨rfl, rfl⟩
    · rw [Dk.box_in (by omega) (by omega)]
      go_enter Tryz.func140, Tryz.ntmps140
      go_wp2
      go_ret
      exact ⟨ret_int (by omega), rfl⟩
end Go.Proofs.YtknefjigdlbacaaGreatDoor
