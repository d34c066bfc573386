/-
  The walks of the document's Size, TableCell, BoxCell and Whose. By an AI agent.
-/
import Derived.Test.YtdmmgnicbemghaaDoorDeskParts
set_option linter.unusedSimpArgs false
set_option linter.unusedVariables false
namespace Go.Proofs.YtdmmgnicbemghaaDoor
open Go.RowKit
set_option maxRecDepth 100000 in
set_option maxHeartbeats 1000000 in
theorem drtable_any (n : Int) (w : World) : Calls Tryd.prog 23 #[.int .i64 n] w (Same (.int .i64 (Dk.tab n)) w) := by
  by_cases h0 : n < 0
  · rw [Dk.tab_out (.inl h0)]
    go_enter Tryd.func23, Tryd.ntmps23
    go_wp2
    go_ret
    exact ⟨rfl, rfl⟩
  · by_cases h1 : 63 < n
    · rw [Dk.tab_out (.inr h1)]
      go_enter Tryd.func23, Tryd.ntmps23
      go_wp2
      go_ret
      exact ⟨rfl, rfl⟩
    · rw [Dk.tab_in (by omega) (by omega)]
      go_enter Tryd.func23, Tryd.ntmps23
      go_wp2
      go_ret
      exact ⟨ret_int (by omega), rfl⟩
end Go.Proofs.YtdmmgnicbemghaaDoor
