/-
  From the row's list of tables to the table that the walks read; a start at which the listed table lies as its own text lays it. By an AI agent.
-/
import Derived.Test.YtombholjbcnncaaDoorCards
import Derived.Test.YtombholjbcnncaaDoorTie
import Derived.Test.YtombholjbcnncaaDoorHexaLaws
import Derived.WalkKit
import Derived.ProofKit
import Derived.OpenShut
import Derived.Deep.DeepHandedRow
import Derived.Lib.LaidTab
import Derived.LaidSub
namespace Go.Proofs.YtombholjbcnncaaDoor
open Go.ChangeShapes Go.WideShapes Go.ChangeAt Go.RowKit
theorem own : ownKnob Tryd.prog.godebug = none := by kernel_rfl
theorem gTabType : (Tryd.prog.globals[0]?).map (·.type) = some 35 := by kernel_rfl
theorem cellsTab : Tryd.prog.cellsOf 35 = 16 := by kernel_rfl
theorem cellsU8 : Tryd.prog.cellsOf 5 = 1 := by kernel_rfl
/-- The list of the rows' tables. -/
abbrev tables : List (String × DataW Unit) := [("sprocket/hexa.digits", Rows.laid_sprocket_hexa_digits)]
theorem tables_is : tables = [("sprocket/hexa.digits", Lib.tabData .u8 digs)] := by
  rfl
/-- WHAT THE ROW's LIST GIVES: the table of the digits. -/
theorem tab_of {W : World} (h : laidMetH Tryd.prog tables W) : Tab W := by
  rw [tables_is] at h
  exact Lib.tabIs_of_head (rest := []) gTab gTabType Tryd.underlying35 Tryd.underlying5 cellsU8 cellsTab h
/-- A table's block, filled. -/
def filled (cs : Array Value) : Obj → Obj
  | .cells _ t frozen => .cells cs t frozen
  | o => o
/-- A world for the witness: the settled one, the table holding what its initialiser lays. -/
noncomputable def laidWorld (os : Os) : World :=
  { World.holding Tryd.prog os ⟨#[], #[], []⟩ with heap := (World.holding Tryd.prog os ⟨#[], #[], []⟩).heap.modify 0 (filled #[.int .u8 48, .int .u8 49, .int .u8 50, .int .u8 51, .int .u8 52, .int .u8 53, .int .u8 54, .int .u8 55, .int .u8 56, .int .u8 57, .int .u8 97, .int .u8 98, .int .u8 99, .int .u8 100, .int .u8 101, .int .u8 102]) }
end Go.Proofs.YtombholjbcnncaaDoor
