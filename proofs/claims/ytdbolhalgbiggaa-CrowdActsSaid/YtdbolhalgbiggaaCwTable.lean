/-
  The walks of Right, the program's and the document's (out of wip/Table). By an AI agent.
-/
import Derived.Test.YtdbolhalgbiggaaTableCells
set_option linter.unusedSimpArgs false
set_option linter.unusedVariables false
namespace Go.Proofs.Ytdbolhalgbiggaa
open Go.RowKit
/-- May a table be. -/
def Tb.right (d : Int) (n : Nat) : Bool := (d != 0) && decide (0 < n)
/-- A table's box. -/
abbrev tboxed (w : World) (d l : Int) : World := w.alloc (.cells #[.int .u64 d, .int .i64 l] 24)
theorem tboxed_below (w : World) (d l : Int) : Below w.heap.size w (tboxed w d l) := (Below.refl _ _).alloc (Nat.le_refl _) _
theorem tboxed_cells {w w' : World} {d l : Int} (h : Below (tboxed w d l).heap.size (tboxed w d l) w') : w'.cell? ⟨w.heap.size, 0, none⟩ = some (.int .u64 d) ∧ w'.cell? ⟨w.heap.size, 1, none⟩ = some (.int .i64 l) := by
  have hs : w.heap.size < (tboxed w d l).heap.size := by simp
  refine ⟨?_, ?_⟩ <;> rw [h.cell hs, World.cell?_alloc_new] <;> rfl
set_option maxRecDepth 100000 in
set_option maxHeartbeats 2000000 in
/-- table.Right. -/
theorem tright_any (d l : Int) (w : World) : Calls Try.prog 39 #[.agg #[.int .u64 d, .int .i64 l]] w (Gives (.bool (Tb.right d (Tb.grp l))) w) := by
  have HB := Lib.hid (tboxed_below w d l)
  have G := Lib.hid (fun w => groups_any l w)
  unfold Tb.right
  generalize Tb.grp l = n at *
  cases hd : (d != 0) with
  | false =>
    go_enter Try.func39, Try.ntmps39
    go_wp2
    go_ret
    exact ⟨rfl, HB.out⟩
  | true =>
    go_enter Try.func39, Try.ntmps39
    go_wp2_with fail
    with_reducible refine (G.out _).mono ?_
    rintro e w1 ⟨rfl, rfl⟩
    go_wp2
    go_ret
    exact ⟨by simp, HB.out⟩
set_option maxRecDepth 100000 in
set_option maxHeartbeats 2000000 in
/-- The document's Right. -/
theorem trright_any (d l : Int) (w : World) (h0 : 0 ≤ d) : Calls Try.prog 9 #[.agg #[.int .u64 d, .int .i64 l]] w (Gives (.bool (Tb.right d (Tb.grp l))) w) := by
  have HB := Lib.hid (tboxed_below w d l)
  have G := Lib.hid (fun w => rgroups_any l w)
  unfold Tb.right
  generalize Tb.grp l = n at *
  have e : (d != 0) = decide (0 < d) := by
    rw [Bool.eq_iff_iff]; simp; omega
  rw [e]
  clear e
  by_cases a : 0 < d
  · go_enter Try.func9, Try.ntmps9
    go_wp2_with fail
    with_reducible refine (G.out _).mono ?_
    rintro e w1 ⟨rfl, rfl⟩
    go_wp2
    go_ret
    exact ⟨by simp [a], HB.out⟩
  · go_enter Try.func9, Try.ntmps9
    go_wp2
    go_ret
    exact ⟨by simp; intro h; omega, HB.out⟩
end Go.Proofs.Ytdbolhalgbiggaa
