/-
  The names of the kinds, as the program's text lays them; the walk of kindOf. By an AI agent.
-/
import Derived.Test.YthgabbkpjffdnaaDoorActFields
import Derived.Lib.LaidTab
set_option linter.unusedSimpArgs false
set_option linter.unusedVariables false
namespace Go.Proofs.YthgabbkpjffdnaaDoor
open Go.RowKit
/-- The names, as cells. -/
def nms : Array Value := #[.string ⟨#[110, 111, 110, 101]⟩, .string ⟨#[108, 111, 97, 100]⟩, .string ⟨#[115, 116, 111, 114, 101]⟩, .string ⟨#[99, 97, 115]⟩, .string ⟨#[97, 100, 100]⟩, .string ⟨#[97, 108, 108, 111, 99]⟩, .string ⟨#[102, 114, 101, 101]⟩]
/-- The variable holds the names. -/
def Nm (w : World) : Prop := w.var? Tryd.prog "sprocket/act.names" = some nms
theorem gNm : Tryd.prog.globalNamed "sprocket/act.names" = some 0 := by kernel_rfl
theorem Nm.below {w w' : World} (h : Nm w) (hb : Below w.heap.size w w') : Nm w' := by
  unfold Nm World.var? at h ⊢
  rw [gNm] at h ⊢
  simp only [Option.bind_some] at h ⊢
  have hlt : 0 < w.heap.size := by
    rcases Nat.lt_or_ge 0 w.heap.size with h' | h'
    · exact h'
    · rw [Array.getElem?_eq_none h'] at h; cases h
  rw [hb.block 0 hlt]
  exact h
theorem Nm.lt {w : World} (h : Nm w) : 0 < w.heap.size := by
  unfold Nm World.var? at h
  rw [gNm] at h
  simp only [Option.bind_some] at h
  rcases Nat.lt_or_ge 0 w.heap.size with h' | h'
  · exact h'
  · rw [Array.getElem?_eq_none h'] at h; cases h
theorem Nm.cell {w : World} (h : Nm w) {i : Nat} (hi : i < 7) : w.cell? ⟨0, i, none⟩ = nms[i]? := by
  unfold Nm World.var? at h
  rw [gNm] at h
  simp only [Option.bind_some] at h
  unfold World.cell?
  split at h
  · rename_i e; simp only [e]; cases h; simp
  · cases h
theorem Nm.cells {w : World} (h : Nm w) : w.cell? ⟨0, 0, none⟩ = some (.string ⟨#[110, 111, 110, 101]⟩) ∧ w.cell? ⟨0, 1, none⟩ = some (.string ⟨#[108, 111, 97, 100]⟩) ∧ w.cell? ⟨0, 2, none⟩ = some (.string ⟨#[115, 116, 111, 114, 101]⟩) ∧ w.cell? ⟨0, 3, none⟩ = some (.string ⟨#[99, 97, 115]⟩) ∧ w.cell? ⟨0, 4, none⟩ = some (.string ⟨#[97, 100, 100]⟩) ∧ w.cell? ⟨0, 5, none⟩ = some (.string ⟨#[97, 108, 108, 111, 99]⟩) ∧ w.cell? ⟨0, 6, none⟩ = some (.string ⟨#[102, 114, 101, 101]⟩) :=
  ⟨(h.cell (i := 0) (by omega)).trans rfl, (h.cell (i := 1) (by omega)).trans rfl, (h.cell (i := 2) (by omega)).trans rfl, (h.cell (i := 3) (by omega)).trans rfl, (h.cell (i := 4) (by omega)).trans rfl, (h.cell (i := 5) (by omega)).trans rfl, (h.cell (i := 6) (by omega)).trans rfl⟩
theorem nx0 : ∀ w : World, (Instr.index 89 (.agg nms) (.int .i64 0)).run Tryd.prog w = .ok (.string ⟨#[110, 111, 110, 101]⟩) w := fun _ => by kernel_rfl
theorem nx1 : ∀ w : World, (Instr.index 89 (.agg nms) (.int .i64 1)).run Tryd.prog w = .ok (.string ⟨#[108, 111, 97, 100]⟩) w := fun _ => by kernel_rfl
theorem nx2 : ∀ w : World, (Instr.index 89 (.agg nms) (.int .i64 2)).run Tryd.prog w = .ok (.string ⟨#[115, 116, 111, 114, 101]⟩) w := fun _ => by kernel_rfl
theorem nx3 : ∀ w : World, (Instr.index 89 (.agg nms) (.int .i64 3)).run Tryd.prog w = .ok (.string ⟨#[99, 97, 115]⟩) w := fun _ => by kernel_rfl
theorem nx4 : ∀ w : World, (Instr.index 89 (.agg nms) (.int .i64 4)).run Tryd.prog w = .ok (.string ⟨#[97, 100, 100]⟩) w := fun _ => by kernel_rfl
theorem nx5 : ∀ w : World, (Instr.index 89 (.agg nms) (.int .i64 5)).run Tryd.prog w = .ok (.string ⟨#[97, 108, 108, 111, 99]⟩) w := fun _ => by kernel_rfl
theorem nx6 : ∀ w : World, (Instr.index 89 (.agg nms) (.int .i64 6)).run Tryd.prog w = .ok (.string ⟨#[102, 114, 101, 101]⟩) w := fun _ => by kernel_rfl
set_option maxRecDepth 100000 in
set_option maxHeartbeats 4000000 in
theorem kind_0 (w : World) (h : Nm w) : Calls Tryd.prog 42 #[.string ⟨#[110, 111, 110, 101]⟩] w (Same (.tuple #[.int .i64 0, .bool true]) w) := by
  obtain ⟨n0, n1, n2, n3, n4, n5, n6⟩ := h.cells
  clear h
  go_enter Tryd.func42, Tryd.ntmps42
  go_wp2
  refine wp_loop_rounds 8 ?_
  rw [rounds_succ]
  have I := nx0
  unfold nms at I
  go_wp2
  clear I
  go_ret2
  exact ⟨rfl, rfl⟩
set_option maxRecDepth 100000 in
set_option maxHeartbeats 4000000 in
theorem kind_1 (w : World) (h : Nm w) : Calls Tryd.prog 42 #[.string ⟨#[108, 111, 97, 100]⟩] w (Same (.tuple #[.int .i64 1, .bool true]) w) := by
  obtain ⟨n0, n1, n2, n3, n4, n5, n6⟩ := h.cells
  clear h
  go_enter Tryd.func42, Tryd.ntmps42
  go_wp2
  refine wp_loop_rounds 8 ?_
  rw [rounds_succ]
  have I := nx0
  unfold nms at I
  go_wp2
  clear I
  rw [rounds_succ]
  have I := nx1
  unfold nms at I
  go_wp2
  clear I
  go_ret2
  exact ⟨rfl, rfl⟩
set_option maxRecDepth 100000 in
set_option maxHeartbeats 4000000 in
theorem kind_2 (w : World) (h : Nm w) : Calls Tryd.prog 42 #[.string ⟨#[115, 116, 111, 114, 101]⟩] w (Same (.tuple #[.int .i64 2, .bool true]) w) := by
  obtain ⟨n0, n1, n2, n3, n4, n5, n6⟩ := h.cells
  clear h
  go_enter Tryd.func42, Tryd.ntmps42
  go_wp2
  refine wp_loop_rounds 8 ?_
  rw [rounds_succ]
  have I := nx0
  unfold nms at I
  go_wp2
  clear I
  rw [rounds_succ]
  have I := nx1
  unfold nms at I
  go_wp2
  clear I
  rw [rounds_succ]
  have I := nx2
  unfold nms at I
  go_wp2
  clear I
  go_ret2
  exact ⟨rfl, rfl⟩
set_option maxRecDepth 100000 in
set_option maxHeartbeats 4000000 in
theorem kind_3 (w : World) (h : Nm w) : Calls Tryd.prog 42 #[.string ⟨#[99, 97, 115]⟩] w (Same (.tuple #[.int .i64 3, .bool true]) w) := by
  obtain ⟨n0, n1, n2, n3, n4, n5, n6⟩ := h.cells
  clear h
  go_enter Tryd.func42, Tryd.ntmps42
  go_wp2
  refine wp_loop_rounds 8 ?_
  rw [rounds_succ]
  have I := nx0
  unfold nms at I
  go_wp2
  clear I
  rw [rounds_succ]
  have I := nx1
  unfold nms at I
  go_wp2
  clear I
  rw [rounds_succ]
  have I := nx2
  unfold nms at I
  go_wp2
  clear I
  rw [rounds_succ]
  have I := nx3
  unfold nms at I
  go_wp2
  clear I
  go_ret2
  exact ⟨rfl, rfl⟩
set_option maxRecDepth 100000 in
set_option maxHeartbeats 4000000 in
theorem kind_4 (w : World) (h : Nm w) : Calls Tryd.prog 42 #[.string ⟨#[97, 100, 100]⟩] w (Same (.tuple #[.int .i64 4, .bool true]) w) := by
  obtain ⟨n0, n1, n2, n3, n4, n5, n6⟩ := h.cells
  clear h
  go_enter Tryd.func42, Tryd.ntmps42
  go_wp2
  refine wp_loop_rounds 8 ?_
  rw [rounds_succ]
  have I := nx0
  unfold nms at I
  go_wp2
  clear I
  rw [rounds_succ]
  have I := nx1
  unfold nms at I
  go_wp2
  clear I
  rw [rounds_succ]
  have I := nx2
  unfold nms at I
  go_wp2
  clear I
  rw [rounds_succ]
  have I := nx3
  unfold nms at I
  go_wp2
  clear I
  rw [rounds_succ]
  have I := nx4
  unfold nms at I
  go_wp2
  clear I
  go_ret2
  exact ⟨rfl, rfl⟩
set_option maxRecDepth 100000 in
set_option maxHeartbeats 4000000 in
theorem kind_5 (w : World) (h : Nm w) : Calls Tryd.prog 42 #[.string ⟨#[97, 108, 108, 111, 99]⟩] w (Same (.tuple #[.int .i64 5, .bool true]) w) := by
  obtain ⟨n0, n1, n2, n3, n4, n5, n6⟩ := h.cells
  clear h
  go_enter Tryd.func42, Tryd.ntmps42
  go_wp2
  refine wp_loop_rounds 8 ?_
  rw [rounds_succ]
  have I := nx0
  unfold nms at I
  go_wp2
  clear I
  rw [rounds_succ]
  have I := nx1
  unfold nms at I
  go_wp2
  clear I
  rw [rounds_succ]
  have I := nx2
  unfold nms at I
  go_wp2
  clear I
  rw [rounds_succ]
  have I := nx3
  unfold nms at I
  go_wp2
  clear I
  rw [rounds_succ]
  have I := nx4
  unfold nms at I
  go_wp2
  clear I
  rw [rounds_succ]
  have I := nx5
  unfold nms at I
  go_wp2
  clear I
  go_ret2
  exact ⟨rfl, rfl⟩
set_option maxRecDepth 100000 in
set_option maxHeartbeats 4000000 in
theorem kind_6 (w : World) (h : Nm w) : Calls Tryd.prog 42 #[.string ⟨#[102, 114, 101, 101]⟩] w (Same (.tuple #[.int .i64 6, .bool true]) w) := by
  obtain ⟨n0, n1, n2, n3, n4, n5, n6⟩ := h.cells
  clear h
  go_enter Tryd.func42, Tryd.ntmps42
  go_wp2
  refine wp_loop_rounds 8 ?_
  rw [rounds_succ]
  have I := nx0
  unfold nms at I
  go_wp2
  clear I
  rw [rounds_succ]
  have I := nx1
  unfold nms at I
  go_wp2
  clear I
  rw [rounds_succ]
  have I := nx2
  unfold nms at I
  go_wp2
  clear I
  rw [rounds_succ]
  have I := nx3
  unfold nms at I
  go_wp2
  clear I
  rw [rounds_succ]
  have I := nx4
  unfold nms at I
  go_wp2
  clear I
  rw [rounds_succ]
  have I := nx5
  unfold nms at I
  go_wp2
  clear I
  rw [rounds_succ]
  have I := nx6
  unfold nms at I
  go_wp2
  clear I
  go_ret2
  exact ⟨rfl, rfl⟩
set_option maxRecDepth 100000 in
set_option maxHeartbeats 4000000 in
theorem kind_no (s : ByteArray) (h0 : (s.toList == [110, 111, 110, 101]) = false) (h1 : (s.toList == [108, 111, 97, 100]) = false) (h2 : (s.toList == [115, 116, 111, 114, 101]) = false) (h3 : (s.toList == [99, 97, 115]) = false) (h4 : (s.toList == [97, 100, 100]) = false) (h5 : (s.toList == [97, 108, 108, 111, 99]) = false) (h6 : (s.toList == [102, 114, 101, 101]) = false) (w : World) (h : Nm w) : Calls Tryd.prog 42 #[.string s] w (Same (.tuple #[.int .i64 0, .bool false]) w) := by
  obtain ⟨n0, n1, n2, n3, n4, n5, n6⟩ := h.cells
  clear h
  go_enter Tryd.func42, Tryd.ntmps42
  go_wp2
  refine wp_loop_rounds 8 ?_
  rw [rounds_succ]
  have I := nx0
  unfold nms at I
  go_wp2
  clear I
  rw [rounds_succ]
  have I := nx1
  unfold nms at I
  go_wp2
  clear I
  rw [rounds_succ]
  have I := nx2
  unfold nms at I
  go_wp2
  clear I
  rw [rounds_succ]
  have I := nx3
  unfold nms at I
  go_wp2
  clear I
  rw [rounds_succ]
  have I := nx4
  unfold nms at I
  go_wp2
  clear I
  rw [rounds_succ]
  have I := nx5
  unfold nms at I
  go_wp2
  clear I
  rw [rounds_succ]
  have I := nx6
  unfold nms at I
  go_wp2
  clear I
  rw [rounds_succ]
  go_wp2
  go_ret2
  exact ⟨rfl, rfl⟩
end Go.Proofs.YthgabbkpjffdnaaDoor
