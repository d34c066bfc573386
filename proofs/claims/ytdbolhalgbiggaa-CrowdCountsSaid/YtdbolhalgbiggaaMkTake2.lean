/-
  The walks of Take, way by way: the block, or none; the next word, or the end. By an AI agent. (gen_take.py)
-/
import Derived.Test.YtdbolhalgbiggaaMkTake
set_option linter.unusedSimpArgs false
set_option linter.unusedVariables false
namespace Go.Proofs.Ytdbolhalgbiggaa
open Go.RowKit Go.Maps
open Ac (A)
/-- What was told lies in a box. -/
theorem mbox (w : World) (x : A) : (boxed w x).cell? ⟨w.heap.size, 0, none⟩ = some (.int .i64 x.k) ∧ (boxed w x).cell? ⟨w.heap.size, 1, none⟩ = some (.int .u64 (x.b : Int)) ∧ (boxed w x).cell? ⟨w.heap.size, 2, none⟩ = some (.int .i64 x.c) ∧ (boxed w x).cell? ⟨w.heap.size, 3, none⟩ = some (.int .u64 (x.o : Int)) ∧ (boxed w x).cell? ⟨w.heap.size, 4, none⟩ = some (.int .u64 (x.n : Int)) := boxed_cells (Below.refl _ _)
theorem eqB_self (a0 a1 a2 a3 a4 : Int) : eqB a0 a1 a2 a3 a4 a0 a1 a2 a3 a4 = true := by simp [eqB]
theorem eqB_kind {a0 a1 a2 a3 a4 b0 b1 b2 b3 b4 : Int} (h : a0 ≠ b0) : eqB a0 a1 a2 a3 a4 b0 b1 b2 b3 b4 = false := by simp [eqB, h]
theorem Chg.drew {q : Nat} {w w' : World} (h : Chg q w w') : Chg q w w'.drew := h.trans (Tn.of_below (Below.refl _ w').drew)
end Go.Proofs.Ytdbolhalgbiggaa
