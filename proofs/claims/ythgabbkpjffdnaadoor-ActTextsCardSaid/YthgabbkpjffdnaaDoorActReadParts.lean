/-
  What the walk of Read carries along. By an AI agent. (gen_read.py)
-/
import Derived.Test.YthgabbkpjffdnaaDoorActTextAny
import Derived.Test.YthgabbkpjffdnaaDoorActNumber
set_option linter.unusedSimpArgs false
set_option linter.unusedVariables false
namespace Go.Proofs.YthgabbkpjffdnaaDoor
open Go.RowKit
open Ac (A)
/-- The row of the numbers. -/
def Num (u : Nat) (a0 a1 a2 a3 : Int) (w : World) : Prop := w.heap[u]? = some (.cells #[.int .u64 a0, .int .u64 a1, .int .u64 a2, .int .u64 a3] 70 (0, 0))
theorem Num.keep {u : Nat} {a0 a1 a2 a3 : Int} {w w' : World} (h : Num u a0 a1 a2 a3 w) (hb : Below w.heap.size w w') : Num u a0 a1 a2 a3 w' := by
  unfold Num
  rw [hb.block _ (Array.getElem?_eq_some_iff.1 h).1]
  exact h
theorem Num.cells {u : Nat} {a0 a1 a2 a3 : Int} {w : World} (h : Num u a0 a1 a2 a3 w) : w.cell? ⟨u, 0, none⟩ = some (.int .u64 a0) ∧ w.cell? ⟨u, 1, none⟩ = some (.int .u64 a1) ∧ w.cell? ⟨u, 2, none⟩ = some (.int .u64 a2) ∧ w.cell? ⟨u, 3, none⟩ = some (.int .u64 a3) ∧ ∀ i, w.frozen? ⟨u, i, none⟩ = false := by
  unfold Num at h
  refine ⟨?_, ?_, ?_, ?_, fun i => ?_⟩ <;> simp [World.cell?, World.frozen?, h]
theorem Num.set0 {u : Nat} {a0 a1 a2 a3 : Int} {w : World} (h : Num u a0 a1 a2 a3 w) (v : Int) : Num u v a1 a2 a3 (w.setCell ⟨u, 0, none⟩ (.int .u64 v)) := heap_setc h 0 _
theorem Num.set1 {u : Nat} {a0 a1 a2 a3 : Int} {w : World} (h : Num u a0 a1 a2 a3 w) (v : Int) : Num u a0 v a2 a3 (w.setCell ⟨u, 1, none⟩ (.int .u64 v)) := heap_setc h 1 _
theorem Num.set2 {u : Nat} {a0 a1 a2 a3 : Int} {w : World} (h : Num u a0 a1 a2 a3 w) (v : Int) : Num u a0 a1 v a3 (w.setCell ⟨u, 2, none⟩ (.int .u64 v)) := heap_setc h 2 _
theorem Num.set3 {u : Nat} {a0 a1 a2 a3 : Int} {w : World} (h : Num u a0 a1 a2 a3 w) (v : Int) : Num u a0 a1 a2 v (w.setCell ⟨u, 3, none⟩ (.int .u64 v)) := heap_setc h 3 _
/-- The result's block, as it was made. -/
def Res (p : Nat) (w : World) : Prop := w.heap[p]? = some (.cells #[.int .i64 0, .int .u64 0, .int .i64 0, .int .u64 0, .int .u64 0] 26 (0, 0))
theorem Res.lt {p : Nat} {w : World} (h : Res p w) : p < w.heap.size := (Array.getElem?_eq_some_iff.1 h).1
theorem Res.keep {p : Nat} {w w' : World} (h : Res p w) (hb : Below w.heap.size w w') : Res p w' := by
  unfold Res
  rw [hb.block _ h.lt]
  exact h
theorem Res.set {p u : Nat} {w : World} (h : Res p w) (hu : p < u) (i : Nat) (v : Value) : Res p (w.setCell ⟨u, i, none⟩ v) := by
  unfold Res
  rw [Below.heap_setCell _ _ _ _ (by simp only; omega)]
  exact h
theorem Res.cells {p : Nat} {w : World} (h : Res p w) : w.cell? ⟨p, 0, none⟩ = some (.int .i64 0) ∧ w.cell? ⟨p, 1, none⟩ = some (.int .u64 0) ∧ w.cell? ⟨p, 2, none⟩ = some (.int .i64 0) ∧ w.cell? ⟨p, 3, none⟩ = some (.int .u64 0) ∧ w.cell? ⟨p, 4, none⟩ = some (.int .u64 0) ∧ ∀ i, w.frozen? ⟨p, i, none⟩ = false := by
  unfold Res at h
  refine ⟨?_, ?_, ?_, ?_, ?_, fun i => ?_⟩ <;> simp [World.cell?, World.frozen?, h]
/-- An act stored. -/
def five (w : World) (p : Nat) (k b c o n : Int) : World := ((((w.setCell ⟨p, 0, none⟩ (.int .i64 k)).setCell ⟨p, 1, none⟩ (.int .u64 b)).setCell ⟨p, 2, none⟩ (.int .i64 c)).setCell ⟨p, 3, none⟩ (.int .u64 o)).setCell ⟨p, 4, none⟩ (.int .u64 n)
theorem five_cells {w : World} {p : Nat} (h : Res p w) (k b c o n : Int) : (five w p k b c o n).cell? ⟨p, 0, none⟩ = some (.int .i64 k) ∧ (five w p k b c o n).cell? ⟨p, 1, none⟩ = some (.int .u64 b) ∧ (five w p k b c o n).cell? ⟨p, 2, none⟩ = some (.int .i64 c) ∧ (five w p k b c o n).cell? ⟨p, 3, none⟩ = some (.int .u64 o) ∧ (five w p k b c o n).cell? ⟨p, 4, none⟩ = some (.int .u64 n) := by
  have e := heap_setc (heap_setc (heap_setc (heap_setc (heap_setc h 0 (.int .i64 k)) 1 (.int .u64 b)) 2 (.int .i64 c)) 3 (.int .u64 o)) 4 (.int .u64 n)
  unfold five
  refine ⟨?_, ?_, ?_, ?_, ?_⟩ <;> simp [World.cell?, e]
theorem five_below {w w' : World} {p B : Nat} (h : Below B w w') (hp : B ≤ p) (k b c o n : Int) : Below B w (five w' p k b c o n) :=
  ((((h.setCell (p := ⟨p, 0, none⟩) hp _).setCell (p := ⟨p, 1, none⟩) hp _).setCell (p := ⟨p, 2, none⟩) hp _).setCell (p := ⟨p, 3, none⟩) hp _).setCell (p := ⟨p, 4, none⟩) hp _
theorem res_new (w : World) : Res w.heap.size (w.alloc (.cells #[.int .i64 0, .int .u64 0, .int .i64 0, .int .u64 0, .int .u64 0] 26)) := heap_alloc_new _ _
/-- The cells of an act's box. -/
theorem box5 {w w' : World} {k b c o n : Int} (h : Below (w.alloc (.cells #[.int .i64 k, .int .u64 b, .int .i64 c, .int .u64 o, .int .u64 n] 26)).heap.size (w.alloc (.cells #[.int .i64 k, .int .u64 b, .int .i64 c, .int .u64 o, .int .u64 n] 26)) w') : w'.cell? ⟨w.heap.size, 0, none⟩ = some (.int .i64 k) ∧ w'.cell? ⟨w.heap.size, 1, none⟩ = some (.int .u64 b) ∧ w'.cell? ⟨w.heap.size, 2, none⟩ = some (.int .i64 c) ∧ w'.cell? ⟨w.heap.size, 3, none⟩ = some (.int .u64 o) ∧ w'.cell? ⟨w.heap.size, 4, none⟩ = some (.int .u64 n) := by
  have hs : w.heap.size < (w.alloc (.cells #[.int .i64 k, .int .u64 b, .int .i64 c, .int .u64 o, .int .u64 n] 26)).heap.size := by simp
  refine ⟨?_, ?_, ?_, ?_, ?_⟩ <;> rw [h.cell hs, World.cell?_alloc_new] <;> rfl
/-- A text, cut. -/
def Cuts (s t r : ByteArray) (m : Bool) : Prop := ∀ w, Calls Tryd.prog 41 #[.string s, .string ⟨#[32]⟩] w (Gives (.tuple #[.string t, .string r, .bool m]) w)
theorem Cuts.at {s t r : ByteArray} {m : Bool} (h : Cuts s t r m) (w : World) : Calls Tryd.prog 41 #[.string s, .string ⟨#[32]⟩] w (Gives (.tuple #[.string t, .string r, .bool m]) w) := h w
/-- A text, as a number of a field. -/
def Nums (f : Int) (t : ByteArray) (v : Int) (ok : Bool) : Prop := ∀ w, Calls Tryd.prog 43 #[.int .i64 f, .string t] w (Gives (.tuple #[.int .u64 v, .bool ok]) w)
theorem Nums.at {f : Int} {t : ByteArray} {v : Int} {ok : Bool} (h : Nums f t v ok) (w : World) : Calls Tryd.prog 43 #[.int .i64 f, .string t] w (Gives (.tuple #[.int .u64 v, .bool ok]) w) := h w
/-- What is read of a text. -/
def readV (k b c o n e : Int) : Value := .tuple #[.agg #[.int .i64 k, .int .u64 b, .int .i64 c, .int .u64 o, .int .u64 n], .int .i64 e]
theorem bx0 (v0 v1 v2 v3 : Value) : ∀ w : World, (Instr.index 67 (.agg #[v0, v1, v2, v3]) (.int .i64 0)).run Tryd.prog w = .ok v0 w := fun _ => by kernel_rfl
theorem bx1 (v0 v1 v2 v3 : Value) : ∀ w : World, (Instr.index 67 (.agg #[v0, v1, v2, v3]) (.int .i64 1)).run Tryd.prog w = .ok v1 w := fun _ => by kernel_rfl
theorem bx2 (v0 v1 v2 v3 : Value) : ∀ w : World, (Instr.index 67 (.agg #[v0, v1, v2, v3]) (.int .i64 2)).run Tryd.prog w = .ok v2 w := fun _ => by kernel_rfl
theorem bx3 (v0 v1 v2 v3 : Value) : ∀ w : World, (Instr.index 67 (.agg #[v0, v1, v2, v3]) (.int .i64 3)).run Tryd.prog w = .ok v3 w := fun _ => by kernel_rfl
end Go.Proofs.YthgabbkpjffdnaaDoor
