/-
  Two acts, compared; a maker as a block. By an AI agent.
-/
import Derived.Test.YtmpoaepkfjeecaaActFields
import Derived.BigQuiet
set_option linter.unusedSimpArgs false
set_option linter.unusedVariables false
namespace Go.Proofs.Ytmpoaepkfjeecaa
open Go.RowKit
open Ac (A)
/-- Are two acts one? -/
def eqB (a0 a1 a2 a3 a4 b0 b1 b2 b3 b4 : Int) : Bool := a0 == b0 && (a1 == b1 && (a2 == b2 && (a3 == b3 && a4 == b4)))
set_option maxRecDepth 100000 in
theorem flds : (Try.prog.fieldsOf 29).toList.map (fun f => (f.name, f.type, f.offset)) = [("Kind", 3, 0), ("Block", 22, 1), ("Cell", 3, 2), ("Old", 22, 3), ("New", 22, 4)] := by kernel_rfl
set_option maxRecDepth 100000 in
set_option maxHeartbeats 1000000 in
theorem eq_act (a0 a1 a2 a3 a4 b0 b1 b2 b3 b4 : Int) : ∀ w : World, (binOp .eql 29 (.agg #[.int .i64 a0, .int .u64 a1, .int .i64 a2, .int .u64 a3, .int .u64 a4]) (.agg #[.int .i64 b0, .int .u64 b1, .int .i64 b2, .int .u64 b3, .int .u64 b4])).run Try.prog w = .ok (.bool (eqB a0 a1 a2 a3 a4 b0 b1 b2 b3 b4)) w := fun w => by
  rw [run_eql_struct, run_equalIn_agg _ _ _ _ _ (by kernel_rfl) (by kernel_rfl)]
  rcases hf : (Try.prog.fieldsOf 29).toList with _ | ⟨f0, _ | ⟨f1, _ | ⟨f2, _ | ⟨f3, _ | ⟨f4, _ | ⟨f5, r⟩⟩⟩⟩⟩⟩
  all_goals (have hfl := flds; rw [hf] at hfl; simp at hfl)
  obtain ⟨⟨n0, t0, o0⟩, ⟨n1, t1, o1⟩, ⟨n2, t2, o2⟩, ⟨n3, t3, o3⟩, n4, t4, o4⟩ := hfl
  simp only [Op.eqFields, n0, t0, o0, n1, t1, o1, n2, t2, o2, n3, t3, o3, n4, t4, o4]
  unfold eqB
  by_cases h0 : a0 = b0 <;> by_cases h1 : a1 = b1 <;> by_cases h2 : a2 = b2 <;> by_cases h3 : a3 = b3 <;> by_cases h4 : a4 = b4 <;>
    simp [go_sem, Try.underlying3, Try.underlying22, Try.isAgg3, Try.isAgg22, h0, h1, h2, h3, h4]
theorem ne_act (a0 a1 a2 a3 a4 b0 b1 b2 b3 b4 : Int) : ∀ w : World, (binOp .neq 29 (.agg #[.int .i64 a0, .int .u64 a1, .int .i64 a2, .int .u64 a3, .int .u64 a4]) (.agg #[.int .i64 b0, .int .u64 b1, .int .i64 b2, .int .u64 b3, .int .u64 b4])).run Try.prog w = .ok (.bool (!eqB a0 a1 a2 a3 a4 b0 b1 b2 b3 b4)) w := fun w => by
  have h := eq_act a0 a1 a2 a3 a4 b0 b1 b2 b3 b4 w
  rw [run_eql_struct] at h
  rw [run_neq_struct]
  revert h
  cases (Op.equalIn 10000 29 (.agg #[.int .i64 a0, .int .u64 a1, .int .i64 a2, .int .u64 a3, .int .u64 a4]) (.agg #[.int .i64 b0, .int .u64 b1, .int .i64 b2, .int .u64 b3, .int .u64 b4])).run Try.prog w with
  | ok v w' => cases v <;> simp_all [Result.andThen]
  | _ => simp [Result.andThen]
/-- A maker as a block. -/
def Mk (w : World) (q : Nat) (f x : A) (ad : Option Addr) (n c b : Nat) : Prop := w.heap[q]? = some (.cells #[.int .i64 f.k, .int .u64 f.b, .int .i64 f.c, .int .u64 f.o, .int .u64 f.n, .int .i64 x.k, .int .u64 x.b, .int .i64 x.c, .int .u64 x.o, .int .u64 x.n, .slice ad n c, .int .u64 b] 66 (0, 0))
section
variable {w w' : World} {q n c b : Nat} {f x : A} {ad : Option Addr}
theorem Mk.lt (h : Mk w q f x ad n c b) : q < w.heap.size := (Array.getElem?_eq_some_iff.1 h).1
theorem Mk.keep (h : Mk w q f x ad n c b) (e : w'.heap[q]? = w.heap[q]?) : Mk w' q f x ad n c b := e.trans h
theorem Mk.below (h : Mk w q f x ad n c b) (hb : Below w.heap.size w w') : Mk w' q f x ad n c b := h.keep (hb.block q h.lt)
theorem Mk.fz (h : Mk w q f x ad n c b) (i : Nat) : w.frozen? ⟨q, i, none⟩ = false := by simp [World.frozen?, show w.heap[q]? = _ from h]
theorem Mk.c0 (h : Mk w q f x ad n c b) : w.cell? ⟨q, 0, none⟩ = some (.int .i64 f.k) := by simp [World.cell?, show w.heap[q]? = _ from h]
theorem Mk.c1 (h : Mk w q f x ad n c b) : w.cell? ⟨q, 1, none⟩ = some (.int .u64 (f.b : Int)) := by simp [World.cell?, show w.heap[q]? = _ from h]
theorem Mk.c2 (h : Mk w q f x ad n c b) : w.cell? ⟨q, 2, none⟩ = some (.int .i64 f.c) := by simp [World.cell?, show w.heap[q]? = _ from h]
theorem Mk.c3 (h : Mk w q f x ad n c b) : w.cell? ⟨q, 3, none⟩ = some (.int .u64 (f.o : Int)) := by simp [World.cell?, show w.heap[q]? = _ from h]
theorem Mk.c4 (h : Mk w q f x ad n c b) : w.cell? ⟨q, 4, none⟩ = some (.int .u64 (f.n : Int)) := by simp [World.cell?, show w.heap[q]? = _ from h]
theorem Mk.c5 (h : Mk w q f x ad n c b) : w.cell? ⟨q, 5, none⟩ = some (.int .i64 x.k) := by simp [World.cell?, show w.heap[q]? = _ from h]
theorem Mk.c6 (h : Mk w q f x ad n c b) : w.cell? ⟨q, 6, none⟩ = some (.int .u64 (x.b : Int)) := by simp [World.cell?, show w.heap[q]? = _ from h]
theorem Mk.c7 (h : Mk w q f x ad n c b) : w.cell? ⟨q, 7, none⟩ = some (.int .i64 x.c) := by simp [World.cell?, show w.heap[q]? = _ from h]
theorem Mk.c8 (h : Mk w q f x ad n c b) : w.cell? ⟨q, 8, none⟩ = some (.int .u64 (x.o : Int)) := by simp [World.cell?, show w.heap[q]? = _ from h]
theorem Mk.c9 (h : Mk w q f x ad n c b) : w.cell? ⟨q, 9, none⟩ = some (.int .u64 (x.n : Int)) := by simp [World.cell?, show w.heap[q]? = _ from h]
theorem Mk.c10 (h : Mk w q f x ad n c b) : w.cell? ⟨q, 10, none⟩ = some (.slice ad n c) := by simp [World.cell?, show w.heap[q]? = _ from h]
theorem Mk.c11 (h : Mk w q f x ad n c b) : w.cell? ⟨q, 11, none⟩ = some (.int .u64 (b : Int)) := by simp [World.cell?, show w.heap[q]? = _ from h]
end
/-- Is an act none? -/
def isz (x : A) : Bool := eqB x.k x.b x.c x.o x.n 0 0 0 0 0
theorem mact_nil (w : World) : Calls Try.prog 82 #[.pointer none] w (Gives (.tuple #[av ⟨0, 0, 0, 0, 0⟩, .bool false]) w) := by
  go_enter Try.func82, Try.ntmps82
  go_wp2
  exact bodyPost_ret (v := .tuple #[av ⟨0, 0, 0, 0, 0⟩, .bool false]) (by simp [results, Try.results82, go_sem]) rfl ⟨rfl, (Below.refl _ w).alloc (Nat.le_refl _) _⟩
set_option maxRecDepth 100000 in
set_option maxHeartbeats 4000000 in
theorem mact_any (w : World) (q n c b : Nat) (f x : A) (ad : Option Addr) (h : Mk w q f x ad n c b) : Calls Try.prog 82 #[.pointer (some ⟨q, 0, none⟩)] w (Gives (.tuple #[av x, .bool (!isz x)]) w) := by
  have hb : ∀ o, Below w.heap.size w (w.alloc o) := fun o => (Below.refl _ w).alloc (Nat.le_refl _) _
  have c5 := fun o => (h.below (hb o)).c5
  have c6 := fun o => (h.below (hb o)).c6
  have c7 := fun o => (h.below (hb o)).c7
  have c8 := fun o => (h.below (hb o)).c8
  have c9 := fun o => (h.below (hb o)).c9
  obtain ⟨xk, xb, xc, xo, xn⟩ := x
  unfold isz
  dsimp only at c5 c6 c7 c8 c9 ⊢
  have q1 := ne_act xk xb xc xo xn 0 0 0 0 0
  generalize (!eqB xk xb xc xo xn 0 0 0 0 0) = t at *
  have HB := Lib.hid hb; clear hb
  clear h
  go_enter Try.func82, Try.ntmps82
  go_wp2
  go_region
  all_goals go_wp2
  all_goals exact bodyPost_ret (v := .tuple #[av ⟨xk, xb, xc, xo, xn⟩, .bool t]) (by simp [results, Try.results82, go_sem]) rfl ⟨rfl, (((Below.refl _ w).alloc (Nat.le_refl _) _).drew)⟩
theorem mres_nil (w : World) : Calls Try.prog 14 #[.pointer none] w (Same (.tuple #[.int .u64 0, .bool false]) w) := by
  go_enter Try.func14, Try.ntmps14
  go_wp2
  go_ret2
  exact ⟨rfl, rfl⟩
set_option maxRecDepth 100000 in
set_option maxHeartbeats 4000000 in
/-- Result: the block's number, once no act comes any more. -/
theorem mres_any (w : World) (q n c b : Nat) (f x : A) (ad : Option Addr) (h : Mk w q f x ad n c b) : Calls Try.prog 14 #[.pointer (some ⟨q, 0, none⟩)] w (Same (if !isz f && isz x then .tuple #[.int .u64 b, .bool true] else .tuple #[.int .u64 0, .bool false]) w) := by
  have c0 := h.c0
  have c1 := h.c1
  have c2 := h.c2
  have c3 := h.c3
  have c4 := h.c4
  have c5 := h.c5
  have c6 := h.c6
  have c7 := h.c7
  have c8 := h.c8
  have c9 := h.c9
  have c11 := h.c11
  clear h
  obtain ⟨xk, xb, xc, xo, xn⟩ := x
  obtain ⟨fk, fb, fc, fo, fn⟩ := f
  unfold isz
  dsimp only at c0 c1 c2 c3 c4 c5 c6 c7 c8 c9 ⊢
  have q1 := eq_act fk fb fc fo fn 0 0 0 0 0
  have q2 := ne_act xk xb xc xo xn 0 0 0 0 0
  cases e1 : eqB fk fb fc fo fn 0 0 0 0 0 <;> cases e2 : eqB xk xb xc xo xn 0 0 0 0 0 <;> rw [e1] at q1 <;> rw [e2] at q2 <;> clear e1 e2 <;> simp only [Bool.not_true, Bool.not_false, Bool.and_true, Bool.and_false, Bool.false_and, Bool.true_and, if_true, if_false, Bool.false_eq_true] at q2 ⊢
  all_goals
    go_enter Try.func14, Try.ntmps14
    go_wp2
    go_ret2
    exact ⟨rfl, rfl⟩
end Go.Proofs.Ytmpoaepkfjeecaa
