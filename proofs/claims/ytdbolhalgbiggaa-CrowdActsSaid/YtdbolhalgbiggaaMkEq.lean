/-
  Two acts, compared; a maker as a block. By an AI agent.
-/
import Derived.Test.YtdbolhalgbiggaaActFields
import Derived.BigQuiet
set_option linter.unusedSimpArgs false
set_option linter.unusedVariables false
namespace Go.Proofs.Ytdbolhalgbiggaa
open Go.RowKit
open Ac (A)
/-- Are two acts one? -/
def eqB (a0 a1 a2 a3 a4 b0 b1 b2 b3 b4 : Int) : Bool := a0 == b0 && (a1 == b1 && (a2 == b2 && (a3 == b3 && a4 == b4)))
set_option maxRecDepth 100000 in
theorem flds : (Try.prog.fieldsOf 30).toList.map (fun f => (f.name, f.type, f.offset)) = [("Kind", 3, 0), ("Block", 22, 1), ("Cell", 3, 2), ("Old", 22, 3), ("New", 22, 4)] := by kernel_rfl
set_option maxRecDepth 100000 in
set_option maxHeartbeats 1000000 in
theorem eq_act (a0 a1 a2 a3 a4 b0 b1 b2 b3 b4 : Int) : ∀ w : World, (binOp .eql 30 (.agg #[.int .i64 a0, .int .u64 a1, .int .i64 a2, .int .u64 a3, .int .u64 a4]) (.agg #[.int .i64 b0, .int .u64 b1, .int .i64 b2, .int .u64 b3, .int .u64 b4])).run Try.prog w = .ok (.bool (eqB a0 a1 a2 a3 a4 b0 b1 b2 b3 b4)) w := fun w => by
  rw [run_eql_struct, run_equalIn_agg _ _ _ _ _ (by kernel_rfl) (by kernel_rfl)]
  rcases hf : (Try.prog.fieldsOf 30).toList with _ | ⟨f0, _ | ⟨f1, _ | ⟨f2, _ | ⟨f3, _ | ⟨f4, _ | ⟨f5, r⟩⟩⟩⟩⟩⟩
  all_goals (have hfl := flds; rw [hf] at hfl; simp at hfl)
  obtain ⟨⟨n0, t0, o0⟩, ⟨n1, t1, o1⟩, ⟨n2, t2, o2⟩, ⟨n3, t3, o3⟩, n4, t4, o4⟩ := hfl
  simp only [Op.eqFields, n0, t0, o0, n1, t1, o1, n2, t2, o2, n3, t3, o3, n4, t4, o4]
  unfold eqB
  by_cases h0 : a0 = b0 <;> by_cases h1 : a1 = b1 <;> by_cases h2 : a2 = b2 <;> by_cases h3 : a3 = b3 <;> by_cases h4 : a4 = b4 <;>
    simp [go_sem, Try.underlying3, Try.underlying22, Try.isAgg3, Try.isAgg22, h0, h1, h2, h3, h4]
theorem ne_act (a0 a1 a2 a3 a4 b0 b1 b2 b3 b4 : Int) : ∀ w : World, (binOp .neq 30 (.agg #[.int .i64 a0, .int .u64 a1, .int .i64 a2, .int .u64 a3, .int .u64 a4]) (.agg #[.int .i64 b0, .int .u64 b1, .int .i64 b2, .int .u64 b3, .int .u64 b4])).run Try.prog w = .ok (.bool (!eqB a0 a1 a2 a3 a4 b0 b1 b2 b3 b4)) w := fun w => by
  have h := eq_act a0 a1 a2 a3 a4 b0 b1 b2 b3 b4 w
  rw [run_eql_struct] at h
  rw [run_neq_struct]
  revert h
  cases (Op.equalIn 10000 30 (.agg #[.int .i64 a0, .int .u64 a1, .int .i64 a2, .int .u64 a3, .int .u64 a4]) (.agg #[.int .i64 b0, .int .u64 b1, .int .i64 b2, .int .u64 b3, .int .u64 b4])).run Try.prog w with
  | ok v w' => cases v <;> simp_all [Result.andThen]
  | _ => simp [Result.andThen]
section
variable {w w' : World} {q n c b : Nat} {f x : A} {ad : Option Addr}
end
/-- Is an act none? -/
def isz (x : A) : Bool := eqB x.k x.b x.c x.o x.n 0 0 0 0 0
end Go.Proofs.Ytdbolhalgbiggaa
