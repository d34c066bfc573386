/-
  What is proved: SpecKeeps (promise P7.4) returns true for every list of pairs and every operation. Its conditions: none. By an AI agent.
-/
import Derived.Test.YtigopifioijjlaaRows
import Derived.Test.YtigopifioijjlaaSpecOpen
import Derived.WalkKit
import Derived.ProofKit
import Derived.OpenShut
import Derived.ShutString
import Derived.ChangeOld
import Derived.Below
import Derived.WideKeyPair
namespace Go.Proofs.Ytigopifioijjlaa.specKeeps
open Go.ChangeShapes Go.WideShapes Go.WideMaps Go.ChangeAt Go.RowKit
open Go.ChangeMaps (open_string shut_string)
theorem own : ownKnob Try.prog.godebug = none := by kernel_rfl
theorem laidOut : laidOutB Try.prog = true := by kernel_rfl
set_option maxRecDepth 100000 in
theorem lifted (os : Os) (started : os.Started) (H : Type) (enc : TypeId × Value → H) :
    ReturnsInHanded {} Try.checked os 5 .any (Rows.specKeepsSpec.pre6 enc Try.prog Try.f5 Rows.specKeepsRow.domain false) (Rows.specKeepsSpec.post enc Try.prog Try.f5 false true false false) := by
  refine returnsInHanded_of_change (C := Try.checked) own started (by kernel_rfl) Try.func5
    (ChangeSpec.witness6 (enc := enc) (C := Try.checked) false ⟨#[], #[.slice none 0 0, .agg #[.int .i64 0, .string ⟨#[]⟩, .string ⟨#[]⟩, .string ⟨#[]⟩]], []⟩ 8 (by kernel_rfl) (by kernel_rfl) (by kernel_rfl) (by kernel_rfl)) ?_
  intro W base args ds gs before hval0 hW _ _
  have hval : ∀ (j : Nat) t v, Try.f5.params[j]? = some t → args[j]? = some v → Value.okWide Try.prog W .any base t v := hval0
  have hW' := hW
  obtain ⟨p, q, hA0, hV, rfl, hfz, hnd⟩ := hW
  have hA : DataW.TrodAll enc Try.prog W 0 (fun _ => true) true Try.f5.params.toList args.toList ds p := hA0
  rw [Try.params5] at hA hval
  obtain ⟨v0, vs0, d0, ds0, p0, q0, hargs, rfl, rfl, h0, r0⟩ := trodAll_cons hA
  obtain ⟨v1, vs1, d1, ds1, p1, q1, rfl, rfl, rfl, h1, r1⟩ := trodAll_cons r0
  obtain ⟨rfl, rfl, rfl⟩ := trodAll_nil r1
  obtain rfl : args = #[v0, v1] := by cases args; simp_all
  obtain ⟨rfl, rfl⟩ := trodVars_none hV
  obtain ⟨m_a, m_len, m_cap, rfl⟩ := okWide_slice Try.underlying24 (hval 0 24 v0 rfl rfl)
  have k0 := h0
  have lt0 : ∀ x ∈ p0, x.block < W.heap.size := by obtain ⟨m, hm⟩ := k0; exact DataW.trod_lt m _ _ _ hm
  obtain ⟨m_max, m_l, rfl, m_row⟩ : m_len ≤ maxLen ∧ ∃ l, l.length = m_len ∧ Prs W m_a l := by
    obtain ⟨fuel, hf⟩ := h0
    exact pairs_open (by simpa [Value.cells] using hf)
  have k1 := h1
  have lt1 : ∀ x ∈ p1, x.block < W.heap.size := by obtain ⟨m, hm⟩ := k1; exact DataW.trod_lt m _ _ _ hm
  obtain ⟨o_v0, o_v1, o_v2, o_v3, y0_1, y1_1, y2_1, y3_1, n_1, rfl, rfl, rfl, g0_1, g1_1, g2_1, g3_1⟩ := Joins.open_agg4 Try.underlying27 (by kernel_rfl) (by kernel_rfl) (hval 1 27 v1 rfl rfl) h1
  obtain ⟨o0, e0_1, z0_1, wo0⟩ := DataW.trod_int Try.underlying3 g0_1
  obtain ⟨o1, e1_1, -⟩ := DataW.trod_string Try.underlying9 g1_1
  obtain ⟨o2, e2_1, -⟩ := DataW.trod_string Try.underlying9 g2_1
  obtain ⟨o3, e3_1, -⟩ := DataW.trod_string Try.underlying9 g3_1
  obtain rfl : o_v0 = .int .i64 o0 := by simpa using e0_1
  obtain rfl : o_v1 = .string o1 := by simpa using e1_1
  obtain rfl : o_v2 = .string o2 := by simpa using e2_1
  obtain rfl : o_v3 = .string o3 := by simpa using e3_1
  clear hA0 hval0
  refine (keeps_law _ m_l o0 o1 o2 o3 W ⟨m_a, m_cap, rfl, m_row⟩).mono fun e W' ⟨he, bel⟩ => ?_
  subst he
  exact ⟨_, rfl, _, _, _, [], _, [], hW', trodAll_mk1 (shut_bool Try.underlying4 _), (trodAll_cons_mk (Below.trod laidOut (by kernel_rfl) (of_decide_eq_true (by kernel_rfl)) k0 bel lt0) (trodAll_cons_mk (Below.trod laidOut (by kernel_rfl) (of_decide_eq_true (by kernel_rfl)) k1 bel lt1) trodAll_mk0)), rfl, bel.frame _, fun h => by cases h⟩
theorem over : Rows.specKeepsRow.holds Try.pinned (OpenSpec.ofChange Rows.specKeepsSpec) :=
  OpenClaim.holds_of_wide 5 Try.f5 rfl rfl rfl rfl rfl rfl rfl ⟨rfl, rfl, rfl, rfl, rfl⟩ rfl rfl rfl rfl rfl (by kernel_rfl) Try.func5 (by kernel_rfl)
    (of_decide_eq_true (by kernel_rfl)) (by unfold Func.isWrapper; first | (rw [if_pos (by decide +kernel)]; kernel_rfl) | (rw [if_neg (by decide +kernel)]; exact ⟨rfl, rfl⟩))
    (fun os started H enc _ => lifted os started H enc)
end Go.Proofs.Ytigopifioijjlaa.specKeeps
namespace Go.Proofs.Ytigopifioijjlaa
/-- The statement. -/
theorem specKeeps_holds : Rows.SpecKeepsSaid := specKeeps.over
end Go.Proofs.Ytigopifioijjlaa
