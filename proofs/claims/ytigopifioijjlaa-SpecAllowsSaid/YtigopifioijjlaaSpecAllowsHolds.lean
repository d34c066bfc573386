/-
  What is proved: SpecAllows (promises P7.1, P7.3) returns true for every list of pairs, every operation and every list of answers. Its conditions: none. By an AI agent.
-/
import Derived.Test.YtigopifioijjlaaRows
import Derived.Test.YtigopifioijjlaaSpecOpen
import Derived.WalkKit
import Derived.ProofKit
import Derived.OpenShut
import Derived.ShutString
import Derived.ChangeOld
import Derived.Below
import Derived.WideKeyPair
namespace Go.Proofs.Ytigopifioijjlaa.specAllows
open Go.ChangeShapes Go.WideShapes Go.WideMaps Go.ChangeAt Go.RowKit
open Go.ChangeMaps (open_string shut_string)
theorem own : ownKnob Try.prog.godebug = none := by kernel_rfl
theorem laidOut : laidOutB Try.prog = true := by kernel_rfl
set_option maxRecDepth 100000 in
theorem lifted (os : Os) (started : os.Started) (H : Type) (enc : TypeId × Value → H) :
    ReturnsInHanded {} Try.checked os 4 .any (Rows.specAllowsSpec.pre6 enc Try.prog Try.f4 Rows.specAllowsRow.domain false) (Rows.specAllowsSpec.post enc Try.prog Try.f4 false true false false) := by
  refine returnsInHanded_of_change (C := Try.checked) own started (by kernel_rfl) Try.func4
    (ChangeSpec.witness6 (enc := enc) (C := Try.checked) false ⟨#[], #[.slice none 0 0, .agg #[.int .i64 0, .string ⟨#[]⟩, .string ⟨#[]⟩, .string ⟨#[]⟩], .slice none 0 0], []⟩ 8 (by kernel_rfl) (by kernel_rfl) (by kernel_rfl) (by kernel_rfl)) ?_
  intro W base args ds gs before hval0 hW _ _
  have hval : ∀ (j : Nat) t v, Try.f4.params[j]? = some t → args[j]? = some v → Value.okWide Try.prog W .any base t v := hval0
  have hW' := hW
  obtain ⟨p, q, hA0, hV, rfl, hfz, hnd⟩ := hW
  have hA : DataW.TrodAll enc Try.prog W 0 (fun _ => true) true Try.f4.params.toList args.toList ds p := hA0
  rw [Try.params4] at hA hval
  obtain ⟨v0, vs0, d0, ds0, p0, q0, hargs, rfl, rfl, h0, r0⟩ := trodAll_cons hA
  obtain ⟨v1, vs1, d1, ds1, p1, q1, rfl, rfl, rfl, h1, r1⟩ := trodAll_cons r0
  obtain ⟨v2, vs2, d2, ds2, p2, q2, rfl, rfl, rfl, h2, r2⟩ := trodAll_cons r1
  obtain ⟨rfl, rfl, rfl⟩ := trodAll_nil r2
  obtain rfl : args = #[v0, v1, v2] := by cases args; simp_all
  obtain ⟨rfl, rfl⟩ := trodVars_none hV
  obtain ⟨m_a, m_len, m_cap, rfl⟩ := okWide_slice Try.underlying24 (hval 0 24 v0 rfl rfl)
  have k0 := h0
  have lt0 : ∀ x ∈ p0, x.block < W.heap.size := by obtain ⟨m, hm⟩ := k0; exact DataW.trod_lt m _ _ _ hm
  obtain ⟨m_max, m_l, rfl, m_row⟩ : m_len ≤ maxLen ∧ ∃ l, l.length = m_len ∧ Prs W m_a l := by
    obtain ⟨fuel, hf⟩ := h0
    exact pairs_open (by simpa [Value.cells] using hf)
  have k1 := h1
  have lt1 : ∀ x ∈ p1, x.block < W.heap.size := by obtain ⟨m, hm⟩ := k1; exact DataW.trod_lt m _ _ _ hm
  obtain ⟨o_v0, o_v1, o_v2, o_v3, y0_1, y1_1, y2_1, y3_1, n_1, rfl, rfl, rfl, g0_1, g1_1, g2_1, g3_1⟩ := Joins.open_agg4 Try.underlying27 (by kernel_rfl) (by kernel_rfl) (hval 1 27 v1 rfl rfl) h1
  obtain ⟨o0, e0_1, z0_1, wo0⟩ := DataW.trod_int Try.underlying3 g0_1
  obtain ⟨o1, e1_1, -⟩ := DataW.trod_string Try.underlying9 g1_1
  obtain ⟨o2, e2_1, -⟩ := DataW.trod_string Try.underlying9 g2_1
  obtain ⟨o3, e3_1, -⟩ := DataW.trod_string Try.underlying9 g3_1
  obtain rfl : o_v0 = .int .i64 o0 := by simpa using e0_1
  obtain rfl : o_v1 = .string o1 := by simpa using e1_1
  obtain rfl : o_v2 = .string o2 := by simpa using e2_1
  obtain rfl : o_v3 = .string o3 := by simpa using e3_1
  obtain ⟨l_a, l_len, l_cap, rfl⟩ := okWide_slice Try.underlying37 (hval 2 37 v2 rfl rfl)
  have k2 := h2
  have lt2 : ∀ x ∈ p2, x.block < W.heap.size := by obtain ⟨m, hm⟩ := k2; exact DataW.trod_lt m _ _ _ hm
  obtain ⟨l_max, l_l, rfl, l_row⟩ : l_len ≤ maxLen ∧ ∃ l, l.length = l_len ∧ (Reps W l_a l ∧ (l_a = none → l_cap = 0) ∧ Good W l) := by
    obtain ⟨fuel, hf⟩ := h2
    exact reps_open (by simpa [Value.cells] using hf)
  clear hA0 hval0
  refine (allows_law _ m_l o0 o1 o2 o3 l_a l_l l_cap W ⟨m_a, m_cap, rfl, m_row⟩ wo0 l_row.1 l_row.2.1 l_row.2.2).mono fun e W' ⟨he, bel⟩ => ?_
  subst he
  exact ⟨_, rfl, _, _, _, [], _, [], hW', trodAll_mk1 (shut_bool Try.underlying4 _), (trodAll_cons_mk (Below.trod laidOut (by kernel_rfl) (of_decide_eq_true (by kernel_rfl)) k0 bel lt0) (trodAll_cons_mk (Below.trod laidOut (by kernel_rfl) (of_decide_eq_true (by kernel_rfl)) k1 bel lt1) (trodAll_cons_mk (Below.trod laidOut (by kernel_rfl) (of_decide_eq_true (by kernel_rfl)) k2 bel lt2) trodAll_mk0))), rfl, bel.frame _, fun h => by cases h⟩
theorem over : Rows.specAllowsRow.holds Try.pinned (OpenSpec.ofChange Rows.specAllowsSpec) :=
  OpenClaim.holds_of_wide 4 Try.f4 rfl rfl rfl rfl rfl rfl rfl ⟨rfl, rfl, rfl, rfl, rfl⟩ rfl rfl rfl rfl rfl (by kernel_rfl) Try.func4 (by kernel_rfl)
    (of_decide_eq_true (by kernel_rfl)) (by unfold Func.isWrapper; first | (rw [if_pos (by decide +kernel)]; kernel_rfl) | (rw [if_neg (by decide +kernel)]; exact ⟨rfl, rfl⟩))
    (fun os started H enc _ => lifted os started H enc)
end Go.Proofs.Ytigopifioijjlaa.specAllows
namespace Go.Proofs.Ytigopifioijjlaa
/-- The statement. -/
theorem specAllows_holds : Rows.SpecAllowsSaid := specAllows.over
end Go.Proofs.Ytigopifioijjlaa
