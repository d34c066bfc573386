/-
  What is proved: MakerMakes (promise P17.2) returns true for every key, every value and every number of cells. Its conditions: none. By an AI agent.
-/
import Derived.Test.YtdhhhkjbpfhkaaaRows
import Derived.Test.YtdhhhkjbpfhkaaaMkMakes
import Derived.WalkKit
import Derived.ProofKit
import Derived.OpenShut
import Derived.ShutString
import Derived.ChangeOld
import Derived.Below
import Derived.WideKeyPair
namespace Go.Proofs.Ytdhhhkjbpfhkaaa.makerMakes
open Go.ChangeShapes Go.WideShapes Go.WideMaps Go.ChangeAt Go.RowKit
open Go.ChangeMaps (open_string shut_string)
theorem own : ownKnob Try.prog.godebug = none := by kernel_rfl
theorem laidOut : laidOutB Try.prog = true := by kernel_rfl
theorem walk (k v : ByteArray) (n : Int) (w : World) (hk : k.size ≤ maxLen) (hv : v.size ≤ maxLen) (wn : (Lit.int .u8 n).wf = true) :
    Calls Try.prog 4 #[.string k, .string v, .int .u8 n] w (Gives (.bool true) w) := by
  have hb := bounds_u8 wn
  by_cases c2 : 16 < k.size ∨ 24 < v.size
  · exact makes_out k v n w hk hv c2
  · obtain ⟨cu, rfl⟩ : ∃ cu : Nat, n = (cu : Int) := ⟨n.toNat, by omega⟩
    by_cases hn : (Kr.bx k.data.toList v.data.toList).length ≤ cu % 12 + 1
    · exact makes_some k v cu _ w (by omega) (by omega) (by omega) rfl hn
    · exact makes_none k v cu _ w (by omega) (by omega) (by omega) rfl (by omega)
set_option maxRecDepth 100000 in
theorem lifted (os : Os) (started : os.Started) (H : Type) (enc : TypeId × Value → H) :
    ReturnsInHanded {} Try.checked os 4 .any (Rows.makerMakesSpec.pre6 enc Try.prog Try.f4 Rows.makerMakesRow.domain false) (Rows.makerMakesSpec.post enc Try.prog Try.f4 false true false false) := by
  refine returnsInHanded_of_change (C := Try.checked) own started (by kernel_rfl) Try.func4
    (ChangeSpec.witness6 (enc := enc) (C := Try.checked) false ⟨#[], #[.string ⟨#[]⟩, .string ⟨#[]⟩, .int .u8 0], []⟩ 8 (by kernel_rfl) (by kernel_rfl) (by kernel_rfl) (by kernel_rfl)) ?_
  intro W base args ds gs before hval0 hW _ _
  have hval : ∀ (j : Nat) t v, Try.f4.params[j]? = some t → args[j]? = some v → Value.okWide Try.prog W .any base t v := hval0
  have hW' := hW
  obtain ⟨p, q, hA0, hV, rfl, hfz, hnd⟩ := hW
  have hA : DataW.TrodAll enc Try.prog W 0 (fun _ => true) true Try.f4.params.toList args.toList ds p := hA0
  rw [Try.params4] at hA hval
  obtain ⟨v0, vs0, d0, ds0, p0, q0, hargs, rfl, rfl, h0, r0⟩ := trodAll_cons hA
  obtain ⟨v1, vs1, d1, ds1, p1, q1, rfl, rfl, rfl, h1, r1⟩ := trodAll_cons r0
  obtain ⟨v2, vs2, d2, ds2, p2, q2, rfl, rfl, rfl, h2, r2⟩ := trodAll_cons r1
  obtain ⟨rfl, rfl, rfl⟩ := trodAll_nil r2
  obtain rfl : args = #[v0, v1, v2] := by cases args; simp_all
  obtain ⟨rfl, rfl⟩ := trodVars_none hV
  obtain ⟨k, rfl, rfl, rfl, hk⟩ := open_string Try.underlying9 (hval 0 9 v0 rfl rfl) h0
  obtain ⟨v, rfl, rfl, rfl, hv⟩ := open_string Try.underlying9 (hval 1 9 v1 rfl rfl) h1
  obtain ⟨n, rfl, rfl, rfl, wn⟩ := open_int Try.underlying5 (hval 2 5 v2 rfl rfl) h2
  clear hA0 hval0
  refine (walk k v n W hk hv wn).mono fun e W' ⟨he, bel⟩ => ?_
  subst he
  exact ⟨_, rfl, _, _, _, [], _, [], hW', trodAll_mk1 (shut_bool Try.underlying4 _), (trodAll_cons_mk (shut_string Try.underlying9 hk) (trodAll_cons_mk (shut_string Try.underlying9 hv) (trodAll_cons_mk (shut_int Try.underlying5 wn) trodAll_mk0))), rfl, bel.frame _, fun h => by cases h⟩
theorem over : Rows.makerMakesRow.holds Try.pinned (OpenSpec.ofChange Rows.makerMakesSpec) :=
  OpenClaim.holds_of_wide 4 Try.f4 rfl rfl rfl rfl rfl rfl rfl ⟨rfl, rfl, rfl, rfl, rfl⟩ rfl rfl rfl rfl rfl (by kernel_rfl) Try.func4 (by kernel_rfl)
    (of_decide_eq_true (by kernel_rfl)) (by unfold Func.isWrapper; first | (rw [if_pos (by decide +kernel)]; kernel_rfl) | (rw [if_neg (by decide +kernel)]; exact ⟨rfl, rfl⟩))
    (fun os started H enc _ => lifted os started H enc)
end Go.Proofs.Ytdhhhkjbpfhkaaa.makerMakes
namespace Go.Proofs.Ytdhhhkjbpfhkaaa
/-- The statement. -/
theorem makerMakes_holds : Rows.MakerMakesSaid := makerMakes.over
end Go.Proofs.Ytdhhhkjbpfhkaaa
