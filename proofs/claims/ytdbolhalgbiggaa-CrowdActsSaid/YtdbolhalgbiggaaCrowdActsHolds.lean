/-
  What is proved: CrowdActs (promises P21.1 and P21.2) returns true for every table, every thread and every list of answers. Its conditions: none. By an AI agent.
-/
import Derived.Test.YtdbolhalgbiggaaRows
import Derived.Test.YtdbolhalgbiggaaCwActs2
import Derived.Lib.SmallJoins
import Derived.WalkKit
import Derived.ProofKit
import Derived.OpenShut
import Derived.ShutString
import Derived.ChangeOld
import Derived.Below
import Derived.WideKeyPair
namespace Go.Proofs.Ytdbolhalgbiggaa.crowdActs
open Go.ChangeShapes Go.WideShapes Go.WideMaps Go.ChangeAt Go.RowKit
open Go.ChangeMaps (open_string shut_string)
theorem own : ownKnob Try.prog.godebug = none := by kernel_rfl
theorem laidOut : laidOutB Try.prog = true := by kernel_rfl
/-- A slice of integers that came in: nil, or a row of its capacity. -/
def IsRow (k : IntKind) (w : World) (a : Option Addr) (len cap : Nat) (zs : List Int) : Prop :=
  (a = none ∧ len = 0 ∧ cap = 0 ∧ zs = []) ∨
  ∃ x, a = some x ∧ len ≤ cap ∧ cap ≤ maxLen ∧ zs.length = cap ∧ (∀ i, i < zs.length → w.cell? (x.add i) = some (.int k (zs.getD i 0))) ∧ ∀ n ∈ zs, (Lit.int k n).wf = true
theorem row_words {A : Option Addr} {len cap : Nat} {zs : List Int} {w : World} (h : IsRow .u64 w A len cap zs) : (len ≤ cap ∧ cap ≤ maxLen ∧ (A = none → cap = 0)) ∧ ∃ gs : List Nat, gs.length = len ∧ Sl .u64 w w.heap.size A (Kr.up gs) ∧ ∀ x ∈ gs, x < 18446744073709551616 := by
  rcases h with ⟨rfl, rfl, rfl, rfl⟩ | ⟨ad, rfl, hl, hm, hz, hc, hwf⟩
  · exact ⟨⟨Nat.le_refl _, by unfold maxLen; omega, fun _ => rfl⟩, [], rfl, .inl rfl, fun x hx => by cases hx⟩
  · refine ⟨⟨hl, hm, fun e => nomatch e⟩, (zs.take len).map Int.toNat, by rw [List.length_map, List.length_take]; omega, ?_, ?_⟩
    · by_cases h0 : len = 0
      · subst h0; exact .inl rfl
      · obtain ⟨b, off, rfl, hc'⟩ := ints_at hc (by omega)
        refine .inr ⟨b, off, rfl, World.block_lt_of_cell? w _ (hc' 0 (by omega)), fun j hj => ?_⟩
        rw [Kr.up_len, List.length_map, List.length_take] at hj
        have hb := bounds_u64 (hwf (zs[j]'(by omega)) (List.getElem_mem _))
        have e : (Kr.up ((zs.take len).map Int.toNat))[j]'(by rw [Kr.up_len, List.length_map, List.length_take]; exact hj) = zs[j]'(by omega) := by
          simp only [Kr.up, List.getElem_map, List.getElem_take]
          omega
        rw [e, hc' j (by omega), List.getD_eq_getElem?_getD, List.getElem?_eq_getElem (by omega)]
        rfl
    · intro x hx
      rw [List.mem_map] at hx
      obtain ⟨y, hy, rfl⟩ := hx
      have hb := bounds_u64 (hwf y (List.mem_of_mem_take hy))
      omega
theorem walk (b l t : Int) (A : Option Addr) (len cap : Nat) (zs : List Int) (w : World) (wb : (Lit.int .u64 b).wf = true) (h : IsRow .u64 w A len cap zs) :
    Calls Try.prog 3 #[.agg #[.int .u64 b, .int .i64 l], .int .i64 t, .slice A len cap] w (Gives (.bool true) w) := by
  obtain ⟨⟨h1, h2, h3⟩, gs, hl, hsl, hw⟩ := row_words h
  have hb := bounds_u64 wb
  by_cases c1 : 20 < len
  · exact cacts_out b l t A len cap w (by omega) c1
  · obtain ⟨n, rfl⟩ : ∃ n : Nat, b = (n : Int) := ⟨b.toNat, by omega⟩
    cases hr : Tb.right (n : Int) (Tb.grp l) with
    | false => exact cacts_no n l t A len cap w (by omega) hr
    | true =>
      subst hl
      exact cacts_in n l t gs A cap w hr (by omega) h1 h2 h3 hsl
set_option maxRecDepth 100000 in
theorem lifted (os : Os) (started : os.Started) (H : Type) (enc : TypeId × Value → H) :
    ReturnsInHanded {} Try.checked os 3 .any (Rows.crowdActsSpec.pre6 enc Try.prog Try.f3 Rows.crowdActsRow.domain false) (Rows.crowdActsSpec.post enc Try.prog Try.f3 false true false false) := by
  refine returnsInHanded_of_change (C := Try.checked) own started (by kernel_rfl) Try.func3
    (ChangeSpec.witness6 (enc := enc) (C := Try.checked) false ⟨#[], #[.agg #[.int .u64 0, .int .i64 0], .int .i64 0, .slice none 0 0], []⟩ 8 (by kernel_rfl) (by kernel_rfl) (by kernel_rfl) (by kernel_rfl)) ?_
  intro W base args ds gs before hval0 hW _ _
  have hval : ∀ (j : Nat) t v, Try.f3.params[j]? = some t → args[j]? = some v → Value.okWide Try.prog W .any base t v := hval0
  have hW' := hW
  obtain ⟨p, q, hA0, hV, rfl, hfz, hnd⟩ := hW
  have hA : DataW.TrodAll enc Try.prog W 0 (fun _ => true) true Try.f3.params.toList args.toList ds p := hA0
  rw [Try.params3] at hA hval
  obtain ⟨v0, vs0, d0, ds0, p0, q0, hargs, rfl, rfl, h0, r0⟩ := trodAll_cons hA
  obtain ⟨v1, vs1, d1, ds1, p1, q1, rfl, rfl, rfl, h1, r1⟩ := trodAll_cons r0
  obtain ⟨v2, vs2, d2, ds2, p2, q2, rfl, rfl, rfl, h2, r2⟩ := trodAll_cons r1
  obtain ⟨rfl, rfl, rfl⟩ := trodAll_nil r2
  obtain rfl : args = #[v0, v1, v2] := by cases args; simp_all
  obtain ⟨rfl, rfl⟩ := trodVars_none hV
  have k0 := h0
  have lt0 : ∀ x ∈ p0, x.block < W.heap.size := by obtain ⟨m, hm⟩ := k0; exact DataW.trod_lt m _ _ _ hm
  obtain ⟨t_v0, t_v1, y0_0, y1_0, n_0, rfl, rfl, rfl, g0_0, g1_0⟩ := Joins.open_agg2 Try.underlying24 (by kernel_rfl) (by kernel_rfl) (hval 0 24 v0 rfl rfl) h0
  obtain ⟨t0, e0_0, z0_0, wt0⟩ := DataW.trod_int Try.underlying22 g0_0
  obtain ⟨t1, e1_0, z1_0, wt1⟩ := DataW.trod_int Try.underlying3 g1_0
  obtain rfl : t_v0 = .int .u64 t0 := by simpa using e0_0
  obtain rfl : t_v1 = .int .i64 t1 := by simpa using e1_0
  obtain ⟨n, rfl, rfl, rfl, wn⟩ := open_int Try.underlying3 (hval 1 3 v1 rfl rfl) h1
  obtain ⟨l_a, l_len, l_cap, rfl⟩ := okWide_slice Try.underlying25 (hval 2 25 v2 rfl rfl)
  have k2 := h2
  have lt2 : ∀ x ∈ p2, x.block < W.heap.size := by obtain ⟨m, hm⟩ := k2; exact DataW.trod_lt m _ _ _ hm
  obtain ⟨l_z, l_row⟩ : ∃ zs, IsRow .u64 W l_a l_len l_cap zs := by
    obtain ⟨fuel, hf⟩ := h2
    rcases open_ints Try.underlying25 Try.underlying22 (by kernel_rfl) hf with ⟨hcs, _⟩ | ⟨x, l, c, zs, hcs, _, hl, hm, hz, _, hcell, hwz⟩
    · simp [Value.cells] at hcs
      obtain ⟨rfl, rfl, rfl⟩ := hcs
      exact ⟨[], .inl ⟨rfl, rfl, rfl, rfl⟩⟩
    · simp [Value.cells] at hcs
      obtain ⟨rfl, rfl, rfl⟩ := hcs
      exact ⟨zs, .inr ⟨_, rfl, hl, hm, by simpa using hz, hcell, hwz⟩⟩
  clear hA0 hval0
  refine (walk t0 t1 n l_a l_len l_cap l_z W wt0 l_row).mono fun e W' ⟨he, bel⟩ => ?_
  subst he
  exact ⟨_, rfl, _, _, _, [], _, [], hW', trodAll_mk1 (shut_bool Try.underlying4 _), (trodAll_cons_mk (Below.trod laidOut (by kernel_rfl) (of_decide_eq_true (by kernel_rfl)) k0 bel lt0) (trodAll_cons_mk (shut_int Try.underlying3 wn) (trodAll_cons_mk (Below.trod laidOut (by kernel_rfl) (of_decide_eq_true (by kernel_rfl)) k2 bel lt2) trodAll_mk0))), rfl, bel.frame _, fun h => by cases h⟩
theorem over : Rows.crowdActsRow.holds Try.pinned (OpenSpec.ofChange Rows.crowdActsSpec) :=
  OpenClaim.holds_of_wide 3 Try.f3 rfl rfl rfl rfl rfl rfl rfl ⟨rfl, rfl, rfl, rfl, rfl⟩ rfl rfl rfl rfl rfl (by kernel_rfl) Try.func3 (by kernel_rfl)
    (of_decide_eq_true (by kernel_rfl)) (by unfold Func.isWrapper; first | (rw [if_pos (by decide +kernel)]; kernel_rfl) | (rw [if_neg (by decide +kernel)]; exact ⟨rfl, rfl⟩))
    (fun os started H enc _ => lifted os started H enc)
end Go.Proofs.Ytdbolhalgbiggaa.crowdActs
namespace Go.Proofs.Ytdbolhalgbiggaa
/-- The statement. -/
theorem crowdActs_holds : Rows.CrowdActsSaid := crowdActs.over
end Go.Proofs.Ytdbolhalgbiggaa
