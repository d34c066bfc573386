/-
  What is proved: CrowdCounts (promise P21.3) returns true for every log and every list of threads. Its conditions: none. By an AI agent.
-/
import Derived.Test.YtdbolhalgbiggaaRows
import Derived.Test.YtdbolhalgbiggaaCwCounts
import Derived.Lib.SmallJoins
import Derived.WalkKit
import Derived.ProofKit
import Derived.OpenShut
import Derived.ShutString
import Derived.ChangeOld
import Derived.Below
import Derived.WideKeyPair
namespace Go.Proofs.Ytdbolhalgbiggaa.crowdCounts
open Go.ChangeShapes Go.WideShapes Go.WideMaps Go.ChangeAt Go.RowKit
open Go.ChangeMaps (open_string shut_string)
theorem own : ownKnob Try.prog.godebug = none := by kernel_rfl
theorem laidOut : laidOutB Try.prog = true := by kernel_rfl
/-- A slice of integers that came in: nil, or a row of its capacity. -/
def IsRow (k : IntKind) (w : World) (a : Option Addr) (len cap : Nat) (zs : List Int) : Prop :=
  (a = none ∧ len = 0 ∧ cap = 0 ∧ zs = []) ∨
  ∃ x, a = some x ∧ len ≤ cap ∧ cap ≤ maxLen ∧ zs.length = cap ∧ (∀ i, i < zs.length → w.cell? (x.add i) = some (.int k (zs.getD i 0))) ∧ ∀ n ∈ zs, (Lit.int k n).wf = true
theorem row_words {A : Option Addr} {len cap : Nat} {zs : List Int} {w : World} (h : IsRow .u8 w A len cap zs) : (len ≤ cap ∧ cap ≤ maxLen ∧ (A = none → cap = 0)) ∧ ∃ gs : List Nat, gs.length = len ∧ Sl .u8 w w.heap.size A (Kr.up gs) ∧ ∀ x ∈ gs, x < 256 := by
  rcases h with ⟨rfl, rfl, rfl, rfl⟩ | ⟨ad, rfl, hl, hm, hz, hc, hwf⟩
  · exact ⟨⟨Nat.le_refl _, by unfold maxLen; omega, fun _ => rfl⟩, [], rfl, .inl rfl, fun x hx => by cases hx⟩
  · refine ⟨⟨hl, hm, fun e => nomatch e⟩, (zs.take len).map Int.toNat, by rw [List.length_map, List.length_take]; omega, ?_, ?_⟩
    · by_cases h0 : len = 0
      · subst h0; exact .inl rfl
      · obtain ⟨b, off, rfl, hc'⟩ := ints_at hc (by omega)
        refine .inr ⟨b, off, rfl, World.block_lt_of_cell? w _ (hc' 0 (by omega)), fun j hj => ?_⟩
        rw [Kr.up_len, List.length_map, List.length_take] at hj
        have hb := bounds_u8 (hwf (zs[j]'(by omega)) (List.getElem_mem _))
        have e : (Kr.up ((zs.take len).map Int.toNat))[j]'(by rw [Kr.up_len, List.length_map, List.length_take]; exact hj) = zs[j]'(by omega) := by
          simp only [Kr.up, List.getElem_map, List.getElem_take]
          omega
        rw [e, hc' j (by omega), List.getD_eq_getElem?_getD, List.getElem?_eq_getElem (by omega)]
        rfl
    · intro x hx
      rw [List.mem_map] at hx
      obtain ⟨y, hy, rfl⟩ := hx
      have hb := bounds_u8 (hwf y (List.mem_of_mem_take hy))
      omega
theorem walk (L : Int) (A : Option Addr) (len cap : Nat) (zs : List Int) (w : World) (wL : (Lit.int .u8 L).wf = true) (h : IsRow .u8 w A len cap zs) :
    Calls Try.prog 4 #[.int .u8 L, .slice A len cap] w (Gives (.bool true) w) := by
  obtain ⟨⟨h1, h2, h3⟩, ts, hl, hsl, hw⟩ := row_words h
  have hb := bounds_u8 wL
  by_cases c1 : 80 < len
  · exact ccounts_out L A len cap w (by omega) c1
  · obtain ⟨n, rfl⟩ : ∃ n : Nat, L = (n : Int) := ⟨L.toNat, by omega⟩
    subst hl
    exact ccounts_in n (by omega) ts hw A cap w (by omega) h1 h2 hsl
set_option maxRecDepth 100000 in
theorem lifted (os : Os) (started : os.Started) (H : Type) (enc : TypeId × Value → H) :
    ReturnsInHanded {} Try.checked os 4 .any (Rows.crowdCountsSpec.pre6 enc Try.prog Try.f4 Rows.crowdCountsRow.domain false) (Rows.crowdCountsSpec.post enc Try.prog Try.f4 false true false false) := by
  refine returnsInHanded_of_change (C := Try.checked) own started (by kernel_rfl) Try.func4
    (ChangeSpec.witness6 (enc := enc) (C := Try.checked) false ⟨#[], #[.int .u8 0, .slice none 0 0], []⟩ 8 (by kernel_rfl) (by kernel_rfl) (by kernel_rfl) (by kernel_rfl)) ?_
  intro W base args ds gs before hval0 hW _ _
  have hval : ∀ (j : Nat) t v, Try.f4.params[j]? = some t → args[j]? = some v → Value.okWide Try.prog W .any base t v := hval0
  have hW' := hW
  obtain ⟨p, q, hA0, hV, rfl, hfz, hnd⟩ := hW
  have hA : DataW.TrodAll enc Try.prog W 0 (fun _ => true) true Try.f4.params.toList args.toList ds p := hA0
  rw [Try.params4] at hA hval
  obtain ⟨v0, vs0, d0, ds0, p0, q0, hargs, rfl, rfl, h0, r0⟩ := trodAll_cons hA
  obtain ⟨v1, vs1, d1, ds1, p1, q1, rfl, rfl, rfl, h1, r1⟩ := trodAll_cons r0
  obtain ⟨rfl, rfl, rfl⟩ := trodAll_nil r1
  obtain rfl : args = #[v0, v1] := by cases args; simp_all
  obtain ⟨rfl, rfl⟩ := trodVars_none hV
  obtain ⟨x, rfl, rfl, rfl, wx⟩ := open_int Try.underlying5 (hval 0 5 v0 rfl rfl) h0
  obtain ⟨l_a, l_len, l_cap, rfl⟩ := okWide_slice Try.underlying43 (hval 1 43 v1 rfl rfl)
  have k1 := h1
  have lt1 : ∀ x ∈ p1, x.block < W.heap.size := by obtain ⟨m, hm⟩ := k1; exact DataW.trod_lt m _ _ _ hm
  obtain ⟨l_z, l_row⟩ : ∃ zs, IsRow .u8 W l_a l_len l_cap zs := by
    obtain ⟨fuel, hf⟩ := h1
    rcases open_ints Try.underlying43 Try.underlying5 (by kernel_rfl) hf with ⟨hcs, _⟩ | ⟨x, l, c, zs, hcs, _, hl, hm, hz, _, hcell, hwz⟩
    · simp [Value.cells] at hcs
      obtain ⟨rfl, rfl, rfl⟩ := hcs
      exact ⟨[], .inl ⟨rfl, rfl, rfl, rfl⟩⟩
    · simp [Value.cells] at hcs
      obtain ⟨rfl, rfl, rfl⟩ := hcs
      exact ⟨zs, .inr ⟨_, rfl, hl, hm, by simpa using hz, hcell, hwz⟩⟩
  clear hA0 hval0
  refine (walk x l_a l_len l_cap l_z W wx l_row).mono fun e W' ⟨he, bel⟩ => ?_
  subst he
  exact ⟨_, rfl, _, _, _, [], _, [], hW', trodAll_mk1 (shut_bool Try.underlying4 _), (trodAll_cons_mk (shut_int Try.underlying5 wx) (trodAll_cons_mk (Below.trod laidOut (by kernel_rfl) (of_decide_eq_true (by kernel_rfl)) k1 bel lt1) trodAll_mk0)), rfl, bel.frame _, fun h => by cases h⟩
theorem over : Rows.crowdCountsRow.holds Try.pinned (OpenSpec.ofChange Rows.crowdCountsSpec) :=
  OpenClaim.holds_of_wide 4 Try.f4 rfl rfl rfl rfl rfl rfl rfl ⟨rfl, rfl, rfl, rfl, rfl⟩ rfl rfl rfl rfl rfl (by kernel_rfl) Try.func4 (by kernel_rfl)
    (of_decide_eq_true (by kernel_rfl)) (by unfold Func.isWrapper; first | (rw [if_pos (by decide +kernel)]; kernel_rfl) | (rw [if_neg (by decide +kernel)]; exact ⟨rfl, rfl⟩))
    (fun os started H enc _ => lifted os started H enc)
end Go.Proofs.Ytdbolhalgbiggaa.crowdCounts
namespace Go.Proofs.Ytdbolhalgbiggaa
/-- The statement. -/
theorem crowdCounts_holds : Rows.CrowdCountsSaid := crowdCounts.over
end Go.Proofs.Ytdbolhalgbiggaa
