/-
  What is proved: DriveRuns (promise P10.2) returns true for every number of cells, all lists of acts and all picks. Its conditions: none. By an AI agent.
-/
import Derived.Test.YthldjdkjgiebaaaRows
import Derived.Test.YthldjdkjgiebaaaDriveRuns
import Derived.Test.YthldjdkjgiebaaaDriveOpen
import Derived.WalkKit
import Derived.ProofKit
import Derived.OpenShut
import Derived.ShutString
import Derived.ChangeOld
import Derived.Below
import Derived.WideKeyPair
namespace Go.Proofs.Ythldjdkjgiebaaa.driveRuns
open Go.ChangeShapes Go.WideShapes Go.WideMaps Go.ChangeAt Go.RowKit
open Go.ChangeMaps (open_string shut_string)
theorem own : ownKnob Try.prog.godebug = none := by kernel_rfl
theorem laidOut : laidOutB Try.prog = true := by kernel_rfl
/-- A slice of integers that came in: nil, or a row of its capacity. -/
def IsRow (k : IntKind) (w : World) (a : Option Addr) (len cap : Nat) (zs : List Int) : Prop :=
  (a = none ∧ len = 0 ∧ cap = 0 ∧ zs = []) ∨
  ∃ x, a = some x ∧ len ≤ cap ∧ cap ≤ maxLen ∧ zs.length = cap ∧ (∀ i, i < zs.length → w.cell? (x.add i) = some (.int k (zs.getD i 0))) ∧ ∀ n ∈ zs, (Lit.int k n).wf = true
theorem row_low {A : Option Addr} {len cap : Nat} {zs : List Int} {w : World} (h : IsRow .i64 w A len cap zs) : len ≤ maxLen ∧ ∀ i, i < len → Low w w.heap.size A i (.int .i64 (zs.getD i 0)) := by
  rcases h with ⟨rfl, rfl, rfl, rfl⟩ | ⟨x, rfl, hl, hm, hz, hc, hwf⟩
  · exact ⟨by unfold maxLen; omega, fun i hi => by omega⟩
  · refine ⟨Nat.le_trans hl hm, fun i hi => ?_⟩
    obtain ⟨b, off, rfl⟩ := addr_plain (hc 0 (by omega))
    have h1 := hc i (by omega)
    rw [Addr.add_lit] at h1
    exact ⟨b, off, rfl, World.block_lt_of_cell? w _ h1, h1⟩
theorem walk (c : Int) (A : Option Addr) (cap : Nat) (l : List (Option Addr × Nat × List Ac.A)) (P : Option Addr) (plen pcap : Nat) (zs : List Int) (w : World) (hmax : l.length ≤ maxLen) (h : Acts2 w A l) (hz : IsRow .i64 w P plen pcap zs) :
    Calls Try.prog 4 #[.int .i64 c, .slice A l.length cap, .slice P plen pcap] w (Gives (.bool true) w) := by
  obtain ⟨hpm, hp⟩ := row_low hz
  by_cases hout : c < 1 ∨ 2000 < c
  · exact druns_out c A P l.length cap plen pcap w hout
  · obtain ⟨n, rfl⟩ : ∃ n : Nat, c = (n : Int) := ⟨c.toNat, by omega⟩
    have hl : ∀ i, i < l.length → Low w w.heap.size A i (.slice (l.getD i default).1 (l.getD i default).2.2.length (l.getD i default).2.1) ∧ Acts w (l.getD i default).1 (l.getD i default).2.2 := fun i hi => by
      rcases h with rfl | ⟨b, off, e, hb, hh⟩
      · simp at hi
      · exact ⟨⟨b, off, e, hb, (hh i hi).1⟩, (hh i hi).2⟩
    exact druns_any n (by omega) (by omega) A P l.length cap plen pcap (fun i => (l.getD i default).1) (fun i => (l.getD i default).2.2.length) (fun i => (l.getD i default).2.1) (fun i j => (l.getD i default).2.2.getD j default) (fun i => zs.getD i 0) w hmax hpm
      (fun i hi => (hl i hi).1) (fun i hi j hj w1 hb => ((hl i hi).2.at hj).1.below hb) (fun i hi j hj => ((hl i hi).2.at hj).2) hp
set_option maxRecDepth 100000 in
theorem lifted (os : Os) (started : os.Started) (H : Type) (enc : TypeId × Value → H) :
    ReturnsInHanded {} Try.checked os 4 .any (Rows.driveRunsSpec.pre6 enc Try.prog Try.f4 Rows.driveRunsRow.domain false) (Rows.driveRunsSpec.post enc Try.prog Try.f4 false true false false) := by
  refine returnsInHanded_of_change (C := Try.checked) own started (by kernel_rfl) Try.func4
    (ChangeSpec.witness6 (enc := enc) (C := Try.checked) false ⟨#[], #[.int .i64 0, .slice none 0 0, .slice none 0 0], []⟩ 8 (by kernel_rfl) (by kernel_rfl) (by kernel_rfl) (by kernel_rfl)) ?_
  intro W base args ds gs before hval0 hW _ _
  have hval : ∀ (j : Nat) t v, Try.f4.params[j]? = some t → args[j]? = some v → Value.okWide Try.prog W .any base t v := hval0
  have hW' := hW
  obtain ⟨p, q, hA0, hV, rfl, hfz, hnd⟩ := hW
  have hA : DataW.TrodAll enc Try.prog W 0 (fun _ => true) true Try.f4.params.toList args.toList ds p := hA0
  rw [Try.params4] at hA hval
  obtain ⟨v0, vs0, d0, ds0, p0, q0, hargs, rfl, rfl, h0, r0⟩ := trodAll_cons hA
  obtain ⟨v1, vs1, d1, ds1, p1, q1, rfl, rfl, rfl, h1, r1⟩ := trodAll_cons r0
  obtain ⟨v2, vs2, d2, ds2, p2, q2, rfl, rfl, rfl, h2, r2⟩ := trodAll_cons r1
  obtain ⟨rfl, rfl, rfl⟩ := trodAll_nil r2
  obtain rfl : args = #[v0, v1, v2] := by cases args; simp_all
  obtain ⟨rfl, rfl⟩ := trodVars_none hV
  obtain ⟨c, rfl, rfl, rfl, wc⟩ := open_int Try.underlying3 (hval 0 3 v0 rfl rfl) h0
  obtain ⟨l_a, l_len, l_cap, rfl⟩ := okWide_slice Try.underlying39 (hval 1 39 v1 rfl rfl)
  have k1 := h1
  have lt1 : ∀ x ∈ p1, x.block < W.heap.size := by obtain ⟨m, hm⟩ := k1; exact DataW.trod_lt m _ _ _ hm
  obtain ⟨l_max, l_l, rfl, l_row⟩ : l_len ≤ maxLen ∧ ∃ l, l.length = l_len ∧ Acts2 W l_a l := by
    obtain ⟨fuel, hf⟩ := h1
    exact acts2_open (by simpa [Value.cells] using hf)
  obtain ⟨p_a, p_len, p_cap, rfl⟩ := okWide_slice Try.underlying40 (hval 2 40 v2 rfl rfl)
  have k2 := h2
  have lt2 : ∀ x ∈ p2, x.block < W.heap.size := by obtain ⟨m, hm⟩ := k2; exact DataW.trod_lt m _ _ _ hm
  obtain ⟨p_z, p_row⟩ : ∃ zs, IsRow .i64 W p_a p_len p_cap zs := by
    obtain ⟨fuel, hf⟩ := h2
    rcases open_ints Try.underlying40 Try.underlying3 (by kernel_rfl) hf with ⟨hcs, _⟩ | ⟨x, l, c, zs, hcs, _, hl, hm, hz, _, hcell, hwz⟩
    · simp [Value.cells] at hcs
      obtain ⟨rfl, rfl, rfl⟩ := hcs
      exact ⟨[], .inl ⟨rfl, rfl, rfl, rfl⟩⟩
    · simp [Value.cells] at hcs
      obtain ⟨rfl, rfl, rfl⟩ := hcs
      exact ⟨zs, .inr ⟨_, rfl, hl, hm, by simpa using hz, hcell, hwz⟩⟩
  clear hA0 hval0
  refine (walk c l_a l_cap l_l p_a p_len p_cap p_z W l_max l_row p_row).mono fun e W' ⟨he, bel⟩ => ?_
  subst he
  exact ⟨_, rfl, _, _, _, [], _, [], hW', trodAll_mk1 (shut_bool Try.underlying4 _), (trodAll_cons_mk (shut_int Try.underlying3 wc) (trodAll_cons_mk (Below.trod laidOut (by kernel_rfl) (of_decide_eq_true (by kernel_rfl)) k1 bel lt1) (trodAll_cons_mk (Below.trod laidOut (by kernel_rfl) (of_decide_eq_true (by kernel_rfl)) k2 bel lt2) trodAll_mk0))), rfl, bel.frame _, fun h => by cases h⟩
theorem over : Rows.driveRunsRow.holds Try.pinned (OpenSpec.ofChange Rows.driveRunsSpec) :=
  OpenClaim.holds_of_wide 4 Try.f4 rfl rfl rfl rfl rfl rfl rfl ⟨rfl, rfl, rfl, rfl, rfl⟩ rfl rfl rfl rfl rfl (by kernel_rfl) Try.func4 (by kernel_rfl)
    (of_decide_eq_true (by kernel_rfl)) (by unfold Func.isWrapper; first | (rw [if_pos (by decide +kernel)]; kernel_rfl) | (rw [if_neg (by decide +kernel)]; exact ⟨rfl, rfl⟩))
    (fun os started H enc _ => lifted os started H enc)
end Go.Proofs.Ythldjdkjgiebaaa.driveRuns
namespace Go.Proofs.Ythldjdkjgiebaaa
/-- The statement. -/
theorem driveRuns_holds : Rows.DriveRunsSaid := driveRuns.over
end Go.Proofs.Ythldjdkjgiebaaa
