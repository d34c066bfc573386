/-
  What the arguments hold: lists of pairs, lists of steps, a pair. By an AI agent.
-/
import Derived.Test.YtclkpfjihdcnfaaDictOrder
import Derived.Deep.SlicePairs
import Derived.Deep.Strs
import Derived.Lib.SmallJoins
import Derived.OpenShut
namespace Go.Proofs.Ytclkpfjihdcnfaa
open Go.RowKit
open Dc (Pr)
section
variable {H : Type} {enc : TypeId × Value → H} {W : World} {base : Nat} {spare : Nat → Bool} {held : Bool}
theorem fields_pair : ∃ f0 f1 : Field, Try.prog.underlying 40 = some (.struct #[f0, f1]) ∧ f0.offset = 0 ∧ f1.offset = 1 ∧ f0.type = 9 ∧ f1.type = 9 := ⟨_, _, Try.underlying40, rfl, rfl, rfl, rfl⟩
theorem fields_step : ∃ f0 f1 f2 : Field, Try.prog.underlying 28 = some (.struct #[f0, f1, f2]) ∧ f0.offset = 0 ∧ f1.offset = 1 ∧ f2.offset = 2 ∧ f0.type = 3 ∧ f1.type = 9 ∧ f2.type = 9 := ⟨_, _, _, Try.underlying28, rfl, rfl, rfl, rfl, rfl, rfl⟩
theorem cells_str : Try.prog.cellsOf 9 = 1 := by kernel_rfl
theorem cells_int : Try.prog.cellsOf 3 = 1 := by kernel_rfl
theorem cells_pair : Try.prog.cellsOf 40 = 2 := by kernel_rfl
theorem cells_step : Try.prog.cellsOf 28 = 3 := by kernel_rfl
/-- The text that a value is. -/
def strOf : Value → ByteArray
  | .string s => s
  | _ => ⟨#[]⟩
theorem addr_plain {w : World} {a : Addr} {v : Value} (h : w.cell? (a.add 0) = some v) : ∃ b off, a = ⟨b, off, none⟩ := by
  obtain ⟨b, off, spot⟩ := a
  have hspot : spot = none := by simpa [Addr.add] using World.cell?_spot h
  subst hspot
  exact ⟨b, off, rfl⟩
theorem pairs_open {A : Option Addr} {len cap fuel : Nat} {x : DataW H × List MemPlace} (hf : DataW.trod enc Try.prog W base spare held fuel 26 [.slice A len cap] = some x) :
    len ≤ maxLen ∧ ∃ ps : List Pr, ps.length = len ∧ Prs W A ps := by
  obtain ⟨f0, f1, hs, o0, o1, t0, t1⟩ := fields_pair
  rcases Deep.open_slice_pairs Try.underlying26 hs cells_pair o0 o1 (by rw [t0]; exact cells_str) (by rw [t1]; exact cells_str) hf with ⟨hcs, _⟩ | ⟨a, len', cap', m, n, V0, V1, D0, D1, P0, P1, hcs, hb, hl, hm, hmm, -, hall⟩
  · simp at hcs
    obtain ⟨rfl, rfl, rfl⟩ := hcs
    exact ⟨by unfold maxLen; omega, [], rfl, .inl rfl⟩
  · simp at hcs
    obtain ⟨rfl, rfl, rfl⟩ := hcs
    have hlm : len ≤ m := by rw [hmm]; split <;> omega
    refine ⟨by omega, (List.range len).map fun i => (strOf (V0 i), strOf (V1 i)), by simp, ?_⟩
    by_cases h0 : len = 0
    · subst h0; exact .inl rfl
    · obtain ⟨b, off, rfl⟩ := addr_plain (by simpa using (hall 0 (by omega)).1)
      refine .inr ⟨b, off, rfl, ?_, fun j hj => ?_⟩
      · exact World.block_lt_of_cell? W _ (by simpa [Addr.add] using (hall 0 (by omega)).1)
      · have hj' : j < len := by simpa using hj
        obtain ⟨c0, c1, r0, r1⟩ := hall j (by omega)
        rw [t0] at r0
        rw [t1] at r1
        obtain ⟨s0, e0, -⟩ := DataW.trod_string Try.underlying9 r0
        obtain ⟨s1, e1, -⟩ := DataW.trod_string Try.underlying9 r1
        simp only [List.cons.injEq, and_true] at e0 e1
        rw [lit_add, e0] at c0
        rw [lit_add, e1] at c1
        simp [e0, e1, strOf, c0]
        rw [Nat.add_assoc]; exact c1
theorem steps_open {A : Option Addr} {len cap fuel : Nat} {x : DataW H × List MemPlace} (hf : DataW.trod enc Try.prog W base spare held fuel 22 [.slice A len cap] = some x) :
    len ≤ maxLen ∧ ∃ ss : List Stp, ss.length = len ∧ Steps W A ss := by
  obtain ⟨f0, f1, f2, hs, o0, o1, o2, t0, t1, t2⟩ := fields_step
  rcases Deep.open_slice Try.underlying22 hf with ⟨hcs, _⟩ | ⟨a, len', cap', m, n, D, Pl, hcs, hb, hl, hm, hmm, -, hall⟩
  · simp at hcs
    obtain ⟨rfl, rfl, rfl⟩ := hcs
    exact ⟨by unfold maxLen; omega, [], rfl, .inl rfl⟩
  · simp at hcs
    obtain ⟨rfl, rfl, rfl⟩ := hcs
    have hlm : len ≤ m := by rw [hmm]; split <;> omega
    have each : ∀ i, i < len → ∃ q : Stp, W.cell? (a.add (i * 3)) = some (.int .i64 q.1) ∧ W.cell? (a.add (i * 3 + 1)) = some (.string q.2.1) ∧ W.cell? (a.add (i * 3 + 2)) = some (.string q.2.2) := by
      intro i hi
      obtain ⟨cs', h1, h2⟩ := hall i (by omega)
      rw [cells_step] at h1
      obtain ⟨_, hlen, hcell⟩ := World.cells?_some h1
      obtain ⟨y0, y1, y2, k, -, -, g0, g1, g2⟩ := Deep.trod_struct3 hs h2
      match cs', hlen with
      | [v0, v1, v2], _ =>
        rw [o0, t0, cells_int] at g0
        rw [o1, t1, cells_str] at g1
        rw [o2, t2, cells_str] at g2
        obtain ⟨z, e0, -⟩ := DataW.trod_int Try.underlying3 g0
        obtain ⟨s1, e1, -⟩ := DataW.trod_string Try.underlying9 g1
        obtain ⟨s2, e2, -⟩ := DataW.trod_string Try.underlying9 g2
        simp at e0 e1 e2
        have q0 := hcell 0 (by omega)
        have q1 := hcell 1 (by omega)
        have q2 := hcell 2 (by omega)
        rw [Deep.add_add] at q0 q1 q2
        exact ⟨(z, s1, s2), by simpa [e0] using q0, by simpa [e1] using q1, by simpa [e2] using q2⟩
    obtain ⟨q, hq⟩ := Deep.choose_lt each
    refine ⟨by omega, (List.range len).map q, by simp, ?_⟩
    by_cases h0 : len = 0
    · subst h0; exact .inl rfl
    · obtain ⟨b, off, rfl⟩ := addr_plain (by simpa using (hq 0 (by omega)).1)
      refine .inr ⟨b, off, rfl, ?_, fun j hj => ?_⟩
      · exact World.block_lt_of_cell? W _ (by simpa [Addr.add] using (hq 0 (by omega)).1)
      · have hj' : j < len := by simpa using hj
        obtain ⟨c0, c1, c2⟩ := hq j hj'
        rw [lit_add] at c0 c1 c2
        simp [c0]
        exact ⟨by rw [Nat.add_assoc]; exact c1, by rw [Nat.add_assoc]; exact c2⟩
end
end Go.Proofs.Ytclkpfjihdcnfaa
