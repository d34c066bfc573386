/-
  How CtrlKeeps' arguments are opened: a slice of pairs of numbers. By an AI agent.
-/
import Derived.Test.YtmdaekiogcecmaaCtrlKeeps
import Derived.Deep.Slices
import Derived.OpenShut
set_option linter.unusedSimpArgs false
namespace Go.Proofs.Ytmdaekiogcecmaa
open Go.RowKit
theorem cells_int : Try.prog.cellsOf 3 = 1 := by kernel_rfl
theorem cells_pair : Try.prog.cellsOf 34 = 2 := by kernel_rfl
theorem list2 : ∀ (cs : List Value), cs.length = 2 → ∃ v0 v1, cs = [v0, v1]
  | [v0, v1], _ => ⟨v0, v1, rfl⟩
/-- Pairs that came in. -/
def Prs (w : World) (A : Option Addr) (l : List (Int × Int)) : Prop := PairsAt w w.heap.size A l.length (fun j => (l.getD j default).1) (fun j => (l.getD j default).2)
section
variable {H : Type} {enc : TypeId × Value → H} {W : World} {base : Nat} {spare : Nat → Bool} {held : Bool}
theorem addr_plain {w : World} {a : Addr} {v : Value} (h : w.cell? (a.add 0) = some v) : ∃ b off, a = ⟨b, off, none⟩ := by
  obtain ⟨b, off, spot⟩ := a
  have hspot : spot = none := by simpa [Addr.add] using World.cell?_spot h
  subst hspot
  exact ⟨b, off, rfl⟩
theorem pairs_open {A : Option Addr} {len cap fuel : Nat} {x : DataW H × List MemPlace} (hf : DataW.trod enc Try.prog W base spare held fuel 33 [.slice A len cap] = some x) :
    len ≤ maxLen ∧ ∃ l : List (Int × Int), l.length = len ∧ Prs W A l := by
  rcases Deep.open_slice Try.underlying33 hf with ⟨hcs, _⟩ | ⟨a, len', cap', m, n, D, Pl, hcs, hb, hl, hm, hmm, -, hall⟩
  · simp at hcs
    obtain ⟨rfl, rfl, rfl⟩ := hcs
    exact ⟨by unfold maxLen; omega, [], rfl, .inl rfl⟩
  · simp at hcs
    obtain ⟨rfl, rfl, rfl⟩ := hcs
    have hlm : len ≤ m := by rw [hmm]; split <;> omega
    have each : ∀ i, i < len → ∃ q : Int × Int, W.cell? (a.add (i * 2)) = some (.int .i64 q.1) ∧ W.cell? (a.add (i * 2 + 1)) = some (.int .i64 q.2) := by
      intro i hi
      obtain ⟨cs', h1, h2⟩ := hall i (by omega)
      rw [cells_pair] at h1
      obtain ⟨_, hlen, hcell⟩ := World.cells?_some h1
      obtain ⟨xs, k, _, _, _, hxl, hx⟩ := DataW.trod_array Try.underlying34 h2
      obtain ⟨v0, v1, rfl⟩ := list2 cs' hlen
      have g0 := hx 0 (by omega)
      have g1 := hx 1 (by omega)
      rw [cells_int, List.getElem?_eq_getElem (by omega)] at g0 g1
      obtain ⟨z0, e0, -⟩ := DataW.trod_int Try.underlying3 g0
      obtain ⟨z1, e1, -⟩ := DataW.trod_int Try.underlying3 g1
      simp at e0 e1
      have q0 := hcell 0 (by omega)
      have q1 := hcell 1 (by omega)
      rw [Deep.add_add] at q0 q1
      exact ⟨⟨z0, z1⟩, by simpa [e0] using q0, by simpa [e1] using q1⟩
    obtain ⟨q, hq⟩ := Deep.choose_lt each
    refine ⟨by omega, (List.range len).map q, by simp, ?_⟩
    by_cases h0 : len = 0
    · subst h0; exact .inl rfl
    · obtain ⟨b, off, rfl⟩ := addr_plain (by simpa using (hq 0 (by omega)).1)
      refine .inr ⟨b, off, rfl, ?_, fun j hj => ?_⟩
      · exact World.block_lt_of_cell? W _ (by simpa [Addr.add] using (hq 0 (by omega)).1)
      · have hj' : j < len := by simpa using hj
        have e : ((List.range len).map q).getD j default = q j := by simp [List.getD_eq_getElem?_getD, hj']
        simp only [e]
        obtain ⟨c0, c1⟩ := hq j hj'
        rw [Addr.add_lit] at c0 c1
        exact ⟨c0, by rw [Nat.add_assoc]; exact c1⟩
end
theorem keeps_law (x : Int) (A : Option Addr) (cap : Nat) (l : List (Int × Int)) (w : World) (hx0 : 0 ≤ x) (hx1 : x ≤ 18446744073709551615) (hmax : l.length ≤ maxLen) (h : Prs w A l) :
    Calls Try.prog 5 #[.int .u64 x, .slice A l.length cap] w (Says true w) := by
  by_cases hl : 40 < l.length
  · exact keeps_long x A l.length cap w (by unfold maxLen at hmax; omega) hl
  · exact keeps_any x A l.length cap _ _ w hx0 hx1 (by omega) h
end Go.Proofs.Ytmdaekiogcecmaa
