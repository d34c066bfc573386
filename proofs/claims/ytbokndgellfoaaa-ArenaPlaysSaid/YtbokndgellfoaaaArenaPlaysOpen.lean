/-
  How ArenaPlays' arguments are opened: a slice of steps. By an AI agent.
-/
import Derived.Test.YtbokndgellfoaaaArenaPlay
import Derived.Deep.SlicePairs
import Derived.Lib.SmallJoins
import Derived.OpenShut
set_option linter.unusedSimpArgs false
namespace Go.Proofs.Ytbokndgellfoaaa
open Go.RowKit
instance : Inhabited Stp := ⟨⟨0, 0, 0, 0, 0⟩⟩
theorem fields_step : ∃ f0 f1 f2 f3 f4 : Field, Try.prog.underlying 47 = some (.struct #[f0, f1, f2, f3, f4]) ∧ (f0.offset = 0 ∧ f1.offset = 1 ∧ f2.offset = 2 ∧ f3.offset = 3 ∧ f4.offset = 4) ∧ f0.type = 3 ∧ f1.type = 27 ∧ f2.type = 3 ∧ f3.type = 27 ∧ f4.type = 27 := ⟨_, _, _, _, _, Try.underlying47, ⟨rfl, rfl, rfl, rfl, rfl⟩, rfl, rfl, rfl, rfl, rfl⟩
theorem cells_int : Try.prog.cellsOf 3 = 1 := by kernel_rfl
theorem cells_u64 : Try.prog.cellsOf 27 = 1 := by kernel_rfl
theorem cells_step : Try.prog.cellsOf 47 = 5 := by kernel_rfl
theorem list5 : ∀ (cs : List Value), cs.length = 5 → ∃ v0 v1 v2 v3 v4, cs = [v0, v1, v2, v3, v4]
  | [v0, v1, v2, v3, v4], _ => ⟨v0, v1, v2, v3, v4, rfl⟩
/-- Steps that came in. -/
def Stps (w : World) (A : Option Addr) (l : List Stp) : Prop := l = [] ∨ ∃ b off, A = some ⟨b, off, none⟩ ∧ b < w.heap.size ∧ ∀ j, j < l.length → StepAt A w j (l.getD j default) ∧ (l.getD j default).b < 18446744073709551616
section
variable {H : Type} {enc : TypeId × Value → H} {W : World} {base : Nat} {spare : Nat → Bool} {held : Bool}
theorem addr_plain {w : World} {a : Addr} {v : Value} (h : w.cell? (a.add 0) = some v) : ∃ b off, a = ⟨b, off, none⟩ := by
  obtain ⟨b, off, spot⟩ := a
  have hspot : spot = none := by simpa [Addr.add] using World.cell?_spot h
  subst hspot
  exact ⟨b, off, rfl⟩
theorem trod_struct5 {t : TypeId} {f0 f1 f2 f3 f4 : Field} {fuel : Nat} {cs : List Value} {x : DataW H × List MemPlace} {P : Program} {w : World} (ht : P.underlying t = some (.struct #[f0, f1, f2, f3, f4])) (h : DataW.trod enc P w base spare held fuel t cs = some x) :
    ∃ y0 y1 y2 y3 y4 n, DataW.trod enc P w base spare held n f0.type ((cs.drop f0.offset).take (P.cellsOf f0.type)) = some y0 ∧ DataW.trod enc P w base spare held n f1.type ((cs.drop f1.offset).take (P.cellsOf f1.type)) = some y1 ∧ DataW.trod enc P w base spare held n f2.type ((cs.drop f2.offset).take (P.cellsOf f2.type)) = some y2 ∧ DataW.trod enc P w base spare held n f3.type ((cs.drop f3.offset).take (P.cellsOf f3.type)) = some y3 ∧ DataW.trod enc P w base spare held n f4.type ((cs.drop f4.offset).take (P.cellsOf f4.type)) = some y4 := by
  obtain ⟨xs, n, _, rfl, hl, hlen, hf⟩ := DataW.trod_struct ht h
  match xs, hlen with
  | [y0, y1, y2, y3, y4], _ => exact ⟨y0, y1, y2, y3, y4, n, by simpa using hf 0 f0 rfl, by simpa using hf 1 f1 rfl, by simpa using hf 2 f2 rfl, by simpa using hf 3 f3 rfl, by simpa using hf 4 f4 rfl⟩
theorem steps_open {A : Option Addr} {len cap fuel : Nat} {x : DataW H × List MemPlace} (hf : DataW.trod enc Try.prog W base spare held fuel 22 [.slice A len cap] = some x) :
    len ≤ maxLen ∧ ∃ ss : List Stp, ss.length = len ∧ Stps W A ss := by
  obtain ⟨f0, f1, f2, f3, f4, hs, ⟨o0, o1, o2, o3, o4⟩, t0, t1, t2, t3, t4⟩ := fields_step
  rcases Deep.open_slice Try.underlying22 hf with ⟨hcs, _⟩ | ⟨a, len', cap', m, n, D, Pl, hcs, hb, hl, hm, hmm, -, hall⟩
  · simp at hcs
    obtain ⟨rfl, rfl, rfl⟩ := hcs
    exact ⟨by unfold maxLen; omega, [], rfl, .inl rfl⟩
  · simp at hcs
    obtain ⟨rfl, rfl, rfl⟩ := hcs
    have hlm : len ≤ m := by rw [hmm]; split <;> omega
    have each : ∀ i, i < len → ∃ q : Stp, (W.cell? (a.add (i * 5)) = some (.int .i64 q.kind) ∧ W.cell? (a.add (i * 5 + 1)) = some (.int .u64 (q.b : Int)) ∧ W.cell? (a.add (i * 5 + 2)) = some (.int .i64 q.i) ∧ W.cell? (a.add (i * 5 + 3)) = some (.int .u64 q.old) ∧ W.cell? (a.add (i * 5 + 4)) = some (.int .u64 q.new)) ∧ q.b < 18446744073709551616 := by
      intro i hi
      obtain ⟨cs', h1, h2⟩ := hall i (by omega)
      rw [cells_step] at h1
      obtain ⟨_, hlen, hcell⟩ := World.cells?_some h1
      obtain ⟨y0, y1, y2, y3, y4, k, g0, g1, g2, g3, g4⟩ := trod_struct5 hs h2
      obtain ⟨v0, v1, v2, v3, v4, rfl⟩ := list5 cs' hlen
      rw [o0, t0, cells_int] at g0
      rw [o1, t1, cells_u64] at g1
      rw [o2, t2, cells_int] at g2
      rw [o3, t3, cells_u64] at g3
      rw [o4, t4, cells_u64] at g4
      obtain ⟨z0, e0, -⟩ := DataW.trod_int Try.underlying3 g0
      obtain ⟨z1, e1, -, w1⟩ := DataW.trod_int Try.underlying27 g1
      obtain ⟨z2, e2, -⟩ := DataW.trod_int Try.underlying3 g2
      obtain ⟨z3, e3, -⟩ := DataW.trod_int Try.underlying27 g3
      obtain ⟨z4, e4, -⟩ := DataW.trod_int Try.underlying27 g4
      simp at e0 e1 e2 e3 e4
      have bz := bounds_u64 w1
      obtain ⟨n1, rfl⟩ := Int.eq_ofNat_of_zero_le bz.1
      have q0 := hcell 0 (by omega)
      have q1 := hcell 1 (by omega)
      have q2 := hcell 2 (by omega)
      have q3 := hcell 3 (by omega)
      have q4 := hcell 4 (by omega)
      rw [Deep.add_add] at q0 q1 q2 q3 q4
      exact ⟨⟨z0, n1, z2, z3, z4⟩, ⟨by simpa [e0] using q0, by simpa [e1] using q1, by simpa [e2] using q2, by simpa [e3] using q3, by simpa [e4] using q4⟩, by show n1 < _; omega⟩
    obtain ⟨q, hq⟩ := Deep.choose_lt each
    refine ⟨by omega, (List.range len).map q, by simp, ?_⟩
    by_cases h0 : len = 0
    · subst h0; exact .inl rfl
    · obtain ⟨b, off, rfl⟩ := addr_plain (by simpa using (hq 0 (by omega)).1.1)
      refine .inr ⟨b, off, rfl, ?_, fun j hj => ?_⟩
      · exact World.block_lt_of_cell? W _ (by simpa [Addr.add] using (hq 0 (by omega)).1.1)
      · have hj' : j < len := by simpa using hj
        have e : ((List.range len).map q).getD j default = q j := by simp [List.getD_eq_getElem?_getD, hj']
        rw [e]
        obtain ⟨⟨c0, c1, c2, c3, c4⟩, hlt⟩ := hq j hj'
        rw [Addr.add_lit] at c0 c1 c2 c3 c4
        exact ⟨⟨b, off, rfl, c0, by rw [Nat.add_assoc]; exact c1, by rw [Nat.add_assoc]; exact c2, by rw [Nat.add_assoc]; exact c3, by rw [Nat.add_assoc]; exact c4⟩, hlt⟩
end
theorem plays_law (x : Int) (A : Option Addr) (cap : Nat) (l : List Stp) (w : World) (hmax : l.length ≤ maxLen) (h : Stps w A l) :
    Calls Try.prog 3 #[.int .i64 x, .slice A l.length cap] w (Gives (.bool true) w) := by
  by_cases hl : 60 < l.length ∨ 2000 < x ∧ x ≤ 65536
  · exact plays_long x A l.length cap w (by unfold maxLen at hmax; omega) hl
  · by_cases hx : x < 1 ∨ 65536 < x
    · exact plays_none x A l.length cap w (by omega) hx
    · obtain ⟨n, rfl⟩ : ∃ n : Nat, x = (n : Int) := ⟨x.toNat, by omega⟩
      refine plays_any n (by omega) (by omega) A l.length cap (fun j => l.getD j default) w (by omega) (fun j => ?_) (fun w' hb j hj => ?_)
      · by_cases hj : j < l.length
        · rcases h with rfl | ⟨b, off, _, _, hall⟩
          · simp at hj
          · exact (hall j hj).2
        · rw [List.getD_eq_getElem?_getD, List.getElem?_eq_none (by omega)]
          show (0 : Nat) < _
          omega
      · rcases h with rfl | ⟨b, off, rfl, hlt, hall⟩
        · simp at hj
        · obtain ⟨⟨b', off', e, c0, c1, c2, c3, c4⟩, -⟩ := hall j hj
          cases e
          have keep : ∀ (o : Nat) (v : Value), w.cell? ⟨b, o, none⟩ = some v → w'.cell? ⟨b, o, none⟩ = some v := fun o v hv => (hb.cell (p := ⟨b, o, none⟩) hlt).trans hv
          exact ⟨b, off, rfl, keep _ _ c0, keep _ _ c1, keep _ _ c2, keep _ _ c3, keep _ _ c4⟩
end Go.Proofs.Ytbokndgellfoaaa
