/-
  How the laws' arguments are opened: a slice of acts, a slice of such slices. By an AI agent.
-/
import Derived.Test.YthldjdkjgiebaaaDriveBoth
import Derived.Test.YthldjdkjgiebaaaDriveRow
import Derived.Deep.SlicePairs
import Derived.Lib.SmallJoins
import Derived.OpenShut
set_option linter.unusedSimpArgs false
set_option linter.unusedVariables false
namespace Go.Proofs.Ythldjdkjgiebaaa
open Go.RowKit
open Ac (A)
instance : Inhabited A := ⟨⟨0, 0, 0, 0, 0⟩⟩
theorem fields_act : ∃ f0 f1 f2 f3 f4 : Field, Try.prog.underlying 42 = some (.struct #[f0, f1, f2, f3, f4]) ∧ (f0.offset = 0 ∧ f1.offset = 1 ∧ f2.offset = 2 ∧ f3.offset = 3 ∧ f4.offset = 4) ∧ f0.type = 3 ∧ f1.type = 35 ∧ f2.type = 3 ∧ f3.type = 35 ∧ f4.type = 35 :=
  ⟨_, _, _, _, _, Try.underlying42, ⟨rfl, rfl, rfl, rfl, rfl⟩, rfl, rfl, rfl, rfl, rfl⟩
theorem cells_int : Try.prog.cellsOf 3 = 1 := by kernel_rfl
theorem cells_u64 : Try.prog.cellsOf 35 = 1 := by kernel_rfl
theorem cells_act : Try.prog.cellsOf 42 = 5 := by kernel_rfl
theorem list5 : ∀ (cs : List Value), cs.length = 5 → ∃ v0 v1 v2 v3 v4, cs = [v0, v1, v2, v3, v4]
  | [v0, v1, v2, v3, v4], _ => ⟨v0, v1, v2, v3, v4, rfl⟩
theorem array5 {cs : Array Value} (h : cs.size = 5) : ∃ c0 c1 c2 c3 c4, cs = #[c0, c1, c2, c3, c4] := by
  obtain ⟨l⟩ := cs
  match l, h with
  | [c0, c1, c2, c3, c4], _ => exact ⟨c0, c1, c2, c3, c4, rfl⟩
/-- Acts that came in. -/
def Acts (w : World) (a : Option Addr) (l : List A) : Prop := l = [] ∨ ∃ b off, a = some ⟨b, off, none⟩ ∧ b < w.heap.size ∧ ∀ j, j < l.length → ActAt a w j (l.getD j default) ∧ Fits (l.getD j default)
section
variable {H : Type} {enc : TypeId × Value → H} {W : World} {base : Nat} {spare : Nat → Bool} {held : Bool}
theorem addr_plain {w : World} {a : Addr} {v : Value} (h : w.cell? (a.add 0) = some v) : ∃ b off, a = ⟨b, off, none⟩ := by
  obtain ⟨b, off, spot⟩ := a
  have hspot : spot = none := by simpa [Addr.add] using World.cell?_spot h
  subst hspot
  exact ⟨b, off, rfl⟩
theorem trod_struct5 {t : TypeId} {f0 f1 f2 f3 f4 : Field} {fuel : Nat} {cs : List Value} {x : DataW H × List MemPlace} {P : Program} {w : World} (ht : P.underlying t = some (.struct #[f0, f1, f2, f3, f4])) (h : DataW.trod enc P w base spare held fuel t cs = some x) :
    ∃ y0 y1 y2 y3 y4 n, DataW.trod enc P w base spare held n f0.type ((cs.drop f0.offset).take (P.cellsOf f0.type)) = some y0 ∧ DataW.trod enc P w base spare held n f1.type ((cs.drop f1.offset).take (P.cellsOf f1.type)) = some y1 ∧ DataW.trod enc P w base spare held n f2.type ((cs.drop f2.offset).take (P.cellsOf f2.type)) = some y2 ∧ DataW.trod enc P w base spare held n f3.type ((cs.drop f3.offset).take (P.cellsOf f3.type)) = some y3 ∧ DataW.trod enc P w base spare held n f4.type ((cs.drop f4.offset).take (P.cellsOf f4.type)) = some y4 := by
  obtain ⟨xs, n, _, rfl, hl, hlen, hf⟩ := DataW.trod_struct ht h
  match xs, hlen with
  | [y0, y1, y2, y3, y4], _ => exact ⟨y0, y1, y2, y3, y4, n, by simpa using hf 0 f0 rfl, by simpa using hf 1 f1 rfl, by simpa using hf 2 f2 rfl, by simpa using hf 3 f3 rfl, by simpa using hf 4 f4 rfl⟩
/-- Five cells that read as an act are one. -/
theorem cells_open {fuel : Nat} {v0 v1 v2 v3 v4 : Value} {x : DataW H × List MemPlace} (h : DataW.trod enc Try.prog W base spare held fuel 42 [v0, v1, v2, v3, v4] = some x) :
    ∃ q : A, (v0 = .int .i64 q.k ∧ v1 = .int .u64 (q.b : Int) ∧ v2 = .int .i64 q.c ∧ v3 = .int .u64 (q.o : Int) ∧ v4 = .int .u64 (q.n : Int)) ∧ Fits q := by
  obtain ⟨f0, f1, f2, f3, f4, hs, ⟨o0, o1, o2, o3, o4⟩, t0, t1, t2, t3, t4⟩ := fields_act
  obtain ⟨y0, y1, y2, y3, y4, k, g0, g1, g2, g3, g4⟩ := trod_struct5 hs h
  rw [o0, t0, cells_int] at g0
  rw [o1, t1, cells_u64] at g1
  rw [o2, t2, cells_int] at g2
  rw [o3, t3, cells_u64] at g3
  rw [o4, t4, cells_u64] at g4
  obtain ⟨z0, e0, -⟩ := DataW.trod_int Try.underlying3 g0
  obtain ⟨z1, e1, -, w1⟩ := DataW.trod_int Try.underlying35 g1
  obtain ⟨z2, e2, -, w2⟩ := DataW.trod_int Try.underlying3 g2
  obtain ⟨z3, e3, -, w3⟩ := DataW.trod_int Try.underlying35 g3
  obtain ⟨z4, e4, -, w4⟩ := DataW.trod_int Try.underlying35 g4
  simp at e0 e1 e2 e3 e4
  have b1 := bounds_u64 w1
  have b2 := bounds_i64 w2
  have b3 := bounds_u64 w3
  have b4 := bounds_u64 w4
  obtain ⟨n1, rfl⟩ := Int.eq_ofNat_of_zero_le b1.1
  obtain ⟨n3, rfl⟩ := Int.eq_ofNat_of_zero_le b3.1
  obtain ⟨n4, rfl⟩ := Int.eq_ofNat_of_zero_le b4.1
  exact ⟨⟨z0, n1, z2, n3, n4⟩, ⟨e0, e1, e2, e3, e4⟩, ⟨by simp only; omega, by simp only; omega, by simp only; omega, by simp only; omega, by simp only; omega⟩⟩
theorem acts_open {a : Option Addr} {len cap fuel : Nat} {x : DataW H × List MemPlace} (hf : DataW.trod enc Try.prog W base spare held fuel 22 [.slice a len cap] = some x) :
    len ≤ maxLen ∧ ∃ ss : List A, ss.length = len ∧ Acts W a ss := by
  rcases Deep.open_slice Try.underlying22 hf with ⟨hcs, _⟩ | ⟨a, len', cap', m, n, D, Pl, hcs, hb, hl, hm, hmm, -, hall⟩
  · simp at hcs
    obtain ⟨rfl, rfl, rfl⟩ := hcs
    exact ⟨by unfold maxLen; omega, [], rfl, .inl rfl⟩
  · simp at hcs
    obtain ⟨rfl, rfl, rfl⟩ := hcs
    have hlm : len ≤ m := by rw [hmm]; split <;> omega
    have each : ∀ i, i < len → ∃ q : A, (W.cell? (a.add (i * 5)) = some (.int .i64 q.k) ∧ W.cell? (a.add (i * 5 + 1)) = some (.int .u64 (q.b : Int)) ∧ W.cell? (a.add (i * 5 + 2)) = some (.int .i64 q.c) ∧ W.cell? (a.add (i * 5 + 3)) = some (.int .u64 (q.o : Int)) ∧ W.cell? (a.add (i * 5 + 4)) = some (.int .u64 (q.n : Int))) ∧ Fits q := by
      intro i hi
      obtain ⟨cs', h1, h2⟩ := hall i (by omega)
      rw [cells_act] at h1
      obtain ⟨_, hlen, hcell⟩ := World.cells?_some h1
      obtain ⟨v0, v1, v2, v3, v4, rfl⟩ := list5 cs' hlen
      obtain ⟨q, ⟨rfl, rfl, rfl, rfl, rfl⟩, hq⟩ := cells_open h2
      have q0 := hcell 0 (by omega)
      have q1 := hcell 1 (by omega)
      have q2 := hcell 2 (by omega)
      have q3 := hcell 3 (by omega)
      have q4 := hcell 4 (by omega)
      rw [Deep.add_add] at q0 q1 q2 q3 q4
      exact ⟨q, ⟨by simpa using q0, by simpa using q1, by simpa using q2, by simpa using q3, by simpa using q4⟩, hq⟩
    obtain ⟨q, hq⟩ := Deep.choose_lt each
    refine ⟨by omega, (List.range len).map q, by simp, ?_⟩
    by_cases h0 : len = 0
    · subst h0; exact .inl rfl
    · obtain ⟨b, off, rfl⟩ := addr_plain (by simpa using (hq 0 (by omega)).1.1)
      refine .inr ⟨b, off, rfl, ?_, fun j hj => ?_⟩
      · exact World.block_lt_of_cell? W _ (by simpa [Addr.add] using (hq 0 (by omega)).1.1)
      · have hj' : j < len := by simpa using hj
        have e : ((List.range len).map q).getD j default = q j := by simp [List.getD_eq_getElem?_getD, hj']
        rw [e]
        obtain ⟨⟨c0, c1, c2, c3, c4⟩, hlt⟩ := hq j hj'
        rw [Addr.add_lit] at c0 c1 c2 c3 c4
        exact ⟨⟨b, off, rfl, c0, by rw [Nat.add_assoc]; exact c1, by rw [Nat.add_assoc]; exact c2, by rw [Nat.add_assoc]; exact c3, by rw [Nat.add_assoc]; exact c4⟩, hlt⟩
theorem cells_acts : Try.prog.cellsOf 22 = 1 := by kernel_rfl
/-- Slices of acts that came in: each with its address, its room, and its acts. -/
def Acts2 (w : World) (a : Option Addr) (ls : List (Option Addr × Nat × List A)) : Prop := ls = [] ∨ ∃ b off, a = some ⟨b, off, none⟩ ∧ b < w.heap.size ∧ ∀ i, i < ls.length → w.cell? ⟨b, off + i, none⟩ = some (.slice (ls.getD i default).1 (ls.getD i default).2.2.length (ls.getD i default).2.1) ∧ Acts w (ls.getD i default).1 (ls.getD i default).2.2
theorem acts2_open {a : Option Addr} {len cap fuel : Nat} {x : DataW H × List MemPlace} (hf : DataW.trod enc Try.prog W base spare held fuel 39 [.slice a len cap] = some x) :
    len ≤ maxLen ∧ ∃ ss : List (Option Addr × Nat × List A), ss.length = len ∧ Acts2 W a ss := by
  rcases Deep.open_slice Try.underlying39 hf with ⟨hcs, _⟩ | ⟨a, len', cap', m, n, D, Pl, hcs, hb, hl, hm, hmm, -, hall⟩
  · simp at hcs
    obtain ⟨rfl, rfl, rfl⟩ := hcs
    exact ⟨by unfold maxLen; omega, [], rfl, .inl rfl⟩
  · simp at hcs
    obtain ⟨rfl, rfl, rfl⟩ := hcs
    have hlm : len ≤ m := by rw [hmm]; split <;> omega
    have each : ∀ i, i < len → ∃ q : Option Addr × Nat × List A, W.cell? (a.add i) = some (.slice q.1 q.2.2.length q.2.1) ∧ Acts W q.1 q.2.2 := by
      intro i hi
      obtain ⟨cs', h1, h2⟩ := hall i (by omega)
      rw [cells_acts] at h1
      obtain ⟨_, hlen, hcell⟩ := World.cells?_some h1
      have q0 := hcell 0 (by omega)
      rw [Deep.add_add] at q0
      rcases Deep.open_slice Try.underlying22 h2 with ⟨rfl, _⟩ | ⟨a2, len2, cap2, _, _, _, _, rfl, _⟩
      · exact ⟨(none, 0, []), by simpa using q0, .inl rfl⟩
      · obtain ⟨_, ss, rfl, hA⟩ := acts_open h2
        exact ⟨(some a2, cap2, ss), by simpa using q0, hA⟩
    obtain ⟨q, hq⟩ := Deep.choose_lt each
    refine ⟨by omega, (List.range len).map q, by simp, ?_⟩
    by_cases h0 : len = 0
    · subst h0; exact .inl rfl
    · obtain ⟨b, off, rfl⟩ := addr_plain (by simpa using (hq 0 (by omega)).1)
      refine .inr ⟨b, off, rfl, ?_, fun j hj => ?_⟩
      · exact World.block_lt_of_cell? W _ (by simpa [Addr.add] using (hq 0 (by omega)).1)
      · have hj' : j < len := by simpa using hj
        have e : ((List.range len).map q).getD j default = q j := by simp [List.getD_eq_getElem?_getD, hj']
        rw [e]
        obtain ⟨c0, hA⟩ := hq j hj'
        rw [Addr.add_lit] at c0
        exact ⟨c0, hA⟩
end
theorem Acts.at {w : World} {a : Option Addr} {l : List A} (h : Acts w a l) {j : Nat} (hj : j < l.length) : ActAt a w j (l.getD j default) ∧ Fits (l.getD j default) := by
  rcases h with rfl | ⟨b, off, _, _, h⟩
  · simp at hj
  · exact h j hj
theorem ActAt.below {a : Option Addr} {w w' : World} {j : Nat} {x : A} (h : ActAt a w j x) (hb : Below w.heap.size w w') : ActAt a w' j x := by
  obtain ⟨b, off, e, c0, c1, c2, c3, c4⟩ := h
  exact ⟨b, off, e, (hb.cell (World.block_lt_of_cell? _ _ c0)).trans c0, (hb.cell (World.block_lt_of_cell? _ _ c1)).trans c1, (hb.cell (World.block_lt_of_cell? _ _ c2)).trans c2, (hb.cell (World.block_lt_of_cell? _ _ c3)).trans c3, (hb.cell (World.block_lt_of_cell? _ _ c4)).trans c4⟩
end Go.Proofs.Ythldjdkjgiebaaa
