/-
  What the arguments hold: lists of pairs, of operations, of answers; an operation. By an AI agent.
-/
import Derived.Test.YtigopifioijjlaaSpecDoes
import Derived.Test.YtigopifioijjlaaSpecAllowsLaw
import Derived.Deep.SlicePairs
import Derived.Deep.Strs
import Derived.Lib.SmallJoins
import Derived.OpenShut
namespace Go.Proofs.Ytigopifioijjlaa
open Go.RowKit
open Dc (Pr Rpl)
instance : Inhabited Opr := ⟨⟨0, ⟨#[]⟩, ⟨#[]⟩, ⟨#[]⟩⟩⟩
instance : Inhabited Rpl := ⟨{}⟩
instance : Inhabited Rp := ⟨({}, .slice none 0 0)⟩
section
variable {H : Type} {enc : TypeId × Value → H} {W : World} {base : Nat} {spare : Nat → Bool} {held : Bool}
theorem fields_pair : ∃ f0 f1 : Field, Try.prog.underlying 46 = some (.struct #[f0, f1]) ∧ f0.offset = 0 ∧ f1.offset = 1 ∧ f0.type = 9 ∧ f1.type = 9 := ⟨_, _, Try.underlying46, rfl, rfl, rfl, rfl⟩
theorem fields_op : ∃ f0 f1 f2 f3 : Field, Try.prog.underlying 27 = some (.struct #[f0, f1, f2, f3]) ∧ (f0.offset = 0 ∧ f1.offset = 1 ∧ f2.offset = 2 ∧ f3.offset = 3) ∧ f0.type = 3 ∧ f1.type = 9 ∧ f2.type = 9 ∧ f3.type = 9 := ⟨_, _, _, _, Try.underlying27, ⟨rfl, rfl, rfl, rfl⟩, rfl, rfl, rfl, rfl⟩
theorem fields_reply : ∃ f0 f1 f2 f3 f4 f5 : Field, Try.prog.underlying 30 = some (.struct #[f0, f1, f2, f3, f4, f5]) ∧ (f0.offset = 0 ∧ f1.offset = 1 ∧ f2.offset = 2 ∧ f3.offset = 3 ∧ f4.offset = 4 ∧ f5.offset = 5) ∧ f0.type = 28 ∧ f1.type = 4 ∧ f2.type = 4 ∧ f3.type = 9 ∧ f4.type = 3 ∧ f5.type = 24 := ⟨_, _, _, _, _, _, Try.underlying30, ⟨rfl, rfl, rfl, rfl, rfl, rfl⟩, rfl, rfl, rfl, rfl, rfl, rfl⟩
theorem cells_str : Try.prog.cellsOf 9 = 1 := by kernel_rfl
theorem cells_int : Try.prog.cellsOf 3 = 1 := by kernel_rfl
theorem cells_bool : Try.prog.cellsOf 4 = 1 := by kernel_rfl
theorem cells_err : Try.prog.cellsOf 28 = 1 := by kernel_rfl
theorem cells_list : Try.prog.cellsOf 24 = 1 := by kernel_rfl
theorem cells_pair : Try.prog.cellsOf 46 = 2 := by kernel_rfl
theorem cells_op : Try.prog.cellsOf 27 = 4 := by kernel_rfl
theorem cells_reply : Try.prog.cellsOf 30 = 6 := by kernel_rfl
/-- The text that a value is. -/
def strOf : Value → ByteArray
  | .string s => s
  | _ => ⟨#[]⟩
theorem addr_plain {w : World} {a : Addr} {v : Value} (h : w.cell? (a.add 0) = some v) : ∃ b off, a = ⟨b, off, none⟩ := by
  obtain ⟨b, off, spot⟩ := a
  have hspot : spot = none := by simpa [Addr.add] using World.cell?_spot h
  subst hspot
  exact ⟨b, off, rfl⟩
theorem pairs_open {A : Option Addr} {len cap fuel : Nat} {x : DataW H × List MemPlace} (hf : DataW.trod enc Try.prog W base spare held fuel 24 [.slice A len cap] = some x) :
    len ≤ maxLen ∧ ∃ ps : List Pr, ps.length = len ∧ Prs W A ps := by
  obtain ⟨f0, f1, hs, o0, o1, t0, t1⟩ := fields_pair
  rcases Deep.open_slice_pairs Try.underlying24 hs cells_pair o0 o1 (by rw [t0]; exact cells_str) (by rw [t1]; exact cells_str) hf with ⟨hcs, _⟩ | ⟨a, len', cap', m, n, V0, V1, D0, D1, P0, P1, hcs, hb, hl, hm, hmm, -, hall⟩
  · simp at hcs
    obtain ⟨rfl, rfl, rfl⟩ := hcs
    exact ⟨by unfold maxLen; omega, [], rfl, .inl rfl⟩
  · simp at hcs
    obtain ⟨rfl, rfl, rfl⟩ := hcs
    have hlm : len ≤ m := by rw [hmm]; split <;> omega
    refine ⟨by omega, (List.range len).map fun i => (strOf (V0 i), strOf (V1 i)), by simp, ?_⟩
    by_cases h0 : len = 0
    · subst h0; exact .inl rfl
    · obtain ⟨b, off, rfl⟩ := addr_plain (by simpa using (hall 0 (by omega)).1)
      refine .inr ⟨b, off, rfl, ?_, fun j hj => ?_⟩
      · exact World.block_lt_of_cell? W _ (by simpa [Addr.add] using (hall 0 (by omega)).1)
      · have hj' : j < len := by simpa using hj
        obtain ⟨c0, c1, r0, r1⟩ := hall j (by omega)
        rw [t0] at r0
        rw [t1] at r1
        obtain ⟨s0, e0, -⟩ := DataW.trod_string Try.underlying9 r0
        obtain ⟨s1, e1, -⟩ := DataW.trod_string Try.underlying9 r1
        simp only [List.cons.injEq, and_true] at e0 e1
        rw [lit_add, e0] at c0
        rw [lit_add, e1] at c1
        simp [e0, e1, strOf, c0]
        rw [Nat.add_assoc]; exact c1
theorem ops_open {A : Option Addr} {len cap fuel : Nat} {x : DataW H × List MemPlace} (hf : DataW.trod enc Try.prog W base spare held fuel 22 [.slice A len cap] = some x) :
    len ≤ maxLen ∧ ∃ ss : List Opr, ss.length = len ∧ Ops W A ss := by
  obtain ⟨f0, f1, f2, f3, hs, ⟨o0, o1, o2, o3⟩, t0, t1, t2, t3⟩ := fields_op
  rcases Deep.open_slice Try.underlying22 hf with ⟨hcs, _⟩ | ⟨a, len', cap', m, n, D, Pl, hcs, hb, hl, hm, hmm, -, hall⟩
  · simp at hcs
    obtain ⟨rfl, rfl, rfl⟩ := hcs
    exact ⟨by unfold maxLen; omega, [], rfl, .inl rfl⟩
  · simp at hcs
    obtain ⟨rfl, rfl, rfl⟩ := hcs
    have hlm : len ≤ m := by rw [hmm]; split <;> omega
    have each : ∀ i, i < len → ∃ q : Opr, W.cell? (a.add (i * 4)) = some (.int .i64 q.k) ∧ W.cell? (a.add (i * 4 + 1)) = some (.string q.key) ∧ W.cell? (a.add (i * 4 + 2)) = some (.string q.val) ∧ W.cell? (a.add (i * 4 + 3)) = some (.string q.old) := by
      intro i hi
      obtain ⟨cs', h1, h2⟩ := hall i (by omega)
      rw [cells_op] at h1
      obtain ⟨_, hlen, hcell⟩ := World.cells?_some h1
      obtain ⟨y0, y1, y2, y3, k, -, -, g0, g1, g2, g3⟩ := Joins.trod_struct4 hs h2
      match cs', hlen with
      | [v0, v1, v2, v3], _ =>
        rw [o0, t0, cells_int] at g0
        rw [o1, t1, cells_str] at g1
        rw [o2, t2, cells_str] at g2
        rw [o3, t3, cells_str] at g3
        obtain ⟨z, e0, -⟩ := DataW.trod_int Try.underlying3 g0
        obtain ⟨s1, e1, -⟩ := DataW.trod_string Try.underlying9 g1
        obtain ⟨s2, e2, -⟩ := DataW.trod_string Try.underlying9 g2
        obtain ⟨s3, e3, -⟩ := DataW.trod_string Try.underlying9 g3
        simp at e0 e1 e2 e3
        have q0 := hcell 0 (by omega)
        have q1 := hcell 1 (by omega)
        have q2 := hcell 2 (by omega)
        have q3 := hcell 3 (by omega)
        rw [Deep.add_add] at q0 q1 q2 q3
        exact ⟨⟨z, s1, s2, s3⟩, by simpa [e0] using q0, by simpa [e1] using q1, by simpa [e2] using q2, by simpa [e3] using q3⟩
    obtain ⟨q, hq⟩ := Deep.choose_lt each
    refine ⟨by omega, (List.range len).map q, by simp, ?_⟩
    by_cases h0 : len = 0
    · subst h0; exact .inl rfl
    · obtain ⟨b, off, rfl⟩ := addr_plain (by simpa using (hq 0 (by omega)).1)
      refine .inr ⟨b, off, rfl, ?_, fun j hj => ?_⟩
      · exact World.block_lt_of_cell? W _ (by simpa [Addr.add] using (hq 0 (by omega)).1)
      · have hj' : j < len := by simpa using hj
        obtain ⟨c0, c1, c2, c3⟩ := hq j hj'
        rw [lit_add] at c0 c1 c2 c3
        simp [c0]
        exact ⟨by rw [Nat.add_assoc]; exact c1, by rw [Nat.add_assoc]; exact c2, by rw [Nat.add_assoc]; exact c3⟩
theorem trod_struct6 {t : TypeId} {f0 f1 f2 f3 f4 f5 : Field} {fuel : Nat} {cs : List Value} {x : DataW H × List MemPlace} {P : Program} {w : World} (ht : P.underlying t = some (.struct #[f0, f1, f2, f3, f4, f5])) (h : DataW.trod enc P w base spare held fuel t cs = some x) :
    ∃ y0 y1 y2 y3 y4 y5 n, DataW.trod enc P w base spare held n f0.type ((cs.drop f0.offset).take (P.cellsOf f0.type)) = some y0 ∧ DataW.trod enc P w base spare held n f1.type ((cs.drop f1.offset).take (P.cellsOf f1.type)) = some y1 ∧ DataW.trod enc P w base spare held n f2.type ((cs.drop f2.offset).take (P.cellsOf f2.type)) = some y2 ∧ DataW.trod enc P w base spare held n f3.type ((cs.drop f3.offset).take (P.cellsOf f3.type)) = some y3 ∧ DataW.trod enc P w base spare held n f4.type ((cs.drop f4.offset).take (P.cellsOf f4.type)) = some y4 ∧ DataW.trod enc P w base spare held n f5.type ((cs.drop f5.offset).take (P.cellsOf f5.type)) = some y5 := by
  obtain ⟨xs, n, _, rfl, hl, hlen, hf⟩ := DataW.trod_struct ht h
  match xs, hlen with
  | [y0, y1, y2, y3, y4, y5], _ => exact ⟨y0, y1, y2, y3, y4, y5, n, by simpa using hf 0 f0 rfl, by simpa using hf 1 f1 rfl, by simpa using hf 2 f2 rfl, by simpa using hf 3 f3 rfl, by simpa using hf 4 f4 rfl, by simpa using hf 5 f5 rfl⟩
/-- A value of a list's type is a slice. -/
theorem list_form {v : Value} {fuel : Nat} {x : DataW H × List MemPlace} (hf : DataW.trod enc Try.prog W base spare held fuel 24 [v] = some x) : ∃ A len cap, v = .slice A len cap := by
  rcases Deep.open_slice Try.underlying24 hf with ⟨hcs, _⟩ | ⟨a, len', cap', m, n, D, Pl, hcs, -⟩
  · exact ⟨_, _, _, by simpa using hcs⟩
  · exact ⟨_, _, _, by simpa using hcs⟩
theorem reps_open {A : Option Addr} {len cap fuel : Nat} {x : DataW H × List MemPlace} (hf : DataW.trod enc Try.prog W base spare held fuel 37 [.slice A len cap] = some x) :
    len ≤ maxLen ∧ ∃ rs : List Rp, rs.length = len ∧ (Reps W A rs ∧ (A = none → cap = 0) ∧ Good W rs) := by
  obtain ⟨f0, f1, f2, f3, f4, f5, hs, ⟨o0, o1, o2, o3, o4, o5⟩, t0, t1, t2, t3, t4, t5⟩ := fields_reply
  rcases Deep.open_slice Try.underlying37 hf with ⟨hcs, _⟩ | ⟨a, len', cap', m, n, D, Pl, hcs, hb, hl, hm, hmm, -, hall⟩
  · simp at hcs
    obtain ⟨rfl, rfl, rfl⟩ := hcs
    exact ⟨by unfold maxLen; omega, [], rfl, .inl rfl, fun _ => rfl, fun p hp => by simp at hp⟩
  · simp at hcs
    obtain ⟨rfl, rfl, rfl⟩ := hcs
    have hlm : len ≤ m := by rw [hmm]; split <;> omega
    have each : ∀ i, i < len → ∃ q : Rp, Lst W q.2 q.1.prs ∧ ∀ j u, (encR [q])[j]? = some u → W.cell? (a.add (i * 6 + j)) = some u := by
      intro i hi
      obtain ⟨cs', h1, h2⟩ := hall i (by omega)
      rw [cells_reply] at h1
      obtain ⟨_, hlen, hcell⟩ := World.cells?_some h1
      obtain ⟨y0, y1, y2, y3, y4, y5, k, g0, g1, g2, g3, g4, g5⟩ := trod_struct6 hs h2
      match cs', hlen with
      | [v0, v1, v2, v3, v4, v5], _ =>
        rw [o0, t0, cells_err] at g0
        rw [o1, t1, cells_bool] at g1
        rw [o2, t2, cells_bool] at g2
        rw [o3, t3, cells_str] at g3
        rw [o4, t4, cells_int] at g4
        rw [o5, t5, cells_list] at g5
        simp at g5
        obtain ⟨z0, e0, -⟩ := DataW.trod_int Try.underlying28 g0
        obtain ⟨b1, e1, -⟩ := DataW.trod_bool Try.underlying4 g1
        obtain ⟨b2, e2, -⟩ := DataW.trod_bool Try.underlying4 g2
        obtain ⟨s3, e3, -⟩ := DataW.trod_string Try.underlying9 g3
        obtain ⟨z4, e4, -⟩ := DataW.trod_int Try.underlying3 g4
        simp at e0 e1 e2 e3 e4
        obtain ⟨A5, l5, c5, rfl⟩ := list_form g5
        obtain ⟨-, ps, rfl, hps⟩ := pairs_open g5
        subst e0 e1 e2 e3 e4
        refine ⟨(⟨z0, b1, b2, s3, z4, ps⟩, .slice A5 ps.length c5), ⟨A5, c5, rfl, hps⟩, fun j u hj => ?_⟩
        have hj6 : j < 6 := by
          have := (List.getElem?_eq_some_iff.1 hj).1
          simpa [encR] using this
        have q := hcell j (by simpa using hj6)
        rw [Deep.add_add] at q
        rw [q, ← hj]
        simp [encR]
    obtain ⟨q, hq⟩ := Deep.choose_lt each
    have hen : ∀ n, n ≤ len → ∀ j u, (encR ((List.range n).map q))[j]? = some u → W.cell? (a.add j) = some u := by
      intro n
      induction n with
      | zero => intro _ j u hj; simp [encR] at hj
      | succ n ih =>
        intro hn j u hj
        rw [List.range_succ, List.map_append, encR_append] at hj
        have hlen : (encR ((List.range n).map q)).length = n * 6 := by rw [encR_len]; simp
        rcases Nat.lt_or_ge j (n * 6) with h | h
        · rw [List.getElem?_append_left (by omega)] at hj
          exact ih (by omega) j u hj
        · rw [List.getElem?_append_right (by omega), hlen] at hj
          have := (hq n (by omega)).2 (j - n * 6) u (by simpa using hj)
          rw [show n * 6 + (j - n * 6) = j by omega] at this
          exact this
    refine ⟨by omega, (List.range len).map q, by simp, ?_, fun h => (by cases h), fun p hp => ?_⟩
    · by_cases h0 : len = 0
      · subst h0; exact .inl rfl
      · have c0 := (hq 0 (by omega)).2 0 _ rfl
        obtain ⟨b, off, rfl⟩ := addr_plain (by simpa using c0)
        refine .inr ⟨b, off, rfl, ?_, fun j u hj => ?_⟩
        · exact World.block_lt_of_cell? W _ (by simpa [Addr.add] using c0)
        · have := hen len (Nat.le_refl _) j u hj
          rw [lit_add] at this
          exact this
    · obtain ⟨i, hi, rfl⟩ := List.mem_map.1 hp
      exact (hq i (by simpa using hi)).1
end
end Go.Proofs.Ytigopifioijjlaa
