/-
  How the arguments of SeekActs are opened: a table, a case. By an AI agent.
-/
import Derived.Test.YtknefjigdlbacaaGreatDoorSkKBA
import Derived.Test.YtknefjigdlbacaaGreatDoorSkKBU
set_option linter.unusedSimpArgs false
set_option linter.unusedVariables false
namespace Go.Proofs.YtknefjigdlbacaaGreatDoor
open Go.ChangeShapes Go.WideShapes Go.ChangeAt Go.RowKit
theorem cellsTab : Tryz.prog.cellsOf 24 = 2 := by kernel_rfl
theorem cellsCase : Tryz.prog.cellsOf 28 = 8 := by kernel_rfl
theorem cellsStr : Tryz.prog.cellsOf 9 = 1 := by kernel_rfl
theorem cellsBool : Tryz.prog.cellsOf 4 = 1 := by kernel_rfl
theorem fields_tab : ∃ f0 f1 : Field, Tryz.prog.underlying 24 = some (.struct #[f0, f1]) ∧ (f0.offset = 0 ∧ f1.offset = 1) ∧ f0.type = 22 ∧ f1.type = 3 :=
  ⟨_, _, Tryz.underlying24, ⟨rfl, rfl⟩, rfl, rfl⟩
theorem fields_case : ∃ f0 f1 f2 f3 : Field, Tryz.prog.underlying 28 = some (.struct #[f0, f1, f2, f3]) ∧ (f0.offset = 0 ∧ f1.offset = 5 ∧ f2.offset = 6 ∧ f3.offset = 7) ∧ f0.type = 26 ∧ f1.type = 9 ∧ f2.type = 22 ∧ f3.type = 4 :=
  ⟨_, _, _, _, Tryz.underlying28, ⟨rfl, rfl, rfl, rfl⟩, rfl, rfl, rfl, rfl⟩
theorem array2 {cs : Array Value} (h : cs.size = 2) : ∃ c0 c1, cs = #[c0, c1] := by
  obtain ⟨l⟩ := cs
  match l, h with
  | [c0, c1], _ => exact ⟨c0, c1, rfl⟩
theorem array8 {cs : Array Value} (h : cs.size = 8) : ∃ c0 c1 c2 c3 c4 c5 c6 c7, cs = #[c0, c1, c2, c3, c4, c5, c6, c7] := by
  obtain ⟨l⟩ := cs
  match l, h with
  | [c0, c1, c2, c3, c4, c5, c6, c7], _ => exact ⟨c0, c1, c2, c3, c4, c5, c6, c7, rfl⟩
section
variable {H : Type} {enc : TypeId × Value → H} {W : World} {base : Nat} {spare : Nat → Bool} {held : Bool}
theorem trod_struct4 {t : TypeId} {f0 f1 f2 f3 : Field} {fuel : Nat} {cs : List Value} {x : DataW H × List MemPlace} {P : Program} {w : World} (ht : P.underlying t = some (.struct #[f0, f1, f2, f3])) (h : DataW.trod enc P w base spare held fuel t cs = some x) :
    ∃ y0 y1 y2 y3 n, DataW.trod enc P w base spare held n f0.type ((cs.drop f0.offset).take (P.cellsOf f0.type)) = some y0 ∧ DataW.trod enc P w base spare held n f1.type ((cs.drop f1.offset).take (P.cellsOf f1.type)) = some y1 ∧ DataW.trod enc P w base spare held n f2.type ((cs.drop f2.offset).take (P.cellsOf f2.type)) = some y2 ∧ DataW.trod enc P w base spare held n f3.type ((cs.drop f3.offset).take (P.cellsOf f3.type)) = some y3 := by
  obtain ⟨xs, n, _, rfl, hl, hlen, hf⟩ := DataW.trod_struct ht h
  match xs, hlen with
  | [y0, y1, y2, y3], _ => exact ⟨y0, y1, y2, y3, n, by simpa using hf 0 f0 rfl, by simpa using hf 1 f1 rfl, by simpa using hf 2 f2 rfl, by simpa using hf 3 f3 rfl⟩
set_option maxRecDepth 100000 in
/-- A table by value. -/
theorem open_table {r : Reach} {b0 : Nat} {v : Value} {d : DataW H} {p : List MemPlace} (hv : Value.okWide Tryz.prog W r b0 24 v) (h : DataW.Trod enc Tryz.prog W base spare held 24 v d p) :
    ∃ tb tl : Int, v = .agg #[.int .u64 tb, .int .i64 tl] ∧ (Lit.int .u64 tb).wf = true := by
  obtain ⟨f0, f1, hs, ⟨o0, o1⟩, t0, t1⟩ := fields_tab
  obtain ⟨cs, rfl, hsz⟩ := Go.WideShapes.okWide_struct hs hv
  obtain ⟨c0, c1, rfl⟩ := array2 (hsz.trans cellsTab)
  obtain ⟨fuel, hf⟩ := h
  obtain ⟨y0, y1, n, -, -, g0, g1⟩ := trod_struct2 hs hf
  rw [o0, t0, cellsU64] at g0
  rw [o1, t1, cellsInt] at g1
  obtain ⟨z0, e0, -, w0⟩ := DataW.trod_int Tryz.underlying22 g0
  obtain ⟨z1, e1, -⟩ := DataW.trod_int Tryz.underlying3 g1
  simp [Value.cells] at e0 e1
  subst e0 e1
  exact ⟨z0, z1, rfl, w0⟩
set_option maxRecDepth 100000 in
/-- A case by value. -/
theorem open_case {r : Reach} {b0 : Nat} {v : Value} {d : DataW H} {p : List MemPlace} (hv : Value.okWide Tryz.prog W r b0 28 v) (h : DataW.Trod enc Tryz.prog W base spare held 28 v d p) :
    ∃ (sd st sn sk ss : Int) (key : ByteArray) (lay : Int) (chk : Bool), v = .agg #[.int .u64 sd, .int .i64 st, .int .i64 sn, .int .i64 sk, .int .u64 ss, .string key, .int .u64 lay, .bool chk] ∧ (Lit.int .u64 sd).wf = true ∧ (Lit.int .u64 ss).wf = true ∧ (Lit.int .u64 lay).wf = true ∧ key.size ≤ maxLen := by
  obtain ⟨f0, f1, f2, f3, hs, ⟨o0, o1, o2, o3⟩, t0, t1, t2, t3⟩ := fields_case
  obtain ⟨cs, rfl, hsz⟩ := Go.WideShapes.okWide_struct hs hv
  obtain ⟨v0, v1, v2, v3, v4, v5, v6, v7, rfl⟩ := array8 (hsz.trans cellsCase)
  obtain ⟨fuel, hf⟩ := h
  obtain ⟨y0, y1, y2, y3, n, g0, g1, g2, g3⟩ := trod_struct4 hs hf
  rw [o0, t0, cellsSite] at g0
  rw [o1, t1, cellsStr] at g1
  rw [o2, t2, cellsU64] at g2
  rw [o3, t3, cellsBool] at g3
  obtain ⟨key, e5, -, hk⟩ := DataW.trod_string Tryz.underlying9 g1
  obtain ⟨z6, e6, -, w6⟩ := DataW.trod_int Tryz.underlying22 g2
  obtain ⟨z7, e7, -⟩ := DataW.trod_bool Tryz.underlying4 g3
  obtain ⟨f0, f1, f2, f3, f4, hs, ⟨o0, o1, o2, o3, o4⟩, t0, t1, t2, t3, t4⟩ := fields_site
  obtain ⟨y0, y1, y2, y3, y4, k, g0, g1, g2, g3, g4⟩ := trod_struct5 hs g0
  rw [o0, t0, cellsU64] at g0
  rw [o1, t1, cellsInt] at g1
  rw [o2, t2, cellsInt] at g2
  rw [o3, t3, cellsInt] at g3
  rw [o4, t4, cellsU64] at g4
  obtain ⟨z0, e0, -, w0⟩ := DataW.trod_int Tryz.underlying22 g0
  obtain ⟨z1, e1, -⟩ := DataW.trod_int Tryz.underlying3 g1
  obtain ⟨z2, e2, -⟩ := DataW.trod_int Tryz.underlying3 g2
  obtain ⟨z3, e3, -⟩ := DataW.trod_int Tryz.underlying3 g3
  obtain ⟨z4, e4, -, w4⟩ := DataW.trod_int Tryz.underlying22 g4
  simp [Value.cells] at e0 e1 e2 e3 e4 e5 e6 e7
  subst e0 e1 e2 e3 e4 e5 e6 e7
  exact ⟨z0, z1, z2, z3, z4, key, z6, z7, rfl, w0, w4, w6, hk⟩
end
end Go.Proofs.YtknefjigdlbacaaGreatDoor
