/-
  Several texts in one: From the row's list of tables to the table that the walks read; a start at which the listed table lies as its own text lays it; how a site that came in is opened; How the arguments of SeekFinds and SeekOnce are opened: a site, a list of texts. By an AI agent.
-/
import Derived.Test.YtknefjigdlbacaaGreatDoorCards
import Derived.Test.YtknefjigdlbacaaGreatDoorTie
import Derived.Test.YtknefjigdlbacaaGreatDoorSkGAK
import Derived.WalkKit
import Derived.ProofKit
import Derived.OpenShut
import Derived.Deep.DeepHandedRow
import Derived.Lib.LaidTab
import Derived.LaidSub
import Derived.ChangeSame
import Derived.Test.YtknefjigdlbacaaGreatDoorSkGBU
set_option linter.unusedSimpArgs false
set_option linter.unusedVariables false
namespace Go.Proofs.YtknefjigdlbacaaGreatDoor
open Go.ChangeShapes Go.WideShapes Go.ChangeAt Go.RowKit
theorem own : ownKnob Tryz.prog.godebug = none := by kernel_rfl
theorem gBdType : (Tryz.prog.globals[0]?).map (·.type) = some 158 := by kernel_rfl
theorem cellsBds : Tryz.prog.cellsOf 158 = 6 := by kernel_rfl
theorem cellsBd : Tryz.prog.cellsOf 157 = 2 := by kernel_rfl
theorem cellsInt : Tryz.prog.cellsOf 3 = 1 := by kernel_rfl
theorem cellsU64 : Tryz.prog.cellsOf 22 = 1 := by kernel_rfl
theorem cellsSite : Tryz.prog.cellsOf 26 = 5 := by kernel_rfl
theorem fields_bound : ∃ f0 f1 : Field, Tryz.prog.underlying 157 = some (.struct #[f0, f1]) ∧ (f0.offset = 0 ∧ f1.offset = 1) ∧ f0.type = 3 ∧ f1.type = 3 :=
  ⟨_, _, Tryz.underlying157, ⟨rfl, rfl⟩, rfl, rfl⟩
theorem fields_site : ∃ f0 f1 f2 f3 f4 : Field, Tryz.prog.underlying 26 = some (.struct #[f0, f1, f2, f3, f4]) ∧ (f0.offset = 0 ∧ f1.offset = 1 ∧ f2.offset = 2 ∧ f3.offset = 3 ∧ f4.offset = 4) ∧ f0.type = 22 ∧ f1.type = 3 ∧ f2.type = 3 ∧ f3.type = 3 ∧ f4.type = 22 :=
  ⟨_, _, _, _, _, Tryz.underlying26, ⟨rfl, rfl, rfl, rfl, rfl⟩, rfl, rfl, rfl, rfl, rfl⟩
theorem array5 {cs : Array Value} (h : cs.size = 5) : ∃ c0 c1 c2 c3 c4, cs = #[c0, c1, c2, c3, c4] := by
  obtain ⟨l⟩ := cs
  match l, h with
  | [c0, c1, c2, c3, c4], _ => exact ⟨c0, c1, c2, c3, c4, rfl⟩
theorem list6 : ∀ (cs : List Value), cs.length = 6 → ∃ v0 v1 v2 v3 v4 v5, cs = [v0, v1, v2, v3, v4, v5]
  | [v0, v1, v2, v3, v4, v5], _ => ⟨v0, v1, v2, v3, v4, v5, rfl⟩
/-- The list of the rows' tables. -/
abbrev tables : List (String × DataW Unit) := [("sprocket/desk.bounds", Rows.laid_sprocket_desk_bounds)]
section
variable {H : Type} {enc : TypeId × Value → H} {W : World} {base : Nat} {spare : Nat → Bool} {held : Bool}
/-- Two cells that read as a bound are two numbers. -/
theorem bound_open {fuel : Nat} {u v : Value} {x : DataW H × List MemPlace} (h : DataW.trod enc Tryz.prog W base spare held fuel 157 [u, v] = some x) :
    ∃ a b : Int, u = .int .i64 a ∧ v = .int .i64 b ∧ x.1 = .agg [.lit (.int .i64 a), .lit (.int .i64 b)] := by
  obtain ⟨f0, f1, hs, ⟨o0, o1⟩, t0, t1⟩ := fields_bound
  obtain ⟨y0, y1, n, rfl, -, g0, g1⟩ := trod_struct2 hs h
  rw [o0, t0, cellsInt] at g0
  rw [o1, t1, cellsInt] at g1
  obtain ⟨z0, e0, rfl, -⟩ := DataW.trod_int Tryz.underlying3 g0
  obtain ⟨z1, e1, rfl, -⟩ := DataW.trod_int Tryz.underlying3 g1
  simp at e0 e1
  exact ⟨z0, z1, e0, e1, rfl⟩
/-- The table that reads as the list holds it, cell for cell. -/
theorem cells_of_bds {fuel : Nat} {cs : List Value} {p : List MemPlace} (h : DataW.trod enc Tryz.prog W base spare held fuel 158 cs = some (Rows.laid_sprocket_desk_bounds, p)) : cs = bds.toList := by
  cases fuel with
  | zero => simp [DataW.trod] at h
  | succ fuel =>
    simp only [DataW.trod, Tryz.underlying158, cellsBd, cellsBds] at h
    split at h
    · rename_i hl
      obtain ⟨xs, hm, hx⟩ := Option.map_eq_some_iff.1 h
      have hxl : xs.length = 3 := by simpa using Lib.mapM_length hm
      have hxs := congrArg Prod.fst hx
      obtain ⟨v0, v1, v2, v3, v4, v5, rfl⟩ := list6 cs hl
      obtain ⟨b0, hb0, hf0⟩ := Lib.mapM_at hm 0 0 (by simp)
      obtain ⟨b1, hb1, hf1⟩ := Lib.mapM_at hm 1 1 (by simp)
      obtain ⟨b2, hb2, hf2⟩ := Lib.mapM_at hm 2 2 (by simp)
      obtain ⟨a0, a1, rfl, rfl, q0⟩ := bound_open (by simpa using hf0)
      obtain ⟨a2, a3, rfl, rfl, q1⟩ := bound_open (by simpa using hf1)
      obtain ⟨a4, a5, rfl, rfl, q2⟩ := bound_open (by simpa using hf2)
      match xs, hxl with
      | [c0, c1, c2], _ =>
        simp only [List.getElem?_cons_zero, List.getElem?_cons_succ, Option.some.injEq] at hb0 hb1 hb2
        subst hb0 hb1 hb2
        simp [Rows.laid_sprocket_desk_bounds, q0, q1, q2] at hxs
        obtain ⟨⟨rfl, rfl⟩, ⟨rfl, rfl⟩, rfl, rfl⟩ := hxs
        rfl
    · cases h
theorem trod_struct5 {t : TypeId} {f0 f1 f2 f3 f4 : Field} {fuel : Nat} {cs : List Value} {x : DataW H × List MemPlace} {P : Program} {w : World} (ht : P.underlying t = some (.struct #[f0, f1, f2, f3, f4])) (h : DataW.trod enc P w base spare held fuel t cs = some x) :
    ∃ y0 y1 y2 y3 y4 n, DataW.trod enc P w base spare held n f0.type ((cs.drop f0.offset).take (P.cellsOf f0.type)) = some y0 ∧ DataW.trod enc P w base spare held n f1.type ((cs.drop f1.offset).take (P.cellsOf f1.type)) = some y1 ∧ DataW.trod enc P w base spare held n f2.type ((cs.drop f2.offset).take (P.cellsOf f2.type)) = some y2 ∧ DataW.trod enc P w base spare held n f3.type ((cs.drop f3.offset).take (P.cellsOf f3.type)) = some y3 ∧ DataW.trod enc P w base spare held n f4.type ((cs.drop f4.offset).take (P.cellsOf f4.type)) = some y4 := by
  obtain ⟨xs, n, _, rfl, hl, hlen, hf⟩ := DataW.trod_struct ht h
  match xs, hlen with
  | [y0, y1, y2, y3, y4], _ => exact ⟨y0, y1, y2, y3, y4, n, by simpa using hf 0 f0 rfl, by simpa using hf 1 f1 rfl, by simpa using hf 2 f2 rfl, by simpa using hf 3 f3 rfl, by simpa using hf 4 f4 rfl⟩
theorem open_agg5 {P : Program} {r : Reach} {b0 : Nat} {t : TypeId} {fs : Array Field} {v : Value} {d : DataW H} {p : List MemPlace} (hs : P.underlying t = some (.struct fs)) (hC : P.cellsOf t = 5)
    (hv : Value.okWide P W r b0 t v) (h : DataW.Trod enc P W base spare held t v d p) : ∃ v0 v1 v2 v3 v4 fuel x, v = .agg #[v0, v1, v2, v3, v4] ∧ DataW.trod enc P W base spare held fuel t [v0, v1, v2, v3, v4] = some x := by
  obtain ⟨cs, rfl, hsz⟩ := Go.WideShapes.okWide_struct hs hv
  obtain ⟨c0, c1, c2, c3, c4, rfl⟩ := array5 (hsz.trans hC)
  obtain ⟨fuel, hf⟩ := h
  exact ⟨c0, c1, c2, c3, c4, fuel, _, rfl, by simpa [Value.cells] using hf⟩
set_option maxRecDepth 100000 in
/-- A site by value. -/
theorem open_site {r : Reach} {b0 : Nat} {v : Value} {d : DataW H} {p : List MemPlace} (hv : Value.okWide Tryz.prog W r b0 26 v) (h : DataW.Trod enc Tryz.prog W base spare held 26 v d p) :
    ∃ sd st sn sk ss : Int, v = .agg #[.int .u64 sd, .int .i64 st, .int .i64 sn, .int .i64 sk, .int .u64 ss] ∧ 0 ≤ sd := by
  obtain ⟨f0, f1, f2, f3, f4, hs, ⟨o0, o1, o2, o3, o4⟩, t0, t1, t2, t3, t4⟩ := fields_site
  obtain ⟨v0, v1, v2, v3, v4, fuel, x, rfl, hf⟩ := open_agg5 hs cellsSite hv h
  obtain ⟨y0, y1, y2, y3, y4, k, g0, g1, g2, g3, g4⟩ := trod_struct5 hs hf
  rw [o0, t0, cellsU64] at g0
  rw [o1, t1, cellsInt] at g1
  rw [o2, t2, cellsInt] at g2
  rw [o3, t3, cellsInt] at g3
  rw [o4, t4, cellsU64] at g4
  obtain ⟨z0, e0, -, w0⟩ := DataW.trod_int Tryz.underlying22 g0
  obtain ⟨z1, e1, -⟩ := DataW.trod_int Tryz.underlying3 g1
  obtain ⟨z2, e2, -⟩ := DataW.trod_int Tryz.underlying3 g2
  obtain ⟨z3, e3, -⟩ := DataW.trod_int Tryz.underlying3 g3
  obtain ⟨z4, e4, -⟩ := DataW.trod_int Tryz.underlying22 g4
  simp at e0 e1 e2 e3 e4
  subst e0 e1 e2 e3 e4
  exact ⟨z0, z1, z2, z3, z4, rfl, (bounds_u64 w0).1⟩
end
/-- WHAT THE ROW's LIST GIVES: the bounds. -/
theorem bd_of {W : World} (h : laidMetH Tryz.prog tables W) : Bd W := by
  obtain ⟨ps, ⟨g', t', cs, fuel, p, q, hg', ht', hvar, hd, _, _⟩, _⟩ := h
  obtain rfl := Option.some.inj (gBd.symm.trans hg')
  obtain rfl := Option.some.inj (gBdType.symm.trans ht')
  unfold Bd
  rw [hvar, Array.ext' (cells_of_bds hd)]
/-- A table's block, filled. -/
def filled (cs : Array Value) : Obj → Obj
  | .cells _ t frozen => .cells cs t frozen
  | o => o
/-- A world for the witness: the settled one, the table holding what its initialiser lays. -/
noncomputable def laidWorld (os : Os) : World :=
  { World.holding Tryz.prog os ⟨#[], #[], []⟩ with heap := (World.holding Tryz.prog os ⟨#[], #[], []⟩).heap.modify 0 (filled bds) }
end Go.Proofs.YtknefjigdlbacaaGreatDoor
set_option linter.unusedSimpArgs false
set_option linter.unusedVariables false
namespace Go.Proofs.YtknefjigdlbacaaGreatDoor
open Go.ChangeShapes Go.WideShapes Go.ChangeAt Go.RowKit
/-- A list of texts, at a plain address. -/
theorem stx_of {w : World} {a : Addr} {len : Nat} {ss : List ByteArray} (hl : len ≤ ss.length) (h : ∀ i, i < ss.length → w.cell? (a.add i) = some (.string (ss.getD i ByteArray.empty))) : Stx w w.heap.size (some a) (ss.take len) := by
  by_cases h0 : len = 0
  · subst h0; exact .inl rfl
  · obtain ⟨b, off, spot⟩ := a
    have hspot : spot = none := by simpa [Addr.add] using World.cell?_spot (h 0 (by omega))
    subst hspot
    have hc : ∀ j, j < ss.length → w.cell? ⟨b, off + j, none⟩ = some (.string (ss.getD j ByteArray.empty)) := fun j hj => by rw [← Go.WideShapes.add_plain]; exact h j hj
    refine .inr ⟨b, off, rfl, World.block_lt_of_cell? w _ (hc 0 (by omega)), fun j hj => ?_⟩
    rw [List.length_take] at hj
    rw [hc j (by omega), List.getD_eq_getElem?_getD, List.getD_eq_getElem?_getD, List.getElem?_take, if_pos (by omega)]
    rfl
theorem first_long (f : Nat → Nat) : ∀ L, ∃ J, J ≤ L ∧ (∀ r, r < J → f r ≤ 16) ∧ (J < L → 16 < f J)
  | 0 => ⟨0, Nat.le_refl _, fun r hr => by omega, fun h => by omega⟩
  | L + 1 => by
    obtain ⟨J, h1, h2, h3⟩ := first_long f L
    by_cases hJ : J < L
    · exact ⟨J, by omega, h2, fun _ => h3 hJ⟩
    · obtain rfl : J = L := by omega
      by_cases h16 : f J ≤ 16
      · refine ⟨J + 1, Nat.le_refl _, fun r hr => ?_, fun h => by omega⟩
        by_cases e : r = J
        · subst e; exact h16
        · exact h2 r (by omega)
      · exact ⟨J, by omega, h2, fun _ => by omega⟩
section
variable {H : Type} {enc : TypeId × Value → H} {W : World} {base : Nat} {spare : Nat → Bool} {held : Bool}
set_option maxRecDepth 100000 in
/-- A site by value. -/
theorem open_site2 {r : Reach} {b0 : Nat} {v : Value} {d : DataW H} {p : List MemPlace} (hv : Value.okWide Tryz.prog W r b0 26 v) (h : DataW.Trod enc Tryz.prog W base spare held 26 v d p) :
    ∃ sd st sn sk ss : Int, v = .agg #[.int .u64 sd, .int .i64 st, .int .i64 sn, .int .i64 sk, .int .u64 ss] ∧ (Lit.int .u64 sd).wf = true ∧ (Lit.int .u64 ss).wf = true := by
  obtain ⟨f0, f1, f2, f3, f4, hs, ⟨o0, o1, o2, o3, o4⟩, t0, t1, t2, t3, t4⟩ := fields_site
  obtain ⟨v0, v1, v2, v3, v4, fuel, x, rfl, hf⟩ := open_agg5 hs cellsSite hv h
  obtain ⟨y0, y1, y2, y3, y4, k, g0, g1, g2, g3, g4⟩ := trod_struct5 hs hf
  rw [o0, t0, cellsU64] at g0
  rw [o1, t1, cellsInt] at g1
  rw [o2, t2, cellsInt] at g2
  rw [o3, t3, cellsInt] at g3
  rw [o4, t4, cellsU64] at g4
  obtain ⟨z0, e0, -, w0⟩ := DataW.trod_int Tryz.underlying22 g0
  obtain ⟨z1, e1, -⟩ := DataW.trod_int Tryz.underlying3 g1
  obtain ⟨z2, e2, -⟩ := DataW.trod_int Tryz.underlying3 g2
  obtain ⟨z3, e3, -⟩ := DataW.trod_int Tryz.underlying3 g3
  obtain ⟨z4, e4, -, w4⟩ := DataW.trod_int Tryz.underlying22 g4
  simp at e0 e1 e2 e3 e4
  subst e0 e1 e2 e3 e4
  exact ⟨z0, z1, z2, z3, z4, rfl, w0, w4⟩
end
end Go.Proofs.YtknefjigdlbacaaGreatDoor
