/-
  The walk of shortages: a map of numbers that a call makes; what is looked up in it. By an AI agent.
-/
import Derived.Test.YtigopifioijjlaaSpecParts
import Derived.Maps.OwnSet
set_option linter.unusedSimpArgs false
namespace Go.Proofs.Ytigopifioijjlaa
open Go.RowKit Go.Maps
theorem klaw : Keyed Try.prog 3 := int_keyed Try.underlying3
/-- The map so far. -/
def tbl : Nat → DataW Unit
  | 0 => .map []
  | n + 1 => (tbl n).put (.int .i64 ((n : Int) + 1)) (.lit (.int .i64 10))
theorem tbl_map : ∀ n, IsMap (tbl n)
  | 0 => ⟨[], rfl⟩
  | n + 1 => by
    obtain ⟨es, e⟩ := tbl_map n
    unfold tbl; rw [e]; exact ⟨_, rfl⟩
theorem tbl_at : ∀ (n : Nat) (k : Int) (z : DataW Unit), (tbl n).atKey (.int .i64 k) z = if 1 ≤ k ∧ k ≤ n then .lit (.int .i64 10) else z
  | 0, k, z => by
    rw [if_neg (by omega)]; rfl
  | n + 1, k, z => by
    unfold tbl
    by_cases h : k = (n : Int) + 1
    · subst h
      rw [atKey_put_same (tbl_map n) (by simp [WideAt.IsKeyLit]), if_pos (by omega)]
    · rw [atKey_put_other (by intro e; cases e; exact h rfl), tbl_at n k z]
      by_cases h2 : 1 ≤ k ∧ k ≤ n
      · rw [if_pos h2, if_pos (by omega)]
      · rw [if_neg h2, if_neg (by omega)]
theorem tbl_has : ∀ (n : Nat) (k : Int), Maps.has (tbl n) (.int .i64 k) = decide (1 ≤ k ∧ k ≤ n)
  | 0, k => by
    have : ¬ (1 ≤ k ∧ k ≤ ((0 : Nat) : Int)) := by omega
    rw [decide_eq_false this]; rfl
  | n + 1, k => by
    unfold tbl
    by_cases h : k = (n : Int) + 1
    · subst h
      rw [has_put_same (tbl_map n) (by simp [WideAt.IsKeyLit]), eq_comm, decide_eq_true_eq]; omega
    · rw [has_put_other (by intro e; cases e; exact h rfl), tbl_has n k, decide_eq_decide]; omega
theorem zeroE (w : World) : (zeroValue 28).run Try.prog w = .ok (.int .i64 0) w := by kernel_rfl
/-- What is looked up. -/
def shortN (k : Int) : Int := if 1 ≤ k ∧ k ≤ 10 then 10 else 0
def shortK (k : Int) : Bool := decide (1 ≤ k ∧ k ≤ 10)
/-- A call answers that map. -/
def Shorts (w : World) (e : Ending) (w' : World) : Prop := ∃ b, e = .returned (.map (some b)) ∧ Below w.heap.size w w' ∧ ∀ k : Int, (Lit.int .i64 k).wf = true → (Instr.lookup 50 (.map (some b)) (.int .i64 k) true).run Try.prog w' = .ok (.tuple #[.int .i64 (shortN k), .bool (shortK k)]) w'
theorem Shorts.of {w w' : World} {b n : Nat} (h : w'.ownsMap Try.prog 3 (plainElem Try.prog 28) b n (tbl 10)) (hB : Below w.heap.size w w') : Shorts w (.returned (.map (some b))) w' := by
  refine ⟨b, rfl, hB, fun k hk => ?_⟩
  obtain ⟨v, ps, hrun, hv⟩ := h.look_ok (t := 50) klaw Try.underlying50 (zeroE _) (plainElem_int Try.underlying28 (by decide)) (keyOf_int_mk Try.underlying3 hk)
  rw [tbl_at, tbl_has] at *
  obtain ⟨c, rfl, hc, -⟩ := plainElem_int_inv Try.underlying28 hv
  rw [hrun]
  have : c = shortN k := by
    unfold shortN
    have hc' := congrArg Prod.fst hc
    simp only at hc'
    by_cases h2 : 1 ≤ k ∧ k ≤ 10
    · rw [if_pos h2]; rw [if_pos (by omega)] at hc'; injection hc' with hc'; injection hc' with _ hc'; exact hc'.symm
    · rw [if_neg h2]; rw [if_neg (by omega)] at hc'; injection hc' with hc'; injection hc' with _ hc'; exact hc'.symm
  rw [this]; rfl
set_option maxRecDepth 100000 in
set_option maxHeartbeats 4000000 in
theorem shortages_any (w : World) : Calls Try.prog 24 #[] w (Shorts w) := by
  have hmm := @run_makeMap Try.prog
  have H0 := Lib.hid (World.ownsMap_made (H := Unit) w Try.prog 3 (plainElem Try.prog 28))
  have B0 : Hid (Below w.heap.size w (w.alloc (.map #[] 0))) := Lib.hid ((Below.refl _ w).alloc (Nat.le_refl _) _)
  obtain ⟨w1, r1, h1, g1⟩ := H0.out.update (t := 50) (key := .int .i64 1) (val := .int .i64 10) klaw Try.underlying50 (by decide) (keyOf_int_mk Try.underlying3 (by decide)) (plainElem_int Try.underlying28 (by decide))
  have H1 := Lib.hid h1; clear h1
  have B1 : Hid (Below w.heap.size w w1) := Lib.hid (B0.out.grown g1 B0.out.size (fun j hj => by cases hj; exact Nat.le_refl _)); clear g1
  obtain ⟨w2, r2, h2, g2⟩ := H1.out.update (t := 50) (key := .int .i64 2) (val := .int .i64 10) klaw Try.underlying50 (by decide) (keyOf_int_mk Try.underlying3 (by decide)) (plainElem_int Try.underlying28 (by decide))
  have H2 := Lib.hid h2; clear h2
  have B2 : Hid (Below w.heap.size w w2) := Lib.hid (B1.out.grown g2 B1.out.size (fun j hj => by cases hj; exact Nat.le_refl _)); clear g2
  obtain ⟨w3, r3, h3, g3⟩ := H2.out.update (t := 50) (key := .int .i64 3) (val := .int .i64 10) klaw Try.underlying50 (by decide) (keyOf_int_mk Try.underlying3 (by decide)) (plainElem_int Try.underlying28 (by decide))
  have H3 := Lib.hid h3; clear h3
  have B3 : Hid (Below w.heap.size w w3) := Lib.hid (B2.out.grown g3 B2.out.size (fun j hj => by cases hj; exact Nat.le_refl _)); clear g3
  obtain ⟨w4, r4, h4, g4⟩ := H3.out.update (t := 50) (key := .int .i64 4) (val := .int .i64 10) klaw Try.underlying50 (by decide) (keyOf_int_mk Try.underlying3 (by decide)) (plainElem_int Try.underlying28 (by decide))
  have H4 := Lib.hid h4; clear h4
  have B4 : Hid (Below w.heap.size w w4) := Lib.hid (B3.out.grown g4 B3.out.size (fun j hj => by cases hj; exact Nat.le_refl _)); clear g4
  obtain ⟨w5, r5, h5, g5⟩ := H4.out.update (t := 50) (key := .int .i64 5) (val := .int .i64 10) klaw Try.underlying50 (by decide) (keyOf_int_mk Try.underlying3 (by decide)) (plainElem_int Try.underlying28 (by decide))
  have H5 := Lib.hid h5; clear h5
  have B5 : Hid (Below w.heap.size w w5) := Lib.hid (B4.out.grown g5 B4.out.size (fun j hj => by cases hj; exact Nat.le_refl _)); clear g5
  obtain ⟨w6, r6, h6, g6⟩ := H5.out.update (t := 50) (key := .int .i64 6) (val := .int .i64 10) klaw Try.underlying50 (by decide) (keyOf_int_mk Try.underlying3 (by decide)) (plainElem_int Try.underlying28 (by decide))
  have H6 := Lib.hid h6; clear h6
  have B6 : Hid (Below w.heap.size w w6) := Lib.hid (B5.out.grown g6 B5.out.size (fun j hj => by cases hj; exact Nat.le_refl _)); clear g6
  obtain ⟨w7, r7, h7, g7⟩ := H6.out.update (t := 50) (key := .int .i64 7) (val := .int .i64 10) klaw Try.underlying50 (by decide) (keyOf_int_mk Try.underlying3 (by decide)) (plainElem_int Try.underlying28 (by decide))
  have H7 := Lib.hid h7; clear h7
  have B7 : Hid (Below w.heap.size w w7) := Lib.hid (B6.out.grown g7 B6.out.size (fun j hj => by cases hj; exact Nat.le_refl _)); clear g7
  obtain ⟨w8, r8, h8, g8⟩ := H7.out.update (t := 50) (key := .int .i64 8) (val := .int .i64 10) klaw Try.underlying50 (by decide) (keyOf_int_mk Try.underlying3 (by decide)) (plainElem_int Try.underlying28 (by decide))
  have H8 := Lib.hid h8; clear h8
  have B8 : Hid (Below w.heap.size w w8) := Lib.hid (B7.out.grown g8 B7.out.size (fun j hj => by cases hj; exact Nat.le_refl _)); clear g8
  obtain ⟨w9, r9, h9, g9⟩ := H8.out.update (t := 50) (key := .int .i64 9) (val := .int .i64 10) klaw Try.underlying50 (by decide) (keyOf_int_mk Try.underlying3 (by decide)) (plainElem_int Try.underlying28 (by decide))
  have H9 := Lib.hid h9; clear h9
  have B9 : Hid (Below w.heap.size w w9) := Lib.hid (B8.out.grown g9 B8.out.size (fun j hj => by cases hj; exact Nat.le_refl _)); clear g9
  obtain ⟨w10, r10, h10, g10⟩ := H9.out.update (t := 50) (key := .int .i64 10) (val := .int .i64 10) klaw Try.underlying50 (by decide) (keyOf_int_mk Try.underlying3 (by decide)) (plainElem_int Try.underlying28 (by decide))
  have H10 := Lib.hid h10; clear h10
  have B10 : Hid (Below w.heap.size w w10) := Lib.hid (B9.out.grown g10 B9.out.size (fun j hj => by cases hj; exact Nat.le_refl _)); clear g10
  go_enter Try.func24, Try.ntmps24
  go_wp2
  go_ret
  exact Shorts.of (n := 10) H10.out B10.out
end Go.Proofs.Ytigopifioijjlaa
