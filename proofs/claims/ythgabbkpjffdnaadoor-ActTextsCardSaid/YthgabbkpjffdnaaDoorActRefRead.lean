/-
  The document's Read: its first two loops. By an AI agent.
-/
import Derived.Test.YthgabbkpjffdnaaDoorActParts
import Derived.Test.YthgabbkpjffdnaaDoorActCommon
import Derived.Test.YthgabbkpjffdnaaDoorActReadParts
import Derived.Test.YthgabbkpjffdnaaDoorDigitRef
set_option linter.unusedSimpArgs false
set_option linter.unusedVariables false
namespace Go.Proofs.YthgabbkpjffdnaaDoor
open Go.RowKit Go.Maps
open Ac (A)
/-- The numbers of texts. -/
def pv (ps : List (List UInt8)) : List Int := ps.map fun p => (Dt.Dg.wordV p 20 : Int)
/-- All are numbers. -/
def allW (ps : List (List UInt8)) : Prop := ∀ p ∈ ps, Dt.Dg.wordE p 20 = 0
/-- The row of the parts, kept beside a row that grows. -/
def LS (a : Option Addr) (ts : List (List UInt8)) (u : Value) (w : World) : Prop := ∀ k (hk : k < ts.length), ∃ b, a = some ⟨b, 0, none⟩ ∧ b < w.heap.size ∧ u.ownBlock ≠ some b ∧ w.cell? ⟨b, k, none⟩ = some (.string ⟨ts[k].toArray⟩)
theorem LS.grow {a : Option Addr} {ts : List (List UInt8)} {u u' : Value} {w w' : World} {o : Obj} (h : LS a ts u w) (hg : (w.alloc o).grownBy w' u.ownBlock) (hat : u'.ownBlock = u.ownBlock ∨ u'.ownBlock = some (w.alloc o).heap.size) : LS a ts u' w' := fun k hk => by
  obtain ⟨b, ea, hlt, hne, hc⟩ := h k hk
  have hz : (w.alloc o).heap.size = w.heap.size + 1 := by simp
  refine ⟨b, ea, by have := hg.size; omega, ?_, ?_⟩
  · rcases hat with e | e
    · rw [e]; exact hne
    · rw [e, hz]; intro e'; injection e' with e'; omega
  · rw [cell_keep (hg.block b (by omega) (fun e => hne e.symm)) k]
    have : (w.alloc o).cell? ⟨b, k, none⟩ = w.cell? ⟨b, k, none⟩ := ((Below.refl w.heap.size w).alloc (Nat.le_refl _) o).cell (p := ⟨b, k, none⟩) hlt
    rw [this]; exact hc
theorem row_strs {w : World} {B : Nat} {v : Value} {ts : List (List UInt8)} (h : w.ownsRow B 9 1 v ts.length (tcs ts)) :
    ∃ a c, v = .slice a ts.length c ∧ ∀ k (hk : k < ts.length), ∃ b, a = some ⟨b, 0, none⟩ ∧ B ≤ b ∧ b < w.heap.size ∧ w.cell? ⟨b, k, none⟩ = some (.string ⟨ts[k].toArray⟩) := by
  have hlt := fun k hk => h.lt k hk
  rcases h.2 with ⟨rfl, h0⟩ | ⟨g, cap, cur, rfl, _, hg, _, _, _, ht⟩
  · exact ⟨none, 0, by rw [h0], fun k hk => by omega⟩
  · refine ⟨_, _, rfl, fun k hk => ⟨g, rfl, (hlt g rfl).1, (hlt g rfl).2, ?_⟩⟩
    have e1 : (tcs ts)[k]? = some (.string ⟨ts[k].toArray⟩) := by simp [tcs, hk]
    rw [← ht, List.getElem?_take, if_pos (by omega)] at e1
    simpa [World.cell?, hg] using e1
theorem partsOf_len : ∀ (l : List UInt8), (partsOf l).length ≤ l.length + 1 ∧ ∀ p ∈ partsOf l, p.length ≤ l.length
  | [] => by simp [partsOf]
  | x :: l => by
    obtain ⟨h1, h2⟩ := partsOf_len l
    by_cases hx : x = 32
    · subst hx
      simp only [partsOf, if_true, List.length_cons]
      refine ⟨by omega, fun p hp => ?_⟩
      rcases List.mem_cons.1 hp with rfl | hp
      · simp
      · have := h2 p hp; omega
    · cases hp : partsOf l with
      | nil => exact absurd hp (partsOf_ne l)
      | cons q qs =>
        rw [partsOf_cons hx hp]
        rw [hp] at h1 h2
        simp only [List.length_cons] at h1 ⊢
        refine ⟨by omega, fun p hp => ?_⟩
        rcases List.mem_cons.1 hp with rfl | hp
        · have := h2 q (by simp); simp; omega
        · have := h2 p (by simp [hp]); omega
/-- What the third loop finds: the numbers, four at least. -/
structure Four (W w : World) (u : Value) (P : List Int) : Prop where
  row : ∃ g M c, u = .slice (some ⟨g, 0, none⟩) M c ∧ 4 ≤ M ∧ g < w.heap.size ∧ w.cell? ⟨g, 0, none⟩ = some (.int .u64 (P.getD 0 0)) ∧ w.cell? ⟨g, 1, none⟩ = some (.int .u64 (P.getD 1 0)) ∧ w.cell? ⟨g, 2, none⟩ = some (.int .u64 (P.getD 2 0)) ∧ w.cell? ⟨g, 3, none⟩ = some (.int .u64 (P.getD 3 0))
theorem getD_rep (P : List Int) (j i : Nat) : (P ++ List.replicate j 0).getD i 0 = P.getD i 0 := by
  simp only [List.getD_eq_getElem?_getD]
  by_cases h : i < P.length
  · rw [List.getElem?_append_left h]
  · rw [List.getElem?_append_right (by omega), List.getElem?_eq_none (l := P) (by omega)]
    by_cases h2 : i - P.length < j
    · simp [h2]
    · rw [List.getElem?_eq_none (by simp; omega)]
theorem four_of {W w : World} {B : Nat} {u : Value} {P : List Int} {j : Nat} (h : w.ownsRow B 23 1 u (P ++ List.replicate j 0).length (ws (P ++ List.replicate j 0))) (h4 : 4 ≤ (P ++ List.replicate j 0).length) : Four W w u P := by
  obtain ⟨a, c, rfl, hc⟩ := Wl.of_row h
  obtain ⟨b, rfl, -, hlt, h0⟩ := hc 0 (by omega)
  obtain ⟨b1, e1, -, -, h1⟩ := hc 1 (by omega)
  obtain ⟨b2, e2, -, -, h2⟩ := hc 2 (by omega)
  obtain ⟨b3, e3, -, -, h3⟩ := hc 3 (by omega)
  cases e1; cases e2; cases e3
  have g : ∀ i (hi : i < (P ++ List.replicate j 0).length), (P ++ List.replicate j 0)[i] = P.getD i 0 := fun i hi => by
    rw [← getD_rep P j i, List.getD_eq_getElem?_getD, List.getElem?_eq_getElem hi]; rfl
  rw [g] at h0 h1 h2 h3
  exact ⟨⟨b, _, c, rfl, h4, hlt, h0, h1, h2, h3⟩⟩
theorem Four.below {W w w' : World} {u : Value} {P : List Int} (h : Four W w u P) (hb : Below w.heap.size w w') : Four W w' u P := by
  obtain ⟨g, M, c, e, h4, hlt, h0, h1, h2, h3⟩ := h.row
  exact ⟨⟨g, M, c, e, h4, Nat.lt_of_lt_of_le hlt hb.size, (hb.cell (p := ⟨g, 0, none⟩) hlt).trans h0, (hb.cell (p := ⟨g, 1, none⟩) hlt).trans h1, (hb.cell (p := ⟨g, 2, none⟩) hlt).trans h2, (hb.cell (p := ⟨g, 3, none⟩) hlt).trans h3⟩⟩
end Go.Proofs.YthgabbkpjffdnaaDoor
