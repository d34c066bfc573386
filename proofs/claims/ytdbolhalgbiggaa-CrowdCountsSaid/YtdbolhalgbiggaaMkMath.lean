/-
  The acts of who makes a box, as plain data. No program in it. By an AI agent.
-/
import Derived.Test.YtdbolhalgbiggaaActMath
import Derived.Test.YtdbolhalgbiggaaActMath
namespace Go.Proofs.Ytdbolhalgbiggaa.Kr
open Go.Proofs.Ytdbolhalgbiggaa
abbrev A := Go.Proofs.Ytdbolhalgbiggaa.Ac.A
/-- Numbers as whole numbers. -/
def up (l : List Nat) : List Int := l.map fun n : Nat => (n : Int)
theorem up_len (l : List Nat) : (up l).length = l.length := by simp [up]
theorem up_get {l : List Nat} {j : Nat} (h : j < l.length) : (up l)[j]'(by rw [up_len]; exact h) = ((l.getD j 0 : Nat) : Int) := by
  unfold up
  rw [List.getElem_map, List.getD_eq_getElem?_getD, List.getElem?_eq_getElem h]; rfl
/-- Does an act come, behind j answers, the first of them b? -/
def more (n j b : Nat) : Bool := j == 0 || (b != 0 && decide (j ≤ n))
/-- The act that comes next. -/
def act (l : List Nat) (j b : Nat) : A := if more l.length j b = true then (if j = 0 then ⟨5, 0, l.length, 0, 0⟩ else ⟨2, b, ((j - 1 : Nat) : Int), 0, l.getD (j - 1) 0⟩) else ⟨0, 0, 0, 0, 0⟩
theorem act_zero (l : List Nat) (b : Nat) : act l 0 b = ⟨5, 0, l.length, 0, 0⟩ := by simp [act, more]
theorem act_store {l : List Nat} {j b : Nat} (hb : b ≠ 0) (hj : j < l.length) : act l (j + 1) b = ⟨2, b, (j : Int), 0, l.getD j 0⟩ := by
  unfold act more
  simp [hb]; try omega
theorem act_none {l : List Nat} {j b : Nat} (h : more l.length j b = false) : act l j b = ⟨0, 0, 0, 0, 0⟩ := by simp [act, h]
/-- The first answer is the block. -/
def blk (j b v : Nat) : Nat := if j = 0 then v else b
theorem blk_zero (b v : Nat) : blk 0 b v = v := rfl
theorem blk_succ (j b v : Nat) : blk (j + 1) b v = b := rfl
theorem more_zero (n b : Nat) : more n 0 b = true := rfl
theorem more_succ {n j b : Nat} : more n (j + 1) b = true ↔ b ≠ 0 ∧ j < n := by simp [more]; intro _; omega
theorem more_no {n j b : Nat} (h : more n j b = false) : more n (j + 1) b = false := by
  cases h2 : more n (j + 1) b with
  | false => rfl
  | true =>
    obtain ⟨h3, h4⟩ := more_succ.1 h2
    cases j with
    | zero => simp [more] at h
    | succ j => rw [more_succ.2 ⟨h3, by omega⟩] at h; cases h
end Go.Proofs.Ytdbolhalgbiggaa.Kr
