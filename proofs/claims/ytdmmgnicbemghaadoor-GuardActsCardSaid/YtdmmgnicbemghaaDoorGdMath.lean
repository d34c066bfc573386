/-
  Who protects the root, as plain data: where it is behind what was answered, and which act comes next. No program in it. By an AI agent.
-/
import Derived.Test.YtdmmgnicbemghaaDoorActMath
namespace Go.Proofs.YtdmmgnicbemghaaDoor.Gd
open Go.Proofs.YtdmmgnicbemghaaDoor
abbrev A := Go.Proofs.YtdmmgnicbemghaaDoor.Ac.A
/-- Where a guard is: its part, and the root that it knows. -/
structure S where
  p : Nat
  r : Nat
/-- One answer more. -/
def step (s : S) (g : Nat) : S := if s.p = 1 then ⟨2, g⟩ else if s.p = 2 then ⟨3, s.r⟩ else if s.p = 3 then (if g = s.r then ⟨4, s.r⟩ else ⟨2, g⟩) else s
/-- Behind these answers. -/
def run (l : List Nat) : S := l.foldl step ⟨1, 0⟩
/-- Does an act come? -/
def more (s : S) : Bool := s.p == 1 || s.p == 2 || s.p == 3
/-- The act that comes next. -/
def act (b : Nat) (c : Int) (s : S) : A := if s.p = 2 then ⟨2, b, c, 0, s.r⟩ else if s.p = 1 ∨ s.p = 3 then ⟨1, b, 0, 0, 0⟩ else ⟨0, 0, 0, 0, 0⟩
theorem step1 (r g : Nat) : step ⟨1, r⟩ g = ⟨2, g⟩ := rfl
theorem step2 (r g : Nat) : step ⟨2, r⟩ g = ⟨3, r⟩ := rfl
theorem step3_yes (r : Nat) : step ⟨3, r⟩ r = ⟨4, r⟩ := by simp [step]
theorem step3_no {r g : Nat} (h : g ≠ r) : step ⟨3, r⟩ g = ⟨2, g⟩ := by simp [step, h]
theorem step4 (r g : Nat) : step ⟨4, r⟩ g = ⟨4, r⟩ := rfl
theorem act1 (b : Nat) (c : Int) (r : Nat) : act b c ⟨1, r⟩ = ⟨1, b, 0, 0, 0⟩ := rfl
theorem act2 (b : Nat) (c : Int) (r : Nat) : act b c ⟨2, r⟩ = ⟨2, b, c, 0, r⟩ := rfl
theorem act3 (b : Nat) (c : Int) (r : Nat) : act b c ⟨3, r⟩ = ⟨1, b, 0, 0, 0⟩ := rfl
theorem act_none {b : Nat} {c : Int} {s : S} (h : more s = false) : act b c s = ⟨0, 0, 0, 0, 0⟩ := by
  simp [more] at h
  simp [act, h]
theorem step_p {s : S} (h : 1 ≤ s.p ∧ s.p ≤ 4) (g : Nat) : 1 ≤ (step s g).p ∧ (step s g).p ≤ 4 := by
  unfold step
  repeat' split
  all_goals first | exact h | simp
theorem run_p (l : List Nat) : 1 ≤ (run l).p ∧ (run l).p ≤ 4 := by
  unfold run
  have : ∀ (l : List Nat) (s : S), 1 ≤ s.p ∧ s.p ≤ 4 → 1 ≤ (l.foldl step s).p ∧ (l.foldl step s).p ≤ 4 := by
    intro l
    induction l with
    | nil => intro s h; exact h
    | cons x r ih => intro s h; exact ih _ (step_p h x)
  exact this l _ (by simp)
theorem step_r {s : S} (h : s.r < 18446744073709551616) {g : Nat} (hg : g < 18446744073709551616) : (step s g).r < 18446744073709551616 := by
  unfold step
  repeat' split
  all_goals first | exact h | exact hg
theorem run_r {l : List Nat} (hw : ∀ x ∈ l, x < 18446744073709551616) : (run l).r < 18446744073709551616 := by
  unfold run
  have : ∀ (l : List Nat) (s : S), (∀ x ∈ l, x < 18446744073709551616) → s.r < 18446744073709551616 → (l.foldl step s).r < 18446744073709551616 := by
    intro l
    induction l with
    | nil => intro s _ h; exact h
    | cons x r ih => intro s hw h; exact ih _ (fun y hy => hw y (List.mem_cons_of_mem _ hy)) (step_r h (hw x List.mem_cons_self))
  exact this l _ hw (by simp)
theorem run_next {l : List Nat} {k : Nat} (h : k < l.length) : run (l.take (k + 1)) = step (run (l.take k)) (l.getD k 0) := by
  unfold run
  rw [List.take_add_one, List.getD_eq_getElem?_getD, List.getElem?_eq_getElem h, Option.toList_some, List.foldl_append]
  rfl
theorem run_zero (l : List Nat) : run (l.take 0) = ⟨1, 0⟩ := rfl
/-- Who has ended stays so. -/
theorem run_end {l : List Nat} {k r : Nat} (h : run (l.take k) = ⟨4, r⟩) : ∀ j, k ≤ j → j ≤ l.length → run (l.take j) = ⟨4, r⟩ := by
  intro j hj
  induction j with
  | zero => intro _; rw [show k = 0 by omega] at h; exact h
  | succ j ih =>
    intro hl
    by_cases e : k = j + 1
    · subst e; exact h
    · rw [run_next (by omega), ih (by omega) (by omega)]; rfl
theorem run_all (l : List Nat) : run (l.take l.length) = run l := by rw [List.take_length]
theorem more_no {r : Nat} : more ⟨4, r⟩ = false := rfl
theorem more_yes {p r : Nat} (h : 1 ≤ p) (h3 : p ≤ 3) : more ⟨p, r⟩ = true := by simp [more]; omega
theorem parts {s : S} (h : 1 ≤ s.p ∧ s.p ≤ 4) : s = ⟨1, s.r⟩ ∨ s = ⟨2, s.r⟩ ∨ s = ⟨3, s.r⟩ ∨ s = ⟨4, s.r⟩ := by
  obtain ⟨p, r⟩ := s
  simp only [S.mk.injEq, and_true] at *
  omega
end Go.Proofs.YtdmmgnicbemghaaDoor.Gd
