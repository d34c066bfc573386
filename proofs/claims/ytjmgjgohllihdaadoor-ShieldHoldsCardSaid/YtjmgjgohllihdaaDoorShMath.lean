/-
  Who protects the box of a slot, as plain data: where it is behind what was answered, and which act comes next. No program in it. By an AI agent.
-/
import Derived.Test.YtjmgjgohllihdaaDoorActMath
import Derived.Test.YtjmgjgohllihdaaDoorTagMath
namespace Go.Proofs.YtjmgjgohllihdaaDoor.Sh
open Go.Proofs.YtjmgjgohllihdaaDoor
abbrev A := Go.Proofs.YtjmgjgohllihdaaDoor.Ac.A
/-- Is a word fresh? -/
def fr (n : Nat) : Bool := Tg.fr (n : Int)
/-- Where a shield is: its part, and the word that it knows. -/
structure S where
  p : Nat
  r : Nat
/-- What it was told, and whether that is still to be protected. -/
def told (v : Nat) (still : Bool) : S := ⟨if still then 1 else 3, v⟩
def new (v : Nat) : S := told v (fr v)
/-- A block that is another one. -/
def oth (a b : Nat) : Bool := (((a / 8 : Nat) : Int) != ((b / 8 : Nat) : Int))
/-- One answer more. -/
def step (s : S) (g : Nat) : S := if s.p = 1 then ⟨2, s.r⟩ else if s.p = 2 then told g (fr g && oth g s.r) else s
/-- Behind these answers. -/
def run (v : Nat) (l : List Nat) : S := l.foldl step (new v)
/-- Does an act come? -/
def more (s : S) : Bool := s.p == 1 || s.p == 2
/-- The act that comes next. -/
def act (d : Nat) (c : Int) (b : Nat) (i : Int) (s : S) : A := if s.p = 1 then ⟨2, d, c, 0, s.r / 8⟩ else if s.p = 2 then ⟨1, b, i, 0, 0⟩ else ⟨0, 0, 0, 0, 0⟩
theorem oth_same {a b : Nat} (h : a / 8 = b / 8) : oth a b = false := by unfold oth; rw [h]; simp
theorem oth_ne {a b : Nat} (h : a / 8 ≠ b / 8) : oth a b = true := by unfold oth; simp; omega
theorem new_yes {v : Nat} (h : fr v = true) : new v = ⟨1, v⟩ := by simp [new, told, h]
theorem new_no {v : Nat} (h : fr v = false) : new v = ⟨3, v⟩ := by simp [new, told, h]
theorem step1 (r g : Nat) : step ⟨1, r⟩ g = ⟨2, r⟩ := rfl
theorem step2 (r g : Nat) : step ⟨2, r⟩ g = told g (fr g && oth g r) := rfl
theorem step2_same {r g : Nat} (h : g / 8 = r / 8) : step ⟨2, r⟩ g = ⟨3, g⟩ := by rw [step2, oth_same h, Bool.and_false]; rfl
theorem step2_oth {r g : Nat} (h : g / 8 ≠ r / 8) : step ⟨2, r⟩ g = new g := by rw [step2, oth_ne h, Bool.and_true]; rfl
theorem step3 (r g : Nat) : step ⟨3, r⟩ g = ⟨3, r⟩ := rfl
theorem act_none {d : Nat} {c : Int} {b : Nat} {i : Int} {s : S} (h : more s = false) : act d c b i s = ⟨0, 0, 0, 0, 0⟩ := by
  simp [more] at h
  simp [act, h]
theorem told_p (v : Nat) (x : Bool) : 1 ≤ (told v x).p ∧ (told v x).p ≤ 3 := by cases x <;> simp [told]
theorem new_p (v : Nat) : 1 ≤ (new v).p ∧ (new v).p ≤ 3 := told_p _ _
theorem step_p {s : S} (h : 1 ≤ s.p ∧ s.p ≤ 3) (g : Nat) : 1 ≤ (step s g).p ∧ (step s g).p ≤ 3 := by
  unfold step
  split
  · simp
  · split
    · exact told_p _ _
    · exact h
theorem run_p (v : Nat) (l : List Nat) : 1 ≤ (run v l).p ∧ (run v l).p ≤ 3 := by
  unfold run
  have : ∀ (l : List Nat) (s : S), 1 ≤ s.p ∧ s.p ≤ 3 → 1 ≤ (l.foldl step s).p ∧ (l.foldl step s).p ≤ 3 := by
    intro l
    induction l with
    | nil => intro s h; exact h
    | cons x r ih => intro s h; exact ih _ (step_p h x)
  exact this l _ (new_p v)
theorem step_r {s : S} (h : s.r < 18446744073709551616) {g : Nat} (hg : g < 18446744073709551616) : (step s g).r < 18446744073709551616 := by
  unfold step
  repeat' split
  all_goals first | exact h | exact hg
theorem run_r {v : Nat} {l : List Nat} (hv : v < 18446744073709551616) (hw : ∀ x ∈ l, x < 18446744073709551616) : (run v l).r < 18446744073709551616 := by
  unfold run
  have : ∀ (l : List Nat) (s : S), (∀ x ∈ l, x < 18446744073709551616) → s.r < 18446744073709551616 → (l.foldl step s).r < 18446744073709551616 := by
    intro l
    induction l with
    | nil => intro s _ h; exact h
    | cons x r ih => intro s hw h; exact ih _ (fun y hy => hw y (List.mem_cons_of_mem _ hy)) (step_r h (hw x List.mem_cons_self))
  exact this l _ hw hv
theorem run_next {v : Nat} {l : List Nat} {k : Nat} (h : k < l.length) : run v (l.take (k + 1)) = step (run v (l.take k)) (l.getD k 0) := by
  unfold run
  rw [List.take_add_one, List.getD_eq_getElem?_getD, List.getElem?_eq_getElem h, Option.toList_some, List.foldl_append]
  rfl
theorem run_zero (v : Nat) (l : List Nat) : run v (l.take 0) = new v := rfl
/-- Who has ended stays so. -/
theorem run_end {v : Nat} {l : List Nat} {k r : Nat} (h : run v (l.take k) = ⟨3, r⟩) : ∀ j, k ≤ j → j ≤ l.length → run v (l.take j) = ⟨3, r⟩ := by
  intro j hj
  induction j with
  | zero => intro _; rw [show k = 0 by omega] at h; exact h
  | succ j ih =>
    intro hl
    by_cases e : k = j + 1
    · subst e; exact h
    · rw [run_next (by omega), ih (by omega) (by omega)]; rfl
theorem run_all (v : Nat) (l : List Nat) : run v (l.take l.length) = run v l := by rw [List.take_length]
theorem parts {s : S} (h : 1 ≤ s.p ∧ s.p ≤ 3) : s = ⟨1, s.r⟩ ∨ s = ⟨2, s.r⟩ ∨ s = ⟨3, s.r⟩ := by
  obtain ⟨p, r⟩ := s
  simp only [S.mk.injEq, and_true] at *
  omega
theorem getD_lt {l : List Nat} (hw : ∀ x ∈ l, x < 18446744073709551616) (j : Nat) : l.getD j 0 < 18446744073709551616 := by
  rw [List.getD_eq_getElem?_getD]
  by_cases h : j < l.length
  · rw [List.getElem?_eq_getElem h]; exact hw _ (List.getElem_mem h)
  · rw [List.getElem?_eq_none (by omega)]; simp
end Go.Proofs.YtjmgjgohllihdaaDoor.Sh
