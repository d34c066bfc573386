/-
  Several texts in one: The plain mathematics of acts: which may be, and what they write. No program in it; Plain mathematics of words by eight. No program in it; Who protects the box of a slot, as plain data: where it is behind what was answered, and which act comes next. No program in it; Who asks whether a table is crowded, as plain data: what the stripes told so far, and which act comes next. No program in it. By an AI agent.
-/
namespace Go.Proofs.YtknefjigdlbacaaGreatDoor
namespace Ac
/-- An act: its kind, block, cell, old and new word. -/
structure A where
  k : Int
  b : Nat
  c : Int
  o : Nat
  n : Nat
/-- Is there such a kind? -/
def known (k : Int) : Bool := decide (0 ≤ k) && decide (k ≤ 6)
/-- Which fields has a kind? -/
def fb (k : Int) : Bool := k == 1 || k == 2 || k == 3 || k == 4 || k == 6
def fc (k : Int) : Bool := decide (1 ≤ k) && decide (k ≤ 5)
def fo (k : Int) : Bool := k == 3
def fn (k : Int) : Bool := k == 2 || k == 3 || k == 4
/-- May an act be? -/
def right (x : A) : Bool := known x.k && decide (0 ≤ x.c) && !(x.k == 5 && x.c == 0) && (x.b == 0 || fb x.k) && (x.c == 0 || fc x.k) && (x.o == 0 || fo x.k) && (x.n == 0 || fn x.k)
/-- Does it write? -/
def writes (x : A) : Bool := fn x.k && right x
theorem kinds {k : Int} (h : known k = true) : k = 0 ∨ k = 1 ∨ k = 2 ∨ k = 3 ∨ k = 4 ∨ k = 5 ∨ k = 6 := by
  simp [known] at h; omega
end Ac
end Go.Proofs.YtknefjigdlbacaaGreatDoor
namespace Go.Proofs.YtknefjigdlbacaaGreatDoor.Tg
/-- The word of a block and a mark. -/
def mk (b m : Int) : Int := (8 * b + m % 8) % 18446744073709551616
def hd (x : Int) : Bool := decide (8 ≤ x) && (decide (1 ≤ x % 8) && decide (x % 8 ≤ 4))
def fr (x : Int) : Bool := hd x && decide (x % 8 < 3)
def fz (x : Int) : Bool := (x == 5) || (hd x && decide (2 < x % 8))
theorem mk_bd (b m : Int) : 0 ≤ mk b m ∧ mk b m ≤ 18446744073709551615 := by unfold mk; omega
theorem mk_back {x : Int} (h0 : 0 ≤ x) (h1 : x ≤ 18446744073709551615) : mk (x / 8) (x % 8) = x := by unfold mk; omega
theorem mk_block {b : Int} (m : Int) (h0 : 0 ≤ b) (h1 : b < 2305843009213693952) : mk b m / 8 = b := by unfold mk; omega
theorem mk_mark {b m : Int} (m0 : 0 ≤ m) (m1 : m ≤ 7) : mk b m % 8 = m := by unfold mk; omega
theorem div_bd {x : Int} (h0 : 0 ≤ x) (h1 : x ≤ 18446744073709551615) : 0 ≤ x / 8 ∧ x / 8 < 2305843009213693952 := by omega
theorem fr_hd {x : Int} (h : fr x = true) : hd x = true := by unfold fr at h; simp at h; exact h.1
theorem not_both (x : Int) : (fr x && fz x) = false := by
  by_cases h : x = 5
  · subst h; decide
  · unfold fr fz
    by_cases h2 : x % 8 < 3
    · have : ¬ 2 < x % 8 := by omega
      simp [h, this]
    · simp [h2]
theorem one_of (x : Int) (h : hd x = true) : (fr x || fz x) = true := by
  unfold fr fz
  rw [h]
  by_cases h2 : x % 8 < 3
  · simp [h2]
  · have : 2 < x % 8 := by omega
    simp [this]
theorem tmod_pos {m : Int} (h : 0 ≤ m.tmod 8) : m.tmod 8 = m % 8 := by
  rw [Int.tmod_eq_emod] at h ⊢
  split at h <;> rename_i c
  · rw [if_pos c]; omega
  · simp at h; omega
theorem tmod_neg {m : Int} (h : m.tmod 8 < 0) : m.tmod 8 = m % 8 - 8 := by
  rw [Int.tmod_eq_emod] at h ⊢
  split at h <;> rename_i c
  · omega
  · rw [if_neg c]; rfl
end Go.Proofs.YtknefjigdlbacaaGreatDoor.Tg
namespace Go.Proofs.YtknefjigdlbacaaGreatDoor.Sh
open Go.Proofs.YtknefjigdlbacaaGreatDoor
abbrev A := Go.Proofs.YtknefjigdlbacaaGreatDoor.Ac.A
/-- Is a word fresh? -/
def fr (n : Nat) : Bool := Tg.fr (n : Int)
/-- Where a shield is: its part, and the word that it knows. -/
structure S where
  p : Nat
  r : Nat
/-- What it was told, and whether that is still to be protected. -/
def told (v : Nat) (still : Bool) : S := ⟨if still then 1 else 3, v⟩
def new (v : Nat) : S := told v (fr v)
/-- A block that is another one. -/
def oth (a b : Nat) : Bool := (((a / 8 : Nat) : Int) != ((b / 8 : Nat) : Int))
/-- One answer more. -/
def step (s : S) (g : Nat) : S := if s.p = 1 then ⟨2, s.r⟩ else if s.p = 2 then told g (fr g && oth g s.r) else s
/-- Behind these answers. -/
def run (v : Nat) (l : List Nat) : S := l.foldl step (new v)
/-- Does an act come? -/
def more (s : S) : Bool := s.p == 1 || s.p == 2
/-- The act that comes next. -/
def act (d : Nat) (c : Int) (b : Nat) (i : Int) (s : S) : A := if s.p = 1 then ⟨2, d, c, 0, s.r / 8⟩ else if s.p = 2 then ⟨1, b, i, 0, 0⟩ else ⟨0, 0, 0, 0, 0⟩
theorem oth_same {a b : Nat} (h : a / 8 = b / 8) : oth a b = false := by unfold oth; rw [h]; simp
theorem oth_ne {a b : Nat} (h : a / 8 ≠ b / 8) : oth a b = true := by unfold oth; simp; omega
theorem new_yes {v : Nat} (h : fr v = true) : new v = ⟨1, v⟩ := by simp [new, told, h]
theorem new_no {v : Nat} (h : fr v = false) : new v = ⟨3, v⟩ := by simp [new, told, h]
theorem step1 (r g : Nat) : step ⟨1, r⟩ g = ⟨2, r⟩ := rfl
theorem step2 (r g : Nat) : step ⟨2, r⟩ g = told g (fr g && oth g r) := rfl
theorem step2_same {r g : Nat} (h : g / 8 = r / 8) : step ⟨2, r⟩ g = ⟨3, g⟩ := by rw [step2, oth_same h, Bool.and_false]; rfl
theorem step2_oth {r g : Nat} (h : g / 8 ≠ r / 8) : step ⟨2, r⟩ g = new g := by rw [step2, oth_ne h, Bool.and_true]; rfl
theorem step3 (r g : Nat) : step ⟨3, r⟩ g = ⟨3, r⟩ := rfl
theorem act_none {d : Nat} {c : Int} {b : Nat} {i : Int} {s : S} (h : more s = false) : act d c b i s = ⟨0, 0, 0, 0, 0⟩ := by
  simp [more] at h
  simp [act, h]
theorem told_p (v : Nat) (x : Bool) : 1 ≤ (told v x).p ∧ (told v x).p ≤ 3 := by cases x <;> simp [told]
theorem new_p (v : Nat) : 1 ≤ (new v).p ∧ (new v).p ≤ 3 := told_p _ _
theorem step_p {s : S} (h : 1 ≤ s.p ∧ s.p ≤ 3) (g : Nat) : 1 ≤ (step s g).p ∧ (step s g).p ≤ 3 := by
  unfold step
  split
  · simp
  · split
    · exact told_p _ _
    · exact h
theorem run_p (v : Nat) (l : List Nat) : 1 ≤ (run v l).p ∧ (run v l).p ≤ 3 := by
  unfold run
  have : ∀ (l : List Nat) (s : S), 1 ≤ s.p ∧ s.p ≤ 3 → 1 ≤ (l.foldl step s).p ∧ (l.foldl step s).p ≤ 3 := by
    intro l
    induction l with
    | nil => intro s h; exact h
    | cons x r ih => intro s h; exact ih _ (step_p h x)
  exact this l _ (new_p v)
theorem step_r {s : S} (h : s.r < 18446744073709551616) {g : Nat} (hg : g < 18446744073709551616) : (step s g).r < 18446744073709551616 := by
  unfold step
  repeat' split
  all_goals first | exact h | exact hg
theorem run_r {v : Nat} {l : List Nat} (hv : v < 18446744073709551616) (hw : ∀ x ∈ l, x < 18446744073709551616) : (run v l).r < 18446744073709551616 := by
  unfold run
  have : ∀ (l : List Nat) (s : S), (∀ x ∈ l, x < 18446744073709551616) → s.r < 18446744073709551616 → (l.foldl step s).r < 18446744073709551616 := by
    intro l
    induction l with
    | nil => intro s _ h; exact h
    | cons x r ih => intro s hw h; exact ih _ (fun y hy => hw y (List.mem_cons_of_mem _ hy)) (step_r h (hw x List.mem_cons_self))
  exact this l _ hw hv
theorem run_next {v : Nat} {l : List Nat} {k : Nat} (h : k < l.length) : run v (l.take (k + 1)) = step (run v (l.take k)) (l.getD k 0) := by
  unfold run
  rw [List.take_add_one, List.getD_eq_getElem?_getD, List.getElem?_eq_getElem h, Option.toList_some, List.foldl_append]
  rfl
theorem run_zero (v : Nat) (l : List Nat) : run v (l.take 0) = new v := rfl
/-- Who has ended stays so. -/
theorem run_end {v : Nat} {l : List Nat} {k r : Nat} (h : run v (l.take k) = ⟨3, r⟩) : ∀ j, k ≤ j → j ≤ l.length → run v (l.take j) = ⟨3, r⟩ := by
  intro j hj
  induction j with
  | zero => intro _; rw [show k = 0 by omega] at h; exact h
  | succ j ih =>
    intro hl
    by_cases e : k = j + 1
    · subst e; exact h
    · rw [run_next (by omega), ih (by omega) (by omega)]; rfl
theorem run_all (v : Nat) (l : List Nat) : run v (l.take l.length) = run v l := by rw [List.take_length]
theorem parts {s : S} (h : 1 ≤ s.p ∧ s.p ≤ 3) : s = ⟨1, s.r⟩ ∨ s = ⟨2, s.r⟩ ∨ s = ⟨3, s.r⟩ := by
  obtain ⟨p, r⟩ := s
  simp only [S.mk.injEq, and_true] at *
  omega
theorem getD_lt {l : List Nat} (hw : ∀ x ∈ l, x < 18446744073709551616) (j : Nat) : l.getD j 0 < 18446744073709551616 := by
  rw [List.getD_eq_getElem?_getD]
  by_cases h : j < l.length
  · rw [List.getElem?_eq_getElem h]; exact hw _ (List.getElem_mem h)
  · rw [List.getElem?_eq_none (by omega)]; simp
end Go.Proofs.YtknefjigdlbacaaGreatDoor.Sh
namespace Go.Proofs.YtknefjigdlbacaaGreatDoor.Cw
open Go.Proofs.YtknefjigdlbacaaGreatDoor
abbrev A := Go.Proofs.YtknefjigdlbacaaGreatDoor.Ac.A
/-- One answer more, if it is wanted. -/
def step (s : List Nat) (g : Nat) : List Nat := if s.length < 4 then s ++ [g] else s
/-- Behind these answers. -/
def run (l : List Nat) : List Nat := l.take 4
/-- Does an act come? -/
def more (s : List Nat) : Bool := decide (s.length < 4)
/-- The act that comes next. -/
def act (d : Nat) (s : List Nat) : A := if s.length < 4 then ⟨1, d, ((3 + s.length : Nat) : Int), 0, 0⟩ else ⟨0, 0, 0, 0, 0⟩
/-- All stripes together. -/
def sum (s : List Nat) : Nat := (s.getD 0 0 + s.getD 1 0 + s.getD 2 0 + s.getD 3 0) % 18446744073709551616
/-- What is told in the end, where the limit is m. -/
def told (m : Nat) (s : List Nat) : Bool := decide (m ≤ sum s)
theorem run_len (l : List Nat) : (run l).length ≤ 4 := by unfold run; rw [List.length_take]; omega
theorem run_len_eq (l : List Nat) : (run l).length = min 4 l.length := by unfold run; rw [List.length_take]
theorem run_zero (l : List Nat) : run (l.take 0) = [] := rfl
theorem run_all (l : List Nat) : run (l.take l.length) = run l := by rw [List.take_length]
theorem run_next {l : List Nat} {k : Nat} (h : k < l.length) : run (l.take (k + 1)) = step (run (l.take k)) (l.getD k 0) := by
  unfold run step
  rw [List.take_take, List.take_take, List.length_take]
  by_cases hk : k < 4
  · rw [if_pos (by omega), Nat.min_eq_right (by omega), Nat.min_eq_right (by omega), List.take_add_one, List.getD_eq_getElem?_getD, List.getElem?_eq_getElem h, Option.toList_some]
    rfl
  · rw [if_neg (by omega), Nat.min_eq_left (by omega), Nat.min_eq_left (by omega)]
theorem getD_take (l : List Nat) {i n : Nat} (h : i < n) : (l.take n).getD i 0 = l.getD i 0 := by
  rw [List.getD_eq_getElem?_getD, List.getD_eq_getElem?_getD, List.getElem?_take, if_pos h]
theorem sum_run (l : List Nat) : sum (run l) = sum l := by
  unfold sum run
  rw [getD_take l (by omega), getD_take l (by omega), getD_take l (by omega), getD_take l (by omega)]
theorem more_run (l : List Nat) : more (run l) = decide (l.length < 4) := by
  unfold more
  rw [run_len_eq]
  by_cases h : l.length < 4
  · rw [decide_eq_true h, decide_eq_true (by omega)]
  · rw [decide_eq_false h, decide_eq_false (by omega)]
theorem act_yes {d : Nat} {s : List Nat} (h : s.length < 4) : act d s = ⟨1, d, ((3 + s.length : Nat) : Int), 0, 0⟩ := if_pos h
theorem act_no {d : Nat} {s : List Nat} (h : ¬ s.length < 4) : act d s = ⟨0, 0, 0, 0, 0⟩ := if_neg h
theorem act_none {d : Nat} {s : List Nat} (h : more s = false) : act d s = ⟨0, 0, 0, 0, 0⟩ := act_no (by simpa [more] using h)
theorem step_yes {s : List Nat} (h : s.length < 4) (g : Nat) : step s g = s ++ [g] := if_pos h
theorem step_no {s : List Nat} (h : ¬ s.length < 4) (g : Nat) : step s g = s := if_neg h
theorem step_len {s : List Nat} (h : s.length ≤ 4) (g : Nat) : (step s g).length ≤ 4 := by
  unfold step; split
  · rw [List.length_append]; simp; omega
  · exact h
/-- The five ways. -/
theorem ways {s : List Nat} (h : s.length ≤ 4) : s = [] ∨ (∃ a, s = [a]) ∨ (∃ a b, s = [a, b]) ∨ (∃ a b c, s = [a, b, c]) ∨ (∃ a b c d, s = [a, b, c, d]) := by
  match s, h with
  | [], _ => exact .inl rfl
  | [a], _ => exact .inr (.inl ⟨a, rfl⟩)
  | [a, b], _ => exact .inr (.inr (.inl ⟨a, b, rfl⟩))
  | [a, b, c], _ => exact .inr (.inr (.inr (.inl ⟨a, b, c, rfl⟩)))
  | [a, b, c, d], _ => exact .inr (.inr (.inr (.inr ⟨a, b, c, d, rfl⟩)))
  | _ :: _ :: _ :: _ :: _ :: _, h => simp at h
end Go.Proofs.YtknefjigdlbacaaGreatDoor.Cw
