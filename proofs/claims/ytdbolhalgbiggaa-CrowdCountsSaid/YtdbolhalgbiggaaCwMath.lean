/-
  Who asks whether a table is crowded, as plain data: what the stripes told so far, and which act comes next. No program in it. By an AI agent.
-/
import Derived.Test.YtdbolhalgbiggaaActMath
namespace Go.Proofs.Ytdbolhalgbiggaa.Cw
open Go.Proofs.Ytdbolhalgbiggaa
abbrev A := Go.Proofs.Ytdbolhalgbiggaa.Ac.A
/-- One answer more, if it is wanted. -/
def step (s : List Nat) (g : Nat) : List Nat := if s.length < 4 then s ++ [g] else s
/-- Behind these answers. -/
def run (l : List Nat) : List Nat := l.take 4
/-- Does an act come? -/
def more (s : List Nat) : Bool := decide (s.length < 4)
/-- The act that comes next. -/
def act (d : Nat) (s : List Nat) : A := if s.length < 4 then ⟨1, d, ((3 + s.length : Nat) : Int), 0, 0⟩ else ⟨0, 0, 0, 0, 0⟩
/-- All stripes together. -/
def sum (s : List Nat) : Nat := (s.getD 0 0 + s.getD 1 0 + s.getD 2 0 + s.getD 3 0) % 18446744073709551616
/-- What is told in the end, where the limit is m. -/
def told (m : Nat) (s : List Nat) : Bool := decide (m ≤ sum s)
theorem run_len (l : List Nat) : (run l).length ≤ 4 := by unfold run; rw [List.length_take]; omega
theorem run_len_eq (l : List Nat) : (run l).length = min 4 l.length := by unfold run; rw [List.length_take]
theorem run_zero (l : List Nat) : run (l.take 0) = [] := rfl
theorem run_all (l : List Nat) : run (l.take l.length) = run l := by rw [List.take_length]
theorem run_next {l : List Nat} {k : Nat} (h : k < l.length) : run (l.take (k + 1)) = step (run (l.take k)) (l.getD k 0) := by
  unfold run step
  rw [List.take_take, List.take_take, List.length_take]
  by_cases hk : k < 4
  · rw [if_pos (by omega), Nat.min_eq_right (by omega), Nat.min_eq_right (by omega), List.take_add_one, List.getD_eq_getElem?_getD, List.getElem?_eq_getElem h, Option.toList_some]
    rfl
  · rw [if_neg (by omega), Nat.min_eq_left (by omega), Nat.min_eq_left (by omega)]
theorem getD_take (l : List Nat) {i n : Nat} (h : i < n) : (l.take n).getD i 0 = l.getD i 0 := by
  rw [List.getD_eq_getElem?_getD, List.getD_eq_getElem?_getD, List.getElem?_take, if_pos h]
theorem sum_run (l : List Nat) : sum (run l) = sum l := by
  unfold sum run
  rw [getD_take l (by omega), getD_take l (by omega), getD_take l (by omega), getD_take l (by omega)]
theorem more_run (l : List Nat) : more (run l) = decide (l.length < 4) := by
  unfold more
  rw [run_len_eq]
  by_cases h : l.length < 4
  · rw [decide_eq_true h, decide_eq_true (by omega)]
  · rw [decide_eq_false h, decide_eq_false (by omega)]
theorem act_yes {d : Nat} {s : List Nat} (h : s.length < 4) : act d s = ⟨1, d, ((3 + s.length : Nat) : Int), 0, 0⟩ := if_pos h
theorem act_no {d : Nat} {s : List Nat} (h : ¬ s.length < 4) : act d s = ⟨0, 0, 0, 0, 0⟩ := if_neg h
theorem act_none {d : Nat} {s : List Nat} (h : more s = false) : act d s = ⟨0, 0, 0, 0, 0⟩ := act_no (by simpa [more] using h)
theorem step_yes {s : List Nat} (h : s.length < 4) (g : Nat) : step s g = s ++ [g] := if_pos h
theorem step_no {s : List Nat} (h : ¬ s.length < 4) (g : Nat) : step s g = s := if_neg h
theorem step_len {s : List Nat} (h : s.length ≤ 4) (g : Nat) : (step s g).length ≤ 4 := by
  unfold step; split
  · rw [List.length_append]; simp; omega
  · exact h
/-- The five ways. -/
theorem ways {s : List Nat} (h : s.length ≤ 4) : s = [] ∨ (∃ a, s = [a]) ∨ (∃ a b, s = [a, b]) ∨ (∃ a b c, s = [a, b, c]) ∨ (∃ a b c d, s = [a, b, c, d]) := by
  match s, h with
  | [], _ => exact .inl rfl
  | [a], _ => exact .inr (.inl ⟨a, rfl⟩)
  | [a, b], _ => exact .inr (.inr (.inl ⟨a, b, rfl⟩))
  | [a, b, c], _ => exact .inr (.inr (.inr (.inl ⟨a, b, c, rfl⟩)))
  | [a, b, c, d], _ => exact .inr (.inr (.inr (.inr ⟨a, b, c, d, rfl⟩)))
  | _ :: _ :: _ :: _ :: _ :: _, h => simp at h
end Go.Proofs.Ytdbolhalgbiggaa.Cw
