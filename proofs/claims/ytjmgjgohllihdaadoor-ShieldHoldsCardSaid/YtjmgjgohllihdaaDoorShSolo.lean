/-
  A shield that nobody disturbs, as plain data: what is answered, how many acts are still to come, what the desk's cells have. By an AI agent.
-/
import Derived.Test.YtjmgjgohllihdaaDoorShMath
namespace Go.Proofs.YtjmgjgohllihdaaDoor.Sh
open Go.Proofs.YtjmgjgohllihdaaDoor
/-- What is answered, where the slot has V. -/
def ans (s : S) (V : Nat) : Nat := if s.p = 1 then 0 else V
/-- Behind k acts. -/
def go (s : S) (V : Nat) : Nat → S
  | 0 => s
  | k + 1 => step (go s V k) (ans (go s V k) V)
/-- Is the slot's word another one, that is to be protected? -/
def anew (s : S) (V : Nat) : Bool := fr V && oth V s.r
/-- How many acts are still to come. -/
def rem (s : S) (V : Nat) : Nat := if s.p = 1 then (if anew s V then 4 else 2) else if s.p = 2 then (if anew s V then 3 else 1) else 0
theorem step2_new {r V : Nat} (h : anew ⟨2, r⟩ V = true) : step ⟨2, r⟩ V = ⟨1, V⟩ := by
  rw [step2]
  show told V (anew ⟨2, r⟩ V) = _
  rw [h]; rfl
theorem step2_end {r V : Nat} (h : anew ⟨2, r⟩ V = false) : step ⟨2, r⟩ V = ⟨3, V⟩ := by
  rw [step2]
  show told V (anew ⟨2, r⟩ V) = _
  rw [h]; rfl
theorem anew_self (p V : Nat) : anew ⟨p, V⟩ V = false := by
  unfold anew
  rw [oth_same rfl, Bool.and_false]
theorem anew_p (p q r V : Nat) : anew ⟨p, r⟩ V = anew ⟨q, r⟩ V := rfl
theorem rem_step (s : S) (V : Nat) (h : 1 ≤ s.p ∧ s.p ≤ 3) : rem (step s (ans s V)) V = rem s V - 1 := by
  obtain e | e | e := parts h <;> rw [e]
  · show rem (step ⟨1, s.r⟩ 0) V = _
    rw [step1]
    cases ha : anew ⟨1, s.r⟩ V <;> simp [rem, ha, anew_p 2 1]
  · show rem (step ⟨2, s.r⟩ V) V = _
    cases ha : anew ⟨2, s.r⟩ V with
    | true => rw [step2_new ha]; simp [rem, ha, anew_self]
    | false => rw [step2_end ha]; simp [rem, ha]
  · rfl
theorem rem_le (s : S) (V : Nat) : rem s V ≤ 4 := by
  unfold rem
  repeat' split
  all_goals omega
theorem go_p {s : S} (V : Nat) (h : 1 ≤ s.p ∧ s.p ≤ 3) : ∀ k, 1 ≤ (go s V k).p ∧ (go s V k).p ≤ 3
  | 0 => h
  | k + 1 => step_p (go_p V h k) _
theorem ans_lt {s : S} {V : Nat} (h : V < 18446744073709551616) : ans s V < 18446744073709551616 := by unfold ans; split <;> omega
theorem go_r {s : S} {V : Nat} (h : s.r < 18446744073709551616) (hV : V < 18446744073709551616) : ∀ k, (go s V k).r < 18446744073709551616
  | 0 => h
  | k + 1 => step_r (go_r h hV k) (ans_lt hV)
theorem rem_go {s : S} (V : Nat) (h : 1 ≤ s.p ∧ s.p ≤ 3) : ∀ k, rem (go s V k) V = rem s V - k
  | 0 => rfl
  | k + 1 => by
    show rem (step (go s V k) (ans (go s V k) V)) V = _
    rw [rem_step _ _ (go_p V h k), rem_go V h k]
    omega
theorem rem_more {s : S} (V : Nat) (h : 1 ≤ s.p ∧ s.p ≤ 3) : decide (0 < rem s V) = more s := by
  obtain e | e | e := parts h <;> rw [e]
  · cases ha : anew ⟨1, s.r⟩ V <;> simp [rem, more, ha]
  · cases ha : anew ⟨2, s.r⟩ V <;> simp [rem, more, ha]
  · rfl
theorem go_more {s : S} (V : Nat) (h : 1 ≤ s.p ∧ s.p ≤ 3) (k : Nat) : decide (k < rem s V) = more (go s V k) := by
  rw [← rem_more V (go_p V h k), rem_go V h k]
  by_cases e : k < rem s V
  · rw [decide_eq_true e, decide_eq_true (by omega)]
  · rw [decide_eq_false e, decide_eq_false (by omega)]
/-- The desk's cells behind k acts. -/
def cells (s : S) (V c : Nat) (ws : List Int) : Nat → List Int
  | 0 => ws
  | k + 1 => if (go s V k).p = 1 then (cells s V c ws k).set c (((go s V k).r / 8 : Nat) : Int) else cells s V c ws k
theorem cells_len (s : S) (V c : Nat) (ws : List Int) : ∀ k, (cells s V c ws k).length = ws.length
  | 0 => rfl
  | k + 1 => by
    show (if _ then _ else _ : List Int).length = _
    split
    · rw [List.length_set]; exact cells_len s V c ws k
    · exact cells_len s V c ws k
/-- What holds between the steps: V0 is the word that the shield was made of. -/
structure Inv (V0 : Nat) (ws : List Int) (s : S) (c : Nat) : Prop where
  len : c < ws.length
  lt : s.r < 18446744073709551616
  part : (s.p = 1 ∧ fr s.r = true) ∨ (s.p = 2 ∧ fr s.r = true ∧ ws[c]? = some ((s.r / 8 : Nat) : Int)) ∨ (s = ⟨3, V0⟩ ∧ fr V0 = false)
theorem Inv.p {V0 : Nat} {ws : List Int} {s : S} {c : Nat} (h : Inv V0 ws s c) : 1 ≤ s.p ∧ s.p ≤ 3 := by
  rcases h.part with ⟨e, _⟩ | ⟨e, _⟩ | ⟨e, _⟩
  · omega
  · omega
  · rw [e]; simp
/-- The start. -/
theorem Inv.start {V0 n c : Nat} (hn : c < n) (hV : V0 < 18446744073709551616) : Inv V0 (List.replicate n 0) (new V0) c where
  len := by rw [List.length_replicate]; exact hn
  lt := hV
  part := by
    cases h : fr V0 with
    | true => rw [new_yes h]; exact .inl ⟨rfl, h⟩
    | false => rw [new_no h]; exact .inr (.inr ⟨rfl, rfl⟩)
/-- No act comes: the word that it was made of is not fresh. -/
theorem Inv.none {V0 : Nat} {ws : List Int} {s : S} {c V : Nat} (h : Inv V0 ws s c) (hr : rem s V = 0) : s = ⟨3, V0⟩ ∧ fr V0 = false := by
  rcases h.part with ⟨e, _⟩ | ⟨e, _⟩ | e
  · unfold rem at hr; rw [if_pos e] at hr; split at hr <;> omega
  · unfold rem at hr; rw [if_neg (by omega), if_pos e] at hr; split at hr <;> omega
  · exact e
/-- An act of its own, and more to come. -/
theorem Inv.goes {V0 : Nat} {ws : List Int} {s : S} {c V : Nat} (h : Inv V0 ws s c) (hV : V < 18446744073709551616) (h0 : rem s V ≠ 0) (hr : rem s V ≠ 1) : Inv V0 (cells s V c ws 1) (go s V 1) c where
  len := by rw [cells_len]; exact h.len
  lt := go_r h.lt hV 1
  part := by
    rcases h.part with ⟨e1, e2⟩ | ⟨e1, e2, e3⟩ | ⟨e1, e2⟩
    · right; left
      have hs : s = ⟨1, s.r⟩ := by obtain ⟨p, r⟩ := s; simp only at e1; rw [e1]
      have hg : go s V 1 = ⟨2, s.r⟩ := by
        show step s (ans s V) = _
        rw [hs]; rfl
      rw [hg]
      refine ⟨rfl, e2, ?_⟩
      show (if s.p = 1 then ws.set c _ else ws : List Int)[c]? = _
      rw [if_pos e1, List.getElem?_set_self h.len]
      rfl
    · left
      have hs : s = ⟨2, s.r⟩ := by obtain ⟨p, r⟩ := s; simp only at e1; rw [e1]
      have ha : anew s V = true := by
        cases ha : anew s V with
        | true => rfl
        | false => exact absurd (by unfold rem; rw [if_neg (by omega), if_pos e1, ha]; rfl) hr
      have hg : go s V 1 = ⟨1, V⟩ := by
        show step s (ans s V) = _
        rw [hs] at ha ⊢
        exact step2_new ha
      rw [hg]
      refine ⟨rfl, ?_⟩
      unfold anew at ha
      simp at ha
      exact ha.1
    · rw [e1] at h0; exact absurd rfl h0
/-- The last act. -/
theorem Inv.ends {V0 : Nat} {ws : List Int} {s : S} {c V : Nat} (h : Inv V0 ws s c) (hr : rem s V = 1) : cells s V c ws 1 = ws ∧ go s V 1 = ⟨3, V⟩ ∧ (fr V = true → ws[c]? = some ((V / 8 : Nat) : Int)) ∧ ∃ m : Nat, ws[c]? = some (m : Int) := by
  rcases h.part with ⟨e1, e2⟩ | ⟨e1, e2, e3⟩ | ⟨e1, e2⟩
  · unfold rem at hr; rw [if_pos e1] at hr; split at hr <;> omega
  · have hs : s = ⟨2, s.r⟩ := by obtain ⟨p, r⟩ := s; simp only at e1; rw [e1]
    have ha : anew s V = false := by
      cases ha : anew s V with
      | false => rfl
      | true => unfold rem at hr; rw [if_neg (by omega), if_pos e1, ha] at hr; simp at hr
    refine ⟨?_, ?_, fun hf => ?_, _, e3⟩
    · show (if s.p = 1 then ws.set c _ else ws : List Int) = _
      rw [if_neg (by omega)]
    · show step s (ans s V) = _
      rw [hs] at ha ⊢
      exact step2_end ha
    · rw [e3]
      unfold anew at ha
      rw [hf, Bool.true_and] at ha
      unfold oth at ha
      simp at ha
      congr 1
      omega
  · rw [e1] at hr; simp [rem] at hr
end Go.Proofs.YtjmgjgohllihdaaDoor.Sh
