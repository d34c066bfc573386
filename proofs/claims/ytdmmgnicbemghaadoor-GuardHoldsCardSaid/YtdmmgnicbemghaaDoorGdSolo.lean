/-
  A guard that nobody disturbs, as plain data: what is answered, how many acts are still to come, what the desk's cells have. By an AI agent.
-/
import Derived.Test.YtdmmgnicbemghaaDoorGdMath
namespace Go.Proofs.YtdmmgnicbemghaaDoor.Gd
open Go.Proofs.YtdmmgnicbemghaaDoor
/-- What is answered, where Root has R. -/
def ans (s : S) (R : Nat) : Nat := if s.p = 2 then 0 else R
/-- Behind k acts. -/
def go (s : S) (R : Nat) : Nat → S
  | 0 => s
  | k + 1 => step (go s R k) (ans (go s R k) R)
/-- How many acts are still to come. -/
def rem (s : S) (R : Nat) : Nat := if s.p = 1 then 3 else if s.p = 2 then (if s.r = R then 2 else 4) else if s.p = 3 then (if s.r = R then 1 else 3) else 0
theorem rem_step (s : S) (R : Nat) (h : 1 ≤ s.p ∧ s.p ≤ 4) : rem (step s (ans s R)) R = rem s R - 1 := by
  obtain e | e | e | e := parts h <;> rw [e]
  · show rem (step ⟨1, s.r⟩ R) R = 2
    rw [step1]; simp [rem]
  · show rem (step ⟨2, s.r⟩ 0) R = _
    rw [step2]
    by_cases hr : s.r = R <;> simp [rem, hr]
  · show rem (step ⟨3, s.r⟩ R) R = _
    by_cases hr : s.r = R
    · rw [hr, step3_yes]; simp [rem]
    · rw [step3_no (fun e => hr e.symm)]; simp [rem, hr]
  · rfl
theorem rem_le (s : S) (R : Nat) : rem s R ≤ 4 := by
  unfold rem
  repeat' split
  all_goals omega
theorem go_p {s : S} (R : Nat) (h : 1 ≤ s.p ∧ s.p ≤ 4) : ∀ k, 1 ≤ (go s R k).p ∧ (go s R k).p ≤ 4
  | 0 => h
  | k + 1 => step_p (go_p R h k) _
theorem rem_go {s : S} (R : Nat) (h : 1 ≤ s.p ∧ s.p ≤ 4) : ∀ k, rem (go s R k) R = rem s R - k
  | 0 => rfl
  | k + 1 => by
    show rem (step (go s R k) (ans (go s R k) R)) R = _
    rw [rem_step _ _ (go_p R h k), rem_go R h k]
    omega
theorem rem_more {s : S} (R : Nat) (h : 1 ≤ s.p ∧ s.p ≤ 4) : decide (0 < rem s R) = more s := by
  obtain e | e | e | e := parts h <;> rw [e]
  · rfl
  · by_cases hr : s.r = R <;> simp [rem, more, hr]
  · by_cases hr : s.r = R <;> simp [rem, more, hr]
  · rfl
theorem go_more {s : S} (R : Nat) (h : 1 ≤ s.p ∧ s.p ≤ 4) (k : Nat) : decide (k < rem s R) = more (go s R k) := by
  rw [← rem_more R (go_p R h k), rem_go R h k]
  by_cases e : k < rem s R
  · rw [decide_eq_true e, decide_eq_true (by omega)]
  · rw [decide_eq_false e, decide_eq_false (by omega)]
/-- The desk's cells behind k acts. -/
def cells (s : S) (R c : Nat) (ws : List Int) : Nat → List Int
  | 0 => ws
  | k + 1 => if (go s R k).p = 2 then (cells s R c ws k).set c (((go s R k).r : Nat) : Int) else cells s R c ws k
theorem cells_len (s : S) (R c : Nat) (ws : List Int) : ∀ k, (cells s R c ws k).length = ws.length
  | 0 => rfl
  | k + 1 => by
    show (if _ then _ else _ : List Int).length = _
    split
    · rw [List.length_set]; exact cells_len s R c ws k
    · exact cells_len s R c ws k
theorem cells_zero (s : S) (R c : Nat) (ws : List Int) (hc : c ≠ 0) : ∀ k, (cells s R c ws k)[0]? = ws[0]?
  | 0 => rfl
  | k + 1 => by
    show (if _ then _ else _ : List Int)[0]? = _
    split
    · rw [List.getElem?_set_ne (by omega)]; exact cells_zero s R c ws hc k
    · exact cells_zero s R c ws hc k
/-- What holds between the steps: Root has R, own acts were done, the root was moved at times. -/
structure Inv (ws : List Int) (R : Nat) (s : S) (own at' c : Nat) : Prop where
  c0 : c ≠ 0
  len : c < ws.length
  root : ws[0]? = some (R : Int)
  part : s.p = 1 ∨ s.p = 2 ∨ s.p = 3
  one : s.p = 1 → own = 0
  two : s.p = 2 → ∃ f, own = 1 + 2 * f ∧ f ≤ at' ∧ (R ≠ s.r → f + 1 ≤ at')
  three : s.p = 3 → (∃ f, own = 2 + 2 * f ∧ f ≤ at' ∧ (R ≠ s.r → f + 1 ≤ at')) ∧ ws[c]? = some (s.r : Int)
theorem Inv.bound {ws : List Int} {R : Nat} {s : S} {own at' c : Nat} (h : Inv ws R s own at' c) : own ≤ 3 + 2 * at' := by
  rcases h.part with e | e | e
  · have := h.one e; omega
  · obtain ⟨f, h1, h2, _⟩ := h.two e; omega
  · obtain ⟨⟨f, h1, h2, _⟩, _⟩ := h.three e; omega
/-- Root is moved by somebody else. -/
theorem Inv.moved {ws : List Int} {R : Nat} {s : S} {own at' c : Nat} (h : Inv ws R s own at' c) (v : Nat) : Inv (ws.set 0 (v : Int)) v s own (at' + 1) c where
  c0 := h.c0
  len := by rw [List.length_set]; exact h.len
  root := by rw [List.getElem?_set_self (by have := h.len; omega)]
  part := h.part
  one := h.one
  two := fun e => by obtain ⟨f, h1, h2, _⟩ := h.two e; exact ⟨f, h1, by omega, fun _ => by omega⟩
  three := fun e => by
    obtain ⟨⟨f, h1, h2, _⟩, h3⟩ := h.three e
    exact ⟨⟨f, h1, by omega, fun _ => by omega⟩, by rw [List.getElem?_set_ne (by have := h.c0; omega)]; exact h3⟩
theorem Inv.p {ws : List Int} {R : Nat} {s : S} {own at' c : Nat} (h : Inv ws R s own at' c) : 1 ≤ s.p ∧ s.p ≤ 4 := by rcases h.part with e | e | e <;> omega
theorem Inv.rem {ws : List Int} {R : Nat} {s : S} {own at' c : Nat} (h : Inv ws R s own at' c) : 1 ≤ Gd.rem s R := by
  unfold Gd.rem
  rcases h.part with e | e | e
  · rw [if_pos e]; omega
  · rw [if_neg (by omega), if_pos e]; split <;> omega
  · rw [if_neg (by omega), if_neg (by omega), if_pos e]; split <;> omega
/-- An act of its own, and more to come. -/
theorem Inv.goes {ws : List Int} {R : Nat} {s : S} {own at' c : Nat} (h : Inv ws R s own at' c) (hr : Gd.rem s R ≠ 1) : Inv (cells s R c ws 1) R (go s R 1) (own + 1) at' c where
  c0 := h.c0
  len := by rw [cells_len]; exact h.len
  root := by rw [cells_zero _ _ _ _ h.c0]; exact h.root
  part := by
    obtain e | e | e | e := parts h.p
    · exact .inr (.inl (by rw [e]; rfl))
    · exact .inr (.inr (by rw [e]; rfl))
    · rw [e] at hr
      have hne : s.r ≠ R := fun e2 => hr (by rw [e2]; simp [Gd.rem])
      exact .inr (.inl (by rw [e]; show (step ⟨3, s.r⟩ R).p = 2; rw [step3_no (fun e => hne e.symm)]))
    · have := h.part; rw [e] at this; simp at this
  one := fun e1 => by
    exfalso
    obtain e | e | e | e := parts h.p
    · rw [e] at e1; cases e1
    · rw [e] at e1; cases e1
    · rw [e] at hr e1
      have hne : s.r ≠ R := fun e2 => hr (by rw [e2]; simp [Gd.rem])
      have e1 : (step ⟨3, s.r⟩ R).p = 1 := e1
      rw [step3_no (fun e => hne e.symm)] at e1; cases e1
    · rw [e] at e1; cases e1
  two := fun e1 => by
    obtain e | e | e | e := parts h.p
    · have := h.one (by rw [e])
      exact ⟨0, by omega, by omega, fun hn => absurd (show R = (go s R 1).r by rw [e]; rfl) hn⟩
    · rw [e] at e1; cases e1
    · obtain ⟨⟨f, h1, h2, h3⟩, h4⟩ := h.three (by rw [e])
      rw [e] at hr
      have hne : s.r ≠ R := fun e2 => hr (by rw [e2]; simp [Gd.rem])
      refine ⟨f + 1, by omega, h3 (fun e => hne e.symm), fun hn => absurd ?_ hn⟩
      rw [e]
      show R = (step ⟨3, s.r⟩ R).r
      rw [step3_no (fun e => hne e.symm)]
    · rw [e] at e1; cases e1
  three := fun e1 => by
    obtain e | e | e | e := parts h.p
    · rw [e] at e1; cases e1
    · obtain ⟨f, h1, h2, h3⟩ := h.two (by rw [e])
      have e2 : go s R 1 = ⟨3, s.r⟩ := by rw [e]; rfl
      refine ⟨⟨f, by omega, h2, fun hn => h3 (by rw [e2] at hn; exact hn)⟩, ?_⟩
      rw [e2]
      have e3 : cells s R c ws 1 = ws.set c ((s.r : Nat) : Int) := by
        show (if s.p = 2 then ws.set c ((s.r : Nat) : Int) else ws) = _
        rw [if_pos (by rw [e])]
      rw [e3, List.getElem?_set_self h.len]
    · rw [e] at hr e1
      have hne : s.r ≠ R := fun e2 => hr (by rw [e2]; simp [Gd.rem])
      have e1 : (step ⟨3, s.r⟩ R).p = 3 := e1
      rw [step3_no (fun e => hne e.symm)] at e1; cases e1
    · rw [e] at e1; cases e1
/-- The last act. -/
theorem Inv.ends {ws : List Int} {R : Nat} {s : S} {own at' c : Nat} (h : Inv ws R s own at' c) (hr : Gd.rem s R = 1) : cells s R c ws 1 = ws ∧ go s R 1 = ⟨4, R⟩ ∧ ws[0]? = some (R : Int) ∧ ws[c]? = some (R : Int) ∧ 3 ≤ own + 1 ∧ own + 1 ≤ 3 + 2 * at' := by
  obtain e | e | e | e := parts h.p
  · rw [e] at hr; simp [Gd.rem] at hr
  · rw [e] at hr
    unfold Gd.rem at hr
    simp at hr
    split at hr <;> omega
  · obtain ⟨⟨f, h1, h2, h3⟩, h4⟩ := h.three (by rw [e])
    have hre : s.r = R := by
      rw [e] at hr
      unfold Gd.rem at hr
      simp at hr
      exact hr
    refine ⟨?_, ?_, h.root, by rw [← hre]; exact h4, by omega, by omega⟩
    · show (if s.p = 2 then ws.set c ((s.r : Nat) : Int) else ws) = _
      rw [if_neg (by rw [e]; simp)]
    · rw [e]
      show step ⟨3, s.r⟩ R = _
      rw [hre, step3_yes]
  · have := h.part; rw [e] at this; simp at this
/-- The start. -/
theorem Inv.start {n c : Nat} (hc : c ≠ 0) (hn : c < n) : Inv (List.replicate n 0) 0 ⟨1, 0⟩ 0 0 c where
  c0 := hc
  len := by rw [List.length_replicate]; exact hn
  root := by rw [List.getElem?_replicate, if_pos (by omega)]; rfl
  part := .inl rfl
  one := fun _ => rfl
  two := fun e => nomatch e
  three := fun e => nomatch e
end Go.Proofs.YtdmmgnicbemghaaDoor.Gd
