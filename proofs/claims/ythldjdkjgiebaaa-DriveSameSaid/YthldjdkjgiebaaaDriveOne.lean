/-
  One routine, picked again and again; several arenas apart from one another. By an AI agent.
-/
import Derived.Test.YthldjdkjgiebaaaDriveAwakeMath
set_option linter.unusedSimpArgs false
set_option linter.unusedVariables false
namespace Go.Proofs.Ythldjdkjgiebaaa
open Go.RowKit Go.Maps
open Mm (Mem Blk)
open Ac (A)
/-- One routine that is picked again and again does what it does alone. -/
theorem rn_one (N : Nat) (xs : Nat → A) (S0 : Mem) : ∀ k, (rn (fun _ => N) (fun _ => xs) (fun _ => 0) S0 k).S = mm S0 xs (min k N) ∧ (rn (fun _ => N) (fun _ => xs) (fun _ => 0) S0 k).gs 0 = ans S0 xs (min k N) ∧ (rn (fun _ => N) (fun _ => xs) (fun _ => 0) S0 k).ts = tl S0 xs (min k N)
  | 0 => by simp [rn, mm, ans, tl]
  | k + 1 => by
    obtain ⟨h1, h2, h3⟩ := rn_one N xs S0 k
    show (stepRu (fun _ => N) (fun _ => xs) 0 (rn (fun _ => N) (fun _ => xs) (fun _ => 0) S0 k)).S = _ ∧ (stepRu (fun _ => N) (fun _ => xs) 0 (rn (fun _ => N) (fun _ => xs) (fun _ => 0) S0 k)).gs 0 = _ ∧ (stepRu (fun _ => N) (fun _ => xs) 0 (rn (fun _ => N) (fun _ => xs) (fun _ => 0) S0 k)).ts = _
    generalize rn (fun _ => N) (fun _ => xs) (fun _ => 0) S0 k = s at *
    have hl : (s.gs 0).length = min k N := by rw [h2, ans_len]
    by_cases hlt : k < N
    · have e1 : min k N = k := by omega
      have e2 : min (k + 1) N = k + 1 := by omega
      rw [e1] at h1 h2 h3 hl
      rw [stepRu_more (by rw [hl]; exact hlt), e2]
      refine ⟨?_, ?_, ?_⟩
      · simp only [hl, h1]; rfl
      · simp only [upd_same, h1, h2, ans_len]; rw [ans_succ]; rfl
      · simp only [hl, h1, h3]; rw [tl_succ]; rfl
    · have e1 : min k N = N := by omega
      have e2 : min (k + 1) N = N := by omega
      rw [e1] at h1 h2 h3 hl
      rw [stepRu_none (by rw [hl]; omega), e2]
      exact ⟨h1, h2, h3⟩
section
variable {B : Nat} {w W : World} {p q p2 q2 : Nat} {S S2 : Mem} {a a2 : Option Addr} {N c N2 c2 : Nat} {gs gs2 : List Int} {F H F' H' F2 H2 : Nat → Prop}
/-- Another arena with its routine outlives a change of this one, and stays apart. -/
theorem Du.other (h : Du B w p2 S2 q2 a2 N2 c2 gs2 F2 H2) (ht : Tn (Or2 F H) (Or2 F' H') w W) (hd : ∀ k, Or2 F2 H2 k → ¬ Or2 F H k) : Du B W p2 S2 q2 a2 N2 c2 gs2 F2 H2 ∧ ∀ k, Or2 F2 H2 k → ¬ Or2 F' H' k :=
  ⟨h.keep fun k hk => ht.block k (h.foot hk).2 (hd k hk), fun k hk e => (ht.foot k e).elim (hd k hk) (fun e2 => by have := (h.foot hk).2; omega)⟩
theorem Du.alien (h : Du B w p S q a N c gs F H) (ht : Tn (Or2 F H) (Or2 F' H') w W) : KeepsAlien w W := fun k o hk ho =>
  (ht.block k (Array.getElem?_eq_some_iff.1 hk).1 (fun e => by have := h.noalien e hk; rw [this] at ho; cases ho)).trans hk
/-- One routine, as many. -/
theorem Du.ms (h : Du B w p S q a N c gs F H) : Ms B w p S 1 (fun _ => q) (fun _ => a) (fun _ => N) (fun _ => c) (fun _ => gs) F (fun _ => H) :=
  ⟨h.ar, fun _ _ => h.ro, fun _ _ => h.apart, fun i j hi hj hne => absurd (by omega : i = j) hne⟩
theorem tot_one {k : Nat} : Tot 1 F (fun _ => H) k ↔ Or2 F H k := ⟨fun h => h.elim .inl (fun ⟨_, _, e⟩ => .inr e), fun h => h.elim .inl (fun e => .inr ⟨0, by omega, e⟩)⟩
theorem Ms.one {q : Nat → Nat} {a : Nat → Option Addr} {N c : Nat → Nat} {gs : Nat → List Int} {H : Nat → Nat → Prop} (h : Ms B w p S 1 q a N c gs F H) : Du B w p S (q 0) (a 0) (N 0) (c 0) (gs 0) F (H 0) := h.du (by omega)
theorem tot_zero {H : Nat → Nat → Prop} {k : Nat} : Tot 1 F H k ↔ Or2 F (H 0) k := by
  constructor
  · rintro (h | ⟨i, hi, h⟩)
    · exact .inl h
    · obtain rfl : i = 0 := by omega
      exact .inr h
  · rintro (h | h)
    · exact .inl h
    · exact .inr ⟨0, by omega, h⟩
end
end Go.Proofs.Ythldjdkjgiebaaa
