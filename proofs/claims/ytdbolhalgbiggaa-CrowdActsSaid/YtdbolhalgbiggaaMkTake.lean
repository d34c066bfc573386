/-
  The walks of Take: what was answered is kept, and the next act is told. By an AI agent.
-/
import Derived.Test.YtdbolhalgbiggaaMkEq
import Derived.Test.YtdbolhalgbiggaaArenaOps
import Derived.ScopeJumps
set_option linter.unusedSimpArgs false
set_option linter.unusedVariables false
namespace Go.Proofs.Ytdbolhalgbiggaa
open Go.RowKit Go.Maps
open Ac (A)
/-- A scope with jumps ahead: at a jump the run goes on from its label, at most n times. -/
def Hop (P : Program) (c : Code) (Q : Exit → Act → World → Prop) : Nat → Exit → Act → World → Prop
  | 0, .goto _, _, _ => False
  | n + 1, .goto l, a, w => ∃ rest, findLabel c l = some rest ∧ rest.wp P (Hop P c Q n) a w
  | _, e, a, w => Q e a w
theorem Hop.ret {P : Program} {c : Code} {Q : Exit → Act → World → Prop} {n : Nat} {a : Act} {w : World} : Hop P c Q n .ret a w = Q .ret a w := by cases n <;> rfl
theorem Hop.normal {P : Program} {c : Code} {Q : Exit → Act → World → Prop} {n : Nat} {a : Act} {w : World} : Hop P c Q n .normal a w = Q .normal a w := by cases n <;> rfl
theorem Hop.go {P : Program} {c rest : Code} {Q : Exit → Act → World → Prop} {K : Act → World → Prop} {n l : Nat} {a : Act} {w : World} (h : findLabel c l = some rest) (h2 : rest.wp P (Hop P c Q n) a w) : Exit.then K (Hop P c Q (n + 1)) (.goto l) a w := ⟨rest, h, h2⟩
theorem Hop.goto {P : Program} {c : Code} {Q : Exit → Act → World → Prop} {n l : Nat} {a : Act} {w : World} : Hop P c Q (n + 1) (.goto l) a w = ∃ rest, findLabel c l = some rest ∧ rest.wp P (Hop P c Q n) a w := rfl
theorem scope_hops {P : Program} {a : Act} {w : World} {Q : Exit → Act → World → Prop} {c : Code} (n : Nat) (h : c.wp P (Hop P c Q n) a w) : (Code.scope c).wp P Q a w := by
  intro b k cs
  have key : ∀ n e a₁ w₁, Hop P c Q n e a₁ w₁ → Arrives P (lone (b.at a (.code c :: .inScope c :: k)) cs w) b (.inScope c :: k) cs e a₁ w₁ → ∃ e a' w', Q e a' w' ∧ Arrives P (lone (b.at a (.code c :: .inScope c :: k)) cs w) b k cs e a' w' := by
    intro n
    induction n with
    | zero =>
      intro e a₁ w₁ hq harr
      cases e with
      | normal => exact ⟨.normal, a₁, w₁, hq, Steps.trans harr (.one step_inScope)⟩
      | exit id => exact ⟨.exit id, a₁, w₁, hq, fun k' hk => harr k' (by simp [exitTo, hk])⟩
      | goto l' => exact hq.elim
      | ret => exact ⟨_, a₁, w₁, hq, harr⟩
      | panic ch => exact ⟨_, a₁, w₁, hq, harr⟩
      | outgrown => exact ⟨_, a₁, w₁, hq, harr⟩
    | succ n ih =>
      intro e a₁ w₁ hq harr
      cases e with
      | normal => exact ⟨.normal, a₁, w₁, hq, Steps.trans harr (.one step_inScope)⟩
      | exit id => exact ⟨.exit id, a₁, w₁, hq, fun k' hk => harr k' (by simp [exitTo, hk])⟩
      | goto l' =>
        obtain ⟨rest, hf, hr⟩ := hq
        have hg : gotoIn l' (.inScope c :: k) = some (.code rest :: .inScope c :: k) := by simp [gotoIn, hf]
        obtain ⟨e₂, a₂, w₂, hq₂, harr₂⟩ := hr b (.inScope c :: k) cs
        exact ih e₂ a₂ w₂ hq₂ (.of_steps (harr _ hg) harr₂)
      | ret => exact ⟨_, a₁, w₁, hq, harr⟩
      | panic ch => exact ⟨_, a₁, w₁, hq, harr⟩
      | outgrown => exact ⟨_, a₁, w₁, hq, harr⟩
  obtain ⟨e, a₁, w₁, hq, harr⟩ := h b (.inScope c :: k) cs
  obtain ⟨e₂, a₂, w₂, hq₂, harr₂⟩ := key n e a₁ w₁ hq harr
  exact ⟨e₂, a₂, w₂, hq₂, .of_steps (.one step_scope) harr₂⟩
/-- Nothing but one block changes. -/
abbrev Chg (q : Nat) (w w' : World) : Prop := Tn (fun k => k = q) (fun k => k = q) w w'
theorem Chg.set {q : Nat} {w w' : World} (h : Chg q w w') (i : Nat) (v : Value) (hq : q < w'.heap.size) : Chg q w (w'.setCell ⟨q, i, none⟩ v) :=
  ⟨h.os, h.tape, h.output, by have := h.size; simp [World.setCell] at this ⊢; omega, fun k hk hF => (Below.heap_setCell _ _ _ _ hF).trans (h.block k hk hF), h.foot⟩
/-- The next act, stored. -/
abbrev put5 (w : World) (q : Nat) (x : A) : World := ((((w.setCell ⟨q, 5, none⟩ (.int .i64 x.k)).setCell ⟨q, 6, none⟩ (.int .u64 (x.b : Int))).setCell ⟨q, 7, none⟩ (.int .i64 x.c)).setCell ⟨q, 8, none⟩ (.int .u64 (x.o : Int))).setCell ⟨q, 9, none⟩ (.int .u64 (x.n : Int))
theorem Chg.put5 {q : Nat} {w w' : World} (h : Chg q w w') (x : A) (hq : q < w'.heap.size) : Chg q w (put5 w' q x) := by
  refine ((((h.set 5 _ hq).set 6 _ ?_).set 7 _ ?_).set 8 _ ?_).set 9 _ ?_ <;> simpa [World.setCell] using hq
end Go.Proofs.Ytdbolhalgbiggaa
