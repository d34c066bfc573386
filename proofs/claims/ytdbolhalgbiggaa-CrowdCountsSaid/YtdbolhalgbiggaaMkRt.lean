/-
  A routine, whatever it is made of: its value, its acts, what must be answered, and its states. By an AI agent.
-/
import Derived.Test.YtdbolhalgbiggaaMkStep
set_option linter.unusedSimpArgs false
set_option linter.unusedVariables false
namespace Go.Proofs.Ytdbolhalgbiggaa
open Go.RowKit Go.Maps
open Mm (Mem Blk)
open Ac (A)
/-- A loop's own records. -/
def isRec : Obj → Bool
  | .loop _ => true
  | .deferred _ => true
  | _ => false
/-- A routine of N acts: St tells that k of them are done, and which blocks are its own. -/
structure Rt where
  v : Value
  N : Nat
  xs : Nat → A
  vs : Nat → Int
  St : Nat → World → Nat → (Nat → Prop) → Prop
  at' : World → Nat
  one : v.oneCell' = true
  foot : ∀ {B w k H j}, St B w k H → H j → B ≤ j ∧ j < w.heap.size
  keep : ∀ {B w w' k H}, St B w k H → (∀ j, H j → w'.heap[j]? = w.heap[j]?) → St B w' k H
  at_eq : ∀ {B w k H}, St B w k H → at' w = k
  norec : ∀ {B w k H j o}, St B w k H → H j → w.heap[j]? = some o → isRec o = false
  next : ∀ {B w k H}, St B w k H → k ≤ N → Calls Try.prog 32 #[v] w (Gives (.tuple #[av (if k < N then xs k else ⟨0, 0, 0, 0, 0⟩), .bool (decide (k < N))]) w)
  take : ∀ {B w k H}, St B w k H → B ≤ w.heap.size → k < N → Calls Try.prog 47 #[v, .int .u64 (vs k)] w fun e w' => e = .returned (.tuple #[]) ∧ ∃ H', St B w' (k + 1) H' ∧ Tn H H' w w'
theorem Rt.below (R : Rt) {B k : Nat} {w w' : World} {H : Nat → Prop} (h : R.St B w k H) (hb : Below w.heap.size w w') : R.St B w' k H := R.keep h fun j hj => hb.block j (R.foot h hj).2
def Or2 (F H : Nat → Prop) (k : Nat) : Prop := F k ∨ H k
/-- An arena and a routine, apart from one another. -/
structure Du (R : Rt) (B : Nat) (w : World) (p : Nat) (S : Mem) (k : Nat) (F H : Nat → Prop) : Prop where
  ar : Ax B w p S F
  ro : R.St B w k H
  apart : ∀ k, H k → ¬ F k
section
variable {R : Rt} {B : Nat} {w w1 w' : World} {p k : Nat} {S S' : Mem} {F F' H H' G : Nat → Prop}
/-- A routine, apart from what changes. -/
theorem Tn.ro (h : Tn F F' w w') (ho : R.St B w k G) (ha : ∀ k, G k → ¬ F k) : R.St B w' k G ∧ ∀ k, G k → ¬ F' k :=
  ⟨R.keep ho fun k hk => h.block k (R.foot ho hk).2 (ha k hk), fun k hk e => (h.foot k e).elim (ha k hk) (fun e2 => by have := (R.foot ho hk).2; omega)⟩
theorem Tn.left (h : Tn F F' w w') : Tn (Or2 F H) (Or2 F' H) w w' := ⟨h.os, h.tape, h.output, h.size, fun k hk hF => h.block k hk (fun e => hF (.inl e)), fun k hk => by
  rcases hk with hk | hk
  · exact (h.foot k hk).imp .inl id
  · exact .inl (.inr hk)⟩
theorem Tn.right (h : Tn H H' w w') : Tn (Or2 F H) (Or2 F H') w w' := ⟨h.os, h.tape, h.output, h.size, fun k hk hF => h.block k hk (fun e => hF (.inr e)), fun k hk => by
  rcases hk with hk | hk
  · exact .inl (.inl hk)
  · exact (h.foot k hk).imp .inr id⟩
theorem Tn.then_below (h : Tn F F' w w1) (hb : Below w.heap.size w1 w') : Tn F F' w w' := ⟨hb.os.trans h.os, hb.tape.trans h.tape, hb.output.trans h.output, Nat.le_trans h.size hb.size, fun k hk hF => (hb.block k hk).trans (h.block k hk hF), h.foot⟩
theorem Du.below (h : Du R B w p S k F H) (hb : Below w.heap.size w w') : Du R B w' p S k F H := ⟨h.ar.below hb (Nat.le_refl _), R.below h.ro hb, h.apart⟩
theorem Du.foot (h : Du R B w p S k F H) {j : Nat} (hk : Or2 F H j) : B ≤ j ∧ j < w.heap.size := hk.elim (fun e => h.ar.foot e) (fun e => R.foot h.ro e)
end
end Go.Proofs.Ytdbolhalgbiggaa
