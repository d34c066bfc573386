/-
  What a loop over acts leaves alone. By an AI agent.
-/
import Derived.Test.YtdbolhalgbiggaaMkRange
set_option linter.unusedSimpArgs false
set_option linter.unusedVariables false
namespace Go.Proofs.Ytdbolhalgbiggaa
open Go.RowKit Go.Shelf Go.Maps
open Mm (Mem Blk)
open Ac (A)
section
variable {R : Rt} {B : Nat} {w W W' : World} {p k n1 : Nat} {S S' : Mem} {F F' H H' F0 H0 : Nat → Prop}
theorem Ax.norec (h : Ax B W p S F) {k : Nat} (hk : F k) {o : Obj} (ho : W.heap[k]? = some o) : isRec o = false := by
  obtain ⟨m, g, ha, rfl⟩ := h
  rcases hk with rfl | rfl | ⟨b, hb, rfl⟩
  · rw [ha.own] at ho; cases ho; rfl
  · obtain ⟨n, D, _, ⟨es, cc, hm, _⟩, _⟩ := ha.map
    rw [hm] at ho; cases ho; rfl
  · obtain ⟨tl, hw⟩ := (ha.row b hb).2
    rw [hw] at ho; cases ho; rfl
theorem Du.norec (h : Du R B W p S k F H) {j : Nat} (hk : Or2 F H j) {o : Obj} (ho : W.heap[j]? = some o) : isRec o = false :=
  hk.elim (fun e => h.ar.norec e ho) (fun e => R.norec h.ro e ho)
/-- An arena and a routine inside a loop whose own boxes lie from w's end up to n1. -/
def Lp (R : Rt) (B : Nat) (w : World) (F0 H0 : Nat → Prop) (p : Nat) (S : Mem) (k n1 : Nat) (W : World) : Prop :=
  n1 ≤ W.heap.size ∧ ∃ F H, Du R B W p S k F H ∧ Tn (Or2 F0 H0) (Or2 F H) w W ∧ ∀ j, Or2 F H j → j < w.heap.size ∨ n1 ≤ j
theorem Lp.start (h : Du R B w p S k F0 H0) (hb : Below w.heap.size w W) (hn : n1 ≤ W.heap.size) : Lp R B w F0 H0 p S k n1 W :=
  ⟨hn, F0, H0, h.below hb, Tn.of_below hb, fun k hk => .inl (h.foot hk).2⟩
theorem Du.keep (h : Du R B W p S k F H) (hk : ∀ k, Or2 F H k → W'.heap[k]? = W.heap[k]?) : Du R B W' p S k F H := ⟨h.ar.keep fun k e => hk k (.inl e), R.keep h.ro fun k e => hk k (.inr e), h.apart⟩
theorem Lp.keep (h : Lp R B w F0 H0 p S k n1 W) (ho : W'.os = W.os) (ht : W'.tape = W.tape) (hu : W'.output = W.output) (hs : W.heap.size ≤ W'.heap.size)
    (hk : ∀ k, k < W.heap.size → (k < w.heap.size ∨ (n1 ≤ k ∧ ∀ o, W.heap[k]? = some o → isRec o = false)) → W'.heap[k]? = W.heap[k]?) : Lp R B w F0 H0 p S k n1 W' := by
  obtain ⟨hn, F, H, hd, ht', hf⟩ := h
  refine ⟨Nat.le_trans hn hs, F, H, hd.keep fun k e => hk k (hd.foot e).2 ((hf k e).imp id fun h1 => ⟨h1, fun o ho => hd.norec e ho⟩), ⟨ho.trans ht'.os, ht.trans ht'.tape, hu.trans ht'.output, Nat.le_trans ht'.size hs, fun k h1 h2 => (hk k (Nat.lt_of_lt_of_le h1 ht'.size) (.inl h1)).trans (ht'.block k h1 h2), ht'.foot⟩, hf⟩
theorem Lp.below (h : Lp R B w F0 H0 p S k n1 W) (hb : Below W.heap.size W W') : Lp R B w F0 H0 p S k n1 W' := h.keep hb.os hb.tape hb.output hb.size fun k hk _ => hb.block k hk
theorem Lp.alloc (h : Lp R B w F0 H0 p S k n1 W) (o : Obj) : Lp R B w F0 H0 p S k n1 (W.alloc o) := h.below ((Below.refl _ _).alloc (Nat.le_refl _) _)
theorem Lp.set (h : Lp R B w F0 H0 p S k n1 W) {b : Nat} (h1 : w.heap.size ≤ b) (h2 : b < n1) (o : Nat) (v : Value) : Lp R B w F0 H0 p S k n1 (W.setCell ⟨b, o, none⟩ v) :=
  h.keep rfl rfl rfl (by simp [World.setCell]) fun k _ hk => Below.heap_setCell _ _ _ _ (fun e => by have e' : k = b := e; omega)
theorem Lp.putRec (h : Lp R B w F0 H0 p S k n1 W) {l : Nat} {o o' : Obj} (hl : w.heap.size ≤ l) (ho : W.heap[l]? = some o) (hr : isRec o = true) : Lp R B w F0 H0 p S k n1 (W.putObj l o') :=
  h.keep rfl rfl rfl (by simp [World.putObj]) fun k _ hk => World.putObj_heap_other (fun e => by
    subst e
    rcases hk with hk | hk
    · omega
    · have := hk.2 o ho; rw [hr] at this; cases this)
theorem Lp.out (h : Lp R B w F0 H0 p S k n1 W) : ∃ F H, Du R B W p S k F H ∧ Tn (Or2 F0 H0) (Or2 F H) w W := by
  obtain ⟨_, F, H, hd, ht, _⟩ := h
  exact ⟨F, H, hd, ht⟩
theorem Lp.size (h : Lp R B w F0 H0 p S k n1 W) : n1 ≤ W.heap.size := h.1
theorem Lp.wsize (h : Lp R B w F0 H0 p S k n1 W) : w.heap.size ≤ W.heap.size := let ⟨_, _, _, _, ht, _⟩ := h; ht.size
theorem Lp.ro (h : Lp R B w F0 H0 p S k n1 W) : ∃ H, R.St B W k H := by
  obtain ⟨_, F, H, hd, ht, _⟩ := h
  exact ⟨H, hd.ro⟩
/-- A box outlives what its own block outlives. -/
theorem boxed_keep {t : TypeId} {v : Value} {b : Nat} (h : Boxed W b t v) (hk : W'.heap[b]? = W.heap[b]?) : Boxed W' b t v := hk.trans h
/-- The next act, in a loop. -/
theorem Lp.step (h : Lp R B w F0 H0 p S k n1 W) (h0 : ∀ k, Or2 F0 H0 k → B ≤ k) (hB : B ≤ w.heap.size) (hm : k < R.N) (hD : DoesIt S (R.xs k) (R.vs k) S') :
    Calls Try.prog 42 #[.pointer (some ⟨p, 0, none⟩), R.v] W fun e W2 => e = .returned (.tuple #[av (R.xs k), .int .u64 (R.vs k), .bool true]) ∧ KeepsRec W W2 ∧ (∀ k, w.heap.size ≤ k → k < n1 → W2.heap[k]? = W.heap[k]?) ∧ W.heap.size ≤ W2.heap.size ∧ Lp R B w F0 H0 p S' (k + 1) n1 W2 := by
  obtain ⟨hn, F, H, hd, ht, hf⟩ := h
  have hbW : Below B w W := ht.below h0 hB
  refine (goon_more R hd (Nat.le_trans hB ht.size) hm hD).mono ?_
  rintro e W2 ⟨rfl, F', H', hd', ht'⟩
  refine ⟨rfl, fun k o hk ho => (ht'.block k (Array.getElem?_eq_some_iff.1 hk).1 (fun e => by have := hd.norec e hk; rw [this] at ho; cases ho)).trans hk, fun k h1 h2 => ht'.block k (by omega) (fun e => by rcases hf k e with e | e <;> omega), ht'.size, Nat.le_trans hn ht'.size, F', H', hd', ht.trans ht', fun k hk => ?_⟩
  rcases ht'.foot k hk with e | e
  · exact hf k e
  · exact .inr (by omega)
/-- No act comes any more. -/
theorem Lp.stop (h : Lp R B w F0 H0 p S k n1 W) (pv : Value) (hm : k = R.N) :
    Calls Try.prog 42 #[pv, R.v] W fun e W2 => e = .returned (.tuple #[av ⟨0, 0, 0, 0, 0⟩, .int .u64 0, .bool false]) ∧ KeepsRec W W2 ∧ Below W.heap.size W W2 ∧ Lp R B w F0 H0 p S k n1 W2 := by
  obtain ⟨H, hr⟩ := h.ro
  refine (goon_end R pv hr hm).mono ?_
  rintro e W2 ⟨rfl, hb⟩
  exact ⟨rfl, KeepsRec.below hb, hb, h.below hb⟩
end
end Go.Proofs.Ytdbolhalgbiggaa
