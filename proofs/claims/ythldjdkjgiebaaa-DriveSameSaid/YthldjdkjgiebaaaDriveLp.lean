/-
  Acts one behind the other, and what a loop over them leaves alone. By an AI agent.
-/
import Derived.Test.YthldjdkjgiebaaaDriveRange
set_option linter.unusedSimpArgs false
set_option linter.unusedVariables false
namespace Go.Proofs.Ythldjdkjgiebaaa
open Go.RowKit Go.Shelf Go.Maps
open Mm (Mem Blk)
open Ac (A)
/-- The memory behind k acts, and what was answered to each. -/
noncomputable def mm (S : Mem) (xs : Nat → A) : Nat → Mem
  | 0 => S
  | k + 1 => (nxv (mm S xs k) (xs k)).2
noncomputable def an (S : Mem) (xs : Nat → A) (k : Nat) : Int := (nxv (mm S xs k) (xs k)).1
noncomputable def ans (S : Mem) (xs : Nat → A) (k : Nat) : List Int := (List.range k).map (an S xs)
theorem ans_succ (S : Mem) (xs : Nat → A) (k : Nat) : ans S xs (k + 1) = ans S xs k ++ [an S xs k] := by simp [ans, List.range_succ]
theorem ans_len (S : Mem) (xs : Nat → A) (k : Nat) : (ans S xs k).length = k := by simp [ans]
theorem mm_mid {S : Mem} {xs : Nat → A} {N : Nat} (hS : Mid S 0) (hN : N ≤ 1000000) (hx : ∀ j, j < N → Fits (xs j)) : ∀ k, k ≤ N → Mid (mm S xs k) k
  | 0, _ => hS
  | k + 1, h => (mm_mid hS hN hx k (by omega)).next (by omega) (hx k (by omega))
theorem mm_nx {S : Mem} {xs : Nat → A} {N : Nat} (hS : Mid S 0) (hN : N ≤ 1000000) (hx : ∀ j, j < N → Fits (xs j)) {k : Nat} (hk : k < N) : Nx (mm S xs k) (xs k) (an S xs k) (mm S xs (k + 1)) :=
  (mm_mid hS hN hx k (by omega)).nx (by omega) (hx k hk)
/-- A new arena. -/
abbrev s0 (n : Nat) : Mem := ⟨n, 0, 0, []⟩
theorem mid_new {n : Nat} (h1 : 1 ≤ n) (h2 : n ≤ 65536) : Mid (s0 n) 0 := ⟨⟨h1, h2, trivial, Nat.zero_le _, fun b hb => by simp at hb⟩, Nat.le_refl _, Nat.le_refl _⟩
/-- What neither an arena nor a routine is made of. -/
def alien : Obj → Bool
  | .map _ _ => false
  | .cells _ t _ => t != 66 && t != 35 && t != 29
  | _ => true
def KeepsAlien (W W' : World) : Prop := ∀ (k : Nat) (o : Obj), W.heap[k]? = some o → alien o = true → W'.heap[k]? = some o
section
variable {B : Nat} {w W W' : World} {p q : Nat} {S S' : Mem} {a : Option Addr} {N c n1 : Nat} {gs : List Int} {F F' H H' F0 H0 : Nat → Prop}
theorem Ax.noalien (h : Ax B W p S F) {k : Nat} (hk : F k) {o : Obj} (ho : W.heap[k]? = some o) : alien o = false := by
  obtain ⟨m, g, ha, rfl⟩ := h
  rcases hk with rfl | rfl | ⟨b, hb, rfl⟩
  · rw [ha.own] at ho; cases ho; rfl
  · obtain ⟨n, D, _, ⟨es, cc, hm, _⟩, _⟩ := ha.map
    rw [hm] at ho; cases ho; rfl
  · obtain ⟨tl, hw⟩ := (ha.row b hb).2
    rw [hw] at ho; cases ho; rfl
theorem Ro.noalien (h : Ro B W q a N c gs H) {k : Nat} (hk : H k) {o : Obj} (ho : W.heap[k]? = some o) : alien o = false := by
  obtain ⟨au, cu, h, rfl⟩ := h
  rcases hk with rfl | hk
  · rw [h.own] at ho; cases ho; rfl
  · rcases h.row.2 with ⟨e, _⟩ | ⟨g, cap, cur, e, _, hg, _⟩
    · injection e with e; rw [e] at hk; cases hk
    · injection e with e; rw [e] at hk; cases hk
      rw [hg] at ho; cases ho; rfl
theorem Du.noalien (h : Du B W p S q a N c gs F H) {k : Nat} (hk : Or2 F H k) {o : Obj} (ho : W.heap[k]? = some o) : alien o = false :=
  hk.elim (fun e => h.ar.noalien e ho) (fun e => h.ro.noalien e ho)
theorem alien_rec {o : Obj} (h : isRec o = true) : alien o = true := by cases o <;> first | rfl | cases h
theorem KeepsAlien.rec (h : KeepsAlien W W') : KeepsRec W W' := fun k o hk ho => h k o hk (alien_rec ho)
theorem KeepsAlien.below (h : Below W.heap.size W W') : KeepsAlien W W' := fun k o hk _ => (h.block k (Array.getElem?_eq_some_iff.1 hk).1).trans hk
theorem KeepsAlien.boxed (h : KeepsAlien W W') {b : Nat} {t : TypeId} {v : Value} (hb : Boxed W b t v) (ht : alien (.cells #[v] t (0, 0)) = true) : Boxed W' b t v := h b _ hb ht
theorem KeepsAlien.row (h : KeepsAlien W W') {base : Nat} {t : TypeId} {sz n : Nat} {v : Value} {xs : List Value} (hr : W.ownsRow base t sz v n xs) (ht : ∀ cs, alien (.cells cs t (0, 0)) = true) : W'.ownsRow base t sz v n xs := by
  refine ⟨hr.1, ?_⟩
  rcases hr.2 with hn | ⟨g, cap, cur, e, hb, hgg, rest⟩
  · exact .inl hn
  · exact .inr ⟨g, cap, cur, e, hb, h g _ hgg (ht _), rest⟩
/-- An arena and a routine inside a loop whose own boxes lie from w's end up to n1. -/
def Lp (B : Nat) (w : World) (F0 H0 : Nat → Prop) (p : Nat) (S : Mem) (q : Nat) (a : Option Addr) (N c : Nat) (gs : List Int) (n1 : Nat) (W : World) : Prop :=
  n1 ≤ W.heap.size ∧ ∃ F H, Du B W p S q a N c gs F H ∧ Tn (Or2 F0 H0) (Or2 F H) w W ∧ ∀ k, Or2 F H k → k < w.heap.size ∨ n1 ≤ k
theorem Lp.start (h : Du B w p S q a N c gs F0 H0) (hb : Below w.heap.size w W) (hn : n1 ≤ W.heap.size) : Lp B w F0 H0 p S q a N c gs n1 W :=
  ⟨hn, F0, H0, h.below hb, Tn.of_below hb, fun k hk => .inl (h.foot hk).2⟩
theorem Du.keep (h : Du B W p S q a N c gs F H) (hk : ∀ k, Or2 F H k → W'.heap[k]? = W.heap[k]?) : Du B W' p S q a N c gs F H := ⟨h.ar.keep fun k e => hk k (.inl e), h.ro.keep fun k e => hk k (.inr e), h.apart⟩
theorem Lp.keep (h : Lp B w F0 H0 p S q a N c gs n1 W) (ho : W'.os = W.os) (ht : W'.tape = W.tape) (hu : W'.output = W.output) (hs : W.heap.size ≤ W'.heap.size)
    (hk : ∀ k, k < W.heap.size → (k < w.heap.size ∨ (n1 ≤ k ∧ ∀ o, W.heap[k]? = some o → alien o = false)) → W'.heap[k]? = W.heap[k]?) : Lp B w F0 H0 p S q a N c gs n1 W' := by
  obtain ⟨hn, F, H, hd, ht', hf⟩ := h
  refine ⟨Nat.le_trans hn hs, F, H, hd.keep fun k e => hk k (hd.foot e).2 ((hf k e).imp id fun h1 => ⟨h1, fun o ho => hd.noalien e ho⟩), ⟨ho.trans ht'.os, ht.trans ht'.tape, hu.trans ht'.output, Nat.le_trans ht'.size hs, fun k h1 h2 => (hk k (Nat.lt_of_lt_of_le h1 ht'.size) (.inl h1)).trans (ht'.block k h1 h2), ht'.foot⟩, hf⟩
theorem Lp.below (h : Lp B w F0 H0 p S q a N c gs n1 W) (hb : Below W.heap.size W W') : Lp B w F0 H0 p S q a N c gs n1 W' := h.keep hb.os hb.tape hb.output hb.size fun k hk _ => hb.block k hk
theorem Lp.alloc (h : Lp B w F0 H0 p S q a N c gs n1 W) (o : Obj) : Lp B w F0 H0 p S q a N c gs n1 (W.alloc o) := h.below ((Below.refl _ _).alloc (Nat.le_refl _) _)
theorem Lp.set (h : Lp B w F0 H0 p S q a N c gs n1 W) {b : Nat} (h1 : w.heap.size ≤ b) (h2 : b < n1) (o : Nat) (v : Value) : Lp B w F0 H0 p S q a N c gs n1 (W.setCell ⟨b, o, none⟩ v) :=
  h.keep rfl rfl rfl (by simp [World.setCell]) fun k _ hk => Below.heap_setCell _ _ _ _ (fun e => by have e' : k = b := e; omega)
theorem Lp.putRec (h : Lp B w F0 H0 p S q a N c gs n1 W) {l : Nat} {o o' : Obj} (hl : w.heap.size ≤ l) (ho : W.heap[l]? = some o) (hr : isRec o = true) : Lp B w F0 H0 p S q a N c gs n1 (W.putObj l o') :=
  h.keep rfl rfl rfl (by simp [World.putObj]) fun k _ hk => World.putObj_heap_other (fun e => by
    subst e
    rcases hk with hk | hk
    · omega
    · have := hk.2 o ho; rw [alien_rec hr] at this; cases this)
theorem Lp.out (h : Lp B w F0 H0 p S q a N c gs n1 W) : ∃ F H, Du B W p S q a N c gs F H ∧ Tn (Or2 F0 H0) (Or2 F H) w W := by
  obtain ⟨_, F, H, hd, ht, _⟩ := h
  exact ⟨F, H, hd, ht⟩
theorem Lp.size (h : Lp B w F0 H0 p S q a N c gs n1 W) : n1 ≤ W.heap.size := h.1
theorem Lp.wsize (h : Lp B w F0 H0 p S q a N c gs n1 W) : w.heap.size ≤ W.heap.size := let ⟨_, _, _, _, ht, _⟩ := h; ht.size
theorem Lp.ro (h : Lp B w F0 H0 p S q a N c gs n1 W) : ∃ H, Ro B W q a N c gs H := by
  obtain ⟨_, F, H, hd, ht, _⟩ := h
  exact ⟨H, hd.ro⟩
/-- A box outlives what its own block outlives. -/
theorem boxed_keep {t : TypeId} {v : Value} {b : Nat} (h : Boxed W b t v) (hk : W'.heap[b]? = W.heap[b]?) : Boxed W' b t v := hk.trans h
/-- The next act, in a loop. -/
theorem Lp.step2 (h : Lp B w F0 H0 p S q a N c gs n1 W) (h0 : ∀ k, Or2 F0 H0 k → B ≤ k) (hB : B ≤ w.heap.size) (hm : gs.length < N) (hl : gs.length ≤ 1000000) (x : A) (v : Int) (hx : ∀ w1, Below B w w1 → ActAt a w1 gs.length x) (hD : DoesIt S x v S') :
    Calls Try.prog 24 #[.pointer (some ⟨p, 0, none⟩), rv q] W fun e W2 => e = .returned (.tuple #[av x, .int .u64 v, .bool true]) ∧ KeepsAlien W W2 ∧ (∀ k, w.heap.size ≤ k → k < n1 → W2.heap[k]? = W.heap[k]?) ∧ W.heap.size ≤ W2.heap.size ∧ Lp B w F0 H0 p S' q a N c (gs ++ [v]) n1 W2 := by
  obtain ⟨hn, F, H, hd, ht, hf⟩ := h
  have hbW : Below B w W := ht.below h0 hB
  refine (goon_more hd (Nat.le_trans hB ht.size) hm hl x v (fun w1 hb => hx w1 (hbW.trans hb)) hD).mono ?_
  rintro e W2 ⟨rfl, F', H', hd', ht'⟩
  refine ⟨rfl, fun k o hk ho => (ht'.block k (Array.getElem?_eq_some_iff.1 hk).1 (fun e => by have := hd.noalien e hk; rw [this] at ho; cases ho)).trans hk, fun k h1 h2 => ht'.block k (by omega) (fun e => by rcases hf k e with e | e <;> omega), ht'.size, Nat.le_trans hn ht'.size, F', H', hd', ht.trans ht', fun k hk => ?_⟩
  rcases ht'.foot k hk with e | e
  · exact hf k e
  · exact .inr (by omega)
theorem Lp.step (h : Lp B w F0 H0 p S q a N c gs n1 W) (h0 : ∀ k, Or2 F0 H0 k → B ≤ k) (hB : B ≤ w.heap.size) (hm : gs.length < N) (hl : gs.length ≤ 1000000) (x : A) (v : Int) (hx : ∀ w1, Below B w w1 → ActAt a w1 gs.length x) (hD : DoesIt S x v S') :
    Calls Try.prog 24 #[.pointer (some ⟨p, 0, none⟩), rv q] W fun e W2 => e = .returned (.tuple #[av x, .int .u64 v, .bool true]) ∧ KeepsRec W W2 ∧ (∀ k, w.heap.size ≤ k → k < n1 → W2.heap[k]? = W.heap[k]?) ∧ W.heap.size ≤ W2.heap.size ∧ Lp B w F0 H0 p S' q a N c (gs ++ [v]) n1 W2 :=
  (h.step2 h0 hB hm hl x v hx hD).mono fun _ _ ⟨h1, h2, h3⟩ => ⟨h1, h2.rec, h3⟩
/-- No act comes any more. -/
theorem Lp.stop (h : Lp B w F0 H0 p S q a N c gs n1 W) (pv : Value) (hm : N ≤ gs.length) :
    Calls Try.prog 24 #[pv, rv q] W fun e W2 => e = .returned (.tuple #[av ⟨0, 0, 0, 0, 0⟩, .int .u64 0, .bool false]) ∧ KeepsRec W W2 ∧ Below W.heap.size W W2 ∧ Lp B w F0 H0 p S q a N c gs n1 W2 := by
  obtain ⟨H, hr⟩ := h.ro
  refine (goon_end pv hr hm).mono ?_
  rintro e W2 ⟨rfl, hb⟩
  exact ⟨rfl, KeepsRec.below hb, hb, h.below hb⟩
end
/-- How many answers a routine has. -/
def gotLen (q : Nat) (W : World) : Nat := match W.cell? ⟨q, 1, none⟩ with
  | some (.slice _ n _) => n
  | _ => 0
theorem gotLen_of {B : Nat} {W : World} {q : Nat} {a : Option Addr} {N c : Nat} {gs : List Int} {H : Nat → Prop} (h : Ro B W q a N c gs H) : gotLen q W = gs.length := by
  obtain ⟨au, cu, e, -⟩ := h.c1
  unfold gotLen
  rw [e]
end Go.Proofs.Ythldjdkjgiebaaa
