/-
  Several texts in one: A loop over what Steps hands out; What a loop over acts leaves alone. By an AI agent.
-/
import Derived.Test.YtknefjigdlbacaaGreatDoorSkGBG
set_option linter.unusedSimpArgs false
set_option linter.unusedVariables false
namespace Go.Proofs.YtknefjigdlbacaaGreatDoor
open Go.RowKit Go.Shelf Go.Maps
open Mm (Mem Blk)
open Ac (A)
def KeepsRec (W W' : World) : Prop := ∀ (k : Nat) (o : Obj), W.heap[k]? = some o → isRec o = true → W'.heap[k]? = some o
theorem KeepsRec.trans {W W' W'' : World} (h : KeepsRec W W') (h' : KeepsRec W' W'') : KeepsRec W W'' := fun k o hk ho => h' k o (h k o hk ho) ho
theorem KeepsRec.refl (W : World) : KeepsRec W W := fun _ _ h _ => h
theorem KeepsRec.below {W W' : World} (h : Below W.heap.size W W') : KeepsRec W W' := fun k o hk _ => (h.block k (Array.getElem?_eq_some_iff.1 hk).1).trans hk
theorem KeepsRec.alloc (W : World) (o : Obj) : KeepsRec W (W.alloc o) := KeepsRec.below ((Below.refl _ _).alloc (Nat.le_refl _) _)
theorem KeepsRec.set {W : World} {b o : Nat} {v : Value} {cs : Array Value} {t : TypeId} {z : Nat × Nat} (h : W.heap[b]? = some (.cells cs t z)) : KeepsRec W (W.setCell ⟨b, o, none⟩ v) := fun k x hk hx => by
  rw [Below.heap_setCell _ _ _ _ (fun e => by
    have e' : k = b := e
    rw [e', h] at hk; cases hk; cases hx)]
  exact hk
theorem KeepsRec.tn {F F' : Nat → Prop} {W W' : World} (h : Tn F F' W W') (hF : ∀ k, F k → ∀ o, W.heap[k]? = some o → isRec o = false) : KeepsRec W W' := fun k o hk ho =>
  (h.block k (Array.getElem?_eq_some_iff.1 hk).1 (fun e => by have := hF k e o hk; rw [this] at ho; cases ho)).trans hk
theorem KeepsRec.grown {W W' : World} {row : Option Nat} (h : W.grownBy W' row) (hr : ∀ k, row = some k → ∃ cs t, W.heap[k]? = some (.cells cs t (0, 0))) : KeepsRec W W' := fun k o hk ho =>
  (h.block k (Array.getElem?_eq_some_iff.1 hk).1 (fun e => by
    obtain ⟨cs, t, e'⟩ := hr k e.symm
    rw [e'] at hk; cases hk; cases ho)).trans hk
/-- What abides a turn of a loop's own record. -/
def Bides {β : Type} (B : Nat) (I : β → World → Prop) : Prop := ∀ (s : β) (W : World) (l : Nat) (o o' : Obj), I s W → B ≤ l → W.heap[l]? = some o → isRec o = true → isRec o' = true → I s (W.putObj l o')
/-- How a round's body may be left. -/
def rPost (I : Nat → World → Prop) (Ix : Code → Nat → World → Prop) (k : Nat) (W : World) : Exit → Act → World → Prop
  | .normal, _, W' => KeepsRec W W' ∧ I k W'
  | .ret, _, W' => KeepsRec W W' ∧ Ix .ret k W'
  | .exit id, _, W' => KeepsRec W W' ∧ Ix (.exit id) k W'
  | .goto t, _, W' => KeepsRec W W' ∧ Ix (.goto t) k W'
  | .panic _, _, _ => False
  | .outgrown, _, _ => False
theorem range_steps {n : Nat} {g : Operand} {ps : Array Tmp} {assign body : Code} {Q : Exit → Act → World → Prop} {a : Act} {w : World} (h4 : 4 ≤ n) (b1 b2 : Nat) (pv rr : Value)
    (hg : a.eval g = .func (.func 120) #[] #[.pointer (some ⟨b1, 0, none⟩), .pointer (some ⟨b2, 0, none⟩)]) (hps : ps.size = 2)
    (M : Nat) (xs : Nat → A) (vs : Nat → Int) (I I' : Nat → World → Prop) (I2 : Nat → Act → World → Prop) (Id : World → Prop) (Ix : Code → Nat → World → Prop) (mu : World → Nat)
    (bI : Bides w.heap.size I) (bI2 : Bides w.heap.size (fun s : Nat × Act => I2 s.1 s.2)) (bd : Bides w.heap.size (fun _ : Unit => Id)) (bx : ∀ c, Bides w.heap.size (Ix c))
    (h0 : ∀ r, I 0 ((w.alloc (.deferred (some []))).alloc (.loop r)))
    (hmu : ∀ k W, I k W → k ≤ M ∧ mu W = M - k)
    (hG : ∀ k W, I k W → W.cell? ⟨b1, 0, none⟩ = some pv ∧ W.cell? ⟨b2, 0, none⟩ = some rr ∧
      ((k < M ∧ Calls Tryz.prog 65 #[pv, rr] W fun e W2 => e = .returned (.tuple #[av (xs k), .int .u64 (vs k), .bool true]) ∧ KeepsRec W W2 ∧ I' k (boxed W2 (xs k))) ∨
       (k = M ∧ Calls Tryz.prog 65 #[pv, rr] W fun e W2 => e = .returned (.tuple #[av ⟨0, 0, 0, 0, 0⟩, .int .u64 0, .bool false]) ∧ KeepsRec W W2 ∧ Id (W2.alloc (.cells #[.int .i64 0, .int .u64 0, .int .i64 0, .int .u64 0, .int .u64 0] 35)))))
    (hassign : ∀ (l k : Nat) (W : World) (K : Act → World → Prop), I' k W → (∀ a1 W1, KeepsRec W W1 → I2 k a1 W1 → K a1 W1) →
      assign.wpIn (Fence.wide.inRound l) (n - 1 - 1) Tryz.prog (Exit.then K (fun _ _ _ => False)) { tmps := (ps.zip #[av (xs k), .int .u64 (vs k)]).foldl (fun t (p, v) => t.setIfInBounds p v) a.tmps, defers := [] } W)
    (hbody : ∀ (l k : Nat) (a1 : Act) (W : World), I2 k a1 W → k < M → body.wpIn (Fence.wide.inRound l) (n - 1 - 1) Tryz.prog (rPost I Ix (k + 1) W) a1 W)
    (hdone : ∀ (D : Nat) (W : World), w.heap.size ≤ D → Id W → W.heap[D]? = some (.deferred (some [])) → Q .normal { a with defers := { target := .collected D, args := #[] } :: a.defers } W)
    (hstop : ∀ (D : Nat) (c : Code) (k : Nat) (W : World), w.heap.size ≤ D → Ix c k W → W.heap[D]? = some (.deferred (some [])) → c.wpIn Fence.wide n Tryz.prog Q { a with defers := { target := .collected D, args := #[] } :: a.defers } W) :
    (Code.rangeFunc g ps assign body).wpIn Fence.wide n Tryz.prog Q a w := by
  have eg := enters_of Tryz.func120 (by kernel_rfl) rfl
  refine wpIn_rangeFunc ?_
  intro fn hfn
  rw [show Fence.wide.round = none from rfl]
  obtain ⟨rec, hrec⟩ : ∃ rec : LoopState → Option Code → Loop, rec = fun st pe => { state := st, pending := pe, fn, tmps := a.tmps, params := ps, assign, body, defers := w.heap.size } := ⟨_, rfl⟩
  obtain ⟨W1, hW1⟩ : ∃ W1, (w.alloc (.deferred (some []))).alloc (.loop (rec .ready none)) = W1 := ⟨_, rfl⟩
  have hL1 : W1.heap[w.heap.size + 1]? = some (.loop (rec .ready none)) := by
    rw [← hW1]; have := World.alloc_heap_new (w.alloc (.deferred (some []))) (.loop (rec .ready none)); rwa [World.size_alloc] at this
  have hK1 : W1.heap[w.heap.size]? = some (.deferred (some [])) := by
    rw [← hW1]; exact (Below.heap_alloc _ _ _ (by simp)).trans (World.alloc_heap_new w _)
  have hI1 : I 0 W1 := by rw [← hW1]; exact h0 _
  refine ⟨w.heap.size + 1, [{ target := .collected w.heap.size, args := #[] }], W1, { target := .fn (.func 120) #[.pointer (some ⟨b1, 0, none⟩), .pointer (some ⟨b2, 0, none⟩)], args := #[.func (.yield (w.heap.size + 1)) #[] #[]] }, W1, 120,
    #[.func (.yield (w.heap.size + 1)) #[] #[]] ++ #[.pointer (some ⟨b1, 0, none⟩), .pointer (some ⟨b2, 0, none⟩)], W1, ?_, ?_, ?_, ?_, fun _ => by omega, ?_⟩
  · rw [← hW1, hrec]; exact run_enterLoop_outer _ _ _ _ _
  · simp only [resolve, hg]
    simp [go_sem]
  · intro f' hf'; trivial
  · simp [invoke, go_sem, eg]
  · refine (steps1_in (n - 1) (w.heap.size + 1) b1 b2 (by omega) pv rr M xs vs
      (fun k W => I k W ∧ W.heap[w.heap.size + 1]? = some (.loop (rec .ready none)) ∧ W.heap[w.heap.size]? = some (.deferred (some [])))
      (fun k W => I' k W ∧ W.heap[w.heap.size + 1]? = some (.loop (rec .ready none)) ∧ W.heap[w.heap.size]? = some (.deferred (some [])))
      (fun k W => ∃ c, Ix c k W ∧ W.heap[w.heap.size + 1]? = some (.loop (rec .done (some c))) ∧ W.heap[w.heap.size]? = some (.deferred (some [])))
      (fun W => Id W ∧ W.heap[w.heap.size + 1]? = some (.loop (rec .ready none)) ∧ W.heap[w.heap.size]? = some (.deferred (some [])))
      mu (fun k W h => hmu k W h.1) ?_ ?_ W1 ⟨hI1, hL1, hK1⟩).mono ?_
    · rintro k W ⟨hi, hl, hk⟩
      obtain ⟨e1, e2, hg'⟩ := hG k W hi
      refine ⟨e1, e2, ?_⟩
      rcases hg' with ⟨hlt, hg'⟩ | ⟨he, hg'⟩
      · refine .inl ⟨hlt, hg'.mono ?_⟩
        rintro e W2 ⟨rfl, hr, hi2⟩
        exact ⟨rfl, hi2, KeepsRec.alloc _ _ _ _ (hr _ _ hl rfl) rfl, KeepsRec.alloc _ _ _ _ (hr _ _ hk rfl) rfl⟩
      · refine .inr ⟨he, hg'.mono ?_⟩
        rintro e W2 ⟨rfl, hr, hi2⟩
        exact ⟨rfl, hi2, KeepsRec.alloc _ _ _ _ (hr _ _ hl rfl) rfl, KeepsRec.alloc _ _ _ _ (hr _ _ hk rfl) rfl⟩
    · rintro k W ⟨hi, hl, hk⟩ hlt
      have hy := run_yield (P := Tryz.prog) (args := #[av (xs k), .int .u64 (vs k)]) hl (by rw [hrec]; exact hps.symm)
      rw [hrec] at hy
      refine ⟨fn, _, assign, body, hy, roundIn_of_wpIn hfn (hassign _ k W _ hi fun a1 Wa hra hia => ?_)⟩
      have hl := hra _ _ hl rfl
      have hk := hra _ _ hk rfl
      have hlz : w.heap.size + 1 < Wa.heap.size := (Array.getElem?_eq_some_iff.1 hl).1
      refine ⟨_, run_beginRound hl (by rw [hrec]), ?_⟩
      have hl2 : (Wa.putObj (w.heap.size + 1) (.loop { rec .ready none with state := .busy })).heap[w.heap.size + 1]? = some (.loop { rec .ready none with state := .busy }) := World.putObj_heap_same hlz
      have hk2 : (Wa.putObj (w.heap.size + 1) (.loop { rec .ready none with state := .busy })).heap[w.heap.size]? = some (.deferred (some [])) := (World.putObj_heap_other (by omega)).trans hk
      refine wpIn_mono (hbody _ k a1 _ (bI2 (k, a1) _ _ _ _ hia (by omega) hl rfl rfl) hlt) ?_
      have fin : ∀ (jump : Option Code) (W3 : World), KeepsRec (Wa.putObj (w.heap.size + 1) (.loop { rec .ready none with state := .busy })) W3 →
          (Instr.endRound (w.heap.size + 1) jump).run Tryz.prog W3 = .ok (.bool jump.isNone) (W3.putObj (w.heap.size + 1) (.loop (rec (if jump.isNone then .ready else .done) jump))) ∧
          W3.heap[w.heap.size + 1]? = some (.loop { rec .ready none with state := .busy }) ∧
          (W3.putObj (w.heap.size + 1) (.loop (rec (if jump.isNone then .ready else .done) jump))).heap[w.heap.size + 1]? = some (.loop (rec (if jump.isNone then .ready else .done) jump)) ∧
          (W3.putObj (w.heap.size + 1) (.loop (rec (if jump.isNone then .ready else .done) jump))).heap[w.heap.size]? = some (.deferred (some [])) := fun jump W3 hk3 => by
        have hl3 := hk3 _ _ hl2 rfl
        have := run_endRound (P := Tryz.prog) jump hl3
        rw [hrec] at this ⊢
        exact ⟨this, by rw [hrec] at hl3; exact hl3, World.putObj_heap_same (Array.getElem?_eq_some_iff.1 hl3).1, (World.putObj_heap_other (by omega)).trans (hk3 _ _ hk2 rfl)⟩
      rintro e a3 W3 hp
      cases e with
      | normal =>
        obtain ⟨hk3, hi3⟩ := hp
        obtain ⟨hr, hl3, hl4, hk4⟩ := fin none W3 hk3
        exact ⟨_, _, hr, .inl ⟨rfl, bI _ _ _ _ _ hi3 (by omega) hl3 rfl rfl, hl4, hk4⟩⟩
      | ret =>
        obtain ⟨hk3, hi3⟩ := hp
        obtain ⟨hr, hl3, hl4, hk4⟩ := fin (some .ret) W3 hk3
        exact ⟨_, _, hr, .inr ⟨rfl, .ret, bx _ _ _ _ _ _ hi3 (by omega) hl3 rfl rfl, hl4, hk4⟩⟩
      | exit id =>
        obtain ⟨hk3, hi3⟩ := hp
        obtain ⟨hr, hl3, hl4, hk4⟩ := fin (some (.exit id)) W3 hk3
        exact ⟨_, _, hr, .inr ⟨rfl, .exit id, bx _ _ _ _ _ _ hi3 (by omega) hl3 rfl rfl, hl4, hk4⟩⟩
      | goto t =>
        obtain ⟨hk3, hi3⟩ := hp
        obtain ⟨hr, hl3, hl4, hk4⟩ := fin (some (.goto t)) W3 hk3
        exact ⟨_, _, hr, .inr ⟨rfl, .goto t, bx _ _ _ _ _ _ hi3 (by omega) hl3 rfl rfl, hl4, hk4⟩⟩
      | panic ch => exact hp.elim
      | outgrown => exact hp.elim
    · rintro e W2 ⟨⟨v, rfl⟩, (⟨hi, hl, hk⟩ | ⟨k, c, hi, hl, hk⟩)⟩
      · exact ⟨none, _, by have := run_endLoop (P := Tryz.prog) hl (by rw [hrec]; simp); rw [hrec] at this; exact this, hdone _ _ (Nat.le_refl _) (bd () _ _ _ _ hi (by omega) hl rfl rfl) ((World.putObj_heap_other (by omega)).trans hk)⟩
      · exact ⟨some c, _, by have := run_endLoop (P := Tryz.prog) hl (by rw [hrec]; simp); rw [hrec] at this; exact this, hstop _ c k _ (Nat.le_refl _) (bx c _ _ _ _ _ hi (by omega) hl rfl rfl) ((World.putObj_heap_other (by omega)).trans hk)⟩
end Go.Proofs.YtknefjigdlbacaaGreatDoor
set_option linter.unusedSimpArgs false
set_option linter.unusedVariables false
namespace Go.Proofs.YtknefjigdlbacaaGreatDoor
open Go.RowKit Go.Shelf Go.Maps
open Mm (Mem Blk)
open Ac (A)
section
variable {R : Rt} {B : Nat} {w W W' : World} {p k n1 : Nat} {S S' : Mem} {F F' H H' F0 H0 : Nat → Prop}
theorem Ax.norec (h : Ax B W p S F) {k : Nat} (hk : F k) {o : Obj} (ho : W.heap[k]? = some o) : isRec o = false := by
  obtain ⟨m, g, ha, rfl⟩ := h
  rcases hk with rfl | rfl | ⟨b, hb, rfl⟩
  · rw [ha.own] at ho; cases ho; rfl
  · obtain ⟨n, D, _, ⟨es, cc, hm, _⟩, _⟩ := ha.map
    rw [hm] at ho; cases ho; rfl
  · obtain ⟨tl, hw⟩ := (ha.row b hb).2
    rw [hw] at ho; cases ho; rfl
theorem Du.norec (h : Du R B W p S k F H) {j : Nat} (hk : Or2 F H j) {o : Obj} (ho : W.heap[j]? = some o) : isRec o = false :=
  hk.elim (fun e => h.ar.norec e ho) (fun e => R.norec h.ro e ho)
/-- An arena and a routine inside a loop whose own boxes lie from w's end up to n1. -/
def Lp (R : Rt) (B : Nat) (w : World) (F0 H0 : Nat → Prop) (p : Nat) (S : Mem) (k n1 : Nat) (W : World) : Prop :=
  (n1 ≤ W.heap.size ∧ B ≤ w.heap.size) ∧ ∃ F H, Du R B W p S k F H ∧ Tn (Or2 F0 H0) (Or2 F H) w W ∧ ∀ j, Or2 F H j → j < w.heap.size ∨ n1 ≤ j
theorem Lp.start (h : Du R B w p S k F0 H0) (hb : Below w.heap.size w W) (hn : n1 ≤ W.heap.size) (hB : B ≤ w.heap.size) : Lp R B w F0 H0 p S k n1 W :=
  ⟨⟨hn, hB⟩, F0, H0, h.below hb, Tn.of_below hb, fun k hk => .inl (h.foot hk).2⟩
theorem Du.keep (h : Du R B W p S k F H) (hk : ∀ k, Or2 F H k → W'.heap[k]? = W.heap[k]?) (hbd : Bd W → Bd W') : Du R B W' p S k F H := ⟨h.ar.keep fun k e => hk k (.inl e), R.keep h.ro (fun k e => hk k (.inr e)) hbd, h.apart, h.low⟩
theorem Lp.keep (h : Lp R B w F0 H0 p S k n1 W) (ho : W'.os = W.os) (ht : W'.tape = W.tape) (hu : W'.output = W.output) (hs : W.heap.size ≤ W'.heap.size)
    (hk : ∀ k, k < W.heap.size → (k < w.heap.size ∨ (n1 ≤ k ∧ ∀ o, W.heap[k]? = some o → isRec o = false)) → W'.heap[k]? = W.heap[k]?) : Lp R B w F0 H0 p S k n1 W' := by
  obtain ⟨hn, F, H, hd, ht', hf⟩ := h
  refine ⟨⟨Nat.le_trans hn.1 hs, hn.2⟩, F, H, hd.keep (fun k e => hk k (hd.foot e).2 ((hf k e).imp id fun h1 => ⟨h1, fun o ho => hd.norec e ho⟩)) (fun e => e.block (hk _ e.lt (.inl (by have := hd.low; have := hn.2; omega)))), ⟨ho.trans ht'.os, ht.trans ht'.tape, hu.trans ht'.output, Nat.le_trans ht'.size hs, fun k h1 h2 => (hk k (Nat.lt_of_lt_of_le h1 ht'.size) (.inl h1)).trans (ht'.block k h1 h2), ht'.foot⟩, hf⟩
theorem Lp.below (h : Lp R B w F0 H0 p S k n1 W) (hb : Below W.heap.size W W') : Lp R B w F0 H0 p S k n1 W' := h.keep hb.os hb.tape hb.output hb.size fun k hk _ => hb.block k hk
theorem Lp.alloc (h : Lp R B w F0 H0 p S k n1 W) (o : Obj) : Lp R B w F0 H0 p S k n1 (W.alloc o) := h.below ((Below.refl _ _).alloc (Nat.le_refl _) _)
theorem Lp.set (h : Lp R B w F0 H0 p S k n1 W) {b : Nat} (h1 : w.heap.size ≤ b) (h2 : b < n1) (o : Nat) (v : Value) : Lp R B w F0 H0 p S k n1 (W.setCell ⟨b, o, none⟩ v) :=
  h.keep rfl rfl rfl (by simp [World.setCell]) fun k _ hk => Below.heap_setCell _ _ _ _ (fun e => by have e' : k = b := e; omega)
theorem Lp.putRec (h : Lp R B w F0 H0 p S k n1 W) {l : Nat} {o o' : Obj} (hl : w.heap.size ≤ l) (ho : W.heap[l]? = some o) (hr : isRec o = true) : Lp R B w F0 H0 p S k n1 (W.putObj l o') :=
  h.keep rfl rfl rfl (by simp [World.putObj]) fun k _ hk => World.putObj_heap_other (fun e => by
    subst e
    rcases hk with hk | hk
    · omega
    · have := hk.2 o ho; rw [hr] at this; cases this)
theorem Lp.out (h : Lp R B w F0 H0 p S k n1 W) : ∃ F H, Du R B W p S k F H ∧ Tn (Or2 F0 H0) (Or2 F H) w W := by
  obtain ⟨_, F, H, hd, ht, _⟩ := h
  exact ⟨F, H, hd, ht⟩
theorem Lp.size (h : Lp R B w F0 H0 p S k n1 W) : n1 ≤ W.heap.size := h.1.1
theorem Lp.wsize (h : Lp R B w F0 H0 p S k n1 W) : w.heap.size ≤ W.heap.size := let ⟨_, _, _, _, ht, _⟩ := h; ht.size
theorem Lp.ro (h : Lp R B w F0 H0 p S k n1 W) : ∃ H, R.St B W k H := by
  obtain ⟨_, F, H, hd, ht, _⟩ := h
  exact ⟨H, hd.ro⟩
/-- A box outlives what its own block outlives. -/
theorem boxed_keep {t : TypeId} {v : Value} {b : Nat} (h : Boxed W b t v) (hk : W'.heap[b]? = W.heap[b]?) : Boxed W' b t v := hk.trans h
/-- The next act, in a loop. -/
theorem Lp.step (h : Lp R B w F0 H0 p S k n1 W) (h0 : ∀ k, Or2 F0 H0 k → B ≤ k) (hB : B ≤ w.heap.size) (hm : k < R.N) (hD : DoesIt S (R.xs k) (R.vs k) S') :
    Calls Tryz.prog 65 #[.pointer (some ⟨p, 0, none⟩), R.v] W fun e W2 => e = .returned (.tuple #[av (R.xs k), .int .u64 (R.vs k), .bool true]) ∧ KeepsRec W W2 ∧ (∀ k, w.heap.size ≤ k → k < n1 → W2.heap[k]? = W.heap[k]?) ∧ W.heap.size ≤ W2.heap.size ∧ Lp R B w F0 H0 p S' (k + 1) n1 W2 := by
  obtain ⟨hn, F, H, hd, ht, hf⟩ := h
  have hbW : Below B w W := ht.below h0 hB
  refine (goon_more R hd (Nat.le_trans hB ht.size) hm hD).mono ?_
  rintro e W2 ⟨rfl, F', H', hd', ht'⟩
  refine ⟨rfl, fun k o hk ho => (ht'.block k (Array.getElem?_eq_some_iff.1 hk).1 (fun e => by have := hd.norec e hk; rw [this] at ho; cases ho)).trans hk, fun k h1 h2 => ht'.block k (by have := hn.1; omega) (fun e => by rcases hf k e with e | e <;> omega), ht'.size, ⟨Nat.le_trans hn.1 ht'.size, hB⟩, F', H', hd', ht.trans ht', fun k hk => ?_⟩
  rcases ht'.foot k hk with e | e
  · exact hf k e
  · exact .inr (by have := hn.1; omega)
/-- No act comes any more. -/
theorem Lp.stop (h : Lp R B w F0 H0 p S k n1 W) (pv : Value) (hm : k = R.N) :
    Calls Tryz.prog 65 #[pv, R.v] W fun e W2 => e = .returned (.tuple #[av ⟨0, 0, 0, 0, 0⟩, .int .u64 0, .bool false]) ∧ KeepsRec W W2 ∧ Below W.heap.size W W2 ∧ Lp R B w F0 H0 p S k n1 W2 := by
  obtain ⟨H, hr⟩ := h.ro
  refine (goon_end R pv hr hm).mono ?_
  rintro e W2 ⟨rfl, hb⟩
  exact ⟨rfl, KeepsRec.below hb, hb, h.below hb⟩
end
end Go.Proofs.YtknefjigdlbacaaGreatDoor
