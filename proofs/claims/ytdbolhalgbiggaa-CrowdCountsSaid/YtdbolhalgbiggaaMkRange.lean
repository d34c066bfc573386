/-
  A loop over what Steps hands out. By an AI agent.
-/
import Derived.Test.YtdbolhalgbiggaaMkSeq
set_option linter.unusedSimpArgs false
set_option linter.unusedVariables false
namespace Go.Proofs.Ytdbolhalgbiggaa
open Go.RowKit Go.Shelf Go.Maps
open Mm (Mem Blk)
open Ac (A)
def KeepsRec (W W' : World) : Prop := ∀ (k : Nat) (o : Obj), W.heap[k]? = some o → isRec o = true → W'.heap[k]? = some o
theorem KeepsRec.trans {W W' W'' : World} (h : KeepsRec W W') (h' : KeepsRec W' W'') : KeepsRec W W'' := fun k o hk ho => h' k o (h k o hk ho) ho
theorem KeepsRec.refl (W : World) : KeepsRec W W := fun _ _ h _ => h
theorem KeepsRec.below {W W' : World} (h : Below W.heap.size W W') : KeepsRec W W' := fun k o hk _ => (h.block k (Array.getElem?_eq_some_iff.1 hk).1).trans hk
theorem KeepsRec.alloc (W : World) (o : Obj) : KeepsRec W (W.alloc o) := KeepsRec.below ((Below.refl _ _).alloc (Nat.le_refl _) _)
theorem KeepsRec.set {W : World} {b o : Nat} {v : Value} {cs : Array Value} {t : TypeId} {z : Nat × Nat} (h : W.heap[b]? = some (.cells cs t z)) : KeepsRec W (W.setCell ⟨b, o, none⟩ v) := fun k x hk hx => by
  rw [Below.heap_setCell _ _ _ _ (fun e => by
    have e' : k = b := e
    rw [e', h] at hk; cases hk; cases hx)]
  exact hk
theorem KeepsRec.tn {F F' : Nat → Prop} {W W' : World} (h : Tn F F' W W') (hF : ∀ k, F k → ∀ o, W.heap[k]? = some o → isRec o = false) : KeepsRec W W' := fun k o hk ho =>
  (h.block k (Array.getElem?_eq_some_iff.1 hk).1 (fun e => by have := hF k e o hk; rw [this] at ho; cases ho)).trans hk
theorem KeepsRec.grown {W W' : World} {row : Option Nat} (h : W.grownBy W' row) (hr : ∀ k, row = some k → ∃ cs t, W.heap[k]? = some (.cells cs t (0, 0))) : KeepsRec W W' := fun k o hk ho =>
  (h.block k (Array.getElem?_eq_some_iff.1 hk).1 (fun e => by
    obtain ⟨cs, t, e'⟩ := hr k e.symm
    rw [e'] at hk; cases hk; cases ho)).trans hk
/-- What abides a turn of a loop's own record. -/
def Bides {β : Type} (B : Nat) (I : β → World → Prop) : Prop := ∀ (s : β) (W : World) (l : Nat) (o o' : Obj), I s W → B ≤ l → W.heap[l]? = some o → isRec o = true → isRec o' = true → I s (W.putObj l o')
/-- How a round's body may be left. -/
def rPost (I : Nat → World → Prop) (Ix : Code → Nat → World → Prop) (k : Nat) (W : World) : Exit → Act → World → Prop
  | .normal, _, W' => KeepsRec W W' ∧ I k W'
  | .ret, _, W' => KeepsRec W W' ∧ Ix .ret k W'
  | .exit id, _, W' => KeepsRec W W' ∧ Ix (.exit id) k W'
  | .goto t, _, W' => KeepsRec W W' ∧ Ix (.goto t) k W'
  | .panic _, _, _ => False
  | .outgrown, _, _ => False
theorem range_steps {n : Nat} {g : Operand} {ps : Array Tmp} {assign body : Code} {Q : Exit → Act → World → Prop} {a : Act} {w : World} (h4 : 4 ≤ n) (b1 b2 : Nat) (pv rr : Value)
    (hg : a.eval g = .func (.func 41) #[] #[.pointer (some ⟨b1, 0, none⟩), .pointer (some ⟨b2, 0, none⟩)]) (hps : ps.size = 2)
    (M : Nat) (xs : Nat → A) (vs : Nat → Int) (I I' : Nat → World → Prop) (I2 : Nat → Act → World → Prop) (Id : World → Prop) (Ix : Code → Nat → World → Prop) (mu : World → Nat)
    (bI : Bides w.heap.size I) (bI2 : Bides w.heap.size (fun s : Nat × Act => I2 s.1 s.2)) (bd : Bides w.heap.size (fun _ : Unit => Id)) (bx : ∀ c, Bides w.heap.size (Ix c))
    (h0 : ∀ r, I 0 ((w.alloc (.deferred (some []))).alloc (.loop r)))
    (hmu : ∀ k W, I k W → k ≤ M ∧ mu W = M - k)
    (hG : ∀ k W, I k W → W.cell? ⟨b1, 0, none⟩ = some pv ∧ W.cell? ⟨b2, 0, none⟩ = some rr ∧
      ((k < M ∧ Calls Try.prog 42 #[pv, rr] W fun e W2 => e = .returned (.tuple #[av (xs k), .int .u64 (vs k), .bool true]) ∧ KeepsRec W W2 ∧ I' k (boxed W2 (xs k))) ∨
       (k = M ∧ Calls Try.prog 42 #[pv, rr] W fun e W2 => e = .returned (.tuple #[av ⟨0, 0, 0, 0, 0⟩, .int .u64 0, .bool false]) ∧ KeepsRec W W2 ∧ Id (W2.alloc (.cells #[.int .i64 0, .int .u64 0, .int .i64 0, .int .u64 0, .int .u64 0] 30)))))
    (hassign : ∀ (l k : Nat) (W : World) (K : Act → World → Prop), I' k W → (∀ a1 W1, KeepsRec W W1 → I2 k a1 W1 → K a1 W1) →
      assign.wpIn (Fence.wide.inRound l) (n - 1 - 1) Try.prog (Exit.then K (fun _ _ _ => False)) { tmps := (ps.zip #[av (xs k), .int .u64 (vs k)]).foldl (fun t (p, v) => t.setIfInBounds p v) a.tmps, defers := [] } W)
    (hbody : ∀ (l k : Nat) (a1 : Act) (W : World), I2 k a1 W → k < M → body.wpIn (Fence.wide.inRound l) (n - 1 - 1) Try.prog (rPost I Ix (k + 1) W) a1 W)
    (hdone : ∀ (D : Nat) (W : World), w.heap.size ≤ D → Id W → W.heap[D]? = some (.deferred (some [])) → Q .normal { a with defers := { target := .collected D, args := #[] } :: a.defers } W)
    (hstop : ∀ (D : Nat) (c : Code) (k : Nat) (W : World), w.heap.size ≤ D → Ix c k W → W.heap[D]? = some (.deferred (some [])) → c.wpIn Fence.wide n Try.prog Q { a with defers := { target := .collected D, args := #[] } :: a.defers } W) :
    (Code.rangeFunc g ps assign body).wpIn Fence.wide n Try.prog Q a w := by
  have eg := enters_of Try.func41 (by kernel_rfl) rfl
  refine wpIn_rangeFunc ?_
  intro fn hfn
  rw [show Fence.wide.round = none from rfl]
  obtain ⟨rec, hrec⟩ : ∃ rec : LoopState → Option Code → Loop, rec = fun st pe => { state := st, pending := pe, fn, tmps := a.tmps, params := ps, assign, body, defers := w.heap.size } := ⟨_, rfl⟩
  obtain ⟨W1, hW1⟩ : ∃ W1, (w.alloc (.deferred (some []))).alloc (.loop (rec .ready none)) = W1 := ⟨_, rfl⟩
  have hL1 : W1.heap[w.heap.size + 1]? = some (.loop (rec .ready none)) := by
    rw [← hW1]; have := World.alloc_heap_new (w.alloc (.deferred (some []))) (.loop (rec .ready none)); rwa [World.size_alloc] at this
  have hK1 : W1.heap[w.heap.size]? = some (.deferred (some [])) := by
    rw [← hW1]; exact (Below.heap_alloc _ _ _ (by simp)).trans (World.alloc_heap_new w _)
  have hI1 : I 0 W1 := by rw [← hW1]; exact h0 _
  refine ⟨w.heap.size + 1, [{ target := .collected w.heap.size, args := #[] }], W1, { target := .fn (.func 41) #[.pointer (some ⟨b1, 0, none⟩), .pointer (some ⟨b2, 0, none⟩)], args := #[.func (.yield (w.heap.size + 1)) #[] #[]] }, W1, 41,
    #[.func (.yield (w.heap.size + 1)) #[] #[]] ++ #[.pointer (some ⟨b1, 0, none⟩), .pointer (some ⟨b2, 0, none⟩)], W1, ?_, ?_, ?_, ?_, fun _ => by omega, ?_⟩
  · rw [← hW1, hrec]; exact run_enterLoop_outer _ _ _ _ _
  · simp only [resolve, hg]
    simp [go_sem]
  · intro f' hf'; trivial
  · simp [invoke, go_sem, eg]
  · refine (steps1_in (n - 1) (w.heap.size + 1) b1 b2 (by omega) pv rr M xs vs
      (fun k W => I k W ∧ W.heap[w.heap.size + 1]? = some (.loop (rec .ready none)) ∧ W.heap[w.heap.size]? = some (.deferred (some [])))
      (fun k W => I' k W ∧ W.heap[w.heap.size + 1]? = some (.loop (rec .ready none)) ∧ W.heap[w.heap.size]? = some (.deferred (some [])))
      (fun k W => ∃ c, Ix c k W ∧ W.heap[w.heap.size + 1]? = some (.loop (rec .done (some c))) ∧ W.heap[w.heap.size]? = some (.deferred (some [])))
      (fun W => Id W ∧ W.heap[w.heap.size + 1]? = some (.loop (rec .ready none)) ∧ W.heap[w.heap.size]? = some (.deferred (some [])))
      mu (fun k W h => hmu k W h.1) ?_ ?_ W1 ⟨hI1, hL1, hK1⟩).mono ?_
    · rintro k W ⟨hi, hl, hk⟩
      obtain ⟨e1, e2, hg'⟩ := hG k W hi
      refine ⟨e1, e2, ?_⟩
      rcases hg' with ⟨hlt, hg'⟩ | ⟨he, hg'⟩
      · refine .inl ⟨hlt, hg'.mono ?_⟩
        rintro e W2 ⟨rfl, hr, hi2⟩
        exact ⟨rfl, hi2, KeepsRec.alloc _ _ _ _ (hr _ _ hl rfl) rfl, KeepsRec.alloc _ _ _ _ (hr _ _ hk rfl) rfl⟩
      · refine .inr ⟨he, hg'.mono ?_⟩
        rintro e W2 ⟨rfl, hr, hi2⟩
        exact ⟨rfl, hi2, KeepsRec.alloc _ _ _ _ (hr _ _ hl rfl) rfl, KeepsRec.alloc _ _ _ _ (hr _ _ hk rfl) rfl⟩
    · rintro k W ⟨hi, hl, hk⟩ hlt
      have hy := run_yield (P := Try.prog) (args := #[av (xs k), .int .u64 (vs k)]) hl (by rw [hrec]; exact hps.symm)
      rw [hrec] at hy
      refine ⟨fn, _, assign, body, hy, roundIn_of_wpIn hfn (hassign _ k W _ hi fun a1 Wa hra hia => ?_)⟩
      have hl := hra _ _ hl rfl
      have hk := hra _ _ hk rfl
      have hlz : w.heap.size + 1 < Wa.heap.size := (Array.getElem?_eq_some_iff.1 hl).1
      refine ⟨_, run_beginRound hl (by rw [hrec]), ?_⟩
      have hl2 : (Wa.putObj (w.heap.size + 1) (.loop { rec .ready none with state := .busy })).heap[w.heap.size + 1]? = some (.loop { rec .ready none with state := .busy }) := World.putObj_heap_same hlz
      have hk2 : (Wa.putObj (w.heap.size + 1) (.loop { rec .ready none with state := .busy })).heap[w.heap.size]? = some (.deferred (some [])) := (World.putObj_heap_other (by omega)).trans hk
      refine wpIn_mono (hbody _ k a1 _ (bI2 (k, a1) _ _ _ _ hia (by omega) hl rfl rfl) hlt) ?_
      have fin : ∀ (jump : Option Code) (W3 : World), KeepsRec (Wa.putObj (w.heap.size + 1) (.loop { rec .ready none with state := .busy })) W3 →
          (Instr.endRound (w.heap.size + 1) jump).run Try.prog W3 = .ok (.bool jump.isNone) (W3.putObj (w.heap.size + 1) (.loop (rec (if jump.isNone then .ready else .done) jump))) ∧
          W3.heap[w.heap.size + 1]? = some (.loop { rec .ready none with state := .busy }) ∧
          (W3.putObj (w.heap.size + 1) (.loop (rec (if jump.isNone then .ready else .done) jump))).heap[w.heap.size + 1]? = some (.loop (rec (if jump.isNone then .ready else .done) jump)) ∧
          (W3.putObj (w.heap.size + 1) (.loop (rec (if jump.isNone then .ready else .done) jump))).heap[w.heap.size]? = some (.deferred (some [])) := fun jump W3 hk3 => by
        have hl3 := hk3 _ _ hl2 rfl
        have := run_endRound (P := Try.prog) jump hl3
        rw [hrec] at this ⊢
        exact ⟨this, by rw [hrec] at hl3; exact hl3, World.putObj_heap_same (Array.getElem?_eq_some_iff.1 hl3).1, (World.putObj_heap_other (by omega)).trans (hk3 _ _ hk2 rfl)⟩
      rintro e a3 W3 hp
      cases e with
      | normal =>
        obtain ⟨hk3, hi3⟩ := hp
        obtain ⟨hr, hl3, hl4, hk4⟩ := fin none W3 hk3
        exact ⟨_, _, hr, .inl ⟨rfl, bI _ _ _ _ _ hi3 (by omega) hl3 rfl rfl, hl4, hk4⟩⟩
      | ret =>
        obtain ⟨hk3, hi3⟩ := hp
        obtain ⟨hr, hl3, hl4, hk4⟩ := fin (some .ret) W3 hk3
        exact ⟨_, _, hr, .inr ⟨rfl, .ret, bx _ _ _ _ _ _ hi3 (by omega) hl3 rfl rfl, hl4, hk4⟩⟩
      | exit id =>
        obtain ⟨hk3, hi3⟩ := hp
        obtain ⟨hr, hl3, hl4, hk4⟩ := fin (some (.exit id)) W3 hk3
        exact ⟨_, _, hr, .inr ⟨rfl, .exit id, bx _ _ _ _ _ _ hi3 (by omega) hl3 rfl rfl, hl4, hk4⟩⟩
      | goto t =>
        obtain ⟨hk3, hi3⟩ := hp
        obtain ⟨hr, hl3, hl4, hk4⟩ := fin (some (.goto t)) W3 hk3
        exact ⟨_, _, hr, .inr ⟨rfl, .goto t, bx _ _ _ _ _ _ hi3 (by omega) hl3 rfl rfl, hl4, hk4⟩⟩
      | panic ch => exact hp.elim
      | outgrown => exact hp.elim
    · rintro e W2 ⟨⟨v, rfl⟩, (⟨hi, hl, hk⟩ | ⟨k, c, hi, hl, hk⟩)⟩
      · exact ⟨none, _, by have := run_endLoop (P := Try.prog) hl (by rw [hrec]; simp); rw [hrec] at this; exact this, hdone _ _ (Nat.le_refl _) (bd () _ _ _ _ hi (by omega) hl rfl rfl) ((World.putObj_heap_other (by omega)).trans hk)⟩
      · exact ⟨some c, _, by have := run_endLoop (P := Try.prog) hl (by rw [hrec]; simp); rw [hrec] at this; exact this, hstop _ c k _ (Nat.le_refl _) (bx c _ _ _ _ _ hi (by omega) hl rfl rfl) ((World.putObj_heap_other (by omega)).trans hk)⟩
end Go.Proofs.Ytdbolhalgbiggaa
