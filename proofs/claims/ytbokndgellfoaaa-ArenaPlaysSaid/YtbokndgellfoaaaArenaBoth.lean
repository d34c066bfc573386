/-
  A step of the program's and of the document's: the same answer, the same memory. By an AI agent.
-/
import Derived.Test.YtbokndgellfoaaaArenaSteps
set_option linter.unusedSimpArgs false
namespace Go.Proofs.Ytbokndgellfoaaa
open Go.RowKit Go.Maps
open Mm (Mem Blk)
theorem touch (S : Mem) (b : Nat) (i : Int) : (∃ (ws : List Int) (n : Nat) (y : Int), Mm.get S.L b = some ws ∧ i = (n : Int) ∧ ws[n]? = some y) ∨ Mm.wrong S b i ≠ 0 := by
  unfold Mm.wrong
  cases hg : Mm.get S.L b with
  | none => exact .inr (by simp)
  | some ws =>
    by_cases hi : 0 ≤ i ∧ i < ws.length
    · obtain ⟨n, rfl⟩ := Int.eq_ofNat_of_zero_le hi.1
      have hn : n < ws.length := by omega
      exact .inl ⟨ws, n, ws[n], rfl, rfl, List.getElem?_eq_getElem hn⟩
    · exact .inr (by simp; omega)
/-- What a step of either must do: the answer and the memory behind it. -/
def DoesIt (S : Mem) (s : Stp) (v c : Int) (S' : Mem) : Prop := ∀ (B : Nat) (w : World) (p : Nat) (F : Nat → Prop), Ax B w p S F → B ≤ w.heap.size →
  Calls Try.prog 17 #[.pointer (some ⟨p, 0, none⟩), .agg s.cells] w (Turns (we v c) B p S' F w)
def MustIt (S : Mem) (s : Stp) (v c : Int) (S' : Mem) : Prop := ∀ (B : Nat) (w : World) (x : Nat) (G : Nat → Prop), Rx B w x S G → B ≤ w.heap.size →
  Calls Try.prog 18 #[.pointer (some ⟨x, 0, none⟩), .agg s.cells] w (RTurns (we v c) B x S' G w)
theorem stepped_below (w : World) (k b i o y : Int) : Below w.heap.size w (stepped w k b i o y) := (Below.refl _ _).alloc (Nat.le_refl _) _
theorem ax_step {B : Nat} {w : World} {p : Nat} {S : Mem} {F : Nat → Prop} (h : Ax B w p S F) (k b i o y : Int) : Ax B (stepped w k b i o y) p S F := h.below (stepped_below w k b i o y) (Nat.le_refl _)
theorem rx_step {B : Nat} {w : World} {p : Nat} {S : Mem} {F : Nat → Prop} (h : Rx B w p S F) (k b i o y : Int) : Rx B (stepped w k b i o y) p S F := h.below (stepped_below w k b i o y) (Nat.le_refl _)
theorem sz_step {B : Nat} {w : World} (h : B ≤ w.heap.size) (k b i o y : Int) : B ≤ (stepped w k b i o y).heap.size := Nat.le_trans h (stepped_below w k b i o y).size
/-- What is behind a call, seen from ahead of the box. -/
def After (B p : Nat) (S' : Mem) (F : Nat → Prop) (w w' : World) : Prop := ∃ F', Ax B w' p S' F' ∧ Tn F F' w w'
def RAfter (B p : Nat) (S' : Mem) (F : Nat → Prop) (w w' : World) : Prop := ∃ F', Rx B w' p S' F' ∧ Tn F F' w w'
section
variable {B p : Nat} {S S' : Mem} {F : Nat → Prop} {w w1 w' : World} {f : FuncId} {args : Array Value} {v : Value}
theorem of_turns (hb : Below w.heap.size w w1) (h : Calls Try.prog f args w1 (Turns v B p S' F w1)) : Calls Try.prog f args w1 fun e w' => e = .returned v ∧ After B p S' F w w' :=
  h.mono fun _ _ ⟨he, F', ha, ht⟩ => ⟨he, F', ha, (Tn.of_below hb).trans ht⟩
theorem of_same (hb : Below w.heap.size w w1) (ha : Ax B w1 p S F) (h : Calls Try.prog f args w1 (Same v w1)) : Calls Try.prog f args w1 fun e w' => e = .returned v ∧ After B p S F w w' :=
  h.mono fun _ _ ⟨he, hw⟩ => ⟨he, F, hw ▸ ha, hw ▸ Tn.of_below hb⟩
theorem of_gives (hb : Below w.heap.size w w1) (ha : Ax B w1 p S F) (h : Calls Try.prog f args w1 (Gives v w1)) : Calls Try.prog f args w1 fun e w' => e = .returned v ∧ After B p S F w w' :=
  h.mono fun _ _ ⟨he, hw⟩ => ⟨he, F, ha.below hw (Nat.le_refl _), (Tn.of_below hb).trans (Tn.of_below hw)⟩
theorem of_rturns (hb : Below w.heap.size w w1) (h : Calls Try.prog f args w1 (RTurns v B p S' F w1)) : Calls Try.prog f args w1 fun e w' => e = .returned v ∧ RAfter B p S' F w w' :=
  h.mono fun _ _ ⟨he, F', ha, ht⟩ => ⟨he, F', ha, (Tn.of_below hb).trans ht⟩
theorem of_rgives (hb : Below w.heap.size w w1) (ha : Rx B w1 p S F) (h : Calls Try.prog f args w1 (Gives v w1)) : Calls Try.prog f args w1 fun e w' => e = .returned v ∧ RAfter B p S F w w' :=
  h.mono fun _ _ ⟨he, hw⟩ => ⟨he, F, ha.below hw (Nat.le_refl _), (Tn.of_below hb).trans (Tn.of_below hw)⟩
theorem no_step (hb : Below w.heap.size w w1) (ha : Ax B w p S F) (hw : w1 = w') : After B p S F w w' := ⟨F, hw ▸ ha.below hb (Nat.le_refl _), hw ▸ Tn.of_below hb⟩
theorem no_rstep (hb : Below w.heap.size w w1) (ha : Rx B w p S F) (hw : w1 = w') : RAfter B p S F w w' := ⟨F, hw ▸ ha.below hb (Nat.le_refl _), hw ▸ Tn.of_below hb⟩
end
theorem step_both (S : Mem) (s : Stp) (hG : Mm.Good S) (hb : s.b < 18446744073709551616) (hf : S.faults ≤ 1000000000) (hl : S.last ≤ 1000000000) :
    ∃ (v c : Int) (S' : Mem), S'.room = S.room ∧ S'.faults ≤ S.faults + 1 ∧ S'.last ≤ S.last + 1 ∧ DoesIt S s v c S' ∧ MustIt S s v c S' := by
  obtain ⟨k, b, i, o, y⟩ := s
  dsimp only at hb
  have hf' : S.faults ≤ 1000000000000 := by omega
  have hl' : S.last ≤ 1000000000000 := by omega
  unfold DoesIt MustIt Stp.cells
  dsimp only
  by_cases k1 : k = 1
  · subst k1
    rcases touch S b i with ⟨ws, n, x, hg, rfl, hx⟩ | hw
    · exact ⟨x, 0, S, rfl, by omega, by omega, fun B w p F h hB => dstep1 _ _ _ _ _ _ _ _ _ (of_same (stepped_below ..) (ax_step h ..) (load_ok (ax_step h ..) hb hg n hx)),
        fun B w p F h hB => mstep1 _ _ _ _ _ _ _ _ _ (of_rgives (stepped_below ..) (rx_step h ..) (rload_ok (rx_step h ..) hg n hx))⟩
    · exact ⟨0, _, S.fault, rfl, Nat.le_refl _, Nat.le_succ _, fun B w p F h hB => dstep1 _ _ _ _ _ _ _ _ _ (of_turns (stepped_below ..) (load_bad (ax_step h ..) hb i hw hf')),
        fun B w p F h hB => mstep1 _ _ _ _ _ _ _ _ _ (of_rturns (stepped_below ..) (rload_bad (rx_step h ..) i hw hf'))⟩
  by_cases k2 : k = 2
  · subst k2
    rcases touch S b i with ⟨ws, n, x, hg, rfl, hx⟩ | hw
    · have hn := (List.getElem?_eq_some_iff.1 hx).1
      exact ⟨0, 0, S.put b n y, rfl, Nat.le_succ _, Nat.le_succ _, fun B w p F h hB => dstep2 _ _ _ _ _ _ _ _ (of_turns (stepped_below ..) (store_ok (ax_step h ..) hb hg n hn y)),
        fun B w p F h hB => mstep2 _ _ _ _ _ _ _ _ (of_rturns (stepped_below ..) (rstore_ok (rx_step h ..) hg n hn y))⟩
    · exact ⟨0, _, S.fault, rfl, Nat.le_refl _, Nat.le_succ _, fun B w p F h hB => dstep2 _ _ _ _ _ _ _ _ (of_turns (stepped_below ..) (store_bad (ax_step h ..) hb i hw hf' y)),
        fun B w p F h hB => mstep2 _ _ _ _ _ _ _ _ (of_rturns (stepped_below ..) (rstore_bad (rx_step h ..) i hw hf' y))⟩
  by_cases k3 : k = 3
  · subst k3
    rcases touch S b i with ⟨ws, n, x, hg, rfl, hx⟩ | hw
    · by_cases ho : x = o
      · subst ho
        exact ⟨x, 0, S.put b n y, rfl, Nat.le_succ _, Nat.le_succ _, fun B w p F h hB => dstep3 _ _ _ _ _ _ _ _ _ (of_turns (stepped_below ..) (cas_yes (ax_step h ..) hb hg n hx y)),
          fun B w p F h hB => mstep3 _ _ _ _ _ _ _ _ _ (of_rturns (stepped_below ..) (rcas_yes (rx_step h ..) hg n hx y))⟩
      · exact ⟨x, 0, S, rfl, Nat.le_succ _, Nat.le_succ _, fun B w p F h hB => dstep3 _ _ _ _ _ _ _ _ _ (of_same (stepped_below ..) (ax_step h ..) (cas_no (ax_step h ..) hb hg n hx o y ho)),
          fun B w p F h hB => mstep3 _ _ _ _ _ _ _ _ _ (of_rgives (stepped_below ..) (rx_step h ..) (rcas_no (rx_step h ..) hg n hx o y ho))⟩
    · exact ⟨0, _, S.fault, rfl, Nat.le_refl _, Nat.le_succ _, fun B w p F h hB => dstep3 _ _ _ _ _ _ _ _ _ (of_turns (stepped_below ..) (cas_bad (ax_step h ..) hb i hw hf' o y)),
        fun B w p F h hB => mstep3 _ _ _ _ _ _ _ _ _ (of_rturns (stepped_below ..) (rcas_bad (rx_step h ..) i hw hf' o y))⟩
  by_cases k4 : k = 4
  · subst k4
    rcases touch S b i with ⟨ws, n, x, hg, rfl, hx⟩ | hw
    · exact ⟨x, 0, S.put b n (IntKind.u64.wrap (x + y)), rfl, Nat.le_succ _, Nat.le_succ _, fun B w p F h hB => dstep4 _ _ _ _ _ _ _ _ _ (of_turns (stepped_below ..) (add_ok (ax_step h ..) hb hg n hx y)),
        fun B w p F h hB => mstep4 _ _ _ _ _ _ _ _ _ (of_rturns (stepped_below ..) (radd_ok (rx_step h ..) hg n hx y))⟩
    · exact ⟨0, _, S.fault, rfl, Nat.le_refl _, Nat.le_succ _, fun B w p F h hB => dstep4 _ _ _ _ _ _ _ _ _ (of_turns (stepped_below ..) (add_bad (ax_step h ..) hb i hw hf' y)),
        fun B w p F h hB => mstep4 _ _ _ _ _ _ _ _ _ (of_rturns (stepped_below ..) (radd_bad (rx_step h ..) i hw hf' y))⟩
  by_cases k5 : k = 5
  · subst k5
    by_cases hn : i < 1 ∨ (S.room : Int) - (Mm.used S.L : Int) < i
    · exact ⟨0, 0, S, rfl, Nat.le_succ _, Nat.le_succ _, fun B w p F h hB => dstep5 _ _ _ _ _ _ _ _ (of_gives (stepped_below ..) (ax_step h ..) (alloc_no (ax_step h ..) i hn)),
        fun B w p F h hB => mstep5 _ _ _ _ _ _ _ _ (of_rgives (stepped_below ..) (rx_step h ..) (ralloc_no (rx_step h ..) i hn))⟩
    · have hfit := hG.fits
      obtain ⟨n, rfl⟩ : ∃ n : Nat, i = (n : Int) := ⟨i.toNat, by omega⟩
      exact ⟨(S.last : Int) + 1, 0, S.alloc n, rfl, Nat.le_succ _, Nat.le_refl _, fun B w p F h hB => dstep5 _ _ _ _ _ _ _ _ (of_turns (stepped_below ..) (alloc_ok (ax_step h ..) (sz_step hB ..) n (by omega) (by omega) hl')),
        fun B w p F h hB => mstep5 _ _ _ _ _ _ _ _ (of_rturns (stepped_below ..) (ralloc_ok (rx_step h ..) (sz_step hB ..) n (by omega) (by omega) hl'))⟩
  by_cases k6 : k = 6
  · subst k6
    cases hg : Mm.get S.L b with
    | some ws => exact ⟨0, 0, S.free b, rfl, Nat.le_succ _, Nat.le_succ _, fun B w p F h hB => dstep6 _ _ _ _ _ _ _ _ (of_turns (stepped_below ..) (free_ok (ax_step h ..) hb hg)),
        fun B w p F h hB => mstep6 _ _ _ _ _ _ _ _ (of_rturns (stepped_below ..) (rfree_ok (rx_step h ..) (sz_step hB ..) hg))⟩
    | none => exact ⟨0, 13, S.fault, rfl, Nat.le_refl _, Nat.le_succ _, fun B w p F h hB => dstep6 _ _ _ _ _ _ _ _ (of_turns (stepped_below ..) (free_bad (ax_step h ..) hb hg hf')),
        fun B w p F h hB => mstep6 _ _ _ _ _ _ _ _ (of_rturns (stepped_below ..) (rfree_bad (rx_step h ..) hg hf'))⟩
  exact ⟨0, 0, S, rfl, Nat.le_succ _, Nat.le_succ _, fun B w p F h hB => (dstep0 _ _ _ _ _ _ k1 k2 k3 k4 k5 k6 w).mono fun _ _ ⟨he, hw⟩ => ⟨he, no_step (stepped_below ..) h hw⟩,
    fun B w p F h hB => (mstep0 _ _ _ _ _ _ k1 k2 k3 k4 k5 k6 w).mono fun _ _ ⟨he, hw⟩ => ⟨he, no_rstep (stepped_below ..) h hw⟩⟩
end Go.Proofs.Ytbokndgellfoaaa
