/-
  What an act does on an arena: room given out, or none; a word stored. By an AI agent.
-/
import Derived.Test.YtdbolhalgbiggaaActDo
import Derived.Test.YtdbolhalgbiggaaArenaNew
import Derived.Test.YtdbolhalgbiggaaMkMath
set_option linter.unusedSimpArgs false
set_option linter.unusedVariables false
namespace Go.Proofs.Ytdbolhalgbiggaa
open Go.RowKit Go.Maps
open Mm (Mem Blk)
open Ac (A)
def DoesIt (S : Mem) (x : A) (v : Int) (S' : Mem) : Prop := ∀ (B : Nat) (w : World) (p : Nat) (F : Nat → Prop), Ax B w p S F → B ≤ w.heap.size →
  Calls Try.prog 18 #[.pointer (some ⟨p, 0, none⟩), av x] w (Turns (.int .u64 v) B p S' F w)
/-- What is behind a call, seen from ahead of the box. -/
def After (B p : Nat) (S' : Mem) (F : Nat → Prop) (w w' : World) : Prop := ∃ F', Ax B w' p S' F' ∧ Tn F F' w w'
section
variable {B p : Nat} {S S' : Mem} {F : Nat → Prop} {w w1 w' : World} {f : FuncId} {args : Array Value} {v : Value} {x : A}
theorem of_turns (hb : Below w.heap.size w w1) (h : Calls Try.prog f args w1 (Turns v B p S' F w1)) : Calls Try.prog f args w1 fun e w' => e = .returned v ∧ After B p S' F w w' :=
  h.mono fun _ _ ⟨he, F', ha, ht⟩ => ⟨he, F', ha, (Tn.of_below hb).trans ht⟩
theorem of_same (hb : Below w.heap.size w w1) (ha : Ax B w1 p S F) (h : Calls Try.prog f args w1 (Same v w1)) : Calls Try.prog f args w1 fun e w' => e = .returned v ∧ After B p S F w w' :=
  h.mono fun _ _ ⟨he, hw⟩ => ⟨he, F, hw ▸ ha, hw ▸ Tn.of_below hb⟩
theorem of_gives (hb : Below w.heap.size w w1) (ha : Ax B w1 p S F) (h : Calls Try.prog f args w1 (Gives v w1)) : Calls Try.prog f args w1 fun e w' => e = .returned v ∧ After B p S F w w' :=
  h.mono fun _ _ ⟨he, hw⟩ => ⟨he, F, ha.below hw (Nat.le_refl _), (Tn.of_below hb).trans (Tn.of_below hw)⟩
theorem no_step (hb : Below w.heap.size w w1) (ha : Ax B w p S F) : After B p S F w w1 := ⟨F, ha.below hb (Nat.le_refl _), Tn.of_below hb⟩
theorem ax_at (hb : Below w.heap.size w w1) (ha : Ax B w p S F) : Ax B w1 p S F := ha.below hb (Nat.le_refl _)
end
theorem does_alloc {S : Mem} (hG : Mm.Good S) (n : Nat) (h1 : 1 ≤ n) (h2 : n ≤ S.room - Mm.used S.L) (hl : S.last ≤ 1000000000000) : DoesIt S ⟨5, 0, n, 0, 0⟩ ((S.last : Int) + 1) (S.alloc n) := by
  have hr2 := hG.r2
  exact fun B w p F h hB => dstep5 _ 0 (n : Int) 0 0 _ 0 w _ (by omega) (by simp [Ac.right, Ac.known, Ac.fb, Ac.fc, Ac.fo, Ac.fn]; omega) fun w1 hw1 => of_turns hw1 (alloc_ok (ax_at hw1 h) (Nat.le_trans hB hw1.size) n h1 h2 hl)
theorem does_none {S : Mem} (n : Nat) (h1 : 1 ≤ n) (hn : n ≤ 1000000) (h2 : S.room - Mm.used S.L < n) (hf : Mm.used S.L ≤ S.room) : DoesIt S ⟨5, 0, n, 0, 0⟩ 0 S :=
  fun B w p F h hB => dstep5 _ 0 (n : Int) 0 0 _ 0 w _ (by omega) (by simp [Ac.right, Ac.known, Ac.fb, Ac.fc, Ac.fo, Ac.fn]; omega) fun w1 hw1 => of_gives hw1 (ax_at hw1 h) (alloc_no (ax_at hw1 h) _ (.inr (by omega)))
theorem does_store {S : Mem} {ws : List Int} (b j v : Nat) (hb : b < 18446744073709551616) (hg : Mm.get S.L b = some ws) (hj : j < ws.length) (hj2 : j ≤ 1000000) : DoesIt S ⟨2, b, (j : Int), 0, v⟩ 0 (S.put b j (v : Int)) :=
  fun B w p F h hB => dstep2 _ b (j : Int) 0 v 0 0 w _ (by omega) (by simp [Ac.right, Ac.known, Ac.fb, Ac.fc, Ac.fo, Ac.fn]) fun w1 hw1 => of_turns hw1 (store_ok (ax_at hw1 h) hb hg j hj (v : Int))
end Go.Proofs.Ytdbolhalgbiggaa
