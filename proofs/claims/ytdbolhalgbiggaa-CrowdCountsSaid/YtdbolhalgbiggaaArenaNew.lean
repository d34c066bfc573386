/-
  The walk of awake. By an AI agent.
-/
import Derived.Test.YtdbolhalgbiggaaArenaAlloc
set_option linter.unusedSimpArgs false
namespace Go.Proofs.Ytdbolhalgbiggaa
open Go.RowKit Go.Maps
open Mm (Mem Blk)
/-- A new arena. -/
theorem new_ok (n : Nat) (h1 : 1 ≤ n) (h2 : n ≤ 65536) (w : World) : Calls Try.prog 14 #[.int .i64 (n : Int)] w fun e w' => e = .returned (.pointer (some ⟨w.heap.size + 1, 0, none⟩)) ∧
    ∃ F, Ax w.heap.size w' (w.heap.size + 1) ⟨n, 0, 0, []⟩ F ∧ Below w.heap.size w w' ∧ w.heap.size + 2 = w'.heap.size := by
  refine (new_any n h1 h2 w).mono ?_
  rintro e w' ⟨rfl, rfl⟩
  have hm := World.ownsMap_made w Try.prog 22 hv
  refine ⟨rfl, _, ⟨w.heap.size, fun _ => 0, ⟨Nat.le_succ _, Nat.le_refl _, ?_, ⟨0, _, Nat.le_refl _, hm.alloc _, fun k => ?_, fun k ws hk => ?_⟩, fun b hb => ?_, fun b hb => ?_, ⟨h1, h2, trivial, Nat.zero_le _, fun b hb => ?_⟩⟩, rfl⟩, ((Below.refl _ w).alloc (Nat.le_refl _) _).alloc (by simp) _, by simp⟩
  · have := heap_alloc_new (w.alloc (.map #[] 0)) (.cells #[.int .i64 (n : Int), .int .i64 0, .int .u64 0, .int .i64 0, .map (some w.heap.size)] 60)
    simpa [Mm.used] using this
  · rfl
  · simp [Mm.get] at hk
  · simp at hb
  · simp at hb
  · simp at hb
theorem Turns.ax {v : Value} {B p : Nat} {S : Mem} {F : Nat → Prop} {w : World} {e : Ending} {w' : World} (h : Turns v B p S F w e w') : e = .returned v ∧ ∃ F', Ax B w' p S F' ∧ Tn F F' w w' := h
/-- All that is wanted of a step: the arena, and what is below. -/
def Goes (v : Value) (B p : Nat) (S' : Mem) (w : World) (e : Ending) (w' : World) : Prop := e = .returned v ∧ ∃ F', Ax B w' p S' F' ∧ Below B w w'
theorem Turns.goes {v : Value} {B p : Nat} {S S' : Mem} {F : Nat → Prop} {w : World} (h : Ax B w p S F) (hB : B ≤ w.heap.size) {e : Ending} {w' : World} (ht : Turns v B p S' F w e w') : Goes v B p S' w e w' := by
  obtain ⟨he, F', ha, htn⟩ := ht
  exact ⟨he, F', ha, htn.below (fun k hk => (h.foot hk).1) hB⟩
theorem Gives.goes {v : Value} {B p : Nat} {S : Mem} {F : Nat → Prop} {w : World} (h : Ax B w p S F) (hB : B ≤ w.heap.size) {e : Ending} {w' : World} (hg : Gives v w e w') : Goes v B p S w e w' := by
  obtain ⟨he, hb⟩ := hg
  exact ⟨he, F, h.below hb (Nat.le_refl _), hb.mono hB⟩
end Go.Proofs.Ytdbolhalgbiggaa
