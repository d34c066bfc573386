/-
  The walk of awake: the chapter's example. By an AI agent.
-/
import Derived.Test.YthldjdkjgiebaaaDriveAwakeMath
import Derived.Test.YthldjdkjgiebaaaDriveAlone
import Derived.Test.YthldjdkjgiebaaaDriveSameRows
set_option linter.unusedSimpArgs false
set_option linter.unusedVariables false
namespace Go.Proofs.Ythldjdkjgiebaaa
open Go.RowKit Go.Maps
open Mm (Mem Blk)
open Ac (A)
theorem two_acts {w w1 : World} (h : Below (w.heap.size + 1) (w.alloc (.cells #[.int .i64 5, .int .u64 0, .int .i64 1, .int .u64 0, .int .u64 0, .int .i64 5, .int .u64 0, .int .i64 2, .int .u64 0, .int .u64 0] 42)) w1) (i j : Nat) (hj : j < 2) : ActAt (some ⟨w.heap.size, 0, none⟩) w1 j (xsA i j) := by
  have e : w1.heap[w.heap.size]? = some (.cells #[.int .i64 5, .int .u64 0, .int .i64 1, .int .u64 0, .int .u64 0, .int .i64 5, .int .u64 0, .int .i64 2, .int .u64 0, .int .u64 0] 42 (0, 0)) := (h.block _ (by omega)).trans (World.alloc_heap_new w _)
  rcases (by omega : j = 0 ∨ j = 1) with rfl | rfl
  · refine ⟨_, _, rfl, ?_, ?_, ?_, ?_, ?_⟩ <;> simp [World.cell?, e, xsA]
  · refine ⟨_, _, rfl, ?_, ?_, ?_, ?_, ?_⟩ <;> simp [World.cell?, e, xsA]
/-- The acts' block, and all from it on. -/
abbrev wa (w : World) : World := w.alloc (.cells #[.int .i64 5, .int .u64 0, .int .i64 1, .int .u64 0, .int .u64 0, .int .i64 5, .int .u64 0, .int .i64 2, .int .u64 0, .int .u64 0] 42)
/-- The world of the example's Run. -/
abbrev wb (w w2 : World) : World := (((w2.alloc (ro0 (some ⟨w.heap.size, 0, none⟩) 2 2)).alloc (ro0 (some ⟨w.heap.size, 0, none⟩) 2 2)).alloc (.cells #[rv w2.heap.size, rv (w2.heap.size + 1)] 57)).alloc (.cells #[.int .i64 0, .int .i64 (-1), .int .i64 0, .int .i64 0] 3)
theorem awake_run {w w2 : World} {p : Nat} {F : Nat → Prop} (hA : Ax (wa w).heap.size w2 p (s0 20) F) (hb : Below (wa w).heap.size (wa w) w2) :
    Calls Try.prog 11 #[.pointer (some ⟨p, 0, none⟩), .slice (some ⟨w2.heap.size + 1 + 1, 0, none⟩) 2 2, .slice (some ⟨w2.heap.size + 1 + 1 + 1, 0, none⟩) 4 4] (wb w w2) fun e w7 => ∃ v, e = .returned v ∧ w7.ownsRow (wb w w2).heap.size 63 7 v 3 (rows7 [(0, ⟨5, 0, 1, 0, 0⟩, 1), (1, ⟨5, 0, 1, 0, 0⟩, 2), (0, ⟨5, 0, 2, 0, 0⟩, 3)]) ∧ Below (wa w).heap.size (wa w) w7 := by
  have hbb : Below w2.heap.size w2 (wb w w2) := ((((Below.refl _ w2).alloc (Nat.le_refl _) _).alloc (by simp) _).alloc (by simp; omega) _).alloc (by simp; omega) _
  have hsz : w2.heap.size ≥ (wa w).heap.size := hb.size
  have hszw : (wb w w2).heap.size = w2.heap.size + 4 := by simp
  have e0 : (wb w w2).heap[w2.heap.size]? = some (.cells #[.slice (some ⟨w.heap.size, 0, none⟩) 2 2, .slice none 0 0] 29 (0, 0)) := by rw [Below.heap_alloc _ _ _ (by simp <;> omega), Below.heap_alloc _ _ _ (by simp <;> omega), Below.heap_alloc _ _ _ (by simp <;> omega)]; exact World.alloc_heap_new w2 _
  have e1 : (wb w w2).heap[w2.heap.size + 1]? = some (.cells #[.slice (some ⟨w.heap.size, 0, none⟩) 2 2, .slice none 0 0] 29 (0, 0)) := by rw [Below.heap_alloc _ _ _ (by simp <;> omega), Below.heap_alloc _ _ _ (by simp <;> omega)]; have := World.alloc_heap_new (w2.alloc (ro0 (some ⟨w.heap.size, 0, none⟩) 2 2)) (ro0 (some ⟨w.heap.size, 0, none⟩) 2 2); rwa [World.size_alloc] at this
  have e2 : (wb w w2).heap[w2.heap.size + 1 + 1]? = some (.cells #[rv w2.heap.size, rv (w2.heap.size + 1)] 57 (0, 0)) := by rw [Below.heap_alloc _ _ _ (by simp <;> omega)]; have := World.alloc_heap_new ((w2.alloc (ro0 (some ⟨w.heap.size, 0, none⟩) 2 2)).alloc (ro0 (some ⟨w.heap.size, 0, none⟩) 2 2)) (.cells #[rv w2.heap.size, rv (w2.heap.size + 1)] 57); rwa [World.size_alloc, World.size_alloc] at this
  have e3 : (wb w w2).heap[w2.heap.size + 1 + 1 + 1]? = some (.cells #[.int .i64 0, .int .i64 (-1), .int .i64 0, .int .i64 0] 3 (0, 0)) := by have := World.alloc_heap_new (((w2.alloc (ro0 (some ⟨w.heap.size, 0, none⟩) 2 2)).alloc (ro0 (some ⟨w.heap.size, 0, none⟩) 2 2)).alloc (.cells #[rv w2.heap.size, rv (w2.heap.size + 1)] 57)) (.cells #[.int .i64 0, .int .i64 (-1), .int .i64 0, .int .i64 0] 3); rwa [World.size_alloc, World.size_alloc, World.size_alloc] at this
  have hms : Ms (wa w).heap.size (wb w w2) p (s0 20) 2 (fun i => w2.heap.size + i) (fun _ => some ⟨w.heap.size, 0, none⟩) (fun _ => 2) (fun _ => 2) (fun _ => []) F (fun i => Hp (w2.heap.size + i) none) :=
    ms_new (w := w2) (hA.below hbb (Nat.le_refl _)) (fun i _ => by omega) (fun i _ hf => by have := (hA.foot hf).2; omega) (fun i j _ _ e => by omega) (fun i hi => by
      rcases (by omega : i = 0 ∨ i = 1) with rfl | rfl
      · exact e0
      · exact e1)
  have hnt : ∀ k, w2.heap.size + 2 ≤ k → ¬ Tot 2 F (fun i => Hp (w2.heap.size + i) none) k := fun k hk e => by
    rcases e with e | ⟨i, hi, e⟩
    · have := (hA.foot e).2; omega
    · have := hp_none e; omega
  have hB : (wa w).heap.size ≤ (wb w w2).heap.size := by omega
  have hbw : Below (wa w).heap.size (wa w) (wb w w2) := hb.trans (hbb.mono hsz)
  refine (drun_any hms hB (by omega) (by omega) xsA (fun w1 hw1 i _ j hj => two_acts (by have := hbw.trans hw1; simpa using this) i j hj) (fun i _ j hj => xsA_fits i j (by omega)) (mid_new (by omega) (by omega)) _ 2 (fun i hi => ?_) _ 4 4 (by omega) (fun k => if k = 1 then -1 else 0) (fun i hi => ?_) whoA (fun i hi => ?_)).mono ?_
  · refine ⟨_, _, rfl, by omega, hnt _ (by omega), ?_⟩
    rcases (by omega : i = 0 ∨ i = 1) with rfl | rfl <;> (simp only [World.cell?]; rw [e2]; rfl)
  · refine ⟨_, _, rfl, by omega, hnt _ (by omega), ?_⟩
    rcases (by omega : i = 0 ∨ i = 1 ∨ i = 2 ∨ i = 3) with rfl | rfl | rfl | rfl <;> (simp only [World.cell?]; rw [e3]; rfl)
  · rcases (by omega : i = 0 ∨ i = 1 ∨ i = 2 ∨ i = 3) with rfl | rfl | rfl | rfl <;> simp [whoA]
  · rintro e w7 ⟨v, rfl, hr, F', H', hm, ht⟩
    rw [awake_ts] at hr
    exact ⟨v, rfl, hr, hbw.trans (ht.below (fun k hk => (hms.foot hk).1) hB)⟩
theorem awake_alone {w w7 w8 : World} {p : Nat} {F : Nat → Prop} (hb7 : Below (wa w).heap.size (wa w) w7) (hA : Ax w7.heap.size w8 p (s0 20) F) (hb : Below w7.heap.size w7 w8) :
    Calls Try.prog 6 #[.pointer (some ⟨p, 0, none⟩), rv w8.heap.size, .int .i64 9] (w8.alloc (ro0 (some ⟨w.heap.size, 0, none⟩) 2 2)) fun e w9 => e = .returned (.tuple #[.int .i64 2, .bool true]) ∧ Below w7.heap.size w7 w9 := by
  have hbb : Below w8.heap.size w8 (w8.alloc (ro0 (some ⟨w.heap.size, 0, none⟩) 2 2)) := (Below.refl _ w8).alloc (Nat.le_refl _) _
  have hd := du_new (q := w8.heap.size) (a := some ⟨w.heap.size, 0, none⟩) (N := 2) (c := 2) hA hbb (Nat.le_refl _) hb.size (World.alloc_heap_new w8 _)
  have hB : w7.heap.size ≤ (w8.alloc (ro0 (some ⟨w.heap.size, 0, none⟩) 2 2)).heap.size := by have := hb.size; simp; omega
  have hbx : Below w7.heap.size w7 (w8.alloc (ro0 (some ⟨w.heap.size, 0, none⟩) 2 2)) := hb.trans (hbb.mono hb.size)
  refine (alone_any hd hB (xsA 0) (fun w1 hw1 j hj => two_acts (by have := hb7.trans ((hbx.trans hw1).mono hb7.size); simpa using this) 0 j hj) 9 (mid_new (by omega) (by omega)) (by omega) (fun j hj => xsA_fits 0 j (by omega))).mono ?_
  rintro e w9 ⟨rfl, F', H', hd', ht⟩
  exact ⟨by simp, hbx.trans (ht.below (fun k hk => (hd.foot hk).1) hB)⟩
set_option maxRecDepth 100000 in
set_option maxHeartbeats 8000000 in
/-- ████ awake. ████ -/
theorem awake_any (w : World) : Calls Try.prog 7 #[] w (Gives (.bool true) w) := by
  have KN : Hid (∀ w', Calls Try.prog 8 #[.int .i64 20] w' (Made 20 w')) := Lib.hid fun w' => made_new 20 (by omega) (by omega) w'
  go_enter Try.func7, Try.ntmps7
  go_wp2_with fail
  with_reducible refine (KN.out _).mono ?_
  rintro e w2 ⟨p, rfl, hp, F, hA, hb⟩
  have KR := Lib.hid (awake_run (w := w) hA hb)
  clear hA hb hp
  go_wp2_with fail
  with_reducible refine KR.out.mono ?_
  rintro e w7 ⟨v, rfl, hr, hb7⟩
  have HR := Lib.hid hr
  have HB7 := Lib.hid hb7
  clear hr hb7 KR
  go_wp2_with fail
  with_reducible refine (KN.out _).mono ?_
  rintro e w8 ⟨p2, rfl, hp2, F2, hA2, hb8⟩
  have KA := Lib.hid (awake_alone (w := w) HB7.out hA2 hb8)
  clear hA2 hb8 hp2
  go_wp2_with fail
  with_reducible refine KA.out.mono ?_
  rintro e w9 ⟨rfl, hb9⟩
  have hrow := (KeepsAlien.below hb9).row HR.out (fun _ => rfl)
  obtain ⟨g, c, rfl, hg, x0, x1, x2, x3, x4, x5, x6⟩ := row_seven (ts := [(0, ⟨5, 0, 1, 0, 0⟩, 1), (1, ⟨5, 0, 1, 0, 0⟩, 2), (0, ⟨5, 0, 2, 0, 0⟩, 3)]) hrow (i := 1) (by simp)
  obtain ⟨g', c', e', hg', y0, y1, y2, y3, y4, y5, y6⟩ := row_seven (ts := [(0, ⟨5, 0, 1, 0, 0⟩, 1), (1, ⟨5, 0, 1, 0, 0⟩, 2), (0, ⟨5, 0, 2, 0, 0⟩, 3)]) hrow (i := 2) (by simp)
  cases e'
  simp at x0 x6 y0 y6
  have HB := Lib.hid (((Below.refl w.heap.size w).alloc (Nat.le_refl _) (.cells #[.int .i64 5, .int .u64 0, .int .i64 1, .int .u64 0, .int .u64 0, .int .i64 5, .int .u64 0, .int .i64 2, .int .u64 0, .int .u64 0] 42)).trans (HB7.out.mono (by simp)))
  have HB9 := Lib.hid (HB.out.trans (hb9.mono HB.out.size))
  clear hrow x1 x2 x3 x4 x5 y1 y2 y3 y4 y5 hb9 HR HB7 KA
  go_wp2
  go_ret
  exact ⟨rfl, HB9.out⟩
end Go.Proofs.Ythldjdkjgiebaaa
