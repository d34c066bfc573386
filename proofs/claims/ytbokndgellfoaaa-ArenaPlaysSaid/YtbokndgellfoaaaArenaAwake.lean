/-
  The walk of awake. By an AI agent.
-/
import Derived.Test.YtbokndgellfoaaaArenaAlloc
set_option linter.unusedSimpArgs false
namespace Go.Proofs.Ytbokndgellfoaaa
open Go.RowKit Go.Maps
open Mm (Mem Blk)
/-- A new arena. -/
theorem new_ok (n : Nat) (h1 : 1 ≤ n) (h2 : n ≤ 65536) (w : World) : Calls Try.prog 7 #[.int .i64 (n : Int)] w fun e w' => e = .returned (.pointer (some ⟨w.heap.size + 1, 0, none⟩)) ∧
    ∃ F, Ax w.heap.size w' (w.heap.size + 1) ⟨n, 0, 0, []⟩ F ∧ Below w.heap.size w w' ∧ w.heap.size + 2 = w'.heap.size := by
  refine (new_any n h1 h2 w).mono ?_
  rintro e w' ⟨rfl, rfl⟩
  have hm := World.ownsMap_made w Try.prog 27 hv
  refine ⟨rfl, _, ⟨w.heap.size, fun _ => 0, ⟨Nat.le_succ _, Nat.le_refl _, ?_, ⟨0, _, Nat.le_refl _, hm.alloc _, fun k => ?_, fun k ws hk => ?_⟩, fun b hb => ?_, fun b hb => ?_, ⟨h1, h2, trivial, Nat.zero_le _, fun b hb => ?_⟩⟩, rfl⟩, ((Below.refl _ w).alloc (Nat.le_refl _) _).alloc (by simp) _, by simp⟩
  · have := heap_alloc_new (w.alloc (.map #[] 0)) (.cells #[.int .i64 (n : Int), .int .i64 0, .int .u64 0, .int .i64 0, .map (some w.heap.size)] 38)
    simpa [Mm.used] using this
  · rfl
  · simp [Mm.get] at hk
  · simp at hb
  · simp at hb
  · simp at hb
theorem Turns.ax {v : Value} {B p : Nat} {S : Mem} {F : Nat → Prop} {w : World} {e : Ending} {w' : World} (h : Turns v B p S F w e w') : e = .returned v ∧ ∃ F', Ax B w' p S F' ∧ Tn F F' w w' := h
/-- All that is wanted of a step: the arena, and what is below. -/
def Goes (v : Value) (B p : Nat) (S' : Mem) (w : World) (e : Ending) (w' : World) : Prop := e = .returned v ∧ ∃ F', Ax B w' p S' F' ∧ Below B w w'
theorem Turns.goes {v : Value} {B p : Nat} {S S' : Mem} {F : Nat → Prop} {w : World} (h : Ax B w p S F) (hB : B ≤ w.heap.size) {e : Ending} {w' : World} (ht : Turns v B p S' F w e w') : Goes v B p S' w e w' := by
  obtain ⟨he, F', ha, htn⟩ := ht
  exact ⟨he, F', ha, htn.below (fun k hk => (h.foot hk).1) hB⟩
theorem Gives.goes {v : Value} {B p : Nat} {S : Mem} {F : Nat → Prop} {w : World} (h : Ax B w p S F) (hB : B ≤ w.heap.size) {e : Ending} {w' : World} (hg : Gives v w e w') : Goes v B p S w e w' := by
  obtain ⟨he, hb⟩ := hg
  exact ⟨he, F, h.below hb (Nat.le_refl _), hb.mono hB⟩
abbrev m0 : Mem := ⟨5, 0, 0, []⟩
abbrev m1 : Mem := ⟨5, 1, 0, [(1, [0, 0, 0])]⟩
abbrev m2 : Mem := ⟨5, 1, 0, []⟩
abbrev m3 : Mem := ⟨5, 2, 0, [(2, [0, 0, 0])]⟩
abbrev m4 : Mem := ⟨5, 2, 1, [(2, [0, 0, 0])]⟩
abbrev m5 : Mem := ⟨5, 2, 2, [(2, [0, 0, 0])]⟩
abbrev m6 : Mem := ⟨5, 2, 2, [(2, [7, 0, 0])]⟩
abbrev m7 : Mem := ⟨5, 2, 2, [(2, [8, 0, 0])]⟩
abbrev m8 : Mem := ⟨5, 2, 2, [(2, [10, 0, 0])]⟩
set_option maxRecDepth 100000 in
set_option maxHeartbeats 4000000 in
theorem awake_any (w : World) : Calls Try.prog 6 #[] w (Gives (.bool true) w) := by
  have K0 : Hid (Calls Try.prog 7 #[.int .i64 5] w fun e w' => e = .returned (.pointer (some ⟨w.heap.size + 1, 0, none⟩)) ∧ ∃ F, Ax w.heap.size w' (w.heap.size + 1) m0 F ∧ Below w.heap.size w w' ∧ w.heap.size + 2 = w'.heap.size) := Lib.hid (new_ok 5 (by omega) (by omega) w)
  have K1 : Hid (∀ B p F w, Ax B w p m0 F → B ≤ w.heap.size → Calls Try.prog 9 #[.pointer (some ⟨p, 0, none⟩), .int .i64 3] w (Goes (.int .u64 1) B p m1 w)) := Lib.hid fun B p F w h hB =>
    (alloc_ok h hB 3 (by decide) (by decide) (by decide)).mono fun _ _ => Turns.goes h hB
  have K2 : Hid (∀ B p F w, Ax B w p m1 F → B ≤ w.heap.size → Calls Try.prog 9 #[.pointer (some ⟨p, 0, none⟩), .int .i64 3] w (Goes (.int .u64 0) B p m1 w)) := Lib.hid fun B p F w h hB =>
    (alloc_no h 3 (by decide)).mono fun _ _ => Gives.goes h hB
  have K3 : Hid (∀ B p F w, Ax B w p m1 F → B ≤ w.heap.size → Calls Try.prog 10 #[.pointer (some ⟨p, 0, none⟩), .int .u64 1] w (Goes (.int .i64 0) B p m2 w)) := Lib.hid fun B p F w h hB =>
    (free_ok h (b := 1) (by decide) rfl).mono fun _ _ => Turns.goes h hB
  have K4 : Hid (∀ B p F w, Ax B w p m2 F → B ≤ w.heap.size → Calls Try.prog 9 #[.pointer (some ⟨p, 0, none⟩), .int .i64 3] w (Goes (.int .u64 2) B p m3 w)) := Lib.hid fun B p F w h hB =>
    (alloc_ok h hB 3 (by decide) (by decide) (by decide)).mono fun _ _ => Turns.goes h hB
  have K5 : Hid (∀ B p F w, Ax B w p m3 F → B ≤ w.heap.size → Calls Try.prog 23 #[.pointer (some ⟨p, 0, none⟩), .int .u64 1, .int .i64 0] w (Goes (.tuple #[.int .u64 0, .int .i64 13]) B p m4 w)) := Lib.hid fun B p F w h hB =>
    (load_bad h (b := 1) (by decide) 0 (by decide) (by decide)).mono fun _ _ => Turns.goes h hB
  have K6 : Hid (∀ B p F w, Ax B w p m4 F → B ≤ w.heap.size → Calls Try.prog 23 #[.pointer (some ⟨p, 0, none⟩), .int .u64 2, .int .i64 3] w (Goes (.tuple #[.int .u64 0, .int .i64 14]) B p m5 w)) := Lib.hid fun B p F w h hB =>
    (load_bad h (b := 2) (by decide) 3 (by decide) (by decide)).mono fun _ _ => Turns.goes h hB
  have K7 : Hid (∀ B p F w, Ax B w p m5 F → B ≤ w.heap.size → Calls Try.prog 16 #[.pointer (some ⟨p, 0, none⟩), .int .u64 2, .int .i64 0, .int .u64 7] w (Goes (.int .i64 0) B p m6 w)) := Lib.hid fun B p F w h hB =>
    (store_ok h (b := 2) (by decide) rfl 0 (by decide) 7).mono fun _ _ => Turns.goes h hB
  have K8 : Hid (∀ B p F w, Ax B w p m6 F → B ≤ w.heap.size → Calls Try.prog 24 #[.pointer (some ⟨p, 0, none⟩), .int .u64 2, .int .i64 0, .int .u64 7, .int .u64 8] w (Goes (.tuple #[.int .u64 7, .int .i64 0]) B p m7 w)) := Lib.hid fun B p F w h hB =>
    (cas_yes h (b := 2) (by decide) rfl 0 rfl 8).mono fun _ _ => Turns.goes h hB
  have K9 : Hid (∀ B p F w, Ax B w p m7 F → B ≤ w.heap.size → Calls Try.prog 25 #[.pointer (some ⟨p, 0, none⟩), .int .u64 2, .int .i64 0, .int .u64 2] w (Goes (.tuple #[.int .u64 8, .int .i64 0]) B p m8 w)) := Lib.hid fun B p F w h hB =>
    (add_ok h (b := 2) (by decide) rfl 0 rfl 2).mono fun _ _ => Turns.goes h hB
  have KU : Hid (∀ B p F w, Ax B w p m8 F → Calls Try.prog 11 #[.pointer (some ⟨p, 0, none⟩)] w (Same (.int .i64 3) w)) := Lib.hid fun B p F w h => used_any h
  have KF : Hid (∀ B p F w, Ax B w p m8 F → Calls Try.prog 12 #[.pointer (some ⟨p, 0, none⟩)] w (Same (.int .i64 2) w)) := Lib.hid fun B p F w h => faults_any h
  go_enter Try.func6, Try.ntmps6
  go_wp2_with fail
  with_reducible refine K0.out.mono ?_
  rintro e w0 ⟨rfl, F0, a0, b0, -⟩
  have A0 := Lib.hid a0; clear a0
  have B0 := Lib.hid b0; clear b0
  go_wp2_with fail
  with_reducible refine (K1.out _ _ _ _ A0.out B0.out.size).mono ?_
  rintro e w1 ⟨rfl, F1, a, b⟩
  have A1 := Lib.hid a; clear a
  have B1 := Lib.hid (B0.out.trans b); clear b
  go_wp2_with fail
  with_reducible refine (K2.out _ _ _ _ A1.out B1.out.size).mono ?_
  rintro e w2 ⟨rfl, F2, a, b⟩
  have A2 := Lib.hid a; clear a
  have B2 := Lib.hid (B1.out.trans b); clear b
  go_wp2_with fail
  with_reducible refine (K3.out _ _ _ _ A2.out B2.out.size).mono ?_
  rintro e w3 ⟨rfl, F3, a, b⟩
  have A3 := Lib.hid a; clear a
  have B3 := Lib.hid (B2.out.trans b); clear b
  go_wp2_with fail
  with_reducible refine (K4.out _ _ _ _ A3.out B3.out.size).mono ?_
  rintro e w4 ⟨rfl, F4, a, b⟩
  have A4 := Lib.hid a; clear a
  have B4 := Lib.hid (B3.out.trans b); clear b
  go_wp2_with fail
  with_reducible refine (K5.out _ _ _ _ A4.out B4.out.size).mono ?_
  rintro e w5 ⟨rfl, F5, a, b⟩
  have A5 := Lib.hid a; clear a
  have B5 := Lib.hid (B4.out.trans b); clear b
  go_wp2_with fail
  with_reducible refine (K6.out _ _ _ _ A5.out B5.out.size).mono ?_
  rintro e w6 ⟨rfl, F6, a, b⟩
  have A6 := Lib.hid a; clear a
  have B6 := Lib.hid (B5.out.trans b); clear b
  go_wp2_with fail
  with_reducible refine (K7.out _ _ _ _ A6.out B6.out.size).mono ?_
  rintro e w7 ⟨rfl, F7, a, b⟩
  have A7 := Lib.hid a; clear a
  have B7 := Lib.hid (B6.out.trans b); clear b
  go_wp2_with fail
  with_reducible refine (K8.out _ _ _ _ A7.out B7.out.size).mono ?_
  rintro e w8 ⟨rfl, F8, a, b⟩
  have A8 := Lib.hid a; clear a
  have B8 := Lib.hid (B7.out.trans b); clear b
  go_wp2_with fail
  with_reducible refine (K9.out _ _ _ _ A8.out B8.out.size).mono ?_
  rintro e w9 ⟨rfl, F9, a, b⟩
  have A9 := Lib.hid a; clear a
  have B9 := Lib.hid (B8.out.trans b); clear b
  go_wp2_with (first | ((with_reducible refine (KU.out _ _ _ _ A9.out).mono ?_); rintro e w' ⟨rfl, rfl⟩) | ((with_reducible refine (KF.out _ _ _ _ A9.out).mono ?_); rintro e w' ⟨rfl, rfl⟩) | fail)
  go_ret
  exact ⟨rfl, B9.out⟩
end Go.Proofs.Ytbokndgellfoaaa
