/-
  ArenaPlays: what its walk stands on; the ways out ahead of it. By an AI agent.
-/
import Derived.Test.YtbokndgellfoaaaArenaCopy
import Derived.Test.YtbokndgellfoaaaArenaAwake
import Derived.Deep.RegionHeld3
set_option linter.unusedSimpArgs false
namespace Go.Proofs.Ytbokndgellfoaaa
open Go.RowKit Go.Maps
open Mm (Mem Blk)
/-- The document's arena, made. -/
theorem rx_new {B : Nat} (n : Nat) (h1 : 1 ≤ n) (h2 : n ≤ 65536) (w : World) (hB : B ≤ w.heap.size) :
    ∃ G, Rx B (w.alloc (.cells #[.int .i64 (n : Int), .int .i64 0, .int .u64 0, .slice none 0 0] 43)) w.heap.size ⟨n, 0, 0, []⟩ G ∧ ∀ k, G k → k = w.heap.size := by
  refine ⟨_, ⟨.slice none 0 0, fun _ => 0, ⟨hB, ?_, ⟨by simp [encB], .inl ⟨rfl, rfl⟩⟩, fun b hb => by simp at hb, fun b hb => by simp at hb, ⟨h1, h2, trivial, Nat.zero_le _, fun b hb => by simp at hb⟩⟩, rfl⟩, fun k hk => ?_⟩
  · have := heap_alloc_new w (.cells #[.int .i64 (n : Int), .int .i64 0, .int .u64 0, .slice none 0 0] 43)
    simpa using this
  · rcases hk with hk | hk | ⟨b, hb, _⟩
    · exact hk
    · cases hk
    · simp at hb
theorem Tn.rother {F F' G : Nat → Prop} {w w' : World} (h : Tn F F' w w') {B p : Nat} {S : Mem} (ho : Rx B w p S G) (ha : ∀ k, G k → ¬ F k) : Rx B w' p S G ∧ ∀ k, G k → ¬ F' k :=
  ⟨ho.keep fun k hk => h.block k (ho.foot hk).2 (ha k hk), fun k hk e => (h.foot k e).elim (ha k hk) (fun e2 => by have := (ho.foot hk).2; omega)⟩
/-- Both arenas at the same memory, apart from one another. -/
structure Twin (B : Nat) (w : World) (p x : Nat) (S : Mem) : Prop where
  both : ∃ F G, Ax B w p S F ∧ Rx B w x S G ∧ ∀ k, G k → ¬ F k
theorem Twin.good {B : Nat} {w : World} {p x : Nat} {S : Mem} (h : Twin B w p x S) : Mm.Good S := by
  obtain ⟨F, G, hA, -⟩ := h
  exact hA.good
theorem Twin.below {B : Nat} {w w' : World} {p x : Nat} {S : Mem} (h : Twin B w p x S) (hb : Below w.heap.size w w') : Twin B w' p x S := by
  obtain ⟨F, G, hA, hR, hd⟩ := h
  exact ⟨F, G, hA.below hb (Nat.le_refl _), hR.below hb (Nat.le_refl _), hd⟩
/-- Two steps, one of each. -/
theorem Twin.steps {B : Nat} {w : World} {p x : Nat} {S S' : Mem} {s : Stp} {v c : Int} (h : Twin B w p x S) (hB : B ≤ w.heap.size) (hD : DoesIt S s v c S') (hM : MustIt S s v c S') :
    Calls Try.prog 17 #[.pointer (some ⟨p, 0, none⟩), .agg s.cells] w fun e w2 => e = .returned (we v c) ∧ Below B w w2 ∧
      Calls Try.prog 18 #[.pointer (some ⟨x, 0, none⟩), .agg s.cells] w2 fun e w3 => e = .returned (we v c) ∧ Below B w2 w3 ∧ Twin B w3 p x S' := by
  obtain ⟨F, G, hA, hR, hd⟩ := h
  refine (hD B w p F hA hB).mono ?_
  rintro e w2 ⟨rfl, F2, hA2, ht⟩
  have hb2 := ht.below (fun k hk => (hA.foot hk).1) hB
  obtain ⟨hR2, hd2⟩ := ht.rother hR hd
  refine ⟨rfl, hb2, (hM B w2 x G hR2 (Nat.le_trans hB hb2.size)).mono ?_⟩
  rintro e w3 ⟨rfl, G3, hR3, ht3⟩
  obtain ⟨hA3, hd3⟩ := ht3.other hA2 (fun k hk hg => hd2 k hg hk)
  exact ⟨rfl, ht3.below (fun k hk => (hR2.foot hk).1) (Nat.le_trans hB hb2.size), F2, G3, hA3, hR3, fun k hk hf => hd3 k hf hk⟩
/-- A step in a row of them. -/
def StepAt (A : Option Addr) (w : World) (j : Nat) (s : Stp) : Prop := ∃ b off, A = some ⟨b, off, none⟩ ∧ w.cell? ⟨b, off + j * 5, none⟩ = some (.int .i64 s.kind) ∧ w.cell? ⟨b, off + j * 5 + 1, none⟩ = some (.int .u64 (s.b : Int)) ∧
  w.cell? ⟨b, off + j * 5 + 2, none⟩ = some (.int .i64 s.i) ∧ w.cell? ⟨b, off + j * 5 + 3, none⟩ = some (.int .u64 s.old) ∧ w.cell? ⟨b, off + j * 5 + 4, none⟩ = some (.int .u64 s.new)
set_option maxRecDepth 100000 in
set_option maxHeartbeats 2000000 in
theorem plays_long (cells : Int) (A : Option Addr) (len cap : Nat) (w : World) (hm : len ≤ 9223372036854775807) (h : 60 < len ∨ 2000 < cells ∧ cells ≤ 65536) :
    Calls Try.prog 3 #[.int .i64 cells, .slice A len cap] w (Gives (.bool true) w) := by
  have KA := Lib.hid (awake_any w)
  by_cases h60 : 60 < len
  · have d1 : decide ((60 : Int) < (len : Int)) = true := by simp; omega
    clear h
    go_enter Try.func3, Try.ntmps3
    go_wp2_with fail
    with_reducible refine KA.out.mono ?_
    rintro e w1 ⟨rfl, hb⟩
    go_wp2_with fail
    go_ret
    exact ⟨rfl, hb⟩
  · have d1 : decide ((60 : Int) < (len : Int)) = false := by simp; omega
    have d2 : decide ((2000 : Int) < cells) = true := by simp; omega
    have d3 : decide (cells ≤ (65536 : Int)) = true := by simp; omega
    clear h
    go_enter Try.func3, Try.ntmps3
    go_wp2_with fail
    with_reducible refine KA.out.mono ?_
    rintro e w1 ⟨rfl, hb⟩
    go_wp2_with fail
    go_ret
    exact ⟨rfl, hb⟩
set_option maxRecDepth 100000 in
set_option maxHeartbeats 4000000 in
theorem plays_none (cells : Int) (A : Option Addr) (len cap : Nat) (w : World) (hl : len ≤ 60) (h : cells < 1 ∨ 65536 < cells) :
    Calls Try.prog 3 #[.int .i64 cells, .slice A len cap] w (Gives (.bool true) w) := by
  have d1 : decide ((60 : Int) < (len : Int)) = false := by simp; omega
  have KN := Lib.hid (new_none cells h w)
  have KM := Lib.hid (may_no cells h w)
  obtain ⟨dc, hdc⟩ : ∃ dc, dc = decide ((2000 : Int) < cells) := ⟨_, rfl⟩
  have hd : (dc = false) ∨ (dc = true ∧ decide (cells ≤ (65536 : Int)) = false) := by
    rcases h with h | h
    · exact .inl (by rw [hdc]; simp; omega)
    · exact .inr ⟨by rw [hdc]; simp; omega, by simp; omega⟩
  have KA := Lib.hid (alloc_nil 1 w)
  have KW := Lib.hid fun w' => awake_any w'
  have K6 := Lib.hid fun (w' : World) => store_plain w'.heap.size 1 0 1 (w'.alloc (.cells #[.int .i64 0, .int .i64 0, .int .u64 0, .int .i64 0, .map none] 38)) (by
    have := heap_alloc_new w' (.cells #[.int .i64 0, .int .i64 0, .int .u64 0, .int .i64 0, .map none] 38)
    simp only [World.cell?]
    rw [this]
    rfl)
  rcases hd with hd | ⟨hd, hd2⟩ <;> rw [hd] at hdc
  · have d2 := hdc.symm; clear hdc h
    go_enter Try.func3, Try.ntmps3
    go_wp2_with fail
    with_reducible refine KN.out.mono ?_
    rintro e w1 ⟨rfl, rfl⟩
    go_wp2_with fail
    with_reducible refine KM.out.mono ?_
    rintro e w1 ⟨rfl, rfl⟩
    go_wp2_with fail
    with_reducible refine KA.out.mono ?_
    rintro e w1 ⟨rfl, hb1⟩
    have HB1 := Lib.hid hb1; clear hb1
    go_wp2_with fail
    with_reducible refine (free_nil 1 w1).mono ?_
    rintro e w' ⟨rfl, rfl⟩
    go_wp2_with fail
    with_reducible refine (used_nil w1).mono ?_
    rintro e w' ⟨rfl, rfl⟩
    go_wp2_with fail
    with_reducible refine (faults_nil w1).mono ?_
    rintro e w' ⟨rfl, rfl⟩
    go_wp2_with fail
    with_reducible refine (size_nil 1 w1).mono ?_
    rintro e w' ⟨rfl, rfl⟩
    go_wp2_with fail
    with_reducible refine (blocks_nil w1).mono ?_
    rintro e w' ⟨rfl, rfl⟩
    go_wp2_with fail
    with_reducible refine (copy_nil w1).mono ?_
    rintro e w' ⟨rfl, rfl⟩
    go_wp2_with fail
    with_reducible refine (K6.out w1).mono ?_
    rintro e w' ⟨rfl, rfl⟩
    go_wp2_with fail
    with_reducible refine (KW.out _).mono ?_
    rintro e w2 ⟨rfl, hb2⟩
    go_wp2_with fail
    go_ret
    exact ⟨rfl, HB1.out.trans (((Below.refl _ w1).alloc (Nat.le_refl _) _ |>.mono HB1.out.size).trans (hb2.mono (by have := HB1.out.size; simp; omega)))⟩
  · have d2 := hdc.symm; clear hdc h
    go_enter Try.func3, Try.ntmps3
    go_wp2_with fail
    with_reducible refine KN.out.mono ?_
    rintro e w1 ⟨rfl, rfl⟩
    go_wp2_with fail
    with_reducible refine KM.out.mono ?_
    rintro e w1 ⟨rfl, rfl⟩
    go_wp2_with fail
    with_reducible refine KA.out.mono ?_
    rintro e w1 ⟨rfl, hb1⟩
    have HB1 := Lib.hid hb1; clear hb1
    go_wp2_with fail
    with_reducible refine (free_nil 1 w1).mono ?_
    rintro e w' ⟨rfl, rfl⟩
    go_wp2_with fail
    with_reducible refine (used_nil w1).mono ?_
    rintro e w' ⟨rfl, rfl⟩
    go_wp2_with fail
    with_reducible refine (faults_nil w1).mono ?_
    rintro e w' ⟨rfl, rfl⟩
    go_wp2_with fail
    with_reducible refine (size_nil 1 w1).mono ?_
    rintro e w' ⟨rfl, rfl⟩
    go_wp2_with fail
    with_reducible refine (blocks_nil w1).mono ?_
    rintro e w' ⟨rfl, rfl⟩
    go_wp2_with fail
    with_reducible refine (copy_nil w1).mono ?_
    rintro e w' ⟨rfl, rfl⟩
    go_wp2_with fail
    with_reducible refine (K6.out w1).mono ?_
    rintro e w' ⟨rfl, rfl⟩
    go_wp2_with fail
    with_reducible refine (KW.out _).mono ?_
    rintro e w2 ⟨rfl, hb2⟩
    go_wp2_with fail
    go_ret
    exact ⟨rfl, HB1.out.trans (((Below.refl _ w1).alloc (Nat.le_refl _) _ |>.mono HB1.out.size).trans (hb2.mono (by have := HB1.out.size; simp; omega)))⟩
end Go.Proofs.Ytbokndgellfoaaa
