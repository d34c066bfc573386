/-
  The walk of a shield's Act. By an AI agent.
-/
import Derived.Test.YtjmgjgohllihdaaDoorShBase
set_option linter.unusedSimpArgs false
set_option linter.unusedVariables false
namespace Go.Proofs.YtjmgjgohllihdaaDoor
open Go.RowKit Go.Maps
open Ac (A)
/-- A new act's box, in a world behind it. -/
theorem abox {w w1 : World} (hb : Below (w.alloc (.cells #[.int .i64 0, .int .u64 0, .int .i64 0, .int .u64 0, .int .u64 0] 32)).heap.size (w.alloc (.cells #[.int .i64 0, .int .u64 0, .int .i64 0, .int .u64 0, .int .u64 0] 32)) w1) :
    (w1.frozen? ⟨w.heap.size, 0, none⟩ = false ∧ w1.frozen? ⟨w.heap.size, 1, none⟩ = false ∧ w1.frozen? ⟨w.heap.size, 2, none⟩ = false ∧ w1.frozen? ⟨w.heap.size, 3, none⟩ = false ∧ w1.frozen? ⟨w.heap.size, 4, none⟩ = false) ∧
    (w1.cell? ⟨w.heap.size, 0, none⟩ = some (.int .i64 0) ∧ w1.cell? ⟨w.heap.size, 1, none⟩ = some (.int .u64 0) ∧ w1.cell? ⟨w.heap.size, 2, none⟩ = some (.int .i64 0) ∧ w1.cell? ⟨w.heap.size, 3, none⟩ = some (.int .u64 0) ∧ w1.cell? ⟨w.heap.size, 4, none⟩ = some (.int .u64 0)) ∧
    ∀ v0 v1 v2 v3 v4, Below w.heap.size w (((((w1.setCell ⟨w.heap.size, 0, none⟩ v0).setCell ⟨w.heap.size, 1, none⟩ v1).setCell ⟨w.heap.size, 2, none⟩ v2).setCell ⟨w.heap.size, 3, none⟩ v3).setCell ⟨w.heap.size, 4, none⟩ v4) := by
  have hz : w1.heap[w.heap.size]? = some (.cells #[.int .i64 0, .int .u64 0, .int .i64 0, .int .u64 0, .int .u64 0] 32 (0, 0)) := (hb.block w.heap.size (by rw [World.size_alloc]; omega)).trans (heap_alloc_new w _)
  have hw1 : Below w.heap.size w w1 := ((Below.refl _ w).alloc (Nat.le_refl _) _).trans (hb.mono (by rw [World.size_alloc]; omega))
  refine ⟨⟨?_, ?_, ?_, ?_, ?_⟩, ⟨?_, ?_, ?_, ?_, ?_⟩, fun v0 v1 v2 v3 v4 => ?_⟩
  iterate 5 (simp [World.frozen?, hz])
  iterate 5 (simp [World.cell?, hz])
  exact (((((hw1.setCell (p := ⟨w.heap.size, 0, none⟩) (Nat.le_refl _) v0).setCell (p := ⟨w.heap.size, 1, none⟩) (Nat.le_refl _) v1).setCell (p := ⟨w.heap.size, 2, none⟩) (Nat.le_refl _) v2).setCell (p := ⟨w.heap.size, 3, none⟩) (Nat.le_refl _) v3).setCell (p := ⟨w.heap.size, 4, none⟩) (Nat.le_refl _) v4)
/-! ### Act -/
theorem sact_nil (w : World) : Calls Tryd.prog 8 #[.pointer none] w (Gives (.tuple #[av ⟨0, 0, 0, 0, 0⟩, .bool false]) w) := by
  go_enter Tryd.func8, Tryd.ntmps8
  go_wp2
  exact bodyPost_ret (v := .tuple #[av ⟨0, 0, 0, 0, 0⟩, .bool false]) (by simp [results, Tryd.results8, go_sem]) rfl ⟨rfl, (Below.refl _ w).alloc (Nat.le_refl _) _⟩
set_option maxRecDepth 100000 in
set_option maxHeartbeats 4000000 in
theorem sact_any {w : World} {q d b : Nat} {c i : Int} {s : Sh.S} (h : Sb w q s d c b i) (hp : s.p ≤ 3) (hr : s.r < 18446744073709551616) : Calls Tryd.prog 8 #[.pointer (some ⟨q, 0, none⟩)] w (Gives (.tuple #[av (Sh.act d c b i s), .bool (Sh.more s)]) w) := by
  have hb : ∀ o, Below w.heap.size w (w.alloc o) := fun o => (Below.refl _ w).alloc (Nat.le_refl _) _
  have c0 := fun o => (h.below (hb o)).c0
  have c1 := fun o => (h.below (hb o)).c1
  have c2 := fun o => (h.below (hb o)).c2
  have c3 := fun o => (h.below (hb o)).c3
  have c4 := fun o => (h.below (hb o)).c4
  have c5 := fun o => (h.below (hb o)).c5
  obtain ⟨p, r⟩ := s
  dsimp only at c0 c1 c2 c3 hp hr
  have HB := Lib.hid hb; clear hb
  have HH := Lib.hid h; clear h
  have HK := Lib.hid (fun W => blockn r W hr)
  have HL := Lib.hid (fun W => sload_slot (b : Int) i W)
  obtain rfl | rfl | rfl | rfl : p = 0 ∨ p = 1 ∨ p = 2 ∨ p = 3 := by omega
  · rw [show Sh.act d c b i ⟨0, r⟩ = ⟨0, 0, 0, 0, 0⟩ from rfl, show Sh.more ⟨0, r⟩ = false from rfl]
    rw [show ((0 : Nat) : Int) = 0 from rfl] at c0
    go_enter Tryd.func8, Tryd.ntmps8
    go_wp2
    exact bodyPost_ret (v := .tuple #[av ⟨0, 0, 0, 0, 0⟩, .bool false]) (by simp [results, Tryd.results8, go_sem]) rfl ⟨rfl, HB.out _⟩
  · rw [show Sh.act d c b i ⟨1, r⟩ = ⟨2, d, c, 0, r / 8⟩ from rfl, show Sh.more ⟨1, r⟩ = true from rfl]
    rw [show ((1 : Nat) : Int) = 1 from rfl] at c0
    go_enter Tryd.func8, Tryd.ntmps8
    go_wp2
    have HD := Lib.hid ((HB.out (.cells #[.int .i64 0, .int .u64 0, .int .i64 0, .int .u64 0, .int .u64 0] 32)).drew)
    clear c0 c1 c2 c3 c4 c5
    refine wp_region_held_drew (S := fun w' => w'.cell? ⟨q, 1, none⟩ = some (.int .u64 (d : Int)) ∧ w'.cell? ⟨q, 2, none⟩ = some (.int .i64 c) ∧ w'.cell? ⟨q, 3, none⟩ = some (.int .u64 (r : Int))) (by kernel_rfl) ⟨(HH.out.below HD.out).c1, (HH.out.below HD.out).c2, (HH.out.below HD.out).c3⟩ (fun hS => ?_)
    refine wpAnyH_take (i := 0) (v := .pointer (some ⟨q, 0, none⟩)) rfl (by kernel_rfl) (by kernel_rfl) (by kernel_rfl) (fun _ _ _ h => h) (Or.inl ⟨by kernel_rfl, fun w hS => by kernel_rfl⟩) hS ?_
    refine wpAnyH_take (i := 1) (v := .pointer (some ⟨q, 0, none⟩)) rfl (by kernel_rfl) (by kernel_rfl) (by kernel_rfl) (fun _ _ _ h => h) (Or.inl ⟨by kernel_rfl, fun w hS => by kernel_rfl⟩) hS ?_
    refine wpAnyH_take (i := 2) (v := .pointer (some ⟨q, 1, none⟩)) rfl (by kernel_rfl) (by kernel_rfl) (by kernel_rfl) (fun _ _ _ h => h) (Or.inl ⟨by kernel_rfl, fun w hS => by kernel_rfl⟩) hS ?_
    refine wpAnyH_take (i := 3) (v := .int .u64 (d : Int)) rfl (by kernel_rfl) (by kernel_rfl) (by kernel_rfl) (fun _ _ _ h => h) (Or.inl ⟨by kernel_rfl, fun w hS => by obtain ⟨s1, s2, s3⟩ := hS; go_simp⟩) hS ?_
    refine wpAnyH_take (i := 4) (v := .pointer (some ⟨q, 0, none⟩)) rfl (by kernel_rfl) (by kernel_rfl) (by kernel_rfl) (fun _ _ _ h => h) (Or.inl ⟨by kernel_rfl, fun w hS => by kernel_rfl⟩) hS ?_
    refine wpAnyH_take (i := 5) (v := .pointer (some ⟨q, 0, none⟩)) rfl (by kernel_rfl) (by kernel_rfl) (by kernel_rfl) (fun _ _ _ h => h) (Or.inl ⟨by kernel_rfl, fun w hS => by kernel_rfl⟩) hS ?_
    refine wpAnyH_take (i := 6) (v := .pointer (some ⟨q, 2, none⟩)) rfl (by kernel_rfl) (by kernel_rfl) (by kernel_rfl) (fun _ _ _ h => h) (Or.inl ⟨by kernel_rfl, fun w hS => by kernel_rfl⟩) hS ?_
    refine wpAnyH_take (i := 7) (v := .int .i64 c) rfl (by kernel_rfl) (by kernel_rfl) (by kernel_rfl) (fun _ _ _ h => h) (Or.inl ⟨by kernel_rfl, fun w hS => by obtain ⟨s1, s2, s3⟩ := hS; go_simp⟩) hS ?_
    refine wpAnyH_take (i := 8) (v := .pointer (some ⟨q, 0, none⟩)) rfl (by kernel_rfl) (by kernel_rfl) (by kernel_rfl) (fun _ _ _ h => h) (Or.inl ⟨by kernel_rfl, fun w hS => by kernel_rfl⟩) hS ?_
    refine wpAnyH_take (i := 9) (v := .pointer (some ⟨q, 0, none⟩)) rfl (by kernel_rfl) (by kernel_rfl) (by kernel_rfl) (fun _ _ _ h => h) (Or.inl ⟨by kernel_rfl, fun w hS => by kernel_rfl⟩) hS ?_
    refine wpAnyH_take (i := 10) (v := .pointer (some ⟨q, 3, none⟩)) rfl (by kernel_rfl) (by kernel_rfl) (by kernel_rfl) (fun _ _ _ h => h) (Or.inl ⟨by kernel_rfl, fun w hS => by kernel_rfl⟩) hS ?_
    refine wpAnyH_take (i := 11) (v := .int .u64 (r : Int)) rfl (by kernel_rfl) (by kernel_rfl) (by kernel_rfl) (fun _ _ _ h => h) (Or.inl ⟨by kernel_rfl, fun w hS => by obtain ⟨s1, s2, s3⟩ := hS; go_simp⟩) hS ?_
    refine wpAnyH_ready (rs := [12]) (by kernel_rfl) (by simp) ?_
    refine AllReadyH.cons rfl (fun K hK => ?_) AllReadyH.nil
    go_simp
    go_at_call 20
    refine (HK.out _).mono ?_
    rintro e w1 ⟨rfl, hb1⟩
    obtain ⟨⟨g0, g1, g2, g3, g4⟩, ⟨e0, e1, e2, e3, e4⟩, hbb⟩ := abox (((Below.refl _ _).drew).trans (hb1.mono (Nat.le_refl _)))
    have HBB := Lib.hid hbb
    have HE := Lib.hid (HD.out.trans (hb1.mono HD.out.size))
    clear hbb hb1
    refine hK.out _ _ ⟨(HH.out.below HE.out).c1, (HH.out.below HE.out).c2, (HH.out.below HE.out).c3⟩ (fun hS => ?_)
    clear hK K
    refine wpAnyH_take (i := 13) (v := .agg #[.int .i64 2, .int .u64 (d : Int), .int .i64 c, .int .u64 0, .int .u64 ((r / 8 : Nat) : Int)]) rfl (by kernel_rfl) (by kernel_rfl) (by kernel_rfl) (fun _ _ _ h => h) (Or.inl ⟨by kernel_rfl, fun w hS => by kernel_rfl⟩) hS ?_
    refine wpAnyH_ready (rs := [14]) (by kernel_rfl) (by simp) ?_
    refine AllReadyH.cons rfl (fun K hK => ?_) AllReadyH.nil
    go_simp
    refine hK.out _ _ ⟨(HH.out.below (HBB.out _ _ _ _ _)).c1, (HH.out.below (HBB.out _ _ _ _ _)).c2, (HH.out.below (HBB.out _ _ _ _ _)).c3⟩ (fun hS => ?_)
    clear hK K
    refine wpAnyH_take (i := 15) (v := .bool true) rfl (by kernel_rfl) (by kernel_rfl) (by kernel_rfl) (fun _ _ _ h => h) (Or.inl ⟨by kernel_rfl, fun w hS => by kernel_rfl⟩) hS ?_
    refine wpAnyH_done (by kernel_rfl) ?_ _
    go_wp2
    exact bodyPost_ret (v := .tuple #[av ⟨2, d, c, 0, r / 8⟩, .bool true]) (by simp [results, Tryd.results8, go_sem, e0, e1, e2, e3, e4]) rfl ⟨rfl, HBB.out _ _ _ _ _⟩
  · rw [show Sh.act d c b i ⟨2, r⟩ = ⟨1, b, i, 0, 0⟩ from rfl, show Sh.more ⟨2, r⟩ = true from rfl]
    rw [show ((2 : Nat) : Int) = 2 from rfl] at c0
    go_enter Tryd.func8, Tryd.ntmps8
    go_wp2_with fail
    with_reducible refine (HL.out _).mono ?_
    rintro e w1 ⟨rfl, hb1⟩
    obtain ⟨⟨g0, g1, g2, g3, g4⟩, ⟨e0, e1, e2, e3, e4⟩, hbb⟩ := abox hb1
    have HBB := Lib.hid hbb
    clear hbb hb1
    obtain ⟨z, hz⟩ : ∃ z, z = w.heap.size := ⟨_, rfl⟩
    have HZ := Lib.hid hz
    rw [← hz] at e0 e1 e2 e3 e4 g0 g1 g2 g3 g4 ⊢
    clear hz
    go_wp2
    exact bodyPost_ret (v := .tuple #[av ⟨1, b, i, 0, 0⟩, .bool true]) (by simp [results, Tryd.results8, go_sem, e0, e1, e2, e3, e4]) rfl ⟨rfl, by rw [HZ.out]; exact HBB.out _ _ _ _ _⟩
  · rw [show Sh.act d c b i ⟨3, r⟩ = ⟨0, 0, 0, 0, 0⟩ from rfl, show Sh.more ⟨3, r⟩ = false from rfl]
    rw [show ((3 : Nat) : Int) = 3 from rfl] at c0
    go_enter Tryd.func8, Tryd.ntmps8
    go_wp2
    exact bodyPost_ret (v := .tuple #[av ⟨0, 0, 0, 0, 0⟩, .bool false]) (by simp [results, Tryd.results8, go_sem]) rfl ⟨rfl, HB.out _⟩
end Go.Proofs.YtjmgjgohllihdaaDoor
