/-
  The walks of Note, the program's and the document's. By an AI agent.
-/
import Derived.Test.YtknefjigdlbacaaGreatDoorCwBase
set_option linter.unusedSimpArgs false
set_option linter.unusedVariables false
namespace Go.Proofs.YtknefjigdlbacaaGreatDoor
open Go.RowKit Go.Maps
open Ac (A)
/-! ### Note -/
set_option maxRecDepth 100000 in
set_option maxHeartbeats 4000000 in
/-- crowd.Note. -/
theorem cnote_any (d : Nat) (l t : Int) (w : World) : Calls Tryz.prog 30 #[.agg #[.int .u64 (d : Int), .int .i64 l], .int .i64 t] w (Gives (av ⟨4, d, Tb.strp t, 0, 1⟩) w) := by
  have HB := Lib.hid (tboxed_below w (d : Int) l)
  have KS := Lib.hid (fun W => stripe_any t W)
  obtain ⟨W, hW⟩ : ∃ W, W = (zact (tboxed w (d : Int) l)).drew := ⟨_, rfl⟩
  have hc := (tboxed_cells (w := w) (w' := W) (d := (d : Int)) (l := l) (by rw [hW]; exact (zact_below (tboxed w (d : Int) l)).trans ((Below.refl _ (zact (tboxed w (d : Int) l))).drew.mono (zact_below _).size))).1
  obtain ⟨⟨g0, g1, g2, g3, g4⟩, ⟨e0, e1, e2, e3, e4⟩, hbb⟩ := abox (w := tboxed w (d : Int) l) (w1 := W) (by rw [hW]; exact (Below.refl _ (zact (tboxed w (d : Int) l))).drew)
  have hsz : (tboxed w (d : Int) l).heap.size = w.heap.size + 1 := World.size_alloc _ _
  obtain ⟨y, hy⟩ : ∃ y, y = w.heap.size := ⟨_, rfl⟩
  obtain ⟨z, hz⟩ : ∃ z, z = y + 1 := ⟨_, rfl⟩
  have hs : y < z := by omega
  rw [hsz, ← hy, ← hz] at g0 g1 g2 g3 g4 e0 e1 e2 e3 e4 hbb
  rw [← hy] at hc
  have HBB := Lib.hid hbb
  have hc0 := (tboxed_cells (w := w) (w' := tboxed w (d : Int) l) (d := (d : Int)) (l := l) (Below.refl _ _)).1
  rw [← hy] at hc0
  have HN := Lib.hid (fun v0 v1 v2 v3 v4 => ((hbb v0 v1 v2 v3 v4).cell (p := ⟨y, 0, none⟩) hs).trans hc0)
  clear hc0
  have HS := Lib.hid hs
  have hyz : (y == z) = false := by simp; omega
  clear hbb hs
  generalize hcc : Tb.strp t = c at KS ⊢
  clear hcc
  go_enter Tryz.func30, Tryz.ntmps30
  go_wp2
  refine wp_region_held_drew (S := fun w' => w'.cell? ⟨y, 0, none⟩ = some (.int .u64 (d : Int))) (by kernel_rfl) (by rw [show (w.alloc _ |>.alloc _).drew = W from hW.symm]; exact hc) (fun hS => ?_)
  revert hS
  rw [show ((w.alloc (.cells #[.int .u64 (d : Int), .int .i64 l] 24)).alloc (.cells #[.int .i64 0, .int .u64 0, .int .i64 0, .int .u64 0, .int .u64 0] 35)).drew = W from hW.symm, ← hy, ← hz]
  intro hS
  have HY := Lib.hid (show (tboxed w (d : Int) l).heap.size = z by omega)
  clear hW hy hz hsz hyz
  refine wpAnyH_take (i := 0) (v := .pointer (some ⟨y, 0, none⟩)) rfl (by kernel_rfl) (by kernel_rfl) (by kernel_rfl) (fun _ _ _ h => h) (Or.inl ⟨by kernel_rfl, fun w hS => by kernel_rfl⟩) hS ?_
  refine wpAnyH_take (i := 1) (v := .int .u64 (d : Int)) rfl (by kernel_rfl) (by kernel_rfl) (by kernel_rfl) (fun _ _ _ h => h) (Or.inl ⟨by kernel_rfl, fun w hS => by go_simp⟩) hS ?_
  refine wpAnyH_take (i := 2) (v := .int .i64 t) rfl (by kernel_rfl) (by kernel_rfl) (by kernel_rfl) (fun _ _ _ h => h) (Or.inl ⟨by kernel_rfl, fun w hS => by kernel_rfl⟩) hS ?_
  refine wpAnyH_ready (rs := [3]) (by kernel_rfl) (by simp) ?_
  refine AllReadyH.cons rfl (fun K hK => ?_) AllReadyH.nil
  go_simp
  go_at_call 79
  refine (KS.out _).mono ?_
  rintro e w3 ⟨rfl, rfl⟩
  refine hK.out _ _ hS (fun hS => ?_)
  clear hK K
  refine wpAnyH_take (i := 4) (v := .agg #[.int .i64 4, .int .u64 (d : Int), .int .i64 c, .int .u64 0, .int .u64 1]) rfl (by kernel_rfl) (by kernel_rfl) (by kernel_rfl) (fun _ _ _ h => h) (Or.inl ⟨by kernel_rfl, fun w hS => by kernel_rfl⟩) hS ?_
  refine wpAnyH_ready (rs := [5]) (by kernel_rfl) (by simp) ?_
  refine AllReadyH.cons rfl (fun K hK => ?_) AllReadyH.nil
  go_simp
  refine hK.out _ _ (HN.out _ _ _ _ _) (fun hS => ?_)
  clear hK K
  refine wpAnyH_done (by kernel_rfl) ?_ _
  go_wp2
  exact bodyPost_ret (v := av ⟨4, d, c, 0, 1⟩) (by simp [results, Tryz.results30, go_sem, e0, e1, e2, e3, e4]) rfl ⟨rfl, HB.out.trans ((HBB.out _ _ _ _ _).mono (by have := HB.out.size; have := HY.out; omega))⟩
set_option maxRecDepth 100000 in
set_option maxHeartbeats 4000000 in
/-- The document's Note. -/
theorem rnote_any (d : Nat) (l t : Int) (w : World) : Calls Tryz.prog 54 #[.agg #[.int .u64 (d : Int), .int .i64 l], .int .i64 t] w (Gives (av ⟨4, d, Tb.strp t, 0, 1⟩) w) := by
  have HB := Lib.hid (tboxed_below w (d : Int) l)
  have KS := Lib.hid (fun W => rstripe_any t W)
  obtain ⟨W, hW⟩ : ∃ W, W = (zact (tboxed w (d : Int) l)).drew := ⟨_, rfl⟩
  have hc := (tboxed_cells (w := w) (w' := W) (d := (d : Int)) (l := l) (by rw [hW]; exact (zact_below (tboxed w (d : Int) l)).trans ((Below.refl _ (zact (tboxed w (d : Int) l))).drew.mono (zact_below _).size))).1
  obtain ⟨⟨g0, g1, g2, g3, g4⟩, ⟨e0, e1, e2, e3, e4⟩, hbb⟩ := abox (w := tboxed w (d : Int) l) (w1 := W) (by rw [hW]; exact (Below.refl _ (zact (tboxed w (d : Int) l))).drew)
  have hsz : (tboxed w (d : Int) l).heap.size = w.heap.size + 1 := World.size_alloc _ _
  obtain ⟨y, hy⟩ : ∃ y, y = w.heap.size := ⟨_, rfl⟩
  obtain ⟨z, hz⟩ : ∃ z, z = y + 1 := ⟨_, rfl⟩
  have hs : y < z := by omega
  rw [hsz, ← hy, ← hz] at g0 g1 g2 g3 g4 e0 e1 e2 e3 e4 hbb
  rw [← hy] at hc
  have HBB := Lib.hid hbb
  have hc0 := (tboxed_cells (w := w) (w' := tboxed w (d : Int) l) (d := (d : Int)) (l := l) (Below.refl _ _)).1
  rw [← hy] at hc0
  have HN := Lib.hid (fun v0 v1 v2 v3 v4 => ((hbb v0 v1 v2 v3 v4).cell (p := ⟨y, 0, none⟩) hs).trans hc0)
  clear hc0
  have HS := Lib.hid hs
  have hyz : (y == z) = false := by simp; omega
  clear hbb hs
  generalize hcc : Tb.strp t = c at KS ⊢
  clear hcc
  go_enter Tryz.func54, Tryz.ntmps54
  go_wp2
  refine wp_region_held_drew (S := fun w' => w'.cell? ⟨y, 0, none⟩ = some (.int .u64 (d : Int))) (by kernel_rfl) (by rw [show (w.alloc _ |>.alloc _).drew = W from hW.symm]; exact hc) (fun hS => ?_)
  revert hS
  rw [show ((w.alloc (.cells #[.int .u64 (d : Int), .int .i64 l] 24)).alloc (.cells #[.int .i64 0, .int .u64 0, .int .i64 0, .int .u64 0, .int .u64 0] 35)).drew = W from hW.symm, ← hy, ← hz]
  intro hS
  have HY := Lib.hid (show (tboxed w (d : Int) l).heap.size = z by omega)
  clear hW hy hz hsz hyz
  refine wpAnyH_take (i := 0) (v := .pointer (some ⟨y, 0, none⟩)) rfl (by kernel_rfl) (by kernel_rfl) (by kernel_rfl) (fun _ _ _ h => h) (Or.inl ⟨by kernel_rfl, fun w hS => by kernel_rfl⟩) hS ?_
  refine wpAnyH_take (i := 1) (v := .int .u64 (d : Int)) rfl (by kernel_rfl) (by kernel_rfl) (by kernel_rfl) (fun _ _ _ h => h) (Or.inl ⟨by kernel_rfl, fun w hS => by go_simp⟩) hS ?_
  refine wpAnyH_take (i := 2) (v := .int .i64 t) rfl (by kernel_rfl) (by kernel_rfl) (by kernel_rfl) (fun _ _ _ h => h) (Or.inl ⟨by kernel_rfl, fun w hS => by kernel_rfl⟩) hS ?_
  refine wpAnyH_ready (rs := [3]) (by kernel_rfl) (by simp) ?_
  refine AllReadyH.cons rfl (fun K hK => ?_) AllReadyH.nil
  go_simp
  go_at_call 106
  refine (KS.out _).mono ?_
  rintro e w3 ⟨rfl, rfl⟩
  refine hK.out _ _ hS (fun hS => ?_)
  clear hK K
  refine wpAnyH_take (i := 4) (v := .agg #[.int .i64 4, .int .u64 (d : Int), .int .i64 c, .int .u64 0, .int .u64 1]) rfl (by kernel_rfl) (by kernel_rfl) (by kernel_rfl) (fun _ _ _ h => h) (Or.inl ⟨by kernel_rfl, fun w hS => by kernel_rfl⟩) hS ?_
  refine wpAnyH_ready (rs := [5]) (by kernel_rfl) (by simp) ?_
  refine AllReadyH.cons rfl (fun K hK => ?_) AllReadyH.nil
  go_simp
  refine hK.out _ _ (HN.out _ _ _ _ _) (fun hS => ?_)
  clear hK K
  refine wpAnyH_done (by kernel_rfl) ?_ _
  go_wp2
  exact bodyPost_ret (v := av ⟨4, d, c, 0, 1⟩) (by simp [results, Tryz.results54, go_sem, e0, e1, e2, e3, e4]) rfl ⟨rfl, HB.out.trans ((HBB.out _ _ _ _ _).mono (by have := HB.out.size; have := HY.out; omega))⟩
end Go.Proofs.YtknefjigdlbacaaGreatDoor
