/-
  The walk of DeskTells. By an AI agent.
-/
import Derived.Test.YtinnachndnedlaaDoorDeskRight
import Derived.Deep.RegionHeld3
set_option linter.unusedSimpArgs false
set_option linter.unusedVariables false
namespace Go.Proofs.YtinnachndnedlaaDoor
open Go.RowKit
set_option maxRecDepth 100000 in
set_option maxHeartbeats 4000000 in
/-- DeskTells returns true. -/
theorem tells_walk (d t n k s m c : Int) (w : World) (h : Bd w) (h0 : 0 ≤ d) : Calls Tryd.prog 3 #[.agg #[.int .u64 d, .int .i64 t, .int .i64 n, .int .i64 k, .int .u64 s], .int .i64 m, .int .i64 c] w (Says true w) := by
  have HB := Lib.hid (boxed_below w d t n k s)
  have hb := h.below HB.out
  have H1 := Lib.hid (whose_any c _ hb)
  have H2 := Lib.hid (fun w => rwhose_any c w)
  have K1 := Lib.hid (fun w' (b : Below (boxed w d t n k s).heap.size (boxed w d t n k s) w') => right_any d t n k s w' (hb.below b))
  have K2 := Lib.hid (fun w' => rright_any d t n k s w' h0)
  have K3 := Lib.hid (fun w' (b : Below (boxed w d t n k s).heap.size (boxed w d t n k s) w') => size_any m w' (hb.below b))
  have K4 := Lib.hid (fun w' => rsize_any m w')
  have K5 := Lib.hid (fun w' (b : Below (boxed w d t n k s).heap.size (boxed w d t n k s) w') => table_any m w' (hb.below b))
  have K6 := Lib.hid (fun w' => rtable_any m w')
  have K7 := Lib.hid (fun w' (b : Below (boxed w d t n k s).heap.size (boxed w d t n k s) w') => box_any m w' (hb.below b))
  have K8 := Lib.hid (fun w' => rbox_any m w')
  have KW := Lib.hid (fun w' (b : Below (boxed w d t n k s).heap.size (boxed w d t n k s) w') => awake_any w' (hb.below b))
  have HK : Hid (∀ w' : World, Below (boxed w d t n k s).heap.size (boxed w d t n k s) w' → w'.cell? ⟨w.heap.size, 0, none⟩ = some (.int .u64 d) ∧ w'.cell? ⟨w.heap.size, 1, none⟩ = some (.int .i64 t) ∧ w'.cell? ⟨w.heap.size, 2, none⟩ = some (.int .i64 n) ∧ w'.cell? ⟨w.heap.size, 3, none⟩ = some (.int .i64 k) ∧ w'.cell? ⟨w.heap.size, 4, none⟩ = some (.int .u64 s)) := Lib.hid (fun w' hb' => boxed_cells hb')
  clear h hb h0
  unfold whoV at H1 H2
  generalize Dk.right d t n k = r at K1 K2
  generalize Dk.size m = s1 at K3 K4
  generalize Dk.tab m = s2 at K5 K6
  generalize Dk.box m = s3 at K7 K8
  generalize Dk.who c = u at H1 H2
  generalize Dk.isb c = v at H1 H2
  have q0 : (r == r) = true := by simp
  have q1 : (s1 == s1) = true := by simp
  have q2 : (s2 == s2) = true := by simp
  have q3 : (s3 == s3) = true := by simp
  have q4 : (u == u) = true := by simp
  have q5 : (v == v) = true := by simp
  go_enter Tryd.func3, Tryd.ntmps3
  go_wp2_with fail
  with_reducible refine H1.out.mono ?_
  rintro e w1 ⟨rfl, rfl⟩
  go_wp2_with fail
  with_reducible refine (H2.out _).mono ?_
  rintro e w1 ⟨rfl, rfl⟩
  go_wp2_with fail
  obtain ⟨W, hW⟩ : ∃ W, W = boxed w d t n k s := ⟨_, rfl⟩
  rw [← hW] at HB K1 K3 K5 K7 KW HK ⊢
  clear hW
  have D1 := Lib.hid HB.out
  obtain ⟨g0, g1, g2, g3, g4⟩ := HK.out W (Below.refl _ _)
  have B : Hid (Below W.heap.size W W.drew) := Lib.hid (Below.refl _ _).drew
  generalize w.heap.size = p at g0 g1 g2 g3 g4 HK ⊢
  go_region_held3 (fun w' => w'.cell? ⟨p, 0, none⟩ = some (.int .u64 d) ∧ w'.cell? ⟨p, 1, none⟩ = some (.int .i64 t) ∧ w'.cell? ⟨p, 2, none⟩ = some (.int .i64 n) ∧ w'.cell? ⟨p, 3, none⟩ = some (.int .i64 k) ∧ w'.cell? ⟨p, 4, none⟩ = some (.int .u64 s))
    (with_reducible exact HK.out _ B.out)
    (first
      | (go_at_call 7; (with_reducible refine (K1.out _ B.out).mono ?_); rintro e w3 ⟨rfl, b3⟩; have B := Lib.hid (B.out.trans (b3.mono B.out.size)); clear b3)
      | (go_at_call 8; (with_reducible refine (K2.out _).mono ?_); rintro e w3 ⟨rfl, b3⟩; have B := Lib.hid (B.out.trans (b3.mono B.out.size)); clear b3)
      | (go_at_call 9; (with_reducible refine (K3.out _ B.out).mono ?_); rintro e w3 ⟨rfl, rfl⟩)
      | (go_at_call 10; (with_reducible refine (K4.out _).mono ?_); rintro e w3 ⟨rfl, rfl⟩)
      | (go_at_call 11; (with_reducible refine (K5.out _ B.out).mono ?_); rintro e w3 ⟨rfl, rfl⟩)
      | (go_at_call 12; (with_reducible refine (K6.out _).mono ?_); rintro e w3 ⟨rfl, rfl⟩)
      | (go_at_call 13; (with_reducible refine (K7.out _ B.out).mono ?_); rintro e w3 ⟨rfl, rfl⟩)
      | (go_at_call 14; (with_reducible refine (K8.out _).mono ?_); rintro e w3 ⟨rfl, rfl⟩)
      | (go_at_call 15; (with_reducible refine (KW.out _ B.out).mono ?_); rintro e w3 ⟨rfl, b3⟩; have B := Lib.hid (B.out.trans (b3.mono B.out.size)); clear b3)
      | fail)
  go_wp2
  go_ret
  exact ⟨rfl, below_then HB.out B.out⟩
end Go.Proofs.YtinnachndnedlaaDoor
