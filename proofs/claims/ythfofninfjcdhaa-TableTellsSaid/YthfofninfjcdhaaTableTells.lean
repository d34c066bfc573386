/-
  The walk of TableTells. By an AI agent.
-/
import Derived.Test.YthfofninfjcdhaaTableLook
set_option linter.unusedSimpArgs false
set_option linter.unusedVariables false
namespace Go.Proofs.Ythfofninfjcdhaa
open Go.RowKit
/-- Both boxes of TableTells. -/
abbrev two (w : World) (d l n0 n1 : Int) : World := (boxed w d l).alloc (.cells #[.int .i64 n0, .int .i64 n1] 25)
theorem two_below (w : World) (d l n0 n1 : Int) : Below w.heap.size w (two w d l n0 n1) := (boxed_below w d l).alloc (by simp) _
theorem two_cells {w w' : World} {d l n0 n1 : Int} (h : Below (two w d l n0 n1).heap.size (two w d l n0 n1) w') : w'.cell? ⟨w.heap.size, 0, none⟩ = some (.int .u64 d) ∧ w'.cell? ⟨w.heap.size, 1, none⟩ = some (.int .i64 l) ∧ w'.cell? ⟨w.heap.size + 1, 0, none⟩ = some (.int .i64 n0) ∧ w'.cell? ⟨w.heap.size + 1, 1, none⟩ = some (.int .i64 n1) := by
  have e1 : (two w d l n0 n1).heap[w.heap.size]? = some (.cells #[.int .u64 d, .int .i64 l] 24 (0, 0)) := (Below.heap_alloc _ _ _ (by simp)).trans (heap_alloc_new w _)
  have e2 : (two w d l n0 n1).heap[w.heap.size + 1]? = some (.cells #[.int .i64 n0, .int .i64 n1] 25 (0, 0)) := by
    have := heap_alloc_new (boxed w d l) (.cells #[.int .i64 n0, .int .i64 n1] 25)
    rw [World.size_alloc] at this
    exact this
  have e1' := (h.block w.heap.size (by simp; omega)).trans e1
  have e2' := (h.block (w.heap.size + 1) (by simp)).trans e2
  refine ⟨?_, ?_, ?_, ?_⟩ <;> simp [World.cell?, e1', e2']
theorem heap_at {W w' : World} {cs : Array Value} {t : TypeId} (h : Below (W.alloc (.cells cs t)).heap.size (W.alloc (.cells cs t)) w') : w'.heap[W.heap.size]? = some (.cells cs t (0, 0)) := (h.block W.heap.size (by simp)).trans (heap_alloc_new W _)
set_option maxRecDepth 100000 in
set_option maxHeartbeats 4000000 in
/-- TableTells returns true. -/
theorem tells_walk (d l n0 n1 c : Int) (w : World) (h0 : 0 ≤ d) (c0 : -9223372036854775808 ≤ c) (c1 : c ≤ 9223372036854775807) (g0 : -9223372036854775808 ≤ n0) (g1 : n0 ≤ 9223372036854775807) (s0 : -9223372036854775808 ≤ n1) (s1 : n1 ≤ 9223372036854775807) :
    Calls Try.prog 3 #[.agg #[.int .u64 d, .int .i64 l], .agg #[.int .i64 n0, .int .i64 n1], .int .i64 c] w (Says true w) := by
  have HB := Lib.hid (two_below w d l n0 n1)
  have HK : Hid (∀ w' : World, Below (two w d l n0 n1).heap.size (two w d l n0 n1) w' → w'.cell? ⟨w.heap.size, 0, none⟩ = some (.int .u64 d) ∧ w'.cell? ⟨w.heap.size, 1, none⟩ = some (.int .i64 l) ∧ w'.cell? ⟨w.heap.size + 1, 0, none⟩ = some (.int .i64 n0) ∧ w'.cell? ⟨w.heap.size + 1, 1, none⟩ = some (.int .i64 n1)) := Lib.hid (fun w' hb' => two_cells hb')
  have H1 := Lib.hid (fun w => where_any l c w c0 c1)
  have H2 := Lib.hid (fun w => rwhere_any l c w c0 c1)
  have K1 := Lib.hid (fun w' => right_any d l w')
  have K2 := Lib.hid (fun w' => rright_any d l w' h0)
  have K3 := Lib.hid (fun w' => size_any l w')
  have K4 := Lib.hid (fun w' => rsize_any l w')
  have K5 := Lib.hid (fun w' => limit_any l w')
  have K6 := Lib.hid (fun w' => rlimit_any l w')
  have K7 := Lib.hid (fun w' => stripe_any c w')
  have K8 := Lib.hid (fun w' => rstripe_any c w')
  have K9 := Lib.hid (fun w' => group_any l n0 w' g0 g1)
  have K10 := Lib.hid (fun w' => rgroup_any l n0 w' g0 g1)
  have K11 := Lib.hid (fun w' => slot_any l n0 n1 w' g0 g1 s0 s1)
  have K12 := Lib.hid (fun w' => rslot_any l n0 n1 w' g0 g1 s0 s1)
  have KW := Lib.hid (fun w' => awake_any w')
  clear h0 c0 c1 g0 g1 s0 s1
  unfold pv at H1 H2
  generalize Tb.right d (Tb.grp l) = r at K1 K2
  generalize Tb.size (Tb.grp l) = x1 at K3 K4
  generalize (7 * (Tb.grp l : Int)) = x2 at K5 K6
  generalize Tb.strp c = x3 at K7 K8
  generalize Tb.gc (Tb.grp l) n0 = x4 at K9 K10
  generalize Tb.sc (Tb.grp l) n0 n1 = x5 at K11 K12
  generalize Tb.plc (Tb.grp l) c = pq at H1 H2
  obtain ⟨y0, y1, y2⟩ := pq
  dsimp only at H1 H2
  have q0 : (r == r) = true := by simp
  have q1 : (x1 == x1) = true := by simp
  have q2 : (x2 == x2) = true := by simp
  have q3 : (x3 == x3) = true := by simp
  have q4 : (x4 == x4) = true := by simp
  have q5 : (x5 == x5) = true := by simp
  have z0 : (y0 != y0) = false := by simp
  have z1 : (y1 != y1) = false := by simp
  have z2 : (y2 != y2) = false := by simp
  go_enter Try.func3, Try.ntmps3
  go_wp2_with fail
  obtain ⟨W0, hW0⟩ : ∃ W0, W0 = two w d l n0 n1 := ⟨_, rfl⟩
  dsimp only [two, boxed] at hW0 HB HK
  rw [← hW0] at HB HK ⊢
  clear hW0
  have hp1 := Lib.hid (HB.out.size)
  with_reducible refine (H1.out _).mono ?_
  rintro e w1 ⟨rfl, b1⟩
  have u1 : ∀ o : Obj, (w1.alloc o).cell? ⟨w.heap.size, 1, none⟩ = some (.int .i64 l) := fun o => (HK.out _ (b1.alloc b1.size o)).2.1
  have D1 := Lib.hid (b1.alloc b1.size (.cells #[.int .i64 y0, .int .i64 y1, .int .i64 y2] 27))
  have Q1 : Hid (∀ w', Below (w1.alloc (.cells #[.int .i64 y0, .int .i64 y1, .int .i64 y2] 27)).heap.size (w1.alloc (.cells #[.int .i64 y0, .int .i64 y1, .int .i64 y2] 27)) w' → w'.heap[w1.heap.size]? = some (.cells #[.int .i64 y0, .int .i64 y1, .int .i64 y2] 27 (0, 0))) := Lib.hid (fun w' hb => heap_at hb)
  clear b1
  go_wp2_with fail
  with_reducible refine (H2.out _).mono ?_
  rintro e w2 ⟨rfl, b2⟩
  have D2 := Lib.hid (below_then D1.out (b2.alloc b2.size (.cells #[.int .i64 y0, .int .i64 y1, .int .i64 y2] 29)))
  have v0 : ∀ o : Obj, (w2.alloc o).cell? ⟨w1.heap.size, 0, none⟩ = some (.int .i64 y0) := fun o => by simp [World.cell?, Q1.out _ (b2.alloc b2.size o)]
  have v1 : ∀ o : Obj, (w2.alloc o).cell? ⟨w1.heap.size, 1, none⟩ = some (.int .i64 y1) := fun o => by simp [World.cell?, Q1.out _ (b2.alloc b2.size o)]
  have v2 : ∀ o : Obj, (w2.alloc o).cell? ⟨w1.heap.size, 2, none⟩ = some (.int .i64 y2) := fun o => by simp [World.cell?, Q1.out _ (b2.alloc b2.size o)]
  clear b2 u1
  generalize w1.heap.size = pp at v0 v1 v2 Q1 ⊢
  go_wp2_with fail
  clear v0 v1 v2 Q1
  obtain ⟨W2, hW2⟩ : ∃ W2, W2 = w2.alloc (.cells #[.int .i64 y0, .int .i64 y1, .int .i64 y2] 29) := ⟨_, rfl⟩
  rw [← hW2] at D2 ⊢
  generalize w2.heap.size = pq
  clear hW2
  have HK2 : Hid (∀ w' : World, Below W2.heap.size W2 w' → w'.cell? ⟨w.heap.size, 0, none⟩ = some (.int .u64 d) ∧ w'.cell? ⟨w.heap.size, 1, none⟩ = some (.int .i64 l) ∧ w'.cell? ⟨w.heap.size + 1, 0, none⟩ = some (.int .i64 n0) ∧ w'.cell? ⟨w.heap.size + 1, 1, none⟩ = some (.int .i64 n1)) := Lib.hid (fun w' hb => HK.out w' (below_then D2.out hb))
  have D3 := Lib.hid (below_then HB.out D2.out)
  clear HK D1 D2 HB hp1
  obtain ⟨g0, g1, g2, g3⟩ := HK2.out W2 (Below.refl _ _)
  have B : Hid (Below W2.heap.size W2 W2.drew) := Lib.hid (Below.refl _ _).drew
  generalize hp : w.heap.size = p at g0 g1 g2 g3 HK2 ⊢
  clear hp
  go_region_held3 (fun w' => w'.cell? ⟨p, 0, none⟩ = some (.int .u64 d) ∧ w'.cell? ⟨p, 1, none⟩ = some (.int .i64 l) ∧ w'.cell? ⟨p + 1, 0, none⟩ = some (.int .i64 n0) ∧ w'.cell? ⟨p + 1, 1, none⟩ = some (.int .i64 n1))
    (with_reducible exact HK2.out _ B.out)
    (first
      | (go_at_call 7; (with_reducible refine (K1.out _).mono ?_); rintro e w3 ⟨rfl, b3⟩; have B := Lib.hid (B.out.trans (b3.mono B.out.size)); clear b3)
      | (go_at_call 8; (with_reducible refine (K2.out _).mono ?_); rintro e w3 ⟨rfl, b3⟩; have B := Lib.hid (B.out.trans (b3.mono B.out.size)); clear b3)
      | (go_at_call 9; (with_reducible refine (K3.out _).mono ?_); rintro e w3 ⟨rfl, rfl⟩)
      | (go_at_call 10; (with_reducible refine (K4.out _).mono ?_); rintro e w3 ⟨rfl, rfl⟩)
      | (go_at_call 11; (with_reducible refine (K5.out _).mono ?_); rintro e w3 ⟨rfl, rfl⟩)
      | (go_at_call 12; (with_reducible refine (K6.out _).mono ?_); rintro e w3 ⟨rfl, rfl⟩)
      | (go_at_call 13; (with_reducible refine (K7.out _).mono ?_); rintro e w3 ⟨rfl, rfl⟩)
      | (go_at_call 14; (with_reducible refine (K8.out _).mono ?_); rintro e w3 ⟨rfl, rfl⟩)
      | (go_at_call 15; (with_reducible refine (K9.out _).mono ?_); rintro e w3 ⟨rfl, b3⟩; have B := Lib.hid (B.out.trans (b3.mono B.out.size)); clear b3)
      | (go_at_call 16; (with_reducible refine (K10.out _).mono ?_); rintro e w3 ⟨rfl, rfl⟩)
      | (go_at_call 17; (with_reducible refine (K11.out _).mono ?_); rintro e w3 ⟨rfl, b3⟩; have B := Lib.hid (B.out.trans (b3.mono B.out.size)); clear b3)
      | (go_at_call 18; (with_reducible refine (K12.out _).mono ?_); rintro e w3 ⟨rfl, rfl⟩)
      | (go_at_call 19; (with_reducible refine (KW.out _).mono ?_); rintro e w3 ⟨rfl, b3⟩; have B := Lib.hid (B.out.trans (b3.mono B.out.size)); clear b3)
      | fail)
  go_wp2
  go_ret
  exact ⟨rfl, below_then D3.out B.out⟩
end Go.Proofs.Ythfofninfjcdhaa
