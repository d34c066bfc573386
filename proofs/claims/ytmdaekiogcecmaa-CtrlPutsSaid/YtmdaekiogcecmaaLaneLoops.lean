/-
  The walk of lane.Fill. By an AI agent.
-/
import Derived.Test.YtmdaekiogcecmaaLaneIter
import Derived.Maps.OwnIn
namespace Go.Proofs.Ytmdaekiogcecmaa
open Go.RowKit Go.Shelf
attribute [local go_sem] Oper.semAt_some
set_option maxRecDepth 100000 in
set_option maxHeartbeats 2000000 in
theorem fill_in (n : Nat) (hn : 5 ≤ n) (x a t : Int) (hx0 : 0 ≤ x) (hx1 : x ≤ 18446744073709551615) (w : World) :
    CallsIn Fence.wide n Try.prog 23 #[.int .u64 x, .int .i64 a, .int .i64 t] w (GivesWord (Ln.fil x a t) w) := by
  have h1 : 1 ≤ n := by omega
  have h2 : 1 ≤ n - 1 - 1 := by omega
  have hf : Fence.wide.fn 29 := trivial
  have hf8 : Fence.wide.fn 21 := trivial
  refine callsIn_of_wp_marks Try.func23 rfl trivial ?_ rfl
  simp only [Try.ntmps23, List.size_toArray, List.length_cons, List.length_nil, Nat.reduceAdd, Nat.reduceSub, Array.replicate_succ, Array.replicate_zero, List.push_toArray, List.append_toArray, List.nil_append, List.cons_append]
  gi_wp2_with (gi_at_call 29; refine (places_call (n - 1) _ _ _).mono ?_; rintro e w' ⟨rfl, rfl⟩)
  have b0 := Boxed.new w 3 (.int .i64 t)
  have b1 := Boxed.new (w.alloc (.cells #[.int .i64 t] 3)) 22 (.int .u64 x)
  have b2 := Boxed.new ((w.alloc (.cells #[.int .i64 t] 3)).alloc (.cells #[.int .u64 x] 22)) 22 (.int .u64 x)
  have b3 := Boxed.new (((w.alloc (.cells #[.int .i64 t] 3)).alloc (.cells #[.int .u64 x] 22)).alloc (.cells #[.int .u64 x] 22)) 3 (.int .i64 a)
  simp only [World.size_alloc] at b1 b2 b3
  have hB0 : Below w.heap.size w ((((w.alloc (.cells #[.int .i64 t] 3)).alloc (.cells #[.int .u64 x] 22)).alloc (.cells #[.int .u64 x] 22)).alloc (.cells #[.int .i64 a] 3)) := ((((Below.refl _ w).alloc (Nat.le_refl _) _).alloc (by simp) _).alloc (by simp; omega) _).alloc (by simp; omega) _
  refine wpIn_rangeFunc_ownG rfl h1 (gf := 31) (lb := #[.pointer (some ⟨w.heap.size + 1 + 1, 0, none⟩), .pointer (some ⟨w.heap.size + 1 + 1 + 1, 0, none⟩)]) rfl trivial (enters_of Try.func31 (by kernel_rfl) rfl)
    (places_stops (n - 1) (by omega) x a hx0 hx1 (w.heap.size + 1 + 1) (w.heap.size + 1 + 1 + 1) _ (by simp) (by simp) (b2.alloc _).cell b3.cell) Kp2.t (fun W l o o' _ h hc _ => Kp2.b W l o o' h hc) (Below.refl _ _) (fun _ => rfl)
    (fun pre W => (Boxed W w.heap.size 3 (.int .i64 t) ∧ Boxed W (w.heap.size + 1) 22 (.int .u64 (Ln.filL t x pre))) ∧ Below w.heap.size w W)
    (fun _ _ _ => False)
    (OwnFrom.and (OwnFrom.and (Own.from (boxed_own _ _ (fun _ : List Nat => .int .i64 t)) _) (Own.from (boxed_own _ _ (fun pre : List Nat => .int .u64 (Ln.filL t x pre))) _)) (ownFrom_below (Nat.le_refl _) (by simp; omega)))
    (fun _ _ _ _ _ hs _ _ => hs)
    ⟨⟨((b0.alloc _).alloc _).alloc _, (b1.alloc _).alloc _⟩, hB0⟩
    (fun k => { tmps := #[.int .u64 x, .int .i64 a, .int .i64 t, undef, undef, .pointer (some ⟨w.heap.size, 0, none⟩), .int .u64 0, .pointer (some ⟨w.heap.size + 1, 0, none⟩), .int .i64 (k : Int), .int .u64 x, .int .u64 x, .int .i64 a, .func (.func 31) #[] #[.pointer (some ⟨w.heap.size + 1 + 1, 0, none⟩), .pointer (some ⟨w.heap.size + 1 + 1 + 1, 0, none⟩)], .int .i64 (k : Int), undef, undef, undef, undef, undef], defers := [] }) ?assign ?body ?done ?stop
  case assign =>
    intro l k W K hK
    gi_wp2
    exact hK
  case body =>
    rintro l pre k W ⟨⟨ht, hv⟩, hB⟩ hlt
    have hct := ht.cell
    have hc := hv.cell
    have hfz := hv.frozen
    obtain ⟨f0, f1⟩ := Ln.filL_bd (x := x) t pre hx0 hx1
    gi_wp2_with (gi_at_call 21; refine (CallsIn.inRound l (callsIn_wide.2 (with_any _ _ _ _ f0 f1))).mono ?_; rintro e w' ⟨rfl, rfl⟩)
    exact ⟨(KeepsOthers.setCell _ _ _).from _, Kp2.set _ _ (by omega) (by omega), ⟨ht.other (by omega) _, by rw [Ln.filL_snoc]; exact hv.set _⟩, hB.setCell (p := ⟨w.heap.size + 1, 0, none⟩) (by simp) _⟩
  case done =>
    rintro D ys W hD rfl ⟨⟨ht, hv⟩, hB⟩ hK
    have hc := hv.cell
    gi_wp2
    refine ⟨by simp, .inl ⟨_, _, rfl, run_takeDeferred hK, ?_⟩⟩
    exact ⟨_, results_tmp rfl _ _ _, rfl, hB.trans (belowK_b (w := w) (Nat.le_refl _) W D _ _ (by simp at hD; omega) hK rfl rfl)⟩
  case stop =>
    rintro D c pre W _ _ h _
    exact h.elim
theorem fill_any (x a t : Int) (hx0 : 0 ≤ x) (hx1 : x ≤ 18446744073709551615) (w : World) : Calls Try.prog 23 #[.int .u64 x, .int .i64 a, .int .i64 t] w (GivesWord (Ln.fil x a t) w) :=
  (callsIn_wide (n := 9)).1 (fill_in 9 (by omega) x a t hx0 hx1 w)
end Go.Proofs.Ytmdaekiogcecmaa
