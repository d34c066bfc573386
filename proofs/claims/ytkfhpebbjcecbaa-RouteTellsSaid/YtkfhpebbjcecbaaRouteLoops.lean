/-
  The walks of route.Group, and of the statements' own loop over the groups. By an AI agent.
-/
import Derived.Test.YtkfhpebbjcecbaaRouteIter
import Derived.Maps.OwnIn
namespace Go.Proofs.Ytkfhpebbjcecbaa
open Go.RowKit Go.Shelf
attribute [local go_sem] Oper.semAt_some
/-- What is handed back is a number; what was there lies as it lay. -/
def GivesInt (n : Int) (w : World) (e : Ending) (w' : World) : Prop := e = .returned (.int .i64 n) ∧ Below w.heap.size w w'
theorem func_nil (f : Nat) (cap : Array Value) (w : World) : (binOp .eql 34 (.func (.func f) #[] cap) .nilFunc).run Try.prog w = .ok (.bool false) w := by
  first | rfl | kernel_rfl | simp [binOp, go_sem]
set_option maxRecDepth 100000 in
set_option maxHeartbeats 2000000 in
theorem group_in (n : Nat) (hn : 5 ≤ n) (h : Nat) (hh : h ≤ 18446744073709551615) (log i : Int) (w : World) :
    CallsIn Fence.wide n Try.prog 7 #[.int .u64 (h : Int), .int .i64 log, .int .i64 i] w (GivesInt (Rt.gp h log i) w) := by
  have h1 : 1 ≤ n := by omega
  have hf : Fence.wide.fn 13 := trivial
  refine callsIn_of_wp_marks Try.func7 rfl trivial ?_ rfl
  simp only [Try.ntmps7, List.size_toArray, List.length_cons, List.length_nil, Nat.reduceAdd, Nat.reduceSub, Array.replicate_succ, Array.replicate_zero, List.push_toArray, List.append_toArray, List.nil_append, List.cons_append]
  gi_wp2_with (gi_at_call 13; refine (all_call (n - 1) _ _ _).mono ?_; rintro e w' ⟨rfl, rfl⟩)
  have b0 := Boxed.new w 3 (.int .i64 i)
  have b1 := Boxed.new (w.alloc (.cells #[.int .i64 i] 3)) 3 (.int .i64 0)
  have b2 := Boxed.new ((w.alloc (.cells #[.int .i64 i] 3)).alloc (.cells #[.int .i64 0] 3)) 3 (.int .i64 0)
  have b3 := Boxed.new (((w.alloc (.cells #[.int .i64 i] 3)).alloc (.cells #[.int .i64 0] 3)).alloc (.cells #[.int .i64 0] 3)) 22 (.int .u64 (h : Int))
  have b4 := Boxed.new ((((w.alloc (.cells #[.int .i64 i] 3)).alloc (.cells #[.int .i64 0] 3)).alloc (.cells #[.int .i64 0] 3)).alloc (.cells #[.int .u64 (h : Int)] 22)) 3 (.int .i64 log)
  simp only [World.size_alloc] at b1 b2 b3 b4
  have hB0 : Below w.heap.size w (((((w.alloc (.cells #[.int .i64 i] 3)).alloc (.cells #[.int .i64 0] 3)).alloc (.cells #[.int .i64 0] 3)).alloc (.cells #[.int .u64 (h : Int)] 22)).alloc (.cells #[.int .i64 log] 3)) := (((((Below.refl _ w).alloc (Nat.le_refl _) _).alloc (by simp) _).alloc (by simp; omega) _).alloc (by simp; omega) _).alloc (by simp; omega) _
  refine wpIn_rangeFunc_ownG rfl h1 (gf := 15) (lb := #[.pointer (some ⟨w.heap.size + 1 + 1 + 1 + 1, 0, none⟩), .pointer (some ⟨w.heap.size + 1 + 1 + 1, 0, none⟩)]) rfl trivial (enters_of Try.func15 (by kernel_rfl) rfl)
    (all_stops (n - 1) (by omega) log h hh (w.heap.size + 1 + 1 + 1 + 1) (w.heap.size + 1 + 1 + 1) _ (by simp) (by simp) b4.cell (b3.alloc _).cell) Kp2.t (fun W l o o' _ h hc _ => Kp2.b W l o o' h hc) (Below.refl _ _) (fun _ => rfl)
    (fun pre W => (((Boxed W w.heap.size 3 (.int .i64 i) ∧ Boxed W (w.heap.size + 1) 3 (.int .i64 0)) ∧ Boxed W (w.heap.size + 1 + 1) 3 (.int .i64 (pre.length : Int))) ∧ ¬ (0 ≤ i ∧ i < (pre.length : Int))) ∧ Below w.heap.size w W)
    (fun c pre W => (Boxed W (w.heap.size + 1) 3 (.int .i64 ((pre.getLastD 0 : Nat) : Int)) ∧ (c = .ret ∧ (pre.length : Int) = i + 1 ∧ 0 ≤ i)) ∧ Below w.heap.size w W)
    (OwnFrom.and (OwnFrom.and (OwnFrom.and (OwnFrom.and (Own.from (boxed_own _ _ (fun _ : List Nat => .int .i64 i)) _) (Own.from (boxed_own _ _ (fun _ : List Nat => .int .i64 0)) _)) (Own.from (boxed_own _ _ (fun pre : List Nat => .int .i64 (pre.length : Int))) _)) (ownFrom_pure _ (fun pre : List Nat => ¬ (0 ≤ i ∧ i < (pre.length : Int))))) (ownFrom_below (Nat.le_refl _) (by simp; omega)))
    (fun c => OwnFrom.and (OwnFrom.and (Own.from (boxed_own _ _ (fun pre : List Nat => .int .i64 ((pre.getLastD 0 : Nat) : Int))) _) (ownFrom_pure _ (fun pre : List Nat => c = .ret ∧ (pre.length : Int) = i + 1 ∧ 0 ≤ i))) (ownFrom_below (Nat.le_refl _) (by simp; omega)))
    ⟨⟨⟨⟨(((b0.alloc _).alloc _).alloc _).alloc _, ((b1.alloc _).alloc _).alloc _⟩, (b2.alloc _).alloc _⟩, by simp⟩, hB0⟩
    (fun k => { tmps := #[.int .u64 (h : Int), .int .i64 log, .int .i64 i, undef, undef, .pointer (some ⟨w.heap.size, 0, none⟩), .pointer (some ⟨w.heap.size + 1, 0, none⟩), .pointer (some ⟨w.heap.size + 1 + 1, 0, none⟩), .int .i64 (k : Int), .int .u64 (h : Int), .int .i64 log, .func (.func 15) #[] #[.pointer (some ⟨w.heap.size + 1 + 1 + 1 + 1, 0, none⟩), .pointer (some ⟨w.heap.size + 1 + 1 + 1, 0, none⟩)], .int .i64 (k : Int), undef, undef, undef, undef, undef, undef], defers := [] }) ?assign ?body ?done ?stop
  case assign =>
    intro l k W K hK
    gi_wp2
    exact hK
  case body =>
    rintro l pre k W ⟨⟨⟨⟨hv0, hv1⟩, hv2⟩, hno⟩, hB⟩ hlt
    have c0 := hv0.cell
    have c1 := hv1.cell
    have c2 := hv2.cell
    have f1 := hv1.frozen
    have f2 := hv2.frozen
    by_cases he : (pre.length : Int) = i
    · have he' : ((pre.length : Int) == i) = true := by simp [he]
      have He := Lib.hid he; clear he
      gi_wp2
      exact ⟨(KeepsOthers.setCell _ _ _).from _, ⟨by simpa using hv1.set (.int .i64 (k : Int)), rfl, by have := He.out; simp; omega, by have := He.out; omega⟩, hB.setCell (p := ⟨w.heap.size + 1, 0, none⟩) (by simp) _⟩
    · have he' : ((pre.length : Int) == i) = false := by simp [he]
      have He := Lib.hid he; clear he
      gi_wp2
      exact ⟨(KeepsOthers.setCell _ _ _).from _, Kp2.set _ _ (by omega) (by omega), ⟨⟨⟨hv0.other (by omega) _, hv1.other (by omega) _⟩, by have := hv2.set (.int .i64 ((pre.length : Int) + 1)); simpa using this⟩, by have := He.out; simp; omega⟩, hB.setCell (p := ⟨w.heap.size + 1 + 1, 0, none⟩) (by simp; omega) _⟩
  case done =>
    rintro D ys W hD hys ⟨⟨⟨⟨hv0, hv1⟩, hv2⟩, hno⟩, hB⟩ hK
    have hc := hv1.cell
    have hfz := hv1.frozen
    have hend : (-1 : Int) = Rt.gp h log i := (Rt.gp_out (by rw [hys, Rt.way_len] at hno; omega)).symm
    have Hys := Lib.hid hend; clear hend hys
    gi_wp2
    have hK' := (KeepsOthers.setCell W ⟨w.heap.size + 1, 0, none⟩ (.int .i64 (-1))).same D _ hK rfl
    refine ⟨by simp, .inl ⟨_, _, rfl, run_takeDeferred hK', ?_⟩⟩
    have hc5 := cell_kept (hv1.set (.int .i64 (-1))).cell (grownBy_putObj' _ D (.deferred none)) (fun r e => by cases e; exact ⟨_, hK', rfl⟩)
    refine ⟨.int .i64 (-1), ?_, ret_int Hys.out, (hB.setCell (p := ⟨w.heap.size + 1, 0, none⟩) (by simp) _).trans (belowK_b (w := w) (Nat.le_refl _) _ D _ _ (by simp at hD; omega) hK' rfl rfl)⟩
    simp [results, Try.f7, go_sem, hc5]
  case stop =>
    rintro D c pre W hD hpre ⟨⟨hv, rfl, hl, hi0⟩, hB⟩ hK
    have hend := Lib.hid (Rt.gp_last hpre hl hi0)
    gi_wp2
    refine ⟨by simp, .inl ⟨_, _, rfl, run_takeDeferred hK, ?_⟩⟩
    have hc5 := cell_kept hv.cell (grownBy_putObj' _ D (.deferred none)) (fun r e => by cases e; exact ⟨_, hK, rfl⟩)
    refine ⟨.int .i64 ((pre.getLastD 0 : Nat) : Int), ?_, ret_int hend.out, hB.trans (belowK_b (w := w) (Nat.le_refl _) W D _ _ (by simp at hD; omega) hK rfl rfl)⟩
    simp [results, Try.f7, go_sem, hc5]
/-- route.Group. -/
theorem group_any (h : Nat) (hh : h ≤ 18446744073709551615) (log i : Int) (w : World) : Calls Try.prog 7 #[.int .u64 (h : Int), .int .i64 log, .int .i64 i] w (GivesInt (Rt.gp h log i) w) :=
  (callsIn_wide (n := 9)).1 (group_in 9 (by omega) h hh log i w)
end Go.Proofs.Ytkfhpebbjcecbaa
