/-
  Several texts in one: The walks of route.All: the function that hands the groups out, for whatever loop body; The walks of route.Group, and of the statements' own loop over the groups; A seek as a block; the walks of what it makes of its own cells alone. By an AI agent.
-/
import Derived.RangeFuncNested
import Derived.RangeFuncBound
import Derived.RangeFuncCalls
import Derived.RangeFuncLeaves
import Derived.RangeFuncBox
import Derived.Shelf.Abstract
import Derived.Shelf.RegionOpen
import Derived.WalkKit
import Derived.OwnWalkIn
import Derived.TacticsInMore
import Derived.LoopNIn
import Derived.LoopIn
import Derived.Test.YtknefjigdlbacaaGreatDoorSkFAU
import Derived.Maps.OwnIn
import Derived.Test.YtknefjigdlbacaaGreatDoorSkFAF
import Derived.Test.YtknefjigdlbacaaGreatDoorSkFAM
import Derived.Test.YtknefjigdlbacaaGreatDoorSkFAN
import Derived.Test.YtknefjigdlbacaaGreatDoorSkFAT
import Derived.Test.YtknefjigdlbacaaGreatDoorSkFAJ
import Derived.Deep.RegionHeld3
namespace Go.Proofs.YtknefjigdlbacaaGreatDoor
open Go.RowKit Go.Shelf
attribute [local go_sem] Oper.semAt_some
/-- What the iterator wants kept: the cells of its two boxes. -/
def Kp2 (a b : Nat) (W W' : World) : Prop := (∀ v, W.cell? ⟨a, 0, none⟩ = some v → W'.cell? ⟨a, 0, none⟩ = some v) ∧ (∀ v, W.cell? ⟨b, 0, none⟩ = some v → W'.cell? ⟨b, 0, none⟩ = some v)
theorem Kp2.t {a b : Nat} {A B C : World} (h : Kp2 a b A B) (k : Kp2 a b B C) : Kp2 a b A C := ⟨fun v hv => k.1 v (h.1 v hv), fun v hv => k.2 v (h.2 v hv)⟩
theorem Kp2.refl (a b : Nat) (W : World) : Kp2 a b W W := ⟨fun _ h => h, fun _ h => h⟩
theorem Kp2.b {a b : Nat} (W : World) (l : Nat) (o o' : Obj) (h : W.heap[l]? = some o) (hc : o.isCells = false) : Kp2 a b W (W.putObj l o') :=
  ⟨fun _ hv => cell_kept hv (grownBy_putObj' W l o') (fun r e => by cases e; exact ⟨o, h, hc⟩), fun _ hv => cell_kept hv (grownBy_putObj' W l o') (fun r e => by cases e; exact ⟨o, h, hc⟩)⟩
theorem Kp2.below {a b n : Nat} {W W' : World} (h : Below n W W') (ha : a < n) (hb : b < n) : Kp2 a b W W' :=
  ⟨fun _ hv => (h.cell (p := ⟨a, 0, none⟩) ha).trans hv, fun _ hv => (h.cell (p := ⟨b, 0, none⟩) hb).trans hv⟩
theorem Kp2.set {a b c : Nat} (W : World) (u : Value) (ha : a ≠ c) (hb : b ≠ c) : Kp2 a b W (W.setCell ⟨c, 0, none⟩ u) :=
  ⟨fun _ hv => (World.cell?_setCell_other W ⟨c, 0, none⟩ ⟨a, 0, none⟩ u (fun e => ha (by cases e; rfl))).trans hv, fun _ hv => (World.cell?_setCell_other W ⟨c, 0, none⟩ ⟨b, 0, none⟩ u (fun e => hb (by cases e; rfl))).trans hv⟩
theorem grownBy_drew (W : World) : W.grownBy W.drew none := ⟨rfl, rfl, rfl, Nat.le_refl _, fun _ _ _ => rfl⟩
theorem grownBy_drewN (W : World) (n : Nat) : W.grownBy (W.drewN n) none := ⟨rfl, rfl, rfl, Nat.le_refl _, fun _ _ _ => rfl⟩
/-- How a round ends: it goes on, or it says that it wants no more. -/
def Went (a b : Nat) (J Jx : List Nat → World → Prop) (pre : List Nat) (W : World) (t : Bool) (W' : World) : Prop := (t = true ∧ J pre W' ∧ Kp2 a b W W') ∨ (t = false ∧ Jx pre W')
theorem sum_pred (s k : Nat) : s + Rt.tri (k - 1) + k = s + Rt.tri k := by
  cases k with
  | zero => rfl
  | succ k => simp only [Nat.add_sub_cancel, Rt.tri]; omega
set_option maxRecDepth 100000 in
set_option maxHeartbeats 1000000 in
theorem all1_in (n l B1 B2 : Nat) (hn : 1 ≤ n) (log : Int) (h : Nat) (hh : h ≤ 18446744073709551615) (J Jx : List Nat → World → Prop) (W : World) (hJ : AbidesFrom W.heap.size J)
    (hY : ∀ pre (k : Nat) W1, J pre W1 → pre.length < 512 → YieldAt Fence.wide (n - 1) Tryz.prog l #[.int .i64 (k : Int)] W1 fun e W' =>
      (e = .returned (.bool true) ∧ J (pre ++ [k]) W' ∧ Kp2 B1 B2 W1 W') ∨ (e = .returned (.bool false) ∧ Jx (pre ++ [k]) W'))
    (h1 : W.cell? ⟨B1, 0, none⟩ = some (.int .i64 log)) (h2 : W.cell? ⟨B2, 0, none⟩ = some (.int .u64 (h : Int))) (h0 : J [] W) :
    CallsIn Fence.wide n Tryz.prog 149 #[.func (.yield l) #[] #[], .pointer (some ⟨B1, 0, none⟩), .pointer (some ⟨B2, 0, none⟩)] W fun e W' => (∃ v, e = .returned v) ∧
      ((∃ ys, ys = Rt.way (h / 128) (Rt.grp log) ∧ J ys W') ∨ (∃ pre, pre <+: Rt.way (h / 128) (Rt.grp log) ∧ Jx pre W')) := by
  have hf5 : Fence.wide.fn 70 := trivial
  have hf16 : Fence.wide.fn 150 := trivial
  have hmix : Tryz.prog.follows .mixedOrders = true := by kernel_rfl
  have hg := Rt.grp_le log
  unfold Rt.way
  obtain ⟨m, hm⟩ : ∃ m, m = Rt.grp log := ⟨_, rfl⟩
  rw [← hm] at hg ⊢
  have Hm := Lib.hid hm; clear hm
  obtain ⟨s, hs⟩ : ∃ s, s = h / 128 := ⟨_, rfl⟩
  have hsI : (h : Int) / 128 = (s : Int) := by omega
  rw [← hs]
  have hs1 : s ≤ 144115188075855872 := by omega
  have HsI := Lib.hid hsI; clear hsI hs
  refine callsIn_of_wp Tryz.func149 rfl trivial ?_ rfl
  simp only [Tryz.ntmps149, List.size_toArray, List.length_cons, List.length_nil, Nat.reduceAdd, Nat.reduceSub, Array.replicate_succ, Array.replicate_zero, List.push_toArray, List.append_toArray, List.nil_append, List.cons_append]
  gi_wp2_with (first | (gi_at_call 70; refine (callsIn_wide.2 (rtgroups_any _ _)).mono ?_; rintro e w' ⟨rfl, rfl⟩; rw [← Hm.out]) | (gi_at_call 150; refine (callsIn_wide.2 (start_any _ _)).mono ?_; rintro e w' ⟨rfl, rfl⟩; rw [HsI.out]))
  gi_loopw [5, 6, 13] (fun a _ i wr => ∃ k : Nat, k ≤ m ∧ i = .int .u64 (k : Int) ∧ a = .int .u64 ((s + Rt.tri (k - 1) : Nat) : Int) ∧ J (Rt.wayTo s m k) wr ∧ wr.cell? ⟨B1, 0, none⟩ = some (.int .i64 log) ∧ wr.cell? ⟨B2, 0, none⟩ = some (.int .u64 (h : Int)))
    (fun _ _ i _ => m - (intOf i).toNat)
  case atStart => exact ⟨0, by omega, rfl, rfl, h0, h1, h2⟩
  case round =>
    obtain ⟨k, hk, rfl, rfl, hj, c1, c2⟩ := hrel
    by_cases hlt : k < m
    · have hsp := sum_pred s k
      have hgd : Rt.gat s m k = (s + Rt.tri k) % m := rfl
      have htk := Rt.tri_le (i := k) (by omega)
      have hglt := Rt.gat_lt (s := s) (n := m) (i := k) (by omega)
      have hwl := Rt.wayTo_len s m k
      obtain ⟨fn, tmps, assign, body, hy, hR0⟩ := hY _ (Rt.gat s m k) wr hj (by omega)
      have hR := hR0.mono (R' := fun e W' => ∃ t, e = .returned (.bool t) ∧ Went B1 B2 J Jx (Rt.wayTo s m k ++ [Rt.gat s m k]) wr t W') (by
        rintro e W' (⟨rfl, a1, a2⟩ | ⟨rfl, a1⟩)
        · exact ⟨true, rfl, .inl ⟨rfl, a1, a2⟩⟩
        · exact ⟨false, rfl, .inr ⟨rfl, a1⟩⟩)
      clear hR0 hj
      have HY := Lib.hid hY; clear hY
      have HJ := Lib.hid hJ; clear hJ
      have Hwl := Lib.hid hwl; clear hwl
      generalize hat : s + Rt.tri (k - 1) = a0 at hsp ⊢
      generalize hbt : s + Rt.tri k = b0 at hsp hgd
      have hb0 : b0 ≤ 144115188076000000 := by omega
      have e1 : IntKind.u64.wrap ((a0 : Int) + (k : Int)) = (b0 : Int) := by rw [u64_wrap_small (by omega) (by omega)]; omega
      have e2 : wrap64 ((b0 : Int).tmod (m : Int)) = ((Rt.gat s m k : Nat) : Int) := by
        rw [Int.tmod_eq_emod_of_nonneg (by omega), wrap64_small (by omega) (by omega), hgd]; omega
      have E1 := Lib.hid e1
      have E2 := Lib.hid e2
      clear e1 e2 hsp hgd hat
      gi_wp2_with fail
      rw [E1.out, E2.out]
      rw [hy]
      refine ⟨fun _ => hn, hR.mono ?_⟩
      rintro e W3 ⟨t, rfl, hw⟩
      rcases hw with ⟨rfl, hj3, hk3⟩ | ⟨rfl, hx3⟩
      all_goals gi_wp2
      · go_roundw
        case rel => exact ⟨k + 1, by omega, by go_num, by rw [← hbt]; rfl, by rw [Rt.wayTo_snoc]; exact hj3, hk3.1 _ c1, hk3.2 _ c2⟩
        case measure => simp [intOf]; omega
      · refine bodyPost_ret (results_none rfl _ _ _) rfl ?_
        exact ⟨⟨_, rfl⟩, .inr ⟨_, by rw [← Rt.wayTo_snoc]; exact Rt.wayTo_pre (by omega), hx3⟩⟩
    · obtain rfl : k = m := by omega
      gi_wp2
      go_end0
      exact ⟨⟨_, rfl⟩, .inl ⟨_, rfl, hj⟩⟩
set_option maxHeartbeats 1000000 in
/-- route.All: both arguments are boxed; the function value holds the boxes. -/
theorem all_call (n : Nat) (h log : Int) (w : World) :
    CallsIn Fence.wide n Tryz.prog 122 #[.int .u64 h, .int .i64 log] w fun e w' => e = .returned (.func (.func 149) #[] #[.pointer (some ⟨w.heap.size + 1, 0, none⟩), .pointer (some ⟨w.heap.size, 0, none⟩)]) ∧ (w.alloc (.cells #[.int .u64 h] 22)).alloc (.cells #[.int .i64 log] 3) = w' := by
  refine callsIn_of_wp Tryz.func122 rfl trivial ?_ rfl
  simp only [Tryz.ntmps122, List.size_toArray, List.length_cons, List.length_nil, Nat.reduceAdd, Nat.reduceSub, Array.replicate_succ, Array.replicate_zero, List.push_toArray, List.append_toArray, List.nil_append, List.cons_append]
  gi_wp2
  go_ret
  exact ⟨rfl, rfl⟩
/-- The iterator's contract. -/
theorem all_stops (n : Nat) (hn : 1 ≤ n) (log : Int) (h : Nat) (hh : h ≤ 18446744073709551615) (B1 B2 : Nat) (w : World) (l1 : B1 < w.heap.size) (l2 : B2 < w.heap.size) (h1 : w.cell? ⟨B1, 0, none⟩ = some (.int .i64 log)) (h2 : w.cell? ⟨B2, 0, none⟩ = some (.int .u64 (h : Int))) :
    SeqStopsK Fence.wide n Tryz.prog 149 #[.pointer (some ⟨B1, 0, none⟩), .pointer (some ⟨B2, 0, none⟩)] (fun k : Nat => #[Value.int .i64 (k : Int)]) (Kp2 B1 B2) (fun ys => ys = Rt.way (h / 128) (Rt.grp log)) (fun pre => pre <+: Rt.way (h / 128) (Rt.grp log)) 512 w := fun l J Jx W hW hJ _ hY h0 =>
  all1_in n l B1 B2 hn log h hh J Jx W hJ hY ((hW.cell (p := ⟨B1, 0, none⟩) l1).trans h1) ((hW.cell (p := ⟨B2, 0, none⟩) l2).trans h2) h0
end Go.Proofs.YtknefjigdlbacaaGreatDoor
namespace Go.Proofs.YtknefjigdlbacaaGreatDoor
open Go.RowKit Go.Shelf
attribute [local go_sem] Oper.semAt_some
/-- What is handed back is a number; what was there lies as it lay. -/
def GivesInt (n : Int) (w : World) (e : Ending) (w' : World) : Prop := e = .returned (.int .i64 n) ∧ Below w.heap.size w w'
set_option maxRecDepth 100000 in
theorem func_nil (f : Nat) (cap : Array Value) (w : World) : (binOp .eql 161 (.func (.func f) #[] cap) .nilFunc).run Tryz.prog w = .ok (.bool false) w := by
  first | kernel_rfl | simp [binOp, go_sem] | rfl
set_option maxRecDepth 100000 in
set_option maxHeartbeats 2000000 in
theorem group_in (n : Nat) (hn : 5 ≤ n) (h : Nat) (hh : h ≤ 18446744073709551615) (log i : Int) (w : World) :
    CallsIn Fence.wide n Tryz.prog 73 #[.int .u64 (h : Int), .int .i64 log, .int .i64 i] w (GivesInt (Rt.gp h log i) w) := by
  have h1 : 1 ≤ n := by omega
  have hf : Fence.wide.fn 122 := trivial
  refine callsIn_of_wp_marks Tryz.func73 rfl trivial ?_ rfl
  simp only [Tryz.ntmps73, List.size_toArray, List.length_cons, List.length_nil, Nat.reduceAdd, Nat.reduceSub, Array.replicate_succ, Array.replicate_zero, List.push_toArray, List.append_toArray, List.nil_append, List.cons_append]
  gi_wp2_with (gi_at_call 122; refine (all_call (n - 1) _ _ _).mono ?_; rintro e w' ⟨rfl, rfl⟩)
  have b0 := Boxed.new w 3 (.int .i64 i)
  have b1 := Boxed.new (w.alloc (.cells #[.int .i64 i] 3)) 3 (.int .i64 0)
  have b2 := Boxed.new ((w.alloc (.cells #[.int .i64 i] 3)).alloc (.cells #[.int .i64 0] 3)) 3 (.int .i64 0)
  have b3 := Boxed.new (((w.alloc (.cells #[.int .i64 i] 3)).alloc (.cells #[.int .i64 0] 3)).alloc (.cells #[.int .i64 0] 3)) 22 (.int .u64 (h : Int))
  have b4 := Boxed.new ((((w.alloc (.cells #[.int .i64 i] 3)).alloc (.cells #[.int .i64 0] 3)).alloc (.cells #[.int .i64 0] 3)).alloc (.cells #[.int .u64 (h : Int)] 22)) 3 (.int .i64 log)
  simp only [World.size_alloc] at b1 b2 b3 b4
  have hB0 : Below w.heap.size w (((((w.alloc (.cells #[.int .i64 i] 3)).alloc (.cells #[.int .i64 0] 3)).alloc (.cells #[.int .i64 0] 3)).alloc (.cells #[.int .u64 (h : Int)] 22)).alloc (.cells #[.int .i64 log] 3)) := (((((Below.refl _ w).alloc (Nat.le_refl _) _).alloc (by simp) _).alloc (by simp; omega) _).alloc (by simp; omega) _).alloc (by simp; omega) _
  refine wpIn_rangeFunc_ownG rfl h1 (gf := 149) (lb := #[.pointer (some ⟨w.heap.size + 1 + 1 + 1 + 1, 0, none⟩), .pointer (some ⟨w.heap.size + 1 + 1 + 1, 0, none⟩)]) rfl trivial (enters_of Tryz.func149 (by kernel_rfl) rfl)
    (all_stops (n - 1) (by omega) log h hh (w.heap.size + 1 + 1 + 1 + 1) (w.heap.size + 1 + 1 + 1) _ (by simp) (by simp) b4.cell (b3.alloc _).cell) Kp2.t (fun W l o o' _ h hc _ => Kp2.b W l o o' h hc) (Below.refl _ _) (fun _ => rfl)
    (fun pre W => (((Boxed W w.heap.size 3 (.int .i64 i) ∧ Boxed W (w.heap.size + 1) 3 (.int .i64 0)) ∧ Boxed W (w.heap.size + 1 + 1) 3 (.int .i64 (pre.length : Int))) ∧ ¬ (0 ≤ i ∧ i < (pre.length : Int))) ∧ Below w.heap.size w W)
    (fun c pre W => (Boxed W (w.heap.size + 1) 3 (.int .i64 ((pre.getLastD 0 : Nat) : Int)) ∧ (c = .ret ∧ (pre.length : Int) = i + 1 ∧ 0 ≤ i)) ∧ Below w.heap.size w W)
    (OwnFrom.and (OwnFrom.and (OwnFrom.and (OwnFrom.and (Own.from (boxed_own _ _ (fun _ : List Nat => .int .i64 i)) _) (Own.from (boxed_own _ _ (fun _ : List Nat => .int .i64 0)) _)) (Own.from (boxed_own _ _ (fun pre : List Nat => .int .i64 (pre.length : Int))) _)) (ownFrom_pure _ (fun pre : List Nat => ¬ (0 ≤ i ∧ i < (pre.length : Int))))) (ownFrom_below (Nat.le_refl _) (by simp; omega)))
    (fun c => OwnFrom.and (OwnFrom.and (Own.from (boxed_own _ _ (fun pre : List Nat => .int .i64 ((pre.getLastD 0 : Nat) : Int))) _) (ownFrom_pure _ (fun pre : List Nat => c = .ret ∧ (pre.length : Int) = i + 1 ∧ 0 ≤ i))) (ownFrom_below (Nat.le_refl _) (by simp; omega)))
    ⟨⟨⟨⟨(((b0.alloc _).alloc _).alloc _).alloc _, ((b1.alloc _).alloc _).alloc _⟩, (b2.alloc _).alloc _⟩, by simp⟩, hB0⟩
    (fun k => { tmps := #[.int .u64 (h : Int), .int .i64 log, .int .i64 i, undef, undef, .pointer (some ⟨w.heap.size, 0, none⟩), .pointer (some ⟨w.heap.size + 1, 0, none⟩), .pointer (some ⟨w.heap.size + 1 + 1, 0, none⟩), .int .i64 (k : Int), .int .u64 (h : Int), .int .i64 log, .func (.func 149) #[] #[.pointer (some ⟨w.heap.size + 1 + 1 + 1 + 1, 0, none⟩), .pointer (some ⟨w.heap.size + 1 + 1 + 1, 0, none⟩)], .int .i64 (k : Int), undef, undef, undef, undef, undef, undef], defers := [] }) ?assign ?body ?done ?stop
  case assign =>
    intro l k W K hK
    gi_wp2
    exact hK
  case body =>
    rintro l pre k W ⟨⟨⟨⟨hv0, hv1⟩, hv2⟩, hno⟩, hB⟩ hlt
    have c0 := hv0.cell
    have c1 := hv1.cell
    have c2 := hv2.cell
    have f1 := hv1.frozen
    have f2 := hv2.frozen
    by_cases he : (pre.length : Int) = i
    · have he' : ((pre.length : Int) == i) = true := by simp [he]
      have He := Lib.hid he; clear he
      gi_wp2
      exact ⟨(KeepsOthers.setCell _ _ _).from _, ⟨by simpa using hv1.set (.int .i64 (k : Int)), rfl, by have := He.out; simp; omega, by have := He.out; omega⟩, hB.setCell (p := ⟨w.heap.size + 1, 0, none⟩) (by simp) _⟩
    · have he' : ((pre.length : Int) == i) = false := by simp [he]
      have He := Lib.hid he; clear he
      gi_wp2
      exact ⟨(KeepsOthers.setCell _ _ _).from _, Kp2.set _ _ (by omega) (by omega), ⟨⟨⟨hv0.other (by omega) _, hv1.other (by omega) _⟩, by have := hv2.set (.int .i64 ((pre.length : Int) + 1)); simpa using this⟩, by have := He.out; simp; omega⟩, hB.setCell (p := ⟨w.heap.size + 1 + 1, 0, none⟩) (by simp; omega) _⟩
  case done =>
    rintro D ys W hD hys ⟨⟨⟨⟨hv0, hv1⟩, hv2⟩, hno⟩, hB⟩ hK
    have hc := hv1.cell
    have hfz := hv1.frozen
    have hend : (-1 : Int) = Rt.gp h log i := (Rt.gp_out (by rw [hys, Rt.way_len] at hno; omega)).symm
    have Hys := Lib.hid hend; clear hend hys
    gi_wp2
    have hK' := (KeepsOthers.setCell W ⟨w.heap.size + 1, 0, none⟩ (.int .i64 (-1))).same D _ hK rfl
    refine ⟨by simp, .inl ⟨_, _, rfl, run_takeDeferred hK', ?_⟩⟩
    have hc5 := cell_kept (hv1.set (.int .i64 (-1))).cell (grownBy_putObj' _ D (.deferred none)) (fun r e => by cases e; exact ⟨_, hK', rfl⟩)
    refine ⟨.int .i64 (-1), ?_, ret_int Hys.out, (hB.setCell (p := ⟨w.heap.size + 1, 0, none⟩) (by simp) _).trans (belowK_b (w := w) (Nat.le_refl _) _ D _ _ (by simp at hD; omega) hK' rfl rfl)⟩
    simp [results, Tryz.f73, go_sem, hc5]
  case stop =>
    rintro D c pre W hD hpre ⟨⟨hv, rfl, hl, hi0⟩, hB⟩ hK
    have hend := Lib.hid (Rt.gp_last hpre hl hi0)
    gi_wp2
    refine ⟨by simp, .inl ⟨_, _, rfl, run_takeDeferred hK, ?_⟩⟩
    have hc5 := cell_kept hv.cell (grownBy_putObj' _ D (.deferred none)) (fun r e => by cases e; exact ⟨_, hK, rfl⟩)
    refine ⟨.int .i64 ((pre.getLastD 0 : Nat) : Int), ?_, ret_int hend.out, hB.trans (belowK_b (w := w) (Nat.le_refl _) W D _ _ (by simp at hD; omega) hK rfl rfl)⟩
    simp [results, Tryz.f73, go_sem, hc5]
/-- route.Group. -/
theorem group_any (h : Nat) (hh : h ≤ 18446744073709551615) (log i : Int) (w : World) : Calls Tryz.prog 73 #[.int .u64 (h : Int), .int .i64 log, .int .i64 i] w (GivesInt (Rt.gp h log i) w) :=
  (callsIn_wide (n := 9)).1 (group_in 9 (by omega) h hh log i w)
end Go.Proofs.YtknefjigdlbacaaGreatDoor
set_option linter.unusedSimpArgs false
set_option linter.unusedVariables false
namespace Go.Proofs.YtknefjigdlbacaaGreatDoor
open Go.RowKit Go.Maps
open Ac (A)
/-- A seek's cells. -/
def kcs (c : Sk.C) (s : Sk.S) (vc vs vr : Value) : Array Value := #[.int .i64 (s.p : Int), .int .u64 (c.d : Int), .int .i64 (c.th : Int), .int .i64 c.nn, .int .i64 c.kp, .int .u64 (c.sd : Int), .int .u64 (c.b : Int), .int .i64 c.lg, .string ⟨c.key.toArray⟩, .int .u64 (c.h : Int), .int .u64 (c.lay : Int), .bool s.chk, .int .i64 (s.n : Int), .int .i64 s.g, .int .i64 (s.i : Int), .int .u64 (s.w : Int), .int .u64 (s.x : Int), vc, vs, vr, .int .i64 (s.f.k : Int), .int .i64 s.f.c, .int .u64 (s.f.w : Int), .string ⟨s.f.v.toArray⟩]
/-- A seek as a block. -/
def Kb (w : World) (q : Nat) (c : Sk.C) (s : Sk.S) (vc vs vr : Value) : Prop := w.heap[q]? = some (.cells (kcs c s vc vs vr) 74 (0, 0))
section
variable {w w' : World} {q : Nat} {c : Sk.C} {s : Sk.S} {vc vs vr : Value}
theorem Kb.lt (h : Kb w q c s vc vs vr) : q < w.heap.size := (Array.getElem?_eq_some_iff.1 h).1
theorem Kb.keep (h : Kb w q c s vc vs vr) (e : w'.heap[q]? = w.heap[q]?) : Kb w' q c s vc vs vr := e.trans h
theorem Kb.below (h : Kb w q c s vc vs vr) (hb : Below w.heap.size w w') : Kb w' q c s vc vs vr := h.keep (hb.block q h.lt)
theorem Kb.fz (h : Kb w q c s vc vs vr) (j : Nat) : w.frozen? ⟨q, j, none⟩ = false := by simp [World.frozen?, show w.heap[q]? = _ from h]
theorem Kb.cell (h : Kb w q c s vc vs vr) (j : Nat) {v : Value} (hv : (kcs c s vc vs vr)[j]? = some v) : w.cell? ⟨q, j, none⟩ = some v := by simp [World.cell?, show w.heap[q]? = _ from h, hv]
theorem Kb.c0 (h : Kb w q c s vc vs vr) : w.cell? ⟨q, 0, none⟩ = some (.int .i64 (s.p : Int)) := h.cell 0 rfl
theorem Kb.c1 (h : Kb w q c s vc vs vr) : w.cell? ⟨q, 1, none⟩ = some (.int .u64 (c.d : Int)) := h.cell 1 rfl
theorem Kb.c2 (h : Kb w q c s vc vs vr) : w.cell? ⟨q, 2, none⟩ = some (.int .i64 (c.th : Int)) := h.cell 2 rfl
theorem Kb.c3 (h : Kb w q c s vc vs vr) : w.cell? ⟨q, 3, none⟩ = some (.int .i64 c.nn) := h.cell 3 rfl
theorem Kb.c4 (h : Kb w q c s vc vs vr) : w.cell? ⟨q, 4, none⟩ = some (.int .i64 c.kp) := h.cell 4 rfl
theorem Kb.c5 (h : Kb w q c s vc vs vr) : w.cell? ⟨q, 5, none⟩ = some (.int .u64 (c.sd : Int)) := h.cell 5 rfl
theorem Kb.c6 (h : Kb w q c s vc vs vr) : w.cell? ⟨q, 6, none⟩ = some (.int .u64 (c.b : Int)) := h.cell 6 rfl
theorem Kb.c7 (h : Kb w q c s vc vs vr) : w.cell? ⟨q, 7, none⟩ = some (.int .i64 c.lg) := h.cell 7 rfl
theorem Kb.c8 (h : Kb w q c s vc vs vr) : w.cell? ⟨q, 8, none⟩ = some (.string ⟨c.key.toArray⟩) := h.cell 8 rfl
theorem Kb.c9 (h : Kb w q c s vc vs vr) : w.cell? ⟨q, 9, none⟩ = some (.int .u64 (c.h : Int)) := h.cell 9 rfl
theorem Kb.c10 (h : Kb w q c s vc vs vr) : w.cell? ⟨q, 10, none⟩ = some (.int .u64 (c.lay : Int)) := h.cell 10 rfl
theorem Kb.c11 (h : Kb w q c s vc vs vr) : w.cell? ⟨q, 11, none⟩ = some (.bool s.chk) := h.cell 11 rfl
theorem Kb.c12 (h : Kb w q c s vc vs vr) : w.cell? ⟨q, 12, none⟩ = some (.int .i64 (s.n : Int)) := h.cell 12 rfl
theorem Kb.c13 (h : Kb w q c s vc vs vr) : w.cell? ⟨q, 13, none⟩ = some (.int .i64 s.g) := h.cell 13 rfl
theorem Kb.c14 (h : Kb w q c s vc vs vr) : w.cell? ⟨q, 14, none⟩ = some (.int .i64 (s.i : Int)) := h.cell 14 rfl
theorem Kb.c15 (h : Kb w q c s vc vs vr) : w.cell? ⟨q, 15, none⟩ = some (.int .u64 (s.w : Int)) := h.cell 15 rfl
theorem Kb.c16 (h : Kb w q c s vc vs vr) : w.cell? ⟨q, 16, none⟩ = some (.int .u64 (s.x : Int)) := h.cell 16 rfl
theorem Kb.c17 (h : Kb w q c s vc vs vr) : w.cell? ⟨q, 17, none⟩ = some (vc) := h.cell 17 rfl
theorem Kb.c18 (h : Kb w q c s vc vs vr) : w.cell? ⟨q, 18, none⟩ = some (vs) := h.cell 18 rfl
theorem Kb.c19 (h : Kb w q c s vc vs vr) : w.cell? ⟨q, 19, none⟩ = some (vr) := h.cell 19 rfl
theorem Kb.c20 (h : Kb w q c s vc vs vr) : w.cell? ⟨q, 20, none⟩ = some (.int .i64 (s.f.k : Int)) := h.cell 20 rfl
theorem Kb.c21 (h : Kb w q c s vc vs vr) : w.cell? ⟨q, 21, none⟩ = some (.int .i64 s.f.c) := h.cell 21 rfl
theorem Kb.c22 (h : Kb w q c s vc vs vr) : w.cell? ⟨q, 22, none⟩ = some (.int .u64 (s.f.w : Int)) := h.cell 22 rfl
theorem Kb.c23 (h : Kb w q c s vc vs vr) : w.cell? ⟨q, 23, none⟩ = some (.string ⟨s.f.v.toArray⟩) := h.cell 23 rfl
/-- A cell anew. -/
theorem Kb.st (h : Kb w q c s vc vs vr) (j : Nat) (v : Value) {s' : Sk.S} {vc' vs' vr' : Value} (e : (kcs c s vc vs vr).setIfInBounds j v = kcs c s' vc' vs' vr') : Kb (w.setCell ⟨q, j, none⟩ v) q c s' vc' vs' vr' := by
  unfold Kb at h ⊢
  rw [heap_setc h _ _]
  first | rw [← e] | (congr 1; rw [← e]; rfl) | (rw [← e]; simp)
end
/-- A found, as a value. -/
abbrev fv (f : Sk.F) : Value := .agg #[.int .i64 (f.k : Int), .int .i64 f.c, .int .u64 (f.w : Int), .string ⟨f.v.toArray⟩]
/-- Only the seek's own cells have changed. -/
def Ends (q : Nat) (c : Sk.C) (s : Sk.S) (vc vs vr : Value) (v : Value) (w : World) (e : Ending) (w' : World) : Prop := e = .returned v ∧ Kb w' q c s vc vs vr ∧ Chg q w w'
set_option maxHeartbeats 1000000 in
theorem kend_any {w : World} {q : Nat} {c : Sk.C} {s : Sk.S} {vc vs vr : Value} (h : Kb w q c s vc vs vr) (k : Nat) (cc : Int) (ww : Nat) (vv : ByteArray) :
    Calls Tryz.prog 74 #[.pointer (some ⟨q, 0, none⟩), .agg #[.int .i64 (k : Int), .int .i64 cc, .int .u64 (ww : Int), .string vv]] w (Ends q c (Sk.fin s ⟨k, cc, ww, vv.data.toList⟩) vc vs vr (.tuple #[]) w) := by
  have HL := Lib.hid h.lt
  have hB : ∀ o, Below w.heap.size w (w.alloc o) := fun o => (Below.refl _ w).alloc (Nat.le_refl _) o
  have HH : Hid (∀ o, Ends q c (Sk.fin s ⟨k, cc, ww, vv.data.toList⟩) vc vs vr (.tuple #[]) w (.returned (.tuple #[])) ((((((w.alloc o).setCell ⟨q, 20, none⟩ (.int .i64 (k : Int))).setCell ⟨q, 21, none⟩ (.int .i64 cc)).setCell ⟨q, 22, none⟩ (.int .u64 (ww : Int))).setCell ⟨q, 23, none⟩ (.string vv)).setCell ⟨q, 0, none⟩ (.int .i64 0))) := Lib.hid (fun o => by
    have h0 := h.below (hB o)
    have h1 := h0.st (s' := { s with f := { s.f with k := k } }) (vc' := vc) (vs' := vs) (vr' := vr) 20 (.int .i64 (k : Int)) rfl
    have h2 := h1.st (s' := { s with f := { s.f with k := k, c := cc } }) (vc' := vc) (vs' := vs) (vr' := vr) 21 (.int .i64 cc) rfl
    have h3 := h2.st (s' := { s with f := { s.f with k := k, c := cc, w := ww } }) (vc' := vc) (vs' := vs) (vr' := vr) 22 (.int .u64 (ww : Int)) rfl
    have h4 := h3.st (s' := { s with f := ⟨k, cc, ww, vv.data.toList⟩ }) (vc' := vc) (vs' := vs) (vr' := vr) 23 (.string vv) (by simp [kcs])
    have h5 := h4.st (s' := Sk.fin s ⟨k, cc, ww, vv.data.toList⟩) (vc' := vc) (vs' := vs) (vr' := vr) 0 (.int .i64 0) rfl
    exact ⟨rfl, h5, ((((((show Chg q w (w.alloc o) from Tn.of_below (hB o)).set 20 _ h0.lt).set 21 _ h1.lt).set 22 _ h2.lt).set 23 _ h3.lt).set 0 _ h4.lt)⟩)
  have f0 : ∀ o, (w.alloc o).frozen? ⟨q, 20, none⟩ = false ∧ (w.alloc o).frozen? ⟨q, 21, none⟩ = false ∧ (w.alloc o).frozen? ⟨q, 22, none⟩ = false ∧ (w.alloc o).frozen? ⟨q, 23, none⟩ = false ∧ (w.alloc o).frozen? ⟨q, 0, none⟩ = false := fun o => ⟨(h.below (hB o)).fz _, (h.below (hB o)).fz _, (h.below (hB o)).fz _, (h.below (hB o)).fz _, (h.below (hB o)).fz _⟩
  have e0 : ∀ o, (w.alloc o).cell? ⟨q, 20, none⟩ = some (.int .i64 (s.f.k : Int)) ∧ (w.alloc o).cell? ⟨q, 21, none⟩ = some (.int .i64 s.f.c) ∧ (w.alloc o).cell? ⟨q, 22, none⟩ = some (.int .u64 (s.f.w : Int)) ∧ (w.alloc o).cell? ⟨q, 23, none⟩ = some (.string ⟨s.f.v.toArray⟩) ∧ (w.alloc o).cell? ⟨q, 0, none⟩ = some (.int .i64 (s.p : Int)) := fun o => ⟨(h.below (hB o)).c20, (h.below (hB o)).c21, (h.below (hB o)).c22, (h.below (hB o)).c23, (h.below (hB o)).c0⟩
  have HF := Lib.hid f0; have HE := Lib.hid e0; clear f0 e0 h hB
  obtain ⟨g1, g2, g3, g4, g5⟩ := HF.out (.cells #[.int .i64 (k : Int), .int .i64 cc, .int .u64 (ww : Int), .string vv] 40)
  obtain ⟨d1, d2, d3, d4, d5⟩ := HE.out (.cells #[.int .i64 (k : Int), .int .i64 cc, .int .u64 (ww : Int), .string vv] 40)
  go_enter Tryz.func74, Tryz.ntmps74
  go_wp2
  refine bodyPost_end (results_none rfl _ _ _) rfl ?_
  exact HH.out _
end Go.Proofs.YtknefjigdlbacaaGreatDoor
